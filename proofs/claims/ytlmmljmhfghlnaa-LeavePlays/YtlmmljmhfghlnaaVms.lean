/- Seats in memory: chairs linked in three rows each, maps of chairs by caller, of rows by name, of cancelled tokens; how all this stays; no conditions. -/
import Derived.Test.YtlmmljmhfghlnaaVth
import Derived.Test.YtlmmljmhfghlnaaRsl
namespace Go.Proofs.Ytlmmljmhfghlnaa
open Go.RowKit Go.Maps Go.ChangeMaps Go.WideMaps
set_option linter.unusedVariables false
set_option linter.unusedSimpArgs false
/-- Names of rows as keys: a kind and a number. -/
abbrev Nm := Int × Int
def OkN (x : Nm) : Prop := W64 x.1 ∧ W64 x.2
def nv (x : Nm) : Value := .agg #[.int .i64 x.1, .int .i64 x.2]
def datN (x : Nm) : DataW Unit := .agg [.lit (.int .i64 x.1), .lit (.int .i64 x.2)]
def nlit (x : Nm) : Lit := (datN x).asKey
theorem cellsN : Try.prog.cellsOf 73 = 2 := by kernel_rfl
theorem shut_name {H : Type} {enc : TypeId × Value → H} {W : World} {base : Nat} {sp : Nat → Bool} {held : Bool} {a b : Int} (wa : W64 a) (wb : W64 b) :
    DataW.Trod enc Try.prog W base sp held 73 (.agg #[.int .i64 a, .int .i64 b]) (.agg [.lit (.int .i64 a), .lit (.int .i64 b)]) [] :=
  Joins.shut_agg2 (y0 := (.lit (.int .i64 a), [])) (y1 := (.lit (.int .i64 b), [])) Try.underlying73 (by kernel_rfl) cellsN ⟨1, by have wa' : (Lit.int .i64 a).wf = true := wa; simp [DataW.trod, Try.underlying3, wa']⟩ ⟨1, by have wb' : (Lit.int .i64 b).wf = true := wb; simp [DataW.trod, Try.underlying3, wb']⟩
theorem wideN : (match Try.prog.underlying 73 with | some (.array _ _) | some (.struct _) => true | _ => false) = true := by kernel_rfl
theorem deepN : Try.prog.keyTypeAt (Try.prog.types.size + 1) 73 = true := by kernel_rfl
theorem formedN (a b : Int) : (Value.agg #[.int .i64 a, .int .i64 b]).formed Try.prog 73 = true := by
  simp [Value.formed, Try.underlying73, cellsN]
set_option maxRecDepth 100000 in
theorem lawN : KeyLaw Try.prog 73 := deep_law_laid (by kernel_rfl) (m := 2) (by omega) (of_decide_eq_true (by kernel_rfl)) (by kernel_rfl) wideN
theorem keyedN : Keyed Try.prog 73 := Keyed.of_law lawN
set_option maxRecDepth 100000 in
theorem keyN {x : Nm} (h : OkN x) : keyOf Try.prog 73 (nv x) = some (nlit x) :=
  (keyOf_asKey (enc := fun _ => ()) (w := default) (base := 0) (sp := fun _ => true) (held := true) deepN wideN (formedN _ _) (shut_name h.1 h.2)).1
theorem nlit_inj {x y : Nm} (hx : OkN x) (hy : OkN y) (e : nlit x = nlit y) : x = y := by
  have h1 := keyN hx
  have h2 := keyN hy
  rw [← e] at h2
  have h3 := lawN.inj h1 h2
  simp only [nv, Value.agg.injEq, Array.mk.injEq, List.cons.injEq, Value.int.injEq, and_true, true_and] at h3
  exact Prod.ext h3.1 h3.2
def KN : KK Try.prog 73 Nm := ⟨OkN, nv, nlit, keyedN, keyN, nlit_inj⟩
/-- A pointer to a chair, or none. -/
def pv (o : Option Nat) : Value := .pointer (o.map (fun q => ⟨q, 0, none⟩))
theorem pv_some (q : Nat) : pv (some q) = PT q := rfl
def sc (x : Se) : List Value := [.int .i64 x.1, .int .i64 x.2.1, .int .i64 x.2.2]
def sv (x : Se) : Value := .agg #[.int .i64 x.1, .int .i64 x.2.1, .int .i64 x.2.2]
theorem sc_len (x : Se) : (sc x).length = 3 := rfl
def chc (x : Se) (a b : Nat → Option Nat) : Array Value := #[.int .i64 x.1, .int .i64 x.2.1, .int .i64 x.2.2, pv (a 0), pv (a 1), pv (a 2), pv (b 0), pv (b 1), pv (b 2)]
def updN (a : Nat → Option Nat) (k : Nat) (v : Option Nat) : Nat → Option Nat := fun j => if j = k then v else a j
theorem chc_a {x : Se} {a b : Nat → Option Nat} {k : Nat} (hk : k < 3) : (chc x a b)[3 + k]? = some (pv (a k)) := by
  match k, hk with
  | 0, _ => rfl
  | 1, _ => rfl
  | 2, _ => rfl
theorem chc_b {x : Se} {a b : Nat → Option Nat} {k : Nat} (hk : k < 3) : (chc x a b)[6 + k]? = some (pv (b k)) := by
  match k, hk with
  | 0, _ => rfl
  | 1, _ => rfl
  | 2, _ => rfl
theorem chc_sa {x : Se} {a b : Nat → Option Nat} {k : Nat} (hk : k < 3) (v : Option Nat) : (chc x a b).setIfInBounds (3 + k) (pv v) = chc x (updN a k v) b := by
  match k, hk with
  | 0, _ => simp [chc, updN]
  | 1, _ => simp [chc, updN]
  | 2, _ => simp [chc, updN]
theorem chc_sb {x : Se} {a b : Nat → Option Nat} {k : Nat} (hk : k < 3) (v : Option Nat) : (chc x a b).setIfInBounds (6 + k) (pv v) = chc x a (updN b k v) := by
  match k, hk with
  | 0, _ => simp [chc, updN]
  | 1, _ => simp [chc, updN]
  | 2, _ => simp [chc, updN]
/-- A chair: its block and its seat. -/
abbrev Chr := Nat × Se
def num (k : Nat) (x : Se) : Int := match k with | 0 => 0 | 1 => x.2.1 | _ => x.2.2
def rowOf (k : Nat) (n : Int) (CH : List Chr) : List Nat := (CH.filter (fun p => decide (num k p.2 = n))).map Prod.fst
def rowC (xs : List Nat) : Array Value := #[pv xs.head?, pv (lastO none xs)]
def rowV (xs : List Nat) : Value := .agg (rowC xs)
def cmap (CH : List Chr) (c : Int) : Option Value := (CH.find? (fun p => decide (p.2.1 = c))).map (fun p => PT p.1)
def rmap (CH : List Chr) (n : Nm) : Option Value := if 0 ≤ n.1 ∧ n.1 < 3 ∧ rowOf n.1.toNat n.2 CH ≠ [] then some (rowV (rowOf n.1.toNat n.2 CH)) else none
def kmap (G : List Int) (t : Int) : Option Value := if t ∈ G then some (.agg #[]) else none
def Ch (w : World) (CH : List Chr) (A B : Nat → Nat → Option Nat) : Prop := ∀ p ∈ CH, w.heap[p.1]? = some (.cells (chc p.2 (fun k => A k p.1) (fun k => B k p.1)) 69 (0, 0))
def Lks (A B : Nat → Nat → Option Nat) (CH : List Chr) : Prop := ∀ k, k < 3 → ∀ n, Lk (A k) (B k) none (rowOf k n CH)
def sbc (mc mr mk : Option Nat) : Array Value := #[.map mc, .map mr, .map mk]
structure Sm (w : World) (s : Nat) (mc mr mk : Option Nat) (nr : Nat) (CH : List Chr) (G : List Int) : Prop where
  hb : w.heap[s]? = some (.cells (sbc mc mr mk) 60 (0, 0))
  cm : (mc = none ∧ mr = none ∧ CH = []) ∨ ∃ b d, mc = some b ∧ mr = some d ∧ b ≠ d ∧ MapK KI w b CH.length (cmap CH) ∧ MapK KN w d nr (rmap CH)
  km : (mk = none ∧ G = []) ∨ ∃ b, mk = some b ∧ MapK KI w b G.length (kmap G)
  kc : ∀ b, mk = some b → mc ≠ some b ∧ mr ≠ some b
  lk : ∃ A B, Ch w CH A B ∧ Lks A B CH
  nb : (CH.map Prod.fst).Nodup
def fpS (s : Nat) (mc mr mk : Option Nat) (CH : List Chr) : List Nat := s :: (mc.toList ++ (mr.toList ++ (mk.toList ++ CH.map Prod.fst)))
theorem mem_fpS {s : Nat} {mc mr mk : Option Nat} {CH : List Chr} {q : Nat} : q ∈ fpS s mc mr mk CH ↔ q = s ∨ mc = some q ∨ mr = some q ∨ mk = some q ∨ q ∈ CH.map Prod.fst := by
  simp only [fpS, List.mem_cons, List.mem_append, Option.mem_toList, Option.mem_def]
/-- Blocks that seats are made of. -/
def Own1 (w : World) (q : Nat) : Prop := (∃ cs z, w.heap[q]? = some (.cells cs 60 z)) ∨ (∃ cs z, w.heap[q]? = some (.cells cs 69 z)) ∨ ∃ es cl, w.heap[q]? = some (.map es cl)
def Sq (w : World) (s : Nat) (F : List Nat) (L : List Se) (G : List Int) (N : Nat) : Prop := ∃ mc mr mk nr CH, F = fpS s mc mr mk CH ∧ L = CH.map Prod.snd ∧ Sm w s mc mr mk nr CH G ∧ Iv L G N ∧ nr ≤ 3 * N
def SqE (w w' : World) (s : Nat) (F : List Nat) (L : List Se) (G : List Int) (N : Nat) : Prop := ∃ F', Sq w' s F' L G N ∧ Touch F w w' ∧ Nf w F F'
section
variable {w w' : World} {s nr : Nat} {mc mr mk : Option Nat} {CH : List Chr} {G : List Int} {F X : List Nat} {L : List Se} {N M : Nat}
theorem Sm.own (h : Sm w s mc mr mk nr CH G) : ∀ q, q ∈ fpS s mc mr mk CH → Own1 w q := fun q hq => by
  rcases mem_fpS.1 hq with e | e | e | e | e
  · subst e; exact Or.inl ⟨_, _, h.hb⟩
  · rcases h.cm with ⟨h1, _⟩ | ⟨b, d, h1, h2, _, h3, h4⟩
    · rw [h1] at e; cases e
    · rw [h1] at e; cases e; exact Or.inr (Or.inr h3.kind)
  · rcases h.cm with ⟨_, h1, _⟩ | ⟨b, d, h1, h2, _, h3, h4⟩
    · rw [h1] at e; cases e
    · rw [h2] at e; cases e; exact Or.inr (Or.inr h4.kind)
  · rcases h.km with ⟨h1, _⟩ | ⟨b, h1, h2⟩
    · rw [h1] at e; cases e
    · rw [h1] at e; cases e; exact Or.inr (Or.inr h2.kind)
  · obtain ⟨p, hp, rfl⟩ := List.mem_map.1 e
    obtain ⟨A, B, h1, _⟩ := h.lk
    exact Or.inr (Or.inl ⟨_, _, h1 p hp⟩)
theorem Own1.lt {q : Nat} (h : Own1 w q) : q < w.heap.size := by
  rcases h with ⟨_, _, h⟩ | ⟨_, _, h⟩ | ⟨_, _, h⟩ <;> exact block_lt h
theorem Own1.ne {q r : Nat} (h : Own1 w q) {cs : Array Value} {t : TypeId} {z : Nat × Nat} (hr : w.heap[r]? = some (.cells cs t z)) (h1 : t ≠ 60) (h2 : t ≠ 69) : q ≠ r := fun e => by
  subst e
  rcases h with ⟨_, _, h⟩ | ⟨_, _, h⟩ | ⟨_, _, h⟩
  · rw [hr] at h; simp only [Option.some.injEq, Obj.cells.injEq] at h; exact h1 h.2.1
  · rw [hr] at h; simp only [Option.some.injEq, Obj.cells.injEq] at h; exact h2 h.2.1
  · rw [hr] at h; cases h
theorem Sm.keep (h : Sm w s mc mr mk nr CH G) (T : Touch X w w') (hX : ∀ q, q ∈ fpS s mc mr mk CH → ¬ q ∈ X) : Sm w' s mc mr mk nr CH G := by
  refine ⟨T.keep h.hb (hX s (mem_fpS.2 (Or.inl rfl))), ?_, ?_, h.kc, ?_, h.nb⟩
  · rcases h.cm with h1 | ⟨b, d, h1, h2, hne, h3, h4⟩
    · exact Or.inl h1
    · exact Or.inr ⟨b, d, h1, h2, hne, h3.keep T (hX b (mem_fpS.2 (Or.inr (Or.inl h1)))), h4.keep T (hX d (mem_fpS.2 (Or.inr (Or.inr (Or.inl h2)))))⟩
  · rcases h.km with h1 | ⟨b, h1, h2⟩
    · exact Or.inl h1
    · exact Or.inr ⟨b, h1, h2.keep T (hX b (mem_fpS.2 (Or.inr (Or.inr (Or.inr (Or.inl h1))))))⟩
  · obtain ⟨A, B, h1, h2⟩ := h.lk
    exact ⟨A, B, fun p hp => T.keep (h1 p hp) (hX p.1 (mem_fpS.2 (Or.inr (Or.inr (Or.inr (Or.inr (List.mem_map.2 ⟨p, hp, rfl⟩))))))), h2⟩
theorem Sm.keep0 (h : Sm w s mc mr mk nr CH G) (T : Touch [] w w') : Sm w' s mc mr mk nr CH G := h.keep T (fun _ _ e => by cases e)
theorem Sq.own (h : Sq w s F L G N) : ∀ q, q ∈ F → Own1 w q := by
  obtain ⟨mc, mr, mk, nr, CH, rfl, rfl, h1, _⟩ := h
  exact h1.own
theorem Sq.lt (h : Sq w s F L G N) : ∀ q, q ∈ F → q < w.heap.size := fun q hq => (h.own q hq).lt
theorem Sq.mem (h : Sq w s F L G N) : s ∈ F := by
  obtain ⟨mc, mr, mk, nr, CH, rfl, rfl, h1, _⟩ := h
  exact mem_fpS.2 (Or.inl rfl)
theorem Sq.slt (h : Sq w s F L G N) : s < w.heap.size := h.lt s h.mem
theorem Sq.keep (h : Sq w s F L G N) (T : Touch X w w') (hX : ∀ q, q ∈ F → ¬ q ∈ X) : Sq w' s F L G N := by
  obtain ⟨mc, mr, mk, nr, CH, rfl, rfl, h1, h2, h3⟩ := h
  exact ⟨mc, mr, mk, nr, CH, rfl, rfl, h1.keep T hX, h2, h3⟩
theorem Sq.keep0 (h : Sq w s F L G N) (T : Touch [] w w') : Sq w' s F L G N := h.keep T (fun _ _ e => by cases e)
theorem Sq.mono (h : Sq w s F L G N) (hm : N ≤ M) : Sq w s F L G M := by
  obtain ⟨mc, mr, mk, nr, CH, rfl, rfl, h1, h2, h3⟩ := h
  exact ⟨mc, mr, mk, nr, CH, rfl, rfl, h1, h2.mono hm, by omega⟩
theorem Sq.iv (h : Sq w s F L G N) : Iv L G N := by
  obtain ⟨mc, mr, mk, nr, CH, rfl, rfl, h1, h2, h3⟩ := h
  exact h2
theorem SqE.same (h : Sq w s F L G N) (hm : N ≤ M) (T : Touch [] w w') : SqE w w' s F L G M := ⟨F, (h.keep0 T).mono hm, T.mono (fun _ e => by cases e), Nf.refl _ _⟩
theorem SqE.mono (h : SqE w w' s F L G N) (hm : N ≤ M) : SqE w w' s F L G M := by
  obtain ⟨F', h1, h2, h3⟩ := h
  exact ⟨F', h1.mono hm, h2, h3⟩
theorem SqE.trans {w2 : World} {F1 : List Nat} (t1 : Touch F w w') (n1 : Nf w F F1) (h2 : SqE w' w2 s F1 L G N) : SqE w w2 s F L G N := by
  obtain ⟨F2, r1, r2, r3⟩ := h2
  exact ⟨F2, r1, t1.trans r2 n1, n1.trans r3 t1.size⟩
theorem SqE.from0 {w2 : World} (t1 : Touch [] w w') (h2 : SqE w' w2 s F L G N) : SqE w w2 s F L G N := SqE.trans (t1.mono (fun _ e => by cases e)) (Nf.refl _ _) h2
theorem SqE.then0 {w2 : World} (h1 : SqE w w' s F L G N) (t2 : Touch [] w' w2) : SqE w w2 s F L G N := by
  obtain ⟨F1, q1, q2, q3⟩ := h1
  exact ⟨F1, q1.keep0 t2, q2.trans t2 (fun _ e => by cases e), q3⟩
/-- A box that the call laid itself is written behind the step. -/
theorem SqE.box {W w1 w2 : World} (t0 : Touch [] w W) (h : SqE W w1 s F L G N) (hF : ∀ d, d ∈ F → d < w.heap.size) {b : Nat} (hb : w.heap.size ≤ b) (hb2 : b < W.heap.size) (T2 : Touch [b] w1 w2) : SqE w w2 s F L G N := by
  obtain ⟨F1, q1, q2, q3⟩ := h
  have hn : ∀ d, d ∈ F1 → ¬ d ∈ [b] := fun d hd e => by
    simp only [List.mem_singleton] at e
    rcases q3 d hd with e' | e'
    · have := hF d e'; omega
    · omega
  have hz := t0.size
  refine ⟨F1, q1.keep T2 hn, ((t0.mono (fun _ e => by cases e)).trans q2 (fun i hi => Or.inl hi)).trans T2 (fun i hi => ?_), fun d hd => ?_⟩
  · simp only [List.mem_singleton] at hi; exact Or.inr (by omega)
  · rcases q3 d hd with e' | e'
    · exact Or.inl e'
    · exact Or.inr (by omega)
/-- What reads as a slice of other things stays. -/
theorem Rs.other {t k n : Nat} {v : Value} {vs : List Value} (h : Rs t k w v n vs) (T : Touch F w w') (hF : ∀ q, q ∈ F → Own1 w q) (h1 : t ≠ 60) (h2 : t ≠ 69) : Rs t k w' v n vs := by
  obtain ⟨e1, a, c, rfl, e2, e3, e4⟩ := h
  refine ⟨e1, a, c, rfl, e2, e3, fun hp => ?_⟩
  obtain ⟨g, off, rfl, cs, z, e5, e6⟩ := e4 hp
  exact ⟨g, off, rfl, cs, z, T.keep e5 (fun e => (hF g e).ne e5 h1 h2 rfl), e6⟩
end
end Go.Proofs.Ytlmmljmhfghlnaa
