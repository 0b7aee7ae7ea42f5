/- What a call may touch, and maps keyed by whole numbers as plain functions; no conditions. -/
import Derived.Test.YtpefbmheblfbeaaGreatProg
import Derived.WalkKit
import Derived.ProofKit
import Derived.BigQuiet
import Derived.BigRegion
import Derived.Maps.Own
import Derived.Maps.OwnOps
import Derived.Maps.OwnSet
import Derived.Maps.Views
import Derived.Carry
import Derived.WalkSpells
import Derived.Lib.SmallJoins
import Derived.Deep.AppendLies
import Derived.Deep.QuietTactic
import Derived.Deep.RegionHeld3
import Derived.Deep.RegionWith
import Derived.Lib.QuietBelow
import Derived.OwnWalk
import Derived.Laws.AppendOwnNone
import Derived.Deep.CutRange
import Derived.Deep.CutBlock
import Derived.Deep.RegionLaw
import Derived.Laws.ResultCell
import Derived.Maps.AppendAt
import Derived.Laws.Bits64b
import Derived.Laws.IdiomStrings
import Derived.Lib.UnsafeStr
import Derived.RowKit
import Derived.WalkLawsBesides
import Derived.Shelf.Strconv.Clone
import Derived.Shelf.SlSortCmp.QuietGrown
import Derived.Shelf.Strings.BuilderK
import Derived.DeepKeys4
import Derived.MapViews
import Derived.Maps.Range
import Derived.WideKeyEntry
import Derived.OpenShut
import Derived.ShutString
import Derived.OrdersHeld
import Derived.StillTail
import Derived.Deep.RegionHeld
namespace Go.Proofs.YtpefbmheblfbeaaGreat
open Go.RowKit Go.Maps Go.ChangeMaps
set_option linter.unusedVariables false
theorem hid {p : Prop} (h : p) : Hid p := h
structure Touch (F : List Nat) (w w' : World) : Prop where
  os : w'.os = w.os
  tape : w'.tape = w.tape
  output : w'.output = w.output
  size : w.heap.size ≤ w'.heap.size
  block : ∀ k, k < w.heap.size → ¬ k ∈ F → w'.heap[k]? = w.heap[k]?
theorem Touch.refl (F : List Nat) (w : World) : Touch F w w := ⟨rfl, rfl, rfl, Nat.le_refl _, fun _ _ _ => rfl⟩
theorem Touch.mono {F G : List Nat} {w w' : World} (h : Touch F w w') (hs : ∀ k, k ∈ F → k ∈ G) : Touch G w w' := ⟨h.os, h.tape, h.output, h.size, fun k hk hn => h.block k hk (fun e => hn (hs k e))⟩
theorem Touch.trans {F G : List Nat} {a b c : World} (h : Touch F a b) (k : Touch G b c) (hs : ∀ i, i ∈ G → i ∈ F ∨ a.heap.size ≤ i) : Touch F a c :=
  ⟨k.os.trans h.os, k.tape.trans h.tape, k.output.trans h.output, Nat.le_trans h.size k.size, fun i hi hn =>
    (k.block i (Nat.lt_of_lt_of_le hi h.size) (fun e => (hs i e).elim hn (fun e' => by omega))).trans (h.block i hi hn)⟩
theorem Touch.trans' {F : List Nat} {a b c : World} (h : Touch F a b) (k : Touch F b c) : Touch F a c := h.trans k (fun _ e => Or.inl e)
theorem Touch.alloc {F : List Nat} {a b : World} (h : Touch F a b) (o : Obj) : Touch F a (b.alloc o) :=
  h.trans' ⟨rfl, rfl, rfl, by simp, fun k hk _ => Below.heap_alloc _ _ _ hk⟩
theorem Touch.setCell {F : List Nat} {a b : World} (h : Touch F a b) {p : Addr} (hp : p.block ∈ F ∨ a.heap.size ≤ p.block) (v : Value) : Touch F a (b.setCell p v) :=
  h.trans (G := [p.block]) ⟨rfl, rfl, rfl, by simp [World.setCell], fun k hk hn => Below.heap_setCell _ _ _ _ (by simpa using hn)⟩ (fun i hi => by simp only [List.mem_singleton] at hi; subst hi; exact hp)
theorem Touch.grown {F : List Nat} {a b c : World} {row : Option Nat} (h : Touch F a b) (hg : b.grownBy c row) (hr : ∀ k, row = some k → k ∈ F ∨ a.heap.size ≤ k) : Touch F a c :=
  ⟨hg.os.trans h.os, hg.tape.trans h.tape, hg.output.trans h.output, Nat.le_trans h.size hg.size, fun i hi hn => (hg.block i (Nat.lt_of_lt_of_le hi h.size) (fun e => (hr i e.symm).elim hn (fun e' => by omega))).trans (h.block i hi hn)⟩
theorem Touch.drewN {F : List Nat} {a b : World} (h : Touch F a b) (n : Nat) : Touch F a (b.drewN n) := ⟨h.os, h.tape, h.output, h.size, h.block⟩
theorem Touch.drew {F : List Nat} {a b : World} (h : Touch F a b) : Touch F a b.drew := ⟨h.os, h.tape, h.output, h.size, h.block⟩
theorem Touch.below {a b : World} {B : Nat} {F : List Nat} (h : Touch F a b) (hF : ∀ k, k ∈ F → B ≤ k) (hB : B ≤ a.heap.size) : Below B a b :=
  ⟨h.os, h.tape, h.output, h.size, fun k hk => h.block k (by omega) (fun e => by have := hF k e; omega)⟩
theorem Touch.of_below {a b : World} (h : Below a.heap.size a b) : Touch [] a b := ⟨h.os, h.tape, h.output, h.size, fun k hk _ => h.block k hk⟩
theorem block_lt {w : World} {b : Nat} {o : Obj} (h : w.heap[b]? = some o) : b < w.heap.size := (Array.getElem?_eq_some_iff.1 h).1
theorem Touch.keep {F : List Nat} {a b : World} (h : Touch F a b) {k : Nat} {o : Obj} (hk : a.heap[k]? = some o) (hn : ¬ k ∈ F) : b.heap[k]? = some o := (h.block k (block_lt hk) hn).trans hk
def W64 (k : Int) : Prop := (Lit.int .i64 k).wf = true
theorem W64.hi {k : Int} (h : W64 k) : k ≤ 9223372036854775807 := by
  simp [W64, Lit.wf, IntKind.min, IntKind.max, IntKind.bits, IntKind.signed] at h; omega
def HR (v : Value) : Option (DataW Value × List MemPlace) := some (.held v, [])
theorem setBlock_other (w : World) (b : Nat) (o : Obj) {k : Nat} (h : k ≠ b) : (setBlock w b o).heap[k]? = w.heap[k]? := by
  simp only [setBlock, Array.getElem?_setIfInBounds]
  rw [if_neg (fun e => h e.symm)]
theorem touch_setBlock {F : List Nat} {a w : World} (h : Touch F a w) {b : Nat} (hb : b ∈ F ∨ a.heap.size ≤ b) (o : Obj) : Touch F a (setBlock w b o) :=
  h.trans (G := [b]) ⟨rfl, rfl, rfl, by simp [setBlock], fun k hk hn => setBlock_other _ _ _ (by simpa using hn)⟩ (fun i hi => by simp only [List.mem_singleton] at hi; subst hi; exact hb)
theorem cell_setBlock {w : World} {b : Nat} (o : Obj) {a : Addr} (h : a.block ≠ b) : (setBlock w b o).cell? a = w.cell? a := by simp [World.cell?, setBlock_other w b o h]
end Go.Proofs.YtpefbmheblfbeaaGreat
/- Rows that a call owns: reading and writing a cell; what a step may add to a footprint. -/
namespace Go.Proofs.YtpefbmheblfbeaaGreat
open Go.RowKit Go.Maps Go.ChangeMaps
set_option linter.unusedVariables false
theorem own_block {w : World} {base e g c n k : Nat} {xs : List Value} (h : w.ownsRow base e k (.slice (some ⟨g, 0, none⟩) n c) n xs) :
    ∃ cur, w.heap[g]? = some (.cells cur e (0, 0)) ∧ n ≤ c ∧ c ≤ maxLen ∧ cur.size = c * k ∧ cur.toList.take (n * k) = xs ∧ base ≤ g ∧ xs.length = n * k := by
  obtain ⟨h1, h2 | ⟨g', cap', cur, hv, hg, hc, hn, hm, hs, ht⟩⟩ := h
  · cases h2.1
  · simp only [Value.slice.injEq, Option.some.injEq, Addr.mk.injEq, and_true, true_and] at hv
    obtain ⟨rfl, rfl⟩ := hv
    exact ⟨cur, hc, hn, hm, hs, ht, hg, h1⟩
theorem own_cell {w : World} {base e g c n k : Nat} {xs : List Value} (h : w.ownsRow base e k (.slice (some ⟨g, 0, none⟩) n c) n xs) {p : Nat} {v : Value} (hp : xs[p]? = some v) :
    w.cell? ⟨g, p, none⟩ = some v := by
  obtain ⟨cur, hc, hn, hm, hs, ht, hg, hl⟩ := own_block h
  have hp' : p < xs.length := (List.getElem?_eq_some_iff.1 hp).1
  have : cur[p]? = some v := by
    rw [← Array.getElem?_toList, ← hp, ← ht, List.getElem?_take, if_pos (by omega)]
  simp [World.cell?, hc, this]
theorem own_keep {w w' : World} {base e n k : Nat} {v : Value} {xs : List Value} (h : w.ownsRow base e k v n xs) (hk : ∀ b, v.ownBlock = some b → w'.heap[b]? = w.heap[b]?) : w'.ownsRow base e k v n xs := by
  obtain ⟨h1, h2 | ⟨g, cap, cur, rfl, hg, hc, r⟩⟩ := h
  · exact ⟨h1, Or.inl h2⟩
  · exact ⟨h1, Or.inr ⟨g, cap, cur, rfl, hg, (hk g rfl).trans hc, r⟩⟩
theorem own_touch {F : List Nat} {w w' : World} {base e n k : Nat} {v : Value} {xs : List Value} (h : w.ownsRow base e k v n xs) (ht : Touch F w w') (hk : ∀ b, v.ownBlock = some b → ¬ b ∈ F) : w'.ownsRow base e k v n xs :=
  own_keep h (fun b hb => ht.block b (h.lt b hb).2 (hk b hb))
theorem own_form {w : World} {base e n k : Nat} {v : Value} {xs : List Value} (h : w.ownsRow base e k v n xs) : ∃ p c, v = .slice p n c := by
  rcases h.2 with ⟨rfl, rfl⟩ | ⟨g, cap, cur, rfl, _⟩
  · exact ⟨_, _, rfl⟩
  · exact ⟨_, _, rfl⟩
def PT (q : Nat) : Value := .pointer (some ⟨q, 0, none⟩)
def Nf (w : World) (F G : List Nat) : Prop := ∀ k, k ∈ G → k ∈ F ∨ w.heap.size ≤ k
theorem Nf.refl (w : World) (F : List Nat) : Nf w F F := fun _ h => Or.inl h
theorem Nf.trans {w w1 : World} {F G H : List Nat} (h : Nf w F G) (k : Nf w1 G H) (hz : w.heap.size ≤ w1.heap.size) : Nf w F H := fun i hi => by
  rcases k i hi with e | e
  · exact h i e
  · exact Or.inr (Nat.le_trans hz e)
theorem own_base {w : World} {B B' e k n : Nat} {v : Value} {xs : List Value} (h : w.ownsRow B e k v n xs) (hb : B' ≤ B) : w.ownsRow B' e k v n xs := by
  obtain ⟨h1, h2 | ⟨g', c', cur, e', hg, r⟩⟩ := h
  · exact ⟨h1, Or.inl h2⟩
  · exact ⟨h1, Or.inr ⟨g', c', cur, e', Nat.le_trans hb hg, r⟩⟩
theorem own_some {w : World} {base e n k : Nat} {v : Value} {xs : List Value} (h : w.ownsRow base e k v n xs) (hn : 0 < n) : ∃ b c, v = .slice (some ⟨b, 0, none⟩) n c ∧ base ≤ b ∧ b < w.heap.size := by
  rcases h.2 with ⟨_, e0⟩ | ⟨g, cap, cur, rfl, hg, hc, _⟩
  · omega
  · exact ⟨g, cap, rfl, hg, block_lt hc⟩
theorem bset {w : World} {g i : Nat} {cs : Array Value} {t : TypeId} {fr : Nat × Nat} (h : w.heap[g]? = some (.cells cs t fr)) (v : Value) : (w.setCell ⟨g, i, none⟩ v).heap[g]? = some (.cells (cs.setIfInBounds i v) t fr) := by
  simp [World.setCell, Array.getElem?_modify, h]
theorem cell_at {w : World} {g j : Nat} {c : Array Value} {t : TypeId} {fr : Nat × Nat} {v : Value} (hb : w.heap[g]? = some (.cells c t fr)) (h : c[j]? = some v) : w.cell? ⟨g, j, none⟩ = some v := by simp [World.cell?, hb, h]
theorem froz_at {w : World} {g : Nat} {c : Array Value} {t : TypeId} (hb : w.heap[g]? = some (.cells c t (0, 0))) (j : Nat) : w.frozen? ⟨g, j, none⟩ = false := by simp [World.frozen?, hb]
end Go.Proofs.YtpefbmheblfbeaaGreat
/- Rows of structs that a call owns, as flat lists of cells; slices laid behind them; no conditions. -/
namespace Go.Proofs.YtpefbmheblfbeaaGreat
open Go.RowKit Go.Maps Go.ChangeMaps
set_option linter.unusedVariables false
set_option linter.unusedSimpArgs false
section
variable {X : Type} {f : X → List Value} {k : Nat}
theorem flat_at (hf : ∀ x, (f x).length = k) : ∀ (xs : List X) (i j : Nat) (x : X), xs[i]? = some x → j < k → (xs.flatMap f)[i * k + j]? = (f x)[j]?
  | [], i, j, x, h, hj => by simp at h
  | a :: r, 0, j, x, h, hj => by
    simp at h
    subst h
    rw [List.flatMap_cons, List.getElem?_append_left (by rw [hf]; omega)]
    simp
  | a :: r, i + 1, j, x, h, hj => by
    simp at h
    rw [List.flatMap_cons, List.getElem?_append_right (by rw [hf, Nat.succ_mul]; omega), hf]
    rw [show (i + 1) * k + j - k = i * k + j by rw [Nat.succ_mul]; omega]
    exact flat_at hf r i j x h hj
end
def Rs (t k : Nat) (w : World) (v : Value) (n : Nat) (vs : List Value) : Prop := vs.length = n * k ∧ ∃ a c, v = .slice a n c ∧ n ≤ c ∧ (a = none → c = 0) ∧ (0 < n → ∃ g off, a = some ⟨g, off, none⟩ ∧ ∃ cs z, w.heap[g]? = some (.cells cs t z) ∧ ∀ j u, vs[j]? = some u → cs[off + j]? = some u)
section
variable {t k n : Nat} {w w' : World} {v : Value} {vs : List Value} {B : Nat}
theorem Rs.of_own (h : w.ownsRow B t k v n vs) : Rs t k w v n vs := by
  rcases h with ⟨h1, ⟨e1, e2⟩ | ⟨g, cap, cur, rfl, hg, hc, hn, hm, hs, ht⟩⟩
  · subst e2
    exact ⟨h1, none, 0, e1, Nat.le_refl _, fun _ => rfl, fun h => absurd h (Nat.lt_irrefl 0)⟩
  · refine ⟨h1, _, cap, rfl, hn, fun e => (by cases e), fun _ => ⟨g, 0, rfl, cur, _, hc, fun j u hu => ?_⟩⟩
    have hj := (List.getElem?_eq_some_iff.1 hu).1
    rw [Nat.zero_add, ← Array.getElem?_toList, ← hu, ← ht, List.getElem?_take, if_pos (by omega)]
theorem Rs.keep {F : List Nat} (h : Rs t k w v n vs) (T : Touch F w w') (hF : ∀ g off n c, v = .slice (some ⟨g, off, none⟩) n c → ¬ g ∈ F) : Rs t k w' v n vs := by
  obtain ⟨h1, a, c, rfl, h2, h3, h4⟩ := h
  refine ⟨h1, a, c, rfl, h2, h3, fun hp => ?_⟩
  obtain ⟨g, off, rfl, cs, z, h5, h6⟩ := h4 hp
  exact ⟨g, off, rfl, cs, z, T.keep h5 (hF g off n c rfl), h6⟩
theorem Rs.keep0 (h : Rs t k w v n vs) (T : Touch [] w w') : Rs t k w' v n vs := h.keep T (fun _ _ _ _ _ e => by cases e)
theorem Rs.form (h : Rs t k w v n vs) : ∃ a c, v = .slice a n c ∧ n ≤ c := by
  obtain ⟨h1, a, c, e, h2, _⟩ := h
  exact ⟨a, c, e, h2⟩
theorem Rs.cell {a : Option Addr} {c j : Nat} {u : Value} (h : Rs t k w (.slice a n c) n vs) (hu : vs[j]? = some u) (hn : 0 < n) : ∃ g off, a = some ⟨g, off, none⟩ ∧ w.cell? ⟨g, off + j, none⟩ = some u := by
  obtain ⟨h1, a', c', e, h2, h3, h4⟩ := h
  cases e
  obtain ⟨g, off, rfl, cs, z, h5, h6⟩ := h4 hn
  exact ⟨g, off, rfl, by simp [World.cell?, h5, h6 j u hu]⟩
end
section
variable {w : World} {ops : Array Oper} {rest : List Oper} {o : Oper} {a : Act} {Q : Exit → Act → World → Prop}
theorem wpList_append_rs (hgd : o.guard = none) (s x : Operand) (st et : TypeId) (ho : o.op = .call { callee := .builtin .append, args := #[s, x], argTypes := #[st, st] })
    (z : Value) (k bytes : Nat) (hinfo : (Tryz.prog.info? et).map (fun i => (i.zero, i.size, i.bytes)) = some (some z, k, bytes)) (ht : Tryz.prog.underlying st = some (.slice et)) (hzs : z.cells.size = k) (hk : 0 < k)
    (base : Nat) (v : Value) (n : Nat) (xs : List Value) (hs : a.eval s = v) (hown : w.ownsRow base et k v n xs)
    (u : Value) (m : Nat) (vs : List Value) (hx : a.eval x = u) (hu : Rs et k w u m vs) (h1 : ∀ y ∈ vs, y.oneCell' = true) (h63 : n + m ≤ maxLen) (hbytes : (n + m) * bytes ≤ 140737488355328) (hbase : base ≤ w.heap.size)
    (h : ∀ v' w', w'.ownsRow base et k v' (n + m) (xs ++ vs) → w.grownBy w' v.ownBlock → (v'.ownBlock = v.ownBlock ∨ v'.ownBlock = some w.heap.size) → wpList Tryz.prog ops Q rest (a.put o.dst v') w') : wpList Tryz.prog ops Q (o :: rest) a w := by
  obtain ⟨i3, hf, hz0, hz1, hz2⟩ := info_parts hinfo
  obtain ⟨hl, ad, c, rfl, hc, hn0, hr⟩ := hu
  cases ad with
  | none =>
    have e0 := hn0 rfl
    subst e0
    have em : m = 0 := by omega
    subst em
    have ev : vs = [] := List.length_eq_zero_iff.1 (by omega)
    subst ev
    refine wpList_append_own_none hgd s x st ho base et i3 k ht hf v n xs hs hown hx ?_
    exact h v w (by simpa using hown) (World.grownBy.refl _ _) (Or.inl rfl)
  | some ad =>
    refine wpList_append_own_at w hgd s x st ho base et i3 z k bytes ht hf hz0 hz1 hz2 hzs hk v n xs hs hown ad m c vs hx hl (fun j y hy => ?_) h1 h63 hbytes hbase (fun v' w' q1 q2 q3 q4 => h v' w' q1 q2 q4)
    have hm : 0 < m := by
      rcases Nat.eq_zero_or_pos m with e | e
      · subst e
        have : vs = [] := List.length_eq_zero_iff.1 (by omega)
        subst this
        simp at hy
      · exact e
    obtain ⟨g, off, e, cs, zz, h5, h6⟩ := hr hm
    cases e
    rw [show (⟨g, off, none⟩ : Addr).add j = ⟨g, off + j, none⟩ by simp [Addr.add]]
    simp [World.cell?, h5, h6 j y hy]
end
theorem touch_grown {w0 w w' : World} {v : Value} {B e k n : Nat} {xs : List Value} (t : Touch [] w0 w) (g : w.grownBy w' v.ownBlock) (h : w.ownsRow B e k v n xs) (hB : w0.heap.size ≤ B) : Touch [] w0 w' :=
  t.trans ((Touch.refl v.ownBlock.toList w).grown g (fun q hq => Or.inl (by simp [hq]))) (fun q hq => Or.inr (Nat.le_trans hB (h.lt q (by simpa using hq)).1))
theorem Rs.new (w : World) (cs : Array Value) (t k : Nat) (hs : cs.size = k) : Rs t k (w.alloc (.cells cs t)) (.slice (some ⟨w.heap.size, 0, none⟩) 1 1) 1 cs.toList := by
  refine ⟨by simp [hs], _, _, rfl, Nat.le_refl _, fun e => (by cases e), fun _ => ⟨_, 0, rfl, cs, _, heap_alloc_new w _, fun j u hu => ?_⟩⟩
  rw [Nat.zero_add, ← Array.getElem?_toList]
  exact hu
end Go.Proofs.YtpefbmheblfbeaaGreat
/- Numbers in bytes, plain: a number's bytes, and the number that stands at a place; no program. -/
namespace Go.Proofs.YtpefbmheblfbeaaGreat.Sn
set_option linter.unusedVariables false
def numF : Nat → Nat → List UInt8
  | 0, x => [UInt8.ofNat x]
  | f + 1, x => if 128 ≤ x then UInt8.ofNat (x % 128 + 128) :: numF f (x / 128) else [UInt8.ofNat x]
theorem numF_any : ∀ (f g x : Nat), x ≤ f → x ≤ g → numF f x = numF g x
  | 0, 0, x, _, _ => rfl
  | 0, g + 1, x, h, _ => by rw [numF, numF, if_neg (by omega)]
  | f + 1, 0, x, _, h => by rw [numF, numF, if_neg (by omega)]
  | f + 1, g + 1, x, h1, h2 => by
    rw [numF, numF]
    by_cases h : 128 ≤ x
    · rw [if_pos h, if_pos h, numF_any f g (x / 128) (by omega) (by omega)]
    · rw [if_neg h, if_neg h]
def numL (x : Nat) : List UInt8 := numF x x
theorem numL_go {x : Nat} (h : 128 ≤ x) : numL x = UInt8.ofNat (x % 128 + 128) :: numL (x / 128) := by
  unfold numL
  obtain ⟨f, rfl⟩ : ∃ f, x = f + 1 := ⟨x - 1, by omega⟩
  rw [numF, if_pos h, numF_any f ((f + 1) / 128) ((f + 1) / 128) (by omega) (by omega)]
theorem numL_end {x : Nat} (h : ¬ 128 ≤ x) : numL x = [UInt8.ofNat x] := by
  unfold numL
  cases x with
  | zero => rfl
  | succ f => rw [numF, if_neg h]
def lastB (b i : Nat) : Bool := if i = 9 then decide (b = 1) else decide (0 < b) || decide (i = 0)
def takeG : List UInt8 → Nat → Nat → Option (Nat × Nat)
  | [], _, _ => none
  | b :: l, i, x => if 10 ≤ i then none else if b.toNat < 128 then (if lastB b.toNat i then some (x + b.toNat * 128 ^ i, i + 1) else none) else takeG l (i + 1) (x + b.toNat % 128 * 128 ^ i)
def takeN (l : List UInt8) : Option (Nat × Nat) := takeG l 0 0
theorem takeG_ten (l : List UInt8) (x : Nat) : takeG l 10 x = none := by
  cases l <;> simp [takeG]
theorem takeG_nil (i x : Nat) : takeG [] i x = none := rfl
theorem takeG_last {b : UInt8} {l : List UInt8} {i x : Nat} (hi : i < 10) (hb : b.toNat < 128) : takeG (b :: l) i x = if lastB b.toNat i then some (x + b.toNat * 128 ^ i, i + 1) else none := by
  rw [takeG, if_neg (by omega), if_pos hb]
theorem takeG_more {b : UInt8} {l : List UInt8} {i x : Nat} (hi : i < 10) (hb : ¬ b.toNat < 128) : takeG (b :: l) i x = takeG l (i + 1) (x + b.toNat % 128 * 128 ^ i) := by
  rw [takeG, if_neg (by omega), if_neg hb]
theorem drop_cons (s : ByteArray) (k : Nat) (h : k < s.size) : s.data.toList.drop k = s[k] :: s.data.toList.drop (k + 1) := by
  rw [List.drop_eq_getElem_cons (by simpa using h)]; rfl
def takeAt (s : ByteArray) (at_ : Int) : Option (Nat × Nat) := if at_ < 0 then none else takeN (s.data.toList.drop at_.toNat)
def takeV (at_ : Int) : Option (Nat × Nat) → Value
  | some (x, n) => .tuple #[.int .u64 x, .int .i64 (at_ + n), .bool true]
  | none => .tuple #[.int .u64 0, .int .i64 0, .bool false]
def sgn (n : Int) : Int := if n < 0 then -2 * n - 1 else 2 * n
def uns (x : Int) : Int := if x % 2 = 1 then - (x / 2) - 1 else x / 2
end Go.Proofs.YtpefbmheblfbeaaGreat.Sn
/- The contracts of Sign and Unsign, the program's and the document's; the numbers are of 64 bits. -/
namespace Go.Proofs.YtpefbmheblfbeaaGreat.Sn
open Go.RowKit Go.Sort
set_option linter.unusedVariables false
theorem ofInt_max : BitVec.ofInt 64 18446744073709551615 = BitVec.allOnes 64 := by decide
theorem ofInt_one : BitVec.ofInt 64 (-1) = BitVec.allOnes 64 := by decide
theorem not_u64 (y : Int) (h0 : 0 ≤ y) (h1 : y < 18446744073709551616) : bits .xor .u64 IntKind.u64.max y = 18446744073709551615 - y := by
  show IntKind.u64.wrap ((BitVec.ofInt 64 18446744073709551615 ^^^ BitVec.ofInt 64 y).toNat : Int) = _
  rw [ofInt_max, BitVec.allOnes_xor, BitVec.toNat_not, BitVec.toNat_ofInt, IntKind.wrap_u64]
  omega
theorem not_i64 (y : Int) (h0 : 0 ≤ y) (h1 : y < 9223372036854775808) : bits .xor .i64 (-1) y = - y - 1 := by
  show IntKind.i64.wrap ((BitVec.ofInt 64 (-1) ^^^ BitVec.ofInt 64 y).toNat : Int) = _
  rw [ofInt_one, BitVec.allOnes_xor, BitVec.toNat_not, BitVec.toNat_ofInt, IntKind.wrap_i64]
  omega
theorem ret_int {k : IntKind} {a b : Int} (h : a = b) : Ending.returned (.int k a) = .returned (.int k b) := by rw [h]
theorem sign_ (w : World) (n : Int) (h0 : -9223372036854775808 ≤ n) (h1 : n ≤ 9223372036854775807) : Calls Tryz.prog 30 #[.int .i64 n] w fun e w' => e = .returned (.int .u64 (sgn n)) ∧ w' = w := by
  unfold sgn
  by_cases h : n < 0
  · go_enter Tryz.func30, Tryz.ntmps30
    go_wp2
    have e1 : IntKind.u64.wrap (IntKind.u64.wrap n * 2) = 18446744073709551616 + 2 * n := by rw [IntKind.wrap_u64, IntKind.wrap_u64]; omega
    rw [e1, not_u64 _ (by omega) (by omega)]
    go_ret
    exact ⟨ret_int (by omega), rfl⟩
  · go_enter Tryz.func30, Tryz.ntmps30
    go_wp2
    go_ret
    exact ⟨ret_int (by omega), rfl⟩
theorem unsign_ (w : World) (x : Int) (h0 : 0 ≤ x) (h1 : x < 18446744073709551616) : Calls Tryz.prog 146 #[.int .u64 x] w fun e w' => e = .returned (.int .i64 (uns x)) ∧ w' = w := by
  unfold uns
  by_cases h : x % 2 = 1
  · go_enter Tryz.func146, Tryz.ntmps146
    go_wp2
    rw [not_i64 _ (by omega) (by omega)]
    go_ret
    exact ⟨ret_int (by omega), rfl⟩
  · go_enter Tryz.func146, Tryz.ntmps146
    go_wp2
    go_ret
    exact ⟨ret_int (by omega), rfl⟩
end Go.Proofs.YtpefbmheblfbeaaGreat.Sn
/- The contracts of Number, the program's and the document's: a number's bytes; the number is of 64 bits. -/
namespace Go.Proofs.YtpefbmheblfbeaaGreat.Sn
open Go.RowKit Go.Sort
set_option linter.unusedVariables false
set_option maxRecDepth 20000
theorem numL_len (n : Nat) : ∀ x, x < 128 ^ (n + 1) → (numL x).length ≤ n + 1 := by
  induction n with
  | zero => intro x hx; rw [numL_end (by omega)]; simp
  | succ n ih =>
    intro x hx
    by_cases h : 128 ≤ x
    · rw [numL_go h, List.length_cons]
      have := ih (x / 128) (by rw [Nat.div_lt_iff_lt_mul (by omega)]; rw [Nat.pow_succ] at hx; exact hx)
      omega
    · rw [numL_end h]; simp
theorem numL_10 {x : Nat} (h : x < 18446744073709551616) : (numL x).length ≤ 10 := numL_len 9 x (by omega)
theorem infoB : (Tryz.prog.info? 5).map (fun i => (i.zero, i.size, i.bytes)) = some (some (.int .u8 0), 1, 1) := by kernel_rfl
theorem own_addr {w : World} {base e k n c : Nat} {a : Option Addr} {xs : List Value} (h : w.ownsRow base e k (.slice a n c) n xs) (hn : 0 < n) : ∃ g, a = some ⟨g, 0, none⟩ := by
  rcases h with ⟨h1, ⟨e1, e2⟩ | ⟨g, cap, cur, e, _⟩⟩
  · omega
  · cases e; exact ⟨g, rfl⟩
theorem conv_own {w : World} {base n c : Nat} {a : Option Addr} {l : List UInt8} (h : w.ownsRow base 5 1 (.slice a n c) n (Lib.byteCells l)) (hn : 0 < n) : (convert 91 9 (.slice a n c)).run Tryz.prog w = .ok (.string ⟨l.toArray⟩) w := by
  obtain ⟨g, rfl⟩ := own_addr h hn
  have hl : l.length = n := by have := h.1; rw [Lib.byteCells_length] at this; omega
  subst hl
  refine run_convert_bytes_back w 91 9 5 ⟨g, 0, none⟩ c l Tryz.underlying91 Tryz.underlying5 Tryz.underlying9 fun j hj => ?_
  rw [show (⟨g, 0, none⟩ : Addr).add j = ⟨g, j, none⟩ by simp [Addr.add]; exact fun h => h.symm]
  exact own_cell h (by unfold Lib.byteCells; rw [List.getElem?_map, List.getElem?_eq_getElem hj]; rfl)
theorem or128 (y : Nat) : bits .or .u8 ((y : Int) % 256) 128 = ((UInt8.ofNat (y % 128 + 128)).toNat : Int) := by
  have h0 : (y : Int) % 256 = ((y % 256 : Nat) : Int) := by omega
  have h1 : (BitVec.ofInt 8 ((y % 256 : Nat) : Int)).toNat = y % 256 := by
    rw [BitVec.ofInt_natCast, BitVec.toNat_ofNat]; exact Nat.mod_eq_of_lt (by omega)
  have h2 : (BitVec.ofInt 8 128).toNat = 128 := by decide
  have key : ∀ z : Fin 256, z.val ||| 128 = z.val % 128 + 128 := by decide +kernel
  have h3 : (y % 256) ||| 128 = y % 128 + 128 := by
    have := key ⟨y % 256, by omega⟩
    simp only at this
    rw [this]; omega
  rw [h0]
  show IntKind.u8.wrap ((BitVec.ofInt 8 ((y % 256 : Nat) : Int) ||| BitVec.ofInt 8 128).toNat : Int) = _
  rw [BitVec.toNat_or, h1, h2, h3, IntKind.wrap_u8, UInt8.toNat_ofNat']
  omega
theorem bytes_snoc (l : List UInt8) (b : UInt8) : Lib.byteCells (l ++ [b]) = Lib.byteCells l ++ [.int .u8 (b.toNat : Int)] := by rw [Lib.byteCells_append]; rfl
theorem ofNat_toNat {y : Nat} (h : y < 256) : ((UInt8.ofNat y).toNat : Int) = (y : Int) := by rw [UInt8.toNat_ofNat']; omega
structure NuI (w : World) (x : Nat) (y : Nat) (l : List UInt8) (v : Value) (wr : World) : Prop where
  lt : y < 18446744073709551616
  eq : l ++ numL y = numL x
  t : Touch [] w wr
  o : wr.ownsRow w.heap.size 5 1 v l.length (Lib.byteCells l)
theorem NuI.len {w : World} {x y : Nat} {l : List UInt8} {v : Value} {wr : World} (h : NuI w x y l v wr) (hx : x < 18446744073709551616) : l.length < 10 := by
  have h1 := numL_10 hx
  rw [← h.eq, List.length_append] at h1
  have : 0 < (numL y).length := by
    by_cases h : 128 ≤ y
    · rw [numL_go h]; simp
    · rw [numL_end h]; simp
  omega
set_option maxHeartbeats 1000000 in
theorem number_ (w : World) (x : Nat) (hx : x < 18446744073709551616) : Calls Tryz.prog 29 #[.int .u64 x] w fun e w' => e = .returned (.string ⟨(numL x).toArray⟩) ∧ Touch [] w w' := by
  have HX := hid hx
  have H0 : Hid (NuI w x x [] (.slice none 0 0) w) := hid ⟨hx, rfl, Touch.refl _ _, ⟨rfl, Or.inl ⟨rfl, rfl⟩⟩⟩
  clear hx
  go_enter Tryz.func29, Tryz.ntmps29
  go_wp2
  go_loopw [0, 3] (fun s0 s3 wr => ∃ (y : Nat) (l : List UInt8) (b : Option Addr) (cp : Nat), s0 = .int .u64 y ∧ s3 = .slice b l.length cp ∧ Hid (NuI w x y l (.slice b l.length cp) wr)) (fun s0 _ _ => (intOf s0).toNat)
  case atStart => exact ⟨x, [], none, 0, rfl, rfl, H0⟩
  case round =>
    obtain ⟨y, l, b, cp, rfl, rfl, HI⟩ := hrel
    have hl := HI.out.len HX.out
    have HA : Hid (∀ w2, Touch [] wr w2 → w2.ownsRow w.heap.size 5 1 (.slice b l.length cp) l.length (Lib.byteCells l) ∧ w.heap.size ≤ w2.heap.size ∧ Touch [] w w2) := hid (fun w2 t2 => ⟨own_touch HI.out.o t2 (fun _ _ e => by cases e), (HI.out.t.trans' t2).size, HI.out.t.trans' t2⟩)
    have HY := hid HI.out.lt
    by_cases h : 128 ≤ y
    · have hz : (128 : Int) ≤ (y : Int) := by omega
      obtain ⟨ob, hob⟩ : ∃ ob, bits .or .u8 ((y : Int) % 256) 128 = ob := ⟨_, rfl⟩
      have EO := hid (hob.symm.trans (or128 y))
      have H := hid h
      clear h
      go_wp2_with (at_builtin; refine wpList_append_rs rfl _ _ 91 5 rfl _ 1 1 infoB Tryz.underlying91 rfl (by decide) w.heap.size (.slice b l.length cp) l.length (Lib.byteCells l) rfl (HA.out _ ((Touch.refl _ _).alloc _)).1 (.slice (some ⟨wr.heap.size, 0, none⟩) 1 1) 1 _ rfl (Rs.new wr #[.int .u8 ob] 5 1 rfl) (by simp [Value.oneCell']) (by unfold maxLen; omega) (by omega) (HA.out _ ((Touch.refl _ _).alloc _)).2.1 ?_; intro v6 w6 o6 g6 _; obtain ⟨a6, c6, e6, _⟩ := (Rs.of_own o6).form; subst e6; have O6 := hid o6; have T6 := hid (touch_grown (HA.out _ ((Touch.refl _ _).alloc _)).2.2 g6 (HA.out _ ((Touch.refl _ _).alloc _)).1 (Nat.le_refl _)); clear o6 g6)
      have e7 : (y : Int) / 128 = ((y / 128 : Nat) : Int) := by omega
      refine ⟨⟨y / 128, l ++ [UInt8.ofNat (y % 128 + 128)], a6, c6, by rw [e7], by rw [List.length_append]; rfl, hid ⟨by have := HY.out; omega, ?_, T6.out, ?_⟩⟩, by simp [intOf]; have := H.out; omega⟩
      · rw [← HI.out.eq, numL_go H.out, List.append_assoc]; rfl
      · rw [List.length_append, bytes_snoc, ← EO.out]; exact O6.out
    · have hz : ¬ (128 : Int) ≤ (y : Int) := by omega
      have ey : (y : Int) % 256 = (y : Int) := by omega
      have HC : Hid (∀ w2 a c, w2.ownsRow w.heap.size 5 1 (.slice a (l.length + 1) c) (l.length + 1) (Lib.byteCells l ++ [.int .u8 (y : Int)]) → (convert 91 9 (.slice a (l.length + 1) c)).run Tryz.prog w2 = .ok (.string ⟨(numL x).toArray⟩) w2) := hid (fun w2 a c o => by
        rw [← HI.out.eq, numL_end h]
        refine conv_own (base := w.heap.size) ?_ (by omega)
        rw [bytes_snoc, ofNat_toNat (by omega)]
        exact o)
      go_wp2_with (at_builtin; refine wpList_append_rs rfl _ _ 91 5 rfl _ 1 1 infoB Tryz.underlying91 rfl (by decide) w.heap.size (.slice b l.length cp) l.length (Lib.byteCells l) rfl (HA.out _ ((Touch.refl _ _).alloc _)).1 (.slice (some ⟨wr.heap.size, 0, none⟩) 1 1) 1 _ rfl (Rs.new wr #[.int .u8 y] 5 1 rfl) (by simp [Value.oneCell']) (by unfold maxLen; omega) (by omega) (HA.out _ ((Touch.refl _ _).alloc _)).2.1 ?_; intro v6 w6 o6 g6 _; obtain ⟨a6, c6, e6, _⟩ := (Rs.of_own o6).form; subst e6; have T6 := hid (touch_grown (HA.out _ ((Touch.refl _ _).alloc _)).2.2 g6 (HA.out _ ((Touch.refl _ _).alloc _)).1 (Nat.le_refl _)); have hcv := HC.out _ _ _ o6; clear o6 g6)
      go_ret
      exact ⟨rfl, T6.out⟩
end Go.Proofs.YtpefbmheblfbeaaGreat.Sn
/- The contracts of TakeNumber and of the document's Take: the number that stands at a place; the text's length is a number of the language's. -/
namespace Go.Proofs.YtpefbmheblfbeaaGreat.Sn
open Go.RowKit Go.Sort
set_option linter.unusedVariables false
theorem ret_bool {a b : Bool} (h : a = b) : Ending.returned (.bool a) = .returned (.bool b) := by rw [h]
def takeZ : Value := .tuple #[.int .u64 0, .int .i64 0, .bool false]
theorem or_nat (y : Nat) (z : Int) (hy : y < 18446744073709551616) : ∃ o : Nat, bits .or .u64 (y : Int) (IntKind.u64.wrap z) = (o : Int) ∧ o < 18446744073709551616 := by
  refine ⟨(BitVec.ofInt 64 (y : Int) ||| BitVec.ofInt 64 (IntKind.u64.wrap z)).toNat, ?_, BitVec.isLt _⟩
  show IntKind.u64.wrap ((BitVec.ofInt 64 (y : Int) ||| BitVec.ofInt 64 (IntKind.u64.wrap z)).toNat : Int) = _
  have := BitVec.isLt (BitVec.ofInt 64 (y : Int) ||| BitVec.ofInt 64 (IntKind.u64.wrap z))
  rw [IntKind.wrap_u64]
  omega
theorem pow_le9 {j : Nat} (h : j ≤ 9) : 128 ^ j ≤ 9223372036854775808 := Nat.le_trans (Nat.pow_le_pow_right (by omega) h) (by decide)
theorem pow_le8 {j : Nat} (h : j ≤ 8) : 128 ^ j ≤ 72057594037927936 := Nat.le_trans (Nat.pow_le_pow_right (by omega) h) (by decide)
theorem or_add {y j d : Nat} (hy : y < 128 ^ j) (hj : j ≤ 9) (hd : d < 128) (h8 : j ≤ 8 ∨ d ≤ 1) : bits .or .u64 (y : Int) (IntKind.u64.wrap ((d : Int) * 2 ^ (((j : Int) * 7).toNat))) = ((y + d * 128 ^ j : Nat) : Int) ∧ y + d * 128 ^ j < 18446744073709551616 ∧ (j ≤ 8 → y + d * 128 ^ j < 128 ^ (j + 1)) := by
  have e1 : ((j : Int) * 7).toNat = 7 * j := by omega
  have e2 : (128 : Nat) ^ j = 2 ^ (7 * j) := by rw [Nat.pow_mul]
  have p9 := pow_le9 hj
  have hlt : y + d * 128 ^ j < 18446744073709551616 := by
    rcases h8 with h | h
    · have p8 := pow_le8 h
      have : d * 128 ^ j ≤ 127 * 128 ^ j := Nat.mul_le_mul_right _ (by omega)
      omega
    · have : d * 128 ^ j ≤ 1 * 128 ^ j := Nat.mul_le_mul_right _ h
      omega
  refine ⟨?_, hlt, fun _ => by
    rw [Nat.pow_succ]
    have : d * 128 ^ j ≤ 127 * 128 ^ j := Nat.mul_le_mul_right _ (by omega)
    omega⟩
  have e3 : (d : Int) * 2 ^ (((j : Int) * 7).toNat) = ((d * 128 ^ j : Nat) : Int) := by rw [e1, e2]; push_cast; rfl
  have e4 : IntKind.u64.wrap ((d * 128 ^ j : Nat) : Int) = ((d * 128 ^ j : Nat) : Int) := by rw [IntKind.wrap_u64]; omega
  rw [e3, e4]
  have h1 : (BitVec.ofInt 64 (y : Int)).toNat = y := by rw [BitVec.ofInt_natCast, BitVec.toNat_ofNat]; exact Nat.mod_eq_of_lt (by omega)
  have h2 : (BitVec.ofInt 64 ((d * 128 ^ j : Nat) : Int)).toNat = d * 128 ^ j := by rw [BitVec.ofInt_natCast, BitVec.toNat_ofNat]; exact Nat.mod_eq_of_lt (by omega)
  show IntKind.u64.wrap ((BitVec.ofInt 64 (y : Int) ||| BitVec.ofInt 64 ((d * 128 ^ j : Nat) : Int)).toNat : Int) = _
  have h3 : y ||| d * 128 ^ j = y + d * 128 ^ j := by
    have := Nat.two_pow_add_eq_or_of_lt (i := 7 * j) (b := y) (by omega) d
    rw [Nat.or_comm, e2, Nat.mul_comm d, ← this]
    omega
  rw [BitVec.toNat_or, h1, h2, h3, IntKind.wrap_u64]
  omega
theorem ret_take {k p : Int} {o o' n : Nat} (h1 : o = o') (h2 : p = k + ((n : Nat) : Int)) : Ending.returned (.tuple #[.int .u64 (o : Int), .int .i64 p, .bool true]) = .returned (takeV k (some (o', n))) := by rw [h1, h2]; rfl
theorem maylast_ (w : World) (b i : Nat) : Calls Tryz.prog 82 #[.int .u8 b, .int .i64 i] w fun e w' => e = .returned (.bool (lastB b i)) ∧ w' = w := by
  unfold lastB
  by_cases h : i = 9
  · subst h
    go_enter Tryz.func82, Tryz.ntmps82
    go_wp2
    go_ret
    refine ⟨?_, rfl⟩
    exact ret_bool (by rw [Bool.eq_iff_iff]; simp; omega)
  · have hi : ¬ (i : Int) = 9 := by omega
    by_cases hb : 0 < b
    · have hb' : (0 : Int) < (b : Int) := by omega
      rw [if_neg h, decide_eq_true hb, Bool.true_or]
      go_enter Tryz.func82, Tryz.ntmps82
      go_wp2
      go_ret
      exact ⟨rfl, rfl⟩
    · have hb' : ¬ (0 : Int) < (b : Int) := by omega
      rw [if_neg h, decide_eq_false hb, Bool.false_or]
      go_enter Tryz.func82, Tryz.ntmps82
      go_wp2
      go_ret
      exact ⟨ret_bool (by rw [Bool.eq_iff_iff]; simp), rfl⟩
theorem take_ (w : World) (s : ByteArray) (at_ : Int) (hs : s.size ≤ 9223372036854775807) (h0 : -9223372036854775808 ≤ at_) (h1 : at_ ≤ 9223372036854775807) : Calls Tryz.prog 28 #[.string s, .int .i64 at_] w fun e w' => e = .returned (takeV at_ (takeAt s at_)) ∧ w' = w := by
  by_cases ha : at_ < 0
  · unfold takeAt
    rw [if_pos ha]
    unfold takeV
    go_enter Tryz.func28, Tryz.ntmps28
    go_wp2
    exact bodyPost_ret (v := takeZ) (by simp [results, Tryz.results28, go_sem, takeZ]) rfl ⟨rfl, rfl⟩
  by_cases hb : (s.size : Int) < at_
  · unfold takeAt
    rw [if_neg ha, List.drop_eq_nil_of_le (by simp; omega)]
    unfold takeN
    rw [takeG_nil]
    unfold takeV
    go_enter Tryz.func28, Tryz.ntmps28
    go_wp2
    exact bodyPost_ret (v := takeZ) (by simp [results, Tryz.results28, go_sem, takeZ]) rfl ⟨rfl, rfl⟩
  obtain ⟨k, rfl⟩ : ∃ k : Nat, at_ = (k : Int) := ⟨at_.toNat, by omega⟩
  have hk : k ≤ s.size := by omega
  have hk' : (k : Int) ≤ (s.size : Int) := by omega
  obtain ⟨m, hm⟩ : ∃ m : Nat, m = s.size - k := ⟨_, rfl⟩
  have hw : IntKind.i64.wrap ((s.size : Int) - (k : Int)) = (m : Int) := by rw [IntKind.wrap_i64]; omega
  rw [show takeAt s (k : Int) = takeN (s.data.toList.drop k) by unfold takeAt; rw [if_neg ha]; rfl]
  have HK := hid hm
  have HS := hid hs
  have HK2 := hid hk
  clear hm hs hk h0 ha hb h1
  by_cases hm10 : (m : Int) ≤ 10
  · have HM := hid hm10
    go_enter Tryz.func28, Tryz.ntmps28
    go_wp2
    go_loop [7, 23] (fun x i => ∃ (j y : Nat), j ≤ m ∧ i = .int .i64 j ∧ x = .int .u64 y ∧ Hid (y < 18446744073709551616 ∧ takeN (s.data.toList.drop k) = takeG (s.data.toList.drop (k + j)) j y ∧ (j < 10 → y < 128 ^ j))) (fun _ i => m - (intOf i).toNat)
    case atStart => exact ⟨0, 0, Nat.zero_le _, rfl, rfl, hid ⟨by omega, rfl, fun _ => by omega⟩⟩
    case round =>
      obtain ⟨j, y, hj, rfl, rfl, HI⟩ := hrel
      by_cases hlt : j < m
      · have zj : (j : Int) < (m : Int) := by omega
        have kj : k + j < s.size := by have := HK.out; have := HM.out; omega
        have kj1 : (k : Int) + (j : Int) < (s.size : Int) := by omega
        have kj0 : ((k : Int) + (j : Int)).toNat = k + j := by omega
        obtain ⟨b, hb⟩ : ∃ b, s[k + j] = b := ⟨_, rfl⟩
        have HB := hid b.toNat_lt
        have wk : IntKind.i64.wrap ((k : Int) + (j : Int)) = (k : Int) + (j : Int) := by rw [IntKind.wrap_i64]; have := HS.out; omega
        go_upto_region 8 with fail
        have j9 : j ≤ 9 := by have := HM.out; omega
        obtain ⟨c, hc⟩ : ∃ c : Int, (j : Int) * 7 = c := ⟨_, rfl⟩
        have c0 : 0 ≤ c := by omega
        have c1 : c ≤ 63 := by omega
        have wc : IntKind.i64.wrap c = c := by rw [IntKind.wrap_i64]; omega
        obtain ⟨d, hd⟩ : ∃ d : Int, (b.toNat : Int) % 128 = d := ⟨_, rfl⟩
        have HD : Hid (0 ≤ d ∧ d < 128) := hid (by omega)
        have wd : IntKind.u64.wrap d = d := by rw [IntKind.wrap_u64]; omega
        go_upto_region 9 with fail
        have HO : Hid (∃ o : Nat, bits .or .u64 (y : Int) (IntKind.u64.wrap (d * 2 ^ c.toNat)) = (o : Int) ∧ o < 18446744073709551616 ∧ ((j ≤ 8 ∨ d ≤ 1) → o = y + b.toNat % 128 * 128 ^ j ∧ (j ≤ 8 → o < 128 ^ (j + 1)))) := hid (by
          by_cases h8 : j ≤ 8 ∨ d ≤ 1
          · obtain ⟨q1, q2, q3⟩ := or_add (d := b.toNat % 128) (HI.out.2.2 (by omega)) j9 (by omega) (by omega)
            rw [hc, show ((b.toNat % 128 : Nat) : Int) = d by omega] at q1
            exact ⟨_, q1, q2, fun _ => ⟨rfl, q3⟩⟩
          · obtain ⟨o, q1, q2⟩ := or_nat y (d * 2 ^ c.toNat) HI.out.1
            exact ⟨o, q1, q2, fun h => absurd h h8⟩)
        obtain ⟨o, ho, HO2⟩ := HO.out
        rw [ho]
        have HD2 := hid hd
        have HCj := hid j9
        have HD3 : Hid (takeN (s.data.toList.drop k) = takeG (b :: s.data.toList.drop (k + (j + 1))) j y) := hid (by rw [HI.out.2.1, drop_cons s (k + j) kj, hb]; rfl)
        have HOO := hid HO2
        clear HO HO2 ho hc c0 c1 wc wd hd j9 kj kj1 kj0 hb HD
        by_cases h128 : b.toNat < 128
        · have z128 : ¬ (128 : Int) ≤ (b.toNat : Int) := by omega
          have HL := hid (takeG_last (l := s.data.toList.drop (k + (j + 1))) (x := y) (show j < 10 by have := HCj.out; omega) h128)
          have HV : Hid (lastB b.toNat j = true → o = y + b.toNat * 128 ^ j) := hid (fun h => by
            have h9 : j ≤ 8 ∨ d ≤ 1 := by
              by_cases h8 : j ≤ 8
              · exact Or.inl h8
              · have e9 : j = 9 := by have := HCj.out; omega
                subst e9
                unfold lastB at h
                rw [if_pos rfl] at h
                have := of_decide_eq_true h
                have := HD2.out
                exact Or.inr (by omega)
            have := (HOO.out.2 h9).1
            rw [Nat.mod_eq_of_lt h128] at this
            exact this)
          have wk1 : IntKind.i64.wrap ((k : Int) + (j : Int) + 1) = (k : Int) + (j : Int) + 1 := by rw [IntKind.wrap_i64]; have := HS.out; have := HK.out; have := HK2.out; omega
          clear h128 HOO
          go_wp2_with (go_at_call 82; refine (maylast_ _ _ _).mono ?_; rintro e w1 ⟨rfl, rfl⟩; cases hlb : lastB b.toNat j)
          · exact bodyPost_ret (v := takeZ) (by simp [results, Tryz.results28, go_sem, takeZ]) rfl ⟨by rw [HD3.out, HL.out, hlb]; rfl, rfl⟩
          · have ev := HV.out hlb
            exact bodyPost_ret (v := .tuple #[.int .u64 (o : Int), .int .i64 ((k : Int) + (j : Int) + 1), .bool true]) (by simp [results, Tryz.results28, go_sem]) rfl ⟨by rw [HD3.out, HL.out, hlb, ev]; exact ret_take rfl (by omega), rfl⟩
        · have z128 : (128 : Int) ≤ (b.toNat : Int) := by omega
          have HL := hid (takeG_more (l := s.data.toList.drop (k + (j + 1))) (x := y) (show j < 10 by have := HCj.out; omega) h128)
          clear h128
          go_wp2
          go_round
          case rel =>
            refine ⟨j + 1, o, by omega, by push_cast; rfl, rfl, hid ⟨HOO.out.1, ?_, fun h => (HOO.out.2 (Or.inl (by omega))).2 (by omega)⟩⟩
            rw [HD3.out, HL.out]
            by_cases h8 : j ≤ 8
            · rw [(HOO.out.2 (Or.inl h8)).1]
            · have e9 : j = 9 := by have := HCj.out; omega
              subst e9
              rw [takeG_ten, takeG_ten]
          case measure => simp [intOf]; omega
      · have zj : ¬ (j : Int) < (m : Int) := by omega
        have HE : Hid (takeN (s.data.toList.drop k) = none) := hid (by
          rw [HI.out.2.1]
          by_cases h10 : j = 10
          · rw [h10, takeG_ten]
          · rw [List.drop_eq_nil_of_le (by have := HK.out; have := HM.out; have := HK2.out; rw [Array.length_toList]; show s.size ≤ _; omega), takeG_nil])
        clear HI
        go_wp2
        exact bodyPost_ret (v := takeZ) (by simp [results, Tryz.results28, go_sem, takeZ]) rfl ⟨by rw [HE.out]; rfl, rfl⟩
  · have HM := hid hm10
    go_enter Tryz.func28, Tryz.ntmps28
    go_wp2
    go_loop [7, 23] (fun x i => ∃ (j y : Nat), j ≤ 10 ∧ i = .int .i64 j ∧ x = .int .u64 y ∧ Hid (y < 18446744073709551616 ∧ takeN (s.data.toList.drop k) = takeG (s.data.toList.drop (k + j)) j y ∧ (j < 10 → y < 128 ^ j))) (fun _ i => 10 - (intOf i).toNat)
    case atStart => exact ⟨0, 0, Nat.zero_le _, rfl, rfl, hid ⟨by omega, rfl, fun _ => by omega⟩⟩
    case round =>
      obtain ⟨j, y, hj, rfl, rfl, HI⟩ := hrel
      by_cases hlt : j < 10
      · have zj : (j : Int) < (10 : Int) := by omega
        have kj : k + j < s.size := by have := HK.out; have := HM.out; omega
        have kj1 : (k : Int) + (j : Int) < (s.size : Int) := by omega
        have kj0 : ((k : Int) + (j : Int)).toNat = k + j := by omega
        obtain ⟨b, hb⟩ : ∃ b, s[k + j] = b := ⟨_, rfl⟩
        have HB := hid b.toNat_lt
        have wk : IntKind.i64.wrap ((k : Int) + (j : Int)) = (k : Int) + (j : Int) := by rw [IntKind.wrap_i64]; have := HS.out; omega
        go_upto_region 8 with fail
        have j9 : j ≤ 9 := by have := HM.out; omega
        obtain ⟨c, hc⟩ : ∃ c : Int, (j : Int) * 7 = c := ⟨_, rfl⟩
        have c0 : 0 ≤ c := by omega
        have c1 : c ≤ 63 := by omega
        have wc : IntKind.i64.wrap c = c := by rw [IntKind.wrap_i64]; omega
        obtain ⟨d, hd⟩ : ∃ d : Int, (b.toNat : Int) % 128 = d := ⟨_, rfl⟩
        have HD : Hid (0 ≤ d ∧ d < 128) := hid (by omega)
        have wd : IntKind.u64.wrap d = d := by rw [IntKind.wrap_u64]; omega
        go_upto_region 9 with fail
        have HO : Hid (∃ o : Nat, bits .or .u64 (y : Int) (IntKind.u64.wrap (d * 2 ^ c.toNat)) = (o : Int) ∧ o < 18446744073709551616 ∧ ((j ≤ 8 ∨ d ≤ 1) → o = y + b.toNat % 128 * 128 ^ j ∧ (j ≤ 8 → o < 128 ^ (j + 1)))) := hid (by
          by_cases h8 : j ≤ 8 ∨ d ≤ 1
          · obtain ⟨q1, q2, q3⟩ := or_add (d := b.toNat % 128) (HI.out.2.2 (by omega)) j9 (by omega) (by omega)
            rw [hc, show ((b.toNat % 128 : Nat) : Int) = d by omega] at q1
            exact ⟨_, q1, q2, fun _ => ⟨rfl, q3⟩⟩
          · obtain ⟨o, q1, q2⟩ := or_nat y (d * 2 ^ c.toNat) HI.out.1
            exact ⟨o, q1, q2, fun h => absurd h h8⟩)
        obtain ⟨o, ho, HO2⟩ := HO.out
        rw [ho]
        have HD2 := hid hd
        have HCj := hid j9
        have HD3 : Hid (takeN (s.data.toList.drop k) = takeG (b :: s.data.toList.drop (k + (j + 1))) j y) := hid (by rw [HI.out.2.1, drop_cons s (k + j) kj, hb]; rfl)
        have HOO := hid HO2
        clear HO HO2 ho hc c0 c1 wc wd hd j9 kj kj1 kj0 hb HD
        by_cases h128 : b.toNat < 128
        · have z128 : ¬ (128 : Int) ≤ (b.toNat : Int) := by omega
          have HL := hid (takeG_last (l := s.data.toList.drop (k + (j + 1))) (x := y) (show j < 10 by have := HCj.out; omega) h128)
          have HV : Hid (lastB b.toNat j = true → o = y + b.toNat * 128 ^ j) := hid (fun h => by
            have h9 : j ≤ 8 ∨ d ≤ 1 := by
              by_cases h8 : j ≤ 8
              · exact Or.inl h8
              · have e9 : j = 9 := by have := HCj.out; omega
                subst e9
                unfold lastB at h
                rw [if_pos rfl] at h
                have := of_decide_eq_true h
                have := HD2.out
                exact Or.inr (by omega)
            have := (HOO.out.2 h9).1
            rw [Nat.mod_eq_of_lt h128] at this
            exact this)
          have wk1 : IntKind.i64.wrap ((k : Int) + (j : Int) + 1) = (k : Int) + (j : Int) + 1 := by rw [IntKind.wrap_i64]; have := HS.out; have := HK.out; have := HK2.out; omega
          clear h128 HOO
          go_wp2_with (go_at_call 82; refine (maylast_ _ _ _).mono ?_; rintro e w1 ⟨rfl, rfl⟩; cases hlb : lastB b.toNat j)
          · exact bodyPost_ret (v := takeZ) (by simp [results, Tryz.results28, go_sem, takeZ]) rfl ⟨by rw [HD3.out, HL.out, hlb]; rfl, rfl⟩
          · have ev := HV.out hlb
            exact bodyPost_ret (v := .tuple #[.int .u64 (o : Int), .int .i64 ((k : Int) + (j : Int) + 1), .bool true]) (by simp [results, Tryz.results28, go_sem]) rfl ⟨by rw [HD3.out, HL.out, hlb, ev]; exact ret_take rfl (by omega), rfl⟩
        · have z128 : (128 : Int) ≤ (b.toNat : Int) := by omega
          have HL := hid (takeG_more (l := s.data.toList.drop (k + (j + 1))) (x := y) (show j < 10 by have := HCj.out; omega) h128)
          clear h128
          go_wp2
          go_round
          case rel =>
            refine ⟨j + 1, o, by omega, by push_cast; rfl, rfl, hid ⟨HOO.out.1, ?_, fun h => (HOO.out.2 (Or.inl (by omega))).2 (by omega)⟩⟩
            rw [HD3.out, HL.out]
            by_cases h8 : j ≤ 8
            · rw [(HOO.out.2 (Or.inl h8)).1]
            · have e9 : j = 9 := by have := HCj.out; omega
              subst e9
              rw [takeG_ten, takeG_ten]
          case measure => simp [intOf]; omega
      · have zj : ¬ (j : Int) < (10 : Int) := by omega
        have HE : Hid (takeN (s.data.toList.drop k) = none) := hid (by
          rw [HI.out.2.1]
          by_cases h10 : j = 10
          · rw [h10, takeG_ten]
          · rw [List.drop_eq_nil_of_le (by have := HK.out; have := HM.out; have := HK2.out; rw [Array.length_toList]; show s.size ≤ _; omega), takeG_nil])
        clear HI
        go_wp2
        exact bodyPost_ret (v := takeZ) (by simp [results, Tryz.results28, go_sem, takeZ]) rfl ⟨by rw [HE.out]; rfl, rfl⟩
end Go.Proofs.YtpefbmheblfbeaaGreat.Sn
/- Plain arithmetic of mixing and folding numbers, with no Go in sight. Its conditions: numbers below 2^64 where that is said. -/
namespace Go.Proofs.YtpefbmheblfbeaaGreat.Sk
open Go.RowKit
set_option linter.unusedVariables false
def mixN (x : Nat) : Nat :=
  let a := (x ^^^ x / 1073741824) * 13787848793156543929 % 18446744073709551616
  let b := (a ^^^ a / 134217728) * 10723151780598845931 % 18446744073709551616
  b ^^^ b / 2147483648
theorem xor_div_lt (b s : Nat) (hb : b < 18446744073709551616) : b ^^^ b / s < 18446744073709551616 := by
  have h : b / s < 18446744073709551616 := Nat.lt_of_le_of_lt (Nat.div_le_self _ _) hb
  exact Nat.xor_lt_two_pow (n := 64) hb h
theorem mixN_lt (x : Nat) : mixN x < 18446744073709551616 := by
  unfold mixN
  exact xor_div_lt _ _ (Nat.mod_lt _ (by decide))
theorem step1 (x : Nat) (hx : x < 18446744073709551616) :
    IntKind.u64.wrap (bits .xor .u64 (x : Int) ((x : Int) / 1073741824) * 13787848793156543929) = (((x ^^^ x / 1073741824) * 13787848793156543929 % 18446744073709551616 : Nat) : Int) :=
  mixStep_u64 x 1073741824 13787848793156543929 hx
theorem step2 (x : Nat) (hx : x < 18446744073709551616) :
    IntKind.u64.wrap (bits .xor .u64 (x : Int) ((x : Int) / 134217728) * 10723151780598845931) = (((x ^^^ x / 134217728) * 10723151780598845931 % 18446744073709551616 : Nat) : Int) :=
  mixStep_u64 x 134217728 10723151780598845931 hx
theorem step3 (x : Nat) (hx : x < 18446744073709551616) :
    bits .xor .u64 (x : Int) ((x : Int) / 2147483648) = ((x ^^^ x / 2147483648 : Nat) : Int) :=
  xorShift_u64 x 2147483648 hx
theorem mod_lt (x : Nat) : x % 18446744073709551616 < 18446744073709551616 := Nat.mod_lt _ (by decide)
theorem mix_form (x : Nat) (hx : x < 18446744073709551616) :
    bits .xor .u64 (IntKind.u64.wrap (bits .xor .u64 (IntKind.u64.wrap (bits .xor .u64 (x : Int) ((x : Int) / 1073741824) * 13787848793156543929)) (IntKind.u64.wrap (bits .xor .u64 (x : Int) ((x : Int) / 1073741824) * 13787848793156543929) / 134217728) * 10723151780598845931))
      (IntKind.u64.wrap (bits .xor .u64 (IntKind.u64.wrap (bits .xor .u64 (x : Int) ((x : Int) / 1073741824) * 13787848793156543929)) (IntKind.u64.wrap (bits .xor .u64 (x : Int) ((x : Int) / 1073741824) * 13787848793156543929) / 134217728) * 10723151780598845931) / 2147483648) = ((mixN x : Nat) : Int) := by
  rw [step1 x hx, step2 _ (mod_lt _), step3 _ (mod_lt _)]; rfl
end Go.Proofs.YtpefbmheblfbeaaGreat.Sk
/- The contracts of the sum of a text: tick.Hash with the seed 0, and the document's Sum; the text's length is a number of the language's. -/
namespace Go.Proofs.YtpefbmheblfbeaaGreat.Sn
open Go.RowKit Go.Sort
open Sk (mixN mixN_lt mix_form)
set_option linter.unusedVariables false
theorem take_snoc (s : ByteArray) (k : Nat) (h : k < s.size) : s.data.toList.take (k + 1) = s.data.toList.take k ++ [s[k]] := by
  rw [List.take_succ_eq_append_getElem (by simpa using h)]; rfl
def hStep (h : Nat) (c : UInt8) : Nat := (h ^^^ c.toNat) * 1099511628211 % 18446744073709551616
def hStart : Nat := 14695981039346656037
theorem hStart_lt : hStart < 18446744073709551616 := by unfold hStart; omega
def hFoldA (a : Nat) (l : List UInt8) : Nat := l.foldl hStep a
theorem hFoldA_lt (a : Nat) (ha : a < 18446744073709551616) (l : List UInt8) : hFoldA a l < 18446744073709551616 := by
  unfold hFoldA
  induction l generalizing a with
  | nil => exact ha
  | cons c l ih => exact ih _ (Nat.mod_lt _ (by omega))
def hFold (l : List UInt8) : Nat := hFoldA hStart l
theorem hFold_lt (l : List UInt8) : hFold l < 18446744073709551616 := hFoldA_lt _ hStart_lt l
theorem foldl_snoc (f : Nat → UInt8 → Nat) (a : Nat) (l : List UInt8) (c : UInt8) : (l ++ [c]).foldl f a = f (l.foldl f a) c := by simp
theorem hFold_snoc (l : List UInt8) (c : UInt8) : hFold (l ++ [c]) = hStep (hFold l) c := foldl_snoc hStep hStart l c
theorem h_step (h : Nat) (c : UInt8) (hh : h < 18446744073709551616) : IntKind.u64.wrap (bits .xor .u64 (h : Int) (IntKind.u64.wrap (c.toNat : Int)) * 1099511628211) = ((hStep h c : Nat) : Int) := by
  have hc : c.toNat < 256 := c.toNat_lt
  have hw : IntKind.u64.wrap (c.toNat : Int) = (c.toNat : Int) := by rw [IntKind.wrap_u64]; omega
  rw [hw]
  rw [bits_xor_u64_nat h c.toNat hh (by omega), IntKind.wrap_u64]
  unfold hStep
  rw [Int.natCast_emod, Int.natCast_mul]
  rfl
def sumL (l : List UInt8) : Nat := mixN (hFold l)
theorem sumL_lt (l : List UInt8) : sumL l < 18446744073709551616 := mixN_lt _
theorem mix_ (x : Nat) (hx : x < 18446744073709551616) (w : World) :
    Calls Tryz.prog 140 #[.int .u64 x] w fun e w' => e = .returned (.int .u64 (mixN x : Nat)) ∧ w' = w := by
  have h1 : (x : Int) < 18446744073709551616 := by omega
  go_enter Tryz.func140, Tryz.ntmps140
  go_wp2
  go_ret
  exact ⟨ret_int (mix_form x hx), rfl⟩
theorem start0 : bits .xor .u64 0 14695981039346656037 = 14695981039346656037 := by decide
theorem hash_ (s : ByteArray) (hs : s.size ≤ 9223372036854775807) (w : World) :
    Calls Tryz.prog 118 #[.string s, .int .u64 0] w fun e w' => e = .returned (.int .u64 (sumL s.data.toList : Nat)) ∧ w' = w := by
  have h2 := start0
  go_enter Tryz.func118, Tryz.ntmps118
  go_wp2
  go_loop [5, 11] (fun h i => ∃ k : Nat, k ≤ s.size ∧ i = .int .i64 k ∧ h = .int .u64 (hFold (s.data.toList.take k) : Nat)) (fun _ i => s.size - (intOf i).toNat)
  case atStart => exact ⟨0, Nat.zero_le _, rfl, rfl⟩
  case round =>
    obtain ⟨k, hk, rfl, rfl⟩ := hrel
    clear h2
    by_cases hlt : k < s.size
    · have hst := h_step (hFold (s.data.toList.take k)) s[k] (hFold_lt _)
      rw [← hFold_snoc, ← take_snoc s k hlt] at hst
      go_wp2
      go_round
      case rel => exact ⟨k + 1, by omega, by go_num, rfl⟩
      case measure => simp [intOf]; omega
    · go_wp2_with (go_at_call 140; refine (mix_ _ (hFold_lt _) _).mono ?_; rintro e w' ⟨rfl, rfl⟩)
      go_ret
      exact ⟨ret_int (by unfold sumL; rw [List.take_of_length_le (by simp; omega)]), rfl⟩
theorem sumOf_ (s : ByteArray) (hs : s.size ≤ 9223372036854775807) (w : World) :
    Calls Tryz.prog 79 #[.string s] w fun e w' => e = .returned (.int .u64 (sumL s.data.toList : Nat)) ∧ w' = w := by
  have H := hid (hash_ s hs)
  clear hs
  go_enter Tryz.func79, Tryz.ntmps79
  go_wp2_with (go_at_call 118; refine (H.out _).mono ?_; rintro e w' ⟨rfl, rfl⟩)
  go_ret
  exact ⟨rfl, rfl⟩
end Go.Proofs.YtpefbmheblfbeaaGreat.Sn
/- The contracts of a sum's eight bytes, each way: sumBytes, takeSum, Sum, and the document's bytes8 and Value8; the conditions are those that each states. -/
namespace Go.Proofs.YtpefbmheblfbeaaGreat.Sn
open Go.RowKit Go.Sort
set_option linter.unusedVariables false
def byF : Nat → Nat → List UInt8
  | 0, x => []
  | n + 1, x => UInt8.ofNat (x % 256) :: byF n (x / 256)
def by8 (x : Nat) : List UInt8 := byF 8 x
def valF : List UInt8 → Nat
  | [] => 0
  | b :: l => b.toNat + 256 * valF l
theorem byF_len : ∀ n x, (byF n x).length = n
  | 0, _ => rfl
  | n + 1, x => by rw [byF, List.length_cons, byF_len n]
theorem by8_len (x : Nat) : (by8 x).length = 8 := byF_len 8 x
theorem byF_get : ∀ (n x j : Nat), j < n → (byF n x)[j]? = some (UInt8.ofNat (x / 256 ^ j % 256))
  | 0, x, j, h => absurd h (Nat.not_lt_zero _)
  | n + 1, x, 0, h => by rw [byF]; simp
  | n + 1, x, j + 1, h => by
    rw [byF, List.getElem?_cons_succ, byF_get n (x / 256) j (by omega), Nat.div_div_eq_div_mul, Nat.pow_succ, Nat.mul_comm]
theorem valF_byF : ∀ n x, valF (byF n x) = x % 256 ^ n
  | 0, x => by rw [byF, valF]; omega
  | n + 1, x => by
    rw [byF, valF, valF_byF n, UInt8.toNat_ofNat', show 256 ^ (n + 1) = 256 * 256 ^ n by rw [Nat.pow_succ, Nat.mul_comm], Nat.mod_mul]
    omega
theorem valF_lt : ∀ l : List UInt8, valF l < 256 ^ l.length
  | [] => by simp [valF]
  | b :: l => by
    have h1 := valF_lt l
    have h2 : b.toNat < 256 := b.toNat_lt
    rw [valF, List.length_cons, Nat.pow_succ]
    omega
theorem valF_app (l : List UInt8) (b : UInt8) : valF (l ++ [b]) = valF l + b.toNat * 256 ^ l.length := by
  induction l with
  | nil => simp [valF]
  | cons a l ih => rw [List.cons_append, valF, valF, ih, List.length_cons, Nat.pow_succ, Nat.mul_add, ← Nat.mul_assoc, ← Nat.mul_assoc, Nat.mul_comm b.toNat, Nat.mul_comm 256, Nat.mul_assoc, Nat.mul_comm b.toNat]; omega
def val8 (l : List UInt8) : Nat := valF (l.take 8)
theorem val8_by8 (x : Nat) (hx : x < 18446744073709551616) (l : List UInt8) : val8 (by8 x ++ l) = x := by
  unfold val8
  rw [List.take_append_of_le_length (by rw [by8_len]; exact Nat.le_refl _), List.take_of_length_le (by rw [by8_len]; exact Nat.le_refl _)]
  unfold by8
  rw [valF_byF]
  exact Nat.mod_eq_of_lt (by omega)
theorem or_addP {y d n : Nat} (hy : y < 2 ^ n) (h : y + d * 2 ^ n < 18446744073709551616) : bits .or .u64 (y : Int) (IntKind.u64.wrap ((d : Int) * 2 ^ n)) = ((y + d * 2 ^ n : Nat) : Int) := by
  have e3 : (d : Int) * 2 ^ n = ((d * 2 ^ n : Nat) : Int) := by push_cast; rfl
  have e4 : IntKind.u64.wrap ((d * 2 ^ n : Nat) : Int) = ((d * 2 ^ n : Nat) : Int) := by rw [IntKind.wrap_u64]; omega
  rw [e3, e4, bits_or_u64_nat y (d * 2 ^ n) (by omega) (by omega)]
  have := Nat.two_pow_add_eq_or_of_lt (i := n) (b := y) (by omega) d
  rw [Nat.or_comm, Nat.mul_comm d, ← this, Nat.add_comm]
set_option maxHeartbeats 1000000 in
theorem takeSum_ (w : World) (s : ByteArray) (hs : 8 ≤ s.size) : Calls Tryz.prog 78 #[.string s] w fun e w' => e = .returned (.int .u64 (val8 s.data.toList : Nat)) ∧ w' = w := by
  go_enter Tryz.func78, Tryz.ntmps78
  go_wp2
  go_loop [3, 5] (fun x i => ∃ (j y : Nat), j ≤ 8 ∧ i = .int .i64 j ∧ x = .int .u64 y ∧ Hid (y = valF (s.data.toList.take j))) (fun _ i => 8 - (intOf i).toNat)
  case atStart => exact ⟨0, 0, by omega, rfl, rfl, hid rfl⟩
  case round =>
    obtain ⟨j, y, hj, rfl, rfl, HI⟩ := hrel
    by_cases hlt : j < 8
    · have zj : (j : Int) < 8 := by omega
      have kj : j < s.size := by omega
      have kj1 : (j : Int) < (s.size : Int) := by omega
      obtain ⟨b, hb⟩ : ∃ b, s[j] = b := ⟨_, rfl⟩
      have HB := hid b.toNat_lt
      obtain ⟨c, hc⟩ : ∃ c : Int, 8 * (j : Int) = c := ⟨_, rfl⟩
      have c0 : 0 ≤ c := by omega
      have c1 : c ≤ 63 := by omega
      have wc : IntKind.i64.wrap c = c := by rw [IntKind.wrap_i64]; omega
      have wb : IntKind.u64.wrap (b.toNat : Int) = (b.toNat : Int) := by rw [IntKind.wrap_u64]; have := HB.out; omega
      have hyl : y < 256 ^ j := by
        have := valF_lt (s.data.toList.take j)
        rw [List.length_take, Array.length_toList, show s.data.size = s.size from rfl, Nat.min_eq_left (by omega)] at this
        rw [HI.out]; exact this
      have e2 : (256 : Nat) ^ j = 2 ^ (8 * j) := by rw [Nat.pow_mul]
      have hfit : y + b.toNat * 2 ^ (8 * j) < 18446744073709551616 := by
        have h7 : 256 ^ j ≤ 256 ^ 7 := Nat.pow_le_pow_right (by omega) (by omega)
        have : b.toNat * 256 ^ j ≤ 255 * 256 ^ j := Nat.mul_le_mul_right _ (by have := HB.out; omega)
        rw [← e2]
        omega
      have ho := or_addP (n := 8 * j) (by rw [← e2]; exact hyl) hfit
      rw [show (2 : Int) ^ (8 * j) = 2 ^ c.toNat by rw [show c.toNat = 8 * j by omega]] at ho
      obtain ⟨o, hoo⟩ : ∃ o : Nat, o = y + b.toNat * 2 ^ (8 * j) := ⟨_, rfl⟩
      rw [← hoo] at ho
      have HN : Hid (o = valF (s.data.toList.take (j + 1))) := hid (by
        rw [take_snoc s j kj, hb, valF_app, List.length_take, Array.length_toList, show s.data.size = s.size from rfl, Nat.min_eq_left (by omega), e2, ← HI.out]
        exact hoo)
      clear hfit hyl e2 hoo
      go_wp2
      go_round
      case rel => exact ⟨j + 1, o, by omega, by go_num, rfl, HN⟩
      case measure => simp [intOf]; omega
    · have zj : ¬ (j : Int) < 8 := by omega
      have HE : Hid (y = val8 s.data.toList) := hid (by
        have e8 : j = 8 := by omega
        subst e8
        exact HI.out)
      go_wp2
      go_ret
      exact ⟨ret_int (by rw [HE.out]), rfl⟩
structure SbI (w : World) (x j : Nat) (wr : World) : Prop where
  t : Touch [] w wr
  b : ∃ cs : Array Value, wr.heap[w.heap.size]? = some (.cells cs 178 (0, 0)) ∧ cs.size = 8 ∧ ∀ i, i < j → cs[i]? = some (.int .u8 ((x / 256 ^ i % 256 : Nat) : Int))
theorem SbI.step {w : World} {x j : Nat} {wr : World} (h : SbI w x j wr) (hj : j < 8) : SbI w x (j + 1) (wr.setCell ⟨w.heap.size, j, none⟩ (.int .u8 ((x / 256 ^ j % 256 : Nat) : Int))) := by
  obtain ⟨t, cs, h1, h2, h3⟩ := h
  refine ⟨t.setCell (Or.inr (Nat.le_refl _)) _, cs.setIfInBounds j _, Joins.block_setCell h1 _, by simp [h2], fun i hi => ?_⟩
  by_cases e : i = j
  · subst e; rw [Array.getElem?_setIfInBounds_self, if_pos (by omega)]
  · rw [Array.getElem?_setIfInBounds_ne (by omega)]; exact h3 i (by omega)
theorem SbI.conv {w : World} {x : Nat} {wr : World} (h : SbI w x 8 wr) : (convert 91 9 (.slice (some ⟨w.heap.size, 0, none⟩) 8 8)).run Tryz.prog wr = .ok (.string ⟨(by8 x).toArray⟩) wr := by
  obtain ⟨t, cs, h1, h2, h3⟩ := h
  have := run_convert_bytes_back (P := Tryz.prog) wr 91 9 5 ⟨w.heap.size, 0, none⟩ 8 (by8 x) Tryz.underlying91 Tryz.underlying5 Tryz.underlying9 (fun j hj => by
    rw [by8_len] at hj
    have e : (by8 x)[j]? = some (UInt8.ofNat (x / 256 ^ j % 256)) := byF_get 8 x j hj
    rw [List.getElem?_eq_getElem (by rw [by8_len]; exact hj)] at e
    rw [Option.some.inj e, show (⟨w.heap.size, 0, none⟩ : Addr).add j = ⟨w.heap.size, j, none⟩ by simp [Addr.add]; exact fun h => h.symm, UInt8.toNat_ofNat', Nat.mod_eq_of_lt (by omega)]
    simp [World.cell?, h1, h3 j hj])
  rw [by8_len] at this
  exact this
theorem SbI.cell {w : World} {x j : Nat} {wr : World} (h : SbI w x j wr) (hj : j < 8) : (∃ v, wr.cell? ⟨w.heap.size, j, none⟩ = some v) ∧ wr.frozen? ⟨w.heap.size, j, none⟩ = false := by
  obtain ⟨t, cs, h1, h2, h3⟩ := h
  exact ⟨⟨cs[j]'(by omega), by simp [World.cell?, h1]⟩, Joins.unfrozen_of_block h1 _⟩
set_option maxHeartbeats 1000000 in
theorem sumBytes_ (w : World) (x : Nat) (hx : x < 18446744073709551616) : Calls Tryz.prog 55 #[.int .u64 x] w fun e w' => e = .returned (.string ⟨(by8 x).toArray⟩) ∧ Touch [] w w' := by
  go_enter Tryz.func55, Tryz.ntmps55
  go_wp2
  go_loopw [5] (fun i wr => ∃ (j : Nat), j ≤ 8 ∧ i = .int .i64 j ∧ Hid (SbI w x j wr)) (fun i _ => 8 - (intOf i).toNat)
  case atStart => exact ⟨0, by omega, rfl, hid ⟨(Touch.refl _ _).alloc _, ⟨_, heap_alloc_new w _, by rfl, fun i h => absurd h (Nat.not_lt_zero _)⟩⟩⟩
  case round =>
    obtain ⟨j, hj, rfl, HI⟩ := hrel
    by_cases hlt : j < 8
    · have zj : (j : Int) < 8 := by omega
      obtain ⟨c, hc⟩ : ∃ c : Int, 8 * (j : Int) = c := ⟨_, rfl⟩
      have c0 : 0 ≤ c := by omega
      have c1 : c ≤ 63 := by omega
      have wc : IntKind.i64.wrap c = c := by rw [IntKind.wrap_i64]; omega
      obtain ⟨⟨v, hv⟩, fr⟩ := HI.out.cell hlt
      have HS := hid (HI.out.step hlt)
      have e : (x : Int) / 2 ^ c.toNat = ((x / 256 ^ j : Nat) : Int) := by
        rw [show c.toNat = 8 * j by omega, show (256 : Nat) ^ j = 2 ^ (8 * j) by rw [Nat.pow_mul]]; push_cast; rfl
      have e2 : ((x / 256 ^ j : Nat) : Int) % 256 = ((x / 256 ^ j % 256 : Nat) : Int) := by omega
      generalize x / 256 ^ j % 256 = y at *
      generalize x / 256 ^ j = z at *
      go_wp2
      exact ⟨⟨j + 1, by omega, by go_num, HS⟩, by simp [intOf]; omega⟩
    · have e8 : j = 8 := by omega
      subst e8
      have hcv := HI.out.conv
      go_wp2
      go_ret
      exact ⟨rfl, HI.out.t⟩
theorem extract_data (s : ByteArray) (i j : Nat) : (s.extract i j).data.toList = (s.data.toList.take j).drop i := by
  rw [ByteArray.data_extract, Array.toList_extract]; simp [List.extract, List.drop_take]
def endS (l : List UInt8) : Nat × Bool := if l.length < 8 then (0, false) else (val8 (l.drop (l.length - 8)), decide (val8 (l.drop (l.length - 8)) = sumL (l.take (l.length - 8))))
theorem ret_ub {k : IntKind} {a a' : Int} {b b' : Bool} (h : a = a') (h2 : b = b') : Ending.returned (.tuple #[.int k a, .bool b]) = .returned (.tuple #[.int k a', .bool b']) := by rw [h, h2]
set_option maxHeartbeats 1000000 in
theorem sum_ (w : World) (s : ByteArray) (hs : s.size ≤ 9223372036854775807) : Calls Tryz.prog 24 #[.string s] w fun e w' => e = .returned (.tuple #[.int .u64 ((endS s.data.toList).1 : Nat), .bool (endS s.data.toList).2]) ∧ w' = w := by
  have hl : s.data.toList.length = s.size := by simp
  by_cases h : s.size < 8
  · have hw : IntKind.i64.wrap ((s.size : Int) - 8) = (s.size : Int) - 8 := by rw [IntKind.wrap_i64]; omega
    have z : (s.size : Int) - 8 < 0 := by omega
    have e : endS s.data.toList = (0, false) := by unfold endS; rw [if_pos (by omega)]
    rw [e]
    clear hl e
    go_enter Tryz.func24, Tryz.ntmps24
    go_wp2
    go_ret2
    exact ⟨rfl, rfl⟩
  · have hw : IntKind.i64.wrap ((s.size : Int) - 8) = ((s.size - 8 : Nat) : Int) := by rw [IntKind.wrap_i64]; omega
    obtain ⟨k, hk⟩ : ∃ k, k = s.size - 8 := ⟨_, rfl⟩
    have HK : Hid (k + 8 = s.size) := hid (by omega)
    have e : endS s.data.toList = (val8 (s.data.toList.drop k), decide (val8 (s.data.toList.drop k) = sumL (s.data.toList.take k))) := by unfold endS; rw [if_neg (by omega), hl, hk]
    rw [e]
    rw [← hk] at hw
    have sl1 : ∀ w, (Instr.slice 9 (.string s) (some (.int .i64 (k : Int))) none none).run Tryz.prog w = .ok (.string (s.extract k s.size)) w := fun w => by
      have z0 : (0 : Int) ≤ (k : Int) := by omega
      have z1 : (k : Int) ≤ (s.size : Int) := by omega
      go_simp
    have sl2 : ∀ w, (Instr.slice 9 (.string s) none (some (.int .i64 (k : Int))) none).run Tryz.prog w = .ok (.string (s.extract 0 k)) w := fun w => by
      have z0 : (0 : Int) ≤ (k : Int) := by omega
      have z1 : (k : Int) ≤ (s.size : Int) := by omega
      go_simp
    have z : ¬ (k : Int) < 0 := by omega
    have H1 := hid (fun w => takeSum_ w (s.extract k s.size) (by rw [ByteArray.size_extract]; omega))
    have H2 := hid (fun w => sumOf_ (s.extract 0 k) (by rw [ByteArray.size_extract]; omega) w)
    rw [extract_data, List.take_of_length_le (by omega)] at H1
    rw [extract_data, List.drop_zero] at H2
    generalize val8 (s.data.toList.drop k) = v at *
    generalize sumL (s.data.toList.take k) = u at *
    clear hl hk e h hs
    go_enter Tryz.func24, Tryz.ntmps24
    go_wp2_with (first
      | (go_at_call 78; refine (H1.out _).mono ?_; rintro e w1 ⟨rfl, rfl⟩)
      | (go_at_call 79; refine (H2.out _).mono ?_; rintro e w2 ⟨rfl, rfl⟩))
    go_ret2
    exact ⟨ret_ub rfl (by rw [Bool.eq_iff_iff, beq_iff_eq, decide_eq_true_eq]; omega), rfl⟩
theorem data_app (a b : ByteArray) : (a ++ b).data.toList = a.data.toList ++ b.data.toList := by simp [ByteArray.data_append]
theorem sealed_ (w : World) (s : ByteArray) (hs : s.size ≤ 9223372036854775000) : Calls Tryz.prog 39 #[.string s] w fun e w' => e = .returned (.string ⟨(s.data.toList ++ by8 (sumL s.data.toList)).toArray⟩) ∧ Touch [] w w' := by
  have H1 := hid (fun w => sumOf_ s (by omega) w)
  have H2 := hid (fun w => sumBytes_ w (sumL s.data.toList) (sumL_lt _))
  have had : ∀ w, (Op.stringOp .add s ⟨(by8 (sumL s.data.toList)).toArray⟩).run Tryz.prog w = .ok (.string (s ++ ⟨(by8 (sumL s.data.toList)).toArray⟩)) w := fun w => run_string_add_sum w _ _ (by have := by8_len (sumL s.data.toList); show s.size + (by8 (sumL s.data.toList)).toArray.size ≤ _; simp; omega)
  have he : (⟨(s.data.toList ++ by8 (sumL s.data.toList)).toArray⟩ : ByteArray) = s ++ ⟨(by8 (sumL s.data.toList)).toArray⟩ := by
    apply ByteArray.ext; simp [ByteArray.data_append]
  rw [he]
  generalize sumL s.data.toList = u at *
  generalize (⟨(by8 u).toArray⟩ : ByteArray) = bb at *
  clear he hs
  go_enter Tryz.func39, Tryz.ntmps39
  go_wp2_with (first
    | (go_at_call 79; refine (H1.out _).mono ?_; rintro e w1 ⟨rfl, rfl⟩)
    | (go_at_call 55; refine (H2.out _).mono ?_; rintro e w2 ⟨rfl, T2⟩))
  go_ret
  exact ⟨rfl, T2⟩
end Go.Proofs.YtpefbmheblfbeaaGreat.Sn
/- The contracts of the program's and the document's bytes of keys, each way (layer 2's texts, laid anew); the conditions are those that each states. -/
namespace Go.Proofs.YtpefbmheblfbeaaGreat.Sn
open Go.RowKit Go.Sort Go.Shelf
set_option linter.unusedVariables false
def Gr (w w' : World) : Prop := ∃ q os, w' = grow (w.drewN q) os
theorem Gr.refl (w : World) : Gr w w := ⟨0, #[], by rw [grow_empty]; rfl⟩
theorem Gr.alloc {w w' : World} (h : Gr w w') (o : Obj) : Gr w (w'.alloc o) := by
  obtain ⟨q, os, rfl⟩ := h
  exact ⟨q, os ++ #[o], by rw [alloc_eq_grow, grow_grow]⟩
theorem Gr.grow {w w' : World} (h : Gr w w') (n : Nat) (os' : Array Obj) : Gr w (grow (w'.drewN n) os') := by
  obtain ⟨q, os, rfl⟩ := h
  exact ⟨q + n, os ++ os', by show Sort.grow (Sort.grow ((w.drewN q).drewN n) os) os' = _; rw [grow_grow, World.drewN_drewN]⟩
theorem Gr.trans {a b c : World} (h : Gr a b) (k : Gr b c) : Gr a c := by
  obtain ⟨q, os, rfl⟩ := k
  exact h.grow q os
theorem Gr.below {w w' : World} (h : Gr w w') : Below w.heap.size w w' := by
  obtain ⟨q, os, rfl⟩ := h
  exact ⟨rfl, rfl, rfl, by rw [size_grow]; exact Nat.le_add_right _ _, fun k hk => heap_grow_old _ _ hk⟩
theorem check13_ok (a : Int) (s : ByteArray) (w : World) (h : s.size ≤ 64) :
    Calls Tryz.prog 113 #[.agg #[.int .u16 a, .string s]] w fun e w' => e = .returned (.int .i64 0) ∧ Gr w w' := by
  go_enter Tryz.func113, Tryz.ntmps113
  go_wp2
  go_ret
  exact ⟨rfl, (Gr.refl _).alloc _⟩
theorem Gr.cell {w w' : World} (hg : Gr w w') {a : Addr} {v : Value} (h : w.cell? a = some v) (hb : a.block < w.heap.size) : w'.cell? a = some v := by
  rw [hg.below.cell hb]; exact h
theorem Gr.size {w w' : World} (hg : Gr w w') : w.heap.size ≤ w'.heap.size := hg.below.size
theorem gr_grow (w : World) (n : Nat) (os : Array Obj) : Gr w (grow (w.drewN n) os) := ⟨n, os, rfl⟩
def byt (x : Int) : UInt8 := UInt8.ofNat x.toNat
theorem byt_toNat (x : Int) (h0 : 0 ≤ x) (h1 : x ≤ 255) : ((byt x).toNat : Int) = x := by
  unfold byt
  rw [UInt8.toNat_ofNat']
  omega
def hd3 (a : Int) (s : ByteArray) : ByteArray := ⟨#[byt (a % 256), byt (a / 256), byt ((s.size : Int) % 256)]⟩
theorem hd3_size (a : Int) (s : ByteArray) : (hd3 a s).size = 3 := rfl
theorem head37 (a : Int) (s : ByteArray) (w : World) (h0 : 0 ≤ a) (h1 : a ≤ 65535) (hs : s.size ≤ maxLen) :
    Calls Tryz.prog 143 #[.agg #[.int .u16 a, .string s]] w fun e w' => e = .returned (.agg #[.int .u8 (a % 256), .int .u8 (a / 256), .int .u8 ((s.size : Int) % 256)]) ∧ Gr w w' := by
  unfold maxLen at hs
  go_enter Tryz.func143, Tryz.ntmps143
  go_wp2
  exact bodyPost_ret (v := .agg #[.int .u8 (a % 256), .int .u8 (a / 256), .int .u8 ((s.size : Int) % 256)]) (by simp [results, Tryz.results143, go_sem]) rfl ⟨rfl, ((Gr.refl _).alloc _).alloc _⟩
theorem conv3 (W : World) (b cap : Nat) (x y z : Int) (hx : 0 ≤ x ∧ x ≤ 255) (hy : 0 ≤ y ∧ y ≤ 255) (hz : 0 ≤ z ∧ z ≤ 255)
    (c0 : W.cell? ⟨b, 0, none⟩ = some (.int .u8 x)) (c1 : W.cell? ⟨b, 1, none⟩ = some (.int .u8 y)) (c2 : W.cell? ⟨b, 2, none⟩ = some (.int .u8 z)) :
    (convert 91 9 (.slice (some ⟨b, 0, none⟩) 3 cap)).run Tryz.prog W = .ok (.string ⟨#[byt x, byt y, byt z]⟩) W := by
  refine run_convert_bytes_back W 91 9 5 ⟨b, 0, none⟩ cap [byt x, byt y, byt z] Tryz.underlying91 Tryz.underlying5 Tryz.underlying9 fun j hj => ?_
  match j, hj with
  | 0, _ => simp only [List.getElem_cons_zero]; rw [byt_toNat x hx.1 hx.2]; exact c0
  | 1, _ => simp only [List.getElem_cons_zero, List.getElem_cons_succ]; rw [byt_toNat y hy.1 hy.2]; exact c1
  | 2, _ => simp only [List.getElem_cons_zero, List.getElem_cons_succ]; rw [byt_toNat z hz.1 hz.2]; exact c2
theorem add_hd (a : Int) (s : ByteArray) (hs : s.size ≤ 9223372036854775800) (w : World) : (Op.stringOp .add (hd3 a s) s).run Tryz.prog w = .ok (.string (hd3 a s ++ s)) w := run_string_add_sum w _ _ (by rw [hd3_size]; omega)
set_option maxHeartbeats 1000000 in
theorem bytes16_ok (a : Int) (s : ByteArray) (w : World) (h0 : 0 ≤ a) (h1 : a ≤ 65535) (h : s.size ≤ 64) :
    Calls Tryz.prog 124 #[.agg #[.int .u16 a, .string s]] w fun e w' => e = .returned (.tuple #[.string (hd3 a s ++ s), .int .i64 0]) ∧ Gr w w' := by
  have mixed : Tryz.prog.follows .mixedOrders = true := by kernel_rfl
  have had := add_hd a s (by omega)
  go_enter Tryz.func124, Tryz.ntmps124
  go_wp2_with fail
  refine (check13_ok _ _ _ h).mono ?_
  rintro e w1 ⟨rfl, hg⟩
  have c0 : w1.cell? ⟨w.heap.size, 0, none⟩ = some (.int .u16 a) := hg.cell (by simp) (by simp)
  have c1 : w1.cell? ⟨w.heap.size, 1, none⟩ = some (.string s) := hg.cell (by simp) (by simp)
  go_wp2_with fail
  refine (head37 a s _ h0 h1 (by unfold maxLen; omega)).mono ?_
  rintro e w2 ⟨rfl, hg2⟩
  have hz : w.heap.size < w1.heap.size := by have := hg.size; simp at this; omega
  have hz2 := hg2.size
  have d1 : w2.cell? ⟨w.heap.size, 1, none⟩ = some (.string s) := hg2.cell c1 (by exact hz)
  have G : Hid (Gr w w2) := (((Gr.refl _).alloc _).trans hg).trans hg2
  clear hg hg2 c0 c1
  go_wp2_with fail
  obtain ⟨V, hV⟩ : ∃ V, V = w2.alloc (.cells #[.int .u8 (a % 256), .int .u8 (a / 256), .int .u8 ((s.size : Int) % 256)] 227) := ⟨_, rfl⟩
  have GV : Hid (Gr w V) := by rw [hV]; exact G.out.alloc _
  have v0 : ∀ n os, (grow (V.drewN n) os).cell? ⟨w2.heap.size, 0, none⟩ = some (.int .u8 (a % 256)) := fun n os => (gr_grow V n os).cell (by rw [hV]; simp) (by rw [hV]; simp)
  have v1 : ∀ n os, (grow (V.drewN n) os).cell? ⟨w2.heap.size, 1, none⟩ = some (.int .u8 (a / 256)) := fun n os => (gr_grow V n os).cell (by rw [hV]; simp) (by rw [hV]; simp)
  have v2 : ∀ n os, (grow (V.drewN n) os).cell? ⟨w2.heap.size, 2, none⟩ = some (.int .u8 ((s.size : Int) % 256)) := fun n os => (gr_grow V n os).cell (by rw [hV]; simp) (by rw [hV]; simp)
  have v3 : ∀ n os, (grow (V.drewN n) os).cell? ⟨w.heap.size, 1, none⟩ = some (.string s) := fun n os => by
    have : Gr w2 V := by rw [hV]; exact (Gr.refl _).alloc _
    exact (this.grow n os).cell d1 (by show w.heap.size < _; omega)
  have hcv : ∀ n os, (convert 91 9 (.slice (some ⟨w2.heap.size, 0, none⟩) 3 3)).run Tryz.prog (grow (V.drewN n) os) = .ok (.string (hd3 a s)) (grow (V.drewN n) os) := fun n os => conv3 _ _ 3 _ _ _ (by omega) (by omega) (by omega) (v0 n os) (v1 n os) (v2 n os)
  rw [← hV]
  clear hV v0 v1 v2 d1
  go_quiet_grown (fail)
  go_wp2
  go_ret2
  exact ⟨rfl, GV.out.grow _ _⟩
theorem or16 (p q : Nat) (hp : p ≤ 255) (hq : q ≤ 255) : bits .or .u16 (p : Int) ((q : Int) * 256) = (p : Int) + 256 * (q : Int) := by
  have h1 : (BitVec.ofInt 16 (p : Int)).toNat = p := by
    rw [BitVec.ofInt_natCast, BitVec.toNat_ofNat]; exact Nat.mod_eq_of_lt (by omega)
  have h2 : (BitVec.ofInt 16 ((q : Int) * 256)).toNat = q * 256 := by
    rw [show (q : Int) * 256 = ((q * 256 : Nat) : Int) by omega, BitVec.ofInt_natCast, BitVec.toNat_ofNat]; exact Nat.mod_eq_of_lt (by omega)
  show IntKind.u16.wrap ((BitVec.ofInt 16 (p : Int) ||| BitVec.ofInt 16 ((q : Int) * 256)).toNat : Int) = _
  have h3 : p ||| q * 256 = p + 256 * q := by
    have := Nat.two_pow_add_eq_or_of_lt (i := 8) (b := p) (by omega) q
    rw [Nat.or_comm, Nat.mul_comm q 256, ← this]
    omega
  rw [BitVec.toNat_or, h1, h2, h3, IntKind.wrap_u16]
  omega
theorem Below.drewN {B : Nat} {a w : World} (h : Below B a w) (n : Nat) : Below B a (w.drewN n) := ⟨h.os, h.tape, h.output, h.size, h.block⟩
def cren : Go.Shelf.Ren := ⟨fun | 316 => 153 | n => n, fun | 37 => 91 | 127 => 170 | n => n, fun | n => n⟩
theorem claysM : Go.Proofs.LaysM.n316 Tryz.prog cren := {
  mixed := by kernel_rfl
  f316 := Tryz.func153.trans (congrArg some (by kernel_rfl))
  t0 := Tryz.underlying0
  a0 := Tryz.isAgg0
  z0 := Tryz.sizeOf0
  v0 := Tryz.zeroValue0
  t3 := Tryz.underlying3
  a3 := Tryz.isAgg3
  z3 := Tryz.sizeOf3
  v3 := Tryz.zeroValue3
  t4 := Tryz.underlying4
  a4 := Tryz.isAgg4
  z4 := Tryz.sizeOf4
  v4 := Tryz.zeroValue4
  t5 := Tryz.underlying5
  a5 := Tryz.isAgg5
  z5 := Tryz.sizeOf5
  v5 := Tryz.zeroValue5
  t9 := Tryz.underlying9
  a9 := Tryz.isAgg9
  z9 := Tryz.sizeOf9
  v9 := Tryz.zeroValue9
  t37 := Tryz.underlying91
  a37 := Tryz.isAgg91
  z37 := Tryz.sizeOf91
  v37 := Tryz.zeroValue91
  t127 := Tryz.underlying170
  a127 := Tryz.isAgg170
  z127 := Tryz.sizeOf170
  v127 := Tryz.zeroValue170
  i0 := by kernel_rfl
  i3 := by kernel_rfl
  i4 := by kernel_rfl
  i5 := by kernel_rfl
  i9 := by kernel_rfl
  i37 := by kernel_rfl
  i127 := by kernel_rfl }
theorem clone36 (s : ByteArray) (w : World) (hs : s.size ≤ 281474976710656) :
    Calls Tryz.prog 144 #[.string s] w fun e w' => e = .returned (.string s) ∧ Below w.heap.size w w' := by
  have H : Hid _ := hs
  clear hs
  go_enter Tryz.func144, Tryz.ntmps144
  go_wp2_with (go_at_call 153; refine (Any.stringslite_Clone claysM s _ H.out).mono ?_; rintro e w1 ⟨rfl, hg⟩)
  go_ret
  exact ⟨rfl, hg⟩
def zeroKey : Value := .agg #[.int .u16 0, .string ⟨#[]⟩]
theorem take18_early (s : ByteArray) (at_ : Int) (w : World) (hs : s.size ≤ 281474976710656) (ha : at_ ≤ 9223372036854775807) (h : at_ < 0 ∨ (s.size : Int) - at_ < 3) :
    Calls Tryz.prog 130 #[.string s, .int .i64 at_] w fun e w' => e = .returned (.tuple #[zeroKey, .int .i64 0, .bool false]) ∧ Below w.heap.size w w' := by
  by_cases h0 : at_ < 0
  · go_enter Tryz.func130, Tryz.ntmps130
    go_wp2
    exact bodyPost_ret (v := .tuple #[zeroKey, .int .i64 0, .bool false]) (by simp [results, Tryz.results130, go_sem, zeroKey]) rfl ⟨rfl, (Below.refl _ _).alloc (Nat.le_refl _) _⟩
  · have h1 : (s.size : Int) - at_ < 3 := by omega
    have h2 : 0 ≤ at_ := by omega
    have hw : IntKind.i64.wrap ((s.size : Int) - at_) = (s.size : Int) - at_ := by rw [IntKind.wrap_i64]; omega
    clear h ha hs
    go_enter Tryz.func130, Tryz.ntmps130
    go_wp2
    exact bodyPost_ret (v := .tuple #[zeroKey, .int .i64 0, .bool false]) (by simp [results, Tryz.results130, go_sem, zeroKey]) rfl ⟨rfl, (Below.refl _ _).alloc (Nat.le_refl _) _⟩
theorem take18_late (s : ByteArray) (k n : Nat) (w : World) (hs : s.size ≤ 281474976710656) (hk : k + 3 ≤ s.size) (hn : s[k + 2].toNat = n) (h : 64 < n ∨ s.size < k + 3 + n) :
    Calls Tryz.prog 130 #[.string s, .int .i64 k] w fun e w' => e = .returned (.tuple #[zeroKey, .int .i64 0, .bool false]) ∧ Below w.heap.size w w' := by
  have k2 : (k : Int) + 2 < (s.size : Int) := by omega
  have k3 : ((k : Int) + 2).toNat = k + 2 := by omega
  have hx : ¬ (s.size : Int) - (k : Int) < 3 := by omega
  have hn0 : (0 : Int) ≤ (n : Int) := by omega
  have hn1 : (n : Int) ≤ 255 := by
    have := s[k + 2].toNat_lt
    omega
  by_cases h0 : 64 < n
  · have h0' : (64 : Int) < (n : Int) := by omega
    go_enter Tryz.func130, Tryz.ntmps130
    go_wp2
    exact bodyPost_ret (v := .tuple #[zeroKey, .int .i64 0, .bool false]) (by simp [results, Tryz.results130, go_sem, zeroKey]) rfl ⟨rfl, (Below.refl _ _).alloc (Nat.le_refl _) _⟩
  · have h0' : ¬ (64 : Int) < (n : Int) := by omega
    have h1' : (s.size : Int) - ((k : Int) + 3) < (n : Int) := by omega
    go_enter Tryz.func130, Tryz.ntmps130
    go_wp2
    exact bodyPost_ret (v := .tuple #[zeroKey, .int .i64 0, .bool false]) (by simp [results, Tryz.results130, go_sem, zeroKey]) rfl ⟨rfl, (Below.refl _ _).alloc (Nat.le_refl _) _⟩
set_option maxHeartbeats 1000000 in
theorem take18_ok (s : ByteArray) (k n : Nat) (w : World) (hs : s.size ≤ 281474976710656) (hk : k + 3 ≤ s.size) (hn : s[k + 2].toNat = n) (p q : Nat) (hp : s[k].toNat = p) (hq : s[k + 1].toNat = q) (h : n ≤ 64) (h' : k + 3 + n ≤ s.size) :
    Calls Tryz.prog 130 #[.string s, .int .i64 k] w fun e w' => e = .returned (.tuple #[.agg #[.int .u16 ((p : Int) + 256 * (q : Int)), .string (s.extract (k + 3) (k + 3 + n))], .int .i64 ((k : Int) + 3 + (n : Int)), .bool true]) ∧ Below w.heap.size w w' := by
  have k0 : (k : Int) < (s.size : Int) := by omega
  have k1 : (k : Int) + 1 < (s.size : Int) := by omega
  have k1' : ((k : Int) + 1).toNat = k + 1 := by omega
  have k2 : (k : Int) + 2 < (s.size : Int) := by omega
  have k3 : ((k : Int) + 2).toNat = k + 2 := by omega
  have hx : ¬ (s.size : Int) - (k : Int) < 3 := by omega
  have hn0 : (0 : Int) ≤ (n : Int) := by omega
  have hn1 : (n : Int) ≤ 255 := by omega
  have h0' : ¬ (64 : Int) < (n : Int) := by omega
  have h1' : ¬ (s.size : Int) - ((k : Int) + 3) < (n : Int) := by omega
  have p1 : p ≤ 255 := by
    have := s[k].toNat_lt
    omega
  have q1 : q ≤ 255 := by
    have := s[k + 1].toNat_lt
    omega
  have wk : IntKind.i64.wrap ((k : Int) + 1) = (k : Int) + 1 := by rw [IntKind.wrap_i64]; omega
  have wp : IntKind.u16.wrap (p : Int) = (p : Int) := by rw [IntKind.wrap_u16]; omega
  have wq : IntKind.u16.wrap (q : Int) = (q : Int) := by rw [IntKind.wrap_u16]; omega
  have hsl : ∀ w, (Instr.slice 9 (.string s) (some (.int .i64 ((k : Int) + 3))) (some (.int .i64 ((k : Int) + 3 + (n : Int)))) none).run Tryz.prog w = .ok (.string (s.extract (k + 3) (k + 3 + n))) w := fun w => by
    rw [run_slice_string w 9 s .i64 .i64 _ _ Tryz.underlying9 (by omega) (by omega) (by omega), show ((k : Int) + 3).toNat = k + 3 by omega, show ((k : Int) + 3 + (n : Int)).toNat = k + 3 + n by omega]
  go_enter Tryz.func130, Tryz.ntmps130
  go_wp2
  go_quiet (fail)
  have hor := or16 p q p1 q1
  go_wp2_with fail
  refine (clone36 _ _ (by have : (s.extract (k + 3) (k + 3 + n)).size ≤ s.size := by rw [ByteArray.size_extract]; omega
                          omega)).mono ?_
  rintro e w1 ⟨rfl, hb⟩
  have c0 : w1.cell? ⟨w.heap.size, 0, none⟩ = some (.int .u16 0) := by rw [hb.cell (by simp)]; simp
  have c1 : w1.cell? ⟨w.heap.size, 1, none⟩ = some (.string ⟨#[]⟩) := by rw [hb.cell (by simp)]; simp
  have f0 : w1.frozen? ⟨w.heap.size, 0, none⟩ = false := by rw [hb.frozen (by simp)]; simp
  have f1 : w1.frozen? ⟨w.heap.size, 1, none⟩ = false := by rw [hb.frozen (by simp)]; simp
  go_wp2
  have B : Below w.heap.size w w1 := (Below.drewN ((Below.refl _ _).alloc (Nat.le_refl _) _) _).trans (hb.mono (by simp))
  exact bodyPost_ret (v := .tuple #[.agg #[.int .u16 ((p : Int) + 256 * (q : Int)), .string (s.extract (k + 3) (k + 3 + n))], .int .i64 ((k : Int) + 3 + (n : Int)), .bool true]) (by simp [results, Tryz.results130, go_sem, c0, c1]) rfl
    ⟨rfl, (B.setCell (Nat.le_refl _) _).setCell (Nat.le_refl _) _⟩
end Go.Proofs.YtpefbmheblfbeaaGreat.Sn
/- The library's builder, laid at this program: writing a string, a byte, and what it holds; one application of a theorem of the library each; and the program's telling of numbers, keys and outcomes into it. -/
namespace Go.Proofs.YtpefbmheblfbeaaGreat.Sn
open Go.RowKit Go.Sort Go.Shelf
set_option linter.unusedVariables false
def bren : Go.Shelf.Ren := ⟨fun | 166 => 33 | 167 => 125 | 169 => 40 | 240 => 86 | 276 => 123 | n => n, fun | 37 => 91 | 70 => 90 | 72 => 93 | 75 => 95 | 164 => 208 | 127 => 170 | 80 => 104 | n => n, fun | n => n⟩
theorem blays : Go.Proofs.Lays.n166 Tryz.prog bren := {
  mixed := by kernel_rfl
  f166 := Tryz.func33.trans (congrArg some (by kernel_rfl))
  f240 := Tryz.func86.trans (congrArg some (by kernel_rfl))
  f276 := Tryz.func123.trans (congrArg some (by kernel_rfl))
  t0 := Tryz.underlying0
  a0 := Tryz.isAgg0
  z0 := Tryz.sizeOf0
  v0 := Tryz.zeroValue0
  t3 := Tryz.underlying3
  a3 := Tryz.isAgg3
  z3 := Tryz.sizeOf3
  v3 := Tryz.zeroValue3
  t4 := Tryz.underlying4
  a4 := Tryz.isAgg4
  z4 := Tryz.sizeOf4
  v4 := Tryz.zeroValue4
  t9 := Tryz.underlying9
  a9 := Tryz.isAgg9
  z9 := Tryz.sizeOf9
  v9 := Tryz.zeroValue9
  t20 := Tryz.underlying20
  a20 := Tryz.isAgg20
  z20 := Tryz.sizeOf20
  v20 := Tryz.zeroValue20
  t37 := Tryz.underlying91
  a37 := Tryz.isAgg91
  z37 := Tryz.sizeOf91
  v37 := Tryz.zeroValue91
  t70 := Tryz.underlying90
  a70 := Tryz.isAgg90
  z70 := Tryz.sizeOf90
  v70 := Tryz.zeroValue90
  t72 := Tryz.underlying93
  a72 := Tryz.isAgg93
  z72 := Tryz.sizeOf93
  v72 := Tryz.zeroValue93
  t75 := Tryz.underlying95
  a75 := Tryz.isAgg95
  z75 := Tryz.sizeOf95
  v75 := Tryz.zeroValue95
  t164 := Tryz.underlying208
  a164 := Tryz.isAgg208
  z164 := Tryz.sizeOf208
  v164 := Tryz.zeroValue208 }
theorem blayb : Go.Proofs.Lays.n167 Tryz.prog bren := {
  mixed := by kernel_rfl
  f167 := Tryz.func125.trans (congrArg some (by kernel_rfl))
  f240 := Tryz.func86.trans (congrArg some (by kernel_rfl))
  f276 := Tryz.func123.trans (congrArg some (by kernel_rfl))
  t0 := Tryz.underlying0
  a0 := Tryz.isAgg0
  z0 := Tryz.sizeOf0
  v0 := Tryz.zeroValue0
  t4 := Tryz.underlying4
  a4 := Tryz.isAgg4
  z4 := Tryz.sizeOf4
  v4 := Tryz.zeroValue4
  t5 := Tryz.underlying5
  a5 := Tryz.isAgg5
  z5 := Tryz.sizeOf5
  v5 := Tryz.zeroValue5
  t9 := Tryz.underlying9
  a9 := Tryz.isAgg9
  z9 := Tryz.sizeOf9
  v9 := Tryz.zeroValue9
  t20 := Tryz.underlying20
  a20 := Tryz.isAgg20
  z20 := Tryz.sizeOf20
  v20 := Tryz.zeroValue20
  t37 := Tryz.underlying91
  a37 := Tryz.isAgg91
  z37 := Tryz.sizeOf91
  v37 := Tryz.zeroValue91
  t70 := Tryz.underlying90
  a70 := Tryz.isAgg90
  z70 := Tryz.sizeOf90
  v70 := Tryz.zeroValue90
  t72 := Tryz.underlying93
  a72 := Tryz.isAgg93
  z72 := Tryz.sizeOf93
  v72 := Tryz.zeroValue93
  t75 := Tryz.underlying95
  a75 := Tryz.isAgg95
  z75 := Tryz.sizeOf95
  v75 := Tryz.zeroValue95
  t164 := Tryz.underlying208
  a164 := Tryz.isAgg208
  z164 := Tryz.sizeOf208
  v164 := Tryz.zeroValue208 }
theorem blayt : Go.Proofs.Lays.n169 Tryz.prog bren := {
  mixed := by kernel_rfl
  f169 := Tryz.func40.trans (congrArg some (by kernel_rfl))
  t0 := Tryz.underlying0
  a0 := Tryz.isAgg0
  z0 := Tryz.sizeOf0
  v0 := Tryz.zeroValue0
  t3 := Tryz.underlying3
  a3 := Tryz.isAgg3
  z3 := Tryz.sizeOf3
  v3 := Tryz.zeroValue3
  t9 := Tryz.underlying9
  a9 := Tryz.isAgg9
  z9 := Tryz.sizeOf9
  v9 := Tryz.zeroValue9
  t37 := Tryz.underlying91
  a37 := Tryz.isAgg91
  z37 := Tryz.sizeOf91
  v37 := Tryz.zeroValue91
  t70 := Tryz.underlying90
  a70 := Tryz.isAgg90
  z70 := Tryz.sizeOf90
  v70 := Tryz.zeroValue90
  t72 := Tryz.underlying93
  a72 := Tryz.isAgg93
  z72 := Tryz.sizeOf93
  v72 := Tryz.zeroValue93
  t127 := Tryz.underlying170
  a127 := Tryz.isAgg170
  z127 := Tryz.sizeOf170
  v127 := Tryz.zeroValue170 }
theorem bextra : Go.Proofs.Builder.Extra Tryz.prog bren where
  sizeBuilder := by kernel_rfl
  liesBuilder := by kernel_rfl
  t5 := Tryz.underlying5
  a5 := Tryz.isAgg5
  z5 := Tryz.sizeOf5
  v5 := Tryz.zeroValue5
  infoByte := by kernel_rfl
  cellsByte := by kernel_rfl
  sizeByte := by kernel_rfl
  neB5 := by decide
def Bd (B b : Nat) (l : List UInt8) (w : World) : Prop := Lib.IsBuilderF 93 5 B b (Lib.byteCells l) w ∧ B ≤ w.heap.size ∧ b < w.heap.size
structure Wr (B b : Nat) (w w' : World) : Prop where
  below : Below B w w'
  keep : ∀ k o, w.heap[k]? = some o → k ≠ b → (∀ c fz, o ≠ .cells c 5 fz) → w'.heap[k]? = some o
theorem Wr.refl (B b : Nat) (w : World) : Wr B b w w := ⟨Below.refl _ _, fun _ _ h _ _ => h⟩
theorem Wr.trans {B b : Nat} {w w1 w2 : World} (h : Wr B b w w1) (k : Wr B b w1 w2) : Wr B b w w2 := ⟨h.below.trans k.below, fun i o hi hb ho => k.keep i o (h.keep i o hi hb ho) hb ho⟩
theorem Wr.touch {B b : Nat} {w w1 w2 : World} (h : Wr B b w w1) (t : Touch [] w1 w2) (hB : B ≤ w.heap.size) : Wr B b w w2 :=
  ⟨h.below.trans (t.below (fun _ e => by cases e) (Nat.le_trans hB h.below.size)), fun i o hi hb ho => t.keep (h.keep i o hi hb ho) (by simp)⟩
theorem Bd.touch {B b : Nat} {l : List UInt8} {w w' : World} (h : Bd B b l w) (t : Touch [] w w') : Bd B b l w' := by
  obtain ⟨h1, h2, h3⟩ := h
  have key : ∀ p, Lib.BuilderAtF 93 5 B b p (Lib.byteCells l) w → Lib.BuilderAtF 93 5 B b p (Lib.byteCells l) w' := fun p h => by
    have hlt := h.lt
    obtain ⟨hB, v, hb, hown, hne⟩ := h
    exact ⟨hB, v, (t.block b hlt (by simp)).trans hb, hown.kept (row := none) ⟨t.os, t.tape, t.output, t.size, fun k hk _ => t.block k hk (by simp)⟩ (by cases hv : v.ownBlock <;> simp), hne⟩
  exact ⟨h1.imp (key _) (key _), Nat.le_trans h2 t.size, Nat.lt_of_lt_of_le h3 t.size⟩
theorem Bd.new (w : World) : Bd w.heap.size w.heap.size [] (w.alloc (.cells #[.pointer none, .slice none 0 0] 93)) :=
  ⟨Lib.IsBuilderF.of (Lib.fresh_isBuilder 93 5 w), by simp, by simp⟩
theorem write_ {B b : Nat} {l : List UInt8} {w : World} (h : Bd B b l w) (s : ByteArray) (hl : l.length + s.size ≤ 140737488355328) :
    Calls Tryz.prog 33 #[PT b, .string s] w fun e w' => e = .returned (.tuple #[.int .i64 s.size, .nilIface]) ∧ Bd B b (l ++ s.data.toList) w' ∧ Wr B b w w' :=
  (Any.Builder_WriteString_k blays bextra B b (Lib.byteCells l) s w h.1 (by rw [Lib.byteCells_length]; exact hl) h.2.1).mono fun e w' ⟨he, h1, h2, h3⟩ => ⟨he, ⟨Or.inr (by rw [Lib.byteCells_append]; exact h1), Nat.le_trans h.2.1 h2.size, Nat.lt_of_lt_of_le h.2.2 h2.size⟩, h2, fun k o hk hb ho => h3 k o hk (fun e => hb (Option.some.inj e)) ho⟩
theorem writeB_ {B b : Nat} {l : List UInt8} {w : World} (h : Bd B b l w) (c : UInt8) (hl : l.length + 1 ≤ 140737488355328) :
    Calls Tryz.prog 125 #[PT b, .int .u8 c.toNat] w fun e w' => e = .returned .nilIface ∧ Bd B b (l ++ [c]) w' ∧ Wr B b w w' :=
  (Any.Builder_WriteByte_k blayb bextra B b (Lib.byteCells l) c.toNat w h.1 (by rw [Lib.byteCells_length]; exact hl) h.2.1).mono fun e w' ⟨he, h1, h2, h3⟩ => ⟨he, ⟨Or.inr (by rw [bytes_snoc]; exact h1), Nat.le_trans h.2.1 h2.size, Nat.lt_of_lt_of_le h.2.2 h2.size⟩, h2, fun k o hk hb ho => h3 k o hk (fun e => hb (Option.some.inj e)) ho⟩
theorem string_ {B b : Nat} {l : List UInt8} {w : World} (h : Bd B b l w) (h0 : l ≠ []) :
    Calls Tryz.prog 40 #[PT b] w fun e w' => e = .returned (.string ⟨l.toArray⟩) ∧ Wr B b w w' :=
  (Any.Builder_String_k blayt bextra B b l w h.1 h0).mono fun e w' ⟨he, h1, h2, h3⟩ => ⟨he, h2, fun k o hk hb ho => h3 k o hk (fun e => hb (Option.some.inj e)) ho⟩
end Go.Proofs.YtpefbmheblfbeaaGreat.Sn
/- Maps keyed by whatever a program may key them by, as plain functions: what lookups, stores, deletes and the two steps of a compound assignment do; no conditions. -/
namespace Go.Proofs.YtpefbmheblfbeaaGreat
open Go.RowKit Go.Maps Go.ChangeMaps Go.WideMaps
set_option linter.unusedVariables false
set_option linter.unusedSimpArgs false
abbrev K := Int × ByteArray
def Ok (x : K) : Prop := (Lit.int .u16 x.1).wf = true ∧ x.2.size ≤ maxLen
def kv (x : K) : Value := .agg #[.int .u16 x.1, .string x.2]
def datK (x : K) : DataW Unit := .agg [.lit (.int .u16 x.1), .lit (.string x.2.data.toList)]
def klit (x : K) : Lit := (datK x).asKey
end Go.Proofs.YtpefbmheblfbeaaGreat
/- A region that draws its order and stores nothing: what is read may be taken first, under a condition on the world that every call keeps. No conditions. -/
namespace Go.Proofs.YtpefbmheblfbeaaGreat
set_option linter.unusedVariables false
section
variable {P : Program} {ops : Array Oper} {Q : Exit → Act → World → Prop} {md : Region.Mode} {S : World → Prop}
theorem wpH_take {i : Nat} {oi : Oper} {v : Value} {fuel : Nat} {listed : Array Bool} {a : Act} {w : World} (d : Option Tmp) (hi : ops[i]? = some oi) (hd : oi.dst = d)
    (hs : Region.noSelect ops = true) (hf : Region.free md ops listed i = true) (hr : (Region.ready md ops listed).contains i = true)
    (hQ : ∀ c a w, Q (.panic c) (a.put oi.dst v) w → Q (.panic c) a w) (hy : YieldsIf P ops S oi v a) (hS : S w)
    (h : wpAnyH P md ops Q S fuel (listed.setIfInBounds i true) (a.put d v) w) : wpAnyH P md ops Q S (fuel + 1) listed a w :=
  wpAnyH_take hi hs hf hr hQ hy hS (by rw [hd]; exact h)
theorem wpH_call {i : Nat} {o : Oper} {fuel : Nat} {listed : Array Bool} {a : Act} {w : World} (hr : Region.ready md ops listed = [i]) (ho : ops[i]? = some o)
    (h : ∀ K' : Act → World → Prop, Shut (∀ a w, S w → wpAnyH P md ops Q S fuel (listed.setIfInBounds i true) a w → K' a w) → if Region.wanted o (yielded ops a.tmps) = true then Oper.wp P o a w K' Q else K' (a.put o.dst undef) w) : wpAnyH P md ops Q S (fuel + 1) listed a w :=
  wpAnyH_all hr (by simp) (fun j hj => by
    simp only [List.mem_singleton] at hj
    subst hj
    exact wpOp_step ho (fun K' hK => h K' (fun a w hS hW => hK a w ⟨hS, hW⟩)))
theorem wp_region_H {id : Nat} {a : Act} {w : World} (hm : P.follows .mixedOrders = true)
    (h : wpAnyH P .any ops Q S ops.size (Array.replicate ops.size false) a w.drew) : (Code.region id ops true).wp P Q a w := wp_region_held hm h
end
end Go.Proofs.YtpefbmheblfbeaaGreat
/- A drawn region whose effects may come in several orders: each order that is ready. -/
namespace Go.Proofs.YtpefbmheblfbeaaGreat
open Go.RowKit Go.Maps Go.ChangeMaps
set_option linter.unusedVariables false
section
variable {P : Program} {ops : Array Oper} {Q : Exit → Go.Act → World → Prop} {md : Region.Mode} {S : World → Prop}
def AllH (P : Program) (md : Region.Mode) (ops : Array Oper) (Q : Exit → Go.Act → World → Prop) (S : World → Prop) (fuel : Nat) (listed : Array Bool) (a : Go.Act) (w : World) (rs : List Nat) : Prop :=
  ∀ i ∈ rs, wpOp P ops Q i (fun a' w' => S w' ∧ wpAnyH P md ops Q S fuel (listed.setIfInBounds i true) a' w') a w
theorem AllH.nil {fuel : Nat} {listed : Array Bool} {a : Go.Act} {w : World} : AllH P md ops Q S fuel listed a w [] := fun _ h => by cases h
theorem AllH.cons {fuel : Nat} {listed : Array Bool} {a : Go.Act} {w : World} {i : Nat} {o : Oper} {rs : List Nat} (ho : ops[i]? = some o)
    (h : ∀ K' : Go.Act → World → Prop, Shut (∀ a w, S w → wpAnyH P md ops Q S fuel (listed.setIfInBounds i true) a w → K' a w) → if Region.wanted o (yielded ops a.tmps) = true then Oper.wp P o a w K' Q else K' (a.put o.dst undef) w)
    (hs : AllH P md ops Q S fuel listed a w rs) : AllH P md ops Q S fuel listed a w (i :: rs) := fun j hj => by
  rcases List.mem_cons.1 hj with rfl | hj
  · exact wpOp_step ho (fun K' hK => h K' (fun a w hS hW => hK a w ⟨hS, hW⟩))
  · exact hs j hj
theorem wpH_ready {rs : List Nat} {fuel : Nat} {listed : Array Bool} {a : Go.Act} {w : World} (hr : Region.ready md ops listed = rs) (hne : rs ≠ [])
    (h : AllH P md ops Q S fuel listed a w rs) : wpAnyH P md ops Q S (fuel + 1) listed a w := wpAnyH_all hr hne h
end
end Go.Proofs.YtpefbmheblfbeaaGreat
/- What a call may touch, and maps keyed by keys as plain functions; no conditions. -/
namespace Go.Proofs.YtpefbmheblfbeaaGreat.Me
open Go.RowKit Go.Sort Go.Maps Go.ChangeMaps Go.WideMaps
set_option maxRecDepth 100000
set_option linter.unusedVariables false
theorem cells36 : Tryz.prog.cellsOf 54 = 2 := by kernel_rfl
theorem shut_key {H : Type} {enc : TypeId × Value → H} {W : World} {base : Nat} {sp : Nat → Bool} {held : Bool} {a : Int} {s : ByteArray} (wa : (Lit.int .u16 a).wf = true) (ws : s.size ≤ maxLen) :
    DataW.Trod enc Tryz.prog W base sp held 54 (.agg #[.int .u16 a, .string s]) (.agg [.lit (.int .u16 a), .lit (.string s.data.toList)]) [] :=
  Joins.shut_agg2 (y0 := (.lit (.int .u16 a), [])) (y1 := (.lit (.string s.data.toList), [])) Tryz.underlying54 (by kernel_rfl) cells36 ⟨1, by simp [DataW.trod, Tryz.underlying52, wa]⟩ ⟨1, by simp [DataW.trod, Tryz.underlying9, ws]⟩
theorem wide36 : (match Tryz.prog.underlying 54 with | some (.array _ _) | some (.struct _) => true | _ => false) = true := by kernel_rfl
theorem deep36 : Tryz.prog.keyTypeAt (Tryz.prog.types.size + 1) 54 = true := by kernel_rfl
theorem formed36 (a : Int) (s : ByteArray) : (Value.agg #[.int .u16 a, .string s]).formed Tryz.prog 54 = true := by
  simp [Value.formed, Tryz.underlying54, cells36]
set_option maxRecDepth 100000 in
theorem law36 : KeyLaw Tryz.prog 54 := deep_law_laid (by kernel_rfl) (m := 2) (by omega) (of_decide_eq_true (by kernel_rfl)) (by kernel_rfl) wide36
theorem keyed36 : Keyed Tryz.prog 54 := Keyed.of_law law36
set_option maxRecDepth 100000 in
theorem key36 {x : K} (h : Ok x) : keyOf Tryz.prog 54 (kv x) = some (klit x) :=
  (keyOf_asKey (enc := fun _ => ()) (w := default) (base := 0) (sp := fun _ => true) (held := true) deep36 wide36 (formed36 _ _) (shut_key h.1 h.2)).1
theorem klit_ne {x y : K} (hx : Ok x) (hy : Ok y) (h : x ≠ y) : klit x ≠ klit y := fun e => by
  have h1 := key36 hx
  have h2 := key36 hy
  rw [← e] at h2
  have h3 := law36.inj h1 h2
  simp only [kv, Value.agg.injEq, Array.mk.injEq, List.cons.injEq, Value.int.injEq, Value.string.injEq, and_true, true_and] at h3
  exact h (Prod.ext h3.1 h3.2)
theorem klit_key {x : K} (h : Ok x) : WideAt.IsKeyLit (klit x) := keyed36.key (key36 h)
def MapAt (w : World) (b n : Nat) (f : K → Option Value) : Prop :=
  ∃ D : DataW Value, w.ownsMap Tryz.prog 54 HR b n D ∧ Maps.size D = n ∧ ∀ k, Ok k → Maps.has D (klit k) = (f k).isSome ∧ ∀ z, D.atKey (klit k) (.held z) = .held ((f k).getD z)
theorem MapAt.kept {w w' : World} {b n : Nat} {f : K → Option Value} (h : MapAt w b n f) (hk : w'.heap[b]? = w.heap[b]?) : MapAt w' b n f := by
  obtain ⟨D, ⟨es, cl, hb, r⟩, h2, h3⟩ := h
  exact ⟨D, ⟨es, cl, hk.trans hb, r⟩, h2, h3⟩
theorem MapAt.lt {w : World} {b n : Nat} {f : K → Option Value} (h : MapAt w b n f) : b < w.heap.size := by
  obtain ⟨D, h1, _⟩ := h
  exact h1.lt
theorem MapAt.congr {w : World} {b n : Nat} {f g : K → Option Value} (h : MapAt w b n f) (hf : ∀ k, Ok k → f k = g k) : MapAt w b n g := by
  obtain ⟨D, h1, h2, h3⟩ := h
  exact ⟨D, h1, h2, fun k hk => by rw [← hf k hk]; exact h3 k hk⟩
theorem mapAt_made (w : World) : MapAt (w.alloc (.map #[] 0)) w.heap.size 0 (fun _ => none) :=
  ⟨.map [], World.ownsMap_made _ _ _ _, rfl, fun k hk => ⟨by simp [Maps.has_eq], fun z => by simp [DataW.atKey]⟩⟩
section
variable {w : World} {b n : Nat} {f : K → Option Value} {t e : TypeId}
theorem MapAt.look (h : MapAt w b n f) (ht : Tryz.prog.underlying t = some (.map 54 e)) {z : Value} (hz : (zeroValue e).run Tryz.prog w = .ok z w) {k : K} (hk : Ok k) :
    (Instr.lookup t (.map (some b)) (kv k) false).run Tryz.prog w = .ok ((f k).getD z) w := by
  obtain ⟨D, h1, h2, h3⟩ := h
  obtain ⟨v, ps, hr, hv⟩ := h1.lookup keyed36 ht hz (zd := .held z) (zp := []) rfl (key36 hk)
  rw [(h3 k hk).2 z] at hv
  simp only [HR, Option.some.injEq, Prod.mk.injEq, DataW.held.injEq] at hv
  rw [hr, hv.1]
theorem MapAt.lookOk (h : MapAt w b n f) (ht : Tryz.prog.underlying t = some (.map 54 e)) {z : Value} (hz : (zeroValue e).run Tryz.prog w = .ok z w) {k : K} (hk : Ok k) :
    (Instr.lookup t (.map (some b)) (kv k) true).run Tryz.prog w = .ok (.tuple #[(f k).getD z, .bool (f k).isSome]) w := by
  obtain ⟨D, h1, h2, h3⟩ := h
  obtain ⟨v, ps, hr, hv⟩ := h1.look_ok keyed36 ht hz (zd := .held z) (zp := []) rfl (key36 hk)
  rw [(h3 k hk).2 z] at hv
  simp only [HR, Option.some.injEq, Prod.mk.injEq, DataW.held.injEq] at hv
  rw [hr, hv.1, (h3 k hk).1]
theorem MapAt.len (h : MapAt w b n f) (ht : Tryz.prog.underlying t = some (.map 54 e)) (ty : TypeId) : (Builtin.len_ #[t] ty #[.map (some b)]).run Tryz.prog w = .ok (.int .i64 n) w := by
  obtain ⟨D, h1, h2, h3⟩ := h
  rw [h1.len ht ty, h2]
def upd (f : K → Option Value) (k : K) (v : Value) : K → Option Value := fun j => if j = k then some v else f j
def del (f : K → Option Value) (k : K) : K → Option Value := fun j => if j = k then none else f j
theorem MapAt.set (h : MapAt w b n f) (ht : Tryz.prog.underlying t = some (.map 54 e)) (hn : n < maxLen) {k : K} (hk : Ok k) (v : Value) :
    ∃ o, (Instr.mapUpdate t (.map (some b)) (kv k) v).run Tryz.prog w = .ok () (setBlock w b o) ∧ MapAt (setBlock w b o) b (if (f k).isSome then n else n + 1) (upd f k v) := by
  obtain ⟨D, h1, h2, h3⟩ := h
  obtain ⟨w', hr, h4, es, cl, es', cl', hb, rfl⟩ := h1.store keyed36 ht hn (key36 hk) (show HR v = some (.held v, []) from rfl)
  have hT := h1.tidy keyed36
  have hs : Maps.size (D.put (klit k) (.held v)) = if (f k).isSome then n else n + 1 := by
    rw [size_put hT, (h3 k hk).1, h2]
  refine ⟨_, hr, D.put (klit k) (.held v), ?_, hs, fun j hj => ?_⟩
  · obtain ⟨es1, cl1, hb1, F1, hs1, hD1⟩ := h4
    refine ⟨es1, cl1, hb1, F1, ?_, hD1⟩
    have e1 : Maps.size (DataW.map ((es1.toList.map (WideElems.rg Tryz.prog 54 HR)).foldr DataW.insert [])) = es1.size := by simp [Maps.size, length_sorted]
    rw [← hD1, hs] at e1
    omega
  · by_cases hjk : j = k
    · subst hjk
      refine ⟨by rw [has_put_same hT.isMap (klit_key hj)]; simp [upd], fun z => ?_⟩
      rw [atKey_put_same hT.isMap (klit_key hj)]
      simp [upd]
    · refine ⟨by rw [has_put_other (klit_ne hj hk hjk), (h3 j hj).1]; simp [upd, hjk], fun z => ?_⟩
      rw [atKey_put_other (klit_ne hj hk hjk), (h3 j hj).2]
      simp [upd, hjk]
theorem MapAt.del (h : MapAt w b n f) (ht : Tryz.prog.underlying t = some (.map 54 e)) {k : K} (hk : Ok k) (ty : TypeId) :
    ∃ o, (Builtin.delete_ #[t, 54] ty #[.map (some b), kv k]).run Tryz.prog w = .ok (.tuple #[]) (setBlock w b o) ∧ MapAt (setBlock w b o) b (if (f k).isSome then n - 1 else n) (YtpefbmheblfbeaaGreat.Me.del f k) := by
  obtain ⟨D, h1, h2, h3⟩ := h
  obtain ⟨w', hr, h4, es, cl, es', cl', hb, rfl⟩ := h1.drop keyed36 ht (key36 hk) ty
  have hT := h1.tidy keyed36
  have hs : Maps.size (D.del (klit k)) = if (f k).isSome then n - 1 else n := by
    have := size_del hT (k := klit k)
    rw [(h3 k hk).1, h2] at this
    split at this <;> simp_all <;> omega
  refine ⟨_, hr, D.del (klit k), ?_, hs, fun j hj => ?_⟩
  · obtain ⟨es1, cl1, hb1, F1, hs1, hD1⟩ := h4
    refine ⟨es1, cl1, hb1, F1, ?_, hD1⟩
    have e1 : Maps.size (DataW.map ((es1.toList.map (WideElems.rg Tryz.prog 54 HR)).foldr DataW.insert [])) = es1.size := by simp [Maps.size, length_sorted]
    rw [← hD1, hs] at e1
    omega
  · by_cases hjk : j = k
    · subst hjk
      refine ⟨by rw [has_del_same]; simp [YtpefbmheblfbeaaGreat.Me.del], fun z => ?_⟩
      rw [atKey_del_same]
      simp [YtpefbmheblfbeaaGreat.Me.del]
    · refine ⟨by rw [has_del_other (klit_ne hj hk hjk), (h3 j hj).1]; simp [YtpefbmheblfbeaaGreat.Me.del, hjk], fun z => ?_⟩
      rw [atKey_del_other (klit_ne hj hk hjk), (h3 j hj).2]
      simp [YtpefbmheblfbeaaGreat.Me.del, hjk]
end
theorem zero61 (w : World) : (zeroValue 193).run Tryz.prog w = .ok (.pointer none) w := by kernel_rfl
theorem eq60 (w : World) (r : Option Nat) : (binOp .eql 192 (.map r) (.map none)).run Tryz.prog w = .ok (.bool r.isNone) w := run_eql_map_nil w _ _ _ r Tryz.underlying192
end Go.Proofs.YtpefbmheblfbeaaGreat.Me
