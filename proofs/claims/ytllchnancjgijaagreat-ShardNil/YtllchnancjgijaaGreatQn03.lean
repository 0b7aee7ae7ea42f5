/- A table in memory: its block, its three maps, its records with their blocks; how it stays and how one record's step leaves it. -/
import Derived.Test.YtllchnancjgijaaGreatQn02
import Derived.Test.YtllchnancjgijaaGreatQn01
namespace Go.Proofs.YtllchnancjgijaaGreat.Ta
open Go.RowKit Go.Maps Go.ChangeMaps
set_option maxRecDepth 100000
set_option linter.unusedVariables false
structure Rb where
  R : Rn
  S : St
  b : Nat
  F : List Nat
def rsOf (Ps : List Rb) : List (Rn × St) := Ps.map (fun q => (q.R, q.S))
def ptr (Ps : List Rb) (n : Int) : Option Value := (Ps.find? (fun q => decide (q.R.run = n))).map (fun q => PT q.b)
def curV (T : Tb) (k : K) : Option Value := (curOf T k).map (fun R => .int .i64 R.run)
def genV (T : Tb) (k : K) : Option Value := if T.gn k = 0 then none else some (.int .i64 (T.gn k))
def tc (T : Tb) (p c : Nat) (g : Option Nat) : Array Value := #[.int .i64 T.fl, .int .i64 T.bg, .map (some p), .map (some c), .map g]
def Gm (w : World) (g : Option Nat) (ng : Nat) (T : Tb) : Prop := (g = none ∧ ∀ k, T.gn k = 0) ∨ ∃ d, g = some d ∧ MapK KC w d ng (genV T)
structure Tm (w : World) (t p c : Nat) (g : Option Nat) (nc ng : Nat) (Ps : List Rb) (T : Tb) (N : Nat) : Prop where
  rs : T.rs = rsOf Ps
  bl : w.heap[t]? = some (.cells (tc T p c g) 204 (0, 0))
  pm : MapK KI w p Ps.length (ptr Ps)
  cm : MapK KC w c nc (curV T)
  gm : Gm w g ng T
  pc : p ≠ c
  gp : g ≠ some p
  gc : g ≠ some c
  lc : nc ≤ N
  lg : ng ≤ N
  recs : ∀ q ∈ Ps, Rq w q.b q.F q.R q.S N
  far : ∀ q ∈ Ps, ∀ d ∈ q.F, d ≠ t ∧ d ≠ p ∧ d ≠ c ∧ g ≠ some d
  apart : Ps.Pairwise (fun q r => ∀ d, d ∈ q.F → ¬ d ∈ r.F)
  iv : Ti T N
def fpT (t p c : Nat) (g : Option Nat) (Ps : List Rb) : List Nat := t :: p :: c :: (g.toList ++ Ps.flatMap (fun q => q.F))
theorem mem_fpT {t p c : Nat} {g : Option Nat} {Ps : List Rb} {k : Nat} : k ∈ fpT t p c g Ps ↔ k = t ∨ k = p ∨ k = c ∨ g = some k ∨ ∃ q ∈ Ps, k ∈ q.F := by
  simp [fpT]
def Tq (w : World) (t : Nat) (F : List Nat) (T : Tb) (N : Nat) : Prop := ∃ p c g nc ng Ps, F = fpT t p c g Ps ∧ Tm w t p c g nc ng Ps T N ∧ Lv T
def TqE (w w' : World) (t : Nat) (F : List Nat) (T : Tb) (N : Nat) : Prop := ∃ F', Tq w' t F' T N ∧ Touch F w w' ∧ Nf w F F'
section
variable {w w' : World} {t p c : Nat} {g : Option Nat} {nc ng : Nat} {Ps : List Rb} {T : Tb} {N M : Nat} {F G : List Nat}
theorem Gm.kind (h : Gm w g ng T) {d : Nat} (hd : g = some d) : ∃ es cl, w.heap[d]? = some (.map es cl) := by
  rcases h with ⟨h, _⟩ | ⟨d', hd', hm⟩
  · rw [h] at hd; cases hd
  · rw [hd'] at hd; cases hd; exact hm.kind
theorem Gm.keep (h : Gm w g ng T) (T' : Touch F w w') (hF : ∀ d, g = some d → ¬ d ∈ F) : Gm w' g ng T := by
  rcases h with h | ⟨d, hd, hm⟩
  · exact Or.inl h
  · exact Or.inr ⟨d, hd, hm.keep T' (hF d hd)⟩
theorem Tm.lt (h : Tm w t p c g nc ng Ps T N) : ∀ d, d ∈ fpT t p c g Ps → d < w.heap.size := fun d hd => by
  rcases mem_fpT.1 hd with e | e | e | e | ⟨q, hq, e⟩
  · subst e; exact block_lt h.bl
  · subst e; exact h.pm.lt
  · subst e; exact h.cm.lt
  · obtain ⟨es, cl, hb⟩ := h.gm.kind e; exact block_lt hb
  · exact (h.recs q hq).lt d e
theorem Tm.keep (h : Tm w t p c g nc ng Ps T N) (T' : Touch G w w') (hG : ∀ d, d ∈ fpT t p c g Ps → ¬ d ∈ G) : Tm w' t p c g nc ng Ps T N :=
  ⟨h.rs, T'.keep h.bl (hG t (mem_fpT.2 (Or.inl rfl))), h.pm.keep T' (hG p (mem_fpT.2 (Or.inr (Or.inl rfl)))), h.cm.keep T' (hG c (mem_fpT.2 (Or.inr (Or.inr (Or.inl rfl))))),
    h.gm.keep T' (fun d hd => hG d (mem_fpT.2 (Or.inr (Or.inr (Or.inr (Or.inl hd)))))), h.pc, h.gp, h.gc, h.lc, h.lg,
    fun q hq => (h.recs q hq).keep T' (fun d hd => hG d (mem_fpT.2 (Or.inr (Or.inr (Or.inr (Or.inr ⟨q, hq, hd⟩)))))), h.far, h.apart, h.iv⟩
theorem Tm.keep0 (h : Tm w t p c g nc ng Ps T N) (T' : Touch [] w w') : Tm w' t p c g nc ng Ps T N := h.keep T' (fun _ _ e => by cases e)
theorem Tm.mono (h : Tm w t p c g nc ng Ps T N) (hN : N ≤ M) : Tm w t p c g nc ng Ps T M :=
  ⟨h.rs, h.bl, h.pm, h.cm, h.gm, h.pc, h.gp, h.gc, Nat.le_trans h.lc hN, Nat.le_trans h.lg hN, fun q hq => (h.recs q hq).mono hN, h.far, h.apart, h.iv.mono hN⟩
theorem Tq.lt (h : Tq w t F T N) : ∀ d, d ∈ F → d < w.heap.size := by
  obtain ⟨p, c, g, nc, ng, Ps, rfl, h, hL⟩ := h
  exact h.lt
theorem Tq.keep (h : Tq w t F T N) (T' : Touch G w w') (hG : ∀ d, d ∈ F → ¬ d ∈ G) : Tq w' t F T N := by
  obtain ⟨p, c, g, nc, ng, Ps, rfl, h, hL⟩ := h
  exact ⟨p, c, g, nc, ng, Ps, rfl, h.keep T' hG, hL⟩
theorem Tq.keep0 (h : Tq w t F T N) (T' : Touch [] w w') : Tq w' t F T N := h.keep T' (fun _ _ e => by cases e)
theorem Tq.mono (h : Tq w t F T N) (hN : N ≤ M) : Tq w t F T M := by
  obtain ⟨p, c, g, nc, ng, Ps, rfl, h, hL⟩ := h
  exact ⟨p, c, g, nc, ng, Ps, rfl, h.mono hN, hL⟩
theorem Tq.iv (h : Tq w t F T N) : Ti T N := by
  obtain ⟨p, c, g, nc, ng, Ps, rfl, h, hL⟩ := h
  exact h.iv
theorem Tq.live (h : Tq w t F T N) : Lv T := by
  obtain ⟨p, c, g, nc, ng, Ps, rfl, h, hL⟩ := h
  exact hL
theorem TqE.same (h : Tq w t F T N) (hN : N ≤ M) : TqE w w t F T M := ⟨F, h.mono hN, Touch.refl _ _, Nf.refl _ _⟩
theorem TqE.touch (h : Tq w t F T N) (T' : Touch [] w w') (hN : N ≤ M) : TqE w w' t F T M := ⟨F, (h.keep0 T').mono hN, T'.mono (fun _ e => by cases e), Nf.refl _ _⟩
theorem ptr_none {Ps : List Rb} {n : Int} (h : ∀ q ∈ Ps, q.R.run ≠ n) : ptr Ps n = none := by
  unfold ptr
  rw [List.find?_eq_none.2 (fun q hq => by simp [h q hq])]
  rfl
theorem ptr_mid {A B : List Rb} {q : Rb} (hA : ∀ a ∈ A, a.R.run ≠ q.R.run) : ptr (A ++ q :: B) q.R.run = some (PT q.b) := by
  unfold ptr
  rw [List.find?_append, List.find?_eq_none.2 (fun a ha => by simp [hA a ha])]
  simp
theorem ptr_congr {A B : List Rb} {q q' : Rb} (e1 : q'.R = q.R) (e2 : q'.b = q.b) (n : Int) : ptr (A ++ q' :: B) n = ptr (A ++ q :: B) n := by
  unfold ptr
  rw [List.find?_append, List.find?_append, List.find?_cons, List.find?_cons, e1]
  cases List.find? (fun q => decide (q.R.run = n)) A with
  | some a => rfl
  | none => cases decide (q.R.run = n) <;> simp [e2]
theorem Tm.notIn (h : Tm w t p c g nc ng Ps T N) {n : Int} (hr : runOf T n = none) : ptr Ps n = none :=
  ptr_none (fun q hq => runOf_none hr (q.R, q.S) (by rw [h.rs]; exact List.mem_map.2 ⟨q, hq, rfl⟩))
theorem Tm.found (h : Tm w t p c g nc ng Ps T N) {n : Int} {r : Rn × St} (hr : runOf T n = some r) : ∃ A q B, Ps = A ++ q :: B ∧ r = (q.R, q.S) ∧ q.R.run = n ∧ ∀ a ∈ A, a.R.run ≠ q.R.run := by
  unfold runOf at hr
  rw [h.rs] at hr
  clear h
  induction Ps with
  | nil => simp [rsOf] at hr
  | cons x r' ih =>
    simp only [rsOf, List.map_cons, List.find?_cons] at hr
    cases hx : decide (x.R.run = n) with
    | true =>
      rw [hx] at hr
      simp only [Option.some.injEq] at hr
      exact ⟨[], x, r', rfl, hr.symm, of_decide_eq_true hx, fun a ha => by cases ha⟩
    | false =>
      rw [hx] at hr
      obtain ⟨A, q, B, e1, e2, e3, e4⟩ := ih hr
      refine ⟨x :: A, q, B, by rw [e1]; rfl, e2, e3, fun a ha => ?_⟩
      rcases List.mem_cons.1 ha with e | e
      · subst e; rw [e3]; exact of_decide_eq_false hx
      · exact e4 a e
theorem Tm.after {A B : List Rb} {q : Rb} (h : Tm w t p c g nc ng (A ++ q :: B) T N) : (∀ a ∈ A, a.R.run ≠ q.R.run) ∧ ∀ b ∈ B, b.R.run ≠ q.R.run := by
  have ho := h.iv.ord
  rw [h.rs, rsOf, List.pairwise_map] at ho
  obtain ⟨h1, h2, h3⟩ := List.pairwise_append.1 ho
  refine ⟨fun a ha => ?_, fun b hb => ?_⟩
  · have := h3 a ha q (by simp); simp only at this; omega
  · have := (List.pairwise_cons.1 h2).1 b hb; simp only at this; omega
theorem rs_set {A B : List Rb} {q : Rb} {S : St} {f : List Nat} (hA : ∀ a ∈ A, a.R.run ≠ q.R.run) (hB : ∀ b ∈ B, b.R.run ≠ q.R.run) : (rsOf (A ++ q :: B)).map (putS q.R.run S) = rsOf (A ++ ⟨q.R, S, q.b, f⟩ :: B) := by
  have h1 : ∀ L : List Rb, (∀ a ∈ L, a.R.run ≠ q.R.run) → (rsOf L).map (putS q.R.run S) = rsOf L := fun L hL => by
    unfold rsOf
    rw [List.map_map]
    exact List.map_congr_left (fun a ha => by simp [putS, hL a ha])
  have e1 : rsOf (A ++ q :: B) = rsOf A ++ (q.R, q.S) :: rsOf B := by simp [rsOf]
  have e2 : rsOf (A ++ ⟨q.R, S, q.b, f⟩ :: B) = rsOf A ++ (q.R, S) :: rsOf B := by simp [rsOf]
  rw [e1, e2, List.map_append, List.map_cons, h1 A hA, h1 B hB]
  simp [putS]
theorem Tm.step {A B : List Rb} {q : Rb} {S : St} (h : Tm w t p c g nc ng (A ++ q :: B) T N) (E : RqE w w' q.b q.F q.R S M) (hN : N ≤ M) :
    ∃ f, Tm w' t p c g nc ng (A ++ ⟨q.R, S, q.b, f⟩ :: B) (setS T q.R.run S) M ∧ Touch q.F w w' ∧ Nf w q.F f := by
  obtain ⟨f, r1, r2, r3⟩ := E
  obtain ⟨hA, hB⟩ := h.after
  have hq : q ∈ A ++ q :: B := by simp
  have hf := h.far q hq
  obtain ⟨ap1, ap2, ap3⟩ := List.pairwise_append.1 h.apart
  obtain ⟨ap4, ap5⟩ := List.pairwise_cons.1 ap2
  have hoth : ∀ x, x ∈ A ∨ x ∈ B → ∀ d, d ∈ x.F → ¬ d ∈ q.F := fun x hx d hd he => by
    rcases hx with e | e
    · exact ap3 x e q (by simp) d hd he
    · exact ap4 x e d he hd
  have hin : ∀ x, x ∈ A ∨ x ∈ B → x ∈ A ++ q :: B := fun x hx => by rcases hx with e | e <;> simp [e]
  have hnew : ∀ x, x ∈ A ∨ x ∈ B → ∀ d, d ∈ x.F → ¬ d ∈ f := fun x hx d hd he => by
    rcases r3 d he with e | e
    · exact hoth x hx d hd e
    · have := (h.recs x (hin x hx)).lt d hd; omega
  have hms : ∀ x, x ∈ A ++ (⟨q.R, S, q.b, f⟩ : Rb) :: B → x = ⟨q.R, S, q.b, f⟩ ∨ x ∈ A ∨ x ∈ B := fun x hx => by
    rcases List.mem_append.1 hx with e | e
    · exact Or.inr (Or.inl e)
    · rcases List.mem_cons.1 e with e | e
      · exact Or.inl e
      · exact Or.inr (Or.inr e)
  refine ⟨f, ⟨?_, ?_, ?_, ?_, ?_, h.pc, h.gp, h.gc, Nat.le_trans h.lc hN, Nat.le_trans h.lg hN, fun x hx => ?_, fun x hx d hd => ?_, ?_, (h.iv.setS r1.iv).mono hN⟩, r2, r3⟩
  · simp only [setS, h.rs]; exact rs_set hA hB
  · exact r2.keep h.bl (fun e => (hf t e).1 rfl)
  · have := h.pm.keep r2 (fun e => (hf p e).2.1 rfl)
    have e : (A ++ (⟨q.R, S, q.b, f⟩ : Rb) :: B).length = (A ++ q :: B).length := by simp
    rw [e]
    exact this.congr (fun n _ => (ptr_congr (q := q) (q' := ⟨q.R, S, q.b, f⟩) rfl rfl n).symm)
  · refine (h.cm.keep r2 (fun e => (hf c e).2.2.1 rfl)).congr (fun k _ => ?_)
    unfold curV
    rw [curOf_setS]
  · exact h.gm.keep r2 (fun d hd e => (hf d e).2.2.2 hd)
  · rcases hms x hx with e | e
    · subst e; exact r1
    · exact ((h.recs x (hin x e)).keep r2 (hoth x e)).mono hN
  · rcases hms x hx with e | e
    · subst e
      rcases r3 d hd with e' | e'
      · exact hf d e'
      · have l1 := h.lt t (mem_fpT.2 (Or.inl rfl))
        have l2 := h.pm.lt
        have l3 := h.cm.lt
        refine ⟨by omega, by omega, by omega, fun e2 => ?_⟩
        have := h.lt d (mem_fpT.2 (Or.inr (Or.inr (Or.inr (Or.inl e2)))))
        omega
    · exact h.far x (hin x e) d hd
  · refine List.pairwise_append.2 ⟨ap1, List.pairwise_cons.2 ⟨fun b hb d hd he => hnew b (Or.inr hb) d he hd, ap5⟩, fun a ha b hb d hd he => ?_⟩
    rcases List.mem_cons.1 hb with e | e
    · subst e; exact hnew a (Or.inl ha) d hd he
    · exact ap3 a ha b (by simp [e]) d hd he
theorem fp_step {A B : List Rb} {q : Rb} {S : St} {f : List Nat} (hn : Nf w q.F f) : Nf w (fpT t p c g (A ++ q :: B)) (fpT t p c g (A ++ ⟨q.R, S, q.b, f⟩ :: B)) := fun d hd => by
  rcases mem_fpT.1 hd with e | e | e | e | ⟨x, hx, e⟩
  · exact Or.inl (mem_fpT.2 (Or.inl e))
  · exact Or.inl (mem_fpT.2 (Or.inr (Or.inl e)))
  · exact Or.inl (mem_fpT.2 (Or.inr (Or.inr (Or.inl e))))
  · exact Or.inl (mem_fpT.2 (Or.inr (Or.inr (Or.inr (Or.inl e)))))
  · rcases List.mem_append.1 hx with e1 | e1
    · exact Or.inl (mem_fpT.2 (Or.inr (Or.inr (Or.inr (Or.inr ⟨x, by simp [e1], e⟩)))))
    · rcases List.mem_cons.1 e1 with e2 | e2
      · subst e2
        rcases hn d e with e3 | e3
        · exact Or.inl (mem_fpT.2 (Or.inr (Or.inr (Or.inr (Or.inr ⟨q, by simp, e3⟩)))))
        · exact Or.inr e3
      · exact Or.inl (mem_fpT.2 (Or.inr (Or.inr (Or.inr (Or.inr ⟨x, by simp [e2], e⟩)))))
theorem fp_rec {A B : List Rb} {q : Rb} : ∀ d, d ∈ q.F → d ∈ fpT t p c g (A ++ q :: B) := fun d hd => mem_fpT.2 (Or.inr (Or.inr (Or.inr (Or.inr ⟨q, by simp, hd⟩))))
theorem Tm.stepE {A B : List Rb} {q : Rb} {S : St} (h : Tm w t p c g nc ng (A ++ q :: B) T N) (E : RqE w w' q.b q.F q.R S M) (hN : N ≤ M) (hL : Lv T) (hE : S.ended = false) : TqE w w' t (fpT t p c g (A ++ q :: B)) (setS T q.R.run S) M := by
  obtain ⟨f, h1, h2, h3⟩ := h.step E hN
  exact ⟨_, ⟨_, _, _, _, _, _, rfl, h1, hL.setS hE⟩, h2.mono fp_rec, fp_step h3⟩
structure Tcs (w : World) (t p c : Nat) (g : Option Nat) (T : Tb) : Prop where
  c0 : w.cell? ⟨t, 0, none⟩ = some (.int .i64 T.fl)
  c1 : w.cell? ⟨t, 1, none⟩ = some (.int .i64 T.bg)
  c2 : w.cell? ⟨t, 2, none⟩ = some (.map (some p))
  c3 : w.cell? ⟨t, 3, none⟩ = some (.map (some c))
  c4 : w.cell? ⟨t, 4, none⟩ = some (.map g)
theorem Tm.cs (h : Tm w t p c g nc ng Ps T N) : Tcs w t p c g T := ⟨cell_at h.bl rfl, cell_at h.bl rfl, cell_at h.bl rfl, cell_at h.bl rfl, cell_at h.bl rfl⟩
theorem Tm.fz (h : Tm w t p c g nc ng Ps T N) (j : Nat) : w.frozen? ⟨t, j, none⟩ = false := froz_at h.bl j
theorem zeroP (w : World) : (zeroValue 206).run Tryz.prog w = .ok (.pointer none) w := by kernel_rfl
theorem Tm.lookP (h : Tm w t p c g nc ng Ps T N) {n : Int} (hn : W64 n) : (Instr.lookup 201 (.map (some p)) (.int .i64 n) false).run Tryz.prog w = .ok ((ptr Ps n).getD (.pointer none)) w :=
  h.pm.look (t := 201) Tryz.underlying201 (zeroP w) hn
theorem Tm.lookCok (h : Tm w t p c g nc ng Ps T N) {k : K} (hk : Ok k) : (Instr.lookup 202 (.map (some c)) (kv k) true).run Tryz.prog w = .ok (.tuple #[.int .i64 (((curOf T k).map Rn.run).getD 0), .bool (curOf T k).isSome]) w := by
  have := h.cm.lookOk (t := 202) Tryz.underlying202 (zero3 w) hk
  rw [show (KC : KK Tryz.prog 35 K).kv k = kv k from rfl] at this
  rw [this]
  unfold curV
  cases curOf T k <;> rfl
theorem Tm.lookG (h : Tm w t p c g nc ng Ps T N) {k : K} (hk : Ok k) : (Instr.lookup 202 (.map g) (kv k) false).run Tryz.prog w = .ok (.int .i64 (T.gn k)) w := by
  rcases h.gm with ⟨e, h0⟩ | ⟨d, e, hm⟩
  · rw [e, h0 k]
    exact look_nil KC (t := 202) Tryz.underlying202 (zero3 w) hk
  · have := hm.look (t := 202) Tryz.underlying202 (zero3 w) hk
    rw [show (KC : KK Tryz.prog 35 K).kv k = kv k from rfl] at this
    rw [e, this]
    unfold genV
    split
    · rename_i e0; rw [e0]; rfl
    · rfl
theorem Tm.lenP (h : Tm w t p c g nc ng Ps T N) (ty : TypeId) : (Builtin.len_ #[201] ty #[.map (some p)]).run Tryz.prog w = .ok (.int .i64 (T.rs.length : Nat)) w := by
  rw [h.pm.len (t := 201) Tryz.underlying201 ty, h.rs]
  simp [rsOf]
end
end Go.Proofs.YtllchnancjgijaaGreat.Ta
/- What a batch is, in plain words: one state for the program's and the document's, and its steps; no conditions. -/
namespace Go.Proofs.YtllchnancjgijaaGreat.Ba
open Go.RowKit Go.Maps Go.ChangeMaps
set_option maxRecDepth 100000
set_option linter.unusedVariables false
set_option linter.unusedSimpArgs false
structure Bs where
  cnt : Int
  win : Int
  tim : Int
  lst : Int
  run : List Int
  snc : Int
  snt : Int
def aft (n d : Int) : Int := if 4611686018427387904 - n < d then 4611686018427387904 else n + d
def dueS (S : Bs) : Int := aft S.snc S.win
def wrongE (S : Bs) (n : Int) : Int := if n < 0 then 10 else if 4611686018427387904 < n then 10 else if n < S.tim then 50 else 0
def forceS (S : Bs) : Bs := if S.run = [] then S else { S with run := [], snt := S.snt + 1 }
def addE (S : Bs) (n x : Int) : Int := if wrongE S n ≠ 0 then wrongE S n else if x < 1 then 1 else if x ≤ S.lst then 130 else 0
def addM (S : Bs) (n x : Int) : Bs := { S with tim := n, lst := x, run := S.run ++ [x], snc := if S.run = [] then n else S.snc }
def addF (S : Bs) : Bool := decide (S.cnt ≤ ((S.run.length + 1 : Nat) : Int)) || decide (S.win = 0)
def addS (S : Bs) (n x : Int) : Bs := if addE S n x ≠ 0 then S else if addF S then forceS (addM S n x) else addM S n x
def addL (S : Bs) (n x : Int) : List Int := if addE S n x ≠ 0 then [] else if addF S then S.run ++ [x] else []
structure Iv (S : Bs) (N : Nat) : Prop where
  c1 : 1 ≤ S.cnt
  c2 : S.cnt ≤ 1024
  w1 : 0 ≤ S.win
  w2 : S.win ≤ 9223372036854775807
  t1 : 0 ≤ S.tim
  t2 : S.tim ≤ 4611686018427387904
  l1 : 0 ≤ S.lst
  l2 : W64 S.lst
  len : S.run.length < 1024
  inc : S.run.Pairwise (· < ·)
  le : ∀ x ∈ S.run, 1 ≤ x ∧ x ≤ S.lst
  s1 : 0 ≤ S.snc
  s2 : S.snc ≤ 4611686018427387904
  n1 : 0 ≤ S.snt
  n2 : S.snt ≤ (N : Int)
theorem wrong0 {S : Bs} {n : Int} (h : ¬ wrongE S n ≠ 0) : 0 ≤ n ∧ n ≤ 4611686018427387904 ∧ S.tim ≤ n := by
  unfold wrongE at h
  split at h
  · simp at h
  · split at h
    · simp at h
    · split at h
      · simp at h
      · omega
theorem add0 {S : Bs} {n x : Int} (h : ¬ addE S n x ≠ 0) : wrongE S n = 0 ∧ 1 ≤ x ∧ S.lst < x := by
  unfold addE at h
  split at h
  · rename_i h1; exact absurd h1 h
  · rename_i h1
    split at h
    · simp at h
    · split at h
      · simp at h
      · exact ⟨Decidable.not_not.1 h1, by omega, by omega⟩
theorem Iv.mono {S : Bs} {N M : Nat} (h : Iv S N) (hm : N ≤ M) : Iv S M := { h with n2 := by have := h.n2; omega }
theorem Iv.mid {S : Bs} {N : Nat} (h : Iv S N) {n x : Int} (hx : W64 x) (h0 : ¬ addE S n x ≠ 0) (hl : S.run.length + 1 < 1024) : Iv (addM S n x) N := by
  obtain ⟨h1, h2, h3⟩ := add0 h0
  obtain ⟨h4, h5, h6⟩ := wrong0 (by rw [h1]; simp : ¬ wrongE S n ≠ 0)
  refine { h with t1 := h4, t2 := h5, l1 := by show 0 ≤ x; omega, l2 := hx, len := by simpa [addM] using hl, inc := ?_, le := ?_, s1 := ?_, s2 := ?_ }
  · show (S.run ++ [x]).Pairwise (· < ·)
    rw [List.pairwise_append]
    exact ⟨h.inc, by simp, fun a ha b hb => by simp only [List.mem_singleton] at hb; subst hb; have := (h.le a ha).2; omega⟩
  · intro y hy
    have hy' : y ∈ S.run ++ [x] := hy
    show 1 ≤ y ∧ y ≤ x
    rcases List.mem_append.1 hy' with q | q
    · have := h.le y q; omega
    · simp only [List.mem_singleton] at q; omega
  · show 0 ≤ if S.run = [] then n else S.snc
    split
    · exact h4
    · exact h.s1
  · show (if S.run = [] then n else S.snc) ≤ 4611686018427387904
    split
    · exact h5
    · exact h.s2
theorem Iv.add {S : Bs} {N : Nat} (h : Iv S N) {n x : Int} (hx : W64 x) : Iv (addS S n x) (N + 1) := by
  unfold addS
  split
  · exact h.mono (Nat.le_succ N)
  · rename_i h0
    split
    · obtain ⟨h1, h2, h3⟩ := add0 h0
      obtain ⟨h4, h5, h6⟩ := wrong0 (by rw [h1]; simp : ¬ wrongE S n ≠ 0)
      unfold forceS
      rw [if_neg (by simp [addM])]
      refine { h with t1 := h4, t2 := h5, l1 := by show 0 ≤ x; omega, l2 := hx, len := by simp, inc := by simp, le := by simp, s1 := ?_, s2 := ?_, n1 := by have := h.n1; show 0 ≤ S.snt + 1; omega, n2 := by have := h.n2; show S.snt + 1 ≤ _; omega }
      · show 0 ≤ if S.run = [] then n else S.snc
        split
        · exact h4
        · exact h.s1
      · show (if S.run = [] then n else S.snc) ≤ 4611686018427387904
        split
        · exact h5
        · exact h.s2
    · rename_i hf
      refine (h.mid hx h0 ?_).mono (Nat.le_succ N)
      unfold addF at hf
      simp only [Bool.or_eq_true, decide_eq_true_eq, not_or] at hf
      have := h.c2
      omega
theorem due_mid {S : Bs} {n x : Int} : dueS (addM S n x) = if S.run = [] then aft n S.win else dueS S := by
  unfold dueS addM
  simp only
  split <;> rfl
end Go.Proofs.YtllchnancjgijaaGreat.Ba
/- The program's batch in memory, and the contracts of its small functions: ticks, Due, Sent, Force; no conditions but those that each states. -/
namespace Go.Proofs.YtllchnancjgijaaGreat.Ba
open Go.RowKit Go.Maps Go.ChangeMaps
set_option maxRecDepth 100000
set_option linter.unusedVariables false
set_option linter.unusedSimpArgs false
def isT (t : Int) : Bool := decide (0 ≤ t) && decide (t ≤ 4611686018427387904)
theorem is_ (t : Int) (w : World) : Calls Tryz.prog 96 #[.int .i64 t] w fun e w' => e = .returned (.bool (isT t)) ∧ w' = w := by
  by_cases h0 : 0 ≤ t
  · by_cases h1 : t ≤ 4611686018427387904
    · go_enter Tryz.func96, Tryz.ntmps96
      go_wp2
      go_ret
      exact ⟨by simp [isT, h0, h1], rfl⟩
    · go_enter Tryz.func96, Tryz.ntmps96
      go_wp2
      go_ret
      exact ⟨by simp [isT, h1], rfl⟩
  · have hn : isT t = false := by simp [isT]; omega
    rw [hn]
    go_enter Tryz.func96, Tryz.ntmps96
    go_wp2
    go_ret
    exact ⟨rfl, rfl⟩
theorem isT_yes {t : Int} (h : 0 ≤ t) (h2 : t ≤ 4611686018427387904) : isT t = true := by unfold isT; simp; omega
theorem after_ (n d : Int) (w : World) (h1 : 0 ≤ n) (h2 : n ≤ 4611686018427387904) (h3 : 0 ≤ d) (h4 : d ≤ 9223372036854775807) : Calls Tryz.prog 179 #[.int .i64 n, .int .i64 d] w fun e w' => (∃ k, e = .returned (.tuple #[.int .i64 (aft n d), .bool k])) ∧ w' = w := by
  have H1 := is_ n
  rw [isT_yes h1 h2] at H1
  have hw : IntKind.i64.wrap (4611686018427387904 - n) = 4611686018427387904 - n := by simp [IntKind.wrap, IntKind.bits, IntKind.signed, IntKind.min, IntKind.max]; omega
  by_cases hz : 4611686018427387904 - n < d
  · have e1 : aft n d = 4611686018427387904 := by unfold aft; rw [if_pos hz]
    rw [e1]
    clear e1
    go_enter Tryz.func179, Tryz.ntmps179
    go_wp2_with (go_at_call 96; refine (H1 _).mono ?_; rintro e w2 ⟨rfl, rfl⟩)
    exact bodyPost_ret (v := .tuple #[.int .i64 4611686018427387904, .bool false]) (by simp [results, Tryz.results179, go_sem]) rfl ⟨⟨_, rfl⟩, rfl⟩
  · have e1 : aft n d = n + d := by unfold aft; rw [if_neg hz]
    have hv : IntKind.i64.wrap (n + d) = n + d := by simp [IntKind.wrap, IntKind.bits, IntKind.signed, IntKind.min, IntKind.max]; omega
    rw [e1]
    clear e1
    go_enter Tryz.func179, Tryz.ntmps179
    go_wp2_with (go_at_call 96; refine (H1 _).mono ?_; rintro e w2 ⟨rfl, rfl⟩)
    exact bodyPost_ret (v := .tuple #[.int .i64 (n + d), .bool true]) (by simp [results, Tryz.results179, go_sem]) rfl ⟨⟨_, rfl⟩, rfl⟩
def pc (S : Bs) (sl : Value) (d : Int) : Array Value := #[.int .i64 S.cnt, .int .i64 S.win, .int .i64 S.tim, .int .i64 S.lst, sl, .int .i64 d, .int .i64 S.snt]
structure Bm (w : World) (b : Nat) (sl : Value) (d : Int) (S : Bs) : Prop where
  hb : w.heap[b]? = some (.cells (pc S sl d) 217 (0, 0))
  row : w.ownsRow 0 3 1 sl S.run.length (ints S.run)
  du : S.run ≠ [] → d = dueS S
def fpB (b : Nat) (sl : Value) : List Nat := b :: sl.ownBlock.toList
theorem mem_fpB {b : Nat} {sl : Value} {q : Nat} : q ∈ fpB b sl ↔ q = b ∨ sl.ownBlock = some q := by
  unfold fpB
  cases sl.ownBlock <;> simp [eq_comm]
def Bq (w : World) (b : Nat) (F : List Nat) (S : Bs) (N : Nat) : Prop := ∃ sl d, F = fpB b sl ∧ Bm w b sl d S ∧ Iv S N
section
variable {w w' : World} {b : Nat} {sl : Value} {d : Int} {S : Bs} {F G : List Nat} {N : Nat}
theorem Bm.lt (h : Bm w b sl d S) : b < w.heap.size := block_lt h.hb
theorem Bm.keep (h : Bm w b sl d S) (T : Touch G w w') (hn : ∀ q, q ∈ fpB b sl → ¬ q ∈ G) : Bm w' b sl d S :=
  ⟨T.keep h.hb (hn b (mem_fpB.2 (Or.inl rfl))), own_touch h.row T (fun q hq => hn q (mem_fpB.2 (Or.inr hq))), h.du⟩
theorem Bm.keep0 (h : Bm w b sl d S) (T : Touch [] w w') : Bm w' b sl d S := h.keep T (fun _ _ e => by cases e)
theorem Bm.ne (h : Bm w b sl d S) {q : Nat} (hq : sl.ownBlock = some q) : q ≠ b := fun e => by
  subst e
  obtain ⟨cs, hc⟩ := own_kind h.row hq
  rw [h.hb] at hc
  simp at hc
theorem Bm.all (h : Bm w b sl d S) : ∀ q, q ∈ fpB b sl → q < w.heap.size := fun q hq => by
  rcases mem_fpB.1 hq with e | e
  · rw [e]; exact h.lt
  · exact (h.row.lt q e).2
theorem Bq.keep (h : Bq w b F S N) (T : Touch G w w') (hn : ∀ q, q ∈ F → ¬ q ∈ G) : Bq w' b F S N := by
  obtain ⟨sl, d, rfl, h1, h2⟩ := h
  exact ⟨sl, d, rfl, h1.keep T hn, h2⟩
theorem Bq.lt (h : Bq w b F S N) : ∀ q, q ∈ F → q < w.heap.size := by
  obtain ⟨sl, d, rfl, h1, h2⟩ := h
  exact h1.all
end
def BqE (w w' : World) (b : Nat) (F : List Nat) (S : Bs) (N : Nat) (ls : List Int) (v : Value) : Prop := (∃ F', Bq w' b F' S N ∧ Touch F w w' ∧ Nf w F F') ∧ Rd w' v ls ∧ ∃ a n c, v = .slice a n c
section
variable {w : World} {b : Nat} {sl : Value} {d : Int} {S : Bs}
theorem tell_ (h : Bm w b sl d S) (x : Int) : Calls Tryz.prog 120 #[PT b, .int .i64 x] w fun e w' => e = .returned (.int .i64 (wrongE S x)) ∧ w' = w := by
  have H1 := is_ x
  have c2 := cell_at (j := 2) (v := .int .i64 S.tim) h.hb rfl
  unfold PT
  by_cases h0 : x < 0
  · rw [show isT x = false by simp [isT]; omega] at H1
    rw [show wrongE S x = 10 by simp [wrongE, h0]]
    go_enter Tryz.func120, Tryz.ntmps120
    go_wp2_with (go_at_call 96; refine (H1 _).mono ?_; rintro e w2 ⟨rfl, rfl⟩)
    go_ret
    exact ⟨rfl, rfl⟩
  · by_cases h1 : 4611686018427387904 < x
    · rw [show isT x = false by simp [isT]; omega] at H1
      rw [show wrongE S x = 10 by simp [wrongE, h1]]
      go_enter Tryz.func120, Tryz.ntmps120
      go_wp2_with (go_at_call 96; refine (H1 _).mono ?_; rintro e w2 ⟨rfl, rfl⟩)
      go_ret
      exact ⟨rfl, rfl⟩
    · rw [isT_yes (by omega) (by omega)] at H1
      by_cases h2 : x < S.tim
      · rw [show wrongE S x = 50 by simp [wrongE, h0, h1, h2]]
        go_enter Tryz.func120, Tryz.ntmps120
        go_wp2_with (go_at_call 96; refine (H1 _).mono ?_; rintro e w2 ⟨rfl, rfl⟩)
        go_ret
        exact ⟨rfl, rfl⟩
      · rw [show wrongE S x = 0 by simp [wrongE, h0, h1, h2]]
        go_enter Tryz.func120, Tryz.ntmps120
        go_wp2_with (go_at_call 96; refine (H1 _).mono ?_; rintro e w2 ⟨rfl, rfl⟩)
        go_ret
        exact ⟨rfl, rfl⟩
theorem force_no (h : Bm w b sl d S) (he : S.run = []) : Calls Tryz.prog 121 #[PT b] w fun e w' => e = .returned (.slice none 0 0) ∧ w' = w := by
  obtain ⟨a, c, rfl⟩ := own_form h.row
  have c4 := cell_at (j := 4) (v := .slice a S.run.length c) h.hb rfl
  rw [he] at c4
  clear h
  unfold PT
  go_enter Tryz.func121, Tryz.ntmps121
  go_wp2
  go_ret
  exact ⟨rfl, rfl⟩
theorem force_yes (h : Bm w b sl d S) (he : S.run ≠ []) (hn : 0 ≤ S.snt) (hm : S.snt < 9000000000000000000) : Calls Tryz.prog 121 #[PT b] w fun e w' => e = .returned sl ∧ w' = (w.setCell ⟨b, 4, none⟩ (.slice none 0 0)).setCell ⟨b, 6, none⟩ (.int .i64 (S.snt + 1)) := by
  obtain ⟨a, c, rfl⟩ := own_form h.row
  have c4 := cell_at (j := 4) (v := .slice a S.run.length c) h.hb rfl
  have c6 := cell_at (j := 6) (v := .int .i64 S.snt) h.hb rfl
  have ff := froz_at h.hb
  have hlt := h.lt
  have hw : IntKind.i64.wrap (S.snt + 1) = S.snt + 1 := by simp [IntKind.wrap, IntKind.bits, IntKind.signed, IntKind.min, IntKind.max]; omega
  have hl : 0 < S.run.length := List.length_pos_iff.2 he
  generalize S.run.length = n at *
  have hz : ((n : Int) == 0) = false := by simp; omega
  clear he hl h hn hm
  unfold PT
  go_enter Tryz.func121, Tryz.ntmps121
  go_wp2
  go_ret
  exact ⟨rfl, rfl⟩
theorem Bm.forced (h : Bm w b sl d S) (he : S.run ≠ []) : Bm ((w.setCell ⟨b, 4, none⟩ (.slice none 0 0)).setCell ⟨b, 6, none⟩ (.int .i64 (S.snt + 1))) b (.slice none 0 0) d (forceS S) := by
  have e : forceS S = { S with run := [], snt := S.snt + 1 } := by unfold forceS; rw [if_neg he]
  rw [e]
  refine ⟨?_, World.ownsRow_nil _ _ _ _, fun h => absurd rfl h⟩
  have := bset (i := 6) (bset (i := 4) h.hb (.slice none 0 0)) (.int .i64 (S.snt + 1))
  simpa [pc] using this
theorem forced_touch (w : World) (b : Nat) (n : Int) : Touch [b] w ((w.setCell ⟨b, 4, none⟩ (.slice none 0 0)).setCell ⟨b, 6, none⟩ (.int .i64 n)) := ((Touch.refl _ _).setCell (Or.inl (by simp)) _).setCell (Or.inl (by simp)) _
theorem force_ (h : Bm w b sl d S) (hn : 0 ≤ S.snt) (hm : S.snt < 9000000000000000000) : Calls Tryz.prog 121 #[PT b] w fun e w' => ∃ v sl', e = .returned v ∧ (∃ a n c, v = .slice a n c) ∧ Bm w' b sl' d (forceS S) ∧ (sl' = sl ∨ sl' = .slice none 0 0) ∧ Touch [b] w w' ∧ Rd w' v S.run := by
  by_cases he : S.run = []
  · refine (force_no h he).mono ?_
    rintro e w' ⟨rfl, rfl⟩
    have e2 : forceS S = S := by unfold forceS; rw [if_pos he]
    rw [e2, he]
    exact ⟨_, sl, rfl, ⟨_, _, _, rfl⟩, h, Or.inl rfl, Touch.refl _ _, Rd.nil _⟩
  · refine (force_yes h he hn hm).mono ?_
    rintro e w' ⟨rfl, rfl⟩
    obtain ⟨a, c, e1⟩ := own_form h.row
    refine ⟨sl, _, rfl, ⟨_, _, _, e1⟩, h.forced he, Or.inr rfl, forced_touch _ _ _, Rd.of_own (own_touch h.row (forced_touch _ _ _) (fun q hq e => ?_))⟩
    simp only [List.mem_singleton] at e
    exact h.ne hq e
end
end Go.Proofs.YtllchnancjgijaaGreat.Ba
/- What seats are, in plain words: a list, and the tokens that are cancelled; chains with both neighbours as plain functions; no conditions. -/
namespace Go.Proofs.YtllchnancjgijaaGreat.Lv
open Go.RowKit Go.Maps Go.ChangeMaps
set_option maxRecDepth 100000
set_option linter.unusedVariables false
set_option linter.unusedSimpArgs false
abbrev Se := Int × Int × Int
def bn (b : Nat) (x : Se) : Int := match b with | 0 => x.1 | 1 => x.2.1 | _ => x.2.2
def inL (b : Nat) (n : Int) (L : List Se) : List Se := L.filter (fun x => decide (bn b x = n))
def whr (L : List Se) (c : Int) : Option Se := L.find? (fun x => decide (x.1 = c))
def may (x : Se) : Bool := decide (1 ≤ x.1) && decide (1 ≤ x.2.1) && decide (0 ≤ x.2.2)
def sitE (L : List Se) (G : List Int) (x : Se) : Int := if may x = false then 150 else if x.2.2 ∈ G then 152 else if (whr L x.1).isSome then 151 else 0
def sitL (L : List Se) (G : List Int) (x : Se) : List Se := if sitE L G x = 0 then L ++ [x] else L
def Wf (x : Se) : Prop := W64 x.1 ∧ W64 x.2.1 ∧ W64 x.2.2
structure Iv (L : List Se) (G : List Int) (N : Nat) : Prop where
  nc : (L.map Prod.fst).Nodup
  ok : ∀ x ∈ L, may x = true ∧ Wf x
  ng : G.Nodup
  wg : ∀ t ∈ G, 1 ≤ t ∧ W64 t
  ll : L.length ≤ N
  lg : G.length ≤ N
theorem Iv.mono {L : List Se} {G : List Int} {N M : Nat} (h : Iv L G N) (hm : N ≤ M) : Iv L G M := { h with ll := Nat.le_trans h.ll hm, lg := Nat.le_trans h.lg hm }
theorem whr_none {L : List Se} {c : Int} : (whr L c).isSome = false ↔ ∀ x ∈ L, x.1 ≠ c := by
  unfold whr
  constructor
  · intro h x hx e
    have : (L.find? (fun x => decide (x.1 = c))).isSome = true := List.find?_isSome.2 ⟨x, hx, by simp [e]⟩
    rw [h] at this
    cases this
  · intro h
    rw [List.find?_eq_none.2 (fun x hx => by simp [h x hx])]
    rfl
theorem whr_mem {L : List Se} {c : Int} {x : Se} (h : whr L c = some x) : x ∈ L ∧ x.1 = c := by
  unfold whr at h
  exact ⟨List.mem_of_find?_eq_some h, by simpa using List.find?_some h⟩
theorem Iv.snoc {L : List Se} {G : List Int} {N : Nat} (h : Iv L G N) {x : Se} (hx : Wf x) (hm : may x = true) (hn : ∀ y ∈ L, y.1 ≠ x.1) : Iv (L ++ [x]) G (N + 1) := by
  refine { h.mono (Nat.le_succ N) with nc := ?_, ok := fun y hy => ?_, ll := by have := h.ll; simp; omega }
  · rw [List.map_append, List.map_cons, List.map_nil]
    refine nd_snoc h.nc (fun e => ?_)
    obtain ⟨y, hy, e⟩ := List.mem_map.1 e
    exact hn y hy e
  · rcases List.mem_append.1 hy with e | e
    · exact h.ok y e
    · simp only [List.mem_singleton] at e
      subst e
      exact ⟨hm, hx⟩
def Lk (f g : Nat → Option Nat) : Option Nat → List Nat → Prop
  | _, [] => True
  | p, q :: r => f q = p ∧ g q = r.head? ∧ Lk f g (some q) r
def lastO : Option Nat → List Nat → Option Nat
  | p, [] => p
  | _, q :: r => lastO (some q) r
def updO (f : Nat → Option Nat) (o : Option Nat) (v : Option Nat) : Nat → Option Nat := fun j => if o = some j then v else f j
theorem Lk.congr {f g f' g' : Nat → Option Nat} : ∀ {p : Option Nat} {xs : List Nat}, Lk f g p xs → (∀ q ∈ xs, f' q = f q ∧ g' q = g q) → Lk f' g' p xs
  | _, [], _, _ => trivial
  | p, q :: r, h, hc => ⟨(hc q (by simp)).1.trans h.1, (hc q (by simp)).2.trans h.2.1, Lk.congr h.2.2 (fun z hz => hc z (by simp [hz]))⟩
theorem lastO_mem : ∀ {xs : List Nat} {p : Option Nat} {z : Nat}, lastO p xs = some z → p = some z ∨ z ∈ xs
  | [], p, z, h => Or.inl h
  | q :: r, p, z, h => by
    rcases lastO_mem (xs := r) h with e | e
    · simp only [Option.some.injEq] at e
      exact Or.inr (by simp [e])
    · exact Or.inr (by simp [e])
theorem lastO_append (u v : List Nat) (p : Option Nat) : lastO p (u ++ v) = lastO (lastO p u) v := by
  induction u generalizing p with
  | nil => rfl
  | cons a r ih => exact ih (some a)
theorem lastO_none {xs : List Nat} (h : lastO none xs = none) : xs = [] := by
  cases xs with
  | nil => rfl
  | cons a r =>
    exfalso
    have : ∀ (r : List Nat) (a : Nat), lastO (some a) r ≠ none := fun r => by
      induction r with
      | nil => intro a; simp [lastO]
      | cons b s ih => intro a; exact ih b
    exact this r a h
theorem Lk.snoc {f g : Nat → Option Nat} {q : Nat} : ∀ {p : Option Nat} {xs : List Nat}, Lk f g p xs → (xs ++ [q]).Nodup → g q = none → p ≠ some q →
    Lk (updO f (some q) (lastO p xs)) (updO g (lastO p xs) (some q)) p (xs ++ [q])
  | p, [], h, hn, hg, hp => by
    refine ⟨by simp [updO, lastO], ?_, trivial⟩
    simp [updO, lastO, hp, hg]
  | p, a :: r, h, hn, hg, hp => by
    have hn' : a ∉ r ++ [q] ∧ (r ++ [q]).Nodup := List.nodup_cons.1 hn
    have haq : a ≠ q := fun e => hn'.1 (by simp [e])
    have ih := Lk.snoc (p := some a) h.2.2 hn'.2 hg (by simpa using haq)
    refine ⟨?_, ?_, ih⟩
    · unfold updO
      rw [if_neg (by simp only [Option.some.injEq]; exact fun e => haq e.symm)]
      exact h.1
    · cases r with
      | nil => simp [updO, lastO]
      | cons b s =>
        have : lastO (some a) (b :: s) ≠ some a := fun e => by
          rcases lastO_mem (xs := s) (p := some b) e with e | e
          · simp only [Option.some.injEq] at e
            exact hn'.1 (by simp [e])
          · exact hn'.1 (by simp [e])
        show updO g (lastO (some a) (b :: s)) (some q) a = _
        unfold updO
        rw [if_neg this, h.2.1]
        rfl
end Go.Proofs.YtllchnancjgijaaGreat.Lv
/- Seats in memory: chairs linked in three rows each, maps of chairs by caller, of rows by name, of cancelled tokens; how all this stays; no conditions. -/
namespace Go.Proofs.YtllchnancjgijaaGreat.Lv
open Go.RowKit Go.Maps Go.ChangeMaps Go.WideMaps
set_option maxRecDepth 100000
set_option linter.unusedVariables false
set_option linter.unusedSimpArgs false
abbrev Nm := Int × Int
def OkN (x : Nm) : Prop := W64 x.1 ∧ W64 x.2
def nv (x : Nm) : Value := .agg #[.int .i64 x.1, .int .i64 x.2]
def datN (x : Nm) : DataW Unit := .agg [.lit (.int .i64 x.1), .lit (.int .i64 x.2)]
def nlit (x : Nm) : Lit := (datN x).asKey
theorem cellsN : Tryz.prog.cellsOf 200 = 2 := by kernel_rfl
theorem shut_name {H : Type} {enc : TypeId × Value → H} {W : World} {base : Nat} {sp : Nat → Bool} {held : Bool} {a b : Int} (wa : W64 a) (wb : W64 b) :
    DataW.Trod enc Tryz.prog W base sp held 200 (.agg #[.int .i64 a, .int .i64 b]) (.agg [.lit (.int .i64 a), .lit (.int .i64 b)]) [] :=
  Joins.shut_agg2 (y0 := (.lit (.int .i64 a), [])) (y1 := (.lit (.int .i64 b), [])) Tryz.underlying200 (by kernel_rfl) cellsN ⟨1, by have wa' : (Lit.int .i64 a).wf = true := wa; simp [DataW.trod, Tryz.underlying3, wa']⟩ ⟨1, by have wb' : (Lit.int .i64 b).wf = true := wb; simp [DataW.trod, Tryz.underlying3, wb']⟩
theorem wideN : (match Tryz.prog.underlying 200 with | some (.array _ _) | some (.struct _) => true | _ => false) = true := by kernel_rfl
theorem deepN : Tryz.prog.keyTypeAt (Tryz.prog.types.size + 1) 200 = true := by kernel_rfl
theorem formedN (a b : Int) : (Value.agg #[.int .i64 a, .int .i64 b]).formed Tryz.prog 200 = true := by
  simp [Value.formed, Tryz.underlying200, cellsN]
set_option maxRecDepth 100000 in
theorem lawN : KeyLaw Tryz.prog 200 := deep_law_laid (by kernel_rfl) (m := 2) (by omega) (of_decide_eq_true (by kernel_rfl)) (by kernel_rfl) wideN
theorem keyedN : Keyed Tryz.prog 200 := Keyed.of_law lawN
set_option maxRecDepth 100000 in
theorem keyN {x : Nm} (h : OkN x) : keyOf Tryz.prog 200 (nv x) = some (nlit x) :=
  (keyOf_asKey (enc := fun _ => ()) (w := default) (base := 0) (sp := fun _ => true) (held := true) deepN wideN (formedN _ _) (shut_name h.1 h.2)).1
theorem nlit_inj {x y : Nm} (hx : OkN x) (hy : OkN y) (e : nlit x = nlit y) : x = y := by
  have h1 := keyN hx
  have h2 := keyN hy
  rw [← e] at h2
  have h3 := lawN.inj h1 h2
  simp only [nv, Value.agg.injEq, Array.mk.injEq, List.cons.injEq, Value.int.injEq, and_true, true_and] at h3
  exact Prod.ext h3.1 h3.2
def KN : KK Tryz.prog 200 Nm := ⟨OkN, nv, nlit, keyedN, keyN, nlit_inj⟩
def pv (o : Option Nat) : Value := .pointer (o.map (fun q => ⟨q, 0, none⟩))
theorem pv_some (q : Nat) : pv (some q) = PT q := rfl
def sv (x : Se) : Value := .agg #[.int .i64 x.1, .int .i64 x.2.1, .int .i64 x.2.2]
def chc (x : Se) (a b : Nat → Option Nat) : Array Value := #[.int .i64 x.1, .int .i64 x.2.1, .int .i64 x.2.2, pv (a 0), pv (a 1), pv (a 2), pv (b 0), pv (b 1), pv (b 2)]
def updN (a : Nat → Option Nat) (k : Nat) (v : Option Nat) : Nat → Option Nat := fun j => if j = k then v else a j
theorem chc_sa {x : Se} {a b : Nat → Option Nat} {k : Nat} (hk : k < 3) (v : Option Nat) : (chc x a b).setIfInBounds (3 + k) (pv v) = chc x (updN a k v) b := by
  match k, hk with
  | 0, _ => simp [chc, updN]
  | 1, _ => simp [chc, updN]
  | 2, _ => simp [chc, updN]
theorem chc_sb {x : Se} {a b : Nat → Option Nat} {k : Nat} (hk : k < 3) (v : Option Nat) : (chc x a b).setIfInBounds (6 + k) (pv v) = chc x a (updN b k v) := by
  match k, hk with
  | 0, _ => simp [chc, updN]
  | 1, _ => simp [chc, updN]
  | 2, _ => simp [chc, updN]
abbrev Chr := Nat × Se
def num (k : Nat) (x : Se) : Int := match k with | 0 => 0 | 1 => x.2.1 | _ => x.2.2
def rowOf (k : Nat) (n : Int) (CH : List Chr) : List Nat := (CH.filter (fun p => decide (num k p.2 = n))).map Prod.fst
def rowC (xs : List Nat) : Array Value := #[pv xs.head?, pv (lastO none xs)]
def rowV (xs : List Nat) : Value := .agg (rowC xs)
def cmap (CH : List Chr) (c : Int) : Option Value := (CH.find? (fun p => decide (p.2.1 = c))).map (fun p => PT p.1)
def rmap (CH : List Chr) (n : Nm) : Option Value := if 0 ≤ n.1 ∧ n.1 < 3 ∧ rowOf n.1.toNat n.2 CH ≠ [] then some (rowV (rowOf n.1.toNat n.2 CH)) else none
def kmap (G : List Int) (t : Int) : Option Value := if t ∈ G then some (.agg #[]) else none
def Ch (w : World) (CH : List Chr) (A B : Nat → Nat → Option Nat) : Prop := ∀ p ∈ CH, w.heap[p.1]? = some (.cells (chc p.2 (fun k => A k p.1) (fun k => B k p.1)) 238 (0, 0))
def Lks (A B : Nat → Nat → Option Nat) (CH : List Chr) : Prop := ∀ k, k < 3 → ∀ n, Lk (A k) (B k) none (rowOf k n CH)
def sbc (mc mr mk : Option Nat) : Array Value := #[.map mc, .map mr, .map mk]
structure Sm (w : World) (s : Nat) (mc mr mk : Option Nat) (nr : Nat) (CH : List Chr) (G : List Int) : Prop where
  hb : w.heap[s]? = some (.cells (sbc mc mr mk) 197 (0, 0))
  cm : (mc = none ∧ mr = none ∧ CH = []) ∨ ∃ b d, mc = some b ∧ mr = some d ∧ b ≠ d ∧ MapK KI w b CH.length (cmap CH) ∧ MapK KN w d nr (rmap CH)
  km : (mk = none ∧ G = []) ∨ ∃ b, mk = some b ∧ MapK KI w b G.length (kmap G)
  kc : ∀ b, mk = some b → mc ≠ some b ∧ mr ≠ some b
  lk : ∃ A B, Ch w CH A B ∧ Lks A B CH
  nb : (CH.map Prod.fst).Nodup
def fpS (s : Nat) (mc mr mk : Option Nat) (CH : List Chr) : List Nat := s :: (mc.toList ++ (mr.toList ++ (mk.toList ++ CH.map Prod.fst)))
theorem mem_fpS {s : Nat} {mc mr mk : Option Nat} {CH : List Chr} {q : Nat} : q ∈ fpS s mc mr mk CH ↔ q = s ∨ mc = some q ∨ mr = some q ∨ mk = some q ∨ q ∈ CH.map Prod.fst := by
  simp only [fpS, List.mem_cons, List.mem_append, Option.mem_toList, Option.mem_def]
def Own1 (w : World) (q : Nat) : Prop := (∃ cs z, w.heap[q]? = some (.cells cs 197 z)) ∨ (∃ cs z, w.heap[q]? = some (.cells cs 238 z)) ∨ ∃ es cl, w.heap[q]? = some (.map es cl)
def Sq (w : World) (s : Nat) (F : List Nat) (L : List Se) (G : List Int) (N : Nat) : Prop := ∃ mc mr mk nr CH, F = fpS s mc mr mk CH ∧ L = CH.map Prod.snd ∧ Sm w s mc mr mk nr CH G ∧ Iv L G N ∧ nr ≤ 3 * N
def SqE (w w' : World) (s : Nat) (F : List Nat) (L : List Se) (G : List Int) (N : Nat) : Prop := ∃ F', Sq w' s F' L G N ∧ Touch F w w' ∧ Nf w F F'
section
variable {w w' : World} {s nr : Nat} {mc mr mk : Option Nat} {CH : List Chr} {G : List Int} {F X : List Nat} {L : List Se} {N M : Nat}
theorem Sm.own (h : Sm w s mc mr mk nr CH G) : ∀ q, q ∈ fpS s mc mr mk CH → Own1 w q := fun q hq => by
  rcases mem_fpS.1 hq with e | e | e | e | e
  · subst e; exact Or.inl ⟨_, _, h.hb⟩
  · rcases h.cm with ⟨h1, _⟩ | ⟨b, d, h1, h2, _, h3, h4⟩
    · rw [h1] at e; cases e
    · rw [h1] at e; cases e; exact Or.inr (Or.inr h3.kind)
  · rcases h.cm with ⟨_, h1, _⟩ | ⟨b, d, h1, h2, _, h3, h4⟩
    · rw [h1] at e; cases e
    · rw [h2] at e; cases e; exact Or.inr (Or.inr h4.kind)
  · rcases h.km with ⟨h1, _⟩ | ⟨b, h1, h2⟩
    · rw [h1] at e; cases e
    · rw [h1] at e; cases e; exact Or.inr (Or.inr h2.kind)
  · obtain ⟨p, hp, rfl⟩ := List.mem_map.1 e
    obtain ⟨A, B, h1, _⟩ := h.lk
    exact Or.inr (Or.inl ⟨_, _, h1 p hp⟩)
theorem Own1.lt {q : Nat} (h : Own1 w q) : q < w.heap.size := by
  rcases h with ⟨_, _, h⟩ | ⟨_, _, h⟩ | ⟨_, _, h⟩ <;> exact block_lt h
theorem Own1.ne {q r : Nat} (h : Own1 w q) {cs : Array Value} {t : TypeId} {z : Nat × Nat} (hr : w.heap[r]? = some (.cells cs t z)) (h1 : t ≠ 197) (h2 : t ≠ 238) : q ≠ r := fun e => by
  subst e
  rcases h with ⟨_, _, h⟩ | ⟨_, _, h⟩ | ⟨_, _, h⟩
  · rw [hr] at h; simp only [Option.some.injEq, Obj.cells.injEq] at h; exact h1 h.2.1
  · rw [hr] at h; simp only [Option.some.injEq, Obj.cells.injEq] at h; exact h2 h.2.1
  · rw [hr] at h; cases h
theorem Sm.keep (h : Sm w s mc mr mk nr CH G) (T : Touch X w w') (hX : ∀ q, q ∈ fpS s mc mr mk CH → ¬ q ∈ X) : Sm w' s mc mr mk nr CH G := by
  refine ⟨T.keep h.hb (hX s (mem_fpS.2 (Or.inl rfl))), ?_, ?_, h.kc, ?_, h.nb⟩
  · rcases h.cm with h1 | ⟨b, d, h1, h2, hne, h3, h4⟩
    · exact Or.inl h1
    · exact Or.inr ⟨b, d, h1, h2, hne, h3.keep T (hX b (mem_fpS.2 (Or.inr (Or.inl h1)))), h4.keep T (hX d (mem_fpS.2 (Or.inr (Or.inr (Or.inl h2)))))⟩
  · rcases h.km with h1 | ⟨b, h1, h2⟩
    · exact Or.inl h1
    · exact Or.inr ⟨b, h1, h2.keep T (hX b (mem_fpS.2 (Or.inr (Or.inr (Or.inr (Or.inl h1))))))⟩
  · obtain ⟨A, B, h1, h2⟩ := h.lk
    exact ⟨A, B, fun p hp => T.keep (h1 p hp) (hX p.1 (mem_fpS.2 (Or.inr (Or.inr (Or.inr (Or.inr (List.mem_map.2 ⟨p, hp, rfl⟩))))))), h2⟩
theorem Sm.keep0 (h : Sm w s mc mr mk nr CH G) (T : Touch [] w w') : Sm w' s mc mr mk nr CH G := h.keep T (fun _ _ e => by cases e)
theorem Sq.own (h : Sq w s F L G N) : ∀ q, q ∈ F → Own1 w q := by
  obtain ⟨mc, mr, mk, nr, CH, rfl, rfl, h1, _⟩ := h
  exact h1.own
theorem Sq.lt (h : Sq w s F L G N) : ∀ q, q ∈ F → q < w.heap.size := fun q hq => (h.own q hq).lt
theorem Sq.mem (h : Sq w s F L G N) : s ∈ F := by
  obtain ⟨mc, mr, mk, nr, CH, rfl, rfl, h1, _⟩ := h
  exact mem_fpS.2 (Or.inl rfl)
theorem Sq.slt (h : Sq w s F L G N) : s < w.heap.size := h.lt s h.mem
theorem Sq.keep (h : Sq w s F L G N) (T : Touch X w w') (hX : ∀ q, q ∈ F → ¬ q ∈ X) : Sq w' s F L G N := by
  obtain ⟨mc, mr, mk, nr, CH, rfl, rfl, h1, h2, h3⟩ := h
  exact ⟨mc, mr, mk, nr, CH, rfl, rfl, h1.keep T hX, h2, h3⟩
theorem Sq.keep0 (h : Sq w s F L G N) (T : Touch [] w w') : Sq w' s F L G N := h.keep T (fun _ _ e => by cases e)
theorem Sq.mono (h : Sq w s F L G N) (hm : N ≤ M) : Sq w s F L G M := by
  obtain ⟨mc, mr, mk, nr, CH, rfl, rfl, h1, h2, h3⟩ := h
  exact ⟨mc, mr, mk, nr, CH, rfl, rfl, h1, h2.mono hm, by omega⟩
theorem Sq.iv (h : Sq w s F L G N) : Iv L G N := by
  obtain ⟨mc, mr, mk, nr, CH, rfl, rfl, h1, h2, h3⟩ := h
  exact h2
theorem SqE.same (h : Sq w s F L G N) (hm : N ≤ M) (T : Touch [] w w') : SqE w w' s F L G M := ⟨F, (h.keep0 T).mono hm, T.mono (fun _ e => by cases e), Nf.refl _ _⟩
theorem SqE.trans {w2 : World} {F1 : List Nat} (t1 : Touch F w w') (n1 : Nf w F F1) (h2 : SqE w' w2 s F1 L G N) : SqE w w2 s F L G N := by
  obtain ⟨F2, r1, r2, r3⟩ := h2
  exact ⟨F2, r1, t1.trans r2 n1, n1.trans r3 t1.size⟩
theorem SqE.from0 {w2 : World} (t1 : Touch [] w w') (h2 : SqE w' w2 s F L G N) : SqE w w2 s F L G N := SqE.trans (t1.mono (fun _ e => by cases e)) (Nf.refl _ _) h2
end
end Go.Proofs.YtllchnancjgijaaGreat.Lv
/- A group in memory: its memo, its table, its batch and its seats side by side, and how a step of one of them is a step of the group; no conditions. -/
namespace Go.Proofs.YtllchnancjgijaaGreat
open Go.RowKit Go.Maps Go.ChangeMaps
set_option maxRecDepth 100000
set_option linter.unusedVariables false
structure Gp where
  c : Me.Cf
  mn : Int
  en : List Me.En
  T : Ta.Tb
  B : Ba.Bs
  L : List Lv.Se
  G : List Int
  now : Int
structure Pt where
  m : Nat
  t : Nat
  b : Nat
  s : Nat
structure Cn where
  t : Nat
  b : Nat
  s : Nat
def gcs (P : Pt) (now : Int) : Array Value := #[PT P.m, PT P.t, PT P.b, PT P.s, .int .i64 now]
def Dj (A B : List Nat) : Prop := ∀ k, k ∈ A → ¬ k ∈ B
theorem Dj.symm {A B : List Nat} (h : Dj A B) : Dj B A := fun k hk e => h k e hk
theorem Dj.grow {w : World} {A A' B : List Nat} (h : Dj A B) (nf : Nf w A A') (hB : ∀ k, k ∈ B → k < w.heap.size) : Dj A' B := fun k hk e => by
  rcases nf k hk with q | q
  · exact h k q e
  · have := hB k e; omega
structure Gm (w : World) (g : Nat) (P : Pt) (Fm Ft Fb Fs : List Nat) (X : Gp) (N : Cn) : Prop where
  bl : w.heap[g]? = some (.cells (gcs P X.now) 109 (0, 0))
  mq : Me.Mq w P.m Fm X.c X.mn X.en
  tq : Ta.Tq w P.t Ft X.T N.t
  bq : Ba.Bq w P.b Fb X.B N.b
  sq : Lv.Sq w P.s Fs X.L X.G N.s
  gm : Dj [g] Fm
  gt : Dj [g] Ft
  gb : Dj [g] Fb
  gs : Dj [g] Fs
  mt : Dj Fm Ft
  mb : Dj Fm Fb
  ms : Dj Fm Fs
  tb : Dj Ft Fb
  ts : Dj Ft Fs
  bs : Dj Fb Fs
def fpG (g : Nat) (Fm Ft Fb Fs : List Nat) : List Nat := g :: (Fm ++ (Ft ++ (Fb ++ Fs)))
theorem mem_fpG {g k : Nat} {Fm Ft Fb Fs : List Nat} : k ∈ fpG g Fm Ft Fb Fs ↔ k = g ∨ k ∈ Fm ∨ k ∈ Ft ∨ k ∈ Fb ∨ k ∈ Fs := by simp [fpG]
def Gq (w : World) (g : Nat) (P : Pt) (F : List Nat) (X : Gp) (N : Cn) : Prop := ∃ Fm Ft Fb Fs, F = fpG g Fm Ft Fb Fs ∧ Gm w g P Fm Ft Fb Fs X N
def GqE (w w' : World) (g : Nat) (P : Pt) (F : List Nat) (X : Gp) (N : Cn) : Prop := ∃ F', Gq w' g P F' X N ∧ Touch F w w' ∧ Nf w F F'
section
variable {w w' w2 : World} {g : Nat} {P : Pt} {F F1 D Fm Ft Fb Fs : List Nat} {X Y : Gp} {N M : Cn}
theorem Gm.glt (h : Gm w g P Fm Ft Fb Fs X N) : g < w.heap.size := block_lt h.bl
theorem Gm.lt (h : Gm w g P Fm Ft Fb Fs X N) : ∀ k, k ∈ fpG g Fm Ft Fb Fs → k < w.heap.size := fun k hk => by
  rcases mem_fpG.1 hk with e | e | e | e | e
  · subst e; exact h.glt
  · exact h.mq.lt k e
  · exact h.tq.lt k e
  · exact h.bq.lt k e
  · exact h.sq.lt k e
theorem Gq.lt (h : Gq w g P F X N) : ∀ k, k ∈ F → k < w.heap.size := by
  obtain ⟨Fm, Ft, Fb, Fs, rfl, h⟩ := h
  exact h.lt
theorem Gm.keep (h : Gm w g P Fm Ft Fb Fs X N) (T : Touch D w w') (hD : ∀ k, k ∈ fpG g Fm Ft Fb Fs → ¬ k ∈ D) : Gm w' g P Fm Ft Fb Fs X N :=
  { h with
    bl := T.keep h.bl (hD g (mem_fpG.2 (Or.inl rfl)))
    mq := h.mq.keep T (fun k hk => hD k (mem_fpG.2 (Or.inr (Or.inl hk))))
    tq := h.tq.keep T (fun k hk => hD k (mem_fpG.2 (Or.inr (Or.inr (Or.inl hk)))))
    bq := h.bq.keep T (fun k hk => hD k (mem_fpG.2 (Or.inr (Or.inr (Or.inr (Or.inl hk))))))
    sq := h.sq.keep T (fun k hk => hD k (mem_fpG.2 (Or.inr (Or.inr (Or.inr (Or.inr hk)))))) }
theorem Gq.keep (h : Gq w g P F X N) (T : Touch D w w') (hD : ∀ k, k ∈ F → ¬ k ∈ D) : Gq w' g P F X N := by
  obtain ⟨Fm, Ft, Fb, Fs, rfl, h⟩ := h
  exact ⟨Fm, Ft, Fb, Fs, rfl, h.keep T hD⟩
theorem Gq.keep0 (h : Gq w g P F X N) (T : Touch [] w w') : Gq w' g P F X N := h.keep T (fun _ _ e => by cases e)
theorem GqE.same (h : Gq w g P F X N) (T : Touch [] w w') : GqE w w' g P F X N := ⟨F, h.keep0 T, T.mono (fun _ e => by cases e), Nf.refl _ _⟩
theorem GqE.refl (h : Gq w g P F X N) : GqE w w g P F X N := GqE.same h (Touch.refl _ _)
theorem GqE.then0 (h1 : GqE w w' g P F X N) (t2 : Touch [] w' w2) : GqE w w2 g P F X N := by
  obtain ⟨F1, q1, q2, q3⟩ := h1
  exact ⟨F1, q1.keep0 t2, q2.trans t2 (fun _ e => by cases e), q3⟩
theorem Nf.out {k : Nat} (n : Nf w F F1) (hk : k < w.heap.size) (hF : ¬ k ∈ F) : ¬ k ∈ F1 := fun e => by
  rcases n k e with q | q
  · exact hF q
  · omega
structure GmC (w : World) (g : Nat) (P : Pt) (now : Int) : Prop where
  c0 : w.cell? ⟨g, 0, none⟩ = some (.pointer (some ⟨P.m, 0, none⟩))
  c1 : w.cell? ⟨g, 1, none⟩ = some (.pointer (some ⟨P.t, 0, none⟩))
  c2 : w.cell? ⟨g, 2, none⟩ = some (.pointer (some ⟨P.b, 0, none⟩))
  c3 : w.cell? ⟨g, 3, none⟩ = some (.pointer (some ⟨P.s, 0, none⟩))
  c4 : w.cell? ⟨g, 4, none⟩ = some (.int .i64 now)
  f4 : w.frozen? ⟨g, 4, none⟩ = false
theorem Gm.cs (h : Gm w g P Fm Ft Fb Fs X N) : GmC w g P X.now := by
  have := h.bl
  unfold gcs PT at this
  constructor <;> simp [World.cell?, World.frozen?, this]
theorem Gq.cs (h : Gq w g P F X N) : GmC w g P X.now := by
  obtain ⟨Fm, Ft, Fb, Fs, rfl, h⟩ := h
  exact h.cs
theorem Gq.memo (h : Gq w g P F X N) : ∃ Fm, Me.Mq w P.m Fm X.c X.mn X.en ∧ (∀ k, k ∈ Fm → k ∈ F) ∧ ∀ w' n e, Me.Mc w P.m Fm X.c n e w' → GqE w w' g P F { X with mn := n, en := e } N := by
  obtain ⟨Fm, Ft, Fb, Fs, rfl, h⟩ := h
  refine ⟨Fm, h.mq, fun k hk => mem_fpG.2 (Or.inr (Or.inl hk)), fun w' n e hc => ?_⟩
  obtain ⟨F', q1, q2, q3⟩ := hc
  refine ⟨fpG g F' Ft Fb Fs, ⟨F', Ft, Fb, Fs, rfl, ?_⟩, q2.mono (fun k hk => mem_fpG.2 (Or.inr (Or.inl hk))), fun k hk => ?_⟩
  · exact ⟨q2.keep h.bl (h.gm g (by simp)), q1, h.tq.keep q2 h.mt.symm, h.bq.keep q2 h.mb.symm, h.sq.keep q2 h.ms.symm, (h.gm.symm.grow q3 (fun k hk => by simp at hk; subst hk; exact h.glt)).symm, h.gt, h.gb, h.gs, h.mt.grow q3 h.tq.lt, h.mb.grow q3 h.bq.lt, h.ms.grow q3 h.sq.lt, h.tb, h.ts, h.bs⟩
  · rcases mem_fpG.1 hk with e | e | e | e | e
    · exact Or.inl (mem_fpG.2 (Or.inl e))
    · exact (q3 k e).elim (fun e => Or.inl (mem_fpG.2 (Or.inr (Or.inl e)))) Or.inr
    · exact Or.inl (mem_fpG.2 (Or.inr (Or.inr (Or.inl e))))
    · exact Or.inl (mem_fpG.2 (Or.inr (Or.inr (Or.inr (Or.inl e)))))
    · exact Or.inl (mem_fpG.2 (Or.inr (Or.inr (Or.inr (Or.inr e)))))
theorem Gq.tab (h : Gq w g P F X N) : ∃ Ft, Ta.Tq w P.t Ft X.T N.t ∧ (∀ k, k ∈ Ft → k ∈ F) ∧ ∀ w' T' M, Ta.TqE w w' P.t Ft T' M → GqE w w' g P F { X with T := T' } { N with t := M } := by
  obtain ⟨Fm, Ft, Fb, Fs, rfl, h⟩ := h
  refine ⟨Ft, h.tq, fun k hk => mem_fpG.2 (Or.inr (Or.inr (Or.inl hk))), fun w' T' M hc => ?_⟩
  obtain ⟨F', q1, q2, q3⟩ := hc
  refine ⟨fpG g Fm F' Fb Fs, ⟨Fm, F', Fb, Fs, rfl, ?_⟩, q2.mono (fun k hk => mem_fpG.2 (Or.inr (Or.inr (Or.inl hk)))), fun k hk => ?_⟩
  · exact ⟨q2.keep h.bl (h.gt g (by simp)), h.mq.keep q2 h.mt, q1, h.bq.keep q2 h.tb.symm, h.sq.keep q2 h.ts.symm, h.gm, (h.gt.symm.grow q3 (fun k hk => by simp at hk; subst hk; exact h.glt)).symm, h.gb, h.gs, (h.mt.symm.grow q3 h.mq.lt).symm, h.mb, h.ms, h.tb.grow q3 h.bq.lt, h.ts.grow q3 h.sq.lt, h.bs⟩
  · rcases mem_fpG.1 hk with e | e | e | e | e
    · exact Or.inl (mem_fpG.2 (Or.inl e))
    · exact Or.inl (mem_fpG.2 (Or.inr (Or.inl e)))
    · exact (q3 k e).elim (fun e => Or.inl (mem_fpG.2 (Or.inr (Or.inr (Or.inl e))))) Or.inr
    · exact Or.inl (mem_fpG.2 (Or.inr (Or.inr (Or.inr (Or.inl e)))))
    · exact Or.inl (mem_fpG.2 (Or.inr (Or.inr (Or.inr (Or.inr e)))))
theorem Gq.bat (h : Gq w g P F X N) : ∃ Fb, Ba.Bq w P.b Fb X.B N.b ∧ (∀ k, k ∈ Fb → k ∈ F) ∧ ∀ w' S' M, (∃ F', Ba.Bq w' P.b F' S' M ∧ Touch Fb w w' ∧ Nf w Fb F') → GqE w w' g P F { X with B := S' } { N with b := M } := by
  obtain ⟨Fm, Ft, Fb, Fs, rfl, h⟩ := h
  refine ⟨Fb, h.bq, fun k hk => mem_fpG.2 (Or.inr (Or.inr (Or.inr (Or.inl hk)))), fun w' T' M hc => ?_⟩
  obtain ⟨F', q1, q2, q3⟩ := hc
  refine ⟨fpG g Fm Ft F' Fs, ⟨Fm, Ft, F', Fs, rfl, ?_⟩, q2.mono (fun k hk => mem_fpG.2 (Or.inr (Or.inr (Or.inr (Or.inl hk))))), fun k hk => ?_⟩
  · exact ⟨q2.keep h.bl (h.gb g (by simp)), h.mq.keep q2 h.mb, h.tq.keep q2 h.tb, q1, h.sq.keep q2 h.bs.symm, h.gm, h.gt, (h.gb.symm.grow q3 (fun k hk => by simp at hk; subst hk; exact h.glt)).symm, h.gs, h.mt, (h.mb.symm.grow q3 h.mq.lt).symm, h.ms, (h.tb.symm.grow q3 h.tq.lt).symm, h.ts, h.bs.grow q3 h.sq.lt⟩
  · rcases mem_fpG.1 hk with e | e | e | e | e
    · exact Or.inl (mem_fpG.2 (Or.inl e))
    · exact Or.inl (mem_fpG.2 (Or.inr (Or.inl e)))
    · exact Or.inl (mem_fpG.2 (Or.inr (Or.inr (Or.inl e))))
    · exact (q3 k e).elim (fun e => Or.inl (mem_fpG.2 (Or.inr (Or.inr (Or.inr (Or.inl e)))))) Or.inr
    · exact Or.inl (mem_fpG.2 (Or.inr (Or.inr (Or.inr (Or.inr e)))))
theorem Gq.sea (h : Gq w g P F X N) : ∃ Fs, Lv.Sq w P.s Fs X.L X.G N.s ∧ (∀ k, k ∈ Fs → k ∈ F) ∧ ∀ w' L' G' M, Lv.SqE w w' P.s Fs L' G' M → GqE w w' g P F { X with L := L', G := G' } { N with s := M } := by
  obtain ⟨Fm, Ft, Fb, Fs, rfl, h⟩ := h
  refine ⟨Fs, h.sq, fun k hk => mem_fpG.2 (Or.inr (Or.inr (Or.inr (Or.inr hk)))), fun w' L' G' M hc => ?_⟩
  obtain ⟨F', q1, q2, q3⟩ := hc
  refine ⟨fpG g Fm Ft Fb F', ⟨Fm, Ft, Fb, F', rfl, ?_⟩, q2.mono (fun k hk => mem_fpG.2 (Or.inr (Or.inr (Or.inr (Or.inr hk))))), fun k hk => ?_⟩
  · exact ⟨q2.keep h.bl (h.gs g (by simp)), h.mq.keep q2 h.ms, h.tq.keep q2 h.ts, h.bq.keep q2 h.bs, q1, h.gm, h.gt, h.gb, (h.gs.symm.grow q3 (fun k hk => by simp at hk; subst hk; exact h.glt)).symm, h.mt, h.mb, (h.ms.symm.grow q3 h.mq.lt).symm, h.tb, (h.ts.symm.grow q3 h.tq.lt).symm, (h.bs.symm.grow q3 h.bq.lt).symm⟩
  · rcases mem_fpG.1 hk with e | e | e | e | e
    · exact Or.inl (mem_fpG.2 (Or.inl e))
    · exact Or.inl (mem_fpG.2 (Or.inr (Or.inl e)))
    · exact Or.inl (mem_fpG.2 (Or.inr (Or.inr (Or.inl e))))
    · exact Or.inl (mem_fpG.2 (Or.inr (Or.inr (Or.inr (Or.inl e)))))
    · exact (q3 k e).elim (fun e => Or.inl (mem_fpG.2 (Or.inr (Or.inr (Or.inr (Or.inr e)))))) Or.inr
theorem Gq.setNow (h : Gq w g P F X N) (n : Int) : GqE w (w.setCell ⟨g, 4, none⟩ (.int .i64 n)) g P F { X with now := n } N := by
  obtain ⟨Fm, Ft, Fb, Fs, rfl, h⟩ := h
  have T : Touch [g] w (w.setCell ⟨g, 4, none⟩ (.int .i64 n)) := (Touch.refl _ _).setCell (Or.inl (by simp)) _
  refine ⟨_, ⟨Fm, Ft, Fb, Fs, rfl, { h with bl := ?_, mq := h.mq.keep T h.gm.symm, tq := h.tq.keep T h.gt.symm, bq := h.bq.keep T h.gb.symm, sq := h.sq.keep T h.gs.symm }⟩, T.mono (fun k hk => by simp at hk; exact mem_fpG.2 (Or.inl hk)), Nf.refl _ _⟩
  have := bset h.bl (i := 4) (.int .i64 n)
  unfold gcs at this ⊢
  simpa using this
theorem Gq.iv (h : Gq w g P F X N) : Me.Gd X.c X.mn X.en ∧ Ta.Ti X.T N.t ∧ Ta.Lv X.T ∧ Lv.Iv X.L X.G N.s ∧ Ba.Iv X.B N.b := by
  obtain ⟨Fm, Ft, Fb, Fs, rfl, h⟩ := h
  refine ⟨h.mq.gd, h.tq.iv, h.tq.live, h.sq.iv, ?_⟩
  obtain ⟨sl, d, e, hm, hv⟩ := h.bq
  exact hv
end
section
variable {W w w' w2 : World} {g : Nat} {P : Pt} {F Bx : List Nat} {X Y : Gp} {N M : Cn}
end
section
variable {W w w' w1 w2 : World} {g : Nat} {P : Pt} {F : List Nat} {X Y : Gp} {N M : Cn}
theorem GqE.tch (h : GqE W w1 g P F X N) : Touch F W w1 := by
  obtain ⟨F1, q1, q2, q3⟩ := h
  exact q2
theorem GqE.bk (h : GqE W w1 g P F X N) {k : Nat} {ob : Obj} (hk : W.heap[k]? = some ob) (hn : ¬ k ∈ F) : w1.heap[k]? = some ob := h.tch.keep hk hn
theorem GqE.cs (h : GqE W w1 g P F X N) : GmC w1 g P X.now := by
  obtain ⟨F1, q1, q2, q3⟩ := h
  exact q1.cs
theorem GqE.sub (h : GqE W w1 g P F X N) : ∃ F1, Gq w1 g P F1 X N ∧ (∀ k, k < W.heap.size → ¬ k ∈ F → ¬ k ∈ F1) ∧ ∀ w2 Y M, GqE w1 w2 g P F1 Y M → GqE W w2 g P F Y M := by
  obtain ⟨F1, q1, q2, q3⟩ := h
  refine ⟨F1, q1, fun k h1 h2 => q3.out h1 h2, fun w2 Y M hE => ?_⟩
  obtain ⟨F2, r1, r2, r3⟩ := hE
  exact ⟨F2, r1, q2.trans r2 q3, q3.trans r3 q2.size⟩
theorem GqE.box (t0 : Touch [] w W) (h : GqE W w1 g P F X N) (hF : ∀ d, d ∈ F → d < w.heap.size) {Bs : List Nat} (hb : ∀ b, b ∈ Bs → w.heap.size ≤ b ∧ b < W.heap.size) (T2 : Touch Bs w1 w2) : GqE w w2 g P F X N := by
  obtain ⟨F1, q1, q2, q3⟩ := h
  refine ⟨F1, q1.keep T2 (fun d hd e => ?_), ((t0.mono (fun _ e => by cases e)).trans' q2).trans T2 (fun i hi => Or.inr (hb i hi).1), fun k hk => (q3 k hk).elim Or.inl (fun e => Or.inr (Nat.le_trans t0.size e))⟩
  have := hb d e
  rcases q3 d hd with q | q
  · have := hF d q; omega
  · omega
end
end Go.Proofs.YtllchnancjgijaaGreat
/- The contract of put; a key's name has at most 64 bytes. -/
namespace Go.Proofs.YtllchnancjgijaaGreat.Me
open Go.RowKit Go.Sort Go.Maps Go.ChangeMaps Go.WideMaps
set_option maxRecDepth 100000
set_option linter.unusedVariables false
set_option linter.unusedSimpArgs false
theorem dr_len_mem {xs : List K} {k : K} (hn : xs.Nodup) (h : k ∈ xs) : (dr xs k).length + 1 = xs.length := by
  obtain ⟨A, B, rfl⟩ := List.append_of_mem h
  rw [List.nodup_append, List.nodup_cons] at hn
  rw [dr_mid (fun x hx e => hn.2.2 x hx k (by simp) e) (fun x hx e => hn.2.1.1 (e ▸ hx))]
  simp only [List.length_append, List.length_cons]
  omega
theorem putY_len {xs : List En} (hn : (keysL xs).Nodup) (k : K) (v : V) : (putY xs k v).length = if (mpf xs k).isSome then xs.length else xs.length + 1 := by
  unfold putY mpf
  simp only [List.length_append, List.length_singleton, Option.isSome_map]
  rw [fnd_isSome]
  by_cases h : k ∈ keysL xs
  · rw [hs_yes h, if_pos rfl]
    have h1 := dr_len_mem hn h
    rw [← drx_keys, keysL_len, keysL_len] at h1
    exact h1
  · rw [hs_no h]
    simp only [Bool.false_eq_true, if_false]
    have h1 := congrArg List.length (dr_no h)
    rw [← drx_keys, keysL_len, keysL_len] at h1
    omega
section
variable {w W : World} {m b o : Nat} {G : List Nat} {c : Cf} {now : Int} {xs : List En} {k : K} {v : V}
end
end Go.Proofs.YtllchnancjgijaaGreat.Me
/- The contract of Tell; a key's space is a number of 16 bits, a name's length fits. -/
namespace Go.Proofs.YtllchnancjgijaaGreat.Me
open Go.RowKit Go.Sort Go.Maps Go.ChangeMaps Go.WideMaps
set_option maxRecDepth 100000
set_option linter.unusedVariables false
set_option linter.unusedSimpArgs false
def useX (xs : List En) (k : K) : List En := match fnd xs k with
  | none => xs
  | some v => putY xs k v
def isUse (h : Int) : Bool := decide (h = 1) || decide (h = 2)
def tellX (c : Cf) (now n : Int) (xs : List En) (k : K) : List En := if isUse (askR c now n xs k).1 then useX xs k else xs
theorem mpf_use {xs : List En} {k : K} {v : V} (h : fnd xs k = some v) : mpf (putY xs k v) = mpf xs := by
  funext j
  unfold mpf
  rw [fnd_putY]
  by_cases e : j = k
  · rw [if_pos e, e, h]
  · rw [if_neg e]
theorem putY_len' {xs : List En} {k : K} {v : V} (hn : (keysL xs).Nodup) (h : fnd xs k = some v) : (putY xs k v).length = xs.length := by
  rw [putY_len hn]
  unfold mpf
  rw [h]
  rfl
theorem Gd.use {c : Cf} {now : Int} {xs : List En} {k : K} {v : V} (h : Gd c now xs) (hn : (keysL xs).Nodup) (hf : fnd xs k = some v) : Gd c now (putY xs k v) :=
  h.sub (fun x hx => (mem_putY hx).elim id (fun e => e ▸ fnd_mem hf)) (Nat.le_of_eq (putY_len' hn hf))
theorem Mb.touch {w w' : World} {m b o : Nat} {G : List Nat} {c : Cf} {now : Int} {xs : List En} {k : K} {v : V} (h : Mb w m b o G c now xs) (hf : fnd xs k = some v) (hc : Ch w o G c.e (dr (keysL xs) k ++ [k]) w') : Mc w m (m :: b :: G) c now (putY xs k v) w' := by
  obtain ⟨G', c1, c2, c3⟩ := hc
  have hlt := h.lt
  refine ⟨m :: b :: G', ⟨b, o, G', rfl, c2.keep h.md h.mg, ?_, ?_, h.gd.use h.nd hf, fun hh => (c3 b hh).elim h.bg (fun e => by have := hlt b (by simp); omega)⟩, c2.mono (fun i hi => by simp [hi]), fun i hi => ?_⟩
  · rw [putY_len' h.nd hf, mpf_use hf]
    exact h.mp.kept (c2.block b h.mp.lt h.bg)
  · rw [putY_keys]
    exact c1
  · simp only [List.mem_cons] at hi ⊢
    rcases hi with rfl | rfl | hi
    · exact Or.inl (Or.inl rfl)
    · exact Or.inl (Or.inr (Or.inl rfl))
    · exact (c3 i hi).elim (fun e => Or.inl (Or.inr (Or.inr e))) Or.inr
def sbx (h a : Int) (x : O) : Obj := .cells #[.int .i64 h, .int .i64 a, .int .i64 x.1, .int .i64 x.2.1, .int .i64 x.2.2.1, .int .i64 x.2.2.2] 173
structure S6 (w : World) (r : Nat) (h a : Int) (x : O) : Prop where
  c0 : w.cell? ⟨r, 0, none⟩ = some (.int .i64 h)
  c1 : w.cell? ⟨r, 1, none⟩ = some (.int .i64 a)
  c2 : w.cell? ⟨r, 2, none⟩ = some (.int .i64 x.1)
  c3 : w.cell? ⟨r, 3, none⟩ = some (.int .i64 x.2.1)
  c4 : w.cell? ⟨r, 4, none⟩ = some (.int .i64 x.2.2.1)
  c5 : w.cell? ⟨r, 5, none⟩ = some (.int .i64 x.2.2.2)
theorem S6.mk' {w : World} {r : Nat} {h a : Int} {x : O} (hh : w.heap[r]? = some (sbx h a x)) : S6 w r h a x := by
  unfold sbx at hh
  constructor <;> simp [World.cell?, hh]
structure TlV (w : World) (k : K) (V : World) : Prop where
  t : Touch [] w V
  hB : V.heap[w.heap.size]? = some (bx k)
  hZ : V.heap[w.heap.size + 1]? = some zbx
theorem TlV.mk' (w : World) (k : K) : TlV w k ((w.alloc (bx k)).alloc zbx) :=
  ⟨((Touch.refl _ _).alloc _).alloc _, (Below.heap_alloc _ _ _ (by simp)).trans (heap_alloc_new w _), by
    have := heap_alloc_new (w.alloc (bx k)) zbx
    rwa [World.size_alloc] at this⟩
set_option maxHeartbeats 2000000 in
theorem tell22_not (w : World) (m : Nat) (F : List Nat) (c : Cf) (now n : Int) (xs : List En) (h : Mq w m F c now xs) (k : K) (ok : Ok k) (hu : isUse (askR c now n xs k).1 = false) :
    Calls Tryz.prog 90 #[PT m, .int .i64 n, kv k] w fun e w' => e = .returned (.tuple #[lv (askR c now n xs k), .int .i64 (askE now n k)]) ∧ Mc w m F c (askN now n k) xs w' := by
  obtain ⟨V, hV⟩ : ∃ V, V = (w.alloc (bx k)).alloc zbx := ⟨_, rfl⟩
  have KV : TlV w k V := by rw [hV]; exact TlV.mk' w k
  have hF := h.lt
  have HL := hid (lookM V m F c now n xs (h.keep0 KV.t) k ok)
  generalize askR c now n xs k = s at *
  generalize askE now n k = E at *
  generalize askN now n k = n' at *
  obtain ⟨sh, sa, so⟩ := s
  have HW : Hid (∀ w2, Mc V m F c n' xs w2 → Z6 (w2.alloc (sbx sh sa so)) (w.heap.size + 1) ∧ S6 (w2.alloc (sbx sh sa so)) w2.heap.size sh sa so ∧ ∀ w5, Touch [w.heap.size + 1] (w2.alloc (sbx sh sa so)) w5 → Mc w m F c n' xs w5) := fun w2 C => by
    have hz := block_lt KV.hZ
    have C' := C.keep0 ((Touch.refl [] w2).alloc (sbx sh sa so))
    exact ⟨Z6.mk' (C'.block KV.hZ (fun hh => by have := hF _ hh; omega)), S6.mk' (heap_alloc_new w2 _), fun w5 t5 => C'.own t5 KV.t (Nat.le_succ _) hz hF⟩
  unfold isUse at hu
  simp only [Bool.or_eq_false_iff, decide_eq_false_iff_not] at hu
  have u1 : (sh == 1) = false := by simp [hu.1]
  have u2 : (sh == 2) = false := by simp [hu.2]
  have hB := KV.hB
  unfold bx at hB
  have b0 : V.cell? ⟨w.heap.size, 0, none⟩ = some (.int .u16 k.1) := by simp [World.cell?, hB]
  have b1 : V.cell? ⟨w.heap.size, 1, none⟩ = some (.string k.2) := by simp [World.cell?, hB]
  clear KV hB hu h ok hF
  unfold PT kv lv sv at *
  unfold sbx at HW
  simp only at HL HW ⊢
  go_enter Tryz.func90, Tryz.ntmps90
  go_upto_region 1 with fail
  unfold bx zbx at hV
  rw [← hV]
  clear hV
  go_wp2_with (go_at_call 88; refine HL.out.mono ?_; rintro e w2 ⟨rfl, c2⟩; obtain ⟨hz, hs, hc⟩ := HW.out _ c2; obtain ⟨z0, z1, z2, z3, z4, z5, f0, f1, f2, f3, f4, f5⟩ := hz; obtain ⟨s0, s1, s2, s3, s4, s5⟩ := hs; have HC := hid hc; clear hc c2)
  refine bodyPost_ret (v := .tuple #[.agg #[.int .i64 sh, .int .i64 sa, .int .i64 so.1, .int .i64 so.2.1, .int .i64 so.2.2.1, .int .i64 so.2.2.2], .int .i64 E]) (by simp [results, Tryz.results90, go_sem, z0, z1, z2, z3, z4, z5]) rfl ⟨rfl, ?_⟩
  exact HC.out _ (tset6 _ _ _ _ _ _ _ _)
set_option maxHeartbeats 2000000 in
theorem tell22_yes (w : World) (m : Nat) (F : List Nat) (c : Cf) (now n : Int) (xs : List En) (h : Mq w m F c now xs) (k : K) (ok : Ok k) (hu : isUse (askR c now n xs k).1 = true) (v : V) (hf : fnd xs k = some v) :
    Calls Tryz.prog 90 #[PT m, .int .i64 n, kv k] w fun e w' => e = .returned (.tuple #[lv (askR c now n xs k), .int .i64 (askE now n k)]) ∧ Mc w m F c (askN now n k) (putY xs k v) w' := by
  obtain ⟨V, hV⟩ : ∃ V, V = (w.alloc (bx k)).alloc zbx := ⟨_, rfl⟩
  have KV : TlV w k V := by rw [hV]; exact TlV.mk' w k
  have hF := h.lt
  have HL := hid (lookM V m F c now n xs (h.keep0 KV.t) k ok)
  generalize askR c now n xs k = s at *
  generalize askE now n k = E at *
  generalize askN now n k = n' at *
  obtain ⟨sh, sa, so⟩ := s
  have HW : Hid (∀ w2, Mc V m F c n' xs w2 → ∃ o G, (∀ w', Touch G (w2.alloc (sbx sh sa so)) w' → w'.cell? ⟨m, 9, none⟩ = some (.pointer (some ⟨o, 0, none⟩)) ∧ (w'.cell? ⟨w.heap.size, 0, none⟩ = some (.int .u16 k.1) ∧ w'.cell? ⟨w.heap.size, 1, none⟩ = some (.string k.2)) ∧ Z6 w' (w.heap.size + 1) ∧ S6 w' w2.heap.size sh sa so) ∧
      (Calls Tryz.prog 132 #[PT o, kv k] (w2.alloc (sbx sh sa so)).drew fun e w' => e = .returned (.bool true) ∧ Touch G (w2.alloc (sbx sh sa so)) w' ∧ ∀ w5, Touch [w.heap.size + 1] w' w5 → Mc w m F c n' (putY xs k v) w5)) := fun w2 C => by
    have hz := block_lt KV.hZ
    obtain ⟨F2, C1, C2, C3⟩ := C.keep0 ((Touch.refl [] w2).alloc (sbx sh sa so))
    obtain ⟨b, o, G, rfl, hm⟩ := C1
    have hlt := hm.lt
    have hzz := (Mc.keep0 C (Touch.refl [] w2))
    have hw2 : V.heap.size ≤ w2.heap.size := by obtain ⟨_, _, t, _⟩ := C; exact t.size
    have hw2' : w.heap.size + 2 ≤ V.heap.size := by omega
    have nG : ∀ q, w.heap.size ≤ q → q < V.heap.size → ¬ q ∈ m :: b :: G := fun q h1 h2 hh => by
      rcases C3 q hh with e | e
      · have := hF q e; omega
      · omega
    have nG2 : ¬ w2.heap.size ∈ G := hm.oq.away (heap_alloc_new w2 (sbx sh sa so)) (by decide) (by decide)
    refine ⟨o, G, fun w' t => ?_, ?_⟩
    · have k1 := t.keep (C2.keep KV.hB (fun hh => by have := hF _ hh; omega)) (fun hh => nG w.heap.size (Nat.le_refl _) (by omega) (by simp [hh]))
      unfold bx at k1
      exact ⟨(show Md w' m c n' b o from t.keep hm.md hm.mg).cs.c9, by simp [World.cell?, k1], Z6.mk' (t.keep (C2.keep KV.hZ (fun hh => by have := hF _ hh; omega)) (fun hh => nG (w.heap.size + 1) (by omega) (by omega) (by simp [hh]))), S6.mk' (t.keep (heap_alloc_new w2 (sbx sh sa so)) nG2)⟩
    · have hd := hm.keep0 ((Touch.refl [] _).drew)
      refine (touchO_yes _ o G c.e (keysL xs) k ?_ hd.oq).mono ?_
      · by_cases e : k ∈ keysL xs
        · exact e
        · rw [fnd_none e] at hf; cases hf
      · rintro e w3 ⟨rfl, c3⟩
        have M3 := hd.touch hf c3
        refine ⟨rfl, ?_, fun w5 t5 => ?_⟩
        · obtain ⟨_, _, t, _⟩ := c3
          exact ((Touch.refl G _).drew).trans' t
        · have M4 : Mc V m F c n' (putY xs k v) w3 := by
            obtain ⟨F3, m1, m2, m3⟩ := M3
            exact ⟨F3, m1, (C2.trans (((Touch.refl (m :: b :: G) _).drew).trans' m2) C3), C3.trans (fun i hi => m3 i hi) C2.size⟩
          exact M4.own t5 KV.t (Nat.le_succ _) hz hF
  have hB := KV.hB
  unfold bx at hB
  have b0 : V.cell? ⟨w.heap.size, 0, none⟩ = some (.int .u16 k.1) := by simp [World.cell?, hB]
  have b1 : V.cell? ⟨w.heap.size, 1, none⟩ = some (.string k.2) := by simp [World.cell?, hB]
  clear KV hB h ok hF hf
  generalize putY xs k v = ys at *
  unfold isUse at hu
  simp only [Bool.or_eq_true, decide_eq_true_eq] at hu
  unfold PT kv lv sv at *
  unfold sbx at HW
  simp only at HL HW ⊢
  rcases hu with hu | hu
  · subst hu
    go_enter Tryz.func90, Tryz.ntmps90
    go_upto_region 1 with fail
    unfold bx zbx at hV
    rw [← hV]
    clear hV
    go_upto_region 3 with (go_at_call 88; refine HL.out.mono ?_; rintro e w2 ⟨rfl, c2⟩; have C2 := hid c2; clear c2)
    obtain ⟨o, G, h1, h2⟩ := HW.out _ C2.out
    obtain ⟨W, hW⟩ : ∃ W, W = w2.alloc (.cells #[.int .i64 1, .int .i64 sa, .int .i64 so.1, .int .i64 so.2.1, .int .i64 so.2.2.1, .int .i64 so.2.2.2] 173) := ⟨_, rfl⟩
    rw [← hW] at h1 h2 ⊢
    clear hW b0 b1
    have sA : ∀ w', Touch G W w' → w'.cell? ⟨m, 9, none⟩ = some (.pointer (some ⟨o, 0, none⟩)) := fun w' t => (h1 w' t).1
    have sB : ∀ w', Touch G W w' → w'.cell? ⟨w.heap.size, 0, none⟩ = some (.int .u16 k.1) := fun w' t => (h1 w' t).2.1.1
    have sC : ∀ w', Touch G W w' → w'.cell? ⟨w.heap.size, 1, none⟩ = some (.string k.2) := fun w' t => (h1 w' t).2.1.2
    have H1 : Hid (∀ w', Touch G W w' → Z6 w' (w.heap.size + 1) ∧ S6 w' w2.heap.size 1 sa so) := fun w' t => (h1 w' t).2.2
    have H2 := hid h2
    clear h1 h2
    have t0 : Touch G W W.drew := (Touch.refl _ _).drew
    go_region_held3 (fun w' => Touch G W w') (first | assumption | exact (Touch.refl _ _).drew) ((go_at_call 132; refine H2.out.mono ?_; rintro e w3 ⟨rfl, t3, c3⟩; have C3 := hid c3; clear c3))
    obtain ⟨hz, hs⟩ := H1.out _ t3
    obtain ⟨z0, z1, z2, z3, z4, z5, f0, f1, f2, f3, f4, f5⟩ := hz
    obtain ⟨s0, s1, s2, s3, s4, s5⟩ := hs
    clear sA sB sC t0 t3
    go_wp2
    refine bodyPost_ret (v := .tuple #[.agg #[.int .i64 1, .int .i64 sa, .int .i64 so.1, .int .i64 so.2.1, .int .i64 so.2.2.1, .int .i64 so.2.2.2], .int .i64 E]) (by simp [results, Tryz.results90, go_sem, z0, z1, z2, z3, z4, z5]) rfl ⟨rfl, ?_⟩
    exact C3.out _ (tset6 _ _ _ _ _ _ _ _)
  · subst hu
    go_enter Tryz.func90, Tryz.ntmps90
    go_upto_region 1 with fail
    unfold bx zbx at hV
    rw [← hV]
    clear hV
    go_upto_region 3 with (go_at_call 88; refine HL.out.mono ?_; rintro e w2 ⟨rfl, c2⟩; have C2 := hid c2; clear c2)
    obtain ⟨o, G, h1, h2⟩ := HW.out _ C2.out
    obtain ⟨W, hW⟩ : ∃ W, W = w2.alloc (.cells #[.int .i64 2, .int .i64 sa, .int .i64 so.1, .int .i64 so.2.1, .int .i64 so.2.2.1, .int .i64 so.2.2.2] 173) := ⟨_, rfl⟩
    rw [← hW] at h1 h2 ⊢
    clear hW b0 b1
    have sA : ∀ w', Touch G W w' → w'.cell? ⟨m, 9, none⟩ = some (.pointer (some ⟨o, 0, none⟩)) := fun w' t => (h1 w' t).1
    have sB : ∀ w', Touch G W w' → w'.cell? ⟨w.heap.size, 0, none⟩ = some (.int .u16 k.1) := fun w' t => (h1 w' t).2.1.1
    have sC : ∀ w', Touch G W w' → w'.cell? ⟨w.heap.size, 1, none⟩ = some (.string k.2) := fun w' t => (h1 w' t).2.1.2
    have H1 : Hid (∀ w', Touch G W w' → Z6 w' (w.heap.size + 1) ∧ S6 w' w2.heap.size 2 sa so) := fun w' t => (h1 w' t).2.2
    have H2 := hid h2
    clear h1 h2
    have t0 : Touch G W W.drew := (Touch.refl _ _).drew
    go_region_held3 (fun w' => Touch G W w') (first | assumption | exact (Touch.refl _ _).drew) ((go_at_call 132; refine H2.out.mono ?_; rintro e w3 ⟨rfl, t3, c3⟩; have C3 := hid c3; clear c3))
    obtain ⟨hz, hs⟩ := H1.out _ t3
    obtain ⟨z0, z1, z2, z3, z4, z5, f0, f1, f2, f3, f4, f5⟩ := hz
    obtain ⟨s0, s1, s2, s3, s4, s5⟩ := hs
    clear sA sB sC t0 t3
    go_wp2
    refine bodyPost_ret (v := .tuple #[.agg #[.int .i64 2, .int .i64 sa, .int .i64 so.1, .int .i64 so.2.1, .int .i64 so.2.2.1, .int .i64 so.2.2.2], .int .i64 E]) (by simp [results, Tryz.results90, go_sem, z0, z1, z2, z3, z4, z5]) rfl ⟨rfl, ?_⟩
    exact C3.out _ (tset6 _ _ _ _ _ _ _ _)
theorem isUse_fnd {c : Cf} {now n : Int} {xs : List En} {k : K} (h : isUse (askR c now n xs k).1 = true) : ∃ v, fnd xs k = some v := by
  unfold askR lookS at h
  cases hf : fnd xs k with
  | some v => exact ⟨v, rfl⟩
  | none =>
    rw [hf] at h
    split at h <;> simp [isUse] at h
theorem tellM (w : World) (m : Nat) (F : List Nat) (c : Cf) (now n : Int) (xs : List En) (h : Mq w m F c now xs) (k : K) (ok : Ok k) :
    Calls Tryz.prog 90 #[PT m, .int .i64 n, kv k] w fun e w' => e = .returned (.tuple #[lv (askR c now n xs k), .int .i64 (askE now n k)]) ∧ Mc w m F c (askN now n k) (tellX c now n xs k) w' := by
  unfold tellX
  cases hu : isUse (askR c now n xs k).1 with
  | false => exact tell22_not w m F c now n xs h k ok hu
  | true =>
    obtain ⟨v, hf⟩ := isUse_fnd hu
    rw [if_pos rfl]
    unfold useX
    rw [hf]
    exact tell22_yes w m F c now n xs h k ok hu v hf
end Go.Proofs.YtllchnancjgijaaGreat.Me
/- What a group does, in plain words: its steps and what they tell; no program. -/
namespace Go.Proofs.YtllchnancjgijaaGreat
set_option linter.unusedVariables false
abbrev O := Int × Int × Int × Int
structure Jd where
  how : Int
  run : Int
  bg : Bool
  o : O
  sent : List Int
def Jd.z : Jd := ⟨0, 0, false, (0, 0, 0, 0), []⟩
def tkE (X : Gp) (n : Int) : Int := Me.tickE X.now n
def mayE (X : Gp) (n : Int) (k : K) (x t : Int) : Int := if tkE X n ≠ 0 then tkE X n else if 64 < k.2.size then 20 else if x < 1 then 1 else if t < 0 then 1 else if t ∈ X.G then 152 else if (Lv.whr X.L x).isSome then 160 else 0
def begX (X : Gp) (r : Int) : Gp := { X with B := Ba.addS X.B X.now r }
def begJ (X : Gp) (h r : Int) : Jd := ⟨h, r, true, (0, 0, 0, 0), Ba.addL X.B X.now r⟩
def runX (X : Gp) (k : K) (x : Int) (rf : Bool) : Gp := { X with T := Ta.tBeg X.T k x rf }
def renB (X : Gp) (k : K) : Bool := (Ta.curOf X.T k).isSome || decide (Ta.tBegE X.T k 0 true = 0)
def renX (X : Gp) (k : K) : Gp := match Ta.curOf X.T k with
  | some _ => X
  | none => if Ta.tBegE X.T k 0 true = 0 then begX (runX X k 0 true) (X.T.bg + 1) else X
def renJ (X : Gp) (k : K) : Jd := match Ta.curOf X.T k with
  | some R => ⟨2, R.run, false, (0, 0, 0, 0), []⟩
  | none => if Ta.tBegE X.T k 0 true = 0 then begJ X 2 (X.T.bg + 1) else Jd.z
def renC (X : Gp) (k : K) (N : Cn) : Cn := match Ta.curOf X.T k with
  | some _ => N
  | none => if Ta.tBegE X.T k 0 true = 0 then ⟨N.t + 1, N.b + 1, N.s⟩ else { N with t := N.t + 1 }
def seenOf (X : Gp) (k : K) : Int × Int × O := Me.lookS X.c X.now X.en k
def meeB (X : Gp) (k : K) (h : Int) : Bool := if h = 1 then true else if h = 2 then renB X k else false
def meeX (X : Gp) (k : K) (h : Int) : Gp := if h = 2 then renX X k else X
def meeJ (X : Gp) (k : K) (h : Int) : Jd := if h = 1 then ⟨1, 0, false, (0, 0, 0, 0), []⟩ else if h = 2 then renJ X k else Jd.z
def meeC (X : Gp) (k : K) (h : Int) (N : Cn) : Cn := if h = 2 then renC X k N else N
def telB (X : Gp) (k : K) : Bool := meeB X k (seenOf X k).1
def telX (X : Gp) (k : K) : Gp := if telB X k then { meeX X k (seenOf X k).1 with mn := X.now, en := Me.useX X.en k } else { meeX X k (seenOf X k).1 with mn := X.now }
def telJ (X : Gp) (k : K) : Jd := if telB X k then { meeJ X k (seenOf X k).1 with o := (seenOf X k).2.2 } else Jd.z
def sitX (X : Gp) (x r t : Int) : Gp := { X with L := Lv.sitL X.L X.G (x, r, t) }
def waiX (X : Gp) (k : K) (x t : Int) : Gp := match Ta.curOf X.T k with
  | some R => sitX { X with T := Ta.tJoin X.T R.run x } x R.run t
  | none => if Ta.tBegE X.T k x false = 0 then begX (sitX (runX X k x false) x (X.T.bg + 1) t) (X.T.bg + 1) else X
def waiJ (X : Gp) (k : K) (x : Int) : Jd := match Ta.curOf X.T k with
  | some R => ⟨3, R.run, false, (0, 0, 0, 0), []⟩
  | none => if Ta.tBegE X.T k x false = 0 then begJ X 5 (X.T.bg + 1) else ⟨4, 0, false, (0, 4, 0, 0), []⟩
def joX (X : Gp) (n : Int) (k : K) (x t : Int) : Gp := if mayE X n k x t ≠ 0 then X else
  if telB { X with now := n } k then telX { X with now := n } k else waiX (telX { X with now := n } k) k x t
def joJ (X : Gp) (n : Int) (k : K) (x t : Int) : Jd := if mayE X n k x t ≠ 0 then Jd.z else
  if telB { X with now := n } k then telJ { X with now := n } k else waiJ (telX { X with now := n } k) k x
def waiC (X : Gp) (k : K) (x : Int) (N : Cn) : Cn := match Ta.curOf X.T k with
  | some _ => ⟨N.t + 1, N.b, N.s + 1⟩
  | none => if Ta.tBegE X.T k x false = 0 then ⟨N.t + 1, N.b + 1, N.s + 1⟩ else { N with t := N.t + 1 }
def joC (X : Gp) (n : Int) (k : K) (x t : Int) (N : Cn) : Cn := if mayE X n k x t ≠ 0 then N else
  if telB { X with now := n } k then meeC { X with now := n } k (seenOf { X with now := n } k).1 N else waiC (telX { X with now := n } k) k x (meeC { X with now := n } k (seenOf { X with now := n } k).1 N)
end Go.Proofs.YtllchnancjgijaaGreat
/- What is none of a group's stays as it is at each of the group's steps: boxes and slices of other kinds; no conditions. -/
namespace Go.Proofs.YtllchnancjgijaaGreat
open Go.RowKit Go.Maps Go.ChangeMaps
set_option maxRecDepth 100000
set_option linter.unusedVariables false
def boxT (t : Nat) : Bool := !(([3, 109, 162, 231, 299, 204, 274, 217, 197, 238] : List Nat).contains t)
structure BoxT (u : Nat) : Prop where
  i : u ≠ 3
  g : u ≠ 109
  m : u ≠ 162
  o : u ≠ 231
  p : u ≠ 299
  t : u ≠ 204
  r : u ≠ 274
  b : u ≠ 217
  s : u ≠ 197
  c : u ≠ 238
theorem boxT_of {t : Nat} (h : boxT t = true) : BoxT t := by
  unfold boxT at h
  simp only [List.contains_eq_mem, List.mem_cons, List.not_mem_nil, or_false, Bool.not_eq_true', decide_eq_false_iff_not, not_or] at h
  obtain ⟨h1, h2, h3, h4, h5, h6, h7, h8, h9, h10⟩ := h
  exact ⟨h1, h2, h3, h4, h5, h6, h7, h8, h9, h10⟩
section
variable {w : World} {t k : Nat} {F : List Nat} {cs : Array Value} {u : TypeId} {z : Nat × Nat}
theorem Ta.Tq.away {T : Ta.Tb} {N : Nat} (h : Ta.Tq w t F T N) (hk : w.heap[k]? = some (.cells cs u z)) (hu : BoxT u) : ¬ k ∈ F := fun e => by
  obtain ⟨p, c, g, nc, ng, Ps, rfl, h, hL⟩ := h
  have hm : ∀ d, (∃ es cl, w.heap[d]? = some (.map es cl)) → k ≠ d := fun d ⟨es, cl, hd⟩ e => by rw [e, hd] at hk; cases hk
  rcases Ta.mem_fpT.1 e with e | e | e | e | ⟨q, hq, e⟩
  · rw [e, h.bl] at hk
    simp only [Option.some.injEq, Obj.cells.injEq] at hk
    exact hu.t hk.2.1.symm
  · exact hm _ h.pm.kind e
  · exact hm _ h.cm.kind e
  · exact hm _ (h.gm.kind e) rfl
  · obtain ⟨sl, m, ys, eF, hr, -⟩ := h.recs q hq
    rw [eF] at e
    rcases Ta.mem_fpR.1 e with e | e | e
    · rw [e, hr.rc.bl] at hk
      simp only [Option.some.injEq, Obj.cells.injEq] at hk
      exact hu.r hk.2.1.symm
    · obtain ⟨cc, hc⟩ := own_kind hr.ln.row e
      rw [hc] at hk
      simp only [Option.some.injEq, Obj.cells.injEq] at hk
      exact hu.i hk.2.1.symm
    · exact hm _ (hr.ln.mp.kind e) rfl
theorem Ba.Bq.away {S : Ba.Bs} {N : Nat} (h : Ba.Bq w t F S N) (hk : w.heap[k]? = some (.cells cs u z)) (hu : BoxT u) : ¬ k ∈ F := fun e => by
  obtain ⟨sl, d, rfl, h, hv⟩ := h
  rcases Ba.mem_fpB.1 e with e | e
  · rw [e, h.hb] at hk
    simp only [Option.some.injEq, Obj.cells.injEq] at hk
    exact hu.b hk.2.1.symm
  · obtain ⟨cc, hc⟩ := own_kind h.row e
    rw [hc] at hk
    simp only [Option.some.injEq, Obj.cells.injEq] at hk
    exact hu.i hk.2.1.symm
theorem Lv.Sq.away {L : List Lv.Se} {G : List Int} {N : Nat} (h : Lv.Sq w t F L G N) (hk : w.heap[k]? = some (.cells cs u z)) (hu : BoxT u) : ¬ k ∈ F := fun e => by
  rcases h.own k e with ⟨c, z, h⟩ | ⟨c, z, h⟩ | ⟨es, cl, h⟩
  · rw [h] at hk
    simp only [Option.some.injEq, Obj.cells.injEq] at hk
    exact hu.s hk.2.1.symm
  · rw [h] at hk
    simp only [Option.some.injEq, Obj.cells.injEq] at hk
    exact hu.c hk.2.1.symm
  · rw [h] at hk; cases hk
theorem Gq.away {g : Nat} {P : Pt} {X : Gp} {N : Cn} (h : Gq w g P F X N) (hk : w.heap[k]? = some (.cells cs u z)) (hu : boxT u = true) : ¬ k ∈ F := fun e => by
  have hu := boxT_of hu
  obtain ⟨Fm, Ft, Fb, Fs, rfl, h⟩ := h
  rcases mem_fpG.1 e with e | e | e | e | e
  · rw [e, h.bl] at hk
    simp only [Option.some.injEq, Obj.cells.injEq] at hk
    exact hu.g hk.2.1.symm
  · exact h.mq.away hk hu.o hu.p hu.m e
  · exact h.tq.away hk hu e
  · exact h.bq.away hk hu e
  · exact h.sq.away hk hu e
end
def Keeps (w w' : World) : Prop := ∀ (k : Nat) (cs : Array Value) (t : TypeId) (z : Nat × Nat), boxT t = true → w.heap[k]? = some (.cells cs t z) → w'.heap[k]? = some (.cells cs t z)
theorem Touch.keeps {w w' : World} (T : Touch [] w w') : Keeps w w' := fun k cs t z _ hk => T.keep hk (by simp)
theorem Keeps.trans {w w1 w2 : World} (h : Keeps w w1) (h' : Keeps w1 w2) : Keeps w w2 := fun k cs t z ht hk => h' k cs t z ht (h k cs t z ht hk)
section
variable {w w1 w2 : World} {g : Nat} {P : Pt} {F : List Nat} {X Y : Gp} {N M : Cn}
theorem GqE.keeps (h : Gq w g P F X N) (hE : GqE w w1 g P F Y M) : Keeps w w1 := fun k cs t z ht hk => hE.tch.keep hk (h.away hk ht)
theorem GqE.go (Q : GqE w w1 g P F X N) : ∃ F1, Gq w1 g P F1 X N ∧ ∀ w2 Y M, GqE w1 w2 g P F1 Y M → GqE w w2 g P F Y M ∧ Keeps w1 w2 := by
  obtain ⟨F1, q1, -, q2⟩ := Q.sub
  exact ⟨F1, q1, fun w2 Y M hE => ⟨q2 _ _ _ hE, GqE.keeps q1 hE⟩⟩
theorem GqE.put (Q : GqE w w1 g P F X N) {k : Nat} {cs : Array Value} {t : TypeId} {z : Nat × Nat} (hk : w1.heap[k]? = some (.cells cs t z)) (ht : boxT t = true) (h0 : w.heap.size ≤ k) (T : Touch [k] w1 w2) : GqE w w2 g P F X N := by
  obtain ⟨F1, q1, q2, q3⟩ := Q
  refine ⟨F1, q1.keep T (fun d hd e => ?_), q2.trans T (fun i hi => Or.inr (by simp only [List.mem_singleton] at hi; omega)), q3⟩
  simp only [List.mem_singleton] at e
  rw [e] at hd
  exact q1.away hk ht hd
theorem GqE.memo (Q : GqE w w1 g P F X N) : ∃ Fm, Me.Mq w1 P.m Fm X.c X.mn X.en ∧ ∀ w2 n e, Me.Mc w1 P.m Fm X.c n e w2 → GqE w w2 g P F { X with mn := n, en := e } N ∧ Keeps w1 w2 ∧ Touch Fm w1 w2 := by
  obtain ⟨F1, q1, q2⟩ := Q.go
  obtain ⟨Fm, hm, -, hs⟩ := q1.memo
  refine ⟨Fm, hm, fun w2 n e hc => ?_⟩
  obtain ⟨F', r1, r2, r3⟩ := hc
  have := q2 _ _ _ (hs w2 n e ⟨F', r1, r2, r3⟩)
  exact ⟨this.1, this.2, r2⟩
theorem GqE.tab (Q : GqE w w1 g P F X N) : ∃ Ft, Ta.Tq w1 P.t Ft X.T N.t ∧ ∀ w2 T' M, Ta.TqE w1 w2 P.t Ft T' M → GqE w w2 g P F { X with T := T' } { N with t := M } ∧ Keeps w1 w2 := by
  obtain ⟨F1, q1, q2⟩ := Q.go
  obtain ⟨Ft, ht, -, hs⟩ := q1.tab
  exact ⟨Ft, ht, fun w2 T' M hE => q2 _ _ _ (hs w2 T' M hE)⟩
theorem GqE.setNow (Q : GqE w w1 g P F X N) (n : Int) : GqE w (w1.setCell ⟨g, 4, none⟩ (.int .i64 n)) g P F { X with now := n } N ∧ Keeps w1 (w1.setCell ⟨g, 4, none⟩ (.int .i64 n)) := by
  obtain ⟨F1, q1, q2⟩ := Q.go
  exact q2 _ _ _ (q1.setNow n)
theorem GqE.iv (Q : GqE w w1 g P F X N) : Me.Gd X.c X.mn X.en ∧ Ta.Ti X.T N.t ∧ Ta.Lv X.T ∧ Lv.Iv X.L X.G N.s ∧ Ba.Iv X.B N.b := by
  obtain ⟨F1, q1, q2⟩ := Q.go
  exact q1.iv
end
end Go.Proofs.YtllchnancjgijaaGreat
/- The contracts of a table's methods that only read, and of Join. -/
namespace Go.Proofs.YtllchnancjgijaaGreat.Ta
open Go.RowKit Go.Maps Go.ChangeMaps
set_option maxRecDepth 100000
set_option linter.unusedVariables false
set_option linter.unusedSimpArgs false
def bxK (k : K) : Obj := .cells #[.int .u16 k.1, .string k.2] 35
section
variable {w : World} {t p c : Nat} {g : Option Nat} {nc ng : Nat} {Ps : List Rb} {T : Tb} {N : Nat} {F : List Nat}
theorem tRecord (h : Tm w t p c g nc ng Ps T N) (n : Int) (hn : W64 n) : Calls Tryz.prog 109 #[PT t, .int .i64 n] w fun e w' => e = .returned ((ptr Ps n).getD (.pointer none)) ∧ w' = w := by
  have hl := h.lookP hn
  have c2 := h.cs.c2
  clear h
  generalize (ptr Ps n).getD (.pointer none) = v at *
  unfold PT
  go_enter Tryz.func109, Tryz.ntmps109
  go_wp2
  go_ret
  exact ⟨rfl, rfl⟩
theorem tCurrent (h : Tm w t p c g nc ng Ps T N) (k : K) (hk : Ok k) : Calls Tryz.prog 91 #[PT t, kv k] w fun e w' => e = .returned (.tuple #[.int .i64 (((curOf T k).map Rn.run).getD 0), .bool (curOf T k).isSome]) ∧ Touch [] w w' := by
  have hl : ∀ n, (Instr.lookup 202 (.map (some c)) (kv k) true).run Tryz.prog ((w.alloc (bxK k)).drewN n) = .ok (.tuple #[.int .i64 (((curOf T k).map Rn.run).getD 0), .bool (curOf T k).isSome]) ((w.alloc (bxK k)).drewN n) := fun n => (h.keep0 (((Touch.refl _ _).alloc _).drewN n)).lookCok hk
  have c3 := (h.keep0 ((Touch.refl _ _).alloc (bxK k))).cs.c3
  clear h
  generalize ((curOf T k).map Rn.run).getD 0 = v at *
  generalize (curOf T k).isSome = v2 at *
  unfold PT kv bxK at *
  go_enter Tryz.func91, Tryz.ntmps91
  go_wp2
  go_quiet (fail)
  go_wp2
  exact bodyPost_ret (v := .tuple #[.int .i64 v, .bool v2]) (by simp [results, Tryz.results91, go_sem]) rfl ⟨rfl, ((Touch.refl _ _).alloc _).drewN _⟩
theorem fCheck (w : World) (k : K) (hk : Ok k) : Calls Tryz.prog 85 #[kv k] w fun e w' => e = .returned (.int .i64 (tForE k)) ∧ Touch [] w w' := by
  have hl : (w.alloc (bxK k)).cell? ⟨w.heap.size, 1, none⟩ = some (.string k.2) := by simp [bxK]
  have hs : 0 ≤ ((k.2.size : Nat) : Int) := by omega
  unfold tForE mayK
  by_cases hc : k.2.size ≤ 64
  · rw [show decide (k.2.size ≤ 64) = true by simp [hc], if_pos rfl]
    have hq : ¬ (64 < ((k.2.size : Nat) : Int)) := by omega
    clear hc
    unfold kv bxK at *
    go_enter Tryz.func85, Tryz.ntmps85
    go_wp2
    go_ret
    exact ⟨rfl, (Touch.refl _ _).alloc _⟩
  · rw [show decide (k.2.size ≤ 64) = false by simp [hc], if_neg (by simp)]
    have hq : 64 < ((k.2.size : Nat) : Int) := by omega
    clear hc
    unfold kv bxK at *
    go_enter Tryz.func85, Tryz.ntmps85
    go_wp2
    go_ret
    exact ⟨rfl, (Touch.refl _ _).alloc _⟩
theorem Tm.memR {A B : List Rb} {q : Rb} (h : Tm w t p c g nc ng (A ++ q :: B) T N) : (q.R, q.S) ∈ T.rs := by rw [h.rs]; simp [rsOf]
theorem Tm.w64 {A B : List Rb} {q : Rb} (h : Tm w t p c g nc ng (A ++ q :: B) T N) (hN : N ≤ 3000000000000) : W64 q.R.run := by
  have h1 := h.iv.rng _ h.memR
  have h2 := h.iv.bg.2
  simp only at h1
  exact W64.mk (by omega) (by omega)
theorem tRecord_at {A B : List Rb} {q : Rb} (h : Tm w t p c g nc ng (A ++ q :: B) T N) (hN : N ≤ 3000000000000) : Calls Tryz.prog 109 #[PT t, .int .i64 q.R.run] w fun e w' => e = .returned (PT q.b) ∧ w' = w := by
  have := tRecord h q.R.run (h.w64 hN)
  rw [ptr_mid h.after.1] at this
  exact this
theorem tJoin_no (h : Tm w t p c g nc ng Ps T N) (n x : Int) (hn : W64 n) (hr : runOf T n = none) : Calls Tryz.prog 92 #[PT t, .int .i64 n, .int .i64 x] w fun e w' => e = .returned (.int .i64 122) ∧ w' = w := by
  have HR := hid (tRecord h n hn)
  rw [h.notIn hr] at HR
  simp only [Option.getD_none] at HR
  clear h
  unfold PT at *
  go_enter Tryz.func92, Tryz.ntmps92
  go_wp2_with (go_at_call 109; refine HR.out.mono ?_; rintro e w ⟨rfl, rfl⟩)
  go_ret
  exact ⟨rfl, rfl⟩
theorem tJoin_at {A B : List Rb} {q : Rb} (h : Tm w t p c g nc ng (A ++ q :: B) T N) (hN : N ≤ 3000000000000) (x : Int) (hx : W64 x) : Calls Tryz.prog 92 #[PT t, .int .i64 q.R.run, .int .i64 x] w fun e w' => e = .returned (.int .i64 (joinE q.S x)) ∧ RqE w w' q.b q.F q.R (joinS q.S x) (N + 1) := by
  have HR := hid (tRecord_at h hN)
  have HJ := hid (join13 w q.b N q.F q.R q.S (h.recs q (by simp)) hN x hx)
  clear h
  unfold PT at *
  go_enter Tryz.func92, Tryz.ntmps92
  go_wp2_with (first | (go_at_call 109; refine HR.out.mono ?_; rintro e w ⟨rfl, rfl⟩) | (go_at_call 133; refine HJ.out.mono ?_; rintro e w2 ⟨rfl, r⟩; have RR := hid r; clear r))
  go_ret
  exact ⟨rfl, RR.out⟩
end
section
variable (w : World) (t : Nat) (F : List Nat) (T : Tb) (N : Nat)
theorem joinT (h : Tq w t F T N) (hN : N ≤ 3000000000000) (n x : Int) (hn : W64 n) (hx : W64 x) : Calls Tryz.prog 92 #[PT t, .int .i64 n, .int .i64 x] w fun e w' => e = .returned (.int .i64 (tJoinE T n x)) ∧ TqE w w' t F (tJoin T n x) (N + 1) := by
  unfold tJoinE tJoin
  cases hr : runOf T n with
  | none =>
    have hs := TqE.same h (Nat.le_succ N)
    obtain ⟨p, c, g, nc, ng, Ps, rfl, h, hL⟩ := h
    refine (tJoin_no h n x hn hr).mono ?_
    rintro e w' ⟨rfl, rfl⟩
    exact ⟨rfl, hs⟩
  | some r =>
    obtain ⟨p, c, g, nc, ng, Ps, rfl, h, hL⟩ := h
    obtain ⟨A, q, B, rfl, rfl, rfl, _⟩ := h.found hr
    refine (tJoin_at h hN x hx).mono ?_
    rintro e w' ⟨rfl, r⟩
    exact ⟨rfl, h.stepE r (Nat.le_succ N) hL (join_live (hL _ h.memR) x)⟩
end
end Go.Proofs.YtllchnancjgijaaGreat.Ta
/- The contract of goOn: a key's generation goes on. -/
namespace Go.Proofs.YtllchnancjgijaaGreat.Ta
open Go.RowKit Go.Maps Go.ChangeMaps
set_option maxRecDepth 100000
set_option linter.unusedVariables false
set_option linter.unusedSimpArgs false
section
variable {w W W1 W2 : World} {t p c d : Nat} {g : Option Nat} {nc ng nc' ng' : Nat} {Ps : List Rb} {T : Tb} {N : Nat} {k : K}
theorem Tm.tne (h : Tm w t p c g nc ng Ps T N) : t ≠ p ∧ t ≠ c ∧ g ≠ some t := by
  obtain ⟨e1, l1, k1⟩ := h.pm.kind
  obtain ⟨e2, l2, k2⟩ := h.cm.kind
  refine ⟨fun e => ?_, fun e => ?_, fun e => ?_⟩
  · rw [← e, h.bl] at k1; cases k1
  · rw [← e, h.bl] at k2; cases k2
  · obtain ⟨e3, l3, k3⟩ := h.gm.kind e
    rw [h.bl] at k3; cases k3
end
end Go.Proofs.YtllchnancjgijaaGreat.Ta
