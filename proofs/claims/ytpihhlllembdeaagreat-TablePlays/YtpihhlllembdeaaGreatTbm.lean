/- A table in memory: its block, its three maps, its records with their blocks; how it stays and how one record's step leaves it. -/
import Derived.Test.YtpihhlllembdeaaGreatTby
namespace Go.Proofs.YtpihhlllembdeaaGreat
open Go.RowKit Go.Maps Go.ChangeMaps
set_option linter.unusedVariables false
structure Rb where
  R : Rn
  S : St
  b : Nat
  F : List Nat
def rsOf (Ps : List Rb) : List (Rn × St) := Ps.map (fun q => (q.R, q.S))
def ptr (Ps : List Rb) (n : Int) : Option Value := (Ps.find? (fun q => decide (q.R.run = n))).map (fun q => PT q.b)
def curV (T : Tb) (k : K) : Option Value := (curOf T k).map (fun R => .int .i64 R.run)
def genV (T : Tb) (k : K) : Option Value := if T.gn k = 0 then none else some (.int .i64 (T.gn k))
def tc (T : Tb) (p c : Nat) (g : Option Nat) : Array Value := #[.int .i64 T.fl, .int .i64 T.bg, .map (some p), .map (some c), .map g]
def Gm (w : World) (g : Option Nat) (ng : Nat) (T : Tb) : Prop := (g = none ∧ ∀ k, T.gn k = 0) ∨ ∃ d, g = some d ∧ MapK KC w d ng (genV T)
structure Tm (w : World) (t p c : Nat) (g : Option Nat) (nc ng : Nat) (Ps : List Rb) (T : Tb) (N : Nat) : Prop where
  rs : T.rs = rsOf Ps
  bl : w.heap[t]? = some (.cells (tc T p c g) 48 (0, 0))
  pm : MapK KI w p Ps.length (ptr Ps)
  cm : MapK KC w c nc (curV T)
  gm : Gm w g ng T
  pc : p ≠ c
  gp : g ≠ some p
  gc : g ≠ some c
  lc : nc ≤ N
  lg : ng ≤ N
  recs : ∀ q ∈ Ps, Rq w q.b q.F q.R q.S N
  far : ∀ q ∈ Ps, ∀ d ∈ q.F, d ≠ t ∧ d ≠ p ∧ d ≠ c ∧ g ≠ some d
  apart : Ps.Pairwise (fun q r => ∀ d, d ∈ q.F → ¬ d ∈ r.F)
  iv : Ti T N
def fpT (t p c : Nat) (g : Option Nat) (Ps : List Rb) : List Nat := t :: p :: c :: (g.toList ++ Ps.flatMap (fun q => q.F))
theorem mem_fpT {t p c : Nat} {g : Option Nat} {Ps : List Rb} {k : Nat} : k ∈ fpT t p c g Ps ↔ k = t ∨ k = p ∨ k = c ∨ g = some k ∨ ∃ q ∈ Ps, k ∈ q.F := by
  simp [fpT]
def Tq (w : World) (t : Nat) (F : List Nat) (T : Tb) (N : Nat) : Prop := ∃ p c g nc ng Ps, F = fpT t p c g Ps ∧ Tm w t p c g nc ng Ps T N ∧ Lv T
def TqE (w w' : World) (t : Nat) (F : List Nat) (T : Tb) (N : Nat) : Prop := ∃ F', Tq w' t F' T N ∧ Touch F w w' ∧ Nf w F F'
section
variable {w w' : World} {t p c : Nat} {g : Option Nat} {nc ng : Nat} {Ps : List Rb} {T : Tb} {N M : Nat} {F G : List Nat}
theorem Gm.kind (h : Gm w g ng T) {d : Nat} (hd : g = some d) : ∃ es cl, w.heap[d]? = some (.map es cl) := by
  rcases h with ⟨h, _⟩ | ⟨d', hd', hm⟩
  · rw [h] at hd; cases hd
  · rw [hd'] at hd; cases hd; exact hm.kind
theorem Gm.keep (h : Gm w g ng T) (T' : Touch F w w') (hF : ∀ d, g = some d → ¬ d ∈ F) : Gm w' g ng T := by
  rcases h with h | ⟨d, hd, hm⟩
  · exact Or.inl h
  · exact Or.inr ⟨d, hd, hm.keep T' (hF d hd)⟩
theorem Tm.lt (h : Tm w t p c g nc ng Ps T N) : ∀ d, d ∈ fpT t p c g Ps → d < w.heap.size := fun d hd => by
  rcases mem_fpT.1 hd with e | e | e | e | ⟨q, hq, e⟩
  · subst e; exact block_lt h.bl
  · subst e; exact h.pm.lt
  · subst e; exact h.cm.lt
  · obtain ⟨es, cl, hb⟩ := h.gm.kind e; exact block_lt hb
  · exact (h.recs q hq).lt d e
theorem Tm.keep (h : Tm w t p c g nc ng Ps T N) (T' : Touch G w w') (hG : ∀ d, d ∈ fpT t p c g Ps → ¬ d ∈ G) : Tm w' t p c g nc ng Ps T N :=
  ⟨h.rs, T'.keep h.bl (hG t (mem_fpT.2 (Or.inl rfl))), h.pm.keep T' (hG p (mem_fpT.2 (Or.inr (Or.inl rfl)))), h.cm.keep T' (hG c (mem_fpT.2 (Or.inr (Or.inr (Or.inl rfl))))),
    h.gm.keep T' (fun d hd => hG d (mem_fpT.2 (Or.inr (Or.inr (Or.inr (Or.inl hd)))))), h.pc, h.gp, h.gc, h.lc, h.lg,
    fun q hq => (h.recs q hq).keep T' (fun d hd => hG d (mem_fpT.2 (Or.inr (Or.inr (Or.inr (Or.inr ⟨q, hq, hd⟩)))))), h.far, h.apart, h.iv⟩
theorem Tm.keep0 (h : Tm w t p c g nc ng Ps T N) (T' : Touch [] w w') : Tm w' t p c g nc ng Ps T N := h.keep T' (fun _ _ e => by cases e)
theorem Tm.mono (h : Tm w t p c g nc ng Ps T N) (hN : N ≤ M) : Tm w t p c g nc ng Ps T M :=
  ⟨h.rs, h.bl, h.pm, h.cm, h.gm, h.pc, h.gp, h.gc, Nat.le_trans h.lc hN, Nat.le_trans h.lg hN, fun q hq => (h.recs q hq).mono hN, h.far, h.apart, h.iv.mono hN⟩
theorem Tq.lt (h : Tq w t F T N) : ∀ d, d ∈ F → d < w.heap.size := by
  obtain ⟨p, c, g, nc, ng, Ps, rfl, h, hL⟩ := h
  exact h.lt
theorem Tq.keep (h : Tq w t F T N) (T' : Touch G w w') (hG : ∀ d, d ∈ F → ¬ d ∈ G) : Tq w' t F T N := by
  obtain ⟨p, c, g, nc, ng, Ps, rfl, h, hL⟩ := h
  exact ⟨p, c, g, nc, ng, Ps, rfl, h.keep T' hG, hL⟩
theorem Tq.keep0 (h : Tq w t F T N) (T' : Touch [] w w') : Tq w' t F T N := h.keep T' (fun _ _ e => by cases e)
theorem Tq.mono (h : Tq w t F T N) (hN : N ≤ M) : Tq w t F T M := by
  obtain ⟨p, c, g, nc, ng, Ps, rfl, h, hL⟩ := h
  exact ⟨p, c, g, nc, ng, Ps, rfl, h.mono hN, hL⟩
theorem Tq.iv (h : Tq w t F T N) : Ti T N := by
  obtain ⟨p, c, g, nc, ng, Ps, rfl, h, hL⟩ := h
  exact h.iv
theorem Tq.live (h : Tq w t F T N) : Lv T := by
  obtain ⟨p, c, g, nc, ng, Ps, rfl, h, hL⟩ := h
  exact hL
theorem TqE.same (h : Tq w t F T N) (hN : N ≤ M) : TqE w w t F T M := ⟨F, h.mono hN, Touch.refl _ _, Nf.refl _ _⟩
theorem TqE.mono (h : TqE w w' t F T N) (hN : N ≤ M) : TqE w w' t F T M := by
  obtain ⟨F', h1, h2, h3⟩ := h
  exact ⟨F', h1.mono hN, h2, h3⟩
theorem TqE.touch (h : Tq w t F T N) (T' : Touch [] w w') (hN : N ≤ M) : TqE w w' t F T M := ⟨F, (h.keep0 T').mono hN, T'.mono (fun _ e => by cases e), Nf.refl _ _⟩
theorem TqE.trans {w1 w2 : World} {F1 : List Nat} {T1 T2 : Tb} (t1 : Touch F w w1) (n1 : Nf w F F1) (h2 : TqE w1 w2 t F1 T2 N) : TqE w w2 t F T2 N := by
  obtain ⟨F2, r1, r2, r3⟩ := h2
  exact ⟨F2, r1, t1.trans r2 n1, n1.trans r3 t1.size⟩
theorem TqE.from0 {w1 w2 : World} {T2 : Tb} (t1 : Touch [] w w1) (h2 : TqE w1 w2 t F T2 N) : TqE w w2 t F T2 N := TqE.trans (T1 := T2) (t1.mono (fun _ e => by cases e)) (Nf.refl _ _) h2
theorem TqE.then0 {w1 w2 : World} {T1 : Tb} (h1 : TqE w w1 t F T1 N) (t2 : Touch [] w1 w2) : TqE w w2 t F T1 N := by
  obtain ⟨F1, q1, q2, q3⟩ := h1
  exact ⟨F1, q1.keep0 t2, q2.trans t2 (fun _ e => by cases e), q3⟩
theorem TqE.box {W w1 w2 : World} (t0 : Touch [] w W) (h : TqE W w1 t F T N) (hF : ∀ d, d ∈ F → d < w.heap.size) {b : Nat} (hb : w.heap.size ≤ b) (hb2 : b < W.heap.size) (T2 : Touch [b] w1 w2) : TqE w w2 t F T N := by
  obtain ⟨F1, q1, q2, q3⟩ := h
  have hn : ∀ d, d ∈ F1 → ¬ d ∈ [b] := fun d hd e => by
    simp only [List.mem_singleton] at e
    rcases q3 d hd with e' | e'
    · have := hF d e'; omega
    · omega
  have hz := t0.size
  refine ⟨F1, q1.keep T2 hn, ((t0.mono (fun _ e => by cases e)).trans q2 (fun i hi => Or.inl hi)).trans T2 (fun i hi => ?_), fun d hd => ?_⟩
  · simp only [List.mem_singleton] at hi; exact Or.inr (by omega)
  · rcases q3 d hd with e' | e'
    · exact Or.inl e'
    · exact Or.inr (by omega)
theorem ptr_none {Ps : List Rb} {n : Int} (h : ∀ q ∈ Ps, q.R.run ≠ n) : ptr Ps n = none := by
  unfold ptr
  rw [List.find?_eq_none.2 (fun q hq => by simp [h q hq])]
  rfl
theorem ptr_mid {A B : List Rb} {q : Rb} (hA : ∀ a ∈ A, a.R.run ≠ q.R.run) : ptr (A ++ q :: B) q.R.run = some (PT q.b) := by
  unfold ptr
  rw [List.find?_append, List.find?_eq_none.2 (fun a ha => by simp [hA a ha])]
  simp
theorem ptr_congr {A B : List Rb} {q q' : Rb} (e1 : q'.R = q.R) (e2 : q'.b = q.b) (n : Int) : ptr (A ++ q' :: B) n = ptr (A ++ q :: B) n := by
  unfold ptr
  rw [List.find?_append, List.find?_append, List.find?_cons, List.find?_cons, e1]
  cases List.find? (fun q => decide (q.R.run = n)) A with
  | some a => rfl
  | none => cases decide (q.R.run = n) <;> simp [e2]
theorem Tm.notIn (h : Tm w t p c g nc ng Ps T N) {n : Int} (hr : runOf T n = none) : ptr Ps n = none :=
  ptr_none (fun q hq => runOf_none hr (q.R, q.S) (by rw [h.rs]; exact List.mem_map.2 ⟨q, hq, rfl⟩))
theorem Tm.found (h : Tm w t p c g nc ng Ps T N) {n : Int} {r : Rn × St} (hr : runOf T n = some r) : ∃ A q B, Ps = A ++ q :: B ∧ r = (q.R, q.S) ∧ q.R.run = n ∧ ∀ a ∈ A, a.R.run ≠ q.R.run := by
  unfold runOf at hr
  rw [h.rs] at hr
  clear h
  induction Ps with
  | nil => simp [rsOf] at hr
  | cons x r' ih =>
    simp only [rsOf, List.map_cons, List.find?_cons] at hr
    cases hx : decide (x.R.run = n) with
    | true =>
      rw [hx] at hr
      simp only [Option.some.injEq] at hr
      exact ⟨[], x, r', rfl, hr.symm, of_decide_eq_true hx, fun a ha => by cases ha⟩
    | false =>
      rw [hx] at hr
      obtain ⟨A, q, B, e1, e2, e3, e4⟩ := ih hr
      refine ⟨x :: A, q, B, by rw [e1]; rfl, e2, e3, fun a ha => ?_⟩
      rcases List.mem_cons.1 ha with e | e
      · subst e; rw [e3]; exact of_decide_eq_false hx
      · exact e4 a e
theorem Tm.after {A B : List Rb} {q : Rb} (h : Tm w t p c g nc ng (A ++ q :: B) T N) : (∀ a ∈ A, a.R.run ≠ q.R.run) ∧ ∀ b ∈ B, b.R.run ≠ q.R.run := by
  have ho := h.iv.ord
  rw [h.rs, rsOf, List.pairwise_map] at ho
  obtain ⟨h1, h2, h3⟩ := List.pairwise_append.1 ho
  refine ⟨fun a ha => ?_, fun b hb => ?_⟩
  · have := h3 a ha q (by simp); simp only at this; omega
  · have := (List.pairwise_cons.1 h2).1 b hb; simp only at this; omega
theorem rs_set {A B : List Rb} {q : Rb} {S : St} {f : List Nat} (hA : ∀ a ∈ A, a.R.run ≠ q.R.run) (hB : ∀ b ∈ B, b.R.run ≠ q.R.run) : (rsOf (A ++ q :: B)).map (putS q.R.run S) = rsOf (A ++ ⟨q.R, S, q.b, f⟩ :: B) := by
  have h1 : ∀ L : List Rb, (∀ a ∈ L, a.R.run ≠ q.R.run) → (rsOf L).map (putS q.R.run S) = rsOf L := fun L hL => by
    unfold rsOf
    rw [List.map_map]
    exact List.map_congr_left (fun a ha => by simp [putS, hL a ha])
  have e1 : rsOf (A ++ q :: B) = rsOf A ++ (q.R, q.S) :: rsOf B := by simp [rsOf]
  have e2 : rsOf (A ++ ⟨q.R, S, q.b, f⟩ :: B) = rsOf A ++ (q.R, S) :: rsOf B := by simp [rsOf]
  rw [e1, e2, List.map_append, List.map_cons, h1 A hA, h1 B hB]
  simp [putS]
/-- One record's step. -/
theorem Tm.step {A B : List Rb} {q : Rb} {S : St} (h : Tm w t p c g nc ng (A ++ q :: B) T N) (E : RqE w w' q.b q.F q.R S M) (hN : N ≤ M) :
    ∃ f, Tm w' t p c g nc ng (A ++ ⟨q.R, S, q.b, f⟩ :: B) (setS T q.R.run S) M ∧ Touch q.F w w' ∧ Nf w q.F f := by
  obtain ⟨f, r1, r2, r3⟩ := E
  obtain ⟨hA, hB⟩ := h.after
  have hq : q ∈ A ++ q :: B := by simp
  have hf := h.far q hq
  obtain ⟨ap1, ap2, ap3⟩ := List.pairwise_append.1 h.apart
  obtain ⟨ap4, ap5⟩ := List.pairwise_cons.1 ap2
  have hoth : ∀ x, x ∈ A ∨ x ∈ B → ∀ d, d ∈ x.F → ¬ d ∈ q.F := fun x hx d hd he => by
    rcases hx with e | e
    · exact ap3 x e q (by simp) d hd he
    · exact ap4 x e d he hd
  have hin : ∀ x, x ∈ A ∨ x ∈ B → x ∈ A ++ q :: B := fun x hx => by rcases hx with e | e <;> simp [e]
  have hnew : ∀ x, x ∈ A ∨ x ∈ B → ∀ d, d ∈ x.F → ¬ d ∈ f := fun x hx d hd he => by
    rcases r3 d he with e | e
    · exact hoth x hx d hd e
    · have := (h.recs x (hin x hx)).lt d hd; omega
  have hms : ∀ x, x ∈ A ++ (⟨q.R, S, q.b, f⟩ : Rb) :: B → x = ⟨q.R, S, q.b, f⟩ ∨ x ∈ A ∨ x ∈ B := fun x hx => by
    rcases List.mem_append.1 hx with e | e
    · exact Or.inr (Or.inl e)
    · rcases List.mem_cons.1 e with e | e
      · exact Or.inl e
      · exact Or.inr (Or.inr e)
  refine ⟨f, ⟨?_, ?_, ?_, ?_, ?_, h.pc, h.gp, h.gc, Nat.le_trans h.lc hN, Nat.le_trans h.lg hN, fun x hx => ?_, fun x hx d hd => ?_, ?_, (h.iv.setS r1.iv).mono hN⟩, r2, r3⟩
  · simp only [setS, h.rs]; exact rs_set hA hB
  · exact r2.keep h.bl (fun e => (hf t e).1 rfl)
  · have := h.pm.keep r2 (fun e => (hf p e).2.1 rfl)
    have e : (A ++ (⟨q.R, S, q.b, f⟩ : Rb) :: B).length = (A ++ q :: B).length := by simp
    rw [e]
    exact this.congr (fun n _ => (ptr_congr (q := q) (q' := ⟨q.R, S, q.b, f⟩) rfl rfl n).symm)
  · refine (h.cm.keep r2 (fun e => (hf c e).2.2.1 rfl)).congr (fun k _ => ?_)
    unfold curV
    rw [curOf_setS]
  · exact h.gm.keep r2 (fun d hd e => (hf d e).2.2.2 hd)
  · rcases hms x hx with e | e
    · subst e; exact r1
    · exact ((h.recs x (hin x e)).keep r2 (hoth x e)).mono hN
  · rcases hms x hx with e | e
    · subst e
      rcases r3 d hd with e' | e'
      · exact hf d e'
      · have l1 := h.lt t (mem_fpT.2 (Or.inl rfl))
        have l2 := h.pm.lt
        have l3 := h.cm.lt
        refine ⟨by omega, by omega, by omega, fun e2 => ?_⟩
        have := h.lt d (mem_fpT.2 (Or.inr (Or.inr (Or.inr (Or.inl e2)))))
        omega
    · exact h.far x (hin x e) d hd
  · refine List.pairwise_append.2 ⟨ap1, List.pairwise_cons.2 ⟨fun b hb d hd he => hnew b (Or.inr hb) d he hd, ap5⟩, fun a ha b hb d hd he => ?_⟩
    rcases List.mem_cons.1 hb with e | e
    · subst e; exact hnew a (Or.inl ha) d hd he
    · exact ap3 a ha b (by simp [e]) d hd he
theorem fp_step {A B : List Rb} {q : Rb} {S : St} {f : List Nat} (hn : Nf w q.F f) : Nf w (fpT t p c g (A ++ q :: B)) (fpT t p c g (A ++ ⟨q.R, S, q.b, f⟩ :: B)) := fun d hd => by
  rcases mem_fpT.1 hd with e | e | e | e | ⟨x, hx, e⟩
  · exact Or.inl (mem_fpT.2 (Or.inl e))
  · exact Or.inl (mem_fpT.2 (Or.inr (Or.inl e)))
  · exact Or.inl (mem_fpT.2 (Or.inr (Or.inr (Or.inl e))))
  · exact Or.inl (mem_fpT.2 (Or.inr (Or.inr (Or.inr (Or.inl e)))))
  · rcases List.mem_append.1 hx with e1 | e1
    · exact Or.inl (mem_fpT.2 (Or.inr (Or.inr (Or.inr (Or.inr ⟨x, by simp [e1], e⟩)))))
    · rcases List.mem_cons.1 e1 with e2 | e2
      · subst e2
        rcases hn d e with e3 | e3
        · exact Or.inl (mem_fpT.2 (Or.inr (Or.inr (Or.inr (Or.inr ⟨q, by simp, e3⟩)))))
        · exact Or.inr e3
      · exact Or.inl (mem_fpT.2 (Or.inr (Or.inr (Or.inr (Or.inr ⟨x, by simp [e2], e⟩)))))
theorem fp_rec {A B : List Rb} {q : Rb} : ∀ d, d ∈ q.F → d ∈ fpT t p c g (A ++ q :: B) := fun d hd => mem_fpT.2 (Or.inr (Or.inr (Or.inr (Or.inr ⟨q, by simp, hd⟩))))
theorem Tm.stepE {A B : List Rb} {q : Rb} {S : St} (h : Tm w t p c g nc ng (A ++ q :: B) T N) (E : RqE w w' q.b q.F q.R S M) (hN : N ≤ M) (hL : Lv T) (hE : S.ended = false) : TqE w w' t (fpT t p c g (A ++ q :: B)) (setS T q.R.run S) M := by
  obtain ⟨f, h1, h2, h3⟩ := h.step E hN
  exact ⟨_, ⟨_, _, _, _, _, _, rfl, h1, hL.setS hE⟩, h2.mono fp_rec, fp_step h3⟩
/-- The cells of a table's block. -/
structure Tcs (w : World) (t p c : Nat) (g : Option Nat) (T : Tb) : Prop where
  c0 : w.cell? ⟨t, 0, none⟩ = some (.int .i64 T.fl)
  c1 : w.cell? ⟨t, 1, none⟩ = some (.int .i64 T.bg)
  c2 : w.cell? ⟨t, 2, none⟩ = some (.map (some p))
  c3 : w.cell? ⟨t, 3, none⟩ = some (.map (some c))
  c4 : w.cell? ⟨t, 4, none⟩ = some (.map g)
theorem Tm.cs (h : Tm w t p c g nc ng Ps T N) : Tcs w t p c g T := ⟨cell_at h.bl rfl, cell_at h.bl rfl, cell_at h.bl rfl, cell_at h.bl rfl, cell_at h.bl rfl⟩
theorem Tm.fz (h : Tm w t p c g nc ng Ps T N) (j : Nat) : w.frozen? ⟨t, j, none⟩ = false := froz_at h.bl j
theorem zeroP (w : World) : (zeroValue 97).run Tryz.prog w = .ok (.pointer none) w := by kernel_rfl
theorem Tm.lookP (h : Tm w t p c g nc ng Ps T N) {n : Int} (hn : W64 n) : (Instr.lookup 45 (.map (some p)) (.int .i64 n) false).run Tryz.prog w = .ok ((ptr Ps n).getD (.pointer none)) w :=
  h.pm.look (t := 45) Tryz.underlying45 (zeroP w) hn
theorem Tm.lookC (h : Tm w t p c g nc ng Ps T N) {k : K} (hk : Ok k) : (Instr.lookup 46 (.map (some c)) (kv k) false).run Tryz.prog w = .ok (.int .i64 (((curOf T k).map Rn.run).getD 0)) w := by
  have := h.cm.look (t := 46) Tryz.underlying46 (zero3 w) hk
  rw [show (KC : KK Tryz.prog 34 K).kv k = kv k from rfl] at this
  rw [this]
  unfold curV
  cases curOf T k <;> rfl
theorem Tm.lookCok (h : Tm w t p c g nc ng Ps T N) {k : K} (hk : Ok k) : (Instr.lookup 46 (.map (some c)) (kv k) true).run Tryz.prog w = .ok (.tuple #[.int .i64 (((curOf T k).map Rn.run).getD 0), .bool (curOf T k).isSome]) w := by
  have := h.cm.lookOk (t := 46) Tryz.underlying46 (zero3 w) hk
  rw [show (KC : KK Tryz.prog 34 K).kv k = kv k from rfl] at this
  rw [this]
  unfold curV
  cases curOf T k <;> rfl
theorem Tm.lookG (h : Tm w t p c g nc ng Ps T N) {k : K} (hk : Ok k) : (Instr.lookup 46 (.map g) (kv k) false).run Tryz.prog w = .ok (.int .i64 (T.gn k)) w := by
  rcases h.gm with ⟨e, h0⟩ | ⟨d, e, hm⟩
  · rw [e, h0 k]
    exact look_nil KC (t := 46) Tryz.underlying46 (zero3 w) hk
  · have := hm.look (t := 46) Tryz.underlying46 (zero3 w) hk
    rw [show (KC : KK Tryz.prog 34 K).kv k = kv k from rfl] at this
    rw [e, this]
    unfold genV
    split
    · rename_i e0; rw [e0]; rfl
    · rfl
theorem Tm.lenP (h : Tm w t p c g nc ng Ps T N) (ty : TypeId) : (Builtin.len_ #[45] ty #[.map (some p)]).run Tryz.prog w = .ok (.int .i64 (T.rs.length : Nat)) w := by
  rw [h.pm.len (t := 45) Tryz.underlying45 ty, h.rs]
  simp [rsOf]
end
end Go.Proofs.YtpihhlllembdeaaGreat
