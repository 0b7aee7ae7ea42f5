/- What stands between two acts of the law, and what is asked behind each; no conditions. -/
import Derived.Test.YtlmmljmhfghlnaaVod
namespace Go.Proofs.Ytlmmljmhfghlnaa
open Go.RowKit Go.Maps Go.ChangeMaps
set_option linter.unusedVariables false
set_option linter.unusedSimpArgs false
/-- What stands between two acts: the seats, the others that nobody touches, and the document's in its box. -/
structure Ls (w : World) (M s so N : Nat) (F Fo : List Nat) (L : List Se) (G : List Int) (u v : Value) (wx : World) : Prop where
  sq : Sq wx s F L G N
  so : Sq wx so Fo [] [] 0
  dd : Dd wx u v L G
  hm : wx.heap[M]? = some (.cells #[u, v] 29 (0, 0))
  fl : ∀ d, d ∈ F → w.heap.size ≤ d
  ap : ∀ d, d ∈ Fo → ¬ d ∈ F
  ml : w.heap.size ≤ M
  t : Touch [] w wx
def LsX (w : World) (M s so N : Nat) (wx : World) : Prop := ∃ F Fo L G u v, Ls w M s so N F Fo L G u v wx
section
variable {w wx w' : World} {M s so N s4 : Nat} {F Fo : List Nat} {L L4 : List Se} {G G4 : List Int} {u v u4 v4 : Value}
theorem Ls.keep (h : Ls w M s so N F Fo L G u v wx) (X : Touch [] wx w') : Ls w M s so N F Fo L G u v w' :=
  ⟨h.sq.keep0 X, h.so.keep0 X, h.dd.keep0 X, X.keep h.hm (by simp), h.fl, h.ap, h.ml, h.t.trans' X⟩
theorem Ls.box (h : Ls w M s so N F Fo L G u v wx) (q : OnQ wx w' F L4 G4 N s4 u4 v4) : w'.heap[M]? = some (.cells #[u, v] 29 (0, 0)) := by
  obtain ⟨F', q1, q2, q3, q4⟩ := q
  exact q3.keep h.hm (fun e => (h.sq.own M e).ne h.hm (by decide) (by decide) rfl)
def st2 (w : World) (M : Nat) (u v : Value) : World := (w.setCell ⟨M, 0, none⟩ u).setCell ⟨M, 1, none⟩ v
theorem Ls.step (h : Ls w M s so N F Fo L G u v wx) (q : OnQ wx w' F L4 G4 N s4 u4 v4) : ∃ F', Ls w M s4 so (N + 1) F' Fo L4 G4 u4 v4 (st2 w' M u4 v4) := by
  have hm := h.box q
  obtain ⟨F', q1, q2, q3, q4⟩ := q
  have tm : Touch [M] w' (st2 w' M u4 v4) := ((Touch.refl _ _).setCell (Or.inl (by simp)) _).setCell (Or.inl (by simp)) _
  have hz := h.t.size
  have hml := h.ml
  have hso : Sq w' so Fo [] [] 0 := h.so.keep q3 h.ap
  refine ⟨F', q1.keep tm (fun d hd e => ?_), hso.keep tm (fun d hd e => ?_), q2.box hm tm, ?_, fun d hd => ?_, fun d hd e => ?_, h.ml, ?_⟩
  · simp only [List.mem_singleton] at e
    exact (q1.own d hd).ne hm (by decide) (by decide) e
  · simp only [List.mem_singleton] at e
    exact (hso.own d hd).ne hm (by decide) (by decide) e
  · have := bset (i := 1) (bset (i := 0) hm u4) v4
    simpa [st2] using this
  · rcases q4 d hd with e | e
    · exact h.fl d e
    · omega
  · rcases q4 d e with e2 | e2
    · exact h.ap d hd e2
    · have := h.so.lt d hd; omega
  · have x1 : Touch [] w w' := h.t.trans q3 (fun i hi => Or.inr (h.fl i hi))
    exact x1.trans tm (fun i hi => Or.inr (by simp at hi; omega))
theorem lenQ (h : Sq wx s F L G N) : Calls Try.prog 16 #[PT s] wx fun e w' => e = .returned (.int .i64 (L.length : Nat)) ∧ Touch [] wx w' := by
  obtain ⟨mc, mr, mk, nr, CH, rfl, rfl, h1, h2, h3⟩ := h
  refine (len_ h1).mono ?_
  rintro e w' ⟨rfl, rfl⟩
  exact ⟨by rw [List.length_map], Touch.refl _ _⟩
/-- Who has seats of a run, and who by a token: told the same. -/
theorem of_same (h : Ls w M s so N F Fo L G u v wx) {n : Int} (hn : W64 n) (hN : N ≤ 4500000000000) : Calls Try.prog 11 #[PT s, .int .i64 n] wx fun e w2 => ∃ a k c, e = .returned (.slice a k c) ∧ Touch [] wx w2 ∧ ∀ w3, Touch [] w2 w3 → Calls Try.prog 12 #[.agg #[u, v], .int .i64 1, .int .i64 n] w3 fun e w4 => ∃ a' k' c', e = .returned (.slice a' k' c') ∧ Touch [] w3 w4 ∧ ∀ w5, Touch [] w4 w5 → Calls Try.prog 10 #[.slice a k c, .slice a' k' c'] w5 fun e w6 => e = .returned (.bool true) ∧ Touch [] w5 w6 := by
  have hv := h.sq.iv
  obtain ⟨mc, mr, mk, nr, CH, e1, e2, h1, h2⟩ := h.sq.chl hN
  have hll := hv.ll
  refine (of_ h1 hn h2).mono ?_
  rw [← e2]
  rintro e w2 ⟨a, k, c, rfl, q1, q2⟩
  refine ⟨a, k, c, rfl, q2, fun w3 t3 => ?_⟩
  refine (rof_ w3 _ _ L G (h.dd.keep0 (q2.trans' t3)) 1 (by omega) n (by omega)).mono ?_
  rintro e w4 ⟨a', k', c', rfl, q3, q4⟩
  refine ⟨a', k', c', rfl, q4, fun w5 t5 => ints_ w5 _ _ _ (q1.keep0 ((t3.trans' q4).trans' t5)) (q3.keep0 t5) ?_⟩
  have := List.length_filter_le (fun y => decide (bn 1 y = n)) L
  rw [List.length_map]
  unfold inL
  omega
theorem by_same (h : Ls w M s so N F Fo L G u v wx) {n : Int} (hn : W64 n) (hN : N ≤ 4500000000000) : Calls Try.prog 13 #[PT s, .int .i64 n] wx fun e w2 => ∃ a k c, e = .returned (.slice a k c) ∧ Touch [] wx w2 ∧ ∀ w3, Touch [] w2 w3 → Calls Try.prog 12 #[.agg #[u, v], .int .i64 2, .int .i64 n] w3 fun e w4 => ∃ a' k' c', e = .returned (.slice a' k' c') ∧ Touch [] w3 w4 ∧ ∀ w5, Touch [] w4 w5 → Calls Try.prog 10 #[.slice a k c, .slice a' k' c'] w5 fun e w6 => e = .returned (.bool true) ∧ Touch [] w5 w6 := by
  have hv := h.sq.iv
  obtain ⟨mc, mr, mk, nr, CH, e1, e2, h1, h2⟩ := h.sq.chl hN
  have hll := hv.ll
  refine (by_ h1 hn h2).mono ?_
  rw [← e2]
  rintro e w2 ⟨a, k, c, rfl, q1, q2⟩
  refine ⟨a, k, c, rfl, q2, fun w3 t3 => ?_⟩
  refine (rof_ w3 _ _ L G (h.dd.keep0 (q2.trans' t3)) 2 (by omega) n (by omega)).mono ?_
  rintro e w4 ⟨a', k', c', rfl, q3, q4⟩
  refine ⟨a', k', c', rfl, q4, fun w5 t5 => ints_ w5 _ _ _ (q1.keep0 ((t3.trans' q4).trans' t5)) (q3.keep0 t5) ?_⟩
  have := List.length_filter_le (fun y => decide (bn 2 y = n)) L
  rw [List.length_map]
  unfold inL
  omega
/-- All seats, and the empty runs: told the same. -/
theorem all_same (h : Ls w M s so N F Fo L G u v wx) (hN : N ≤ 4500000000000) : Calls Try.prog 18 #[PT s] wx fun e w2 => ∃ a k c, e = .returned (.slice a k c) ∧ Touch [] wx w2 ∧ ∀ w3, Touch [] w2 w3 → Calls Try.prog 17 #[.slice a k c, u] w3 fun e w4 => e = .returned (.bool true) ∧ Touch [] w3 w4 := by
  have hv := h.sq.iv
  obtain ⟨mc, mr, mk, nr, CH, e1, e2, h1, h2⟩ := h.sq.chl hN
  have hll := hv.ll
  refine (all_ h1 h2).mono ?_
  rw [← e2]
  rintro e w2 ⟨a, c, rfl, q1, q2⟩
  exact ⟨a, _, c, rfl, q2, fun w3 t3 => lseats_ w3 _ _ L ((Rs.of_own q1).keep0 t3) (h.dd.u.keep0 (q2.trans' t3)) (by omega)⟩
theorem emq_le (L : List Se) (rs : List Int) : (emq L rs).length ≤ rs.length := by
  have := emq_len L rs rs.length
  rwa [List.take_length] at this
theorem emp_same (h : Ls w M s so N F Fo L G u v wx) (hN : N ≤ 4500000000000) {rs : List Int} {rv : Value} (hv : Ra wx rv rs) (hw : ∀ r ∈ rs, W64 r) (hl : rs.length ≤ 17592186043904) : Calls Try.prog 19 #[PT s, rv] wx fun e w2 => ∃ a k c, e = .returned (.slice a k c) ∧ Touch [] wx w2 ∧ ∀ w3, Touch [] w2 w3 → Calls Try.prog 20 #[.agg #[u, v], rv] w3 fun e w4 => ∃ a' k' c', e = .returned (.slice a' k' c') ∧ Touch [] w3 w4 ∧ ∀ w5, Touch [] w4 w5 → Calls Try.prog 10 #[.slice a k c, .slice a' k' c'] w5 fun e w6 => e = .returned (.bool true) ∧ Touch [] w5 w6 := by
  have hll := h.sq.iv.ll
  refine (empty_ wx (some ⟨s, 0, none⟩) L rs rv (fun w' t n hn => hasQ (h.sq.keep0 t) hn) hv hw hl).mono ?_
  rintro e w2 ⟨a, k, c, rfl, q1, q2⟩
  refine ⟨a, k, c, rfl, q2, fun w3 t3 => ?_⟩
  refine (rempty_ w3 _ _ L G (h.dd.keep0 (q2.trans' t3)) rs rv (hv.keep0 (q2.trans' t3)) (by omega) hl).mono ?_
  rintro e w4 ⟨a', k', c', rfl, q3, q4⟩
  exact ⟨a', k', c', rfl, q4, fun w5 t5 => ints_ w5 _ _ _ (q1.keep0 ((t3.trans' q4).trans' t5)) (q3.keep0 t5) (Nat.le_trans (emq_le L rs) (by omega))⟩
end
end Go.Proofs.Ytlmmljmhfghlnaa
