/- The contracts of every method of nil seats, and of the law's awake; no conditions but those that each states. -/
import Derived.Test.YtlmmljmhfghlnaaVcn
namespace Go.Proofs.Ytlmmljmhfghlnaa
open Go.RowKit Go.Maps Go.ChangeMaps
set_option linter.unusedVariables false
set_option linter.unusedSimpArgs false
section
variable (w : World)
theorem where_nil (c : Int) : Calls Try.prog 8 #[.pointer none, .int .i64 c] w fun e w' => e = .returned (.tuple #[.agg #[.int .i64 0, .int .i64 0, .int .i64 0], .bool false]) ∧ Touch [] w w' := by
  have HT : Hid (Touch [] w (w.alloc (.cells #[.int .i64 0, .int .i64 0, .int .i64 0] 33))) := hid ((Touch.refl _ _).alloc _)
  go_enter Try.func8, Try.ntmps8
  go_wp2
  exact bodyPost_ret (v := .tuple #[.agg #[.int .i64 0, .int .i64 0, .int .i64 0], .bool false]) (by simp [results, Try.results8, go_sem]) rfl ⟨rfl, HT.out⟩
theorem stand_nil (c : Int) : Calls Try.prog 21 #[.pointer none, .int .i64 c] w fun e w' => e = .returned (.tuple #[.agg #[.int .i64 0, .int .i64 0, .int .i64 0], .bool false]) ∧ Touch [] w w' := by
  obtain ⟨V, hV⟩ : ∃ V, V = w.alloc (.cells #[.int .i64 0, .int .i64 0, .int .i64 0] 33) := ⟨_, rfl⟩
  have tv : Touch [] w V := by rw [hV]; exact (Touch.refl _ _).alloc _
  have hvb : V.heap[w.heap.size]? = some (.cells #[.int .i64 0, .int .i64 0, .int .i64 0] 33 (0, 0)) := by rw [hV]; exact heap_alloc_new w _
  have HW := hid (where_nil V c)
  have HVB : Hid (∀ w', Touch [] V w' → w'.heap[w.heap.size]? = some (.cells #[.int .i64 0, .int .i64 0, .int .i64 0] 33 (0, 0))) := hid (fun w' t => t.keep hvb (by simp))
  have HTV := hid tv
  clear tv hvb
  go_enter Try.func21, Try.ntmps21
  go_upto_region 1 with fail
  rw [← hV]
  clear hV
  go_upto_region 2 with (go_at_call 8; refine HW.out.mono ?_; rintro e w2 ⟨rfl, t2⟩; have T2 := hid t2; clear t2)
  obtain ⟨V3, hV3⟩ : ∃ V3, V3 = w2.alloc (.cells #[.int .i64 0, .int .i64 0, .int .i64 0] 33) := ⟨_, rfl⟩
  have tv3 : Touch [] V V3 := by rw [hV3]; exact T2.out.alloc _
  have hb3 : V3.heap[w2.heap.size]? = some (.cells #[.int .i64 0, .int .i64 0, .int .i64 0] 33 (0, 0)) := by rw [hV3]; exact heap_alloc_new w2 _
  rw [← hV3]
  have y0 := cell_at (j := 0) hb3 rfl
  have y1 := cell_at (j := 1) hb3 rfl
  have y2 := cell_at (j := 2) hb3 rfl
  have hb0 := HVB.out V3 tv3
  have v0 := cell_at (j := 0) hb0 rfl
  have v1 := cell_at (j := 1) hb0 rfl
  have v2 := cell_at (j := 2) hb0 rfl
  have vf := froz_at hb0
  have HT3 : Hid (Touch [] w V3) := hid (HTV.out.trans' tv3)
  clear hV3 hb3 hb0 tv3 T2 HVB HTV HW
  go_wp2
  refine bodyPost_ret (v := .tuple #[.agg #[.int .i64 0, .int .i64 0, .int .i64 0], .bool false]) (by simp [results, Try.results21, go_sem, v0, v1, v2]) rfl ⟨rfl, ?_⟩
  exact ((HT3.out.setCell (Or.inr (Nat.le_refl _)) _).setCell (Or.inr (Nat.le_refl _)) _).setCell (Or.inr (Nat.le_refl _)) _
theorem sit_nil (x : Se) : Calls Try.prog 22 #[.pointer none, sv x] w fun e w' => e = .returned (.int .i64 150) ∧ Touch [] w w' := by
  unfold sv
  go_enter Try.func22, Try.ntmps22
  go_wp2
  go_ret
  exact ⟨rfl, (Touch.refl _ _).alloc _⟩
theorem canc_nil (t : Int) : Calls Try.prog 14 #[.pointer none, .int .i64 t] w fun e w' => e = .returned (.bool false) ∧ Touch [] w w' := by
  go_enter Try.func14, Try.ntmps14
  go_wp2
  go_ret
  exact ⟨rfl, Touch.refl _ _⟩
theorem seats_nil (k n : Int) : Calls Try.prog 30 #[.pointer none, .agg #[.int .i64 k, .int .i64 n]] w fun e w' => e = .returned (.slice none 0 0) ∧ Touch [] w w' := by
  go_enter Try.func30, Try.ntmps30
  go_wp2
  go_ret
  exact ⟨rfl, (Touch.refl _ _).alloc _⟩
theorem callers0_ : Calls Try.prog 29 #[.slice none 0 0] w fun e w' => (∃ a c, e = .returned (.slice a 0 c)) ∧ Touch [] w w' := by
  refine (callers_ w (.slice none 0 0) [] 0 (World.ownsRow_nil _ _ _ _) (by simp)).mono ?_
  rintro e w' ⟨a, n, c, rfl, r, t⟩
  obtain ⟨a', c', e⟩ := r.form
  cases e.1
  exact ⟨⟨_, _, rfl⟩, t⟩
theorem of_nil (n : Int) : Calls Try.prog 11 #[.pointer none, .int .i64 n] w fun e w' => (∃ a c, e = .returned (.slice a 0 c)) ∧ Touch [] w w' := by
  have HS := hid (seats_nil w 1 n)
  go_enter Try.func11, Try.ntmps11
  go_wp2_with (first
    | (go_at_call 30; refine HS.out.mono ?_; rintro e w2 ⟨rfl, t2⟩; have T2 := hid t2; clear t2)
    | (go_at_call 29; refine (callers0_ _).mono ?_; rintro e w3 ⟨⟨a3, c3, rfl⟩, t3⟩; have T3 := hid (T2.out.trans' t3); clear t3))
  go_ret
  exact ⟨⟨_, _, rfl⟩, T3.out⟩
theorem by_nil (n : Int) : Calls Try.prog 13 #[.pointer none, .int .i64 n] w fun e w' => (∃ a c, e = .returned (.slice a 0 c)) ∧ Touch [] w w' := by
  have HS := hid (seats_nil w 2 n)
  go_enter Try.func13, Try.ntmps13
  go_wp2_with (first
    | (go_at_call 30; refine HS.out.mono ?_; rintro e w2 ⟨rfl, t2⟩; have T2 := hid t2; clear t2)
    | (go_at_call 29; refine (callers0_ _).mono ?_; rintro e w3 ⟨⟨a3, c3, rfl⟩, t3⟩; have T3 := hid (T2.out.trans' t3); clear t3))
  go_ret
  exact ⟨⟨_, _, rfl⟩, T3.out⟩
theorem clear_nil (k n : Int) : Calls Try.prog 36 #[.pointer none, .agg #[.int .i64 k, .int .i64 n]] w fun e w' => e = .returned (.slice none 0 0) ∧ Touch [] w w' := by
  have HS : Hid (∀ ob, Calls Try.prog 30 #[.pointer none, .agg #[.int .i64 k, .int .i64 n]] (w.alloc ob) fun e w' => e = .returned (.slice none 0 0) ∧ Touch [] w w') := hid (fun ob => by
    refine (seats_nil (w.alloc ob) k n).mono ?_
    rintro e w' ⟨rfl, t⟩
    exact ⟨rfl, ((Touch.refl _ _).alloc ob).trans' t⟩)
  go_enter Try.func36, Try.ntmps36
  go_wp2_with (go_at_call 30; refine (HS.out _).mono ?_; rintro e w2 ⟨rfl, t2⟩; have T2 := hid t2; clear t2)
  go_loopw [13] (fun s13 wr => s13 = .int .i64 0 ∧ wr = w2) (fun _ _ => 0)
  case atStart => exact ⟨rfl, rfl⟩
  case round =>
    obtain ⟨rfl, rfl⟩ := hrel
    go_wp2
    go_ret
    exact ⟨rfl, T2.out⟩
theorem end_nil (n : Int) : Calls Try.prog 23 #[.pointer none, .int .i64 n] w fun e w' => e = .returned (.slice none 0 0) ∧ Touch [] w w' := by
  have HS := hid (clear_nil w 1 n)
  go_enter Try.func23, Try.ntmps23
  go_wp2_with (go_at_call 36; refine HS.out.mono ?_; rintro e w2 ⟨rfl, t2⟩; have T2 := hid t2; clear t2)
  go_ret
  exact ⟨rfl, T2.out⟩
theorem cancel_nil (t : Int) : Calls Try.prog 24 #[.pointer none, .int .i64 t] w fun e w' => e = .returned (.slice none 0 0) ∧ Touch [] w w' := by
  go_enter Try.func24, Try.ntmps24
  go_wp2
  go_ret
  exact ⟨rfl, Touch.refl _ _⟩
theorem all_nil : Calls Try.prog 18 #[.pointer none] w fun e w' => e = .returned (.slice none 0 0) ∧ Touch [] w w' := by
  have HS := hid (seats_nil w 0 0)
  go_enter Try.func18, Try.ntmps18
  go_wp2_with (go_at_call 30; refine HS.out.mono ?_; rintro e w2 ⟨rfl, t2⟩; have T2 := hid t2; clear t2)
  go_ret
  exact ⟨rfl, T2.out⟩
theorem len_nil : Calls Try.prog 16 #[.pointer none] w fun e w' => e = .returned (.int .i64 0) ∧ Touch [] w w' := by
  go_enter Try.func16, Try.ntmps16
  go_wp2
  go_ret
  exact ⟨rfl, Touch.refl _ _⟩
theorem clone_nil : Calls Try.prog 25 #[.pointer none] w fun e w' => e = .returned (.pointer none) ∧ Touch [] w w' := by
  go_enter Try.func25, Try.ntmps25
  go_wp2
  go_ret
  exact ⟨rfl, Touch.refl _ _⟩
theorem empty_nil (rs : List Int) (v : Value) (hv : Ra w v rs) (hw : ∀ r ∈ rs, W64 r) (hl : rs.length ≤ 17592186043904) : Calls Try.prog 19 #[.pointer none, v] w fun e w' => IlE e w w' (emq [] rs) :=
  empty_ w none [] rs v (fun w' t n hn => has_nil w' n) hv hw hl
end
def ax : Se := (1, 7, 3)
set_option maxHeartbeats 4000000 in
set_option maxRecDepth 100000 in
theorem awake_ (w : World) : Calls Try.prog 6 #[] w fun e w' => e = .returned (.bool true) ∧ Touch [] w w' := by
  have HN := hid (new_ w)
  have HP : Hid (∀ w1, Sq w1 w.heap.size [w.heap.size] [] [] 0 → Touch [] w w1 → Calls Try.prog 22 #[PT w.heap.size, .agg #[.int .i64 1, .int .i64 7, .int .i64 3]] w1 fun e w2 => e = .returned (.int .i64 0) ∧ Calls Try.prog 24 #[PT w.heap.size, .int .i64 3] w2 fun e w3 => ∃ g c, e = .returned (.slice (some ⟨g, 0, none⟩) 1 c) ∧ w3.cell? ⟨g, 0, none⟩ = some (.int .i64 1) ∧ w3.cell? ⟨g, 1, none⟩ = some (.int .i64 7) ∧ w3.cell? ⟨g, 2, none⟩ = some (.int .i64 3) ∧ Calls Try.prog 14 #[PT w.heap.size, .int .i64 3] w3 fun e w4 => e = .returned (.bool true) ∧ Touch [] w w4) := hid (fun w1 h1 t1 => by
    refine (sit_ h1 (x := ax) ⟨W64.mk (by decide) (by decide), W64.mk (by decide) (by decide), W64.mk (by decide) (by decide)⟩ (by omega)).mono ?_
    rintro e w2 ⟨rfl, F2, q1, q2, q3⟩
    refine ⟨rfl, ?_⟩
    refine (cancel_ q1 (t := 3) (W64.mk (by omega) (by omega)) (by omega)).mono ?_
    rintro e w3 ⟨a, c, rfl, r, F3, q4, q5, q6⟩
    have e1 : canA (sitL [] [] ax) 3 = [ax] := by decide
    rw [e1] at r ⊢
    obtain ⟨g, c', e, _, _⟩ := own_some r (by decide)
    simp only [Value.slice.injEq, true_and] at e
    obtain ⟨rfl, rfl⟩ := e
    obtain ⟨s0, s1, s2⟩ := seat_cells r (i := 0) (y := ax) rfl
    refine ⟨g, c, rfl, s0, s1, s2, ?_⟩
    refine (cancQ q4 (t := 3) (W64.mk (by omega) (by omega))).mono ?_
    rintro e w4 ⟨rfl, t4⟩
    have e2 : decide ((3 : Int) ∈ canG [] 3) = true := by decide
    rw [e2]
    have x2 : Touch [] w w2 := t1.trans q2 (fun i hi => Or.inr (by simp at hi; omega))
    have x3 : Touch [] w w3 := x2.trans q5 (fun i hi => by
      rcases q3 i hi with e | e
      · exact Or.inr (by simp at e; omega)
      · exact Or.inr (Nat.le_trans t1.size e))
    exact ⟨rfl, x3.trans' t4⟩)
  unfold PT at *
  go_enter Try.func6, Try.ntmps6
  go_wp2_with (first
    | (go_at_call 5; refine HN.out.mono ?_; rintro e w1 ⟨rfl, q1, t1⟩; have HP1 := hid (HP.out w1 q1 t1); clear q1 t1)
    | (go_at_call 22; refine HP1.out.mono ?_; rintro e w2 ⟨rfl, q2⟩; have HP2 := hid q2; clear q2)
    | (go_at_call 24; refine HP2.out.mono ?_; rintro e w3 ⟨g, c, rfl, s0, s1, s2, q3⟩; have HP3 := hid q3; clear q3)
    | (go_at_call 14; refine HP3.out.mono ?_; rintro e w4 ⟨rfl, t4⟩; have T4 := hid t4; clear t4))
  go_ret
  exact ⟨rfl, T4.out⟩
end Go.Proofs.Ytlmmljmhfghlnaa
