/- The contracts of a nil record's methods, and that who waits is told. -/
import Derived.Test.YtaikleaiofpebaaEnd
import Derived.Test.YtaikleaiofpebaaNew
namespace Go.Proofs.Ytaikleaiofpebaa
open Go.RowKit Go.Maps Go.ChangeMaps
set_option linter.unusedVariables false
set_option linter.unusedSimpArgs false
section
variable (w : World)
theorem run8_nil : Calls Try.prog 8 #[.pointer none] w fun e w' => e = .returned (.agg #[.int .i64 0, .int .u16 0, .string ⟨#[]⟩, .int .i64 0, .bool false]) ∧ Touch [] w w' := by
  go_enter Try.func8, Try.ntmps8
  go_wp2
  refine bodyPost_ret (v := .agg #[.int .i64 0, .int .u16 0, .string ⟨#[]⟩, .int .i64 0, .bool false]) (by simp [results, Try.results8, go_sem]) rfl ⟨rfl, ?_⟩
  repeat (first | exact Touch.refl _ _ | apply Touch.alloc | (refine Touch.setCell ?_ (Or.inr (by simp)) _))
theorem leave10_nil (x : Int) : Calls Try.prog 10 #[.pointer none, .int .i64 x] w fun e w' => e = .returned (.tuple #[.bool false, .int .i64 1]) ∧ w' = w := by
  go_enter Try.func10, Try.ntmps10
  go_wp2
  refine bodyPost_ret (v := .tuple #[.bool false, .int .i64 1]) (by simp [results, Try.results10, go_sem]) rfl ⟨rfl, ?_⟩
  rfl
theorem end11_nil (o : O) : Calls Try.prog 11 #[.pointer none, ov o] w fun e w' => e = .returned (.tuple #[.slice none 0 0, .int .i64 1]) ∧ Touch [] w w' := by
  unfold ov
  go_enter Try.func11, Try.ntmps11
  go_wp2
  refine bodyPost_ret (v := .tuple #[.slice none 0 0, .int .i64 1]) (by simp [results, Try.results11, go_sem]) rfl ⟨rfl, ?_⟩
  repeat (first | exact Touch.refl _ _ | apply Touch.alloc | (refine Touch.setCell ?_ (Or.inr (by simp)) _))
theorem join13_nil (x : Int) : Calls Try.prog 13 #[.pointer none, .int .i64 x] w fun e w' => e = .returned (.int .i64 1) ∧ w' = w := by
  go_enter Try.func13, Try.ntmps13
  go_wp2
  refine bodyPost_ret (v := .int .i64 1) (by simp [results, Try.results13, go_sem]) rfl ⟨rfl, ?_⟩
  rfl
theorem release14_nil : Calls Try.prog 14 #[.pointer none] w fun e w' => e = .returned (.bool false) ∧ w' = w := by
  go_enter Try.func14, Try.ntmps14
  go_wp2
  refine bodyPost_ret (v := .bool false) (by simp [results, Try.results14, go_sem]) rfl ⟨rfl, ?_⟩
  rfl
theorem waits15_nil (x : Int) : Calls Try.prog 15 #[.pointer none, .int .i64 x] w fun e w' => e = .returned (.bool false) ∧ w' = w := by
  go_enter Try.func15, Try.ntmps15
  go_wp2
  refine bodyPost_ret (v := .bool false) (by simp [results, Try.results15, go_sem]) rfl ⟨rfl, ?_⟩
  rfl
theorem cancelled16_nil : Calls Try.prog 16 #[.pointer none] w fun e w' => e = .returned (.bool false) ∧ w' = w := by
  go_enter Try.func16, Try.ntmps16
  go_wp2
  refine bodyPost_ret (v := .bool false) (by simp [results, Try.results16, go_sem]) rfl ⟨rfl, ?_⟩
  rfl
theorem ended17_nil : Calls Try.prog 17 #[.pointer none] w fun e w' => e = .returned (.bool false) ∧ w' = w := by
  go_enter Try.func17, Try.ntmps17
  go_wp2
  refine bodyPost_ret (v := .bool false) (by simp [results, Try.results17, go_sem]) rfl ⟨rfl, ?_⟩
  rfl
theorem waiters18_nil : Calls Try.prog 18 #[.pointer none] w fun e w' => e = .returned (.slice none 0 0) ∧ w' = w := by
  go_enter Try.func18, Try.ntmps18
  go_wp2
  refine bodyPost_ret (v := .slice none 0 0) (by simp [results, Try.results18, go_sem]) rfl ⟨rfl, ?_⟩
  rfl
theorem interest19_nil : Calls Try.prog 19 #[.pointer none] w fun e w' => e = .returned (.int .i64 0) ∧ w' = w := by
  go_enter Try.func19, Try.ntmps19
  go_wp2
  refine bodyPost_ret (v := .int .i64 0) (by simp [results, Try.results19, go_sem]) rfl ⟨rfl, ?_⟩
  rfl
theorem clone20_nil : Calls Try.prog 20 #[.pointer none] w fun e w' => e = .returned (.pointer none) ∧ w' = w := by
  go_enter Try.func20, Try.ntmps20
  go_wp2
  refine bodyPost_ret (v := .pointer none) (by simp [results, Try.results20, go_sem]) rfl ⟨rfl, ?_⟩
  rfl
theorem outcome12_nil : Calls Try.prog 12 #[.pointer none] w fun e w' => e = .returned (.tuple #[ov oz, .bool false]) ∧ Touch [] w w' := by
  have HD := hid (fun w => ended17_nil w)
  unfold ov oz
  go_enter Try.func12, Try.ntmps12
  go_wp2_with (go_at_call 17; refine (HD.out _).mono ?_; rintro e w2 ⟨rfl, rfl⟩)
  refine bodyPost_ret (v := .tuple #[.agg #[.int .i64 0, .int .i64 0, .int .i64 0, .int .i64 0], .bool false]) (by simp [results, Try.results12, go_sem]) rfl ⟨rfl, ?_⟩
  repeat (first | exact Touch.refl _ _ | apply Touch.alloc | (refine Touch.setCell ?_ (Or.inr (by simp)) _))
def R1 : Rn := ⟨1, 0, ⟨#[]⟩, 0, false⟩
set_option maxHeartbeats 2000000 in
theorem awake6 : Calls Try.prog 6 #[] w fun e w' => e = .returned (.bool true) ∧ Touch [] w w' := by
  have HN := hid (new5_ok w R1 5 (W64.mk (by omega) (by omega)) rfl)
  have HE : Hid (∀ w1 b F, Touch [] w w1 → (∀ d, d ∈ F → w.heap.size ≤ d) → Rq w1 b F R1 (S0 R1 5) 1 → Calls Try.prog 11 #[PT b, ov (3, 0, 0, 0)] w1 fun e w2 => ∃ t c, e = .returned (.tuple #[.slice (some ⟨t, 0, none⟩) 1 c, .int .i64 0]) ∧ Touch [] w w2 ∧ w2.cell? ⟨t, 0, none⟩ = some (.int .i64 5) ∧ w2.cell? ⟨t, 1, none⟩ = some (.int .i64 3) ∧ w2.cell? ⟨t, 2, none⟩ = some (.int .i64 0) ∧ w2.cell? ⟨t, 3, none⟩ = some (.int .i64 0) ∧ w2.cell? ⟨t, 4, none⟩ = some (.int .i64 0)) := fun w1 b F T hF h => by
    refine (end11 w1 b 1 F R1 _ h (by omega) (3, 0, 0, 0)).mono ?_
    rintro e w2 ⟨v, rfl, ⟨a, c, rfl, hv⟩, F', q1, q2, q3⟩
    have el : endL (S0 R1 5) (3, 0, 0, 0) = [5] := rfl
    have ee : endE (S0 R1 5) (3, 0, 0, 0) = 0 := rfl
    rw [el] at hv
    rw [el, ee]
    rcases hv with hv | ⟨t, cur, rfl, z1, z2, z3⟩
    · cases hv
    · obtain ⟨p0, p1, p2, p3, p4⟩ := z3 0 5 rfl
      exact ⟨t, c, rfl, T.trans q2 (fun i hi => Or.inr (hF i hi)), cell_at z2 p0, cell_at z2 p1, cell_at z2 p2, cell_at z2 p3, cell_at z2 p4⟩
  unfold NwE at HN
  unfold PT at HN
  unfold rv R1 at HN
  unfold PT ov at HE
  unfold R1 at HE
  go_enter Try.func6, Try.ntmps6
  go_wp2_with (first
    | (go_at_call 5; refine HN.out.mono ?_; rintro e w2 ⟨b, F, rfl, r1, r2, r3⟩; have HX := hid (HE.out w2 b F r2 r3 r1); clear r1 r2 r3)
    | (go_at_call 11; refine HX.out.mono ?_; rintro e w3 ⟨t, c, rfl, t3, y0, y1, y2, y3, y4⟩; have T3 := hid t3; clear t3))
  go_ret
  exact ⟨by simp, T3.out⟩
end
end Go.Proofs.Ytaikleaiofpebaa
