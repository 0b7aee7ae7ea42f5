/- The law RetryWaits, walked. -/
import Derived.Test.YtkodabhkhifggaaWww
namespace Go.Proofs.Ytkodabhkhifggaa
open Go.RowKit Go.Maps Go.ChangeMaps Go.ChangeShapes Go.WideShapes Go.ChangeAt
set_option linter.unusedVariables false
set_option linter.unusedSimpArgs false
theorem w_cases (r : Rt) (n : Int) (s : Nat) : (may r = false ∧ wW r n s = 0 ∧ wE r n = 170) ∨ (may r = true ∧ wW r n s = 0 ∧ wE r n = 1) ∨ (may r = true ∧ wE r n = 0 ∧ 0 ≤ wW r n s ∧ wW r n s ≤ r.mo) := by
  cases hm : may r with
  | false => exact Or.inl ⟨rfl, (w_no (by simp [hm]) s).1, by unfold wE; rw [hm]; rfl⟩
  | true =>
    obtain ⟨_, h2, _⟩ := (may_iff r).1 hm
    by_cases h1 : n < 1
    · exact Or.inr (Or.inl ⟨rfl, (w_no (by intro h; omega) s).1, by unfold wE; rw [hm, if_pos h1]; rfl⟩)
    · refine Or.inr (Or.inr ⟨rfl, by unfold wE; rw [hm, if_neg h1]; rfl, ?_⟩)
      by_cases h3 : n < r.tr
      · rw [(w_yes ⟨hm, by omega, h3⟩ s).1]
        exact wt_bounds hm _ _
      · rw [(w_no (by intro h; omega) s).1]
        omega
set_option maxHeartbeats 1000000 in
theorem lwaits_ (w : World) (r : Rt) (n s : Int) (hr : r.ok) (hn : (Lit.int .i64 n).wf = true) (hs : (Lit.int .u64 s).wf = true) : Calls Try.prog 3 #[.agg r.cs, .int .i64 n, .int .u64 s] w fun e w' => e = .returned (.bool true) ∧ Touch [] w w' := by
  obtain ⟨s1, s2⟩ := u64_bounds hs
  obtain ⟨s, rfl⟩ := Int.eq_ofNat_of_zero_le s1
  clear hs hn s1
  have HW := hid (Wait_ r hr n s (by omega))
  have HR := hid (rWait_ r hr n s (by omega))
  have HM := hid (may_ r)
  have HC := hid (check_ r)
  have HP := hid (plan_ r)
  obtain ⟨V, hV⟩ : ∃ V, V = w.alloc (.cells r.cs 23) := ⟨_, rfl⟩
  have TV : Hid (Touch [] w V) := by rw [hV]; exact (Touch.refl _ _).alloc _
  have hbx : V.heap[w.heap.size]? = some (.cells r.cs 23 (0, 0)) := by rw [hV]; exact heap_alloc_new w _
  have HQ : Hid (∀ w', Touch [] w w' → Touch [] V w' → w'.cell? ⟨w.heap.size, 0, none⟩ = some (.int .i64 r.ba) ∧ w'.cell? ⟨w.heap.size, 1, none⟩ = some (.int .i64 r.mo) ∧ w'.cell? ⟨w.heap.size, 2, none⟩ = some (.int .i64 r.tr) ∧ w'.cell? ⟨w.heap.size, 3, none⟩ = some (.int .i64 r.sp)) := hid (fun w' _ T => ⟨cell_at (T.keep hbx (by simp)) rfl, cell_at (T.keep hbx (by simp)) rfl, cell_at (T.keep hbx (by simp)) rfl, cell_at (T.keep hbx (by simp)) rfl⟩)
  obtain ⟨c0, c1, c2, c3⟩ := HQ.out V TV.out (Touch.refl _ _)
  clear hbx
  have HA := hid awake_
  rcases w_cases r n s with ⟨h1, h2, h3⟩ | ⟨h1, h2, h3⟩ | ⟨h1, h2, h3, h4⟩
  · rw [h2, h3] at HW HR
    rw [h1] at HM
    rw [show chk r = 170 by unfold chk; rw [h1]; rfl] at HC
    clear h1 h2 h3
    generalize wB r n = Bo at *
    unfold Rt.cs at *
    go_enter Try.func3, Try.ntmps3
    go_upto_region 1 with fail
    rw [← hV]
    clear hV
    have T0 : Hid (Touch [] V V) := hid (Touch.refl _ _)
    go_wp2_with (first
      | (go_at_call 7; refine (HW.out _).mono ?_; rintro e w9 ⟨rfl, t9⟩; have T1 := hid (T0.out.trans' t9); clear t9 T0 c0 c1 c2 c3; obtain ⟨c0, c1, c2, c3⟩ := HQ.out _ (TV.out.trans' T1.out) T1.out; have T0 := T1; clear T1)
      | (go_at_call 8; refine (HR.out _).mono ?_; rintro e w9 ⟨rfl, t9⟩; have T1 := hid (T0.out.trans' t9); clear t9 T0 c0 c1 c2 c3; obtain ⟨c0, c1, c2, c3⟩ := HQ.out _ (TV.out.trans' T1.out) T1.out; have T0 := T1; clear T1)
      | (go_at_call 9; refine (HP.out _).mono ?_; rintro e w9 ⟨rfl, t9⟩; have T1 := hid (T0.out.trans' t9); clear t9 T0 c0 c1 c2 c3; obtain ⟨c0, c1, c2, c3⟩ := HQ.out _ (TV.out.trans' T1.out) T1.out; have T0 := T1; clear T1)
      | (go_at_call 10; refine (HM.out _).mono ?_; rintro e w9 ⟨rfl, t9⟩; have T1 := hid (T0.out.trans' t9); clear t9 T0 c0 c1 c2 c3; obtain ⟨c0, c1, c2, c3⟩ := HQ.out _ (TV.out.trans' T1.out) T1.out; have T0 := T1; clear T1)
      | (go_at_call 12; refine (HC.out _).mono ?_; rintro e w9 ⟨rfl, t9⟩; have T1 := hid (T0.out.trans' t9); clear t9 T0 c0 c1 c2 c3; obtain ⟨c0, c1, c2, c3⟩ := HQ.out _ (TV.out.trans' T1.out) T1.out; have T0 := T1; clear T1)
      | (go_at_call 11; refine (HA.out _).mono ?_; rintro e w9 ⟨rfl, t9⟩; have T1 := hid (T0.out.trans' t9); clear t9 T0 c0 c1 c2 c3; obtain ⟨c0, c1, c2, c3⟩ := HQ.out _ (TV.out.trans' T1.out) T1.out; have T0 := T1; clear T1))
    go_ret
    exact ⟨rfl, TV.out.trans' T0.out⟩
  · rw [h2, h3] at HW HR
    rw [h1] at HM
    rw [show chk r = 0 by unfold chk; rw [h1]; rfl] at HC
    clear h1 h2 h3
    generalize wB r n = Bo at *
    unfold Rt.cs at *
    go_enter Try.func3, Try.ntmps3
    go_upto_region 1 with fail
    rw [← hV]
    clear hV
    have T0 : Hid (Touch [] V V) := hid (Touch.refl _ _)
    go_wp2_with (first
      | (go_at_call 7; refine (HW.out _).mono ?_; rintro e w9 ⟨rfl, t9⟩; have T1 := hid (T0.out.trans' t9); clear t9 T0 c0 c1 c2 c3; obtain ⟨c0, c1, c2, c3⟩ := HQ.out _ (TV.out.trans' T1.out) T1.out; have T0 := T1; clear T1)
      | (go_at_call 8; refine (HR.out _).mono ?_; rintro e w9 ⟨rfl, t9⟩; have T1 := hid (T0.out.trans' t9); clear t9 T0 c0 c1 c2 c3; obtain ⟨c0, c1, c2, c3⟩ := HQ.out _ (TV.out.trans' T1.out) T1.out; have T0 := T1; clear T1)
      | (go_at_call 9; refine (HP.out _).mono ?_; rintro e w9 ⟨rfl, t9⟩; have T1 := hid (T0.out.trans' t9); clear t9 T0 c0 c1 c2 c3; obtain ⟨c0, c1, c2, c3⟩ := HQ.out _ (TV.out.trans' T1.out) T1.out; have T0 := T1; clear T1)
      | (go_at_call 10; refine (HM.out _).mono ?_; rintro e w9 ⟨rfl, t9⟩; have T1 := hid (T0.out.trans' t9); clear t9 T0 c0 c1 c2 c3; obtain ⟨c0, c1, c2, c3⟩ := HQ.out _ (TV.out.trans' T1.out) T1.out; have T0 := T1; clear T1)
      | (go_at_call 12; refine (HC.out _).mono ?_; rintro e w9 ⟨rfl, t9⟩; have T1 := hid (T0.out.trans' t9); clear t9 T0 c0 c1 c2 c3; obtain ⟨c0, c1, c2, c3⟩ := HQ.out _ (TV.out.trans' T1.out) T1.out; have T0 := T1; clear T1)
      | (go_at_call 11; refine (HA.out _).mono ?_; rintro e w9 ⟨rfl, t9⟩; have T1 := hid (T0.out.trans' t9); clear t9 T0 c0 c1 c2 c3; obtain ⟨c0, c1, c2, c3⟩ := HQ.out _ (TV.out.trans' T1.out) T1.out; have T0 := T1; clear T1))
    go_ret
    exact ⟨rfl, TV.out.trans' T0.out⟩
  · rw [h2] at HW HR
    rw [h1] at HM
    rw [show chk r = 0 by unfold chk; rw [h1]; rfl] at HC
    obtain ⟨h5, h6⟩ := (show _ ∧ _ from ⟨h3, h4⟩)
    clear h1 h2 h3 h4
    generalize wW r n s = X at *
    generalize wB r n = Bo at *
    unfold Rt.cs at *
    go_enter Try.func3, Try.ntmps3
    go_upto_region 1 with fail
    rw [← hV]
    clear hV
    have T0 : Hid (Touch [] V V) := hid (Touch.refl _ _)
    go_wp2_with (first
      | (go_at_call 7; refine (HW.out _).mono ?_; rintro e w9 ⟨rfl, t9⟩; have T1 := hid (T0.out.trans' t9); clear t9 T0 c0 c1 c2 c3; obtain ⟨c0, c1, c2, c3⟩ := HQ.out _ (TV.out.trans' T1.out) T1.out; have T0 := T1; clear T1)
      | (go_at_call 8; refine (HR.out _).mono ?_; rintro e w9 ⟨rfl, t9⟩; have T1 := hid (T0.out.trans' t9); clear t9 T0 c0 c1 c2 c3; obtain ⟨c0, c1, c2, c3⟩ := HQ.out _ (TV.out.trans' T1.out) T1.out; have T0 := T1; clear T1)
      | (go_at_call 9; refine (HP.out _).mono ?_; rintro e w9 ⟨rfl, t9⟩; have T1 := hid (T0.out.trans' t9); clear t9 T0 c0 c1 c2 c3; obtain ⟨c0, c1, c2, c3⟩ := HQ.out _ (TV.out.trans' T1.out) T1.out; have T0 := T1; clear T1)
      | (go_at_call 10; refine (HM.out _).mono ?_; rintro e w9 ⟨rfl, t9⟩; have T1 := hid (T0.out.trans' t9); clear t9 T0 c0 c1 c2 c3; obtain ⟨c0, c1, c2, c3⟩ := HQ.out _ (TV.out.trans' T1.out) T1.out; have T0 := T1; clear T1)
      | (go_at_call 12; refine (HC.out _).mono ?_; rintro e w9 ⟨rfl, t9⟩; have T1 := hid (T0.out.trans' t9); clear t9 T0 c0 c1 c2 c3; obtain ⟨c0, c1, c2, c3⟩ := HQ.out _ (TV.out.trans' T1.out) T1.out; have T0 := T1; clear T1)
      | (go_at_call 11; refine (HA.out _).mono ?_; rintro e w9 ⟨rfl, t9⟩; have T1 := hid (T0.out.trans' t9); clear t9 T0 c0 c1 c2 c3; obtain ⟨c0, c1, c2, c3⟩ := HQ.out _ (TV.out.trans' T1.out) T1.out; have T0 := T1; clear T1))
    go_ret
    exact ⟨rfl, TV.out.trans' T0.out⟩
end Go.Proofs.Ytkodabhkhifggaa
