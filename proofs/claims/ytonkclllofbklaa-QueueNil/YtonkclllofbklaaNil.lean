/- What nil queues answer, and the walk of the law of nil queues; no conditions. -/
import Derived.Test.YtonkclllofbklaaTra
namespace Go.Proofs.Ytonkclllofbklaa
open Go.RowKit Go.Maps Go.ChangeMaps
set_option linter.unusedVariables false
theorem nlen31 (w : World) : Calls Try.prog 31 #[.pointer none] w fun e w' => e = .returned (.int .i64 0) ∧ w' = w := by
  go_enter Try.func31, Try.ntmps31
  go_wp2
  go_ret
  exact ⟨rfl, rfl⟩
theorem nlen26 (w : World) : Calls Try.prog 26 #[.pointer none] w fun e w' => e = .returned (.int .i64 0) ∧ w' = w := by
  go_enter Try.func26, Try.ntmps26
  go_wp2
  go_ret
  exact ⟨rfl, rfl⟩
theorem nfront28 (w : World) : Calls Try.prog 28 #[.pointer none] w fun e w' => e = .returned (.tuple #[.int .i64 0, .bool false]) ∧ w' = w := by
  go_enter Try.func28, Try.ntmps28
  go_wp2_with (go_at_call 31; refine (nlen31 _).mono ?_; rintro e w2 ⟨rfl, rfl⟩)
  exact bodyPost_ret (v := .tuple #[.int .i64 0, .bool false]) (by simp [results, Try.results28, go_sem]) rfl ⟨rfl, rfl⟩
theorem ntake12 (w : World) : Calls Try.prog 12 #[.pointer none] w fun e w' => e = .returned (.tuple #[.int .i64 0, .bool false]) ∧ w' = w := by
  go_enter Try.func12, Try.ntmps12
  go_wp2_with (go_at_call 28; refine (nfront28 _).mono ?_; rintro e w2 ⟨rfl, rfl⟩)
  exact bodyPost_ret (v := .tuple #[.int .i64 0, .bool false]) (by simp [results, Try.results12, go_sem]) rfl ⟨rfl, rfl⟩
theorem nhas30 (w : World) (k : Int) : Calls Try.prog 30 #[.pointer none, .int .i64 k] w fun e w' => e = .returned (.bool false) ∧ w' = w := by
  go_enter Try.func30, Try.ntmps30
  go_wp2
  go_ret
  exact ⟨rfl, rfl⟩
theorem ndrop14 (w : World) (k : Int) : Calls Try.prog 14 #[.pointer none, .int .i64 k] w fun e w' => e = .returned (.bool false) ∧ w' = w := by
  go_enter Try.func14, Try.ntmps14
  go_wp2_with (go_at_call 30; refine (nhas30 _ _).mono ?_; rintro e w2 ⟨rfl, rfl⟩)
  go_ret
  exact ⟨rfl, rfl⟩
theorem nback15 (w : World) (k : Int) : Calls Try.prog 15 #[.pointer none, .int .i64 k] w fun e w' => e = .returned (.bool false) ∧ w' = w := by
  go_enter Try.func15, Try.ntmps15
  go_wp2_with (go_at_call 14; refine (ndrop14 _ _).mono ?_; rintro e w2 ⟨rfl, rfl⟩)
  go_ret
  exact ⟨rfl, rfl⟩
theorem nput17 (w : World) (k : Int) : Calls Try.prog 17 #[.pointer none, .int .i64 k] w fun e w' => e = .returned (.int .i64 3) ∧ w' = w := by
  go_enter Try.func17, Try.ntmps17
  go_wp2_with (go_at_call 30; refine (nhas30 _ _).mono ?_; rintro e w2 ⟨rfl, rfl⟩)
  go_ret
  exact ⟨rfl, rfl⟩
theorem nnext27 (w : World) : Calls Try.prog 27 #[.pointer none] w fun e w' => e = .returned (.tuple #[.int .i64 0, .int .i64 0, .bool false]) ∧ w' = w := by
  go_enter Try.func27, Try.ntmps27
  go_wp2_with (go_at_call 26; refine (nlen26 _).mono ?_; rintro e w2 ⟨rfl, rfl⟩)
  exact bodyPost_ret (v := .tuple #[.int .i64 0, .int .i64 0, .bool false]) (by simp [results, Try.results27, go_sem]) rfl ⟨rfl, rfl⟩
theorem ntake21 (w : World) (now : Int) : Calls Try.prog 21 #[.pointer none, .int .i64 now] w fun e w' => e = .returned (.tuple #[.int .i64 0, .bool false]) ∧ w' = w := by
  go_enter Try.func21, Try.ntmps21
  go_wp2_with (go_at_call 27; refine (nnext27 _).mono ?_; rintro e w2 ⟨rfl, rfl⟩)
  exact bodyPost_ret (v := .tuple #[.int .i64 0, .bool false]) (by simp [results, Try.results21, go_sem]) rfl ⟨rfl, rfl⟩
theorem nat29 (w : World) (k : Int) : Calls Try.prog 29 #[.pointer none, .int .i64 k] w fun e w' => e = .returned (.tuple #[.int .i64 0, .bool false]) ∧ w' = w := by
  go_enter Try.func29, Try.ntmps29
  go_wp2
  exact bodyPost_ret (v := .tuple #[.int .i64 0, .bool false]) (by simp [results, Try.results29, go_sem]) rfl ⟨rfl, rfl⟩
theorem ndrop22 (w : World) (k : Int) : Calls Try.prog 22 #[.pointer none, .int .i64 k] w fun e w' => e = .returned (.bool false) ∧ w' = w := by
  go_enter Try.func22, Try.ntmps22
  go_wp2
  go_ret
  exact ⟨rfl, rfl⟩
theorem nput24_arg (w : World) (t k : Int) (ht : isT t = false) : Calls Try.prog 24 #[.pointer none, .int .i64 t, .int .i64 k] w fun e w' => e = .returned (.int .i64 1) ∧ w' = w := by
  have HI := hid (is37 t w)
  rw [ht] at HI
  clear ht
  go_enter Try.func24, Try.ntmps24
  go_wp2_with (go_at_call 37; refine HI.out.mono ?_; rintro e w2 ⟨rfl, rfl⟩)
  go_ret
  exact ⟨rfl, rfl⟩
theorem nput24_many (w : World) (t k : Int) (ht : isT t = true) : Calls Try.prog 24 #[.pointer none, .int .i64 t, .int .i64 k] w fun e w' => e = .returned (.int .i64 3) ∧ w' = w := by
  have HI := hid (is37 t w)
  rw [ht] at HI
  clear ht
  go_enter Try.func24, Try.ntmps24
  go_wp2_with (first | (go_at_call 37; refine HI.out.mono ?_; rintro e w2 ⟨rfl, rfl⟩) | (go_at_call 29; refine (nat29 _ _).mono ?_; rintro e w2 ⟨rfl, rfl⟩))
  go_ret
  exact ⟨rfl, rfl⟩
theorem nall33 (w : World) : Calls Try.prog 33 #[.pointer none] w fun e w' => e = .returned (.slice none 0 0) ∧ w' = w := by
  go_enter Try.func33, Try.ntmps33
  go_wp2
  go_ret
  exact ⟨rfl, rfl⟩
theorem nall32 (w : World) : Calls Try.prog 32 #[.pointer none] w fun e w' => e = .returned (.slice (some ⟨w.heap.size, 0, none⟩) 0 0) ∧ Touch [] w w' := by
  obtain ⟨i3, hi, hz0, hz1, hz2⟩ := info_parts info3
  go_enter Try.func32, Try.ntmps32
  go_wp2_with fail
  refine (nlen31 _).mono ?_
  rintro e w1 ⟨rfl, rfl⟩
  go_wp2_with (first
    | (go_at_call 31; refine (nlen31 _).mono ?_; rintro e w2 ⟨rfl, rfl⟩)
    | (go_at_call 28; refine (nfront28 _).mono ?_; rintro e w2 ⟨rfl, rfl⟩)
    | (at_make; refine wpList_make_own _ rfl _ _ 47 rfl w1.heap.size 3 i3 (.int .i64 0) 1 Try.underlying47 hi hz0 hz1 .i64 .i64 _ 0 rfl rfl rfl (by omega) (by unfold maxLen; omega) (Nat.le_refl _) ?_; intro w3 o3 g3; have T3 : Hid (Touch [] w1 w3) := Touch.grown (Touch.refl _ _) g3 (fun k hk => by cases hk); clear o3 g3))
  go_loopw [3, 4, 16] (fun s3 it i wr => s3 = .slice (some ⟨w1.heap.size, 0, none⟩) 0 0 ∧ it = .int .i64 0 ∧ i = .int .i64 0 ∧ Hid (Touch [] w1 wr)) (fun _ _ _ _ => 0)
  case atStart => exact ⟨rfl, rfl, rfl, T3⟩
  case round =>
    obtain ⟨rfl, rfl, rfl, HR⟩ := hrel
    go_wp2
    go_ret
    exact ⟨rfl, HR.out⟩
theorem ndue23 (w : World) (now : Int) : Calls Try.prog 23 #[.pointer none, .int .i64 now] w fun e w' => e = .returned (.slice none 0 0) ∧ Touch [] w w' := by
  go_enter Try.func23, Try.ntmps23
  go_wp2_with (go_at_call 21; refine (ntake21 _ _).mono ?_; rintro e w2 ⟨rfl, rfl⟩)
  go_loopw [5, 6, 7] (fun s5 it b wr => s5 = .slice none 0 0 ∧ it = .int .i64 0 ∧ b = .bool false ∧ Hid (Touch [] w2 wr)) (fun _ _ _ _ => 0)
  case atStart => exact ⟨rfl, rfl, rfl, Touch.refl _ _⟩
  case round =>
    obtain ⟨rfl, rfl, rfl, HR⟩ := hrel
    go_wp2
    go_ret
    exact ⟨rfl, HR.out⟩
set_option maxHeartbeats 4000000 in
set_option maxRecDepth 100000 in
theorem law6 (k t : Int) (w : World) : Calls Try.prog 6 #[.int .i64 k, .int .i64 t] w fun e w' => e = .returned (.bool true) ∧ Touch [] w w' := by
  cases ht : isT t with
  | true =>
    have hr : 0 ≤ t ∧ t ≤ 4611686018427387904 := of_decide_eq_true ht
    obtain ⟨r1, r2⟩ := hr
    have HP := hid (fun W : World => nput24_many W t k ht)
    clear ht
    go_enter Try.func6, Try.ntmps6
    go_wp2_with (first
      | (go_at_call 12; refine (ntake12 _).mono ?_; rintro e w2 ⟨rfl, rfl⟩)
      | (go_at_call 28; refine (nfront28 _).mono ?_; rintro e w2 ⟨rfl, rfl⟩)
      | (go_at_call 21; refine (ntake21 _ _).mono ?_; rintro e w2 ⟨rfl, rfl⟩)
      | (go_at_call 27; refine (nnext27 _).mono ?_; rintro e w2 ⟨rfl, rfl⟩)
      | (go_at_call 29; refine (nat29 _ _).mono ?_; rintro e w2 ⟨rfl, rfl⟩)
      | (go_at_call 9; refine (awake9 _).mono ?_; rintro e wa ⟨rfl, ta⟩)
      | (go_at_call 17; refine (nput17 _ _).mono ?_; rintro e w2 ⟨rfl, rfl⟩)
      | (go_at_call 24; refine (HP.out _).mono ?_; rintro e w2 ⟨rfl, rfl⟩)
      | (go_at_call 14; refine (ndrop14 _ _).mono ?_; rintro e w2 ⟨rfl, rfl⟩)
      | (go_at_call 22; refine (ndrop22 _ _).mono ?_; rintro e w2 ⟨rfl, rfl⟩)
      | (go_at_call 30; refine (nhas30 _ _).mono ?_; rintro e w2 ⟨rfl, rfl⟩)
      | (go_at_call 15; refine (nback15 _ _).mono ?_; rintro e w2 ⟨rfl, rfl⟩)
      | (go_at_call 31; refine (nlen31 _).mono ?_; rintro e w2 ⟨rfl, rfl⟩)
      | (go_at_call 26; refine (nlen26 _).mono ?_; rintro e w2 ⟨rfl, rfl⟩)
      | (go_at_call 32; refine (nall32 _).mono ?_; rintro e wb ⟨rfl, tb⟩)
      | (go_at_call 33; refine (nall33 _).mono ?_; rintro e w2 ⟨rfl, rfl⟩)
      | (go_at_call 23; refine (ndue23 _ _).mono ?_; rintro e wc ⟨rfl, tc⟩))
    go_ret
    exact ⟨rfl, (ta.trans' tb).trans' tc⟩
  | false =>
    have HP := hid (fun W : World => nput24_arg W t k ht)
    have hr : t < 0 ∨ ¬ t < 0 ∧ 4611686018427387904 < t := by
      have : ¬ (0 ≤ t ∧ t ≤ 4611686018427387904) := of_decide_eq_false ht
      omega
    clear ht
    rcases hr with r1 | ⟨r1, r2⟩
    all_goals
      go_enter Try.func6, Try.ntmps6
      go_wp2_with (first
        | (go_at_call 12; refine (ntake12 _).mono ?_; rintro e w2 ⟨rfl, rfl⟩)
        | (go_at_call 28; refine (nfront28 _).mono ?_; rintro e w2 ⟨rfl, rfl⟩)
        | (go_at_call 21; refine (ntake21 _ _).mono ?_; rintro e w2 ⟨rfl, rfl⟩)
        | (go_at_call 27; refine (nnext27 _).mono ?_; rintro e w2 ⟨rfl, rfl⟩)
        | (go_at_call 29; refine (nat29 _ _).mono ?_; rintro e w2 ⟨rfl, rfl⟩)
        | (go_at_call 9; refine (awake9 _).mono ?_; rintro e wa ⟨rfl, ta⟩)
        | (go_at_call 17; refine (nput17 _ _).mono ?_; rintro e w2 ⟨rfl, rfl⟩)
        | (go_at_call 24; refine (HP.out _).mono ?_; rintro e w2 ⟨rfl, rfl⟩)
        | (go_at_call 14; refine (ndrop14 _ _).mono ?_; rintro e w2 ⟨rfl, rfl⟩)
        | (go_at_call 22; refine (ndrop22 _ _).mono ?_; rintro e w2 ⟨rfl, rfl⟩)
        | (go_at_call 30; refine (nhas30 _ _).mono ?_; rintro e w2 ⟨rfl, rfl⟩)
        | (go_at_call 15; refine (nback15 _ _).mono ?_; rintro e w2 ⟨rfl, rfl⟩)
        | (go_at_call 31; refine (nlen31 _).mono ?_; rintro e w2 ⟨rfl, rfl⟩)
        | (go_at_call 26; refine (nlen26 _).mono ?_; rintro e w2 ⟨rfl, rfl⟩)
        | (go_at_call 32; refine (nall32 _).mono ?_; rintro e wb ⟨rfl, tb⟩)
        | (go_at_call 33; refine (nall33 _).mono ?_; rintro e w2 ⟨rfl, rfl⟩)
        | (go_at_call 23; refine (ndue23 _ _).mono ?_; rintro e wc ⟨rfl, tc⟩))
      go_ret
      exact ⟨rfl, (ta.trans' tb).trans' tc⟩
end Go.Proofs.Ytonkclllofbklaa
