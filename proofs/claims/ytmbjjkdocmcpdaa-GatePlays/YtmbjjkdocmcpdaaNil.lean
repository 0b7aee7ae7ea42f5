/- Nil gates; and who waits is let through: awake. -/
import Derived.Test.YtmbjjkdocmcpdaaWtg
namespace Go.Proofs.Ytmbjjkdocmcpdaa
open Go.RowKit Go.Maps Go.ChangeMaps
set_option linter.unusedVariables false
theorem come9_nil (w : World) (n x : Int) : Calls Try.prog 9 #[.pointer none, .int .i64 n, .int .i64 x] w fun e w' => e = .returned (.tuple #[.bool false, .int .i64 1]) ∧ w' = w := by
  go_enter Try.func9, Try.ntmps9
  go_wp2_with (go_at_call 22; refine (known22_nil _ _).mono ?_; rintro e w2 ⟨rfl, rfl⟩)
  exact bodyPost_ret (v := .tuple #[.bool false, .int .i64 1]) (by simp [results, Try.results9, go_sem]) rfl ⟨rfl, rfl⟩
theorem open8_nil (w : World) (n : Int) : Calls Try.prog 8 #[.pointer none, .int .i64 n] w fun e w' => e = .returned (.tuple #[.slice none 0 0, .int .i64 1]) ∧ w' = w := by
  go_enter Try.func8, Try.ntmps8
  go_wp2_with (go_at_call 22; refine (known22_nil _ _).mono ?_; rintro e w2 ⟨rfl, rfl⟩)
  exact bodyPost_ret (v := .tuple #[.slice none 0 0, .int .i64 1]) (by simp [results, Try.results8, go_sem]) rfl ⟨rfl, rfl⟩
theorem pass16_nil (w : World) (n x : Int) : Calls Try.prog 16 #[.pointer none, .int .i64 n, .int .i64 x] w fun e w' => e = .returned (.tuple #[.slice none 0 0, .int .i64 1]) ∧ w' = w := by
  go_enter Try.func16, Try.ntmps16
  go_wp2_with (go_at_call 22; refine (known22_nil _ _).mono ?_; rintro e w2 ⟨rfl, rfl⟩)
  exact bodyPost_ret (v := .tuple #[.slice none 0 0, .int .i64 1]) (by simp [results, Try.results16, go_sem]) rfl ⟨rfl, rfl⟩
theorem shut19_nil (w : World) (n : Int) : Calls Try.prog 19 #[.pointer none, .int .i64 n] w fun e w' => e = .returned (.int .i64 1) ∧ w' = w := by
  go_enter Try.func19, Try.ntmps19
  go_wp2_with (go_at_call 22; refine (known22_nil _ _).mono ?_; rintro e w2 ⟨rfl, rfl⟩)
  go_ret
  exact ⟨rfl, rfl⟩
theorem where18_nil (w : World) (n : Int) : Calls Try.prog 18 #[.pointer none, .int .i64 n] w fun e w' => e = .returned (.tuple #[.int .i64 0, .bool false]) ∧ w' = w := by
  go_enter Try.func18, Try.ntmps18
  go_wp2
  exact bodyPost_ret (v := .tuple #[.int .i64 0, .bool false]) (by simp [results, Try.results18, go_sem]) rfl ⟨rfl, rfl⟩
theorem leave17_nil (w : World) (n : Int) : Calls Try.prog 17 #[.pointer none, .int .i64 n] w fun e w' => e = .returned (.tuple #[.int .i64 0, .bool false]) ∧ w' = w := by
  go_enter Try.func17, Try.ntmps17
  go_wp2_with (go_at_call 18; refine (where18_nil _ _).mono ?_; rintro e w2 ⟨rfl, rfl⟩)
  exact bodyPost_ret (v := .tuple #[.int .i64 0, .bool false]) (by simp [results, Try.results17, go_sem]) rfl ⟨rfl, rfl⟩
theorem isopen20_nil (w : World) (n : Int) : Calls Try.prog 20 #[.pointer none, .int .i64 n] w fun e w' => e = .returned (.bool false) ∧ w' = w := by
  go_enter Try.func20, Try.ntmps20
  go_wp2_with (go_at_call 30; refine (find30_nil _ _).mono ?_; rintro e w2 ⟨rfl, rfl⟩)
  go_ret
  exact ⟨rfl, rfl⟩
theorem waiting13_nil (w : World) (n : Int) : Calls Try.prog 13 #[.pointer none, .int .i64 n] w fun e w' => e = .returned (.slice none 0 0) ∧ w' = w := by
  go_enter Try.func13, Try.ntmps13
  go_wp2_with (go_at_call 30; refine (find30_nil _ _).mono ?_; rintro e w2 ⟨rfl, rfl⟩)
  go_ret
  exact ⟨rfl, rfl⟩
theorem len15_nil (w : World) : Calls Try.prog 15 #[.pointer none] w fun e w' => e = .returned (.int .i64 0) ∧ w' = w := by
  go_enter Try.func15, Try.ntmps15
  go_wp2
  go_ret
  exact ⟨rfl, rfl⟩
theorem clone7_nil (w : World) : Calls Try.prog 7 #[.pointer none] w fun e w' => e = .returned (.pointer none) ∧ w' = w := by
  go_enter Try.func7, Try.ntmps7
  go_wp2
  go_ret
  exact ⟨rfl, rfl⟩
theorem tot_none : tot (fun _ => []) = 0 := tot_zero (fun _ _ => rfl)
set_option maxHeartbeats 4000000 in
set_option maxRecDepth 100000 in
theorem awake6 (w : World) : Calls Try.prog 6 #[] w fun e w' => e = .returned (.bool true) ∧ Touch [] w w' := by
  go_enter Try.func6, Try.ntmps6
  go_wp2_with fail
  refine (new5 w).mono ?_
  rintro e w1 ⟨rfl, g1, t1⟩
  have T1 := hid t1
  have hlo : loc (fun _ => []) 7 = none := loc_none.2 (fun i hi => by simp)
  have HC := come9 g1 3 7 (w64c (by omega)) (by rw [tot_none]; omega)
  have e1 : comeB (fun _ => false) (fun _ => []) 3 7 = false := by simp [comeB]
  have e2 : comeE (fun _ => []) 3 7 = 0 := by simp [comeE, inG, hlo]
  have e3 : comeW (fun _ => false) (fun _ => []) 3 7 = fup (fun _ => []) 3 [7] := by simp [comeW, inG, hlo]
  rw [e1, e2, e3] at HC
  have HH := hid HC
  have HO : Hid (∀ w2, WaE w1 w2 w.heap.size [w.heap.size] (fun _ => false) (fup (fun _ => []) 3 [7]) → Calls Try.prog 8 #[.pointer (some ⟨w.heap.size, 0, none⟩), .int .i64 3] w2 fun e w3 => ∃ b c, e = .returned (.tuple #[.slice (some ⟨b, 0, none⟩) 1 c, .int .i64 0]) ∧ w3.cell? ⟨b, 0, none⟩ = some (.int .i64 7) ∧ Touch [] w w3 ∧ Calls Try.prog 20 #[.pointer (some ⟨w.heap.size, 0, none⟩), .int .i64 3] w3 fun e w4 => e = .returned (.bool true) ∧ w4 = w3) := fun w2 ⟨F2, g2, t2, n2⟩ => by
    have ht2 : tot (fup (fun _ => []) 3 [7]) ≤ 4398046511104 := by
      have := tot_fup (fun _ => []) (show 3 < 256 by omega) [7]
      rw [tot_none] at this
      simp at this
      omega
    refine (open8_yes g2 3 (by decide) ht2).mono ?_
    rintro e w3 ⟨v, he, ow, F3, g3, t3, n3⟩
    rw [show (3 : Int).toNat = 3 from rfl, fup_same] at ow
    obtain ⟨b, c, rfl, _, _⟩ := own_some ow (by simp)
    refine ⟨b, c, he, own_cell ow (by simp [ints]), ?_, ?_⟩
    · have T2 : Touch [] w w2 := T1.out.trans t2 (fun k hk => Or.inr (by simp only [List.mem_singleton] at hk; omega))
      refine T2.trans t3 (fun k hk => ?_)
      rcases n2 k hk with e | e
      · simp only [List.mem_singleton] at e; exact Or.inr (by omega)
      · exact Or.inr (Nat.le_trans T1.out.size e)
    · have := isopen20 g3 3
      rw [show (3 : Int).toNat = 3 from rfl, fup_same] at this
      exact this
  clear HC g1 t1 e1 e2 e3 hlo
  unfold PT
  generalize w.heap.size = g at *
  go_wp2_with (first
    | (go_at_call 9; refine HH.out.mono ?_; rintro e w2 ⟨rfl, r⟩; have R := hid (HO.out w2 r); clear r)
    | (go_at_call 8; refine R.out.mono ?_; rintro e w3 ⟨b, c, rfl, c3, t3, i3⟩; have T3 := hid t3; have I3 := hid i3; clear t3 i3)
    | (go_at_call 20; refine I3.out.mono ?_; rintro e w4 ⟨rfl, rfl⟩)
    | fail)
  go_ret
  exact ⟨rfl, T3.out⟩
end Go.Proofs.Ytmbjjkdocmcpdaa
