/- The walk of the law of nil gates. -/
import Derived.Test.YtmbjjkdocmcpdaaNil
namespace Go.Proofs.Ytmbjjkdocmcpdaa
open Go.RowKit Go.Maps Go.ChangeMaps
set_option linter.unusedVariables false
set_option maxHeartbeats 4000000 in
set_option maxRecDepth 100000 in
theorem law4 (w : World) (k g x n : Int) : Calls Try.prog 4 #[.agg #[.int .i64 k, .int .i64 g, .int .i64 x, .int .i64 n]] w fun e w' => e = .returned (.bool true) ∧ Touch [] w w' := by
  go_enter Try.func4, Try.ntmps4
  go_wp2_with (first
    | (go_at_call 9; refine (come9_nil _ _ _).mono ?_; rintro e w1 ⟨rfl, rfl⟩)
    | (go_at_call 8; refine (open8_nil _ _).mono ?_; rintro e w1 ⟨rfl, rfl⟩)
    | (go_at_call 16; refine (pass16_nil _ _ _).mono ?_; rintro e w1 ⟨rfl, rfl⟩)
    | (go_at_call 17; refine (leave17_nil _ _).mono ?_; rintro e w1 ⟨rfl, rfl⟩)
    | (go_at_call 18; refine (where18_nil _ _).mono ?_; rintro e w1 ⟨rfl, rfl⟩)
    | (go_at_call 6; refine (awake6 _).mono ?_; rintro e w4 ⟨rfl, t4⟩; have T4 := hid t4; have d1 := World.cell?_of_block (a := ⟨w.heap.size, 1, none⟩) (t4.block w.heap.size (by simp) (by simp)); simp at d1; clear t4)
    | (go_at_call 19; refine (shut19_nil _ _).mono ?_; rintro e w1 ⟨rfl, rfl⟩)
    | (go_at_call 20; refine (isopen20_nil _ _).mono ?_; rintro e w1 ⟨rfl, rfl⟩)
    | (go_at_call 13; refine (waiting13_nil _ _).mono ?_; rintro e w1 ⟨rfl, rfl⟩)
    | (go_at_call 15; refine (len15_nil _).mono ?_; rintro e w1 ⟨rfl, rfl⟩)
    | (go_at_call 7; refine (clone7_nil _).mono ?_; rintro e w1 ⟨rfl, rfl⟩)
    | fail)
  go_ret
  exact ⟨rfl, ((Touch.refl _ _).alloc _).trans' T4.out⟩
end Go.Proofs.Ytmbjjkdocmcpdaa
