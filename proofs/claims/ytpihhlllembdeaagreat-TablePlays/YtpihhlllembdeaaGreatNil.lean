/- The contracts of a nil record's methods, and that who waits is told. -/
import Derived.Test.YtpihhlllembdeaaGreatEnd
import Derived.Test.YtpihhlllembdeaaGreatNew
namespace Go.Proofs.YtpihhlllembdeaaGreat
open Go.RowKit Go.Maps Go.ChangeMaps
set_option linter.unusedVariables false
set_option linter.unusedSimpArgs false
section
variable (w : World)
theorem run8_nil : Calls Tryz.prog 46 #[.pointer none] w fun e w' => e = .returned (.agg #[.int .i64 0, .int .u16 0, .string ⟨#[]⟩, .int .i64 0, .bool false]) ∧ Touch [] w w' := by
  go_enter Tryz.func46, Tryz.ntmps46
  go_wp2
  refine bodyPost_ret (v := .agg #[.int .i64 0, .int .u16 0, .string ⟨#[]⟩, .int .i64 0, .bool false]) (by simp [results, Tryz.results46, go_sem]) rfl ⟨rfl, ?_⟩
  repeat (first | exact Touch.refl _ _ | apply Touch.alloc | (refine Touch.setCell ?_ (Or.inr (by simp)) _))
theorem leave10_nil (x : Int) : Calls Tryz.prog 44 #[.pointer none, .int .i64 x] w fun e w' => e = .returned (.tuple #[.bool false, .int .i64 1]) ∧ w' = w := by
  go_enter Tryz.func44, Tryz.ntmps44
  go_wp2
  refine bodyPost_ret (v := .tuple #[.bool false, .int .i64 1]) (by simp [results, Tryz.results44, go_sem]) rfl ⟨rfl, ?_⟩
  rfl
theorem end11_nil (o : O) : Calls Tryz.prog 56 #[.pointer none, ov o] w fun e w' => e = .returned (.tuple #[.slice none 0 0, .int .i64 1]) ∧ Touch [] w w' := by
  unfold ov
  go_enter Tryz.func56, Tryz.ntmps56
  go_wp2
  refine bodyPost_ret (v := .tuple #[.slice none 0 0, .int .i64 1]) (by simp [results, Tryz.results56, go_sem]) rfl ⟨rfl, ?_⟩
  repeat (first | exact Touch.refl _ _ | apply Touch.alloc | (refine Touch.setCell ?_ (Or.inr (by simp)) _))
theorem join13_nil (x : Int) : Calls Tryz.prog 43 #[.pointer none, .int .i64 x] w fun e w' => e = .returned (.int .i64 1) ∧ w' = w := by
  go_enter Tryz.func43, Tryz.ntmps43
  go_wp2
  refine bodyPost_ret (v := .int .i64 1) (by simp [results, Tryz.results43, go_sem]) rfl ⟨rfl, ?_⟩
  rfl
theorem release14_nil : Calls Tryz.prog 48 #[.pointer none] w fun e w' => e = .returned (.bool false) ∧ w' = w := by
  go_enter Tryz.func48, Tryz.ntmps48
  go_wp2
  refine bodyPost_ret (v := .bool false) (by simp [results, Tryz.results48, go_sem]) rfl ⟨rfl, ?_⟩
  rfl
theorem cancelled16_nil : Calls Tryz.prog 58 #[.pointer none] w fun e w' => e = .returned (.bool false) ∧ w' = w := by
  go_enter Tryz.func58, Tryz.ntmps58
  go_wp2
  refine bodyPost_ret (v := .bool false) (by simp [results, Tryz.results58, go_sem]) rfl ⟨rfl, ?_⟩
  rfl
theorem waiters18_nil : Calls Tryz.prog 57 #[.pointer none] w fun e w' => e = .returned (.slice none 0 0) ∧ w' = w := by
  go_enter Tryz.func57, Tryz.ntmps57
  go_wp2
  refine bodyPost_ret (v := .slice none 0 0) (by simp [results, Tryz.results57, go_sem]) rfl ⟨rfl, ?_⟩
  rfl
theorem clone20_nil : Calls Tryz.prog 54 #[.pointer none] w fun e w' => e = .returned (.pointer none) ∧ w' = w := by
  go_enter Tryz.func54, Tryz.ntmps54
  go_wp2
  refine bodyPost_ret (v := .pointer none) (by simp [results, Tryz.results54, go_sem]) rfl ⟨rfl, ?_⟩
  rfl
end
end Go.Proofs.YtpihhlllembdeaaGreat
