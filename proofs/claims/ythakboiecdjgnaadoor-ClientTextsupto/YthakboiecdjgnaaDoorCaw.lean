/- A program's text at one program, and a client of it: what each law asks first; the condition is that the table holds what the start lays. -/
import Derived.Test.YthakboiecdjgnaaDoorCkd
import Derived.Test.YthakboiecdjgnaaDoorCbd
import Derived.Test.YthakboiecdjgnaaDoorShl
namespace Go.Proofs.YthakboiecdjgnaaDoor.Ci
open Go.RowKit Go.Maps Go.ChangeMaps
set_option linter.unusedVariables false
theorem named_ (l g : Int) (w : World) : Calls Tryd.prog 51 #[.agg #[.int .i64 l, .int .i64 g]] w fun e w' => e = .returned (.bool (decide (0 < g))) ∧ Touch [] w w' := by
  generalize hR : decide (0 < g) = R
  have HD : Hid (decide (0 < g) = R) := hR
  clear hR
  go_enter Tryd.func51, Tryd.ntmps51
  go_wp2
  go_ret
  exact ⟨by rw [← HD.out]; rfl, (Touch.refl [] _).alloc _⟩
theorem five : (⟨(Lib.decDigits 5).toArray⟩ : ByteArray) = ⟨#[53]⟩ := by
  rw [show Lib.decDigits 5 = [53] by rw [Lib.decDigits]; simp]
theorem line8_ (w : World) (hk : Kd w) :
    Calls Tryd.prog 33 #[.agg #[.int .i64 8, .int .u16 0, .string ⟨#[]⟩, .int .i64 5, .int .i64 0]] w fun e w' => e = .returned (.string ⟨#[115, 108, 101, 101, 112, 32, 53]⟩) ∧ Touch [] w w' := by
  have T1 : Touch [] w (w.alloc (.cells #[.int .i64 8, .int .u16 0, .string ⟨#[]⟩, .int .i64 5, .int .i64 0] 47)) := (Touch.refl [] w).alloc _
  have c0 : _ = some (Value.string ⟨#[115, 108, 101, 101, 112]⟩) := tcell T1 (hk.word 8 (by omega))
  have c1 : _ = some (Value.bool false) := tcell T1 (hk.key 8 (by omega))
  have c2 : _ = some (Value.int .i64 0) := tcell T1 (hk.nl 8 (by omega))
  have c3 : _ = some (Value.int .i64 4611686018427387904) := tcell T1 (hk.nh 8 (by omega))
  have c4 : _ = some (Value.int .i64 0) := tcell T1 (hk.sl 8 (by omega))
  have c5 : _ = some (Value.int .i64 0) := tcell T1 (hk.sh 8 (by omega))
  clear hk T1
  have HA : Hid (∀ w', Calls Tryd.prog 51 #[.agg #[.int .i64 0, .int .i64 4611686018427387904]] w' fun e w'' => e = .returned (.bool true) ∧ Touch [] w' w'') := fun w' => (named_ 0 4611686018427387904 w').mono fun e w'' ⟨he, t⟩ => ⟨he, t⟩
  have HB : Hid (∀ w', Calls Tryd.prog 51 #[.agg #[.int .i64 0, .int .i64 0]] w' fun e w'' => e = .returned (.bool false) ∧ Touch [] w' w'') := fun w' => (named_ 0 0 w').mono fun e w'' ⟨he, t⟩ => ⟨he, t⟩
  have HC : Hid (∀ w', Calls Tryd.prog 52 #[.int .i64 5, .int .i64 10] w' fun e w'' => e = .returned (.string ⟨#[53]⟩) ∧ w'' = w') := fun w' => (Tryd.strconv_FormatInt_10_small 5 (by omega) w').mono fun e w'' ⟨he, t⟩ => ⟨by rw [he, five], t⟩
  go_enter Tryd.func33, Tryd.ntmps33
  go_wp2_with fail
  refine (HA.out _).mono ?_
  rintro e w1 ⟨rfl, t1⟩
  have q3 : w1.cell? ⟨w.heap.size, 3, none⟩ = some (.int .i64 5) := tcell t1 (by simp)
  have r4 : w1.cell? ⟨w.heap.size + 1, 4, none⟩ = some (.int .i64 0) := tcell t1 (by simp)
  have r5 : w1.cell? ⟨w.heap.size + 1, 5, none⟩ = some (.int .i64 0) := tcell t1 (by simp)
  have T : Hid (Touch [] w w1) := (((Touch.refl [] w).alloc _).alloc _).trans' t1
  clear t1 c0 c1 c2 c3 c4 c5
  go_wp2_with fail
  refine (HC.out _).mono ?_
  rintro e w2 ⟨rfl, e2⟩
  rw [e2]
  clear e2 w2
  go_wp2_with fail
  refine (HB.out _).mono ?_
  rintro e w3 ⟨rfl, t3⟩
  go_wp2_with fail
  go_ret
  exact ⟨rfl, T.out.trans' t3⟩
end Go.Proofs.YthakboiecdjgnaaDoor.Ci
