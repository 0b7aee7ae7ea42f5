/- Runs and keys of a trace that is nil: what is sorted, made compact and gathered there is nothing; no conditions. -/
import Derived.Test.YtlhieohjabbgdaaGreatDoorREvn
namespace Go.Proofs.YtlhieohjabbgdaaGreatDoorR.Tr
open Go.RowKit Go.Sort Go.Shelf Go.Maps Go.ChangeMaps
set_option linter.unusedVariables false
set_option linter.unusedSimpArgs false
theorem pdq_nil (k : Int) (w : World) : Calls Tryz.prog 95 #[.slice none 0 0, .int .i64 0, .int .i64 0, .int .i64 k] w fun r w' => r = .returned (.tuple #[]) ∧ w' = w := by
  have HI : Hid _ := fun w' => ins_nil w'
  go_enter Tryz.func95, Tryz.ntmps95
  go_wp2_with fail
  go_loopw [1, 2] (fun x y wr => x = .int .i64 0 ∧ y = .int .i64 0 ∧ wr = w) (fun _ _ _ => 0)
  case atStart => exact ⟨rfl, rfl, rfl⟩
  case round =>
    obtain ⟨rfl, rfl, rfl⟩ := hrel
    go_wp2_with fail
    refine (HI.out _).mono ?_
    rintro r w1 ⟨rfl, e1⟩
    rw [e1]
    clear e1 w1
    go_wp2_with fail
    first | go_end0 | refine bodyPost_ret (results_none rfl _ _ _) rfl ?_
    exact ⟨rfl, rfl⟩
theorem sort_nil (w : World) : Calls Tryz.prog 70 #[.slice none 0 0] w fun r w' => r = .returned (.tuple #[]) ∧ Touch [] w w' := by
  have HL : Hid _ := fun w' => len32_0 w'
  have HI : Hid _ := fun k w' => pdq_nil k w'
  go_enter Tryz.func70, Tryz.ntmps70
  go_wp2_with fail
  refine (HL.out _).mono ?_
  rintro r w1 ⟨⟨n, rfl⟩, t1⟩
  have T1 : Hid (Touch [] w w1) := t1
  clear t1
  go_wp2_with fail
  refine (HI.out _ _).mono ?_
  rintro r w2 ⟨rfl, e2⟩
  rw [e2]
  clear e2 w2
  go_wp2_with fail
  go_end0
  exact ⟨rfl, T1.out⟩
theorem compact_nil (w : World) : Calls Tryz.prog 71 #[.slice none 0 0] w fun r w' => r = .returned (.slice none 0 0) ∧ w' = w := by
  go_enter Tryz.func71, Tryz.ntmps71
  go_wp2
  go_ret
  exact ⟨rfl, rfl⟩
theorem runs_nil (w : World) : Calls Tryz.prog 36 #[.pointer none] w fun r w' => r = .returned (.slice none 0 0) ∧ Touch [] w w' := by
  have hmf := makef Tryz.prog
  have HE : Hid _ := fun f w' => each_nil f w'
  have HS : Hid _ := fun w' => sort_nil w'
  have HC : Hid _ := fun w' => compact_nil w'
  have HB : Hid (∀ w', Touch [] (w.alloc (.cells #[.slice none 0 0] 56)) w' → w'.cell? ⟨w.heap.size, 0, none⟩ = some (.slice none 0 0)) := fun w' t => tcell t (by simp)
  go_enter Tryz.func36, Tryz.ntmps36
  go_wp2_with fail
  refine (HE.out _ _).mono ?_
  rintro r w1 ⟨rfl, e1⟩
  rw [e1]
  clear e1 w1
  go_wp2_with fail
  refine (HS.out _).mono ?_
  rintro r w2 ⟨rfl, t2⟩
  have c2 := HB.out _ t2
  have T2 : Hid (Touch [] w w2) := ((Touch.refl [] w).alloc _).trans' t2
  clear t2
  go_wp2_with fail
  refine (HC.out _).mono ?_
  rintro r w3 ⟨rfl, e3⟩
  rw [e3]
  clear e3 w3
  go_wp2_with fail
  go_ret
  exact ⟨rfl, T2.out⟩
theorem insK_nil (v F : Value) (w : World) : Calls Tryz.prog 152 #[v, .int .i64 0, .int .i64 0, F] w fun e w' => e = .returned (.tuple #[]) ∧ w' = w := by
  go_enter Tryz.func152, Tryz.ntmps152
  go_wp2
  go_loopw [8] (fun x wr => x = .int .i64 1 ∧ wr = w) (fun _ _ => 0)
  case atStart => exact ⟨rfl, rfl⟩
  case round =>
    obtain ⟨rfl, rfl⟩ := hrel
    go_wp2
    go_end0
    exact ⟨rfl, rfl⟩
theorem stableK_nil (v F : Value) (w : World) : Calls Tryz.prog 127 #[v, .int .i64 0, F] w fun e w' => e = .returned (.tuple #[]) ∧ w' = w := by
  go_enter Tryz.func127, Tryz.ntmps127
  go_wp2
  go_loopw [7, 8] (fun x y wr => x = .int .i64 0 ∧ y = .int .i64 20 ∧ wr = w) (fun _ _ _ => 0)
  case atStart => exact ⟨rfl, rfl, rfl⟩
  case round =>
    obtain ⟨rfl, rfl, hwr⟩ := hrel
    rw [hwr]
    clear hwr
    go_wp2_with fail
    refine Calls.mono (insK_nil _ _ _) ?_
    rintro e w1 ⟨rfl, hw1⟩
    obtain ⟨wo, hwo⟩ : ∃ wo, wo = w := ⟨_, rfl⟩
    go_wp2
    go_loopw [6] (fun x wr => x = .int .i64 20 ∧ wr = wo) (fun _ _ => 0)
    case atStart => exact ⟨rfl, hwo.symm⟩
    case round =>
      obtain ⟨rfl, hr⟩ := hrel
      go_wp2
      go_end0
      exact ⟨rfl, rfl⟩
theorem sortK_nil (a : Option Addr) (cap : Nat) (F : Value) (w : World) : Calls Tryz.prog 97 #[.slice a 0 cap, F] w fun e w' => e = .returned (.tuple #[]) ∧ w' = w := by
  go_enter Tryz.func97, Tryz.ntmps97
  go_wp2_with fail
  refine Calls.mono (stableK_nil _ _ _) ?_
  rintro e w1 ⟨rfl, rfl⟩
  go_wp2
  go_end0
  exact ⟨rfl, rfl⟩
theorem ksorted_nil (w : World) : Calls Tryz.prog 73 #[.slice none 0 0] w fun r w' => r = .returned (.slice none 0 0) ∧ w' = w := by
  have HS : Hid _ := fun F w' => sortK_nil none 0 F w'
  go_enter Tryz.func73, Tryz.ntmps73
  go_wp2_with fail
  refine (HS.out _ _).mono ?_
  rintro r w1 ⟨rfl, e1⟩
  rw [e1]
  clear e1 w1
  go_wp2_with fail
  go_ret
  exact ⟨rfl, rfl⟩
theorem gather_nil (w : World) : Calls Tryz.prog 99 #[.slice none 0 0] w fun r w' => r = .returned (.tuple #[.slice none 0 0, .slice none 0 0]) ∧ Touch [] w w' := by
  have hmm := @run_makeMap Tryz.prog
  go_enter Tryz.func99, Tryz.ntmps99
  go_wp2
  clear hmm
  obtain ⟨w0, hw0⟩ : ∃ w0, w0 = w.alloc (.map #[] 0) := ⟨_, rfl⟩
  have HT : Hid (Touch [] w w0) := by show Touch [] w w0; rw [hw0]; exact (Touch.refl [] w).alloc _
  rw [← hw0]
  clear hw0
  go_loopw [4, 5, 14] (fun y z x wr => y = .slice none 0 0 ∧ z = .slice none 0 0 ∧ x = .int .i64 0 ∧ wr = w0) (fun _ _ _ _ => 0)
  case atStart => exact ⟨rfl, rfl, rfl, rfl⟩
  case round =>
    obtain ⟨rfl, rfl, rfl, rfl⟩ := hrel
    go_wp2
    go_ret2
    exact ⟨rfl, HT.out⟩
theorem unlike_nil (w : World) : Calls Tryz.prog 74 #[.slice none 0 0] w fun r w' => r = .returned (.slice none 0 0) ∧ Touch [] w w' := by
  have HS : Hid _ := fun w' => gather_nil w'
  go_enter Tryz.func74, Tryz.ntmps74
  go_wp2_with fail
  refine (HS.out _).mono ?_
  rintro r w1 ⟨rfl, t1⟩
  go_wp2_with fail
  go_ret
  exact ⟨rfl, t1⟩
theorem keys_nil (w : World) : Calls Tryz.prog 37 #[.pointer none] w fun r w' => r = .returned (.slice none 0 0) ∧ Touch [] w w' := by
  have hmf := makef Tryz.prog
  have HE : Hid _ := fun f w' => each_nil f w'
  have HU : Hid _ := fun w' => unlike_nil w'
  have HS : Hid _ := fun w' => ksorted_nil w'
  go_enter Tryz.func37, Tryz.ntmps37
  go_wp2_with fail
  refine (HE.out _ _).mono ?_
  rintro r w1 ⟨rfl, e1⟩
  rw [e1]
  clear e1 w1
  go_wp2_with fail
  refine (HU.out _).mono ?_
  rintro r w2 ⟨rfl, t2⟩
  have T2 : Hid (Touch [] w w2) := ((Touch.refl [] w).alloc _).trans' t2
  clear t2
  go_wp2_with fail
  refine (HS.out _).mono ?_
  rintro r w3 ⟨rfl, e3⟩
  rw [e3]
  clear e3 w3
  go_wp2_with fail
  go_ret
  exact ⟨rfl, T2.out⟩
end Go.Proofs.YtlhieohjabbgdaaGreatDoorR.Tr
