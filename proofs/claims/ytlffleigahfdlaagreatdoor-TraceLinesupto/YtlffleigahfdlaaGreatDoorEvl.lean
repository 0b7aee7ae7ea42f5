/- Calls of a trace that is nil, and one that is new; no conditions but those that each states. -/
import Derived.Test.YtlffleigahfdlaaGreatDoorEvk
import Derived.Test.YtlffleigahfdlaaGreatDoorEvi
import Derived.Defers
import Derived.Recover
namespace Go.Proofs.YtlffleigahfdlaaGreatDoor.Tr
open Go.RowKit Go.Sort Go.Shelf Go.Maps Go.ChangeMaps
set_option linter.unusedVariables false
set_option linter.unusedSimpArgs false
theorem makef (P : Program) (fn : Fn) (first cap : Array Value) (w : World) : (Instr.makeFunc fn first cap).run P w = .ok (.func fn first cap) w := rfl
theorem len_nil (w : World) : Calls Tryz.prog 16 #[.pointer none] w fun r w' => r = .returned (.int .i64 0) ∧ w' = w := by
  go_enter Tryz.func16, Tryz.ntmps16
  go_wp2
  go_ret
  exact ⟨rfl, rfl⟩
theorem all_nil (w : World) : Calls Tryz.prog 17 #[.pointer none] w fun r w' => r = .returned (.slice none 0 0) ∧ w' = w := by
  go_enter Tryz.func17, Tryz.ntmps17
  go_wp2
  go_ret
  exact ⟨rfl, rfl⟩
theorem at_nil (n : Int) (w : World) : Calls Tryz.prog 18 #[.pointer none, .int .i64 n] w fun r w' => r = .returned (.tuple #[e0.val, .bool false]) ∧ Touch [] w w' := by
  unfold Ez.val e0
  by_cases hn : n < 0
  · go_enter Tryz.func18, Tryz.ntmps18
    go_wp2
    exact bodyPost_ret (v := .tuple #[.agg #[.int .i64 0, .int .i64 0, .int .i64 0, .int .i64 0, .int .i64 0, .int .i64 0, .int .i64 0, .int .u16 0, .string ⟨#[]⟩, .int .i64 0, .int .i64 0, .int .i64 0, .int .i64 0], .bool false]) (by simp [results, Tryz.results18, go_sem]) rfl ⟨rfl, by repeat (first | exact Touch.refl _ _ | apply Touch.alloc)⟩
  · have hm : 0 ≤ n := by omega
    go_enter Tryz.func18, Tryz.ntmps18
    go_wp2_with fail
    refine (len_nil _).mono ?_
    rintro r w1 ⟨rfl, e1⟩
    rw [e1]
    clear e1 w1
    go_wp2_with fail
    exact bodyPost_ret (v := .tuple #[.agg #[.int .i64 0, .int .i64 0, .int .i64 0, .int .i64 0, .int .i64 0, .int .i64 0, .int .i64 0, .int .u16 0, .string ⟨#[]⟩, .int .i64 0, .int .i64 0, .int .i64 0, .int .i64 0], .bool false]) (by simp [results, Tryz.results18, go_sem]) rfl ⟨rfl, by repeat (first | exact Touch.refl _ _ | apply Touch.alloc)⟩
theorem each_nil (f : Value) (w : World) : Calls Tryz.prog 55 #[.pointer none, f] w fun r w' => r = .returned (.tuple #[]) ∧ w' = w := by
  go_enter Tryz.func55, Tryz.ntmps55
  go_wp2
  first | go_end0 | refine bodyPost_ret (results_none rfl _ _ _) rfl ?_
  exact ⟨rfl, rfl⟩
theorem catch_idle (w : World) : CallsD Tryz.prog 54 #[] .returning w fun e u' w' => e = .returned (.tuple #[]) ∧ u' = .returning ∧ w' = w := by
  refine callsD_of_wpS Tryz.func54 rfl fun c₀ cs hu => ?_
  apply wpS_region
  simp [wpOpsS, go_sem, recoverD, hu, Tryz.ntmps54, Exit.thenS]
  cases c₀
  simp_all [bodyPostS, results, Tryz.results54]
theorem eqfn (f : Fn) (a b : Array Value) (w : World) : (binOp .eql 58 (.func f a b) .nilFunc).run Tryz.prog w = .ok (.bool false) w := by
  kernel_rfl
set_option maxRecDepth 20000 in
theorem Each_nil (w : World) : Calls Tryz.prog 19 #[.pointer none, .func (.func 30) #[] #[]] w fun r w' => r = .returned (.tuple #[]) ∧ w' = w := by
  have HE : Hid _ := fun w' => each_nil (.func (.func 30) #[] #[]) w'
  have hq := fun w' => eqfn (.func 30) #[] #[] w'
  go_enter_defers Tryz.func19, Tryz.ntmps19
  go_wp2_with fail
  refine (HE.out _).mono ?_
  rintro r w1 ⟨rfl, e1⟩
  rw [e1]
  clear e1 w1
  go_wp2_with fail
  refine leaves_cons (f := 54) (args := #[]) (by simp) (by simp [go_sem]) ?_
  refine (catch_idle _).mono ?_
  rintro e u' w'' ⟨rfl, rfl, rfl⟩
  simp [Leaves, settle, results, Tryz.results19, go_sem]
theorem new_ (w : World) : Calls Tryz.prog 27 #[] w fun r w' => r = .returned (PT w.heap.size) ∧ w' = w.alloc (.cells #[.slice none 0 0] 100) := by
  unfold PT
  go_enter Tryz.func27, Tryz.ntmps27
  go_wp2
  go_ret
  exact ⟨rfl, rfl⟩
theorem len_new (b : Nat) (w : World) (h : w.cell? ⟨b, 0, none⟩ = some (.slice none 0 0)) : Calls Tryz.prog 16 #[PT b] w fun r w' => r = .returned (.int .i64 0) ∧ w' = w := by
  unfold PT
  go_enter Tryz.func16, Tryz.ntmps16
  go_wp2
  go_ret
  exact ⟨rfl, rfl⟩
theorem differ_nil (b : Nat) (w : World) (h : w.cell? ⟨b, 0, none⟩ = some (.slice none 0 0)) : Calls Tryz.prog 25 #[.pointer none, PT b] w fun r w' => r = .returned (.tuple #[.int .i64 0, .bool false]) ∧ w' = w := by
  have H1 : Hid _ := len_new b w h
  unfold PT at *
  clear h
  go_enter Tryz.func25, Tryz.ntmps25
  go_wp2_with fail
  refine (len_nil _).mono ?_
  rintro r w1 ⟨rfl, e1⟩
  rw [e1]
  clear e1 w1
  go_wp2_with fail
  refine Calls.mono H1.out ?_
  rintro r w1 ⟨rfl, e1⟩
  rw [e1]
  clear e1 w1
  go_wp2_with fail
  go_loopw [16] (fun i wr => i = .int .i64 0 ∧ wr = w) (fun _ _ => 0)
  case atStart => exact ⟨rfl, rfl⟩
  case round =>
    obtain ⟨rfl, rfl⟩ := hrel
    go_wp2_with fail
    go_ret2
    exact ⟨rfl, rfl⟩
theorem add_nil (e : Ez) (w : World) (hk : Tk w) (hs : e.nm.size ≤ maxLen) : Calls Tryz.prog 28 #[.pointer none, e.val] w fun r w' => r = .returned (.int .i64 (if chkE e then 3 else 240)) ∧ Touch [] w w' := by
  have H1 : Hid (∀ w', Touch [] w w' → Calls Tryz.prog 12 #[e.val] w' fun r w'' => r = .returned (.int .i64 (chkN e)) ∧ Touch [] w' w'') := fun w' t => check_ e w' (hk.touch t) hs
  have HE : Hid (chkN e = if chkE e then 0 else 240) := rfl
  clear hk hs
  generalize chkN e = V at *
  generalize chkE e = b at *
  unfold Ez.val at *
  cases b with
  | true =>
    have hV : V = 0 := HE.out
    subst hV
    go_enter Tryz.func28, Tryz.ntmps28
    go_wp2_with fail
    refine (H1.out _ ((Touch.refl [] w).alloc _)).mono ?_
    rintro r w1 ⟨rfl, t1⟩
    have T1 : Hid (Touch [] w w1) := ((Touch.refl [] w).alloc _).trans' t1
    clear t1
    go_wp2_with fail
    go_ret
    exact ⟨rfl, T1.out⟩
  | false =>
    have hV : V = 240 := HE.out
    subst hV
    go_enter Tryz.func28, Tryz.ntmps28
    go_wp2_with fail
    refine (H1.out _ ((Touch.refl [] w).alloc _)).mono ?_
    rintro r w1 ⟨rfl, t1⟩
    have T1 : Hid (Touch [] w w1) := ((Touch.refl [] w).alloc _).trans' t1
    clear t1
    go_wp2_with fail
    go_ret
    exact ⟨rfl, T1.out⟩
theorem where_nil (fn : Fn) (fa fb : Array Value) (w : World) : Calls Tryz.prog 62 #[.pointer none, .func fn fa fb] w fun r w' => r = .returned (.slice none 0 0) ∧ Touch [] w w' := by
  have hmf := makef Tryz.prog
  have HE : Hid _ := fun f w' => each_nil f w'
  go_enter Tryz.func62, Tryz.ntmps62
  go_wp2_with fail
  refine (HE.out _ _).mono ?_
  rintro r w1 ⟨rfl, e1⟩
  rw [e1]
  clear e1 w1
  go_wp2_with fail
  go_ret
  exact ⟨rfl, by repeat (first | exact Touch.refl _ _ | apply Touch.alloc)⟩
end Go.Proofs.YtlffleigahfdlaaGreatDoor.Tr
