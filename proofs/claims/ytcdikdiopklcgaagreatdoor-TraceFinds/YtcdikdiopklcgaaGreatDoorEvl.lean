/- Calls of a trace that is nil, and one that is new; no conditions but those that each states. -/
import Derived.Test.YtcdikdiopklcgaaGreatDoorEvk
import Derived.Test.YtcdikdiopklcgaaGreatDoorEvi
import Derived.Defers
import Derived.Recover
namespace Go.Proofs.YtcdikdiopklcgaaGreatDoor.Tr
open Go.RowKit Go.Sort Go.Shelf Go.Maps Go.ChangeMaps
set_option linter.unusedVariables false
set_option linter.unusedSimpArgs false
theorem makef (P : Program) (fn : Fn) (first cap : Array Value) (w : World) : (Instr.makeFunc fn first cap).run P w = .ok (.func fn first cap) w := rfl
theorem len_nil (w : World) : Calls Tryz.prog 42 #[.pointer none] w fun r w' => r = .returned (.int .i64 0) ∧ w' = w := by
  go_enter Tryz.func42, Tryz.ntmps42
  go_wp2
  go_ret
  exact ⟨rfl, rfl⟩
theorem at_nil (n : Int) (w : World) : Calls Tryz.prog 41 #[.pointer none, .int .i64 n] w fun r w' => r = .returned (.tuple #[e0.val, .bool false]) ∧ Touch [] w w' := by
  unfold Ez.val e0
  by_cases hn : n < 0
  · go_enter Tryz.func41, Tryz.ntmps41
    go_wp2
    exact bodyPost_ret (v := .tuple #[.agg #[.int .i64 0, .int .i64 0, .int .i64 0, .int .i64 0, .int .i64 0, .int .i64 0, .int .i64 0, .int .u16 0, .string ⟨#[]⟩, .int .i64 0, .int .i64 0, .int .i64 0, .int .i64 0], .bool false]) (by simp [results, Tryz.results41, go_sem]) rfl ⟨rfl, by repeat (first | exact Touch.refl _ _ | apply Touch.alloc)⟩
  · have hm : 0 ≤ n := by omega
    go_enter Tryz.func41, Tryz.ntmps41
    go_wp2_with fail
    refine (len_nil _).mono ?_
    rintro r w1 ⟨rfl, e1⟩
    rw [e1]
    clear e1 w1
    go_wp2_with fail
    exact bodyPost_ret (v := .tuple #[.agg #[.int .i64 0, .int .i64 0, .int .i64 0, .int .i64 0, .int .i64 0, .int .i64 0, .int .i64 0, .int .u16 0, .string ⟨#[]⟩, .int .i64 0, .int .i64 0, .int .i64 0, .int .i64 0], .bool false]) (by simp [results, Tryz.results41, go_sem]) rfl ⟨rfl, by repeat (first | exact Touch.refl _ _ | apply Touch.alloc)⟩
theorem each_nil (f : Value) (w : World) : Calls Tryz.prog 31 #[.pointer none, f] w fun r w' => r = .returned (.tuple #[]) ∧ w' = w := by
  go_enter Tryz.func31, Tryz.ntmps31
  go_wp2
  first | go_end0 | refine bodyPost_ret (results_none rfl _ _ _) rfl ?_
  exact ⟨rfl, rfl⟩
theorem eqfn (f : Fn) (a b : Array Value) (w : World) : (binOp .eql 72 (.func f a b) .nilFunc).run Tryz.prog w = .ok (.bool false) w := by
  kernel_rfl
theorem new_ (w : World) : Calls Tryz.prog 18 #[] w fun r w' => r = .returned (PT w.heap.size) ∧ w' = w.alloc (.cells #[.slice none 0 0] 79) := by
  unfold PT
  go_enter Tryz.func18, Tryz.ntmps18
  go_wp2
  go_ret
  exact ⟨rfl, rfl⟩
theorem len_new (b : Nat) (w : World) (h : w.cell? ⟨b, 0, none⟩ = some (.slice none 0 0)) : Calls Tryz.prog 42 #[PT b] w fun r w' => r = .returned (.int .i64 0) ∧ w' = w := by
  unfold PT
  go_enter Tryz.func42, Tryz.ntmps42
  go_wp2
  go_ret
  exact ⟨rfl, rfl⟩
theorem add_nil (e : Ez) (w : World) (hk : Tk w) (hs : e.nm.size ≤ maxLen) : Calls Tryz.prog 20 #[.pointer none, e.val] w fun r w' => r = .returned (.int .i64 (if chkE e then 3 else 240)) ∧ Touch [] w w' := by
  have H1 : Hid (∀ w', Touch [] w w' → Calls Tryz.prog 40 #[e.val] w' fun r w'' => r = .returned (.int .i64 (chkN e)) ∧ Touch [] w' w'') := fun w' t => check_ e w' (hk.touch t) hs
  have HE : Hid (chkN e = if chkE e then 0 else 240) := rfl
  clear hk hs
  generalize chkN e = V at *
  generalize chkE e = b at *
  unfold Ez.val at *
  cases b with
  | true =>
    have hV : V = 0 := HE.out
    subst hV
    go_enter Tryz.func20, Tryz.ntmps20
    go_wp2_with fail
    refine (H1.out _ ((Touch.refl [] w).alloc _)).mono ?_
    rintro r w1 ⟨rfl, t1⟩
    have T1 : Hid (Touch [] w w1) := ((Touch.refl [] w).alloc _).trans' t1
    clear t1
    go_wp2_with fail
    go_ret
    exact ⟨rfl, T1.out⟩
  | false =>
    have hV : V = 240 := HE.out
    subst hV
    go_enter Tryz.func20, Tryz.ntmps20
    go_wp2_with fail
    refine (H1.out _ ((Touch.refl [] w).alloc _)).mono ?_
    rintro r w1 ⟨rfl, t1⟩
    have T1 : Hid (Touch [] w w1) := ((Touch.refl [] w).alloc _).trans' t1
    clear t1
    go_wp2_with fail
    go_ret
    exact ⟨rfl, T1.out⟩
theorem where_nil (fn : Fn) (fa fb : Array Value) (w : World) : Calls Tryz.prog 24 #[.pointer none, .func fn fa fb] w fun r w' => r = .returned (.slice none 0 0) ∧ Touch [] w w' := by
  have hmf := makef Tryz.prog
  have HE : Hid _ := fun f w' => each_nil f w'
  go_enter Tryz.func24, Tryz.ntmps24
  go_wp2_with fail
  refine (HE.out _ _).mono ?_
  rintro r w1 ⟨rfl, e1⟩
  rw [e1]
  clear e1 w1
  go_wp2_with fail
  go_ret
  exact ⟨rfl, by repeat (first | exact Touch.refl _ _ | apply Touch.alloc)⟩
end Go.Proofs.YtcdikdiopklcgaaGreatDoor.Tr
