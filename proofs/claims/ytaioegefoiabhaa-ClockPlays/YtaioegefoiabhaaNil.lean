/- A nil clock, and the walk of the law of it. -/
import Derived.Test.YtaioegefoiabhaaAwk
namespace Go.Proofs.Ytaioegefoiabhaa
open Go.RowKit Go.Maps Go.ChangeMaps
set_option linter.unusedVariables false
section
variable (w : World) (t : Int)
theorem arm10_nil : Calls Try.prog 10 #[.pointer none, .int .i64 t] w fun e w' => e = .returned (.tuple #[.int .i64 0, .int .i64 1]) ∧ w' = w := by
  go_enter Try.func10, Try.ntmps10
  go_wp2
  exact bodyPost_ret (v := .tuple #[.int .i64 0, .int .i64 1]) (by simp [results, Try.results10, go_sem]) rfl ⟨rfl, rfl⟩
theorem in16_nil : Calls Try.prog 16 #[.pointer none, .int .i64 t] w fun e w' => e = .returned (.tuple #[.int .i64 0, .int .i64 1]) ∧ w' = w := by
  go_enter Try.func16, Try.ntmps16
  go_wp2
  exact bodyPost_ret (v := .tuple #[.int .i64 0, .int .i64 1]) (by simp [results, Try.results16, go_sem]) rfl ⟨rfl, rfl⟩
theorem advance11_nil : Calls Try.prog 11 #[.pointer none, .int .i64 t] w fun e w' => e = .returned (.tuple #[.slice none 0 0, .int .i64 1]) ∧ w' = w := by
  go_enter Try.func11, Try.ntmps11
  go_wp2
  exact bodyPost_ret (v := .tuple #[.slice none 0 0, .int .i64 1]) (by simp [results, Try.results11, go_sem]) rfl ⟨rfl, rfl⟩
theorem left19_nil : Calls Try.prog 19 #[.pointer none, .int .i64 t] w fun e w' => e = .returned (.tuple #[.int .i64 0, .bool false]) ∧ w' = w := by
  go_enter Try.func19, Try.ntmps19
  go_wp2
  exact bodyPost_ret (v := .tuple #[.int .i64 0, .bool false]) (by simp [results, Try.results19, go_sem]) rfl ⟨rfl, rfl⟩
theorem now14_nil : Calls Try.prog 14 #[.pointer none] w fun e w' => e = .returned (.int .i64 0) ∧ w' = w := by
  go_enter Try.func14, Try.ntmps14
  go_wp2
  go_ret
  exact ⟨rfl, rfl⟩
theorem stop20_nil : Calls Try.prog 20 #[.pointer none, .int .i64 t] w fun e w' => e = .returned (.bool false) ∧ w' = w := by
  go_enter Try.func20, Try.ntmps20
  go_wp2
  go_ret
  exact ⟨rfl, rfl⟩
theorem armed15_nil : Calls Try.prog 15 #[.pointer none] w fun e w' => e = .returned (.slice none 0 0) ∧ w' = w := by
  go_enter Try.func15, Try.ntmps15
  go_wp2
  go_ret
  exact ⟨rfl, rfl⟩
theorem clone9_nil : Calls Try.prog 9 #[.pointer none] w fun e w' => e = .returned (.pointer none) ∧ w' = w := by
  go_enter Try.func9, Try.ntmps9
  go_wp2
  go_ret
  exact ⟨rfl, rfl⟩
theorem next17_none : Calls Try.prog 17 #[.pointer none] w fun e w' => e = .returned (.tuple #[.agg #[.int .i64 0, .int .i64 0], .bool false]) ∧ Touch [] w w' := by
  go_enter Try.func17, Try.ntmps17
  go_wp2
  exact bodyPost_ret (v := .tuple #[.agg #[.int .i64 0, .int .i64 0], .bool false]) (by simp [results, Try.results17, go_sem]) rfl ⟨rfl, (Touch.refl _ _).alloc _⟩
theorem leap18_none : Calls Try.prog 18 #[.pointer none] w fun e w' => e = .returned (.tuple #[.slice none 0 0, .bool false]) ∧ Touch [] w w' := by
  have HN := hid (next17_none w)
  go_enter Try.func18, Try.ntmps18
  go_wp2_with (go_at_call 17; refine HN.out.mono ?_; rintro e w2 ⟨rfl, t2⟩)
  exact bodyPost_ret (v := .tuple #[.slice none 0 0, .bool false]) (by simp [results, Try.results18, go_sem]) rfl ⟨rfl, t2.alloc _⟩
end
/-- An act in a block of its own. -/
def Bx (w : World) (b : Nat) (k i t : Int) : Prop := w.heap[b]? = some (.cells #[.int .i64 k, .int .i64 i, .int .i64 t] 30 (0, 0))
theorem Bx.c0 {w : World} {b : Nat} {k i t : Int} (h : Bx w b k i t) : w.cell? ⟨b, 0, none⟩ = some (.int .i64 k) := by unfold Bx at h; simp [World.cell?, h]
theorem Bx.c1 {w : World} {b : Nat} {k i t : Int} (h : Bx w b k i t) : w.cell? ⟨b, 1, none⟩ = some (.int .i64 i) := by unfold Bx at h; simp [World.cell?, h]
theorem Bx.c2 {w : World} {b : Nat} {k i t : Int} (h : Bx w b k i t) : w.cell? ⟨b, 2, none⟩ = some (.int .i64 t) := by unfold Bx at h; simp [World.cell?, h]
theorem Bx.keep {F : List Nat} {w w' : World} {b : Nat} {k i t : Int} (h : Bx w b k i t) (ht : Touch F w w') (hn : ¬ b ∈ F) : Bx w' b k i t := ht.keep h hn
theorem Bx.keep0 {w w' : World} {b : Nat} {k i t : Int} (h : Bx w b k i t) (ht : Touch [] w w') : Bx w' b k i t := ht.keep h (fun e => by cases e)
theorem Bx.new (w : World) (k i t : Int) : Bx (w.alloc (.cells #[.int .i64 k, .int .i64 i, .int .i64 t] 30)) w.heap.size k i t := heap_alloc_new w _
set_option maxHeartbeats 2000000 in
theorem law5 (w : World) (k i t : Int) : Calls Try.prog 5 #[.agg #[.int .i64 k, .int .i64 i, .int .i64 t]] w fun e w' => e = .returned (.bool true) ∧ Touch [] w w' := by
  have B0 := hid (Bx.new w k i t)
  go_enter Try.func5, Try.ntmps5
  go_wp2_with (first
    | (go_at_call 10; refine (arm10_nil _ _).mono ?_; rintro e w1 ⟨rfl, rfl⟩)
    | (go_at_call 16; refine (in16_nil _ _).mono ?_; rintro e w1 ⟨rfl, rfl⟩)
    | (go_at_call 11; refine (advance11_nil _ _).mono ?_; rintro e w1 ⟨rfl, rfl⟩)
    | (go_at_call 17; refine (next17_none _).mono ?_; rintro e w2 ⟨rfl, t2⟩; have T2 := hid (((Touch.refl [] _).alloc _).trans' t2); have B2 := hid (B0.out.keep0 t2); clear t2)
    | (go_at_call 18; refine (leap18_none _).mono ?_; rintro e w3 ⟨rfl, t3⟩; have T3 := hid ((T2.out.alloc _).trans' t3); have B3 := hid ((B2.out.keep0 ((Touch.refl [] _).alloc _)).keep0 t3); have b31 := B3.out.c1; clear t3)
    | (go_at_call 19; refine (left19_nil _ _).mono ?_; rintro e w1 ⟨rfl, rfl⟩)
    | (go_at_call 8; refine (awake8 _).mono ?_; rintro e w4 ⟨rfl, t4⟩; have T4 := hid (T3.out.trans' t4); have B4 := hid (B3.out.keep0 t4); have b41 := B4.out.c1; clear t4)
    | (go_at_call 14; refine (now14_nil _).mono ?_; rintro e w1 ⟨rfl, rfl⟩)
    | (go_at_call 20; refine (stop20_nil _ _).mono ?_; rintro e w1 ⟨rfl, rfl⟩)
    | (go_at_call 15; refine (armed15_nil _).mono ?_; rintro e w1 ⟨rfl, rfl⟩)
    | (go_at_call 9; refine (clone9_nil _).mono ?_; rintro e w1 ⟨rfl, rfl⟩))
  go_ret
  exact ⟨rfl, T4.out⟩
end Go.Proofs.Ytaioegefoiabhaa
