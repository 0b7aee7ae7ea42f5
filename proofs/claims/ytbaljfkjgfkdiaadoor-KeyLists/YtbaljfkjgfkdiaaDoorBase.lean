/- The plain contracts of this program's small functions on keys, and what it means that a call lays new blocks alone; no conditions but those that each states. -/
import Derived.Test.YtbaljfkjgfkdiaaDoorShelf
import Derived.WalkKit
import Derived.ProofKit
import Derived.Shelf.SlSortCmp.QuietGrown
import Derived.BigQuiet
namespace Go.Proofs.YtbaljfkjgfkdiaaDoor
open Go.RowKit Go.Sort
set_option linter.unusedVariables false

def Gr (w w' : World) : Prop := ∃ q os, w' = grow (w.drewN q) os
theorem Gr.refl (w : World) : Gr w w := ⟨0, #[], by rw [grow_empty]; rfl⟩
theorem Gr.alloc {w w' : World} (h : Gr w w') (o : Obj) : Gr w (w'.alloc o) := by
  obtain ⟨q, os, rfl⟩ := h
  exact ⟨q, os ++ #[o], by rw [alloc_eq_grow, grow_grow]⟩
theorem Gr.grow {w w' : World} (h : Gr w w') (n : Nat) (os' : Array Obj) : Gr w (grow (w'.drewN n) os') := by
  obtain ⟨q, os, rfl⟩ := h
  exact ⟨q + n, os ++ os', by show Sort.grow (Sort.grow ((w.drewN q).drewN n) os) os' = _; rw [grow_grow, World.drewN_drewN]⟩
theorem Gr.drewN {w w' : World} (h : Gr w w') (n : Nat) : Gr w (w'.drewN n) := by
  have := h.grow n #[]
  rwa [grow_empty] at this
theorem Gr.drew {w w' : World} (h : Gr w w') : Gr w w'.drew := h.drewN 1
theorem Gr.trans {a b c : World} (h : Gr a b) (k : Gr b c) : Gr a c := by
  obtain ⟨q, os, rfl⟩ := k
  exact h.grow q os
theorem Gr.below {w w' : World} (h : Gr w w') : Below w.heap.size w w' := by
  obtain ⟨q, os, rfl⟩ := h
  exact ⟨rfl, rfl, rfl, by rw [size_grow]; exact Nat.le_add_right _ _, fun k hk => heap_grow_old _ _ hk⟩

theorem given12 (a : Int) (s : ByteArray) (w : World) :
    Calls Tryd.prog 12 #[.agg #[.int .u16 a, .string s]] w fun e w' => e = .returned (.agg #[.int .u16 a, .string s]) ∧ Gr w w' := by
  go_enter Tryd.func12, Tryd.ntmps12
  go_wp2
  exact bodyPost_ret (v := .agg #[.int .u16 a, .string s]) (by simp [results, Tryd.results12, go_sem]) rfl ⟨rfl, by
    repeat (first | exact Gr.refl _ | apply Gr.alloc | apply Gr.drew)⟩

theorem check13_ok (a : Int) (s : ByteArray) (w : World) (h : s.size ≤ 64) :
    Calls Tryd.prog 13 #[.agg #[.int .u16 a, .string s]] w fun e w' => e = .returned (.int .i64 0) ∧ Gr w w' := by
  go_enter Tryd.func13, Tryd.ntmps13
  go_wp2
  go_ret
  exact ⟨rfl, (Gr.refl _).alloc _⟩
theorem check13_no (a : Int) (s : ByteArray) (w : World) (h : 64 < s.size) :
    Calls Tryd.prog 13 #[.agg #[.int .u16 a, .string s]] w fun e w' => e = .returned (.int .i64 20) ∧ Gr w w' := by
  have h' : (64 : Int) < (s.size : Int) := by omega
  go_enter Tryd.func13, Tryd.ntmps13
  go_wp2
  go_ret
  exact ⟨rfl, (Gr.refl _).alloc _⟩

def cmpI (a b : Int) : Int := if a < b then -1 else if b < a then 1 else 0
theorem cmp42 (a b : Int) (w : World) : Calls Tryd.prog 42 #[.int .u16 a, .int .u16 b] w fun e w' => e = .returned (.int .i64 (cmpI a b)) ∧ w' = w := by
  rcases Int.lt_trichotomy a b with h | h | h
  · go_enter Tryd.func42, Tryd.ntmps42
    go_wp2
    go_ret
    exact ⟨by simp [cmpI, h], rfl⟩
  · subst h
    go_enter Tryd.func42, Tryd.ntmps42
    go_wp2
    go_ret
    exact ⟨by simp [cmpI], rfl⟩
  · have h' : ¬ a < b := by omega
    go_enter Tryd.func42, Tryd.ntmps42
    go_wp2
    go_ret
    exact ⟨by simp [cmpI, h, h'], rfl⟩

def cmpK (a : Int) (s : ByteArray) (b : Int) (t : ByteArray) : Int := if a < b then -1 else if b < a then 1 else Lib.compareBytes s.data.toList t.data.toList
theorem compare31 (a b : Int) (s t : ByteArray) (w : World) :
    Calls Tryd.prog 31 #[.agg #[.int .u16 a, .string s], .agg #[.int .u16 b, .string t]] w fun e w' => e = .returned (.int .i64 (cmpK a s b t)) ∧ Gr w w' := by
  rcases Int.lt_trichotomy a b with h | h | h
  · have hc : cmpI a b = -1 := by simp [cmpI, h]
    go_enter Tryd.func31, Tryd.ntmps31
    go_wp2_with (go_at_call 42; refine (cmp42 _ _ _).mono ?_; rintro e w' ⟨rfl, rfl⟩)
    go_ret
    exact ⟨by simp [cmpK, h], ((Gr.refl _).alloc _).alloc _⟩
  · subst h
    have hc : cmpI a a = 0 := by simp [cmpI]
    go_enter Tryd.func31, Tryd.ntmps31
    go_wp2_with (first | (go_at_call 42; refine (cmp42 _ _ _).mono ?_; rintro e w' ⟨rfl, rfl⟩) | (go_at_call 43; refine (Tryd.strings_Compare _ _ _).mono ?_; rintro e w' ⟨rfl, rfl⟩))
    go_ret
    exact ⟨by simp [cmpK], ((Gr.refl _).alloc _).alloc _⟩
  · have h' : ¬ a < b := by omega
    have hc : cmpI a b = 1 := by simp [cmpI, h, h']
    go_enter Tryd.func31, Tryd.ntmps31
    go_wp2_with (go_at_call 42; refine (cmp42 _ _ _).mono ?_; rintro e w' ⟨rfl, rfl⟩)
    go_ret
    exact ⟨by simp [cmpK, h, h'], ((Gr.refl _).alloc _).alloc _⟩
end Go.Proofs.YtbaljfkjgfkdiaaDoor
