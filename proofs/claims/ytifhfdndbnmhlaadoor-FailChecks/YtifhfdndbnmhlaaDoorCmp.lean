/- The contracts of the program's and the document's order of failures, and of their questions whether an outcome may be; no conditions. -/
import Derived.Test.YtifhfdndbnmhlaaDoorMay
import Derived.Test.YtifhfdndbnmhlaaDoorShelf
import Derived.Deep.RegionWith
import Derived.Deep.RegionHeld3
namespace Go.Proofs.YtifhfdndbnmhlaaDoor
open Go.RowKit Go.Sort
set_option linter.unusedVariables false

def cmpI (a b : Int) : Int := if a < b then -1 else if b < a then 1 else 0
def cmpF (k c r k' c' r' : Int) : Int := if cmpI k k' ≠ 0 then cmpI k k' else if cmpI r r' ≠ 0 then cmpI r r' else cmpI c c'
theorem less31 (a b : Int) (w : World) : Calls Tryd.prog 31 #[.int .i64 a, .int .i64 b] w fun e w' => e = .returned (.int .i64 (cmpI a b)) ∧ w' = w := by
  rcases Int.lt_trichotomy a b with h | h | h
  · go_enter Tryd.func31, Tryd.ntmps31
    go_wp2
    go_ret
    exact ⟨by simp [cmpI, h], rfl⟩
  · subst h
    go_enter Tryd.func31, Tryd.ntmps31
    go_wp2
    go_ret
    exact ⟨by simp [cmpI], rfl⟩
  · have h' : ¬ a < b := by omega
    go_enter Tryd.func31, Tryd.ntmps31
    go_wp2
    go_ret
    exact ⟨by simp [cmpI, h, h'], rfl⟩
theorem cmp30 (a b : Int) (w : World) : Calls Tryd.prog 30 #[.int .i64 a, .int .i64 b] w fun e w' => e = .returned (.int .i64 (cmpI a b)) ∧ w' = w := by
  rcases Int.lt_trichotomy a b with h | h | h
  · go_enter Tryd.func30, Tryd.ntmps30
    go_wp2
    go_ret
    exact ⟨by simp [cmpI, h], rfl⟩
  · subst h
    go_enter Tryd.func30, Tryd.ntmps30
    go_wp2
    go_ret
    exact ⟨by simp [cmpI], rfl⟩
  · have h' : ¬ a < b := by omega
    go_enter Tryd.func30, Tryd.ntmps30
    go_wp2
    go_ret
    exact ⟨by simp [cmpI, h, h'], rfl⟩
theorem rcompare15 (k c r k' c' r' : Int) (w : World) : Calls Tryd.prog 15 #[fl k c r, fl k' c' r'] w fun e w' => e = .returned (.int .i64 (cmpF k c r k' c' r')) ∧ Gr w w' := by
  by_cases h1 : cmpI k k' = 0
  · by_cases h2 : cmpI r r' = 0
    · have hv : cmpF k c r k' c' r' = cmpI c c' := by simp [cmpF, h1, h2]
      rw [hv]
      go_enter Tryd.func15, Tryd.ntmps15
      go_wp2_with (go_at_call 31; refine (less31 _ _ _).mono ?_; rintro e w' ⟨rfl, rfl⟩)
      go_ret
      exact ⟨rfl, by repeat (first | exact Gr.refl _ | apply Gr.alloc | apply Gr.drew)⟩
    · have hv : cmpF k c r k' c' r' = cmpI r r' := by simp [cmpF, h1, h2]
      rw [hv]
      go_enter Tryd.func15, Tryd.ntmps15
      go_wp2_with (go_at_call 31; refine (less31 _ _ _).mono ?_; rintro e w' ⟨rfl, rfl⟩)
      go_ret
      exact ⟨rfl, by repeat (first | exact Gr.refl _ | apply Gr.alloc | apply Gr.drew)⟩
  · have hv : cmpF k c r k' c' r' = cmpI k k' := by simp [cmpF, h1]
    rw [hv]
    go_enter Tryd.func15, Tryd.ntmps15
    go_wp2_with (go_at_call 31; refine (less31 _ _ _).mono ?_; rintro e w' ⟨rfl, rfl⟩)
    go_ret
    exact ⟨rfl, by repeat (first | exact Gr.refl _ | apply Gr.alloc | apply Gr.drew)⟩
theorem right11 (v k c r : Int) (w : World) : Calls Tryd.prog 11 #[.agg #[.int .i64 v, .int .i64 k, .int .i64 c, .int .i64 r]] w fun e w' => e = .returned (.bool (right v k c r)) ∧ Gr w w' := by
  cases hm : may k c r with
  | false =>
    go_enter Tryd.func11, Tryd.ntmps11
    go_wp2_with (go_at_call 27; refine (may27 k c r _).mono ?_; rw [hm]; rintro e w1 ⟨rfl, hg⟩)
    go_ret
    exact ⟨by simp [right, hm], ((Gr.refl w).alloc _).trans hg⟩
  | true =>
    cases hn : none3 k c r with
    | true =>
      go_enter Tryd.func11, Tryd.ntmps11
      go_wp2_with (first | (go_at_call 27; refine (may27 k c r _).mono ?_; rw [hm]; rintro e w1 ⟨rfl, hg⟩; have k1 : w1.cell? ⟨w.heap.size, 1, none⟩ = some (.int .i64 k) := hg.cell' (by simp); have k2 : w1.cell? ⟨w.heap.size, 2, none⟩ = some (.int .i64 c) := hg.cell' (by simp); have k3 : w1.cell? ⟨w.heap.size, 3, none⟩ = some (.int .i64 r) := hg.cell' (by simp)) | (go_at_call 28; refine (none28 k c r _).mono ?_; rw [hn]; rintro e w2 ⟨rfl, hg2⟩))
      go_ret
      exact ⟨by simp [right, hm, hn], (((Gr.refl w).alloc _).trans hg).trans hg2⟩
    | false =>
      by_cases hv : v = 0
      · subst hv
        go_enter Tryd.func11, Tryd.ntmps11
        go_wp2_with (first | (go_at_call 27; refine (may27 k c r _).mono ?_; rw [hm]; rintro e w1 ⟨rfl, hg⟩; have k1 : w1.cell? ⟨w.heap.size, 1, none⟩ = some (.int .i64 k) := hg.cell' (by simp); have k2 : w1.cell? ⟨w.heap.size, 2, none⟩ = some (.int .i64 c) := hg.cell' (by simp); have k3 : w1.cell? ⟨w.heap.size, 3, none⟩ = some (.int .i64 r) := hg.cell' (by simp)) | (go_at_call 28; refine (none28 k c r _).mono ?_; rw [hn]; rintro e w2 ⟨rfl, hg2⟩; have k0 : w2.cell? ⟨w.heap.size, 0, none⟩ = some (.int .i64 0) := hg2.cell' (hg.cell' (by simp))))
        go_ret
        exact ⟨by simp [right, hm, hn], (((Gr.refl w).alloc _).trans hg).trans hg2⟩
      · go_enter Tryd.func11, Tryd.ntmps11
        go_wp2_with (first | (go_at_call 27; refine (may27 k c r _).mono ?_; rw [hm]; rintro e w1 ⟨rfl, hg⟩; have k1 : w1.cell? ⟨w.heap.size, 1, none⟩ = some (.int .i64 k) := hg.cell' (by simp); have k2 : w1.cell? ⟨w.heap.size, 2, none⟩ = some (.int .i64 c) := hg.cell' (by simp); have k3 : w1.cell? ⟨w.heap.size, 3, none⟩ = some (.int .i64 r) := hg.cell' (by simp)) | (go_at_call 28; refine (none28 k c r _).mono ?_; rw [hn]; rintro e w2 ⟨rfl, hg2⟩; have k0 : w2.cell? ⟨w.heap.size, 0, none⟩ = some (.int .i64 v) := hg2.cell' (hg.cell' (by simp))))
        go_ret
        exact ⟨by simp [right, hm, hn, hv], (((Gr.refl w).alloc _).trans hg).trans hg2⟩
theorem rright12 (v k c r : Int) (w : World) : Calls Tryd.prog 12 #[.int .i64 v, fl k c r] w fun e w' => e = .returned (.bool (right v k c r)) ∧ Gr w w' := by
  cases hm : may k c r with
  | false =>
    go_enter Tryd.func12, Tryd.ntmps12
    go_wp2_with (go_at_call 7; refine (rmay7 k c r _).mono ?_; rw [hm]; rintro e w1 ⟨rfl, hg⟩)
    go_ret
    exact ⟨by simp [right, hm], ((Gr.refl w).alloc _).trans hg⟩
  | true =>
    by_cases h0 : k = 0
    · subst h0
      by_cases h1 : c = 0
      · subst h1
        by_cases h2 : r = 0
        · subst h2
          go_enter Tryd.func12, Tryd.ntmps12
          go_wp2_with (go_at_call 7; refine (rmay7 0 0 0 _).mono ?_; rw [hm]; rintro e w1 ⟨rfl, hg⟩; have k0 : w1.cell? ⟨w.heap.size, 0, none⟩ = some (.int .i64 0) := hg.cell' (by simp); have k1 : w1.cell? ⟨w.heap.size, 1, none⟩ = some (.int .i64 0) := hg.cell' (by simp); have k2 : w1.cell? ⟨w.heap.size, 2, none⟩ = some (.int .i64 0) := hg.cell' (by simp))
          go_ret
          exact ⟨by simp [right, hm, none3], ((Gr.refl w).alloc _).trans hg⟩
        · by_cases hv : v = 0
          · subst hv
            go_enter Tryd.func12, Tryd.ntmps12
            go_wp2_with (go_at_call 7; refine (rmay7 0 0 r _).mono ?_; rw [hm]; rintro e w1 ⟨rfl, hg⟩; have k0 : w1.cell? ⟨w.heap.size, 0, none⟩ = some (.int .i64 0) := hg.cell' (by simp); have k1 : w1.cell? ⟨w.heap.size, 1, none⟩ = some (.int .i64 0) := hg.cell' (by simp); have k2 : w1.cell? ⟨w.heap.size, 2, none⟩ = some (.int .i64 r) := hg.cell' (by simp))
            go_ret
            exact ⟨by simp [right, hm, none3, h2], ((Gr.refl w).alloc _).trans hg⟩
          · go_enter Tryd.func12, Tryd.ntmps12
            go_wp2_with (go_at_call 7; refine (rmay7 0 0 r _).mono ?_; rw [hm]; rintro e w1 ⟨rfl, hg⟩; have k0 : w1.cell? ⟨w.heap.size, 0, none⟩ = some (.int .i64 0) := hg.cell' (by simp); have k1 : w1.cell? ⟨w.heap.size, 1, none⟩ = some (.int .i64 0) := hg.cell' (by simp); have k2 : w1.cell? ⟨w.heap.size, 2, none⟩ = some (.int .i64 r) := hg.cell' (by simp))
            go_ret
            exact ⟨by simp [right, hm, none3, h2, hv], ((Gr.refl w).alloc _).trans hg⟩
      · by_cases hv : v = 0
        · subst hv
          go_enter Tryd.func12, Tryd.ntmps12
          go_wp2_with (go_at_call 7; refine (rmay7 0 c r _).mono ?_; rw [hm]; rintro e w1 ⟨rfl, hg⟩; have k0 : w1.cell? ⟨w.heap.size, 0, none⟩ = some (.int .i64 0) := hg.cell' (by simp); have k1 : w1.cell? ⟨w.heap.size, 1, none⟩ = some (.int .i64 c) := hg.cell' (by simp); have k2 : w1.cell? ⟨w.heap.size, 2, none⟩ = some (.int .i64 r) := hg.cell' (by simp))
          go_ret
          exact ⟨by simp [right, hm, none3, h1], ((Gr.refl w).alloc _).trans hg⟩
        · go_enter Tryd.func12, Tryd.ntmps12
          go_wp2_with (go_at_call 7; refine (rmay7 0 c r _).mono ?_; rw [hm]; rintro e w1 ⟨rfl, hg⟩; have k0 : w1.cell? ⟨w.heap.size, 0, none⟩ = some (.int .i64 0) := hg.cell' (by simp); have k1 : w1.cell? ⟨w.heap.size, 1, none⟩ = some (.int .i64 c) := hg.cell' (by simp); have k2 : w1.cell? ⟨w.heap.size, 2, none⟩ = some (.int .i64 r) := hg.cell' (by simp))
          go_ret
          exact ⟨by simp [right, hm, none3, h1, hv], ((Gr.refl w).alloc _).trans hg⟩
    · by_cases hv : v = 0
      · subst hv
        go_enter Tryd.func12, Tryd.ntmps12
        go_wp2_with (go_at_call 7; refine (rmay7 k c r _).mono ?_; rw [hm]; rintro e w1 ⟨rfl, hg⟩; have k0 : w1.cell? ⟨w.heap.size, 0, none⟩ = some (.int .i64 k) := hg.cell' (by simp); have k1 : w1.cell? ⟨w.heap.size, 1, none⟩ = some (.int .i64 c) := hg.cell' (by simp); have k2 : w1.cell? ⟨w.heap.size, 2, none⟩ = some (.int .i64 r) := hg.cell' (by simp))
        go_ret
        exact ⟨by simp [right, hm, none3, h0], ((Gr.refl w).alloc _).trans hg⟩
      · go_enter Tryd.func12, Tryd.ntmps12
        go_wp2_with (go_at_call 7; refine (rmay7 k c r _).mono ?_; rw [hm]; rintro e w1 ⟨rfl, hg⟩; have k0 : w1.cell? ⟨w.heap.size, 0, none⟩ = some (.int .i64 k) := hg.cell' (by simp); have k1 : w1.cell? ⟨w.heap.size, 1, none⟩ = some (.int .i64 c) := hg.cell' (by simp); have k2 : w1.cell? ⟨w.heap.size, 2, none⟩ = some (.int .i64 r) := hg.cell' (by simp))
        go_ret
        exact ⟨by simp [right, hm, none3, h0, hv], ((Gr.refl w).alloc _).trans hg⟩

end Go.Proofs.YtifhfdndbnmhlaaDoor
