/- The contract of the program's order of failures; no conditions. -/
import Derived.Test.YtifhfdndbnmhlaaDoorCmp
import Derived.Deep.RegionHeld3
namespace Go.Proofs.YtifhfdndbnmhlaaDoor
open Go.RowKit Go.Sort
set_option linter.unusedVariables false

def or3 (x y z : Int) : Int := if x ≠ 0 then x else if y ≠ 0 then y else z
set_option maxHeartbeats 1000000 in
theorem or29 (x y z : Int) (b : Nat) (w : World) (h0 : w.cell? ⟨b, 0, none⟩ = some (.int .i64 x)) (h1 : w.cell? ⟨b, 1, none⟩ = some (.int .i64 y)) (h2 : w.cell? ⟨b, 2, none⟩ = some (.int .i64 z)) :
    Calls Tryd.prog 29 #[.slice (some ⟨b, 0, none⟩) 3 3] w fun e w' => e = .returned (.int .i64 (or3 x y z)) ∧ Gr w w' := by
  go_enter Tryd.func29, Tryd.ntmps29
  go_wp2
  go_loopw [8] (fun i wr => ∃ j : Nat, i = .int .i64 j ∧ j ≤ 3 ∧ Hid ((0 < j → x = 0) ∧ (1 < j → y = 0) ∧ (2 < j → z = 0)) ∧ wr = w) (fun i _ => 3 - (intOf i).toNat)
  case atStart => exact ⟨0, rfl, by omega, ⟨by omega, by omega, by omega⟩, rfl⟩
  case round =>
    obtain ⟨j, rfl, hj, H, rfl⟩ := hrel
    rcases (by omega : j = 0 ∨ j = 1 ∨ j = 2 ∨ j = 3) with rfl | rfl | rfl | rfl
    · by_cases hx : x = 0
      · subst hx
        go_wp2
        go_roundw
        case rel => exact ⟨1, rfl, by omega, ⟨by simp, by omega, by omega⟩, by simp⟩
        case measure => simp [intOf]
      · go_wp2
        go_ret
        exact ⟨by simp [or3, hx], Gr.refl _⟩
    · have hx := H.out.1 (by omega)
      subst hx
      by_cases hy : y = 0
      · subst hy
        go_wp2
        go_roundw
        case rel => exact ⟨2, rfl, by omega, ⟨by simp, by simp, by omega⟩, by simp⟩
        case measure => simp [intOf]
      · go_wp2
        go_ret
        exact ⟨by simp [or3, hy], Gr.refl _⟩
    · have hx := H.out.1 (by omega)
      have hy := H.out.2.1 (by omega)
      subst hx hy
      by_cases hz : z = 0
      · subst hz
        go_wp2
        go_roundw
        case rel => exact ⟨3, rfl, by omega, ⟨by simp, by simp, by simp⟩, by simp⟩
        case measure => simp [intOf]
      · go_wp2
        go_ret
        exact ⟨by simp [or3], Gr.refl _⟩
    · have hx := H.out.1 (by omega)
      have hy := H.out.2.1 (by omega)
      have hz := H.out.2.2 (by omega)
      subst hx hy hz
      go_wp2
      go_ret
      exact ⟨by simp [or3], Gr.refl _⟩
theorem or_cmp (k c r k' c' r' : Int) : or3 (cmpI k k') (cmpI r r') (cmpI c c') = cmpF k c r k' c' r' := rfl
set_option maxHeartbeats 2000000 in
theorem compare14 (k c r k' c' r' : Int) (w : World) : Calls Tryd.prog 14 #[fl k c r, fl k' c' r'] w fun e w' => e = .returned (.int .i64 (cmpF k c r k' c' r')) ∧ Gr w w' := by
  rw [← or_cmp]
  have mixed := mixed
  go_enter Tryd.func14, Tryd.ntmps14
  go_wp2_with fail
  obtain ⟨W, hW⟩ : ∃ W, W = (w.alloc (.cells #[.int .i64 k, .int .i64 c, .int .i64 r] 23)).alloc (.cells #[.int .i64 k', .int .i64 c', .int .i64 r'] 23) := ⟨_, rfl⟩
  have q0 : W.cell? ⟨w.heap.size, 0, none⟩ = some (.int .i64 k) := by rw [hW]; exact ((Gr.refl _).alloc _).cell' (by simp)
  have q1 : W.cell? ⟨w.heap.size, 1, none⟩ = some (.int .i64 c) := by rw [hW]; exact ((Gr.refl _).alloc _).cell' (by simp)
  have q2 : W.cell? ⟨w.heap.size, 2, none⟩ = some (.int .i64 r) := by rw [hW]; exact ((Gr.refl _).alloc _).cell' (by simp)
  have p0 : W.cell? ⟨w.heap.size + 1, 0, none⟩ = some (.int .i64 k') := by rw [hW]; simp
  have p1 : W.cell? ⟨w.heap.size + 1, 1, none⟩ = some (.int .i64 c') := by rw [hW]; simp
  have p2 : W.cell? ⟨w.heap.size + 1, 2, none⟩ = some (.int .i64 r') := by rw [hW]; simp
  have G : Hid (Gr w W) := by show Gr _ _; rw [hW]; exact ((Gr.refl _).alloc _).alloc _
  rw [← hW]
  clear hW
  go_region_held3 (fun w' => w'.cell? ⟨w.heap.size, 0, none⟩ = some (.int .i64 k) ∧ w'.cell? ⟨w.heap.size, 1, none⟩ = some (.int .i64 c) ∧ w'.cell? ⟨w.heap.size, 2, none⟩ = some (.int .i64 r) ∧ w'.cell? ⟨w.heap.size + 1, 0, none⟩ = some (.int .i64 k') ∧ w'.cell? ⟨w.heap.size + 1, 1, none⟩ = some (.int .i64 c') ∧ w'.cell? ⟨w.heap.size + 1, 2, none⟩ = some (.int .i64 r')) (go_keep)
    (first | (go_at_call 30; refine (cmp30 _ _ _).mono ?_; rintro e w' ⟨rfl, rfl⟩) | (go_at_call 29; refine (or29 (cmpI k k') (cmpI r r') (cmpI c c') W.heap.size _ (by simp) (by simp) (by simp)).mono ?_; rintro e w2 ⟨rfl, hg2⟩; have G2 : Hid (Gr W w2) := ((Gr.refl W).alloc _).drew.trans hg2; clear hg2; have a0 := G2.out.cell' q0; have a1 := G2.out.cell' q1; have a2 := G2.out.cell' q2; have a3 := G2.out.cell' p0; have a4 := G2.out.cell' p1; have a5 := G2.out.cell' p2))
  go_wp2
  go_ret
  exact ⟨rfl, G.out.trans G2.out⟩
end Go.Proofs.YtifhfdndbnmhlaaDoor
