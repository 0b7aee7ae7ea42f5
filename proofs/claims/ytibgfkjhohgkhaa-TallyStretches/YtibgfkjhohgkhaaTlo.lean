/- Waits, Lengths and Add; no conditions but those that each states. -/
import Derived.Test.YtibgfkjhohgkhaaTln
import Derived.Deep.RegionWith
namespace Go.Proofs.Ytibgfkjhohgkhaa.Ty
open Go.RowKit Go.Maps Go.ChangeMaps
open Tr
set_option linter.unusedVariables false
set_option linter.unusedSimpArgs false
theorem enter29 (args : Array Value) (u : World) : (callFunc 29 args).run Try.prog u = .ok (.enter 29 args) u := by go_simp
theorem enter30 (args : Array Value) (u : World) : (callFunc 30 args).run Try.prog u = .ok (.enter 30 args) u := by go_simp
theorem wp_world {c : Code} {Q : Exit → Act → World → Prop} {a : Act} {w w' : World} (h : w' = w) (k : c.wp Try.prog Q a w') : c.wp Try.prog Q a w := h ▸ k
theorem tl2 (w : World) {u : World} (h : Touch [] w u) {w' : World} (t : Touch [w.heap.size] u w') : Touch [] w w' := h.trans t (fun i hi => Or.inr (by simp at hi; omega))
set_option maxRecDepth 20000 in
theorem waits_ {w : World} {v : Value} {L : List Ez} (h : Ev w v L) (hl : L.length ≤ 2000) (ok : ∀ e ∈ L, e.ok) :
    Calls Try.prog 13 #[v] w fun r w' => r = .returned (.agg (ic 64 (tL true L).f)) ∧ Touch [] w w' := by
  have t1 : Touch [] w (w.alloc (.cells (ic 64 z0) 37)) := (Touch.refl [] w).alloc _
  have HC := hid (times_ true 29 (hid fun e u => caller_ e u) (hid enter29) (h.keep t1) hl ok)
  have b1 : Row (w.alloc (.cells (ic 64 z0) 37)) w.heap.size 64 z0 37 := heap_alloc_new w _
  have HB := hid b1
  have T1 := hid t1
  clear b1 t1 h ok
  go_enter Try.func13, Try.ntmps13
  go_wp2_with (first | (go_at_call 28; refine HC.out.mono ?_; rintro r w1 ⟨rfl, t1⟩; have T2 := hid (T1.out.trans' t1); have B2 := hid (HB.out.keep t1 (by simp)); clear t1) | (refine wpList_storeT big64 rfl _ _ rfl w.heap.size (ic 64 z0) (ic 64 (tL true L).f) 37 rfl rfl B2.out (ic_size _ _) (ic_size _ _) ic_one ?_; intro w3 h3 t3 s3; have H3 := hid h3; have T3 := hid (tl2 w T2.out t3); clear h3 t3 s3))
  exact bodyPost_ret (v := .agg (ic 64 (tL true L).f)) (res_cell (fn := Try.f13) (p := 2) rfl big64 _ rfl H3.out (ic_size _ _)) rfl ⟨rfl, T3.out⟩
set_option maxRecDepth 20000 in
theorem lengths_ {w : World} {v : Value} {L : List Ez} (h : Ev w v L) (hl : L.length ≤ 2000) (ok : ∀ e ∈ L, e.ok) :
    Calls Try.prog 14 #[v] w fun r w' => r = .returned (.agg (ic 64 (tL false L).f)) ∧ Touch [] w w' := by
  have t1 : Touch [] w (w.alloc (.cells (ic 64 z0) 37)) := (Touch.refl [] w).alloc _
  have HC := hid (times_ false 30 (hid fun e u => run_ e u) (hid enter30) (h.keep t1) hl ok)
  have b1 : Row (w.alloc (.cells (ic 64 z0) 37)) w.heap.size 64 z0 37 := heap_alloc_new w _
  have HB := hid b1
  have T1 := hid t1
  clear b1 t1 h ok
  go_enter Try.func14, Try.ntmps14
  go_wp2_with (first | (go_at_call 28; refine HC.out.mono ?_; rintro r w1 ⟨rfl, t1⟩; have T2 := hid (T1.out.trans' t1); have B2 := hid (HB.out.keep t1 (by simp)); clear t1) | (refine wpList_storeT big64 rfl _ _ rfl w.heap.size (ic 64 z0) (ic 64 (tL false L).f) 37 rfl rfl B2.out (ic_size _ _) (ic_size _ _) ic_one ?_; intro w3 h3 t3 s3; have H3 := hid h3; have T3 := hid (tl2 w T2.out t3); clear h3 t3 s3))
  exact bodyPost_ret (v := .agg (ic 64 (tL false L).f)) (res_cell (fn := Try.f14) (p := 2) rfl big64 _ rfl H3.out (ic_size _ _)) rfl ⟨rfl, T3.out⟩
set_option maxRecDepth 20000 in
theorem add_ (w : World) {f g : Nat → Int} (hf : ∀ j, j < 64 → 0 ≤ f j ∧ f j ≤ 1000000000000) (hg : ∀ j, j < 64 → 0 ≤ g j ∧ g j ≤ 1000000000000) :
    Calls Try.prog 15 #[.agg (ic 64 f), .agg (ic 64 g)] w fun r w' => r = .returned (.agg (ic 64 (sumTo f g 0 64))) ∧ Touch [] w w' := by
  obtain ⟨w3, e3⟩ : ∃ w3, w3 = ((w.alloc (.cells (ic 64 f) 37)).alloc (.cells (ic 64 g) 37)).alloc (.cells (ic 64 z0) 37) := ⟨_, rfl⟩
  have hT : Touch [] w w3 := by rw [e3]; exact (((Touch.refl [] w).alloc _).alloc _).alloc _
  have hs : w3.heap.size = w.heap.size + 3 := by rw [e3]; simp
  have r1 : Row w3 w.heap.size 64 f 37 := by
    rw [e3]
    exact (show Row _ w.heap.size 64 f 37 from heap_alloc_new w _).keep (((Touch.refl [] _).alloc _).alloc _) (by simp)
  have r2 : Row w3 (w.heap.size + 1) 64 g 37 := by
    rw [e3]
    have : Row ((w.alloc (.cells (ic 64 f) 37)).alloc (.cells (ic 64 g) 37)) (w.heap.size + 1) 64 g 37 := by
      have := heap_alloc_new (w.alloc (.cells (ic 64 f) 37)) (.cells (ic 64 g) 37)
      rw [show (w.alloc (.cells (ic 64 f) 37)).heap.size = w.heap.size + 1 by simp] at this
      exact this
    exact this.keep ((Touch.refl [] _).alloc _) (by simp)
  have r3 : Row w3 (w.heap.size + 2) 64 z0 37 := by
    rw [e3]
    have := heap_alloc_new ((w.alloc (.cells (ic 64 f) 37)).alloc (.cells (ic 64 g) 37)) (.cells (ic 64 z0) 37)
    rw [show ((w.alloc (.cells (ic 64 f) 37)).alloc (.cells (ic 64 g) 37)).heap.size = w.heap.size + 2 by simp] at this
    exact this
  have HT := hid hT
  have HS := hid hs
  have R1 := hid r1
  have R2 := hid r2
  have R3 := hid r3
  have HF := hid hf
  have HG := hid hg
  clear hT hs r1 r2 r3 hf hg
  go_enter Try.func15, Try.ntmps15
  go_upto_region 1 with fail
  refine wp_world e3 ?_
  clear e3
  go_region_with (go_at_call 27; refine (addTo_ (off := 0) (m := 64) (R1.out.keep ((Touch.refl [] w3).drew) (by simp)) (R2.out.keep ((Touch.refl [] w3).drew) (by simp)) (by omega) (by omega) (by omega) HF.out HG.out).mono ?_; rintro r w4 ⟨rfl, r4, t4⟩)
  have R4 := hid r4
  have R5 := hid ((R3.out.keep ((Touch.refl [] w3).drew) (by simp)).keep t4 (by simp))
  have T4 := hid ((HT.out.drew).trans t4 (fun i hi => Or.inr (by simp at hi; omega)))
  clear r4 t4 R1 R2 R3 HF HG
  go_wp2_with (first | (refine wpList_loadT big64 rfl _ rfl w.heap.size (ic 64 (sumTo f g 0 64)) 37 (0, 0) rfl R4.out (ic_size _ _) ?_) | (refine wpList_storeT big64 rfl _ _ rfl (w.heap.size + 2) (ic 64 z0) (ic 64 (sumTo f g 0 64)) 37 rfl rfl R5.out (ic_size _ _) (ic_size _ _) ic_one ?_; intro w5 h5 t5 s5; have H5 := hid h5; have T5 := hid (T4.out.trans t5 (fun i hi => Or.inr (by simp at hi; omega))); clear h5 t5 s5))
  exact bodyPost_ret (v := .agg (ic 64 (sumTo f g 0 64))) (res_cell (fn := Try.f15) (p := 4) rfl big64 _ rfl H5.out (ic_size _ _)) rfl ⟨rfl, T5.out⟩
end Go.Proofs.Ytibgfkjhohgkhaa.Ty
