/- Two tallies together; no conditions but those that each states. -/
import Derived.Test.YtibgfkjhohgkhaaTlo
namespace Go.Proofs.Ytibgfkjhohgkhaa.Ty
open Go.RowKit Go.Maps Go.ChangeMaps
open Tr
set_option linter.unusedVariables false
set_option linter.unusedSimpArgs false
theorem fset_setv {f : Nat → Int} {i : Nat} {v : Int} : fset f i v i = v := fset_same
/-- Two tallies together, cell by cell. -/
def mg (f g : Nat → Int) : Nat → Int := fun j => if j < 25 then f j + g j else max (f j) (g j)
theorem mg_eq {f g : Nat → Int} : ic 27 (fset (fset (sumTo (sumTo (sumTo f g 0 12) g 12 7) g 19 6) 25 (max (f 25) (g 25))) 26 (max (f 26) (g 26))) = ic 27 (mg f g) := by
  refine ic_congr fun j hj => ?_
  unfold mg fset sumTo
  by_cases h26 : j = 26
  · subst h26; rfl
  · by_cases h25 : j = 25
    · subst h25; rfl
    · rw [if_neg h26, if_neg h25, if_pos (show j < 25 by omega)]
      by_cases a : j < 12
      · rw [if_neg (by omega), if_neg (by omega), if_pos (by omega)]
      · by_cases b : j < 19
        · rw [if_neg (by omega), if_pos (by omega), if_neg (by omega)]
        · rw [if_pos (by omega), if_neg (by omega), if_neg (by omega)]
theorem sumTo_b {f g : Nat → Int} {off m : Nat} {A B : Int} (hA : 0 ≤ A) (hB : 0 ≤ B) (hf : ∀ j, j < 27 → 0 ≤ f j ∧ f j ≤ A) (hg : ∀ j, j < 27 → 0 ≤ g j ∧ g j ≤ B) : ∀ j, j < 27 → 0 ≤ sumTo f g off m j ∧ sumTo f g off m j ≤ A + B := fun j hj => by
  have := hf j hj
  have := hg j hj
  unfold sumTo
  split <;> omega
set_option maxHeartbeats 2000000 in
set_option maxRecDepth 20000 in
theorem merge_ (w : World) {f g : Nat → Int} (hf : ∀ j, j < 27 → 0 ≤ f j ∧ f j ≤ 1000000) (hg : ∀ j, j < 27 → 0 ≤ g j ∧ g j ≤ 1000000) :
    Calls Try.prog 12 #[.agg (ic 27 f), .agg (ic 27 g)] w fun r w' => r = .returned (.agg (ic 27 (mg f g))) ∧ Touch [] w w' := by
  obtain ⟨w3, e3⟩ : ∃ w3, w3 = ((w.alloc (.cells (ic 27 f) 28)).alloc (.cells (ic 27 g) 28)).alloc (.cells (ic 27 z0) 28) := ⟨_, rfl⟩
  have hT : Touch [] w w3 := by rw [e3]; exact (((Touch.refl [] w).alloc _).alloc _).alloc _
  have r1 : Row w3 w.heap.size 27 f 28 := by
    rw [e3]
    exact (show Row _ w.heap.size 27 f 28 from heap_alloc_new w _).keep (((Touch.refl [] _).alloc _).alloc _) (by simp)
  have r2 : Row w3 (w.heap.size + 1) 27 g 28 := by
    rw [e3]
    have : Row ((w.alloc (.cells (ic 27 f) 28)).alloc (.cells (ic 27 g) 28)) (w.heap.size + 1) 27 g 28 := by
      have := heap_alloc_new (w.alloc (.cells (ic 27 f) 28)) (.cells (ic 27 g) 28)
      rw [show (w.alloc (.cells (ic 27 f) 28)).heap.size = w.heap.size + 1 by simp] at this
      exact this
    exact this.keep ((Touch.refl [] _).alloc _) (by simp)
  have r3 : Row w3 (w.heap.size + 2) 27 z0 28 := by
    rw [e3]
    have := heap_alloc_new ((w.alloc (.cells (ic 27 f) 28)).alloc (.cells (ic 27 g) 28)) (.cells (ic 27 z0) 28)
    rw [show ((w.alloc (.cells (ic 27 f) 28)).alloc (.cells (ic 27 g) 28)).heap.size = w.heap.size + 2 by simp] at this
    exact this
  have HT := hid hT
  have R1 := hid r1
  have R2 := hid r2
  have R3 := hid r3
  have HF1 := hid (sumTo_b (off := 0) (m := 12) (by omega) (by omega) hf hg)
  have HF2 := hid (sumTo_b (off := 12) (m := 7) (by omega) (by omega) HF1.out hg)
  have HF := hid hf
  have HG := hid hg
  clear hT r1 r2 r3 hf hg
  go_enter Try.func12, Try.ntmps12
  go_upto_region 1 with fail
  refine wp_world e3 ?_
  clear e3
  go_region_with (go_at_call 27; refine (addTo_ (off := 0) (m := 12) (R1.out.keep ((Touch.refl [] w3).drew) (by simp)) (R2.out.keep ((Touch.refl [] w3).drew) (by simp)) (by omega) (by omega) (by omega) (fun j hj => by have := HF.out j hj; omega) (fun j hj => by have := HG.out j hj; omega)).mono ?_; rintro r w4 ⟨rfl, r4, t4⟩)
  have S1 := hid r4
  have S2 := hid ((R2.out.keep ((Touch.refl [] w3).drew) (by simp)).keep t4 (by simp))
  have S3 := hid ((R3.out.keep ((Touch.refl [] w3).drew) (by simp)).keep t4 (by simp))
  have T4 := hid ((HT.out.drew).trans t4 (fun i hi => Or.inr (by simp at hi; omega)))
  clear r4 t4 R1 R2 R3 HT
  go_upto_region 2 with fail
  go_region_with (go_at_call 27; refine (addTo_ (off := 12) (m := 7) (S1.out.keep ((Touch.refl [] w4).drew) (by simp)) (S2.out.keep ((Touch.refl [] w4).drew) (by simp)) (by omega) (by omega) (by omega) (fun j hj => by have := HF1.out j hj; omega) (fun j hj => by have := HG.out j hj; omega)).mono ?_; rintro r w5 ⟨rfl, r5, t5⟩)
  have P1 := hid r5
  have P2 := hid ((S2.out.keep ((Touch.refl [] w4).drew) (by simp)).keep t5 (by simp))
  have P3 := hid ((S3.out.keep ((Touch.refl [] w4).drew) (by simp)).keep t5 (by simp))
  have T5 := hid ((T4.out.drew).trans t5 (fun i hi => Or.inr (by simp at hi; omega)))
  clear r5 t5 S1 S2 S3 T4
  go_upto_region 3 with fail
  go_region_with (go_at_call 27; refine (addTo_ (off := 19) (m := 6) (P1.out.keep ((Touch.refl [] w5).drew) (by simp)) (P2.out.keep ((Touch.refl [] w5).drew) (by simp)) (by omega) (by omega) (by omega) (fun j hj => by have := HF2.out j hj; omega) (fun j hj => by have := HG.out j hj; omega)).mono ?_; rintro r w6 ⟨rfl, r6, t6⟩)
  have O1 := hid r6
  have O3 := hid ((P3.out.keep ((Touch.refl [] w5).drew) (by simp)).keep t6 (by simp))
  have T6 := hid ((T5.out.drew).trans t6 (fun i hi => Or.inr (by simp at hi; omega)))
  have q2 := (P2.out.keep ((Touch.refl [] w5).drew) (by simp)).keep t6 (by simp)
  have a25 := O1.out.cell (i := 25) (by omega)
  have a26 := O1.out.cell (i := 26) (by omega)
  have b25 := q2.cell (i := 25) (by omega)
  have b26 := q2.cell (i := 26) (by omega)
  have z25 := O1.out.froz 25
  have z26 := O1.out.froz 26
  rw [show sumTo (sumTo (sumTo f g 0 12) g 12 7) g 19 6 25 = f 25 from rfl] at a25
  rw [show sumTo (sumTo (sumTo f g 0 12) g 12 7) g 19 6 26 = f 26 from rfl] at a26
  have HW := hid (show ∀ u, u = (w6.setCell ⟨w.heap.size, 25, none⟩ (.int .i64 (max (f 25) (g 25)))).setCell ⟨w.heap.size, 26, none⟩ (.int .i64 (max (f 26) (g 26))) → Row u w.heap.size 27 (mg f g) 28 ∧ Row u (w.heap.size + 2) 27 z0 28 ∧ Touch [] w u from fun u hu => by
    have tu : Touch [w.heap.size] w6 u := by rw [hu]; exact ((Touch.refl _ _).setCell (Or.inl (by simp)) _).setCell (Or.inl (by simp)) _
    refine ⟨?_, O3.out.keep tu (by simp), T6.out.trans tu (fun i hi => Or.inr (by simp at hi; omega))⟩
    rw [hu]
    have := (O1.out.set (i := 25) (by omega) (max (f 25) (g 25))).set (i := 26) (by omega) (max (f 26) (g 26))
    unfold Row at this ⊢
    rw [← mg_eq]
    exact this)
  clear r6 t6 q2 P1 P2 P3 T5 HF HG HF1 HF2
  go_upto_region 4 with fail
  generalize f 25 = x25 at *
  generalize f 26 = x26 at *
  generalize g 25 = y25 at *
  generalize g 26 = y26 at *
  go_upto_region 5 with fail
  rw [show (if x25 < y25 then y25 else x25) = max x25 y25 by rw [Int.max_def]; split <;> split <;> omega, show (if x26 < y26 then y26 else x26) = max x26 y26 by rw [Int.max_def]; split <;> split <;> omega]
  obtain ⟨u1, u3, ut⟩ := HW.out _ rfl
  have U1 := hid u1
  have U3 := hid u3
  have UT := hid ut
  clear u1 u3 ut HW a25 a26 b25 b26 z25 z26 O1 O3
  generalize (w6.setCell ⟨w.heap.size, 25, none⟩ (.int .i64 (max x25 y25))).setCell ⟨w.heap.size, 26, none⟩ (.int .i64 (max x26 y26)) = u at *
  go_wp2_with (first | (refine wpList_loadT big28 rfl _ rfl w.heap.size (ic 27 (mg f g)) 28 (0, 0) rfl U1.out (ic_size _ _) ?_) | (refine wpList_storeT big28 rfl _ _ rfl (w.heap.size + 2) (ic 27 z0) (ic 27 (mg f g)) 28 rfl rfl U3.out (ic_size _ _) (ic_size _ _) ic_one ?_; intro w7 h7 t7 s7; have H7 := hid h7; have T7 := hid (UT.out.trans t7 (fun i hi => Or.inr (by simp at hi; omega))); clear h7 t7 s7))
  exact bodyPost_ret (v := .agg (ic 27 (mg f g))) (res_cell (fn := Try.f12) (p := 4) rfl big28 _ rfl H7.out (ic_size _ _)) rfl ⟨rfl, T7.out⟩
end Go.Proofs.Ytibgfkjhohgkhaa.Ty
