/- The document's Waits and Lengths; no conditions but those that each states. -/
import Derived.Test.YtibgfkjhohgkhaaTlp
namespace Go.Proofs.Ytibgfkjhohgkhaa.Ty
open Go.RowKit Go.Maps Go.ChangeMaps
open Tr
set_option linter.unusedVariables false
set_option linter.unusedSimpArgs false
/-- What the document has in memory. -/
structure Rm (w wr : World) (f : Nat → Int) : Prop where
  r1 : Row wr w.heap.size 64 z0 37
  r2 : Row wr (w.heap.size + 1) 64 f 37
  t : Touch [] w wr
section
variable {w wr w' : World} {f : Nat → Int}
theorem Rm.keep (h : Rm w wr f) (T : Touch [] wr w') : Rm w w' f := ⟨h.r1.keep T (by simp), h.r2.keep T (by simp), h.t.trans' T⟩
theorem Rm.row (h : Rm w wr f) (T : Touch [w.heap.size + 1] wr w') {g : Nat → Int} (hr : Row w' (w.heap.size + 1) 64 g 37) : Rm w w' g :=
  ⟨h.r1.keep T (by simp), hr, h.t.trans T (fun i hi => Or.inr (by simp at hi; omega))⟩
theorem Rm.new (w : World) : Rm w ((w.alloc (.cells (ic 64 z0) 37)).alloc (.cells (ic 64 z0) 37)) z0 := by
  refine ⟨(show Row _ w.heap.size 64 z0 37 from heap_alloc_new w _).keep ((Touch.refl [] _).alloc _) (by simp), ?_, ((Touch.refl [] w).alloc _).alloc _⟩
  have := heap_alloc_new (w.alloc (.cells (ic 64 z0) 37)) (.cells (ic 64 z0) 37)
  rw [show (w.alloc (.cells (ic 64 z0) 37)).heap.size = w.heap.size + 1 by simp] at this
  exact this
end
set_option maxHeartbeats 4000000 in
set_option maxRecDepth 20000 in
theorem rwaits_ {w : World} {v : Value} {L : List Ez} (h : Ev w v L) (hl : L.length ≤ 2000) :
    Calls Try.prog 16 #[v] w fun r w' => r = .returned (.agg (ic 64 (tL true L).f)) ∧ Touch [] w w' := by
  have H := hid h
  obtain ⟨a, c, rfl, hc, hrow⟩ := h
  clear hrow
  obtain ⟨n, hn⟩ : ∃ n, L.length = n := ⟨_, rfl⟩
  have HN := hid hn
  rw [hn] at hl hc H ⊢
  clear hn
  go_enter Try.func16, Try.ntmps16
  go_upto_region 2 with (refine wpList_storeT big64 rfl _ _ rfl (w.heap.size + 1) (ic 64 z0) (ic 64 z0) 37 rfl rfl (show (_ : World).heap[w.heap.size + 1]? = some (.cells (ic 64 z0) 37 (0, 0)) from (Rm.new w).r2) (ic_size _ _) (ic_size _ _) ic_one ?_; intro w3 h3 t3 s3; have HR3 := hid ((Rm.new w).row t3 h3); clear h3 t3 s3)
  go_wp2_with fail
  go_loopw [11] (fun i wr => ∃ j : Nat, i = .int .i64 j ∧ j ≤ n ∧ Hid (Rm w wr (tL true (L.take j)).f)) (fun i _ => n - (intOf i).toNat)
  case atStart => exact ⟨0, rfl, Nat.zero_le _, HR3⟩
  case round =>
    obtain ⟨j, rfl, hj, HJ⟩ := hrel
    by_cases hlt : j < n
    · obtain ⟨e, he⟩ : ∃ e, L[j]? = some e := ⟨_, List.getElem?_eq_getElem (by rw [HN.out]; exact hlt)⟩
      have hb := tL_b true (L.take j)
      rw [List.length_take, HN.out, Nat.min_eq_left hj] at hb
      have HSN := hid (show tL true (L.take (j + 1)) = tS true (tL true (L.take j)) e by rw [List.take_add_one, he]; exact tL_snoc _ _ _)
      obtain ⟨g, off, rfl, hg, c0, c1, c2, c3, c4, c5, c6, c7, c8, c9, c10, c11, c12⟩ := (H.out.keep HJ.out.t).at_ he
      obtain ⟨o, ho⟩ : ∃ o, o = (tL true (L.take j)).g (nb true e) := ⟨_, rfl⟩
      have HL := hid (fun w' (t : Touch [] w w') => last_t (v := .slice (some ⟨g, off, none⟩) n c) (H.out.keep t) (by rw [HN.out]; exact hl) j (by rw [HN.out]; exact hj) (nb true e) o ho)
      have HO := hid ho
      clear ho
      generalize tL true (L.take j) = s at *
      have HF := hid (show ∀ i, 0 ≤ s.f i ∧ s.f i ≤ 1000000000000 from fun i => by have := hb i; omega)
      have B1 : Ib (wr.alloc (.cells #[.int .i64 e.at_, .int .i64 e.kd, .int .i64 e.cl, .int .i64 e.ca, .int .i64 e.ru, .int .i64 e.ge, .int .i64 e.ho, .int .u16 e.sp, .string e.nm, .int .i64 e.va, .int .i64 e.fk, .int .i64 e.fc, .int .i64 e.fr] 82)) wr.heap.size e := Ib.new wr e 82
      have HT := hid (HJ.out.keep ((Touch.refl [] wr).alloc (.cells #[.int .i64 e.at_, .int .i64 e.kd, .int .i64 e.cl, .int .i64 e.ca, .int .i64 e.ru, .int .i64 e.ge, .int .i64 e.ho, .int .u16 e.sp, .string e.nm, .int .i64 e.va, .int .i64 e.fk, .int .i64 e.fc, .int .i64 e.fr] 82)))
      clear HJ hb
      go_upto_region 5 with fail
      clear c0 c1 c2 c3 c4 c5 c6 c7 c8 c9 c10 c11 c12
      generalize wr.alloc (.cells #[.int .i64 e.at_, .int .i64 e.kd, .int .i64 e.cl, .int .i64 e.ca, .int .i64 e.ru, .int .i64 e.ge, .int .i64 e.ho, .int .u16 e.sp, .string e.nm, .int .i64 e.va, .int .i64 e.fk, .int .i64 e.fc, .int .i64 e.fr] 82) = W1 at *
      have HB := hid B1
      obtain ⟨c0, c1, c2, c3, c4, c5, c6, c7, c8, c9, c10, c11, c12⟩ := B1
      by_cases hk : e.kd = 4
      · have HK := hid hk
        rw [hk] at c1
        clear hk
        go_wp2_with (first | (go_at_call 31; refine (HL.out _ HT.out.t).mono ?_; rintro r w4 ⟨rfl, t4⟩; have HM4 := hid (HT.out.keep t4); obtain ⟨d0, d1, d2, d3, d4, d5, d6, d7, d8, d9, d10, d11, d12⟩ := HB.out.touch t4; clear t4 HT HB c0 c1 c2 c3 c4 c5 c6 c7 c8 c9 c10 c11 c12) | (refine wpList_loadT big64 rfl _ rfl (w.heap.size + 1) (ic 64 s.f) 37 (0, 0) rfl HM4.out.r2 (ic_size _ _) ?_) | (go_at_call 32; refine (rcount_ HF.out o e.at_ w4).mono ?_; rintro r w5 ⟨rfl, t5⟩; have HM5 := hid (HM4.out.keep t5); clear t5 HM4 d0 d1 d2 d3 d4 d5 d6 d7 d8 d9 d10 d11 d12) | (refine wpList_storeT big64 rfl _ _ rfl (w.heap.size + 1) (ic 64 s.f) (ic 64 (rc s.f o e.at_)) 37 rfl rfl HM5.out.r2 (ic_size _ _) (ic_size _ _) ic_one ?_; intro w6 h6 t6 s6; have HM6 := hid (HM5.out.row t6 h6); clear h6 t6 s6 HM5))
        go_roundw
        case rel => exact ⟨j + 1, rfl, by omega, hid (by rw [HSN.out]; unfold tS; dsimp only; rw [if_pos (show e.kd = te true from HK.out), ← HO.out]; exact HM6.out)⟩
        case measure => first | (simp [intOf]; done) | (simp [intOf]; omega)
      · have hkb : (e.kd == 4) = false := by simpa using hk
        have HF2 := hid (show (tS true s e).f = s.f from if_neg hk)
        clear hk
        go_wp2_with fail
        go_roundw
        case rel => exact ⟨j + 1, rfl, by omega, hid (by rw [HSN.out, HF2.out]; exact HT.out)⟩
        case measure => first | (simp [intOf]; done) | (simp [intOf]; omega)
    · obtain rfl : j = n := by omega
      have HO := HJ.out
      rw [← HN.out, List.take_length] at HO
      have HM := hid HO
      clear HO HJ
      go_wp2_with (first | (refine wpList_loadT big64 rfl _ rfl (w.heap.size + 1) (ic 64 (tL true L).f) 37 (0, 0) rfl HM.out.r2 (ic_size _ _) ?_) | (refine wpList_storeT big64 rfl _ _ rfl w.heap.size (ic 64 z0) (ic 64 (tL true L).f) 37 rfl rfl HM.out.r1 (ic_size _ _) (ic_size _ _) ic_one ?_; intro w5 h5 t5 s5; have H5 := hid h5; have T5 := hid (tl2 w HM.out.t t5); clear h5 t5 s5))
      exact bodyPost_ret (v := .agg (ic 64 (tL true L).f)) (res_cell (fn := Try.f16) (p := 2) rfl big64 _ rfl H5.out (ic_size _ _)) rfl ⟨rfl, T5.out⟩
set_option maxHeartbeats 4000000 in
set_option maxRecDepth 20000 in
theorem rlengths_ {w : World} {v : Value} {L : List Ez} (h : Ev w v L) (hl : L.length ≤ 2000) :
    Calls Try.prog 17 #[v] w fun r w' => r = .returned (.agg (ic 64 (tL false L).f)) ∧ Touch [] w w' := by
  have H := hid h
  obtain ⟨a, c, rfl, hc, hrow⟩ := h
  clear hrow
  obtain ⟨n, hn⟩ : ∃ n, L.length = n := ⟨_, rfl⟩
  have HN := hid hn
  rw [hn] at hl hc H ⊢
  clear hn
  go_enter Try.func17, Try.ntmps17
  go_upto_region 2 with (refine wpList_storeT big64 rfl _ _ rfl (w.heap.size + 1) (ic 64 z0) (ic 64 z0) 37 rfl rfl (show (_ : World).heap[w.heap.size + 1]? = some (.cells (ic 64 z0) 37 (0, 0)) from (Rm.new w).r2) (ic_size _ _) (ic_size _ _) ic_one ?_; intro w3 h3 t3 s3; have HR3 := hid ((Rm.new w).row t3 h3); clear h3 t3 s3)
  go_wp2_with fail
  go_loopw [11] (fun i wr => ∃ j : Nat, i = .int .i64 j ∧ j ≤ n ∧ Hid (Rm w wr (tL false (L.take j)).f)) (fun i _ => n - (intOf i).toNat)
  case atStart => exact ⟨0, rfl, Nat.zero_le _, HR3⟩
  case round =>
    obtain ⟨j, rfl, hj, HJ⟩ := hrel
    by_cases hlt : j < n
    · obtain ⟨e, he⟩ : ∃ e, L[j]? = some e := ⟨_, List.getElem?_eq_getElem (by rw [HN.out]; exact hlt)⟩
      have hb := tL_b false (L.take j)
      rw [List.length_take, HN.out, Nat.min_eq_left hj] at hb
      have HSN := hid (show tL false (L.take (j + 1)) = tS false (tL false (L.take j)) e by rw [List.take_add_one, he]; exact tL_snoc _ _ _)
      obtain ⟨g, off, rfl, hg, c0, c1, c2, c3, c4, c5, c6, c7, c8, c9, c10, c11, c12⟩ := (H.out.keep HJ.out.t).at_ he
      obtain ⟨o, ho⟩ : ∃ o, o = (tL false (L.take j)).g (nb false e) := ⟨_, rfl⟩
      have HL := hid (fun w' (t : Touch [] w w') => last_f (v := .slice (some ⟨g, off, none⟩) n c) (H.out.keep t) (by rw [HN.out]; exact hl) j (by rw [HN.out]; exact hj) (nb false e) o ho)
      have HO := hid ho
      clear ho
      generalize tL false (L.take j) = s at *
      have HF := hid (show ∀ i, 0 ≤ s.f i ∧ s.f i ≤ 1000000000000 from fun i => by have := hb i; omega)
      have B1 : Ib (wr.alloc (.cells #[.int .i64 e.at_, .int .i64 e.kd, .int .i64 e.cl, .int .i64 e.ca, .int .i64 e.ru, .int .i64 e.ge, .int .i64 e.ho, .int .u16 e.sp, .string e.nm, .int .i64 e.va, .int .i64 e.fk, .int .i64 e.fc, .int .i64 e.fr] 82)) wr.heap.size e := Ib.new wr e 82
      have HT := hid (HJ.out.keep ((Touch.refl [] wr).alloc (.cells #[.int .i64 e.at_, .int .i64 e.kd, .int .i64 e.cl, .int .i64 e.ca, .int .i64 e.ru, .int .i64 e.ge, .int .i64 e.ho, .int .u16 e.sp, .string e.nm, .int .i64 e.va, .int .i64 e.fk, .int .i64 e.fc, .int .i64 e.fr] 82)))
      clear HJ hb
      go_upto_region 5 with fail
      clear c0 c1 c2 c3 c4 c5 c6 c7 c8 c9 c10 c11 c12
      generalize wr.alloc (.cells #[.int .i64 e.at_, .int .i64 e.kd, .int .i64 e.cl, .int .i64 e.ca, .int .i64 e.ru, .int .i64 e.ge, .int .i64 e.ho, .int .u16 e.sp, .string e.nm, .int .i64 e.va, .int .i64 e.fk, .int .i64 e.fc, .int .i64 e.fr] 82) = W1 at *
      have HB := hid B1
      obtain ⟨c0, c1, c2, c3, c4, c5, c6, c7, c8, c9, c10, c11, c12⟩ := B1
      by_cases hk : e.kd = 5
      · have HK := hid hk
        rw [hk] at c1
        clear hk
        go_wp2_with (first | (go_at_call 31; refine (HL.out _ HT.out.t).mono ?_; rintro r w4 ⟨rfl, t4⟩; have HM4 := hid (HT.out.keep t4); obtain ⟨d0, d1, d2, d3, d4, d5, d6, d7, d8, d9, d10, d11, d12⟩ := HB.out.touch t4; clear t4 HT HB c0 c1 c2 c3 c4 c5 c6 c7 c8 c9 c10 c11 c12) | (refine wpList_loadT big64 rfl _ rfl (w.heap.size + 1) (ic 64 s.f) 37 (0, 0) rfl HM4.out.r2 (ic_size _ _) ?_) | (go_at_call 32; refine (rcount_ HF.out o e.at_ w4).mono ?_; rintro r w5 ⟨rfl, t5⟩; have HM5 := hid (HM4.out.keep t5); clear t5 HM4 d0 d1 d2 d3 d4 d5 d6 d7 d8 d9 d10 d11 d12) | (refine wpList_storeT big64 rfl _ _ rfl (w.heap.size + 1) (ic 64 s.f) (ic 64 (rc s.f o e.at_)) 37 rfl rfl HM5.out.r2 (ic_size _ _) (ic_size _ _) ic_one ?_; intro w6 h6 t6 s6; have HM6 := hid (HM5.out.row t6 h6); clear h6 t6 s6 HM5))
        go_roundw
        case rel => exact ⟨j + 1, rfl, by omega, hid (by rw [HSN.out]; unfold tS; dsimp only; rw [if_pos (show e.kd = te false from HK.out), ← HO.out]; exact HM6.out)⟩
        case measure => first | (simp [intOf]; done) | (simp [intOf]; omega)
      · have hkb : (e.kd == 5) = false := by simpa using hk
        have HF2 := hid (show (tS false s e).f = s.f from if_neg hk)
        clear hk
        go_wp2_with fail
        go_roundw
        case rel => exact ⟨j + 1, rfl, by omega, hid (by rw [HSN.out, HF2.out]; exact HT.out)⟩
        case measure => first | (simp [intOf]; done) | (simp [intOf]; omega)
    · obtain rfl : j = n := by omega
      have HO := HJ.out
      rw [← HN.out, List.take_length] at HO
      have HM := hid HO
      clear HO HJ
      go_wp2_with (first | (refine wpList_loadT big64 rfl _ rfl (w.heap.size + 1) (ic 64 (tL false L).f) 37 (0, 0) rfl HM.out.r2 (ic_size _ _) ?_) | (refine wpList_storeT big64 rfl _ _ rfl w.heap.size (ic 64 z0) (ic 64 (tL false L).f) 37 rfl rfl HM.out.r1 (ic_size _ _) (ic_size _ _) ic_one ?_; intro w5 h5 t5 s5; have H5 := hid h5; have T5 := hid (tl2 w HM.out.t t5); clear h5 t5 s5))
      exact bodyPost_ret (v := .agg (ic 64 (tL false L).f)) (res_cell (fn := Try.f17) (p := 2) rfl big64 _ rfl H5.out (ic_size _ _)) rfl ⟨rfl, T5.out⟩
end Go.Proofs.Ytibgfkjhohgkhaa.Ty
