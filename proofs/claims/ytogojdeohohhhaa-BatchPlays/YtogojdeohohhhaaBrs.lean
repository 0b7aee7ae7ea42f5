/- The contract of the document's Send, and the law's own comparisons; no conditions but those that each states. -/
import Derived.Test.YtogojdeohohhhaaBra
namespace Go.Proofs.Ytogojdeohohhhaa
open Go.RowKit Go.Maps Go.ChangeMaps
set_option linter.unusedVariables false
set_option linter.unusedSimpArgs false
theorem Rd.void {w w' : World} {v : Value} (h : Rd w v []) : Rd w' v [] := by
  obtain ⟨a, c, e, h1, h2, h3, _⟩ := h
  exact ⟨a, c, e, h1, h2, h3, Or.inl rfl⟩
section
variable (w : World) (u : Value) (S : Bs)
theorem radd_ {N : Nat} (h : Rd w u S.run) (hv : Iv S N) (hN : N ≤ 6000000000000) (n x : Int) : Calls Try.prog 20 #[dv u S, .int .i64 n, .int .i64 x] w fun e w' => RaE e w w' u (addS S n x) (addL S n x) (addE S n x) := by
  by_cases h0 : addE S n x ≠ 0
  · have e1 : addS S n x = S := by unfold addS; rw [if_pos h0]
    have e2 : addL S n x = [] := by unfold addL; rw [if_pos h0]
    rw [e1, e2]
    exact radd_early w u S h hv n x h0
  · have e1 : addE S n x = 0 := Decidable.not_not.1 h0
    have := radd_go w u S h hv hN n x h0
    rw [e1]
    exact this
set_option maxHeartbeats 8000000 in
set_option maxRecDepth 100000 in
theorem rsend_ {N : Nat} (h : Rd w u S.run) (hv : Iv S N) (hN : N ≤ 6000000000000) (n : Int) : Calls Try.prog 21 #[dv u S, .int .i64 n] w fun e w' => RaE e w w' u (sendS S n) (sendL S n) (wrongE S n) := by
  obtain ⟨a, c, rfl, _, _⟩ := h.form
  obtain ⟨V, hV⟩ : ∃ V, V = (w.alloc (.cells (dc (.slice a S.run.length c) S) 31)).alloc (.cells zd 31) := ⟨_, rfl⟩
  obtain ⟨tv, hz, hb0, hb1⟩ := box2 w (.slice a S.run.length c) S V hV
  have HT := hid (rwrong_ V (.slice a S.run.length c) S ⟨_, _, _, rfl⟩ n)
  have HQ : Hid (∀ w', Touch [] V w' → w'.heap[w.heap.size]? = some (.cells (dc (.slice a S.run.length c) S) 31 (0, 0)) ∧ w'.heap[w.heap.size + 1]? = some (.cells (dc (.slice none 0 0) Sz) 31 (0, 0))) := hid (fun w' T => ⟨T.keep hb0 (by simp), T.keep hb1 (by simp)⟩)
  have TV := hid tv
  obtain ⟨c0, c1, c2, c3, c4, c5, c6, ff⟩ := dcs_at hb0
  obtain ⟨d0, d1, d2, d3, d4, d5, d6, gg⟩ := dcs_at hb1
  have HH := hid h
  have HV := hid hv
  clear h hv tv hz hb0 hb1
  unfold dc zd at hV
  by_cases hw : wrongE S n ≠ 0
  · have e1 : sendS S n = S := by unfold sendS; rw [if_pos hw]
    have e2 : sendL S n = [] := by unfold sendL; rw [if_pos hw]
    rw [e1, e2]
    have hk : (wrongE S n != 0) = true := by simpa using hw
    have HS : Hid (∀ k w', Touch [] w w' → RaE (.returned (.tuple #[dv (.slice a S.run.length c) S, .slice none 0 0, .int .i64 k])) w w' (.slice a S.run.length c) S [] k) := hid (fun k w' T => ⟨_, _, rfl, ⟨_, _, _, rfl⟩, ⟨_, _, _, rfl⟩, HH.out.keep0 T, Or.inl rfl, Rd.nil _, T⟩)
    clear hw e1 e2 HH HV
    unfold dv dc at HS HT ⊢
    generalize wrongE S n = k at *
    go_enter Try.func21, Try.ntmps21
    go_upto_region 1 with fail
    rw [← hV]
    clear hV
    go_wp2_with (go_at_call 27; refine (HT.out).mono ?_; rintro e w2 ⟨rfl, t2⟩; clear c0 c1 c2 c3 c4 c5 c6 ff d0 d1 d2 d3 d4 d5 d6 gg; obtain ⟨z0, z1⟩ := HQ.out _ t2; obtain ⟨c0, c1, c2, c3, c4, c5, c6, ff⟩ := dcs_at z0; obtain ⟨d0, d1, d2, d3, d4, d5, d6, gg⟩ := dcs_at z1; have T2 := hid (TV.out.trans' t2); clear t2 z0 z1)
    refine bodyPost_ret (v := .tuple #[.agg #[.int .i64 S.cnt, .int .i64 S.win, .slice a S.run.length c, .int .i64 S.snc, .int .i64 S.tim, .int .i64 S.lst, .int .i64 S.snt], .slice none 0 0, .int .i64 k]) (by simp [results, Try.results21, go_sem, d0, d1, d2, d3, d4, d5, d6]) rfl (HS.out _ _ ?_)
    iterate 7 (refine Touch.setCell ?_ (Or.inr (by simp)) _)
    exact T2.out
  · have hw0 : wrongE S n = 0 := Decidable.not_not.1 hw
    have HSN : Hid (sendS S n = if sendF S n then forceS (sendM S n) else sendM S n) := hid (by unfold sendS; rw [if_neg hw])
    have HLN : Hid (sendL S n = if sendF S n then S.run else []) := hid (by unfold sendL; rw [if_neg hw])
    rw [hw0] at HT ⊢
    clear hw hw0
    unfold dv dc at HT ⊢
    go_enter Try.func21, Try.ntmps21
    go_upto_region 1 with fail
    rw [← hV]
    clear hV
    go_upto_region 5 with (go_at_call 27; refine (HT.out).mono ?_; rintro e w2 ⟨rfl, t2⟩; clear c0 c1 c2 c3 c4 c5 c6 ff d0 d1 d2 d3 d4 d5 d6 gg; obtain ⟨z0, z1⟩ := HQ.out _ t2; have Z0 := hid z0; have Z1 := hid z1; obtain ⟨c0, c1, c2, c3, c4, c5, c6, ff⟩ := dcs_at z0; have T2 := hid (TV.out.trans' t2); clear t2 z0 z1)
    obtain ⟨W3, hW3⟩ : ∃ W3, W3 = w2.setCell ⟨w.heap.size, 4, none⟩ (.int .i64 n) := ⟨_, rfl⟩
    have B0 : W3.heap[w.heap.size]? = some (.cells (dc (.slice a S.run.length c) (sendM S n)) 31 (0, 0)) := by
      rw [hW3]
      have := bset (i := 4) Z0.out (.int .i64 n)
      simpa [dc, sendM] using this
    have B1 : W3.heap[w.heap.size + 1]? = some (.cells (dc (.slice none 0 0) Sz) 31 (0, 0)) := by
      rw [hW3]
      exact ((Touch.refl [w.heap.size] _).setCell (Or.inl (by simp)) _).keep Z1.out (by simp)
    have TW : Touch [] w W3 := by rw [hW3]; exact T2.out.setCell (Or.inr (Nat.le_refl _)) _
    rw [← hW3]
    clear hW3 c0 c1 c2 c3 c4 c5 c6 ff T2 Z0 Z1 HQ HT TV
    have HD := hid (rdue_ W3 (.slice a S.run.length c) (sendM S n) (HH.out.keep0 TW) HV.out.s1 HV.out.s2 HV.out.w1 HV.out.w2)
    have HBB : Hid (∀ w', Touch [] W3 w' → w'.heap[w.heap.size]? = some (.cells (dc (.slice a S.run.length c) (sendM S n)) 31 (0, 0)) ∧ w'.heap[w.heap.size + 1]? = some (.cells (dc (.slice none 0 0) Sz) 31 (0, 0)) ∧ Touch [] w w' ∧ w.heap.size + 1 < w'.heap.size) := hid (fun w' T => ⟨T.keep B0 (by simp), T.keep B1 (by simp), TW.trans' T, Nat.lt_of_lt_of_le (block_lt B1) T.size⟩)
    have HF : Hid (∀ w', Touch [] w w' → Calls Try.prog 22 #[dv (.slice a S.run.length c) (sendM S n)] w' fun e w4 => RfE e w' w4 (.slice a S.run.length c) (sendM S n)) := hid (fun w' T => rforce_ w' _ (sendM S n) (HH.out.keep0 T) HV.out.n1 (by have := HV.out.n2; show S.snt < _; omega))
    have er : (sendM S n).run = S.run := rfl
    have ed : dueV (sendM S n) = dueV S := rfl
    have HN : Hid (∀ w' g, sendF S n = false → Touch [] w w' → RaE (.returned (.tuple #[dv (.slice a S.run.length c) (sendM S n), .slice (some ⟨g, 0, none⟩) 0 0, .int .i64 0])) w w' (.slice a S.run.length c) (sendS S n) (sendL S n) 0) := hid (fun w' g hf T => by
      rw [HSN.out, HLN.out, if_neg (by simp [hf]), if_neg (by simp [hf])]
      exact ⟨_, _, rfl, ⟨_, _, _, rfl⟩, ⟨_, _, _, rfl⟩, HH.out.keep0 T, Or.inl rfl, rd_none _ _, T⟩)
    have HY : Hid (∀ w' w4 u4, sendF S n = true → (∃ a n c, u4 = .slice a n c) → Rd w4 u4 (forceS (sendM S n)).run → (∀ q, u4.ownBlock = some q → w.heap.size ≤ q) → Touch [] w w' → RaE (.returned (.tuple #[dv u4 (forceS (sendM S n)), .slice a S.run.length c, .int .i64 0])) w w' (.slice a S.run.length c) (sendS S n) (sendL S n) 0) := hid (fun w' w4 u4 hf hu hr hq T => by
      rw [HSN.out, HLN.out, if_pos hf, if_pos hf]
      refine ⟨_, _, rfl, hu, ⟨_, _, _, rfl⟩, ?_, Or.inr hq, HH.out.keep0 T, T⟩
      rw [force_run] at hr ⊢
      exact hr.void)
    unfold RfE at HF
    obtain ⟨c0, c1, c2, c3, c4, c5, c6, ff⟩ := dcs_at B0
    rw [er, ed] at HD
    clear B0 B1 TW er ed HSN HLN HV HH
    unfold dv dc at HD HF HN HY
    rcases (by cases sendF S n <;> simp : sendF S n = false ∨ sendF S n = true) with hf | hf
    · have HN2 := hid (fun w' g => HN.out w' g hf)
      have hg : S.run = [] ∨ n < dueV S := by
        unfold sendF at hf
        by_cases he : S.run = []
        · exact Or.inl he
        · right
          simp [he] at hf
          unfold dueV
          rw [if_neg he]
          exact hf
      clear HN HY HF hf
      generalize sendM S n = SM at *
      have hb : decide (S.run ≠ []) = false ∨ n < dueV S := hg.elim (fun e => Or.inl (by simp [e])) Or.inr
      clear hg
      generalize decide (S.run ≠ []) = B at *
      generalize dueV S = k at *
      cases B
      · go_wp2_with (go_at_call 10; refine (HD.out).mono ?_; rintro e w4 ⟨rfl, t4⟩; obtain ⟨z0, z1, z2, z3⟩ := HBB.out _ t4; clear c0 c1 c2 c3 c4 c5 c6 ff t4; obtain ⟨c0, c1, c2, c3, c4, c5, c6, ff⟩ := dcs_at z0; obtain ⟨d0, d1, d2, d3, d4, d5, d6, gg⟩ := dcs_at z1; have T4 := hid z2; clear z0 z1 z2)
        refine bodyPost_ret (v := .tuple #[.agg #[.int .i64 SM.cnt, .int .i64 SM.win, .slice a S.run.length c, .int .i64 SM.snc, .int .i64 SM.tim, .int .i64 SM.lst, .int .i64 SM.snt], .slice (some ⟨w4.heap.size, 0, none⟩) 0 0, .int .i64 0]) (by simp [results, Try.results21, go_sem, d0, d1, d2, d3, d4, d5, d6, World.cell?_alloc_lt, z3]) rfl (HN2.out _ _ ?_)
        refine Touch.alloc ?_ _
        iterate 7 (refine Touch.setCell ?_ (Or.inr (by simp)) _)
        exact T4.out
      · have hk : n < k := by rcases hb with e | e; cases e; exact e
        clear hb
        go_wp2_with (go_at_call 10; refine (HD.out).mono ?_; rintro e w4 ⟨rfl, t4⟩; obtain ⟨z0, z1, z2, z3⟩ := HBB.out _ t4; clear c0 c1 c2 c3 c4 c5 c6 ff t4; obtain ⟨c0, c1, c2, c3, c4, c5, c6, ff⟩ := dcs_at z0; obtain ⟨d0, d1, d2, d3, d4, d5, d6, gg⟩ := dcs_at z1; have T4 := hid z2; clear z0 z1 z2)
        refine bodyPost_ret (v := .tuple #[.agg #[.int .i64 SM.cnt, .int .i64 SM.win, .slice a S.run.length c, .int .i64 SM.snc, .int .i64 SM.tim, .int .i64 SM.lst, .int .i64 SM.snt], .slice (some ⟨w4.heap.size, 0, none⟩) 0 0, .int .i64 0]) (by simp [results, Try.results21, go_sem, d0, d1, d2, d3, d4, d5, d6, World.cell?_alloc_lt, z3]) rfl (HN2.out _ _ ?_)
        refine Touch.alloc ?_ _
        iterate 7 (refine Touch.setCell ?_ (Or.inr (by simp)) _)
        exact T4.out
    · have HY2 := hid (fun w' w4 u4 => HY.out w' w4 u4 hf)
      have hg : decide (S.run ≠ []) = true ∧ ¬ n < dueV S := by
        unfold sendF at hf
        simp only [Bool.and_eq_true, decide_eq_true_eq] at hf
        refine ⟨by simpa using hf.1, ?_⟩
        unfold dueV
        rw [if_neg hf.1]
        omega
      obtain ⟨g1, g2⟩ := hg
      rw [g1] at HD
      clear HN HY hf g1
      generalize forceS (sendM S n) = SF at *
      generalize sendM S n = SM at *
      generalize dueV S = k at *
      go_upto_region 9 with (first
        | (go_at_call 10; refine (HD.out).mono ?_; rintro e w4 ⟨rfl, t4⟩; obtain ⟨z0, z1, z2, z3⟩ := HBB.out _ t4; clear c0 c1 c2 c3 c4 c5 c6 ff z3; obtain ⟨c0, c1, c2, c3, c4, c5, c6, ff⟩ := dcs_at z0; have T4 := hid t4; have T4' := hid z2; clear z0 z1 z2 t4)
        | (go_at_call 22; refine (HF.out _ T4'.out).mono ?_; rintro e w5 ⟨u5, rfl, ⟨a5, n5, k5, rfl⟩, x2, x3, x4, x5⟩; obtain ⟨z0, z1, z2, z3⟩ := HBB.out _ (T4.out.trans' x5); have Z0 := hid z0; have Z1 := hid z1; have X5 := hid (fun w' T => HY2.out w' _ _ ⟨_, _, _, rfl⟩ x2 (fun q hq => Nat.le_trans T4'.out.size (x3 q hq)) T); have T5 := hid z2; clear x2 x3 x4 x5 c0 c1 c2 c3 c4 c5 c6 ff z2 z3; obtain ⟨c0, c1, c2, c3, c4, c5, c6, ff⟩ := dcs_at z0; clear z0 z1))
      obtain ⟨W5, hW5⟩ : ∃ W5, W5 = st7 w5 w.heap.size (.slice a5 n5 k5) SF := ⟨_, rfl⟩
      have y0 : W5.heap[w.heap.size]? = some (.cells (dc (.slice a5 n5 k5) SF) 31 (0, 0)) := by rw [hW5]; exact st7_at Z0.out
      have t6 : Touch [] w W5 := by rw [hW5]; exact st7_touch T5.out (Or.inr (Nat.le_refl _))
      have y1 : W5.heap[w.heap.size + 1]? = some (.cells (dc (.slice none 0 0) Sz) 31 (0, 0)) := by
        rw [hW5]
        exact (st7_touch (F := [w.heap.size]) (Touch.refl _ _) (Or.inl (by simp))).keep Z1.out (by simp)
      unfold st7 at hW5
      rw [← hW5]
      have T6 := hid t6
      clear hW5 t6 c0 c1 c2 c3 c4 c5 c6 ff
      obtain ⟨c0, c1, c2, c3, c4, c5, c6, ff⟩ := dcs_at y0
      obtain ⟨d0, d1, d2, d3, d4, d5, d6, gg⟩ := dcs_at y1
      clear y0 y1
      go_wp2
      refine bodyPost_ret (v := .tuple #[.agg #[.int .i64 SF.cnt, .int .i64 SF.win, .slice a5 n5 k5, .int .i64 SF.snc, .int .i64 SF.tim, .int .i64 SF.lst, .int .i64 SF.snt], .slice a S.run.length c, .int .i64 0]) (by simp [results, Try.results21, go_sem, d0, d1, d2, d3, d4, d5, d6]) rfl (X5.out _ ?_)
      iterate 7 (refine Touch.setCell ?_ (Or.inr (by simp)) _)
      exact T6.out
set_option maxHeartbeats 1000000 in
/-- The same numbers are told the same. -/
theorem ints_ (w : World) (v u : Value) (l : List Int) (hv : Rd w v l) (hu : Rd w u l) (hl : l.length ≤ 65536) : Calls Try.prog 11 #[v, u] w fun e w' => e = .returned (.bool true) ∧ Touch [] w w' := by
  obtain ⟨a1, c1, rfl, _, _⟩ := hv.form
  obtain ⟨a2, c2, rfl, _, _⟩ := hu.form
  have HA := hid hv
  have HB := hid hu
  clear hv hu
  obtain ⟨N, hN⟩ : ∃ N, N = l.length := ⟨_, rfl⟩
  have HN := hid hN
  rw [← hN] at HA HB hl ⊢
  clear hN
  have zl : (N : Int) < 9223372036854775807 := by omega
  clear hl
  go_enter Try.func11, Try.ntmps11
  go_wp2
  go_loopw [5] (fun i wr => ∃ n : Nat, i = .int .i64 n ∧ n ≤ N ∧ Hid (Touch [] w wr)) (fun i _ => N - (intOf i).toNat)
  case atStart => exact ⟨0, rfl, Nat.zero_le _, Touch.refl _ _⟩
  case round =>
    obtain ⟨n, rfl, hn, HT⟩ := hrel
    by_cases hlt : n < N
    · have zn : (n : Int) < (N : Int) := by omega
      have hnl : n < l.length := by have := HN.out; omega
      obtain ⟨g1, rfl, y1⟩ := (HA.out.keep0 HT.out).cell hnl
      obtain ⟨g2, rfl, y2⟩ := (HB.out.keep0 HT.out).cell hnl
      generalize l[n] = ki at *
      clear hnl
      go_wp2
      go_quiet (fail)
      go_wp2
      go_roundw
      case rel => exact ⟨n + 1, by go_num, by omega, HT.out.drewN _⟩
      case measure => simp [intOf]; omega
    · have zn : ¬ (n : Int) < (N : Int) := by omega
      go_wp2
      go_ret
      exact ⟨rfl, HT.out⟩
set_option maxHeartbeats 1000000 in
theorem lhas_ (w : World) (u : Value) (l : List Int) (x : Int) (hu : Rd w u l) (hl : l.length ≤ 65536) : Calls Try.prog 14 #[u, .int .i64 x] w fun e w' => e = .returned (.bool (decide (x ∈ l))) ∧ Touch [] w w' := by
  obtain ⟨a1, c1, rfl, _, _⟩ := hu.form
  have HB := hid hu
  clear hu
  obtain ⟨N, hN⟩ : ∃ N, N = l.length := ⟨_, rfl⟩
  have HN := hid hN
  rw [← hN] at HB hl ⊢
  clear hN
  have zl : (N : Int) < 9223372036854775807 := by omega
  clear hl
  go_enter Try.func14, Try.ntmps14
  go_wp2
  go_loopw [5] (fun i wr => ∃ n : Nat, i = .int .i64 n ∧ n ≤ N ∧ Hid (Touch [] w wr) ∧ Hid (¬ x ∈ l.take n)) (fun i _ => N - (intOf i).toNat)
  case atStart => exact ⟨0, rfl, Nat.zero_le _, Touch.refl _ _, hid (by simp)⟩
  case round =>
    obtain ⟨n, rfl, hn, HT, HX⟩ := hrel
    by_cases hlt : n < N
    · have zn : (n : Int) < (N : Int) := by omega
      have hnl : n < l.length := by have := HN.out; omega
      obtain ⟨g2, rfl, y2⟩ := (HB.out.keep0 HT.out).cell hnl
      have HY : Hid (l[n] = x → decide (x ∈ l) = true) := hid (fun e => by simp [← e])
      have HZ : Hid (¬ l[n] = x → ¬ x ∈ l.take (n + 1)) := hid (fun e h => by
        rw [List.take_succ_eq_append_getElem hnl] at h
        rcases List.mem_append.1 h with q | q
        · exact HX.out q
        · simp at q; exact e q.symm)
      generalize l[n] = ki at *
      clear hnl
      by_cases he : ki = x
      · have hb : (ki == x) = true := by simp [he]
        have HE := hid (HY.out he)
        clear he
        go_wp2
        go_ret
        exact ⟨by rw [HE.out]; rfl, HT.out⟩
      · have hb : (ki == x) = false := by simp [he]
        have HZ2 := hid (HZ.out he)
        clear he
        go_wp2
        go_roundw
        case rel => exact ⟨n + 1, by go_num, by omega, HT, HZ2⟩
        case measure => simp [intOf]; omega
    · have zn : ¬ (n : Int) < (N : Int) := by omega
      have hd : decide (x ∈ l) = false := by
        have hx := HX.out
        have : l.take n = l := List.take_of_length_le (by have := HN.out; omega)
        rw [this] at hx
        simp [hx]
      have HE := hid hd
      clear hd
      go_wp2
      go_ret
      exact ⟨by rw [HE.out]; rfl, HT.out⟩
end
end Go.Proofs.Ytogojdeohohhhaa
