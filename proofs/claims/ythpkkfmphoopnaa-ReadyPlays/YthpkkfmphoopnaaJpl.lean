/- The contract of the document's place: whose turn it is; no conditions but those that it states. -/
import Derived.Test.YthpkkfmphoopnaaJdc
namespace Go.Proofs.Ythpkkfmphoopnaa.Re
open Go.RowKit Go.Maps Go.ChangeMaps
set_option linter.unusedVariables false
set_option linter.unusedSimpArgs false
theorem around_two (p : Int) {n : Nat} (hn : 0 < n) : (p.tmod (n : Int) + (n : Int)).tmod (n : Int) = ((aroundN p n : Nat) : Int) ∧ (p.tmod (n : Int) + (n : Int)) % (n : Int) = ((aroundN p n : Nat) : Int) ∧ 0 ≤ p.tmod (n : Int) + (n : Int) := by
  obtain ⟨h1, h2⟩ := tmod_range p hn
  have h0 : 0 ≤ p.tmod (n : Int) + (n : Int) := by omega
  have e : (p.tmod (n : Int) + (n : Int)) % (n : Int) = ((aroundN p n : Nat) : Int) := by
    have h3 := tmod_add p hn
    have h4 := aroundN_lt p hn
    by_cases hs : p.tmod (n : Int) < 0
    · rw [if_pos hs] at h3
      rw [h3, Int.emod_eq_of_lt (by omega) (by omega)]
    · rw [if_neg hs] at h3
      rw [h3, Int.add_emod_right, Int.emod_eq_of_lt (by omega) (by omega)]
  exact ⟨by rw [Int.tmod_eq_emod_of_nonneg h0]; exact e, e, h0⟩
section
variable {w : World} {N : Nat} {S : Rz} {p l t : Value}
set_option maxHeartbeats 4000000 in
theorem place_pk (h : Dm w S p l t) (hv : Iv S N) (hne : S.ln ≠ []) (hlt : S.tl.length < S.pk.length) : Calls Try.prog 31 #[dvv S p l t] w fun e w' => e = .returned (.tuple #[.int .i64 (((placeS S).1 : Nat) : Int), .int .u64 (((placeS S).2 : Nat) : Int)]) ∧ Touch [] w w' := by
  have hp : 0 < S.ln.length := List.length_pos_iff.2 hne
  have e1 : placeS S = (aroundN S.pk[S.tl.length] S.ln.length, S.st) := by unfold placeS; rw [dif_pos hlt]
  rw [e1]
  have hW := hv.k2 _ (List.getElem_mem hlt)
  have hdl : (S.pk.drop S.tl.length).length = S.pk.length - S.tl.length := List.length_drop
  have hd0 : 0 < (S.pk.drop S.tl.length).length := by omega
  have hd : (S.pk.drop S.tl.length)[0] = S.pk[S.tl.length] := by simp
  obtain ⟨ap, cp, ep, hpc⟩ := h.p.form
  obtain ⟨al, cl, el, hlc⟩ := h.l.form
  obtain ⟨at', ct, et, _⟩ := h.t.form
  subst ep el et
  obtain ⟨g, off, eg, _, y1⟩ := h.p.cell hd0
  subst eg
  rw [hd, Nat.add_zero] at y1
  have HRa := hid h.p
  obtain ⟨V, hV⟩ : ∃ V, V = w.alloc (.cells (dvc S (.slice (some ⟨g, off, none⟩) (S.pk.drop S.tl.length).length cp) (.slice al S.ln.length cl) (.slice at' S.tl.length ct)) 32) := ⟨_, rfl⟩
  have tv : Touch [] w V := by rw [hV]; exact (Touch.refl _ _).alloc _
  have hbx : V.heap[w.heap.size]? = some (.cells (dvc S (.slice (some ⟨g, off, none⟩) (S.pk.drop S.tl.length).length cp) (.slice al S.ln.length cl) (.slice at' S.tl.length ct)) 32 (0, 0)) := by rw [hV]; exact heap_alloc_new w _
  have y2 : V.cell? ⟨g, off, none⟩ = some (.int .i64 S.pk[S.tl.length]) := by
    obtain ⟨g', off', e, _, y⟩ := (h.p.keep0 tv).cell hd0
    cases e
    rw [hd, Nat.add_zero] at y
    exact y
  obtain ⟨i0, i1, i2, i3, i4, iff⟩ := dcs_at hbx
  obtain ⟨r1, r2, r3⟩ := around_two S.pk[S.tl.length] hp
  have hl1 := hv.l1
  have hr0 := aroundN_lt S.pk[S.tl.length] hp
  obtain ⟨q1, q2⟩ := tmod_range S.pk[S.tl.length] hp
  have TV := hid tv
  generalize S.pk[S.tl.length] = pp at *
  generalize aroundN pp S.ln.length = R at *
  unfold dvc at hV i0 i1 i2 i3 i4
  unfold dvv dvc
  clear h hd HRa hbx y1 e1 hW
  generalize (S.pk.drop S.tl.length).length = dn at *
  generalize S.ln.length = n at *
  have zn : ¬ (n : Int) = 0 := by omega
  have zn2 : ((n : Int) == 0) = false := by simp; omega
  have zn3 : ¬ (n : Int) = -1 := by omega
  have zd : 0 < (dn : Int) := by omega
  have w1 : IntKind.i64.wrap (pp.tmod (n : Int)) = pp.tmod (n : Int) := by simp [IntKind.wrap, IntKind.bits, IntKind.signed, IntKind.min, IntKind.max]; omega
  have w2 : IntKind.i64.wrap (pp.tmod (n : Int) + (n : Int)) = pp.tmod (n : Int) + (n : Int) := by simp [IntKind.wrap, IntKind.bits, IntKind.signed, IntKind.min, IntKind.max]; omega
  have w3 : IntKind.i64.wrap (R : Int) = (R : Int) := by simp [IntKind.wrap, IntKind.bits, IntKind.signed, IntKind.min, IntKind.max]; omega
  clear hv hne hlt hdl hd0 tv hl1 hr0 q1 q2 iff
  go_enter Try.func31, Try.ntmps31
  go_upto_region 1 with fail
  rw [← hV]
  clear hV
  go_upto_region 3 with fail
  go_quiet (fail)
  go_wp2
  exact bodyPost_ret (v := .tuple #[.int .i64 (R : Int), .int .u64 (S.st : Int)]) (by simp [results, Try.results31, go_sem]) rfl ⟨rfl, TV.out.drewN _⟩
set_option maxHeartbeats 4000000 in
theorem place_turn (h : Dm w S p l t) (hv : Iv S N) (hne : S.ln ≠ []) (hlt : ¬ S.tl.length < S.pk.length) (hk : S.pol = 0) : Calls Try.prog 31 #[dvv S p l t] w fun e w' => e = .returned (.tuple #[.int .i64 (((placeS S).1 : Nat) : Int), .int .u64 (((placeS S).2 : Nat) : Int)]) ∧ Touch [] w w' := by
  have e1 : placeS S = (0, S.st) := by unfold placeS chooseN; rw [dif_neg hlt, if_neg (by omega), if_neg (by omega), if_neg (by omega), if_neg (by omega)]
  rw [e1]
  have hp : 0 < S.ln.length := List.length_pos_iff.2 hne
  have e0 : S.pk.drop S.tl.length = [] := List.drop_of_length_le (by omega)
  obtain ⟨ap, cp, ep, _⟩ := h.p.form
  obtain ⟨al, cl, el, _⟩ := h.l.form
  obtain ⟨at', ct, et, _⟩ := h.t.form
  rw [e0] at ep
  simp only [List.length_nil] at ep
  subst ep el et
  obtain ⟨V, hV⟩ : ∃ V, V = w.alloc (.cells (dvc S (.slice ap 0 cp) (.slice al S.ln.length cl) (.slice at' S.tl.length ct)) 32) := ⟨_, rfl⟩
  have tv : Touch [] w V := by rw [hV]; exact (Touch.refl _ _).alloc _
  have hbx : V.heap[w.heap.size]? = some (.cells (dvc S (.slice ap 0 cp) (.slice al S.ln.length cl) (.slice at' S.tl.length ct)) 32 (0, 0)) := by rw [hV]; exact heap_alloc_new w _
  have HRl := hid (h.l.keep0 tv)
  obtain ⟨i0, i1, i2, i3, i4, iff⟩ := dcs_at hbx
  have hl1 := hv.l1
  have hs1 := hv.s1
  have hnd := hv.nd
  have TV := hid tv
  unfold dvc at hV i0 i1 i2 i3 i4
  unfold dvv dvc
  clear h hbx e0 tv iff
  rw [hk] at i0 hV ⊢
  clear HRl hv hne hlt e1 hl1 hs1 hnd hp hk
  go_enter Try.func31, Try.ntmps31
  go_upto_region 1 with fail
  rw [← hV]
  clear hV
  go_upto_region 6 with fail
  go_quiet (fail)
  go_wp2
  exact bodyPost_ret (v := .tuple #[.int .i64 0, .int .u64 (S.st : Int)]) (by simp [results, Try.results31, go_sem]) rfl ⟨rfl, TV.out.drewN _⟩
set_option maxHeartbeats 4000000 in
theorem place_last (h : Dm w S p l t) (hv : Iv S N) (hne : S.ln ≠ []) (hlt : ¬ S.tl.length < S.pk.length) (hk : S.pol = 1) : Calls Try.prog 31 #[dvv S p l t] w fun e w' => e = .returned (.tuple #[.int .i64 (((placeS S).1 : Nat) : Int), .int .u64 (((placeS S).2 : Nat) : Int)]) ∧ Touch [] w w' := by
  have e1 : placeS S = (S.ln.length - 1, S.st) := by unfold placeS chooseN; rw [dif_neg hlt, if_neg (by omega), if_pos hk]
  rw [e1]
  have hp : 0 < S.ln.length := List.length_pos_iff.2 hne
  have e0 : S.pk.drop S.tl.length = [] := List.drop_of_length_le (by omega)
  obtain ⟨ap, cp, ep, _⟩ := h.p.form
  obtain ⟨al, cl, el, _⟩ := h.l.form
  obtain ⟨at', ct, et, _⟩ := h.t.form
  rw [e0] at ep
  simp only [List.length_nil] at ep
  subst ep el et
  obtain ⟨V, hV⟩ : ∃ V, V = w.alloc (.cells (dvc S (.slice ap 0 cp) (.slice al S.ln.length cl) (.slice at' S.tl.length ct)) 32) := ⟨_, rfl⟩
  have tv : Touch [] w V := by rw [hV]; exact (Touch.refl _ _).alloc _
  have hbx : V.heap[w.heap.size]? = some (.cells (dvc S (.slice ap 0 cp) (.slice al S.ln.length cl) (.slice at' S.tl.length ct)) 32 (0, 0)) := by rw [hV]; exact heap_alloc_new w _
  have HRl := hid (h.l.keep0 tv)
  obtain ⟨i0, i1, i2, i3, i4, iff⟩ := dcs_at hbx
  have hl1 := hv.l1
  have hs1 := hv.s1
  have hnd := hv.nd
  have TV := hid tv
  unfold dvc at hV i0 i1 i2 i3 i4
  unfold dvv dvc
  clear h hbx e0 tv iff
  rw [hk] at i0 hV ⊢
  have e2 : (((S.ln.length - 1 : Nat)) : Int) = (S.ln.length : Int) - 1 := by omega
  simp only [e2]
  have hw : IntKind.i64.wrap ((S.ln.length : Int) - 1) = (S.ln.length : Int) - 1 := by simp [IntKind.wrap, IntKind.bits, IntKind.signed, IntKind.min, IntKind.max]; omega
  clear HRl hv hne hlt e1 hl1 hs1 hnd hp hk e2
  go_enter Try.func31, Try.ntmps31
  go_upto_region 1 with fail
  rw [← hV]
  clear hV
  go_upto_region 8 with fail
  go_quiet (fail)
  go_wp2
  exact bodyPost_ret (v := .tuple #[.int .i64 ((S.ln.length : Int) - 1), .int .u64 (S.st : Int)]) (by simp [results, Try.results31, go_sem]) rfl ⟨rfl, TV.out.drewN _⟩
set_option maxHeartbeats 4000000 in
theorem place_lot (h : Dm w S p l t) (hv : Iv S N) (hne : S.ln ≠ []) (hlt : ¬ S.tl.length < S.pk.length) (hk : S.pol = 2) : Calls Try.prog 31 #[dvv S p l t] w fun e w' => e = .returned (.tuple #[.int .i64 (((placeS S).1 : Nat) : Int), .int .u64 (((placeS S).2 : Nat) : Int)]) ∧ Touch [] w w' := by
  have e1 : placeS S = (partN (lotN S.st) S.ln.length, lotN S.st) := by unfold placeS; rw [dif_neg hlt, if_pos hk]
  rw [e1]
  have hp : 0 < S.ln.length := List.length_pos_iff.2 hne
  have e0 : S.pk.drop S.tl.length = [] := List.drop_of_length_le (by omega)
  obtain ⟨ap, cp, ep, _⟩ := h.p.form
  obtain ⟨al, cl, el, _⟩ := h.l.form
  obtain ⟨at', ct, et, _⟩ := h.t.form
  rw [e0] at ep
  simp only [List.length_nil] at ep
  subst ep el et
  obtain ⟨V, hV⟩ : ∃ V, V = w.alloc (.cells (dvc S (.slice ap 0 cp) (.slice al S.ln.length cl) (.slice at' S.tl.length ct)) 32) := ⟨_, rfl⟩
  have tv : Touch [] w V := by rw [hV]; exact (Touch.refl _ _).alloc _
  have hbx : V.heap[w.heap.size]? = some (.cells (dvc S (.slice ap 0 cp) (.slice al S.ln.length cl) (.slice at' S.tl.length ct)) 32 (0, 0)) := by rw [hV]; exact heap_alloc_new w _
  have HRl := hid (h.l.keep0 tv)
  obtain ⟨i0, i1, i2, i3, i4, iff⟩ := dcs_at hbx
  have hl1 := hv.l1
  have hs1 := hv.s1
  have hnd := hv.nd
  have TV := hid tv
  unfold dvc at hV i0 i1 i2 i3 i4
  unfold dvv dvc
  clear h hbx e0 tv iff
  rw [hk] at i0 hV ⊢
  have HM := hid (dmix_ ((S.st + 11400714819323198485) % 18446744073709551616) (mod_lt _))
  have hw : IntKind.u64.wrap ((S.st : Int) + 11400714819323198485) = (((S.st + 11400714819323198485) % 18446744073709551616 : Nat) : Int) := by rw [IntKind.wrap_u64]; simp
  have HP := hid (dpart_ (lotN S.st) S.ln.length (lotN_lt S.st) hp hl1)
  have e2 : mixN ((S.st + 11400714819323198485) % 18446744073709551616) = lotN S.st := rfl
  rw [e2] at HM
  clear HRl hv hne hlt e1 hl1 hs1 hnd hp hk e2
  generalize (S.st + 11400714819323198485) % 18446744073709551616 = y at *
  generalize lotN S.st = L at *
  generalize partN L S.ln.length = P at *
  go_enter Try.func31, Try.ntmps31
  go_upto_region 1 with fail
  rw [← hV]
  clear hV
  go_wp2_with (first
    | (go_at_call 38; refine (HM.out _).mono ?_; rintro e w1 ⟨rfl, e1⟩; rw [e1]; clear e1 w1)
    | (go_at_call 39; refine (HP.out _).mono ?_; rintro e w1 ⟨rfl, e1⟩; rw [e1]; clear e1 w1))
  exact bodyPost_ret (v := .tuple #[.int .i64 (P : Int), .int .u64 (L : Int)]) (by simp [results, Try.results31, go_sem]) rfl ⟨rfl, TV.out⟩
set_option maxHeartbeats 4000000 in
theorem place_least (h : Dm w S p l t) (hv : Iv S N) (hne : S.ln ≠ []) (hlt : ¬ S.tl.length < S.pk.length) (hk : S.pol = 3) : Calls Try.prog 31 #[dvv S p l t] w fun e w' => e = .returned (.tuple #[.int .i64 (((placeS S).1 : Nat) : Int), .int .u64 (((placeS S).2 : Nat) : Int)]) ∧ Touch [] w w' := by
  have e1 : placeS S = (S.ln.idxOf (minL S.ln), S.st) := by unfold placeS chooseN; rw [dif_neg hlt, if_neg (by omega), if_neg (by omega), if_pos hk]
  rw [e1]
  have hp : 0 < S.ln.length := List.length_pos_iff.2 hne
  have e0 : S.pk.drop S.tl.length = [] := List.drop_of_length_le (by omega)
  obtain ⟨ap, cp, ep, _⟩ := h.p.form
  obtain ⟨al, cl, el, _⟩ := h.l.form
  obtain ⟨at', ct, et, _⟩ := h.t.form
  rw [e0] at ep
  simp only [List.length_nil] at ep
  subst ep el et
  obtain ⟨V, hV⟩ : ∃ V, V = w.alloc (.cells (dvc S (.slice ap 0 cp) (.slice al S.ln.length cl) (.slice at' S.tl.length ct)) 32) := ⟨_, rfl⟩
  have tv : Touch [] w V := by rw [hV]; exact (Touch.refl _ _).alloc _
  have hbx : V.heap[w.heap.size]? = some (.cells (dvc S (.slice ap 0 cp) (.slice al S.ln.length cl) (.slice at' S.tl.length ct)) 32 (0, 0)) := by rw [hV]; exact heap_alloc_new w _
  have HRl := hid (h.l.keep0 tv)
  obtain ⟨i0, i1, i2, i3, i4, iff⟩ := dcs_at hbx
  have hl1 := hv.l1
  have hs1 := hv.s1
  have hnd := hv.nd
  have TV := hid tv
  unfold dvc at hV i0 i1 i2 i3 i4
  unfold dvv dvc
  clear h hbx e0 tv iff
  rw [hk] at i0 hV ⊢
  clear hv hne hlt e1 hs1 hk
  have HND := hid hnd
  have HP := hid hp
  generalize S.st = st at *
  generalize S.ln = xs at *
  obtain ⟨N, hN⟩ : ∃ N, N = xs.length := ⟨_, rfl⟩
  have HN := hid hN
  rw [← hN] at hl1 i3 hV HRl HP hp ⊢
  have zl : (N : Int) < 9223372036854775807 := by omega
  obtain ⟨R, hR⟩ : ∃ R, R = xs.idxOf (minL xs) := ⟨_, rfl⟩
  have HRR := hid hR
  simp only [← hR]
  clear hnd hp hl1 hN hR
  go_enter Try.func31, Try.ntmps31
  go_upto_region 1 with fail
  rw [← hV]
  clear hV
  go_wp2_with fail
  go_loopw [6, 52] (fun s6 s52 wr => ∃ aa i : Nat, s6 = .int .i64 (aa : Int) ∧ s52 = .int .i64 (i : Int) ∧ i ≤ N ∧ aa < N ∧ Hid (Touch [] V wr) ∧ Hid (∀ (j : Nat) (hj : j < xs.length) (ha : aa < xs.length), j < i → xs[aa] ≤ xs[j])) (fun _ i _ => N - (intOf i).toNat)
  case atStart => exact ⟨0, 0, rfl, rfl, Nat.zero_le _, HP.out, Touch.refl _ _, hid (fun j hj ha h => absurd h (Nat.not_lt_zero j))⟩
  case round =>
    obtain ⟨aa, i, rfl, rfl, hi, ha, HT, HX⟩ := hrel
    have n0 := HN.out
    by_cases hlt : i < N
    · have zi : (i : Int) < (N : Int) := by omega
      have za : (aa : Int) < (N : Int) := by omega
      have hil : i < xs.length := by omega
      have hal : aa < xs.length := by omega
      have R1 := HRl.out.keep0 HT.out
      obtain ⟨g, off, eg, _, y1⟩ := R1.cell hil
      subst eg
      have y2 : wr.cell? ⟨g, off + aa, none⟩ = some (.int .i64 xs[aa]) := by
        obtain ⟨g', off', e, _, y⟩ := R1.cell hal
        cases e
        exact y
      have HBx : Hid (∀ w', Touch [] V w' → w'.cell? ⟨w.heap.size, 0, none⟩ = some (.int .i64 3) ∧ w'.cell? ⟨w.heap.size, 3, none⟩ = some (.slice (some ⟨g, off, none⟩) N cl)) := hid (fun w' T => by
        have hb : V.heap[w.heap.size]?.isSome = true := by
          unfold World.cell? at i0
          cases hh : V.heap[w.heap.size]? with
          | none => rw [hh] at i0; cases i0
          | some _ => rfl
        have hlt2 : w.heap.size < V.heap.size := by
          rcases Nat.lt_or_ge w.heap.size V.heap.size with q | q
          · exact q
          · rw [Array.getElem?_eq_none q] at hb; cases hb
        have e := T.block w.heap.size hlt2 (by simp)
        exact ⟨(cell_keep e).trans i0, (cell_keep e).trans i3⟩)
      obtain ⟨j0, j3⟩ := HBx.out wr HT.out
      have HYes : Hid ((xs[i] < xs[aa]) → ∀ (j : Nat) (hj : j < xs.length) (ha : i < xs.length), j < i + 1 → xs[i] ≤ xs[j]) := hid (fun hlt' j hj ha2 h => by
        rcases Nat.lt_or_ge j i with q | q
        · have := HX.out j hj hal q; omega
        · have : j = i := by omega
          subst this; omega)
      have HNo : Hid (¬ (xs[i] < xs[aa]) → ∀ (j : Nat) (hj : j < xs.length) (ha : aa < xs.length), j < i + 1 → xs[aa] ≤ xs[j]) := hid (fun hlt' j hj ha2 h => by
        rcases Nat.lt_or_ge j i with q | q
        · exact HX.out j hj hal q
        · have : j = i := by omega
          subst this; omega)
      generalize xs[i] = ki at *
      generalize xs[aa] = ka at *
      clear R1 hil hal n0 i0 i1 i2 i3 i4 HX
      by_cases hc : ki < ka
      · have HY2 := hid (HYes.out hc)
        go_upto_block 2 with fail
        go_upto_region 16 with fail
        go_quiet (fail)
        go_wp2
        go_roundw
        case rel => exact ⟨i, i + 1, rfl, by go_num, by omega, by omega, HT.out.drewN _, HY2⟩
        case measure => simp [intOf]; omega
      · have HY2 := hid (HNo.out hc)
        go_upto_block 2 with fail
        go_upto_region 16 with fail
        go_quiet (fail)
        go_wp2
        go_roundw
        case rel => exact ⟨aa, i + 1, rfl, by go_num, by omega, by omega, HT.out.drewN _, HY2⟩
        case measure => simp [intOf]; omega
    · have zi : ¬ (i : Int) < (N : Int) := by omega
      have HE : Hid (R = aa) := hid (by
        have hal : aa < xs.length := by omega
        rw [HRR.out]
        refine least_is HND.out hal (fun x hx => ?_)
        obtain ⟨j, hj, rfl⟩ := List.mem_iff_getElem.1 hx
        exact HX.out j hj hal (by omega))
      have j1 : wr.cell? ⟨w.heap.size, 1, none⟩ = some (.int .u64 (st : Int)) := by
        have hb : V.heap[w.heap.size]?.isSome = true := by
          unfold World.cell? at i0
          cases hh : V.heap[w.heap.size]? with
          | none => rw [hh] at i0; cases i0
          | some _ => rfl
        have hlt2 : w.heap.size < V.heap.size := by
          rcases Nat.lt_or_ge w.heap.size V.heap.size with q | q
          · exact q
          · rw [Array.getElem?_eq_none q] at hb; cases hb
        exact (cell_keep (HT.out.block w.heap.size hlt2 (by simp))).trans i1
      clear i0 i1 i2 i3 i4 HX n0
      go_upto_region 19 with fail
      go_quiet (fail)
      go_wp2
      rw [HE.out]
      exact bodyPost_ret (v := .tuple #[.int .i64 (aa : Int), .int .u64 (st : Int)]) (by simp [results, Try.results31, go_sem]) rfl ⟨rfl, TV.out.trans' (HT.out.drewN _)⟩
set_option maxHeartbeats 4000000 in
theorem place_most (h : Dm w S p l t) (hv : Iv S N) (hne : S.ln ≠ []) (hlt : ¬ S.tl.length < S.pk.length) (hk : S.pol = 4) : Calls Try.prog 31 #[dvv S p l t] w fun e w' => e = .returned (.tuple #[.int .i64 (((placeS S).1 : Nat) : Int), .int .u64 (((placeS S).2 : Nat) : Int)]) ∧ Touch [] w w' := by
  have e1 : placeS S = (S.ln.idxOf (maxL S.ln), S.st) := by unfold placeS chooseN; rw [dif_neg hlt, if_neg (by omega), if_neg (by omega), if_neg (by omega), if_pos hk]
  rw [e1]
  have hp : 0 < S.ln.length := List.length_pos_iff.2 hne
  have e0 : S.pk.drop S.tl.length = [] := List.drop_of_length_le (by omega)
  obtain ⟨ap, cp, ep, _⟩ := h.p.form
  obtain ⟨al, cl, el, _⟩ := h.l.form
  obtain ⟨at', ct, et, _⟩ := h.t.form
  rw [e0] at ep
  simp only [List.length_nil] at ep
  subst ep el et
  obtain ⟨V, hV⟩ : ∃ V, V = w.alloc (.cells (dvc S (.slice ap 0 cp) (.slice al S.ln.length cl) (.slice at' S.tl.length ct)) 32) := ⟨_, rfl⟩
  have tv : Touch [] w V := by rw [hV]; exact (Touch.refl _ _).alloc _
  have hbx : V.heap[w.heap.size]? = some (.cells (dvc S (.slice ap 0 cp) (.slice al S.ln.length cl) (.slice at' S.tl.length ct)) 32 (0, 0)) := by rw [hV]; exact heap_alloc_new w _
  have HRl := hid (h.l.keep0 tv)
  obtain ⟨i0, i1, i2, i3, i4, iff⟩ := dcs_at hbx
  have hl1 := hv.l1
  have hs1 := hv.s1
  have hnd := hv.nd
  have TV := hid tv
  unfold dvc at hV i0 i1 i2 i3 i4
  unfold dvv dvc
  clear h hbx e0 tv iff
  rw [hk] at i0 hV ⊢
  clear hv hne hlt e1 hs1 hk
  have HND := hid hnd
  have HP := hid hp
  generalize S.st = st at *
  generalize S.ln = xs at *
  obtain ⟨N, hN⟩ : ∃ N, N = xs.length := ⟨_, rfl⟩
  have HN := hid hN
  rw [← hN] at hl1 i3 hV HRl HP hp ⊢
  have zl : (N : Int) < 9223372036854775807 := by omega
  obtain ⟨R, hR⟩ : ∃ R, R = xs.idxOf (maxL xs) := ⟨_, rfl⟩
  have HRR := hid hR
  simp only [← hR]
  clear hnd hp hl1 hN hR
  go_enter Try.func31, Try.ntmps31
  go_upto_region 1 with fail
  rw [← hV]
  clear hV
  go_wp2_with fail
  go_loopw [6, 52] (fun s6 s52 wr => ∃ aa i : Nat, s6 = .int .i64 (aa : Int) ∧ s52 = .int .i64 (i : Int) ∧ i ≤ N ∧ aa < N ∧ Hid (Touch [] V wr) ∧ Hid (∀ (j : Nat) (hj : j < xs.length) (ha : aa < xs.length), j < i → xs[j] ≤ xs[aa])) (fun _ i _ => N - (intOf i).toNat)
  case atStart => exact ⟨0, 0, rfl, rfl, Nat.zero_le _, HP.out, Touch.refl _ _, hid (fun j hj ha h => absurd h (Nat.not_lt_zero j))⟩
  case round =>
    obtain ⟨aa, i, rfl, rfl, hi, ha, HT, HX⟩ := hrel
    have n0 := HN.out
    by_cases hlt : i < N
    · have zi : (i : Int) < (N : Int) := by omega
      have za : (aa : Int) < (N : Int) := by omega
      have hil : i < xs.length := by omega
      have hal : aa < xs.length := by omega
      have R1 := HRl.out.keep0 HT.out
      obtain ⟨g, off, eg, _, y1⟩ := R1.cell hil
      subst eg
      have y2 : wr.cell? ⟨g, off + aa, none⟩ = some (.int .i64 xs[aa]) := by
        obtain ⟨g', off', e, _, y⟩ := R1.cell hal
        cases e
        exact y
      have HBx : Hid (∀ w', Touch [] V w' → w'.cell? ⟨w.heap.size, 0, none⟩ = some (.int .i64 4) ∧ w'.cell? ⟨w.heap.size, 3, none⟩ = some (.slice (some ⟨g, off, none⟩) N cl)) := hid (fun w' T => by
        have hb : V.heap[w.heap.size]?.isSome = true := by
          unfold World.cell? at i0
          cases hh : V.heap[w.heap.size]? with
          | none => rw [hh] at i0; cases i0
          | some _ => rfl
        have hlt2 : w.heap.size < V.heap.size := by
          rcases Nat.lt_or_ge w.heap.size V.heap.size with q | q
          · exact q
          · rw [Array.getElem?_eq_none q] at hb; cases hb
        have e := T.block w.heap.size hlt2 (by simp)
        exact ⟨(cell_keep e).trans i0, (cell_keep e).trans i3⟩)
      obtain ⟨j0, j3⟩ := HBx.out wr HT.out
      have HYes : Hid ((xs[aa] < xs[i]) → ∀ (j : Nat) (hj : j < xs.length) (ha : i < xs.length), j < i + 1 → xs[j] ≤ xs[i]) := hid (fun hlt' j hj ha2 h => by
        rcases Nat.lt_or_ge j i with q | q
        · have := HX.out j hj hal q; omega
        · have : j = i := by omega
          subst this; omega)
      have HNo : Hid (¬ (xs[aa] < xs[i]) → ∀ (j : Nat) (hj : j < xs.length) (ha : aa < xs.length), j < i + 1 → xs[j] ≤ xs[aa]) := hid (fun hlt' j hj ha2 h => by
        rcases Nat.lt_or_ge j i with q | q
        · exact HX.out j hj hal q
        · have : j = i := by omega
          subst this; omega)
      generalize xs[i] = ki at *
      generalize xs[aa] = ka at *
      clear R1 hil hal n0 i0 i1 i2 i3 i4 HX
      by_cases hc : ka < ki
      · have HY2 := hid (HYes.out hc)
        go_upto_block 2 with fail
        go_upto_region 16 with fail
        go_quiet (fail)
        go_wp2
        go_roundw
        case rel => exact ⟨i, i + 1, rfl, by go_num, by omega, by omega, HT.out.drewN _, HY2⟩
        case measure => simp [intOf]; omega
      · have HY2 := hid (HNo.out hc)
        go_upto_block 2 with fail
        go_upto_region 16 with fail
        go_quiet (fail)
        go_wp2
        go_roundw
        case rel => exact ⟨aa, i + 1, rfl, by go_num, by omega, by omega, HT.out.drewN _, HY2⟩
        case measure => simp [intOf]; omega
    · have zi : ¬ (i : Int) < (N : Int) := by omega
      have HE : Hid (R = aa) := hid (by
        have hal : aa < xs.length := by omega
        rw [HRR.out]
        refine most_is HND.out hal (fun x hx => ?_)
        obtain ⟨j, hj, rfl⟩ := List.mem_iff_getElem.1 hx
        exact HX.out j hj hal (by omega))
      have j1 : wr.cell? ⟨w.heap.size, 1, none⟩ = some (.int .u64 (st : Int)) := by
        have hb : V.heap[w.heap.size]?.isSome = true := by
          unfold World.cell? at i0
          cases hh : V.heap[w.heap.size]? with
          | none => rw [hh] at i0; cases i0
          | some _ => rfl
        have hlt2 : w.heap.size < V.heap.size := by
          rcases Nat.lt_or_ge w.heap.size V.heap.size with q | q
          · exact q
          · rw [Array.getElem?_eq_none q] at hb; cases hb
        exact (cell_keep (HT.out.block w.heap.size hlt2 (by simp))).trans i1
      clear i0 i1 i2 i3 i4 HX n0
      go_upto_region 19 with fail
      go_quiet (fail)
      go_wp2
      rw [HE.out]
      exact bodyPost_ret (v := .tuple #[.int .i64 (aa : Int), .int .u64 (st : Int)]) (by simp [results, Try.results31, go_sem]) rfl ⟨rfl, TV.out.trans' (HT.out.drewN _)⟩
set_option maxHeartbeats 4000000 in
theorem place_ (h : Dm w S p l t) (hv : Iv S N) (hne : S.ln ≠ []) : Calls Try.prog 31 #[dvv S p l t] w fun e w' => e = .returned (.tuple #[.int .i64 (((placeS S).1 : Nat) : Int), .int .u64 (((placeS S).2 : Nat) : Int)]) ∧ Touch [] w w' := by
  by_cases hlt : S.tl.length < S.pk.length
  · exact place_pk h hv hne hlt
  · have h1 := hv.p1
    have h2 := hv.p2
    have h3 : S.pol = 0 ∨ S.pol = 1 ∨ S.pol = 2 ∨ S.pol = 3 ∨ S.pol = 4 := by omega
    rcases h3 with e | e | e | e | e
    · exact place_turn h hv hne hlt e
    · exact place_last h hv hne hlt e
    · exact place_lot h hv hne hlt e
    · exact place_least h hv hne hlt e
    · exact place_most h hv hne hlt e
end
end Go.Proofs.Ythpkkfmphoopnaa.Re
