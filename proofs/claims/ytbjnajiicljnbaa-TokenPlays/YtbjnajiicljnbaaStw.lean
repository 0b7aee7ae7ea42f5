/- The contract of the law's look at tokens against the document's list. -/
import Derived.Test.YtbjnajiicljnbaaSta
import Derived.Deep.CutBlock
namespace Go.Proofs.Ytbjnajiicljnbaa
open Go.RowKit Go.Maps Go.ChangeMaps
set_option linter.unusedVariables false
set_option linter.unusedSimpArgs false
section
variable (w : World) (t : Nat) (sl : Value) (B g c : Nat) (S : List Tk) (j : Int)
set_option maxHeartbeats 4000000 in
set_option maxRecDepth 100000 in
theorem stands16 (h : Tn w t sl S) (ok : Ok S) (hr : RR w B g c S) : Calls Try.prog 16 #[PT t, .slice (some ⟨g, 0, none⟩) S.length c, .int .i64 j] w fun e w' => e = .returned (.bool true) ∧ Touch [] w w' := by
  obtain ⟨i3, hi3, hy0, hy1, hy2⟩ := info_parts info3
  have HT : Hid (∀ w', Touch [] w w' → Tn w' t sl S ∧ RR w' B g c S) := fun w' T => ⟨h.keep0 T, hr.keep0 T⟩
  have HX : Hid (∀ w' (k : Nat), Touch [] w w' → k < S.length → w'.cell? ⟨g, k * 3, none⟩ = some (.int .i64 ((tk S (k + 1)).par : Nat)) ∧ w'.cell? ⟨g, k * 3 + 1, none⟩ = some (.int .i64 ((tk S (k + 1)).hol : Nat)) ∧ w'.cell? ⟨g, k * 3 + 2, none⟩ = some (.int .i64 ((tk S (k + 1)).why : Nat))) := fun w' k T hk => (hr.keep0 T).cells (m := k + 1) (by omega) (by omega)
  have HG : Hid (∀ w' (k : Nat), Touch [] w w' → k < S.length → (Calls Try.prog 22 #[PT t, .int .i64 ((k : Int) + 1)] w' fun e w'' => e = .returned (.bool (((tk S (k + 1)).why : Int) != 0)) ∧ Touch [] w' w'') ∧ (Calls Try.prog 21 #[PT t, .int .i64 ((k : Int) + 1)] w' fun e w'' => e = .returned (.int .i64 ((tk S (k + 1)).why : Int)) ∧ Touch [] w' w'') ∧ (Calls Try.prog 24 #[PT t, .int .i64 ((k : Int) + 1)] w' fun e w'' => e = .returned (.int .i64 ((tk S (k + 1)).hol : Int)) ∧ Touch [] w' w'') ∧ (Calls Try.prog 20 #[PT t, .int .i64 ((k : Int) + 1)] w' fun e w'' => e = .returned (.int .i64 ((tk S (k + 1)).par : Int)) ∧ Touch [] w' w'')) := fun w' k T hk => by
    have h' := h.keep0 T
    have e : ((k : Int) + 1) = ((k + 1 : Nat) : Int) := by omega
    have f1 := fI_ok (f := Tk.why) (S := S) (m := k + 1) (by omega) (by omega)
    have f2 := fI_ok (f := Tk.hol) (S := S) (m := k + 1) (by omega) (by omega)
    have f3 := fI_ok (f := Tk.par) (S := S) (m := k + 1) (by omega) (by omega)
    rw [e]
    refine ⟨(is22 w' t sl S _ h').mono ?_, (why21 w' t sl S _ h').mono ?_, (holders24 w' t sl S _ h').mono ?_, (parent20 w' t sl S _ h').mono ?_⟩
    · rintro e w'' ⟨rfl, rfl⟩; rw [f1]; exact ⟨rfl, Touch.refl _ _⟩
    · rintro e w'' ⟨rfl, rfl⟩; rw [f1]; exact ⟨rfl, Touch.refl _ _⟩
    · rintro e w'' ⟨rfl, rfl⟩; rw [f2]; exact ⟨rfl, Touch.refl _ _⟩
    · rintro e w'' ⟨rfl, rfl⟩; rw [f3]; exact ⟨rfl, Touch.refl _ _⟩
  have HI : Hid (∀ w', Calls Try.prog 9 #[.slice (some ⟨g, 0, none⟩) S.length c, .int .i64 j] w' fun e w'' => e = .returned (.bool (vaB S j)) ∧ w'' = w') := fun w' => ris9 w' g c S j
  have HH : Hid (vaB S j = true → ∀ w' (k : Nat), Touch [] w w' → k < S.length → Calls Try.prog 28 #[.slice (some ⟨g, 0, none⟩) S.length c, .int .i64 ((k : Int) + 1), .int .i64 j] w' fun e w'' => e = .returned (.bool (hg S (k + 1) j.toNat)) ∧ w'' = w') := fun hv w' k T hk => by
    obtain ⟨m, rfl, m1, m2⟩ := va_yes hv
    exact rhangs28 w' B g c S (hr.keep0 T) ok h.le (k + 1) m (by omega) (by omega)
  have HLe := hid h.le
  have HEnd : Hid (∀ w' a7 m7 c7 a8 m8 c8, Sd w w' a7 m7 c7 a8 m8 c8 S j S.length → (Calls Try.prog 19 #[PT t] w' fun e w'' => e = .returned (.int .i64 (S.length : Nat)) ∧ w'' = w') ∧ (Calls Try.prog 23 #[PT t] w' fun e w'' => ∃ a c', e = .returned (.slice a m7 c') ∧ Touch [] w w'' ∧ (Calls Try.prog 11 #[.slice a m7 c', .slice a7 m7 c7] w'' fun e w3 => e = .returned (.bool true) ∧ Touch [] w w3 ∧ (Calls Try.prog 25 #[PT t, .int .i64 j] w3 fun e w4 => ∃ a c', e = .returned (.slice a m8 c') ∧ Touch [] w w4 ∧ (Calls Try.prog 11 #[.slice a m8 c', .slice a8 m8 c8] w4 fun e w5 => e = .returned (.bool true) ∧ Touch [] w w5)))) ∧ (vaB S j = false → (Calls Try.prog 22 #[PT t, .int .i64 j] w' fun e w'' => e = .returned (.bool false) ∧ w'' = w') ∧ (Calls Try.prog 21 #[PT t, .int .i64 j] w' fun e w'' => e = .returned (.int .i64 0) ∧ w'' = w') ∧ (Calls Try.prog 24 #[PT t, .int .i64 j] w' fun e w'' => e = .returned (.int .i64 0) ∧ w'' = w') ∧ (Calls Try.prog 20 #[PT t, .int .i64 j] w' fun e w'' => e = .returned (.int .i64 0) ∧ w'' = w'))) := fun w' a7 m7 c7 a8 m8 c8 d => by
    have h' := h.keep0 d.tc
    have e7 : livK S S.length = livL S := rfl
    have l7 := d.l7
    have r7 := d.r7
    rw [e7] at l7 r7
    have l8 := d.l8
    have r8 := d.r8
    rw [unK_all] at l8 r8
    subst l7 l8
    refine ⟨len19 w' t sl S h', (live23 w' t sl S h').mono ?_, fun hv => ?_⟩
    · rintro e w2 ⟨a, c', he, q1, q2⟩
      refine ⟨a, c', he, d.tc.trans' q2, (same11 w2 w'.heap.size w.heap.size _ _ (livL S) q1 ((RI.of_own r7).keep0 q2) (Nat.le_trans (List.length_filter_le _ _) (by simpa using h.le))).mono ?_⟩
      rintro e w3 ⟨he3, q3⟩
      have T3 : Touch [] w' w3 := q2.trans' q3
      refine ⟨he3, d.tc.trans' T3, ?_⟩
      have HU : Calls Try.prog 25 #[PT t, .int .i64 j] w3 fun e w4 => RiE e w3 w4 (unL S j) := by
        have h3 := h'.keep0 T3
        unfold unL
        by_cases hv : vaB S j = true
        · rw [hv]
          obtain ⟨m, rfl, m1, m2⟩ := va_yes hv
          exact under25 w3 t sl S m h3 ok m1 m2
        · have hv : vaB S j = false := by simpa using hv
          rw [hv]
          exact under25_no w3 t sl S j h3 (va_no hv)
      refine HU.mono ?_
      rintro e w4 ⟨a4, c4, he4, q4, q5⟩
      refine ⟨a4, c4, he4, (d.tc.trans' T3).trans' q5, (same11 w4 w3.heap.size w.heap.size _ _ (unL S j) q4 ((RI.of_own r8).keep0 (T3.trans' q5)) ?_).mono ?_⟩
      · rw [← unK_all]; exact Nat.le_trans (unK_le _ _ _) h.le
      · rintro e w5 ⟨he5, q6⟩
        exact ⟨he5, ((d.tc.trans' T3).trans' q5).trans' q6⟩
    · have hn := va_no hv
      refine ⟨(is22 w' t sl S j h').mono ?_, (why21 w' t sl S j h').mono ?_, (holders24 w' t sl S j h').mono ?_, (parent20 w' t sl S j h').mono ?_⟩
      · rintro e w'' ⟨rfl, rfl⟩; rw [fI_no hn]; exact ⟨rfl, rfl⟩
      · rintro e w'' ⟨rfl, rfl⟩; rw [fI_no hn]; exact ⟨rfl, rfl⟩
      · rintro e w'' ⟨rfl, rfl⟩; rw [fI_no hn]; exact ⟨rfl, rfl⟩
      · rintro e w'' ⟨rfl, rfl⟩; rw [fI_no hn]; exact ⟨rfl, rfl⟩
  clear h ok hr HT
  obtain ⟨N, hN⟩ : ∃ N, N = S.length := ⟨_, rfl⟩
  have HN := hid hN
  rw [← hN] at HX HG HI HH HLe HEnd ⊢
  clear hN
  have H0 := hid (Sd.start w S j)
  unfold PT at *
  have zl : (N : Int) < 9223372036854775807 := by have := HLe.out; omega
  go_enter Try.func16, Try.ntmps16
  go_wp2
  go_loopw [7, 8, 16] (fun s7 s8 s16 wr => ∃ a7 m7 c7 a8 m8 c8 i, s7 = .slice a7 m7 c7 ∧ s8 = .slice a8 m8 c8 ∧ s16 = .int .i64 (i : Nat) ∧ i ≤ N ∧ Hid (Sd w wr a7 m7 c7 a8 m8 c8 S j i)) (fun _ _ i _ => N - (intOf i).toNat)
  case atStart => exact ⟨_, _, _, _, _, _, 0, rfl, rfl, rfl, Nat.zero_le _, H0⟩
  case round =>
    clear H0
    obtain ⟨a7, m7, c7, a8, m8, c8, i, rfl, rfl, rfl, hi, HR⟩ := hrel
    by_cases hlt : i < N
    · have zi : (i : Int) < (N : Int) := by omega
      obtain ⟨x0, x1, x2⟩ := HX.out wr i HR.out.tc hlt
      have zw : IntKind.i64.wrap ((i : Int) + 1) = (i : Int) + 1 := by have := HLe.out; simp [IntKind.wrap, IntKind.bits, IntKind.signed]; omega
      go_upto_region 6 with fail
      obtain ⟨V, hV⟩ : ∃ V, V = wr.alloc (.cells #[.int .i64 ((tk S (i + 1)).par : Nat), .int .i64 ((tk S (i + 1)).hol : Nat), .int .i64 ((tk S (i + 1)).why : Nat)] 39) := ⟨_, rfl⟩
      have TV : Touch [] wr V := by rw [hV]; exact (Touch.refl _ _).alloc _
      have bV : V.heap[wr.heap.size]? = some (.cells #[.int .i64 ((tk S (i + 1)).par : Nat), .int .i64 ((tk S (i + 1)).hol : Nat), .int .i64 ((tk S (i + 1)).why : Nat)] 39 (0, 0)) := by rw [hV]; exact heap_alloc_new _ _
      have HD := hid (HR.out.quiet TV)
      have f0 : ∀ w', Touch [] V w' → w'.cell? ⟨wr.heap.size, 0, none⟩ = some (.int .i64 ((tk S (i + 1)).par : Int)) := fun w' T => by have := T.keep bV (by simp); simp [World.cell?, this]
      have f1 : ∀ w', Touch [] V w' → w'.cell? ⟨wr.heap.size, 1, none⟩ = some (.int .i64 ((tk S (i + 1)).hol : Int)) := fun w' T => by have := T.keep bV (by simp); simp [World.cell?, this]
      have f2 : ∀ w', Touch [] V w' → w'.cell? ⟨wr.heap.size, 2, none⟩ = some (.int .i64 ((tk S (i + 1)).why : Int)) := fun w' T => by have := T.keep bV (by simp); simp [World.cell?, this]
      have G1 : Hid (∀ w', Touch [] V w' → _) := fun w' T => (HG.out w' i (HD.out.tc.trans' T) hlt).1
      have G2 : Hid (∀ w', Touch [] V w' → _) := fun w' T => (HG.out w' i (HD.out.tc.trans' T) hlt).2.1
      have G3 : Hid (∀ w', Touch [] V w' → _) := fun w' T => (HG.out w' i (HD.out.tc.trans' T) hlt).2.2.1
      have G4 : Hid (∀ w', Touch [] V w' → _) := fun w' T => (HG.out w' i (HD.out.tc.trans' T) hlt).2.2.2
      have HLv : Hid (liv S (i + 1) = (((tk S (i + 1)).why : Int) == 0)) := by
        show _ = _
        unfold liv
        have := nat_bne (tk S (i + 1)).why
        rw [bne] at this
        exact (Bool.not_inj this).symm
      have HJ := hid hlt
      rw [← hV]
      clear hV TV bV x0 x1 x2 HR hi hlt HX HG
      generalize ((tk S (i + 1)).par : Int) = pp at *
      generalize ((tk S (i + 1)).hol : Int) = hh at *
      generalize ((tk S (i + 1)).why : Int) = yy at *
      generalize wr.heap.size = bx at *
      go_cut [53] from 23 to 53 (fun s wx => s = .bool false ∧ Touch [] V wx)
      case first =>
        clear HEnd HH HI HLv HD
        by_cases hy : (yy != 0) = true
        · go_region_held3 (fun w' => Touch [] V w') (first | assumption | exact (Touch.refl _ _).drew | exact Touch.refl _ _ | exact Touch.drew (by assumption))
            (first
              | (go_at_call 22; refine (G1.out _ (by assumption)).mono ?_; rintro e w1 ⟨rfl, t1⟩; have T1 : Touch [] V w1 := Touch.trans' (by assumption) t1; clear t1)
              | (go_at_call 21; refine (G2.out _ (by assumption)).mono ?_; rintro e w2 ⟨rfl, t2⟩; have T2 : Touch [] V w2 := Touch.trans' (by assumption) t2; clear t2)
              | (go_at_call 24; refine (G3.out _ (by assumption)).mono ?_; rintro e w3 ⟨rfl, t3⟩; have T3 : Touch [] V w3 := Touch.trans' (by assumption) t3; clear t3)
              | (go_at_call 20; refine (G4.out _ (by assumption)).mono ?_; rintro e w4 ⟨rfl, t4⟩; have T4 : Touch [] V w4 := Touch.trans' (by assumption) t4; clear t4))
          all_goals
            go_wp2
            go_meet
            case rel => exact ⟨rfl, T4⟩
        · have hy : (yy != 0) = false := by simpa using hy
          go_region_held3 (fun w' => Touch [] V w') (first | assumption | exact (Touch.refl _ _).drew | exact Touch.refl _ _ | exact Touch.drew (by assumption))
            (first
              | (go_at_call 22; refine (G1.out _ (by assumption)).mono ?_; rintro e w1 ⟨rfl, t1⟩; have T1 : Touch [] V w1 := Touch.trans' (by assumption) t1; clear t1)
              | (go_at_call 21; refine (G2.out _ (by assumption)).mono ?_; rintro e w2 ⟨rfl, t2⟩; have T2 : Touch [] V w2 := Touch.trans' (by assumption) t2; clear t2)
              | (go_at_call 24; refine (G3.out _ (by assumption)).mono ?_; rintro e w3 ⟨rfl, t3⟩; have T3 : Touch [] V w3 := Touch.trans' (by assumption) t3; clear t3)
              | (go_at_call 20; refine (G4.out _ (by assumption)).mono ?_; rintro e w4 ⟨rfl, t4⟩; have T4 : Touch [] V w4 := Touch.trans' (by assumption) t4; clear t4))
          all_goals
            go_wp2
            go_meet
            case rel => exact ⟨rfl, T4⟩
      case rest =>
        obtain ⟨rfl, tcut⟩ := hcut
        have x2 := f2 wc tcut
        have HD2 := hid (HD.out.quiet tcut)
        have hbs := HD2.out.tc.size
        have HM : Hid (i < N ∧ m7 ≤ i ∧ m8 ≤ i) := ⟨HJ.out, by rw [HD2.out.l7]; exact livK_le S i, by rw [HD2.out.l8]; exact unK_le S j i⟩
        clear f0 f1 f2 G1 G2 G3 G4 HD tcut HEnd
        generalize Value.agg #[Value.int IntKind.i64 pp, Value.int IntKind.i64 hh, Value.int IntKind.i64 yy] = d20
        by_cases hy : (yy == 0) = true
        · have HQ : Hid (liv S (i + 1) = true) := by show _ = _; rw [HLv.out]; exact hy
          by_cases hv : vaB S j = true
          · have HH := hid (HH.out hv)
            rw [hv] at HI
            by_cases hh2 : hg S (i + 1) j.toNat = true
            · have HU : Hid (unB S j (i + 1) = true) := by show _ = _; unfold unB; rw [hv, hh2]; rfl
              have HH : Hid (∀ w' (k : Nat), Touch [] w w' → k < N → Calls Try.prog 28 #[.slice (some ⟨g, 0, none⟩) N c, .int .i64 ((i : Int) + 1), .int .i64 j] w' fun e w'' => e = .returned (.bool true) ∧ w'' = w') := fun w' k T hk => by have := HH.out w' i T HJ.out; rw [hh2] at this; exact this
              clear hh2 hv
              go_wp2_with (first
                | (at_builtin; refine wpList_append_lies _ rfl _ _ 29 rfl w.heap.size 3 i3 (.int .i64 0) 1 8 Try.underlying29 hi3 hy0 hy1 hy2 rfl (by decide) (.slice a7 m7 c7) m7 (ints (livK S i)) rfl (HD2.out.r7.alloc _) ⟨_, 0, none⟩ 1 1 [.int .i64 ((i : Int) + 1)] rfl rfl (cell_one_new _ _ _) (by simp [Value.oneCell']) (by decide) (by have := HLe.out; have := HM.out; unfold maxLen; omega) (by have := HLe.out; have := HM.out; omega) (by simp; omega) _ rfl ?_; intro g1 c1 w5 hown5 hgrow hat hlt5; have HS := hid (HD2.out.yes7 HQ.out hown5 (((Touch.refl _ _).alloc _).grown hgrow (fun k hk => Or.inl (by simp [hk]))) hat (by simp)); have hbs5 := HS.out.tc.size; clear hown5 hgrow hat hlt5)
                | (go_at_call 9; refine (HI.out _).mono ?_; rintro e w8 ⟨rfl, rfl⟩)
                | (go_at_call 28; refine (HH.out _ i HS.out.tc HJ.out).mono ?_; rintro e w9 ⟨rfl, rfl⟩)
                | (at_builtin; refine wpList_append_lies _ rfl _ _ 29 rfl w.heap.size 3 i3 (.int .i64 0) 1 8 Try.underlying29 hi3 hy0 hy1 hy2 rfl (by decide) (.slice a8 m8 c8) m8 (ints (unK S j i)) rfl (HS.out.r8.alloc _) ⟨_, 0, none⟩ 1 1 [.int .i64 ((i : Int) + 1)] rfl rfl (cell_one_new _ _ _) (by simp [Value.oneCell']) (by decide) (by have := HLe.out; have := HM.out; unfold maxLen; omega) (by have := HLe.out; have := HM.out; omega) (by simp; omega) _ rfl ?_; intro g2 c2 w6 hown6 hgrow hat hlt6; have HF := hid (HS.out.yes8 HU.out hown6 (((Touch.refl _ _).alloc _).grown hgrow (fun k hk => Or.inl (by simp [hk]))) hat (by simp)); clear hown6 hgrow hat hlt6))
              go_roundw
              case rel => exact ⟨_, _, _, _, _, _, i + 1, rfl, rfl, by go_num, by have := HJ.out; omega, HF⟩
              case measure => have := HJ.out; simp [intOf]; omega
            · have hh2 : hg S (i + 1) j.toNat = false := by simpa using hh2
              have HU : Hid (unB S j (i + 1) = false) := by show _ = _; unfold unB; rw [hv, hh2]; rfl
              have HH : Hid (∀ w' (k : Nat), Touch [] w w' → k < N → Calls Try.prog 28 #[.slice (some ⟨g, 0, none⟩) N c, .int .i64 ((i : Int) + 1), .int .i64 j] w' fun e w'' => e = .returned (.bool false) ∧ w'' = w') := fun w' k T hk => by have := HH.out w' i T HJ.out; rw [hh2] at this; exact this
              clear hh2 hv
              go_wp2_with (first
                | (at_builtin; refine wpList_append_lies _ rfl _ _ 29 rfl w.heap.size 3 i3 (.int .i64 0) 1 8 Try.underlying29 hi3 hy0 hy1 hy2 rfl (by decide) (.slice a7 m7 c7) m7 (ints (livK S i)) rfl (HD2.out.r7.alloc _) ⟨_, 0, none⟩ 1 1 [.int .i64 ((i : Int) + 1)] rfl rfl (cell_one_new _ _ _) (by simp [Value.oneCell']) (by decide) (by have := HLe.out; have := HM.out; unfold maxLen; omega) (by have := HLe.out; have := HM.out; omega) (by simp; omega) _ rfl ?_; intro g1 c1 w5 hown5 hgrow hat hlt5; have HS := hid (HD2.out.yes7 HQ.out hown5 (((Touch.refl _ _).alloc _).grown hgrow (fun k hk => Or.inl (by simp [hk]))) hat (by simp)); have hbs5 := HS.out.tc.size; clear hown5 hgrow hat hlt5)
                | (go_at_call 9; refine (HI.out _).mono ?_; rintro e w8 ⟨rfl, rfl⟩)
                | (go_at_call 28; refine (HH.out _ i HS.out.tc HJ.out).mono ?_; rintro e w9 ⟨rfl, rfl⟩))
              have HF := hid (HS.out.no8 HU.out)
              go_roundw
              case rel => exact ⟨_, _, _, _, _, _, i + 1, rfl, rfl, by go_num, by have := HJ.out; omega, HF⟩
              case measure => have := HJ.out; simp [intOf]; omega
          · have hv : vaB S j = false := by simpa using hv
            have HU : Hid (unB S j (i + 1) = false) := by show _ = _; unfold unB; rw [hv]; rfl
            rw [hv] at HI
            clear hv HH
            go_wp2_with (first
              | (at_builtin; refine wpList_append_lies _ rfl _ _ 29 rfl w.heap.size 3 i3 (.int .i64 0) 1 8 Try.underlying29 hi3 hy0 hy1 hy2 rfl (by decide) (.slice a7 m7 c7) m7 (ints (livK S i)) rfl (HD2.out.r7.alloc _) ⟨_, 0, none⟩ 1 1 [.int .i64 ((i : Int) + 1)] rfl rfl (cell_one_new _ _ _) (by simp [Value.oneCell']) (by decide) (by have := HLe.out; have := HM.out; unfold maxLen; omega) (by have := HLe.out; have := HM.out; omega) (by simp; omega) _ rfl ?_; intro g1 c1 w5 hown5 hgrow hat hlt5; have HS := hid (HD2.out.yes7 HQ.out hown5 (((Touch.refl _ _).alloc _).grown hgrow (fun k hk => Or.inl (by simp [hk]))) hat (by simp)); have hbs5 := HS.out.tc.size; clear hown5 hgrow hat hlt5)
              | (go_at_call 9; refine (HI.out _).mono ?_; rintro e w8 ⟨rfl, rfl⟩))
            have HF := hid (HS.out.no8 HU.out)
            go_roundw
            case rel => exact ⟨_, _, _, _, _, _, i + 1, rfl, rfl, by go_num, by have := HJ.out; omega, HF⟩
            case measure => have := HJ.out; simp [intOf]; omega
        · have hy : (yy == 0) = false := by simpa using hy
          have HQ : Hid (liv S (i + 1) = false) := by show _ = _; rw [HLv.out]; exact hy
          by_cases hv : vaB S j = true
          · have HH := hid (HH.out hv)
            rw [hv] at HI
            by_cases hh2 : hg S (i + 1) j.toNat = true
            · have HU : Hid (unB S j (i + 1) = true) := by show _ = _; unfold unB; rw [hv, hh2]; rfl
              have HH : Hid (∀ w' (k : Nat), Touch [] w w' → k < N → Calls Try.prog 28 #[.slice (some ⟨g, 0, none⟩) N c, .int .i64 ((i : Int) + 1), .int .i64 j] w' fun e w'' => e = .returned (.bool true) ∧ w'' = w') := fun w' k T hk => by have := HH.out w' i T HJ.out; rw [hh2] at this; exact this
              clear hh2 hv
              have HS := hid (HD2.out.no7 HQ.out)
              have hbs5 := HS.out.tc.size
              go_wp2_with (first
                | (go_at_call 9; refine (HI.out _).mono ?_; rintro e w8 ⟨rfl, rfl⟩)
                | (go_at_call 28; refine (HH.out _ i HS.out.tc HJ.out).mono ?_; rintro e w9 ⟨rfl, rfl⟩)
                | (at_builtin; refine wpList_append_lies _ rfl _ _ 29 rfl w.heap.size 3 i3 (.int .i64 0) 1 8 Try.underlying29 hi3 hy0 hy1 hy2 rfl (by decide) (.slice a8 m8 c8) m8 (ints (unK S j i)) rfl (HS.out.r8.alloc _) ⟨_, 0, none⟩ 1 1 [.int .i64 ((i : Int) + 1)] rfl rfl (cell_one_new _ _ _) (by simp [Value.oneCell']) (by decide) (by have := HLe.out; have := HM.out; unfold maxLen; omega) (by have := HLe.out; have := HM.out; omega) (by simp; omega) _ rfl ?_; intro g2 c2 w6 hown6 hgrow hat hlt6; have HF := hid (HS.out.yes8 HU.out hown6 (((Touch.refl _ _).alloc _).grown hgrow (fun k hk => Or.inl (by simp [hk]))) hat (by simp)); clear hown6 hgrow hat hlt6))
              go_roundw
              case rel => exact ⟨_, _, _, _, _, _, i + 1, rfl, rfl, by go_num, by have := HJ.out; omega, HF⟩
              case measure => have := HJ.out; simp [intOf]; omega
            · have hh2 : hg S (i + 1) j.toNat = false := by simpa using hh2
              have HU : Hid (unB S j (i + 1) = false) := by show _ = _; unfold unB; rw [hv, hh2]; rfl
              have HH : Hid (∀ w' (k : Nat), Touch [] w w' → k < N → Calls Try.prog 28 #[.slice (some ⟨g, 0, none⟩) N c, .int .i64 ((i : Int) + 1), .int .i64 j] w' fun e w'' => e = .returned (.bool false) ∧ w'' = w') := fun w' k T hk => by have := HH.out w' i T HJ.out; rw [hh2] at this; exact this
              clear hh2 hv
              have HS := hid (HD2.out.no7 HQ.out)
              have hbs5 := HS.out.tc.size
              go_wp2_with (first
                | (go_at_call 9; refine (HI.out _).mono ?_; rintro e w8 ⟨rfl, rfl⟩)
                | (go_at_call 28; refine (HH.out _ i HS.out.tc HJ.out).mono ?_; rintro e w9 ⟨rfl, rfl⟩))
              have HF := hid (HS.out.no8 HU.out)
              go_roundw
              case rel => exact ⟨_, _, _, _, _, _, i + 1, rfl, rfl, by go_num, by have := HJ.out; omega, HF⟩
              case measure => have := HJ.out; simp [intOf]; omega
          · have hv : vaB S j = false := by simpa using hv
            have HU : Hid (unB S j (i + 1) = false) := by show _ = _; unfold unB; rw [hv]; rfl
            rw [hv] at HI
            clear hv HH
            have HS := hid (HD2.out.no7 HQ.out)
            have hbs5 := HS.out.tc.size
            go_wp2_with (first
              | (go_at_call 9; refine (HI.out _).mono ?_; rintro e w8 ⟨rfl, rfl⟩))
            have HF := hid (HS.out.no8 HU.out)
            go_roundw
            case rel => exact ⟨_, _, _, _, _, _, i + 1, rfl, rfl, by go_num, by have := HJ.out; omega, HF⟩
            case measure => have := HJ.out; simp [intOf]; omega
    · have e : i = N := by omega
      subst e
      have zi : ¬ (i : Int) < (i : Int) := by omega
      obtain ⟨E1, E2, E3⟩ := HEnd.out wr a7 m7 c7 a8 m8 c8 HR.out
      have E1 := hid E1
      have E2 := hid E2
      have HTc := hid HR.out.tc
      clear HR HEnd HX HG HH hi hlt
      by_cases hv : vaB S j = true
      · rw [hv] at HI
        clear E3 hv
        go_wp2_with (first
          | (go_at_call 9; refine (HI.out _).mono ?_; rintro e w1 ⟨rfl, rfl⟩)
          | (go_at_call 19; refine E1.out.mono ?_; rintro e w1 ⟨rfl, rfl⟩)
          | (go_at_call 23; refine E2.out.mono ?_; rintro e w2 ⟨a2, c2, rfl, t2, k2⟩; have K2 := hid k2; clear k2 t2)
          | (go_at_call 25; refine K3.out.mono ?_; rintro e w4 ⟨a4, c4, rfl, t4, k4⟩; have K4 := hid k4; clear k4 t4)
          | (go_at_call_of 11 (#[.slice a2 m7 c2, .slice a7 m7 c7] : Array Value); refine K2.out.mono ?_; rintro e w3 ⟨rfl, t3, k3⟩; have K3 := hid k3; clear k3 t3)
          | (go_at_call_of 11 (#[.slice a4 m8 c4, .slice a8 m8 c8] : Array Value); refine K4.out.mono ?_; rintro e w5 ⟨rfl, t5⟩; have T5 := hid t5; clear t5))
        go_ret
        exact ⟨rfl, T5.out⟩
      · have hv : vaB S j = false := by simpa using hv
        rw [hv] at HI
        obtain ⟨F1, F2, F3, F4⟩ := E3 hv
        have F1 := hid F1
        have F2 := hid F2
        have F3 := hid F3
        have F4 := hid F4
        clear E3 hv
        go_wp2_with (first
          | (go_at_call 9; refine (HI.out _).mono ?_; rintro e w1 ⟨rfl, rfl⟩)
          | (go_at_call 22; refine F1.out.mono ?_; rintro e w1 ⟨rfl, rfl⟩)
          | (go_at_call 21; refine F2.out.mono ?_; rintro e w1 ⟨rfl, rfl⟩)
          | (go_at_call 24; refine F3.out.mono ?_; rintro e w1 ⟨rfl, rfl⟩)
          | (go_at_call 20; refine F4.out.mono ?_; rintro e w1 ⟨rfl, rfl⟩)
          | (go_at_call 19; refine E1.out.mono ?_; rintro e w1 ⟨rfl, rfl⟩)
          | (go_at_call 23; refine E2.out.mono ?_; rintro e w2 ⟨a2, c2, rfl, t2, k2⟩; have K2 := hid k2; clear k2 t2)
          | (go_at_call 25; refine K3.out.mono ?_; rintro e w4 ⟨a4, c4, rfl, t4, k4⟩; have K4 := hid k4; clear k4 t4)
          | (go_at_call_of 11 (#[.slice a2 m7 c2, .slice a7 m7 c7] : Array Value); refine K2.out.mono ?_; rintro e w3 ⟨rfl, t3, k3⟩; have K3 := hid k3; clear k3 t3)
          | (go_at_call_of 11 (#[.slice a4 m8 c4, .slice a8 m8 c8] : Array Value); refine K4.out.mono ?_; rintro e w5 ⟨rfl, t5⟩; have T5 := hid t5; clear t5))
        go_ret
        exact ⟨rfl, T5.out⟩
end
end Go.Proofs.Ytbjnajiicljnbaa
