/- The document's look at an event, its contract; no conditions but those that each states. -/
import Derived.Test.YtlffleigahfdlaaGreatDoorEvh
namespace Go.Proofs.YtlffleigahfdlaaGreatDoor.Tr
open Go.RowKit Go.Maps Go.ChangeMaps
set_option linter.unusedVariables false
set_option linter.unusedSimpArgs false
set_option maxRecDepth 20000 in
set_option maxHeartbeats 4000000 in
theorem rcheck_ (e : Ez) (w : World) (hs : e.nm.size ≤ maxLen) : Calls Tryz.prog 10 #[e.val] w fun r w' => r = .returned (.bool (chkE e)) ∧ Touch [] w w' := by
  have H0 : Hid _ := fun w' => rnames_ e.kd w'
  have HC : Hid (∀ w', Calls Tryz.prog 40 #[e.val, .int .u8 99, .int .i64 e.cl] w' fun r w'' => r = .returned (.bool (numB e.kd 99 e.cl)) ∧ Touch [] w' w'') := fun w' => rnum_ e 99 (by omega) e.cl w'
  have HA : Hid (∀ w', Calls Tryz.prog 40 #[e.val, .int .u8 110, .int .i64 e.ca] w' fun r w'' => r = .returned (.bool (numB e.kd 110 e.ca)) ∧ Touch [] w' w'') := fun w' => rnum_ e 110 (by omega) e.ca w'
  have HU : Hid (∀ w', Calls Tryz.prog 40 #[e.val, .int .u8 114, .int .i64 e.ru] w' fun r w'' => r = .returned (.bool (numB e.kd 114 e.ru)) ∧ Touch [] w' w'') := fun w' => rnum_ e 114 (by omega) e.ru w'
  have HG : Hid (∀ w', Calls Tryz.prog 40 #[e.val, .int .u8 103, .int .i64 e.ge] w' fun r w'' => r = .returned (.bool (numB e.kd 103 e.ge)) ∧ Touch [] w' w'') := fun w' => rnum_ e 103 (by omega) e.ge w'
  have HH : Hid (∀ w', Calls Tryz.prog 40 #[e.val, .int .u8 104, .int .i64 e.ho] w' fun r w'' => r = .returned (.bool (numB e.kd 104 e.ho)) ∧ Touch [] w' w'') := fun w' => rnum_ e 104 (by omega) e.ho w'
  have HR : Hid (∀ w', Calls Tryz.prog 41 #[.agg #[.int .i64 e.va, .int .i64 e.fk, .int .i64 e.fc, .int .i64 e.fr]] w' fun r w'' => r = .returned (.bool (right e.out)) ∧ Touch [] w' w'') := fun w' => rright_ e.va e.fk e.fc e.fr w'
  have HO : Hid (∀ w', Calls Tryz.prog 42 #[.int .i64 e.kd, .int .u8 111] w' fun r w'' => r = .returned (.bool (nmB e.kd 118)) ∧ w'' = w') := fun w' => by
    have := rnamed_ e.kd 111 w'
    rw [has_out] at this
    exact this
  have HK : Hid (∀ w', Calls Tryz.prog 42 #[.int .i64 e.kd, .int .u8 107] w' fun r w'' => r = .returned (.bool (nmB e.kd 107)) ∧ w'' = w') := fun w' => by
    have := rnamed_ e.kd 107 w'
    rw [has_nm e.kd 107 (by omega)] at this
    exact this
  have HNeo := fun w => neo w e.va e.fk e.fc e.fr
  have HEqk := fun w => eqrk w e.sp e.nm
  have HE : Hid _ := chk_d e
  have HS : Hid (e.nm.size ≤ maxLen) := hs
  clear hs
  have HN : Hid (((rnm e.kd).toList = []) = (isK e.kd = false)) := rnm_nil e.kd
  generalize chkE e = V at *
  obtain ⟨w0, hw0⟩ : ∃ w0, w0 = w.alloc (.cells #[.int .i64 e.at_, .int .i64 e.kd, .int .i64 e.cl, .int .i64 e.ca, .int .i64 e.ru, .int .i64 e.ge, .int .i64 e.ho, .int .u16 e.sp, .string e.nm, .int .i64 e.va, .int .i64 e.fk, .int .i64 e.fc, .int .i64 e.fr] 41) := ⟨_, rfl⟩
  have HB : Hid (Ib w0 w.heap.size e) := by show Ib _ _ _; rw [hw0]; exact Ib.new _ _ _
  have HT : Hid (Touch [] w w0) := by show Touch [] w w0; rw [hw0]; exact (Touch.refl [] w).alloc _
  generalize rnm e.kd = nmv at *
  generalize isK e.kd = bk at *
  generalize numB e.kd 99 e.cl = b1 at *
  generalize numB e.kd 110 e.ca = b2 at *
  generalize numB e.kd 114 e.ru = b3 at *
  generalize numB e.kd 103 e.ge = b4 at *
  generalize numB e.kd 104 e.ho = b5 at *
  generalize right e.out = br at *
  generalize nmB e.kd 118 = bo at *
  generalize nmB e.kd 107 = bq at *
  generalize (decide (e.va = 0) && nonF e.fk e.fc e.fr) = bz at *
  generalize zeroK e.sp e.nm = zk at *
  unfold Ez.val at *
  obtain ⟨c0, c1, c2, c3, c4, c5, c6, c7, c8, c9, c10, c11, c12⟩ := HB.out
  cases bk with
  | false =>
    have hnil : nmv.toList.isEmpty = true := by rw [List.isEmpty_iff, HN.out]
    go_enter Tryz.func10, Tryz.ntmps10
    go_wp2_with fail
    rw [← hw0]
    clear hw0
    refine (H0.out _).mono ?_
    rintro r w1 ⟨rfl, e1⟩
    rw [e1]
    clear e1 w1
    go_wp2_with fail
    go_ret
    exact ⟨by rw [HE.out]; rfl, HT.out⟩
  | true =>
    have hnil : nmv.toList.isEmpty = false := by rw [List.isEmpty_eq_false_iff, ne_eq, HN.out]; simp
    by_cases ha : e.at_ < 0
    · have HE' : Hid (V = false) := by show V = false; rw [HE.out, decide_eq_true ha]; rfl
      go_enter Tryz.func10, Tryz.ntmps10
      go_wp2_with fail
      rw [← hw0]
      clear hw0
      refine (H0.out _).mono ?_
      rintro r w1 ⟨rfl, e1⟩
      rw [e1]
      clear e1 w1
      go_wp2_with fail
      go_ret
      exact ⟨by rw [HE'.out]; rfl, HT.out⟩
    by_cases ha2 : 4611686018427387904 < e.at_
    · have HE' : Hid (V = false) := by show V = false; rw [HE.out, decide_eq_true ha2]; simp
      go_enter Tryz.func10, Tryz.ntmps10
      go_wp2_with fail
      rw [← hw0]
      clear hw0
      refine (H0.out _).mono ?_
      rintro r w1 ⟨rfl, e1⟩
      rw [e1]
      clear e1 w1
      go_wp2_with fail
      go_ret
      exact ⟨by rw [HE'.out]; rfl, HT.out⟩
    rw [decide_eq_false ha, decide_eq_false ha2] at HE
    have HAT : Hid (¬ e.at_ < 0 ∧ ¬ 4611686018427387904 < e.at_) := ⟨ha, ha2⟩
    go_enter Tryz.func10, Tryz.ntmps10
    go_wp2_with fail
    rw [← hw0]
    clear hw0
    refine (H0.out _).mono ?_
    rintro r w1 ⟨rfl, e1⟩
    rw [e1]
    clear e1 w1
    go_wp2_with fail
    clear hnil ha ha2
    refine (HC.out _).mono ?_
    rintro r w1 ⟨rfl, t1⟩
    have T1 : Hid (Touch [] w w1) := HT.out.trans' t1
    have B1 : Hid (Ib w1 w.heap.size e) := HB.out.touch t1
    clear t1 HT HB c0 c1 c2 c3 c4 c5 c6 c7 c8 c9 c10 c11 c12
    obtain ⟨c0, c1, c2, c3, c4, c5, c6, c7, c8, c9, c10, c11, c12⟩ := B1.out
    cases b1 with
    | false =>
      go_wp2_with fail
      go_ret
      exact ⟨by rw [HE.out]; rfl, T1.out⟩
    | true =>
      go_wp2_with fail
      refine (HA.out _).mono ?_
      rintro r w2 ⟨rfl, t2⟩
      have T2 : Hid (Touch [] w w2) := T1.out.trans' t2
      have B2 : Hid (Ib w2 w.heap.size e) := B1.out.touch t2
      clear t2 T1 B1 c0 c1 c2 c3 c4 c5 c6 c7 c8 c9 c10 c11 c12
      obtain ⟨c0, c1, c2, c3, c4, c5, c6, c7, c8, c9, c10, c11, c12⟩ := B2.out
      cases b2 with
      | false =>
        go_wp2_with fail
        go_ret
        exact ⟨by rw [HE.out]; rfl, T2.out⟩
      | true =>
        go_wp2_with fail
        refine (HU.out _).mono ?_
        rintro r w3 ⟨rfl, t3⟩
        have T3 : Hid (Touch [] w w3) := T2.out.trans' t3
        have B3 : Hid (Ib w3 w.heap.size e) := B2.out.touch t3
        clear t3 T2 B2 c0 c1 c2 c3 c4 c5 c6 c7 c8 c9 c10 c11 c12
        obtain ⟨c0, c1, c2, c3, c4, c5, c6, c7, c8, c9, c10, c11, c12⟩ := B3.out
        cases b3 with
        | false =>
          go_wp2_with fail
          go_ret
          exact ⟨by rw [HE.out]; rfl, T3.out⟩
        | true =>
          go_wp2_with fail
          refine (HG.out _).mono ?_
          rintro r w4 ⟨rfl, t4⟩
          have T4 : Hid (Touch [] w w4) := T3.out.trans' t4
          have B4 : Hid (Ib w4 w.heap.size e) := B3.out.touch t4
          clear t4 T3 B3 c0 c1 c2 c3 c4 c5 c6 c7 c8 c9 c10 c11 c12
          obtain ⟨c0, c1, c2, c3, c4, c5, c6, c7, c8, c9, c10, c11, c12⟩ := B4.out
          cases b4 with
          | false =>
            go_wp2_with fail
            go_ret
            exact ⟨by rw [HE.out]; rfl, T4.out⟩
          | true =>
            go_wp2_with fail
            refine (HH.out _).mono ?_
            rintro r w5 ⟨rfl, t5⟩
            have T5 : Hid (Touch [] w w5) := T4.out.trans' t5
            have B5 : Hid (Ib w5 w.heap.size e) := B4.out.touch t5
            clear t5 T4 B4 c0 c1 c2 c3 c4 c5 c6 c7 c8 c9 c10 c11 c12
            obtain ⟨c0, c1, c2, c3, c4, c5, c6, c7, c8, c9, c10, c11, c12⟩ := B5.out
            cases b5 with
            | false =>
              go_wp2_with fail
              go_ret
              exact ⟨by rw [HE.out]; rfl, T5.out⟩
            | true =>
              by_cases hh : 6 < e.ho
              · have HE' : Hid (V = false) := by show V = false; rw [HE.out, decide_eq_true hh]; rfl
                go_wp2_with fail
                go_ret
                exact ⟨by rw [HE'.out]; rfl, T5.out⟩
              rw [decide_eq_false hh] at HE
              go_wp2_with fail
              clear hh
              refine (HR.out _).mono ?_
              rintro r w6 ⟨rfl, t6⟩
              have T6 : Hid (Touch [] w w6) := T5.out.trans' t6
              have B6 : Hid (Ib w6 w.heap.size e) := B5.out.touch t6
              clear t6 T5 B5 c0 c1 c2 c3 c4 c5 c6 c7 c8 c9 c10 c11 c12
              obtain ⟨c0, c1, c2, c3, c4, c5, c6, c7, c8, c9, c10, c11, c12⟩ := B6.out
              cases br with
              | false =>
                go_wp2_with fail
                go_ret
                exact ⟨by rw [HE.out]; rfl, T6.out⟩
              | true =>
                cases bz with
                | true =>
                  by_cases hn : e.nm.size ≤ 64
                  · have hn' : decide ((e.nm.size : Int) ≤ 64) = true := decide_eq_true (by omega)
                    have HE2 : Hid (V = (zk || bq)) := by show V = _; rw [HE.out, decide_eq_true hn]; cases zk <;> cases bq <;> rfl
                    clear hn
                    cases zk with
                    | true =>
                      go_wp2_with fail
                      go_ret
                      exact ⟨by rw [HE2.out]; rfl, T6.out⟩
                    | false =>
                      go_wp2_with fail
                      refine (HK.out _).mono ?_
                      rintro r w7 ⟨rfl, e7⟩
                      rw [e7]
                      clear e7 w7
                      go_wp2_with fail
                      go_ret
                      exact ⟨by rw [HE2.out]; rfl, T6.out⟩
                  · have hn' : decide ((e.nm.size : Int) ≤ 64) = false := decide_eq_false (by omega)
                    have HE2 : Hid (V = false) := by show V = _; rw [HE.out, decide_eq_false hn]; rfl
                    clear hn
                    go_wp2_with fail
                    go_ret
                    exact ⟨by rw [HE2.out]; rfl, T6.out⟩
                | false =>
                  go_wp2_with fail
                  refine (HO.out _).mono ?_
                  rintro r w7 ⟨rfl, e7⟩
                  rw [e7]
                  clear e7 w7
                  cases bo with
                  | false =>
                    go_wp2_with fail
                    go_ret
                    exact ⟨by rw [HE.out]; rfl, T6.out⟩
                  | true =>
                    by_cases hn : e.nm.size ≤ 64
                    · have hn' : decide ((e.nm.size : Int) ≤ 64) = true := decide_eq_true (by omega)
                      have HE2 : Hid (V = (zk || bq)) := by show V = _; rw [HE.out, decide_eq_true hn]; cases zk <;> cases bq <;> rfl
                      clear hn
                      cases zk with
                      | true =>
                        go_wp2_with fail
                        go_ret
                        exact ⟨by rw [HE2.out]; rfl, T6.out⟩
                      | false =>
                        go_wp2_with fail
                        refine (HK.out _).mono ?_
                        rintro r w7 ⟨rfl, e7⟩
                        rw [e7]
                        clear e7 w7
                        go_wp2_with fail
                        go_ret
                        exact ⟨by rw [HE2.out]; rfl, T6.out⟩
                    · have hn' : decide ((e.nm.size : Int) ≤ 64) = false := decide_eq_false (by omega)
                      have HE2 : Hid (V = false) := by show V = _; rw [HE.out, decide_eq_false hn]; rfl
                      clear hn
                      go_wp2_with fail
                      go_ret
                      exact ⟨by rw [HE2.out]; rfl, T6.out⟩
end Go.Proofs.YtlffleigahfdlaaGreatDoor.Tr
