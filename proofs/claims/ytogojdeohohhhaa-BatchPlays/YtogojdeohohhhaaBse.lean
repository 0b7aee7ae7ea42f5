/- The contracts of a batch's Send and Force as steps, of a nil batch's methods, and of the law's awake; no conditions but those that each states. -/
import Derived.Test.YtogojdeohohhhaaBad
namespace Go.Proofs.Ytogojdeohohhhaa
open Go.RowKit Go.Maps Go.ChangeMaps
set_option linter.unusedVariables false
set_option linter.unusedSimpArgs false
section
variable {w : World} {b N : Nat} {sl : Value} {d n x : Int} {S : Bs}
theorem send_mid (h : Bm w b sl d S) : Bm (w.setCell ⟨b, 2, none⟩ (.int .i64 n)) b sl d (sendM S n) ∧ Touch [b] w (w.setCell ⟨b, 2, none⟩ (.int .i64 n)) := by
  have TB : Touch [b] w (w.setCell ⟨b, 2, none⟩ (.int .i64 n)) := (Touch.refl _ _).setCell (Or.inl (by simp)) _
  refine ⟨⟨?_, own_touch h.row TB (fun q hq e => by simp only [List.mem_singleton] at e; exact h.ne hq e), h.du⟩, TB⟩
  have := bset (i := 2) h.hb (.int .i64 n)
  simpa [pc, sendM] using this
/-- All that wait are sent, as one step. -/
theorem force_step {w0 : World} {F : List Nat} (h : Bm w b sl d S) (hv : Iv S N) (hN : N ≤ 6000000000000) (ht : Touch F w0 w) (hf : Nf w0 F (fpB b sl)) : Calls Try.prog 18 #[PT b] w fun e w' => ∃ v, e = .returned v ∧ (∃ a n c, v = .slice a n c) ∧ BqE w0 w' b F (forceS S) (N + 1) S.run v := by
  have hs1 := hv.n1
  have hs2 := hv.n2
  refine (force_ h hs1 (by omega)).mono ?_
  rintro e w2 ⟨v, sl', rfl, hfo, q1, q2, q3, q4⟩
  refine ⟨v, rfl, hfo, ⟨fpB b sl', ⟨sl', d, rfl, q1, hv.force⟩, ht.trans q3 (fun q hq => hf q (by simp only [List.mem_singleton] at hq; exact mem_fpB.2 (Or.inl hq))), fun q hq => hf q ?_⟩, q4, hfo⟩
  rcases q2 with rfl | rfl
  · exact hq
  · rcases mem_fpB.1 hq with e | e
    · exact mem_fpB.2 (Or.inl e)
    · cases e
set_option maxHeartbeats 2000000 in
theorem send_ (h : Bm w b sl d S) (hv : Iv S N) (hN : N ≤ 6000000000000) : Calls Try.prog 17 #[PT b, .int .i64 n] w fun e w' => ∃ v, e = .returned (.tuple #[v, .int .i64 (wrongE S n)]) ∧ BqE w w' b (fpB b sl) (sendS S n) (N + 1) (sendL S n) v := by
  have HT := hid (tell_ h n)
  by_cases hw : wrongE S n ≠ 0
  · have HS := hid (bq_same h hv)
    have e1 : sendS S n = S := by unfold sendS; rw [if_pos hw]
    have e2 : sendL S n = [] := by unfold sendL; rw [if_pos hw]
    rw [e1, e2]
    have hk : (wrongE S n != 0) = true := by simpa using hw
    clear e1 e2 hw h hv
    generalize wrongE S n = k at *
    unfold PT at *
    go_enter Try.func17, Try.ntmps17
    go_wp2_with (go_at_call 25; refine (HT.out).mono ?_; rintro e w2 ⟨rfl, e2⟩; rw [e2]; clear e2 w2)
    exact bodyPost_ret (v := .tuple #[.slice none 0 0, .int .i64 k]) (by simp [results, Try.results17, go_sem]) rfl ⟨_, rfl, HS.out⟩
  · have hw0 : wrongE S n = 0 := Decidable.not_not.1 hw
    obtain ⟨g1, g2, g3⟩ := wrong0 hw
    have hm : Iv (sendM S n) N := { hv with t1 := g1, t2 := g2 }
    have e1 : sendS S n = if sendF S n then forceS (sendM S n) else sendM S n := by unfold sendS; rw [if_neg hw]
    have e2 : sendL S n = if sendF S n then S.run else [] := by unfold sendL; rw [if_neg hw]
    rw [hw0] at HT ⊢
    rw [e1, e2]
    have c2 := cell_at (j := 2) (v := .int .i64 S.tim) h.hb rfl
    have ff := froz_at h.hb
    obtain ⟨W1, hW1⟩ : ∃ W1, W1 = w.setCell ⟨b, 2, none⟩ (.int .i64 n) := ⟨_, rfl⟩
    obtain ⟨h1, t1⟩ := send_mid (n := n) h
    rw [← hW1] at h1 t1
    have ht : Touch (fpB b sl) w W1 := t1.mono (fun q hq => by simp only [List.mem_singleton] at hq; exact mem_fpB.2 (Or.inl hq))
    have HD := hid (due_ h1)
    have HF := hid (force_step h1 hm hN ht (Nf.refl _ _))
    have HN : Hid (BqE w W1 b (fpB b sl) (sendM S n) (N + 1) [] (.slice none 0 0)) := hid ⟨⟨fpB b sl, ⟨sl, d, rfl, h1, hm.mono (Nat.le_succ N)⟩, ht, Nf.refl _ _⟩, Rd.nil _, _, _, _, rfl⟩
    have er : (sendM S n).run = S.run := rfl
    have ed : dueV (sendM S n) = dueV S := rfl
    rw [er, ed] at HD
    rw [er] at HF
    clear e1 e2 hw0 hw h hv hm t1 ht h1 er ed g1 g2 g3
    unfold PT at *
    by_cases he : S.run = []
    · have hf : sendF S n = false := by simp [sendF, he]
      rw [hf]
      simp only [Bool.false_eq_true, if_false]
      rw [show decide (S.run ≠ []) = false by simp [he]] at HD
      clear HF hf he
      generalize dueV S = k at *
      go_enter Try.func17, Try.ntmps17
      go_upto_region 5 with (go_at_call 25; refine (HT.out).mono ?_; rintro e w2 ⟨rfl, e2⟩; rw [e2]; clear e2 w2)
      rw [← hW1]
      clear hW1 c2 ff
      go_wp2_with (go_at_call 9; refine (HD.out).mono ?_; rintro e w2 ⟨rfl, e2⟩; rw [e2]; clear e2 w2)
      exact bodyPost_ret (v := .tuple #[.slice none 0 0, .int .i64 0]) (by simp [results, Try.results17, go_sem]) rfl ⟨_, rfl, HN.out⟩
    · have hk : dueV S = dueS S := by unfold dueV; rw [if_neg he]
      rw [show decide (S.run ≠ []) = true by simp [he], hk] at HD
      by_cases hf : dueS S ≤ n
      · have hs : sendF S n = true := by simp [sendF, he, hf]
        rw [hs]
        simp only [if_true]
        clear HN hs he hk
        generalize dueS S = k at *
        have hg : ¬ n < k := by omega
        clear hf
        go_enter Try.func17, Try.ntmps17
        go_upto_region 5 with (go_at_call 25; refine (HT.out).mono ?_; rintro e w2 ⟨rfl, e2⟩; rw [e2]; clear e2 w2)
        rw [← hW1]
        clear hW1 c2 ff
        go_wp2_with (first | (go_at_call 9; refine (HD.out).mono ?_; rintro e w2 ⟨rfl, e2⟩; rw [e2]; clear e2 w2) | (go_at_call 18; refine (HF.out).mono ?_; rintro e w8 ⟨v8, rfl, ⟨a8, n8, c8, rfl⟩, q8⟩; have Q8 := hid q8; clear q8))
        exact bodyPost_ret (v := .tuple #[.slice a8 n8 c8, .int .i64 0]) (by simp [results, Try.results17, go_sem]) rfl ⟨_, rfl, Q8.out⟩
      · have hs : sendF S n = false := by simp [sendF, hf]
        rw [hs]
        simp only [Bool.false_eq_true, if_false]
        clear HF hs he hk
        generalize dueS S = k at *
        have hg : n < k := by omega
        clear hf
        go_enter Try.func17, Try.ntmps17
        go_upto_region 5 with (go_at_call 25; refine (HT.out).mono ?_; rintro e w2 ⟨rfl, e2⟩; rw [e2]; clear e2 w2)
        rw [← hW1]
        clear hW1 c2 ff
        go_wp2_with (go_at_call 9; refine (HD.out).mono ?_; rintro e w2 ⟨rfl, e2⟩; rw [e2]; clear e2 w2)
        exact bodyPost_ret (v := .tuple #[.slice none 0 0, .int .i64 0]) (by simp [results, Try.results17, go_sem]) rfl ⟨_, rfl, HN.out⟩
end
section
variable (w : World)
theorem tell_nil (n : Int) : Calls Try.prog 25 #[.pointer none, .int .i64 n] w fun e w' => e = .returned (.int .i64 1) ∧ w' = w := by
  go_enter Try.func25, Try.ntmps25
  go_wp2
  go_ret
  exact ⟨rfl, rfl⟩
theorem add_nil (n x : Int) : Calls Try.prog 16 #[.pointer none, .int .i64 n, .int .i64 x] w fun e w' => e = .returned (.tuple #[.slice none 0 0, .int .i64 1]) ∧ w' = w := by
  go_enter Try.func16, Try.ntmps16
  go_wp2_with (go_at_call 25; refine (tell_nil _ _).mono ?_; rintro e w2 ⟨rfl, e2⟩; rw [e2]; clear e2 w2)
  exact bodyPost_ret (v := .tuple #[.slice none 0 0, .int .i64 1]) (by simp [results, Try.results16, go_sem]) rfl ⟨rfl, rfl⟩
theorem send_nil (n : Int) : Calls Try.prog 17 #[.pointer none, .int .i64 n] w fun e w' => e = .returned (.tuple #[.slice none 0 0, .int .i64 1]) ∧ w' = w := by
  go_enter Try.func17, Try.ntmps17
  go_wp2_with (go_at_call 25; refine (tell_nil _ _).mono ?_; rintro e w2 ⟨rfl, e2⟩; rw [e2]; clear e2 w2)
  exact bodyPost_ret (v := .tuple #[.slice none 0 0, .int .i64 1]) (by simp [results, Try.results17, go_sem]) rfl ⟨rfl, rfl⟩
theorem due_nil : Calls Try.prog 9 #[.pointer none] w fun e w' => e = .returned (.tuple #[.int .i64 0, .bool false]) ∧ w' = w := by
  go_enter Try.func9, Try.ntmps9
  go_wp2
  exact bodyPost_ret (v := .tuple #[.int .i64 0, .bool false]) (by simp [results, Try.results9, go_sem]) rfl ⟨rfl, rfl⟩
theorem force_nil : Calls Try.prog 18 #[.pointer none] w fun e w' => e = .returned (.slice none 0 0) ∧ w' = w := by
  go_enter Try.func18, Try.ntmps18
  go_wp2
  go_ret
  exact ⟨rfl, rfl⟩
theorem runs_nil : Calls Try.prog 12 #[.pointer none] w fun e w' => e = .returned (.slice none 0 0) ∧ w' = w := by
  go_enter Try.func12, Try.ntmps12
  go_wp2
  go_ret
  exact ⟨rfl, rfl⟩
theorem has_nil (x : Int) : Calls Try.prog 13 #[.pointer none, .int .i64 x] w fun e w' => e = .returned (.bool false) ∧ w' = w := by
  go_enter Try.func13, Try.ntmps13
  go_wp2
  go_ret
  exact ⟨rfl, rfl⟩
theorem sent_nil : Calls Try.prog 15 #[.pointer none] w fun e w' => e = .returned (.int .i64 0) ∧ w' = w := by
  go_enter Try.func15, Try.ntmps15
  go_wp2
  go_ret
  exact ⟨rfl, rfl⟩
theorem clone_nil : Calls Try.prog 19 #[.pointer none] w fun e w' => e = .returned (.pointer none) ∧ w' = w := by
  go_enter Try.func19, Try.ntmps19
  go_wp2
  go_ret
  exact ⟨rfl, rfl⟩
end
/-- Two runs are gathered. -/
theorem awake_ (w : World) : Calls Try.prog 7 #[] w fun e w' => e = .returned (.bool true) ∧ Touch [] w w' := by
  have hz : W64 10 := W64.mk (by omega) (by omega)
  have hiv : Iv (S0 2 10) 0 := iv0 (by decide) hz
  have HN := hid (new_yes w 2 10 (by decide))
  have HA : Hid (∀ w1, Bm w1 w.heap.size (.slice none 0 0) 0 (S0 2 10) → Touch [] w w1 → Calls Try.prog 16 #[PT w.heap.size, .int .i64 0, .int .i64 1] w1 fun e w2 => ∃ a c, e = .returned (.tuple #[.slice a 0 c, .int .i64 0]) ∧ Touch [] w w2 ∧ Calls Try.prog 16 #[PT w.heap.size, .int .i64 1, .int .i64 2] w2 fun e w3 => ∃ a c, e = .returned (.tuple #[.slice a 2 c, .int .i64 0]) ∧ Touch [] w w3) := hid (fun w1 h t => by
    refine (add_ (n := 0) (x := 1) h hiv (by omega) (W64.mk (by omega) (by omega))).mono ?_
    rintro e w2 ⟨v, rfl, ⟨F, ⟨sl2, d2, rfl, q1, q2⟩, q3, q4⟩, q5, q6⟩
    have e1 : addL (S0 2 10) 0 1 = [] := by decide
    have e2 : addE (S0 2 10) 0 1 = 0 := by decide
    rw [e1] at q5
    rw [e2]
    obtain ⟨a, c, e3, _⟩ := q5.form
    have hF : ∀ q, q ∈ fpB w.heap.size (Value.slice none 0 0) → w.heap.size ≤ q := fun q hq => by
      rcases mem_fpB.1 hq with e | e
      · omega
      · cases e
    have t2 : Touch [] w w2 := t.trans q3 (fun q hq => Or.inr (hF q hq))
    refine ⟨a, c, by rw [e3]; rfl, t2, ?_⟩
    refine (add_ (n := 1) (x := 2) q1 q2 (by omega) (W64.mk (by omega) (by omega))).mono ?_
    rintro e w3 ⟨v3, rfl, ⟨F3, p1, p3, p4⟩, p5, p6⟩
    have e1 : addL (addS (S0 2 10) 0 1) 1 2 = [1, 2] := by decide
    have e2 : addE (addS (S0 2 10) 0 1) 1 2 = 0 := by decide
    rw [e1] at p5
    rw [e2]
    obtain ⟨a3, c3, e3, _⟩ := p5.form
    refine ⟨a3, c3, by rw [e3]; rfl, t2.trans p3 (fun q hq => Or.inr ?_)⟩
    rcases q4 q hq with e | e
    · exact hF q e
    · have := t.size
      omega)
  clear hz hiv
  unfold PT at *
  go_enter Try.func7, Try.ntmps7
  go_upto_region 4 with (go_at_call 5; refine HN.out.mono ?_; rintro e w1 ⟨rfl, q1, q2⟩; have HB := hid (HA.out w1 q1 q2); clear q1 q2)
  go_upto_region 5 with (go_at_call 16; refine HB.out.mono ?_; rintro e w2 ⟨a2, c2, rfl, q2, q3⟩; have HC := hid q3; have T2 := hid q2; clear q2 q3)
  go_wp2_with (go_at_call 16; refine HC.out.mono ?_; rintro e w3 ⟨a3, c3, rfl, q2⟩; have T3 := hid q2; clear q2)
  go_ret
  exact ⟨rfl, T3.out⟩
end Go.Proofs.Ytogojdeohohhhaa
