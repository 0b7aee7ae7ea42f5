/- A line written and parsed, and the law; the conditions: the variables hold what the start lays. -/
import Derived.Test.YtlffleigahfdlaaGreatDoorFgn
import Derived.Test.YtlffleigahfdlaaGreatDoorFfc
namespace Go.Proofs.YtlffleigahfdlaaGreatDoor.Tr
open Go.RowKit Go.Sort Go.Shelf Go.Maps Go.ChangeMaps
open Go.Proofs.YtlffleigahfdlaaGreatDoor.Kt (piV kp)
set_option linter.unusedVariables false
set_option linter.unusedSimpArgs false
theorem chk_kd {e : Ez} (h : chkE e = true) : 1 ≤ e.kd ∧ e.kd ≤ 11 := by
  unfold chkE at h
  simp only [Bool.and_eq_true] at h
  have h1 := h.2.1
  unfold isK at h1
  exact of_decide_eq_true h1
theorem chk_nm {e : Ez} (h : chkE e = true) : e.nm.size ≤ 64 := by
  unfold chkE at h
  simp only [Bool.and_eq_true] at h
  have h1 := h.2.2.2.2
  unfold keyB at h1
  split at h1
  · exact of_decide_eq_true h1
  · unfold zeroK at h1
    simp only [Bool.and_eq_true] at h1
    have h2 := of_decide_eq_true h1.2
    have h3 : e.nm = ⟨#[]⟩ := (Kt.beqB _ _).1 (by rw [h2]; simp)
    rw [h3]; decide
def lnB (e : Ez) : ByteArray := ⟨(lnL e).toArray⟩
def lnE (e : Ez) : ByteArray := if chkE e then lnB e else ⟨#[]⟩
theorem rets {s : ByteArray} (x : ByteArray) (h : x = s) {n m : Int} (h2 : n = m) : Ending.returned (.tuple #[.string x, .int .i64 n]) = .returned (.tuple #[.string s, .int .i64 m]) := by rw [h, h2]
set_option maxHeartbeats 4000000 in
theorem line_ (e : Ez) (w : World) (hS : Sy w) (h6 : Ok64 e) (hsp : 0 ≤ e.sp ∧ e.sp ≤ 65535) (hnm : e.nm.size ≤ maxLen) :
    Calls Tryz.prog 9 #[e.val] w fun r w' => r = .returned (.tuple #[.string (lnE e), .int .i64 (chkN e)]) ∧ Touch [] w w' := by
  have H1 : Hid (∀ w', Touch [] w w' → Calls Tryz.prog 12 #[e.val] w' fun r w'' => r = .returned (.int .i64 (chkN e)) ∧ Touch [] w' w'') := fun w' t => check_ e w' (hS.touch t).tk hnm
  have B0 : Hid (∀ w', Touch [] (w.alloc (.cells #[.int .i64 e.at_, .int .i64 e.kd, .int .i64 e.cl, .int .i64 e.ca, .int .i64 e.ru, .int .i64 e.ge, .int .i64 e.ho, .int .u16 e.sp, .string e.nm, .int .i64 e.va, .int .i64 e.fk, .int .i64 e.fc, .int .i64 e.fr] 30)) w' → Ib w' w.heap.size e) := fun w' t => (Ib.new w e 30).touch t
  cases hc : chkE e with
  | false =>
    have eN : chkN e = 240 := by unfold chkN; rw [hc]; rfl
    have eL : lnE e = ⟨#[]⟩ := by unfold lnE; rw [hc]; rfl
    rw [eN] at H1
    rw [eN, eL]
    unfold Ez.val at H1 ⊢
    clear hS h6 hsp hnm eN eL B0
    go_enter Tryz.func9, Tryz.ntmps9
    go_wp2_with fail
    refine (H1.out _ ((Touch.refl [] w).alloc _)).mono ?_
    rintro r w1 ⟨rfl, t1⟩
    have T1 : Hid (Touch [] w w1) := hid (((Touch.refl [] w).alloc _).trans' t1)
    clear t1 H1
    go_wp2_with fail
    go_ret2
    exact ⟨rfl, T1.out⟩
  | true =>
    have eN : chkN e = 0 := by unfold chkN; rw [hc]; rfl
    have eL : lnE e = lnB e := by unfold lnE; rw [hc]; rfl
    have H2 : Hid (∀ w', Touch [] w w' → Calls Tryz.prog 38 #[e.val] w' fun r w'' => r = .returned (.string (lnB e)) ∧ Touch [] w' w'') := fun w' t => lineOf_ e w' (hS.touch t).tk (hS.touch t).tab h6 (chk_kd hc) hsp (chk_nm hc)
    rw [eN] at H1
    rw [eN, eL]
    generalize lnB e = LB at *
    unfold Ez.val at H1 H2 ⊢
    clear hS h6 hsp hnm eN eL hc
    go_enter Tryz.func9, Tryz.ntmps9
    go_wp2_with fail
    refine (H1.out _ ((Touch.refl [] w).alloc _)).mono ?_
    rintro r w1 ⟨rfl, t1⟩
    obtain ⟨c0, c1, c2, c3, c4, c5, c6, c7, c8, c9, c10, c11, c12⟩ := B0.out _ t1
    have T1 : Hid (Touch [] w w1) := hid (((Touch.refl [] w).alloc _).trans' t1)
    clear t1 H1 B0
    go_wp2_with fail
    refine (H2.out _ T1.out).mono ?_
    rintro r w2 ⟨rfl, t2⟩
    have T2 := hid (T1.out.trans' t2)
    clear t2 T1 H2
    go_wp2_with fail
    go_ret2
    exact ⟨rfl, T2.out⟩
theorem ret_pr {W : World} {R0 : Nat} {e : Ez} (h : Bk W R0 e) (n : Int) (tm : Array Value) (h2 : tm[2]? = some (.pointer (some ⟨R0, 0, none⟩))) (h3 : tm[3]? = some (.int .i64 n)) : (results Tryz.f14 tm).run Tryz.prog W = .ok (.tuple #[e.val, .int .i64 n]) W := by
  obtain ⟨c0, c1, c2, c3, c4, c5, c6, c7, c8, c9, c10, c11, c12⟩ := h.ib
  simp [results, Tryz.results14, go_sem, h2, h3, c0, c1, c2, c3, c4, c5, c6, c7, c8, c9, c10, c11, c12, Ez.val]
/-- what a line is parsed to -/
def Pr (s : ByteArray) (e : Ez) (n : Int) : Prop := Okr e ∧ ((chkE e = true ∧ s = lnB e ∧ n = 0) ∨ (e = e0 ∧ n = 241))
theorem e0_ok : Okr e0 := ⟨⟨z64, z64, z64, z64, z64, z64, z64, z64, z64, z64⟩, by decide, by decide, (show (⟨#[]⟩ : ByteArray).size ≤ 64 by decide)⟩
set_option maxRecDepth 20000 in
set_option maxHeartbeats 8000000 in
theorem parse_ {w : World} (hS : Sy w) (s : ByteArray) (hs : s.size < 4294967281) :
    Calls Tryz.prog 14 #[.string s] w fun r w' => ∃ (e : Ez) (n : Int), r = .returned (.tuple #[e.val, .int .i64 n]) ∧ Pr s e n ∧ Touch [] w w' := by
  have HS := hid hS
  have HR := hid (fun w' (t : Touch [] w w') => read_ (hS.touch t) s hs)
  clear hS hs
  go_enter Tryz.func14, Tryz.ntmps14
  go_wp2_with fail
  refine (HR.out _ ((Touch.refl [] w).alloc _)).mono ?_
  rintro r w1 ⟨e, rfl, he, t1⟩
  have HE := hid he
  have T1 : Hid (Touch [] w w1) := hid (((Touch.refl [] w).alloc _).trans' t1)
  have B1 : Hid (Bk w1 w.heap.size e0) := hid (t1.keep (heap_alloc_new w _) (by simp))
  clear he t1 HR
  have HC := hid (fun w' (t : Touch [] w w') => check_ e w' (HS.out.touch t).tk (by have := HE.out.nm; unfold maxLen; omega))
  unfold Ez.val at HC ⊢
  have S1 : Hid (Bk (w1.alloc (.cells #[.int .i64 e.at_, .int .i64 e.kd, .int .i64 e.cl, .int .i64 e.ca, .int .i64 e.ru, .int .i64 e.ge, .int .i64 e.ho, .int .u16 e.sp, .string e.nm, .int .i64 e.va, .int .i64 e.fk, .int .i64 e.fc, .int .i64 e.fr] 30)) w1.heap.size e) := hid (heap_alloc_new w1 _)
  cases hc : chkE e with
  | false =>
    have eN : chkN e = 240 := by unfold chkN; rw [hc]; rfl
    rw [eN] at HC
    clear hc eN HS
    go_wp2_with fail
    refine (HC.out _ (T1.out.alloc _)).mono ?_
    rintro r w2 ⟨rfl, t2⟩
    have T2 := hid ((T1.out.alloc _).trans' t2)
    have br := (B1.out.touch ((Touch.refl [] w1).alloc _)).touch t2
    obtain ⟨d0, d1, d2, d3, d4, d5, d6, d7, d8, d9, d10, d11, d12⟩ := br.ib
    dsimp only [e0] at d0 d1 d2 d3 d4 d5 d6 d7 d8 d9 d10 d11 d12
    have fz := froz_at br
    have BR := hid br
    clear br t2 T1 B1 S1 HC
    go_wp2_with fail
    refine bodyPost_ret (ret_pr (e := e0) (st13 BR.out) 241 _ rfl rfl) rfl ?_
    exact ⟨e0, 241, rfl, ⟨e0_ok, Or.inr ⟨rfl, rfl⟩⟩, by
      iterate 13 refine Touch.setCell ?_ (Or.inr (Nat.le_refl _)) _
      exact T2.out⟩
  | true =>
    have eN : chkN e = 0 := by unfold chkN; rw [hc]; rfl
    rw [eN] at HC
    have HCK := hid hc
    have HL : Hid (∀ w', Touch [] w w' → Calls Tryz.prog 38 #[e.val] w' fun r w'' => r = .returned (.string (lnB e)) ∧ Touch [] w' w'') := hid (fun w' t => lineOf_ e w' (HS.out.touch t).tk (HS.out.touch t).tab HE.out.o (chk_kd hc) HE.out.sp HE.out.nm)
    unfold Ez.val at HL
    clear hc eN HS
    obtain ⟨LB, hLB⟩ : ∃ LB, lnB e = LB := ⟨_, rfl⟩
    rw [hLB] at HL
    have HLB := hid hLB
    clear hLB
    go_wp2_with fail
    refine (HC.out _ (T1.out.alloc _)).mono ?_
    rintro r w2 ⟨rfl, t2⟩
    have T2 := hid ((T1.out.alloc _).trans' t2)
    have BR2 := hid ((B1.out.touch ((Touch.refl [] w1).alloc _)).touch t2)
    have S2 := hid (S1.out.touch t2)
    obtain ⟨c0, c1, c2, c3, c4, c5, c6, c7, c8, c9, c10, c11, c12⟩ := S2.out.ib
    clear t2 T1 B1 S1 HC
    go_wp2_with fail
    refine (HL.out _ T2.out).mono ?_
    rintro r w3 ⟨rfl, t3⟩
    clear c0 c1 c2 c3 c4 c5 c6 c7 c8 c9 c10 c11 c12
    have br := BR2.out.touch t3
    obtain ⟨d0, d1, d2, d3, d4, d5, d6, d7, d8, d9, d10, d11, d12⟩ := br.ib
    dsimp only [e0] at d0 d1 d2 d3 d4 d5 d6 d7 d8 d9 d10 d11 d12
    have fz := froz_at br
    have BR := hid br
    have T3 := hid (T2.out.trans' t3)
    have S3 := hid (S2.out.touch t3)
    clear br t3 T2 BR2 S2 HL
    by_cases hq : LB = s
    · have hb : (LB.toList == s.toList) = true := (Kt.beqB _ _).2 hq
      have HQ := hid hq
      clear hq
      obtain ⟨c0, c1, c2, c3, c4, c5, c6, c7, c8, c9, c10, c11, c12⟩ := S3.out.ib
      go_wp2_with fail
      refine bodyPost_ret (ret_pr (e := e) (st13 BR.out) 0 _ rfl rfl) rfl ?_
      exact ⟨e, 0, rfl, ⟨HE.out, Or.inl ⟨HCK.out, by rw [HLB.out, HQ.out], rfl⟩⟩, by
        iterate 13 refine Touch.setCell ?_ (Or.inr (Nat.le_refl _)) _
        exact T3.out⟩
    · have hb : (LB.toList == s.toList) = false := Bool.eq_false_iff.2 (fun h => hq ((Kt.beqB _ _).1 h))
      clear hq
      go_wp2_with fail
      refine bodyPost_ret (ret_pr (e := e0) (st13 BR.out) 241 _ rfl rfl) rfl ?_
      exact ⟨e0, 241, rfl, ⟨e0_ok, Or.inr ⟨rfl, rfl⟩⟩, by
        iterate 13 refine Touch.setCell ?_ (Or.inr (Nat.le_refl _)) _
        exact T3.out⟩
end Go.Proofs.YtlffleigahfdlaaGreatDoor.Tr
