/- A line read; the conditions: the variables hold what the start lays. -/
import Derived.Test.YtlffleigahfdlaaGreatDoorFgm
import Derived.Test.YtlffleigahfdlaaGreatDoorFfe
namespace Go.Proofs.YtlffleigahfdlaaGreatDoor.Tr
open Go.RowKit Go.Sort Go.Shelf Go.Maps Go.ChangeMaps
open Go.Proofs.YtlffleigahfdlaaGreatDoor.Kt (piV kp)
set_option linter.unusedVariables false
set_option linter.unusedSimpArgs false
/-- an event that reading may give -/
structure Okr (e : Ez) : Prop where
  o : Ok64 e
  kd : 0 ≤ e.kd ∧ e.kd ≤ 11
  sp : 0 ≤ e.sp ∧ e.sp ≤ 65535
  nm : e.nm.size ≤ 64
theorem pi64 (l : List UInt8) : B64 (piV l) := Kt.pi_w l
theorem take_ok {e : Ez} (h : Okr e) (l : List UInt8) : Okr (takeL e l) := by
  obtain ⟨⟨h1, h2, h3, h4, h5, h6, h7, h8, h9, h10⟩, k, sp, nm⟩ := h
  unfold takeL
  split
  · exact ⟨⟨h1, h2, h3, h4, h5, h6, h7, h8, h9, h10⟩, k, sp, nm⟩
  · split
    · exact ⟨⟨h1, h2, h3, h4, h5, h6, pi64 _, h8, h9, h10⟩, k, sp, nm⟩
    split
    · exact ⟨⟨h1, h2, h3, h4, h5, h6, h7, pi64 _, pi64 _, pi64 _⟩, k, sp, nm⟩
    split
    · exact ⟨⟨h1, pi64 _, h3, h4, h5, h6, h7, h8, h9, h10⟩, k, sp, nm⟩
    split
    · exact ⟨⟨h1, h2, pi64 _, h4, h5, h6, h7, h8, h9, h10⟩, k, sp, nm⟩
    split
    · exact ⟨⟨h1, h2, h3, pi64 _, h5, h6, h7, h8, h9, h10⟩, k, sp, nm⟩
    split
    · exact ⟨⟨h1, h2, h3, h4, pi64 _, h6, h7, h8, h9, h10⟩, k, sp, nm⟩
    split
    · exact ⟨⟨h1, h2, h3, h4, h5, pi64 _, h7, h8, h9, h10⟩, k, sp, nm⟩
    · exact ⟨⟨h1, h2, h3, h4, h5, h6, h7, h8, h9, h10⟩, k, sp, nm⟩
theorem Bk.ib {w : World} {b : Nat} {e : Ez} (h : Bk w b e) : Ib w b e :=
  ⟨cell_at h (j := 0) rfl, cell_at h (j := 1) rfl, cell_at h (j := 2) rfl, cell_at h (j := 3) rfl, cell_at h (j := 4) rfl, cell_at h (j := 5) rfl, cell_at h (j := 6) rfl, cell_at h (j := 7) rfl, cell_at h (j := 8) rfl, cell_at h (j := 9) rfl, cell_at h (j := 10) rfl, cell_at h (j := 11) rfl, cell_at h (j := 12) rfl⟩
theorem st13 {w : World} {R0 : Nat} {e' e : Ez} (h : Bk w R0 e') : Bk (((((((((((((w.setCell ⟨R0, 0, none⟩ (.int .i64 e.at_)).setCell ⟨R0, 1, none⟩ (.int .i64 e.kd)).setCell ⟨R0, 2, none⟩ (.int .i64 e.cl)).setCell ⟨R0, 3, none⟩ (.int .i64 e.ca)).setCell ⟨R0, 4, none⟩ (.int .i64 e.ru)).setCell ⟨R0, 5, none⟩ (.int .i64 e.ge)).setCell ⟨R0, 6, none⟩ (.int .i64 e.ho)).setCell ⟨R0, 7, none⟩ (.int .u16 e.sp)).setCell ⟨R0, 8, none⟩ (.string e.nm)).setCell ⟨R0, 9, none⟩ (.int .i64 e.va)).setCell ⟨R0, 10, none⟩ (.int .i64 e.fk)).setCell ⟨R0, 11, none⟩ (.int .i64 e.fc)).setCell ⟨R0, 12, none⟩ (.int .i64 e.fr)) R0 e := by
  have h0 := b_set (j := 0) (v := .int .i64 e.at_) (e' := ⟨e.at_, e'.kd, e'.cl, e'.ca, e'.ru, e'.ge, e'.ho, e'.sp, e'.nm, e'.va, e'.fk, e'.fc, e'.fr⟩) h rfl
  have h1 := b_set (j := 1) (v := .int .i64 e.kd) (e' := ⟨e.at_, e.kd, e'.cl, e'.ca, e'.ru, e'.ge, e'.ho, e'.sp, e'.nm, e'.va, e'.fk, e'.fc, e'.fr⟩) h0 rfl
  have h2 := b_set (j := 2) (v := .int .i64 e.cl) (e' := ⟨e.at_, e.kd, e.cl, e'.ca, e'.ru, e'.ge, e'.ho, e'.sp, e'.nm, e'.va, e'.fk, e'.fc, e'.fr⟩) h1 rfl
  have h3 := b_set (j := 3) (v := .int .i64 e.ca) (e' := ⟨e.at_, e.kd, e.cl, e.ca, e'.ru, e'.ge, e'.ho, e'.sp, e'.nm, e'.va, e'.fk, e'.fc, e'.fr⟩) h2 rfl
  have h4 := b_set (j := 4) (v := .int .i64 e.ru) (e' := ⟨e.at_, e.kd, e.cl, e.ca, e.ru, e'.ge, e'.ho, e'.sp, e'.nm, e'.va, e'.fk, e'.fc, e'.fr⟩) h3 rfl
  have h5 := b_set (j := 5) (v := .int .i64 e.ge) (e' := ⟨e.at_, e.kd, e.cl, e.ca, e.ru, e.ge, e'.ho, e'.sp, e'.nm, e'.va, e'.fk, e'.fc, e'.fr⟩) h4 rfl
  have h6 := b_set (j := 6) (v := .int .i64 e.ho) (e' := ⟨e.at_, e.kd, e.cl, e.ca, e.ru, e.ge, e.ho, e'.sp, e'.nm, e'.va, e'.fk, e'.fc, e'.fr⟩) h5 rfl
  have h7 := b_set (j := 7) (v := .int .u16 e.sp) (e' := ⟨e.at_, e.kd, e.cl, e.ca, e.ru, e.ge, e.ho, e.sp, e'.nm, e'.va, e'.fk, e'.fc, e'.fr⟩) h6 rfl
  have h8 := b_set (j := 8) (v := .string e.nm) (e' := ⟨e.at_, e.kd, e.cl, e.ca, e.ru, e.ge, e.ho, e.sp, e.nm, e'.va, e'.fk, e'.fc, e'.fr⟩) h7 rfl
  have h9 := b_set (j := 9) (v := .int .i64 e.va) (e' := ⟨e.at_, e.kd, e.cl, e.ca, e.ru, e.ge, e.ho, e.sp, e.nm, e.va, e'.fk, e'.fc, e'.fr⟩) h8 rfl
  have h10 := b_set (j := 10) (v := .int .i64 e.fk) (e' := ⟨e.at_, e.kd, e.cl, e.ca, e.ru, e.ge, e.ho, e.sp, e.nm, e.va, e.fk, e'.fc, e'.fr⟩) h9 rfl
  have h11 := b_set (j := 11) (v := .int .i64 e.fc) (e' := ⟨e.at_, e.kd, e.cl, e.ca, e.ru, e.ge, e.ho, e.sp, e.nm, e.va, e.fk, e.fc, e'.fr⟩) h10 rfl
  have h12 := b_set (j := 12) (v := .int .i64 e.fr) (e' := ⟨e.at_, e.kd, e.cl, e.ca, e.ru, e.ge, e.ho, e.sp, e.nm, e.va, e.fk, e.fc, e.fr⟩) h11 rfl
  exact h12
theorem ret_ev {W : World} {R0 : Nat} {e : Ez} (h : Bk W R0 e) (tm : Array Value) (h2 : tm[2]? = some (.pointer (some ⟨R0, 0, none⟩))) : (results Tryz.f52 tm).run Tryz.prog W = .ok e.val W := by
  obtain ⟨c0, c1, c2, c3, c4, c5, c6, c7, c8, c9, c10, c11, c12⟩ := h.ib
  simp [results, Tryz.results52, go_sem, h2, c0, c1, c2, c3, c4, c5, c6, c7, c8, c9, c10, c11, c12, Ez.val]
theorem z64 : B64 0 := by unfold B64; omega
def rdM : Value → Value → Nat
  | .string s, .bool true => s.size + 1
  | _, _ => 0
theorem cut_dec (X : ByteArray) (h : cutB X 32 = true) : (cutR X 32).size < X.size := by
  have h2 := (cut_len X.data.toList 32).2.2 h
  show (Lib.cut X.data.toList [32]).2.1.toArray.size < X.size
  rw [List.size_toArray]
  rcases h2 with h2 | h2
  · exact h2
  · exfalso
    unfold cutB at h
    rw [h2] at h
    revert h
    decide
theorem rdM_dec (X : ByteArray) : rdM (.string (cutR X 32)) (.bool (cutB X 32)) < X.size + 1 := by
  cases h : cutB X 32 with
  | false => simp [rdM]
  | true =>
    have := cut_dec X h
    simp only [rdM]
    omega
set_option maxRecDepth 20000 in
set_option maxHeartbeats 8000000 in
theorem read_ {w : World} (hS : Sy w) (s : ByteArray) (hs : s.size < 4294967281) :
    Calls Tryz.prog 52 #[.string s] w fun r w' => ∃ e : Ez, r = .returned e.val ∧ Okr e ∧ Touch [] w w' := by
  have HS := hid hS
  have HZ := hid hs
  have hs1 := Nat.lt_of_le_of_lt (cutR_size s 32) hs
  have hs2 := Nat.lt_of_le_of_lt (cutR_size (cutR s 32) 32) hs1
  have H1 := hid (fun w' (t : Touch [] w w') => cut_ s 32 w' (hS.touch t) hs)
  have H2 := hid (fun w' (t : Touch [] w w') => cut_ (cutR s 32) 32 w' (hS.touch t) hs1)
  have H3 := hid (fun w' (t : Touch [] w w') => num_ (cutL s 32) w' (hS.touch t) (Nat.lt_of_le_of_lt (cutL_size s 32) hs))
  have H4 := hid (fun w' (t : Touch [] w w') => kind_ (cutL (cutR s 32) 32) w' (hS.touch t).tk)
  have HB64 : Hid (B64 (piV (cutL s 32).data.toList)) := hid (pi64 _)
  generalize cutL s 32 = x1 at *
  generalize cutL (cutR s 32) 32 = x2 at *
  generalize cutR (cutR s 32) 32 = x3 at *
  generalize cutB s 32 = y1 at *
  generalize cutB (cutR s 32) 32 = y2 at *
  generalize cutR s 32 = x0 at *
  generalize piV x1.data.toList = p1 at *
  have HX3 := hid hs2
  clear hS hs hs1 hs2
  go_enter Tryz.func52, Tryz.ntmps52
  go_wp2_with fail
  refine (H1.out _ ((Touch.refl [] w).alloc _)).mono ?_
  rintro e w1 ⟨rfl, t1⟩
  have T1 : Hid (Touch [] w w1) := hid (((Touch.refl [] w).alloc _).trans' t1)
  have B1 : Hid (Bk w1 w.heap.size e0) := hid (t1.keep (heap_alloc_new w _) (by simp))
  clear t1 H1
  go_wp2_with fail
  refine (H2.out _ T1.out).mono ?_
  rintro e w2 ⟨rfl, t2⟩
  have B2 := hid (B1.out.touch t2)
  have T2 := hid (T1.out.trans' t2)
  clear t2 B1 T1 H2
  go_wp2_with fail
  refine (H3.out _ T2.out).mono ?_
  rintro e w3 ⟨rfl, t3⟩
  have B3 := hid (B2.out.touch t3)
  have T3 := hid (T2.out.trans' t3)
  clear t3 B2 T2 H3
  go_wp2_with fail
  refine (H4.out _ T3.out).mono ?_
  rintro e w4 ⟨⟨j, rfl, hj⟩, e4⟩
  rw [e4]
  clear e4
  have hj0 := hj.1
  have HJ := hid hj
  clear hj H4
  go_wp2_with fail
  have hsz : w.heap.size + 1 ≤ w3.heap.size := by
    have h1 := B3.out
    have h2 := block_lt h1
    omega
  have S0 : Hid (Bk (w3.alloc (.cells #[.int .i64 p1, .int .i64 j, .int .i64 0, .int .i64 0, .int .i64 0, .int .i64 0, .int .i64 0, .int .u16 0, .string ⟨#[]⟩, .int .i64 0, .int .i64 0, .int .i64 0, .int .i64 0] 30)) w3.heap.size ⟨p1, j, 0, 0, 0, 0, 0, 0, ⟨#[]⟩, 0, 0, 0, 0⟩) := hid (heap_alloc_new w3 _)
  have OK0 : Hid (Okr ⟨p1, j, 0, 0, 0, 0, 0, 0, ⟨#[]⟩, 0, 0, 0, 0⟩) := hid ⟨⟨HB64.out, z64, z64, z64, z64, z64, z64, z64, z64, z64⟩, by dsimp only; omega, by dsimp only; omega, (show (⟨#[]⟩ : ByteArray).size ≤ 64 by decide)⟩
  have R0 : Hid (Bk (w3.alloc (.cells #[.int .i64 p1, .int .i64 j, .int .i64 0, .int .i64 0, .int .i64 0, .int .i64 0, .int .i64 0, .int .u16 0, .string ⟨#[]⟩, .int .i64 0, .int .i64 0, .int .i64 0, .int .i64 0] 30)) w.heap.size e0) := hid (B3.out.touch ((Touch.refl [] w3).alloc _))
  have TT := hid (T3.out.alloc (.cells #[.int .i64 p1, .int .i64 j, .int .i64 0, .int .i64 0, .int .i64 0, .int .i64 0, .int .i64 0, .int .u16 0, .string ⟨#[]⟩, .int .i64 0, .int .i64 0, .int .i64 0, .int .i64 0] 30))
  clear B3 T3 HB64 hj0
  generalize w3.heap.size = b at *
  go_loopw [4, 7] (fun r m wr => ∃ (X : ByteArray) (y : Bool) (e : Ez), r = .string X ∧ m = .bool y ∧ Hid (X.size < 4294967281 ∧ Bk wr b e ∧ Okr e ∧ Bk wr w.heap.size e0 ∧ Touch [] w wr)) (fun r m _ => rdM r m)
  case atStart => exact ⟨x3, y2, _, rfl, rfl, hid ⟨HX3.out, S0.out, OK0.out, R0.out, TT.out⟩⟩
  case round =>
    obtain ⟨X, y, e, rfl, rfl, HI⟩ := hrel
    clear S0 OK0 R0 TT
    cases y with
    | false =>
      have bb := HI.out.2.1
      have br := HI.out.2.2.2.1
      obtain ⟨c0, c1, c2, c3, c4, c5, c6, c7, c8, c9, c10, c11, c12⟩ := bb.ib
      obtain ⟨d0, d1, d2, d3, d4, d5, d6, d7, d8, d9, d10, d11, d12⟩ := br.ib
      dsimp only [e0] at d0 d1 d2 d3 d4 d5 d6 d7 d8 d9 d10 d11 d12
      have fz := froz_at br
      have BR := hid br
      clear bb br
      go_wp2_with fail
      refine bodyPost_ret (ret_ev (st13 BR.out) _ rfl) rfl ?_
      · exact ⟨e, rfl, HI.out.2.2.1, by
          iterate 13 refine Touch.setCell ?_ (Or.inr (Nat.le_refl _)) _
          exact HI.out.2.2.2.2⟩
    | true =>
      have HK := hid (fun w' (B : Bk w' b e) (t : Touch [] w w') => take_ (HS.out.touch t) B (cutL X 32) (Nat.lt_of_le_of_lt (cutL_size X 32) HI.out.1))
      have HC := hid (fun w' (t : Touch [] w w') => cut_ X 32 w' (HS.out.touch t) HI.out.1)
      have HD : Hid (rdM (.string (cutR X 32)) (.bool (cutB X 32)) < rdM (.string X) (.bool true)) := hid (rdM_dec X)
      have HR := hid (Nat.lt_of_le_of_lt (cutR_size X 32) HI.out.1)
      have HO := hid (fun l => take_ok HI.out.2.2.1 l)
      generalize cutL X 32 = xa at *
      generalize cutR X 32 = xb at *
      generalize cutB X 32 = xc at *
      by_cases h0 : X.size = 0
      · have e0' : X = ⟨#[]⟩ := Kt.ba_ext (List.eq_nil_of_length_eq_zero h0)
        subst e0'
        clear h0
        go_wp2_with fail
        refine (HC.out _ HI.out.2.2.2.2).mono ?_
        rintro r w1 ⟨rfl, t1⟩
        have I1 := hid (And.intro (HI.out.2.1.touch t1) (And.intro (HI.out.2.2.2.1.touch t1) (HI.out.2.2.2.2.trans' t1)))
        clear t1 HC
        go_wp2_with fail
        refine (HK.out _ I1.out.1 I1.out.2.2).mono ?_
        rintro r w2 ⟨rfl, k2, t2⟩
        have I2 : Hid (xb.size < 4294967281 ∧ Bk w2 b (takeL e xa.data.toList) ∧ Okr (takeL e xa.data.toList) ∧ Bk w2 w.heap.size e0 ∧ Touch [] w w2) := hid ⟨HR.out, k2, HO.out _, t2.keep I1.out.2.1 (by simp only [List.mem_singleton]; omega), I1.out.2.2.trans t2 (fun k hk => Or.inr (by simp only [List.mem_singleton] at hk; omega))⟩
        clear k2 t2 I1
        go_wp2_with fail
        go_roundw
        case rel => exact ⟨xb, xc, _, rfl, rfl, I2⟩
        case measure => exact HD.out
      · have hpos : 0 < X.size := by omega
        have h0I : (0 : Int) < (X.size : Int) := by omega
        have h1I : (1 : Int) ≤ (X.size : Int) := by omega
        have hneL : (X.toList == []) = false := by
          have : (X.toList == (⟨#[]⟩ : ByteArray).toList) = false := Bool.eq_false_iff.2 (fun h => by
            have := (Kt.beqB X ⟨#[]⟩).1 h
            rw [this] at h0; exact h0 rfl)
          simpa using this
        obtain ⟨Y, hY⟩ : ∃ Y : Nat, (X[0]'hpos).toNat = Y := ⟨_, rfl⟩
        by_cases y1 : Y = 107
        · subst y1
          have hZs : (X.extract 1 X.size).size < 4294967281 := by rw [ByteArray.size_extract]; have := HI.out.1; omega
          have HU := hid (fun w' => unmasked_ (w := w') (X.extract 1 X.size) (by omega))
          have hUs : (⟨(unF (X.extract 1 X.size).data.toList).toArray⟩ : ByteArray).size < 4294967281 := by
            have h1 := unF_len _ (X.extract 1 X.size).data.toList (Nat.le_refl _)
            have h2 : (X.extract 1 X.size).data.toList.length = (X.extract 1 X.size).size := rfl
            show (unF (X.extract 1 X.size).data.toList).toArray.size < 4294967281
            rw [List.size_toArray]
            omega
          have HQ := hid (fun w' => kparse_ ⟨(unF (X.extract 1 X.size).data.toList).toArray⟩ w' hUs)
          have HSP := hid (Kt.kp_sp ⟨(unF (X.extract 1 X.size).data.toList).toArray⟩)
          have HNM := hid (Kt.kp_nm ⟨(unF (X.extract 1 X.size).data.toList).toArray⟩)
          generalize (⟨(unF (X.extract 1 X.size).data.toList).toArray⟩ : ByteArray) = U at *
          clear hZs hUs HC HK HD HR HO
          go_wp2_with fail
          refine (HU.out _).mono ?_
          rintro r w1 ⟨rfl, t1⟩
          have I1 := hid (And.intro (HI.out.2.1.touch t1) (And.intro (HI.out.2.2.2.1.touch t1) (HI.out.2.2.2.2.trans' t1)))
          clear t1 HU
          go_wp2_with fail
          refine (HQ.out _).mono ?_
          rintro r w2 ⟨v1, v2, rfl, t2⟩
          have k2 := I1.out.1.touch t2
          have I2 := hid (And.intro k2 (And.intro (I1.out.2.1.touch t2) (I1.out.2.2.trans' t2)))
          have c7 := k2.ib.c7
          have c8 := k2.ib.c8
          have fz := froz_at k2
          clear t2 I1 HQ k2
          go_upto_region 7 with fail
          obtain ⟨V, hV⟩ : ∃ V, V = (w2.setCell ⟨b, 7, none⟩ (.int .u16 ((kp U).1 : Int))).setCell ⟨b, 8, none⟩ (.string (kp U).2.1) := ⟨_, rfl⟩
          rw [← hV]
          have bb : Bk V b { e with sp := ((kp U).1 : Int), nm := (kp U).2.1 } := by
            rw [hV]
            exact b_set (b_set I2.out.1 (j := 7) (e' := { e with sp := ((kp U).1 : Int) }) rfl) rfl
          have tv : Touch [b] w2 V := by
            rw [hV]
            exact ((Touch.refl [b] w2).setCell (Or.inl (by simp)) _).setCell (Or.inl (by simp)) _
          have br : Bk V w.heap.size e0 := tv.keep I2.out.2.1 (by simp only [List.mem_singleton]; omega)
          have TV := hid (I2.out.2.2.trans tv (fun k hk => Or.inr (by simp only [List.mem_singleton] at hk; omega)))
          have OK : Hid (Okr { e with sp := ((kp U).1 : Int), nm := (kp U).2.1 }) := hid (by
            obtain ⟨⟨h1, h2, h3, h4, h5, h6, h7, h8, h9, h10⟩, k, sp, nm⟩ := HI.out.2.2.1
            exact ⟨⟨h1, h2, h3, h4, h5, h6, h7, h8, h9, h10⟩, k, ⟨Int.natCast_nonneg _, Int.ofNat_le.2 HSP.out⟩, HNM.out⟩)
          clear hV tv c7 c8 fz I2 HSP HNM
          obtain ⟨c0, c1, c2, c3, c4, c5, c6, c7, c8, c9, c10, c11, c12⟩ := bb.ib
          obtain ⟨d0, d1, d2, d3, d4, d5, d6, d7, d8, d9, d10, d11, d12⟩ := br.ib
          dsimp only [e0] at d0 d1 d2 d3 d4 d5 d6 d7 d8 d9 d10 d11 d12
          dsimp only at c0 c1 c2 c3 c4 c5 c6 c7 c8 c9 c10 c11 c12
          have fz := froz_at br
          have BR := hid br
          clear bb br
          go_wp2_with fail
          refine bodyPost_ret (ret_ev (e := { e with sp := ((kp U).1 : Int), nm := (kp U).2.1 }) (st13 BR.out) _ rfl) rfl ?_
          exact ⟨_, rfl, OK.out, by
            iterate 13 refine Touch.setCell ?_ (Or.inr (Nat.le_refl _)) _
            exact TV.out⟩
        · have z1 : ((Y : Int) == 107) = false := by simp; omega
          have z1' : ¬ (Y : Int) = 107 := by omega
          go_wp2_with fail
          refine (HC.out _ HI.out.2.2.2.2).mono ?_
          rintro r w1 ⟨rfl, t1⟩
          have I1 := hid (And.intro (HI.out.2.1.touch t1) (And.intro (HI.out.2.2.2.1.touch t1) (HI.out.2.2.2.2.trans' t1)))
          clear t1 HC
          go_wp2_with fail
          refine (HK.out _ I1.out.1 I1.out.2.2).mono ?_
          rintro r w2 ⟨rfl, k2, t2⟩
          have I2 : Hid (xb.size < 4294967281 ∧ Bk w2 b (takeL e xa.data.toList) ∧ Okr (takeL e xa.data.toList) ∧ Bk w2 w.heap.size e0 ∧ Touch [] w w2) := hid ⟨HR.out, k2, HO.out _, t2.keep I1.out.2.1 (by simp only [List.mem_singleton]; omega), I1.out.2.2.trans t2 (fun k hk => Or.inr (by simp only [List.mem_singleton] at hk; omega))⟩
          clear k2 t2 I1
          go_wp2_with fail
          go_roundw
          case rel => exact ⟨xb, xc, _, rfl, rfl, I2⟩
          case measure => exact HD.out
end Go.Proofs.YtlffleigahfdlaaGreatDoor.Tr
