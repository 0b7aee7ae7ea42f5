/- A line read; the conditions: the variables hold what the start lays. -/
import Derived.Test.YtlffleigahfdlaaGreatDoorMa7
import Derived.Test.YtlffleigahfdlaaGreatDoorFfe
import Derived.Test.YtlffleigahfdlaaGreatDoorFfc
import Derived.Test.YtlffleigahfdlaaGreatDoorEvk
import Derived.Test.YtlffleigahfdlaaGreatDoorEvi
import Derived.Test.YtlffleigahfdlaaGreatDoorEvg
namespace Go.Proofs.YtlffleigahfdlaaGreatDoor.Tr
open Go.RowKit Go.Sort Go.Shelf Go.Maps Go.ChangeMaps
open Go.Proofs.YtlffleigahfdlaaGreatDoor.Kt (piV kp)
set_option linter.unusedVariables false
set_option linter.unusedSimpArgs false
/-- an event that reading may give -/
structure Okr (e : Ez) : Prop where
  o : Ok64 e
  kd : 0 ≤ e.kd ∧ e.kd ≤ 11
  sp : 0 ≤ e.sp ∧ e.sp ≤ 65535
  nm : e.nm.size ≤ 64
theorem pi64 (l : List UInt8) : B64 (piV l) := Kt.pi_w l
theorem take_ok {e : Ez} (h : Okr e) (l : List UInt8) : Okr (takeL e l) := by
  obtain ⟨⟨h1, h2, h3, h4, h5, h6, h7, h8, h9, h10⟩, k, sp, nm⟩ := h
  unfold takeL
  split
  · exact ⟨⟨h1, h2, h3, h4, h5, h6, h7, h8, h9, h10⟩, k, sp, nm⟩
  · split
    · exact ⟨⟨h1, h2, h3, h4, h5, h6, pi64 _, h8, h9, h10⟩, k, sp, nm⟩
    split
    · exact ⟨⟨h1, h2, h3, h4, h5, h6, h7, pi64 _, pi64 _, pi64 _⟩, k, sp, nm⟩
    split
    · exact ⟨⟨h1, pi64 _, h3, h4, h5, h6, h7, h8, h9, h10⟩, k, sp, nm⟩
    split
    · exact ⟨⟨h1, h2, pi64 _, h4, h5, h6, h7, h8, h9, h10⟩, k, sp, nm⟩
    split
    · exact ⟨⟨h1, h2, h3, pi64 _, h5, h6, h7, h8, h9, h10⟩, k, sp, nm⟩
    split
    · exact ⟨⟨h1, h2, h3, h4, pi64 _, h6, h7, h8, h9, h10⟩, k, sp, nm⟩
    split
    · exact ⟨⟨h1, h2, h3, h4, h5, pi64 _, h7, h8, h9, h10⟩, k, sp, nm⟩
    · exact ⟨⟨h1, h2, h3, h4, h5, h6, h7, h8, h9, h10⟩, k, sp, nm⟩
theorem Bk.ib {w : World} {b : Nat} {e : Ez} (h : Bk w b e) : Ib w b e :=
  ⟨cell_at h (j := 0) rfl, cell_at h (j := 1) rfl, cell_at h (j := 2) rfl, cell_at h (j := 3) rfl, cell_at h (j := 4) rfl, cell_at h (j := 5) rfl, cell_at h (j := 6) rfl, cell_at h (j := 7) rfl, cell_at h (j := 8) rfl, cell_at h (j := 9) rfl, cell_at h (j := 10) rfl, cell_at h (j := 11) rfl, cell_at h (j := 12) rfl⟩
theorem st13 {w : World} {R0 : Nat} {e' e : Ez} (h : Bk w R0 e') : Bk (((((((((((((w.setCell ⟨R0, 0, none⟩ (.int .i64 e.at_)).setCell ⟨R0, 1, none⟩ (.int .i64 e.kd)).setCell ⟨R0, 2, none⟩ (.int .i64 e.cl)).setCell ⟨R0, 3, none⟩ (.int .i64 e.ca)).setCell ⟨R0, 4, none⟩ (.int .i64 e.ru)).setCell ⟨R0, 5, none⟩ (.int .i64 e.ge)).setCell ⟨R0, 6, none⟩ (.int .i64 e.ho)).setCell ⟨R0, 7, none⟩ (.int .u16 e.sp)).setCell ⟨R0, 8, none⟩ (.string e.nm)).setCell ⟨R0, 9, none⟩ (.int .i64 e.va)).setCell ⟨R0, 10, none⟩ (.int .i64 e.fk)).setCell ⟨R0, 11, none⟩ (.int .i64 e.fc)).setCell ⟨R0, 12, none⟩ (.int .i64 e.fr)) R0 e := by
  have h0 := b_set (j := 0) (v := .int .i64 e.at_) (e' := ⟨e.at_, e'.kd, e'.cl, e'.ca, e'.ru, e'.ge, e'.ho, e'.sp, e'.nm, e'.va, e'.fk, e'.fc, e'.fr⟩) h rfl
  have h1 := b_set (j := 1) (v := .int .i64 e.kd) (e' := ⟨e.at_, e.kd, e'.cl, e'.ca, e'.ru, e'.ge, e'.ho, e'.sp, e'.nm, e'.va, e'.fk, e'.fc, e'.fr⟩) h0 rfl
  have h2 := b_set (j := 2) (v := .int .i64 e.cl) (e' := ⟨e.at_, e.kd, e.cl, e'.ca, e'.ru, e'.ge, e'.ho, e'.sp, e'.nm, e'.va, e'.fk, e'.fc, e'.fr⟩) h1 rfl
  have h3 := b_set (j := 3) (v := .int .i64 e.ca) (e' := ⟨e.at_, e.kd, e.cl, e.ca, e'.ru, e'.ge, e'.ho, e'.sp, e'.nm, e'.va, e'.fk, e'.fc, e'.fr⟩) h2 rfl
  have h4 := b_set (j := 4) (v := .int .i64 e.ru) (e' := ⟨e.at_, e.kd, e.cl, e.ca, e.ru, e'.ge, e'.ho, e'.sp, e'.nm, e'.va, e'.fk, e'.fc, e'.fr⟩) h3 rfl
  have h5 := b_set (j := 5) (v := .int .i64 e.ge) (e' := ⟨e.at_, e.kd, e.cl, e.ca, e.ru, e.ge, e'.ho, e'.sp, e'.nm, e'.va, e'.fk, e'.fc, e'.fr⟩) h4 rfl
  have h6 := b_set (j := 6) (v := .int .i64 e.ho) (e' := ⟨e.at_, e.kd, e.cl, e.ca, e.ru, e.ge, e.ho, e'.sp, e'.nm, e'.va, e'.fk, e'.fc, e'.fr⟩) h5 rfl
  have h7 := b_set (j := 7) (v := .int .u16 e.sp) (e' := ⟨e.at_, e.kd, e.cl, e.ca, e.ru, e.ge, e.ho, e.sp, e'.nm, e'.va, e'.fk, e'.fc, e'.fr⟩) h6 rfl
  have h8 := b_set (j := 8) (v := .string e.nm) (e' := ⟨e.at_, e.kd, e.cl, e.ca, e.ru, e.ge, e.ho, e.sp, e.nm, e'.va, e'.fk, e'.fc, e'.fr⟩) h7 rfl
  have h9 := b_set (j := 9) (v := .int .i64 e.va) (e' := ⟨e.at_, e.kd, e.cl, e.ca, e.ru, e.ge, e.ho, e.sp, e.nm, e.va, e'.fk, e'.fc, e'.fr⟩) h8 rfl
  have h10 := b_set (j := 10) (v := .int .i64 e.fk) (e' := ⟨e.at_, e.kd, e.cl, e.ca, e.ru, e.ge, e.ho, e.sp, e.nm, e.va, e.fk, e'.fc, e'.fr⟩) h9 rfl
  have h11 := b_set (j := 11) (v := .int .i64 e.fc) (e' := ⟨e.at_, e.kd, e.cl, e.ca, e.ru, e.ge, e.ho, e.sp, e.nm, e.va, e.fk, e.fc, e'.fr⟩) h10 rfl
  have h12 := b_set (j := 12) (v := .int .i64 e.fr) (e' := ⟨e.at_, e.kd, e.cl, e.ca, e.ru, e.ge, e.ho, e.sp, e.nm, e.va, e.fk, e.fc, e.fr⟩) h11 rfl
  exact h12
theorem ret_ev {W : World} {R0 : Nat} {e : Ez} (h : Bk W R0 e) (tm : Array Value) (h2 : tm[2]? = some (.pointer (some ⟨R0, 0, none⟩))) : (results Tryz.f52 tm).run Tryz.prog W = .ok e.val W := by
  obtain ⟨c0, c1, c2, c3, c4, c5, c6, c7, c8, c9, c10, c11, c12⟩ := h.ib
  simp [results, Tryz.results52, go_sem, h2, c0, c1, c2, c3, c4, c5, c6, c7, c8, c9, c10, c11, c12, Ez.val]
theorem z64 : B64 0 := by unfold B64; omega
def rdM : Value → Value → Nat
  | .string s, .bool true => s.size + 1
  | _, _ => 0
theorem cut_dec (X : ByteArray) (h : cutB X 32 = true) : (cutR X 32).size < X.size := by
  have h2 := (cut_len X.data.toList 32).2.2 h
  show (Lib.cut X.data.toList [32]).2.1.toArray.size < X.size
  rw [List.size_toArray]
  rcases h2 with h2 | h2
  · exact h2
  · exfalso
    unfold cutB at h
    rw [h2] at h
    revert h
    decide
theorem rdM_dec (X : ByteArray) : rdM (.string (cutR X 32)) (.bool (cutB X 32)) < X.size + 1 := by
  cases h : cutB X 32 with
  | false => simp [rdM]
  | true =>
    have := cut_dec X h
    simp only [rdM]
    omega
set_option maxRecDepth 20000 in
set_option maxHeartbeats 8000000 in
theorem read_ {w : World} (hS : Sy w) (s : ByteArray) (hs : s.size < 4294967281) :
    Calls Tryz.prog 52 #[.string s] w fun r w' => ∃ e : Ez, r = .returned e.val ∧ Okr e ∧ Touch [] w w' := by
  have HS := hid hS
  have HZ := hid hs
  have hs1 := Nat.lt_of_le_of_lt (cutR_size s 32) hs
  have hs2 := Nat.lt_of_le_of_lt (cutR_size (cutR s 32) 32) hs1
  have H1 := hid (fun w' (t : Touch [] w w') => cut_ s 32 w' (hS.touch t) hs)
  have H2 := hid (fun w' (t : Touch [] w w') => cut_ (cutR s 32) 32 w' (hS.touch t) hs1)
  have H3 := hid (fun w' (t : Touch [] w w') => num_ (cutL s 32) w' (hS.touch t) (Nat.lt_of_le_of_lt (cutL_size s 32) hs))
  have H4 := hid (fun w' (t : Touch [] w w') => kind_ (cutL (cutR s 32) 32) w' (hS.touch t).tk)
  have HB64 : Hid (B64 (piV (cutL s 32).data.toList)) := hid (pi64 _)
  generalize cutL s 32 = x1 at *
  generalize cutL (cutR s 32) 32 = x2 at *
  generalize cutR (cutR s 32) 32 = x3 at *
  generalize cutB s 32 = y1 at *
  generalize cutB (cutR s 32) 32 = y2 at *
  generalize cutR s 32 = x0 at *
  generalize piV x1.data.toList = p1 at *
  have HX3 := hid hs2
  clear hS hs hs1 hs2
  go_enter Tryz.func52, Tryz.ntmps52
  go_wp2_with fail
  refine (H1.out _ ((Touch.refl [] w).alloc _)).mono ?_
  rintro e w1 ⟨rfl, t1⟩
  have T1 : Hid (Touch [] w w1) := hid (((Touch.refl [] w).alloc _).trans' t1)
  have B1 : Hid (Bk w1 w.heap.size e0) := hid (t1.keep (heap_alloc_new w _) (by simp))
  clear t1 H1
  go_wp2_with fail
  refine (H2.out _ T1.out).mono ?_
  rintro e w2 ⟨rfl, t2⟩
  have B2 := hid (B1.out.touch t2)
  have T2 := hid (T1.out.trans' t2)
  clear t2 B1 T1 H2
  go_wp2_with fail
  refine (H3.out _ T2.out).mono ?_
  rintro e w3 ⟨rfl, t3⟩
  have B3 := hid (B2.out.touch t3)
  have T3 := hid (T2.out.trans' t3)
  clear t3 B2 T2 H3
  go_wp2_with fail
  refine (H4.out _ T3.out).mono ?_
  rintro e w4 ⟨⟨j, rfl, hj⟩, e4⟩
  rw [e4]
  clear e4
  have hj0 := hj.1
  have HJ := hid hj
  clear hj H4
  go_wp2_with fail
  have hsz : w.heap.size + 1 ≤ w3.heap.size := by
    have h1 := B3.out
    have h2 := block_lt h1
    omega
  have S0 : Hid (Bk (w3.alloc (.cells #[.int .i64 p1, .int .i64 j, .int .i64 0, .int .i64 0, .int .i64 0, .int .i64 0, .int .i64 0, .int .u16 0, .string ⟨#[]⟩, .int .i64 0, .int .i64 0, .int .i64 0, .int .i64 0] 30)) w3.heap.size ⟨p1, j, 0, 0, 0, 0, 0, 0, ⟨#[]⟩, 0, 0, 0, 0⟩) := hid (heap_alloc_new w3 _)
  have OK0 : Hid (Okr ⟨p1, j, 0, 0, 0, 0, 0, 0, ⟨#[]⟩, 0, 0, 0, 0⟩) := hid ⟨⟨HB64.out, z64, z64, z64, z64, z64, z64, z64, z64, z64⟩, by dsimp only; omega, by dsimp only; omega, (show (⟨#[]⟩ : ByteArray).size ≤ 64 by decide)⟩
  have R0 : Hid (Bk (w3.alloc (.cells #[.int .i64 p1, .int .i64 j, .int .i64 0, .int .i64 0, .int .i64 0, .int .i64 0, .int .i64 0, .int .u16 0, .string ⟨#[]⟩, .int .i64 0, .int .i64 0, .int .i64 0, .int .i64 0] 30)) w.heap.size e0) := hid (B3.out.touch ((Touch.refl [] w3).alloc _))
  have TT := hid (T3.out.alloc (.cells #[.int .i64 p1, .int .i64 j, .int .i64 0, .int .i64 0, .int .i64 0, .int .i64 0, .int .i64 0, .int .u16 0, .string ⟨#[]⟩, .int .i64 0, .int .i64 0, .int .i64 0, .int .i64 0] 30))
  clear B3 T3 HB64 hj0
  generalize w3.heap.size = b at *
  go_loopw [4, 7] (fun r m wr => ∃ (X : ByteArray) (y : Bool) (e : Ez), r = .string X ∧ m = .bool y ∧ Hid (X.size < 4294967281 ∧ Bk wr b e ∧ Okr e ∧ Bk wr w.heap.size e0 ∧ Touch [] w wr)) (fun r m _ => rdM r m)
  case atStart => exact ⟨x3, y2, _, rfl, rfl, hid ⟨HX3.out, S0.out, OK0.out, R0.out, TT.out⟩⟩
  case round =>
    obtain ⟨X, y, e, rfl, rfl, HI⟩ := hrel
    clear S0 OK0 R0 TT
    cases y with
    | false =>
      have bb := HI.out.2.1
      have br := HI.out.2.2.2.1
      obtain ⟨c0, c1, c2, c3, c4, c5, c6, c7, c8, c9, c10, c11, c12⟩ := bb.ib
      obtain ⟨d0, d1, d2, d3, d4, d5, d6, d7, d8, d9, d10, d11, d12⟩ := br.ib
      dsimp only [e0] at d0 d1 d2 d3 d4 d5 d6 d7 d8 d9 d10 d11 d12
      have fz := froz_at br
      have BR := hid br
      clear bb br
      go_wp2_with fail
      refine bodyPost_ret (ret_ev (st13 BR.out) _ rfl) rfl ?_
      · exact ⟨e, rfl, HI.out.2.2.1, by
          iterate 13 refine Touch.setCell ?_ (Or.inr (Nat.le_refl _)) _
          exact HI.out.2.2.2.2⟩
    | true =>
      have HK := hid (fun w' (B : Bk w' b e) (t : Touch [] w w') => take_ (HS.out.touch t) B (cutL X 32) (Nat.lt_of_le_of_lt (cutL_size X 32) HI.out.1))
      have HC := hid (fun w' (t : Touch [] w w') => cut_ X 32 w' (HS.out.touch t) HI.out.1)
      have HD : Hid (rdM (.string (cutR X 32)) (.bool (cutB X 32)) < rdM (.string X) (.bool true)) := hid (rdM_dec X)
      have HR := hid (Nat.lt_of_le_of_lt (cutR_size X 32) HI.out.1)
      have HO := hid (fun l => take_ok HI.out.2.2.1 l)
      generalize cutL X 32 = xa at *
      generalize cutR X 32 = xb at *
      generalize cutB X 32 = xc at *
      by_cases h0 : X.size = 0
      · have e0' : X = ⟨#[]⟩ := Kt.ba_ext (List.eq_nil_of_length_eq_zero h0)
        subst e0'
        clear h0
        go_wp2_with fail
        refine (HC.out _ HI.out.2.2.2.2).mono ?_
        rintro r w1 ⟨rfl, t1⟩
        have I1 := hid (And.intro (HI.out.2.1.touch t1) (And.intro (HI.out.2.2.2.1.touch t1) (HI.out.2.2.2.2.trans' t1)))
        clear t1 HC
        go_wp2_with fail
        refine (HK.out _ I1.out.1 I1.out.2.2).mono ?_
        rintro r w2 ⟨rfl, k2, t2⟩
        have I2 : Hid (xb.size < 4294967281 ∧ Bk w2 b (takeL e xa.data.toList) ∧ Okr (takeL e xa.data.toList) ∧ Bk w2 w.heap.size e0 ∧ Touch [] w w2) := hid ⟨HR.out, k2, HO.out _, t2.keep I1.out.2.1 (by simp only [List.mem_singleton]; omega), I1.out.2.2.trans t2 (fun k hk => Or.inr (by simp only [List.mem_singleton] at hk; omega))⟩
        clear k2 t2 I1
        go_wp2_with fail
        go_roundw
        case rel => exact ⟨xb, xc, _, rfl, rfl, I2⟩
        case measure => exact HD.out
      · have hpos : 0 < X.size := by omega
        have h0I : (0 : Int) < (X.size : Int) := by omega
        have h1I : (1 : Int) ≤ (X.size : Int) := by omega
        have hneL : (X.toList == []) = false := by
          have : (X.toList == (⟨#[]⟩ : ByteArray).toList) = false := Bool.eq_false_iff.2 (fun h => by
            have := (Kt.beqB X ⟨#[]⟩).1 h
            rw [this] at h0; exact h0 rfl)
          simpa using this
        obtain ⟨Y, hY⟩ : ∃ Y : Nat, (X[0]'hpos).toNat = Y := ⟨_, rfl⟩
        by_cases y1 : Y = 107
        · subst y1
          have hZs : (X.extract 1 X.size).size < 4294967281 := by rw [ByteArray.size_extract]; have := HI.out.1; omega
          have HU := hid (fun w' => unmasked_ (w := w') (X.extract 1 X.size) (by omega))
          have hUs : (⟨(unF (X.extract 1 X.size).data.toList).toArray⟩ : ByteArray).size < 4294967281 := by
            have h1 := unF_len _ (X.extract 1 X.size).data.toList (Nat.le_refl _)
            have h2 : (X.extract 1 X.size).data.toList.length = (X.extract 1 X.size).size := rfl
            show (unF (X.extract 1 X.size).data.toList).toArray.size < 4294967281
            rw [List.size_toArray]
            omega
          have HQ := hid (fun w' => kparse_ ⟨(unF (X.extract 1 X.size).data.toList).toArray⟩ w' hUs)
          have HSP := hid (Kt.kp_sp ⟨(unF (X.extract 1 X.size).data.toList).toArray⟩)
          have HNM := hid (Kt.kp_nm ⟨(unF (X.extract 1 X.size).data.toList).toArray⟩)
          generalize (⟨(unF (X.extract 1 X.size).data.toList).toArray⟩ : ByteArray) = U at *
          clear hZs hUs HC HK HD HR HO
          go_wp2_with fail
          refine (HU.out _).mono ?_
          rintro r w1 ⟨rfl, t1⟩
          have I1 := hid (And.intro (HI.out.2.1.touch t1) (And.intro (HI.out.2.2.2.1.touch t1) (HI.out.2.2.2.2.trans' t1)))
          clear t1 HU
          go_wp2_with fail
          refine (HQ.out _).mono ?_
          rintro r w2 ⟨v1, v2, rfl, t2⟩
          have k2 := I1.out.1.touch t2
          have I2 := hid (And.intro k2 (And.intro (I1.out.2.1.touch t2) (I1.out.2.2.trans' t2)))
          have c7 := k2.ib.c7
          have c8 := k2.ib.c8
          have fz := froz_at k2
          clear t2 I1 HQ k2
          go_upto_region 7 with fail
          obtain ⟨V, hV⟩ : ∃ V, V = (w2.setCell ⟨b, 7, none⟩ (.int .u16 ((kp U).1 : Int))).setCell ⟨b, 8, none⟩ (.string (kp U).2.1) := ⟨_, rfl⟩
          rw [← hV]
          have bb : Bk V b { e with sp := ((kp U).1 : Int), nm := (kp U).2.1 } := by
            rw [hV]
            exact b_set (b_set I2.out.1 (j := 7) (e' := { e with sp := ((kp U).1 : Int) }) rfl) rfl
          have tv : Touch [b] w2 V := by
            rw [hV]
            exact ((Touch.refl [b] w2).setCell (Or.inl (by simp)) _).setCell (Or.inl (by simp)) _
          have br : Bk V w.heap.size e0 := tv.keep I2.out.2.1 (by simp only [List.mem_singleton]; omega)
          have TV := hid (I2.out.2.2.trans tv (fun k hk => Or.inr (by simp only [List.mem_singleton] at hk; omega)))
          have OK : Hid (Okr { e with sp := ((kp U).1 : Int), nm := (kp U).2.1 }) := hid (by
            obtain ⟨⟨h1, h2, h3, h4, h5, h6, h7, h8, h9, h10⟩, k, sp, nm⟩ := HI.out.2.2.1
            exact ⟨⟨h1, h2, h3, h4, h5, h6, h7, h8, h9, h10⟩, k, ⟨Int.natCast_nonneg _, Int.ofNat_le.2 HSP.out⟩, HNM.out⟩)
          clear hV tv c7 c8 fz I2 HSP HNM
          obtain ⟨c0, c1, c2, c3, c4, c5, c6, c7, c8, c9, c10, c11, c12⟩ := bb.ib
          obtain ⟨d0, d1, d2, d3, d4, d5, d6, d7, d8, d9, d10, d11, d12⟩ := br.ib
          dsimp only [e0] at d0 d1 d2 d3 d4 d5 d6 d7 d8 d9 d10 d11 d12
          dsimp only at c0 c1 c2 c3 c4 c5 c6 c7 c8 c9 c10 c11 c12
          have fz := froz_at br
          have BR := hid br
          clear bb br
          go_wp2_with fail
          refine bodyPost_ret (ret_ev (e := { e with sp := ((kp U).1 : Int), nm := (kp U).2.1 }) (st13 BR.out) _ rfl) rfl ?_
          exact ⟨_, rfl, OK.out, by
            iterate 13 refine Touch.setCell ?_ (Or.inr (Nat.le_refl _)) _
            exact TV.out⟩
        · have z1 : ((Y : Int) == 107) = false := by simp; omega
          have z1' : ¬ (Y : Int) = 107 := by omega
          go_wp2_with fail
          refine (HC.out _ HI.out.2.2.2.2).mono ?_
          rintro r w1 ⟨rfl, t1⟩
          have I1 := hid (And.intro (HI.out.2.1.touch t1) (And.intro (HI.out.2.2.2.1.touch t1) (HI.out.2.2.2.2.trans' t1)))
          clear t1 HC
          go_wp2_with fail
          refine (HK.out _ I1.out.1 I1.out.2.2).mono ?_
          rintro r w2 ⟨rfl, k2, t2⟩
          have I2 : Hid (xb.size < 4294967281 ∧ Bk w2 b (takeL e xa.data.toList) ∧ Okr (takeL e xa.data.toList) ∧ Bk w2 w.heap.size e0 ∧ Touch [] w w2) := hid ⟨HR.out, k2, HO.out _, t2.keep I1.out.2.1 (by simp only [List.mem_singleton]; omega), I1.out.2.2.trans t2 (fun k hk => Or.inr (by simp only [List.mem_singleton] at hk; omega))⟩
          clear k2 t2 I1
          go_wp2_with fail
          go_roundw
          case rel => exact ⟨xb, xc, _, rfl, rfl, I2⟩
          case measure => exact HD.out
end Go.Proofs.YtlffleigahfdlaaGreatDoor.Tr
/- A line written and parsed, and the law; the conditions: the variables hold what the start lays. -/
namespace Go.Proofs.YtlffleigahfdlaaGreatDoor.Tr
open Go.RowKit Go.Sort Go.Shelf Go.Maps Go.ChangeMaps
open Go.Proofs.YtlffleigahfdlaaGreatDoor.Kt (piV kp)
set_option linter.unusedVariables false
set_option linter.unusedSimpArgs false
theorem chk_kd {e : Ez} (h : chkE e = true) : 1 ≤ e.kd ∧ e.kd ≤ 11 := by
  unfold chkE at h
  simp only [Bool.and_eq_true] at h
  have h1 := h.2.1
  unfold isK at h1
  exact of_decide_eq_true h1
theorem chk_nm {e : Ez} (h : chkE e = true) : e.nm.size ≤ 64 := by
  unfold chkE at h
  simp only [Bool.and_eq_true] at h
  have h1 := h.2.2.2.2
  unfold keyB at h1
  split at h1
  · exact of_decide_eq_true h1
  · unfold zeroK at h1
    simp only [Bool.and_eq_true] at h1
    have h2 := of_decide_eq_true h1.2
    have h3 : e.nm = ⟨#[]⟩ := (Kt.beqB _ _).1 (by rw [h2]; simp)
    rw [h3]; decide
def lnB (e : Ez) : ByteArray := ⟨(lnL e).toArray⟩
def lnE (e : Ez) : ByteArray := if chkE e then lnB e else ⟨#[]⟩
theorem rets {s : ByteArray} (x : ByteArray) (h : x = s) {n m : Int} (h2 : n = m) : Ending.returned (.tuple #[.string x, .int .i64 n]) = .returned (.tuple #[.string s, .int .i64 m]) := by rw [h, h2]
set_option maxHeartbeats 4000000 in
theorem line_ (e : Ez) (w : World) (hS : Sy w) (h6 : Ok64 e) (hsp : 0 ≤ e.sp ∧ e.sp ≤ 65535) (hnm : e.nm.size ≤ maxLen) :
    Calls Tryz.prog 9 #[e.val] w fun r w' => r = .returned (.tuple #[.string (lnE e), .int .i64 (chkN e)]) ∧ Touch [] w w' := by
  have H1 : Hid (∀ w', Touch [] w w' → Calls Tryz.prog 12 #[e.val] w' fun r w'' => r = .returned (.int .i64 (chkN e)) ∧ Touch [] w' w'') := fun w' t => check_ e w' (hS.touch t).tk hnm
  have B0 : Hid (∀ w', Touch [] (w.alloc (.cells #[.int .i64 e.at_, .int .i64 e.kd, .int .i64 e.cl, .int .i64 e.ca, .int .i64 e.ru, .int .i64 e.ge, .int .i64 e.ho, .int .u16 e.sp, .string e.nm, .int .i64 e.va, .int .i64 e.fk, .int .i64 e.fc, .int .i64 e.fr] 30)) w' → Ib w' w.heap.size e) := fun w' t => (Ib.new w e 30).touch t
  cases hc : chkE e with
  | false =>
    have eN : chkN e = 240 := by unfold chkN; rw [hc]; rfl
    have eL : lnE e = ⟨#[]⟩ := by unfold lnE; rw [hc]; rfl
    rw [eN] at H1
    rw [eN, eL]
    unfold Ez.val at H1 ⊢
    clear hS h6 hsp hnm eN eL B0
    go_enter Tryz.func9, Tryz.ntmps9
    go_wp2_with fail
    refine (H1.out _ ((Touch.refl [] w).alloc _)).mono ?_
    rintro r w1 ⟨rfl, t1⟩
    have T1 : Hid (Touch [] w w1) := hid (((Touch.refl [] w).alloc _).trans' t1)
    clear t1 H1
    go_wp2_with fail
    go_ret2
    exact ⟨rfl, T1.out⟩
  | true =>
    have eN : chkN e = 0 := by unfold chkN; rw [hc]; rfl
    have eL : lnE e = lnB e := by unfold lnE; rw [hc]; rfl
    have H2 : Hid (∀ w', Touch [] w w' → Calls Tryz.prog 38 #[e.val] w' fun r w'' => r = .returned (.string (lnB e)) ∧ Touch [] w' w'') := fun w' t => lineOf_ e w' (hS.touch t).tk (hS.touch t).tab h6 (chk_kd hc) hsp (chk_nm hc)
    rw [eN] at H1
    rw [eN, eL]
    generalize lnB e = LB at *
    unfold Ez.val at H1 H2 ⊢
    clear hS h6 hsp hnm eN eL hc
    go_enter Tryz.func9, Tryz.ntmps9
    go_wp2_with fail
    refine (H1.out _ ((Touch.refl [] w).alloc _)).mono ?_
    rintro r w1 ⟨rfl, t1⟩
    obtain ⟨c0, c1, c2, c3, c4, c5, c6, c7, c8, c9, c10, c11, c12⟩ := B0.out _ t1
    have T1 : Hid (Touch [] w w1) := hid (((Touch.refl [] w).alloc _).trans' t1)
    clear t1 H1 B0
    go_wp2_with fail
    refine (H2.out _ T1.out).mono ?_
    rintro r w2 ⟨rfl, t2⟩
    have T2 := hid (T1.out.trans' t2)
    clear t2 T1 H2
    go_wp2_with fail
    go_ret2
    exact ⟨rfl, T2.out⟩
theorem ret_pr {W : World} {R0 : Nat} {e : Ez} (h : Bk W R0 e) (n : Int) (tm : Array Value) (h2 : tm[2]? = some (.pointer (some ⟨R0, 0, none⟩))) (h3 : tm[3]? = some (.int .i64 n)) : (results Tryz.f14 tm).run Tryz.prog W = .ok (.tuple #[e.val, .int .i64 n]) W := by
  obtain ⟨c0, c1, c2, c3, c4, c5, c6, c7, c8, c9, c10, c11, c12⟩ := h.ib
  simp [results, Tryz.results14, go_sem, h2, h3, c0, c1, c2, c3, c4, c5, c6, c7, c8, c9, c10, c11, c12, Ez.val]
/-- what a line is parsed to -/
def Pr (s : ByteArray) (e : Ez) (n : Int) : Prop := Okr e ∧ ((chkE e = true ∧ s = lnB e ∧ n = 0) ∨ (e = e0 ∧ n = 241))
theorem e0_ok : Okr e0 := ⟨⟨z64, z64, z64, z64, z64, z64, z64, z64, z64, z64⟩, by decide, by decide, (show (⟨#[]⟩ : ByteArray).size ≤ 64 by decide)⟩
set_option maxRecDepth 20000 in
set_option maxHeartbeats 8000000 in
theorem parse_ {w : World} (hS : Sy w) (s : ByteArray) (hs : s.size < 4294967281) :
    Calls Tryz.prog 14 #[.string s] w fun r w' => ∃ (e : Ez) (n : Int), r = .returned (.tuple #[e.val, .int .i64 n]) ∧ Pr s e n ∧ Touch [] w w' := by
  have HS := hid hS
  have HR := hid (fun w' (t : Touch [] w w') => read_ (hS.touch t) s hs)
  clear hS hs
  go_enter Tryz.func14, Tryz.ntmps14
  go_wp2_with fail
  refine (HR.out _ ((Touch.refl [] w).alloc _)).mono ?_
  rintro r w1 ⟨e, rfl, he, t1⟩
  have HE := hid he
  have T1 : Hid (Touch [] w w1) := hid (((Touch.refl [] w).alloc _).trans' t1)
  have B1 : Hid (Bk w1 w.heap.size e0) := hid (t1.keep (heap_alloc_new w _) (by simp))
  clear he t1 HR
  have HC := hid (fun w' (t : Touch [] w w') => check_ e w' (HS.out.touch t).tk (by have := HE.out.nm; unfold maxLen; omega))
  unfold Ez.val at HC ⊢
  have S1 : Hid (Bk (w1.alloc (.cells #[.int .i64 e.at_, .int .i64 e.kd, .int .i64 e.cl, .int .i64 e.ca, .int .i64 e.ru, .int .i64 e.ge, .int .i64 e.ho, .int .u16 e.sp, .string e.nm, .int .i64 e.va, .int .i64 e.fk, .int .i64 e.fc, .int .i64 e.fr] 30)) w1.heap.size e) := hid (heap_alloc_new w1 _)
  cases hc : chkE e with
  | false =>
    have eN : chkN e = 240 := by unfold chkN; rw [hc]; rfl
    rw [eN] at HC
    clear hc eN HS
    go_wp2_with fail
    refine (HC.out _ (T1.out.alloc _)).mono ?_
    rintro r w2 ⟨rfl, t2⟩
    have T2 := hid ((T1.out.alloc _).trans' t2)
    have br := (B1.out.touch ((Touch.refl [] w1).alloc _)).touch t2
    obtain ⟨d0, d1, d2, d3, d4, d5, d6, d7, d8, d9, d10, d11, d12⟩ := br.ib
    dsimp only [e0] at d0 d1 d2 d3 d4 d5 d6 d7 d8 d9 d10 d11 d12
    have fz := froz_at br
    have BR := hid br
    clear br t2 T1 B1 S1 HC
    go_wp2_with fail
    refine bodyPost_ret (ret_pr (e := e0) (st13 BR.out) 241 _ rfl rfl) rfl ?_
    exact ⟨e0, 241, rfl, ⟨e0_ok, Or.inr ⟨rfl, rfl⟩⟩, by
      iterate 13 refine Touch.setCell ?_ (Or.inr (Nat.le_refl _)) _
      exact T2.out⟩
  | true =>
    have eN : chkN e = 0 := by unfold chkN; rw [hc]; rfl
    rw [eN] at HC
    have HCK := hid hc
    have HL : Hid (∀ w', Touch [] w w' → Calls Tryz.prog 38 #[e.val] w' fun r w'' => r = .returned (.string (lnB e)) ∧ Touch [] w' w'') := hid (fun w' t => lineOf_ e w' (HS.out.touch t).tk (HS.out.touch t).tab HE.out.o (chk_kd hc) HE.out.sp HE.out.nm)
    unfold Ez.val at HL
    clear hc eN HS
    obtain ⟨LB, hLB⟩ : ∃ LB, lnB e = LB := ⟨_, rfl⟩
    rw [hLB] at HL
    have HLB := hid hLB
    clear hLB
    go_wp2_with fail
    refine (HC.out _ (T1.out.alloc _)).mono ?_
    rintro r w2 ⟨rfl, t2⟩
    have T2 := hid ((T1.out.alloc _).trans' t2)
    have BR2 := hid ((B1.out.touch ((Touch.refl [] w1).alloc _)).touch t2)
    have S2 := hid (S1.out.touch t2)
    obtain ⟨c0, c1, c2, c3, c4, c5, c6, c7, c8, c9, c10, c11, c12⟩ := S2.out.ib
    clear t2 T1 B1 S1 HC
    go_wp2_with fail
    refine (HL.out _ T2.out).mono ?_
    rintro r w3 ⟨rfl, t3⟩
    clear c0 c1 c2 c3 c4 c5 c6 c7 c8 c9 c10 c11 c12
    have br := BR2.out.touch t3
    obtain ⟨d0, d1, d2, d3, d4, d5, d6, d7, d8, d9, d10, d11, d12⟩ := br.ib
    dsimp only [e0] at d0 d1 d2 d3 d4 d5 d6 d7 d8 d9 d10 d11 d12
    have fz := froz_at br
    have BR := hid br
    have T3 := hid (T2.out.trans' t3)
    have S3 := hid (S2.out.touch t3)
    clear br t3 T2 BR2 S2 HL
    by_cases hq : LB = s
    · have hb : (LB.toList == s.toList) = true := (Kt.beqB _ _).2 hq
      have HQ := hid hq
      clear hq
      obtain ⟨c0, c1, c2, c3, c4, c5, c6, c7, c8, c9, c10, c11, c12⟩ := S3.out.ib
      go_wp2_with fail
      refine bodyPost_ret (ret_pr (e := e) (st13 BR.out) 0 _ rfl rfl) rfl ?_
      exact ⟨e, 0, rfl, ⟨HE.out, Or.inl ⟨HCK.out, by rw [HLB.out, HQ.out], rfl⟩⟩, by
        iterate 13 refine Touch.setCell ?_ (Or.inr (Nat.le_refl _)) _
        exact T3.out⟩
    · have hb : (LB.toList == s.toList) = false := Bool.eq_false_iff.2 (fun h => hq ((Kt.beqB _ _).1 h))
      clear hq
      go_wp2_with fail
      refine bodyPost_ret (ret_pr (e := e0) (st13 BR.out) 241 _ rfl rfl) rfl ?_
      exact ⟨e0, 241, rfl, ⟨e0_ok, Or.inr ⟨rfl, rfl⟩⟩, by
        iterate 13 refine Touch.setCell ?_ (Or.inr (Nat.le_refl _)) _
        exact T3.out⟩
end Go.Proofs.YtlffleigahfdlaaGreatDoor.Tr
/- The law TraceLines, walked; the conditions: the variables hold what the start lays. -/
namespace Go.Proofs.YtlffleigahfdlaaGreatDoor.Tr
open Go.RowKit Go.Sort Go.Shelf Go.Maps Go.ChangeMaps
set_option linter.unusedVariables false
set_option linter.unusedSimpArgs false
theorem eq30 (w : World) : (binOp .eql 30 (.agg #[.int .i64 0, .int .i64 0, .int .i64 0, .int .i64 0, .int .i64 0, .int .i64 0, .int .i64 0, .int .u16 0, .string ⟨#[]⟩, .int .i64 0, .int .i64 0, .int .i64 0, .int .i64 0]) (.agg #[.int .i64 0, .int .i64 0, .int .i64 0, .int .i64 0, .int .i64 0, .int .i64 0, .int .i64 0, .int .u16 0, .string ⟨#[]⟩, .int .i64 0, .int .i64 0, .int .i64 0, .int .i64 0])).run Tryz.prog w = .ok (.bool true) w := by kernel_rfl
set_option maxRecDepth 20000 in
set_option maxHeartbeats 16000000 in
theorem lines_ (e : Ez) (s : ByteArray) (w : World) (hS : Sy w) (h6 : Ok64 e) (hsp : 0 ≤ e.sp ∧ e.sp ≤ 65535) (hnm : e.nm.size ≤ maxLen) (hs : s.size < 4294967281) :
    Calls Tryz.prog 3 #[e.val, .string s] w fun r w' => r = .returned (.bool true) ∧ Touch [] w w' := by
  have HS := hid hS
  have HA := hid (fun w' (t : Touch [] w w') => awake_ w' (hS.touch t).tk)
  have HL := hid (fun w' (t : Touch [] w w') => line_ e w' (hS.touch t) h6 hsp hnm)
  have HG := hid (fun w' => given_ e w')
  have HR := hid (fun w' => rcheck_ e w' hnm)
  have HC := hid (fun w' (t : Touch [] w w') => check_ e w' (hS.touch t).tk hnm)
  have HP := hid (fun w' (t : Touch [] w w') => parse_ (hS.touch t) s hs)
  have hnot : ∀ (x : Bool) (w : World), (Op.unary .not (.bool x)).run Tryz.prog w = .ok (.bool (!x)) w := fun _ _ => rfl
  have heq := eq30
  have B0 : Hid (∀ w', Touch [] (w.alloc (.cells #[.int .i64 e.at_, .int .i64 e.kd, .int .i64 e.cl, .int .i64 e.ca, .int .i64 e.ru, .int .i64 e.ge, .int .i64 e.ho, .int .u16 e.sp, .string e.nm, .int .i64 e.va, .int .i64 e.fk, .int .i64 e.fc, .int .i64 e.fr] 30)) w' → Ib w' w.heap.size e) := hid (fun w' t => (Ib.new w e 30).touch t)
  have HX : Hid (chkE e = true → ∀ w', Calls Tryz.prog 13 #[e.val] w' fun r w'' => r = .returned (.string (lnB e)) ∧ Touch [] w' w'') := hid (fun hc w' => rline_ e w' h6 (chk_kd hc) hsp (chk_nm hc))
  unfold Ez.val at HL HG HR HC HX ⊢
  clear hS h6 hsp hnm hs
  go_enter Tryz.func3, Tryz.ntmps3
  go_wp2_with fail
  refine (HA.out _ ((Touch.refl [] w).alloc _)).mono ?_
  rintro r w1 ⟨rfl, t1⟩
  have A1 := hid t1
  obtain ⟨c0, c1, c2, c3, c4, c5, c6, c7, c8, c9, c10, c11, c12⟩ := B0.out _ t1
  clear t1 HA
  go_wp2_with fail
  refine (HL.out _ (((Touch.refl [] w).alloc _).trans' A1.out)).mono ?_
  rintro r w2 ⟨rfl, t2⟩
  have A2 := hid (A1.out.trans' t2)
  clear c0 c1 c2 c3 c4 c5 c6 c7 c8 c9 c10 c11 c12
  obtain ⟨c0, c1, c2, c3, c4, c5, c6, c7, c8, c9, c10, c11, c12⟩ := B0.out _ A2.out
  clear t2 A1 HL
  go_wp2_with fail
  refine (HG.out _).mono ?_
  rintro r w3 ⟨rfl, t3⟩
  have A3 := hid (A2.out.trans' t3)
  clear t3 A2 c0 c1 c2 c3 c4 c5 c6 c7 c8 c9 c10 c11 c12
  go_wp2_with fail
  refine (HR.out _).mono ?_
  rintro r w4 ⟨rfl, t4⟩
  have A4 := hid (A3.out.trans' t4)
  obtain ⟨c0, c1, c2, c3, c4, c5, c6, c7, c8, c9, c10, c11, c12⟩ := B0.out _ A4.out
  clear t4 A3 HR
  go_wp2_with fail
  refine (HC.out _ (((Touch.refl [] w).alloc _).trans' A4.out)).mono ?_
  rintro r w5 ⟨rfl, t5⟩
  have A5 := hid (A4.out.trans' t5)
  clear t5 A4 HC c0 c1 c2 c3 c4 c5 c6 c7 c8 c9 c10 c11 c12
  obtain ⟨c0, c1, c2, c3, c4, c5, c6, c7, c8, c9, c10, c11, c12⟩ := B0.out _ A5.out
  cases hc : chkE e with
  | false =>
    have eN : chkN e = 240 := by unfold chkN; rw [hc]; rfl
    have eL : lnE e = ⟨#[]⟩ := by unfold lnE; rw [hc]; rfl
    rw [eN, eL]
    clear hc eN eL HX HG
    go_wp2_with fail
    refine (HP.out _ (((Touch.refl [] w).alloc _).trans' A5.out)).mono ?_
    rintro r w9 ⟨e2, n, rfl, hp, t9⟩
    have A9 := hid (A5.out.trans' t9)
    have HE2 := hid hp.1
    clear t9 A5 HP
    rcases hp.2 with ⟨hc2, hs2, rfl⟩ | ⟨rfl, rfl⟩
    · have HC2 := hid hc2
      have HS2 := hid hs2
      have HGe := hid (fun w' => given_ e2 w')
      have HRe := hid (fun w' => rcheck_ e2 w' (by have := HE2.out.nm; unfold maxLen; omega))
      have HLe := hid (fun w' => rline_ e2 w' HE2.out.o (chk_kd hc2) HE2.out.sp HE2.out.nm)
      have S9 : Hid (∀ w', Touch [] (w9.alloc (.cells #[.int .i64 e2.at_, .int .i64 e2.kd, .int .i64 e2.cl, .int .i64 e2.ca, .int .i64 e2.ru, .int .i64 e2.ge, .int .i64 e2.ho, .int .u16 e2.sp, .string e2.nm, .int .i64 e2.va, .int .i64 e2.fk, .int .i64 e2.fc, .int .i64 e2.fr] 30)) w' → Ib w' w9.heap.size e2) := hid (fun w' t => (Ib.new w9 e2 30).touch t)
      rw [hc2] at HRe
      rw [show (⟨(lnL e2).toArray⟩ : ByteArray) = s from hs2.symm] at HLe
      have hbs : (s.toList == s.toList) = true := (Kt.beqB _ _).2 rfl
      clear hc2 hs2 hp HE2
      unfold Ez.val at HGe HRe HLe ⊢
      go_wp2_with fail
      refine (HGe.out _).mono ?_
      rintro r w10 ⟨rfl, t10⟩
      have Z10 := hid t10
      clear t10
      go_wp2_with fail
      refine (HRe.out _).mono ?_
      rintro r w11 ⟨rfl, t11⟩
      have Z11 := hid (Z10.out.trans' t11)
      clear t11 Z10 HRe
      obtain ⟨c0, c1, c2, c3, c4, c5, c6, c7, c8, c9, c10, c11, c12⟩ := S9.out _ Z11.out
      go_wp2_with fail
      refine (HGe.out _).mono ?_
      rintro r w12 ⟨rfl, t12⟩
      have Z12 := hid (Z11.out.trans' t12)
      clear t12 Z11 HGe c0 c1 c2 c3 c4 c5 c6 c7 c8 c9 c10 c11 c12
      go_wp2_with fail
      refine (HLe.out _).mono ?_
      rintro r w13 ⟨rfl, t13⟩
      have Z13 := hid (Z12.out.trans' t13)
      clear t13 Z12 HLe
      go_wp2_with fail
      go_ret
      exact ⟨rfl, ((((Touch.refl [] w).alloc _).trans' A9.out).alloc _).trans' Z13.out⟩
    · clear hp HE2
      unfold Ez.val e0
      go_wp2_with fail
      go_ret
      exact ⟨rfl, (((Touch.refl [] w).alloc _).trans' A9.out).alloc _⟩
  | true =>
    have eN : chkN e = 0 := by unfold chkN; rw [hc]; rfl
    have eL : lnE e = lnB e := by unfold lnE; rw [hc]; rfl
    have HX2 := hid (HX.out hc)
    rw [eN, eL]
    clear hc eN eL HX
    generalize lnB e = LB at *
    have hbl : (LB.toList == LB.toList) = true := (Kt.beqB _ _).2 rfl
    go_wp2_with fail
    refine (HG.out _).mono ?_
    rintro r w6 ⟨rfl, t6⟩
    have A6 := hid (A5.out.trans' t6)
    clear t6 A5 HG c0 c1 c2 c3 c4 c5 c6 c7 c8 c9 c10 c11 c12
    go_wp2_with fail
    refine (HX2.out _).mono ?_
    rintro r w7 ⟨rfl, t7⟩
    have A7 := hid (A6.out.trans' t7)
    clear t7 A6 HX2
    go_wp2_with fail
    refine (HP.out _ (((Touch.refl [] w).alloc _).trans' A7.out)).mono ?_
    rintro r w9 ⟨e2, n, rfl, hp, t9⟩
    have A9 := hid (A7.out.trans' t9)
    have HE2 := hid hp.1
    clear t9 A7 HP
    rcases hp.2 with ⟨hc2, hs2, rfl⟩ | ⟨rfl, rfl⟩
    · have HC2 := hid hc2
      have HS2 := hid hs2
      have HGe := hid (fun w' => given_ e2 w')
      have HRe := hid (fun w' => rcheck_ e2 w' (by have := HE2.out.nm; unfold maxLen; omega))
      have HLe := hid (fun w' => rline_ e2 w' HE2.out.o (chk_kd hc2) HE2.out.sp HE2.out.nm)
      have S9 : Hid (∀ w', Touch [] (w9.alloc (.cells #[.int .i64 e2.at_, .int .i64 e2.kd, .int .i64 e2.cl, .int .i64 e2.ca, .int .i64 e2.ru, .int .i64 e2.ge, .int .i64 e2.ho, .int .u16 e2.sp, .string e2.nm, .int .i64 e2.va, .int .i64 e2.fk, .int .i64 e2.fc, .int .i64 e2.fr] 30)) w' → Ib w' w9.heap.size e2) := hid (fun w' t => (Ib.new w9 e2 30).touch t)
      rw [hc2] at HRe
      rw [show (⟨(lnL e2).toArray⟩ : ByteArray) = s from hs2.symm] at HLe
      have hbs : (s.toList == s.toList) = true := (Kt.beqB _ _).2 rfl
      clear hc2 hs2 hp HE2
      unfold Ez.val at HGe HRe HLe ⊢
      go_wp2_with fail
      refine (HGe.out _).mono ?_
      rintro r w10 ⟨rfl, t10⟩
      have Z10 := hid t10
      clear t10
      go_wp2_with fail
      refine (HRe.out _).mono ?_
      rintro r w11 ⟨rfl, t11⟩
      have Z11 := hid (Z10.out.trans' t11)
      clear t11 Z10 HRe
      obtain ⟨c0, c1, c2, c3, c4, c5, c6, c7, c8, c9, c10, c11, c12⟩ := S9.out _ Z11.out
      go_wp2_with fail
      refine (HGe.out _).mono ?_
      rintro r w12 ⟨rfl, t12⟩
      have Z12 := hid (Z11.out.trans' t12)
      clear t12 Z11 HGe c0 c1 c2 c3 c4 c5 c6 c7 c8 c9 c10 c11 c12
      go_wp2_with fail
      refine (HLe.out _).mono ?_
      rintro r w13 ⟨rfl, t13⟩
      have Z13 := hid (Z12.out.trans' t13)
      clear t13 Z12 HLe
      go_wp2_with fail
      go_ret
      exact ⟨rfl, ((((Touch.refl [] w).alloc _).trans' A9.out).alloc _).trans' Z13.out⟩
    · clear hp HE2
      unfold Ez.val e0
      go_wp2_with fail
      go_ret
      exact ⟨rfl, (((Touch.refl [] w).alloc _).trans' A9.out).alloc _⟩
end Go.Proofs.YtlffleigahfdlaaGreatDoor.Tr
