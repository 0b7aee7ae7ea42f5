/- The law TraceLines, walked; the conditions: the variables hold what the start lays. -/
import Derived.Test.YtlffleigahfdlaaGreatDoorFgo
import Derived.Test.YtlffleigahfdlaaGreatDoorEvk
import Derived.Test.YtlffleigahfdlaaGreatDoorEvi
import Derived.Test.YtlffleigahfdlaaGreatDoorEvg
namespace Go.Proofs.YtlffleigahfdlaaGreatDoor.Tr
open Go.RowKit Go.Sort Go.Shelf Go.Maps Go.ChangeMaps
set_option linter.unusedVariables false
set_option linter.unusedSimpArgs false
theorem eq30 (w : World) : (binOp .eql 30 (.agg #[.int .i64 0, .int .i64 0, .int .i64 0, .int .i64 0, .int .i64 0, .int .i64 0, .int .i64 0, .int .u16 0, .string ⟨#[]⟩, .int .i64 0, .int .i64 0, .int .i64 0, .int .i64 0]) (.agg #[.int .i64 0, .int .i64 0, .int .i64 0, .int .i64 0, .int .i64 0, .int .i64 0, .int .i64 0, .int .u16 0, .string ⟨#[]⟩, .int .i64 0, .int .i64 0, .int .i64 0, .int .i64 0])).run Tryz.prog w = .ok (.bool true) w := by kernel_rfl
set_option maxRecDepth 20000 in
set_option maxHeartbeats 16000000 in
theorem lines_ (e : Ez) (s : ByteArray) (w : World) (hS : Sy w) (h6 : Ok64 e) (hsp : 0 ≤ e.sp ∧ e.sp ≤ 65535) (hnm : e.nm.size ≤ maxLen) (hs : s.size < 4294967281) :
    Calls Tryz.prog 3 #[e.val, .string s] w fun r w' => r = .returned (.bool true) ∧ Touch [] w w' := by
  have HS := hid hS
  have HA := hid (fun w' (t : Touch [] w w') => awake_ w' (hS.touch t).tk)
  have HL := hid (fun w' (t : Touch [] w w') => line_ e w' (hS.touch t) h6 hsp hnm)
  have HG := hid (fun w' => given_ e w')
  have HR := hid (fun w' => rcheck_ e w' hnm)
  have HC := hid (fun w' (t : Touch [] w w') => check_ e w' (hS.touch t).tk hnm)
  have HP := hid (fun w' (t : Touch [] w w') => parse_ (hS.touch t) s hs)
  have hnot : ∀ (x : Bool) (w : World), (Op.unary .not (.bool x)).run Tryz.prog w = .ok (.bool (!x)) w := fun _ _ => rfl
  have heq := eq30
  have B0 : Hid (∀ w', Touch [] (w.alloc (.cells #[.int .i64 e.at_, .int .i64 e.kd, .int .i64 e.cl, .int .i64 e.ca, .int .i64 e.ru, .int .i64 e.ge, .int .i64 e.ho, .int .u16 e.sp, .string e.nm, .int .i64 e.va, .int .i64 e.fk, .int .i64 e.fc, .int .i64 e.fr] 30)) w' → Ib w' w.heap.size e) := hid (fun w' t => (Ib.new w e 30).touch t)
  have HX : Hid (chkE e = true → ∀ w', Calls Tryz.prog 13 #[e.val] w' fun r w'' => r = .returned (.string (lnB e)) ∧ Touch [] w' w'') := hid (fun hc w' => rline_ e w' h6 (chk_kd hc) hsp (chk_nm hc))
  unfold Ez.val at HL HG HR HC HX ⊢
  clear hS h6 hsp hnm hs
  go_enter Tryz.func3, Tryz.ntmps3
  go_wp2_with fail
  refine (HA.out _ ((Touch.refl [] w).alloc _)).mono ?_
  rintro r w1 ⟨rfl, t1⟩
  have A1 := hid t1
  obtain ⟨c0, c1, c2, c3, c4, c5, c6, c7, c8, c9, c10, c11, c12⟩ := B0.out _ t1
  clear t1 HA
  go_wp2_with fail
  refine (HL.out _ (((Touch.refl [] w).alloc _).trans' A1.out)).mono ?_
  rintro r w2 ⟨rfl, t2⟩
  have A2 := hid (A1.out.trans' t2)
  clear c0 c1 c2 c3 c4 c5 c6 c7 c8 c9 c10 c11 c12
  obtain ⟨c0, c1, c2, c3, c4, c5, c6, c7, c8, c9, c10, c11, c12⟩ := B0.out _ A2.out
  clear t2 A1 HL
  go_wp2_with fail
  refine (HG.out _).mono ?_
  rintro r w3 ⟨rfl, t3⟩
  have A3 := hid (A2.out.trans' t3)
  clear t3 A2 c0 c1 c2 c3 c4 c5 c6 c7 c8 c9 c10 c11 c12
  go_wp2_with fail
  refine (HR.out _).mono ?_
  rintro r w4 ⟨rfl, t4⟩
  have A4 := hid (A3.out.trans' t4)
  obtain ⟨c0, c1, c2, c3, c4, c5, c6, c7, c8, c9, c10, c11, c12⟩ := B0.out _ A4.out
  clear t4 A3 HR
  go_wp2_with fail
  refine (HC.out _ (((Touch.refl [] w).alloc _).trans' A4.out)).mono ?_
  rintro r w5 ⟨rfl, t5⟩
  have A5 := hid (A4.out.trans' t5)
  clear t5 A4 HC c0 c1 c2 c3 c4 c5 c6 c7 c8 c9 c10 c11 c12
  obtain ⟨c0, c1, c2, c3, c4, c5, c6, c7, c8, c9, c10, c11, c12⟩ := B0.out _ A5.out
  cases hc : chkE e with
  | false =>
    have eN : chkN e = 240 := by unfold chkN; rw [hc]; rfl
    have eL : lnE e = ⟨#[]⟩ := by unfold lnE; rw [hc]; rfl
    rw [eN, eL]
    clear hc eN eL HX HG
    go_wp2_with fail
    refine (HP.out _ (((Touch.refl [] w).alloc _).trans' A5.out)).mono ?_
    rintro r w9 ⟨e2, n, rfl, hp, t9⟩
    have A9 := hid (A5.out.trans' t9)
    have HE2 := hid hp.1
    clear t9 A5 HP
    rcases hp.2 with ⟨hc2, hs2, rfl⟩ | ⟨rfl, rfl⟩
    · have HC2 := hid hc2
      have HS2 := hid hs2
      have HGe := hid (fun w' => given_ e2 w')
      have HRe := hid (fun w' => rcheck_ e2 w' (by have := HE2.out.nm; unfold maxLen; omega))
      have HLe := hid (fun w' => rline_ e2 w' HE2.out.o (chk_kd hc2) HE2.out.sp HE2.out.nm)
      have S9 : Hid (∀ w', Touch [] (w9.alloc (.cells #[.int .i64 e2.at_, .int .i64 e2.kd, .int .i64 e2.cl, .int .i64 e2.ca, .int .i64 e2.ru, .int .i64 e2.ge, .int .i64 e2.ho, .int .u16 e2.sp, .string e2.nm, .int .i64 e2.va, .int .i64 e2.fk, .int .i64 e2.fc, .int .i64 e2.fr] 30)) w' → Ib w' w9.heap.size e2) := hid (fun w' t => (Ib.new w9 e2 30).touch t)
      rw [hc2] at HRe
      rw [show (⟨(lnL e2).toArray⟩ : ByteArray) = s from hs2.symm] at HLe
      have hbs : (s.toList == s.toList) = true := (Kt.beqB _ _).2 rfl
      clear hc2 hs2 hp HE2
      unfold Ez.val at HGe HRe HLe ⊢
      go_wp2_with fail
      refine (HGe.out _).mono ?_
      rintro r w10 ⟨rfl, t10⟩
      have Z10 := hid t10
      clear t10
      go_wp2_with fail
      refine (HRe.out _).mono ?_
      rintro r w11 ⟨rfl, t11⟩
      have Z11 := hid (Z10.out.trans' t11)
      clear t11 Z10 HRe
      obtain ⟨c0, c1, c2, c3, c4, c5, c6, c7, c8, c9, c10, c11, c12⟩ := S9.out _ Z11.out
      go_wp2_with fail
      refine (HGe.out _).mono ?_
      rintro r w12 ⟨rfl, t12⟩
      have Z12 := hid (Z11.out.trans' t12)
      clear t12 Z11 HGe c0 c1 c2 c3 c4 c5 c6 c7 c8 c9 c10 c11 c12
      go_wp2_with fail
      refine (HLe.out _).mono ?_
      rintro r w13 ⟨rfl, t13⟩
      have Z13 := hid (Z12.out.trans' t13)
      clear t13 Z12 HLe
      go_wp2_with fail
      go_ret
      exact ⟨rfl, ((((Touch.refl [] w).alloc _).trans' A9.out).alloc _).trans' Z13.out⟩
    · clear hp HE2
      unfold Ez.val e0
      go_wp2_with fail
      go_ret
      exact ⟨rfl, (((Touch.refl [] w).alloc _).trans' A9.out).alloc _⟩
  | true =>
    have eN : chkN e = 0 := by unfold chkN; rw [hc]; rfl
    have eL : lnE e = lnB e := by unfold lnE; rw [hc]; rfl
    have HX2 := hid (HX.out hc)
    rw [eN, eL]
    clear hc eN eL HX
    generalize lnB e = LB at *
    have hbl : (LB.toList == LB.toList) = true := (Kt.beqB _ _).2 rfl
    go_wp2_with fail
    refine (HG.out _).mono ?_
    rintro r w6 ⟨rfl, t6⟩
    have A6 := hid (A5.out.trans' t6)
    clear t6 A5 HG c0 c1 c2 c3 c4 c5 c6 c7 c8 c9 c10 c11 c12
    go_wp2_with fail
    refine (HX2.out _).mono ?_
    rintro r w7 ⟨rfl, t7⟩
    have A7 := hid (A6.out.trans' t7)
    clear t7 A6 HX2
    go_wp2_with fail
    refine (HP.out _ (((Touch.refl [] w).alloc _).trans' A7.out)).mono ?_
    rintro r w9 ⟨e2, n, rfl, hp, t9⟩
    have A9 := hid (A7.out.trans' t9)
    have HE2 := hid hp.1
    clear t9 A7 HP
    rcases hp.2 with ⟨hc2, hs2, rfl⟩ | ⟨rfl, rfl⟩
    · have HC2 := hid hc2
      have HS2 := hid hs2
      have HGe := hid (fun w' => given_ e2 w')
      have HRe := hid (fun w' => rcheck_ e2 w' (by have := HE2.out.nm; unfold maxLen; omega))
      have HLe := hid (fun w' => rline_ e2 w' HE2.out.o (chk_kd hc2) HE2.out.sp HE2.out.nm)
      have S9 : Hid (∀ w', Touch [] (w9.alloc (.cells #[.int .i64 e2.at_, .int .i64 e2.kd, .int .i64 e2.cl, .int .i64 e2.ca, .int .i64 e2.ru, .int .i64 e2.ge, .int .i64 e2.ho, .int .u16 e2.sp, .string e2.nm, .int .i64 e2.va, .int .i64 e2.fk, .int .i64 e2.fc, .int .i64 e2.fr] 30)) w' → Ib w' w9.heap.size e2) := hid (fun w' t => (Ib.new w9 e2 30).touch t)
      rw [hc2] at HRe
      rw [show (⟨(lnL e2).toArray⟩ : ByteArray) = s from hs2.symm] at HLe
      have hbs : (s.toList == s.toList) = true := (Kt.beqB _ _).2 rfl
      clear hc2 hs2 hp HE2
      unfold Ez.val at HGe HRe HLe ⊢
      go_wp2_with fail
      refine (HGe.out _).mono ?_
      rintro r w10 ⟨rfl, t10⟩
      have Z10 := hid t10
      clear t10
      go_wp2_with fail
      refine (HRe.out _).mono ?_
      rintro r w11 ⟨rfl, t11⟩
      have Z11 := hid (Z10.out.trans' t11)
      clear t11 Z10 HRe
      obtain ⟨c0, c1, c2, c3, c4, c5, c6, c7, c8, c9, c10, c11, c12⟩ := S9.out _ Z11.out
      go_wp2_with fail
      refine (HGe.out _).mono ?_
      rintro r w12 ⟨rfl, t12⟩
      have Z12 := hid (Z11.out.trans' t12)
      clear t12 Z11 HGe c0 c1 c2 c3 c4 c5 c6 c7 c8 c9 c10 c11 c12
      go_wp2_with fail
      refine (HLe.out _).mono ?_
      rintro r w13 ⟨rfl, t13⟩
      have Z13 := hid (Z12.out.trans' t13)
      clear t13 Z12 HLe
      go_wp2_with fail
      go_ret
      exact ⟨rfl, ((((Touch.refl [] w).alloc _).trans' A9.out).alloc _).trans' Z13.out⟩
    · clear hp HE2
      unfold Ez.val e0
      go_wp2_with fail
      go_ret
      exact ⟨rfl, (((Touch.refl [] w).alloc _).trans' A9.out).alloc _⟩
end Go.Proofs.YtlffleigahfdlaaGreatDoor.Tr
