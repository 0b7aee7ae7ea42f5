/- The walk of SnapshotBack; the numbers are of 64 bits, the lists no longer than a slice may be. -/
import Derived.Test.YtpefbmheblfbeaaGreatQb11
import Derived.Test.YtpefbmheblfbeaaGreatQb05
namespace Go.Proofs.YtpefbmheblfbeaaGreat.Sn
open Go.RowKit Go.Sort Go.Shelf Me
set_option linter.unusedVariables false
set_option linter.unusedSimpArgs false
def bK : K := (0, ⟨#[98]⟩)
theorem bK_ok : Ok bK := ⟨by decide, by decide⟩
def BaI (V : World) (c : Cf) (m : Nat) (F : List Nat) (now : Int) (xs : List En) (o b : Nat) (wr : World) : Prop := ∃ Fo Fb no L, Bs V wr c m F now xs o Fo no L b Fb no L ∧ EK c L ∧ now ≤ no
set_option maxRecDepth 20000 in
set_option maxHeartbeats 16000000 in
theorem back_ {w : World} {c : Cf} {now at_ : Int} {xs more : List En} {v vm : Value} (wc : Wc c) (wn : W64 now) (hv : RA w v xs) (ho : ∀ x ∈ xs, Ok x.1 ∧ Wo x.2.1 ∧ W64 x.2.2) (hl : xs.length ≤ 2199023255488) (hvm : RA w vm more) (hom : ∀ x ∈ more, Ok x.1 ∧ Wo x.2.1 ∧ W64 x.2.2) (hlm : more.length ≤ 2199023255488) (wa : W64 at_) :
    Calls Tryz.prog 5 #[.agg (wcs c now v), vm, .int .i64 at_] w fun e w' => e = .returned (.bool true) ∧ Touch [] w w' := by
  obtain ⟨V, hV⟩ : ∃ V, V = w.alloc (.cells (wcs c now v) 26) := ⟨_, rfl⟩
  have tV : Touch [] w V := by rw [hV]; exact (Touch.refl _ _).alloc _
  have hb : V.heap[w.heap.size]? = some (.cells (wcs c now v) 26 (0, 0)) := by rw [hV]; exact heap_alloc_new w _
  have HT := hid tV
  have AW := hid awake_
  have MY := hid (fun h1 => made_yes (w := V) (now := now) wc hl (hv.keep tV) (fun x hx => (ho x hx).1) h1)
  have MN := hid (fun h1 => made_no (w := V) (now := now) wc hl (hv.keep tV) (fun x hx => (ho x hx).1) h1)
  have HBK := hid (fun h1 nd => Bk.of (c := c) (now := now) (xs := xs) h1 wc wn ho nd)
  obtain ⟨am, nm, cm, evm⟩ : ∃ am nm cm, vm = .slice am nm cm := by obtain ⟨a, cp, e, _⟩ := hvm; exact ⟨_, _, _, e⟩
  have hnm : nm = more.length := by obtain ⟨a, cp, e, _⟩ := hvm; rw [evm] at e; cases e; rfl
  subst evm
  have HVM := hid hvm
  have HOM := hid hom
  have HNM := hid hnm
  have HLM := hid hlm
  have HWA := hid wa
  have q0 := cell_of (n := 0) hb rfl
  have q1 := cell_of (n := 1) hb rfl
  have q2 := cell_of (n := 2) hb rfl
  have q3 := cell_of (n := 3) hb rfl
  have q4 := cell_of (n := 4) hb rfl
  have q5 := cell_of (n := 5) hb rfl
  have q6 := cell_of (n := 6) hb rfl
  have q7 := cell_of (n := 7) hb rfl
  have q8 := cell_of (n := 8) hb rfl
  clear wn hv ho hl tV hb hvm hom hlm hnm wa wc
  go_enter Tryz.func5, Tryz.ntmps5
  unfold wcs at *
  go_upto_region 1 with fail
  rw [← hV]
  clear hV
  by_cases h1 : (ofP c now xs).2 = 0
  · have M1 := hid (MY.out h1)
    have HB1 := hid (HBK.out h1)
    unfold wcs mv at M1
    clear MY MN HBK
    go_upto_region 2 with (go_at_call 9; refine M1.out.mono ?_; rintro e u6 ⟨m, F, a1, c1, rfl, mq, t6⟩; have MQ := hid mq; have T6 := hid t6; clear mq t6)
    clear M1 q0 q1 q2 q3 q4 q5 q6 q7 q8
    have BK := hid (HB1.out MQ.out.nd)
    clear HB1 h1
    have T7 := hid ((HT.out.trans' T6.out).alloc (.cells #[.int .i64 c.t, .int .i64 c.n, .int .i64 c.s, .int .i64 c.e, .int .i64 c.f, .int .i64 c.b, .int .i64 c.d, .int .i64 now, .slice a1 xs.length c1] 32))
    have MQ7 := hid (MQ.out.keep0 ((Touch.refl [] u6).alloc (.cells #[.int .i64 c.t, .int .i64 c.n, .int .i64 c.s, .int .i64 c.e, .int .i64 c.f, .int .i64 c.b, .int .i64 c.d, .int .i64 now, .slice a1 xs.length c1] 32)))
    go_upto_region 4 with (go_at_call 8; refine (AW.out _).mono ?_; rintro e u8 ⟨rfl, t8⟩; have T8 := hid (T7.out.trans' t8); have MQ8 := hid (MQ7.out.keep0 t8); clear t8)
    clear T6 T7 MQ MQ7 AW
    have A1 := hid (tell_ MQ8.out BK.out.mm)
    have HSL := hid (tellS_le BK.out)
    have HRO := hid (fun w' => read_ok w' BK.out HSL.out)
    have HRC := hid (fun w' p cut hp hc => read_cut w' BK.out (p := p) (cut := cut) hp hc)
    have HSU := hid (fun w' => sum_ w' (tellS c now xs) (by have := HSL.out; omega))
    have HEA := hid (endS_all c now xs)
    have HV8 := hid (fun w' => rvalue8_ w' (tellS c now xs) ((tellS c now xs).size - 8) (by have := HSL.out; omega) (by have := tellS_size c now xs; omega))
    have HZ8 : Hid (8 ≤ (tellS c now xs).size) := hid (by have := tellS_size c now xs; omega)
    rw [show (⟨(tellB c now xs).toArray⟩ : ByteArray) = tellS c now xs from rfl] at A1
    rw [HEA.out.1, HEA.out.2] at HSU
    clear HEA
    generalize val8 ((tellS c now xs).data.toList.drop ((tellS c now xs).size - 8)) = z8 at *
    generalize tellS c now xs = sa at *
    unfold PT at *
    go_upto_region 5 with (go_at_call 10; refine A1.out.mono ?_; rintro e u9 ⟨rfl, t9⟩; have T9 := hid (T8.out.trans' t9); have MQ9 := hid (MQ8.out.keep0 t9); clear t9 A1)
    go_upto_region 6 with (go_at_call 12; refine (HRO.out _).mono ?_; rintro e u10 ⟨b, rfl, hb10⟩; have QB := hid hb10; clear hb10 HRO)
    have HSE := hid (by obtain ⟨Fb, b1, b2, b3⟩ := QB.out; exact same_eq (MQ9.out.keep0 b3) b1 BK.out)
    unfold PT at *
    go_upto_region 8 with (go_at_call 19; refine HSE.out.mono ?_; rintro e u11 ⟨rfl, t11⟩; have T11 := hid t11; clear t11 HSE)
    have HCL := hid (by obtain ⟨Fb, b1, b2, b3⟩ := QB.out; exact cloneM u11 m F c now xs ((MQ9.out.keep0 b3).keep0 T11.out))
    unfold PT at *
    go_upto_region 9 with (go_at_call 20; refine HCL.out.mono ?_; rintro e u12 ⟨o, rfl, ho12⟩; have BS0 := hid (Bs.start MQ9.out QB.out T11.out ho12); clear ho12 HCL)
    have HI0 : Hid (BaI u9 c m F now xs o b u12) := hid (by obtain ⟨Fo, Fb, h⟩ := BS0.out; exact ⟨Fo, Fb, now, xs, h, BK.out.ek, Int.le_refl _⟩)
    clear BS0 T11 QB
    unfold PT at *
    go_wp2_with fail
    go_loopw [75] (fun s75 wr => ∃ i : Nat, s75 = .int .i64 i ∧ i ≤ nm ∧ Hid (BaI u9 c m F now xs o b wr)) (fun s75 _ => nm - (intOf s75).toNat)
    case atStart => exact ⟨0, rfl, Nat.zero_le _, HI0⟩
    case round =>
      clear HI0
      obtain ⟨i, rfl, hi, HI⟩ := hrel
      obtain ⟨wo, hwo⟩ : ∃ wo, wo = wr := ⟨_, rfl⟩
      rw [← hwo] at HI ⊢
      clear hwo wr
      have hnn : nm ≤ 2199023255488 := by have := HLM.out; have := HNM.out; omega
      by_cases hlt : i < nm
      · have hz : (i : Int) < (nm : Int) := by omega
        have hix : i < more.length := by rw [← HNM.out]; exact hlt
        obtain ⟨Fo, Fb, nw, L, hBS, hEK, hle⟩ := HI.out
        obtain ⟨g2, o2, rfl, k0, k1, k2, k3, k4, k5, k6⟩ := ra7_cell (HVM.out.keep (T9.out.trans' hBS.t)) hix
        have hox := HOM.out more[i] (List.getElem_mem hix)
        generalize more[i] = x at *
        obtain ⟨W1, hW1⟩ : ∃ W1, W1 = wo.alloc (.cells #[.int .u16 x.1.1, .string x.1.2, .int .i64 x.2.1.1, .int .i64 x.2.1.2.1, .int .i64 x.2.1.2.2.1, .int .i64 x.2.1.2.2.2, .int .i64 x.2.2] 60) := ⟨_, rfl⟩
        obtain ⟨kb, hkb⟩ : ∃ kb, kb = wo.heap.size := ⟨_, rfl⟩
        have tW : Touch [] wo W1 := by rw [hW1]; exact (Touch.refl _ _).alloc _
        have hbx : W1.heap[kb]? = some (.cells #[.int .u16 x.1.1, .string x.1.2, .int .i64 x.2.1.1, .int .i64 x.2.1.2.1, .int .i64 x.2.1.2.2.1, .int .i64 x.2.1.2.2.2, .int .i64 x.2.2] 60 (0, 0)) := by rw [hW1, hkb]; exact heap_alloc_new wo _
        have BS1 := hid (hBS.keep0 tW)
        have HBX := hid hbx
        have HLT := hid (And.intro hi hlt)
        have HOX := hid hox
        have HEK := hid hEK
        have HLE := hid hle
        have HN0 : Hid (0 ≤ nw) := hid hBS.o.gd.n0
        clear hBS hEK hle hox tW hbx hix HI
        obtain ⟨nw2, hnw2⟩ : ∃ nw2, nw2 = kpN nw nw x.1 x.2.1 := ⟨_, rfl⟩
        obtain ⟨L2, hL2⟩ : ∃ L2, L2 = kpX c nw nw L x.1 x.2.1 := ⟨_, rfl⟩
        have HK2 : Hid (EK c L2 ∧ now ≤ nw2) := hid ⟨by rw [hL2]; exact HEK.out.keep HOX.out.1 HOX.out.2.1 HN0.out, by rw [hnw2]; exact Int.le_trans HLE.out kpN_le⟩
        obtain ⟨bb, hbb⟩ : ∃ bb, bb = kpB c nw nw x.1 x.2.1 := ⟨_, rfl⟩
        obtain ⟨ee, hee⟩ : ∃ ee, ee = keepE nw nw x.1 x.2.1 := ⟨_, rfl⟩
        obtain ⟨gl, hgl⟩ : ∃ gl, gl = (kpG c nw nw L x.1 x.2.1).length := ⟨_, rfl⟩
        have HKE : Hid (∀ (wr : World) (o b : Nat) (Fo Fb : List Nat) (nb : Int) (Lb : List En), Bs u9 wr c m F now xs o Fo nw L b Fb nb Lb → Calls Tryz.prog 21 #[.pointer (some ⟨o, 0, none⟩), .int .i64 nw, .agg #[.int .u16 x.1.1, .string x.1.2], .agg #[.int .i64 x.2.1.1, .int .i64 x.2.1.2.1, .int .i64 x.2.1.2.2.1, .int .i64 x.2.1.2.2.2]] wr fun e w' => ∃ ua ucp Fx, e = .returned (.tuple #[.bool bb, .slice ua gl ucp, .int .i64 ee]) ∧ Bs u9 w' c m F now xs o Fx nw2 L2 b Fb nb Lb ∧ Touch Fo wr w') := hid (fun wr o b Fo Fb nb Lb h => by rw [hbb, hee, hgl, hnw2, hL2]; exact h.keepO nw x.1 HOX.out.1 x.2.1)
        have HNO : Hid (∀ (wr : World) (o b : Nat) (Fo Fb : List Nat) (nb : Int) (L Lb : List En), Bs u9 wr c m F now xs o Fo nw L b Fb nb Lb → Calls Tryz.prog 22 #[.pointer (some ⟨o, 0, none⟩)] wr fun e w'' => e = .returned (.int .i64 nw) ∧ w'' = wr) := hid (fun wr o b Fo Fb nb L Lb h => by obtain ⟨bq, oq, G, _, hq⟩ := h.o; exact now26 wr o c nw bq oq hq.md)
        clear hnw2 hL2 hbb hee hgl HEK HLE HOX HN0
        go_upto_region 12 with fail
        rw [← hW1]
        try rw [← hkb]
        clear hW1 hkb k0 k1 k2 k3 k4 k5 k6
        have X0 : ∀ w' : World, w'.heap[kb]? = some (.cells #[.int .u16 x.1.1, .string x.1.2, .int .i64 x.2.1.1, .int .i64 x.2.1.2.1, .int .i64 x.2.1.2.2.1, .int .i64 x.2.1.2.2.2, .int .i64 x.2.2] 60 (0, 0)) → w'.cell? ⟨kb, 0, none⟩ = some (.int .u16 x.1.1) := fun w' h => cell_at h rfl
        have X1 : ∀ w' : World, w'.heap[kb]? = some (.cells #[.int .u16 x.1.1, .string x.1.2, .int .i64 x.2.1.1, .int .i64 x.2.1.2.1, .int .i64 x.2.1.2.2.1, .int .i64 x.2.1.2.2.2, .int .i64 x.2.2] 60 (0, 0)) → w'.cell? ⟨kb, 1, none⟩ = some (.string x.1.2) := fun w' h => cell_at h rfl
        have X2 : ∀ w' : World, w'.heap[kb]? = some (.cells #[.int .u16 x.1.1, .string x.1.2, .int .i64 x.2.1.1, .int .i64 x.2.1.2.1, .int .i64 x.2.1.2.2.1, .int .i64 x.2.1.2.2.2, .int .i64 x.2.2] 60 (0, 0)) → w'.cell? ⟨kb, 2, none⟩ = some (.int .i64 x.2.1.1) := fun w' h => cell_at h rfl
        have X3 : ∀ w' : World, w'.heap[kb]? = some (.cells #[.int .u16 x.1.1, .string x.1.2, .int .i64 x.2.1.1, .int .i64 x.2.1.2.1, .int .i64 x.2.1.2.2.1, .int .i64 x.2.1.2.2.2, .int .i64 x.2.2] 60 (0, 0)) → w'.cell? ⟨kb, 3, none⟩ = some (.int .i64 x.2.1.2.1) := fun w' h => cell_at h rfl
        have X4 : ∀ w' : World, w'.heap[kb]? = some (.cells #[.int .u16 x.1.1, .string x.1.2, .int .i64 x.2.1.1, .int .i64 x.2.1.2.1, .int .i64 x.2.1.2.2.1, .int .i64 x.2.1.2.2.2, .int .i64 x.2.2] 60 (0, 0)) → w'.cell? ⟨kb, 4, none⟩ = some (.int .i64 x.2.1.2.2.1) := fun w' h => cell_at h rfl
        have X5 : ∀ w' : World, w'.heap[kb]? = some (.cells #[.int .u16 x.1.1, .string x.1.2, .int .i64 x.2.1.1, .int .i64 x.2.1.2.1, .int .i64 x.2.1.2.2.1, .int .i64 x.2.1.2.2.2, .int .i64 x.2.2] 60 (0, 0)) → w'.cell? ⟨kb, 5, none⟩ = some (.int .i64 x.2.1.2.2.2) := fun w' h => cell_at h rfl
        have X6 : ∀ w' : World, w'.heap[kb]? = some (.cells #[.int .u16 x.1.1, .string x.1.2, .int .i64 x.2.1.1, .int .i64 x.2.1.2.1, .int .i64 x.2.1.2.2.1, .int .i64 x.2.1.2.2.2, .int .i64 x.2.2] 60 (0, 0)) → w'.cell? ⟨kb, 6, none⟩ = some (.int .i64 x.2.2) := fun w' h => cell_at h rfl
        obtain ⟨Wd, hWd⟩ : ∃ Wd, Wd = W1.drew := ⟨_, rfl⟩
        have BSd := hid (BS1.out.keep0 (by rw [hWd]; exact (Touch.refl _ _).drew : Touch [] W1 Wd))
        have s0 : Wd.heap[kb]? = some (.cells #[.int .u16 x.1.1, .string x.1.2, .int .i64 x.2.1.1, .int .i64 x.2.1.2.1, .int .i64 x.2.1.2.2.1, .int .i64 x.2.1.2.2.2, .int .i64 x.2.2] 60 (0, 0)) := by rw [hWd]; exact HBX.out
        have HBk : Hid (∀ w', Touch Fo Wd w' → w'.heap[kb]? = some (.cells #[.int .u16 x.1.1, .string x.1.2, .int .i64 x.2.1.1, .int .i64 x.2.1.2.1, .int .i64 x.2.1.2.2.1, .int .i64 x.2.1.2.2.2, .int .i64 x.2.2] 60 (0, 0))) := hid (fun w' t => t.keep s0 (BSd.out.o.away s0 (by decide) (by decide) (by decide)))
        have HNw := hid (HNO.out _ _ _ _ _ _ _ _ BSd.out)
        have HKp := hid (HKE.out _ _ _ _ _ _ _ BSd.out)
        refine wp_region_H (S := fun w' => w'.heap[kb]? = some (.cells #[.int .u16 x.1.1, .string x.1.2, .int .i64 x.2.1.1, .int .i64 x.2.1.2.1, .int .i64 x.2.1.2.2.1, .int .i64 x.2.1.2.2.2, .int .i64 x.2.2] 60 (0, 0))) (by kernel_rfl) ?_
        rw [← hWd]
        clear hWd BS1 HBX
        refine wpH_take (i := 0) (v := (.pointer (some ⟨o, 0, none⟩))) (some 80) rfl rfl (by kernel_rfl) (by kernel_rfl) (by kernel_rfl) (fun _ _ _ h => h) (Or.inl ⟨by rfl, fun w' hS => (by go_simp)⟩) s0 ?_
        try simp only [Go.Act.put, List.setIfInBounds_toArray, List.set_cons_zero, List.set_cons_succ]
        refine wpH_take (i := 1) (v := (.pointer (some ⟨o, 0, none⟩))) (some 81) rfl rfl (by kernel_rfl) (by kernel_rfl) (by kernel_rfl) (fun _ _ _ h => h) (Or.inl ⟨by rfl, fun w' hS => (by go_simp)⟩) s0 ?_
        try simp only [Go.Act.put, List.setIfInBounds_toArray, List.set_cons_zero, List.set_cons_succ]
        refine wpH_take (i := 3) (v := (.pointer (some ⟨kb, 0, none⟩))) (some 83) rfl rfl (by kernel_rfl) (by kernel_rfl) (by kernel_rfl) (fun _ _ _ h => h) (Or.inl ⟨by rfl, fun w' hS => (by go_simp)⟩) s0 ?_
        try simp only [Go.Act.put, List.setIfInBounds_toArray, List.set_cons_zero, List.set_cons_succ]
        refine wpH_take (i := 4) (v := (.agg #[.int .u16 x.1.1, .string x.1.2])) (some 84) rfl rfl (by kernel_rfl) (by kernel_rfl) (by kernel_rfl) (fun _ _ _ h => h) (Or.inl ⟨by rfl, fun w' hS => (by have z0 := X0 _ hS; have z1 := X1 _ hS; go_simp)⟩) s0 ?_
        try simp only [Go.Act.put, List.setIfInBounds_toArray, List.set_cons_zero, List.set_cons_succ]
        refine wpH_take (i := 5) (v := (.pointer (some ⟨kb, 2, none⟩))) (some 85) rfl rfl (by kernel_rfl) (by kernel_rfl) (by kernel_rfl) (fun _ _ _ h => h) (Or.inl ⟨by rfl, fun w' hS => (by go_simp)⟩) s0 ?_
        try simp only [Go.Act.put, List.setIfInBounds_toArray, List.set_cons_zero, List.set_cons_succ]
        refine wpH_take (i := 6) (v := (.agg #[.int .i64 x.2.1.1, .int .i64 x.2.1.2.1, .int .i64 x.2.1.2.2.1, .int .i64 x.2.1.2.2.2])) (some 86) rfl rfl (by kernel_rfl) (by kernel_rfl) (by kernel_rfl) (fun _ _ _ h => h) (Or.inl ⟨by rfl, fun w' hS => (by have z0 := X2 _ hS; have z1 := X3 _ hS; have z2 := X4 _ hS; have z3 := X5 _ hS; go_simp)⟩) s0 ?_
        try simp only [Go.Act.put, List.setIfInBounds_toArray, List.set_cons_zero, List.set_cons_succ]
        refine wpH_call (i := 2) (o := { dst := some 82, op := Op.call { callee := Callee.value (Operand.func 22), args := #[Operand.tmp 81], argTypes := #[28] }, type := 2, pos := _, after := #[{ on := 1, ground := Ground.data }], guard := none }) (by kernel_rfl) rfl (fun K' hK => ?_)
        rw [if_pos (by rfl)]
        go_simp
        refine HNw.out.mono ?_
        rintro e v1 ⟨rfl, e1⟩
        rw [e1]
        clear e1 v1
        refine hK.out _ _ s0 ?_
        clear hK
        try simp only [Go.Act.put, List.setIfInBounds_toArray, List.set_cons_zero, List.set_cons_succ]
        refine wpH_call (i := 7) (o := { dst := some 87, op := Op.call { callee := Callee.value (Operand.func 21), args := #[Operand.tmp 80, Operand.tmp 82, Operand.tmp 84, Operand.tmp 86], argTypes := #[28, 2, 54, 58] }, type := 62, pos := _, after := #[{ on := 0, ground := Ground.data }, { on := 2, ground := Ground.data }, { on := 4, ground := Ground.data }, { on := 6, ground := Ground.data }, { on := 2, ground := Ground.chain }], guard := none }) (by kernel_rfl) rfl (fun K' hK => ?_)
        rw [if_pos (by rfl)]
        go_simp
        refine HKp.out.mono ?_
        rintro e v2 ⟨ua, ucp, Fx, rfl, hB2, ht2⟩
        have s2 := HBk.out _ ht2
        have BS9 := hid hB2
        have SX9 := hid s2
        clear hB2 ht2
        refine hK.out _ _ s2 ?_
        clear hK
        try simp only [Go.Act.put, List.setIfInBounds_toArray, List.set_cons_zero, List.set_cons_succ]
        refine wpH_take (i := 8) (v := (.tuple #[(.bool bb), (Value.slice ua gl ucp), (.int .i64 ee)])) (some 79) rfl rfl (by kernel_rfl) (by kernel_rfl) (by kernel_rfl) (fun _ _ _ h => h) (Or.inl ⟨by rfl, fun w' hS => (by go_simp)⟩) s2 ?_
        try simp only [Go.Act.put, List.setIfInBounds_toArray, List.set_cons_zero, List.set_cons_succ]
        refine wpH_take (i := 9) (v := (.bool bb)) (some 88) rfl rfl (by kernel_rfl) (by kernel_rfl) (by kernel_rfl) (fun _ _ _ h => h) (Or.inl ⟨by rfl, fun w' hS => (by go_simp)⟩) s2 ?_
        try simp only [Go.Act.put, List.setIfInBounds_toArray, List.set_cons_zero, List.set_cons_succ]
        refine wpH_take (i := 10) (v := (Value.slice ua gl ucp)) (some 89) rfl rfl (by kernel_rfl) (by kernel_rfl) (by kernel_rfl) (fun _ _ _ h => h) (Or.inl ⟨by rfl, fun w' hS => (by go_simp)⟩) s2 ?_
        try simp only [Go.Act.put, List.setIfInBounds_toArray, List.set_cons_zero, List.set_cons_succ]
        refine wpH_take (i := 11) (v := (.int .i64 ee)) (some 90) rfl rfl (by kernel_rfl) (by kernel_rfl) (by kernel_rfl) (fun _ _ _ h => h) (Or.inl ⟨by rfl, fun w' hS => (by go_simp)⟩) s2 ?_
        try simp only [Go.Act.put, List.setIfInBounds_toArray, List.set_cons_zero, List.set_cons_succ]
        refine wpH_take (i := 12) (v := (.bool bb)) (some 18) rfl rfl (by kernel_rfl) (by kernel_rfl) (by kernel_rfl) (fun _ _ _ h => h) (Or.inl ⟨by rfl, fun w' hS => (by go_simp)⟩) s2 ?_
        try simp only [Go.Act.put, List.setIfInBounds_toArray, List.set_cons_zero, List.set_cons_succ]
        refine wpH_take (i := 13) (v := (Value.slice ua gl ucp)) (some 19) rfl rfl (by kernel_rfl) (by kernel_rfl) (by kernel_rfl) (fun _ _ _ h => h) (Or.inl ⟨by rfl, fun w' hS => (by go_simp)⟩) s2 ?_
        try simp only [Go.Act.put, List.setIfInBounds_toArray, List.set_cons_zero, List.set_cons_succ]
        refine wpH_take (i := 14) (v := (.int .i64 ee)) (some 20) rfl rfl (by kernel_rfl) (by kernel_rfl) (by kernel_rfl) (fun _ _ _ h => h) (Or.inl ⟨by rfl, fun w' hS => (by go_simp)⟩) s2 ?_
        try simp only [Go.Act.put, List.setIfInBounds_toArray, List.set_cons_zero, List.set_cons_succ]
        refine wpAnyH_done (by kernel_rfl) ?_ _
        go_upto_region 13 with fail
        obtain ⟨We, hWe⟩ : ∃ We, We = v2.drew := ⟨_, rfl⟩
        have BSe := hid (BS9.out.swap.keep0 (by rw [hWe]; exact (Touch.refl _ _).drew : Touch [] v2 We))
        have s1 : We.heap[kb]? = some (.cells #[.int .u16 x.1.1, .string x.1.2, .int .i64 x.2.1.1, .int .i64 x.2.1.2.1, .int .i64 x.2.1.2.2.1, .int .i64 x.2.1.2.2.2, .int .i64 x.2.2] 60 (0, 0)) := by rw [hWe]; exact SX9.out
        have HBl : Hid (∀ w', Touch Fb We w' → w'.heap[kb]? = some (.cells #[.int .u16 x.1.1, .string x.1.2, .int .i64 x.2.1.1, .int .i64 x.2.1.2.1, .int .i64 x.2.1.2.2.1, .int .i64 x.2.1.2.2.2, .int .i64 x.2.2] 60 (0, 0))) := hid (fun w' t => t.keep s1 (BSe.out.o.away s1 (by decide) (by decide) (by decide)))
        clear HNw HKp HBk BSd BS9 SX9
        have HNw := hid (HNO.out _ _ _ _ _ _ _ _ BSe.out)
        have HKp := hid (HKE.out _ _ _ _ _ _ _ BSe.out)
        have HBk := HBl
        refine wp_region_H (S := fun w' => w'.heap[kb]? = some (.cells #[.int .u16 x.1.1, .string x.1.2, .int .i64 x.2.1.1, .int .i64 x.2.1.2.1, .int .i64 x.2.1.2.2.1, .int .i64 x.2.1.2.2.2, .int .i64 x.2.2] 60 (0, 0))) (by kernel_rfl) ?_
        rw [← hWe]
        clear hWe HBl
        refine wpH_take (i := 0) (v := (.pointer (some ⟨b, 0, none⟩))) (some 92) rfl rfl (by kernel_rfl) (by kernel_rfl) (by kernel_rfl) (fun _ _ _ h => h) (Or.inl ⟨by rfl, fun w' hS => (by go_simp)⟩) s1 ?_
        try simp only [Go.Act.put, List.setIfInBounds_toArray, List.set_cons_zero, List.set_cons_succ]
        refine wpH_take (i := 1) (v := (.pointer (some ⟨b, 0, none⟩))) (some 93) rfl rfl (by kernel_rfl) (by kernel_rfl) (by kernel_rfl) (fun _ _ _ h => h) (Or.inl ⟨by rfl, fun w' hS => (by go_simp)⟩) s1 ?_
        try simp only [Go.Act.put, List.setIfInBounds_toArray, List.set_cons_zero, List.set_cons_succ]
        refine wpH_take (i := 3) (v := (.pointer (some ⟨kb, 0, none⟩))) (some 95) rfl rfl (by kernel_rfl) (by kernel_rfl) (by kernel_rfl) (fun _ _ _ h => h) (Or.inl ⟨by rfl, fun w' hS => (by go_simp)⟩) s1 ?_
        try simp only [Go.Act.put, List.setIfInBounds_toArray, List.set_cons_zero, List.set_cons_succ]
        refine wpH_take (i := 4) (v := (.agg #[.int .u16 x.1.1, .string x.1.2])) (some 96) rfl rfl (by kernel_rfl) (by kernel_rfl) (by kernel_rfl) (fun _ _ _ h => h) (Or.inl ⟨by rfl, fun w' hS => (by have z0 := X0 _ hS; have z1 := X1 _ hS; go_simp)⟩) s1 ?_
        try simp only [Go.Act.put, List.setIfInBounds_toArray, List.set_cons_zero, List.set_cons_succ]
        refine wpH_take (i := 5) (v := (.pointer (some ⟨kb, 2, none⟩))) (some 97) rfl rfl (by kernel_rfl) (by kernel_rfl) (by kernel_rfl) (fun _ _ _ h => h) (Or.inl ⟨by rfl, fun w' hS => (by go_simp)⟩) s1 ?_
        try simp only [Go.Act.put, List.setIfInBounds_toArray, List.set_cons_zero, List.set_cons_succ]
        refine wpH_take (i := 6) (v := (.agg #[.int .i64 x.2.1.1, .int .i64 x.2.1.2.1, .int .i64 x.2.1.2.2.1, .int .i64 x.2.1.2.2.2])) (some 98) rfl rfl (by kernel_rfl) (by kernel_rfl) (by kernel_rfl) (fun _ _ _ h => h) (Or.inl ⟨by rfl, fun w' hS => (by have z0 := X2 _ hS; have z1 := X3 _ hS; have z2 := X4 _ hS; have z3 := X5 _ hS; go_simp)⟩) s1 ?_
        try simp only [Go.Act.put, List.setIfInBounds_toArray, List.set_cons_zero, List.set_cons_succ]
        refine wpH_call (i := 2) (o := { dst := some 94, op := Op.call { callee := Callee.value (Operand.func 22), args := #[Operand.tmp 93], argTypes := #[28] }, type := 2, pos := _, after := #[{ on := 1, ground := Ground.data }], guard := none }) (by kernel_rfl) rfl (fun K' hK => ?_)
        rw [if_pos (by rfl)]
        go_simp
        refine HNw.out.mono ?_
        rintro e v1 ⟨rfl, e1⟩
        rw [e1]
        clear e1 v1
        refine hK.out _ _ s1 ?_
        clear hK
        try simp only [Go.Act.put, List.setIfInBounds_toArray, List.set_cons_zero, List.set_cons_succ]
        refine wpH_call (i := 7) (o := { dst := some 99, op := Op.call { callee := Callee.value (Operand.func 21), args := #[Operand.tmp 92, Operand.tmp 94, Operand.tmp 96, Operand.tmp 98], argTypes := #[28, 2, 54, 58] }, type := 62, pos := _, after := #[{ on := 0, ground := Ground.data }, { on := 2, ground := Ground.data }, { on := 4, ground := Ground.data }, { on := 6, ground := Ground.data }, { on := 2, ground := Ground.chain }], guard := none }) (by kernel_rfl) rfl (fun K' hK => ?_)
        rw [if_pos (by rfl)]
        go_simp
        refine HKp.out.mono ?_
        rintro e v2 ⟨ua, ucp, Fx, rfl, hB2, ht2⟩
        have s2 := HBk.out _ ht2
        have BS9 := hid hB2
        have SX9 := hid s2
        clear hB2 ht2
        refine hK.out _ _ s2 ?_
        clear hK
        try simp only [Go.Act.put, List.setIfInBounds_toArray, List.set_cons_zero, List.set_cons_succ]
        refine wpH_take (i := 8) (v := (.tuple #[(.bool bb), (Value.slice ua gl ucp), (.int .i64 ee)])) (some 91) rfl rfl (by kernel_rfl) (by kernel_rfl) (by kernel_rfl) (fun _ _ _ h => h) (Or.inl ⟨by rfl, fun w' hS => (by go_simp)⟩) s2 ?_
        try simp only [Go.Act.put, List.setIfInBounds_toArray, List.set_cons_zero, List.set_cons_succ]
        refine wpH_take (i := 9) (v := (.bool bb)) (some 100) rfl rfl (by kernel_rfl) (by kernel_rfl) (by kernel_rfl) (fun _ _ _ h => h) (Or.inl ⟨by rfl, fun w' hS => (by go_simp)⟩) s2 ?_
        try simp only [Go.Act.put, List.setIfInBounds_toArray, List.set_cons_zero, List.set_cons_succ]
        refine wpH_take (i := 10) (v := (Value.slice ua gl ucp)) (some 101) rfl rfl (by kernel_rfl) (by kernel_rfl) (by kernel_rfl) (fun _ _ _ h => h) (Or.inl ⟨by rfl, fun w' hS => (by go_simp)⟩) s2 ?_
        try simp only [Go.Act.put, List.setIfInBounds_toArray, List.set_cons_zero, List.set_cons_succ]
        refine wpH_take (i := 11) (v := (.int .i64 ee)) (some 102) rfl rfl (by kernel_rfl) (by kernel_rfl) (by kernel_rfl) (fun _ _ _ h => h) (Or.inl ⟨by rfl, fun w' hS => (by go_simp)⟩) s2 ?_
        try simp only [Go.Act.put, List.setIfInBounds_toArray, List.set_cons_zero, List.set_cons_succ]
        refine wpH_take (i := 12) (v := (.bool bb)) (some 21) rfl rfl (by kernel_rfl) (by kernel_rfl) (by kernel_rfl) (fun _ _ _ h => h) (Or.inl ⟨by rfl, fun w' hS => (by go_simp)⟩) s2 ?_
        try simp only [Go.Act.put, List.setIfInBounds_toArray, List.set_cons_zero, List.set_cons_succ]
        refine wpH_take (i := 13) (v := (Value.slice ua gl ucp)) (some 22) rfl rfl (by kernel_rfl) (by kernel_rfl) (by kernel_rfl) (fun _ _ _ h => h) (Or.inl ⟨by rfl, fun w' hS => (by go_simp)⟩) s2 ?_
        try simp only [Go.Act.put, List.setIfInBounds_toArray, List.set_cons_zero, List.set_cons_succ]
        refine wpH_take (i := 14) (v := (.int .i64 ee)) (some 23) rfl rfl (by kernel_rfl) (by kernel_rfl) (by kernel_rfl) (fun _ _ _ h => h) (Or.inl ⟨by rfl, fun w' hS => (by go_simp)⟩) s2 ?_
        try simp only [Go.Act.put, List.setIfInBounds_toArray, List.set_cons_zero, List.set_cons_succ]
        refine wpAnyH_done (by kernel_rfl) ?_ _
        clear HNw HKp HBk BSe SX9 X0 X1 X2 X3 X4 X5 X6 HKE HNO s1
        have BS11 := hid (BS9.out.swap)
        clear BS9
        have HSE := hid (by have h := BS11.out; exact same_eq h.o h.b (Bk.ofM h.o BK.out.mm.c HK2.out.1))
        unfold PT at *
        go_upto_region 16 with (go_at_call 19; refine HSE.out.mono ?_; rintro e u13 ⟨rfl, t13⟩; have BS13 := hid (BS11.out.keep0 t13); clear t13 HSE BS11)
        have HDo := hid (BS13.out.dropO bK bK_ok)
        unfold PT kv bK at HDo
        go_upto_region 17 with (go_at_call 23; refine HDo.out.mono ?_; rintro e u14 ⟨Fz, rfl, hB14, _⟩; have BS14 := hid hB14.swap; clear hB14 HDo BS13)
        have HDb := hid (BS14.out.dropO bK bK_ok)
        unfold PT kv bK at HDb
        go_wp2_with (go_at_call 23; refine HDb.out.mono ?_; rintro e u15 ⟨Fy, rfl, hB15, _⟩; have BS15 := hid hB15.swap; clear hB15 HDb BS14)
        have HI2 : Hid (BaI u9 c m F now xs o b u15) := hid ⟨_, _, nw2, drx L2 bK, BS15.out, HK2.out.1.drop bK, HK2.out.2⟩
        clear BS15
        go_roundw
        case rel => exact ⟨i + 1, by go_num, by have := HLT.out; omega, HI2⟩
        case measure => simp [intOf]; have := HLT.out; omega
      · have hz : ¬ (i : Int) < (nm : Int) := by omega
        obtain ⟨Fo, Fb, nw, L, hBS, hEK, hle⟩ := HI.out
        have B1 := hid (Bk.ofM hBS.o BK.out.mm.c hEK)
        have BS := hid hBS
        have HLE := hid hle
        clear hBS hEK hle HI
        have HPA := hid (patch_ BS.out.m BS.out.o BK.out.mm B1.out.mm HLE.out)
        unfold PT at HPA
        go_upto_region 20 with (go_at_call 15; refine HPA.out.mono ?_; rintro e w1 ⟨gs, hg, _, rfl, t1⟩; have HG := hid hg; have BSa := hid (BS.out.keep0 t1); clear hg t1)
        have HAP := hid (apply_ok BSa.out.m BK.out B1.out HLE.out HG.out (patS_le BK.out B1.out HG.out))
        generalize patS c now xs nw L gs = sp at *
        unfold PT at HAP
        go_upto_region 21 with (go_at_call 17; refine HAP.out.mono ?_; rintro e w2 ⟨mq2, rfl, hq2⟩; have QK := hid hq2; clear hq2 HAP)
        have HSE := hid (by obtain ⟨Fq, h1, h2, h3⟩ := QK.out; exact same_eq h1 (BSa.out.o.keep0 h3) B1.out)
        unfold PT at HSE
        go_upto_region 23 with (go_at_call 19; refine HSE.out.mono ?_; rintro e w3 ⟨rfl, t3⟩; have T3 := hid (by obtain ⟨Fq, h1, h2, h3⟩ := QK.out; exact (T9.out.trans' (BSa.out.t.trans' h3)).trans' t3); clear t3 HSE QK)
        clear HPA BS BSa HG
        have hwa := W64.lo HWA.out
        have hwb := W64.hi HWA.out
        by_cases ha : at_ < 0
        · go_wp2_with fail
          go_ret
          exact ⟨rfl, T3.out⟩
        · by_cases hc : at_ < (sa.size : Int)
          · obtain ⟨cut, rfl⟩ : ∃ cut : Nat, at_ = (cut : Int) := ⟨at_.toNat, by omega⟩
            have hcz : cut < sa.size := by omega
            have hss : sa.size ≤ 140737488351232 := HSL.out
            have HPr : Hid (Pre sa (sa.extract 0 cut) cut) := hid ⟨by rw [extract_data, List.drop_zero], by omega⟩
            have HRD := hid (fun w' => HRC.out w' _ _ HPr.out hcz)
            have z8s := HZ8.out
            have e8 : ((sa.size - 8 : Nat) : Int) = (sa.size : Int) - 8 := by omega
            rw [e8] at HV8
            clear HRC HPr
            go_wp2_with (first
              | (go_at_call 12; refine (HRD.out _).mono ?_; rintro e w4 ⟨kk, rfl, t4⟩; have T4 := hid (T3.out.trans' t4); clear t4)
              | (go_at_call 24; refine (HSU.out _).mono ?_; rintro e w5 ⟨rfl, e5⟩; rw [e5]; clear e5 w5)
              | (go_at_call 25; refine (HV8.out _).mono ?_; rintro e w6 ⟨rfl, e6⟩; rw [e6]; clear e6 w6))
            go_ret
            exact ⟨rfl, T4.out⟩
          · go_wp2_with fail
            go_ret
            exact ⟨rfl, T3.out⟩
  · have M1 := hid (MN.out h1)
    unfold wcs mv at M1
    clear MY MN HBK h1
    go_upto_region 2 with (go_at_call 9; refine M1.out.mono ?_; rintro e u6 ⟨a1, c1, rfl, t6⟩; have T6 := hid t6; clear t6)
    clear M1 q0 q1 q2 q3 q4 q5 q6 q7 q8
    have T7 := hid ((HT.out.trans' T6.out).alloc (.cells #[.int .i64 c.t, .int .i64 c.n, .int .i64 c.s, .int .i64 c.e, .int .i64 c.f, .int .i64 c.b, .int .i64 c.d, .int .i64 now, .slice a1 xs.length c1] 32))
    go_upto_region 3 with (go_at_call 8; refine (AW.out _).mono ?_; rintro e u8 ⟨rfl, t8⟩; have T8 := hid (T7.out.trans' t8); clear t8)
    go_wp2_with (go_at_call 8; refine (AW.out _).mono ?_; rintro e u9 ⟨rfl, t9⟩; have T9 := hid (T8.out.trans' t9); clear t9)
    go_ret
    exact ⟨rfl, T9.out⟩
end Go.Proofs.YtpefbmheblfbeaaGreat.Sn
/- A list of entries as an argument, opened; SnapshotBack as its frame calls it; no conditions but those of the form. -/
namespace Go.Proofs.YtpefbmheblfbeaaGreat
open Go.ChangeShapes Go.WideShapes Go.ChangeAt Go.RowKit Me
set_option linter.unusedVariables false
set_option maxRecDepth 100000 in
theorem open_kepts {H : Type} {enc : TypeId × Value → H} {W : World} {b0 : Nat} {v : Value} {d : DataW H} {p : List MemPlace} (hv : Value.okWide Tryz.prog W .any b0 24 v) (h : DataW.Trod enc Tryz.prog W 0 (fun _ => true) true 24 v d p) :
    ∃ xs : List En, Sn.RA W v xs ∧ (∀ x ∈ xs, Ok x.1 ∧ Wo x.2.1 ∧ W64 x.2.2) ∧ (xs = [] ∨ ∃ elems spare, d = .slice elems spare ∧ elems.length = xs.length) := by
  obtain ⟨a, len, cap, rfl⟩ := okWide_slice Tryz.underlying24 hv
  obtain ⟨fuel, hf⟩ := h
  have hf' : DataW.trod enc Tryz.prog W 0 (fun _ => true) true fuel 24 [.slice a len cap] = some (d, p) := by simpa [Value.cells] using hf
  obtain ⟨xs, s1, s2, s3⟩ := Sn.open_ents hf'
  exact ⟨xs, s1, s2, s3⟩
namespace Sn
theorem backL_ (W : World) (c : Cf) (n : Int) (v : Value) (xs : List En) (more : List En) (vm : Value) (at_ : Int) (wc : Wc c) (wn : W64 n) (hv : RA W v xs) (ho : ∀ x ∈ xs, Ok x.1 ∧ Wo x.2.1 ∧ W64 x.2.2) (hl : xs.length ≤ 2199023255488) (hvm : RA W vm more) (hom : ∀ x ∈ more, Ok x.1 ∧ Wo x.2.1 ∧ W64 x.2.2) (hlm : more.length ≤ 2199023255488) (wa : W64 at_) :
    Calls Tryz.prog 5 #[.agg (wcs c n v), vm, .int .i64 at_] W fun e w' => e = .returned (.bool true) ∧ Touch [] W w' := back_ wc wn hv ho hl hvm hom hlm wa
end Sn
end Go.Proofs.YtpefbmheblfbeaaGreat
