/- The law of a trace that is nil, walked; the condition is that the table holds what the start lays. -/
import Derived.Test.YtlhieohjabbgdaaGreatDoorREvr
namespace Go.Proofs.YtlhieohjabbgdaaGreatDoorR.Tr
open Go.RowKit Go.Sort Go.Shelf Go.Maps Go.ChangeMaps
set_option linter.unusedVariables false
set_option linter.unusedSimpArgs false
/-- what is looked for, in a box -/
structure Kb (w : World) (b : Nat) (u : Value) (run cl sp : Int) (nm : ByteArray) (ff tt : Int) : Prop where
  c0 : w.cell? ⟨b, 0, none⟩ = some u
  c1 : w.cell? ⟨b, 1, none⟩ = some (.int .i64 run)
  c2 : w.cell? ⟨b, 2, none⟩ = some (.int .i64 cl)
  c3 : w.cell? ⟨b, 3, none⟩ = some (.int .u16 sp)
  c4 : w.cell? ⟨b, 4, none⟩ = some (.string nm)
  c5 : w.cell? ⟨b, 5, none⟩ = some (.int .i64 ff)
  c6 : w.cell? ⟨b, 6, none⟩ = some (.int .i64 tt)
theorem Kb.touch {w w' : World} {b : Nat} {u : Value} {run cl sp : Int} {nm : ByteArray} {ff tt : Int} (h : Kb w b u run cl sp nm ff tt) (t : Touch [] w w') : Kb w' b u run cl sp nm ff tt :=
  ⟨tcell t h.c0, tcell t h.c1, tcell t h.c2, tcell t h.c3, tcell t h.c4, tcell t h.c5, tcell t h.c6⟩
set_option maxRecDepth 20000 in
set_option maxHeartbeats 4000000 in
theorem nilLaw_ (e : Ez) (a : Option Addr) (c : Nat) (xs : List Int) (run cl sp : Int) (nm : ByteArray) (ff tt : Int) (w : World) (hk : Tk w) (hs : e.nm.size ≤ maxLen) (hx : KRow w a xs) (hl : xs.length ≤ 1000000000000000) :
    Calls Tryz.prog 7 #[e.val, .agg #[.slice a xs.length c, .int .i64 run, .int .i64 cl, .int .u16 sp, .string nm, .int .i64 ff, .int .i64 tt]] w fun r w' => r = .returned (.bool true) ∧ Touch [] w w' := by
  obtain ⟨w0, hw0⟩ : ∃ w0, w0 = (w.alloc (.cells #[.int .i64 e.at_, .int .i64 e.kd, .int .i64 e.cl, .int .i64 e.ca, .int .i64 e.ru, .int .i64 e.ge, .int .i64 e.ho, .int .u16 e.sp, .string e.nm, .int .i64 e.va, .int .i64 e.fk, .int .i64 e.fc, .int .i64 e.fr] 30)).alloc (.cells #[.slice a xs.length c, .int .i64 run, .int .i64 cl, .int .u16 sp, .string nm, .int .i64 ff, .int .i64 tt] 75) := ⟨_, rfl⟩
  have T0 : Hid (Touch [] w w0) := by show Touch [] w w0; rw [hw0]; exact ((Touch.refl [] w).alloc _).alloc _
  have HB : Hid (∀ w', Touch [] w0 w' → Ib w' w.heap.size e) := fun w' t => by
    have : Ib w0 w.heap.size e := by
      rw [hw0]
      exact (Ib.new w e 30).touch ((Touch.refl [] _).alloc _)
    exact this.touch t
  have HK : Hid (∀ w', Touch [] w0 w' → Kb w' (w.heap.size + 1) (.slice a xs.length c) run cl sp nm ff tt) := fun w' t => by
    have : Kb w0 (w.heap.size + 1) (.slice a xs.length c) run cl sp nm ff tt := by
      rw [hw0]
      constructor <;> simp
    exact this.touch t
  have HG : Hid _ := fun w' => given_ e w'
  have HC : Hid _ := fun w' => rcheck_ e w' hs
  have HA : Hid (∀ w', Touch [] w w' → _) := fun w' t => add_nil e w' (hk.touch t) hs
  have H1 : Hid (∀ n w', Calls Tryz.prog 18 #[.pointer none, .int .i64 n] w' fun r w'' => r = .returned (.tuple #[.agg #[.int .i64 0, .int .i64 0, .int .i64 0, .int .i64 0, .int .i64 0, .int .i64 0, .int .i64 0, .int .u16 0, .string ⟨#[]⟩, .int .i64 0, .int .i64 0, .int .i64 0, .int .i64 0], .bool false]) ∧ Touch [] w' w'') := fun n w' => at_nil n w'
  have H2 : Hid _ := fun w' => Each_nil w'
  have H3 : Hid _ := fun w' => new_ w'
  have H4 : Hid _ := fun b w' h => differ_nil b w' h
  have H5 : Hid (∀ w', Touch [] w w' → _) := fun w' t => awake_ w' (hk.touch t)
  have H6 : Hid _ := fun w' => len_nil w'
  have H7 : Hid _ := fun w' => all_nil w'
  have H8 : Hid (∀ w', Touch [] w w' → Calls Tryz.prog 31 #[.pointer none, .slice a xs.length c] w' fun r w'' => ∃ v, r = .returned v ∧ (v = .slice none 0 0 ∧ Touch [] w' w'')) := fun w' t =>
    ofKind_ (.pointer none) xs a c w' (fun i h => by obtain ⟨b, off, e, hc⟩ := hx i h; exact ⟨b, off, e, tcell t hc⟩) hl (fun v w'' => v = .slice none 0 0 ∧ Touch [] w' w'')
      (fun w1 b t1 _ _ => (where_nil _ _ _ w1).mono fun r w2 ⟨e1, t2⟩ => ⟨_, e1, rfl, t1.trans' t2⟩)
  have H9 : Hid _ := fun n w' => ofRun_nil n w'
  have HJ : Hid _ := fun sp nm w' => ofKey_nil sp nm w'
  have HL : Hid _ := fun n w' => ofCl_nil n w'
  have HM : Hid _ := fun x y w' => betw_nil x y w'
  have HN : Hid _ := fun w' => runs_nil w'
  have HO : Hid _ := fun w' => keys_nil w'
  have HP : Hid _ := fun w' => text_nil w'
  have HQ : Hid _ := fun w' => sum_nil w'
  have HR : Hid _ := fun w' => rsum_ ⟨#[]⟩ (by decide) w'
  have hq : ∀ w', (binOp .eql 30 (.agg #[.int .i64 0, .int .i64 0, .int .i64 0, .int .i64 0, .int .i64 0, .int .i64 0, .int .i64 0, .int .u16 0, .string ⟨#[]⟩, .int .i64 0, .int .i64 0, .int .i64 0, .int .i64 0]) (.agg #[.int .i64 0, .int .i64 0, .int .i64 0, .int .i64 0, .int .i64 0, .int .i64 0, .int .i64 0, .int .u16 0, .string ⟨#[]⟩, .int .i64 0, .int .i64 0, .int .i64 0, .int .i64 0])).run Tryz.prog w' = .ok (.bool true) w' := fun w' => by kernel_rfl
  have hS : Hid (sumL (⟨#[]⟩ : ByteArray).data.toList = sumL []) := rfl
  generalize sumL (⟨#[]⟩ : ByteArray).data.toList = s1 at *
  clear hS
  unfold Ez.val PT at *
  generalize chkE e = B at *
  obtain ⟨V, hV⟩ : ∃ V : Int, V = if B then 3 else 240 := ⟨_, rfl⟩
  rw [← hV] at HA
  clear hk hs
  go_enter Tryz.func7, Tryz.ntmps7
  go_wp2_with fail
  rw [← hw0]
  clear hw0
  obtain ⟨c0, c1, c2, c3, c4, c5, c6, c7, c8, c9, c10, c11, c12⟩ := HB.out _ (Touch.refl [] w0)
  go_wp2_with fail
  refine (HG.out _).mono ?_
  rintro r w1 ⟨rfl, t1⟩
  have T1 : Hid (Touch [] w0 w1) := t1
  clear t1 c0 c1 c2 c3 c4 c5 c6 c7 c8 c9 c10 c11 c12
  go_wp2_with fail
  refine (HC.out _).mono ?_
  rintro r w2 ⟨rfl, t2⟩
  have T2 : Hid (Touch [] w0 w2) := T1.out.trans' t2
  clear t2 T1
  cases B with
  | true =>
    obtain rfl : V = 3 := hV
    obtain ⟨k0, k1, k2, k3, k4, k5, k6⟩ := HK.out _ T2.out
    go_wp2_with fail
    refine (H1.out _ _).mono ?_
    rintro r w3 ⟨rfl, t3⟩
    have T3 : Hid (Touch [] w0 w3) := T2.out.trans' t3
    clear t3 T2 k0 k1 k2 k3 k4 k5 k6
    go_wp2_with fail
    obtain ⟨w4, hw4⟩ : ∃ w4, w4 = w3.alloc (.cells #[.int .i64 0, .int .i64 0, .int .i64 0, .int .i64 0, .int .i64 0, .int .i64 0, .int .i64 0, .int .u16 0, .string ⟨#[]⟩, .int .i64 0, .int .i64 0, .int .i64 0, .int .i64 0] 30) := ⟨_, rfl⟩
    have HY : Hid (∀ w', Touch [] w4 w' → Ib w' w3.heap.size e0) := fun w' t => by
      have : Ib w4 w3.heap.size e0 := by rw [hw4]; exact Ib.new w3 e0 30
      exact this.touch t
    have T4 : Hid (Touch [] w0 w4) := by show Touch [] w0 w4; rw [hw4]; exact T3.out.alloc _
    have cT : Hid ((w4.alloc (.cells #[.slice none 0 0] 100)).cell? ⟨w4.heap.size, 0, none⟩ = some (.slice none 0 0)) := by show _ = _; simp
    rw [← hw4]
    clear hw4
    refine (H2.out _).mono ?_
    rintro r wq ⟨rfl, e1⟩
    rw [e1]
    clear e1 wq
    go_wp2_with fail
    refine (H3.out _).mono ?_
    rintro r wq ⟨rfl, e1⟩
    rw [e1]
    clear e1 wq
    go_wp2_with fail
    refine (H4.out _ _ cT.out).mono ?_
    rintro r wq ⟨rfl, e1⟩
    rw [e1]
    clear e1 wq
    go_wp2_with fail
    refine (H5.out _ (T0.out.trans' (T4.out.alloc _))).mono ?_
    rintro r w5 ⟨rfl, t5⟩
    have Y5 : Hid (Touch [] w4 w5) := ((Touch.refl [] w4).alloc _).trans' t5
    clear t5
    obtain ⟨c0, c1, c2, c3, c4, c5, c6, c7, c8, c9, c10, c11, c12⟩ := HB.out _ (T4.out.trans' Y5.out)
    go_wp2_with fail
    refine (HA.out _ (T0.out.trans' (T4.out.trans' Y5.out))).mono ?_
    rintro r w6 ⟨rfl, t6⟩
    have Y6 : Hid (Touch [] w4 w6) := Y5.out.trans' t6
    clear t6 Y5 c0 c1 c2 c3 c4 c5 c6 c7 c8 c9 c10 c11 c12
    obtain ⟨c0, c1, c2, c3, c4, c5, c6, c7, c8, c9, c10, c11, c12⟩ := HY.out _ Y6.out
    dsimp only [e0] at c0 c1 c2 c3 c4 c5 c6 c7 c8 c9 c10 c11 c12
    go_wp2_with fail
    refine (H6.out _).mono ?_
    rintro r wq ⟨rfl, e1⟩
    rw [e1]
    clear e1 wq
    go_wp2_with fail
    refine (H7.out _).mono ?_
    rintro r wq ⟨rfl, e1⟩
    rw [e1]
    clear e1 wq c0 c1 c2 c3 c4 c5 c6 c7 c8 c9 c10 c11 c12
    obtain ⟨k0, k1, k2, k3, k4, k5, k6⟩ := HK.out _ (T4.out.trans' Y6.out)
    go_wp2_with fail
    refine (H8.out _ (T0.out.trans' (T4.out.trans' Y6.out))).mono ?_
    rintro r w7 ⟨_, rfl, rfl, t7⟩
    have Y7 : Hid (Touch [] w4 w7) := Y6.out.trans' t7
    clear t7 Y6 k0 k1 k2 k3 k4 k5 k6
    obtain ⟨k0, k1, k2, k3, k4, k5, k6⟩ := HK.out _ (T4.out.trans' Y7.out)
    go_wp2_with fail
    refine (H9.out _ _).mono ?_
    rintro r w8 ⟨rfl, t8⟩
    have Y8 : Hid (Touch [] w4 w8) := Y7.out.trans' t8
    clear t8 Y7 k0 k1 k2 k3 k4 k5 k6
    obtain ⟨k0, k1, k2, k3, k4, k5, k6⟩ := HK.out _ (T4.out.trans' Y8.out)
    go_wp2_with fail
    refine (HJ.out _ _ _).mono ?_
    rintro r w9 ⟨rfl, t9⟩
    have Y9 : Hid (Touch [] w4 w9) := Y8.out.trans' t9
    clear t9 Y8 k0 k1 k2 k3 k4 k5 k6
    obtain ⟨k0, k1, k2, k3, k4, k5, k6⟩ := HK.out _ (T4.out.trans' Y9.out)
    go_wp2_with fail
    refine (HL.out _ _).mono ?_
    rintro r w10 ⟨rfl, t10⟩
    have Y10 : Hid (Touch [] w4 w10) := Y9.out.trans' t10
    clear t10 Y9 k0 k1 k2 k3 k4 k5 k6
    obtain ⟨k0, k1, k2, k3, k4, k5, k6⟩ := HK.out _ (T4.out.trans' Y10.out)
    go_wp2_with fail
    refine (HM.out _ _ _).mono ?_
    rintro r w11 ⟨rfl, t11⟩
    have Y11 : Hid (Touch [] w4 w11) := Y10.out.trans' t11
    clear t11 Y10 k0 k1 k2 k3 k4 k5 k6
    obtain ⟨k0, k1, k2, k3, k4, k5, k6⟩ := HK.out _ (T4.out.trans' Y11.out)
    go_wp2_with fail
    refine (HN.out _).mono ?_
    rintro r w12 ⟨rfl, t12⟩
    have Y12 : Hid (Touch [] w4 w12) := Y11.out.trans' t12
    clear t12 Y11 k0 k1 k2 k3 k4 k5 k6
    obtain ⟨k0, k1, k2, k3, k4, k5, k6⟩ := HK.out _ (T4.out.trans' Y12.out)
    go_wp2_with fail
    refine (HO.out _).mono ?_
    rintro r w13 ⟨rfl, t13⟩
    have Y13 : Hid (Touch [] w4 w13) := Y12.out.trans' t13
    clear t13 Y12 k0 k1 k2 k3 k4 k5 k6
    obtain ⟨k0, k1, k2, k3, k4, k5, k6⟩ := HK.out _ (T4.out.trans' Y13.out)
    go_wp2_with fail
    refine (HP.out _).mono ?_
    rintro r w14 ⟨rfl, t14⟩
    have Y14 : Hid (Touch [] w4 w14) := Y13.out.trans' t14
    clear t14 Y13 k0 k1 k2 k3 k4 k5 k6
    obtain ⟨k0, k1, k2, k3, k4, k5, k6⟩ := HK.out _ (T4.out.trans' Y14.out)
    go_wp2_with fail
    refine (HQ.out _).mono ?_
    rintro r w15 ⟨rfl, t15⟩
    have Y15 : Hid (Touch [] w4 w15) := Y14.out.trans' t15
    clear t15 Y14 k0 k1 k2 k3 k4 k5 k6
    go_wp2_with fail
    refine (HR.out _).mono ?_
    rintro r wq ⟨rfl, e1⟩
    rw [e1]
    clear e1 wq
    go_wp2_with fail
    go_ret
    exact ⟨rfl, T0.out.trans' (T4.out.trans' Y15.out)⟩
  | false =>
    obtain rfl : V = 240 := hV
    obtain ⟨k0, k1, k2, k3, k4, k5, k6⟩ := HK.out _ T2.out
    go_wp2_with fail
    refine (H1.out _ _).mono ?_
    rintro r w3 ⟨rfl, t3⟩
    have T3 : Hid (Touch [] w0 w3) := T2.out.trans' t3
    clear t3 T2 k0 k1 k2 k3 k4 k5 k6
    go_wp2_with fail
    obtain ⟨w4, hw4⟩ : ∃ w4, w4 = w3.alloc (.cells #[.int .i64 0, .int .i64 0, .int .i64 0, .int .i64 0, .int .i64 0, .int .i64 0, .int .i64 0, .int .u16 0, .string ⟨#[]⟩, .int .i64 0, .int .i64 0, .int .i64 0, .int .i64 0] 30) := ⟨_, rfl⟩
    have HY : Hid (∀ w', Touch [] w4 w' → Ib w' w3.heap.size e0) := fun w' t => by
      have : Ib w4 w3.heap.size e0 := by rw [hw4]; exact Ib.new w3 e0 30
      exact this.touch t
    have T4 : Hid (Touch [] w0 w4) := by show Touch [] w0 w4; rw [hw4]; exact T3.out.alloc _
    have cT : Hid ((w4.alloc (.cells #[.slice none 0 0] 100)).cell? ⟨w4.heap.size, 0, none⟩ = some (.slice none 0 0)) := by show _ = _; simp
    rw [← hw4]
    clear hw4
    refine (H2.out _).mono ?_
    rintro r wq ⟨rfl, e1⟩
    rw [e1]
    clear e1 wq
    go_wp2_with fail
    refine (H3.out _).mono ?_
    rintro r wq ⟨rfl, e1⟩
    rw [e1]
    clear e1 wq
    go_wp2_with fail
    refine (H4.out _ _ cT.out).mono ?_
    rintro r wq ⟨rfl, e1⟩
    rw [e1]
    clear e1 wq
    go_wp2_with fail
    refine (H5.out _ (T0.out.trans' (T4.out.alloc _))).mono ?_
    rintro r w5 ⟨rfl, t5⟩
    have Y5 : Hid (Touch [] w4 w5) := ((Touch.refl [] w4).alloc _).trans' t5
    clear t5
    obtain ⟨c0, c1, c2, c3, c4, c5, c6, c7, c8, c9, c10, c11, c12⟩ := HB.out _ (T4.out.trans' Y5.out)
    go_wp2_with fail
    refine (HA.out _ (T0.out.trans' (T4.out.trans' Y5.out))).mono ?_
    rintro r w6 ⟨rfl, t6⟩
    have Y6 : Hid (Touch [] w4 w6) := Y5.out.trans' t6
    clear t6 Y5 c0 c1 c2 c3 c4 c5 c6 c7 c8 c9 c10 c11 c12
    obtain ⟨c0, c1, c2, c3, c4, c5, c6, c7, c8, c9, c10, c11, c12⟩ := HY.out _ Y6.out
    dsimp only [e0] at c0 c1 c2 c3 c4 c5 c6 c7 c8 c9 c10 c11 c12
    go_wp2_with fail
    refine (H6.out _).mono ?_
    rintro r wq ⟨rfl, e1⟩
    rw [e1]
    clear e1 wq
    go_wp2_with fail
    refine (H7.out _).mono ?_
    rintro r wq ⟨rfl, e1⟩
    rw [e1]
    clear e1 wq c0 c1 c2 c3 c4 c5 c6 c7 c8 c9 c10 c11 c12
    obtain ⟨k0, k1, k2, k3, k4, k5, k6⟩ := HK.out _ (T4.out.trans' Y6.out)
    go_wp2_with fail
    refine (H8.out _ (T0.out.trans' (T4.out.trans' Y6.out))).mono ?_
    rintro r w7 ⟨_, rfl, rfl, t7⟩
    have Y7 : Hid (Touch [] w4 w7) := Y6.out.trans' t7
    clear t7 Y6 k0 k1 k2 k3 k4 k5 k6
    obtain ⟨k0, k1, k2, k3, k4, k5, k6⟩ := HK.out _ (T4.out.trans' Y7.out)
    go_wp2_with fail
    refine (H9.out _ _).mono ?_
    rintro r w8 ⟨rfl, t8⟩
    have Y8 : Hid (Touch [] w4 w8) := Y7.out.trans' t8
    clear t8 Y7 k0 k1 k2 k3 k4 k5 k6
    obtain ⟨k0, k1, k2, k3, k4, k5, k6⟩ := HK.out _ (T4.out.trans' Y8.out)
    go_wp2_with fail
    refine (HJ.out _ _ _).mono ?_
    rintro r w9 ⟨rfl, t9⟩
    have Y9 : Hid (Touch [] w4 w9) := Y8.out.trans' t9
    clear t9 Y8 k0 k1 k2 k3 k4 k5 k6
    obtain ⟨k0, k1, k2, k3, k4, k5, k6⟩ := HK.out _ (T4.out.trans' Y9.out)
    go_wp2_with fail
    refine (HL.out _ _).mono ?_
    rintro r w10 ⟨rfl, t10⟩
    have Y10 : Hid (Touch [] w4 w10) := Y9.out.trans' t10
    clear t10 Y9 k0 k1 k2 k3 k4 k5 k6
    obtain ⟨k0, k1, k2, k3, k4, k5, k6⟩ := HK.out _ (T4.out.trans' Y10.out)
    go_wp2_with fail
    refine (HM.out _ _ _).mono ?_
    rintro r w11 ⟨rfl, t11⟩
    have Y11 : Hid (Touch [] w4 w11) := Y10.out.trans' t11
    clear t11 Y10 k0 k1 k2 k3 k4 k5 k6
    obtain ⟨k0, k1, k2, k3, k4, k5, k6⟩ := HK.out _ (T4.out.trans' Y11.out)
    go_wp2_with fail
    refine (HN.out _).mono ?_
    rintro r w12 ⟨rfl, t12⟩
    have Y12 : Hid (Touch [] w4 w12) := Y11.out.trans' t12
    clear t12 Y11 k0 k1 k2 k3 k4 k5 k6
    obtain ⟨k0, k1, k2, k3, k4, k5, k6⟩ := HK.out _ (T4.out.trans' Y12.out)
    go_wp2_with fail
    refine (HO.out _).mono ?_
    rintro r w13 ⟨rfl, t13⟩
    have Y13 : Hid (Touch [] w4 w13) := Y12.out.trans' t13
    clear t13 Y12 k0 k1 k2 k3 k4 k5 k6
    obtain ⟨k0, k1, k2, k3, k4, k5, k6⟩ := HK.out _ (T4.out.trans' Y13.out)
    go_wp2_with fail
    refine (HP.out _).mono ?_
    rintro r w14 ⟨rfl, t14⟩
    have Y14 : Hid (Touch [] w4 w14) := Y13.out.trans' t14
    clear t14 Y13 k0 k1 k2 k3 k4 k5 k6
    obtain ⟨k0, k1, k2, k3, k4, k5, k6⟩ := HK.out _ (T4.out.trans' Y14.out)
    go_wp2_with fail
    refine (HQ.out _).mono ?_
    rintro r w15 ⟨rfl, t15⟩
    have Y15 : Hid (Touch [] w4 w15) := Y14.out.trans' t15
    clear t15 Y14 k0 k1 k2 k3 k4 k5 k6
    go_wp2_with fail
    refine (HR.out _).mono ?_
    rintro r wq ⟨rfl, e1⟩
    rw [e1]
    clear e1 wq
    go_wp2_with fail
    go_ret
    exact ⟨rfl, T0.out.trans' (T4.out.trans' Y15.out)⟩
end Go.Proofs.YtlhieohjabbgdaaGreatDoorR.Tr
