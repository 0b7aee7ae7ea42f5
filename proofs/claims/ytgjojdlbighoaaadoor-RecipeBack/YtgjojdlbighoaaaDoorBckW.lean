/- The walk of the law RecipeBack: it returns true and lays new blocks alone; the conditions: the listed variables hold what the start lays, the list lies in memory, the key's space is a number of 16 bits. -/
import Derived.Test.YtgjojdlbighoaaaDoorPst
import Derived.Test.YtgjojdlbighoaaaDoorDot
import Derived.Test.YtgjojdlbighoaaaDoorAwk
namespace Go.Proofs.YtgjojdlbighoaaaDoor
open Go.RowKit Go.Sort
set_option linter.unusedVariables false

theorem rs4_go (p : Nat) (n wt on : Int) : rs4 (.go p n wt on) = .tuple #[ckV p n wt on, otV 0 0 0 0, .bool false, .int .i64 0] := rfl
theorem rs4_fin (v k c r : Int) : rs4 (.fin v k c r) = .tuple #[ckV 0 0 0 0, otV v k c r, .bool true, .int .i64 0] := rfl
theorem empty_beq : ((⟨#[]⟩ : ByteArray).toList == (⟨#[]⟩ : ByteArray).toList) = true := by simp
/-- what the law's loop knows of its boxes -/
structure LwB (w wr : World) (C q : Nat) (m o : Int) (x : Ar) : Prop where
  g : Gr w wr
  ge : w.heap.size < C
  b0 : Bx wr w.heap.size (.int .u16 x.sp) (.string x.nm) (.int .i64 x.r) (.bool x.cn)
  b1 : Bx wr C (.int .i64 q) (.int .i64 m) (.int .i64 0) (.int .i64 o)
theorem LwB.gr {w wr w' : World} {C q : Nat} {m o : Int} {x : Ar} (h : LwB w wr C q m o x) (hg : Gr wr w') : LwB w w' C q m o x :=
  ⟨h.g.trans hg, h.ge, h.b0.gr hg, h.b1.gr hg⟩
theorem LwB.next {w wr : World} {C q : Nat} {m o : Int} {x : Ar} (h : LwB w wr C q m o x) (q' : Nat) (m' o' : Int) :
    LwB w ((((wr.setCell ⟨C, 0, none⟩ (.int .i64 q')).setCell ⟨C, 1, none⟩ (.int .i64 m')).setCell ⟨C, 2, none⟩ (.int .i64 0)).setCell ⟨C, 3, none⟩ (.int .i64 o')) C q' m' o' x :=
  ⟨h.g.set4 (Nat.le_of_lt h.ge) _ _ _ _, h.ge, h.b0.far (fun e => absurd e (Nat.ne_of_gt h.ge)) _ _ _ _, h.b1.set _ _ _ _⟩
theorem back6_no (L : List Sp) (A : Option Addr) (c : Nat) (x : Ar) (w : World) (hS : Sy w) (hs : Sl w A L) (hw : WfS L) (hl : L.length ≤ 1000000000000000) (hb : ¬ Good L) :
    Calls Tryd.prog 6 #[.slice A L.length c, .agg #[.int .u16 x.sp, .string x.nm, .int .i64 x.r, .bool x.cn]] w fun e w' => e = .returned (.bool true) ∧ Gr w w' := by
  have HC : Hid _ := fun w' (hg : Gr w w') => text24_no L A c w' (hS.gr hg) (hs.gr hg) hw hl hb
  have HA : Hid _ := fun w' (hg : Gr w w') => awake11 w' (hS.kd.gr hg)
  have h1 : ¬ (chkS L).2 = 0 := fun h => hb (chk_good.1 h)
  have hne : ((chkS L).2 == 0) = false := by simpa using h1
  generalize (chkS L).2 = v at *
  generalize (chkS L).1 = v1 at *
  clear hS hs hw hl hb h1
  go_enter Tryd.func6, Tryd.ntmps6
  go_wp2_with fail
  refine Calls.mono (HA.out _ ((Gr.refl _).alloc _)) ?_
  rintro e w0 ⟨rfl, hg⟩
  have G0 : Hid (Gr w w0) := ((Gr.refl _).alloc _).trans hg
  clear hg
  go_wp2_with fail
  refine Calls.mono (HC.out _ G0.out) ?_
  rintro e w1 ⟨rfl, hg⟩
  have G1 : Hid (Gr w w1) := G0.out.trans hg
  clear hg
  have he := empty_beq
  go_wp2_with fail
  go_ret
  exact ⟨rfl, G1.out⟩
set_option maxRecDepth 20000 in
set_option maxHeartbeats 4000000 in
theorem back6_ok (L : List Sp) (A : Option Addr) (c : Nat) (x : Ar) (w : World) (hS : Sy w) (hs : Sl w A L) (hw : WfS L) (hg : Good L) (hx : x.ok) :
    Calls Tryd.prog 6 #[.slice A L.length c, .agg #[.int .u16 x.sp, .string x.nm, .int .i64 x.r, .bool x.cn]] w fun e w' => e = .returned (.bool true) ∧ Gr w w' := by
  have HT : Hid _ := fun w' (h' : Gr w w') A' c' (hs' : Sl w' A' L) => text24_ok L A' c' w' (hS.gr h') hs' hw hg
  have HP : Hid (∀ w', Gr w w' → Calls Tryd.prog 26 #[.string (textB L)] w' fun e w2 => ∃ A' c', e = .returned (.tuple #[.slice A' L.length c', .int .i64 0, .int .i64 0]) ∧ Sl w2 A' L ∧ Gr w' w2) := fun w' h' =>
    Calls.mono (parse26 (textB L) w' (hS.gr h') (by have := text_size hg hw; omega)) fun e w2 ⟨A', c', L', q, er, he, hs', hp, hg'⟩ => by
      obtain ⟨rfl, rfl, rfl⟩ := hp.eq (pr_text hg hw)
      exact ⟨A', c', he, hs', hg'⟩
  have HA : Hid _ := fun w' (h' : Gr w w') => awake11 w' (hS.kd.gr h')
  have HO : Hid _ := fun w' (h' : Gr w w') (p : Nat) n on (hp : p ≤ L.length) (hn : I64 n) => on13 L A c p n on x w' (hS.kd.gr h') (hs.gr h') hg hw hn hp hx
  have HD : Hid _ := fun w' (h' : Gr w w') (p : Nat) n on (hp : p ≤ L.length) (hn : I64 n) => do12 L A c p n on x w' (hS.kd.gr h') (hs.gr h') hg hw hn hp hx
  have HS : Hid (Sl w A L ∧ Good L ∧ WfS L) := ⟨hs, hg, hw⟩
  have hl' : (L.length : Int) ≤ 256 := by have := hg.1; omega
  have hbb : ((textB L).toList == (textB L).toList) = true := by simp
  generalize textB L = TB at *
  clear hS hs hw hg hx
  go_enter Tryd.func6, Tryd.ntmps6
  go_wp2_with fail
  refine Calls.mono (HA.out _ ((Gr.refl _).alloc _)) ?_
  rintro e w0 ⟨rfl, hg⟩
  have G0 : Hid (Gr w w0) := ((Gr.refl _).alloc _).trans hg
  have B0 : Hid (Bx w0 w.heap.size (.int .u16 x.sp) (.string x.nm) (.int .i64 x.r) (.bool x.cn)) := (bx_new w _ _ _ _ _).gr hg
  clear hg HA
  go_wp2_with fail
  refine Calls.mono (HT.out _ G0.out A c (HS.out.1.gr G0.out)) ?_
  rintro e w1 ⟨rfl, hg⟩
  have G1 : Hid (Gr w w1) := G0.out.trans hg
  have B1 : Hid (Bx w1 w.heap.size (.int .u16 x.sp) (.string x.nm) (.int .i64 x.r) (.bool x.cn)) := B0.out.gr hg
  clear hg G0 B0
  go_wp2_with fail
  refine Calls.mono (HP.out _ G1.out) ?_
  rintro e w2 ⟨A', c', rfl, hs2, hg⟩
  have G2 : Hid (Gr w w2) := G1.out.trans hg
  have B2 : Hid (Bx w2 w.heap.size (.int .u16 x.sp) (.string x.nm) (.int .i64 x.r) (.bool x.cn)) := B1.out.gr hg
  have HS2 : Hid (Sl w2 A' L) := hs2
  clear hg G1 B1 hs2 HP
  go_wp2_with fail
  refine Calls.mono (HT.out _ G2.out A' c' HS2.out) ?_
  rintro e w3 ⟨rfl, hg⟩
  have G3 : Hid (Gr w w3) := G2.out.trans hg
  have B3 : Hid (Bx w3 w.heap.size (.int .u16 x.sp) (.string x.nm) (.int .i64 x.r) (.bool x.cn)) := B2.out.gr hg
  clear hg G2 B2 HS2 HT
  go_wp2_with fail
  have HL0 : Hid (LwB w (w3.alloc (.cells #[.int .i64 0, .int .i64 0, .int .i64 0, .int .i64 0] 24)) w3.heap.size 0 0 0 x) := ⟨G3.out.alloc _, B3.out.lt, B3.out.al _, bx_new w3 _ _ _ _ _⟩
  clear G3 B3 hbb
  generalize w3.alloc (.cells #[.int .i64 0, .int .i64 0, .int .i64 0, .int .i64 0] 24) = V at *
  generalize w3.heap.size = C at *
  go_loopw [14] (fun i wr => ∃ (j p : Nat) (n o : Int), i = .int .i64 j ∧ j ≤ p ∧ p ≤ L.length ∧ Hid (I64 n) ∧ Hid (LwB w wr C p n o x)) (fun i _ => L.length + 1 - (intOf i).toNat)
  case atStart => exact ⟨0, 0, 0, 0, rfl, Nat.le_refl _, Nat.zero_le _, ⟨by decide, by decide⟩, HL0.out⟩
  case round =>
    obtain ⟨j, p, n, o, rfl, hjp, hpl, HN, HB⟩ := hrel
    have hjl : (j : Int) ≤ (L.length : Int) := by omega
    have a0 := HB.out.b1.c0
    have a1 := HB.out.b1.c1
    have a2 := HB.out.b1.c2
    have a3 := HB.out.b1.c3
    have b0 := HB.out.b0.c0
    have b1 := HB.out.b0.c1
    have b2 := HB.out.b0.c2
    have b3 := HB.out.b0.c3
    have HOc : Hid _ := HO.out _ HB.out.g p n o hpl HN.out
    rcases hR0 : x.f L p n with ⟨q', m', wt, o'⟩ | ⟨v, k, cc, r⟩
    rotate_left
    · have hR : x.f L p n = .fin v k cc r := hR0
      clear hR0
      have HE : Hid (x.f L p n = .fin v k cc r) := hR
      clear hR
      go_wp2_with fail
      refine Calls.mono HOc.out ?_
      rintro e w4 ⟨⟨R, rfl, hon⟩, hg⟩
      obtain rfl := hon.eq (.fin HE.out)
      rw [rs4_fin]
      simp only [ckV, otV]
      clear hon a0 a1 a2 a3 b0 b1 b2 b3 HOc
      have HB4 : Hid (LwB w ((w4.alloc (.cells #[.int .i64 0, .int .i64 0, .int .i64 0, .int .i64 0] 24)).alloc (.cells #[.int .i64 v, .int .i64 k, .int .i64 cc, .int .i64 r] 41)) C p n o x) := (HB.out.gr hg).gr (((Gr.refl _).alloc _).alloc _)
      have a0 := HB4.out.b1.c0
      have a1 := HB4.out.b1.c1
      have a2 := HB4.out.b1.c2
      have a3 := HB4.out.b1.c3
      have b0 := HB4.out.b0.c0
      have b1 := HB4.out.b0.c1
      have b2 := HB4.out.b0.c2
      have b3 := HB4.out.b0.c3
      have X0 : Hid (Bx ((w4.alloc (.cells #[.int .i64 0, .int .i64 0, .int .i64 0, .int .i64 0] 24)).alloc (.cells #[.int .i64 v, .int .i64 k, .int .i64 cc, .int .i64 r] 41)) w4.heap.size (.int .i64 0) (.int .i64 0) (.int .i64 0) (.int .i64 0)) := (bx_new w4 _ _ _ _ _).al _
      have X1 : Hid (Bx ((w4.alloc (.cells #[.int .i64 0, .int .i64 0, .int .i64 0, .int .i64 0] 24)).alloc (.cells #[.int .i64 v, .int .i64 k, .int .i64 cc, .int .i64 r] 41)) (w4.heap.size + 1) (.int .i64 v) (.int .i64 k) (.int .i64 cc) (.int .i64 r)) := by
        have := bx_new (w4.alloc (.cells #[.int .i64 0, .int .i64 0, .int .i64 0, .int .i64 0] 24)) (.int .i64 v) (.int .i64 k) (.int .i64 cc) (.int .i64 r) 41
        simp only [World.size_alloc] at this
        exact this
      clear hg
      go_wp2_with fail
      refine Calls.mono (HD.out _ HB4.out.g p n o hpl HN.out) ?_
      rintro e w5 ⟨⟨R, rfl, rfl⟩, hg⟩
      rw [HE.out, rs4_fin]
      simp only [ckV, otV]
      have HB5 : Hid (Gr w ((w5.alloc (.cells #[.int .i64 0, .int .i64 0, .int .i64 0, .int .i64 0] 24)).alloc (.cells #[.int .i64 v, .int .i64 k, .int .i64 cc, .int .i64 r] 41))) := (HB4.out.g.trans hg).trans (((Gr.refl _).alloc _).alloc _)
      obtain ⟨_, p0, p1, p2, p3, _, _, _, _⟩ := (X0.out.gr hg).gr (((Gr.refl w5).alloc (.cells #[.int .i64 0, .int .i64 0, .int .i64 0, .int .i64 0] 24)).alloc (.cells #[.int .i64 v, .int .i64 k, .int .i64 cc, .int .i64 r] 41))
      obtain ⟨_, q0, q1, q2, q3, _, _, _, _⟩ := (X1.out.gr hg).gr (((Gr.refl w5).alloc (.cells #[.int .i64 0, .int .i64 0, .int .i64 0, .int .i64 0] 24)).alloc (.cells #[.int .i64 v, .int .i64 k, .int .i64 cc, .int .i64 r] 41))
      clear a0 a1 a2 a3 b0 b1 b2 b3 hg X0 X1
      go_wp2_with fail
      go_ret
      exact ⟨by simp, HB5.out⟩
    · have hR : x.f L p n = .go q' m' wt o' := hR0
      clear hR0
      have HE : Hid (x.f L p n = .go q' m' wt o') := hR
      by_cases hwt : wt = 0
      · subst hwt
        obtain ⟨h1, h2, h3, h4, h5, h6, h7⟩ := f_go HS.out.2.1 HS.out.2.2 HN.out hR
        have HQ : Hid (p < q' ∧ q' ≤ L.length ∧ I64 m') := ⟨h1, h2, h3⟩
        clear hR h1 h2 h3 h4 h5 h6 h7
        go_wp2_with fail
        refine Calls.mono HOc.out ?_
        rintro e w4 ⟨⟨R, rfl, hon⟩, hg⟩
        obtain ⟨k0, k1, k2, k3, v, k, cc, r, bb, hR1, hR2⟩ := rs_parts R
        rw [hR2]
        clear hR1 hR2 hon a0 a1 a2 a3 b0 b1 b2 b3 HOc
        have HB4 : Hid (LwB w ((w4.alloc (.cells #[.int .i64 k0, .int .i64 k1, .int .i64 k2, .int .i64 k3] 24)).alloc (.cells #[.int .i64 v, .int .i64 k, .int .i64 cc, .int .i64 r] 41)) C p n o x) := (HB.out.gr hg).gr (((Gr.refl _).alloc _).alloc _)
        have a0 := HB4.out.b1.c0
        have a1 := HB4.out.b1.c1
        have a2 := HB4.out.b1.c2
        have a3 := HB4.out.b1.c3
        have b0 := HB4.out.b0.c0
        have b1 := HB4.out.b0.c1
        have b2 := HB4.out.b0.c2
        have b3 := HB4.out.b0.c3
        clear hg
        go_wp2_with fail
        refine Calls.mono (HD.out _ HB4.out.g p n o hpl HN.out) ?_
        rintro e w5 ⟨⟨R, rfl, rfl⟩, hg⟩
        rw [HE.out, rs4_go]
        simp only [ckV, otV]
        have HB5 : Hid (LwB w ((w5.alloc (.cells #[.int .i64 q', .int .i64 m', .int .i64 0, .int .i64 o'] 24)).alloc (.cells #[.int .i64 0, .int .i64 0, .int .i64 0, .int .i64 0] 41)) C p n o x) := (HB4.out.gr hg).gr (((Gr.refl _).alloc _).alloc _)
        have hnn : ¬ C = w5.heap.size ∧ ¬ C = w5.heap.size + 1 := by have := (HB4.out.b1.gr hg).lt; omega
        clear a0 a1 a2 a3 b0 b1 b2 b3 hg
        have c0 := HB5.out.b1.c0
        have c1 := HB5.out.b1.c1
        have c2 := HB5.out.b1.c2
        have c3 := HB5.out.b1.c3
        have d0 := HB5.out.b1.f0
        have d1 := HB5.out.b1.f1
        have d2 := HB5.out.b1.f2
        have d3 := HB5.out.b1.f3
        go_wp2_with fail
        go_roundw
        case rel => exact ⟨j + 1, q', m', o', by go_num, by have := HQ.out; omega, HQ.out.2.1, HQ.out.2.2, HB5.out.next q' m' o'⟩
        case measure => simp [intOf]; omega
      · have hne : (wt == 0) = false := by simpa using hwt
        have HW : Hid (wt ≠ 0) := hwt
        clear hR hwt
        go_wp2_with fail
        refine Calls.mono HOc.out ?_
        rintro e w4 ⟨⟨R, rfl, hon⟩, hg⟩
        obtain rfl := hon.eq (.wait HE.out HW.out)
        rw [rs4_go]
        simp only [ckV, otV]
        clear hon a0 a1 a2 a3 b0 b1 b2 b3 HOc
        have HB4 : Hid (LwB w ((w4.alloc (.cells #[.int .i64 q', .int .i64 m', .int .i64 wt, .int .i64 o'] 24)).alloc (.cells #[.int .i64 0, .int .i64 0, .int .i64 0, .int .i64 0] 41)) C p n o x) := (HB.out.gr hg).gr (((Gr.refl _).alloc _).alloc _)
        have a0 := HB4.out.b1.c0
        have a1 := HB4.out.b1.c1
        have a2 := HB4.out.b1.c2
        have a3 := HB4.out.b1.c3
        have b0 := HB4.out.b0.c0
        have b1 := HB4.out.b0.c1
        have b2 := HB4.out.b0.c2
        have b3 := HB4.out.b0.c3
        have X0 : Hid (Bx ((w4.alloc (.cells #[.int .i64 q', .int .i64 m', .int .i64 wt, .int .i64 o'] 24)).alloc (.cells #[.int .i64 0, .int .i64 0, .int .i64 0, .int .i64 0] 41)) w4.heap.size (.int .i64 q') (.int .i64 m') (.int .i64 wt) (.int .i64 o')) := (bx_new w4 _ _ _ _ _).al _
        have X1 : Hid (Bx ((w4.alloc (.cells #[.int .i64 q', .int .i64 m', .int .i64 wt, .int .i64 o'] 24)).alloc (.cells #[.int .i64 0, .int .i64 0, .int .i64 0, .int .i64 0] 41)) (w4.heap.size + 1) (.int .i64 0) (.int .i64 0) (.int .i64 0) (.int .i64 0)) := by
          have := bx_new (w4.alloc (.cells #[.int .i64 q', .int .i64 m', .int .i64 wt, .int .i64 o'] 24)) (.int .i64 0) (.int .i64 0) (.int .i64 0) (.int .i64 0) 41
          simp only [World.size_alloc] at this
          exact this
        clear hg
        go_wp2_with fail
        refine Calls.mono (HD.out _ HB4.out.g p n o hpl HN.out) ?_
        rintro e w5 ⟨⟨R, rfl, rfl⟩, hg⟩
        rw [HE.out, rs4_go]
        simp only [ckV, otV]
        have HB5 : Hid (Gr w ((w5.alloc (.cells #[.int .i64 q', .int .i64 m', .int .i64 wt, .int .i64 o'] 24)).alloc (.cells #[.int .i64 0, .int .i64 0, .int .i64 0, .int .i64 0] 41))) := (HB4.out.g.trans hg).trans (((Gr.refl _).alloc _).alloc _)
        obtain ⟨_, p0, p1, p2, p3, _, _, _, _⟩ := (X0.out.gr hg).gr (((Gr.refl w5).alloc (.cells #[.int .i64 q', .int .i64 m', .int .i64 wt, .int .i64 o'] 24)).alloc (.cells #[.int .i64 0, .int .i64 0, .int .i64 0, .int .i64 0] 41))
        obtain ⟨_, q0, q1, q2, q3, _, _, _, _⟩ := (X1.out.gr hg).gr (((Gr.refl w5).alloc (.cells #[.int .i64 q', .int .i64 m', .int .i64 wt, .int .i64 o'] 24)).alloc (.cells #[.int .i64 0, .int .i64 0, .int .i64 0, .int .i64 0] 41))
        clear a0 a1 a2 a3 b0 b1 b2 b3 hg X0 X1
        go_wp2_with fail
        go_ret
        exact ⟨by simp, HB5.out⟩
theorem back6 (L : List Sp) (A : Option Addr) (c : Nat) (x : Ar) (w : World) (hS : Sy w) (hs : Sl w A L) (hw : WfS L) (hl : L.length ≤ 1000000000000000) (hx : x.ok) :
    Calls Tryd.prog 6 #[.slice A L.length c, .agg #[.int .u16 x.sp, .string x.nm, .int .i64 x.r, .bool x.cn]] w fun e w' => e = .returned (.bool true) ∧ Gr w w' := by
  by_cases hg : Good L
  · exact back6_ok L A c x w hS hs hw hg hx
  · exact back6_no L A c x w hS hs hw hl hg
end Go.Proofs.YtgjojdlbighoaaaDoor
