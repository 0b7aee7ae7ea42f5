/- Steps until it waits or ends, done by the program; the conditions: the recipe may be and lies in memory, the state is ready, the key's space is a number of 16 bits. -/
import Derived.Test.YtgjojdlbighoaaaDoorDos
namespace Go.Proofs.YtgjojdlbighoaaaDoor
open Go.RowKit Go.Sort
set_option linter.unusedVariables false
set_option linter.unusedSimpArgs false

def OnE (f : Nat → Int → Rs) (p : Nat) (n : Int) (e : Ending) : Prop := ∃ R, e = .returned (rsV R) ∧ On f p n R
/-- what the loop knows of its boxes -/
structure OnB (w wr : World) (q : Nat) (m o : Int) (x : Ar) : Prop where
  g : Gr w wr
  b0 : Bx wr w.heap.size (.int .i64 q) (.int .i64 m) (.int .i64 0) (.int .i64 o)
  b1 : Bx wr (w.heap.size + 1) (.int .u16 x.sp) (.string x.nm) (.int .i64 x.r) (.bool x.cn)
  b2 : Bx wr (w.heap.size + 1 + 1) (.int .i64 0) (.int .i64 0) (.int .i64 0) (.int .i64 0)
  b3 : Bx wr (w.heap.size + 1 + 1 + 1) (.int .i64 0) (.int .i64 0) (.int .i64 0) (.int .i64 0)
theorem OnB.gr {w wr w' : World} {q : Nat} {m o : Int} {x : Ar} (h : OnB w wr q m o x) (hg : Gr wr w') : OnB w w' q m o x :=
  ⟨h.g.trans hg, h.b0.gr hg, h.b1.gr hg, h.b2.gr hg, h.b3.gr hg⟩
theorem bx_new (w : World) (v0 v1 v2 v3 : Value) (t : TypeId) : Bx (w.alloc (.cells #[v0, v1, v2, v3] t)) w.heap.size v0 v1 v2 v3 := by
  refine ⟨by simp, by simp, by simp, by simp, by simp, by simp, by simp, by simp, by simp⟩
theorem Bx.al {w : World} {b : Nat} {v0 v1 v2 v3 : Value} (h : Bx w b v0 v1 v2 v3) (o : Obj) : Bx (w.alloc o) b v0 v1 v2 v3 := h.gr ((Gr.refl _).alloc o)
theorem onB_start (w : World) (q : Nat) (m o : Int) (x : Ar) : OnB w ((((w.alloc (.cells #[.int .i64 q, .int .i64 m, .int .i64 0, .int .i64 o] 24)).alloc (.cells #[.int .u16 x.sp, .string x.nm, .int .i64 x.r, .bool x.cn] 29)).alloc (.cells #[.int .i64 0, .int .i64 0, .int .i64 0, .int .i64 0] 24)).alloc (.cells #[.int .i64 0, .int .i64 0, .int .i64 0, .int .i64 0] 41)) q m o x := by
  refine ⟨((((Gr.refl w).alloc _).alloc _).alloc _).alloc _, (((bx_new w _ _ _ _ _).al _).al _).al _, ?_, ?_, ?_⟩
  · have := bx_new (w.alloc (.cells #[.int .i64 q, .int .i64 m, .int .i64 0, .int .i64 o] 24)) (.int .u16 x.sp) (.string x.nm) (.int .i64 x.r) (.bool x.cn) 29
    simp only [World.size_alloc] at this
    exact (this.al _).al _
  · have := bx_new ((w.alloc (.cells #[.int .i64 q, .int .i64 m, .int .i64 0, .int .i64 o] 24)).alloc (.cells #[.int .u16 x.sp, .string x.nm, .int .i64 x.r, .bool x.cn] 29)) (.int .i64 0) (.int .i64 0) (.int .i64 0) (.int .i64 0) 24
    simp only [World.size_alloc] at this
    exact this.al _
  · have := bx_new (((w.alloc (.cells #[.int .i64 q, .int .i64 m, .int .i64 0, .int .i64 o] 24)).alloc (.cells #[.int .u16 x.sp, .string x.nm, .int .i64 x.r, .bool x.cn] 29)).alloc (.cells #[.int .i64 0, .int .i64 0, .int .i64 0, .int .i64 0] 24)) (.int .i64 0) (.int .i64 0) (.int .i64 0) (.int .i64 0) 41
    simp only [World.size_alloc] at this
    exact this
theorem OnB.next {w wr : World} {q : Nat} {m o : Int} {x : Ar} (h : OnB w wr q m o x) (q' : Nat) (m' o' : Int) :
    OnB w ((((wr.setCell ⟨w.heap.size, 0, none⟩ (.int .i64 q')).setCell ⟨w.heap.size, 1, none⟩ (.int .i64 m')).setCell ⟨w.heap.size, 2, none⟩ (.int .i64 0)).setCell ⟨w.heap.size, 3, none⟩ (.int .i64 o')) q' m' o' x :=
  ⟨h.g.set4 (Nat.le_refl _) _ _ _ _, h.b0.set _ _ _ _, h.b1.far (by omega) _ _ _ _, h.b2.far (by omega) _ _ _ _, h.b3.far (by omega) _ _ _ _⟩
def placeOf (w wr : World) : Nat := (intOf ((wr.cell? ⟨w.heap.size, 0, none⟩).getD undef)).toNat
theorem OnB.place {w wr : World} {q : Nat} {m o : Int} {x : Ar} (h : OnB w wr q m o x) : placeOf w wr = q := by unfold placeOf; rw [h.b0.c0]; simp [intOf]
set_option maxHeartbeats 2000000 in
theorem on32 (L : List Sp) (A : Option Addr) (c : Nat) (p : Nat) (n on : Int) (x : Ar) (w : World) (hs : Sl w A L) (hg : Good L) (hw : WfS L) (hn : I64 n) (hp : p ≤ L.length) (hx : x.ok) :
    Calls Tryd.prog 32 #[.slice A L.length c, .agg #[.int .i64 p, .int .i64 n, .int .i64 0, .int .i64 on], .agg #[.int .u16 x.sp, .string x.nm, .int .i64 x.r, .bool x.cn]] w fun e w' => OnE (x.f L) p n e ∧ Gr w w' := by
  have HS : Hid (Sl w A L ∧ Good L ∧ WfS L ∧ x.ok) := ⟨hs, hg, hw, hx⟩
  have HP : Hid (I64 n ∧ p ≤ L.length) := ⟨hn, hp⟩
  clear hs hg hw hn hp hx
  go_enter Tryd.func32, Tryd.ntmps32
  go_wp2_with fail
  go_loopw [8] (fun v wr => v = .bool false ∧ ∃ (q : Nat) (m o : Int), Hid (q ≤ L.length ∧ I64 m ∧ (∀ R, On (x.f L) q m R → On (x.f L) p n R)) ∧ Hid (OnB w wr q m o x)) (fun _ wr => L.length + 1 - placeOf w wr)
  case atStart => exact ⟨rfl, p, n, on, ⟨HP.out.2, HP.out.1, fun R h => h⟩, onB_start w p n on x⟩
  case round =>
    obtain ⟨rfl, q, m, o, HQ, HB⟩ := hrel
    have HC : Hid _ := do31 L A c q m o x wr (HS.out.1.gr HB.out.g) HS.out.2.1 HQ.out.2.1 HQ.out.1 HS.out.2.2.2
    have a0 := HB.out.b0.c0
    have a1 := HB.out.b0.c1
    have a2 := HB.out.b0.c2
    have a3 := HB.out.b0.c3
    have b0 := HB.out.b1.c0
    have b1 := HB.out.b1.c1
    have b2 := HB.out.b1.c2
    have b3 := HB.out.b1.c3
    rcases hR0 : x.f L q m with ⟨q', m', wt, o'⟩ | ⟨v, k, cc, r⟩
    rotate_left
    · have hR : x.f L q m = .fin v k cc r := hR0
      clear hR0
      rw [hR] at HC
      have HE : Hid (On (x.f L) p n (.fin v k cc r)) := HQ.out.2.2 _ (.fin hR)
      clear hR
      go_wp2_with fail
      refine Calls.mono HC.out ?_
      rintro e w1 ⟨rfl, hg⟩
      simp only [rsV_go, rsV_fin, ckV, otV]
      have HB2 : Hid (OnB w ((w1.alloc (.cells #[.int .i64 0, .int .i64 0, .int .i64 0, .int .i64 0] 24)).alloc (.cells #[.int .i64 v, .int .i64 k, .int .i64 cc, .int .i64 r] 41)) q m o x) := (HB.out.gr hg).gr (((Gr.refl _).alloc _).alloc _)
      clear a0 a1 a2 a3 b0 b1 b2 b3
      have HN : Hid (Bx ((w1.alloc (.cells #[.int .i64 0, .int .i64 0, .int .i64 0, .int .i64 0] 24)).alloc (.cells #[.int .i64 v, .int .i64 k, .int .i64 cc, .int .i64 r] 41)) w1.heap.size (.int .i64 0) (.int .i64 0) (.int .i64 0) (.int .i64 0)) := (bx_new w1 _ _ _ _ _).al _
      have HN2 : Hid (Bx ((w1.alloc (.cells #[.int .i64 0, .int .i64 0, .int .i64 0, .int .i64 0] 24)).alloc (.cells #[.int .i64 v, .int .i64 k, .int .i64 cc, .int .i64 r] 41)) (w1.heap.size + 1) (.int .i64 v) (.int .i64 k) (.int .i64 cc) (.int .i64 r)) := by
        have := bx_new (w1.alloc (.cells #[.int .i64 0, .int .i64 0, .int .i64 0, .int .i64 0] 24)) (.int .i64 v) (.int .i64 k) (.int .i64 cc) (.int .i64 r) 41
        simp only [World.size_alloc] at this
        exact this
      have hlt := (HB.out.gr hg).b3.lt
      go_wp2_with fail
      generalize hV : (w1.alloc (.cells #[.int .i64 0, .int .i64 0, .int .i64 0, .int .i64 0] 24)).alloc (.cells #[.int .i64 v, .int .i64 k, .int .i64 cc, .int .i64 r] 41) = V at *
      clear hV
      obtain ⟨R2, hR2⟩ : ∃ R2, w.heap.size + 1 + 1 = R2 := ⟨_, rfl⟩
      obtain ⟨R3, hR3⟩ : ∃ R3, w.heap.size + 1 + 1 + 1 = R3 := ⟨_, rfl⟩
      obtain ⟨N1, hN1⟩ : ∃ N1, w1.heap.size = N1 := ⟨_, rfl⟩
      obtain ⟨N2, hN2⟩ : ∃ N2, w1.heap.size + 1 = N2 := ⟨_, rfl⟩
      have n1 : ¬ R2 = R3 := by omega
      have n2 : ¬ R2 = N1 := by omega
      have n3 : ¬ R2 = N2 := by omega
      have n4 : ¬ R3 = N1 := by omega
      have n5 : ¬ R3 = N2 := by omega
      have HG : Hid (Gr w V ∧ w.heap.size ≤ R2 ∧ w.heap.size ≤ R3) := ⟨HB2.out.g, by omega, by omega⟩
      have B2 := HB2.out.b2
      have B3 := HB2.out.b3
      have M1 := HN.out
      have M2 := HN2.out
      rw [hR3] at B3 ⊢
      rw [hR2] at B2 ⊢
      rw [hN2] at M2 ⊢
      rw [hN1] at M1 ⊢
      clear hR2 hR3 hN1 hN2 HB2 HN HN2 hg hlt HB HQ HC
      have HX : Hid _ := (B3.far n1 (.int .i64 0) (.int .i64 0) (.int .i64 0) (.int .i64 0)).set (.int .i64 v) (.int .i64 k) (.int .i64 cc) (.int .i64 r)
      have HY : Hid _ := (B2.set (.int .i64 0) (.int .i64 0) (.int .i64 0) (.int .i64 0)).far (fun e => n1 e.symm) (.int .i64 v) (.int .i64 k) (.int .i64 cc) (.int .i64 r)
      obtain ⟨_, p0, p1, p2, p3, q0, q1, q2, q3⟩ := B2
      obtain ⟨_, r0, r1, r2, r3, s0, s1, s2, s3⟩ := B3
      obtain ⟨_, t0, t1, t2, t3, _, _, _, _⟩ := M1
      obtain ⟨_, v0, v1, v2, v3, _, _, _, _⟩ := M2
      go_region
      all_goals
        go_wp2
        obtain ⟨_, x0, x1, x2, x3, _, _, _, _⟩ := HX.out
        obtain ⟨_, y0, y1, y2, y3, _, _, _, _⟩ := HY.out
        have hw := ((HG.out.1.set4 HG.out.2.1 (.int .i64 0) (.int .i64 0) (.int .i64 0) (.int .i64 0)).set4 HG.out.2.2 (.int .i64 v) (.int .i64 k) (.int .i64 cc) (.int .i64 r)).drew
        generalize V.setCell ⟨R2, 0, none⟩ (.int .i64 0) = V1 at *
        exact bodyPost_ret (v := .tuple #[.agg #[.int .i64 0, .int .i64 0, .int .i64 0, .int .i64 0], .agg #[.int .i64 v, .int .i64 k, .int .i64 cc, .int .i64 r], .bool true]) (by simp [results, Tryd.results32, go_sem, x0, x1, x2, x3, y0, y1, y2, y3]) rfl ⟨⟨.fin v k cc r, rfl, HE.out⟩, hw⟩
    · have hR : x.f L q m = .go q' m' wt o' := hR0
      clear hR0
      rw [hR] at HC
      obtain ⟨h1, h2, h3, h4, h5, h6, h7⟩ := f_go HS.out.2.1 HS.out.2.2.1 HQ.out.2.1 hR
      by_cases hwt : wt = 0
      · subst hwt
        have ho : o' = 0 := h7 rfl
        subst ho
        have HQ2 : Hid (q' ≤ L.length ∧ I64 m' ∧ (∀ R, On (x.f L) q' m' R → On (x.f L) p n R)) := ⟨h2, h3, fun R h => HQ.out.2.2 R (.step hR h)⟩
        have HP2 : Hid (q < q' ∧ q' ≤ L.length) := ⟨h1, h2⟩
        clear hR h1 h2 h3 h4 h5 h6 h7
        go_wp2_with fail
        refine Calls.mono HC.out ?_
        rintro e w1 ⟨rfl, hg⟩
        simp only [rsV_go, rsV_fin, ckV, otV]
        have HB2 : Hid (OnB w ((w1.alloc (.cells #[.int .i64 q', .int .i64 m', .int .i64 0, .int .i64 0] 24)).alloc (.cells #[.int .i64 0, .int .i64 0, .int .i64 0, .int .i64 0] 41)) q m o x) := (HB.out.gr hg).gr (((Gr.refl _).alloc _).alloc _)
        have c0 := HB2.out.b0.c0
        have c1 := HB2.out.b0.c1
        have c2 := HB2.out.b0.c2
        have c3 := HB2.out.b0.c3
        have d0 := HB2.out.b0.f0
        have d1 := HB2.out.b0.f1
        have d2 := HB2.out.b0.f2
        have d3 := HB2.out.b0.f3
        have HM : Hid (placeOf w wr = q) := HB.out.place
        clear a0 a1 a2 a3 b0 b1 b2 b3
        go_wp2_with fail
        go_roundw
        case rel => exact ⟨by first | rfl | trivial, q', m', 0, HQ2.out, HB2.out.next q' m' 0⟩
        case measure =>
          have h1 := (HB2.out.next q' m' 0).place
          have h2 := HP2.out
          rw [HM.out, h1]
          omega
      · have hne : (wt == 0) = false := by simpa using hwt
        have HE : Hid (On (x.f L) p n (.go q' m' wt o')) := HQ.out.2.2 _ (.wait hR hwt)
        clear hR h1 h2 h3 h4 h5 h6 h7 hwt
        go_wp2_with fail
        refine Calls.mono HC.out ?_
        rintro e w1 ⟨rfl, hg⟩
        simp only [rsV_go, rsV_fin, ckV, otV]
        have HB2 : Hid (OnB w ((w1.alloc (.cells #[.int .i64 q', .int .i64 m', .int .i64 wt, .int .i64 o'] 24)).alloc (.cells #[.int .i64 0, .int .i64 0, .int .i64 0, .int .i64 0] 41)) q m o x) := (HB.out.gr hg).gr (((Gr.refl _).alloc _).alloc _)
        clear a0 a1 a2 a3 b0 b1 b2 b3
        have HN : Hid (Bx ((w1.alloc (.cells #[.int .i64 q', .int .i64 m', .int .i64 wt, .int .i64 o'] 24)).alloc (.cells #[.int .i64 0, .int .i64 0, .int .i64 0, .int .i64 0] 41)) w1.heap.size (.int .i64 q') (.int .i64 m') (.int .i64 wt) (.int .i64 o')) := (bx_new w1 _ _ _ _ _).al _
        have HN2 : Hid (Bx ((w1.alloc (.cells #[.int .i64 q', .int .i64 m', .int .i64 wt, .int .i64 o'] 24)).alloc (.cells #[.int .i64 0, .int .i64 0, .int .i64 0, .int .i64 0] 41)) (w1.heap.size + 1) (.int .i64 0) (.int .i64 0) (.int .i64 0) (.int .i64 0)) := by
          have := bx_new (w1.alloc (.cells #[.int .i64 q', .int .i64 m', .int .i64 wt, .int .i64 o'] 24)) (.int .i64 0) (.int .i64 0) (.int .i64 0) (.int .i64 0) 41
          simp only [World.size_alloc] at this
          exact this
        have hlt := (HB.out.gr hg).b3.lt
        go_wp2_with fail
        generalize hV : (w1.alloc (.cells #[.int .i64 q', .int .i64 m', .int .i64 wt, .int .i64 o'] 24)).alloc (.cells #[.int .i64 0, .int .i64 0, .int .i64 0, .int .i64 0] 41) = V at *
        clear hV
        obtain ⟨R2, hR2⟩ : ∃ R2, w.heap.size + 1 + 1 = R2 := ⟨_, rfl⟩
        obtain ⟨R3, hR3⟩ : ∃ R3, w.heap.size + 1 + 1 + 1 = R3 := ⟨_, rfl⟩
        obtain ⟨N1, hN1⟩ : ∃ N1, w1.heap.size = N1 := ⟨_, rfl⟩
        obtain ⟨N2, hN2⟩ : ∃ N2, w1.heap.size + 1 = N2 := ⟨_, rfl⟩
        have n1 : ¬ R2 = R3 := by omega
        have n2 : ¬ R2 = N1 := by omega
        have n3 : ¬ R2 = N2 := by omega
        have n4 : ¬ R3 = N1 := by omega
        have n5 : ¬ R3 = N2 := by omega
        have HG : Hid (Gr w V ∧ w.heap.size ≤ R2 ∧ w.heap.size ≤ R3) := ⟨HB2.out.g, by omega, by omega⟩
        have B2 := HB2.out.b2
        have B3 := HB2.out.b3
        have M1 := HN.out
        have M2 := HN2.out
        rw [hR3] at B3 ⊢
        rw [hR2] at B2 ⊢
        rw [hN2] at M2 ⊢
        rw [hN1] at M1 ⊢
        clear hR2 hR3 hN1 hN2 HB2 HN HN2 hg hlt HB HQ HC
        have HX : Hid _ := (B3.far n1 (.int .i64 q') (.int .i64 m') (.int .i64 wt) (.int .i64 o')).set (.int .i64 0) (.int .i64 0) (.int .i64 0) (.int .i64 0)
        have HY : Hid _ := (B2.set (.int .i64 q') (.int .i64 m') (.int .i64 wt) (.int .i64 o')).far (fun e => n1 e.symm) (.int .i64 0) (.int .i64 0) (.int .i64 0) (.int .i64 0)
        obtain ⟨_, p0, p1, p2, p3, q0, q1, q2, q3⟩ := B2
        obtain ⟨_, r0, r1, r2, r3, s0, s1, s2, s3⟩ := B3
        obtain ⟨_, t0, t1, t2, t3, _, _, _, _⟩ := M1
        obtain ⟨_, v0, v1, v2, v3, _, _, _, _⟩ := M2
        go_region
        all_goals
          go_wp2
          obtain ⟨_, x0, x1, x2, x3, _, _, _, _⟩ := HX.out
          obtain ⟨_, y0, y1, y2, y3, _, _, _, _⟩ := HY.out
          have hw := ((HG.out.1.set4 HG.out.2.1 (.int .i64 q') (.int .i64 m') (.int .i64 wt) (.int .i64 o')).set4 HG.out.2.2 (.int .i64 0) (.int .i64 0) (.int .i64 0) (.int .i64 0)).drew
          generalize V.setCell ⟨R2, 0, none⟩ (.int .i64 q') = V1 at *
          exact bodyPost_ret (v := .tuple #[.agg #[.int .i64 q', .int .i64 m', .int .i64 wt, .int .i64 o'], .agg #[.int .i64 0, .int .i64 0, .int .i64 0, .int .i64 0], .bool false]) (by simp [results, Tryd.results32, go_sem, x0, x1, x2, x3, y0, y1, y2, y3]) rfl ⟨⟨(.go q' m' wt o'), rfl, HE.out⟩, hw⟩
end Go.Proofs.YtgjojdlbighoaaaDoor
