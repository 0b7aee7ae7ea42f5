/- Steps of a recipe as the program's own calls tell them, with the error; the conditions: the recipe may be and lies in memory, the table holds what the start lays, the state is ready, the key's space is a number of 16 bits. -/
import Derived.Test.YtcbckehdlbbbbaaDoorMc01
namespace Go.Proofs.YtcbckehdlbbbbaaDoor.Rc
open Go.RowKit Go.Sort
set_option linter.unusedVariables false
set_option linter.unusedSimpArgs false

/-- a step's answer with no error -/
def rs4 (R : Rs) : Value := R.elim (fun z => .tuple #[ckV (z.1 : Int) z.2.1 z.2.2.1 z.2.2.2, otV 0 0 0 0, .bool false, .int .i64 0]) (fun z => .tuple #[ckV 0 0 0 0, otV z.1 z.2.1 z.2.2.1 z.2.2.2, .bool true, .int .i64 0])
theorem rs_parts (R : Rs) : ∃ (k0 k1 k2 k3 o0 o1 o2 o3 : Int) (bb : Bool), rsV R = .tuple #[.agg #[.int .i64 k0, .int .i64 k1, .int .i64 k2, .int .i64 k3], .agg #[.int .i64 o0, .int .i64 o1, .int .i64 o2, .int .i64 o3], .bool bb] ∧ rs4 R = .tuple #[.agg #[.int .i64 k0, .int .i64 k1, .int .i64 k2, .int .i64 k3], .agg #[.int .i64 o0, .int .i64 o1, .int .i64 o2, .int .i64 o3], .bool bb, .int .i64 0] := by
  rcases R with ⟨q, m, wt, o⟩ | ⟨v, k, c, r⟩
  · exact ⟨q, m, wt, o, 0, 0, 0, 0, false, rfl, rfl⟩
  · exact ⟨0, 0, 0, 0, v, k, c, r, true, rfl, rfl⟩
set_option maxHeartbeats 2000000 in
theorem do12 (L : List Sp) (A : Option Addr) (c : Nat) (p : Nat) (n on : Int) (x : Ar) (w : World) (hk : Kd w) (hs : Sl w A L) (hg : Good L) (hw : WfS L) (hn : I64 n) (hp : p ≤ L.length) (hx : x.ok) :
    Calls Tryd.prog 32 #[.slice A L.length c, .agg #[.int .i64 p, .int .i64 n, .int .i64 0, .int .i64 on], .agg #[.int .u16 x.sp, .string x.nm, .int .i64 x.r, .bool x.cn]] w fun e w' => (∃ R, e = .returned (rs4 R) ∧ R = x.f L p n) ∧ Gr w w' := by
  have HC : Hid _ := ready30_ok L A c p n on ((((w.alloc (.cells #[.int .i64 p, .int .i64 n, .int .i64 0, .int .i64 on] 76)).alloc (.cells #[.int .u16 x.sp, .string x.nm, .int .i64 x.r, .bool x.cn] 71)).alloc (.cells #[.int .i64 0, .int .i64 0, .int .i64 0, .int .i64 0] 76)).alloc (.cells #[.int .i64 0, .int .i64 0, .int .i64 0, .int .i64 0] 51)) (hk.gr (onB_start w p n on x).g) (hs.gr (onB_start w p n on x).g) hw hg hp
  have HD : Hid _ := fun w' (hg' : Gr w w') => do31 L A c p n on x w' (hs.gr hg') hg hn hp hx
  clear hk hs hg hw hn hp hx
  go_enter Tryd.func32, Tryd.ntmps32
  go_wp2_with fail
  refine Calls.mono HC.out ?_
  rintro e w0 ⟨rfl, hg0⟩
  have HB : Hid (OnB w w0 p n on x) := (onB_start w p n on x).gr hg0
  have a0 := HB.out.b0.c0
  have a1 := HB.out.b0.c1
  have a2 := HB.out.b0.c2
  have a3 := HB.out.b0.c3
  have b0 := HB.out.b1.c0
  have b1 := HB.out.b1.c1
  have b2 := HB.out.b1.c2
  have b3 := HB.out.b1.c3
  clear HC hg0
  go_wp2_with fail
  refine Calls.mono (HD.out _ HB.out.g) ?_
  rintro e w1 ⟨rfl, hg⟩
  obtain ⟨k0, k1, k2, k3, v, k, cc, r, bb, hR1, hR2⟩ := rs_parts (x.f L p n)
  rw [hR1]
  have HE : Hid (∃ R, Ending.returned (.tuple #[.agg #[.int .i64 k0, .int .i64 k1, .int .i64 k2, .int .i64 k3], .agg #[.int .i64 v, .int .i64 k, .int .i64 cc, .int .i64 r], .bool bb, .int .i64 0]) = .returned (rs4 R) ∧ R = x.f L p n) := ⟨_, by rw [hR2], rfl⟩
  clear hR1 hR2 HD 
  have HB2 : Hid (OnB w ((w1.alloc (.cells #[.int .i64 k0, .int .i64 k1, .int .i64 k2, .int .i64 k3] 76)).alloc (.cells #[.int .i64 v, .int .i64 k, .int .i64 cc, .int .i64 r] 51)) p n on x) := (HB.out.gr hg).gr (((Gr.refl _).alloc _).alloc _)
  clear a0 a1 a2 a3 b0 b1 b2 b3
  have HN : Hid (Bx ((w1.alloc (.cells #[.int .i64 k0, .int .i64 k1, .int .i64 k2, .int .i64 k3] 76)).alloc (.cells #[.int .i64 v, .int .i64 k, .int .i64 cc, .int .i64 r] 51)) w1.heap.size (.int .i64 k0) (.int .i64 k1) (.int .i64 k2) (.int .i64 k3)) := (bx_new w1 _ _ _ _ _).al _
  have HN2 : Hid (Bx ((w1.alloc (.cells #[.int .i64 k0, .int .i64 k1, .int .i64 k2, .int .i64 k3] 76)).alloc (.cells #[.int .i64 v, .int .i64 k, .int .i64 cc, .int .i64 r] 51)) (w1.heap.size + 1) (.int .i64 v) (.int .i64 k) (.int .i64 cc) (.int .i64 r)) := by
    have := bx_new (w1.alloc (.cells #[.int .i64 k0, .int .i64 k1, .int .i64 k2, .int .i64 k3] 76)) (.int .i64 v) (.int .i64 k) (.int .i64 cc) (.int .i64 r) 51
    simp only [World.size_alloc] at this
    exact this
  have hlt := (HB.out.gr hg).b3.lt
  go_wp2_with fail
  generalize hV : (w1.alloc (.cells #[.int .i64 k0, .int .i64 k1, .int .i64 k2, .int .i64 k3] 76)).alloc (.cells #[.int .i64 v, .int .i64 k, .int .i64 cc, .int .i64 r] 51) = V at *
  clear hV
  obtain ⟨R2, hR2⟩ : ∃ R2, w.heap.size + 1 + 1 = R2 := ⟨_, rfl⟩
  obtain ⟨R3, hR3⟩ : ∃ R3, w.heap.size + 1 + 1 + 1 = R3 := ⟨_, rfl⟩
  obtain ⟨N1, hN1⟩ : ∃ N1, w1.heap.size = N1 := ⟨_, rfl⟩
  obtain ⟨N2, hN2⟩ : ∃ N2, w1.heap.size + 1 = N2 := ⟨_, rfl⟩
  have n1 : ¬ R2 = R3 := by omega
  have n2 : ¬ R2 = N1 := by omega
  have n3 : ¬ R2 = N2 := by omega
  have n4 : ¬ R3 = N1 := by omega
  have n5 : ¬ R3 = N2 := by omega
  have HG : Hid (Gr w V ∧ w.heap.size ≤ R2 ∧ w.heap.size ≤ R3) := ⟨HB2.out.g, by omega, by omega⟩
  have B2 := HB2.out.b2
  have B3 := HB2.out.b3
  have M1 := HN.out
  have M2 := HN2.out
  rw [hR3] at B3 ⊢
  rw [hR2] at B2 ⊢
  rw [hN2] at M2 ⊢
  rw [hN1] at M1 ⊢
  clear hR2 hR3 hN1 hN2 HB2 HN HN2 hg hlt HB
  have HX : Hid _ := (B3.far n1 (.int .i64 k0) (.int .i64 k1) (.int .i64 k2) (.int .i64 k3)).set (.int .i64 v) (.int .i64 k) (.int .i64 cc) (.int .i64 r)
  have HY : Hid _ := (B2.set (.int .i64 k0) (.int .i64 k1) (.int .i64 k2) (.int .i64 k3)).far (fun e => n1 e.symm) (.int .i64 v) (.int .i64 k) (.int .i64 cc) (.int .i64 r)
  obtain ⟨_, p0, p1, p2, p3, q0, q1, q2, q3⟩ := B2
  obtain ⟨_, r0, r1, r2, r3, s0, s1, s2, s3⟩ := B3
  obtain ⟨_, t0, t1, t2, t3, _, _, _, _⟩ := M1
  obtain ⟨_, v0, v1, v2, v3, _, _, _, _⟩ := M2
  go_region
  all_goals
    go_wp2
    obtain ⟨_, x0, x1, x2, x3, _, _, _, _⟩ := HX.out
    obtain ⟨_, y0, y1, y2, y3, _, _, _, _⟩ := HY.out
    have hw := ((HG.out.1.set4 HG.out.2.1 (.int .i64 k0) (.int .i64 k1) (.int .i64 k2) (.int .i64 k3)).set4 HG.out.2.2 (.int .i64 v) (.int .i64 k) (.int .i64 cc) (.int .i64 r)).drew
    generalize V.setCell ⟨R2, 0, none⟩ (.int .i64 k0) = V1 at *
    exact bodyPost_ret (v := .tuple #[.agg #[.int .i64 k0, .int .i64 k1, .int .i64 k2, .int .i64 k3], .agg #[.int .i64 v, .int .i64 k, .int .i64 cc, .int .i64 r], .bool bb, .int .i64 0]) (by simp [results, Tryd.results32, go_sem, x0, x1, x2, x3, y0, y1, y2, y3]) rfl ⟨HE.out, hw⟩
end Go.Proofs.YtcbckehdlbbbbaaDoor.Rc
