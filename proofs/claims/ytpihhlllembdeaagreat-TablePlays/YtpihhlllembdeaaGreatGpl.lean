/- The law's act: a copy of the table, and what is done to the copy. -/
import Derived.Test.YtpihhlllembdeaaGreatGbg
import Derived.Test.YtpihhlllembdeaaGreatGcl
import Derived.Test.YtpihhlllembdeaaGreatGst
import Derived.Test.YtpihhlllembdeaaGreatTbb
namespace Go.Proofs.YtpihhlllembdeaaGreat
open Go.RowKit Go.Maps Go.ChangeMaps
set_option linter.unusedVariables false
set_option linter.unusedSimpArgs false
/-- A table in memory laid since V; nothing that was there at V is touched. -/
def Fc (V cur : World) (b : Nat) (T : Tb) (N : Nat) : Prop := (∃ Fk, Tq cur b Fk T N ∧ ∀ d, d ∈ Fk → V.heap.size ≤ d) ∧ Touch [] V cur
theorem Fc.step {V cur new : World} {b : Nat} {T T' : Tb} {N N' : Nat} {Fk : List Nat} (X : Touch [] V cur) (hF : ∀ d, d ∈ Fk → V.heap.size ≤ d) (e : TqE cur new b Fk T' N') : Fc V new b T' N' := by
  obtain ⟨F', q1, q2, q3⟩ := e
  have hz := X.size
  refine ⟨⟨F', q1, fun d hd => ?_⟩, X.trans q2 (fun d hd => Or.inr (hF d hd))⟩
  rcases q3 d hd with k | k
  · exact hF d k
  · omega
theorem Fc.then0 {V cur new : World} {b : Nat} {T : Tb} {N : Nat} (h : Fc V cur b T N) (X : Touch [] cur new) : Fc V new b T N := by
  obtain ⟨⟨Fk, q1, q2⟩, q3⟩ := h
  exact ⟨⟨Fk, q1.keep0 X, q2⟩, q3.trans' X⟩
set_option maxHeartbeats 4000000 in
set_option maxRecDepth 100000 in
theorem act_clone (w : World) (t : Nat) (F : List Nat) (lv gv : Value) (ds : List De) (gs : List (K × Int)) (T : Tb) (N : Nat) (a : ActT) (hw : WfA a) (h : Bo w t F lv gv ds gs T N) (hk : kq a = 8) :
    Calls Tryz.prog 6 #[PT t, tv T lv gv, av a] w fun e w' => actP w t F lv gv ds T N e w' := by
  obtain ⟨la, lc, ga, gc, rfl, rfl⟩ := h.dt.form
  obtain ⟨n, hn⟩ : ∃ n, n = ds.length := ⟨_, rfl⟩
  obtain ⟨gn, hgn⟩ : ∃ gn, gn = gs.length := ⟨_, rfl⟩
  have HB : Hid (Bo w t F (.slice la n lc) (.slice ga gn gc) ds gs T N) := hid (by rw [hn, hgn]; exact h)
  have hnl := HB.out.dg.len
  have hFl := HB.out.tq.lt
  obtain ⟨V, hV⟩ : ∃ V, V = ((w.alloc (.cells #[.int .i64 T.fl, .int .i64 T.bg, .slice la n lc, .slice ga gn gc] 31)).alloc (.cells #[.int .i64 a.kd, .int .i64 a.rn, .int .i64 a.cl, .bool a.rf, .int .u16 a.k.1, .string a.k.2, .int .i64 a.o.1, .int .i64 a.o.2.1, .int .i64 a.o.2.2.1, .int .i64 a.o.2.2.2] 40)).alloc (.cells #[.int .i64 0, .int .i64 0, .slice none 0 0, .slice none 0 0] 31) := ⟨_, rfl⟩
  have T0 : Touch [] w V := by rw [hV]; exact (((Touch.refl _ _).alloc _).alloc _).alloc _
  have HTc : Hid (Touch F w V) := T0.mono (fun _ e => by cases e)
  have HV0 := hid T0
  have kT : V.heap[w.heap.size]? = some (.cells #[.int .i64 T.fl, .int .i64 T.bg, .slice la n lc, .slice ga gn gc] 31 (0, 0)) := by rw [hV]; exact (Below.heap_alloc _ _ _ (by simp; omega)).trans ((Below.heap_alloc _ _ _ (by simp)).trans (heap_alloc_new w _))
  have kA : V.heap[w.heap.size + 1]? = some (.cells #[.int .i64 a.kd, .int .i64 a.rn, .int .i64 a.cl, .bool a.rf, .int .u16 a.k.1, .string a.k.2, .int .i64 a.o.1, .int .i64 a.o.2.1, .int .i64 a.o.2.2.1, .int .i64 a.o.2.2.2] 40 (0, 0)) := by
    rw [hV]
    have := heap_alloc_new (w.alloc (.cells #[.int .i64 T.fl, .int .i64 T.bg, .slice la n lc, .slice ga gn gc] 31)) (.cells #[.int .i64 a.kd, .int .i64 a.rn, .int .i64 a.cl, .bool a.rf, .int .u16 a.k.1, .string a.k.2, .int .i64 a.o.1, .int .i64 a.o.2.1, .int .i64 a.o.2.2.1, .int .i64 a.o.2.2.2] 40)
    rw [World.size_alloc] at this
    exact (Below.heap_alloc _ _ _ (by simp)).trans this
  have kZ : V.heap[w.heap.size + 1 + 1]? = some (.cells #[.int .i64 0, .int .i64 0, .slice none 0 0, .slice none 0 0] 31 (0, 0)) := by
    rw [hV]
    have := heap_alloc_new ((w.alloc (.cells #[.int .i64 T.fl, .int .i64 T.bg, .slice la n lc, .slice ga gn gc] 31)).alloc (.cells #[.int .i64 a.kd, .int .i64 a.rn, .int .i64 a.cl, .bool a.rf, .int .u16 a.k.1, .string a.k.2, .int .i64 a.o.1, .int .i64 a.o.2.1, .int .i64 a.o.2.2.1, .int .i64 a.o.2.2.2] 40)) (.cells #[.int .i64 0, .int .i64 0, .slice none 0 0, .slice none 0 0] 31)
    rwa [World.size_alloc, World.size_alloc] at this
  have HN := hid hn
  have HFl := hid hFl
  have zn : (n : Int) ≤ 4096 := by omega
  unfold tv av
  rw [← hn, ← hgn]
  obtain ⟨Q, hQ⟩ : ∃ Q : Ending → World → Prop, Q = fun e w' => actP w t F (.slice la n lc) (.slice ga gn gc) ds T N e w' := ⟨_, rfl⟩
  have HQ : Hid (∀ e w', actP w t F (.slice la n lc) (.slice ga gn gc) ds T N e w' → Q e w') := hid (by rw [hQ]; exact fun e w' hh => hh)
  rw [← hQ]
  have HSz : Hid (V.heap.size = w.heap.size + 3) := hid (by rw [hV]; simp)
  have HBv := hid (HB.out.init T0)
  clear hQ h hFl
  have hN0 := HB.out.hN
  have HC : Hid (Calls Tryz.prog 20 #[PT t] V fun e w1 => ∃ b, e = .returned (PT b) ∧ Fc V w1 b T N) := hid ((cloneT V t F T N (HB.out.tq.keep0 T0) hN0).mono (fun e w1 q => by
    obtain ⟨b, F', q1, q2, q3, q4⟩ := q
    exact ⟨b, q1, ⟨F', q2, q4⟩, q3⟩))
  have HS : Hid (∀ w1 b, Fc V w1 b T N → Calls Tryz.prog 7 #[PT b, .agg #[.int .i64 T.fl, .int .i64 T.bg, .slice la n lc, .slice ga gn gc], .agg #[.int .i64 a.kd, .int .i64 a.rn, .int .i64 a.cl, .bool a.rf, .int .u16 a.k.1, .string a.k.2, .int .i64 a.o.1, .int .i64 a.o.2.1, .int .i64 a.o.2.2.1, .int .i64 a.o.2.2.2]] w1 fun e w2 => e = .returned (.bool true) ∧ Fc V w2 b T N) := hid (fun w1 b hF => by
    obtain ⟨⟨Fk, q1, q2⟩, q3⟩ := hF
    have X := T0.trans' q3
    have hBo : Bo w1 b Fk (.slice la n lc) (.slice ga gn gc) ds gs T N := ⟨q1, HB.out.dt.keep0 X, fun d hd hd' => by have := HB.out.dt.lt d hd; have := q2 d hd'; have := T0.size; omega, HB.out.gl, hN0⟩
    exact (stands_ w1 b Fk _ _ ds gs T N a hw hBo).mono (fun e w2 q => ⟨q.1, ⟨Fk, q1.keep0 q.2, q2⟩, q3.trans' q.2⟩))
  have HBg : Hid (∀ w1 b, Fc V w1 b T N → Calls Tryz.prog 8 #[PT b, .agg #[.int .u16 a.k.1, .string a.k.2], .int .i64 77, .bool false] w1 fun e w2 => ∃ x1 x2, e = .returned (.tuple #[.int .i64 x1, .int .i64 x2]) ∧ Fc V w2 b (tBeg T a.k 77 false) (N + 1)) := hid (fun w1 b hF => by
    obtain ⟨⟨Fk, q1, q2⟩, q3⟩ := hF
    exact (beginT w1 b Fk T N q1 (by omega) a.k hw.2.2.2.1 77 (W64.mk (by omega) (by omega)) false).mono (fun e w2 q => ⟨_, _, q.1, Fc.step (T := T) (N := N) q3 q2 q.2⟩))
  have HFg : Hid (∀ w1 b, Fc V w1 b (tBeg T a.k 77 false) (N + 1) → Calls Tryz.prog 16 #[PT b, .agg #[.int .u16 a.k.1, .string a.k.2]] w1 fun e w2 => ∃ x1 x2 x3, e = .returned (.tuple #[.int .i64 x1, .int .i64 x2, .int .i64 x3]) ∧ Fc V w2 b (tFor (tBeg T a.k 77 false) a.k) (N + 1 + 1)) := hid (fun w1 b hF => by
    obtain ⟨⟨Fk, q1, q2⟩, q3⟩ := hF
    exact (forgetT w1 b Fk _ (N + 1) q1 (by omega) a.k hw.2.2.2.1).mono (fun e w2 q => ⟨_, _, _, q.1, Fc.step (T := T) (N := N) q3 q2 q.2⟩))
  have HLv : Hid (∀ w1 b, Fc V w1 b (tFor (tBeg T a.k 77 false) a.k) (N + 1 + 1) → Calls Tryz.prog 12 #[PT b, .int .i64 a.rn, .int .i64 a.cl] w1 fun e w2 => ∃ x1 x2 x3, e = .returned (.tuple #[.agg #[.bool x1, .bool x2], .int .i64 x3]) ∧ Fc V w2 b (tLeave (tFor (tBeg T a.k 77 false) a.k) a.rn a.cl) (N + 1 + 1 + 1)) := hid (fun w1 b hF => by
    obtain ⟨⟨Fk, q1, q2⟩, q3⟩ := hF
    exact (leaveT w1 b Fk _ (N + 1 + 1) q1 (by omega) a.rn a.cl hw.2.1 hw.2.2.1).mono (fun e w2 q => ⟨_, _, _, q.1, Fc.step (T := T) (N := N) q3 q2 q.2⟩))
  have HEn : Hid (∀ w1 b, Fc V w1 b (tLeave (tFor (tBeg T a.k 77 false) a.k) a.rn a.cl) (N + 1 + 1 + 1) → Calls Tryz.prog 21 #[PT b, .int .i64 a.rn, .agg #[.int .i64 0, .int .i64 0, .int .i64 0, .int .i64 0]] w1 fun e w2 => (∃ v, e = .returned v) ∧ Touch [] V w2) := hid (fun w1 b hF => by
    obtain ⟨⟨Fk, q1, q2⟩, q3⟩ := hF
    exact (endT w1 b Fk _ (N + 1 + 1 + 1) q1 (by omega) a.rn (0, 0, 0, 0) hw.2.1).mono (fun e w2 q => by
      obtain ⟨v, r1, r2, r3⟩ := q
      exact ⟨⟨_, r1⟩, (Fc.step (T := T) (N := N) q3 q2 r3).2⟩))
  have HE : Hid (∀ w1 w', Touch [] V w1 → Touch [w.heap.size + 1 + 1] w1 w' → Q (.returned (.tuple #[.agg #[.int .i64 T.fl, .int .i64 T.bg, .slice la n lc, .slice ga gn gc], .bool true])) w') := hid (fun w1 w' X Y => HQ.out _ _ ⟨.slice la n lc, .slice ga gn gc, gs, rfl, (((HB.out.init T0).then0 X).box Y (by omega) (by have := HSz.out; omega)).fin HB.out.gl hN0⟩)
  clear HB HQ hn hgn T0 hw hN0 HBv
  generalize T.fl = fl at *
  generalize T.bg = bg at *
  have HKV := hid (And.intro kT (And.intro kA kZ))
  have HKc := hid (And.intro kT (And.intro kA kZ))
  have a0 := cell_at (j := 0) kT rfl
  have a1 := cell_at (j := 1) kT rfl
  have a2 := cell_at (j := 2) kT rfl
  have a3 := cell_at (j := 3) kT rfl
  have af := froz_at kT
  have y0 := cell_at (j := 0) kA rfl
  have y1 := cell_at (j := 1) kA rfl
  have y2 := cell_at (j := 2) kA rfl
  have y3 := cell_at (j := 3) kA rfl
  have y4 := cell_at (j := 4) kA rfl
  have y5 := cell_at (j := 5) kA rfl
  have y6 := cell_at (j := 6) kA rfl
  have y7 := cell_at (j := 7) kA rfl
  have y8 := cell_at (j := 8) kA rfl
  have y9 := cell_at (j := 9) kA rfl
  have yf := froz_at kA
  have z0 := cell_at (j := 0) kZ rfl
  have z1 := cell_at (j := 1) kZ rfl
  have z2 := cell_at (j := 2) kZ rfl
  have z3 := cell_at (j := 3) kZ rfl
  have zf := froz_at kZ
  clear kT kA kZ
  unfold PT at HC HS HBg HFg HLv HEn ⊢
  go_enter Tryz.func6, Tryz.ntmps6
  go_upto_region 1 with fail
  rw [← hV]
  clear hV
  go_upto_block 0 with fail
  rw [show (wrap64 (a.kd.tmod 9 + 9)).tmod 9 = kq a from rfl, hk]
  clear hk
  clear HKc
  go_wp2_with (first | (go_at_call 20; refine (HC.out).mono ?_; rintro e w1 ⟨b, rfl, f1q⟩; clear a0 a1 a2 a3 af y0 y1 y2 y3 y4 y5 y6 y7 y8 y9 yf z0 z1 z2 z3 zf; have kT := f1q.2.keep HKV.out.1 (by simp); have kA := f1q.2.keep HKV.out.2.1 (by simp); have kZ := f1q.2.keep HKV.out.2.2 (by simp); have a0 := cell_at (j := 0) kT rfl; have a1 := cell_at (j := 1) kT rfl; have a2 := cell_at (j := 2) kT rfl; have a3 := cell_at (j := 3) kT rfl; have af := froz_at kT; have y0 := cell_at (j := 0) kA rfl; have y1 := cell_at (j := 1) kA rfl; have y2 := cell_at (j := 2) kA rfl; have y3 := cell_at (j := 3) kA rfl; have y4 := cell_at (j := 4) kA rfl; have y5 := cell_at (j := 5) kA rfl; have y6 := cell_at (j := 6) kA rfl; have y7 := cell_at (j := 7) kA rfl; have y8 := cell_at (j := 8) kA rfl; have y9 := cell_at (j := 9) kA rfl; have yf := froz_at kA; have z0 := cell_at (j := 0) kZ rfl; have z1 := cell_at (j := 1) kZ rfl; have z2 := cell_at (j := 2) kZ rfl; have z3 := cell_at (j := 3) kZ rfl; have zf := froz_at kZ; clear kT kA kZ; have F1 := hid f1q; clear f1q) | (go_at_call 7; refine (HS.out _ _ F1.out).mono ?_; rintro e w2 ⟨rfl, f2q⟩; clear a0 a1 a2 a3 af y0 y1 y2 y3 y4 y5 y6 y7 y8 y9 yf z0 z1 z2 z3 zf; have kT := f2q.2.keep HKV.out.1 (by simp); have kA := f2q.2.keep HKV.out.2.1 (by simp); have kZ := f2q.2.keep HKV.out.2.2 (by simp); have a0 := cell_at (j := 0) kT rfl; have a1 := cell_at (j := 1) kT rfl; have a2 := cell_at (j := 2) kT rfl; have a3 := cell_at (j := 3) kT rfl; have af := froz_at kT; have y0 := cell_at (j := 0) kA rfl; have y1 := cell_at (j := 1) kA rfl; have y2 := cell_at (j := 2) kA rfl; have y3 := cell_at (j := 3) kA rfl; have y4 := cell_at (j := 4) kA rfl; have y5 := cell_at (j := 5) kA rfl; have y6 := cell_at (j := 6) kA rfl; have y7 := cell_at (j := 7) kA rfl; have y8 := cell_at (j := 8) kA rfl; have y9 := cell_at (j := 9) kA rfl; have yf := froz_at kA; have z0 := cell_at (j := 0) kZ rfl; have z1 := cell_at (j := 1) kZ rfl; have z2 := cell_at (j := 2) kZ rfl; have z3 := cell_at (j := 3) kZ rfl; have zf := froz_at kZ; clear kT kA kZ; have F2 := hid f2q; clear f2q; clear F1) | (go_at_call 8; refine (HBg.out _ _ F2.out).mono ?_; rintro e w3 ⟨x1, x2, rfl, f3q⟩; clear a0 a1 a2 a3 af y0 y1 y2 y3 y4 y5 y6 y7 y8 y9 yf z0 z1 z2 z3 zf; have kT := f3q.2.keep HKV.out.1 (by simp); have kA := f3q.2.keep HKV.out.2.1 (by simp); have kZ := f3q.2.keep HKV.out.2.2 (by simp); have a0 := cell_at (j := 0) kT rfl; have a1 := cell_at (j := 1) kT rfl; have a2 := cell_at (j := 2) kT rfl; have a3 := cell_at (j := 3) kT rfl; have af := froz_at kT; have y0 := cell_at (j := 0) kA rfl; have y1 := cell_at (j := 1) kA rfl; have y2 := cell_at (j := 2) kA rfl; have y3 := cell_at (j := 3) kA rfl; have y4 := cell_at (j := 4) kA rfl; have y5 := cell_at (j := 5) kA rfl; have y6 := cell_at (j := 6) kA rfl; have y7 := cell_at (j := 7) kA rfl; have y8 := cell_at (j := 8) kA rfl; have y9 := cell_at (j := 9) kA rfl; have yf := froz_at kA; have z0 := cell_at (j := 0) kZ rfl; have z1 := cell_at (j := 1) kZ rfl; have z2 := cell_at (j := 2) kZ rfl; have z3 := cell_at (j := 3) kZ rfl; have zf := froz_at kZ; clear kT kA kZ; have F3 := hid f3q; clear f3q; clear F2) | (go_at_call 16; refine (HFg.out _ _ F3.out).mono ?_; rintro e w4 ⟨x3, x4, x5, rfl, f4q⟩; clear a0 a1 a2 a3 af y0 y1 y2 y3 y4 y5 y6 y7 y8 y9 yf z0 z1 z2 z3 zf; have kT := f4q.2.keep HKV.out.1 (by simp); have kA := f4q.2.keep HKV.out.2.1 (by simp); have kZ := f4q.2.keep HKV.out.2.2 (by simp); have a0 := cell_at (j := 0) kT rfl; have a1 := cell_at (j := 1) kT rfl; have a2 := cell_at (j := 2) kT rfl; have a3 := cell_at (j := 3) kT rfl; have af := froz_at kT; have y0 := cell_at (j := 0) kA rfl; have y1 := cell_at (j := 1) kA rfl; have y2 := cell_at (j := 2) kA rfl; have y3 := cell_at (j := 3) kA rfl; have y4 := cell_at (j := 4) kA rfl; have y5 := cell_at (j := 5) kA rfl; have y6 := cell_at (j := 6) kA rfl; have y7 := cell_at (j := 7) kA rfl; have y8 := cell_at (j := 8) kA rfl; have y9 := cell_at (j := 9) kA rfl; have yf := froz_at kA; have z0 := cell_at (j := 0) kZ rfl; have z1 := cell_at (j := 1) kZ rfl; have z2 := cell_at (j := 2) kZ rfl; have z3 := cell_at (j := 3) kZ rfl; have zf := froz_at kZ; clear kT kA kZ; have F4 := hid f4q; clear f4q; clear F3) | (go_at_call 12; refine (HLv.out _ _ F4.out).mono ?_; rintro e w5 ⟨x6, x7, x8, rfl, f5q⟩; clear a0 a1 a2 a3 af y0 y1 y2 y3 y4 y5 y6 y7 y8 y9 yf z0 z1 z2 z3 zf; have kT := f5q.2.keep HKV.out.1 (by simp); have kA := f5q.2.keep HKV.out.2.1 (by simp); have kZ := f5q.2.keep HKV.out.2.2 (by simp); have a0 := cell_at (j := 0) kT rfl; have a1 := cell_at (j := 1) kT rfl; have a2 := cell_at (j := 2) kT rfl; have a3 := cell_at (j := 3) kT rfl; have af := froz_at kT; have y0 := cell_at (j := 0) kA rfl; have y1 := cell_at (j := 1) kA rfl; have y2 := cell_at (j := 2) kA rfl; have y3 := cell_at (j := 3) kA rfl; have y4 := cell_at (j := 4) kA rfl; have y5 := cell_at (j := 5) kA rfl; have y6 := cell_at (j := 6) kA rfl; have y7 := cell_at (j := 7) kA rfl; have y8 := cell_at (j := 8) kA rfl; have y9 := cell_at (j := 9) kA rfl; have yf := froz_at kA; have z0 := cell_at (j := 0) kZ rfl; have z1 := cell_at (j := 1) kZ rfl; have z2 := cell_at (j := 2) kZ rfl; have z3 := cell_at (j := 3) kZ rfl; have zf := froz_at kZ; clear kT kA kZ; have F5 := hid f5q; clear f5q; clear F4) | (go_at_call 21; refine (HEn.out _ _ F5.out).mono ?_; rintro e w6 ⟨⟨v6, rfl⟩, t6q⟩; clear a0 a1 a2 a3 af y0 y1 y2 y3 y4 y5 y6 y7 y8 y9 yf z0 z1 z2 z3 zf; have kT := t6q.keep HKV.out.1 (by simp); have kA := t6q.keep HKV.out.2.1 (by simp); have kZ := t6q.keep HKV.out.2.2 (by simp); have a0 := cell_at (j := 0) kT rfl; have a1 := cell_at (j := 1) kT rfl; have a2 := cell_at (j := 2) kT rfl; have a3 := cell_at (j := 3) kT rfl; have af := froz_at kT; have y0 := cell_at (j := 0) kA rfl; have y1 := cell_at (j := 1) kA rfl; have y2 := cell_at (j := 2) kA rfl; have y3 := cell_at (j := 3) kA rfl; have y4 := cell_at (j := 4) kA rfl; have y5 := cell_at (j := 5) kA rfl; have y6 := cell_at (j := 6) kA rfl; have y7 := cell_at (j := 7) kA rfl; have y8 := cell_at (j := 8) kA rfl; have y9 := cell_at (j := 9) kA rfl; have yf := froz_at kA; have z0 := cell_at (j := 0) kZ rfl; have z1 := cell_at (j := 1) kZ rfl; have z2 := cell_at (j := 2) kZ rfl; have z3 := cell_at (j := 3) kZ rfl; have zf := froz_at kZ; clear kT kA kZ; have T6 := hid t6q; clear t6q F5))
  have kz := T6.out.keep HKV.out.2.2 (by simp)
  obtain ⟨q4, tF⟩ := finZ kz (.int .i64 fl) (.int .i64 bg) (.slice la n lc) (.slice ga gn gc)
  have q0 := cell_at (j := 0) q4 rfl
  have q1 := cell_at (j := 1) q4 rfl
  have q2 := cell_at (j := 2) q4 rfl
  have q3 := cell_at (j := 3) q4 rfl
  exact bodyPost_ret (v := .tuple #[.agg #[.int .i64 fl, .int .i64 bg, .slice la n lc, .slice ga gn gc], .bool true]) (by simp [results, Tryz.results6, go_sem, q0, q1, q2, q3]) rfl (HE.out _ _ T6.out tF)
end Go.Proofs.YtpihhlllembdeaaGreat
/- The law's act, whatever its kind. -/
namespace Go.Proofs.YtpihhlllembdeaaGreat
open Go.RowKit Go.Maps Go.ChangeMaps
set_option linter.unusedVariables false
theorem BoE.up {w w' : World} {t : Nat} {F : List Nat} {lv gv lv' gv' : Value} {ds : List De} {gs' : List (K × Int)} {T : Tb} {N : Nat} (h : BoE w w' t F lv gv ds lv' gv' gs' T N) (hN : N + 1 ≤ 1700000000000) : BoE w w' t F lv gv ds lv' gv' gs' T (N + 1) := by
  obtain ⟨F', ds', b, r⟩ := h
  exact ⟨F', ds', ⟨b.tq.mono (Nat.le_succ N), b.dt, b.ap, Nat.le_succ_of_le b.gl, hN⟩, r⟩
theorem actP.up {w w' : World} {t : Nat} {F : List Nat} {lv gv : Value} {ds : List De} {T : Tb} {N : Nat} {e : Ending} (h : actP w t F lv gv ds T N e w') (hN : N + 1 ≤ 1700000000000) : actP w t F lv gv ds T (N + 1) e w' := by
  obtain ⟨lv', gv', gs', he, hb⟩ := h
  exact ⟨lv', gv', gs', he, hb.up hN⟩
theorem kq_range (a : ActT) : 0 ≤ kq a ∧ kq a ≤ 8 := by
  unfold kq
  have h1 := Int.tmod_lt_of_pos a.kd (show (0 : Int) < 9 by decide)
  have h2 := Int.lt_tmod_of_pos a.kd (show (0 : Int) < 9 by decide)
  have e : wrap64 (a.kd.tmod 9 + 9) = a.kd.tmod 9 + 9 := by unfold wrap64; omega
  rw [e]
  have h3 := Int.tmod_lt_of_pos (a.kd.tmod 9 + 9) (show (0 : Int) < 9 by decide)
  have h4 := Int.tmod_nonneg 9 (show (0 : Int) ≤ a.kd.tmod 9 + 9 by omega)
  omega
theorem act_ (w : World) (t : Nat) (F : List Nat) (lv gv : Value) (ds : List De) (gs : List (K × Int)) (T : Tb) (N : Nat) (a : ActT) (hw : WfA a) (h : Bo w t F lv gv ds gs T N) (hN1 : N + 1 ≤ 1700000000000) :
    Calls Tryz.prog 6 #[PT t, tv T lv gv, av a] w fun e w' => ∃ T', actP w t F lv gv ds T' (N + 1) e w' := by
  have hr := kq_range a
  rcases (by omega : kq a = 0 ∨ kq a = 1 ∨ kq a = 2 ∨ kq a = 3 ∨ kq a = 4 ∨ kq a = 5 ∨ kq a = 6 ∨ kq a = 7 ∨ kq a = 8) with hk | hk | hk | hk | hk | hk | hk | hk | hk
  · exact (act_beg0 w t F lv gv ds gs T N a hw h hN1 hk).mono (fun e w' q => ⟨_, q⟩)
  · exact (act_beg1 w t F lv gv ds gs T N a hw h hN1 hk).mono (fun e w' q => ⟨_, q⟩)
  · exact (act_join w t F lv gv ds gs T N a hw h hN1 hk).mono (fun e w' q => ⟨_, q⟩)
  · exact (act_leave w t F lv gv ds gs T N a hw h hN1 (Or.inl hk)).mono (fun e w' q => ⟨_, q⟩)
  · exact (act_leave w t F lv gv ds gs T N a hw h hN1 (Or.inr hk)).mono (fun e w' q => ⟨_, q⟩)
  · exact (act_rel w t F lv gv ds gs T N a hw h hN1 hk).mono (fun e w' q => ⟨_, q⟩)
  · exact (act_for w t F lv gv ds gs T N a hw h hN1 hk).mono (fun e w' q => ⟨_, q⟩)
  · exact (act_end w t F lv gv ds gs T N a hw h hk).mono (fun e w' q => ⟨_, q.up hN1⟩)
  · exact (act_clone w t F lv gv ds gs T N a hw h hk).mono (fun e w' q => ⟨_, q.up hN1⟩)
end Go.Proofs.YtpihhlllembdeaaGreat
/- The contract of New, and that a run is begun. -/
namespace Go.Proofs.YtpihhlllembdeaaGreat
open Go.RowKit Go.Maps Go.ChangeMaps
set_option linter.unusedVariables false
set_option linter.unusedSimpArgs false
def T0 (f : Int) : Tb := ⟨f, 0, [], fun _ => 0⟩
def mayF' (f : Int) : Bool := decide (1 ≤ f) && decide (f ≤ 4096)
theorem tm_new (w : World) {f : Int} (h1 : 1 ≤ f) (h2 : f ≤ 4096) : Tm (((w.alloc (.map #[] 0)).alloc (.map #[] 0)).alloc (.cells #[.int .i64 f, .int .i64 0, .map (some w.heap.size), .map (some (w.heap.size + 1)), .map none] 48)) (w.heap.size + 1 + 1) w.heap.size (w.heap.size + 1) none 0 0 [] (T0 f) 0 := by
  refine ⟨rfl, ?_, ?_, ?_, Or.inl ⟨rfl, fun _ => rfl⟩, by omega, by simp, by simp, Nat.le_refl _, Nat.le_refl _, fun q hq => (by cases hq), fun q hq => (by cases hq), List.Pairwise.nil, tv_new h1 h2⟩
  · have := heap_alloc_new ((w.alloc (.map #[] 0)).alloc (.map #[] 0)) (.cells #[.int .i64 f, .int .i64 0, .map (some w.heap.size), .map (some (w.heap.size + 1)), .map none] 48)
    simp only [World.size_alloc] at this
    exact this
  · refine MapK.congr (f := fun _ => none) ?_ (fun n _ => rfl)
    exact ((mapK_made KI w).keep (((Touch.refl [] _).alloc _).alloc _) (by simp))
  · refine MapK.congr (f := fun _ => none) ?_ (fun n _ => rfl)
    have := (mapK_made KC (w.alloc (.map #[] 0))).keep ((Touch.refl [] _).alloc (.cells #[.int .i64 f, .int .i64 0, .map (some w.heap.size), .map (some (w.heap.size + 1)), .map none] 48)) (by simp)
    rw [World.size_alloc] at this
    exact this
section
variable (w : World)
def TnE (e : Ending) (w w' : World) (f : Int) : Prop := ∃ t F, e = .returned (.tuple #[PT t, .int .i64 0]) ∧ Tq w' t F (T0 f) 0 ∧ Touch [] w w' ∧ ∀ d, d ∈ F → w.heap.size ≤ d
theorem newT_no (f : Int) (h : mayF' f = false) : Calls Tryz.prog 4 #[.int .i64 f] w fun e w' => e = .returned (.tuple #[.pointer none, .int .i64 1]) ∧ w' = w := by
  unfold mayF' at h
  by_cases h1 : f < 1
  · clear h
    go_enter Tryz.func4, Tryz.ntmps4
    go_wp2
    exact bodyPost_ret (v := .tuple #[.pointer none, .int .i64 1]) (by simp [results, Tryz.results4, go_sem]) rfl ⟨rfl, rfl⟩
  · have h2 : 4096 < f := by
      simp at h
      exact h (by omega)
    clear h
    go_enter Tryz.func4, Tryz.ntmps4
    go_wp2
    exact bodyPost_ret (v := .tuple #[.pointer none, .int .i64 1]) (by simp [results, Tryz.results4, go_sem]) rfl ⟨rfl, rfl⟩
theorem newT_ok (f : Int) (h : mayF' f = true) : Calls Tryz.prog 4 #[.int .i64 f] w fun e w' => TnE e w w' f := by
  unfold mayF' at h
  simp only [Bool.and_eq_true, decide_eq_true_eq] at h
  obtain ⟨h1, h2⟩ := h
  have HX : Hid (TnE (.returned (.tuple #[PT (w.heap.size + 1 + 1), .int .i64 0])) w (((w.alloc (.map #[] 0)).alloc (.map #[] 0)).alloc (.cells #[.int .i64 f, .int .i64 0, .map (some w.heap.size), .map (some (w.heap.size + 1)), .map none] 48)) f) :=
    ⟨_, _, rfl, ⟨_, _, _, _, _, _, rfl, tm_new w h1 h2, fun p hp => (by cases hp)⟩, (((Touch.refl _ _).alloc _).alloc _).alloc _, fun d hd => by
      rcases mem_fpT.1 hd with e | e | e | e | ⟨q, hq, _⟩
      · omega
      · omega
      · omega
      · cases e
      · cases hq⟩
  unfold PT at HX
  have hmm := @run_makeMap Tryz.prog
  have g1 : (f < 1) = False := by simp; omega
  have g2 : (4096 < f) = False := by simp; omega
  clear h1 h2
  go_enter Tryz.func4, Tryz.ntmps4
  go_wp2
  exact bodyPost_ret (v := .tuple #[.pointer (some ⟨w.heap.size + 1 + 1, 0, none⟩), .int .i64 0]) (by simp [results, Tryz.results4, go_sem]) rfl HX.out
def kA : K := (0, ⟨#[97]⟩)
theorem okA : Ok kA := ⟨rfl, by unfold maxLen; decide⟩
theorem begA : tBegE (T0 2) kA 5 false = 0 := by
  have : curOf (T0 2) kA = none := rfl
  unfold tBegE mayK badC
  rw [this]
  simp [kA, T0]
  decide
theorem curA : curOf (tBeg (T0 2) kA 5 false) kA = some (tBegR (T0 2) kA false) := by
  unfold tBeg
  rw [if_pos begA]
  have := curOf_app (T := T0 2) { T0 2 with bg := (T0 2).bg + 1, rs := (T0 2).rs ++ [(tBegR (T0 2) kA false, S0 (tBegR (T0 2) kA false) 5)] } (tBegR (T0 2) kA false) (S0 (tBegR (T0 2) kA false) 5) rfl rfl rfl rfl kA
  rw [this]
  simp [tBegR, kOf, kA]
set_option maxHeartbeats 2000000 in
theorem awakeT : Calls Tryz.prog 5 #[] w fun e w' => e = .returned (.bool true) ∧ Touch [] w w' := by
  have HN := hid (newT_ok w 2 rfl)
  have HB : Hid (∀ w1 t F, Touch [] w w1 → (∀ d, d ∈ F → w.heap.size ≤ d) → Tq w1 t F (T0 2) 0 → Calls Tryz.prog 8 #[PT t, kv kA, .int .i64 5, .bool false] w1 fun e w2 => e = .returned (.tuple #[.int .i64 1, .int .i64 0]) ∧ ∃ F2, Tq w2 t F2 (tBeg (T0 2) kA 5 false) 1 ∧ Touch [] w w2 ∧ ∀ d, d ∈ F2 → w.heap.size ≤ d) := fun w1 t F T1 hF h => by
    refine (beginT w1 t F (T0 2) 0 h (by omega) kA okA 5 (W64.mk (by omega) (by omega)) false).mono ?_
    rintro e w2 ⟨rfl, F2, q1, q2, q3⟩
    have en : tBegN (T0 2) kA 5 false = 1 := by unfold tBegN; rw [if_pos begA]; rfl
    rw [en, begA]
    have hz := T1.size
    refine ⟨rfl, F2, q1, T1.trans q2 (fun i hi => Or.inr (hF i hi)), fun d hd => ?_⟩
    rcases q3 d hd with e | e
    · exact hF d e
    · omega
  have HC : Hid (∀ w2 t F2, Tq w2 t F2 (tBeg (T0 2) kA 5 false) 1 → Touch [] w w2 → Calls Tryz.prog 9 #[PT t, kv kA] w2 fun e w3 => e = .returned (.tuple #[.int .i64 1, .bool true]) ∧ Touch [] w w3) := fun w2 t F2 h T2 => by
    refine (currentT w2 t F2 _ 1 h kA okA).mono ?_
    rintro e w3 ⟨rfl, t3⟩
    rw [curA]
    exact ⟨rfl, T2.trans' t3⟩
  unfold TnE at HN
  unfold kv kA PT at *
  go_enter Tryz.func5, Tryz.ntmps5
  go_wp2_with (first
    | (go_at_call 4; refine HN.out.mono ?_; rintro e w2 ⟨t, F, rfl, r1, r2, r3⟩; have HX := hid (HB.out w2 t F r2 r3 r1); clear r1 r2 r3)
    | (go_at_call 8; refine HX.out.mono ?_; rintro e w3 ⟨rfl, F2, r1, r2, r3⟩; have HY := hid (HC.out w3 t F2 r1 r2); clear r1 r2 r3)
    | (go_at_call 9; refine HY.out.mono ?_; rintro e w4 ⟨rfl, t4⟩; have T4 := hid t4; clear t4))
  go_ret
  exact ⟨by simp, T4.out⟩
end
end Go.Proofs.YtpihhlllembdeaaGreat
/- Of every flight and list of acts: the table answers as the document's: the walk of the law TablePlays; the list's length is within the form's reach. -/
namespace Go.Proofs.YtpihhlllembdeaaGreat
open Go.RowKit Go.Maps Go.ChangeMaps
set_option linter.unusedVariables false
set_option linter.unusedSimpArgs false
set_option maxHeartbeats 4000000 in
set_option maxRecDepth 100000 in
theorem lawPlays_no (w : World) (f : Int) (v : Value) (a : Option Addr) (A c : Nat) (hv : v = .slice a A c) (hf : mayF' f = false) : Calls Tryz.prog 3 #[.int .i64 f, v] w fun e w' => e = .returned (.bool true) ∧ Touch [] w w' := by
  subst hv
  have HN := hid (fun w => newT_no w f hf)
  have hf' : decide (f < 1) = true ∨ (decide (f < 1) = false ∧ decide (4096 < f) = true) := by
    unfold mayF' at hf
    by_cases h1 : f < 1
    · exact Or.inl (by simp [h1])
    · refine Or.inr ⟨by simp [h1], ?_⟩
      simp at hf
      simp
      exact hf (by omega)
  clear hf
  rcases hf' with h1 | ⟨h1, h2⟩
  · go_enter Tryz.func3, Tryz.ntmps3
    go_wp2_with (first | (go_at_call 4; refine (HN.out _).mono ?_; rintro e w1 ⟨rfl, rfl⟩) | (go_at_call 5; refine (awakeT _).mono ?_; rintro e w2 ⟨rfl, t2⟩; have T2 := hid t2; clear t2))
    go_ret
    exact ⟨rfl, T2.out⟩
  · go_enter Tryz.func3, Tryz.ntmps3
    go_wp2_with (first | (go_at_call 4; refine (HN.out _).mono ?_; rintro e w1 ⟨rfl, rfl⟩) | (go_at_call 5; refine (awakeT _).mono ?_; rintro e w2 ⟨rfl, t2⟩; have T2 := hid t2; clear t2))
    go_ret
    exact ⟨rfl, T2.out⟩
/-- What stands between two rounds. -/
def PlI (w : World) (t b N : Nat) (wr : World) : Prop := ∃ F lv gv ds gs T, Bo wr t F lv gv ds gs T N ∧ wr.heap[b]? = some (.cells #[.int .i64 T.fl, .int .i64 T.bg, lv, gv] 31 (0, 0)) ∧ ¬ b ∈ F ∧ ¬ b ∈ fpD lv gv ds ∧ (∀ d, d ∈ F → w.heap.size ≤ d) ∧ Touch [] w wr ∧ w.heap.size ≤ b
theorem bo_new {w : World} {t : Nat} {F : List Nat} {f : Int} (h : Tq w t F (T0 f) 0) : Bo w t F (.slice none 0 0) (.slice none 0 0) [] [] (T0 f) 0 :=
  ⟨h, ⟨rfl, World.ownsRow_nil _ _ _ _, fun d hd => (by cases hd), World.ownsRow_nil _ _ _ _, fun k => rfl⟩, fun b hb => (by simp [fpD, Value.ownBlock] at hb), Nat.le_refl _, by omega⟩
set_option maxHeartbeats 8000000 in
set_option maxRecDepth 100000 in
theorem lawPlays_ok (w : World) (f : Int) (xs : List ActT) (v : Value) (hf : mayF' f = true) (hv : SlM w v xs) (hw : ∀ a ∈ xs, WfA a) (hL : xs.length ≤ 1599289640354) : Calls Tryz.prog 3 #[.int .i64 f, v] w fun e w' => e = .returned (.bool true) ∧ Touch [] w w' := by
  obtain ⟨avv, cv, rfl⟩ : ∃ av cv, v = .slice av xs.length cv := by
    rcases hv with ⟨rfl, a, c, rfl⟩ | ⟨b, off, cap, rfl, _⟩
    · exact ⟨a, c, rfl⟩
    · exact ⟨_, _, rfl⟩
  have HRow : Hid (xs.length = 0 ∨ ∃ b off, avv = some ⟨b, off, none⟩ ∧ RowM w b off xs) := by
    rcases hv with ⟨rfl, _⟩ | ⟨b, off, cap, e, r⟩
    · exact Or.inl rfl
    · simp only [Value.slice.injEq] at e
      exact Or.inr ⟨b, off, e.1, r⟩
  obtain ⟨A, hA⟩ : ∃ A, A = xs.length := ⟨_, rfl⟩
  have HAx := hid hA
  have HWf := hid hw
  rw [← hA] at HRow hL ⊢
  have HLe := hid hL
  have HN := hid (fun w => newT_ok w f hf)
  unfold TnE at HN
  have f1 : decide (f < 1) = false := by
    unfold mayF' at hf
    simp at hf ⊢
    omega
  have f2 : decide (4096 < f) = false := by
    unfold mayF' at hf
    simp at hf ⊢
    omega
  have g1 : (f < 1) = False := by simpa using f1
  have g2 : (4096 < f) = False := by simpa using f2
  clear hA hw hL hv f1 f2 hf
  unfold PT at HN
  go_enter Tryz.func3, Tryz.ntmps3
  go_upto_region 2 with (go_at_call 4; refine (HN.out _).mono ?_; rintro e w1 ⟨t, F1, rfl, q1, q2, q3⟩; have Q1 := hid (And.intro q1 (And.intro q2 q3)); clear q1 q2 q3)
  go_upto_region 4 with (go_at_call 5; refine (awakeT _).mono ?_; rintro e w2 ⟨rfl, t2⟩; have T2 := hid t2; clear t2)
  obtain ⟨b, hb⟩ : ∃ b, b = w2.heap.size := ⟨_, rfl⟩
  obtain ⟨W0, hW0⟩ : ∃ W0, W0 = w2.alloc (.cells #[.int .i64 f, .int .i64 0, .slice none 0 0, .slice none 0 0] 31) := ⟨_, rfl⟩
  have HI : Hid (PlI w t b 0 W0) := by
    obtain ⟨q1, q2, q3⟩ := Q1.out
    have z1 := (q2.trans' T2.out).size
    have hlt := q1.lt
    have z2 := T2.out.size
    have X : Touch [] w2 W0 := by rw [hW0]; exact (Touch.refl _ _).alloc _
    refine ⟨F1, _, _, [], [], T0 f, bo_new ((q1.keep0 T2.out).keep0 X), by rw [hW0, hb]; exact heap_alloc_new w2 _, fun e => ?_, fun e => (by simp [fpD, Value.ownBlock] at e), q3, (q2.trans' T2.out).trans' X, by omega⟩
    have := hlt b e
    omega
  go_upto_region 9 with fail
  rw [← hW0, ← hb]
  clear hW0 hb T2 Q1 HN
  go_wp2_with fail
  clear g1 g2
  go_loopw [40] (fun s40 wr => ∃ m : Nat, s40 = .int .i64 (m : Int) ∧ m ≤ A ∧ Hid (PlI w t b m wr)) (fun i _ => A - (intOf i).toNat)
  case atStart => exact ⟨0, rfl, Nat.zero_le _, HI⟩
  case round =>
    clear HI
    obtain ⟨m, rfl, hm, HR⟩ := hrel
    by_cases hlt : m < A
    · have zk : (m : Int) < (A : Int) := by omega
      have zA : (A : Int) ≤ 1599289640354 := by have := HLe.out; omega
      obtain ⟨ba, off, rfl, hrow⟩ : ∃ ba off, avv = some ⟨ba, off, none⟩ ∧ RowM w ba off xs := by
        rcases HRow.out with e | e
        · omega
        · exact e
      have hnx : m < xs.length := by have := HAx.out; omega
      obtain ⟨F, lv, gv, ds, gs, T, hB, hbx, nF, nD, hF, tt, hwb⟩ := HR.out
      have hr2 := hrow.keep tt
      have q0 := hr2.c0 m hnx
      have q1 := hr2.c1 m hnx
      have q2 := hr2.c2 m hnx
      have q3 := hr2.c3 m hnx
      have q4 := hr2.c4 m hnx
      have q5 := hr2.c5 m hnx
      have q6 := hr2.c6 m hnx
      have q7 := hr2.c7 m hnx
      have q8 := hr2.c8 m hnx
      have q9 := hr2.c9 m hnx
      have HWx := hid (HWf.out xs[m] (List.getElem_mem hnx))
      clear hrow hr2
      generalize xs[m] = ac at *
      clear hnx HR
      obtain ⟨la, lc, ga, gc, rfl, rfl⟩ := hB.dt.form
      have hbl := block_lt hbx
      obtain ⟨W1, hW1⟩ : ∃ W1, W1 = wr.alloc (.cells #[.int .i64 ac.kd, .int .i64 ac.rn, .int .i64 ac.cl, .bool ac.rf, .int .u16 ac.k.1, .string ac.k.2, .int .i64 ac.o.1, .int .i64 ac.o.2.1, .int .i64 ac.o.2.2.1, .int .i64 ac.o.2.2.2] 40) := ⟨_, rfl⟩
      have tq : Touch [] wr W1 := by rw [hW1]; exact (Touch.refl _ _).alloc _
      have kA : W1.heap[wr.heap.size]? = some (.cells #[.int .i64 ac.kd, .int .i64 ac.rn, .int .i64 ac.cl, .bool ac.rf, .int .u16 ac.k.1, .string ac.k.2, .int .i64 ac.o.1, .int .i64 ac.o.2.1, .int .i64 ac.o.2.2.1, .int .i64 ac.o.2.2.2] 40 (0, 0)) := by rw [hW1]; exact heap_alloc_new wr _
      have kB := tq.keep hbx (by simp)
      have hFl := hB.tq.lt
      have hDl := hB.dt.lt
      have zb : b < wr.heap.size := hbl
      have ab : wr.heap.size < W1.heap.size := block_lt kA
      have HAc : Hid (Calls Tryz.prog 6 #[.pointer (some ⟨t, 0, none⟩), .agg #[.int .i64 T.fl, .int .i64 T.bg, .slice la ds.length lc, .slice ga gs.length gc], .agg #[.int .i64 ac.kd, .int .i64 ac.rn, .int .i64 ac.cl, .bool ac.rf, .int .u16 ac.k.1, .string ac.k.2, .int .i64 ac.o.1, .int .i64 ac.o.2.1, .int .i64 ac.o.2.2.1, .int .i64 ac.o.2.2.2]] W1 fun e w5 => ∃ F' a5 n5 c5 b5 m5 d5 ds5 gs5 T5, e = .returned (.tuple #[.agg #[.int .i64 T5.fl, .int .i64 T5.bg, .slice a5 n5 c5, .slice b5 m5 d5], .bool true]) ∧ Bo w5 t F' (.slice a5 n5 c5) (.slice b5 m5 d5) ds5 gs5 T5 (m + 1) ∧ (w5.heap[b]? = some (.cells #[.int .i64 T.fl, .int .i64 T.bg, .slice la ds.length lc, .slice ga gs.length gc] 31 (0, 0)) ∧ w5.heap[wr.heap.size]? = some (.cells #[.int .i64 ac.kd, .int .i64 ac.rn, .int .i64 ac.cl, .bool ac.rf, .int .u16 ac.k.1, .string ac.k.2, .int .i64 ac.o.1, .int .i64 ac.o.2.1, .int .i64 ac.o.2.2.1, .int .i64 ac.o.2.2.2] 40 (0, 0))) ∧ ¬ b ∈ F' ∧ ¬ b ∈ fpD (.slice a5 n5 c5) (.slice b5 m5 d5) ds5 ∧ (∀ d, d ∈ F' → w.heap.size ≤ d) ∧ Touch [] w w5) := by
        refine (act_ W1 t F _ _ ds gs T m ac HWx.out (hB.keep0 tq) (by omega)).mono ?_
        rintro e w5 ⟨T5, lv5, gv5, gs5, rfl, F', ds5, hB5, t5, nf, fr⟩
        obtain ⟨a5, c5, b5, d5, rfl, rfl⟩ := hB5.dt.form
        refine ⟨F', a5, _, c5, b5, _, d5, ds5, gs5, T5, rfl, hB5, ⟨t5.keep kB nF, t5.keep kA (fun e => by have := hFl _ e; omega)⟩, fun e => ?_, fun e => ?_, fun d hd => ?_, (tt.trans' tq).trans t5 (fun d hd => Or.inr (hF d hd))⟩
        · rcases nf b e with k | k
          · exact nF k
          · omega
        · rcases fr b e with k | k
          · exact nD k
          · omega
        · rcases nf d hd with k | k
          · exact hF d k
          · have := tt.size; omega
      have HSt : Hid (∀ (w5 : World) F' a5 n5 c5 b5 m5 d5 ds5 gs5 (T5 : Tb), Bo w5 t F' (.slice a5 n5 c5) (.slice b5 m5 d5) ds5 gs5 T5 (m + 1) → Calls Tryz.prog 7 #[.pointer (some ⟨t, 0, none⟩), .agg #[.int .i64 T5.fl, .int .i64 T5.bg, .slice a5 n5 c5, .slice b5 m5 d5], .agg #[.int .i64 ac.kd, .int .i64 ac.rn, .int .i64 ac.cl, .bool ac.rf, .int .u16 ac.k.1, .string ac.k.2, .int .i64 ac.o.1, .int .i64 ac.o.2.1, .int .i64 ac.o.2.2.1, .int .i64 ac.o.2.2.2]] w5 fun e w6 => e = .returned (.bool true) ∧ Touch [] w5 w6) := hid (fun w5 F' a5 n5 c5 b5 m5 d5 ds5 gs5 T5 h5 => stands_ w5 t F' _ _ ds5 gs5 T5 (m + 1) ac HWx.out h5)
      clear hB nD nF hF hFl hDl tt tq HWx HRow HWf HAx
      generalize ds.length = n at *
      generalize gs.length = gn at *
      generalize T.fl = fl at *
      generalize T.bg = bg at *
      have b0 := cell_at (j := 0) hbx rfl
      have b1 := cell_at (j := 1) hbx rfl
      have b2 := cell_at (j := 2) hbx rfl
      have b3 := cell_at (j := 3) hbx rfl
      go_upto_region 12 with fail
      rw [← hW1]
      clear hW1 q0 q1 q2 q3 q4 q5 q6 q7 q8 q9 b0 b1 b2 b3 hbx
      generalize wr.heap.size = ab' at *
      have b0 := cell_at (j := 0) kB rfl
      have b1 := cell_at (j := 1) kB rfl
      have b2 := cell_at (j := 2) kB rfl
      have b3 := cell_at (j := 3) kB rfl
      have y0 := cell_at (j := 0) kA rfl
      have y1 := cell_at (j := 1) kA rfl
      have y2 := cell_at (j := 2) kA rfl
      have y3 := cell_at (j := 3) kA rfl
      have y4 := cell_at (j := 4) kA rfl
      have y5 := cell_at (j := 5) kA rfl
      have y6 := cell_at (j := 6) kA rfl
      have y7 := cell_at (j := 7) kA rfl
      have y8 := cell_at (j := 8) kA rfl
      have y9 := cell_at (j := 9) kA rfl
      clear kA kB
      go_upto_region 13 with (go_at_call 6; refine HAc.out.mono ?_; rintro e w5 ⟨F', a5, n5, c5, b5, m5, d5, ds5, gs5, T5, rfl, hB5, ⟨kB, kA⟩, nF, nD, hF, t5⟩; clear b0 b1 b2 b3 y0 y1 y2 y3 y4 y5 y6 y7 y8 y9; have HB5 := hid hB5; have HK5 := hid (And.intro kB kA); have HN5 := hid (And.intro nF (And.intro nD (And.intro hF t5))); have b0 := cell_at (j := 0) kB rfl; have b1 := cell_at (j := 1) kB rfl; have b2 := cell_at (j := 2) kB rfl; have b3 := cell_at (j := 3) kB rfl; have bf := froz_at kB; clear hB5 kA kB nF nD hF t5)
      obtain ⟨W6, hW6⟩ : ∃ W, W = ((((w5.setCell ⟨b, 0, none⟩ (.int .i64 T5.fl)).setCell ⟨b, 1, none⟩ (.int .i64 T5.bg)).setCell ⟨b, 2, none⟩ (.slice a5 n5 c5)).setCell ⟨b, 3, none⟩ (.slice b5 m5 d5)) := ⟨_, rfl⟩
      obtain ⟨kB, tF⟩ := finZ HK5.out.1 (.int .i64 T5.fl) (.int .i64 T5.bg) (.slice a5 n5 c5) (.slice b5 m5 d5)
      rw [← hW6] at kB tF ⊢
      clear hW6 b0 b1 b2 b3 bf
      have kA := tF.keep HK5.out.2 (by simp; omega)
      have hB6 := HB5.out.keep tF (fun d hd e => by simp only [List.mem_singleton] at e; subst e; exact HN5.out.1 hd) (fun d hd e => by simp only [List.mem_singleton] at e; subst e; exact HN5.out.2.1 hd)
      have HS6 := hid (HSt.out _ _ _ _ _ _ _ _ _ _ _ hB6)
      have HE : Hid (∀ w', Touch [] W6 w' → PlI w t b (m + 1) w') := hid (fun w' X => ⟨F', _, _, ds5, gs5, T5, hB6.keep0 X, X.keep kB (by simp), HN5.out.1, HN5.out.2.1, HN5.out.2.2.1, (HN5.out.2.2.2.trans tF (fun d hd => Or.inr (by simp only [List.mem_singleton] at hd; omega))).trans' X, hwb⟩)
      clear hB6 HB5 HN5 HK5 HSt HAc tF
      generalize T5.fl = fl5 at *
      generalize T5.bg = bg5 at *
      have b0 := cell_at (j := 0) kB rfl
      have b1 := cell_at (j := 1) kB rfl
      have b2 := cell_at (j := 2) kB rfl
      have b3 := cell_at (j := 3) kB rfl
      have y0 := cell_at (j := 0) kA rfl
      have y1 := cell_at (j := 1) kA rfl
      have y2 := cell_at (j := 2) kA rfl
      have y3 := cell_at (j := 3) kA rfl
      have y4 := cell_at (j := 4) kA rfl
      have y5 := cell_at (j := 5) kA rfl
      have y6 := cell_at (j := 6) kA rfl
      have y7 := cell_at (j := 7) kA rfl
      have y8 := cell_at (j := 8) kA rfl
      have y9 := cell_at (j := 9) kA rfl
      clear kA kB
      go_wp2_with (go_at_call 7; refine HS6.out.mono ?_; rintro e w7 ⟨rfl, t7⟩; have H7 := hid (HE.out _ t7); clear t7)
      go_roundw
      case rel => exact ⟨m + 1, by go_num, by omega, H7⟩
      case measure => simp [intOf]; omega
    · have zk : (A : Int) ≤ (m : Int) := by omega
      have HT : Hid (Touch [] w wr) := hid (by obtain ⟨F, lv, gv, ds, gs, T, hB, hbx, nF, nD, hF, tt, hwb⟩ := HR.out; exact tt)
      clear HR HRow HWf
      go_wp2
      go_ret
      exact ⟨rfl, HT.out⟩
theorem lawPlays (w : World) (f : Int) (xs : List ActT) (v : Value) (hf : W64 f) (hv : SlM w v xs) (hw : ∀ a ∈ xs, WfA a) (hL : xs.length ≤ 1599289640354) : Calls Tryz.prog 3 #[.int .i64 f, v] w fun e w' => e = .returned (.bool true) ∧ Touch [] w w' := by
  cases hm : mayF' f with
  | true => exact lawPlays_ok w f xs v hm hv hw hL
  | false =>
    obtain ⟨a, A, c, e⟩ : ∃ a A c, v = .slice a A c := by
      rcases hv with ⟨rfl, a, c, rfl⟩ | ⟨b, off, cap, rfl, _⟩
      · exact ⟨a, 0, c, rfl⟩
      · exact ⟨_, _, _, rfl⟩
    exact lawPlays_no w f v a A c e hm
end Go.Proofs.YtpihhlllembdeaaGreat
