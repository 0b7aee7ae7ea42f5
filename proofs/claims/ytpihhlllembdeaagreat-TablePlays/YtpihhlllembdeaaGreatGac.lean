/- The law's act: what stands behind its boxes, and the act that ends a run. -/
import Derived.Test.YtpihhlllembdeaaGreatGls
namespace Go.Proofs.YtpihhlllembdeaaGreat
open Go.RowKit Go.Maps Go.ChangeMaps
set_option linter.unusedVariables false
set_option linter.unusedSimpArgs false
def kq (a : ActT) : Int := (wrap64 (a.kd.tmod 9 + 9)).tmod 9
theorem Bo.of {w V w2 : World} {t : Nat} {F : List Nat} {lv gv lv' gv' : Value} {ds : List De} {gs gs' : List (K × Int)} {T T' : Tb} {N N' : Nat} (h : Bo w t F lv gv ds gs T N) (X : Touch [] w V) (e : BoE V w2 t F lv gv ds lv' gv' gs' T' N') : ∃ F' ds', BoV w V w2 t F lv gv ds lv' gv' ds' gs' T' T' N' F' ∧ gs'.length ≤ N' ∧ N' ≤ 1700000000000 := by
  obtain ⟨F', ds', b, t1, nf, fr⟩ := e
  exact ⟨F', ds', ⟨b.tq, nf, b.dt, fun q hq => ⟨b.ap q hq, fr q hq⟩, (X.mono (fun _ e => by cases e)).trans' t1, h.tq.lt, h.dt.lt, X.size⟩, b.gl, b.hN⟩
/-- What an act leaves: both tables at one state. -/
def actP (w : World) (t : Nat) (F : List Nat) (lv gv : Value) (ds : List De) (T' : Tb) (N : Nat) (e : Ending) (w' : World) : Prop := ∃ lv' gv' gs', e = .returned (.tuple #[tv T' lv' gv', .bool true]) ∧ BoE w w' t F lv gv ds lv' gv' gs' T' N
set_option maxHeartbeats 4000000 in
set_option maxRecDepth 100000 in
theorem act_end (w : World) (t : Nat) (F : List Nat) (lv gv : Value) (ds : List De) (gs : List (K × Int)) (T : Tb) (N : Nat) (a : ActT) (hw : WfA a) (h : Bo w t F lv gv ds gs T N) (hk : kq a = 7) :
    Calls Tryz.prog 6 #[PT t, tv T lv gv, av a] w fun e w' => actP w t F lv gv ds (tEnd T a.rn a.o) N e w' := by
  obtain ⟨la, lc, ga, gc, rfl, rfl⟩ := h.dt.form
  obtain ⟨n, hn⟩ : ∃ n, n = ds.length := ⟨_, rfl⟩
  obtain ⟨gn, hgn⟩ : ∃ gn, gn = gs.length := ⟨_, rfl⟩
  have HB : Hid (Bo w t F (.slice la n lc) (.slice ga gn gc) ds gs T N) := hid (by rw [hn, hgn]; exact h)
  have hnl := HB.out.dg.len
  have hFl := HB.out.tq.lt
  obtain ⟨V, hV⟩ : ∃ V, V = ((w.alloc (.cells #[.int .i64 T.fl, .int .i64 T.bg, .slice la n lc, .slice ga gn gc] 31)).alloc (.cells #[.int .i64 a.kd, .int .i64 a.rn, .int .i64 a.cl, .bool a.rf, .int .u16 a.k.1, .string a.k.2, .int .i64 a.o.1, .int .i64 a.o.2.1, .int .i64 a.o.2.2.1, .int .i64 a.o.2.2.2] 40)).alloc (.cells #[.int .i64 0, .int .i64 0, .slice none 0 0, .slice none 0 0] 31) := ⟨_, rfl⟩
  have T0 : Touch [] w V := by rw [hV]; exact (((Touch.refl _ _).alloc _).alloc _).alloc _
  have HTc : Hid (Touch F w V) := T0.mono (fun _ e => by cases e)
  have HV0 := hid T0
  have kT : V.heap[w.heap.size]? = some (.cells #[.int .i64 T.fl, .int .i64 T.bg, .slice la n lc, .slice ga gn gc] 31 (0, 0)) := by rw [hV]; exact (Below.heap_alloc _ _ _ (by simp; omega)).trans ((Below.heap_alloc _ _ _ (by simp)).trans (heap_alloc_new w _))
  have kA : V.heap[w.heap.size + 1]? = some (.cells #[.int .i64 a.kd, .int .i64 a.rn, .int .i64 a.cl, .bool a.rf, .int .u16 a.k.1, .string a.k.2, .int .i64 a.o.1, .int .i64 a.o.2.1, .int .i64 a.o.2.2.1, .int .i64 a.o.2.2.2] 40 (0, 0)) := by
    rw [hV]
    have := heap_alloc_new (w.alloc (.cells #[.int .i64 T.fl, .int .i64 T.bg, .slice la n lc, .slice ga gn gc] 31)) (.cells #[.int .i64 a.kd, .int .i64 a.rn, .int .i64 a.cl, .bool a.rf, .int .u16 a.k.1, .string a.k.2, .int .i64 a.o.1, .int .i64 a.o.2.1, .int .i64 a.o.2.2.1, .int .i64 a.o.2.2.2] 40)
    rw [World.size_alloc] at this
    exact (Below.heap_alloc _ _ _ (by simp)).trans this
  have kZ : V.heap[w.heap.size + 1 + 1]? = some (.cells #[.int .i64 0, .int .i64 0, .slice none 0 0, .slice none 0 0] 31 (0, 0)) := by
    rw [hV]
    have := heap_alloc_new ((w.alloc (.cells #[.int .i64 T.fl, .int .i64 T.bg, .slice la n lc, .slice ga gn gc] 31)).alloc (.cells #[.int .i64 a.kd, .int .i64 a.rn, .int .i64 a.cl, .bool a.rf, .int .u16 a.k.1, .string a.k.2, .int .i64 a.o.1, .int .i64 a.o.2.1, .int .i64 a.o.2.2.1, .int .i64 a.o.2.2.2] 40)) (.cells #[.int .i64 0, .int .i64 0, .slice none 0 0, .slice none 0 0] 31)
    rwa [World.size_alloc, World.size_alloc] at this
  have HN := hid hn
  have HFl := hid hFl
  have zn : (n : Int) ≤ 4096 := by omega
  unfold tv av
  rw [← hn, ← hgn]
  obtain ⟨Q, hQ⟩ : ∃ Q : Ending → World → Prop, Q = fun e w' => actP w t F (.slice la n lc) (.slice ga gn gc) ds (tEnd T a.rn a.o) N e w' := ⟨_, rfl⟩
  have HQ : Hid (∀ e w', actP w t F (.slice la n lc) (.slice ga gn gc) ds (tEnd T a.rn a.o) N e w' → Q e w') := hid (by rw [hQ]; exact fun e w' hh => hh)
  rw [← hQ]
  have HSz : Hid (V.heap.size = w.heap.size + 3) := hid (by rw [hV]; simp)
  have HBv := hid (HB.out.init T0)
  clear hQ h hFl
  have HL : Hid (Calls Tryz.prog 19 #[PT t, .agg #[.int .i64 T.fl, .int .i64 T.bg, .slice la n lc, .slice ga gn gc], .agg #[.int .i64 a.kd, .int .i64 a.rn, .int .i64 a.cl, .bool a.rf, .int .u16 a.k.1, .string a.k.2, .int .i64 a.o.1, .int .i64 a.o.2.1, .int .i64 a.o.2.2.1, .int .i64 a.o.2.2.2]] V fun e w2 => ∃ a5 n5 c5 F' ds', e = .returned (.tuple #[.agg #[.int .i64 T.fl, .int .i64 T.bg, .slice a5 n5 c5, .slice ga gn gc], .bool true]) ∧ BoV w V w2 t F (.slice la n lc) (.slice ga gn gc) ds (.slice a5 n5 c5) (.slice ga gn gc) ds' gs (tEnd T a.rn a.o) (tEnd T a.rn a.o) N F' ∧ Touch F V w2) := by
    have hfl : (tEnd T a.rn a.o).fl = T.fl ∧ (tEnd T a.rn a.o).bg = T.bg := by
      unfold tEnd
      split
      · exact ⟨rfl, rfl⟩
      · split <;> exact ⟨rfl, rfl⟩
    refine (lend_ V t F (.slice la n lc) (.slice ga gn gc) ds gs T N a hw (HB.out.keep0 T0)).mono ?_
    rintro e w2 ⟨lv', rfl, b⟩
    have tb := b.choose_spec.choose_spec.2.1
    obtain ⟨F', ds', bv, _, _⟩ := HB.out.of T0 b
    obtain ⟨a5, c5, e5⟩ := own_form bv.2.2.1.lr
    subst e5
    refine ⟨a5, _, c5, F', ds', ?_, bv, tb⟩
    unfold tv
    rw [hfl.1, hfl.2]
  have HE : Hid (∀ w' F' a5 n5 c5 ds5, BoV w V w' t F (.slice la n lc) (.slice ga gn gc) ds (.slice a5 n5 c5) (.slice ga gn gc) ds5 gs (tEnd T a.rn a.o) (tEnd T a.rn a.o) N F' → Q (.returned (.tuple #[.agg #[.int .i64 T.fl, .int .i64 T.bg, .slice a5 n5 c5, .slice ga gn gc], .bool true])) w') := fun w' F' a5 n5 c5 ds5 X => by
    have hfl : (tEnd T a.rn a.o).fl = T.fl ∧ (tEnd T a.rn a.o).bg = T.bg := by
      unfold tEnd
      split
      · exact ⟨rfl, rfl⟩
      · split <;> exact ⟨rfl, rfl⟩
    exact HQ.out _ _ ⟨.slice a5 n5 c5, .slice ga gn gc, gs, by unfold tv; rw [hfl.1, hfl.2], X.fin HB.out.gl HB.out.hN⟩
  clear HB HQ hn hgn T0 hw
  generalize T.fl = fl at *
  generalize T.bg = bg at *
  have HK := hid hk
  have HKc := hid (And.intro kT (And.intro kA kZ))
  have a0 := cell_at (j := 0) kT rfl
  have a1 := cell_at (j := 1) kT rfl
  have a2 := cell_at (j := 2) kT rfl
  have a3 := cell_at (j := 3) kT rfl
  have af := froz_at kT
  have y0 := cell_at (j := 0) kA rfl
  have y1 := cell_at (j := 1) kA rfl
  have y2 := cell_at (j := 2) kA rfl
  have y3 := cell_at (j := 3) kA rfl
  have y4 := cell_at (j := 4) kA rfl
  have y5 := cell_at (j := 5) kA rfl
  have y6 := cell_at (j := 6) kA rfl
  have y7 := cell_at (j := 7) kA rfl
  have y8 := cell_at (j := 8) kA rfl
  have y9 := cell_at (j := 9) kA rfl
  have yf := froz_at kA
  have z0 := cell_at (j := 0) kZ rfl
  have z1 := cell_at (j := 1) kZ rfl
  have z2 := cell_at (j := 2) kZ rfl
  have z3 := cell_at (j := 3) kZ rfl
  have zf := froz_at kZ
  clear kT kA kZ
  unfold PT at HL ⊢
  go_enter Tryz.func6, Tryz.ntmps6
  go_upto_region 1 with fail
  rw [← hV]
  clear hV
  go_upto_block 0 with fail
  rw [show (wrap64 (a.kd.tmod 9 + 9)).tmod 9 = kq a from rfl, hk]
  clear hk
  go_wp2_with (go_at_call 19; refine HL.out.mono ?_; rintro e w1 ⟨a5, n5, c5, F1, ds1, rfl, q1, t1⟩; obtain ⟨kT, kA, kZ⟩ := HKc.out; replace kT := t1.keep kT (fun e => by have := HFl.out _ e; omega); replace kA := t1.keep kA (fun e => by have := HFl.out _ e; omega); replace kZ := t1.keep kZ (fun e => by have := HFl.out _ e; omega); clear HKc a0 a1 a2 a3 af y0 y1 y2 y3 y4 y5 y6 y7 y8 y9 yf z0 z1 z2 z3 zf; have HKc := hid (And.intro kT (And.intro kA kZ)); have a0 := cell_at (j := 0) kT rfl; have a1 := cell_at (j := 1) kT rfl; have a2 := cell_at (j := 2) kT rfl; have a3 := cell_at (j := 3) kT rfl; have af := froz_at kT; have y0 := cell_at (j := 0) kA rfl; have y1 := cell_at (j := 1) kA rfl; have y2 := cell_at (j := 2) kA rfl; have y3 := cell_at (j := 3) kA rfl; have y4 := cell_at (j := 4) kA rfl; have y5 := cell_at (j := 5) kA rfl; have y6 := cell_at (j := 6) kA rfl; have y7 := cell_at (j := 7) kA rfl; have y8 := cell_at (j := 8) kA rfl; have y9 := cell_at (j := 9) kA rfl; have yf := froz_at kA; have z0 := cell_at (j := 0) kZ rfl; have z1 := cell_at (j := 1) kZ rfl; have z2 := cell_at (j := 2) kZ rfl; have z3 := cell_at (j := 3) kZ rfl; have zf := froz_at kZ; clear kT kA kZ; have hb1 := hid q1; clear q1 t1)
  obtain ⟨kT, kA, kZ⟩ := HKc.out
  obtain ⟨q4, tF⟩ := finZ kZ (.int .i64 fl) (.int .i64 bg) (.slice a5 n5 c5) (.slice ga gn gc)
  have q0 := cell_at (j := 0) q4 rfl
  have q1 := cell_at (j := 1) q4 rfl
  have q2 := cell_at (j := 2) q4 rfl
  have q3 := cell_at (j := 3) q4 rfl
  exact bodyPost_ret (v := .tuple #[.agg #[.int .i64 fl, .int .i64 bg, .slice a5 n5 c5, .slice ga gn gc], .bool true]) (by simp [results, Tryz.results6, go_sem, q0, q1, q2, q3]) rfl (HE.out _ _ _ _ _ _ (hb1.out.box tF (by omega) (by have := HSz.out; omega)))
end Go.Proofs.YtpihhlllembdeaaGreat
/- The law's act: a run is released. -/
namespace Go.Proofs.YtpihhlllembdeaaGreat
open Go.RowKit Go.Maps Go.ChangeMaps
set_option linter.unusedVariables false
set_option linter.unusedSimpArgs false
theorem rel_fl (T : Tb) (n : Int) : (tRel T n).fl = T.fl ∧ (tRel T n).bg = T.bg := by
  unfold tRel
  split
  · exact ⟨rfl, rfl⟩
  · exact ⟨(goneT_fl _ _ _).1, (goneT_fl _ _ _).2.1⟩
set_option maxHeartbeats 4000000 in
set_option maxRecDepth 100000 in
theorem act_rel (w : World) (t : Nat) (F : List Nat) (lv gv : Value) (ds : List De) (gs : List (K × Int)) (T : Tb) (N : Nat) (a : ActT) (hw : WfA a) (h : Bo w t F lv gv ds gs T N) (hN1 : N + 1 ≤ 1700000000000) (hk : kq a = 5) :
    Calls Tryz.prog 6 #[PT t, tv T lv gv, av a] w fun e w' => actP w t F lv gv ds (tRel T a.rn) (N + 1) e w' := by
  obtain ⟨la, lc, ga, gc, rfl, rfl⟩ := h.dt.form
  obtain ⟨n, hn⟩ : ∃ n, n = ds.length := ⟨_, rfl⟩
  obtain ⟨gn, hgn⟩ : ∃ gn, gn = gs.length := ⟨_, rfl⟩
  have HB : Hid (Bo w t F (.slice la n lc) (.slice ga gn gc) ds gs T N) := hid (by rw [hn, hgn]; exact h)
  have hnl := HB.out.dg.len
  have hFl := HB.out.tq.lt
  obtain ⟨V, hV⟩ : ∃ V, V = ((w.alloc (.cells #[.int .i64 T.fl, .int .i64 T.bg, .slice la n lc, .slice ga gn gc] 31)).alloc (.cells #[.int .i64 a.kd, .int .i64 a.rn, .int .i64 a.cl, .bool a.rf, .int .u16 a.k.1, .string a.k.2, .int .i64 a.o.1, .int .i64 a.o.2.1, .int .i64 a.o.2.2.1, .int .i64 a.o.2.2.2] 40)).alloc (.cells #[.int .i64 0, .int .i64 0, .slice none 0 0, .slice none 0 0] 31) := ⟨_, rfl⟩
  have T0 : Touch [] w V := by rw [hV]; exact (((Touch.refl _ _).alloc _).alloc _).alloc _
  have HTc : Hid (Touch F w V) := T0.mono (fun _ e => by cases e)
  have HV0 := hid T0
  have kT : V.heap[w.heap.size]? = some (.cells #[.int .i64 T.fl, .int .i64 T.bg, .slice la n lc, .slice ga gn gc] 31 (0, 0)) := by rw [hV]; exact (Below.heap_alloc _ _ _ (by simp; omega)).trans ((Below.heap_alloc _ _ _ (by simp)).trans (heap_alloc_new w _))
  have kA : V.heap[w.heap.size + 1]? = some (.cells #[.int .i64 a.kd, .int .i64 a.rn, .int .i64 a.cl, .bool a.rf, .int .u16 a.k.1, .string a.k.2, .int .i64 a.o.1, .int .i64 a.o.2.1, .int .i64 a.o.2.2.1, .int .i64 a.o.2.2.2] 40 (0, 0)) := by
    rw [hV]
    have := heap_alloc_new (w.alloc (.cells #[.int .i64 T.fl, .int .i64 T.bg, .slice la n lc, .slice ga gn gc] 31)) (.cells #[.int .i64 a.kd, .int .i64 a.rn, .int .i64 a.cl, .bool a.rf, .int .u16 a.k.1, .string a.k.2, .int .i64 a.o.1, .int .i64 a.o.2.1, .int .i64 a.o.2.2.1, .int .i64 a.o.2.2.2] 40)
    rw [World.size_alloc] at this
    exact (Below.heap_alloc _ _ _ (by simp)).trans this
  have kZ : V.heap[w.heap.size + 1 + 1]? = some (.cells #[.int .i64 0, .int .i64 0, .slice none 0 0, .slice none 0 0] 31 (0, 0)) := by
    rw [hV]
    have := heap_alloc_new ((w.alloc (.cells #[.int .i64 T.fl, .int .i64 T.bg, .slice la n lc, .slice ga gn gc] 31)).alloc (.cells #[.int .i64 a.kd, .int .i64 a.rn, .int .i64 a.cl, .bool a.rf, .int .u16 a.k.1, .string a.k.2, .int .i64 a.o.1, .int .i64 a.o.2.1, .int .i64 a.o.2.2.1, .int .i64 a.o.2.2.2] 40)) (.cells #[.int .i64 0, .int .i64 0, .slice none 0 0, .slice none 0 0] 31)
    rwa [World.size_alloc, World.size_alloc] at this
  have HN := hid hn
  have HFl := hid hFl
  have zn : (n : Int) ≤ 4096 := by omega
  unfold tv av
  rw [← hn, ← hgn]
  obtain ⟨Q, hQ⟩ : ∃ Q : Ending → World → Prop, Q = fun e w' => actP w t F (.slice la n lc) (.slice ga gn gc) ds (tRel T a.rn) (N + 1) e w' := ⟨_, rfl⟩
  have HQ : Hid (∀ e w', actP w t F (.slice la n lc) (.slice ga gn gc) ds (tRel T a.rn) (N + 1) e w' → Q e w') := hid (by rw [hQ]; exact fun e w' hh => hh)
  rw [← hQ]
  have HSz : Hid (V.heap.size = w.heap.size + 3) := hid (by rw [hV]; simp)
  have HBv := hid (HB.out.init T0)
  clear hQ h hFl
  have HP : Hid (Calls Tryz.prog 14 #[PT t, .int .i64 a.rn] V fun e w1 => e = .returned (.tuple #[.agg #[.bool (tRelC T a.rn), .bool (tRelA T a.rn)], .int .i64 (tRelE T a.rn)]) ∧ ∃ F', BoV w V w1 t F (.slice la n lc) (.slice ga gn gc) ds (.slice la n lc) (.slice ga gn gc) ds gs (tRel T a.rn) T (N + 1) F' ∧ Touch F V w1) := by
    refine (relT V t F T N (HB.out.tq.keep0 T0) (by omega) a.rn hw.2.1).mono ?_
    rintro e w1 ⟨rfl, q⟩
    have tq := q.choose_spec.2.1
    obtain ⟨F', b⟩ := (HB.out.init T0).prog (Nat.le_refl _) q
    exact ⟨rfl, F', b, tq⟩
  have HD : Hid (∀ w' F', BoV w V w' t F (.slice la n lc) (.slice ga gn gc) ds (.slice la n lc) (.slice ga gn gc) ds gs (tRel T a.rn) T (N + 1) F' → V.heap.size ≤ w'.heap.size → Calls Tryz.prog 15 #[.agg #[.int .i64 T.fl, .int .i64 T.bg, .slice la n lc, .slice ga gn gc], .int .i64 a.rn] w' fun e w2 => ∃ a5 n5 c5 b5 m5 d5 ds5 gs5, e = .returned (.tuple #[.agg #[.int .i64 T.fl, .int .i64 T.bg, .slice a5 n5 c5, .slice b5 m5 d5], .bool (tRelC T a.rn), .bool (tRelA T a.rn), .int .i64 (tRelE T a.rn)]) ∧ (BoV w V w2 t F (.slice la n lc) (.slice ga gn gc) ds (.slice a5 n5 c5) (.slice b5 m5 d5) ds5 gs5 (tRel T a.rn) (tRel T a.rn) (N + 1) F' ∧ gs5.length ≤ N + 1) ∧ Touch [] w' w2) := fun w' F' X hVs => by
    refine (release_ w' (.slice la n lc) (.slice ga gn gc) ds gs T N a.rn (X.dg HB.out.dg.ti HB.out.dg.lv HB.out.dg.who HB.out.gl HB.out.hN)).mono ?_
    rintro e w2 ⟨lv', gv', gs', rfl, q, hl⟩
    have t2 := q.choose_spec.2.1
    obtain ⟨ds5, X2⟩ := X.doc hVs q
    obtain ⟨a5, c5, e5⟩ := own_form X2.2.2.1.lr
    obtain ⟨b5, d5, e6⟩ := own_form X2.2.2.1.gr
    subst e5 e6
    refine ⟨a5, _, c5, b5, _, d5, ds5, gs', ?_, ⟨X2, by have := HB.out.gl; omega⟩, t2⟩
    unfold tv
    rw [(rel_fl T a.rn).1, (rel_fl T a.rn).2]
  have HE : Hid (∀ w' F' a5 n5 c5 b5 m5 d5 ds5 gs5, BoV w V w' t F (.slice la n lc) (.slice ga gn gc) ds (.slice a5 n5 c5) (.slice b5 m5 d5) ds5 gs5 (tRel T a.rn) (tRel T a.rn) (N + 1) F' → gs5.length ≤ N + 1 → Q (.returned (.tuple #[.agg #[.int .i64 T.fl, .int .i64 T.bg, .slice a5 n5 c5, .slice b5 m5 d5], .bool true])) w') := fun w' F' a5 n5 c5 b5 m5 d5 ds5 gs5 X hl => HQ.out _ _ ⟨.slice a5 n5 c5, .slice b5 m5 d5, gs5, by unfold tv; rw [(rel_fl T a.rn).1, (rel_fl T a.rn).2], X.fin hl hN1⟩
  clear HB HQ hn hgn T0 hw
  generalize T.fl = fl at *
  generalize T.bg = bg at *
  generalize tRelC T a.rn = rC at *
  generalize tRelA T a.rn = rA at *
  generalize tRelE T a.rn = rE at *
  have HKc := hid (And.intro kT (And.intro kA kZ))
  have a0 := cell_at (j := 0) kT rfl
  have a1 := cell_at (j := 1) kT rfl
  have a2 := cell_at (j := 2) kT rfl
  have a3 := cell_at (j := 3) kT rfl
  have af := froz_at kT
  have y0 := cell_at (j := 0) kA rfl
  have y1 := cell_at (j := 1) kA rfl
  have y2 := cell_at (j := 2) kA rfl
  have y3 := cell_at (j := 3) kA rfl
  have y4 := cell_at (j := 4) kA rfl
  have y5 := cell_at (j := 5) kA rfl
  have y6 := cell_at (j := 6) kA rfl
  have y7 := cell_at (j := 7) kA rfl
  have y8 := cell_at (j := 8) kA rfl
  have y9 := cell_at (j := 9) kA rfl
  have yf := froz_at kA
  have z0 := cell_at (j := 0) kZ rfl
  have z1 := cell_at (j := 1) kZ rfl
  have z2 := cell_at (j := 2) kZ rfl
  have z3 := cell_at (j := 3) kZ rfl
  have zf := froz_at kZ
  clear kT kA kZ
  unfold PT at HP ⊢
  go_enter Tryz.func6, Tryz.ntmps6
  go_upto_region 1 with fail
  rw [← hV]
  clear hV
  go_upto_block 0 with fail
  rw [show (wrap64 (a.kd.tmod 9 + 9)).tmod 9 = kq a from rfl, hk]
  clear hk
  go_upto_region 12 with (go_at_call 14; refine HP.out.mono ?_; rintro e w1 ⟨rfl, F1, q1, t1⟩; obtain ⟨kT, kA, kZ⟩ := HKc.out; replace kT := t1.keep kT (fun e => by have := HFl.out _ e; omega); replace kA := t1.keep kA (fun e => by have := HFl.out _ e; omega); replace kZ := t1.keep kZ (fun e => by have := HFl.out _ e; omega); clear HKc a0 a1 a2 a3 af y0 y1 y2 y3 y4 y5 y6 y7 y8 y9 yf z0 z1 z2 z3 zf; have HKc := hid (And.intro kT (And.intro kA kZ)); have a0 := cell_at (j := 0) kT rfl; have a1 := cell_at (j := 1) kT rfl; have a2 := cell_at (j := 2) kT rfl; have a3 := cell_at (j := 3) kT rfl; have af := froz_at kT; have y0 := cell_at (j := 0) kA rfl; have y1 := cell_at (j := 1) kA rfl; have y2 := cell_at (j := 2) kA rfl; have y3 := cell_at (j := 3) kA rfl; have y4 := cell_at (j := 4) kA rfl; have y5 := cell_at (j := 5) kA rfl; have y6 := cell_at (j := 6) kA rfl; have y7 := cell_at (j := 7) kA rfl; have y8 := cell_at (j := 8) kA rfl; have y9 := cell_at (j := 9) kA rfl; have yf := froz_at kA; have z0 := cell_at (j := 0) kZ rfl; have z1 := cell_at (j := 1) kZ rfl; have z2 := cell_at (j := 2) kZ rfl; have z3 := cell_at (j := 3) kZ rfl; have zf := froz_at kZ; clear kT kA kZ; have HBv := hid q1; clear q1 t1)
  clear HP
  obtain ⟨W2, hW2⟩ : ∃ W, W = w1.alloc (.cells #[.bool rC, .bool rA] 57) := ⟨_, rfl⟩
  have tq : Touch [] w1 W2 := by rw [hW2]; exact (Touch.refl _ _).alloc _
  have kG : W2.heap[w1.heap.size]? = some (.cells #[.bool rC, .bool rA] 57 (0, 0)) := by rw [hW2]; exact heap_alloc_new w1 _
  have zg : w.heap.size + 3 ≤ w1.heap.size := by have := block_lt HKc.out.2.2; omega
  rw [← hW2]
  clear hW2
  obtain ⟨kT, kA, kZ⟩ := HKc.out
  replace kT := tq.keep kT (by first | (simp; done) | (simp; omega))
  replace kA := tq.keep kA (by first | (simp; done) | (simp; omega))
  replace kZ := tq.keep kZ (by first | (simp; done) | (simp; omega))
  clear HKc a0 a1 a2 a3 af y0 y1 y2 y3 y4 y5 y6 y7 y8 y9 yf z0 z1 z2 z3 zf
  have HKc := hid (And.intro kT (And.intro kA kZ))
  have a0 := cell_at (j := 0) kT rfl
  have a1 := cell_at (j := 1) kT rfl
  have a2 := cell_at (j := 2) kT rfl
  have a3 := cell_at (j := 3) kT rfl
  have af := froz_at kT
  have y0 := cell_at (j := 0) kA rfl
  have y1 := cell_at (j := 1) kA rfl
  have y2 := cell_at (j := 2) kA rfl
  have y3 := cell_at (j := 3) kA rfl
  have y4 := cell_at (j := 4) kA rfl
  have y5 := cell_at (j := 5) kA rfl
  have y6 := cell_at (j := 6) kA rfl
  have y7 := cell_at (j := 7) kA rfl
  have y8 := cell_at (j := 8) kA rfl
  have y9 := cell_at (j := 9) kA rfl
  have yf := froz_at kA
  have z0 := cell_at (j := 0) kZ rfl
  have z1 := cell_at (j := 1) kZ rfl
  have z2 := cell_at (j := 2) kZ rfl
  have z3 := cell_at (j := 3) kZ rfl
  have zf := froz_at kZ
  clear kT kA kZ
  replace HBv := hid (HBv.out.then0 tq)
  clear tq
  generalize w1.heap.size = gb at *
  go_upto_region 13 with (go_at_call 15; refine (HD.out _ _ HBv.out (by have := block_lt HKc.out.2.2; have := HSz.out; omega)).mono ?_; rintro e w3 ⟨a5, n5, c5, b5, m5, d5, ds5, gs5, rfl, ⟨q3, hl3⟩, t3⟩; obtain ⟨kT, kA, kZ⟩ := HKc.out; replace kT := t3.keep kT (by first | (simp; done) | (simp; omega)); replace kA := t3.keep kA (by first | (simp; done) | (simp; omega)); replace kZ := t3.keep kZ (by first | (simp; done) | (simp; omega)); clear HKc a0 a1 a2 a3 af y0 y1 y2 y3 y4 y5 y6 y7 y8 y9 yf z0 z1 z2 z3 zf; have HKc := hid (And.intro kT (And.intro kA kZ)); have a0 := cell_at (j := 0) kT rfl; have a1 := cell_at (j := 1) kT rfl; have a2 := cell_at (j := 2) kT rfl; have a3 := cell_at (j := 3) kT rfl; have af := froz_at kT; have y0 := cell_at (j := 0) kA rfl; have y1 := cell_at (j := 1) kA rfl; have y2 := cell_at (j := 2) kA rfl; have y3 := cell_at (j := 3) kA rfl; have y4 := cell_at (j := 4) kA rfl; have y5 := cell_at (j := 5) kA rfl; have y6 := cell_at (j := 6) kA rfl; have y7 := cell_at (j := 7) kA rfl; have y8 := cell_at (j := 8) kA rfl; have y9 := cell_at (j := 9) kA rfl; have yf := froz_at kA; have z0 := cell_at (j := 0) kZ rfl; have z1 := cell_at (j := 1) kZ rfl; have z2 := cell_at (j := 2) kZ rfl; have z3 := cell_at (j := 3) kZ rfl; have zf := froz_at kZ; clear kT kA kZ; replace kG := t3.keep kG (by simp); replace HBv := hid q3; have HLg := hid hl3; clear q3 t3 hl3)
  clear HD
  obtain ⟨W4, hW4⟩ : ∃ W, W = w3.alloc (.cells #[.int .i64 fl, .int .i64 bg, .slice a5 n5 c5, .slice b5 m5 d5] 31) := ⟨_, rfl⟩
  have tq : Touch [] w3 W4 := by rw [hW4]; exact (Touch.refl _ _).alloc _
  have kB : W4.heap[w3.heap.size]? = some (.cells #[.int .i64 fl, .int .i64 bg, .slice a5 n5 c5, .slice b5 m5 d5] 31 (0, 0)) := by rw [hW4]; exact heap_alloc_new w3 _
  have zb : w.heap.size + 3 ≤ w3.heap.size := by have := block_lt HKc.out.2.2; omega
  rw [← hW4]
  clear hW4
  replace kG := tq.keep kG (by simp)
  have kz := tq.keep HKc.out.2.2 (by simp)
  replace HBv := hid (HBv.out.then0 tq)
  clear tq HKc a0 a1 a2 a3 af y0 y1 y2 y3 y4 y5 y6 y7 y8 y9 yf z0 z1 z2 z3 zf
  generalize w3.heap.size = tb at *
  have U0 : ∀ w', Touch [w.heap.size + 1 + 1] W4 w' → w'.cell? ⟨tb, 0, none⟩ = some (.int .i64 fl) := fun w' X => cell_at (X.keep kB (by simp; omega)) rfl
  have U1 : ∀ w', Touch [w.heap.size + 1 + 1] W4 w' → w'.cell? ⟨tb, 1, none⟩ = some (.int .i64 bg) := fun w' X => cell_at (X.keep kB (by simp; omega)) rfl
  have U2 : ∀ w', Touch [w.heap.size + 1 + 1] W4 w' → w'.cell? ⟨tb, 2, none⟩ = some (.slice a5 n5 c5) := fun w' X => cell_at (X.keep kB (by simp; omega)) rfl
  have U3 : ∀ w', Touch [w.heap.size + 1 + 1] W4 w' → w'.cell? ⟨tb, 3, none⟩ = some (.slice b5 m5 d5) := fun w' X => cell_at (X.keep kB (by simp; omega)) rfl
  have G0 : ∀ w', Touch [w.heap.size + 1 + 1] W4 w' → w'.cell? ⟨gb, 0, none⟩ = some (.bool rC) := fun w' X => cell_at (X.keep kG (by simp; omega)) rfl
  have G1 : ∀ w', Touch [w.heap.size + 1 + 1] W4 w' → w'.cell? ⟨gb, 1, none⟩ = some (.bool rA) := fun w' X => cell_at (X.keep kG (by simp; omega)) rfl
  have kq' : Touch [] W4 W4.drew := (Touch.refl _ _).drew
  have k0 : Touch [w.heap.size + 1 + 1] W4 W4.drew := kq'.mono (by simp)
  refine wp_region_H (S := fun w' => Touch [w.heap.size + 1 + 1] W4 w') (by kernel_rfl) ?_
  generalize W4.drew = WD at *
  refine wpH_take (i := 0) (v := (.agg #[.int .i64 fl, .int .i64 bg, .slice a5 n5 c5, .slice b5 m5 d5])) (some 111) rfl rfl (by kernel_rfl) (by kernel_rfl) (by kernel_rfl) (fun _ _ _ h => h) (Or.inl ⟨by rfl, fun w' hS => (by have z0 := U0 _ hS; have z1 := U1 _ hS; have z2 := U2 _ hS; have z3 := U3 _ hS; go_simp)⟩) k0 ?_
  try simp only [Go.Act.put, List.setIfInBounds_toArray, List.set_cons_zero, List.set_cons_succ]
  refine wpH_take (i := 1) (v := (.agg #[.bool rC, .bool rA])) (some 112) rfl rfl (by kernel_rfl) (by kernel_rfl) (by kernel_rfl) (fun _ _ _ h => h) (Or.inl ⟨by rfl, fun w' hS => (by have z0 := G0 _ hS; have z1 := G1 _ hS; go_simp)⟩) k0 ?_
  try simp only [Go.Act.put, List.setIfInBounds_toArray, List.set_cons_zero, List.set_cons_succ]
  refine wpH_take (i := 2) (v := (.bool rC)) (some 113) rfl rfl (by kernel_rfl) (by kernel_rfl) (by kernel_rfl) (fun _ _ _ h => h) (Or.inl ⟨by rfl, fun w' hS => (by go_simp)⟩) k0 ?_
  try simp only [Go.Act.put, List.setIfInBounds_toArray, List.set_cons_zero, List.set_cons_succ]
  refine wpH_take (i := 3) (v := (.bool rA)) (some 114) rfl rfl (by kernel_rfl) (by kernel_rfl) (by kernel_rfl) (fun _ _ _ h => h) (Or.inl ⟨by rfl, fun w' hS => (by go_simp)⟩) k0 ?_
  try simp only [Go.Act.put, List.setIfInBounds_toArray, List.set_cons_zero, List.set_cons_succ]
  refine wpH_take (i := 4) (v := (.agg #[.bool rC, .bool rA])) (some 115) rfl rfl (by kernel_rfl) (by kernel_rfl) (by kernel_rfl) (fun _ _ _ h => h) (Or.inl ⟨by rfl, fun w' hS => (by go_simp)⟩) k0 ?_
  try simp only [Go.Act.put, List.setIfInBounds_toArray, List.set_cons_zero, List.set_cons_succ]
  refine wpH_take (i := 5) (v := (.bool true)) (some 116) rfl rfl (by kernel_rfl) (by kernel_rfl) (by kernel_rfl) (fun _ _ _ h => h) (Or.inl ⟨by rfl, fun w' hS => (by go_simp)⟩) k0 ?_
  try simp only [Go.Act.put, List.setIfInBounds_toArray, List.set_cons_zero, List.set_cons_succ]
  refine wpH_take (i := 6) (v := (.bool true)) (some 117) rfl rfl (by kernel_rfl) (by kernel_rfl) (by kernel_rfl) (fun _ _ _ h => h) (Or.inl ⟨by rfl, fun w' hS => (by go_simp)⟩) k0 ?_
  try simp only [Go.Act.put, List.setIfInBounds_toArray, List.set_cons_zero, List.set_cons_succ]
  refine wpH_take (i := 7) (v := (.int .i64 rE)) (some 118) rfl rfl (by kernel_rfl) (by kernel_rfl) (by kernel_rfl) (fun _ _ _ h => h) (Or.inl ⟨by rfl, fun w' hS => (by go_simp)⟩) k0 ?_
  try simp only [Go.Act.put, List.setIfInBounds_toArray, List.set_cons_zero, List.set_cons_succ]
  refine wpH_take (i := 8) (v := (.int .i64 rE)) (some 119) rfl rfl (by kernel_rfl) (by kernel_rfl) (by kernel_rfl) (fun _ _ _ h => h) (Or.inl ⟨by rfl, fun w' hS => (by go_simp)⟩) k0 ?_
  try simp only [Go.Act.put, List.setIfInBounds_toArray, List.set_cons_zero, List.set_cons_succ]
  refine wpH_take (i := 9) (v := (.bool true)) (some 120) rfl rfl (by kernel_rfl) (by kernel_rfl) (by kernel_rfl) (fun _ _ _ h => h) (Or.inl ⟨by rfl, fun w' hS => (by go_simp)⟩) k0 ?_
  try simp only [Go.Act.put, List.setIfInBounds_toArray, List.set_cons_zero, List.set_cons_succ]
  refine wpH_take (i := 10) (v := (.bool true)) (some 121) rfl rfl (by kernel_rfl) (by kernel_rfl) (by kernel_rfl) (fun _ _ _ h => h) (Or.inl ⟨by rfl, fun w' hS => (by go_simp)⟩) k0 ?_
  try simp only [Go.Act.put, List.setIfInBounds_toArray, List.set_cons_zero, List.set_cons_succ]
  refine wpH_call (i := 11) (o := { dst := none, op := Op.store 31 (Operand.tmp 6) (Operand.tmp 111), type := 0, pos := _, after := #[{ on := 0, ground := Ground.data }, { on := 6, ground := Ground.chain }, { on := 0, ground := Ground.phase }, { on := 1, ground := Ground.textOnly Departure.lateStores }, { on := 2, ground := Ground.textOnly Departure.lateStores }, { on := 3, ground := Ground.textOnly Departure.lateStores }, { on := 4, ground := Ground.textOnly Departure.lateStores }, { on := 5, ground := Ground.textOnly Departure.lateStores }, { on := 6, ground := Ground.textOnly Departure.lateStores }, { on := 7, ground := Ground.textOnly Departure.lateStores }, { on := 8, ground := Ground.textOnly Departure.lateStores }, { on := 9, ground := Ground.textOnly Departure.lateStores }, { on := 10, ground := Ground.textOnly Departure.lateStores }], guard := none }) (by kernel_rfl) rfl (fun K' hK => ?_)
  rw [if_pos (by rfl)]
  have kzd := kq'.keep kz (by simp)
  have z0 := cell_at (j := 0) kzd rfl
  have z1 := cell_at (j := 1) kzd rfl
  have z2 := cell_at (j := 2) kzd rfl
  have z3 := cell_at (j := 3) kzd rfl
  have zf := froz_at kzd
  go_simp
  obtain ⟨q4, tF⟩ := finZ kzd (.int .i64 fl) (.int .i64 bg) (.slice a5 n5 c5) (.slice b5 m5 d5)
  have ks := k0.trans' tF
  refine hK.out _ _ ks ?_
  clear hK
  try simp only [Go.Act.put, List.setIfInBounds_toArray, List.set_cons_zero, List.set_cons_succ]
  refine wpH_take (i := 12) (v := (.bool true)) (some 7) rfl rfl (by kernel_rfl) (by kernel_rfl) (by kernel_rfl) (fun _ _ _ h => h) (Or.inl ⟨by rfl, fun w' hS => (by go_simp)⟩) ks ?_
  try simp only [Go.Act.put, List.setIfInBounds_toArray, List.set_cons_zero, List.set_cons_succ]
  refine wpAnyH_done (by kernel_rfl) ?_ _
  clear kzd z0 z1 z2 z3 zf U0 U1 U2 U3 G0 G1
  go_wp2
  have q0 := cell_at (j := 0) q4 rfl
  have q1 := cell_at (j := 1) q4 rfl
  have q2 := cell_at (j := 2) q4 rfl
  have q3 := cell_at (j := 3) q4 rfl
  exact bodyPost_ret (v := .tuple #[.agg #[.int .i64 fl, .int .i64 bg, .slice a5 n5 c5, .slice b5 m5 d5], .bool true]) (by simp [results, Tryz.results6, go_sem, q0, q1, q2, q3]) rfl (HE.out _ _ _ _ _ _ _ _ _ _ (HBv.out.box ks (by omega) (by have := HSz.out; omega)) HLg.out)
end Go.Proofs.YtpihhlllembdeaaGreat
/- The law's act: a caller leaves. -/
namespace Go.Proofs.YtpihhlllembdeaaGreat
open Go.RowKit Go.Maps Go.ChangeMaps
set_option linter.unusedVariables false
set_option linter.unusedSimpArgs false
theorem leave_fl (T : Tb) (n x : Int) : (tLeave T n x).fl = T.fl ∧ (tLeave T n x).bg = T.bg := by
  unfold tLeave
  split
  · exact ⟨rfl, rfl⟩
  · exact ⟨(goneT_fl _ _ _).1, (goneT_fl _ _ _).2.1⟩
set_option maxHeartbeats 4000000 in
set_option maxRecDepth 100000 in
theorem act_leave (w : World) (t : Nat) (F : List Nat) (lv gv : Value) (ds : List De) (gs : List (K × Int)) (T : Tb) (N : Nat) (a : ActT) (hw : WfA a) (h : Bo w t F lv gv ds gs T N) (hN1 : N + 1 ≤ 1700000000000) (hk : kq a = 3 ∨ kq a = 4) :
    Calls Tryz.prog 6 #[PT t, tv T lv gv, av a] w fun e w' => actP w t F lv gv ds (tLeave T a.rn a.cl) (N + 1) e w' := by
  obtain ⟨la, lc, ga, gc, rfl, rfl⟩ := h.dt.form
  obtain ⟨n, hn⟩ : ∃ n, n = ds.length := ⟨_, rfl⟩
  obtain ⟨gn, hgn⟩ : ∃ gn, gn = gs.length := ⟨_, rfl⟩
  have HB : Hid (Bo w t F (.slice la n lc) (.slice ga gn gc) ds gs T N) := hid (by rw [hn, hgn]; exact h)
  have hnl := HB.out.dg.len
  have hFl := HB.out.tq.lt
  obtain ⟨V, hV⟩ : ∃ V, V = ((w.alloc (.cells #[.int .i64 T.fl, .int .i64 T.bg, .slice la n lc, .slice ga gn gc] 31)).alloc (.cells #[.int .i64 a.kd, .int .i64 a.rn, .int .i64 a.cl, .bool a.rf, .int .u16 a.k.1, .string a.k.2, .int .i64 a.o.1, .int .i64 a.o.2.1, .int .i64 a.o.2.2.1, .int .i64 a.o.2.2.2] 40)).alloc (.cells #[.int .i64 0, .int .i64 0, .slice none 0 0, .slice none 0 0] 31) := ⟨_, rfl⟩
  have T0 : Touch [] w V := by rw [hV]; exact (((Touch.refl _ _).alloc _).alloc _).alloc _
  have HTc : Hid (Touch F w V) := T0.mono (fun _ e => by cases e)
  have HV0 := hid T0
  have kT : V.heap[w.heap.size]? = some (.cells #[.int .i64 T.fl, .int .i64 T.bg, .slice la n lc, .slice ga gn gc] 31 (0, 0)) := by rw [hV]; exact (Below.heap_alloc _ _ _ (by simp; omega)).trans ((Below.heap_alloc _ _ _ (by simp)).trans (heap_alloc_new w _))
  have kA : V.heap[w.heap.size + 1]? = some (.cells #[.int .i64 a.kd, .int .i64 a.rn, .int .i64 a.cl, .bool a.rf, .int .u16 a.k.1, .string a.k.2, .int .i64 a.o.1, .int .i64 a.o.2.1, .int .i64 a.o.2.2.1, .int .i64 a.o.2.2.2] 40 (0, 0)) := by
    rw [hV]
    have := heap_alloc_new (w.alloc (.cells #[.int .i64 T.fl, .int .i64 T.bg, .slice la n lc, .slice ga gn gc] 31)) (.cells #[.int .i64 a.kd, .int .i64 a.rn, .int .i64 a.cl, .bool a.rf, .int .u16 a.k.1, .string a.k.2, .int .i64 a.o.1, .int .i64 a.o.2.1, .int .i64 a.o.2.2.1, .int .i64 a.o.2.2.2] 40)
    rw [World.size_alloc] at this
    exact (Below.heap_alloc _ _ _ (by simp)).trans this
  have kZ : V.heap[w.heap.size + 1 + 1]? = some (.cells #[.int .i64 0, .int .i64 0, .slice none 0 0, .slice none 0 0] 31 (0, 0)) := by
    rw [hV]
    have := heap_alloc_new ((w.alloc (.cells #[.int .i64 T.fl, .int .i64 T.bg, .slice la n lc, .slice ga gn gc] 31)).alloc (.cells #[.int .i64 a.kd, .int .i64 a.rn, .int .i64 a.cl, .bool a.rf, .int .u16 a.k.1, .string a.k.2, .int .i64 a.o.1, .int .i64 a.o.2.1, .int .i64 a.o.2.2.1, .int .i64 a.o.2.2.2] 40)) (.cells #[.int .i64 0, .int .i64 0, .slice none 0 0, .slice none 0 0] 31)
    rwa [World.size_alloc, World.size_alloc] at this
  have HN := hid hn
  have HFl := hid hFl
  have zn : (n : Int) ≤ 4096 := by omega
  unfold tv av
  rw [← hn, ← hgn]
  obtain ⟨Q, hQ⟩ : ∃ Q : Ending → World → Prop, Q = fun e w' => actP w t F (.slice la n lc) (.slice ga gn gc) ds (tLeave T a.rn a.cl) (N + 1) e w' := ⟨_, rfl⟩
  have HQ : Hid (∀ e w', actP w t F (.slice la n lc) (.slice ga gn gc) ds (tLeave T a.rn a.cl) (N + 1) e w' → Q e w') := hid (by rw [hQ]; exact fun e w' hh => hh)
  rw [← hQ]
  have HSz : Hid (V.heap.size = w.heap.size + 3) := hid (by rw [hV]; simp)
  have HBv := hid (HB.out.init T0)
  clear hQ h hFl
  have HP : Hid (Calls Tryz.prog 12 #[PT t, .int .i64 a.rn, .int .i64 a.cl] V fun e w1 => e = .returned (.tuple #[.agg #[.bool (tLeaveC T a.rn a.cl), .bool (tLeaveA T a.rn a.cl)], .int .i64 (tLeaveE T a.rn a.cl)]) ∧ ∃ F', BoV w V w1 t F (.slice la n lc) (.slice ga gn gc) ds (.slice la n lc) (.slice ga gn gc) ds gs (tLeave T a.rn a.cl) T (N + 1) F' ∧ Touch F V w1) := by
    refine (leaveT V t F T N (HB.out.tq.keep0 T0) (by omega) a.rn a.cl hw.2.1 hw.2.2.1).mono ?_
    rintro e w1 ⟨rfl, q⟩
    have tq := q.choose_spec.2.1
    obtain ⟨F', b⟩ := (HB.out.init T0).prog (Nat.le_refl _) q
    exact ⟨rfl, F', b, tq⟩
  have HD : Hid (∀ w' F', BoV w V w' t F (.slice la n lc) (.slice ga gn gc) ds (.slice la n lc) (.slice ga gn gc) ds gs (tLeave T a.rn a.cl) T (N + 1) F' → V.heap.size ≤ w'.heap.size → Calls Tryz.prog 13 #[.agg #[.int .i64 T.fl, .int .i64 T.bg, .slice la n lc, .slice ga gn gc], .int .i64 a.rn, .int .i64 a.cl] w' fun e w2 => ∃ a5 n5 c5 b5 m5 d5 ds5 gs5, e = .returned (.tuple #[.agg #[.int .i64 T.fl, .int .i64 T.bg, .slice a5 n5 c5, .slice b5 m5 d5], .bool (tLeaveC T a.rn a.cl), .bool (tLeaveA T a.rn a.cl), .int .i64 (tLeaveE T a.rn a.cl)]) ∧ (BoV w V w2 t F (.slice la n lc) (.slice ga gn gc) ds (.slice a5 n5 c5) (.slice b5 m5 d5) ds5 gs5 (tLeave T a.rn a.cl) (tLeave T a.rn a.cl) (N + 1) F' ∧ gs5.length ≤ N + 1) ∧ Touch [] w' w2) := fun w' F' X hVs => by
    refine (leave_ w' (.slice la n lc) (.slice ga gn gc) ds gs T N a.rn a.cl (X.dg HB.out.dg.ti HB.out.dg.lv HB.out.dg.who HB.out.gl HB.out.hN)).mono ?_
    rintro e w2 ⟨lv', gv', gs', rfl, q, hl⟩
    have t2 := q.choose_spec.2.1
    obtain ⟨ds5, X2⟩ := X.doc hVs q
    obtain ⟨a5, c5, e5⟩ := own_form X2.2.2.1.lr
    obtain ⟨b5, d5, e6⟩ := own_form X2.2.2.1.gr
    subst e5 e6
    refine ⟨a5, _, c5, b5, _, d5, ds5, gs', ?_, ⟨X2, by have := HB.out.gl; omega⟩, t2⟩
    unfold tv
    rw [(leave_fl T a.rn a.cl).1, (leave_fl T a.rn a.cl).2]
  have HE : Hid (∀ w' F' a5 n5 c5 b5 m5 d5 ds5 gs5, BoV w V w' t F (.slice la n lc) (.slice ga gn gc) ds (.slice a5 n5 c5) (.slice b5 m5 d5) ds5 gs5 (tLeave T a.rn a.cl) (tLeave T a.rn a.cl) (N + 1) F' → gs5.length ≤ N + 1 → Q (.returned (.tuple #[.agg #[.int .i64 T.fl, .int .i64 T.bg, .slice a5 n5 c5, .slice b5 m5 d5], .bool true])) w') := fun w' F' a5 n5 c5 b5 m5 d5 ds5 gs5 X hl => HQ.out _ _ ⟨.slice a5 n5 c5, .slice b5 m5 d5, gs5, by unfold tv; rw [(leave_fl T a.rn a.cl).1, (leave_fl T a.rn a.cl).2], X.fin hl hN1⟩
  clear HB HQ hn hgn T0 hw
  generalize T.fl = fl at *
  generalize T.bg = bg at *
  generalize tLeaveC T a.rn a.cl = rC at *
  generalize tLeaveA T a.rn a.cl = rA at *
  generalize tLeaveE T a.rn a.cl = rE at *
  have HKc := hid (And.intro kT (And.intro kA kZ))
  have a0 := cell_at (j := 0) kT rfl
  have a1 := cell_at (j := 1) kT rfl
  have a2 := cell_at (j := 2) kT rfl
  have a3 := cell_at (j := 3) kT rfl
  have af := froz_at kT
  have y0 := cell_at (j := 0) kA rfl
  have y1 := cell_at (j := 1) kA rfl
  have y2 := cell_at (j := 2) kA rfl
  have y3 := cell_at (j := 3) kA rfl
  have y4 := cell_at (j := 4) kA rfl
  have y5 := cell_at (j := 5) kA rfl
  have y6 := cell_at (j := 6) kA rfl
  have y7 := cell_at (j := 7) kA rfl
  have y8 := cell_at (j := 8) kA rfl
  have y9 := cell_at (j := 9) kA rfl
  have yf := froz_at kA
  have z0 := cell_at (j := 0) kZ rfl
  have z1 := cell_at (j := 1) kZ rfl
  have z2 := cell_at (j := 2) kZ rfl
  have z3 := cell_at (j := 3) kZ rfl
  have zf := froz_at kZ
  clear kT kA kZ
  unfold PT at HP ⊢
  go_enter Tryz.func6, Tryz.ntmps6
  go_upto_region 1 with fail
  rw [← hV]
  clear hV
  go_upto_block 0 with fail
  rw [show (wrap64 (a.kd.tmod 9 + 9)).tmod 9 = kq a from rfl]
  rcases hk with hk | hk
  · rw [hk]
    clear hk
    go_upto_region 8 with (go_at_call 12; refine HP.out.mono ?_; rintro e w1 ⟨rfl, F1, q1, t1⟩; obtain ⟨kT, kA, kZ⟩ := HKc.out; replace kT := t1.keep kT (fun e => by have := HFl.out _ e; omega); replace kA := t1.keep kA (fun e => by have := HFl.out _ e; omega); replace kZ := t1.keep kZ (fun e => by have := HFl.out _ e; omega); clear HKc a0 a1 a2 a3 af y0 y1 y2 y3 y4 y5 y6 y7 y8 y9 yf z0 z1 z2 z3 zf; have HKc := hid (And.intro kT (And.intro kA kZ)); have a0 := cell_at (j := 0) kT rfl; have a1 := cell_at (j := 1) kT rfl; have a2 := cell_at (j := 2) kT rfl; have a3 := cell_at (j := 3) kT rfl; have af := froz_at kT; have y0 := cell_at (j := 0) kA rfl; have y1 := cell_at (j := 1) kA rfl; have y2 := cell_at (j := 2) kA rfl; have y3 := cell_at (j := 3) kA rfl; have y4 := cell_at (j := 4) kA rfl; have y5 := cell_at (j := 5) kA rfl; have y6 := cell_at (j := 6) kA rfl; have y7 := cell_at (j := 7) kA rfl; have y8 := cell_at (j := 8) kA rfl; have y9 := cell_at (j := 9) kA rfl; have yf := froz_at kA; have z0 := cell_at (j := 0) kZ rfl; have z1 := cell_at (j := 1) kZ rfl; have z2 := cell_at (j := 2) kZ rfl; have z3 := cell_at (j := 3) kZ rfl; have zf := froz_at kZ; clear kT kA kZ; have HBv := hid q1; clear q1 t1)
    clear HP
    obtain ⟨W2, hW2⟩ : ∃ W, W = w1.alloc (.cells #[.bool rC, .bool rA] 57) := ⟨_, rfl⟩
    have tq : Touch [] w1 W2 := by rw [hW2]; exact (Touch.refl _ _).alloc _
    have kG : W2.heap[w1.heap.size]? = some (.cells #[.bool rC, .bool rA] 57 (0, 0)) := by rw [hW2]; exact heap_alloc_new w1 _
    have zg : w.heap.size + 3 ≤ w1.heap.size := by have := block_lt HKc.out.2.2; omega
    rw [← hW2]
    clear hW2
    obtain ⟨kT, kA, kZ⟩ := HKc.out
    replace kT := tq.keep kT (by first | (simp; done) | (simp; omega))
    replace kA := tq.keep kA (by first | (simp; done) | (simp; omega))
    replace kZ := tq.keep kZ (by first | (simp; done) | (simp; omega))
    clear HKc a0 a1 a2 a3 af y0 y1 y2 y3 y4 y5 y6 y7 y8 y9 yf z0 z1 z2 z3 zf
    have HKc := hid (And.intro kT (And.intro kA kZ))
    have a0 := cell_at (j := 0) kT rfl
    have a1 := cell_at (j := 1) kT rfl
    have a2 := cell_at (j := 2) kT rfl
    have a3 := cell_at (j := 3) kT rfl
    have af := froz_at kT
    have y0 := cell_at (j := 0) kA rfl
    have y1 := cell_at (j := 1) kA rfl
    have y2 := cell_at (j := 2) kA rfl
    have y3 := cell_at (j := 3) kA rfl
    have y4 := cell_at (j := 4) kA rfl
    have y5 := cell_at (j := 5) kA rfl
    have y6 := cell_at (j := 6) kA rfl
    have y7 := cell_at (j := 7) kA rfl
    have y8 := cell_at (j := 8) kA rfl
    have y9 := cell_at (j := 9) kA rfl
    have yf := froz_at kA
    have z0 := cell_at (j := 0) kZ rfl
    have z1 := cell_at (j := 1) kZ rfl
    have z2 := cell_at (j := 2) kZ rfl
    have z3 := cell_at (j := 3) kZ rfl
    have zf := froz_at kZ
    clear kT kA kZ
    replace HBv := hid (HBv.out.then0 tq)
    clear tq
    generalize w1.heap.size = gb at *
    go_upto_region 9 with (go_at_call 13; refine (HD.out _ _ HBv.out (by have := block_lt HKc.out.2.2; have := HSz.out; omega)).mono ?_; rintro e w3 ⟨a5, n5, c5, b5, m5, d5, ds5, gs5, rfl, ⟨q3, hl3⟩, t3⟩; obtain ⟨kT, kA, kZ⟩ := HKc.out; replace kT := t3.keep kT (by first | (simp; done) | (simp; omega)); replace kA := t3.keep kA (by first | (simp; done) | (simp; omega)); replace kZ := t3.keep kZ (by first | (simp; done) | (simp; omega)); clear HKc a0 a1 a2 a3 af y0 y1 y2 y3 y4 y5 y6 y7 y8 y9 yf z0 z1 z2 z3 zf; have HKc := hid (And.intro kT (And.intro kA kZ)); have a0 := cell_at (j := 0) kT rfl; have a1 := cell_at (j := 1) kT rfl; have a2 := cell_at (j := 2) kT rfl; have a3 := cell_at (j := 3) kT rfl; have af := froz_at kT; have y0 := cell_at (j := 0) kA rfl; have y1 := cell_at (j := 1) kA rfl; have y2 := cell_at (j := 2) kA rfl; have y3 := cell_at (j := 3) kA rfl; have y4 := cell_at (j := 4) kA rfl; have y5 := cell_at (j := 5) kA rfl; have y6 := cell_at (j := 6) kA rfl; have y7 := cell_at (j := 7) kA rfl; have y8 := cell_at (j := 8) kA rfl; have y9 := cell_at (j := 9) kA rfl; have yf := froz_at kA; have z0 := cell_at (j := 0) kZ rfl; have z1 := cell_at (j := 1) kZ rfl; have z2 := cell_at (j := 2) kZ rfl; have z3 := cell_at (j := 3) kZ rfl; have zf := froz_at kZ; clear kT kA kZ; replace kG := t3.keep kG (by simp); replace HBv := hid q3; have HLg := hid hl3; clear q3 t3 hl3)
    clear HD
    obtain ⟨W4, hW4⟩ : ∃ W, W = w3.alloc (.cells #[.int .i64 fl, .int .i64 bg, .slice a5 n5 c5, .slice b5 m5 d5] 31) := ⟨_, rfl⟩
    have tq : Touch [] w3 W4 := by rw [hW4]; exact (Touch.refl _ _).alloc _
    have kB : W4.heap[w3.heap.size]? = some (.cells #[.int .i64 fl, .int .i64 bg, .slice a5 n5 c5, .slice b5 m5 d5] 31 (0, 0)) := by rw [hW4]; exact heap_alloc_new w3 _
    have zb : w.heap.size + 3 ≤ w3.heap.size := by have := block_lt HKc.out.2.2; omega
    rw [← hW4]
    clear hW4
    replace kG := tq.keep kG (by simp)
    have kz := tq.keep HKc.out.2.2 (by simp)
    replace HBv := hid (HBv.out.then0 tq)
    clear tq HKc a0 a1 a2 a3 af y0 y1 y2 y3 y4 y5 y6 y7 y8 y9 yf z0 z1 z2 z3 zf
    generalize w3.heap.size = tb at *
    have U0 : ∀ w', Touch [w.heap.size + 1 + 1] W4 w' → w'.cell? ⟨tb, 0, none⟩ = some (.int .i64 fl) := fun w' X => cell_at (X.keep kB (by simp; omega)) rfl
    have U1 : ∀ w', Touch [w.heap.size + 1 + 1] W4 w' → w'.cell? ⟨tb, 1, none⟩ = some (.int .i64 bg) := fun w' X => cell_at (X.keep kB (by simp; omega)) rfl
    have U2 : ∀ w', Touch [w.heap.size + 1 + 1] W4 w' → w'.cell? ⟨tb, 2, none⟩ = some (.slice a5 n5 c5) := fun w' X => cell_at (X.keep kB (by simp; omega)) rfl
    have U3 : ∀ w', Touch [w.heap.size + 1 + 1] W4 w' → w'.cell? ⟨tb, 3, none⟩ = some (.slice b5 m5 d5) := fun w' X => cell_at (X.keep kB (by simp; omega)) rfl
    have G0 : ∀ w', Touch [w.heap.size + 1 + 1] W4 w' → w'.cell? ⟨gb, 0, none⟩ = some (.bool rC) := fun w' X => cell_at (X.keep kG (by simp; omega)) rfl
    have G1 : ∀ w', Touch [w.heap.size + 1 + 1] W4 w' → w'.cell? ⟨gb, 1, none⟩ = some (.bool rA) := fun w' X => cell_at (X.keep kG (by simp; omega)) rfl
    have kq' : Touch [] W4 W4.drew := (Touch.refl _ _).drew
    have k0 : Touch [w.heap.size + 1 + 1] W4 W4.drew := kq'.mono (by simp)
    refine wp_region_H (S := fun w' => Touch [w.heap.size + 1 + 1] W4 w') (by kernel_rfl) ?_
    generalize W4.drew = WD at *
    refine wpH_take (i := 0) (v := (.agg #[.int .i64 fl, .int .i64 bg, .slice a5 n5 c5, .slice b5 m5 d5])) (some 82) rfl rfl (by kernel_rfl) (by kernel_rfl) (by kernel_rfl) (fun _ _ _ h => h) (Or.inl ⟨by rfl, fun w' hS => (by have z0 := U0 _ hS; have z1 := U1 _ hS; have z2 := U2 _ hS; have z3 := U3 _ hS; go_simp)⟩) k0 ?_
    try simp only [Go.Act.put, List.setIfInBounds_toArray, List.set_cons_zero, List.set_cons_succ]
    refine wpH_take (i := 1) (v := (.agg #[.bool rC, .bool rA])) (some 83) rfl rfl (by kernel_rfl) (by kernel_rfl) (by kernel_rfl) (fun _ _ _ h => h) (Or.inl ⟨by rfl, fun w' hS => (by have z0 := G0 _ hS; have z1 := G1 _ hS; go_simp)⟩) k0 ?_
    try simp only [Go.Act.put, List.setIfInBounds_toArray, List.set_cons_zero, List.set_cons_succ]
    refine wpH_take (i := 2) (v := (.bool rC)) (some 84) rfl rfl (by kernel_rfl) (by kernel_rfl) (by kernel_rfl) (fun _ _ _ h => h) (Or.inl ⟨by rfl, fun w' hS => (by go_simp)⟩) k0 ?_
    try simp only [Go.Act.put, List.setIfInBounds_toArray, List.set_cons_zero, List.set_cons_succ]
    refine wpH_take (i := 3) (v := (.bool rA)) (some 85) rfl rfl (by kernel_rfl) (by kernel_rfl) (by kernel_rfl) (fun _ _ _ h => h) (Or.inl ⟨by rfl, fun w' hS => (by go_simp)⟩) k0 ?_
    try simp only [Go.Act.put, List.setIfInBounds_toArray, List.set_cons_zero, List.set_cons_succ]
    refine wpH_take (i := 4) (v := (.agg #[.bool rC, .bool rA])) (some 86) rfl rfl (by kernel_rfl) (by kernel_rfl) (by kernel_rfl) (fun _ _ _ h => h) (Or.inl ⟨by rfl, fun w' hS => (by go_simp)⟩) k0 ?_
    try simp only [Go.Act.put, List.setIfInBounds_toArray, List.set_cons_zero, List.set_cons_succ]
    refine wpH_take (i := 5) (v := (.bool true)) (some 87) rfl rfl (by kernel_rfl) (by kernel_rfl) (by kernel_rfl) (fun _ _ _ h => h) (Or.inl ⟨by rfl, fun w' hS => (by go_simp)⟩) k0 ?_
    try simp only [Go.Act.put, List.setIfInBounds_toArray, List.set_cons_zero, List.set_cons_succ]
    refine wpH_take (i := 6) (v := (.bool true)) (some 88) rfl rfl (by kernel_rfl) (by kernel_rfl) (by kernel_rfl) (fun _ _ _ h => h) (Or.inl ⟨by rfl, fun w' hS => (by go_simp)⟩) k0 ?_
    try simp only [Go.Act.put, List.setIfInBounds_toArray, List.set_cons_zero, List.set_cons_succ]
    refine wpH_take (i := 7) (v := (.int .i64 rE)) (some 89) rfl rfl (by kernel_rfl) (by kernel_rfl) (by kernel_rfl) (fun _ _ _ h => h) (Or.inl ⟨by rfl, fun w' hS => (by go_simp)⟩) k0 ?_
    try simp only [Go.Act.put, List.setIfInBounds_toArray, List.set_cons_zero, List.set_cons_succ]
    refine wpH_take (i := 8) (v := (.int .i64 rE)) (some 90) rfl rfl (by kernel_rfl) (by kernel_rfl) (by kernel_rfl) (fun _ _ _ h => h) (Or.inl ⟨by rfl, fun w' hS => (by go_simp)⟩) k0 ?_
    try simp only [Go.Act.put, List.setIfInBounds_toArray, List.set_cons_zero, List.set_cons_succ]
    refine wpH_take (i := 9) (v := (.bool true)) (some 91) rfl rfl (by kernel_rfl) (by kernel_rfl) (by kernel_rfl) (fun _ _ _ h => h) (Or.inl ⟨by rfl, fun w' hS => (by go_simp)⟩) k0 ?_
    try simp only [Go.Act.put, List.setIfInBounds_toArray, List.set_cons_zero, List.set_cons_succ]
    refine wpH_take (i := 10) (v := (.bool true)) (some 92) rfl rfl (by kernel_rfl) (by kernel_rfl) (by kernel_rfl) (fun _ _ _ h => h) (Or.inl ⟨by rfl, fun w' hS => (by go_simp)⟩) k0 ?_
    try simp only [Go.Act.put, List.setIfInBounds_toArray, List.set_cons_zero, List.set_cons_succ]
    refine wpH_call (i := 11) (o := { dst := none, op := Op.store 31 (Operand.tmp 6) (Operand.tmp 82), type := 0, pos := _, after := #[{ on := 0, ground := Ground.data }, { on := 6, ground := Ground.chain }, { on := 0, ground := Ground.phase }, { on := 1, ground := Ground.textOnly Departure.lateStores }, { on := 2, ground := Ground.textOnly Departure.lateStores }, { on := 3, ground := Ground.textOnly Departure.lateStores }, { on := 4, ground := Ground.textOnly Departure.lateStores }, { on := 5, ground := Ground.textOnly Departure.lateStores }, { on := 6, ground := Ground.textOnly Departure.lateStores }, { on := 7, ground := Ground.textOnly Departure.lateStores }, { on := 8, ground := Ground.textOnly Departure.lateStores }, { on := 9, ground := Ground.textOnly Departure.lateStores }, { on := 10, ground := Ground.textOnly Departure.lateStores }], guard := none }) (by kernel_rfl) rfl (fun K' hK => ?_)
    rw [if_pos (by rfl)]
    have kzd := kq'.keep kz (by simp)
    have z0 := cell_at (j := 0) kzd rfl
    have z1 := cell_at (j := 1) kzd rfl
    have z2 := cell_at (j := 2) kzd rfl
    have z3 := cell_at (j := 3) kzd rfl
    have zf := froz_at kzd
    go_simp
    obtain ⟨q4, tF⟩ := finZ kzd (.int .i64 fl) (.int .i64 bg) (.slice a5 n5 c5) (.slice b5 m5 d5)
    have ks := k0.trans' tF
    refine hK.out _ _ ks ?_
    clear hK
    try simp only [Go.Act.put, List.setIfInBounds_toArray, List.set_cons_zero, List.set_cons_succ]
    refine wpH_take (i := 12) (v := (.bool true)) (some 7) rfl rfl (by kernel_rfl) (by kernel_rfl) (by kernel_rfl) (fun _ _ _ h => h) (Or.inl ⟨by rfl, fun w' hS => (by go_simp)⟩) ks ?_
    try simp only [Go.Act.put, List.setIfInBounds_toArray, List.set_cons_zero, List.set_cons_succ]
    refine wpAnyH_done (by kernel_rfl) ?_ _
    clear kzd z0 z1 z2 z3 zf U0 U1 U2 U3 G0 G1
    go_wp2
    have q0 := cell_at (j := 0) q4 rfl
    have q1 := cell_at (j := 1) q4 rfl
    have q2 := cell_at (j := 2) q4 rfl
    have q3 := cell_at (j := 3) q4 rfl
    exact bodyPost_ret (v := .tuple #[.agg #[.int .i64 fl, .int .i64 bg, .slice a5 n5 c5, .slice b5 m5 d5], .bool true]) (by simp [results, Tryz.results6, go_sem, q0, q1, q2, q3]) rfl (HE.out _ _ _ _ _ _ _ _ _ _ (HBv.out.box ks (by omega) (by have := HSz.out; omega)) HLg.out)
  · rw [hk]
    clear hk
    go_upto_region 8 with (go_at_call 12; refine HP.out.mono ?_; rintro e w1 ⟨rfl, F1, q1, t1⟩; obtain ⟨kT, kA, kZ⟩ := HKc.out; replace kT := t1.keep kT (fun e => by have := HFl.out _ e; omega); replace kA := t1.keep kA (fun e => by have := HFl.out _ e; omega); replace kZ := t1.keep kZ (fun e => by have := HFl.out _ e; omega); clear HKc a0 a1 a2 a3 af y0 y1 y2 y3 y4 y5 y6 y7 y8 y9 yf z0 z1 z2 z3 zf; have HKc := hid (And.intro kT (And.intro kA kZ)); have a0 := cell_at (j := 0) kT rfl; have a1 := cell_at (j := 1) kT rfl; have a2 := cell_at (j := 2) kT rfl; have a3 := cell_at (j := 3) kT rfl; have af := froz_at kT; have y0 := cell_at (j := 0) kA rfl; have y1 := cell_at (j := 1) kA rfl; have y2 := cell_at (j := 2) kA rfl; have y3 := cell_at (j := 3) kA rfl; have y4 := cell_at (j := 4) kA rfl; have y5 := cell_at (j := 5) kA rfl; have y6 := cell_at (j := 6) kA rfl; have y7 := cell_at (j := 7) kA rfl; have y8 := cell_at (j := 8) kA rfl; have y9 := cell_at (j := 9) kA rfl; have yf := froz_at kA; have z0 := cell_at (j := 0) kZ rfl; have z1 := cell_at (j := 1) kZ rfl; have z2 := cell_at (j := 2) kZ rfl; have z3 := cell_at (j := 3) kZ rfl; have zf := froz_at kZ; clear kT kA kZ; have HBv := hid q1; clear q1 t1)
    clear HP
    obtain ⟨W2, hW2⟩ : ∃ W, W = w1.alloc (.cells #[.bool rC, .bool rA] 57) := ⟨_, rfl⟩
    have tq : Touch [] w1 W2 := by rw [hW2]; exact (Touch.refl _ _).alloc _
    have kG : W2.heap[w1.heap.size]? = some (.cells #[.bool rC, .bool rA] 57 (0, 0)) := by rw [hW2]; exact heap_alloc_new w1 _
    have zg : w.heap.size + 3 ≤ w1.heap.size := by have := block_lt HKc.out.2.2; omega
    rw [← hW2]
    clear hW2
    obtain ⟨kT, kA, kZ⟩ := HKc.out
    replace kT := tq.keep kT (by first | (simp; done) | (simp; omega))
    replace kA := tq.keep kA (by first | (simp; done) | (simp; omega))
    replace kZ := tq.keep kZ (by first | (simp; done) | (simp; omega))
    clear HKc a0 a1 a2 a3 af y0 y1 y2 y3 y4 y5 y6 y7 y8 y9 yf z0 z1 z2 z3 zf
    have HKc := hid (And.intro kT (And.intro kA kZ))
    have a0 := cell_at (j := 0) kT rfl
    have a1 := cell_at (j := 1) kT rfl
    have a2 := cell_at (j := 2) kT rfl
    have a3 := cell_at (j := 3) kT rfl
    have af := froz_at kT
    have y0 := cell_at (j := 0) kA rfl
    have y1 := cell_at (j := 1) kA rfl
    have y2 := cell_at (j := 2) kA rfl
    have y3 := cell_at (j := 3) kA rfl
    have y4 := cell_at (j := 4) kA rfl
    have y5 := cell_at (j := 5) kA rfl
    have y6 := cell_at (j := 6) kA rfl
    have y7 := cell_at (j := 7) kA rfl
    have y8 := cell_at (j := 8) kA rfl
    have y9 := cell_at (j := 9) kA rfl
    have yf := froz_at kA
    have z0 := cell_at (j := 0) kZ rfl
    have z1 := cell_at (j := 1) kZ rfl
    have z2 := cell_at (j := 2) kZ rfl
    have z3 := cell_at (j := 3) kZ rfl
    have zf := froz_at kZ
    clear kT kA kZ
    replace HBv := hid (HBv.out.then0 tq)
    clear tq
    generalize w1.heap.size = gb at *
    go_upto_region 9 with (go_at_call 13; refine (HD.out _ _ HBv.out (by have := block_lt HKc.out.2.2; have := HSz.out; omega)).mono ?_; rintro e w3 ⟨a5, n5, c5, b5, m5, d5, ds5, gs5, rfl, ⟨q3, hl3⟩, t3⟩; obtain ⟨kT, kA, kZ⟩ := HKc.out; replace kT := t3.keep kT (by first | (simp; done) | (simp; omega)); replace kA := t3.keep kA (by first | (simp; done) | (simp; omega)); replace kZ := t3.keep kZ (by first | (simp; done) | (simp; omega)); clear HKc a0 a1 a2 a3 af y0 y1 y2 y3 y4 y5 y6 y7 y8 y9 yf z0 z1 z2 z3 zf; have HKc := hid (And.intro kT (And.intro kA kZ)); have a0 := cell_at (j := 0) kT rfl; have a1 := cell_at (j := 1) kT rfl; have a2 := cell_at (j := 2) kT rfl; have a3 := cell_at (j := 3) kT rfl; have af := froz_at kT; have y0 := cell_at (j := 0) kA rfl; have y1 := cell_at (j := 1) kA rfl; have y2 := cell_at (j := 2) kA rfl; have y3 := cell_at (j := 3) kA rfl; have y4 := cell_at (j := 4) kA rfl; have y5 := cell_at (j := 5) kA rfl; have y6 := cell_at (j := 6) kA rfl; have y7 := cell_at (j := 7) kA rfl; have y8 := cell_at (j := 8) kA rfl; have y9 := cell_at (j := 9) kA rfl; have yf := froz_at kA; have z0 := cell_at (j := 0) kZ rfl; have z1 := cell_at (j := 1) kZ rfl; have z2 := cell_at (j := 2) kZ rfl; have z3 := cell_at (j := 3) kZ rfl; have zf := froz_at kZ; clear kT kA kZ; replace kG := t3.keep kG (by simp); replace HBv := hid q3; have HLg := hid hl3; clear q3 t3 hl3)
    clear HD
    obtain ⟨W4, hW4⟩ : ∃ W, W = w3.alloc (.cells #[.int .i64 fl, .int .i64 bg, .slice a5 n5 c5, .slice b5 m5 d5] 31) := ⟨_, rfl⟩
    have tq : Touch [] w3 W4 := by rw [hW4]; exact (Touch.refl _ _).alloc _
    have kB : W4.heap[w3.heap.size]? = some (.cells #[.int .i64 fl, .int .i64 bg, .slice a5 n5 c5, .slice b5 m5 d5] 31 (0, 0)) := by rw [hW4]; exact heap_alloc_new w3 _
    have zb : w.heap.size + 3 ≤ w3.heap.size := by have := block_lt HKc.out.2.2; omega
    rw [← hW4]
    clear hW4
    replace kG := tq.keep kG (by simp)
    have kz := tq.keep HKc.out.2.2 (by simp)
    replace HBv := hid (HBv.out.then0 tq)
    clear tq HKc a0 a1 a2 a3 af y0 y1 y2 y3 y4 y5 y6 y7 y8 y9 yf z0 z1 z2 z3 zf
    generalize w3.heap.size = tb at *
    have U0 : ∀ w', Touch [w.heap.size + 1 + 1] W4 w' → w'.cell? ⟨tb, 0, none⟩ = some (.int .i64 fl) := fun w' X => cell_at (X.keep kB (by simp; omega)) rfl
    have U1 : ∀ w', Touch [w.heap.size + 1 + 1] W4 w' → w'.cell? ⟨tb, 1, none⟩ = some (.int .i64 bg) := fun w' X => cell_at (X.keep kB (by simp; omega)) rfl
    have U2 : ∀ w', Touch [w.heap.size + 1 + 1] W4 w' → w'.cell? ⟨tb, 2, none⟩ = some (.slice a5 n5 c5) := fun w' X => cell_at (X.keep kB (by simp; omega)) rfl
    have U3 : ∀ w', Touch [w.heap.size + 1 + 1] W4 w' → w'.cell? ⟨tb, 3, none⟩ = some (.slice b5 m5 d5) := fun w' X => cell_at (X.keep kB (by simp; omega)) rfl
    have G0 : ∀ w', Touch [w.heap.size + 1 + 1] W4 w' → w'.cell? ⟨gb, 0, none⟩ = some (.bool rC) := fun w' X => cell_at (X.keep kG (by simp; omega)) rfl
    have G1 : ∀ w', Touch [w.heap.size + 1 + 1] W4 w' → w'.cell? ⟨gb, 1, none⟩ = some (.bool rA) := fun w' X => cell_at (X.keep kG (by simp; omega)) rfl
    have kq' : Touch [] W4 W4.drew := (Touch.refl _ _).drew
    have k0 : Touch [w.heap.size + 1 + 1] W4 W4.drew := kq'.mono (by simp)
    refine wp_region_H (S := fun w' => Touch [w.heap.size + 1 + 1] W4 w') (by kernel_rfl) ?_
    generalize W4.drew = WD at *
    refine wpH_take (i := 0) (v := (.agg #[.int .i64 fl, .int .i64 bg, .slice a5 n5 c5, .slice b5 m5 d5])) (some 82) rfl rfl (by kernel_rfl) (by kernel_rfl) (by kernel_rfl) (fun _ _ _ h => h) (Or.inl ⟨by rfl, fun w' hS => (by have z0 := U0 _ hS; have z1 := U1 _ hS; have z2 := U2 _ hS; have z3 := U3 _ hS; go_simp)⟩) k0 ?_
    try simp only [Go.Act.put, List.setIfInBounds_toArray, List.set_cons_zero, List.set_cons_succ]
    refine wpH_take (i := 1) (v := (.agg #[.bool rC, .bool rA])) (some 83) rfl rfl (by kernel_rfl) (by kernel_rfl) (by kernel_rfl) (fun _ _ _ h => h) (Or.inl ⟨by rfl, fun w' hS => (by have z0 := G0 _ hS; have z1 := G1 _ hS; go_simp)⟩) k0 ?_
    try simp only [Go.Act.put, List.setIfInBounds_toArray, List.set_cons_zero, List.set_cons_succ]
    refine wpH_take (i := 2) (v := (.bool rC)) (some 84) rfl rfl (by kernel_rfl) (by kernel_rfl) (by kernel_rfl) (fun _ _ _ h => h) (Or.inl ⟨by rfl, fun w' hS => (by go_simp)⟩) k0 ?_
    try simp only [Go.Act.put, List.setIfInBounds_toArray, List.set_cons_zero, List.set_cons_succ]
    refine wpH_take (i := 3) (v := (.bool rA)) (some 85) rfl rfl (by kernel_rfl) (by kernel_rfl) (by kernel_rfl) (fun _ _ _ h => h) (Or.inl ⟨by rfl, fun w' hS => (by go_simp)⟩) k0 ?_
    try simp only [Go.Act.put, List.setIfInBounds_toArray, List.set_cons_zero, List.set_cons_succ]
    refine wpH_take (i := 4) (v := (.agg #[.bool rC, .bool rA])) (some 86) rfl rfl (by kernel_rfl) (by kernel_rfl) (by kernel_rfl) (fun _ _ _ h => h) (Or.inl ⟨by rfl, fun w' hS => (by go_simp)⟩) k0 ?_
    try simp only [Go.Act.put, List.setIfInBounds_toArray, List.set_cons_zero, List.set_cons_succ]
    refine wpH_take (i := 5) (v := (.bool true)) (some 87) rfl rfl (by kernel_rfl) (by kernel_rfl) (by kernel_rfl) (fun _ _ _ h => h) (Or.inl ⟨by rfl, fun w' hS => (by go_simp)⟩) k0 ?_
    try simp only [Go.Act.put, List.setIfInBounds_toArray, List.set_cons_zero, List.set_cons_succ]
    refine wpH_take (i := 6) (v := (.bool true)) (some 88) rfl rfl (by kernel_rfl) (by kernel_rfl) (by kernel_rfl) (fun _ _ _ h => h) (Or.inl ⟨by rfl, fun w' hS => (by go_simp)⟩) k0 ?_
    try simp only [Go.Act.put, List.setIfInBounds_toArray, List.set_cons_zero, List.set_cons_succ]
    refine wpH_take (i := 7) (v := (.int .i64 rE)) (some 89) rfl rfl (by kernel_rfl) (by kernel_rfl) (by kernel_rfl) (fun _ _ _ h => h) (Or.inl ⟨by rfl, fun w' hS => (by go_simp)⟩) k0 ?_
    try simp only [Go.Act.put, List.setIfInBounds_toArray, List.set_cons_zero, List.set_cons_succ]
    refine wpH_take (i := 8) (v := (.int .i64 rE)) (some 90) rfl rfl (by kernel_rfl) (by kernel_rfl) (by kernel_rfl) (fun _ _ _ h => h) (Or.inl ⟨by rfl, fun w' hS => (by go_simp)⟩) k0 ?_
    try simp only [Go.Act.put, List.setIfInBounds_toArray, List.set_cons_zero, List.set_cons_succ]
    refine wpH_take (i := 9) (v := (.bool true)) (some 91) rfl rfl (by kernel_rfl) (by kernel_rfl) (by kernel_rfl) (fun _ _ _ h => h) (Or.inl ⟨by rfl, fun w' hS => (by go_simp)⟩) k0 ?_
    try simp only [Go.Act.put, List.setIfInBounds_toArray, List.set_cons_zero, List.set_cons_succ]
    refine wpH_take (i := 10) (v := (.bool true)) (some 92) rfl rfl (by kernel_rfl) (by kernel_rfl) (by kernel_rfl) (fun _ _ _ h => h) (Or.inl ⟨by rfl, fun w' hS => (by go_simp)⟩) k0 ?_
    try simp only [Go.Act.put, List.setIfInBounds_toArray, List.set_cons_zero, List.set_cons_succ]
    refine wpH_call (i := 11) (o := { dst := none, op := Op.store 31 (Operand.tmp 6) (Operand.tmp 82), type := 0, pos := _, after := #[{ on := 0, ground := Ground.data }, { on := 6, ground := Ground.chain }, { on := 0, ground := Ground.phase }, { on := 1, ground := Ground.textOnly Departure.lateStores }, { on := 2, ground := Ground.textOnly Departure.lateStores }, { on := 3, ground := Ground.textOnly Departure.lateStores }, { on := 4, ground := Ground.textOnly Departure.lateStores }, { on := 5, ground := Ground.textOnly Departure.lateStores }, { on := 6, ground := Ground.textOnly Departure.lateStores }, { on := 7, ground := Ground.textOnly Departure.lateStores }, { on := 8, ground := Ground.textOnly Departure.lateStores }, { on := 9, ground := Ground.textOnly Departure.lateStores }, { on := 10, ground := Ground.textOnly Departure.lateStores }], guard := none }) (by kernel_rfl) rfl (fun K' hK => ?_)
    rw [if_pos (by rfl)]
    have kzd := kq'.keep kz (by simp)
    have z0 := cell_at (j := 0) kzd rfl
    have z1 := cell_at (j := 1) kzd rfl
    have z2 := cell_at (j := 2) kzd rfl
    have z3 := cell_at (j := 3) kzd rfl
    have zf := froz_at kzd
    go_simp
    obtain ⟨q4, tF⟩ := finZ kzd (.int .i64 fl) (.int .i64 bg) (.slice a5 n5 c5) (.slice b5 m5 d5)
    have ks := k0.trans' tF
    refine hK.out _ _ ks ?_
    clear hK
    try simp only [Go.Act.put, List.setIfInBounds_toArray, List.set_cons_zero, List.set_cons_succ]
    refine wpH_take (i := 12) (v := (.bool true)) (some 7) rfl rfl (by kernel_rfl) (by kernel_rfl) (by kernel_rfl) (fun _ _ _ h => h) (Or.inl ⟨by rfl, fun w' hS => (by go_simp)⟩) ks ?_
    try simp only [Go.Act.put, List.setIfInBounds_toArray, List.set_cons_zero, List.set_cons_succ]
    refine wpAnyH_done (by kernel_rfl) ?_ _
    clear kzd z0 z1 z2 z3 zf U0 U1 U2 U3 G0 G1
    go_wp2
    have q0 := cell_at (j := 0) q4 rfl
    have q1 := cell_at (j := 1) q4 rfl
    have q2 := cell_at (j := 2) q4 rfl
    have q3 := cell_at (j := 3) q4 rfl
    exact bodyPost_ret (v := .tuple #[.agg #[.int .i64 fl, .int .i64 bg, .slice a5 n5 c5, .slice b5 m5 d5], .bool true]) (by simp [results, Tryz.results6, go_sem, q0, q1, q2, q3]) rfl (HE.out _ _ _ _ _ _ _ _ _ _ (HBv.out.box ks (by omega) (by have := HSz.out; omega)) HLg.out)
end Go.Proofs.YtpihhlllembdeaaGreat
/- The law's act: a caller joins. -/
namespace Go.Proofs.YtpihhlllembdeaaGreat
open Go.RowKit Go.Maps Go.ChangeMaps
set_option linter.unusedVariables false
set_option linter.unusedSimpArgs false
theorem join_fl (T : Tb) (n x : Int) : (tJoin T n x).fl = T.fl ∧ (tJoin T n x).bg = T.bg := by
  unfold tJoin
  split <;> exact ⟨rfl, rfl⟩
set_option maxHeartbeats 4000000 in
set_option maxRecDepth 100000 in
theorem act_join (w : World) (t : Nat) (F : List Nat) (lv gv : Value) (ds : List De) (gs : List (K × Int)) (T : Tb) (N : Nat) (a : ActT) (hw : WfA a) (h : Bo w t F lv gv ds gs T N) (hN1 : N + 1 ≤ 1700000000000) (hk : kq a = 2) :
    Calls Tryz.prog 6 #[PT t, tv T lv gv, av a] w fun e w' => actP w t F lv gv ds (tJoin T a.rn a.cl) (N + 1) e w' := by
  obtain ⟨la, lc, ga, gc, rfl, rfl⟩ := h.dt.form
  obtain ⟨n, hn⟩ : ∃ n, n = ds.length := ⟨_, rfl⟩
  obtain ⟨gn, hgn⟩ : ∃ gn, gn = gs.length := ⟨_, rfl⟩
  have HB : Hid (Bo w t F (.slice la n lc) (.slice ga gn gc) ds gs T N) := hid (by rw [hn, hgn]; exact h)
  have hnl := HB.out.dg.len
  have hFl := HB.out.tq.lt
  obtain ⟨V, hV⟩ : ∃ V, V = ((w.alloc (.cells #[.int .i64 T.fl, .int .i64 T.bg, .slice la n lc, .slice ga gn gc] 31)).alloc (.cells #[.int .i64 a.kd, .int .i64 a.rn, .int .i64 a.cl, .bool a.rf, .int .u16 a.k.1, .string a.k.2, .int .i64 a.o.1, .int .i64 a.o.2.1, .int .i64 a.o.2.2.1, .int .i64 a.o.2.2.2] 40)).alloc (.cells #[.int .i64 0, .int .i64 0, .slice none 0 0, .slice none 0 0] 31) := ⟨_, rfl⟩
  have T0 : Touch [] w V := by rw [hV]; exact (((Touch.refl _ _).alloc _).alloc _).alloc _
  have HTc : Hid (Touch F w V) := T0.mono (fun _ e => by cases e)
  have HV0 := hid T0
  have kT : V.heap[w.heap.size]? = some (.cells #[.int .i64 T.fl, .int .i64 T.bg, .slice la n lc, .slice ga gn gc] 31 (0, 0)) := by rw [hV]; exact (Below.heap_alloc _ _ _ (by simp; omega)).trans ((Below.heap_alloc _ _ _ (by simp)).trans (heap_alloc_new w _))
  have kA : V.heap[w.heap.size + 1]? = some (.cells #[.int .i64 a.kd, .int .i64 a.rn, .int .i64 a.cl, .bool a.rf, .int .u16 a.k.1, .string a.k.2, .int .i64 a.o.1, .int .i64 a.o.2.1, .int .i64 a.o.2.2.1, .int .i64 a.o.2.2.2] 40 (0, 0)) := by
    rw [hV]
    have := heap_alloc_new (w.alloc (.cells #[.int .i64 T.fl, .int .i64 T.bg, .slice la n lc, .slice ga gn gc] 31)) (.cells #[.int .i64 a.kd, .int .i64 a.rn, .int .i64 a.cl, .bool a.rf, .int .u16 a.k.1, .string a.k.2, .int .i64 a.o.1, .int .i64 a.o.2.1, .int .i64 a.o.2.2.1, .int .i64 a.o.2.2.2] 40)
    rw [World.size_alloc] at this
    exact (Below.heap_alloc _ _ _ (by simp)).trans this
  have kZ : V.heap[w.heap.size + 1 + 1]? = some (.cells #[.int .i64 0, .int .i64 0, .slice none 0 0, .slice none 0 0] 31 (0, 0)) := by
    rw [hV]
    have := heap_alloc_new ((w.alloc (.cells #[.int .i64 T.fl, .int .i64 T.bg, .slice la n lc, .slice ga gn gc] 31)).alloc (.cells #[.int .i64 a.kd, .int .i64 a.rn, .int .i64 a.cl, .bool a.rf, .int .u16 a.k.1, .string a.k.2, .int .i64 a.o.1, .int .i64 a.o.2.1, .int .i64 a.o.2.2.1, .int .i64 a.o.2.2.2] 40)) (.cells #[.int .i64 0, .int .i64 0, .slice none 0 0, .slice none 0 0] 31)
    rwa [World.size_alloc, World.size_alloc] at this
  have HN := hid hn
  have HFl := hid hFl
  have zn : (n : Int) ≤ 4096 := by omega
  unfold tv av
  rw [← hn, ← hgn]
  obtain ⟨Q, hQ⟩ : ∃ Q : Ending → World → Prop, Q = fun e w' => actP w t F (.slice la n lc) (.slice ga gn gc) ds (tJoin T a.rn a.cl) (N + 1) e w' := ⟨_, rfl⟩
  have HQ : Hid (∀ e w', actP w t F (.slice la n lc) (.slice ga gn gc) ds (tJoin T a.rn a.cl) (N + 1) e w' → Q e w') := hid (by rw [hQ]; exact fun e w' hh => hh)
  rw [← hQ]
  have HSz : Hid (V.heap.size = w.heap.size + 3) := hid (by rw [hV]; simp)
  have HBv := hid (HB.out.init T0)
  clear hQ h hFl
  have HD : Hid (Calls Tryz.prog 10 #[.agg #[.int .i64 T.fl, .int .i64 T.bg, .slice la n lc, .slice ga gn gc], .int .i64 a.rn, .int .i64 a.cl] V fun e w2 => ∃ a5 n5 c5 ds5, e = .returned (.tuple #[.agg #[.int .i64 T.fl, .int .i64 T.bg, .slice a5 n5 c5, .slice ga gn gc], .int .i64 (tJoinE T a.rn a.cl)]) ∧ BoV w V w2 t F (.slice la n lc) (.slice ga gn gc) ds (.slice a5 n5 c5) (.slice ga gn gc) ds5 gs T (tJoin T a.rn a.cl) N F ∧ Touch [] V w2) := by
    have X := HB.out.init T0
    refine (join_ V (.slice la n lc) (.slice ga gn gc) ds gs T N a.rn a.cl (X.dg HB.out.dg.ti HB.out.dg.lv HB.out.dg.who HB.out.gl HB.out.hN)).mono ?_
    rintro e w2 ⟨lv', rfl, q⟩
    have t2 := q.choose_spec.2.1
    obtain ⟨ds5, X2⟩ := X.doc (Nat.le_refl _) q
    obtain ⟨a5, c5, e5⟩ := own_form X2.2.2.1.lr
    subst e5
    refine ⟨a5, _, c5, ds5, ?_, X2, t2⟩
    unfold tv
    rw [(join_fl T a.rn a.cl).1, (join_fl T a.rn a.cl).2]
  have HP : Hid (∀ w' a5 n5 c5 ds5, BoV w V w' t F (.slice la n lc) (.slice ga gn gc) ds (.slice a5 n5 c5) (.slice ga gn gc) ds5 gs T (tJoin T a.rn a.cl) N F → V.heap.size ≤ w'.heap.size → Calls Tryz.prog 11 #[PT t, .int .i64 a.rn, .int .i64 a.cl] w' fun e w1 => e = .returned (.int .i64 (tJoinE T a.rn a.cl)) ∧ ∃ F', BoV w V w1 t F (.slice la n lc) (.slice ga gn gc) ds (.slice a5 n5 c5) (.slice ga gn gc) ds5 gs (tJoin T a.rn a.cl) (tJoin T a.rn a.cl) (N + 1) F' ∧ Touch F w' w1) := fun w' a5 n5 c5 ds5 X hVs => by
    refine (joinT w' t F T N X.1 (by omega) a.rn a.cl hw.2.1 hw.2.2.1).mono ?_
    rintro e w1 ⟨rfl, q⟩
    have tq := q.choose_spec.2.1
    obtain ⟨F', b⟩ := X.prog hVs q
    exact ⟨rfl, F', b, tq⟩
  have HE : Hid (∀ w' F' a5 n5 c5 ds5, BoV w V w' t F (.slice la n lc) (.slice ga gn gc) ds (.slice a5 n5 c5) (.slice ga gn gc) ds5 gs (tJoin T a.rn a.cl) (tJoin T a.rn a.cl) (N + 1) F' → Q (.returned (.tuple #[.agg #[.int .i64 T.fl, .int .i64 T.bg, .slice a5 n5 c5, .slice ga gn gc], .bool true])) w') := fun w' F' a5 n5 c5 ds5 X => HQ.out _ _ ⟨.slice a5 n5 c5, .slice ga gn gc, gs, by unfold tv; rw [(join_fl T a.rn a.cl).1, (join_fl T a.rn a.cl).2], X.fin (by have := HB.out.gl; omega) hN1⟩
  clear HB HQ hn hgn T0 hw
  generalize T.fl = fl at *
  generalize T.bg = bg at *
  generalize tJoinE T a.rn a.cl = rE at *
  have HKc := hid (And.intro kT (And.intro kA kZ))
  have a0 := cell_at (j := 0) kT rfl
  have a1 := cell_at (j := 1) kT rfl
  have a2 := cell_at (j := 2) kT rfl
  have a3 := cell_at (j := 3) kT rfl
  have af := froz_at kT
  have y0 := cell_at (j := 0) kA rfl
  have y1 := cell_at (j := 1) kA rfl
  have y2 := cell_at (j := 2) kA rfl
  have y3 := cell_at (j := 3) kA rfl
  have y4 := cell_at (j := 4) kA rfl
  have y5 := cell_at (j := 5) kA rfl
  have y6 := cell_at (j := 6) kA rfl
  have y7 := cell_at (j := 7) kA rfl
  have y8 := cell_at (j := 8) kA rfl
  have y9 := cell_at (j := 9) kA rfl
  have yf := froz_at kA
  have z0 := cell_at (j := 0) kZ rfl
  have z1 := cell_at (j := 1) kZ rfl
  have z2 := cell_at (j := 2) kZ rfl
  have z3 := cell_at (j := 3) kZ rfl
  have zf := froz_at kZ
  clear kT kA kZ
  unfold PT at HP ⊢
  go_enter Tryz.func6, Tryz.ntmps6
  go_upto_region 1 with fail
  rw [← hV]
  clear hV
  go_upto_block 0 with fail
  rw [show (wrap64 (a.kd.tmod 9 + 9)).tmod 9 = kq a from rfl, hk]
  clear hk
  go_upto_region 4 with (go_at_call 10; refine HD.out.mono ?_; rintro e w3 ⟨a5, n5, c5, ds5, rfl, q3, t3⟩; obtain ⟨kT, kA, kZ⟩ := HKc.out; replace kT := t3.keep kT (by first | (simp; done) | (simp; omega)); replace kA := t3.keep kA (by first | (simp; done) | (simp; omega)); replace kZ := t3.keep kZ (by first | (simp; done) | (simp; omega)); clear HKc a0 a1 a2 a3 af y0 y1 y2 y3 y4 y5 y6 y7 y8 y9 yf z0 z1 z2 z3 zf; have HKc := hid (And.intro kT (And.intro kA kZ)); have a0 := cell_at (j := 0) kT rfl; have a1 := cell_at (j := 1) kT rfl; have a2 := cell_at (j := 2) kT rfl; have a3 := cell_at (j := 3) kT rfl; have af := froz_at kT; have y0 := cell_at (j := 0) kA rfl; have y1 := cell_at (j := 1) kA rfl; have y2 := cell_at (j := 2) kA rfl; have y3 := cell_at (j := 3) kA rfl; have y4 := cell_at (j := 4) kA rfl; have y5 := cell_at (j := 5) kA rfl; have y6 := cell_at (j := 6) kA rfl; have y7 := cell_at (j := 7) kA rfl; have y8 := cell_at (j := 8) kA rfl; have y9 := cell_at (j := 9) kA rfl; have yf := froz_at kA; have z0 := cell_at (j := 0) kZ rfl; have z1 := cell_at (j := 1) kZ rfl; have z2 := cell_at (j := 2) kZ rfl; have z3 := cell_at (j := 3) kZ rfl; have zf := froz_at kZ; clear kT kA kZ; replace HBv := hid q3; clear q3 t3)
  clear HD
  obtain ⟨W4, hW4⟩ : ∃ W, W = w3.alloc (.cells #[.int .i64 fl, .int .i64 bg, .slice a5 n5 c5, .slice ga gn gc] 31) := ⟨_, rfl⟩
  have tq : Touch [] w3 W4 := by rw [hW4]; exact (Touch.refl _ _).alloc _
  have kB : W4.heap[w3.heap.size]? = some (.cells #[.int .i64 fl, .int .i64 bg, .slice a5 n5 c5, .slice ga gn gc] 31 (0, 0)) := by rw [hW4]; exact heap_alloc_new w3 _
  have zb : w.heap.size + 3 ≤ w3.heap.size := by have := block_lt HKc.out.2.2; omega
  rw [← hW4]
  clear hW4
  have kz := tq.keep HKc.out.2.2 (by simp)
  have kA := tq.keep HKc.out.2.1 (by simp)
  replace HBv := hid (HBv.out.then0 tq)
  have HV4 : Hid (V.heap.size ≤ W4.heap.size) := hid (by have := HSz.out; have := tq.size; omega)
  clear tq HKc a0 a1 a2 a3 af y0 y1 y2 y3 y4 y5 y6 y7 y8 y9 yf z0 z1 z2 z3 zf
  generalize w3.heap.size = tb at *
  have U0 : ∀ w', Touch ((w.heap.size + 1 + 1) :: F) W4 w' → w'.cell? ⟨tb, 0, none⟩ = some (.int .i64 fl) := fun w' X => cell_at (X.keep kB (fun e => by rcases List.mem_cons.1 e with e | e; omega; have := HFl.out _ e; omega)) rfl
  have U1 : ∀ w', Touch ((w.heap.size + 1 + 1) :: F) W4 w' → w'.cell? ⟨tb, 1, none⟩ = some (.int .i64 bg) := fun w' X => cell_at (X.keep kB (fun e => by rcases List.mem_cons.1 e with e | e; omega; have := HFl.out _ e; omega)) rfl
  have U2 : ∀ w', Touch ((w.heap.size + 1 + 1) :: F) W4 w' → w'.cell? ⟨tb, 2, none⟩ = some (.slice a5 n5 c5) := fun w' X => cell_at (X.keep kB (fun e => by rcases List.mem_cons.1 e with e | e; omega; have := HFl.out _ e; omega)) rfl
  have U3 : ∀ w', Touch ((w.heap.size + 1 + 1) :: F) W4 w' → w'.cell? ⟨tb, 3, none⟩ = some (.slice ga gn gc) := fun w' X => cell_at (X.keep kB (fun e => by rcases List.mem_cons.1 e with e | e; omega; have := HFl.out _ e; omega)) rfl
  have G1 : ∀ w', Touch ((w.heap.size + 1 + 1) :: F) W4 w' → w'.cell? ⟨w.heap.size + 1, 1, none⟩ = some (.int .i64 a.rn) := fun w' X => cell_at (X.keep kA (fun e => by rcases List.mem_cons.1 e with e | e; omega; have := HFl.out _ e; omega)) rfl
  have G2 : ∀ w', Touch ((w.heap.size + 1 + 1) :: F) W4 w' → w'.cell? ⟨w.heap.size + 1, 2, none⟩ = some (.int .i64 a.cl) := fun w' X => cell_at (X.keep kA (fun e => by rcases List.mem_cons.1 e with e | e; omega; have := HFl.out _ e; omega)) rfl
  have kq' : Touch [] W4 W4.drew := (Touch.refl _ _).drew
  have k0 : Touch ((w.heap.size + 1 + 1) :: F) W4 W4.drew := kq'.mono (fun _ e => by cases e)
  clear kA kB
  refine wp_region_H (S := fun w' => Touch ((w.heap.size + 1 + 1) :: F) W4 w') (by kernel_rfl) ?_
  generalize W4.drew = WD at *
  refine wpH_take (i := 0) (v := (.agg #[.int .i64 fl, .int .i64 bg, .slice a5 n5 c5, .slice ga gn gc])) (some 50) rfl rfl (by kernel_rfl) (by kernel_rfl) (by kernel_rfl) (fun _ _ _ h => h) (Or.inl ⟨by rfl, fun w' hS => (by have z0 := U0 _ hS; have z1 := U1 _ hS; have z2 := U2 _ hS; have z3 := U3 _ hS; go_simp)⟩) k0 ?_
  try simp only [Go.Act.put, List.setIfInBounds_toArray, List.set_cons_zero, List.set_cons_succ]
  refine wpH_take (i := 1) (v := (.pointer (some ⟨t, 0, none⟩))) (some 51) rfl rfl (by kernel_rfl) (by kernel_rfl) (by kernel_rfl) (fun _ _ _ h => h) (Or.inl ⟨by rfl, fun w' hS => (by go_simp)⟩) k0 ?_
  try simp only [Go.Act.put, List.setIfInBounds_toArray, List.set_cons_zero, List.set_cons_succ]
  refine wpH_take (i := 2) (v := (.pointer (some ⟨w.heap.size + 1, 1, none⟩))) (some 52) rfl rfl (by kernel_rfl) (by kernel_rfl) (by kernel_rfl) (fun _ _ _ h => h) (Or.inl ⟨by rfl, fun w' hS => (by go_simp)⟩) k0 ?_
  try simp only [Go.Act.put, List.setIfInBounds_toArray, List.set_cons_zero, List.set_cons_succ]
  refine wpH_take (i := 3) (v := (.int .i64 a.rn)) (some 53) rfl rfl (by kernel_rfl) (by kernel_rfl) (by kernel_rfl) (fun _ _ _ h => h) (Or.inl ⟨by rfl, fun w' hS => (by have z0 := G1 _ hS; go_simp)⟩) k0 ?_
  try simp only [Go.Act.put, List.setIfInBounds_toArray, List.set_cons_zero, List.set_cons_succ]
  refine wpH_take (i := 4) (v := (.pointer (some ⟨w.heap.size + 1, 2, none⟩))) (some 54) rfl rfl (by kernel_rfl) (by kernel_rfl) (by kernel_rfl) (fun _ _ _ h => h) (Or.inl ⟨by rfl, fun w' hS => (by go_simp)⟩) k0 ?_
  try simp only [Go.Act.put, List.setIfInBounds_toArray, List.set_cons_zero, List.set_cons_succ]
  refine wpH_take (i := 5) (v := (.int .i64 a.cl)) (some 55) rfl rfl (by kernel_rfl) (by kernel_rfl) (by kernel_rfl) (fun _ _ _ h => h) (Or.inl ⟨by rfl, fun w' hS => (by have z0 := G2 _ hS; go_simp)⟩) k0 ?_
  try simp only [Go.Act.put, List.setIfInBounds_toArray, List.set_cons_zero, List.set_cons_succ]
  refine wpH_take (i := 7) (v := (.int .i64 rE)) (some 57) rfl rfl (by kernel_rfl) (by kernel_rfl) (by kernel_rfl) (fun _ _ _ h => h) (Or.inl ⟨by rfl, fun w' hS => (by go_simp)⟩) k0 ?_
  try simp only [Go.Act.put, List.setIfInBounds_toArray, List.set_cons_zero, List.set_cons_succ]
  refine wpH_call (i := 6) (o := { dst := some 56, op := Op.call { callee := Callee.value (Operand.func 11), args := #[Operand.tmp 51, Operand.tmp 53, Operand.tmp 55], argTypes := #[23, 3, 3] }, type := 24, pos := _, after := #[{ on := 1, ground := Ground.data }, { on := 3, ground := Ground.data }, { on := 5, ground := Ground.data }], guard := none }) (by kernel_rfl) rfl (fun K' hK => ?_)
  rw [if_pos (by rfl)]
  go_simp
  refine (HP.out _ _ _ _ _ (HBv.out.then0 kq') (Nat.le_trans HV4.out kq'.size)).mono ?_
  rintro e' w5 ⟨rfl, F2, b5, t5⟩
  have kS : Touch ((w.heap.size + 1 + 1) :: F) W4 w5 := k0.trans' (t5.mono (fun x e => List.mem_cons_of_mem _ e))
  refine hK.out _ _ kS ?_
  clear hK
  try simp only [Go.Act.put, List.setIfInBounds_toArray, List.set_cons_zero, List.set_cons_succ]
  refine wpH_take (i := 8) (v := (.bool true)) (some 58) rfl rfl (by kernel_rfl) (by kernel_rfl) (by kernel_rfl) (fun _ _ _ h => h) (Or.inl ⟨by rfl, fun w' hS => (by go_simp)⟩) kS ?_
  try simp only [Go.Act.put, List.setIfInBounds_toArray, List.set_cons_zero, List.set_cons_succ]
  refine wpH_call (i := 9) (o := { dst := none, op := Op.store 31 (Operand.tmp 6) (Operand.tmp 50), type := 0, pos := _, after := #[{ on := 0, ground := Ground.data }, { on := 6, ground := Ground.chain }, { on := 0, ground := Ground.phase }, { on := 1, ground := Ground.textOnly Departure.lateStores }, { on := 2, ground := Ground.textOnly Departure.lateStores }, { on := 3, ground := Ground.textOnly Departure.lateStores }, { on := 4, ground := Ground.textOnly Departure.lateStores }, { on := 5, ground := Ground.textOnly Departure.lateStores }, { on := 6, ground := Ground.textOnly Departure.lateStoresUnsure }, { on := 7, ground := Ground.textOnly Departure.lateStores }, { on := 8, ground := Ground.textOnly Departure.lateStores }], guard := none }) (by kernel_rfl) rfl (fun K' hK => ?_)
  rw [if_pos (by rfl)]
  have kzd := t5.keep (kq'.keep kz (by simp)) (fun e => by have := HFl.out _ e; omega)
  have z0 := cell_at (j := 0) kzd rfl
  have z1 := cell_at (j := 1) kzd rfl
  have z2 := cell_at (j := 2) kzd rfl
  have z3 := cell_at (j := 3) kzd rfl
  have zf := froz_at kzd
  go_simp
  obtain ⟨q4, tF⟩ := finZ kzd (.int .i64 fl) (.int .i64 bg) (.slice a5 n5 c5) (.slice ga gn gc)
  have ks := kS.trans' (tF.mono (fun x e => by simp at e; simp [e]))
  refine hK.out _ _ ks ?_
  clear hK
  try simp only [Go.Act.put, List.setIfInBounds_toArray, List.set_cons_zero, List.set_cons_succ]
  refine wpH_take (i := 10) (v := (.bool true)) (some 7) rfl rfl (by kernel_rfl) (by kernel_rfl) (by kernel_rfl) (fun _ _ _ h => h) (Or.inl ⟨by rfl, fun w' hS => (by go_simp)⟩) ks ?_
  try simp only [Go.Act.put, List.setIfInBounds_toArray, List.set_cons_zero, List.set_cons_succ]
  refine wpAnyH_done (by kernel_rfl) ?_ _
  clear kzd z0 z1 z2 z3 zf U0 U1 U2 U3 G1 G2
  go_wp2
  have q0 := cell_at (j := 0) q4 rfl
  have q1 := cell_at (j := 1) q4 rfl
  have q2 := cell_at (j := 2) q4 rfl
  have q3 := cell_at (j := 3) q4 rfl
  exact bodyPost_ret (v := .tuple #[.agg #[.int .i64 fl, .int .i64 bg, .slice a5 n5 c5, .slice ga gn gc], .bool true]) (by simp [results, Tryz.results6, go_sem, q0, q1, q2, q3]) rfl (HE.out _ _ _ _ _ _ (b5.box tF (by omega) (by have := HSz.out; omega)))
end Go.Proofs.YtpihhlllembdeaaGreat
