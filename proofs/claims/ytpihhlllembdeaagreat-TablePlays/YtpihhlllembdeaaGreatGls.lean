/- The contracts of the document's Right and of the law's key, run, same and right. -/
import Derived.Test.YtpihhlllembdeaaGreatDof
import Derived.Test.YtpihhlllembdeaaGreatRec
import Derived.Test.YtpihhlllembdeaaGreatRgt
import Derived.Test.YtpihhlllembdeaaGreatGbo
import Derived.Test.YtpihhlllembdeaaGreatOpt
namespace Go.Proofs.YtpihhlllembdeaaGreat
open Go.RowKit Go.Maps Go.ChangeMaps
set_option linter.unusedVariables false
set_option linter.unusedSimpArgs false
theorem eqr (w : World) (a b c : Int) : (binOp .eql 139 (.agg #[.int .i64 a, .int .i64 b, .int .i64 c]) (.agg #[.int .i64 0, .int .i64 0, .int .i64 0])).run Tryz.prog w = .ok (.bool (nonF a b c)) w := by
  unfold nonF
  by_cases h1 : a = 0
  · by_cases h2 : b = 0
    · by_cases h3 : c = 0
      · go_simp
      · go_simp
    · go_simp
  · go_simp
set_option maxHeartbeats 4000000 in
theorem rright_ (w : World) (o : O) : Calls Tryz.prog 70 #[ov o] w fun e w' => e = .returned (.bool (right o)) ∧ Touch [] w w' := by
  obtain ⟨v, a, x, y⟩ := o
  have eq := fun w => eqr w a x y
  unfold ov right mayF
  simp only
  by_cases h0 : a = 0
  · subst h0
    have e0 : ((if (0 : Int) = 0 then decide (x = 0) && decide (y = 0) else if (0 : Int) = 1 then decide (1 ≤ y) else if (0 : Int) = 2 then decide (1 ≤ y) else if (0 : Int) = 3 then decide (x = 0) && decide (y = 0) else if (0 : Int) = 4 then decide (x = 0) && decide (y = 0) else if (0 : Int) = 5 then decide (x = 0) && decide (1 ≤ y) else false) && (nonF 0 x y || decide (v = 0))) = nonF 0 x y := by
      simp only [if_true, nonF]
      by_cases hx : x = 0 <;> by_cases hy : y = 0 <;> simp [hx, hy]
    rw [e0]
    clear e0
    generalize nonF 0 x y = r at *
    go_enter Tryz.func70, Tryz.ntmps70
    go_wp2
    go_ret
    exact ⟨rfl, by repeat (first | exact Touch.refl _ _ | apply Touch.alloc | (refine Touch.setCell ?_ (Or.inr (by simp)) _))⟩
  have e1 : nonF a x y = false := by simp [nonF, h0]
  rw [e1]
  clear eq e1
  have b0 : (a == 0) = false := by simp [h0]
  rw [if_neg h0]
  by_cases h1 : a = 1
  · subst h1
    rw [if_pos rfl]
    by_cases hy : 1 ≤ y
    · go_enter Tryz.func70, Tryz.ntmps70
      go_wp2
      go_ret
      exact ⟨by by_cases hv : v = 0 <;> simp [hy, hv], by repeat (first | exact Touch.refl _ _ | apply Touch.alloc | (refine Touch.setCell ?_ (Or.inr (by simp)) _))⟩
    · go_enter Tryz.func70, Tryz.ntmps70
      go_wp2
      go_ret
      exact ⟨by (rw [decide_eq_false (show ¬ 1 ≤ y by omega)]; simp), by repeat (first | exact Touch.refl _ _ | apply Touch.alloc | (refine Touch.setCell ?_ (Or.inr (by simp)) _))⟩
  rw [if_neg h1]
  have b1 : (a == 1) = false := by simp [h1]
  by_cases h2 : a = 2
  · subst h2
    rw [if_pos rfl]
    by_cases hy : 1 ≤ y
    · go_enter Tryz.func70, Tryz.ntmps70
      go_wp2
      go_ret
      exact ⟨by by_cases hv : v = 0 <;> simp [hy, hv], by repeat (first | exact Touch.refl _ _ | apply Touch.alloc | (refine Touch.setCell ?_ (Or.inr (by simp)) _))⟩
    · go_enter Tryz.func70, Tryz.ntmps70
      go_wp2
      go_ret
      exact ⟨by (rw [decide_eq_false (show ¬ 1 ≤ y by omega)]; simp), by repeat (first | exact Touch.refl _ _ | apply Touch.alloc | (refine Touch.setCell ?_ (Or.inr (by simp)) _))⟩
  rw [if_neg h2]
  have b2 : (a == 2) = false := by simp [h2]
  by_cases h3 : a = 3
  · subst h3
    rw [if_pos rfl]
    by_cases hx : x = 0
    · subst hx
      by_cases hy : y = 0
      · subst hy
        go_enter Tryz.func70, Tryz.ntmps70
        go_wp2
        go_ret
        exact ⟨by by_cases hv : v = 0 <;> simp [hv], by repeat (first | exact Touch.refl _ _ | apply Touch.alloc | (refine Touch.setCell ?_ (Or.inr (by simp)) _))⟩
      · have hy' : (y == 0) = false := by simp [hy]
        go_enter Tryz.func70, Tryz.ntmps70
        go_wp2
        go_ret
        exact ⟨by simp [hy], by repeat (first | exact Touch.refl _ _ | apply Touch.alloc | (refine Touch.setCell ?_ (Or.inr (by simp)) _))⟩
    · have hx' : (x == 0) = false := by simp [hx]
      go_enter Tryz.func70, Tryz.ntmps70
      go_wp2
      go_ret
      exact ⟨by simp [hx], by repeat (first | exact Touch.refl _ _ | apply Touch.alloc | (refine Touch.setCell ?_ (Or.inr (by simp)) _))⟩
  rw [if_neg h3]
  have b3 : (a == 3) = false := by simp [h3]
  by_cases h4 : a = 4
  · subst h4
    rw [if_pos rfl]
    by_cases hx : x = 0
    · subst hx
      by_cases hy : y = 0
      · subst hy
        go_enter Tryz.func70, Tryz.ntmps70
        go_wp2
        go_ret
        exact ⟨by by_cases hv : v = 0 <;> simp [hv], by repeat (first | exact Touch.refl _ _ | apply Touch.alloc | (refine Touch.setCell ?_ (Or.inr (by simp)) _))⟩
      · have hy' : (y == 0) = false := by simp [hy]
        go_enter Tryz.func70, Tryz.ntmps70
        go_wp2
        go_ret
        exact ⟨by simp [hy], by repeat (first | exact Touch.refl _ _ | apply Touch.alloc | (refine Touch.setCell ?_ (Or.inr (by simp)) _))⟩
    · have hx' : (x == 0) = false := by simp [hx]
      go_enter Tryz.func70, Tryz.ntmps70
      go_wp2
      go_ret
      exact ⟨by simp [hx], by repeat (first | exact Touch.refl _ _ | apply Touch.alloc | (refine Touch.setCell ?_ (Or.inr (by simp)) _))⟩
  rw [if_neg h4]
  have b4 : (a == 4) = false := by simp [h4]
  by_cases h5 : a = 5
  · subst h5
    rw [if_pos rfl]
    by_cases hx : x = 0
    · subst hx
      by_cases hy : 1 ≤ y
      · go_enter Tryz.func70, Tryz.ntmps70
        go_wp2
        go_ret
        exact ⟨by by_cases hv : v = 0 <;> simp [hy, hv], by repeat (first | exact Touch.refl _ _ | apply Touch.alloc | (refine Touch.setCell ?_ (Or.inr (by simp)) _))⟩
      · go_enter Tryz.func70, Tryz.ntmps70
        go_wp2
        go_ret
        exact ⟨by (rw [decide_eq_false (show ¬ 1 ≤ y by omega)]; simp), by repeat (first | exact Touch.refl _ _ | apply Touch.alloc | (refine Touch.setCell ?_ (Or.inr (by simp)) _))⟩
    · have hx' : (x == 0) = false := by simp [hx]
      go_enter Tryz.func70, Tryz.ntmps70
      go_wp2
      go_ret
      exact ⟨by simp [hx], by repeat (first | exact Touch.refl _ _ | apply Touch.alloc | (refine Touch.setCell ?_ (Or.inr (by simp)) _))⟩
  rw [if_neg h5]
  have b5 : (a == 5) = false := by simp [h5]
  go_enter Tryz.func70, Tryz.ntmps70
  go_wp2
  go_ret
  exact ⟨rfl, by repeat (first | exact Touch.refl _ _ | apply Touch.alloc | (refine Touch.setCell ?_ (Or.inr (by simp)) _))⟩
theorem lright_ (w : World) (o : O) : Calls Tryz.prog 52 #[ov o] w fun e w' => e = .returned (.bool (right o)) ∧ Touch [] w w' := by
  have HR : Hid (∀ w, Calls Tryz.prog 70 #[ov o] w fun e w' => e = .returned (.bool (right o)) ∧ Touch [] w w') := fun w => rright_ w o
  obtain ⟨v, a, x, y⟩ := o
  unfold ov at HR ⊢
  generalize right (v, a, x, y) = r at *
  simp only at HR ⊢
  go_enter Tryz.func52, Tryz.ntmps52
  go_wp2_with (go_at_call 70; refine (HR.out _).mono ?_; rintro e w2 ⟨rfl, t2⟩; have T2 := hid t2; clear t2)
  go_ret
  exact ⟨rfl, ((Touch.refl _ _).alloc _).trans' T2.out⟩
theorem lkey_ (w : World) (k : K) : Calls Tryz.prog 18 #[kv k] w fun e w' => e = .returned (kv k) ∧ Touch [] w w' := by
  unfold kv
  go_enter Tryz.func18, Tryz.ntmps18
  go_wp2
  refine bodyPost_ret (v := .agg #[.int .u16 k.1, .string k.2]) (by simp [results, Tryz.results18, go_sem]) rfl ⟨rfl, ?_⟩
  repeat (first | exact Touch.refl _ _ | apply Touch.alloc | (refine Touch.setCell ?_ (Or.inr (by simp)) _))
theorem lrun_ (w : World) (d : De) (va : Option Addr) (vn vc : Nat) (hv : d.v = .slice va vn vc) : Calls Tryz.prog 24 #[dv8 d] w fun e w' => e = .returned (rv d.R) ∧ Touch [] w w' := by
  unfold dv8 rv
  rw [hv]
  go_enter Tryz.func24, Tryz.ntmps24
  go_wp2
  refine bodyPost_ret (v := .agg #[.int .i64 d.R.run, .int .u16 d.R.sp, .string d.R.nm, .int .i64 d.R.gen, .bool d.R.rf]) (by simp [results, Tryz.results24, go_sem]) rfl ⟨rfl, ?_⟩
  repeat (first | exact Touch.refl _ _ | apply Touch.alloc | (refine Touch.setCell ?_ (Or.inr (by simp)) _))
set_option maxHeartbeats 2000000 in
theorem same_ (w : World) (a b : Value) (xs : List Int) (ha : Rd w a xs) (hb : Rd w b xs) (hl : xs.length ≤ 3000000000000) : Calls Tryz.prog 25 #[a, b] w fun e w' => e = .returned (.bool true) ∧ Touch [] w w' := by
  obtain ⟨a1, c1, rfl, _, _⟩ := ha.form
  obtain ⟨a2, c2, rfl, _, _⟩ := hb.form
  obtain ⟨n, hn⟩ : ∃ n, n = xs.length := ⟨_, rfl⟩
  have HX : Hid (∀ i (w' : World), Touch [] w w' → i < n → ∃ b1 b2 z, a1 = some ⟨b1, 0, none⟩ ∧ a2 = some ⟨b2, 0, none⟩ ∧ w'.cell? ⟨b1, i, none⟩ = some (.int .i64 z) ∧ w'.cell? ⟨b2, i, none⟩ = some (.int .i64 z)) := fun i w' t hi => by
    obtain ⟨b1, e1, q1⟩ := (ha.keep0 t).cell (i := i) (by omega)
    obtain ⟨b2, e2, q2⟩ := (hb.keep0 t).cell (i := i) (by omega)
    exact ⟨b1, b2, _, e1, e2, q1, q2⟩
  have zn : (n : Int) ≤ 3000000000000 := by omega
  rw [← hn]
  clear ha hb hl hn
  go_enter Tryz.func25, Tryz.ntmps25
  go_wp2
  go_loopw [13] (fun s13 wr => ∃ (i : Nat), s13 = .int .i64 (i : Int) ∧ i ≤ n ∧ Hid (Touch [] w wr)) (fun s _ => n - (intOf s).toNat)
  case atStart => exact ⟨0, rfl, Nat.zero_le _, Touch.refl _ _⟩
  case round =>
    obtain ⟨i, rfl, hi, HT⟩ := hrel
    by_cases hlt : i < n
    · have zi : (i : Int) < (n : Int) := by omega
      obtain ⟨b1, b2, z, rfl, rfl, q1, q2⟩ := HX.out i _ HT.out hlt
      have HNi := hid (And.intro hi hlt)
      go_wp2
      go_quiet (fail)
      go_wp2
      go_roundw
      case rel => exact ⟨i + 1, by go_num, by have := HNi.out; omega, HT.out.drewN _⟩
      case measure => simp [intOf]; have := HNi.out; omega
    · have zi : (n : Int) ≤ (i : Int) := by omega
      go_wp2
      go_ret
      exact ⟨rfl, HT.out⟩
end Go.Proofs.YtpihhlllembdeaaGreat
/- The contract of the law's end: both tables end a run. -/
namespace Go.Proofs.YtpihhlllembdeaaGreat
open Go.RowKit Go.Maps Go.ChangeMaps
set_option linter.unusedVariables false
set_option linter.unusedSimpArgs false
def lendP (w : World) (t : Nat) (F : List Nat) (lv gv : Value) (ds : List De) (gs : List (K × Int)) (T : Tb) (N : Nat) (a : ActT) (e : Ending) (w' : World) : Prop := ∃ lv', e = .returned (.tuple #[tv (tEnd T a.rn a.o) lv' gv, .bool true]) ∧ BoE w w' t F lv gv ds lv' gv gs (tEnd T a.rn a.o) N
set_option maxHeartbeats 4000000 in
set_option maxRecDepth 100000 in
theorem lend_ (w : World) (t : Nat) (F : List Nat) (lv gv : Value) (ds : List De) (gs : List (K × Int)) (T : Tb) (N : Nat) (a : ActT) (hw : WfA a) (h : Bo w t F lv gv ds gs T N) :
    Calls Tryz.prog 19 #[PT t, tv T lv gv, av a] w fun e w' => lendP w t F lv gv ds gs T N a e w' := by
  obtain ⟨la, lc, ga, gc, rfl, rfl⟩ := h.dt.form
  obtain ⟨n, hn⟩ : ∃ n, n = ds.length := ⟨_, rfl⟩
  obtain ⟨gn, hgn⟩ : ∃ gn, gn = gs.length := ⟨_, rfl⟩
  have HB : Hid (Bo w t F (.slice la n lc) (.slice ga gn gc) ds gs T N) := hid (by rw [hn, hgn]; exact h)
  have hnl := HB.out.dg.len
  have hFl := HB.out.tq.lt
  have HF : Hid (∀ w', Touch F w w' → Calls Tryz.prog 35 #[.agg #[.int .i64 T.fl, .int .i64 T.bg, .slice la n lc, .slice ga gn gc], .int .i64 a.rn] w' fun e w2 => e = .returned (.int .i64 (posN (desOf ds) a.rn)) ∧ Touch [] w' w2) := fun w' X => find_ w' T.fl T.bg a.rn la ga n lc gn gc ds hn (by omega) (by have := (HB.out.dt.keep X HB.out.ap).lr; rwa [← hn] at this) HB.out.dg.vs
  have HP : Hid (∀ w', Touch [] w w' → Calls Tryz.prog 21 #[PT t, .int .i64 a.rn, ov a.o] w' fun e w2 => TeE e w' w2 t F T a.rn a.o N) := fun w' X => endT w' t F T N (HB.out.tq.keep0 X) (by have := HB.out.hN; omega) a.rn a.o hw.2.1
  have HR : Hid (∀ w, Calls Tryz.prog 52 #[ov a.o] w fun e w' => e = .returned (.bool (right a.o)) ∧ Touch [] w w') := fun w => lright_ w a.o
  obtain ⟨V, hV⟩ : ∃ V, V = ((w.alloc (.cells #[.int .i64 T.fl, .int .i64 T.bg, .slice la n lc, .slice ga gn gc] 31)).alloc (.cells #[.int .i64 a.kd, .int .i64 a.rn, .int .i64 a.cl, .bool a.rf, .int .u16 a.k.1, .string a.k.2, .int .i64 a.o.1, .int .i64 a.o.2.1, .int .i64 a.o.2.2.1, .int .i64 a.o.2.2.2] 40)).alloc (.cells #[.int .i64 0, .int .i64 0, .slice none 0 0, .slice none 0 0] 31) := ⟨_, rfl⟩
  have T0 : Touch [] w V := by rw [hV]; exact (((Touch.refl _ _).alloc _).alloc _).alloc _
  have HTc : Hid (Touch F w V) := T0.mono (fun _ e => by cases e)
  have HV0 := hid T0
  have kT : V.heap[w.heap.size]? = some (.cells #[.int .i64 T.fl, .int .i64 T.bg, .slice la n lc, .slice ga gn gc] 31 (0, 0)) := by rw [hV]; exact (Below.heap_alloc _ _ _ (by simp; omega)).trans ((Below.heap_alloc _ _ _ (by simp)).trans (heap_alloc_new w _))
  have kA : V.heap[w.heap.size + 1]? = some (.cells #[.int .i64 a.kd, .int .i64 a.rn, .int .i64 a.cl, .bool a.rf, .int .u16 a.k.1, .string a.k.2, .int .i64 a.o.1, .int .i64 a.o.2.1, .int .i64 a.o.2.2.1, .int .i64 a.o.2.2.2] 40 (0, 0)) := by
    rw [hV]
    have := heap_alloc_new (w.alloc (.cells #[.int .i64 T.fl, .int .i64 T.bg, .slice la n lc, .slice ga gn gc] 31)) (.cells #[.int .i64 a.kd, .int .i64 a.rn, .int .i64 a.cl, .bool a.rf, .int .u16 a.k.1, .string a.k.2, .int .i64 a.o.1, .int .i64 a.o.2.1, .int .i64 a.o.2.2.1, .int .i64 a.o.2.2.2] 40)
    rw [World.size_alloc] at this
    exact (Below.heap_alloc _ _ _ (by simp)).trans this
  have kZ : V.heap[w.heap.size + 1 + 1]? = some (.cells #[.int .i64 0, .int .i64 0, .slice none 0 0, .slice none 0 0] 31 (0, 0)) := by
    rw [hV]
    have := heap_alloc_new ((w.alloc (.cells #[.int .i64 T.fl, .int .i64 T.bg, .slice la n lc, .slice ga gn gc] 31)).alloc (.cells #[.int .i64 a.kd, .int .i64 a.rn, .int .i64 a.cl, .bool a.rf, .int .u16 a.k.1, .string a.k.2, .int .i64 a.o.1, .int .i64 a.o.2.1, .int .i64 a.o.2.2.1, .int .i64 a.o.2.2.2] 40)) (.cells #[.int .i64 0, .int .i64 0, .slice none 0 0, .slice none 0 0] 31)
    rwa [World.size_alloc, World.size_alloc] at this
  have HN := hid hn
  have HFl := hid hFl
  have zn : (n : Int) ≤ 4096 := by omega
  unfold tv av
  rw [← hn, ← hgn]
  obtain ⟨Q, hQ⟩ : ∃ Q : Ending → World → Prop, Q = fun e w' => lendP w t F (.slice la n lc) (.slice ga gn gc) ds gs T N a e w' := ⟨_, rfl⟩
  have HQ : Hid (∀ e w', lendP w t F (.slice la n lc) (.slice ga gn gc) ds gs T N a e w' → Q e w') := hid (by rw [hQ]; exact fun e w' hh => hh)
  rw [← hQ]
  have HSz : Hid (V.heap.size = w.heap.size + 3) := hid (by rw [hV]; simp)
  have HBv := hid (HB.out.init T0)
  clear hQ h hw hFl T0
  unfold ov at HP HR
  rcases HB.out.dg.run a.rn with ⟨e1, e2⟩ | ⟨i, d, e1, e2, e3, e4⟩
  · rw [e1] at HF
    have et : tEnd T a.rn a.o = T := by simp [tEnd, e2]
    have HE : Hid (∀ w' F', BoV w V w' t F (.slice la n lc) (.slice ga gn gc) ds (.slice la n lc) (.slice ga gn gc) ds gs T T N F' → Q (.returned (.tuple #[.agg #[.int .i64 T.fl, .int .i64 T.bg, .slice la n lc, .slice ga gn gc], .bool true])) w') := fun w' F' X => HQ.out _ _ ⟨.slice la n lc, by rw [et]; rfl, by rw [et]; exact X.fin HB.out.gl HB.out.hN⟩
    have HP2 : Hid (Calls Tryz.prog 21 #[PT t, .int .i64 a.rn, .agg #[.int .i64 a.o.1, .int .i64 a.o.2.1, .int .i64 a.o.2.2.1, .int .i64 a.o.2.2.2]] V fun e w2 => ∃ b c, e = .returned (.tuple #[.slice b 0 c, .bool false, .int .i64 122]) ∧ TqE V w2 t F T N) := by
      refine (HP.out V HV0.out).mono ?_
      rintro e w2 ⟨v, rfl, tv', q⟩
      rw [et] at q
      have e0 : tEndL T a.rn a.o = [] := by simp [tEndL, e2]
      rw [e0] at tv'
      obtain ⟨b, c, rfl, _⟩ := tv'
      exact ⟨b, c, by simp [tEndC, tEndE, e2], q⟩
    clear e1 e2 HB HP HR HQ hn hgn HN et
    generalize T.fl = fl at *
    generalize T.bg = bg at *
    have HKc := hid (And.intro kT (And.intro kA kZ))
    have a0 := cell_at (j := 0) kT rfl
    have a1 := cell_at (j := 1) kT rfl
    have a2 := cell_at (j := 2) kT rfl
    have a3 := cell_at (j := 3) kT rfl
    have af := froz_at kT
    have y0 := cell_at (j := 0) kA rfl
    have y1 := cell_at (j := 1) kA rfl
    have y2 := cell_at (j := 2) kA rfl
    have y3 := cell_at (j := 3) kA rfl
    have y4 := cell_at (j := 4) kA rfl
    have y5 := cell_at (j := 5) kA rfl
    have y6 := cell_at (j := 6) kA rfl
    have y7 := cell_at (j := 7) kA rfl
    have y8 := cell_at (j := 8) kA rfl
    have y9 := cell_at (j := 9) kA rfl
    have yf := froz_at kA
    have z0 := cell_at (j := 0) kZ rfl
    have z1 := cell_at (j := 1) kZ rfl
    have z2 := cell_at (j := 2) kZ rfl
    have z3 := cell_at (j := 3) kZ rfl
    have zf := froz_at kZ
    clear kT kA kZ
    unfold PT at HP2 ⊢
    go_enter Tryz.func19, Tryz.ntmps19
    go_upto_region 1 with fail
    rw [← hV]
    clear hV
    go_upto_region 2 with (go_at_call 21; refine HP2.out.mono ?_; rintro e w1 ⟨b1, c1, rfl, q1⟩; have t1 := (show ∃ F', _ ∧ Touch F V w1 ∧ _ from q1).choose_spec.2.1; obtain ⟨kT, kA, kZ⟩ := HKc.out; replace kT := t1.keep kT (fun e => by have := HFl.out _ e; omega); replace kA := t1.keep kA (fun e => by have := HFl.out _ e; omega); replace kZ := t1.keep kZ (fun e => by have := HFl.out _ e; omega); clear HKc a0 a1 a2 a3 af y0 y1 y2 y3 y4 y5 y6 y7 y8 y9 yf z0 z1 z2 z3 zf; have HKc := hid (And.intro kT (And.intro kA kZ)); have a0 := cell_at (j := 0) kT rfl; have a1 := cell_at (j := 1) kT rfl; have a2 := cell_at (j := 2) kT rfl; have a3 := cell_at (j := 3) kT rfl; have af := froz_at kT; have y0 := cell_at (j := 0) kA rfl; have y1 := cell_at (j := 1) kA rfl; have y2 := cell_at (j := 2) kA rfl; have y3 := cell_at (j := 3) kA rfl; have y4 := cell_at (j := 4) kA rfl; have y5 := cell_at (j := 5) kA rfl; have y6 := cell_at (j := 6) kA rfl; have y7 := cell_at (j := 7) kA rfl; have y8 := cell_at (j := 8) kA rfl; have y9 := cell_at (j := 9) kA rfl; have yf := froz_at kA; have z0 := cell_at (j := 0) kZ rfl; have z1 := cell_at (j := 1) kZ rfl; have z2 := cell_at (j := 2) kZ rfl; have z3 := cell_at (j := 3) kZ rfl; have zf := froz_at kZ; clear kT kA kZ; obtain ⟨F1, hb1⟩ := HBv.out.prog (Nat.le_refl _) q1; replace HBv := hid hb1; replace HTc := hid (HTc.out.trans' t1); clear q1 t1 hb1)
    clear HP2
    go_wp2_with (go_at_call 35; refine (HF.out _ HTc.out).mono ?_; rintro e w2 ⟨rfl, t2⟩; replace HBv := hid (HBv.out.then0 t2); obtain ⟨kT, kA, kZ⟩ := HKc.out; replace kT := t2.keep kT (by first | (simp; done) | (simp; omega)); replace kA := t2.keep kA (by first | (simp; done) | (simp; omega)); replace kZ := t2.keep kZ (by first | (simp; done) | (simp; omega)); clear HKc a0 a1 a2 a3 af y0 y1 y2 y3 y4 y5 y6 y7 y8 y9 yf z0 z1 z2 z3 zf; have HKc := hid (And.intro kT (And.intro kA kZ)); have a0 := cell_at (j := 0) kT rfl; have a1 := cell_at (j := 1) kT rfl; have a2 := cell_at (j := 2) kT rfl; have a3 := cell_at (j := 3) kT rfl; have af := froz_at kT; have y0 := cell_at (j := 0) kA rfl; have y1 := cell_at (j := 1) kA rfl; have y2 := cell_at (j := 2) kA rfl; have y3 := cell_at (j := 3) kA rfl; have y4 := cell_at (j := 4) kA rfl; have y5 := cell_at (j := 5) kA rfl; have y6 := cell_at (j := 6) kA rfl; have y7 := cell_at (j := 7) kA rfl; have y8 := cell_at (j := 8) kA rfl; have y9 := cell_at (j := 9) kA rfl; have yf := froz_at kA; have z0 := cell_at (j := 0) kZ rfl; have z1 := cell_at (j := 1) kZ rfl; have z2 := cell_at (j := 2) kZ rfl; have z3 := cell_at (j := 3) kZ rfl; have zf := froz_at kZ; clear kT kA kZ; replace HTc := hid (HTc.out.trans t2 (fun _ e => by cases e)); clear t2)
    obtain ⟨kT, kA, kZ⟩ := HKc.out
    obtain ⟨q4, tF⟩ := finZ kZ (.int .i64 fl) (.int .i64 bg) (.slice la n lc) (.slice ga gn gc)
    have q0 := cell_at (j := 0) q4 rfl
    have q1 := cell_at (j := 1) q4 rfl
    have q2 := cell_at (j := 2) q4 rfl
    have q3 := cell_at (j := 3) q4 rfl
    exact bodyPost_ret (v := .tuple #[.agg #[.int .i64 fl, .int .i64 bg, .slice la n lc, .slice ga gn gc], .bool true]) (by simp [results, Tryz.results19, go_sem, q0, q1, q2, q3]) rfl (HE.out _ _ (HBv.out.box tF (by omega) (by have := HSz.out; omega)))
  · rw [e1] at HF
    have hdm := List.mem_of_getElem? e2
    have hlv := HB.out.dg.lv _ (HB.out.dg.mem hdm)
    simp only at hlv
    cases hr : right a.o with
    | false =>
      have et : tEnd T a.rn a.o = T := by simp [tEnd, e4, endE, hlv, hr]
      have HE : Hid (∀ w' F', BoV w V w' t F (.slice la n lc) (.slice ga gn gc) ds (.slice la n lc) (.slice ga gn gc) ds gs T T N F' → Q (.returned (.tuple #[.agg #[.int .i64 T.fl, .int .i64 T.bg, .slice la n lc, .slice ga gn gc], .bool true])) w') := fun w' F' X => HQ.out _ _ ⟨.slice la n lc, by rw [et]; rfl, by rw [et]; exact X.fin HB.out.gl HB.out.hN⟩
      have HP2 : Hid (Calls Tryz.prog 21 #[PT t, .int .i64 a.rn, .agg #[.int .i64 a.o.1, .int .i64 a.o.2.1, .int .i64 a.o.2.2.1, .int .i64 a.o.2.2.2]] V fun e w2 => ∃ b c, e = .returned (.tuple #[.slice b 0 c, .bool false, .int .i64 30]) ∧ TqE V w2 t F T N) := by
        refine (HP.out V HV0.out).mono ?_
        rintro e w2 ⟨v, rfl, tv', q⟩
        rw [et] at q
        have e0 : tEndL T a.rn a.o = [] := by simp [tEndL, e4, endL, endE, hlv, hr]
        rw [e0] at tv'
        obtain ⟨b, c, rfl, _⟩ := tv'
        exact ⟨b, c, by simp [tEndC, tEndE, e4, endE, hlv, hr], q⟩
      rw [hr] at HR
      have zi : (0 : Int) ≤ (i : Int) := by omega
      clear e1 e2 e3 e4 HB HP HQ hn hgn HN et hdm hlv hr
      generalize T.fl = fl at *
      generalize T.bg = bg at *
      have HKc := hid (And.intro kT (And.intro kA kZ))
      have a0 := cell_at (j := 0) kT rfl
      have a1 := cell_at (j := 1) kT rfl
      have a2 := cell_at (j := 2) kT rfl
      have a3 := cell_at (j := 3) kT rfl
      have af := froz_at kT
      have y0 := cell_at (j := 0) kA rfl
      have y1 := cell_at (j := 1) kA rfl
      have y2 := cell_at (j := 2) kA rfl
      have y3 := cell_at (j := 3) kA rfl
      have y4 := cell_at (j := 4) kA rfl
      have y5 := cell_at (j := 5) kA rfl
      have y6 := cell_at (j := 6) kA rfl
      have y7 := cell_at (j := 7) kA rfl
      have y8 := cell_at (j := 8) kA rfl
      have y9 := cell_at (j := 9) kA rfl
      have yf := froz_at kA
      have z0 := cell_at (j := 0) kZ rfl
      have z1 := cell_at (j := 1) kZ rfl
      have z2 := cell_at (j := 2) kZ rfl
      have z3 := cell_at (j := 3) kZ rfl
      have zf := froz_at kZ
      clear kT kA kZ
      unfold PT at HP2 ⊢
      go_enter Tryz.func19, Tryz.ntmps19
      go_upto_region 1 with fail
      rw [← hV]
      clear hV
      go_upto_region 2 with (go_at_call 21; refine HP2.out.mono ?_; rintro e w1 ⟨b1, c1, rfl, q1⟩; have t1 := (show ∃ F', _ ∧ Touch F V w1 ∧ _ from q1).choose_spec.2.1; obtain ⟨kT, kA, kZ⟩ := HKc.out; replace kT := t1.keep kT (fun e => by have := HFl.out _ e; omega); replace kA := t1.keep kA (fun e => by have := HFl.out _ e; omega); replace kZ := t1.keep kZ (fun e => by have := HFl.out _ e; omega); clear HKc a0 a1 a2 a3 af y0 y1 y2 y3 y4 y5 y6 y7 y8 y9 yf z0 z1 z2 z3 zf; have HKc := hid (And.intro kT (And.intro kA kZ)); have a0 := cell_at (j := 0) kT rfl; have a1 := cell_at (j := 1) kT rfl; have a2 := cell_at (j := 2) kT rfl; have a3 := cell_at (j := 3) kT rfl; have af := froz_at kT; have y0 := cell_at (j := 0) kA rfl; have y1 := cell_at (j := 1) kA rfl; have y2 := cell_at (j := 2) kA rfl; have y3 := cell_at (j := 3) kA rfl; have y4 := cell_at (j := 4) kA rfl; have y5 := cell_at (j := 5) kA rfl; have y6 := cell_at (j := 6) kA rfl; have y7 := cell_at (j := 7) kA rfl; have y8 := cell_at (j := 8) kA rfl; have y9 := cell_at (j := 9) kA rfl; have yf := froz_at kA; have z0 := cell_at (j := 0) kZ rfl; have z1 := cell_at (j := 1) kZ rfl; have z2 := cell_at (j := 2) kZ rfl; have z3 := cell_at (j := 3) kZ rfl; have zf := froz_at kZ; clear kT kA kZ; obtain ⟨F1, hb1⟩ := HBv.out.prog (Nat.le_refl _) q1; replace HBv := hid hb1; replace HTc := hid (HTc.out.trans' t1); clear q1 t1 hb1)
      clear HP2
      go_upto_block 0 with (go_at_call 35; refine (HF.out _ HTc.out).mono ?_; rintro e w2 ⟨rfl, t2⟩; replace HBv := hid (HBv.out.then0 t2); obtain ⟨kT, kA, kZ⟩ := HKc.out; replace kT := t2.keep kT (by first | (simp; done) | (simp; omega)); replace kA := t2.keep kA (by first | (simp; done) | (simp; omega)); replace kZ := t2.keep kZ (by first | (simp; done) | (simp; omega)); clear HKc a0 a1 a2 a3 af y0 y1 y2 y3 y4 y5 y6 y7 y8 y9 yf z0 z1 z2 z3 zf; have HKc := hid (And.intro kT (And.intro kA kZ)); have a0 := cell_at (j := 0) kT rfl; have a1 := cell_at (j := 1) kT rfl; have a2 := cell_at (j := 2) kT rfl; have a3 := cell_at (j := 3) kT rfl; have af := froz_at kT; have y0 := cell_at (j := 0) kA rfl; have y1 := cell_at (j := 1) kA rfl; have y2 := cell_at (j := 2) kA rfl; have y3 := cell_at (j := 3) kA rfl; have y4 := cell_at (j := 4) kA rfl; have y5 := cell_at (j := 5) kA rfl; have y6 := cell_at (j := 6) kA rfl; have y7 := cell_at (j := 7) kA rfl; have y8 := cell_at (j := 8) kA rfl; have y9 := cell_at (j := 9) kA rfl; have yf := froz_at kA; have z0 := cell_at (j := 0) kZ rfl; have z1 := cell_at (j := 1) kZ rfl; have z2 := cell_at (j := 2) kZ rfl; have z3 := cell_at (j := 3) kZ rfl; have zf := froz_at kZ; clear kT kA kZ; replace HTc := hid (HTc.out.trans t2 (fun _ e => by cases e)); clear t2)
      clear HF
      go_wp2_with (go_at_call 52; refine (HR.out _).mono ?_; rintro e w3 ⟨rfl, t3⟩; replace HBv := hid (HBv.out.then0 t3); obtain ⟨kT, kA, kZ⟩ := HKc.out; replace kT := t3.keep kT (by first | (simp; done) | (simp; omega)); replace kA := t3.keep kA (by first | (simp; done) | (simp; omega)); replace kZ := t3.keep kZ (by first | (simp; done) | (simp; omega)); clear HKc a0 a1 a2 a3 af y0 y1 y2 y3 y4 y5 y6 y7 y8 y9 yf z0 z1 z2 z3 zf; have HKc := hid (And.intro kT (And.intro kA kZ)); have a0 := cell_at (j := 0) kT rfl; have a1 := cell_at (j := 1) kT rfl; have a2 := cell_at (j := 2) kT rfl; have a3 := cell_at (j := 3) kT rfl; have af := froz_at kT; have y0 := cell_at (j := 0) kA rfl; have y1 := cell_at (j := 1) kA rfl; have y2 := cell_at (j := 2) kA rfl; have y3 := cell_at (j := 3) kA rfl; have y4 := cell_at (j := 4) kA rfl; have y5 := cell_at (j := 5) kA rfl; have y6 := cell_at (j := 6) kA rfl; have y7 := cell_at (j := 7) kA rfl; have y8 := cell_at (j := 8) kA rfl; have y9 := cell_at (j := 9) kA rfl; have yf := froz_at kA; have z0 := cell_at (j := 0) kZ rfl; have z1 := cell_at (j := 1) kZ rfl; have z2 := cell_at (j := 2) kZ rfl; have z3 := cell_at (j := 3) kZ rfl; have zf := froz_at kZ; clear kT kA kZ; replace HTc := hid (HTc.out.trans t3 (fun _ e => by cases e)); clear t3)
      obtain ⟨kT, kA, kZ⟩ := HKc.out
      obtain ⟨q4, tF⟩ := finZ kZ (.int .i64 fl) (.int .i64 bg) (.slice la n lc) (.slice ga gn gc)
      have q0 := cell_at (j := 0) q4 rfl
      have q1 := cell_at (j := 1) q4 rfl
      have q2 := cell_at (j := 2) q4 rfl
      have q3 := cell_at (j := 3) q4 rfl
      exact bodyPost_ret (v := .tuple #[.agg #[.int .i64 fl, .int .i64 bg, .slice la n lc, .slice ga gn gc], .bool true]) (by simp [results, Tryz.results19, go_sem, q0, q1, q2, q3]) rfl (HE.out _ _ (HBv.out.box tF (by omega) (by have := HSz.out; omega)))
    | true =>
      have hz : endE d.S a.o = 0 := by simp [endE, hlv, hr]
      have et : tEnd T a.rn a.o = outR T a.rn := by simp [tEnd, e4, hz]
      have hwv := HB.out.dt.wr d hdm
      obtain ⟨va, vc, ev⟩ := own_form hwv
      obtain ⟨vn, hvn⟩ : ∃ vn, vn = d.S.who.length := ⟨_, rfl⟩
      rw [← hvn] at ev
      have hwl := HB.out.dg.who _ (HB.out.dg.mem hdm)
      simp only at hwl
      have hM := HB.out.hN
      have HE : Hid (∀ w' F' a5 n5 c5 ds5, BoV w V w' t F (.slice la n lc) (.slice ga gn gc) ds (.slice a5 n5 c5) (.slice ga gn gc) ds5 gs (outR T a.rn) (outR T a.rn) N F' → Q (.returned (.tuple #[.agg #[.int .i64 T.fl, .int .i64 T.bg, .slice a5 n5 c5, .slice ga gn gc], .bool true])) w') := fun w' F' a5 n5 c5 ds5 X => HQ.out _ _ ⟨.slice a5 n5 c5, by rw [et]; rfl, by rw [et]; exact X.fin HB.out.gl HB.out.hN⟩
      have HP2 : Hid (Calls Tryz.prog 21 #[PT t, .int .i64 a.rn, .agg #[.int .i64 a.o.1, .int .i64 a.o.2.1, .int .i64 a.o.2.2.1, .int .i64 a.o.2.2.2]] V fun e w2 => ∃ b c, e = .returned (.tuple #[.slice b vn c, .bool (isCur T d.R), .int .i64 0]) ∧ Tv V.heap.size w2 (.slice b vn c) d.S.who a.o ∧ TqE V w2 t F (outR T a.rn) N) := by
        refine (HP.out V HV0.out).mono ?_
        rintro e w2 ⟨v, rfl, tv', q⟩
        rw [et] at q
        have e0 : tEndL T a.rn a.o = d.S.who := by simp [tEndL, e4, endL, hz]
        rw [e0] at tv'
        have tv2 := tv'
        obtain ⟨b, c, rfl, _⟩ := tv'
        rw [← hvn] at tv2
        exact ⟨b, c, by rw [hvn]; simp [tEndC, tEndE, e4, hz], tv2, q⟩
      have HEn : Hid (∀ w' F', BoV w V w' t F (.slice la n lc) (.slice ga gn gc) ds (.slice la n lc) (.slice ga gn gc) ds gs (outR T a.rn) T N F' → V.heap.size ≤ w'.heap.size → Calls Tryz.prog 53 #[.agg #[.int .i64 T.fl, .int .i64 T.bg, .slice la n lc, .slice ga gn gc], .int .i64 (i : Int)] w' fun e w2 => ∃ a5 n5 c5 ds5, e = .returned (.tuple #[.agg #[.int .i64 T.fl, .int .i64 T.bg, .slice a5 n5 c5, .slice ga gn gc], .bool (isCur T d.R)]) ∧ BoV w V w2 t F (.slice la n lc) (.slice ga gn gc) ds (.slice a5 n5 c5) (.slice ga gn gc) ds5 gs (outR T a.rn) (outR T a.rn) N F' ∧ Touch [] w' w2) := fun w' F' X hVs => by
        refine (end_ w' (.slice la n lc) (.slice ga gn gc) ds gs T N i d (X.dg HB.out.dg.ti HB.out.dg.lv HB.out.dg.who HB.out.gl hM) e2).mono ?_
        rintro e w2 ⟨lv', rfl, q⟩
        have t2 := q.choose_spec.2.1
        rw [e3] at q
        obtain ⟨ds5, X2⟩ := X.doc hVs q
        obtain ⟨a5, c5, e5⟩ := own_form X2.2.2.1.lr
        subst e5
        exact ⟨a5, _, c5, ds5, rfl, X2, t2⟩
      have HL : Hid (∀ w' F' Tp, BoV w V w' t F (.slice la n lc) (.slice ga gn gc) ds (.slice la n lc) (.slice ga gn gc) ds gs Tp T N F' → w'.ownsRow 0 78 8 (.slice la n lc) n (ds.flatMap row8) ∧ w'.ownsRow 0 3 1 (.slice va vn vc) vn (ints d.S.who)) := fun w' F' Tp X => ⟨by have := X.2.2.1.lr; rwa [← hn] at this, by have := X.2.2.1.wr d hdm; unfold Wv at this; rwa [ev, ← hvn] at this⟩
      rw [hr] at HR
      have zi : (i : Int) < (n : Int) := by have := (List.getElem?_eq_some_iff.1 e2).1; omega
      have zv : (vn : Int) ≤ 1700000000000 := by omega
      have HD := hid e2
      have Hev := hid ev
      have HVn := hid hvn
      have HWl : Hid (∀ b, (Value.slice va vn vc).ownBlock = some b → b < w.heap.size) := fun b hb => (hwv.lt b (by rw [ev]; exact hb)).2
      clear e1 e2 e3 e4 HB HP HQ hn hgn HN et hdm hlv hr hz hwv ev hvn hwl hM
      generalize T.fl = fl at *
      generalize T.bg = bg at *
      generalize isCur T d.R = ic at *
      have HKc := hid (And.intro kT (And.intro kA kZ))
      have a0 := cell_at (j := 0) kT rfl
      have a1 := cell_at (j := 1) kT rfl
      have a2 := cell_at (j := 2) kT rfl
      have a3 := cell_at (j := 3) kT rfl
      have af := froz_at kT
      have y0 := cell_at (j := 0) kA rfl
      have y1 := cell_at (j := 1) kA rfl
      have y2 := cell_at (j := 2) kA rfl
      have y3 := cell_at (j := 3) kA rfl
      have y4 := cell_at (j := 4) kA rfl
      have y5 := cell_at (j := 5) kA rfl
      have y6 := cell_at (j := 6) kA rfl
      have y7 := cell_at (j := 7) kA rfl
      have y8 := cell_at (j := 8) kA rfl
      have y9 := cell_at (j := 9) kA rfl
      have yf := froz_at kA
      have z0 := cell_at (j := 0) kZ rfl
      have z1 := cell_at (j := 1) kZ rfl
      have z2 := cell_at (j := 2) kZ rfl
      have z3 := cell_at (j := 3) kZ rfl
      have zf := froz_at kZ
      clear kT kA kZ
      unfold PT at HP2 ⊢
      go_enter Tryz.func19, Tryz.ntmps19
      go_upto_region 1 with fail
      rw [← hV]
      clear hV
      go_upto_region 2 with (go_at_call 21; refine HP2.out.mono ?_; rintro e w1 ⟨b1, c1, rfl, u1, q1⟩; have t1 := (show ∃ F', _ ∧ Touch F V w1 ∧ _ from q1).choose_spec.2.1; obtain ⟨kT, kA, kZ⟩ := HKc.out; replace kT := t1.keep kT (fun e => by have := HFl.out _ e; omega); replace kA := t1.keep kA (fun e => by have := HFl.out _ e; omega); replace kZ := t1.keep kZ (fun e => by have := HFl.out _ e; omega); clear HKc a0 a1 a2 a3 af y0 y1 y2 y3 y4 y5 y6 y7 y8 y9 yf z0 z1 z2 z3 zf; have HKc := hid (And.intro kT (And.intro kA kZ)); have a0 := cell_at (j := 0) kT rfl; have a1 := cell_at (j := 1) kT rfl; have a2 := cell_at (j := 2) kT rfl; have a3 := cell_at (j := 3) kT rfl; have af := froz_at kT; have y0 := cell_at (j := 0) kA rfl; have y1 := cell_at (j := 1) kA rfl; have y2 := cell_at (j := 2) kA rfl; have y3 := cell_at (j := 3) kA rfl; have y4 := cell_at (j := 4) kA rfl; have y5 := cell_at (j := 5) kA rfl; have y6 := cell_at (j := 6) kA rfl; have y7 := cell_at (j := 7) kA rfl; have y8 := cell_at (j := 8) kA rfl; have y9 := cell_at (j := 9) kA rfl; have yf := froz_at kA; have z0 := cell_at (j := 0) kZ rfl; have z1 := cell_at (j := 1) kZ rfl; have z2 := cell_at (j := 2) kZ rfl; have z3 := cell_at (j := 3) kZ rfl; have zf := froz_at kZ; clear kT kA kZ; obtain ⟨F1, hb1⟩ := HBv.out.prog (Nat.le_refl _) q1; replace HBv := hid hb1; replace HTc := hid (HTc.out.trans' t1); clear q1 t1 hb1; have Tv1 := hid u1; clear u1)
      clear HP2
      go_upto_block 0 with (go_at_call 35; refine (HF.out _ HTc.out).mono ?_; rintro e w2 ⟨rfl, t2⟩; replace HBv := hid (HBv.out.then0 t2); replace Tv1 := hid (Tv1.out.keep0 t2); obtain ⟨kT, kA, kZ⟩ := HKc.out; replace kT := t2.keep kT (by first | (simp; done) | (simp; omega)); replace kA := t2.keep kA (by first | (simp; done) | (simp; omega)); replace kZ := t2.keep kZ (by first | (simp; done) | (simp; omega)); clear HKc a0 a1 a2 a3 af y0 y1 y2 y3 y4 y5 y6 y7 y8 y9 yf z0 z1 z2 z3 zf; have HKc := hid (And.intro kT (And.intro kA kZ)); have a0 := cell_at (j := 0) kT rfl; have a1 := cell_at (j := 1) kT rfl; have a2 := cell_at (j := 2) kT rfl; have a3 := cell_at (j := 3) kT rfl; have af := froz_at kT; have y0 := cell_at (j := 0) kA rfl; have y1 := cell_at (j := 1) kA rfl; have y2 := cell_at (j := 2) kA rfl; have y3 := cell_at (j := 3) kA rfl; have y4 := cell_at (j := 4) kA rfl; have y5 := cell_at (j := 5) kA rfl; have y6 := cell_at (j := 6) kA rfl; have y7 := cell_at (j := 7) kA rfl; have y8 := cell_at (j := 8) kA rfl; have y9 := cell_at (j := 9) kA rfl; have yf := froz_at kA; have z0 := cell_at (j := 0) kZ rfl; have z1 := cell_at (j := 1) kZ rfl; have z2 := cell_at (j := 2) kZ rfl; have z3 := cell_at (j := 3) kZ rfl; have zf := froz_at kZ; clear kT kA kZ; replace HTc := hid (HTc.out.trans t2 (fun _ e => by cases e)); clear t2)
      clear HF
      go_upto_region 7 with (go_at_call 52; refine (HR.out _).mono ?_; rintro e w3 ⟨rfl, t3⟩; replace HBv := hid (HBv.out.then0 t3); replace Tv1 := hid (Tv1.out.keep0 t3); obtain ⟨kT, kA, kZ⟩ := HKc.out; replace kT := t3.keep kT (by first | (simp; done) | (simp; omega)); replace kA := t3.keep kA (by first | (simp; done) | (simp; omega)); replace kZ := t3.keep kZ (by first | (simp; done) | (simp; omega)); clear HKc a0 a1 a2 a3 af y0 y1 y2 y3 y4 y5 y6 y7 y8 y9 yf z0 z1 z2 z3 zf; have HKc := hid (And.intro kT (And.intro kA kZ)); have a0 := cell_at (j := 0) kT rfl; have a1 := cell_at (j := 1) kT rfl; have a2 := cell_at (j := 2) kT rfl; have a3 := cell_at (j := 3) kT rfl; have af := froz_at kT; have y0 := cell_at (j := 0) kA rfl; have y1 := cell_at (j := 1) kA rfl; have y2 := cell_at (j := 2) kA rfl; have y3 := cell_at (j := 3) kA rfl; have y4 := cell_at (j := 4) kA rfl; have y5 := cell_at (j := 5) kA rfl; have y6 := cell_at (j := 6) kA rfl; have y7 := cell_at (j := 7) kA rfl; have y8 := cell_at (j := 8) kA rfl; have y9 := cell_at (j := 9) kA rfl; have yf := froz_at kA; have z0 := cell_at (j := 0) kZ rfl; have z1 := cell_at (j := 1) kZ rfl; have z2 := cell_at (j := 2) kZ rfl; have z3 := cell_at (j := 3) kZ rfl; have zf := froz_at kZ; clear kT kA kZ; replace HTc := hid (HTc.out.trans t3 (fun _ e => by cases e)); clear t3)
      clear HR
      obtain ⟨ho, hw⟩ := HL.out _ _ _ HBv.out
      obtain ⟨g, c', e, _, _⟩ := own_some ho (by omega)
      cases e
      obtain ⟨r0, r1, r2, r3, r4, r5, r6, r7⟩ := lr_cells ho HD.out
      rw [Hev.out] at r7
      have Hw := hid hw
      clear ho hw
      go_upto_region 8 with fail
      clear r0 r1 r2 r3 r4 r5 r6 r7
      obtain ⟨kT, kA, kZ⟩ := HKc.out
      obtain ⟨W4, hW4⟩ : ∃ W, W = w3.alloc (.cells #[.int .i64 d.R.run, .int .i64 d.R.gen, .int .u16 d.R.sp, .string d.R.nm, .bool d.R.rf, .bool d.S.kept, .bool d.S.canc, .slice va vn vc] 78) := ⟨_, rfl⟩
      have tq : Touch [] w3 W4 := by rw [hW4]; exact (Touch.refl _ _).alloc _
      have kX : W4.heap[w3.heap.size]? = some (.cells #[.int .i64 d.R.run, .int .i64 d.R.gen, .int .u16 d.R.sp, .string d.R.nm, .bool d.R.rf, .bool d.S.kept, .bool d.S.canc, .slice va vn vc] 78 (0, 0)) := by rw [hW4]; exact heap_alloc_new w3 _
      have zeb : w.heap.size + 3 ≤ w3.heap.size := by have := block_lt kZ; omega
      replace kT := tq.keep kT (by simp)
      replace kA := tq.keep kA (by simp)
      replace kZ := tq.keep kZ (by simp)
      replace HTc := hid (HTc.out.trans tq (fun _ e => by cases e))
      replace HBv := hid (HBv.out.then0 tq)
      replace Tv1 := hid (Tv1.out.keep0 tq)
      replace Hw := hid (own_touch Hw.out tq (fun _ _ e => by cases e))
      rw [← hW4]
      clear hW4 tq
      generalize w3.heap.size = eb at *
      clear HKc a0 a1 a2 a3 af y0 y1 y2 y3 y4 y5 y6 y7 y8 y9 yf z0 z1 z2 z3 zf
      have HKc := hid (And.intro kT (And.intro kA (And.intro kZ kX)))
      have a0 := cell_at (j := 0) kT rfl
      have a1 := cell_at (j := 1) kT rfl
      have a2 := cell_at (j := 2) kT rfl
      have a3 := cell_at (j := 3) kT rfl
      have af := froz_at kT
      have y0 := cell_at (j := 0) kA rfl
      have y1 := cell_at (j := 1) kA rfl
      have y2 := cell_at (j := 2) kA rfl
      have y3 := cell_at (j := 3) kA rfl
      have y4 := cell_at (j := 4) kA rfl
      have y5 := cell_at (j := 5) kA rfl
      have y6 := cell_at (j := 6) kA rfl
      have y7 := cell_at (j := 7) kA rfl
      have y8 := cell_at (j := 8) kA rfl
      have y9 := cell_at (j := 9) kA rfl
      have yf := froz_at kA
      have z0 := cell_at (j := 0) kZ rfl
      have z1 := cell_at (j := 1) kZ rfl
      have z2 := cell_at (j := 2) kZ rfl
      have z3 := cell_at (j := 3) kZ rfl
      have zf := froz_at kZ
      have x0 := cell_at (j := 0) kX rfl
      have x1 := cell_at (j := 1) kX rfl
      have x2 := cell_at (j := 2) kX rfl
      have x3 := cell_at (j := 3) kX rfl
      have x4 := cell_at (j := 4) kX rfl
      have x5 := cell_at (j := 5) kX rfl
      have x6 := cell_at (j := 6) kX rfl
      have x7 := cell_at (j := 7) kX rfl
      have xf := froz_at kX
      clear kT kA kZ kX
      go_upto_region 9 with (go_at_call 53; refine (HEn.out _ _ HBv.out (by have := block_lt HKc.out.2.2.1; have := HSz.out; omega)).mono ?_; rintro e w5 ⟨a5, n5, c5, ds5, rfl, bv5, t5⟩; replace HBv := hid bv5; replace Tv1 := hid (Tv1.out.keep0 t5); replace Hw := hid (own_touch Hw.out t5 (fun _ _ e => by cases e)); clear bv5; obtain ⟨kT, kA, kZ, kX⟩ := HKc.out; replace kT := t5.keep kT (by first | (simp; done) | (simp; omega)); replace kA := t5.keep kA (by first | (simp; done) | (simp; omega)); replace kZ := t5.keep kZ (by first | (simp; done) | (simp; omega)); replace kX := t5.keep kX (by first | (simp; done) | (simp; omega)); clear HKc a0 a1 a2 a3 af y0 y1 y2 y3 y4 y5 y6 y7 y8 y9 yf z0 z1 z2 z3 zf x0 x1 x2 x3 x4 x5 x6 x7 xf; have HKc := hid (And.intro kT (And.intro kA (And.intro kZ kX))); have a0 := cell_at (j := 0) kT rfl; have a1 := cell_at (j := 1) kT rfl; have a2 := cell_at (j := 2) kT rfl; have a3 := cell_at (j := 3) kT rfl; have af := froz_at kT; have y0 := cell_at (j := 0) kA rfl; have y1 := cell_at (j := 1) kA rfl; have y2 := cell_at (j := 2) kA rfl; have y3 := cell_at (j := 3) kA rfl; have y4 := cell_at (j := 4) kA rfl; have y5 := cell_at (j := 5) kA rfl; have y6 := cell_at (j := 6) kA rfl; have y7 := cell_at (j := 7) kA rfl; have y8 := cell_at (j := 8) kA rfl; have y9 := cell_at (j := 9) kA rfl; have yf := froz_at kA; have z0 := cell_at (j := 0) kZ rfl; have z1 := cell_at (j := 1) kZ rfl; have z2 := cell_at (j := 2) kZ rfl; have z3 := cell_at (j := 3) kZ rfl; have zf := froz_at kZ; have x0 := cell_at (j := 0) kX rfl; have x1 := cell_at (j := 1) kX rfl; have x2 := cell_at (j := 2) kX rfl; have x3 := cell_at (j := 3) kX rfl; have x4 := cell_at (j := 4) kX rfl; have x5 := cell_at (j := 5) kX rfl; have x6 := cell_at (j := 6) kX rfl; have x7 := cell_at (j := 7) kX rfl; have xf := froz_at kX; clear kT kA kZ kX; replace HTc := hid (HTc.out.trans t5 (fun _ e => by cases e)); clear t5)
      clear HEn HL
      obtain ⟨kT, kA, kZ, kX⟩ := HKc.out
      obtain ⟨W6, hW6⟩ : ∃ W, W = ((((w5.setCell ⟨w.heap.size, 0, none⟩ (.int .i64 fl)).setCell ⟨w.heap.size, 1, none⟩ (.int .i64 bg)).setCell ⟨w.heap.size, 2, none⟩ (.slice a5 n5 c5)).setCell ⟨w.heap.size, 3, none⟩ (.slice ga gn gc)) := ⟨_, rfl⟩
      obtain ⟨kq, tq⟩ := finZ kT (.int .i64 fl) (.int .i64 bg) (.slice a5 n5 c5) (.slice ga gn gc)
      rw [← hW6] at kq tq ⊢
      clear hW6
      replace kT := kq
      replace kA := tq.keep kA (by first | (simp; done) | (simp; omega))
      replace kZ := tq.keep kZ (by first | (simp; done) | (simp; omega))
      replace kX := tq.keep kX (by first | (simp; done) | (simp; omega))
      clear kq
      clear HKc a0 a1 a2 a3 af y0 y1 y2 y3 y4 y5 y6 y7 y8 y9 yf z0 z1 z2 z3 zf x0 x1 x2 x3 x4 x5 x6 x7 xf
      have HKc := hid (And.intro kT (And.intro kA (And.intro kZ kX)))
      have a0 := cell_at (j := 0) kT rfl
      have a1 := cell_at (j := 1) kT rfl
      have a2 := cell_at (j := 2) kT rfl
      have a3 := cell_at (j := 3) kT rfl
      have af := froz_at kT
      have y0 := cell_at (j := 0) kA rfl
      have y1 := cell_at (j := 1) kA rfl
      have y2 := cell_at (j := 2) kA rfl
      have y3 := cell_at (j := 3) kA rfl
      have y4 := cell_at (j := 4) kA rfl
      have y5 := cell_at (j := 5) kA rfl
      have y6 := cell_at (j := 6) kA rfl
      have y7 := cell_at (j := 7) kA rfl
      have y8 := cell_at (j := 8) kA rfl
      have y9 := cell_at (j := 9) kA rfl
      have yf := froz_at kA
      have z0 := cell_at (j := 0) kZ rfl
      have z1 := cell_at (j := 1) kZ rfl
      have z2 := cell_at (j := 2) kZ rfl
      have z3 := cell_at (j := 3) kZ rfl
      have zf := froz_at kZ
      have x0 := cell_at (j := 0) kX rfl
      have x1 := cell_at (j := 1) kX rfl
      have x2 := cell_at (j := 2) kX rfl
      have x3 := cell_at (j := 3) kX rfl
      have x4 := cell_at (j := 4) kX rfl
      have x5 := cell_at (j := 5) kX rfl
      have x6 := cell_at (j := 6) kX rfl
      have x7 := cell_at (j := 7) kX rfl
      have xf := froz_at kX
      clear kT kA kZ kX
      replace HTc := hid (HTc.out.trans tq (fun b hb => Or.inr (by simp at hb; omega)))
      replace HBv := hid (HBv.out.box tq (by omega) (by have := HSz.out; omega))
      replace Tv1 := hid (Tv1.out.keep tq (fun k hk => Or.inl (by have := HSz.out; simp at hk; omega)))
      replace Hw := hid (own_touch Hw.out tq (fun b hb e => by have := HWl.out b hb; simp at e; omega))
      clear tq
      have HLp : Hid (∀ wr j, Touch [] W6 wr → j < vn → ∃ g2 tt x, va = some ⟨g2, 0, none⟩ ∧ b1 = some ⟨tt, 0, none⟩ ∧ wr.cell? ⟨g2, j, none⟩ = some (.int .i64 x) ∧ (wr.cell? ⟨tt, j * 5, none⟩ = some (.int .i64 x) ∧ wr.cell? ⟨tt, j * 5 + 1, none⟩ = some (.int .i64 a.o.1) ∧ wr.cell? ⟨tt, j * 5 + 2, none⟩ = some (.int .i64 a.o.2.1) ∧ wr.cell? ⟨tt, j * 5 + 3, none⟩ = some (.int .i64 a.o.2.2.1) ∧ wr.cell? ⟨tt, j * 5 + 4, none⟩ = some (.int .i64 a.o.2.2.2)) ∧ wr.cell? ⟨w.heap.size + 1, 6, none⟩ = some (.int .i64 a.o.1) ∧ wr.cell? ⟨w.heap.size + 1, 7, none⟩ = some (.int .i64 a.o.2.1) ∧ wr.cell? ⟨w.heap.size + 1, 8, none⟩ = some (.int .i64 a.o.2.2.1) ∧ wr.cell? ⟨w.heap.size + 1, 9, none⟩ = some (.int .i64 a.o.2.2.2)) := fun wr j X hj => by
        obtain ⟨x, hx⟩ : ∃ x, d.S.who[j]? = some x := ⟨_, List.getElem?_eq_getElem (by have := HVn.out; omega)⟩
        have how := own_touch Hw.out X (fun _ _ e => by cases e)
        obtain ⟨g2, c2, e, _, _⟩ := own_some how (by omega)
        cases e
        have qd := own_cell how (p := j) (v := .int .i64 x) (by simp [ints, hx])
        obtain ⟨bb, cc, e, hh⟩ := Tv1.out
        cases e
        rcases hh with hh | ⟨tt, cur, rfl, _, hb, hc⟩
        · rw [hh] at hx; cases hx
        have hb' := X.keep hb (by simp)
        obtain ⟨p0, p1, p2, p3, p4⟩ := hc j x hx
        have kA := X.keep HKc.out.2.1 (by simp)
        exact ⟨g2, tt, x, rfl, rfl, qd, ⟨cell_at hb' p0, cell_at hb' p1, cell_at hb' p2, cell_at hb' p3, cell_at hb' p4⟩, cell_at kA rfl, cell_at kA rfl, cell_at kA rfl, cell_at kA rfl⟩
      clear Tv1 Hw HWl HD Hev
      go_wp2
      clear a0 a1 a2 a3 af y0 y1 y2 y3 y4 y5 y6 y7 y8 y9 yf z0 z1 z2 z3 zf x0 x1 x2 x3 x4 x5 x6 x7 xf
      go_loopw [92] (fun s92 wr => ∃ (j : Nat), s92 = .int .i64 (j : Int) ∧ j ≤ vn ∧ Hid (Touch [] W6 wr)) (fun s _ => vn - (intOf s).toNat)
      case atStart => exact ⟨0, rfl, Nat.zero_le _, Touch.refl _ _⟩
      case round =>
        obtain ⟨j, rfl, hj, HT⟩ := hrel
        by_cases hlt : j < vn
        · have zj : (j : Int) < (vn : Int) := by omega
          obtain ⟨g2, tt, x, rfl, rfl, qd, ⟨p0, p1, p2, p3, p4⟩, o6, o7, o8, o9⟩ := HLp.out _ j HT.out hlt
          have HNi := hid (And.intro hj hlt)
          clear HLp
          go_wp2
          go_quiet (fail)
          go_wp2
          go_roundw
          case rel => exact ⟨j + 1, by go_num, by have := HNi.out; omega, HT.out.drewN _⟩
          case measure => simp [intOf]; have := HNi.out; omega
        · have zj : (vn : Int) ≤ (j : Int) := by omega
          have tr := HT.out
          clear HLp HT hj hlt
          obtain ⟨kT, kA, kZ, kX⟩ := HKc.out
          replace kT := tr.keep kT (by first | (simp; done) | (simp; omega))
          replace kA := tr.keep kA (by first | (simp; done) | (simp; omega))
          replace kZ := tr.keep kZ (by first | (simp; done) | (simp; omega))
          replace kX := tr.keep kX (by first | (simp; done) | (simp; omega))
          clear HKc
          have HKc := hid (And.intro kT (And.intro kA (And.intro kZ kX)))
          have a0 := cell_at (j := 0) kT rfl
          have a1 := cell_at (j := 1) kT rfl
          have a2 := cell_at (j := 2) kT rfl
          have a3 := cell_at (j := 3) kT rfl
          have af := froz_at kT
          have y0 := cell_at (j := 0) kA rfl
          have y1 := cell_at (j := 1) kA rfl
          have y2 := cell_at (j := 2) kA rfl
          have y3 := cell_at (j := 3) kA rfl
          have y4 := cell_at (j := 4) kA rfl
          have y5 := cell_at (j := 5) kA rfl
          have y6 := cell_at (j := 6) kA rfl
          have y7 := cell_at (j := 7) kA rfl
          have y8 := cell_at (j := 8) kA rfl
          have y9 := cell_at (j := 9) kA rfl
          have yf := froz_at kA
          have z0 := cell_at (j := 0) kZ rfl
          have z1 := cell_at (j := 1) kZ rfl
          have z2 := cell_at (j := 2) kZ rfl
          have z3 := cell_at (j := 3) kZ rfl
          have zf := froz_at kZ
          have x0 := cell_at (j := 0) kX rfl
          have x1 := cell_at (j := 1) kX rfl
          have x2 := cell_at (j := 2) kX rfl
          have x3 := cell_at (j := 3) kX rfl
          have x4 := cell_at (j := 4) kX rfl
          have x5 := cell_at (j := 5) kX rfl
          have x6 := cell_at (j := 6) kX rfl
          have x7 := cell_at (j := 7) kX rfl
          have xf := froz_at kX
          clear kT kA kZ kX
          replace HTc := hid (HTc.out.trans tr (fun _ e => by cases e))
          replace HBv := hid (HBv.out.then0 tr)
          clear tr
          go_wp2
          obtain ⟨kT, kA, kZ, kX⟩ := HKc.out
          obtain ⟨q4, tF⟩ := finZ kZ (.int .i64 fl) (.int .i64 bg) (.slice a5 n5 c5) (.slice ga gn gc)
          have q0 := cell_at (j := 0) q4 rfl
          have q1 := cell_at (j := 1) q4 rfl
          have q2 := cell_at (j := 2) q4 rfl
          have q3 := cell_at (j := 3) q4 rfl
          exact bodyPost_ret (v := .tuple #[.agg #[.int .i64 fl, .int .i64 bg, .slice a5 n5 c5, .slice ga gn gc], .bool true]) (by simp [results, Tryz.results19, go_sem, q0, q1, q2, q3]) rfl (HE.out _ _ _ _ _ _ (HBv.out.box tF (by omega) (by have := HSz.out; omega)))
end Go.Proofs.YtpihhlllembdeaaGreat
