/- The law's act: a run is begun. -/
import Derived.Test.YtpihhlllembdeaaGreatGfo
namespace Go.Proofs.YtpihhlllembdeaaGreat
open Go.RowKit Go.Maps Go.ChangeMaps
set_option linter.unusedVariables false
set_option linter.unusedSimpArgs false
theorem beg_fl (T : Tb) (k : K) (x : Int) (rf : Bool) : (tBeg T k x rf).fl = T.fl := by
  unfold tBeg
  split <;> rfl
set_option maxHeartbeats 4000000 in
set_option maxRecDepth 100000 in
theorem act_beg0 (w : World) (t : Nat) (F : List Nat) (lv gv : Value) (ds : List De) (gs : List (K × Int)) (T : Tb) (N : Nat) (a : ActT) (hw : WfA a) (h : Bo w t F lv gv ds gs T N) (hN1 : N + 1 ≤ 1700000000000) (hk : kq a = 0) :
    Calls Tryz.prog 6 #[PT t, tv T lv gv, av a] w fun e w' => actP w t F lv gv ds (tBeg T a.k a.cl a.rf) (N + 1) e w' := by
  obtain ⟨la, lc, ga, gc, rfl, rfl⟩ := h.dt.form
  obtain ⟨n, hn⟩ : ∃ n, n = ds.length := ⟨_, rfl⟩
  obtain ⟨gn, hgn⟩ : ∃ gn, gn = gs.length := ⟨_, rfl⟩
  have HB : Hid (Bo w t F (.slice la n lc) (.slice ga gn gc) ds gs T N) := hid (by rw [hn, hgn]; exact h)
  have hnl := HB.out.dg.len
  have hFl := HB.out.tq.lt
  obtain ⟨V, hV⟩ : ∃ V, V = ((w.alloc (.cells #[.int .i64 T.fl, .int .i64 T.bg, .slice la n lc, .slice ga gn gc] 31)).alloc (.cells #[.int .i64 a.kd, .int .i64 a.rn, .int .i64 a.cl, .bool a.rf, .int .u16 a.k.1, .string a.k.2, .int .i64 a.o.1, .int .i64 a.o.2.1, .int .i64 a.o.2.2.1, .int .i64 a.o.2.2.2] 40)).alloc (.cells #[.int .i64 0, .int .i64 0, .slice none 0 0, .slice none 0 0] 31) := ⟨_, rfl⟩
  have T0 : Touch [] w V := by rw [hV]; exact (((Touch.refl _ _).alloc _).alloc _).alloc _
  have HTc : Hid (Touch F w V) := T0.mono (fun _ e => by cases e)
  have HV0 := hid T0
  have kT : V.heap[w.heap.size]? = some (.cells #[.int .i64 T.fl, .int .i64 T.bg, .slice la n lc, .slice ga gn gc] 31 (0, 0)) := by rw [hV]; exact (Below.heap_alloc _ _ _ (by simp; omega)).trans ((Below.heap_alloc _ _ _ (by simp)).trans (heap_alloc_new w _))
  have kA : V.heap[w.heap.size + 1]? = some (.cells #[.int .i64 a.kd, .int .i64 a.rn, .int .i64 a.cl, .bool a.rf, .int .u16 a.k.1, .string a.k.2, .int .i64 a.o.1, .int .i64 a.o.2.1, .int .i64 a.o.2.2.1, .int .i64 a.o.2.2.2] 40 (0, 0)) := by
    rw [hV]
    have := heap_alloc_new (w.alloc (.cells #[.int .i64 T.fl, .int .i64 T.bg, .slice la n lc, .slice ga gn gc] 31)) (.cells #[.int .i64 a.kd, .int .i64 a.rn, .int .i64 a.cl, .bool a.rf, .int .u16 a.k.1, .string a.k.2, .int .i64 a.o.1, .int .i64 a.o.2.1, .int .i64 a.o.2.2.1, .int .i64 a.o.2.2.2] 40)
    rw [World.size_alloc] at this
    exact (Below.heap_alloc _ _ _ (by simp)).trans this
  have kZ : V.heap[w.heap.size + 1 + 1]? = some (.cells #[.int .i64 0, .int .i64 0, .slice none 0 0, .slice none 0 0] 31 (0, 0)) := by
    rw [hV]
    have := heap_alloc_new ((w.alloc (.cells #[.int .i64 T.fl, .int .i64 T.bg, .slice la n lc, .slice ga gn gc] 31)).alloc (.cells #[.int .i64 a.kd, .int .i64 a.rn, .int .i64 a.cl, .bool a.rf, .int .u16 a.k.1, .string a.k.2, .int .i64 a.o.1, .int .i64 a.o.2.1, .int .i64 a.o.2.2.1, .int .i64 a.o.2.2.2] 40)) (.cells #[.int .i64 0, .int .i64 0, .slice none 0 0, .slice none 0 0] 31)
    rwa [World.size_alloc, World.size_alloc] at this
  have HN := hid hn
  have HFl := hid hFl
  have zn : (n : Int) ≤ 4096 := by omega
  unfold tv av
  rw [← hn, ← hgn]
  obtain ⟨Q, hQ⟩ : ∃ Q : Ending → World → Prop, Q = fun e w' => actP w t F (.slice la n lc) (.slice ga gn gc) ds (tBeg T a.k a.cl a.rf) (N + 1) e w' := ⟨_, rfl⟩
  have HQ : Hid (∀ e w', actP w t F (.slice la n lc) (.slice ga gn gc) ds (tBeg T a.k a.cl a.rf) (N + 1) e w' → Q e w') := hid (by rw [hQ]; exact fun e w' hh => hh)
  rw [← hQ]
  have HSz : Hid (V.heap.size = w.heap.size + 3) := hid (by rw [hV]; simp)
  have HBv := hid (HB.out.init T0)
  clear hQ h hFl
  have HP : Hid (Calls Tryz.prog 8 #[PT t, .agg #[.int .u16 a.k.1, .string a.k.2], .int .i64 a.cl, .bool a.rf] V fun e w1 => e = .returned (.tuple #[.int .i64 (tBegN T a.k a.cl a.rf), .int .i64 (tBegE T a.k a.cl a.rf)]) ∧ ∃ F', BoV w V w1 t F (.slice la n lc) (.slice ga gn gc) ds (.slice la n lc) (.slice ga gn gc) ds gs (tBeg T a.k a.cl a.rf) T (N + 1) F' ∧ Touch F V w1) := by
    refine (beginT V t F T N (HB.out.tq.keep0 T0) (by omega) a.k hw.2.2.2.1 a.cl hw.2.2.1 a.rf).mono ?_
    rintro e w1 ⟨rfl, q⟩
    have tq := q.choose_spec.2.1
    obtain ⟨F', b⟩ := (HB.out.init T0).prog (Nat.le_refl _) q
    exact ⟨rfl, F', b, tq⟩
  have HLk : Hid (∀ w', Calls Tryz.prog 18 #[.agg #[.int .u16 a.k.1, .string a.k.2]] w' fun e w'' => e = .returned (.agg #[.int .u16 a.k.1, .string a.k.2]) ∧ Touch [] w' w'') := hid (fun w' => lkey_ w' a.k)
  have HD : Hid (∀ w' F', BoV w V w' t F (.slice la n lc) (.slice ga gn gc) ds (.slice la n lc) (.slice ga gn gc) ds gs (tBeg T a.k a.cl a.rf) T (N + 1) F' → V.heap.size ≤ w'.heap.size → Calls Tryz.prog 22 #[.agg #[.int .i64 T.fl, .int .i64 T.bg, .slice la n lc, .slice ga gn gc], .agg #[.int .u16 a.k.1, .string a.k.2], .int .i64 a.cl, .bool a.rf] w' fun e w2 => ∃ a5 n5 c5 ds5, e = .returned (.tuple #[.agg #[.int .i64 T.fl, .int .i64 (tBeg T a.k a.cl a.rf).bg, .slice a5 n5 c5, .slice ga gn gc], .int .i64 (tBegN T a.k a.cl a.rf), .int .i64 (tBegE T a.k a.cl a.rf)]) ∧ (BoV w V w2 t F (.slice la n lc) (.slice ga gn gc) ds (.slice a5 n5 c5) (.slice ga gn gc) ds5 gs (tBeg T a.k a.cl a.rf) (tBeg T a.k a.cl a.rf) (N + 1) F' ∧ True ∧ ∀ b, b < w'.heap.size → ¬ b ∈ fpD (.slice la n lc) (.slice ga gn gc) ds → ¬ b ∈ fpD (.slice a5 n5 c5) (.slice ga gn gc) ds5) ∧ Touch [] w' w2) := fun w' F' X hVs => by
    refine (begin__ w' (.slice la n lc) (.slice ga gn gc) ds gs T N a.k a.cl a.rf (X.dg HB.out.dg.ti HB.out.dg.lv HB.out.dg.who HB.out.gl HB.out.hN)).mono ?_
    rintro e w2 ⟨lv', rfl, q⟩
    have t2 := q.choose_spec.2.1
    obtain ⟨ds5, X2, fr⟩ := X.docAll hVs q
    obtain ⟨a5, c5, e6⟩ := own_form X2.2.2.1.lr
    subst e6
    refine ⟨a5, _, c5, ds5, ?_, ⟨X2, trivial, fr⟩, t2⟩
    unfold tv
    rw [beg_fl]
  have HE : Hid (∀ w' F' a5 n5 c5 ds5, BoV w V w' t F (.slice la n lc) (.slice ga gn gc) ds (.slice a5 n5 c5) (.slice ga gn gc) ds5 gs (tBeg T a.k a.cl a.rf) (tBeg T a.k a.cl a.rf) (N + 1) F' → Q (.returned (.tuple #[.agg #[.int .i64 T.fl, .int .i64 (tBeg T a.k a.cl a.rf).bg, .slice a5 n5 c5, .slice ga gn gc], .bool true])) w') := fun w' F' a5 n5 c5 ds5 X => HQ.out _ _ ⟨.slice a5 n5 c5, .slice ga gn gc, gs, by unfold tv; rw [beg_fl], X.fin (by have := HB.out.gl; omega) hN1⟩
  clear HB HQ hn hgn T0 hw
  generalize T.fl = fl at *
  generalize T.bg = bg at *
  generalize (tBeg T a.k a.cl a.rf).bg = bg2 at *
  generalize tBegN T a.k a.cl a.rf = gN at *
  generalize tBegE T a.k a.cl a.rf = gR at *
  have HKc := hid (And.intro kT (And.intro kA kZ))
  have a0 := cell_at (j := 0) kT rfl
  have a1 := cell_at (j := 1) kT rfl
  have a2 := cell_at (j := 2) kT rfl
  have a3 := cell_at (j := 3) kT rfl
  have af := froz_at kT
  have y0 := cell_at (j := 0) kA rfl
  have y1 := cell_at (j := 1) kA rfl
  have y2 := cell_at (j := 2) kA rfl
  have y3 := cell_at (j := 3) kA rfl
  have y4 := cell_at (j := 4) kA rfl
  have y5 := cell_at (j := 5) kA rfl
  have y6 := cell_at (j := 6) kA rfl
  have y7 := cell_at (j := 7) kA rfl
  have y8 := cell_at (j := 8) kA rfl
  have y9 := cell_at (j := 9) kA rfl
  have yf := froz_at kA
  have z0 := cell_at (j := 0) kZ rfl
  have z1 := cell_at (j := 1) kZ rfl
  have z2 := cell_at (j := 2) kZ rfl
  have z3 := cell_at (j := 3) kZ rfl
  have zf := froz_at kZ
  clear kT kA kZ
  unfold PT at HP ⊢
  go_enter Tryz.func6, Tryz.ntmps6
  go_upto_region 1 with fail
  rw [← hV]
  clear hV
  go_upto_block 0 with fail
  rw [show (wrap64 (a.kd.tmod 9 + 9)).tmod 9 = kq a from rfl, hk]
  clear hk
  go_upto_region 32 with (go_at_call 8; refine HP.out.mono ?_; rintro e w1 ⟨rfl, F1, q1, t1⟩; obtain ⟨kT, kA, kZ⟩ := HKc.out; replace kT := t1.keep kT (fun e => by have := HFl.out _ e; omega); replace kA := t1.keep kA (fun e => by have := HFl.out _ e; omega); replace kZ := t1.keep kZ (fun e => by have := HFl.out _ e; omega); clear HKc a0 a1 a2 a3 af y0 y1 y2 y3 y4 y5 y6 y7 y8 y9 yf z0 z1 z2 z3 zf; have HKc := hid (And.intro kT (And.intro kA kZ)); have a0 := cell_at (j := 0) kT rfl; have a1 := cell_at (j := 1) kT rfl; have a2 := cell_at (j := 2) kT rfl; have a3 := cell_at (j := 3) kT rfl; have af := froz_at kT; have y0 := cell_at (j := 0) kA rfl; have y1 := cell_at (j := 1) kA rfl; have y2 := cell_at (j := 2) kA rfl; have y3 := cell_at (j := 3) kA rfl; have y4 := cell_at (j := 4) kA rfl; have y5 := cell_at (j := 5) kA rfl; have y6 := cell_at (j := 6) kA rfl; have y7 := cell_at (j := 7) kA rfl; have y8 := cell_at (j := 8) kA rfl; have y9 := cell_at (j := 9) kA rfl; have yf := froz_at kA; have z0 := cell_at (j := 0) kZ rfl; have z1 := cell_at (j := 1) kZ rfl; have z2 := cell_at (j := 2) kZ rfl; have z3 := cell_at (j := 3) kZ rfl; have zf := froz_at kZ; clear kT kA kZ; have HBv := hid q1; clear q1 t1)
  clear HP
  have U0 : ∀ w', Touch [] w1 w' → w'.cell? ⟨w.heap.size, 0, none⟩ = some (.int .i64 fl) := fun w' X => cell_at (X.keep HKc.out.1 (by simp)) rfl
  have U1 : ∀ w', Touch [] w1 w' → w'.cell? ⟨w.heap.size, 1, none⟩ = some (.int .i64 bg) := fun w' X => cell_at (X.keep HKc.out.1 (by simp)) rfl
  have U2 : ∀ w', Touch [] w1 w' → w'.cell? ⟨w.heap.size, 2, none⟩ = some (.slice la n lc) := fun w' X => cell_at (X.keep HKc.out.1 (by simp)) rfl
  have U3 : ∀ w', Touch [] w1 w' → w'.cell? ⟨w.heap.size, 3, none⟩ = some (.slice ga gn gc) := fun w' X => cell_at (X.keep HKc.out.1 (by simp)) rfl
  have G2 : ∀ w', Touch [] w1 w' → w'.cell? ⟨w.heap.size + 1, 2, none⟩ = some (.int .i64 a.cl) := fun w' X => cell_at (X.keep HKc.out.2.1 (by simp)) rfl
  have G3 : ∀ w', Touch [] w1 w' → w'.cell? ⟨w.heap.size + 1, 3, none⟩ = some (.bool a.rf) := fun w' X => cell_at (X.keep HKc.out.2.1 (by simp)) rfl
  have G4 : ∀ w', Touch [] w1 w' → w'.cell? ⟨w.heap.size + 1, 4, none⟩ = some (.int .u16 a.k.1) := fun w' X => cell_at (X.keep HKc.out.2.1 (by simp)) rfl
  have G5 : ∀ w', Touch [] w1 w' → w'.cell? ⟨w.heap.size + 1, 5, none⟩ = some (.string a.k.2) := fun w' X => cell_at (X.keep HKc.out.2.1 (by simp)) rfl
  have k0 : Touch [] w1 w1.drew := (Touch.refl _ _).drew
  have zW : w.heap.size + 3 ≤ w1.heap.size := by have := block_lt HKc.out.2.2; omega
  have HVs : Hid (V.heap.size ≤ w1.heap.size) := hid (by have := HSz.out; omega)
  clear a0 a1 a2 a3 af y0 y1 y2 y3 y4 y5 y6 y7 y8 y9 yf z0 z1 z2 z3 zf
  refine wp_region_H (S := fun w' => Touch [] w1 w') (by kernel_rfl) ?_
  refine wpH_take (i := 0) (v := (.agg #[.int .i64 fl, .int .i64 bg, .slice la n lc, .slice ga gn gc])) (some 224) rfl rfl (by kernel_rfl) (by kernel_rfl) (by kernel_rfl) (fun _ _ _ h => h) (Or.inl ⟨by rfl, fun w' hS => (by have z0 := U0 _ hS; have z1 := U1 _ hS; have z2 := U2 _ hS; have z3 := U3 _ hS; go_simp)⟩) k0 ?_
  try simp only [Go.Act.put, List.setIfInBounds_toArray, List.set_cons_zero, List.set_cons_succ]
  refine wpH_take (i := 1) (v := (.pointer (some ⟨w.heap.size + 1, 4, none⟩))) (some 225) rfl rfl (by kernel_rfl) (by kernel_rfl) (by kernel_rfl) (fun _ _ _ h => h) (Or.inl ⟨by rfl, fun w' hS => (by go_simp)⟩) k0 ?_
  try simp only [Go.Act.put, List.setIfInBounds_toArray, List.set_cons_zero, List.set_cons_succ]
  refine wpH_take (i := 2) (v := (.agg #[.int .u16 a.k.1, .string a.k.2])) (some 226) rfl rfl (by kernel_rfl) (by kernel_rfl) (by kernel_rfl) (fun _ _ _ h => h) (Or.inl ⟨by rfl, fun w' hS => (by have z0 := G4 _ hS; have z1 := G5 _ hS; go_simp)⟩) k0 ?_
  try simp only [Go.Act.put, List.setIfInBounds_toArray, List.set_cons_zero, List.set_cons_succ]
  refine wpH_take (i := 4) (v := (.pointer (some ⟨w.heap.size + 1, 2, none⟩))) (some 228) rfl rfl (by kernel_rfl) (by kernel_rfl) (by kernel_rfl) (fun _ _ _ h => h) (Or.inl ⟨by rfl, fun w' hS => (by go_simp)⟩) k0 ?_
  try simp only [Go.Act.put, List.setIfInBounds_toArray, List.set_cons_zero, List.set_cons_succ]
  refine wpH_take (i := 5) (v := (.int .i64 a.cl)) (some 229) rfl rfl (by kernel_rfl) (by kernel_rfl) (by kernel_rfl) (fun _ _ _ h => h) (Or.inl ⟨by rfl, fun w' hS => (by have z0 := G2 _ hS; go_simp)⟩) k0 ?_
  try simp only [Go.Act.put, List.setIfInBounds_toArray, List.set_cons_zero, List.set_cons_succ]
  refine wpH_take (i := 6) (v := (.pointer (some ⟨w.heap.size + 1, 3, none⟩))) (some 230) rfl rfl (by kernel_rfl) (by kernel_rfl) (by kernel_rfl) (fun _ _ _ h => h) (Or.inl ⟨by rfl, fun w' hS => (by go_simp)⟩) k0 ?_
  try simp only [Go.Act.put, List.setIfInBounds_toArray, List.set_cons_zero, List.set_cons_succ]
  refine wpH_take (i := 7) (v := (.bool a.rf)) (some 231) rfl rfl (by kernel_rfl) (by kernel_rfl) (by kernel_rfl) (fun _ _ _ h => h) (Or.inl ⟨by rfl, fun w' hS => (by have z0 := G3 _ hS; go_simp)⟩) k0 ?_
  try simp only [Go.Act.put, List.setIfInBounds_toArray, List.set_cons_zero, List.set_cons_succ]
  refine wpH_ready (rs := [3, 13]) (by kernel_rfl) (by simp) ?_
  refine AllH.cons (o := { dst := some 227, op := Op.call { callee := Callee.value (Operand.func 18), args := #[Operand.tmp 226], argTypes := #[34] }, type := 68, pos := _, after := #[{ on := 2, ground := Ground.data }], guard := none }) rfl (fun K' hK => ?_) ?_
  · rw [if_pos (by rfl)]
    go_simp
    refine (HLk.out _).mono ?_
    rintro e' wk ⟨rfl, tk⟩
    have kK : Touch [] w1 wk := k0.trans' tk
    refine hK.out _ _ kK ?_
    clear hK
    try simp only [Go.Act.put, List.setIfInBounds_toArray, List.set_cons_zero, List.set_cons_succ]
    refine wpH_ready (rs := [8, 13]) (by kernel_rfl) (by simp) ?_
    refine AllH.cons (o := { dst := some 232, op := Op.call { callee := Callee.value (Operand.func 22), args := #[Operand.tmp 224, Operand.tmp 227, Operand.tmp 229, Operand.tmp 231], argTypes := #[31, 68, 3, 4] }, type := 66, pos := _, after := #[{ on := 0, ground := Ground.data }, { on := 3, ground := Ground.data }, { on := 5, ground := Ground.data }, { on := 7, ground := Ground.data }, { on := 3, ground := Ground.chain }], guard := none }) rfl (fun K' hK => ?_) ?_
    · rw [if_pos (by rfl)]
      go_simp
      refine (HD.out _ _ (HBv.out.then0 kK) (Nat.le_trans HVs.out kK.size)).mono ?_
      rintro e' w5 ⟨a5, n5, c5, ds5, rfl, ⟨b5v, hl5, fr5⟩, t5⟩
      have kO : Touch [] w1 w5 := kK.trans' t5
      refine hK.out _ _ kO ?_
      clear hK
      try simp only [Go.Act.put, List.setIfInBounds_toArray, List.set_cons_zero, List.set_cons_succ]
      refine wpH_take (i := 9) (v := (.tuple #[(.agg #[.int .i64 fl, .int .i64 bg2, .slice a5 n5 c5, .slice ga gn gc]), (.int .i64 gN), (.int .i64 gR)])) (some 223) rfl rfl (by kernel_rfl) (by kernel_rfl) (by kernel_rfl) (fun _ _ _ h => h) (Or.inl ⟨by rfl, fun w' hS => (by go_simp)⟩) kO ?_
      try simp only [Go.Act.put, List.setIfInBounds_toArray, List.set_cons_zero, List.set_cons_succ]
      refine wpH_take (i := 10) (v := (.agg #[.int .i64 fl, .int .i64 bg2, .slice a5 n5 c5, .slice ga gn gc])) (some 233) rfl rfl (by kernel_rfl) (by kernel_rfl) (by kernel_rfl) (fun _ _ _ h => h) (Or.inl ⟨by rfl, fun w' hS => (by go_simp)⟩) kO ?_
      try simp only [Go.Act.put, List.setIfInBounds_toArray, List.set_cons_zero, List.set_cons_succ]
      refine wpH_take (i := 11) (v := (.int .i64 gN)) (some 234) rfl rfl (by kernel_rfl) (by kernel_rfl) (by kernel_rfl) (fun _ _ _ h => h) (Or.inl ⟨by rfl, fun w' hS => (by go_simp)⟩) kO ?_
      try simp only [Go.Act.put, List.setIfInBounds_toArray, List.set_cons_zero, List.set_cons_succ]
      refine wpH_take (i := 12) (v := (.int .i64 gR)) (some 235) rfl rfl (by kernel_rfl) (by kernel_rfl) (by kernel_rfl) (fun _ _ _ h => h) (Or.inl ⟨by rfl, fun w' hS => (by go_simp)⟩) kO ?_
      try simp only [Go.Act.put, List.setIfInBounds_toArray, List.set_cons_zero, List.set_cons_succ]
      refine wpH_call (i := 13) (o := { dst := some 31, op := Op.alloc 31, type := 0, pos := _, after := #[], guard := none }) (by kernel_rfl) rfl (fun K' hK => ?_)
      rw [if_pos (by rfl)]
      go_simp
      have kA : Touch [] w1 (w5.alloc (.cells #[.int .i64 0, .int .i64 0, .slice none 0 0, .slice none 0 0] 31)) := kO.alloc _
      have kE : (w5.alloc (.cells #[.int .i64 0, .int .i64 0, .slice none 0 0, .slice none 0 0] 31)).heap[w5.heap.size]? = some (.cells #[.int .i64 0, .int .i64 0, .slice none 0 0, .slice none 0 0] 31 (0, 0)) := heap_alloc_new w5 _
      have zE : w1.heap.size ≤ w5.heap.size := kO.size
      refine hK.out _ _ kA ?_
      clear hK
      try simp only [Go.Act.put, List.setIfInBounds_toArray, List.set_cons_zero, List.set_cons_succ]
      refine wpH_call (i := 14) (o := { dst := none, op := Op.store 31 (Operand.tmp 31) (Operand.tmp 233), type := 0, pos := _, after := #[{ on := 13, ground := Ground.data }, { on := 10, ground := Ground.data }, { on := 8, ground := Ground.chain }, { on := 0, ground := Ground.phase }, { on := 1, ground := Ground.phase }, { on := 2, ground := Ground.phase }, { on := 3, ground := Ground.phase }, { on := 4, ground := Ground.phase }, { on := 5, ground := Ground.phase }, { on := 6, ground := Ground.phase }, { on := 7, ground := Ground.phase }, { on := 8, ground := Ground.phase }, { on := 9, ground := Ground.phase }, { on := 10, ground := Ground.phase }, { on := 11, ground := Ground.textOnly Departure.lateStores }, { on := 12, ground := Ground.textOnly Departure.lateStores }, { on := 13, ground := Ground.phase }], guard := none }) (by kernel_rfl) rfl (fun K' hK => ?_)
      rw [if_pos (by rfl)]
      have e0 := cell_at (j := 0) kE rfl
      have e1 := cell_at (j := 1) kE rfl
      have e2 := cell_at (j := 2) kE rfl
      have e3 := cell_at (j := 3) kE rfl
      have ef := froz_at kE
      go_simp
      have kS : Touch [] w1 (w5.alloc (.cells #[.int .i64 fl, .int .i64 bg2, .slice a5 n5 c5, .slice ga gn gc] 31)) := kO.alloc _
      have q8 : (w5.alloc (.cells #[.int .i64 fl, .int .i64 bg2, .slice a5 n5 c5, .slice ga gn gc] 31)).heap[w5.heap.size]? = some (.cells #[.int .i64 fl, .int .i64 bg2, .slice a5 n5 c5, .slice ga gn gc] 31 (0, 0)) := heap_alloc_new w5 _
      have HB5 := hid (b5v.then0 ((Touch.refl _ _).alloc (.cells #[.int .i64 fl, .int .i64 bg2, .slice a5 n5 c5, .slice ga gn gc] 31)))
      refine hK.out _ _ kS ?_
      clear hK
      try simp only [Go.Act.put, List.setIfInBounds_toArray, List.set_cons_zero, List.set_cons_succ]
      refine wpH_take (i := 15) (v := (.int .i64 gN)) (some 32) rfl rfl (by kernel_rfl) (by kernel_rfl) (by kernel_rfl) (fun _ _ _ h => h) (Or.inl ⟨by rfl, fun w' hS => (by go_simp)⟩) kS ?_
      try simp only [Go.Act.put, List.setIfInBounds_toArray, List.set_cons_zero, List.set_cons_succ]
      refine wpH_take (i := 16) (v := (.int .i64 gR)) (some 33) rfl rfl (by kernel_rfl) (by kernel_rfl) (by kernel_rfl) (fun _ _ _ h => h) (Or.inl ⟨by rfl, fun w' hS => (by go_simp)⟩) kS ?_
      try simp only [Go.Act.put, List.setIfInBounds_toArray, List.set_cons_zero, List.set_cons_succ]
      refine wpAnyH_done (by kernel_rfl) ?_ _
      clear e0 e1 e2 e3 ef k0 U0 U1 U2 U3 G2 G3 G4 G5
      have kz := kS.keep HKc.out.2.2 (by simp)
      have zb : ¬ w.heap.size + 1 + 1 = w5.heap.size := by omega
      generalize w5.heap.size = tb at *
      have u0 := cell_at (j := 0) q8 rfl
      have u1 := cell_at (j := 1) q8 rfl
      have u2 := cell_at (j := 2) q8 rfl
      have u3 := cell_at (j := 3) q8 rfl
      have uf := froz_at q8
      have z0 := cell_at (j := 0) kz rfl
      have z1 := cell_at (j := 1) kz rfl
      have z2 := cell_at (j := 2) kz rfl
      have z3 := cell_at (j := 3) kz rfl
      have zf := froz_at kz
      go_wp2
      obtain ⟨q4, tG⟩ := finZ kz (.int .i64 fl) (.int .i64 bg2) (.slice a5 n5 c5) (.slice ga gn gc)
      have q0 := cell_at (j := 0) q4 rfl
      have q1 := cell_at (j := 1) q4 rfl
      have q2 := cell_at (j := 2) q4 rfl
      have q3 := cell_at (j := 3) q4 rfl
      exact bodyPost_ret (v := .tuple #[.agg #[.int .i64 fl, .int .i64 bg2, .slice a5 n5 c5, .slice ga gn gc], .bool true]) (by simp [results, Tryz.results6, go_sem, q0, q1, q2, q3]) rfl (HE.out _ _ _ _ _ _ (HB5.out.box tG (by omega) (by have := HSz.out; omega)))
    refine AllH.cons (o := { dst := some 31, op := Op.alloc 31, type := 0, pos := _, after := #[], guard := none }) rfl (fun K' hK => ?_) ?_
    · rw [if_pos (by rfl)]
      go_simp
      have kA : Touch [] w1 (wk.alloc (.cells #[.int .i64 0, .int .i64 0, .slice none 0 0, .slice none 0 0] 31)) := kK.alloc _
      have kE : (wk.alloc (.cells #[.int .i64 0, .int .i64 0, .slice none 0 0, .slice none 0 0] 31)).heap[wk.heap.size]? = some (.cells #[.int .i64 0, .int .i64 0, .slice none 0 0, .slice none 0 0] 31 (0, 0)) := heap_alloc_new wk _
      have zE : w1.heap.size ≤ wk.heap.size := kK.size
      refine hK.out _ _ kA ?_
      clear hK
      try simp only [Go.Act.put, List.setIfInBounds_toArray, List.set_cons_zero, List.set_cons_succ]
      refine wpH_call (i := 8) (o := { dst := some 232, op := Op.call { callee := Callee.value (Operand.func 22), args := #[Operand.tmp 224, Operand.tmp 227, Operand.tmp 229, Operand.tmp 231], argTypes := #[31, 68, 3, 4] }, type := 66, pos := _, after := #[{ on := 0, ground := Ground.data }, { on := 3, ground := Ground.data }, { on := 5, ground := Ground.data }, { on := 7, ground := Ground.data }, { on := 3, ground := Ground.chain }], guard := none }) (by kernel_rfl) rfl (fun K' hK => ?_)
      rw [if_pos (by rfl)]
      go_simp
      refine (HD.out _ _ (HBv.out.then0 kA) (Nat.le_trans HVs.out kA.size)).mono ?_
      rintro e' w5 ⟨a5, n5, c5, ds5, rfl, ⟨b5v, hl5, fr5⟩, t5⟩
      have kO : Touch [] w1 w5 := kA.trans' t5
      have nb := fr5 _ (block_lt kE) (HBv.out.fresh zE).2
      replace kE := t5.keep kE (by simp)
      refine hK.out _ _ kO ?_
      clear hK
      try simp only [Go.Act.put, List.setIfInBounds_toArray, List.set_cons_zero, List.set_cons_succ]
      refine wpH_take (i := 9) (v := (.tuple #[(.agg #[.int .i64 fl, .int .i64 bg2, .slice a5 n5 c5, .slice ga gn gc]), (.int .i64 gN), (.int .i64 gR)])) (some 223) rfl rfl (by kernel_rfl) (by kernel_rfl) (by kernel_rfl) (fun _ _ _ h => h) (Or.inl ⟨by rfl, fun w' hS => (by go_simp)⟩) kO ?_
      try simp only [Go.Act.put, List.setIfInBounds_toArray, List.set_cons_zero, List.set_cons_succ]
      refine wpH_take (i := 10) (v := (.agg #[.int .i64 fl, .int .i64 bg2, .slice a5 n5 c5, .slice ga gn gc])) (some 233) rfl rfl (by kernel_rfl) (by kernel_rfl) (by kernel_rfl) (fun _ _ _ h => h) (Or.inl ⟨by rfl, fun w' hS => (by go_simp)⟩) kO ?_
      try simp only [Go.Act.put, List.setIfInBounds_toArray, List.set_cons_zero, List.set_cons_succ]
      refine wpH_take (i := 11) (v := (.int .i64 gN)) (some 234) rfl rfl (by kernel_rfl) (by kernel_rfl) (by kernel_rfl) (fun _ _ _ h => h) (Or.inl ⟨by rfl, fun w' hS => (by go_simp)⟩) kO ?_
      try simp only [Go.Act.put, List.setIfInBounds_toArray, List.set_cons_zero, List.set_cons_succ]
      refine wpH_take (i := 12) (v := (.int .i64 gR)) (some 235) rfl rfl (by kernel_rfl) (by kernel_rfl) (by kernel_rfl) (fun _ _ _ h => h) (Or.inl ⟨by rfl, fun w' hS => (by go_simp)⟩) kO ?_
      try simp only [Go.Act.put, List.setIfInBounds_toArray, List.set_cons_zero, List.set_cons_succ]
      refine wpH_call (i := 14) (o := { dst := none, op := Op.store 31 (Operand.tmp 31) (Operand.tmp 233), type := 0, pos := _, after := #[{ on := 13, ground := Ground.data }, { on := 10, ground := Ground.data }, { on := 8, ground := Ground.chain }, { on := 0, ground := Ground.phase }, { on := 1, ground := Ground.phase }, { on := 2, ground := Ground.phase }, { on := 3, ground := Ground.phase }, { on := 4, ground := Ground.phase }, { on := 5, ground := Ground.phase }, { on := 6, ground := Ground.phase }, { on := 7, ground := Ground.phase }, { on := 8, ground := Ground.phase }, { on := 9, ground := Ground.phase }, { on := 10, ground := Ground.phase }, { on := 11, ground := Ground.textOnly Departure.lateStores }, { on := 12, ground := Ground.textOnly Departure.lateStores }, { on := 13, ground := Ground.phase }], guard := none }) (by kernel_rfl) rfl (fun K' hK => ?_)
      rw [if_pos (by rfl)]
      have e0 := cell_at (j := 0) kE rfl
      have e1 := cell_at (j := 1) kE rfl
      have e2 := cell_at (j := 2) kE rfl
      have e3 := cell_at (j := 3) kE rfl
      have ef := froz_at kE
      go_simp
      obtain ⟨q8, tF⟩ := finZ kE (.int .i64 fl) (.int .i64 bg2) (.slice a5 n5 c5) (.slice ga gn gc)
      have kS := kO.trans tF (fun b hb => Or.inr (by simp at hb; omega))
      have HB5 := hid (b5v.far tF (by omega) (HBv.out.fresh zE).1 nb)
      refine hK.out _ _ kS ?_
      clear hK
      try simp only [Go.Act.put, List.setIfInBounds_toArray, List.set_cons_zero, List.set_cons_succ]
      refine wpH_take (i := 15) (v := (.int .i64 gN)) (some 32) rfl rfl (by kernel_rfl) (by kernel_rfl) (by kernel_rfl) (fun _ _ _ h => h) (Or.inl ⟨by rfl, fun w' hS => (by go_simp)⟩) kS ?_
      try simp only [Go.Act.put, List.setIfInBounds_toArray, List.set_cons_zero, List.set_cons_succ]
      refine wpH_take (i := 16) (v := (.int .i64 gR)) (some 33) rfl rfl (by kernel_rfl) (by kernel_rfl) (by kernel_rfl) (fun _ _ _ h => h) (Or.inl ⟨by rfl, fun w' hS => (by go_simp)⟩) kS ?_
      try simp only [Go.Act.put, List.setIfInBounds_toArray, List.set_cons_zero, List.set_cons_succ]
      refine wpAnyH_done (by kernel_rfl) ?_ _
      clear e0 e1 e2 e3 ef k0 U0 U1 U2 U3 G2 G3 G4 G5
      have kz := kS.keep HKc.out.2.2 (by simp)
      have zb : ¬ w.heap.size + 1 + 1 = wk.heap.size := by omega
      generalize wk.heap.size = tb at *
      have u0 := cell_at (j := 0) q8 rfl
      have u1 := cell_at (j := 1) q8 rfl
      have u2 := cell_at (j := 2) q8 rfl
      have u3 := cell_at (j := 3) q8 rfl
      have uf := froz_at q8
      have z0 := cell_at (j := 0) kz rfl
      have z1 := cell_at (j := 1) kz rfl
      have z2 := cell_at (j := 2) kz rfl
      have z3 := cell_at (j := 3) kz rfl
      have zf := froz_at kz
      go_wp2
      obtain ⟨q4, tG⟩ := finZ kz (.int .i64 fl) (.int .i64 bg2) (.slice a5 n5 c5) (.slice ga gn gc)
      have q0 := cell_at (j := 0) q4 rfl
      have q1 := cell_at (j := 1) q4 rfl
      have q2 := cell_at (j := 2) q4 rfl
      have q3 := cell_at (j := 3) q4 rfl
      exact bodyPost_ret (v := .tuple #[.agg #[.int .i64 fl, .int .i64 bg2, .slice a5 n5 c5, .slice ga gn gc], .bool true]) (by simp [results, Tryz.results6, go_sem, q0, q1, q2, q3]) rfl (HE.out _ _ _ _ _ _ (HB5.out.box tG (by omega) (by have := HSz.out; omega)))
    exact AllH.nil
  refine AllH.cons (o := { dst := some 31, op := Op.alloc 31, type := 0, pos := _, after := #[], guard := none }) rfl (fun K' hK => ?_) ?_
  · rw [if_pos (by rfl)]
    go_simp
    have kA : Touch [] w1 (w1.drew.alloc (.cells #[.int .i64 0, .int .i64 0, .slice none 0 0, .slice none 0 0] 31)) := k0.alloc _
    have kE : (w1.drew.alloc (.cells #[.int .i64 0, .int .i64 0, .slice none 0 0, .slice none 0 0] 31)).heap[w1.heap.size]? = some (.cells #[.int .i64 0, .int .i64 0, .slice none 0 0, .slice none 0 0] 31 (0, 0)) := heap_alloc_new w1.drew _
    have zE : w1.heap.size ≤ w1.heap.size := k0.size
    refine hK.out _ _ kA ?_
    clear hK
    try simp only [Go.Act.put, List.setIfInBounds_toArray, List.set_cons_zero, List.set_cons_succ]
    refine wpH_call (i := 3) (o := { dst := some 227, op := Op.call { callee := Callee.value (Operand.func 18), args := #[Operand.tmp 226], argTypes := #[34] }, type := 68, pos := _, after := #[{ on := 2, ground := Ground.data }], guard := none }) (by kernel_rfl) rfl (fun K' hK => ?_)
    rw [if_pos (by rfl)]
    go_simp
    refine (HLk.out _).mono ?_
    rintro e' wk ⟨rfl, tk⟩
    have kK : Touch [] w1 wk := kA.trans' tk
    replace kE := tk.keep kE (by simp)
    refine hK.out _ _ kK ?_
    clear hK
    try simp only [Go.Act.put, List.setIfInBounds_toArray, List.set_cons_zero, List.set_cons_succ]
    refine wpH_call (i := 8) (o := { dst := some 232, op := Op.call { callee := Callee.value (Operand.func 22), args := #[Operand.tmp 224, Operand.tmp 227, Operand.tmp 229, Operand.tmp 231], argTypes := #[31, 68, 3, 4] }, type := 66, pos := _, after := #[{ on := 0, ground := Ground.data }, { on := 3, ground := Ground.data }, { on := 5, ground := Ground.data }, { on := 7, ground := Ground.data }, { on := 3, ground := Ground.chain }], guard := none }) (by kernel_rfl) rfl (fun K' hK => ?_)
    rw [if_pos (by rfl)]
    go_simp
    refine (HD.out _ _ (HBv.out.then0 kK) (Nat.le_trans HVs.out kK.size)).mono ?_
    rintro e' w5 ⟨a5, n5, c5, ds5, rfl, ⟨b5v, hl5, fr5⟩, t5⟩
    have kO : Touch [] w1 w5 := kK.trans' t5
    have nb := fr5 _ (block_lt kE) (HBv.out.fresh zE).2
    replace kE := t5.keep kE (by simp)
    refine hK.out _ _ kO ?_
    clear hK
    try simp only [Go.Act.put, List.setIfInBounds_toArray, List.set_cons_zero, List.set_cons_succ]
    refine wpH_take (i := 9) (v := (.tuple #[(.agg #[.int .i64 fl, .int .i64 bg2, .slice a5 n5 c5, .slice ga gn gc]), (.int .i64 gN), (.int .i64 gR)])) (some 223) rfl rfl (by kernel_rfl) (by kernel_rfl) (by kernel_rfl) (fun _ _ _ h => h) (Or.inl ⟨by rfl, fun w' hS => (by go_simp)⟩) kO ?_
    try simp only [Go.Act.put, List.setIfInBounds_toArray, List.set_cons_zero, List.set_cons_succ]
    refine wpH_take (i := 10) (v := (.agg #[.int .i64 fl, .int .i64 bg2, .slice a5 n5 c5, .slice ga gn gc])) (some 233) rfl rfl (by kernel_rfl) (by kernel_rfl) (by kernel_rfl) (fun _ _ _ h => h) (Or.inl ⟨by rfl, fun w' hS => (by go_simp)⟩) kO ?_
    try simp only [Go.Act.put, List.setIfInBounds_toArray, List.set_cons_zero, List.set_cons_succ]
    refine wpH_take (i := 11) (v := (.int .i64 gN)) (some 234) rfl rfl (by kernel_rfl) (by kernel_rfl) (by kernel_rfl) (fun _ _ _ h => h) (Or.inl ⟨by rfl, fun w' hS => (by go_simp)⟩) kO ?_
    try simp only [Go.Act.put, List.setIfInBounds_toArray, List.set_cons_zero, List.set_cons_succ]
    refine wpH_take (i := 12) (v := (.int .i64 gR)) (some 235) rfl rfl (by kernel_rfl) (by kernel_rfl) (by kernel_rfl) (fun _ _ _ h => h) (Or.inl ⟨by rfl, fun w' hS => (by go_simp)⟩) kO ?_
    try simp only [Go.Act.put, List.setIfInBounds_toArray, List.set_cons_zero, List.set_cons_succ]
    refine wpH_call (i := 14) (o := { dst := none, op := Op.store 31 (Operand.tmp 31) (Operand.tmp 233), type := 0, pos := _, after := #[{ on := 13, ground := Ground.data }, { on := 10, ground := Ground.data }, { on := 8, ground := Ground.chain }, { on := 0, ground := Ground.phase }, { on := 1, ground := Ground.phase }, { on := 2, ground := Ground.phase }, { on := 3, ground := Ground.phase }, { on := 4, ground := Ground.phase }, { on := 5, ground := Ground.phase }, { on := 6, ground := Ground.phase }, { on := 7, ground := Ground.phase }, { on := 8, ground := Ground.phase }, { on := 9, ground := Ground.phase }, { on := 10, ground := Ground.phase }, { on := 11, ground := Ground.textOnly Departure.lateStores }, { on := 12, ground := Ground.textOnly Departure.lateStores }, { on := 13, ground := Ground.phase }], guard := none }) (by kernel_rfl) rfl (fun K' hK => ?_)
    rw [if_pos (by rfl)]
    have e0 := cell_at (j := 0) kE rfl
    have e1 := cell_at (j := 1) kE rfl
    have e2 := cell_at (j := 2) kE rfl
    have e3 := cell_at (j := 3) kE rfl
    have ef := froz_at kE
    go_simp
    obtain ⟨q8, tF⟩ := finZ kE (.int .i64 fl) (.int .i64 bg2) (.slice a5 n5 c5) (.slice ga gn gc)
    have kS := kO.trans tF (fun b hb => Or.inr (by simp at hb; omega))
    have HB5 := hid (b5v.far tF (by omega) (HBv.out.fresh zE).1 nb)
    refine hK.out _ _ kS ?_
    clear hK
    try simp only [Go.Act.put, List.setIfInBounds_toArray, List.set_cons_zero, List.set_cons_succ]
    refine wpH_take (i := 15) (v := (.int .i64 gN)) (some 32) rfl rfl (by kernel_rfl) (by kernel_rfl) (by kernel_rfl) (fun _ _ _ h => h) (Or.inl ⟨by rfl, fun w' hS => (by go_simp)⟩) kS ?_
    try simp only [Go.Act.put, List.setIfInBounds_toArray, List.set_cons_zero, List.set_cons_succ]
    refine wpH_take (i := 16) (v := (.int .i64 gR)) (some 33) rfl rfl (by kernel_rfl) (by kernel_rfl) (by kernel_rfl) (fun _ _ _ h => h) (Or.inl ⟨by rfl, fun w' hS => (by go_simp)⟩) kS ?_
    try simp only [Go.Act.put, List.setIfInBounds_toArray, List.set_cons_zero, List.set_cons_succ]
    refine wpAnyH_done (by kernel_rfl) ?_ _
    clear e0 e1 e2 e3 ef k0 U0 U1 U2 U3 G2 G3 G4 G5
    have kz := kS.keep HKc.out.2.2 (by simp)
    have zb : ¬ w.heap.size + 1 + 1 = w1.heap.size := by omega
    generalize w1.heap.size = tb at *
    have u0 := cell_at (j := 0) q8 rfl
    have u1 := cell_at (j := 1) q8 rfl
    have u2 := cell_at (j := 2) q8 rfl
    have u3 := cell_at (j := 3) q8 rfl
    have uf := froz_at q8
    have z0 := cell_at (j := 0) kz rfl
    have z1 := cell_at (j := 1) kz rfl
    have z2 := cell_at (j := 2) kz rfl
    have z3 := cell_at (j := 3) kz rfl
    have zf := froz_at kz
    go_wp2
    obtain ⟨q4, tG⟩ := finZ kz (.int .i64 fl) (.int .i64 bg2) (.slice a5 n5 c5) (.slice ga gn gc)
    have q0 := cell_at (j := 0) q4 rfl
    have q1 := cell_at (j := 1) q4 rfl
    have q2 := cell_at (j := 2) q4 rfl
    have q3 := cell_at (j := 3) q4 rfl
    exact bodyPost_ret (v := .tuple #[.agg #[.int .i64 fl, .int .i64 bg2, .slice a5 n5 c5, .slice ga gn gc], .bool true]) (by simp [results, Tryz.results6, go_sem, q0, q1, q2, q3]) rfl (HE.out _ _ _ _ _ _ (HB5.out.box tG (by omega) (by have := HSz.out; omega)))
  exact AllH.nil
set_option maxHeartbeats 4000000 in
set_option maxRecDepth 100000 in
theorem act_beg1 (w : World) (t : Nat) (F : List Nat) (lv gv : Value) (ds : List De) (gs : List (K × Int)) (T : Tb) (N : Nat) (a : ActT) (hw : WfA a) (h : Bo w t F lv gv ds gs T N) (hN1 : N + 1 ≤ 1700000000000) (hk : kq a = 1) :
    Calls Tryz.prog 6 #[PT t, tv T lv gv, av a] w fun e w' => actP w t F lv gv ds (tBeg T a.k a.cl a.rf) (N + 1) e w' := by
  obtain ⟨la, lc, ga, gc, rfl, rfl⟩ := h.dt.form
  obtain ⟨n, hn⟩ : ∃ n, n = ds.length := ⟨_, rfl⟩
  obtain ⟨gn, hgn⟩ : ∃ gn, gn = gs.length := ⟨_, rfl⟩
  have HB : Hid (Bo w t F (.slice la n lc) (.slice ga gn gc) ds gs T N) := hid (by rw [hn, hgn]; exact h)
  have hnl := HB.out.dg.len
  have hFl := HB.out.tq.lt
  obtain ⟨V, hV⟩ : ∃ V, V = ((w.alloc (.cells #[.int .i64 T.fl, .int .i64 T.bg, .slice la n lc, .slice ga gn gc] 31)).alloc (.cells #[.int .i64 a.kd, .int .i64 a.rn, .int .i64 a.cl, .bool a.rf, .int .u16 a.k.1, .string a.k.2, .int .i64 a.o.1, .int .i64 a.o.2.1, .int .i64 a.o.2.2.1, .int .i64 a.o.2.2.2] 40)).alloc (.cells #[.int .i64 0, .int .i64 0, .slice none 0 0, .slice none 0 0] 31) := ⟨_, rfl⟩
  have T0 : Touch [] w V := by rw [hV]; exact (((Touch.refl _ _).alloc _).alloc _).alloc _
  have HTc : Hid (Touch F w V) := T0.mono (fun _ e => by cases e)
  have HV0 := hid T0
  have kT : V.heap[w.heap.size]? = some (.cells #[.int .i64 T.fl, .int .i64 T.bg, .slice la n lc, .slice ga gn gc] 31 (0, 0)) := by rw [hV]; exact (Below.heap_alloc _ _ _ (by simp; omega)).trans ((Below.heap_alloc _ _ _ (by simp)).trans (heap_alloc_new w _))
  have kA : V.heap[w.heap.size + 1]? = some (.cells #[.int .i64 a.kd, .int .i64 a.rn, .int .i64 a.cl, .bool a.rf, .int .u16 a.k.1, .string a.k.2, .int .i64 a.o.1, .int .i64 a.o.2.1, .int .i64 a.o.2.2.1, .int .i64 a.o.2.2.2] 40 (0, 0)) := by
    rw [hV]
    have := heap_alloc_new (w.alloc (.cells #[.int .i64 T.fl, .int .i64 T.bg, .slice la n lc, .slice ga gn gc] 31)) (.cells #[.int .i64 a.kd, .int .i64 a.rn, .int .i64 a.cl, .bool a.rf, .int .u16 a.k.1, .string a.k.2, .int .i64 a.o.1, .int .i64 a.o.2.1, .int .i64 a.o.2.2.1, .int .i64 a.o.2.2.2] 40)
    rw [World.size_alloc] at this
    exact (Below.heap_alloc _ _ _ (by simp)).trans this
  have kZ : V.heap[w.heap.size + 1 + 1]? = some (.cells #[.int .i64 0, .int .i64 0, .slice none 0 0, .slice none 0 0] 31 (0, 0)) := by
    rw [hV]
    have := heap_alloc_new ((w.alloc (.cells #[.int .i64 T.fl, .int .i64 T.bg, .slice la n lc, .slice ga gn gc] 31)).alloc (.cells #[.int .i64 a.kd, .int .i64 a.rn, .int .i64 a.cl, .bool a.rf, .int .u16 a.k.1, .string a.k.2, .int .i64 a.o.1, .int .i64 a.o.2.1, .int .i64 a.o.2.2.1, .int .i64 a.o.2.2.2] 40)) (.cells #[.int .i64 0, .int .i64 0, .slice none 0 0, .slice none 0 0] 31)
    rwa [World.size_alloc, World.size_alloc] at this
  have HN := hid hn
  have HFl := hid hFl
  have zn : (n : Int) ≤ 4096 := by omega
  unfold tv av
  rw [← hn, ← hgn]
  obtain ⟨Q, hQ⟩ : ∃ Q : Ending → World → Prop, Q = fun e w' => actP w t F (.slice la n lc) (.slice ga gn gc) ds (tBeg T a.k a.cl a.rf) (N + 1) e w' := ⟨_, rfl⟩
  have HQ : Hid (∀ e w', actP w t F (.slice la n lc) (.slice ga gn gc) ds (tBeg T a.k a.cl a.rf) (N + 1) e w' → Q e w') := hid (by rw [hQ]; exact fun e w' hh => hh)
  rw [← hQ]
  have HSz : Hid (V.heap.size = w.heap.size + 3) := hid (by rw [hV]; simp)
  have HBv := hid (HB.out.init T0)
  clear hQ h hFl
  have HP : Hid (Calls Tryz.prog 8 #[PT t, .agg #[.int .u16 a.k.1, .string a.k.2], .int .i64 a.cl, .bool a.rf] V fun e w1 => e = .returned (.tuple #[.int .i64 (tBegN T a.k a.cl a.rf), .int .i64 (tBegE T a.k a.cl a.rf)]) ∧ ∃ F', BoV w V w1 t F (.slice la n lc) (.slice ga gn gc) ds (.slice la n lc) (.slice ga gn gc) ds gs (tBeg T a.k a.cl a.rf) T (N + 1) F' ∧ Touch F V w1) := by
    refine (beginT V t F T N (HB.out.tq.keep0 T0) (by omega) a.k hw.2.2.2.1 a.cl hw.2.2.1 a.rf).mono ?_
    rintro e w1 ⟨rfl, q⟩
    have tq := q.choose_spec.2.1
    obtain ⟨F', b⟩ := (HB.out.init T0).prog (Nat.le_refl _) q
    exact ⟨rfl, F', b, tq⟩
  have HLk : Hid (∀ w', Calls Tryz.prog 18 #[.agg #[.int .u16 a.k.1, .string a.k.2]] w' fun e w'' => e = .returned (.agg #[.int .u16 a.k.1, .string a.k.2]) ∧ Touch [] w' w'') := hid (fun w' => lkey_ w' a.k)
  have HD : Hid (∀ w' F', BoV w V w' t F (.slice la n lc) (.slice ga gn gc) ds (.slice la n lc) (.slice ga gn gc) ds gs (tBeg T a.k a.cl a.rf) T (N + 1) F' → V.heap.size ≤ w'.heap.size → Calls Tryz.prog 22 #[.agg #[.int .i64 T.fl, .int .i64 T.bg, .slice la n lc, .slice ga gn gc], .agg #[.int .u16 a.k.1, .string a.k.2], .int .i64 a.cl, .bool a.rf] w' fun e w2 => ∃ a5 n5 c5 ds5, e = .returned (.tuple #[.agg #[.int .i64 T.fl, .int .i64 (tBeg T a.k a.cl a.rf).bg, .slice a5 n5 c5, .slice ga gn gc], .int .i64 (tBegN T a.k a.cl a.rf), .int .i64 (tBegE T a.k a.cl a.rf)]) ∧ (BoV w V w2 t F (.slice la n lc) (.slice ga gn gc) ds (.slice a5 n5 c5) (.slice ga gn gc) ds5 gs (tBeg T a.k a.cl a.rf) (tBeg T a.k a.cl a.rf) (N + 1) F' ∧ True ∧ ∀ b, b < w'.heap.size → ¬ b ∈ fpD (.slice la n lc) (.slice ga gn gc) ds → ¬ b ∈ fpD (.slice a5 n5 c5) (.slice ga gn gc) ds5) ∧ Touch [] w' w2) := fun w' F' X hVs => by
    refine (begin__ w' (.slice la n lc) (.slice ga gn gc) ds gs T N a.k a.cl a.rf (X.dg HB.out.dg.ti HB.out.dg.lv HB.out.dg.who HB.out.gl HB.out.hN)).mono ?_
    rintro e w2 ⟨lv', rfl, q⟩
    have t2 := q.choose_spec.2.1
    obtain ⟨ds5, X2, fr⟩ := X.docAll hVs q
    obtain ⟨a5, c5, e6⟩ := own_form X2.2.2.1.lr
    subst e6
    refine ⟨a5, _, c5, ds5, ?_, ⟨X2, trivial, fr⟩, t2⟩
    unfold tv
    rw [beg_fl]
  have HE : Hid (∀ w' F' a5 n5 c5 ds5, BoV w V w' t F (.slice la n lc) (.slice ga gn gc) ds (.slice a5 n5 c5) (.slice ga gn gc) ds5 gs (tBeg T a.k a.cl a.rf) (tBeg T a.k a.cl a.rf) (N + 1) F' → Q (.returned (.tuple #[.agg #[.int .i64 T.fl, .int .i64 (tBeg T a.k a.cl a.rf).bg, .slice a5 n5 c5, .slice ga gn gc], .bool true])) w') := fun w' F' a5 n5 c5 ds5 X => HQ.out _ _ ⟨.slice a5 n5 c5, .slice ga gn gc, gs, by unfold tv; rw [beg_fl], X.fin (by have := HB.out.gl; omega) hN1⟩
  clear HB HQ hn hgn T0 hw
  generalize T.fl = fl at *
  generalize T.bg = bg at *
  generalize (tBeg T a.k a.cl a.rf).bg = bg2 at *
  generalize tBegN T a.k a.cl a.rf = gN at *
  generalize tBegE T a.k a.cl a.rf = gR at *
  have HKc := hid (And.intro kT (And.intro kA kZ))
  have a0 := cell_at (j := 0) kT rfl
  have a1 := cell_at (j := 1) kT rfl
  have a2 := cell_at (j := 2) kT rfl
  have a3 := cell_at (j := 3) kT rfl
  have af := froz_at kT
  have y0 := cell_at (j := 0) kA rfl
  have y1 := cell_at (j := 1) kA rfl
  have y2 := cell_at (j := 2) kA rfl
  have y3 := cell_at (j := 3) kA rfl
  have y4 := cell_at (j := 4) kA rfl
  have y5 := cell_at (j := 5) kA rfl
  have y6 := cell_at (j := 6) kA rfl
  have y7 := cell_at (j := 7) kA rfl
  have y8 := cell_at (j := 8) kA rfl
  have y9 := cell_at (j := 9) kA rfl
  have yf := froz_at kA
  have z0 := cell_at (j := 0) kZ rfl
  have z1 := cell_at (j := 1) kZ rfl
  have z2 := cell_at (j := 2) kZ rfl
  have z3 := cell_at (j := 3) kZ rfl
  have zf := froz_at kZ
  clear kT kA kZ
  unfold PT at HP ⊢
  go_enter Tryz.func6, Tryz.ntmps6
  go_upto_region 1 with fail
  rw [← hV]
  clear hV
  go_upto_block 0 with fail
  rw [show (wrap64 (a.kd.tmod 9 + 9)).tmod 9 = kq a from rfl, hk]
  clear hk
  go_upto_region 32 with (go_at_call 8; refine HP.out.mono ?_; rintro e w1 ⟨rfl, F1, q1, t1⟩; obtain ⟨kT, kA, kZ⟩ := HKc.out; replace kT := t1.keep kT (fun e => by have := HFl.out _ e; omega); replace kA := t1.keep kA (fun e => by have := HFl.out _ e; omega); replace kZ := t1.keep kZ (fun e => by have := HFl.out _ e; omega); clear HKc a0 a1 a2 a3 af y0 y1 y2 y3 y4 y5 y6 y7 y8 y9 yf z0 z1 z2 z3 zf; have HKc := hid (And.intro kT (And.intro kA kZ)); have a0 := cell_at (j := 0) kT rfl; have a1 := cell_at (j := 1) kT rfl; have a2 := cell_at (j := 2) kT rfl; have a3 := cell_at (j := 3) kT rfl; have af := froz_at kT; have y0 := cell_at (j := 0) kA rfl; have y1 := cell_at (j := 1) kA rfl; have y2 := cell_at (j := 2) kA rfl; have y3 := cell_at (j := 3) kA rfl; have y4 := cell_at (j := 4) kA rfl; have y5 := cell_at (j := 5) kA rfl; have y6 := cell_at (j := 6) kA rfl; have y7 := cell_at (j := 7) kA rfl; have y8 := cell_at (j := 8) kA rfl; have y9 := cell_at (j := 9) kA rfl; have yf := froz_at kA; have z0 := cell_at (j := 0) kZ rfl; have z1 := cell_at (j := 1) kZ rfl; have z2 := cell_at (j := 2) kZ rfl; have z3 := cell_at (j := 3) kZ rfl; have zf := froz_at kZ; clear kT kA kZ; have HBv := hid q1; clear q1 t1)
  clear HP
  have U0 : ∀ w', Touch [] w1 w' → w'.cell? ⟨w.heap.size, 0, none⟩ = some (.int .i64 fl) := fun w' X => cell_at (X.keep HKc.out.1 (by simp)) rfl
  have U1 : ∀ w', Touch [] w1 w' → w'.cell? ⟨w.heap.size, 1, none⟩ = some (.int .i64 bg) := fun w' X => cell_at (X.keep HKc.out.1 (by simp)) rfl
  have U2 : ∀ w', Touch [] w1 w' → w'.cell? ⟨w.heap.size, 2, none⟩ = some (.slice la n lc) := fun w' X => cell_at (X.keep HKc.out.1 (by simp)) rfl
  have U3 : ∀ w', Touch [] w1 w' → w'.cell? ⟨w.heap.size, 3, none⟩ = some (.slice ga gn gc) := fun w' X => cell_at (X.keep HKc.out.1 (by simp)) rfl
  have G2 : ∀ w', Touch [] w1 w' → w'.cell? ⟨w.heap.size + 1, 2, none⟩ = some (.int .i64 a.cl) := fun w' X => cell_at (X.keep HKc.out.2.1 (by simp)) rfl
  have G3 : ∀ w', Touch [] w1 w' → w'.cell? ⟨w.heap.size + 1, 3, none⟩ = some (.bool a.rf) := fun w' X => cell_at (X.keep HKc.out.2.1 (by simp)) rfl
  have G4 : ∀ w', Touch [] w1 w' → w'.cell? ⟨w.heap.size + 1, 4, none⟩ = some (.int .u16 a.k.1) := fun w' X => cell_at (X.keep HKc.out.2.1 (by simp)) rfl
  have G5 : ∀ w', Touch [] w1 w' → w'.cell? ⟨w.heap.size + 1, 5, none⟩ = some (.string a.k.2) := fun w' X => cell_at (X.keep HKc.out.2.1 (by simp)) rfl
  have k0 : Touch [] w1 w1.drew := (Touch.refl _ _).drew
  have zW : w.heap.size + 3 ≤ w1.heap.size := by have := block_lt HKc.out.2.2; omega
  have HVs : Hid (V.heap.size ≤ w1.heap.size) := hid (by have := HSz.out; omega)
  clear a0 a1 a2 a3 af y0 y1 y2 y3 y4 y5 y6 y7 y8 y9 yf z0 z1 z2 z3 zf
  refine wp_region_H (S := fun w' => Touch [] w1 w') (by kernel_rfl) ?_
  refine wpH_take (i := 0) (v := (.agg #[.int .i64 fl, .int .i64 bg, .slice la n lc, .slice ga gn gc])) (some 224) rfl rfl (by kernel_rfl) (by kernel_rfl) (by kernel_rfl) (fun _ _ _ h => h) (Or.inl ⟨by rfl, fun w' hS => (by have z0 := U0 _ hS; have z1 := U1 _ hS; have z2 := U2 _ hS; have z3 := U3 _ hS; go_simp)⟩) k0 ?_
  try simp only [Go.Act.put, List.setIfInBounds_toArray, List.set_cons_zero, List.set_cons_succ]
  refine wpH_take (i := 1) (v := (.pointer (some ⟨w.heap.size + 1, 4, none⟩))) (some 225) rfl rfl (by kernel_rfl) (by kernel_rfl) (by kernel_rfl) (fun _ _ _ h => h) (Or.inl ⟨by rfl, fun w' hS => (by go_simp)⟩) k0 ?_
  try simp only [Go.Act.put, List.setIfInBounds_toArray, List.set_cons_zero, List.set_cons_succ]
  refine wpH_take (i := 2) (v := (.agg #[.int .u16 a.k.1, .string a.k.2])) (some 226) rfl rfl (by kernel_rfl) (by kernel_rfl) (by kernel_rfl) (fun _ _ _ h => h) (Or.inl ⟨by rfl, fun w' hS => (by have z0 := G4 _ hS; have z1 := G5 _ hS; go_simp)⟩) k0 ?_
  try simp only [Go.Act.put, List.setIfInBounds_toArray, List.set_cons_zero, List.set_cons_succ]
  refine wpH_take (i := 4) (v := (.pointer (some ⟨w.heap.size + 1, 2, none⟩))) (some 228) rfl rfl (by kernel_rfl) (by kernel_rfl) (by kernel_rfl) (fun _ _ _ h => h) (Or.inl ⟨by rfl, fun w' hS => (by go_simp)⟩) k0 ?_
  try simp only [Go.Act.put, List.setIfInBounds_toArray, List.set_cons_zero, List.set_cons_succ]
  refine wpH_take (i := 5) (v := (.int .i64 a.cl)) (some 229) rfl rfl (by kernel_rfl) (by kernel_rfl) (by kernel_rfl) (fun _ _ _ h => h) (Or.inl ⟨by rfl, fun w' hS => (by have z0 := G2 _ hS; go_simp)⟩) k0 ?_
  try simp only [Go.Act.put, List.setIfInBounds_toArray, List.set_cons_zero, List.set_cons_succ]
  refine wpH_take (i := 6) (v := (.pointer (some ⟨w.heap.size + 1, 3, none⟩))) (some 230) rfl rfl (by kernel_rfl) (by kernel_rfl) (by kernel_rfl) (fun _ _ _ h => h) (Or.inl ⟨by rfl, fun w' hS => (by go_simp)⟩) k0 ?_
  try simp only [Go.Act.put, List.setIfInBounds_toArray, List.set_cons_zero, List.set_cons_succ]
  refine wpH_take (i := 7) (v := (.bool a.rf)) (some 231) rfl rfl (by kernel_rfl) (by kernel_rfl) (by kernel_rfl) (fun _ _ _ h => h) (Or.inl ⟨by rfl, fun w' hS => (by have z0 := G3 _ hS; go_simp)⟩) k0 ?_
  try simp only [Go.Act.put, List.setIfInBounds_toArray, List.set_cons_zero, List.set_cons_succ]
  refine wpH_ready (rs := [3, 13]) (by kernel_rfl) (by simp) ?_
  refine AllH.cons (o := { dst := some 227, op := Op.call { callee := Callee.value (Operand.func 18), args := #[Operand.tmp 226], argTypes := #[34] }, type := 68, pos := _, after := #[{ on := 2, ground := Ground.data }], guard := none }) rfl (fun K' hK => ?_) ?_
  · rw [if_pos (by rfl)]
    go_simp
    refine (HLk.out _).mono ?_
    rintro e' wk ⟨rfl, tk⟩
    have kK : Touch [] w1 wk := k0.trans' tk
    refine hK.out _ _ kK ?_
    clear hK
    try simp only [Go.Act.put, List.setIfInBounds_toArray, List.set_cons_zero, List.set_cons_succ]
    refine wpH_ready (rs := [8, 13]) (by kernel_rfl) (by simp) ?_
    refine AllH.cons (o := { dst := some 232, op := Op.call { callee := Callee.value (Operand.func 22), args := #[Operand.tmp 224, Operand.tmp 227, Operand.tmp 229, Operand.tmp 231], argTypes := #[31, 68, 3, 4] }, type := 66, pos := _, after := #[{ on := 0, ground := Ground.data }, { on := 3, ground := Ground.data }, { on := 5, ground := Ground.data }, { on := 7, ground := Ground.data }, { on := 3, ground := Ground.chain }], guard := none }) rfl (fun K' hK => ?_) ?_
    · rw [if_pos (by rfl)]
      go_simp
      refine (HD.out _ _ (HBv.out.then0 kK) (Nat.le_trans HVs.out kK.size)).mono ?_
      rintro e' w5 ⟨a5, n5, c5, ds5, rfl, ⟨b5v, hl5, fr5⟩, t5⟩
      have kO : Touch [] w1 w5 := kK.trans' t5
      refine hK.out _ _ kO ?_
      clear hK
      try simp only [Go.Act.put, List.setIfInBounds_toArray, List.set_cons_zero, List.set_cons_succ]
      refine wpH_take (i := 9) (v := (.tuple #[(.agg #[.int .i64 fl, .int .i64 bg2, .slice a5 n5 c5, .slice ga gn gc]), (.int .i64 gN), (.int .i64 gR)])) (some 223) rfl rfl (by kernel_rfl) (by kernel_rfl) (by kernel_rfl) (fun _ _ _ h => h) (Or.inl ⟨by rfl, fun w' hS => (by go_simp)⟩) kO ?_
      try simp only [Go.Act.put, List.setIfInBounds_toArray, List.set_cons_zero, List.set_cons_succ]
      refine wpH_take (i := 10) (v := (.agg #[.int .i64 fl, .int .i64 bg2, .slice a5 n5 c5, .slice ga gn gc])) (some 233) rfl rfl (by kernel_rfl) (by kernel_rfl) (by kernel_rfl) (fun _ _ _ h => h) (Or.inl ⟨by rfl, fun w' hS => (by go_simp)⟩) kO ?_
      try simp only [Go.Act.put, List.setIfInBounds_toArray, List.set_cons_zero, List.set_cons_succ]
      refine wpH_take (i := 11) (v := (.int .i64 gN)) (some 234) rfl rfl (by kernel_rfl) (by kernel_rfl) (by kernel_rfl) (fun _ _ _ h => h) (Or.inl ⟨by rfl, fun w' hS => (by go_simp)⟩) kO ?_
      try simp only [Go.Act.put, List.setIfInBounds_toArray, List.set_cons_zero, List.set_cons_succ]
      refine wpH_take (i := 12) (v := (.int .i64 gR)) (some 235) rfl rfl (by kernel_rfl) (by kernel_rfl) (by kernel_rfl) (fun _ _ _ h => h) (Or.inl ⟨by rfl, fun w' hS => (by go_simp)⟩) kO ?_
      try simp only [Go.Act.put, List.setIfInBounds_toArray, List.set_cons_zero, List.set_cons_succ]
      refine wpH_call (i := 13) (o := { dst := some 31, op := Op.alloc 31, type := 0, pos := _, after := #[], guard := none }) (by kernel_rfl) rfl (fun K' hK => ?_)
      rw [if_pos (by rfl)]
      go_simp
      have kA : Touch [] w1 (w5.alloc (.cells #[.int .i64 0, .int .i64 0, .slice none 0 0, .slice none 0 0] 31)) := kO.alloc _
      have kE : (w5.alloc (.cells #[.int .i64 0, .int .i64 0, .slice none 0 0, .slice none 0 0] 31)).heap[w5.heap.size]? = some (.cells #[.int .i64 0, .int .i64 0, .slice none 0 0, .slice none 0 0] 31 (0, 0)) := heap_alloc_new w5 _
      have zE : w1.heap.size ≤ w5.heap.size := kO.size
      refine hK.out _ _ kA ?_
      clear hK
      try simp only [Go.Act.put, List.setIfInBounds_toArray, List.set_cons_zero, List.set_cons_succ]
      refine wpH_call (i := 14) (o := { dst := none, op := Op.store 31 (Operand.tmp 31) (Operand.tmp 233), type := 0, pos := _, after := #[{ on := 13, ground := Ground.data }, { on := 10, ground := Ground.data }, { on := 8, ground := Ground.chain }, { on := 0, ground := Ground.phase }, { on := 1, ground := Ground.phase }, { on := 2, ground := Ground.phase }, { on := 3, ground := Ground.phase }, { on := 4, ground := Ground.phase }, { on := 5, ground := Ground.phase }, { on := 6, ground := Ground.phase }, { on := 7, ground := Ground.phase }, { on := 8, ground := Ground.phase }, { on := 9, ground := Ground.phase }, { on := 10, ground := Ground.phase }, { on := 11, ground := Ground.textOnly Departure.lateStores }, { on := 12, ground := Ground.textOnly Departure.lateStores }, { on := 13, ground := Ground.phase }], guard := none }) (by kernel_rfl) rfl (fun K' hK => ?_)
      rw [if_pos (by rfl)]
      have e0 := cell_at (j := 0) kE rfl
      have e1 := cell_at (j := 1) kE rfl
      have e2 := cell_at (j := 2) kE rfl
      have e3 := cell_at (j := 3) kE rfl
      have ef := froz_at kE
      go_simp
      have kS : Touch [] w1 (w5.alloc (.cells #[.int .i64 fl, .int .i64 bg2, .slice a5 n5 c5, .slice ga gn gc] 31)) := kO.alloc _
      have q8 : (w5.alloc (.cells #[.int .i64 fl, .int .i64 bg2, .slice a5 n5 c5, .slice ga gn gc] 31)).heap[w5.heap.size]? = some (.cells #[.int .i64 fl, .int .i64 bg2, .slice a5 n5 c5, .slice ga gn gc] 31 (0, 0)) := heap_alloc_new w5 _
      have HB5 := hid (b5v.then0 ((Touch.refl _ _).alloc (.cells #[.int .i64 fl, .int .i64 bg2, .slice a5 n5 c5, .slice ga gn gc] 31)))
      refine hK.out _ _ kS ?_
      clear hK
      try simp only [Go.Act.put, List.setIfInBounds_toArray, List.set_cons_zero, List.set_cons_succ]
      refine wpH_take (i := 15) (v := (.int .i64 gN)) (some 32) rfl rfl (by kernel_rfl) (by kernel_rfl) (by kernel_rfl) (fun _ _ _ h => h) (Or.inl ⟨by rfl, fun w' hS => (by go_simp)⟩) kS ?_
      try simp only [Go.Act.put, List.setIfInBounds_toArray, List.set_cons_zero, List.set_cons_succ]
      refine wpH_take (i := 16) (v := (.int .i64 gR)) (some 33) rfl rfl (by kernel_rfl) (by kernel_rfl) (by kernel_rfl) (fun _ _ _ h => h) (Or.inl ⟨by rfl, fun w' hS => (by go_simp)⟩) kS ?_
      try simp only [Go.Act.put, List.setIfInBounds_toArray, List.set_cons_zero, List.set_cons_succ]
      refine wpAnyH_done (by kernel_rfl) ?_ _
      clear e0 e1 e2 e3 ef k0 U0 U1 U2 U3 G2 G3 G4 G5
      have kz := kS.keep HKc.out.2.2 (by simp)
      have zb : ¬ w.heap.size + 1 + 1 = w5.heap.size := by omega
      generalize w5.heap.size = tb at *
      have u0 := cell_at (j := 0) q8 rfl
      have u1 := cell_at (j := 1) q8 rfl
      have u2 := cell_at (j := 2) q8 rfl
      have u3 := cell_at (j := 3) q8 rfl
      have uf := froz_at q8
      have z0 := cell_at (j := 0) kz rfl
      have z1 := cell_at (j := 1) kz rfl
      have z2 := cell_at (j := 2) kz rfl
      have z3 := cell_at (j := 3) kz rfl
      have zf := froz_at kz
      go_wp2
      obtain ⟨q4, tG⟩ := finZ kz (.int .i64 fl) (.int .i64 bg2) (.slice a5 n5 c5) (.slice ga gn gc)
      have q0 := cell_at (j := 0) q4 rfl
      have q1 := cell_at (j := 1) q4 rfl
      have q2 := cell_at (j := 2) q4 rfl
      have q3 := cell_at (j := 3) q4 rfl
      exact bodyPost_ret (v := .tuple #[.agg #[.int .i64 fl, .int .i64 bg2, .slice a5 n5 c5, .slice ga gn gc], .bool true]) (by simp [results, Tryz.results6, go_sem, q0, q1, q2, q3]) rfl (HE.out _ _ _ _ _ _ (HB5.out.box tG (by omega) (by have := HSz.out; omega)))
    refine AllH.cons (o := { dst := some 31, op := Op.alloc 31, type := 0, pos := _, after := #[], guard := none }) rfl (fun K' hK => ?_) ?_
    · rw [if_pos (by rfl)]
      go_simp
      have kA : Touch [] w1 (wk.alloc (.cells #[.int .i64 0, .int .i64 0, .slice none 0 0, .slice none 0 0] 31)) := kK.alloc _
      have kE : (wk.alloc (.cells #[.int .i64 0, .int .i64 0, .slice none 0 0, .slice none 0 0] 31)).heap[wk.heap.size]? = some (.cells #[.int .i64 0, .int .i64 0, .slice none 0 0, .slice none 0 0] 31 (0, 0)) := heap_alloc_new wk _
      have zE : w1.heap.size ≤ wk.heap.size := kK.size
      refine hK.out _ _ kA ?_
      clear hK
      try simp only [Go.Act.put, List.setIfInBounds_toArray, List.set_cons_zero, List.set_cons_succ]
      refine wpH_call (i := 8) (o := { dst := some 232, op := Op.call { callee := Callee.value (Operand.func 22), args := #[Operand.tmp 224, Operand.tmp 227, Operand.tmp 229, Operand.tmp 231], argTypes := #[31, 68, 3, 4] }, type := 66, pos := _, after := #[{ on := 0, ground := Ground.data }, { on := 3, ground := Ground.data }, { on := 5, ground := Ground.data }, { on := 7, ground := Ground.data }, { on := 3, ground := Ground.chain }], guard := none }) (by kernel_rfl) rfl (fun K' hK => ?_)
      rw [if_pos (by rfl)]
      go_simp
      refine (HD.out _ _ (HBv.out.then0 kA) (Nat.le_trans HVs.out kA.size)).mono ?_
      rintro e' w5 ⟨a5, n5, c5, ds5, rfl, ⟨b5v, hl5, fr5⟩, t5⟩
      have kO : Touch [] w1 w5 := kA.trans' t5
      have nb := fr5 _ (block_lt kE) (HBv.out.fresh zE).2
      replace kE := t5.keep kE (by simp)
      refine hK.out _ _ kO ?_
      clear hK
      try simp only [Go.Act.put, List.setIfInBounds_toArray, List.set_cons_zero, List.set_cons_succ]
      refine wpH_take (i := 9) (v := (.tuple #[(.agg #[.int .i64 fl, .int .i64 bg2, .slice a5 n5 c5, .slice ga gn gc]), (.int .i64 gN), (.int .i64 gR)])) (some 223) rfl rfl (by kernel_rfl) (by kernel_rfl) (by kernel_rfl) (fun _ _ _ h => h) (Or.inl ⟨by rfl, fun w' hS => (by go_simp)⟩) kO ?_
      try simp only [Go.Act.put, List.setIfInBounds_toArray, List.set_cons_zero, List.set_cons_succ]
      refine wpH_take (i := 10) (v := (.agg #[.int .i64 fl, .int .i64 bg2, .slice a5 n5 c5, .slice ga gn gc])) (some 233) rfl rfl (by kernel_rfl) (by kernel_rfl) (by kernel_rfl) (fun _ _ _ h => h) (Or.inl ⟨by rfl, fun w' hS => (by go_simp)⟩) kO ?_
      try simp only [Go.Act.put, List.setIfInBounds_toArray, List.set_cons_zero, List.set_cons_succ]
      refine wpH_take (i := 11) (v := (.int .i64 gN)) (some 234) rfl rfl (by kernel_rfl) (by kernel_rfl) (by kernel_rfl) (fun _ _ _ h => h) (Or.inl ⟨by rfl, fun w' hS => (by go_simp)⟩) kO ?_
      try simp only [Go.Act.put, List.setIfInBounds_toArray, List.set_cons_zero, List.set_cons_succ]
      refine wpH_take (i := 12) (v := (.int .i64 gR)) (some 235) rfl rfl (by kernel_rfl) (by kernel_rfl) (by kernel_rfl) (fun _ _ _ h => h) (Or.inl ⟨by rfl, fun w' hS => (by go_simp)⟩) kO ?_
      try simp only [Go.Act.put, List.setIfInBounds_toArray, List.set_cons_zero, List.set_cons_succ]
      refine wpH_call (i := 14) (o := { dst := none, op := Op.store 31 (Operand.tmp 31) (Operand.tmp 233), type := 0, pos := _, after := #[{ on := 13, ground := Ground.data }, { on := 10, ground := Ground.data }, { on := 8, ground := Ground.chain }, { on := 0, ground := Ground.phase }, { on := 1, ground := Ground.phase }, { on := 2, ground := Ground.phase }, { on := 3, ground := Ground.phase }, { on := 4, ground := Ground.phase }, { on := 5, ground := Ground.phase }, { on := 6, ground := Ground.phase }, { on := 7, ground := Ground.phase }, { on := 8, ground := Ground.phase }, { on := 9, ground := Ground.phase }, { on := 10, ground := Ground.phase }, { on := 11, ground := Ground.textOnly Departure.lateStores }, { on := 12, ground := Ground.textOnly Departure.lateStores }, { on := 13, ground := Ground.phase }], guard := none }) (by kernel_rfl) rfl (fun K' hK => ?_)
      rw [if_pos (by rfl)]
      have e0 := cell_at (j := 0) kE rfl
      have e1 := cell_at (j := 1) kE rfl
      have e2 := cell_at (j := 2) kE rfl
      have e3 := cell_at (j := 3) kE rfl
      have ef := froz_at kE
      go_simp
      obtain ⟨q8, tF⟩ := finZ kE (.int .i64 fl) (.int .i64 bg2) (.slice a5 n5 c5) (.slice ga gn gc)
      have kS := kO.trans tF (fun b hb => Or.inr (by simp at hb; omega))
      have HB5 := hid (b5v.far tF (by omega) (HBv.out.fresh zE).1 nb)
      refine hK.out _ _ kS ?_
      clear hK
      try simp only [Go.Act.put, List.setIfInBounds_toArray, List.set_cons_zero, List.set_cons_succ]
      refine wpH_take (i := 15) (v := (.int .i64 gN)) (some 32) rfl rfl (by kernel_rfl) (by kernel_rfl) (by kernel_rfl) (fun _ _ _ h => h) (Or.inl ⟨by rfl, fun w' hS => (by go_simp)⟩) kS ?_
      try simp only [Go.Act.put, List.setIfInBounds_toArray, List.set_cons_zero, List.set_cons_succ]
      refine wpH_take (i := 16) (v := (.int .i64 gR)) (some 33) rfl rfl (by kernel_rfl) (by kernel_rfl) (by kernel_rfl) (fun _ _ _ h => h) (Or.inl ⟨by rfl, fun w' hS => (by go_simp)⟩) kS ?_
      try simp only [Go.Act.put, List.setIfInBounds_toArray, List.set_cons_zero, List.set_cons_succ]
      refine wpAnyH_done (by kernel_rfl) ?_ _
      clear e0 e1 e2 e3 ef k0 U0 U1 U2 U3 G2 G3 G4 G5
      have kz := kS.keep HKc.out.2.2 (by simp)
      have zb : ¬ w.heap.size + 1 + 1 = wk.heap.size := by omega
      generalize wk.heap.size = tb at *
      have u0 := cell_at (j := 0) q8 rfl
      have u1 := cell_at (j := 1) q8 rfl
      have u2 := cell_at (j := 2) q8 rfl
      have u3 := cell_at (j := 3) q8 rfl
      have uf := froz_at q8
      have z0 := cell_at (j := 0) kz rfl
      have z1 := cell_at (j := 1) kz rfl
      have z2 := cell_at (j := 2) kz rfl
      have z3 := cell_at (j := 3) kz rfl
      have zf := froz_at kz
      go_wp2
      obtain ⟨q4, tG⟩ := finZ kz (.int .i64 fl) (.int .i64 bg2) (.slice a5 n5 c5) (.slice ga gn gc)
      have q0 := cell_at (j := 0) q4 rfl
      have q1 := cell_at (j := 1) q4 rfl
      have q2 := cell_at (j := 2) q4 rfl
      have q3 := cell_at (j := 3) q4 rfl
      exact bodyPost_ret (v := .tuple #[.agg #[.int .i64 fl, .int .i64 bg2, .slice a5 n5 c5, .slice ga gn gc], .bool true]) (by simp [results, Tryz.results6, go_sem, q0, q1, q2, q3]) rfl (HE.out _ _ _ _ _ _ (HB5.out.box tG (by omega) (by have := HSz.out; omega)))
    exact AllH.nil
  refine AllH.cons (o := { dst := some 31, op := Op.alloc 31, type := 0, pos := _, after := #[], guard := none }) rfl (fun K' hK => ?_) ?_
  · rw [if_pos (by rfl)]
    go_simp
    have kA : Touch [] w1 (w1.drew.alloc (.cells #[.int .i64 0, .int .i64 0, .slice none 0 0, .slice none 0 0] 31)) := k0.alloc _
    have kE : (w1.drew.alloc (.cells #[.int .i64 0, .int .i64 0, .slice none 0 0, .slice none 0 0] 31)).heap[w1.heap.size]? = some (.cells #[.int .i64 0, .int .i64 0, .slice none 0 0, .slice none 0 0] 31 (0, 0)) := heap_alloc_new w1.drew _
    have zE : w1.heap.size ≤ w1.heap.size := k0.size
    refine hK.out _ _ kA ?_
    clear hK
    try simp only [Go.Act.put, List.setIfInBounds_toArray, List.set_cons_zero, List.set_cons_succ]
    refine wpH_call (i := 3) (o := { dst := some 227, op := Op.call { callee := Callee.value (Operand.func 18), args := #[Operand.tmp 226], argTypes := #[34] }, type := 68, pos := _, after := #[{ on := 2, ground := Ground.data }], guard := none }) (by kernel_rfl) rfl (fun K' hK => ?_)
    rw [if_pos (by rfl)]
    go_simp
    refine (HLk.out _).mono ?_
    rintro e' wk ⟨rfl, tk⟩
    have kK : Touch [] w1 wk := kA.trans' tk
    replace kE := tk.keep kE (by simp)
    refine hK.out _ _ kK ?_
    clear hK
    try simp only [Go.Act.put, List.setIfInBounds_toArray, List.set_cons_zero, List.set_cons_succ]
    refine wpH_call (i := 8) (o := { dst := some 232, op := Op.call { callee := Callee.value (Operand.func 22), args := #[Operand.tmp 224, Operand.tmp 227, Operand.tmp 229, Operand.tmp 231], argTypes := #[31, 68, 3, 4] }, type := 66, pos := _, after := #[{ on := 0, ground := Ground.data }, { on := 3, ground := Ground.data }, { on := 5, ground := Ground.data }, { on := 7, ground := Ground.data }, { on := 3, ground := Ground.chain }], guard := none }) (by kernel_rfl) rfl (fun K' hK => ?_)
    rw [if_pos (by rfl)]
    go_simp
    refine (HD.out _ _ (HBv.out.then0 kK) (Nat.le_trans HVs.out kK.size)).mono ?_
    rintro e' w5 ⟨a5, n5, c5, ds5, rfl, ⟨b5v, hl5, fr5⟩, t5⟩
    have kO : Touch [] w1 w5 := kK.trans' t5
    have nb := fr5 _ (block_lt kE) (HBv.out.fresh zE).2
    replace kE := t5.keep kE (by simp)
    refine hK.out _ _ kO ?_
    clear hK
    try simp only [Go.Act.put, List.setIfInBounds_toArray, List.set_cons_zero, List.set_cons_succ]
    refine wpH_take (i := 9) (v := (.tuple #[(.agg #[.int .i64 fl, .int .i64 bg2, .slice a5 n5 c5, .slice ga gn gc]), (.int .i64 gN), (.int .i64 gR)])) (some 223) rfl rfl (by kernel_rfl) (by kernel_rfl) (by kernel_rfl) (fun _ _ _ h => h) (Or.inl ⟨by rfl, fun w' hS => (by go_simp)⟩) kO ?_
    try simp only [Go.Act.put, List.setIfInBounds_toArray, List.set_cons_zero, List.set_cons_succ]
    refine wpH_take (i := 10) (v := (.agg #[.int .i64 fl, .int .i64 bg2, .slice a5 n5 c5, .slice ga gn gc])) (some 233) rfl rfl (by kernel_rfl) (by kernel_rfl) (by kernel_rfl) (fun _ _ _ h => h) (Or.inl ⟨by rfl, fun w' hS => (by go_simp)⟩) kO ?_
    try simp only [Go.Act.put, List.setIfInBounds_toArray, List.set_cons_zero, List.set_cons_succ]
    refine wpH_take (i := 11) (v := (.int .i64 gN)) (some 234) rfl rfl (by kernel_rfl) (by kernel_rfl) (by kernel_rfl) (fun _ _ _ h => h) (Or.inl ⟨by rfl, fun w' hS => (by go_simp)⟩) kO ?_
    try simp only [Go.Act.put, List.setIfInBounds_toArray, List.set_cons_zero, List.set_cons_succ]
    refine wpH_take (i := 12) (v := (.int .i64 gR)) (some 235) rfl rfl (by kernel_rfl) (by kernel_rfl) (by kernel_rfl) (fun _ _ _ h => h) (Or.inl ⟨by rfl, fun w' hS => (by go_simp)⟩) kO ?_
    try simp only [Go.Act.put, List.setIfInBounds_toArray, List.set_cons_zero, List.set_cons_succ]
    refine wpH_call (i := 14) (o := { dst := none, op := Op.store 31 (Operand.tmp 31) (Operand.tmp 233), type := 0, pos := _, after := #[{ on := 13, ground := Ground.data }, { on := 10, ground := Ground.data }, { on := 8, ground := Ground.chain }, { on := 0, ground := Ground.phase }, { on := 1, ground := Ground.phase }, { on := 2, ground := Ground.phase }, { on := 3, ground := Ground.phase }, { on := 4, ground := Ground.phase }, { on := 5, ground := Ground.phase }, { on := 6, ground := Ground.phase }, { on := 7, ground := Ground.phase }, { on := 8, ground := Ground.phase }, { on := 9, ground := Ground.phase }, { on := 10, ground := Ground.phase }, { on := 11, ground := Ground.textOnly Departure.lateStores }, { on := 12, ground := Ground.textOnly Departure.lateStores }, { on := 13, ground := Ground.phase }], guard := none }) (by kernel_rfl) rfl (fun K' hK => ?_)
    rw [if_pos (by rfl)]
    have e0 := cell_at (j := 0) kE rfl
    have e1 := cell_at (j := 1) kE rfl
    have e2 := cell_at (j := 2) kE rfl
    have e3 := cell_at (j := 3) kE rfl
    have ef := froz_at kE
    go_simp
    obtain ⟨q8, tF⟩ := finZ kE (.int .i64 fl) (.int .i64 bg2) (.slice a5 n5 c5) (.slice ga gn gc)
    have kS := kO.trans tF (fun b hb => Or.inr (by simp at hb; omega))
    have HB5 := hid (b5v.far tF (by omega) (HBv.out.fresh zE).1 nb)
    refine hK.out _ _ kS ?_
    clear hK
    try simp only [Go.Act.put, List.setIfInBounds_toArray, List.set_cons_zero, List.set_cons_succ]
    refine wpH_take (i := 15) (v := (.int .i64 gN)) (some 32) rfl rfl (by kernel_rfl) (by kernel_rfl) (by kernel_rfl) (fun _ _ _ h => h) (Or.inl ⟨by rfl, fun w' hS => (by go_simp)⟩) kS ?_
    try simp only [Go.Act.put, List.setIfInBounds_toArray, List.set_cons_zero, List.set_cons_succ]
    refine wpH_take (i := 16) (v := (.int .i64 gR)) (some 33) rfl rfl (by kernel_rfl) (by kernel_rfl) (by kernel_rfl) (fun _ _ _ h => h) (Or.inl ⟨by rfl, fun w' hS => (by go_simp)⟩) kS ?_
    try simp only [Go.Act.put, List.setIfInBounds_toArray, List.set_cons_zero, List.set_cons_succ]
    refine wpAnyH_done (by kernel_rfl) ?_ _
    clear e0 e1 e2 e3 ef k0 U0 U1 U2 U3 G2 G3 G4 G5
    have kz := kS.keep HKc.out.2.2 (by simp)
    have zb : ¬ w.heap.size + 1 + 1 = w1.heap.size := by omega
    generalize w1.heap.size = tb at *
    have u0 := cell_at (j := 0) q8 rfl
    have u1 := cell_at (j := 1) q8 rfl
    have u2 := cell_at (j := 2) q8 rfl
    have u3 := cell_at (j := 3) q8 rfl
    have uf := froz_at q8
    have z0 := cell_at (j := 0) kz rfl
    have z1 := cell_at (j := 1) kz rfl
    have z2 := cell_at (j := 2) kz rfl
    have z3 := cell_at (j := 3) kz rfl
    have zf := froz_at kz
    go_wp2
    obtain ⟨q4, tG⟩ := finZ kz (.int .i64 fl) (.int .i64 bg2) (.slice a5 n5 c5) (.slice ga gn gc)
    have q0 := cell_at (j := 0) q4 rfl
    have q1 := cell_at (j := 1) q4 rfl
    have q2 := cell_at (j := 2) q4 rfl
    have q3 := cell_at (j := 3) q4 rfl
    exact bodyPost_ret (v := .tuple #[.agg #[.int .i64 fl, .int .i64 bg2, .slice a5 n5 c5, .slice ga gn gc], .bool true]) (by simp [results, Tryz.results6, go_sem, q0, q1, q2, q3]) rfl (HE.out _ _ _ _ _ _ (HB5.out.box tG (by omega) (by have := HSz.out; omega)))
  exact AllH.nil
end Go.Proofs.YtpihhlllembdeaaGreat
