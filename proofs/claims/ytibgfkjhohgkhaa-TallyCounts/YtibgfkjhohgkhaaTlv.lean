/- TallyCounts, walked; no conditions but those that each states. -/
import Derived.Test.YtibgfkjhohgkhaaTlt
import Derived.Test.YtibgfkjhohgkhaaTlu
import Derived.Test.YtibgfkjhohgkhaaTlr
import Derived.BigQuiet
import Derived.Deep.QuietTactic
namespace Go.Proofs.Ytibgfkjhohgkhaa.Ty
open Go.RowKit Go.Maps Go.ChangeMaps
open Tr
set_option linter.unusedVariables false
set_option linter.unusedSimpArgs false
theorem wpList_alloc28 {w : World} {ops : Array Oper} {rest : List Oper} {o : Oper} {a : Act} {Q : Exit → Act → World → Prop} (hg : o.guard = none) (hop : o.op = Op.alloc 28) (g : Nat) (hs : w.heap.size = g)
    (hK : wpList Try.prog ops Q rest (a.put o.dst (.pointer (some ⟨g, 0, none⟩))) (w.alloc (.cells (ic 27 z0) 28))) : wpList Try.prog ops Q (o :: rest) a w := by
  subst hs
  refine wpList_plain hg fun K' hK' => ?_
  have h : ∀ ev : Operand → Value, (execOp ev o).run Try.prog w = .ok (.value (.pointer (some ⟨w.heap.size, 0, none⟩))) (w.alloc (.cells (ic 27 z0) 28)) := fun ev => by
    rw [ic_z0]
    simp [execOp, hop, go_sem]
  unfold Oper.wp
  rw [h a.eval]
  exact hK' _ _ hK
theorem wpList_alloc30' {w : World} {ops : Array Oper} {rest : List Oper} {o : Oper} {a : Act} {Q : Exit → Act → World → Prop} (hg : o.guard = none) (hop : o.op = Op.alloc 30) (g : Nat) (hs : w.heap.size = g)
    (hK : wpList Try.prog ops Q rest (a.put o.dst (.pointer (some ⟨g, 0, none⟩))) (w.alloc (.cells (ic 27 z0) 30))) : wpList Try.prog ops Q (o :: rest) a w := by
  subst hs
  exact wpList_alloc30 hg hop hK
theorem wpList_gv {w : World} {ops : Array Oper} {rest : List Oper} {o : Oper} {a : Act} {Q : Exit → Act → World → Prop} (hw : Region.wanted o (yielded ops a.tmps) = true) (v : Value) (hrun : (execOp a.eval o).run Try.prog w = .ok (.value v) w)
    (hK : wpList Try.prog ops Q rest (a.put o.dst v) w) : wpList Try.prog ops Q (o :: rest) a w := by
  unfold wpList
  rw [if_pos hw]
  refine Or.inl ?_
  unfold Oper.wp
  rw [hrun]
  exact hK
theorem exec_ne30 (w : World) (f : Nat → Int) {o : Oper} {a : Act} (x y : Operand) (t : TypeId) (hop : o.op = Op.binOp .neq 30 x y t) (hx : a.eval x = .agg (ic 27 f)) (hy : a.eval y = .agg (ic 27 f)) : (execOp a.eval o).run Try.prog w = .ok (.value (.bool false)) w := by
  have h1 := ne30 w f
  have h2 := run_eqGuard_agg (P := Try.prog) (w := w) .neq 30 x y (ic 27 f) (ic 27 f) (by kernel_rfl)
  simp only [execOp, hop, hx, hy, h1, h2, Sem.run_bind, Sem.run_pure, Result.andThen_ok]
theorem two_new (w : World) (t : TypeId) : Row ((w.alloc (.cells (ic 27 z0) t)).alloc (.cells (ic 27 z0) t)) w.heap.size 27 z0 t ∧ Row ((w.alloc (.cells (ic 27 z0) t)).alloc (.cells (ic 27 z0) t)) (w.heap.size + 1) 27 z0 t ∧ Touch [] w ((w.alloc (.cells (ic 27 z0) t)).alloc (.cells (ic 27 z0) t)) := by
  refine ⟨(show Row _ w.heap.size 27 z0 t from heap_alloc_new w _).keep ((Touch.refl [] _).alloc _) (by simp), ?_, ((Touch.refl [] w).alloc _).alloc _⟩
  have := heap_alloc_new (w.alloc (.cells (ic 27 z0) t)) (.cells (ic 27 z0) t)
  rw [show (w.alloc (.cells (ic 27 z0) t)).heap.size = w.heap.size + 1 by simp] at this
  exact this
/-- Two tallies laid side by side. -/
structure Two (w wr : World) (b : Nat) (f g : Nat → Int) (t : TypeId) : Prop where
  lo : w.heap.size ≤ b
  r1 : Row wr b 27 f t
  r2 : Row wr (b + 1) 27 g t
theorem Two.keep {w wr w' : World} {b : Nat} {f g : Nat → Int} {t : TypeId} (h : Two w wr b f g t) (T : Touch [] wr w') : Two w w' b f g t := ⟨h.lo, h.r1.keep T (by simp), h.r2.keep T (by simp)⟩
set_option maxHeartbeats 8000000 in
set_option maxRecDepth 20000 in
theorem counts_law (w : World) (v u : Value) {L0 M0 : List Ez} (h : Ev w v L0) (h' : Ev w u M0) (ok0 : ∀ e ∈ L0, e.ok) (ok0' : ∀ e ∈ M0, e.ok) :
    Calls Try.prog 3 #[v, u] w fun r w' => r = .returned (.bool true) ∧ Touch [] w w' := by
  obtain ⟨v1, h1, hc1⟩ := few_ h
  obtain ⟨v2, h2, hc2⟩ := few_ h'
  have HF1 := hid hc1
  have HF2 := hid hc2
  have ok1 : ∀ e ∈ L0.take 2000, e.ok := fun e he => ok0 e (List.mem_of_mem_take he)
  have ok2 : ∀ e ∈ M0.take 2000, e.ok := fun e he => ok0' e (List.mem_of_mem_take he)
  have hl1 : (L0.take 2000).length ≤ 2000 := by rw [List.length_take]; omega
  have hl2 : (M0.take 2000).length ≤ 2000 := by rw [List.length_take]; omega
  clear h h' ok0 ok0' hc1 hc2
  generalize L0.take 2000 = L at *
  generalize M0.take 2000 = M at *
  have HO1 := hid (fun (x : World) (t : Touch [] w x) => of_ (h1.keep t) hl1 ok1)
  have HO2 := hid (fun (x : World) (t : Touch [] w x) => of_ (h2.keep t) hl2 ok2)
  have HG1 := hid (fun (x : World) (t : Touch [] w x) => given_ (h1.keep t) hl1)
  have HG2 := hid (fun (x : World) (t : Touch [] w x) => given_ (h2.keep t) hl2)
  have HR1 := hid (fun (x : World) (v' : Value) (s : Ev x v' L) => rof_ s hl1)
  have HR2 := hid (fun (x : World) (v' : Value) (s : Ev x v' M) => rof_ s hl2)
  have HB1 := hid (show ∀ j, 0 ≤ ofL L j ∧ ofL L j ≤ 2000 from fun j => by
    have := (Oi.all L).lo j; have := (Oi.all L).hi j; have := (Oi.all L).kl
    unfold ofL fset; split <;> omega)
  have HB2 := hid (show ∀ j, 0 ≤ ofL M j ∧ ofL M j ≤ 2000 from fun j => by
    have := (Oi.all M).lo j; have := (Oi.all M).hi j; have := (Oi.all M).kl
    unfold ofL fset; split <;> omega)
  generalize ofL L = f at *
  generalize ofL M = g at *
  clear h1 h2 ok1 ok2
  go_enter Try.func3, Try.ntmps3
  go_upto_region 2 with (first | (go_at_call 7; refine HF1.out.mono ?_; rintro r w' ⟨rfl, hw'⟩; subst w'; clear HF1) | (go_at_call 7; refine HF2.out.mono ?_; rintro r w' ⟨rfl, hw'⟩; subst w'; clear HF2))
  go_upto_region 3 with (first | (go_at_call 8; refine (HO1.out _ (Touch.refl [] _)).mono ?_; rintro r w1 ⟨rfl, t1⟩; have T1 := hid t1; clear t1 HO1) | (go_at_call 8; refine (HO2.out _ T1.out).mono ?_; rintro r w2 ⟨rfl, t2⟩; have T2 := hid (T1.out.trans' t2); clear t2 HO2) | (refine wpList_alloc28 rfl rfl w2.heap.size rfl ?_; refine wpList_alloc28 rfl rfl (w2.heap.size + 1) (by simp) ?_) | (refine wpList_storeT big28 rfl _ _ rfl w2.heap.size (ic 27 z0) (ic 27 f) 28 rfl rfl (two_new w2 _).1 (ic_size _ _) (ic_size _ _) ic_one ?_; intro w3 h3 t3 s3; have P3 := hid (show Row w3 w2.heap.size 27 f 28 from h3); have Q3 := hid ((two_new w2 _).2.1.keep t3 (by simp)); have T3 := hid (tl2 w2 (two_new w2 _).2.2 t3); clear h3 t3 s3) | (refine wpList_storeT big28 rfl _ _ rfl (w2.heap.size + 1) (ic 27 z0) (ic 27 g) 28 rfl rfl Q3.out (ic_size _ _) (ic_size _ _) ic_one ?_; intro w4 h4 t4 s4; have HP := hid (show Two w w4 w2.heap.size f g 28 from ⟨T2.out.size, P3.out.keep t4 (by simp), h4⟩); have T4 := hid (T2.out.trans' (T3.out.trans t4 (fun i hi => Or.inr (by simp at hi; omega)))); clear h4 t4 s4 P3 Q3 T3))
  clear T1 T2
  generalize w2.heap.size = b at *
  go_upto_region 4 with (first | (go_at_call 10; refine (HG1.out _ T4.out).mono ?_; rintro r w5 ⟨va, rfl, e5, t5⟩; have E5 := hid e5; have T5 := hid (T4.out.trans' t5); have X5 := hid t5; clear e5 t5 HG1) | (go_at_call 9; refine (HR1.out _ _ E5.out).mono ?_; rintro r w6 ⟨rfl, t6⟩; have T6 := hid (T5.out.trans' t6); have X6 := hid (X5.out.trans' t6); clear t6 HR1 E5) | (go_at_call 10; refine (HG2.out _ T6.out).mono ?_; rintro r w7 ⟨vb, rfl, e7, t7⟩; have E7 := hid e7; have T7 := hid (T6.out.trans' t7); have X7 := hid (X6.out.trans' t7); clear e7 t7 HG2) | (go_at_call 9; refine (HR2.out _ _ E7.out).mono ?_; rintro r w8 ⟨rfl, t8⟩; have T8 := hid (T7.out.trans' t8); have X8 := hid (X7.out.trans' t8); clear t8 HR2 E7) | (refine wpList_alloc30' rfl rfl w8.heap.size rfl ?_; refine wpList_alloc30' rfl rfl (w8.heap.size + 1) (by simp) ?_) | (refine wpList_storeT big30 rfl _ _ rfl w8.heap.size (ic 27 z0) (ic 27 f) 30 rfl rfl (two_new w8 _).1 (ic_size _ _) (ic_size _ _) ic_one ?_; intro w9 h9 t9 s9; have P9 := hid (show Row w9 w8.heap.size 27 f 30 from h9); have Q9 := hid ((two_new w8 _).2.1.keep t9 (by simp)); have T9 := hid (tl2 w8 (two_new w8 _).2.2 t9); clear h9 t9 s9) | (refine wpList_storeT big30 rfl _ _ rfl (w8.heap.size + 1) (ic 27 z0) (ic 27 g) 30 rfl rfl Q9.out (ic_size _ _) (ic_size _ _) ic_one ?_; intro wa ha ta sa; have HQ := hid (show Two w wa w8.heap.size f g 30 from ⟨T8.out.size, P9.out.keep ta (by simp), ha⟩); have XA := hid (X8.out.trans' (T9.out.trans ta (fun i hi => Or.inr (by simp at hi; omega)))); clear ha ta sa P9 Q9 T9))
  have HP2 := hid (HP.out.keep XA.out)
  have TA := hid (T4.out.trans' XA.out)
  clear T5 T6 T7 T8 X5 X6 X7 X8 XA HP T4
  generalize w8.heap.size = c at *
  have HA := hid awake_
  go_upto_region 6 with (first | (go_at_call 11; refine (HA.out _).mono ?_; rintro r wb ⟨rfl, tb⟩; have HP3 := hid (HP2.out.keep tb); have HQ3 := hid (HQ.out.keep tb); have TB := hid (TA.out.trans' tb); clear tb HP2 HQ TA HA) | (refine wpList_gv rfl (.agg (ic 27 f)) (exec_loadT big28 _ rfl rfl HP3.out.r1 (ic_size _ _)) ?_) | (refine wpList_gv rfl (.agg (ic 27 f)) (exec_loadT big30 _ rfl rfl HQ3.out.r1 (ic_size _ _)) ?_) | (refine wpList_gv rfl (.agg (ic 27 g)) (exec_loadT big28 _ rfl rfl HP3.out.r2 (ic_size _ _)) ?_) | (refine wpList_gv rfl (.agg (ic 27 g)) (exec_loadT big30 _ rfl rfl HQ3.out.r2 (ic_size _ _)) ?_) | (refine wpList_gv rfl (.bool false) (exec_ne30 _ f _ _ _ rfl rfl rfl) ?_) | (refine wpList_gv rfl (.bool false) (exec_ne30 _ g _ _ _ rfl rfl rfl) ?_))
  have HM := hid (fun x => merge_ x (f := f) (g := g) (fun j _ => by have := HB1.out j; omega) (fun j _ => by have := HB2.out j; omega))
  go_upto_region 7 with (first | (refine wpList_gv rfl (.agg (ic 27 f)) (exec_loadT big28 _ rfl rfl HP3.out.r1 (ic_size _ _)) ?_) | (refine wpList_gv rfl (.agg (ic 27 g)) (exec_loadT big28 _ rfl rfl HP3.out.r2 (ic_size _ _)) ?_) | (go_at_call 12; refine (HM.out _).mono ?_; rintro r wc ⟨rfl, tc⟩; have HQ4 := hid (HQ3.out.keep tc); have TC := hid (TB.out.trans' tc); clear tc HP3 HQ3 TB HM) | (refine wpList_alloc28 rfl rfl wc.heap.size rfl ?_) | (refine wpList_storeT big28 rfl _ _ rfl wc.heap.size (ic 27 z0) (ic 27 (mg f g)) 28 rfl rfl (heap_alloc_new wc _) (ic_size _ _) (ic_size _ _) ic_one ?_; intro wd hd td sd; have HD := hid (show Row wd wc.heap.size 27 (mg f g) 28 from hd); have HC1 := hid ((HQ4.out.r1.keep ((Touch.refl [] _).alloc _) (by simp)).keep td (by simp; have := HQ4.out.r1.lt; omega)); have HC2 := hid ((HQ4.out.r2.keep ((Touch.refl [] _).alloc _) (by simp)).keep td (by simp; have := HQ4.out.r2.lt; omega)); have TD := hid (TC.out.trans' (tl2 wc ((Touch.refl [] _).alloc _) td)); clear hd td sd HQ4 TC))
  generalize wc.heap.size = d at *
  have HEQ := hid (fun j (hj : j < 25) => show mg f g j = f j + g j from if_pos hj)
  have HMX := hid (fun j (hj : 25 ≤ j) => show mg f g j = (if f j < g j then g j else f j) from by unfold mg; rw [if_neg (by omega), Int.max_def]; split <;> split <;> omega)
  generalize mg f g = m at *
  go_wp2_with fail
  go_loopw [42] (fun i wr => ∃ j : Nat, i = .int .i64 j ∧ j ≤ 12 ∧ Hid (Touch [] wd wr)) (fun i _ => 12 - (intOf i).toNat)
  case atStart => exact ⟨0, rfl, Nat.zero_le _, hid (Touch.refl [] _)⟩
  case round =>
    obtain ⟨j, rfl, hj, HJ⟩ := hrel
    by_cases hlt : j < 12
    · have c1 := (HD.out.keep HJ.out (by simp)).cell (i := j) (by omega)
      have c2 := (HC1.out.keep HJ.out (by simp)).cell (i := j) (by omega)
      have c3 := (HC2.out.keep HJ.out (by simp)).cell (i := j) (by omega)
      rw [HEQ.out (j) (by omega)] at c1
      obtain ⟨x0, x1⟩ := HB1.out (j)
      obtain ⟨y0, y1⟩ := HB2.out (j)
      clear HB1 HB2 HEQ HMX HD HC1 HC2
      generalize f (j) = x at *
      generalize g (j) = y at *
      go_upto_region 10 with fail
      go_quiet (fail)
      go_wp2_with fail
      go_roundw
      case rel => exact ⟨j + 1, by go_num, by omega, hid (HJ.out.drewN _)⟩
      case measure => first | (simp [intOf]; done) | (simp [intOf]; omega)
    · obtain rfl : j = 12 := by omega
      go_wp2_with fail
      go_loopw [60] (fun i wr => ∃ j : Nat, i = .int .i64 j ∧ j ≤ 7 ∧ Hid (Touch [] wd wr)) (fun i _ => 7 - (intOf i).toNat)
      case atStart => exact ⟨0, rfl, Nat.zero_le _, HJ⟩
      case round =>
        obtain ⟨j, rfl, hj, HJ⟩ := hrel
        by_cases hlt : j < 7
        · have c1 := (HD.out.keep HJ.out (by simp)).cell (i := 12 + j) (by omega)
          have c2 := (HC1.out.keep HJ.out (by simp)).cell (i := 12 + j) (by omega)
          have c3 := (HC2.out.keep HJ.out (by simp)).cell (i := 12 + j) (by omega)
          rw [HEQ.out (12 + j) (by omega)] at c1
          obtain ⟨x0, x1⟩ := HB1.out (12 + j)
          obtain ⟨y0, y1⟩ := HB2.out (12 + j)
          clear HB1 HB2 HEQ HMX HD HC1 HC2
          generalize f (12 + j) = x at *
          generalize g (12 + j) = y at *
          go_upto_region 16 with fail
          go_quiet (fail)
          go_wp2_with fail
          go_roundw
          case rel => exact ⟨j + 1, by go_num, by omega, hid (HJ.out.drewN _)⟩
          case measure => first | (simp [intOf]; done) | (simp [intOf]; omega)
        · obtain rfl : j = 7 := by omega
          go_wp2_with fail
          go_loopw [78] (fun i wr => ∃ j : Nat, i = .int .i64 j ∧ j ≤ 6 ∧ Hid (Touch [] wd wr)) (fun i _ => 6 - (intOf i).toNat)
          case atStart => exact ⟨0, rfl, Nat.zero_le _, HJ⟩
          case round =>
            obtain ⟨j, rfl, hj, HJ⟩ := hrel
            by_cases hlt : j < 6
            · have c1 := (HD.out.keep HJ.out (by simp)).cell (i := 19 + j) (by omega)
              have c2 := (HC1.out.keep HJ.out (by simp)).cell (i := 19 + j) (by omega)
              have c3 := (HC2.out.keep HJ.out (by simp)).cell (i := 19 + j) (by omega)
              rw [HEQ.out (19 + j) (by omega)] at c1
              obtain ⟨x0, x1⟩ := HB1.out (19 + j)
              obtain ⟨y0, y1⟩ := HB2.out (19 + j)
              clear HB1 HB2 HEQ HMX HD HC1 HC2
              generalize f (19 + j) = x at *
              generalize g (19 + j) = y at *
              go_upto_region 22 with fail
              go_quiet (fail)
              go_wp2_with fail
              go_roundw
              case rel => exact ⟨j + 1, by go_num, by omega, hid (HJ.out.drewN _)⟩
              case measure => first | (simp [intOf]; done) | (simp [intOf]; omega)
            · obtain rfl : j = 6 := by omega
              have a1 := (HD.out.keep HJ.out (by simp)).cell (i := 25) (by omega)
              have a2 := (HD.out.keep HJ.out (by simp)).cell (i := 26) (by omega)
              have p1 := (HC1.out.keep HJ.out (by simp)).cell (i := 25) (by omega)
              have p2 := (HC1.out.keep HJ.out (by simp)).cell (i := 26) (by omega)
              have q1 := (HC2.out.keep HJ.out (by simp)).cell (i := 25) (by omega)
              have q2 := (HC2.out.keep HJ.out (by simp)).cell (i := 26) (by omega)
              rw [HMX.out 25 (by omega)] at a1
              rw [HMX.out 26 (by omega)] at a2
              have TE := hid (TD.out.trans' HJ.out)
              clear HB1 HB2 HEQ HMX HD HC1 HC2 HJ TD
              generalize f 25 = fx at *
              generalize f 26 = fy at *
              generalize g 25 = gx at *
              generalize g 26 = gy at *
              go_wp2_with fail
              all_goals (go_ret; exact ⟨by first | rfl | (simp; done), TE.out⟩)
theorem counts_goes (W : World) (xs : List EvA) (v : Value) (ys : List EvA) (u : Value) (h : SlEvA W v xs) (ok : ∀ x ∈ xs, x.ok) (hc : ∀ a n c, v = .slice a n c → n ≤ c) (h' : SlEvA W u ys) (ok' : ∀ x ∈ ys, x.ok) (hc' : ∀ a n c, u = .slice a n c → n ≤ c) :
    Calls Try.prog 3 #[v, u] W fun r w' => r = .returned (.bool true) ∧ Touch [] W w' := counts_law W v u (Ev.of_arg h hc) (Ev.of_arg h' hc') (z_oks ok) (z_oks ok')
end Go.Proofs.Ytibgfkjhohgkhaa.Ty
