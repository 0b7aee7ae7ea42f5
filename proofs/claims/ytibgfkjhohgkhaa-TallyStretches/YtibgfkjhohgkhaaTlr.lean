/- TallyTimes, walked; no conditions but those that each states. -/
import Derived.Test.YtibgfkjhohgkhaaTlq
import Derived.BigQuiet
import Derived.Deep.QuietTactic
namespace Go.Proofs.Ytibgfkjhohgkhaa.Ty
open Go.RowKit Go.Maps Go.ChangeMaps
open Tr
set_option linter.unusedVariables false
set_option linter.unusedSimpArgs false
set_option maxRecDepth 20000 in
theorem okWide_cap {W : World} {b0 : Nat} {t e : TypeId} {v : Value} (hu : Try.prog.underlying t = some (.slice e)) (hv : Value.okWide Try.prog W .any b0 t v) : ∀ a n c, v = .slice a n c → n ≤ c := by
  rintro a n c rfl
  simp only [Value.okWide, hu, Cell.okWide] at hv
  unfold Cell.ok at hv
  rw [hu] at hv
  cases a with
  | some a => exact hv.1
  | none =>
    cases n with
    | zero => exact Nat.zero_le _
    | succ n => simp at hv
theorem exec_eq64 (w : World) (f : Nat → Int) {o : Oper} {a : Act} (x y : Operand) (t : TypeId) (hop : o.op = Op.binOp .eql 37 x y t) (hx : a.eval x = .agg (ic 64 f)) (hy : a.eval y = .agg (ic 64 f)) : (execOp a.eval o).run Try.prog w = .ok (.value (.bool true)) w := by
  have h1 := eq64 w f
  have h2 := run_eqGuard_agg (P := Try.prog) (w := w) .eql 37 x y (ic 64 f) (ic 64 f) (by kernel_rfl)
  simp only [execOp, hop, hx, hy, h1, h2, Sem.run_bind, Sem.run_pure, Result.andThen_ok]
set_option maxHeartbeats 4000000 in
set_option maxRecDepth 20000 in
theorem times_law (w : World) (v : Value) {L0 : List Ez} (h : Ev w v L0) (ok0 : ∀ e ∈ L0, e.ok) :
    Calls Try.prog 4 #[v] w fun r w' => r = .returned (.bool true) ∧ Touch [] w w' := by
  obtain ⟨v1, h1, hc⟩ := few_ h
  have HF := hid hc
  have ok : ∀ e ∈ L0.take 2000, e.ok := fun e he => ok0 e (List.mem_of_mem_take he)
  have hl : (L0.take 2000).length ≤ 2000 := by rw [List.length_take]; omega
  clear h ok0 hc
  generalize L0.take 2000 = L at *
  have H := hid h1
  have OK := hid ok
  have HL := hid hl
  have HA := hid (show ∀ i, 0 ≤ (tL true L).f i ∧ (tL true L).f i ≤ 1000000000000 from fun i => by have := tL_b true L i; omega)
  have HB := hid (show ∀ i, 0 ≤ (tL false L).f i ∧ (tL false L).f i ≤ 1000000000000 from fun i => by have := tL_b false L i; omega)
  have HW := hid (fun (u : World) (t : Touch [] w u) => waits_ (h1.keep t) hl ok)
  have HG := hid (fun (u : World) (t : Touch [] w u) => lengths_ (h1.keep t) hl ok)
  have HRW := hid (fun (u : World) (v' : Value) (s : Ev u v' L) => rwaits_ s hl)
  have HRL := hid (fun (u : World) (v' : Value) (s : Ev u v' L) => rlengths_ s hl)
  have HGV := hid (fun (u : World) (t : Touch [] w u) => given_ (h1.keep t) hl)
  clear h1 ok
  go_enter Try.func4, Try.ntmps4
  go_upto_region 2 with (go_at_call 7; refine HF.out.mono ?_; rintro r w' ⟨rfl, hw'⟩; subst w')
  go_upto_region 3 with (first | (go_at_call 13; refine (HW.out _ (Touch.refl [] _)).mono ?_; rintro r w1 ⟨rfl, t1⟩; have T1 := hid t1; clear t1) | (go_at_call 14; refine (HG.out _ T1.out).mono ?_; rintro r w2 ⟨rfl, t2⟩; have T2 := hid (T1.out.trans' t2); clear t2) | (refine wpList_storeT big64 rfl _ _ rfl w2.heap.size (ic 64 z0) (ic 64 (tL true L).f) 37 rfl rfl (Rm.new w2).r1 (ic_size _ _) (ic_size _ _) ic_one ?_; intro w3 h3 t3 s3; have R3 := hid (show Row w3 w2.heap.size 64 (tL true L).f 37 from h3); have Q3 := hid ((Rm.new w2).r2.keep t3 (by simp)); have T3 := hid (tl2 w2 (Rm.new w2).t t3); clear h3 t3 s3) | (refine wpList_storeT big64 rfl _ _ rfl (w2.heap.size + 1) (ic 64 z0) (ic 64 (tL false L).f) 37 rfl rfl Q3.out (ic_size _ _) (ic_size _ _) ic_one ?_; intro w4 h4 t4 s4; have R4 := hid (show Row w4 (w2.heap.size + 1) 64 (tL false L).f 37 from h4); have Q4 := hid (R3.out.keep t4 (by simp)); have T4 := hid (T2.out.trans' (T3.out.trans t4 (fun i hi => Or.inr (by simp at hi; omega)))); clear h4 t4 s4))
  have HADD := hid (add_ w4 (fun j _ => HA.out j) (fun j _ => HB.out j))
  clear T1 T2 T3 Q3 R3 HW HG
  generalize hA : (tL true L).f = fa at *
  generalize hB : (tL false L).f = fb at *
  generalize w2.heap.size = g at *
  have HEQ := hid (fun j (hj : j < 64) => show sumTo fa fb 0 64 j = fa j + fb j from if_pos (by omega))
  go_upto_region 4 with (first | (refine wpList_loadT big64 rfl _ rfl g (ic 64 fa) 37 (0, 0) rfl Q4.out (ic_size _ _) ?_) | (refine wpList_loadT big64 rfl _ rfl (g + 1) (ic 64 fb) 37 (0, 0) rfl R4.out (ic_size _ _) ?_) | (go_at_call 15; refine HADD.out.mono ?_; rintro r w5 ⟨rfl, t5⟩; have Q5 := hid (Q4.out.keep t5 (by simp)); have R5 := hid (R4.out.keep t5 (by simp)); have T5 := hid (T4.out.trans' t5); clear t5) | (refine wpList_storeT big64 rfl _ _ rfl w5.heap.size (ic 64 z0) (ic 64 (sumTo fa fb 0 64)) 37 rfl rfl (heap_alloc_new w5 _) (ic_size _ _) (ic_size _ _) ic_one ?_; intro w6 h6 t6 s6; have P6 := hid (show Row w6 w5.heap.size 64 (sumTo fa fb 0 64) 37 from h6); have Q6 := hid ((Q5.out.keep ((Touch.refl [] _).alloc _) (by simp)).keep t6 (by simp; have := Q5.out.lt; omega)); have R6 := hid ((R5.out.keep ((Touch.refl [] _).alloc _) (by simp)).keep t6 (by simp; have := R5.out.lt; omega)); have T6 := hid (tl2 w5 ((Touch.refl [] _).alloc _) t6); have T7 := hid (T5.out.trans' T6.out); clear h6 t6 s6))
  generalize sumTo fa fb 0 64 = fc at *
  generalize w5.heap.size = b at *
  clear HADD Q4 R4 Q5 R5 T5 T4 T6
  go_wp2_with fail
  go_loopw [16] (fun i wr => ∃ j : Nat, i = .int .i64 j ∧ j ≤ 64 ∧ Hid (Touch [] w6 wr)) (fun i _ => 64 - (intOf i).toNat)
  case atStart => exact ⟨0, rfl, Nat.zero_le _, hid (Touch.refl [] _)⟩
  case round =>
    obtain ⟨j, rfl, hj, HJ⟩ := hrel
    by_cases hlt : j < 64
    · have c1 := (P6.out.keep HJ.out (by simp)).cell (i := j) hlt
      have c2 := (Q6.out.keep HJ.out (by simp)).cell (i := j) hlt
      have c3 := (R6.out.keep HJ.out (by simp)).cell (i := j) hlt
      rw [HEQ.out j hlt] at c1
      obtain ⟨x0, x1⟩ := HA.out j
      obtain ⟨y0, y1⟩ := HB.out j
      clear HA HB HEQ P6 Q6 R6
      generalize fa j = x at *
      generalize fb j = y at *
      go_upto_region 7 with fail
      go_quiet (fail)
      go_wp2_with fail
      go_roundw
      case rel => exact ⟨j + 1, by go_num, by omega, hid (HJ.out.drewN _)⟩
      case measure => first | (simp [intOf]; done) | (simp [intOf]; omega)
    · obtain rfl : j = 64 := by omega
      have TT := hid (T7.out.trans' HJ.out)
      have Q7 := hid (Q6.out.keep HJ.out (by simp))
      have R7 := hid (R6.out.keep HJ.out (by simp))
      clear HA HB HEQ P6 Q6 R6 HJ T7
      go_upto_region 10 with fail
      have S0 := (Touch.refl [] wr).drew
      refine wp_region_H (S := fun w' => Touch [] wr w') (by kernel_rfl) ?_
      generalize wr.drew = W0 at *
      refine wpH_call (i := 0) (o := { dst := some 31, op := Op.call { callee := Callee.value (Operand.func 11), args := #[], argTypes := #[] }, type := 4, pos := _, after := #[], guard := none }) (by kernel_rfl) rfl (fun K' hK => ?_)
      rw [if_pos (by rfl)]
      go_simp
      refine (awake_ _).mono ?_
      rintro r w7 ⟨rfl, t7⟩
      have HS7 := hid (S0.trans' t7)
      clear t7 S0
      have S0 := HS7.out
      refine hK.out _ _ S0 ?_
      clear hK
      try simp only [Go.Act.put, List.setIfInBounds_toArray, List.set_cons_zero, List.set_cons_succ]
      refine wpH_take (i := 1) (v := (.bool true)) (some 32) rfl rfl (by kernel_rfl) (by kernel_rfl) (by kernel_rfl) (fun _ _ _ h => h) (Or.inl ⟨by rfl, fun w' hS => (by go_simp)⟩) S0 ?_
      try simp only [Go.Act.put, List.setIfInBounds_toArray, List.set_cons_zero, List.set_cons_succ]
      refine wpH_take (i := 2) (v := (.agg (ic 64 fa))) (some 33) rfl rfl (by kernel_rfl) (by kernel_rfl) (by kernel_rfl) (fun _ _ _ h => h) (Or.inl ⟨by rfl, fun w' hS => (exec_loadT big64 _ rfl rfl (Q7.out.keep hS (by simp)) (ic_size _ _))⟩) S0 ?_
      try simp only [Go.Act.put, List.setIfInBounds_toArray, List.set_cons_zero, List.set_cons_succ]
      refine wpH_take (i := 3) (v := v1) (some 34) rfl rfl (by kernel_rfl) (by kernel_rfl) (by kernel_rfl) (fun _ _ _ h => h) (Or.inl ⟨by rfl, fun w' hS => (by go_simp)⟩) S0 ?_
      try simp only [Go.Act.put, List.setIfInBounds_toArray, List.set_cons_zero, List.set_cons_succ]
      refine wpH_call (i := 4) (o := { dst := some 35, op := Op.call { callee := Callee.value (Operand.func 10), args := #[Operand.tmp 34], argTypes := #[22] }, type := 32, pos := _, after := #[{ on := 3, ground := Ground.data }, { on := 1, ground := Ground.chain }, { on := 1, ground := Ground.guard }], guard := some (1, true) }) (by kernel_rfl) rfl (fun K' hK => ?_)
      rw [if_pos (by rfl)]
      go_simp
      refine (HGV.out _ (TT.out.trans' S0)).mono ?_
      rintro r w8 ⟨v8, rfl, e8, t8⟩
      have E8 := hid e8
      clear e8
      have HS8 := hid (S0.trans' t8)
      clear t8 S0
      have S0 := HS8.out
      refine hK.out _ _ S0 ?_
      clear hK
      try simp only [Go.Act.put, List.setIfInBounds_toArray, List.set_cons_zero, List.set_cons_succ]
      refine wpH_call (i := 5) (o := { dst := some 36, op := Op.call { callee := Callee.value (Operand.func 16), args := #[Operand.tmp 35], argTypes := #[32] }, type := 37, pos := _, after := #[{ on := 4, ground := Ground.data }, { on := 4, ground := Ground.chain }, { on := 1, ground := Ground.guard }], guard := some (1, true) }) (by kernel_rfl) rfl (fun K' hK => ?_)
      rw [if_pos (by rfl)]
      go_simp
      refine (HRW.out _ _ E8.out).mono ?_
      rintro r w9 ⟨rfl, t9⟩
      have HS9 := hid (S0.trans' t9)
      clear t9 S0
      have S0 := HS9.out
      refine hK.out _ _ S0 ?_
      clear hK
      try simp only [Go.Act.put, List.setIfInBounds_toArray, List.set_cons_zero, List.set_cons_succ]
      refine wpH_take (i := 6) (v := (.bool true)) (some 37) rfl rfl (by kernel_rfl) (by kernel_rfl) (by kernel_rfl) (fun _ _ _ h => h) (Or.inl ⟨by rfl, fun w' hS => (exec_eq64 _ fa _ _ _ rfl rfl rfl)⟩) S0 ?_
      try simp only [Go.Act.put, List.setIfInBounds_toArray, List.set_cons_zero, List.set_cons_succ]
      refine wpH_take (i := 7) (v := (.bool true)) (some 38) rfl rfl (by kernel_rfl) (by kernel_rfl) (by kernel_rfl) (fun _ _ _ h => h) (Or.inl ⟨by rfl, fun w' hS => (by go_simp)⟩) S0 ?_
      try simp only [Go.Act.put, List.setIfInBounds_toArray, List.set_cons_zero, List.set_cons_succ]
      refine wpH_take (i := 8) (v := (.bool true)) (some 39) rfl rfl (by kernel_rfl) (by kernel_rfl) (by kernel_rfl) (fun _ _ _ h => h) (Or.inl ⟨by rfl, fun w' hS => (by go_simp)⟩) S0 ?_
      try simp only [Go.Act.put, List.setIfInBounds_toArray, List.set_cons_zero, List.set_cons_succ]
      refine wpH_take (i := 9) (v := (.agg (ic 64 fb))) (some 40) rfl rfl (by kernel_rfl) (by kernel_rfl) (by kernel_rfl) (fun _ _ _ h => h) (Or.inl ⟨by rfl, fun w' hS => (exec_loadT big64 _ rfl rfl (R7.out.keep hS (by simp)) (ic_size _ _))⟩) S0 ?_
      try simp only [Go.Act.put, List.setIfInBounds_toArray, List.set_cons_zero, List.set_cons_succ]
      refine wpH_take (i := 10) (v := v1) (some 41) rfl rfl (by kernel_rfl) (by kernel_rfl) (by kernel_rfl) (fun _ _ _ h => h) (Or.inl ⟨by rfl, fun w' hS => (by go_simp)⟩) S0 ?_
      try simp only [Go.Act.put, List.setIfInBounds_toArray, List.set_cons_zero, List.set_cons_succ]
      refine wpH_call (i := 11) (o := { dst := some 42, op := Op.call { callee := Callee.value (Operand.func 10), args := #[Operand.tmp 41], argTypes := #[22] }, type := 32, pos := _, after := #[{ on := 10, ground := Ground.data }, { on := 8, ground := Ground.chain }, { on := 8, ground := Ground.guard }], guard := some (8, true) }) (by kernel_rfl) rfl (fun K' hK => ?_)
      rw [if_pos (by rfl)]
      go_simp
      refine (HGV.out _ (TT.out.trans' S0)).mono ?_
      rintro r wa ⟨va, rfl, ea, ta⟩
      have EA := hid ea
      clear ea
      have HSa := hid (S0.trans' ta)
      clear ta S0
      have S0 := HSa.out
      refine hK.out _ _ S0 ?_
      clear hK
      try simp only [Go.Act.put, List.setIfInBounds_toArray, List.set_cons_zero, List.set_cons_succ]
      refine wpH_call (i := 12) (o := { dst := some 43, op := Op.call { callee := Callee.value (Operand.func 17), args := #[Operand.tmp 42], argTypes := #[32] }, type := 37, pos := _, after := #[{ on := 11, ground := Ground.data }, { on := 11, ground := Ground.chain }, { on := 8, ground := Ground.guard }], guard := some (8, true) }) (by kernel_rfl) rfl (fun K' hK => ?_)
      rw [if_pos (by rfl)]
      go_simp
      refine (HRL.out _ _ EA.out).mono ?_
      rintro r wb ⟨rfl, tb⟩
      have HSb := hid (S0.trans' tb)
      clear tb S0
      have S0 := HSb.out
      refine hK.out _ _ S0 ?_
      clear hK
      try simp only [Go.Act.put, List.setIfInBounds_toArray, List.set_cons_zero, List.set_cons_succ]
      refine wpH_take (i := 13) (v := (.bool true)) (some 44) rfl rfl (by kernel_rfl) (by kernel_rfl) (by kernel_rfl) (fun _ _ _ h => h) (Or.inl ⟨by rfl, fun w' hS => (exec_eq64 _ fb _ _ _ rfl rfl rfl)⟩) S0 ?_
      try simp only [Go.Act.put, List.setIfInBounds_toArray, List.set_cons_zero, List.set_cons_succ]
      refine wpH_take (i := 14) (v := (.bool true)) (some 45) rfl rfl (by kernel_rfl) (by kernel_rfl) (by kernel_rfl) (fun _ _ _ h => h) (Or.inl ⟨by rfl, fun w' hS => (by go_simp)⟩) S0 ?_
      try simp only [Go.Act.put, List.setIfInBounds_toArray, List.set_cons_zero, List.set_cons_succ]
      refine wpH_take (i := 15) (v := (.bool true)) (some 2) rfl rfl (by kernel_rfl) (by kernel_rfl) (by kernel_rfl) (fun _ _ _ h => h) (Or.inl ⟨by rfl, fun w' hS => (by go_simp)⟩) S0 ?_
      try simp only [Go.Act.put, List.setIfInBounds_toArray, List.set_cons_zero, List.set_cons_succ]
      refine wpAnyH_done (by kernel_rfl) ?_ _
      have TE := hid (TT.out.trans' S0)
      go_wp2_with fail
      go_ret
      exact ⟨rfl, TE.out⟩
theorem z_oks {xs : List EvA} (ok : ∀ x ∈ xs, x.ok) : ∀ e ∈ xs.map EvA.z, e.ok := fun e he => by
  obtain ⟨x, hx, rfl⟩ := List.mem_map.1 he
  exact z_ok (ok x hx)
theorem times_goes (W : World) (xs : List EvA) (v : Value) (h : SlEvA W v xs) (ok : ∀ x ∈ xs, x.ok) (hc : ∀ a n c, v = .slice a n c → n ≤ c) :
    Calls Try.prog 4 #[v] W fun r w' => r = .returned (.bool true) ∧ Touch [] W w' := times_law W v (Ev.of_arg h hc) (z_oks ok)
end Go.Proofs.Ytibgfkjhohgkhaa.Ty
