/- The times of callers and of runs; no conditions but those that each states. -/
import Derived.Test.YtibgfkjhohgkhaaTlm
import Derived.Test.YtibgfkjhohgkhaaAlh
namespace Go.Proofs.Ytibgfkjhohgkhaa.Ty
open Go.RowKit Go.Maps Go.ChangeMaps
open Tr
set_option linter.unusedVariables false
set_option linter.unusedSimpArgs false
section
variable {kt : TypeId} {K : Type} {c : KK Try.prog kt K} {w : World} {ops : Array Oper} {rest : List Oper} {o : Oper} {a : Act} {Q : Exit → Act → World → Prop}
theorem wp_kset [DecidableEq K] {K' : Act → World → Prop} (m x y : Operand) (t : TypeId) (hop : o.op = Op.mapUpdate t m x y)
    (e : TypeId) (ht : Try.prog.underlying t = some (.map kt e)) (b n : Nat) (f : K → Option Value) (hm : a.eval m = .map (some b)) (hown : MapK c w b n f) (hn : n < maxLen)
    (k : K) (hx : a.eval x = c.kv k) (hk : c.ok k) (v : Value) (hy : a.eval y = v)
    (hK : ∀ ob, MapK c (setBlock w b ob) b (if (f k).isSome then n else n + 1) (kupd f k v) → K' (a.put o.dst undef) (setBlock w b ob)) : o.wp Try.prog a w K' Q := by
  obtain ⟨ob, hrun, h2⟩ := hown.set ht hn hk v
  unfold Oper.wp
  simp [execOp, hop, hm, hx, hy, hrun, Result.andThen]
  exact hK ob h2
theorem wpList_klook_ok (hg : o.guard = none) (m x : Operand) (t : TypeId) (hop : o.op = Op.lookup t m x true)
    (e : TypeId) (ht : Try.prog.underlying t = some (.map kt e)) (b n : Nat) (f : K → Option Value) (hm : a.eval m = .map (some b)) (hown : MapK c w b n f)
    {z : Value} (hz : ∀ u : World, (zeroValue e).run Try.prog u = .ok z u) (k : K) (hx : a.eval x = c.kv k) (hk : c.ok k) (v : Value) (hv : v = .tuple #[(f k).getD z, .bool (f k).isSome])
    (hK : wpList Try.prog ops Q rest (a.put o.dst v) w) : wpList Try.prog ops Q (o :: rest) a w := by
  subst hv
  refine wpList_plain hg fun K' hK' => ?_
  have hrun := hown.lookOk ht (hz w) hk
  unfold Oper.wp
  simp [execOp, hop, hm, hx, hrun, Result.andThen]
  exact hK' _ _ hK
end
/-- The buckets and the map of what began, in memory. -/
structure Tm (w wr : World) (q : Bool) (s : Tb) (n : Nat) : Prop where
  r1 : Row wr w.heap.size 64 z0 37
  r2 : Row wr (w.heap.size + 1) 64 s.f 37
  m : ∃ k, k ≤ n ∧ MapK KI wr (w.heap.size + 2) k (tk s.g)
  t : Touch [] w wr
section
variable {w wr w' : World} {q : Bool} {s : Tb} {n : Nat}
theorem Tm.keep (h : Tm w wr q s n) (T : Touch [] wr w') : Tm w w' q s n := ⟨h.r1.keep T (by simp), h.r2.keep T (by simp), by obtain ⟨k, h1, h2⟩ := h.m; exact ⟨k, h1, h2.keep T (by simp)⟩, h.t.trans' T⟩
theorem Tm.row (h : Tm w wr q s n) (T : Touch [w.heap.size + 1] wr w') {f : Nat → Int} (hr : Row w' (w.heap.size + 1) 64 f 37) : Tm w w' q ⟨s.g, f⟩ n :=
  ⟨h.r1.keep T (by simp), hr, by obtain ⟨k, h1, h2⟩ := h.m; exact ⟨k, h1, h2.keep T (by simp)⟩, h.t.trans T (fun i hi => Or.inr (by simp at hi; omega))⟩
theorem Tm.map (h : Tm w wr q s n) (T : Touch [w.heap.size + 2] wr w') {N k : Nat} {g : Int → Option Int} (hk : k ≤ N) (hr : MapK KI w' (w.heap.size + 2) k (tk g)) : Tm w w' q ⟨g, s.f⟩ N :=
  ⟨h.r1.keep T (by simp), h.r2.keep T (by simp), ⟨k, hk, hr⟩, h.t.trans T (fun i hi => Or.inr (by simp at hi; omega))⟩
theorem Tm.more (h : Tm w wr q s n) {N : Nat} (hN : n ≤ N) : Tm w wr q s N := ⟨h.r1, h.r2, by obtain ⟨k, h1, h2⟩ := h.m; exact ⟨k, by omega, h2⟩, h.t⟩
theorem Tm.lt (h : Tm w wr q s n) : w.heap.size + 2 < wr.heap.size := by obtain ⟨k, h1, h2⟩ := h.m; exact h2.lt
theorem Tm.new (w : World) (q : Bool) : Tm w (((w.alloc (.cells (ic 64 z0) 37)).alloc (.cells (ic 64 z0) 37)).alloc (.map #[] 0)) q ⟨fun _ => none, z0⟩ 0 := by
  obtain ⟨w1, e1⟩ : ∃ w1, w1 = w.alloc (.cells (ic 64 z0) 37) := ⟨_, rfl⟩
  obtain ⟨w2, e2⟩ : ∃ w2, w2 = w1.alloc (.cells (ic 64 z0) 37) := ⟨_, rfl⟩
  obtain ⟨w3, e3⟩ : ∃ w3, w3 = w2.alloc (.map #[] 0) := ⟨_, rfl⟩
  rw [← e1, ← e2, ← e3]
  have t1 : Touch [] w w1 := by rw [e1]; exact (Touch.refl [] w).alloc _
  have t2 : Touch [] w1 w2 := by rw [e2]; exact (Touch.refl [] w1).alloc _
  have t3 : Touch [] w2 w3 := by rw [e3]; exact (Touch.refl [] w2).alloc _
  have s1 : w1.heap.size = w.heap.size + 1 := by rw [e1]; simp
  have s2 : w2.heap.size = w.heap.size + 2 := by rw [e2]; simp [s1]
  have r1 : Row w1 w.heap.size 64 z0 37 := by rw [e1]; exact heap_alloc_new w _
  have r2 : Row w2 (w.heap.size + 1) 64 z0 37 := by rw [e2, ← s1]; exact heap_alloc_new w1 _
  have m1 : MapK KI w3 (w.heap.size + 2) 0 (tk (fun _ => none)) := by rw [e3, ← s2]; exact mapK_made KI w2
  exact ⟨r1.keep (t2.trans' t3) (by simp), r2.keep t3 (by simp), ⟨0, Nat.le_refl _, m1⟩, (t1.trans' t2).trans' t3⟩
end
theorem big64_ : Big 37 64 := big64
theorem zero2 (u : World) : (zeroValue 2).run Try.prog u = .ok (.int .i64 0) u := by kernel_rfl
theorem nb_ok (q : Bool) {e : Ez} (h : e.ok) : W64 (nb q e) := by cases q; exact h.ru; exact h.ca
set_option maxHeartbeats 4000000 in
set_option maxRecDepth 20000 in
theorem times_ {w : World} {v : Value} {L : List Ez} (q : Bool) (cf : FuncId) (HC : Hid (∀ (e : Ez) (u : World), Calls Try.prog cf #[e.val] u fun r u' => r = .returned (.int .i64 (nb q e)) ∧ Touch [] u u')) (HCF : Hid (∀ args u, (callFunc cf args).run Try.prog u = .ok (.enter cf args) u)) (h : Ev w v L) (hl : L.length ≤ 2000) (ok : ∀ e ∈ L, e.ok) :
    Calls Try.prog 28 #[v, .int .i64 (fr q), .int .i64 (te q), .func (.func cf) #[] #[]] w fun r w' => r = .returned (.agg (ic 64 (tL q L).f)) ∧ Touch [] w w' := by
  have H := hid h
  have OK := hid ok
  have hmm := @run_makeMap Try.prog
  obtain ⟨a, c, rfl, hc, hrow⟩ := h
  clear hrow ok
  obtain ⟨n, hn⟩ : ∃ n, L.length = n := ⟨_, rfl⟩
  have HN := hid hn
  rw [hn] at hl hc ⊢
  clear hn
  go_enter Try.func28, Try.ntmps28
  go_wp2_with fail
  go_loopw [18] (fun i wr => ∃ j : Nat, i = .int .i64 j ∧ j ≤ n ∧ Hid (Tm w wr q (tL q (L.take j)) j)) (fun i _ => n - (intOf i).toNat)
  case atStart => exact ⟨0, rfl, Nat.zero_le _, hid (Tm.new w q)⟩
  case round =>
    obtain ⟨j, rfl, hj, HJ⟩ := hrel
    clear hmm
    by_cases hlt : j < n
    · obtain ⟨e, he⟩ : ∃ e, L[j]? = some e := ⟨_, List.getElem?_eq_getElem (by rw [HN.out]; exact hlt)⟩
      have hb := tL_b q (L.take j)
      rw [List.length_take, HN.out, Nat.min_eq_left hj] at hb
      have HSN := hid (show tL q (L.take (j + 1)) = tS q (tL q (L.take j)) e by rw [List.take_add_one, he]; exact tL_snoc _ _ _)
      have HE := hid (OK.out e (List.mem_of_getElem? he))
      obtain ⟨g, off, rfl, hg, c0, c1, c2, c3, c4, c5, c6, c7, c8, c9, c10, c11, c12⟩ := (H.out.keep HJ.out.t).at_ he
      generalize tL q (L.take j) = s at *
      have HLT := hid HJ.out.lt
      have hsz := HLT.out
      have B1 : Ib (wr.alloc (.cells #[.int .i64 e.at_, .int .i64 e.kd, .int .i64 e.cl, .int .i64 e.ca, .int .i64 e.ru, .int .i64 e.ge, .int .i64 e.ho, .int .u16 e.sp, .string e.nm, .int .i64 e.va, .int .i64 e.fk, .int .i64 e.fc, .int .i64 e.fr] 69)) wr.heap.size e := Ib.new wr e 69
      have HT := hid (HJ.out.keep ((Touch.refl [] wr).alloc (.cells #[.int .i64 e.at_, .int .i64 e.kd, .int .i64 e.cl, .int .i64 e.ca, .int .i64 e.ru, .int .i64 e.ge, .int .i64 e.ho, .int .u16 e.sp, .string e.nm, .int .i64 e.va, .int .i64 e.fk, .int .i64 e.fc, .int .i64 e.fr] 69)))
      clear HJ
      go_upto_region 6 with fail
      clear c0 c1 c2 c3 c4 c5 c6 c7 c8 c9 c10 c11 c12
      generalize wr.alloc (.cells #[.int .i64 e.at_, .int .i64 e.kd, .int .i64 e.cl, .int .i64 e.ca, .int .i64 e.ru, .int .i64 e.ge, .int .i64 e.ho, .int .u16 e.sp, .string e.nm, .int .i64 e.va, .int .i64 e.fk, .int .i64 e.fc, .int .i64 e.fr] 69) = W1 at *
      have HB := hid B1
      obtain ⟨c0, c1, c2, c3, c4, c5, c6, c7, c8, c9, c10, c11, c12⟩ := B1
      have hne := fr_ne q
      by_cases hk : e.kd = fr q
      · rw [hk] at c1
        have hne2 : (fr q == te q) = false := by simpa using hne
        go_upto_region 8 with fail
        have HKD := hid hk
        clear hk
        clear c0 c1 c2 c3 c4 c5 c6 c7 c8 c9 c10 c11 c12
        have S0 : Ib W1.drew wr.heap.size e := HB.out.touch ((Touch.refl [] W1).drew)
        have HT1 := hid (HT.out.keep ((Touch.refl [] W1).drew))
        clear HT
        refine wp_region_H (S := fun w' => Ib w' wr.heap.size e) (by kernel_rfl) ?_
        have HB0 := hid S0
        clear HB
        generalize W1.drew = W0 at *
        refine wpH_take (i := 0) (v := (.map (some (w.heap.size + 1 + 1)))) (some 27) rfl rfl (by kernel_rfl) (by kernel_rfl) (by kernel_rfl) (fun _ _ _ h => h) (Or.inl ⟨by rfl, fun w' hS => (by go_simp)⟩) S0 ?_
        try simp only [Go.Act.put, List.setIfInBounds_toArray, List.set_cons_zero, List.set_cons_succ]
        refine wpH_take (i := 1) (v := (.func (.func cf) #[] #[])) (some 28) rfl rfl (by kernel_rfl) (by kernel_rfl) (by kernel_rfl) (fun _ _ _ h => h) (Or.inl ⟨by rfl, fun w' hS => (by go_simp)⟩) S0 ?_
        try simp only [Go.Act.put, List.setIfInBounds_toArray, List.set_cons_zero, List.set_cons_succ]
        refine wpH_take (i := 2) (v := (.agg #[.int .i64 e.at_, .int .i64 e.kd, .int .i64 e.cl, .int .i64 e.ca, .int .i64 e.ru, .int .i64 e.ge, .int .i64 e.ho, .int .u16 e.sp, .string e.nm, .int .i64 e.va, .int .i64 e.fk, .int .i64 e.fc, .int .i64 e.fr])) (some 29) rfl rfl (by kernel_rfl) (by kernel_rfl) (by kernel_rfl) (fun _ _ _ h => h) (Or.inl ⟨by rfl, fun w' hS => (by obtain ⟨c0, c1, c2, c3, c4, c5, c6, c7, c8, c9, c10, c11, c12⟩ := hS; go_simp)⟩) S0 ?_
        try simp only [Go.Act.put, List.setIfInBounds_toArray, List.set_cons_zero, List.set_cons_succ]
        refine wpH_take (i := 4) (v := (.pointer (some ⟨wr.heap.size, 0, none⟩))) (some 31) rfl rfl (by kernel_rfl) (by kernel_rfl) (by kernel_rfl) (fun _ _ _ h => h) (Or.inl ⟨by rfl, fun w' hS => (by go_simp)⟩) S0 ?_
        try simp only [Go.Act.put, List.setIfInBounds_toArray, List.set_cons_zero, List.set_cons_succ]
        refine wpH_take (i := 5) (v := (.int .i64 e.at_)) (some 32) rfl rfl (by kernel_rfl) (by kernel_rfl) (by kernel_rfl) (fun _ _ _ h => h) (Or.inl ⟨by rfl, fun w' hS => (by obtain ⟨c0, c1, c2, c3, c4, c5, c6, c7, c8, c9, c10, c11, c12⟩ := hS; go_simp)⟩) S0 ?_
        try simp only [Go.Act.put, List.setIfInBounds_toArray, List.set_cons_zero, List.set_cons_succ]
        refine wpH_call (i := 3) (o := { dst := some 30, op := Op.call { callee := Callee.value (Operand.tmp 28), args := #[Operand.tmp 29], argTypes := #[69] }, type := 3, pos := _, after := #[{ on := 1, ground := Ground.data }, { on := 2, ground := Ground.data }], guard := none }) (by kernel_rfl) rfl (fun K' hK => ?_)
        rw [if_pos (by rfl)]
        go_simp
        rw [HCF.out, Oper.upon_enter]
        refine (HC.out e _).mono ?_
        rintro r w4 ⟨rfl, t4⟩
        have HT4 := hid (HT1.out.keep t4)
        have S4 := HB0.out.touch t4
        clear t4 HT1 HB0 S0
        refine hK.out _ _ S4 ?_
        clear hK
        try simp only [Go.Act.put, List.setIfInBounds_toArray, List.set_cons_zero, List.set_cons_succ]
        refine wpH_call (i := 6) (o := { dst := none, op := Op.mapUpdate 104 (Operand.tmp 27) (Operand.tmp 30) (Operand.tmp 32), type := 0, pos := _, after := #[{ on := 0, ground := Ground.data }, { on := 3, ground := Ground.data }, { on := 5, ground := Ground.data }, { on := 3, ground := Ground.chain }, { on := 0, ground := Ground.phase }, { on := 1, ground := Ground.phase }, { on := 2, ground := Ground.phase }, { on := 3, ground := Ground.phase }, { on := 4, ground := Ground.phase }, { on := 5, ground := Ground.phase }], guard := none }) (by kernel_rfl) rfl (fun K' hK => ?_)
        rw [if_pos (by rfl)]
        obtain ⟨k0, hk0, hM⟩ := HT4.out.m
        refine wp_kset (c := KI) _ _ _ 104 rfl 2 Try.underlying104 (w.heap.size + 2) k0 (tk s.g) rfl hM (by unfold maxLen; omega) (nb q e) rfl (nb_ok q HE.out) (.int .i64 e.at_) rfl ?_
        intro ob hM2
        rw [kupd_tk] at hM2
        have tb : Touch [w.heap.size + 2] w4 (setBlock w4 (w.heap.size + 2) ob) := touch_setBlock (Touch.refl _ _) (Or.inl (by simp)) ob
        have HT5 := hid (HT4.out.map tb (N := j + 1) (by split <;> omega) hM2)
        have S5 : Ib (setBlock w4 (w.heap.size + 2) ob) wr.heap.size e := ib_keep S4 tb (by simp; omega)
        clear hM2 tb hM HT4 S4
        refine hK.out _ _ S5 ?_
        clear hK
        try simp only [Go.Act.put, List.setIfInBounds_toArray, List.set_cons_zero, List.set_cons_succ]
        refine wpAnyH_done (by kernel_rfl) ?_ _
        obtain ⟨c0, c1, c2, c3, c4, c5, c6, c7, c8, c9, c10, c11, c12⟩ := S5
        go_wp2_with fail
        go_roundw
        case rel => exact ⟨j + 1, rfl, by omega, hid (by rw [HSN.out]; unfold tS; rw [if_pos HKD.out, if_neg (by rw [HKD.out]; exact hne)]; exact HT5.out)⟩
        case measure => simp [intOf]; omega
      · have hk1 : (e.kd == fr q) = false := by simpa using hk
        by_cases hk2 : e.kd = te q
        · rw [hk2] at c1 hk1
          go_upto_region 10 with fail
          have HK1 := hid hk
          have HK2 := hid hk2
          clear hk hk2 hk1 c1
          have c1 := HB.out.c1
          have hcf := HCF.out
          obtain ⟨k0, hk0, hM⟩ := HT.out.m
          have HM := hid (fun w4 (t4 : Touch [] W1 w4) => hM.keep t4 (by simp))
          clear hM hk0
          go_upto_region 11 with (first | (refine (HC.out e _).mono ?_; rintro r w4 ⟨rfl, t4⟩; have HT4 := hid (HT.out.keep t4); have HB4 := hid (HB.out.touch t4); have HM4 := hid (HM.out _ t4); clear t4 HT HB HM) | (refine wpList_klook_ok (c := KI) rfl _ _ 104 rfl 2 Try.underlying104 (w.heap.size + 2) k0 (tk s.g) rfl HM4.out zero2 (nb q e) rfl (nb_ok q HE.out) _ rfl ?_))
          clear c0 c1 c2 c3 c4 c5 c6 c7 c8 c9 c10 c11 c12 hcf
          obtain ⟨c0, c1, c2, c3, c4, c5, c6, c7, c8, c9, c10, c11, c12⟩ := HB4.out
          cases hg0 : s.g (nb q e) with
          | none =>
            have e1 : (tk s.g (nb q e)).getD (Value.int IntKind.i64 0) = .int .i64 0 := by unfold tk; rw [hg0]; rfl
            have e2 : (tk s.g (nb q e)).isSome = false := by unfold tk; rw [hg0]; rfl
            rw [e1, e2]
            clear e1 e2
            go_wp2_with fail
            go_roundw
            case rel => exact ⟨j + 1, rfl, by omega, hid (by rw [HSN.out]; unfold tS; rw [if_neg HK1.out, if_pos HK2.out, hg0]; exact HT4.out.more (by omega))⟩
            case measure => simp [intOf]; omega
          | some x =>
            have e1 : (tk s.g (nb q e)).getD (Value.int IntKind.i64 0) = .int .i64 x := by unfold tk; rw [hg0]; rfl
            have e2 : (tk s.g (nb q e)).isSome = true := by unfold tk; rw [hg0]; rfl
            rw [e1, e2]
            clear e1 e2
            have HC2 := hid (countTime_ HT4.out.r2 (fun i => by have := hb i; omega) e.at_ x)
            go_wp2_with (go_at_call 43; refine HC2.out.mono ?_; rintro r w5 ⟨rfl, r5, t5⟩; have HT5 := hid (HT4.out.row t5 r5); clear r5 t5)
            go_roundw
            case rel => exact ⟨j + 1, rfl, by omega, hid (by rw [HSN.out]; unfold tS; rw [if_neg HK1.out, if_pos HK2.out, hg0]; exact HT5.out.more (by omega))⟩
            case measure => simp [intOf]; omega
        · have hk3 : (e.kd == te q) = false := by simpa using hk2
          go_wp2_with fail
          go_roundw
          case rel => exact ⟨j + 1, rfl, by omega, hid (by rw [HSN.out]; unfold tS; rw [if_neg hk, if_neg hk2]; exact HT.out.more (by omega))⟩
          case measure => simp [intOf]; omega
    · obtain rfl : j = n := by omega
      have HO := HJ.out
      rw [← HN.out, List.take_length] at HO
      have hs1 := HO.lt
      have hb0 : wr.heap[w.heap.size]? = some (.cells (ic 64 z0) 37 (0, 0)) := HO.r1
      have hb1 : wr.heap[w.heap.size + 1]? = some (.cells (ic 64 (tL q L).f) 37 (0, 0)) := HO.r2
      have HT := hid HO.t
      clear HO HJ
      go_wp2_with (first | (refine wpList_loadT big64 rfl _ rfl (w.heap.size + 1) (ic 64 (tL q L).f) 37 (0, 0) rfl hb1 (ic_size _ _) ?_) | (refine wpList_storeT big64 rfl _ _ rfl w.heap.size (ic 64 z0) (ic 64 (tL q L).f) 37 rfl rfl hb0 (ic_size _ _) (ic_size _ _) ic_one ?_; intro w3 h3 t3 s3; have H3 := hid h3; have T3 := hid (HT.out.trans t3 (fun i hi => Or.inr (by simp at hi; omega))); clear h3 t3 s3))
      exact bodyPost_ret (v := .agg (ic 64 (tL q L).f)) (res_cell (fn := Try.f28) (p := 8) rfl big64 _ rfl H3.out (ic_size _ _)) rfl ⟨rfl, T3.out⟩
end Go.Proofs.Ytibgfkjhohgkhaa.Ty
