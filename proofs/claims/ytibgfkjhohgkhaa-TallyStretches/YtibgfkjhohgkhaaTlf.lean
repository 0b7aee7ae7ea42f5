/- The program's counts of events; no conditions but those that each states. -/
import Derived.Test.YtibgfkjhohgkhaaTle
import Derived.Test.YtibgfkjhohgkhaaAlh
namespace Go.Proofs.Ytibgfkjhohgkhaa.Ty
open Go.RowKit Go.Maps Go.ChangeMaps
open Tr
set_option linter.unusedVariables false
set_option linter.unusedSimpArgs false
/-- The counts in memory. -/
structure Om (w wr : World) (s : Ta) : Prop where
  r2 : Row wr w.heap.size 27 z0 28
  r3 : Row wr (w.heap.size + 1) 27 s.f 28
  mks : MapK KC wr (w.heap.size + 2) s.K.length (mem s.K)
  mr : MapK KI wr (w.heap.size + 3) s.R.length (mem s.R)
  t : Touch [] w wr
section
variable {w wr w' : World} {s : Ta}
theorem Om.keep (h : Om w wr s) (T : Touch [] wr w') : Om w w' s := ⟨h.r2.keep T (by simp), h.r3.keep T (by simp), h.mks.keep T (by simp), h.mr.keep T (by simp), h.t.trans' T⟩
theorem Om.row (h : Om w wr s) (T : Touch [w.heap.size + 1] wr w') {f : Nat → Int} (hr : Row w' (w.heap.size + 1) 27 f 28) : Om w w' ⟨f, s.K, s.R⟩ :=
  ⟨h.r2.keep T (by simp), hr, h.mks.keep T (by simp), h.mr.keep T (by simp), h.t.trans T (fun i hi => Or.inr (by simp at hi; omega))⟩
theorem Om.keys (h : Om w wr s) (T : Touch [w.heap.size + 2] wr w') {K' : List K} (hr : MapK KC w' (w.heap.size + 2) K'.length (mem K')) : Om w w' ⟨s.f, K', s.R⟩ :=
  ⟨h.r2.keep T (by simp), h.r3.keep T (by simp), hr, h.mr.keep T (by simp), h.t.trans T (fun i hi => Or.inr (by simp at hi; omega))⟩
theorem Om.runs (h : Om w wr s) (T : Touch [w.heap.size + 3] wr w') {R' : List Int} (hr : MapK KI w' (w.heap.size + 3) R'.length (mem R')) : Om w w' ⟨s.f, s.K, R'⟩ :=
  ⟨h.r2.keep T (by simp), h.r3.keep T (by simp), h.mks.keep T (by simp), hr, h.t.trans T (fun i hi => Or.inr (by simp at hi; omega))⟩
theorem Om.new (w : World) : Om w ((((w.alloc (.cells (ic 27 z0) 28)).alloc (.cells (ic 27 z0) 28)).alloc (.map #[] 0)).alloc (.map #[] 0)) ⟨z0, [], []⟩ := by
  obtain ⟨w1, e1⟩ : ∃ w1, w1 = w.alloc (.cells (ic 27 z0) 28) := ⟨_, rfl⟩
  obtain ⟨w2, e2⟩ : ∃ w2, w2 = w1.alloc (.cells (ic 27 z0) 28) := ⟨_, rfl⟩
  obtain ⟨w3, e3⟩ : ∃ w3, w3 = w2.alloc (.map #[] 0) := ⟨_, rfl⟩
  obtain ⟨w4, e4⟩ : ∃ w4, w4 = w3.alloc (.map #[] 0) := ⟨_, rfl⟩
  rw [← e1, ← e2, ← e3, ← e4]
  have t1 : Touch [] w w1 := by rw [e1]; exact (Touch.refl [] w).alloc _
  have t2 : Touch [] w1 w2 := by rw [e2]; exact (Touch.refl [] w1).alloc _
  have t3 : Touch [] w2 w3 := by rw [e3]; exact (Touch.refl [] w2).alloc _
  have t4 : Touch [] w3 w4 := by rw [e4]; exact (Touch.refl [] w3).alloc _
  have s1 : w1.heap.size = w.heap.size + 1 := by rw [e1]; simp
  have s2 : w2.heap.size = w.heap.size + 2 := by rw [e2]; simp [s1]
  have s3 : w3.heap.size = w.heap.size + 3 := by rw [e3]; simp [s2]
  have r1 : Row w1 w.heap.size 27 z0 28 := by rw [e1]; exact heap_alloc_new w _
  have r2 : Row w2 (w.heap.size + 1) 27 z0 28 := by rw [e2, ← s1]; exact heap_alloc_new w1 _
  have m1 : MapK KC w3 (w.heap.size + 2) 0 (mem []) := by rw [e3, ← s2]; exact mapK_made KC w2
  have m2 : MapK KI w4 (w.heap.size + 3) 0 (mem []) := by rw [e4, ← s3]; exact mapK_made KI w3
  exact ⟨r1.keep ((t2.trans' t3).trans' t4) (by simp), r2.keep (t3.trans' t4) (by simp), m1.keep t4 (by simp), m2, ((t1.trans' t2).trans' t3).trans' t4⟩
end
/-- The three steps that write into what is counted. -/
theorem Om.addK {w wr : World} {s : Ta} (h : Om w wr s) (hk : s.K.length ≤ 4096) {e : Ez} (ok : e.ok) :
    Calls Try.prog 24 #[.map (some (w.heap.size + 1 + 1)), .agg #[.int .u16 e.sp, .string e.nm]] wr fun r w' => r = .returned (.tuple #[]) ∧ Om w w' ⟨s.f, push s.K (Ez.key e), s.R⟩ ∧ Touch [w.heap.size + 2] wr w' := by
  refine (addK_ h.mks (by unfold maxLen; omega) (x := Ez.key e) ⟨ok.sp, ok.nm⟩ (push s.K (Ez.key e)).length push_len).mono ?_
  rintro r w' ⟨rfl, hm, t⟩
  rw [kupd_push] at hm
  exact ⟨rfl, h.keys t hm, t⟩
theorem Om.addI {w wr : World} {s : Ta} (h : Om w wr s) (hk : s.R.length ≤ 4096) (hn : s.R.Nodup) {x : Int} (ok : W64 x) :
    Calls Try.prog 25 #[.map (some (w.heap.size + 1 + 1 + 1)), .int .i64 x] wr fun r w' => r = .returned (.tuple #[]) ∧ Om w w' ⟨s.f, s.K, without s.R x ++ [x]⟩ ∧ Touch [w.heap.size + 3] wr w' := by
  refine (addI_ h.mr (by unfold maxLen; omega) ok (without s.R x ++ [x]).length (back_len hn)).mono ?_
  rintro r w' ⟨rfl, hm, t⟩
  rw [kupd_back] at hm
  exact ⟨rfl, h.runs t hm, t⟩
theorem Om.count {w wr : World} {s : Ta} (h : Om w wr s) {off m : Nat} (hm : off + m ≤ 27) (hf : ∀ j, 0 ≤ s.f j ∧ s.f j ≤ 1000000000000) (j : Int) :
    Calls Try.prog 23 #[.slice (some ⟨w.heap.size + 1, off, none⟩) m m, .int .i64 j] wr fun r w' => r = .returned (.tuple #[]) ∧ Om w w' ⟨inc s.f off m j, s.K, s.R⟩ ∧ Touch [w.heap.size + 1] wr w' := by
  refine (countAt_ h.r3 hm (by omega) (fun j _ => hf j) j).mono ?_
  rintro r w' ⟨rfl, hr, t⟩
  exact ⟨rfl, h.row t hr, t⟩
set_option maxHeartbeats 4000000 in
set_option maxRecDepth 20000 in
theorem of_ {w : World} {v : Value} {L : List Ez} (h : Ev w v L) (hl : L.length ≤ 2000) (ok : ∀ e ∈ L, e.ok) :
    Calls Try.prog 8 #[v] w fun r w' => r = .returned (.agg (ic 27 (ofL L))) ∧ Touch [] w w' := by
  have H := hid h
  have OK := hid ok
  have hmm := @run_makeMap Try.prog
  obtain ⟨a, c, rfl, hc, hrow⟩ := h
  clear hrow ok
  obtain ⟨n, hn⟩ : ∃ n, L.length = n := ⟨_, rfl⟩
  have HN := hid hn
  rw [hn] at hl hc ⊢
  clear hn
  go_enter Try.func8, Try.ntmps8
  go_wp2_with fail
  go_loopw [12] (fun i wr => ∃ j : Nat, i = .int .i64 j ∧ j ≤ n ∧ Hid (Om w wr (oL (L.take j)))) (fun i _ => n - (intOf i).toNat)
  case atStart => exact ⟨0, rfl, Nat.zero_le _, hid (Om.new w)⟩
  case round =>
    obtain ⟨j, rfl, hj, HJ⟩ := hrel
    clear hmm
    by_cases hlt : j < n
    · obtain ⟨e, he⟩ : ∃ e, L[j]? = some e := ⟨_, List.getElem?_eq_getElem (by rw [HN.out]; exact hlt)⟩
      have hoi := Oi.all (L.take j)
      rw [List.length_take, HN.out, Nat.min_eq_left hj] at hoi
      have hsn : oL (L.take (j + 1)) = oS (oL (L.take j)) e := by rw [List.take_add_one, he]; exact oL_snoc _ _
      have heo := OK.out e (List.mem_of_getElem? he)
      have hev := H.out.keep HJ.out.t
      obtain ⟨a', c', e1, _, hrow⟩ := hev
      obtain ⟨g, off, e2, hg, hrc⟩ := hrow (by rw [HN.out]; omega)
      rw [HN.out] at e1
      simp only [Value.slice.injEq] at e1
      obtain ⟨rfl, _, rfl⟩ := e1
      subst e2
      obtain ⟨c0, c1, c2, c3, c4, c5, c6, c7, c8, c9, c10, c11, c12⟩ := hrc j e he
      have hlt3 : w.heap.size + 3 < wr.heap.size := HJ.out.mr.lt
      have HLT := hid hlt3
      generalize oL (L.take j) = s at *
      have HKB := hid (show ∀ i, 0 ≤ k1 s e i ∧ k1 s e i ≤ 1000000000000 from fun i => by have := k1_b hoi (e := e) i; omega)
      have HSN := hid hsn
      have HK := hid (fun w' => kindOf_ e w')
      have hk := kk_lt e.kd
      have HI := hid hoi
      have HE := hid heo
      clear hsn hoi heo he hg hlt3
      have HB := hid (fun w' (t : Touch [] (wr.alloc (.cells #[.int .i64 e.at_, .int .i64 e.kd, .int .i64 e.cl, .int .i64 e.ca, .int .i64 e.ru, .int .i64 e.ge, .int .i64 e.ho, .int .u16 e.sp, .string e.nm, .int .i64 e.va, .int .i64 e.fk, .int .i64 e.fc, .int .i64 e.fr] 69)) w') => (Ib.new wr e 69).touch t)
      have HT0 := hid ((Touch.refl [] wr).alloc (.cells #[.int .i64 e.at_, .int .i64 e.kd, .int .i64 e.cl, .int .i64 e.ca, .int .i64 e.ru, .int .i64 e.ge, .int .i64 e.ho, .int .u16 e.sp, .string e.nm, .int .i64 e.va, .int .i64 e.fk, .int .i64 e.fc, .int .i64 e.fr] 69))
      unfold Ez.val at HK
      go_wp2_with fail
      clear c0 c1 c2 c3 c4 c5 c6 c7 c8 c9 c10 c11 c12
      refine (HK.out _).mono ?_
      rintro r w1 ⟨rfl, t1⟩
      have HB1 := hid (HB.out _ t1)
      have HO1 := hid (HJ.out.keep (HT0.out.trans' t1))
      clear t1 HB HT0 HK
      have hz := HO1.out.r3.cell (i := kk e.kd) (by omega)
      have hf := HO1.out.r3.froz (kk e.kd)
      have z0 := HI.out.lo (kk e.kd)
      have z1 := HI.out.hi (kk e.kd)
      have HST := hid (show ∀ w2, w2 = w1.setCell ⟨w.heap.size + 1, kk e.kd, none⟩ (.int .i64 (s.f (kk e.kd) + 1)) → Om w w2 ⟨k1 s e, s.K, s.R⟩ ∧ Ib w2 wr.heap.size e from fun w2 hw2 => by
        have t2 : Touch [w.heap.size + 1] w1 w2 := by rw [hw2]; exact (Touch.refl _ _).setCell (Or.inl (by simp)) _
        exact ⟨HO1.out.row t2 (by rw [hw2]; exact HO1.out.r3.set (by omega) _), ib_keep HB1.out t2 (by simp; have := HLT.out; omega)⟩)
      clear HB1 HO1 HJ
      generalize s.f (kk e.kd) = z at *
      generalize kk e.kd = k at *
      by_cases hkd : e.kd = 1
      · have HS1 := hid (show oS s e = ⟨inc (k1 s e) 12 7 e.ho, push s.K (Ez.key e), s.R⟩ from if_pos hkd)
        go_upto_region 9 with (refine wpList_st1 rfl _ _ rfl (w.heap.size + 1) k (z + 1) z rfl rfl hz hf ?_; intro w2 hw2; obtain ⟨o2, b2⟩ := HST.out _ hw2; have HO2 := hid o2; have HB2 := hid b2; clear hw2 o2 hz hf HST; obtain ⟨c0, c1, c2, c3, c4, c5, c6, c7, c8, c9, c10, c11, c12⟩ := b2; rw [hkd] at c1)
        clear c0 c1 c2 c3 c4 c5 c6 c7 c8 c9 c10 c11 c12
        have S0' : w2.drew.cell? ⟨wr.heap.size, 6, none⟩ = some (.int .i64 e.ho) := HB2.out.c6
        have HO3 := hid (HO2.out.keep ((Touch.refl [] w2).drew))
        have HB3 := hid (HB2.out.touch ((Touch.refl [] w2).drew))
        clear HO2 HB2
        refine wp_region_H (S := fun w' => w'.cell? ⟨wr.heap.size, 6, none⟩ = some (.int .i64 e.ho)) (by kernel_rfl) ?_
        generalize w2.drew = W0 at *
        have S0 := S0'
        clear S0'
        refine wpH_take (i := 0) (v := (.pointer (some ⟨w.heap.size + 1, 12, none⟩))) (some 28) rfl rfl (by kernel_rfl) (by kernel_rfl) (by kernel_rfl) (fun _ _ _ h => h) (Or.inl ⟨by rfl, fun w' hS => (by go_simp)⟩) S0 ?_
        try simp only [Go.Act.put, List.setIfInBounds_toArray, List.set_cons_zero, List.set_cons_succ]
        refine wpH_take (i := 1) (v := (.slice (some ⟨w.heap.size + 1, 12, none⟩) 7 7)) (some 29) rfl rfl (by kernel_rfl) (by kernel_rfl) (by kernel_rfl) (fun _ _ _ h => h) (Or.inl ⟨by rfl, fun w' hS => (by go_simp)⟩) S0 ?_
        try simp only [Go.Act.put, List.setIfInBounds_toArray, List.set_cons_zero, List.set_cons_succ]
        refine wpH_take (i := 2) (v := (.pointer (some ⟨wr.heap.size, 6, none⟩))) (some 30) rfl rfl (by kernel_rfl) (by kernel_rfl) (by kernel_rfl) (fun _ _ _ h => h) (Or.inl ⟨by rfl, fun w' hS => (by go_simp)⟩) S0 ?_
        try simp only [Go.Act.put, List.setIfInBounds_toArray, List.set_cons_zero, List.set_cons_succ]
        refine wpH_take (i := 3) (v := (.int .i64 e.ho)) (some 31) rfl rfl (by kernel_rfl) (by kernel_rfl) (by kernel_rfl) (fun _ _ _ h => h) (Or.inl ⟨by rfl, fun w' hS => (by have := hS; go_simp)⟩) S0 ?_
        try simp only [Go.Act.put, List.setIfInBounds_toArray, List.set_cons_zero, List.set_cons_succ]
        refine wpH_call (i := 4) (o := { dst := some 32, op := Op.call { callee := Callee.value (Operand.func 23), args := #[Operand.tmp 29, Operand.tmp 31], argTypes := #[72, 3] }, type := 0, pos := _, after := #[{ on := 1, ground := Ground.data }, { on := 3, ground := Ground.data }], guard := none }) (by kernel_rfl) rfl (fun K' hK => ?_)
        rw [if_pos (by rfl)]
        go_simp
        refine (HO3.out.count (off := 12) (m := 7) (by omega) HKB.out e.ho).mono ?_
        rintro r w4 ⟨rfl, o4, t4⟩
        have HO4 := hid o4
        have HB4 := hid (ib_keep HB3.out t4 (by simp; have := HLT.out; omega))
        have S4 : w4.cell? ⟨wr.heap.size, 6, none⟩ = some (.int .i64 e.ho) := HB4.out.c6
        clear o4 t4 HO3 HB3
        refine hK.out _ _ S4 ?_
        clear hK
        try simp only [Go.Act.put, List.setIfInBounds_toArray, List.set_cons_zero, List.set_cons_succ]
        refine wpAnyH_done (by kernel_rfl) ?_ _
        obtain ⟨c0, c1, c2, c3, c4, c5, c6, c7, c8, c9, c10, c11, c12⟩ := HB4.out
        go_wp2_with (go_at_call 24; refine (HO4.out.addK (by have := HI.out.kl; simp only; omega) HE.out).mono ?_; rintro r w5 ⟨rfl, o5, t5⟩; have HO5 := hid o5; clear o5 t5 c0 c1 c2 c3 c4 c5 c6 c7 c8 c9 c10 c11 c12)
        go_roundw
        case rel => exact ⟨j + 1, rfl, by omega, hid (by rw [HSN.out]; exact by rw [HS1.out]; exact HO5.out)⟩
        case measure => simp [intOf]; omega
      · have hk1 : (e.kd == 1) = false := by simpa using hkd
        by_cases hkd2 : e.kd = 2
        · have HS2 := hid (show oS s e = ⟨fset (k1 s e) 26 (max (s.f 26) ((without s.R e.ru ++ [e.ru]).length : Nat)), s.K, without s.R e.ru ++ [e.ru]⟩ from (if_neg hkd).trans (if_pos hkd2))
          have hkd := hkd2
          go_wp2_with (first | (refine wpList_st1 rfl _ _ rfl (w.heap.size + 1) k (z + 1) z rfl rfl hz hf ?_; intro w2 hw2; obtain ⟨o2, b2⟩ := HST.out _ hw2; have HO2 := hid o2; have HB2 := hid b2; clear hw2 o2 hz hf HST; obtain ⟨c0, c1, c2, c3, c4, c5, c6, c7, c8, c9, c10, c11, c12⟩ := b2; try rw [hkd] at c1) | (go_at_call 25; clear c0 c1 c2 c3 c4 c5 c6 c7 c8 c9 c10 c11 c12; refine (HO2.out.addI (by have := HI.out.rl; simp only; omega) HI.out.nd HE.out.ru).mono ?_; rintro r w5 ⟨rfl, o5, t5⟩; have HO5 := hid o5; clear o5 t5; have HMR := hid HO5.out.mr; have c26 := HO5.out.r3.cell (i := 26) (by omega); have f26 := HO5.out.r3.froz 26) | (at_len; refine wpList_klen (c := KI) _ rfl _ 60 rfl 102 Try.underlying60 (w.heap.size + 1 + 1 + 1) (without s.R e.ru ++ [e.ru]).length (mem (without s.R e.ru ++ [e.ru])) rfl HMR.out ?_))
          refine ⟨⟨j + 1, rfl, by omega, hid ?_⟩, by simp [intOf]; omega⟩
          rw [HSN.out, HS2.out]
          have e26 : k1 s e 26 = s.f 26 := k1_ne (by omega)
          have eM : (if k1 s e 26 < ((without s.R e.ru).length : Int) + 1 then ((without s.R e.ru).length : Int) + 1 else k1 s e 26) = max (s.f 26) ((without s.R e.ru ++ [e.ru]).length : Nat) := by
            rw [e26, Int.max_def, List.length_append, List.length_singleton, Int.natCast_add]
            split <;> split <;> omega
          rw [eM]
          exact HO5.out.row ((Touch.refl _ _).setCell (Or.inl (by simp)) _) (HO5.out.r3.set (by omega) _)
        · have hk2 : (e.kd == 2) = false := by simpa using hkd2
          by_cases hkd5 : e.kd = 5
          · have HS5 := hid (show oS s e = ⟨inc (k1 s e) 19 6 e.fk, s.K, without s.R e.ru⟩ from (if_neg hkd).trans ((if_neg hkd2).trans (if_pos hkd5)))
            have hkd := hkd5
            go_upto_region 15 with (refine wpList_st1 rfl _ _ rfl (w.heap.size + 1) k (z + 1) z rfl rfl hz hf ?_; intro w2 hw2; obtain ⟨o2, b2⟩ := HST.out _ hw2; have HO2 := hid o2; have HB2 := hid b2; clear hw2 o2 hz hf HST; obtain ⟨c0, c1, c2, c3, c4, c5, c6, c7, c8, c9, c10, c11, c12⟩ := b2; rw [hkd] at c1)
            clear c0 c1 c2 c3 c4 c5 c6 c7 c8 c9 c10 c11 c12
            have S0' : w2.drew.cell? ⟨wr.heap.size, 10, none⟩ = some (.int .i64 e.fk) := HB2.out.c10
            have HO3 := hid (HO2.out.keep ((Touch.refl [] w2).drew))
            have HB3 := hid (HB2.out.touch ((Touch.refl [] w2).drew))
            clear HO2 HB2
            refine wp_region_H (S := fun w' => w'.cell? ⟨wr.heap.size, 10, none⟩ = some (.int .i64 e.fk)) (by kernel_rfl) ?_
            generalize w2.drew = W0 at *
            have S0 := S0'
            clear S0'
            refine wpH_take (i := 0) (v := (.pointer (some ⟨w.heap.size + 1, 19, none⟩))) (some 51) rfl rfl (by kernel_rfl) (by kernel_rfl) (by kernel_rfl) (fun _ _ _ h => h) (Or.inl ⟨by rfl, fun w' hS => (by go_simp)⟩) S0 ?_
            try simp only [Go.Act.put, List.setIfInBounds_toArray, List.set_cons_zero, List.set_cons_succ]
            refine wpH_take (i := 1) (v := (.slice (some ⟨w.heap.size + 1, 19, none⟩) 6 6)) (some 52) rfl rfl (by kernel_rfl) (by kernel_rfl) (by kernel_rfl) (fun _ _ _ h => h) (Or.inl ⟨by rfl, fun w' hS => (by go_simp)⟩) S0 ?_
            try simp only [Go.Act.put, List.setIfInBounds_toArray, List.set_cons_zero, List.set_cons_succ]
            refine wpH_take (i := 2) (v := (.pointer (some ⟨wr.heap.size, 9, none⟩))) (some 53) rfl rfl (by kernel_rfl) (by kernel_rfl) (by kernel_rfl) (fun _ _ _ h => h) (Or.inl ⟨by rfl, fun w' hS => (by go_simp)⟩) S0 ?_
            try simp only [Go.Act.put, List.setIfInBounds_toArray, List.set_cons_zero, List.set_cons_succ]
            refine wpH_take (i := 3) (v := (.pointer (some ⟨wr.heap.size, 10, none⟩))) (some 54) rfl rfl (by kernel_rfl) (by kernel_rfl) (by kernel_rfl) (fun _ _ _ h => h) (Or.inl ⟨by rfl, fun w' hS => (by go_simp)⟩) S0 ?_
            try simp only [Go.Act.put, List.setIfInBounds_toArray, List.set_cons_zero, List.set_cons_succ]
            refine wpH_take (i := 4) (v := (.pointer (some ⟨wr.heap.size, 10, none⟩))) (some 55) rfl rfl (by kernel_rfl) (by kernel_rfl) (by kernel_rfl) (fun _ _ _ h => h) (Or.inl ⟨by rfl, fun w' hS => (by go_simp)⟩) S0 ?_
            try simp only [Go.Act.put, List.setIfInBounds_toArray, List.set_cons_zero, List.set_cons_succ]
            refine wpH_take (i := 5) (v := (.int .i64 e.fk)) (some 56) rfl rfl (by kernel_rfl) (by kernel_rfl) (by kernel_rfl) (fun _ _ _ h => h) (Or.inl ⟨by rfl, fun w' hS => (by have := hS; go_simp)⟩) S0 ?_
            try simp only [Go.Act.put, List.setIfInBounds_toArray, List.set_cons_zero, List.set_cons_succ]
            refine wpH_call (i := 6) (o := { dst := some 57, op := Op.call { callee := Callee.value (Operand.func 23), args := #[Operand.tmp 52, Operand.tmp 56], argTypes := #[72, 3] }, type := 0, pos := _, after := #[{ on := 1, ground := Ground.data }, { on := 5, ground := Ground.data }], guard := none }) (by kernel_rfl) rfl (fun K' hK => ?_)
            rw [if_pos (by rfl)]
            go_simp
            refine (HO3.out.count (off := 19) (m := 6) (by omega) HKB.out e.fk).mono ?_
            rintro r w4 ⟨rfl, o4, t4⟩
            have HO4 := hid o4
            have HB4 := hid (ib_keep HB3.out t4 (by simp; have := HLT.out; omega))
            have S4 : w4.cell? ⟨wr.heap.size, 10, none⟩ = some (.int .i64 e.fk) := HB4.out.c10
            clear o4 t4 HO3 HB3
            refine hK.out _ _ S4 ?_
            clear hK
            try simp only [Go.Act.put, List.setIfInBounds_toArray, List.set_cons_zero, List.set_cons_succ]
            refine wpAnyH_done (by kernel_rfl) ?_ _
            have HMR := hid HO4.out.mr
            obtain ⟨c0, c1, c2, c3, c4, c5, c6, c7, c8, c9, c10, c11, c12⟩ := HB4.out
            go_wp2_with (at_delete; refine wpList_kdel (c := KI) _ rfl _ _ 60 rfl 102 Try.underlying60 (w.heap.size + 1 + 1 + 1) s.R.length (mem s.R) rfl HMR.out e.ru rfl HE.out.ru ?_; intro ob hM; rw [kdel_without, ← del_len HI.out.nd] at hM; have HO5 := hid (HO4.out.runs (touch_setBlock (Touch.refl _ _) (Or.inl (by simp)) ob) hM); clear hM)
            go_roundw
            case rel => exact ⟨j + 1, rfl, by omega, hid (by rw [HSN.out]; exact by rw [HS5.out]; exact HO5.out)⟩
            case measure => simp [intOf]; omega
          · have hk5 : (e.kd == 5) = false := by simpa using hkd5
            have HS0 := hid (show oS s e = ⟨k1 s e, s.K, s.R⟩ from (if_neg hkd).trans ((if_neg hkd2).trans (if_neg hkd5)))
            go_wp2_with (refine wpList_st1 rfl _ _ rfl (w.heap.size + 1) k (z + 1) z rfl rfl hz hf ?_; intro w2 hw2; obtain ⟨o2, b2⟩ := HST.out _ hw2; have HO2 := hid o2; have HB2 := hid b2; clear hw2 o2 hz hf HST; obtain ⟨c0, c1, c2, c3, c4, c5, c6, c7, c8, c9, c10, c11, c12⟩ := b2; try rw [hkd] at c1)
            go_roundw
            case rel => exact ⟨j + 1, rfl, by omega, hid (by rw [HSN.out]; exact by rw [HS0.out]; exact HO2.out)⟩
            case measure => simp [intOf]; omega
    · have e1 : j = n := by omega
      subst e1
      have HO := HJ.out
      rw [← HN.out, List.take_length] at HO
      have HI := Oi.all L
      obtain ⟨s, hs⟩ : ∃ s, s = oL L := ⟨_, rfl⟩
      have HF := hid (show ofL L = fset s.f 25 (s.K.length : Nat) from by rw [hs]; rfl)
      rw [← hs] at HO HI
      clear hs HJ
      have c25 := HO.r3.cell (i := 25) (by omega)
      have f25 := HO.r3.froz 25
      rw [HI.k0] at c25
      have HMK := hid HO.mks
      have HO1 := hid HO
      have hkl := HI.kl
      rw [HN.out] at hkl
      have HFI := hid (show ∀ w2, w2 = wr.setCell ⟨w.heap.size + 1, 25, none⟩ (.int .i64 (s.K.length : Nat)) → Row w2 (w.heap.size + 1) 27 (ofL L) 28 ∧ Row w2 w.heap.size 27 z0 28 ∧ Touch [] w w2 from fun w2 hw2 => by
        have t2 : Touch [w.heap.size + 1] wr w2 := by rw [hw2]; exact (Touch.refl _ _).setCell (Or.inl (by simp)) _
        have o2 := HO1.out.row t2 (by rw [hw2]; exact HO1.out.r3.set (i := 25) (by omega) _)
        exact ⟨by rw [HF.out]; exact o2.r3, o2.r2, o2.t⟩)
      clear HO HI HF
      generalize hKL : s.K.length = kl at *
      go_wp2_with (first | (at_len; refine wpList_klen (c := KC) _ rfl _ 58 rfl 102 Try.underlying58 (w.heap.size + 1 + 1) kl (mem s.K) rfl HMK.out ?_) | (refine wpList_st1 rfl _ _ rfl (w.heap.size + 1) 25 (kl : Int) 0 rfl rfl c25 f25 ?_; intro w2 hw2; have HO2 := hid (HFI.out _ hw2); clear hw2 c25 f25) | (refine wpList_loadT big28 rfl _ rfl (w.heap.size + 1) (ic 27 (ofL L)) 28 (0, 0) rfl HO2.out.1 (ic_size _ _) ?_) | (refine wpList_storeT big28 rfl _ _ rfl w.heap.size (ic 27 z0) (ic 27 (ofL L)) 28 rfl rfl HO2.out.2.1 (ic_size _ _) (ic_size _ _) ic_one ?_; intro w3 h3 t3 s3; have H3 := hid h3; have T3 := hid (HO2.out.2.2.trans t3 (fun i hi => Or.inr (by simp at hi; omega))); clear h3 t3 s3))
      exact bodyPost_ret (v := .agg (ic 27 (ofL L))) (res_cell (fn := Try.f8) (p := 2) rfl big28 _ rfl H3.out (ic_size _ _)) rfl ⟨rfl, T3.out⟩
end Go.Proofs.Ytibgfkjhohgkhaa.Ty
