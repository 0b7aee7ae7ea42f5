/- The law's one: the end. -/
import Derived.Test.YtaikleaiofpebaaOnb
namespace Go.Proofs.Ytaikleaiofpebaa
open Go.RowKit Go.Maps Go.ChangeMaps
set_option linter.unusedVariables false
set_option linter.unusedSimpArgs false
theorem Un.down {w w' : World} {u u' : Value} (h : Un w' u u') (T : Touch [] w w') : Un w u u' := h.elim Or.inl (fun h => Or.inr (fun q hq => Nat.le_trans T.size (h q hq)))
theorem rd_n {w : World} {a : Option Addr} {n c : Nat} {xs : List Int} (h : Rd w (.slice a n c) xs) : n = xs.length := by
  obtain ⟨a', c', e, _⟩ := h
  cases e
  rfl
theorem Tv.form {B : Nat} {w : World} {v : Value} {xs : List Int} {o : O} (h : Tv B w v xs o) : ∃ a c, v = .slice a xs.length c := by
  obtain ⟨a, c, e, _⟩ := h
  exact ⟨a, c, e⟩
structure RR (w2 Y : World) (u u' v : Value) (xs ys : List Int) : Prop where
  r1 : Rd Y u' xs
  r2 : Un w2 u u'
  r3 : Rd Y v ys
theorem RR.keep {w2 Y Y' : World} {u u' v : Value} {xs ys : List Int} (h : RR w2 Y u u' v xs ys) (T : Touch [] Y Y') : RR w2 Y' u u' v xs ys := ⟨h.r1.keep0 T, h.r2, h.r3.keep0 T⟩
theorem Rd.box {w w' : World} {v : Value} {xs : List Int} {C : Nat} {cs : Array Value} {k : TypeId} (h : Rd w v xs) (T : Touch [C] w w') (hC : w.heap[C]? = some (.cells cs k (0, 0))) (hk : k ≠ 3) : Rd w' v xs := by
  refine h.keepN T (fun hx b hb e => ?_)
  simp only [List.mem_singleton] at e
  subst e
  obtain ⟨a, c, rfl, h1, h2, h0, h3⟩ := h
  rcases h3 with q | ⟨b', cur, _, z, rfl, hb', _⟩
  · exact hx q
  · simp only [Value.ownBlock, Option.some.injEq] at hb
    subst hb
    rw [hC] at hb'
    simp only [Option.some.injEq, Obj.cells.injEq] at hb'
    exact hk hb'.2.1
theorem RR.set {w2 Y Y' : World} {u u' v : Value} {xs ys : List Int} {C : Nat} {cs : Array Value} (h : RR w2 Y u u' v xs ys) (T : Touch [C] Y Y') (hC : Y.heap[C]? = some (.cells cs 39 (0, 0))) : RR w2 Y' u u' v xs ys := ⟨h.r1.box T hC (by decide), h.r2, h.r3.box T hC (by decide)⟩
theorem endL_len (S : St) (o : O) : (endL S o).length ≤ S.who.length := by
  unfold endL
  split <;> simp
set_option maxHeartbeats 4000000 in
set_option maxRecDepth 100000 in
theorem one7_end (w : World) (b N : Nat) (F : List Nat) (R : Rn) (S : St) (u : Value) (ac : ActR) (h : Rq w b F R S N) (hu : Rd w u S.who) (ap : Ap S.who u F) (hN : N + 1 ≤ 3000000000000) (ha : WfA ac) (hk : ac.kd = 3) : Calls Try.prog 7 #[PT b, dv u S, av ac] w fun e w' => OnE e w w' F R (endS S ac.o) N := by
  obtain ⟨a0, cp0, rfl, _, _⟩ := hu.form
  have hle : S.who.length ≤ 3000000000000 := Nat.le_trans h.wlen (by omega)
  have HLE : Hid ((endL S ac.o).length ≤ 3000000000000) := hid (Nat.le_trans (endL_len S ac.o) hle)
  obtain ⟨V, hV⟩ : ∃ V, V = ((w.alloc (.cells (dc (.slice a0 S.who.length cp0) S) 39)).alloc (.cells (ca ac) 46)).alloc (.cells z39 39) := ⟨_, rfl⟩
  obtain ⟨tv, hsz, hb0, hb1, hb2⟩ := boxA w (.slice a0 S.who.length cp0) S ac V hV
  have hlt := h.lt
  have nF : ∀ i, w.heap.size ≤ i → ¬ i ∈ F := fun i hi e => by have := hlt i e; omega
  have HP := hid (end11 V b N F R S (h.keep0 tv) (by omega) ac.o)
  unfold EnE RqE at HP
  have HA : Hid (∀ w2, Touch F V w2 → w2.heap[w.heap.size]? = some (.cells (dc (.slice a0 S.who.length cp0) S) 39 (0, 0)) ∧ w2.heap[w.heap.size + 1]? = some (.cells (ca ac) 46 (0, 0)) ∧ Rd w2 (.slice a0 S.who.length cp0) S.who) := fun w2 T =>
    ⟨T.keep hb0 (nF _ (Nat.le_refl _)), T.keep hb1 (nF _ (by omega)), (hu.keep0 tv).keepN T (fun hx q hq => ap hx q hq)⟩
  have HB : Hid (∀ w2, Touch F V w2 → w2.heap[w.heap.size + 1 + 1]? = some (.cells z39 39 (0, 0))) := fun w2 T => T.keep hb2 (nF _ (by omega))
  have HD0 : Hid (∀ w2, Rd w2 (.slice a0 S.who.length cp0) S.who → Calls Try.prog 25 #[dv (.slice a0 S.who.length cp0) S, ov ac.o] w2 fun e w3 => ReE e w2 w3 (.slice a0 S.who.length cp0) S ac.o) := fun w2 r => rend25 w2 _ S r ac.o
  have H26 : Hid (∀ w2, Calls Try.prog 26 #[ov ac.o] w2 fun e w' => e = .returned (ov ac.o) ∧ Touch [] w2 w') := fun w2 => outcome26 w2 ac.o
  unfold ReE at HD0
  have HFN : Hid (∀ w2 F2 w3 u' W4 W5, Rq w2 b F2 R (endS S ac.o) N → Touch F V w2 → Nf V F F2 → Rd w3 u' (endS S ac.o).who → Un w2 (.slice a0 S.who.length cp0) u' → Touch [] w2 w3 → Touch [] w3 W4 → Touch [w.heap.size + 1 + 1] W4 W5 → OnQ w W5 F R (endS S ac.o) N b u') := fun w2 F2 w3 u' W4 W5 x1 x2 x3 x4 x5 x6 x7 x8 => on_fin h hu ap tv (by omega) (by omega) x1 (by omega) x2 x3 x4 x5 x6 x7 x8
  have HB2 := hid hsz
  have y0 := cell_at (j := 0) (v := .int .i64 ac.kd) hb1 rfl
  have y2 := cell_at (j := 2) (v := .int .i64 ac.o.1) hb1 rfl
  have y3 := cell_at (j := 3) (v := .int .i64 ac.o.2.1) hb1 rfl
  have y4 := cell_at (j := 4) (v := .int .i64 ac.o.2.2.1) hb1 rfl
  have y5 := cell_at (j := 5) (v := .int .i64 ac.o.2.2.2) hb1 rfl
  rw [hk] at y0
  clear h hu ap hle tv hsz hb0 hb1 hb2 hlt nF ha hN
  obtain ⟨T, hT⟩ : ∃ T, T = endS S ac.o := ⟨_, rfl⟩
  have HTT := hid hT
  rw [← hT] at HP HD0 HFN ⊢
  clear hT
  generalize endE S ac.o = E at *
  generalize endL S ac.o = L at *
  unfold PT at *
  unfold av
  unfold dv dc
  unfold dv dc at HD0
  unfold ov at HP HD0 H26
  unfold dc ca z39 at hV
  rw [hk] at hV ⊢
  have HK := hid hk
  clear hk
  go_enter Try.func7, Try.ntmps7
  go_upto_region 1 with fail
  rw [← hV]
  clear hV
  go_upto_region 16 with (go_at_call 11; refine HP.out.mono ?_; rintro e w2 ⟨v7, rfl, q0, F2, q1, q2, q3⟩; obtain ⟨a7, c7, rfl⟩ := q0.form; have Q0 := hid q0; have Q1 := hid q1; have Q2 := hid (And.intro q2 q3); clear q0 q1 q2 q3)
  have hA := (HA.out w2 Q2.out.1).1
  have hO := (HA.out w2 Q2.out.1).2.1
  have HRU : Hid (∀ w', Touch [] w2 w' → Rd w' (.slice a0 S.who.length cp0) S.who) := fun w' X => (HA.out w2 Q2.out.1).2.2.keep0 X
  have HAA : ∀ w', Touch [] w2 w' → Dcs w' w.heap.size (.slice a0 S.who.length cp0) S := fun w' X => dcs_at (X.keep hA (by simp))
  have HOO : ∀ w', Touch [] w2 w' → w'.heap[w.heap.size + 1]? = some (.cells (ca ac) 46 (0, 0)) := fun w' X => X.keep hO (by simp)
  have A0 := fun w' X => (HAA w' X).c0
  have A1 := fun w' X => (HAA w' X).c1
  have A2 := fun w' X => (HAA w' X).c2
  have A3 := fun w' X => (HAA w' X).c3
  have A4 := fun w' X => (HAA w' X).c4
  have A5 := fun w' X => (HAA w' X).c5
  have A6 := fun w' X => (HAA w' X).c6
  have A7 := fun w' X => (HAA w' X).c7
  have O0 := fun w' X => cell_at (j := 2) (v := .int .i64 ac.o.1) (HOO w' X) rfl
  have O1 := fun w' X => cell_at (j := 3) (v := .int .i64 ac.o.2.1) (HOO w' X) rfl
  have O2 := fun w' X => cell_at (j := 4) (v := .int .i64 ac.o.2.2.1) (HOO w' X) rfl
  have O3 := fun w' X => cell_at (j := 5) (v := .int .i64 ac.o.2.2.2) (HOO w' X) rfl
  have HD := HD0
  clear HD0 HAA HOO hA hO HA y0 y2 y3 y4 y5 HP
  go_cut [22, 23, 24] from 97 to 105 (fun s22 s23 s24 wx => ∃ C a5 n5 cp5 a6 c6, s22 = .pointer (some ⟨C, 0, none⟩) ∧ s23 = .slice a6 L.length c6 ∧ s24 = .int .i64 E ∧ Hid (w2.heap.size ≤ C ∧ wx.heap[C]? = some (.cells (dc (.slice a5 n5 cp5) T) 39 (0, 0)) ∧ RR w2 wx (.slice a0 S.who.length cp0) (.slice a5 n5 cp5) (.slice a6 L.length c6) T.who L ∧ Touch [] w2 wx))
  case first =>
    refine wp_region_H (S := fun w' => Touch [] w2 w') (by kernel_rfl) ?_
    obtain ⟨Y0, eY0⟩ : ∃ Y, Y = w2.drew := ⟨_, rfl⟩
    rw [← eY0]
    have hY0 : Touch [] w2 Y0 := by rw [eY0]; exact (Touch.refl _ _).drew
    clear eY0
    refine wpH_take (i := 0) (v := (.agg #[.slice a0 S.who.length cp0, .bool S.kept, .bool S.canc, .bool S.ended, .int .i64 S.out.1, .int .i64 S.out.2.1, .int .i64 S.out.2.2.1, .int .i64 S.out.2.2.2])) (some 98) rfl rfl (by kernel_rfl) (by kernel_rfl) (by kernel_rfl) (fun _ _ _ h => h) (Or.inl ⟨by rfl, fun w' hS => (by have z0 := A0 _ hS; have z1 := A1 _ hS; have z2 := A2 _ hS; have z3 := A3 _ hS; have z4 := A4 _ hS; have z5 := A5 _ hS; have z6 := A6 _ hS; have z7 := A7 _ hS; go_simp)⟩) hY0 ?_
    try simp only [Go.Act.put, List.setIfInBounds_toArray, List.set_cons_zero, List.set_cons_succ]
    refine wpH_take (i := 1) (v := (.pointer (some ⟨w.heap.size + 1, 2, none⟩))) (some 99) rfl rfl (by kernel_rfl) (by kernel_rfl) (by kernel_rfl) (fun _ _ _ h => h) (Or.inl ⟨by rfl, fun w' hS => (by go_simp)⟩) hY0 ?_
    try simp only [Go.Act.put, List.setIfInBounds_toArray, List.set_cons_zero, List.set_cons_succ]
    refine wpH_take (i := 2) (v := (.agg #[.int .i64 ac.o.1, .int .i64 ac.o.2.1, .int .i64 ac.o.2.2.1, .int .i64 ac.o.2.2.2])) (some 100) rfl rfl (by kernel_rfl) (by kernel_rfl) (by kernel_rfl) (fun _ _ _ h => h) (Or.inl ⟨by rfl, fun w' hS => (by have z0 := O0 _ hS; have z1 := O1 _ hS; have z2 := O2 _ hS; have z3 := O3 _ hS; go_simp)⟩) hY0 ?_
    try simp only [Go.Act.put, List.setIfInBounds_toArray, List.set_cons_zero, List.set_cons_succ]
    refine wpH_ready (rs := [3, 9]) (by kernel_rfl) (by simp) ?_
    refine AllH.cons (o := { dst := some 101, op := Op.call { callee := Callee.value (Operand.func 26), args := #[Operand.tmp 100], argTypes := #[44] }, type := 37, pos := _, after := #[{ on := 2, ground := Ground.data }], guard := none }) rfl (fun K' hK => ?_) ?_
    · rw [if_pos (by rfl)]
      go_simp
      refine (H26.out _).mono ?_
      rintro e' Y1 ⟨rfl, gY1⟩
      have hY1 := hY0.trans' gY1
      refine hK.out _ _ hY1 ?_
      clear hK
      try simp only [Go.Act.put, List.setIfInBounds_toArray, List.set_cons_zero, List.set_cons_succ]
      refine wpH_ready (rs := [4, 9]) (by kernel_rfl) (by simp) ?_
      refine AllH.cons (o := { dst := some 102, op := Op.call { callee := Callee.value (Operand.func 25), args := #[Operand.tmp 98, Operand.tmp 101], argTypes := #[39, 37] }, type := 77, pos := _, after := #[{ on := 0, ground := Ground.data }, { on := 3, ground := Ground.data }, { on := 3, ground := Ground.chain }], guard := none }) rfl (fun K' hK => ?_) ?_
      · rw [if_pos (by rfl)]
        go_simp
        refine (HD.out _ (HRU.out _ hY1)).mono ?_
        rintro e' Y2 ⟨u5, a6, n6, c6, rfl, r1, r2, r3, gY2⟩
        obtain ⟨a5, n5, cp5, rfl⟩ := rd_form r1
        obtain rfl := rd_n r3
        have hY2 := hY1.trans' gY2
        have R2 : RR w2 Y2 (.slice a0 S.who.length cp0) (.slice a5 n5 cp5) (.slice a6 L.length c6) T.who L := ⟨r1, r2.down hY1, r3⟩
        clear r1 r2 r3
        refine hK.out _ _ hY2 ?_
        clear hK
        try simp only [Go.Act.put, List.setIfInBounds_toArray, List.set_cons_zero, List.set_cons_succ]
        refine wpH_take (i := 5) (v := (.tuple #[(.agg #[.slice a5 n5 cp5, .bool T.kept, .bool T.canc, .bool T.ended, .int .i64 T.out.1, .int .i64 T.out.2.1, .int .i64 T.out.2.2.1, .int .i64 T.out.2.2.2]), (.slice a6 L.length c6), (.int .i64 E)])) (some 97) rfl rfl (by kernel_rfl) (by kernel_rfl) (by kernel_rfl) (fun _ _ _ h => h) (Or.inl ⟨by rfl, fun w' hS => (by go_simp)⟩) hY2 ?_
        try simp only [Go.Act.put, List.setIfInBounds_toArray, List.set_cons_zero, List.set_cons_succ]
        refine wpH_take (i := 6) (v := (.agg #[.slice a5 n5 cp5, .bool T.kept, .bool T.canc, .bool T.ended, .int .i64 T.out.1, .int .i64 T.out.2.1, .int .i64 T.out.2.2.1, .int .i64 T.out.2.2.2])) (some 103) rfl rfl (by kernel_rfl) (by kernel_rfl) (by kernel_rfl) (fun _ _ _ h => h) (Or.inl ⟨by rfl, fun w' hS => (by go_simp)⟩) hY2 ?_
        try simp only [Go.Act.put, List.setIfInBounds_toArray, List.set_cons_zero, List.set_cons_succ]
        refine wpH_take (i := 7) (v := (.slice a6 L.length c6)) (some 104) rfl rfl (by kernel_rfl) (by kernel_rfl) (by kernel_rfl) (fun _ _ _ h => h) (Or.inl ⟨by rfl, fun w' hS => (by go_simp)⟩) hY2 ?_
        try simp only [Go.Act.put, List.setIfInBounds_toArray, List.set_cons_zero, List.set_cons_succ]
        refine wpH_take (i := 8) (v := (.int .i64 E)) (some 105) rfl rfl (by kernel_rfl) (by kernel_rfl) (by kernel_rfl) (fun _ _ _ h => h) (Or.inl ⟨by rfl, fun w' hS => (by go_simp)⟩) hY2 ?_
        try simp only [Go.Act.put, List.setIfInBounds_toArray, List.set_cons_zero, List.set_cons_succ]
        refine wpH_call (i := 9) (o := { dst := some 22, op := Op.alloc 39, type := 0, pos := _, after := #[], guard := none }) (by kernel_rfl) rfl (fun K' hK => ?_)
        rw [if_pos (by rfl)]
        go_simp
        refine hK.out _ _ (hY2.alloc _) ?_
        clear hK
        try simp only [Go.Act.put, List.setIfInBounds_toArray, List.set_cons_zero, List.set_cons_succ]
        obtain ⟨Y3, eY3⟩ : ∃ Y, Y = Y2.alloc (.cells #[.slice none 0 0, .bool false, .bool false, .bool false, .int .i64 0, .int .i64 0, .int .i64 0, .int .i64 0] 39) := ⟨_, rfl⟩
        rw [← eY3]
        have hY3 : Touch [] w2 Y3 := by rw [eY3]; exact hY2.alloc _
        have gY3 : Touch [] Y2 Y3 := by rw [eY3]; exact (Touch.refl _ _).alloc _
        have C3 : Y3.heap[Y2.heap.size]? = some (.cells z39 39 (0, 0)) := by rw [eY3]; exact heap_alloc_new _ _
        have LC3 : w2.heap.size ≤ Y2.heap.size := hY2.size
        have R3 := RR.keep R2 gY3
        clear eY3
        refine wpH_call (i := 10) (o := { dst := none, op := Op.store 39 (Operand.tmp 22) (Operand.tmp 103), type := 0, pos := _, after := #[{ on := 9, ground := Ground.data }, { on := 6, ground := Ground.data }, { on := 4, ground := Ground.chain }, { on := 0, ground := Ground.phase }, { on := 1, ground := Ground.phase }, { on := 2, ground := Ground.phase }, { on := 3, ground := Ground.phase }, { on := 4, ground := Ground.phase }, { on := 5, ground := Ground.phase }, { on := 6, ground := Ground.phase }, { on := 7, ground := Ground.textOnly Departure.lateStores }, { on := 8, ground := Ground.textOnly Departure.lateStores }, { on := 9, ground := Ground.phase }], guard := none }) (by kernel_rfl) rfl (fun K' hK => ?_)
        rw [if_pos (by rfl)]
        obtain ⟨x0, x1, x2, x3, x4, x5, x6, x7⟩ := dcs_at (S := Sz) (u := .slice none 0 0) C3
        have xf := froz_at C3
        unfold Sz oz at x1 x2 x3 x4 x5 x6 x7
        simp only at x1 x2 x3 x4 x5 x6 x7
        go_simp
        refine hK.out _ _ ((((((((hY3.setCell (Or.inr LC3) _).setCell (Or.inr LC3) _).setCell (Or.inr LC3) _).setCell (Or.inr LC3) _).setCell (Or.inr LC3) _).setCell (Or.inr LC3) _).setCell (Or.inr LC3) _).setCell (Or.inr LC3) _) ?_
        clear hK
        try simp only [Go.Act.put, List.setIfInBounds_toArray, List.set_cons_zero, List.set_cons_succ]
        obtain ⟨Y4, eY4⟩ : ∃ Y, Y = ((((((((Y3.setCell ⟨Y2.heap.size, 0, none⟩ (.slice a5 n5 cp5)).setCell ⟨Y2.heap.size, 1, none⟩ (.bool T.kept)).setCell ⟨Y2.heap.size, 2, none⟩ (.bool T.canc)).setCell ⟨Y2.heap.size, 3, none⟩ (.bool T.ended)).setCell ⟨Y2.heap.size, 4, none⟩ (.int .i64 T.out.1)).setCell ⟨Y2.heap.size, 5, none⟩ (.int .i64 T.out.2.1)).setCell ⟨Y2.heap.size, 6, none⟩ (.int .i64 T.out.2.2.1)).setCell ⟨Y2.heap.size, 7, none⟩ (.int .i64 T.out.2.2.2)) := ⟨_, rfl⟩
        rw [← eY4]
        have hY4 : Touch [] w2 Y4 := by rw [eY4]; exact ((((((((hY3.setCell (Or.inr LC3) _).setCell (Or.inr LC3) _).setCell (Or.inr LC3) _).setCell (Or.inr LC3) _).setCell (Or.inr LC3) _).setCell (Or.inr LC3) _).setCell (Or.inr LC3) _).setCell (Or.inr LC3) _)
        have gY4 : Touch [Y2.heap.size] Y3 Y4 := by rw [eY4]; exact (((((((((Touch.refl _ _).setCell (Or.inl (by simp)) _).setCell (Or.inl (by simp)) _).setCell (Or.inl (by simp)) _).setCell (Or.inl (by simp)) _).setCell (Or.inl (by simp)) _).setCell (Or.inl (by simp)) _).setCell (Or.inl (by simp)) _).setCell (Or.inl (by simp)) _)
        have C4 : Y4.heap[Y2.heap.size]? = some (.cells (dc (.slice a5 n5 cp5) T) 39 (0, 0)) := by rw [eY4]; exact (bset (bset (bset (bset (bset (bset (bset (bset C3 _) _) _) _) _) _) _) _)
        have R4 := RR.set R3 gY4 C3
        clear eY4 x0 x1 x2 x3 x4 x5 x6 x7 xf
        refine wpH_take (i := 11) (v := (.slice a6 L.length c6)) (some 23) rfl rfl (by kernel_rfl) (by kernel_rfl) (by kernel_rfl) (fun _ _ _ h => h) (Or.inl ⟨by rfl, fun w' hS => (by go_simp)⟩) hY4 ?_
        try simp only [Go.Act.put, List.setIfInBounds_toArray, List.set_cons_zero, List.set_cons_succ]
        refine wpH_take (i := 12) (v := (.int .i64 E)) (some 24) rfl rfl (by kernel_rfl) (by kernel_rfl) (by kernel_rfl) (fun _ _ _ h => h) (Or.inl ⟨by rfl, fun w' hS => (by go_simp)⟩) hY4 ?_
        try simp only [Go.Act.put, List.setIfInBounds_toArray, List.set_cons_zero, List.set_cons_succ]
        refine wpAnyH_done (by kernel_rfl) ?_ _
        go_wp2_with fail
        go_meet
        case rel => exact ⟨_, _, _, _, _, _, rfl, rfl, rfl, hid ⟨LC3, C4, R4, hY4⟩⟩
      refine AllH.cons (o := { dst := some 22, op := Op.alloc 39, type := 0, pos := _, after := #[], guard := none }) rfl (fun K' hK => ?_) ?_
      · rw [if_pos (by rfl)]
        go_simp
        refine hK.out _ _ (hY1.alloc _) ?_
        clear hK
        try simp only [Go.Act.put, List.setIfInBounds_toArray, List.set_cons_zero, List.set_cons_succ]
        obtain ⟨Y5, eY5⟩ : ∃ Y, Y = Y1.alloc (.cells #[.slice none 0 0, .bool false, .bool false, .bool false, .int .i64 0, .int .i64 0, .int .i64 0, .int .i64 0] 39) := ⟨_, rfl⟩
        rw [← eY5]
        have hY5 : Touch [] w2 Y5 := by rw [eY5]; exact hY1.alloc _
        have gY5 : Touch [] Y1 Y5 := by rw [eY5]; exact (Touch.refl _ _).alloc _
        have C5 : Y5.heap[Y1.heap.size]? = some (.cells z39 39 (0, 0)) := by rw [eY5]; exact heap_alloc_new _ _
        have LC5 : w2.heap.size ≤ Y1.heap.size := hY1.size
        clear eY5
        refine wpH_call (i := 4) (o := { dst := some 102, op := Op.call { callee := Callee.value (Operand.func 25), args := #[Operand.tmp 98, Operand.tmp 101], argTypes := #[39, 37] }, type := 77, pos := _, after := #[{ on := 0, ground := Ground.data }, { on := 3, ground := Ground.data }, { on := 3, ground := Ground.chain }], guard := none }) (by kernel_rfl) rfl (fun K' hK => ?_)
        rw [if_pos (by rfl)]
        go_simp
        refine (HD.out _ (HRU.out _ hY5)).mono ?_
        rintro e' Y6 ⟨u5, a6, n6, c6, rfl, r1, r2, r3, gY6⟩
        obtain ⟨a5, n5, cp5, rfl⟩ := rd_form r1
        obtain rfl := rd_n r3
        have hY6 := hY5.trans' gY6
        have R6 : RR w2 Y6 (.slice a0 S.who.length cp0) (.slice a5 n5 cp5) (.slice a6 L.length c6) T.who L := ⟨r1, r2.down hY5, r3⟩
        clear r1 r2 r3
        refine hK.out _ _ hY6 ?_
        clear hK
        try simp only [Go.Act.put, List.setIfInBounds_toArray, List.set_cons_zero, List.set_cons_succ]
        have C6 := gY6.keep C5 (by simp)
        refine wpH_take (i := 5) (v := (.tuple #[(.agg #[.slice a5 n5 cp5, .bool T.kept, .bool T.canc, .bool T.ended, .int .i64 T.out.1, .int .i64 T.out.2.1, .int .i64 T.out.2.2.1, .int .i64 T.out.2.2.2]), (.slice a6 L.length c6), (.int .i64 E)])) (some 97) rfl rfl (by kernel_rfl) (by kernel_rfl) (by kernel_rfl) (fun _ _ _ h => h) (Or.inl ⟨by rfl, fun w' hS => (by go_simp)⟩) hY6 ?_
        try simp only [Go.Act.put, List.setIfInBounds_toArray, List.set_cons_zero, List.set_cons_succ]
        refine wpH_take (i := 6) (v := (.agg #[.slice a5 n5 cp5, .bool T.kept, .bool T.canc, .bool T.ended, .int .i64 T.out.1, .int .i64 T.out.2.1, .int .i64 T.out.2.2.1, .int .i64 T.out.2.2.2])) (some 103) rfl rfl (by kernel_rfl) (by kernel_rfl) (by kernel_rfl) (fun _ _ _ h => h) (Or.inl ⟨by rfl, fun w' hS => (by go_simp)⟩) hY6 ?_
        try simp only [Go.Act.put, List.setIfInBounds_toArray, List.set_cons_zero, List.set_cons_succ]
        refine wpH_take (i := 7) (v := (.slice a6 L.length c6)) (some 104) rfl rfl (by kernel_rfl) (by kernel_rfl) (by kernel_rfl) (fun _ _ _ h => h) (Or.inl ⟨by rfl, fun w' hS => (by go_simp)⟩) hY6 ?_
        try simp only [Go.Act.put, List.setIfInBounds_toArray, List.set_cons_zero, List.set_cons_succ]
        refine wpH_take (i := 8) (v := (.int .i64 E)) (some 105) rfl rfl (by kernel_rfl) (by kernel_rfl) (by kernel_rfl) (fun _ _ _ h => h) (Or.inl ⟨by rfl, fun w' hS => (by go_simp)⟩) hY6 ?_
        try simp only [Go.Act.put, List.setIfInBounds_toArray, List.set_cons_zero, List.set_cons_succ]
        refine wpH_call (i := 10) (o := { dst := none, op := Op.store 39 (Operand.tmp 22) (Operand.tmp 103), type := 0, pos := _, after := #[{ on := 9, ground := Ground.data }, { on := 6, ground := Ground.data }, { on := 4, ground := Ground.chain }, { on := 0, ground := Ground.phase }, { on := 1, ground := Ground.phase }, { on := 2, ground := Ground.phase }, { on := 3, ground := Ground.phase }, { on := 4, ground := Ground.phase }, { on := 5, ground := Ground.phase }, { on := 6, ground := Ground.phase }, { on := 7, ground := Ground.textOnly Departure.lateStores }, { on := 8, ground := Ground.textOnly Departure.lateStores }, { on := 9, ground := Ground.phase }], guard := none }) (by kernel_rfl) rfl (fun K' hK => ?_)
        rw [if_pos (by rfl)]
        obtain ⟨x0, x1, x2, x3, x4, x5, x6, x7⟩ := dcs_at (S := Sz) (u := .slice none 0 0) C6
        have xf := froz_at C6
        unfold Sz oz at x1 x2 x3 x4 x5 x6 x7
        simp only at x1 x2 x3 x4 x5 x6 x7
        go_simp
        refine hK.out _ _ ((((((((hY6.setCell (Or.inr LC5) _).setCell (Or.inr LC5) _).setCell (Or.inr LC5) _).setCell (Or.inr LC5) _).setCell (Or.inr LC5) _).setCell (Or.inr LC5) _).setCell (Or.inr LC5) _).setCell (Or.inr LC5) _) ?_
        clear hK
        try simp only [Go.Act.put, List.setIfInBounds_toArray, List.set_cons_zero, List.set_cons_succ]
        obtain ⟨Y7, eY7⟩ : ∃ Y, Y = ((((((((Y6.setCell ⟨Y1.heap.size, 0, none⟩ (.slice a5 n5 cp5)).setCell ⟨Y1.heap.size, 1, none⟩ (.bool T.kept)).setCell ⟨Y1.heap.size, 2, none⟩ (.bool T.canc)).setCell ⟨Y1.heap.size, 3, none⟩ (.bool T.ended)).setCell ⟨Y1.heap.size, 4, none⟩ (.int .i64 T.out.1)).setCell ⟨Y1.heap.size, 5, none⟩ (.int .i64 T.out.2.1)).setCell ⟨Y1.heap.size, 6, none⟩ (.int .i64 T.out.2.2.1)).setCell ⟨Y1.heap.size, 7, none⟩ (.int .i64 T.out.2.2.2)) := ⟨_, rfl⟩
        rw [← eY7]
        have hY7 : Touch [] w2 Y7 := by rw [eY7]; exact ((((((((hY6.setCell (Or.inr LC5) _).setCell (Or.inr LC5) _).setCell (Or.inr LC5) _).setCell (Or.inr LC5) _).setCell (Or.inr LC5) _).setCell (Or.inr LC5) _).setCell (Or.inr LC5) _).setCell (Or.inr LC5) _)
        have gY7 : Touch [Y1.heap.size] Y6 Y7 := by rw [eY7]; exact (((((((((Touch.refl _ _).setCell (Or.inl (by simp)) _).setCell (Or.inl (by simp)) _).setCell (Or.inl (by simp)) _).setCell (Or.inl (by simp)) _).setCell (Or.inl (by simp)) _).setCell (Or.inl (by simp)) _).setCell (Or.inl (by simp)) _).setCell (Or.inl (by simp)) _)
        have C7 : Y7.heap[Y1.heap.size]? = some (.cells (dc (.slice a5 n5 cp5) T) 39 (0, 0)) := by rw [eY7]; exact (bset (bset (bset (bset (bset (bset (bset (bset C6 _) _) _) _) _) _) _) _)
        have R7 := RR.set R6 gY7 C6
        clear eY7 x0 x1 x2 x3 x4 x5 x6 x7 xf
        refine wpH_take (i := 11) (v := (.slice a6 L.length c6)) (some 23) rfl rfl (by kernel_rfl) (by kernel_rfl) (by kernel_rfl) (fun _ _ _ h => h) (Or.inl ⟨by rfl, fun w' hS => (by go_simp)⟩) hY7 ?_
        try simp only [Go.Act.put, List.setIfInBounds_toArray, List.set_cons_zero, List.set_cons_succ]
        refine wpH_take (i := 12) (v := (.int .i64 E)) (some 24) rfl rfl (by kernel_rfl) (by kernel_rfl) (by kernel_rfl) (fun _ _ _ h => h) (Or.inl ⟨by rfl, fun w' hS => (by go_simp)⟩) hY7 ?_
        try simp only [Go.Act.put, List.setIfInBounds_toArray, List.set_cons_zero, List.set_cons_succ]
        refine wpAnyH_done (by kernel_rfl) ?_ _
        go_wp2_with fail
        go_meet
        case rel => exact ⟨_, _, _, _, _, _, rfl, rfl, rfl, hid ⟨LC5, C7, R7, hY7⟩⟩
      exact AllH.nil
    refine AllH.cons (o := { dst := some 22, op := Op.alloc 39, type := 0, pos := _, after := #[], guard := none }) rfl (fun K' hK => ?_) ?_
    · rw [if_pos (by rfl)]
      go_simp
      refine hK.out _ _ (hY0.alloc _) ?_
      clear hK
      try simp only [Go.Act.put, List.setIfInBounds_toArray, List.set_cons_zero, List.set_cons_succ]
      obtain ⟨Y8, eY8⟩ : ∃ Y, Y = Y0.alloc (.cells #[.slice none 0 0, .bool false, .bool false, .bool false, .int .i64 0, .int .i64 0, .int .i64 0, .int .i64 0] 39) := ⟨_, rfl⟩
      rw [← eY8]
      have hY8 : Touch [] w2 Y8 := by rw [eY8]; exact hY0.alloc _
      have gY8 : Touch [] Y0 Y8 := by rw [eY8]; exact (Touch.refl _ _).alloc _
      have C8 : Y8.heap[Y0.heap.size]? = some (.cells z39 39 (0, 0)) := by rw [eY8]; exact heap_alloc_new _ _
      have LC8 : w2.heap.size ≤ Y0.heap.size := hY0.size
      clear eY8
      refine wpH_call (i := 3) (o := { dst := some 101, op := Op.call { callee := Callee.value (Operand.func 26), args := #[Operand.tmp 100], argTypes := #[44] }, type := 37, pos := _, after := #[{ on := 2, ground := Ground.data }], guard := none }) (by kernel_rfl) rfl (fun K' hK => ?_)
      rw [if_pos (by rfl)]
      go_simp
      refine (H26.out _).mono ?_
      rintro e' Y9 ⟨rfl, gY9⟩
      have hY9 := hY8.trans' gY9
      refine hK.out _ _ hY9 ?_
      clear hK
      try simp only [Go.Act.put, List.setIfInBounds_toArray, List.set_cons_zero, List.set_cons_succ]
      have C9 := gY9.keep C8 (by simp)
      refine wpH_call (i := 4) (o := { dst := some 102, op := Op.call { callee := Callee.value (Operand.func 25), args := #[Operand.tmp 98, Operand.tmp 101], argTypes := #[39, 37] }, type := 77, pos := _, after := #[{ on := 0, ground := Ground.data }, { on := 3, ground := Ground.data }, { on := 3, ground := Ground.chain }], guard := none }) (by kernel_rfl) rfl (fun K' hK => ?_)
      rw [if_pos (by rfl)]
      go_simp
      refine (HD.out _ (HRU.out _ hY9)).mono ?_
      rintro e' Y10 ⟨u5, a6, n6, c6, rfl, r1, r2, r3, gY10⟩
      obtain ⟨a5, n5, cp5, rfl⟩ := rd_form r1
      obtain rfl := rd_n r3
      have hY10 := hY9.trans' gY10
      have R10 : RR w2 Y10 (.slice a0 S.who.length cp0) (.slice a5 n5 cp5) (.slice a6 L.length c6) T.who L := ⟨r1, r2.down hY9, r3⟩
      clear r1 r2 r3
      refine hK.out _ _ hY10 ?_
      clear hK
      try simp only [Go.Act.put, List.setIfInBounds_toArray, List.set_cons_zero, List.set_cons_succ]
      have C10 := gY10.keep C9 (by simp)
      refine wpH_take (i := 5) (v := (.tuple #[(.agg #[.slice a5 n5 cp5, .bool T.kept, .bool T.canc, .bool T.ended, .int .i64 T.out.1, .int .i64 T.out.2.1, .int .i64 T.out.2.2.1, .int .i64 T.out.2.2.2]), (.slice a6 L.length c6), (.int .i64 E)])) (some 97) rfl rfl (by kernel_rfl) (by kernel_rfl) (by kernel_rfl) (fun _ _ _ h => h) (Or.inl ⟨by rfl, fun w' hS => (by go_simp)⟩) hY10 ?_
      try simp only [Go.Act.put, List.setIfInBounds_toArray, List.set_cons_zero, List.set_cons_succ]
      refine wpH_take (i := 6) (v := (.agg #[.slice a5 n5 cp5, .bool T.kept, .bool T.canc, .bool T.ended, .int .i64 T.out.1, .int .i64 T.out.2.1, .int .i64 T.out.2.2.1, .int .i64 T.out.2.2.2])) (some 103) rfl rfl (by kernel_rfl) (by kernel_rfl) (by kernel_rfl) (fun _ _ _ h => h) (Or.inl ⟨by rfl, fun w' hS => (by go_simp)⟩) hY10 ?_
      try simp only [Go.Act.put, List.setIfInBounds_toArray, List.set_cons_zero, List.set_cons_succ]
      refine wpH_take (i := 7) (v := (.slice a6 L.length c6)) (some 104) rfl rfl (by kernel_rfl) (by kernel_rfl) (by kernel_rfl) (fun _ _ _ h => h) (Or.inl ⟨by rfl, fun w' hS => (by go_simp)⟩) hY10 ?_
      try simp only [Go.Act.put, List.setIfInBounds_toArray, List.set_cons_zero, List.set_cons_succ]
      refine wpH_take (i := 8) (v := (.int .i64 E)) (some 105) rfl rfl (by kernel_rfl) (by kernel_rfl) (by kernel_rfl) (fun _ _ _ h => h) (Or.inl ⟨by rfl, fun w' hS => (by go_simp)⟩) hY10 ?_
      try simp only [Go.Act.put, List.setIfInBounds_toArray, List.set_cons_zero, List.set_cons_succ]
      refine wpH_call (i := 10) (o := { dst := none, op := Op.store 39 (Operand.tmp 22) (Operand.tmp 103), type := 0, pos := _, after := #[{ on := 9, ground := Ground.data }, { on := 6, ground := Ground.data }, { on := 4, ground := Ground.chain }, { on := 0, ground := Ground.phase }, { on := 1, ground := Ground.phase }, { on := 2, ground := Ground.phase }, { on := 3, ground := Ground.phase }, { on := 4, ground := Ground.phase }, { on := 5, ground := Ground.phase }, { on := 6, ground := Ground.phase }, { on := 7, ground := Ground.textOnly Departure.lateStores }, { on := 8, ground := Ground.textOnly Departure.lateStores }, { on := 9, ground := Ground.phase }], guard := none }) (by kernel_rfl) rfl (fun K' hK => ?_)
      rw [if_pos (by rfl)]
      obtain ⟨x0, x1, x2, x3, x4, x5, x6, x7⟩ := dcs_at (S := Sz) (u := .slice none 0 0) C10
      have xf := froz_at C10
      unfold Sz oz at x1 x2 x3 x4 x5 x6 x7
      simp only at x1 x2 x3 x4 x5 x6 x7
      go_simp
      refine hK.out _ _ ((((((((hY10.setCell (Or.inr LC8) _).setCell (Or.inr LC8) _).setCell (Or.inr LC8) _).setCell (Or.inr LC8) _).setCell (Or.inr LC8) _).setCell (Or.inr LC8) _).setCell (Or.inr LC8) _).setCell (Or.inr LC8) _) ?_
      clear hK
      try simp only [Go.Act.put, List.setIfInBounds_toArray, List.set_cons_zero, List.set_cons_succ]
      obtain ⟨Y11, eY11⟩ : ∃ Y, Y = ((((((((Y10.setCell ⟨Y0.heap.size, 0, none⟩ (.slice a5 n5 cp5)).setCell ⟨Y0.heap.size, 1, none⟩ (.bool T.kept)).setCell ⟨Y0.heap.size, 2, none⟩ (.bool T.canc)).setCell ⟨Y0.heap.size, 3, none⟩ (.bool T.ended)).setCell ⟨Y0.heap.size, 4, none⟩ (.int .i64 T.out.1)).setCell ⟨Y0.heap.size, 5, none⟩ (.int .i64 T.out.2.1)).setCell ⟨Y0.heap.size, 6, none⟩ (.int .i64 T.out.2.2.1)).setCell ⟨Y0.heap.size, 7, none⟩ (.int .i64 T.out.2.2.2)) := ⟨_, rfl⟩
      rw [← eY11]
      have hY11 : Touch [] w2 Y11 := by rw [eY11]; exact ((((((((hY10.setCell (Or.inr LC8) _).setCell (Or.inr LC8) _).setCell (Or.inr LC8) _).setCell (Or.inr LC8) _).setCell (Or.inr LC8) _).setCell (Or.inr LC8) _).setCell (Or.inr LC8) _).setCell (Or.inr LC8) _)
      have gY11 : Touch [Y0.heap.size] Y10 Y11 := by rw [eY11]; exact (((((((((Touch.refl _ _).setCell (Or.inl (by simp)) _).setCell (Or.inl (by simp)) _).setCell (Or.inl (by simp)) _).setCell (Or.inl (by simp)) _).setCell (Or.inl (by simp)) _).setCell (Or.inl (by simp)) _).setCell (Or.inl (by simp)) _).setCell (Or.inl (by simp)) _)
      have C11 : Y11.heap[Y0.heap.size]? = some (.cells (dc (.slice a5 n5 cp5) T) 39 (0, 0)) := by rw [eY11]; exact (bset (bset (bset (bset (bset (bset (bset (bset C10 _) _) _) _) _) _) _) _)
      have R11 := RR.set R10 gY11 C10
      clear eY11 x0 x1 x2 x3 x4 x5 x6 x7 xf
      refine wpH_take (i := 11) (v := (.slice a6 L.length c6)) (some 23) rfl rfl (by kernel_rfl) (by kernel_rfl) (by kernel_rfl) (fun _ _ _ h => h) (Or.inl ⟨by rfl, fun w' hS => (by go_simp)⟩) hY11 ?_
      try simp only [Go.Act.put, List.setIfInBounds_toArray, List.set_cons_zero, List.set_cons_succ]
      refine wpH_take (i := 12) (v := (.int .i64 E)) (some 24) rfl rfl (by kernel_rfl) (by kernel_rfl) (by kernel_rfl) (fun _ _ _ h => h) (Or.inl ⟨by rfl, fun w' hS => (by go_simp)⟩) hY11 ?_
      try simp only [Go.Act.put, List.setIfInBounds_toArray, List.set_cons_zero, List.set_cons_succ]
      refine wpAnyH_done (by kernel_rfl) ?_ _
      go_wp2_with fail
      go_meet
      case rel => exact ⟨_, _, _, _, _, _, rfl, rfl, rfl, hid ⟨LC8, C11, R11, hY11⟩⟩
    exact AllH.nil
  case rest =>
    obtain ⟨C, a5, n5, cp5, a6, c6, rfl, rfl, rfl, HC⟩ := hcut
    clear A0 A1 A2 A3 A4 A5 A6 A7 H26 HD HRU
    go_upto_region 20 with fail
    go_loopw [25] (fun i wr => ∃ j : Nat, i = .int .i64 (j : Nat) ∧ j ≤ L.length ∧ Hid (Touch [] wc wr)) (fun i _ => L.length - (intOf i).toNat)
    case atStart => exact ⟨0, rfl, Nat.zero_le _, hid (Touch.refl _ _)⟩
    case round =>
      obtain ⟨j, rfl, hj, HT⟩ := hrel
      by_cases hlt : j < L.length
      · have zk : (j : Int) < (L.length : Int) := by omega
        have zL : (L.length : Int) < 9223372036854775807 := by have := HLE.out; omega
        obtain ⟨x, hx⟩ : ∃ x, L[j]? = some x := ⟨_, List.getElem?_eq_getElem hlt⟩
        have HTW := hid (HC.out.2.2.2.trans' HT.out)
        obtain ⟨gu, rfl, _⟩ := (HC.out.2.2.1.r3.keep0 HT.out).at rfl hx
        have KU : ∀ w', Touch [] wr w' → w'.cell? ⟨gu, j, none⟩ = some (.int .i64 x) := fun w' X => by
          obtain ⟨g2, e2, q⟩ := ((HC.out.2.2.1.r3.keep0 HT.out).keep0 X).at rfl hx
          cases e2
          exact q
        obtain ⟨t, rfl, HTc⟩ : ∃ t, a7 = some ⟨t, 0, none⟩ ∧ ∀ w', Touch [] wr w' → ∃ cur, w'.heap[t]? = some (.cells cur 70 (0, 0)) ∧ Tc cur j x ac.o := by
          obtain ⟨a', c', e, q⟩ := Q0.out
          cases e
          rcases q with q | ⟨t, cur, q1, q2, q3, q4⟩
          · rw [q] at hlt; simp at hlt
          · exact ⟨t, q1, fun w' X => ⟨cur, (HTW.out.trans' X).keep q3 (by simp), q4 j x hx⟩⟩
        have K0 : ∀ w', Touch [] wr w' → w'.cell? ⟨t, j * 5, none⟩ = some (.int .i64 x) := fun w' X => by obtain ⟨cur, q, q1, q2, q3, q4, q5⟩ := HTc w' X; exact cell_at q q1
        have K1 : ∀ w', Touch [] wr w' → w'.cell? ⟨t, j * 5 + 1, none⟩ = some (.int .i64 ac.o.1) := fun w' X => by obtain ⟨cur, q, q1, q2, q3, q4, q5⟩ := HTc w' X; exact cell_at q q2
        have K2 : ∀ w', Touch [] wr w' → w'.cell? ⟨t, j * 5 + 2, none⟩ = some (.int .i64 ac.o.2.1) := fun w' X => by obtain ⟨cur, q, q1, q2, q3, q4, q5⟩ := HTc w' X; exact cell_at q q3
        have K3 : ∀ w', Touch [] wr w' → w'.cell? ⟨t, j * 5 + 3, none⟩ = some (.int .i64 ac.o.2.2.1) := fun w' X => by obtain ⟨cur, q, q1, q2, q3, q4, q5⟩ := HTc w' X; exact cell_at q q4
        have K4 : ∀ w', Touch [] wr w' → w'.cell? ⟨t, j * 5 + 4, none⟩ = some (.int .i64 ac.o.2.2.2) := fun w' X => by obtain ⟨cur, q, q1, q2, q3, q4, q5⟩ := HTc w' X; exact cell_at q q5
        have o0 := fun w' (X : Touch [] wr w') => O0 w' (HTW.out.trans' X)
        have o1 := fun w' (X : Touch [] wr w') => O1 w' (HTW.out.trans' X)
        have o2 := fun w' (X : Touch [] wr w') => O2 w' (HTW.out.trans' X)
        have o3 := fun w' (X : Touch [] wr w') => O3 w' (HTW.out.trans' X)
        clear hx HTc O0 O1 O2 O3
        go_upto_region 22 with fail
        have r0 : Touch [] wr wr.drew := (Touch.refl _ _).drew
        refine wp_region_H (S := fun w' => Touch [] wr w') (by kernel_rfl) ?_
        refine wpH_take (i := 0) (v := (.slice (some ⟨t, 0, none⟩) L.length c7)) (some 124) rfl rfl (by kernel_rfl) (by kernel_rfl) (by kernel_rfl) (fun _ _ _ h => h) (Or.inl ⟨by rfl, fun w' hS => (by go_simp)⟩) r0 ?_
        try simp only [Go.Act.put, List.setIfInBounds_toArray, List.set_cons_zero, List.set_cons_succ]
        refine wpH_take (i := 1) (v := (.int .i64 (j : Nat))) (some 125) rfl rfl (by kernel_rfl) (by kernel_rfl) (by kernel_rfl) (fun _ _ _ h => h) (Or.inl ⟨by rfl, fun w' hS => (by go_simp)⟩) r0 ?_
        try simp only [Go.Act.put, List.setIfInBounds_toArray, List.set_cons_zero, List.set_cons_succ]
        refine wpH_take (i := 2) (v := (.pointer (some ⟨t, j * 5, none⟩))) (some 126) rfl rfl (by kernel_rfl) (by kernel_rfl) (by kernel_rfl) (fun _ _ _ h => h) (Or.inl ⟨by rfl, fun w' hS => (by go_simp)⟩) r0 ?_
        try simp only [Go.Act.put, List.setIfInBounds_toArray, List.set_cons_zero, List.set_cons_succ]
        refine wpH_take (i := 3) (v := (.pointer (some ⟨t, j * 5, none⟩))) (some 127) rfl rfl (by kernel_rfl) (by kernel_rfl) (by kernel_rfl) (fun _ _ _ h => h) (Or.inl ⟨by rfl, fun w' hS => (by go_simp)⟩) r0 ?_
        try simp only [Go.Act.put, List.setIfInBounds_toArray, List.set_cons_zero, List.set_cons_succ]
        refine wpH_take (i := 4) (v := (.int .i64 x)) (some 128) rfl rfl (by kernel_rfl) (by kernel_rfl) (by kernel_rfl) (fun _ _ _ h => h) (Or.inl ⟨by rfl, fun w' hS => (by have z0 := K0 _ hS; go_simp)⟩) r0 ?_
        try simp only [Go.Act.put, List.setIfInBounds_toArray, List.set_cons_zero, List.set_cons_succ]
        refine wpH_take (i := 5) (v := (.slice (some ⟨gu, 0, none⟩) L.length c6)) (some 129) rfl rfl (by kernel_rfl) (by kernel_rfl) (by kernel_rfl) (fun _ _ _ h => h) (Or.inl ⟨by rfl, fun w' hS => (by go_simp)⟩) r0 ?_
        try simp only [Go.Act.put, List.setIfInBounds_toArray, List.set_cons_zero, List.set_cons_succ]
        refine wpH_take (i := 6) (v := (.int .i64 (j : Nat))) (some 130) rfl rfl (by kernel_rfl) (by kernel_rfl) (by kernel_rfl) (fun _ _ _ h => h) (Or.inl ⟨by rfl, fun w' hS => (by go_simp)⟩) r0 ?_
        try simp only [Go.Act.put, List.setIfInBounds_toArray, List.set_cons_zero, List.set_cons_succ]
        refine wpH_take (i := 7) (v := (.pointer (some ⟨gu, j, none⟩))) (some 131) rfl rfl (by kernel_rfl) (by kernel_rfl) (by kernel_rfl) (fun _ _ _ h => h) (Or.inl ⟨by rfl, fun w' hS => (by go_simp)⟩) r0 ?_
        try simp only [Go.Act.put, List.setIfInBounds_toArray, List.set_cons_zero, List.set_cons_succ]
        refine wpH_take (i := 8) (v := (.int .i64 x)) (some 132) rfl rfl (by kernel_rfl) (by kernel_rfl) (by kernel_rfl) (fun _ _ _ h => h) (Or.inl ⟨by rfl, fun w' hS => (by have z0 := KU _ hS; go_simp)⟩) r0 ?_
        try simp only [Go.Act.put, List.setIfInBounds_toArray, List.set_cons_zero, List.set_cons_succ]
        refine wpH_take (i := 9) (v := (.bool false)) (some 133) rfl rfl (by kernel_rfl) (by kernel_rfl) (by kernel_rfl) (fun _ _ _ h => h) (Or.inl ⟨by rfl, fun w' hS => (by go_simp)⟩) r0 ?_
        try simp only [Go.Act.put, List.setIfInBounds_toArray, List.set_cons_zero, List.set_cons_succ]
        refine wpH_take (i := 10) (v := (.bool false)) (some 134) rfl rfl (by kernel_rfl) (by kernel_rfl) (by kernel_rfl) (fun _ _ _ h => h) (Or.inl ⟨by rfl, fun w' hS => (by go_simp)⟩) r0 ?_
        try simp only [Go.Act.put, List.setIfInBounds_toArray, List.set_cons_zero, List.set_cons_succ]
        refine wpH_take (i := 11) (v := (.slice (some ⟨t, 0, none⟩) L.length c7)) (some 135) rfl rfl (by kernel_rfl) (by kernel_rfl) (by kernel_rfl) (fun _ _ _ h => h) (Or.inl ⟨by rfl, fun w' hS => (by go_simp)⟩) r0 ?_
        try simp only [Go.Act.put, List.setIfInBounds_toArray, List.set_cons_zero, List.set_cons_succ]
        refine wpH_take (i := 12) (v := (.int .i64 (j : Nat))) (some 136) rfl rfl (by kernel_rfl) (by kernel_rfl) (by kernel_rfl) (fun _ _ _ h => h) (Or.inl ⟨by rfl, fun w' hS => (by go_simp)⟩) r0 ?_
        try simp only [Go.Act.put, List.setIfInBounds_toArray, List.set_cons_zero, List.set_cons_succ]
        refine wpH_take (i := 13) (v := (.pointer (some ⟨t, j * 5, none⟩))) (some 137) rfl rfl (by kernel_rfl) (by kernel_rfl) (by kernel_rfl) (fun _ _ _ h => h) (Or.inl ⟨by rfl, fun w' hS => (by go_simp)⟩) r0 ?_
        try simp only [Go.Act.put, List.setIfInBounds_toArray, List.set_cons_zero, List.set_cons_succ]
        refine wpH_take (i := 14) (v := (.pointer (some ⟨t, j * 5 + 1, none⟩))) (some 138) rfl rfl (by kernel_rfl) (by kernel_rfl) (by kernel_rfl) (fun _ _ _ h => h) (Or.inl ⟨by rfl, fun w' hS => (by go_simp)⟩) r0 ?_
        try simp only [Go.Act.put, List.setIfInBounds_toArray, List.set_cons_zero, List.set_cons_succ]
        refine wpH_take (i := 15) (v := (.agg #[.int .i64 ac.o.1, .int .i64 ac.o.2.1, .int .i64 ac.o.2.2.1, .int .i64 ac.o.2.2.2])) (some 139) rfl rfl (by kernel_rfl) (by kernel_rfl) (by kernel_rfl) (fun _ _ _ h => h) (Or.inl ⟨by rfl, fun w' hS => (by have z0 := K1 _ hS; have z1 := K2 _ hS; have z2 := K3 _ hS; have z3 := K4 _ hS; go_simp)⟩) r0 ?_
        try simp only [Go.Act.put, List.setIfInBounds_toArray, List.set_cons_zero, List.set_cons_succ]
        refine wpH_take (i := 16) (v := (.pointer (some ⟨w.heap.size + 1, 2, none⟩))) (some 140) rfl rfl (by kernel_rfl) (by kernel_rfl) (by kernel_rfl) (fun _ _ _ h => h) (Or.inl ⟨by rfl, fun w' hS => (by go_simp)⟩) r0 ?_
        try simp only [Go.Act.put, List.setIfInBounds_toArray, List.set_cons_zero, List.set_cons_succ]
        refine wpH_take (i := 17) (v := (.agg #[.int .i64 ac.o.1, .int .i64 ac.o.2.1, .int .i64 ac.o.2.2.1, .int .i64 ac.o.2.2.2])) (some 141) rfl rfl (by kernel_rfl) (by kernel_rfl) (by kernel_rfl) (fun _ _ _ h => h) (Or.inl ⟨by rfl, fun w' hS => (by have z0 := o0 _ hS; have z1 := o1 _ hS; have z2 := o2 _ hS; have z3 := o3 _ hS; go_simp)⟩) r0 ?_
        try simp only [Go.Act.put, List.setIfInBounds_toArray, List.set_cons_zero, List.set_cons_succ]
        refine wpH_take (i := 18) (v := (.bool false)) (some 142) rfl rfl (by kernel_rfl) (by kernel_rfl) (by kernel_rfl) (fun _ _ _ h => h) (Or.inl ⟨by rfl, fun w' hS => (by go_simp)⟩) r0 ?_
        try simp only [Go.Act.put, List.setIfInBounds_toArray, List.set_cons_zero, List.set_cons_succ]
        refine wpH_take (i := 19) (v := (.bool false)) (some 143) rfl rfl (by kernel_rfl) (by kernel_rfl) (by kernel_rfl) (fun _ _ _ h => h) (Or.inl ⟨by rfl, fun w' hS => (by go_simp)⟩) r0 ?_
        try simp only [Go.Act.put, List.setIfInBounds_toArray, List.set_cons_zero, List.set_cons_succ]
        refine wpAnyH_done (by kernel_rfl) ?_ _
        have HT2 := hid (HT.out.drew)
        clear K0 K1 K2 K3 K4 KU o0 o1 o2 o3 r0
        go_wp2
        go_roundw
        case rel => exact ⟨j + 1, by go_num, by omega, HT2⟩
        case measure => simp [intOf]; omega
      have e' : j = L.length := by omega
      subst e'
      clear hlt hj O0 O1 O2 O3
      go_upto_region 24 with fail
      have hM : ∀ w', Touch [w.heap.size + 1 + 1] wr w' → Dcs w' C (.slice a5 n5 cp5) T := fun w' X => dcs_at (X.keep (HT.out.keep HC.out.2.1 (by simp)) (by have := HB2.out; have := HC.out.1; have := Q2.out.1.size; simp; omega))
      have M0 := fun w' X => (hM w' X).c0
      have M1 := fun w' X => (hM w' X).c1
      have M2 := fun w' X => (hM w' X).c2
      have M3 := fun w' X => (hM w' X).c3
      have M4 := fun w' X => (hM w' X).c4
      have M5 := fun w' X => (hM w' X).c5
      have M6 := fun w' X => (hM w' X).c6
      have M7 := fun w' X => (hM w' X).c7
      have HG : Hid (∀ W5, Touch [w.heap.size + 1 + 1] wr W5 → OnQ w W5 F R T N b (.slice a5 n5 cp5)) := fun W5 X => HFN.out w2 F2 wc _ wr W5 Q1.out Q2.out.1 Q2.out.2 HC.out.2.2.1.r1 HC.out.2.2.1.r2 HC.out.2.2.2 HT.out X
      have hz := (HC.out.2.2.2.trans' HT.out).keep (HB.out w2 Q2.out.1) (by simp)
      obtain ⟨d0, d1, d2, d3, d4, d5, d6, d7⟩ := dcs_at (S := Sz) (u := .slice none 0 0) hz
      have gg := froz_at hz
      clear hM HFN HB Q0 Q1 Q2 HC HT hz
      have k0 : Touch [w.heap.size + 1 + 1] wr wr.drew := (Touch.refl _ _).drew
      refine wp_region_H (S := fun w' => Touch [w.heap.size + 1 + 1] wr w') (by kernel_rfl) ?_
      refine wpH_take (i := 0) (v := (.pointer (some ⟨b, 0, none⟩))) (some 146) rfl rfl (by kernel_rfl) (by kernel_rfl) (by kernel_rfl) (fun _ _ _ h => h) (Or.inl ⟨by rfl, fun w' hS => (by go_simp)⟩) k0 ?_
      try simp only [Go.Act.put, List.setIfInBounds_toArray, List.set_cons_zero, List.set_cons_succ]
      refine wpH_take (i := 1) (v := (.agg #[.slice a5 n5 cp5, .bool T.kept, .bool T.canc, .bool T.ended, .int .i64 T.out.1, .int .i64 T.out.2.1, .int .i64 T.out.2.2.1, .int .i64 T.out.2.2.2])) (some 147) rfl rfl (by kernel_rfl) (by kernel_rfl) (by kernel_rfl) (fun _ _ _ h => h) (Or.inl ⟨by rfl, fun w' hS => (by have z0 := M0 _ hS; have z1 := M1 _ hS; have z2 := M2 _ hS; have z3 := M3 _ hS; have z4 := M4 _ hS; have z5 := M5 _ hS; have z6 := M6 _ hS; have z7 := M7 _ hS; go_simp)⟩) k0 ?_
      try simp only [Go.Act.put, List.setIfInBounds_toArray, List.set_cons_zero, List.set_cons_succ]
      refine wpH_take (i := 2) (v := (.pointer (some ⟨b, 0, none⟩))) (some 6) rfl rfl (by kernel_rfl) (by kernel_rfl) (by kernel_rfl) (fun _ _ _ h => h) (Or.inl ⟨by rfl, fun w' hS => (by go_simp)⟩) k0 ?_
      try simp only [Go.Act.put, List.setIfInBounds_toArray, List.set_cons_zero, List.set_cons_succ]
      refine wpH_call (i := 3) (o := { dst := none, op := Op.store 39 (Operand.tmp 7) (Operand.tmp 147), type := 0, pos := _, after := #[{ on := 1, ground := Ground.data }, { on := 2, ground := Ground.chain }, { on := 0, ground := Ground.phase }, { on := 1, ground := Ground.phase }, { on := 2, ground := Ground.phase }], guard := none }) (by kernel_rfl) rfl (fun K' hK => ?_)
      rw [if_pos (by rfl)]
      go_simp
      refine hK.out _ _ ((((((((((Touch.refl [w.heap.size + 1 + 1] wr).setCell (Or.inl (by simp)) _).setCell (Or.inl (by simp)) _).setCell (Or.inl (by simp)) _).setCell (Or.inl (by simp)) _).setCell (Or.inl (by simp)) _).setCell (Or.inl (by simp)) _).setCell (Or.inl (by simp)) _).setCell (Or.inl (by simp)) _).drew) ?_
      clear hK
      try simp only [Go.Act.put, List.setIfInBounds_toArray, List.set_cons_zero, List.set_cons_succ]
      refine wpH_take (i := 4) (v := (.bool true)) (some 8) rfl rfl (by kernel_rfl) (by kernel_rfl) (by kernel_rfl) (fun _ _ _ h => h) (Or.inl ⟨by rfl, fun w' hS => (by go_simp)⟩) ((((((((((Touch.refl [w.heap.size + 1 + 1] wr).setCell (Or.inl (by simp)) _).setCell (Or.inl (by simp)) _).setCell (Or.inl (by simp)) _).setCell (Or.inl (by simp)) _).setCell (Or.inl (by simp)) _).setCell (Or.inl (by simp)) _).setCell (Or.inl (by simp)) _).setCell (Or.inl (by simp)) _).drew) ?_
      try simp only [Go.Act.put, List.setIfInBounds_toArray, List.set_cons_zero, List.set_cons_succ]
      refine wpAnyH_done (by kernel_rfl) ?_ _
      clear M0 M1 M2 M3 M4 M5 M6 M7 k0
      go_wp2
      exact bodyPost_ret (v := .tuple #[.pointer (some ⟨b, 0, none⟩), .agg #[.slice a5 n5 cp5, .bool T.kept, .bool T.canc, .bool T.ended, .int .i64 T.out.1, .int .i64 T.out.2.1, .int .i64 T.out.2.2.1, .int .i64 T.out.2.2.2], .bool true]) (by simp [results, Try.results7, go_sem, d0, d1, d2, d3, d4, d5, d6, d7]) rfl ⟨b, _, rfl, HG.out _ ((((((((((Touch.refl [w.heap.size + 1 + 1] wr).setCell (Or.inl (by simp)) _).setCell (Or.inl (by simp)) _).setCell (Or.inl (by simp)) _).setCell (Or.inl (by simp)) _).setCell (Or.inl (by simp)) _).setCell (Or.inl (by simp)) _).setCell (Or.inl (by simp)) _).setCell (Or.inl (by simp)) _).drew)⟩
end Go.Proofs.Ytaikleaiofpebaa
