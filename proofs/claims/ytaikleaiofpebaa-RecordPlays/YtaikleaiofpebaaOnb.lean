/- The law's one: who joins, who leaves, the entry released. -/
import Derived.Test.YtaikleaiofpebaaOna
import Derived.Test.YtaikleaiofpebaaHlh
namespace Go.Proofs.Ytaikleaiofpebaa
open Go.RowKit Go.Maps Go.ChangeMaps
set_option linter.unusedVariables false
set_option linter.unusedSimpArgs false
theorem rd_form {w : World} {v : Value} {xs : List Int} (h : Rd w v xs) : ∃ p n c, v = .slice p n c := by
  obtain ⟨a, c, e, _⟩ := h
  exact ⟨a, _, c, e⟩
set_option maxHeartbeats 4000000 in
set_option maxRecDepth 100000 in
theorem one7_join (w : World) (b N : Nat) (F : List Nat) (R : Rn) (S : St) (u : Value) (ac : ActR) (h : Rq w b F R S N) (hu : Rd w u S.who) (ap : Ap S.who u F) (hN : N + 1 ≤ 3000000000000) (ha : WfA ac) (hk : ac.kd = 0) : Calls Try.prog 7 #[PT b, dv u S, av ac] w fun e w' => OnE e w w' F R (joinS S ac.cl) N := by
  obtain ⟨a0, cp0, rfl, _, _⟩ := hu.form
  have hle : S.who.length ≤ 3000000000000 := Nat.le_trans h.wlen (by omega)
  obtain ⟨V, hV⟩ : ∃ V, V = ((w.alloc (.cells (dc (.slice a0 S.who.length cp0) S) 39)).alloc (.cells (ca ac) 46)).alloc (.cells z39 39) := ⟨_, rfl⟩
  obtain ⟨tv, hsz, hb0, hb1, hb2⟩ := boxA w (.slice a0 S.who.length cp0) S ac V hV
  have hiv := h.iv
  have hlt := h.lt
  have nF : ∀ i, w.heap.size ≤ i → ¬ i ∈ F := fun i hi e => by have := hlt i e; omega
  have HP := hid (join13 V b N F R S (h.keep0 tv) (by omega) ac.cl ha.2.1)
  unfold RqE at HP
  have HA : Hid (∀ w2, Touch F V w2 → Dcs w2 w.heap.size (.slice a0 S.who.length cp0) S ∧ w2.cell? ⟨w.heap.size + 1, 1, none⟩ = some (.int .i64 ac.cl) ∧ Rd w2 (.slice a0 S.who.length cp0) S.who) := fun w2 T =>
    ⟨dcs_at (T.keep hb0 (nF _ (Nat.le_refl _))), cell_at (T.keep hb1 (nF _ (by omega))) rfl, (hu.keep0 tv).keepN T (fun hx q hq => ap hx q hq)⟩
  have HB : Hid (∀ w2, Touch F V w2 → Dcs w2 (w.heap.size + 1 + 1) (.slice none 0 0) Sz ∧ (∀ i, w2.frozen? ⟨w.heap.size + 1 + 1, i, none⟩ = false)) := fun w2 T => by
    have q := T.keep hb2 (nF _ (by omega))
    exact ⟨dcs_at q, froz_at q⟩
  have HD : Hid (∀ w2, Rd w2 (.slice a0 S.who.length cp0) S.who → Calls Try.prog 22 #[dv (.slice a0 S.who.length cp0) S, .int .i64 ac.cl] w2 fun e w3 => RjE e w2 w3 (.slice a0 S.who.length cp0) (joinS S ac.cl) (fun v => .tuple #[v, .int .i64 (joinE S ac.cl)])) := fun w2 r => rjoin22 w2 _ S r hle ac.cl
  have HFN : Hid (∀ w2 F2 w3 u' W4 W5, Rq w2 b F2 R (joinS S ac.cl) (N + 1) → Touch F V w2 → Nf V F F2 → Rd w3 u' (joinS S ac.cl).who → Un w2 (.slice a0 S.who.length cp0) u' → Touch [] w2 w3 → Touch [] w3 W4 → Touch [w.heap.size + 1 + 1] W4 W5 → OnQ w W5 F R (joinS S ac.cl) N b u') := fun w2 F2 w3 u' W4 W5 x1 x2 x3 x4 x5 x6 x7 x8 => on_fin h hu ap tv (by omega) (by omega) x1 (by omega) x2 x3 x4 x5 x6 x7 x8
  have HB2 := hid hsz
  have y0 := cell_at (j := 0) (v := .int .i64 ac.kd) hb1 rfl
  have y1 := cell_at (j := 1) (v := .int .i64 ac.cl) hb1 rfl
  rw [hk] at y0
  clear h hu ap hle tv hsz hb0 hb1 hb2 hiv hlt nF ha hN
  obtain ⟨T, hT⟩ : ∃ T, T = joinS S ac.cl := ⟨_, rfl⟩
  have HTT := hid hT
  rw [← hT] at HP HD HFN ⊢
  clear hT
  generalize joinE S ac.cl = E at *
  unfold PT at *
  unfold av
  unfold dv dc
  unfold dc ca z39 at hV
  rw [hk] at hV ⊢
  clear hk
  go_enter Try.func7, Try.ntmps7
  go_upto_region 1 with fail
  rw [← hV]
  clear hV
  go_upto_region 4 with (go_at_call 13; refine HP.out.mono ?_; rintro e w2 ⟨rfl, F2, q1, q2, q3⟩; have Q1 := hid q1; have Q2 := hid (And.intro q2 q3); clear q1 q2 q3)
  obtain ⟨⟨c0, c1, c2, c3, c4, c5, c6, c7⟩, z1, hr⟩ := HA.out w2 Q2.out.1
  have HD2 := hid (HD.out w2 hr)
  unfold RjE at HD2
  unfold dv dc at HD2
  clear hr HA HD y0 y1
  go_upto_region 5 with (go_at_call 22; refine HD2.out.mono ?_; rintro e w3 ⟨u5, rfl, r1, r2, r3⟩; obtain ⟨a5, n5, cp5, rfl⟩ := rd_form r1; have R1 := hid (And.intro r1 (And.intro r2 r3)); clear r1 r2 r3)
  obtain ⟨W4, hW4⟩ : ∃ W4, W4 = w3.alloc (.cells #[.slice a5 n5 cp5, .bool T.kept, .bool T.canc, .bool T.ended, .int .i64 T.out.1, .int .i64 T.out.2.1, .int .i64 T.out.2.2.1, .int .i64 T.out.2.2.2] 39) := ⟨_, rfl⟩
  have t34 : Touch [] w3 W4 := by rw [hW4]; exact (Touch.refl _ _).alloc _
  have hM : ∀ w', Touch [w.heap.size + 1 + 1] W4 w' → Dcs w' w3.heap.size (.slice a5 n5 cp5) T := fun w' X => dcs_at (X.keep (by rw [hW4]; exact heap_alloc_new w3 _) (by have := (HB2.out); have := R1.out.2.2.size; have := Q2.out.1.size; simp; omega))
  have M0 := fun w' X => (hM w' X).c0
  have M1 := fun w' X => (hM w' X).c1
  have M2 := fun w' X => (hM w' X).c2
  have M3 := fun w' X => (hM w' X).c3
  have M4 := fun w' X => (hM w' X).c4
  have M5 := fun w' X => (hM w' X).c5
  have M6 := fun w' X => (hM w' X).c6
  have M7 := fun w' X => (hM w' X).c7
  have HG : Hid (∀ W5, Touch [w.heap.size + 1 + 1] W4 W5 → OnQ w W5 F R T N b (.slice a5 n5 cp5)) := fun W5 X => HFN.out w2 F2 w3 _ W4 W5 Q1.out Q2.out.1 Q2.out.2 R1.out.1 R1.out.2.1 R1.out.2.2 t34 X
  obtain ⟨⟨d0, d1, d2, d3, d4, d5, d6, d7⟩, gg⟩ := HB.out W4 ((Q2.out.1.trans (R1.out.2.2) (fun _ q => by cases q)).trans t34 (fun _ q => by cases q))
  rw [← hW4]
  clear hW4 t34 hM HFN HB Q1 Q2 R1 c0 c1 c2 c3 c4 c5 c6 c7 z1 HD2 HP
  have k0 : Touch [w.heap.size + 1 + 1] W4 W4.drew := (Touch.refl _ _).drew
  refine wp_region_H (S := fun w' => Touch [w.heap.size + 1 + 1] W4 w') (by kernel_rfl) ?_
  refine wpH_take (i := 0) (v := (.pointer (some ⟨b, 0, none⟩))) (some 42) rfl rfl (by kernel_rfl) (by kernel_rfl) (by kernel_rfl) (fun _ _ _ h => h) (Or.inl ⟨by rfl, fun w' hS => (by go_simp)⟩) k0 ?_
  try simp only [Go.Act.put, List.setIfInBounds_toArray, List.set_cons_zero, List.set_cons_succ]
  refine wpH_take (i := 1) (v := (.agg #[.slice a5 n5 cp5, .bool T.kept, .bool T.canc, .bool T.ended, .int .i64 T.out.1, .int .i64 T.out.2.1, .int .i64 T.out.2.2.1, .int .i64 T.out.2.2.2])) (some 43) rfl rfl (by kernel_rfl) (by kernel_rfl) (by kernel_rfl) (fun _ _ _ h => h) (Or.inl ⟨by rfl, fun w' hS => (by have z0 := M0 _ hS; have z1 := M1 _ hS; have z2 := M2 _ hS; have z3 := M3 _ hS; have z4 := M4 _ hS; have z5 := M5 _ hS; have z6 := M6 _ hS; have z7 := M7 _ hS; go_simp)⟩) k0 ?_
  try simp only [Go.Act.put, List.setIfInBounds_toArray, List.set_cons_zero, List.set_cons_succ]
  refine wpH_take (i := 2) (v := (.int .i64 E)) (some 44) rfl rfl (by kernel_rfl) (by kernel_rfl) (by kernel_rfl) (fun _ _ _ h => h) (Or.inl ⟨by rfl, fun w' hS => (by go_simp)⟩) k0 ?_
  try simp only [Go.Act.put, List.setIfInBounds_toArray, List.set_cons_zero, List.set_cons_succ]
  refine wpH_take (i := 3) (v := (.int .i64 E)) (some 45) rfl rfl (by kernel_rfl) (by kernel_rfl) (by kernel_rfl) (fun _ _ _ h => h) (Or.inl ⟨by rfl, fun w' hS => (by go_simp)⟩) k0 ?_
  try simp only [Go.Act.put, List.setIfInBounds_toArray, List.set_cons_zero, List.set_cons_succ]
  refine wpH_take (i := 4) (v := (.bool true)) (some 46) rfl rfl (by kernel_rfl) (by kernel_rfl) (by kernel_rfl) (fun _ _ _ h => h) (Or.inl ⟨by rfl, fun w' hS => (by go_simp)⟩) k0 ?_
  try simp only [Go.Act.put, List.setIfInBounds_toArray, List.set_cons_zero, List.set_cons_succ]
  refine wpH_take (i := 5) (v := (.pointer (some ⟨b, 0, none⟩))) (some 6) rfl rfl (by kernel_rfl) (by kernel_rfl) (by kernel_rfl) (fun _ _ _ h => h) (Or.inl ⟨by rfl, fun w' hS => (by go_simp)⟩) k0 ?_
  try simp only [Go.Act.put, List.setIfInBounds_toArray, List.set_cons_zero, List.set_cons_succ]
  refine wpH_call (i := 6) (o := { dst := none, op := Op.store 39 (Operand.tmp 7) (Operand.tmp 43), type := 0, pos := _, after := #[{ on := 1, ground := Ground.data }, { on := 5, ground := Ground.chain }, { on := 0, ground := Ground.phase }, { on := 1, ground := Ground.phase }, { on := 2, ground := Ground.textOnly Departure.lateStores }, { on := 3, ground := Ground.textOnly Departure.lateStores }, { on := 4, ground := Ground.textOnly Departure.lateStores }, { on := 5, ground := Ground.phase }], guard := none }) (by kernel_rfl) rfl (fun K' hK => ?_)
  rw [if_pos (by rfl)]
  go_simp
  refine hK.out _ _ ((((((((((Touch.refl [w.heap.size + 1 + 1] W4).setCell (Or.inl (by simp)) _).setCell (Or.inl (by simp)) _).setCell (Or.inl (by simp)) _).setCell (Or.inl (by simp)) _).setCell (Or.inl (by simp)) _).setCell (Or.inl (by simp)) _).setCell (Or.inl (by simp)) _).setCell (Or.inl (by simp)) _).drew) ?_
  clear hK
  try simp only [Go.Act.put, List.setIfInBounds_toArray, List.set_cons_zero, List.set_cons_succ]
  refine wpH_take (i := 7) (v := (.bool true)) (some 8) rfl rfl (by kernel_rfl) (by kernel_rfl) (by kernel_rfl) (fun _ _ _ h => h) (Or.inl ⟨by rfl, fun w' hS => (by go_simp)⟩) ((((((((((Touch.refl [w.heap.size + 1 + 1] W4).setCell (Or.inl (by simp)) _).setCell (Or.inl (by simp)) _).setCell (Or.inl (by simp)) _).setCell (Or.inl (by simp)) _).setCell (Or.inl (by simp)) _).setCell (Or.inl (by simp)) _).setCell (Or.inl (by simp)) _).setCell (Or.inl (by simp)) _).drew) ?_
  try simp only [Go.Act.put, List.setIfInBounds_toArray, List.set_cons_zero, List.set_cons_succ]
  refine wpAnyH_done (by kernel_rfl) ?_ _
  clear M0 M1 M2 M3 M4 M5 M6 M7 k0
  go_wp2
  exact bodyPost_ret (v := .tuple #[.pointer (some ⟨b, 0, none⟩), .agg #[.slice a5 n5 cp5, .bool T.kept, .bool T.canc, .bool T.ended, .int .i64 T.out.1, .int .i64 T.out.2.1, .int .i64 T.out.2.2.1, .int .i64 T.out.2.2.2], .bool true]) (by simp [results, Try.results7, go_sem, d0, d1, d2, d3, d4, d5, d6, d7]) rfl ⟨b, _, rfl, HG.out _ ((((((((((Touch.refl [w.heap.size + 1 + 1] W4).setCell (Or.inl (by simp)) _).setCell (Or.inl (by simp)) _).setCell (Or.inl (by simp)) _).setCell (Or.inl (by simp)) _).setCell (Or.inl (by simp)) _).setCell (Or.inl (by simp)) _).setCell (Or.inl (by simp)) _).setCell (Or.inl (by simp)) _).drew)⟩
set_option maxHeartbeats 4000000 in
set_option maxRecDepth 100000 in
theorem one7_leave (w : World) (b N : Nat) (F : List Nat) (R : Rn) (S : St) (u : Value) (ac : ActR) (h : Rq w b F R S N) (hu : Rd w u S.who) (ap : Ap S.who u F) (hN : N + 1 ≤ 3000000000000) (ha : WfA ac) (hk : ac.kd = 1) : Calls Try.prog 7 #[PT b, dv u S, av ac] w fun e w' => OnE e w w' F R (leaveS S ac.cl) N := by
  obtain ⟨a0, cp0, rfl, _, _⟩ := hu.form
  have hle : S.who.length ≤ 3000000000000 := Nat.le_trans h.wlen (by omega)
  obtain ⟨V, hV⟩ : ∃ V, V = ((w.alloc (.cells (dc (.slice a0 S.who.length cp0) S) 39)).alloc (.cells (ca ac) 46)).alloc (.cells z39 39) := ⟨_, rfl⟩
  obtain ⟨tv, hsz, hb0, hb1, hb2⟩ := boxA w (.slice a0 S.who.length cp0) S ac V hV
  have hiv := h.iv
  have hlt := h.lt
  have nF : ∀ i, w.heap.size ≤ i → ¬ i ∈ F := fun i hi e => by have := hlt i e; omega
  have HP := hid (leave10 V b N F R S (h.keep0 tv) (by omega) ac.cl ha.2.1)
  unfold RqE at HP
  have HA : Hid (∀ w2, Touch F V w2 → Dcs w2 w.heap.size (.slice a0 S.who.length cp0) S ∧ w2.cell? ⟨w.heap.size + 1, 1, none⟩ = some (.int .i64 ac.cl) ∧ Rd w2 (.slice a0 S.who.length cp0) S.who) := fun w2 T =>
    ⟨dcs_at (T.keep hb0 (nF _ (Nat.le_refl _))), cell_at (T.keep hb1 (nF _ (by omega))) rfl, (hu.keep0 tv).keepN T (fun hx q hq => ap hx q hq)⟩
  have HB : Hid (∀ w2, Touch F V w2 → Dcs w2 (w.heap.size + 1 + 1) (.slice none 0 0) Sz ∧ (∀ i, w2.frozen? ⟨w.heap.size + 1 + 1, i, none⟩ = false)) := fun w2 T => by
    have q := T.keep hb2 (nF _ (by omega))
    exact ⟨dcs_at q, froz_at q⟩
  have HD : Hid (∀ w2, Rd w2 (.slice a0 S.who.length cp0) S.who → Calls Try.prog 23 #[dv (.slice a0 S.who.length cp0) S, .int .i64 ac.cl] w2 fun e w3 => RjE e w2 w3 (.slice a0 S.who.length cp0) (leaveS S ac.cl) (fun v => .tuple #[v, .bool (leaveB S ac.cl), .int .i64 (leaveE S ac.cl)])) := fun w2 r => rleave23 w2 _ S r hle hiv ac.cl
  have HFN : Hid (∀ w2 F2 w3 u' W4 W5, Rq w2 b F2 R (leaveS S ac.cl) N → Touch F V w2 → Nf V F F2 → Rd w3 u' (leaveS S ac.cl).who → Un w2 (.slice a0 S.who.length cp0) u' → Touch [] w2 w3 → Touch [] w3 W4 → Touch [w.heap.size + 1 + 1] W4 W5 → OnQ w W5 F R (leaveS S ac.cl) N b u') := fun w2 F2 w3 u' W4 W5 x1 x2 x3 x4 x5 x6 x7 x8 => on_fin h hu ap tv (by omega) (by omega) x1 (by omega) x2 x3 x4 x5 x6 x7 x8
  have HB2 := hid hsz
  have y0 := cell_at (j := 0) (v := .int .i64 ac.kd) hb1 rfl
  have y1 := cell_at (j := 1) (v := .int .i64 ac.cl) hb1 rfl
  rw [hk] at y0
  clear h hu ap hle tv hsz hb0 hb1 hb2 hiv hlt nF ha hN
  obtain ⟨T, hT⟩ : ∃ T, T = leaveS S ac.cl := ⟨_, rfl⟩
  have HTT := hid hT
  rw [← hT] at HP HD HFN ⊢
  clear hT
  generalize leaveE S ac.cl = E at *
  generalize leaveB S ac.cl = B at *
  unfold PT at *
  unfold av
  unfold dv dc
  unfold dc ca z39 at hV
  rw [hk] at hV ⊢
  clear hk
  go_enter Try.func7, Try.ntmps7
  go_upto_region 1 with fail
  rw [← hV]
  clear hV
  go_upto_region 8 with (go_at_call 10; refine HP.out.mono ?_; rintro e w2 ⟨rfl, F2, q1, q2, q3⟩; have Q1 := hid q1; have Q2 := hid (And.intro q2 q3); clear q1 q2 q3)
  obtain ⟨⟨c0, c1, c2, c3, c4, c5, c6, c7⟩, z1, hr⟩ := HA.out w2 Q2.out.1
  have HD2 := hid (HD.out w2 hr)
  unfold RjE at HD2
  unfold dv dc at HD2
  clear hr HA HD y0 y1
  go_upto_region 9 with (go_at_call 23; refine HD2.out.mono ?_; rintro e w3 ⟨u5, rfl, r1, r2, r3⟩; obtain ⟨a5, n5, cp5, rfl⟩ := rd_form r1; have R1 := hid (And.intro r1 (And.intro r2 r3)); clear r1 r2 r3)
  obtain ⟨W4, hW4⟩ : ∃ W4, W4 = w3.alloc (.cells #[.slice a5 n5 cp5, .bool T.kept, .bool T.canc, .bool T.ended, .int .i64 T.out.1, .int .i64 T.out.2.1, .int .i64 T.out.2.2.1, .int .i64 T.out.2.2.2] 39) := ⟨_, rfl⟩
  have t34 : Touch [] w3 W4 := by rw [hW4]; exact (Touch.refl _ _).alloc _
  have hM : ∀ w', Touch [w.heap.size + 1 + 1] W4 w' → Dcs w' w3.heap.size (.slice a5 n5 cp5) T := fun w' X => dcs_at (X.keep (by rw [hW4]; exact heap_alloc_new w3 _) (by have := (HB2.out); have := R1.out.2.2.size; have := Q2.out.1.size; simp; omega))
  have M0 := fun w' X => (hM w' X).c0
  have M1 := fun w' X => (hM w' X).c1
  have M2 := fun w' X => (hM w' X).c2
  have M3 := fun w' X => (hM w' X).c3
  have M4 := fun w' X => (hM w' X).c4
  have M5 := fun w' X => (hM w' X).c5
  have M6 := fun w' X => (hM w' X).c6
  have M7 := fun w' X => (hM w' X).c7
  have HG : Hid (∀ W5, Touch [w.heap.size + 1 + 1] W4 W5 → OnQ w W5 F R T N b (.slice a5 n5 cp5)) := fun W5 X => HFN.out w2 F2 w3 _ W4 W5 Q1.out Q2.out.1 Q2.out.2 R1.out.1 R1.out.2.1 R1.out.2.2 t34 X
  obtain ⟨⟨d0, d1, d2, d3, d4, d5, d6, d7⟩, gg⟩ := HB.out W4 ((Q2.out.1.trans (R1.out.2.2) (fun _ q => by cases q)).trans t34 (fun _ q => by cases q))
  rw [← hW4]
  clear hW4 t34 hM HFN HB Q1 Q2 R1 c0 c1 c2 c3 c4 c5 c6 c7 z1 HD2 HP
  have k0 : Touch [w.heap.size + 1 + 1] W4 W4.drew := (Touch.refl _ _).drew
  refine wp_region_H (S := fun w' => Touch [w.heap.size + 1 + 1] W4 w') (by kernel_rfl) ?_
  refine wpH_take (i := 0) (v := (.pointer (some ⟨b, 0, none⟩))) (some 64) rfl rfl (by kernel_rfl) (by kernel_rfl) (by kernel_rfl) (fun _ _ _ h => h) (Or.inl ⟨by rfl, fun w' hS => (by go_simp)⟩) k0 ?_
  try simp only [Go.Act.put, List.setIfInBounds_toArray, List.set_cons_zero, List.set_cons_succ]
  refine wpH_take (i := 1) (v := (.agg #[.slice a5 n5 cp5, .bool T.kept, .bool T.canc, .bool T.ended, .int .i64 T.out.1, .int .i64 T.out.2.1, .int .i64 T.out.2.2.1, .int .i64 T.out.2.2.2])) (some 65) rfl rfl (by kernel_rfl) (by kernel_rfl) (by kernel_rfl) (fun _ _ _ h => h) (Or.inl ⟨by rfl, fun w' hS => (by have z0 := M0 _ hS; have z1 := M1 _ hS; have z2 := M2 _ hS; have z3 := M3 _ hS; have z4 := M4 _ hS; have z5 := M5 _ hS; have z6 := M6 _ hS; have z7 := M7 _ hS; go_simp)⟩) k0 ?_
  try simp only [Go.Act.put, List.setIfInBounds_toArray, List.set_cons_zero, List.set_cons_succ]
  refine wpH_take (i := 2) (v := (.bool B)) (some 66) rfl rfl (by kernel_rfl) (by kernel_rfl) (by kernel_rfl) (fun _ _ _ h => h) (Or.inl ⟨by rfl, fun w' hS => (by go_simp)⟩) k0 ?_
  try simp only [Go.Act.put, List.setIfInBounds_toArray, List.set_cons_zero, List.set_cons_succ]
  refine wpH_take (i := 3) (v := (.bool B)) (some 67) rfl rfl (by kernel_rfl) (by kernel_rfl) (by kernel_rfl) (fun _ _ _ h => h) (Or.inl ⟨by rfl, fun w' hS => (by go_simp)⟩) k0 ?_
  try simp only [Go.Act.put, List.setIfInBounds_toArray, List.set_cons_zero, List.set_cons_succ]
  refine wpH_take (i := 4) (v := (.bool true)) (some 68) rfl rfl (by kernel_rfl) (by kernel_rfl) (by kernel_rfl) (fun _ _ _ h => h) (Or.inl ⟨by rfl, fun w' hS => (by go_simp)⟩) k0 ?_
  try simp only [Go.Act.put, List.setIfInBounds_toArray, List.set_cons_zero, List.set_cons_succ]
  refine wpH_take (i := 5) (v := (.bool true)) (some 69) rfl rfl (by kernel_rfl) (by kernel_rfl) (by kernel_rfl) (fun _ _ _ h => h) (Or.inl ⟨by rfl, fun w' hS => (by go_simp)⟩) k0 ?_
  try simp only [Go.Act.put, List.setIfInBounds_toArray, List.set_cons_zero, List.set_cons_succ]
  refine wpH_take (i := 6) (v := (.int .i64 E)) (some 70) rfl rfl (by kernel_rfl) (by kernel_rfl) (by kernel_rfl) (fun _ _ _ h => h) (Or.inl ⟨by rfl, fun w' hS => (by go_simp)⟩) k0 ?_
  try simp only [Go.Act.put, List.setIfInBounds_toArray, List.set_cons_zero, List.set_cons_succ]
  refine wpH_take (i := 7) (v := (.int .i64 E)) (some 71) rfl rfl (by kernel_rfl) (by kernel_rfl) (by kernel_rfl) (fun _ _ _ h => h) (Or.inl ⟨by rfl, fun w' hS => (by go_simp)⟩) k0 ?_
  try simp only [Go.Act.put, List.setIfInBounds_toArray, List.set_cons_zero, List.set_cons_succ]
  refine wpH_take (i := 8) (v := (.bool true)) (some 72) rfl rfl (by kernel_rfl) (by kernel_rfl) (by kernel_rfl) (fun _ _ _ h => h) (Or.inl ⟨by rfl, fun w' hS => (by go_simp)⟩) k0 ?_
  try simp only [Go.Act.put, List.setIfInBounds_toArray, List.set_cons_zero, List.set_cons_succ]
  refine wpH_take (i := 9) (v := (.bool true)) (some 73) rfl rfl (by kernel_rfl) (by kernel_rfl) (by kernel_rfl) (fun _ _ _ h => h) (Or.inl ⟨by rfl, fun w' hS => (by go_simp)⟩) k0 ?_
  try simp only [Go.Act.put, List.setIfInBounds_toArray, List.set_cons_zero, List.set_cons_succ]
  refine wpH_take (i := 10) (v := (.pointer (some ⟨b, 0, none⟩))) (some 6) rfl rfl (by kernel_rfl) (by kernel_rfl) (by kernel_rfl) (fun _ _ _ h => h) (Or.inl ⟨by rfl, fun w' hS => (by go_simp)⟩) k0 ?_
  try simp only [Go.Act.put, List.setIfInBounds_toArray, List.set_cons_zero, List.set_cons_succ]
  refine wpH_call (i := 11) (o := { dst := none, op := Op.store 39 (Operand.tmp 7) (Operand.tmp 65), type := 0, pos := _, after := #[{ on := 1, ground := Ground.data }, { on := 10, ground := Ground.chain }, { on := 0, ground := Ground.phase }, { on := 1, ground := Ground.phase }, { on := 2, ground := Ground.textOnly Departure.lateStores }, { on := 3, ground := Ground.textOnly Departure.lateStores }, { on := 4, ground := Ground.textOnly Departure.lateStores }, { on := 5, ground := Ground.textOnly Departure.lateStores }, { on := 6, ground := Ground.textOnly Departure.lateStores }, { on := 7, ground := Ground.textOnly Departure.lateStores }, { on := 8, ground := Ground.textOnly Departure.lateStores }, { on := 9, ground := Ground.textOnly Departure.lateStores }, { on := 10, ground := Ground.phase }], guard := none }) (by kernel_rfl) rfl (fun K' hK => ?_)
  rw [if_pos (by rfl)]
  go_simp
  refine hK.out _ _ ((((((((((Touch.refl [w.heap.size + 1 + 1] W4).setCell (Or.inl (by simp)) _).setCell (Or.inl (by simp)) _).setCell (Or.inl (by simp)) _).setCell (Or.inl (by simp)) _).setCell (Or.inl (by simp)) _).setCell (Or.inl (by simp)) _).setCell (Or.inl (by simp)) _).setCell (Or.inl (by simp)) _).drew) ?_
  clear hK
  try simp only [Go.Act.put, List.setIfInBounds_toArray, List.set_cons_zero, List.set_cons_succ]
  refine wpH_take (i := 12) (v := (.bool true)) (some 8) rfl rfl (by kernel_rfl) (by kernel_rfl) (by kernel_rfl) (fun _ _ _ h => h) (Or.inl ⟨by rfl, fun w' hS => (by go_simp)⟩) ((((((((((Touch.refl [w.heap.size + 1 + 1] W4).setCell (Or.inl (by simp)) _).setCell (Or.inl (by simp)) _).setCell (Or.inl (by simp)) _).setCell (Or.inl (by simp)) _).setCell (Or.inl (by simp)) _).setCell (Or.inl (by simp)) _).setCell (Or.inl (by simp)) _).setCell (Or.inl (by simp)) _).drew) ?_
  try simp only [Go.Act.put, List.setIfInBounds_toArray, List.set_cons_zero, List.set_cons_succ]
  refine wpAnyH_done (by kernel_rfl) ?_ _
  clear M0 M1 M2 M3 M4 M5 M6 M7 k0
  go_wp2
  exact bodyPost_ret (v := .tuple #[.pointer (some ⟨b, 0, none⟩), .agg #[.slice a5 n5 cp5, .bool T.kept, .bool T.canc, .bool T.ended, .int .i64 T.out.1, .int .i64 T.out.2.1, .int .i64 T.out.2.2.1, .int .i64 T.out.2.2.2], .bool true]) (by simp [results, Try.results7, go_sem, d0, d1, d2, d3, d4, d5, d6, d7]) rfl ⟨b, _, rfl, HG.out _ ((((((((((Touch.refl [w.heap.size + 1 + 1] W4).setCell (Or.inl (by simp)) _).setCell (Or.inl (by simp)) _).setCell (Or.inl (by simp)) _).setCell (Or.inl (by simp)) _).setCell (Or.inl (by simp)) _).setCell (Or.inl (by simp)) _).setCell (Or.inl (by simp)) _).setCell (Or.inl (by simp)) _).drew)⟩
set_option maxHeartbeats 4000000 in
set_option maxRecDepth 100000 in
theorem one7_rel (w : World) (b N : Nat) (F : List Nat) (R : Rn) (S : St) (u : Value) (ac : ActR) (h : Rq w b F R S N) (hu : Rd w u S.who) (ap : Ap S.who u F) (hN : N + 1 ≤ 3000000000000) (ha : WfA ac) (hk : ac.kd = 2) : Calls Try.prog 7 #[PT b, dv u S, av ac] w fun e w' => OnE e w w' F R (relS S) N := by
  obtain ⟨a0, cp0, rfl, _, _⟩ := hu.form
  have hle : S.who.length ≤ 3000000000000 := Nat.le_trans h.wlen (by omega)
  obtain ⟨V, hV⟩ : ∃ V, V = ((w.alloc (.cells (dc (.slice a0 S.who.length cp0) S) 39)).alloc (.cells (ca ac) 46)).alloc (.cells z39 39) := ⟨_, rfl⟩
  obtain ⟨tv, hsz, hb0, hb1, hb2⟩ := boxA w (.slice a0 S.who.length cp0) S ac V hV
  have hiv := h.iv
  have hlt := h.lt
  have nF : ∀ i, w.heap.size ≤ i → ¬ i ∈ F := fun i hi e => by have := hlt i e; omega
  have HP := hid (release14 V b N F R S (h.keep0 tv) (by omega))
  unfold RqE at HP
  have HA : Hid (∀ w2, Touch F V w2 → Dcs w2 w.heap.size (.slice a0 S.who.length cp0) S ∧ w2.cell? ⟨w.heap.size + 1, 1, none⟩ = some (.int .i64 ac.cl) ∧ Rd w2 (.slice a0 S.who.length cp0) S.who) := fun w2 T =>
    ⟨dcs_at (T.keep hb0 (nF _ (Nat.le_refl _))), cell_at (T.keep hb1 (nF _ (by omega))) rfl, (hu.keep0 tv).keepN T (fun hx q hq => ap hx q hq)⟩
  have HB : Hid (∀ w2, Touch F V w2 → Dcs w2 (w.heap.size + 1 + 1) (.slice none 0 0) Sz ∧ (∀ i, w2.frozen? ⟨w.heap.size + 1 + 1, i, none⟩ = false)) := fun w2 T => by
    have q := T.keep hb2 (nF _ (by omega))
    exact ⟨dcs_at q, froz_at q⟩
  have HD : Hid (∀ w2, Rd w2 (.slice a0 S.who.length cp0) S.who → Calls Try.prog 24 #[dv (.slice a0 S.who.length cp0) S] w2 fun e w3 => RjE e w2 w3 (.slice a0 S.who.length cp0) (relS S) (fun v => .tuple #[v, .bool (relB S)])) := fun w2 r => rrel24 w2 _ S r hle hiv
  have HFN : Hid (∀ w2 F2 w3 u' W4 W5, Rq w2 b F2 R (relS S) N → Touch F V w2 → Nf V F F2 → Rd w3 u' (relS S).who → Un w2 (.slice a0 S.who.length cp0) u' → Touch [] w2 w3 → Touch [] w3 W4 → Touch [w.heap.size + 1 + 1] W4 W5 → OnQ w W5 F R (relS S) N b u') := fun w2 F2 w3 u' W4 W5 x1 x2 x3 x4 x5 x6 x7 x8 => on_fin h hu ap tv (by omega) (by omega) x1 (by omega) x2 x3 x4 x5 x6 x7 x8
  have HB2 := hid hsz
  have y0 := cell_at (j := 0) (v := .int .i64 ac.kd) hb1 rfl
  have y1 := cell_at (j := 1) (v := .int .i64 ac.cl) hb1 rfl
  rw [hk] at y0
  clear h hu ap hle tv hsz hb0 hb1 hb2 hiv hlt nF ha hN
  obtain ⟨T, hT⟩ : ∃ T, T = relS S := ⟨_, rfl⟩
  have HTT := hid hT
  rw [← hT] at HP HD HFN ⊢
  clear hT
  generalize relB S = B at *
  unfold PT at *
  unfold av
  unfold dv dc
  unfold dc ca z39 at hV
  rw [hk] at hV ⊢
  clear hk
  go_enter Try.func7, Try.ntmps7
  go_upto_region 1 with fail
  rw [← hV]
  clear hV
  go_upto_region 12 with (go_at_call 14; refine HP.out.mono ?_; rintro e w2 ⟨rfl, F2, q1, q2, q3⟩; have Q1 := hid q1; have Q2 := hid (And.intro q2 q3); clear q1 q2 q3)
  obtain ⟨⟨c0, c1, c2, c3, c4, c5, c6, c7⟩, z1, hr⟩ := HA.out w2 Q2.out.1
  have HD2 := hid (HD.out w2 hr)
  unfold RjE at HD2
  unfold dv dc at HD2
  clear hr HA HD y0 y1
  go_upto_region 13 with (go_at_call 24; refine HD2.out.mono ?_; rintro e w3 ⟨u5, rfl, r1, r2, r3⟩; obtain ⟨a5, n5, cp5, rfl⟩ := rd_form r1; have R1 := hid (And.intro r1 (And.intro r2 r3)); clear r1 r2 r3)
  obtain ⟨W4, hW4⟩ : ∃ W4, W4 = w3.alloc (.cells #[.slice a5 n5 cp5, .bool T.kept, .bool T.canc, .bool T.ended, .int .i64 T.out.1, .int .i64 T.out.2.1, .int .i64 T.out.2.2.1, .int .i64 T.out.2.2.2] 39) := ⟨_, rfl⟩
  have t34 : Touch [] w3 W4 := by rw [hW4]; exact (Touch.refl _ _).alloc _
  have hM : ∀ w', Touch [w.heap.size + 1 + 1] W4 w' → Dcs w' w3.heap.size (.slice a5 n5 cp5) T := fun w' X => dcs_at (X.keep (by rw [hW4]; exact heap_alloc_new w3 _) (by have := (HB2.out); have := R1.out.2.2.size; have := Q2.out.1.size; simp; omega))
  have M0 := fun w' X => (hM w' X).c0
  have M1 := fun w' X => (hM w' X).c1
  have M2 := fun w' X => (hM w' X).c2
  have M3 := fun w' X => (hM w' X).c3
  have M4 := fun w' X => (hM w' X).c4
  have M5 := fun w' X => (hM w' X).c5
  have M6 := fun w' X => (hM w' X).c6
  have M7 := fun w' X => (hM w' X).c7
  have HG : Hid (∀ W5, Touch [w.heap.size + 1 + 1] W4 W5 → OnQ w W5 F R T N b (.slice a5 n5 cp5)) := fun W5 X => HFN.out w2 F2 w3 _ W4 W5 Q1.out Q2.out.1 Q2.out.2 R1.out.1 R1.out.2.1 R1.out.2.2 t34 X
  obtain ⟨⟨d0, d1, d2, d3, d4, d5, d6, d7⟩, gg⟩ := HB.out W4 ((Q2.out.1.trans (R1.out.2.2) (fun _ q => by cases q)).trans t34 (fun _ q => by cases q))
  rw [← hW4]
  clear hW4 t34 hM HFN HB Q1 Q2 R1 c0 c1 c2 c3 c4 c5 c6 c7 z1 HD2 HP
  have k0 : Touch [w.heap.size + 1 + 1] W4 W4.drew := (Touch.refl _ _).drew
  refine wp_region_H (S := fun w' => Touch [w.heap.size + 1 + 1] W4 w') (by kernel_rfl) ?_
  refine wpH_take (i := 0) (v := (.pointer (some ⟨b, 0, none⟩))) (some 83) rfl rfl (by kernel_rfl) (by kernel_rfl) (by kernel_rfl) (fun _ _ _ h => h) (Or.inl ⟨by rfl, fun w' hS => (by go_simp)⟩) k0 ?_
  try simp only [Go.Act.put, List.setIfInBounds_toArray, List.set_cons_zero, List.set_cons_succ]
  refine wpH_take (i := 1) (v := (.agg #[.slice a5 n5 cp5, .bool T.kept, .bool T.canc, .bool T.ended, .int .i64 T.out.1, .int .i64 T.out.2.1, .int .i64 T.out.2.2.1, .int .i64 T.out.2.2.2])) (some 84) rfl rfl (by kernel_rfl) (by kernel_rfl) (by kernel_rfl) (fun _ _ _ h => h) (Or.inl ⟨by rfl, fun w' hS => (by have z0 := M0 _ hS; have z1 := M1 _ hS; have z2 := M2 _ hS; have z3 := M3 _ hS; have z4 := M4 _ hS; have z5 := M5 _ hS; have z6 := M6 _ hS; have z7 := M7 _ hS; go_simp)⟩) k0 ?_
  try simp only [Go.Act.put, List.setIfInBounds_toArray, List.set_cons_zero, List.set_cons_succ]
  refine wpH_take (i := 2) (v := (.bool B)) (some 85) rfl rfl (by kernel_rfl) (by kernel_rfl) (by kernel_rfl) (fun _ _ _ h => h) (Or.inl ⟨by rfl, fun w' hS => (by go_simp)⟩) k0 ?_
  try simp only [Go.Act.put, List.setIfInBounds_toArray, List.set_cons_zero, List.set_cons_succ]
  refine wpH_take (i := 3) (v := (.bool B)) (some 86) rfl rfl (by kernel_rfl) (by kernel_rfl) (by kernel_rfl) (fun _ _ _ h => h) (Or.inl ⟨by rfl, fun w' hS => (by go_simp)⟩) k0 ?_
  try simp only [Go.Act.put, List.setIfInBounds_toArray, List.set_cons_zero, List.set_cons_succ]
  refine wpH_take (i := 4) (v := (.bool true)) (some 87) rfl rfl (by kernel_rfl) (by kernel_rfl) (by kernel_rfl) (fun _ _ _ h => h) (Or.inl ⟨by rfl, fun w' hS => (by go_simp)⟩) k0 ?_
  try simp only [Go.Act.put, List.setIfInBounds_toArray, List.set_cons_zero, List.set_cons_succ]
  refine wpH_take (i := 5) (v := (.pointer (some ⟨b, 0, none⟩))) (some 6) rfl rfl (by kernel_rfl) (by kernel_rfl) (by kernel_rfl) (fun _ _ _ h => h) (Or.inl ⟨by rfl, fun w' hS => (by go_simp)⟩) k0 ?_
  try simp only [Go.Act.put, List.setIfInBounds_toArray, List.set_cons_zero, List.set_cons_succ]
  refine wpH_call (i := 6) (o := { dst := none, op := Op.store 39 (Operand.tmp 7) (Operand.tmp 84), type := 0, pos := _, after := #[{ on := 1, ground := Ground.data }, { on := 5, ground := Ground.chain }, { on := 0, ground := Ground.phase }, { on := 1, ground := Ground.phase }, { on := 2, ground := Ground.textOnly Departure.lateStores }, { on := 3, ground := Ground.textOnly Departure.lateStores }, { on := 4, ground := Ground.textOnly Departure.lateStores }, { on := 5, ground := Ground.phase }], guard := none }) (by kernel_rfl) rfl (fun K' hK => ?_)
  rw [if_pos (by rfl)]
  go_simp
  refine hK.out _ _ ((((((((((Touch.refl [w.heap.size + 1 + 1] W4).setCell (Or.inl (by simp)) _).setCell (Or.inl (by simp)) _).setCell (Or.inl (by simp)) _).setCell (Or.inl (by simp)) _).setCell (Or.inl (by simp)) _).setCell (Or.inl (by simp)) _).setCell (Or.inl (by simp)) _).setCell (Or.inl (by simp)) _).drew) ?_
  clear hK
  try simp only [Go.Act.put, List.setIfInBounds_toArray, List.set_cons_zero, List.set_cons_succ]
  refine wpH_take (i := 7) (v := (.bool true)) (some 8) rfl rfl (by kernel_rfl) (by kernel_rfl) (by kernel_rfl) (fun _ _ _ h => h) (Or.inl ⟨by rfl, fun w' hS => (by go_simp)⟩) ((((((((((Touch.refl [w.heap.size + 1 + 1] W4).setCell (Or.inl (by simp)) _).setCell (Or.inl (by simp)) _).setCell (Or.inl (by simp)) _).setCell (Or.inl (by simp)) _).setCell (Or.inl (by simp)) _).setCell (Or.inl (by simp)) _).setCell (Or.inl (by simp)) _).setCell (Or.inl (by simp)) _).drew) ?_
  try simp only [Go.Act.put, List.setIfInBounds_toArray, List.set_cons_zero, List.set_cons_succ]
  refine wpAnyH_done (by kernel_rfl) ?_ _
  clear M0 M1 M2 M3 M4 M5 M6 M7 k0
  go_wp2
  exact bodyPost_ret (v := .tuple #[.pointer (some ⟨b, 0, none⟩), .agg #[.slice a5 n5 cp5, .bool T.kept, .bool T.canc, .bool T.ended, .int .i64 T.out.1, .int .i64 T.out.2.1, .int .i64 T.out.2.2.1, .int .i64 T.out.2.2.2], .bool true]) (by simp [results, Try.results7, go_sem, d0, d1, d2, d3, d4, d5, d6, d7]) rfl ⟨b, _, rfl, HG.out _ ((((((((((Touch.refl [w.heap.size + 1 + 1] W4).setCell (Or.inl (by simp)) _).setCell (Or.inl (by simp)) _).setCell (Or.inl (by simp)) _).setCell (Or.inl (by simp)) _).setCell (Or.inl (by simp)) _).setCell (Or.inl (by simp)) _).setCell (Or.inl (by simp)) _).setCell (Or.inl (by simp)) _).drew)⟩
end Go.Proofs.Ytaikleaiofpebaa
