/- The law's one: Fill, where there is nothing to fill; no conditions but those that it states. -/
import Derived.Test.YthakboiecdjgnaaDoorCoe
namespace Go.Proofs.YthakboiecdjgnaaDoor.Ci
open Go.RowKit Go.Maps Go.ChangeMaps
set_option linter.unusedVariables false
set_option linter.unusedSimpArgs false
section
variable {B b : Nat} {w w' : World} {pv lv pv2 lv2 : Value} {cs : Array Value} {S : Cs} {T : Ls}
set_option maxHeartbeats 4000000 in
set_option maxRecDepth 20000 in
theorem one_fill_no (h : Iv B w b pv lv cs pv2 lv2 S T) (a1 a2 : Int) (g : Gz) (hn : ¬ (0 ≤ a1 ∧ a1 < 16)) : Calls Tryd.prog 18 #[.pointer (some ⟨b, 0, none⟩), .agg cs, actv 4 a1 a2 g] w fun e w' => OnE e w w' B b lv S := by
  have HI := hid h
  have hb := h.q.lt
  obtain ⟨ap, cp, e2⟩ := own_form h.p2
  subst e2
  have hone : Hid (lv2.oneCell' = true) := hid (by obtain ⟨a, c, e⟩ := own_form h.g2; rw [e]; rfl)
  have HU0 := hid (fun W0 => fill_no a1 a2 g hn W0 b)
  clear h
  obtain ⟨g0', g1, g2, g3, g4, g5, g6⟩ := g
  unfold actv
  dsimp only at *
  obtain ⟨V, hV⟩ : ∃ V, V = ((w.alloc (.cells cs 63)).alloc (.cells #[.int .i64 4, .int .i64 a1, .int .i64 a2, .int .i64 g0', .int .i64 g1, .int .i64 g2, .int .i64 g3, .int .i64 g4, .int .i64 g5, .int .i64 g6] 67)).alloc (.cells Tryd.zeroCells63 63) := ⟨_, rfl⟩
  have TV : Hid (Touch [] w V) := hid (by rw [hV]; exact (((Touch.refl _ _).alloc _).alloc _).alloc _)
  have B4 : Hid (V.heap[w.heap.size]? = some (.cells cs 63 (0, 0))) := hid (by rw [hV]; exact (((Touch.refl [] _).alloc _).alloc _).keep (heap_alloc_new w _) (by simp))
  have B5 : Hid (V.heap[w.heap.size + 1]? = some (.cells #[.int .i64 4, .int .i64 a1, .int .i64 a2, .int .i64 g0', .int .i64 g1, .int .i64 g2, .int .i64 g3, .int .i64 g4, .int .i64 g5, .int .i64 g6] 67 (0, 0))) := hid (by
    rw [hV]
    have := heap_alloc_new (w.alloc (.cells cs 63)) (.cells #[.int .i64 4, .int .i64 a1, .int .i64 a2, .int .i64 g0', .int .i64 g1, .int .i64 g2, .int .i64 g3, .int .i64 g4, .int .i64 g5, .int .i64 g6] 67)
    rw [World.size_alloc] at this
    exact ((Touch.refl [] _).alloc _).keep this (by simp))
  have B7 : Hid (V.heap[w.heap.size + 2]? = some (.cells Tryd.zeroCells63 63 (0, 0))) := hid (by
    rw [hV]
    have := heap_alloc_new ((w.alloc (.cells cs 63)).alloc (.cells #[.int .i64 4, .int .i64 a1, .int .i64 a2, .int .i64 g0', .int .i64 g1, .int .i64 g2, .int .i64 g3, .int .i64 g4, .int .i64 g5, .int .i64 g6] 67)) (.cells Tryd.zeroCells63 63)
    rwa [World.size_alloc, World.size_alloc] at this)
  have key : (decide (0 ≤ a1) = false) ∨ (0 ≤ a1 ∧ decide (a1 < 16) = false) := by simp only [decide_eq_false_iff_not]; omega
  clear hn
  rcases key with k0 | ⟨k0, k1⟩
  · go_enter Tryd.func18, Tryd.ntmps18
    go_upto_region 1 with fail
    rw [← hV]
    clear hV
    have v0 := cell_at (j := 0) B5.out rfl
    have v1 := cell_at (j := 1) B5.out rfl
    have v2 := cell_at (j := 2) B5.out rfl
    have HN1 : Hid (cs.size = 148) := hid HI.out.s.n
    have HO1 : Hid (cs.all (·.oneCell') = true) := hid (HI.out.s.one rfl hone.out)
    go_upto_region 27 with fail
    go_quiet (fail)
    go_upto_region 30 with fail
    clear v0 v1 v2
    obtain ⟨W0, hW0⟩ : ∃ W0, W0 = (V.drewN nq).drew := ⟨_, rfl⟩
    have tb : Touch [w.heap.size] V W0 := by rw [hW0]; exact ⟨rfl, rfl, rfl, Nat.le_refl _, fun _ _ _ => rfl⟩
    have S0 : (fun (w' : World) => w'.heap[w.heap.size]? = some (.cells cs 63 (0, 0)) ∧ w'.heap[w.heap.size + 1]? = some (.cells #[.int .i64 4, .int .i64 a1, .int .i64 a2, .int .i64 g0', .int .i64 g1, .int .i64 g2, .int .i64 g3, .int .i64 g4, .int .i64 g5, .int .i64 g6] 67 (0, 0))) W0 := And.intro (by rw [hW0]; exact B4.out) (tb.keep B5.out (by simp))
    dsimp only at S0
    have HFI := hid ((HI.out.touch TV.out).box B4.out tb)
    have HU := hid (HU0.out W0)
    have TW : Hid (Touch (b :: lv.ownBlock.toList) w W0) := hid ((TV.out.mono (fun _ e => by cases e)).trans tb (fun k hk => Or.inr (by simp at hk; omega)))
    have B7' := hid (tb.keep B7.out (by simp))
    have F1 : ∀ w' : World, (w'.heap[w.heap.size]? = some (.cells cs 63 (0, 0)) ∧ w'.heap[w.heap.size + 1]? = some (.cells #[.int .i64 4, .int .i64 a1, .int .i64 a2, .int .i64 g0', .int .i64 g1, .int .i64 g2, .int .i64 g3, .int .i64 g4, .int .i64 g5, .int .i64 g6] 67 (0, 0))) → w'.cell? ⟨w.heap.size + 1, 1, none⟩ = some (.int .i64 a1) := fun w' h => cell_at h.2 rfl
    have F2 : ∀ w' : World, (w'.heap[w.heap.size]? = some (.cells cs 63 (0, 0)) ∧ w'.heap[w.heap.size + 1]? = some (.cells #[.int .i64 4, .int .i64 a1, .int .i64 a2, .int .i64 g0', .int .i64 g1, .int .i64 g2, .int .i64 g3, .int .i64 g4, .int .i64 g5, .int .i64 g6] 67 (0, 0))) → w'.cell? ⟨w.heap.size + 1, 2, none⟩ = some (.int .i64 a2) := fun w' h => cell_at h.2 rfl
    have F3 : ∀ w' : World, (w'.heap[w.heap.size]? = some (.cells cs 63 (0, 0)) ∧ w'.heap[w.heap.size + 1]? = some (.cells #[.int .i64 4, .int .i64 a1, .int .i64 a2, .int .i64 g0', .int .i64 g1, .int .i64 g2, .int .i64 g3, .int .i64 g4, .int .i64 g5, .int .i64 g6] 67 (0, 0))) → w'.cell? ⟨w.heap.size + 1, 3, none⟩ = some (.int .i64 g0') := fun w' h => cell_at h.2 rfl
    have F4 : ∀ w' : World, (w'.heap[w.heap.size]? = some (.cells cs 63 (0, 0)) ∧ w'.heap[w.heap.size + 1]? = some (.cells #[.int .i64 4, .int .i64 a1, .int .i64 a2, .int .i64 g0', .int .i64 g1, .int .i64 g2, .int .i64 g3, .int .i64 g4, .int .i64 g5, .int .i64 g6] 67 (0, 0))) → w'.cell? ⟨w.heap.size + 1, 4, none⟩ = some (.int .i64 g1) := fun w' h => cell_at h.2 rfl
    have F5 : ∀ w' : World, (w'.heap[w.heap.size]? = some (.cells cs 63 (0, 0)) ∧ w'.heap[w.heap.size + 1]? = some (.cells #[.int .i64 4, .int .i64 a1, .int .i64 a2, .int .i64 g0', .int .i64 g1, .int .i64 g2, .int .i64 g3, .int .i64 g4, .int .i64 g5, .int .i64 g6] 67 (0, 0))) → w'.cell? ⟨w.heap.size + 1, 5, none⟩ = some (.int .i64 g2) := fun w' h => cell_at h.2 rfl
    have F6 : ∀ w' : World, (w'.heap[w.heap.size]? = some (.cells cs 63 (0, 0)) ∧ w'.heap[w.heap.size + 1]? = some (.cells #[.int .i64 4, .int .i64 a1, .int .i64 a2, .int .i64 g0', .int .i64 g1, .int .i64 g2, .int .i64 g3, .int .i64 g4, .int .i64 g5, .int .i64 g6] 67 (0, 0))) → w'.cell? ⟨w.heap.size + 1, 6, none⟩ = some (.int .i64 g3) := fun w' h => cell_at h.2 rfl
    have F7 : ∀ w' : World, (w'.heap[w.heap.size]? = some (.cells cs 63 (0, 0)) ∧ w'.heap[w.heap.size + 1]? = some (.cells #[.int .i64 4, .int .i64 a1, .int .i64 a2, .int .i64 g0', .int .i64 g1, .int .i64 g2, .int .i64 g3, .int .i64 g4, .int .i64 g5, .int .i64 g6] 67 (0, 0))) → w'.cell? ⟨w.heap.size + 1, 7, none⟩ = some (.int .i64 g4) := fun w' h => cell_at h.2 rfl
    have F8 : ∀ w' : World, (w'.heap[w.heap.size]? = some (.cells cs 63 (0, 0)) ∧ w'.heap[w.heap.size + 1]? = some (.cells #[.int .i64 4, .int .i64 a1, .int .i64 a2, .int .i64 g0', .int .i64 g1, .int .i64 g2, .int .i64 g3, .int .i64 g4, .int .i64 g5, .int .i64 g6] 67 (0, 0))) → w'.cell? ⟨w.heap.size + 1, 8, none⟩ = some (.int .i64 g5) := fun w' h => cell_at h.2 rfl
    have F9 : ∀ w' : World, (w'.heap[w.heap.size]? = some (.cells cs 63 (0, 0)) ∧ w'.heap[w.heap.size + 1]? = some (.cells #[.int .i64 4, .int .i64 a1, .int .i64 a2, .int .i64 g0', .int .i64 g1, .int .i64 g2, .int .i64 g3, .int .i64 g4, .int .i64 g5, .int .i64 g6] 67 (0, 0))) → w'.cell? ⟨w.heap.size + 1, 9, none⟩ = some (.int .i64 g6) := fun w' h => cell_at h.2 rfl
    refine wp_region_H (S := fun (w' : World) => w'.heap[w.heap.size]? = some (.cells cs 63 (0, 0)) ∧ w'.heap[w.heap.size + 1]? = some (.cells #[.int .i64 4, .int .i64 a1, .int .i64 a2, .int .i64 g0', .int .i64 g1, .int .i64 g2, .int .i64 g3, .int .i64 g4, .int .i64 g5, .int .i64 g6] 67 (0, 0))) (by kernel_rfl) ?_
    rw [← hW0]
    clear hW0 tb
    refine wpH_take (i := 0) (v := (.pointer (some ⟨b, 0, none⟩))) (some 162) rfl rfl (by kernel_rfl) (by kernel_rfl) (by kernel_rfl) (fun _ _ _ h => h) (Or.inl ⟨by rfl, fun w' hS => (by go_simp)⟩) S0 ?_
    try simp only [Go.Act.put, List.setIfInBounds_toArray, List.set_cons_zero, List.set_cons_succ]
    refine wpH_take (i := 1) (v := (.agg cs)) (some 163) rfl rfl (by kernel_rfl) (by kernel_rfl) (by kernel_rfl) (fun _ _ _ h => h) (Or.inl ⟨by rfl, fun w' hS => exec_loadT bigS _ rfl rfl hS.1 HN1.out⟩) S0 ?_
    try simp only [Go.Act.put, List.setIfInBounds_toArray, List.set_cons_zero, List.set_cons_succ]
    refine wpH_take (i := 2) (v := (.pointer (some ⟨b, 0, none⟩))) (some 164) rfl rfl (by kernel_rfl) (by kernel_rfl) (by kernel_rfl) (fun _ _ _ h => h) (Or.inl ⟨by rfl, fun w' hS => (by go_simp)⟩) S0 ?_
    try simp only [Go.Act.put, List.setIfInBounds_toArray, List.set_cons_zero, List.set_cons_succ]
    refine wpH_take (i := 3) (v := (.pointer (some ⟨w.heap.size + 1, 1, none⟩))) (some 165) rfl rfl (by kernel_rfl) (by kernel_rfl) (by kernel_rfl) (fun _ _ _ h => h) (Or.inl ⟨by rfl, fun w' hS => (by go_simp)⟩) S0 ?_
    try simp only [Go.Act.put, List.setIfInBounds_toArray, List.set_cons_zero, List.set_cons_succ]
    refine wpH_take (i := 4) (v := (.int .i64 a1)) (some 166) rfl rfl (by kernel_rfl) (by kernel_rfl) (by kernel_rfl) (fun _ _ _ h => h) (Or.inl ⟨by rfl, fun w' hS => (by have z0 := F1 _ hS; go_simp)⟩) S0 ?_
    try simp only [Go.Act.put, List.setIfInBounds_toArray, List.set_cons_zero, List.set_cons_succ]
    refine wpH_take (i := 5) (v := (.pointer (some ⟨w.heap.size + 1, 2, none⟩))) (some 167) rfl rfl (by kernel_rfl) (by kernel_rfl) (by kernel_rfl) (fun _ _ _ h => h) (Or.inl ⟨by rfl, fun w' hS => (by go_simp)⟩) S0 ?_
    try simp only [Go.Act.put, List.setIfInBounds_toArray, List.set_cons_zero, List.set_cons_succ]
    refine wpH_take (i := 6) (v := (.int .i64 a2)) (some 168) rfl rfl (by kernel_rfl) (by kernel_rfl) (by kernel_rfl) (fun _ _ _ h => h) (Or.inl ⟨by rfl, fun w' hS => (by have z0 := F2 _ hS; go_simp)⟩) S0 ?_
    try simp only [Go.Act.put, List.setIfInBounds_toArray, List.set_cons_zero, List.set_cons_succ]
    refine wpH_take (i := 7) (v := (.pointer (some ⟨w.heap.size + 1, 3, none⟩))) (some 169) rfl rfl (by kernel_rfl) (by kernel_rfl) (by kernel_rfl) (fun _ _ _ h => h) (Or.inl ⟨by rfl, fun w' hS => (by go_simp)⟩) S0 ?_
    try simp only [Go.Act.put, List.setIfInBounds_toArray, List.set_cons_zero, List.set_cons_succ]
    refine wpH_take (i := 8) (v := (.agg #[.int .i64 g0', .int .i64 g1, .int .i64 g2, .int .i64 g3, .int .i64 g4, .int .i64 g5, .int .i64 g6])) (some 170) rfl rfl (by kernel_rfl) (by kernel_rfl) (by kernel_rfl) (fun _ _ _ h => h) (Or.inl ⟨by rfl, fun w' hS => (by have z0 := F3 _ hS; have z1 := F4 _ hS; have z2 := F5 _ hS; have z3 := F6 _ hS; have z4 := F7 _ hS; have z5 := F8 _ hS; have z6 := F9 _ hS; go_simp)⟩) S0 ?_
    try simp only [Go.Act.put, List.setIfInBounds_toArray, List.set_cons_zero, List.set_cons_succ]
    refine wpH_take (i := 10) (v := (.bool false)) (some 172) rfl rfl (by kernel_rfl) (by kernel_rfl) (by kernel_rfl) (fun _ _ _ h => h) (Or.inl ⟨by rfl, fun w' hS => (by go_simp)⟩) S0 ?_
    try simp only [Go.Act.put, List.setIfInBounds_toArray, List.set_cons_zero, List.set_cons_succ]
    refine wpH_call (i := 9) (o := { dst := some 171, op := Op.call { callee := Callee.value (Operand.func 27), args := #[Operand.tmp 164, Operand.tmp 166, Operand.tmp 168, Operand.tmp 170], argTypes := #[50, 3, 3, 60] }, type := 4, pos := _, after := #[{ on := 2, ground := Ground.data }, { on := 4, ground := Ground.data }, { on := 6, ground := Ground.data }, { on := 8, ground := Ground.data }], guard := none }) (by kernel_rfl) rfl (fun K' hK => ?_)
    rw [if_pos (by rfl)]
    go_simp
    refine HU.out.mono ?_
    rintro e w5 ⟨rfl, t5⟩
    have S5 := And.intro (t5.keep S0.1 (by simp)) (t5.keep S0.2 (by simp))
    have B75 := hid (t5.keep B7'.out (by simp))
    have F5 := hid (HFI.out.touch t5)
    have T5 := hid (TW.out.trans t5 (fun k hk => by cases hk))
    clear t5
    refine hK.out _ _ S5 ?_
    clear hK
    try simp only [Go.Act.put, List.setIfInBounds_toArray, List.set_cons_zero, List.set_cons_succ]
    refine wpH_take (i := 11) (v := (.bool true)) (some 173) rfl rfl (by kernel_rfl) (by kernel_rfl) (by kernel_rfl) (fun _ _ _ h => h) (Or.inl ⟨by rfl, fun w' hS => (by go_simp)⟩) S5 ?_
    try simp only [Go.Act.put, List.setIfInBounds_toArray, List.set_cons_zero, List.set_cons_succ]
    refine wpH_take (i := 12) (v := (.pointer (some ⟨b, 0, none⟩))) (some 6) rfl rfl (by kernel_rfl) (by kernel_rfl) (by kernel_rfl) (fun _ _ _ h => h) (Or.inl ⟨by rfl, fun w' hS => (by go_simp)⟩) S5 ?_
    try simp only [Go.Act.put, List.setIfInBounds_toArray, List.set_cons_zero, List.set_cons_succ]
    refine wpH_call (i := 13) (o := { dst := none, op := Op.store 63 (Operand.tmp 7) (Operand.tmp 163), type := 0, pos := _, after := #[{ on := 1, ground := Ground.data }, { on := 12, ground := Ground.chain }, { on := 0, ground := Ground.phase }, { on := 1, ground := Ground.phase }, { on := 2, ground := Ground.textOnly Departure.lateStores }, { on := 3, ground := Ground.textOnly Departure.lateStores }, { on := 4, ground := Ground.textOnly Departure.lateStores }, { on := 5, ground := Ground.textOnly Departure.lateStores }, { on := 6, ground := Ground.textOnly Departure.lateStores }, { on := 7, ground := Ground.textOnly Departure.lateStores }, { on := 8, ground := Ground.textOnly Departure.lateStores }, { on := 9, ground := Ground.textOnly Departure.lateStoresUnsure }, { on := 10, ground := Ground.textOnly Departure.lateStores }, { on := 11, ground := Ground.textOnly Departure.lateStores }, { on := 12, ground := Ground.phase }], guard := none }) (by kernel_rfl) rfl (fun K' hK => ?_)
    rw [if_pos (by rfl)]
    refine wp_storeT bigS (Operand.tmp 7) (Operand.tmp 163) rfl (w.heap.size + 2) _ cs 63 rfl rfl B75.out zs_size HN1.out HO1.out (fun w7 h7 t7 s7 => ?_)
    have S7 := And.intro (t7.keep S5.1 (by simp)) (t7.keep S5.2 (by simp))
    refine hK.out _ _ S7 ?_
    clear hK
    try simp only [Go.Act.put, List.setIfInBounds_toArray, List.set_cons_zero, List.set_cons_succ]
    refine wpH_take (i := 14) (v := (.bool true)) (some 8) rfl rfl (by kernel_rfl) (by kernel_rfl) (by kernel_rfl) (fun _ _ _ h => h) (Or.inl ⟨by rfl, fun w' hS => (by go_simp)⟩) S7 ?_
    try simp only [Go.Act.put, List.setIfInBounds_toArray, List.set_cons_zero, List.set_cons_succ]
    refine wpAnyH_done (by kernel_rfl) ?_ _
    go_wp2_with fail
    refine bodyPost_ret (results_one rfl _ _ rfl h7 HN1.out) rfl ?_
    exact ⟨b, pv, lv, _, _, lv2, _, _, rfl, F5.out.box B75.out t7, Nat.le_succ _, rfl, T5.out.trans t7 (fun k hk => Or.inr (by simp at hk; omega))⟩
  · go_enter Tryd.func18, Tryd.ntmps18
    go_upto_region 1 with fail
    rw [← hV]
    clear hV
    have v0 := cell_at (j := 0) B5.out rfl
    have v1 := cell_at (j := 1) B5.out rfl
    have v2 := cell_at (j := 2) B5.out rfl
    have HN1 : Hid (cs.size = 148) := hid HI.out.s.n
    have HO1 : Hid (cs.all (·.oneCell') = true) := hid (HI.out.s.one rfl hone.out)
    go_upto_region 27 with fail
    go_quiet (fail)
    go_upto_region 30 with fail
    clear v0 v1 v2
    obtain ⟨W0, hW0⟩ : ∃ W0, W0 = (V.drewN nq).drew := ⟨_, rfl⟩
    have tb : Touch [w.heap.size] V W0 := by rw [hW0]; exact ⟨rfl, rfl, rfl, Nat.le_refl _, fun _ _ _ => rfl⟩
    have S0 : (fun (w' : World) => w'.heap[w.heap.size]? = some (.cells cs 63 (0, 0)) ∧ w'.heap[w.heap.size + 1]? = some (.cells #[.int .i64 4, .int .i64 a1, .int .i64 a2, .int .i64 g0', .int .i64 g1, .int .i64 g2, .int .i64 g3, .int .i64 g4, .int .i64 g5, .int .i64 g6] 67 (0, 0))) W0 := And.intro (by rw [hW0]; exact B4.out) (tb.keep B5.out (by simp))
    dsimp only at S0
    have HFI := hid ((HI.out.touch TV.out).box B4.out tb)
    have HU := hid (HU0.out W0)
    have TW : Hid (Touch (b :: lv.ownBlock.toList) w W0) := hid ((TV.out.mono (fun _ e => by cases e)).trans tb (fun k hk => Or.inr (by simp at hk; omega)))
    have B7' := hid (tb.keep B7.out (by simp))
    have F1 : ∀ w' : World, (w'.heap[w.heap.size]? = some (.cells cs 63 (0, 0)) ∧ w'.heap[w.heap.size + 1]? = some (.cells #[.int .i64 4, .int .i64 a1, .int .i64 a2, .int .i64 g0', .int .i64 g1, .int .i64 g2, .int .i64 g3, .int .i64 g4, .int .i64 g5, .int .i64 g6] 67 (0, 0))) → w'.cell? ⟨w.heap.size + 1, 1, none⟩ = some (.int .i64 a1) := fun w' h => cell_at h.2 rfl
    have F2 : ∀ w' : World, (w'.heap[w.heap.size]? = some (.cells cs 63 (0, 0)) ∧ w'.heap[w.heap.size + 1]? = some (.cells #[.int .i64 4, .int .i64 a1, .int .i64 a2, .int .i64 g0', .int .i64 g1, .int .i64 g2, .int .i64 g3, .int .i64 g4, .int .i64 g5, .int .i64 g6] 67 (0, 0))) → w'.cell? ⟨w.heap.size + 1, 2, none⟩ = some (.int .i64 a2) := fun w' h => cell_at h.2 rfl
    have F3 : ∀ w' : World, (w'.heap[w.heap.size]? = some (.cells cs 63 (0, 0)) ∧ w'.heap[w.heap.size + 1]? = some (.cells #[.int .i64 4, .int .i64 a1, .int .i64 a2, .int .i64 g0', .int .i64 g1, .int .i64 g2, .int .i64 g3, .int .i64 g4, .int .i64 g5, .int .i64 g6] 67 (0, 0))) → w'.cell? ⟨w.heap.size + 1, 3, none⟩ = some (.int .i64 g0') := fun w' h => cell_at h.2 rfl
    have F4 : ∀ w' : World, (w'.heap[w.heap.size]? = some (.cells cs 63 (0, 0)) ∧ w'.heap[w.heap.size + 1]? = some (.cells #[.int .i64 4, .int .i64 a1, .int .i64 a2, .int .i64 g0', .int .i64 g1, .int .i64 g2, .int .i64 g3, .int .i64 g4, .int .i64 g5, .int .i64 g6] 67 (0, 0))) → w'.cell? ⟨w.heap.size + 1, 4, none⟩ = some (.int .i64 g1) := fun w' h => cell_at h.2 rfl
    have F5 : ∀ w' : World, (w'.heap[w.heap.size]? = some (.cells cs 63 (0, 0)) ∧ w'.heap[w.heap.size + 1]? = some (.cells #[.int .i64 4, .int .i64 a1, .int .i64 a2, .int .i64 g0', .int .i64 g1, .int .i64 g2, .int .i64 g3, .int .i64 g4, .int .i64 g5, .int .i64 g6] 67 (0, 0))) → w'.cell? ⟨w.heap.size + 1, 5, none⟩ = some (.int .i64 g2) := fun w' h => cell_at h.2 rfl
    have F6 : ∀ w' : World, (w'.heap[w.heap.size]? = some (.cells cs 63 (0, 0)) ∧ w'.heap[w.heap.size + 1]? = some (.cells #[.int .i64 4, .int .i64 a1, .int .i64 a2, .int .i64 g0', .int .i64 g1, .int .i64 g2, .int .i64 g3, .int .i64 g4, .int .i64 g5, .int .i64 g6] 67 (0, 0))) → w'.cell? ⟨w.heap.size + 1, 6, none⟩ = some (.int .i64 g3) := fun w' h => cell_at h.2 rfl
    have F7 : ∀ w' : World, (w'.heap[w.heap.size]? = some (.cells cs 63 (0, 0)) ∧ w'.heap[w.heap.size + 1]? = some (.cells #[.int .i64 4, .int .i64 a1, .int .i64 a2, .int .i64 g0', .int .i64 g1, .int .i64 g2, .int .i64 g3, .int .i64 g4, .int .i64 g5, .int .i64 g6] 67 (0, 0))) → w'.cell? ⟨w.heap.size + 1, 7, none⟩ = some (.int .i64 g4) := fun w' h => cell_at h.2 rfl
    have F8 : ∀ w' : World, (w'.heap[w.heap.size]? = some (.cells cs 63 (0, 0)) ∧ w'.heap[w.heap.size + 1]? = some (.cells #[.int .i64 4, .int .i64 a1, .int .i64 a2, .int .i64 g0', .int .i64 g1, .int .i64 g2, .int .i64 g3, .int .i64 g4, .int .i64 g5, .int .i64 g6] 67 (0, 0))) → w'.cell? ⟨w.heap.size + 1, 8, none⟩ = some (.int .i64 g5) := fun w' h => cell_at h.2 rfl
    have F9 : ∀ w' : World, (w'.heap[w.heap.size]? = some (.cells cs 63 (0, 0)) ∧ w'.heap[w.heap.size + 1]? = some (.cells #[.int .i64 4, .int .i64 a1, .int .i64 a2, .int .i64 g0', .int .i64 g1, .int .i64 g2, .int .i64 g3, .int .i64 g4, .int .i64 g5, .int .i64 g6] 67 (0, 0))) → w'.cell? ⟨w.heap.size + 1, 9, none⟩ = some (.int .i64 g6) := fun w' h => cell_at h.2 rfl
    refine wp_region_H (S := fun (w' : World) => w'.heap[w.heap.size]? = some (.cells cs 63 (0, 0)) ∧ w'.heap[w.heap.size + 1]? = some (.cells #[.int .i64 4, .int .i64 a1, .int .i64 a2, .int .i64 g0', .int .i64 g1, .int .i64 g2, .int .i64 g3, .int .i64 g4, .int .i64 g5, .int .i64 g6] 67 (0, 0))) (by kernel_rfl) ?_
    rw [← hW0]
    clear hW0 tb
    refine wpH_take (i := 0) (v := (.pointer (some ⟨b, 0, none⟩))) (some 162) rfl rfl (by kernel_rfl) (by kernel_rfl) (by kernel_rfl) (fun _ _ _ h => h) (Or.inl ⟨by rfl, fun w' hS => (by go_simp)⟩) S0 ?_
    try simp only [Go.Act.put, List.setIfInBounds_toArray, List.set_cons_zero, List.set_cons_succ]
    refine wpH_take (i := 1) (v := (.agg cs)) (some 163) rfl rfl (by kernel_rfl) (by kernel_rfl) (by kernel_rfl) (fun _ _ _ h => h) (Or.inl ⟨by rfl, fun w' hS => exec_loadT bigS _ rfl rfl hS.1 HN1.out⟩) S0 ?_
    try simp only [Go.Act.put, List.setIfInBounds_toArray, List.set_cons_zero, List.set_cons_succ]
    refine wpH_take (i := 2) (v := (.pointer (some ⟨b, 0, none⟩))) (some 164) rfl rfl (by kernel_rfl) (by kernel_rfl) (by kernel_rfl) (fun _ _ _ h => h) (Or.inl ⟨by rfl, fun w' hS => (by go_simp)⟩) S0 ?_
    try simp only [Go.Act.put, List.setIfInBounds_toArray, List.set_cons_zero, List.set_cons_succ]
    refine wpH_take (i := 3) (v := (.pointer (some ⟨w.heap.size + 1, 1, none⟩))) (some 165) rfl rfl (by kernel_rfl) (by kernel_rfl) (by kernel_rfl) (fun _ _ _ h => h) (Or.inl ⟨by rfl, fun w' hS => (by go_simp)⟩) S0 ?_
    try simp only [Go.Act.put, List.setIfInBounds_toArray, List.set_cons_zero, List.set_cons_succ]
    refine wpH_take (i := 4) (v := (.int .i64 a1)) (some 166) rfl rfl (by kernel_rfl) (by kernel_rfl) (by kernel_rfl) (fun _ _ _ h => h) (Or.inl ⟨by rfl, fun w' hS => (by have z0 := F1 _ hS; go_simp)⟩) S0 ?_
    try simp only [Go.Act.put, List.setIfInBounds_toArray, List.set_cons_zero, List.set_cons_succ]
    refine wpH_take (i := 5) (v := (.pointer (some ⟨w.heap.size + 1, 2, none⟩))) (some 167) rfl rfl (by kernel_rfl) (by kernel_rfl) (by kernel_rfl) (fun _ _ _ h => h) (Or.inl ⟨by rfl, fun w' hS => (by go_simp)⟩) S0 ?_
    try simp only [Go.Act.put, List.setIfInBounds_toArray, List.set_cons_zero, List.set_cons_succ]
    refine wpH_take (i := 6) (v := (.int .i64 a2)) (some 168) rfl rfl (by kernel_rfl) (by kernel_rfl) (by kernel_rfl) (fun _ _ _ h => h) (Or.inl ⟨by rfl, fun w' hS => (by have z0 := F2 _ hS; go_simp)⟩) S0 ?_
    try simp only [Go.Act.put, List.setIfInBounds_toArray, List.set_cons_zero, List.set_cons_succ]
    refine wpH_take (i := 7) (v := (.pointer (some ⟨w.heap.size + 1, 3, none⟩))) (some 169) rfl rfl (by kernel_rfl) (by kernel_rfl) (by kernel_rfl) (fun _ _ _ h => h) (Or.inl ⟨by rfl, fun w' hS => (by go_simp)⟩) S0 ?_
    try simp only [Go.Act.put, List.setIfInBounds_toArray, List.set_cons_zero, List.set_cons_succ]
    refine wpH_take (i := 8) (v := (.agg #[.int .i64 g0', .int .i64 g1, .int .i64 g2, .int .i64 g3, .int .i64 g4, .int .i64 g5, .int .i64 g6])) (some 170) rfl rfl (by kernel_rfl) (by kernel_rfl) (by kernel_rfl) (fun _ _ _ h => h) (Or.inl ⟨by rfl, fun w' hS => (by have z0 := F3 _ hS; have z1 := F4 _ hS; have z2 := F5 _ hS; have z3 := F6 _ hS; have z4 := F7 _ hS; have z5 := F8 _ hS; have z6 := F9 _ hS; go_simp)⟩) S0 ?_
    try simp only [Go.Act.put, List.setIfInBounds_toArray, List.set_cons_zero, List.set_cons_succ]
    refine wpH_take (i := 10) (v := (.bool false)) (some 172) rfl rfl (by kernel_rfl) (by kernel_rfl) (by kernel_rfl) (fun _ _ _ h => h) (Or.inl ⟨by rfl, fun w' hS => (by go_simp)⟩) S0 ?_
    try simp only [Go.Act.put, List.setIfInBounds_toArray, List.set_cons_zero, List.set_cons_succ]
    refine wpH_call (i := 9) (o := { dst := some 171, op := Op.call { callee := Callee.value (Operand.func 27), args := #[Operand.tmp 164, Operand.tmp 166, Operand.tmp 168, Operand.tmp 170], argTypes := #[50, 3, 3, 60] }, type := 4, pos := _, after := #[{ on := 2, ground := Ground.data }, { on := 4, ground := Ground.data }, { on := 6, ground := Ground.data }, { on := 8, ground := Ground.data }], guard := none }) (by kernel_rfl) rfl (fun K' hK => ?_)
    rw [if_pos (by rfl)]
    go_simp
    refine HU.out.mono ?_
    rintro e w5 ⟨rfl, t5⟩
    have S5 := And.intro (t5.keep S0.1 (by simp)) (t5.keep S0.2 (by simp))
    have B75 := hid (t5.keep B7'.out (by simp))
    have F5 := hid (HFI.out.touch t5)
    have T5 := hid (TW.out.trans t5 (fun k hk => by cases hk))
    clear t5
    refine hK.out _ _ S5 ?_
    clear hK
    try simp only [Go.Act.put, List.setIfInBounds_toArray, List.set_cons_zero, List.set_cons_succ]
    refine wpH_take (i := 11) (v := (.bool true)) (some 173) rfl rfl (by kernel_rfl) (by kernel_rfl) (by kernel_rfl) (fun _ _ _ h => h) (Or.inl ⟨by rfl, fun w' hS => (by go_simp)⟩) S5 ?_
    try simp only [Go.Act.put, List.setIfInBounds_toArray, List.set_cons_zero, List.set_cons_succ]
    refine wpH_take (i := 12) (v := (.pointer (some ⟨b, 0, none⟩))) (some 6) rfl rfl (by kernel_rfl) (by kernel_rfl) (by kernel_rfl) (fun _ _ _ h => h) (Or.inl ⟨by rfl, fun w' hS => (by go_simp)⟩) S5 ?_
    try simp only [Go.Act.put, List.setIfInBounds_toArray, List.set_cons_zero, List.set_cons_succ]
    refine wpH_call (i := 13) (o := { dst := none, op := Op.store 63 (Operand.tmp 7) (Operand.tmp 163), type := 0, pos := _, after := #[{ on := 1, ground := Ground.data }, { on := 12, ground := Ground.chain }, { on := 0, ground := Ground.phase }, { on := 1, ground := Ground.phase }, { on := 2, ground := Ground.textOnly Departure.lateStores }, { on := 3, ground := Ground.textOnly Departure.lateStores }, { on := 4, ground := Ground.textOnly Departure.lateStores }, { on := 5, ground := Ground.textOnly Departure.lateStores }, { on := 6, ground := Ground.textOnly Departure.lateStores }, { on := 7, ground := Ground.textOnly Departure.lateStores }, { on := 8, ground := Ground.textOnly Departure.lateStores }, { on := 9, ground := Ground.textOnly Departure.lateStoresUnsure }, { on := 10, ground := Ground.textOnly Departure.lateStores }, { on := 11, ground := Ground.textOnly Departure.lateStores }, { on := 12, ground := Ground.phase }], guard := none }) (by kernel_rfl) rfl (fun K' hK => ?_)
    rw [if_pos (by rfl)]
    refine wp_storeT bigS (Operand.tmp 7) (Operand.tmp 163) rfl (w.heap.size + 2) _ cs 63 rfl rfl B75.out zs_size HN1.out HO1.out (fun w7 h7 t7 s7 => ?_)
    have S7 := And.intro (t7.keep S5.1 (by simp)) (t7.keep S5.2 (by simp))
    refine hK.out _ _ S7 ?_
    clear hK
    try simp only [Go.Act.put, List.setIfInBounds_toArray, List.set_cons_zero, List.set_cons_succ]
    refine wpH_take (i := 14) (v := (.bool true)) (some 8) rfl rfl (by kernel_rfl) (by kernel_rfl) (by kernel_rfl) (fun _ _ _ h => h) (Or.inl ⟨by rfl, fun w' hS => (by go_simp)⟩) S7 ?_
    try simp only [Go.Act.put, List.setIfInBounds_toArray, List.set_cons_zero, List.set_cons_succ]
    refine wpAnyH_done (by kernel_rfl) ?_ _
    go_wp2_with fail
    refine bodyPost_ret (results_one rfl _ _ rfl h7 HN1.out) rfl ?_
    exact ⟨b, pv, lv, _, _, lv2, _, _, rfl, F5.out.box B75.out t7, Nat.le_succ _, rfl, T5.out.trans t7 (fun k hk => Or.inr (by simp at hk; omega))⟩
theorem Rel.fillN (h : Rel S T) {i : Nat} (hi : i < 16) {c : Int} (hf : ¬ (T.st i = 2 ∧ T.ca i = c)) : ¬ (1 ≤ c ∧ (S.sl i).ca = c) := fun ⟨h1, h2⟩ => by
  rcases h.sl i hi with ⟨e1, e2, _⟩ | ⟨e1, e2, e3, _⟩ | ⟨e1, e2, _⟩
  · omega
  · exact hf ⟨e1, by omega⟩
  · omega
set_option maxHeartbeats 4000000 in
set_option maxRecDepth 20000 in
theorem one_fill_not (h : Iv B w b pv lv cs pv2 lv2 S T) (i : Nat) (a2 : Int) (g : Gz) (hi : i < 16) (hf : ¬ (T.st i = 2 ∧ T.ca i = a2)) : Calls Tryd.prog 18 #[.pointer (some ⟨b, 0, none⟩), .agg cs, actv 4 (i : Nat) a2 g] w fun e w' => OnE e w w' B b lv S := by
  have HI := hid h
  have hb := h.q.lt
  obtain ⟨ap, cp, e2⟩ := own_form h.p2
  subst e2
  have hone : Hid (lv2.oneCell' = true) := hid (by obtain ⟨a, c, e⟩ := own_form h.g2; rw [e]; rfl)
  have k1 : (i : Int) < 16 := by omega
  have HST := hid (h.s.st i hi)
  have HCA := hid (h.s.ca i hi)
  have HU0 : Hid (∀ W0, Cq W0 b pv lv S → _) := hid (fun W0 q => fill_not q i a2 g hi (h.r.fillN hi hf))
  have key : (T.st i == 2) = false ∨ (T.st i == 2) = true ∧ (T.ca i == a2) = false := by
    by_cases e : T.st i = 2
    · exact Or.inr ⟨by simp [e], by simp; exact fun e' => hf ⟨e, e'⟩⟩
    · exact Or.inl (by simp [e])
  clear h hf
  generalize T.st i = st at *
  generalize T.ca i = ca at *
  obtain ⟨g0', g1, g2, g3, g4, g5, g6⟩ := g
  unfold actv
  dsimp only at *
  obtain ⟨V, hV⟩ : ∃ V, V = ((w.alloc (.cells cs 63)).alloc (.cells #[.int .i64 4, .int .i64 (i : Nat), .int .i64 a2, .int .i64 g0', .int .i64 g1, .int .i64 g2, .int .i64 g3, .int .i64 g4, .int .i64 g5, .int .i64 g6] 67)).alloc (.cells Tryd.zeroCells63 63) := ⟨_, rfl⟩
  have TV : Hid (Touch [] w V) := hid (by rw [hV]; exact (((Touch.refl _ _).alloc _).alloc _).alloc _)
  have B4 : Hid (V.heap[w.heap.size]? = some (.cells cs 63 (0, 0))) := hid (by rw [hV]; exact (((Touch.refl [] _).alloc _).alloc _).keep (heap_alloc_new w _) (by simp))
  have B5 : Hid (V.heap[w.heap.size + 1]? = some (.cells #[.int .i64 4, .int .i64 (i : Nat), .int .i64 a2, .int .i64 g0', .int .i64 g1, .int .i64 g2, .int .i64 g3, .int .i64 g4, .int .i64 g5, .int .i64 g6] 67 (0, 0))) := hid (by
    rw [hV]
    have := heap_alloc_new (w.alloc (.cells cs 63)) (.cells #[.int .i64 4, .int .i64 (i : Nat), .int .i64 a2, .int .i64 g0', .int .i64 g1, .int .i64 g2, .int .i64 g3, .int .i64 g4, .int .i64 g5, .int .i64 g6] 67)
    rw [World.size_alloc] at this
    exact ((Touch.refl [] _).alloc _).keep this (by simp))
  have B7 : Hid (V.heap[w.heap.size + 2]? = some (.cells Tryd.zeroCells63 63 (0, 0))) := hid (by
    rw [hV]
    have := heap_alloc_new ((w.alloc (.cells cs 63)).alloc (.cells #[.int .i64 4, .int .i64 (i : Nat), .int .i64 a2, .int .i64 g0', .int .i64 g1, .int .i64 g2, .int .i64 g3, .int .i64 g4, .int .i64 g5, .int .i64 g6] 67)) (.cells Tryd.zeroCells63 63)
    rwa [World.size_alloc, World.size_alloc] at this)
  rcases key with k2 | ⟨k2, k3⟩
  · go_enter Tryd.func18, Tryd.ntmps18
    go_upto_region 1 with fail
    rw [← hV]
    clear hV
    have v0 := cell_at (j := 0) B5.out rfl
    have v1 := cell_at (j := 1) B5.out rfl
    have v2 := cell_at (j := 2) B5.out rfl
    have HN1 : Hid (cs.size = 148) := hid HI.out.s.n
    have HO1 : Hid (cs.all (·.oneCell') = true) := hid (HI.out.s.one rfl hone.out)
    have y1 := cell_at B4.out HST.out
    have y2 := cell_at B4.out HCA.out
    go_upto_region 27 with fail
    go_quiet (fail)
    go_upto_region 30 with fail
    clear v0 v1 v2 y1 y2
    obtain ⟨W0, hW0⟩ : ∃ W0, W0 = (V.drewN nq).drew := ⟨_, rfl⟩
    have tb : Touch [w.heap.size] V W0 := by rw [hW0]; exact ⟨rfl, rfl, rfl, Nat.le_refl _, fun _ _ _ => rfl⟩
    have S0 : (fun (w' : World) => w'.heap[w.heap.size]? = some (.cells cs 63 (0, 0)) ∧ w'.heap[w.heap.size + 1]? = some (.cells #[.int .i64 4, .int .i64 (i : Nat), .int .i64 a2, .int .i64 g0', .int .i64 g1, .int .i64 g2, .int .i64 g3, .int .i64 g4, .int .i64 g5, .int .i64 g6] 67 (0, 0))) W0 := And.intro (by rw [hW0]; exact B4.out) (tb.keep B5.out (by simp))
    dsimp only at S0
    have HFI := hid ((HI.out.touch TV.out).box B4.out tb)
    have HU := hid (HU0.out W0 HFI.out.q)
    have TW : Hid (Touch (b :: lv.ownBlock.toList) w W0) := hid ((TV.out.mono (fun _ e => by cases e)).trans tb (fun k hk => Or.inr (by simp at hk; omega)))
    have B7' := hid (tb.keep B7.out (by simp))
    have F1 : ∀ w' : World, (w'.heap[w.heap.size]? = some (.cells cs 63 (0, 0)) ∧ w'.heap[w.heap.size + 1]? = some (.cells #[.int .i64 4, .int .i64 (i : Nat), .int .i64 a2, .int .i64 g0', .int .i64 g1, .int .i64 g2, .int .i64 g3, .int .i64 g4, .int .i64 g5, .int .i64 g6] 67 (0, 0))) → w'.cell? ⟨w.heap.size + 1, 1, none⟩ = some (.int .i64 (i : Nat)) := fun w' h => cell_at h.2 rfl
    have F2 : ∀ w' : World, (w'.heap[w.heap.size]? = some (.cells cs 63 (0, 0)) ∧ w'.heap[w.heap.size + 1]? = some (.cells #[.int .i64 4, .int .i64 (i : Nat), .int .i64 a2, .int .i64 g0', .int .i64 g1, .int .i64 g2, .int .i64 g3, .int .i64 g4, .int .i64 g5, .int .i64 g6] 67 (0, 0))) → w'.cell? ⟨w.heap.size + 1, 2, none⟩ = some (.int .i64 a2) := fun w' h => cell_at h.2 rfl
    have F3 : ∀ w' : World, (w'.heap[w.heap.size]? = some (.cells cs 63 (0, 0)) ∧ w'.heap[w.heap.size + 1]? = some (.cells #[.int .i64 4, .int .i64 (i : Nat), .int .i64 a2, .int .i64 g0', .int .i64 g1, .int .i64 g2, .int .i64 g3, .int .i64 g4, .int .i64 g5, .int .i64 g6] 67 (0, 0))) → w'.cell? ⟨w.heap.size + 1, 3, none⟩ = some (.int .i64 g0') := fun w' h => cell_at h.2 rfl
    have F4 : ∀ w' : World, (w'.heap[w.heap.size]? = some (.cells cs 63 (0, 0)) ∧ w'.heap[w.heap.size + 1]? = some (.cells #[.int .i64 4, .int .i64 (i : Nat), .int .i64 a2, .int .i64 g0', .int .i64 g1, .int .i64 g2, .int .i64 g3, .int .i64 g4, .int .i64 g5, .int .i64 g6] 67 (0, 0))) → w'.cell? ⟨w.heap.size + 1, 4, none⟩ = some (.int .i64 g1) := fun w' h => cell_at h.2 rfl
    have F5 : ∀ w' : World, (w'.heap[w.heap.size]? = some (.cells cs 63 (0, 0)) ∧ w'.heap[w.heap.size + 1]? = some (.cells #[.int .i64 4, .int .i64 (i : Nat), .int .i64 a2, .int .i64 g0', .int .i64 g1, .int .i64 g2, .int .i64 g3, .int .i64 g4, .int .i64 g5, .int .i64 g6] 67 (0, 0))) → w'.cell? ⟨w.heap.size + 1, 5, none⟩ = some (.int .i64 g2) := fun w' h => cell_at h.2 rfl
    have F6 : ∀ w' : World, (w'.heap[w.heap.size]? = some (.cells cs 63 (0, 0)) ∧ w'.heap[w.heap.size + 1]? = some (.cells #[.int .i64 4, .int .i64 (i : Nat), .int .i64 a2, .int .i64 g0', .int .i64 g1, .int .i64 g2, .int .i64 g3, .int .i64 g4, .int .i64 g5, .int .i64 g6] 67 (0, 0))) → w'.cell? ⟨w.heap.size + 1, 6, none⟩ = some (.int .i64 g3) := fun w' h => cell_at h.2 rfl
    have F7 : ∀ w' : World, (w'.heap[w.heap.size]? = some (.cells cs 63 (0, 0)) ∧ w'.heap[w.heap.size + 1]? = some (.cells #[.int .i64 4, .int .i64 (i : Nat), .int .i64 a2, .int .i64 g0', .int .i64 g1, .int .i64 g2, .int .i64 g3, .int .i64 g4, .int .i64 g5, .int .i64 g6] 67 (0, 0))) → w'.cell? ⟨w.heap.size + 1, 7, none⟩ = some (.int .i64 g4) := fun w' h => cell_at h.2 rfl
    have F8 : ∀ w' : World, (w'.heap[w.heap.size]? = some (.cells cs 63 (0, 0)) ∧ w'.heap[w.heap.size + 1]? = some (.cells #[.int .i64 4, .int .i64 (i : Nat), .int .i64 a2, .int .i64 g0', .int .i64 g1, .int .i64 g2, .int .i64 g3, .int .i64 g4, .int .i64 g5, .int .i64 g6] 67 (0, 0))) → w'.cell? ⟨w.heap.size + 1, 8, none⟩ = some (.int .i64 g5) := fun w' h => cell_at h.2 rfl
    have F9 : ∀ w' : World, (w'.heap[w.heap.size]? = some (.cells cs 63 (0, 0)) ∧ w'.heap[w.heap.size + 1]? = some (.cells #[.int .i64 4, .int .i64 (i : Nat), .int .i64 a2, .int .i64 g0', .int .i64 g1, .int .i64 g2, .int .i64 g3, .int .i64 g4, .int .i64 g5, .int .i64 g6] 67 (0, 0))) → w'.cell? ⟨w.heap.size + 1, 9, none⟩ = some (.int .i64 g6) := fun w' h => cell_at h.2 rfl
    refine wp_region_H (S := fun (w' : World) => w'.heap[w.heap.size]? = some (.cells cs 63 (0, 0)) ∧ w'.heap[w.heap.size + 1]? = some (.cells #[.int .i64 4, .int .i64 (i : Nat), .int .i64 a2, .int .i64 g0', .int .i64 g1, .int .i64 g2, .int .i64 g3, .int .i64 g4, .int .i64 g5, .int .i64 g6] 67 (0, 0))) (by kernel_rfl) ?_
    rw [← hW0]
    clear hW0 tb
    refine wpH_take (i := 0) (v := (.pointer (some ⟨b, 0, none⟩))) (some 162) rfl rfl (by kernel_rfl) (by kernel_rfl) (by kernel_rfl) (fun _ _ _ h => h) (Or.inl ⟨by rfl, fun w' hS => (by go_simp)⟩) S0 ?_
    try simp only [Go.Act.put, List.setIfInBounds_toArray, List.set_cons_zero, List.set_cons_succ]
    refine wpH_take (i := 1) (v := (.agg cs)) (some 163) rfl rfl (by kernel_rfl) (by kernel_rfl) (by kernel_rfl) (fun _ _ _ h => h) (Or.inl ⟨by rfl, fun w' hS => exec_loadT bigS _ rfl rfl hS.1 HN1.out⟩) S0 ?_
    try simp only [Go.Act.put, List.setIfInBounds_toArray, List.set_cons_zero, List.set_cons_succ]
    refine wpH_take (i := 2) (v := (.pointer (some ⟨b, 0, none⟩))) (some 164) rfl rfl (by kernel_rfl) (by kernel_rfl) (by kernel_rfl) (fun _ _ _ h => h) (Or.inl ⟨by rfl, fun w' hS => (by go_simp)⟩) S0 ?_
    try simp only [Go.Act.put, List.setIfInBounds_toArray, List.set_cons_zero, List.set_cons_succ]
    refine wpH_take (i := 3) (v := (.pointer (some ⟨w.heap.size + 1, 1, none⟩))) (some 165) rfl rfl (by kernel_rfl) (by kernel_rfl) (by kernel_rfl) (fun _ _ _ h => h) (Or.inl ⟨by rfl, fun w' hS => (by go_simp)⟩) S0 ?_
    try simp only [Go.Act.put, List.setIfInBounds_toArray, List.set_cons_zero, List.set_cons_succ]
    refine wpH_take (i := 4) (v := (.int .i64 (i : Nat))) (some 166) rfl rfl (by kernel_rfl) (by kernel_rfl) (by kernel_rfl) (fun _ _ _ h => h) (Or.inl ⟨by rfl, fun w' hS => (by have z0 := F1 _ hS; go_simp)⟩) S0 ?_
    try simp only [Go.Act.put, List.setIfInBounds_toArray, List.set_cons_zero, List.set_cons_succ]
    refine wpH_take (i := 5) (v := (.pointer (some ⟨w.heap.size + 1, 2, none⟩))) (some 167) rfl rfl (by kernel_rfl) (by kernel_rfl) (by kernel_rfl) (fun _ _ _ h => h) (Or.inl ⟨by rfl, fun w' hS => (by go_simp)⟩) S0 ?_
    try simp only [Go.Act.put, List.setIfInBounds_toArray, List.set_cons_zero, List.set_cons_succ]
    refine wpH_take (i := 6) (v := (.int .i64 a2)) (some 168) rfl rfl (by kernel_rfl) (by kernel_rfl) (by kernel_rfl) (fun _ _ _ h => h) (Or.inl ⟨by rfl, fun w' hS => (by have z0 := F2 _ hS; go_simp)⟩) S0 ?_
    try simp only [Go.Act.put, List.setIfInBounds_toArray, List.set_cons_zero, List.set_cons_succ]
    refine wpH_take (i := 7) (v := (.pointer (some ⟨w.heap.size + 1, 3, none⟩))) (some 169) rfl rfl (by kernel_rfl) (by kernel_rfl) (by kernel_rfl) (fun _ _ _ h => h) (Or.inl ⟨by rfl, fun w' hS => (by go_simp)⟩) S0 ?_
    try simp only [Go.Act.put, List.setIfInBounds_toArray, List.set_cons_zero, List.set_cons_succ]
    refine wpH_take (i := 8) (v := (.agg #[.int .i64 g0', .int .i64 g1, .int .i64 g2, .int .i64 g3, .int .i64 g4, .int .i64 g5, .int .i64 g6])) (some 170) rfl rfl (by kernel_rfl) (by kernel_rfl) (by kernel_rfl) (fun _ _ _ h => h) (Or.inl ⟨by rfl, fun w' hS => (by have z0 := F3 _ hS; have z1 := F4 _ hS; have z2 := F5 _ hS; have z3 := F6 _ hS; have z4 := F7 _ hS; have z5 := F8 _ hS; have z6 := F9 _ hS; go_simp)⟩) S0 ?_
    try simp only [Go.Act.put, List.setIfInBounds_toArray, List.set_cons_zero, List.set_cons_succ]
    refine wpH_take (i := 10) (v := (.bool false)) (some 172) rfl rfl (by kernel_rfl) (by kernel_rfl) (by kernel_rfl) (fun _ _ _ h => h) (Or.inl ⟨by rfl, fun w' hS => (by go_simp)⟩) S0 ?_
    try simp only [Go.Act.put, List.setIfInBounds_toArray, List.set_cons_zero, List.set_cons_succ]
    refine wpH_call (i := 9) (o := { dst := some 171, op := Op.call { callee := Callee.value (Operand.func 27), args := #[Operand.tmp 164, Operand.tmp 166, Operand.tmp 168, Operand.tmp 170], argTypes := #[50, 3, 3, 60] }, type := 4, pos := _, after := #[{ on := 2, ground := Ground.data }, { on := 4, ground := Ground.data }, { on := 6, ground := Ground.data }, { on := 8, ground := Ground.data }], guard := none }) (by kernel_rfl) rfl (fun K' hK => ?_)
    rw [if_pos (by rfl)]
    go_simp
    refine HU.out.mono ?_
    rintro e w5 ⟨rfl, t5⟩
    have S5 := And.intro (t5.keep S0.1 (by simp)) (t5.keep S0.2 (by simp))
    have B75 := hid (t5.keep B7'.out (by simp))
    have F5 := hid (HFI.out.touch t5)
    have T5 := hid (TW.out.trans t5 (fun k hk => by cases hk))
    clear t5
    refine hK.out _ _ S5 ?_
    clear hK
    try simp only [Go.Act.put, List.setIfInBounds_toArray, List.set_cons_zero, List.set_cons_succ]
    refine wpH_take (i := 11) (v := (.bool true)) (some 173) rfl rfl (by kernel_rfl) (by kernel_rfl) (by kernel_rfl) (fun _ _ _ h => h) (Or.inl ⟨by rfl, fun w' hS => (by go_simp)⟩) S5 ?_
    try simp only [Go.Act.put, List.setIfInBounds_toArray, List.set_cons_zero, List.set_cons_succ]
    refine wpH_take (i := 12) (v := (.pointer (some ⟨b, 0, none⟩))) (some 6) rfl rfl (by kernel_rfl) (by kernel_rfl) (by kernel_rfl) (fun _ _ _ h => h) (Or.inl ⟨by rfl, fun w' hS => (by go_simp)⟩) S5 ?_
    try simp only [Go.Act.put, List.setIfInBounds_toArray, List.set_cons_zero, List.set_cons_succ]
    refine wpH_call (i := 13) (o := { dst := none, op := Op.store 63 (Operand.tmp 7) (Operand.tmp 163), type := 0, pos := _, after := #[{ on := 1, ground := Ground.data }, { on := 12, ground := Ground.chain }, { on := 0, ground := Ground.phase }, { on := 1, ground := Ground.phase }, { on := 2, ground := Ground.textOnly Departure.lateStores }, { on := 3, ground := Ground.textOnly Departure.lateStores }, { on := 4, ground := Ground.textOnly Departure.lateStores }, { on := 5, ground := Ground.textOnly Departure.lateStores }, { on := 6, ground := Ground.textOnly Departure.lateStores }, { on := 7, ground := Ground.textOnly Departure.lateStores }, { on := 8, ground := Ground.textOnly Departure.lateStores }, { on := 9, ground := Ground.textOnly Departure.lateStoresUnsure }, { on := 10, ground := Ground.textOnly Departure.lateStores }, { on := 11, ground := Ground.textOnly Departure.lateStores }, { on := 12, ground := Ground.phase }], guard := none }) (by kernel_rfl) rfl (fun K' hK => ?_)
    rw [if_pos (by rfl)]
    refine wp_storeT bigS (Operand.tmp 7) (Operand.tmp 163) rfl (w.heap.size + 2) _ cs 63 rfl rfl B75.out zs_size HN1.out HO1.out (fun w7 h7 t7 s7 => ?_)
    have S7 := And.intro (t7.keep S5.1 (by simp)) (t7.keep S5.2 (by simp))
    refine hK.out _ _ S7 ?_
    clear hK
    try simp only [Go.Act.put, List.setIfInBounds_toArray, List.set_cons_zero, List.set_cons_succ]
    refine wpH_take (i := 14) (v := (.bool true)) (some 8) rfl rfl (by kernel_rfl) (by kernel_rfl) (by kernel_rfl) (fun _ _ _ h => h) (Or.inl ⟨by rfl, fun w' hS => (by go_simp)⟩) S7 ?_
    try simp only [Go.Act.put, List.setIfInBounds_toArray, List.set_cons_zero, List.set_cons_succ]
    refine wpAnyH_done (by kernel_rfl) ?_ _
    go_wp2_with fail
    refine bodyPost_ret (results_one rfl _ _ rfl h7 HN1.out) rfl ?_
    exact ⟨b, pv, lv, _, _, lv2, _, _, rfl, F5.out.box B75.out t7, Nat.le_succ _, rfl, T5.out.trans t7 (fun k hk => Or.inr (by simp at hk; omega))⟩
  · go_enter Tryd.func18, Tryd.ntmps18
    go_upto_region 1 with fail
    rw [← hV]
    clear hV
    have v0 := cell_at (j := 0) B5.out rfl
    have v1 := cell_at (j := 1) B5.out rfl
    have v2 := cell_at (j := 2) B5.out rfl
    have HN1 : Hid (cs.size = 148) := hid HI.out.s.n
    have HO1 : Hid (cs.all (·.oneCell') = true) := hid (HI.out.s.one rfl hone.out)
    have y1 := cell_at B4.out HST.out
    have y2 := cell_at B4.out HCA.out
    go_upto_region 27 with fail
    go_quiet (fail)
    go_upto_region 30 with fail
    clear v0 v1 v2 y1 y2
    obtain ⟨W0, hW0⟩ : ∃ W0, W0 = (V.drewN nq).drew := ⟨_, rfl⟩
    have tb : Touch [w.heap.size] V W0 := by rw [hW0]; exact ⟨rfl, rfl, rfl, Nat.le_refl _, fun _ _ _ => rfl⟩
    have S0 : (fun (w' : World) => w'.heap[w.heap.size]? = some (.cells cs 63 (0, 0)) ∧ w'.heap[w.heap.size + 1]? = some (.cells #[.int .i64 4, .int .i64 (i : Nat), .int .i64 a2, .int .i64 g0', .int .i64 g1, .int .i64 g2, .int .i64 g3, .int .i64 g4, .int .i64 g5, .int .i64 g6] 67 (0, 0))) W0 := And.intro (by rw [hW0]; exact B4.out) (tb.keep B5.out (by simp))
    dsimp only at S0
    have HFI := hid ((HI.out.touch TV.out).box B4.out tb)
    have HU := hid (HU0.out W0 HFI.out.q)
    have TW : Hid (Touch (b :: lv.ownBlock.toList) w W0) := hid ((TV.out.mono (fun _ e => by cases e)).trans tb (fun k hk => Or.inr (by simp at hk; omega)))
    have B7' := hid (tb.keep B7.out (by simp))
    have F1 : ∀ w' : World, (w'.heap[w.heap.size]? = some (.cells cs 63 (0, 0)) ∧ w'.heap[w.heap.size + 1]? = some (.cells #[.int .i64 4, .int .i64 (i : Nat), .int .i64 a2, .int .i64 g0', .int .i64 g1, .int .i64 g2, .int .i64 g3, .int .i64 g4, .int .i64 g5, .int .i64 g6] 67 (0, 0))) → w'.cell? ⟨w.heap.size + 1, 1, none⟩ = some (.int .i64 (i : Nat)) := fun w' h => cell_at h.2 rfl
    have F2 : ∀ w' : World, (w'.heap[w.heap.size]? = some (.cells cs 63 (0, 0)) ∧ w'.heap[w.heap.size + 1]? = some (.cells #[.int .i64 4, .int .i64 (i : Nat), .int .i64 a2, .int .i64 g0', .int .i64 g1, .int .i64 g2, .int .i64 g3, .int .i64 g4, .int .i64 g5, .int .i64 g6] 67 (0, 0))) → w'.cell? ⟨w.heap.size + 1, 2, none⟩ = some (.int .i64 a2) := fun w' h => cell_at h.2 rfl
    have F3 : ∀ w' : World, (w'.heap[w.heap.size]? = some (.cells cs 63 (0, 0)) ∧ w'.heap[w.heap.size + 1]? = some (.cells #[.int .i64 4, .int .i64 (i : Nat), .int .i64 a2, .int .i64 g0', .int .i64 g1, .int .i64 g2, .int .i64 g3, .int .i64 g4, .int .i64 g5, .int .i64 g6] 67 (0, 0))) → w'.cell? ⟨w.heap.size + 1, 3, none⟩ = some (.int .i64 g0') := fun w' h => cell_at h.2 rfl
    have F4 : ∀ w' : World, (w'.heap[w.heap.size]? = some (.cells cs 63 (0, 0)) ∧ w'.heap[w.heap.size + 1]? = some (.cells #[.int .i64 4, .int .i64 (i : Nat), .int .i64 a2, .int .i64 g0', .int .i64 g1, .int .i64 g2, .int .i64 g3, .int .i64 g4, .int .i64 g5, .int .i64 g6] 67 (0, 0))) → w'.cell? ⟨w.heap.size + 1, 4, none⟩ = some (.int .i64 g1) := fun w' h => cell_at h.2 rfl
    have F5 : ∀ w' : World, (w'.heap[w.heap.size]? = some (.cells cs 63 (0, 0)) ∧ w'.heap[w.heap.size + 1]? = some (.cells #[.int .i64 4, .int .i64 (i : Nat), .int .i64 a2, .int .i64 g0', .int .i64 g1, .int .i64 g2, .int .i64 g3, .int .i64 g4, .int .i64 g5, .int .i64 g6] 67 (0, 0))) → w'.cell? ⟨w.heap.size + 1, 5, none⟩ = some (.int .i64 g2) := fun w' h => cell_at h.2 rfl
    have F6 : ∀ w' : World, (w'.heap[w.heap.size]? = some (.cells cs 63 (0, 0)) ∧ w'.heap[w.heap.size + 1]? = some (.cells #[.int .i64 4, .int .i64 (i : Nat), .int .i64 a2, .int .i64 g0', .int .i64 g1, .int .i64 g2, .int .i64 g3, .int .i64 g4, .int .i64 g5, .int .i64 g6] 67 (0, 0))) → w'.cell? ⟨w.heap.size + 1, 6, none⟩ = some (.int .i64 g3) := fun w' h => cell_at h.2 rfl
    have F7 : ∀ w' : World, (w'.heap[w.heap.size]? = some (.cells cs 63 (0, 0)) ∧ w'.heap[w.heap.size + 1]? = some (.cells #[.int .i64 4, .int .i64 (i : Nat), .int .i64 a2, .int .i64 g0', .int .i64 g1, .int .i64 g2, .int .i64 g3, .int .i64 g4, .int .i64 g5, .int .i64 g6] 67 (0, 0))) → w'.cell? ⟨w.heap.size + 1, 7, none⟩ = some (.int .i64 g4) := fun w' h => cell_at h.2 rfl
    have F8 : ∀ w' : World, (w'.heap[w.heap.size]? = some (.cells cs 63 (0, 0)) ∧ w'.heap[w.heap.size + 1]? = some (.cells #[.int .i64 4, .int .i64 (i : Nat), .int .i64 a2, .int .i64 g0', .int .i64 g1, .int .i64 g2, .int .i64 g3, .int .i64 g4, .int .i64 g5, .int .i64 g6] 67 (0, 0))) → w'.cell? ⟨w.heap.size + 1, 8, none⟩ = some (.int .i64 g5) := fun w' h => cell_at h.2 rfl
    have F9 : ∀ w' : World, (w'.heap[w.heap.size]? = some (.cells cs 63 (0, 0)) ∧ w'.heap[w.heap.size + 1]? = some (.cells #[.int .i64 4, .int .i64 (i : Nat), .int .i64 a2, .int .i64 g0', .int .i64 g1, .int .i64 g2, .int .i64 g3, .int .i64 g4, .int .i64 g5, .int .i64 g6] 67 (0, 0))) → w'.cell? ⟨w.heap.size + 1, 9, none⟩ = some (.int .i64 g6) := fun w' h => cell_at h.2 rfl
    refine wp_region_H (S := fun (w' : World) => w'.heap[w.heap.size]? = some (.cells cs 63 (0, 0)) ∧ w'.heap[w.heap.size + 1]? = some (.cells #[.int .i64 4, .int .i64 (i : Nat), .int .i64 a2, .int .i64 g0', .int .i64 g1, .int .i64 g2, .int .i64 g3, .int .i64 g4, .int .i64 g5, .int .i64 g6] 67 (0, 0))) (by kernel_rfl) ?_
    rw [← hW0]
    clear hW0 tb
    refine wpH_take (i := 0) (v := (.pointer (some ⟨b, 0, none⟩))) (some 162) rfl rfl (by kernel_rfl) (by kernel_rfl) (by kernel_rfl) (fun _ _ _ h => h) (Or.inl ⟨by rfl, fun w' hS => (by go_simp)⟩) S0 ?_
    try simp only [Go.Act.put, List.setIfInBounds_toArray, List.set_cons_zero, List.set_cons_succ]
    refine wpH_take (i := 1) (v := (.agg cs)) (some 163) rfl rfl (by kernel_rfl) (by kernel_rfl) (by kernel_rfl) (fun _ _ _ h => h) (Or.inl ⟨by rfl, fun w' hS => exec_loadT bigS _ rfl rfl hS.1 HN1.out⟩) S0 ?_
    try simp only [Go.Act.put, List.setIfInBounds_toArray, List.set_cons_zero, List.set_cons_succ]
    refine wpH_take (i := 2) (v := (.pointer (some ⟨b, 0, none⟩))) (some 164) rfl rfl (by kernel_rfl) (by kernel_rfl) (by kernel_rfl) (fun _ _ _ h => h) (Or.inl ⟨by rfl, fun w' hS => (by go_simp)⟩) S0 ?_
    try simp only [Go.Act.put, List.setIfInBounds_toArray, List.set_cons_zero, List.set_cons_succ]
    refine wpH_take (i := 3) (v := (.pointer (some ⟨w.heap.size + 1, 1, none⟩))) (some 165) rfl rfl (by kernel_rfl) (by kernel_rfl) (by kernel_rfl) (fun _ _ _ h => h) (Or.inl ⟨by rfl, fun w' hS => (by go_simp)⟩) S0 ?_
    try simp only [Go.Act.put, List.setIfInBounds_toArray, List.set_cons_zero, List.set_cons_succ]
    refine wpH_take (i := 4) (v := (.int .i64 (i : Nat))) (some 166) rfl rfl (by kernel_rfl) (by kernel_rfl) (by kernel_rfl) (fun _ _ _ h => h) (Or.inl ⟨by rfl, fun w' hS => (by have z0 := F1 _ hS; go_simp)⟩) S0 ?_
    try simp only [Go.Act.put, List.setIfInBounds_toArray, List.set_cons_zero, List.set_cons_succ]
    refine wpH_take (i := 5) (v := (.pointer (some ⟨w.heap.size + 1, 2, none⟩))) (some 167) rfl rfl (by kernel_rfl) (by kernel_rfl) (by kernel_rfl) (fun _ _ _ h => h) (Or.inl ⟨by rfl, fun w' hS => (by go_simp)⟩) S0 ?_
    try simp only [Go.Act.put, List.setIfInBounds_toArray, List.set_cons_zero, List.set_cons_succ]
    refine wpH_take (i := 6) (v := (.int .i64 a2)) (some 168) rfl rfl (by kernel_rfl) (by kernel_rfl) (by kernel_rfl) (fun _ _ _ h => h) (Or.inl ⟨by rfl, fun w' hS => (by have z0 := F2 _ hS; go_simp)⟩) S0 ?_
    try simp only [Go.Act.put, List.setIfInBounds_toArray, List.set_cons_zero, List.set_cons_succ]
    refine wpH_take (i := 7) (v := (.pointer (some ⟨w.heap.size + 1, 3, none⟩))) (some 169) rfl rfl (by kernel_rfl) (by kernel_rfl) (by kernel_rfl) (fun _ _ _ h => h) (Or.inl ⟨by rfl, fun w' hS => (by go_simp)⟩) S0 ?_
    try simp only [Go.Act.put, List.setIfInBounds_toArray, List.set_cons_zero, List.set_cons_succ]
    refine wpH_take (i := 8) (v := (.agg #[.int .i64 g0', .int .i64 g1, .int .i64 g2, .int .i64 g3, .int .i64 g4, .int .i64 g5, .int .i64 g6])) (some 170) rfl rfl (by kernel_rfl) (by kernel_rfl) (by kernel_rfl) (fun _ _ _ h => h) (Or.inl ⟨by rfl, fun w' hS => (by have z0 := F3 _ hS; have z1 := F4 _ hS; have z2 := F5 _ hS; have z3 := F6 _ hS; have z4 := F7 _ hS; have z5 := F8 _ hS; have z6 := F9 _ hS; go_simp)⟩) S0 ?_
    try simp only [Go.Act.put, List.setIfInBounds_toArray, List.set_cons_zero, List.set_cons_succ]
    refine wpH_take (i := 10) (v := (.bool false)) (some 172) rfl rfl (by kernel_rfl) (by kernel_rfl) (by kernel_rfl) (fun _ _ _ h => h) (Or.inl ⟨by rfl, fun w' hS => (by go_simp)⟩) S0 ?_
    try simp only [Go.Act.put, List.setIfInBounds_toArray, List.set_cons_zero, List.set_cons_succ]
    refine wpH_call (i := 9) (o := { dst := some 171, op := Op.call { callee := Callee.value (Operand.func 27), args := #[Operand.tmp 164, Operand.tmp 166, Operand.tmp 168, Operand.tmp 170], argTypes := #[50, 3, 3, 60] }, type := 4, pos := _, after := #[{ on := 2, ground := Ground.data }, { on := 4, ground := Ground.data }, { on := 6, ground := Ground.data }, { on := 8, ground := Ground.data }], guard := none }) (by kernel_rfl) rfl (fun K' hK => ?_)
    rw [if_pos (by rfl)]
    go_simp
    refine HU.out.mono ?_
    rintro e w5 ⟨rfl, t5⟩
    have S5 := And.intro (t5.keep S0.1 (by simp)) (t5.keep S0.2 (by simp))
    have B75 := hid (t5.keep B7'.out (by simp))
    have F5 := hid (HFI.out.touch t5)
    have T5 := hid (TW.out.trans t5 (fun k hk => by cases hk))
    clear t5
    refine hK.out _ _ S5 ?_
    clear hK
    try simp only [Go.Act.put, List.setIfInBounds_toArray, List.set_cons_zero, List.set_cons_succ]
    refine wpH_take (i := 11) (v := (.bool true)) (some 173) rfl rfl (by kernel_rfl) (by kernel_rfl) (by kernel_rfl) (fun _ _ _ h => h) (Or.inl ⟨by rfl, fun w' hS => (by go_simp)⟩) S5 ?_
    try simp only [Go.Act.put, List.setIfInBounds_toArray, List.set_cons_zero, List.set_cons_succ]
    refine wpH_take (i := 12) (v := (.pointer (some ⟨b, 0, none⟩))) (some 6) rfl rfl (by kernel_rfl) (by kernel_rfl) (by kernel_rfl) (fun _ _ _ h => h) (Or.inl ⟨by rfl, fun w' hS => (by go_simp)⟩) S5 ?_
    try simp only [Go.Act.put, List.setIfInBounds_toArray, List.set_cons_zero, List.set_cons_succ]
    refine wpH_call (i := 13) (o := { dst := none, op := Op.store 63 (Operand.tmp 7) (Operand.tmp 163), type := 0, pos := _, after := #[{ on := 1, ground := Ground.data }, { on := 12, ground := Ground.chain }, { on := 0, ground := Ground.phase }, { on := 1, ground := Ground.phase }, { on := 2, ground := Ground.textOnly Departure.lateStores }, { on := 3, ground := Ground.textOnly Departure.lateStores }, { on := 4, ground := Ground.textOnly Departure.lateStores }, { on := 5, ground := Ground.textOnly Departure.lateStores }, { on := 6, ground := Ground.textOnly Departure.lateStores }, { on := 7, ground := Ground.textOnly Departure.lateStores }, { on := 8, ground := Ground.textOnly Departure.lateStores }, { on := 9, ground := Ground.textOnly Departure.lateStoresUnsure }, { on := 10, ground := Ground.textOnly Departure.lateStores }, { on := 11, ground := Ground.textOnly Departure.lateStores }, { on := 12, ground := Ground.phase }], guard := none }) (by kernel_rfl) rfl (fun K' hK => ?_)
    rw [if_pos (by rfl)]
    refine wp_storeT bigS (Operand.tmp 7) (Operand.tmp 163) rfl (w.heap.size + 2) _ cs 63 rfl rfl B75.out zs_size HN1.out HO1.out (fun w7 h7 t7 s7 => ?_)
    have S7 := And.intro (t7.keep S5.1 (by simp)) (t7.keep S5.2 (by simp))
    refine hK.out _ _ S7 ?_
    clear hK
    try simp only [Go.Act.put, List.setIfInBounds_toArray, List.set_cons_zero, List.set_cons_succ]
    refine wpH_take (i := 14) (v := (.bool true)) (some 8) rfl rfl (by kernel_rfl) (by kernel_rfl) (by kernel_rfl) (fun _ _ _ h => h) (Or.inl ⟨by rfl, fun w' hS => (by go_simp)⟩) S7 ?_
    try simp only [Go.Act.put, List.setIfInBounds_toArray, List.set_cons_zero, List.set_cons_succ]
    refine wpAnyH_done (by kernel_rfl) ?_ _
    go_wp2_with fail
    refine bodyPost_ret (results_one rfl _ _ rfl h7 HN1.out) rfl ?_
    exact ⟨b, pv, lv, _, _, lv2, _, _, rfl, F5.out.box B75.out t7, Nat.le_succ _, rfl, T5.out.trans t7 (fun k hk => Or.inr (by simp at hk; omega))⟩
end
end Go.Proofs.YthakboiecdjgnaaDoor.Ci
