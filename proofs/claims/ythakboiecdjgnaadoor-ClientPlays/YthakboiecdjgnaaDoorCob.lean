/- The law's one: Use; no conditions but those that it states. -/
import Derived.Test.YthakboiecdjgnaaDoorCoa
namespace Go.Proofs.YthakboiecdjgnaaDoor.Ci
open Go.RowKit Go.Maps Go.ChangeMaps
set_option linter.unusedVariables false
set_option linter.unusedSimpArgs false
section
variable {B b : Nat} {w w' : World} {pv lv pv2 lv2 : Value} {cs : Array Value} {S : Cs} {T : Ls}
/-- The client's own block changed, and the law's state. -/
theorem Iv.step (h : Iv B w b pv lv cs pv2 lv2 S T) {w1 : World} {S' : Cs} {T' : Ls} {cs' : Array Value} (hq : Cq w1 b pv lv S') (t : Touch [b] w w1) (hs : Sc cs' pv2 lv2 T') (hr : Rel S' T') (hL : T'.L = T.L) (hl : T'.log = T.log) : Iv B w1 b pv lv cs' pv2 lv2 S' T' := by
  obtain ⟨c, hc, _⟩ := h.q.blk
  exact ⟨hq, hs, hr, by rw [hL]; exact own_touch h.p2 t (kind_ne h.p2 hc (by decide)), by rw [hl]; exact own_touch h.g2 t (kind_ne h.g2 hc (by decide)), h.sep, h.bb, h.lb⟩
set_option maxHeartbeats 4000000 in
set_option maxRecDepth 20000 in
theorem one_use (h : Iv B w b pv lv cs pv2 lv2 S T) (a1 a2 : Int) (g : Gz) : Calls Tryd.prog 18 #[.pointer (some ⟨b, 0, none⟩), .agg cs, actv 1 a1 a2 g] w fun e w' => OnE e w w' B b lv S := by
  have HI := hid h
  have hb := h.q.lt
  have HW := hid (fun w q => want_ w q 1)
  obtain ⟨ap, cp, e2⟩ := own_form h.p2
  subst e2
  have HC2 := hid h.s.c2
  have hone : Hid (lv2.oneCell' = true) := hid (by obtain ⟨a, c, e⟩ := own_form h.g2; rw [e]; rfl)
  clear h
  obtain ⟨g0', g1, g2, g3, g4, g5, g6⟩ := g
  unfold actv
  dsimp only
  obtain ⟨V, hV⟩ : ∃ V, V = ((w.alloc (.cells cs 63)).alloc (.cells #[.int .i64 1, .int .i64 a1, .int .i64 a2, .int .i64 g0', .int .i64 g1, .int .i64 g2, .int .i64 g3, .int .i64 g4, .int .i64 g5, .int .i64 g6] 67)).alloc (.cells Tryd.zeroCells63 63) := ⟨_, rfl⟩
  have TV : Hid (Touch [] w V) := hid (by rw [hV]; exact (((Touch.refl _ _).alloc _).alloc _).alloc _)
  have B4 : Hid (V.heap[w.heap.size]? = some (.cells cs 63 (0, 0))) := hid (by rw [hV]; exact (((Touch.refl [] _).alloc _).alloc _).keep (heap_alloc_new w _) (by simp))
  have B5 : Hid (V.heap[w.heap.size + 1]? = some (.cells #[.int .i64 1, .int .i64 a1, .int .i64 a2, .int .i64 g0', .int .i64 g1, .int .i64 g2, .int .i64 g3, .int .i64 g4, .int .i64 g5, .int .i64 g6] 67 (0, 0))) := hid (by
    rw [hV]
    have := heap_alloc_new (w.alloc (.cells cs 63)) (.cells #[.int .i64 1, .int .i64 a1, .int .i64 a2, .int .i64 g0', .int .i64 g1, .int .i64 g2, .int .i64 g3, .int .i64 g4, .int .i64 g5, .int .i64 g6] 67)
    rw [World.size_alloc] at this
    exact ((Touch.refl [] _).alloc _).keep this (by simp))
  have B7 : Hid (V.heap[w.heap.size + 2]? = some (.cells Tryd.zeroCells63 63 (0, 0))) := hid (by
    rw [hV]
    have := heap_alloc_new ((w.alloc (.cells cs 63)).alloc (.cells #[.int .i64 1, .int .i64 a1, .int .i64 a2, .int .i64 g0', .int .i64 g1, .int .i64 g2, .int .i64 g3, .int .i64 g4, .int .i64 g5, .int .i64 g6] 67)) (.cells Tryd.zeroCells63 63)
    rwa [World.size_alloc, World.size_alloc] at this)
  have key : (0 ≤ a1 ∧ a1 < 16 ∧ a1 ≤ 1024) ∨ (0 ≤ a1 ∧ decide (a1 < 16) = false ∧ a1 ≤ 1024) ∨ (decide (0 ≤ a1) = false) ∨ (0 ≤ a1 ∧ decide (a1 < 16) = false ∧ decide (a1 ≤ 1024) = false) := by simp only [decide_eq_false_iff_not]; omega
  rcases key with ⟨k0, k1, k2⟩ | ⟨k0, k1, k2⟩ | k0 | ⟨k0, k1, k2⟩
  · go_enter Tryd.func18, Tryd.ntmps18
    go_upto_region 1 with fail
    rw [← hV]
    clear hV
    have v0 := cell_at (j := 0) B5.out rfl
    have v1 := cell_at (j := 1) B5.out rfl
    have c2 := cell_at B4.out HC2.out
    have cf := froz_at B4.out
    have HN1 : Hid ((cs.setIfInBounds 2 (.int .i64 a1)).size = 148) := hid (by simpa using HI.out.s.n)
    have HO1 : Hid ((cs.setIfInBounds 2 (.int .i64 a1)).all (·.oneCell') = true) := hid ((HI.out.s.setTok a1).one rfl hone.out)
    have HK := hid (And.intro k0 k2)
    go_upto_region 13 with fail
    clear v0 v1 c2 cf
    obtain ⟨W0, hW0⟩ : ∃ W0, W0 = (V.setCell ⟨w.heap.size, 2, none⟩ (.int .i64 a1)).drew := ⟨_, rfl⟩
    have tb : Touch [w.heap.size] V W0 := by rw [hW0]; exact ((Touch.refl _ V).setCell (Or.inl (by simp)) _).drew
    have S0 : W0.heap[w.heap.size]? = some (.cells (cs.setIfInBounds 2 (.int .i64 a1)) 63 (0, 0)) ∧ W0.heap[w.heap.size + 1]? = some (.cells #[.int .i64 1, .int .i64 a1, .int .i64 a2, .int .i64 g0', .int .i64 g1, .int .i64 g2, .int .i64 g3, .int .i64 g4, .int .i64 g5, .int .i64 g6] 67 (0, 0)) := And.intro (by rw [hW0]; exact bset B4.out _) (tb.keep B5.out (by simp))
    have FI := (HI.out.touch TV.out).box B4.out tb
    have HU := hid (use_ok FI.q HK.out.1 HK.out.2)
    have HFI : Hid (∀ w5, Cq w5 b pv lv { S with tok := a1 } → Touch [b] W0 w5 → Iv B w5 b pv lv (cs.setIfInBounds 2 (.int .i64 a1)) (.slice ap T.L.length cp) lv2 { S with tok := a1 } { T with tok := a1 }) := hid (fun w5 q t => FI.step q t (FI.s.setTok a1) ⟨FI.r.L, FI.r.at_, rfl, FI.r.log, FI.r.sl⟩ rfl rfl)
    have TW : Hid (Touch (b :: lv.ownBlock.toList) w W0) := hid ((TV.out.mono (fun _ e => by cases e)).trans tb (fun k hk => Or.inr (by simp at hk; omega)))
    have B7' := hid (tb.keep B7.out (by simp))
    have F1 : ∀ w' : World, (w'.heap[w.heap.size]? = some (.cells (cs.setIfInBounds 2 (.int .i64 a1)) 63 (0, 0)) ∧ w'.heap[w.heap.size + 1]? = some (.cells #[.int .i64 1, .int .i64 a1, .int .i64 a2, .int .i64 g0', .int .i64 g1, .int .i64 g2, .int .i64 g3, .int .i64 g4, .int .i64 g5, .int .i64 g6] 67 (0, 0))) → w'.cell? ⟨w.heap.size + 1, 1, none⟩ = some (.int .i64 a1) := fun w' h => cell_at h.2 rfl
    refine wp_region_H (S := fun (w' : World) => w'.heap[w.heap.size]? = some (.cells (cs.setIfInBounds 2 (.int .i64 a1)) 63 (0, 0)) ∧ w'.heap[w.heap.size + 1]? = some (.cells #[.int .i64 1, .int .i64 a1, .int .i64 a2, .int .i64 g0', .int .i64 g1, .int .i64 g2, .int .i64 g3, .int .i64 g4, .int .i64 g5, .int .i64 g6] 67 (0, 0))) (by kernel_rfl) ?_
    rw [← hW0]
    clear hW0 tb
    refine wpH_take (i := 0) (v := (.pointer (some ⟨b, 0, none⟩))) (some 65) rfl rfl (by kernel_rfl) (by kernel_rfl) (by kernel_rfl) (fun _ _ _ h => h) (Or.inl ⟨by rfl, fun w' hS => (by go_simp)⟩) S0 ?_
    try simp only [Go.Act.put, List.setIfInBounds_toArray, List.set_cons_zero, List.set_cons_succ]
    refine wpH_take (i := 1) (v := (.agg (cs.setIfInBounds 2 (.int .i64 a1)))) (some 66) rfl rfl (by kernel_rfl) (by kernel_rfl) (by kernel_rfl) (fun _ _ _ h => h) (Or.inl ⟨by rfl, fun w' hS => exec_loadT bigS _ rfl rfl hS.1 HN1.out⟩) S0 ?_
    try simp only [Go.Act.put, List.setIfInBounds_toArray, List.set_cons_zero, List.set_cons_succ]
    refine wpH_take (i := 2) (v := (.pointer (some ⟨b, 0, none⟩))) (some 67) rfl rfl (by kernel_rfl) (by kernel_rfl) (by kernel_rfl) (fun _ _ _ h => h) (Or.inl ⟨by rfl, fun w' hS => (by go_simp)⟩) S0 ?_
    try simp only [Go.Act.put, List.setIfInBounds_toArray, List.set_cons_zero, List.set_cons_succ]
    refine wpH_take (i := 3) (v := (.pointer (some ⟨w.heap.size + 1, 1, none⟩))) (some 68) rfl rfl (by kernel_rfl) (by kernel_rfl) (by kernel_rfl) (fun _ _ _ h => h) (Or.inl ⟨by rfl, fun w' hS => (by go_simp)⟩) S0 ?_
    try simp only [Go.Act.put, List.setIfInBounds_toArray, List.set_cons_zero, List.set_cons_succ]
    refine wpH_take (i := 4) (v := (.int .i64 a1)) (some 69) rfl rfl (by kernel_rfl) (by kernel_rfl) (by kernel_rfl) (fun _ _ _ h => h) (Or.inl ⟨by rfl, fun w' hS => (by have z0 := F1 _ hS; go_simp)⟩) S0 ?_
    try simp only [Go.Act.put, List.setIfInBounds_toArray, List.set_cons_zero, List.set_cons_succ]
    refine wpH_take (i := 6) (v := (.bool true)) (some 71) rfl rfl (by kernel_rfl) (by kernel_rfl) (by kernel_rfl) (fun _ _ _ h => h) (Or.inl ⟨by rfl, fun w' hS => (by go_simp)⟩) S0 ?_
    try simp only [Go.Act.put, List.setIfInBounds_toArray, List.set_cons_zero, List.set_cons_succ]
    refine wpH_call (i := 5) (o := { dst := some 70, op := Op.call { callee := Callee.value (Operand.func 24), args := #[Operand.tmp 67, Operand.tmp 69], argTypes := #[50, 3] }, type := 23, pos := _, after := #[{ on := 2, ground := Ground.data }, { on := 4, ground := Ground.data }], guard := none }) (by kernel_rfl) rfl (fun K' hK => ?_)
    rw [if_pos (by rfl)]
    go_simp
    refine HU.out.mono ?_
    rintro e w5 ⟨rfl, t5, q5⟩
    have S5 := And.intro (t5.keep S0.1 (by simp; omega)) (t5.keep S0.2 (by simp; omega))
    have B75 := hid (t5.keep B7'.out (by simp; omega))
    have F5 := hid (HFI.out _ q5 t5)
    have T5 := hid (TW.out.trans t5 (fun k hk => Or.inl (by simp at hk; simp [hk])))
    clear t5 q5
    refine hK.out _ _ S5 ?_
    clear hK
    try simp only [Go.Act.put, List.setIfInBounds_toArray, List.set_cons_zero, List.set_cons_succ]
    refine wpH_call (i := 7) (o := { dst := some 72, op := Op.call { callee := Callee.value (Operand.func 41), args := #[Operand.tmp 71, Operand.const (Value.int IntKind.i64 1)], argTypes := #[4, 23] }, type := 23, pos := _, after := #[{ on := 6, ground := Ground.data }, { on := 5, ground := Ground.chain }], guard := none }) (by kernel_rfl) rfl (fun K' hK => ?_)
    rw [if_pos (by rfl)]
    go_simp
    refine (HW.out _ true).mono ?_
    rintro e w6 ⟨rfl, e6⟩
    rw [e6]
    clear e6 w6
    simp only [if_true, if_false, Bool.false_eq_true, reduceIte]
    refine hK.out _ _ S5 ?_
    clear hK
    try simp only [Go.Act.put, List.setIfInBounds_toArray, List.set_cons_zero, List.set_cons_succ]
    refine wpH_take (i := 8) (v := (.bool true)) (some 73) rfl rfl (by kernel_rfl) (by kernel_rfl) (by kernel_rfl) (fun _ _ _ h => h) (Or.inl ⟨by rfl, fun w' hS => (by go_simp)⟩) S5 ?_
    try simp only [Go.Act.put, List.setIfInBounds_toArray, List.set_cons_zero, List.set_cons_succ]
    refine wpH_take (i := 9) (v := (.pointer (some ⟨b, 0, none⟩))) (some 6) rfl rfl (by kernel_rfl) (by kernel_rfl) (by kernel_rfl) (fun _ _ _ h => h) (Or.inl ⟨by rfl, fun w' hS => (by go_simp)⟩) S5 ?_
    try simp only [Go.Act.put, List.setIfInBounds_toArray, List.set_cons_zero, List.set_cons_succ]
    refine wpH_call (i := 10) (o := { dst := none, op := Op.store 63 (Operand.tmp 7) (Operand.tmp 66), type := 0, pos := _, after := #[{ on := 1, ground := Ground.data }, { on := 9, ground := Ground.chain }, { on := 0, ground := Ground.phase }, { on := 1, ground := Ground.phase }, { on := 2, ground := Ground.textOnly Departure.lateStores }, { on := 3, ground := Ground.textOnly Departure.lateStores }, { on := 4, ground := Ground.textOnly Departure.lateStores }, { on := 5, ground := Ground.textOnly Departure.lateStoresUnsure }, { on := 6, ground := Ground.textOnly Departure.lateStores }, { on := 7, ground := Ground.textOnly Departure.lateStoresUnsure }, { on := 8, ground := Ground.textOnly Departure.lateStores }, { on := 9, ground := Ground.phase }], guard := none }) (by kernel_rfl) rfl (fun K' hK => ?_)
    rw [if_pos (by rfl)]
    refine wp_storeT bigS (Operand.tmp 7) (Operand.tmp 66) rfl (w.heap.size + 2) _ (cs.setIfInBounds 2 (.int .i64 a1)) 63 rfl rfl B75.out zs_size HN1.out HO1.out (fun w7 h7 t7 s7 => ?_)
    have S7 := And.intro (t7.keep S5.1 (by simp)) (t7.keep S5.2 (by simp))
    refine hK.out _ _ S7 ?_
    clear hK
    try simp only [Go.Act.put, List.setIfInBounds_toArray, List.set_cons_zero, List.set_cons_succ]
    refine wpH_take (i := 11) (v := (.bool true)) (some 8) rfl rfl (by kernel_rfl) (by kernel_rfl) (by kernel_rfl) (fun _ _ _ h => h) (Or.inl ⟨by rfl, fun w' hS => (by go_simp)⟩) S7 ?_
    try simp only [Go.Act.put, List.setIfInBounds_toArray, List.set_cons_zero, List.set_cons_succ]
    refine wpAnyH_done (by kernel_rfl) ?_ _
    go_wp2_with fail
    refine bodyPost_ret (results_one rfl _ _ rfl h7 HN1.out) rfl ?_
    exact ⟨b, pv, lv, _, _, lv2, _, _, rfl, F5.out.box B75.out t7, Nat.le_succ _, rfl, T5.out.trans t7 (fun k hk => Or.inr (by simp at hk; omega))⟩
  · go_enter Tryd.func18, Tryd.ntmps18
    go_upto_region 1 with fail
    rw [← hV]
    clear hV
    have v0 := cell_at (j := 0) B5.out rfl
    have v1 := cell_at (j := 1) B5.out rfl
    have c2 := cell_at B4.out HC2.out
    have cf := froz_at B4.out
    have HN1 : Hid ((cs.setIfInBounds 2 (.int .i64 a1)).size = 148) := hid (by simpa using HI.out.s.n)
    have HO1 : Hid ((cs.setIfInBounds 2 (.int .i64 a1)).all (·.oneCell') = true) := hid ((HI.out.s.setTok a1).one rfl hone.out)
    have HK := hid (And.intro k0 k2)
    go_upto_region 13 with fail
    clear v0 v1 c2 cf
    obtain ⟨W0, hW0⟩ : ∃ W0, W0 = (V.setCell ⟨w.heap.size, 2, none⟩ (.int .i64 a1)).drew := ⟨_, rfl⟩
    have tb : Touch [w.heap.size] V W0 := by rw [hW0]; exact ((Touch.refl _ V).setCell (Or.inl (by simp)) _).drew
    have S0 : W0.heap[w.heap.size]? = some (.cells (cs.setIfInBounds 2 (.int .i64 a1)) 63 (0, 0)) ∧ W0.heap[w.heap.size + 1]? = some (.cells #[.int .i64 1, .int .i64 a1, .int .i64 a2, .int .i64 g0', .int .i64 g1, .int .i64 g2, .int .i64 g3, .int .i64 g4, .int .i64 g5, .int .i64 g6] 67 (0, 0)) := And.intro (by rw [hW0]; exact bset B4.out _) (tb.keep B5.out (by simp))
    have FI := (HI.out.touch TV.out).box B4.out tb
    have HU := hid (use_ok FI.q HK.out.1 HK.out.2)
    have HFI : Hid (∀ w5, Cq w5 b pv lv { S with tok := a1 } → Touch [b] W0 w5 → Iv B w5 b pv lv (cs.setIfInBounds 2 (.int .i64 a1)) (.slice ap T.L.length cp) lv2 { S with tok := a1 } { T with tok := a1 }) := hid (fun w5 q t => FI.step q t (FI.s.setTok a1) ⟨FI.r.L, FI.r.at_, rfl, FI.r.log, FI.r.sl⟩ rfl rfl)
    have TW : Hid (Touch (b :: lv.ownBlock.toList) w W0) := hid ((TV.out.mono (fun _ e => by cases e)).trans tb (fun k hk => Or.inr (by simp at hk; omega)))
    have B7' := hid (tb.keep B7.out (by simp))
    have F1 : ∀ w' : World, (w'.heap[w.heap.size]? = some (.cells (cs.setIfInBounds 2 (.int .i64 a1)) 63 (0, 0)) ∧ w'.heap[w.heap.size + 1]? = some (.cells #[.int .i64 1, .int .i64 a1, .int .i64 a2, .int .i64 g0', .int .i64 g1, .int .i64 g2, .int .i64 g3, .int .i64 g4, .int .i64 g5, .int .i64 g6] 67 (0, 0))) → w'.cell? ⟨w.heap.size + 1, 1, none⟩ = some (.int .i64 a1) := fun w' h => cell_at h.2 rfl
    refine wp_region_H (S := fun (w' : World) => w'.heap[w.heap.size]? = some (.cells (cs.setIfInBounds 2 (.int .i64 a1)) 63 (0, 0)) ∧ w'.heap[w.heap.size + 1]? = some (.cells #[.int .i64 1, .int .i64 a1, .int .i64 a2, .int .i64 g0', .int .i64 g1, .int .i64 g2, .int .i64 g3, .int .i64 g4, .int .i64 g5, .int .i64 g6] 67 (0, 0))) (by kernel_rfl) ?_
    rw [← hW0]
    clear hW0 tb
    refine wpH_take (i := 0) (v := (.pointer (some ⟨b, 0, none⟩))) (some 65) rfl rfl (by kernel_rfl) (by kernel_rfl) (by kernel_rfl) (fun _ _ _ h => h) (Or.inl ⟨by rfl, fun w' hS => (by go_simp)⟩) S0 ?_
    try simp only [Go.Act.put, List.setIfInBounds_toArray, List.set_cons_zero, List.set_cons_succ]
    refine wpH_take (i := 1) (v := (.agg (cs.setIfInBounds 2 (.int .i64 a1)))) (some 66) rfl rfl (by kernel_rfl) (by kernel_rfl) (by kernel_rfl) (fun _ _ _ h => h) (Or.inl ⟨by rfl, fun w' hS => exec_loadT bigS _ rfl rfl hS.1 HN1.out⟩) S0 ?_
    try simp only [Go.Act.put, List.setIfInBounds_toArray, List.set_cons_zero, List.set_cons_succ]
    refine wpH_take (i := 2) (v := (.pointer (some ⟨b, 0, none⟩))) (some 67) rfl rfl (by kernel_rfl) (by kernel_rfl) (by kernel_rfl) (fun _ _ _ h => h) (Or.inl ⟨by rfl, fun w' hS => (by go_simp)⟩) S0 ?_
    try simp only [Go.Act.put, List.setIfInBounds_toArray, List.set_cons_zero, List.set_cons_succ]
    refine wpH_take (i := 3) (v := (.pointer (some ⟨w.heap.size + 1, 1, none⟩))) (some 68) rfl rfl (by kernel_rfl) (by kernel_rfl) (by kernel_rfl) (fun _ _ _ h => h) (Or.inl ⟨by rfl, fun w' hS => (by go_simp)⟩) S0 ?_
    try simp only [Go.Act.put, List.setIfInBounds_toArray, List.set_cons_zero, List.set_cons_succ]
    refine wpH_take (i := 4) (v := (.int .i64 a1)) (some 69) rfl rfl (by kernel_rfl) (by kernel_rfl) (by kernel_rfl) (fun _ _ _ h => h) (Or.inl ⟨by rfl, fun w' hS => (by have z0 := F1 _ hS; go_simp)⟩) S0 ?_
    try simp only [Go.Act.put, List.setIfInBounds_toArray, List.set_cons_zero, List.set_cons_succ]
    refine wpH_take (i := 6) (v := (.bool true)) (some 71) rfl rfl (by kernel_rfl) (by kernel_rfl) (by kernel_rfl) (fun _ _ _ h => h) (Or.inl ⟨by rfl, fun w' hS => (by go_simp)⟩) S0 ?_
    try simp only [Go.Act.put, List.setIfInBounds_toArray, List.set_cons_zero, List.set_cons_succ]
    refine wpH_call (i := 5) (o := { dst := some 70, op := Op.call { callee := Callee.value (Operand.func 24), args := #[Operand.tmp 67, Operand.tmp 69], argTypes := #[50, 3] }, type := 23, pos := _, after := #[{ on := 2, ground := Ground.data }, { on := 4, ground := Ground.data }], guard := none }) (by kernel_rfl) rfl (fun K' hK => ?_)
    rw [if_pos (by rfl)]
    go_simp
    refine HU.out.mono ?_
    rintro e w5 ⟨rfl, t5, q5⟩
    have S5 := And.intro (t5.keep S0.1 (by simp; omega)) (t5.keep S0.2 (by simp; omega))
    have B75 := hid (t5.keep B7'.out (by simp; omega))
    have F5 := hid (HFI.out _ q5 t5)
    have T5 := hid (TW.out.trans t5 (fun k hk => Or.inl (by simp at hk; simp [hk])))
    clear t5 q5
    refine hK.out _ _ S5 ?_
    clear hK
    try simp only [Go.Act.put, List.setIfInBounds_toArray, List.set_cons_zero, List.set_cons_succ]
    refine wpH_call (i := 7) (o := { dst := some 72, op := Op.call { callee := Callee.value (Operand.func 41), args := #[Operand.tmp 71, Operand.const (Value.int IntKind.i64 1)], argTypes := #[4, 23] }, type := 23, pos := _, after := #[{ on := 6, ground := Ground.data }, { on := 5, ground := Ground.chain }], guard := none }) (by kernel_rfl) rfl (fun K' hK => ?_)
    rw [if_pos (by rfl)]
    go_simp
    refine (HW.out _ true).mono ?_
    rintro e w6 ⟨rfl, e6⟩
    rw [e6]
    clear e6 w6
    simp only [if_true, if_false, Bool.false_eq_true, reduceIte]
    refine hK.out _ _ S5 ?_
    clear hK
    try simp only [Go.Act.put, List.setIfInBounds_toArray, List.set_cons_zero, List.set_cons_succ]
    refine wpH_take (i := 8) (v := (.bool true)) (some 73) rfl rfl (by kernel_rfl) (by kernel_rfl) (by kernel_rfl) (fun _ _ _ h => h) (Or.inl ⟨by rfl, fun w' hS => (by go_simp)⟩) S5 ?_
    try simp only [Go.Act.put, List.setIfInBounds_toArray, List.set_cons_zero, List.set_cons_succ]
    refine wpH_take (i := 9) (v := (.pointer (some ⟨b, 0, none⟩))) (some 6) rfl rfl (by kernel_rfl) (by kernel_rfl) (by kernel_rfl) (fun _ _ _ h => h) (Or.inl ⟨by rfl, fun w' hS => (by go_simp)⟩) S5 ?_
    try simp only [Go.Act.put, List.setIfInBounds_toArray, List.set_cons_zero, List.set_cons_succ]
    refine wpH_call (i := 10) (o := { dst := none, op := Op.store 63 (Operand.tmp 7) (Operand.tmp 66), type := 0, pos := _, after := #[{ on := 1, ground := Ground.data }, { on := 9, ground := Ground.chain }, { on := 0, ground := Ground.phase }, { on := 1, ground := Ground.phase }, { on := 2, ground := Ground.textOnly Departure.lateStores }, { on := 3, ground := Ground.textOnly Departure.lateStores }, { on := 4, ground := Ground.textOnly Departure.lateStores }, { on := 5, ground := Ground.textOnly Departure.lateStoresUnsure }, { on := 6, ground := Ground.textOnly Departure.lateStores }, { on := 7, ground := Ground.textOnly Departure.lateStoresUnsure }, { on := 8, ground := Ground.textOnly Departure.lateStores }, { on := 9, ground := Ground.phase }], guard := none }) (by kernel_rfl) rfl (fun K' hK => ?_)
    rw [if_pos (by rfl)]
    refine wp_storeT bigS (Operand.tmp 7) (Operand.tmp 66) rfl (w.heap.size + 2) _ (cs.setIfInBounds 2 (.int .i64 a1)) 63 rfl rfl B75.out zs_size HN1.out HO1.out (fun w7 h7 t7 s7 => ?_)
    have S7 := And.intro (t7.keep S5.1 (by simp)) (t7.keep S5.2 (by simp))
    refine hK.out _ _ S7 ?_
    clear hK
    try simp only [Go.Act.put, List.setIfInBounds_toArray, List.set_cons_zero, List.set_cons_succ]
    refine wpH_take (i := 11) (v := (.bool true)) (some 8) rfl rfl (by kernel_rfl) (by kernel_rfl) (by kernel_rfl) (fun _ _ _ h => h) (Or.inl ⟨by rfl, fun w' hS => (by go_simp)⟩) S7 ?_
    try simp only [Go.Act.put, List.setIfInBounds_toArray, List.set_cons_zero, List.set_cons_succ]
    refine wpAnyH_done (by kernel_rfl) ?_ _
    go_wp2_with fail
    refine bodyPost_ret (results_one rfl _ _ rfl h7 HN1.out) rfl ?_
    exact ⟨b, pv, lv, _, _, lv2, _, _, rfl, F5.out.box B75.out t7, Nat.le_succ _, rfl, T5.out.trans t7 (fun k hk => Or.inr (by simp at hk; omega))⟩
  · go_enter Tryd.func18, Tryd.ntmps18
    go_upto_region 1 with fail
    rw [← hV]
    clear hV
    have v0 := cell_at (j := 0) B5.out rfl
    have v1 := cell_at (j := 1) B5.out rfl
    have c2 := cell_at B4.out HC2.out
    have cf := froz_at B4.out
    have HN1 : Hid (cs.size = 148) := hid HI.out.s.n
    have HO1 : Hid (cs.all (·.oneCell') = true) := hid (HI.out.s.one rfl hone.out)
    have HK : Hid (¬ (0 ≤ a1 ∧ a1 ≤ 1024)) := hid (fun hh => by simp [hh.1, hh.2] at *)
    go_upto_region 13 with fail
    clear v0 v1 c2 cf
    obtain ⟨W0, hW0⟩ : ∃ W0, W0 = V.drew := ⟨_, rfl⟩
    have tb : Touch [w.heap.size] V W0 := by rw [hW0]; exact (Touch.refl _ V).drew
    have S0 : W0.heap[w.heap.size]? = some (.cells cs 63 (0, 0)) ∧ W0.heap[w.heap.size + 1]? = some (.cells #[.int .i64 1, .int .i64 a1, .int .i64 a2, .int .i64 g0', .int .i64 g1, .int .i64 g2, .int .i64 g3, .int .i64 g4, .int .i64 g5, .int .i64 g6] 67 (0, 0)) := And.intro (by rw [hW0]; exact B4.out) (tb.keep B5.out (by simp))
    have HU := hid (use_no a1 HK.out W0 b)
    have HFI := hid ((HI.out.touch TV.out).box B4.out tb)
    have TW : Hid (Touch (b :: lv.ownBlock.toList) w W0) := hid ((TV.out.mono (fun _ e => by cases e)).trans tb (fun k hk => Or.inr (by simp at hk; omega)))
    have B7' := hid (tb.keep B7.out (by simp))
    have F1 : ∀ w' : World, (w'.heap[w.heap.size]? = some (.cells cs 63 (0, 0)) ∧ w'.heap[w.heap.size + 1]? = some (.cells #[.int .i64 1, .int .i64 a1, .int .i64 a2, .int .i64 g0', .int .i64 g1, .int .i64 g2, .int .i64 g3, .int .i64 g4, .int .i64 g5, .int .i64 g6] 67 (0, 0))) → w'.cell? ⟨w.heap.size + 1, 1, none⟩ = some (.int .i64 a1) := fun w' h => cell_at h.2 rfl
    refine wp_region_H (S := fun (w' : World) => w'.heap[w.heap.size]? = some (.cells cs 63 (0, 0)) ∧ w'.heap[w.heap.size + 1]? = some (.cells #[.int .i64 1, .int .i64 a1, .int .i64 a2, .int .i64 g0', .int .i64 g1, .int .i64 g2, .int .i64 g3, .int .i64 g4, .int .i64 g5, .int .i64 g6] 67 (0, 0))) (by kernel_rfl) ?_
    rw [← hW0]
    clear hW0 tb
    refine wpH_take (i := 0) (v := (.pointer (some ⟨b, 0, none⟩))) (some 65) rfl rfl (by kernel_rfl) (by kernel_rfl) (by kernel_rfl) (fun _ _ _ h => h) (Or.inl ⟨by rfl, fun w' hS => (by go_simp)⟩) S0 ?_
    try simp only [Go.Act.put, List.setIfInBounds_toArray, List.set_cons_zero, List.set_cons_succ]
    refine wpH_take (i := 1) (v := (.agg cs)) (some 66) rfl rfl (by kernel_rfl) (by kernel_rfl) (by kernel_rfl) (fun _ _ _ h => h) (Or.inl ⟨by rfl, fun w' hS => exec_loadT bigS _ rfl rfl hS.1 HN1.out⟩) S0 ?_
    try simp only [Go.Act.put, List.setIfInBounds_toArray, List.set_cons_zero, List.set_cons_succ]
    refine wpH_take (i := 2) (v := (.pointer (some ⟨b, 0, none⟩))) (some 67) rfl rfl (by kernel_rfl) (by kernel_rfl) (by kernel_rfl) (fun _ _ _ h => h) (Or.inl ⟨by rfl, fun w' hS => (by go_simp)⟩) S0 ?_
    try simp only [Go.Act.put, List.setIfInBounds_toArray, List.set_cons_zero, List.set_cons_succ]
    refine wpH_take (i := 3) (v := (.pointer (some ⟨w.heap.size + 1, 1, none⟩))) (some 68) rfl rfl (by kernel_rfl) (by kernel_rfl) (by kernel_rfl) (fun _ _ _ h => h) (Or.inl ⟨by rfl, fun w' hS => (by go_simp)⟩) S0 ?_
    try simp only [Go.Act.put, List.setIfInBounds_toArray, List.set_cons_zero, List.set_cons_succ]
    refine wpH_take (i := 4) (v := (.int .i64 a1)) (some 69) rfl rfl (by kernel_rfl) (by kernel_rfl) (by kernel_rfl) (fun _ _ _ h => h) (Or.inl ⟨by rfl, fun w' hS => (by have z0 := F1 _ hS; go_simp)⟩) S0 ?_
    try simp only [Go.Act.put, List.setIfInBounds_toArray, List.set_cons_zero, List.set_cons_succ]
    refine wpH_take (i := 6) (v := (.bool false)) (some 71) rfl rfl (by kernel_rfl) (by kernel_rfl) (by kernel_rfl) (fun _ _ _ h => h) (Or.inl ⟨by rfl, fun w' hS => (by go_simp)⟩) S0 ?_
    try simp only [Go.Act.put, List.setIfInBounds_toArray, List.set_cons_zero, List.set_cons_succ]
    refine wpH_call (i := 5) (o := { dst := some 70, op := Op.call { callee := Callee.value (Operand.func 24), args := #[Operand.tmp 67, Operand.tmp 69], argTypes := #[50, 3] }, type := 23, pos := _, after := #[{ on := 2, ground := Ground.data }, { on := 4, ground := Ground.data }], guard := none }) (by kernel_rfl) rfl (fun K' hK => ?_)
    rw [if_pos (by rfl)]
    go_simp
    refine HU.out.mono ?_
    rintro e w5 ⟨rfl, e5⟩
    rw [e5]
    clear e5
    have S5 := S0
    have B75 := B7'
    have F5 := HFI
    have T5 := TW
    refine hK.out _ _ S5 ?_
    clear hK
    try simp only [Go.Act.put, List.setIfInBounds_toArray, List.set_cons_zero, List.set_cons_succ]
    refine wpH_call (i := 7) (o := { dst := some 72, op := Op.call { callee := Callee.value (Operand.func 41), args := #[Operand.tmp 71, Operand.const (Value.int IntKind.i64 1)], argTypes := #[4, 23] }, type := 23, pos := _, after := #[{ on := 6, ground := Ground.data }, { on := 5, ground := Ground.chain }], guard := none }) (by kernel_rfl) rfl (fun K' hK => ?_)
    rw [if_pos (by rfl)]
    go_simp
    refine (HW.out _ false).mono ?_
    rintro e w6 ⟨rfl, e6⟩
    rw [e6]
    clear e6 w6
    simp only [if_true, if_false, Bool.false_eq_true, reduceIte]
    refine hK.out _ _ S5 ?_
    clear hK
    try simp only [Go.Act.put, List.setIfInBounds_toArray, List.set_cons_zero, List.set_cons_succ]
    refine wpH_take (i := 8) (v := (.bool true)) (some 73) rfl rfl (by kernel_rfl) (by kernel_rfl) (by kernel_rfl) (fun _ _ _ h => h) (Or.inl ⟨by rfl, fun w' hS => (by go_simp)⟩) S5 ?_
    try simp only [Go.Act.put, List.setIfInBounds_toArray, List.set_cons_zero, List.set_cons_succ]
    refine wpH_take (i := 9) (v := (.pointer (some ⟨b, 0, none⟩))) (some 6) rfl rfl (by kernel_rfl) (by kernel_rfl) (by kernel_rfl) (fun _ _ _ h => h) (Or.inl ⟨by rfl, fun w' hS => (by go_simp)⟩) S5 ?_
    try simp only [Go.Act.put, List.setIfInBounds_toArray, List.set_cons_zero, List.set_cons_succ]
    refine wpH_call (i := 10) (o := { dst := none, op := Op.store 63 (Operand.tmp 7) (Operand.tmp 66), type := 0, pos := _, after := #[{ on := 1, ground := Ground.data }, { on := 9, ground := Ground.chain }, { on := 0, ground := Ground.phase }, { on := 1, ground := Ground.phase }, { on := 2, ground := Ground.textOnly Departure.lateStores }, { on := 3, ground := Ground.textOnly Departure.lateStores }, { on := 4, ground := Ground.textOnly Departure.lateStores }, { on := 5, ground := Ground.textOnly Departure.lateStoresUnsure }, { on := 6, ground := Ground.textOnly Departure.lateStores }, { on := 7, ground := Ground.textOnly Departure.lateStoresUnsure }, { on := 8, ground := Ground.textOnly Departure.lateStores }, { on := 9, ground := Ground.phase }], guard := none }) (by kernel_rfl) rfl (fun K' hK => ?_)
    rw [if_pos (by rfl)]
    refine wp_storeT bigS (Operand.tmp 7) (Operand.tmp 66) rfl (w.heap.size + 2) _ cs 63 rfl rfl B75.out zs_size HN1.out HO1.out (fun w7 h7 t7 s7 => ?_)
    have S7 := And.intro (t7.keep S5.1 (by simp)) (t7.keep S5.2 (by simp))
    refine hK.out _ _ S7 ?_
    clear hK
    try simp only [Go.Act.put, List.setIfInBounds_toArray, List.set_cons_zero, List.set_cons_succ]
    refine wpH_take (i := 11) (v := (.bool true)) (some 8) rfl rfl (by kernel_rfl) (by kernel_rfl) (by kernel_rfl) (fun _ _ _ h => h) (Or.inl ⟨by rfl, fun w' hS => (by go_simp)⟩) S7 ?_
    try simp only [Go.Act.put, List.setIfInBounds_toArray, List.set_cons_zero, List.set_cons_succ]
    refine wpAnyH_done (by kernel_rfl) ?_ _
    go_wp2_with fail
    refine bodyPost_ret (results_one rfl _ _ rfl h7 HN1.out) rfl ?_
    exact ⟨b, pv, lv, _, _, lv2, _, _, rfl, F5.out.box B75.out t7, Nat.le_succ _, rfl, T5.out.trans t7 (fun k hk => Or.inr (by simp at hk; omega))⟩
  · go_enter Tryd.func18, Tryd.ntmps18
    go_upto_region 1 with fail
    rw [← hV]
    clear hV
    have v0 := cell_at (j := 0) B5.out rfl
    have v1 := cell_at (j := 1) B5.out rfl
    have c2 := cell_at B4.out HC2.out
    have cf := froz_at B4.out
    have HN1 : Hid (cs.size = 148) := hid HI.out.s.n
    have HO1 : Hid (cs.all (·.oneCell') = true) := hid (HI.out.s.one rfl hone.out)
    have HK : Hid (¬ (0 ≤ a1 ∧ a1 ≤ 1024)) := hid (fun hh => by simp [hh.1, hh.2] at *)
    go_upto_region 13 with fail
    clear v0 v1 c2 cf
    obtain ⟨W0, hW0⟩ : ∃ W0, W0 = V.drew := ⟨_, rfl⟩
    have tb : Touch [w.heap.size] V W0 := by rw [hW0]; exact (Touch.refl _ V).drew
    have S0 : W0.heap[w.heap.size]? = some (.cells cs 63 (0, 0)) ∧ W0.heap[w.heap.size + 1]? = some (.cells #[.int .i64 1, .int .i64 a1, .int .i64 a2, .int .i64 g0', .int .i64 g1, .int .i64 g2, .int .i64 g3, .int .i64 g4, .int .i64 g5, .int .i64 g6] 67 (0, 0)) := And.intro (by rw [hW0]; exact B4.out) (tb.keep B5.out (by simp))
    have HU := hid (use_no a1 HK.out W0 b)
    have HFI := hid ((HI.out.touch TV.out).box B4.out tb)
    have TW : Hid (Touch (b :: lv.ownBlock.toList) w W0) := hid ((TV.out.mono (fun _ e => by cases e)).trans tb (fun k hk => Or.inr (by simp at hk; omega)))
    have B7' := hid (tb.keep B7.out (by simp))
    have F1 : ∀ w' : World, (w'.heap[w.heap.size]? = some (.cells cs 63 (0, 0)) ∧ w'.heap[w.heap.size + 1]? = some (.cells #[.int .i64 1, .int .i64 a1, .int .i64 a2, .int .i64 g0', .int .i64 g1, .int .i64 g2, .int .i64 g3, .int .i64 g4, .int .i64 g5, .int .i64 g6] 67 (0, 0))) → w'.cell? ⟨w.heap.size + 1, 1, none⟩ = some (.int .i64 a1) := fun w' h => cell_at h.2 rfl
    refine wp_region_H (S := fun (w' : World) => w'.heap[w.heap.size]? = some (.cells cs 63 (0, 0)) ∧ w'.heap[w.heap.size + 1]? = some (.cells #[.int .i64 1, .int .i64 a1, .int .i64 a2, .int .i64 g0', .int .i64 g1, .int .i64 g2, .int .i64 g3, .int .i64 g4, .int .i64 g5, .int .i64 g6] 67 (0, 0))) (by kernel_rfl) ?_
    rw [← hW0]
    clear hW0 tb
    refine wpH_take (i := 0) (v := (.pointer (some ⟨b, 0, none⟩))) (some 65) rfl rfl (by kernel_rfl) (by kernel_rfl) (by kernel_rfl) (fun _ _ _ h => h) (Or.inl ⟨by rfl, fun w' hS => (by go_simp)⟩) S0 ?_
    try simp only [Go.Act.put, List.setIfInBounds_toArray, List.set_cons_zero, List.set_cons_succ]
    refine wpH_take (i := 1) (v := (.agg cs)) (some 66) rfl rfl (by kernel_rfl) (by kernel_rfl) (by kernel_rfl) (fun _ _ _ h => h) (Or.inl ⟨by rfl, fun w' hS => exec_loadT bigS _ rfl rfl hS.1 HN1.out⟩) S0 ?_
    try simp only [Go.Act.put, List.setIfInBounds_toArray, List.set_cons_zero, List.set_cons_succ]
    refine wpH_take (i := 2) (v := (.pointer (some ⟨b, 0, none⟩))) (some 67) rfl rfl (by kernel_rfl) (by kernel_rfl) (by kernel_rfl) (fun _ _ _ h => h) (Or.inl ⟨by rfl, fun w' hS => (by go_simp)⟩) S0 ?_
    try simp only [Go.Act.put, List.setIfInBounds_toArray, List.set_cons_zero, List.set_cons_succ]
    refine wpH_take (i := 3) (v := (.pointer (some ⟨w.heap.size + 1, 1, none⟩))) (some 68) rfl rfl (by kernel_rfl) (by kernel_rfl) (by kernel_rfl) (fun _ _ _ h => h) (Or.inl ⟨by rfl, fun w' hS => (by go_simp)⟩) S0 ?_
    try simp only [Go.Act.put, List.setIfInBounds_toArray, List.set_cons_zero, List.set_cons_succ]
    refine wpH_take (i := 4) (v := (.int .i64 a1)) (some 69) rfl rfl (by kernel_rfl) (by kernel_rfl) (by kernel_rfl) (fun _ _ _ h => h) (Or.inl ⟨by rfl, fun w' hS => (by have z0 := F1 _ hS; go_simp)⟩) S0 ?_
    try simp only [Go.Act.put, List.setIfInBounds_toArray, List.set_cons_zero, List.set_cons_succ]
    refine wpH_take (i := 6) (v := (.bool false)) (some 71) rfl rfl (by kernel_rfl) (by kernel_rfl) (by kernel_rfl) (fun _ _ _ h => h) (Or.inl ⟨by rfl, fun w' hS => (by go_simp)⟩) S0 ?_
    try simp only [Go.Act.put, List.setIfInBounds_toArray, List.set_cons_zero, List.set_cons_succ]
    refine wpH_call (i := 5) (o := { dst := some 70, op := Op.call { callee := Callee.value (Operand.func 24), args := #[Operand.tmp 67, Operand.tmp 69], argTypes := #[50, 3] }, type := 23, pos := _, after := #[{ on := 2, ground := Ground.data }, { on := 4, ground := Ground.data }], guard := none }) (by kernel_rfl) rfl (fun K' hK => ?_)
    rw [if_pos (by rfl)]
    go_simp
    refine HU.out.mono ?_
    rintro e w5 ⟨rfl, e5⟩
    rw [e5]
    clear e5
    have S5 := S0
    have B75 := B7'
    have F5 := HFI
    have T5 := TW
    refine hK.out _ _ S5 ?_
    clear hK
    try simp only [Go.Act.put, List.setIfInBounds_toArray, List.set_cons_zero, List.set_cons_succ]
    refine wpH_call (i := 7) (o := { dst := some 72, op := Op.call { callee := Callee.value (Operand.func 41), args := #[Operand.tmp 71, Operand.const (Value.int IntKind.i64 1)], argTypes := #[4, 23] }, type := 23, pos := _, after := #[{ on := 6, ground := Ground.data }, { on := 5, ground := Ground.chain }], guard := none }) (by kernel_rfl) rfl (fun K' hK => ?_)
    rw [if_pos (by rfl)]
    go_simp
    refine (HW.out _ false).mono ?_
    rintro e w6 ⟨rfl, e6⟩
    rw [e6]
    clear e6 w6
    simp only [if_true, if_false, Bool.false_eq_true, reduceIte]
    refine hK.out _ _ S5 ?_
    clear hK
    try simp only [Go.Act.put, List.setIfInBounds_toArray, List.set_cons_zero, List.set_cons_succ]
    refine wpH_take (i := 8) (v := (.bool true)) (some 73) rfl rfl (by kernel_rfl) (by kernel_rfl) (by kernel_rfl) (fun _ _ _ h => h) (Or.inl ⟨by rfl, fun w' hS => (by go_simp)⟩) S5 ?_
    try simp only [Go.Act.put, List.setIfInBounds_toArray, List.set_cons_zero, List.set_cons_succ]
    refine wpH_take (i := 9) (v := (.pointer (some ⟨b, 0, none⟩))) (some 6) rfl rfl (by kernel_rfl) (by kernel_rfl) (by kernel_rfl) (fun _ _ _ h => h) (Or.inl ⟨by rfl, fun w' hS => (by go_simp)⟩) S5 ?_
    try simp only [Go.Act.put, List.setIfInBounds_toArray, List.set_cons_zero, List.set_cons_succ]
    refine wpH_call (i := 10) (o := { dst := none, op := Op.store 63 (Operand.tmp 7) (Operand.tmp 66), type := 0, pos := _, after := #[{ on := 1, ground := Ground.data }, { on := 9, ground := Ground.chain }, { on := 0, ground := Ground.phase }, { on := 1, ground := Ground.phase }, { on := 2, ground := Ground.textOnly Departure.lateStores }, { on := 3, ground := Ground.textOnly Departure.lateStores }, { on := 4, ground := Ground.textOnly Departure.lateStores }, { on := 5, ground := Ground.textOnly Departure.lateStoresUnsure }, { on := 6, ground := Ground.textOnly Departure.lateStores }, { on := 7, ground := Ground.textOnly Departure.lateStoresUnsure }, { on := 8, ground := Ground.textOnly Departure.lateStores }, { on := 9, ground := Ground.phase }], guard := none }) (by kernel_rfl) rfl (fun K' hK => ?_)
    rw [if_pos (by rfl)]
    refine wp_storeT bigS (Operand.tmp 7) (Operand.tmp 66) rfl (w.heap.size + 2) _ cs 63 rfl rfl B75.out zs_size HN1.out HO1.out (fun w7 h7 t7 s7 => ?_)
    have S7 := And.intro (t7.keep S5.1 (by simp)) (t7.keep S5.2 (by simp))
    refine hK.out _ _ S7 ?_
    clear hK
    try simp only [Go.Act.put, List.setIfInBounds_toArray, List.set_cons_zero, List.set_cons_succ]
    refine wpH_take (i := 11) (v := (.bool true)) (some 8) rfl rfl (by kernel_rfl) (by kernel_rfl) (by kernel_rfl) (fun _ _ _ h => h) (Or.inl ⟨by rfl, fun w' hS => (by go_simp)⟩) S7 ?_
    try simp only [Go.Act.put, List.setIfInBounds_toArray, List.set_cons_zero, List.set_cons_succ]
    refine wpAnyH_done (by kernel_rfl) ?_ _
    go_wp2_with fail
    refine bodyPost_ret (results_one rfl _ _ rfl h7 HN1.out) rfl ?_
    exact ⟨b, pv, lv, _, _, lv2, _, _, rfl, F5.out.box B75.out t7, Nat.le_succ _, rfl, T5.out.trans t7 (fun k hk => Or.inr (by simp at hk; omega))⟩
end
end Go.Proofs.YthakboiecdjgnaaDoor.Ci
