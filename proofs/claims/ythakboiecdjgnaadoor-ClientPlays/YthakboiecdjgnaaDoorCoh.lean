/- The law's one: Take of a slot that is not full; no conditions but those that it states. -/
import Derived.Test.YthakboiecdjgnaaDoorCog
namespace Go.Proofs.YthakboiecdjgnaaDoor.Ci
open Go.RowKit Go.Maps Go.ChangeMaps
set_option linter.unusedVariables false
set_option linter.unusedSimpArgs false
section
variable {B b : Nat} {w w' : World} {pv lv pv2 lv2 : Value} {cs : Array Value} {S : Cs} {T : Ls}
set_option maxHeartbeats 4000000 in
set_option maxRecDepth 20000 in
theorem one_take_not (h : Iv B w b pv lv cs pv2 lv2 S T) (i : Nat) (a2 : Int) (g : Gz) (hi : i < 16) (hf : T.st i ≠ 3) : Calls Tryd.prog 18 #[.pointer (some ⟨b, 0, none⟩), .agg cs, actv 5 (i : Nat) a2 g] w fun e w' => OnE e w w' B b lv S := by
  have HI := hid h
  have hb := h.q.lt
  obtain ⟨ap, cp, e2⟩ := own_form h.p2
  subst e2
  have hone : Hid (lv2.oneCell' = true) := hid (by obtain ⟨a, c, e⟩ := own_form h.g2; rw [e]; rfl)
  have k1 : (i : Int) < 16 := by omega
  have hfu : (S.sl i).fu = false := by
    rcases h.r.sl i hi with ⟨_, _, e⟩ | ⟨_, _, _, e⟩ | ⟨e, _⟩
    · exact e
    · exact e
    · exact absurd e hf
  have HU0 : Hid (∀ W0, Touch [] w W0 → _) := hid (fun W0 t => take_not (h.q.touch t) i hi hfu)
  have HST := hid (h.s.st i hi)
  have key : (T.st i = 0 ∧ takN (S.sl i) = 1) ∨ (T.st i = 2 ∧ takN (S.sl i) = 2) := by
    rcases h.r.sl i hi with ⟨e, e1, e2⟩ | ⟨e, e1, e2, e3⟩ | ⟨e, _⟩
    · exact Or.inl ⟨e, by unfold takN; rw [e2, e1]; rfl⟩
    · exact Or.inr ⟨e, by unfold takN; rw [e3, if_neg (by decide), if_pos (by omega)]⟩
    · exact absurd e hf
  clear h hfu hf
  generalize takN (S.sl i) = tn at *
  generalize T.st i = st at *
  obtain ⟨g0', g1, g2, g3, g4, g5, g6⟩ := g
  unfold actv
  dsimp only at *
  obtain ⟨V, hV⟩ : ∃ V, V = ((w.alloc (.cells cs 63)).alloc (.cells #[.int .i64 5, .int .i64 (i : Nat), .int .i64 a2, .int .i64 g0', .int .i64 g1, .int .i64 g2, .int .i64 g3, .int .i64 g4, .int .i64 g5, .int .i64 g6] 67)).alloc (.cells Tryd.zeroCells63 63) := ⟨_, rfl⟩
  have TV : Hid (Touch [] w V) := hid (by rw [hV]; exact (((Touch.refl _ _).alloc _).alloc _).alloc _)
  have B4 : Hid (V.heap[w.heap.size]? = some (.cells cs 63 (0, 0))) := hid (by rw [hV]; exact (((Touch.refl [] _).alloc _).alloc _).keep (heap_alloc_new w _) (by simp))
  have B5 : Hid (V.heap[w.heap.size + 1]? = some (.cells #[.int .i64 5, .int .i64 (i : Nat), .int .i64 a2, .int .i64 g0', .int .i64 g1, .int .i64 g2, .int .i64 g3, .int .i64 g4, .int .i64 g5, .int .i64 g6] 67 (0, 0))) := hid (by
    rw [hV]
    have := heap_alloc_new (w.alloc (.cells cs 63)) (.cells #[.int .i64 5, .int .i64 (i : Nat), .int .i64 a2, .int .i64 g0', .int .i64 g1, .int .i64 g2, .int .i64 g3, .int .i64 g4, .int .i64 g5, .int .i64 g6] 67)
    rw [World.size_alloc] at this
    exact ((Touch.refl [] _).alloc _).keep this (by simp))
  have B7 : Hid (V.heap[w.heap.size + 2]? = some (.cells Tryd.zeroCells63 63 (0, 0))) := hid (by
    rw [hV]
    have := heap_alloc_new ((w.alloc (.cells cs 63)).alloc (.cells #[.int .i64 5, .int .i64 (i : Nat), .int .i64 a2, .int .i64 g0', .int .i64 g1, .int .i64 g2, .int .i64 g3, .int .i64 g4, .int .i64 g5, .int .i64 g6] 67)) (.cells Tryd.zeroCells63 63)
    rwa [World.size_alloc, World.size_alloc] at this)
  rcases key with ⟨rfl, rfl⟩ | ⟨rfl, rfl⟩
  · go_enter Tryd.func18, Tryd.ntmps18
    go_upto_region 1 with fail
    rw [← hV]
    clear hV
    have v0 := cell_at (j := 0) B5.out rfl
    have v1 := cell_at (j := 1) B5.out rfl
    have v2 := cell_at (j := 2) B5.out rfl
    have HN1 : Hid (cs.size = 148) := hid HI.out.s.n
    have HO1 : Hid (cs.all (·.oneCell') = true) := hid (HI.out.s.one rfl hone.out)
    go_upto_region 39 with (go_at_call 22; refine (HU0.out _ TV.out).mono ?_; rintro e w1 ⟨rfl, t1⟩; have T1 := hid t1; clear v0 v1 v2; have v1 := cell_at (j := 1) (t1.keep B5.out (by simp)) rfl; have y1 := cell_at (t1.keep B4.out (by simp)) HST.out; have hz0 := block_lt (t1.keep B4.out (by simp)); have hz1 := block_lt (t1.keep B5.out (by simp)); clear t1)
    clear v1 y1 hz0 hz1
    obtain ⟨G, hG⟩ : ∃ G, G = w1.heap.size := ⟨_, rfl⟩
    obtain ⟨W0, hW0⟩ : ∃ W0, W0 = (w1.alloc (.cells #[.int .i64 0, .int .i64 0, .int .i64 0, .int .i64 0, .int .i64 0, .int .i64 0, .int .i64 0] 60)).drew := ⟨_, rfl⟩
    have tb : Touch [] V W0 := by rw [hW0]; exact (T1.out.alloc _).drew
    have hGw : w.heap.size + 2 < G := by have := block_lt (T1.out.keep B7.out (by simp)); omega
    have S0 : (fun (w' : World) => w'.heap[w.heap.size]? = some (.cells cs 63 (0, 0)) ∧ w'.heap[G]? = some (.cells #[.int .i64 0, .int .i64 0, .int .i64 0, .int .i64 0, .int .i64 0, .int .i64 0, .int .i64 0] 60 (0, 0))) W0 := And.intro (tb.keep B4.out (by simp)) (by rw [hW0, hG]; exact heap_alloc_new w1 _)
    dsimp only at S0
    have HFI := hid ((HI.out.touch TV.out).touch tb)
    have TW : Hid (Touch (b :: lv.ownBlock.toList) w W0) := hid ((TV.out.mono (fun _ e => by cases e)).trans tb (fun k hk => by cases hk))
    have B7' := hid (tb.keep B7.out (by simp))
    have F0 : ∀ w' : World, (w'.heap[w.heap.size]? = some (.cells cs 63 (0, 0)) ∧ w'.heap[G]? = some (.cells #[.int .i64 0, .int .i64 0, .int .i64 0, .int .i64 0, .int .i64 0, .int .i64 0, .int .i64 0] 60 (0, 0))) → w'.cell? ⟨G, 0, none⟩ = some (.int .i64 0) := fun w' h => cell_at h.2 rfl
    have F1 : ∀ w' : World, (w'.heap[w.heap.size]? = some (.cells cs 63 (0, 0)) ∧ w'.heap[G]? = some (.cells #[.int .i64 0, .int .i64 0, .int .i64 0, .int .i64 0, .int .i64 0, .int .i64 0, .int .i64 0] 60 (0, 0))) → w'.cell? ⟨G, 1, none⟩ = some (.int .i64 0) := fun w' h => cell_at h.2 rfl
    have F2 : ∀ w' : World, (w'.heap[w.heap.size]? = some (.cells cs 63 (0, 0)) ∧ w'.heap[G]? = some (.cells #[.int .i64 0, .int .i64 0, .int .i64 0, .int .i64 0, .int .i64 0, .int .i64 0, .int .i64 0] 60 (0, 0))) → w'.cell? ⟨G, 2, none⟩ = some (.int .i64 0) := fun w' h => cell_at h.2 rfl
    have F3 : ∀ w' : World, (w'.heap[w.heap.size]? = some (.cells cs 63 (0, 0)) ∧ w'.heap[G]? = some (.cells #[.int .i64 0, .int .i64 0, .int .i64 0, .int .i64 0, .int .i64 0, .int .i64 0, .int .i64 0] 60 (0, 0))) → w'.cell? ⟨G, 3, none⟩ = some (.int .i64 0) := fun w' h => cell_at h.2 rfl
    have F4 : ∀ w' : World, (w'.heap[w.heap.size]? = some (.cells cs 63 (0, 0)) ∧ w'.heap[G]? = some (.cells #[.int .i64 0, .int .i64 0, .int .i64 0, .int .i64 0, .int .i64 0, .int .i64 0, .int .i64 0] 60 (0, 0))) → w'.cell? ⟨G, 4, none⟩ = some (.int .i64 0) := fun w' h => cell_at h.2 rfl
    have F5 : ∀ w' : World, (w'.heap[w.heap.size]? = some (.cells cs 63 (0, 0)) ∧ w'.heap[G]? = some (.cells #[.int .i64 0, .int .i64 0, .int .i64 0, .int .i64 0, .int .i64 0, .int .i64 0, .int .i64 0] 60 (0, 0))) → w'.cell? ⟨G, 5, none⟩ = some (.int .i64 0) := fun w' h => cell_at h.2 rfl
    have F6 : ∀ w' : World, (w'.heap[w.heap.size]? = some (.cells cs 63 (0, 0)) ∧ w'.heap[G]? = some (.cells #[.int .i64 0, .int .i64 0, .int .i64 0, .int .i64 0, .int .i64 0, .int .i64 0, .int .i64 0] 60 (0, 0))) → w'.cell? ⟨G, 6, none⟩ = some (.int .i64 0) := fun w' h => cell_at h.2 rfl
    refine wp_region_H (S := fun (w' : World) => w'.heap[w.heap.size]? = some (.cells cs 63 (0, 0)) ∧ w'.heap[G]? = some (.cells #[.int .i64 0, .int .i64 0, .int .i64 0, .int .i64 0, .int .i64 0, .int .i64 0, .int .i64 0] 60 (0, 0))) (by kernel_rfl) ?_
    rw [← hG, ← hW0]
    clear hW0 hG tb T1
    refine wpH_take (i := 0) (v := (.pointer (some ⟨b, 0, none⟩))) (some 208) rfl rfl (by kernel_rfl) (by kernel_rfl) (by kernel_rfl) (fun _ _ _ h => h) (Or.inl ⟨by rfl, fun w' hS => (by go_simp)⟩) S0 ?_
    try simp only [Go.Act.put, List.setIfInBounds_toArray, List.set_cons_zero, List.set_cons_succ]
    refine wpH_take (i := 1) (v := (.agg cs)) (some 209) rfl rfl (by kernel_rfl) (by kernel_rfl) (by kernel_rfl) (fun _ _ _ h => h) (Or.inl ⟨by rfl, fun w' hS => exec_loadT bigS _ rfl rfl hS.1 HN1.out⟩) S0 ?_
    try simp only [Go.Act.put, List.setIfInBounds_toArray, List.set_cons_zero, List.set_cons_succ]
    refine wpH_take (i := 2) (v := (.agg #[.int .i64 0, .int .i64 0, .int .i64 0, .int .i64 0, .int .i64 0, .int .i64 0, .int .i64 0])) (some 210) rfl rfl (by kernel_rfl) (by kernel_rfl) (by kernel_rfl) (fun _ _ _ h => h) (Or.inl ⟨by rfl, fun w' hS => (by have z0 := F0 _ hS; have z1 := F1 _ hS; have z2 := F2 _ hS; have z3 := F3 _ hS; have z4 := F4 _ hS; have z5 := F5 _ hS; have z6 := F6 _ hS; go_simp)⟩) S0 ?_
    try simp only [Go.Act.put, List.setIfInBounds_toArray, List.set_cons_zero, List.set_cons_succ]
    refine wpH_take (i := 3) (v := (.agg #[.int .i64 0, .int .i64 0, .int .i64 0, .int .i64 0, .int .i64 0, .int .i64 0, .int .i64 0])) (some 211) rfl rfl (by kernel_rfl) (by kernel_rfl) (by kernel_rfl) (fun _ _ _ h => h) (Or.inl ⟨by rfl, fun w' hS => (by go_simp)⟩) S0 ?_
    try simp only [Go.Act.put, List.setIfInBounds_toArray, List.set_cons_zero, List.set_cons_succ]
    refine wpH_take (i := 4) (v := (.bool true)) (some 212) rfl rfl (by kernel_rfl) (by kernel_rfl) (by kernel_rfl) (fun _ _ _ h => h) (Or.inl ⟨by rfl, fun w' hS => (by go_simp)⟩) S0 ?_
    try simp only [Go.Act.put, List.setIfInBounds_toArray, List.set_cons_zero, List.set_cons_succ]
    refine wpH_take (i := 5) (v := (.bool true)) (some 213) rfl rfl (by kernel_rfl) (by kernel_rfl) (by kernel_rfl) (fun _ _ _ h => h) (Or.inl ⟨by rfl, fun w' hS => (by go_simp)⟩) S0 ?_
    try simp only [Go.Act.put, List.setIfInBounds_toArray, List.set_cons_zero, List.set_cons_succ]
    refine wpH_take (i := 6) (v := (.int .i64 1)) (some 214) rfl rfl (by kernel_rfl) (by kernel_rfl) (by kernel_rfl) (fun _ _ _ h => h) (Or.inl ⟨by rfl, fun w' hS => (by go_simp)⟩) S0 ?_
    try simp only [Go.Act.put, List.setIfInBounds_toArray, List.set_cons_zero, List.set_cons_succ]
    refine wpH_take (i := 7) (v := (.int .i64 1)) (some 215) rfl rfl (by kernel_rfl) (by kernel_rfl) (by kernel_rfl) (fun _ _ _ h => h) (Or.inl ⟨by rfl, fun w' hS => (by go_simp)⟩) S0 ?_
    try simp only [Go.Act.put, List.setIfInBounds_toArray, List.set_cons_zero, List.set_cons_succ]
    refine wpH_take (i := 8) (v := (.bool true)) (some 216) rfl rfl (by kernel_rfl) (by kernel_rfl) (by kernel_rfl) (fun _ _ _ h => h) (Or.inl ⟨by rfl, fun w' hS => (by go_simp)⟩) S0 ?_
    try simp only [Go.Act.put, List.setIfInBounds_toArray, List.set_cons_zero, List.set_cons_succ]
    refine wpH_take (i := 9) (v := (.bool true)) (some 217) rfl rfl (by kernel_rfl) (by kernel_rfl) (by kernel_rfl) (fun _ _ _ h => h) (Or.inl ⟨by rfl, fun w' hS => (by go_simp)⟩) S0 ?_
    try simp only [Go.Act.put, List.setIfInBounds_toArray, List.set_cons_zero, List.set_cons_succ]
    refine wpH_take (i := 10) (v := (.bool true)) (some 218) rfl rfl (by kernel_rfl) (by kernel_rfl) (by kernel_rfl) (fun _ _ _ h => h) (Or.inl ⟨by rfl, fun w' hS => (by go_simp)⟩) S0 ?_
    try simp only [Go.Act.put, List.setIfInBounds_toArray, List.set_cons_zero, List.set_cons_succ]
    refine wpH_take (i := 11) (v := (.int .i64 0)) (some 219) rfl rfl (by kernel_rfl) (by kernel_rfl) (by kernel_rfl) (fun _ _ _ h => h) (Or.inl ⟨by rfl, fun w' hS => (by go_simp)⟩) S0 ?_
    try simp only [Go.Act.put, List.setIfInBounds_toArray, List.set_cons_zero, List.set_cons_succ]
    refine wpH_take (i := 12) (v := (.bool true)) (some 220) rfl rfl (by kernel_rfl) (by kernel_rfl) (by kernel_rfl) (fun _ _ _ h => h) (Or.inl ⟨by rfl, fun w' hS => (by go_simp)⟩) S0 ?_
    try simp only [Go.Act.put, List.setIfInBounds_toArray, List.set_cons_zero, List.set_cons_succ]
    refine wpH_take (i := 13) (v := (.bool true)) (some 221) rfl rfl (by kernel_rfl) (by kernel_rfl) (by kernel_rfl) (fun _ _ _ h => h) (Or.inl ⟨by rfl, fun w' hS => (by go_simp)⟩) S0 ?_
    try simp only [Go.Act.put, List.setIfInBounds_toArray, List.set_cons_zero, List.set_cons_succ]
    refine wpH_take (i := 14) (v := (.pointer (some ⟨b, 0, none⟩))) (some 6) rfl rfl (by kernel_rfl) (by kernel_rfl) (by kernel_rfl) (fun _ _ _ h => h) (Or.inl ⟨by rfl, fun w' hS => (by go_simp)⟩) S0 ?_
    try simp only [Go.Act.put, List.setIfInBounds_toArray, List.set_cons_zero, List.set_cons_succ]
    refine wpH_call (i := 15) (o := { dst := none, op := Op.store 63 (Operand.tmp 7) (Operand.tmp 209), type := 0, pos := _, after := #[{ on := 1, ground := Ground.data }, { on := 14, ground := Ground.chain }, { on := 0, ground := Ground.phase }, { on := 1, ground := Ground.phase }, { on := 2, ground := Ground.textOnly Departure.lateStores }, { on := 3, ground := Ground.textOnly Departure.lateStores }, { on := 4, ground := Ground.textOnly Departure.lateStores }, { on := 5, ground := Ground.textOnly Departure.lateStores }, { on := 6, ground := Ground.textOnly Departure.lateStores }, { on := 7, ground := Ground.textOnly Departure.lateStores }, { on := 8, ground := Ground.textOnly Departure.lateStores }, { on := 9, ground := Ground.textOnly Departure.lateStores }, { on := 10, ground := Ground.textOnly Departure.lateStores }, { on := 11, ground := Ground.textOnly Departure.lateStores }, { on := 12, ground := Ground.textOnly Departure.lateStores }, { on := 13, ground := Ground.textOnly Departure.lateStores }, { on := 14, ground := Ground.phase }], guard := none }) (by kernel_rfl) rfl (fun K' hK => ?_)
    rw [if_pos (by rfl)]
    refine wp_storeT bigS (Operand.tmp 7) (Operand.tmp 209) rfl (w.heap.size + 2) _ cs 63 rfl rfl B7'.out zs_size HN1.out HO1.out (fun w7 h7 t7 s7 => ?_)
    have S7 := And.intro (t7.keep S0.1 (by simp)) (t7.keep S0.2 (by simp; omega))
    refine hK.out _ _ S7 ?_
    clear hK
    try simp only [Go.Act.put, List.setIfInBounds_toArray, List.set_cons_zero, List.set_cons_succ]
    refine wpH_take (i := 16) (v := (.bool true)) (some 8) rfl rfl (by kernel_rfl) (by kernel_rfl) (by kernel_rfl) (fun _ _ _ h => h) (Or.inl ⟨by rfl, fun w' hS => (by go_simp)⟩) S7 ?_
    try simp only [Go.Act.put, List.setIfInBounds_toArray, List.set_cons_zero, List.set_cons_succ]
    refine wpAnyH_done (by kernel_rfl) ?_ _
    go_wp2_with fail
    refine bodyPost_ret (results_one rfl _ _ rfl h7 HN1.out) rfl ?_
    exact ⟨b, pv, lv, _, _, lv2, _, _, rfl, HFI.out.box B7'.out t7, Nat.le_succ _, rfl, TW.out.trans t7 (fun k hk => Or.inr (by simp at hk; omega))⟩
  · go_enter Tryd.func18, Tryd.ntmps18
    go_upto_region 1 with fail
    rw [← hV]
    clear hV
    have v0 := cell_at (j := 0) B5.out rfl
    have v1 := cell_at (j := 1) B5.out rfl
    have v2 := cell_at (j := 2) B5.out rfl
    have HN1 : Hid (cs.size = 148) := hid HI.out.s.n
    have HO1 : Hid (cs.all (·.oneCell') = true) := hid (HI.out.s.one rfl hone.out)
    go_upto_region 39 with (go_at_call 22; refine (HU0.out _ TV.out).mono ?_; rintro e w1 ⟨rfl, t1⟩; have T1 := hid t1; clear v0 v1 v2; have v1 := cell_at (j := 1) (t1.keep B5.out (by simp)) rfl; have y1 := cell_at (t1.keep B4.out (by simp)) HST.out; have hz0 := block_lt (t1.keep B4.out (by simp)); have hz1 := block_lt (t1.keep B5.out (by simp)); clear t1)
    clear v1 y1 hz0 hz1
    obtain ⟨G, hG⟩ : ∃ G, G = w1.heap.size := ⟨_, rfl⟩
    obtain ⟨W0, hW0⟩ : ∃ W0, W0 = (w1.alloc (.cells #[.int .i64 0, .int .i64 0, .int .i64 0, .int .i64 0, .int .i64 0, .int .i64 0, .int .i64 0] 60)).drew := ⟨_, rfl⟩
    have tb : Touch [] V W0 := by rw [hW0]; exact (T1.out.alloc _).drew
    have hGw : w.heap.size + 2 < G := by have := block_lt (T1.out.keep B7.out (by simp)); omega
    have S0 : (fun (w' : World) => w'.heap[w.heap.size]? = some (.cells cs 63 (0, 0)) ∧ w'.heap[G]? = some (.cells #[.int .i64 0, .int .i64 0, .int .i64 0, .int .i64 0, .int .i64 0, .int .i64 0, .int .i64 0] 60 (0, 0))) W0 := And.intro (tb.keep B4.out (by simp)) (by rw [hW0, hG]; exact heap_alloc_new w1 _)
    dsimp only at S0
    have HFI := hid ((HI.out.touch TV.out).touch tb)
    have TW : Hid (Touch (b :: lv.ownBlock.toList) w W0) := hid ((TV.out.mono (fun _ e => by cases e)).trans tb (fun k hk => by cases hk))
    have B7' := hid (tb.keep B7.out (by simp))
    have F0 : ∀ w' : World, (w'.heap[w.heap.size]? = some (.cells cs 63 (0, 0)) ∧ w'.heap[G]? = some (.cells #[.int .i64 0, .int .i64 0, .int .i64 0, .int .i64 0, .int .i64 0, .int .i64 0, .int .i64 0] 60 (0, 0))) → w'.cell? ⟨G, 0, none⟩ = some (.int .i64 0) := fun w' h => cell_at h.2 rfl
    have F1 : ∀ w' : World, (w'.heap[w.heap.size]? = some (.cells cs 63 (0, 0)) ∧ w'.heap[G]? = some (.cells #[.int .i64 0, .int .i64 0, .int .i64 0, .int .i64 0, .int .i64 0, .int .i64 0, .int .i64 0] 60 (0, 0))) → w'.cell? ⟨G, 1, none⟩ = some (.int .i64 0) := fun w' h => cell_at h.2 rfl
    have F2 : ∀ w' : World, (w'.heap[w.heap.size]? = some (.cells cs 63 (0, 0)) ∧ w'.heap[G]? = some (.cells #[.int .i64 0, .int .i64 0, .int .i64 0, .int .i64 0, .int .i64 0, .int .i64 0, .int .i64 0] 60 (0, 0))) → w'.cell? ⟨G, 2, none⟩ = some (.int .i64 0) := fun w' h => cell_at h.2 rfl
    have F3 : ∀ w' : World, (w'.heap[w.heap.size]? = some (.cells cs 63 (0, 0)) ∧ w'.heap[G]? = some (.cells #[.int .i64 0, .int .i64 0, .int .i64 0, .int .i64 0, .int .i64 0, .int .i64 0, .int .i64 0] 60 (0, 0))) → w'.cell? ⟨G, 3, none⟩ = some (.int .i64 0) := fun w' h => cell_at h.2 rfl
    have F4 : ∀ w' : World, (w'.heap[w.heap.size]? = some (.cells cs 63 (0, 0)) ∧ w'.heap[G]? = some (.cells #[.int .i64 0, .int .i64 0, .int .i64 0, .int .i64 0, .int .i64 0, .int .i64 0, .int .i64 0] 60 (0, 0))) → w'.cell? ⟨G, 4, none⟩ = some (.int .i64 0) := fun w' h => cell_at h.2 rfl
    have F5 : ∀ w' : World, (w'.heap[w.heap.size]? = some (.cells cs 63 (0, 0)) ∧ w'.heap[G]? = some (.cells #[.int .i64 0, .int .i64 0, .int .i64 0, .int .i64 0, .int .i64 0, .int .i64 0, .int .i64 0] 60 (0, 0))) → w'.cell? ⟨G, 5, none⟩ = some (.int .i64 0) := fun w' h => cell_at h.2 rfl
    have F6 : ∀ w' : World, (w'.heap[w.heap.size]? = some (.cells cs 63 (0, 0)) ∧ w'.heap[G]? = some (.cells #[.int .i64 0, .int .i64 0, .int .i64 0, .int .i64 0, .int .i64 0, .int .i64 0, .int .i64 0] 60 (0, 0))) → w'.cell? ⟨G, 6, none⟩ = some (.int .i64 0) := fun w' h => cell_at h.2 rfl
    refine wp_region_H (S := fun (w' : World) => w'.heap[w.heap.size]? = some (.cells cs 63 (0, 0)) ∧ w'.heap[G]? = some (.cells #[.int .i64 0, .int .i64 0, .int .i64 0, .int .i64 0, .int .i64 0, .int .i64 0, .int .i64 0] 60 (0, 0))) (by kernel_rfl) ?_
    rw [← hG, ← hW0]
    clear hW0 hG tb T1
    refine wpH_take (i := 0) (v := (.pointer (some ⟨b, 0, none⟩))) (some 208) rfl rfl (by kernel_rfl) (by kernel_rfl) (by kernel_rfl) (fun _ _ _ h => h) (Or.inl ⟨by rfl, fun w' hS => (by go_simp)⟩) S0 ?_
    try simp only [Go.Act.put, List.setIfInBounds_toArray, List.set_cons_zero, List.set_cons_succ]
    refine wpH_take (i := 1) (v := (.agg cs)) (some 209) rfl rfl (by kernel_rfl) (by kernel_rfl) (by kernel_rfl) (fun _ _ _ h => h) (Or.inl ⟨by rfl, fun w' hS => exec_loadT bigS _ rfl rfl hS.1 HN1.out⟩) S0 ?_
    try simp only [Go.Act.put, List.setIfInBounds_toArray, List.set_cons_zero, List.set_cons_succ]
    refine wpH_take (i := 2) (v := (.agg #[.int .i64 0, .int .i64 0, .int .i64 0, .int .i64 0, .int .i64 0, .int .i64 0, .int .i64 0])) (some 210) rfl rfl (by kernel_rfl) (by kernel_rfl) (by kernel_rfl) (fun _ _ _ h => h) (Or.inl ⟨by rfl, fun w' hS => (by have z0 := F0 _ hS; have z1 := F1 _ hS; have z2 := F2 _ hS; have z3 := F3 _ hS; have z4 := F4 _ hS; have z5 := F5 _ hS; have z6 := F6 _ hS; go_simp)⟩) S0 ?_
    try simp only [Go.Act.put, List.setIfInBounds_toArray, List.set_cons_zero, List.set_cons_succ]
    refine wpH_take (i := 3) (v := (.agg #[.int .i64 0, .int .i64 0, .int .i64 0, .int .i64 0, .int .i64 0, .int .i64 0, .int .i64 0])) (some 211) rfl rfl (by kernel_rfl) (by kernel_rfl) (by kernel_rfl) (fun _ _ _ h => h) (Or.inl ⟨by rfl, fun w' hS => (by go_simp)⟩) S0 ?_
    try simp only [Go.Act.put, List.setIfInBounds_toArray, List.set_cons_zero, List.set_cons_succ]
    refine wpH_take (i := 4) (v := (.bool true)) (some 212) rfl rfl (by kernel_rfl) (by kernel_rfl) (by kernel_rfl) (fun _ _ _ h => h) (Or.inl ⟨by rfl, fun w' hS => (by go_simp)⟩) S0 ?_
    try simp only [Go.Act.put, List.setIfInBounds_toArray, List.set_cons_zero, List.set_cons_succ]
    refine wpH_take (i := 5) (v := (.bool true)) (some 213) rfl rfl (by kernel_rfl) (by kernel_rfl) (by kernel_rfl) (fun _ _ _ h => h) (Or.inl ⟨by rfl, fun w' hS => (by go_simp)⟩) S0 ?_
    try simp only [Go.Act.put, List.setIfInBounds_toArray, List.set_cons_zero, List.set_cons_succ]
    refine wpH_take (i := 6) (v := (.int .i64 2)) (some 214) rfl rfl (by kernel_rfl) (by kernel_rfl) (by kernel_rfl) (fun _ _ _ h => h) (Or.inl ⟨by rfl, fun w' hS => (by go_simp)⟩) S0 ?_
    try simp only [Go.Act.put, List.setIfInBounds_toArray, List.set_cons_zero, List.set_cons_succ]
    refine wpH_take (i := 7) (v := (.int .i64 2)) (some 215) rfl rfl (by kernel_rfl) (by kernel_rfl) (by kernel_rfl) (fun _ _ _ h => h) (Or.inl ⟨by rfl, fun w' hS => (by go_simp)⟩) S0 ?_
    try simp only [Go.Act.put, List.setIfInBounds_toArray, List.set_cons_zero, List.set_cons_succ]
    refine wpH_take (i := 8) (v := (.bool true)) (some 216) rfl rfl (by kernel_rfl) (by kernel_rfl) (by kernel_rfl) (fun _ _ _ h => h) (Or.inl ⟨by rfl, fun w' hS => (by go_simp)⟩) S0 ?_
    try simp only [Go.Act.put, List.setIfInBounds_toArray, List.set_cons_zero, List.set_cons_succ]
    refine wpH_take (i := 9) (v := (.bool true)) (some 217) rfl rfl (by kernel_rfl) (by kernel_rfl) (by kernel_rfl) (fun _ _ _ h => h) (Or.inl ⟨by rfl, fun w' hS => (by go_simp)⟩) S0 ?_
    try simp only [Go.Act.put, List.setIfInBounds_toArray, List.set_cons_zero, List.set_cons_succ]
    refine wpH_take (i := 10) (v := (.bool true)) (some 218) rfl rfl (by kernel_rfl) (by kernel_rfl) (by kernel_rfl) (fun _ _ _ h => h) (Or.inl ⟨by rfl, fun w' hS => (by go_simp)⟩) S0 ?_
    try simp only [Go.Act.put, List.setIfInBounds_toArray, List.set_cons_zero, List.set_cons_succ]
    refine wpH_take (i := 11) (v := (.int .i64 0)) (some 219) rfl rfl (by kernel_rfl) (by kernel_rfl) (by kernel_rfl) (fun _ _ _ h => h) (Or.inl ⟨by rfl, fun w' hS => (by go_simp)⟩) S0 ?_
    try simp only [Go.Act.put, List.setIfInBounds_toArray, List.set_cons_zero, List.set_cons_succ]
    refine wpH_take (i := 12) (v := (.bool true)) (some 220) rfl rfl (by kernel_rfl) (by kernel_rfl) (by kernel_rfl) (fun _ _ _ h => h) (Or.inl ⟨by rfl, fun w' hS => (by go_simp)⟩) S0 ?_
    try simp only [Go.Act.put, List.setIfInBounds_toArray, List.set_cons_zero, List.set_cons_succ]
    refine wpH_take (i := 13) (v := (.bool true)) (some 221) rfl rfl (by kernel_rfl) (by kernel_rfl) (by kernel_rfl) (fun _ _ _ h => h) (Or.inl ⟨by rfl, fun w' hS => (by go_simp)⟩) S0 ?_
    try simp only [Go.Act.put, List.setIfInBounds_toArray, List.set_cons_zero, List.set_cons_succ]
    refine wpH_take (i := 14) (v := (.pointer (some ⟨b, 0, none⟩))) (some 6) rfl rfl (by kernel_rfl) (by kernel_rfl) (by kernel_rfl) (fun _ _ _ h => h) (Or.inl ⟨by rfl, fun w' hS => (by go_simp)⟩) S0 ?_
    try simp only [Go.Act.put, List.setIfInBounds_toArray, List.set_cons_zero, List.set_cons_succ]
    refine wpH_call (i := 15) (o := { dst := none, op := Op.store 63 (Operand.tmp 7) (Operand.tmp 209), type := 0, pos := _, after := #[{ on := 1, ground := Ground.data }, { on := 14, ground := Ground.chain }, { on := 0, ground := Ground.phase }, { on := 1, ground := Ground.phase }, { on := 2, ground := Ground.textOnly Departure.lateStores }, { on := 3, ground := Ground.textOnly Departure.lateStores }, { on := 4, ground := Ground.textOnly Departure.lateStores }, { on := 5, ground := Ground.textOnly Departure.lateStores }, { on := 6, ground := Ground.textOnly Departure.lateStores }, { on := 7, ground := Ground.textOnly Departure.lateStores }, { on := 8, ground := Ground.textOnly Departure.lateStores }, { on := 9, ground := Ground.textOnly Departure.lateStores }, { on := 10, ground := Ground.textOnly Departure.lateStores }, { on := 11, ground := Ground.textOnly Departure.lateStores }, { on := 12, ground := Ground.textOnly Departure.lateStores }, { on := 13, ground := Ground.textOnly Departure.lateStores }, { on := 14, ground := Ground.phase }], guard := none }) (by kernel_rfl) rfl (fun K' hK => ?_)
    rw [if_pos (by rfl)]
    refine wp_storeT bigS (Operand.tmp 7) (Operand.tmp 209) rfl (w.heap.size + 2) _ cs 63 rfl rfl B7'.out zs_size HN1.out HO1.out (fun w7 h7 t7 s7 => ?_)
    have S7 := And.intro (t7.keep S0.1 (by simp)) (t7.keep S0.2 (by simp; omega))
    refine hK.out _ _ S7 ?_
    clear hK
    try simp only [Go.Act.put, List.setIfInBounds_toArray, List.set_cons_zero, List.set_cons_succ]
    refine wpH_take (i := 16) (v := (.bool true)) (some 8) rfl rfl (by kernel_rfl) (by kernel_rfl) (by kernel_rfl) (fun _ _ _ h => h) (Or.inl ⟨by rfl, fun w' hS => (by go_simp)⟩) S7 ?_
    try simp only [Go.Act.put, List.setIfInBounds_toArray, List.set_cons_zero, List.set_cons_succ]
    refine wpAnyH_done (by kernel_rfl) ?_ _
    go_wp2_with fail
    refine bodyPost_ret (results_one rfl _ _ rfl h7 HN1.out) rfl ?_
    exact ⟨b, pv, lv, _, _, lv2, _, _, rfl, HFI.out.box B7'.out t7, Nat.le_succ _, rfl, TW.out.trans t7 (fun k hk => Or.inr (by simp at hk; omega))⟩
end
end Go.Proofs.YthakboiecdjgnaaDoor.Ci
