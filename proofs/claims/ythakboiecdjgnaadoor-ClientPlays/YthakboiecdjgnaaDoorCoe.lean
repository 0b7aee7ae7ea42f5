/- The law's one: Clone; no conditions but those that it states. -/
import Derived.Test.YthakboiecdjgnaaDoorCod
namespace Go.Proofs.YthakboiecdjgnaaDoor.Ci
open Go.RowKit Go.Maps Go.ChangeMaps
set_option linter.unusedVariables false
set_option linter.unusedSimpArgs false
section
variable {B b : Nat} {w w' : World} {pv lv pv2 lv2 : Value} {cs : Array Value} {S : Cs} {T : Ls}
/-- A client that a step of another one leaves as it was. -/
theorem Cq.away (h : Cq w b pv lv S) {k : Nat} (t : Touch [k] w w') (hb : b ≠ k) (hp : ∀ j, pv.ownBlock = some j → j ≠ k) (hl : ∀ j, lv.ownBlock = some j → j ≠ k) : Cq w' b pv lv S := by
  obtain ⟨cs, h1, h2⟩ := h.blk
  exact ⟨⟨cs, t.keep h1 (by simpa using hb), h2⟩, own_touch h.pr t (fun j hj => by simpa using hp j hj), own_touch h.lg t (fun j hj => by simpa using hl j hj), h.le, h.len⟩
/-- The clone in the client's place. -/
theorem Iv.clone (h : Iv B w b pv lv cs pv2 lv2 S T) {w2 w5 : World} {g : Nat} {pv' lv' : Value} (hq : Cq w2 g pv' lv' S) (t : Touch [] w w2) (hg : w.heap.size ≤ g) (hp : ∀ k, pv'.ownBlock = some k → w.heap.size ≤ k) (hl : ∀ k, lv'.ownBlock = some k → w.heap.size ≤ k) (t5 : Touch [b] w2 w5) : Iv B w5 g pv' lv' cs pv2 lv2 S T ∧ Touch [b] w w5 := by
  have hb := h.q.lt
  have h2 := h.touch t
  obtain ⟨c, hc, _⟩ := h2.q.blk
  refine ⟨⟨hq.away t5 (by omega) (fun j hj => by have := hp j hj; omega) (fun j hj => by have := hl j hj; omega), h.s, h.r, own_touch h2.p2 t5 (kind_ne h2.p2 hc (by decide)), own_touch h2.g2 t5 (kind_ne h2.g2 hc (by decide)), fun k hk e => ?_, by have := h.bb; omega, fun k hk => by have := hl k hk; have := h.bb; omega⟩, (t.mono (fun _ e => by cases e)).trans' t5⟩
  have h3 := hl k hk
  have h4 := (h.g2.lt k e).2
  omega
set_option maxHeartbeats 4000000 in
set_option maxRecDepth 20000 in
theorem one_clone (h : Iv B w b pv lv cs pv2 lv2 S T) (k a1 a2 : Int) (g : Gz) (hk : ¬ (0 ≤ k ∧ k ≤ 5)) (hl : S.log.length ≤ 2000000000000) : Calls Tryd.prog 18 #[.pointer (some ⟨b, 0, none⟩), .agg cs, actv k a1 a2 g] w fun e w' => OnE e w w' B b lv S := by
  have HI := hid h
  have hb := h.q.lt
  obtain ⟨ap, cp, e2⟩ := own_form h.p2
  subst e2
  have hone : Hid (lv2.oneCell' = true) := hid (by obtain ⟨a, c, e⟩ := own_form h.g2; rw [e]; rfl)
  have HN1 : Hid (cs.size = 148) := hid h.s.n
  have HO1 : Hid (cs.all (·.oneCell') = true) := hid (h.s.one rfl hone.out)
  have HCl : Hid (∀ V, Touch [] w V → Calls Tryd.prog 28 #[.pointer (some ⟨b, 0, none⟩)] V fun e w' => ClE e V w' S) := hid (fun V t => clone_ (h.q.touch t) hl)
  have n0 : (k == 0) = false := by simp; omega
  have n1 : (k == 1) = false := by simp; omega
  have n2 : (k == 2) = false := by simp; omega
  have n3 : (k == 3) = false := by simp; omega
  have n4 : (k == 4) = false := by simp; omega
  have n5 : (k == 5) = false := by simp; omega
  clear h hl hk
  obtain ⟨g0', g1, g2, g3, g4, g5, g6⟩ := g
  unfold actv
  dsimp only
  obtain ⟨V, hV⟩ : ∃ V, V = ((w.alloc (.cells cs 63)).alloc (.cells #[.int .i64 k, .int .i64 a1, .int .i64 a2, .int .i64 g0', .int .i64 g1, .int .i64 g2, .int .i64 g3, .int .i64 g4, .int .i64 g5, .int .i64 g6] 67)).alloc (.cells Tryd.zeroCells63 63) := ⟨_, rfl⟩
  have TV : Hid (Touch [] w V) := hid (by rw [hV]; exact (((Touch.refl _ _).alloc _).alloc _).alloc _)
  have B4 : Hid (V.heap[w.heap.size]? = some (.cells cs 63 (0, 0))) := hid (by rw [hV]; exact (((Touch.refl [] _).alloc _).alloc _).keep (heap_alloc_new w _) (by simp))
  have B5 : Hid (V.heap[w.heap.size + 1]? = some (.cells #[.int .i64 k, .int .i64 a1, .int .i64 a2, .int .i64 g0', .int .i64 g1, .int .i64 g2, .int .i64 g3, .int .i64 g4, .int .i64 g5, .int .i64 g6] 67 (0, 0))) := hid (by
    rw [hV]
    have := heap_alloc_new (w.alloc (.cells cs 63)) (.cells #[.int .i64 k, .int .i64 a1, .int .i64 a2, .int .i64 g0', .int .i64 g1, .int .i64 g2, .int .i64 g3, .int .i64 g4, .int .i64 g5, .int .i64 g6] 67)
    rw [World.size_alloc] at this
    exact ((Touch.refl [] _).alloc _).keep this (by simp))
  have B7 : Hid (V.heap[w.heap.size + 2]? = some (.cells Tryd.zeroCells63 63 (0, 0))) := hid (by
    rw [hV]
    have := heap_alloc_new ((w.alloc (.cells cs 63)).alloc (.cells #[.int .i64 k, .int .i64 a1, .int .i64 a2, .int .i64 g0', .int .i64 g1, .int .i64 g2, .int .i64 g3, .int .i64 g4, .int .i64 g5, .int .i64 g6] 67)) (.cells Tryd.zeroCells63 63)
    rwa [World.size_alloc, World.size_alloc] at this)
  have key : (0 ≤ a1 ∧ a1 < 16) ∨ (decide (0 ≤ a1) = false) ∨ (0 ≤ a1 ∧ decide (a1 < 16) = false) := by simp only [decide_eq_false_iff_not]; omega
  rcases key with ⟨k0, k1⟩ | k0 | ⟨k0, k1⟩
  · go_enter Tryd.func18, Tryd.ntmps18
    go_upto_region 1 with fail
    rw [← hV]
    clear hV
    have v0 := cell_at (j := 0) B5.out rfl
    have v1 := cell_at (j := 1) B5.out rfl
    have v2 := cell_at (j := 2) B5.out rfl
    go_upto_region 46 with (first
      | (go_at_call 28; refine (HCl.out _ TV.out).mono ?_; rintro e w2 ⟨g9, pv9, lv9, rfl, q9, t9, z9, zp9, zl9⟩; clear v0 v1 v2; have Q9 := hid (And.intro q9 (And.intro t9 (And.intro z9 (And.intro zp9 zl9)))); have HG := hid (go_ (((HI.out.touch TV.out).touch t9).q)); clear q9 t9 z9 zp9 zl9)
      | (go_at_call 23; refine HG.out.mono ?_; rintro e w3 ⟨rfl, t3, q3⟩; have HU := hid (use_ok q3 (n := 9) (by decide) (by decide)); have T3 := hid t3; clear q3 t3)
      | (go_at_call 24; refine HU.out.mono ?_; rintro e w4 ⟨rfl, t4, q4⟩; have HP := hid (put_ok q4 0 77 (by decide) (by decide)); have T4 := hid (T3.out.trans' t4); clear q4 t4)
      | (go_at_call 26; refine HP.out.mono ?_; rintro e w5 ⟨rfl, t5, q5⟩; have T5 := hid (T4.out.trans' t5); clear q5 t5))
    obtain ⟨W0, hW0⟩ : ∃ W0, W0 = w5.drew := ⟨_, rfl⟩
    have tc := hid ((HI.out.touch TV.out).clone Q9.out.1 Q9.out.2.1 Q9.out.2.2.1 Q9.out.2.2.2.1 Q9.out.2.2.2.2 T5.out)
    have tb : Hid (Touch [b] V W0) := hid (by rw [hW0]; exact tc.out.2.drew)
    have S0 : W0.heap[w.heap.size]? = some (.cells cs 63 (0, 0)) := tb.out.keep B4.out (by simp; omega)
    have B7' := hid (tb.out.keep B7.out (by simp; omega))
    have FI := hid (And.intro (show Iv B W0 g9 pv9 lv9 cs (.slice ap T.L.length cp) lv2 S T by rw [hW0]; exact tc.out.1.touch ((Touch.refl [] _).drew)) ((TV.out.mono (G := b :: lv.ownBlock.toList) (fun _ e => by cases e)).trans tb.out (fun k hk => Or.inl (by simp at hk; simp [hk]))))
    refine wp_region_H (S := fun (w' : World) => w'.heap[w.heap.size]? = some (.cells cs 63 (0, 0))) (by kernel_rfl) ?_
    rw [← hW0]
    clear hW0 tb tc T3 T4 T5 Q9 HG HU HP
    refine wpH_take (i := 0) (v := (.pointer (some ⟨g9, 0, none⟩))) (some 252) rfl rfl (by kernel_rfl) (by kernel_rfl) (by kernel_rfl) (fun _ _ _ h => h) (Or.inl ⟨by rfl, fun w' hS => (by go_simp)⟩) S0 ?_
    try simp only [Go.Act.put, List.setIfInBounds_toArray, List.set_cons_zero, List.set_cons_succ]
    refine wpH_take (i := 1) (v := (.agg cs)) (some 253) rfl rfl (by kernel_rfl) (by kernel_rfl) (by kernel_rfl) (fun _ _ _ h => h) (Or.inl ⟨by rfl, fun w' hS => exec_loadT bigS _ rfl rfl hS HN1.out⟩) S0 ?_
    try simp only [Go.Act.put, List.setIfInBounds_toArray, List.set_cons_zero, List.set_cons_succ]
    refine wpH_take (i := 2) (v := (.pointer (some ⟨g9, 0, none⟩))) (some 254) rfl rfl (by kernel_rfl) (by kernel_rfl) (by kernel_rfl) (fun _ _ _ h => h) (Or.inl ⟨by rfl, fun w' hS => (by go_simp)⟩) S0 ?_
    try simp only [Go.Act.put, List.setIfInBounds_toArray, List.set_cons_zero, List.set_cons_succ]
    refine wpH_take (i := 3) (v := (.bool true)) (some 255) rfl rfl (by kernel_rfl) (by kernel_rfl) (by kernel_rfl) (fun _ _ _ h => h) (Or.inl ⟨by rfl, fun w' hS => (by go_simp)⟩) S0 ?_
    try simp only [Go.Act.put, List.setIfInBounds_toArray, List.set_cons_zero, List.set_cons_succ]
    refine wpH_take (i := 4) (v := (.pointer (some ⟨g9, 0, none⟩))) (some 6) rfl rfl (by kernel_rfl) (by kernel_rfl) (by kernel_rfl) (fun _ _ _ h => h) (Or.inl ⟨by rfl, fun w' hS => (by go_simp)⟩) S0 ?_
    try simp only [Go.Act.put, List.setIfInBounds_toArray, List.set_cons_zero, List.set_cons_succ]
    refine wpH_call (i := 5) (o := { dst := none, op := Op.store 63 (Operand.tmp 7) (Operand.tmp 253), type := 0, pos := _, after := #[{ on := 1, ground := Ground.data }, { on := 4, ground := Ground.chain }, { on := 0, ground := Ground.phase }, { on := 1, ground := Ground.phase }, { on := 2, ground := Ground.textOnly Departure.lateStores }, { on := 3, ground := Ground.textOnly Departure.lateStores }, { on := 4, ground := Ground.phase }], guard := none }) (by kernel_rfl) rfl (fun K' hK => ?_)
    rw [if_pos (by rfl)]
    refine wp_storeT bigS (Operand.tmp 7) (Operand.tmp 253) rfl (w.heap.size + 2) _ cs 63 rfl rfl B7'.out zs_size HN1.out HO1.out (fun w7 h7 t7 s7 => ?_)
    have S7 := t7.keep S0 (by simp)
    refine hK.out _ _ S7 ?_
    clear hK
    try simp only [Go.Act.put, List.setIfInBounds_toArray, List.set_cons_zero, List.set_cons_succ]
    refine wpH_take (i := 6) (v := (.bool true)) (some 8) rfl rfl (by kernel_rfl) (by kernel_rfl) (by kernel_rfl) (fun _ _ _ h => h) (Or.inl ⟨by rfl, fun w' hS => (by go_simp)⟩) S7 ?_
    try simp only [Go.Act.put, List.setIfInBounds_toArray, List.set_cons_zero, List.set_cons_succ]
    refine wpAnyH_done (by kernel_rfl) ?_ _
    go_wp2_with fail
    refine bodyPost_ret (results_one rfl _ _ rfl h7 HN1.out) rfl ?_
    exact ⟨_, _, _, _, _, lv2, _, _, rfl, FI.out.1.box B7'.out t7, Nat.le_succ _, rfl, FI.out.2.trans t7 (fun k hk => Or.inr (by simp at hk; omega))⟩
  · go_enter Tryd.func18, Tryd.ntmps18
    go_upto_region 1 with fail
    rw [← hV]
    clear hV
    have v0 := cell_at (j := 0) B5.out rfl
    have v1 := cell_at (j := 1) B5.out rfl
    have v2 := cell_at (j := 2) B5.out rfl
    go_upto_region 46 with (first
      | (go_at_call 28; refine (HCl.out _ TV.out).mono ?_; rintro e w2 ⟨g9, pv9, lv9, rfl, q9, t9, z9, zp9, zl9⟩; clear v0 v1 v2; have Q9 := hid (And.intro q9 (And.intro t9 (And.intro z9 (And.intro zp9 zl9)))); have HG := hid (go_ (((HI.out.touch TV.out).touch t9).q)); clear q9 t9 z9 zp9 zl9)
      | (go_at_call 23; refine HG.out.mono ?_; rintro e w3 ⟨rfl, t3, q3⟩; have HU := hid (use_ok q3 (n := 9) (by decide) (by decide)); have T3 := hid t3; clear q3 t3)
      | (go_at_call 24; refine HU.out.mono ?_; rintro e w4 ⟨rfl, t4, q4⟩; have HP := hid (put_ok q4 0 77 (by decide) (by decide)); have T4 := hid (T3.out.trans' t4); clear q4 t4)
      | (go_at_call 26; refine HP.out.mono ?_; rintro e w5 ⟨rfl, t5, q5⟩; have T5 := hid (T4.out.trans' t5); clear q5 t5))
    obtain ⟨W0, hW0⟩ : ∃ W0, W0 = w5.drew := ⟨_, rfl⟩
    have tc := hid ((HI.out.touch TV.out).clone Q9.out.1 Q9.out.2.1 Q9.out.2.2.1 Q9.out.2.2.2.1 Q9.out.2.2.2.2 T5.out)
    have tb : Hid (Touch [b] V W0) := hid (by rw [hW0]; exact tc.out.2.drew)
    have S0 : W0.heap[w.heap.size]? = some (.cells cs 63 (0, 0)) := tb.out.keep B4.out (by simp; omega)
    have B7' := hid (tb.out.keep B7.out (by simp; omega))
    have FI := hid (And.intro (show Iv B W0 g9 pv9 lv9 cs (.slice ap T.L.length cp) lv2 S T by rw [hW0]; exact tc.out.1.touch ((Touch.refl [] _).drew)) ((TV.out.mono (G := b :: lv.ownBlock.toList) (fun _ e => by cases e)).trans tb.out (fun k hk => Or.inl (by simp at hk; simp [hk]))))
    refine wp_region_H (S := fun (w' : World) => w'.heap[w.heap.size]? = some (.cells cs 63 (0, 0))) (by kernel_rfl) ?_
    rw [← hW0]
    clear hW0 tb tc T3 T4 T5 Q9 HG HU HP
    refine wpH_take (i := 0) (v := (.pointer (some ⟨g9, 0, none⟩))) (some 252) rfl rfl (by kernel_rfl) (by kernel_rfl) (by kernel_rfl) (fun _ _ _ h => h) (Or.inl ⟨by rfl, fun w' hS => (by go_simp)⟩) S0 ?_
    try simp only [Go.Act.put, List.setIfInBounds_toArray, List.set_cons_zero, List.set_cons_succ]
    refine wpH_take (i := 1) (v := (.agg cs)) (some 253) rfl rfl (by kernel_rfl) (by kernel_rfl) (by kernel_rfl) (fun _ _ _ h => h) (Or.inl ⟨by rfl, fun w' hS => exec_loadT bigS _ rfl rfl hS HN1.out⟩) S0 ?_
    try simp only [Go.Act.put, List.setIfInBounds_toArray, List.set_cons_zero, List.set_cons_succ]
    refine wpH_take (i := 2) (v := (.pointer (some ⟨g9, 0, none⟩))) (some 254) rfl rfl (by kernel_rfl) (by kernel_rfl) (by kernel_rfl) (fun _ _ _ h => h) (Or.inl ⟨by rfl, fun w' hS => (by go_simp)⟩) S0 ?_
    try simp only [Go.Act.put, List.setIfInBounds_toArray, List.set_cons_zero, List.set_cons_succ]
    refine wpH_take (i := 3) (v := (.bool true)) (some 255) rfl rfl (by kernel_rfl) (by kernel_rfl) (by kernel_rfl) (fun _ _ _ h => h) (Or.inl ⟨by rfl, fun w' hS => (by go_simp)⟩) S0 ?_
    try simp only [Go.Act.put, List.setIfInBounds_toArray, List.set_cons_zero, List.set_cons_succ]
    refine wpH_take (i := 4) (v := (.pointer (some ⟨g9, 0, none⟩))) (some 6) rfl rfl (by kernel_rfl) (by kernel_rfl) (by kernel_rfl) (fun _ _ _ h => h) (Or.inl ⟨by rfl, fun w' hS => (by go_simp)⟩) S0 ?_
    try simp only [Go.Act.put, List.setIfInBounds_toArray, List.set_cons_zero, List.set_cons_succ]
    refine wpH_call (i := 5) (o := { dst := none, op := Op.store 63 (Operand.tmp 7) (Operand.tmp 253), type := 0, pos := _, after := #[{ on := 1, ground := Ground.data }, { on := 4, ground := Ground.chain }, { on := 0, ground := Ground.phase }, { on := 1, ground := Ground.phase }, { on := 2, ground := Ground.textOnly Departure.lateStores }, { on := 3, ground := Ground.textOnly Departure.lateStores }, { on := 4, ground := Ground.phase }], guard := none }) (by kernel_rfl) rfl (fun K' hK => ?_)
    rw [if_pos (by rfl)]
    refine wp_storeT bigS (Operand.tmp 7) (Operand.tmp 253) rfl (w.heap.size + 2) _ cs 63 rfl rfl B7'.out zs_size HN1.out HO1.out (fun w7 h7 t7 s7 => ?_)
    have S7 := t7.keep S0 (by simp)
    refine hK.out _ _ S7 ?_
    clear hK
    try simp only [Go.Act.put, List.setIfInBounds_toArray, List.set_cons_zero, List.set_cons_succ]
    refine wpH_take (i := 6) (v := (.bool true)) (some 8) rfl rfl (by kernel_rfl) (by kernel_rfl) (by kernel_rfl) (fun _ _ _ h => h) (Or.inl ⟨by rfl, fun w' hS => (by go_simp)⟩) S7 ?_
    try simp only [Go.Act.put, List.setIfInBounds_toArray, List.set_cons_zero, List.set_cons_succ]
    refine wpAnyH_done (by kernel_rfl) ?_ _
    go_wp2_with fail
    refine bodyPost_ret (results_one rfl _ _ rfl h7 HN1.out) rfl ?_
    exact ⟨_, _, _, _, _, lv2, _, _, rfl, FI.out.1.box B7'.out t7, Nat.le_succ _, rfl, FI.out.2.trans t7 (fun k hk => Or.inr (by simp at hk; omega))⟩
  · go_enter Tryd.func18, Tryd.ntmps18
    go_upto_region 1 with fail
    rw [← hV]
    clear hV
    have v0 := cell_at (j := 0) B5.out rfl
    have v1 := cell_at (j := 1) B5.out rfl
    have v2 := cell_at (j := 2) B5.out rfl
    go_upto_region 46 with (first
      | (go_at_call 28; refine (HCl.out _ TV.out).mono ?_; rintro e w2 ⟨g9, pv9, lv9, rfl, q9, t9, z9, zp9, zl9⟩; clear v0 v1 v2; have Q9 := hid (And.intro q9 (And.intro t9 (And.intro z9 (And.intro zp9 zl9)))); have HG := hid (go_ (((HI.out.touch TV.out).touch t9).q)); clear q9 t9 z9 zp9 zl9)
      | (go_at_call 23; refine HG.out.mono ?_; rintro e w3 ⟨rfl, t3, q3⟩; have HU := hid (use_ok q3 (n := 9) (by decide) (by decide)); have T3 := hid t3; clear q3 t3)
      | (go_at_call 24; refine HU.out.mono ?_; rintro e w4 ⟨rfl, t4, q4⟩; have HP := hid (put_ok q4 0 77 (by decide) (by decide)); have T4 := hid (T3.out.trans' t4); clear q4 t4)
      | (go_at_call 26; refine HP.out.mono ?_; rintro e w5 ⟨rfl, t5, q5⟩; have T5 := hid (T4.out.trans' t5); clear q5 t5))
    obtain ⟨W0, hW0⟩ : ∃ W0, W0 = w5.drew := ⟨_, rfl⟩
    have tc := hid ((HI.out.touch TV.out).clone Q9.out.1 Q9.out.2.1 Q9.out.2.2.1 Q9.out.2.2.2.1 Q9.out.2.2.2.2 T5.out)
    have tb : Hid (Touch [b] V W0) := hid (by rw [hW0]; exact tc.out.2.drew)
    have S0 : W0.heap[w.heap.size]? = some (.cells cs 63 (0, 0)) := tb.out.keep B4.out (by simp; omega)
    have B7' := hid (tb.out.keep B7.out (by simp; omega))
    have FI := hid (And.intro (show Iv B W0 g9 pv9 lv9 cs (.slice ap T.L.length cp) lv2 S T by rw [hW0]; exact tc.out.1.touch ((Touch.refl [] _).drew)) ((TV.out.mono (G := b :: lv.ownBlock.toList) (fun _ e => by cases e)).trans tb.out (fun k hk => Or.inl (by simp at hk; simp [hk]))))
    refine wp_region_H (S := fun (w' : World) => w'.heap[w.heap.size]? = some (.cells cs 63 (0, 0))) (by kernel_rfl) ?_
    rw [← hW0]
    clear hW0 tb tc T3 T4 T5 Q9 HG HU HP
    refine wpH_take (i := 0) (v := (.pointer (some ⟨g9, 0, none⟩))) (some 252) rfl rfl (by kernel_rfl) (by kernel_rfl) (by kernel_rfl) (fun _ _ _ h => h) (Or.inl ⟨by rfl, fun w' hS => (by go_simp)⟩) S0 ?_
    try simp only [Go.Act.put, List.setIfInBounds_toArray, List.set_cons_zero, List.set_cons_succ]
    refine wpH_take (i := 1) (v := (.agg cs)) (some 253) rfl rfl (by kernel_rfl) (by kernel_rfl) (by kernel_rfl) (fun _ _ _ h => h) (Or.inl ⟨by rfl, fun w' hS => exec_loadT bigS _ rfl rfl hS HN1.out⟩) S0 ?_
    try simp only [Go.Act.put, List.setIfInBounds_toArray, List.set_cons_zero, List.set_cons_succ]
    refine wpH_take (i := 2) (v := (.pointer (some ⟨g9, 0, none⟩))) (some 254) rfl rfl (by kernel_rfl) (by kernel_rfl) (by kernel_rfl) (fun _ _ _ h => h) (Or.inl ⟨by rfl, fun w' hS => (by go_simp)⟩) S0 ?_
    try simp only [Go.Act.put, List.setIfInBounds_toArray, List.set_cons_zero, List.set_cons_succ]
    refine wpH_take (i := 3) (v := (.bool true)) (some 255) rfl rfl (by kernel_rfl) (by kernel_rfl) (by kernel_rfl) (fun _ _ _ h => h) (Or.inl ⟨by rfl, fun w' hS => (by go_simp)⟩) S0 ?_
    try simp only [Go.Act.put, List.setIfInBounds_toArray, List.set_cons_zero, List.set_cons_succ]
    refine wpH_take (i := 4) (v := (.pointer (some ⟨g9, 0, none⟩))) (some 6) rfl rfl (by kernel_rfl) (by kernel_rfl) (by kernel_rfl) (fun _ _ _ h => h) (Or.inl ⟨by rfl, fun w' hS => (by go_simp)⟩) S0 ?_
    try simp only [Go.Act.put, List.setIfInBounds_toArray, List.set_cons_zero, List.set_cons_succ]
    refine wpH_call (i := 5) (o := { dst := none, op := Op.store 63 (Operand.tmp 7) (Operand.tmp 253), type := 0, pos := _, after := #[{ on := 1, ground := Ground.data }, { on := 4, ground := Ground.chain }, { on := 0, ground := Ground.phase }, { on := 1, ground := Ground.phase }, { on := 2, ground := Ground.textOnly Departure.lateStores }, { on := 3, ground := Ground.textOnly Departure.lateStores }, { on := 4, ground := Ground.phase }], guard := none }) (by kernel_rfl) rfl (fun K' hK => ?_)
    rw [if_pos (by rfl)]
    refine wp_storeT bigS (Operand.tmp 7) (Operand.tmp 253) rfl (w.heap.size + 2) _ cs 63 rfl rfl B7'.out zs_size HN1.out HO1.out (fun w7 h7 t7 s7 => ?_)
    have S7 := t7.keep S0 (by simp)
    refine hK.out _ _ S7 ?_
    clear hK
    try simp only [Go.Act.put, List.setIfInBounds_toArray, List.set_cons_zero, List.set_cons_succ]
    refine wpH_take (i := 6) (v := (.bool true)) (some 8) rfl rfl (by kernel_rfl) (by kernel_rfl) (by kernel_rfl) (fun _ _ _ h => h) (Or.inl ⟨by rfl, fun w' hS => (by go_simp)⟩) S7 ?_
    try simp only [Go.Act.put, List.setIfInBounds_toArray, List.set_cons_zero, List.set_cons_succ]
    refine wpAnyH_done (by kernel_rfl) ?_ _
    go_wp2_with fail
    refine bodyPost_ret (results_one rfl _ _ rfl h7 HN1.out) rfl ?_
    exact ⟨_, _, _, _, _, lv2, _, _, rfl, FI.out.1.box B7'.out t7, Nat.le_succ _, rfl, FI.out.2.trans t7 (fun k hk => Or.inr (by simp at hk; omega))⟩
end
end Go.Proofs.YthakboiecdjgnaaDoor.Ci
