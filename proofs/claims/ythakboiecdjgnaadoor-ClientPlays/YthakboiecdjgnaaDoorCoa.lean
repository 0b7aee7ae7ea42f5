/- The law's one: Go; no conditions but those that it states. -/
import Derived.Test.YthakboiecdjgnaaDoorCon
namespace Go.Proofs.YthakboiecdjgnaaDoor.Ci
open Go.RowKit Go.Maps Go.ChangeMaps
set_option linter.unusedVariables false
set_option linter.unusedSimpArgs false
section
variable {B b : Nat} {w w' : World} {pv lv pv2 lv2 : Value} {cs : Array Value} {S : Cs} {T : Ls}
theorem Iv.goT (h : Iv B w b pv lv cs pv2 lv2 S T) {w1 : World} (hq : Cq w1 b pv lv (goS S)) (t : Touch [b] w w1) (hlt : S.at_ < S.L.length) : Iv B w1 b pv lv (cs.setIfInBounds 1 (.int .i64 ((S.at_ + 1 : Nat) : Nat))) pv2 lv2 (goS S) { T with at_ := S.at_ + 1 } := by
  obtain ⟨c, hc, _⟩ := h.q.blk
  refine ⟨hq, h.s.setAt _, ?_, own_touch h.p2 t (kind_ne h.p2 hc (by decide)), own_touch h.g2 t (kind_ne h.g2 hc (by decide)), h.sep, h.bb, h.lb⟩
  unfold goS
  rw [if_pos hlt]
  exact ⟨h.r.L, rfl, h.r.tok, h.r.log, h.r.sl⟩
theorem Iv.goN (h : Iv B w b pv lv cs pv2 lv2 S T) {w1 : World} (hq : Cq w1 b pv lv (goS S)) (t : Touch [b] w w1) (hlt : ¬ S.at_ < S.L.length) : Iv B w1 b pv lv cs pv2 lv2 S T := by
  obtain ⟨c, hc, _⟩ := h.q.blk
  unfold goS at hq
  rw [if_neg hlt] at hq
  exact ⟨hq, h.s, h.r, own_touch h.p2 t (kind_ne h.p2 hc (by decide)), own_touch h.g2 t (kind_ne h.g2 hc (by decide)), h.sep, h.bb, h.lb⟩
set_option maxHeartbeats 4000000 in
set_option maxRecDepth 20000 in
theorem one_go (h : Iv B w b pv lv cs pv2 lv2 S T) (a1 a2 : Int) (g : Gz) : Calls Tryd.prog 18 #[.pointer (some ⟨b, 0, none⟩), .agg cs, actv 0 a1 a2 g] w fun e w' => OnE e w w' B b lv S := by
  have HI := hid h
  have hb := h.q.lt
  have HG : Hid (∀ V, Touch [] w V → Calls Tryd.prog 23 #[.pointer (some ⟨b, 0, none⟩)] V fun e w' => e = .returned (.bool (decide (S.at_ < S.L.length))) ∧ Touch [b] V w' ∧ Cq w' b pv lv (goS S)) := hid (fun V t => go_ (h.q.touch t))
  obtain ⟨ap, cp, e2⟩ := own_form h.p2
  subst e2
  have HC : Hid (cs[0]? = some (.slice ap S.L.length cp) ∧ cs[1]? = some (.int .i64 (S.at_ : Nat))) := hid ⟨by rw [← h.r.L]; exact h.s.c0, by rw [← h.r.at_]; exact h.s.c1⟩
  have hle : S.at_ ≤ S.L.length := h.q.le
  have hlen : S.L.length ≤ 256 := h.q.len
  have hone : Hid (lv2.oneCell' = true) := hid (by obtain ⟨a, c, e⟩ := own_form h.g2; rw [e]; rfl)
  clear h
  obtain ⟨g0', g1, g2, g3, g4, g5, g6⟩ := g
  unfold actv
  dsimp only
  obtain ⟨V, hV⟩ : ∃ V, V = ((w.alloc (.cells cs 63)).alloc (.cells #[.int .i64 0, .int .i64 a1, .int .i64 a2, .int .i64 g0', .int .i64 g1, .int .i64 g2, .int .i64 g3, .int .i64 g4, .int .i64 g5, .int .i64 g6] 67)).alloc (.cells Tryd.zeroCells63 63) := ⟨_, rfl⟩
  have TV : Hid (Touch [] w V) := hid (by rw [hV]; exact (((Touch.refl _ _).alloc _).alloc _).alloc _)
  have B4 : Hid (V.heap[w.heap.size]? = some (.cells cs 63 (0, 0))) := hid (by rw [hV]; exact (((Touch.refl [] _).alloc _).alloc _).keep (heap_alloc_new w _) (by simp))
  have B5 : Hid (V.heap[w.heap.size + 1]? = some (.cells #[.int .i64 0, .int .i64 a1, .int .i64 a2, .int .i64 g0', .int .i64 g1, .int .i64 g2, .int .i64 g3, .int .i64 g4, .int .i64 g5, .int .i64 g6] 67 (0, 0))) := hid (by
    rw [hV]
    have := heap_alloc_new (w.alloc (.cells cs 63)) (.cells #[.int .i64 0, .int .i64 a1, .int .i64 a2, .int .i64 g0', .int .i64 g1, .int .i64 g2, .int .i64 g3, .int .i64 g4, .int .i64 g5, .int .i64 g6] 67)
    rw [World.size_alloc] at this
    exact ((Touch.refl [] _).alloc _).keep this (by simp))
  have B7 : Hid (V.heap[w.heap.size + 2]? = some (.cells Tryd.zeroCells63 63 (0, 0))) := hid (by
    rw [hV]
    have := heap_alloc_new ((w.alloc (.cells cs 63)).alloc (.cells #[.int .i64 0, .int .i64 a1, .int .i64 a2, .int .i64 g0', .int .i64 g1, .int .i64 g2, .int .i64 g3, .int .i64 g4, .int .i64 g5, .int .i64 g6] 67)) (.cells Tryd.zeroCells63 63)
    rwa [World.size_alloc, World.size_alloc] at this)
  have key : (0 ≤ a1 ∧ a1 < 16) ∨ (decide (0 ≤ a1) = false) ∨ (0 ≤ a1 ∧ decide (a1 < 16) = false) := by simp only [decide_eq_false_iff_not]; omega
  rcases key with ⟨k0, k1⟩ | k9 | ⟨k0, k9⟩
  · go_enter Tryd.func18, Tryd.ntmps18
    go_upto_region 1 with fail
    rw [← hV]
    clear hV
    have v0 := cell_at (j := 0) B5.out rfl
    have v1 := cell_at (j := 1) B5.out rfl
    by_cases hlt : S.at_ < S.L.length
    · have hlt' : (S.at_ : Int) < (S.L.length : Int) := by omega
      rw [decide_eq_true hlt] at HG
      have HLT := hid hlt
      have HN1 : Hid ((cs.setIfInBounds 1 (.int .i64 ((S.at_ : Int) + 1))).size = 148) := hid (by simpa using HI.out.s.n)
      have HO1 : Hid ((cs.setIfInBounds 1 (.int .i64 ((S.at_ : Int) + 1))).all (·.oneCell') = true) := hid ((HI.out.s.setAt (S.at_ + 1)).one rfl hone.out)
      have GS : Hid ((goS S).log.length ≤ S.log.length + 1 ∧ (goS S).L = S.L) := hid (by unfold goS; rw [if_pos hlt]; exact ⟨Nat.le_succ _, rfl⟩)
      go_upto_region 8 with (go_at_call 23; refine (HG.out _ TV.out).mono ?_; rintro e w1 ⟨rfl, t1, q1⟩; clear v0 v1; have b4 := t1.keep B4.out (by simp; omega); have B7' := hid (t1.keep B7.out (by simp; omega)); have T1 := hid t1; have Q1 := hid q1; have c0 := cell_at b4 HC.out.1; have c1 := cell_at b4 HC.out.2; have cf := froz_at b4; have B4' := hid b4; clear t1 q1 b4)
      clear c0 c1 cf
      obtain ⟨W0, hW0⟩ : ∃ W0, W0 = (w1.setCell ⟨w.heap.size, 1, none⟩ (.int .i64 ((S.at_ : Int) + 1))).drew := ⟨_, rfl⟩
      have tb : Touch [w.heap.size] w1 W0 := by rw [hW0]; exact ((Touch.refl _ w1).setCell (Or.inl (by simp)) _).drew
      have S0 : W0.heap[w.heap.size]? = some (.cells (cs.setIfInBounds 1 (.int .i64 ((S.at_ : Int) + 1))) 63 (0, 0)) := by rw [hW0]; exact bset B4'.out _
      have FI : Hid (Iv B W0 b pv lv (cs.setIfInBounds 1 (.int .i64 ((S.at_ : Int) + 1))) (.slice ap T.L.length cp) lv2 (goS S) { T with at_ := S.at_ + 1 }) := hid (((HI.out.touch TV.out).goT Q1.out T1.out HLT.out).box B4'.out tb)
      have TW : Hid (Touch (b :: lv.ownBlock.toList) w W0) := hid (((TV.out.mono (fun _ e => by cases e)).trans T1.out (fun k hk => Or.inl (by simp at hk; simp [hk]))).trans tb (fun k hk => Or.inr (by simp at hk; omega)))
      replace B7' := hid (tb.keep B7'.out (by simp))
      refine wp_region_H (S := fun w' => w'.heap[w.heap.size]? = some (.cells (cs.setIfInBounds 1 (.int .i64 ((S.at_ : Int) + 1))) 63 (0, 0))) (by kernel_rfl) ?_
      rw [← hW0]
      clear hW0 tb B4' T1 Q1
      refine wpH_take (i := 0) (v := (.pointer (some ⟨b, 0, none⟩))) (some 46) rfl rfl (by kernel_rfl) (by kernel_rfl) (by kernel_rfl) (fun _ _ _ h => h) (Or.inl ⟨by rfl, fun w' hS => (by go_simp)⟩) S0 ?_
      try simp only [Go.Act.put, List.setIfInBounds_toArray, List.set_cons_zero, List.set_cons_succ]
      refine wpH_take (i := 1) (v := (.agg (cs.setIfInBounds 1 (.int .i64 ((S.at_ : Int) + 1))))) (some 47) rfl rfl (by kernel_rfl) (by kernel_rfl) (by kernel_rfl) (fun _ _ _ h => h) (Or.inl ⟨by rfl, fun w' hS => exec_loadT bigS _ rfl rfl hS HN1.out⟩) S0 ?_
      try simp only [Go.Act.put, List.setIfInBounds_toArray, List.set_cons_zero, List.set_cons_succ]
      refine wpH_take (i := 2) (v := (.bool true)) (some 48) rfl rfl (by kernel_rfl) (by kernel_rfl) (by kernel_rfl) (fun _ _ _ h => h) (Or.inl ⟨by rfl, fun w' hS => (by go_simp)⟩) S0 ?_
      try simp only [Go.Act.put, List.setIfInBounds_toArray, List.set_cons_zero, List.set_cons_succ]
      refine wpH_take (i := 3) (v := (.bool true)) (some 49) rfl rfl (by kernel_rfl) (by kernel_rfl) (by kernel_rfl) (fun _ _ _ h => h) (Or.inl ⟨by rfl, fun w' hS => (by go_simp)⟩) S0 ?_
      try simp only [Go.Act.put, List.setIfInBounds_toArray, List.set_cons_zero, List.set_cons_succ]
      refine wpH_take (i := 4) (v := (.bool true)) (some 50) rfl rfl (by kernel_rfl) (by kernel_rfl) (by kernel_rfl) (fun _ _ _ h => h) (Or.inl ⟨by rfl, fun w' hS => (by go_simp)⟩) S0 ?_
      try simp only [Go.Act.put, List.setIfInBounds_toArray, List.set_cons_zero, List.set_cons_succ]
      refine wpH_take (i := 5) (v := (.pointer (some ⟨b, 0, none⟩))) (some 6) rfl rfl (by kernel_rfl) (by kernel_rfl) (by kernel_rfl) (fun _ _ _ h => h) (Or.inl ⟨by rfl, fun w' hS => (by go_simp)⟩) S0 ?_
      try simp only [Go.Act.put, List.setIfInBounds_toArray, List.set_cons_zero, List.set_cons_succ]
      refine wpH_call (i := 6) (o := { dst := none, op := Op.store 63 (Operand.tmp 7) (Operand.tmp 47), type := 0, pos := _, after := #[{ on := 1, ground := Ground.data }, { on := 5, ground := Ground.chain }, { on := 0, ground := Ground.phase }, { on := 1, ground := Ground.phase }, { on := 2, ground := Ground.textOnly Departure.lateStores }, { on := 3, ground := Ground.textOnly Departure.lateStores }, { on := 4, ground := Ground.textOnly Departure.lateStores }, { on := 5, ground := Ground.phase }], guard := none }) (by kernel_rfl) rfl (fun K' hK => ?_)
      rw [if_pos (by rfl)]
      refine wp_storeT bigS (Operand.tmp 7) (Operand.tmp 47) rfl (w.heap.size + 2) _ (cs.setIfInBounds 1 (.int .i64 ((S.at_ : Int) + 1))) 63 rfl rfl B7'.out zs_size HN1.out HO1.out (fun w5 h5 t5 s5 => ?_)
      have S5 := t5.keep S0 (by simp)
      refine hK.out _ _ S5 ?_
      clear hK
      try simp only [Go.Act.put, List.setIfInBounds_toArray, List.set_cons_zero, List.set_cons_succ]
      refine wpH_take (i := 7) (v := (.bool true)) (some 8) rfl rfl (by kernel_rfl) (by kernel_rfl) (by kernel_rfl) (fun _ _ _ h => h) (Or.inl ⟨by rfl, fun w' hS => (by go_simp)⟩) S5 ?_
      try simp only [Go.Act.put, List.setIfInBounds_toArray, List.set_cons_zero, List.set_cons_succ]
      refine wpAnyH_done (by kernel_rfl) ?_ _
      go_wp2_with fail
      refine bodyPost_ret (results_one rfl _ _ rfl h5 HN1.out) rfl ?_
      exact ⟨b, pv, lv, _, _, lv2, goS S, _, rfl, FI.out.box B7'.out t5, GS.out.1, GS.out.2, TW.out.trans t5 (fun k hk => Or.inr (by simp at hk; omega))⟩
    · have hlt' : ¬ (S.at_ : Int) < (S.L.length : Int) := by omega
      rw [decide_eq_false hlt] at HG
      have HLT := hid hlt
      have HN1 : Hid (cs.size = 148) := hid HI.out.s.n
      have HO1 : Hid (cs.all (·.oneCell') = true) := hid (HI.out.s.one rfl hone.out)
      go_upto_region 8 with (go_at_call 23; refine (HG.out _ TV.out).mono ?_; rintro e w1 ⟨rfl, t1, q1⟩; clear v0 v1; have b4 := t1.keep B4.out (by simp; omega); have B7' := hid (t1.keep B7.out (by simp; omega)); have T1 := hid t1; have Q1 := hid q1; have c0 := cell_at b4 HC.out.1; have c1 := cell_at b4 HC.out.2; have cf := froz_at b4; have B4' := hid b4; clear t1 q1 b4)
      clear c0 c1 cf
      have tb : Touch [] w1 w1.drew := (Touch.refl _ w1).drew
      have S0 : w1.drew.heap[w.heap.size]? = some (.cells cs 63 (0, 0)) := B4'.out
      have FI : Hid (Iv B w1.drew b pv lv cs (.slice ap T.L.length cp) lv2 S T) := hid (((HI.out.touch TV.out).goN Q1.out T1.out HLT.out).touch tb)
      have TW : Hid (Touch (b :: lv.ownBlock.toList) w w1.drew) := hid (((TV.out.mono (fun _ e => by cases e)).trans T1.out (fun k hk => Or.inl (by simp at hk; simp [hk]))).drew)
      replace B7' : Hid (w1.drew.heap[w.heap.size + 2]? = _) := B7'
      refine wp_region_H (S := fun w' => w'.heap[w.heap.size]? = some (.cells cs 63 (0, 0))) (by kernel_rfl) ?_
      generalize w1.drew = W0 at *
      clear tb B4' T1 Q1
      refine wpH_take (i := 0) (v := (.pointer (some ⟨b, 0, none⟩))) (some 46) rfl rfl (by kernel_rfl) (by kernel_rfl) (by kernel_rfl) (fun _ _ _ h => h) (Or.inl ⟨by rfl, fun w' hS => (by go_simp)⟩) S0 ?_
      try simp only [Go.Act.put, List.setIfInBounds_toArray, List.set_cons_zero, List.set_cons_succ]
      refine wpH_take (i := 1) (v := (.agg cs)) (some 47) rfl rfl (by kernel_rfl) (by kernel_rfl) (by kernel_rfl) (fun _ _ _ h => h) (Or.inl ⟨by rfl, fun w' hS => exec_loadT bigS _ rfl rfl hS HN1.out⟩) S0 ?_
      try simp only [Go.Act.put, List.setIfInBounds_toArray, List.set_cons_zero, List.set_cons_succ]
      refine wpH_take (i := 2) (v := (.bool false)) (some 48) rfl rfl (by kernel_rfl) (by kernel_rfl) (by kernel_rfl) (fun _ _ _ h => h) (Or.inl ⟨by rfl, fun w' hS => (by go_simp)⟩) S0 ?_
      try simp only [Go.Act.put, List.setIfInBounds_toArray, List.set_cons_zero, List.set_cons_succ]
      refine wpH_take (i := 3) (v := (.bool false)) (some 49) rfl rfl (by kernel_rfl) (by kernel_rfl) (by kernel_rfl) (fun _ _ _ h => h) (Or.inl ⟨by rfl, fun w' hS => (by go_simp)⟩) S0 ?_
      try simp only [Go.Act.put, List.setIfInBounds_toArray, List.set_cons_zero, List.set_cons_succ]
      refine wpH_take (i := 4) (v := (.bool true)) (some 50) rfl rfl (by kernel_rfl) (by kernel_rfl) (by kernel_rfl) (fun _ _ _ h => h) (Or.inl ⟨by rfl, fun w' hS => (by go_simp)⟩) S0 ?_
      try simp only [Go.Act.put, List.setIfInBounds_toArray, List.set_cons_zero, List.set_cons_succ]
      refine wpH_take (i := 5) (v := (.pointer (some ⟨b, 0, none⟩))) (some 6) rfl rfl (by kernel_rfl) (by kernel_rfl) (by kernel_rfl) (fun _ _ _ h => h) (Or.inl ⟨by rfl, fun w' hS => (by go_simp)⟩) S0 ?_
      try simp only [Go.Act.put, List.setIfInBounds_toArray, List.set_cons_zero, List.set_cons_succ]
      refine wpH_call (i := 6) (o := { dst := none, op := Op.store 63 (Operand.tmp 7) (Operand.tmp 47), type := 0, pos := _, after := #[{ on := 1, ground := Ground.data }, { on := 5, ground := Ground.chain }, { on := 0, ground := Ground.phase }, { on := 1, ground := Ground.phase }, { on := 2, ground := Ground.textOnly Departure.lateStores }, { on := 3, ground := Ground.textOnly Departure.lateStores }, { on := 4, ground := Ground.textOnly Departure.lateStores }, { on := 5, ground := Ground.phase }], guard := none }) (by kernel_rfl) rfl (fun K' hK => ?_)
      rw [if_pos (by rfl)]
      refine wp_storeT bigS (Operand.tmp 7) (Operand.tmp 47) rfl (w.heap.size + 2) _ cs 63 rfl rfl B7'.out zs_size HN1.out HO1.out (fun w5 h5 t5 s5 => ?_)
      have S5 := t5.keep S0 (by simp)
      refine hK.out _ _ S5 ?_
      clear hK
      try simp only [Go.Act.put, List.setIfInBounds_toArray, List.set_cons_zero, List.set_cons_succ]
      refine wpH_take (i := 7) (v := (.bool true)) (some 8) rfl rfl (by kernel_rfl) (by kernel_rfl) (by kernel_rfl) (fun _ _ _ h => h) (Or.inl ⟨by rfl, fun w' hS => (by go_simp)⟩) S5 ?_
      try simp only [Go.Act.put, List.setIfInBounds_toArray, List.set_cons_zero, List.set_cons_succ]
      refine wpAnyH_done (by kernel_rfl) ?_ _
      go_wp2_with fail
      refine bodyPost_ret (results_one rfl _ _ rfl h5 HN1.out) rfl ?_
      exact ⟨b, pv, lv, _, _, lv2, S, _, rfl, FI.out.box B7'.out t5, by omega, rfl, TW.out.trans t5 (fun k hk => Or.inr (by simp at hk; omega))⟩
  · go_enter Tryd.func18, Tryd.ntmps18
    go_upto_region 1 with fail
    rw [← hV]
    clear hV
    have v0 := cell_at (j := 0) B5.out rfl
    have v1 := cell_at (j := 1) B5.out rfl
    by_cases hlt : S.at_ < S.L.length
    · have hlt' : (S.at_ : Int) < (S.L.length : Int) := by omega
      rw [decide_eq_true hlt] at HG
      have HLT := hid hlt
      have HN1 : Hid ((cs.setIfInBounds 1 (.int .i64 ((S.at_ : Int) + 1))).size = 148) := hid (by simpa using HI.out.s.n)
      have HO1 : Hid ((cs.setIfInBounds 1 (.int .i64 ((S.at_ : Int) + 1))).all (·.oneCell') = true) := hid ((HI.out.s.setAt (S.at_ + 1)).one rfl hone.out)
      have GS : Hid ((goS S).log.length ≤ S.log.length + 1 ∧ (goS S).L = S.L) := hid (by unfold goS; rw [if_pos hlt]; exact ⟨Nat.le_succ _, rfl⟩)
      go_upto_region 8 with (go_at_call 23; refine (HG.out _ TV.out).mono ?_; rintro e w1 ⟨rfl, t1, q1⟩; clear v0 v1; have b4 := t1.keep B4.out (by simp; omega); have B7' := hid (t1.keep B7.out (by simp; omega)); have T1 := hid t1; have Q1 := hid q1; have c0 := cell_at b4 HC.out.1; have c1 := cell_at b4 HC.out.2; have cf := froz_at b4; have B4' := hid b4; clear t1 q1 b4)
      clear c0 c1 cf
      obtain ⟨W0, hW0⟩ : ∃ W0, W0 = (w1.setCell ⟨w.heap.size, 1, none⟩ (.int .i64 ((S.at_ : Int) + 1))).drew := ⟨_, rfl⟩
      have tb : Touch [w.heap.size] w1 W0 := by rw [hW0]; exact ((Touch.refl _ w1).setCell (Or.inl (by simp)) _).drew
      have S0 : W0.heap[w.heap.size]? = some (.cells (cs.setIfInBounds 1 (.int .i64 ((S.at_ : Int) + 1))) 63 (0, 0)) := by rw [hW0]; exact bset B4'.out _
      have FI : Hid (Iv B W0 b pv lv (cs.setIfInBounds 1 (.int .i64 ((S.at_ : Int) + 1))) (.slice ap T.L.length cp) lv2 (goS S) { T with at_ := S.at_ + 1 }) := hid (((HI.out.touch TV.out).goT Q1.out T1.out HLT.out).box B4'.out tb)
      have TW : Hid (Touch (b :: lv.ownBlock.toList) w W0) := hid (((TV.out.mono (fun _ e => by cases e)).trans T1.out (fun k hk => Or.inl (by simp at hk; simp [hk]))).trans tb (fun k hk => Or.inr (by simp at hk; omega)))
      replace B7' := hid (tb.keep B7'.out (by simp))
      refine wp_region_H (S := fun w' => w'.heap[w.heap.size]? = some (.cells (cs.setIfInBounds 1 (.int .i64 ((S.at_ : Int) + 1))) 63 (0, 0))) (by kernel_rfl) ?_
      rw [← hW0]
      clear hW0 tb B4' T1 Q1
      refine wpH_take (i := 0) (v := (.pointer (some ⟨b, 0, none⟩))) (some 46) rfl rfl (by kernel_rfl) (by kernel_rfl) (by kernel_rfl) (fun _ _ _ h => h) (Or.inl ⟨by rfl, fun w' hS => (by go_simp)⟩) S0 ?_
      try simp only [Go.Act.put, List.setIfInBounds_toArray, List.set_cons_zero, List.set_cons_succ]
      refine wpH_take (i := 1) (v := (.agg (cs.setIfInBounds 1 (.int .i64 ((S.at_ : Int) + 1))))) (some 47) rfl rfl (by kernel_rfl) (by kernel_rfl) (by kernel_rfl) (fun _ _ _ h => h) (Or.inl ⟨by rfl, fun w' hS => exec_loadT bigS _ rfl rfl hS HN1.out⟩) S0 ?_
      try simp only [Go.Act.put, List.setIfInBounds_toArray, List.set_cons_zero, List.set_cons_succ]
      refine wpH_take (i := 2) (v := (.bool true)) (some 48) rfl rfl (by kernel_rfl) (by kernel_rfl) (by kernel_rfl) (fun _ _ _ h => h) (Or.inl ⟨by rfl, fun w' hS => (by go_simp)⟩) S0 ?_
      try simp only [Go.Act.put, List.setIfInBounds_toArray, List.set_cons_zero, List.set_cons_succ]
      refine wpH_take (i := 3) (v := (.bool true)) (some 49) rfl rfl (by kernel_rfl) (by kernel_rfl) (by kernel_rfl) (fun _ _ _ h => h) (Or.inl ⟨by rfl, fun w' hS => (by go_simp)⟩) S0 ?_
      try simp only [Go.Act.put, List.setIfInBounds_toArray, List.set_cons_zero, List.set_cons_succ]
      refine wpH_take (i := 4) (v := (.bool true)) (some 50) rfl rfl (by kernel_rfl) (by kernel_rfl) (by kernel_rfl) (fun _ _ _ h => h) (Or.inl ⟨by rfl, fun w' hS => (by go_simp)⟩) S0 ?_
      try simp only [Go.Act.put, List.setIfInBounds_toArray, List.set_cons_zero, List.set_cons_succ]
      refine wpH_take (i := 5) (v := (.pointer (some ⟨b, 0, none⟩))) (some 6) rfl rfl (by kernel_rfl) (by kernel_rfl) (by kernel_rfl) (fun _ _ _ h => h) (Or.inl ⟨by rfl, fun w' hS => (by go_simp)⟩) S0 ?_
      try simp only [Go.Act.put, List.setIfInBounds_toArray, List.set_cons_zero, List.set_cons_succ]
      refine wpH_call (i := 6) (o := { dst := none, op := Op.store 63 (Operand.tmp 7) (Operand.tmp 47), type := 0, pos := _, after := #[{ on := 1, ground := Ground.data }, { on := 5, ground := Ground.chain }, { on := 0, ground := Ground.phase }, { on := 1, ground := Ground.phase }, { on := 2, ground := Ground.textOnly Departure.lateStores }, { on := 3, ground := Ground.textOnly Departure.lateStores }, { on := 4, ground := Ground.textOnly Departure.lateStores }, { on := 5, ground := Ground.phase }], guard := none }) (by kernel_rfl) rfl (fun K' hK => ?_)
      rw [if_pos (by rfl)]
      refine wp_storeT bigS (Operand.tmp 7) (Operand.tmp 47) rfl (w.heap.size + 2) _ (cs.setIfInBounds 1 (.int .i64 ((S.at_ : Int) + 1))) 63 rfl rfl B7'.out zs_size HN1.out HO1.out (fun w5 h5 t5 s5 => ?_)
      have S5 := t5.keep S0 (by simp)
      refine hK.out _ _ S5 ?_
      clear hK
      try simp only [Go.Act.put, List.setIfInBounds_toArray, List.set_cons_zero, List.set_cons_succ]
      refine wpH_take (i := 7) (v := (.bool true)) (some 8) rfl rfl (by kernel_rfl) (by kernel_rfl) (by kernel_rfl) (fun _ _ _ h => h) (Or.inl ⟨by rfl, fun w' hS => (by go_simp)⟩) S5 ?_
      try simp only [Go.Act.put, List.setIfInBounds_toArray, List.set_cons_zero, List.set_cons_succ]
      refine wpAnyH_done (by kernel_rfl) ?_ _
      go_wp2_with fail
      refine bodyPost_ret (results_one rfl _ _ rfl h5 HN1.out) rfl ?_
      exact ⟨b, pv, lv, _, _, lv2, goS S, _, rfl, FI.out.box B7'.out t5, GS.out.1, GS.out.2, TW.out.trans t5 (fun k hk => Or.inr (by simp at hk; omega))⟩
    · have hlt' : ¬ (S.at_ : Int) < (S.L.length : Int) := by omega
      rw [decide_eq_false hlt] at HG
      have HLT := hid hlt
      have HN1 : Hid (cs.size = 148) := hid HI.out.s.n
      have HO1 : Hid (cs.all (·.oneCell') = true) := hid (HI.out.s.one rfl hone.out)
      go_upto_region 8 with (go_at_call 23; refine (HG.out _ TV.out).mono ?_; rintro e w1 ⟨rfl, t1, q1⟩; clear v0 v1; have b4 := t1.keep B4.out (by simp; omega); have B7' := hid (t1.keep B7.out (by simp; omega)); have T1 := hid t1; have Q1 := hid q1; have c0 := cell_at b4 HC.out.1; have c1 := cell_at b4 HC.out.2; have cf := froz_at b4; have B4' := hid b4; clear t1 q1 b4)
      clear c0 c1 cf
      have tb : Touch [] w1 w1.drew := (Touch.refl _ w1).drew
      have S0 : w1.drew.heap[w.heap.size]? = some (.cells cs 63 (0, 0)) := B4'.out
      have FI : Hid (Iv B w1.drew b pv lv cs (.slice ap T.L.length cp) lv2 S T) := hid (((HI.out.touch TV.out).goN Q1.out T1.out HLT.out).touch tb)
      have TW : Hid (Touch (b :: lv.ownBlock.toList) w w1.drew) := hid (((TV.out.mono (fun _ e => by cases e)).trans T1.out (fun k hk => Or.inl (by simp at hk; simp [hk]))).drew)
      replace B7' : Hid (w1.drew.heap[w.heap.size + 2]? = _) := B7'
      refine wp_region_H (S := fun w' => w'.heap[w.heap.size]? = some (.cells cs 63 (0, 0))) (by kernel_rfl) ?_
      generalize w1.drew = W0 at *
      clear tb B4' T1 Q1
      refine wpH_take (i := 0) (v := (.pointer (some ⟨b, 0, none⟩))) (some 46) rfl rfl (by kernel_rfl) (by kernel_rfl) (by kernel_rfl) (fun _ _ _ h => h) (Or.inl ⟨by rfl, fun w' hS => (by go_simp)⟩) S0 ?_
      try simp only [Go.Act.put, List.setIfInBounds_toArray, List.set_cons_zero, List.set_cons_succ]
      refine wpH_take (i := 1) (v := (.agg cs)) (some 47) rfl rfl (by kernel_rfl) (by kernel_rfl) (by kernel_rfl) (fun _ _ _ h => h) (Or.inl ⟨by rfl, fun w' hS => exec_loadT bigS _ rfl rfl hS HN1.out⟩) S0 ?_
      try simp only [Go.Act.put, List.setIfInBounds_toArray, List.set_cons_zero, List.set_cons_succ]
      refine wpH_take (i := 2) (v := (.bool false)) (some 48) rfl rfl (by kernel_rfl) (by kernel_rfl) (by kernel_rfl) (fun _ _ _ h => h) (Or.inl ⟨by rfl, fun w' hS => (by go_simp)⟩) S0 ?_
      try simp only [Go.Act.put, List.setIfInBounds_toArray, List.set_cons_zero, List.set_cons_succ]
      refine wpH_take (i := 3) (v := (.bool false)) (some 49) rfl rfl (by kernel_rfl) (by kernel_rfl) (by kernel_rfl) (fun _ _ _ h => h) (Or.inl ⟨by rfl, fun w' hS => (by go_simp)⟩) S0 ?_
      try simp only [Go.Act.put, List.setIfInBounds_toArray, List.set_cons_zero, List.set_cons_succ]
      refine wpH_take (i := 4) (v := (.bool true)) (some 50) rfl rfl (by kernel_rfl) (by kernel_rfl) (by kernel_rfl) (fun _ _ _ h => h) (Or.inl ⟨by rfl, fun w' hS => (by go_simp)⟩) S0 ?_
      try simp only [Go.Act.put, List.setIfInBounds_toArray, List.set_cons_zero, List.set_cons_succ]
      refine wpH_take (i := 5) (v := (.pointer (some ⟨b, 0, none⟩))) (some 6) rfl rfl (by kernel_rfl) (by kernel_rfl) (by kernel_rfl) (fun _ _ _ h => h) (Or.inl ⟨by rfl, fun w' hS => (by go_simp)⟩) S0 ?_
      try simp only [Go.Act.put, List.setIfInBounds_toArray, List.set_cons_zero, List.set_cons_succ]
      refine wpH_call (i := 6) (o := { dst := none, op := Op.store 63 (Operand.tmp 7) (Operand.tmp 47), type := 0, pos := _, after := #[{ on := 1, ground := Ground.data }, { on := 5, ground := Ground.chain }, { on := 0, ground := Ground.phase }, { on := 1, ground := Ground.phase }, { on := 2, ground := Ground.textOnly Departure.lateStores }, { on := 3, ground := Ground.textOnly Departure.lateStores }, { on := 4, ground := Ground.textOnly Departure.lateStores }, { on := 5, ground := Ground.phase }], guard := none }) (by kernel_rfl) rfl (fun K' hK => ?_)
      rw [if_pos (by rfl)]
      refine wp_storeT bigS (Operand.tmp 7) (Operand.tmp 47) rfl (w.heap.size + 2) _ cs 63 rfl rfl B7'.out zs_size HN1.out HO1.out (fun w5 h5 t5 s5 => ?_)
      have S5 := t5.keep S0 (by simp)
      refine hK.out _ _ S5 ?_
      clear hK
      try simp only [Go.Act.put, List.setIfInBounds_toArray, List.set_cons_zero, List.set_cons_succ]
      refine wpH_take (i := 7) (v := (.bool true)) (some 8) rfl rfl (by kernel_rfl) (by kernel_rfl) (by kernel_rfl) (fun _ _ _ h => h) (Or.inl ⟨by rfl, fun w' hS => (by go_simp)⟩) S5 ?_
      try simp only [Go.Act.put, List.setIfInBounds_toArray, List.set_cons_zero, List.set_cons_succ]
      refine wpAnyH_done (by kernel_rfl) ?_ _
      go_wp2_with fail
      refine bodyPost_ret (results_one rfl _ _ rfl h5 HN1.out) rfl ?_
      exact ⟨b, pv, lv, _, _, lv2, S, _, rfl, FI.out.box B7'.out t5, by omega, rfl, TW.out.trans t5 (fun k hk => Or.inr (by simp at hk; omega))⟩
  · go_enter Tryd.func18, Tryd.ntmps18
    go_upto_region 1 with fail
    rw [← hV]
    clear hV
    have v0 := cell_at (j := 0) B5.out rfl
    have v1 := cell_at (j := 1) B5.out rfl
    by_cases hlt : S.at_ < S.L.length
    · have hlt' : (S.at_ : Int) < (S.L.length : Int) := by omega
      rw [decide_eq_true hlt] at HG
      have HLT := hid hlt
      have HN1 : Hid ((cs.setIfInBounds 1 (.int .i64 ((S.at_ : Int) + 1))).size = 148) := hid (by simpa using HI.out.s.n)
      have HO1 : Hid ((cs.setIfInBounds 1 (.int .i64 ((S.at_ : Int) + 1))).all (·.oneCell') = true) := hid ((HI.out.s.setAt (S.at_ + 1)).one rfl hone.out)
      have GS : Hid ((goS S).log.length ≤ S.log.length + 1 ∧ (goS S).L = S.L) := hid (by unfold goS; rw [if_pos hlt]; exact ⟨Nat.le_succ _, rfl⟩)
      go_upto_region 8 with (go_at_call 23; refine (HG.out _ TV.out).mono ?_; rintro e w1 ⟨rfl, t1, q1⟩; clear v0 v1; have b4 := t1.keep B4.out (by simp; omega); have B7' := hid (t1.keep B7.out (by simp; omega)); have T1 := hid t1; have Q1 := hid q1; have c0 := cell_at b4 HC.out.1; have c1 := cell_at b4 HC.out.2; have cf := froz_at b4; have B4' := hid b4; clear t1 q1 b4)
      clear c0 c1 cf
      obtain ⟨W0, hW0⟩ : ∃ W0, W0 = (w1.setCell ⟨w.heap.size, 1, none⟩ (.int .i64 ((S.at_ : Int) + 1))).drew := ⟨_, rfl⟩
      have tb : Touch [w.heap.size] w1 W0 := by rw [hW0]; exact ((Touch.refl _ w1).setCell (Or.inl (by simp)) _).drew
      have S0 : W0.heap[w.heap.size]? = some (.cells (cs.setIfInBounds 1 (.int .i64 ((S.at_ : Int) + 1))) 63 (0, 0)) := by rw [hW0]; exact bset B4'.out _
      have FI : Hid (Iv B W0 b pv lv (cs.setIfInBounds 1 (.int .i64 ((S.at_ : Int) + 1))) (.slice ap T.L.length cp) lv2 (goS S) { T with at_ := S.at_ + 1 }) := hid (((HI.out.touch TV.out).goT Q1.out T1.out HLT.out).box B4'.out tb)
      have TW : Hid (Touch (b :: lv.ownBlock.toList) w W0) := hid (((TV.out.mono (fun _ e => by cases e)).trans T1.out (fun k hk => Or.inl (by simp at hk; simp [hk]))).trans tb (fun k hk => Or.inr (by simp at hk; omega)))
      replace B7' := hid (tb.keep B7'.out (by simp))
      refine wp_region_H (S := fun w' => w'.heap[w.heap.size]? = some (.cells (cs.setIfInBounds 1 (.int .i64 ((S.at_ : Int) + 1))) 63 (0, 0))) (by kernel_rfl) ?_
      rw [← hW0]
      clear hW0 tb B4' T1 Q1
      refine wpH_take (i := 0) (v := (.pointer (some ⟨b, 0, none⟩))) (some 46) rfl rfl (by kernel_rfl) (by kernel_rfl) (by kernel_rfl) (fun _ _ _ h => h) (Or.inl ⟨by rfl, fun w' hS => (by go_simp)⟩) S0 ?_
      try simp only [Go.Act.put, List.setIfInBounds_toArray, List.set_cons_zero, List.set_cons_succ]
      refine wpH_take (i := 1) (v := (.agg (cs.setIfInBounds 1 (.int .i64 ((S.at_ : Int) + 1))))) (some 47) rfl rfl (by kernel_rfl) (by kernel_rfl) (by kernel_rfl) (fun _ _ _ h => h) (Or.inl ⟨by rfl, fun w' hS => exec_loadT bigS _ rfl rfl hS HN1.out⟩) S0 ?_
      try simp only [Go.Act.put, List.setIfInBounds_toArray, List.set_cons_zero, List.set_cons_succ]
      refine wpH_take (i := 2) (v := (.bool true)) (some 48) rfl rfl (by kernel_rfl) (by kernel_rfl) (by kernel_rfl) (fun _ _ _ h => h) (Or.inl ⟨by rfl, fun w' hS => (by go_simp)⟩) S0 ?_
      try simp only [Go.Act.put, List.setIfInBounds_toArray, List.set_cons_zero, List.set_cons_succ]
      refine wpH_take (i := 3) (v := (.bool true)) (some 49) rfl rfl (by kernel_rfl) (by kernel_rfl) (by kernel_rfl) (fun _ _ _ h => h) (Or.inl ⟨by rfl, fun w' hS => (by go_simp)⟩) S0 ?_
      try simp only [Go.Act.put, List.setIfInBounds_toArray, List.set_cons_zero, List.set_cons_succ]
      refine wpH_take (i := 4) (v := (.bool true)) (some 50) rfl rfl (by kernel_rfl) (by kernel_rfl) (by kernel_rfl) (fun _ _ _ h => h) (Or.inl ⟨by rfl, fun w' hS => (by go_simp)⟩) S0 ?_
      try simp only [Go.Act.put, List.setIfInBounds_toArray, List.set_cons_zero, List.set_cons_succ]
      refine wpH_take (i := 5) (v := (.pointer (some ⟨b, 0, none⟩))) (some 6) rfl rfl (by kernel_rfl) (by kernel_rfl) (by kernel_rfl) (fun _ _ _ h => h) (Or.inl ⟨by rfl, fun w' hS => (by go_simp)⟩) S0 ?_
      try simp only [Go.Act.put, List.setIfInBounds_toArray, List.set_cons_zero, List.set_cons_succ]
      refine wpH_call (i := 6) (o := { dst := none, op := Op.store 63 (Operand.tmp 7) (Operand.tmp 47), type := 0, pos := _, after := #[{ on := 1, ground := Ground.data }, { on := 5, ground := Ground.chain }, { on := 0, ground := Ground.phase }, { on := 1, ground := Ground.phase }, { on := 2, ground := Ground.textOnly Departure.lateStores }, { on := 3, ground := Ground.textOnly Departure.lateStores }, { on := 4, ground := Ground.textOnly Departure.lateStores }, { on := 5, ground := Ground.phase }], guard := none }) (by kernel_rfl) rfl (fun K' hK => ?_)
      rw [if_pos (by rfl)]
      refine wp_storeT bigS (Operand.tmp 7) (Operand.tmp 47) rfl (w.heap.size + 2) _ (cs.setIfInBounds 1 (.int .i64 ((S.at_ : Int) + 1))) 63 rfl rfl B7'.out zs_size HN1.out HO1.out (fun w5 h5 t5 s5 => ?_)
      have S5 := t5.keep S0 (by simp)
      refine hK.out _ _ S5 ?_
      clear hK
      try simp only [Go.Act.put, List.setIfInBounds_toArray, List.set_cons_zero, List.set_cons_succ]
      refine wpH_take (i := 7) (v := (.bool true)) (some 8) rfl rfl (by kernel_rfl) (by kernel_rfl) (by kernel_rfl) (fun _ _ _ h => h) (Or.inl ⟨by rfl, fun w' hS => (by go_simp)⟩) S5 ?_
      try simp only [Go.Act.put, List.setIfInBounds_toArray, List.set_cons_zero, List.set_cons_succ]
      refine wpAnyH_done (by kernel_rfl) ?_ _
      go_wp2_with fail
      refine bodyPost_ret (results_one rfl _ _ rfl h5 HN1.out) rfl ?_
      exact ⟨b, pv, lv, _, _, lv2, goS S, _, rfl, FI.out.box B7'.out t5, GS.out.1, GS.out.2, TW.out.trans t5 (fun k hk => Or.inr (by simp at hk; omega))⟩
    · have hlt' : ¬ (S.at_ : Int) < (S.L.length : Int) := by omega
      rw [decide_eq_false hlt] at HG
      have HLT := hid hlt
      have HN1 : Hid (cs.size = 148) := hid HI.out.s.n
      have HO1 : Hid (cs.all (·.oneCell') = true) := hid (HI.out.s.one rfl hone.out)
      go_upto_region 8 with (go_at_call 23; refine (HG.out _ TV.out).mono ?_; rintro e w1 ⟨rfl, t1, q1⟩; clear v0 v1; have b4 := t1.keep B4.out (by simp; omega); have B7' := hid (t1.keep B7.out (by simp; omega)); have T1 := hid t1; have Q1 := hid q1; have c0 := cell_at b4 HC.out.1; have c1 := cell_at b4 HC.out.2; have cf := froz_at b4; have B4' := hid b4; clear t1 q1 b4)
      clear c0 c1 cf
      have tb : Touch [] w1 w1.drew := (Touch.refl _ w1).drew
      have S0 : w1.drew.heap[w.heap.size]? = some (.cells cs 63 (0, 0)) := B4'.out
      have FI : Hid (Iv B w1.drew b pv lv cs (.slice ap T.L.length cp) lv2 S T) := hid (((HI.out.touch TV.out).goN Q1.out T1.out HLT.out).touch tb)
      have TW : Hid (Touch (b :: lv.ownBlock.toList) w w1.drew) := hid (((TV.out.mono (fun _ e => by cases e)).trans T1.out (fun k hk => Or.inl (by simp at hk; simp [hk]))).drew)
      replace B7' : Hid (w1.drew.heap[w.heap.size + 2]? = _) := B7'
      refine wp_region_H (S := fun w' => w'.heap[w.heap.size]? = some (.cells cs 63 (0, 0))) (by kernel_rfl) ?_
      generalize w1.drew = W0 at *
      clear tb B4' T1 Q1
      refine wpH_take (i := 0) (v := (.pointer (some ⟨b, 0, none⟩))) (some 46) rfl rfl (by kernel_rfl) (by kernel_rfl) (by kernel_rfl) (fun _ _ _ h => h) (Or.inl ⟨by rfl, fun w' hS => (by go_simp)⟩) S0 ?_
      try simp only [Go.Act.put, List.setIfInBounds_toArray, List.set_cons_zero, List.set_cons_succ]
      refine wpH_take (i := 1) (v := (.agg cs)) (some 47) rfl rfl (by kernel_rfl) (by kernel_rfl) (by kernel_rfl) (fun _ _ _ h => h) (Or.inl ⟨by rfl, fun w' hS => exec_loadT bigS _ rfl rfl hS HN1.out⟩) S0 ?_
      try simp only [Go.Act.put, List.setIfInBounds_toArray, List.set_cons_zero, List.set_cons_succ]
      refine wpH_take (i := 2) (v := (.bool false)) (some 48) rfl rfl (by kernel_rfl) (by kernel_rfl) (by kernel_rfl) (fun _ _ _ h => h) (Or.inl ⟨by rfl, fun w' hS => (by go_simp)⟩) S0 ?_
      try simp only [Go.Act.put, List.setIfInBounds_toArray, List.set_cons_zero, List.set_cons_succ]
      refine wpH_take (i := 3) (v := (.bool false)) (some 49) rfl rfl (by kernel_rfl) (by kernel_rfl) (by kernel_rfl) (fun _ _ _ h => h) (Or.inl ⟨by rfl, fun w' hS => (by go_simp)⟩) S0 ?_
      try simp only [Go.Act.put, List.setIfInBounds_toArray, List.set_cons_zero, List.set_cons_succ]
      refine wpH_take (i := 4) (v := (.bool true)) (some 50) rfl rfl (by kernel_rfl) (by kernel_rfl) (by kernel_rfl) (fun _ _ _ h => h) (Or.inl ⟨by rfl, fun w' hS => (by go_simp)⟩) S0 ?_
      try simp only [Go.Act.put, List.setIfInBounds_toArray, List.set_cons_zero, List.set_cons_succ]
      refine wpH_take (i := 5) (v := (.pointer (some ⟨b, 0, none⟩))) (some 6) rfl rfl (by kernel_rfl) (by kernel_rfl) (by kernel_rfl) (fun _ _ _ h => h) (Or.inl ⟨by rfl, fun w' hS => (by go_simp)⟩) S0 ?_
      try simp only [Go.Act.put, List.setIfInBounds_toArray, List.set_cons_zero, List.set_cons_succ]
      refine wpH_call (i := 6) (o := { dst := none, op := Op.store 63 (Operand.tmp 7) (Operand.tmp 47), type := 0, pos := _, after := #[{ on := 1, ground := Ground.data }, { on := 5, ground := Ground.chain }, { on := 0, ground := Ground.phase }, { on := 1, ground := Ground.phase }, { on := 2, ground := Ground.textOnly Departure.lateStores }, { on := 3, ground := Ground.textOnly Departure.lateStores }, { on := 4, ground := Ground.textOnly Departure.lateStores }, { on := 5, ground := Ground.phase }], guard := none }) (by kernel_rfl) rfl (fun K' hK => ?_)
      rw [if_pos (by rfl)]
      refine wp_storeT bigS (Operand.tmp 7) (Operand.tmp 47) rfl (w.heap.size + 2) _ cs 63 rfl rfl B7'.out zs_size HN1.out HO1.out (fun w5 h5 t5 s5 => ?_)
      have S5 := t5.keep S0 (by simp)
      refine hK.out _ _ S5 ?_
      clear hK
      try simp only [Go.Act.put, List.setIfInBounds_toArray, List.set_cons_zero, List.set_cons_succ]
      refine wpH_take (i := 7) (v := (.bool true)) (some 8) rfl rfl (by kernel_rfl) (by kernel_rfl) (by kernel_rfl) (fun _ _ _ h => h) (Or.inl ⟨by rfl, fun w' hS => (by go_simp)⟩) S5 ?_
      try simp only [Go.Act.put, List.setIfInBounds_toArray, List.set_cons_zero, List.set_cons_succ]
      refine wpAnyH_done (by kernel_rfl) ?_ _
      go_wp2_with fail
      refine bodyPost_ret (results_one rfl _ _ rfl h5 HN1.out) rfl ?_
      exact ⟨b, pv, lv, _, _, lv2, S, _, rfl, FI.out.box B7'.out t5, by omega, rfl, TW.out.trans t5 (fun k hk => Or.inr (by simp at hk; omega))⟩
end
end Go.Proofs.YthakboiecdjgnaaDoor.Ci
