/- The law's one: Had; no conditions but those that it states. -/
import Derived.Test.YthakboiecdjgnaaDoorCoj
namespace Go.Proofs.YthakboiecdjgnaaDoor.Ci
open Go.RowKit Go.Maps Go.ChangeMaps
set_option linter.unusedVariables false
set_option linter.unusedSimpArgs false
theorem cellsG_snoc (L : List Gz) (x : Gz) : cellsG (L ++ [x]) = cellsG L ++ x.cells := by simp [cellsG]
/-- In the midst of append(append([]Got{}, L...), x): the row, and the slice of one. -/
structure SiG (W C : World) (x : Gz) (r : Option (Value × List Gz)) (e : Option Value) : Prop where
  t : Touch [] W C
  row : ∀ v A, r = some (v, A) → C.ownsRow W.heap.size 60 7 v A.length (cellsG A)
  one : ∀ u, e = some u → Rs 60 7 C u 1 x.cells ∧ ∃ q, u = .slice (some ⟨q, 0, none⟩) 1 1 ∧ q < C.heap.size
  ap : ∀ v A u q, r = some (v, A) → e = some u → v.ownBlock = some q → u.ownBlock ≠ some q
section
variable {W C w5 : World} {x : Gz} {r : Option (Value × List Gz)} {e : Option Value}
theorem SiG.new0 (h : SiG W C x none e) : SiG W (C.alloc (.cells #[] 60)) x (some (.slice (some ⟨C.heap.size, 0, none⟩) 0 0, [])) e := by
  have ta : Touch [] C (C.alloc (.cells #[] 60)) := (Touch.refl _ _).alloc _
  refine ⟨h.t.trans' ta, fun v A hr => ?_, fun u he => ?_, fun v A u q hr he hq hu => ?_⟩
  · cases hr
    exact World.ownsRow_made (e := 60) (size := 7) C #[] 0 h.t.size (by unfold maxLen; omega) rfl
  · obtain ⟨h1, q, h2, h3⟩ := h.one u he
    exact ⟨h1.keep0 ta, q, h2, by simp; omega⟩
  · cases hr
    obtain ⟨h1, q', rfl, h3⟩ := h.one u he
    simp only [Value.ownBlock, Option.some.injEq] at hq hu
    omega
theorem SiG.newx (h : SiG W C x r none) : SiG W (C.alloc (.cells #[.int .i64 x.pl, .int .i64 x.ho, .int .i64 x.va, .int .i64 x.kd, .int .i64 x.cd, .int .i64 x.rn, .int .i64 x.tm] 60)) x r (some (.slice (some ⟨C.heap.size, 0, none⟩) 1 1)) := by
  have ta : Touch [] C (C.alloc (.cells #[.int .i64 x.pl, .int .i64 x.ho, .int .i64 x.va, .int .i64 x.kd, .int .i64 x.cd, .int .i64 x.rn, .int .i64 x.tm] 60)) := (Touch.refl _ _).alloc _
  refine ⟨h.t.trans' ta, fun v A hr => own_touch (h.row v A hr) ta (fun _ _ e => by cases e), fun u he => ?_, fun v A u q hr he hq hu => ?_⟩
  · cases he
    exact ⟨Rs.new C #[.int .i64 x.pl, .int .i64 x.ho, .int .i64 x.va, .int .i64 x.kd, .int .i64 x.cd, .int .i64 x.rn, .int .i64 x.tm] 60 7 rfl, C.heap.size, rfl, by simp⟩
  · cases he
    have := ((h.row v A hr).lt q hq).2
    simp only [Value.ownBlock, Option.some.injEq] at hu
    omega
theorem SiG.app {v v5 : Value} {A : List Gz} {n : Nat} {xs : List Value} (h : SiG W C x (some (v, A)) e) {A5 : List Gz} (o5 : w5.ownsRow W.heap.size 60 7 v5 A5.length (cellsG A5)) (g5 : C.grownBy w5 v.ownBlock) (p5 : v5.ownBlock = v.ownBlock ∨ v5.ownBlock = some C.heap.size) : SiG W w5 x (some (v5, A5)) e := by
  have tg : Touch v.ownBlock.toList C w5 := (Touch.refl _ _).grown g5 (fun q hq => Or.inl (by simp [hq]))
  refine ⟨touch_grown h.t g5 (h.row v A rfl) (Nat.le_refl _), fun v' A' hr => (by cases hr; exact o5), fun u he => ?_, fun v' A' u q hr he hq hu => ?_⟩
  · obtain ⟨h1, q, rfl, h3⟩ := h.one u he
    refine ⟨h1.keep tg (fun g off n c e2 hm => ?_), q, rfl, by have := g5.size; omega⟩
    simp only [Value.slice.injEq, Option.some.injEq, Addr.mk.injEq] at e2
    refine h.ap v A _ q rfl he ?_ rfl
    rw [e2.1.1]
    exact Option.mem_toList.1 hm
  · cases hr
    rcases p5 with p5 | p5
    · exact h.ap v A u q rfl he (p5 ▸ hq) hu
    · rw [p5] at hq
      cases hq
      obtain ⟨h1, q', rfl, h3⟩ := h.one u he
      simp only [Value.ownBlock, Option.some.injEq] at hu
      omega
end
/-- What stands behind the laying of the state's log. -/
def HadX (B b : Nat) (w : World) (pv lv pv2 : Value) (S : Cs) (T : Ls) (a1 a2 g0' g1 g2 g3 g4 g5 g6 : Int) (W7 : World) : Prop := ∃ (C : Array Value) (v6 : Value),
  W7.heap[w.heap.size]? = some (.cells C 63 (0, 0)) ∧ W7.heap[w.heap.size + 1]? = some (.cells #[.int .i64 2, .int .i64 a1, .int .i64 a2, .int .i64 g0', .int .i64 g1, .int .i64 g2, .int .i64 g3, .int .i64 g4, .int .i64 g5, .int .i64 g6] 67 (0, 0)) ∧ W7.heap[w.heap.size + 2]? = some (.cells Tryd.zeroCells63 63 (0, 0)) ∧ Touch (b :: lv.ownBlock.toList) w W7 ∧ Sc C pv2 v6 { T with log := T.log ++ [(⟨g0', g1, g2, g3, g4, g5, g6⟩ : Gz)] } ∧ C.all (·.oneCell') = true ∧ Cq W7 b pv lv S ∧
  ∀ w5 v, Cq w5 b pv v { S with log := S.log ++ [(⟨g0', g1, g2, g3, g4, g5, g6⟩ : Gz)] } → Touch (b :: lv.ownBlock.toList) W7 w5 → (∀ k, v.ownBlock = some k → lv.ownBlock = some k ∨ W7.heap.size ≤ k) → Iv B w5 b pv v C pv2 v6 { S with log := S.log ++ [(⟨g0', g1, g2, g3, g4, g5, g6⟩ : Gz)] } { T with log := T.log ++ [(⟨g0', g1, g2, g3, g4, g5, g6⟩ : Gz)] }
section
variable {B b : Nat} {w w' : World} {pv lv pv2 lv2 : Value} {cs : Array Value} {S : Cs} {T : Ls}
theorem Iv.had (h : Iv B w b pv lv cs pv2 lv2 S T) {w5 : World} {v v6 : Value} {g : Gz} {C : Array Value} {n : Nat} (hB : B ≤ w.heap.size) (hn : ∀ k, lv.ownBlock = some k → k < n) (o : w.ownsRow n 60 7 v6 (T.log ++ [g]).length (cellsG (T.log ++ [g]))) (hs : Sc C pv2 v6 { T with log := T.log ++ [g] })
    (q : Cq w5 b pv v { S with log := S.log ++ [g] }) (t : Touch (b :: lv.ownBlock.toList) w w5) (hv : ∀ k, v.ownBlock = some k → lv.ownBlock = some k ∨ w.heap.size ≤ k) : Iv B w5 b pv v C pv2 v6 { S with log := S.log ++ [g] } { T with log := T.log ++ [g] } := by
  obtain ⟨c, hc, _⟩ := h.q.blk
  refine ⟨q, hs, ⟨h.r.L, h.r.at_, h.r.tok, congrArg (· ++ [g]) h.r.log, h.r.sl⟩, own_touch h.p2 t (fun k hk hm => ?_), own_touch (own_base o (Nat.zero_le _)) t (fun k hk hm => ?_), fun k hk hk6 => ?_, h.bb, fun k hk => ?_⟩
  · rcases List.mem_cons.1 hm with e | e
    · exact kind_ne h.p2 hc (by decide) k hk (by simp [e])
    · obtain ⟨c1, h1⟩ := own_kind h.p2 hk
      obtain ⟨c2, h2⟩ := own_kind h.q.lg (Option.mem_toList.1 e)
      rw [h1] at h2
      simp at h2
  · rcases List.mem_cons.1 hm with e | e
    · exact kind_ne o hc (by decide) k hk (by simp [e])
    · have := hn k (Option.mem_toList.1 e)
      have := (o.lt k hk).1
      omega
  · have := o.lt k hk6
    rcases hv k hk with e | e
    · have := hn k e
      omega
    · omega
  · rcases hv k hk with e | e
    · exact h.lb k e
    · omega
set_option maxHeartbeats 4000000 in
set_option maxRecDepth 20000 in
theorem one_had_no (h : Iv B w b pv lv cs pv2 lv2 S T) (a1 a2 : Int) (g : Gz) (hm : mayG T.L.length g = false) : Calls Tryd.prog 18 #[.pointer (some ⟨b, 0, none⟩), .agg cs, actv 2 a1 a2 g] w fun e w' => OnE e w w' B b lv S := by
  have HI := hid h
  have hb := h.q.lt
  obtain ⟨ap, cp, e2⟩ := own_form h.p2
  subst e2
  have hone : Hid (lv2.oneCell' = true) := hid (by obtain ⟨a, c, e⟩ := own_form h.g2; rw [e]; rfl)
  have HM : Hid (∀ W, Calls Tryd.prog 42 #[.agg cs, .agg #[.int .i64 g.pl, .int .i64 g.ho, .int .i64 g.va, .int .i64 g.kd, .int .i64 g.cd, .int .i64 g.rn, .int .i64 g.tm]] W fun e w' => e = .returned (.bool false) ∧ Touch [] W w') := hid (fun W => (smay_ h.s (by rw [h.r.L]; exact h.q.len) g W).mono fun e w'' q => by rw [hm] at q; exact q)
  have HU0 : Hid (∀ W0, Cq W0 b pv lv S → _) := hid (fun W0 q => had_not q g (by rw [← h.r.L]; exact hm))
  have HWT : Hid (∀ W, Calls Tryd.prog 41 #[.bool false, .int .i64 1] W fun e w' => e = .returned (.int .i64 1) ∧ w' = W) := hid (fun W => want_ W false 1)
  clear h hm
  obtain ⟨g0', g1, g2, g3, g4, g5, g6⟩ := g
  unfold actv
  dsimp only at *
  obtain ⟨V, hV⟩ : ∃ V, V = ((w.alloc (.cells cs 63)).alloc (.cells #[.int .i64 2, .int .i64 a1, .int .i64 a2, .int .i64 g0', .int .i64 g1, .int .i64 g2, .int .i64 g3, .int .i64 g4, .int .i64 g5, .int .i64 g6] 67)).alloc (.cells Tryd.zeroCells63 63) := ⟨_, rfl⟩
  have TV : Hid (Touch [] w V) := hid (by rw [hV]; exact (((Touch.refl _ _).alloc _).alloc _).alloc _)
  have B4 : Hid (V.heap[w.heap.size]? = some (.cells cs 63 (0, 0))) := hid (by rw [hV]; exact (((Touch.refl [] _).alloc _).alloc _).keep (heap_alloc_new w _) (by simp))
  have B5 : Hid (V.heap[w.heap.size + 1]? = some (.cells #[.int .i64 2, .int .i64 a1, .int .i64 a2, .int .i64 g0', .int .i64 g1, .int .i64 g2, .int .i64 g3, .int .i64 g4, .int .i64 g5, .int .i64 g6] 67 (0, 0))) := hid (by
    rw [hV]
    have := heap_alloc_new (w.alloc (.cells cs 63)) (.cells #[.int .i64 2, .int .i64 a1, .int .i64 a2, .int .i64 g0', .int .i64 g1, .int .i64 g2, .int .i64 g3, .int .i64 g4, .int .i64 g5, .int .i64 g6] 67)
    rw [World.size_alloc] at this
    exact ((Touch.refl [] _).alloc _).keep this (by simp))
  have B7 : Hid (V.heap[w.heap.size + 2]? = some (.cells Tryd.zeroCells63 63 (0, 0))) := hid (by
    rw [hV]
    have := heap_alloc_new ((w.alloc (.cells cs 63)).alloc (.cells #[.int .i64 2, .int .i64 a1, .int .i64 a2, .int .i64 g0', .int .i64 g1, .int .i64 g2, .int .i64 g3, .int .i64 g4, .int .i64 g5, .int .i64 g6] 67)) (.cells Tryd.zeroCells63 63)
    rwa [World.size_alloc, World.size_alloc] at this)
  have key : (0 ≤ a1 ∧ a1 < 16) ∨ (decide (0 ≤ a1) = false) ∨ (0 ≤ a1 ∧ decide (a1 < 16) = false) := by simp only [decide_eq_false_iff_not]; omega
  rcases key with ⟨k0, k1⟩ | k9 | ⟨k0, k9⟩
  · go_enter Tryd.func18, Tryd.ntmps18
    go_upto_region 1 with fail
    rw [← hV]
    clear hV
    have v0 := cell_at (j := 0) B5.out rfl
    have v1 := cell_at (j := 1) B5.out rfl
    have v2 := cell_at (j := 2) B5.out rfl
    have v3 := cell_at (j := 3) B5.out rfl
    have v4 := cell_at (j := 4) B5.out rfl
    have v5 := cell_at (j := 5) B5.out rfl
    have v6 := cell_at (j := 6) B5.out rfl
    have v7 := cell_at (j := 7) B5.out rfl
    have v8 := cell_at (j := 8) B5.out rfl
    have v9 := cell_at (j := 9) B5.out rfl
    have HN1 : Hid (cs.size = 148) := hid HI.out.s.n
    have HO1 : Hid (cs.all (·.oneCell') = true) := hid (HI.out.s.one rfl hone.out)
    go_upto_region 18 with (first
      | (refine wpList_loadT bigS rfl _ rfl w.heap.size cs 63 (0, 0) rfl B4.out HI.out.s.n ?_)
      | (go_at_call 42; refine (HM.out _).mono ?_; rintro e w1 ⟨rfl, t1⟩; have T1 := hid t1; clear t1 v0 v1 v2 v3 v4 v5 v6 v7 v8 v9))
    obtain ⟨W0, hW0⟩ : ∃ W0, W0 = w1.drew := ⟨_, rfl⟩
    have tb : Touch [w.heap.size] w1 W0 := by rw [hW0]; exact (Touch.refl _ _).drew
    have S0 : (fun (w' : World) => w'.heap[w.heap.size]? = some (.cells cs 63 (0, 0)) ∧ w'.heap[w.heap.size + 1]? = some (.cells #[.int .i64 2, .int .i64 a1, .int .i64 a2, .int .i64 g0', .int .i64 g1, .int .i64 g2, .int .i64 g3, .int .i64 g4, .int .i64 g5, .int .i64 g6] 67 (0, 0))) W0 := And.intro (by rw [hW0]; exact T1.out.keep B4.out (by simp)) (tb.keep (T1.out.keep B5.out (by simp)) (by simp))
    dsimp only at S0
    have HFI := hid (((HI.out.touch TV.out).touch T1.out).box (T1.out.keep B4.out (by simp)) tb)
    have HU := hid (HU0.out W0 HFI.out.q)
    have TW : Hid (Touch (b :: lv.ownBlock.toList) w W0) := hid (((TV.out.trans' T1.out).mono (fun _ e => by cases e)).trans tb (fun k hk => Or.inr (by simp at hk; omega)))
    have B7' := hid (tb.keep (T1.out.keep B7.out (by simp)) (by simp))
    have F3 : ∀ w' : World, (w'.heap[w.heap.size]? = some (.cells cs 63 (0, 0)) ∧ w'.heap[w.heap.size + 1]? = some (.cells #[.int .i64 2, .int .i64 a1, .int .i64 a2, .int .i64 g0', .int .i64 g1, .int .i64 g2, .int .i64 g3, .int .i64 g4, .int .i64 g5, .int .i64 g6] 67 (0, 0))) → w'.cell? ⟨w.heap.size + 1, 3, none⟩ = some (.int .i64 g0') := fun w' h => cell_at h.2 rfl
    have F4 : ∀ w' : World, (w'.heap[w.heap.size]? = some (.cells cs 63 (0, 0)) ∧ w'.heap[w.heap.size + 1]? = some (.cells #[.int .i64 2, .int .i64 a1, .int .i64 a2, .int .i64 g0', .int .i64 g1, .int .i64 g2, .int .i64 g3, .int .i64 g4, .int .i64 g5, .int .i64 g6] 67 (0, 0))) → w'.cell? ⟨w.heap.size + 1, 4, none⟩ = some (.int .i64 g1) := fun w' h => cell_at h.2 rfl
    have F5 : ∀ w' : World, (w'.heap[w.heap.size]? = some (.cells cs 63 (0, 0)) ∧ w'.heap[w.heap.size + 1]? = some (.cells #[.int .i64 2, .int .i64 a1, .int .i64 a2, .int .i64 g0', .int .i64 g1, .int .i64 g2, .int .i64 g3, .int .i64 g4, .int .i64 g5, .int .i64 g6] 67 (0, 0))) → w'.cell? ⟨w.heap.size + 1, 5, none⟩ = some (.int .i64 g2) := fun w' h => cell_at h.2 rfl
    have F6 : ∀ w' : World, (w'.heap[w.heap.size]? = some (.cells cs 63 (0, 0)) ∧ w'.heap[w.heap.size + 1]? = some (.cells #[.int .i64 2, .int .i64 a1, .int .i64 a2, .int .i64 g0', .int .i64 g1, .int .i64 g2, .int .i64 g3, .int .i64 g4, .int .i64 g5, .int .i64 g6] 67 (0, 0))) → w'.cell? ⟨w.heap.size + 1, 6, none⟩ = some (.int .i64 g3) := fun w' h => cell_at h.2 rfl
    have F7 : ∀ w' : World, (w'.heap[w.heap.size]? = some (.cells cs 63 (0, 0)) ∧ w'.heap[w.heap.size + 1]? = some (.cells #[.int .i64 2, .int .i64 a1, .int .i64 a2, .int .i64 g0', .int .i64 g1, .int .i64 g2, .int .i64 g3, .int .i64 g4, .int .i64 g5, .int .i64 g6] 67 (0, 0))) → w'.cell? ⟨w.heap.size + 1, 7, none⟩ = some (.int .i64 g4) := fun w' h => cell_at h.2 rfl
    have F8 : ∀ w' : World, (w'.heap[w.heap.size]? = some (.cells cs 63 (0, 0)) ∧ w'.heap[w.heap.size + 1]? = some (.cells #[.int .i64 2, .int .i64 a1, .int .i64 a2, .int .i64 g0', .int .i64 g1, .int .i64 g2, .int .i64 g3, .int .i64 g4, .int .i64 g5, .int .i64 g6] 67 (0, 0))) → w'.cell? ⟨w.heap.size + 1, 8, none⟩ = some (.int .i64 g5) := fun w' h => cell_at h.2 rfl
    have F9 : ∀ w' : World, (w'.heap[w.heap.size]? = some (.cells cs 63 (0, 0)) ∧ w'.heap[w.heap.size + 1]? = some (.cells #[.int .i64 2, .int .i64 a1, .int .i64 a2, .int .i64 g0', .int .i64 g1, .int .i64 g2, .int .i64 g3, .int .i64 g4, .int .i64 g5, .int .i64 g6] 67 (0, 0))) → w'.cell? ⟨w.heap.size + 1, 9, none⟩ = some (.int .i64 g6) := fun w' h => cell_at h.2 rfl
    refine wp_region_H (S := fun (w' : World) => w'.heap[w.heap.size]? = some (.cells cs 63 (0, 0)) ∧ w'.heap[w.heap.size + 1]? = some (.cells #[.int .i64 2, .int .i64 a1, .int .i64 a2, .int .i64 g0', .int .i64 g1, .int .i64 g2, .int .i64 g3, .int .i64 g4, .int .i64 g5, .int .i64 g6] 67 (0, 0))) (by kernel_rfl) ?_
    rw [← hW0]
    clear hW0 tb
    refine wpH_take (i := 0) (v := (.pointer (some ⟨b, 0, none⟩))) (some 90) rfl rfl (by kernel_rfl) (by kernel_rfl) (by kernel_rfl) (fun _ _ _ h => h) (Or.inl ⟨by rfl, fun w' hS => (by go_simp)⟩) S0 ?_
    try simp only [Go.Act.put, List.setIfInBounds_toArray, List.set_cons_zero, List.set_cons_succ]
    refine wpH_take (i := 1) (v := (.agg cs)) (some 91) rfl rfl (by kernel_rfl) (by kernel_rfl) (by kernel_rfl) (fun _ _ _ h => h) (Or.inl ⟨by rfl, fun w' hS => exec_loadT bigS _ rfl rfl hS.1 HN1.out⟩) S0 ?_
    try simp only [Go.Act.put, List.setIfInBounds_toArray, List.set_cons_zero, List.set_cons_succ]
    refine wpH_take (i := 2) (v := (.pointer (some ⟨b, 0, none⟩))) (some 92) rfl rfl (by kernel_rfl) (by kernel_rfl) (by kernel_rfl) (fun _ _ _ h => h) (Or.inl ⟨by rfl, fun w' hS => (by go_simp)⟩) S0 ?_
    try simp only [Go.Act.put, List.setIfInBounds_toArray, List.set_cons_zero, List.set_cons_succ]
    refine wpH_take (i := 3) (v := (.pointer (some ⟨w.heap.size + 1, 3, none⟩))) (some 93) rfl rfl (by kernel_rfl) (by kernel_rfl) (by kernel_rfl) (fun _ _ _ h => h) (Or.inl ⟨by rfl, fun w' hS => (by go_simp)⟩) S0 ?_
    try simp only [Go.Act.put, List.setIfInBounds_toArray, List.set_cons_zero, List.set_cons_succ]
    refine wpH_take (i := 4) (v := (.agg #[.int .i64 g0', .int .i64 g1, .int .i64 g2, .int .i64 g3, .int .i64 g4, .int .i64 g5, .int .i64 g6])) (some 94) rfl rfl (by kernel_rfl) (by kernel_rfl) (by kernel_rfl) (fun _ _ _ h => h) (Or.inl ⟨by rfl, fun w' hS => (by have z0 := F3 _ hS; have z1 := F4 _ hS; have z2 := F5 _ hS; have z3 := F6 _ hS; have z4 := F7 _ hS; have z5 := F8 _ hS; have z6 := F9 _ hS; go_simp)⟩) S0 ?_
    try simp only [Go.Act.put, List.setIfInBounds_toArray, List.set_cons_zero, List.set_cons_succ]
    refine wpH_take (i := 6) (v := (.bool false)) (some 96) rfl rfl (by kernel_rfl) (by kernel_rfl) (by kernel_rfl) (fun _ _ _ h => h) (Or.inl ⟨by rfl, fun w' hS => (by go_simp)⟩) S0 ?_
    try simp only [Go.Act.put, List.setIfInBounds_toArray, List.set_cons_zero, List.set_cons_succ]
    refine wpH_call (i := 5) (o := { dst := some 95, op := Op.call { callee := Callee.value (Operand.func 25), args := #[Operand.tmp 92, Operand.tmp 94], argTypes := #[50, 60] }, type := 23, pos := _, after := #[{ on := 2, ground := Ground.data }, { on := 4, ground := Ground.data }], guard := none }) (by kernel_rfl) rfl (fun K' hK => ?_)
    rw [if_pos (by rfl)]
    go_simp
    refine HU.out.mono ?_
    rintro e w5 ⟨rfl, t5⟩
    have S5 := And.intro (t5.keep S0.1 (by simp)) (t5.keep S0.2 (by simp))
    have B75 := hid (t5.keep B7'.out (by simp))
    have F5 := hid (HFI.out.touch t5)
    have T5 := hid (TW.out.trans t5 (fun k hk => by cases hk))
    clear t5
    refine hK.out _ _ S5 ?_
    clear hK
    try simp only [Go.Act.put, List.setIfInBounds_toArray, List.set_cons_zero, List.set_cons_succ]
    refine wpH_call (i := 7) (o := { dst := some 97, op := Op.call { callee := Callee.value (Operand.func 41), args := #[Operand.tmp 96, Operand.const (Value.int IntKind.i64 1)], argTypes := #[4, 23] }, type := 23, pos := _, after := #[{ on := 6, ground := Ground.data }, { on := 5, ground := Ground.chain }], guard := none }) (by kernel_rfl) rfl (fun K' hK => ?_)
    rw [if_pos (by rfl)]
    go_simp
    refine (HWT.out _).mono ?_
    rintro e w6 ⟨rfl, e6⟩
    rw [e6]
    clear e6 w6
    refine hK.out _ _ S5 ?_
    clear hK
    try simp only [Go.Act.put, List.setIfInBounds_toArray, List.set_cons_zero, List.set_cons_succ]
    refine wpH_take (i := 8) (v := (.bool true)) (some 98) rfl rfl (by kernel_rfl) (by kernel_rfl) (by kernel_rfl) (fun _ _ _ h => h) (Or.inl ⟨by rfl, fun w' hS => (by go_simp)⟩) S5 ?_
    try simp only [Go.Act.put, List.setIfInBounds_toArray, List.set_cons_zero, List.set_cons_succ]
    refine wpH_take (i := 9) (v := (.pointer (some ⟨b, 0, none⟩))) (some 6) rfl rfl (by kernel_rfl) (by kernel_rfl) (by kernel_rfl) (fun _ _ _ h => h) (Or.inl ⟨by rfl, fun w' hS => (by go_simp)⟩) S5 ?_
    try simp only [Go.Act.put, List.setIfInBounds_toArray, List.set_cons_zero, List.set_cons_succ]
    refine wpH_call (i := 10) (o := { dst := none, op := Op.store 63 (Operand.tmp 7) (Operand.tmp 91), type := 0, pos := _, after := #[{ on := 1, ground := Ground.data }, { on := 9, ground := Ground.chain }, { on := 0, ground := Ground.phase }, { on := 1, ground := Ground.phase }, { on := 2, ground := Ground.textOnly Departure.lateStores }, { on := 3, ground := Ground.textOnly Departure.lateStores }, { on := 4, ground := Ground.textOnly Departure.lateStores }, { on := 5, ground := Ground.textOnly Departure.lateStoresUnsure }, { on := 6, ground := Ground.textOnly Departure.lateStores }, { on := 7, ground := Ground.textOnly Departure.lateStoresUnsure }, { on := 8, ground := Ground.textOnly Departure.lateStores }, { on := 9, ground := Ground.phase }], guard := none }) (by kernel_rfl) rfl (fun K' hK => ?_)
    rw [if_pos (by rfl)]
    refine wp_storeT bigS (Operand.tmp 7) (Operand.tmp 91) rfl (w.heap.size + 2) _ cs 63 rfl rfl B75.out zs_size HN1.out HO1.out (fun w7 h7 t7 s7 => ?_)
    have S7 := And.intro (t7.keep S5.1 (by simp)) (t7.keep S5.2 (by simp))
    refine hK.out _ _ S7 ?_
    clear hK
    try simp only [Go.Act.put, List.setIfInBounds_toArray, List.set_cons_zero, List.set_cons_succ]
    refine wpH_take (i := 11) (v := (.bool true)) (some 8) rfl rfl (by kernel_rfl) (by kernel_rfl) (by kernel_rfl) (fun _ _ _ h => h) (Or.inl ⟨by rfl, fun w' hS => (by go_simp)⟩) S7 ?_
    try simp only [Go.Act.put, List.setIfInBounds_toArray, List.set_cons_zero, List.set_cons_succ]
    refine wpAnyH_done (by kernel_rfl) ?_ _
    go_wp2_with fail
    refine bodyPost_ret (results_one rfl _ _ rfl h7 HN1.out) rfl ?_
    exact ⟨b, pv, lv, _, _, _, _, _, rfl, F5.out.box B75.out t7, by simp, rfl, T5.out.trans t7 (fun k hk => Or.inr (by simp at hk; omega))⟩
  · go_enter Tryd.func18, Tryd.ntmps18
    go_upto_region 1 with fail
    rw [← hV]
    clear hV
    have v0 := cell_at (j := 0) B5.out rfl
    have v1 := cell_at (j := 1) B5.out rfl
    have v2 := cell_at (j := 2) B5.out rfl
    have v3 := cell_at (j := 3) B5.out rfl
    have v4 := cell_at (j := 4) B5.out rfl
    have v5 := cell_at (j := 5) B5.out rfl
    have v6 := cell_at (j := 6) B5.out rfl
    have v7 := cell_at (j := 7) B5.out rfl
    have v8 := cell_at (j := 8) B5.out rfl
    have v9 := cell_at (j := 9) B5.out rfl
    have HN1 : Hid (cs.size = 148) := hid HI.out.s.n
    have HO1 : Hid (cs.all (·.oneCell') = true) := hid (HI.out.s.one rfl hone.out)
    go_upto_region 18 with (first
      | (refine wpList_loadT bigS rfl _ rfl w.heap.size cs 63 (0, 0) rfl B4.out HI.out.s.n ?_)
      | (go_at_call 42; refine (HM.out _).mono ?_; rintro e w1 ⟨rfl, t1⟩; have T1 := hid t1; clear t1 v0 v1 v2 v3 v4 v5 v6 v7 v8 v9))
    obtain ⟨W0, hW0⟩ : ∃ W0, W0 = w1.drew := ⟨_, rfl⟩
    have tb : Touch [w.heap.size] w1 W0 := by rw [hW0]; exact (Touch.refl _ _).drew
    have S0 : (fun (w' : World) => w'.heap[w.heap.size]? = some (.cells cs 63 (0, 0)) ∧ w'.heap[w.heap.size + 1]? = some (.cells #[.int .i64 2, .int .i64 a1, .int .i64 a2, .int .i64 g0', .int .i64 g1, .int .i64 g2, .int .i64 g3, .int .i64 g4, .int .i64 g5, .int .i64 g6] 67 (0, 0))) W0 := And.intro (by rw [hW0]; exact T1.out.keep B4.out (by simp)) (tb.keep (T1.out.keep B5.out (by simp)) (by simp))
    dsimp only at S0
    have HFI := hid (((HI.out.touch TV.out).touch T1.out).box (T1.out.keep B4.out (by simp)) tb)
    have HU := hid (HU0.out W0 HFI.out.q)
    have TW : Hid (Touch (b :: lv.ownBlock.toList) w W0) := hid (((TV.out.trans' T1.out).mono (fun _ e => by cases e)).trans tb (fun k hk => Or.inr (by simp at hk; omega)))
    have B7' := hid (tb.keep (T1.out.keep B7.out (by simp)) (by simp))
    have F3 : ∀ w' : World, (w'.heap[w.heap.size]? = some (.cells cs 63 (0, 0)) ∧ w'.heap[w.heap.size + 1]? = some (.cells #[.int .i64 2, .int .i64 a1, .int .i64 a2, .int .i64 g0', .int .i64 g1, .int .i64 g2, .int .i64 g3, .int .i64 g4, .int .i64 g5, .int .i64 g6] 67 (0, 0))) → w'.cell? ⟨w.heap.size + 1, 3, none⟩ = some (.int .i64 g0') := fun w' h => cell_at h.2 rfl
    have F4 : ∀ w' : World, (w'.heap[w.heap.size]? = some (.cells cs 63 (0, 0)) ∧ w'.heap[w.heap.size + 1]? = some (.cells #[.int .i64 2, .int .i64 a1, .int .i64 a2, .int .i64 g0', .int .i64 g1, .int .i64 g2, .int .i64 g3, .int .i64 g4, .int .i64 g5, .int .i64 g6] 67 (0, 0))) → w'.cell? ⟨w.heap.size + 1, 4, none⟩ = some (.int .i64 g1) := fun w' h => cell_at h.2 rfl
    have F5 : ∀ w' : World, (w'.heap[w.heap.size]? = some (.cells cs 63 (0, 0)) ∧ w'.heap[w.heap.size + 1]? = some (.cells #[.int .i64 2, .int .i64 a1, .int .i64 a2, .int .i64 g0', .int .i64 g1, .int .i64 g2, .int .i64 g3, .int .i64 g4, .int .i64 g5, .int .i64 g6] 67 (0, 0))) → w'.cell? ⟨w.heap.size + 1, 5, none⟩ = some (.int .i64 g2) := fun w' h => cell_at h.2 rfl
    have F6 : ∀ w' : World, (w'.heap[w.heap.size]? = some (.cells cs 63 (0, 0)) ∧ w'.heap[w.heap.size + 1]? = some (.cells #[.int .i64 2, .int .i64 a1, .int .i64 a2, .int .i64 g0', .int .i64 g1, .int .i64 g2, .int .i64 g3, .int .i64 g4, .int .i64 g5, .int .i64 g6] 67 (0, 0))) → w'.cell? ⟨w.heap.size + 1, 6, none⟩ = some (.int .i64 g3) := fun w' h => cell_at h.2 rfl
    have F7 : ∀ w' : World, (w'.heap[w.heap.size]? = some (.cells cs 63 (0, 0)) ∧ w'.heap[w.heap.size + 1]? = some (.cells #[.int .i64 2, .int .i64 a1, .int .i64 a2, .int .i64 g0', .int .i64 g1, .int .i64 g2, .int .i64 g3, .int .i64 g4, .int .i64 g5, .int .i64 g6] 67 (0, 0))) → w'.cell? ⟨w.heap.size + 1, 7, none⟩ = some (.int .i64 g4) := fun w' h => cell_at h.2 rfl
    have F8 : ∀ w' : World, (w'.heap[w.heap.size]? = some (.cells cs 63 (0, 0)) ∧ w'.heap[w.heap.size + 1]? = some (.cells #[.int .i64 2, .int .i64 a1, .int .i64 a2, .int .i64 g0', .int .i64 g1, .int .i64 g2, .int .i64 g3, .int .i64 g4, .int .i64 g5, .int .i64 g6] 67 (0, 0))) → w'.cell? ⟨w.heap.size + 1, 8, none⟩ = some (.int .i64 g5) := fun w' h => cell_at h.2 rfl
    have F9 : ∀ w' : World, (w'.heap[w.heap.size]? = some (.cells cs 63 (0, 0)) ∧ w'.heap[w.heap.size + 1]? = some (.cells #[.int .i64 2, .int .i64 a1, .int .i64 a2, .int .i64 g0', .int .i64 g1, .int .i64 g2, .int .i64 g3, .int .i64 g4, .int .i64 g5, .int .i64 g6] 67 (0, 0))) → w'.cell? ⟨w.heap.size + 1, 9, none⟩ = some (.int .i64 g6) := fun w' h => cell_at h.2 rfl
    refine wp_region_H (S := fun (w' : World) => w'.heap[w.heap.size]? = some (.cells cs 63 (0, 0)) ∧ w'.heap[w.heap.size + 1]? = some (.cells #[.int .i64 2, .int .i64 a1, .int .i64 a2, .int .i64 g0', .int .i64 g1, .int .i64 g2, .int .i64 g3, .int .i64 g4, .int .i64 g5, .int .i64 g6] 67 (0, 0))) (by kernel_rfl) ?_
    rw [← hW0]
    clear hW0 tb
    refine wpH_take (i := 0) (v := (.pointer (some ⟨b, 0, none⟩))) (some 90) rfl rfl (by kernel_rfl) (by kernel_rfl) (by kernel_rfl) (fun _ _ _ h => h) (Or.inl ⟨by rfl, fun w' hS => (by go_simp)⟩) S0 ?_
    try simp only [Go.Act.put, List.setIfInBounds_toArray, List.set_cons_zero, List.set_cons_succ]
    refine wpH_take (i := 1) (v := (.agg cs)) (some 91) rfl rfl (by kernel_rfl) (by kernel_rfl) (by kernel_rfl) (fun _ _ _ h => h) (Or.inl ⟨by rfl, fun w' hS => exec_loadT bigS _ rfl rfl hS.1 HN1.out⟩) S0 ?_
    try simp only [Go.Act.put, List.setIfInBounds_toArray, List.set_cons_zero, List.set_cons_succ]
    refine wpH_take (i := 2) (v := (.pointer (some ⟨b, 0, none⟩))) (some 92) rfl rfl (by kernel_rfl) (by kernel_rfl) (by kernel_rfl) (fun _ _ _ h => h) (Or.inl ⟨by rfl, fun w' hS => (by go_simp)⟩) S0 ?_
    try simp only [Go.Act.put, List.setIfInBounds_toArray, List.set_cons_zero, List.set_cons_succ]
    refine wpH_take (i := 3) (v := (.pointer (some ⟨w.heap.size + 1, 3, none⟩))) (some 93) rfl rfl (by kernel_rfl) (by kernel_rfl) (by kernel_rfl) (fun _ _ _ h => h) (Or.inl ⟨by rfl, fun w' hS => (by go_simp)⟩) S0 ?_
    try simp only [Go.Act.put, List.setIfInBounds_toArray, List.set_cons_zero, List.set_cons_succ]
    refine wpH_take (i := 4) (v := (.agg #[.int .i64 g0', .int .i64 g1, .int .i64 g2, .int .i64 g3, .int .i64 g4, .int .i64 g5, .int .i64 g6])) (some 94) rfl rfl (by kernel_rfl) (by kernel_rfl) (by kernel_rfl) (fun _ _ _ h => h) (Or.inl ⟨by rfl, fun w' hS => (by have z0 := F3 _ hS; have z1 := F4 _ hS; have z2 := F5 _ hS; have z3 := F6 _ hS; have z4 := F7 _ hS; have z5 := F8 _ hS; have z6 := F9 _ hS; go_simp)⟩) S0 ?_
    try simp only [Go.Act.put, List.setIfInBounds_toArray, List.set_cons_zero, List.set_cons_succ]
    refine wpH_take (i := 6) (v := (.bool false)) (some 96) rfl rfl (by kernel_rfl) (by kernel_rfl) (by kernel_rfl) (fun _ _ _ h => h) (Or.inl ⟨by rfl, fun w' hS => (by go_simp)⟩) S0 ?_
    try simp only [Go.Act.put, List.setIfInBounds_toArray, List.set_cons_zero, List.set_cons_succ]
    refine wpH_call (i := 5) (o := { dst := some 95, op := Op.call { callee := Callee.value (Operand.func 25), args := #[Operand.tmp 92, Operand.tmp 94], argTypes := #[50, 60] }, type := 23, pos := _, after := #[{ on := 2, ground := Ground.data }, { on := 4, ground := Ground.data }], guard := none }) (by kernel_rfl) rfl (fun K' hK => ?_)
    rw [if_pos (by rfl)]
    go_simp
    refine HU.out.mono ?_
    rintro e w5 ⟨rfl, t5⟩
    have S5 := And.intro (t5.keep S0.1 (by simp)) (t5.keep S0.2 (by simp))
    have B75 := hid (t5.keep B7'.out (by simp))
    have F5 := hid (HFI.out.touch t5)
    have T5 := hid (TW.out.trans t5 (fun k hk => by cases hk))
    clear t5
    refine hK.out _ _ S5 ?_
    clear hK
    try simp only [Go.Act.put, List.setIfInBounds_toArray, List.set_cons_zero, List.set_cons_succ]
    refine wpH_call (i := 7) (o := { dst := some 97, op := Op.call { callee := Callee.value (Operand.func 41), args := #[Operand.tmp 96, Operand.const (Value.int IntKind.i64 1)], argTypes := #[4, 23] }, type := 23, pos := _, after := #[{ on := 6, ground := Ground.data }, { on := 5, ground := Ground.chain }], guard := none }) (by kernel_rfl) rfl (fun K' hK => ?_)
    rw [if_pos (by rfl)]
    go_simp
    refine (HWT.out _).mono ?_
    rintro e w6 ⟨rfl, e6⟩
    rw [e6]
    clear e6 w6
    refine hK.out _ _ S5 ?_
    clear hK
    try simp only [Go.Act.put, List.setIfInBounds_toArray, List.set_cons_zero, List.set_cons_succ]
    refine wpH_take (i := 8) (v := (.bool true)) (some 98) rfl rfl (by kernel_rfl) (by kernel_rfl) (by kernel_rfl) (fun _ _ _ h => h) (Or.inl ⟨by rfl, fun w' hS => (by go_simp)⟩) S5 ?_
    try simp only [Go.Act.put, List.setIfInBounds_toArray, List.set_cons_zero, List.set_cons_succ]
    refine wpH_take (i := 9) (v := (.pointer (some ⟨b, 0, none⟩))) (some 6) rfl rfl (by kernel_rfl) (by kernel_rfl) (by kernel_rfl) (fun _ _ _ h => h) (Or.inl ⟨by rfl, fun w' hS => (by go_simp)⟩) S5 ?_
    try simp only [Go.Act.put, List.setIfInBounds_toArray, List.set_cons_zero, List.set_cons_succ]
    refine wpH_call (i := 10) (o := { dst := none, op := Op.store 63 (Operand.tmp 7) (Operand.tmp 91), type := 0, pos := _, after := #[{ on := 1, ground := Ground.data }, { on := 9, ground := Ground.chain }, { on := 0, ground := Ground.phase }, { on := 1, ground := Ground.phase }, { on := 2, ground := Ground.textOnly Departure.lateStores }, { on := 3, ground := Ground.textOnly Departure.lateStores }, { on := 4, ground := Ground.textOnly Departure.lateStores }, { on := 5, ground := Ground.textOnly Departure.lateStoresUnsure }, { on := 6, ground := Ground.textOnly Departure.lateStores }, { on := 7, ground := Ground.textOnly Departure.lateStoresUnsure }, { on := 8, ground := Ground.textOnly Departure.lateStores }, { on := 9, ground := Ground.phase }], guard := none }) (by kernel_rfl) rfl (fun K' hK => ?_)
    rw [if_pos (by rfl)]
    refine wp_storeT bigS (Operand.tmp 7) (Operand.tmp 91) rfl (w.heap.size + 2) _ cs 63 rfl rfl B75.out zs_size HN1.out HO1.out (fun w7 h7 t7 s7 => ?_)
    have S7 := And.intro (t7.keep S5.1 (by simp)) (t7.keep S5.2 (by simp))
    refine hK.out _ _ S7 ?_
    clear hK
    try simp only [Go.Act.put, List.setIfInBounds_toArray, List.set_cons_zero, List.set_cons_succ]
    refine wpH_take (i := 11) (v := (.bool true)) (some 8) rfl rfl (by kernel_rfl) (by kernel_rfl) (by kernel_rfl) (fun _ _ _ h => h) (Or.inl ⟨by rfl, fun w' hS => (by go_simp)⟩) S7 ?_
    try simp only [Go.Act.put, List.setIfInBounds_toArray, List.set_cons_zero, List.set_cons_succ]
    refine wpAnyH_done (by kernel_rfl) ?_ _
    go_wp2_with fail
    refine bodyPost_ret (results_one rfl _ _ rfl h7 HN1.out) rfl ?_
    exact ⟨b, pv, lv, _, _, _, _, _, rfl, F5.out.box B75.out t7, by simp, rfl, T5.out.trans t7 (fun k hk => Or.inr (by simp at hk; omega))⟩
  · go_enter Tryd.func18, Tryd.ntmps18
    go_upto_region 1 with fail
    rw [← hV]
    clear hV
    have v0 := cell_at (j := 0) B5.out rfl
    have v1 := cell_at (j := 1) B5.out rfl
    have v2 := cell_at (j := 2) B5.out rfl
    have v3 := cell_at (j := 3) B5.out rfl
    have v4 := cell_at (j := 4) B5.out rfl
    have v5 := cell_at (j := 5) B5.out rfl
    have v6 := cell_at (j := 6) B5.out rfl
    have v7 := cell_at (j := 7) B5.out rfl
    have v8 := cell_at (j := 8) B5.out rfl
    have v9 := cell_at (j := 9) B5.out rfl
    have HN1 : Hid (cs.size = 148) := hid HI.out.s.n
    have HO1 : Hid (cs.all (·.oneCell') = true) := hid (HI.out.s.one rfl hone.out)
    go_upto_region 18 with (first
      | (refine wpList_loadT bigS rfl _ rfl w.heap.size cs 63 (0, 0) rfl B4.out HI.out.s.n ?_)
      | (go_at_call 42; refine (HM.out _).mono ?_; rintro e w1 ⟨rfl, t1⟩; have T1 := hid t1; clear t1 v0 v1 v2 v3 v4 v5 v6 v7 v8 v9))
    obtain ⟨W0, hW0⟩ : ∃ W0, W0 = w1.drew := ⟨_, rfl⟩
    have tb : Touch [w.heap.size] w1 W0 := by rw [hW0]; exact (Touch.refl _ _).drew
    have S0 : (fun (w' : World) => w'.heap[w.heap.size]? = some (.cells cs 63 (0, 0)) ∧ w'.heap[w.heap.size + 1]? = some (.cells #[.int .i64 2, .int .i64 a1, .int .i64 a2, .int .i64 g0', .int .i64 g1, .int .i64 g2, .int .i64 g3, .int .i64 g4, .int .i64 g5, .int .i64 g6] 67 (0, 0))) W0 := And.intro (by rw [hW0]; exact T1.out.keep B4.out (by simp)) (tb.keep (T1.out.keep B5.out (by simp)) (by simp))
    dsimp only at S0
    have HFI := hid (((HI.out.touch TV.out).touch T1.out).box (T1.out.keep B4.out (by simp)) tb)
    have HU := hid (HU0.out W0 HFI.out.q)
    have TW : Hid (Touch (b :: lv.ownBlock.toList) w W0) := hid (((TV.out.trans' T1.out).mono (fun _ e => by cases e)).trans tb (fun k hk => Or.inr (by simp at hk; omega)))
    have B7' := hid (tb.keep (T1.out.keep B7.out (by simp)) (by simp))
    have F3 : ∀ w' : World, (w'.heap[w.heap.size]? = some (.cells cs 63 (0, 0)) ∧ w'.heap[w.heap.size + 1]? = some (.cells #[.int .i64 2, .int .i64 a1, .int .i64 a2, .int .i64 g0', .int .i64 g1, .int .i64 g2, .int .i64 g3, .int .i64 g4, .int .i64 g5, .int .i64 g6] 67 (0, 0))) → w'.cell? ⟨w.heap.size + 1, 3, none⟩ = some (.int .i64 g0') := fun w' h => cell_at h.2 rfl
    have F4 : ∀ w' : World, (w'.heap[w.heap.size]? = some (.cells cs 63 (0, 0)) ∧ w'.heap[w.heap.size + 1]? = some (.cells #[.int .i64 2, .int .i64 a1, .int .i64 a2, .int .i64 g0', .int .i64 g1, .int .i64 g2, .int .i64 g3, .int .i64 g4, .int .i64 g5, .int .i64 g6] 67 (0, 0))) → w'.cell? ⟨w.heap.size + 1, 4, none⟩ = some (.int .i64 g1) := fun w' h => cell_at h.2 rfl
    have F5 : ∀ w' : World, (w'.heap[w.heap.size]? = some (.cells cs 63 (0, 0)) ∧ w'.heap[w.heap.size + 1]? = some (.cells #[.int .i64 2, .int .i64 a1, .int .i64 a2, .int .i64 g0', .int .i64 g1, .int .i64 g2, .int .i64 g3, .int .i64 g4, .int .i64 g5, .int .i64 g6] 67 (0, 0))) → w'.cell? ⟨w.heap.size + 1, 5, none⟩ = some (.int .i64 g2) := fun w' h => cell_at h.2 rfl
    have F6 : ∀ w' : World, (w'.heap[w.heap.size]? = some (.cells cs 63 (0, 0)) ∧ w'.heap[w.heap.size + 1]? = some (.cells #[.int .i64 2, .int .i64 a1, .int .i64 a2, .int .i64 g0', .int .i64 g1, .int .i64 g2, .int .i64 g3, .int .i64 g4, .int .i64 g5, .int .i64 g6] 67 (0, 0))) → w'.cell? ⟨w.heap.size + 1, 6, none⟩ = some (.int .i64 g3) := fun w' h => cell_at h.2 rfl
    have F7 : ∀ w' : World, (w'.heap[w.heap.size]? = some (.cells cs 63 (0, 0)) ∧ w'.heap[w.heap.size + 1]? = some (.cells #[.int .i64 2, .int .i64 a1, .int .i64 a2, .int .i64 g0', .int .i64 g1, .int .i64 g2, .int .i64 g3, .int .i64 g4, .int .i64 g5, .int .i64 g6] 67 (0, 0))) → w'.cell? ⟨w.heap.size + 1, 7, none⟩ = some (.int .i64 g4) := fun w' h => cell_at h.2 rfl
    have F8 : ∀ w' : World, (w'.heap[w.heap.size]? = some (.cells cs 63 (0, 0)) ∧ w'.heap[w.heap.size + 1]? = some (.cells #[.int .i64 2, .int .i64 a1, .int .i64 a2, .int .i64 g0', .int .i64 g1, .int .i64 g2, .int .i64 g3, .int .i64 g4, .int .i64 g5, .int .i64 g6] 67 (0, 0))) → w'.cell? ⟨w.heap.size + 1, 8, none⟩ = some (.int .i64 g5) := fun w' h => cell_at h.2 rfl
    have F9 : ∀ w' : World, (w'.heap[w.heap.size]? = some (.cells cs 63 (0, 0)) ∧ w'.heap[w.heap.size + 1]? = some (.cells #[.int .i64 2, .int .i64 a1, .int .i64 a2, .int .i64 g0', .int .i64 g1, .int .i64 g2, .int .i64 g3, .int .i64 g4, .int .i64 g5, .int .i64 g6] 67 (0, 0))) → w'.cell? ⟨w.heap.size + 1, 9, none⟩ = some (.int .i64 g6) := fun w' h => cell_at h.2 rfl
    refine wp_region_H (S := fun (w' : World) => w'.heap[w.heap.size]? = some (.cells cs 63 (0, 0)) ∧ w'.heap[w.heap.size + 1]? = some (.cells #[.int .i64 2, .int .i64 a1, .int .i64 a2, .int .i64 g0', .int .i64 g1, .int .i64 g2, .int .i64 g3, .int .i64 g4, .int .i64 g5, .int .i64 g6] 67 (0, 0))) (by kernel_rfl) ?_
    rw [← hW0]
    clear hW0 tb
    refine wpH_take (i := 0) (v := (.pointer (some ⟨b, 0, none⟩))) (some 90) rfl rfl (by kernel_rfl) (by kernel_rfl) (by kernel_rfl) (fun _ _ _ h => h) (Or.inl ⟨by rfl, fun w' hS => (by go_simp)⟩) S0 ?_
    try simp only [Go.Act.put, List.setIfInBounds_toArray, List.set_cons_zero, List.set_cons_succ]
    refine wpH_take (i := 1) (v := (.agg cs)) (some 91) rfl rfl (by kernel_rfl) (by kernel_rfl) (by kernel_rfl) (fun _ _ _ h => h) (Or.inl ⟨by rfl, fun w' hS => exec_loadT bigS _ rfl rfl hS.1 HN1.out⟩) S0 ?_
    try simp only [Go.Act.put, List.setIfInBounds_toArray, List.set_cons_zero, List.set_cons_succ]
    refine wpH_take (i := 2) (v := (.pointer (some ⟨b, 0, none⟩))) (some 92) rfl rfl (by kernel_rfl) (by kernel_rfl) (by kernel_rfl) (fun _ _ _ h => h) (Or.inl ⟨by rfl, fun w' hS => (by go_simp)⟩) S0 ?_
    try simp only [Go.Act.put, List.setIfInBounds_toArray, List.set_cons_zero, List.set_cons_succ]
    refine wpH_take (i := 3) (v := (.pointer (some ⟨w.heap.size + 1, 3, none⟩))) (some 93) rfl rfl (by kernel_rfl) (by kernel_rfl) (by kernel_rfl) (fun _ _ _ h => h) (Or.inl ⟨by rfl, fun w' hS => (by go_simp)⟩) S0 ?_
    try simp only [Go.Act.put, List.setIfInBounds_toArray, List.set_cons_zero, List.set_cons_succ]
    refine wpH_take (i := 4) (v := (.agg #[.int .i64 g0', .int .i64 g1, .int .i64 g2, .int .i64 g3, .int .i64 g4, .int .i64 g5, .int .i64 g6])) (some 94) rfl rfl (by kernel_rfl) (by kernel_rfl) (by kernel_rfl) (fun _ _ _ h => h) (Or.inl ⟨by rfl, fun w' hS => (by have z0 := F3 _ hS; have z1 := F4 _ hS; have z2 := F5 _ hS; have z3 := F6 _ hS; have z4 := F7 _ hS; have z5 := F8 _ hS; have z6 := F9 _ hS; go_simp)⟩) S0 ?_
    try simp only [Go.Act.put, List.setIfInBounds_toArray, List.set_cons_zero, List.set_cons_succ]
    refine wpH_take (i := 6) (v := (.bool false)) (some 96) rfl rfl (by kernel_rfl) (by kernel_rfl) (by kernel_rfl) (fun _ _ _ h => h) (Or.inl ⟨by rfl, fun w' hS => (by go_simp)⟩) S0 ?_
    try simp only [Go.Act.put, List.setIfInBounds_toArray, List.set_cons_zero, List.set_cons_succ]
    refine wpH_call (i := 5) (o := { dst := some 95, op := Op.call { callee := Callee.value (Operand.func 25), args := #[Operand.tmp 92, Operand.tmp 94], argTypes := #[50, 60] }, type := 23, pos := _, after := #[{ on := 2, ground := Ground.data }, { on := 4, ground := Ground.data }], guard := none }) (by kernel_rfl) rfl (fun K' hK => ?_)
    rw [if_pos (by rfl)]
    go_simp
    refine HU.out.mono ?_
    rintro e w5 ⟨rfl, t5⟩
    have S5 := And.intro (t5.keep S0.1 (by simp)) (t5.keep S0.2 (by simp))
    have B75 := hid (t5.keep B7'.out (by simp))
    have F5 := hid (HFI.out.touch t5)
    have T5 := hid (TW.out.trans t5 (fun k hk => by cases hk))
    clear t5
    refine hK.out _ _ S5 ?_
    clear hK
    try simp only [Go.Act.put, List.setIfInBounds_toArray, List.set_cons_zero, List.set_cons_succ]
    refine wpH_call (i := 7) (o := { dst := some 97, op := Op.call { callee := Callee.value (Operand.func 41), args := #[Operand.tmp 96, Operand.const (Value.int IntKind.i64 1)], argTypes := #[4, 23] }, type := 23, pos := _, after := #[{ on := 6, ground := Ground.data }, { on := 5, ground := Ground.chain }], guard := none }) (by kernel_rfl) rfl (fun K' hK => ?_)
    rw [if_pos (by rfl)]
    go_simp
    refine (HWT.out _).mono ?_
    rintro e w6 ⟨rfl, e6⟩
    rw [e6]
    clear e6 w6
    refine hK.out _ _ S5 ?_
    clear hK
    try simp only [Go.Act.put, List.setIfInBounds_toArray, List.set_cons_zero, List.set_cons_succ]
    refine wpH_take (i := 8) (v := (.bool true)) (some 98) rfl rfl (by kernel_rfl) (by kernel_rfl) (by kernel_rfl) (fun _ _ _ h => h) (Or.inl ⟨by rfl, fun w' hS => (by go_simp)⟩) S5 ?_
    try simp only [Go.Act.put, List.setIfInBounds_toArray, List.set_cons_zero, List.set_cons_succ]
    refine wpH_take (i := 9) (v := (.pointer (some ⟨b, 0, none⟩))) (some 6) rfl rfl (by kernel_rfl) (by kernel_rfl) (by kernel_rfl) (fun _ _ _ h => h) (Or.inl ⟨by rfl, fun w' hS => (by go_simp)⟩) S5 ?_
    try simp only [Go.Act.put, List.setIfInBounds_toArray, List.set_cons_zero, List.set_cons_succ]
    refine wpH_call (i := 10) (o := { dst := none, op := Op.store 63 (Operand.tmp 7) (Operand.tmp 91), type := 0, pos := _, after := #[{ on := 1, ground := Ground.data }, { on := 9, ground := Ground.chain }, { on := 0, ground := Ground.phase }, { on := 1, ground := Ground.phase }, { on := 2, ground := Ground.textOnly Departure.lateStores }, { on := 3, ground := Ground.textOnly Departure.lateStores }, { on := 4, ground := Ground.textOnly Departure.lateStores }, { on := 5, ground := Ground.textOnly Departure.lateStoresUnsure }, { on := 6, ground := Ground.textOnly Departure.lateStores }, { on := 7, ground := Ground.textOnly Departure.lateStoresUnsure }, { on := 8, ground := Ground.textOnly Departure.lateStores }, { on := 9, ground := Ground.phase }], guard := none }) (by kernel_rfl) rfl (fun K' hK => ?_)
    rw [if_pos (by rfl)]
    refine wp_storeT bigS (Operand.tmp 7) (Operand.tmp 91) rfl (w.heap.size + 2) _ cs 63 rfl rfl B75.out zs_size HN1.out HO1.out (fun w7 h7 t7 s7 => ?_)
    have S7 := And.intro (t7.keep S5.1 (by simp)) (t7.keep S5.2 (by simp))
    refine hK.out _ _ S7 ?_
    clear hK
    try simp only [Go.Act.put, List.setIfInBounds_toArray, List.set_cons_zero, List.set_cons_succ]
    refine wpH_take (i := 11) (v := (.bool true)) (some 8) rfl rfl (by kernel_rfl) (by kernel_rfl) (by kernel_rfl) (fun _ _ _ h => h) (Or.inl ⟨by rfl, fun w' hS => (by go_simp)⟩) S7 ?_
    try simp only [Go.Act.put, List.setIfInBounds_toArray, List.set_cons_zero, List.set_cons_succ]
    refine wpAnyH_done (by kernel_rfl) ?_ _
    go_wp2_with fail
    refine bodyPost_ret (results_one rfl _ _ rfl h7 HN1.out) rfl ?_
    exact ⟨b, pv, lv, _, _, _, _, _, rfl, F5.out.box B75.out t7, by simp, rfl, T5.out.trans t7 (fun k hk => Or.inr (by simp at hk; omega))⟩
set_option maxHeartbeats 8000000 in
set_option maxRecDepth 20000 in
theorem one_had_ok (h : Iv B w b pv lv cs pv2 lv2 S T) (a1 a2 : Int) (g : Gz) (hl : S.log.length ≤ 2000000000000) (hm : mayG T.L.length g = true) : Calls Tryd.prog 18 #[.pointer (some ⟨b, 0, none⟩), .agg cs, actv 2 a1 a2 g] w fun e w' => OnE e w w' B b lv S := by
  have HI := hid h
  have hb := h.q.lt
  obtain ⟨ap, cp, e2⟩ := own_form h.p2
  subst e2
  have hone : Hid (lv2.oneCell' = true) := hid (by obtain ⟨a, c, e⟩ := own_form h.g2; rw [e]; rfl)
  have HM : Hid (∀ W, Calls Tryd.prog 42 #[.agg cs, .agg #[.int .i64 g.pl, .int .i64 g.ho, .int .i64 g.va, .int .i64 g.kd, .int .i64 g.cd, .int .i64 g.rn, .int .i64 g.tm]] W fun e w' => e = .returned (.bool true) ∧ Touch [] W w') := hid (fun W => (smay_ h.s (by rw [h.r.L]; exact h.q.len) g W).mono fun e w'' q => by rw [hm] at q; exact q)
  have HU0 : Hid (∀ W0, Cq W0 b pv lv S → _) := hid (fun W0 q => had_ok q g hl (by rw [← h.r.L]; exact hm))
  have HWT : Hid (∀ W, Calls Tryd.prog 41 #[.bool true, .int .i64 1] W fun e w' => e = .returned (.int .i64 0) ∧ w' = W) := hid (fun W => want_ W true 1)
  have HLE : Hid (T.log.length ≤ 2000000000000) := hid (by rw [h.r.log]; exact hl)
  have HLV : Hid (∀ k, lv.ownBlock = some k → k < w.heap.size) := hid (fun k hk => (h.q.lg.lt k hk).2)
  have HNI : Hid (∀ m, w.heap.size ≤ m → ¬ m ∈ b :: lv.ownBlock.toList) := hid (fun m hm he => by
    rcases List.mem_cons.1 he with e | e
    · omega
    · have := HLV.out m (Option.mem_toList.1 e)
      omega)
  obtain ⟨a2', c2', e3⟩ := own_form h.g2
  subst e3
  have HL3 := hid h.s.c3
  clear h hm hl
  obtain ⟨g0', g1, g2, g3, g4, g5, g6⟩ := g
  unfold actv
  dsimp only at *
  obtain ⟨V, hV⟩ : ∃ V, V = ((w.alloc (.cells cs 63)).alloc (.cells #[.int .i64 2, .int .i64 a1, .int .i64 a2, .int .i64 g0', .int .i64 g1, .int .i64 g2, .int .i64 g3, .int .i64 g4, .int .i64 g5, .int .i64 g6] 67)).alloc (.cells Tryd.zeroCells63 63) := ⟨_, rfl⟩
  have TV : Hid (Touch [] w V) := hid (by rw [hV]; exact (((Touch.refl _ _).alloc _).alloc _).alloc _)
  have B4 : Hid (V.heap[w.heap.size]? = some (.cells cs 63 (0, 0))) := hid (by rw [hV]; exact (((Touch.refl [] _).alloc _).alloc _).keep (heap_alloc_new w _) (by simp))
  have B5 : Hid (V.heap[w.heap.size + 1]? = some (.cells #[.int .i64 2, .int .i64 a1, .int .i64 a2, .int .i64 g0', .int .i64 g1, .int .i64 g2, .int .i64 g3, .int .i64 g4, .int .i64 g5, .int .i64 g6] 67 (0, 0))) := hid (by
    rw [hV]
    have := heap_alloc_new (w.alloc (.cells cs 63)) (.cells #[.int .i64 2, .int .i64 a1, .int .i64 a2, .int .i64 g0', .int .i64 g1, .int .i64 g2, .int .i64 g3, .int .i64 g4, .int .i64 g5, .int .i64 g6] 67)
    rw [World.size_alloc] at this
    exact ((Touch.refl [] _).alloc _).keep this (by simp))
  have B7 : Hid (V.heap[w.heap.size + 2]? = some (.cells Tryd.zeroCells63 63 (0, 0))) := hid (by
    rw [hV]
    have := heap_alloc_new ((w.alloc (.cells cs 63)).alloc (.cells #[.int .i64 2, .int .i64 a1, .int .i64 a2, .int .i64 g0', .int .i64 g1, .int .i64 g2, .int .i64 g3, .int .i64 g4, .int .i64 g5, .int .i64 g6] 67)) (.cells Tryd.zeroCells63 63)
    rwa [World.size_alloc, World.size_alloc] at this)
  have key : (0 ≤ a1 ∧ a1 < 16) ∨ (decide (0 ≤ a1) = false) ∨ (0 ≤ a1 ∧ decide (a1 < 16) = false) := by simp only [decide_eq_false_iff_not]; omega
  rcases key with ⟨k0, k1⟩ | k9 | ⟨k0, k9⟩
  · go_enter Tryd.func18, Tryd.ntmps18
    go_upto_region 1 with fail
    rw [← hV]
    clear hV
    have v0 := cell_at (j := 0) B5.out rfl
    have v1 := cell_at (j := 1) B5.out rfl
    have v2 := cell_at (j := 2) B5.out rfl
    have v3 := cell_at (j := 3) B5.out rfl
    have v4 := cell_at (j := 4) B5.out rfl
    have v5 := cell_at (j := 5) B5.out rfl
    have v6 := cell_at (j := 6) B5.out rfl
    have v7 := cell_at (j := 7) B5.out rfl
    have v8 := cell_at (j := 8) B5.out rfl
    have v9 := cell_at (j := 9) B5.out rfl
    go_upto_region 17 with (first
      | (refine wpList_loadT bigS rfl _ rfl w.heap.size cs 63 (0, 0) rfl B4.out HI.out.s.n ?_)
      | (go_at_call 42; refine (HM.out _).mono ?_; rintro e w1 ⟨rfl, t1⟩; have T1 := hid t1; clear t1 v0 v1 v2 v3 v4 v5 v6 v7 v8 v9))
    obtain ⟨W4, hW4⟩ : ∃ W4, W4 = w1 := ⟨_, rfl⟩
    rw [← hW4] at T1 ⊢
    clear hW4
    go_cut [] from 81 to 89 (fun wx => Hid (HadX B b w pv lv (.slice ap T.L.length cp) S T a1 a2 g0' g1 g2 g3 g4 g5 g6 wx))
    case first =>
      have FI := (HI.out.touch TV.out).touch T1.out
      have b4 := T1.out.keep B4.out (by simp)
      have b5 := T1.out.keep B5.out (by simp)
      have b7 := T1.out.keep B7.out (by simp)
      have hz := T1.out.size
      have hz2 := TV.out.size
      have HFN : Hid (∀ (C : World) (v : Value), Touch [] W4 C → C.ownsRow W4.heap.size 60 7 v (T.log ++ [(⟨g0', g1, g2, g3, g4, g5, g6⟩ : Gz)]).length (cellsG (T.log ++ [(⟨g0', g1, g2, g3, g4, g5, g6⟩ : Gz)])) → Hid (HadX B b w pv lv (.slice ap T.L.length cp) S T a1 a2 g0' g1 g2 g3 g4 g5 g6 (C.setCell ⟨w.heap.size, 3, none⟩ v))) := hid (fun C v tC o => by
        have ts : Touch [w.heap.size] C (C.setCell ⟨w.heap.size, 3, none⟩ v) := (Touch.refl _ C).setCell (Or.inl (by simp)) _
        have c4 := tC.keep b4 (by simp)
        have hzC := tC.size
        have hsc := HI.out.s.setLog v (T.log ++ [(⟨g0', g1, g2, g3, g4, g5, g6⟩ : Gz)])
        obtain ⟨ao, co, eo⟩ := own_form o
        have FI0 := (FI.touch tC).box c4 ts
        exact hid ⟨_, v, bset c4 _, ts.keep (tC.keep b5 (by simp)) (by simp), ts.keep (tC.keep b7 (by simp)) (by simp), (((TV.out.trans' T1.out).trans' tC).mono (fun _ e => by cases e)).trans ts (fun k hk => Or.inr (by simp at hk; omega)), hsc, hsc.one rfl (by rw [eo]; rfl), FI0.q, fun w5 v' q t hv => FI0.had (by have := FI0.bb; have := FI0.q.lt; omega) (fun k hk => by have := HLV.out k hk; omega) (own_touch o ts (kind_ne o c4 (by decide))) hsc q t hv⟩)
      have HRD : Hid (∀ w', Touch [] W4 w' → Rs 60 7 w' (.slice a2' T.log.length c2') T.log.length (cellsG T.log)) := hid (fun w' t => Rs.of_own ((FI.touch t).g2))
      have HN4 : Hid (∀ w', Touch [] W4 w' → w'.cell? ⟨w.heap.size, 3, none⟩ = some (.slice a2' T.log.length c2') ∧ ∀ j, w'.frozen? ⟨w.heap.size, j, none⟩ = false) := hid (fun w' t => ⟨cell_at (t.keep b4 (by simp)) HL3.out, froz_at (t.keep b4 (by simp))⟩)
      have C3 : ∀ w', Touch [] W4 w' → w'.cell? ⟨w.heap.size, 3, none⟩ = some (.slice a2' T.log.length c2') := fun w' t => (HN4.out w' t).1
      have X0 : ∀ w', Touch [] W4 w' → w'.cell? ⟨w.heap.size + 1, 3, none⟩ = some (.int .i64 g0') := fun w' t => cell_at (t.keep b5 (by simp)) rfl
      have X1 : ∀ w', Touch [] W4 w' → w'.cell? ⟨w.heap.size + 1, 4, none⟩ = some (.int .i64 g1) := fun w' t => cell_at (t.keep b5 (by simp)) rfl
      have X2 : ∀ w', Touch [] W4 w' → w'.cell? ⟨w.heap.size + 1, 5, none⟩ = some (.int .i64 g2) := fun w' t => cell_at (t.keep b5 (by simp)) rfl
      have X3 : ∀ w', Touch [] W4 w' → w'.cell? ⟨w.heap.size + 1, 6, none⟩ = some (.int .i64 g3) := fun w' t => cell_at (t.keep b5 (by simp)) rfl
      have X4 : ∀ w', Touch [] W4 w' → w'.cell? ⟨w.heap.size + 1, 7, none⟩ = some (.int .i64 g4) := fun w' t => cell_at (t.keep b5 (by simp)) rfl
      have X5 : ∀ w', Touch [] W4 w' → w'.cell? ⟨w.heap.size + 1, 8, none⟩ = some (.int .i64 g5) := fun w' t => cell_at (t.keep b5 (by simp)) rfl
      have X6 : ∀ w', Touch [] W4 w' → w'.cell? ⟨w.heap.size + 1, 9, none⟩ = some (.int .i64 g6) := fun w' t => cell_at (t.keep b5 (by simp)) rfl
      clear FI b4 b5 b7 hz hz2
      refine wp_region_L (S := fun w' => Touch [] W4 w') (st := 9) (by kernel_rfl) ?_
      obtain ⟨D0, hD0⟩ : ∃ D0, D0 = W4.drew := ⟨_, rfl⟩
      rw [← hD0]
      have q0 : SiG W4 D0 (⟨g0', g1, g2, g3, g4, g5, g6⟩ : Gz) none none := ⟨by rw [hD0]; exact (Touch.refl _ _).drew, fun _ _ e => (by cases e), fun _ e => (by cases e), fun _ _ _ _ e => (by cases e)⟩
      have k0 := q0.t
      clear hD0
      refine wpL_take (i := 1) (v := (.pointer (some ⟨w.heap.size, 3, none⟩))) (some 82) rfl rfl (by kernel_rfl) (by kernel_rfl) (by kernel_rfl) (by kernel_rfl) (by kernel_rfl) (by decide) (fun _ _ _ h => h) (Or.inl ⟨by rfl, fun w' hS => (by go_simp)⟩) k0 ?_
      try simp only [Go.Act.put, List.setIfInBounds_toArray, List.set_cons_zero, List.set_cons_succ]
      refine wpL_take (i := 2) (v := (.slice a2' T.log.length c2')) (some 83) rfl rfl (by kernel_rfl) (by kernel_rfl) (by kernel_rfl) (by kernel_rfl) (by kernel_rfl) (by decide) (fun _ _ _ h => h) (Or.inl ⟨by rfl, fun w' hS => (by have z0 := C3 _ hS; go_simp)⟩) k0 ?_
      try simp only [Go.Act.put, List.setIfInBounds_toArray, List.set_cons_zero, List.set_cons_succ]
      refine wpL_take (i := 4) (v := (.pointer (some ⟨w.heap.size + 1, 3, none⟩))) (some 85) rfl rfl (by kernel_rfl) (by kernel_rfl) (by kernel_rfl) (by kernel_rfl) (by kernel_rfl) (by decide) (fun _ _ _ h => h) (Or.inl ⟨by rfl, fun w' hS => (by go_simp)⟩) k0 ?_
      try simp only [Go.Act.put, List.setIfInBounds_toArray, List.set_cons_zero, List.set_cons_succ]
      refine wpL_take (i := 5) (v := (.agg #[.int .i64 g0', .int .i64 g1, .int .i64 g2, .int .i64 g3, .int .i64 g4, .int .i64 g5, .int .i64 g6])) (some 86) rfl rfl (by kernel_rfl) (by kernel_rfl) (by kernel_rfl) (by kernel_rfl) (by kernel_rfl) (by decide) (fun _ _ _ h => h) (Or.inl ⟨by rfl, fun w' hS => (by have z0 := X0 _ hS; have z1 := X1 _ hS; have z2 := X2 _ hS; have z3 := X3 _ hS; have z4 := X4 _ hS; have z5 := X5 _ hS; have z6 := X6 _ hS; go_simp)⟩) k0 ?_
      try simp only [Go.Act.put, List.setIfInBounds_toArray, List.set_cons_zero, List.set_cons_succ]
      refine wpL_ready (rs := [0, 6]) (by kernel_rfl) (by simp) ?_
      refine AllL.cons (o := { dst := some 81, op := Op.buildSlice 53 0 #[], type := 53, pos := _, after := #[], guard := none }) rfl (fun K' hK => ?_) ?_
      · rw [if_pos (by rfl)]
        go_simp
        refine hK.out _ _ (fun _ => (k0.alloc _)) ?_
        clear hK
        try simp only [Go.Act.put, List.setIfInBounds_toArray, List.set_cons_zero, List.set_cons_succ]
        have q1 := q0.new0
        obtain ⟨E1, hE1⟩ : ∃ E, E = D0.alloc (.cells #[] 60) := ⟨_, rfl⟩
        rw [← hE1] at q1 ⊢
        clear hE1
        have k1 := q1.t
        refine wpL_ready (rs := [3, 6]) (by kernel_rfl) (by simp) ?_
        refine AllL.cons (o := { dst := some 84, op := Op.call { callee := Callee.builtin Builtin.append, args := #[Operand.tmp 81, Operand.tmp 83], argTypes := #[53, 53] }, type := 53, pos := _, after := #[{ on := 0, ground := Ground.data }, { on := 2, ground := Ground.data }], guard := none }) rfl (fun K' hK => ?_) ?_
        · rw [if_pos (by rfl)]
          refine wp_append_rs _ _ 53 60 rfl _ 7 56 infoG Tryd.underlying53 rfl (by decide) W4.heap.size (.slice (some ⟨D0.heap.size, 0, none⟩) 0 0) 0 [] rfl (q1.row _ _ rfl) (.slice a2' T.log.length c2') T.log.length (cellsG T.log) rfl (HRD.out _ k1) (cellsG_one _) (by have := HLE.out; unfold maxLen; omega) (by have := HLE.out; omega) k1.size ?_
          intro v2 w2 o2 g2' p2
          rw [Nat.zero_add, List.nil_append] at o2
          obtain ⟨a2, c2, e2⟩ := own_form o2
          subst e2
          have q2 := q1.app (n := 0) (xs := []) (A5 := T.log) o2 g2' p2
          have k2 := q2.t
          clear o2 g2' p2
          refine hK.out _ _ (fun _ => k2) ?_
          clear hK
          try simp only [Go.Act.put, List.setIfInBounds_toArray, List.set_cons_zero, List.set_cons_succ]
          refine wpL_ready (rs := [6]) (by kernel_rfl) (by simp) (AllL.cons (o := { dst := some 87, op := Op.buildSlice 53 1 #[(0, Operand.tmp 86)], type := 53, pos := _, after := #[{ on := 5, ground := Ground.data }], guard := none }) rfl (fun K' hK => ?_) AllL.nil)
          rw [if_pos (by rfl)]
          go_simp
          refine hK.out _ _ (fun _ => (k2.alloc _)) ?_
          clear hK
          try simp only [Go.Act.put, List.setIfInBounds_toArray, List.set_cons_zero, List.set_cons_succ]
          have q3 := q2.newx
          obtain ⟨E3, hE3⟩ : ∃ E, E = w2.alloc (.cells #[.int .i64 g0', .int .i64 g1, .int .i64 g2, .int .i64 g3, .int .i64 g4, .int .i64 g5, .int .i64 g6] 60) := ⟨_, rfl⟩
          dsimp only at q3
          rw [← hE3] at q3 ⊢
          clear hE3
          have k3 := q3.t
          refine wpL_ready (rs := [7]) (by kernel_rfl) (by simp) (AllL.cons (o := { dst := some 88, op := Op.call { callee := Callee.builtin Builtin.append, args := #[Operand.tmp 84, Operand.tmp 87], argTypes := #[53, 53] }, type := 53, pos := _, after := #[{ on := 3, ground := Ground.data }, { on := 6, ground := Ground.data }, { on := 3, ground := Ground.chain }], guard := none }) rfl (fun K' hK => ?_) AllL.nil)
          rw [if_pos (by rfl)]
          refine wp_append_rs _ _ 53 60 rfl _ 7 56 infoG Tryd.underlying53 rfl (by decide) W4.heap.size (.slice a2 T.log.length c2) T.log.length (cellsG T.log) rfl (q3.row _ _ rfl) (.slice (some ⟨w2.heap.size, 0, none⟩) 1 1) 1 (Gz.cells (⟨g0', g1, g2, g3, g4, g5, g6⟩ : Gz)) rfl (q3.one _ rfl).1 (by simp [Gz.cells, Value.oneCell']) (by have := HLE.out; unfold maxLen; omega) (by have := HLE.out; omega) k3.size ?_
          intro v4 w4 o4 g4' p4
          obtain ⟨a4, c4, e4⟩ := own_form o4
          subst e4
          have q4 := q3.app (n := 0) (xs := []) (A5 := T.log ++ [(⟨g0', g1, g2, g3, g4, g5, g6⟩ : Gz)]) (by rw [cellsG_snoc, List.length_append]; exact o4) g4' p4
          have k4 := q4.t
          clear o4 g4' p4
          refine hK.out _ _ (fun _ => k4) ?_
          clear hK
          try simp only [Go.Act.put, List.setIfInBounds_toArray, List.set_cons_zero, List.set_cons_succ]
          refine wpL_take (i := 8) (v := (.pointer (some ⟨w.heap.size, 3, none⟩))) (some 89) rfl rfl (by kernel_rfl) (by kernel_rfl) (by kernel_rfl) (by kernel_rfl) (by kernel_rfl) (by decide) (fun _ _ _ h => h) (Or.inl ⟨by rfl, fun w' hS => (by go_simp)⟩) k4 ?_
          try simp only [Go.Act.put, List.setIfInBounds_toArray, List.set_cons_zero, List.set_cons_succ]
          refine wpL_ready (rs := [9]) (by kernel_rfl) (by simp) (AllL.cons (o := { dst := none, op := Op.store 53 (Operand.tmp 89) (Operand.tmp 88), type := 0, pos := _, after := #[{ on := 8, ground := Ground.data }, { on := 7, ground := Ground.data }, { on := 7, ground := Ground.chain }, { on := 0, ground := Ground.phase }, { on := 1, ground := Ground.phase }, { on := 2, ground := Ground.phase }, { on := 3, ground := Ground.phase }, { on := 4, ground := Ground.phase }, { on := 5, ground := Ground.phase }, { on := 6, ground := Ground.phase }, { on := 7, ground := Ground.phase }], guard := none }) rfl (fun K' hK => ?_) AllL.nil)
          rw [if_pos (by rfl)]
          obtain ⟨y0, yf⟩ := HN4.out _ k4
          have HQ := hid (HFN.out w4 (.slice a4 (T.log.length + 1) c4) k4 (q4.row _ _ rfl))
          clear C3 X0 X1 X2 X3 X4 X5 X6 HRD HFN HN4
          go_simp
          refine hK.out _ _ (fun h => absurd h (by decide)) ?_
          clear hK
          try simp only [Go.Act.put, List.setIfInBounds_toArray, List.set_cons_zero, List.set_cons_succ]
          refine wpL_done (by kernel_rfl) ?_ _
          go_wp2_with fail
          go_meet
          case rel =>
            exact HQ.out
        refine AllL.cons (o := { dst := some 87, op := Op.buildSlice 53 1 #[(0, Operand.tmp 86)], type := 53, pos := _, after := #[{ on := 5, ground := Ground.data }], guard := none }) rfl (fun K' hK => ?_) ?_
        · rw [if_pos (by rfl)]
          go_simp
          refine hK.out _ _ (fun _ => (k1.alloc _)) ?_
          clear hK
          try simp only [Go.Act.put, List.setIfInBounds_toArray, List.set_cons_zero, List.set_cons_succ]
          have q6 := q1.newx
          obtain ⟨E6, hE6⟩ : ∃ E, E = E1.alloc (.cells #[.int .i64 g0', .int .i64 g1, .int .i64 g2, .int .i64 g3, .int .i64 g4, .int .i64 g5, .int .i64 g6] 60) := ⟨_, rfl⟩
          dsimp only at q6
          rw [← hE6] at q6 ⊢
          clear hE6
          have k6 := q6.t
          refine wpL_ready (rs := [3]) (by kernel_rfl) (by simp) (AllL.cons (o := { dst := some 84, op := Op.call { callee := Callee.builtin Builtin.append, args := #[Operand.tmp 81, Operand.tmp 83], argTypes := #[53, 53] }, type := 53, pos := _, after := #[{ on := 0, ground := Ground.data }, { on := 2, ground := Ground.data }], guard := none }) rfl (fun K' hK => ?_) AllL.nil)
          rw [if_pos (by rfl)]
          refine wp_append_rs _ _ 53 60 rfl _ 7 56 infoG Tryd.underlying53 rfl (by decide) W4.heap.size (.slice (some ⟨D0.heap.size, 0, none⟩) 0 0) 0 [] rfl (q6.row _ _ rfl) (.slice a2' T.log.length c2') T.log.length (cellsG T.log) rfl (HRD.out _ k6) (cellsG_one _) (by have := HLE.out; unfold maxLen; omega) (by have := HLE.out; omega) k6.size ?_
          intro v7 w7 o7 g7' p7
          rw [Nat.zero_add, List.nil_append] at o7
          obtain ⟨a7, c7, e7⟩ := own_form o7
          subst e7
          have q7 := q6.app (n := 0) (xs := []) (A5 := T.log) o7 g7' p7
          have k7 := q7.t
          clear o7 g7' p7
          refine hK.out _ _ (fun _ => k7) ?_
          clear hK
          try simp only [Go.Act.put, List.setIfInBounds_toArray, List.set_cons_zero, List.set_cons_succ]
          refine wpL_ready (rs := [7]) (by kernel_rfl) (by simp) (AllL.cons (o := { dst := some 88, op := Op.call { callee := Callee.builtin Builtin.append, args := #[Operand.tmp 84, Operand.tmp 87], argTypes := #[53, 53] }, type := 53, pos := _, after := #[{ on := 3, ground := Ground.data }, { on := 6, ground := Ground.data }, { on := 3, ground := Ground.chain }], guard := none }) rfl (fun K' hK => ?_) AllL.nil)
          rw [if_pos (by rfl)]
          refine wp_append_rs _ _ 53 60 rfl _ 7 56 infoG Tryd.underlying53 rfl (by decide) W4.heap.size (.slice a7 T.log.length c7) T.log.length (cellsG T.log) rfl (q7.row _ _ rfl) (.slice (some ⟨E1.heap.size, 0, none⟩) 1 1) 1 (Gz.cells (⟨g0', g1, g2, g3, g4, g5, g6⟩ : Gz)) rfl (q7.one _ rfl).1 (by simp [Gz.cells, Value.oneCell']) (by have := HLE.out; unfold maxLen; omega) (by have := HLE.out; omega) k7.size ?_
          intro v8 w8 o8 g8' p8
          obtain ⟨a8, c8, e8⟩ := own_form o8
          subst e8
          have q8 := q7.app (n := 0) (xs := []) (A5 := T.log ++ [(⟨g0', g1, g2, g3, g4, g5, g6⟩ : Gz)]) (by rw [cellsG_snoc, List.length_append]; exact o8) g8' p8
          have k8 := q8.t
          clear o8 g8' p8
          refine hK.out _ _ (fun _ => k8) ?_
          clear hK
          try simp only [Go.Act.put, List.setIfInBounds_toArray, List.set_cons_zero, List.set_cons_succ]
          refine wpL_take (i := 8) (v := (.pointer (some ⟨w.heap.size, 3, none⟩))) (some 89) rfl rfl (by kernel_rfl) (by kernel_rfl) (by kernel_rfl) (by kernel_rfl) (by kernel_rfl) (by decide) (fun _ _ _ h => h) (Or.inl ⟨by rfl, fun w' hS => (by go_simp)⟩) k8 ?_
          try simp only [Go.Act.put, List.setIfInBounds_toArray, List.set_cons_zero, List.set_cons_succ]
          refine wpL_ready (rs := [9]) (by kernel_rfl) (by simp) (AllL.cons (o := { dst := none, op := Op.store 53 (Operand.tmp 89) (Operand.tmp 88), type := 0, pos := _, after := #[{ on := 8, ground := Ground.data }, { on := 7, ground := Ground.data }, { on := 7, ground := Ground.chain }, { on := 0, ground := Ground.phase }, { on := 1, ground := Ground.phase }, { on := 2, ground := Ground.phase }, { on := 3, ground := Ground.phase }, { on := 4, ground := Ground.phase }, { on := 5, ground := Ground.phase }, { on := 6, ground := Ground.phase }, { on := 7, ground := Ground.phase }], guard := none }) rfl (fun K' hK => ?_) AllL.nil)
          rw [if_pos (by rfl)]
          obtain ⟨y0, yf⟩ := HN4.out _ k8
          have HQ := hid (HFN.out w8 (.slice a8 (T.log.length + 1) c8) k8 (q8.row _ _ rfl))
          clear C3 X0 X1 X2 X3 X4 X5 X6 HRD HFN HN4
          go_simp
          refine hK.out _ _ (fun h => absurd h (by decide)) ?_
          clear hK
          try simp only [Go.Act.put, List.setIfInBounds_toArray, List.set_cons_zero, List.set_cons_succ]
          refine wpL_done (by kernel_rfl) ?_ _
          go_wp2_with fail
          go_meet
          case rel =>
            exact HQ.out
        exact AllL.nil
      refine AllL.cons (o := { dst := some 87, op := Op.buildSlice 53 1 #[(0, Operand.tmp 86)], type := 53, pos := _, after := #[{ on := 5, ground := Ground.data }], guard := none }) rfl (fun K' hK => ?_) ?_
      · rw [if_pos (by rfl)]
        go_simp
        refine hK.out _ _ (fun _ => (k0.alloc _)) ?_
        clear hK
        try simp only [Go.Act.put, List.setIfInBounds_toArray, List.set_cons_zero, List.set_cons_succ]
        have q10 := q0.newx
        obtain ⟨E10, hE10⟩ : ∃ E, E = D0.alloc (.cells #[.int .i64 g0', .int .i64 g1, .int .i64 g2, .int .i64 g3, .int .i64 g4, .int .i64 g5, .int .i64 g6] 60) := ⟨_, rfl⟩
        dsimp only at q10
        rw [← hE10] at q10 ⊢
        clear hE10
        have k10 := q10.t
        refine wpL_ready (rs := [0]) (by kernel_rfl) (by simp) (AllL.cons (o := { dst := some 81, op := Op.buildSlice 53 0 #[], type := 53, pos := _, after := #[], guard := none }) rfl (fun K' hK => ?_) AllL.nil)
        rw [if_pos (by rfl)]
        go_simp
        refine hK.out _ _ (fun _ => (k10.alloc _)) ?_
        clear hK
        try simp only [Go.Act.put, List.setIfInBounds_toArray, List.set_cons_zero, List.set_cons_succ]
        have q11 := q10.new0
        obtain ⟨E11, hE11⟩ : ∃ E, E = E10.alloc (.cells #[] 60) := ⟨_, rfl⟩
        rw [← hE11] at q11 ⊢
        clear hE11
        have k11 := q11.t
        refine wpL_ready (rs := [3]) (by kernel_rfl) (by simp) (AllL.cons (o := { dst := some 84, op := Op.call { callee := Callee.builtin Builtin.append, args := #[Operand.tmp 81, Operand.tmp 83], argTypes := #[53, 53] }, type := 53, pos := _, after := #[{ on := 0, ground := Ground.data }, { on := 2, ground := Ground.data }], guard := none }) rfl (fun K' hK => ?_) AllL.nil)
        rw [if_pos (by rfl)]
        refine wp_append_rs _ _ 53 60 rfl _ 7 56 infoG Tryd.underlying53 rfl (by decide) W4.heap.size (.slice (some ⟨E10.heap.size, 0, none⟩) 0 0) 0 [] rfl (q11.row _ _ rfl) (.slice a2' T.log.length c2') T.log.length (cellsG T.log) rfl (HRD.out _ k11) (cellsG_one _) (by have := HLE.out; unfold maxLen; omega) (by have := HLE.out; omega) k11.size ?_
        intro v12 w12 o12 g12' p12
        rw [Nat.zero_add, List.nil_append] at o12
        obtain ⟨a12, c12, e12⟩ := own_form o12
        subst e12
        have q12 := q11.app (n := 0) (xs := []) (A5 := T.log) o12 g12' p12
        have k12 := q12.t
        clear o12 g12' p12
        refine hK.out _ _ (fun _ => k12) ?_
        clear hK
        try simp only [Go.Act.put, List.setIfInBounds_toArray, List.set_cons_zero, List.set_cons_succ]
        refine wpL_ready (rs := [7]) (by kernel_rfl) (by simp) (AllL.cons (o := { dst := some 88, op := Op.call { callee := Callee.builtin Builtin.append, args := #[Operand.tmp 84, Operand.tmp 87], argTypes := #[53, 53] }, type := 53, pos := _, after := #[{ on := 3, ground := Ground.data }, { on := 6, ground := Ground.data }, { on := 3, ground := Ground.chain }], guard := none }) rfl (fun K' hK => ?_) AllL.nil)
        rw [if_pos (by rfl)]
        refine wp_append_rs _ _ 53 60 rfl _ 7 56 infoG Tryd.underlying53 rfl (by decide) W4.heap.size (.slice a12 T.log.length c12) T.log.length (cellsG T.log) rfl (q12.row _ _ rfl) (.slice (some ⟨D0.heap.size, 0, none⟩) 1 1) 1 (Gz.cells (⟨g0', g1, g2, g3, g4, g5, g6⟩ : Gz)) rfl (q12.one _ rfl).1 (by simp [Gz.cells, Value.oneCell']) (by have := HLE.out; unfold maxLen; omega) (by have := HLE.out; omega) k12.size ?_
        intro v13 w13 o13 g13' p13
        obtain ⟨a13, c13, e13⟩ := own_form o13
        subst e13
        have q13 := q12.app (n := 0) (xs := []) (A5 := T.log ++ [(⟨g0', g1, g2, g3, g4, g5, g6⟩ : Gz)]) (by rw [cellsG_snoc, List.length_append]; exact o13) g13' p13
        have k13 := q13.t
        clear o13 g13' p13
        refine hK.out _ _ (fun _ => k13) ?_
        clear hK
        try simp only [Go.Act.put, List.setIfInBounds_toArray, List.set_cons_zero, List.set_cons_succ]
        refine wpL_take (i := 8) (v := (.pointer (some ⟨w.heap.size, 3, none⟩))) (some 89) rfl rfl (by kernel_rfl) (by kernel_rfl) (by kernel_rfl) (by kernel_rfl) (by kernel_rfl) (by decide) (fun _ _ _ h => h) (Or.inl ⟨by rfl, fun w' hS => (by go_simp)⟩) k13 ?_
        try simp only [Go.Act.put, List.setIfInBounds_toArray, List.set_cons_zero, List.set_cons_succ]
        refine wpL_ready (rs := [9]) (by kernel_rfl) (by simp) (AllL.cons (o := { dst := none, op := Op.store 53 (Operand.tmp 89) (Operand.tmp 88), type := 0, pos := _, after := #[{ on := 8, ground := Ground.data }, { on := 7, ground := Ground.data }, { on := 7, ground := Ground.chain }, { on := 0, ground := Ground.phase }, { on := 1, ground := Ground.phase }, { on := 2, ground := Ground.phase }, { on := 3, ground := Ground.phase }, { on := 4, ground := Ground.phase }, { on := 5, ground := Ground.phase }, { on := 6, ground := Ground.phase }, { on := 7, ground := Ground.phase }], guard := none }) rfl (fun K' hK => ?_) AllL.nil)
        rw [if_pos (by rfl)]
        obtain ⟨y0, yf⟩ := HN4.out _ k13
        have HQ := hid (HFN.out w13 (.slice a13 (T.log.length + 1) c13) k13 (q13.row _ _ rfl))
        clear C3 X0 X1 X2 X3 X4 X5 X6 HRD HFN HN4
        go_simp
        refine hK.out _ _ (fun h => absurd h (by decide)) ?_
        clear hK
        try simp only [Go.Act.put, List.setIfInBounds_toArray, List.set_cons_zero, List.set_cons_succ]
        refine wpL_done (by kernel_rfl) ?_ _
        go_wp2_with fail
        go_meet
        case rel =>
          exact HQ.out
      exact AllL.nil
    case rest =>
      have HC := hcut
      clear hcut T1
      obtain ⟨C, v6, h4, h5, h7, tw, hs, ha, hq, hf⟩ := HC.out
      have HN1 := hid hs.n
      have HO1 := hid ha
      go_upto_region 18 with fail
      obtain ⟨W0, hW0⟩ : ∃ W0, W0 = wc.drew := ⟨_, rfl⟩
      have td : Touch [] wc W0 := by rw [hW0]; exact (Touch.refl _ _).drew
      have S0 : (fun (w' : World) => w'.heap[w.heap.size]? = some (.cells C 63 (0, 0)) ∧ w'.heap[w.heap.size + 1]? = some (.cells #[.int .i64 2, .int .i64 a1, .int .i64 a2, .int .i64 g0', .int .i64 g1, .int .i64 g2, .int .i64 g3, .int .i64 g4, .int .i64 g5, .int .i64 g6] 67 (0, 0))) W0 := And.intro (td.keep h4 (by simp)) (td.keep h5 (by simp))
      dsimp only at S0
      have HFI : Hid (∀ w5 v, Cq w5 b pv v { S with log := S.log ++ [(⟨g0', g1, g2, g3, g4, g5, g6⟩ : Gz)] } → Touch (b :: lv.ownBlock.toList) W0 w5 → (∀ k, v.ownBlock = some k → lv.ownBlock = some k ∨ W0.heap.size ≤ k) → Iv B w5 b pv v C (.slice ap T.L.length cp) v6 { S with log := S.log ++ [(⟨g0', g1, g2, g3, g4, g5, g6⟩ : Gz)] } { T with log := T.log ++ [(⟨g0', g1, g2, g3, g4, g5, g6⟩ : Gz)] }) := hid (fun w5 v q t hv => hf w5 v q ((td.mono (fun _ e => by cases e)).trans' t) (fun k hk => (hv k hk).imp id (fun e => by have := td.size; omega)))
      have HU := hid (HU0.out W0 (hq.touch td))
      have TW : Hid (Touch (b :: lv.ownBlock.toList) w W0) := hid (tw.trans' (td.mono (fun _ e => by cases e)))
      have B7' := hid (td.keep h7 (by simp))
      clear hs ha hq hf tw h4 h5 h7 td
      have F3 : ∀ w' : World, (w'.heap[w.heap.size]? = some (.cells C 63 (0, 0)) ∧ w'.heap[w.heap.size + 1]? = some (.cells #[.int .i64 2, .int .i64 a1, .int .i64 a2, .int .i64 g0', .int .i64 g1, .int .i64 g2, .int .i64 g3, .int .i64 g4, .int .i64 g5, .int .i64 g6] 67 (0, 0))) → w'.cell? ⟨w.heap.size + 1, 3, none⟩ = some (.int .i64 g0') := fun w' h => cell_at h.2 rfl
      have F4 : ∀ w' : World, (w'.heap[w.heap.size]? = some (.cells C 63 (0, 0)) ∧ w'.heap[w.heap.size + 1]? = some (.cells #[.int .i64 2, .int .i64 a1, .int .i64 a2, .int .i64 g0', .int .i64 g1, .int .i64 g2, .int .i64 g3, .int .i64 g4, .int .i64 g5, .int .i64 g6] 67 (0, 0))) → w'.cell? ⟨w.heap.size + 1, 4, none⟩ = some (.int .i64 g1) := fun w' h => cell_at h.2 rfl
      have F5 : ∀ w' : World, (w'.heap[w.heap.size]? = some (.cells C 63 (0, 0)) ∧ w'.heap[w.heap.size + 1]? = some (.cells #[.int .i64 2, .int .i64 a1, .int .i64 a2, .int .i64 g0', .int .i64 g1, .int .i64 g2, .int .i64 g3, .int .i64 g4, .int .i64 g5, .int .i64 g6] 67 (0, 0))) → w'.cell? ⟨w.heap.size + 1, 5, none⟩ = some (.int .i64 g2) := fun w' h => cell_at h.2 rfl
      have F6 : ∀ w' : World, (w'.heap[w.heap.size]? = some (.cells C 63 (0, 0)) ∧ w'.heap[w.heap.size + 1]? = some (.cells #[.int .i64 2, .int .i64 a1, .int .i64 a2, .int .i64 g0', .int .i64 g1, .int .i64 g2, .int .i64 g3, .int .i64 g4, .int .i64 g5, .int .i64 g6] 67 (0, 0))) → w'.cell? ⟨w.heap.size + 1, 6, none⟩ = some (.int .i64 g3) := fun w' h => cell_at h.2 rfl
      have F7 : ∀ w' : World, (w'.heap[w.heap.size]? = some (.cells C 63 (0, 0)) ∧ w'.heap[w.heap.size + 1]? = some (.cells #[.int .i64 2, .int .i64 a1, .int .i64 a2, .int .i64 g0', .int .i64 g1, .int .i64 g2, .int .i64 g3, .int .i64 g4, .int .i64 g5, .int .i64 g6] 67 (0, 0))) → w'.cell? ⟨w.heap.size + 1, 7, none⟩ = some (.int .i64 g4) := fun w' h => cell_at h.2 rfl
      have F8 : ∀ w' : World, (w'.heap[w.heap.size]? = some (.cells C 63 (0, 0)) ∧ w'.heap[w.heap.size + 1]? = some (.cells #[.int .i64 2, .int .i64 a1, .int .i64 a2, .int .i64 g0', .int .i64 g1, .int .i64 g2, .int .i64 g3, .int .i64 g4, .int .i64 g5, .int .i64 g6] 67 (0, 0))) → w'.cell? ⟨w.heap.size + 1, 8, none⟩ = some (.int .i64 g5) := fun w' h => cell_at h.2 rfl
      have F9 : ∀ w' : World, (w'.heap[w.heap.size]? = some (.cells C 63 (0, 0)) ∧ w'.heap[w.heap.size + 1]? = some (.cells #[.int .i64 2, .int .i64 a1, .int .i64 a2, .int .i64 g0', .int .i64 g1, .int .i64 g2, .int .i64 g3, .int .i64 g4, .int .i64 g5, .int .i64 g6] 67 (0, 0))) → w'.cell? ⟨w.heap.size + 1, 9, none⟩ = some (.int .i64 g6) := fun w' h => cell_at h.2 rfl
      refine wp_region_H (S := fun (w' : World) => w'.heap[w.heap.size]? = some (.cells C 63 (0, 0)) ∧ w'.heap[w.heap.size + 1]? = some (.cells #[.int .i64 2, .int .i64 a1, .int .i64 a2, .int .i64 g0', .int .i64 g1, .int .i64 g2, .int .i64 g3, .int .i64 g4, .int .i64 g5, .int .i64 g6] 67 (0, 0))) (by kernel_rfl) ?_
      rw [← hW0]
      clear hW0
      refine wpH_take (i := 0) (v := (.pointer (some ⟨b, 0, none⟩))) (some 90) rfl rfl (by kernel_rfl) (by kernel_rfl) (by kernel_rfl) (fun _ _ _ h => h) (Or.inl ⟨by rfl, fun w' hS => (by go_simp)⟩) S0 ?_
      try simp only [Go.Act.put, List.setIfInBounds_toArray, List.set_cons_zero, List.set_cons_succ]
      refine wpH_take (i := 1) (v := (.agg C)) (some 91) rfl rfl (by kernel_rfl) (by kernel_rfl) (by kernel_rfl) (fun _ _ _ h => h) (Or.inl ⟨by rfl, fun w' hS => exec_loadT bigS _ rfl rfl hS.1 HN1.out⟩) S0 ?_
      try simp only [Go.Act.put, List.setIfInBounds_toArray, List.set_cons_zero, List.set_cons_succ]
      refine wpH_take (i := 2) (v := (.pointer (some ⟨b, 0, none⟩))) (some 92) rfl rfl (by kernel_rfl) (by kernel_rfl) (by kernel_rfl) (fun _ _ _ h => h) (Or.inl ⟨by rfl, fun w' hS => (by go_simp)⟩) S0 ?_
      try simp only [Go.Act.put, List.setIfInBounds_toArray, List.set_cons_zero, List.set_cons_succ]
      refine wpH_take (i := 3) (v := (.pointer (some ⟨w.heap.size + 1, 3, none⟩))) (some 93) rfl rfl (by kernel_rfl) (by kernel_rfl) (by kernel_rfl) (fun _ _ _ h => h) (Or.inl ⟨by rfl, fun w' hS => (by go_simp)⟩) S0 ?_
      try simp only [Go.Act.put, List.setIfInBounds_toArray, List.set_cons_zero, List.set_cons_succ]
      refine wpH_take (i := 4) (v := (.agg #[.int .i64 g0', .int .i64 g1, .int .i64 g2, .int .i64 g3, .int .i64 g4, .int .i64 g5, .int .i64 g6])) (some 94) rfl rfl (by kernel_rfl) (by kernel_rfl) (by kernel_rfl) (fun _ _ _ h => h) (Or.inl ⟨by rfl, fun w' hS => (by have z0 := F3 _ hS; have z1 := F4 _ hS; have z2 := F5 _ hS; have z3 := F6 _ hS; have z4 := F7 _ hS; have z5 := F8 _ hS; have z6 := F9 _ hS; go_simp)⟩) S0 ?_
      try simp only [Go.Act.put, List.setIfInBounds_toArray, List.set_cons_zero, List.set_cons_succ]
      refine wpH_take (i := 6) (v := (.bool true)) (some 96) rfl rfl (by kernel_rfl) (by kernel_rfl) (by kernel_rfl) (fun _ _ _ h => h) (Or.inl ⟨by rfl, fun w' hS => (by go_simp)⟩) S0 ?_
      try simp only [Go.Act.put, List.setIfInBounds_toArray, List.set_cons_zero, List.set_cons_succ]
      refine wpH_call (i := 5) (o := { dst := some 95, op := Op.call { callee := Callee.value (Operand.func 25), args := #[Operand.tmp 92, Operand.tmp 94], argTypes := #[50, 60] }, type := 23, pos := _, after := #[{ on := 2, ground := Ground.data }, { on := 4, ground := Ground.data }], guard := none }) (by kernel_rfl) rfl (fun K' hK => ?_)
      rw [if_pos (by rfl)]
      go_simp
      refine HU.out.mono ?_
      rintro e w5 ⟨rfl, v5, q5, t5, p5⟩
      have S5 := And.intro (t5.keep S0.1 (HNI.out _ (Nat.le_refl _))) (t5.keep S0.2 (HNI.out _ (by omega)))
      have B75 := hid (t5.keep B7'.out (HNI.out _ (by omega)))
      have F5 := hid (HFI.out _ _ q5 t5 p5)
      have T5 := hid (TW.out.trans t5 (fun k hk => Or.inl hk))
      clear t5 q5 p5
      refine hK.out _ _ S5 ?_
      clear hK
      try simp only [Go.Act.put, List.setIfInBounds_toArray, List.set_cons_zero, List.set_cons_succ]
      refine wpH_call (i := 7) (o := { dst := some 97, op := Op.call { callee := Callee.value (Operand.func 41), args := #[Operand.tmp 96, Operand.const (Value.int IntKind.i64 1)], argTypes := #[4, 23] }, type := 23, pos := _, after := #[{ on := 6, ground := Ground.data }, { on := 5, ground := Ground.chain }], guard := none }) (by kernel_rfl) rfl (fun K' hK => ?_)
      rw [if_pos (by rfl)]
      go_simp
      refine (HWT.out _).mono ?_
      rintro e w6 ⟨rfl, e6⟩
      rw [e6]
      clear e6 w6
      refine hK.out _ _ S5 ?_
      clear hK
      try simp only [Go.Act.put, List.setIfInBounds_toArray, List.set_cons_zero, List.set_cons_succ]
      refine wpH_take (i := 8) (v := (.bool true)) (some 98) rfl rfl (by kernel_rfl) (by kernel_rfl) (by kernel_rfl) (fun _ _ _ h => h) (Or.inl ⟨by rfl, fun w' hS => (by go_simp)⟩) S5 ?_
      try simp only [Go.Act.put, List.setIfInBounds_toArray, List.set_cons_zero, List.set_cons_succ]
      refine wpH_take (i := 9) (v := (.pointer (some ⟨b, 0, none⟩))) (some 6) rfl rfl (by kernel_rfl) (by kernel_rfl) (by kernel_rfl) (fun _ _ _ h => h) (Or.inl ⟨by rfl, fun w' hS => (by go_simp)⟩) S5 ?_
      try simp only [Go.Act.put, List.setIfInBounds_toArray, List.set_cons_zero, List.set_cons_succ]
      refine wpH_call (i := 10) (o := { dst := none, op := Op.store 63 (Operand.tmp 7) (Operand.tmp 91), type := 0, pos := _, after := #[{ on := 1, ground := Ground.data }, { on := 9, ground := Ground.chain }, { on := 0, ground := Ground.phase }, { on := 1, ground := Ground.phase }, { on := 2, ground := Ground.textOnly Departure.lateStores }, { on := 3, ground := Ground.textOnly Departure.lateStores }, { on := 4, ground := Ground.textOnly Departure.lateStores }, { on := 5, ground := Ground.textOnly Departure.lateStoresUnsure }, { on := 6, ground := Ground.textOnly Departure.lateStores }, { on := 7, ground := Ground.textOnly Departure.lateStoresUnsure }, { on := 8, ground := Ground.textOnly Departure.lateStores }, { on := 9, ground := Ground.phase }], guard := none }) (by kernel_rfl) rfl (fun K' hK => ?_)
      rw [if_pos (by rfl)]
      refine wp_storeT bigS (Operand.tmp 7) (Operand.tmp 91) rfl (w.heap.size + 2) _ C 63 rfl rfl B75.out zs_size HN1.out HO1.out (fun w7 h7 t7 s7 => ?_)
      have S7 := And.intro (t7.keep S5.1 (by simp)) (t7.keep S5.2 (by simp))
      refine hK.out _ _ S7 ?_
      clear hK
      try simp only [Go.Act.put, List.setIfInBounds_toArray, List.set_cons_zero, List.set_cons_succ]
      refine wpH_take (i := 11) (v := (.bool true)) (some 8) rfl rfl (by kernel_rfl) (by kernel_rfl) (by kernel_rfl) (fun _ _ _ h => h) (Or.inl ⟨by rfl, fun w' hS => (by go_simp)⟩) S7 ?_
      try simp only [Go.Act.put, List.setIfInBounds_toArray, List.set_cons_zero, List.set_cons_succ]
      refine wpAnyH_done (by kernel_rfl) ?_ _
      go_wp2_with fail
      refine bodyPost_ret (results_one rfl _ _ rfl h7 HN1.out) rfl ?_
      exact ⟨b, pv, v5, _, _, _, _, _, rfl, F5.out.box B75.out t7, by simp, rfl, T5.out.trans t7 (fun k hk => Or.inr (by simp at hk; omega))⟩
  · go_enter Tryd.func18, Tryd.ntmps18
    go_upto_region 1 with fail
    rw [← hV]
    clear hV
    have v0 := cell_at (j := 0) B5.out rfl
    have v1 := cell_at (j := 1) B5.out rfl
    have v2 := cell_at (j := 2) B5.out rfl
    have v3 := cell_at (j := 3) B5.out rfl
    have v4 := cell_at (j := 4) B5.out rfl
    have v5 := cell_at (j := 5) B5.out rfl
    have v6 := cell_at (j := 6) B5.out rfl
    have v7 := cell_at (j := 7) B5.out rfl
    have v8 := cell_at (j := 8) B5.out rfl
    have v9 := cell_at (j := 9) B5.out rfl
    go_upto_region 17 with (first
      | (refine wpList_loadT bigS rfl _ rfl w.heap.size cs 63 (0, 0) rfl B4.out HI.out.s.n ?_)
      | (go_at_call 42; refine (HM.out _).mono ?_; rintro e w1 ⟨rfl, t1⟩; have T1 := hid t1; clear t1 v0 v1 v2 v3 v4 v5 v6 v7 v8 v9))
    obtain ⟨W4, hW4⟩ : ∃ W4, W4 = w1 := ⟨_, rfl⟩
    rw [← hW4] at T1 ⊢
    clear hW4
    go_cut [] from 81 to 89 (fun wx => Hid (HadX B b w pv lv (.slice ap T.L.length cp) S T a1 a2 g0' g1 g2 g3 g4 g5 g6 wx))
    case first =>
      have FI := (HI.out.touch TV.out).touch T1.out
      have b4 := T1.out.keep B4.out (by simp)
      have b5 := T1.out.keep B5.out (by simp)
      have b7 := T1.out.keep B7.out (by simp)
      have hz := T1.out.size
      have hz2 := TV.out.size
      have HFN : Hid (∀ (C : World) (v : Value), Touch [] W4 C → C.ownsRow W4.heap.size 60 7 v (T.log ++ [(⟨g0', g1, g2, g3, g4, g5, g6⟩ : Gz)]).length (cellsG (T.log ++ [(⟨g0', g1, g2, g3, g4, g5, g6⟩ : Gz)])) → Hid (HadX B b w pv lv (.slice ap T.L.length cp) S T a1 a2 g0' g1 g2 g3 g4 g5 g6 (C.setCell ⟨w.heap.size, 3, none⟩ v))) := hid (fun C v tC o => by
        have ts : Touch [w.heap.size] C (C.setCell ⟨w.heap.size, 3, none⟩ v) := (Touch.refl _ C).setCell (Or.inl (by simp)) _
        have c4 := tC.keep b4 (by simp)
        have hzC := tC.size
        have hsc := HI.out.s.setLog v (T.log ++ [(⟨g0', g1, g2, g3, g4, g5, g6⟩ : Gz)])
        obtain ⟨ao, co, eo⟩ := own_form o
        have FI0 := (FI.touch tC).box c4 ts
        exact hid ⟨_, v, bset c4 _, ts.keep (tC.keep b5 (by simp)) (by simp), ts.keep (tC.keep b7 (by simp)) (by simp), (((TV.out.trans' T1.out).trans' tC).mono (fun _ e => by cases e)).trans ts (fun k hk => Or.inr (by simp at hk; omega)), hsc, hsc.one rfl (by rw [eo]; rfl), FI0.q, fun w5 v' q t hv => FI0.had (by have := FI0.bb; have := FI0.q.lt; omega) (fun k hk => by have := HLV.out k hk; omega) (own_touch o ts (kind_ne o c4 (by decide))) hsc q t hv⟩)
      have HRD : Hid (∀ w', Touch [] W4 w' → Rs 60 7 w' (.slice a2' T.log.length c2') T.log.length (cellsG T.log)) := hid (fun w' t => Rs.of_own ((FI.touch t).g2))
      have HN4 : Hid (∀ w', Touch [] W4 w' → w'.cell? ⟨w.heap.size, 3, none⟩ = some (.slice a2' T.log.length c2') ∧ ∀ j, w'.frozen? ⟨w.heap.size, j, none⟩ = false) := hid (fun w' t => ⟨cell_at (t.keep b4 (by simp)) HL3.out, froz_at (t.keep b4 (by simp))⟩)
      have C3 : ∀ w', Touch [] W4 w' → w'.cell? ⟨w.heap.size, 3, none⟩ = some (.slice a2' T.log.length c2') := fun w' t => (HN4.out w' t).1
      have X0 : ∀ w', Touch [] W4 w' → w'.cell? ⟨w.heap.size + 1, 3, none⟩ = some (.int .i64 g0') := fun w' t => cell_at (t.keep b5 (by simp)) rfl
      have X1 : ∀ w', Touch [] W4 w' → w'.cell? ⟨w.heap.size + 1, 4, none⟩ = some (.int .i64 g1) := fun w' t => cell_at (t.keep b5 (by simp)) rfl
      have X2 : ∀ w', Touch [] W4 w' → w'.cell? ⟨w.heap.size + 1, 5, none⟩ = some (.int .i64 g2) := fun w' t => cell_at (t.keep b5 (by simp)) rfl
      have X3 : ∀ w', Touch [] W4 w' → w'.cell? ⟨w.heap.size + 1, 6, none⟩ = some (.int .i64 g3) := fun w' t => cell_at (t.keep b5 (by simp)) rfl
      have X4 : ∀ w', Touch [] W4 w' → w'.cell? ⟨w.heap.size + 1, 7, none⟩ = some (.int .i64 g4) := fun w' t => cell_at (t.keep b5 (by simp)) rfl
      have X5 : ∀ w', Touch [] W4 w' → w'.cell? ⟨w.heap.size + 1, 8, none⟩ = some (.int .i64 g5) := fun w' t => cell_at (t.keep b5 (by simp)) rfl
      have X6 : ∀ w', Touch [] W4 w' → w'.cell? ⟨w.heap.size + 1, 9, none⟩ = some (.int .i64 g6) := fun w' t => cell_at (t.keep b5 (by simp)) rfl
      clear FI b4 b5 b7 hz hz2
      refine wp_region_L (S := fun w' => Touch [] W4 w') (st := 9) (by kernel_rfl) ?_
      obtain ⟨D0, hD0⟩ : ∃ D0, D0 = W4.drew := ⟨_, rfl⟩
      rw [← hD0]
      have q0 : SiG W4 D0 (⟨g0', g1, g2, g3, g4, g5, g6⟩ : Gz) none none := ⟨by rw [hD0]; exact (Touch.refl _ _).drew, fun _ _ e => (by cases e), fun _ e => (by cases e), fun _ _ _ _ e => (by cases e)⟩
      have k0 := q0.t
      clear hD0
      refine wpL_take (i := 1) (v := (.pointer (some ⟨w.heap.size, 3, none⟩))) (some 82) rfl rfl (by kernel_rfl) (by kernel_rfl) (by kernel_rfl) (by kernel_rfl) (by kernel_rfl) (by decide) (fun _ _ _ h => h) (Or.inl ⟨by rfl, fun w' hS => (by go_simp)⟩) k0 ?_
      try simp only [Go.Act.put, List.setIfInBounds_toArray, List.set_cons_zero, List.set_cons_succ]
      refine wpL_take (i := 2) (v := (.slice a2' T.log.length c2')) (some 83) rfl rfl (by kernel_rfl) (by kernel_rfl) (by kernel_rfl) (by kernel_rfl) (by kernel_rfl) (by decide) (fun _ _ _ h => h) (Or.inl ⟨by rfl, fun w' hS => (by have z0 := C3 _ hS; go_simp)⟩) k0 ?_
      try simp only [Go.Act.put, List.setIfInBounds_toArray, List.set_cons_zero, List.set_cons_succ]
      refine wpL_take (i := 4) (v := (.pointer (some ⟨w.heap.size + 1, 3, none⟩))) (some 85) rfl rfl (by kernel_rfl) (by kernel_rfl) (by kernel_rfl) (by kernel_rfl) (by kernel_rfl) (by decide) (fun _ _ _ h => h) (Or.inl ⟨by rfl, fun w' hS => (by go_simp)⟩) k0 ?_
      try simp only [Go.Act.put, List.setIfInBounds_toArray, List.set_cons_zero, List.set_cons_succ]
      refine wpL_take (i := 5) (v := (.agg #[.int .i64 g0', .int .i64 g1, .int .i64 g2, .int .i64 g3, .int .i64 g4, .int .i64 g5, .int .i64 g6])) (some 86) rfl rfl (by kernel_rfl) (by kernel_rfl) (by kernel_rfl) (by kernel_rfl) (by kernel_rfl) (by decide) (fun _ _ _ h => h) (Or.inl ⟨by rfl, fun w' hS => (by have z0 := X0 _ hS; have z1 := X1 _ hS; have z2 := X2 _ hS; have z3 := X3 _ hS; have z4 := X4 _ hS; have z5 := X5 _ hS; have z6 := X6 _ hS; go_simp)⟩) k0 ?_
      try simp only [Go.Act.put, List.setIfInBounds_toArray, List.set_cons_zero, List.set_cons_succ]
      refine wpL_ready (rs := [0, 6]) (by kernel_rfl) (by simp) ?_
      refine AllL.cons (o := { dst := some 81, op := Op.buildSlice 53 0 #[], type := 53, pos := _, after := #[], guard := none }) rfl (fun K' hK => ?_) ?_
      · rw [if_pos (by rfl)]
        go_simp
        refine hK.out _ _ (fun _ => (k0.alloc _)) ?_
        clear hK
        try simp only [Go.Act.put, List.setIfInBounds_toArray, List.set_cons_zero, List.set_cons_succ]
        have q1 := q0.new0
        obtain ⟨E1, hE1⟩ : ∃ E, E = D0.alloc (.cells #[] 60) := ⟨_, rfl⟩
        rw [← hE1] at q1 ⊢
        clear hE1
        have k1 := q1.t
        refine wpL_ready (rs := [3, 6]) (by kernel_rfl) (by simp) ?_
        refine AllL.cons (o := { dst := some 84, op := Op.call { callee := Callee.builtin Builtin.append, args := #[Operand.tmp 81, Operand.tmp 83], argTypes := #[53, 53] }, type := 53, pos := _, after := #[{ on := 0, ground := Ground.data }, { on := 2, ground := Ground.data }], guard := none }) rfl (fun K' hK => ?_) ?_
        · rw [if_pos (by rfl)]
          refine wp_append_rs _ _ 53 60 rfl _ 7 56 infoG Tryd.underlying53 rfl (by decide) W4.heap.size (.slice (some ⟨D0.heap.size, 0, none⟩) 0 0) 0 [] rfl (q1.row _ _ rfl) (.slice a2' T.log.length c2') T.log.length (cellsG T.log) rfl (HRD.out _ k1) (cellsG_one _) (by have := HLE.out; unfold maxLen; omega) (by have := HLE.out; omega) k1.size ?_
          intro v2 w2 o2 g2' p2
          rw [Nat.zero_add, List.nil_append] at o2
          obtain ⟨a2, c2, e2⟩ := own_form o2
          subst e2
          have q2 := q1.app (n := 0) (xs := []) (A5 := T.log) o2 g2' p2
          have k2 := q2.t
          clear o2 g2' p2
          refine hK.out _ _ (fun _ => k2) ?_
          clear hK
          try simp only [Go.Act.put, List.setIfInBounds_toArray, List.set_cons_zero, List.set_cons_succ]
          refine wpL_ready (rs := [6]) (by kernel_rfl) (by simp) (AllL.cons (o := { dst := some 87, op := Op.buildSlice 53 1 #[(0, Operand.tmp 86)], type := 53, pos := _, after := #[{ on := 5, ground := Ground.data }], guard := none }) rfl (fun K' hK => ?_) AllL.nil)
          rw [if_pos (by rfl)]
          go_simp
          refine hK.out _ _ (fun _ => (k2.alloc _)) ?_
          clear hK
          try simp only [Go.Act.put, List.setIfInBounds_toArray, List.set_cons_zero, List.set_cons_succ]
          have q3 := q2.newx
          obtain ⟨E3, hE3⟩ : ∃ E, E = w2.alloc (.cells #[.int .i64 g0', .int .i64 g1, .int .i64 g2, .int .i64 g3, .int .i64 g4, .int .i64 g5, .int .i64 g6] 60) := ⟨_, rfl⟩
          dsimp only at q3
          rw [← hE3] at q3 ⊢
          clear hE3
          have k3 := q3.t
          refine wpL_ready (rs := [7]) (by kernel_rfl) (by simp) (AllL.cons (o := { dst := some 88, op := Op.call { callee := Callee.builtin Builtin.append, args := #[Operand.tmp 84, Operand.tmp 87], argTypes := #[53, 53] }, type := 53, pos := _, after := #[{ on := 3, ground := Ground.data }, { on := 6, ground := Ground.data }, { on := 3, ground := Ground.chain }], guard := none }) rfl (fun K' hK => ?_) AllL.nil)
          rw [if_pos (by rfl)]
          refine wp_append_rs _ _ 53 60 rfl _ 7 56 infoG Tryd.underlying53 rfl (by decide) W4.heap.size (.slice a2 T.log.length c2) T.log.length (cellsG T.log) rfl (q3.row _ _ rfl) (.slice (some ⟨w2.heap.size, 0, none⟩) 1 1) 1 (Gz.cells (⟨g0', g1, g2, g3, g4, g5, g6⟩ : Gz)) rfl (q3.one _ rfl).1 (by simp [Gz.cells, Value.oneCell']) (by have := HLE.out; unfold maxLen; omega) (by have := HLE.out; omega) k3.size ?_
          intro v4 w4 o4 g4' p4
          obtain ⟨a4, c4, e4⟩ := own_form o4
          subst e4
          have q4 := q3.app (n := 0) (xs := []) (A5 := T.log ++ [(⟨g0', g1, g2, g3, g4, g5, g6⟩ : Gz)]) (by rw [cellsG_snoc, List.length_append]; exact o4) g4' p4
          have k4 := q4.t
          clear o4 g4' p4
          refine hK.out _ _ (fun _ => k4) ?_
          clear hK
          try simp only [Go.Act.put, List.setIfInBounds_toArray, List.set_cons_zero, List.set_cons_succ]
          refine wpL_take (i := 8) (v := (.pointer (some ⟨w.heap.size, 3, none⟩))) (some 89) rfl rfl (by kernel_rfl) (by kernel_rfl) (by kernel_rfl) (by kernel_rfl) (by kernel_rfl) (by decide) (fun _ _ _ h => h) (Or.inl ⟨by rfl, fun w' hS => (by go_simp)⟩) k4 ?_
          try simp only [Go.Act.put, List.setIfInBounds_toArray, List.set_cons_zero, List.set_cons_succ]
          refine wpL_ready (rs := [9]) (by kernel_rfl) (by simp) (AllL.cons (o := { dst := none, op := Op.store 53 (Operand.tmp 89) (Operand.tmp 88), type := 0, pos := _, after := #[{ on := 8, ground := Ground.data }, { on := 7, ground := Ground.data }, { on := 7, ground := Ground.chain }, { on := 0, ground := Ground.phase }, { on := 1, ground := Ground.phase }, { on := 2, ground := Ground.phase }, { on := 3, ground := Ground.phase }, { on := 4, ground := Ground.phase }, { on := 5, ground := Ground.phase }, { on := 6, ground := Ground.phase }, { on := 7, ground := Ground.phase }], guard := none }) rfl (fun K' hK => ?_) AllL.nil)
          rw [if_pos (by rfl)]
          obtain ⟨y0, yf⟩ := HN4.out _ k4
          have HQ := hid (HFN.out w4 (.slice a4 (T.log.length + 1) c4) k4 (q4.row _ _ rfl))
          clear C3 X0 X1 X2 X3 X4 X5 X6 HRD HFN HN4
          go_simp
          refine hK.out _ _ (fun h => absurd h (by decide)) ?_
          clear hK
          try simp only [Go.Act.put, List.setIfInBounds_toArray, List.set_cons_zero, List.set_cons_succ]
          refine wpL_done (by kernel_rfl) ?_ _
          go_wp2_with fail
          go_meet
          case rel =>
            exact HQ.out
        refine AllL.cons (o := { dst := some 87, op := Op.buildSlice 53 1 #[(0, Operand.tmp 86)], type := 53, pos := _, after := #[{ on := 5, ground := Ground.data }], guard := none }) rfl (fun K' hK => ?_) ?_
        · rw [if_pos (by rfl)]
          go_simp
          refine hK.out _ _ (fun _ => (k1.alloc _)) ?_
          clear hK
          try simp only [Go.Act.put, List.setIfInBounds_toArray, List.set_cons_zero, List.set_cons_succ]
          have q6 := q1.newx
          obtain ⟨E6, hE6⟩ : ∃ E, E = E1.alloc (.cells #[.int .i64 g0', .int .i64 g1, .int .i64 g2, .int .i64 g3, .int .i64 g4, .int .i64 g5, .int .i64 g6] 60) := ⟨_, rfl⟩
          dsimp only at q6
          rw [← hE6] at q6 ⊢
          clear hE6
          have k6 := q6.t
          refine wpL_ready (rs := [3]) (by kernel_rfl) (by simp) (AllL.cons (o := { dst := some 84, op := Op.call { callee := Callee.builtin Builtin.append, args := #[Operand.tmp 81, Operand.tmp 83], argTypes := #[53, 53] }, type := 53, pos := _, after := #[{ on := 0, ground := Ground.data }, { on := 2, ground := Ground.data }], guard := none }) rfl (fun K' hK => ?_) AllL.nil)
          rw [if_pos (by rfl)]
          refine wp_append_rs _ _ 53 60 rfl _ 7 56 infoG Tryd.underlying53 rfl (by decide) W4.heap.size (.slice (some ⟨D0.heap.size, 0, none⟩) 0 0) 0 [] rfl (q6.row _ _ rfl) (.slice a2' T.log.length c2') T.log.length (cellsG T.log) rfl (HRD.out _ k6) (cellsG_one _) (by have := HLE.out; unfold maxLen; omega) (by have := HLE.out; omega) k6.size ?_
          intro v7 w7 o7 g7' p7
          rw [Nat.zero_add, List.nil_append] at o7
          obtain ⟨a7, c7, e7⟩ := own_form o7
          subst e7
          have q7 := q6.app (n := 0) (xs := []) (A5 := T.log) o7 g7' p7
          have k7 := q7.t
          clear o7 g7' p7
          refine hK.out _ _ (fun _ => k7) ?_
          clear hK
          try simp only [Go.Act.put, List.setIfInBounds_toArray, List.set_cons_zero, List.set_cons_succ]
          refine wpL_ready (rs := [7]) (by kernel_rfl) (by simp) (AllL.cons (o := { dst := some 88, op := Op.call { callee := Callee.builtin Builtin.append, args := #[Operand.tmp 84, Operand.tmp 87], argTypes := #[53, 53] }, type := 53, pos := _, after := #[{ on := 3, ground := Ground.data }, { on := 6, ground := Ground.data }, { on := 3, ground := Ground.chain }], guard := none }) rfl (fun K' hK => ?_) AllL.nil)
          rw [if_pos (by rfl)]
          refine wp_append_rs _ _ 53 60 rfl _ 7 56 infoG Tryd.underlying53 rfl (by decide) W4.heap.size (.slice a7 T.log.length c7) T.log.length (cellsG T.log) rfl (q7.row _ _ rfl) (.slice (some ⟨E1.heap.size, 0, none⟩) 1 1) 1 (Gz.cells (⟨g0', g1, g2, g3, g4, g5, g6⟩ : Gz)) rfl (q7.one _ rfl).1 (by simp [Gz.cells, Value.oneCell']) (by have := HLE.out; unfold maxLen; omega) (by have := HLE.out; omega) k7.size ?_
          intro v8 w8 o8 g8' p8
          obtain ⟨a8, c8, e8⟩ := own_form o8
          subst e8
          have q8 := q7.app (n := 0) (xs := []) (A5 := T.log ++ [(⟨g0', g1, g2, g3, g4, g5, g6⟩ : Gz)]) (by rw [cellsG_snoc, List.length_append]; exact o8) g8' p8
          have k8 := q8.t
          clear o8 g8' p8
          refine hK.out _ _ (fun _ => k8) ?_
          clear hK
          try simp only [Go.Act.put, List.setIfInBounds_toArray, List.set_cons_zero, List.set_cons_succ]
          refine wpL_take (i := 8) (v := (.pointer (some ⟨w.heap.size, 3, none⟩))) (some 89) rfl rfl (by kernel_rfl) (by kernel_rfl) (by kernel_rfl) (by kernel_rfl) (by kernel_rfl) (by decide) (fun _ _ _ h => h) (Or.inl ⟨by rfl, fun w' hS => (by go_simp)⟩) k8 ?_
          try simp only [Go.Act.put, List.setIfInBounds_toArray, List.set_cons_zero, List.set_cons_succ]
          refine wpL_ready (rs := [9]) (by kernel_rfl) (by simp) (AllL.cons (o := { dst := none, op := Op.store 53 (Operand.tmp 89) (Operand.tmp 88), type := 0, pos := _, after := #[{ on := 8, ground := Ground.data }, { on := 7, ground := Ground.data }, { on := 7, ground := Ground.chain }, { on := 0, ground := Ground.phase }, { on := 1, ground := Ground.phase }, { on := 2, ground := Ground.phase }, { on := 3, ground := Ground.phase }, { on := 4, ground := Ground.phase }, { on := 5, ground := Ground.phase }, { on := 6, ground := Ground.phase }, { on := 7, ground := Ground.phase }], guard := none }) rfl (fun K' hK => ?_) AllL.nil)
          rw [if_pos (by rfl)]
          obtain ⟨y0, yf⟩ := HN4.out _ k8
          have HQ := hid (HFN.out w8 (.slice a8 (T.log.length + 1) c8) k8 (q8.row _ _ rfl))
          clear C3 X0 X1 X2 X3 X4 X5 X6 HRD HFN HN4
          go_simp
          refine hK.out _ _ (fun h => absurd h (by decide)) ?_
          clear hK
          try simp only [Go.Act.put, List.setIfInBounds_toArray, List.set_cons_zero, List.set_cons_succ]
          refine wpL_done (by kernel_rfl) ?_ _
          go_wp2_with fail
          go_meet
          case rel =>
            exact HQ.out
        exact AllL.nil
      refine AllL.cons (o := { dst := some 87, op := Op.buildSlice 53 1 #[(0, Operand.tmp 86)], type := 53, pos := _, after := #[{ on := 5, ground := Ground.data }], guard := none }) rfl (fun K' hK => ?_) ?_
      · rw [if_pos (by rfl)]
        go_simp
        refine hK.out _ _ (fun _ => (k0.alloc _)) ?_
        clear hK
        try simp only [Go.Act.put, List.setIfInBounds_toArray, List.set_cons_zero, List.set_cons_succ]
        have q10 := q0.newx
        obtain ⟨E10, hE10⟩ : ∃ E, E = D0.alloc (.cells #[.int .i64 g0', .int .i64 g1, .int .i64 g2, .int .i64 g3, .int .i64 g4, .int .i64 g5, .int .i64 g6] 60) := ⟨_, rfl⟩
        dsimp only at q10
        rw [← hE10] at q10 ⊢
        clear hE10
        have k10 := q10.t
        refine wpL_ready (rs := [0]) (by kernel_rfl) (by simp) (AllL.cons (o := { dst := some 81, op := Op.buildSlice 53 0 #[], type := 53, pos := _, after := #[], guard := none }) rfl (fun K' hK => ?_) AllL.nil)
        rw [if_pos (by rfl)]
        go_simp
        refine hK.out _ _ (fun _ => (k10.alloc _)) ?_
        clear hK
        try simp only [Go.Act.put, List.setIfInBounds_toArray, List.set_cons_zero, List.set_cons_succ]
        have q11 := q10.new0
        obtain ⟨E11, hE11⟩ : ∃ E, E = E10.alloc (.cells #[] 60) := ⟨_, rfl⟩
        rw [← hE11] at q11 ⊢
        clear hE11
        have k11 := q11.t
        refine wpL_ready (rs := [3]) (by kernel_rfl) (by simp) (AllL.cons (o := { dst := some 84, op := Op.call { callee := Callee.builtin Builtin.append, args := #[Operand.tmp 81, Operand.tmp 83], argTypes := #[53, 53] }, type := 53, pos := _, after := #[{ on := 0, ground := Ground.data }, { on := 2, ground := Ground.data }], guard := none }) rfl (fun K' hK => ?_) AllL.nil)
        rw [if_pos (by rfl)]
        refine wp_append_rs _ _ 53 60 rfl _ 7 56 infoG Tryd.underlying53 rfl (by decide) W4.heap.size (.slice (some ⟨E10.heap.size, 0, none⟩) 0 0) 0 [] rfl (q11.row _ _ rfl) (.slice a2' T.log.length c2') T.log.length (cellsG T.log) rfl (HRD.out _ k11) (cellsG_one _) (by have := HLE.out; unfold maxLen; omega) (by have := HLE.out; omega) k11.size ?_
        intro v12 w12 o12 g12' p12
        rw [Nat.zero_add, List.nil_append] at o12
        obtain ⟨a12, c12, e12⟩ := own_form o12
        subst e12
        have q12 := q11.app (n := 0) (xs := []) (A5 := T.log) o12 g12' p12
        have k12 := q12.t
        clear o12 g12' p12
        refine hK.out _ _ (fun _ => k12) ?_
        clear hK
        try simp only [Go.Act.put, List.setIfInBounds_toArray, List.set_cons_zero, List.set_cons_succ]
        refine wpL_ready (rs := [7]) (by kernel_rfl) (by simp) (AllL.cons (o := { dst := some 88, op := Op.call { callee := Callee.builtin Builtin.append, args := #[Operand.tmp 84, Operand.tmp 87], argTypes := #[53, 53] }, type := 53, pos := _, after := #[{ on := 3, ground := Ground.data }, { on := 6, ground := Ground.data }, { on := 3, ground := Ground.chain }], guard := none }) rfl (fun K' hK => ?_) AllL.nil)
        rw [if_pos (by rfl)]
        refine wp_append_rs _ _ 53 60 rfl _ 7 56 infoG Tryd.underlying53 rfl (by decide) W4.heap.size (.slice a12 T.log.length c12) T.log.length (cellsG T.log) rfl (q12.row _ _ rfl) (.slice (some ⟨D0.heap.size, 0, none⟩) 1 1) 1 (Gz.cells (⟨g0', g1, g2, g3, g4, g5, g6⟩ : Gz)) rfl (q12.one _ rfl).1 (by simp [Gz.cells, Value.oneCell']) (by have := HLE.out; unfold maxLen; omega) (by have := HLE.out; omega) k12.size ?_
        intro v13 w13 o13 g13' p13
        obtain ⟨a13, c13, e13⟩ := own_form o13
        subst e13
        have q13 := q12.app (n := 0) (xs := []) (A5 := T.log ++ [(⟨g0', g1, g2, g3, g4, g5, g6⟩ : Gz)]) (by rw [cellsG_snoc, List.length_append]; exact o13) g13' p13
        have k13 := q13.t
        clear o13 g13' p13
        refine hK.out _ _ (fun _ => k13) ?_
        clear hK
        try simp only [Go.Act.put, List.setIfInBounds_toArray, List.set_cons_zero, List.set_cons_succ]
        refine wpL_take (i := 8) (v := (.pointer (some ⟨w.heap.size, 3, none⟩))) (some 89) rfl rfl (by kernel_rfl) (by kernel_rfl) (by kernel_rfl) (by kernel_rfl) (by kernel_rfl) (by decide) (fun _ _ _ h => h) (Or.inl ⟨by rfl, fun w' hS => (by go_simp)⟩) k13 ?_
        try simp only [Go.Act.put, List.setIfInBounds_toArray, List.set_cons_zero, List.set_cons_succ]
        refine wpL_ready (rs := [9]) (by kernel_rfl) (by simp) (AllL.cons (o := { dst := none, op := Op.store 53 (Operand.tmp 89) (Operand.tmp 88), type := 0, pos := _, after := #[{ on := 8, ground := Ground.data }, { on := 7, ground := Ground.data }, { on := 7, ground := Ground.chain }, { on := 0, ground := Ground.phase }, { on := 1, ground := Ground.phase }, { on := 2, ground := Ground.phase }, { on := 3, ground := Ground.phase }, { on := 4, ground := Ground.phase }, { on := 5, ground := Ground.phase }, { on := 6, ground := Ground.phase }, { on := 7, ground := Ground.phase }], guard := none }) rfl (fun K' hK => ?_) AllL.nil)
        rw [if_pos (by rfl)]
        obtain ⟨y0, yf⟩ := HN4.out _ k13
        have HQ := hid (HFN.out w13 (.slice a13 (T.log.length + 1) c13) k13 (q13.row _ _ rfl))
        clear C3 X0 X1 X2 X3 X4 X5 X6 HRD HFN HN4
        go_simp
        refine hK.out _ _ (fun h => absurd h (by decide)) ?_
        clear hK
        try simp only [Go.Act.put, List.setIfInBounds_toArray, List.set_cons_zero, List.set_cons_succ]
        refine wpL_done (by kernel_rfl) ?_ _
        go_wp2_with fail
        go_meet
        case rel =>
          exact HQ.out
      exact AllL.nil
    case rest =>
      have HC := hcut
      clear hcut T1
      obtain ⟨C, v6, h4, h5, h7, tw, hs, ha, hq, hf⟩ := HC.out
      have HN1 := hid hs.n
      have HO1 := hid ha
      go_upto_region 18 with fail
      obtain ⟨W0, hW0⟩ : ∃ W0, W0 = wc.drew := ⟨_, rfl⟩
      have td : Touch [] wc W0 := by rw [hW0]; exact (Touch.refl _ _).drew
      have S0 : (fun (w' : World) => w'.heap[w.heap.size]? = some (.cells C 63 (0, 0)) ∧ w'.heap[w.heap.size + 1]? = some (.cells #[.int .i64 2, .int .i64 a1, .int .i64 a2, .int .i64 g0', .int .i64 g1, .int .i64 g2, .int .i64 g3, .int .i64 g4, .int .i64 g5, .int .i64 g6] 67 (0, 0))) W0 := And.intro (td.keep h4 (by simp)) (td.keep h5 (by simp))
      dsimp only at S0
      have HFI : Hid (∀ w5 v, Cq w5 b pv v { S with log := S.log ++ [(⟨g0', g1, g2, g3, g4, g5, g6⟩ : Gz)] } → Touch (b :: lv.ownBlock.toList) W0 w5 → (∀ k, v.ownBlock = some k → lv.ownBlock = some k ∨ W0.heap.size ≤ k) → Iv B w5 b pv v C (.slice ap T.L.length cp) v6 { S with log := S.log ++ [(⟨g0', g1, g2, g3, g4, g5, g6⟩ : Gz)] } { T with log := T.log ++ [(⟨g0', g1, g2, g3, g4, g5, g6⟩ : Gz)] }) := hid (fun w5 v q t hv => hf w5 v q ((td.mono (fun _ e => by cases e)).trans' t) (fun k hk => (hv k hk).imp id (fun e => by have := td.size; omega)))
      have HU := hid (HU0.out W0 (hq.touch td))
      have TW : Hid (Touch (b :: lv.ownBlock.toList) w W0) := hid (tw.trans' (td.mono (fun _ e => by cases e)))
      have B7' := hid (td.keep h7 (by simp))
      clear hs ha hq hf tw h4 h5 h7 td
      have F3 : ∀ w' : World, (w'.heap[w.heap.size]? = some (.cells C 63 (0, 0)) ∧ w'.heap[w.heap.size + 1]? = some (.cells #[.int .i64 2, .int .i64 a1, .int .i64 a2, .int .i64 g0', .int .i64 g1, .int .i64 g2, .int .i64 g3, .int .i64 g4, .int .i64 g5, .int .i64 g6] 67 (0, 0))) → w'.cell? ⟨w.heap.size + 1, 3, none⟩ = some (.int .i64 g0') := fun w' h => cell_at h.2 rfl
      have F4 : ∀ w' : World, (w'.heap[w.heap.size]? = some (.cells C 63 (0, 0)) ∧ w'.heap[w.heap.size + 1]? = some (.cells #[.int .i64 2, .int .i64 a1, .int .i64 a2, .int .i64 g0', .int .i64 g1, .int .i64 g2, .int .i64 g3, .int .i64 g4, .int .i64 g5, .int .i64 g6] 67 (0, 0))) → w'.cell? ⟨w.heap.size + 1, 4, none⟩ = some (.int .i64 g1) := fun w' h => cell_at h.2 rfl
      have F5 : ∀ w' : World, (w'.heap[w.heap.size]? = some (.cells C 63 (0, 0)) ∧ w'.heap[w.heap.size + 1]? = some (.cells #[.int .i64 2, .int .i64 a1, .int .i64 a2, .int .i64 g0', .int .i64 g1, .int .i64 g2, .int .i64 g3, .int .i64 g4, .int .i64 g5, .int .i64 g6] 67 (0, 0))) → w'.cell? ⟨w.heap.size + 1, 5, none⟩ = some (.int .i64 g2) := fun w' h => cell_at h.2 rfl
      have F6 : ∀ w' : World, (w'.heap[w.heap.size]? = some (.cells C 63 (0, 0)) ∧ w'.heap[w.heap.size + 1]? = some (.cells #[.int .i64 2, .int .i64 a1, .int .i64 a2, .int .i64 g0', .int .i64 g1, .int .i64 g2, .int .i64 g3, .int .i64 g4, .int .i64 g5, .int .i64 g6] 67 (0, 0))) → w'.cell? ⟨w.heap.size + 1, 6, none⟩ = some (.int .i64 g3) := fun w' h => cell_at h.2 rfl
      have F7 : ∀ w' : World, (w'.heap[w.heap.size]? = some (.cells C 63 (0, 0)) ∧ w'.heap[w.heap.size + 1]? = some (.cells #[.int .i64 2, .int .i64 a1, .int .i64 a2, .int .i64 g0', .int .i64 g1, .int .i64 g2, .int .i64 g3, .int .i64 g4, .int .i64 g5, .int .i64 g6] 67 (0, 0))) → w'.cell? ⟨w.heap.size + 1, 7, none⟩ = some (.int .i64 g4) := fun w' h => cell_at h.2 rfl
      have F8 : ∀ w' : World, (w'.heap[w.heap.size]? = some (.cells C 63 (0, 0)) ∧ w'.heap[w.heap.size + 1]? = some (.cells #[.int .i64 2, .int .i64 a1, .int .i64 a2, .int .i64 g0', .int .i64 g1, .int .i64 g2, .int .i64 g3, .int .i64 g4, .int .i64 g5, .int .i64 g6] 67 (0, 0))) → w'.cell? ⟨w.heap.size + 1, 8, none⟩ = some (.int .i64 g5) := fun w' h => cell_at h.2 rfl
      have F9 : ∀ w' : World, (w'.heap[w.heap.size]? = some (.cells C 63 (0, 0)) ∧ w'.heap[w.heap.size + 1]? = some (.cells #[.int .i64 2, .int .i64 a1, .int .i64 a2, .int .i64 g0', .int .i64 g1, .int .i64 g2, .int .i64 g3, .int .i64 g4, .int .i64 g5, .int .i64 g6] 67 (0, 0))) → w'.cell? ⟨w.heap.size + 1, 9, none⟩ = some (.int .i64 g6) := fun w' h => cell_at h.2 rfl
      refine wp_region_H (S := fun (w' : World) => w'.heap[w.heap.size]? = some (.cells C 63 (0, 0)) ∧ w'.heap[w.heap.size + 1]? = some (.cells #[.int .i64 2, .int .i64 a1, .int .i64 a2, .int .i64 g0', .int .i64 g1, .int .i64 g2, .int .i64 g3, .int .i64 g4, .int .i64 g5, .int .i64 g6] 67 (0, 0))) (by kernel_rfl) ?_
      rw [← hW0]
      clear hW0
      refine wpH_take (i := 0) (v := (.pointer (some ⟨b, 0, none⟩))) (some 90) rfl rfl (by kernel_rfl) (by kernel_rfl) (by kernel_rfl) (fun _ _ _ h => h) (Or.inl ⟨by rfl, fun w' hS => (by go_simp)⟩) S0 ?_
      try simp only [Go.Act.put, List.setIfInBounds_toArray, List.set_cons_zero, List.set_cons_succ]
      refine wpH_take (i := 1) (v := (.agg C)) (some 91) rfl rfl (by kernel_rfl) (by kernel_rfl) (by kernel_rfl) (fun _ _ _ h => h) (Or.inl ⟨by rfl, fun w' hS => exec_loadT bigS _ rfl rfl hS.1 HN1.out⟩) S0 ?_
      try simp only [Go.Act.put, List.setIfInBounds_toArray, List.set_cons_zero, List.set_cons_succ]
      refine wpH_take (i := 2) (v := (.pointer (some ⟨b, 0, none⟩))) (some 92) rfl rfl (by kernel_rfl) (by kernel_rfl) (by kernel_rfl) (fun _ _ _ h => h) (Or.inl ⟨by rfl, fun w' hS => (by go_simp)⟩) S0 ?_
      try simp only [Go.Act.put, List.setIfInBounds_toArray, List.set_cons_zero, List.set_cons_succ]
      refine wpH_take (i := 3) (v := (.pointer (some ⟨w.heap.size + 1, 3, none⟩))) (some 93) rfl rfl (by kernel_rfl) (by kernel_rfl) (by kernel_rfl) (fun _ _ _ h => h) (Or.inl ⟨by rfl, fun w' hS => (by go_simp)⟩) S0 ?_
      try simp only [Go.Act.put, List.setIfInBounds_toArray, List.set_cons_zero, List.set_cons_succ]
      refine wpH_take (i := 4) (v := (.agg #[.int .i64 g0', .int .i64 g1, .int .i64 g2, .int .i64 g3, .int .i64 g4, .int .i64 g5, .int .i64 g6])) (some 94) rfl rfl (by kernel_rfl) (by kernel_rfl) (by kernel_rfl) (fun _ _ _ h => h) (Or.inl ⟨by rfl, fun w' hS => (by have z0 := F3 _ hS; have z1 := F4 _ hS; have z2 := F5 _ hS; have z3 := F6 _ hS; have z4 := F7 _ hS; have z5 := F8 _ hS; have z6 := F9 _ hS; go_simp)⟩) S0 ?_
      try simp only [Go.Act.put, List.setIfInBounds_toArray, List.set_cons_zero, List.set_cons_succ]
      refine wpH_take (i := 6) (v := (.bool true)) (some 96) rfl rfl (by kernel_rfl) (by kernel_rfl) (by kernel_rfl) (fun _ _ _ h => h) (Or.inl ⟨by rfl, fun w' hS => (by go_simp)⟩) S0 ?_
      try simp only [Go.Act.put, List.setIfInBounds_toArray, List.set_cons_zero, List.set_cons_succ]
      refine wpH_call (i := 5) (o := { dst := some 95, op := Op.call { callee := Callee.value (Operand.func 25), args := #[Operand.tmp 92, Operand.tmp 94], argTypes := #[50, 60] }, type := 23, pos := _, after := #[{ on := 2, ground := Ground.data }, { on := 4, ground := Ground.data }], guard := none }) (by kernel_rfl) rfl (fun K' hK => ?_)
      rw [if_pos (by rfl)]
      go_simp
      refine HU.out.mono ?_
      rintro e w5 ⟨rfl, v5, q5, t5, p5⟩
      have S5 := And.intro (t5.keep S0.1 (HNI.out _ (Nat.le_refl _))) (t5.keep S0.2 (HNI.out _ (by omega)))
      have B75 := hid (t5.keep B7'.out (HNI.out _ (by omega)))
      have F5 := hid (HFI.out _ _ q5 t5 p5)
      have T5 := hid (TW.out.trans t5 (fun k hk => Or.inl hk))
      clear t5 q5 p5
      refine hK.out _ _ S5 ?_
      clear hK
      try simp only [Go.Act.put, List.setIfInBounds_toArray, List.set_cons_zero, List.set_cons_succ]
      refine wpH_call (i := 7) (o := { dst := some 97, op := Op.call { callee := Callee.value (Operand.func 41), args := #[Operand.tmp 96, Operand.const (Value.int IntKind.i64 1)], argTypes := #[4, 23] }, type := 23, pos := _, after := #[{ on := 6, ground := Ground.data }, { on := 5, ground := Ground.chain }], guard := none }) (by kernel_rfl) rfl (fun K' hK => ?_)
      rw [if_pos (by rfl)]
      go_simp
      refine (HWT.out _).mono ?_
      rintro e w6 ⟨rfl, e6⟩
      rw [e6]
      clear e6 w6
      refine hK.out _ _ S5 ?_
      clear hK
      try simp only [Go.Act.put, List.setIfInBounds_toArray, List.set_cons_zero, List.set_cons_succ]
      refine wpH_take (i := 8) (v := (.bool true)) (some 98) rfl rfl (by kernel_rfl) (by kernel_rfl) (by kernel_rfl) (fun _ _ _ h => h) (Or.inl ⟨by rfl, fun w' hS => (by go_simp)⟩) S5 ?_
      try simp only [Go.Act.put, List.setIfInBounds_toArray, List.set_cons_zero, List.set_cons_succ]
      refine wpH_take (i := 9) (v := (.pointer (some ⟨b, 0, none⟩))) (some 6) rfl rfl (by kernel_rfl) (by kernel_rfl) (by kernel_rfl) (fun _ _ _ h => h) (Or.inl ⟨by rfl, fun w' hS => (by go_simp)⟩) S5 ?_
      try simp only [Go.Act.put, List.setIfInBounds_toArray, List.set_cons_zero, List.set_cons_succ]
      refine wpH_call (i := 10) (o := { dst := none, op := Op.store 63 (Operand.tmp 7) (Operand.tmp 91), type := 0, pos := _, after := #[{ on := 1, ground := Ground.data }, { on := 9, ground := Ground.chain }, { on := 0, ground := Ground.phase }, { on := 1, ground := Ground.phase }, { on := 2, ground := Ground.textOnly Departure.lateStores }, { on := 3, ground := Ground.textOnly Departure.lateStores }, { on := 4, ground := Ground.textOnly Departure.lateStores }, { on := 5, ground := Ground.textOnly Departure.lateStoresUnsure }, { on := 6, ground := Ground.textOnly Departure.lateStores }, { on := 7, ground := Ground.textOnly Departure.lateStoresUnsure }, { on := 8, ground := Ground.textOnly Departure.lateStores }, { on := 9, ground := Ground.phase }], guard := none }) (by kernel_rfl) rfl (fun K' hK => ?_)
      rw [if_pos (by rfl)]
      refine wp_storeT bigS (Operand.tmp 7) (Operand.tmp 91) rfl (w.heap.size + 2) _ C 63 rfl rfl B75.out zs_size HN1.out HO1.out (fun w7 h7 t7 s7 => ?_)
      have S7 := And.intro (t7.keep S5.1 (by simp)) (t7.keep S5.2 (by simp))
      refine hK.out _ _ S7 ?_
      clear hK
      try simp only [Go.Act.put, List.setIfInBounds_toArray, List.set_cons_zero, List.set_cons_succ]
      refine wpH_take (i := 11) (v := (.bool true)) (some 8) rfl rfl (by kernel_rfl) (by kernel_rfl) (by kernel_rfl) (fun _ _ _ h => h) (Or.inl ⟨by rfl, fun w' hS => (by go_simp)⟩) S7 ?_
      try simp only [Go.Act.put, List.setIfInBounds_toArray, List.set_cons_zero, List.set_cons_succ]
      refine wpAnyH_done (by kernel_rfl) ?_ _
      go_wp2_with fail
      refine bodyPost_ret (results_one rfl _ _ rfl h7 HN1.out) rfl ?_
      exact ⟨b, pv, v5, _, _, _, _, _, rfl, F5.out.box B75.out t7, by simp, rfl, T5.out.trans t7 (fun k hk => Or.inr (by simp at hk; omega))⟩
  · go_enter Tryd.func18, Tryd.ntmps18
    go_upto_region 1 with fail
    rw [← hV]
    clear hV
    have v0 := cell_at (j := 0) B5.out rfl
    have v1 := cell_at (j := 1) B5.out rfl
    have v2 := cell_at (j := 2) B5.out rfl
    have v3 := cell_at (j := 3) B5.out rfl
    have v4 := cell_at (j := 4) B5.out rfl
    have v5 := cell_at (j := 5) B5.out rfl
    have v6 := cell_at (j := 6) B5.out rfl
    have v7 := cell_at (j := 7) B5.out rfl
    have v8 := cell_at (j := 8) B5.out rfl
    have v9 := cell_at (j := 9) B5.out rfl
    go_upto_region 17 with (first
      | (refine wpList_loadT bigS rfl _ rfl w.heap.size cs 63 (0, 0) rfl B4.out HI.out.s.n ?_)
      | (go_at_call 42; refine (HM.out _).mono ?_; rintro e w1 ⟨rfl, t1⟩; have T1 := hid t1; clear t1 v0 v1 v2 v3 v4 v5 v6 v7 v8 v9))
    obtain ⟨W4, hW4⟩ : ∃ W4, W4 = w1 := ⟨_, rfl⟩
    rw [← hW4] at T1 ⊢
    clear hW4
    go_cut [] from 81 to 89 (fun wx => Hid (HadX B b w pv lv (.slice ap T.L.length cp) S T a1 a2 g0' g1 g2 g3 g4 g5 g6 wx))
    case first =>
      have FI := (HI.out.touch TV.out).touch T1.out
      have b4 := T1.out.keep B4.out (by simp)
      have b5 := T1.out.keep B5.out (by simp)
      have b7 := T1.out.keep B7.out (by simp)
      have hz := T1.out.size
      have hz2 := TV.out.size
      have HFN : Hid (∀ (C : World) (v : Value), Touch [] W4 C → C.ownsRow W4.heap.size 60 7 v (T.log ++ [(⟨g0', g1, g2, g3, g4, g5, g6⟩ : Gz)]).length (cellsG (T.log ++ [(⟨g0', g1, g2, g3, g4, g5, g6⟩ : Gz)])) → Hid (HadX B b w pv lv (.slice ap T.L.length cp) S T a1 a2 g0' g1 g2 g3 g4 g5 g6 (C.setCell ⟨w.heap.size, 3, none⟩ v))) := hid (fun C v tC o => by
        have ts : Touch [w.heap.size] C (C.setCell ⟨w.heap.size, 3, none⟩ v) := (Touch.refl _ C).setCell (Or.inl (by simp)) _
        have c4 := tC.keep b4 (by simp)
        have hzC := tC.size
        have hsc := HI.out.s.setLog v (T.log ++ [(⟨g0', g1, g2, g3, g4, g5, g6⟩ : Gz)])
        obtain ⟨ao, co, eo⟩ := own_form o
        have FI0 := (FI.touch tC).box c4 ts
        exact hid ⟨_, v, bset c4 _, ts.keep (tC.keep b5 (by simp)) (by simp), ts.keep (tC.keep b7 (by simp)) (by simp), (((TV.out.trans' T1.out).trans' tC).mono (fun _ e => by cases e)).trans ts (fun k hk => Or.inr (by simp at hk; omega)), hsc, hsc.one rfl (by rw [eo]; rfl), FI0.q, fun w5 v' q t hv => FI0.had (by have := FI0.bb; have := FI0.q.lt; omega) (fun k hk => by have := HLV.out k hk; omega) (own_touch o ts (kind_ne o c4 (by decide))) hsc q t hv⟩)
      have HRD : Hid (∀ w', Touch [] W4 w' → Rs 60 7 w' (.slice a2' T.log.length c2') T.log.length (cellsG T.log)) := hid (fun w' t => Rs.of_own ((FI.touch t).g2))
      have HN4 : Hid (∀ w', Touch [] W4 w' → w'.cell? ⟨w.heap.size, 3, none⟩ = some (.slice a2' T.log.length c2') ∧ ∀ j, w'.frozen? ⟨w.heap.size, j, none⟩ = false) := hid (fun w' t => ⟨cell_at (t.keep b4 (by simp)) HL3.out, froz_at (t.keep b4 (by simp))⟩)
      have C3 : ∀ w', Touch [] W4 w' → w'.cell? ⟨w.heap.size, 3, none⟩ = some (.slice a2' T.log.length c2') := fun w' t => (HN4.out w' t).1
      have X0 : ∀ w', Touch [] W4 w' → w'.cell? ⟨w.heap.size + 1, 3, none⟩ = some (.int .i64 g0') := fun w' t => cell_at (t.keep b5 (by simp)) rfl
      have X1 : ∀ w', Touch [] W4 w' → w'.cell? ⟨w.heap.size + 1, 4, none⟩ = some (.int .i64 g1) := fun w' t => cell_at (t.keep b5 (by simp)) rfl
      have X2 : ∀ w', Touch [] W4 w' → w'.cell? ⟨w.heap.size + 1, 5, none⟩ = some (.int .i64 g2) := fun w' t => cell_at (t.keep b5 (by simp)) rfl
      have X3 : ∀ w', Touch [] W4 w' → w'.cell? ⟨w.heap.size + 1, 6, none⟩ = some (.int .i64 g3) := fun w' t => cell_at (t.keep b5 (by simp)) rfl
      have X4 : ∀ w', Touch [] W4 w' → w'.cell? ⟨w.heap.size + 1, 7, none⟩ = some (.int .i64 g4) := fun w' t => cell_at (t.keep b5 (by simp)) rfl
      have X5 : ∀ w', Touch [] W4 w' → w'.cell? ⟨w.heap.size + 1, 8, none⟩ = some (.int .i64 g5) := fun w' t => cell_at (t.keep b5 (by simp)) rfl
      have X6 : ∀ w', Touch [] W4 w' → w'.cell? ⟨w.heap.size + 1, 9, none⟩ = some (.int .i64 g6) := fun w' t => cell_at (t.keep b5 (by simp)) rfl
      clear FI b4 b5 b7 hz hz2
      refine wp_region_L (S := fun w' => Touch [] W4 w') (st := 9) (by kernel_rfl) ?_
      obtain ⟨D0, hD0⟩ : ∃ D0, D0 = W4.drew := ⟨_, rfl⟩
      rw [← hD0]
      have q0 : SiG W4 D0 (⟨g0', g1, g2, g3, g4, g5, g6⟩ : Gz) none none := ⟨by rw [hD0]; exact (Touch.refl _ _).drew, fun _ _ e => (by cases e), fun _ e => (by cases e), fun _ _ _ _ e => (by cases e)⟩
      have k0 := q0.t
      clear hD0
      refine wpL_take (i := 1) (v := (.pointer (some ⟨w.heap.size, 3, none⟩))) (some 82) rfl rfl (by kernel_rfl) (by kernel_rfl) (by kernel_rfl) (by kernel_rfl) (by kernel_rfl) (by decide) (fun _ _ _ h => h) (Or.inl ⟨by rfl, fun w' hS => (by go_simp)⟩) k0 ?_
      try simp only [Go.Act.put, List.setIfInBounds_toArray, List.set_cons_zero, List.set_cons_succ]
      refine wpL_take (i := 2) (v := (.slice a2' T.log.length c2')) (some 83) rfl rfl (by kernel_rfl) (by kernel_rfl) (by kernel_rfl) (by kernel_rfl) (by kernel_rfl) (by decide) (fun _ _ _ h => h) (Or.inl ⟨by rfl, fun w' hS => (by have z0 := C3 _ hS; go_simp)⟩) k0 ?_
      try simp only [Go.Act.put, List.setIfInBounds_toArray, List.set_cons_zero, List.set_cons_succ]
      refine wpL_take (i := 4) (v := (.pointer (some ⟨w.heap.size + 1, 3, none⟩))) (some 85) rfl rfl (by kernel_rfl) (by kernel_rfl) (by kernel_rfl) (by kernel_rfl) (by kernel_rfl) (by decide) (fun _ _ _ h => h) (Or.inl ⟨by rfl, fun w' hS => (by go_simp)⟩) k0 ?_
      try simp only [Go.Act.put, List.setIfInBounds_toArray, List.set_cons_zero, List.set_cons_succ]
      refine wpL_take (i := 5) (v := (.agg #[.int .i64 g0', .int .i64 g1, .int .i64 g2, .int .i64 g3, .int .i64 g4, .int .i64 g5, .int .i64 g6])) (some 86) rfl rfl (by kernel_rfl) (by kernel_rfl) (by kernel_rfl) (by kernel_rfl) (by kernel_rfl) (by decide) (fun _ _ _ h => h) (Or.inl ⟨by rfl, fun w' hS => (by have z0 := X0 _ hS; have z1 := X1 _ hS; have z2 := X2 _ hS; have z3 := X3 _ hS; have z4 := X4 _ hS; have z5 := X5 _ hS; have z6 := X6 _ hS; go_simp)⟩) k0 ?_
      try simp only [Go.Act.put, List.setIfInBounds_toArray, List.set_cons_zero, List.set_cons_succ]
      refine wpL_ready (rs := [0, 6]) (by kernel_rfl) (by simp) ?_
      refine AllL.cons (o := { dst := some 81, op := Op.buildSlice 53 0 #[], type := 53, pos := _, after := #[], guard := none }) rfl (fun K' hK => ?_) ?_
      · rw [if_pos (by rfl)]
        go_simp
        refine hK.out _ _ (fun _ => (k0.alloc _)) ?_
        clear hK
        try simp only [Go.Act.put, List.setIfInBounds_toArray, List.set_cons_zero, List.set_cons_succ]
        have q1 := q0.new0
        obtain ⟨E1, hE1⟩ : ∃ E, E = D0.alloc (.cells #[] 60) := ⟨_, rfl⟩
        rw [← hE1] at q1 ⊢
        clear hE1
        have k1 := q1.t
        refine wpL_ready (rs := [3, 6]) (by kernel_rfl) (by simp) ?_
        refine AllL.cons (o := { dst := some 84, op := Op.call { callee := Callee.builtin Builtin.append, args := #[Operand.tmp 81, Operand.tmp 83], argTypes := #[53, 53] }, type := 53, pos := _, after := #[{ on := 0, ground := Ground.data }, { on := 2, ground := Ground.data }], guard := none }) rfl (fun K' hK => ?_) ?_
        · rw [if_pos (by rfl)]
          refine wp_append_rs _ _ 53 60 rfl _ 7 56 infoG Tryd.underlying53 rfl (by decide) W4.heap.size (.slice (some ⟨D0.heap.size, 0, none⟩) 0 0) 0 [] rfl (q1.row _ _ rfl) (.slice a2' T.log.length c2') T.log.length (cellsG T.log) rfl (HRD.out _ k1) (cellsG_one _) (by have := HLE.out; unfold maxLen; omega) (by have := HLE.out; omega) k1.size ?_
          intro v2 w2 o2 g2' p2
          rw [Nat.zero_add, List.nil_append] at o2
          obtain ⟨a2, c2, e2⟩ := own_form o2
          subst e2
          have q2 := q1.app (n := 0) (xs := []) (A5 := T.log) o2 g2' p2
          have k2 := q2.t
          clear o2 g2' p2
          refine hK.out _ _ (fun _ => k2) ?_
          clear hK
          try simp only [Go.Act.put, List.setIfInBounds_toArray, List.set_cons_zero, List.set_cons_succ]
          refine wpL_ready (rs := [6]) (by kernel_rfl) (by simp) (AllL.cons (o := { dst := some 87, op := Op.buildSlice 53 1 #[(0, Operand.tmp 86)], type := 53, pos := _, after := #[{ on := 5, ground := Ground.data }], guard := none }) rfl (fun K' hK => ?_) AllL.nil)
          rw [if_pos (by rfl)]
          go_simp
          refine hK.out _ _ (fun _ => (k2.alloc _)) ?_
          clear hK
          try simp only [Go.Act.put, List.setIfInBounds_toArray, List.set_cons_zero, List.set_cons_succ]
          have q3 := q2.newx
          obtain ⟨E3, hE3⟩ : ∃ E, E = w2.alloc (.cells #[.int .i64 g0', .int .i64 g1, .int .i64 g2, .int .i64 g3, .int .i64 g4, .int .i64 g5, .int .i64 g6] 60) := ⟨_, rfl⟩
          dsimp only at q3
          rw [← hE3] at q3 ⊢
          clear hE3
          have k3 := q3.t
          refine wpL_ready (rs := [7]) (by kernel_rfl) (by simp) (AllL.cons (o := { dst := some 88, op := Op.call { callee := Callee.builtin Builtin.append, args := #[Operand.tmp 84, Operand.tmp 87], argTypes := #[53, 53] }, type := 53, pos := _, after := #[{ on := 3, ground := Ground.data }, { on := 6, ground := Ground.data }, { on := 3, ground := Ground.chain }], guard := none }) rfl (fun K' hK => ?_) AllL.nil)
          rw [if_pos (by rfl)]
          refine wp_append_rs _ _ 53 60 rfl _ 7 56 infoG Tryd.underlying53 rfl (by decide) W4.heap.size (.slice a2 T.log.length c2) T.log.length (cellsG T.log) rfl (q3.row _ _ rfl) (.slice (some ⟨w2.heap.size, 0, none⟩) 1 1) 1 (Gz.cells (⟨g0', g1, g2, g3, g4, g5, g6⟩ : Gz)) rfl (q3.one _ rfl).1 (by simp [Gz.cells, Value.oneCell']) (by have := HLE.out; unfold maxLen; omega) (by have := HLE.out; omega) k3.size ?_
          intro v4 w4 o4 g4' p4
          obtain ⟨a4, c4, e4⟩ := own_form o4
          subst e4
          have q4 := q3.app (n := 0) (xs := []) (A5 := T.log ++ [(⟨g0', g1, g2, g3, g4, g5, g6⟩ : Gz)]) (by rw [cellsG_snoc, List.length_append]; exact o4) g4' p4
          have k4 := q4.t
          clear o4 g4' p4
          refine hK.out _ _ (fun _ => k4) ?_
          clear hK
          try simp only [Go.Act.put, List.setIfInBounds_toArray, List.set_cons_zero, List.set_cons_succ]
          refine wpL_take (i := 8) (v := (.pointer (some ⟨w.heap.size, 3, none⟩))) (some 89) rfl rfl (by kernel_rfl) (by kernel_rfl) (by kernel_rfl) (by kernel_rfl) (by kernel_rfl) (by decide) (fun _ _ _ h => h) (Or.inl ⟨by rfl, fun w' hS => (by go_simp)⟩) k4 ?_
          try simp only [Go.Act.put, List.setIfInBounds_toArray, List.set_cons_zero, List.set_cons_succ]
          refine wpL_ready (rs := [9]) (by kernel_rfl) (by simp) (AllL.cons (o := { dst := none, op := Op.store 53 (Operand.tmp 89) (Operand.tmp 88), type := 0, pos := _, after := #[{ on := 8, ground := Ground.data }, { on := 7, ground := Ground.data }, { on := 7, ground := Ground.chain }, { on := 0, ground := Ground.phase }, { on := 1, ground := Ground.phase }, { on := 2, ground := Ground.phase }, { on := 3, ground := Ground.phase }, { on := 4, ground := Ground.phase }, { on := 5, ground := Ground.phase }, { on := 6, ground := Ground.phase }, { on := 7, ground := Ground.phase }], guard := none }) rfl (fun K' hK => ?_) AllL.nil)
          rw [if_pos (by rfl)]
          obtain ⟨y0, yf⟩ := HN4.out _ k4
          have HQ := hid (HFN.out w4 (.slice a4 (T.log.length + 1) c4) k4 (q4.row _ _ rfl))
          clear C3 X0 X1 X2 X3 X4 X5 X6 HRD HFN HN4
          go_simp
          refine hK.out _ _ (fun h => absurd h (by decide)) ?_
          clear hK
          try simp only [Go.Act.put, List.setIfInBounds_toArray, List.set_cons_zero, List.set_cons_succ]
          refine wpL_done (by kernel_rfl) ?_ _
          go_wp2_with fail
          go_meet
          case rel =>
            exact HQ.out
        refine AllL.cons (o := { dst := some 87, op := Op.buildSlice 53 1 #[(0, Operand.tmp 86)], type := 53, pos := _, after := #[{ on := 5, ground := Ground.data }], guard := none }) rfl (fun K' hK => ?_) ?_
        · rw [if_pos (by rfl)]
          go_simp
          refine hK.out _ _ (fun _ => (k1.alloc _)) ?_
          clear hK
          try simp only [Go.Act.put, List.setIfInBounds_toArray, List.set_cons_zero, List.set_cons_succ]
          have q6 := q1.newx
          obtain ⟨E6, hE6⟩ : ∃ E, E = E1.alloc (.cells #[.int .i64 g0', .int .i64 g1, .int .i64 g2, .int .i64 g3, .int .i64 g4, .int .i64 g5, .int .i64 g6] 60) := ⟨_, rfl⟩
          dsimp only at q6
          rw [← hE6] at q6 ⊢
          clear hE6
          have k6 := q6.t
          refine wpL_ready (rs := [3]) (by kernel_rfl) (by simp) (AllL.cons (o := { dst := some 84, op := Op.call { callee := Callee.builtin Builtin.append, args := #[Operand.tmp 81, Operand.tmp 83], argTypes := #[53, 53] }, type := 53, pos := _, after := #[{ on := 0, ground := Ground.data }, { on := 2, ground := Ground.data }], guard := none }) rfl (fun K' hK => ?_) AllL.nil)
          rw [if_pos (by rfl)]
          refine wp_append_rs _ _ 53 60 rfl _ 7 56 infoG Tryd.underlying53 rfl (by decide) W4.heap.size (.slice (some ⟨D0.heap.size, 0, none⟩) 0 0) 0 [] rfl (q6.row _ _ rfl) (.slice a2' T.log.length c2') T.log.length (cellsG T.log) rfl (HRD.out _ k6) (cellsG_one _) (by have := HLE.out; unfold maxLen; omega) (by have := HLE.out; omega) k6.size ?_
          intro v7 w7 o7 g7' p7
          rw [Nat.zero_add, List.nil_append] at o7
          obtain ⟨a7, c7, e7⟩ := own_form o7
          subst e7
          have q7 := q6.app (n := 0) (xs := []) (A5 := T.log) o7 g7' p7
          have k7 := q7.t
          clear o7 g7' p7
          refine hK.out _ _ (fun _ => k7) ?_
          clear hK
          try simp only [Go.Act.put, List.setIfInBounds_toArray, List.set_cons_zero, List.set_cons_succ]
          refine wpL_ready (rs := [7]) (by kernel_rfl) (by simp) (AllL.cons (o := { dst := some 88, op := Op.call { callee := Callee.builtin Builtin.append, args := #[Operand.tmp 84, Operand.tmp 87], argTypes := #[53, 53] }, type := 53, pos := _, after := #[{ on := 3, ground := Ground.data }, { on := 6, ground := Ground.data }, { on := 3, ground := Ground.chain }], guard := none }) rfl (fun K' hK => ?_) AllL.nil)
          rw [if_pos (by rfl)]
          refine wp_append_rs _ _ 53 60 rfl _ 7 56 infoG Tryd.underlying53 rfl (by decide) W4.heap.size (.slice a7 T.log.length c7) T.log.length (cellsG T.log) rfl (q7.row _ _ rfl) (.slice (some ⟨E1.heap.size, 0, none⟩) 1 1) 1 (Gz.cells (⟨g0', g1, g2, g3, g4, g5, g6⟩ : Gz)) rfl (q7.one _ rfl).1 (by simp [Gz.cells, Value.oneCell']) (by have := HLE.out; unfold maxLen; omega) (by have := HLE.out; omega) k7.size ?_
          intro v8 w8 o8 g8' p8
          obtain ⟨a8, c8, e8⟩ := own_form o8
          subst e8
          have q8 := q7.app (n := 0) (xs := []) (A5 := T.log ++ [(⟨g0', g1, g2, g3, g4, g5, g6⟩ : Gz)]) (by rw [cellsG_snoc, List.length_append]; exact o8) g8' p8
          have k8 := q8.t
          clear o8 g8' p8
          refine hK.out _ _ (fun _ => k8) ?_
          clear hK
          try simp only [Go.Act.put, List.setIfInBounds_toArray, List.set_cons_zero, List.set_cons_succ]
          refine wpL_take (i := 8) (v := (.pointer (some ⟨w.heap.size, 3, none⟩))) (some 89) rfl rfl (by kernel_rfl) (by kernel_rfl) (by kernel_rfl) (by kernel_rfl) (by kernel_rfl) (by decide) (fun _ _ _ h => h) (Or.inl ⟨by rfl, fun w' hS => (by go_simp)⟩) k8 ?_
          try simp only [Go.Act.put, List.setIfInBounds_toArray, List.set_cons_zero, List.set_cons_succ]
          refine wpL_ready (rs := [9]) (by kernel_rfl) (by simp) (AllL.cons (o := { dst := none, op := Op.store 53 (Operand.tmp 89) (Operand.tmp 88), type := 0, pos := _, after := #[{ on := 8, ground := Ground.data }, { on := 7, ground := Ground.data }, { on := 7, ground := Ground.chain }, { on := 0, ground := Ground.phase }, { on := 1, ground := Ground.phase }, { on := 2, ground := Ground.phase }, { on := 3, ground := Ground.phase }, { on := 4, ground := Ground.phase }, { on := 5, ground := Ground.phase }, { on := 6, ground := Ground.phase }, { on := 7, ground := Ground.phase }], guard := none }) rfl (fun K' hK => ?_) AllL.nil)
          rw [if_pos (by rfl)]
          obtain ⟨y0, yf⟩ := HN4.out _ k8
          have HQ := hid (HFN.out w8 (.slice a8 (T.log.length + 1) c8) k8 (q8.row _ _ rfl))
          clear C3 X0 X1 X2 X3 X4 X5 X6 HRD HFN HN4
          go_simp
          refine hK.out _ _ (fun h => absurd h (by decide)) ?_
          clear hK
          try simp only [Go.Act.put, List.setIfInBounds_toArray, List.set_cons_zero, List.set_cons_succ]
          refine wpL_done (by kernel_rfl) ?_ _
          go_wp2_with fail
          go_meet
          case rel =>
            exact HQ.out
        exact AllL.nil
      refine AllL.cons (o := { dst := some 87, op := Op.buildSlice 53 1 #[(0, Operand.tmp 86)], type := 53, pos := _, after := #[{ on := 5, ground := Ground.data }], guard := none }) rfl (fun K' hK => ?_) ?_
      · rw [if_pos (by rfl)]
        go_simp
        refine hK.out _ _ (fun _ => (k0.alloc _)) ?_
        clear hK
        try simp only [Go.Act.put, List.setIfInBounds_toArray, List.set_cons_zero, List.set_cons_succ]
        have q10 := q0.newx
        obtain ⟨E10, hE10⟩ : ∃ E, E = D0.alloc (.cells #[.int .i64 g0', .int .i64 g1, .int .i64 g2, .int .i64 g3, .int .i64 g4, .int .i64 g5, .int .i64 g6] 60) := ⟨_, rfl⟩
        dsimp only at q10
        rw [← hE10] at q10 ⊢
        clear hE10
        have k10 := q10.t
        refine wpL_ready (rs := [0]) (by kernel_rfl) (by simp) (AllL.cons (o := { dst := some 81, op := Op.buildSlice 53 0 #[], type := 53, pos := _, after := #[], guard := none }) rfl (fun K' hK => ?_) AllL.nil)
        rw [if_pos (by rfl)]
        go_simp
        refine hK.out _ _ (fun _ => (k10.alloc _)) ?_
        clear hK
        try simp only [Go.Act.put, List.setIfInBounds_toArray, List.set_cons_zero, List.set_cons_succ]
        have q11 := q10.new0
        obtain ⟨E11, hE11⟩ : ∃ E, E = E10.alloc (.cells #[] 60) := ⟨_, rfl⟩
        rw [← hE11] at q11 ⊢
        clear hE11
        have k11 := q11.t
        refine wpL_ready (rs := [3]) (by kernel_rfl) (by simp) (AllL.cons (o := { dst := some 84, op := Op.call { callee := Callee.builtin Builtin.append, args := #[Operand.tmp 81, Operand.tmp 83], argTypes := #[53, 53] }, type := 53, pos := _, after := #[{ on := 0, ground := Ground.data }, { on := 2, ground := Ground.data }], guard := none }) rfl (fun K' hK => ?_) AllL.nil)
        rw [if_pos (by rfl)]
        refine wp_append_rs _ _ 53 60 rfl _ 7 56 infoG Tryd.underlying53 rfl (by decide) W4.heap.size (.slice (some ⟨E10.heap.size, 0, none⟩) 0 0) 0 [] rfl (q11.row _ _ rfl) (.slice a2' T.log.length c2') T.log.length (cellsG T.log) rfl (HRD.out _ k11) (cellsG_one _) (by have := HLE.out; unfold maxLen; omega) (by have := HLE.out; omega) k11.size ?_
        intro v12 w12 o12 g12' p12
        rw [Nat.zero_add, List.nil_append] at o12
        obtain ⟨a12, c12, e12⟩ := own_form o12
        subst e12
        have q12 := q11.app (n := 0) (xs := []) (A5 := T.log) o12 g12' p12
        have k12 := q12.t
        clear o12 g12' p12
        refine hK.out _ _ (fun _ => k12) ?_
        clear hK
        try simp only [Go.Act.put, List.setIfInBounds_toArray, List.set_cons_zero, List.set_cons_succ]
        refine wpL_ready (rs := [7]) (by kernel_rfl) (by simp) (AllL.cons (o := { dst := some 88, op := Op.call { callee := Callee.builtin Builtin.append, args := #[Operand.tmp 84, Operand.tmp 87], argTypes := #[53, 53] }, type := 53, pos := _, after := #[{ on := 3, ground := Ground.data }, { on := 6, ground := Ground.data }, { on := 3, ground := Ground.chain }], guard := none }) rfl (fun K' hK => ?_) AllL.nil)
        rw [if_pos (by rfl)]
        refine wp_append_rs _ _ 53 60 rfl _ 7 56 infoG Tryd.underlying53 rfl (by decide) W4.heap.size (.slice a12 T.log.length c12) T.log.length (cellsG T.log) rfl (q12.row _ _ rfl) (.slice (some ⟨D0.heap.size, 0, none⟩) 1 1) 1 (Gz.cells (⟨g0', g1, g2, g3, g4, g5, g6⟩ : Gz)) rfl (q12.one _ rfl).1 (by simp [Gz.cells, Value.oneCell']) (by have := HLE.out; unfold maxLen; omega) (by have := HLE.out; omega) k12.size ?_
        intro v13 w13 o13 g13' p13
        obtain ⟨a13, c13, e13⟩ := own_form o13
        subst e13
        have q13 := q12.app (n := 0) (xs := []) (A5 := T.log ++ [(⟨g0', g1, g2, g3, g4, g5, g6⟩ : Gz)]) (by rw [cellsG_snoc, List.length_append]; exact o13) g13' p13
        have k13 := q13.t
        clear o13 g13' p13
        refine hK.out _ _ (fun _ => k13) ?_
        clear hK
        try simp only [Go.Act.put, List.setIfInBounds_toArray, List.set_cons_zero, List.set_cons_succ]
        refine wpL_take (i := 8) (v := (.pointer (some ⟨w.heap.size, 3, none⟩))) (some 89) rfl rfl (by kernel_rfl) (by kernel_rfl) (by kernel_rfl) (by kernel_rfl) (by kernel_rfl) (by decide) (fun _ _ _ h => h) (Or.inl ⟨by rfl, fun w' hS => (by go_simp)⟩) k13 ?_
        try simp only [Go.Act.put, List.setIfInBounds_toArray, List.set_cons_zero, List.set_cons_succ]
        refine wpL_ready (rs := [9]) (by kernel_rfl) (by simp) (AllL.cons (o := { dst := none, op := Op.store 53 (Operand.tmp 89) (Operand.tmp 88), type := 0, pos := _, after := #[{ on := 8, ground := Ground.data }, { on := 7, ground := Ground.data }, { on := 7, ground := Ground.chain }, { on := 0, ground := Ground.phase }, { on := 1, ground := Ground.phase }, { on := 2, ground := Ground.phase }, { on := 3, ground := Ground.phase }, { on := 4, ground := Ground.phase }, { on := 5, ground := Ground.phase }, { on := 6, ground := Ground.phase }, { on := 7, ground := Ground.phase }], guard := none }) rfl (fun K' hK => ?_) AllL.nil)
        rw [if_pos (by rfl)]
        obtain ⟨y0, yf⟩ := HN4.out _ k13
        have HQ := hid (HFN.out w13 (.slice a13 (T.log.length + 1) c13) k13 (q13.row _ _ rfl))
        clear C3 X0 X1 X2 X3 X4 X5 X6 HRD HFN HN4
        go_simp
        refine hK.out _ _ (fun h => absurd h (by decide)) ?_
        clear hK
        try simp only [Go.Act.put, List.setIfInBounds_toArray, List.set_cons_zero, List.set_cons_succ]
        refine wpL_done (by kernel_rfl) ?_ _
        go_wp2_with fail
        go_meet
        case rel =>
          exact HQ.out
      exact AllL.nil
    case rest =>
      have HC := hcut
      clear hcut T1
      obtain ⟨C, v6, h4, h5, h7, tw, hs, ha, hq, hf⟩ := HC.out
      have HN1 := hid hs.n
      have HO1 := hid ha
      go_upto_region 18 with fail
      obtain ⟨W0, hW0⟩ : ∃ W0, W0 = wc.drew := ⟨_, rfl⟩
      have td : Touch [] wc W0 := by rw [hW0]; exact (Touch.refl _ _).drew
      have S0 : (fun (w' : World) => w'.heap[w.heap.size]? = some (.cells C 63 (0, 0)) ∧ w'.heap[w.heap.size + 1]? = some (.cells #[.int .i64 2, .int .i64 a1, .int .i64 a2, .int .i64 g0', .int .i64 g1, .int .i64 g2, .int .i64 g3, .int .i64 g4, .int .i64 g5, .int .i64 g6] 67 (0, 0))) W0 := And.intro (td.keep h4 (by simp)) (td.keep h5 (by simp))
      dsimp only at S0
      have HFI : Hid (∀ w5 v, Cq w5 b pv v { S with log := S.log ++ [(⟨g0', g1, g2, g3, g4, g5, g6⟩ : Gz)] } → Touch (b :: lv.ownBlock.toList) W0 w5 → (∀ k, v.ownBlock = some k → lv.ownBlock = some k ∨ W0.heap.size ≤ k) → Iv B w5 b pv v C (.slice ap T.L.length cp) v6 { S with log := S.log ++ [(⟨g0', g1, g2, g3, g4, g5, g6⟩ : Gz)] } { T with log := T.log ++ [(⟨g0', g1, g2, g3, g4, g5, g6⟩ : Gz)] }) := hid (fun w5 v q t hv => hf w5 v q ((td.mono (fun _ e => by cases e)).trans' t) (fun k hk => (hv k hk).imp id (fun e => by have := td.size; omega)))
      have HU := hid (HU0.out W0 (hq.touch td))
      have TW : Hid (Touch (b :: lv.ownBlock.toList) w W0) := hid (tw.trans' (td.mono (fun _ e => by cases e)))
      have B7' := hid (td.keep h7 (by simp))
      clear hs ha hq hf tw h4 h5 h7 td
      have F3 : ∀ w' : World, (w'.heap[w.heap.size]? = some (.cells C 63 (0, 0)) ∧ w'.heap[w.heap.size + 1]? = some (.cells #[.int .i64 2, .int .i64 a1, .int .i64 a2, .int .i64 g0', .int .i64 g1, .int .i64 g2, .int .i64 g3, .int .i64 g4, .int .i64 g5, .int .i64 g6] 67 (0, 0))) → w'.cell? ⟨w.heap.size + 1, 3, none⟩ = some (.int .i64 g0') := fun w' h => cell_at h.2 rfl
      have F4 : ∀ w' : World, (w'.heap[w.heap.size]? = some (.cells C 63 (0, 0)) ∧ w'.heap[w.heap.size + 1]? = some (.cells #[.int .i64 2, .int .i64 a1, .int .i64 a2, .int .i64 g0', .int .i64 g1, .int .i64 g2, .int .i64 g3, .int .i64 g4, .int .i64 g5, .int .i64 g6] 67 (0, 0))) → w'.cell? ⟨w.heap.size + 1, 4, none⟩ = some (.int .i64 g1) := fun w' h => cell_at h.2 rfl
      have F5 : ∀ w' : World, (w'.heap[w.heap.size]? = some (.cells C 63 (0, 0)) ∧ w'.heap[w.heap.size + 1]? = some (.cells #[.int .i64 2, .int .i64 a1, .int .i64 a2, .int .i64 g0', .int .i64 g1, .int .i64 g2, .int .i64 g3, .int .i64 g4, .int .i64 g5, .int .i64 g6] 67 (0, 0))) → w'.cell? ⟨w.heap.size + 1, 5, none⟩ = some (.int .i64 g2) := fun w' h => cell_at h.2 rfl
      have F6 : ∀ w' : World, (w'.heap[w.heap.size]? = some (.cells C 63 (0, 0)) ∧ w'.heap[w.heap.size + 1]? = some (.cells #[.int .i64 2, .int .i64 a1, .int .i64 a2, .int .i64 g0', .int .i64 g1, .int .i64 g2, .int .i64 g3, .int .i64 g4, .int .i64 g5, .int .i64 g6] 67 (0, 0))) → w'.cell? ⟨w.heap.size + 1, 6, none⟩ = some (.int .i64 g3) := fun w' h => cell_at h.2 rfl
      have F7 : ∀ w' : World, (w'.heap[w.heap.size]? = some (.cells C 63 (0, 0)) ∧ w'.heap[w.heap.size + 1]? = some (.cells #[.int .i64 2, .int .i64 a1, .int .i64 a2, .int .i64 g0', .int .i64 g1, .int .i64 g2, .int .i64 g3, .int .i64 g4, .int .i64 g5, .int .i64 g6] 67 (0, 0))) → w'.cell? ⟨w.heap.size + 1, 7, none⟩ = some (.int .i64 g4) := fun w' h => cell_at h.2 rfl
      have F8 : ∀ w' : World, (w'.heap[w.heap.size]? = some (.cells C 63 (0, 0)) ∧ w'.heap[w.heap.size + 1]? = some (.cells #[.int .i64 2, .int .i64 a1, .int .i64 a2, .int .i64 g0', .int .i64 g1, .int .i64 g2, .int .i64 g3, .int .i64 g4, .int .i64 g5, .int .i64 g6] 67 (0, 0))) → w'.cell? ⟨w.heap.size + 1, 8, none⟩ = some (.int .i64 g5) := fun w' h => cell_at h.2 rfl
      have F9 : ∀ w' : World, (w'.heap[w.heap.size]? = some (.cells C 63 (0, 0)) ∧ w'.heap[w.heap.size + 1]? = some (.cells #[.int .i64 2, .int .i64 a1, .int .i64 a2, .int .i64 g0', .int .i64 g1, .int .i64 g2, .int .i64 g3, .int .i64 g4, .int .i64 g5, .int .i64 g6] 67 (0, 0))) → w'.cell? ⟨w.heap.size + 1, 9, none⟩ = some (.int .i64 g6) := fun w' h => cell_at h.2 rfl
      refine wp_region_H (S := fun (w' : World) => w'.heap[w.heap.size]? = some (.cells C 63 (0, 0)) ∧ w'.heap[w.heap.size + 1]? = some (.cells #[.int .i64 2, .int .i64 a1, .int .i64 a2, .int .i64 g0', .int .i64 g1, .int .i64 g2, .int .i64 g3, .int .i64 g4, .int .i64 g5, .int .i64 g6] 67 (0, 0))) (by kernel_rfl) ?_
      rw [← hW0]
      clear hW0
      refine wpH_take (i := 0) (v := (.pointer (some ⟨b, 0, none⟩))) (some 90) rfl rfl (by kernel_rfl) (by kernel_rfl) (by kernel_rfl) (fun _ _ _ h => h) (Or.inl ⟨by rfl, fun w' hS => (by go_simp)⟩) S0 ?_
      try simp only [Go.Act.put, List.setIfInBounds_toArray, List.set_cons_zero, List.set_cons_succ]
      refine wpH_take (i := 1) (v := (.agg C)) (some 91) rfl rfl (by kernel_rfl) (by kernel_rfl) (by kernel_rfl) (fun _ _ _ h => h) (Or.inl ⟨by rfl, fun w' hS => exec_loadT bigS _ rfl rfl hS.1 HN1.out⟩) S0 ?_
      try simp only [Go.Act.put, List.setIfInBounds_toArray, List.set_cons_zero, List.set_cons_succ]
      refine wpH_take (i := 2) (v := (.pointer (some ⟨b, 0, none⟩))) (some 92) rfl rfl (by kernel_rfl) (by kernel_rfl) (by kernel_rfl) (fun _ _ _ h => h) (Or.inl ⟨by rfl, fun w' hS => (by go_simp)⟩) S0 ?_
      try simp only [Go.Act.put, List.setIfInBounds_toArray, List.set_cons_zero, List.set_cons_succ]
      refine wpH_take (i := 3) (v := (.pointer (some ⟨w.heap.size + 1, 3, none⟩))) (some 93) rfl rfl (by kernel_rfl) (by kernel_rfl) (by kernel_rfl) (fun _ _ _ h => h) (Or.inl ⟨by rfl, fun w' hS => (by go_simp)⟩) S0 ?_
      try simp only [Go.Act.put, List.setIfInBounds_toArray, List.set_cons_zero, List.set_cons_succ]
      refine wpH_take (i := 4) (v := (.agg #[.int .i64 g0', .int .i64 g1, .int .i64 g2, .int .i64 g3, .int .i64 g4, .int .i64 g5, .int .i64 g6])) (some 94) rfl rfl (by kernel_rfl) (by kernel_rfl) (by kernel_rfl) (fun _ _ _ h => h) (Or.inl ⟨by rfl, fun w' hS => (by have z0 := F3 _ hS; have z1 := F4 _ hS; have z2 := F5 _ hS; have z3 := F6 _ hS; have z4 := F7 _ hS; have z5 := F8 _ hS; have z6 := F9 _ hS; go_simp)⟩) S0 ?_
      try simp only [Go.Act.put, List.setIfInBounds_toArray, List.set_cons_zero, List.set_cons_succ]
      refine wpH_take (i := 6) (v := (.bool true)) (some 96) rfl rfl (by kernel_rfl) (by kernel_rfl) (by kernel_rfl) (fun _ _ _ h => h) (Or.inl ⟨by rfl, fun w' hS => (by go_simp)⟩) S0 ?_
      try simp only [Go.Act.put, List.setIfInBounds_toArray, List.set_cons_zero, List.set_cons_succ]
      refine wpH_call (i := 5) (o := { dst := some 95, op := Op.call { callee := Callee.value (Operand.func 25), args := #[Operand.tmp 92, Operand.tmp 94], argTypes := #[50, 60] }, type := 23, pos := _, after := #[{ on := 2, ground := Ground.data }, { on := 4, ground := Ground.data }], guard := none }) (by kernel_rfl) rfl (fun K' hK => ?_)
      rw [if_pos (by rfl)]
      go_simp
      refine HU.out.mono ?_
      rintro e w5 ⟨rfl, v5, q5, t5, p5⟩
      have S5 := And.intro (t5.keep S0.1 (HNI.out _ (Nat.le_refl _))) (t5.keep S0.2 (HNI.out _ (by omega)))
      have B75 := hid (t5.keep B7'.out (HNI.out _ (by omega)))
      have F5 := hid (HFI.out _ _ q5 t5 p5)
      have T5 := hid (TW.out.trans t5 (fun k hk => Or.inl hk))
      clear t5 q5 p5
      refine hK.out _ _ S5 ?_
      clear hK
      try simp only [Go.Act.put, List.setIfInBounds_toArray, List.set_cons_zero, List.set_cons_succ]
      refine wpH_call (i := 7) (o := { dst := some 97, op := Op.call { callee := Callee.value (Operand.func 41), args := #[Operand.tmp 96, Operand.const (Value.int IntKind.i64 1)], argTypes := #[4, 23] }, type := 23, pos := _, after := #[{ on := 6, ground := Ground.data }, { on := 5, ground := Ground.chain }], guard := none }) (by kernel_rfl) rfl (fun K' hK => ?_)
      rw [if_pos (by rfl)]
      go_simp
      refine (HWT.out _).mono ?_
      rintro e w6 ⟨rfl, e6⟩
      rw [e6]
      clear e6 w6
      refine hK.out _ _ S5 ?_
      clear hK
      try simp only [Go.Act.put, List.setIfInBounds_toArray, List.set_cons_zero, List.set_cons_succ]
      refine wpH_take (i := 8) (v := (.bool true)) (some 98) rfl rfl (by kernel_rfl) (by kernel_rfl) (by kernel_rfl) (fun _ _ _ h => h) (Or.inl ⟨by rfl, fun w' hS => (by go_simp)⟩) S5 ?_
      try simp only [Go.Act.put, List.setIfInBounds_toArray, List.set_cons_zero, List.set_cons_succ]
      refine wpH_take (i := 9) (v := (.pointer (some ⟨b, 0, none⟩))) (some 6) rfl rfl (by kernel_rfl) (by kernel_rfl) (by kernel_rfl) (fun _ _ _ h => h) (Or.inl ⟨by rfl, fun w' hS => (by go_simp)⟩) S5 ?_
      try simp only [Go.Act.put, List.setIfInBounds_toArray, List.set_cons_zero, List.set_cons_succ]
      refine wpH_call (i := 10) (o := { dst := none, op := Op.store 63 (Operand.tmp 7) (Operand.tmp 91), type := 0, pos := _, after := #[{ on := 1, ground := Ground.data }, { on := 9, ground := Ground.chain }, { on := 0, ground := Ground.phase }, { on := 1, ground := Ground.phase }, { on := 2, ground := Ground.textOnly Departure.lateStores }, { on := 3, ground := Ground.textOnly Departure.lateStores }, { on := 4, ground := Ground.textOnly Departure.lateStores }, { on := 5, ground := Ground.textOnly Departure.lateStoresUnsure }, { on := 6, ground := Ground.textOnly Departure.lateStores }, { on := 7, ground := Ground.textOnly Departure.lateStoresUnsure }, { on := 8, ground := Ground.textOnly Departure.lateStores }, { on := 9, ground := Ground.phase }], guard := none }) (by kernel_rfl) rfl (fun K' hK => ?_)
      rw [if_pos (by rfl)]
      refine wp_storeT bigS (Operand.tmp 7) (Operand.tmp 91) rfl (w.heap.size + 2) _ C 63 rfl rfl B75.out zs_size HN1.out HO1.out (fun w7 h7 t7 s7 => ?_)
      have S7 := And.intro (t7.keep S5.1 (by simp)) (t7.keep S5.2 (by simp))
      refine hK.out _ _ S7 ?_
      clear hK
      try simp only [Go.Act.put, List.setIfInBounds_toArray, List.set_cons_zero, List.set_cons_succ]
      refine wpH_take (i := 11) (v := (.bool true)) (some 8) rfl rfl (by kernel_rfl) (by kernel_rfl) (by kernel_rfl) (fun _ _ _ h => h) (Or.inl ⟨by rfl, fun w' hS => (by go_simp)⟩) S7 ?_
      try simp only [Go.Act.put, List.setIfInBounds_toArray, List.set_cons_zero, List.set_cons_succ]
      refine wpAnyH_done (by kernel_rfl) ?_ _
      go_wp2_with fail
      refine bodyPost_ret (results_one rfl _ _ rfl h7 HN1.out) rfl ?_
      exact ⟨b, pv, v5, _, _, _, _, _, rfl, F5.out.box B75.out t7, by simp, rfl, T5.out.trans t7 (fun k hk => Or.inr (by simp at hk; omega))⟩
end
end Go.Proofs.YthakboiecdjgnaaDoor.Ci
