/- The contracts of the document's Use as one plain function of a list, and of its Touch; there are at most seventy thousand keys. -/
import Derived.Test.YtjcdloijodfpgaaRus
namespace Go.Proofs.Ytjcdloijodfpgaa
open Go.RowKit Go.Sort Go.Maps Go.ChangeMaps Go.WideMaps
set_option linter.unusedVariables false
set_option linter.unusedSimpArgs false
theorem ruseO (w : World) (most : Int) (v : Value) (xs : List K) (kk : K) (h64 : kk.2.size ≤ 64) (hl : xs.length ≤ 70000) (h : RK w v xs) :
    Calls Try.prog 12 #[rv most v, kv kk] w fun e w' => ∃ v', e = .returned (.tuple #[rv most v', kv (useG most xs kk), .bool (useB most xs kk), .int .i64 0]) ∧ RK w' v' (useL most xs kk) ∧ Touch [] w w' := by
  by_cases hf : most < ((useY xs kk).length : Int)
  · have e1 : useB most xs kk = true := decide_eq_true hf
    obtain ⟨g, zs, hg⟩ : ∃ g zs, useY xs kk = g :: zs := by
      cases hy : useY xs kk with
      | nil => simp [useY] at hy
      | cons g zs => exact ⟨g, zs, rfl⟩
    have e2 : useG most xs kk = g := by unfold useG; rw [e1, hg]; rfl
    have e3 : useL most xs kk = zs := by unfold useL; rw [e1, hg]; rfl
    rw [e1, e2, e3]
    cases zs with
    | nil => exact ruse12_zero w most v xs _ kk h64 hl rfl hf g hg h
    | cons z zs => exact ruse12_pos w most v xs _ kk h64 hl rfl hf g (z :: zs) hg (by simp) h
  · have e1 : useB most xs kk = false := decide_eq_false hf
    have e2 : useG most xs kk = kz := by unfold useG; rw [e1]; rfl
    have e3 : useL most xs kk = useY xs kk := by unfold useL; rw [e1]; rfl
    rw [e1, e2, e3]
    exact ruse12_fit w most v xs _ kk h64 hl rfl (Int.not_lt.1 hf) h
set_option maxHeartbeats 2000000 in
theorem ruse_long (w : World) (most : Int) (v : Value) (xs : List K) (kk : K) (h64 : 64 < kk.2.size) (h : RK w v xs) :
    Calls Try.prog 12 #[rv most v, kv kk] w fun e w' => e = .returned (.tuple #[rv most v, kv kz, .bool false, .int .i64 20]) ∧ RK w' v xs ∧ Touch [] w w' := by
  have HK := hid h
  obtain ⟨a, c0, rfl, hc0, hform⟩ := h.form
  have h64' : (64 : Int) < (kk.2.size : Int) := by omega
  clear h hform
  unfold rv kv kz at *
  go_enter Try.func12, Try.ntmps12
  go_wp2
  refine bodyPost_ret (v := .tuple #[.agg #[.int .i64 most, .slice a xs.length c0], .agg #[.int .u16 0, .string ⟨#[]⟩], .bool false, .int .i64 20]) (by simp [results, Try.results12, go_sem]) rfl ⟨rfl, ?_⟩
  have t4 := (((Touch.refl [] w).alloc (.cells #[.int .i64 most, .slice a xs.length c0] 31)).alloc (.cells #[.int .u16 kk.1, .string kk.2] 44)).alloc (.cells #[.int .i64 most, .slice a xs.length c0] 31)
  exact ⟨HK.out.keep (t4.alloc _), t4.alloc _⟩
theorem drB_no {xs : List K} {k : K} (h : ¬ k ∈ xs) : drB xs k = false := by
  unfold drB
  rw [dr_no h]
  exact decide_eq_false (by omega)
theorem dr_lt {xs : List K} {k : K} (h : k ∈ xs) : (dr xs k).length < xs.length := by
  unfold dr
  refine List.length_filter_lt_length_iff_exists.2 ⟨k, h, by simp⟩
theorem drB_yes {xs : List K} {k : K} (h : k ∈ xs) : drB xs k = true := decide_eq_true (dr_lt h)
theorem RdS.start (w : World) (most : Int) (v : Value) (kk : K) : RdS w most v kk (((w.alloc (.cells #[.int .i64 most, v] 31)).alloc (.cells #[.int .u16 kk.1, .string kk.2] 44)).alloc (.cells #[.int .i64 0, .slice none 0 0] 31)) := by
  refine ⟨?_, ?_, ?_, (((Touch.refl _ _).alloc _).alloc _).alloc _, by simp⟩
  · exact (Below.heap_alloc _ _ _ (by simp; omega)).trans ((Below.heap_alloc _ _ _ (by simp)).trans (heap_alloc_new w _))
  · have := heap_alloc_new (w.alloc (.cells #[.int .i64 most, v] 31)) (.cells #[.int .u16 kk.1, .string kk.2] 44)
    rw [World.size_alloc] at this
    exact (Below.heap_alloc _ _ _ (by simp)).trans this
  · have := heap_alloc_new ((w.alloc (.cells #[.int .i64 most, v] 31)).alloc (.cells #[.int .u16 kk.1, .string kk.2] 44)) (.cells #[.int .i64 0, .slice none 0 0] 31)
    rwa [World.size_alloc, World.size_alloc] at this
section
variable {w wr : World} {most : Int} {v : Value} {kk : K}
theorem RdS.p0 (h : RdS w most v kk wr) : wr.cell? ⟨w.heap.size, 0, none⟩ = some (.int .i64 most) ∧ wr.cell? ⟨w.heap.size, 1, none⟩ = some v := by have := h.b0; simp [World.cell?, this]
theorem RdS.k0 (h : RdS w most v kk wr) : wr.cell? ⟨w.heap.size + 1, 0, none⟩ = some (.int .u16 kk.1) ∧ wr.cell? ⟨w.heap.size + 1, 1, none⟩ = some (.string kk.2) := by have := h.b1; simp [World.cell?, this]
theorem RdS.r0 (h : RdS w most v kk wr) : wr.cell? ⟨w.heap.size + 1 + 1, 0, none⟩ = some (.int .i64 0) ∧ wr.cell? ⟨w.heap.size + 1 + 1, 1, none⟩ = some (.slice none 0 0) ∧ wr.frozen? ⟨w.heap.size + 1 + 1, 0, none⟩ = false ∧ wr.frozen? ⟨w.heap.size + 1 + 1, 1, none⟩ = false := by have := h.b2; simp [World.cell?, World.frozen?, this]
end
theorem tc_end {w wr : World} (t : Touch [] w wr) {v : Value} {xs : List K} {N : Nat} {zs : List Value} (hr : wr.ownsRow (w.heap.size + 3) 44 2 v N zs) (hN : xs.length = N) (hz : cellsK xs = zs) (most : Int) :
    RK ((wr.setCell ⟨w.heap.size + 1 + 1, 0, none⟩ (.int .i64 most)).setCell ⟨w.heap.size + 1 + 1, 1, none⟩ v) v xs ∧ Touch [] w ((wr.setCell ⟨w.heap.size + 1 + 1, 0, none⟩ (.int .i64 most)).setCell ⟨w.heap.size + 1 + 1, 1, none⟩ v) := by
  subst hN hz
  refine ⟨own_zero (own_keep hr (fun b hb => ?_)), (t.setCell (Or.inr ?_) _).setCell (Or.inr ?_) _⟩
  · have := (hr.lt b hb).1
    exact (Below.heap_setCell _ _ _ _ (by show b ≠ w.heap.size + 1 + 1; omega)).trans (Below.heap_setCell _ _ _ _ (by show b ≠ w.heap.size + 1 + 1; omega))
  · show w.heap.size ≤ w.heap.size + 1 + 1; omega
  · show w.heap.size ≤ w.heap.size + 1 + 1; omega
theorem tc_same {w wr : World} (t : Touch [] w wr) {v : Value} {xs : List K} (hr : RK w v xs) (most : Int) :
    RK ((wr.setCell ⟨w.heap.size + 1 + 1, 0, none⟩ (.int .i64 most)).setCell ⟨w.heap.size + 1 + 1, 1, none⟩ v) v xs ∧ Touch [] w ((wr.setCell ⟨w.heap.size + 1 + 1, 0, none⟩ (.int .i64 most)).setCell ⟨w.heap.size + 1 + 1, 1, none⟩ v) := by
  have t2 : Touch [] w ((wr.setCell ⟨w.heap.size + 1 + 1, 0, none⟩ (.int .i64 most)).setCell ⟨w.heap.size + 1 + 1, 1, none⟩ v) := by
    refine (t.setCell (Or.inr ?_) _).setCell (Or.inr ?_) _
    · show w.heap.size ≤ w.heap.size + 1 + 1; omega
    · show w.heap.size ≤ w.heap.size + 1 + 1; omega
  exact ⟨hr.keep t2, t2⟩
set_option maxHeartbeats 4000000 in
theorem rtouch_no (w : World) (most : Int) (v : Value) (xs : List K) (kk : K) (hl : xs.length ≤ 70000) (hn : ¬ kk ∈ xs) (h : RK w v xs) :
    Calls Try.prog 24 #[rv most v, kv kk] w fun e w' => e = .returned (.tuple #[rv most v, .bool false]) ∧ RK w' v xs ∧ Touch [] w w' := by
  have HK := hid h
  have U0 := hid (RdS.start w most v kk)
  have HD := hid (rdrop25 _ most v xs kk (by omega) (h.keep U0.out.t))
  rw [drB_no hn] at HD
  obtain ⟨a, c0, rfl, hc0, hform⟩ := h.form
  clear h hform
  unfold rv kv at *
  go_enter Try.func24, Try.ntmps24
  go_wp2_with (go_at_call 25; refine HD.out.mono ?_; rintro e w2 ⟨v1, rfl, hr2, t2⟩; obtain ⟨a1, c1, rfl⟩ := own_form hr2; have U2 := hid (U0.out.keep (t2.alloc (.cells #[.int .i64 most, .slice a1 (dr xs kk).length c1] 31)) (fun _ e => by cases e)); clear t2 hr2; have q0 := U2.out.p0.1; have q1 := U2.out.p0.2; obtain ⟨e0, e1, e2, e3⟩ := U2.out.r0)
  refine bodyPost_ret (v := .tuple #[.agg #[.int .i64 most, .slice a xs.length c0], .bool false]) (by simp [results, Try.results24, go_sem, e0, e1]) rfl ⟨rfl, ?_⟩
  exact tc_same U2.out.t HK.out most
theorem tc_app {w W3 w5 : World} {most : Int} {v v1 : Value} {kk : K} {N p6 g2 H : Nat} {ys : List Value} {o : Obj} (h : RdS w most v kk W3) (hb : W3.heap[p6]? = some (.cells #[.int .i64 most, v1] 31 (0, 0))) (hr : W3.ownsRow (w.heap.size + 3) 44 2 v1 N ys) (hg : (W3.alloc o).grownBy w5 v1.ownBlock) (hat : v1.ownBlock = some g2 ∨ g2 = H) (hH : W3.heap.size + 1 = H) :
    RdS w most v kk w5 ∧ w5.heap[p6]? = some (.cells #[.int .i64 most, v1] 31 (0, 0)) ∧ g2 ≠ p6 := by
  have t : Touch v1.ownBlock.toList W3 w5 := ((Touch.refl _ _).alloc _).grown hg (fun j hj => Or.inl (by simp [hj]))
  have hne : ∀ b, v1.ownBlock = some b → b ≠ p6 := fun b hb' e => by
    obtain ⟨h1, h2 | ⟨g, cap, cur, rfl, hg', hc, r⟩⟩ := hr
    · rw [h2.1] at hb'; cases hb'
    · have e1 : g = b := by cases hb'; rfl
      rw [e1, e, hb] at hc
      simp at hc
  refine ⟨h.keep t (fun k hk => (hr.lt k (by simpa using hk)).1), t.keep hb (fun hh => hne p6 (by simpa using hh) rfl), ?_⟩
  rcases hat with e | e
  · exact hne g2 e
  · have := block_lt hb
    omega
set_option maxHeartbeats 4000000 in
theorem rtouch_yes (w : World) (most : Int) (v : Value) (xs : List K) (kk : K) (hl : xs.length ≤ 70000) (hn : kk ∈ xs) (h : RK w v xs) :
    Calls Try.prog 24 #[rv most v, kv kk] w fun e w' => ∃ v', e = .returned (.tuple #[rv most v', .bool true]) ∧ RK w' v' (dr xs kk ++ [kk]) ∧ Touch [] w w' := by
  obtain ⟨i3, hi, hz0, hz1, hz2⟩ := info_parts info44
  have U0 := hid (RdS.start w most v kk)
  have HD := hid (rdrop25 _ most v xs kk (by omega) (h.keep U0.out.t))
  have hdl := dr_le xs kk
  rw [drB_yes hn] at HD
  have hyc : Hid (cellsK (dr xs kk ++ [kk]) = cellsK (dr xs kk) ++ [.int .u16 kk.1, .string kk.2] ∧ (dr xs kk ++ [kk]).length = (dr xs kk).length + 1) := by
    rw [cellsK_app]
    exact ⟨rfl, by simp⟩
  clear h
  unfold rv kv at *
  go_enter Try.func24, Try.ntmps24
  go_wp2_with (first
    | (go_at_call 25; refine HD.out.mono ?_; rintro e w2 ⟨v1, rfl, hr2, t2⟩; obtain ⟨a1, c1, rfl⟩ := own_form hr2; have U2 := hid (U0.out.keep (t2.alloc (.cells #[.int .i64 most, .slice a1 (dr xs kk).length c1] 31)) (fun _ e => by cases e)); have R2 := hid ((own_base hr2 (by simp) : w2.ownsRow (w.heap.size + 3) 44 2 _ _ _).alloc (.cells #[.int .i64 most, .slice a1 (dr xs kk).length c1] 31)); have HS2 : Hid (w.heap.size + 3 ≤ w2.heap.size) := Nat.le_trans U0.out.sz t2.size; clear t2 hr2; have q4 := U2.out.k0.1; have q5 := U2.out.k0.2; have hs2 := U2.out.sz)
    | (at_builtin; refine halt ?_))
  unfold Halted
  generalize hN : (dr xs kk).length = N at *
  have HN := hid hN
  clear hN
  refine wpList_append_lies _ rfl _ _ 29 rfl (w.heap.size + 3) 44 i3 (.agg #[.int .u16 0, .string ⟨#[]⟩]) 2 24 Try.underlying29 hi hz0 hz1 hz2 rfl (by decide) (.slice a1 N c1) N (cellsK (dr xs kk)) rfl (R2.out.alloc _) ⟨w2.heap.size + 1, 0, none⟩ 1 1 [.int .u16 kk.1, .string kk.2] rfl rfl (cell_two_at _ _ (by simp) _ _ _) (by simp [Value.oneCell']) (by decide) (by unfold maxLen; omega) (by omega) (by have := HS2.out; simp; omega) _ rfl ?_
  intro g2 c2 w5 hown5 hgrow hat hlt5
  have U5 := hid (tc_app (p6 := w2.heap.size) U2.out (heap_alloc_new w2 _) R2.out hgrow hat (by simp))
  have R5 := hid hown5
  have hb6 := U5.out.2.1
  have x0 : w5.cell? ⟨w2.heap.size, 0, none⟩ = some (.int .i64 most) := by simp [World.cell?, hb6]
  have x1 : w5.cell? ⟨w2.heap.size, 1, none⟩ = some (.slice a1 N c1) := by simp [World.cell?, hb6]
  have x2 : w5.frozen? ⟨w2.heap.size, 1, none⟩ = false := by simp [World.frozen?, hb6]
  obtain ⟨e0, e1, e2, e3⟩ := U5.out.1.r0
  have hs2' : w.heap.size + 3 ≤ w2.heap.size := by exact HS2.out
  clear hown5 hgrow hat q4 q5 hb6
  have i1 : w2.heap.size ≠ w.heap.size + 1 + 1 := by omega
  have i2 : w.heap.size + 1 + 1 ≠ w2.heap.size := by omega
  go_wp2
  refine bodyPost_ret (v := .tuple #[.agg #[.int .i64 most, .slice (some ⟨g2, 0, none⟩) (N + 1) c2], .bool true]) (by simp [results, Try.results24, go_sem, e0, e1]) rfl ⟨.slice (some ⟨g2, 0, none⟩) (N + 1) c2, rfl, ?_⟩
  refine tc_end (U5.out.1.t.setCell (Or.inr (by show w.heap.size ≤ w2.heap.size; omega)) _) (own_keep R5.out (fun b hb => ?_)) (by rw [hyc.out.2]) hyc.out.1 most
  refine Below.heap_setCell _ _ _ _ ?_
  show b ≠ w2.heap.size
  have e9 : g2 = b := by cases hb; rfl
  rw [← e9]
  exact U5.out.2.2
theorem rtouchO (w : World) (most : Int) (v : Value) (xs : List K) (kk : K) (hl : xs.length ≤ 70000) (h : RK w v xs) :
    Calls Try.prog 24 #[rv most v, kv kk] w fun e w' => ∃ v', e = .returned (.tuple #[rv most v', .bool (hs xs kk)]) ∧ RK w' v' (if hs xs kk then dr xs kk ++ [kk] else xs) ∧ Touch [] w w' := by
  by_cases hn : kk ∈ xs
  · rw [hs_yes hn]
    exact rtouch_yes w most v xs kk hl hn h
  · rw [hs_no hn]
    exact (rtouch_no w most v xs kk hl hn h).mono (fun e w' ⟨h1, h2, h3⟩ => ⟨v, h1, h2, h3⟩)
theorem rdropO (w : World) (most : Int) (v : Value) (xs : List K) (kk : K) (hl : xs.length ≤ 70000) (h : RK w v xs) :
    Calls Try.prog 25 #[rv most v, kv kk] w fun e w' => ∃ v', e = .returned (.tuple #[rv most v', .bool (hs xs kk)]) ∧ RK w' v' (dr xs kk) ∧ Touch [] w w' := by
  refine (rdrop25 w most v xs kk (by omega) h).mono (fun e w' ⟨v', h1, h2, h3⟩ => ⟨v', ?_, own_zero h2, h3⟩)
  rw [h1]
  by_cases hn : kk ∈ xs
  · rw [hs_yes hn, drB_yes hn]
  · rw [hs_no hn, drB_no hn]
end Go.Proofs.Ytjcdloijodfpgaa
