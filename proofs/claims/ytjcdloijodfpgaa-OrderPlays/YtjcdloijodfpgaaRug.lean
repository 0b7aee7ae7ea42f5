/- The contract of the document's Use, its answer's list being new; there are at most seventy thousand keys. -/
import Derived.Test.YtjcdloijodfpgaaRtc
namespace Go.Proofs.Ytjcdloijodfpgaa
open Go.RowKit Go.Sort Go.Maps Go.ChangeMaps Go.WideMaps
set_option linter.unusedVariables false
set_option linter.unusedSimpArgs false
set_option maxHeartbeats 4000000 in
set_option maxRecDepth 100000 in
theorem ruse12_fitg (w : World) (most : Int) (v : Value) (xs ys : List K) (kk : K) (h64 : kk.2.size ≤ 64) (hl : xs.length ≤ 70000) (hy : ys = dr xs kk ++ [kk]) (hf : (ys.length : Int) ≤ most) (h : RK w v xs) :
    Calls Try.prog 12 #[rv most v, kv kk] w fun e w' => ∃ v', e = .returned (.tuple #[rv most v', kv kz, .bool false, .int .i64 0]) ∧ RK w' v' ys ∧ Touch [] w w' ∧ ∀ g, v'.ownBlock = some g → w.heap.size ≤ g := by
  obtain ⟨i3, hi, hz0, hz1, hz2⟩ := info_parts info44
  have U0 := hid (UsS.start w most v kk)
  have HD := hid (rdrop25 _ most v xs kk (by omega) (h.keep U0.out.t))
  have hdl := dr_le xs kk
  have h64' : (kk.2.size : Int) ≤ 64 := by omega
  clear h
  unfold rv kv at *
  unfold kz
  go_enter Try.func12, Try.ntmps12
  have hyc : Hid (cellsK ys = cellsK (dr xs kk) ++ [.int .u16 kk.1, .string kk.2] ∧ ys.length = (dr xs kk).length + 1) := by
    rw [hy, cellsK_app]
    exact ⟨rfl, by simp⟩
  have hfn : ((((dr xs kk).length + 1 : Nat)) : Int) ≤ most := by rw [← hyc.out.2]; exact hf
  clear hy hf
  generalize hN : (dr xs kk).length = N at *
  have HN := hid hN
  clear hN
  go_wp2_with (first
    | (go_at_call 25; refine HD.out.mono ?_; rintro e w2 ⟨v1, rfl, hr2, t2⟩; obtain ⟨a1, c1, rfl⟩ := own_form hr2; have U2 := hid (U0.out.keep t2 (fun _ e => by cases e)); have R2 := hid (own_base hr2 (Nat.le_trans (by simp) (Nat.le_refl _) : w.heap.size + 4 ≤ _)); clear t2 hr2; have q0 := U2.out.p0; have q1 := U2.out.p1; have q2 := U2.out.p2 0; have q3 := U2.out.p2 1; have q4 := U2.out.k0; have q5 := U2.out.k1; have hs2 := U2.out.sz)
    | (at_builtin; refine wpList_append_lies _ rfl _ _ 29 rfl (w.heap.size + 4) 44 i3 (.agg #[.int .u16 0, .string ⟨#[]⟩]) 2 24 Try.underlying29 hi hz0 hz1 hz2 rfl (by decide) (.slice a1 N c1) N (cellsK (dr xs kk)) rfl ((us_drop U2.out R2.out).2.alloc _) ⟨w2.heap.size, 0, none⟩ 1 1 [.int .u16 kk.1, .string kk.2] rfl rfl (cell_two_at _ _ (by simp [World.setCell]) _ _ _) (by simp [Value.oneCell']) (by decide) (by unfold maxLen; omega) (by omega) (by simp [World.setCell]; omega) _ rfl ?_; intro g2 c2 w5 hown5 hgrow hat hlt5; have U5 := hid (us_app (us_drop U2.out R2.out).1 (us_drop U2.out R2.out).2 hgrow hown5); clear hown5 hgrow hat q0 q1 q2 q3 q4 q5; have q0 := U5.out.1.p0; have q1 := U5.out.1.p1; have q3 := U5.out.1.p2 1; obtain ⟨e0, e1, e2, e3⟩ := U5.out.1.r0; obtain ⟨d0, d1, d2, d3⟩ := U5.out.1.g0))
  refine bodyPost_ret (v := .tuple #[.agg #[.int .i64 most, .slice (some ⟨g2, 0, none⟩) (N + 1) c2], .agg #[.int .u16 0, .string ⟨#[]⟩], .bool false, .int .i64 0]) (by simp [results, Try.results12, go_sem, e0, e1, d0, d1]) rfl ⟨.slice (some ⟨g2, 0, none⟩) (N + 1) c2, rfl, ?_⟩
  have hend := us_end U5.out.2.1.t U5.out.2.2 hyc.out.2 hyc.out.1 most kz
  exact ⟨hend.1, hend.2, fun g hg => by have := (U5.out.2.2.lt g hg).1; omega⟩
set_option maxHeartbeats 4000000 in
set_option maxRecDepth 100000 in
theorem ruse12_posg (w : World) (most : Int) (v : Value) (xs ys : List K) (kk : K) (h64 : kk.2.size ≤ 64) (hl : xs.length ≤ 70000) (hy : ys = dr xs kk ++ [kk]) (hf : most < (ys.length : Int)) (g0 : K) (zs : List K) (hg : ys = g0 :: zs) (hpos : 0 < zs.length) (h : RK w v xs) :
    Calls Try.prog 12 #[rv most v, kv kk] w fun e w' => ∃ v', e = .returned (.tuple #[rv most v', kv g0, .bool true, .int .i64 0]) ∧ RK w' v' zs ∧ Touch [] w w' ∧ ∀ g, v'.ownBlock = some g → w.heap.size ≤ g := by
  obtain ⟨i3, hi, hz0, hz1, hz2⟩ := info_parts info44
  have U0 := hid (UsS.start w most v kk)
  have HD := hid (rdrop25 _ most v xs kk (by omega) (h.keep U0.out.t))
  have hdl := dr_le xs kk
  have h64' : (kk.2.size : Int) ≤ 64 := by omega
  clear h
  unfold rv kv at *
  go_enter Try.func12, Try.ntmps12
  have hyc : Hid (cellsK ys = cellsK (dr xs kk) ++ [.int .u16 kk.1, .string kk.2] ∧ ys.length = (dr xs kk).length + 1) := by
    rw [hy, cellsK_app]
    exact ⟨rfl, by simp⟩
  have hfn : most < ((((dr xs kk).length + 1 : Nat)) : Int) := by rw [← hyc.out.2]; exact hf
  have hzn : (dr xs kk).length = zs.length := by have := hyc.out.2; rw [hg] at this; simpa using this.symm
  have hzc : Hid (cellsK (dr xs kk) ++ [.int .u16 kk.1, .string kk.2] = [.int .u16 g0.1, .string g0.2] ++ cellsK zs) := by
    show _ = _
    rw [← hyc.out.1, hg]; rfl
  clear hy hf hg
  have hpos' : 0 < (dr xs kk).length := by omega
  generalize hN : (dr xs kk).length = N at *
  have HN := hid hN
  have HZ := hid hzn
  clear hN hzn hpos
  go_wp2_with (first
    | (go_at_call 25; refine HD.out.mono ?_; rintro e w2 ⟨v1, rfl, hr2, t2⟩; obtain ⟨a1, c1, rfl⟩ := own_form hr2; have U2 := hid (U0.out.keep t2 (fun _ e => by cases e)); have R2 := hid (own_base hr2 (Nat.le_trans (by simp) (Nat.le_refl _) : w.heap.size + 4 ≤ _)); clear t2 hr2; have q0 := U2.out.p0; have q1 := U2.out.p1; have q2 := U2.out.p2 0; have q3 := U2.out.p2 1; have q4 := U2.out.k0; have q5 := U2.out.k1; have hs2 := U2.out.sz)
    | (at_builtin; refine wpList_append_lies _ rfl _ _ 29 rfl (w.heap.size + 4) 44 i3 (.agg #[.int .u16 0, .string ⟨#[]⟩]) 2 24 Try.underlying29 hi hz0 hz1 hz2 rfl (by decide) (.slice a1 N c1) N (cellsK (dr xs kk)) rfl ((us_drop U2.out R2.out).2.alloc _) ⟨w2.heap.size, 0, none⟩ 1 1 [.int .u16 kk.1, .string kk.2] rfl rfl (cell_two_at _ _ (by simp [World.setCell]) _ _ _) (by simp [Value.oneCell']) (by decide) (by unfold maxLen; omega) (by omega) (by simp [World.setCell]; omega) _ rfl ?_; intro g2 c2 w5 hown5 hgrow hat hlt5; have U5 := hid (us_app (us_drop U2.out R2.out).1 (us_drop U2.out R2.out).2 hgrow hown5); obtain ⟨y0, y1, hg2, hcap⟩ := us_head hown5 hzc.out; have hne : g2 ≠ w.heap.size := (by omega); have hne' := Ne.symm hne; have hs5 := U5.out.1.sz; have hs6 : w.heap.size < w5.heap.size := (by omega); have hc1 : ¬ c2 = 1 := (by omega); have hc1' : ¬ 1 = c2 := (by omega); clear hown5 hgrow hat q0 q1 q2 q3 q4 q5 R2 U2; have q0 := U5.out.1.p0; have q1 := U5.out.1.p1; have q3 := U5.out.1.p2 1; obtain ⟨e0, e1, e2, e3⟩ := U5.out.1.r0; clear U0 HD; have W7 := hid (us_rest (g0 := g0) (zs := zs) (n5 := w5.heap.size) (by simp [World.setCell]) U5.out.2.1 U5.out.2.2 hzc.out); clear e0 e1 e2 e3; have R5 := hid hs5)
    | (at_builtin; refine halt ?_))
  unfold Halted
  refine wpList_append_lies _ rfl _ _ 29 rfl (w.heap.size + 4) 44 i3 (.agg #[.int .u16 0, .string ⟨#[]⟩]) 2 24 Try.underlying29 hi hz0 hz1 hz2 rfl (by decide) (.slice (some ⟨w5.heap.size + 1, 0, none⟩) 0 0) 0 [] rfl W7.out.1 ⟨g2, 2, none⟩ N (c2 - 1) (cellsK zs) rfl (by rw [cellsK_len, ← HZ.out]) W7.out.2.1 (one_cells zs) hpos' (by unfold maxLen; omega) (by omega) (by simp [World.setCell]; omega) _ rfl ?_
  intro g3 c3 w8 hown8 hgrow8 hat8 hlt8
  rw [Nat.zero_add, List.nil_append] at hown8
  rw [Nat.zero_add]
  have U8 := hid (us_last (g0 := g0) R5.out W7.out.2.2.1 W7.out.2.2.2 hgrow8 hown8)
  clear hown8 hgrow8 hat8 q0 q1 q3 y0 y1
  have hb5 := U8.out.2.1
  have q0 := U8.out.1.p0
  have q1 := U8.out.1.p1
  have q3 := U8.out.1.p2 1
  have q2 := U8.out.1.p2 0
  have x0 : w8.cell? ⟨w5.heap.size, 0, none⟩ = some (.int .u16 g0.1) := by simp [World.cell?, hb5]
  have x1 : w8.cell? ⟨w5.heap.size, 1, none⟩ = some (.string g0.2) := by simp [World.cell?, hb5]
  obtain ⟨e0, e1, e2, e3⟩ := U8.out.1.r0
  obtain ⟨d0, d1, d2, d3⟩ := U8.out.1.g0
  clear hb5
  have hs8 := U8.out.1.sz
  clear W7 U5
  have h5n : w5.heap.size ≠ w.heap.size := by omega
  have h5n' := Ne.symm h5n
  go_wp2
  obtain ⟨W9, hW9⟩ : ∃ W9, W9 = w8.setCell ⟨w.heap.size, 1, none⟩ (.slice (some ⟨g3, 0, none⟩) N c3) := ⟨_, rfl⟩
  have U9 := U8.out.2.2
  rw [← hW9] at U9
  rw [← hW9]
  have b9 : W9.heap[w5.heap.size]? = some (.cells #[.int .u16 g0.1, .string g0.2] 44 (0, 0)) := by
    rw [hW9]
    exact (Below.heap_setCell _ _ _ _ h5n).trans U8.out.2.1
  clear hW9 q0 q1 q2 q3 x0 x1 e0 e1 e2 e3 d0 d1 d2 d3 U8
  have x0 : W9.cell? ⟨w5.heap.size, 0, none⟩ = some (.int .u16 g0.1) := by simp [World.cell?, b9]
  have x1 : W9.cell? ⟨w5.heap.size, 1, none⟩ = some (.string g0.2) := by simp [World.cell?, b9]
  have q0 := U9.1.p0
  have q1 := U9.1.p1
  obtain ⟨e0, e1, e2, e3⟩ := U9.1.r0
  obtain ⟨d0, d1, d2, d3⟩ := U9.1.g0
  have i1 : w5.heap.size ≠ w.heap.size + 1 + 1 := by omega
  have i2 : w5.heap.size ≠ w.heap.size + 1 + 1 + 1 := by omega
  have HU := hid U9
  clear U9 b9
  go_region
  all_goals
    go_wp2
    refine bodyPost_ret (v := .tuple #[.agg #[.int .i64 most, .slice (some ⟨g3, 0, none⟩) N c3], .agg #[.int .u16 g0.1, .string g0.2], .bool true, .int .i64 0]) (by simp [results, Try.results12, go_sem, e0, e1, d0, d1]) rfl ⟨.slice (some ⟨g3, 0, none⟩) N c3, rfl, ?_⟩
    have hend := us_end HU.out.1.t HU.out.2 HZ.out.symm rfl most g0
    exact ⟨own_keep hend.1 (fun _ _ => rfl), ⟨hend.2.os, hend.2.tape, hend.2.output, hend.2.size, hend.2.block⟩, fun g hg => by have := (HU.out.2.lt g hg).1; omega⟩
set_option maxHeartbeats 4000000 in
set_option maxRecDepth 100000 in
theorem ruse12_zerog (w : World) (most : Int) (v : Value) (xs ys : List K) (kk : K) (h64 : kk.2.size ≤ 64) (hl : xs.length ≤ 70000) (hy : ys = dr xs kk ++ [kk]) (hf : most < (ys.length : Int)) (g0 : K) (hg : ys = [g0]) (h : RK w v xs) :
    Calls Try.prog 12 #[rv most v, kv kk] w fun e w' => ∃ v', e = .returned (.tuple #[rv most v', kv g0, .bool true, .int .i64 0]) ∧ RK w' v' [] ∧ Touch [] w w' ∧ ∀ g, v'.ownBlock = some g → w.heap.size ≤ g := by
  obtain ⟨i3, hi, hz0, hz1, hz2⟩ := info_parts info44
  have U0 := hid (UsS.start w most v kk)
  have HD := hid (rdrop25 _ most v xs kk (by omega) (h.keep U0.out.t))
  have hdl := dr_le xs kk
  have h64' : (kk.2.size : Int) ≤ 64 := by omega
  clear h
  unfold rv kv at *
  go_enter Try.func12, Try.ntmps12
  have hyc : Hid (cellsK ys = cellsK (dr xs kk) ++ [.int .u16 kk.1, .string kk.2] ∧ ys.length = (dr xs kk).length + 1) := by
    rw [hy, cellsK_app]
    exact ⟨rfl, by simp⟩
  have hfn : most < ((((dr xs kk).length + 1 : Nat)) : Int) := by rw [← hyc.out.2]; exact hf
  have hzn : (dr xs kk).length = 0 := by have := hyc.out.2; rw [hg] at this; simpa using this
  have hzc : Hid (cellsK (dr xs kk) ++ [.int .u16 kk.1, .string kk.2] = [.int .u16 g0.1, .string g0.2] ++ cellsK []) := by
    show _ = _
    rw [← hyc.out.1, hg]; rfl
  clear hy hf hg
  generalize hN : (dr xs kk).length = N at *
  have HN := hid hN
  have HZ := hid hzn
  clear hN hzn
  go_wp2_with (first
    | (go_at_call 25; refine HD.out.mono ?_; rintro e w2 ⟨v1, rfl, hr2, t2⟩; obtain ⟨a1, c1, rfl⟩ := own_form hr2; have U2 := hid (U0.out.keep t2 (fun _ e => by cases e)); have R2 := hid (own_base hr2 (Nat.le_trans (by simp) (Nat.le_refl _) : w.heap.size + 4 ≤ _)); clear t2 hr2; have q0 := U2.out.p0; have q1 := U2.out.p1; have q2 := U2.out.p2 0; have q3 := U2.out.p2 1; have q4 := U2.out.k0; have q5 := U2.out.k1; have hs2 := U2.out.sz)
    | (at_builtin; refine wpList_append_lies _ rfl _ _ 29 rfl (w.heap.size + 4) 44 i3 (.agg #[.int .u16 0, .string ⟨#[]⟩]) 2 24 Try.underlying29 hi hz0 hz1 hz2 rfl (by decide) (.slice a1 N c1) N (cellsK (dr xs kk)) rfl ((us_drop U2.out R2.out).2.alloc _) ⟨w2.heap.size, 0, none⟩ 1 1 [.int .u16 kk.1, .string kk.2] rfl rfl (cell_two_at _ _ (by simp [World.setCell]) _ _ _) (by simp [Value.oneCell']) (by decide) (by unfold maxLen; omega) (by omega) (by simp [World.setCell]; omega) _ rfl ?_; intro g2 c2 w5 hown5 hgrow hat hlt5; have U5 := hid (us_app (us_drop U2.out R2.out).1 (us_drop U2.out R2.out).2 hgrow hown5); obtain ⟨y0, y1, hg2, hcap⟩ := us_head hown5 hzc.out; have hne : g2 ≠ w.heap.size := (by omega); have hne' := Ne.symm hne; have hs5 := U5.out.1.sz; have hs6 : w.heap.size < w5.heap.size := (by omega); clear hown5 hgrow hat q0 q1 q2 q3 q4 q5 R2 U2; have q0 := U5.out.1.p0; have q1 := U5.out.1.p1; have q3 := U5.out.1.p2 1; obtain ⟨e0, e1, e2, e3⟩ := U5.out.1.r0; clear U0 HD; have W7 := hid (us_rest (g0 := g0) (zs := []) (n5 := w5.heap.size) (by simp [World.setCell]) U5.out.2.1 U5.out.2.2 hzc.out); clear e0 e1 e2 e3; have R5 := hid hs5)
    | (at_builtin; refine halt ?_))
  all_goals
    unfold Halted
    clear HN
    subst_vars
    refine wpList_append_own _ rfl _ _ 29 rfl (w.heap.size + 4) 44 i3 (.agg #[.int .u16 0, .string ⟨#[]⟩]) 2 24 Try.underlying29 hi hz0 hz1 hz2 rfl (by decide) (.slice (some ⟨w5.heap.size + 1, 0, none⟩) 0 0) 0 [] rfl W7.out.1 _ 0 _ [] rfl rfl (fun j u h => by cases h) (fun u h => by cases h) (by unfold maxLen; omega) (by omega) (by simp [World.setCell]; omega) ?_
    intro v3 w8 hown8 hgrow8 hat8
    rw [Nat.zero_add, List.nil_append] at hown8
    obtain ⟨a3, c3, rfl⟩ := own_form hown8
    have U8 := hid (us_last (g0 := g0) R5.out W7.out.2.2.1 W7.out.2.2.2 hgrow8 hown8)
    clear hown8 hgrow8 hat8 hyc hzc q0 q1 q3 y0 y1
    have hb5 := U8.out.2.1
    have q0 := U8.out.1.p0
    have q1 := U8.out.1.p1
    have q3 := U8.out.1.p2 1
    have q2 := U8.out.1.p2 0
    have x0 : w8.cell? ⟨w5.heap.size, 0, none⟩ = some (.int .u16 g0.1) := by simp [World.cell?, hb5]
    have x1 : w8.cell? ⟨w5.heap.size, 1, none⟩ = some (.string g0.2) := by simp [World.cell?, hb5]
    obtain ⟨e0, e1, e2, e3⟩ := U8.out.1.r0
    obtain ⟨d0, d1, d2, d3⟩ := U8.out.1.g0
    clear hb5
    have hs8 := U8.out.1.sz
    clear W7 U5
    have h5n : w5.heap.size ≠ w.heap.size := by omega
    have h5n' := Ne.symm h5n
    go_wp2
    obtain ⟨W9, hW9⟩ : ∃ W9, W9 = w8.setCell ⟨w.heap.size, 1, none⟩ (.slice a3 0 c3) := ⟨_, rfl⟩
    have U9 := U8.out.2.2
    rw [← hW9] at U9
    rw [← hW9]
    have b9 : W9.heap[w5.heap.size]? = some (.cells #[.int .u16 g0.1, .string g0.2] 44 (0, 0)) := by
      rw [hW9]
      exact (Below.heap_setCell _ _ _ _ h5n).trans U8.out.2.1
    clear hW9 q0 q1 q2 q3 x0 x1 e0 e1 e2 e3 d0 d1 d2 d3 U8
    have x0 : W9.cell? ⟨w5.heap.size, 0, none⟩ = some (.int .u16 g0.1) := by simp [World.cell?, b9]
    have x1 : W9.cell? ⟨w5.heap.size, 1, none⟩ = some (.string g0.2) := by simp [World.cell?, b9]
    have q0 := U9.1.p0
    have q1 := U9.1.p1
    obtain ⟨e0, e1, e2, e3⟩ := U9.1.r0
    obtain ⟨d0, d1, d2, d3⟩ := U9.1.g0
    have i1 : w5.heap.size ≠ w.heap.size + 1 + 1 := by omega
    have i2 : w5.heap.size ≠ w.heap.size + 1 + 1 + 1 := by omega
    have HU := hid U9
    clear U9 b9
    go_region
    all_goals
      go_wp2
      refine bodyPost_ret (v := .tuple #[.agg #[.int .i64 most, .slice a3 0 c3], .agg #[.int .u16 g0.1, .string g0.2], .bool true, .int .i64 0]) (by simp [results, Try.results12, go_sem, e0, e1, d0, d1]) rfl ⟨.slice a3 0 c3, rfl, ?_⟩
      have hend := us_end HU.out.1.t HU.out.2 (show ([] : List K).length = 0 from rfl) rfl most g0
      exact ⟨own_keep hend.1 (fun _ _ => rfl), ⟨hend.2.os, hend.2.tape, hend.2.output, hend.2.size, hend.2.block⟩, fun g hg => by have := (HU.out.2.lt g hg).1; omega⟩
theorem ruseG (w : World) (most : Int) (v : Value) (xs : List K) (kk : K) (h64 : kk.2.size ≤ 64) (hl : xs.length ≤ 70000) (h : RK w v xs) :
    Calls Try.prog 12 #[rv most v, kv kk] w fun e w' => ∃ v', e = .returned (.tuple #[rv most v', kv (useG most xs kk), .bool (useB most xs kk), .int .i64 0]) ∧ RK w' v' (useL most xs kk) ∧ Touch [] w w' ∧ ∀ g, v'.ownBlock = some g → w.heap.size ≤ g := by
  by_cases hf : most < ((useY xs kk).length : Int)
  · have e1 : useB most xs kk = true := decide_eq_true hf
    obtain ⟨g, zs, hg⟩ : ∃ g zs, useY xs kk = g :: zs := by
      cases hy : useY xs kk with
      | nil => simp [useY] at hy
      | cons g zs => exact ⟨g, zs, rfl⟩
    have e2 : useG most xs kk = g := by unfold useG; rw [e1, hg]; rfl
    have e3 : useL most xs kk = zs := by unfold useL; rw [e1, hg]; rfl
    rw [e1, e2, e3]
    cases zs with
    | nil => exact ruse12_zerog w most v xs _ kk h64 hl rfl hf g hg h
    | cons z zs => exact ruse12_posg w most v xs _ kk h64 hl rfl hf g (z :: zs) hg (by simp) h
  · have e1 : useB most xs kk = false := decide_eq_false hf
    have e2 : useG most xs kk = kz := by unfold useG; rw [e1]; rfl
    have e3 : useL most xs kk = useY xs kk := by unfold useL; rw [e1]; rfl
    rw [e1, e2, e3]
    exact ruse12_fitg w most v xs _ kk h64 hl rfl (Int.not_lt.1 hf) h
end Go.Proofs.Ytjcdloijodfpgaa
