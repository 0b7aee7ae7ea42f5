/- The contract of the document's Shrink; there are at most seventy thousand keys. -/
import Derived.Test.YtjcdloijodfpgaaRtc
import Derived.Test.YtjcdloijodfpgaaShr
namespace Go.Proofs.Ytjcdloijodfpgaa
open Go.RowKit Go.Sort Go.Maps Go.ChangeMaps Go.WideMaps
set_option linter.unusedVariables false
set_option linter.unusedSimpArgs false
set_option maxHeartbeats 2000000 in
theorem rshrink_bad (w : World) (most n : Int) (v : Value) (xs : List K) (hn : ¬ (0 ≤ n ∧ n ≤ 65536)) (h : RK w v xs) :
    Calls Try.prog 26 #[rv most v, .int .i64 n] w fun e w' => e = .returned (.tuple #[rv most v, .slice none 0 0, .int .i64 1]) ∧ RK w' v xs ∧ Touch [] w w' := by
  have HK := hid h
  have HM := fun w => may8 w n
  have hb : (decide (0 ≤ n) && decide (n ≤ 65536)) = false := by simp; omega
  rw [hb] at HM
  obtain ⟨a, c0, rfl, hc0, hform⟩ := h.form
  clear h hform
  unfold rv at *
  go_enter Try.func26, Try.ntmps26
  go_wp2_with (go_at_call 8; refine (HM _).mono ?_; rintro e w2 ⟨rfl, rfl⟩)
  refine bodyPost_ret (v := .tuple #[.agg #[.int .i64 most, .slice a xs.length c0], .slice none 0 0, .int .i64 1]) (by simp [results, Try.results26, go_sem]) rfl ⟨rfl, ?_⟩
  have t4 := ((Touch.refl [] w).alloc (.cells #[.int .i64 most, .slice a xs.length c0] 31)).alloc (.cells #[.int .i64 most, .slice a xs.length c0] 31)
  exact ⟨HK.out.keep t4, t4⟩
/-- What lies where while the two rows are laid anew. -/
structure ShB (w : World) (n : Int) (v : Value) (wr : World) : Prop where
  b0 : wr.heap[w.heap.size]? = some (.cells #[.int .i64 n, v] 31 (0, 0))
  b1 : wr.heap[w.heap.size + 1]? = some (.cells #[.int .i64 0, .slice none 0 0] 31 (0, 0))
  t : Touch [] w wr
  sz : w.heap.size + 2 ≤ wr.heap.size
theorem ShB.keep {w wr wr' : World} {n : Int} {v : Value} {G : List Nat} (h : ShB w n v wr) (t : Touch G wr wr') (hG : ∀ k ∈ G, w.heap.size + 2 ≤ k) : ShB w n v wr' :=
  ⟨t.keep h.b0 (fun hh => by have := hG _ hh; omega), t.keep h.b1 (fun hh => by have := hG _ hh; omega), h.t.trans t (fun i hi => Or.inr (by have := hG i hi; omega)), Nat.le_trans h.sz t.size⟩
theorem ShB.start (w : World) (n : Int) (v : Value) : ShB w n v ((w.alloc (.cells #[.int .i64 n, v] 31)).alloc (.cells #[.int .i64 0, .slice none 0 0] 31)) := by
  refine ⟨(Below.heap_alloc _ _ _ (by simp)).trans (heap_alloc_new w _), ?_, ((Touch.refl _ _).alloc _).alloc _, by simp⟩
  have := heap_alloc_new (w.alloc (.cells #[.int .i64 n, v] 31)) (.cells #[.int .i64 0, .slice none 0 0] 31)
  rwa [World.size_alloc] at this
theorem own_empty (W : World) {base m : Nat} (hm : W.heap.size = m) (hb : base ≤ m) : (W.alloc (.cells #[] 44)).ownsRow base 44 2 (.slice (some ⟨m, 0, none⟩) 0 0) 0 [] := by
  subst hm
  exact ⟨rfl, Or.inr ⟨_, 0, #[], rfl, hb, heap_alloc_new W _, Nat.le_refl _, by unfold maxLen; omega, rfl, rfl⟩⟩
theorem row_take {W : World} {b g c : Nat} {xs : List K} (h : W.ownsRow b 44 2 (.slice (some ⟨g, 0, none⟩) xs.length c) xs.length (cellsK xs)) (ov : Nat) : ∀ j u, (cellsK (xs.take ov))[j]? = some u → W.cell? ((⟨g, 0, none⟩ : Addr).add j) = some u := fun j u hj => by
  have e1 : (⟨g, 0, none⟩ : Addr).add j = ⟨g, j, none⟩ := by cases j <;> simp [Addr.add]
  rw [e1]
  refine own_cell h ?_
  have e2 : cellsK xs = cellsK (xs.take ov) ++ cellsK (xs.drop ov) := by rw [← cellsK_app, List.take_append_drop]
  rw [e2, List.getElem?_append_left (List.getElem?_eq_some_iff.1 hj).1]
  exact hj
theorem row_drop {W : World} {b g c : Nat} {xs : List K} (h : W.ownsRow b 44 2 (.slice (some ⟨g, 0, none⟩) xs.length c) xs.length (cellsK xs)) (ov : Nat) (hov : ov ≤ xs.length) : ∀ j u, (cellsK (xs.drop ov))[j]? = some u → W.cell? ((⟨g, ov * 2, none⟩ : Addr).add j) = some u := fun j u hj => by
  have e1 : (⟨g, ov * 2, none⟩ : Addr).add j = ⟨g, ov * 2 + j, none⟩ := by simp [Addr.add]
  rw [e1]
  refine own_cell h ?_
  have e2 : cellsK xs = cellsK (xs.take ov) ++ cellsK (xs.drop ov) := by rw [← cellsK_app, List.take_append_drop]
  have e3 : (cellsK (xs.take ov)).length = ov * 2 := by rw [cellsK_len, List.length_take, Nat.min_eq_left hov]
  rw [e2, List.getElem?_append_right (by omega), e3]
  simpa using hj
/-- Behind an append to a row that was laid last. -/
theorem sh_app {w W w5 : World} {n : Int} {v : Value} {m : Nat} (h : ShB w n v W) (hm : w.heap.size + 2 ≤ m) (hg : W.grownBy w5 (some m)) : ShB w n v w5 ∧ Touch [m] W w5 := by
  have t : Touch [m] W w5 := Touch.grown (Touch.refl _ _) hg (fun j hj => by cases hj; exact Or.inl (by simp))
  exact ⟨h.keep t (fun k hk => by simp only [List.mem_singleton] at hk; omega), t⟩
theorem sh_end {w w8 : World} {n : Int} {v v' v'' : Value} {xs ys : List K} (h : ShB w n v w8) (h' : w8.ownsRow (w.heap.size + 2) 44 2 v' ys.length (cellsK ys)) (h'' : w8.ownsRow (w.heap.size + 2) 44 2 v'' xs.length (cellsK xs)) :
    RK (((w8.setCell ⟨w.heap.size, 1, none⟩ v').setCell ⟨w.heap.size + 1, 0, none⟩ (.int .i64 n)).setCell ⟨w.heap.size + 1, 1, none⟩ v') v' ys ∧ RK (((w8.setCell ⟨w.heap.size, 1, none⟩ v').setCell ⟨w.heap.size + 1, 0, none⟩ (.int .i64 n)).setCell ⟨w.heap.size + 1, 1, none⟩ v') v'' xs ∧ Touch [] w (((w8.setCell ⟨w.heap.size, 1, none⟩ v').setCell ⟨w.heap.size + 1, 0, none⟩ (.int .i64 n)).setCell ⟨w.heap.size + 1, 1, none⟩ v') := by
  have hk : ∀ b, w.heap.size + 2 ≤ b → (((w8.setCell ⟨w.heap.size, 1, none⟩ v').setCell ⟨w.heap.size + 1, 0, none⟩ (.int .i64 n)).setCell ⟨w.heap.size + 1, 1, none⟩ v').heap[b]? = w8.heap[b]? := fun b hb =>
    (Below.heap_setCell _ _ _ _ (by show b ≠ w.heap.size + 1; omega)).trans ((Below.heap_setCell _ _ _ _ (by show b ≠ w.heap.size + 1; omega)).trans (Below.heap_setCell _ _ _ _ (by show b ≠ w.heap.size; omega)))
  refine ⟨own_zero (own_keep h' (fun b hb => hk b (h'.lt b hb).1)), own_zero (own_keep h'' (fun b hb => hk b (h''.lt b hb).1)), ((h.t.setCell (Or.inr (Nat.le_refl _)) _).setCell (Or.inr ?_) _).setCell (Or.inr ?_) _⟩
  · show w.heap.size ≤ w.heap.size + 1; omega
  · show w.heap.size ≤ w.heap.size + 1; omega
section
variable {w wr : World} {n : Int} {v : Value}
theorem ShB.p (h : ShB w n v wr) : wr.cell? ⟨w.heap.size, 0, none⟩ = some (.int .i64 n) ∧ wr.cell? ⟨w.heap.size, 1, none⟩ = some v ∧ wr.frozen? ⟨w.heap.size, 1, none⟩ = false := by have := h.b0; simp [World.cell?, World.frozen?, this]
theorem ShB.r (h : ShB w n v wr) : wr.cell? ⟨w.heap.size + 1, 0, none⟩ = some (.int .i64 0) ∧ wr.cell? ⟨w.heap.size + 1, 1, none⟩ = some (.slice none 0 0) ∧ wr.frozen? ⟨w.heap.size + 1, 0, none⟩ = false ∧ wr.frozen? ⟨w.heap.size + 1, 1, none⟩ = false := by have := h.b1; simp [World.cell?, World.frozen?, this]
end
theorem row_all {W : World} {b g c : Nat} {xs : List K} (h : W.ownsRow b 44 2 (.slice (some ⟨g, 0, none⟩) xs.length c) xs.length (cellsK xs)) : ∀ j u, (cellsK xs)[j]? = some u → W.cell? ((⟨g, 0, none⟩ : Addr).add j) = some u := fun j u hj => by
  have := row_take h xs.length j u (by rw [List.take_length]; exact hj)
  exact this
set_option maxHeartbeats 4000000 in
theorem rshrink_a (w : World) (most n : Int) (g c0 : Nat) (xs : List K) (h0 : 0 ≤ n) (h1 : n ≤ 65536) (hl : xs.length ≤ 70000) (ov : Nat) (hov : (xs.length : Int) - n = (ov : Int)) (hle : ov ≤ xs.length) (hc : ¬ c0 = ov) (hc' : ¬ ov = c0) (h : RK w (.slice (some ⟨g, 0, none⟩) xs.length c0) xs) :
    Calls Try.prog 26 #[rv most (.slice (some ⟨g, 0, none⟩) xs.length c0), .int .i64 n] w fun e w' => ∃ v' v'', e = .returned (.tuple #[rv n v', v'', .int .i64 0]) ∧ RK w' v' (xs.drop ov) ∧ RK w' v'' (xs.take ov) ∧ Touch [] w w' := by
  obtain ⟨i3, hi, hz0, hz1, hz2⟩ := info_parts info44
  have HK := hid h
  have HM := fun w => may8 w n
  rw [decide_eq_true h0, decide_eq_true h1] at HM
  simp only [Bool.and_self] at HM
  have U0 := hid (ShB.start w n (.slice (some ⟨g, 0, none⟩) xs.length c0))
  have hc0 : xs.length ≤ c0 := by
    obtain ⟨cur, _, hn, _⟩ := own_block h
    exact hn
  clear h h0 h1
  unfold rv at *
  go_enter Try.func26, Try.ntmps26
  go_wp2_with (first
    | (go_at_call 8; refine (HM _).mono ?_; rintro e w2 ⟨rfl, rfl⟩)
    | (at_builtin; refine halt ?_))
  unfold Halted
  have V0 : ShB w n (.slice (some ⟨g, 0, none⟩) xs.length c0) (((w.alloc (.cells #[.int .i64 n, .slice (some ⟨g, 0, none⟩) xs.length c0] 31)).alloc (.cells #[.int .i64 0, .slice none 0 0] 31)).alloc (.cells #[] 44)) := U0.out.keep ((Touch.refl [] _).alloc _) (fun _ e => by cases e)
  refine wpList_append_own _ rfl _ _ 29 rfl (w.heap.size + 2) 44 i3 (.agg #[.int .u16 0, .string ⟨#[]⟩]) 2 24 Try.underlying29 hi hz0 hz1 hz2 rfl (by decide) (.slice (some ⟨w.heap.size + 1 + 1, 0, none⟩) 0 0) 0 [] rfl (own_empty _ (by simp) (by omega)) ⟨g, 0, none⟩ ov c0 (cellsK (xs.take ov)) rfl (by rw [cellsK_len, List.length_take, Nat.min_eq_left hle]) (row_take (HK.out.keep V0.t) ov) (one_cells _) (by unfold maxLen; omega) (by omega) (by simp) ?_
  intro v5 w5 hown5 hgrow5 hat5
  rw [Nat.zero_add, List.nil_append] at hown5
  obtain ⟨a5, c5, rfl⟩ := own_form hown5
  have V5 := hid (sh_app (m := w.heap.size + 1 + 1) V0 (by omega) hgrow5)
  have R5 := hid hown5
  clear hown5 hgrow5 hat5 U0
  have q0 := V5.out.1.p.2.1
  have hs5 := V5.out.1.sz
  have hs6 : w.heap.size < w5.heap.size := by omega
  clear V0
  go_wp2_with (at_builtin; refine halt ?_)
  unfold Halted
  have V6 : ShB w n (.slice (some ⟨g, 0, none⟩) xs.length c0) (w5.alloc (.cells #[] 44)) := V5.out.1.keep ((Touch.refl [] _).alloc _) (fun _ e => by cases e)
  refine wpList_append_own _ rfl _ _ 29 rfl (w.heap.size + 2) 44 i3 (.agg #[.int .u16 0, .string ⟨#[]⟩]) 2 24 Try.underlying29 hi hz0 hz1 hz2 rfl (by decide) (.slice (some ⟨w5.heap.size, 0, none⟩) 0 0) 0 [] rfl (own_empty _ rfl hs5) ⟨g, ov * 2, none⟩ (xs.length - ov) (c0 - ov) (cellsK (xs.drop ov)) rfl (by rw [cellsK_len, List.length_drop]) (row_drop (HK.out.keep V6.t) ov hle) (one_cells _) (by unfold maxLen; omega) (by omega) (by simp; omega) ?_
  intro v7 w7 hown7 hgrow7 hat7
  rw [Nat.zero_add, List.nil_append] at hown7
  obtain ⟨a7, c7, rfl⟩ := own_form hown7
  have V7 := hid (sh_app (m := w5.heap.size) V6 hs5 hgrow7)
  have R7 := hid hown7
  have R5' : Hid (w7.ownsRow (w.heap.size + 2) 44 2 (.slice a5 ov c5) ov (cellsK (xs.take ov))) := own_touch (R5.out.alloc _) V7.out.2 (fun b hb hh => by
    simp only [List.mem_singleton] at hh
    have := (R5.out.lt b hb).2
    omega)
  clear hown7 hgrow7 hat7 V6 q0
  obtain ⟨p0, p1, p2⟩ := V7.out.1.p
  obtain ⟨r0, r1, r2, r3⟩ := V7.out.1.r
  go_wp2
  refine bodyPost_ret (v := .tuple #[.agg #[.int .i64 n, .slice a7 (xs.length - ov) c7], .slice a5 ov c5, .int .i64 0]) (by simp [results, Try.results26, go_sem, r0, r1]) rfl ⟨_, _, rfl, ?_⟩
  have e1 : (xs.drop ov).length = xs.length - ov := List.length_drop
  have e2 : (xs.take ov).length = ov := by rw [List.length_take, Nat.min_eq_left hle]
  exact sh_end V7.out.1 (by rw [e1]; exact R7.out) (by rw [e2]; exact R5'.out)
set_option maxHeartbeats 4000000 in
theorem rshrink_b (w : World) (most n : Int) (g : Nat) (xs : List K) (h0 : 0 ≤ n) (h1 : n ≤ 65536) (hl : xs.length ≤ 70000) (ov : Nat) (hov : (ov : Int) - n = (ov : Int)) (hxl : xs.length = ov) (h : RK w (.slice (some ⟨g, 0, none⟩) xs.length ov) xs) :
    Calls Try.prog 26 #[rv most (.slice (some ⟨g, 0, none⟩) ov ov), .int .i64 n] w fun e w' => ∃ v' v'', e = .returned (.tuple #[rv n v', v'', .int .i64 0]) ∧ RK w' v' (xs.drop ov) ∧ RK w' v'' (xs.take ov) ∧ Touch [] w w' := by
  obtain ⟨i3, hi, hz0, hz1, hz2⟩ := info_parts info44
  have HK : Hid (RK w (.slice (some ⟨g, 0, none⟩) xs.length ov) xs) := h
  have HKs : Hid (∀ w', Touch [] w w' → ∀ j u, (cellsK (xs.take ov))[j]? = some u → w'.cell? ((⟨g, 0, none⟩ : Addr).add j) = some u) := fun w' t => row_take (h.keep t) ov
  have HM := fun w => may8 w n
  rw [decide_eq_true h0, decide_eq_true h1] at HM
  simp only [Bool.and_self] at HM
  have U0 := hid (ShB.start w n (.slice (some ⟨g, 0, none⟩) ov ov))
  have hle : ov ≤ xs.length := by omega
  have hlv : ov ≤ 70000 := by omega
  have HX := hid hxl
  clear h h0 h1 hxl HK
  unfold rv at *
  go_enter Try.func26, Try.ntmps26
  go_wp2_with (first
    | (go_at_call 8; refine (HM _).mono ?_; rintro e w2 ⟨rfl, rfl⟩)
    | (at_builtin; refine halt ?_))
  unfold Halted
  have V0 : ShB w n (.slice (some ⟨g, 0, none⟩) ov ov) (((w.alloc (.cells #[.int .i64 n, .slice (some ⟨g, 0, none⟩) ov ov] 31)).alloc (.cells #[.int .i64 0, .slice none 0 0] 31)).alloc (.cells #[] 44)) := U0.out.keep ((Touch.refl [] _).alloc _) (fun _ e => by cases e)
  refine wpList_append_own _ rfl _ _ 29 rfl (w.heap.size + 2) 44 i3 (.agg #[.int .u16 0, .string ⟨#[]⟩]) 2 24 Try.underlying29 hi hz0 hz1 hz2 rfl (by decide) (.slice (some ⟨w.heap.size + 1 + 1, 0, none⟩) 0 0) 0 [] rfl (own_empty _ (by simp) (by omega)) ⟨g, 0, none⟩ ov ov (cellsK (xs.take ov)) rfl (by rw [cellsK_len, List.length_take, Nat.min_eq_left hle]) (HKs.out _ V0.t) (one_cells _) (by unfold maxLen; omega) (by omega) (by simp) ?_
  intro v5 w5 hown5 hgrow5 hat5
  rw [Nat.zero_add, List.nil_append] at hown5
  obtain ⟨a5, c5, rfl⟩ := own_form hown5
  have V5 := hid (sh_app (m := w.heap.size + 1 + 1) V0 (by omega) hgrow5)
  have R5 := hid hown5
  clear hown5 hgrow5 hat5 U0
  have q0 := V5.out.1.p.2.1
  have hs5 := V5.out.1.sz
  have hs6 : w.heap.size < w5.heap.size := by omega
  clear V0
  go_wp2_with (at_builtin; refine halt ?_)
  unfold Halted
  have V6 : ShB w n (.slice (some ⟨g, 0, none⟩) ov ov) (w5.alloc (.cells #[] 44)) := V5.out.1.keep ((Touch.refl [] _).alloc _) (fun _ e => by cases e)
  refine wpList_append_own _ rfl _ _ 29 rfl (w.heap.size + 2) 44 i3 (.agg #[.int .u16 0, .string ⟨#[]⟩]) 2 24 Try.underlying29 hi hz0 hz1 hz2 rfl (by decide) (.slice (some ⟨w5.heap.size, 0, none⟩) 0 0) 0 [] rfl (own_empty _ rfl hs5) _ 0 _ [] rfl rfl (fun j u h => by cases h) (fun u h => by cases h) (by unfold maxLen; omega) (by omega) (by simp; omega) ?_
  intro v7 w7 hown7 hgrow7 hat7
  rw [Nat.zero_add, List.nil_append] at hown7
  obtain ⟨a7, c7, rfl⟩ := own_form hown7
  have V7 := hid (sh_app (m := w5.heap.size) V6 hs5 hgrow7)
  have R7 := hid hown7
  have R5' : Hid (w7.ownsRow (w.heap.size + 2) 44 2 (.slice a5 ov c5) ov (cellsK (xs.take ov))) := own_touch (R5.out.alloc _) V7.out.2 (fun b hb hh => by
    simp only [List.mem_singleton] at hh
    have := (R5.out.lt b hb).2
    omega)
  clear hown7 hgrow7 hat7 V6 q0
  obtain ⟨p0, p1, p2⟩ := V7.out.1.p
  obtain ⟨r0, r1, r2, r3⟩ := V7.out.1.r
  go_wp2
  refine bodyPost_ret (v := .tuple #[.agg #[.int .i64 n, .slice a7 (0) c7], .slice a5 ov c5, .int .i64 0]) (by simp [results, Try.results26, go_sem, r0, r1]) rfl ⟨_, _, rfl, ?_⟩
  have e1 : (xs.drop ov).length = 0 := by rw [List.length_drop, HX.out]; omega
  have e2 : (xs.take ov).length = ov := by rw [List.length_take, Nat.min_eq_left hle]
  exact sh_end V7.out.1 (by rw [e1, List.eq_nil_of_length_eq_zero e1]; exact R7.out) (by rw [e2]; exact R5'.out)
set_option maxHeartbeats 4000000 in
theorem rshrink_c (w : World) (most n : Int) (g c0 : Nat) (xs : List K) (h0 : 0 ≤ n) (h1 : n ≤ 65536) (hl : xs.length ≤ 70000) (d : Int) (hd : d < 0) (hd2 : -70000 ≤ d) (hov : (xs.length : Int) - n = d) (hc : ¬ c0 = 0) (hc' : ¬ 0 = c0) (h : RK w (.slice (some ⟨g, 0, none⟩) xs.length c0) xs) :
    Calls Try.prog 26 #[rv most (.slice (some ⟨g, 0, none⟩) xs.length c0), .int .i64 n] w fun e w' => ∃ v' v'', e = .returned (.tuple #[rv n v', v'', .int .i64 0]) ∧ RK w' v' xs ∧ RK w' v'' [] ∧ Touch [] w w' := by
  obtain ⟨i3, hi, hz0, hz1, hz2⟩ := info_parts info44
  have HK := hid h
  have HM := fun w => may8 w n
  rw [decide_eq_true h0, decide_eq_true h1] at HM
  simp only [Bool.and_self] at HM
  have U0 := hid (ShB.start w n (.slice (some ⟨g, 0, none⟩) xs.length c0))
  have hc0 : xs.length ≤ c0 := by
    obtain ⟨cur, _, hn, _⟩ := own_block h
    exact hn
  clear h h0 h1
  unfold rv at *
  go_enter Try.func26, Try.ntmps26
  go_wp2_with (first
    | (go_at_call 8; refine (HM _).mono ?_; rintro e w2 ⟨rfl, rfl⟩)
    | (at_builtin; refine halt ?_))
  unfold Halted
  have V0 : ShB w n (.slice (some ⟨g, 0, none⟩) xs.length c0) (((w.alloc (.cells #[.int .i64 n, .slice (some ⟨g, 0, none⟩) xs.length c0] 31)).alloc (.cells #[.int .i64 0, .slice none 0 0] 31)).alloc (.cells #[] 44)) := U0.out.keep ((Touch.refl [] _).alloc _) (fun _ e => by cases e)
  refine wpList_append_own _ rfl _ _ 29 rfl (w.heap.size + 2) 44 i3 (.agg #[.int .u16 0, .string ⟨#[]⟩]) 2 24 Try.underlying29 hi hz0 hz1 hz2 rfl (by decide) (.slice (some ⟨w.heap.size + 1 + 1, 0, none⟩) 0 0) 0 [] rfl (own_empty _ (by simp) (by omega)) ⟨g, 0, none⟩ 0 c0 (cellsK []) rfl rfl (fun j u h => by cases h) (one_cells _) (by unfold maxLen; omega) (by omega) (by simp) ?_
  intro v5 w5 hown5 hgrow5 hat5
  rw [Nat.zero_add, List.nil_append] at hown5
  obtain ⟨a5, c5, rfl⟩ := own_form hown5
  have V5 := hid (sh_app (m := w.heap.size + 1 + 1) V0 (by omega) hgrow5)
  have R5 := hid hown5
  clear hown5 hgrow5 hat5 U0
  have q0 := V5.out.1.p.2.1
  have hs5 := V5.out.1.sz
  have hs6 : w.heap.size < w5.heap.size := by omega
  clear V0
  go_wp2_with (at_builtin; refine halt ?_)
  unfold Halted
  have V6 : ShB w n (.slice (some ⟨g, 0, none⟩) xs.length c0) (w5.alloc (.cells #[] 44)) := V5.out.1.keep ((Touch.refl [] _).alloc _) (fun _ e => by cases e)
  refine wpList_append_own _ rfl _ _ 29 rfl (w.heap.size + 2) 44 i3 (.agg #[.int .u16 0, .string ⟨#[]⟩]) 2 24 Try.underlying29 hi hz0 hz1 hz2 rfl (by decide) (.slice (some ⟨w5.heap.size, 0, none⟩) 0 0) 0 [] rfl (own_empty _ rfl hs5) ⟨g, 0, none⟩ (xs.length) c0 (cellsK (xs)) rfl (by rw [cellsK_len]) (row_all (HK.out.keep V6.t)) (one_cells _) (by unfold maxLen; omega) (by omega) (by simp; omega) ?_
  intro v7 w7 hown7 hgrow7 hat7
  rw [Nat.zero_add, List.nil_append] at hown7
  obtain ⟨a7, c7, rfl⟩ := own_form hown7
  have V7 := hid (sh_app (m := w5.heap.size) V6 hs5 hgrow7)
  have R7 := hid hown7
  have R5' : Hid (w7.ownsRow (w.heap.size + 2) 44 2 (.slice a5 0 c5) 0 (cellsK [])) := own_touch (R5.out.alloc _) V7.out.2 (fun b hb hh => by
    simp only [List.mem_singleton] at hh
    have := (R5.out.lt b hb).2
    omega)
  clear hown7 hgrow7 hat7 V6 q0
  obtain ⟨p0, p1, p2⟩ := V7.out.1.p
  obtain ⟨r0, r1, r2, r3⟩ := V7.out.1.r
  go_wp2
  refine bodyPost_ret (v := .tuple #[.agg #[.int .i64 n, .slice a7 (xs.length) c7], .slice a5 0 c5, .int .i64 0]) (by simp [results, Try.results26, go_sem, r0, r1]) rfl ⟨_, _, rfl, ?_⟩
  exact sh_end V7.out.1 R7.out (xs := []) R5'.out
set_option maxHeartbeats 4000000 in
theorem rshrink_d (w : World) (most n : Int) (g : Nat) (h0 : 0 ≤ n) (h1 : n ≤ 65536) (d : Int) (hd : d < 0) (hd2 : -70000 ≤ d) (hov : 0 - n = d) (h : RK w (.slice (some ⟨g, 0, none⟩) 0 0) []) :
    Calls Try.prog 26 #[rv most (.slice (some ⟨g, 0, none⟩) 0 0), .int .i64 n] w fun e w' => ∃ v' v'', e = .returned (.tuple #[rv n v', v'', .int .i64 0]) ∧ RK w' v' [] ∧ RK w' v'' [] ∧ Touch [] w w' := by
  obtain ⟨i3, hi, hz0, hz1, hz2⟩ := info_parts info44
  have HK := hid h
  have HM := fun w => may8 w n
  rw [decide_eq_true h0, decide_eq_true h1] at HM
  simp only [Bool.and_self] at HM
  have U0 := hid (ShB.start w n (.slice (some ⟨g, 0, none⟩) 0 0))
  clear h h0 h1
  unfold rv at *
  go_enter Try.func26, Try.ntmps26
  go_wp2_with (first
    | (go_at_call 8; refine (HM _).mono ?_; rintro e w2 ⟨rfl, rfl⟩)
    | (at_builtin; refine halt ?_))
  unfold Halted
  have V0 : ShB w n (.slice (some ⟨g, 0, none⟩) 0 0) (((w.alloc (.cells #[.int .i64 n, .slice (some ⟨g, 0, none⟩) 0 0] 31)).alloc (.cells #[.int .i64 0, .slice none 0 0] 31)).alloc (.cells #[] 44)) := U0.out.keep ((Touch.refl [] _).alloc _) (fun _ e => by cases e)
  refine wpList_append_own _ rfl _ _ 29 rfl (w.heap.size + 2) 44 i3 (.agg #[.int .u16 0, .string ⟨#[]⟩]) 2 24 Try.underlying29 hi hz0 hz1 hz2 rfl (by decide) (.slice (some ⟨w.heap.size + 1 + 1, 0, none⟩) 0 0) 0 [] rfl (own_empty _ (by simp) (by omega)) _ 0 _ (cellsK []) rfl rfl (fun j u h => by cases h) (one_cells _) (by unfold maxLen; omega) (by omega) (by simp) ?_
  intro v5 w5 hown5 hgrow5 hat5
  rw [Nat.zero_add, List.nil_append] at hown5
  obtain ⟨a5, c5, rfl⟩ := own_form hown5
  have V5 := hid (sh_app (m := w.heap.size + 1 + 1) V0 (by omega) hgrow5)
  have R5 := hid hown5
  clear hown5 hgrow5 hat5 U0
  have q0 := V5.out.1.p.2.1
  have hs5 := V5.out.1.sz
  have hs6 : w.heap.size < w5.heap.size := by omega
  clear V0
  go_wp2_with (at_builtin; refine halt ?_)
  unfold Halted
  have V6 : ShB w n (.slice (some ⟨g, 0, none⟩) 0 0) (w5.alloc (.cells #[] 44)) := V5.out.1.keep ((Touch.refl [] _).alloc _) (fun _ e => by cases e)
  refine wpList_append_own _ rfl _ _ 29 rfl (w.heap.size + 2) 44 i3 (.agg #[.int .u16 0, .string ⟨#[]⟩]) 2 24 Try.underlying29 hi hz0 hz1 hz2 rfl (by decide) (.slice (some ⟨w5.heap.size, 0, none⟩) 0 0) 0 [] rfl (own_empty _ rfl hs5) _ 0 _ [] rfl rfl (fun j u h => by cases h) (fun u h => by cases h) (by unfold maxLen; omega) (by omega) (by simp; omega) ?_
  intro v7 w7 hown7 hgrow7 hat7
  rw [Nat.zero_add, List.nil_append] at hown7
  obtain ⟨a7, c7, rfl⟩ := own_form hown7
  have V7 := hid (sh_app (m := w5.heap.size) V6 hs5 hgrow7)
  have R7 := hid hown7
  have R5' : Hid (w7.ownsRow (w.heap.size + 2) 44 2 (.slice a5 0 c5) 0 (cellsK [])) := own_touch (R5.out.alloc _) V7.out.2 (fun b hb hh => by
    simp only [List.mem_singleton] at hh
    have := (R5.out.lt b hb).2
    omega)
  clear hown7 hgrow7 hat7 V6 q0
  obtain ⟨p0, p1, p2⟩ := V7.out.1.p
  obtain ⟨r0, r1, r2, r3⟩ := V7.out.1.r
  go_wp2
  refine bodyPost_ret (v := .tuple #[.agg #[.int .i64 n, .slice a7 0 c7], .slice a5 0 c5, .int .i64 0]) (by simp [results, Try.results26, go_sem, r0, r1]) rfl ⟨_, _, rfl, ?_⟩
  exact sh_end V7.out.1 (ys := []) R7.out (xs := []) R5'.out
theorem sh_nil (w : World) (o1 o2 : Obj) : RK ((((w.alloc o1).alloc o2).alloc (.cells #[] 44)).alloc (.cells #[] 44)) (.slice (some ⟨w.heap.size + 1 + 1 + 1, 0, none⟩) 0 0) [] ∧ RK ((((w.alloc o1).alloc o2).alloc (.cells #[] 44)).alloc (.cells #[] 44)) (.slice (some ⟨w.heap.size + 1 + 1, 0, none⟩) 0 0) [] ∧ Touch [] w ((((w.alloc o1).alloc o2).alloc (.cells #[] 44)).alloc (.cells #[] 44)) :=
  ⟨own_empty _ (by simp) (Nat.zero_le _), (own_empty ((w.alloc o1).alloc o2) (m := w.heap.size + 1 + 1) (by simp) (Nat.zero_le _)).alloc _, ((((Touch.refl _ _).alloc _).alloc _).alloc _).alloc _⟩
set_option maxHeartbeats 4000000 in
theorem rshrink_e (w : World) (most n : Int) (h0 : 0 ≤ n) (h1 : n ≤ 65536) (hn : 0 < n) :
    Calls Try.prog 26 #[rv most (.slice none 0 0), .int .i64 n] w fun e w' => ∃ v' v'', e = .returned (.tuple #[rv n v', v'', .int .i64 0]) ∧ RK w' v' [] ∧ RK w' v'' [] ∧ Touch [] w w' := by
  have HM := fun w => may8 w n
  rw [decide_eq_true h0, decide_eq_true h1] at HM
  simp only [Bool.and_self] at HM
  unfold rv at *
  go_enter Try.func26, Try.ntmps26
  go_wp2_with (go_at_call 8; refine (HM _).mono ?_; rintro e w2 ⟨rfl, rfl⟩)
  refine bodyPost_ret (v := .tuple #[.agg #[.int .i64 n, .slice (some ⟨w.heap.size + 1 + 1 + 1, 0, none⟩) 0 0], .slice (some ⟨w.heap.size + 1 + 1, 0, none⟩) 0 0, .int .i64 0]) (by simp [results, Try.results26, go_sem]) rfl ⟨_, _, rfl, ?_⟩
  exact sh_nil w _ _
set_option maxHeartbeats 4000000 in
theorem rshrink_f (w : World) (most : Int) :
    Calls Try.prog 26 #[rv most (.slice none 0 0), .int .i64 0] w fun e w' => ∃ v' v'', e = .returned (.tuple #[rv 0 v', v'', .int .i64 0]) ∧ RK w' v' [] ∧ RK w' v'' [] ∧ Touch [] w w' := by
  have HM := fun w => may8 w 0
  have hb : (decide ((0 : Int) ≤ 0) && decide ((0 : Int) ≤ 65536)) = true := by decide
  rw [hb] at HM
  unfold rv at *
  go_enter Try.func26, Try.ntmps26
  go_wp2_with (go_at_call 8; refine (HM _).mono ?_; rintro e w2 ⟨rfl, rfl⟩)
  refine bodyPost_ret (v := .tuple #[.agg #[.int .i64 0, .slice (some ⟨w.heap.size + 1 + 1 + 1, 0, none⟩) 0 0], .slice (some ⟨w.heap.size + 1 + 1, 0, none⟩) 0 0, .int .i64 0]) (by simp [results, Try.results26, go_sem]) rfl ⟨_, _, rfl, ?_⟩
  exact sh_nil w _ _
theorem rshrinkO (w : World) (most n : Int) (v : Value) (xs : List K) (h0 : 0 ≤ n) (h1 : n ≤ 65536) (hl : xs.length ≤ 70000) (h : RK w v xs) :
    Calls Try.prog 26 #[rv most v, .int .i64 n] w fun e w' => ∃ v' v'', e = .returned (.tuple #[rv n v', v'', .int .i64 0]) ∧ RK w' v' (xs.drop (ovr xs n)) ∧ RK w' v'' (xs.take (ovr xs n)) ∧ Touch [] w w' := by
  have h' := h
  obtain ⟨g1, ⟨g2, g3⟩ | ⟨g, c0, cur, hv, hg, hc, hn, r⟩⟩ := h
  · obtain rfl : xs = [] := List.eq_nil_of_length_eq_zero g3
    have e0 : ovr [] n = 0 := by simp [ovr]
    rw [e0, g2]
    simp only [List.drop_nil, List.take_nil]
    by_cases hz : n = 0
    · subst hz
      exact rshrink_f w most
    · exact rshrink_e w most n h0 h1 (by omega)
  · subst hv
    by_cases hlt : (xs.length : Int) < n
    · have e0 : ovr xs n = 0 := by unfold ovr; omega
      rw [e0]
      simp only [List.drop_zero, List.take_zero]
      by_cases hz : c0 = 0
      · subst hz
        have hx : xs.length = 0 := by omega
        obtain rfl : xs = [] := List.eq_nil_of_length_eq_zero hx
        exact rshrink_d w most n g h0 h1 (0 - n) (by simp at hlt; omega) (by omega) rfl h'
      · exact rshrink_c w most n g c0 xs h0 h1 hl ((xs.length : Int) - n) (by omega) (by omega) rfl hz (fun e => hz e.symm) h'
    · have e1 : (xs.length : Int) - n = (ovr xs n : Int) := by unfold ovr; omega
      have e2 : ovr xs n ≤ xs.length := by unfold ovr; omega
      by_cases hz : c0 = ovr xs n
      · have hx : xs.length = ovr xs n := by omega
        have e3 : ((ovr xs n : Nat) : Int) - n = (ovr xs n : Int) := by rw [← e1]; omega
        rw [hz] at h' ⊢
        have := rshrink_b w most n g xs h0 h1 hl (ovr xs n) e3 hx h'
        rw [← hx] at this ⊢
        exact this
      · exact rshrink_a w most n g c0 xs h0 h1 hl (ovr xs n) e1 e2 hz (fun e => hz e.symm) h'
end Go.Proofs.Ytjcdloijodfpgaa
