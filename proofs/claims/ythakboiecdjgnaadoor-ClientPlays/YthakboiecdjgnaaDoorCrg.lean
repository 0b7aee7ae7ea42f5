/- The document's look at outcomes, and the law's look at what may be had; no conditions but those that each states. -/
import Derived.Test.YthakboiecdjgnaaDoorCrf
namespace Go.Proofs.YthakboiecdjgnaaDoor.Ci
open Go.RowKit Go.Maps Go.ChangeMaps
set_option linter.unusedVariables false
set_option linter.unusedSimpArgs false
theorem eqr (w : World) (a b c : Int) : (binOp .eql 147 (.agg #[.int .i64 a, .int .i64 b, .int .i64 c]) (.agg #[.int .i64 0, .int .i64 0, .int .i64 0])).run Tryd.prog w = .ok (.bool (nonF a b c)) w := by
  unfold nonF
  by_cases h1 : a = 0
  · by_cases h2 : b = 0
    · by_cases h3 : c = 0
      · go_simp
      · go_simp
    · go_simp
  · go_simp
set_option maxHeartbeats 1000000 in
theorem rmayF (w : World) (a b c : Int) : Calls Tryd.prog 80 #[.agg #[.int .i64 a, .int .i64 b, .int .i64 c]] w fun e w' => e = .returned (.bool (mayF a b c)) ∧ Touch [] w w' := by
  unfold mayF
  by_cases h0 : a = 0
  · subst h0
    have HE := fun w => eqr w 0 b c
    rw [if_pos rfl, show (decide (b = 0) && decide (c = 0)) = nonF 0 b c by simp [nonF]]
    generalize nonF 0 b c = r at *
    go_enter Tryd.func80, Tryd.ntmps80
    go_wp2
    go_ret
    exact ⟨rfl, (Touch.refl _ _).alloc _⟩
  have e0 : (a == 0) = false := by simp [h0]
  rw [if_neg h0]
  by_cases h1 : a = 1
  · subst h1
    rw [if_pos rfl]
    clear e0 h0
    go_enter Tryd.func80, Tryd.ntmps80
    go_wp2
    go_ret
    exact ⟨rfl, (Touch.refl _ _).alloc _⟩
  have e1 : (a == 1) = false := by simp [h1]
  rw [if_neg h1]
  by_cases h2 : a = 2
  · subst h2
    rw [if_pos rfl]
    clear e0 h0 e1 h1
    go_enter Tryd.func80, Tryd.ntmps80
    go_wp2
    go_ret
    exact ⟨rfl, (Touch.refl _ _).alloc _⟩
  have e2 : (a == 2) = false := by simp [h2]
  rw [if_neg h2]
  by_cases h3 : a = 3
  · subst h3
    rw [if_pos rfl]
    clear e0 h0 e1 h1 e2 h2
    by_cases hb : b = 0
    · subst hb
      rw [decide_eq_true rfl, Bool.true_and]
      go_enter Tryd.func80, Tryd.ntmps80
      go_wp2
      go_ret
      exact ⟨rfl, (Touch.refl _ _).alloc _⟩
    · have hb' : (b == 0) = false := by simp [hb]
      rw [decide_eq_false hb, Bool.false_and]
      clear hb
      go_enter Tryd.func80, Tryd.ntmps80
      go_wp2
      go_ret
      exact ⟨rfl, (Touch.refl _ _).alloc _⟩
  have e3 : (a == 3) = false := by simp [h3]
  rw [if_neg h3]
  by_cases h4 : a = 4
  · subst h4
    rw [if_pos rfl]
    clear e0 h0 e1 h1 e2 h2 e3 h3
    by_cases hb : b = 0
    · subst hb
      rw [decide_eq_true rfl, Bool.true_and]
      go_enter Tryd.func80, Tryd.ntmps80
      go_wp2
      go_ret
      exact ⟨rfl, (Touch.refl _ _).alloc _⟩
    · have hb' : (b == 0) = false := by simp [hb]
      rw [decide_eq_false hb, Bool.false_and]
      clear hb
      go_enter Tryd.func80, Tryd.ntmps80
      go_wp2
      go_ret
      exact ⟨rfl, (Touch.refl _ _).alloc _⟩
  have e4 : (a == 4) = false := by simp [h4]
  rw [if_neg h4]
  by_cases h5 : a = 5
  · subst h5
    rw [if_pos rfl]
    clear e0 h0 e1 h1 e2 h2 e3 h3 e4 h4
    by_cases hb : b = 0
    · subst hb
      rw [decide_eq_true rfl, Bool.true_and]
      go_enter Tryd.func80, Tryd.ntmps80
      go_wp2
      go_ret
      exact ⟨rfl, (Touch.refl _ _).alloc _⟩
    · have hb' : (b == 0) = false := by simp [hb]
      rw [decide_eq_false hb, Bool.false_and]
      clear hb
      go_enter Tryd.func80, Tryd.ntmps80
      go_wp2
      go_ret
      exact ⟨rfl, (Touch.refl _ _).alloc _⟩
  have e5 : (a == 5) = false := by simp [h5]
  rw [if_neg h5]
  clear h0 h1 h2 h3 h4 h5
  go_enter Tryd.func80, Tryd.ntmps80
  go_wp2
  go_ret
  exact ⟨rfl, (Touch.refl _ _).alloc _⟩
set_option maxHeartbeats 1000000 in
theorem rright (w : World) (v a b c : Int) : Calls Tryd.prog 65 #[.int .i64 v, .agg #[.int .i64 a, .int .i64 b, .int .i64 c]] w fun e w' => e = .returned (.bool (right (v, a, b, c))) ∧ Touch [] w w' := by
  have HM := hid (fun w => rmayF w a b c)
  have HE := fun w => eqr w a b c
  unfold right
  simp only
  have HC : Hid (∀ w2, Touch [] (w.alloc (.cells #[.int .i64 a, .int .i64 b, .int .i64 c] 147)) w2 → w2.cell? ⟨w.heap.size, 0, none⟩ = some (.int .i64 a) ∧ w2.cell? ⟨w.heap.size, 1, none⟩ = some (.int .i64 b) ∧ w2.cell? ⟨w.heap.size, 2, none⟩ = some (.int .i64 c)) := hid (fun w2 t => by
    have q := t.keep (heap_alloc_new w _) (by simp)
    exact ⟨cell_at q rfl, cell_at q rfl, cell_at q rfl⟩)
  generalize mayF a b c = r at *
  generalize nonF a b c = s at *
  cases r
  · go_enter Tryd.func65, Tryd.ntmps65
    go_wp2_with (go_at_call 80; refine (HM.out _).mono ?_; rintro e w2 ⟨rfl, t2⟩; have T2 := hid t2; clear t2)
    go_ret
    exact ⟨rfl, ((Touch.refl _ _).alloc _).trans' T2.out⟩
  · cases s
    · by_cases hv : v = 0
      · subst hv
        go_enter Tryd.func65, Tryd.ntmps65
        go_wp2_with (go_at_call 80; refine (HM.out _).mono ?_; rintro e w2 ⟨rfl, t2⟩; have T2 := hid t2; obtain ⟨c0, c1, c2⟩ := HC.out _ t2; clear t2)
        go_ret
        exact ⟨rfl, ((Touch.refl _ _).alloc _).trans' T2.out⟩
      · have hv' : (v == 0) = false := by simp [hv]
        rw [decide_eq_false hv]
        clear hv
        go_enter Tryd.func65, Tryd.ntmps65
        go_wp2_with (go_at_call 80; refine (HM.out _).mono ?_; rintro e w2 ⟨rfl, t2⟩; have T2 := hid t2; obtain ⟨c0, c1, c2⟩ := HC.out _ t2; clear t2)
        go_ret
        exact ⟨rfl, ((Touch.refl _ _).alloc _).trans' T2.out⟩
    · go_enter Tryd.func65, Tryd.ntmps65
      go_wp2_with (go_at_call 80; refine (HM.out _).mono ?_; rintro e w2 ⟨rfl, t2⟩; have T2 := hid t2; obtain ⟨c0, c1, c2⟩ := HC.out _ t2; clear t2)
      go_ret
      exact ⟨rfl, ((Touch.refl _ _).alloc _).trans' T2.out⟩
theorem want_ (w : World) (q : Bool) (e : Int) : Calls Tryd.prog 41 #[.bool q, .int .i64 e] w fun en w' => en = .returned (.int .i64 (if q then 0 else e)) ∧ w' = w := by
  cases q
  · go_enter Tryd.func41, Tryd.ntmps41
    go_wp2
    go_ret
    exact ⟨rfl, rfl⟩
  · go_enter Tryd.func41, Tryd.ntmps41
    go_wp2
    go_ret
    exact ⟨rfl, rfl⟩
end Go.Proofs.YthakboiecdjgnaaDoor.Ci
