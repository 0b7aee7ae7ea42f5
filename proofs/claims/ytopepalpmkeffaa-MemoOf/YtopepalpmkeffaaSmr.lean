/- Contracts of keeps' like in the document, and of what turns a value into the document's; no conditions. -/
import Derived.Test.YtopepalpmkeffaaCfg
namespace Go.Proofs.Ytopepalpmkeffaa
open Go.RowKit Go.Sort Go.Maps Go.ChangeMaps Go.WideMaps
set_option linter.unusedVariables false
set_option linter.unusedSimpArgs false
theorem eqr (w : World) (a b c : Int) : (binOp .eql 58 (.agg #[.int .i64 a, .int .i64 b, .int .i64 c]) (.agg #[.int .i64 0, .int .i64 0, .int .i64 0])).run Try.prog w = .ok (.bool (nonF a b c)) w := by
  unfold nonF
  by_cases h1 : a = 0
  · by_cases h2 : b = 0
    · by_cases h3 : c = 0
      · go_simp
      · go_simp
    · go_simp
  · go_simp
theorem neqr (w : World) (a b c : Int) : (binOp .neq 58 (.agg #[.int .i64 a, .int .i64 b, .int .i64 c]) (.agg #[.int .i64 0, .int .i64 0, .int .i64 0])).run Try.prog w = .ok (.bool (!nonF a b c)) w := by
  unfold nonF
  by_cases h1 : a = 0
  · by_cases h2 : b = 0
    · by_cases h3 : c = 0
      · go_simp
      · go_simp
    · go_simp
  · go_simp
theorem config11 (w : World) (c : Cf) : Calls Try.prog 11 #[cv c] w fun e w' => e = .returned (cv c) ∧ Touch [] w w' := by
  unfold cv
  go_enter Try.func11, Try.ntmps11
  go_wp2
  refine bodyPost_ret (v := .agg #[.int .i64 c.t, .int .i64 c.n, .int .i64 c.s, .int .i64 c.e, .int .i64 c.f, .int .i64 c.b, .int .i64 c.d]) (by simp [results, Try.results11, go_sem]) rfl ⟨rfl, ?_⟩
  repeat (first | exact Touch.refl _ _ | apply Touch.alloc | (refine Touch.setCell ?_ (Or.inr (by simp)) _))
theorem key32 (w : World) (k : K) : Calls Try.prog 32 #[kv k] w fun e w' => e = .returned (kv k) ∧ Touch [] w w' := by
  unfold kv
  go_enter Try.func32, Try.ntmps32
  go_wp2
  refine bodyPost_ret (v := .agg #[.int .u16 k.1, .string k.2]) (by simp [results, Try.results32, go_sem]) rfl ⟨rfl, ?_⟩
  repeat (first | exact Touch.refl _ _ | apply Touch.alloc | (refine Touch.setCell ?_ (Or.inr (by simp)) _))
theorem outcome42 (w : World) (o : O) : Calls Try.prog 42 #[ov o] w fun e w' => e = .returned (ov o) ∧ Touch [] w w' := by
  unfold ov
  go_enter Try.func42, Try.ntmps42
  go_wp2
  refine bodyPost_ret (v := .agg #[.int .i64 o.1, .int .i64 o.2.1, .int .i64 o.2.2.1, .int .i64 o.2.2.2]) (by simp [results, Try.results42, go_sem]) rfl ⟨rfl, ?_⟩
  repeat (first | exact Touch.refl _ _ | apply Touch.alloc | (refine Touch.setCell ?_ (Or.inr (by simp)) _))
set_option maxHeartbeats 1000000 in
theorem rkeeps44 (w : World) (c : Cf) (o : O) (hr : right o = true) : Calls Try.prog 44 #[cv c, ov o] w fun e w' => e = .returned (.bool (keepsC c o)) ∧ Touch [] w w' := by
  obtain ⟨t, n, s, e, f, b, d⟩ := c
  have hn := right_none hr
  obtain ⟨v, a, x, y⟩ := o
  have eq := fun w => eqr w a x y
  unfold cv ov keepsC
  simp only at hn ⊢
  clear hr
  by_cases h0 : e = 0
  · subst h0
    go_enter Try.func44, Try.ntmps44
    go_wp2
    go_ret
    exact ⟨rfl, by repeat (first | exact Touch.refl _ _ | apply Touch.alloc)⟩
  rw [if_neg h0]
  have e0 : (e == 0) = false := by simp [h0]
  by_cases ha : a = 0
  · have h2 := hn.1 ha
    simp only [Prod.mk.injEq] at h2
    have e1 : nonF a x y = true := by simp [nonF, h2]
    rw [e1] at eq
    rw [if_pos ha]
    clear h2 ha hn
    go_enter Try.func44, Try.ntmps44
    go_wp2
    go_ret
    exact ⟨rfl, by repeat (first | exact Touch.refl _ _ | apply Touch.alloc)⟩
  have e1 : nonF a x y = false := by simp [nonF, ha]
  rw [e1] at eq
  rw [if_neg ha]
  clear hn
  by_cases h1 : a = 1
  · subst h1
    rw [if_pos rfl]
    go_enter Try.func44, Try.ntmps44
    go_wp2
    go_ret
    exact ⟨rfl, by repeat (first | exact Touch.refl _ _ | apply Touch.alloc)⟩
  rw [if_neg h1]
  have b1 : (a == 1) = false := by simp [h1]
  by_cases h2 : a = 2
  · subst h2
    rw [if_pos rfl]
    go_enter Try.func44, Try.ntmps44
    go_wp2
    go_ret
    exact ⟨rfl, by repeat (first | exact Touch.refl _ _ | apply Touch.alloc)⟩
  rw [if_neg h2]
  have b2 : (a == 2) = false := by simp [h2]
  go_enter Try.func44, Try.ntmps44
  go_wp2
  go_ret
  exact ⟨rfl, by repeat (first | exact Touch.refl _ _ | apply Touch.alloc)⟩
set_option maxHeartbeats 4000000 in
theorem rright43 (w : World) (o : O) : Calls Try.prog 43 #[ov o] w fun e w' => e = .returned (.bool (right o)) ∧ Touch [] w w' := by
  obtain ⟨v, a, x, y⟩ := o
  have eq := fun w => eqr w a x y
  unfold ov right mayF
  simp only
  by_cases h0 : a = 0
  · subst h0
    have e0 : ((if (0 : Int) = 0 then decide (x = 0) && decide (y = 0) else if (0 : Int) = 1 then decide (1 ≤ y) else if (0 : Int) = 2 then decide (1 ≤ y) else if (0 : Int) = 3 then decide (x = 0) && decide (y = 0) else if (0 : Int) = 4 then decide (x = 0) && decide (y = 0) else if (0 : Int) = 5 then decide (x = 0) && decide (1 ≤ y) else false) && (nonF 0 x y || decide (v = 0))) = nonF 0 x y := by
      simp only [if_true, nonF]
      by_cases hx : x = 0 <;> by_cases hy : y = 0 <;> simp [hx, hy]
    rw [e0]
    clear e0
    generalize nonF 0 x y = r at *
    go_enter Try.func43, Try.ntmps43
    go_wp2
    go_ret
    exact ⟨rfl, by repeat (first | exact Touch.refl _ _ | apply Touch.alloc | (refine Touch.setCell ?_ (Or.inr (by simp)) _))⟩
  have e1 : nonF a x y = false := by simp [nonF, h0]
  rw [e1]
  clear eq e1
  have b0 : (a == 0) = false := by simp [h0]
  rw [if_neg h0]
  by_cases h1 : a = 1
  · subst h1
    rw [if_pos rfl]
    by_cases hy : 1 ≤ y
    · go_enter Try.func43, Try.ntmps43
      go_wp2
      go_ret
      exact ⟨by by_cases hv : v = 0 <;> simp [hy, hv], by repeat (first | exact Touch.refl _ _ | apply Touch.alloc | (refine Touch.setCell ?_ (Or.inr (by simp)) _))⟩
    · go_enter Try.func43, Try.ntmps43
      go_wp2
      go_ret
      exact ⟨by (rw [decide_eq_false (show ¬ 1 ≤ y by omega)]; simp), by repeat (first | exact Touch.refl _ _ | apply Touch.alloc | (refine Touch.setCell ?_ (Or.inr (by simp)) _))⟩
  rw [if_neg h1]
  have b1 : (a == 1) = false := by simp [h1]
  by_cases h2 : a = 2
  · subst h2
    rw [if_pos rfl]
    by_cases hy : 1 ≤ y
    · go_enter Try.func43, Try.ntmps43
      go_wp2
      go_ret
      exact ⟨by by_cases hv : v = 0 <;> simp [hy, hv], by repeat (first | exact Touch.refl _ _ | apply Touch.alloc | (refine Touch.setCell ?_ (Or.inr (by simp)) _))⟩
    · go_enter Try.func43, Try.ntmps43
      go_wp2
      go_ret
      exact ⟨by (rw [decide_eq_false (show ¬ 1 ≤ y by omega)]; simp), by repeat (first | exact Touch.refl _ _ | apply Touch.alloc | (refine Touch.setCell ?_ (Or.inr (by simp)) _))⟩
  rw [if_neg h2]
  have b2 : (a == 2) = false := by simp [h2]
  by_cases h3 : a = 3
  · subst h3
    rw [if_pos rfl]
    by_cases hx : x = 0
    · subst hx
      by_cases hy : y = 0
      · subst hy
        go_enter Try.func43, Try.ntmps43
        go_wp2
        go_ret
        exact ⟨by by_cases hv : v = 0 <;> simp [hv], by repeat (first | exact Touch.refl _ _ | apply Touch.alloc | (refine Touch.setCell ?_ (Or.inr (by simp)) _))⟩
      · have hy' : (y == 0) = false := by simp [hy]
        go_enter Try.func43, Try.ntmps43
        go_wp2
        go_ret
        exact ⟨by simp [hy], by repeat (first | exact Touch.refl _ _ | apply Touch.alloc | (refine Touch.setCell ?_ (Or.inr (by simp)) _))⟩
    · have hx' : (x == 0) = false := by simp [hx]
      go_enter Try.func43, Try.ntmps43
      go_wp2
      go_ret
      exact ⟨by simp [hx], by repeat (first | exact Touch.refl _ _ | apply Touch.alloc | (refine Touch.setCell ?_ (Or.inr (by simp)) _))⟩
  rw [if_neg h3]
  have b3 : (a == 3) = false := by simp [h3]
  by_cases h4 : a = 4
  · subst h4
    rw [if_pos rfl]
    by_cases hx : x = 0
    · subst hx
      by_cases hy : y = 0
      · subst hy
        go_enter Try.func43, Try.ntmps43
        go_wp2
        go_ret
        exact ⟨by by_cases hv : v = 0 <;> simp [hv], by repeat (first | exact Touch.refl _ _ | apply Touch.alloc | (refine Touch.setCell ?_ (Or.inr (by simp)) _))⟩
      · have hy' : (y == 0) = false := by simp [hy]
        go_enter Try.func43, Try.ntmps43
        go_wp2
        go_ret
        exact ⟨by simp [hy], by repeat (first | exact Touch.refl _ _ | apply Touch.alloc | (refine Touch.setCell ?_ (Or.inr (by simp)) _))⟩
    · have hx' : (x == 0) = false := by simp [hx]
      go_enter Try.func43, Try.ntmps43
      go_wp2
      go_ret
      exact ⟨by simp [hx], by repeat (first | exact Touch.refl _ _ | apply Touch.alloc | (refine Touch.setCell ?_ (Or.inr (by simp)) _))⟩
  rw [if_neg h4]
  have b4 : (a == 4) = false := by simp [h4]
  by_cases h5 : a = 5
  · subst h5
    rw [if_pos rfl]
    by_cases hx : x = 0
    · subst hx
      by_cases hy : 1 ≤ y
      · go_enter Try.func43, Try.ntmps43
        go_wp2
        go_ret
        exact ⟨by by_cases hv : v = 0 <;> simp [hy, hv], by repeat (first | exact Touch.refl _ _ | apply Touch.alloc | (refine Touch.setCell ?_ (Or.inr (by simp)) _))⟩
      · go_enter Try.func43, Try.ntmps43
        go_wp2
        go_ret
        exact ⟨by (rw [decide_eq_false (show ¬ 1 ≤ y by omega)]; simp), by repeat (first | exact Touch.refl _ _ | apply Touch.alloc | (refine Touch.setCell ?_ (Or.inr (by simp)) _))⟩
    · have hx' : (x == 0) = false := by simp [hx]
      go_enter Try.func43, Try.ntmps43
      go_wp2
      go_ret
      exact ⟨by simp [hx], by repeat (first | exact Touch.refl _ _ | apply Touch.alloc | (refine Touch.setCell ?_ (Or.inr (by simp)) _))⟩
  rw [if_neg h5]
  have b5 : (a == 5) = false := by simp [h5]
  go_enter Try.func43, Try.ntmps43
  go_wp2
  go_ret
  exact ⟨rfl, by repeat (first | exact Touch.refl _ _ | apply Touch.alloc | (refine Touch.setCell ?_ (Or.inr (by simp)) _))⟩
end Go.Proofs.Ytopepalpmkeffaa
