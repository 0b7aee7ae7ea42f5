/- Events and outcomes as the document has them, and its look at them; no conditions but those that each states. -/
import Derived.Test.YtlffleigahfdlaaGreatDoorEve
import Derived.Test.YtlffleigahfdlaaGreatDoorEvf
namespace Go.Proofs.YtlffleigahfdlaaGreatDoor.Tr
open Go.RowKit Go.Maps Go.ChangeMaps
set_option linter.unusedVariables false
set_option linter.unusedSimpArgs false
theorem eqf (w : World) (a b c : Int) : (binOp .eql 37 (.agg #[.int .i64 a, .int .i64 b, .int .i64 c]) (.agg #[.int .i64 0, .int .i64 0, .int .i64 0])).run Tryz.prog w = .ok (.bool (nonF a b c)) w := by
  unfold nonF
  by_cases h1 : a = 0
  · by_cases h2 : b = 0
    · by_cases h3 : c = 0
      · go_simp
      · go_simp
    · go_simp
  · go_simp
theorem neo (w : World) (v a b c : Int) : (binOp .neq 39 (.agg #[.int .i64 v, .int .i64 a, .int .i64 b, .int .i64 c]) (.agg #[.int .i64 0, .int .i64 0, .int .i64 0, .int .i64 0])).run Tryz.prog w = .ok (.bool (!(decide (v = 0) && nonF a b c))) w := by
  unfold nonF
  by_cases h0 : v = 0
  · by_cases h1 : a = 0
    · by_cases h2 : b = 0
      · by_cases h3 : c = 0
        · go_simp
        · go_simp
      · go_simp
    · go_simp
  · go_simp
theorem eqrk (w : World) (sp : Int) (nm : ByteArray) : (binOp .eql 36 (.agg #[.int .u16 sp, .string nm]) (.agg #[.int .u16 0, .string ⟨#[]⟩])).run Tryz.prog w = .ok (.bool (zeroK sp nm)) w := by
  unfold zeroK
  by_cases h0 : sp = 0
  · by_cases h1 : nm.toList = []
    · go_simp
    · go_simp
  · go_simp
set_option maxHeartbeats 1000000 in
theorem rright_ (v a b c : Int) (w : World) : Calls Tryz.prog 41 #[.agg #[.int .i64 v, .int .i64 a, .int .i64 b, .int .i64 c]] w fun e w' => e = .returned (.bool (right (v, a, b, c))) ∧ Touch [] w w' := by
  have T : ∀ o o' : Obj, Touch [] w ((w.alloc o).alloc o') := fun o o' => ((Touch.refl [] w).alloc o).alloc o'
  by_cases h0 : a = 0
  · subst h0
    have HE := fun w => eqf w 0 b c
    have HR : Hid (right (v, 0, b, c) = nonF 0 b c) := by
      show right (v, 0, b, c) = nonF 0 b c
      unfold right mayF nonF
      by_cases hb : b = 0 <;> by_cases hc : c = 0 <;> simp [hb, hc]
    generalize right (v, 0, b, c) = R at *
    generalize nonF 0 b c = r at *
    go_enter Tryz.func41, Tryz.ntmps41
    go_wp2
    go_ret
    exact ⟨by rw [HR.out]; rfl, T _ _⟩
  have e0 : (a == 0) = false := by simp [h0]
  by_cases h1 : a = 1
  · subst h1
    clear e0 h0
    have HR : Hid (right (v, 1, b, c) = (decide (1 ≤ c) && decide (v = 0))) := by
      show right (v, 1, b, c) = (decide (1 ≤ c) && decide (v = 0))
      unfold right mayF nonF
      simp
      try (cases decide (b = 0) <;> cases decide (c = 0) <;> cases decide (1 ≤ c) <;> simp)
    generalize right (v, 1, b, c) = R at *
    by_cases q0 : 1 ≤ c
    · go_enter Tryz.func41, Tryz.ntmps41
      go_wp2
      go_ret
      exact ⟨by rw [HR.out]; simp [q0]; try (by_cases hv : v = 0 <;> simp [hv]), T _ _⟩
    · go_enter Tryz.func41, Tryz.ntmps41
      go_wp2
      go_ret
      exact ⟨by rw [HR.out]; simp [q0]; try (intro hc; omega), T _ _⟩
  have e1 : (a == 1) = false := by simp [h1]
  by_cases h2 : a = 2
  · subst h2
    clear e0 h0 e1 h1
    have HR : Hid (right (v, 2, b, c) = (decide (1 ≤ c) && decide (v = 0))) := by
      show right (v, 2, b, c) = (decide (1 ≤ c) && decide (v = 0))
      unfold right mayF nonF
      simp
      try (cases decide (b = 0) <;> cases decide (c = 0) <;> cases decide (1 ≤ c) <;> simp)
    generalize right (v, 2, b, c) = R at *
    by_cases q0 : 1 ≤ c
    · go_enter Tryz.func41, Tryz.ntmps41
      go_wp2
      go_ret
      exact ⟨by rw [HR.out]; simp [q0]; try (by_cases hv : v = 0 <;> simp [hv]), T _ _⟩
    · go_enter Tryz.func41, Tryz.ntmps41
      go_wp2
      go_ret
      exact ⟨by rw [HR.out]; simp [q0]; try (intro hc; omega), T _ _⟩
  have e2 : (a == 2) = false := by simp [h2]
  by_cases h3 : a = 3
  · subst h3
    clear e0 h0 e1 h1 e2 h2
    have HR : Hid (right (v, 3, b, c) = (decide (b = 0) && (decide (c = 0) && decide (v = 0)))) := by
      show right (v, 3, b, c) = (decide (b = 0) && (decide (c = 0) && decide (v = 0)))
      unfold right mayF nonF
      simp
      try (cases decide (b = 0) <;> cases decide (c = 0) <;> cases decide (1 ≤ c) <;> simp)
    generalize right (v, 3, b, c) = R at *
    by_cases q0 : b = 0
    · by_cases q1 : c = 0
      · go_enter Tryz.func41, Tryz.ntmps41
        go_wp2
        go_ret
        exact ⟨by rw [HR.out]; simp [q0, q1]; try (by_cases hv : v = 0 <;> simp [hv]), T _ _⟩
      · have q1e : (c == 0) = false := by simp [q1]
        go_enter Tryz.func41, Tryz.ntmps41
        go_wp2
        go_ret
        exact ⟨by rw [HR.out]; simp [q0, q1]; try (intro hc; omega), T _ _⟩
    · have q0e : (b == 0) = false := by simp [q0]
      go_enter Tryz.func41, Tryz.ntmps41
      go_wp2
      go_ret
      exact ⟨by rw [HR.out]; simp [q0]; try (intro hc; omega), T _ _⟩
  have e3 : (a == 3) = false := by simp [h3]
  by_cases h4 : a = 4
  · subst h4
    clear e0 h0 e1 h1 e2 h2 e3 h3
    have HR : Hid (right (v, 4, b, c) = (decide (b = 0) && (decide (c = 0) && decide (v = 0)))) := by
      show right (v, 4, b, c) = (decide (b = 0) && (decide (c = 0) && decide (v = 0)))
      unfold right mayF nonF
      simp
      try (cases decide (b = 0) <;> cases decide (c = 0) <;> cases decide (1 ≤ c) <;> simp)
    generalize right (v, 4, b, c) = R at *
    by_cases q0 : b = 0
    · by_cases q1 : c = 0
      · go_enter Tryz.func41, Tryz.ntmps41
        go_wp2
        go_ret
        exact ⟨by rw [HR.out]; simp [q0, q1]; try (by_cases hv : v = 0 <;> simp [hv]), T _ _⟩
      · have q1e : (c == 0) = false := by simp [q1]
        go_enter Tryz.func41, Tryz.ntmps41
        go_wp2
        go_ret
        exact ⟨by rw [HR.out]; simp [q0, q1]; try (intro hc; omega), T _ _⟩
    · have q0e : (b == 0) = false := by simp [q0]
      go_enter Tryz.func41, Tryz.ntmps41
      go_wp2
      go_ret
      exact ⟨by rw [HR.out]; simp [q0]; try (intro hc; omega), T _ _⟩
  have e4 : (a == 4) = false := by simp [h4]
  by_cases h5 : a = 5
  · subst h5
    clear e0 h0 e1 h1 e2 h2 e3 h3 e4 h4
    have HR : Hid (right (v, 5, b, c) = (decide (b = 0) && (decide (1 ≤ c) && decide (v = 0)))) := by
      show right (v, 5, b, c) = (decide (b = 0) && (decide (1 ≤ c) && decide (v = 0)))
      unfold right mayF nonF
      simp
      try (cases decide (b = 0) <;> cases decide (c = 0) <;> cases decide (1 ≤ c) <;> simp)
    generalize right (v, 5, b, c) = R at *
    by_cases q0 : b = 0
    · by_cases q1 : 1 ≤ c
      · go_enter Tryz.func41, Tryz.ntmps41
        go_wp2
        go_ret
        exact ⟨by rw [HR.out]; simp [q0, q1]; try (by_cases hv : v = 0 <;> simp [hv]), T _ _⟩
      · go_enter Tryz.func41, Tryz.ntmps41
        go_wp2
        go_ret
        exact ⟨by rw [HR.out]; simp [q0, q1]; try (intro hc; omega), T _ _⟩
    · have q0e : (b == 0) = false := by simp [q0]
      go_enter Tryz.func41, Tryz.ntmps41
      go_wp2
      go_ret
      exact ⟨by rw [HR.out]; simp [q0]; try (intro hc; omega), T _ _⟩
  have e5 : (a == 5) = false := by simp [h5]
  have HR : Hid (right (v, a, b, c) = false) := by
    show right (v, a, b, c) = false
    unfold right mayF
    rw [if_neg h0, if_neg h1, if_neg h2, if_neg h3, if_neg h4, if_neg h5]; rfl
  generalize right (v, a, b, c) = R at *
  clear h0 h1 h2 h3 h4 h5
  go_enter Tryz.func41, Tryz.ntmps41
  go_wp2
  go_ret
  exact ⟨by rw [HR.out]; rfl, T _ _⟩
theorem rnumber_ (e : Ez) (c : Nat) (n : Int) (w : World) : Calls Tryz.prog 40 #[e.val, .int .u8 c, .int .i64 n] w fun r w' => r = .returned (.bool (decide (n = 0) || (decide (0 < n) && hasB (rnm e.kd) c))) ∧ Touch [] w w' := by
  have HC : Hid _ := fun w' => rnamed_ e.kd c w'
  generalize hasB (rnm e.kd) c = B at *
  unfold Ez.val
  rcases Int.lt_trichotomy n 0 with hn | hn | hn
  · have q1 : (n == 0) = false := by simp; omega
    have q2 : ¬ 0 < n := by omega
    have HR : Hid ((decide (n = 0) || (decide (0 < n) && B)) = false) := by show (_ || _) = false; rw [decide_eq_false (by omega), decide_eq_false q2]; rfl
    generalize (decide (n = 0) || (decide (0 < n) && B)) = R at *
    clear hn
    go_enter Tryz.func40, Tryz.ntmps40
    go_wp2
    go_ret
    exact ⟨by rw [HR.out]; rfl, (Touch.refl [] w).alloc _⟩
  · subst hn
    have HR : Hid ((decide ((0 : Int) = 0) || (decide ((0 : Int) < 0) && B)) = true) := by show (_ || _) = true; simp
    generalize (decide ((0 : Int) = 0) || (decide ((0 : Int) < 0) && B)) = R at *
    go_enter Tryz.func40, Tryz.ntmps40
    go_wp2
    go_ret
    exact ⟨by rw [HR.out]; rfl, (Touch.refl [] w).alloc _⟩
  · have q1 : (n == 0) = false := by simp; omega
    have HR : Hid ((decide (n = 0) || (decide (0 < n) && B)) = B) := by show (_ || _) = B; rw [decide_eq_false (by omega), decide_eq_true hn]; simp
    generalize (decide (n = 0) || (decide (0 < n) && B)) = R at *
    go_enter Tryz.func40, Tryz.ntmps40
    go_wp2_with fail
    refine (HC.out _).mono ?_
    rintro r w1 ⟨rfl, e1⟩
    rw [e1]
    clear e1 w1
    go_wp2_with fail
    go_ret
    exact ⟨by rw [HR.out]; rfl, (Touch.refl [] w).alloc _⟩
theorem given_ (e : Ez) (w : World) : Calls Tryz.prog 11 #[e.val] w fun r w' => r = .returned e.val ∧ Touch [] w w' := by
  unfold Ez.val
  go_enter Tryz.func11, Tryz.ntmps11
  go_wp2
  exact bodyPost_ret (v := .agg #[.int .i64 e.at_, .int .i64 e.kd, .int .i64 e.cl, .int .i64 e.ca, .int .i64 e.ru, .int .i64 e.ge, .int .i64 e.ho, .int .u16 e.sp, .string e.nm, .int .i64 e.va, .int .i64 e.fk, .int .i64 e.fc, .int .i64 e.fr]) (by simp [results, Tryz.results11, go_sem]) rfl ⟨rfl, by repeat (first | exact Touch.refl _ _ | apply Touch.alloc)⟩
end Go.Proofs.YtlffleigahfdlaaGreatDoor.Tr
