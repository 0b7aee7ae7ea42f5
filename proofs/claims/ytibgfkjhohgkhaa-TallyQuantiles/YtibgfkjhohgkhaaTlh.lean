/- Products of two numbers without any bound, on both sides; no conditions but those that each states. -/
import Derived.Test.YtibgfkjhohgkhaaTlg
import Derived.Test.YtibgfkjhohgkhaaTik
namespace Go.Proofs.Ytibgfkjhohgkhaa.Ty
open Go.RowKit Go.Maps Go.ChangeMaps
set_option linter.unusedVariables false
set_option linter.unusedSimpArgs false
theorem u64_of {z : Int} (h0 : 0 ≤ z) (h1 : z < 18446744073709551616) : IntKind.u64.wrap z = z := by rw [IntKind.wrap_u64]; omega
theorem lex_lt {a b : Int} : (a / 18446744073709551616 < b / 18446744073709551616 ∨ a / 18446744073709551616 = b / 18446744073709551616 ∧ a % 18446744073709551616 < b % 18446744073709551616) ↔ a < b := by omega
theorem isBelow_ (a b c d : Int) (ha : 0 ≤ a) (hb : 0 ≤ b) (hc : 0 ≤ c) (hd : 0 ≤ d) (ha' : a < 9223372036854775808) (hb' : b < 9223372036854775808) (hc' : c < 9223372036854775808) (hd' : d < 9223372036854775808) (w : World) :
    Calls Try.prog 39 #[.int .i64 a, .int .i64 b, .int .i64 c, .int .i64 d] w fun r w' => r = .returned (.bool (decide (a * b < c * d))) ∧ w' = w := by
  have H1 := hid (fun w' => Ti.mul42 a b ha (by omega) hb (by omega) w')
  have H2 := hid (fun w' => Ti.mul42 c d hc (by omega) hd (by omega) w')
  have wa := u64_of ha (by omega)
  have wb := u64_of hb (by omega)
  have wc := u64_of hc (by omega)
  have wd := u64_of hd (by omega)
  have HX := hid (lex_lt (a := a * b) (b := c * d))
  simp only [IntKind.wrap_u64] at H1 H2
  generalize a * b = X at *
  generalize c * d = Y at *
  generalize X / 18446744073709551616 = p at *
  generalize X % 18446744073709551616 = q at *
  generalize Y / 18446744073709551616 = p' at *
  generalize Y % 18446744073709551616 = q' at *
  by_cases h1 : p < p'
  · have HD := hid (decide_eq_true (HX.out.1 (Or.inl h1)))
    generalize decide (X < Y) = R at *
    go_enter Try.func39, Try.ntmps39
    go_wp2_with fail
    refine (H1.out _).mono ?_
    rintro r w1 ⟨rfl, rfl⟩
    go_wp2_with fail
    refine (H2.out _).mono ?_
    rintro r w1 ⟨rfl, rfl⟩
    go_wp2_with fail
    go_ret
    exact ⟨by rw [HD.out]; rfl, rfl⟩
  · by_cases h2 : p = p'
    · subst h2
      by_cases h3 : q < q'
      · have HD := hid (decide_eq_true (HX.out.1 (Or.inr ⟨rfl, h3⟩)))
        generalize decide (X < Y) = R at *
        clear h1
        go_enter Try.func39, Try.ntmps39
        go_wp2_with fail
        refine (H1.out _).mono ?_
        rintro r w1 ⟨rfl, rfl⟩
        go_wp2_with fail
        refine (H2.out _).mono ?_
        rintro r w1 ⟨rfl, rfl⟩
        go_wp2_with fail
        go_ret
        exact ⟨by rw [HD.out]; rfl, rfl⟩
      · have HD := hid (decide_eq_false (fun h => by rcases HX.out.2 h with h | h <;> omega : ¬ X < Y))
        have hd3 : decide (q < q') = false := decide_eq_false h3
        generalize decide (X < Y) = R at *
        clear h1
        go_enter Try.func39, Try.ntmps39
        go_wp2_with fail
        refine (H1.out _).mono ?_
        rintro r w1 ⟨rfl, rfl⟩
        go_wp2_with fail
        refine (H2.out _).mono ?_
        rintro r w1 ⟨rfl, rfl⟩
        go_wp2_with fail
        go_ret
        exact ⟨by rw [HD.out]; rfl, rfl⟩
    · have hb2 : (p == p') = false := by simpa using h2
      have HD := hid (decide_eq_false (fun h => by rcases HX.out.2 h with h | h <;> omega : ¬ X < Y))
      have hd1 : decide (p < p') = false := decide_eq_false h1
      generalize decide (X < Y) = R at *
      clear h2
      go_enter Try.func39, Try.ntmps39
      go_wp2_with fail
      refine (H1.out _).mono ?_
      rintro r w1 ⟨rfl, rfl⟩
      go_wp2_with fail
      refine (H2.out _).mono ?_
      rintro r w1 ⟨rfl, rfl⟩
      go_wp2_with fail
      go_ret
      exact ⟨by rw [HD.out]; rfl, rfl⟩
/-- The document's product, bit by bit: what stands behind so many bits. -/
structure Pi (A B : Int) (i : Nat) (x H L Q : Int) : Prop where
  t : A * Ti.p2 i = Q * 18446744073709551616 + x
  x0 : 0 ≤ x
  x1 : x < 18446744073709551616
  v : H * 18446744073709551616 + L = Q * B
  l0 : 0 ≤ L
  l1 : L < 18446744073709551616
  h0 : 0 ≤ H
  q0 : 0 ≤ Q
theorem p2_le {i : Nat} (h : i ≤ 64) : Ti.p2 i ≤ 18446744073709551616 := by
  have := Ti.p2_mono h
  have e : Ti.p2 64 = 18446744073709551616 := by decide
  omega
/-- Q is never above A. -/
theorem Pi.le {A B : Int} {i : Nat} {x H L Q : Int} (h : Pi A B i x H L Q) (ha : 0 ≤ A) (hi : i ≤ 64) : Q ≤ A := by
  have h1 := h.t
  have h2 := h.x0
  have h3 := Int.mul_le_mul_of_nonneg_left (p2_le hi) ha
  omega
theorem Pi.hi {A B : Int} {i : Nat} {x H L Q : Int} (h : Pi A B i x H L Q) (ha : 0 ≤ A) (ha' : A < 9223372036854775808) (hb : 0 ≤ B) (hb' : B < 9223372036854775808) (hi : i ≤ 64) : H < 4611686018427387904 := by
  have h1 := h.le ha hi
  have h2 := Int.mul_le_mul_of_nonneg_right h1 hb
  have h3 : A * B ≤ 9223372036854775807 * B := Int.mul_le_mul_of_nonneg_right (by omega) hb
  have h4 := h.v
  have h5 := h.l0
  generalize Q * B = V at *
  generalize A * B = M at *
  omega
theorem Pi.next {A B : Int} {i : Nat} {x H L Q : Int} (h : Pi A B i x H L Q) {x' H' L' : Int} (l0 : 0 ≤ L') (l1 : L' < 18446744073709551616) (h0 : 0 ≤ H')
    (hc : x < 9223372036854775808 ∧ x' = 2 * x ∧ H' * 18446744073709551616 + L' = 2 * (H * 18446744073709551616 + L) ∨ 9223372036854775808 ≤ x ∧ x' = 2 * x - 18446744073709551616 ∧ H' * 18446744073709551616 + L' = 2 * (H * 18446744073709551616 + L) + B) : ∃ Q', Pi A B (i + 1) x' H' L' Q' := by
  obtain ⟨h1, h2, h3, h4, h5, h6, h7, h8⟩ := h
  have ht : A * Ti.p2 (i + 1) = 2 * (Q * 18446744073709551616 + x) := by rw [Ti.p2_succ, ← Int.mul_assoc, h1]; omega
  rcases hc with ⟨q1, q2, q3⟩ | ⟨q1, q2, q3⟩
  · refine ⟨2 * Q, by rw [ht]; omega, by omega, by omega, ?_, l0, l1, h0, by omega⟩
    rw [q3, h4, Int.mul_assoc]
  · refine ⟨2 * Q + 1, by rw [ht]; omega, by omega, by omega, ?_, l0, l1, h0, by omega⟩
    rw [q3, h4, Int.add_mul, Int.mul_assoc, Int.one_mul]
theorem Pi.end_ {A B x H L Q : Int} (h : Pi A B 64 x H L Q) : H = A * B / 18446744073709551616 ∧ L = A * B % 18446744073709551616 := by
  have e : Ti.p2 64 = 18446744073709551616 := by decide
  have h1 := h.t
  rw [e] at h1
  have h2 := h.x0
  have h3 := h.x1
  have hq : Q = A := by omega
  have h4 := h.v
  rw [hq] at h4
  have h5 := h.l0
  have h6 := h.l1
  generalize A * B = V at *
  omega
set_option maxHeartbeats 4000000 in
theorem product_ (A B : Int) (ha : 0 ≤ A) (ha' : A < 9223372036854775808) (hb : 0 ≤ B) (hb' : B < 9223372036854775808) (w : World) :
    Calls Try.prog 41 #[.int .u64 A, .int .u64 B] w fun r w' => r = .returned (.tuple #[.int .u64 (A * B / 18446744073709551616), .int .u64 (A * B % 18446744073709551616)]) ∧ w' = w := by
  have HP := hid (show Pi A B 0 A 0 0 0 from ⟨by simp [Ti.p2_zero], ha, by omega, by simp, by omega, by omega, by omega, by omega⟩)
  go_enter Try.func41, Try.ntmps41
  go_wp2
  go_loopw [0, 6, 7, 8] (fun x h l i wr => ∃ (j : Nat) (X H L Q : Int), i = .int .i64 j ∧ x = .int .u64 X ∧ h = .int .u64 H ∧ l = .int .u64 L ∧ j ≤ 64 ∧ Hid (Pi A B j X H L Q) ∧ wr = w) (fun _ _ _ i _ => 64 - (intOf i).toNat)
  case atStart => exact ⟨0, A, 0, 0, 0, rfl, rfl, rfl, rfl, by omega, HP, rfl⟩
  case round =>
    obtain ⟨j, X, H, L, Q, rfl, rfl, rfl, rfl, hj, HI, rfl⟩ := hrel
    by_cases hlt : j < 64
    · have hH := HI.out.hi ha ha' hb hb' hj
      have hH0 := HI.out.h0
      have hX0 := HI.out.x0
      have hX1 := HI.out.x1
      have hL0 := HI.out.l0
      have hL1 := HI.out.l1
      by_cases hL : 9223372036854775808 ≤ L <;> by_cases hX : 9223372036854775808 ≤ X
      all_goals (
        have key : ∀ X' H' L' : Int, (∃ Q', Pi A B (j + 1) X' H' L' Q') → (∃ (j_1 : Nat) (X_1 H_1 L_1 Q : Int), Value.int IntKind.i64 ((j : Int) + 1) = Value.int IntKind.i64 j_1 ∧ Value.int IntKind.u64 X' = Value.int IntKind.u64 X_1 ∧ Value.int IntKind.u64 H' = Value.int IntKind.u64 H_1 ∧ Value.int IntKind.u64 L' = Value.int IntKind.u64 L_1 ∧ j_1 ≤ 64 ∧ Hid (Pi A B j_1 X_1 H_1 L_1 Q) ∧ True) := fun X' H' L' ⟨Q', h⟩ => ⟨j + 1, X', H', L', Q', rfl, rfl, rfl, rfl, hlt, h, trivial⟩
        have KEY := hid key
        clear key
        go_wp2)
      all_goals (
        refine ⟨KEY.out _ _ _ ?_, by simp [intOf]; omega⟩
        try simp only [IntKind.wrap_u64] at *
        exact HI.out.next (by omega) (by omega) (by omega) (by omega))
    · have e : j = 64 := by omega
      subst e
      have HE := hid HI.out.end_
      clear HI HP
      go_wp2
      go_ret2
      exact ⟨Ti.ret2 HE.out.1 HE.out.2, rfl⟩
end Go.Proofs.Ytibgfkjhohgkhaa.Ty
