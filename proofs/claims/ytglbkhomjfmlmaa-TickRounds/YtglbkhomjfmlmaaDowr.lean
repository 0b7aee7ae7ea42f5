/- The document's Down, Up and Double, and the program's Double, each answer the plain numbers, of every number; the world stays as it was. -/
import Derived.Test.YtglbkhomjfmlmaaDown
namespace Go.Proofs.Ytglbkhomjfmlmaa
open Go.ChangeShapes Go.WideShapes Go.ChangeAt Go.RowKit

theorem down25 (t b : Int) (w : World) : Calls Try.prog 25 #[.int .i64 t, .int .i64 b] w fun e w' => e = .returned (.tuple #[.int .i64 (dnOf t b), .int .i64 (rdErr t b)]) ∧ w' = w := by
  cases h1 : isT t with
  | false =>
    obtain ⟨e1, e2, _⟩ := rd_no t b h1
    rw [e1, e2]
    go_enter Try.func25, Try.ntmps25
    go_wp2_with (go_at_call 15; refine (is15 _ _).mono ?_; rintro e w' ⟨rfl, rfl⟩)
    go_ret2
    exact ⟨rfl, rfl⟩
  | true =>
    rcases rd_or b with h | h | ⟨n, hn, rfl⟩
    · obtain ⟨e1, e2, _⟩ := rd_bits t b h1 (.inl h)
      rw [e1, e2]
      go_enter Try.func25, Try.ntmps25
      go_wp2_with (go_at_call 15; refine (is15 _ _).mono ?_; rintro e w' ⟨rfl, rfl⟩)
      go_ret2
      exact ⟨rfl, rfl⟩
    · obtain ⟨e1, e2, _⟩ := rd_bits t b h1 (.inr h)
      rw [e1, e2]
      have h' : ¬ b < 0 := by omega
      go_enter Try.func25, Try.ntmps25
      go_wp2_with (go_at_call 15; refine (is15 _ _).mono ?_; rintro e w' ⟨rfl, rfl⟩)
      go_ret2
      exact ⟨rfl, rfl⟩
    · obtain ⟨e1, e2, _⟩ := rd_yes t n h1 hn
      rw [e1, e2]
      obtain ⟨b1, b2⟩ := isT_yes h1
      go_enter Try.func25, Try.ntmps25
      go_wp2_with (go_at_call 15; refine (is15 _ _).mono ?_; rintro e w' ⟨rfl, rfl⟩)
      go_loop [6, 7] (fun l i => ∃ j : Nat, j ≤ n ∧ i = .int .i64 (j : Int) ∧ l = .int .i64 (p2 j)) (fun _ i => n - (intOf i).toNat)
      case atStart => exact ⟨0, Nat.zero_le _, rfl, rfl⟩
      case round =>
        obtain ⟨j, hj, rfl, rfl⟩ := hrel
        by_cases hlt : j < n
        · have h1 := p2_le61 (show j ≤ 61 by omega)
          have h2 := p2_pos j
          go_wp2
          go_round
          case rel => exact ⟨j + 1, by omega, by go_num, by rw [p2_succ]⟩
          case measure => simp [intOf]; omega
        · obtain rfl : j = n := by omega
          have h1 := p2_le62 hn
          have h2 := p2_pos j
          obtain ⟨c1, c2, c3, _⟩ := dn_bounds t j b1
          have hz : (p2 j == 0) = false := by simp; omega
          have hm0 := Int.emod_nonneg t (show p2 j ≠ 0 by omega)
          have hm1 : t % p2 j ≤ t := by unfold dn at c1; omega
          unfold dn at *
          go_wp2
          go_ret2
          exact ⟨rfl, rfl⟩

theorem up27 (t b : Int) (w : World) : Calls Try.prog 27 #[.int .i64 t, .int .i64 b] w fun e w' => e = .returned (.tuple #[.int .i64 (upOf t b), .int .i64 (rdErr t b)]) ∧ w' = w := by
  by_cases h : isT t = true ∧ 0 ≤ b ∧ b ≤ 62
  · obtain ⟨h1, h2, h3⟩ := h
    obtain ⟨n, rfl⟩ := Int.eq_ofNat_of_zero_le h2
    have hn : n ≤ 62 := by omega
    obtain ⟨e1, e2, e3⟩ := rd_yes t n h1 hn
    obtain ⟨b1, b2⟩ := isT_yes h1
    obtain ⟨c1, c2, c3, _⟩ := dn_bounds t n b1
    have D := down25 t n w
    rw [e1, e2] at D
    rw [e1, e3]
    clear e1 e2 e3
    by_cases hs : dn t n = t
    · rw [up_same t n hs]
      rw [hs] at D
      clear hs c1 c2 c3
      go_enter Try.func27, Try.ntmps27
      go_wp2_with (go_at_call 25; refine D.mono ?_; rintro e w' ⟨rfl, rfl⟩)
      go_ret2
      exact ⟨rfl, rfl⟩
    · rw [up_next t n hs]
      have hs' : (dn t n == t) = false := by simpa using hs
      have hs2 : dn t n < t := by omega
      clear hs
      go_enter Try.func27, Try.ntmps27
      go_wp2_with (go_at_call 25; refine D.mono ?_; rintro e w' ⟨rfl, rfl⟩)
      go_loop [8, 9] (fun l i => ∃ j : Nat, j ≤ n ∧ i = .int .i64 (j : Int) ∧ l = .int .i64 (p2 j)) (fun _ i => n - (intOf i).toNat)
      case atStart => exact ⟨0, Nat.zero_le _, rfl, rfl⟩
      case round =>
        obtain ⟨j, hj, rfl, rfl⟩ := hrel
        by_cases hlt : j < n
        · have h1 := p2_le61 (show j ≤ 61 by omega)
          have h2 := p2_pos j
          go_wp2
          go_round
          case rel => exact ⟨j + 1, by omega, by go_num, by rw [p2_succ]⟩
          case measure => simp [intOf]; omega
        · obtain rfl : j = n := by omega
          have h1 := p2_le62 hn
          have h2 := p2_pos j
          go_wp2
          go_ret2
          exact ⟨rfl, rfl⟩
  · have e : (rdErr t b = 10 ∨ rdErr t b = 12) ∧ upOf t b = 0 ∧ dnOf t b = 0 := by
      cases h1 : isT t with
      | false => exact ⟨.inl (rd_no t b h1).1, (rd_no t b h1).2.2, (rd_no t b h1).2.1⟩
      | true => have := rd_bits t b h1 (by simp [h1] at h; omega); exact ⟨.inr this.1, this.2.2, this.2.1⟩
    have e' : (rdErr t b != 0) = true := by rcases e.1 with h | h <;> rw [h] <;> rfl
    have D := down25 t b w
    rw [e.2.2] at D
    rw [e.2.1]
    clear e h
    go_enter Try.func27, Try.ntmps27
    go_wp2_with (go_at_call 25; refine D.mono ?_; rintro e w' ⟨rfl, rfl⟩)
    go_ret2
    exact ⟨rfl, rfl⟩

def dbErr (d b most : Int) : Int := if d < 0 ∨ most < 0 then 11 else if b < 0 then 1 else 0
def dbOf (d b most : Int) : Int := if d < 0 ∨ most < 0 then 0 else if b < 0 then 0 else dbl d b.toNat most
theorem db_time (d b most : Int) (h : d < 0 ∨ most < 0) : dbErr d b most = 11 ∧ dbOf d b most = 0 := by simp [dbErr, dbOf, h]
theorem db_arg (d b most : Int) (h : 0 ≤ d) (h' : 0 ≤ most) (hb : b < 0) : dbErr d b most = 1 ∧ dbOf d b most = 0 := by
  have : ¬ (d < 0 ∨ most < 0) := by omega
  simp [dbErr, dbOf, this, hb]
theorem db_yes (d most : Int) (n : Nat) (h : 0 ≤ d) (h' : 0 ≤ most) : dbErr d (n : Int) most = 0 ∧ dbOf d (n : Int) most = dbl d n most := by
  have : ¬ (d < 0 ∨ most < 0) := by omega
  have h2 : ¬ ((n : Int) < 0) := by omega
  simp [dbErr, dbOf, this, h2]

theorem double28_yes (d most : Int) (n : Nat) (hd : 0 ≤ d) (hm : 0 ≤ most) (hm' : most < 9223372036854775808) (hn : n ≤ 9223372036854775807) (w : World) :
    Calls Try.prog 28 #[.int .i64 d, .int .i64 (n : Int), .int .i64 most] w fun e w' => e = .returned (.tuple #[.int .i64 (dbl d n most), .int .i64 0]) ∧ w' = w := by
  by_cases h64 : n < 64
  · by_cases hc : most / 2 ^ n < d
    · rw [dbl_most ((shr_iff d most n).1 hc)]
      go_enter Try.func28, Try.ntmps28
      go_wp2
      go_ret2
      exact ⟨rfl, rfl⟩
    · have hc' : ¬ most < d * p2 n := fun h => hc ((shr_iff d most n).2 h)
      have hw : wrap64 (d * 2 ^ n) = d * p2 n := by
        show wrap64 (d * p2 n) = d * p2 n
        exact wrap_small (Int.mul_nonneg hd (by have := p2_pos n; omega)) (by omega) hm'
      rw [dbl_times hc']
      clear hc'
      go_enter Try.func28, Try.ntmps28
      go_wp2
      go_ret2
      exact ⟨rfl, rfl⟩
  · have h3 : 64 ≤ n := by omega
    clear h64
    by_cases hz : d = 0
    · subst hz
      rw [dbl_zero n most hm]
      have h2 : 0 ≤ most / 18446744073709551616 := by omega
      go_enter Try.func28, Try.ntmps28
      go_wp2
      go_ret2
      exact ⟨rfl, rfl⟩
    · rw [dbl_most (great (show 1 ≤ d by omega) (show 64 ≤ n by omega) hm')]
      have h2 : most / 18446744073709551616 < d := by omega
      go_enter Try.func28, Try.ntmps28
      go_wp2
      go_ret2
      exact ⟨rfl, rfl⟩
theorem double28 (d b most : Int) (hm' : most < 9223372036854775808) (hn : b < 9223372036854775808) (w : World) :
    Calls Try.prog 28 #[.int .i64 d, .int .i64 b, .int .i64 most] w fun e w' => e = .returned (.tuple #[.int .i64 (dbOf d b most), .int .i64 (dbErr d b most)]) ∧ w' = w := by
  by_cases h1 : d < 0
  · obtain ⟨e1, e2⟩ := db_time d b most (.inl h1)
    rw [e1, e2]
    go_enter Try.func28, Try.ntmps28
    go_wp2
    go_ret2
    exact ⟨rfl, rfl⟩
  · by_cases h2 : most < 0
    · obtain ⟨e1, e2⟩ := db_time d b most (.inr h2)
      rw [e1, e2]
      go_enter Try.func28, Try.ntmps28
      go_wp2
      go_ret2
      exact ⟨rfl, rfl⟩
    · by_cases h3 : b < 0
      · obtain ⟨e1, e2⟩ := db_arg d b most (by omega) (by omega) h3
        rw [e1, e2]
        go_enter Try.func28, Try.ntmps28
        go_wp2
        go_ret2
        exact ⟨rfl, rfl⟩
      · obtain ⟨n, rfl⟩ := Int.eq_ofNat_of_zero_le (show 0 ≤ b by omega)
        obtain ⟨e1, e2⟩ := db_yes d most n (by omega) (by omega)
        rw [e1, e2]
        exact double28_yes d most n (by omega) (by omega) hm' (by omega) w

theorem half_lt {d most : Int} {k n : Nat} (h : most / 2 < d * p2 k) (hk : k < n) (hd : 0 ≤ d) : most < d * p2 n := by
  have h1 := mul_mono hd (show k + 1 ≤ n by omega)
  rw [p2_succ, ← Int.mul_assoc] at h1
  omega
theorem dbl_end {d most : Int} {k n : Nat} (x : Int) (hx : x = d * p2 k) (hle : k = n ∨ k = 64 ∧ 64 ≤ n) (hd : 0 ≤ d) (h0 : 0 ≤ most) (hx1 : k = 0 ∨ x ≤ most) (hm : most < 9223372036854775808) :
    dbl d n most = if most < x then most else x := by
  rcases hle with rfl | ⟨rfl, hn⟩
  · subst hx; rfl
  · rw [p2_64] at hx
    have hd0 : d = 0 := by omega
    subst hd0
    rw [dbl_zero n most h0]
    have : x = 0 := by omega
    subst this
    rw [if_neg (by omega)]

theorem double29_yes (d most : Int) (n : Nat) (hd : 0 ≤ d) (hd' : d < 9223372036854775808) (hm : 0 ≤ most) (hm' : most < 9223372036854775808) (hn : n ≤ 9223372036854775807) (w : World) :
    Calls Try.prog 29 #[.int .i64 d, .int .i64 (n : Int), .int .i64 most] w fun e w' => e = .returned (.tuple #[.int .i64 (dbl d n most), .int .i64 0]) ∧ w' = w := by
  go_enter Try.func29, Try.ntmps29
  go_wp2
  go_loop [0, 8] (fun x i => ∃ (k : Nat) (X : Int), k ≤ n ∧ k ≤ 64 ∧ i = .int .i64 (k : Int) ∧ x = .int .i64 X ∧ 0 ≤ X ∧ X < 9223372036854775808 ∧ Hid (X = d * p2 k) ∧ Hid (k = 0 ∨ X ≤ most)) (fun _ i => n - (intOf i).toNat)
  case atStart => exact ⟨0, d, Nat.zero_le _, by omega, rfl, rfl, hd, hd', by show d = d * p2 0; rw [p2_zero]; omega, .inl rfl⟩
  case round =>
    obtain ⟨k, X, hk, hk64, rfl, rfl, hX0, hX1, HX, HL⟩ := hrel
    by_cases hgo : k < n ∧ k < 64
    · obtain ⟨hlt, hlt64⟩ := hgo
      by_cases hc : most / 2 < X
      · have hpos : 0 < X := by omega
        have hres : Hid (dbl d n most = most) := dbl_most (half_lt (by rw [← HX.out]; exact hc) hlt hd)
        go_wp2
        go_ret2
        exact ⟨ret2 hres.out.symm rfl, rfl⟩
      · go_wp2
        go_round
        case rel =>
          refine ⟨k + 1, _, by omega, by omega, by go_num, rfl, by omega, by omega, ?_, ?_⟩
          · show X * 2 = d * p2 (k + 1)
            rw [p2_succ, ← Int.mul_assoc, ← HX.out]
          · exact Or.inr (by omega)
        case measure => simp [intOf]; omega
    · have hres : Hid (dbl d n most = if most < X then most else X) := dbl_end X HX.out (by omega) hd hm HL.out hm'
      by_cases hn1 : k < n
      · have h64 : ¬ k < 64 := by omega
        clear hgo
        by_cases hc : most < X
        · have hr : Hid (dbl d n most = most) := by show _ = _; rw [hres.out, if_pos hc]
          clear hres
          go_wp2
          go_ret2
          exact ⟨ret2 hr.out.symm rfl, rfl⟩
        · have hr : Hid (dbl d n most = X) := by show _ = _; rw [hres.out, if_neg hc]
          clear hres
          go_wp2
          go_ret2
          exact ⟨ret2 hr.out.symm rfl, rfl⟩
      · clear hgo
        by_cases hc : most < X
        · have hr : Hid (dbl d n most = most) := by show _ = _; rw [hres.out, if_pos hc]
          clear hres
          go_wp2
          go_ret2
          exact ⟨ret2 hr.out.symm rfl, rfl⟩
        · have hr : Hid (dbl d n most = X) := by show _ = _; rw [hres.out, if_neg hc]
          clear hres
          go_wp2
          go_ret2
          exact ⟨ret2 hr.out.symm rfl, rfl⟩
theorem double29 (d b most : Int) (hd' : d < 9223372036854775808) (hm' : most < 9223372036854775808) (hn : b < 9223372036854775808) (w : World) :
    Calls Try.prog 29 #[.int .i64 d, .int .i64 b, .int .i64 most] w fun e w' => e = .returned (.tuple #[.int .i64 (dbOf d b most), .int .i64 (dbErr d b most)]) ∧ w' = w := by
  by_cases h1 : d < 0
  · obtain ⟨e1, e2⟩ := db_time d b most (.inl h1)
    rw [e1, e2]
    go_enter Try.func29, Try.ntmps29
    go_wp2
    go_ret2
    exact ⟨rfl, rfl⟩
  · by_cases h2 : most < 0
    · obtain ⟨e1, e2⟩ := db_time d b most (.inr h2)
      rw [e1, e2]
      go_enter Try.func29, Try.ntmps29
      go_wp2
      go_ret2
      exact ⟨rfl, rfl⟩
    · by_cases h3 : b < 0
      · obtain ⟨e1, e2⟩ := db_arg d b most (by omega) (by omega) h3
        rw [e1, e2]
        go_enter Try.func29, Try.ntmps29
        go_wp2
        go_ret2
        exact ⟨rfl, rfl⟩
      · obtain ⟨n, rfl⟩ := Int.eq_ofNat_of_zero_le (show 0 ≤ b by omega)
        obtain ⟨e1, e2⟩ := db_yes d most n (by omega) (by omega)
        rw [e1, e2]
        exact double29_yes d most n (by omega) hd' (by omega) hm' (by omega) w
end Go.Proofs.Ytglbkhomjfmlmaa
