/- The program's Down, Up and Double, and the document's, each answer the same plain numbers, of every number; the world stays as it was. -/
import Derived.Test.YtglbkhomjfmlmaaRnd
import Derived.Test.YtglbkhomjfmlmaaAge
namespace Go.Proofs.Ytglbkhomjfmlmaa
open Go.ChangeShapes Go.WideShapes Go.ChangeAt Go.RowKit

def rdIn (b : Int) : Bool := decide (0 ≤ b ∧ b ≤ 62)
def rdErr (t b : Int) : Int := if isT t then (if rdIn b then 0 else 12) else 10
def dnOf (t b : Int) : Int := if isT t && rdIn b then dn t b.toNat else 0
def upOf (t b : Int) : Int := if isT t && rdIn b then up t b.toNat else 0
theorem rd_no (t b : Int) (h : isT t = false) : rdErr t b = 10 ∧ dnOf t b = 0 ∧ upOf t b = 0 := by simp [rdErr, dnOf, upOf, h]
theorem rd_bits (t b : Int) (h : isT t = true) (hb : b < 0 ∨ 62 < b) : rdErr t b = 12 ∧ dnOf t b = 0 ∧ upOf t b = 0 := by
  have e : rdIn b = false := by simp [rdIn]; omega
  simp [rdErr, dnOf, upOf, h, e]
theorem rd_yes (t : Int) (n : Nat) (h : isT t = true) (hn : n ≤ 62) : rdErr t (n : Int) = 0 ∧ dnOf t (n : Int) = dn t n ∧ upOf t (n : Int) = up t n := by
  have e : rdIn (n : Int) = true := by simp [rdIn]; omega
  simp [rdErr, dnOf, upOf, h, e]
theorem rd_or (b : Int) : b < 0 ∨ 62 < b ∨ ∃ n : Nat, n ≤ 62 ∧ b = (n : Int) := by
  by_cases h : b < 0
  · exact .inl h
  · by_cases h' : 62 < b
    · exact .inr (.inl h')
    · exact .inr (.inr ⟨b.toNat, by omega, by omega⟩)

theorem below41 (n : Nat) (h : n ≤ 62) (w : World) : Calls Try.prog 41 #[.int .i64 (n : Int)] w fun e w' => e = .returned (.int .i64 (p2 n - 1)) ∧ w' = w := by
  have hp := wrap_p2 h
  have h1 := p2_le62 h
  have h2 := p2_pos n
  go_enter Try.func41, Try.ntmps41
  go_wp2
  go_ret
  exact ⟨rfl, rfl⟩

theorem check40 (t b : Int) (w : World) : Calls Try.prog 40 #[.int .i64 t, .int .i64 b] w fun e w' => e = .returned (.int .i64 (rdErr t b)) ∧ w' = w := by
  cases h1 : isT t with
  | false =>
    rw [(rd_no t b h1).1]
    go_enter Try.func40, Try.ntmps40
    go_wp2_with (go_at_call 14; refine (is14 _ _).mono ?_; rintro e w' ⟨rfl, rfl⟩)
    go_ret
    exact ⟨rfl, rfl⟩
  | true =>
    rcases rd_or b with h | h | ⟨n, hn, rfl⟩
    · rw [(rd_bits t b h1 (.inl h)).1]
      go_enter Try.func40, Try.ntmps40
      go_wp2_with (go_at_call 14; refine (is14 _ _).mono ?_; rintro e w' ⟨rfl, rfl⟩)
      go_ret
      exact ⟨rfl, rfl⟩
    · rw [(rd_bits t b h1 (.inr h)).1]
      have h' : ¬ b < 0 := by omega
      go_enter Try.func40, Try.ntmps40
      go_wp2_with (go_at_call 14; refine (is14 _ _).mono ?_; rintro e w' ⟨rfl, rfl⟩)
      go_ret
      exact ⟨rfl, rfl⟩
    · rw [(rd_yes t n h1 hn).1]
      go_enter Try.func40, Try.ntmps40
      go_wp2_with (go_at_call 14; refine (is14 _ _).mono ?_; rintro e w' ⟨rfl, rfl⟩)
      go_ret
      exact ⟨rfl, rfl⟩

theorem down24 (t b : Int) (w : World) : Calls Try.prog 24 #[.int .i64 t, .int .i64 b] w fun e w' => e = .returned (.tuple #[.int .i64 (dnOf t b), .int .i64 (rdErr t b)]) ∧ w' = w := by
  by_cases h : isT t = true ∧ 0 ≤ b ∧ b ≤ 62
  · obtain ⟨h1, h2, h3⟩ := h
    obtain ⟨n, rfl⟩ := Int.eq_ofNat_of_zero_le h2
    have hn : n ≤ 62 := by omega
    obtain ⟨e1, e2, _⟩ := rd_yes t n h1 hn
    obtain ⟨b1, b2⟩ := isT_yes h1
    have ea := andNot_dn t n hn b1 (by omega)
    rw [e2]
    clear e2
    go_enter Try.func24, Try.ntmps24
    go_wp2_with (first | (go_at_call 40; refine (check40 _ _ _).mono ?_; rintro e w' ⟨rfl, rfl⟩) | (go_at_call 41; refine (below41 n hn _).mono ?_; rintro e w' ⟨rfl, rfl⟩))
    go_ret2
    exact ⟨ret2 rfl e1.symm, rfl⟩
  · have e : (rdErr t b = 10 ∨ rdErr t b = 12) ∧ dnOf t b = 0 := by
      cases h1 : isT t with
      | false => exact ⟨.inl (rd_no t b h1).1, (rd_no t b h1).2.1⟩
      | true => have := rd_bits t b h1 (by simp [h1] at h; omega); exact ⟨.inr this.1, this.2.1⟩
    have e' : (rdErr t b != 0) = true := by rcases e.1 with h | h <;> rw [h] <;> rfl
    rw [e.2]
    clear e h
    go_enter Try.func24, Try.ntmps24
    go_wp2_with (go_at_call 40; refine (check40 _ _ _).mono ?_; rintro e w' ⟨rfl, rfl⟩)
    go_ret2
    exact ⟨rfl, rfl⟩

theorem up26 (t b : Int) (w : World) : Calls Try.prog 26 #[.int .i64 t, .int .i64 b] w fun e w' => e = .returned (.tuple #[.int .i64 (upOf t b), .int .i64 (rdErr t b)]) ∧ w' = w := by
  by_cases h : isT t = true ∧ 0 ≤ b ∧ b ≤ 62
  · obtain ⟨h1, h2, h3⟩ := h
    obtain ⟨n, rfl⟩ := Int.eq_ofNat_of_zero_le h2
    have hn : n ≤ 62 := by omega
    obtain ⟨e1, _, e2⟩ := rd_yes t n h1 hn
    obtain ⟨b1, b2⟩ := isT_yes h1
    have p1 := p2_le62 hn
    have p0 := p2_pos n
    have ea := andNot_dn (t + (p2 n - 1)) n hn (by omega) (by omega)
    rw [e2]
    clear e2
    go_enter Try.func26, Try.ntmps26
    go_wp2_with (first | (go_at_call 40; refine (check40 _ _ _).mono ?_; rintro e w' ⟨rfl, rfl⟩) | (go_at_call 41; refine (below41 n hn _).mono ?_; rintro e w' ⟨rfl, rfl⟩))
    go_ret2
    exact ⟨ret2 rfl e1.symm, rfl⟩
  · have e : (rdErr t b = 10 ∨ rdErr t b = 12) ∧ upOf t b = 0 := by
      cases h1 : isT t with
      | false => exact ⟨.inl (rd_no t b h1).1, (rd_no t b h1).2.2⟩
      | true => have := rd_bits t b h1 (by simp [h1] at h; omega); exact ⟨.inr this.1, this.2.2⟩
    have e' : (rdErr t b != 0) = true := by rcases e.1 with h | h <;> rw [h] <;> rfl
    rw [e.2]
    clear e h
    go_enter Try.func26, Try.ntmps26
    go_wp2_with (go_at_call 40; refine (check40 _ _ _).mono ?_; rintro e w' ⟨rfl, rfl⟩)
    go_ret2
    exact ⟨rfl, rfl⟩

end Go.Proofs.Ytglbkhomjfmlmaa
