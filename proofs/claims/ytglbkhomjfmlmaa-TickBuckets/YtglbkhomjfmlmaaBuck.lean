/- The program's Edges and Bucket, and the document's, each answer the same plain numbers, of every number; the world stays as it was. -/
import Derived.Test.YtglbkhomjfmlmaaEdge
import Derived.Test.YtglbkhomjfmlmaaLen
namespace Go.Proofs.Ytglbkhomjfmlmaa
open Go.ChangeShapes Go.WideShapes Go.ChangeAt Go.RowKit

def edIn (b : Int) : Bool := decide (0 ≤ b ∧ b ≤ 63)
def edLo (b : Int) : Int := if edIn b then edLoN b.toNat else 0
def edHi (b : Int) : Int := if edIn b then edHiN b.toNat else 0
def edErr (b : Int) : Int := if edIn b then 0 else 1
theorem ed_yes {k : Nat} (h : k ≤ 63) : edLo (k : Int) = edLoN k ∧ edHi (k : Int) = edHiN k ∧ edErr (k : Int) = 0 := by
  have e : edIn (k : Int) = true := by simp [edIn]; omega
  simp [edLo, edHi, edErr, e]
theorem ed_no {b : Int} (h : b < 0 ∨ 63 < b) : edLo b = 0 ∧ edHi b = 0 ∧ edErr b = 1 := by
  have e : edIn b = false := by simp [edIn]; omega
  simp [edLo, edHi, edErr, e]
theorem ed_or (b : Int) : (b < 0 ∨ 63 < b) ∨ ∃ k : Nat, k ≤ 63 ∧ b = (k : Int) := by
  by_cases h : b < 0 ∨ 63 < b
  · exact .inl h
  · exact .inr ⟨b.toNat, by omega, by omega⟩

theorem edges22 (b : Int) (w : World) :
    Calls Try.prog 22 #[.int .i64 b] w fun e w' => e = .returned (.tuple #[.int .i64 (edLo b), .int .i64 (edHi b), .int .i64 (edErr b)]) ∧ w' = w := by
  rcases ed_or b with h | ⟨k, hk, rfl⟩
  · obtain ⟨e1, e2, e3⟩ := ed_no h
    rw [e1, e2, e3]
    exact edges22_no b h w
  · obtain ⟨e1, e2, e3⟩ := ed_yes hk
    rw [e1, e2, e3]
    exact edges22_nat k hk w
theorem edges23 (b : Int) (w : World) :
    Calls Try.prog 23 #[.int .i64 b] w fun e w' => e = .returned (.tuple #[.int .i64 (edLo b), .int .i64 (edHi b), .int .i64 (edErr b)]) ∧ w' = w := by
  rcases ed_or b with h | ⟨k, hk, rfl⟩
  · obtain ⟨e1, e2, e3⟩ := ed_no h
    rw [e1, e2, e3]
    exact edges23_no b h w
  · obtain ⟨e1, e2, e3⟩ := ed_yes hk
    rw [e1, e2, e3]
    exact edges23_nat k hk w

theorem bucket20_no (d : Int) (h : d < 0) (w : World) :
    Calls Try.prog 20 #[.int .i64 d] w fun e w' => e = .returned (.tuple #[.int .i64 0, .int .i64 11]) ∧ w' = w := by
  go_enter Try.func20, Try.ntmps20
  go_wp2
  go_ret2
  exact ⟨rfl, rfl⟩
theorem bucket20_yes (d : Int) (h0 : 0 ≤ d) (h1 : d < 9223372036854775808) (w : World) :
    Calls Try.prog 20 #[.int .i64 d] w fun e w' => e = .returned (.tuple #[.int .i64 (Lib.bitLen d.toNat), .int .i64 0]) ∧ w' = w := by
  go_enter Try.func20, Try.ntmps20
  go_wp2_with (go_at_call 39; refine (len39 _ _ h0 (by omega)).mono ?_; rintro e w' ⟨rfl, rfl⟩)
  go_ret2
  exact ⟨rfl, rfl⟩
theorem bucket21_no (d : Int) (h : d < 0) (w : World) :
    Calls Try.prog 21 #[.int .i64 d] w fun e w' => e = .returned (.tuple #[.int .i64 0, .int .i64 11]) ∧ w' = w := by
  go_enter Try.func21, Try.ntmps21
  go_wp2
  go_ret2
  exact ⟨rfl, rfl⟩
theorem bucket21_yes (d : Int) (h0 : 0 ≤ d) (h1 : d < 9223372036854775808) (w : World) :
    Calls Try.prog 21 #[.int .i64 d] w fun e w' => e = .returned (.tuple #[.int .i64 (Lib.bitLen d.toNat), .int .i64 0]) ∧ w' = w := by
  obtain ⟨f1, f2, f3, f4⟩ := bucket_facts d h0 h1
  generalize Lib.bitLen d.toNat = m at *
  have F4 : Hid (∀ k, k < m → edHiN k < d) := f4
  clear f4
  go_enter Try.func21, Try.ntmps21
  go_wp2
  go_loop [4] (fun i => ∃ k : Nat, k ≤ m ∧ i = .int .i64 k) (fun i => 64 - (intOf i).toNat)
  case atStart => exact ⟨0, Nat.zero_le _, rfl⟩
  case round =>
    obtain ⟨k, hk, rfl⟩ := hrel
    by_cases hlt : k < m
    · have g1 := F4.out k hlt
      obtain ⟨g2, g3, g4, g5⟩ := ed_bounds k (by omega)
      by_cases g6 : edLoN k ≤ d
      · go_wp2_with (go_at_call 23; refine (edges23_nat k (by omega) _).mono ?_; rintro e w' ⟨rfl, rfl⟩)
        go_round
        case rel => exact ⟨k + 1, by omega, by go_num⟩
        case measure => simp [intOf]; omega
      · go_wp2_with (go_at_call 23; refine (edges23_nat k (by omega) _).mono ?_; rintro e w' ⟨rfl, rfl⟩)
        go_round
        case rel => exact ⟨k + 1, by omega, by go_num⟩
        case measure => simp [intOf]; omega
    · obtain rfl : k = m := by omega
      go_wp2_with (go_at_call 23; refine (edges23_nat k (by omega) _).mono ?_; rintro e w' ⟨rfl, rfl⟩)
      go_ret2
      exact ⟨rfl, rfl⟩
end Go.Proofs.Ytglbkhomjfmlmaa
