/- The program's Mix and Hash, and the document's, each answer the same plain number, of every number and text; the world stays as it was. -/
import Derived.Test.YtglbkhomjfmlmaaProg
import Derived.Test.YtglbkhomjfmlmaaPlain
import Derived.WalkKit
import Derived.ProofKit
import Derived.WalkSpells
import Derived.WalkLawsBesides
namespace Go.Proofs.Ytglbkhomjfmlmaa
open Go.ChangeShapes Go.WideShapes Go.ChangeAt Go.RowKit

theorem ret_int {k : IntKind} {a b : Int} (h : a = b) : Ending.returned (.int k a) = .returned (.int k b) := by rw [h]

theorem mix30 (x : Nat) (hx : x < 18446744073709551616) (w : World) :
    Calls Try.prog 30 #[.int .u64 x] w fun e w' => e = .returned (.int .u64 (mixN x : Nat)) ∧ w' = w := by
  have h1 : (x : Int) < 18446744073709551616 := by omega
  go_enter Try.func30, Try.ntmps30
  go_wp2
  go_ret
  exact ⟨ret_int (mix_form x hx), rfl⟩
theorem mix31 (x : Nat) (hx : x < 18446744073709551616) (w : World) :
    Calls Try.prog 31 #[.int .u64 x] w fun e w' => e = .returned (.int .u64 (mixN x : Nat)) ∧ w' = w := by
  have h1 : (x : Int) < 18446744073709551616 := by omega
  go_enter Try.func31, Try.ntmps31
  go_wp2
  go_ret
  exact ⟨ret_int (mix_form' x hx), rfl⟩

theorem hash32 (s : ByteArray) (seed : Nat) (hs : s.size ≤ maxLen) (hseed : seed < 18446744073709551616) (w : World) :
    Calls Try.prog 32 #[.string s, .int .u64 seed] w fun e w' => e = .returned (.int .u64 (mixN (hashN seed s.data.toList) : Nat)) ∧ w' = w := by
  unfold maxLen at hs
  have h1 : (seed : Int) < 18446744073709551616 := by omega
  have h2 := hash_start seed hseed
  go_enter Try.func32, Try.ntmps32
  go_wp2
  go_loop [5, 11] (fun h i => ∃ k : Nat, k ≤ s.size ∧ i = .int .i64 k ∧ h = .int .u64 (hashN seed (s.data.toList.take k) : Nat)) (fun _ i => s.size - (intOf i).toNat)
  case atStart => exact ⟨0, Nat.zero_le _, rfl, rfl⟩
  case round =>
    obtain ⟨k, hk, rfl, rfl⟩ := hrel
    clear h2
    by_cases hlt : k < s.size
    · have hst := hash_step (hashN seed (s.data.toList.take k)) s[k] (hashN_lt seed hseed _)
      rw [← hashN_snoc, ← take_snoc s k hlt] at hst
      go_wp2
      go_round
      case rel => exact ⟨k + 1, by omega, by go_num, rfl⟩
      case measure => simp [intOf]; omega
    · go_wp2_with (go_at_call 30; refine (mix30 _ (hashN_lt seed hseed _) _).mono ?_; rintro e w' ⟨rfl, rfl⟩)
      go_ret
      exact ⟨ret_int (by rw [List.take_of_length_le (by simp; omega)]), rfl⟩
theorem hash33 (s : ByteArray) (seed : Nat) (hs : s.size ≤ maxLen) (hseed : seed < 18446744073709551616) (w : World) :
    Calls Try.prog 33 #[.string s, .int .u64 seed] w fun e w' => e = .returned (.int .u64 (mixN (hashN seed s.data.toList) : Nat)) ∧ w' = w := by
  unfold maxLen at hs
  have h1 : (seed : Int) < 18446744073709551616 := by omega
  have h2 := hash_start seed hseed
  go_enter Try.func33, Try.ntmps33
  go_wp2
  go_loop [5, 6] (fun h i => ∃ k : Nat, k ≤ s.size ∧ i = .int .i64 k ∧ h = .int .u64 (hashN seed (s.data.toList.take k) : Nat)) (fun _ i => s.size - (intOf i).toNat)
  case atStart => exact ⟨0, Nat.zero_le _, rfl, rfl⟩
  case round =>
    obtain ⟨k, hk, rfl, rfl⟩ := hrel
    clear h2
    by_cases hlt : k < s.size
    · have hst := hash_step (hashN seed (s.data.toList.take k)) s[k] (hashN_lt seed hseed _)
      rw [← hashN_snoc, ← take_snoc s k hlt] at hst
      go_wp2
      go_round
      case rel => exact ⟨k + 1, by omega, by go_num, rfl⟩
      case measure => simp [intOf]; omega
    · go_wp2_with (go_at_call 31; refine (mix31 _ (hashN_lt seed hseed _) _).mono ?_; rintro e w' ⟨rfl, rfl⟩)
      go_ret
      exact ⟨ret_int (by rw [List.take_of_length_le (by simp; omega)]), rfl⟩
end Go.Proofs.Ytglbkhomjfmlmaa
