/- The contracts of the sum of a text: tick.Hash with the seed 0, and the document's Sum; the text's length is a number of the language's. -/
import Derived.Test.YtlffleigahfdlaaGreatDoorEvl
import Derived.Test.YtlffleigahfdlaaGreatDoorXnm
import Derived.Laws.Bits64b
import Derived.Laws.IdiomStrings
import Derived.WalkLawsBesides
namespace Go.Proofs.YtlffleigahfdlaaGreatDoor.Tr
open Go.RowKit Go.Sort
open Sk (mixN mixN_lt mix_form)
set_option linter.unusedVariables false
theorem ret_int {k : IntKind} {a b : Int} (h : a = b) : Ending.returned (.int k a) = .returned (.int k b) := by rw [h]
theorem take_snoc (s : ByteArray) (k : Nat) (h : k < s.size) : s.data.toList.take (k + 1) = s.data.toList.take k ++ [s[k]] := by
  rw [List.take_succ_eq_append_getElem (by simpa using h)]; rfl
def hStep (h : Nat) (c : UInt8) : Nat := (h ^^^ c.toNat) * 1099511628211 % 18446744073709551616
def hStart : Nat := 14695981039346656037
theorem hStart_lt : hStart < 18446744073709551616 := by unfold hStart; omega
def hFoldA (a : Nat) (l : List UInt8) : Nat := l.foldl hStep a
theorem hFoldA_lt (a : Nat) (ha : a < 18446744073709551616) (l : List UInt8) : hFoldA a l < 18446744073709551616 := by
  unfold hFoldA
  induction l generalizing a with
  | nil => exact ha
  | cons c l ih => exact ih _ (Nat.mod_lt _ (by omega))
def hFold (l : List UInt8) : Nat := hFoldA hStart l
theorem hFold_lt (l : List UInt8) : hFold l < 18446744073709551616 := hFoldA_lt _ hStart_lt l
theorem foldl_snoc (f : Nat → UInt8 → Nat) (a : Nat) (l : List UInt8) (c : UInt8) : (l ++ [c]).foldl f a = f (l.foldl f a) c := by simp
theorem hFold_snoc (l : List UInt8) (c : UInt8) : hFold (l ++ [c]) = hStep (hFold l) c := foldl_snoc hStep hStart l c
theorem hFold_nil : ((hFold [] : Nat) : Int) = 14695981039346656037 := rfl
theorem h_step (h : Nat) (c : UInt8) (hh : h < 18446744073709551616) : IntKind.u64.wrap (bits .xor .u64 (h : Int) (IntKind.u64.wrap (c.toNat : Int)) * 1099511628211) = ((hStep h c : Nat) : Int) := by
  have hc : c.toNat < 256 := c.toNat_lt
  have hw : IntKind.u64.wrap (c.toNat : Int) = (c.toNat : Int) := by rw [IntKind.wrap_u64]; omega
  rw [hw]
  rw [bits_xor_u64_nat h c.toNat hh (by omega), IntKind.wrap_u64]
  unfold hStep
  rw [Int.natCast_emod, Int.natCast_mul]
  rfl
/-- A text's sum. -/
def sumL (l : List UInt8) : Nat := mixN (hFold l)
theorem sumL_lt (l : List UInt8) : sumL l < 18446744073709551616 := mixN_lt _
theorem mix_ (x : Nat) (hx : x < 18446744073709551616) (w : World) :
    Calls Tryz.prog 92 #[.int .u64 x] w fun e w' => e = .returned (.int .u64 (mixN x : Nat)) ∧ w' = w := by
  have h1 : (x : Int) < 18446744073709551616 := by omega
  go_enter Tryz.func92, Tryz.ntmps92
  go_wp2
  go_ret
  exact ⟨ret_int (mix_form x hx), rfl⟩
theorem start0 : bits .xor .u64 0 14695981039346656037 = 14695981039346656037 := by decide
theorem hash_ (s : ByteArray) (hs : s.size ≤ 9223372036854775807) (w : World) :
    Calls Tryz.prog 59 #[.string s, .int .u64 0] w fun e w' => e = .returned (.int .u64 (sumL s.data.toList : Nat)) ∧ w' = w := by
  have h2 := start0
  go_enter Tryz.func59, Tryz.ntmps59
  go_wp2
  go_loop [5, 11] (fun h i => ∃ k : Nat, k ≤ s.size ∧ i = .int .i64 k ∧ h = .int .u64 (hFold (s.data.toList.take k) : Nat)) (fun _ i => s.size - (intOf i).toNat)
  case atStart => exact ⟨0, Nat.zero_le _, rfl, rfl⟩
  case round =>
    obtain ⟨k, hk, rfl, rfl⟩ := hrel
    clear h2
    by_cases hlt : k < s.size
    · have hst := h_step (hFold (s.data.toList.take k)) s[k] (hFold_lt _)
      rw [← hFold_snoc, ← take_snoc s k hlt] at hst
      go_wp2
      go_round
      case rel => exact ⟨k + 1, by omega, by go_num, rfl⟩
      case measure => simp [intOf]; omega
    · go_wp2_with (go_at_call 92; refine (mix_ _ (hFold_lt _) _).mono ?_; rintro e w' ⟨rfl, rfl⟩)
      go_ret
      exact ⟨ret_int (by unfold sumL; rw [List.take_of_length_le (by simp; omega)]), rfl⟩
theorem shift_ (x n : Nat) (hx : x < 18446744073709551616) (hn : n ≤ 64) (w : World) :
    Calls Tryz.prog 60 #[.int .u64 x, .int .i64 n] w fun e w' => e = .returned (.int .u64 ((x / 2 ^ n : Nat) : Int)) ∧ w' = w := by
  go_enter Tryz.func60, Tryz.ntmps60
  go_wp2
  go_loop [0, 5] (fun v i => ∃ k y : Nat, k ≤ n ∧ i = .int .i64 k ∧ v = .int .u64 y ∧ y < 18446744073709551616 ∧ Hid (y = x / 2 ^ k)) (fun _ i => n - (intOf i).toNat)
  case atStart => exact ⟨0, x, Nat.zero_le _, rfl, rfl, hx, by show x = x / 2 ^ 0; simp⟩
  case round =>
    obtain ⟨k, y, hk, rfl, rfl, hy, HY⟩ := hrel
    have hq : IntKind.u64.wrap ((y : Int).tdiv 2) = ((y / 2 : Nat) : Int) := by rw [Int.tdiv_eq_ediv_of_nonneg (by omega), IntKind.wrap_u64]; omega
    by_cases hlt : k < n
    · have H2 : Hid (y / 2 = x / 2 ^ (k + 1)) := by show _ = _; rw [HY.out, Nat.div_div_eq_div_mul, Nat.pow_succ]
      go_wp2
      go_round
      case rel => exact ⟨k + 1, y / 2, by omega, by go_num, rfl, by omega, H2⟩
      case measure => simp [intOf]; omega
    · have e : k = n := by omega
      subst e
      go_wp2
      go_ret
      exact ⟨ret_int (by rw [HY.out, Int.natCast_ediv, Int.natCast_pow]; rfl), rfl⟩
theorem xor_div {x d : Nat} (hx : x < 18446744073709551616) : bits .xor .u64 (x : Int) ((x / d : Nat) : Int) = ((x ^^^ x / d : Nat) : Int) := bits_xor_u64_nat x (x / d) hx (Nat.lt_of_le_of_lt (Nat.div_le_self _ _) hx)
theorem mulw (x c : Nat) : IntKind.u64.wrap ((x : Int) * (c : Int)) = ((x * c % 18446744073709551616 : Nat) : Int) := by
  rw [IntKind.wrap_u64, Int.natCast_emod, Int.natCast_mul]; rfl
theorem mix_eq (x : Nat) : ∃ a b, a = (x ^^^ x / 2 ^ 30) * 13787848793156543929 % 18446744073709551616 ∧ b = (a ^^^ a / 2 ^ 27) * 10723151780598845931 % 18446744073709551616 ∧ mixN x = b ^^^ b / 2 ^ 31 := ⟨_, _, rfl, rfl, rfl⟩
set_option maxHeartbeats 1000000 in
theorem rsum_ (s : ByteArray) (hs : s.size ≤ 9223372036854775807) (w : World) :
    Calls Tryz.prog 24 #[.string s] w fun e w' => e = .returned (.int .u64 (sumL s.data.toList : Nat)) ∧ w' = w := by
  go_enter Tryz.func24, Tryz.ntmps24
  go_wp2
  go_loop [3, 4] (fun h i => ∃ k : Nat, k ≤ s.size ∧ i = .int .i64 k ∧ h = .int .u64 (hFold (s.data.toList.take k) : Nat)) (fun _ i => s.size - (intOf i).toNat)
  case atStart => exact ⟨0, Nat.zero_le _, rfl, rfl⟩
  case round =>
    obtain ⟨k, hk, rfl, rfl⟩ := hrel
    by_cases hlt : k < s.size
    · have hst := h_step (hFold (s.data.toList.take k)) s[k] (hFold_lt _)
      rw [← hFold_snoc, ← take_snoc s k hlt] at hst
      go_wp2
      go_round
      case rel => exact ⟨k + 1, by omega, by go_num, rfl⟩
      case measure => simp [intOf]; omega
    · have zk : ¬ (k : Int) < (s.size : Int) := by omega
      have HE : Hid (hFold (s.data.toList.take k) = hFold s.data.toList) := hid (by rw [List.take_of_length_le (by simp; omega)])
      have hl := hFold_lt (s.data.toList.take k)
      generalize hFold (s.data.toList.take k) = x at *
      obtain ⟨a, b, ha, hb, hm⟩ := mix_eq x
      have S1 : Hid (∀ w, Calls Tryz.prog 60 #[.int .u64 x, .int .i64 30] w fun e w' => e = .returned (.int .u64 ((x / 2 ^ 30 : Nat) : Int)) ∧ w' = w) := hid (fun w => shift_ x 30 hl (by omega) w)
      have la : a < 18446744073709551616 := by rw [ha]; exact Nat.mod_lt _ (by omega)
      have lb : b < 18446744073709551616 := by rw [hb]; exact Nat.mod_lt _ (by omega)
      have S2 : Hid (∀ w, Calls Tryz.prog 60 #[.int .u64 a, .int .i64 27] w fun e w' => e = .returned (.int .u64 ((a / 2 ^ 27 : Nat) : Int)) ∧ w' = w) := hid (fun w => shift_ a 27 la (by omega) w)
      have S3 : Hid (∀ w, Calls Tryz.prog 60 #[.int .u64 b, .int .i64 31] w fun e w' => e = .returned (.int .u64 ((b / 2 ^ 31 : Nat) : Int)) ∧ w' = w) := hid (fun w => shift_ b 31 lb (by omega) w)
      have x1 := xor_div (d := 2 ^ 30) hl
      have x2 := xor_div (d := 2 ^ 27) la
      have x3 := xor_div (d := 2 ^ 31) lb
      have m1 : IntKind.u64.wrap (((x ^^^ x / 2 ^ 30 : Nat) : Int) * 13787848793156543929) = (((x ^^^ x / 2 ^ 30) * 13787848793156543929 % 18446744073709551616 : Nat) : Int) := mulw (x ^^^ x / 2 ^ 30) 13787848793156543929
      have m2 : IntKind.u64.wrap (((a ^^^ a / 2 ^ 27 : Nat) : Int) * 10723151780598845931) = (((a ^^^ a / 2 ^ 27) * 10723151780598845931 % 18446744073709551616 : Nat) : Int) := mulw (a ^^^ a / 2 ^ 27) 10723151780598845931
      rw [← ha] at m1
      rw [← hb] at m2
      rw [← hm] at x3
      have HM : Hid (mixN x = sumL s.data.toList) := hid (by unfold sumL; rw [HE.out])
      generalize mixN x = mx at *
      generalize x ^^^ x / 2 ^ 30 = q1 at *
      generalize a ^^^ a / 2 ^ 27 = q2 at *
      generalize x / 2 ^ 30 = r1 at *
      generalize a / 2 ^ 27 = r2 at *
      generalize b / 2 ^ 31 = r3 at *
      clear ha hb hm hl la lb HE hs hlt hk
      go_upto_region 6 with fail
      go_upto_region 7 with (go_at_call 60; refine (S1.out _).mono ?_; rintro e w1 ⟨rfl, rfl⟩)
      clear S1 x1 m1
      go_upto_region 8 with (go_at_call 60; refine (S2.out _).mono ?_; rintro e w2 ⟨rfl, rfl⟩)
      clear S2 x2 m2
      go_wp2_with (go_at_call 60; refine (S3.out _).mono ?_; rintro e w3 ⟨rfl, rfl⟩)
      go_ret
      exact ⟨ret_int (by rw [HM.out]), rfl⟩
end Go.Proofs.YtlffleigahfdlaaGreatDoor.Tr
