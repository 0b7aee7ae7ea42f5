/- The program's small functions on numbers, ends and tests; the conditions are those that each states. -/
import Derived.Test.YtgjojdlbighoaaaDoorChk
import Derived.Test.YtgjojdlbighoaaaDoorHsh
namespace Go.Proofs.YtgjojdlbighoaaaDoor
open Go.RowKit Go.Sort
set_option linter.unusedVariables false

def ckV (p n wt on : Int) : Value := .agg #[.int .i64 p, .int .i64 n, .int .i64 wt, .int .i64 on]
def otV (v k c r : Int) : Value := .agg #[.int .i64 v, .int .i64 k, .int .i64 c, .int .i64 r]
def arV (sp : Int) (nm : ByteArray) (r : Int) (c : Bool) : Value := .agg #[.int .u16 sp, .string nm, .int .i64 r, .bool c]
def rsV : Rs → Value
  | .inl (p, n, wt, on) => .tuple #[ckV p n wt on, otV 0 0 0 0, .bool false]
  | .inr (v, k, c, r) => .tuple #[ckV 0 0 0 0, otV v k c r, .bool true]
theorem rsV_go (p : Nat) (n wt on : Int) : rsV (.go p n wt on) = .tuple #[ckV p n wt on, otV 0 0 0 0, .bool false] := rfl
theorem rsV_fin (v k c r : Int) : rsV (.fin v k c r) = .tuple #[ckV 0 0 0 0, otV v k c r, .bool true] := rfl
theorem answers48 (n : Int) (w : World) : Calls Tryd.prog 48 #[.int .i64 n] w fun e w' => e = .returned (.tuple #[.agg #[.int .i64 0, .int .i64 0, .int .i64 0, .int .i64 0], .agg #[.int .i64 n, .int .i64 0, .int .i64 0, .int .i64 0], .bool true]) ∧ w' = (w.alloc (.cells #[.int .i64 0, .int .i64 0, .int .i64 0, .int .i64 0] 24)).alloc (.cells #[.int .i64 n, .int .i64 0, .int .i64 0, .int .i64 0] 41) := by
  go_enter Tryd.func48, Tryd.ntmps48
  go_wp2
  exact bodyPost_ret (v := .tuple #[.agg #[.int .i64 0, .int .i64 0, .int .i64 0, .int .i64 0], .agg #[.int .i64 n, .int .i64 0, .int .i64 0, .int .i64 0], .bool true]) (by simp [results, Tryd.results48, go_sem]) rfl ⟨rfl, rfl⟩
theorem fails52 (k c : Int) (sp : Int) (nm : ByteArray) (r : Int) (cn : Bool) (w : World) : Calls Tryd.prog 52 #[.int .i64 k, .int .i64 c, .agg #[.int .u16 sp, .string nm, .int .i64 r, .bool cn]] w fun e w' => e = .returned (.tuple #[.agg #[.int .i64 0, .int .i64 0, .int .i64 0, .int .i64 0], .agg #[.int .i64 0, .int .i64 k, .int .i64 c, .int .i64 r], .bool true]) ∧ w' = (((w.alloc (.cells #[.int .u16 sp, .string nm, .int .i64 r, .bool cn] 29)).alloc (.cells #[.int .i64 0, .int .i64 0, .int .i64 0, .int .i64 0] 24)).alloc (.cells #[.int .i64 0, .int .i64 k, .int .i64 c, .int .i64 r] 41)).drew := by
  go_enter Tryd.func52, Tryd.ntmps52
  go_wp2_with fail
  go_region
  all_goals
    go_wp2
    exact bodyPost_ret (v := .tuple #[.agg #[.int .i64 0, .int .i64 0, .int .i64 0, .int .i64 0], .agg #[.int .i64 0, .int .i64 k, .int .i64 c, .int .i64 r], .bool true]) (by simp [results, Tryd.results52, go_sem]) rfl ⟨rfl, rfl⟩
theorem shifted49 (n a : Int) (w : World) (h1 : -63 ≤ a) (h2 : a ≤ 63) : Calls Tryd.prog 49 #[.int .i64 n, .int .i64 a] w fun e w' => e = .returned (.int .i64 (shiftI n a)) ∧ w' = w := by
  by_cases h : a < 0
  · have hw : IntKind.i64.wrap (-a) = -a := by rw [IntKind.wrap_i64]; omega
    have HS : Hid (shiftI n a = n / 2 ^ (-a).toNat) := by show shiftI n a = _; unfold shiftI; rw [if_pos h]; rfl
    have g1 : 0 ≤ -a := by omega
    have g2 : -a ≤ 64 := by omega
    generalize shiftI n a = R at *
    go_enter Tryd.func49, Tryd.ntmps49
    go_wp2
    go_ret
    exact ⟨by rw [HS.out]; rfl, rfl⟩
  · have HS : Hid (shiftI n a = IntKind.i64.wrap (n * 2 ^ a.toNat)) := by show shiftI n a = _; unfold shiftI; rw [if_neg h]; rfl
    have g1 : 0 ≤ a := by omega
    have g2 : a ≤ 64 := by omega
    generalize shiftI n a = R at *
    go_enter Tryd.func49, Tryd.ntmps49
    go_wp2
    go_ret
    exact ⟨by rw [HS.out, IntWalk.i64_left]; rfl, rfl⟩
theorem and_one (n : Int) : bits .and .i64 n 1 = n % 2 := by
  show IntKind.i64.wrap ((BitVec.ofInt 64 n &&& BitVec.ofInt 64 1).toNat : Int) = n % 2
  have h1 : (BitVec.ofInt 64 1).toNat = 1 := rfl
  rw [BitVec.toNat_and, h1, Nat.and_one_is_mod, BitVec.toNat_ofInt, IntKind.wrap_i64]
  omega
theorem skips53 (a n : Int) (sp : Int) (nm : ByteArray) (r : Int) (cn : Bool) (w : World) (hn : I64 n) : Calls Tryd.prog 53 #[.int .i64 a, .int .i64 n, .agg #[.int .u16 sp, .string nm, .int .i64 r, .bool cn]] w fun e w' => e = .returned (.bool (skipI a n cn)) ∧ w' = w.alloc (.cells #[.int .u16 sp, .string nm, .int .i64 r, .bool cn] 29) := by
  by_cases h0 : a = 0
  · subst h0
    go_enter Tryd.func53, Tryd.ntmps53
    go_wp2
    go_ret
    exact ⟨rfl, rfl⟩
  by_cases h1 : a = 1
  · subst h1
    go_enter Tryd.func53, Tryd.ntmps53
    go_wp2
    go_ret
    exact ⟨rfl, rfl⟩
  by_cases h2 : a = 2
  · subst h2
    have HA : Hid (skipI 2 n cn = (bits .and .i64 n 1 == 1)) := by show _ = _; rw [and_one]; rfl
    generalize skipI 2 n cn = R at *
    go_enter Tryd.func53, Tryd.ntmps53
    go_wp2
    go_ret
    exact ⟨by rw [HA.out]; rfl, rfl⟩
  · have g0 : (a == 0) = false := by simpa using h0
    have g1 : (a == 1) = false := by simpa using h1
    have g2 : (a == 2) = false := by simpa using h2
    have HS : Hid (skipI a n cn = cn) := by show skipI a n cn = cn; unfold skipI; rw [if_neg h0, if_neg h1, if_neg h2]
    generalize skipI a n cn = R at *
    clear h0 h1 h2
    go_enter Tryd.func53, Tryd.ntmps53
    go_wp2
    go_ret
    exact ⟨by rw [HS.out]; rfl, rfl⟩
theorem rotate51 (x k : Nat) (w : World) (hx : x < 18446744073709551616) (hk : k ≤ 63) : Calls Tryd.prog 51 #[.int .u64 x, .int .i64 k] w fun e w' => e = .returned (.int .u64 (rot x k : Nat)) ∧ w' = w := by
  have hw : IntKind.u64.wrap (k : Int) = (k : Int) := by rw [IntKind.wrap_u64]; omega
  have hA : bits .and .u64 (k : Int) 63 = (k : Int) := by
    have := bits_and_u64_nat k 63 (by omega) (by omega)
    rw [show k &&& 63 = k % 2 ^ 6 from Nat.and_two_pow_sub_one_eq_mod k 6, Nat.mod_eq_of_lt (show k < 2 ^ 6 by omega)] at this
    exact this
  have s2 : IntKind.u64.wrap (64 - (k : Int)) = ((64 - k : Nat) : Int) := by rw [IntKind.wrap_u64]; omega
  have HF : Hid (bits .or .u64 (IntKind.u64.wrap ((x : Int) * 2 ^ k)) ((x : Int) / 2 ^ min (64 - k) 64) = ((rot x k : Nat) : Int)) := by
    show _ = _
    have e1 : IntKind.u64.wrap ((x : Int) * 2 ^ k) = ((x * 2 ^ k % 18446744073709551616 : Nat) : Int) := by
      rw [IntKind.wrap_u64, Int.natCast_emod, Int.natCast_mul, Int.natCast_pow]; rfl
    have e2 : (x : Int) / 2 ^ min (64 - k) 64 = ((x / 2 ^ (64 - k) : Nat) : Int) := by
      rw [Nat.min_eq_left (by omega), Int.natCast_ediv, Int.natCast_pow]; rfl
    rw [e1, e2, bits_or_u64_nat _ _ (Nat.mod_lt _ (by decide)) (Nat.lt_of_le_of_lt (Nat.div_le_self _ _) hx), rot_or x k hx hk]
  generalize rot x k = R at *
  generalize 64 - k = J at *
  go_enter Tryd.func51, Tryd.ntmps51
  go_wp2
  go_ret
  exact ⟨ret_int HF.out, rfl⟩
end Go.Proofs.YtgjojdlbighoaaaDoor
