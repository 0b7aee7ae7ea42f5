/- The contracts of the program's and the document's parts of keys, each by the same plain number; a key's space is a number of 16 bits, a name's length fits. -/
import Derived.Test.YtbaljfkjgfkdiaaDoorHsh
namespace Go.Proofs.YtbaljfkjgfkdiaaDoor
open Go.RowKit Go.Sort
set_option linter.unusedVariables false

def partN (h n : Nat) : Nat := h / 4294967296 * n / 4294967296
theorem partN_lt (h n : Nat) (hh : h < 18446744073709551616) (hn : 1 ≤ n) : partN h n < n := by
  unfold partN
  have h1 : h / 4294967296 ≤ 4294967295 := by omega
  have h2 : h / 4294967296 * n ≤ 4294967295 * n := Nat.mul_le_mul_right n h1
  omega
theorem partN_eq (h n : Nat) : h / 4294967296 * 4294967296 * n / 18446744073709551616 = partN h n := by
  unfold partN
  generalize h / 4294967296 = A
  rw [Nat.mul_right_comm]
  generalize A * n = B
  omega
theorem part39 (x n : Nat) (hx : x < 18446744073709551616) (h1 : 1 ≤ n) (h2 : n ≤ 65536) (hq : x * n / 18446744073709551616 < 65536) (w : World) :
    Calls Tryd.prog 39 #[.int .u64 x, .int .i64 n] w fun e w' => e = .returned (.tuple #[.int .i64 ((x * n / 18446744073709551616 : Nat) : Int), .int .i64 0]) ∧ w' = w := by
  have M : Hid _ := fun w => Tryd.bits_Mul64 x n hx (by omega) w
  have h1' : ¬ (n : Int) < 1 := by omega
  have wn : IntKind.u64.wrap (n : Int) = (n : Int) := by rw [IntKind.wrap_u64]; omega
  generalize x * n / 18446744073709551616 = Q at *
  generalize x * n % 18446744073709551616 = L at *
  have wq : IntKind.i64.wrap (Q : Int) = (Q : Int) := by rw [IntKind.wrap_i64]; omega
  have q1 : (Q : Int) < 65536 := by omega
  clear hx h1 h2 hq
  go_enter Tryd.func39, Tryd.ntmps39
  go_wp2_with fail
  refine (M.out _).mono ?_
  rintro e w1 ⟨rfl, rfl⟩
  go_wp2_with fail
  go_ret2
  exact ⟨rfl, rfl⟩
theorem part22_no (a : Int) (s : ByteArray) (n : Int) (h : n < 1 ∨ 65536 < n) (w : World) :
    Calls Tryd.prog 22 #[.agg #[.int .u16 a, .string s], .int .i64 n] w fun e w' => e = .returned (.tuple #[.int .i64 0, .int .i64 1]) ∧ Gr w w' := by
  by_cases h1 : n < 1
  · go_enter Tryd.func22, Tryd.ntmps22
    go_wp2
    go_ret2
    exact ⟨rfl, (Gr.refl _).alloc _⟩
  · have h2 : 65536 < n := by omega
    go_enter Tryd.func22, Tryd.ntmps22
    go_wp2
    go_ret2
    exact ⟨rfl, (Gr.refl _).alloc _⟩
theorem part22_ok (a : Int) (s : ByteArray) (n : Nat) (h0 : 0 ≤ a) (h1 : a ≤ 65535) (hs : s.size ≤ 9223372036854775800) (n1 : 1 ≤ n) (n2 : n ≤ 65536) (w : World) :
    Calls Tryd.prog 22 #[.agg #[.int .u16 a, .string s], .int .i64 n] w fun e w' => e = .returned (.tuple #[.int .i64 (partN (hashK a s) n : Nat), .int .i64 0]) ∧ Gr w w' := by
  have A1 : Hid _ := fun w => hash20 a s w h0 h1 hs
  have hl := hashK_lt a s
  have hp := partN_lt (hashK a s) n hl n1
  have he := partN_eq (hashK a s) n
  have A2 : Hid _ := fun w => part39 (hashK a s / 4294967296 * 4294967296) n (by omega) n1 n2 (by rw [he]; omega) w
  rw [he] at A2
  have hn1 : ¬ (n : Int) < 1 := by omega
  have hn2 : ¬ (65536 : Int) < (n : Int) := by omega
  generalize hashK a s = h at *
  have hsh : IntKind.u64.wrap ((h : Int) / 4294967296 * 4294967296) = ((h / 4294967296 * 4294967296 : Nat) : Int) := by rw [IntKind.wrap_u64]; omega
  generalize partN h n = Q at *
  clear he hp n1 n2 h0 h1 hs
  go_enter Tryd.func22, Tryd.ntmps22
  go_wp2_with fail
  refine (A1.out _).mono ?_
  rintro e w1 ⟨rfl, g1⟩
  have G : Hid (Gr w w1) := ((Gr.refl _).alloc _).trans g1
  clear g1
  go_wp2_with fail
  refine (A2.out _).mono ?_
  rintro e w2 ⟨rfl, rfl⟩
  go_wp2_with fail
  go_ret2
  exact ⟨rfl, G.out⟩
theorem ref23 (a : Int) (s : ByteArray) (n : Nat) (h0 : 0 ≤ a) (h1 : a ≤ 65535) (hs : s.size ≤ 9223372036854775800) (n1 : 1 ≤ n) (n2 : n ≤ 65536) (w : World) :
    Calls Tryd.prog 23 #[.agg #[.int .u16 a, .string s], .int .i64 n] w fun e w' => e = .returned (.int .i64 (partN (hashK a s) n : Nat)) ∧ Gr w w' := by
  have A1 : Hid _ := fun w => hash21 a s w h0 h1 hs
  have hl := hashK_lt a s
  have hp := partN_lt (hashK a s) n hl n1
  generalize hashK a s = h at *
  have A2 : Hid _ := fun w => over32 h hl w
  have hA : h / 4294967296 ≤ 4294967295 := by omega
  have hB : h / 4294967296 * n ≤ 4294967295 * 65536 := Nat.mul_le_mul hA n2
  have A3 : Hid _ := fun w => over32 (h / 4294967296 * n) (by omega) w
  have wn : IntKind.u64.wrap (n : Int) = (n : Int) := by rw [IntKind.wrap_u64]; omega
  have hm : IntKind.u64.wrap ((h : Int) / 4294967296 * (n : Int)) = ((h / 4294967296 * n : Nat) : Int) := by
    rw [show (h : Int) / 4294967296 * (n : Int) = ((h / 4294967296 * n : Nat) : Int) by rw [Int.natCast_mul, Int.natCast_ediv]; rfl, IntKind.wrap_u64]; omega
  have he : ((h / 4294967296 * n : Nat) : Int) / 4294967296 = ((partN h n : Nat) : Int) := by unfold partN; omega
  have HE : Hid _ := he
  rw [he] at A3
  generalize partN h n = Q at *
  have wq : IntKind.i64.wrap (Q : Int) = (Q : Int) := by rw [IntKind.wrap_i64]; omega
  have q1 : (Q : Int) ≤ 65536 := by omega
  clear hp n1 n2 h0 h1 hs hA hB he
  go_enter Tryd.func23, Tryd.ntmps23
  go_wp2_with fail
  refine (A1.out _).mono ?_
  rintro e w1 ⟨rfl, g1⟩
  have G : Hid (Gr w w1) := ((Gr.refl _).alloc _).trans g1
  clear g1
  go_wp2_with fail
  refine (A2.out _).mono ?_
  rintro e w2 ⟨rfl, rfl⟩
  go_wp2_with fail
  refine (A3.out _).mono ?_
  rintro e w2 ⟨rfl, rfl⟩
  go_wp2_with fail
  go_ret
  exact ⟨rfl, G.out⟩
end Go.Proofs.YtbaljfkjgfkdiaaDoor
