/- The walk of SnapshotNumbers; the numbers are of 64 bits, the text's length is a number of the language's. -/
import Derived.Test.YtpefbmheblfbeaaUtr
import Derived.Test.YtpefbmheblfbeaaUaw
namespace Go.Proofs.Ytpefbmheblfbeaa.Sn
open Go.RowKit Go.Sort
set_option linter.unusedVariables false
theorem takeV_tup (k : Int) (o : Option (Nat × Nat)) : ∃ (a b : Int) (c : Bool), takeV k o = .tuple #[.int .u64 a, .int .i64 b, .bool c] := by
  cases o with
  | none => exact ⟨_, _, _, rfl⟩
  | some p => exact ⟨_, _, _, rfl⟩
theorem numbers_ (W : World) (x : Nat) (s : ByteArray) (at_ : Int) (hx : x < 18446744073709551616) (hs : s.size ≤ 9223372036854775807) (h0 : -9223372036854775808 ≤ at_) (h1 : at_ ≤ 9223372036854775807) : Calls Try.prog 3 #[.int .u64 x, .string s, .int .i64 at_] W fun e w' => e = .returned (.bool true) ∧ Touch [] W w' := by
  have H1 := hid (fun w => take_ w s at_ hs h0 h1)
  have H2 := hid (fun w => rtake_ w s at_ hs h0 h1)
  obtain ⟨a, b, c, hv⟩ := takeV_tup at_ (takeAt s at_)
  rw [hv] at H1 H2
  have H3 := hid (fun w => number_ w x hx)
  have H4 := hid (fun w => rnumber_ w x hx)
  obtain ⟨nb, hnb⟩ : ∃ nb : ByteArray, nb = ⟨(numL x).toArray⟩ := ⟨_, rfl⟩
  rw [← hnb] at H3 H4
  obtain ⟨y, hy⟩ : ∃ y, y = IntKind.i64.wrap (x : Int) := ⟨_, rfl⟩
  have hyb : -9223372036854775808 ≤ y ∧ y ≤ 9223372036854775807 := by rw [hy, IntKind.wrap_i64]; omega
  have H5 := hid (fun w => sign_ w y hyb.1 hyb.2)
  have H6 := hid (fun w => rsign_ w y hyb.1 hyb.2)
  have H7 := hid (fun w => unsign_ w x (by omega) (by omega))
  have H8 := hid (fun w => runsign_ w x (by omega) (by omega))
  have hy2 := hy.symm
  clear hv hnb hyb hy hx hs h0 h1
  generalize sgn y = sy at *
  generalize uns x = ux at *
  go_enter Try.func3, Try.ntmps3
  go_wp2_with (first
    | (go_at_call 4; refine (H1.out _).mono ?_; rintro e w1 ⟨rfl, rfl⟩)
    | (go_at_call 5; refine (H2.out _).mono ?_; rintro e w2 ⟨rfl, rfl⟩)
    | (go_at_call 6; refine (awake_ _).mono ?_; rintro e w3 ⟨rfl, T3⟩)
    | (go_at_call 7; refine (H3.out _).mono ?_; rintro e w4 ⟨rfl, T4⟩)
    | (go_at_call 8; refine (H4.out _).mono ?_; rintro e w5 ⟨rfl, T5⟩)
    | (go_at_call 9; refine (H5.out _).mono ?_; rintro e w6 ⟨rfl, rfl⟩)
    | (go_at_call 10; refine (H6.out _).mono ?_; rintro e w7 ⟨rfl, rfl⟩)
    | (go_at_call 11; refine (H7.out _).mono ?_; rintro e w8 ⟨rfl, rfl⟩)
    | (go_at_call 12; refine (H8.out _).mono ?_; rintro e w9 ⟨rfl, rfl⟩))
  go_ret
  exact ⟨rfl, (T3.trans' T4).trans' T5⟩
theorem numbersL_ (W : World) (x : Int) (s : ByteArray) (at_ : Int) (wx : (Lit.int .u64 x).wf = true) (hs : s.size ≤ 140737488351232) (wa : (Lit.int .i64 at_).wf = true) : Calls Try.prog 3 #[.int .u64 x, .string s, .int .i64 at_] W fun e w' => e = .returned (.bool true) ∧ Touch [] W w' := by
  simp [Lit.wf, IntKind.min, IntKind.max, IntKind.signed, IntKind.bits] at wx wa
  obtain ⟨n, rfl⟩ : ∃ n : Nat, x = (n : Int) := ⟨x.toNat, by omega⟩
  exact numbers_ W n s at_ (by omega) (by omega) (by omega) (by omega)
end Go.Proofs.Ytpefbmheblfbeaa.Sn
