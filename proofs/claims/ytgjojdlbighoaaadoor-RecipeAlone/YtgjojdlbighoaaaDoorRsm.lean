/- The document's small functions on numbers and tests, and its hash of a key, each by the same plain numbers as the program's; the conditions are those that each states. -/
import Derived.Test.YtgjojdlbighoaaaDoorSml
namespace Go.Proofs.YtgjojdlbighoaaaDoor
open Go.RowKit Go.Sort
set_option linter.unusedVariables false

theorem ref54x (a : Int) (s : ByteArray) (w : World) (h0 : 0 ≤ a) (h1 : a ≤ 65535) (hs : s.size ≤ 9223372036854775800) :
    Calls Tryd.prog 54 #[.agg #[.int .u16 a, .string s]] w fun e w' => e = .returned (.string (hd3 a s ++ s)) ∧ ∃ o1 o2, w' = (w.alloc o1).alloc o2 := by
  have hcv := conv3 ((w.alloc (.cells #[.int .u16 a, .string s] 52)).alloc (.cells #[.int .u8 (a % 256), .int .u8 (a / 256), .int .u8 ((s.size : Int) % 256)] 5)) (w.heap.size + 1) 3 (a % 256) (a / 256) ((s.size : Int) % 256) (by omega) (by omega) (by omega)
    (by go_simp) (by go_simp) (by go_simp)
  rw [show (⟨#[byt (a % 256), byt (a / 256), byt ((s.size : Int) % 256)]⟩ : ByteArray) = hd3 a s from rfl] at hcv
  have had := add_hd a s hs
  have hdv : IntKind.u16.wrap (a.tdiv 256) = a / 256 := by rw [IntKind.wrap_u16, Int.tdiv_eq_ediv_of_nonneg h0]; omega
  have hmd : a / 256 % 256 = a / 256 := by omega
  clear hs
  go_enter Tryd.func54, Tryd.ntmps54
  go_wp2
  go_ret
  exact ⟨rfl, _, _, rfl⟩
set_option maxHeartbeats 1000000 in
theorem hash34x (a : Int) (s : ByteArray) (w : World) (h0 : 0 ≤ a) (h1 : a ≤ 65535) (hs : s.size ≤ 9223372036854775800) :
    Calls Tryd.prog 34 #[.agg #[.int .u16 a, .string s]] w fun e w' => e = .returned (.int .u64 (hashK a s : Nat)) ∧ ∃ o1 o2 o3, w' = ((w.alloc o1).alloc o2).alloc o3 := by
  have R : Hid _ := fun w => ref54x a s w h0 h1 hs
  have HS : (hd3 a s ++ s).size ≤ 9223372036854775803 := by rw [ByteArray.size_append, hd3_size]; omega
  have HK : Hid (hashK a s = hEnd (hMid (hFold hStart (hd3 a s ++ s).data.toList))) := rfl
  generalize hashK a s = hk at *
  generalize hd3 a s ++ s = x at *
  clear hs h0 h1
  have hst0 : (14695981039346656037 : Int) = ((hFold hStart [] : Nat) : Int) := rfl
  have HST0 : Hid _ := hst0
  clear hst0
  go_enter Tryd.func34, Tryd.ntmps34
  go_wp2_with fail
  refine (R.out _).mono ?_
  rintro e w1 ⟨rfl, o2, o3, g1⟩
  have G : Hid (∃ o1 o2 o3, w1 = ((w.alloc o1).alloc o2).alloc o3) := ⟨_, o2, o3, g1⟩
  clear g1
  go_wp2_with fail
  go_loop [3, 5] (fun h i => ∃ k : Nat, k ≤ x.size ∧ i = .int .i64 k ∧ h = .int .u64 (hFold hStart (x.data.toList.take k) : Nat)) (fun _ i => x.size - (intOf i).toNat)
  case atStart => exact ⟨0, Nat.zero_le _, rfl, rfl⟩
  case round =>
    obtain ⟨k, hk', rfl, rfl⟩ := hrel
    have hlt0 := hFold_lt hStart hStart_lt (x.data.toList.take k)
    by_cases hlt : k < x.size
    · have hst := h_step (hFold hStart (x.data.toList.take k)) x[k] hlt0 (x[k].toNat : Int) (by have := x[k].toNat_lt; rw [IntKind.wrap_u64]; omega)
      rw [← hFold_snoc, ← take_snoc x k hlt] at hst
      clear hlt0
      go_wp2
      go_round
      case rel => exact ⟨k + 1, by omega, by go_num, rfl⟩
      case measure => simp [intOf]; omega
    · have e : x.data.toList.take k = x.data.toList := List.take_of_length_le (by show x.size ≤ k; omega)
      rw [e] at hlt0 ⊢
      generalize hFold hStart x.data.toList = H at *
      have m1 := h_mid H hlt0
      have m2 := h_end (hMid H) (mod_lt _)
      have M1 : hMid H < 18446744073709551616 := mod_lt _
      go_wp2_with fail
      refine (ovr32 H hlt0 _).mono ?_
      rintro e w2 ⟨rfl, rfl⟩
      go_wp2_with fail
      refine (ovr29 (hMid H) M1 _).mono ?_
      rintro e w2 ⟨rfl, rfl⟩
      go_wp2_with fail
      go_ret
      exact ⟨ret_int (by rw [HK.out]), G.out⟩
theorem shift33_up (n : Int) (k : Nat) (w : World) (hn : I64 n) (hk : k ≤ 63) : Calls Tryd.prog 33 #[.int .i64 n, .int .i64 k] w fun e w' => e = .returned (.int .i64 (shl n k)) ∧ w' = w := by
  have H0 : Hid (n = shl n (k - k)) := by show n = _; rw [Nat.sub_self, shl_zero hn]
  clear hn
  go_enter Tryd.func33, Tryd.ntmps33
  go_wp2
  go_loop [0, 1] (fun v i => ∃ j : Nat, j ≤ k ∧ i = .int .i64 j ∧ v = .int .i64 (shl n (k - j))) (fun _ i => (intOf i).toNat)
  case atStart => exact ⟨k, Nat.le_refl _, rfl, by rw [← H0.out]⟩
  case round =>
    obtain ⟨j, hj, rfl, rfl⟩ := hrel
    cases j with
    | zero =>
      rw [Nat.sub_zero]
      go_wp2
      go_loop [0, 1] (fun v i => i = .int .i64 0 ∧ v = .int .i64 (shl n k)) (fun _ _ => 0)
      case atStart => exact ⟨rfl, rfl⟩
      case round =>
        obtain ⟨rfl, rfl⟩ := hrel
        go_wp2
        go_ret
        exact ⟨rfl, rfl⟩
    | succ j =>
      have hw := shl_succ n (k - (j + 1))
      rw [show k - (j + 1) + 1 = k - j by omega] at hw
      generalize shl n (k - (j + 1)) = y at *
      have hj1 : IntKind.i64.wrap (((j + 1 : Nat) : Int) - 1) = (j : Int) := by rw [IntKind.wrap_i64]; omega
      have hj0 : (0 : Int) < ((j + 1 : Nat) : Int) := by omega
      obtain ⟨J, hJ⟩ : ∃ J : Int, ((j + 1 : Nat) : Int) = J := ⟨_, rfl⟩
      rw [hJ] at hj1 hj0 ⊢
      have HJ : Hid (((j + 1 : Nat) : Int) = J) := hJ
      clear hJ
      go_wp2
      go_round
      case rel => exact ⟨j, by omega, rfl, rfl⟩
      case measure => have := HJ.out; simp [intOf]; omega
theorem shift33_down (n : Int) (k : Nat) (w : World) (hn : I64 n) (hk : 1 ≤ k) (hk2 : k ≤ 63) : Calls Tryd.prog 33 #[.int .i64 n, .int .i64 (-(k : Int))] w fun e w' => e = .returned (.int .i64 (shr n k)) ∧ w' = w := by
  have H0 : Hid (n = shr n (k - k)) := by show n = _; rw [Nat.sub_self, shr_zero]
  have HI : Hid (I64 n) := hn
  have hneg : -(k : Int) < 0 := by omega
  clear hn
  go_enter Tryd.func33, Tryd.ntmps33
  go_wp2
  go_loop [0, 1] (fun v i => i = .int .i64 (-(k : Int)) ∧ v = .int .i64 n) (fun _ _ => 0)
  case atStart => exact ⟨rfl, rfl⟩
  case round =>
    obtain ⟨rfl, rfl⟩ := hrel
    go_wp2
    go_loop [0, 1] (fun v i => ∃ j : Nat, j ≤ k ∧ i = .int .i64 (-(j : Int)) ∧ v = .int .i64 (shr n (k - j))) (fun _ i => (intOf i).natAbs)
    case atStart => exact ⟨k, Nat.le_refl _, rfl, by rw [← H0.out]⟩
    case round =>
      obtain ⟨j, hj, rfl, rfl⟩ := hrel
      cases j with
      | zero =>
        rw [Nat.sub_zero]
        go_wp2
        go_ret
        exact ⟨rfl, rfl⟩
      | succ j =>
        have hw := shr_succ n (k - (j + 1))
        rw [show k - (j + 1) + 1 = k - j by omega] at hw
        have hi := shr_in HI.out (k - (j + 1))
        generalize shr n (k - (j + 1)) = y at *
        have hj1 : IntKind.i64.wrap (-((j + 1 : Nat) : Int) + 1) = -(j : Int) := by rw [IntKind.wrap_i64]; omega
        have hj0 : -((j + 1 : Nat) : Int) < 0 := by omega
        obtain ⟨J, hJ⟩ : ∃ J : Int, -((j + 1 : Nat) : Int) = J := ⟨_, rfl⟩
        rw [hJ] at hj1 hj0 ⊢
        have HJ : Hid (-((j + 1 : Nat) : Int) = J) := hJ
        clear hJ
        obtain ⟨hi1, hi2⟩ := hi
        by_cases hy : y < 0
        · by_cases ho : y.tmod 2 = 0
          · have hq : IntKind.i64.wrap (y.tdiv 2) = shr n (k - j) := by rw [half_even ho, hw, ← hw, IntKind.wrap_i64]; omega
            have ho' : (y.tmod 2 == 0) = true := by simpa using ho
            have wt : IntKind.i64.wrap (y.tmod 2) = 0 := by rw [ho]; rfl
            obtain ⟨z, hzz⟩ : ∃ z, shr n (k - j) = z := ⟨_, rfl⟩
            rw [hzz] at hq
            have HZ : Hid (shr n (k - j) = z) := hzz
            clear hzz
            clear ho hw
            go_wp2
            go_round
            case rel => exact ⟨j, by omega, rfl, by rw [HZ.out]⟩
            case measure => have := HJ.out; simp [intOf]; omega
          · have hm1 : IntKind.i64.wrap (y - 1) = y - 1 := by
              have : y ≠ -9223372036854775808 := fun e => ho (by rw [e]; rfl)
              rw [IntKind.wrap_i64]; omega
            have hq : IntKind.i64.wrap ((y - 1).tdiv 2) = shr n (k - j) := by rw [half_neg hy ho, ← hw, IntKind.wrap_i64]; omega
            have ho' : (y.tmod 2 == 0) = false := by simpa using ho
            have wt : IntKind.i64.wrap (y.tmod 2) = y.tmod 2 := by
              have e : y.tmod 2 = -((-y) % 2) := by rw [← Int.neg_neg y, Int.neg_tmod, Int.neg_neg, Int.tmod_eq_emod_of_nonneg (by omega)]
              rw [e, IntKind.wrap_i64]; omega
            obtain ⟨z, hzz⟩ : ∃ z, shr n (k - j) = z := ⟨_, rfl⟩
            rw [hzz] at hq
            have HZ : Hid (shr n (k - j) = z) := hzz
            clear hzz
            clear ho hw
            go_wp2
            go_round
            case rel => exact ⟨j, by omega, rfl, by rw [HZ.out]⟩
            case measure => have := HJ.out; simp [intOf]; omega
        · have hq : IntKind.i64.wrap (y / 2) = shr n (k - j) := by rw [← hw, IntKind.wrap_i64]; omega
          have hq2 : IntKind.i64.wrap (y.tdiv 2) = shr n (k - j) := by rw [half_pos (by omega)]; exact hq
          obtain ⟨z, hzz⟩ : ∃ z, shr n (k - j) = z := ⟨_, rfl⟩
          rw [hzz] at hq hq2
          have HZ : Hid (shr n (k - j) = z) := hzz
          clear hzz
          clear hw
          go_wp2
          go_round
          case rel => exact ⟨j, by omega, rfl, by rw [HZ.out]⟩
          case measure => have := HJ.out; simp [intOf]; omega
theorem shift33 (n a : Int) (w : World) (hn : I64 n) (h1 : -63 ≤ a) (h2 : a ≤ 63) : Calls Tryd.prog 33 #[.int .i64 n, .int .i64 a] w fun e w' => e = .returned (.int .i64 (shiftI n a)) ∧ w' = w := by
  unfold shiftI
  by_cases h : a < 0
  · rw [if_pos h]
    have := shift33_down n (-a).toNat w hn (by omega) (by omega)
    rw [show -(((-a).toNat : Nat) : Int) = a by omega] at this
    exact this
  · rw [if_neg h]
    have := shift33_up n a.toNat w hn (by omega)
    rw [show ((a.toNat : Nat) : Int) = a by omega] at this
    exact this
theorem turn35 (n : Int) (k : Nat) (w : World) (hk : k ≤ 63) : Calls Tryd.prog 35 #[.int .i64 n, .int .i64 k] w fun e w' => e = .returned (.int .i64 (turnI n k)) ∧ w' = w := by
  obtain ⟨u, hu⟩ : ∃ u : Nat, n % 18446744073709551616 = u := ⟨(n % 18446744073709551616).toNat, by omega⟩
  have hul : u < 18446744073709551616 := by omega
  have hw : IntKind.u64.wrap n = (u : Int) := by rw [IntKind.wrap_u64]; exact hu
  have ht : IntKind.i64.wrap ((rot u k : Nat) : Int) = turnI n k := by unfold turnI; rw [hu, Int.toNat_natCast, Int.toNat_natCast]
  have H0 : Hid (u = rot u (k - k)) := by show u = _; rw [Nat.sub_self, rot_zero hul]
  have HT : Hid _ := ht
  generalize turnI n k = T at *
  clear hu ht
  go_enter Tryd.func35, Tryd.ntmps35
  go_wp2
  go_loop [1, 5] (fun i v => ∃ j : Nat, j ≤ k ∧ i = .int .i64 j ∧ v = .int .u64 (rot u (k - j) : Nat)) (fun i _ => (intOf i).toNat)
  case atStart => exact ⟨k, Nat.le_refl _, rfl, by rw [← H0.out]⟩
  case round =>
    obtain ⟨j, hj, rfl, rfl⟩ := hrel
    cases j with
    | zero =>
      rw [Nat.sub_zero]
      have ht := HT.out
      generalize rot u k = R at *
      go_wp2
      go_ret
      exact ⟨rfl, rfl⟩
    | succ j =>
      obtain ⟨hs, hy⟩ := rot_succ u (k - (j + 1)) hul (by omega)
      rw [show k - (j + 1) + 1 = k - j by omega] at hs
      generalize rot u (k - (j + 1)) = y at *
      have hj1 : IntKind.i64.wrap (((j + 1 : Nat) : Int) - 1) = (j : Int) := by rw [IntKind.wrap_i64]; omega
      have hj0 : (0 : Int) < ((j + 1 : Nat) : Int) := by omega
      obtain ⟨J, hJ⟩ : ∃ J : Int, ((j + 1 : Nat) : Int) = J := ⟨_, rfl⟩
      rw [hJ] at hj1 hj0 ⊢
      have HJ : Hid (((j + 1 : Nat) : Int) = J) := hJ
      clear hJ
      by_cases htop : y < 9223372036854775808
      · have e1 : IntKind.u64.wrap ((y : Int) * 2) = ((rot u (k - j) : Nat) : Int) := by
          rw [Nat.mod_eq_of_lt (by omega), Nat.div_eq_of_lt htop] at hs
          rw [IntKind.wrap_u64, ← hs]
          omega
        have hc : ¬ (9223372036854775808 : Int) ≤ (y : Int) := by omega
        obtain ⟨R, hzz⟩ : ∃ R, rot u (k - j) = R := ⟨_, rfl⟩
        rw [hzz] at e1
        have HZ : Hid (rot u (k - j) = R) := hzz
        clear hzz
        clear hs hy htop
        go_wp2
        go_round
        case rel => exact ⟨j, by omega, rfl, by rw [HZ.out]⟩
        case measure => have := HJ.out; simp [intOf]; omega
      · obtain ⟨z, hz⟩ : ∃ z : Int, IntKind.u64.wrap ((y : Int) * 2) = z := ⟨_, rfl⟩
        have e1 : IntKind.u64.wrap (z + 1) = ((rot u (k - j) : Nat) : Int) := by
          rw [show y * 2 % 18446744073709551616 = y * 2 - 18446744073709551616 by omega, show y / 9223372036854775808 = 1 by omega] at hs
          rw [← hz, IntKind.wrap_u64, IntKind.wrap_u64, ← hs]
          omega
        have hc : (9223372036854775808 : Int) ≤ (y : Int) := by omega
        obtain ⟨R, hzz⟩ : ∃ R, rot u (k - j) = R := ⟨_, rfl⟩
        rw [hzz] at e1
        have HZ : Hid (rot u (k - j) = R) := hzz
        clear hzz
        clear hs hy htop
        go_wp2
        go_round
        case rel => exact ⟨j, by omega, rfl, by rw [HZ.out]⟩
        case measure => have := HJ.out; simp [intOf]; omega
theorem skips36 (a n : Int) (cn : Bool) (w : World) (hn : I64 n) : Calls Tryd.prog 36 #[.int .i64 a, .int .i64 n, .bool cn] w fun e w' => e = .returned (.bool (skipI a n cn)) ∧ w' = w := by
  by_cases h0 : a = 0
  · subst h0
    go_enter Tryd.func36, Tryd.ntmps36
    go_wp2
    go_ret
    exact ⟨rfl, rfl⟩
  by_cases h1 : a = 1
  · subst h1
    go_enter Tryd.func36, Tryd.ntmps36
    go_wp2
    go_ret
    exact ⟨rfl, rfl⟩
  by_cases h2 : a = 2
  · subst h2
    obtain ⟨hn1, hn2⟩ := hn
    by_cases hp : 0 ≤ n
    · have HA : Hid (skipI 2 n cn = (n % 2 != 0)) := by
        show (n % 2 == 1) = (n % 2 != 0)
        rcases (by omega : n % 2 = 0 ∨ n % 2 = 1) with e | e <;> rw [e] <;> rfl
      generalize skipI 2 n cn = R at *
      go_enter Tryd.func36, Tryd.ntmps36
      go_wp2
      go_ret
      exact ⟨by rw [HA.out]; rfl, rfl⟩
    · have e : n.tmod 2 = -((-n) % 2) := by rw [← Int.neg_neg n, Int.neg_tmod, Int.neg_neg, Int.tmod_eq_emod_of_nonneg (by omega)]
      have wt : IntKind.i64.wrap (n.tmod 2) = n.tmod 2 := by rw [e, IntKind.wrap_i64]; omega
      have HA : Hid (skipI 2 n cn = (n.tmod 2 != 0)) := by
        show (n % 2 == 1) = (n.tmod 2 != 0)
        rw [e]
        rcases (by omega : n % 2 = 0 ∧ (-n) % 2 = 0 ∨ n % 2 = 1 ∧ (-n) % 2 = 1) with ⟨e1, e2⟩ | ⟨e1, e2⟩ <;> rw [e1, e2] <;> rfl
      generalize skipI 2 n cn = R at *
      clear e
      go_enter Tryd.func36, Tryd.ntmps36
      go_wp2
      go_ret
      exact ⟨by rw [HA.out]; rfl, rfl⟩
  · have g0 : (a == 0) = false := by simpa using h0
    have g1 : (a == 1) = false := by simpa using h1
    have g2 : (a == 2) = false := by simpa using h2
    have HS : Hid (skipI a n cn = cn) := by show skipI a n cn = cn; unfold skipI; rw [if_neg h0, if_neg h1, if_neg h2]
    generalize skipI a n cn = R at *
    clear h0 h1 h2
    go_enter Tryd.func36, Tryd.ntmps36
    go_wp2
    go_ret
    exact ⟨by rw [HS.out]; rfl, rfl⟩
end Go.Proofs.YtgjojdlbighoaaaDoor
