/- The contracts of TakeNumber and of the document's Take: the number that stands at a place; the text's length is a number of the language's. -/
import Derived.Test.YtpefbmheblfbeaaUnu
namespace Go.Proofs.Ytpefbmheblfbeaa.Sn
open Go.RowKit Go.Sort
set_option linter.unusedVariables false
theorem ret_bool {a b : Bool} (h : a = b) : Ending.returned (.bool a) = .returned (.bool b) := by rw [h]
def takeZ : Value := .tuple #[.int .u64 0, .int .i64 0, .bool false]
theorem or_nat (y : Nat) (z : Int) (hy : y < 18446744073709551616) : ∃ o : Nat, bits .or .u64 (y : Int) (IntKind.u64.wrap z) = (o : Int) ∧ o < 18446744073709551616 := by
  refine ⟨(BitVec.ofInt 64 (y : Int) ||| BitVec.ofInt 64 (IntKind.u64.wrap z)).toNat, ?_, BitVec.isLt _⟩
  show IntKind.u64.wrap ((BitVec.ofInt 64 (y : Int) ||| BitVec.ofInt 64 (IntKind.u64.wrap z)).toNat : Int) = _
  have := BitVec.isLt (BitVec.ofInt 64 (y : Int) ||| BitVec.ofInt 64 (IntKind.u64.wrap z))
  rw [IntKind.wrap_u64]
  omega
theorem pow_le9 {j : Nat} (h : j ≤ 9) : 128 ^ j ≤ 9223372036854775808 := Nat.le_trans (Nat.pow_le_pow_right (by omega) h) (by decide)
theorem pow_le8 {j : Nat} (h : j ≤ 8) : 128 ^ j ≤ 72057594037927936 := Nat.le_trans (Nat.pow_le_pow_right (by omega) h) (by decide)
theorem or_add {y j d : Nat} (hy : y < 128 ^ j) (hj : j ≤ 9) (hd : d < 128) (h8 : j ≤ 8 ∨ d ≤ 1) : bits .or .u64 (y : Int) (IntKind.u64.wrap ((d : Int) * 2 ^ (((j : Int) * 7).toNat))) = ((y + d * 128 ^ j : Nat) : Int) ∧ y + d * 128 ^ j < 18446744073709551616 ∧ (j ≤ 8 → y + d * 128 ^ j < 128 ^ (j + 1)) := by
  have e1 : ((j : Int) * 7).toNat = 7 * j := by omega
  have e2 : (128 : Nat) ^ j = 2 ^ (7 * j) := by rw [Nat.pow_mul]
  have p9 := pow_le9 hj
  have hlt : y + d * 128 ^ j < 18446744073709551616 := by
    rcases h8 with h | h
    · have p8 := pow_le8 h
      have : d * 128 ^ j ≤ 127 * 128 ^ j := Nat.mul_le_mul_right _ (by omega)
      omega
    · have : d * 128 ^ j ≤ 1 * 128 ^ j := Nat.mul_le_mul_right _ h
      omega
  refine ⟨?_, hlt, fun _ => by
    rw [Nat.pow_succ]
    have : d * 128 ^ j ≤ 127 * 128 ^ j := Nat.mul_le_mul_right _ (by omega)
    omega⟩
  have e3 : (d : Int) * 2 ^ (((j : Int) * 7).toNat) = ((d * 128 ^ j : Nat) : Int) := by rw [e1, e2]; push_cast; rfl
  have e4 : IntKind.u64.wrap ((d * 128 ^ j : Nat) : Int) = ((d * 128 ^ j : Nat) : Int) := by rw [IntKind.wrap_u64]; omega
  rw [e3, e4]
  have h1 : (BitVec.ofInt 64 (y : Int)).toNat = y := by rw [BitVec.ofInt_natCast, BitVec.toNat_ofNat]; exact Nat.mod_eq_of_lt (by omega)
  have h2 : (BitVec.ofInt 64 ((d * 128 ^ j : Nat) : Int)).toNat = d * 128 ^ j := by rw [BitVec.ofInt_natCast, BitVec.toNat_ofNat]; exact Nat.mod_eq_of_lt (by omega)
  show IntKind.u64.wrap ((BitVec.ofInt 64 (y : Int) ||| BitVec.ofInt 64 ((d * 128 ^ j : Nat) : Int)).toNat : Int) = _
  have h3 : y ||| d * 128 ^ j = y + d * 128 ^ j := by
    have := Nat.two_pow_add_eq_or_of_lt (i := 7 * j) (b := y) (by omega) d
    rw [Nat.or_comm, e2, Nat.mul_comm d, ← this]
    omega
  rw [BitVec.toNat_or, h1, h2, h3, IntKind.wrap_u64]
  omega
theorem ret_take {k p : Int} {o o' n : Nat} (h1 : o = o') (h2 : p = k + ((n : Nat) : Int)) : Ending.returned (.tuple #[.int .u64 (o : Int), .int .i64 p, .bool true]) = .returned (takeV k (some (o', n))) := by rw [h1, h2]; rfl
theorem maylast_ (w : World) (b i : Nat) : Calls Try.prog 13 #[.int .u8 b, .int .i64 i] w fun e w' => e = .returned (.bool (lastB b i)) ∧ w' = w := by
  unfold lastB
  by_cases h : i = 9
  · subst h
    go_enter Try.func13, Try.ntmps13
    go_wp2
    go_ret
    refine ⟨?_, rfl⟩
    exact ret_bool (by rw [Bool.eq_iff_iff]; simp; omega)
  · have hi : ¬ (i : Int) = 9 := by omega
    by_cases hb : 0 < b
    · have hb' : (0 : Int) < (b : Int) := by omega
      rw [if_neg h, decide_eq_true hb, Bool.true_or]
      go_enter Try.func13, Try.ntmps13
      go_wp2
      go_ret
      exact ⟨rfl, rfl⟩
    · have hb' : ¬ (0 : Int) < (b : Int) := by omega
      rw [if_neg h, decide_eq_false hb, Bool.false_or]
      go_enter Try.func13, Try.ntmps13
      go_wp2
      go_ret
      exact ⟨ret_bool (by rw [Bool.eq_iff_iff]; simp), rfl⟩
theorem take_ (w : World) (s : ByteArray) (at_ : Int) (hs : s.size ≤ 9223372036854775807) (h0 : -9223372036854775808 ≤ at_) (h1 : at_ ≤ 9223372036854775807) : Calls Try.prog 4 #[.string s, .int .i64 at_] w fun e w' => e = .returned (takeV at_ (takeAt s at_)) ∧ w' = w := by
  by_cases ha : at_ < 0
  · unfold takeAt
    rw [if_pos ha]
    unfold takeV
    go_enter Try.func4, Try.ntmps4
    go_wp2
    exact bodyPost_ret (v := takeZ) (by simp [results, Try.results4, go_sem, takeZ]) rfl ⟨rfl, rfl⟩
  by_cases hb : (s.size : Int) < at_
  · unfold takeAt
    rw [if_neg ha, List.drop_eq_nil_of_le (by simp; omega)]
    unfold takeN
    rw [takeG_nil]
    unfold takeV
    go_enter Try.func4, Try.ntmps4
    go_wp2
    exact bodyPost_ret (v := takeZ) (by simp [results, Try.results4, go_sem, takeZ]) rfl ⟨rfl, rfl⟩
  obtain ⟨k, rfl⟩ : ∃ k : Nat, at_ = (k : Int) := ⟨at_.toNat, by omega⟩
  have hk : k ≤ s.size := by omega
  have hk' : (k : Int) ≤ (s.size : Int) := by omega
  obtain ⟨m, hm⟩ : ∃ m : Nat, m = s.size - k := ⟨_, rfl⟩
  have hw : IntKind.i64.wrap ((s.size : Int) - (k : Int)) = (m : Int) := by rw [IntKind.wrap_i64]; omega
  rw [show takeAt s (k : Int) = takeN (s.data.toList.drop k) by unfold takeAt; rw [if_neg ha]; rfl]
  have HK := hid hm
  have HS := hid hs
  have HK2 := hid hk
  clear hm hs hk h0 ha hb h1
  by_cases hm10 : (m : Int) ≤ 10
  · have HM := hid hm10
    go_enter Try.func4, Try.ntmps4
    go_wp2
    go_loop [7, 23] (fun x i => ∃ (j y : Nat), j ≤ m ∧ i = .int .i64 j ∧ x = .int .u64 y ∧ Hid (y < 18446744073709551616 ∧ takeN (s.data.toList.drop k) = takeG (s.data.toList.drop (k + j)) j y ∧ (j < 10 → y < 128 ^ j))) (fun _ i => m - (intOf i).toNat)
    case atStart => exact ⟨0, 0, Nat.zero_le _, rfl, rfl, hid ⟨by omega, rfl, fun _ => by omega⟩⟩
    case round =>
      obtain ⟨j, y, hj, rfl, rfl, HI⟩ := hrel
      by_cases hlt : j < m
      · have zj : (j : Int) < (m : Int) := by omega
        have kj : k + j < s.size := by have := HK.out; have := HM.out; omega
        have kj1 : (k : Int) + (j : Int) < (s.size : Int) := by omega
        have kj0 : ((k : Int) + (j : Int)).toNat = k + j := by omega
        obtain ⟨b, hb⟩ : ∃ b, s[k + j] = b := ⟨_, rfl⟩
        have HB := hid b.toNat_lt
        have wk : IntKind.i64.wrap ((k : Int) + (j : Int)) = (k : Int) + (j : Int) := by rw [IntKind.wrap_i64]; have := HS.out; omega
        go_upto_region 8 with fail
        have j9 : j ≤ 9 := by have := HM.out; omega
        obtain ⟨c, hc⟩ : ∃ c : Int, (j : Int) * 7 = c := ⟨_, rfl⟩
        have c0 : 0 ≤ c := by omega
        have c1 : c ≤ 63 := by omega
        have wc : IntKind.i64.wrap c = c := by rw [IntKind.wrap_i64]; omega
        obtain ⟨d, hd⟩ : ∃ d : Int, (b.toNat : Int) % 128 = d := ⟨_, rfl⟩
        have HD : Hid (0 ≤ d ∧ d < 128) := hid (by omega)
        have wd : IntKind.u64.wrap d = d := by rw [IntKind.wrap_u64]; omega
        go_upto_region 9 with fail
        have HO : Hid (∃ o : Nat, bits .or .u64 (y : Int) (IntKind.u64.wrap (d * 2 ^ c.toNat)) = (o : Int) ∧ o < 18446744073709551616 ∧ ((j ≤ 8 ∨ d ≤ 1) → o = y + b.toNat % 128 * 128 ^ j ∧ (j ≤ 8 → o < 128 ^ (j + 1)))) := hid (by
          by_cases h8 : j ≤ 8 ∨ d ≤ 1
          · obtain ⟨q1, q2, q3⟩ := or_add (d := b.toNat % 128) (HI.out.2.2 (by omega)) j9 (by omega) (by omega)
            rw [hc, show ((b.toNat % 128 : Nat) : Int) = d by omega] at q1
            exact ⟨_, q1, q2, fun _ => ⟨rfl, q3⟩⟩
          · obtain ⟨o, q1, q2⟩ := or_nat y (d * 2 ^ c.toNat) HI.out.1
            exact ⟨o, q1, q2, fun h => absurd h h8⟩)
        obtain ⟨o, ho, HO2⟩ := HO.out
        rw [ho]
        have HD2 := hid hd
        have HCj := hid j9
        have HD3 : Hid (takeN (s.data.toList.drop k) = takeG (b :: s.data.toList.drop (k + (j + 1))) j y) := hid (by rw [HI.out.2.1, drop_cons s (k + j) kj, hb]; rfl)
        have HOO := hid HO2
        clear HO HO2 ho hc c0 c1 wc wd hd j9 kj kj1 kj0 hb HD
        by_cases h128 : b.toNat < 128
        · have z128 : ¬ (128 : Int) ≤ (b.toNat : Int) := by omega
          have HL := hid (takeG_last (l := s.data.toList.drop (k + (j + 1))) (x := y) (show j < 10 by have := HCj.out; omega) h128)
          have HV : Hid (lastB b.toNat j = true → o = y + b.toNat * 128 ^ j) := hid (fun h => by
            have h9 : j ≤ 8 ∨ d ≤ 1 := by
              by_cases h8 : j ≤ 8
              · exact Or.inl h8
              · have e9 : j = 9 := by have := HCj.out; omega
                subst e9
                unfold lastB at h
                rw [if_pos rfl] at h
                have := of_decide_eq_true h
                have := HD2.out
                exact Or.inr (by omega)
            have := (HOO.out.2 h9).1
            rw [Nat.mod_eq_of_lt h128] at this
            exact this)
          have wk1 : IntKind.i64.wrap ((k : Int) + (j : Int) + 1) = (k : Int) + (j : Int) + 1 := by rw [IntKind.wrap_i64]; have := HS.out; have := HK.out; have := HK2.out; omega
          clear h128 HOO
          go_wp2_with (go_at_call 13; refine (maylast_ _ _ _).mono ?_; rintro e w1 ⟨rfl, rfl⟩; cases hlb : lastB b.toNat j)
          · exact bodyPost_ret (v := takeZ) (by simp [results, Try.results4, go_sem, takeZ]) rfl ⟨by rw [HD3.out, HL.out, hlb]; rfl, rfl⟩
          · have ev := HV.out hlb
            exact bodyPost_ret (v := .tuple #[.int .u64 (o : Int), .int .i64 ((k : Int) + (j : Int) + 1), .bool true]) (by simp [results, Try.results4, go_sem]) rfl ⟨by rw [HD3.out, HL.out, hlb, ev]; exact ret_take rfl (by omega), rfl⟩
        · have z128 : (128 : Int) ≤ (b.toNat : Int) := by omega
          have HL := hid (takeG_more (l := s.data.toList.drop (k + (j + 1))) (x := y) (show j < 10 by have := HCj.out; omega) h128)
          clear h128
          go_wp2
          go_round
          case rel =>
            refine ⟨j + 1, o, by omega, by push_cast; rfl, rfl, hid ⟨HOO.out.1, ?_, fun h => (HOO.out.2 (Or.inl (by omega))).2 (by omega)⟩⟩
            rw [HD3.out, HL.out]
            by_cases h8 : j ≤ 8
            · rw [(HOO.out.2 (Or.inl h8)).1]
            · have e9 : j = 9 := by have := HCj.out; omega
              subst e9
              rw [takeG_ten, takeG_ten]
          case measure => simp [intOf]; omega
      · have zj : ¬ (j : Int) < (m : Int) := by omega
        have HE : Hid (takeN (s.data.toList.drop k) = none) := hid (by
          rw [HI.out.2.1]
          by_cases h10 : j = 10
          · rw [h10, takeG_ten]
          · rw [List.drop_eq_nil_of_le (by have := HK.out; have := HM.out; have := HK2.out; rw [Array.length_toList]; show s.size ≤ _; omega), takeG_nil])
        clear HI
        go_wp2
        exact bodyPost_ret (v := takeZ) (by simp [results, Try.results4, go_sem, takeZ]) rfl ⟨by rw [HE.out]; rfl, rfl⟩

  · have HM := hid hm10
    go_enter Try.func4, Try.ntmps4
    go_wp2
    go_loop [7, 23] (fun x i => ∃ (j y : Nat), j ≤ 10 ∧ i = .int .i64 j ∧ x = .int .u64 y ∧ Hid (y < 18446744073709551616 ∧ takeN (s.data.toList.drop k) = takeG (s.data.toList.drop (k + j)) j y ∧ (j < 10 → y < 128 ^ j))) (fun _ i => 10 - (intOf i).toNat)
    case atStart => exact ⟨0, 0, Nat.zero_le _, rfl, rfl, hid ⟨by omega, rfl, fun _ => by omega⟩⟩
    case round =>
      obtain ⟨j, y, hj, rfl, rfl, HI⟩ := hrel
      by_cases hlt : j < 10
      · have zj : (j : Int) < (10 : Int) := by omega
        have kj : k + j < s.size := by have := HK.out; have := HM.out; omega
        have kj1 : (k : Int) + (j : Int) < (s.size : Int) := by omega
        have kj0 : ((k : Int) + (j : Int)).toNat = k + j := by omega
        obtain ⟨b, hb⟩ : ∃ b, s[k + j] = b := ⟨_, rfl⟩
        have HB := hid b.toNat_lt
        have wk : IntKind.i64.wrap ((k : Int) + (j : Int)) = (k : Int) + (j : Int) := by rw [IntKind.wrap_i64]; have := HS.out; omega
        go_upto_region 8 with fail
        have j9 : j ≤ 9 := by have := HM.out; omega
        obtain ⟨c, hc⟩ : ∃ c : Int, (j : Int) * 7 = c := ⟨_, rfl⟩
        have c0 : 0 ≤ c := by omega
        have c1 : c ≤ 63 := by omega
        have wc : IntKind.i64.wrap c = c := by rw [IntKind.wrap_i64]; omega
        obtain ⟨d, hd⟩ : ∃ d : Int, (b.toNat : Int) % 128 = d := ⟨_, rfl⟩
        have HD : Hid (0 ≤ d ∧ d < 128) := hid (by omega)
        have wd : IntKind.u64.wrap d = d := by rw [IntKind.wrap_u64]; omega
        go_upto_region 9 with fail
        have HO : Hid (∃ o : Nat, bits .or .u64 (y : Int) (IntKind.u64.wrap (d * 2 ^ c.toNat)) = (o : Int) ∧ o < 18446744073709551616 ∧ ((j ≤ 8 ∨ d ≤ 1) → o = y + b.toNat % 128 * 128 ^ j ∧ (j ≤ 8 → o < 128 ^ (j + 1)))) := hid (by
          by_cases h8 : j ≤ 8 ∨ d ≤ 1
          · obtain ⟨q1, q2, q3⟩ := or_add (d := b.toNat % 128) (HI.out.2.2 (by omega)) j9 (by omega) (by omega)
            rw [hc, show ((b.toNat % 128 : Nat) : Int) = d by omega] at q1
            exact ⟨_, q1, q2, fun _ => ⟨rfl, q3⟩⟩
          · obtain ⟨o, q1, q2⟩ := or_nat y (d * 2 ^ c.toNat) HI.out.1
            exact ⟨o, q1, q2, fun h => absurd h h8⟩)
        obtain ⟨o, ho, HO2⟩ := HO.out
        rw [ho]
        have HD2 := hid hd
        have HCj := hid j9
        have HD3 : Hid (takeN (s.data.toList.drop k) = takeG (b :: s.data.toList.drop (k + (j + 1))) j y) := hid (by rw [HI.out.2.1, drop_cons s (k + j) kj, hb]; rfl)
        have HOO := hid HO2
        clear HO HO2 ho hc c0 c1 wc wd hd j9 kj kj1 kj0 hb HD
        by_cases h128 : b.toNat < 128
        · have z128 : ¬ (128 : Int) ≤ (b.toNat : Int) := by omega
          have HL := hid (takeG_last (l := s.data.toList.drop (k + (j + 1))) (x := y) (show j < 10 by have := HCj.out; omega) h128)
          have HV : Hid (lastB b.toNat j = true → o = y + b.toNat * 128 ^ j) := hid (fun h => by
            have h9 : j ≤ 8 ∨ d ≤ 1 := by
              by_cases h8 : j ≤ 8
              · exact Or.inl h8
              · have e9 : j = 9 := by have := HCj.out; omega
                subst e9
                unfold lastB at h
                rw [if_pos rfl] at h
                have := of_decide_eq_true h
                have := HD2.out
                exact Or.inr (by omega)
            have := (HOO.out.2 h9).1
            rw [Nat.mod_eq_of_lt h128] at this
            exact this)
          have wk1 : IntKind.i64.wrap ((k : Int) + (j : Int) + 1) = (k : Int) + (j : Int) + 1 := by rw [IntKind.wrap_i64]; have := HS.out; have := HK.out; have := HK2.out; omega
          clear h128 HOO
          go_wp2_with (go_at_call 13; refine (maylast_ _ _ _).mono ?_; rintro e w1 ⟨rfl, rfl⟩; cases hlb : lastB b.toNat j)
          · exact bodyPost_ret (v := takeZ) (by simp [results, Try.results4, go_sem, takeZ]) rfl ⟨by rw [HD3.out, HL.out, hlb]; rfl, rfl⟩
          · have ev := HV.out hlb
            exact bodyPost_ret (v := .tuple #[.int .u64 (o : Int), .int .i64 ((k : Int) + (j : Int) + 1), .bool true]) (by simp [results, Try.results4, go_sem]) rfl ⟨by rw [HD3.out, HL.out, hlb, ev]; exact ret_take rfl (by omega), rfl⟩
        · have z128 : (128 : Int) ≤ (b.toNat : Int) := by omega
          have HL := hid (takeG_more (l := s.data.toList.drop (k + (j + 1))) (x := y) (show j < 10 by have := HCj.out; omega) h128)
          clear h128
          go_wp2
          go_round
          case rel =>
            refine ⟨j + 1, o, by omega, by push_cast; rfl, rfl, hid ⟨HOO.out.1, ?_, fun h => (HOO.out.2 (Or.inl (by omega))).2 (by omega)⟩⟩
            rw [HD3.out, HL.out]
            by_cases h8 : j ≤ 8
            · rw [(HOO.out.2 (Or.inl h8)).1]
            · have e9 : j = 9 := by have := HCj.out; omega
              subst e9
              rw [takeG_ten, takeG_ten]
          case measure => simp [intOf]; omega
      · have zj : ¬ (j : Int) < (10 : Int) := by omega
        have HE : Hid (takeN (s.data.toList.drop k) = none) := hid (by
          rw [HI.out.2.1]
          by_cases h10 : j = 10
          · rw [h10, takeG_ten]
          · rw [List.drop_eq_nil_of_le (by have := HK.out; have := HM.out; have := HK2.out; rw [Array.length_toList]; show s.size ≤ _; omega), takeG_nil])
        clear HI
        go_wp2
        exact bodyPost_ret (v := takeZ) (by simp [results, Try.results4, go_sem, takeZ]) rfl ⟨by rw [HE.out]; rfl, rfl⟩

end Go.Proofs.Ytpefbmheblfbeaa.Sn
