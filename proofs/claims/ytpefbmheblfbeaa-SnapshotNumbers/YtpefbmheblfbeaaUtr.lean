/- The contract of the document's Take: the number that stands at a place; the text's length is a number of the language's. -/
import Derived.Test.YtpefbmheblfbeaaUtk
namespace Go.Proofs.Ytpefbmheblfbeaa.Sn
open Go.RowKit Go.Sort
set_option linter.unusedVariables false
theorem mul_nat (z : Int) : ∃ o : Nat, IntKind.u64.wrap z = (o : Int) ∧ o < 18446744073709551616 := by
  refine ⟨(z % 18446744073709551616).toNat, ?_, ?_⟩
  · rw [IntKind.wrap_u64]; omega
  · omega
theorem lastB_no {b j : Nat} (hb : b = 0) (hj : 0 < j) : lastB b j = false := by
  unfold lastB
  by_cases h9 : j = 9
  · rw [if_pos h9]; exact decide_eq_false (by omega)
  · rw [if_neg h9, hb]; simp; omega
theorem lastB_yes {b j : Nat} (hb : ¬ (b = 0 ∧ 0 < j)) (h8 : j ≤ 8 ∨ b ≤ 1 ∧ j = 9) : lastB b j = true := by
  unfold lastB
  by_cases h9 : j = 9
  · rw [if_pos h9]; exact decide_eq_true (by omega)
  · rw [if_neg h9, Bool.or_eq_true, decide_eq_true_eq, decide_eq_true_eq]; omega
structure TkI (s : ByteArray) (k j y q : Nat) : Prop where
  lt : y < 18446744073709551616
  eq : takeN (s.data.toList.drop k) = takeG (s.data.toList.drop (k + j)) j y
  p : j < 10 → y < 128 ^ j ∧ q = 128 ^ j
theorem TkI.fin {s : ByteArray} {k j y q : Nat} (h : TkI s k j y q) (h2 : j = 10 ∨ s.size ≤ k + j) : takeN (s.data.toList.drop k) = none := by
  rw [h.eq]
  rcases h2 with h2 | h2
  · rw [h2, takeG_ten]
  · rw [List.drop_eq_nil_of_le (by rw [Array.length_toList]; exact h2), takeG_nil]
theorem TkI.cons {s : ByteArray} {k j y q : Nat} (h : TkI s k j y q) {b : UInt8} (hk : k + j < s.size) (hb : s[k + j] = b) : takeN (s.data.toList.drop k) = takeG (b :: s.data.toList.drop (k + (j + 1))) j y := by
  rw [h.eq, drop_cons s (k + j) hk, hb]; rfl
theorem TkI.sum {s : ByteArray} {k j y q : Nat} (h : TkI s k j y q) (hj : j < 10) {d : Nat} (hd : d < 128) (h8 : j ≤ 8 ∨ d ≤ 1) : IntKind.u64.wrap ((y : Int) + IntKind.u64.wrap ((d : Int) * (q : Int))) = ((y + d * 128 ^ j : Nat) : Int) ∧ y + d * 128 ^ j < 18446744073709551616 ∧ (j ≤ 8 → y + d * 128 ^ j < 128 ^ (j + 1)) := by
  obtain ⟨q1, q2, q3⟩ := or_add (h.p hj).1 (by omega) hd h8
  refine ⟨?_, q2, q3⟩
  have e := (h.p hj).2
  rw [e]
  have e2 : IntKind.u64.wrap ((d : Int) * ((128 ^ j : Nat) : Int)) = ((d * 128 ^ j : Nat) : Int) := by
    rw [← Int.natCast_mul, IntKind.wrap_u64]; omega
  rw [e2, IntKind.wrap_u64]
  omega
theorem TkI.pow {s : ByteArray} {k j y q : Nat} (h : TkI s k j y q) (hj : j ≤ 8) : IntKind.u64.wrap ((q : Int) * 128) = ((128 ^ (j + 1) : Nat) : Int) := by
  have p8 := pow_le8 hj
  rw [(h.p (by omega)).2, IntKind.wrap_u64, Nat.pow_succ]
  omega
theorem rtake_ (w : World) (s : ByteArray) (at_ : Int) (hs : s.size ≤ 9223372036854775807) (h0 : -9223372036854775808 ≤ at_) (h1 : at_ ≤ 9223372036854775807) : Calls Try.prog 5 #[.string s, .int .i64 at_] w fun e w' => e = .returned (takeV at_ (takeAt s at_)) ∧ w' = w := by
  by_cases ha : at_ < 0
  · unfold takeAt
    rw [if_pos ha]
    unfold takeV
    go_enter Try.func5, Try.ntmps5
    go_wp2
    exact bodyPost_ret (v := takeZ) (by simp [results, Try.results5, go_sem, takeZ]) rfl ⟨rfl, rfl⟩
  obtain ⟨k, rfl⟩ : ∃ k : Nat, at_ = (k : Int) := ⟨at_.toNat, by omega⟩
  have hw : IntKind.i64.wrap ((s.size : Int) - (k : Int)) = (s.size : Int) - (k : Int) := by rw [IntKind.wrap_i64]; omega
  rw [show takeAt s (k : Int) = takeN (s.data.toList.drop k) by unfold takeAt; rw [if_neg ha]; rfl]
  have HS := hid hs
  have HK := hid h1
  clear hs h0 ha h1
  go_enter Try.func5, Try.ntmps5
  go_wp2
  go_loop [7, 8, 9] (fun x p i => ∃ (j y q : Nat), j ≤ 10 ∧ i = .int .i64 j ∧ x = .int .u64 y ∧ p = .int .u64 q ∧ Hid (TkI s k j y q)) (fun _ _ i => 10 - (intOf i).toNat)
  case atStart => exact ⟨0, 0, 1, Nat.zero_le _, rfl, rfl, rfl, hid ⟨by omega, rfl, fun _ => ⟨by omega, rfl⟩⟩⟩
  case round =>
    obtain ⟨j, y, q, hj, rfl, rfl, rfl, HI⟩ := hrel
    by_cases hlt : j < 10
    · have zj : (j : Int) < 10 := by omega
      by_cases hks : k < s.size
      · have z2 : (k : Int) < (s.size : Int) := by omega
        by_cases hkj : k + j < s.size
        · have z3 : (j : Int) < (s.size : Int) - (k : Int) := by omega
          have kj1 : (k : Int) + (j : Int) < (s.size : Int) := by omega
          have kj0 : ((k : Int) + (j : Int)).toNat = k + j := by omega
          obtain ⟨b, hb⟩ : ∃ b, s[k + j] = b := ⟨_, rfl⟩
          have HB := hid b.toNat_lt
          have wk : IntKind.i64.wrap ((k : Int) + (j : Int)) = (k : Int) + (j : Int) := by rw [IntKind.wrap_i64]; have := HS.out; omega
          have HD3 := hid (HI.out.cons hkj hb)
          have wb : IntKind.u64.wrap (b.toNat : Int) = (b.toNat : Int) := by rw [IntKind.wrap_u64]; have := HB.out; omega
          obtain ⟨d, hd⟩ : ∃ d : Nat, d = b.toNat % 128 := ⟨_, rfl⟩
          have wt : ((b.toNat : Int)).tmod 128 = (d : Int) := by rw [Int.tmod_eq_emod_of_nonneg (by omega)]; omega
          have wt2 : (b.toNat : Int) % 128 = (d : Int) := by omega
          have HDD := hid hd
          clear hd
          go_upto_region 9 with fail
          clear kj0 kj1 z3 z2 zj hb
          by_cases h9 : j = 9
          · by_cases h1 : 1 < d
            · have z9 : (j : Int) = 9 := by omega
              have z1 : (1 : Int) < (d : Int) := by omega
              have HE : Hid (takeN (s.data.toList.drop k) = none) := hid (by
                rw [HD3.out]
                by_cases h128 : b.toNat < 128
                · rw [takeG_last hlt h128, if_neg]
                  unfold lastB
                  rw [if_pos h9, decide_eq_true_eq]
                  have := HDD.out
                  omega
                · rw [takeG_more hlt h128, h9, takeG_ten])
              clear HI
              go_wp2
              exact bodyPost_ret (v := takeZ) (by simp [results, Try.results5, go_sem, takeZ]) rfl ⟨by rw [HE.out]; rfl, rfl⟩
            · have z9 : (j : Int) = 9 := by omega
              have z1 : ¬ (1 : Int) < (d : Int) := by omega
              have h89 : Hid (j ≤ 8 ∨ d ≤ 1) := hid (by omega)
              go_upto_region 11 with fail
              clear z9 z1 h9 h1
              have HSU := hid (HI.out.sum hlt (d := d) (by have := HDD.out; omega) h89.out)
              have HPW : Hid (∃ q2 : Nat, IntKind.u64.wrap ((q : Int) * 128) = (q2 : Int) ∧ (j ≤ 8 → q2 = 128 ^ (j + 1))) := hid (by
                by_cases h8 : j ≤ 8
                · exact ⟨_, HI.out.pow h8, fun _ => rfl⟩
                · obtain ⟨o, e, _⟩ := mul_nat ((q : Int) * 128)
                  exact ⟨o, e, fun h => absurd h h8⟩)
              obtain ⟨q2, hq2, HQ2'⟩ := HPW.out
              have HQ2 := hid HQ2'
              obtain ⟨o, ho⟩ : ∃ o : Nat, o = y + d * 128 ^ j := ⟨_, rfl⟩
              have hx := HSU.out.1
              rw [← ho] at hx
              have HOO := hid ho
              clear HPW HQ2' ho HI
              go_upto_region 13 with fail
              clear hx hq2
              by_cases h128 : b.toNat < 128
              · have z128 : (b.toNat : Int) < 128 := by omega
                have HL := hid (takeG_last (l := s.data.toList.drop (k + (j + 1))) (x := y) hlt h128)
                have HDb : Hid (d = b.toNat) := hid (by have := HDD.out; omega)
                have wk1 : IntKind.i64.wrap ((k : Int) + (j : Int) + 1) = (k : Int) + (j : Int) + 1 := by rw [IntKind.wrap_i64]; have := HS.out; omega
                clear h128
                by_cases hz : d = 0 ∧ 0 < j
                · have zd : (d : Int) = 0 := by omega
                  have zp : (0 : Int) < (j : Int) := by omega
                  have HN : Hid (lastB b.toNat j = false) := hid (by
                    exact lastB_no (by have := HDb.out; omega) hz.2)
                  go_wp2
                  exact bodyPost_ret (v := takeZ) (by simp [results, Try.results5, go_sem, takeZ]) rfl ⟨by rw [HD3.out, HL.out, HN.out]; rfl, rfl⟩
                · have HN : Hid (lastB b.toNat j = true) := hid (by
                    exact lastB_yes (by have := HDb.out; omega) (by have := HDb.out; have := h89.out; omega))
                  by_cases hd0 : d = 0
                  · have zd : (d : Int) = 0 := by omega
                    have zp : ¬ (0 : Int) < (j : Int) := by omega
                    have zp2 : ¬ 0 < j := by omega
                    have HZ := hid hz
                    clear hz
                    go_wp2
                    exact bodyPost_ret (v := .tuple #[.int .u64 (o : Int), .int .i64 ((k : Int) + (j : Int) + 1), .bool true]) (by simp [results, Try.results5, go_sem]) rfl ⟨by rw [HD3.out, HL.out, HN.out]; exact ret_take (by rw [HOO.out, HDb.out]) (by omega), rfl⟩
                  · have zd : ¬ (d : Int) = 0 := by omega
                    go_wp2
                    exact bodyPost_ret (v := .tuple #[.int .u64 (o : Int), .int .i64 ((k : Int) + (j : Int) + 1), .bool true]) (by simp [results, Try.results5, go_sem]) rfl ⟨by rw [HD3.out, HL.out, HN.out]; exact ret_take (by rw [HOO.out, HDb.out]) (by omega), rfl⟩
              · have z128 : ¬ (b.toNat : Int) < 128 := by omega
                have HL := hid (takeG_more (l := s.data.toList.drop (k + (j + 1))) (x := y) hlt h128)
                clear h128
                go_wp2
                go_round
                case rel =>
                  refine ⟨j + 1, o, q2, by omega, by push_cast; rfl, rfl, rfl, hid ⟨by rw [HOO.out]; exact HSU.out.2.1, ?_, fun h => ⟨by rw [HOO.out]; exact HSU.out.2.2 (by omega), HQ2.out (by omega)⟩⟩⟩
                  rw [HD3.out, HL.out, HOO.out, HDD.out]
                case measure => simp [intOf]; omega
          · have z9 : ¬ (j : Int) = 9 := by omega
            have h89 : Hid (j ≤ 8 ∨ d ≤ 1) := hid (by omega)
            go_upto_region 11 with fail
            clear z9 h9
            have HSU := hid (HI.out.sum hlt (d := d) (by have := HDD.out; omega) h89.out)
            have HPW : Hid (∃ q2 : Nat, IntKind.u64.wrap ((q : Int) * 128) = (q2 : Int) ∧ (j ≤ 8 → q2 = 128 ^ (j + 1))) := hid (by
              by_cases h8 : j ≤ 8
              · exact ⟨_, HI.out.pow h8, fun _ => rfl⟩
              · obtain ⟨o, e, _⟩ := mul_nat ((q : Int) * 128)
                exact ⟨o, e, fun h => absurd h h8⟩)
            obtain ⟨q2, hq2, HQ2'⟩ := HPW.out
            have HQ2 := hid HQ2'
            obtain ⟨o, ho⟩ : ∃ o : Nat, o = y + d * 128 ^ j := ⟨_, rfl⟩
            have hx := HSU.out.1
            rw [← ho] at hx
            have HOO := hid ho
            clear HPW HQ2' ho HI
            go_upto_region 13 with fail
            clear hx hq2
            by_cases h128 : b.toNat < 128
            · have z128 : (b.toNat : Int) < 128 := by omega
              have HL := hid (takeG_last (l := s.data.toList.drop (k + (j + 1))) (x := y) hlt h128)
              have HDb : Hid (d = b.toNat) := hid (by have := HDD.out; omega)
              have wk1 : IntKind.i64.wrap ((k : Int) + (j : Int) + 1) = (k : Int) + (j : Int) + 1 := by rw [IntKind.wrap_i64]; have := HS.out; omega
              clear h128
              by_cases hz : d = 0 ∧ 0 < j
              · have zd : (d : Int) = 0 := by omega
                have zp : (0 : Int) < (j : Int) := by omega
                have HN : Hid (lastB b.toNat j = false) := hid (by
                  exact lastB_no (by have := HDb.out; omega) hz.2)
                go_wp2
                exact bodyPost_ret (v := takeZ) (by simp [results, Try.results5, go_sem, takeZ]) rfl ⟨by rw [HD3.out, HL.out, HN.out]; rfl, rfl⟩
              · have HN : Hid (lastB b.toNat j = true) := hid (by
                  exact lastB_yes (by have := HDb.out; omega) (by have := HDb.out; have := h89.out; omega))
                by_cases hd0 : d = 0
                · have zd : (d : Int) = 0 := by omega
                  have zp : ¬ (0 : Int) < (j : Int) := by omega
                  have zp2 : ¬ 0 < j := by omega
                  have HZ := hid hz
                  clear hz
                  go_wp2
                  exact bodyPost_ret (v := .tuple #[.int .u64 (o : Int), .int .i64 ((k : Int) + (j : Int) + 1), .bool true]) (by simp [results, Try.results5, go_sem]) rfl ⟨by rw [HD3.out, HL.out, HN.out]; exact ret_take (by rw [HOO.out, HDb.out]) (by omega), rfl⟩
                · have zd : ¬ (d : Int) = 0 := by omega
                  go_wp2
                  exact bodyPost_ret (v := .tuple #[.int .u64 (o : Int), .int .i64 ((k : Int) + (j : Int) + 1), .bool true]) (by simp [results, Try.results5, go_sem]) rfl ⟨by rw [HD3.out, HL.out, HN.out]; exact ret_take (by rw [HOO.out, HDb.out]) (by omega), rfl⟩
            · have z128 : ¬ (b.toNat : Int) < 128 := by omega
              have HL := hid (takeG_more (l := s.data.toList.drop (k + (j + 1))) (x := y) hlt h128)
              clear h128
              go_wp2
              go_round
              case rel =>
                refine ⟨j + 1, o, q2, by omega, by push_cast; rfl, rfl, rfl, hid ⟨by rw [HOO.out]; exact HSU.out.2.1, ?_, fun h => ⟨by rw [HOO.out]; exact HSU.out.2.2 (by omega), HQ2.out (by omega)⟩⟩⟩
                rw [HD3.out, HL.out, HOO.out, HDD.out]
              case measure => simp [intOf]; omega
        · have z3 : ¬ (j : Int) < (s.size : Int) - (k : Int) := by omega
          have HE := hid (HI.out.fin (Or.inr (by omega)))
          clear HI
          go_wp2
          exact bodyPost_ret (v := takeZ) (by simp [results, Try.results5, go_sem, takeZ]) rfl ⟨by rw [HE.out]; rfl, rfl⟩
      · have z2 : ¬ (k : Int) < (s.size : Int) := by omega
        have HE := hid (HI.out.fin (Or.inr (by omega)))
        clear HI
        go_wp2
        exact bodyPost_ret (v := takeZ) (by simp [results, Try.results5, go_sem, takeZ]) rfl ⟨by rw [HE.out]; rfl, rfl⟩
    · have zj : ¬ (j : Int) < 10 := by omega
      have HE := hid (HI.out.fin (Or.inl (by omega)))
      clear HI
      go_wp2
      exact bodyPost_ret (v := takeZ) (by simp [results, Try.results5, go_sem, takeZ]) rfl ⟨by rw [HE.out]; rfl, rfl⟩
end Go.Proofs.Ytpefbmheblfbeaa.Sn
