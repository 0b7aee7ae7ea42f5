/- Numbers told by the document, of either sign; the conditions are the form's. -/
import Derived.Test.YtlffleigahfdlaaGreatDoorFfb
import Derived.Deep.CutRange
import Derived.Deep.CutBlock
namespace Go.Proofs.YtlffleigahfdlaaGreatDoor.Tr
open Go.RowKit Go.Sort Go.Shelf Go.Maps Go.ChangeMaps
open Go.Proofs.YtlffleigahfdlaaGreatDoor.Kt (Gr gr_grow textB itoaB byt conv1 dec_last dec_step)
set_option linter.unusedVariables false
set_option linter.unusedSimpArgs false
theorem dec_len (n : Nat) (h : n ≤ 9223372036854775808) : (Lib.decDigits n).length ≤ 20 := by
  rw [Lib.decDigits_length]
  exact Lib.nDigits_le20 n (by omega)
theorem qr (X : Int) : (X.tmod 10).natAbs = X.natAbs % 10 ∧ (X.tdiv 10).natAbs = X.natAbs / 10 ∧ (0 ≤ X → 0 ≤ X.tmod 10) ∧ (X ≤ 0 → X.tmod 10 ≤ 0) := by
  refine ⟨?_, ?_, ?_, ?_⟩
  · rw [Int.natAbs_tmod]; rfl
  · rw [Int.natAbs_tdiv]; rfl
  · exact fun h => Int.tmod_nonneg _ h
  · intro h
    rcases Int.eq_nat_or_neg X with ⟨k, rfl | rfl⟩
    · have : k = 0 := by omega
      subst this; decide
    · rw [Int.neg_tmod]
      have := Int.tmod_nonneg (a := (k : Int)) 10 (by omega)
      omega
theorem last_dig {m : Nat} {D Q C : Int} (h1 : D.natAbs = m % 10) (h2 : Q.natAbs = m / 10) (h0 : Q = 0) (hC : C = 48 + (D.natAbs : Int)) : Lib.decDigits m = [byt C] := by
  have : m < 10 := by omega
  rw [dec_last m this, hC, h1]
  congr 3
  omega
theorem more_dig {m : Nat} {D Q C : Int} (h1 : D.natAbs = m % 10) (h2 : Q.natAbs = m / 10) (h0 : ¬ Q = 0) (hC : C = 48 + (D.natAbs : Int)) : Lib.decDigits m = Lib.decDigits Q.natAbs ++ [byt C] := by
  have : ¬ m < 10 := by omega
  rw [dec_step m this, hC, h1, h2]
  rfl
theorem ret_s {a : ByteArray} {l : List UInt8} (h : l = a.data.toList) : Ending.returned (.string a) = .returned (.string ⟨l.toArray⟩) := by
  rw [h]
set_option maxHeartbeats 2000000 in
theorem rdigits_ (n : Int) (h : B64 n) (w : World) :
    Calls Tryz.prog 48 #[.int .i64 n] w fun e w' => e = .returned (.string ⟨(Lib.itoa n).toArray⟩) ∧ Gr w w' := by
  have HN := hid h
  have HZ : Hid ((Lib.decDigits n.natAbs).length ≤ 20) := dec_len n.natAbs (by unfold B64 at h; omega)
  have HI : Hid (Lib.itoa n = if n < 0 then 45 :: Lib.decDigits n.natAbs else Lib.decDigits n.natAbs) := hid (by
    unfold Lib.itoa
    by_cases h0 : n < 0
    · rw [if_pos h0, if_pos h0]
    · rw [if_neg h0, if_neg h0, show n.toNat = n.natAbs by omega])
  clear h
  go_enter Tryz.func48, Tryz.ntmps48
  go_wp2
  go_loopw [4, 3] (fun v t wr => ∃ (X : Int) (y : ByteArray), v = .int .i64 X ∧ t = .string y ∧ Hid (X.natAbs ≤ n.natAbs ∧ Lib.decDigits n.natAbs = Lib.decDigits X.natAbs ++ y.data.toList) ∧ Gr w wr) (fun v _ _ => (intOf v).natAbs)
  case atStart => exact ⟨n, ⟨#[]⟩, rfl, rfl, ⟨Nat.le_refl _, by simp⟩, Gr.refl _⟩
  case round =>
    obtain ⟨X, y, rfl, rfl, HD, G⟩ := hrel
    have hy : y.size ≤ 20 := by
      have h1 := congrArg List.length HD.out.2
      rw [List.length_append] at h1
      have h2 : y.size = y.data.toList.length := rfl
      have := HZ.out
      omega
    obtain ⟨q1, q2, q3, q4⟩ := qr X
    obtain ⟨D, hD⟩ : ∃ D, X.tmod 10 = D := ⟨_, rfl⟩
    obtain ⟨Q, hQ⟩ : ∃ Q, X.tdiv 10 = Q := ⟨_, rfl⟩
    rw [hD] at q1 q3 q4
    rw [hQ] at q2
    have HQ := hid (And.intro q1 (And.intro q2 (And.intro q3 q4)))
    have HY := hid hy
    clear q1 q2 q3 q4 hy
    have hd9 : D.natAbs ≤ 9 := by have := HQ.out.1; omega
    by_cases hneg : D < 0
    · obtain ⟨E, hE⟩ : ∃ E, -D = E := ⟨_, rfl⟩
      have hwE : IntKind.i64.wrap E = E := by rw [IntKind.wrap_i64]; omega
      obtain ⟨C, hC⟩ : ∃ C, 48 + E = C := ⟨_, rfl⟩
      have c0 : C = 48 + (D.natAbs : Int) := by omega
      have c1 : 0 ≤ C := by omega
      have c2 : C ≤ 255 := by omega
      have hw2 : IntKind.u8.wrap C = C := by rw [IntKind.wrap_u8]; omega
      have hcv := conv1 (wr.alloc (.cells #[.int .u8 C] 5)) wr.heap.size 1 C ⟨c1, c2⟩ (by simp)
      have had : ∀ w, (Op.stringOp .add ⟨#[byt C]⟩ y).run Tryz.prog w = .ok (.string (⟨#[byt C]⟩ ++ y)) w := fun w => run_string_add_sum w _ _ (by have : (ByteArray.mk #[byt C]).size = 1 := rfl; have := HY.out; omega)
      have HC := hid c0
      have hw1 : IntKind.i64.wrap C = C := by rw [IntKind.wrap_i64]; omega
      have hwq : IntKind.i64.wrap Q = Q := by rw [IntKind.wrap_i64]; have := HQ.out.2.1; have := HD.out.1; have := HN.out; unfold B64 at this; omega
      clear c0 c1 c2 hd9
      by_cases hq0 : Q = 0
      · have HE : Hid (Lib.decDigits n.natAbs = (⟨#[byt C]⟩ ++ y : ByteArray).data.toList) := hid (by rw [HD.out.2, last_dig HQ.out.1 HQ.out.2.1 hq0 HC.out]; simp [ByteArray.data_append])
        have hz : (Q == 0) = true := by simp [hq0]
        clear hq0
        go_upto_region 8 with fail
        have hzs : (⟨#[byt C]⟩ ++ y : ByteArray).size ≤ 30 := by rw [ByteArray.size_append]; have : (ByteArray.mk #[byt C]).size = 1 := rfl; have := HY.out; omega
        clear hz hwq hw1 hcv had hw2 hC hD hQ
        generalize (⟨#[byt C]⟩ ++ y : ByteArray) = Y at *
        by_cases hn : n < 0
        · have hadd : ∀ w, (Op.stringOp .add ⟨#[45]⟩ Y).run Tryz.prog w = .ok (.string (⟨#[45]⟩ ++ Y)) w := fun w => run_string_add_sum w _ _ (by have : (ByteArray.mk #[45]).size = 1 := rfl; omega)
          have HR : Hid (Lib.itoa n = 45 :: Y.data.toList) := hid (by rw [HI.out, if_pos hn, HE.out])
          clear hzs
          go_wp2
          go_ret
          exact ⟨ret_s (by rw [HR.out]; simp [ByteArray.data_append]), G.alloc _⟩
        · have HR : Hid (Lib.itoa n = Y.data.toList) := hid (by rw [HI.out, if_neg hn, HE.out])
          clear hzs
          go_wp2
          go_ret
          exact ⟨ret_s (by rw [HR.out]), G.alloc _⟩
      · have HE : Hid (Lib.decDigits n.natAbs = Lib.decDigits Q.natAbs ++ (⟨#[byt C]⟩ ++ y : ByteArray).data.toList) := hid (by rw [HD.out.2, more_dig HQ.out.1 HQ.out.2.1 hq0 HC.out]; simp [ByteArray.data_append])
        have hz : (Q == 0) = false := by simp [hq0]
        have HQ0 := hid hq0
        clear hq0
        go_wp2_with fail
        go_roundw
        case rel => exact ⟨Q, _, rfl, rfl, ⟨by have := HQ.out.2.1; have := HD.out.1; omega, HE.out⟩, G.alloc _⟩
        case measure => simp only [intOf, hwq]; have := HQ.out.2.1; have := HQ0.out; omega
    · obtain ⟨C, hC⟩ : ∃ C, 48 + D = C := ⟨_, rfl⟩
      have c0 : C = 48 + (D.natAbs : Int) := by omega
      have c1 : 0 ≤ C := by omega
      have c2 : C ≤ 255 := by omega
      have hw2 : IntKind.u8.wrap C = C := by rw [IntKind.wrap_u8]; omega
      have hcv := conv1 (wr.alloc (.cells #[.int .u8 C] 5)) wr.heap.size 1 C ⟨c1, c2⟩ (by simp)
      have had : ∀ w, (Op.stringOp .add ⟨#[byt C]⟩ y).run Tryz.prog w = .ok (.string (⟨#[byt C]⟩ ++ y)) w := fun w => run_string_add_sum w _ _ (by have : (ByteArray.mk #[byt C]).size = 1 := rfl; have := HY.out; omega)
      have HC := hid c0
      have hw1 : IntKind.i64.wrap C = C := by rw [IntKind.wrap_i64]; omega
      have hwq : IntKind.i64.wrap Q = Q := by rw [IntKind.wrap_i64]; have := HQ.out.2.1; have := HD.out.1; have := HN.out; unfold B64 at this; omega
      clear c0 c1 c2 hd9
      by_cases hq0 : Q = 0
      · have HE : Hid (Lib.decDigits n.natAbs = (⟨#[byt C]⟩ ++ y : ByteArray).data.toList) := hid (by rw [HD.out.2, last_dig HQ.out.1 HQ.out.2.1 hq0 HC.out]; simp [ByteArray.data_append])
        have hz : (Q == 0) = true := by simp [hq0]
        clear hq0
        go_upto_region 8 with fail
        have hzs : (⟨#[byt C]⟩ ++ y : ByteArray).size ≤ 30 := by rw [ByteArray.size_append]; have : (ByteArray.mk #[byt C]).size = 1 := rfl; have := HY.out; omega
        clear hz hwq hw1 hcv had hw2 hC hD hQ
        generalize (⟨#[byt C]⟩ ++ y : ByteArray) = Y at *
        by_cases hn : n < 0
        · have hadd : ∀ w, (Op.stringOp .add ⟨#[45]⟩ Y).run Tryz.prog w = .ok (.string (⟨#[45]⟩ ++ Y)) w := fun w => run_string_add_sum w _ _ (by have : (ByteArray.mk #[45]).size = 1 := rfl; omega)
          have HR : Hid (Lib.itoa n = 45 :: Y.data.toList) := hid (by rw [HI.out, if_pos hn, HE.out])
          clear hzs
          go_wp2
          go_ret
          exact ⟨ret_s (by rw [HR.out]; simp [ByteArray.data_append]), G.alloc _⟩
        · have HR : Hid (Lib.itoa n = Y.data.toList) := hid (by rw [HI.out, if_neg hn, HE.out])
          clear hzs
          go_wp2
          go_ret
          exact ⟨ret_s (by rw [HR.out]), G.alloc _⟩
      · have HE : Hid (Lib.decDigits n.natAbs = Lib.decDigits Q.natAbs ++ (⟨#[byt C]⟩ ++ y : ByteArray).data.toList) := hid (by rw [HD.out.2, more_dig HQ.out.1 HQ.out.2.1 hq0 HC.out]; simp [ByteArray.data_append])
        have hz : (Q == 0) = false := by simp [hq0]
        have HQ0 := hid hq0
        clear hq0
        go_wp2_with fail
        go_roundw
        case rel => exact ⟨Q, _, rfl, rfl, ⟨by have := HQ.out.2.1; have := HD.out.1; omega, HE.out⟩, G.alloc _⟩
        case measure => simp only [intOf, hwq]; have := HQ.out.2.1; have := HQ0.out; omega
end Go.Proofs.YtlffleigahfdlaaGreatDoor.Tr
