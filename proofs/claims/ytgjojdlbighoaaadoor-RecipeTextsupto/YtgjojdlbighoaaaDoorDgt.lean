/- Numbers in digits, and texts cut at blanks, in plain words; no conditions but that numbers are of 64 bits. -/
import Derived.Test.YtgjojdlbighoaaaDoorThy
import Derived.Test.YtgjojdlbighoaaaDoorSht
import Derived.Lib.AtoiAllCases
namespace Go.Proofs.YtgjojdlbighoaaaDoor
open Go.RowKit Go.Sort
set_option linter.unusedVariables false

def itoaB (a : Int) : ByteArray := ⟨(Lib.itoa a).toArray⟩
theorem nDigits_le : ∀ n, ∀ u, u < 10 ^ (n + 1) → Lib.nDigits u ≤ n + 1 := by
  intro n
  induction n with
  | zero => intro u hu; rw [Lib.nDigits_small (by omega)]; omega
  | succ n ih =>
    intro u hu
    by_cases h : u < 10
    · rw [Lib.nDigits_small h]; omega
    · rw [Lib.nDigits_big h]
      have := ih (u / 10) (by rw [Nat.pow_succ] at hu; omega)
      omega
theorem itoaB_size (a : Int) (h : I64 a) : (itoaB a).size ≤ 21 := by
  show (Lib.itoa a).toArray.size ≤ 21
  obtain ⟨h0, h1⟩ := h
  unfold Lib.itoa
  split
  · have := nDigits_le 19 a.natAbs (by omega)
    rw [List.size_toArray, List.length_cons, Lib.decDigits_length]
    omega
  · have := nDigits_le 19 a.toNat (by omega)
    rw [List.size_toArray, Lib.decDigits_length]
    omega
def isDig (c : UInt8) : Prop := 48 ≤ c.toNat ∧ c.toNat ≤ 57
theorem ofNat_toNat (n : Nat) (h : n ≤ 255) : (UInt8.ofNat n).toNat = n := by
  simp
  omega
theorem dig_dec : ∀ (u : Nat), ∀ c ∈ Lib.decDigits u, isDig c := by
  intro u
  induction u using Nat.strongRecOn with
  | _ u ih =>
    intro c hc
    rw [Lib.decDigits] at hc
    split at hc
    · rename_i h
      rw [List.mem_singleton] at hc
      subst hc
      unfold isDig
      rw [ofNat_toNat _ (by omega)]
      omega
    · rename_i h
      rcases List.mem_append.1 hc with hc | hc
      · exact ih (u / 10) (by omega) c hc
      · rw [List.mem_singleton] at hc
        subst hc
        unfold isDig
        rw [ofNat_toNat _ (by omega)]
        omega
theorem dec_ne (u : Nat) : Lib.decDigits u ≠ [] := by
  rw [Lib.decDigits]
  split <;> simp
theorem parse_dec : ∀ (u : Nat) (r : List UInt8), u ≤ 9223372036854775808 → Lib.parseUint10 0 (Lib.decDigits u ++ r) = Lib.parseUint10 u r := by
  intro u
  induction u using Nat.strongRecOn with
  | _ u ih =>
    intro r hu
    rw [Lib.decDigits]
    split
    · rename_i h
      rw [List.singleton_append, Lib.parseUint10, ofNat_toNat _ (by omega), if_pos (by omega), if_neg (by omega), if_neg (by omega)]
      congr 1
      omega
    · rename_i h
      rw [List.append_assoc, ih (u / 10) (by omega) _ (by omega), List.singleton_append, Lib.parseUint10, ofNat_toNat _ (by omega), if_pos (by omega), if_neg (by omega), if_neg (by omega)]
      congr 1
      omega
theorem mag_dec (u : Nat) (hu : u ≤ 9223372036854775808) : Lib.parseMag (Lib.decDigits u) = .ok u := by
  unfold Lib.parseMag
  rw [if_neg (dec_ne u)]
  have := parse_dec u [] hu
  rw [List.append_nil] at this
  rw [this]
  rfl
theorem atoi_itoa (n : Int) (h : I64 n) : Lib.atoiAll (Lib.itoa n) = .ok n := by
  obtain ⟨h0, h1⟩ := h
  unfold Lib.itoa
  split
  · rename_i hn
    rw [Lib.atoiAll_minus, mag_dec _ (by omega)]
    show (if 9223372036854775808 < n.natAbs then Lib.NumEnd.range else Lib.NumEnd.ok (-(n.natAbs : Int))) = _
    rw [if_neg (by omega)]
    congr 1
    omega
  · rename_i hn
    cases hd : Lib.decDigits n.toNat with
    | nil => exact absurd hd (dec_ne _)
    | cons c r =>
      have hc := dig_dec n.toNat c (by rw [hd]; simp)
      unfold isDig at hc
      rw [Lib.atoiAll_plain c r (by omega) (by omega), ← hd, mag_dec _ (by omega)]
      show (if 9223372036854775808 ≤ n.toNat then Lib.NumEnd.range else Lib.NumEnd.ok (n.toNat : Int)) = _
      rw [if_neg (by omega)]
      congr 1
      omega
theorem itoa_inj {m n : Int} (hm : I64 m) (hn : I64 n) (h : itoaB m = itoaB n) : m = n := by
  have h2 : Lib.itoa m = Lib.itoa n := by
    have h := congrArg (fun b : ByteArray => b.data.toList) h
    simpa [itoaB] using h
  have h3 := atoi_itoa m hm
  rw [h2, atoi_itoa n hn] at h3
  injection h3 with h3
  exact h3.symm
def noSp (l : List UInt8) : Prop := ∀ c ∈ l, c ≠ 32
theorem index_sp (a b : List UInt8) (h : noSp a) : Lib.index (a ++ 32 :: b) [32] = a.length := by
  induction a with
  | nil => simp [Lib.index, List.isPrefixOf]
  | cons c a ih =>
    have hc : c ≠ 32 := h c (by simp)
    have ih := ih (fun d hd => h d (by simp [hd]))
    rw [List.cons_append, Lib.index, ih]
    have : (([32] : List UInt8).isPrefixOf (c :: (a ++ 32 :: b))) = false := by simp [List.isPrefixOf, Ne.symm hc]
    rw [this]
    simp
theorem index_no (a : List UInt8) (h : noSp a) : Lib.index a [32] = -1 := by
  induction a with
  | nil => rfl
  | cons c a ih =>
    have hc : c ≠ 32 := h c (by simp)
    have ih := ih (fun d hd => h d (by simp [hd]))
    rw [Lib.index, ih]
    have : (([32] : List UInt8).isPrefixOf (c :: a)) = false := by simp [List.isPrefixOf, Ne.symm hc]
    rw [this]
    rfl
theorem cut_sp (a b : List UInt8) (h : noSp a) : Lib.cut (a ++ 32 :: b) [32] = (a, b, true) := by
  unfold Lib.cut
  rw [index_sp a b h, if_pos (by omega)]
  simp
theorem cut_no (a : List UInt8) (h : noSp a) : Lib.cut a [32] = (a, [], false) := by
  unfold Lib.cut
  rw [index_no a h, if_neg (by decide)]
theorem noSp_itoa (n : Int) : noSp (Lib.itoa n) := by
  intro c hc
  unfold Lib.itoa at hc
  split at hc
  · rcases List.mem_cons.1 hc with rfl | hc
    · decide
    · have := dig_dec _ c hc
      unfold isDig at this
      rintro rfl
      revert this
      decide
  · have := dig_dec _ c hc
    unfold isDig at this
    rintro rfl
    revert this
    decide
def kindI (l : List UInt8) : Int :=
  if l = [110, 111, 110, 101] then 0 else if l = [108, 111, 97, 100] then 1 else if l = [112, 97, 110, 105, 99] then 2 else if l = [99, 97, 110, 99, 101, 108] then 3 else if l = [98, 117, 115, 121] then 4 else if l = [97, 98, 111, 114, 116] then 5 else -1
def dstep (a : Nat) (c : UInt8) : Nat := if c = 45 then a else a * 10 + (c.toNat - 48)
def dv (l : List UInt8) : Nat := l.foldl dstep 0
theorem dv_snoc (l : List UInt8) (c : UInt8) : dv (l ++ [c]) = dstep (dv l) c := by simp [dv, List.foldl_append]
theorem dv_dec : ∀ u : Nat, dv (Lib.decDigits u) = u := by
  intro u
  induction u using Nat.strongRecOn with
  | _ u ih =>
    have hne : ∀ n : Nat, n ≤ 9 → UInt8.ofNat (48 + n) ≠ 45 := fun n hn h => by
      have := congrArg UInt8.toNat h
      rw [ofNat_toNat _ (by omega)] at this
      have h45 : (45 : UInt8).toNat = 45 := rfl
      omega
    rw [Lib.decDigits]
    split
    · rename_i h
      have := dv_snoc [] (UInt8.ofNat (48 + u))
      rw [List.nil_append] at this
      rw [this]
      unfold dstep
      rw [if_neg (hne u (by omega)), ofNat_toNat _ (by omega)]
      show 0 * 10 + _ = _
      omega
    · rename_i h
      rw [dv_snoc, ih (u / 10) (by omega)]
      unfold dstep
      rw [if_neg (hne (u % 10) (by omega)), ofNat_toNat _ (by omega)]
      omega
theorem dv_itoa (m : Int) : dv (Lib.itoa m) = m.natAbs := by
  unfold Lib.itoa
  split
  · have : dv (45 :: Lib.decDigits m.natAbs) = dv (Lib.decDigits m.natAbs) := rfl
    rw [this, dv_dec]
  · rw [dv_dec]
    omega
theorem fold_ge (l : List UInt8) : ∀ a : Nat, a ≤ l.foldl dstep a := by
  induction l with
  | nil => intro a; exact Nat.le_refl _
  | cons c l ih =>
    intro a
    have h1 : a ≤ dstep a c := by unfold dstep; split <;> omega
    exact Nat.le_trans h1 (ih (dstep a c))
theorem dv_take (l : List UInt8) (p : Nat) : dv (l.take p) ≤ dv l := by
  have h : dv l = (l.drop p).foldl dstep (dv (l.take p)) := by
    unfold dv
    rw [← List.foldl_append, List.take_append_drop]
  rw [h]
  exact fold_ge _ _
theorem char_itoa (m : Int) (p : Nat) (h : p < (Lib.itoa m).length) : isDig (Lib.itoa m)[p] ∨ (p = 0 ∧ (Lib.itoa m)[p] = 45 ∧ m < 0) := by
  by_cases hm : m < 0
  · have he : Lib.itoa m = 45 :: Lib.decDigits m.natAbs := by unfold Lib.itoa; rw [if_pos hm]
    simp only [he] at h ⊢
    cases p with
    | zero => exact Or.inr ⟨rfl, rfl, hm⟩
    | succ p => exact Or.inl (dig_dec _ _ (by simp only [List.getElem_cons_succ]; exact List.getElem_mem _))
  · have he : Lib.itoa m = Lib.decDigits m.toNat := by unfold Lib.itoa; rw [if_neg hm]
    simp only [he] at h ⊢
    exact Or.inl (dig_dec _ _ (List.getElem_mem _))
theorem itoa_first (m : Int) (h0 : 0 < (Lib.itoa m).length) : (Lib.itoa m)[0] = 45 ↔ m < 0 := by
  constructor
  · intro h
    rcases char_itoa m 0 h0 with hd | ⟨_, _, hm⟩
    · unfold isDig at hd
      rw [h] at hd
      exact absurd hd (by decide)
    · exact hm
  · intro hm
    have he : Lib.itoa m = 45 :: Lib.decDigits m.natAbs := by unfold Lib.itoa; rw [if_pos hm]
    simp only [he]
    rfl
theorem itoa_len (m : Int) : 0 < (Lib.itoa m).length := by
  unfold Lib.itoa
  split
  · simp
  · have := dec_ne m.toNat
    exact List.length_pos_iff.2 this
theorem take_snocB (s : ByteArray) (p : Nat) (h : p < s.size) : s.data.toList.take (p + 1) = s.data.toList.take p ++ [s[p]] := by
  rw [List.take_succ_eq_append_getElem (by simpa using h)]; rfl
theorem list_of (s : ByteArray) (m : Int) (hs : itoaB m = s) : s.data.toList = Lib.itoa m := by rw [← hs]; simp [itoaB]
end Go.Proofs.YtgjojdlbighoaaaDoor
