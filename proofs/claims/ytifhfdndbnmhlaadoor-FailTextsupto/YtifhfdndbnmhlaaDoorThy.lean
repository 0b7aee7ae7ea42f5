/- Texts of failures in plain words: a number is read back from its digits, and a failure from its text; no conditions but that numbers are of 64 bits. -/
import Derived.Test.YtifhfdndbnmhlaaDoorNum
import Derived.Lib.AtoiAllCases
namespace Go.Proofs.YtifhfdndbnmhlaaDoor
open Go.RowKit Go.Sort
set_option linter.unusedVariables false

def isDig (c : UInt8) : Prop := 48 ≤ c.toNat ∧ c.toNat ≤ 57
theorem ofNat_toNat (n : Nat) (h : n ≤ 255) : (UInt8.ofNat n).toNat = n := by
  simp
  omega
theorem dig_dec : ∀ (u : Nat), ∀ c ∈ Lib.decDigits u, isDig c := by
  intro u
  induction u using Nat.strongRecOn with
  | _ u ih =>
    intro c hc
    rw [Lib.decDigits] at hc
    split at hc
    · rename_i h
      rw [List.mem_singleton] at hc
      subst hc
      unfold isDig
      rw [ofNat_toNat _ (by omega)]
      omega
    · rename_i h
      rcases List.mem_append.1 hc with hc | hc
      · exact ih (u / 10) (by omega) c hc
      · rw [List.mem_singleton] at hc
        subst hc
        unfold isDig
        rw [ofNat_toNat _ (by omega)]
        omega
theorem dec_ne (u : Nat) : Lib.decDigits u ≠ [] := by
  rw [Lib.decDigits]
  split <;> simp
theorem parse_dec : ∀ (u : Nat) (r : List UInt8), u ≤ 9223372036854775808 → Lib.parseUint10 0 (Lib.decDigits u ++ r) = Lib.parseUint10 u r := by
  intro u
  induction u using Nat.strongRecOn with
  | _ u ih =>
    intro r hu
    rw [Lib.decDigits]
    split
    · rename_i h
      rw [List.singleton_append, Lib.parseUint10, ofNat_toNat _ (by omega), if_pos (by omega), if_neg (by omega), if_neg (by omega)]
      congr 1
      omega
    · rename_i h
      rw [List.append_assoc, ih (u / 10) (by omega) _ (by omega), List.singleton_append, Lib.parseUint10, ofNat_toNat _ (by omega), if_pos (by omega), if_neg (by omega), if_neg (by omega)]
      congr 1
      omega
theorem mag_dec (u : Nat) (hu : u ≤ 9223372036854775808) : Lib.parseMag (Lib.decDigits u) = .ok u := by
  unfold Lib.parseMag
  rw [if_neg (dec_ne u)]
  have := parse_dec u [] hu
  rw [List.append_nil] at this
  rw [this]
  rfl
theorem atoi_itoa (n : Int) (h : I64 n) : Lib.atoiAll (Lib.itoa n) = .ok n := by
  obtain ⟨h0, h1⟩ := h
  unfold Lib.itoa
  split
  · rename_i hn
    rw [Lib.atoiAll_minus, mag_dec _ (by omega)]
    show (if 9223372036854775808 < n.natAbs then Lib.NumEnd.range else Lib.NumEnd.ok (-(n.natAbs : Int))) = _
    rw [if_neg (by omega)]
    congr 1
    omega
  · rename_i hn
    cases hd : Lib.decDigits n.toNat with
    | nil => exact absurd hd (dec_ne _)
    | cons c r =>
      have hc := dig_dec n.toNat c (by rw [hd]; simp)
      unfold isDig at hc
      rw [Lib.atoiAll_plain c r (by omega) (by omega), ← hd, mag_dec _ (by omega)]
      show (if 9223372036854775808 ≤ n.toNat then Lib.NumEnd.range else Lib.NumEnd.ok (n.toNat : Int)) = _
      rw [if_neg (by omega)]
      congr 1
      omega
def atoiV (l : List UInt8) : Int := match Lib.atoiAll l with | .ok v => v | .range => Lib.atoiSat l | _ => 0
theorem atoiV_itoa (n : Int) (h : I64 n) : atoiV (Lib.itoa n) = n := by unfold atoiV; rw [atoi_itoa n h]
theorem itoa_inj {m n : Int} (hm : I64 m) (hn : I64 n) (h : itoaB m = itoaB n) : m = n := by
  have h2 : Lib.itoa m = Lib.itoa n := by
    have h := congrArg (fun b : ByteArray => b.data.toList) h
    simpa [itoaB] using h
  have h3 := atoi_itoa m hm
  rw [h2, atoi_itoa n hn] at h3
  injection h3 with h3
  exact h3.symm
abbrev noSp (l : List UInt8) : Prop := ∀ c ∈ l, c ≠ 32
theorem index_sp (a b : List UInt8) (h : noSp a) : Lib.index (a ++ 32 :: b) [32] = a.length := by
  induction a with
  | nil => simp [Lib.index, List.isPrefixOf]
  | cons c a ih =>
    have hc : c ≠ 32 := h c (by simp)
    have ih := ih (fun d hd => h d (by simp [hd]))
    rw [List.cons_append, Lib.index, ih]
    have : (([32] : List UInt8).isPrefixOf (c :: (a ++ 32 :: b))) = false := by simp [List.isPrefixOf, Ne.symm hc]
    rw [this]
    simp
theorem index_no (a : List UInt8) (h : noSp a) : Lib.index a [32] = -1 := by
  induction a with
  | nil => rfl
  | cons c a ih =>
    have hc : c ≠ 32 := h c (by simp)
    have ih := ih (fun d hd => h d (by simp [hd]))
    rw [Lib.index, ih]
    have : (([32] : List UInt8).isPrefixOf (c :: a)) = false := by simp [List.isPrefixOf, Ne.symm hc]
    rw [this]
    rfl
theorem cut_sp (a b : List UInt8) (h : noSp a) : Lib.cut (a ++ 32 :: b) [32] = (a, b, true) := by
  unfold Lib.cut
  rw [index_sp a b h, if_pos (by omega)]
  simp
theorem cut_no (a : List UInt8) (h : noSp a) : Lib.cut a [32] = (a, [], false) := by
  unfold Lib.cut
  rw [index_no a h, if_neg (by decide)]
theorem noSp_itoa (n : Int) : noSp (Lib.itoa n) := by
  intro c hc
  unfold Lib.itoa at hc
  split at hc
  · rcases List.mem_cons.1 hc with rfl | hc
    · decide
    · have := dig_dec _ c hc
      unfold isDig at this
      rintro rfl
      revert this
      decide
  · have := dig_dec _ c hc
    unfold isDig at this
    rintro rfl
    revert this
    decide
def kindI (l : List UInt8) : Int :=
  if l = [110, 111, 110, 101] then 0 else if l = [108, 111, 97, 100] then 1 else if l = [112, 97, 110, 105, 99] then 2 else if l = [99, 97, 110, 99, 101, 108] then 3 else if l = [98, 117, 115, 121] then 4 else if l = [97, 98, 111, 114, 116] then 5 else -1
theorem word_cases (k : Int) : (k = 1 ∧ wordB k = wLoad) ∨ (k = 2 ∧ wordB k = wPanic) ∨ (k = 3 ∧ wordB k = wCancel) ∨ (k = 4 ∧ wordB k = wBusy) ∨ (k = 5 ∧ wordB k = wAbort) ∨ (¬ (1 ≤ k ∧ k ≤ 5) ∧ wordB k = wKind ++ itoaB k) := by
  unfold wordB
  by_cases h1 : k = 1
  · simp [h1]
  by_cases h2 : k = 2
  · simp [h2]
  by_cases h3 : k = 3
  · simp [h3]
  by_cases h4 : k = 4
  · simp [h4]
  by_cases h5 : k = 5
  · simp [h5]
  simp [h1, h2, h3, h4, h5]
  omega
theorem kind_list (k : Int) : (wKind ++ itoaB k).data.toList = 107 :: 105 :: 110 :: 100 :: Lib.itoa k := by
  rw [ByteArray.data_append]
  simp [itoaB]
theorem noSp_word (k : Int) : noSp (wordB k).data.toList := by
  rcases word_cases k with ⟨_, h⟩ | ⟨_, h⟩ | ⟨_, h⟩ | ⟨_, h⟩ | ⟨_, h⟩ | ⟨_, h⟩
  · rw [h]; decide
  · rw [h]; decide
  · rw [h]; decide
  · rw [h]; decide
  · rw [h]; decide
  · rw [h, kind_list]
    intro c hc
    simp only [List.mem_cons] at hc
    rcases hc with rfl | rfl | rfl | rfl | hc
    · decide
    · decide
    · decide
    · decide
    · exact noSp_itoa k c hc
theorem kind_word (k : Int) : kindI (wordB k).data.toList = if 1 ≤ k ∧ k ≤ 5 then k else -1 := by
  rcases word_cases k with ⟨rfl, h⟩ | ⟨rfl, h⟩ | ⟨rfl, h⟩ | ⟨rfl, h⟩ | ⟨rfl, h⟩ | ⟨hk, h⟩
  · rw [h]; decide
  · rw [h]; decide
  · rw [h]; decide
  · rw [h]; decide
  · rw [h]; decide
  · rw [h, kind_list, if_neg hk]
    simp [kindI]
abbrev F3t := Int × Int × Int
def readF (s : List UInt8) : F3t := (kindI (Lib.cut s [32]).1, atoiV (Lib.cut (Lib.cut s [32]).2.1 [32]).1, atoiV (Lib.cut (Lib.cut s [32]).2.1 [32]).2.1)
theorem text_list (k c r : Int) (hn : none3 k c r = false) : (textB k c r).data.toList = (wordB k).data.toList ++ 32 :: (Lib.itoa c ++ 32 :: Lib.itoa r) := by
  unfold textB
  rw [hn]
  simp only [Bool.false_eq_true, if_false, ByteArray.data_append, Array.toList_append]
  simp [itoaB, List.append_assoc]
theorem read_text (k c r : Int) (hc : I64 c) (hr : I64 r) (hn : none3 k c r = false) : readF (textB k c r).data.toList = (if 1 ≤ k ∧ k ≤ 5 then k else -1, c, r) := by
  rw [text_list k c r hn]
  unfold readF
  rw [cut_sp _ _ (noSp_word k), kind_word]
  simp only
  rw [cut_sp _ _ (noSp_itoa c), atoiV_itoa c hc, atoiV_itoa r hr]
theorem read_none : readF wNone.data.toList = (0, 0, 0) := by
  unfold readF
  rw [cut_no _ (by decide)]
  rfl
theorem read_may (k c r : Int) (hc : I64 c) (hr : I64 r) (hm : may k c r = true) : readF (textB k c r).data.toList = (k, c, r) := by
  cases hn : none3 k c r with
  | true =>
    obtain ⟨rfl, rfl, rfl⟩ : k = 0 ∧ c = 0 ∧ r = 0 := of_decide_eq_true hn
    exact read_none
  | false =>
    rw [read_text k c r hc hr hn]
    have hk : 1 ≤ k ∧ k ≤ 5 := by
      unfold may at hm
      unfold none3 at hn
      by_cases h0 : k = 0
      · subst h0
        simp at hm hn
        exact absurd hm.2 (hn hm.1)
      · simp only [h0, if_false] at hm
        repeat' split at hm
        all_goals first | omega | (exact absurd hm (by simp))
    rw [if_pos hk]
/-- a text of a failure that may not be is no text of one that may -/
theorem text_only (k c r k' c' r' : Int) (hc : I64 c) (hr : I64 r) (hc' : I64 c') (hr' : I64 r') (hm : may k' c' r' = true) (h : textB k' c' r' = textB k c r) : k' = k ∧ c' = c ∧ r' = r := by
  have h1 := read_may k' c' r' hc' hr' hm
  rw [h] at h1
  cases hn : none3 k c r with
  | true =>
    obtain ⟨rfl, rfl, rfl⟩ : k = 0 ∧ c = 0 ∧ r = 0 := of_decide_eq_true hn
    have h2 : readF (textB 0 0 0).data.toList = (0, 0, 0) := read_none
    rw [h2] at h1
    simp only [Prod.mk.injEq] at h1
    exact ⟨h1.1.symm, h1.2.1.symm, h1.2.2.symm⟩
  | false =>
    rw [read_text k c r hc hr hn] at h1
    simp only [Prod.mk.injEq] at h1
    obtain ⟨e1, e2, e3⟩ := h1
    refine ⟨?_, e2.symm, e3.symm⟩
    split at e1
    · exact e1.symm
    · subst e1
      unfold may at hm
      simp at hm
end Go.Proofs.YtifhfdndbnmhlaaDoor
