/- The contract of the document's number that a text is; the condition is that the text is not too long. -/
import Derived.Test.YtifhfdndbnmhlaaDoorThy
namespace Go.Proofs.YtifhfdndbnmhlaaDoor
open Go.RowKit Go.Sort
set_option linter.unusedVariables false

def dstep (a : Nat) (c : UInt8) : Nat := if c = 45 then a else a * 10 + (c.toNat - 48)
def dv (l : List UInt8) : Nat := l.foldl dstep 0
theorem dv_snoc (l : List UInt8) (c : UInt8) : dv (l ++ [c]) = dstep (dv l) c := by simp [dv, List.foldl_append]
theorem dv_dec : ∀ u : Nat, dv (Lib.decDigits u) = u := by
  intro u
  induction u using Nat.strongRecOn with
  | _ u ih =>
    have hne : ∀ n : Nat, n ≤ 9 → UInt8.ofNat (48 + n) ≠ 45 := fun n hn h => by
      have := congrArg UInt8.toNat h
      rw [ofNat_toNat _ (by omega)] at this
      have h45 : (45 : UInt8).toNat = 45 := rfl
      omega
    rw [Lib.decDigits]
    split
    · rename_i h
      have := dv_snoc [] (UInt8.ofNat (48 + u))
      rw [List.nil_append] at this
      rw [this]
      unfold dstep
      rw [if_neg (hne u (by omega)), ofNat_toNat _ (by omega)]
      show 0 * 10 + _ = _
      omega
    · rename_i h
      rw [dv_snoc, ih (u / 10) (by omega)]
      unfold dstep
      rw [if_neg (hne (u % 10) (by omega)), ofNat_toNat _ (by omega)]
      omega
theorem dv_itoa (m : Int) : dv (Lib.itoa m) = m.natAbs := by
  unfold Lib.itoa
  split
  · have : dv (45 :: Lib.decDigits m.natAbs) = dv (Lib.decDigits m.natAbs) := rfl
    rw [this, dv_dec]
  · rw [dv_dec]
    omega
theorem fold_ge (l : List UInt8) : ∀ a : Nat, a ≤ l.foldl dstep a := by
  induction l with
  | nil => intro a; exact Nat.le_refl _
  | cons c l ih =>
    intro a
    have h1 : a ≤ dstep a c := by unfold dstep; split <;> omega
    exact Nat.le_trans h1 (ih (dstep a c))
theorem dv_take (l : List UInt8) (p : Nat) : dv (l.take p) ≤ dv l := by
  have h : dv l = (l.drop p).foldl dstep (dv (l.take p)) := by
    unfold dv
    rw [← List.foldl_append, List.take_append_drop]
  rw [h]
  exact fold_ge _ _
theorem char_itoa (m : Int) (p : Nat) (h : p < (Lib.itoa m).length) : isDig (Lib.itoa m)[p] ∨ (p = 0 ∧ (Lib.itoa m)[p] = 45 ∧ m < 0) := by
  by_cases hm : m < 0
  · have he : Lib.itoa m = 45 :: Lib.decDigits m.natAbs := by unfold Lib.itoa; rw [if_pos hm]
    simp only [he] at h ⊢
    cases p with
    | zero => exact Or.inr ⟨rfl, rfl, hm⟩
    | succ p => exact Or.inl (dig_dec _ _ (by simp only [List.getElem_cons_succ]; exact List.getElem_mem _))
  · have he : Lib.itoa m = Lib.decDigits m.toNat := by unfold Lib.itoa; rw [if_neg hm]
    simp only [he] at h ⊢
    exact Or.inl (dig_dec _ _ (List.getElem_mem _))
theorem itoa_first (m : Int) (h0 : 0 < (Lib.itoa m).length) : (Lib.itoa m)[0] = 45 ↔ m < 0 := by
  constructor
  · intro h
    rcases char_itoa m 0 h0 with hd | ⟨_, _, hm⟩
    · unfold isDig at hd
      rw [h] at hd
      exact absurd hd (by decide)
    · exact hm
  · intro hm
    have he : Lib.itoa m = 45 :: Lib.decDigits m.natAbs := by unfold Lib.itoa; rw [if_pos hm]
    simp only [he]
    rfl
theorem itoa_len (m : Int) : 0 < (Lib.itoa m).length := by
  unfold Lib.itoa
  split
  · simp
  · have := dec_ne m.toNat
    exact List.length_pos_iff.2 this
/-- what the loop knows of the number, if the text is one -/
def Acc (s : ByteArray) (p : Nat) (n : Int) : Prop := ∀ m : Int, I64 m → itoaB m = s → n = -(dv (s.data.toList.take p) : Int)
theorem take_snocB (s : ByteArray) (p : Nat) (h : p < s.size) : s.data.toList.take (p + 1) = s.data.toList.take p ++ [s[p]] := by
  rw [List.take_succ_eq_append_getElem (by simpa using h)]; rfl
theorem acc_minus (s : ByteArray) (n : Int) (h : 0 < s.size) (hA : Acc s 0 n) (hc : (s[0].toNat : Int) = 45) : Acc s 1 n := fun m hm hs => by
  have h1 := hA m hm hs
  rw [take_snocB s 0 h, dv_snoc]
  have : s[0] = 45 := UInt8.toNat_inj.1 (by have : (45 : UInt8).toNat = 45 := rfl; omega)
  unfold dstep
  rw [if_pos this]
  exact h1
theorem list_of (s : ByteArray) (m : Int) (hs : itoaB m = s) : s.data.toList = Lib.itoa m := by rw [← hs]; simp [itoaB]
theorem acc_dig (s : ByteArray) (p : Nat) (n n1 n2 : Int) (h : p < s.size) (hA : Acc s p n) (h1 : IntKind.i64.wrap (n * 10) = n1) (h2 : IntKind.i64.wrap (n1 - ((s[p].toNat : Int) - 48)) = n2) (hd1 : 48 ≤ (s[p].toNat : Int)) (hd2 : (s[p].toNat : Int) ≤ 57) : Acc s (p + 1) n2 := fun m hm hs => by
  have e := hA m hm hs
  have hl := list_of s m hs
  have hb := dv_take s.data.toList (p + 1)
  have hv := dv_itoa m
  rw [← hl] at hv
  rw [take_snocB s p h, dv_snoc] at hb
  rw [take_snocB s p h, dv_snoc]
  have hne : s[p] ≠ 45 := fun e45 => by rw [e45] at hd1; exact absurd hd1 (by decide)
  unfold dstep at hb ⊢
  rw [if_neg hne] at hb ⊢
  obtain ⟨m1, m2⟩ := hm
  rw [IntKind.wrap_i64] at h1 h2
  subst e
  omega
theorem acc_bad (s : ByteArray) (p : Nat) (h : p < s.size) (hb : (s[p].toNat : Int) < 48 ∨ 57 < (s[p].toNat : Int)) (hm : ¬ ((s[p].toNat : Int) = 45 ∧ p = 0)) : ∀ m : Int, I64 m → itoaB m ≠ s := fun m hi hs => by
  have hl := list_of s m hs
  have hp : p < (Lib.itoa m).length := by rw [← hl]; exact h
  have hg : (Lib.itoa m)[p] = s[p] := by
    have : s[p] = s.data.toList[p]'(by simpa using h) := rfl
    rw [this]
    simp only [hl]
  rcases char_itoa m p hp with hd | ⟨h0, h45, _⟩
  · unfold isDig at hd
    rw [hg] at hd
    omega
  · rw [hg] at h45
    apply hm
    exact ⟨by rw [h45]; rfl, h0⟩
theorem acc_end (s : ByteArray) (n : Int) (hA : Acc s s.size n) (m : Int) (hm : I64 m) (hs : itoaB m = s) : ∃ h0 : 0 < s.size, ((s[0].toNat : Int) = 45 → n = m) ∧ (¬ (s[0].toNat : Int) = 45 → IntKind.i64.wrap (-n) = m) := by
  have hl := list_of s m hs
  have hlen : 0 < s.size := by have := itoa_len m; rw [← hl] at this; exact this
  have e := hA m hm hs
  rw [List.take_of_length_le (by exact Nat.le_refl _), hl, dv_itoa] at e
  have hg : (Lib.itoa m)[0]'(itoa_len m) = s[0] := by
    have : s[0] = s.data.toList[0]'(by simpa using hlen) := rfl
    rw [this]
    simp only [hl]
  have hf := itoa_first m (itoa_len m)
  rw [hg] at hf
  obtain ⟨m1, m2⟩ := hm
  refine ⟨hlen, fun h => ?_, fun h => ?_⟩
  · have : s[0] = 45 := UInt8.toNat_inj.1 (by have : (45 : UInt8).toNat = 45 := rfl; omega)
    have := hf.1 this
    omega
  · have : ¬ m < 0 := fun hm => h (by rw [hf.2 hm]; rfl)
    rw [IntKind.wrap_i64]
    omega
end Go.Proofs.YtifhfdndbnmhlaaDoor
