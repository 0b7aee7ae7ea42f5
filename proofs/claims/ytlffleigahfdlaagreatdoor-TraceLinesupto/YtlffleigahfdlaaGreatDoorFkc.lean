/- A number told as a text and read from one, by the document; the number is not below 0. -/
import Derived.Test.YtlffleigahfdlaaGreatDoorFkb
namespace Go.Proofs.YtlffleigahfdlaaGreatDoor.Kt
open Go.RowKit Go.Sort Go.Shelf
set_option linter.unusedVariables false
theorem ba_app (l l' : List UInt8) : (⟨(l ++ l').toArray⟩ : ByteArray) = ⟨l.toArray⟩ ++ ⟨l'.toArray⟩ := by
  apply ByteArray.ext
  rw [ByteArray.data_append]
  simp
theorem itoaB_nat (n : Nat) : itoaB n = ⟨(Lib.decDigits n).toArray⟩ := by
  unfold itoaB Lib.itoa
  rw [if_neg (by omega), show (n : Int).toNat = n by omega]
theorem itoaB_small (n : Nat) (h : n < 10) : itoaB n = ⟨#[byt (48 + (n : Int))]⟩ := by
  rw [itoaB_nat, dec_last n h]
theorem itoaB_big (n : Nat) (h : 10 ≤ n) : itoaB n = itoaB ((n / 10 : Nat) : Int) ++ ⟨#[byt (48 + ((n % 10 : Nat) : Int))]⟩ := by
  rw [itoaB_nat, itoaB_nat, dec_step n (by omega), ba_app, show (((n % 10 : Nat)) : Int) = (n : Int) % 10 by omega]
theorem nDig_le : ∀ n, ∀ u, u < 10 ^ (n + 1) → Lib.nDigits u ≤ n + 1 := by
  intro n
  induction n with
  | zero => intro u hu; rw [Lib.nDigits_small (by omega)]; omega
  | succ n ih =>
    intro u hu
    by_cases h : u < 10
    · rw [Lib.nDigits_small h]; omega
    · rw [Lib.nDigits_big h]
      have := ih (u / 10) (by rw [Nat.pow_succ] at hu; omega)
      omega
theorem itoaB_len (n : Nat) (h1 : n ≤ 9223372036854775807) : (itoaB n).size ≤ 20 := by
  rw [itoaB_nat]
  show (Lib.decDigits n).toArray.size ≤ 20
  rw [List.size_toArray, Lib.decDigits_length]
  exact nDig_le 19 n (by omega)
def dstep (a : Nat) (c : UInt8) : Nat := a * 10 + (c.toNat - 48)
def dv (l : List UInt8) : Nat := l.foldl dstep 0
theorem dv_snoc (l : List UInt8) (c : UInt8) : dv (l ++ [c]) = dstep (dv l) c := by simp [dv, List.foldl_append]
theorem ofNat_toNat (n : Nat) (h : n < 256) : (UInt8.ofNat n).toNat = n := by rw [UInt8.toNat_ofNat']; omega
theorem dv_dec : ∀ u : Nat, dv (Lib.decDigits u) = u := by
  intro u
  induction u using Nat.strongRecOn with
  | _ u ih =>
    rw [Lib.decDigits]
    split
    · rename_i h
      have := dv_snoc [] (UInt8.ofNat (48 + u))
      rw [List.nil_append] at this
      rw [this]
      unfold dstep
      rw [ofNat_toNat _ (by omega)]
      show 0 * 10 + _ = _
      omega
    · rename_i h
      rw [dv_snoc, ih (u / 10) (by omega)]
      unfold dstep
      rw [ofNat_toNat _ (by omega)]
      omega
theorem fold_ge (l : List UInt8) : ∀ a : Nat, a ≤ l.foldl dstep a := by
  induction l with
  | nil => intro a; exact Nat.le_refl _
  | cons c l ih =>
    intro a
    have h1 : a ≤ dstep a c := by unfold dstep; omega
    exact Nat.le_trans h1 (ih (dstep a c))
theorem dv_take (l : List UInt8) (p : Nat) : dv (l.take p) ≤ dv l := by
  have h : dv l = (l.drop p).foldl dstep (dv (l.take p)) := by
    unfold dv
    rw [← List.foldl_append, List.take_append_drop]
  rw [h]
  exact fold_ge _ _
def isDig (c : UInt8) : Prop := 48 ≤ c.toNat ∧ c.toNat ≤ 57
theorem dig_dec : ∀ u : Nat, ∀ c ∈ Lib.decDigits u, isDig c := by
  intro u
  induction u using Nat.strongRecOn with
  | _ u ih =>
    intro c hc
    rw [Lib.decDigits] at hc
    split at hc
    · rename_i h
      rw [List.mem_singleton] at hc
      subst hc
      unfold isDig
      rw [ofNat_toNat _ (by omega)]
      omega
    · rename_i h
      rcases List.mem_append.1 hc with h1 | h1
      · exact ih (u / 10) (by omega) c h1
      · rw [List.mem_singleton] at h1
        subst h1
        unfold isDig
        rw [ofNat_toNat _ (by omega)]
        omega
theorem list_of (s : ByteArray) (m : Nat) (hs : itoaB m = s) : s.data.toList = Lib.decDigits m := by rw [← hs, itoaB_nat]
theorem take_snocB (s : ByteArray) (p : Nat) (h : p < s.size) : s.data.toList.take (p + 1) = s.data.toList.take p ++ [s[p]] := by
  rw [List.take_succ_eq_append_getElem (by simpa using h)]; rfl
def MT : Nat := 4611686018427387904
def Acc (s : ByteArray) (p : Nat) (n : Nat) : Prop := ∀ m : Nat, m ≤ MT → itoaB m = s → n = dv (s.data.toList.take p)
theorem acc_le {s : ByteArray} {p n : Nat} (hA : Acc s p n) (m : Nat) (hm : m ≤ MT) (hs : itoaB m = s) : n ≤ m := by
  rw [hA m hm hs]
  have h := dv_take s.data.toList p
  rw [list_of s m hs, dv_dec] at h
  rw [list_of s m hs]
  exact h
theorem acc_bad {s : ByteArray} {p : Nat} (h : p < s.size) (hb : s[p].toNat < 48 ∨ 57 < s[p].toNat) : ∀ m : Nat, m ≤ MT → itoaB m ≠ s := fun m hm hs => by
  have hl := list_of s m hs
  have hg : s[p] ∈ s.data.toList := by
    have : s[p] = s.data.toList[p]'(by simpa using h) := rfl
    rw [this]
    exact List.getElem_mem _
  rw [hl] at hg
  have := dig_dec m _ hg
  unfold isDig at this
  omega
theorem acc_big {s : ByteArray} {p n : Nat} (hA : Acc s p n) (h : MT < n) : ∀ m : Nat, m ≤ MT → itoaB m ≠ s := fun m hm hs => by
  have := acc_le hA m hm hs
  omega
theorem acc_step {s : ByteArray} {p n : Nat} (h : p < s.size) (hA : Acc s p n) (h1 : 48 ≤ s[p].toNat) : ∀ m : Nat, m ≤ MT → itoaB m = s → n * 10 + (s[p].toNat - 48) = dv (s.data.toList.take (p + 1)) := fun m hm hs => by
  rw [take_snocB s p h, dv_snoc, ← hA m hm hs]
  rfl
theorem acc_step_le {s : ByteArray} {p n : Nat} (h : p < s.size) (hA : Acc s p n) (h1 : 48 ≤ s[p].toNat) : ∀ m : Nat, m ≤ MT → itoaB m = s → n * 10 + (s[p].toNat - 48) ≤ m := fun m hm hs => by
  rw [acc_step h hA h1 m hm hs]
  have h := dv_take s.data.toList (p + 1)
  rw [list_of s m hs, dv_dec] at h
  rw [list_of s m hs]
  exact h
theorem acc_end {s : ByteArray} {n : Nat} (hA : Acc s s.size n) : ∀ m : Nat, m ≤ MT → itoaB m = s → n = m := fun m hm hs => by
  have h := hA m hm hs
  rw [List.take_of_length_le (by exact Nat.le_refl _), list_of s m hs, dv_dec] at h
  exact h
theorem beqB (a b : ByteArray) : (a.toList == b.toList) = true ↔ a = b := by
  rw [beq_iff_eq, ByteArray.toList_eq, ByteArray.toList_eq]
  exact ⟨fun h => ByteArray.ext (Array.toList_inj.1 h), fun h => by rw [h]⟩
end Go.Proofs.YtlffleigahfdlaaGreatDoor.Kt
