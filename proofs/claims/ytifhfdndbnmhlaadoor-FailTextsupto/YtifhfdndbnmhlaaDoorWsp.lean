/- A text's words, in plain words; no conditions. -/
import Derived.Test.YtifhfdndbnmhlaaDoorThy
namespace Go.Proofs.YtifhfdndbnmhlaaDoor
open Go.RowKit Go.Sort
set_option linter.unusedVariables false

def wst (x : List ByteArray × ByteArray) (c : UInt8) : List ByteArray × ByteArray := if c = 32 then (x.1 ++ [x.2], ⟨#[]⟩) else (x.1, x.2 ++ ⟨#[c]⟩)
def wsp (l : List UInt8) : List ByteArray × ByteArray := l.foldl wst ([], ⟨#[]⟩)
theorem wsp_snoc (l : List UInt8) (c : UInt8) : wsp (l ++ [c]) = wst (wsp l) c := by simp [wsp, List.foldl_append]
theorem push_list (cur : ByteArray) (c : UInt8) (l : List UInt8) : cur ++ ⟨#[c]⟩ ++ ⟨l.toArray⟩ = cur ++ ⟨(c :: l).toArray⟩ := by
  apply ByteArray.ext
  simp [ByteArray.data_append]
theorem fold_noSp (l : List UInt8) : ∀ (I : List ByteArray) (cur : ByteArray), noSp l → l.foldl wst (I, cur) = (I, cur ++ ⟨l.toArray⟩) := by
  induction l with
  | nil =>
    intro I cur _
    have : cur ++ ⟨([] : List UInt8).toArray⟩ = cur := by apply ByteArray.ext; simp [ByteArray.data_append]
    rw [this]
    rfl
  | cons c l ih =>
    intro I cur h
    have hc : c ≠ 32 := h c (by simp)
    have e : wst (I, cur) c = (I, cur ++ ⟨#[c]⟩) := by unfold wst; rw [if_neg hc]
    rw [List.foldl_cons, e, ih I (cur ++ ⟨#[c]⟩) (fun d hd => h d (by simp [hd])), push_list]
theorem wsp_text (k c r : Int) (hn : none3 k c r = false) : wsp (textB k c r).data.toList = ([wordB k, itoaB c], itoaB r) := by
  rw [text_list k c r hn]
  unfold wsp
  have e0 : ∀ b : ByteArray, (⟨#[]⟩ : ByteArray) ++ b = b := fun b => by apply ByteArray.ext; simp [ByteArray.data_append]
  rw [List.foldl_append, fold_noSp _ _ _ (noSp_word k), List.foldl_cons]
  have e1 : wst (([] : List ByteArray), (⟨#[]⟩ : ByteArray) ++ ⟨(wordB k).data.toList.toArray⟩) 32 = ([wordB k], ⟨#[]⟩) := by
    unfold wst
    rw [if_pos rfl, e0]
    rfl
  rw [e1, List.foldl_append, fold_noSp _ _ _ (noSp_itoa c), List.foldl_cons]
  have e2 : wst (([wordB k] : List ByteArray), (⟨#[]⟩ : ByteArray) ++ ⟨(Lib.itoa c).toArray⟩) 32 = ([wordB k, itoaB c], ⟨#[]⟩) := by
    unfold wst
    rw [if_pos rfl, e0]
    rfl
  rw [e2, fold_noSp _ _ _ (noSp_itoa r), e0]
  rfl
theorem wsp_len (l : List UInt8) : (wsp l).1.length ≤ l.length ∧ (wsp l).2.size ≤ l.length ∧ ∀ x ∈ (wsp l).1, x.size ≤ l.length := by
  suffices h : ∀ n, ∀ l : List UInt8, l.length = n → (wsp l).1.length ≤ n ∧ (wsp l).2.size ≤ n ∧ ∀ x ∈ (wsp l).1, x.size ≤ n from h l.length l rfl
  intro n
  induction n with
  | zero =>
    intro l hl
    obtain rfl := List.eq_nil_of_length_eq_zero hl
    exact ⟨Nat.le_refl _, Nat.le_refl _, fun x hx => by cases hx⟩
  | succ n ih =>
    intro l hl
    have hne : l ≠ [] := fun e => by rw [e] at hl; cases hl
    obtain ⟨a, b, c⟩ := ih l.dropLast (by rw [List.length_dropLast]; omega)
    rw [← List.dropLast_concat_getLast hne, wsp_snoc]
    unfold wst
    split
    · simp only
      refine ⟨by rw [List.length_append]; simp; omega, Nat.zero_le _, fun x hx => ?_⟩
      rcases List.mem_append.1 hx with hx | hx
      · have := c x hx; omega
      · rw [List.mem_singleton] at hx; subst hx; omega
    · simp only
      refine ⟨by omega, ?_, fun x hx => by have := c x hx; omega⟩
      rw [ByteArray.size_append]
      have : (ByteArray.mk #[l.getLast hne]).size = 1 := rfl
      omega
end Go.Proofs.YtifhfdndbnmhlaaDoor
