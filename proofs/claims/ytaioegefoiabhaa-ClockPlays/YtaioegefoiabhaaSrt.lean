/- Plain mathematics of sorted lists of slots: no program. -/
import Derived.Test.YtaioegefoiabhaaThy
namespace Go.Proofs.Ytaioegefoiabhaa
set_option linter.unusedVariables false
def Srt (S : List Slot) : Prop := S.Pairwise ltS
theorem srt_at {S : List Slot} (h : Srt S) {i j : Nat} (hij : i < j) (hj : j < S.length) : ltS (gt S i) (gt S j) := by
  rw [gt_eq (by omega), gt_eq hj]
  exact (List.pairwise_iff_getElem.1 h) i j (by omega) hj hij
theorem heap_head {s S : List Slot} (hp : s.Perm S) (hh : Heap s.length s) (hs : Srt S) (h0 : 0 < S.length) : gt s 0 = gt S 0 := by
  have hl := hp.length_eq
  have m1 : gt S 0 ∈ s := hp.mem_iff.2 (gt_mem h0)
  obtain ⟨k, hk, e⟩ := List.getElem_of_mem m1
  have l1 := heap_min hh k hk
  rw [gt_eq hk, e] at l1
  have m2 : gt s 0 ∈ S := hp.mem_iff.1 (gt_mem (by omega))
  obtain ⟨a, ha, e2⟩ := List.getElem_of_mem m2
  by_cases h : a = 0
  · subst h
    rw [← e2, gt_eq ha]
  · have := srt_at hs (i := 0) (j := a) (by omega) ha
    rw [gt_eq ha, e2] at this
    exact absurd l1 (not_le.2 this)
theorem srt_eraseIdx {S : List Slot} (h : Srt S) (i : Nat) : Srt (S.eraseIdx i) := List.Pairwise.sublist (List.eraseIdx_sublist _ _) h
theorem eraseIdx_perm {S : List Slot} {i : Nat} (h : i < S.length) : (S.eraseIdx i ++ [gt S i]).Perm S := by
  rw [List.eraseIdx_eq_take_drop_succ, gt_eq h]
  refine (List.perm_append_singleton _ _).trans ?_
  refine (List.perm_middle (l₁ := S.take i) (a := S[i]) (l₂ := S.drop (i + 1))).symm.trans ?_
  rw [← List.drop_eq_getElem_cons h, List.take_append_drop]
theorem perm_cancel {s t : List Slot} {x : Slot} (h : (s ++ [x]).Perm (t ++ [x])) : s.Perm t := (List.perm_append_right_iff [x]).1 h
def Pos (S : List Slot) (a : Int) (i : Nat) : Prop := i ≤ S.length ∧ (∀ j, j < S.length → i ≤ j → a < (gt S j).at_) ∧ (0 < i → (gt S (i - 1)).at_ ≤ a)
def ins (S : List Slot) (i : Nat) (x : Slot) : List Slot := S.take i ++ x :: S.drop i
theorem ins_perm (S : List Slot) (i : Nat) (x : Slot) : (ins S i x).Perm (S ++ [x]) := by
  refine (List.perm_middle).trans ?_
  rw [List.take_append_drop]
  exact (List.perm_append_singleton x S).symm
theorem srt_mono {S : List Slot} (h : Srt S) {i j : Nat} (hij : i ≤ j) (hj : j < S.length) : (gt S i).at_ ≤ (gt S j).at_ := by
  by_cases e : i = j
  · subst e; exact Int.le_refl _
  · have := srt_at h (by omega : i < j) hj
    unfold ltS at this
    omega
theorem ins_srt {S : List Slot} (h : Srt S) {i : Nat} {x : Slot} (hp : Pos S x.at_ i) (hx : ∀ y ∈ S, y.put < x.put) : Srt (ins S i x) := by
  obtain ⟨h1, h2, h3⟩ := hp
  unfold Srt ins
  have A : ∀ y ∈ S.take i, ltS y x := fun y hy => by
    obtain ⟨n, hn, rfl⟩ := List.getElem_of_mem hy
    rw [List.length_take] at hn
    rw [List.getElem_take]
    have b := h3 (by omega)
    have c := srt_mono h (i := n) (j := i - 1) (by omega) (by omega)
    have d := hx _ (List.getElem_mem (show n < S.length by omega))
    rw [gt_eq (by omega)] at c
    unfold ltS
    omega
  have B : ∀ y ∈ S.drop i, ltS x y := fun y hy => by
    obtain ⟨n, hn, rfl⟩ := List.getElem_of_mem hy
    rw [List.length_drop] at hn
    rw [List.getElem_drop]
    have b := h2 (i + n) (by omega) (by omega)
    rw [gt_eq (by omega)] at b
    unfold ltS
    omega
  rw [List.pairwise_append]
  refine ⟨List.Pairwise.sublist (List.take_sublist _ _) h, ?_, ?_⟩
  · rw [List.pairwise_cons]
    exact ⟨B, List.Pairwise.sublist (List.drop_sublist _ _) h⟩
  · intro a ha b hb
    rcases List.mem_cons.1 hb with rfl | hb
    · exact A a ha
    · exact (A a ha).trans (B b hb)
theorem pos_ex {S : List Slot} (h : Srt S) (a : Int) : ∃ i, Pos S a i := by
  suffices H : ∀ n, n ≤ S.length → (∀ j, j < S.length → n ≤ j → a < (gt S j).at_) → ∃ i, Pos S a i from H S.length (Nat.le_refl _) (fun j hj hn => by omega)
  intro n
  induction n with
  | zero => exact fun hn hj => ⟨0, hn, hj, fun h => by omega⟩
  | succ n ih =>
    intro hn hj
    by_cases e : (gt S n).at_ ≤ a
    · exact ⟨n + 1, hn, hj, fun _ => by simpa using e⟩
    · refine ih (by omega) (fun j h1 h2 => ?_)
      by_cases e' : j = n
      · subst e'; omega
      · exact hj j h1 (by omega)
theorem srt_unique {S T : List Slot} (hp : S.Perm T) (hs : Srt S) (ht : Srt T) : S = T :=
  List.Perm.eq_of_pairwise (fun a b _ _ h k => by unfold ltS at h k; omega) hs ht hp
/-- How many of the front are due. -/
def due (S : List Slot) (now : Int) : Nat := (S.takeWhile (fun x => decide (x.at_ ≤ now))).length
theorem gt_zero_cons (x : Slot) (S : List Slot) : gt (x :: S) 0 = x := rfl
theorem gt_succ_cons (x : Slot) (S : List Slot) (i : Nat) : gt (x :: S) (i + 1) = gt S i := rfl
end Go.Proofs.Ytaioegefoiabhaa
