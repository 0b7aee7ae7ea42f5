/- Plain mathematics of a heap of slots: no program. -/
import Derived.KernelRfl
namespace Go.Proofs.Ytaioegefoiabhaa
set_option linter.unusedVariables false
structure Slot where
  at_ : Int
  put : Int
  item : Int
abbrev leS (x y : Slot) : Prop := x.at_ < y.at_ ∨ x.at_ = y.at_ ∧ x.put ≤ y.put
abbrev ltS (x y : Slot) : Prop := x.at_ < y.at_ ∨ x.at_ = y.at_ ∧ x.put < y.put
theorem leS.trans {a b c : Slot} (h : leS a b) (k : leS b c) : leS a c := by unfold leS at *; omega
theorem leS.refl (a : Slot) : leS a a := by unfold leS; omega
theorem ltS.le {a b : Slot} (h : ltS a b) : leS a b := by unfold leS ltS at *; omega
theorem not_lt {a b : Slot} : ¬ ltS a b ↔ leS b a := by unfold leS ltS; omega
theorem not_le {a b : Slot} : ¬ leS a b ↔ ltS b a := by unfold leS ltS; omega
theorem ltS.trans {a b c : Slot} (h : ltS a b) (k : ltS b c) : ltS a c := by unfold ltS at *; omega
theorem lt_of_le_ne {a b : Slot} (h : leS a b) (k : a.put ≠ b.put) : ltS a b := by unfold leS ltS at *; omega

def gt (s : List Slot) (i : Nat) : Slot := s.getD i ⟨0, 0, 0⟩
theorem gt_eq {s : List Slot} {i : Nat} (h : i < s.length) : gt s i = s[i] := by simp [gt, List.getD_eq_getElem?_getD, List.getElem?_eq_getElem h]
theorem gt_mem {s : List Slot} {i : Nat} (h : i < s.length) : gt s i ∈ s := by rw [gt_eq h]; exact List.getElem_mem h
def swp (s : List Slot) (i j : Nat) : List Slot := (s.set i (gt s j)).set j (gt s i)
theorem swp_len (s : List Slot) (i j : Nat) : (swp s i j).length = s.length := by simp [swp]
theorem swp_gt {s : List Slot} {i j : Nat} (hi : i < s.length) (hj : j < s.length) (k : Nat) : gt (swp s i j) k = if k = j then gt s i else if k = i then gt s j else gt s k := by
  by_cases hk : k < s.length
  · rw [gt_eq (by rw [swp_len]; exact hk)]
    unfold swp
    rw [List.getElem_set]
    by_cases h : j = k
    · rw [if_pos h, if_pos h.symm]
    · rw [if_neg h, if_neg (fun e => h e.symm), List.getElem_set]
      by_cases h' : i = k
      · rw [if_pos h', if_pos h'.symm]
      · rw [if_neg h', if_neg (fun e => h' e.symm), gt_eq hk]
  · have h1 : k ≠ j := by omega
    have h2 : k ≠ i := by omega
    rw [if_neg h1, if_neg h2]
    simp [gt, List.getD_eq_getElem?_getD, List.getElem?_eq_none (Nat.le_of_not_lt hk), List.getElem?_eq_none (show (swp s i j).length ≤ k by rw [swp_len]; omega)]
theorem swp_perm {s : List Slot} {i j : Nat} (hi : i < s.length) (hj : j < s.length) : (swp s i j).Perm s := by
  unfold swp
  rw [gt_eq hi, gt_eq hj]
  by_cases e : i = j
  · subst e
    simp
  · exact List.set_set_perm hi hj

def par (k : Nat) : Nat := (k - 1) / 2
def Heap (n : Nat) (s : List Slot) : Prop := ∀ k, 0 < k → k < n → leS (gt s (par k)) (gt s k)
def UpI (n : Nat) (s : List Slot) (j : Nat) : Prop := (∀ k, 0 < k → k < n → k ≠ j → leS (gt s (par k)) (gt s k)) ∧ (∀ k, 0 < k → k < n → par k = j → 0 < j → leS (gt s (par j)) (gt s k))
def Hole (n : Nat) (s : List Slot) (i : Nat) : Prop := (∀ k, 0 < k → k < n → k ≠ i → par k ≠ i → leS (gt s (par k)) (gt s k)) ∧ (∀ k, 0 < k → k < n → par k = i → 0 < i → leS (gt s (par i)) (gt s k))
theorem par_lt {k : Nat} (h : 0 < k) : par k < k := by unfold par; omega
theorem up_done {n : Nat} {s : List Slot} {j : Nat} (h : UpI n s j) (hj : j = 0 ∨ ¬ ltS (gt s j) (gt s (par j))) : Heap n s := fun k h0 hn => by
  by_cases e : k = j
  · subst e
    rcases hj with rfl | hj
    · omega
    · exact not_lt.1 hj
  · exact h.1 k h0 hn e
theorem up_step {n : Nat} {s : List Slot} {j : Nat} (h : UpI n s j) (hn : n ≤ s.length) (hj : j < n) (h0 : 0 < j) (hl : ltS (gt s j) (gt s (par j))) : UpI n (swp s (par j) j) (par j) := by
  have hp := par_lt h0
  have G := swp_gt (s := s) (i := par j) (j := j) (by omega) (by omega)
  refine ⟨fun k k0 kn ke => ?_, fun k k0 kn ke p0 => ?_⟩
  · rw [G, G]
    by_cases e1 : k = j
    · subst e1
      rw [if_pos rfl, if_neg (by omega), if_pos rfl]
      exact hl.le
    · rw [if_neg e1, if_neg ke]
      by_cases e2 : par k = j
      · rw [if_pos e2]
        exact h.2 k k0 kn e2 h0
      · rw [if_neg e2]
        by_cases e3 : par k = par j
        · rw [if_pos e3]
          have := h.1 k k0 kn e1
          rw [e3] at this
          exact hl.le.trans this
        · rw [if_neg e3]
          exact h.1 k k0 kn e1
  · have hpp := par_lt p0
    rw [G, G, if_neg (by omega), if_neg (by omega)]
    have hi := h.1 (par j) p0 (by omega) (by omega)
    by_cases e1 : k = j
    · rw [if_pos e1]
      exact hi
    · have hk := par_lt k0
      rw [if_neg e1, if_neg (by omega)]
      have := h.1 k k0 kn e1
      rw [ke] at this
      exact hi.trans this
theorem hole_step {n : Nat} {s : List Slot} {i j : Nat} (h : Hole n s i) (hn : n ≤ s.length) (hj : j < n) (h0 : 0 < j) (hp : par j = i) (hm : ∀ k, 0 < k → k < n → par k = i → leS (gt s j) (gt s k)) (hl : ltS (gt s j) (gt s i)) : Hole n (swp s i j) j ∧ leS (gt (swp s i j) (par j)) (gt (swp s i j) j) := by
  have hij := par_lt h0
  have G := swp_gt (s := s) (i := i) (j := j) (by omega) (by omega)
  refine ⟨⟨fun k k0 kn ke kp => ?_, fun k k0 kn ke p0 => ?_⟩, ?_⟩
  · have hk := par_lt k0
    rw [G, G, if_neg kp, if_neg ke]
    by_cases e1 : k = i
    · rw [if_pos e1, if_neg (by omega), e1]
      exact h.2 j h0 hj hp (by omega)
    · rw [if_neg e1]
      by_cases e2 : par k = i
      · rw [if_pos e2]
        exact hm k k0 kn e2
      · rw [if_neg e2]
        exact h.1 k k0 kn e1 e2
  · have hk := par_lt k0
    rw [G, G, hp, if_neg (by omega), if_pos rfl, if_neg (by omega), if_neg (by omega)]
    have := h.1 k k0 kn (by omega) (by omega)
    rw [ke] at this
    exact this
  · rw [G, G, hp, if_neg (by omega), if_pos rfl, if_pos rfl]
    exact hl.le
theorem hole_done {n : Nat} {s : List Slot} {i : Nat} (h : Hole n s i) (hp : 0 < i → leS (gt s (par i)) (gt s i)) (hc : ∀ k, 0 < k → k < n → par k = i → leS (gt s i) (gt s k)) : Heap n s := fun k k0 kn => by
  by_cases e1 : k = i
  · subst e1
    exact hp k0
  · by_cases e2 : par k = i
    · rw [e2]
      exact hc k k0 kn e2
    · exact h.1 k k0 kn e1 e2
theorem hole_up {n : Nat} {s : List Slot} {i : Nat} (h : Hole n s i) (hc : ∀ k, 0 < k → k < n → par k = i → leS (gt s i) (gt s k)) : UpI n s i := ⟨fun k k0 kn ke => by
  by_cases e2 : par k = i
  · rw [e2]
    exact hc k k0 kn e2
  · exact h.1 k k0 kn ke e2, h.2⟩
theorem heap_hole {n : Nat} {s : List Slot} {i : Nat} (h : Heap (n + 1) s) (hn : n < s.length) (hi : i < n) : Hole n (swp s i n) i := by
  have G := swp_gt (s := s) (i := i) (j := n) (by omega) (by omega)
  refine ⟨fun k k0 kn ke kp => ?_, fun k k0 kn ke p0 => ?_⟩
  · have hk := par_lt k0
    rw [G, G, if_neg (by omega), if_neg kp, if_neg (by omega), if_neg ke]
    exact h k k0 (by omega)
  · have hk := par_lt k0
    have hi := par_lt p0
    rw [G, G, if_neg (by omega), if_neg (by omega), if_neg (by omega), if_neg (by omega)]
    have h1 := h i p0 (by omega)
    have h2 := h k k0 (by omega)
    rw [ke] at h2
    exact h1.trans h2
theorem heap_mono {n m : Nat} {s : List Slot} (h : Heap n s) (hm : m ≤ n) : Heap m s := fun k k0 km => h k k0 (by omega)
theorem heap_min {n : Nat} {s : List Slot} (h : Heap n s) : ∀ k, k < n → leS (gt s 0) (gt s k) := by
  intro k
  induction k using Nat.strongRecOn with
  | _ k ih =>
    intro hk
    by_cases e : k = 0
    · subst e
      exact leS.refl _
    · have := par_lt (by omega : 0 < k)
      exact (ih (par k) this (by omega)).trans (h k (by omega) hk)
theorem heap_snoc {s : List Slot} {x : Slot} (h : Heap s.length s) : UpI (s ++ [x]).length (s ++ [x]) s.length := by
  have G : ∀ k, k < s.length → gt (s ++ [x]) k = gt s k := fun k hk => by
    rw [gt_eq (by simp; omega), gt_eq hk, List.getElem_append_left]
  refine ⟨fun k k0 kn ke => ?_, fun k k0 kn ke p0 => ?_⟩
  · simp at kn
    have := par_lt k0
    rw [G _ (by omega), G _ (by omega)]
    exact h k k0 (by omega)
  · have := par_lt k0
    simp at kn
    omega
theorem heap_congr {n : Nat} {s t : List Slot} (h : Heap n s) (he : ∀ k, k < n → gt s k = gt t k) : Heap n t := fun k k0 kn => by
  have := par_lt k0
  rw [← he k kn, ← he (par k) (by omega)]
  exact h k k0 kn
theorem heap_dropLast {s : List Slot} (h : Heap (s.length - 1) s) : Heap s.dropLast.length s.dropLast := by
  rw [List.length_dropLast]
  refine heap_congr h (fun k hk => ?_)
  rw [gt_eq (by omega), gt_eq (by rw [List.length_dropLast]; omega), List.getElem_dropLast]
end Go.Proofs.Ytaioegefoiabhaa
