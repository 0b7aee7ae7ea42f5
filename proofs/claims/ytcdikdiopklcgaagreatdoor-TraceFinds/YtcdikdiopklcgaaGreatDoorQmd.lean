/- Lists that are turned within a range, and ranges in order, in plain words; no conditions. -/
import Derived.Test.YtcdikdiopklcgaaGreatDoorQrt
namespace Go.Proofs.YtcdikdiopklcgaaGreatDoor.So
set_option linter.unusedVariables false

def A (L : List K) (t : Nat) : K := (L[t]?).getD (0, ⟨#[]⟩)
theorem A_eq (L : List K) (t : Nat) (h : t < L.length) : A L t = L[t] := by unfold A; rw [List.getElem?_eq_getElem h]; rfl
theorem A_of {L M : List K} {t s : Nat} (h : L[t]? = M[s]?) : A L t = A M s := by unfold A; rw [h]
theorem A_sw (L : List K) (i j : Nat) (hi : i < L.length) (hj : j < L.length) (t : Nat) : A (swL L i j hi hj) t = if t = j then A L i else if t = i then A L j else A L t := by
  unfold A
  rw [swL_at?]
  split
  · rfl
  · split <;> rfl
structure Mod (a b : Nat) (L L' : List K) : Prop where
  perm : L'.Perm L
  out : ∀ t, (t < a ∨ b ≤ t) → A L' t = A L t
  frm : ∀ t, a ≤ t → t < b → ∃ s, a ≤ s ∧ s < b ∧ A L' t = A L s
theorem Mod.refl (a b : Nat) (L : List K) : Mod a b L L := ⟨List.Perm.refl _, fun _ _ => rfl, fun t h1 h2 => ⟨t, h1, h2, rfl⟩⟩
theorem Mod.trans {a b : Nat} {L M N : List K} (h : Mod a b L M) (k : Mod a b M N) : Mod a b L N :=
  ⟨k.perm.trans h.perm, fun t ht => (k.out t ht).trans (h.out t ht), fun t h1 h2 => by
    obtain ⟨s, s1, s2, s3⟩ := k.frm t h1 h2
    obtain ⟨r, r1, r2, r3⟩ := h.frm s s1 s2
    exact ⟨r, r1, r2, s3.trans r3⟩⟩
theorem Mod.widen {a b a' b' : Nat} {L M : List K} (h : Mod a b L M) (ha : a' ≤ a) (hb : b ≤ b') : Mod a' b' L M :=
  ⟨h.perm, fun t ht => h.out t (by omega), fun t h1 h2 => by
    by_cases c : a ≤ t ∧ t < b
    · obtain ⟨s, s1, s2, s3⟩ := h.frm t c.1 c.2
      exact ⟨s, by omega, by omega, s3⟩
    · exact ⟨t, h1, h2, h.out t (by omega)⟩⟩
theorem Mod.len {a b : Nat} {L M : List K} (h : Mod a b L M) : M.length = L.length := h.perm.length_eq
theorem mod_sw (a b : Nat) (L : List K) (i j : Nat) (hi : i < L.length) (hj : j < L.length) (h1 : a ≤ i) (h2 : i < b) (h3 : a ≤ j) (h4 : j < b) : Mod a b L (swL L i j hi hj) :=
  ⟨swL_perm _ _ _ _ _, fun t ht => by rw [A_sw, if_neg (by omega), if_neg (by omega)], fun t t1 t2 => by
    rw [A_sw]
    by_cases c : t = j
    · rw [if_pos c]; exact ⟨i, h1, h2, rfl⟩
    · rw [if_neg c]
      by_cases d : t = i
      · rw [if_pos d]; exact ⟨j, h3, h4, rfl⟩
      · rw [if_neg d]; exact ⟨t, t1, t2, rfl⟩⟩
def SIn (L : List K) (a b : Nat) : Prop := ∀ i j, a ≤ i → i < j → j < b → leK (A L i) (A L j)
theorem SIn.sub {L : List K} {a b a' b' : Nat} (h : SIn L a b) (ha : a ≤ a') (hb : b' ≤ b) : SIn L a' b' := fun i j h1 h2 h3 => h i j (by omega) h2 (by omega)
theorem SIn.le {L : List K} {a b : Nat} (h : SIn L a b) (i j : Nat) (h1 : a ≤ i) (h2 : i ≤ j) (h3 : j < b) : leK (A L i) (A L j) := by
  by_cases e : i = j
  · subst e; exact leK_refl _
  · exact h i j h1 (by omega) h3
theorem SIn.of_out {L M : List K} {a b x y : Nat} (h : SIn L a b) (hm : Mod x y L M) (hd : b ≤ x ∨ y ≤ a) : SIn M a b := fun i j h1 h2 h3 => by
  rw [hm.out i (by omega), hm.out j (by omega)]
  exact h i j h1 h2 h3
theorem sorted_of_sin (L : List K) (h : SIn L 0 L.length) : L.Pairwise leK := by
  rw [List.pairwise_iff_getElem]
  intro i j hi hj hij
  rw [← A_eq L i hi, ← A_eq L j hj]
  exact h i j (Nat.zero_le _) hij hj

def InsI (Z : List K) (a i j : Nat) : Prop := (∀ p q, a ≤ p → p < q → q ≤ i → p ≠ j → q ≠ j → leK (A Z p) (A Z q)) ∧ (∀ q, j < q → q ≤ i → leK (A Z j) (A Z q))
theorem insI_start (Z : List K) (a i : Nat) (h : SIn Z a i) : InsI Z a i i := ⟨fun p q h1 h2 h3 h4 h5 => h p q h1 h2 (by omega), fun q h1 h2 => by omega⟩
theorem insI_step (Z : List K) (a i j : Nat) (hj : j + 1 ≤ i) (ha : a ≤ j) (h : InsI Z a i (j + 1)) (h1 : j + 1 < Z.length) (h2 : j < Z.length) (hc : leK (A Z (j + 1)) (A Z j)) : InsI (swL Z (j + 1) j h1 h2) a i j := by
  refine ⟨fun p q p1 p2 p3 p4 p5 => ?_, fun q q1 q2 => ?_⟩
  · rw [A_sw, A_sw, if_neg p4, if_neg p5]
    by_cases c : p = j + 1
    · rw [if_pos c, if_neg (by omega)]
      exact h.1 j q ha (by omega) p3 (by omega) (by omega)
    · rw [if_neg c]
      by_cases d : q = j + 1
      · rw [if_pos d]
        exact h.1 p j p1 (by omega) (by omega) c (by omega)
      · rw [if_neg d]
        exact h.1 p q p1 p2 p3 c d
  · rw [A_sw, A_sw, if_pos rfl, if_neg (by omega)]
    by_cases d : q = j + 1
    · rw [if_pos d]; exact hc
    · rw [if_neg d]; exact h.2 q (by omega) q2
theorem insI_stop (Z : List K) (a i j : Nat) (hj : j ≤ i) (ha : a ≤ j) (h : InsI Z a i j) (hs : j = a ∨ leK (A Z (j - 1)) (A Z j)) : SIn Z a (i + 1) := fun p q p1 p2 p3 => by
  by_cases c : p = j
  · subst c; exact h.2 q p2 (by omega)
  · by_cases d : q = j
    · subst d
      rcases hs with e | e
      · omega
      · by_cases f : p = q - 1
        · subst f; exact e
        · exact leK_trans (h.1 p (q - 1) p1 (by omega) (by omega) c (by omega)) e
    · exact h.1 p q p1 p2 (by omega) c d
end Go.Proofs.YtcdikdiopklcgaaGreatDoor.So
