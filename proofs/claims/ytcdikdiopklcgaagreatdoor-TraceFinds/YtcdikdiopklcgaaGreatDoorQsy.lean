/- Merging two neighbouring ranges in order, in plain words; no conditions. -/
import Derived.Test.YtcdikdiopklcgaaGreatDoorQmd
namespace Go.Proofs.YtcdikdiopklcgaaGreatDoor.So
set_option linter.unusedVariables false

theorem T_A {L M : List K} {s m e : Nat} (h : ∀ t, M[t]? = T L s m e t) (t : Nat) : A M t = if s ≤ t ∧ t < s + (e - m) then A L (t - s + m) else if s + (e - m) ≤ t ∧ t < e then A L (t - (e - m)) else A L t := by
  unfold A
  rw [h]
  unfold T
  split
  · rfl
  · split <;> rfl
theorem T_same (L : List K) (s m e t : Nat) (h : s = m ∨ e = m) (h1 : s ≤ m) (h2 : m ≤ e) : L[t]? = T L s m e t := by
  unfold T
  split
  · exact at_eq L (by omega)
  · split
    · exact at_eq L (by omega)
    · rfl
theorem T_mod {L M : List K} {a b s m e : Nat} (hp : M.Perm L) (h : ∀ t, M[t]? = T L s m e t) (h1 : a ≤ s) (h2 : s ≤ m) (h3 : m ≤ e) (h4 : e ≤ b) : Mod a b L M :=
  ⟨hp, fun t ht => by rw [T_A h, if_neg (by omega), if_neg (by omega)], fun t t1 t2 => by
    rw [T_A h]
    split
    · exact ⟨_, by omega, by omega, rfl⟩
    · split
      · exact ⟨_, by omega, by omega, rfl⟩
      · exact ⟨t, t1, t2, rfl⟩⟩
structure Split (L : List K) (a m b s e mid : Nat) : Prop where
  has : a ≤ s
  hsm : s ≤ m
  hme : m ≤ e
  heb : e ≤ b
  hmid : s + (e - m) = mid
  lo : ∀ p q, a ≤ p → p < s → e ≤ q → q < b → leK (A L p) (A L q)
  hi : ∀ p q, m ≤ p → p < e → s ≤ q → q < m → leK (A L p) (A L q)
theorem split_rot {L M : List K} {a m b s e mid : Nat} (S : Split L a m b s e mid) (h1 : SIn L a m) (h2 : SIn L m b) (h : ∀ t, M[t]? = T L s m e t) :
    SIn M a s ∧ SIn M s mid ∧ SIn M mid e ∧ SIn M e b ∧ ∀ p q, a ≤ p → p < mid → mid ≤ q → q < b → leK (A M p) (A M q) := by
  obtain ⟨k1, k2, k3, k4, k5, lo, hi⟩ := S
  have f1 : ∀ t, t < s → A M t = A L t := fun t ht => by rw [T_A h, if_neg (by omega), if_neg (by omega)]
  have f2 : ∀ t, s ≤ t → t < mid → A M t = A L (t - s + m) := fun t t1 t2 => by rw [T_A h, if_pos (by omega)]
  have f3 : ∀ t, mid ≤ t → t < e → A M t = A L (t - (e - m)) := fun t t1 t2 => by rw [T_A h, if_neg (by omega), if_pos (by omega)]
  have f4 : ∀ t, e ≤ t → A M t = A L t := fun t ht => by rw [T_A h, if_neg (by omega), if_neg (by omega)]
  refine ⟨fun i j a1 a2 a3 => ?_, fun i j a1 a2 a3 => ?_, fun i j a1 a2 a3 => ?_, fun i j a1 a2 a3 => ?_, fun p q a1 a2 a3 a4 => ?_⟩
  · rw [f1 i (by omega), f1 j a3]; exact h1 i j a1 a2 (by omega)
  · rw [f2 i a1 (by omega), f2 j (by omega) a3]; exact h2 _ _ (by omega) (by omega) (by omega)
  · rw [f3 i a1 (by omega), f3 j (by omega) a3]; exact h1 _ _ (by omega) (by omega) (by omega)
  · rw [f4 i a1, f4 j (by omega)]; exact h2 i j (by omega) a2 a3
  · by_cases c : p < s
    · rw [f1 p c]
      by_cases d : q < e
      · rw [f3 q a3 d]; exact h1 p _ a1 (by omega) (by omega)
      · rw [f4 q (by omega)]; exact lo p q a1 c (by omega) a4
    · rw [f2 p (by omega) a2]
      by_cases d : q < e
      · rw [f3 q a3 d]; exact hi _ _ (by omega) (by omega) (by omega) (by omega)
      · rw [f4 q (by omega)]; exact h2 _ q (by omega) (by omega) a4
theorem join_sorted {L1 L2 L3 : List K} {a mid b : Nat} (cr : ∀ p q, a ≤ p → p < mid → mid ≤ q → q < b → leK (A L1 p) (A L1 q)) (m2 : Mod a mid L1 L2) (m3 : Mod mid b L2 L3) (s2 : SIn L2 a mid) (s3 : SIn L3 mid b) : SIn L3 a b := by
  intro i j a1 a2 a3
  by_cases c : j < mid
  · rw [m3.out i (by omega), m3.out j (by omega)]; exact s2 i j a1 a2 c
  · by_cases d : mid ≤ i
    · exact s3 i j d a2 a3
    · rw [m3.out i (by omega)]
      obtain ⟨s, s1, s2', s3'⟩ := m2.frm i a1 (by omega)
      obtain ⟨r, r1, r2, r3⟩ := m3.frm j (by omega) a3
      rw [s3', r3, m2.out r (by omega)]
      exact cr s r s1 s2' r1 r2
theorem sin_one (L : List K) (a b : Nat) (h : b ≤ a + 1) : SIn L a b := fun i j h1 h2 h3 => by omega
theorem sin_join_empty {L : List K} {a s mid : Nat} (h1 : SIn L a s) (h2 : SIn L s mid) (h : s = a ∨ s = mid) : SIn L a mid := by
  rcases h with rfl | rfl
  · exact h2
  · exact h1

def ShR (L Z : List K) (a k : Nat) : Prop := ∀ t, A Z t = if a ≤ t ∧ t < k then A L (t + 1) else if t = k then A L a else A L t
theorem shR_start (L : List K) (a : Nat) : ShR L L a a := fun t => by
  by_cases c : t = a
  · subst c; rw [if_neg (by omega), if_pos rfl]
  · rw [if_neg (by omega), if_neg c]
theorem shR_step (L Z : List K) (a k : Nat) (hk : a ≤ k) (h : ShR L Z a k) (h1 : k < Z.length) (h2 : k + 1 < Z.length) : ShR L (swL Z k (k + 1) h1 h2) a (k + 1) := fun t => by
  rw [A_sw]
  by_cases c : t = k + 1
  · rw [if_pos c, h k, if_neg (by omega), if_pos rfl, if_neg (by omega), if_pos c]
  · rw [if_neg c]
    by_cases d : t = k
    · subst d
      rw [if_pos rfl, h (t + 1), if_neg (by omega), if_neg (by omega), if_pos (by omega)]
    · rw [if_neg d, h t]
      by_cases e : a ≤ t ∧ t < k
      · rw [if_pos e, if_pos (by omega)]
      · rw [if_neg e, if_neg d, if_neg (by omega), if_neg c]
theorem shR_sorted (L Z : List K) (a b i : Nat) (hi : a + 1 ≤ i) (hib : i ≤ b) (h : ShR L Z a (i - 1)) (hs : SIn L (a + 1) b) (lo : ∀ t, a + 1 ≤ t → t < i → leK (A L t) (A L a)) (hi' : ∀ t, i ≤ t → t < b → leK (A L a) (A L t)) : SIn Z a b := by
  intro p q p1 p2 p3
  rw [h p, h q]
  by_cases c : p < i - 1
  · rw [if_pos (by omega)]
    by_cases d : q < i - 1
    · rw [if_pos (by omega)]; exact hs _ _ (by omega) (by omega) (by omega)
    · rw [if_neg (by omega)]
      by_cases e : q = i - 1
      · rw [if_pos e]; exact lo _ (by omega) (by omega)
      · rw [if_neg e]; exact hs _ _ (by omega) (by omega) p3
  · rw [if_neg (by omega)]
    by_cases e : p = i - 1
    · rw [if_pos e, if_neg (by omega), if_neg (by omega)]; exact hi' q (by omega) p3
    · rw [if_neg e, if_neg (by omega), if_neg (by omega)]; exact hs p q (by omega) p2 p3
def ShL (L Z : List K) (m k : Nat) : Prop := ∀ t, A Z t = if t = k then A L m else if k < t ∧ t ≤ m then A L (t - 1) else A L t
theorem shL_start (L : List K) (m : Nat) : ShL L L m m := fun t => by
  by_cases c : t = m
  · subst c; rw [if_pos rfl]
  · rw [if_neg c, if_neg (by omega)]
theorem shL_step (L Z : List K) (m k : Nat) (hk : k + 1 ≤ m) (h : ShL L Z m (k + 1)) (h1 : k + 1 < Z.length) (h2 : k < Z.length) : ShL L (swL Z (k + 1) k h1 h2) m k := fun t => by
  rw [A_sw]
  by_cases c : t = k
  · rw [if_pos c, h (k + 1), if_pos rfl, if_pos c]
  · rw [if_neg c]
    by_cases d : t = k + 1
    · subst d
      rw [if_pos rfl, h k, if_neg (by omega), if_neg (by omega), if_neg (by omega), if_pos (by omega), Nat.add_sub_cancel]
    · rw [if_neg d, h t, if_neg d, if_neg c]
      by_cases e : k + 1 < t ∧ t ≤ m
      · rw [if_pos e, if_pos (by omega)]
      · rw [if_neg e, if_neg (by omega)]
theorem shL_sorted (L Z : List K) (a m i : Nat) (hi : a ≤ i) (him : i ≤ m) (h : ShL L Z m i) (hs : SIn L a m) (lo : ∀ t, a ≤ t → t < i → leK (A L t) (A L m)) (hi' : ∀ t, i ≤ t → t < m → leK (A L m) (A L t)) : SIn Z a (m + 1) := by
  intro p q p1 p2 p3
  rw [h p, h q]
  by_cases c : p = i
  · rw [if_pos c, if_neg (by omega), if_pos (by omega)]; exact hi' _ (by omega) (by omega)
  · rw [if_neg c]
    by_cases d : i < p
    · rw [if_pos (by omega), if_neg (by omega), if_pos (by omega)]; exact hs _ _ (by omega) (by omega) (by omega)
    · rw [if_neg (by omega)]
      by_cases e : q = i
      · rw [if_pos e]; exact lo p p1 (by omega)
      · rw [if_neg e]
        by_cases f : i < q
        · rw [if_pos (by omega)]
          exact hs.le p (q - 1) p1 (by omega) (by omega)
        · rw [if_neg (by omega)]; exact hs p q p1 p2 (by omega)
end Go.Proofs.YtcdikdiopklcgaaGreatDoor.So
