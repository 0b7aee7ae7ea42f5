/- The contract of the library's turning of two neighbouring ranges; no conditions but that the indices are within the row. -/
import Derived.Test.YtpefbmheblfbeaaGreatQc09
import Derived.Test.YtpefbmheblfbeaaGreatQc06
import Derived.Test.YtpefbmheblfbeaaGreatQc08
namespace Go.Proofs.YtpefbmheblfbeaaGreat.So
open Go.RowKit Go.Sort Go.Shelf Me
set_option linter.unusedVariables false
def T (L : List K) (lo m hi t : Nat) : Option K := if lo ≤ t ∧ t < lo + (hi - m) then L[t - lo + m]? else if lo + (hi - m) ≤ t ∧ t < hi then L[t - (hi - m)]? else L[t]?
theorem at_eq (L : List K) {x y : Nat} (h : x = y) : L[x]? = L[y]? := by rw [h]
theorem rot_gt (Y Y' : List K) (m i j : Nat) (h : SwapR Y (m - i) m j Y') (hj : j < i) (hi : i ≤ m) (t : Nat) : T Y' (m - (i - j)) m (m + j) t = T Y (m - i) m (m + j) t := by
  unfold T
  simp only [h.2]
  repeat' split
  all_goals first | rfl | (exfalso; omega) | exact at_eq Y (by omega)
theorem rot_lt (Y Y' : List K) (m i j : Nat) (h : SwapR Y (m - i) (m + j - i) i Y') (hj : i < j) (hi : i ≤ m) (t : Nat) : T Y' (m - i) m (m + (j - i)) t = T Y (m - i) m (m + j) t := by
  unfold T
  simp only [h.2]
  repeat' split
  all_goals first | rfl | (exfalso; omega) | exact at_eq Y (by omega)
theorem rot_eq (Y Y' : List K) (m i : Nat) (h : SwapR Y (m - i) m i Y') (hi : i ≤ m) (t : Nat) : Y'[t]? = T Y (m - i) m (m + i) t := by
  unfold T
  simp only [h.2]
  repeat' split
  all_goals first | rfl | (exfalso; omega) | exact at_eq Y (by omega)
set_option maxHeartbeats 2000000 in
theorem rot58 (w0 : World) (g n c : Nat) (L : List K) (a m b : Nat) (h1 : a < m) (h2 : m < b) (h3 : b ≤ n) (w : World) (hn : n ≤ 5864062014634) (R : RW w0 g n c L w) :
    Calls Tryz.prog 160 #[.slice (some ⟨g, 0, none⟩) n c, .int .i64 a, .int .i64 m, .int .i64 b, cmpF] w fun e w' => e = .returned (.tuple #[]) ∧ ∃ L', L'.Perm L ∧ (∀ t, L'[t]? = T L a m b t) ∧ RW w0 g n c L' w' := by
  have HR : Hid (RW w0 g n c L w) := R
  have hc : ∃ F, F = cmpF := ⟨_, rfl⟩
  obtain ⟨F, hF⟩ := hc
  have A : Hid (∀ (Y : List K) (a b m : Nat), a + m ≤ b → b + m ≤ n → ∀ w, RW w0 g n c Y w → Calls Tryz.prog 163 #[.slice (some ⟨g, 0, none⟩) n c, .int .i64 a, .int .i64 b, .int .i64 m, F] w fun e w' => e = .returned (.tuple #[]) ∧ ∃ L', SwapR Y a b m L' ∧ RW w0 g n c L' w') := fun Y a b m e1 e2 w r => by rw [hF]; exact swap64 w0 g n c Y a b m e1 e2 w hn r
  rw [← hF]
  clear R hF
  go_enter Tryz.func160, Tryz.ntmps160
  go_wp2
  go_loopw [10, 11] (fun x y wr => ∃ (i j : Nat) (Y : List K), x = .int .i64 i ∧ y = .int .i64 j ∧ 1 ≤ i ∧ 1 ≤ j ∧ i ≤ m ∧ m + j ≤ b ∧ Hid (Y.Perm L ∧ ∀ t, T Y (m - i) m (m + j) t = T L a m b t) ∧ Hid (RW w0 g n c Y wr)) (fun x y _ => (intOf x).toNat + (intOf y).toNat)
  case atStart =>
    refine ⟨m - a, b - m, L, by go_num, by go_num, by omega, by omega, by omega, by omega, ⟨List.Perm.refl _, fun t => ?_⟩, HR⟩
    rw [show m - (m - a) = a by omega, show m + (b - m) = b by omega]
  case round =>
    obtain ⟨i, j, Y, rfl, rfl, hi, hj, him, hjb, HS, HW⟩ := hrel
    have m1 : (m : Int) - (i : Int) = ((m - i : Nat) : Int) := by omega
    rcases Nat.lt_trichotomy i j with hlt | heq | hgt
    · have b1 : ((i : Int) == (j : Int)) = false := by simp; omega
      have c1 : ¬ (j : Int) < (i : Int) := by omega
      have m2 : (m : Int) + (j : Int) - (i : Int) = ((m + j - i : Nat) : Int) := by omega
      have AA : Hid _ := A.out Y (m - i) (m + j - i) i (by omega) (by omega) wr HW.out
      go_wp2_with fail
      refine Calls.mono AA.out ?_
      rintro e w1 ⟨rfl, Y', hs, hw⟩
      have H1 : Hid (Y'.Perm L ∧ ∀ t, T Y' (m - i) m (m + (j - i)) t = T L a m b t) := ⟨hs.1.trans HS.out.1, fun t => by rw [rot_lt Y Y' m i j hs hlt him]; exact HS.out.2 t⟩
      have H2 : Hid (RW w0 g n c Y' w1) := hw
      clear hs hw
      go_wp2
      go_roundw
      case rel => exact ⟨i, j - i, Y', rfl, by go_num, hi, by omega, him, by omega, H1, H2⟩
      case measure => simp [intOf]; omega
    · subst heq
      have AA : Hid _ := A.out Y (m - i) m i (by omega) (by omega) wr HW.out
      go_wp2_with fail
      refine Calls.mono AA.out ?_
      rintro e w1 ⟨rfl, Y', hs, hw⟩
      have H1 : Hid (Y'.Perm L ∧ ∀ t, Y'[t]? = T L a m b t) := ⟨hs.1.trans HS.out.1, fun t => by rw [rot_eq Y Y' m i hs him]; exact HS.out.2 t⟩
      have H2 : Hid (RW w0 g n c Y' w1) := hw
      clear hs hw
      go_wp2
      go_end0
      exact ⟨rfl, Y', H1.out.1, H1.out.2, H2.out⟩
    · have b1 : ((i : Int) == (j : Int)) = false := by simp; omega
      have c1 : (j : Int) < (i : Int) := by omega
      have AA : Hid _ := A.out Y (m - i) m j (by omega) (by omega) wr HW.out
      go_wp2_with fail
      refine Calls.mono AA.out ?_
      rintro e w1 ⟨rfl, Y', hs, hw⟩
      have H1 : Hid (Y'.Perm L ∧ ∀ t, T Y' (m - (i - j)) m (m + j) t = T L a m b t) := ⟨hs.1.trans HS.out.1, fun t => by rw [rot_gt Y Y' m i j hs hgt him]; exact HS.out.2 t⟩
      have H2 : Hid (RW w0 g n c Y' w1) := hw
      clear hs hw
      go_wp2
      go_roundw
      case rel => exact ⟨i - j, j, Y', by go_num, rfl, by omega, hj, by omega, hjb, H1, H2⟩
      case measure => simp [intOf]; omega
end Go.Proofs.YtpefbmheblfbeaaGreat.So
/- Lists that are turned within a range, and ranges in order, in plain words; no conditions. -/
namespace Go.Proofs.YtpefbmheblfbeaaGreat.So
set_option linter.unusedVariables false
def A (L : List K) (t : Nat) : K := (L[t]?).getD (0, ⟨#[]⟩)
theorem A_eq (L : List K) (t : Nat) (h : t < L.length) : A L t = L[t] := by unfold A; rw [List.getElem?_eq_getElem h]; rfl
theorem A_sw (L : List K) (i j : Nat) (hi : i < L.length) (hj : j < L.length) (t : Nat) : A (swL L i j hi hj) t = if t = j then A L i else if t = i then A L j else A L t := by
  unfold A
  rw [swL_at?]
  split
  · rfl
  · split <;> rfl
structure Mod (a b : Nat) (L L' : List K) : Prop where
  perm : L'.Perm L
  out : ∀ t, (t < a ∨ b ≤ t) → A L' t = A L t
  frm : ∀ t, a ≤ t → t < b → ∃ s, a ≤ s ∧ s < b ∧ A L' t = A L s
theorem Mod.refl (a b : Nat) (L : List K) : Mod a b L L := ⟨List.Perm.refl _, fun _ _ => rfl, fun t h1 h2 => ⟨t, h1, h2, rfl⟩⟩
theorem Mod.trans {a b : Nat} {L M N : List K} (h : Mod a b L M) (k : Mod a b M N) : Mod a b L N :=
  ⟨k.perm.trans h.perm, fun t ht => (k.out t ht).trans (h.out t ht), fun t h1 h2 => by
    obtain ⟨s, s1, s2, s3⟩ := k.frm t h1 h2
    obtain ⟨r, r1, r2, r3⟩ := h.frm s s1 s2
    exact ⟨r, r1, r2, s3.trans r3⟩⟩
theorem Mod.widen {a b a' b' : Nat} {L M : List K} (h : Mod a b L M) (ha : a' ≤ a) (hb : b ≤ b') : Mod a' b' L M :=
  ⟨h.perm, fun t ht => h.out t (by omega), fun t h1 h2 => by
    by_cases c : a ≤ t ∧ t < b
    · obtain ⟨s, s1, s2, s3⟩ := h.frm t c.1 c.2
      exact ⟨s, by omega, by omega, s3⟩
    · exact ⟨t, h1, h2, h.out t (by omega)⟩⟩
theorem mod_sw (a b : Nat) (L : List K) (i j : Nat) (hi : i < L.length) (hj : j < L.length) (h1 : a ≤ i) (h2 : i < b) (h3 : a ≤ j) (h4 : j < b) : Mod a b L (swL L i j hi hj) :=
  ⟨swL_perm _ _ _ _ _, fun t ht => by rw [A_sw, if_neg (by omega), if_neg (by omega)], fun t t1 t2 => by
    rw [A_sw]
    by_cases c : t = j
    · rw [if_pos c]; exact ⟨i, h1, h2, rfl⟩
    · rw [if_neg c]
      by_cases d : t = i
      · rw [if_pos d]; exact ⟨j, h3, h4, rfl⟩
      · rw [if_neg d]; exact ⟨t, t1, t2, rfl⟩⟩
def SIn (L : List K) (a b : Nat) : Prop := ∀ i j, a ≤ i → i < j → j < b → leK (A L i) (A L j)
theorem SIn.sub {L : List K} {a b a' b' : Nat} (h : SIn L a b) (ha : a ≤ a') (hb : b' ≤ b) : SIn L a' b' := fun i j h1 h2 h3 => h i j (by omega) h2 (by omega)
theorem SIn.le {L : List K} {a b : Nat} (h : SIn L a b) (i j : Nat) (h1 : a ≤ i) (h2 : i ≤ j) (h3 : j < b) : leK (A L i) (A L j) := by
  by_cases e : i = j
  · subst e; exact leK_refl _
  · exact h i j h1 (by omega) h3
theorem SIn.of_out {L M : List K} {a b x y : Nat} (h : SIn L a b) (hm : Mod x y L M) (hd : b ≤ x ∨ y ≤ a) : SIn M a b := fun i j h1 h2 h3 => by
  rw [hm.out i (by omega), hm.out j (by omega)]
  exact h i j h1 h2 h3
theorem sorted_of_sin (L : List K) (h : SIn L 0 L.length) : L.Pairwise leK := by
  rw [List.pairwise_iff_getElem]
  intro i j hi hj hij
  rw [← A_eq L i hi, ← A_eq L j hj]
  exact h i j (Nat.zero_le _) hij hj
def InsI (Z : List K) (a i j : Nat) : Prop := (∀ p q, a ≤ p → p < q → q ≤ i → p ≠ j → q ≠ j → leK (A Z p) (A Z q)) ∧ (∀ q, j < q → q ≤ i → leK (A Z j) (A Z q))
theorem insI_start (Z : List K) (a i : Nat) (h : SIn Z a i) : InsI Z a i i := ⟨fun p q h1 h2 h3 h4 h5 => h p q h1 h2 (by omega), fun q h1 h2 => by omega⟩
theorem insI_step (Z : List K) (a i j : Nat) (hj : j + 1 ≤ i) (ha : a ≤ j) (h : InsI Z a i (j + 1)) (h1 : j + 1 < Z.length) (h2 : j < Z.length) (hc : leK (A Z (j + 1)) (A Z j)) : InsI (swL Z (j + 1) j h1 h2) a i j := by
  refine ⟨fun p q p1 p2 p3 p4 p5 => ?_, fun q q1 q2 => ?_⟩
  · rw [A_sw, A_sw, if_neg p4, if_neg p5]
    by_cases c : p = j + 1
    · rw [if_pos c, if_neg (by omega)]
      exact h.1 j q ha (by omega) p3 (by omega) (by omega)
    · rw [if_neg c]
      by_cases d : q = j + 1
      · rw [if_pos d]
        exact h.1 p j p1 (by omega) (by omega) c (by omega)
      · rw [if_neg d]
        exact h.1 p q p1 p2 p3 c d
  · rw [A_sw, A_sw, if_pos rfl, if_neg (by omega)]
    by_cases d : q = j + 1
    · rw [if_pos d]; exact hc
    · rw [if_neg d]; exact h.2 q (by omega) q2
theorem insI_stop (Z : List K) (a i j : Nat) (hj : j ≤ i) (ha : a ≤ j) (h : InsI Z a i j) (hs : j = a ∨ leK (A Z (j - 1)) (A Z j)) : SIn Z a (i + 1) := fun p q p1 p2 p3 => by
  by_cases c : p = j
  · subst c; exact h.2 q p2 (by omega)
  · by_cases d : q = j
    · subst d
      rcases hs with e | e
      · omega
      · by_cases f : p = q - 1
        · subst f; exact e
        · exact leK_trans (h.1 p (q - 1) p1 (by omega) (by omega) c (by omega)) e
    · exact h.1 p q p1 p2 (by omega) c d
end Go.Proofs.YtpefbmheblfbeaaGreat.So
/- Merging two neighbouring ranges in order, in plain words; no conditions. -/
namespace Go.Proofs.YtpefbmheblfbeaaGreat.So
set_option linter.unusedVariables false
theorem T_A {L M : List K} {s m e : Nat} (h : ∀ t, M[t]? = T L s m e t) (t : Nat) : A M t = if s ≤ t ∧ t < s + (e - m) then A L (t - s + m) else if s + (e - m) ≤ t ∧ t < e then A L (t - (e - m)) else A L t := by
  unfold A
  rw [h]
  unfold T
  split
  · rfl
  · split <;> rfl
theorem T_same (L : List K) (s m e t : Nat) (h : s = m ∨ e = m) (h1 : s ≤ m) (h2 : m ≤ e) : L[t]? = T L s m e t := by
  unfold T
  split
  · exact at_eq L (by omega)
  · split
    · exact at_eq L (by omega)
    · rfl
theorem T_mod {L M : List K} {a b s m e : Nat} (hp : M.Perm L) (h : ∀ t, M[t]? = T L s m e t) (h1 : a ≤ s) (h2 : s ≤ m) (h3 : m ≤ e) (h4 : e ≤ b) : Mod a b L M :=
  ⟨hp, fun t ht => by rw [T_A h, if_neg (by omega), if_neg (by omega)], fun t t1 t2 => by
    rw [T_A h]
    split
    · exact ⟨_, by omega, by omega, rfl⟩
    · split
      · exact ⟨_, by omega, by omega, rfl⟩
      · exact ⟨t, t1, t2, rfl⟩⟩
structure Split (L : List K) (a m b s e mid : Nat) : Prop where
  has : a ≤ s
  hsm : s ≤ m
  hme : m ≤ e
  heb : e ≤ b
  hmid : s + (e - m) = mid
  lo : ∀ p q, a ≤ p → p < s → e ≤ q → q < b → leK (A L p) (A L q)
  hi : ∀ p q, m ≤ p → p < e → s ≤ q → q < m → leK (A L p) (A L q)
theorem split_rot {L M : List K} {a m b s e mid : Nat} (S : Split L a m b s e mid) (h1 : SIn L a m) (h2 : SIn L m b) (h : ∀ t, M[t]? = T L s m e t) :
    SIn M a s ∧ SIn M s mid ∧ SIn M mid e ∧ SIn M e b ∧ ∀ p q, a ≤ p → p < mid → mid ≤ q → q < b → leK (A M p) (A M q) := by
  obtain ⟨k1, k2, k3, k4, k5, lo, hi⟩ := S
  have f1 : ∀ t, t < s → A M t = A L t := fun t ht => by rw [T_A h, if_neg (by omega), if_neg (by omega)]
  have f2 : ∀ t, s ≤ t → t < mid → A M t = A L (t - s + m) := fun t t1 t2 => by rw [T_A h, if_pos (by omega)]
  have f3 : ∀ t, mid ≤ t → t < e → A M t = A L (t - (e - m)) := fun t t1 t2 => by rw [T_A h, if_neg (by omega), if_pos (by omega)]
  have f4 : ∀ t, e ≤ t → A M t = A L t := fun t ht => by rw [T_A h, if_neg (by omega), if_neg (by omega)]
  refine ⟨fun i j a1 a2 a3 => ?_, fun i j a1 a2 a3 => ?_, fun i j a1 a2 a3 => ?_, fun i j a1 a2 a3 => ?_, fun p q a1 a2 a3 a4 => ?_⟩
  · rw [f1 i (by omega), f1 j a3]; exact h1 i j a1 a2 (by omega)
  · rw [f2 i a1 (by omega), f2 j (by omega) a3]; exact h2 _ _ (by omega) (by omega) (by omega)
  · rw [f3 i a1 (by omega), f3 j (by omega) a3]; exact h1 _ _ (by omega) (by omega) (by omega)
  · rw [f4 i a1, f4 j (by omega)]; exact h2 i j (by omega) a2 a3
  · by_cases c : p < s
    · rw [f1 p c]
      by_cases d : q < e
      · rw [f3 q a3 d]; exact h1 p _ a1 (by omega) (by omega)
      · rw [f4 q (by omega)]; exact lo p q a1 c (by omega) a4
    · rw [f2 p (by omega) a2]
      by_cases d : q < e
      · rw [f3 q a3 d]; exact hi _ _ (by omega) (by omega) (by omega) (by omega)
      · rw [f4 q (by omega)]; exact h2 _ q (by omega) (by omega) a4
theorem join_sorted {L1 L2 L3 : List K} {a mid b : Nat} (cr : ∀ p q, a ≤ p → p < mid → mid ≤ q → q < b → leK (A L1 p) (A L1 q)) (m2 : Mod a mid L1 L2) (m3 : Mod mid b L2 L3) (s2 : SIn L2 a mid) (s3 : SIn L3 mid b) : SIn L3 a b := by
  intro i j a1 a2 a3
  by_cases c : j < mid
  · rw [m3.out i (by omega), m3.out j (by omega)]; exact s2 i j a1 a2 c
  · by_cases d : mid ≤ i
    · exact s3 i j d a2 a3
    · rw [m3.out i (by omega)]
      obtain ⟨s, s1, s2', s3'⟩ := m2.frm i a1 (by omega)
      obtain ⟨r, r1, r2, r3⟩ := m3.frm j (by omega) a3
      rw [s3', r3, m2.out r (by omega)]
      exact cr s r s1 s2' r1 r2
theorem sin_join_empty {L : List K} {a s mid : Nat} (h1 : SIn L a s) (h2 : SIn L s mid) (h : s = a ∨ s = mid) : SIn L a mid := by
  rcases h with rfl | rfl
  · exact h2
  · exact h1
def ShR (L Z : List K) (a k : Nat) : Prop := ∀ t, A Z t = if a ≤ t ∧ t < k then A L (t + 1) else if t = k then A L a else A L t
theorem shR_start (L : List K) (a : Nat) : ShR L L a a := fun t => by
  by_cases c : t = a
  · subst c; rw [if_neg (by omega), if_pos rfl]
  · rw [if_neg (by omega), if_neg c]
theorem shR_step (L Z : List K) (a k : Nat) (hk : a ≤ k) (h : ShR L Z a k) (h1 : k < Z.length) (h2 : k + 1 < Z.length) : ShR L (swL Z k (k + 1) h1 h2) a (k + 1) := fun t => by
  rw [A_sw]
  by_cases c : t = k + 1
  · rw [if_pos c, h k, if_neg (by omega), if_pos rfl, if_neg (by omega), if_pos c]
  · rw [if_neg c]
    by_cases d : t = k
    · subst d
      rw [if_pos rfl, h (t + 1), if_neg (by omega), if_neg (by omega), if_pos (by omega)]
    · rw [if_neg d, h t]
      by_cases e : a ≤ t ∧ t < k
      · rw [if_pos e, if_pos (by omega)]
      · rw [if_neg e, if_neg d, if_neg (by omega), if_neg c]
theorem shR_sorted (L Z : List K) (a b i : Nat) (hi : a + 1 ≤ i) (hib : i ≤ b) (h : ShR L Z a (i - 1)) (hs : SIn L (a + 1) b) (lo : ∀ t, a + 1 ≤ t → t < i → leK (A L t) (A L a)) (hi' : ∀ t, i ≤ t → t < b → leK (A L a) (A L t)) : SIn Z a b := by
  intro p q p1 p2 p3
  rw [h p, h q]
  by_cases c : p < i - 1
  · rw [if_pos (by omega)]
    by_cases d : q < i - 1
    · rw [if_pos (by omega)]; exact hs _ _ (by omega) (by omega) (by omega)
    · rw [if_neg (by omega)]
      by_cases e : q = i - 1
      · rw [if_pos e]; exact lo _ (by omega) (by omega)
      · rw [if_neg e]; exact hs _ _ (by omega) (by omega) p3
  · rw [if_neg (by omega)]
    by_cases e : p = i - 1
    · rw [if_pos e, if_neg (by omega), if_neg (by omega)]; exact hi' q (by omega) p3
    · rw [if_neg e, if_neg (by omega), if_neg (by omega)]; exact hs p q (by omega) p2 p3
def ShL (L Z : List K) (m k : Nat) : Prop := ∀ t, A Z t = if t = k then A L m else if k < t ∧ t ≤ m then A L (t - 1) else A L t
theorem shL_start (L : List K) (m : Nat) : ShL L L m m := fun t => by
  by_cases c : t = m
  · subst c; rw [if_pos rfl]
  · rw [if_neg c, if_neg (by omega)]
theorem shL_step (L Z : List K) (m k : Nat) (hk : k + 1 ≤ m) (h : ShL L Z m (k + 1)) (h1 : k + 1 < Z.length) (h2 : k < Z.length) : ShL L (swL Z (k + 1) k h1 h2) m k := fun t => by
  rw [A_sw]
  by_cases c : t = k
  · rw [if_pos c, h (k + 1), if_pos rfl, if_pos c]
  · rw [if_neg c]
    by_cases d : t = k + 1
    · subst d
      rw [if_pos rfl, h k, if_neg (by omega), if_neg (by omega), if_neg (by omega), if_pos (by omega), Nat.add_sub_cancel]
    · rw [if_neg d, h t, if_neg d, if_neg c]
      by_cases e : k + 1 < t ∧ t ≤ m
      · rw [if_pos e, if_pos (by omega)]
      · rw [if_neg e, if_neg (by omega)]
theorem shL_sorted (L Z : List K) (a m i : Nat) (hi : a ≤ i) (him : i ≤ m) (h : ShL L Z m i) (hs : SIn L a m) (lo : ∀ t, a ≤ t → t < i → leK (A L t) (A L m)) (hi' : ∀ t, i ≤ t → t < m → leK (A L m) (A L t)) : SIn Z a (m + 1) := by
  intro p q p1 p2 p3
  rw [h p, h q]
  by_cases c : p = i
  · rw [if_pos c, if_neg (by omega), if_pos (by omega)]; exact hi' _ (by omega) (by omega)
  · rw [if_neg c]
    by_cases d : i < p
    · rw [if_pos (by omega), if_neg (by omega), if_pos (by omega)]; exact hs _ _ (by omega) (by omega) (by omega)
    · rw [if_neg (by omega)]
      by_cases e : q = i
      · rw [if_pos e]; exact lo p p1 (by omega)
      · rw [if_neg e]
        by_cases f : i < q
        · rw [if_pos (by omega)]
          exact hs.le p (q - 1) p1 (by omega) (by omega)
        · rw [if_neg (by omega)]; exact hs p q p1 p2 (by omega)
end Go.Proofs.YtpefbmheblfbeaaGreat.So
/- The contract of the library's sort by insertion at keys; no conditions but that the indices are within the row. -/
namespace Go.Proofs.YtpefbmheblfbeaaGreat.So
open Go.RowKit Go.Sort Go.Shelf Me
set_option linter.unusedVariables false
theorem cmp_le {L : List K} {i j : Nat} (h : cmpK (A L i).1 (A L i).2 (A L j).1 (A L j).2 < 0) : leK (A L i) (A L j) := leK_of_lt h
theorem cmp_ge {L : List K} {i j : Nat} (h : ¬ cmpK (A L i).1 (A L i).2 (A L j).1 (A L j).2 < 0) : leK (A L j) (A L i) := leK_of_not h
theorem RW.at' {w0 w : World} {g n c : Nat} {L : List K} (h : RW w0 g n c L w) (i : Nat) (hi : i < n) :
    w.cell? ⟨g, i * 2, none⟩ = some (.int .u16 (A L i).1) ∧ w.cell? ⟨g, i * 2 + 1, none⟩ = some (.string (A L i).2) ∧ w.frozen? ⟨g, i * 2, none⟩ = false ∧ w.frozen? ⟨g, i * 2 + 1, none⟩ = false := by
  have hl := h.len
  rw [A_eq L i (by omega)]
  exact h.at i (by omega)
theorem RW.swap' {w0 w : World} {g n c : Nat} {L : List K} (h : RW w0 g n c L w) (i j : Nat) (hi : i < L.length) (hj : j < L.length) :
    RW w0 g n c (swL L i j hi hj) ((((w.setCell ⟨g, i * 2, none⟩ (.int .u16 (A L j).1)).setCell ⟨g, i * 2 + 1, none⟩ (.string (A L j).2)).setCell ⟨g, j * 2, none⟩ (.int .u16 (A L i).1)).setCell ⟨g, j * 2 + 1, none⟩ (.string (A L i).2)) := by
  rw [A_eq L i hi, A_eq L j hj]
  exact h.swap i j hi hj
set_option maxHeartbeats 4000000 in
theorem ins51 (w0 : World) (g n c : Nat) (L : List K) (a b : Nat) (h1 : a ≤ b) (h3 : b ≤ n) (w : World) (hn : n ≤ 5864062014634) (R : RW w0 g n c L w) :
    Calls Tryz.prog 154 #[.slice (some ⟨g, 0, none⟩) n c, .int .i64 a, .int .i64 b, cmpF] w fun e w' => e = .returned (.tuple #[]) ∧ ∃ L', Mod a b L L' ∧ SIn L' a b ∧ RW w0 g n c L' w' := by
  have mixed : Tryz.prog.follows .mixedOrders = true := by kernel_rfl
  have HR : Hid (RW w0 g n c L w) := R
  clear R
  unfold cmpF
  go_enter Tryz.func154, Tryz.ntmps154
  go_wp2
  go_loopw [8] (fun v wr => ∃ (i : Nat) (Y : List K), v = .int .i64 i ∧ a + 1 ≤ i ∧ i ≤ b + 1 ∧ Hid (Mod a b L Y ∧ SIn Y a (min i b)) ∧ Hid (RW w0 g n c Y wr)) (fun v _ => b + 1 - (intOf v).toNat)
  case atStart => exact ⟨a + 1, L, by go_num, Nat.le_refl _, by omega, ⟨Mod.refl _ _ _, fun i j q1 q2 q3 => by omega⟩, HR⟩
  case round =>
    obtain ⟨i, Y, rfl, hi, hib, HM, HW⟩ := hrel
    by_cases hlt : i < b
    · have iz : (i : Int) < (b : Int) := by omega
      go_wp2
      go_loopw [9] (fun v wr => ∃ (j : Nat) (Z : List K), v = .int .i64 j ∧ a ≤ j ∧ j ≤ i ∧ Hid (Mod a b L Z ∧ InsI Z a i j) ∧ Hid (RW w0 g n c Z wr)) (fun v _ => (intOf v).toNat)
      case atStart => exact ⟨i, Y, rfl, by omega, Nat.le_refl _, ⟨HM.out.1, insI_start Y a i (HM.out.2.sub (Nat.le_refl _) (by omega))⟩, HW⟩
      case round =>
        obtain ⟨j, Z, rfl, haj, hji, HZ, HV⟩ := hrel
        have hZl := HV.out.len
        by_cases hja : a < j
        · obtain ⟨jp, rfl⟩ : ∃ jp, j = jp + 1 := ⟨j - 1, by omega⟩
          have jz : (a : Int) < (jp : Int) + 1 := by omega
          have i1 : (jp : Int) + 1 < (n : Int) := by omega
          have i2 : (jp : Int) < (n : Int) := by omega
          have i3 : (0 : Int) ≤ (jp : Int) + 1 := by omega
          have i4 : ((jp : Int) + 1).toNat = jp + 1 := by omega
          have wj : IntKind.i64.wrap (jp : Int) = (jp : Int) := by rw [IntKind.wrap_i64]; omega
          have q1 : jp + 1 < Z.length := by omega
          have q2 : jp < Z.length := by omega
          have v0 : ∀ n os, (grow (wr.drewN n) os).cell? ⟨g, (jp + 1) * 2, none⟩ = some (.int .u16 (A Z (jp + 1)).1) := fun n os => (gr_grow wr n os).cell (HV.out.at' (jp + 1) (by omega)).1 (by exact HV.out.lt')
          have v1 : ∀ n os, (grow (wr.drewN n) os).cell? ⟨g, (jp + 1) * 2 + 1, none⟩ = some (.string (A Z (jp + 1)).2) := fun n os => (gr_grow wr n os).cell (HV.out.at' (jp + 1) (by omega)).2.1 (by exact HV.out.lt')
          have v2 : ∀ n os, (grow (wr.drewN n) os).cell? ⟨g, jp * 2, none⟩ = some (.int .u16 (A Z jp).1) := fun n os => (gr_grow wr n os).cell (HV.out.at' jp (by omega)).1 (by exact HV.out.lt')
          have v3 : ∀ n os, (grow (wr.drewN n) os).cell? ⟨g, jp * 2 + 1, none⟩ = some (.string (A Z jp).2) := fun n os => (gr_grow wr n os).cell (HV.out.at' jp (by omega)).2.1 (by exact HV.out.lt')
          have HGO : Hid (cmpK (A Z (jp + 1)).1 (A Z (jp + 1)).2 (A Z jp).1 (A Z jp).2 < 0 → Mod a b L (swL Z (jp + 1) jp q1 q2) ∧ InsI (swL Z (jp + 1) jp q1 q2) a i jp) := fun hc =>
            ⟨HZ.out.1.trans (mod_sw a b Z (jp + 1) jp q1 q2 (by omega) (by omega) (by omega) (by omega)), insI_step Z a i jp (by omega) (by omega) HZ.out.2 q1 q2 (cmp_le hc)⟩
          have HST : Hid (¬ cmpK (A Z (jp + 1)).1 (A Z (jp + 1)).2 (A Z jp).1 (A Z jp).2 < 0 → SIn Z a (i + 1)) := fun hc => insI_stop Z a i (jp + 1) (by omega) (by omega) HZ.out.2 (Or.inr (cmp_ge hc))
          have HSW : Hid (∀ w', RW w0 g n c Z w' → RW w0 g n c (swL Z (jp + 1) jp q1 q2) ((((w'.setCell ⟨g, (jp + 1) * 2, none⟩ (.int .u16 (A Z jp).1)).setCell ⟨g, (jp + 1) * 2 + 1, none⟩ (.string (A Z jp).2)).setCell ⟨g, jp * 2, none⟩ (.int .u16 (A Z (jp + 1)).1)).setCell ⟨g, jp * 2 + 1, none⟩ (.string (A Z (jp + 1)).2))) := fun w' hw => hw.swap' (jp + 1) jp q1 q2
          have HFR : Hid (∀ w', RW w0 g n c Z w' → (w'.frozen? ⟨g, (jp + 1) * 2, none⟩ = false ∧ w'.frozen? ⟨g, (jp + 1) * 2 + 1, none⟩ = false ∧ w'.frozen? ⟨g, jp * 2, none⟩ = false ∧ w'.frozen? ⟨g, jp * 2 + 1, none⟩ = false)) := fun w' hw => ⟨(hw.at' (jp + 1) (by omega)).2.2.1, (hw.at' (jp + 1) (by omega)).2.2.2, (hw.at' jp (by omega)).2.2.1, (hw.at' jp (by omega)).2.2.2⟩
          have HMZ : Hid (Mod a b L Z) := HZ.out.1
          have CM : Hid (∀ w, Calls Tryz.prog 134 #[.agg #[.int .u16 (A Z (jp + 1)).1, .string (A Z (jp + 1)).2], .agg #[.int .u16 (A Z jp).1, .string (A Z jp).2]] w fun e w' => e = .returned (.int .i64 (cmpK (A Z (jp + 1)).1 (A Z (jp + 1)).2 (A Z jp).1 (A Z jp).2)) ∧ Gr w w') := fun w => kcmp_ _ _ _ _ w
          clear hZl
          generalize swL Z (jp + 1) jp q1 q2 = Z' at *
          generalize cmpK (A Z (jp + 1)).1 (A Z (jp + 1)).2 (A Z jp).1 (A Z jp).2 = cv at *
          generalize (A Z (jp + 1)).1 = x1 at *
          generalize (A Z (jp + 1)).2 = x2 at *
          generalize (A Z jp).1 = y1 at *
          generalize (A Z jp).2 = y2 at *
          clear HZ
          by_cases hc : cv < 0
          · go_wp2_with fail
            go_quiet_grown (first | (go_at_call 134; refine Calls.grown_of (CM.out _)) | (go_at_fn 134; refine Calls.grown_of (CM.out _)))
            obtain ⟨V, hV⟩ : ∃ V, V = grow (wr.drewN nq) osq := ⟨_, rfl⟩
            have HV2 : Hid (RW w0 g n c Z V) := by rw [hV]; exact HV.out.gr (gr_grow _ _ _)
            have u0 : V.cell? ⟨g, (jp + 1) * 2, none⟩ = some (.int .u16 x1) := by rw [hV]; exact v0 _ _
            have u1 : V.cell? ⟨g, (jp + 1) * 2 + 1, none⟩ = some (.string x2) := by rw [hV]; exact v1 _ _
            have u2 : V.cell? ⟨g, jp * 2, none⟩ = some (.int .u16 y1) := by rw [hV]; exact v2 _ _
            have u3 : V.cell? ⟨g, jp * 2 + 1, none⟩ = some (.string y2) := by rw [hV]; exact v3 _ _
            obtain ⟨t0, t1, t2, t3⟩ := HFR.out V HV2.out
            rw [← hV]
            clear hV v0 v1 v2 v3
            go_wp2_with fail
            go_region
            all_goals go_wp2
            all_goals go_roundw
            case rel => exact ⟨jp, Z', by go_num, by omega, by omega, HGO.out hc, (HSW.out V HV2.out).gr ((Gr.refl _).drew)⟩
            case measure => simp [intOf]
          · go_wp2_with fail
            go_quiet_grown (first | (go_at_call 134; refine Calls.grown_of (CM.out _)) | (go_at_fn 134; refine Calls.grown_of (CM.out _)))
            go_wp2
            go_roundw
            case rel => exact ⟨i + 1, Z, by go_num, by omega, by omega, ⟨HMZ.out, (HST.out (by omega)).sub (Nat.le_refl _) (by omega)⟩, HV.out.gr (gr_grow _ _ _)⟩
            case measure => simp [intOf]; omega
        · obtain rfl : j = a := by omega
          have jz : decide ((j : Int) > (j : Int)) = false := decide_eq_false (by omega)
          have HST : Hid (SIn Z j (i + 1)) := insI_stop Z j i j hji (Nat.le_refl _) HZ.out.2 (Or.inl rfl)
          have HMZ : Hid (Mod j b L Z) := HZ.out.1
          clear hZl HZ
          go_wp2_with fail
          go_quiet (fail)
          go_wp2
          go_roundw
          case rel => exact ⟨i + 1, Z, by go_num, by omega, by omega, ⟨HMZ.out, HST.out.sub (Nat.le_refl _) (by omega)⟩, HV.out.gr ((Gr.refl _).drewN _)⟩
          case measure => simp [intOf]; omega
    · have iz : ¬ (i : Int) < (b : Int) := by omega
      have HM' : Hid (Mod a b L Y ∧ SIn Y a b) := ⟨HM.out.1, HM.out.2.sub (Nat.le_refl _) (by omega)⟩
      clear HM
      go_wp2
      go_end0
      exact ⟨rfl, Y, HM'.out.1, HM'.out.2, HW.out⟩
end Go.Proofs.YtpefbmheblfbeaaGreat.So
/- The library's merge of two neighbouring ranges where the left one holds one key; no conditions but that the indices are within the row. -/
namespace Go.Proofs.YtpefbmheblfbeaaGreat.So
open Go.RowKit Go.Sort Go.Shelf Me
set_option linter.unusedVariables false
theorem RW.cells {w0 w : World} {g n c : Nat} {L : List K} (h : RW w0 g n c L w) (i : Nat) (hi : i < n) (k : Nat) (os : Array Obj) :
    (grow (w.drewN k) os).cell? ⟨g, i * 2, none⟩ = some (.int .u16 (A L i).1) ∧ (grow (w.drewN k) os).cell? ⟨g, i * 2 + 1, none⟩ = some (.string (A L i).2) :=
  ⟨(gr_grow w k os).cell (h.at' i hi).1 (by exact h.lt'), (gr_grow w k os).cell (h.at' i hi).2.1 (by exact h.lt')⟩
set_option maxHeartbeats 8000000 in
set_option maxRecDepth 100000 in
theorem sym52_left (w0 : World) (g n c : Nat) (L : List K) (a m b : Nat) (hm : m = a + 1) (h2 : m < b) (h3 : b ≤ n) (w : World) (hn : n ≤ 5864062014634) (S2 : SIn L m b) (R : RW w0 g n c L w) :
    Calls Tryz.prog 155 #[.slice (some ⟨g, 0, none⟩) n c, .int .i64 a, .int .i64 m, .int .i64 b, cmpF] w fun e w' => e = .returned (.tuple #[]) ∧ ∃ L', Mod a b L L' ∧ SIn L' a b ∧ RW w0 g n c L' w' := by
  have mixed : Tryz.prog.follows .mixedOrders = true := by kernel_rfl
  have HR : Hid (RW w0 g n c L w) := R
  have HS : Hid (SIn L m b) := S2
  have HMA : Hid (m = a + 1) := hm
  have b1 : ((m : Int) - (a : Int) == 1) = true := by simp; omega
  have ham : a < m := by omega
  clear R S2 hm
  unfold cmpF
  go_enter Tryz.func155, Tryz.ntmps155
  go_wp2
  go_loopw [10, 11] (fun x y wr => ∃ (i j : Nat), x = .int .i64 i ∧ y = .int .i64 j ∧ m ≤ i ∧ i ≤ j ∧ j ≤ b ∧ Hid (∀ t, m ≤ t → t < i → leK (A L t) (A L a)) ∧ Hid (∀ t, j ≤ t → t < b → leK (A L a) (A L t)) ∧ Hid (RW w0 g n c L wr)) (fun x y _ => (intOf y).toNat - (intOf x).toNat)
  case atStart => exact ⟨m, b, rfl, rfl, Nat.le_refl _, by omega, Nat.le_refl _, fun t q1 q2 => by omega, fun t q1 q2 => by omega, HR⟩
  case round =>
    obtain ⟨i, j, rfl, rfl, hi, hij, hjb, HLo, HHi, HW⟩ := hrel
    by_cases hlt : i < j
    · have iz : (i : Int) < (j : Int) := by omega
      obtain ⟨h, hh⟩ : ∃ h, h = (i + j) / 2 := ⟨_, rfl⟩
      have e1 : ((i : Int) + (j : Int)) / 2 = (h : Int) := by omega
      have hz : (h : Int) < (n : Int) := by omega
      have az : (a : Int) < (n : Int) := by omega
      have k1 : i ≤ h ∧ h < j := by omega
      have v0 := fun k os => (HW.out.cells h (by omega) k os).1
      have v1 := fun k os => (HW.out.cells h (by omega) k os).2
      have v2 := fun k os => (HW.out.cells a (by omega) k os).1
      have v3 := fun k os => (HW.out.cells a (by omega) k os).2
      have CM : Hid (∀ w, Calls Tryz.prog 134 #[.agg #[.int .u16 (A L h).1, .string (A L h).2], .agg #[.int .u16 (A L a).1, .string (A L a).2]] w fun e w' => e = .returned (.int .i64 (cmpK (A L h).1 (A L h).2 (A L a).1 (A L a).2)) ∧ Gr w w') := fun w => kcmp_ _ _ _ _ w
      have H1 : Hid (cmpK (A L h).1 (A L h).2 (A L a).1 (A L a).2 < 0 → ∀ t, m ≤ t → t < h + 1 → leK (A L t) (A L a)) := fun hc t q1 q2 => leK_trans (HS.out.le t h q1 (by omega) (by omega)) (cmp_le hc)
      have H2 : Hid (¬ cmpK (A L h).1 (A L h).2 (A L a).1 (A L a).2 < 0 → ∀ t, h ≤ t → t < b → leK (A L a) (A L t)) := fun hc t q1 q2 => leK_trans (cmp_ge hc) (HS.out.le h t (by omega) q1 q2)
      generalize cmpK (A L h).1 (A L h).2 (A L a).1 (A L a).2 = cv at *
      generalize (A L h).1 = x1 at *
      generalize (A L h).2 = x2 at *
      generalize (A L a).1 = y1 at *
      generalize (A L a).2 = y2 at *
      clear hh
      by_cases hc : cv < 0
      · go_wp2_with fail
        go_quiet_grown (first | (go_at_call 134; refine Calls.grown_of (CM.out _)) | (go_at_fn 134; refine Calls.grown_of (CM.out _)))
        go_wp2
        go_roundw
        case rel => exact ⟨h + 1, j, by go_num, rfl, by omega, by omega, hjb, H1.out hc, HHi, HW.out.gr (gr_grow _ _ _)⟩
        case measure => simp [intOf]; omega
      · go_wp2_with fail
        go_quiet_grown (first | (go_at_call 134; refine Calls.grown_of (CM.out _)) | (go_at_fn 134; refine Calls.grown_of (CM.out _)))
        go_wp2
        go_roundw
        case rel => exact ⟨i, h, rfl, rfl, hi, by omega, by omega, HLo, H2.out (by omega), HW.out.gr (gr_grow _ _ _)⟩
        case measure => simp [intOf]; omega
    · obtain rfl : i = j := by omega
      have iz : ¬ (i : Int) < (i : Int) := by omega
      go_wp2
      go_loopw [13] (fun x wr => ∃ (k : Nat) (Z : List K), x = .int .i64 k ∧ a ≤ k ∧ k + 1 ≤ i ∧ Hid (Mod a b L Z ∧ ShR L Z a k) ∧ Hid (RW w0 g n c Z wr)) (fun x _ => i - (intOf x).toNat)
      case atStart => exact ⟨a, L, rfl, Nat.le_refl _, by omega, ⟨Mod.refl _ _ _, shR_start L a⟩, HW⟩
      case round =>
        obtain ⟨k, Z, rfl, hak, hki, HZ, HV⟩ := hrel
        have hZl := HV.out.len
        by_cases hk : k + 1 < i
        · have kz : (k : Int) < (i : Int) - 1 := by omega
          have q1 : k < Z.length := by omega
          have q2 : k + 1 < Z.length := by omega
          have i1 : (k : Int) + 1 < (n : Int) := by omega
          have i2 : (k : Int) < (n : Int) := by omega
          have i3 : (0 : Int) ≤ (k : Int) + 1 := by omega
          have i4 : ((k : Int) + 1).toNat = k + 1 := by omega
          have wk : IntKind.i64.wrap ((k : Int) + 1) = (k : Int) + 1 := by rw [IntKind.wrap_i64]; omega
          obtain ⟨a0, a1, a2, a3⟩ := HV.out.at' k (by omega)
          obtain ⟨c0, c1, c2, c3⟩ := HV.out.at' (k + 1) (by omega)
          have HX : Hid _ := HV.out.swap' k (k + 1) q1 q2
          have HN : Hid (Mod a b L (swL Z k (k + 1) q1 q2) ∧ ShR L (swL Z k (k + 1) q1 q2) a (k + 1)) := ⟨HZ.out.1.trans (mod_sw a b Z k (k + 1) q1 q2 hak (by omega) (by omega) (by omega)), shR_step L Z a k hak HZ.out.2 q1 q2⟩
          clear hZl
          generalize swL Z k (k + 1) q1 q2 = Z' at *
          generalize (A Z k).1 = x1 at *
          generalize (A Z k).2 = x2 at *
          generalize (A Z (k + 1)).1 = y1 at *
          generalize (A Z (k + 1)).2 = y2 at *
          go_wp2
          go_region
          all_goals go_wp2
          all_goals go_roundw
          case rel => exact ⟨k + 1, Z', by go_num, by omega, by omega, HN, HX.out.gr ((Gr.refl _).drew)⟩
          case measure => simp [intOf]; omega
        · have kz : ¬ (k : Int) < (i : Int) - 1 := by omega
          have HE : Hid (Mod a b L Z ∧ SIn Z a b) := ⟨HZ.out.1, shR_sorted L Z a b i (by have := HMA.out; omega) hjb (by rw [show i - 1 = k by omega]; exact HZ.out.2) (by rw [← HMA.out]; exact HS.out) (by rw [← HMA.out]; exact HLo.out) HHi.out⟩
          clear hZl
          go_wp2
          exact bodyPost_ret (v := .tuple #[]) (by simp [results, Tryz.results155, go_sem]) rfl ⟨rfl, Z, HE.out.1, HE.out.2, HV.out⟩
end Go.Proofs.YtpefbmheblfbeaaGreat.So
/- The library's merge of two neighbouring ranges where the right one holds one key; no conditions but that the indices are within the row. -/
namespace Go.Proofs.YtpefbmheblfbeaaGreat.So
open Go.RowKit Go.Sort Go.Shelf Me
set_option linter.unusedVariables false
set_option maxHeartbeats 8000000 in
set_option maxRecDepth 100000 in
theorem sym52_right (w0 : World) (g n c : Nat) (L : List K) (a m b : Nat) (ham : a + 1 < m) (hb : b = m + 1) (h3 : b ≤ n) (w : World) (hn : n ≤ 5864062014634) (S1 : SIn L a m) (R : RW w0 g n c L w) :
    Calls Tryz.prog 155 #[.slice (some ⟨g, 0, none⟩) n c, .int .i64 a, .int .i64 m, .int .i64 b, cmpF] w fun e w' => e = .returned (.tuple #[]) ∧ ∃ L', Mod a b L L' ∧ SIn L' a b ∧ RW w0 g n c L' w' := by
  have mixed : Tryz.prog.follows .mixedOrders = true := by kernel_rfl
  have HR : Hid (RW w0 g n c L w) := R
  have HS : Hid (SIn L a m) := S1
  have HMB : Hid (b = m + 1) := hb
  have b1 : ((m : Int) - (a : Int) == 1) = false := by simp; omega
  have b2 : ((b : Int) - (m : Int) == 1) = true := by simp; omega
  have h2 : m < b := by omega
  clear R S1 hb
  unfold cmpF
  go_enter Tryz.func155, Tryz.ntmps155
  go_wp2
  go_loopw [14, 15] (fun x y wr => ∃ (i j : Nat), x = .int .i64 i ∧ y = .int .i64 j ∧ a ≤ i ∧ i ≤ j ∧ j ≤ m ∧ Hid (∀ t, a ≤ t → t < i → leK (A L t) (A L m)) ∧ Hid (∀ t, j ≤ t → t < m → leK (A L m) (A L t)) ∧ Hid (RW w0 g n c L wr)) (fun x y _ => (intOf y).toNat - (intOf x).toNat)
  case atStart => exact ⟨a, m, rfl, rfl, Nat.le_refl _, by omega, Nat.le_refl _, fun t q1 q2 => by omega, fun t q1 q2 => by omega, HR⟩
  case round =>
    obtain ⟨i, j, rfl, rfl, hi, hij, hjb, HLo, HHi, HW⟩ := hrel
    by_cases hlt : i < j
    · have iz : (i : Int) < (j : Int) := by omega
      obtain ⟨h, hh⟩ : ∃ h, h = (i + j) / 2 := ⟨_, rfl⟩
      have e1 : ((i : Int) + (j : Int)) / 2 = (h : Int) := by omega
      have hz : (h : Int) < (n : Int) := by omega
      have az : (m : Int) < (n : Int) := by omega
      have k1 : i ≤ h ∧ h < j := by omega
      have v0 := fun k os => (HW.out.cells m (by omega) k os).1
      have v1 := fun k os => (HW.out.cells m (by omega) k os).2
      have v2 := fun k os => (HW.out.cells h (by omega) k os).1
      have v3 := fun k os => (HW.out.cells h (by omega) k os).2
      have CM : Hid (∀ w, Calls Tryz.prog 134 #[.agg #[.int .u16 (A L m).1, .string (A L m).2], .agg #[.int .u16 (A L h).1, .string (A L h).2]] w fun e w' => e = .returned (.int .i64 (cmpK (A L m).1 (A L m).2 (A L h).1 (A L h).2)) ∧ Gr w w') := fun w => kcmp_ _ _ _ _ w
      have H1 : Hid (¬ cmpK (A L m).1 (A L m).2 (A L h).1 (A L h).2 < 0 → ∀ t, a ≤ t → t < h + 1 → leK (A L t) (A L m)) := fun hc t q1 q2 => leK_trans (HS.out.le t h q1 (by omega) (by omega)) (cmp_ge hc)
      have H2 : Hid (cmpK (A L m).1 (A L m).2 (A L h).1 (A L h).2 < 0 → ∀ t, h ≤ t → t < m → leK (A L m) (A L t)) := fun hc t q1 q2 => leK_trans (cmp_le hc) (HS.out.le h t (by omega) q1 q2)
      generalize cmpK (A L m).1 (A L m).2 (A L h).1 (A L h).2 = cv at *
      generalize (A L h).1 = x1 at *
      generalize (A L h).2 = x2 at *
      generalize (A L m).1 = y1 at *
      generalize (A L m).2 = y2 at *
      clear hh
      by_cases hc : cv < 0
      · go_wp2_with fail
        go_quiet_grown (first | (go_at_call 134; refine Calls.grown_of (CM.out _)) | (go_at_fn 134; refine Calls.grown_of (CM.out _)))
        go_wp2
        go_roundw
        case rel => exact ⟨i, h, rfl, rfl, hi, by omega, by omega, HLo, H2.out hc, HW.out.gr (gr_grow _ _ _)⟩
        case measure => simp [intOf]; omega
      · go_wp2_with fail
        go_quiet_grown (first | (go_at_call 134; refine Calls.grown_of (CM.out _)) | (go_at_fn 134; refine Calls.grown_of (CM.out _)))
        go_wp2
        all_goals first | (rename_i hx; exact absurd hx (by rw [Bool.not_eq_false', decide_eq_true_eq]; omega)) | skip
        go_roundw
        case rel => exact ⟨h + 1, j, by go_num, rfl, by omega, by omega, hjb, H1.out (by omega), HHi, HW.out.gr (gr_grow _ _ _)⟩
        case measure => simp [intOf]; omega
    · obtain rfl : i = j := by omega
      have iz : ¬ (i : Int) < (i : Int) := by omega
      go_wp2
      go_loopw [17] (fun x wr => ∃ (k : Nat) (Z : List K), x = .int .i64 k ∧ i ≤ k ∧ k ≤ m ∧ Hid (Mod a b L Z ∧ ShL L Z m k) ∧ Hid (RW w0 g n c Z wr)) (fun x _ => (intOf x).toNat)
      case atStart => exact ⟨m, L, rfl, by omega, Nat.le_refl _, ⟨Mod.refl _ _ _, shL_start L m⟩, HW⟩
      case round =>
        obtain ⟨k', Z, rfl, hak, hki, HZ, HV⟩ := hrel
        have hZl := HV.out.len
        by_cases hk : i < k'
        · obtain ⟨k, rfl⟩ : ∃ k, k' = k + 1 := ⟨k' - 1, by omega⟩
          have kz : (i : Int) < (k : Int) + 1 := by omega
          have q1 : k + 1 < Z.length := by omega
          have q2 : k < Z.length := by omega
          have i1 : (k : Int) + 1 < (n : Int) := by omega
          have i2 : (k : Int) < (n : Int) := by omega
          have i3 : (0 : Int) ≤ (k : Int) + 1 := by omega
          have i4 : ((k : Int) + 1).toNat = k + 1 := by omega
          have wk : IntKind.i64.wrap ((k : Int) + 1 - 1) = (k : Int) := by rw [IntKind.wrap_i64]; omega
          have wk' : IntKind.i64.wrap (k : Int) = (k : Int) := by rw [IntKind.wrap_i64]; omega
          obtain ⟨a0, a1, a2, a3⟩ := HV.out.at' (k + 1) (by omega)
          obtain ⟨c0, c1, c2, c3⟩ := HV.out.at' k (by omega)
          have HX : Hid _ := HV.out.swap' (k + 1) k q1 q2
          have HN : Hid (Mod a b L (swL Z (k + 1) k q1 q2) ∧ ShL L (swL Z (k + 1) k q1 q2) m k) := ⟨HZ.out.1.trans (mod_sw a b Z (k + 1) k q1 q2 (by omega) (by omega) (by omega) (by omega)), shL_step L Z m k (by omega) HZ.out.2 q1 q2⟩
          clear hZl
          generalize swL Z (k + 1) k q1 q2 = Z' at *
          generalize (A Z k).1 = x1 at *
          generalize (A Z k).2 = x2 at *
          generalize (A Z (k + 1)).1 = y1 at *
          generalize (A Z (k + 1)).2 = y2 at *
          go_wp2
          go_region
          all_goals go_wp2
          all_goals go_roundw
          case rel => exact ⟨k, Z', rfl, by omega, by omega, HN, HX.out.gr ((Gr.refl _).drew)⟩
          case measure => simp [intOf]
        · have kz : ¬ (i : Int) < (k' : Int) := by omega
          have HE : Hid (Mod a b L Z ∧ SIn Z a b) := ⟨HZ.out.1, by rw [HMB.out]; exact shL_sorted L Z a m i hi hjb (by rw [show i = k' by omega]; exact HZ.out.2) HS.out HLo.out HHi.out⟩
          clear hZl
          go_wp2
          exact bodyPost_ret (v := .tuple #[]) (by simp [results, Tryz.results155, go_sem]) rfl ⟨rfl, Z, HE.out.1, HE.out.2, HV.out⟩
end Go.Proofs.YtpefbmheblfbeaaGreat.So
/- The contract of the library's merge of two neighbouring ranges at keys; no conditions but that the indices are within the row. -/
namespace Go.Proofs.YtpefbmheblfbeaaGreat.So
open Go.RowKit Go.Sort Go.Shelf Me
set_option linter.unusedVariables false
def Bnd (a m b mid s0 r0 : Nat) : Prop := (s0 = a ∧ r0 = m ∧ m ≤ mid) ∨ (s0 = mid + m - b ∧ r0 = mid ∧ mid < m)
theorem split_of {L : List K} {a m b mid s0 r0 s : Nat} (h1 : a < m) (h2 : m < b) (hm : mid = (a + b) / 2) (B : Bnd a m b mid s0 r0) (hs0 : s0 ≤ s) (hr0 : s ≤ r0) (S1 : SIn L a m) (S2 : SIn L m b)
    (lo : s = s0 ∨ leK (A L (s - 1)) (A L (mid + m - s))) (hi : s = r0 ∨ leK (A L (mid + m - 1 - s)) (A L s)) : Split L a m b s (mid + m - s) mid := by
  unfold Bnd at B
  refine ⟨by omega, by omega, by omega, by omega, by omega, fun p q p1 p2 q1 q2 => ?_, fun p q p1 p2 q1 q2 => ?_⟩
  · rcases lo with e | e
    · omega
    · exact leK_trans (leK_trans (S1.le p (s - 1) p1 (by omega) (by omega)) e) (S2.le (mid + m - s) q (by omega) q1 q2)
  · rcases hi with e | e
    · omega
    · exact leK_trans (leK_trans (S2.le p (mid + m - 1 - s) p1 (by omega) (by omega)) e) (S1.le s q (by omega) q1 q2)
set_option maxHeartbeats 16000000 in
set_option maxRecDepth 100000 in
theorem sym52_step (w0 : World) (g n c : Nat) (hn : n ≤ 5864062014634) (d : Nat)
    (IH : ∀ (L : List K) (a m b : Nat), a < m → m < b → b ≤ n → b - a < d → SIn L a m → SIn L m b → ∀ w, RW w0 g n c L w → Calls Tryz.prog 155 #[.slice (some ⟨g, 0, none⟩) n c, .int .i64 a, .int .i64 m, .int .i64 b, cmpF] w fun e w' => e = .returned (.tuple #[]) ∧ ∃ L', Mod a b L L' ∧ SIn L' a b ∧ RW w0 g n c L' w')
    (L : List K) (a m b : Nat) (ham : a + 1 < m) (hmb : m + 1 < b) (h3 : b ≤ n) (hd : b - a ≤ d) (S1 : SIn L a m) (S2 : SIn L m b) (w : World) (R : RW w0 g n c L w) :
    Calls Tryz.prog 155 #[.slice (some ⟨g, 0, none⟩) n c, .int .i64 a, .int .i64 m, .int .i64 b, cmpF] w fun e w' => e = .returned (.tuple #[]) ∧ ∃ L', Mod a b L L' ∧ SIn L' a b ∧ RW w0 g n c L' w' := by
  have mixed : Tryz.prog.follows .mixedOrders = true := by kernel_rfl
  have HR : Hid (RW w0 g n c L w) := R
  have HS1 : Hid (SIn L a m) := S1
  have HS2 : Hid (SIn L m b) := S2
  have HRot : Hid (∀ s m e, s < m → m < e → e ≤ n → ∀ w, RW w0 g n c L w → Calls Tryz.prog 160 #[.slice (some ⟨g, 0, none⟩) n c, .int .i64 s, .int .i64 m, .int .i64 e, cmpF] w fun e' w' => e' = .returned (.tuple #[]) ∧ ∃ L', L'.Perm L ∧ (∀ t, L'[t]? = T L s m e t) ∧ RW w0 g n c L' w') := fun s m e e1 e2 e3 w r => rot58 w0 g n c L s m e e1 e2 e3 w hn r
  have HI : Hid (∀ (L : List K) (a m b : Nat), a < m → m < b → b ≤ n → b - a < d → SIn L a m → SIn L m b → ∀ w, RW w0 g n c L w → Calls Tryz.prog 155 #[.slice (some ⟨g, 0, none⟩) n c, .int .i64 a, .int .i64 m, .int .i64 b, cmpF] w fun e w' => e = .returned (.tuple #[]) ∧ ∃ L', Mod a b L L' ∧ SIn L' a b ∧ RW w0 g n c L' w') := IH
  have b1 : ((m : Int) - (a : Int) == 1) = false := by simp; omega
  have b2 : ((b : Int) - (m : Int) == 1) = false := by simp; omega
  obtain ⟨mid, hmid⟩ : ∃ mid, mid = (a + b) / 2 := ⟨_, rfl⟩
  have midz : ((a : Int) + (b : Int)) / 2 = (mid : Int) := by omega
  obtain ⟨nn, hnn⟩ : ∃ nn, nn = mid + m := ⟨_, rfl⟩
  have nnz : (mid : Int) + (m : Int) = (nn : Int) := by omega
  obtain ⟨p, hp⟩ : ∃ p, p = nn - 1 := ⟨_, rfl⟩
  have pz : (nn : Int) - 1 = (p : Int) := by omega
  have hB : ∃ s0 r0, Bnd a m b mid s0 r0 ∧ s0 ≤ r0 := by
    unfold Bnd
    by_cases q : mid < m
    · exact ⟨mid + m - b, mid, Or.inr ⟨rfl, rfl, q⟩, by omega⟩
    · exact ⟨a, m, Or.inl ⟨rfl, rfl, by omega⟩, by omega⟩
  obtain ⟨s0, r0, B, hsr⟩ := hB
  have HB : Hid (Bnd a m b mid s0 r0) := B
  have HMid : Hid (mid = (a + b) / 2) := hmid
  unfold Bnd at B
  have l1 : a ≤ s0 := by omega
  have l2 : r0 ≤ m := by omega
  have l3 : r0 ≤ mid := by omega
  have l4 : nn ≤ b + s0 := by omega
  have hmidb : a < mid ∧ mid < b := by omega
  have nnu : nn ≤ 2 * n := by omega
  have p1u : p + 1 = nn := by omega
  have HNN : Hid (nn = mid + m) := hnn
  have hsb : ((nn : Int) - (b : Int) = (s0 : Int) ∧ r0 = mid ∧ (mid : Int) < (m : Int)) ∨ (s0 = a ∧ r0 = m ∧ ¬ (mid : Int) < (m : Int)) := by omega
  have snn : r0 ≤ p := by omega
  clear R S1 S2 IH B hmid hp hnn
  unfold cmpF at HRot HI ⊢
  go_enter Tryz.func155, Tryz.ntmps155
  rcases hsb with ⟨sb1, sb2, sb3⟩ | ⟨sb1, sb2, sb3⟩
  all_goals go_wp2
  all_goals go_loopw [20, 21] (fun x y wr => ∃ (i j : Nat), x = .int .i64 i ∧ y = .int .i64 j ∧ s0 ≤ i ∧ i ≤ j ∧ j ≤ r0 ∧ Hid (i = s0 ∨ leK (A L (i - 1)) (A L (mid + m - i))) ∧ Hid (j = r0 ∨ leK (A L (mid + m - 1 - j)) (A L j)) ∧ Hid (RW w0 g n c L wr)) (fun x y _ => (intOf y).toNat - (intOf x).toNat)
  case atStart => exact ⟨s0, r0, by go_num, by rw [sb2], Nat.le_refl _, hsr, Nat.le_refl _, Or.inl rfl, Or.inl rfl, HR⟩
  case atStart => exact ⟨s0, r0, by rw [sb1], by rw [sb2], Nat.le_refl _, hsr, Nat.le_refl _, Or.inl rfl, Or.inl rfl, HR⟩
  all_goals clear sb1 sb2 sb3
  all_goals
    obtain ⟨i, j, rfl, rfl, hi, hij, hjb, HLo, HHi, HW⟩ := hrel
    by_cases hlt : i < j
    · have iz : (i : Int) < (j : Int) := by omega
      obtain ⟨h, hh⟩ : ∃ h, h = (i + j) / 2 := ⟨_, rfl⟩
      have e1 : ((i : Int) + (j : Int)) / 2 = (h : Int) := by omega
      have k1 : i ≤ h ∧ h < j := by omega
      obtain ⟨q, hq⟩ : ∃ q, q = p - h := ⟨_, rfl⟩
      have qz : (p : Int) - (h : Int) = (q : Int) := by omega
      have wk : IntKind.i64.wrap ((p : Int) - (h : Int)) = (q : Int) := by rw [IntKind.wrap_i64]; omega
      have wk' : IntKind.i64.wrap (q : Int) = (q : Int) := by rw [IntKind.wrap_i64]; omega
      have hz : (h : Int) < (n : Int) := by omega
      have az : (q : Int) < (n : Int) := by omega
      have v0 := fun k os => (HW.out.cells q (by omega) k os).1
      have v1 := fun k os => (HW.out.cells q (by omega) k os).2
      have v2 := fun k os => (HW.out.cells h (by omega) k os).1
      have v3 := fun k os => (HW.out.cells h (by omega) k os).2
      have CM : Hid (∀ w, Calls Tryz.prog 134 #[.agg #[.int .u16 (A L q).1, .string (A L q).2], .agg #[.int .u16 (A L h).1, .string (A L h).2]] w fun e w' => e = .returned (.int .i64 (cmpK (A L q).1 (A L q).2 (A L h).1 (A L h).2)) ∧ Gr w w') := fun w => kcmp_ _ _ _ _ w
      have H1 : Hid (¬ cmpK (A L q).1 (A L q).2 (A L h).1 (A L h).2 < 0 → leK (A L (h + 1 - 1)) (A L (mid + m - (h + 1)))) := fun hc => by
        have := HNN.out
        rw [show h + 1 - 1 = h by omega, show mid + m - (h + 1) = q by omega]
        exact cmp_ge hc
      have H2 : Hid (cmpK (A L q).1 (A L q).2 (A L h).1 (A L h).2 < 0 → leK (A L (mid + m - 1 - h)) (A L h)) := fun hc => by
        have := HNN.out
        rw [show mid + m - 1 - h = q by omega]
        exact cmp_le hc
      generalize cmpK (A L q).1 (A L q).2 (A L h).1 (A L h).2 = cv at *
      generalize (A L h).1 = x1 at *
      generalize (A L h).2 = x2 at *
      generalize (A L q).1 = y1 at *
      generalize (A L q).2 = y2 at *
      clear hh hq
      by_cases hc : cv < 0
      · go_wp2_with fail
        go_quiet_grown (first | (go_at_call 134; refine Calls.grown_of (CM.out _)) | (go_at_fn 134; refine Calls.grown_of (CM.out _)))
        go_wp2
        go_roundw
        case rel => exact ⟨i, h, rfl, rfl, hi, by omega, by omega, HLo, Or.inr (H2.out hc), HW.out.gr (gr_grow _ _ _)⟩
        case measure => simp [intOf]; omega
      · go_wp2_with fail
        go_quiet_grown (first | (go_at_call 134; refine Calls.grown_of (CM.out _)) | (go_at_fn 134; refine Calls.grown_of (CM.out _)))
        go_wp2
        all_goals first | (rename_i hx; exact absurd hx (by rw [Bool.not_eq_false', decide_eq_true_eq]; omega)) | skip
        go_roundw
        case rel => exact ⟨h + 1, j, by go_num, rfl, by omega, by omega, hjb, Or.inr (H1.out (by omega)), HHi, HW.out.gr (gr_grow _ _ _)⟩
        case measure => simp [intOf]; omega
    · obtain rfl : i = j := by omega
      have iz : ¬ (i : Int) < (i : Int) := by omega
      obtain ⟨s, rfl⟩ : ∃ s, s = i := ⟨_, rfl⟩
      obtain ⟨e, he⟩ : ∃ e, e = mid + m - s := ⟨_, rfl⟩
      have HSp : Hid (Split L a m b s e mid) := by
        rw [he]
        exact split_of (by omega) (by omega) HMid.out HB.out hi hjb HS1.out HS2.out HLo.out HHi.out
      have ez : (nn : Int) - (s : Int) = (e : Int) := by have := HNN.out; omega
      have f1 := HSp.out.has
      have f2 := HSp.out.hsm
      have f3 := HSp.out.hme
      have f4 := HSp.out.heb
      have f5 := HSp.out.hmid
      clear he HLo HHi HB HMid
      by_cases q1 : s < m
      · by_cases q4 : s < mid
        · have q2 : m < e := by omega
          by_cases q3 : a < s
          · by_cases q6 : e < b
            · have z1 : (s : Int) < (m : Int) := by omega
              have z2 : (m : Int) < (e : Int) := by omega
              have z3 : (a : Int) < (s : Int) := by omega
              have z4 : (s : Int) < (mid : Int) := by omega
              have z5 : (mid : Int) < (e : Int) := by omega
              have z6 : (e : Int) < (b : Int) := by omega
              have AA : Hid _ := HRot.out s m e q1 q2 (by omega) wr HW.out
              go_wp2_with fail
              refine Calls.mono AA.out ?_
              rintro e' w1 ⟨rfl, Y, hp, ht, hw⟩
              have HY : Hid (Y.Perm L ∧ (∀ t, Y[t]? = T L s m e t)) := ⟨hp, ht⟩
              have HV : Hid (RW w0 g n c Y w1) := hw
              clear hp ht hw AA
              have HQ : Hid _ := split_rot HSp.out HS1.out HS2.out HY.out.2
              have AB : Hid _ := HI.out Y a s mid (by omega) (by omega) (by omega) (by omega) HQ.out.1 HQ.out.2.1 w1 HV.out
              go_wp2_with fail
              refine Calls.mono AB.out ?_
              rintro e' w2 ⟨rfl, Z, hm', hs', hw⟩
              have HM2 : Hid (Mod a mid Y Z ∧ SIn Z a mid) := ⟨hm', hs'⟩
              have HV2 : Hid (RW w0 g n c Z w2) := hw
              clear hm' hs' hw AB
              have AC : Hid _ := HI.out Z mid e b (by omega) (by omega) (by omega) (by omega) (HQ.out.2.2.1.of_out HM2.out.1 (Or.inr (Nat.le_refl _))) (HQ.out.2.2.2.1.of_out HM2.out.1 (Or.inr (by omega))) w2 HV2.out
              go_wp2_with fail
              refine Calls.mono AC.out ?_
              rintro e' w3 ⟨rfl, X, hm', hs', hw⟩
              have HM3 : Hid (Mod mid b Z X ∧ SIn X mid b) := ⟨hm', hs'⟩
              have HV3 : Hid (RW w0 g n c X w3) := hw
              clear hm' hs' hw AC
              have HE : Hid (Mod a b L X ∧ SIn X a b) := ⟨((T_mod HY.out.1 HY.out.2 (by omega) (by omega) (by omega) (by omega)).trans (HM2.out.1.widen (Nat.le_refl _) (by omega))).trans (HM3.out.1.widen (by omega) (Nat.le_refl _)), join_sorted HQ.out.2.2.2.2 HM2.out.1 HM3.out.1 HM2.out.2 HM3.out.2⟩
              go_wp2
              go_end0
              exact ⟨rfl, X, HE.out.1, HE.out.2, HV3.out⟩
            · have z1 : (s : Int) < (m : Int) := by omega
              have z2 : (m : Int) < (e : Int) := by omega
              have z3 : (a : Int) < (s : Int) := by omega
              have z4 : (s : Int) < (mid : Int) := by omega
              have z5 : (mid : Int) < (e : Int) := by omega
              have z6 : ¬ (e : Int) < (b : Int) := by omega
              have AA : Hid _ := HRot.out s m e q1 q2 (by omega) wr HW.out
              go_wp2_with fail
              refine Calls.mono AA.out ?_
              rintro e' w1 ⟨rfl, Y, hp, ht, hw⟩
              have HY : Hid (Y.Perm L ∧ (∀ t, Y[t]? = T L s m e t)) := ⟨hp, ht⟩
              have HV : Hid (RW w0 g n c Y w1) := hw
              clear hp ht hw AA
              have HQ : Hid _ := split_rot HSp.out HS1.out HS2.out HY.out.2
              have AB : Hid _ := HI.out Y a s mid (by omega) (by omega) (by omega) (by omega) HQ.out.1 HQ.out.2.1 w1 HV.out
              go_wp2_with fail
              refine Calls.mono AB.out ?_
              rintro e' w2 ⟨rfl, Z, hm', hs', hw⟩
              have HM2 : Hid (Mod a mid Y Z ∧ SIn Z a mid) := ⟨hm', hs'⟩
              have HV2 : Hid (RW w0 g n c Z w2) := hw
              clear hm' hs' hw AB
              have HM3 : Hid (Mod mid b Z Z ∧ SIn Z mid b) := ⟨Mod.refl _ _ _, sin_join_empty (HQ.out.2.2.1.of_out HM2.out.1 (Or.inr (Nat.le_refl _))) (HQ.out.2.2.2.1.of_out HM2.out.1 (Or.inr (by omega))) (by omega)⟩
              have HE : Hid (Mod a b L Z ∧ SIn Z a b) := ⟨((T_mod HY.out.1 HY.out.2 (by omega) (by omega) (by omega) (by omega)).trans (HM2.out.1.widen (Nat.le_refl _) (by omega))).trans (HM3.out.1.widen (by omega) (Nat.le_refl _)), join_sorted HQ.out.2.2.2.2 HM2.out.1 HM3.out.1 HM2.out.2 HM3.out.2⟩
              go_wp2
              go_end0
              exact ⟨rfl, Z, HE.out.1, HE.out.2, HV2.out⟩
          · by_cases q6 : e < b
            · have z1 : (s : Int) < (m : Int) := by omega
              have z2 : (m : Int) < (e : Int) := by omega
              have z3 : ¬ (a : Int) < (s : Int) := by omega
              have z4 : (s : Int) < (mid : Int) := by omega
              have z5 : (mid : Int) < (e : Int) := by omega
              have z6 : (e : Int) < (b : Int) := by omega
              have AA : Hid _ := HRot.out s m e q1 q2 (by omega) wr HW.out
              go_wp2_with fail
              refine Calls.mono AA.out ?_
              rintro e' w1 ⟨rfl, Y, hp, ht, hw⟩
              have HY : Hid (Y.Perm L ∧ (∀ t, Y[t]? = T L s m e t)) := ⟨hp, ht⟩
              have HV : Hid (RW w0 g n c Y w1) := hw
              clear hp ht hw AA
              have HQ : Hid _ := split_rot HSp.out HS1.out HS2.out HY.out.2
              have HM2 : Hid (Mod a mid Y Y ∧ SIn Y a mid) := ⟨Mod.refl _ _ _, sin_join_empty HQ.out.1 HQ.out.2.1 (by omega)⟩
              have AC : Hid _ := HI.out Y mid e b (by omega) (by omega) (by omega) (by omega) (HQ.out.2.2.1.of_out HM2.out.1 (Or.inr (Nat.le_refl _))) (HQ.out.2.2.2.1.of_out HM2.out.1 (Or.inr (by omega))) w1 HV.out
              go_wp2_with fail
              refine Calls.mono AC.out ?_
              rintro e' w3 ⟨rfl, X, hm', hs', hw⟩
              have HM3 : Hid (Mod mid b Y X ∧ SIn X mid b) := ⟨hm', hs'⟩
              have HV3 : Hid (RW w0 g n c X w3) := hw
              clear hm' hs' hw AC
              have HE : Hid (Mod a b L X ∧ SIn X a b) := ⟨((T_mod HY.out.1 HY.out.2 (by omega) (by omega) (by omega) (by omega)).trans (HM2.out.1.widen (Nat.le_refl _) (by omega))).trans (HM3.out.1.widen (by omega) (Nat.le_refl _)), join_sorted HQ.out.2.2.2.2 HM2.out.1 HM3.out.1 HM2.out.2 HM3.out.2⟩
              go_wp2
              go_end0
              exact ⟨rfl, X, HE.out.1, HE.out.2, HV3.out⟩
            · have z1 : (s : Int) < (m : Int) := by omega
              have z2 : (m : Int) < (e : Int) := by omega
              have z3 : ¬ (a : Int) < (s : Int) := by omega
              have z4 : (s : Int) < (mid : Int) := by omega
              have z5 : (mid : Int) < (e : Int) := by omega
              have z6 : ¬ (e : Int) < (b : Int) := by omega
              have AA : Hid _ := HRot.out s m e q1 q2 (by omega) wr HW.out
              go_wp2_with fail
              refine Calls.mono AA.out ?_
              rintro e' w1 ⟨rfl, Y, hp, ht, hw⟩
              have HY : Hid (Y.Perm L ∧ (∀ t, Y[t]? = T L s m e t)) := ⟨hp, ht⟩
              have HV : Hid (RW w0 g n c Y w1) := hw
              clear hp ht hw AA
              have HQ : Hid _ := split_rot HSp.out HS1.out HS2.out HY.out.2
              have HM2 : Hid (Mod a mid Y Y ∧ SIn Y a mid) := ⟨Mod.refl _ _ _, sin_join_empty HQ.out.1 HQ.out.2.1 (by omega)⟩
              have HM3 : Hid (Mod mid b Y Y ∧ SIn Y mid b) := ⟨Mod.refl _ _ _, sin_join_empty (HQ.out.2.2.1.of_out HM2.out.1 (Or.inr (Nat.le_refl _))) (HQ.out.2.2.2.1.of_out HM2.out.1 (Or.inr (by omega))) (by omega)⟩
              have HE : Hid (Mod a b L Y ∧ SIn Y a b) := ⟨((T_mod HY.out.1 HY.out.2 (by omega) (by omega) (by omega) (by omega)).trans (HM2.out.1.widen (Nat.le_refl _) (by omega))).trans (HM3.out.1.widen (by omega) (Nat.le_refl _)), join_sorted HQ.out.2.2.2.2 HM2.out.1 HM3.out.1 HM2.out.2 HM3.out.2⟩
              go_wp2
              go_end0
              exact ⟨rfl, Y, HE.out.1, HE.out.2, HV.out⟩
        · have z1 : (s : Int) < (m : Int) := by omega
          have z2 : ¬ (m : Int) < (e : Int) := by omega
          have z3 : (a : Int) < (s : Int) := by omega
          have z4 : ¬ (s : Int) < (mid : Int) := by omega
          have z5 : (mid : Int) < (e : Int) := by omega
          have z6 : (e : Int) < (b : Int) := by omega
          have HY : Hid (L.Perm L ∧ (∀ t, L[t]? = T L s m e t)) := ⟨List.Perm.refl _, fun t => T_same L s m e t (by omega) (by omega) (by omega)⟩
          have HQ : Hid _ := split_rot HSp.out HS1.out HS2.out HY.out.2
          have HM2 : Hid (Mod a mid L L ∧ SIn L a mid) := ⟨Mod.refl _ _ _, sin_join_empty HQ.out.1 HQ.out.2.1 (by omega)⟩
          have AC : Hid _ := HI.out L mid e b (by omega) (by omega) (by omega) (by omega) (HQ.out.2.2.1.of_out HM2.out.1 (Or.inr (Nat.le_refl _))) (HQ.out.2.2.2.1.of_out HM2.out.1 (Or.inr (by omega))) wr HW.out
          go_wp2_with fail
          refine Calls.mono AC.out ?_
          rintro e' w3 ⟨rfl, X, hm', hs', hw⟩
          have HM3 : Hid (Mod mid b L X ∧ SIn X mid b) := ⟨hm', hs'⟩
          have HV3 : Hid (RW w0 g n c X w3) := hw
          clear hm' hs' hw AC
          have HE : Hid (Mod a b L X ∧ SIn X a b) := ⟨((T_mod HY.out.1 HY.out.2 (by omega) (by omega) (by omega) (by omega)).trans (HM2.out.1.widen (Nat.le_refl _) (by omega))).trans (HM3.out.1.widen (by omega) (Nat.le_refl _)), join_sorted HQ.out.2.2.2.2 HM2.out.1 HM3.out.1 HM2.out.2 HM3.out.2⟩
          go_wp2
          go_end0
          exact ⟨rfl, X, HE.out.1, HE.out.2, HV3.out⟩
      · by_cases q4 : s < mid
        · have z1 : ¬ (s : Int) < (m : Int) := by omega
          have z3 : (a : Int) < (s : Int) := by omega
          have z4 : (s : Int) < (mid : Int) := by omega
          have z5 : ¬ (mid : Int) < (e : Int) := by omega
          have HY : Hid (L.Perm L ∧ (∀ t, L[t]? = T L s m e t)) := ⟨List.Perm.refl _, fun t => T_same L s m e t (by omega) (by omega) (by omega)⟩
          have HQ : Hid _ := split_rot HSp.out HS1.out HS2.out HY.out.2
          have AB : Hid _ := HI.out L a s mid (by omega) (by omega) (by omega) (by omega) HQ.out.1 HQ.out.2.1 wr HW.out
          go_wp2_with fail
          refine Calls.mono AB.out ?_
          rintro e' w2 ⟨rfl, Z, hm', hs', hw⟩
          have HM2 : Hid (Mod a mid L Z ∧ SIn Z a mid) := ⟨hm', hs'⟩
          have HV2 : Hid (RW w0 g n c Z w2) := hw
          clear hm' hs' hw AB
          have HM3 : Hid (Mod mid b Z Z ∧ SIn Z mid b) := ⟨Mod.refl _ _ _, sin_join_empty (HQ.out.2.2.1.of_out HM2.out.1 (Or.inr (Nat.le_refl _))) (HQ.out.2.2.2.1.of_out HM2.out.1 (Or.inr (by omega))) (by omega)⟩
          have HE : Hid (Mod a b L Z ∧ SIn Z a b) := ⟨((T_mod HY.out.1 HY.out.2 (by omega) (by omega) (by omega) (by omega)).trans (HM2.out.1.widen (Nat.le_refl _) (by omega))).trans (HM3.out.1.widen (by omega) (Nat.le_refl _)), join_sorted HQ.out.2.2.2.2 HM2.out.1 HM3.out.1 HM2.out.2 HM3.out.2⟩
          go_wp2
          go_end0
          exact ⟨rfl, Z, HE.out.1, HE.out.2, HV2.out⟩
        · have z1 : ¬ (s : Int) < (m : Int) := by omega
          have z3 : (a : Int) < (s : Int) := by omega
          have z4 : ¬ (s : Int) < (mid : Int) := by omega
          have z5 : ¬ (mid : Int) < (e : Int) := by omega
          have HY : Hid (L.Perm L ∧ (∀ t, L[t]? = T L s m e t)) := ⟨List.Perm.refl _, fun t => T_same L s m e t (by omega) (by omega) (by omega)⟩
          have HQ : Hid _ := split_rot HSp.out HS1.out HS2.out HY.out.2
          have HM2 : Hid (Mod a mid L L ∧ SIn L a mid) := ⟨Mod.refl _ _ _, sin_join_empty HQ.out.1 HQ.out.2.1 (by omega)⟩
          have HM3 : Hid (Mod mid b L L ∧ SIn L mid b) := ⟨Mod.refl _ _ _, sin_join_empty (HQ.out.2.2.1.of_out HM2.out.1 (Or.inr (Nat.le_refl _))) (HQ.out.2.2.2.1.of_out HM2.out.1 (Or.inr (by omega))) (by omega)⟩
          have HE : Hid (Mod a b L L ∧ SIn L a b) := ⟨((T_mod HY.out.1 HY.out.2 (by omega) (by omega) (by omega) (by omega)).trans (HM2.out.1.widen (Nat.le_refl _) (by omega))).trans (HM3.out.1.widen (by omega) (Nat.le_refl _)), join_sorted HQ.out.2.2.2.2 HM2.out.1 HM3.out.1 HM2.out.2 HM3.out.2⟩
          go_wp2
          go_end0
          exact ⟨rfl, L, HE.out.1, HE.out.2, HW.out⟩
theorem sym52 (w0 : World) (g n c : Nat) (hn : n ≤ 5864062014634) : ∀ (d : Nat) (L : List K) (a m b : Nat), a < m → m < b → b ≤ n → b - a ≤ d → SIn L a m → SIn L m b → ∀ w, RW w0 g n c L w → Calls Tryz.prog 155 #[.slice (some ⟨g, 0, none⟩) n c, .int .i64 a, .int .i64 m, .int .i64 b, cmpF] w fun e w' => e = .returned (.tuple #[]) ∧ ∃ L', Mod a b L L' ∧ SIn L' a b ∧ RW w0 g n c L' w' := by
  intro d
  induction d with
  | zero => intro L a m b h1 h2 h3 hd; omega
  | succ d ih =>
    intro L a m b h1 h2 h3 hd S1 S2 w R
    by_cases c1 : m = a + 1
    · exact sym52_left w0 g n c L a m b c1 h2 h3 w hn S2 R
    · by_cases c2 : b = m + 1
      · exact sym52_right w0 g n c L a m b (by omega) c2 h3 w hn S1 R
      · exact sym52_step w0 g n c hn (d + 1) (fun L a m b k1 k2 k3 k4 => ih L a m b k1 k2 k3 (by omega)) L a m b (by omega) (by omega) h3 hd S1 S2 w R
end Go.Proofs.YtpefbmheblfbeaaGreat.So
/- The contract of the library's stable sort at keys: blocks by insertion, then merges; no conditions but the row's length. -/
namespace Go.Proofs.YtpefbmheblfbeaaGreat.So
open Go.RowKit Go.Sort Go.Shelf Me
set_option linter.unusedVariables false
def Rst (bs : Nat) (Y : List K) (a n : Nat) : Prop := ∀ p q, a ≤ p → p < q → q < n → p / bs = q / bs → leK (A Y p) (A Y q)
theorem rst_empty (bs : Nat) (Y : List K) : Rst bs Y 0 0 := fun p q _ _ h _ => by omega
theorem rst_push {bs k a b : Nat} {Y Z : List K} (hb : 0 < bs) (ha : a = k * bs) (h : Rst bs Y 0 a) (m : Mod a b Y Z) (s : SIn Z a b) : Rst bs Z 0 b := fun p q _ h2 h3 h4 => by
  by_cases c : q < a
  · rw [m.out p (by omega), m.out q (by omega)]
    exact h p q (Nat.zero_le _) h2 c h4
  · have e1 : k ≤ q / bs := by rw [Nat.le_div_iff_mul_le hb]; omega
    have e2 : k * bs ≤ p := by rw [← Nat.le_div_iff_mul_le hb]; omega
    exact s p q (by omega) h2 h3
theorem rst_out {bs a b n : Nat} {Y Z : List K} (h : Rst bs Y a n) (m : Mod a b Y Z) (hab : a ≤ b) : Rst bs Z b n := fun p q h1 h2 h3 h4 => by
  rw [m.out p (by omega), m.out q (by omega)]
  exact h p q (by omega) h2 h3 h4
theorem div_at {bs j p : Nat} (h1 : j * bs ≤ p) (h2 : p < (j + 1) * bs) : p / bs = j := by
  have hb : 0 < bs := by
    rcases Nat.eq_zero_or_pos bs with e | e
    · subst e; omega
    · exact e
  have a1 : j ≤ p / bs := by rw [Nat.le_div_iff_mul_le hb]; exact h1
  have a2 : p / bs < j + 1 := by rw [Nat.div_lt_iff_lt_mul hb]; exact h2
  omega
theorem rst_sin {bs j a n u v : Nat} {Y : List K} (h : Rst bs Y a n) (h1 : a ≤ u) (hu : u = j * bs) (h2 : v ≤ u + bs) (h3 : v ≤ n) : SIn Y u v := fun p q q1 q2 q3 => by
  have e : (j + 1) * bs = u + bs := by rw [Nat.succ_mul, hu]
  exact h p q (by omega) q2 (by omega) (by rw [div_at (j := j) (p := p) (by omega) (by omega), div_at (j := j) (p := q) (by omega) (by omega)])
theorem rst_all {bs n : Nat} {Y : List K} (h : Rst bs Y 0 n) (hn : n ≤ bs) : SIn Y 0 n := fun p q q1 q2 q3 => h p q q1 q2 q3 (by rw [Nat.div_eq_of_lt (by omega), Nat.div_eq_of_lt (by omega)])
set_option maxHeartbeats 2000000 in
set_option maxRecDepth 100000 in
theorem stable47 (w0 : World) (g n c : Nat) (L : List K) (w : World) (hn : n ≤ 5864062014634) (R : RW w0 g n c L w) :
    Calls Tryz.prog 147 #[.slice (some ⟨g, 0, none⟩) n c, .int .i64 n, cmpF] w fun e w' => e = .returned (.tuple #[]) ∧ ∃ L', L'.Perm L ∧ SIn L' 0 n ∧ RW w0 g n c L' w' := by
  have HR : Hid (RW w0 g n c L w) := R
  have hc : ∃ F, F = cmpF := ⟨_, rfl⟩
  obtain ⟨F, hF⟩ := hc
  have AI : Hid (∀ (Y : List K) (a b : Nat), a ≤ b → b ≤ n → ∀ w, RW w0 g n c Y w → Calls Tryz.prog 154 #[.slice (some ⟨g, 0, none⟩) n c, .int .i64 a, .int .i64 b, F] w fun e w' => e = .returned (.tuple #[]) ∧ ∃ L', Mod a b Y L' ∧ SIn L' a b ∧ RW w0 g n c L' w') := fun Y a b e1 e2 w r => by rw [hF]; exact ins51 w0 g n c Y a b e1 e2 w hn r
  have AM : Hid (∀ (Y : List K) (a m b : Nat), a < m → m < b → b ≤ n → SIn Y a m → SIn Y m b → ∀ w, RW w0 g n c Y w → Calls Tryz.prog 155 #[.slice (some ⟨g, 0, none⟩) n c, .int .i64 a, .int .i64 m, .int .i64 b, F] w fun e w' => e = .returned (.tuple #[]) ∧ ∃ L', Mod a b Y L' ∧ SIn L' a b ∧ RW w0 g n c L' w') := fun Y a m b e1 e2 e3 s1 s2 w r => by rw [hF]; exact sym52 w0 g n c hn (b - a) Y a m b e1 e2 e3 (Nat.le_refl _) s1 s2 w r
  rw [← hF]
  clear R hF
  go_enter Tryz.func147, Tryz.ntmps147
  go_wp2
  go_loopw [7, 8] (fun x y wr => ∃ (a : Nat) (Y : List K), x = .int .i64 a ∧ (∃ b : Nat, y = .int .i64 b ∧ a + 20 ≤ b ∧ b ≤ a + 20) ∧ a ≤ n ∧ Hid (∃ k, a = k * 20) ∧ Hid (Mod 0 n L Y ∧ Rst 20 Y 0 a) ∧ Hid (RW w0 g n c Y wr)) (fun x _ _ => n - (intOf x).toNat)
  case atStart => exact ⟨0, L, rfl, ⟨20, rfl, by omega, by omega⟩, Nat.zero_le _, ⟨0, rfl⟩, ⟨Mod.refl _ _ _, rst_empty _ _⟩, HR⟩
  case round =>
    obtain ⟨a, Y, rfl, ⟨b, rfl, hb, hb'⟩, han, HK, HY, HW⟩ := hrel
    by_cases hlt : b ≤ n
    · have bz : (b : Int) ≤ (n : Int) := by omega
      have AA : Hid _ := AI.out Y a b (by omega) hlt wr HW.out
      go_wp2_with fail
      refine Calls.mono AA.out ?_
      rintro e w1 ⟨rfl, Z, hm, hs, hw⟩
      have HZ : Hid (Mod 0 n L Z ∧ Rst 20 Z 0 b) := by
        obtain ⟨k, hk⟩ := HK.out
        exact ⟨HY.out.1.trans (hm.widen (Nat.zero_le _) hlt), rst_push (by omega) hk HY.out.2 hm hs⟩
      have HV : Hid (RW w0 g n c Z w1) := hw
      have HK' : Hid (∃ k, b = k * 20) := by obtain ⟨k, hk⟩ := HK.out; exact ⟨k + 1, by omega⟩
      clear hm hs hw AA HK HY HW
      go_wp2
      go_roundw
      case rel => exact ⟨b, Z, rfl, ⟨b + 20, by go_num, by omega, by omega⟩, hlt, HK', HZ, HV⟩
      case measure => simp [intOf]; omega
    · have bz : ¬ (b : Int) ≤ (n : Int) := by omega
      have AA : Hid _ := AI.out Y a n han (Nat.le_refl _) wr HW.out
      go_wp2_with fail
      refine Calls.mono AA.out ?_
      rintro e w1 ⟨rfl, Z, hm, hs, hw⟩
      have HZ : Hid (Mod 0 n L Z ∧ Rst 20 Z 0 n) := by
        obtain ⟨k, hk⟩ := HK.out
        exact ⟨HY.out.1.trans (hm.widen (Nat.zero_le _) (Nat.le_refl _)), rst_push (by omega) hk HY.out.2 hm hs⟩
      have HV : Hid (RW w0 g n c Z w1) := hw
      clear hm hs hw AA HK HY HW
      clear bz hlt hb hb' han
      obtain ⟨wo, rfl⟩ : ∃ wo, wo = wr := ⟨_, rfl⟩
      go_wp2
      go_loopw [6] (fun x wr => ∃ (bs : Nat) (X : List K), x = .int .i64 bs ∧ 20 ≤ bs ∧ bs ≤ 2 * n + 20 ∧ Hid (Mod 0 n L X ∧ Rst bs X 0 n) ∧ Hid (RW w0 g n c X wr)) (fun x _ => n - (intOf x).toNat)
      case atStart => exact ⟨20, Z, rfl, by omega, by omega, HZ, HV⟩
      case round =>
        obtain ⟨bs, X, rfl, hbs, hbu, HX, HW⟩ := hrel
        by_cases hlt : bs < n
        · have bz : (bs : Int) < (n : Int) := by omega
          obtain ⟨wq, rfl⟩ : ∃ wq, wq = wr := ⟨_, rfl⟩
          go_wp2
          go_loopw [7, 8] (fun x y wr => ∃ (a b : Nat) (Z : List K), x = .int .i64 a ∧ y = .int .i64 b ∧ a + 2 * bs ≤ b ∧ b ≤ a + 2 * bs ∧ a ≤ n ∧ Hid (∃ k, a = k * (2 * bs)) ∧ Hid (Mod 0 n L Z ∧ Rst (2 * bs) Z 0 a ∧ Rst bs Z a n) ∧ Hid (RW w0 g n c Z wr)) (fun x _ _ => n - (intOf x).toNat)
          case atStart => exact ⟨0, 2 * bs, X, rfl, by go_num, by omega, by omega, Nat.zero_le _, ⟨0, by omega⟩, ⟨HX.out.1, rst_empty _ _, HX.out.2⟩, HW⟩
          case round =>
            obtain ⟨a, b, Z, rfl, rfl, hb, hb', han, HK, HZ', HV'⟩ := hrel
            obtain ⟨m, hm1, hm2⟩ : ∃ m : Nat, a + bs ≤ m ∧ m ≤ a + bs := ⟨a + bs, Nat.le_refl _, Nat.le_refl _⟩
            have m1 : (a : Int) + (bs : Int) = (m : Int) := by omega
            have HS1 : Hid (∀ v, v ≤ m → v ≤ n → SIn Z a v) := by
              obtain ⟨k, hk⟩ := HK.out
              have e : a = (2 * k) * bs := by rw [hk, Nat.mul_comm 2 k, Nat.mul_assoc]
              exact fun v v1 v2 => rst_sin HZ'.out.2.2 (Nat.le_refl _) e (by omega) v2
            have HS2 : Hid (∀ v, v ≤ b → v ≤ n → SIn Z m v) := by
              obtain ⟨k, hk⟩ := HK.out
              have e : m = (2 * k + 1) * bs := by
                have e0 : a = (2 * k) * bs := by rw [hk, Nat.mul_comm 2 k, Nat.mul_assoc]
                rw [Nat.succ_mul (2 * k) bs]
                omega
              exact fun v v1 v2 => rst_sin HZ'.out.2.2 (by omega) e (by omega) v2
            have HE : Hid (∀ b Z', Mod a b Z Z' → SIn Z' a b → Rst (2 * bs) Z' 0 b) := by
              obtain ⟨k, hk⟩ := HK.out
              exact fun b Z' h1 h2 => rst_push (by omega) hk HZ'.out.2.1 h1 h2
            by_cases hle : b ≤ n
            · have lz : (b : Int) ≤ (n : Int) := by omega
              have AA : Hid _ := AM.out Z a m b (by omega) (by omega) hle (HS1.out _ (Nat.le_refl _) (by omega)) (HS2.out b (Nat.le_refl _) hle) wr HV'.out
              go_wp2_with fail
              refine Calls.mono AA.out ?_
              rintro e w2 ⟨rfl, Z2, hm, hs, hw⟩
              have HN : Hid (Mod 0 n L Z2 ∧ Rst (2 * bs) Z2 0 b ∧ Rst bs Z2 b n) := ⟨HZ'.out.1.trans (hm.widen (Nat.zero_le _) hle), HE.out b Z2 hm hs, rst_out HZ'.out.2.2 hm (by omega)⟩
              have HV2 : Hid (RW w0 g n c Z2 w2) := hw
              have HK' : Hid (∃ k, b = k * (2 * bs)) := by obtain ⟨k, hk⟩ := HK.out; exact ⟨k + 1, by rw [Nat.succ_mul]; omega⟩
              clear hm hs hw AA HS1 HS2 HE HK HZ' HV'
              go_wp2
              go_roundw
              case rel => exact ⟨b, b + 2 * bs, Z2, rfl, by go_num, by omega, by omega, hle, HK', HN, HV2⟩
              case measure => simp [intOf]; omega
            · have lz : ¬ (b : Int) ≤ (n : Int) := by omega
              by_cases hmn : m < n
              · have mz : (m : Int) < (n : Int) := by omega
                have AA : Hid _ := AM.out Z a m n (by omega) hmn (Nat.le_refl _) (HS1.out _ (Nat.le_refl _) (by omega)) (HS2.out n (by omega) (Nat.le_refl _)) wr HV'.out
                go_wp2_with fail
                refine Calls.mono AA.out ?_
                rintro e w2 ⟨rfl, Z2, hm, hs, hw⟩
                have HN : Hid (Mod 0 n L Z2 ∧ Rst (2 * bs) Z2 0 n) := ⟨HZ'.out.1.trans (hm.widen (Nat.zero_le _) (Nat.le_refl _)), HE.out n Z2 hm hs⟩
                have HV2 : Hid (RW w0 g n c Z2 w2) := hw
                clear hm hs hw AA HS1 HS2 HE HK HZ' HV'
                go_wp2
                go_roundw
                case rel => exact ⟨2 * bs, Z2, by go_num, by omega, by omega, HN, HV2⟩
                case measure => simp [intOf]; omega
              · have mz : ¬ (m : Int) < (n : Int) := by omega
                have HN : Hid (Mod 0 n L Z ∧ Rst (2 * bs) Z 0 n) := ⟨HZ'.out.1, HE.out n Z (Mod.refl _ _ _) (HS1.out n (by omega) (Nat.le_refl _))⟩
                clear HS1 HS2 HE HK HZ'
                go_wp2
                go_roundw
                case rel => exact ⟨2 * bs, Z, by go_num, by omega, by omega, HN, HV'⟩
                case measure => simp [intOf]; omega
        · have bz : ¬ (bs : Int) < (n : Int) := by omega
          have HE : Hid (X.Perm L ∧ SIn X 0 n) := ⟨HX.out.1.perm, rst_all HX.out.2 (by omega)⟩
          go_wp2
          go_end0
          exact ⟨rfl, X, HE.out.1, HE.out.2, HW.out⟩
end Go.Proofs.YtpefbmheblfbeaaGreat.So
/- The contract of the program's sorted list of keys: the same keys in order; the list has at most 70000. -/
namespace Go.Proofs.YtpefbmheblfbeaaGreat.So
open Go.RowKit Go.Sort Go.Shelf Me
set_option linter.unusedVariables false
theorem ins51_nil (v F : Value) (w : World) : Calls Tryz.prog 154 #[v, .int .i64 0, .int .i64 0, F] w fun e w' => e = .returned (.tuple #[]) ∧ w' = w := by
  go_enter Tryz.func154, Tryz.ntmps154
  go_wp2
  go_loopw [8] (fun x wr => x = .int .i64 1 ∧ wr = w) (fun _ _ => 0)
  case atStart => exact ⟨rfl, rfl⟩
  case round =>
    obtain ⟨rfl, rfl⟩ := hrel
    go_wp2
    go_end0
    exact ⟨rfl, rfl⟩
theorem stable47_nil (v F : Value) (w : World) : Calls Tryz.prog 147 #[v, .int .i64 0, F] w fun e w' => e = .returned (.tuple #[]) ∧ w' = w := by
  go_enter Tryz.func147, Tryz.ntmps147
  go_wp2
  go_loopw [7, 8] (fun x y wr => x = .int .i64 0 ∧ y = .int .i64 20 ∧ wr = w) (fun _ _ _ => 0)
  case atStart => exact ⟨rfl, rfl, rfl⟩
  case round =>
    obtain ⟨rfl, rfl, hwr⟩ := hrel
    rw [hwr]
    clear hwr
    go_wp2_with fail
    refine Calls.mono (ins51_nil _ _ _) ?_
    rintro e w1 ⟨rfl, hw1⟩
    obtain ⟨wo, hwo⟩ : ∃ wo, wo = w := ⟨_, rfl⟩
    go_wp2
    go_loopw [6] (fun x wr => x = .int .i64 20 ∧ wr = wo) (fun _ _ => 0)
    case atStart => exact ⟨rfl, hwo.symm⟩
    case round =>
      obtain ⟨rfl, hr⟩ := hrel
      go_wp2
      go_end0
      exact ⟨rfl, rfl⟩
theorem sort40_nil (a : Option Addr) (cap : Nat) (w : World) : Calls Tryz.prog 133 #[.slice a 0 cap, cmpF] w fun e w' => e = .returned (.tuple #[]) ∧ w' = w := by
  have hc : ∃ F, F = cmpF := ⟨_, rfl⟩
  obtain ⟨F, hF⟩ := hc
  rw [← hF]
  clear hF
  go_enter Tryz.func133, Tryz.ntmps133
  go_wp2_with fail
  refine Calls.mono (stable47_nil _ _ _) ?_
  rintro e w1 ⟨rfl, rfl⟩
  go_wp2
  go_end0
  exact ⟨rfl, rfl⟩
theorem sort40 (w0 : World) (g n c : Nat) (L : List K) (w : World) (hn : n ≤ 5864062014634) (R : RW w0 g n c L w) :
    Calls Tryz.prog 133 #[.slice (some ⟨g, 0, none⟩) n c, cmpF] w fun e w' => e = .returned (.tuple #[]) ∧ ∃ L', L'.Perm L ∧ SIn L' 0 n ∧ RW w0 g n c L' w' := by
  have HS : Hid _ := stable47 w0 g n c L w hn R
  have hc : ∃ F, F = cmpF := ⟨_, rfl⟩
  obtain ⟨F, hF⟩ := hc
  rw [← hF] at HS ⊢
  clear hF R
  go_enter Tryz.func133, Tryz.ntmps133
  go_wp2_with fail
  refine Calls.mono HS.out ?_
  rintro e w1 ⟨rfl, L', hp, hs, hw⟩
  have HE : Hid _ := (⟨hp, hs, hw⟩ : L'.Perm L ∧ SIn L' 0 n ∧ RW w0 g n c L' w1)
  clear hp hs hw
  go_wp2
  go_end0
  exact ⟨rfl, L', HE.out.1, HE.out.2.1, HE.out.2.2⟩
theorem infoAz : (Tryz.prog.info? 54).map (fun i => (i.zero, i.size, i.bytes)) = some (some (.agg #[.int .u16 0, .string ⟨#[]⟩]), 2, 24) := by kernel_rfl
theorem cellsK_one' (xs : List K) : ∀ u ∈ Me.cellsK xs, u.oneCell' = true := by
  intro u hu
  unfold Me.cellsK at hu
  simp only [List.mem_flatMap, List.mem_cons, List.not_mem_nil, or_false] at hu
  obtain ⟨x, _, rfl | rfl⟩ := hu <;> rfl
def KsQ (w : World) (xs : List K) (e : Ending) (w' : World) : Prop := ∃ v ys, e = .returned v ∧ ys.Perm xs ∧ ys.Pairwise leK ∧ w'.ownsRow w.heap.size 54 2 v ys.length (Me.cellsK ys) ∧ Touch [] w w'
theorem sorted_ (xs : List K) (w : World) (v : Value) (hl : xs.length ≤ 70000) (hv : Rs 54 2 w v xs.length (Me.cellsK xs)) :
    Calls Tryz.prog 102 #[v] w fun e w' => KsQ w xs e w' := by
  obtain ⟨a, c, ev, _⟩ := hv.form
  subst ev
  have HV := hid hv
  have HL := hid hl
  clear hv hl
  obtain ⟨n, hn⟩ : ∃ n, n = xs.length := ⟨_, rfl⟩
  rw [← hn]
  have HN := hid hn
  clear hn
  have HE0 : Hid (w.ownsRow w.heap.size 54 2 (.slice none 0 0) 0 []) := hid ⟨rfl, Or.inl ⟨rfl, rfl⟩⟩
  go_enter Tryz.func102, Tryz.ntmps102
  go_wp2_with (at_builtin; refine wpList_append_rs rfl _ _ 61 54 rfl _ 2 24 infoAz Tryz.underlying61 rfl (by decide) w.heap.size (.slice none 0 0) 0 [] rfl HE0.out (.slice a n c) n (Me.cellsK xs) rfl (by rw [HN.out]; exact HV.out) (cellsK_one' xs) (by unfold maxLen; have := HN.out; have := HL.out; omega) (by have := HN.out; have := HL.out; omega) (Nat.le_refl _) ?_; intro v6 w6 o6 g6 _; obtain ⟨a6, c6, e6, _⟩ := (Rs.of_own o6).form; subst e6; have O6 := hid o6; have T6 := hid (touch_grown (Touch.refl [] w) g6 HE0.out (Nat.le_refl _)); clear o6 g6)
  have O7 : Hid (w6.ownsRow w.heap.size 54 2 (.slice a6 n c6) n (Me.cellsK xs)) := hid (by have := O6.out; simpa using this)
  have e0 : 0 + n = n := by omega
  clear O6
  by_cases hp : 0 < n
  · obtain ⟨g, c', e, hg, hlt⟩ := own_some O7.out hp
    cases e
    have R1 : Hid (RW w6 g n c6 xs w6) := hid ⟨own_base O7.out (Nat.zero_le _), HN.out.symm, gr_grown (Gr.refl _) _, hlt⟩
    have HG := hid hg
    clear hg hlt
    go_wp2_with fail
    refine Calls.mono (sort40 w6 g n c6 xs w6 (by have := HN.out; have := HL.out; omega) R1.out) ?_
    rintro e w2 ⟨rfl, L', hq, hs, hw⟩
    have HE : Hid (KsQ w xs (.returned (.slice (some ⟨g, 0, none⟩) n c6)) w2) := hid (by
      have hlen := hw.len
      refine ⟨_, L', rfl, hq, sorted_of_sin L' (by rw [hlen]; exact hs), ?_, ?_⟩
      · have ho := hw.own
        rw [hlen]
        obtain ⟨h1, h2 | ⟨g', cap, cur, hv, hg', r⟩⟩ := ho
        · cases h2.1
        · cases hv
          exact ⟨h1, Or.inr ⟨g, c6, cur, rfl, HG.out, r⟩⟩
      · exact T6.out.grown hw.fr (fun k e => by cases e; exact Or.inr HG.out))
    clear hq hs hw
    go_wp2
    go_ret
    exact HE.out
  · obtain rfl : n = 0 := by omega
    go_wp2_with fail
    refine Calls.mono (sort40_nil a6 c6 _) ?_
    rintro e w2 ⟨rfl, rfl⟩
    go_wp2
    go_ret
    have hx : xs = [] := List.length_eq_zero_iff.1 HN.out.symm
    subst hx
    exact ⟨_, [], rfl, List.Perm.refl _, List.Pairwise.nil, O7.out, T6.out⟩
end Go.Proofs.YtpefbmheblfbeaaGreat.So
/- The contracts of the program's sumOfMemo, and of gone: the keys that an old memo has and another one has not, in order; no conditions but that both are memos of 64 bits. -/
namespace Go.Proofs.YtpefbmheblfbeaaGreat.Sn
open Go.RowKit Go.Sort Go.Shelf Me
set_option linter.unusedVariables false
set_option linter.unusedSimpArgs false
def smM (c : Cf) (now : Int) (xs : List En) : Nat := sumL (bodyB c now xs)
theorem smM_lt (c : Cf) (now : Int) (xs : List En) : smM c now xs < 18446744073709551616 := sumL_lt _
theorem endS_tell (c : Cf) (now : Int) (xs : List En) : (endS (tellB c now xs)).1 = smM c now xs := by
  unfold endS tellB sealB smM
  rw [if_neg (by rw [List.length_append, by8_len]; omega)]
  have e : (bodyB c now xs ++ by8 (sumL (bodyB c now xs))).length - 8 = (bodyB c now xs).length := by simp [by8_len]
  rw [e, List.drop_left]
  have h := val8_by8 (sumL (bodyB c now xs)) (sumL_lt _) []
  rwa [List.append_nil] at h
theorem sumOfMemo_ {w : World} {m : Nat} {F : List Nat} {c : Cf} {now : Int} {xs : List En} (h : Mq w m F c now xs) (hk : MmOk c now xs) : Calls Tryz.prog 56 #[PT m] w fun e w' => e = .returned (.int .u64 ((smM c now xs : Nat) : Int)) ∧ Touch [] w w' := by
  have HT := hid (tell_ h hk)
  have HS := hid (fun w' => sum_ w' ⟨(tellB c now xs).toArray⟩ (by
    have q := bodyB_len hk
    show (tellB c now xs).toArray.size ≤ _
    rw [List.size_toArray]
    unfold tellB sealB
    rw [List.length_append, by8_len]
    omega))
  have HE : Hid ((endS ((⟨(tellB c now xs).toArray⟩ : ByteArray).data.toList)).1 = smM c now xs) := hid (by rw [← endS_tell])
  rw [HE.out] at HS
  generalize (endS ((⟨(tellB c now xs).toArray⟩ : ByteArray).data.toList)).2 = bb at *
  generalize (⟨(tellB c now xs).toArray⟩ : ByteArray) = TT at *
  generalize smM c now xs = z at *
  unfold PT at *
  clear h hk HE
  go_enter Tryz.func56, Tryz.ntmps56
  go_wp2_with (first
    | (go_at_call 10; refine HT.out.mono ?_; rintro e w1 ⟨rfl, t1⟩)
    | (go_at_call 24; refine (HS.out _).mono ?_; rintro e w2 ⟨rfl, rfl⟩))
  go_ret
  exact ⟨rfl, t1⟩
theorem sumOfMemo_nil (w : World) : Calls Tryz.prog 56 #[.pointer none] w fun e w' => e = .returned (.int .u64 0) ∧ w' = w := by
  have HT := hid (tell_nil w)
  have HS := hid (fun w' => sum_ w' ⟨#[]⟩ (by decide))
  have e1 : (endS ((⟨#[]⟩ : ByteArray).data.toList)).1 = 0 := by decide
  have e2 : (endS ((⟨#[]⟩ : ByteArray).data.toList)).2 = false := by decide
  rw [e1, e2] at HS
  go_enter Tryz.func56, Tryz.ntmps56
  go_wp2_with (first
    | (go_at_call 10; refine HT.out.mono ?_; rintro e w1 ⟨rfl, e9⟩; rw [e9]; clear e9 w1)
    | (go_at_call 24; refine (HS.out _).mono ?_; rintro e w2 ⟨rfl, rfl⟩))
  go_ret
  exact ⟨rfl, rfl⟩
def gonL (ys xs : List En) : List K := (keysL ys).filter (fun k => !(getS xs k).2)
set_option maxRecDepth 20000 in
set_option maxHeartbeats 4000000 in
theorem gone_ {w : World} {m0 m : Nat} {F0 F : List Nat} {c0 c : Cf} {now0 now : Int} {ys xs : List En} (h0 : Mq w m0 F0 c0 now0 ys) (h : Mq w m F c now xs) : Calls Tryz.prog 58 #[PT m0, PT m] w fun e w' => So.KsQ w (gonL ys xs) e w' := by
  have hl : ys.length ≤ 65536 := by obtain ⟨b, o, G, _, hb⟩ := id h0; exact hb.len
  have HOK : Hid (∀ k ∈ keysL ys, Ok k) := by obtain ⟨b, o, G, _, hb⟩ := id h0; exact hid hb.ok
  have HAL := hid (pkeysOf_ h0)
  have HHS := hid (fun w' (t : Touch [] w w') k (hk : Ok k) => phas_ (h.keep0 t) k hk)
  have HSO := hid (fun w' v (ks : List K) (hn : ks.length ≤ 70000) hv => So.sorted_ ks w' v hn hv)
  have HKL : Hid ((keysL ys).length ≤ 65536) := hid (by simp [keysL]; omega)
  clear h h0 hl
  unfold gonL
  generalize keysL ys = L at *
  obtain ⟨n, hn⟩ : ∃ n, n = L.length := ⟨_, rfl⟩
  have HN := hid hn
  rw [← hn] at HAL
  clear hn
  unfold PT at *
  go_enter Tryz.func58, Tryz.ntmps58
  go_wp2_with (go_at_call 60; refine HAL.out.mono ?_; rintro e w2 ⟨v2, rfl, hq2⟩; obtain ⟨a2, c2, e2⟩ := own_form hq2.1; subst e2; have HQ2 := hid hq2; clear hq2)
  clear HAL
  go_loopw [5, 11] (fun s3 si wr => ∃ (i : Nat) (b : Option Addr) (q cp : Nat), si = .int .i64 i ∧ i ≤ n ∧ s3 = .slice b q cp ∧ q ≤ i ∧ Hid (Touch [] w2 wr ∧ wr.ownsRow w2.heap.size 54 2 (.slice b q cp) q (kcs ((L.take i).filter (fun k => !(getS xs k).2))))) (fun _ si _ => n - (intOf si).toNat)
  case atStart => exact ⟨0, none, 0, 0, rfl, Nat.zero_le _, rfl, Nat.le_refl _, hid ⟨Touch.refl _ _, by simp [kcs], Or.inl ⟨rfl, rfl⟩⟩⟩
  case round =>
    obtain ⟨i, b, q, cp, rfl, hi, rfl, hqi, HI⟩ := hrel
    obtain ⟨wo, hwo⟩ : ∃ wo, wo = wr := ⟨_, rfl⟩
    rw [← hwo] at HI ⊢
    clear hwo wr
    have hnl : n ≤ 65536 := by have := HKL.out; have := HN.out; omega
    by_cases hlt : i < n
    · have hz : (i : Int) < (n : Int) := by omega
      have hix : i < L.length := by rw [← HN.out]; exact hlt
      have hrs := Rs.of_own (own_touch HQ2.out.1 HI.out.1 (fun _ _ e => by cases e))
      have hk0 := (kcs_at hix).1
      have hk1 := (kcs_at hix).2
      obtain ⟨g2, o2, rfl, k0⟩ := hrs.cell hk0 (by omega)
      obtain ⟨g3, o3, e3, k1⟩ := hrs.cell hk1 (by omega)
      cases e3
      rw [← Nat.add_assoc] at k1
      have HTK : Hid ((L.take (i + 1)).filter (fun k => !(getS xs k).2) = (L.take i).filter (fun k => !(getS xs k).2) ++ (if (getS xs L[i]).2 = false then [L[i]] else [])) := hid (by
        rw [List.take_succ_eq_append_getElem hix, List.filter_append]
        congr 1
        cases hb : (getS xs L[i]).2 <;> simp [hb])
      have hok := HOK.out L[i] (List.getElem_mem hix)
      have HGk := hid (fun w' (t : Touch [] wo w') => HHS.out w' ((HQ2.out.2.trans' HI.out.1).trans' t) L[i] hok)
      clear hrs hk0 hk1
      generalize L[i] = x at *
      clear hok
      obtain ⟨W1, hW1⟩ : ∃ W1, W1 = wo.alloc (.cells #[.int .u16 x.1, .string x.2] 54) := ⟨_, rfl⟩
      have tW : Touch [] wo W1 := by rw [hW1]; exact (Touch.refl _ _).alloc _
      have hbx : W1.heap[wo.heap.size]? = some (.cells #[.int .u16 x.1, .string x.2] 54 (0, 0)) := by rw [hW1]; exact heap_alloc_new wo _
      have HBX := hid hbx
      have x0 := cell_of (n := 0) hbx rfl
      have x1 := cell_of (n := 1) hbx rfl
      have HTW := hid tW
      have HLT := hid (And.intro hi hlt)
      have HQN : Hid (q ≤ 65536) := hid (by omega)
      have HA : Hid (∀ w5, Touch [] W1 w5 → w5.ownsRow w2.heap.size 54 2 (.slice b q cp) q (kcs ((L.take i).filter (fun k => !(getS xs k).2))) ∧ w2.heap.size ≤ w5.heap.size ∧ Touch [] w2 w5) := hid (fun w5 t5 => ⟨own_touch HI.out.2 (tW.trans' t5) (fun _ _ e => by cases e), (HI.out.1.trans' (tW.trans' t5)).size, HI.out.1.trans' (tW.trans' t5)⟩)
      have HQI := hid hqi
      clear hbx tW hix HI
      have HGk1 := hid (HGk.out W1 HTW.out)
      clear HGk
      cases hb : (getS xs x).2 with
      | false =>
        have HT2 : Hid (kcs ((L.take (i + 1)).filter (fun k => !(getS xs k).2)) = kcs ((L.take i).filter (fun k => !(getS xs k).2)) ++ [.int .u16 x.1, .string x.2]) := hid (by rw [HTK.out, if_pos hb, kcs_snoc])
        rw [hb] at HGk1
        clear HTK hb
        generalize kcs ((L.take i).filter (fun k => !(getS xs k).2)) = vs at *
        unfold kv at HGk1
        go_upto_region 5 with fail
        rw [← hW1]
        clear hW1 k0 k1
        go_upto_region 6 with (go_at_call 101; refine HGk1.out.mono ?_; rintro e w4 ⟨rfl, t4⟩; have T4 := hid t4; clear t4 x0 x1)
        have hb4 := T4.out.keep HBX.out (by simp)
        have y0 := cell_of (n := 0) hb4 rfl
        have y1 := cell_of (n := 1) hb4 rfl
        clear hb4
        go_wp2_with (at_builtin; refine wpList_append_rs rfl _ _ 61 54 rfl _ 2 24 infoAk Tryz.underlying61 rfl (by decide) w2.heap.size (.slice b q cp) q vs rfl (HA.out _ (T4.out.alloc _)).1 (.slice (some ⟨w4.heap.size, 0, none⟩) 1 1) 1 _ rfl (Rs.new w4 #[.int .u16 x.1, .string x.2] 54 2 rfl) (by simp [Value.oneCell']) (by unfold maxLen; have := HQN.out; omega) (by have := HQN.out; omega) (HA.out _ (T4.out.alloc _)).2.1 ?_; intro v6 w6 o6 g6 _; obtain ⟨a6, c6, e6, _⟩ := (Rs.of_own o6).form; subst e6; have O6 := hid o6; have T6 := hid (touch_grown (HA.out _ (T4.out.alloc _)).2.2 g6 (HA.out _ (T4.out.alloc _)).1 (Nat.le_refl _)); clear o6 g6)
        go_roundw
        case rel => exact ⟨i + 1, a6, q + 1, c6, by go_num, by have := HLT.out; omega, rfl, by have := HQI.out; omega, hid ⟨T6.out, by rw [HT2.out]; exact O6.out⟩⟩
        case measure => simp [intOf]; have := HLT.out; omega
      | true =>
        have HT2 : Hid (kcs ((L.take (i + 1)).filter (fun k => !(getS xs k).2)) = kcs ((L.take i).filter (fun k => !(getS xs k).2))) := hid (by rw [HTK.out, if_neg (by rw [hb]; simp), List.append_nil])
        rw [hb] at HGk1
        clear HTK hb
        generalize kcs ((L.take i).filter (fun k => !(getS xs k).2)) = vs at *
        unfold kv at HGk1
        go_upto_region 5 with fail
        rw [← hW1]
        clear hW1 k0 k1
        go_wp2_with (go_at_call 101; refine HGk1.out.mono ?_; rintro e w4 ⟨rfl, t4⟩; have T4 := hid t4; clear t4 x0 x1)
        go_roundw
        case rel => exact ⟨i + 1, b, q, cp, by go_num, by have := HLT.out; omega, rfl, by have := HQI.out; omega, hid ⟨(HA.out _ T4.out).2.2, by rw [HT2.out]; exact (HA.out _ T4.out).1⟩⟩
        case measure => simp [intOf]; have := HLT.out; omega
    · have hz : ¬ (i : Int) < (n : Int) := by omega
      obtain ⟨R, hR⟩ : ∃ R, R = L.filter (fun k => !(getS xs k).2) := ⟨_, rfl⟩
      have HZ : Hid (q = R.length ∧ R.length ≤ 70000 ∧ wo.ownsRow w.heap.size 54 2 (.slice b q cp) q (kcs R) ∧ Touch [] w wo) := hid (by
        have e : L.take i = L := List.take_of_length_le (by have := HN.out; omega)
        have z := HI.out.2
        rw [e, ← hR] at z
        have h1 := z.1
        rw [kcs_len] at h1
        exact ⟨by omega, by omega, own_base z HQ2.out.2.size, HQ2.out.2.trans' HI.out.1⟩)
      clear HI
      have HS2 := hid (HSO.out wo (.slice b q cp) R HZ.out.2.1 (by rw [← HZ.out.1]; exact Rs.of_own HZ.out.2.2.1))
      have HFin : Hid (∀ e w', So.KsQ wo R e w' → So.KsQ w (L.filter (fun k => !(getS xs k).2)) e w') := hid (fun e w' hq => by
        rw [← hR]
        obtain ⟨v, zs, h1, h2, h3, h4, h5⟩ := hq
        exact ⟨v, zs, h1, h2, h3, own_base h4 HZ.out.2.2.2.size, HZ.out.2.2.2.trans' h5⟩)
      clear hR
      go_wp2_with (go_at_call 102; refine HS2.out.mono ?_; rintro e w9 h9; obtain ⟨v9, hv9⟩ : ∃ v9, e = .returned v9 := ⟨_, h9.choose_spec.choose_spec.1⟩; subst hv9; have H9 := hid (HFin.out _ _ h9); clear h9)
      go_ret
      exact H9.out
end Go.Proofs.YtpefbmheblfbeaaGreat.Sn
/- The contract of the program's reader for a list of keys, each of which may stand there, whatever function tells which may; the text's length is a number of the language's, the reader stands within the text. -/
namespace Go.Proofs.YtpefbmheblfbeaaGreat.Sn
open Go.RowKit Go.Sort Go.Shelf Go.Maps Go.ChangeMaps Me
set_option linter.unusedVariables false
set_option linter.unusedSimpArgs false
def keysG (s : ByteArray) (may : K → Bool) : Nat → Rd → List K → Rd × List K
  | 0, x, L => (x, L)
  | n + 1, x, L => if x.er = 0 then keysG s may n (keyG s x L may).1 (L ++ [(keyG s x L may).2]) else (x, L)
theorem keysG_bad (s : ByteArray) (may : K → Bool) (n : Nat) (x : Rd) (L : List K) (h : x.er ≠ 0) : keysG s may n x L = (x, L) := by
  cases n with
  | zero => rfl
  | succ n => rw [keysG, if_neg h]
theorem Rin.keyG {s : ByteArray} {x : Rd} (h : Rin s x) (A : List K) (may : K → Bool) : Rin s (keyG s x A may).1 := by
  unfold Sn.keyG
  cases ht : takK s x.at_ with
  | none => exact h.pass (fun e => by cases e)
  | some p =>
    have hb := takK_b (k := p.1) (n := p.2) ht
    simp only
    split
    · exact h.pass (fun e => by cases e)
    · exact h.pass (fun _ => by omega)
theorem keyG_ok (s : ByteArray) (x : Rd) (A : List K) (may : K → Bool) : Ok (keyG s x A may).2 := by
  have hz : Ok zk := ⟨by decide, by decide⟩
  unfold keyG
  cases ht : takK s x.at_ with
  | none => exact hz
  | some p =>
    obtain ⟨a1, a2, a3, _⟩ := takK_b (k := p.1) (n := p.2) ht
    have hp : Ok p.1 := ⟨by simp [Lit.wf, IntKind.min, IntKind.max, IntKind.signed, IntKind.bits]; omega, by unfold maxLen; omega⟩
    simp only
    split
    · exact hz
    · split
      · exact hp
      · exact hz
theorem keysG_ok {s : ByteArray} {may : K → Bool} : ∀ (n : Nat) (x : Rd) (L : List K), (∀ e ∈ L, Ok e) → ∀ e ∈ (keysG s may n x L).2, Ok e
  | 0, x, L, h => h
  | n + 1, x, L, h => by
    rw [keysG]
    split
    · exact keysG_ok n _ _ (fun e he => by
        rw [List.mem_append, List.mem_singleton] at he
        rcases he with he | rfl
        · exact h e he
        · exact keyG_ok s x L may)
    · exact h
theorem keysG_len {s : ByteArray} {may : K → Bool} : ∀ (n : Nat) (x : Rd) (L : List K), (keysG s may n x L).2.length ≤ L.length + n
  | 0, x, L => Nat.le_refl _
  | n + 1, x, L => by
    rw [keysG]
    split
    · have := keysG_len (s := s) (may := may) n (keyG s x L may).1 (L ++ [(keyG s x L may).2])
      rw [List.length_append] at this
      simp at this
      omega
    · exact Nat.le_add_right _ _
theorem Rin.keysG {s : ByteArray} {may : K → Bool} : ∀ (n : Nat) {x : Rd} (L : List K), Rin s x → Rin s (keysG s may n x L).1
  | 0, x, L, h => h
  | n + 1, x, L, h => by
    rw [Sn.keysG]
    split
    · exact Rin.keysG n _ (h.keyG _ _)
    · exact h
structure KyI (w : World) (r mb : Nat) (s : ByteArray) (x : Rd) (L : List K) (v : Value) (wr : World) : Prop where
  t : Touch [r] w wr
  q : Rq wr r s x
  mt : mb < wr.heap.size
  ah : x.er = 0 → Ah wr mb L
  o : wr.ownsRow (mb + 1) 54 2 v L.length (kcs L)
theorem KyI.step {w : World} {r mb : Nat} {s : ByteArray} {x : Rd} {L : List K} {a : Option Addr} {cp : Nat} {wr w7 w6 : World} (h : KyI w r mb s x L (.slice a L.length cp) wr) (hr : r < w.heap.size) (hmb : w.heap.size ≤ mb) (t7 : Touch [r, mb] wr w7) {y : Rd} (q7 : Rq w7 r s y) {e : K} (hah : y.er = 0 → Ah w7 mb (L ++ [e])) {a6 : Option Addr} {c6 : Nat} (o6 : w6.ownsRow (mb + 1) 54 2 (.slice a6 (L.length + 1) c6) (L.length + 1) (kcs L ++ [.int .u16 e.1, .string e.2])) (g6 : w7.grownBy w6 (Value.slice a L.length cp).ownBlock) : KyI w r mb s y (L ++ [e]) (.slice a6 (L.length + 1) c6) w6 := by
  have T7 : Touch [r] w w7 := h.t.trans t7 (fun k hk => by simp at hk; rcases hk with rfl | rfl; exact Or.inl (by simp); exact Or.inr (by omega))
  have mt7 : mb < w7.heap.size := Nat.lt_of_lt_of_le h.mt t7.size
  have tg : Touch (Value.slice a L.length cp).ownBlock.toList w7 w6 := (Touch.refl _ w7).grown g6 (fun q hq => Or.inl (by simp [hq]))
  have far : ∀ k, k ∈ (Value.slice a L.length cp).ownBlock.toList → mb + 1 ≤ k := fun k hk => (h.o.lt k (by simpa using hk)).1
  refine ⟨T7.trans tg (fun k hk => Or.inr (by have := far k hk; omega)), tg.keep q7 (fun e => by have := far _ e; omega), Nat.lt_of_lt_of_le mt7 tg.size, fun he => ?_, ?_⟩
  · exact (hah he).keep (tg.block mb mt7 (fun e => by have := far _ e; omega))
  · rw [List.length_append, kcs_snoc]; exact o6
theorem KyI.own {w : World} {r mb : Nat} {s : ByteArray} {x : Rd} {L : List K} {a : Option Addr} {cp : Nat} {wr w7 : World} (h : KyI w r mb s x L (.slice a L.length cp) wr) (hr : r < w.heap.size) (hmb : w.heap.size ≤ mb) (t7 : Touch [r, mb] wr w7) : w7.ownsRow (mb + 1) 54 2 (.slice a L.length cp) L.length (kcs L) ∧ mb + 1 ≤ w7.heap.size := by
  have far : ∀ k, (Value.slice a L.length cp).ownBlock = some k → mb + 1 ≤ k := fun k hk => (h.o.lt k hk).1
  refine ⟨own_touch h.o t7 (fun b hb e => by have := far b hb; simp at e; omega), ?_⟩
  have := h.mt
  have := t7.size
  omega
def lstR (s : ByteArray) (x : Rd) (most : Int) (may : K → Bool) : Rd × List K := keysG s may (numR s x 0 most).2.toNat (numR s x 0 most).1 []
set_option maxRecDepth 100000 in
set_option maxHeartbeats 4000000 in
theorem keys_r {w : World} {r : Nat} {s : ByteArray} {x : Rd} {fv : Value} {may : K → Bool} (HF : Hid (KeyC fv r s may w)) (h : Rq w r s x) (hi : Rin s x) (hs : s.size ≤ 140737488351232) (most : Int) (hc : 0 ≤ most ∧ most ≤ 65536) : Calls Tryz.prog 104 #[PT r, .int .i64 most, fv] w fun e w' => ∃ v, e = .returned v ∧ w'.ownsRow w.heap.size 54 2 v (lstR s x most may).2.length (kcs (lstR s x most may).2) ∧ Rq w' r s (lstR s x most may).1 ∧ Touch [r] w w' := by
  unfold lstR
  obtain ⟨V, hV⟩ : ∃ V, V = w.alloc (.map #[] 0) := ⟨_, rfl⟩
  obtain ⟨mb, hmb⟩ : ∃ mb, mb = w.heap.size := ⟨_, rfl⟩
  have T2 : Touch [] w V := by rw [hV]; exact (Touch.refl _ _).alloc _
  have hmap : Ah V mb [] := ⟨fun _ => none, by rw [hV, hmb]; exact Me.mapAt_made w, fun k _ => rfl⟩
  have hmv : mb < V.heap.size := by rw [hV, hmb]; simp
  have HW1 : Hid (w.heap.size ≤ mb) := hid (by omega)
  have q0 : Rq V r s x := h.keep0 T2
  have hr := h.lt
  have H1 := hid (size_r q0 hi hs 0 most (by omega) (by omega) hc.1 (by omega))
  have hN0 : 0 ≤ (numR s x 0 most).2 ∧ (numR s x 0 most).2 ≤ 65536 := by
    unfold numR
    split
    · simp
    · split
      · split
        · rename_i p q hh
          exact ⟨by show (0 : Int) ≤ (_ : Nat); omega, by have := hh.2; omega⟩
        · simp
      · simp
  have j1 := hi.num 0 most
  generalize numR s x 0 most = a1 at *
  obtain ⟨N, hN⟩ : ∃ N : Nat, a1.2 = (N : Int) := ⟨a1.2.toNat, by omega⟩
  have hNb : N ≤ 65536 := by omega
  rw [hN] at H1
  have eN : a1.2.toNat = N := by omega
  rw [eN]
  have HTV := hid T2
  have KK := hid (fun w' y A (t : Touch [r] w w') (q : Rq w' r s y) (m : Ah w' mb A) (hy : Rin s y) (hA : A.length ≤ 65536) => HF.out w' mb y A t q m hy hA)
  have HI0 : Hid (∀ w1, Rq w1 r s a1.1 → Touch [r] V w1 → KyI w r mb s a1.1 [] (.slice none 0 0) w1) := hid (fun w1 q1 t1 => ⟨(HTV.out.mono (by simp)).trans' t1, q1, Nat.lt_of_lt_of_le hmv t1.size, fun _ => hmap.keep (t1.block mb hmv (by simp; omega)), ⟨rfl, Or.inl ⟨rfl, rfl⟩⟩⟩)
  have HJ := hid j1
  generalize hE : keysG s may N a1.1 [] = EE at *
  have HE := hid hE
  have HNb := hid hNb
  clear h hi hs hc T2 hmap q0 hN0 hN hNb eN j1 hE HF
  have hmm := @run_makeMap Tryz.prog
  unfold PT at *
  go_enter Tryz.func104, Tryz.ntmps104
  go_upto_region 3 with fail
  rw [← hV]
  try rw [← hmb]
  have HMB := hid hmb
  clear hV hmb
  go_wp2_with (go_at_call 95; refine H1.out.mono ?_; rintro e w1 ⟨rfl, q1, t1⟩; have HI1 := hid (HI0.out _ q1 t1); clear q1 t1)
  clear HI0 H1 hmv
  go_loopw [7] (fun v7 wr => ∃ (L : List K) (a : Option Addr) (cp : Nat) (y : Rd), v7 = .slice a L.length cp ∧ Hid (KyI w r mb s y L (.slice a L.length cp) wr ∧ Rin s y ∧ L.length ≤ N ∧ keysG s may (N - L.length) y L = EE)) (fun v7 _ => N - slen v7)
  case atStart => exact ⟨[], none, 0, a1.1, rfl, hid ⟨HI1.out, HJ.out, Nat.zero_le _, HE.out⟩⟩
  case round =>
    clear HI1 HJ HE
    obtain ⟨L, a, cp, y, rfl, HI⟩ := hrel
    obtain ⟨u0, u1, u2, u3⟩ := HI.out
    have cEr := cell_of (n := 2) u0.q rfl
    by_cases hlt : L.length < N ∧ y.er = 0
    · obtain ⟨hl, he⟩ := hlt
      rw [he] at cEr
      have zl : (L.length : Int) < (N : Int) := by omega
      have HK := hid (KK.out wr y L u0.t u0.q (u0.ah he) u1 (by have := HNb.out; omega))
      have y1i := u1.keyG L may
      have e4 : keysG s may (N - L.length) y L = keysG s may (N - (L.length + 1)) (keyG s y L may).1 (L ++ [(keyG s y L may).2]) := by
        rw [show N - L.length = (N - (L.length + 1)) + 1 by omega, keysG, if_pos he]
      rw [e4] at u3
      obtain ⟨kk, hkk⟩ : ∃ kk, kk = (keyG s y L may).2 := ⟨_, rfl⟩
      obtain ⟨k1, hk1⟩ : ∃ k1, k1 = (keyG s y L may).1 := ⟨_, rfl⟩
      rw [← hkk, ← hk1] at HK u3
      rw [← hk1] at y1i
      have HU3 := hid u3
      have HYI := hid y1i
      have HU0 := hid u0
      have HLL := hid hl
      clear u3 e4 hkk hk1 y1i hl he u2 u1 u0 HI
      obtain ⟨n, hn⟩ : ∃ n, n = L.length := ⟨_, rfl⟩
      have HNn : Hid (n ≤ 65536) := hid (by have := HNb.out; have := HLL.out; omega)
      have HOW : Hid (∀ w7, Touch [r, mb] wr w7 → w7.ownsRow (mb + 1) 54 2 (.slice a n cp) n (kcs L) ∧ mb + 1 ≤ w7.heap.size) := hid (fun w7 t7 => by rw [hn]; exact HU0.out.own hr HW1.out t7)
      have HST : Hid (∀ w7, Rq w7 r s k1 → Touch [r, mb] wr w7 → (k1.er = 0 → Ah w7 mb (L ++ [kk])) → ∀ a6 c6 w6, w6.ownsRow (mb + 1) 54 2 (.slice a6 (n + 1) c6) (n + 1) (kcs L ++ [.int .u16 kk.1, .string kk.2]) → w7.grownBy w6 (Value.slice a n cp).ownBlock → KyI w r mb s k1 (L ++ [kk]) (.slice a6 (L ++ [kk]).length c6) w6) := hid (fun w7 q7 t7 ah a6 c6 w6 o6 g6 => by rw [List.length_append]; subst hn; exact HU0.out.step hr HW1.out t7 q7 ah o6 g6)
      have HNL := hid hn
      rw [← hn]
      rw [← hn] at zl
      clear hn
      unfold kv at HK
      go_wp2_with (first
        | (go_at_call 96; refine HK.out.mono ?_; rintro e w5 ⟨rfl, q5, t5, ah5⟩; have Q7 := hid (q5.keep0 ((Touch.refl [] w5).alloc (.cells #[.int .u16 kk.1, .string kk.2] 54))); have T7 := hid (t5.alloc (.cells #[.int .u16 kk.1, .string kk.2] 54)); have A7 := hid (fun he => (ah5 he).keep ((Touch.refl [] w5).alloc (.cells #[.int .u16 kk.1, .string kk.2] 54) |>.block mb (Nat.lt_of_lt_of_le HU0.out.mt t5.size) (by simp))); clear q5 t5 ah5 cEr zl)
        | (at_builtin; refine wpList_append_rs rfl _ _ 61 54 rfl _ 2 24 infoAk Tryz.underlying61 rfl (by decide) (mb + 1) (.slice a n cp) n (kcs L) rfl (HOW.out _ T7.out).1 (.slice (some ⟨w5.heap.size, 0, none⟩) 1 1) 1 _ rfl (Rs.new w5 #[.int .u16 kk.1, .string kk.2] 54 2 rfl) (by simp [Value.oneCell']) (by unfold maxLen; have := HNn.out; omega) (by have := HNn.out; omega) (HOW.out _ T7.out).2 ?_; intro v6 w6 o6 g6 _; obtain ⟨a6, c6, e6, _⟩ := (Rs.of_own o6).form; subst e6; have S6 := hid (HST.out _ Q7.out T7.out A7.out a6 c6 w6 o6 g6); clear o6 g6))
      go_roundw
      case rel => exact ⟨L ++ [kk], a6, c6, k1, by rw [List.length_append, ← HNL.out]; rfl, hid ⟨S6.out, HYI.out, by rw [List.length_append]; exact HLL.out, by rw [List.length_append]; exact HU3.out⟩⟩
      case measure => simp [slen]; have := HLL.out; have := HNL.out; omega
    · have HZ : Hid (EE = (y, L)) := hid (by
        rw [← u3]
        by_cases he : y.er = 0
        · rw [show N - L.length = 0 by omega]; rfl
        · exact keysG_bad _ _ _ _ _ he)
      have HW : Hid (wr.ownsRow w.heap.size 54 2 (.slice a L.length cp) L.length (kcs L) ∧ Rq wr r s y ∧ Touch [r] w wr) := hid ⟨own_base u0.o (by have := HW1.out; omega), u0.q, u0.t⟩
      by_cases hl : L.length < N
      · have zl : (L.length : Int) < (N : Int) := by omega
        have he : ¬ y.er = 0 := fun e => hlt ⟨hl, e⟩
        have hb : (y.er == 0) = false := by simpa using he
        clear u0 u1 u2 u3 HI hlt
        go_wp2
        go_ret
        exact ⟨_, rfl, by rw [HZ.out]; exact HW.out.1, by rw [HZ.out]; exact HW.out.2.1, HW.out.2.2⟩
      · have zl : ¬ (L.length : Int) < (N : Int) := by omega
        clear u0 u1 u2 u3 HI hlt cEr
        go_wp2
        go_ret
        exact ⟨_, rfl, by rw [HZ.out]; exact HW.out.1, by rw [HZ.out]; exact HW.out.2.1, HW.out.2.2⟩
end Go.Proofs.YtpefbmheblfbeaaGreat.Sn
