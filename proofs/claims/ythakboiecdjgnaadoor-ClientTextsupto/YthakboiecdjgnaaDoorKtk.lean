/- What the document's guess at a line must be, op by op, in plain words. -/
import Derived.Test.YthakboiecdjgnaaDoorKtj
namespace Go.Proofs.YthakboiecdjgnaaDoor.Kt
open Go.RowKit Go.Sort Go.Shelf
open Go.Proofs.YthakboiecdjgnaaDoor.Ci
set_option linter.unusedVariables false
theorem pre_of {s wd r : ByteArray} (h : s = wd ++ (⟨#[32]⟩ ++ r)) : wd.size < s.size ∧ s.extract 0 wd.size = wd ∧ (∃ h : wd.size < s.size, s[wd.size].toNat = 32) ∧ s.extract (wd.size + 1) s.size = r := by
  have e : s.data.toList = wd.data.toList ++ 32 :: r.data.toList := by rw [h]; simp [ByteArray.data_append]
  have hz : s.size = wd.size + 1 + r.size := by
    rw [h, ByteArray.size_append, ByteArray.size_append]
    have : (ByteArray.mk #[32]).size = 1 := rfl
    omega
  have hlt : wd.size < s.size := by omega
  refine ⟨hlt, cut_split s wd [] (32 :: r.data.toList) (by rw [e]; rfl) _ _ rfl (by simp), ⟨hlt, ?_⟩, cut_split s r (wd.data.toList ++ [32]) [] (by rw [e]; simp) _ _ ?_ ?_⟩
  · rw [at_split s wd.data.toList _ 32 e wd.size rfl hlt]
    rfl
  · rw [List.length_append]; rfl
  · rw [hz, List.length_append]; rfl
/-- what is known of a line at an op -/
def OpAt (s : ByteArray) (k : Nat) (r : ByteArray) (C : Dz → Prop) : Prop := ∀ d, rdZ s = some d → d.op = k → C d
theorem at_form {s : ByteArray} {d : Dz} (h : rdZ s = some d) (k : Nat) (e0 : d.op = k) : ∃ r, s = kWord k ++ (⟨#[32]⟩ ++ r) := by
  obtain ⟨_, hm, hl, hu⟩ := rdZ_some h
  rcases lnF hm hu with ⟨k', h1, h2, a, sp, hs, hn, e, l⟩ | ⟨k', h1, h2, a, sp, hs, hn, sl, hsl, e, l⟩ | ⟨k', h1, h2, a, sl, hsl, e, l⟩ | ⟨k', h1, h2, a, n, hn, e, l⟩
  ·
    have : k' = k := by rw [e] at e0; dsimp only at e0; omega
    subst this
    exact ⟨_, hl.symm.trans l⟩
  ·
    have : k' = k := by rw [e] at e0; dsimp only at e0; omega
    subst this
    exact ⟨_, hl.symm.trans l⟩
  ·
    have : k' = k := by rw [e] at e0; dsimp only at e0; omega
    subst this
    exact ⟨_, hl.symm.trans l⟩
  ·
    have : k' = k := by rw [e] at e0; dsimp only at e0; omega
    subst this
    exact ⟨_, hl.symm.trans l⟩
theorem op_none {s : ByteArray} {k : Nat} (h : ¬ (kWord k).size < s.size ∨ s.extract 0 (kWord k).size ≠ kWord k ∨ (∃ h : (kWord k).size < s.size, s[(kWord k).size].toNat ≠ 32)) : ∀ d, rdZ s = some d → d.op ≠ k := fun d hd e0 => by
  obtain ⟨r, hr⟩ := at_form hd k e0
  obtain ⟨h1, h2, ⟨h3, h4⟩, _⟩ := pre_of hr
  rcases h with h | h | ⟨_, h⟩
  · exact h h1
  · exact h h2
  · exact h h4
theorem op_num {s : ByteArray} {k : Nat} (hk : kKey k = false) (hn : 0 < kNh k) : ∀ d, rdZ s = some d → d.op = k → ∃ m : Nat, m ≤ MT ∧ itoaB m = s.extract ((kWord k).size + 1) s.size ∧ d = ⟨k, 0, ⟨#[]⟩, m, 0⟩ := fun d hd e0 => by
  obtain ⟨_, hm, hl, hu⟩ := rdZ_some hd
  rcases lnF hm hu with ⟨k', h1, h2, a, sp, hs, hn', e, l⟩ | ⟨k', h1, h2, a, sp, hs, hn', sl, hsl, e, l⟩ | ⟨k', h1, h2, a, sl, hsl, e, l⟩ | ⟨k', h1, h2, a, n, hn', e, l⟩
  ·
    have : k' = k := by rw [e] at e0; dsimp only at e0; omega
    subst this
    exact absurd hn a.2.1
  ·
    have : k' = k := by rw [e] at e0; dsimp only at e0; omega
    subst this
    exact absurd hn a.2.1
  ·
    have : k' = k := by rw [e] at e0; dsimp only at e0; omega
    subst this
    exact absurd hn a.2.1
  ·
    have : k' = k := by rw [e] at e0; dsimp only at e0; omega
    subst this
    exact ⟨n, hn', ((pre_of (hl.symm.trans l)).2.2.2).symm, e⟩
theorem op_slot {s : ByteArray} {k : Nat} (hk : kKey k = false) (hn : 0 < kSh k) : ∀ d, rdZ s = some d → d.op = k → ∃ m : Nat, m ≤ MT ∧ itoaB m = s.extract ((kWord k).size + 1) s.size ∧ d = ⟨k, 0, ⟨#[]⟩, 0, m⟩ := fun d hd e0 => by
  obtain ⟨_, hm, hl, hu⟩ := rdZ_some hd
  rcases lnF hm hu with ⟨k', h1, h2, a, sp, hs, hn', e, l⟩ | ⟨k', h1, h2, a, sp, hs, hn', sl, hsl, e, l⟩ | ⟨k', h1, h2, a, sl, hsl, e, l⟩ | ⟨k', h1, h2, a, n, hn', e, l⟩
  ·
    have : k' = k := by rw [e] at e0; dsimp only at e0; omega
    subst this
    exact absurd hn a.2.2
  ·
    have : k' = k := by rw [e] at e0; dsimp only at e0; omega
    subst this
    exact absurd (hk.symm.trans a.1) (by simp)
  ·
    have : k' = k := by rw [e] at e0; dsimp only at e0; omega
    subst this
    exact ⟨sl, by unfold MT; omega, ((pre_of (hl.symm.trans l)).2.2.2).symm, e⟩
  ·
    have : k' = k := by rw [e] at e0; dsimp only at e0; omega
    subst this
    exact absurd hn a.2.2
theorem op_key {s : ByteArray} {k : Nat} (hk : kKey k = true) (hn : ¬ 0 < kSh k) : ∀ d, rdZ s = some d → d.op = k → ∃ (sp : Nat) (nm : ByteArray), sp ≤ 65535 ∧ nm.size ≤ 64 ∧ textB sp nm = s.extract ((kWord k).size + 1) s.size ∧ d = ⟨k, sp, nm, 0, 0⟩ := fun d hd e0 => by
  obtain ⟨_, hm, hl, hu⟩ := rdZ_some hd
  rcases lnF hm hu with ⟨k', h1, h2, a, sp, hs, hn', e, l⟩ | ⟨k', h1, h2, a, sp, hs, hn', sl, hsl, e, l⟩ | ⟨k', h1, h2, a, sl, hsl, e, l⟩ | ⟨k', h1, h2, a, n, hn', e, l⟩
  ·
    have : k' = k := by rw [e] at e0; dsimp only at e0; omega
    subst this
    exact ⟨sp, d.nm, hs, hn', ((pre_of (hl.symm.trans l)).2.2.2).symm, e⟩
  ·
    have : k' = k := by rw [e] at e0; dsimp only at e0; omega
    subst this
    exact absurd a.2.2 hn
  ·
    have : k' = k := by rw [e] at e0; dsimp only at e0; omega
    subst this
    exact absurd a.2.2 hn
  ·
    have : k' = k := by rw [e] at e0; dsimp only at e0; omega
    subst this
    exact absurd (hk.symm.trans a.1) (by simp)
theorem op_both {s : ByteArray} {k : Nat} (hk : kKey k = true) (hn : 0 < kSh k) : ∀ d, rdZ s = some d → d.op = k → ∃ (sp : Nat) (nm : ByteArray) (m : Nat), sp ≤ 65535 ∧ nm.size ≤ 64 ∧ m ≤ MT ∧ textB sp nm ++ (⟨#[32]⟩ ++ itoaB m) = s.extract ((kWord k).size + 1) s.size ∧ d = ⟨k, sp, nm, 0, m⟩ := fun d hd e0 => by
  obtain ⟨_, hm, hl, hu⟩ := rdZ_some hd
  rcases lnF hm hu with ⟨k', h1, h2, a, sp, hs, hn', e, l⟩ | ⟨k', h1, h2, a, sp, hs, hn', sl, hsl, e, l⟩ | ⟨k', h1, h2, a, sl, hsl, e, l⟩ | ⟨k', h1, h2, a, n, hn', e, l⟩
  ·
    have : k' = k := by rw [e] at e0; dsimp only at e0; omega
    subst this
    exact absurd hn a.2.2
  ·
    have : k' = k := by rw [e] at e0; dsimp only at e0; omega
    subst this
    exact ⟨sp, d.nm, sl, hs, hn', by unfold MT; omega, ((pre_of (hl.symm.trans l)).2.2.2).symm, e⟩
  ·
    have : k' = k := by rw [e] at e0; dsimp only at e0; omega
    subst this
    exact absurd (hk.symm.trans a.1) (by simp)
  ·
    have : k' = k := by rw [e] at e0; dsimp only at e0; omega
    subst this
    exact absurd hn a.2.2
theorem lastZ_itoa (m : Nat) : lastZ (itoaB m) = (⟨#[]⟩, itoaB m) := by
  unfold lastZ
  rw [if_pos (last_no _ (by rw [itoaB_list]; exact noB_dec 32 (by decide) m))]
theorem lastZ_text (t : ByteArray) (m : Nat) : lastZ (t ++ (⟨#[32]⟩ ++ itoaB m)) = (t, itoaB m) := by
  have e : (t ++ (⟨#[32]⟩ ++ itoaB m)).data.toList = t.data.toList ++ 32 :: Lib.decDigits m := by rw [← itoaB_list]; simp [ByteArray.data_append]
  have hl := last_at _ _ _ e (noB_dec 32 (by decide) m)
  have hsz : t.data.toList.length = t.size := rfl
  rw [hsz] at hl
  have hall : (t ++ (⟨#[32]⟩ ++ itoaB m)).size = t.size + 1 + (itoaB m).size := by
    rw [ByteArray.size_append, ByteArray.size_append]
    have : (ByteArray.mk #[32]).size = 1 := rfl
    omega
  unfold lastZ
  rw [hl, if_neg (by omega), show ((t.size : Int)).toNat = t.size by omega]
  have E1 : (t ++ (⟨#[32]⟩ ++ itoaB m)).extract (t.size + 1) (t ++ (⟨#[32]⟩ ++ itoaB m)).size = itoaB m :=
    cut_split _ (itoaB m) (t.data.toList ++ [32]) [] (by rw [e, itoaB_list]; simp) _ _ (by rw [List.length_append, hsz]; rfl) (by rw [hall, List.length_append, hsz]; rfl)
  have E2 : (t ++ (⟨#[32]⟩ ++ itoaB m)).extract 0 t.size = t :=
    cut_split _ t [] (32 :: Lib.decDigits m) (by rw [e]; rfl) _ _ rfl (by simp)
  rw [E1, E2]
/-- a guess at an op that is right, or is no line -/
def Gs (s : ByteArray) (k : Nat) (G : Dz) : Prop := ∀ d, rdZ s = some d → d.op = k → d = G
theorem gs_may {s : ByteArray} {k : Nat} {G : Dz} (h : Gs s k G) (hm : mayZ G = false) : ∀ d, rdZ s = some d → d.op ≠ k := fun d hd e0 => by
  have h1 := (rdZ_some hd).2.1
  rw [h d hd e0, hm] at h1
  cases h1
theorem gs_ln {s : ByteArray} {k : Nat} {G : Dz} (h : Gs s k G) (hm : ln G ≠ s) : ∀ d, rdZ s = some d → d.op ≠ k := fun d hd e0 => by
  have h1 := (rdZ_some hd).2.2.1
  rw [h d hd e0] at h1
  exact hm h1
theorem gs_yes {s : ByteArray} {G : Dz} (h : mayZ G = true) (hu : Usp G) (hl : ln G = s) : rdZ s = some G := by rw [← hl]; exact rdZ_ln h hu
theorem next_of {s : ByteArray} {j : Nat} (HN : ∀ d, rdZ s = some d → (j : Int) ≤ d.op) (h : ∀ d, rdZ s = some d → d.op ≠ j) : ∀ d, rdZ s = some d → ((j + 1 : Nat) : Int) ≤ d.op := fun d hd => by
  have h1 := HN d hd
  have h2 := h d hd
  omega
theorem end_of {s : ByteArray} (HN : ∀ d, rdZ s = some d → (10 : Int) ≤ d.op) : rdZ s = none := by
  cases h : rdZ s with
  | none => rfl
  | some d =>
    obtain ⟨k, h1, h2, e, _⟩ := may_parts (rdZ_some h).2.1
    have := HN d h
    omega
end Go.Proofs.YthakboiecdjgnaaDoor.Kt
