/- Recipes as texts, and texts read as recipes, in plain words; no conditions. -/
import Derived.Test.YtgjojdlbighoaaaDoorDgt
import Derived.Test.YtgjojdlbighoaaaDoorChk
import Derived.Lib.ParseIntBTie
namespace Go.Proofs.YtgjojdlbighoaaaDoor
open Go.RowKit Go.Sort
set_option linter.unusedVariables false

theorem tw_mem {p : UInt8 → Bool} : ∀ {l : List UInt8} {c : UInt8}, c ∈ l.takeWhile p → p c = true
  | [], c, h => by simp at h
  | a :: l, c, h => by
    rw [List.takeWhile_cons] at h
    split at h
    · rename_i ha
      rcases List.mem_cons.1 h with rfl | h
      · exact ha
      · exact tw_mem h
    · simp at h
theorem tw_all {p : UInt8 → Bool} : ∀ {l : List UInt8}, (∀ c ∈ l, p c = true) → l.takeWhile p = l
  | [], _ => rfl
  | a :: l, h => by rw [List.takeWhile_cons, if_pos (h a (by simp)), tw_all (fun c hc => h c (by simp [hc]))]
/-- the word that begins at a place -/
def wd (s : List UInt8) (p : Nat) : List UInt8 := (s.drop p).takeWhile (fun c => c != 32)
theorem wd_len (s : List UInt8) (p : Nat) (hp : p ≤ s.length) : p + (wd s p).length ≤ s.length := by
  have h := List.takeWhile_prefix (p := fun c : UInt8 => c != 32) (l := s.drop p)
  have := h.length_le
  rw [List.length_drop] at this
  unfold wd
  omega
theorem wd_noSp (s : List UInt8) (p : Nat) : noSp (wd s p) := fun c hc => by
  have := tw_mem hc
  simpa using this
theorem wd_split (s : List UInt8) (p : Nat) : s.drop p = wd s p ++ (s.drop p).dropWhile (fun c => c != 32) := (List.takeWhile_append_dropWhile).symm
theorem wd_end (s : List UInt8) (p : Nat) (hp : p ≤ s.length) (h : p + (wd s p).length < s.length) : s[p + (wd s p).length]? = some 32 := by
  have h1 := wd_split s p
  cases hd : (s.drop p).dropWhile (fun c => c != 32) with
  | nil =>
    rw [hd, List.append_nil] at h1
    have := congrArg List.length h1
    rw [List.length_drop] at this
    omega
  | cons c r =>
    have h2 := List.head?_dropWhile_not (p := fun c : UInt8 => c != 32) (l := s.drop p)
    rw [hd] at h1 h2
    simp at h2
    have h3 : (s.drop p)[(wd s p).length]? = some c := by rw [h1]; simp
    rw [List.getElem?_drop] at h3
    rw [h3, h2]
theorem wd_at (a w r : List UInt8) (hw : noSp w) (hr : r = [] ∨ ∃ r', r = 32 :: r') : wd (a ++ (w ++ r)) a.length = w := by
  unfold wd
  rw [List.drop_left]
  rcases hr with rfl | ⟨r', rfl⟩
  · rw [List.append_nil]
    exact tw_all (fun c hc => by simpa using hw c hc)
  · rw [List.takeWhile_append_of_pos (fun c hc => by simpa using hw c hc)]
    simp
/-- the number that a word is -/
def numV (d : List UInt8) : Option Int := match Lib.atoiAll d with
  | .ok v => if Lib.itoa v = d then some v else none
  | _ => none
theorem numV_some {d : List UInt8} {v : Int} (h : numV d = some v) : Lib.itoa v = d := by
  unfold numV at h
  split at h
  · split at h
    · cases h; assumption
    · cases h
  · cases h
theorem numV_itoa (n : Int) (h : I64 n) : numV (Lib.itoa n) = some n := by
  unfold numV
  rw [atoi_itoa n h]
  simp
theorem numV_in {d : List UInt8} {v : Int} (h : numV d = some v) : I64 v := by
  unfold numV at h
  cases ha : Lib.atoiAll d with
  | ok u =>
    rw [ha] at h
    simp only [] at h
    split at h
    · cases h
      have := Lib.parseIntB_bounds (B := 64) (by rw [Lib.parseIntB_64]; exact ha)
      unfold I64
      omega
    · cases h
  | _ => rw [ha] at h; cases h
/-- what both numbers tell: the number, and whether the word is one -/
def NumOf (s : ByteArray) (n : Int) (b : Bool) : Prop := I64 n ∧ (b = true → numV s.data.toList = some n) ∧ (b = false → numV s.data.toList = none)
/-- the Op of a word -/
def opW (w : List UInt8) : Nat := ((List.range 13).find? (fun k => k != 0 && w == (kWord k).data.toList)).getD 0
theorem opW_le (w : List UInt8) : opW w ≤ 12 := by
  unfold opW
  cases h : (List.range 13).find? (fun k => k != 0 && w == (kWord k).data.toList) with
  | none => exact Nat.zero_le _
  | some k =>
    have := List.mem_range.1 (List.mem_of_find?_eq_some h)
    show k ≤ 12
    omega
theorem opW_word (k : Nat) (h1 : 1 ≤ k) (h2 : k ≤ 12) : opW (kWord k).data.toList = k := by
  rcases (by omega : k = 1 ∨ k = 2 ∨ k = 3 ∨ k = 4 ∨ k = 5 ∨ k = 6 ∨ k = 7 ∨ k = 8 ∨ k = 9 ∨ k = 10 ∨ k = 11 ∨ k = 12) with rfl | rfl | rfl | rfl | rfl | rfl | rfl | rfl | rfl | rfl | rfl | rfl <;> decide
theorem opW_first (w : List UInt8) (k : Nat) (h1 : 1 ≤ k) (h2 : k ≤ 12) (hk : w = (kWord k).data.toList) : opW w = k := by rw [hk, opW_word k h1 h2]
theorem opW_none (w : List UInt8) (h : ∀ k, 1 ≤ k → k ≤ 12 → w ≠ (kWord k).data.toList) : opW w = 0 := by
  unfold opW
  have : (List.range 13).find? (fun k => k != 0 && w == (kWord k).data.toList) = none := by
    rw [List.find?_eq_none]
    intro k hk hb
    have hk' := List.mem_range.1 hk
    simp only [Bool.and_eq_true, bne_iff_ne, beq_iff_eq] at hb
    exact h k (by omega) (by omega) hb.2
  rw [this]
  rfl
/-- a number behind a blank at a place: the place of what is wrong, or the number and the place behind it -/
def numS (s : List UInt8) (e : Nat) (lo hi : Int) : Nat ⊕ (Int × Nat) :=
  if e = s.length then .inl s.length else match numV (wd s (e + 1)) with
    | none => .inl (e + 1)
    | some a => if lo ≤ a ∧ a ≤ hi then .inr (a, e + 1 + (wd s (e + 1)).length) else .inl (e + 1)
/-- one step read at a place: the place of what is wrong, or the step and the place behind it -/
def oneS (s : List UInt8) (p : Nat) : Nat ⊕ (Sp × Nat) :=
  let k := opW (wd s p)
  let e := p + (wd s p).length
  if k = 0 then .inl p else if kNamed k = 0 then .inr (((k : Int), 0, 0), e) else
    match numS s e (kLa k) (kHa k) with
    | .inl q => .inl q
    | .inr (a, e1) => if kNamed k = 1 then .inr (((k : Int), a, 0), e1) else
      match numS s e1 (kLb k) (kHb k) with
      | .inl q => .inl q
      | .inr (b, e2) => .inr (((k : Int), a, b), e2)
theorem num_end {s : List UInt8} {e : Nat} {lo hi a : Int} {e1 : Nat} (he : e ≤ s.length) (h : numS s e lo hi = .inr (a, e1)) : e < e1 ∧ e1 ≤ s.length ∧ I64 a ∧ lo ≤ a ∧ a ≤ hi ∧ e ≠ s.length := by
  unfold numS at h
  split at h
  · cases h
  · rename_i hne
    have hl := wd_len s (e + 1) (by omega)
    cases hn : numV (wd s (e + 1)) with
    | none => rw [hn] at h; cases h
    | some v =>
      rw [hn] at h
      simp only [] at h
      split at h
      · rename_i hr
        have h2 := Sum.inr.inj h
        simp only [Prod.mk.injEq] at h2
        obtain ⟨rfl, rfl⟩ := h2
        exact ⟨by omega, hl, numV_in hn, hr.1, hr.2, hne⟩
      · cases h
theorem one_end {s : List UInt8} {p : Nat} {x : Sp} {e : Nat} (hp : p ≤ s.length) (h : oneS s p = .inr (x, e)) : p ≤ e ∧ e ≤ s.length ∧ may x := by
  unfold oneS at h
  have hl := wd_len s p hp
  have hk := opW_le (wd s p)
  simp only [] at h
  generalize opW (wd s p) = k at *
  generalize hee : p + (wd s p).length = e0 at *
  split at h
  · cases h
  · rename_i hk0
    have i0 : I64 0 := ⟨by decide, by decide⟩
    split at h
    · rename_i hn
      have h2 := Sum.inr.inj h
      simp only [Prod.mk.injEq] at h2
      obtain ⟨rfl, rfl⟩ := h2
      refine ⟨by omega, hl, ?_⟩
      have := (may_iff k 0 0 (by omega) hk i0).2
      apply this
      rcases (by omega : k = 1 ∨ k = 2 ∨ k = 3 ∨ k = 4 ∨ k = 5 ∨ k = 6 ∨ k = 7 ∨ k = 8 ∨ k = 9 ∨ k = 10 ∨ k = 11 ∨ k = 12) with rfl | rfl | rfl | rfl | rfl | rfl | rfl | rfl | rfl | rfl | rfl | rfl <;> revert hn <;> decide
    · rename_i hn
      cases h1 : numS s e0 (kLa k) (kHa k) with
      | inl q => rw [h1] at h; cases h
      | inr z =>
        obtain ⟨a, e1⟩ := z
        obtain ⟨g1, g2, g3, g4, g5, _⟩ := num_end (by omega) h1
        rw [h1] at h
        simp only [] at h
        split at h
        · rename_i hn1
          have h2 := Sum.inr.inj h
          simp only [Prod.mk.injEq] at h2
          obtain ⟨rfl, rfl⟩ := h2
          refine ⟨by omega, g2, ?_⟩
          have := (may_iff k a 0 (by omega) hk g3).2
          apply this
          refine ⟨⟨g4, g5⟩, ?_⟩
          rcases (by omega : k = 1 ∨ k = 2 ∨ k = 3 ∨ k = 4 ∨ k = 5 ∨ k = 6 ∨ k = 7 ∨ k = 8 ∨ k = 9 ∨ k = 10 ∨ k = 11 ∨ k = 12) with rfl | rfl | rfl | rfl | rfl | rfl | rfl | rfl | rfl | rfl | rfl | rfl <;> revert hn1 <;> decide
        · cases h3 : numS s e1 (kLb k) (kHb k) with
          | inl q => rw [h3] at h; cases h
          | inr z =>
            obtain ⟨b, e2⟩ := z
            obtain ⟨m1, m2, m3, m4, m5, _⟩ := num_end g2 h3
            rw [h3] at h
            have h2 := Sum.inr.inj h
            simp only [Prod.mk.injEq] at h2
            obtain ⟨rfl, rfl⟩ := h2
            exact ⟨by omega, m2, (may_iff k a b (by omega) hk g3).2 ⟨⟨g4, g5⟩, ⟨m4, m5⟩⟩⟩
/-- a text read from a place on: the place of what is wrong, or the steps -/
def Ps (s : List UInt8) (p : Nat) (R : Nat ⊕ List Sp) : Prop := ∀ P : Nat → (Nat ⊕ List Sp) → Prop,
  (∀ p q, oneS s p = .inl q → P p (.inl q)) → (∀ p x e, oneS s p = .inr (x, e) → e = s.length → P p (.inr [x])) →
  (∀ p x e q, oneS s p = .inr (x, e) → e ≠ s.length → P (e + 1) (.inl q) → P p (.inl q)) →
  (∀ p x e l, oneS s p = .inr (x, e) → e ≠ s.length → P (e + 1) (.inr l) → P p (.inr (x :: l))) → P p R
section
variable {s : List UInt8} {p q e : Nat} {x : Sp} {l : List Sp} {R R' : Nat ⊕ List Sp}
theorem Ps.bad (h : oneS s p = .inl q) : Ps s p (.inl q) := fun P h1 h2 h3 h4 => h1 _ _ h
theorem Ps.last (h : oneS s p = .inr (x, e)) (he : e = s.length) : Ps s p (.inr [x]) := fun P h1 h2 h3 h4 => h2 _ _ _ h he
theorem Ps.moreBad (h : oneS s p = .inr (x, e)) (he : e ≠ s.length) (hk : Ps s (e + 1) (.inl q)) : Ps s p (.inl q) := fun P h1 h2 h3 h4 => h3 _ _ _ _ h he (hk P h1 h2 h3 h4)
theorem Ps.more (h : oneS s p = .inr (x, e)) (he : e ≠ s.length) (hk : Ps s (e + 1) (.inr l)) : Ps s p (.inr (x :: l)) := fun P h1 h2 h3 h4 => h4 _ _ _ _ h he (hk P h1 h2 h3 h4)
theorem Ps.inv (h : Ps s p R) : (∃ q, oneS s p = .inl q ∧ R = .inl q) ∨ (∃ x e, oneS s p = .inr (x, e) ∧ e = s.length ∧ R = .inr [x]) ∨ (∃ x e q, oneS s p = .inr (x, e) ∧ e ≠ s.length ∧ R = .inl q ∧ Ps s (e + 1) (.inl q)) ∨ ∃ x e l, oneS s p = .inr (x, e) ∧ e ≠ s.length ∧ R = .inr (x :: l) ∧ Ps s (e + 1) (.inr l) :=
  (h (fun p R => Ps s p R ∧ ((∃ q, oneS s p = .inl q ∧ R = .inl q) ∨ (∃ x e, oneS s p = .inr (x, e) ∧ e = s.length ∧ R = .inr [x]) ∨ (∃ x e q, oneS s p = .inr (x, e) ∧ e ≠ s.length ∧ R = .inl q ∧ Ps s (e + 1) (.inl q)) ∨ ∃ x e l, oneS s p = .inr (x, e) ∧ e ≠ s.length ∧ R = .inr (x :: l) ∧ Ps s (e + 1) (.inr l)))
    (fun p q e => ⟨.bad e, Or.inl ⟨q, e, rfl⟩⟩) (fun p x e h he => ⟨.last h he, Or.inr (Or.inl ⟨x, e, h, he, rfl⟩)⟩)
    (fun p x e q h he hk => ⟨.moreBad h he hk.1, Or.inr (Or.inr (Or.inl ⟨x, e, q, h, he, rfl, hk.1⟩))⟩) (fun p x e l h he hk => ⟨.more h he hk.1, Or.inr (Or.inr (Or.inr ⟨x, e, l, h, he, rfl, hk.1⟩))⟩)).2
theorem Ps.eq (h : Ps s p R) : Ps s p R' → R = R' := by
  refine h (fun p R => ∀ R', Ps s p R' → R = R') ?_ ?_ ?_ ?_ R'
  · intro p q e R' h'
    rcases h'.inv with ⟨q', e', rfl⟩ | ⟨x, e1, e', _⟩ | ⟨x, e1, q', e', _⟩ | ⟨x, e1, l, e', _⟩
    · rw [e] at e'; cases e'; rfl
    · rw [e] at e'; cases e'
    · rw [e] at e'; cases e'
    · rw [e] at e'; cases e'
  · intro p x e h he R' h'
    rcases h'.inv with ⟨q', e', rfl⟩ | ⟨x', e1, e', _, rfl⟩ | ⟨x', e1, q', e', hn, _⟩ | ⟨x', e1, l, e', hn, _⟩
    · rw [h] at e'; cases e'
    · rw [h] at e'; cases e'; rfl
    · rw [h] at e'; cases e'; exact absurd he hn
    · rw [h] at e'; cases e'; exact absurd he hn
  · intro p x e q h he ih R' h'
    rcases h'.inv with ⟨q', e', rfl⟩ | ⟨x', e1, e', hn, rfl⟩ | ⟨x', e1, q', e', hn, rfl, hk⟩ | ⟨x', e1, l, e', hn, rfl, hk⟩
    · rw [h] at e'; cases e'
    · rw [h] at e'; cases e'; exact absurd hn he
    · rw [h] at e'; cases e'; exact ih _ hk
    · rw [h] at e'; cases e'; have := ih _ hk; cases this
  · intro p x e l h he ih R' h'
    rcases h'.inv with ⟨q', e', rfl⟩ | ⟨x', e1, e', hn, rfl⟩ | ⟨x', e1, q', e', hn, rfl, hk⟩ | ⟨x', e1, l', e', hn, rfl, hk⟩
    · rw [h] at e'; cases e'
    · rw [h] at e'; cases e'; exact absurd hn he
    · rw [h] at e'; cases e'; have := ih _ hk; cases this
    · rw [h] at e'; cases e'; have := ih _ hk; cases this; rfl
/-- behind the steps that are read already -/
def After (s : List UInt8) (acc : List Sp) (p : Nat) : Prop := ∀ R, Ps s p R → Ps s 0 (match R with | .inl q => .inl q | .inr l => .inr (acc ++ l))
theorem after_start (s : List UInt8) : After s [] 0 := fun R h => by
  cases R with
  | inl q => exact h
  | inr l => exact h
theorem After.next {acc : List Sp} (h : After s acc p) (h1 : oneS s p = .inr (x, e)) (he : e ≠ s.length) : After s (acc ++ [x]) (e + 1) := fun R hR => by
  cases R with
  | inl q => exact h (.inl q) (.moreBad h1 he hR)
  | inr l =>
    have := h (.inr (x :: l)) (.more h1 he hR)
    simpa using this
theorem After.done {acc : List Sp} (h : After s acc p) (h1 : oneS s p = .inr (x, e)) (he : e = s.length) : Ps s 0 (.inr (acc ++ [x])) := h (.inr [x]) (.last h1 he)
theorem After.bad {acc : List Sp} (h : After s acc p) (h1 : oneS s p = .inl q) : Ps s 0 (.inl q) := h (.inl q) (.bad h1)
end
end Go.Proofs.YtgjojdlbighoaaaDoor
