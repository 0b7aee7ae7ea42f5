/- Hot keys in order: plain mathematics, the program's comparison, and the library's SortFunc at them; no conditions but those that each states. -/
import Derived.Test.YtbadlkjffelkhaaXkc
import Derived.Test.YtbadlkjffelkhaaRsl

namespace Go.Proofs.Ytbadlkjffelkhaa.Sk
open Go.RowKit Go.Maps Go.ChangeMaps Go.Sort Go.Shelf
set_option linter.unusedVariables false
/-- A key and its count. -/
structure Ht where
  k : K
  n : Int
def rowH (x : Ht) : List Value := [.int .u16 x.k.1, .string x.k.2, .int .i64 x.n]
theorem rowH_len (x : Ht) : (rowH x).length = 3 := rfl
def hv (x : Ht) : Value := .agg #[.int .u16 x.k.1, .string x.k.2, .int .i64 x.n]
def cmpH (x y : Ht) : Int := if y.n < x.n then -1 else if x.n < y.n then 1 else cmpK x.k.1 x.k.2 y.k.1 y.k.2
def leH (x y : Ht) : Prop := ¬ cmpH y x < 0
theorem cmpH_lt (x y : Ht) : cmpH x y < 0 ↔ y.n < x.n ∨ (y.n = x.n ∧ cmpK x.k.1 x.k.2 y.k.1 y.k.2 < 0) := by
  unfold cmpH
  by_cases h1 : y.n < x.n
  · rw [if_pos h1]
    exact ⟨fun _ => Or.inl h1, fun _ => by omega⟩
  · by_cases h2 : x.n < y.n
    · rw [if_neg h1, if_pos h2]
      exact ⟨fun h => by omega, fun h => by rcases h with h | ⟨h, _⟩ <;> omega⟩
    · rw [if_neg h1, if_neg h2]
      exact ⟨fun h => Or.inr ⟨by omega, h⟩, fun h => by rcases h with h | ⟨_, h⟩; exact absurd h h1; exact h⟩
theorem cmpK_lt_trans {a b c : K} (h1 : cmpK a.1 a.2 b.1 b.2 < 0) (h2 : cmpK b.1 b.2 c.1 c.2 < 0) : cmpK a.1 a.2 c.1 c.2 < 0 := by
  rcases cmpK_range a.1 c.1 a.2 c.2 with e | e | e
  · omega
  · exfalso
    obtain ⟨e1, e2⟩ := cmpK_zero _ _ _ _ e
    have q := cmpK_neg a.1 b.1 a.2 b.2
    rw [e1, e2] at q h1
    have q2 := cmpK_neg c.1 b.1 c.2 b.2
    omega
  · exfalso
    have := cmpK_trans a.1 b.1 c.1 a.2 b.2 c.2 (by omega) (by omega)
    omega
theorem cmpK_nlt_trans {a b c : K} (h1 : ¬ cmpK a.1 a.2 b.1 b.2 < 0) (h2 : ¬ cmpK b.1 b.2 c.1 c.2 < 0) : ¬ cmpK a.1 a.2 c.1 c.2 < 0 := by
  have q1 := cmpK_neg a.1 b.1 a.2 b.2
  have q2 := cmpK_neg b.1 c.1 b.2 c.2
  have q3 := cmpK_neg a.1 c.1 a.2 c.2
  have := cmpK_trans c.1 b.1 a.1 c.2 b.2 a.2 (by omega) (by omega)
  omega
theorem leH_antisymm {x y : Ht} (h1 : leH x y) (h2 : leH y x) : x = y := by
  unfold leH at h1 h2
  rw [cmpH_lt] at h1 h2
  have e : x.n = y.n := by
    rcases Int.lt_trichotomy x.n y.n with h | h | h
    · exact absurd (Or.inl h) h1
    · exact h
    · exact absurd (Or.inl h) h2
  have b1 : ¬ cmpK y.k.1 y.k.2 x.k.1 x.k.2 < 0 := fun q => h1 (Or.inr ⟨e, q⟩)
  have b2 : ¬ cmpK x.k.1 x.k.2 y.k.1 y.k.2 < 0 := fun q => h2 (Or.inr ⟨e.symm, q⟩)
  have q := cmpK_neg x.k.1 y.k.1 x.k.2 y.k.2
  have z : cmpK x.k.1 x.k.2 y.k.1 y.k.2 = 0 := by omega
  obtain ⟨e1, e2⟩ := cmpK_zero _ _ _ _ z
  obtain ⟨⟨a, s⟩, n⟩ := x
  obtain ⟨⟨b, t⟩, m⟩ := y
  simp_all
theorem sortedH_unique {l m : List Ht} (hp : l.Perm m) (hl : l.Pairwise leH) (hm : m.Pairwise leH) : l = m := List.Perm.eq_of_pairwise (fun a b _ _ h k => leH_antisymm h k) hl hm hp
theorem cmpInt_ (a b : Int) (w : World) : Calls Try.prog 52 #[.int .i64 a, .int .i64 b] w fun e w' => e = .returned (.int .i64 (cmpI a b)) ∧ w' = w := by
  rcases Int.lt_trichotomy a b with h | h | h
  · go_enter Try.func52, Try.ntmps52
    go_wp2
    go_ret
    exact ⟨by simp [cmpI, h], rfl⟩
  · subst h
    go_enter Try.func52, Try.ntmps52
    go_wp2
    go_ret
    exact ⟨by simp [cmpI], rfl⟩
  · have h' : ¬ a < b := by omega
    go_enter Try.func52, Try.ntmps52
    go_wp2
    go_ret
    exact ⟨by simp [cmpI, h, h'], rfl⟩
theorem hcmp_ (x y : Ht) (w : World) : Calls Try.prog 39 #[hv x, hv y] w fun e w' => e = .returned (.int .i64 (cmpH x y)) ∧ Gr w w' := by
  have HI := hid (fun w => cmpInt_ y.n x.n w)
  have HC := hid (fun w => kcmp_ x.k.1 y.k.1 x.k.2 y.k.2 w)
  unfold hv
  by_cases h1 : y.n < x.n
  · have e : cmpH x y = -1 := by simp [cmpH, h1]
    have e2 : cmpI y.n x.n = -1 := by simp [cmpI, h1]
    rw [e2] at HI
    rw [e]
    clear h1 e e2 HC
    go_enter Try.func39, Try.ntmps39
    go_wp2_with (go_at_call 52; refine (HI.out _).mono ?_; rintro e w2 ⟨rfl, rfl⟩)
    go_ret
    exact ⟨rfl, ((Gr.refl _).alloc _).alloc _⟩
  · by_cases h2 : x.n < y.n
    · have e : cmpH x y = 1 := by simp [cmpH, h1, h2]
      have e2 : cmpI y.n x.n = 1 := by simp [cmpI, h1, h2]
      rw [e2] at HI
      rw [e]
      clear h1 h2 e e2 HC
      go_enter Try.func39, Try.ntmps39
      go_wp2_with (go_at_call 52; refine (HI.out _).mono ?_; rintro e w2 ⟨rfl, rfl⟩)
      go_ret
      exact ⟨rfl, ((Gr.refl _).alloc _).alloc _⟩
    · have e : cmpH x y = cmpK x.k.1 x.k.2 y.k.1 y.k.2 := by simp [cmpH, h1, h2]
      have e2 : cmpI y.n x.n = 0 := by simp [cmpI, h1, h2]
      rw [e2] at HI
      rw [e]
      clear h1 h2 e e2
      generalize cmpK x.k.1 x.k.2 y.k.1 y.k.2 = cv at *
      go_enter Try.func39, Try.ntmps39
      go_wp2_with (first | (go_at_call 52; refine (HI.out _).mono ?_; rintro e w2 ⟨rfl, rfl⟩) | (go_at_call 53; refine (HC.out _).mono ?_; rintro e w3 ⟨rfl, g3⟩))
      go_ret
      exact ⟨rfl, (((Gr.refl _).alloc _).alloc _).trans g3⟩
end Go.Proofs.Ytbadlkjffelkhaa.Sk
