/- Who is ready and whose turn it is, in plain words: one state for the program's and the document's, and its steps; no conditions. -/
import Derived.Test.YthpkkfmphoopnaaOwn
import Derived.Laws.Bits64b
import Derived.Laws.MathBits
import Derived.Laws.BitsAll
import Derived.RowKit
import Derived.IntWalk
namespace Go.Proofs.Ythpkkfmphoopnaa.Re
open Go.RowKit Go.Maps Go.ChangeMaps
set_option linter.unusedVariables false
set_option linter.unusedSimpArgs false
def mixN (x : Nat) : Nat :=
  let a := (x ^^^ x / 1073741824) * 13787848793156543929 % 18446744073709551616
  let b := (a ^^^ a / 134217728) * 10723151780598845931 % 18446744073709551616
  b ^^^ b / 2147483648
theorem xor_div_lt (b s : Nat) (hb : b < 18446744073709551616) : b ^^^ b / s < 18446744073709551616 := by
  have h : b / s < 18446744073709551616 := Nat.lt_of_le_of_lt (Nat.div_le_self _ _) hb
  exact Nat.xor_lt_two_pow (n := 64) hb h
theorem mixN_lt (x : Nat) : mixN x < 18446744073709551616 := by
  unfold mixN
  exact xor_div_lt _ _ (Nat.mod_lt _ (by decide))
def partN (x n : Nat) : Nat := x * n / 18446744073709551616
theorem partN_lt {x n : Nat} (hx : x < 18446744073709551616) (hn : 0 < n) : partN x n < n := by
  unfold partN
  refine Nat.div_lt_of_lt_mul ?_
  rw [Nat.mul_comm 18446744073709551616 n, Nat.mul_comm x n]
  exact Nat.mul_lt_mul_of_pos_left hx hn
def lotN (s : Nat) : Nat := mixN ((s + 11400714819323198485) % 18446744073709551616)
theorem lotN_lt (s : Nat) : lotN s < 18446744073709551616 := mixN_lt _
def minL (l : List Int) : Int := l.tail.foldl min (l.headD 0)
def maxL (l : List Int) : Int := l.tail.foldl max (l.headD 0)
theorem foldl_min (l : List Int) (a : Int) : l.foldl min a ≤ a ∧ (∀ x ∈ l, l.foldl min a ≤ x) ∧ (l.foldl min a = a ∨ l.foldl min a ∈ l) := by
  induction l generalizing a with
  | nil => simp
  | cons b l ih =>
    obtain ⟨h1, h2, h3⟩ := ih (min a b)
    simp only [List.foldl_cons, List.mem_cons]
    refine ⟨by omega, fun x hx => ?_, ?_⟩
    · rcases hx with rfl | hx
      · omega
      · exact h2 x hx
    · rcases h3 with h3 | h3
      · rcases Int.le_total a b with q | q
        · exact Or.inl (by omega)
        · exact Or.inr (Or.inl (by omega))
      · exact Or.inr (Or.inr h3)
theorem foldl_max (l : List Int) (a : Int) : a ≤ l.foldl max a ∧ (∀ x ∈ l, x ≤ l.foldl max a) ∧ (l.foldl max a = a ∨ l.foldl max a ∈ l) := by
  induction l generalizing a with
  | nil => simp
  | cons b l ih =>
    obtain ⟨h1, h2, h3⟩ := ih (max a b)
    simp only [List.foldl_cons, List.mem_cons]
    refine ⟨by omega, fun x hx => ?_, ?_⟩
    · rcases hx with rfl | hx
      · omega
      · exact h2 x hx
    · rcases h3 with h3 | h3
      · rcases Int.le_total a b with q | q
        · exact Or.inr (Or.inl (by omega))
        · exact Or.inl (by omega)
      · exact Or.inr (Or.inr h3)
theorem minL_spec {l : List Int} (h : l ≠ []) : minL l ∈ l ∧ ∀ x ∈ l, minL l ≤ x := by
  cases l with
  | nil => exact absurd rfl h
  | cons a l =>
    obtain ⟨h1, h2, h3⟩ := foldl_min l a
    refine ⟨?_, fun x hx => ?_⟩
    · rcases h3 with e | e
      · show l.foldl min a ∈ _; rw [e]; exact List.mem_cons_self
      · exact List.mem_cons_of_mem _ e
    · rcases List.mem_cons.1 hx with rfl | e
      · exact h1
      · exact h2 x e
theorem maxL_spec {l : List Int} (h : l ≠ []) : maxL l ∈ l ∧ ∀ x ∈ l, x ≤ maxL l := by
  cases l with
  | nil => exact absurd rfl h
  | cons a l =>
    obtain ⟨h1, h2, h3⟩ := foldl_max l a
    refine ⟨?_, fun x hx => ?_⟩
    · rcases h3 with e | e
      · show l.foldl max a ∈ _; rw [e]; exact List.mem_cons_self
      · exact List.mem_cons_of_mem _ e
    · rcases List.mem_cons.1 hx with rfl | e
      · exact h1
      · exact h2 x e
theorem idx_lt {l : List Int} {x : Int} (h : x ∈ l) : l.idxOf x < l.length := List.idxOf_lt_length_iff.2 h
theorem idx_at {l : List Int} {x : Int} (h : x ∈ l) : l[l.idxOf x]'(idx_lt h) = x := by simp
theorem idx_of {l : List Int} (hn : l.Nodup) {i : Nat} (hi : i < l.length) : l.idxOf l[i] = i := by
  have h1 : l[i] ∈ l := List.getElem_mem hi
  have h2 := idx_at h1
  exact (List.getElem_inj hn).1 h2
/-- Whoever is below all others, in a list of unlike numbers, is the least one. -/
theorem least_is {l : List Int} (hn : l.Nodup) {i : Nat} (hi : i < l.length) (h : ∀ x ∈ l, l[i] ≤ x) : l.idxOf (minL l) = i := by
  have hl : l ≠ [] := fun e => by rw [e] at hi; simp at hi
  obtain ⟨h1, h2⟩ := minL_spec hl
  have h3 := h _ h1
  have h4 := h2 _ (List.getElem_mem hi)
  have e : minL l = l[i] := by omega
  rw [e]
  exact idx_of hn hi
theorem most_is {l : List Int} (hn : l.Nodup) {i : Nat} (hi : i < l.length) (h : ∀ x ∈ l, x ≤ l[i]) : l.idxOf (maxL l) = i := by
  have hl : l ≠ [] := fun e => by rw [e] at hi; simp at hi
  obtain ⟨h1, h2⟩ := maxL_spec hl
  have h3 := h _ h1
  have h4 := h2 _ (List.getElem_mem hi)
  have e : maxL l = l[i] := by omega
  rw [e]
  exact idx_of hn hi
structure Rz where
  pol : Int
  st : Nat
  pk : List Int
  ln : List Int
  tl : List Int
def chooseN (S : Rz) : Nat := if S.pol = 1 then S.ln.length - 1 else if S.pol = 3 then S.ln.idxOf (minL S.ln) else if S.pol = 4 then S.ln.idxOf (maxL S.ln) else 0
def aroundN (p : Int) (n : Nat) : Nat := (p % (n : Int)).toNat
theorem aroundN_lt (p : Int) {n : Nat} (h : 0 < n) : aroundN p n < n := by
  unfold aroundN
  have h1 := Int.emod_lt_of_pos p (show (0 : Int) < (n : Int) by omega)
  have h2 := Int.emod_nonneg p (show (n : Int) ≠ 0 by omega)
  omega
def placeS (S : Rz) : Nat × Nat := if h : S.tl.length < S.pk.length then (aroundN S.pk[S.tl.length] S.ln.length, S.st) else if S.pol = 2 then (partN (lotN S.st) S.ln.length, lotN S.st) else (chooseN S, S.st)
def wakeE (S : Rz) (n : Int) : Int := if n ∈ S.ln then 40 else if 65536 ≤ S.ln.length then 3 else 0
def wakeS (S : Rz) (n : Int) : Rz := if wakeE S n = 0 then { S with ln := S.ln ++ [n] } else S
def outS (S : Rz) (i : Nat) : Rz := { S with ln := S.ln.eraseIdx i }
def pickS (S : Rz) : Rz := if S.ln = [] then S else { S with st := (placeS S).2, ln := S.ln.eraseIdx (placeS S).1, tl := S.tl ++ [((placeS S).1 : Int)] }
def pickV (S : Rz) : Int := if S.ln = [] then 0 else S.ln.getD (placeS S).1 0
def someB (S : Rz) : Bool := decide (S.ln ≠ [])
def restS (S : Rz) (n : Int) : Rz := if n ∈ S.ln then outS S (S.ln.idxOf n) else S
structure Iv (S : Rz) (N : Nat) : Prop where
  p1 : 0 ≤ S.pol
  p2 : S.pol ≤ 4
  s1 : S.st < 18446744073709551616
  k1 : S.pk.length ≤ 65536
  k2 : ∀ x ∈ S.pk, W64 x
  l1 : S.ln.length ≤ 65536
  l2 : ∀ x ∈ S.ln, W64 x
  nd : S.ln.Nodup
  t1 : S.tl.length ≤ N
  t2 : ∀ x ∈ S.tl, 0 ≤ x ∧ x < 65536
theorem Iv.mono {S : Rz} {N M : Nat} (h : Iv S N) (hm : N ≤ M) : Iv S M := { h with t1 := Nat.le_trans h.t1 hm }
theorem choose_lt {S : Rz} (h : S.ln ≠ []) : chooseN S < S.ln.length := by
  have hp : 0 < S.ln.length := List.length_pos_iff.2 h
  unfold chooseN
  split
  · omega
  · split
    · exact idx_lt (minL_spec h).1
    · split
      · exact idx_lt (maxL_spec h).1
      · exact hp
theorem place_lt {S : Rz} (h : S.ln ≠ []) : (placeS S).1 < S.ln.length := by
  have hp : 0 < S.ln.length := List.length_pos_iff.2 h
  unfold placeS
  split
  · exact aroundN_lt _ hp
  · split
    · exact partN_lt (lotN_lt _) hp
    · exact choose_lt h
theorem place_st {S : Rz} (h : S.st < 18446744073709551616) : (placeS S).2 < 18446744073709551616 := by
  unfold placeS
  split
  · exact h
  · split
    · exact lotN_lt _
    · exact h
theorem Iv.wake {S : Rz} {N : Nat} (h : Iv S N) {n : Int} (hn : W64 n) : Iv (wakeS S n) N := by
  unfold wakeS
  split
  · rename_i h0
    unfold wakeE at h0
    split at h0
    · simp at h0
    · rename_i h1
      split at h0
      · simp at h0
      · refine { h with l1 := ?_, l2 := ?_, nd := nd_snoc h.nd h1 }
        · simp only [List.length_append, List.length_singleton]; omega
        · intro x hx
          rcases List.mem_append.1 hx with q | q
          · exact h.l2 x q
          · simp only [List.mem_singleton] at q; rw [q]; exact hn
  · exact h
theorem Iv.out {S : Rz} {N : Nat} (h : Iv S N) (i : Nat) : Iv (outS S i) N :=
  { h with l1 := Nat.le_trans (List.length_eraseIdx_le _ _) h.l1, l2 := fun x hx => h.l2 x (List.mem_of_mem_eraseIdx hx), nd := h.nd.eraseIdx i }
theorem Iv.rest {S : Rz} {N : Nat} (h : Iv S N) (n : Int) : Iv (restS S n) N := by
  unfold restS
  split
  · exact h.out _
  · exact h
theorem Iv.pick {S : Rz} {N : Nat} (h : Iv S N) : Iv (pickS S) (N + 1) := by
  unfold pickS
  split
  · exact h.mono (Nat.le_succ N)
  · rename_i h0
    have h1 := h.out (placeS S).1
    have h2 := place_lt h0
    have h3 := h.l1
    refine { h1 with s1 := place_st h.s1, t1 := ?_, t2 := ?_ }
    · show (S.tl ++ [_]).length ≤ N + 1
      have := h.t1
      simp only [List.length_append, List.length_singleton]; omega
    · intro x hx
      rcases List.mem_append.1 hx with q | q
      · exact h.t2 x q
      · simp only [List.mem_singleton] at q; omega
theorem erase_idx_nodup {l : List Int} (h : l.Nodup) {i : Nat} (hi : i < l.length) : ¬ l[i] ∈ l.eraseIdx i := by
  intro hm
  rw [List.mem_eraseIdx_iff_getElem] at hm
  obtain ⟨j, hj, hne, e⟩ := hm
  exact hne ((List.getElem_inj h).1 e)
/-- Who is there behind one was taken out. -/
theorem mem_out {l : List Int} (h : l.Nodup) {i : Nat} (hi : i < l.length) (x : Int) : x ∈ l.eraseIdx i ↔ x ∈ l ∧ x ≠ l[i] := by
  constructor
  · intro hx
    exact ⟨List.mem_of_mem_eraseIdx hx, fun e => erase_idx_nodup h hi (e ▸ hx)⟩
  · rintro ⟨hx, hne⟩
    rw [List.mem_eraseIdx_iff_getElem]
    obtain ⟨j, hj, e⟩ := List.mem_iff_getElem.1 hx
    refine ⟨j, hj, ?_, e⟩
    intro q
    subst q
    exact hne e.symm
end Go.Proofs.Ythpkkfmphoopnaa.Re
