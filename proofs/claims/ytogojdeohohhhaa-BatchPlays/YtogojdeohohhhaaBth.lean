/- What a batch is, in plain words: one state for the program's and the document's, and its steps; no conditions. -/
import Derived.Test.YtogojdeohohhhaaOwn
namespace Go.Proofs.Ytogojdeohohhhaa
open Go.RowKit Go.Maps Go.ChangeMaps
set_option linter.unusedVariables false
set_option linter.unusedSimpArgs false
structure Bs where
  cnt : Int
  win : Int
  tim : Int
  lst : Int
  run : List Int
  snc : Int
  snt : Int
def aft (n d : Int) : Int := if 4611686018427387904 - n < d then 4611686018427387904 else n + d
def dueS (S : Bs) : Int := aft S.snc S.win
def wrongE (S : Bs) (n : Int) : Int := if n < 0 then 10 else if 4611686018427387904 < n then 10 else if n < S.tim then 50 else 0
def forceS (S : Bs) : Bs := if S.run = [] then S else { S with run := [], snt := S.snt + 1 }
def addE (S : Bs) (n x : Int) : Int := if wrongE S n ≠ 0 then wrongE S n else if x < 1 then 1 else if x ≤ S.lst then 130 else 0
def addM (S : Bs) (n x : Int) : Bs := { S with tim := n, lst := x, run := S.run ++ [x], snc := if S.run = [] then n else S.snc }
def addF (S : Bs) : Bool := decide (S.cnt ≤ ((S.run.length + 1 : Nat) : Int)) || decide (S.win = 0)
def addS (S : Bs) (n x : Int) : Bs := if addE S n x ≠ 0 then S else if addF S then forceS (addM S n x) else addM S n x
def addL (S : Bs) (n x : Int) : List Int := if addE S n x ≠ 0 then [] else if addF S then S.run ++ [x] else []
def sendM (S : Bs) (n : Int) : Bs := { S with tim := n }
def sendF (S : Bs) (n : Int) : Bool := decide (S.run ≠ []) && decide (dueS S ≤ n)
def sendS (S : Bs) (n : Int) : Bs := if wrongE S n ≠ 0 then S else if sendF S n then forceS (sendM S n) else sendM S n
def sendL (S : Bs) (n : Int) : List Int := if wrongE S n ≠ 0 then [] else if sendF S n then S.run else []
structure Iv (S : Bs) (N : Nat) : Prop where
  c1 : 1 ≤ S.cnt
  c2 : S.cnt ≤ 1024
  w1 : 0 ≤ S.win
  w2 : S.win ≤ 9223372036854775807
  t1 : 0 ≤ S.tim
  t2 : S.tim ≤ 4611686018427387904
  l1 : 0 ≤ S.lst
  l2 : W64 S.lst
  len : S.run.length < 1024
  inc : S.run.Pairwise (· < ·)
  le : ∀ x ∈ S.run, 1 ≤ x ∧ x ≤ S.lst
  s1 : 0 ≤ S.snc
  s2 : S.snc ≤ 4611686018427387904
  n1 : 0 ≤ S.snt
  n2 : S.snt ≤ (N : Int)
theorem wrong0 {S : Bs} {n : Int} (h : ¬ wrongE S n ≠ 0) : 0 ≤ n ∧ n ≤ 4611686018427387904 ∧ S.tim ≤ n := by
  unfold wrongE at h
  split at h
  · simp at h
  · split at h
    · simp at h
    · split at h
      · simp at h
      · omega
theorem add0 {S : Bs} {n x : Int} (h : ¬ addE S n x ≠ 0) : wrongE S n = 0 ∧ 1 ≤ x ∧ S.lst < x := by
  unfold addE at h
  split at h
  · rename_i h1; exact absurd h1 h
  · rename_i h1
    split at h
    · simp at h
    · split at h
      · simp at h
      · exact ⟨Decidable.not_not.1 h1, by omega, by omega⟩
theorem Iv.mono {S : Bs} {N M : Nat} (h : Iv S N) (hm : N ≤ M) : Iv S M := { h with n2 := by have := h.n2; omega }
theorem Iv.force {S : Bs} {N : Nat} (h : Iv S N) : Iv (forceS S) (N + 1) := by
  unfold forceS
  split
  · exact h.mono (Nat.le_succ N)
  · exact { h with len := by simp, inc := by simp, le := by simp, n1 := by have := h.n1; simp only; omega, n2 := by have := h.n2; simp only; omega }
/-- A run that waits behind the others; where they are not yet too many. -/
theorem Iv.mid {S : Bs} {N : Nat} (h : Iv S N) {n x : Int} (hx : W64 x) (h0 : ¬ addE S n x ≠ 0) (hl : S.run.length + 1 < 1024) : Iv (addM S n x) N := by
  obtain ⟨h1, h2, h3⟩ := add0 h0
  obtain ⟨h4, h5, h6⟩ := wrong0 (by rw [h1]; simp : ¬ wrongE S n ≠ 0)
  refine { h with t1 := h4, t2 := h5, l1 := by show 0 ≤ x; omega, l2 := hx, len := by simpa [addM] using hl, inc := ?_, le := ?_, s1 := ?_, s2 := ?_ }
  · show (S.run ++ [x]).Pairwise (· < ·)
    rw [List.pairwise_append]
    exact ⟨h.inc, by simp, fun a ha b hb => by simp only [List.mem_singleton] at hb; subst hb; have := (h.le a ha).2; omega⟩
  · intro y hy
    have hy' : y ∈ S.run ++ [x] := hy
    show 1 ≤ y ∧ y ≤ x
    rcases List.mem_append.1 hy' with q | q
    · have := h.le y q; omega
    · simp only [List.mem_singleton] at q; omega
  · show 0 ≤ if S.run = [] then n else S.snc
    split
    · exact h4
    · exact h.s1
  · show (if S.run = [] then n else S.snc) ≤ 4611686018427387904
    split
    · exact h5
    · exact h.s2
theorem Iv.add {S : Bs} {N : Nat} (h : Iv S N) {n x : Int} (hx : W64 x) : Iv (addS S n x) (N + 1) := by
  unfold addS
  split
  · exact h.mono (Nat.le_succ N)
  · rename_i h0
    split
    · obtain ⟨h1, h2, h3⟩ := add0 h0
      obtain ⟨h4, h5, h6⟩ := wrong0 (by rw [h1]; simp : ¬ wrongE S n ≠ 0)
      unfold forceS
      rw [if_neg (by simp [addM])]
      refine { h with t1 := h4, t2 := h5, l1 := by show 0 ≤ x; omega, l2 := hx, len := by simp, inc := by simp, le := by simp, s1 := ?_, s2 := ?_, n1 := by have := h.n1; show 0 ≤ S.snt + 1; omega, n2 := by have := h.n2; show S.snt + 1 ≤ _; omega }
      · show 0 ≤ if S.run = [] then n else S.snc
        split
        · exact h4
        · exact h.s1
      · show (if S.run = [] then n else S.snc) ≤ 4611686018427387904
        split
        · exact h5
        · exact h.s2
    · rename_i hf
      refine (h.mid hx h0 ?_).mono (Nat.le_succ N)
      unfold addF at hf
      simp only [Bool.or_eq_true, decide_eq_true_eq, not_or] at hf
      have := h.c2
      omega
theorem Iv.send {S : Bs} {N : Nat} (h : Iv S N) (n : Int) : Iv (sendS S n) (N + 1) := by
  unfold sendS
  split
  · exact h.mono (Nat.le_succ N)
  · rename_i h0
    obtain ⟨h4, h5, h6⟩ := wrong0 h0
    have hm : Iv (sendM S n) N := { h with t1 := h4, t2 := h5 }
    split
    · exact hm.force
    · exact hm.mono (Nat.le_succ N)
theorem due_mid {S : Bs} {n x : Int} : dueS (addM S n x) = if S.run = [] then aft n S.win else dueS S := by
  unfold dueS addM
  simp only
  split <;> rfl
theorem aft_wf {n d : Int} (h : 0 ≤ n) (h2 : n ≤ 4611686018427387904) (h3 : 0 ≤ d) : 0 ≤ aft n d ∧ aft n d ≤ 4611686018427387904 := by
  unfold aft
  split <;> omega
/-- Of a row that rises, what is in it. -/
theorem inc_le {xs : List Int} (h : xs.Pairwise (· < ·)) : xs.Pairwise (· ≤ ·) := h.imp (fun h => by omega)
end Go.Proofs.Ytogojdeohohhhaa
