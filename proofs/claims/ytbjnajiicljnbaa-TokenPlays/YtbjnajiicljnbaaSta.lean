/- How the law's look at tokens against the document's list stands, round by round. -/
import Derived.Test.YtbjnajiicljnbaaRmk
namespace Go.Proofs.Ytbjnajiicljnbaa
open Go.RowKit Go.Maps Go.ChangeMaps
set_option linter.unusedVariables false
def unB (S : List Tk) (j : Int) (m : Nat) : Bool := vaB S j && hg S m j.toNat
def unK (S : List Tk) (j : Int) (k : Nat) : List Nat := (List.range' 1 k).filter (unB S j)
theorem unK_yes {S : List Tk} {j : Int} {k : Nat} (h : unB S j (k + 1) = true) : unK S j (k + 1) = unK S j k ++ [k + 1] := by
  unfold unK
  rw [List.range'_1_concat, List.filter_append, Nat.add_comm 1 k]
  simp [h]
theorem unK_no {S : List Tk} {j : Int} {k : Nat} (h : unB S j (k + 1) = false) : unK S j (k + 1) = unK S j k := by
  unfold unK
  rw [List.range'_1_concat, List.filter_append, Nat.add_comm 1 k]
  simp [h]
theorem unK_le (S : List Tk) (j : Int) (k : Nat) : (unK S j k).length ≤ k := by
  have := List.length_filter_le (unB S j) (List.range' 1 k)
  unfold unK
  simpa using this
theorem unK_all (S : List Tk) (j : Int) : unK S j S.length = unL S j := by
  unfold unK unL undL
  by_cases h : vaB S j = true
  · rw [h, if_pos rfl]
    congr 1
    funext m
    unfold unB
    rw [h, Bool.true_and]
  · have h : vaB S j = false := by simpa using h
    rw [h]
    rw [List.filter_eq_nil_iff.2 (fun m _ => by unfold unB; rw [h]; simp)]
    rfl
/-- How it stands ahead of a round. -/
structure Sd (w wr : World) (a7 : Option Addr) (m7 c7 : Nat) (a8 : Option Addr) (m8 c8 : Nat) (S : List Tk) (j : Int) (i : Nat) : Prop where
  r7 : wr.ownsRow w.heap.size 3 1 (.slice a7 m7 c7) m7 (ints (livK S i))
  l7 : m7 = (livK S i).length
  r8 : wr.ownsRow w.heap.size 3 1 (.slice a8 m8 c8) m8 (ints (unK S j i))
  l8 : m8 = (unK S j i).length
  ap : ∀ k, (Value.slice a7 m7 c7).ownBlock = some k → (Value.slice a8 m8 c8).ownBlock ≠ some k
  tc : Touch [] w wr
/-- Between: the first row has gone on already. -/
structure Se (w wr : World) (a7 : Option Addr) (m7 c7 : Nat) (a8 : Option Addr) (m8 c8 : Nat) (S : List Tk) (j : Int) (i : Nat) : Prop where
  r7 : wr.ownsRow w.heap.size 3 1 (.slice a7 m7 c7) m7 (ints (livK S (i + 1)))
  l7 : m7 = (livK S (i + 1)).length
  r8 : wr.ownsRow w.heap.size 3 1 (.slice a8 m8 c8) m8 (ints (unK S j i))
  l8 : m8 = (unK S j i).length
  ap : ∀ k, (Value.slice a7 m7 c7).ownBlock = some k → (Value.slice a8 m8 c8).ownBlock ≠ some k
  tc : Touch [] w wr
section
variable {w wr w' : World} {a7 : Option Addr} {m7 c7 : Nat} {a8 : Option Addr} {m8 c8 : Nat} {S : List Tk} {j : Int} {i : Nat}
theorem Sd.quiet (h : Sd w wr a7 m7 c7 a8 m8 c8 S j i) (T : Touch [] wr w') : Sd w w' a7 m7 c7 a8 m8 c8 S j i :=
  ⟨own_touch h.r7 T (fun _ _ e => by cases e), h.l7, own_touch h.r8 T (fun _ _ e => by cases e), h.l8, h.ap, h.tc.trans' T⟩
theorem Se.quiet (h : Se w wr a7 m7 c7 a8 m8 c8 S j i) (T : Touch [] wr w') : Se w w' a7 m7 c7 a8 m8 c8 S j i :=
  ⟨own_touch h.r7 T (fun _ _ e => by cases e), h.l7, own_touch h.r8 T (fun _ _ e => by cases e), h.l8, h.ap, h.tc.trans' T⟩
theorem Sd.no7 (h : Sd w wr a7 m7 c7 a8 m8 c8 S j i) (hq : liv S (i + 1) = false) : Se w wr a7 m7 c7 a8 m8 c8 S j i :=
  ⟨by rw [livK_no hq]; exact h.r7, by rw [livK_no hq]; exact h.l7, h.r8, h.l8, h.ap, h.tc⟩
theorem Sd.yes7 {w5 : World} {g1 c1 H : Nat} (h : Sd w wr a7 m7 c7 a8 m8 c8 S j i) (hq : liv S (i + 1) = true) (h5 : w5.ownsRow w.heap.size 3 1 (.slice (some ⟨g1, 0, none⟩) (m7 + 1) c1) (m7 + 1) (ints (livK S i) ++ [.int .i64 ((i : Int) + 1)])) (T5 : Touch (Value.slice a7 m7 c7).ownBlock.toList wr w5) (hat : (Value.slice a7 m7 c7).ownBlock = some g1 ∨ g1 = H) (hH : wr.heap.size ≤ H) : Se w w5 (some ⟨g1, 0, none⟩) (m7 + 1) c1 a8 m8 c8 S j i := by
  refine ⟨by rw [livK_yes hq, ints_app]; exact h5, by rw [livK_yes hq, h.l7]; simp, own_touch h.r8 T5 (fun b hb e => ?_), h.l8, fun k hk e => ?_, h.tc.trans T5 (fun k hk => Or.inr (h.r7.lt k (by simpa using hk)).1)⟩
  · exact h.ap b (by simpa using e) hb
  · simp [Value.ownBlock] at hk
    subst hk
    rcases hat with hat | hat
    · exact h.ap g1 hat e
    · have := (h.r8.lt g1 e).2
      omega
theorem Se.no8 (h : Se w wr a7 m7 c7 a8 m8 c8 S j i) (hq : unB S j (i + 1) = false) : Sd w wr a7 m7 c7 a8 m8 c8 S j (i + 1) :=
  ⟨h.r7, h.l7, by rw [unK_no hq]; exact h.r8, by rw [unK_no hq]; exact h.l8, h.ap, h.tc⟩
theorem Se.yes8 {w5 : World} {g1 c1 H : Nat} (h : Se w wr a7 m7 c7 a8 m8 c8 S j i) (hq : unB S j (i + 1) = true) (h5 : w5.ownsRow w.heap.size 3 1 (.slice (some ⟨g1, 0, none⟩) (m8 + 1) c1) (m8 + 1) (ints (unK S j i) ++ [.int .i64 ((i : Int) + 1)])) (T5 : Touch (Value.slice a8 m8 c8).ownBlock.toList wr w5) (hat : (Value.slice a8 m8 c8).ownBlock = some g1 ∨ g1 = H) (hH : wr.heap.size ≤ H) : Sd w w5 a7 m7 c7 (some ⟨g1, 0, none⟩) (m8 + 1) c1 S j (i + 1) := by
  refine ⟨own_touch h.r7 T5 (fun b hb e => ?_), h.l7, by rw [unK_yes hq, ints_app]; exact h5, by rw [unK_yes hq, h.l8]; simp, fun k hk e => ?_, h.tc.trans T5 (fun k hk => Or.inr (h.r8.lt k (by simpa using hk)).1)⟩
  · exact h.ap b hb (by simpa using e)
  · simp [Value.ownBlock] at e
    subst e
    rcases hat with hat | hat
    · exact h.ap g1 hk hat
    · have := (h.r7.lt g1 hk).2
      omega
theorem Sd.start (w : World) (S : List Tk) (j : Int) : Sd w ((w.alloc (.cells #[] 3)).alloc (.cells #[] 3)) (some ⟨w.heap.size, 0, none⟩) 0 0 (some ⟨w.heap.size + 1, 0, none⟩) 0 0 S j 0 := by
  have T1 : Touch [] w ((w.alloc (.cells #[] 3)).alloc (.cells #[] 3)) := ((Touch.refl _ _).alloc _).alloc _
  refine ⟨?_, rfl, ?_, rfl, fun k hk e => ?_, T1⟩
  · exact own_of_cells (made2 w (.cells #[] 3) (.cells #[] 3)) (Nat.le_refl _) (Nat.le_refl _) (by unfold maxLen; omega) rfl rfl (fun p v hp => by simp [livK, ints] at hp)
  · exact own_of_cells (made3 w (.cells #[] 3) (.cells #[] 3)) (by omega) (Nat.le_refl _) (by unfold maxLen; omega) rfl rfl (fun p v hp => by simp [unK, ints] at hp)
  · simp [Value.ownBlock] at hk e
    omega
end
end Go.Proofs.Ytbjnajiicljnbaa
