/- A gate's lines in memory: a row of pointers to queues by turn, none of them empty; put, tidy. -/
import Derived.Test.YtmbjjkdocmcpdaaDel
namespace Go.Proofs.Ytmbjjkdocmcpdaa
open Go.RowKit Go.Maps Go.ChangeMaps
set_option linter.unusedVariables false
/-- One queue: where it lies, its blocks, its items. -/
structure Li where
  q : Nat
  F : List Nat
  xs : List Int
def fpB (L : List Li) : List Nat := L.flatMap (·.F)
def fpL (sl : Value) (L : List Li) : List Nat := sl.ownBlock.toList ++ fpB L
def wl (L : List Li) : List Int := L.flatMap (·.xs)
def ptr (l : Li) : Option Addr := some ⟨l.q, 0, none⟩
/-- The lines; some may be empty: the numbers of those that may. -/
structure Lines (w : World) (sl : Value) (L : List Li) : Prop where
  row : w.ownsRow 0 71 1 sl L.length (pts (L.map ptr))
  all : ∀ l ∈ L, Uq w l.q l.F l.xs
  apart : L.Pairwise (fun a b => ∀ k, k ∈ a.F → ¬ k ∈ b.F)
  off : ∀ l ∈ L, ∀ b, sl.ownBlock = some b → ¬ b ∈ l.F
def Full (L : List Li) : Prop := ∀ l ∈ L, l.xs ≠ []
section
variable {w w' : World} {sl : Value} {L : List Li}
theorem mem_fpB {k : Nat} : k ∈ fpB L ↔ ∃ l ∈ L, k ∈ l.F := by simp [fpB]
theorem mem_fpL {k : Nat} : k ∈ fpL sl L ↔ sl.ownBlock = some k ∨ ∃ l ∈ L, k ∈ l.F := by simp [fpL, fpB]
theorem Lines.keep (h : Lines w sl L) {G : List Nat} (ht : Touch G w w') (hn : ∀ k, k ∈ fpL sl L → ¬ k ∈ G) : Lines w' sl L :=
  ⟨own_touch h.row ht (fun b hb => hn b (mem_fpL.2 (Or.inl hb))), fun l hl => (h.all l hl).keep ht (fun k hk => hn k (mem_fpL.2 (Or.inr ⟨l, hl, hk⟩))), h.apart, h.off⟩
theorem Lines.keep0 (h : Lines w sl L) (ht : Touch [] w w') : Lines w' sl L := h.keep ht (fun _ _ e => by cases e)
theorem Lines.lt (h : Lines w sl L) : ∀ k, k ∈ fpL sl L → k < w.heap.size := fun k hk => by
  rcases mem_fpL.1 hk with e | ⟨l, hl, e⟩
  · exact (h.row.lt k e).2
  · exact (h.all l hl).lt k e
theorem Lines.nil (w : World) : Lines w (.slice none 0 0) [] := ⟨World.ownsRow_nil _ _ _ _, fun l hl => by simp at hl, List.Pairwise.nil, fun l hl => by simp at hl⟩
theorem wl_app (A B : List Li) : wl (A ++ B) = wl A ++ wl B := by simp [wl]
theorem wl_cons (a : Li) (A : List Li) : wl (a :: A) = a.xs ++ wl A := by simp [wl]
theorem wl_nil : wl [] = [] := rfl
theorem Lines.form (h : Lines w sl L) : ∃ p c, sl = .slice p L.length c := own_form h.row
theorem Lines.cell (h : Lines w sl L) {p : Option Addr} {c : Nat} (hs : sl = .slice p L.length c) {i : Nat} (hi : i < L.length) : ∃ g, p = some ⟨g, 0, none⟩ ∧ w.cell? ⟨g, i, none⟩ = some (.pointer (ptr L[i])) := by
  subst hs
  rcases h.row.2 with ⟨e1, e2⟩ | ⟨g, cap, cur, hv, _⟩
  · omega
  · cases hv
    exact ⟨g, rfl, own_cell h.row (by simp [pts, hi])⟩
/-- One queue of the lines has been worked on. -/
theorem Lines.work (h : Lines w sl L) {i : Nat} (hi : i < L.length) {F' : List Nat} {ys : List Int} (u : Uq w' L[i].q F' ys) (t : Touch L[i].F w w') (n : Nf w L[i].F F') :
    Lines w' sl (L.set i ⟨L[i].q, F', ys⟩) ∧ Nf w (fpL sl L) (fpL sl (L.set i ⟨L[i].q, F', ys⟩)) := by
  have hm : ∀ j (hj : j < L.length), j ≠ i → ∀ k, k ∈ L[j].F → ¬ k ∈ L[i].F := fun j hj hne k hk e => by
    rcases Nat.lt_or_gt_of_ne hne with e1 | e1
    · exact List.pairwise_iff_getElem.1 h.apart j i hj hi e1 k hk e
    · exact List.pairwise_iff_getElem.1 h.apart i j hi hj e1 k e hk
  have hlt := h.lt
  have hnew : ∀ k, k ∈ F' → ∀ j (hj : j < L.length), j ≠ i → ¬ k ∈ L[j].F := fun k hk j hj hne e => by
    rcases n k hk with e1 | e1
    · exact hm j hj hne k e e1
    · have := hlt k (mem_fpL.2 (Or.inr ⟨_, List.getElem_mem hj, e⟩)); omega
  refine ⟨⟨?_, fun l hl => ?_, ?_, fun l hl b hb e => ?_⟩, fun k hk => ?_⟩
  · have e : (L.set i ⟨L[i].q, F', ys⟩).map ptr = L.map ptr := by
      refine List.ext_getElem (by simp) (fun j h1 h2 => ?_)
      simp only [List.getElem_map, List.getElem_set, ptr]
      split
      · rename_i e; subst e; rfl
      · rfl
    rw [e, List.length_set]
    exact own_touch h.row t (fun b hb e => h.off _ (List.getElem_mem hi) b hb e)
  · obtain ⟨j, hj, rfl⟩ := List.getElem_of_mem hl
    simp only [List.length_set] at hj
    rw [List.getElem_set]
    split
    · exact u
    · rename_i hne
      exact (h.all _ (List.getElem_mem hj)).keep t (hm j hj (fun e => hne e.symm))
  · rw [List.pairwise_iff_getElem]
    intro a b ha hb hab k hk e
    simp only [List.length_set] at ha hb
    rw [List.getElem_set] at hk e
    split at hk
    · rename_i e1
      subst e1
      rw [if_neg (by omega)] at e
      exact hnew k hk b hb (by omega) e
    · split at e
      · rename_i e1 e2
        subst e2
        exact hnew k e a ha (by omega) hk
      · exact List.pairwise_iff_getElem.1 h.apart a b ha hb hab k hk e
  · obtain ⟨j, hj, rfl⟩ := List.getElem_of_mem hl
    simp only [List.length_set] at hj
    rw [List.getElem_set] at e
    split at e
    · rcases n b e with e1 | e1
      · exact h.off _ (List.getElem_mem hi) b hb e1
      · have := hlt b (mem_fpL.2 (Or.inl hb)); omega
    · exact h.off _ (List.getElem_mem hj) b hb e
  · rcases mem_fpL.1 hk with e | ⟨l, hl, e⟩
    · exact Or.inl (mem_fpL.2 (Or.inl e))
    · obtain ⟨j, hj, rfl⟩ := List.getElem_of_mem hl
      simp only [List.length_set] at hj
      rw [List.getElem_set] at e
      split at e
      · rcases n k e with e1 | e1
        · exact Or.inl (mem_fpL.2 (Or.inr ⟨_, List.getElem_mem hi, e1⟩))
        · exact Or.inr e1
      · exact Or.inl (mem_fpL.2 (Or.inr ⟨_, List.getElem_mem hj, e⟩))
/-- One more queue stands behind the others. -/
theorem Lines.add (h : Lines w sl L) {w1 w2 : World} {q : Nat} {G : List Nat} {ys : List Int} {sl' : Value} (t1 : Touch [] w w1) (u : Uq w1 q G ys) (hG : ∀ k, k ∈ G → w.heap.size ≤ k)
    (o : w2.ownsRow 0 71 1 sl' (L.length + 1) (pts (L.map ptr) ++ [PT q])) (t2 : Touch sl.ownBlock.toList w1 w2) (hsl : ∀ b, sl'.ownBlock = some b → sl.ownBlock = some b ∨ w1.heap.size ≤ b) :
    Lines w2 sl' (L ++ [⟨q, G, ys⟩]) ∧ Nf w (fpL sl L) (fpL sl' (L ++ [⟨q, G, ys⟩])) := by
  have hlt := h.lt
  have hz := t1.size
  refine ⟨⟨?_, fun l hl => ?_, ?_, fun l hl b hb e => ?_⟩, fun k hk => ?_⟩
  · rw [List.length_append, List.map_append]
    simpa [pts, PT, ptr] using o
  · rcases List.mem_append.1 hl with hl | hl
    · exact ((h.all l hl).keep0 t1).keep t2 (fun k hk e => h.off l hl k (by simpa using e) hk)
    · simp only [List.mem_singleton] at hl
      subst hl
      exact u.keep t2 (fun k hk e => by have := hG k hk; have := hlt k (mem_fpL.2 (Or.inl (by simpa using e))); omega)
  · rw [List.pairwise_append]
    refine ⟨h.apart, List.pairwise_singleton _ _, fun a ha b hb k hk e => ?_⟩
    simp only [List.mem_singleton] at hb
    subst hb
    have := hG k e
    have := hlt k (mem_fpL.2 (Or.inr ⟨a, ha, hk⟩))
    omega
  · rcases List.mem_append.1 hl with hl | hl
    · rcases hsl b hb with e1 | e1
      · exact h.off l hl b e1 e
      · have := hlt b (mem_fpL.2 (Or.inr ⟨l, hl, e⟩)); omega
    · simp only [List.mem_singleton] at hl
      subst hl
      rcases hsl b hb with e1 | e1
      · have := hG b e; have := hlt b (mem_fpL.2 (Or.inl e1)); omega
      · have := u.lt b e; omega
  · rcases mem_fpL.1 hk with e | ⟨l, hl, e⟩
    · rcases hsl k e with e1 | e1
      · exact Or.inl (mem_fpL.2 (Or.inl e1))
      · exact Or.inr (by omega)
    · rcases List.mem_append.1 hl with hl | hl
      · exact Or.inl (mem_fpL.2 (Or.inr ⟨l, hl, e⟩))
      · simp only [List.mem_singleton] at hl
        subst hl
        exact Or.inr (hG k e)
/-- One queue is taken away. -/
theorem Lines.less (h : Lines w sl L) {i : Nat} (hi : i < L.length) {sl' : Value} (o : w'.ownsRow 0 71 1 sl' (L.length - 1) (pts ((L.map ptr).eraseIdx i))) (t : Touch sl.ownBlock.toList w w') (hsl : sl'.ownBlock = sl.ownBlock) :
    Lines w' sl' (L.eraseIdx i) ∧ ∀ k, k ∈ fpL sl' (L.eraseIdx i) → k ∈ fpL sl L := by
  have hs : ∀ l, l ∈ L.eraseIdx i → l ∈ L := fun l hl => List.mem_of_mem_eraseIdx hl
  refine ⟨⟨?_, fun l hl => ?_, h.apart.sublist (List.eraseIdx_sublist _ _), fun l hl b hb e => h.off l (hs l hl) b (hsl ▸ hb) e⟩, fun k hk => ?_⟩
  · rw [List.length_eraseIdx_of_lt hi]
    have e : (L.eraseIdx i).map ptr = (L.map ptr).eraseIdx i := by
      rw [List.eraseIdx_eq_take_drop_succ, List.eraseIdx_eq_take_drop_succ, List.map_append, List.map_take, List.map_drop]
    rw [e]
    exact o
  · exact (h.all l (hs l hl)).keep t (fun k hk e => h.off l (hs l hl) k (by simpa using e) hk)
  · rcases mem_fpL.1 hk with e | ⟨l, hl, e⟩
    · exact mem_fpL.2 (Or.inl (hsl ▸ e))
    · exact mem_fpL.2 (Or.inr ⟨l, hs l hl, e⟩)
end
end Go.Proofs.Ytmbjjkdocmcpdaa
