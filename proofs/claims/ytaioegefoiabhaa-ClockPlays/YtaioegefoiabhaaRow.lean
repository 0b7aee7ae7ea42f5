/- Rows of structs of whole numbers that a call owns: reading and writing a cell; and how a queue by time lies in memory. -/
import Derived.Test.YtaioegefoiabhaaCmp
import Derived.Lib.SmallJoins
namespace Go.Proofs.Ytaioegefoiabhaa
open Go.RowKit Go.Maps Go.ChangeMaps
set_option linter.unusedVariables false

theorem own_block {w : World} {base e g c n k : Nat} {xs : List Value} (h : w.ownsRow base e k (.slice (some ⟨g, 0, none⟩) n c) n xs) :
    ∃ cur, w.heap[g]? = some (.cells cur e (0, 0)) ∧ n ≤ c ∧ c ≤ maxLen ∧ cur.size = c * k ∧ cur.toList.take (n * k) = xs ∧ base ≤ g ∧ xs.length = n * k := by
  obtain ⟨h1, h2 | ⟨g', cap', cur, hv, hg, hc, hn, hm, hs, ht⟩⟩ := h
  · cases h2.1
  · simp only [Value.slice.injEq, Option.some.injEq, Addr.mk.injEq, and_true, true_and] at hv
    obtain ⟨rfl, rfl⟩ := hv
    exact ⟨cur, hc, hn, hm, hs, ht, hg, h1⟩
theorem own_cell {w : World} {base e g c n k : Nat} {xs : List Value} (h : w.ownsRow base e k (.slice (some ⟨g, 0, none⟩) n c) n xs) {p : Nat} {v : Value} (hp : xs[p]? = some v) :
    w.cell? ⟨g, p, none⟩ = some v := by
  obtain ⟨cur, hc, hn, hm, hs, ht, hg, hl⟩ := own_block h
  have hp' : p < xs.length := (List.getElem?_eq_some_iff.1 hp).1
  have : cur[p]? = some v := by
    rw [← Array.getElem?_toList, ← hp, ← ht, List.getElem?_take, if_pos (by omega)]
  simp [World.cell?, hc, this]
theorem own_frozen {w : World} {base e g c n k : Nat} {xs : List Value} (h : w.ownsRow base e k (.slice (some ⟨g, 0, none⟩) n c) n xs) (p : Nat) : w.frozen? ⟨g, p, none⟩ = false := by
  obtain ⟨cur, hc, _⟩ := own_block h
  exact Joins.unfrozen_of_block hc _
theorem own_set {w : World} {base e g c n k : Nat} {xs : List Value} (h : w.ownsRow base e k (.slice (some ⟨g, 0, none⟩) n c) n xs) (p : Nat) (v : Value) :
    (w.setCell ⟨g, p, none⟩ v).ownsRow base e k (.slice (some ⟨g, 0, none⟩) n c) n (xs.set p v) := by
  obtain ⟨cur, hc, hn, hm, hs, ht, hg, hl⟩ := own_block h
  refine ⟨by rw [List.length_set]; exact hl, Or.inr ⟨g, c, cur.setIfInBounds p v, rfl, hg, Joins.block_setCell hc _, hn, hm, by simp [hs], ?_⟩⟩
  rw [Array.toList_setIfInBounds, List.take_set, ht]
theorem own_keep {w w' : World} {base e n k : Nat} {v : Value} {xs : List Value} (h : w.ownsRow base e k v n xs) (hk : ∀ b, v.ownBlock = some b → w'.heap[b]? = w.heap[b]?) : w'.ownsRow base e k v n xs := by
  obtain ⟨h1, h2 | ⟨g, cap, cur, rfl, hg, hc, r⟩⟩ := h
  · exact ⟨h1, Or.inl h2⟩
  · exact ⟨h1, Or.inr ⟨g, cap, cur, rfl, hg, (hk g rfl).trans hc, r⟩⟩
theorem own_touch {F : List Nat} {w w' : World} {base e n k : Nat} {v : Value} {xs : List Value} (h : w.ownsRow base e k v n xs) (ht : Touch F w w') (hk : ∀ b, v.ownBlock = some b → ¬ b ∈ F) : w'.ownsRow base e k v n xs :=
  own_keep h (fun b hb => ht.block b (h.lt b hb).2 (hk b hb))
theorem own_form {w : World} {base e n k : Nat} {v : Value} {xs : List Value} (h : w.ownsRow base e k v n xs) : ∃ p c, v = .slice p n c := by
  rcases h.2 with ⟨rfl, rfl⟩ | ⟨g, cap, cur, rfl, _⟩
  · exact ⟨_, _, rfl⟩
  · exact ⟨_, _, rfl⟩

def iv (x : Int) : Value := .int .i64 x
def cells3 (x : Slot) : List Value := [.int .i64 x.at_, .int .i64 x.put, .int .i64 x.item]
def flat (s : List Slot) : List Value := s.flatMap cells3
theorem flat_cons (x : Slot) (s : List Slot) : flat (x :: s) = .int .i64 x.at_ :: .int .i64 x.put :: .int .i64 x.item :: flat s := by simp [flat, cells3]
theorem flat_app (s t : List Slot) : flat (s ++ t) = flat s ++ flat t := by simp [flat]
theorem flat_len (s : List Slot) : (flat s).length = s.length * 3 := by
  induction s with
  | nil => rfl
  | cons x s ih => rw [flat_cons]; simp [ih]; omega
theorem flat_at : ∀ (s : List Slot) (i : Nat), i < s.length → (flat s)[i * 3]? = some (.int .i64 (gt s i).at_) ∧ (flat s)[i * 3 + 1]? = some (.int .i64 (gt s i).put) ∧ (flat s)[i * 3 + 2]? = some (.int .i64 (gt s i).item)
  | x :: s, 0, _ => by rw [flat_cons]; simp [gt]
  | x :: s, i + 1, h => by
    have ih := flat_at s i (by simpa using h)
    rw [flat_cons, show (i + 1) * 3 = i * 3 + 1 + 1 + 1 by omega, show i * 3 + 1 + 1 + 1 + 1 = (i * 3 + 1) + 1 + 1 + 1 by omega, show i * 3 + 1 + 1 + 1 + 2 = (i * 3 + 2) + 1 + 1 + 1 by omega]
    simpa [gt] using ih
theorem flat_set : ∀ (s : List Slot) (i : Nat) (x : Slot), i < s.length → flat (s.set i x) = (((flat s).set (i * 3) (.int .i64 x.at_)).set (i * 3 + 1) (.int .i64 x.put)).set (i * 3 + 2) (.int .i64 x.item)
  | a :: s, 0, x, _ => by simp [flat_cons]
  | a :: s, i + 1, x, h => by
    have ih := flat_set s i x (by simpa using h)
    rw [List.set_cons_succ, flat_cons, flat_cons, ih, show (i + 1) * 3 = i * 3 + 1 + 1 + 1 by omega, show i * 3 + 1 + 1 + 1 + 1 = (i * 3 + 1) + 1 + 1 + 1 by omega, show i * 3 + 1 + 1 + 1 + 2 = (i * 3 + 2) + 1 + 1 + 1 by omega]
    rfl
def idx (s : List Slot) (k : Int) : Option Nat := s.findIdx? (fun x => x.item == k)
def pmap (s : List Slot) (k : Int) : Option Value := (idx s k).map (fun i : Nat => Value.int .i64 (i : Int))
def Nd (s : List Slot) : Prop := (s.map Slot.item).Nodup
theorem nd_at {s : List Slot} (h : Nd s) {i j : Nat} (hi : i < s.length) (hj : j < s.length) (e : (gt s i).item = (gt s j).item) : i = j := by
  have H : ∀ a b, a < b → b < s.length → (gt s a).item ≠ (gt s b).item := fun a b hab hb => by
    have := (List.pairwise_iff_getElem.1 h) a b (by simp; omega) (by simpa using hb) hab
    simpa [gt_eq hb, gt_eq (Nat.lt_trans hab hb)] using this
  rcases Nat.lt_trichotomy i j with h1 | h1 | h1
  · exact absurd e (H i j h1 hj)
  · exact h1
  · exact absurd e.symm (H j i h1 hi)
theorem idx_at {s : List Slot} (h : Nd s) {i : Nat} (hi : i < s.length) : idx s (gt s i).item = some i := by
  unfold idx
  rw [List.findIdx?_eq_some_iff_getElem]
  refine ⟨hi, by simp [gt_eq hi], fun j hj => ?_⟩
  simp
  intro e
  have := nd_at h (i := j) (j := i) (by omega) hi (by rw [gt_eq (by omega)]; exact e)
  omega
theorem idx_some {s : List Slot} {k : Int} {i : Nat} (h : idx s k = some i) : i < s.length ∧ (gt s i).item = k := by
  unfold idx at h
  rw [List.findIdx?_eq_some_iff_getElem] at h
  obtain ⟨h1, h2, _⟩ := h
  exact ⟨h1, by rw [gt_eq h1]; simpa using h2⟩
theorem idx_none {s : List Slot} {k : Int} : idx s k = none ↔ ∀ x ∈ s, x.item ≠ k := by
  unfold idx
  rw [List.findIdx?_eq_none_iff]
  simp
theorem nd_perm {s t : List Slot} (h : Nd s) (p : t.Perm s) : Nd t := (p.map Slot.item).nodup_iff.2 h
/-- The map behind an exchange of two places. -/
theorem pmap_swp {s : List Slot} (h : Nd s) {i j : Nat} (hi : i < s.length) (hj : j < s.length) (hij : i ≠ j) (k : Int) :
    upd (upd (pmap s) (gt s j).item (.int .i64 i)) (gt s i).item (.int .i64 j) k = pmap (swp s i j) k := by
  have h' := nd_perm h (swp_perm hi hj)
  have G := swp_gt hi hj
  simp only [upd]
  by_cases e1 : k = (gt s i).item
  · rw [if_pos e1, e1]
    have := idx_at h' (i := j) (by rw [swp_len]; exact hj)
    rw [G, if_pos rfl] at this
    simp [pmap, this]
  · rw [if_neg e1]
    by_cases e2 : k = (gt s j).item
    · rw [if_pos e2, e2]
      have := idx_at h' (i := i) (by rw [swp_len]; exact hi)
      rw [G, if_neg hij, if_pos rfl] at this
      simp [pmap, this]
    · rw [if_neg e2]
      unfold pmap
      congr 1
      cases hk : idx s k with
      | none =>
        symm
        rw [idx_none] at hk ⊢
        exact fun x hx => hk x ((swp_perm hi hj).mem_iff.1 hx)
      | some p =>
        obtain ⟨p1, p2⟩ := idx_some hk
        have n1 : p ≠ i := fun e => e1 (by rw [← p2, e])
        have n2 : p ≠ j := fun e => e2 (by rw [← p2, e])
        have := idx_at h' (i := p) (by rw [swp_len]; exact p1)
        rw [G, if_neg n2, if_neg n1, p2] at this
        exact this.symm

def HC (w : World) (q : Nat) (sl : Value) (m : Option Nat) (p : Int) : Prop := w.heap[q]? = some (.cells #[sl, .map m, .int .i64 p] 83 (0, 0))
theorem HC.c0 {w : World} {q : Nat} {sl : Value} {m : Option Nat} {p : Int} (h : HC w q sl m p) : w.cell? ⟨q, 0, none⟩ = some sl := by unfold HC at h; simp [World.cell?, h]
theorem HC.c1 {w : World} {q : Nat} {sl : Value} {m : Option Nat} {p : Int} (h : HC w q sl m p) : w.cell? ⟨q, 1, none⟩ = some (.map m) := by unfold HC at h; simp [World.cell?, h]
theorem HC.c2 {w : World} {q : Nat} {sl : Value} {m : Option Nat} {p : Int} (h : HC w q sl m p) : w.cell? ⟨q, 2, none⟩ = some (.int .i64 p) := by unfold HC at h; simp [World.cell?, h]
theorem HC.fr {w : World} {q : Nat} {sl : Value} {m : Option Nat} {p : Int} (h : HC w q sl m p) (i : Nat) : w.frozen? ⟨q, i, none⟩ = false := by unfold HC at h; simp [World.frozen?, h]
def WfS (s : List Slot) : Prop := ∀ x ∈ s, W64 x.at_ ∧ W64 x.put ∧ W64 x.item
structure HQ (w : World) (q : Nat) (sl : Value) (m : Option Nat) (p : Int) (s : List Slot) : Prop where
  hc : HC w q sl m p
  row : w.ownsRow 0 86 3 sl s.length (flat s)
  mp : (m = none ∧ s = []) ∨ ∃ b, m = some b ∧ MapAt w b s.length (pmap s)
  nd : Nd s
  wf : WfS s
  le : s.length ≤ 65536
def fq (q : Nat) (sl : Value) (m : Option Nat) : List Nat := q :: (sl.ownBlock.toList ++ m.toList)
theorem row_ne {w : World} {q n : Nat} {sl sl' : Value} {m : Option Nat} {p : Int} {xs : List Value} {e k : Nat} (hc : HC w q sl m p) (h : w.ownsRow 0 e k sl' n xs) (he : e ≠ 83) : ∀ b, sl'.ownBlock = some b → b ≠ q := by
  intro b hb e'
  obtain ⟨h1, h2 | ⟨g, cap, cur, rfl, hg, hcc, r⟩⟩ := h
  · rw [h2.1] at hb; cases hb
  · simp [Value.ownBlock] at hb
    subst hb e'
    unfold HC at hc
    rw [hcc] at hc
    simp at hc
    exact he hc.2
theorem row_nm {w : World} {n b k : Nat} {sl : Value} {xs : List Value} {e : Nat} {nn : Nat} {f : Int → Option Value} (h : w.ownsRow 0 e k sl n xs) (hm : MapAt w b nn f) : ∀ g, sl.ownBlock = some g → g ≠ b := by
  intro g hb e'
  obtain ⟨h1, h2 | ⟨g, cap, cur, rfl, hg, hcc, r⟩⟩ := h
  · rw [h2.1] at hb; cases hb
  · simp [Value.ownBlock] at hb
    subst hb e'
    obtain ⟨D, ⟨es, cl, hb, _⟩, _⟩ := hm
    rw [hb] at hcc
    simp at hcc
end Go.Proofs.Ytaioegefoiabhaa
