/- A stretch laid into its place, in plain words, and within a row that a call owns; no conditions but those that each states. -/
import Derived.Test.YtibgfkjhohgkhaaTwb
namespace Go.Proofs.Ytibgfkjhohgkhaa.Ty
open Go.RowKit Go.Maps Go.ChangeMaps
open Tr
set_option linter.unusedVariables false
set_option linter.unusedSimpArgs false
def upd (g : Int → Option Q4) (k kd : Int) : Int → Option Q4 := fun j => if j = k then some (bump ((g k).getD zq) kd) else g j
theorem pS_upd {B : Nat} {g : Int → Option Q4} {e : Ez} (h : vld e = true) : pS B g e = upd g (dk B e) e.kd := by unfold pS; rw [if_pos h]; rfl
theorem pS_no {B : Nat} {g : Int → Option Q4} {e : Ez} (h : ¬ vld e = true) : pS B g e = g := by unfold pS; rw [if_neg h]
theorem bump_at (q : Q4) (kd : Int) : bump (q.at_ 0) kd = (bump q kd).at_ 0 := by
  unfold bump
  split
  · rfl
  split
  · rfl
  split <;> rfl
theorem at_eq {x y : Q4} (h : x.at_ 0 = y.at_ 0) (h' : x.fr = y.fr) : x = y := by
  obtain ⟨a, b, c, d⟩ := x
  obtain ⟨a', b', c', d'⟩ := y
  simp only [Q4.at_, Q4.mk.injEq, true_and] at h
  simp only at h'
  obtain ⟨rfl, rfl, rfl⟩ := h
  subst h'
  rfl
theorem tells_put {g : Int → Option Q4} {A R : List Q4} {q : Q4} {k kd : Int} (h : Tells g (A ++ q :: R)) (hq : q.fr = k) : Tells (upd g k kd) (A ++ bump q kd :: R) := by
  obtain ⟨ho, hm⟩ := h
  have ho' := ho
  rw [List.pairwise_append, List.pairwise_cons] at ho
  obtain ⟨a1, ⟨a2, a3⟩, a4⟩ := ho
  have gk : g k = some (q.at_ 0) := by rw [← hq]; exact (hm q).1 (by simp)
  have hfr : (bump q kd).fr = k := by rw [bump_fr, hq]
  refine ⟨?_, fun x => ?_⟩
  · rw [List.pairwise_append, List.pairwise_cons]
    refine ⟨a1, ⟨fun y hy => by rw [hfr, ← hq]; exact a2 y hy, a3⟩, fun x hx y hy => ?_⟩
    rcases List.mem_cons.1 hy with rfl | hy
    · rw [hfr, ← hq]; exact a4 x hx q (by simp)
    · exact a4 x hx y (List.mem_cons_of_mem _ hy)
  · have key : x.fr ≠ k → (x ∈ A ++ bump q kd :: R ↔ x ∈ A ++ q :: R) := fun hx => by
      simp only [List.mem_append, List.mem_cons]
      constructor
      · rintro (e | e | e)
        · exact Or.inl e
        · subst e; exact absurd hfr hx
        · exact Or.inr (Or.inr e)
      · rintro (e | e | e)
        · exact Or.inl e
        · subst e; exact absurd hq hx
        · exact Or.inr (Or.inr e)
    unfold upd
    by_cases hx : x.fr = k
    · rw [if_pos hx, gk, Option.getD_some, bump_at]
      constructor
      · intro hxm
        have : x = bump q kd := by
          simp only [List.mem_append, List.mem_cons] at hxm
          rcases hxm with e | e | e
          · have := a4 x e q (by simp); omega
          · exact e
          · have := a2 x e; omega
        rw [this]
      · intro e
        have : bump q kd = x := at_eq (Option.some.inj e) (by rw [hfr, hx])
        rw [← this]; simp
    · rw [if_neg hx, key hx, hm x]
theorem at0' {q : Q4} {k : Int} (h : q.fr = 0) : (q.at_ k).at_ 0 = q := by
  obtain ⟨a, b, c, d⟩ := q
  simp only at h
  subst h
  rfl
theorem tells_ins {g : Int → Option Q4} {A R : List Q4} {k kd : Int} (hz : ∀ j q, g j = some q → q.fr = 0) (h : Tells g (A ++ R)) (hA : ∀ x ∈ A, x.fr < k) (hR : ∀ x ∈ R, k < x.fr) : Tells (upd g k kd) (A ++ bump ⟨k, 0, 0, 0⟩ kd :: R) := by
  obtain ⟨ho, hm⟩ := h
  rw [List.pairwise_append] at ho
  obtain ⟨a1, a2, a3⟩ := ho
  have hfr : (bump ⟨k, 0, 0, 0⟩ kd).fr = k := bump_fr _ _
  have gk : g k = none := by
    cases hg : g k with
    | none => rfl
    | some q =>
      exfalso
      have hy : q.at_ k ∈ A ++ R := (hm (q.at_ k)).2 (by show g k = _; rw [hg, at0' (hz k q hg)])
      rcases List.mem_append.1 hy with e | e
      · have : (q.at_ k).fr < k := hA _ e
        exact absurd this (Int.lt_irrefl _)
      · have : k < (q.at_ k).fr := hR _ e
        exact absurd this (Int.lt_irrefl _)
  refine ⟨?_, fun x => ?_⟩
  · rw [List.pairwise_append, List.pairwise_cons]
    refine ⟨a1, ⟨fun y hy => by rw [hfr]; exact hR y hy, a2⟩, fun x hx y hy => ?_⟩
    rcases List.mem_cons.1 hy with rfl | hy
    · rw [hfr]; exact hA x hx
    · exact a3 x hx y hy
  · unfold upd
    by_cases hx : x.fr = k
    · rw [if_pos hx, gk, Option.getD_none]
      have hb : bump zq kd = (bump ⟨k, 0, 0, 0⟩ kd).at_ 0 := by rw [← bump_at]; rfl
      rw [hb]
      constructor
      · intro hxm
        have : x = bump ⟨k, 0, 0, 0⟩ kd := by
          simp only [List.mem_append, List.mem_cons] at hxm
          rcases hxm with e | e | e
          · have := hA x e; omega
          · exact e
          · have := hR x e; omega
        rw [this]
      · intro e
        have : bump ⟨k, 0, 0, 0⟩ kd = x := at_eq (Option.some.inj e) (by rw [hfr, hx])
        rw [← this]; simp
    · rw [if_neg hx, ← hm x]
      simp only [List.mem_append, List.mem_cons]
      constructor
      · rintro (e | e | e)
        · exact Or.inl e
        · subst e; exact absurd hfr hx
        · exact Or.inr e
      · rintro (e | e)
        · exact Or.inl e
        · exact Or.inr (Or.inr e)
/-- The place: all before it begin earlier, what stands at it does not. -/
structure Plc (S : List Q4) (k : Int) (a : Nat) : Prop where
  le : a ≤ S.length
  lo : ∀ j q, j < a → S[j]? = some q → q.fr < k
theorem Plc.take {S : List Q4} {k : Int} {a : Nat} (h : Plc S k a) : ∀ x ∈ S.take a, x.fr < k := fun x hx => by
  obtain ⟨j, hj, rfl⟩ := List.getElem_of_mem hx
  rw [List.length_take] at hj
  rw [List.getElem_take]
  exact h.lo j _ (by omega) (List.getElem?_eq_getElem (by omega))
/-- Behind the counting, where a stretch stands already. -/
theorem put_here {g : Int → Option Q4} {S : List Q4} {k kd : Int} {a : Nat} {q : Q4} (h : Tells g S) (hq : S[a]? = some q) (hk : q.fr = k) : Tells (upd g k kd) (S.set a (bump q kd)) := by
  obtain ⟨ha, he⟩ := List.getElem?_eq_some_iff.1 hq
  have e1 : S = S.take a ++ q :: S.drop (a + 1) := by rw [← he, ← List.drop_eq_getElem_cons ha, List.take_append_drop]
  have e2 : S.set a (bump q kd) = S.take a ++ bump q kd :: S.drop (a + 1) := by rw [List.set_eq_take_append_cons_drop, if_pos ha]
  rw [e2]
  rw [e1] at h
  exact tells_put h hk
/-- Behind the counting, where a stretch is laid in. -/
theorem put_new {g : Int → Option Q4} {S : List Q4} {k kd : Int} {a : Nat} (hz : ∀ j q, g j = some q → q.fr = 0) (h : Tells g S) (hp : Plc S k a) (hn : ∀ q, S[a]? = some q → k < q.fr) : Tells (upd g k kd) (S.take a ++ bump ⟨k, 0, 0, 0⟩ kd :: S.drop a) := by
  refine tells_ins hz (by rw [List.take_append_drop]; exact h) hp.take (fun x hx => ?_)
  obtain ⟨j, hj, rfl⟩ := List.getElem_of_mem hx
  rw [List.length_drop] at hj
  rw [List.getElem_drop]
  have h0 := hn _ (List.getElem?_eq_getElem (show a < S.length by omega))
  rcases Nat.eq_zero_or_pos j with rfl | hp
  · exact h0
  · have := List.pairwise_iff_getElem.1 h.ord a (a + j) (by omega) (by omega) (by omega)
    omega
/-- While what stands behind a place is moved up by one: all behind i has been. -/
def mvd (S : List Q4) (i : Nat) : List Q4 := (S ++ [zq]).take (i + 1) ++ S.drop i
theorem mvd_len {S : List Q4} {i : Nat} (h : i ≤ S.length) : (mvd S i).length = S.length + 1 := by
  unfold mvd
  rw [List.length_append, List.length_take, List.length_drop, List.length_append, List.length_singleton]
  omega
theorem mvd_start (S : List Q4) : mvd S S.length = S ++ [zq] := by
  unfold mvd
  rw [List.drop_length, List.append_nil, List.take_of_length_le (by simp)]
theorem mvd_get {S : List Q4} {i j : Nat} (h : i ≤ S.length) (hj : j < i) : (mvd S i)[j]? = S[j]? := by
  unfold mvd
  rw [List.getElem?_append_left (by rw [List.length_take, List.length_append]; simp; omega), List.getElem?_take, if_pos (by omega), List.getElem?_append_left (by omega)]
theorem mvd_step {S : List Q4} {i : Nat} {q : Q4} (h : i + 1 ≤ S.length) (hq : S[i]? = some q) : (mvd S (i + 1)).set (i + 1) q = mvd S i := by
  obtain ⟨hi, he⟩ := List.getElem?_eq_some_iff.1 hq
  refine List.ext_getElem? fun j => ?_
  rw [List.getElem?_set]
  have l1 : ((S ++ [zq]).take (i + 1)).length = i + 1 := by rw [List.length_take, List.length_append]; simp; omega
  have l2 : ((S ++ [zq]).take (i + 1 + 1)).length = i + 1 + 1 := by rw [List.length_take, List.length_append]; simp; omega
  unfold mvd
  by_cases e : i + 1 = j
  · subst e
    rw [if_pos rfl, if_pos (by rw [List.length_append, l2]; omega), List.getElem?_append_right (by rw [l1]; omega), l1, Nat.sub_self, List.getElem?_drop, Nat.add_zero, hq]
  · rw [if_neg e]
    by_cases h1 : j < i + 1
    · rw [List.getElem?_append_left (by rw [l2]; omega), List.getElem?_append_left (by rw [l1]; omega), List.getElem?_take, List.getElem?_take, if_pos (by omega), if_pos h1]
    · rw [List.getElem?_append_right (by rw [l2]; omega), List.getElem?_append_right (by rw [l1]; omega), l1, l2, List.getElem?_drop, List.getElem?_drop]
      congr 1
      omega
theorem mvd_end {S : List Q4} {a : Nat} {q : Q4} (h : a ≤ S.length) : (mvd S a).set a q = S.take a ++ q :: S.drop a := by
  unfold mvd
  have l1 : ((S ++ [zq]).take (a + 1)).length = a + 1 := by rw [List.length_take, List.length_append]; simp; omega
  have e1 : (S ++ [zq]).take a = S.take a := by rw [List.take_append_of_le_length h]
  rw [List.set_append_left _ _ (by rw [l1]; omega), List.take_add_one, e1]
  have e2 : ∃ z, (S ++ [zq])[a]? = some z := ⟨_, List.getElem?_eq_getElem (by rw [List.length_append]; simp; omega)⟩
  obtain ⟨z, hz⟩ := e2
  rw [hz]
  have l3 : (S.take a).length = a := by rw [List.length_take]; omega
  rw [List.set_append_right _ _ (by rw [l3]; exact Nat.le_refl _), l3, Nat.sub_self]
  simp
/-! Within a row that a call owns -/
section
variable {w : World} {B t g n c : Nat} {S : List Q4} {i : Nat} {q : Q4}
theorem q4_cells (h : w.ownsRow B t 4 (.slice (some ⟨g, 0, none⟩) n c) n (S.flatMap row4)) (hq : S[i]? = some q) : w.cell? ⟨g, i * 4, none⟩ = some (.int .i64 q.fr) ∧ w.cell? ⟨g, i * 4 + 1, none⟩ = some (.int .i64 q.jo) ∧ w.cell? ⟨g, i * 4 + 2, none⟩ = some (.int .i64 q.be) ∧ w.cell? ⟨g, i * 4 + 3, none⟩ = some (.int .i64 q.en) :=
  ⟨own_cell h (flat_at row4_len S i 0 q hq (by decide)), own_cell h (flat_at row4_len S i 1 q hq (by decide)), own_cell h (flat_at row4_len S i 2 q hq (by decide)), own_cell h (flat_at row4_len S i 3 q hq (by decide))⟩
theorem q4_set1 (h : w.ownsRow B t 4 (.slice (some ⟨g, 0, none⟩) n c) n (S.flatMap row4)) (hq : S[i]? = some q) {j : Nat} (hj : j < 4) {v : Value} {y : Q4} (hy : row4 y = (row4 q).set j v) : (w.setCell ⟨g, i * 4 + j, none⟩ v).ownsRow B t 4 (.slice (some ⟨g, 0, none⟩) n c) n ((S.set i y).flatMap row4) := by
  have := own_set h (i * 4 + j) v
  rw [flat_set row4_len S hq hj hy] at this
  exact this
theorem q4_put (h : w.ownsRow B t 4 (.slice (some ⟨g, 0, none⟩) n c) n (S.flatMap row4)) (hq : S[i]? = some q) (y : Q4) : ((((w.setCell ⟨g, i * 4, none⟩ (.int .i64 y.fr)).setCell ⟨g, i * 4 + 1, none⟩ (.int .i64 y.jo)).setCell ⟨g, i * 4 + 2, none⟩ (.int .i64 y.be)).setCell ⟨g, i * 4 + 3, none⟩ (.int .i64 y.en)).ownsRow B t 4 (.slice (some ⟨g, 0, none⟩) n c) n ((S.set i y).flatMap row4) := by
  have hi := (List.getElem?_eq_some_iff.1 hq).1
  have h0 := q4_set1 (y := ⟨y.fr, q.jo, q.be, q.en⟩) h hq (j := 0) (by decide) (v := .int .i64 y.fr) rfl
  have h1 := q4_set1 (y := ⟨y.fr, y.jo, q.be, q.en⟩) h0 (q := ⟨y.fr, q.jo, q.be, q.en⟩) (by rw [List.getElem?_set_self hi]) (j := 1) (by decide) (v := .int .i64 y.jo) rfl
  have h2 := q4_set1 (y := ⟨y.fr, y.jo, y.be, q.en⟩) h1 (q := ⟨y.fr, y.jo, q.be, q.en⟩) (by rw [List.getElem?_set_self (by simpa using hi)]) (j := 2) (by decide) (v := .int .i64 y.be) rfl
  have h3 := q4_set1 (y := y) h2 (q := ⟨y.fr, y.jo, y.be, q.en⟩) (by rw [List.getElem?_set_self (by simpa using hi)]) (j := 3) (by decide) (v := .int .i64 y.en) rfl
  simp only [List.set_set] at h3
  exact h3
end
end Go.Proofs.Ytibgfkjhohgkhaa.Ty
