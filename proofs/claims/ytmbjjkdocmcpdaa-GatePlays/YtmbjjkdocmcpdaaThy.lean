/- Who waits where, as plain lists: the gate at which one waits, how many wait; no program. -/
import Derived.Test.YtmbjjkdocmcpdaaDrp
namespace Go.Proofs.Ytmbjjkdocmcpdaa
set_option linter.unusedVariables false
/-- Nobody waits twice, and nobody at two gates. -/
structure Ok (W : Nat → List Int) : Prop where
  nd : ∀ i, i < 256 → (W i).Nodup
  dj : ∀ i j x, i < 256 → j < 256 → x ∈ W i → x ∈ W j → i = j
  wf : ∀ i x, i < 256 → x ∈ W i → W64 x
def loc (W : Nat → List Int) (x : Int) : Option Nat := (List.range 256).find? (fun i => decide (x ∈ W i))
def locv (W : Nat → List Int) (x : Int) : Option Value := (loc W x).map (fun i : Nat => Value.int .i64 (i : Int))
def locI (W : Nat → List Int) (x : Int) : Int := match loc W x with | some i => (i : Int) | none => 0
def sumN (f : Nat → Nat) : Nat → Nat
  | 0 => 0
  | n + 1 => sumN f n + f n
def tot (W : Nat → List Int) : Nat := sumN (fun i => (W i).length) 256
theorem loc_none {W : Nat → List Int} {x : Int} : loc W x = none ↔ ∀ i, i < 256 → ¬ x ∈ W i := by
  unfold loc
  rw [List.find?_eq_none]
  simp
theorem loc_some {W : Nat → List Int} (h : Ok W) {x : Int} {i : Nat} : loc W x = some i ↔ i < 256 ∧ x ∈ W i := by
  constructor
  · intro e
    have h1 := List.find?_some e
    have h2 := List.mem_of_find?_eq_some e
    exact ⟨by simpa using h2, by simpa using h1⟩
  · intro ⟨h1, h2⟩
    cases e : loc W x with
    | none => exact absurd h2 (loc_none.1 e i h1)
    | some j =>
      have h3 := List.find?_some e
      have h4 := List.mem_of_find?_eq_some e
      rw [h.dj j i x (by simpa using h4) h1 (by simpa using h3) h2]
theorem loc_ext {W V : Nat → List Int} (hW : Ok W) (hV : Ok V) {x y : Int} (h : ∀ i, i < 256 → (x ∈ W i ↔ y ∈ V i)) : loc W x = loc V y := by
  cases e : loc W x with
  | none =>
    rw [loc_none] at e
    exact (loc_none.2 (fun i hi hy => e i hi ((h i hi).2 hy))).symm
  | some i =>
    have := (loc_some hW).1 e
    exact ((loc_some hV).2 ⟨this.1, (h i this.1).1 this.2⟩).symm
theorem sumN_ext {f g : Nat → Nat} : ∀ {n : Nat}, (∀ i, i < n → f i = g i) → sumN f n = sumN g n
  | 0, _ => rfl
  | n + 1, h => by
    simp only [sumN]
    rw [sumN_ext (fun i hi => h i (by omega)), h n (by omega)]
theorem sumN_fup (f : Nat → Nat) (i v : Nat) : ∀ {n : Nat}, i < n → sumN (fup f i v) n + f i = sumN f n + v
  | 0, h => absurd h (Nat.not_lt_zero _)
  | n + 1, h => by
    simp only [sumN]
    by_cases e : i = n
    · subst e
      have e1 : sumN (fup f i v) i = sumN f i := sumN_ext (fun j hj => fup_other f v (by omega))
      rw [fup_same, e1]
      omega
    · have := sumN_fup f i v (n := n) (by omega)
      rw [fup_other f v (by omega)]
      omega
theorem sumN_le (f : Nat → Nat) {i : Nat} : ∀ {n : Nat}, i < n → f i ≤ sumN f n
  | 0, h => absurd h (Nat.not_lt_zero _)
  | n + 1, h => by
    simp only [sumN]
    by_cases e : i = n
    · subst e; omega
    · have := sumN_le f (i := i) (n := n) (by omega); omega
theorem len_fup (W : Nat → List Int) (i : Nat) (l : List Int) : (fun j => (fup W i l j).length) = fup (fun j => (W j).length) i l.length := by
  funext j
  by_cases e : j = i
  · subst e; simp [fup]
  · simp [fup, e]
theorem tot_fup (W : Nat → List Int) {i : Nat} (hi : i < 256) (l : List Int) : tot (fup W i l) + (W i).length = tot W + l.length := by
  unfold tot
  rw [len_fup]
  exact sumN_fup (fun j => (W j).length) i l.length hi
theorem tot_le (W : Nat → List Int) {i : Nat} (hi : i < 256) : (W i).length ≤ tot W := sumN_le (fun j => (W j).length) hi
theorem tot_ext {W V : Nat → List Int} (h : ∀ i, i < 256 → W i = V i) : tot W = tot V := sumN_ext (fun i hi => by rw [h i hi])
theorem locv_ext {W V : Nat → List Int} (hW : Ok W) (hV : Ok V) (h : ∀ i, i < 256 → W i = V i) (x : Int) : locv W x = locv V x := by
  unfold locv
  rw [loc_ext hW hV (fun i hi => by rw [h i hi])]
theorem fup_mem {W : Nat → List Int} {i j : Nat} {l : List Int} {x : Int} : x ∈ fup W i l j ↔ (j = i ∧ x ∈ l) ∨ (j ≠ i ∧ x ∈ W j) := by
  by_cases e : j = i
  · subst e; simp [fup]
  · simp [fup, e]
/-- Somebody more waits. -/
theorem Ok.put {W : Nat → List Int} (h : Ok W) {i : Nat} (hi : i < 256) {x : Int} (hx : W64 x) (hn : loc W x = none) : Ok (fup W i (W i ++ [x])) := by
  rw [loc_none] at hn
  refine ⟨fun j hj => ?_, fun a b y ha hb h1 h2 => ?_, fun j y hj hy => ?_⟩
  · by_cases e : j = i
    · subst e; rw [fup_same]; exact nd_snoc (h.nd j hj) (hn j hj)
    · rw [fup_other _ _ e]; exact h.nd j hj
  · rw [fup_mem] at h1 h2
    rcases h1 with ⟨e1, h1⟩ | ⟨e1, h1⟩ <;> rcases h2 with ⟨e2, h2⟩ | ⟨e2, h2⟩
    · omega
    · rcases List.mem_append.1 h1 with h1 | h1
      · exact absurd (h.dj i b y hi hb h1 h2) (fun e => e2 e.symm)
      · simp only [List.mem_singleton] at h1; subst h1; exact absurd h2 (hn b hb)
    · rcases List.mem_append.1 h2 with h2 | h2
      · exact absurd (h.dj i a y hi ha h2 h1) (fun e => e1 e.symm)
      · simp only [List.mem_singleton] at h2; subst h2; exact absurd h1 (hn a ha)
    · exact h.dj a b y ha hb h1 h2
  · rw [fup_mem] at hy
    rcases hy with ⟨e, hy⟩ | ⟨e, hy⟩
    · rcases List.mem_append.1 hy with hy | hy
      · exact h.wf i y hi hy
      · simp only [List.mem_singleton] at hy; subst hy; exact hx
    · exact h.wf j y hj hy
/-- Some wait no more. -/
theorem Ok.less {W : Nat → List Int} (h : Ok W) {i : Nat} (hi : i < 256) {l : List Int} (hl : l.Sublist (W i)) : Ok (fup W i l) := by
  have hs : ∀ a y, a < 256 → y ∈ fup W i l a → y ∈ W a := fun a y ha hy => by
    rw [fup_mem] at hy
    rcases hy with ⟨e, hy⟩ | ⟨e, hy⟩
    · rw [e]; exact hl.subset hy
    · exact hy
  refine ⟨fun j hj => ?_, fun a b y ha hb h1 h2 => h.dj a b y ha hb (hs a y ha h1) (hs b y hb h2), fun j y hj hy => h.wf j y hj (hs j y hj hy)⟩
  by_cases e : j = i
  · subst e; rw [fup_same]; exact (h.nd j hj).sublist hl
  · rw [fup_other _ _ e]; exact h.nd j hj
theorem locv_put {W : Nat → List Int} (h : Ok W) {i : Nat} (hi : i < 256) {x : Int} (hx : W64 x) (hn : loc W x = none) (k : Int) : upd (locv W) x (.int .i64 (i : Int)) k = locv (fup W i (W i ++ [x])) k := by
  have h2 := h.put hi hx hn
  unfold upd
  split
  · rename_i e
    subst e
    unfold locv
    rw [(loc_some h2).2 ⟨hi, by rw [fup_same]; simp⟩]
    rfl
  · rename_i e
    unfold locv
    rw [loc_ext h h2 (fun j hj => ?_)]
    rw [fup_mem]
    constructor
    · intro hk
      by_cases e1 : j = i
      · exact Or.inl ⟨e1, by rw [← e1]; exact List.mem_append.2 (Or.inl hk)⟩
      · exact Or.inr ⟨e1, hk⟩
    · rintro (⟨e1, hk⟩ | ⟨e1, hk⟩)
      · rcases List.mem_append.1 hk with hk | hk
        · rw [e1]; exact hk
        · simp only [List.mem_singleton] at hk; exact absurd hk e
      · exact hk
theorem out_mem {xs : List Int} {x y : Int} : y ∈ out xs x ↔ y ∈ xs ∧ y ≠ x := by simp [out]
theorem out_sub (xs : List Int) (x : Int) : (out xs x).Sublist xs := List.filter_sublist
theorem locv_out {W : Nat → List Int} (h : Ok W) {i : Nat} (hi : i < 256) {x : Int} (hx : x ∈ W i) (k : Int) : del (locv W) x k = locv (fup W i (out (W i) x)) k := by
  have h2 := h.less hi (out_sub (W i) x)
  unfold del
  split
  · rename_i e
    subst e
    unfold locv
    rw [loc_none.2 (fun j hj hk => ?_)]
    · rfl
    · rw [fup_mem] at hk
      rcases hk with ⟨e1, hk⟩ | ⟨e1, hk⟩
      · exact (out_mem.1 hk).2 rfl
      · exact e1 (h.dj j i k hj hi hk hx)
  · rename_i e
    unfold locv
    rw [loc_ext h h2 (fun j hj => ?_)]
    rw [fup_mem]
    constructor
    · intro hk
      by_cases e1 : j = i
      · exact Or.inl ⟨e1, out_mem.2 ⟨by rw [← e1]; exact hk, e⟩⟩
      · exact Or.inr ⟨e1, hk⟩
    · rintro (⟨e1, hk⟩ | ⟨e1, hk⟩)
      · rw [e1]; exact (out_mem.1 hk).1
      · exact hk
theorem out_head {x : Int} {r : List Int} (h : (x :: r).Nodup) : out (x :: r) x = r := by
  have := out_erase h (p := 0) (by simp)
  simpa using this.symm
theorem out_len {xs : List Int} (h : xs.Nodup) {x : Int} (hx : x ∈ xs) : (out xs x).length + 1 = xs.length := by
  obtain ⟨p, hp, rfl⟩ := List.getElem_of_mem hx
  rw [← out_erase h hp, List.length_eraseIdx_of_lt hp]
  omega
end Go.Proofs.Ytmbjjkdocmcpdaa
