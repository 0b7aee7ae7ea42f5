/- A plain sketch: rows of counters as a function, a key's places, its count, and what counting, halving and merging make of it, with no Go in sight. No conditions but those that each states. -/
import Derived.Test.YtbadlkjffelkhaaXnm
namespace Go.Proofs.Ytbadlkjffelkhaa.Sk
set_option linter.unusedVariables false
/-- A key's place in a row, by its hash. -/
def plc (b h i : Nat) : Nat := if b = 0 then 0 else foldG (mixN ((h + i * 11400714819323198485) % 18446744073709551616)) b 64
theorem plc_lt (b h i : Nat) : plc b h i < 2 ^ b := by
  unfold plc
  split
  · exact Nat.two_pow_pos b
  · exact foldG_bits _ _ _ (by omega)
structure S where
  r : Nat
  b : Nat
  c : Nat → Nat → Nat
  t : Nat
structure Wf (X : S) : Prop where
  r1 : 1 ≤ X.r
  r2 : X.r ≤ 8
  b2 : X.b ≤ 16
  c2 : ∀ i p, X.c i p ≤ 255
  t2 : X.t < 18446744073709551616
def at_ (X : S) (h i : Nat) : Nat := X.c i (plc X.b h i)
def cntG (X : S) (h : Nat) : Nat → Nat
  | 0 => 255
  | k + 1 => min (cntG X h k) (at_ X h k)
def cnt (X : S) (h : Nat) : Nat := cntG X h X.r
theorem cntG_le (X : S) (h k : Nat) : cntG X h k ≤ 255 := by
  induction k with
  | zero => simp [cntG]
  | succ k ih => simp only [cntG]; omega
theorem cnt_le (X : S) (h : Nat) : cnt X h ≤ 255 := cntG_le X h X.r
theorem cntG_at (X : S) (h : Nat) : ∀ k i, i < k → cntG X h k ≤ at_ X h i := by
  intro k
  induction k with
  | zero => intro i hi; omega
  | succ k ih =>
    intro i hi
    simp only [cntG]
    rcases Nat.lt_or_ge i k with e | e
    · have := ih i e; omega
    · obtain rfl : i = k := by omega
      omega
theorem cntG_ge (X : S) (h n : Nat) (hn : n ≤ 255) : ∀ k, (∀ i, i < k → n ≤ at_ X h i) → n ≤ cntG X h k := by
  intro k
  induction k with
  | zero => intro _; exact hn
  | succ k ih =>
    intro ha
    have h1 := ih (fun i hi => ha i (by omega))
    have h2 := ha k (by omega)
    simp only [cntG]; omega
theorem cntG_hit (X : S) (h : Nat) : ∀ k, cntG X h k < 255 → ∃ i, i < k ∧ at_ X h i = cntG X h k := by
  intro k
  induction k with
  | zero => intro hl; simp [cntG] at hl
  | succ k ih =>
    intro hl
    simp only [cntG] at hl ⊢
    rcases Nat.lt_or_ge (at_ X h k) (cntG X h k) with e | e
    · exact ⟨k, by omega, by omega⟩
    · obtain ⟨i, hi, he⟩ := ih (by omega)
      exact ⟨i, by omega, by omega⟩
/-- One counter put to a value. -/
def upd (c : Nat → Nat → Nat) (i p v : Nat) : Nat → Nat → Nat := fun j q => if j = i ∧ q = p then v else c j q
theorem upd_same (c : Nat → Nat → Nat) (i p v : Nat) : upd c i p v i p = v := by simp [upd]
theorem upd_row (c : Nat → Nat → Nat) (i p v j q : Nat) (h : j ≠ i) : upd c i p v j q = c j q := by simp [upd, h]
/-- The first k rows' counters of a key that are n go on by one. -/
def addC (X : S) (h n : Nat) : Nat → Nat → Nat → Nat
  | 0 => X.c
  | k + 1 => if X.c k (plc X.b h k) = n then upd (addC X h n k) k (plc X.b h k) (n + 1) else addC X h n k
theorem addC_row (X : S) (h n : Nat) : ∀ k i p, k ≤ i → addC X h n k i p = X.c i p := by
  intro k
  induction k with
  | zero => intro i p _; rfl
  | succ k ih =>
    intro i p hi
    simp only [addC]
    split
    · rw [upd_row _ _ _ _ _ _ (by omega)]; exact ih i p (by omega)
    · exact ih i p (by omega)
theorem addC_at (X : S) (h n : Nat) : ∀ k i, i < k → addC X h n k i (plc X.b h i) = if X.c i (plc X.b h i) = n then n + 1 else X.c i (plc X.b h i) := by
  intro k
  induction k with
  | zero => intro i hi; omega
  | succ k ih =>
    intro i hi
    simp only [addC]
    rcases Nat.lt_or_ge i k with e | e
    · split
      · rw [upd_row _ _ _ _ _ _ (by omega)]; exact ih i e
      · exact ih i e
    · obtain rfl : i = k := by omega
      by_cases hc : X.c i (plc X.b h i) = n
      · rw [if_pos hc, upd_same, if_pos hc]
      · rw [if_neg hc, if_neg hc]; exact addC_row X h n i i _ (Nat.le_refl _)
theorem addC_le (X : S) (h n : Nat) (hn : n < 255) (hc : ∀ i p, X.c i p ≤ 255) : ∀ k i p, addC X h n k i p ≤ 255 := by
  intro k
  induction k with
  | zero => exact hc
  | succ k ih =>
    intro i p
    simp only [addC]
    split
    · unfold upd
      split
      · omega
      · exact ih i p
    · exact ih i p
theorem addC_ge (X : S) (h n : Nat) : ∀ k i p, X.c i p ≤ addC X h n k i p := by
  intro k
  induction k with
  | zero => intro i p; exact Nat.le_refl _
  | succ k ih =>
    intro i p
    simp only [addC]
    split
    · rename_i he
      unfold upd
      split
      · rename_i e; rw [e.1, e.2, he]; omega
      · exact ih i p
    · exact ih i p
/-- A key is counted once more. -/
def addS (X : S) (h : Nat) : S := { X with c := if cnt X h = 255 then X.c else addC X h (cnt X h) X.r, t := (X.t + 1) % 18446744073709551616 }
def addV (X : S) (h : Nat) : Nat := if cnt X h = 255 then 255 else cnt X h + 1
theorem addV_le (X : S) (h : Nat) : addV X h ≤ 255 := by
  have := cnt_le X h
  unfold addV
  split <;> omega
theorem addS_wf {X : S} (hX : Wf X) (h : Nat) : Wf (addS X h) := by
  refine ⟨hX.r1, hX.r2, hX.b2, fun i p => ?_, Nat.mod_lt _ (by omega)⟩
  show (if cnt X h = 255 then X.c else addC X h (cnt X h) X.r) i p ≤ 255
  have := cnt_le X h
  split
  · exact hX.c2 i p
  · exact addC_le X h _ (by omega) hX.c2 _ i p
/-- The count behind the counting. -/
theorem cnt_addS {X : S} (h : Nat) : cnt (addS X h) h = addV X h := by
  unfold addV
  by_cases h5 : cnt X h = 255
  · rw [if_pos h5]
    have e : ∀ k, cntG (addS X h) h k = cntG X h k := by
      intro k
      induction k with
      | zero => rfl
      | succ k ih =>
        simp only [cntG, ih]
        show min _ ((if cnt X h = 255 then X.c else _) k (plc X.b h k)) = _
        rw [if_pos h5]; rfl
    show cntG (addS X h) h X.r = 255
    rw [e]; exact h5
  · rw [if_neg h5]
    have hl := cnt_le X h
    have ha : ∀ i, i < X.r → at_ (addS X h) h i = if at_ X h i = cnt X h then cnt X h + 1 else at_ X h i := by
      intro i hi
      show (if cnt X h = 255 then X.c else addC X h (cnt X h) X.r) i (plc X.b h i) = _
      rw [if_neg h5, addC_at X h (cnt X h) X.r i hi]; rfl
    obtain ⟨i, hi, he⟩ := cntG_hit X h X.r (by show cnt X h < 255; omega)
    have h1 : cnt (addS X h) h ≤ cnt X h + 1 := by
      have := cntG_at (addS X h) h X.r i hi
      rw [ha i hi, if_pos (show at_ X h i = cnt X h from he)] at this
      exact this
    have h2 : cnt X h + 1 ≤ cnt (addS X h) h := by
      refine cntG_ge (addS X h) h _ (by omega) X.r fun j hj => ?_
      rw [ha j hj]
      have hm : cnt X h ≤ at_ X h j := cntG_at X h X.r j hj
      split <;> omega
    omega
/-- No count goes down by a counting. -/
theorem cnt_mono (X : S) (h g : Nat) : cnt X g ≤ cnt (addS X h) g := by
  refine cntG_ge (addS X h) g _ (cnt_le X g) X.r fun j hj => ?_
  have hm : cnt X g ≤ at_ X g j := cntG_at X g X.r j hj
  refine Nat.le_trans hm ?_
  show X.c j (plc X.b g j) ≤ (if cnt X h = 255 then X.c else addC X h (cnt X h) X.r) j (plc X.b g j)
  split
  · exact Nat.le_refl _
  · exact addC_ge X h _ _ _ _
def halveS (X : S) : S := { X with c := fun i p => X.c i p / 2, t := X.t / 2 }
theorem halveS_wf {X : S} (hX : Wf X) : Wf (halveS X) :=
  ⟨hX.r1, hX.r2, hX.b2, fun i p => by show X.c i p / 2 ≤ 255; have := hX.c2 i p; omega, by show X.t / 2 < _; have := hX.t2; omega⟩
def mergeS (X Y : S) : S := { X with c := fun i p => min (X.c i p + Y.c i p) 255, t := (X.t + Y.t) % 18446744073709551616 }
theorem mergeS_wf {X Y : S} (hX : Wf X) : Wf (mergeS X Y) :=
  ⟨hX.r1, hX.r2, hX.b2, fun i p => Nat.min_le_right _ _, Nat.mod_lt _ (by omega)⟩
def newS (r b : Nat) : S := ⟨r, b, fun _ _ => 0, 0⟩
theorem newS_wf {r b : Nat} (h1 : 1 ≤ r) (h2 : r ≤ 8) (h3 : b ≤ 16) : Wf (newS r b) := ⟨h1, h2, h3, fun _ _ => by show 0 ≤ 255; omega, by show 0 < _; omega⟩
/-- How many counters there are. -/
def S.n (X : S) : Nat := X.r * 2 ^ X.b
theorem pow_le16 {b : Nat} (h : b ≤ 16) : 2 ^ b ≤ 65536 := Nat.pow_le_pow_right (n := 2) (by decide) h
theorem Wf.n_le {X : S} (h : Wf X) : X.n ≤ 524288 := by
  have h1 := pow_le16 h.b2
  have h2 := h.r2
  have := Nat.mul_le_mul h2 h1
  exact this
theorem Wf.n_pos {X : S} (h : Wf X) : 0 < X.n := Nat.mul_pos h.r1 (Nat.two_pow_pos _)
theorem idx_lt {r b i p : Nat} (hi : i < r) (hp : p < 2 ^ b) : i * 2 ^ b + p < r * 2 ^ b := by
  have : (i + 1) * 2 ^ b ≤ r * 2 ^ b := Nat.mul_le_mul_right _ hi
  rw [Nat.succ_mul] at this
  omega
theorem idx_div {b i p : Nat} (hp : p < 2 ^ b) : (i * 2 ^ b + p) / 2 ^ b = i := by
  rw [Nat.add_comm, Nat.add_mul_div_right _ _ (Nat.two_pow_pos b), Nat.div_eq_of_lt hp, Nat.zero_add]
theorem idx_mod {b i p : Nat} (hp : p < 2 ^ b) : (i * 2 ^ b + p) % 2 ^ b = p := by
  rw [Nat.add_comm, Nat.add_mul_mod_self_right, Nat.mod_eq_of_lt hp]
/-- The counters, row behind row. -/
def flat (b n : Nat) (c : Nat → Nat → Nat) : List Value := (List.range n).map fun j => .int .u8 (c (j / 2 ^ b) (j % 2 ^ b) : Nat)
theorem flat_len (b n : Nat) (c : Nat → Nat → Nat) : (flat b n c).length = n := by simp [flat]
theorem flat_at {b n j : Nat} (c : Nat → Nat → Nat) (h : j < n) : (flat b n c)[j]? = some (.int .u8 (c (j / 2 ^ b) (j % 2 ^ b) : Nat)) := by simp [flat, h]
theorem flat_set {b n j v : Nat} (c : Nat → Nat → Nat) (h : j < n) : (flat b n c).set j (.int .u8 (v : Nat)) = flat b n (upd c (j / 2 ^ b) (j % 2 ^ b) v) := by
  refine List.ext_getElem? fun q => ?_
  rw [List.getElem?_set]
  by_cases e : j = q
  · subst e
    simp [flat, h, upd_same]
  · rw [if_neg e]
    by_cases hq : q < n
    · have hne : ¬ (q / 2 ^ b = j / 2 ^ b ∧ q % 2 ^ b = j % 2 ^ b) := fun ⟨h1, h2⟩ => e (by
        rw [← Nat.div_add_mod j (2 ^ b), ← Nat.div_add_mod q (2 ^ b), h1, h2])
      rw [flat_at c hq, flat_at _ hq]
      simp [upd, hne]
    · rw [List.getElem?_eq_none (by rw [flat_len]; omega), List.getElem?_eq_none (by rw [flat_len]; omega)]
/-- One row of the document's. -/
def rowv (b : Nat) (f : Nat → Nat) : List Value := (List.range (2 ^ b)).map fun p => .int .i64 (f p : Nat)
theorem rowv_len (b : Nat) (f : Nat → Nat) : (rowv b f).length = 2 ^ b := by simp [rowv]
theorem rowv_at {b p : Nat} (f : Nat → Nat) (h : p < 2 ^ b) : (rowv b f)[p]? = some (.int .i64 (f p : Nat)) := by simp [rowv, h]
theorem rowv_set {b p v : Nat} (f : Nat → Nat) (h : p < 2 ^ b) : (rowv b f).set p (.int .i64 (v : Nat)) = rowv b (fun q => if q = p then v else f q) := by
  refine List.ext_getElem? fun q => ?_
  rw [List.getElem?_set]
  by_cases e : p = q
  · subst e
    simp [rowv, h]
  · rw [if_neg e]
    by_cases hq : q < 2 ^ b
    · rw [rowv_at f hq, rowv_at _ hq]
      rw [if_neg (show ¬ q = p from fun h => e h.symm)]
    · rw [List.getElem?_eq_none (by rw [rowv_len]; omega), List.getElem?_eq_none (by rw [rowv_len]; omega)]
theorem rowv_congr {b : Nat} {f g : Nat → Nat} (h : ∀ p, p < 2 ^ b → f p = g p) : rowv b f = rowv b g := by
  unfold rowv
  refine List.map_congr_left fun p hp => ?_
  rw [h p (by simpa using hp)]
theorem flat_congr {b n : Nat} {f g : Nat → Nat → Nat} (h : ∀ j, j < n → f (j / 2 ^ b) (j % 2 ^ b) = g (j / 2 ^ b) (j % 2 ^ b)) : flat b n f = flat b n g := by
  unfold flat
  refine List.map_congr_left fun p hp => ?_
  rw [h p (by simpa using hp)]
end Go.Proofs.Ytbadlkjffelkhaa.Sk
