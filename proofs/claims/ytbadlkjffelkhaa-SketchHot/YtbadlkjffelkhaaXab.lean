/- The law SketchAbove's plain side and its walk; no conditions. -/
import Derived.Test.YtbadlkjffelkhaaXaw
import Derived.Test.YtbadlkjffelkhaaXop
namespace Go.Proofs.Ytbadlkjffelkhaa.Sk
open Go.RowKit Go.Maps Go.ChangeMaps
set_option maxRecDepth 100000
set_option linter.unusedVariables false
set_option linter.unusedSimpArgs false
/-- A key is counted, where it may be. -/
def addK (X : S) (k : K) : S := if k.2.size ≤ 64 then addS X (hK k) else X
def adds (X : S) (l : List K) : S := l.foldl addK X
theorem adds_snoc (X : S) (l : List K) (k : K) : adds X (l ++ [k]) = addK (adds X l) k := by simp [adds]
theorem addC_le1 (X : S) (h n : Nat) : ∀ k i p, addC X h n k i p ≤ X.c i p + 1 := by
  intro k
  induction k with
  | zero => intro i p; exact Nat.le_succ _
  | succ k ih =>
    intro i p
    simp only [addC]
    split
    · rename_i he
      unfold upd
      split
      · rename_i e; rw [e.1, e.2, he]; exact Nat.le_refl _
      · exact ih i p
    · exact ih i p
theorem cnt_up (X : S) (h g : Nat) : cnt (addS X h) g ≤ cnt X g + 1 := by
  by_cases h5 : cnt X g = 255
  · have := cnt_le (addS X h) g
    omega
  · have hl := cnt_le X g
    obtain ⟨i, hi, he⟩ := cntG_hit X g X.r (by show cnt X g < 255; omega)
    have h1 : cnt (addS X h) g ≤ at_ (addS X h) g i := cntG_at (addS X h) g X.r i hi
    have h2 : at_ (addS X h) g i ≤ at_ X g i + 1 := by
      show (if cnt X h = 255 then X.c else addC X h (cnt X h) X.r) i (plc X.b g i) ≤ X.c i (plc X.b g i) + 1
      split
      · exact Nat.le_succ _
      · exact addC_le1 X h _ _ _ _
    have h3 : at_ X g i = cnt X g := he
    omega
/-- How many keys may be. -/
def good : List K → Nat
  | [] => 0
  | k :: l => (if k.2.size ≤ 64 then 1 else 0) + good l
theorem good_snoc (l : List K) (k : K) : good (l ++ [k]) = good l + (if k.2.size ≤ 64 then 1 else 0) := by
  induction l with
  | nil => simp [good]
  | cons a l ih => simp only [List.cons_append, good, ih]; omega
theorem good_le (l : List K) : good l ≤ l.length := by
  induction l with
  | nil => simp [good]
  | cons a l ih => simp only [good, List.length_cons]; split <;> omega
theorem snoc_ind {P : List K → Prop} (h0 : P []) (h1 : ∀ l k, P l → P (l ++ [k])) : ∀ l, P l := by
  intro l
  have : ∀ m : List K, P m.reverse := by
    intro m
    induction m with
    | nil => simpa using h0
    | cons a m ih => rw [List.reverse_cons]; exact h1 _ _ ih
  have := this l.reverse
  simpa using this
theorem adds_up (r b : Nat) (hr : 1 ≤ r) (g : Nat) (l : List K) : cnt (adds (newS r b) l) g ≤ good l := by
  refine snoc_ind (P := fun l => cnt (adds (newS r b) l) g ≤ good l) ?_ ?_ l
  · show cnt (newS r b) g ≤ 0
    rw [cnt_new hr]; exact Nat.le_refl _
  · intro l k ih
    rw [adds_snoc, good_snoc]
    unfold addK
    split
    · have := cnt_up (adds (newS r b) l) (hK k) g
      omega
    · exact ih
/-- How often a key stands in a list. -/
def often (k : K) : List K → Nat
  | [] => 0
  | x :: l => (if x = k then 1 else 0) + often k l
theorem often_snoc (k : K) (l : List K) (x : K) : often k (l ++ [x]) = often k l + (if x = k then 1 else 0) := by
  induction l with
  | nil => simp [often]
  | cons a l ih => simp only [List.cons_append, often, ih]; omega
theorem often_le (k : K) (l : List K) : often k l ≤ l.length := by
  induction l with
  | nil => simp [often]
  | cons a l ih => simp only [often, List.length_cons]; split <;> omega
theorem adds_down (X : S) (k : K) (h64 : k.2.size ≤ 64) (l : List K) : min (often k l) 255 ≤ cnt (adds X l) (hK k) := by
  refine snoc_ind (P := fun l => min (often k l) 255 ≤ cnt (adds X l) (hK k)) ?_ ?_ l
  · simp [often]
  · intro l x ih
    rw [adds_snoc, often_snoc]
    by_cases e : x = k
    · subst e
      unfold addK
      rw [if_pos h64, if_pos rfl, cnt_addS]
      unfold addV
      have := cnt_le (adds X l) (hK x)
      split <;> omega
    · rw [if_neg e, Nat.add_zero]
      unfold addK
      split
      · exact Nat.le_trans ih (cnt_mono _ _ _)
      · exact ih
theorem adds_wf {X : S} (h : Wf X) (l : List K) : Wf (adds X l) := by
  refine snoc_ind (P := fun l => Wf (adds X l)) h ?_ l
  intro l k ih
  rw [adds_snoc]
  unfold addK
  split
  · exact addS_wf ih _
  · exact ih
theorem take_keys {ks : List K} {i : Nat} (h : i < ks.length) : ks.take (i + 1) = ks.take i ++ [ks[i]] := List.take_succ_eq_append_getElem h
/-! ### Keys handed in -/
theorem SlKyA.form {w : World} {v : Value} {xs : List KyA} (h : SlKyA w v xs) : ∃ a c, v = .slice a xs.length c := by
  rcases h with ⟨rfl, a, c, rfl⟩ | ⟨b, off, c, rfl, _⟩
  · exact ⟨a, c, rfl⟩
  · exact ⟨_, c, rfl⟩
theorem SlKyA.keep {w w' : World} {v : Value} {xs : List KyA} (h : SlKyA w v xs) (T : Touch [] w w') : SlKyA w' v xs := by
  rcases h with h | ⟨b, off, c, e, h⟩
  · exact Or.inl h
  · exact Or.inr ⟨b, off, c, e, h.keep T⟩
theorem SlKyA.cell {w : World} {a : Option Addr} {n c : Nat} {xs : List KyA} (h : SlKyA w (.slice a n c) xs) {i : Nat} (hi : i < xs.length) : ∃ b off, a = some ⟨b, off, none⟩ ∧ w.cell? ⟨b, off + i * 2, none⟩ = some (.int .u16 xs[i].key.1) ∧ w.cell? ⟨b, off + i * 2 + 1, none⟩ = some (.string xs[i].key.2) := by
  rcases h with ⟨rfl, _⟩ | ⟨b, off, c', e, h⟩
  · simp at hi
  · cases e
    exact ⟨b, off, rfl, h.c0 i hi, h.c1 i hi⟩
theorem same_bytes (s t : ByteArray) : (s.toList == t.toList) = decide (s = t) := by
  rw [ByteArray.toList_eq, ByteArray.toList_eq]
  by_cases h : s = t
  · subst h; simp
  · rw [decide_eq_false h]
    simp only [beq_eq_false_iff_ne, ne_eq]
    intro e
    apply h
    cases s; cases t
    simp only [Array.toList_inj] at e
    simp_all
theorem eqK (w : World) (x y : K) : (binOp .eql 43 (.agg #[.int .u16 x.1, .string x.2]) (.agg #[.int .u16 y.1, .string y.2])).run Try.prog w = .ok (.bool (decide (x = y))) w := by
  obtain ⟨a, s⟩ := x
  obtain ⟨b, t⟩ := y
  by_cases h1 : a = b
  · by_cases h2 : s = t
    · go_simp
    · have h3 : (s.toList == t.toList) = false := by rw [same_bytes]; exact decide_eq_false h2
      go_simp
  · go_simp
/-- May there be such a sketch? -/
def mayZ (r b : Int) : Bool := decide (1 ≤ r) && decide (r ≤ 8) && decide (0 ≤ b) && decide (b ≤ 16)
theorem mayZ_iff (r b : Int) : mayZ r b = true ↔ 1 ≤ r ∧ r ≤ 8 ∧ 0 ≤ b ∧ b ≤ 16 := by simp [mayZ, and_assoc]
theorem may_ (r b : Int) (w : World) : Calls Try.prog 21 #[.int .i64 r, .int .i64 b] w fun e w' => e = .returned (.bool (mayZ r b)) ∧ w' = w := by
  by_cases h1 : 1 ≤ r
  · by_cases h2 : r ≤ 8
    · by_cases h3 : 0 ≤ b
      · by_cases h4 : b ≤ 16
        · rw [show mayZ r b = true from (mayZ_iff r b).2 ⟨h1, h2, h3, h4⟩]
          go_enter Try.func21, Try.ntmps21
          go_wp2
          go_ret
          exact ⟨rfl, rfl⟩
        · rw [show mayZ r b = false by simp [mayZ]; omega]
          go_enter Try.func21, Try.ntmps21
          go_wp2
          go_ret
          exact ⟨rfl, rfl⟩
      · rw [show mayZ r b = false by simp [mayZ]; omega]
        go_enter Try.func21, Try.ntmps21
        go_wp2
        go_ret
        exact ⟨rfl, rfl⟩
    · rw [show mayZ r b = false by simp [mayZ]; omega]
      go_enter Try.func21, Try.ntmps21
      go_wp2
      go_ret
      exact ⟨rfl, rfl⟩
  · rw [show mayZ r b = false by simp [mayZ]; omega]
    go_enter Try.func21, Try.ntmps21
    go_wp2
    go_ret
    exact ⟨rfl, rfl⟩
end Go.Proofs.Ytbadlkjffelkhaa.Sk
