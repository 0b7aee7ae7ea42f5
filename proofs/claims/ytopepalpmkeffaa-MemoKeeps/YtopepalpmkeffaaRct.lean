/- The keys that were used last, read backwards off the list of uses; what a memo keeps against them; no conditions. -/
import Derived.Test.YtopepalpmkeffaaTel
import Derived.Test.YtopepalpmkeffaaOpa
namespace Go.Proofs.Ytopepalpmkeffaa
open Go.RowKit Go.Sort Go.Maps Go.ChangeMaps Go.WideMaps
set_option linter.unusedVariables false
set_option linter.unusedSimpArgs false
def addK (s : List K) (k : K) : List K := if hs s k then s else s ++ [k]
theorem addK_in {s : List K} {k : K} (h : k ∈ s) : addK s k = s := by unfold addK; rw [hs_yes h]; rfl
theorem addK_out {s : List K} {k : K} (h : ¬ k ∈ s) : addK s k = s ++ [k] := by unfold addK; rw [hs_no h]; rfl
/-- Keys are seen one by one till there are e of them. -/
def sc (e : Nat) : List K → List K → List K
  | [], s => s
  | k :: l, s => if s.length < e then sc e l (addK s k) else s
theorem addK_nd {s : List K} {k : K} (h : s.Nodup) : (addK s k).Nodup := by
  by_cases hk : k ∈ s
  · rw [addK_in hk]; exact h
  · rw [addK_out hk, List.nodup_append]
    exact ⟨h, by simp, fun a ha b hb e => hk (by simp only [List.mem_singleton] at hb; rw [← hb, ← e]; exact ha)⟩
theorem addK_len {s : List K} {k : K} : (addK s k).length ≤ s.length + 1 := by
  by_cases hk : k ∈ s
  · rw [addK_in hk]; omega
  · rw [addK_out hk]; simp
theorem addK_pre (s : List K) (k : K) : s <+: addK s k := by
  by_cases hk : k ∈ s
  · rw [addK_in hk]; exact List.prefix_refl _
  · rw [addK_out hk]; exact List.prefix_append _ _
theorem sc_pre (e : Nat) : ∀ (l s : List K), s <+: sc e l s
  | [], s => List.prefix_refl _
  | k :: l, s => by
    unfold sc
    split
    · exact (addK_pre s k).trans (sc_pre e l _)
    · exact List.prefix_refl _
theorem sc_nd (e : Nat) : ∀ (l s : List K), s.Nodup → (sc e l s).Nodup
  | [], s, h => h
  | k :: l, s, h => by
    unfold sc
    split
    · exact sc_nd e l _ (addK_nd h)
    · exact h
theorem sc_full {e : Nat} {l s : List K} (h : e ≤ s.length) : sc e l s = s := by
  cases l with
  | nil => rfl
  | cons k l => unfold sc; rw [if_neg (by omega)]
def frt (k : K) (s : List K) : List K := k :: s.filter (fun x => decide (x ≠ k))
theorem flt_no {k : K} {s : List K} (h : ¬ k ∈ s) : s.filter (fun x => decide (x ≠ k)) = s := by
  rw [List.filter_eq_self]
  intro a ha
  exact decide_eq_true (fun e => h (e ▸ ha))
theorem frt_len_in {k : K} {s : List K} (hn : s.Nodup) (h : k ∈ s) : (frt k s).length = s.length := by
  have := dr_len_mem hn h
  unfold dr at this
  unfold frt
  simp only [List.length_cons]
  omega
theorem frt_len_out {k : K} {s : List K} (h : ¬ k ∈ s) : (frt k s).length = s.length + 1 := by
  unfold frt
  rw [flt_no h]
  rfl
theorem frt_mem {k j : K} {s : List K} : j ∈ frt k s ↔ j = k ∨ j ∈ s := by
  unfold frt
  simp only [List.mem_cons, List.mem_filter, ne_eq, decide_not, Bool.not_eq_true', decide_eq_false_iff_not]
  constructor
  · rintro (h | h)
    · exact Or.inl h
    · exact Or.inr h.1
  · rintro (h | h)
    · exact Or.inl h
    · by_cases e : j = k
      · exact Or.inl e
      · exact Or.inr ⟨h, e⟩
theorem frt_add {k j : K} (s : List K) : frt k (addK s j) = addK (frt k s) j := by
  by_cases h : j ∈ s
  · rw [addK_in h, addK_in (frt_mem.2 (Or.inr h))]
  · rw [addK_out h]
    by_cases hj : j = k
    · rw [addK_in (frt_mem.2 (Or.inl hj))]
      unfold frt
      rw [List.filter_append]
      simp [hj]
    · rw [addK_out (fun hh => (frt_mem.1 hh).elim hj h)]
      unfold frt
      rw [List.filter_append]
      simp [hj]
theorem sc_front (e : Nat) (k : K) : ∀ (l s : List K), s.Nodup → s.length ≤ e → sc e l ((frt k s).take e) = (frt k (sc e l s)).take e
  | [], s, _, _ => rfl
  | j :: l, s, hn, hl => by
    by_cases hs : s.length < e
    · have hfl : (frt k s).length ≤ e := by
        by_cases hk : k ∈ s
        · rw [frt_len_in hn hk]; omega
        · rw [frt_len_out hk]; omega
      rw [List.take_of_length_le hfl]
      have e1 : sc e (j :: l) s = sc e l (addK s j) := by
        conv => lhs; unfold sc
        rw [if_pos hs]
      rw [e1]
      have ih := sc_front e k l (addK s j) (addK_nd hn) (by have := addK_len (s := s) (k := j); omega)
      by_cases hf : (frt k s).length < e
      · have e2 : sc e (j :: l) (frt k s) = sc e l (addK (frt k s) j) := by
          conv => lhs; unfold sc
          rw [if_pos hf]
        rw [e2, ← ih, ← frt_add]
        rw [List.take_of_length_le]
        rw [frt_add]
        have := addK_len (s := frt k s) (k := j)
        omega
      · have hk : ¬ k ∈ s := fun hk => by rw [frt_len_in hn hk] at hf; omega
        have hfe : (frt k s).length = e := by omega
        rw [sc_full (by omega)]
        obtain ⟨t, ht⟩ := (addK_pre s j).trans (sc_pre e l (addK s j))
        rw [← ht]
        have e3 : frt k (s ++ t) = frt k s ++ t.filter (fun x => decide (x ≠ k)) := by
          unfold frt
          rw [List.filter_append]
          rfl
        rw [e3, List.take_append_of_le_length (by omega), List.take_of_length_le (by omega)]
    · have hse : s.length = e := by omega
      have e1 : sc e (j :: l) s = s := sc_full (by omega)
      rw [e1]
      have hte : ((frt k s).take e).length = e := by
        rw [List.length_take]
        by_cases hk : k ∈ s
        · rw [frt_len_in hn hk]; omega
        · rw [frt_len_out hk]; omega
      exact sc_full (by omega)
theorem useL_rev {e : Nat} {ks : List K} (h : ks.length ≤ e) (k : K) : (useL (e : Int) ks k).reverse = (frt k ks.reverse).take e := by
  have h1 : (useY ks k).reverse = frt k ks.reverse := by
    unfold useY dr frt
    rw [List.reverse_append, List.filter_reverse]
    rfl
  have h2 : (useY ks k).length ≤ ks.length + 1 := by
    unfold useY
    have : (dr ks k).length ≤ ks.length := List.length_filter_le _ _
    simp only [List.length_append, List.length_singleton]
    omega
  unfold useL
  by_cases hb : useB (e : Int) ks k = true
  · rw [if_pos hb]
    unfold useB at hb
    simp only [decide_eq_true_eq] at hb
    have h3 : (useY ks k).length = e + 1 := by omega
    rw [← h1]
    have h4 : (useY ks k).tail.reverse = (useY ks k).reverse.dropLast := by cases useY ks k <;> simp
    rw [h4, List.dropLast_eq_take, List.length_reverse, h3]
    rfl
  · rw [if_neg hb]
    unfold useB at hb
    simp only [decide_eq_true_eq] at hb
    rw [← h1, List.take_of_length_le (by rw [List.length_reverse]; omega)]
/-- The memo's keys are those that were used last. -/
structure Rv (e : Nat) (u : List K) (xs : List En) : Prop where
  eq : sc e u.reverse [] = (keysL xs).reverse
  kd : ∀ x ∈ xs, x.2.1.2.1 = 0
theorem Rv.use {e : Nat} {u : List K} {xs ys : List En} {k : K} (h : Rv e u xs) (he : 0 < e) (hl : xs.length ≤ e) (hy : keysL ys = useL (e : Int) (keysL xs) k) (hk : ∀ x ∈ ys, x.2.1.2.1 = 0) : Rv e (u ++ [k]) ys := by
  refine ⟨?_, hk⟩
  rw [hy, useL_rev (by rw [keysL_len]; exact hl), List.reverse_append]
  have h0 : ([k] : List K).reverse ++ u.reverse = k :: u.reverse := rfl
  rw [h0]
  unfold sc
  rw [if_pos (by simpa using he)]
  have h1 : addK [] k = (frt k []).take e := by
    rw [addK_out (by simp), List.take_of_length_le (by unfold frt; simp; omega)]
    rfl
  rw [h1, sc_front e k u.reverse [] (by simp) (by simp), h.eq]
end Go.Proofs.Ytopepalpmkeffaa
