/- What stays of a list of rising numbers when like neighbours are struck, and how long a loader can sleep in all, in plain words; no conditions. -/
import Derived.Test.YtgjojdlbighoaaaDoorThy
import Derived.Lib.SlicesCompact
namespace Go.Proofs.YtgjojdlbighoaaaDoor
open Go.RowKit
set_option linter.unusedVariables false

theorem compact_def (zs : List Int) : Lib.compact zs = ((List.range zs.length).filter (Lib.keeps zs.toArray)).map (zs.toArray[·]!) := rfl
theorem compact_len (zs : List Int) : (Lib.compact zs).length ≤ zs.length := by
  rw [compact_def, List.length_map]
  exact Nat.le_trans (List.length_filter_le _ _) (by simp)
theorem at_bang (zs : List Int) (i : Nat) (h : i < zs.length) : zs.toArray[i]! = zs[i] := by simp [h]
theorem keeps_iff (zs : List Int) (j : Nat) (hj : j < zs.length) : Lib.keeps zs.toArray j = true ↔ j = 0 ∨ zs[j] ≠ zs[j - 1]'(by omega) := by
  rcases Nat.eq_zero_or_pos j with rfl | hp
  · exact ⟨fun _ => Or.inl rfl, fun _ => Lib.keeps_lt_one _ 0 (by omega)⟩
  · constructor
    · intro h
      refine Or.inr (fun e => ?_)
      have := Lib.keeps_neg (d := zs.toArray) hp (by rw [at_bang zs j hj, at_bang zs (j - 1) (by omega)]; exact e)
      rw [this] at h; cases h
    · rintro (rfl | h)
      · omega
      · exact Lib.keeps_pos (by rw [at_bang zs j hj, at_bang zs (j - 1) (by omega)]; exact h)
theorem compact_mem (zs : List Int) (x : Int) : x ∈ Lib.compact zs ↔ x ∈ zs := by
  rw [compact_def, List.mem_map]
  constructor
  · rintro ⟨i, hi, rfl⟩
    rw [List.mem_filter, List.mem_range] at hi
    rw [at_bang zs i hi.1]
    exact List.getElem_mem _
  · intro hx
    obtain ⟨j, hj, rfl⟩ := List.getElem_of_mem hx
    have key : ∀ j, (hj : j < zs.length) → ∃ i, ∃ (hi : i < zs.length), Lib.keeps zs.toArray i = true ∧ zs[i] = zs[j] := by
      intro j
      induction j with
      | zero => exact fun hj => ⟨0, hj, (keeps_iff zs 0 hj).2 (Or.inl rfl), rfl⟩
      | succ j ih =>
        intro hj
        by_cases e : zs[j + 1] = zs[j]
        · obtain ⟨i, hi, h1, h2⟩ := ih (by omega)
          exact ⟨i, hi, h1, by rw [h2, e]⟩
        · exact ⟨j + 1, hj, (keeps_iff zs (j + 1) hj).2 (Or.inr (by simpa using e)), rfl⟩
    obtain ⟨i, hi, h1, h2⟩ := key j hj
    exact ⟨i, by rw [List.mem_filter, List.mem_range]; exact ⟨hi, h1⟩, by rw [at_bang zs i hi, h2]⟩
theorem compact_lt (zs : List Int) (hs : zs.Pairwise (· ≤ ·)) : (Lib.compact zs).Pairwise (· < ·) := by
  rw [compact_def, List.pairwise_map]
  have h1 : ((List.range zs.length).filter (Lib.keeps zs.toArray)).Pairwise (· < ·) := List.Pairwise.filter _ List.pairwise_lt_range
  refine List.Pairwise.imp_of_mem ?_ h1
  intro a b ha hb hab
  rw [List.mem_filter, List.mem_range] at ha hb
  rw [at_bang zs a ha.1, at_bang zs b hb.1]
  have hle : ∀ i j, (hi : i < zs.length) → (hj : j < zs.length) → i ≤ j → zs[i] ≤ zs[j] := fun i j hi hj hij => by
    rcases Nat.lt_or_eq_of_le hij with h | h
    · exact (List.pairwise_iff_getElem.1 hs) i j hi hj h
    · subst h; exact Int.le_refl _
  rcases (keeps_iff zs b hb.1).1 hb.2 with e | e
  · omega
  · have h2 := hle a (b - 1) ha.1 (by omega) (by omega)
    have h3 := hle (b - 1) b (by omega) hb.1 (by omega)
    omega
theorem sorted_le (zs : List Int) : (zs.mergeSort fun x y => decide (x ≤ y)).Pairwise (· ≤ ·) := by
  have := List.pairwise_mergeSort (le := fun x y : Int => decide (x ≤ y)) (fun a b c h1 h2 => by simp at *; omega) (fun a b => by simp; omega) zs
  exact this.imp (fun h => by simpa using h)
theorem sorted_mem (zs : List Int) (x : Int) : x ∈ (zs.mergeSort fun x y => decide (x ≤ y)) ↔ x ∈ zs := (List.mergeSort_perm zs _).mem_iff
/-- two lists of numbers, each once, with the same members, are as long as one another -/
theorem same_len {a b : List Int} (ha : a.Nodup) (hb : b.Nodup) (h : ∀ x, x ∈ a ↔ x ∈ b) : a.length = b.length := ((List.perm_ext_iff_of_nodup ha hb).2 h).length_eq
theorem nodup_of_lt {a : List Int} (h : a.Pairwise (· < ·)) : a.Nodup := h.imp (fun h e => by omega)
/-- the gates of a list of steps -/
def gl (L : List Sp) : List Int := (L.filter (fun x => x.1 == 6)).map (·.2.1)
theorem gl_app (a b : List Sp) : gl (a ++ b) = gl a ++ gl b := by unfold gl; simp
theorem gl_yes (x : Sp) (h : x.1 = 6) : gl [x] = [x.2.1] := by unfold gl; simp [h]
theorem gl_no (x : Sp) (h : x.1 ≠ 6) : gl [x] = [] := by unfold gl; simp [h]
theorem gl_len (L : List Sp) : (gl L).length ≤ L.length := by unfold gl; rw [List.length_map]; exact List.length_filter_le _ _
theorem gl_take (L : List Sp) (j : Nat) (h : j < L.length) : gl (L.take (j + 1)) = gl (L.take j) ++ gl [L[j]] := by rw [List.take_succ_eq_append_getElem h, gl_app]
/-- how long, from a sum on -/
def lonS : List Sp → Int → Int × Bool
  | [], s => (s, true)
  | x :: L, s => if x.1 = 7 then (if 4611686018427387904 - s < x.2.1 then (4611686018427387904, false) else lonS L (s + max x.2.1 0)) else lonS L s
theorem lon_end (s : Int) : lonS [] s = (s, true) := rfl
theorem lon_no (x : Sp) (L : List Sp) (s : Int) (h : x.1 ≠ 7) : lonS (x :: L) s = lonS L s := by rw [lonS, if_neg h]
theorem lon_many (x : Sp) (L : List Sp) (s : Int) (h : x.1 = 7) (h2 : 4611686018427387904 - s < x.2.1) : lonS (x :: L) s = (4611686018427387904, false) := by rw [lonS, if_pos h, if_pos h2]
theorem lon_pos (x : Sp) (L : List Sp) (s : Int) (h : x.1 = 7) (h2 : ¬ 4611686018427387904 - s < x.2.1) (h3 : 0 < x.2.1) : lonS (x :: L) s = lonS L (s + x.2.1) := by
  rw [lonS, if_pos h, if_neg h2, show max x.2.1 0 = x.2.1 by omega]
theorem lon_zero (x : Sp) (L : List Sp) (s : Int) (h : x.1 = 7) (h2 : s ≤ 4611686018427387904) (h3 : ¬ 0 < x.2.1) : lonS (x :: L) s = lonS L s := by
  rw [lonS, if_pos h, if_neg (by omega), show s + max x.2.1 0 = s by omega]
theorem drop_at (L : List Sp) (j : Nat) (h : j < L.length) : L.drop j = L[j] :: L.drop (j + 1) := List.drop_eq_getElem_cons h
end Go.Proofs.YtgjojdlbighoaaaDoor
