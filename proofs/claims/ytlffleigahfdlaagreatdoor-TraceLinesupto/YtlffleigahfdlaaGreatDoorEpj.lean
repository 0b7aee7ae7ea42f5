/- ContainsAny of the three bytes that end lines, and masked, of any text; no conditions but those that each states. -/
import Derived.Test.YtlffleigahfdlaaGreatDoorEpi
namespace Go.Proofs.YtlffleigahfdlaaGreatDoor.Tr
open Go.RowKit Go.Shelf Go.Maps Go.ChangeMaps
set_option linter.unusedVariables false
set_option linter.unusedSimpArgs false
theorem spec_in (b : UInt8) : ([10, 13, 37] : List UInt8).contains b = spec b := by
  by_cases h1 : b = 10
  · subst h1; rfl
  · by_cases h2 : b = 13
    · subst h2; rfl
    · by_cases h3 : b = 37
      · subst h3; rfl
      · unfold spec
        simp [h1, h2, h3]
theorem any_ (l : List UInt8) : -1 ≤ Lib.indexAny l [10, 13, 37] ∧ decide (0 ≤ Lib.indexAny l [10, 13, 37]) = endsB l := by
  unfold endsB
  induction l with
  | nil => exact ⟨by decide, rfl⟩
  | cons b l ih =>
    obtain ⟨h1, h2⟩ := ih
    rw [Lib.indexAny, spec_in, List.any_cons]
    cases e : spec b
    · simp only [Bool.false_eq_true, if_false, Bool.false_or]
      rw [← h2]
      by_cases e2 : Lib.indexAny l [10, 13, 37] = -1
      · rw [e2]
        exact ⟨by decide, rfl⟩
      · rw [if_neg (by simpa using e2)]
        refine ⟨by omega, ?_⟩
        rw [decide_eq_true (by omega), decide_eq_true (by omega)]
    · exact ⟨by simp, by simp⟩
theorem info210 : (Tryz.prog.info? 210).map (fun i => (i.zero, i.size)) = some (some (.agg (Array.replicate 256 (.bool false))), 256) := by kernel_rfl
theorem indexAny_ (s : ByteArray) (hs : s.size < 4294967281) (w : World) :
    Calls Tryz.prog 134 #[.string s, .string three] w fun e w' => ∃ n : Int, e = .returned (.int .i64 n) ∧ (decide (0 ≤ n) = endsB s.data.toList) ∧ Touch [] w w' := by
  by_cases h8 : s.size ≤ 8
  · exact indexAny_short s h8 w
  · refine (Any.strings_IndexAny_long (P := Tryz.prog) (ρ := Tryz.strings_IndexAny_ren) { Tryz.strings_IndexAny with } (zero_of_info info210).1 (zero_of_info info210).2 s three w (by decide) (by omega) hs (by decide) (fun j b hb => ?_)).mono ?_
    · have hj : j < 3 := (List.getElem?_eq_some_iff.1 hb).1
      match j, hj, hb with
      | 0, _, hb => cases hb; decide
      | 1, _, hb => cases hb; decide
      | 2, _, hb => cases hb; decide
    · rintro e w' ⟨rfl, rfl⟩
      exact ⟨_, rfl, (any_ s.data.toList).2, ((Touch.refl [] w).alloc _).alloc _⟩
theorem containsAny_ (s : ByteArray) (hs : s.size < 4294967281) (w : World) :
    Calls Tryz.prog 103 #[.string s, .string three] w fun e w' => e = .returned (.bool (endsB s.data.toList)) ∧ Touch [] w w' := by
  have HI : Hid _ := indexAny_ s hs w
  go_enter Tryz.func103, Tryz.ntmps103
  go_wp2_with fail
  refine Calls.mono HI.out ?_
  rintro e w1 ⟨n, rfl, h1, t1⟩
  have T := hid t1
  have H1 := hid h1
  clear t1 h1
  go_wp2_with fail
  go_ret
  exact ⟨by rw [← H1.out]; rfl, T.out⟩
/-- The text without the bytes that end lines. -/
theorem masked_any (s : ByteArray) (hs : s.size < 4294967281) (w : World) : Calls Tryz.prog 81 #[.string s] w fun e w' => e = .returned (.string ⟨(maskL s.data.toList).toArray⟩) ∧ Touch [] w w' :=
  masked_ s (by omega) (containsAny_ s hs w)
end Go.Proofs.YtlffleigahfdlaaGreatDoor.Tr
