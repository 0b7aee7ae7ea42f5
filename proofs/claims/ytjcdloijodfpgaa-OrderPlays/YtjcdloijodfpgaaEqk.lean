/- Keys held against one another; the contracts of ref and May. No conditions. -/
import Derived.Test.YtjcdloijodfpgaaKys
namespace Go.Proofs.Ytjcdloijodfpgaa
open Go.RowKit Go.Sort Go.Maps Go.ChangeMaps Go.WideMaps
set_option linter.unusedVariables false
set_option linter.unusedSimpArgs false
theorem same_bytes (s t : ByteArray) : (s.toList == t.toList) = decide (s = t) := by
  rw [ByteArray.toList_eq, ByteArray.toList_eq]
  by_cases h : s = t
  · subst h; simp
  · rw [decide_eq_false h]
    simp only [beq_eq_false_iff_ne, ne_eq]
    intro e
    apply h
    cases s; cases t
    simp only [Array.toList_inj] at e
    simp_all
theorem eqk (w : World) (x y : K) : (binOp .eql 44 (kv x) (kv y)).run Try.prog w = .ok (.bool (decide (x = y))) w := by
  unfold kv
  obtain ⟨a, s⟩ := x
  obtain ⟨b, t⟩ := y
  by_cases h1 : a = b
  · by_cases h2 : s = t
    · go_simp
    · have h3 : (s.toList == t.toList) = false := by rw [same_bytes]; exact decide_eq_false h2
      go_simp
  · go_simp
theorem neqk (w : World) (x y : K) : (binOp .neq 44 (kv x) (kv y)).run Try.prog w = .ok (.bool (decide (x ≠ y))) w := by
  unfold kv
  obtain ⟨a, s⟩ := x
  obtain ⟨b, t⟩ := y
  by_cases h1 : a = b
  · by_cases h2 : s = t
    · go_simp
    · have h3 : (s.toList == t.toList) = false := by rw [same_bytes]; exact decide_eq_false h2
      go_simp
  · go_simp
theorem neqp (w : World) (x y : K) : (binOp .neq 36 (kv x) (kv y)).run Try.prog w = .ok (.bool (decide (x ≠ y))) w := by
  unfold kv
  obtain ⟨a, s⟩ := x
  obtain ⟨b, t⟩ := y
  by_cases h1 : a = b
  · by_cases h2 : s = t
    · go_simp
    · have h3 : (s.toList == t.toList) = false := by rw [same_bytes]; exact decide_eq_false h2
      go_simp
  · go_simp
theorem ref14 (w : World) (k : K) : Calls Try.prog 14 #[kv k] w fun e w' => e = .returned (kv k) ∧ Touch [] w w' := by
  unfold kv
  go_enter Try.func14, Try.ntmps14
  go_wp2
  exact bodyPost_ret (v := .agg #[.int .u16 k.1, .string k.2]) (by simp [results, Try.results14, go_sem]) rfl ⟨rfl, by
    repeat (first | exact Touch.refl _ _ | apply Touch.alloc)⟩
theorem may8 (w : World) (n : Int) : Calls Try.prog 8 #[.int .i64 n] w fun e w' => e = .returned (.bool (decide (0 ≤ n) && decide (n ≤ 65536))) ∧ w' = w := by
  by_cases h : 0 ≤ n
  · go_enter Try.func8, Try.ntmps8
    go_wp2
    go_ret
    simp [h]
  · go_enter Try.func8, Try.ntmps8
    go_wp2
    go_ret
    have h2 : decide (0 ≤ n) = false := decide_eq_false (by omega)
    simp [h2]
end Go.Proofs.Ytjcdloijodfpgaa
