/- The contract of the law's look at two rows of numbers that are the same; no conditions but those that it states. -/
import Derived.Test.YthpkkfmphoopnaaJsm
namespace Go.Proofs.Ythpkkfmphoopnaa.Re
open Go.RowKit Go.Maps Go.ChangeMaps
set_option linter.unusedVariables false
set_option linter.unusedSimpArgs false
set_option maxHeartbeats 1000000 in
theorem same_ (w : World) (v u : Value) (l : List Int) (hv : Ra w v l) (hu : Ra w u l) (hl : l.length ≤ 17592186044416) : Calls Try.prog 10 #[v, u] w fun e w' => e = .returned (.bool true) ∧ Touch [] w w' := by
  obtain ⟨a1, c1, rfl, _⟩ := hv.form
  obtain ⟨a2, c2, rfl, _⟩ := hu.form
  have HA := hid hv
  have HB := hid hu
  clear hv hu
  obtain ⟨N, hN⟩ : ∃ N, N = l.length := ⟨_, rfl⟩
  have HN := hid hN
  rw [← hN] at HA HB hl ⊢
  clear hN
  have zl : (N : Int) < 9223372036854775807 := by omega
  clear hl
  go_enter Try.func10, Try.ntmps10
  go_wp2
  go_loopw [13] (fun i wr => ∃ n : Nat, i = .int .i64 n ∧ n ≤ N ∧ Hid (Touch [] w wr)) (fun i _ => N - (intOf i).toNat)
  case atStart => exact ⟨0, rfl, Nat.zero_le _, Touch.refl _ _⟩
  case round =>
    obtain ⟨n, rfl, hn, HT⟩ := hrel
    by_cases hlt : n < N
    · have zn : (n : Int) < (N : Int) := by omega
      have hnl : n < l.length := by have := HN.out; omega
      obtain ⟨g1, o1, rfl, _, y1⟩ := (HA.out.keep0 HT.out).cell hnl
      obtain ⟨g2, o2, rfl, _, y2⟩ := (HB.out.keep0 HT.out).cell hnl
      generalize l[n] = ki at *
      clear hnl
      go_wp2
      go_quiet (fail)
      go_wp2
      go_roundw
      case rel => exact ⟨n + 1, by go_num, by omega, HT.out.drewN _⟩
      case measure => simp [intOf]; omega
    · have zn : ¬ (n : Int) < (N : Int) := by omega
      go_wp2
      go_ret
      exact ⟨rfl, HT.out⟩
end Go.Proofs.Ythpkkfmphoopnaa.Re
