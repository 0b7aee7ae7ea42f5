/- The law's comparison of two programs that are the same. -/
import Derived.Test.YthakboiecdjgnaaDoorKto
namespace Go.Proofs.YthakboiecdjgnaaDoor.Kt
open Go.RowKit Go.Sort Go.Shelf
open Go.Proofs.YthakboiecdjgnaaDoor.Ci
set_option linter.unusedVariables false
theorem prs_len {l : List UInt8} : ∀ (m : Nat), l.length ≤ m → ∀ (n : Nat) (out : List Dz), out.length = n → (prs l n out).1.length ≤ 256 := by
  intro m
  induction m generalizing l with
  | zero =>
    intro hl n out ho
    obtain rfl : l = [] := List.length_eq_zero_iff.1 (by omega)
    rw [prs_nil]
    split
    · exact Nat.zero_le _
    · dsimp only; omega
  | succ m ih =>
    intro hl n out ho
    by_cases h0 : l = []
    · subst h0
      rw [prs_nil]
      split
      · exact Nat.zero_le _
      · dsimp only; omega
    · cases hc : (Lib.cut l [10]).2.2 with
      | false => rw [prs_open n out h0 hc]; exact Nat.zero_le _
      | true =>
        cases hr : rdZ ⟨(Lib.cut l [10]).1.toArray⟩ with
        | none => rw [prs_bad n out h0 hr]; exact Nat.zero_le _
        | some d =>
          rw [prs_go n out d h0 hc hr]
          have := cut_lt l hc
          exact ih (by omega) (n + 1) _ (by simp [ho])
set_option maxRecDepth 20000 in
set_option maxHeartbeats 2000000 in
theorem same_ (L : List Dz) (a b : Option Addr) (c c' : Nat) (w : World) (hs : Sl w a L) (ht : Sl w b L) (hl : L.length ≤ 2932031007317) :
    Calls Tryd.prog 15 #[.slice a L.length c, .slice b L.length c'] w fun e w' => e = .returned (.bool true) ∧ Touch [] w w' := by
  have HS := hid hs
  have HT := hid ht
  have hle : (L.length : Int) ≤ 2932031007317 := by omega
  clear hs ht
  go_enter Tryd.func15, Tryd.ntmps15
  go_wp2
  go_loopw [5] (fun i wr => ∃ j : Nat, i = .int .i64 j ∧ j ≤ L.length ∧ Hid (Touch [] w wr)) (fun i _ => L.length - (intOf i).toNat)
  case atStart => exact ⟨0, rfl, Nat.zero_le _, Touch.refl [] _⟩
  case round =>
    obtain ⟨j, rfl, hj, HG⟩ := hrel
    by_cases hlt : j < L.length
    · have hz : (j : Int) < (L.length : Int) := by omega
      obtain ⟨b1, o1, rfl, c0, c1, c2, c3, c4⟩ := (HS.out.touch HG.out) j hlt
      obtain ⟨b2, o2, rfl, d0, d1, d2, d3, d4⟩ := (HT.out.touch HG.out) j hlt
      generalize L[j].op = x0 at *
      generalize L[j].sp = x1 at *
      generalize L[j].nm = x2 at *
      generalize L[j].n = x3 at *
      generalize L[j].sl = x4 at *
      go_wp2
      go_quiet (fail)
      go_wp2
      go_roundw
      case rel => exact ⟨j + 1, by go_num, by omega, by first | exact hid (tdrew HG.out _) | exact HG⟩
      case measure => simp [intOf]; omega
    · have hz : ¬ (j : Int) < (L.length : Int) := by omega
      go_wp2
      go_ret
      exact ⟨rfl, HG.out⟩
end Go.Proofs.YthakboiecdjgnaaDoor.Kt
