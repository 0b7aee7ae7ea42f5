/- What a client may have had, as the program looks at it; no conditions but those that each states. -/
import Derived.Test.YthakboiecdjgnaaDoorCmf
import Derived.Test.YthakboiecdjgnaaDoorRgt
namespace Go.Proofs.YthakboiecdjgnaaDoor.Ci
open Go.RowKit Go.Maps Go.ChangeMaps
set_option linter.unusedVariables false
set_option linter.unusedSimpArgs false
theorem is_ (n : Int) (w : World) : Calls Tryd.prog 66 #[.int .i64 n] w fun e w' => e = .returned (.bool (decide (0 ≤ n ∧ n ≤ 4611686018427387904))) ∧ w' = w := by
  by_cases h1 : 0 ≤ n
  · by_cases h2 : n ≤ 4611686018427387904
    · rw [decide_eq_true ⟨h1, h2⟩]
      go_enter Tryd.func66, Tryd.ntmps66
      go_wp2
      go_ret
      exact ⟨rfl, rfl⟩
    · rw [decide_eq_false (fun h => h2 h.2)]
      go_enter Tryd.func66, Tryd.ntmps66
      go_wp2
      go_ret
      exact ⟨rfl, rfl⟩
  · rw [decide_eq_false (fun h => h1 h.1)]
    go_enter Tryd.func66, Tryd.ntmps66
    go_wp2
    go_ret
    exact ⟨rfl, rfl⟩
def Gz.out (g : Gz) : O := (g.va, g.kd, g.cd, g.rn)
def mayG (n : Nat) (g : Gz) : Bool := decide (0 ≤ g.pl ∧ g.pl < n) && (decide (0 ≤ g.ho ∧ g.ho ≤ 6) && (decide (0 ≤ g.tm ∧ g.tm ≤ 4611686018427387904) && right g.out))
section
variable {w w' : World} {b : Nat} {pv lv : Value} {S : Cs}
set_option maxRecDepth 20000 in
set_option maxHeartbeats 2000000 in
theorem mayHave_ (h : Cq w b pv lv S) (g : Gz) : Calls Tryd.prog 44 #[.pointer (some ⟨b, 0, none⟩), .agg #[.int .i64 g.pl, .int .i64 g.ho, .int .i64 g.va, .int .i64 g.kd, .int .i64 g.cd, .int .i64 g.rn, .int .i64 g.tm]] w fun e w' => e = .returned (.bool (mayG S.L.length g)) ∧ Touch [] w w' := by
  obtain ⟨a, c, rfl⟩ := own_form h.pr
  have hb := h.lt
  have hl := h.len
  have p0 := h.c0
  have HI := hid (fun w' => is_ g.tm w')
  have HR := hid (fun w' => right32 w' g.out)
  have HM : Hid (mayG S.L.length g = (decide (0 ≤ g.pl ∧ g.pl < (S.L.length : Nat)) && (decide (0 ≤ g.ho ∧ g.ho ≤ 6) && (decide (0 ≤ g.tm ∧ g.tm ≤ 4611686018427387904) && right g.out)))) := rfl
  generalize mayG S.L.length g = R at *
  generalize right g.out = rr at *
  unfold Gz.out ov at HR
  generalize S.L.length = m at *
  clear h
  obtain ⟨g0', g1, g2, g3, g4, g5, g6⟩ := g
  dsimp only at *
  generalize decide (0 ≤ g6 ∧ g6 ≤ 4611686018427387904) = ri at *
  have d0 : (decide (0 ≤ g0' ∧ g0' < (m : Int))) = (decide (0 ≤ g0') && decide (g0' < (m : Int))) := by simp
  have d1 : (decide (0 ≤ g1 ∧ g1 ≤ 6)) = (decide (0 ≤ g1) && decide (g1 ≤ 6)) := by simp
  rw [d0, d1] at HM
  clear d0 d1
  by_cases k0 : 0 ≤ g0'
  · by_cases k1 : g0' < (m : Int)
    · by_cases k2 : 0 ≤ g1
      · by_cases k3 : g1 ≤ 6
        · have HM2 : Hid (R = (ri && rr)) := by show _ = _; rw [HM.out]; simp [k0, k1, k2, k3]
          clear HM
          go_enter Tryd.func44, Tryd.ntmps44
          go_wp2
          go_quiet (fail)
          go_wp2_with fail
          refine (HI.out _).mono ?_
          rintro e w1 ⟨rfl, e1⟩
          rw [e1]
          clear e1 w1
          cases ri with
          | false =>
            go_wp2_with fail
            go_ret
            exact ⟨by rw [HM2.out]; rfl, ((Touch.refl [] w).alloc _).drewN _⟩
          | true =>
            go_wp2_with fail
            refine (HR.out _).mono ?_
            rintro e w2 ⟨rfl, t2⟩
            go_wp2_with fail
            go_ret
            exact ⟨by rw [HM2.out]; rfl, (((Touch.refl [] w).alloc _).drewN _).trans' t2⟩
        · have HM2 : Hid (R = false) := by show _ = _; rw [HM.out]; simp [k0, k1, k2, k3]
          clear HM
          go_enter Tryd.func44, Tryd.ntmps44
          go_wp2
          go_quiet (fail)
          go_wp2_with fail
          go_ret
          exact ⟨by rw [HM2.out]; rfl, ((Touch.refl [] w).alloc _).drewN _⟩
      · have HM2 : Hid (R = false) := by show _ = _; rw [HM.out]; simp [k0, k1, k2]
        clear HM
        go_enter Tryd.func44, Tryd.ntmps44
        go_wp2
        go_quiet (fail)
        go_wp2_with fail
        go_ret
        exact ⟨by rw [HM2.out]; rfl, ((Touch.refl [] w).alloc _).drewN _⟩
    · by_cases k2 : 0 ≤ g1
      · by_cases k3 : g1 ≤ 6
        · have HM2 : Hid (R = false) := by show _ = _; rw [HM.out]; simp [k0, k1, k2, k3]
          clear HM
          go_enter Tryd.func44, Tryd.ntmps44
          go_wp2
          go_quiet (fail)
          go_wp2_with fail
          go_ret
          exact ⟨by rw [HM2.out]; rfl, ((Touch.refl [] w).alloc _).drewN _⟩
        · have HM2 : Hid (R = false) := by show _ = _; rw [HM.out]; simp [k0, k1, k2, k3]
          clear HM
          go_enter Tryd.func44, Tryd.ntmps44
          go_wp2
          go_quiet (fail)
          go_wp2_with fail
          go_ret
          exact ⟨by rw [HM2.out]; rfl, ((Touch.refl [] w).alloc _).drewN _⟩
      · have HM2 : Hid (R = false) := by show _ = _; rw [HM.out]; simp [k0, k1, k2]
        clear HM
        go_enter Tryd.func44, Tryd.ntmps44
        go_wp2
        go_quiet (fail)
        go_wp2_with fail
        go_ret
        exact ⟨by rw [HM2.out]; rfl, ((Touch.refl [] w).alloc _).drewN _⟩
  · by_cases k2 : 0 ≤ g1
    · by_cases k3 : g1 ≤ 6
      · have HM2 : Hid (R = false) := by show _ = _; rw [HM.out]; simp [k0, k2, k3]
        clear HM
        have k9 : decide (0 ≤ g0') = false := decide_eq_false k0
        clear k0
        go_enter Tryd.func44, Tryd.ntmps44
        go_wp2
        go_quiet (fail)
        go_wp2_with fail
        go_ret
        exact ⟨by rw [HM2.out]; rfl, ((Touch.refl [] w).alloc _).drewN _⟩
      · have HM2 : Hid (R = false) := by show _ = _; rw [HM.out]; simp [k0, k2, k3]
        clear HM
        have k9 : decide (0 ≤ g0') = false := decide_eq_false k0
        clear k0
        go_enter Tryd.func44, Tryd.ntmps44
        go_wp2
        go_quiet (fail)
        go_wp2_with fail
        go_ret
        exact ⟨by rw [HM2.out]; rfl, ((Touch.refl [] w).alloc _).drewN _⟩
    · have HM2 : Hid (R = false) := by show _ = _; rw [HM.out]; simp [k0, k2]
      clear HM
      have k9 : decide (0 ≤ g0') = false := decide_eq_false k0
      clear k0
      go_enter Tryd.func44, Tryd.ntmps44
      go_wp2
      go_quiet (fail)
      go_wp2_with fail
      go_ret
      exact ⟨by rw [HM2.out]; rfl, ((Touch.refl [] w).alloc _).drewN _⟩
end
end Go.Proofs.YthakboiecdjgnaaDoor.Ci
