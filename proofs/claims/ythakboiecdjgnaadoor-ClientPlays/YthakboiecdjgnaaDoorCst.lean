/- The law's state of a client, as cells; the law's may; no conditions but those that each states. -/
import Derived.Test.YthakboiecdjgnaaDoorCrg
namespace Go.Proofs.YthakboiecdjgnaaDoor.Ci
open Go.RowKit Go.Maps Go.ChangeMaps
set_option linter.unusedVariables false
set_option linter.unusedSimpArgs false
/-- The law's state. -/
structure Ls where
  L : List Dz
  at_ : Nat
  tok : Int
  log : List Gz
  st : Nat → Int
  ca : Nat → Int
  fu : Nat → Gz
/-- Its cells. -/
structure Sc (cs : Array Value) (pv lv : Value) (T : Ls) : Prop where
  n : cs.size = 148
  c0 : cs[0]? = some pv
  c1 : cs[1]? = some (.int .i64 (T.at_ : Nat))
  c2 : cs[2]? = some (.int .i64 T.tok)
  c3 : cs[3]? = some lv
  st : ∀ i, i < 16 → cs[4 + i]? = some (.int .i64 (T.st i))
  ca : ∀ i, i < 16 → cs[20 + i]? = some (.int .i64 (T.ca i))
  fu : ∀ i j, i < 16 → j < 7 → cs[36 + i * 7 + j]? = (T.fu i).cells[j]?
theorem bigS : Big 63 148 := ⟨⟨_, Tryd.underlying63⟩, by kernel_rfl⟩
theorem Gz.one (g : Gz) {j : Nat} (hj : j < 7) : ∃ v, g.cells[j]? = some v ∧ v.oneCell' = true := by
  match j, hj with
  | 0, _ => exact ⟨_, rfl, rfl⟩
  | 1, _ => exact ⟨_, rfl, rfl⟩
  | 2, _ => exact ⟨_, rfl, rfl⟩
  | 3, _ => exact ⟨_, rfl, rfl⟩
  | 4, _ => exact ⟨_, rfl, rfl⟩
  | 5, _ => exact ⟨_, rfl, rfl⟩
  | 6, _ => exact ⟨_, rfl, rfl⟩
section
variable {cs : Array Value} {pv lv : Value} {T : Ls}
theorem Sc.one (h : Sc cs pv lv T) (hp : pv.oneCell' = true) (hl : lv.oneCell' = true) : cs.all (·.oneCell') = true := all_of (fun j hj => by
  rw [h.n] at hj
  by_cases e0 : j = 0
  · subst e0; exact ⟨_, h.c0, hp⟩
  by_cases e1 : j = 1
  · subst e1; exact ⟨_, h.c1, rfl⟩
  by_cases e2 : j = 2
  · subst e2; exact ⟨_, h.c2, rfl⟩
  by_cases e3 : j = 3
  · subst e3; exact ⟨_, h.c3, hl⟩
  by_cases e4 : j < 20
  · exact ⟨_, (by rw [← h.st (j - 4) (by omega)]; congr 1; omega), rfl⟩
  by_cases e5 : j < 36
  · exact ⟨_, (by rw [← h.ca (j - 20) (by omega)]; congr 1; omega), rfl⟩
  · obtain ⟨v, h1, h2⟩ := (T.fu ((j - 36) / 7)).one (j := (j - 36) % 7) (by omega)
    exact ⟨v, by rw [← h1, ← h.fu ((j - 36) / 7) ((j - 36) % 7) (by omega) (by omega)]; congr 1; omega, h2⟩)
theorem Sc.setAt (h : Sc cs pv lv T) (m : Nat) : Sc (cs.setIfInBounds (1) (.int .i64 (m : Nat))) pv lv { T with at_ := m } := by
  refine ⟨by simpa using h.n, ?_, ?_, ?_, ?_, ?_, ?_, ?_⟩
  · rw [Array.getElem?_setIfInBounds_ne (by omega)]; exact h.c0
  · rw [Array.getElem?_setIfInBounds_self_of_lt (by have := h.n; omega)]
  · rw [Array.getElem?_setIfInBounds_ne (by omega)]; exact h.c2
  · rw [Array.getElem?_setIfInBounds_ne (by omega)]; exact h.c3
  · intro i hi; rw [Array.getElem?_setIfInBounds_ne (by omega)]; exact h.st i hi
  · intro i hi; rw [Array.getElem?_setIfInBounds_ne (by omega)]; exact h.ca i hi
  · intro i j hi hj; rw [Array.getElem?_setIfInBounds_ne (by omega)]; exact h.fu i j hi hj
theorem Sc.setTok (h : Sc cs pv lv T) (m : Int) : Sc (cs.setIfInBounds (2) (.int .i64 m)) pv lv { T with tok := m } := by
  refine ⟨by simpa using h.n, ?_, ?_, ?_, ?_, ?_, ?_, ?_⟩
  · rw [Array.getElem?_setIfInBounds_ne (by omega)]; exact h.c0
  · rw [Array.getElem?_setIfInBounds_ne (by omega)]; exact h.c1
  · rw [Array.getElem?_setIfInBounds_self_of_lt (by have := h.n; omega)]
  · rw [Array.getElem?_setIfInBounds_ne (by omega)]; exact h.c3
  · intro i hi; rw [Array.getElem?_setIfInBounds_ne (by omega)]; exact h.st i hi
  · intro i hi; rw [Array.getElem?_setIfInBounds_ne (by omega)]; exact h.ca i hi
  · intro i j hi hj; rw [Array.getElem?_setIfInBounds_ne (by omega)]; exact h.fu i j hi hj
theorem Sc.setLog (h : Sc cs pv lv T) (v : Value) (G : List Gz) : Sc (cs.setIfInBounds (3) v) pv v { T with log := G } := by
  refine ⟨by simpa using h.n, ?_, ?_, ?_, ?_, ?_, ?_, ?_⟩
  · rw [Array.getElem?_setIfInBounds_ne (by omega)]; exact h.c0
  · rw [Array.getElem?_setIfInBounds_ne (by omega)]; exact h.c1
  · rw [Array.getElem?_setIfInBounds_ne (by omega)]; exact h.c2
  · rw [Array.getElem?_setIfInBounds_self_of_lt (by have := h.n; omega)]
  · intro i hi; rw [Array.getElem?_setIfInBounds_ne (by omega)]; exact h.st i hi
  · intro i hi; rw [Array.getElem?_setIfInBounds_ne (by omega)]; exact h.ca i hi
  · intro i j hi hj; rw [Array.getElem?_setIfInBounds_ne (by omega)]; exact h.fu i j hi hj
theorem Sc.setSt (h : Sc cs pv lv T) {k : Nat} (hk : k < 16) (m : Int) : Sc (cs.setIfInBounds (4 + k) (.int .i64 m)) pv lv { T with st := fun i => if i = k then m else T.st i } := by
  refine ⟨by simpa using h.n, ?_, ?_, ?_, ?_, ?_, ?_, ?_⟩
  · rw [Array.getElem?_setIfInBounds_ne (by omega)]; exact h.c0
  · rw [Array.getElem?_setIfInBounds_ne (by omega)]; exact h.c1
  · rw [Array.getElem?_setIfInBounds_ne (by omega)]; exact h.c2
  · rw [Array.getElem?_setIfInBounds_ne (by omega)]; exact h.c3
  · intro i hi
    by_cases e : i = k
    · subst e; rw [Array.getElem?_setIfInBounds_self_of_lt (by have := h.n; omega)]; simp
    · rw [Array.getElem?_setIfInBounds_ne (by omega)]; simp only [if_neg e]; exact h.st i hi
  · intro i hi; rw [Array.getElem?_setIfInBounds_ne (by omega)]; exact h.ca i hi
  · intro i j hi hj; rw [Array.getElem?_setIfInBounds_ne (by omega)]; exact h.fu i j hi hj
theorem Sc.setCa (h : Sc cs pv lv T) {k : Nat} (hk : k < 16) (m : Int) : Sc (cs.setIfInBounds (20 + k) (.int .i64 m)) pv lv { T with ca := fun i => if i = k then m else T.ca i } := by
  refine ⟨by simpa using h.n, ?_, ?_, ?_, ?_, ?_, ?_, ?_⟩
  · rw [Array.getElem?_setIfInBounds_ne (by omega)]; exact h.c0
  · rw [Array.getElem?_setIfInBounds_ne (by omega)]; exact h.c1
  · rw [Array.getElem?_setIfInBounds_ne (by omega)]; exact h.c2
  · rw [Array.getElem?_setIfInBounds_ne (by omega)]; exact h.c3
  · intro i hi; rw [Array.getElem?_setIfInBounds_ne (by omega)]; exact h.st i hi
  · intro i hi
    by_cases e : i = k
    · subst e; rw [Array.getElem?_setIfInBounds_self_of_lt (by have := h.n; omega)]; simp
    · rw [Array.getElem?_setIfInBounds_ne (by omega)]; simp only [if_neg e]; exact h.ca i hi
  · intro i j hi hj; rw [Array.getElem?_setIfInBounds_ne (by omega)]; exact h.fu i j hi hj
end
set_option maxRecDepth 20000 in
set_option maxHeartbeats 4000000 in
theorem smay_ {cs : Array Value} {a : Option Addr} {c : Nat} {lv : Value} {T : Ls} (h : Sc cs (.slice a T.L.length c) lv T) (hl : T.L.length ≤ 256) (g : Gz) (w : World) : Calls Tryd.prog 42 #[.agg cs, .agg #[.int .i64 g.pl, .int .i64 g.ho, .int .i64 g.va, .int .i64 g.kd, .int .i64 g.cd, .int .i64 g.rn, .int .i64 g.tm]] w fun e w' => e = .returned (.bool (mayG T.L.length g)) ∧ Touch [] w w' := by
  have HR := hid (fun w' => rright w' g.va g.kd g.cd g.rn)
  have HM : Hid (mayG T.L.length g = (decide (0 ≤ g.pl ∧ g.pl < (T.L.length : Nat)) && (decide (0 ≤ g.ho ∧ g.ho ≤ 6) && (decide (0 ≤ g.tm ∧ g.tm ≤ 4611686018427387904) && right g.out)))) := rfl
  have HRo : Hid (right g.out = right (g.va, g.kd, g.cd, g.rn)) := rfl
  generalize mayG T.L.length g = R at *
  generalize right g.out = rr at *
  rw [← HRo.out] at HR
  have q0 := h.c0
  clear h HRo
  generalize T.L.length = m at *
  obtain ⟨g0', g1, g2, g3, g4, g5, g6⟩ := g
  dsimp only at *
  have d0 : (decide (0 ≤ g0' ∧ g0' < (m : Int))) = (decide (0 ≤ g0') && decide (g0' < (m : Int))) := by simp
  have d1 : (decide (0 ≤ g1 ∧ g1 ≤ 6)) = (decide (0 ≤ g1) && decide (g1 ≤ 6)) := by simp
  have d2 : (decide (0 ≤ g6 ∧ g6 ≤ 4611686018427387904)) = (decide (0 ≤ g6) && decide (g6 ≤ 4611686018427387904)) := by simp
  rw [d0, d1, d2] at HM
  clear d0 d1 d2
  by_cases k0 : 0 ≤ g0'
  · skip
    by_cases k1 : g0' < (m : Int)
    · skip
      by_cases k2 : 0 ≤ g1
      · skip
        by_cases k3 : g1 ≤ 6
        · skip
          by_cases k4 : 0 ≤ g6
          · skip
            by_cases k5 : g6 ≤ 4611686018427387904
            · skip
              have HM2 : Hid (R = rr) := by show _ = _; rw [HM.out]; simp [k0, k1, k2, k3, k4, k5]
              clear HM
              go_enter Tryd.func42, Tryd.ntmps42
              go_wp2_with (go_at_call 65; refine (HR.out _).mono ?_; rintro e w2 ⟨rfl, t2⟩; have T2 := hid t2; clear t2)
              go_ret
              exact ⟨by rw [HM2.out]; rfl, Touch.trans' (by repeat (first | exact Touch.refl _ _ | apply Touch.alloc)) T2.out⟩
            · have HM2 : Hid (R = false) := by show _ = _; rw [HM.out]; simp [k0, k1, k2, k3, k4, k5]
              clear HM
              have k9 : decide (g6 ≤ 4611686018427387904) = false := decide_eq_false k5
              clear k5
              go_enter Tryd.func42, Tryd.ntmps42
              go_wp2
              go_ret
              exact ⟨by rw [HM2.out]; rfl, by repeat (first | exact Touch.refl _ _ | apply Touch.alloc)⟩
          · have HM2 : Hid (R = false) := by show _ = _; rw [HM.out]; simp [k0, k1, k2, k3, k4]
            clear HM
            have k9 : decide (0 ≤ g6) = false := decide_eq_false k4
            clear k4
            go_enter Tryd.func42, Tryd.ntmps42
            go_wp2
            go_ret
            exact ⟨by rw [HM2.out]; rfl, by repeat (first | exact Touch.refl _ _ | apply Touch.alloc)⟩
        · have HM2 : Hid (R = false) := by show _ = _; rw [HM.out]; simp [k0, k1, k2, k3]
          clear HM
          have k9 : decide (g1 ≤ 6) = false := decide_eq_false k3
          clear k3
          go_enter Tryd.func42, Tryd.ntmps42
          go_wp2
          go_ret
          exact ⟨by rw [HM2.out]; rfl, by repeat (first | exact Touch.refl _ _ | apply Touch.alloc)⟩
      · have HM2 : Hid (R = false) := by show _ = _; rw [HM.out]; simp [k0, k1, k2]
        clear HM
        have k9 : decide (0 ≤ g1) = false := decide_eq_false k2
        clear k2
        go_enter Tryd.func42, Tryd.ntmps42
        go_wp2
        go_ret
        exact ⟨by rw [HM2.out]; rfl, by repeat (first | exact Touch.refl _ _ | apply Touch.alloc)⟩
    · have HM2 : Hid (R = false) := by show _ = _; rw [HM.out]; simp [k0, k1]
      clear HM
      have k9 : decide (g0' < (m : Int)) = false := decide_eq_false k1
      clear k1
      go_enter Tryd.func42, Tryd.ntmps42
      go_wp2
      go_ret
      exact ⟨by rw [HM2.out]; rfl, by repeat (first | exact Touch.refl _ _ | apply Touch.alloc)⟩
  · have HM2 : Hid (R = false) := by show _ = _; rw [HM.out]; simp [k0]
    clear HM
    have k9 : decide (0 ≤ g0') = false := decide_eq_false k0
    clear k0
    go_enter Tryd.func42, Tryd.ntmps42
    go_wp2
    go_ret
    exact ⟨by rw [HM2.out]; rfl, by repeat (first | exact Touch.refl _ _ | apply Touch.alloc)⟩
end Go.Proofs.YthakboiecdjgnaaDoor.Ci
