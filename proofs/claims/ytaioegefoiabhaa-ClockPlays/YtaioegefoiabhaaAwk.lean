/- The contract of the law's look whether a timer rings at all. -/
import Derived.Test.YtaioegefoiabhaaAdv
namespace Go.Proofs.Ytaioegefoiabhaa
open Go.RowKit Go.Maps Go.ChangeMaps
set_option linter.unusedVariables false
theorem Nx.fresh {w w1 w2 : World} {c : Nat} {F : List Nat} {s : Cs} (hF : ∀ k, k ∈ F → w.heap.size ≤ k) (ht : Touch [] w w1) (h : Nx w1 w2 c F s) : ∃ F', Ck w2 c F' s ∧ Touch [] w w2 ∧ ∀ k, k ∈ F' → w.heap.size ≤ k := by
  obtain ⟨F', h1, h2, h3⟩ := h
  refine ⟨F', h1, ht.trans h2 (fun i hi => Or.inr (hF i hi)), fun k hk => ?_⟩
  rcases h3 k hk with e | e
  · exact hF k e
  · exact Nat.le_trans ht.size e
theorem aw1 : armE ⟨0, 0, []⟩ 5 = 0 := by decide
theorem aw2 : armN ⟨0, 0, []⟩ 5 = 1 := by decide
theorem aw3 : armS ⟨0, 0, []⟩ 5 = ⟨0, 1, [⟨5, 1⟩]⟩ := by
  unfold armS
  rw [if_pos aw1]
  rfl
theorem aw4 : advE ⟨0, 1, [⟨5, 1⟩]⟩ 5 = 0 := by decide
theorem aw5 : advS ⟨0, 1, [⟨5, 1⟩]⟩ 5 = ⟨5, 1, []⟩ := by
  unfold advS
  rw [if_pos aw4]
  rfl
theorem aw6 : advR ⟨0, 1, [⟨5, 1⟩]⟩ 5 = [⟨5, 1⟩] := by
  unfold advR
  rw [if_pos aw4]
  rfl
def ArE (e : Ending) (w w' : World) (c : Nat) (s : Cs) (n m : Int) : Prop := e = .returned (.tuple #[.int .i64 n, .int .i64 m]) ∧ ∃ F', Ck w' c F' s ∧ Touch [] w w' ∧ ∀ k, k ∈ F' → w.heap.size ≤ k
def AvE (e : Ending) (w w' : World) (c : Nat) (s : Cs) (R : List Tm) (m : Int) : Prop := ∃ a n x, e = .returned (.tuple #[.slice a n x, .int .i64 m]) ∧ RR 45 w' w.heap.size (.slice a n x) R ∧ ∃ F', Ck w' c F' s ∧ Touch [] w w' ∧ ∀ k, k ∈ F' → w.heap.size ≤ k
set_option maxHeartbeats 1000000 in
theorem awake8 (w : World) : Calls Try.prog 8 #[] w fun e w' => e = .returned (.bool true) ∧ Touch [] w w' := by
  have HN := hid (new7 w)
  have HA : Hid (∀ w1 c F, Ck w1 c F ⟨0, 0, []⟩ → Touch [] w w1 → (∀ k, k ∈ F → w.heap.size ≤ k) → Calls Try.prog 10 #[.pointer (some ⟨c, 0, none⟩), .int .i64 5] w1 fun e w' => ArE e w w' c ⟨0, 1, [⟨5, 1⟩]⟩ 1 0) := fun w1 c F h t hF => by
    refine (arm10 w1 c F ⟨0, 0, []⟩ 5 h (by decide)).mono ?_
    rintro e w' ⟨he, r⟩
    rw [aw1, aw2] at he
    rw [aw3] at r
    exact ⟨he, r.fresh hF t⟩
  have HV : Hid (∀ w1 c F, Ck w1 c F ⟨0, 1, [⟨5, 1⟩]⟩ → Touch [] w w1 → (∀ k, k ∈ F → w.heap.size ≤ k) → Calls Try.prog 11 #[.pointer (some ⟨c, 0, none⟩), .int .i64 5] w1 fun e w' => AvE e w w' c ⟨5, 1, []⟩ [⟨5, 1⟩] 0) := fun w1 c F h t hF => by
    refine (advance11 w1 c F ⟨0, 1, [⟨5, 1⟩]⟩ 5 h (W64.mk (by decide) (by decide))).mono ?_
    rintro e w' ⟨a, n, x, he, r1, r2⟩
    rw [aw4] at he
    rw [aw5] at r2
    rw [aw6] at r1
    exact ⟨a, n, x, he, r1.base t.size, r2.fresh hF t⟩
  have HO : Hid (∀ w1 c F, Ck w1 c F ⟨5, 1, []⟩ → Calls Try.prog 14 #[.pointer (some ⟨c, 0, none⟩)] w1 fun e w' => e = .returned (.int .i64 5) ∧ w' = w1) := fun w1 c F h => now14 w1 c F _ h
  go_enter Try.func8, Try.ntmps8
  go_wp2_with (first
    | (go_at_call 7; refine HN.out.mono ?_; rintro e w1 ⟨c, F, rfl, k1, t1, n1⟩; have H1 := hid (And.intro k1 (And.intro t1 n1)); clear k1 t1 n1)
    | (go_at_call 10; refine (HA.out _ _ _ H1.out.1 H1.out.2.1 H1.out.2.2).mono ?_; rintro e w2 ⟨rfl, F2, k2, t2, n2⟩; have H2 := hid (And.intro k2 (And.intro t2 n2)); clear k2 t2 n2)
    | (go_at_call 11; refine (HV.out _ _ _ H2.out.1 H2.out.2.1 H2.out.2.2).mono ?_; rintro e w3 ⟨a, n, x, rfl, r3, F3, k3, t3, n3⟩; have H3 := hid (And.intro k3 (And.intro t3 n3)); clear k3 t3 n3; obtain ⟨g, rfl, rfl, y0, y1⟩ := r3.cells (k := 0) (by simp); clear r3)
    | (go_at_call 14; refine (HO.out _ _ _ H3.out.1).mono ?_; rintro e w4 ⟨rfl, rfl⟩))
  go_ret
  exact ⟨rfl, H3.out.2.1⟩
end Go.Proofs.Ytaioegefoiabhaa
