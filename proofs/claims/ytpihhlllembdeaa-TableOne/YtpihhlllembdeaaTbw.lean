/- The contract of New, and that a run is begun. -/
import Derived.Test.YtpihhlllembdeaaTbb
namespace Go.Proofs.Ytpihhlllembdeaa
open Go.RowKit Go.Maps Go.ChangeMaps
set_option linter.unusedVariables false
set_option linter.unusedSimpArgs false
def T0 (f : Int) : Tb := ⟨f, 0, [], fun _ => 0⟩
def mayF' (f : Int) : Bool := decide (1 ≤ f) && decide (f ≤ 4096)
theorem tm_new (w : World) {f : Int} (h1 : 1 ≤ f) (h2 : f ≤ 4096) : Tm (((w.alloc (.map #[] 0)).alloc (.map #[] 0)).alloc (.cells #[.int .i64 f, .int .i64 0, .map (some w.heap.size), .map (some (w.heap.size + 1)), .map none] 71)) (w.heap.size + 1 + 1) w.heap.size (w.heap.size + 1) none 0 0 [] (T0 f) 0 := by
  refine ⟨rfl, ?_, ?_, ?_, Or.inl ⟨rfl, fun _ => rfl⟩, by omega, by simp, by simp, Nat.le_refl _, Nat.le_refl _, fun q hq => (by cases hq), fun q hq => (by cases hq), List.Pairwise.nil, tv_new h1 h2⟩
  · have := heap_alloc_new ((w.alloc (.map #[] 0)).alloc (.map #[] 0)) (.cells #[.int .i64 f, .int .i64 0, .map (some w.heap.size), .map (some (w.heap.size + 1)), .map none] 71)
    simp only [World.size_alloc] at this
    exact this
  · refine MapK.congr (f := fun _ => none) ?_ (fun n _ => rfl)
    exact ((mapK_made KI w).keep (((Touch.refl [] _).alloc _).alloc _) (by simp))
  · refine MapK.congr (f := fun _ => none) ?_ (fun n _ => rfl)
    have := (mapK_made KC (w.alloc (.map #[] 0))).keep ((Touch.refl [] _).alloc (.cells #[.int .i64 f, .int .i64 0, .map (some w.heap.size), .map (some (w.heap.size + 1)), .map none] 71)) (by simp)
    rw [World.size_alloc] at this
    exact this
section
variable (w : World)
def TnE (e : Ending) (w w' : World) (f : Int) : Prop := ∃ t F, e = .returned (.tuple #[PT t, .int .i64 0]) ∧ Tq w' t F (T0 f) 0 ∧ Touch [] w w' ∧ ∀ d, d ∈ F → w.heap.size ≤ d
theorem newT_no (f : Int) (h : mayF' f = false) : Calls Try.prog 5 #[.int .i64 f] w fun e w' => e = .returned (.tuple #[.pointer none, .int .i64 1]) ∧ w' = w := by
  unfold mayF' at h
  by_cases h1 : f < 1
  · clear h
    go_enter Try.func5, Try.ntmps5
    go_wp2
    exact bodyPost_ret (v := .tuple #[.pointer none, .int .i64 1]) (by simp [results, Try.results5, go_sem]) rfl ⟨rfl, rfl⟩
  · have h2 : 4096 < f := by
      simp at h
      exact h (by omega)
    clear h
    go_enter Try.func5, Try.ntmps5
    go_wp2
    exact bodyPost_ret (v := .tuple #[.pointer none, .int .i64 1]) (by simp [results, Try.results5, go_sem]) rfl ⟨rfl, rfl⟩
theorem newT_ok (f : Int) (h : mayF' f = true) : Calls Try.prog 5 #[.int .i64 f] w fun e w' => TnE e w w' f := by
  unfold mayF' at h
  simp only [Bool.and_eq_true, decide_eq_true_eq] at h
  obtain ⟨h1, h2⟩ := h
  have HX : Hid (TnE (.returned (.tuple #[PT (w.heap.size + 1 + 1), .int .i64 0])) w (((w.alloc (.map #[] 0)).alloc (.map #[] 0)).alloc (.cells #[.int .i64 f, .int .i64 0, .map (some w.heap.size), .map (some (w.heap.size + 1)), .map none] 71)) f) :=
    ⟨_, _, rfl, ⟨_, _, _, _, _, _, rfl, tm_new w h1 h2, fun p hp => (by cases hp)⟩, (((Touch.refl _ _).alloc _).alloc _).alloc _, fun d hd => by
      rcases mem_fpT.1 hd with e | e | e | e | ⟨q, hq, _⟩
      · omega
      · omega
      · omega
      · cases e
      · cases hq⟩
  unfold PT at HX
  have hmm := @run_makeMap Try.prog
  have g1 : (f < 1) = False := by simp; omega
  have g2 : (4096 < f) = False := by simp; omega
  clear h1 h2
  go_enter Try.func5, Try.ntmps5
  go_wp2
  exact bodyPost_ret (v := .tuple #[.pointer (some ⟨w.heap.size + 1 + 1, 0, none⟩), .int .i64 0]) (by simp [results, Try.results5, go_sem]) rfl HX.out
def kA : K := (0, ⟨#[97]⟩)
theorem okA : Ok kA := ⟨rfl, by unfold maxLen; decide⟩
theorem begA : tBegE (T0 2) kA 5 false = 0 := by
  have : curOf (T0 2) kA = none := rfl
  unfold tBegE mayK badC
  rw [this]
  simp [kA, T0]
  decide
theorem curA : curOf (tBeg (T0 2) kA 5 false) kA = some (tBegR (T0 2) kA false) := by
  unfold tBeg
  rw [if_pos begA]
  have := curOf_app (T := T0 2) { T0 2 with bg := (T0 2).bg + 1, rs := (T0 2).rs ++ [(tBegR (T0 2) kA false, S0 (tBegR (T0 2) kA false) 5)] } (tBegR (T0 2) kA false) (S0 (tBegR (T0 2) kA false) 5) rfl rfl rfl rfl kA
  rw [this]
  simp [tBegR, kOf, kA]
set_option maxHeartbeats 2000000 in
theorem awakeT : Calls Try.prog 6 #[] w fun e w' => e = .returned (.bool true) ∧ Touch [] w w' := by
  have HN := hid (newT_ok w 2 rfl)
  have HB : Hid (∀ w1 t F, Touch [] w w1 → (∀ d, d ∈ F → w.heap.size ≤ d) → Tq w1 t F (T0 2) 0 → Calls Try.prog 15 #[PT t, kv kA, .int .i64 5, .bool false] w1 fun e w2 => e = .returned (.tuple #[.int .i64 1, .int .i64 0]) ∧ ∃ F2, Tq w2 t F2 (tBeg (T0 2) kA 5 false) 1 ∧ Touch [] w w2 ∧ ∀ d, d ∈ F2 → w.heap.size ≤ d) := fun w1 t F T1 hF h => by
    refine (beginT w1 t F (T0 2) 0 h (by omega) kA okA 5 (W64.mk (by omega) (by omega)) false).mono ?_
    rintro e w2 ⟨rfl, F2, q1, q2, q3⟩
    have en : tBegN (T0 2) kA 5 false = 1 := by unfold tBegN; rw [if_pos begA]; rfl
    rw [en, begA]
    have hz := T1.size
    refine ⟨rfl, F2, q1, T1.trans q2 (fun i hi => Or.inr (hF i hi)), fun d hd => ?_⟩
    rcases q3 d hd with e | e
    · exact hF d e
    · omega
  have HC : Hid (∀ w2 t F2, Tq w2 t F2 (tBeg (T0 2) kA 5 false) 1 → Touch [] w w2 → Calls Try.prog 19 #[PT t, kv kA] w2 fun e w3 => e = .returned (.tuple #[.int .i64 1, .bool true]) ∧ Touch [] w w3) := fun w2 t F2 h T2 => by
    refine (currentT w2 t F2 _ 1 h kA okA).mono ?_
    rintro e w3 ⟨rfl, t3⟩
    rw [curA]
    exact ⟨rfl, T2.trans' t3⟩
  unfold TnE at HN
  unfold kv kA PT at *
  go_enter Try.func6, Try.ntmps6
  go_wp2_with (first
    | (go_at_call 5; refine HN.out.mono ?_; rintro e w2 ⟨t, F, rfl, r1, r2, r3⟩; have HX := hid (HB.out w2 t F r2 r3 r1); clear r1 r2 r3)
    | (go_at_call 15; refine HX.out.mono ?_; rintro e w3 ⟨rfl, F2, r1, r2, r3⟩; have HY := hid (HC.out w3 t F2 r1 r2); clear r1 r2 r3)
    | (go_at_call 19; refine HY.out.mono ?_; rintro e w4 ⟨rfl, t4⟩; have T4 := hid t4; clear t4))
  go_ret
  exact ⟨by simp, T4.out⟩
end
end Go.Proofs.Ytpihhlllembdeaa
