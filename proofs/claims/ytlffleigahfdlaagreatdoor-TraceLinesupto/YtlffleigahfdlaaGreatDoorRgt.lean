/- Outcomes that may be, as a plain function; the contracts of the program's and of the document's look at them; no conditions. -/
import Derived.Test.YtlffleigahfdlaaGreatDoorOwn
namespace Go.Proofs.YtlffleigahfdlaaGreatDoor
open Go.RowKit Go.Maps Go.ChangeMaps
set_option linter.unusedVariables false
set_option linter.unusedSimpArgs false
abbrev O := Int × Int × Int × Int
def ov (o : O) : Value := .agg #[.int .i64 o.1, .int .i64 o.2.1, .int .i64 o.2.2.1, .int .i64 o.2.2.2]
def oz : O := (0, 0, 0, 0)
def mayF (kd cd rn : Int) : Bool :=
  if kd = 0 then decide (cd = 0) && decide (rn = 0) else if kd = 1 then decide (1 ≤ rn) else if kd = 2 then decide (1 ≤ rn)
  else if kd = 3 then decide (cd = 0) && decide (rn = 0) else if kd = 4 then decide (cd = 0) && decide (rn = 0)
  else if kd = 5 then decide (cd = 0) && decide (1 ≤ rn) else false
def nonF (kd cd rn : Int) : Bool := decide (kd = 0) && (decide (cd = 0) && decide (rn = 0))
def right (o : O) : Bool := mayF o.2.1 o.2.2.1 o.2.2.2 && (nonF o.2.1 o.2.2.1 o.2.2.2 || decide (o.1 = 0))
theorem eqf (w : World) (a b c : Int) : (binOp .eql 26 (.agg #[.int .i64 a, .int .i64 b, .int .i64 c]) (.agg #[.int .i64 0, .int .i64 0, .int .i64 0])).run Tryz.prog w = .ok (.bool (nonF a b c)) w := by
  unfold nonF
  by_cases h1 : a = 0
  · by_cases h2 : b = 0
    · by_cases h3 : c = 0
      · go_simp
      · go_simp
    · go_simp
  · go_simp
theorem same45 (w : World) (a b c : Int) : Calls Tryz.prog 138 #[.agg #[.int .i64 a, .int .i64 b, .int .i64 c], .agg #[.int .i64 0, .int .i64 0, .int .i64 0]] w fun e w' => e = .returned (.bool (nonF a b c)) ∧ Touch [] w w' := by
  have h := fun w => eqf w a b c
  generalize nonF a b c = r at *
  go_enter Tryz.func138, Tryz.ntmps138
  go_wp2
  go_ret
  exact ⟨rfl, by repeat (first | exact Touch.refl _ _ | apply Touch.alloc)⟩
theorem none41 (w : World) (a b c : Int) : Calls Tryz.prog 108 #[.agg #[.int .i64 a, .int .i64 b, .int .i64 c]] w fun e w' => e = .returned (.bool (nonF a b c)) ∧ Touch [] w w' := by
  have H := hid (fun w => same45 w a b c)
  generalize nonF a b c = r at *
  go_enter Tryz.func108, Tryz.ntmps108
  go_wp2_with (go_at_call 138; refine (H.out _).mono ?_; rintro e w2 ⟨rfl, t2⟩; have T2 := hid t2; clear t2)
  go_ret
  exact ⟨rfl, ((Touch.refl _ _).alloc _).trans' T2.out⟩
theorem may40 (w : World) (a b c : Int) : Calls Tryz.prog 107 #[.agg #[.int .i64 a, .int .i64 b, .int .i64 c]] w fun e w' => e = .returned (.bool (mayF a b c)) ∧ Touch [] w w' := by
  have H := hid (fun w => none41 w a b c)
  unfold mayF
  by_cases h0 : a = 0
  · subst h0
    have e0 : nonF 0 b c = (decide (b = 0) && decide (c = 0)) := by simp [nonF]
    rw [e0] at H
    simp only [if_true]
    generalize (decide (b = 0) && decide (c = 0)) = r at *
    go_enter Tryz.func107, Tryz.ntmps107
    go_wp2_with (go_at_call 108; refine (H.out _).mono ?_; rintro e w2 ⟨rfl, t2⟩; have T2 := hid t2; clear t2)
    go_ret
    exact ⟨rfl, ((Touch.refl _ _).alloc _).trans' T2.out⟩
  rw [if_neg h0]
  clear H
  have b0 : (a == 0) = false := by simp [h0]
  by_cases h1 : a = 1
  · subst h1
    rw [if_pos rfl]
    go_enter Tryz.func107, Tryz.ntmps107
    go_wp2
    go_ret
    exact ⟨rfl, by repeat (first | exact Touch.refl _ _ | apply Touch.alloc)⟩
  rw [if_neg h1]
  have b1 : (a == 1) = false := by simp [h1]
  by_cases h2 : a = 2
  · subst h2
    rw [if_pos rfl]
    go_enter Tryz.func107, Tryz.ntmps107
    go_wp2
    go_ret
    exact ⟨rfl, by repeat (first | exact Touch.refl _ _ | apply Touch.alloc)⟩
  rw [if_neg h2]
  have b2 : (a == 2) = false := by simp [h2]
  by_cases h3 : a = 3
  · subst h3
    rw [if_pos rfl]
    by_cases hb : b = 0
    · subst hb
      go_enter Tryz.func107, Tryz.ntmps107
      go_wp2
      go_ret
      exact ⟨by by_cases hc : c = 0 <;> simp [hc], by repeat (first | exact Touch.refl _ _ | apply Touch.alloc)⟩
    · have hb' : (b == 0) = false := by simp [hb]
      go_enter Tryz.func107, Tryz.ntmps107
      go_wp2
      go_ret
      exact ⟨by simp [hb], by repeat (first | exact Touch.refl _ _ | apply Touch.alloc)⟩
  rw [if_neg h3]
  have b3 : (a == 3) = false := by simp [h3]
  by_cases h4 : a = 4
  · subst h4
    rw [if_pos rfl]
    by_cases hb : b = 0
    · subst hb
      go_enter Tryz.func107, Tryz.ntmps107
      go_wp2
      go_ret
      exact ⟨by by_cases hc : c = 0 <;> simp [hc], by repeat (first | exact Touch.refl _ _ | apply Touch.alloc)⟩
    · have hb' : (b == 0) = false := by simp [hb]
      go_enter Tryz.func107, Tryz.ntmps107
      go_wp2
      go_ret
      exact ⟨by simp [hb], by repeat (first | exact Touch.refl _ _ | apply Touch.alloc)⟩
  rw [if_neg h4]
  have b4 : (a == 4) = false := by simp [h4]
  by_cases h5 : a = 5
  · subst h5
    rw [if_pos rfl]
    by_cases hb : b = 0
    · subst hb
      go_enter Tryz.func107, Tryz.ntmps107
      go_wp2
      go_ret
      exact ⟨by by_cases hc : c = 0 <;> simp [hc], by repeat (first | exact Touch.refl _ _ | apply Touch.alloc)⟩
    · have hb' : (b == 0) = false := by simp [hb]
      go_enter Tryz.func107, Tryz.ntmps107
      go_wp2
      go_ret
      exact ⟨by simp [hb], by repeat (first | exact Touch.refl _ _ | apply Touch.alloc)⟩
  rw [if_neg h5]
  have b5 : (a == 5) = false := by simp [h5]
  go_enter Tryz.func107, Tryz.ntmps107
  go_wp2
  go_ret
  exact ⟨rfl, by repeat (first | exact Touch.refl _ _ | apply Touch.alloc)⟩
theorem right32 (w : World) (o : O) : Calls Tryz.prog 83 #[ov o] w fun e w' => e = .returned (.bool (right o)) ∧ Touch [] w w' := by
  obtain ⟨v, a, b, c⟩ := o
  have HM := hid (fun w => may40 w a b c)
  have HN := hid (fun w => none41 w a b c)
  unfold ov right
  simp only
  have B : ∀ w2, Touch [] (w.alloc (.cells #[.int .i64 v, .int .i64 a, .int .i64 b, .int .i64 c] 28)) w2 → w2.heap[w.heap.size]? = some (.cells #[.int .i64 v, .int .i64 a, .int .i64 b, .int .i64 c] 28 (0, 0)) := fun w2 t => t.keep (heap_alloc_new w _) (by simp)
  have HC : Hid (∀ w2, Touch [] (w.alloc (.cells #[.int .i64 v, .int .i64 a, .int .i64 b, .int .i64 c] 28)) w2 → w2.cell? ⟨w.heap.size, 0, none⟩ = some (.int .i64 v) ∧ w2.cell? ⟨w.heap.size, 1, none⟩ = some (.int .i64 a) ∧ w2.cell? ⟨w.heap.size, 2, none⟩ = some (.int .i64 b) ∧ w2.cell? ⟨w.heap.size, 3, none⟩ = some (.int .i64 c)) := fun w2 t => by
    have := B w2 t
    simp [World.cell?, this]
  clear B
  generalize mayF a b c = r at *
  generalize nonF a b c = s at *
  cases r
  · go_enter Tryz.func83, Tryz.ntmps83
    go_wp2_with (go_at_call 107; refine (HM.out _).mono ?_; rintro e w2 ⟨rfl, t2⟩; have T2 := hid t2; clear t2)
    go_ret
    exact ⟨rfl, ((Touch.refl _ _).alloc _).trans' T2.out⟩
  · cases s
    · by_cases hv : v = 0
      · subst hv
        go_enter Tryz.func83, Tryz.ntmps83
        go_wp2_with (first
          | (go_at_call 107; refine (HM.out _).mono ?_; rintro e w2 ⟨rfl, t2⟩; have T2 := hid t2; obtain ⟨c0, c1, c2, c3⟩ := HC.out _ t2; clear t2)
          | (go_at_call 108; refine (HN.out _).mono ?_; rintro e w3 ⟨rfl, t3⟩; have T3 := hid (T2.out.trans' t3); clear c0 c1 c2 c3 T2 t3; obtain ⟨c0, c1, c2, c3⟩ := HC.out _ T3.out))
        go_ret
        exact ⟨rfl, ((Touch.refl _ _).alloc _).trans' T3.out⟩
      · have hv' : (v == 0) = false := by simp [hv]
        go_enter Tryz.func83, Tryz.ntmps83
        go_wp2_with (first
          | (go_at_call 107; refine (HM.out _).mono ?_; rintro e w2 ⟨rfl, t2⟩; have T2 := hid t2; obtain ⟨c0, c1, c2, c3⟩ := HC.out _ t2; clear t2)
          | (go_at_call 108; refine (HN.out _).mono ?_; rintro e w3 ⟨rfl, t3⟩; have T3 := hid (T2.out.trans' t3); clear c0 c1 c2 c3 T2 t3; obtain ⟨c0, c1, c2, c3⟩ := HC.out _ T3.out))
        go_ret
        exact ⟨by simp [hv], ((Touch.refl _ _).alloc _).trans' T3.out⟩
    · go_enter Tryz.func83, Tryz.ntmps83
      go_wp2_with (first
        | (go_at_call 107; refine (HM.out _).mono ?_; rintro e w2 ⟨rfl, t2⟩; have T2 := hid t2; obtain ⟨c0, c1, c2, c3⟩ := HC.out _ t2; clear t2)
        | (go_at_call 108; refine (HN.out _).mono ?_; rintro e w3 ⟨rfl, t3⟩; have T3 := hid (T2.out.trans' t3); clear c0 c1 c2 c3 T2 t3; obtain ⟨c0, c1, c2, c3⟩ := HC.out _ T3.out))
      go_ret
      exact ⟨rfl, ((Touch.refl _ _).alloc _).trans' T3.out⟩
end Go.Proofs.YtlffleigahfdlaaGreatDoor
