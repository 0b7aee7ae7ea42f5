/- The law's look whether a clock says what it must. -/
import Derived.Test.YtaioegefoiabhaaArd
import Derived.Test.YtaioegefoiabhaaRst
import Derived.Test.YtaioegefoiabhaaPrt
import Derived.Deep.QuietTactic
import Derived.BigQuiet
namespace Go.Proofs.Ytaioegefoiabhaa
open Go.RowKit Go.Maps Go.ChangeMaps
set_option linter.unusedVariables false
def ArQ (e : Ending) (w w' : World) (N : Nat) (T : List Tm) : Prop := ∃ a m, e = .returned (.slice a N m) ∧ RR 45 w' w.heap.size (.slice a N m) T ∧ Touch [] w w'
theorem armedQ (w : World) (c : Nat) (F : List Nat) (s : Cs) (N : Nat) (hN : N = s.T.length) (h : Ck w c F s) : Calls Try.prog 15 #[.pointer (some ⟨c, 0, none⟩)] w fun e w' => ArQ e w w' N s.T := by
  refine (armed15 w c F s h).mono ?_
  rintro e w' ⟨a, n, m, rfl, r, t⟩
  obtain ⟨a', m', e⟩ := r.slice
  injection e with e1 e2 e3
  subst e1 e2 e3
  rw [hN]
  exact ⟨a, m, rfl, r, t⟩
set_option maxHeartbeats 2000000 in
set_option maxRecDepth 100000 in
theorem says_nil (w : World) (B c : Nat) (F : List Nat) (v : Value) (s : Cs) (k : Int) (hc : Ck w c F s) (hr : RR 93 w B v s.T) (hk : W64 k) (hT : s.T = []) :
    Calls Try.prog 13 #[PC c, .agg #[.int .i64 s.now, v, .int .i64 s.last], .int .i64 k] w fun e w' => e = .returned (.bool true) ∧ Touch [] w w' := by
  obtain ⟨a, m, rfl⟩ := hr.slice
  have ok := hc.ok
  obtain ⟨N, hN⟩ : ∃ N, N = s.T.length := ⟨_, rfl⟩
  rw [← hN] at hr ⊢
  have hb := BM.new w s.now (.slice a N m) s.last
  obtain ⟨V, hV⟩ : ∃ V, V = w.alloc (.cells #[.int .i64 s.now, .slice a N m, .int .i64 s.last] 28) := ⟨_, rfl⟩
  rw [← hV] at hb
  have TV : Hid (Touch [] w V) := by rw [hV]; exact (Touch.refl _ _).alloc _
  have HB := hid hb
  have HN : Hid (Calls Try.prog 17 #[.pointer (some ⟨c, 0, none⟩)] V fun e w' => e = .returned (.tuple #[.agg #[.int .i64 0, .int .i64 0], .bool false]) ∧ Touch [] V w') := next17_nil V c F s (hc.keep0 TV.out) hT
  have HL : Hid (∀ w1, Touch [] V w1 → Calls Try.prog 19 #[.pointer (some ⟨c, 0, none⟩), .int .i64 k] w1 fun e w' => e = .returned (.tuple #[.int .i64 (leftN s k), .bool (leftB s k)]) ∧ w' = w1) := fun w1 t1 => left19 w1 c F s k (hc.keep0 (TV.out.trans' t1)) hk
  have HM : Hid (∀ w1, Touch [] V w1 → Calls Try.prog 34 #[.agg #[.int .i64 s.now, .slice a N m, .int .i64 s.last], .int .i64 k] w1 fun e w' => e = .returned (.tuple #[.int .i64 (leftN s k), .bool (leftB s k)]) ∧ Touch [] w1 w') := fun w1 t1 => rleft34 w1 B _ s k (hr.keep0 (TV.out.trans' t1)) ok
  have HO : Hid (∀ w1, Touch [] V w1 → Calls Try.prog 14 #[.pointer (some ⟨c, 0, none⟩)] w1 fun e w' => e = .returned (.int .i64 s.now) ∧ w' = w1) := fun w1 t1 => now14 w1 c F s (hc.keep0 (TV.out.trans' t1))
  have HA : Hid (∀ w1, Touch [] V w1 → Calls Try.prog 15 #[.pointer (some ⟨c, 0, none⟩)] w1 fun e w' => ArQ e w1 w' N s.T) := fun w1 t1 => armedQ w1 c F s N hN (hc.keep0 (TV.out.trans' t1))
  have HG : Hid (∀ w2 a5 m5 B5, Touch [] V w2 → RR 45 w2 B5 (.slice a5 N m5) s.T → Calls Try.prog 32 #[.slice a5 N m5, .slice a N m] w2 fun e w' => e = .returned (.bool true) ∧ Touch [] w2 w') := fun w2 a5 m5 B5 t2 h5 => rings32 w2 B5 B _ _ s.T h5 (hr.keep0 (TV.out.trans' t2)) ok.len
  have v0 := hb.c0
  have v1 := hb.c1
  have v2 := hb.c2
  have hN0 : N = 0 := by rw [hN, hT]; rfl
  subst hN0
  rw [hV] at HN
  clear hc hr hk ok hT hb hN
  generalize leftN s k = ln at *
  generalize leftB s k = lb at *
  generalize s.T = T at *
  generalize s.now = now at *
  generalize s.last = last at *
  unfold PC
  go_enter Try.func13, Try.ntmps13
  go_wp2_with (first
    | (go_at_call 17; refine HN.out.mono ?_; rintro e w1 ⟨rfl, t1⟩; rw [← hV] at t1; have T1 := hid (t1.alloc (.cells #[.int .i64 0, .int .i64 0] 45)); have HF := hid (FB.new w1 0 0); have f0 := HF.out.c0; have f1 := HF.out.c1; have x0 := T1.out.cell v0; have x1 := T1.out.cell v1; have x2 := T1.out.cell v2; clear t1)
    | (go_at_call 19; refine (HL.out _ T1.out).mono ?_; rintro e w2 ⟨rfl, rfl⟩)
    | (go_at_call 34; refine (HM.out _ T1.out).mono ?_; rintro e w3 ⟨rfl, t3⟩; have T3 := hid (T1.out.trans' t3); have T13 := hid t3; clear t3))
  have y0 : ∀ w', Touch [] w3 w' → w'.cell? ⟨w.heap.size, 0, none⟩ = some (.int .i64 now) := fun w' t => (T3.out.trans' t).cell v0
  have y1 : ∀ w', Touch [] w3 w' → w'.cell? ⟨w.heap.size, 1, none⟩ = some (.slice a 0 m) := fun w' t => (T3.out.trans' t).cell v1
  go_region_held3 (fun w' => Touch [] w3 w') (first | assumption | exact (Touch.refl _ _).drew | exact Touch.refl _ _ | exact Touch.drew (by assumption))
    (first
      | (go_at_call 14; refine (HO.out _ (T3.out.trans' (by assumption))).mono ?_; rintro e w4 ⟨rfl, rfl⟩)
      | (go_at_call 15; refine (HA.out _ (T3.out.trans' (by assumption))).mono ?_; rintro e w5 ⟨a5, m5, rfl, r5, t5⟩; have T5 : Touch [] w3 w5 := Touch.trans' (by assumption) t5; have H5 := hid r5; clear r5 t5)
      | (go_at_call 32; refine (HG.out _ _ _ _ (T3.out.trans' T5) H5.out).mono ?_; rintro e w6 ⟨rfl, t6⟩; have T6 : Touch [] w3 w6 := T5.trans' t6; clear t6))
  all_goals
    have g0 := (T13.out.trans' T6).cell f0
    have g1 := (T13.out.trans' T6).cell f1
    go_wp2
    go_quiet (fail)
    go_wp2
    go_ret
    exact ⟨rfl, (TV.out.trans' (T3.out.trans' T6)).drewN _⟩
end Go.Proofs.Ytaioegefoiabhaa
