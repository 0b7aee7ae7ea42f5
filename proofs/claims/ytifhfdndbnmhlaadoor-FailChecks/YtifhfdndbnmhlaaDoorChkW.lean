/- The walk of FailChecks: which failures and outcomes may be, which are one and the same, and their order; the condition is that the listed variables hold what the start lays. -/
import Derived.Test.YtifhfdndbnmhlaaDoorOrd
import Derived.Test.YtifhfdndbnmhlaaDoorAwk
namespace Go.Proofs.YtifhfdndbnmhlaaDoor
open Go.RowKit Go.Sort
set_option linter.unusedVariables false
set_option linter.unusedSimpArgs false

theorem eql23 (k c r k' c' r' : Int) (w : World) : (binOp .eql 23 (fl k c r) (fl k' c' r')).run Tryd.prog w = .ok (.bool (same k c r k' c' r')) w := by
  by_cases h1 : k = k'
  · by_cases h2 : c = c'
    · by_cases h3 : r = r'
      · go_simp
        simp [same, h1, h2, h3]
      · go_simp
        simp [same, h1, h2, h3]
    · go_simp
      simp [same, h1, h2]
  · go_simp
    simp [same, h1]

set_option maxRecDepth 100000 in
set_option maxHeartbeats 4000000 in
theorem checks3_no (k c r k' c' r' v : Int) (w : World) (hS : St w) (hm : may k c r = false) :
    Calls Tryd.prog 3 #[fl k c r, fl k' c' r', .int .i64 v] w fun e w' => e = .returned (.bool true) ∧ Gr w w' := by
  have mixed := mixed
  have HS : Hid (St w) := hS
  clear hS
  have heq := eql23 k c r k' c' r'
  have hck : ∀ w, Calls Tryd.prog 10 #[fl k c r] w fun e w' => e = .returned (.int .i64 30) ∧ Gr w w' := fun w => by
    have h := check10 k c r w
    rw [hm] at h
    exact h
  have HK : Hid (∀ w, Calls Tryd.prog 10 #[fl k c r] w fun e w' => e = .returned (.int .i64 30) ∧ Gr w w') := hck
  clear hck
  go_enter Tryd.func3, Tryd.ntmps3
  go_wp2_with (first
    | (go_at_call 8; refine (ref8 k c r _).mono ?_; rintro e w1 ⟨rfl, hg1⟩; have G1 : Hid (Gr w w1) := ((((Gr.refl w).alloc (.cells #[.int .i64 k, .int .i64 c, .int .i64 r] 23)).alloc (.cells #[.int .i64 k', .int .i64 c', .int .i64 r'] 23))).trans hg1; have B1 : Hid (Box w1 w.heap.size k c r) := (box_new w k c r 23).gr (((Gr.refl _).alloc _).trans hg1); have b2 := (box_new (w.alloc (.cells #[.int .i64 k, .int .i64 c, .int .i64 r] 23)) k' c' r' 23).gr hg1; rw [World.size_alloc] at b2; have B2 : Hid (Box w1 (w.heap.size + 1) k' c' r') := b2; clear b2 hg1)
    | (go_at_call 7; refine (rmay7 k c r _).mono ?_; rw [hm]; rintro e w2 ⟨rfl, hg2⟩; have G2 : Hid (Gr w1 w2) := hg2; clear hg2))
  obtain ⟨p0, p1, p2, y0, y1, y2⟩ := B1.out.gr G2.out
  obtain ⟨q0, q1, q2, x0, x1, x2⟩ := B2.out.gr G2.out
  have e0 := cell_regrown p0
  have e1 := cell_regrown p1
  have e2 := cell_regrown p2
  have f0 := cell_regrown q0
  have f1 := cell_regrown q1
  have f2 := cell_regrown q2
  have HT : Hid (St w2) := HS.out.gr (G1.out.trans G2.out)
  clear p0 p1 p2 q0 q1 q2 y0 y1 y2 x0 x1 x2 hm
  refine wp_region_quiet_below (by assumption) (by kernel_rfl) ?_
  repeat (quiet_step (first
    | (go_at_call 9; exact Calls.regrown_of (awake9 _ (HT.out.gr (gr_re _ _ _))))
    | (go_at_call 10; exact Calls.regrown_of (HK.out _))
    | (go_at_call 11; exact Calls.regrown_of (right11 v k c r _))
    | (go_at_call 8; exact Calls.regrown_of (ref8 _ _ _ _))
    | (go_at_call 12; exact Calls.regrown_of (rright12 v k c r _))
    | (go_at_call 13; exact Calls.regrown_of (same13 k c r k' c' r' _))
    | (go_at_call 14; exact Calls.regrown_of (compare14 k c r k' c' r' _))
    | (go_at_call 15; exact Calls.regrown_of (rcompare15 k c r k' c' r' _))))
  refine wpQuiet_nil ?_
  intro _ hw'
  obtain ⟨⟨dq, osq⟩, hw''⟩ := hw'
  subst hw''
  go_wp2
  go_ret
  exact ⟨rfl, (G1.out.trans G2.out).re _ _⟩
set_option maxRecDepth 100000 in
set_option maxHeartbeats 4000000 in
theorem checks3_yes (k c r k' c' r' v : Int) (w : World) (hS : St w) (hm : may k c r = true) :
    Calls Tryd.prog 3 #[fl k c r, fl k' c' r', .int .i64 v] w fun e w' => e = .returned (.bool true) ∧ Gr w w' := by
  have mixed := mixed
  have HS : Hid (St w) := hS
  clear hS
  have heq := eql23 k c r k' c' r'
  have hck : ∀ w, Calls Tryd.prog 10 #[fl k c r] w fun e w' => e = .returned (.int .i64 0) ∧ Gr w w' := fun w => by
    have h := check10 k c r w
    rw [hm] at h
    exact h
  have HK : Hid (∀ w, Calls Tryd.prog 10 #[fl k c r] w fun e w' => e = .returned (.int .i64 0) ∧ Gr w w') := hck
  clear hck
  go_enter Tryd.func3, Tryd.ntmps3
  go_wp2_with (first
    | (go_at_call 8; refine (ref8 k c r _).mono ?_; rintro e w1 ⟨rfl, hg1⟩; have G1 : Hid (Gr w w1) := ((((Gr.refl w).alloc (.cells #[.int .i64 k, .int .i64 c, .int .i64 r] 23)).alloc (.cells #[.int .i64 k', .int .i64 c', .int .i64 r'] 23))).trans hg1; have B1 : Hid (Box w1 w.heap.size k c r) := (box_new w k c r 23).gr (((Gr.refl _).alloc _).trans hg1); have b2 := (box_new (w.alloc (.cells #[.int .i64 k, .int .i64 c, .int .i64 r] 23)) k' c' r' 23).gr hg1; rw [World.size_alloc] at b2; have B2 : Hid (Box w1 (w.heap.size + 1) k' c' r') := b2; clear b2 hg1)
    | (go_at_call 7; refine (rmay7 k c r _).mono ?_; rw [hm]; rintro e w2 ⟨rfl, hg2⟩; have G2 : Hid (Gr w1 w2) := hg2; clear hg2))
  obtain ⟨p0, p1, p2, y0, y1, y2⟩ := B1.out.gr G2.out
  obtain ⟨q0, q1, q2, x0, x1, x2⟩ := B2.out.gr G2.out
  have e0 := cell_regrown p0
  have e1 := cell_regrown p1
  have e2 := cell_regrown p2
  have f0 := cell_regrown q0
  have f1 := cell_regrown q1
  have f2 := cell_regrown q2
  have HT : Hid (St w2) := HS.out.gr (G1.out.trans G2.out)
  clear p0 p1 p2 q0 q1 q2 y0 y1 y2 x0 x1 x2 hm
  refine wp_region_quiet_below (by assumption) (by kernel_rfl) ?_
  repeat (quiet_step (first
    | (go_at_call 9; exact Calls.regrown_of (awake9 _ (HT.out.gr (gr_re _ _ _))))
    | (go_at_call 10; exact Calls.regrown_of (HK.out _))
    | (go_at_call 11; exact Calls.regrown_of (right11 v k c r _))
    | (go_at_call 8; exact Calls.regrown_of (ref8 _ _ _ _))
    | (go_at_call 12; exact Calls.regrown_of (rright12 v k c r _))
    | (go_at_call 13; exact Calls.regrown_of (same13 k c r k' c' r' _))
    | (go_at_call 14; exact Calls.regrown_of (compare14 k c r k' c' r' _))
    | (go_at_call 15; exact Calls.regrown_of (rcompare15 k c r k' c' r' _))))
  refine wpQuiet_nil ?_
  intro _ hw'
  obtain ⟨⟨dq, osq⟩, hw''⟩ := hw'
  subst hw''
  go_wp2
  go_ret
  exact ⟨rfl, (G1.out.trans G2.out).re _ _⟩
theorem checks3 (k c r k' c' r' v : Int) (w : World) (hS : St w) :
    Calls Tryd.prog 3 #[fl k c r, fl k' c' r', .int .i64 v] w fun e w' => e = .returned (.bool true) ∧ Gr w w' := by
  cases hm : may k c r with
  | false => exact checks3_no k c r k' c' r' v w hS hm
  | true => exact checks3_yes k c r k' c' r' v w hS hm
end Go.Proofs.YtifhfdndbnmhlaaDoor
