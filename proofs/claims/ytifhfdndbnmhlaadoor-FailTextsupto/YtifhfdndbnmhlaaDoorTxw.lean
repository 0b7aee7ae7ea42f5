/- The walk of FailTexts: failures are told as texts, and read again, each in its one form; the conditions: the listed variables hold what the start lays, the library's one other variable holds a number, and the text is not too long. -/
import Derived.Test.YtifhfdndbnmhlaaDoorRpw
import Derived.Deep.RegionHeld3
namespace Go.Proofs.YtifhfdndbnmhlaaDoor
open Go.RowKit Go.Sort
set_option linter.unusedVariables false
set_option linter.unusedSimpArgs false
theorem box26 (w : World) (k c r : Int) : Box (w.alloc (.cells #[.int .i64 k, .int .i64 c, .int .i64 r] 26)) w.heap.size k c r := ⟨by simp, by simp, by simp, by simp, by simp, by simp⟩
theorem self23 (k c r : Int) (w : World) : (binOp .eql 23 (fl k c r) (fl k c r)).run Tryd.prog w = .ok (.bool true) w := by
  go_simp
theorem self26 (k c r : Int) (w : World) : (binOp .eql 26 (fl k c r) (fl k c r)).run Tryd.prog w = .ok (.bool true) w := by
  go_simp
theorem textB_size' (k c r : Int) (hk : I64 k) (hc : I64 c) (hr : I64 r) : (textB k c r).size ≤ 80 := by
  unfold textB
  have h1 := wordB_size k hk
  have h2 := itoaB_size c hc
  have h3 := itoaB_size r hr
  split
  · have : wNone.size = 4 := rfl
    omega
  · have : sp.size = 1 := rfl
    simp only [ByteArray.size_append]
    omega
theorem rparse_yes (k c r : Int) (hk : I64 k) (hc : I64 c) (hr : I64 r) (hm : may k c r = true) (w : World) (hs : (textB k c r).size ≤ 4194304) :
    Calls Tryd.prog 17 #[.string (textB k c r)] w fun e w' => e = .returned (.tuple #[fl k c r, .bool true]) ∧ Gr w w' :=
  (rparse17 (textB k c r) w hs).mono fun e w' ⟨h, hg⟩ => by
    rcases h with ⟨k', c', r', hk', hc', hr', hm', ht, he⟩ | ⟨hN, _⟩
    · obtain ⟨rfl, rfl, rfl⟩ := text_only k c r k' c' r' hc hr hc' hr' hm' ht
      exact ⟨he, hg⟩
    · exact absurd rfl (hN k c r hk hc hr hm)
theorem rparse_no (s : ByteArray) (hN : NoText s) (w : World) (hs : s.size ≤ 4194304) :
    Calls Tryd.prog 17 #[.string s] w fun e w' => e = .returned (.tuple #[fl 0 0 0, .bool false]) ∧ Gr w w' :=
  (rparse17 s w hs).mono fun e w' ⟨h, hg⟩ => by
    rcases h with ⟨k', c', r', hk', hc', hr', hm', ht, he⟩ | ⟨_, he⟩
    · exact absurd ht (hN k' c' r' hk' hc' hr' hm')
    · exact ⟨he, hg⟩
set_option maxRecDepth 100000 in
set_option maxHeartbeats 4000000 in
theorem texts_yy (k c r : Int) (xk xc xr : Int) (s tx : ByteArray) (w : World) (hS : Sp w) (hm : may k c r = true)
    (hP : ∀ w', Sp w' → Calls Tryd.prog 16 #[.string s] w' fun e w'' => e = .returned (.tuple #[fl xk xc xr, .int .i64 0]) ∧ Gr w' w'')
    (hR : ∀ w', Sp w' → Calls Tryd.prog 17 #[.string s] w' fun e w'' => e = .returned (.tuple #[fl xk xc xr, .bool true]) ∧ Gr w' w'')
    (hT : ∀ w', Sp w' → Calls Tryd.prog 18 #[fl k c r] w' fun e w'' => e = .returned (.string tx) ∧ Gr w' w'')
    (hU : ∀ w', Sp w' → Calls Tryd.prog 19 #[fl k c r] w' fun e w'' => e = .returned (.string tx) ∧ Gr w' w'')
    (hB : ∀ w', Sp w' → Calls Tryd.prog 16 #[.string tx] w' fun e w'' => e = .returned (.tuple #[fl k c r, .int .i64 0]) ∧ Gr w' w'') :
    Calls Tryd.prog 4 #[fl k c r, .string s] w fun e w' => e = .returned (.bool true) ∧ Gr w w' := by
  have mixed := mixed
  have HS : Hid (Sp w) := hS
  have HM : Hid (may k c r = true) := hm
  have HP : Hid (∀ w', Sp w' → Calls Tryd.prog 16 #[.string s] w' fun e w'' => e = .returned (.tuple #[fl xk xc xr, .int .i64 0]) ∧ Gr w' w'') := hP
  have HR : Hid (∀ w', Sp w' → Calls Tryd.prog 17 #[.string s] w' fun e w'' => e = .returned (.tuple #[fl xk xc xr, .bool true]) ∧ Gr w' w'') := hR
  have HT : Hid (∀ w', Sp w' → Calls Tryd.prog 18 #[fl k c r] w' fun e w'' => e = .returned (.string tx) ∧ Gr w' w'') := hT
  have HU : Hid (∀ w', Sp w' → Calls Tryd.prog 19 #[fl k c r] w' fun e w'' => e = .returned (.string tx) ∧ Gr w' w'') := hU
  have HB : Hid (∀ w', Sp w' → Calls Tryd.prog 16 #[.string tx] w' fun e w'' => e = .returned (.tuple #[fl k c r, .int .i64 0]) ∧ Gr w' w'') := hB
  clear hS hP hR hT hU hB hm
  have q1 := self23 k c r
  have q2 := self26 xk xc xr
  go_enter Tryd.func4, Tryd.ntmps4
  go_wp2_with (first
    | (go_at_call_of 16 (Value.string s); refine (HP.out _ (HS.out.gr ((Gr.refl w).alloc _))).mono ?_; rintro e w1 ⟨rfl, hg1⟩; have BF : Hid (Box w1 w.heap.size k c r) := (box_new w k c r 23).gr hg1; have G1 : Hid (Gr w w1) := ((Gr.refl w).alloc _).trans hg1; clear hg1)
    | (go_at_call 17; refine (HR.out _ (HS.out.gr (G1.out.alloc _))).mono ?_; rintro e w2 ⟨rfl, hg2⟩; have BX : Hid (Box w2 w1.heap.size xk xc xr) := (box_new w1 xk xc xr 23).gr hg2; have H2 : Hid (Gr w1 w2) := ((Gr.refl w1).alloc _).trans hg2; obtain ⟨f0, f1, f2, _, _, _⟩ := BF.out.gr (((Gr.refl w1).alloc _).trans (hg2.alloc (.cells #[.int .i64 xk, .int .i64 xc, .int .i64 xr] 26))); clear hg2)
    | (go_at_call 18; refine (HT.out _ (HS.out.gr (G1.out.trans (H2.out.alloc _)))).mono ?_; rintro e w3 ⟨rfl, hg3⟩; have BY : Hid (Box w3 w2.heap.size xk xc xr) := (box26 w2 xk xc xr).gr hg3; have H3 : Hid (Gr w2 w3) := ((Gr.refl w2).alloc _).trans hg3; clear hg3)
    | (go_at_call_of 16 (Value.string tx); refine (HB.out _ (HS.out.gr (G1.out.trans (H2.out.trans H3.out)))).mono ?_; rintro e w4 ⟨rfl, hg4⟩; have H4 : Hid (Gr w2 w4) := H3.out.trans hg4; have BY4 : Hid (Box w4 w2.heap.size xk xc xr) := BY.out.gr hg4; obtain ⟨d0, d1, d2, _, _, _⟩ := BF.out.gr (H2.out.trans ((H3.out.trans hg4).alloc (.cells #[.int .i64 k, .int .i64 c, .int .i64 r] 23))); clear hg4)
    | (go_at_call 8; refine (ref8 k c r _).mono ?_; rintro e w5 ⟨rfl, hg5⟩; have BB : Hid (Box w5 w4.heap.size k c r) := (box_new w4 k c r 23).gr hg5; have H5 : Hid (Gr w4 w5) := ((Gr.refl w4).alloc _).trans hg5; clear hg5)
    | (go_at_call 7; refine (rmay7 k c r _).mono ?_; rw [HM.out]; rintro e w6 ⟨rfl, hg6⟩; have H6 : Hid (Gr w5 w6) := hg6; clear hg6))
  have W6 : Hid (Gr w w6) := G1.out.trans (H2.out.trans (H4.out.trans (H5.out.trans H6.out)))
  have F6 : Hid (Box w6 w.heap.size k c r) := BF.out.gr (H2.out.trans (H4.out.trans (H5.out.trans H6.out)))
  have X6 : Hid (Box w6 w1.heap.size xk xc xr) := BX.out.gr (H4.out.trans (H5.out.trans H6.out))
  have Y6 : Hid (Box w6 w2.heap.size xk xc xr) := BY4.out.gr (H5.out.trans H6.out)
  have B6 : Hid (Box w6 w4.heap.size k c r) := BB.out.gr H6.out
  have S6 : Hid (Sp w6) := HS.out.gr W6.out
  generalize w.heap.size = fb at *
  generalize w1.heap.size = xb at *
  generalize w2.heap.size = yb at *
  generalize w4.heap.size = bb at *
  have a0 := cell_regrown F6.out.c0
  have a1 := cell_regrown F6.out.c1
  have a2 := cell_regrown F6.out.c2
  have x0 := cell_regrown X6.out.c0
  have x1 := cell_regrown X6.out.c1
  have x2 := cell_regrown X6.out.c2
  have y0 := cell_regrown Y6.out.c0
  have y1 := cell_regrown Y6.out.c1
  have y2 := cell_regrown Y6.out.c2
  have b0 := cell_regrown B6.out.c0
  have b1 := cell_regrown B6.out.c1
  have b2 := cell_regrown B6.out.c2
  clear f0 f1 f2 d0 d1 d2
  refine wp_region_quiet_below (by assumption) (by kernel_rfl) ?_
  repeat (quiet_step (first
    | (go_at_call 9; exact Calls.regrown_of (awake9 _ (S6.out.gr (gr_re _ _ _)).st))
    | (go_at_call 18; exact Calls.regrown_of (HT.out _ (S6.out.gr (gr_re _ _ _))))
    | (go_at_call 19; exact Calls.regrown_of (HU.out _ (S6.out.gr (gr_re _ _ _))))
    | (go_at_call 8; exact Calls.regrown_of (ref8 _ _ _ _))))
  refine wpQuiet_nil ?_
  intro _ hw'
  obtain ⟨⟨dq, osq⟩, hw''⟩ := hw'
  subst hw''
  go_wp2
  go_ret
  exact ⟨rfl, W6.out.re _ _⟩
set_option maxRecDepth 100000 in
set_option maxHeartbeats 4000000 in
theorem texts_yn (k c r : Int) (xk xc xr : Int) (s tx : ByteArray) (w : World) (hS : Sp w) (hm : may k c r = false)
    (hP : ∀ w', Sp w' → Calls Tryd.prog 16 #[.string s] w' fun e w'' => e = .returned (.tuple #[fl xk xc xr, .int .i64 0]) ∧ Gr w' w'')
    (hR : ∀ w', Sp w' → Calls Tryd.prog 17 #[.string s] w' fun e w'' => e = .returned (.tuple #[fl xk xc xr, .bool true]) ∧ Gr w' w'')
    (hT : ∀ w', Sp w' → Calls Tryd.prog 18 #[fl k c r] w' fun e w'' => e = .returned (.string tx) ∧ Gr w' w'')
    (hU : ∀ w', Sp w' → Calls Tryd.prog 19 #[fl k c r] w' fun e w'' => e = .returned (.string tx) ∧ Gr w' w'')
    (hB : ∀ w', Sp w' → Calls Tryd.prog 16 #[.string tx] w' fun e w'' => e = .returned (.tuple #[fl 0 0 0, .int .i64 30]) ∧ Gr w' w'') :
    Calls Tryd.prog 4 #[fl k c r, .string s] w fun e w' => e = .returned (.bool true) ∧ Gr w w' := by
  have mixed := mixed
  have HS : Hid (Sp w) := hS
  have HM : Hid (may k c r = false) := hm
  have HP : Hid (∀ w', Sp w' → Calls Tryd.prog 16 #[.string s] w' fun e w'' => e = .returned (.tuple #[fl xk xc xr, .int .i64 0]) ∧ Gr w' w'') := hP
  have HR : Hid (∀ w', Sp w' → Calls Tryd.prog 17 #[.string s] w' fun e w'' => e = .returned (.tuple #[fl xk xc xr, .bool true]) ∧ Gr w' w'') := hR
  have HT : Hid (∀ w', Sp w' → Calls Tryd.prog 18 #[fl k c r] w' fun e w'' => e = .returned (.string tx) ∧ Gr w' w'') := hT
  have HU : Hid (∀ w', Sp w' → Calls Tryd.prog 19 #[fl k c r] w' fun e w'' => e = .returned (.string tx) ∧ Gr w' w'') := hU
  have HB : Hid (∀ w', Sp w' → Calls Tryd.prog 16 #[.string tx] w' fun e w'' => e = .returned (.tuple #[fl 0 0 0, .int .i64 30]) ∧ Gr w' w'') := hB
  clear hS hP hR hT hU hB hm
  have q1 := self23 k c r
  have q2 := self26 xk xc xr
  go_enter Tryd.func4, Tryd.ntmps4
  go_wp2_with (first
    | (go_at_call_of 16 (Value.string s); refine (HP.out _ (HS.out.gr ((Gr.refl w).alloc _))).mono ?_; rintro e w1 ⟨rfl, hg1⟩; have BF : Hid (Box w1 w.heap.size k c r) := (box_new w k c r 23).gr hg1; have G1 : Hid (Gr w w1) := ((Gr.refl w).alloc _).trans hg1; clear hg1)
    | (go_at_call 17; refine (HR.out _ (HS.out.gr (G1.out.alloc _))).mono ?_; rintro e w2 ⟨rfl, hg2⟩; have BX : Hid (Box w2 w1.heap.size xk xc xr) := (box_new w1 xk xc xr 23).gr hg2; have H2 : Hid (Gr w1 w2) := ((Gr.refl w1).alloc _).trans hg2; obtain ⟨f0, f1, f2, _, _, _⟩ := BF.out.gr (((Gr.refl w1).alloc _).trans (hg2.alloc (.cells #[.int .i64 xk, .int .i64 xc, .int .i64 xr] 26))); clear hg2)
    | (go_at_call 18; refine (HT.out _ (HS.out.gr (G1.out.trans (H2.out.alloc _)))).mono ?_; rintro e w3 ⟨rfl, hg3⟩; have BY : Hid (Box w3 w2.heap.size xk xc xr) := (box26 w2 xk xc xr).gr hg3; have H3 : Hid (Gr w2 w3) := ((Gr.refl w2).alloc _).trans hg3; clear hg3)
    | (go_at_call_of 16 (Value.string tx); refine (HB.out _ (HS.out.gr (G1.out.trans (H2.out.trans H3.out)))).mono ?_; rintro e w4 ⟨rfl, hg4⟩; have H4 : Hid (Gr w2 w4) := H3.out.trans hg4; have BY4 : Hid (Box w4 w2.heap.size xk xc xr) := BY.out.gr hg4; obtain ⟨d0, d1, d2, _, _, _⟩ := BF.out.gr (H2.out.trans ((H3.out.trans hg4).alloc (.cells #[.int .i64 0, .int .i64 0, .int .i64 0] 23))); clear hg4)
    | (go_at_call 8; refine (ref8 k c r _).mono ?_; rintro e w5 ⟨rfl, hg5⟩; have BB : Hid (Box w5 w4.heap.size 0 0 0) := (box_new w4 0 0 0 23).gr hg5; have H5 : Hid (Gr w4 w5) := ((Gr.refl w4).alloc _).trans hg5; clear hg5)
    | (go_at_call 7; refine (rmay7 k c r _).mono ?_; rw [HM.out]; rintro e w6 ⟨rfl, hg6⟩; have H6 : Hid (Gr w5 w6) := hg6; clear hg6))
  have W6 : Hid (Gr w w6) := G1.out.trans (H2.out.trans (H4.out.trans (H5.out.trans H6.out)))
  have F6 : Hid (Box w6 w.heap.size k c r) := BF.out.gr (H2.out.trans (H4.out.trans (H5.out.trans H6.out)))
  have X6 : Hid (Box w6 w1.heap.size xk xc xr) := BX.out.gr (H4.out.trans (H5.out.trans H6.out))
  have Y6 : Hid (Box w6 w2.heap.size xk xc xr) := BY4.out.gr (H5.out.trans H6.out)
  have B6 : Hid (Box w6 w4.heap.size 0 0 0) := BB.out.gr H6.out
  have S6 : Hid (Sp w6) := HS.out.gr W6.out
  generalize w.heap.size = fb at *
  generalize w1.heap.size = xb at *
  generalize w2.heap.size = yb at *
  generalize w4.heap.size = bb at *
  have a0 := cell_regrown F6.out.c0
  have a1 := cell_regrown F6.out.c1
  have a2 := cell_regrown F6.out.c2
  have x0 := cell_regrown X6.out.c0
  have x1 := cell_regrown X6.out.c1
  have x2 := cell_regrown X6.out.c2
  have y0 := cell_regrown Y6.out.c0
  have y1 := cell_regrown Y6.out.c1
  have y2 := cell_regrown Y6.out.c2
  have b0 := cell_regrown B6.out.c0
  have b1 := cell_regrown B6.out.c1
  have b2 := cell_regrown B6.out.c2
  clear f0 f1 f2 d0 d1 d2
  refine wp_region_quiet_below (by assumption) (by kernel_rfl) ?_
  repeat (quiet_step (first
    | (go_at_call 9; exact Calls.regrown_of (awake9 _ (S6.out.gr (gr_re _ _ _)).st))
    | (go_at_call 18; exact Calls.regrown_of (HT.out _ (S6.out.gr (gr_re _ _ _))))
    | (go_at_call 19; exact Calls.regrown_of (HU.out _ (S6.out.gr (gr_re _ _ _))))
    | (go_at_call 8; exact Calls.regrown_of (ref8 _ _ _ _))))
  refine wpQuiet_nil ?_
  intro _ hw'
  obtain ⟨⟨dq, osq⟩, hw''⟩ := hw'
  subst hw''
  go_wp2
  go_ret
  exact ⟨rfl, W6.out.re _ _⟩
set_option maxRecDepth 100000 in
set_option maxHeartbeats 4000000 in
theorem texts_ny (k c r : Int) (s tx : ByteArray) (w : World) (hS : Sp w) (hm : may k c r = true)
    (hP : ∀ w', Sp w' → Calls Tryd.prog 16 #[.string s] w' fun e w'' => e = .returned (.tuple #[fl 0 0 0, .int .i64 30]) ∧ Gr w' w'')
    (hR : ∀ w', Sp w' → Calls Tryd.prog 17 #[.string s] w' fun e w'' => e = .returned (.tuple #[fl 0 0 0, .bool false]) ∧ Gr w' w'')
    (hT : ∀ w', Sp w' → Calls Tryd.prog 18 #[fl k c r] w' fun e w'' => e = .returned (.string tx) ∧ Gr w' w'')
    (hU : ∀ w', Sp w' → Calls Tryd.prog 19 #[fl k c r] w' fun e w'' => e = .returned (.string tx) ∧ Gr w' w'')
    (hB : ∀ w', Sp w' → Calls Tryd.prog 16 #[.string tx] w' fun e w'' => e = .returned (.tuple #[fl k c r, .int .i64 0]) ∧ Gr w' w'') :
    Calls Tryd.prog 4 #[fl k c r, .string s] w fun e w' => e = .returned (.bool true) ∧ Gr w w' := by
  have mixed := mixed
  have HS : Hid (Sp w) := hS
  have HM : Hid (may k c r = true) := hm
  have HP : Hid (∀ w', Sp w' → Calls Tryd.prog 16 #[.string s] w' fun e w'' => e = .returned (.tuple #[fl 0 0 0, .int .i64 30]) ∧ Gr w' w'') := hP
  have HR : Hid (∀ w', Sp w' → Calls Tryd.prog 17 #[.string s] w' fun e w'' => e = .returned (.tuple #[fl 0 0 0, .bool false]) ∧ Gr w' w'') := hR
  have HT : Hid (∀ w', Sp w' → Calls Tryd.prog 18 #[fl k c r] w' fun e w'' => e = .returned (.string tx) ∧ Gr w' w'') := hT
  have HU : Hid (∀ w', Sp w' → Calls Tryd.prog 19 #[fl k c r] w' fun e w'' => e = .returned (.string tx) ∧ Gr w' w'') := hU
  have HB : Hid (∀ w', Sp w' → Calls Tryd.prog 16 #[.string tx] w' fun e w'' => e = .returned (.tuple #[fl k c r, .int .i64 0]) ∧ Gr w' w'') := hB
  clear hS hP hR hT hU hB hm
  have q1 := self23 k c r
  have q2 := self26 0 0 0
  go_enter Tryd.func4, Tryd.ntmps4
  go_wp2_with (first
    | (go_at_call_of 16 (Value.string s); refine (HP.out _ (HS.out.gr ((Gr.refl w).alloc _))).mono ?_; rintro e w1 ⟨rfl, hg1⟩; have BF : Hid (Box w1 w.heap.size k c r) := (box_new w k c r 23).gr hg1; have G1 : Hid (Gr w w1) := ((Gr.refl w).alloc _).trans hg1; clear hg1)
    | (go_at_call 17; refine (HR.out _ (HS.out.gr (G1.out.alloc _))).mono ?_; rintro e w2 ⟨rfl, hg2⟩; have BX : Hid (Box w2 w1.heap.size 0 0 0) := (box_new w1 0 0 0 23).gr hg2; have H2 : Hid (Gr w1 w2) := ((Gr.refl w1).alloc _).trans hg2; obtain ⟨f0, f1, f2, _, _, _⟩ := BF.out.gr (((Gr.refl w1).alloc _).trans (hg2.alloc (.cells #[.int .i64 0, .int .i64 0, .int .i64 0] 26))); clear hg2)
    | (go_at_call 18; refine (HT.out _ (HS.out.gr (G1.out.trans (H2.out.alloc _)))).mono ?_; rintro e w3 ⟨rfl, hg3⟩; have BY : Hid (Box w3 w2.heap.size 0 0 0) := (box26 w2 0 0 0).gr hg3; have H3 : Hid (Gr w2 w3) := ((Gr.refl w2).alloc _).trans hg3; clear hg3)
    | (go_at_call_of 16 (Value.string tx); refine (HB.out _ (HS.out.gr (G1.out.trans (H2.out.trans H3.out)))).mono ?_; rintro e w4 ⟨rfl, hg4⟩; have H4 : Hid (Gr w2 w4) := H3.out.trans hg4; have BY4 : Hid (Box w4 w2.heap.size 0 0 0) := BY.out.gr hg4; obtain ⟨d0, d1, d2, _, _, _⟩ := BF.out.gr (H2.out.trans ((H3.out.trans hg4).alloc (.cells #[.int .i64 k, .int .i64 c, .int .i64 r] 23))); clear hg4)
    | (go_at_call 8; refine (ref8 k c r _).mono ?_; rintro e w5 ⟨rfl, hg5⟩; have BB : Hid (Box w5 w4.heap.size k c r) := (box_new w4 k c r 23).gr hg5; have H5 : Hid (Gr w4 w5) := ((Gr.refl w4).alloc _).trans hg5; clear hg5)
    | (go_at_call 7; refine (rmay7 k c r _).mono ?_; rw [HM.out]; rintro e w6 ⟨rfl, hg6⟩; have H6 : Hid (Gr w5 w6) := hg6; clear hg6))
  have W6 : Hid (Gr w w6) := G1.out.trans (H2.out.trans (H4.out.trans (H5.out.trans H6.out)))
  have F6 : Hid (Box w6 w.heap.size k c r) := BF.out.gr (H2.out.trans (H4.out.trans (H5.out.trans H6.out)))
  have X6 : Hid (Box w6 w1.heap.size 0 0 0) := BX.out.gr (H4.out.trans (H5.out.trans H6.out))
  have Y6 : Hid (Box w6 w2.heap.size 0 0 0) := BY4.out.gr (H5.out.trans H6.out)
  have B6 : Hid (Box w6 w4.heap.size k c r) := BB.out.gr H6.out
  have S6 : Hid (Sp w6) := HS.out.gr W6.out
  generalize w.heap.size = fb at *
  generalize w1.heap.size = xb at *
  generalize w2.heap.size = yb at *
  generalize w4.heap.size = bb at *
  have a0 := cell_regrown F6.out.c0
  have a1 := cell_regrown F6.out.c1
  have a2 := cell_regrown F6.out.c2
  have x0 := cell_regrown X6.out.c0
  have x1 := cell_regrown X6.out.c1
  have x2 := cell_regrown X6.out.c2
  have y0 := cell_regrown Y6.out.c0
  have y1 := cell_regrown Y6.out.c1
  have y2 := cell_regrown Y6.out.c2
  have b0 := cell_regrown B6.out.c0
  have b1 := cell_regrown B6.out.c1
  have b2 := cell_regrown B6.out.c2
  clear f0 f1 f2 d0 d1 d2
  refine wp_region_quiet_below (by assumption) (by kernel_rfl) ?_
  repeat (quiet_step (first
    | (go_at_call 9; exact Calls.regrown_of (awake9 _ (S6.out.gr (gr_re _ _ _)).st))
    | (go_at_call 18; exact Calls.regrown_of (HT.out _ (S6.out.gr (gr_re _ _ _))))
    | (go_at_call 19; exact Calls.regrown_of (HU.out _ (S6.out.gr (gr_re _ _ _))))
    | (go_at_call 8; exact Calls.regrown_of (ref8 _ _ _ _))))
  refine wpQuiet_nil ?_
  intro _ hw'
  obtain ⟨⟨dq, osq⟩, hw''⟩ := hw'
  subst hw''
  go_wp2
  go_ret
  exact ⟨rfl, W6.out.re _ _⟩
set_option maxRecDepth 100000 in
set_option maxHeartbeats 4000000 in
theorem texts_nn (k c r : Int) (s tx : ByteArray) (w : World) (hS : Sp w) (hm : may k c r = false)
    (hP : ∀ w', Sp w' → Calls Tryd.prog 16 #[.string s] w' fun e w'' => e = .returned (.tuple #[fl 0 0 0, .int .i64 30]) ∧ Gr w' w'')
    (hR : ∀ w', Sp w' → Calls Tryd.prog 17 #[.string s] w' fun e w'' => e = .returned (.tuple #[fl 0 0 0, .bool false]) ∧ Gr w' w'')
    (hT : ∀ w', Sp w' → Calls Tryd.prog 18 #[fl k c r] w' fun e w'' => e = .returned (.string tx) ∧ Gr w' w'')
    (hU : ∀ w', Sp w' → Calls Tryd.prog 19 #[fl k c r] w' fun e w'' => e = .returned (.string tx) ∧ Gr w' w'')
    (hB : ∀ w', Sp w' → Calls Tryd.prog 16 #[.string tx] w' fun e w'' => e = .returned (.tuple #[fl 0 0 0, .int .i64 30]) ∧ Gr w' w'') :
    Calls Tryd.prog 4 #[fl k c r, .string s] w fun e w' => e = .returned (.bool true) ∧ Gr w w' := by
  have mixed := mixed
  have HS : Hid (Sp w) := hS
  have HM : Hid (may k c r = false) := hm
  have HP : Hid (∀ w', Sp w' → Calls Tryd.prog 16 #[.string s] w' fun e w'' => e = .returned (.tuple #[fl 0 0 0, .int .i64 30]) ∧ Gr w' w'') := hP
  have HR : Hid (∀ w', Sp w' → Calls Tryd.prog 17 #[.string s] w' fun e w'' => e = .returned (.tuple #[fl 0 0 0, .bool false]) ∧ Gr w' w'') := hR
  have HT : Hid (∀ w', Sp w' → Calls Tryd.prog 18 #[fl k c r] w' fun e w'' => e = .returned (.string tx) ∧ Gr w' w'') := hT
  have HU : Hid (∀ w', Sp w' → Calls Tryd.prog 19 #[fl k c r] w' fun e w'' => e = .returned (.string tx) ∧ Gr w' w'') := hU
  have HB : Hid (∀ w', Sp w' → Calls Tryd.prog 16 #[.string tx] w' fun e w'' => e = .returned (.tuple #[fl 0 0 0, .int .i64 30]) ∧ Gr w' w'') := hB
  clear hS hP hR hT hU hB hm
  have q1 := self23 k c r
  have q2 := self26 0 0 0
  go_enter Tryd.func4, Tryd.ntmps4
  go_wp2_with (first
    | (go_at_call_of 16 (Value.string s); refine (HP.out _ (HS.out.gr ((Gr.refl w).alloc _))).mono ?_; rintro e w1 ⟨rfl, hg1⟩; have BF : Hid (Box w1 w.heap.size k c r) := (box_new w k c r 23).gr hg1; have G1 : Hid (Gr w w1) := ((Gr.refl w).alloc _).trans hg1; clear hg1)
    | (go_at_call 17; refine (HR.out _ (HS.out.gr (G1.out.alloc _))).mono ?_; rintro e w2 ⟨rfl, hg2⟩; have BX : Hid (Box w2 w1.heap.size 0 0 0) := (box_new w1 0 0 0 23).gr hg2; have H2 : Hid (Gr w1 w2) := ((Gr.refl w1).alloc _).trans hg2; obtain ⟨f0, f1, f2, _, _, _⟩ := BF.out.gr (((Gr.refl w1).alloc _).trans (hg2.alloc (.cells #[.int .i64 0, .int .i64 0, .int .i64 0] 26))); clear hg2)
    | (go_at_call 18; refine (HT.out _ (HS.out.gr (G1.out.trans (H2.out.alloc _)))).mono ?_; rintro e w3 ⟨rfl, hg3⟩; have BY : Hid (Box w3 w2.heap.size 0 0 0) := (box26 w2 0 0 0).gr hg3; have H3 : Hid (Gr w2 w3) := ((Gr.refl w2).alloc _).trans hg3; clear hg3)
    | (go_at_call_of 16 (Value.string tx); refine (HB.out _ (HS.out.gr (G1.out.trans (H2.out.trans H3.out)))).mono ?_; rintro e w4 ⟨rfl, hg4⟩; have H4 : Hid (Gr w2 w4) := H3.out.trans hg4; have BY4 : Hid (Box w4 w2.heap.size 0 0 0) := BY.out.gr hg4; obtain ⟨d0, d1, d2, _, _, _⟩ := BF.out.gr (H2.out.trans ((H3.out.trans hg4).alloc (.cells #[.int .i64 0, .int .i64 0, .int .i64 0] 23))); clear hg4)
    | (go_at_call 8; refine (ref8 k c r _).mono ?_; rintro e w5 ⟨rfl, hg5⟩; have BB : Hid (Box w5 w4.heap.size 0 0 0) := (box_new w4 0 0 0 23).gr hg5; have H5 : Hid (Gr w4 w5) := ((Gr.refl w4).alloc _).trans hg5; clear hg5)
    | (go_at_call 7; refine (rmay7 k c r _).mono ?_; rw [HM.out]; rintro e w6 ⟨rfl, hg6⟩; have H6 : Hid (Gr w5 w6) := hg6; clear hg6))
  have W6 : Hid (Gr w w6) := G1.out.trans (H2.out.trans (H4.out.trans (H5.out.trans H6.out)))
  have F6 : Hid (Box w6 w.heap.size k c r) := BF.out.gr (H2.out.trans (H4.out.trans (H5.out.trans H6.out)))
  have X6 : Hid (Box w6 w1.heap.size 0 0 0) := BX.out.gr (H4.out.trans (H5.out.trans H6.out))
  have Y6 : Hid (Box w6 w2.heap.size 0 0 0) := BY4.out.gr (H5.out.trans H6.out)
  have B6 : Hid (Box w6 w4.heap.size 0 0 0) := BB.out.gr H6.out
  have S6 : Hid (Sp w6) := HS.out.gr W6.out
  generalize w.heap.size = fb at *
  generalize w1.heap.size = xb at *
  generalize w2.heap.size = yb at *
  generalize w4.heap.size = bb at *
  have a0 := cell_regrown F6.out.c0
  have a1 := cell_regrown F6.out.c1
  have a2 := cell_regrown F6.out.c2
  have x0 := cell_regrown X6.out.c0
  have x1 := cell_regrown X6.out.c1
  have x2 := cell_regrown X6.out.c2
  have y0 := cell_regrown Y6.out.c0
  have y1 := cell_regrown Y6.out.c1
  have y2 := cell_regrown Y6.out.c2
  have b0 := cell_regrown B6.out.c0
  have b1 := cell_regrown B6.out.c1
  have b2 := cell_regrown B6.out.c2
  clear f0 f1 f2 d0 d1 d2
  refine wp_region_quiet_below (by assumption) (by kernel_rfl) ?_
  repeat (quiet_step (first
    | (go_at_call 9; exact Calls.regrown_of (awake9 _ (S6.out.gr (gr_re _ _ _)).st))
    | (go_at_call 18; exact Calls.regrown_of (HT.out _ (S6.out.gr (gr_re _ _ _))))
    | (go_at_call 19; exact Calls.regrown_of (HU.out _ (S6.out.gr (gr_re _ _ _))))
    | (go_at_call 8; exact Calls.regrown_of (ref8 _ _ _ _))))
  refine wpQuiet_nil ?_
  intro _ hw'
  obtain ⟨⟨dq, osq⟩, hw''⟩ := hw'
  subst hw''
  go_wp2
  go_ret
  exact ⟨rfl, W6.out.re _ _⟩
theorem textsW (k c r : Int) (hk : I64 k) (hc : I64 c) (hr : I64 r) (s : ByteArray) (hs : s.size ≤ 4194304) (w : World) (hS : Sp w) :
    Calls Tryd.prog 4 #[fl k c r, .string s] w fun e w' => e = .returned (.bool true) ∧ Gr w w' := by
  have hz : (textB k c r).size ≤ 4194304 := by have := textB_size' k c r hk hc hr; omega
  have hT : ∀ w', Sp w' → Calls Tryd.prog 18 #[fl k c r] w' fun e w'' => e = .returned (.string (textB k c r)) ∧ Gr w' w'' := fun w' h => text18 k c r hk hc hr w' h.st.tab h.st.wo
  have hU : ∀ w', Sp w' → Calls Tryd.prog 19 #[fl k c r] w' fun e w'' => e = .returned (.string (textB k c r)) ∧ Gr w' w'' := fun w' h => rtext19 k c r hk hc hr w'
  by_cases hN : NoText s
  · have hP := fun w' (h : Sp w') => parse_no s hN w' h hs
    have hR := fun w' (h : Sp w') => rparse_no s hN w' hs
    cases hm : may k c r with
    | true => exact texts_ny k c r s (textB k c r) w hS hm hP hR hT hU fun w' h => parse_yes k c r hc hr hm w' h hz
    | false => exact texts_nn k c r s (textB k c r) w hS hm hP hR hT hU fun w' h => parse_no _ (noText_of k c r hc hr hm) w' h hz
  · obtain ⟨xk, xc, xr, gk, gc, gr, gm, rfl⟩ : ∃ xk xc xr : Int, I64 xk ∧ I64 xc ∧ I64 xr ∧ may xk xc xr = true ∧ textB xk xc xr = s := by
      apply Classical.byContradiction
      intro h
      exact hN fun a b d ha hb hd hm ht => h ⟨a, b, d, ha, hb, hd, hm, ht⟩
    have hP := fun w' (h : Sp w') => parse_yes xk xc xr gc gr gm w' h hs
    have hR := fun w' (h : Sp w') => rparse_yes xk xc xr gk gc gr gm w' hs
    cases hm : may k c r with
    | true => exact texts_yy k c r xk xc xr (textB xk xc xr) (textB k c r) w hS hm hP hR hT hU fun w' h => parse_yes k c r hc hr hm w' h hz
    | false => exact texts_yn k c r xk xc xr (textB xk xc xr) (textB k c r) w hS hm hP hR hT hU fun w' h => parse_no _ (noText_of k c r hc hr hm) w' h hz
end Go.Proofs.YtifhfdndbnmhlaaDoor
