/- The walk of FailErrors where the first failure is not none, at lists of at most a thousand notes; the conditions: the listed variables hold what the start lays, and the notes are not too long together. -/
import Derived.Test.YtifhfdndbnmhlaaDoorErr
import Derived.Deep.RegionHeld3
namespace Go.Proofs.YtifhfdndbnmhlaaDoor
open Go.RowKit Go.Sort
set_option linter.unusedVariables false

set_option maxRecDepth 100000 in
set_option maxHeartbeats 4000000 in
theorem errs_some (k c r k' c' r' : Int) (hn : none3 k c r = false) (xs : List ByteArray) (A : Option Addr) (cap : Nat) (hx : xs.length ≤ 1000) (w : World) (hS : St w) (hk : I64 k) (hc : I64 c) (hr : I64 r) (hk' : I64 k') (hc' : I64 c') (hr' : I64 r') (hX : Nts w A xs) (hz : (saidB xs.reverse).size ≤ 4194304) :
    Calls Tryd.prog 5 #[fl k c r, fl k' c' r', .slice A xs.length cap] w fun e w' => e = .returned (.bool true) ∧ Gr w w' := by
  have mixed := mixed
  have HS : Hid (St w) := hS
  have HX : Hid (Nts w A xs) := hX
  have HK : Hid (I64 k ∧ I64 c ∧ I64 r) := ⟨hk, hc, hr⟩
  have HN : Hid (none3 k c r = false) := hn
  have hNz : ¬ (1000 : Int) < (xs.length : Int) := by omega
  clear hS hX hk' hc' hr' hk hc hr
  have heq := eql23 k c r 0 0 0
  rw [same_none, hn] at heq
  have heq2 := eql23 k c r k' c' r'
  have heq3 := eql23 k c r k c r
  rw [same_self] at heq3
  clear hn
  go_enter Tryd.func5, Tryd.ntmps5
  go_wp2
  obtain ⟨W, hW⟩ : ∃ W, W = (w.alloc (.cells #[.int .i64 k, .int .i64 c, .int .i64 r] 23)).alloc (.cells #[.int .i64 k', .int .i64 c', .int .i64 r'] 23) := ⟨_, rfl⟩
  have BF : Hid (Box W w.heap.size k c r) := by show Box _ _ _ _ _; rw [hW]; exact (box_new w k c r 23).gr ((Gr.refl _).alloc _)
  have BG : Hid (Box W (w.heap.size + 1) k' c' r') := by
    show Box _ _ _ _ _
    have h := box_new (w.alloc (.cells #[.int .i64 k, .int .i64 c, .int .i64 r] 23)) k' c' r' 23
    rw [World.size_alloc] at h
    rw [hW]
    exact h
  have GW : Hid (Gr w W) := by show Gr _ _; rw [hW]; exact ((Gr.refl _).alloc _).alloc _
  rw [← hW]
  generalize w.heap.size + 1 = gb at *
  generalize w.heap.size = fb at *
  clear hW
  have f0 : ∀ w', Gr W w' → w'.cell? ⟨fb, 0, none⟩ = some (.int .i64 k) := fun w' h => h.cell' BF.out.c0
  have f1 : ∀ w', Gr W w' → w'.cell? ⟨fb, 1, none⟩ = some (.int .i64 c) := fun w' h => h.cell' BF.out.c1
  have f2 : ∀ w', Gr W w' → w'.cell? ⟨fb, 2, none⟩ = some (.int .i64 r) := fun w' h => h.cell' BF.out.c2
  have g0 : ∀ w', Gr W w' → w'.cell? ⟨gb, 0, none⟩ = some (.int .i64 k') := fun w' h => h.cell' BG.out.c0
  have g1 : ∀ w', Gr W w' → w'.cell? ⟨gb, 1, none⟩ = some (.int .i64 c') := fun w' h => h.cell' BG.out.c1
  have g2 : ∀ w', Gr W w' → w'.cell? ⟨gb, 2, none⟩ = some (.int .i64 r') := fun w' h => h.cell' BG.out.c2
  go_region_held3 (fun w' => Gr W w') (first | assumption | exact (Gr.refl _).drew | exact Gr.refl _ | exact Gr.drew (by assumption))
    (first
      | (go_at_call_of 20 (Value.int IntKind.i64 k'); refine (ofE k' c' r' _).mono ?_; rintro e w2 ⟨vb, rfl, hE2, hg2⟩; have K2 : Gr W w2 := Gr.trans (by assumption) hg2; have E2 : Hid (Ev w2 vb k' c' r' []) := hE2; have C2 : Hid (Chain w2 k c r ba []) := C1.out.gr hg2; clear hE2 hg2)
      | (go_at_call 20; refine (of20 k c r _ HN.out).mono ?_; rintro e w1 ⟨ba, rfl, hC1, hg1⟩; have K1 : Gr W w1 := Gr.trans (by assumption) hg1; have C1 : Hid (Chain w1 k c r ba []) := hC1; clear hC1 hg1))
  go_wp2
  have HS2 : Hid (St w2) := HS.out.gr (GW.out.trans K2)
  go_region_held3 (fun w' => Gr W w') (first | assumption | exact Gr.drew (by assumption))
    (first
      | (go_at_call 9; refine (awake9 _ (HS2.out.gr (Gr.drew (Gr.refl _)))).mono ?_; rintro e w3 ⟨rfl, hg3⟩; have K3 : Gr W w3 := Gr.trans (by assumption) hg3; have M3 : Hid (Gr w2 w3) := (Gr.drew (Gr.refl _)).trans hg3; clear hg3)
      | (go_at_call 21; refine (deepE (er ba) k c r [] _ (HS2.out.gr M3.out).et (by decide) (Or.inr ⟨HN.out, ba, rfl, C2.out.gr M3.out⟩)).mono ?_; rw [HN.out]; rintro e w4 ⟨rfl, hg4⟩; have K4 : Gr W w4 := Gr.trans (by assumption) hg4; have M4 : Hid (Gr w2 w4) := M3.out.trans hg4; clear hg4))
  go_wp2
  go_loopw [7, 9, 10] (fun a t i wr => ∃ (p b : Nat), a = er b ∧ Hid (Chain wr k c r b (xs.take p).reverse) ∧ t = .string (saidB (xs.take p).reverse) ∧ i = .int .i64 p ∧ p ≤ xs.length ∧ Hid (Gr w4 wr)) (fun _ _ i _ => xs.length - (intOf i).toNat)
  case atStart => exact ⟨0, ba, rfl, C2.out.gr M4.out, rfl, rfl, Nat.zero_le _, Gr.refl _⟩
  case round =>
    obtain ⟨p, b1, rfl, HCR, rfl, rfl, hp, GR⟩ := hrel
    have HGr : Hid (Gr w wr) := GW.out.trans (K4.trans GR.out)
    have HP : Hid (p ≤ xs.length) := hp
    by_cases hlt : p < xs.length
    · have hz1 : (p : Int) < (xs.length : Int) := by omega
      have hz0 : (0 : Int) ≤ (p : Int) := by omega
      obtain ⟨b, off, hA, hcell⟩ := (HX.out.gr HGr.out) (by omega)
      subst hA
      have fc := hcell p hlt
      have HRV : Hid ((xs.take (p + 1)).reverse = xs[p] :: (xs.take p).reverse) := rev_step xs p hlt
      have HST : Hid (saidB (xs.take (p + 1)).reverse = xs[p] ++ col ++ saidB (xs.take p).reverse) := said_step xs p hlt
      have HZ := said_rev_le xs (p + 1)
      rw [HST.out, ByteArray.size_append, ByteArray.size_append] at HZ
      generalize xs[p] = y at *
      generalize (xs.take p).reverse = nsp at *
      generalize saidB nsp = sd at *
      have e1 : ∀ w, (Op.stringOp .add y col).run Tryd.prog w = .ok (.string (y ++ col)) w := fun w => run_string_add_sum w _ _ (by omega)
      have e2 : ∀ w, (Op.stringOp .add (y ++ col) sd).run Tryd.prog w = .ok (.string (y ++ col ++ sd)) w := fun w => run_string_add_sum w _ _ (by rw [ByteArray.size_append]; omega)
      clear HZ hcell
      go_wp2_with (go_at_call 22; refine (wrap22 k c r b1 nsp y _ HCR.out).mono ?_; rintro e w5 ⟨b5, rfl, hC5, hg5⟩; have C5 : Hid (Chain w5 k c r b5 (y :: nsp)) := hC5; have fd := hg5.cell' fc; have G5 : Hid (Gr w4 w5) := GR.out.trans hg5; clear hg5 hC5)
      go_roundw
      case rel => exact ⟨p + 1, b5, rfl, by rw [HRV.out]; exact C5.out, by rw [HST.out], by go_num, by omega, G5.out⟩
      case measure => simp [intOf]; omega
    · have hz1 : ¬ (p : Int) < (xs.length : Int) := by omega
      obtain rfl : p = xs.length := by omega
      rw [List.take_length] at HCR
      have KR : Gr W wr := K4.trans GR.out
      have HSr : Hid (St wr) := HS.out.gr HGr.out
      have ER : Hid (Ev wr vb k' c' r' []) := E2.out.gr (M4.out.trans GR.out)
      have EA : Hid (Ev wr (er b1) k c r xs.reverse) := Or.inr ⟨HN.out, b1, rfl, HCR.out⟩
      have HLx : Hid (xs.reverse.length ≤ 1048576) := by show _ ≤ _; rw [List.length_reverse]; omega
      go_wp2_with (go_at_call 23; refine (find23 k c r b1 xs.reverse _ HSr.out.et HCR.out HLx.out HN.out).mono ?_; rintro e w6 ⟨rfl, hg6⟩; have K6 : Gr W (w6.alloc (.cells #[.int .i64 k, .int .i64 c, .int .i64 r] 23)) := (KR.trans hg6).alloc _; have a0 := f0 _ K6; have a1 := f1 _ K6; have a2 := f2 _ K6)
      have GX : Hid (Gr wr (w6.alloc (.cells #[.int .i64 k, .int .i64 c, .int .i64 r] 23))) := hg6.alloc _
      have BX : Hid (Box (w6.alloc (.cells #[.int .i64 k, .int .i64 c, .int .i64 r] 23)) w6.heap.size k c r) := box_new w6 k c r 23
      clear a0 a1 a2 hg6
      generalize w6.heap.size = xb at *
      generalize w6.alloc (.cells #[.int .i64 k, .int .i64 c, .int .i64 r] 23) = W3 at *
      have x0 : ∀ w', Gr W3 w' → w'.cell? ⟨xb, 0, none⟩ = some (.int .i64 k) := fun w' h => h.cell' BX.out.c0
      have x1 : ∀ w', Gr W3 w' → w'.cell? ⟨xb, 1, none⟩ = some (.int .i64 c) := fun w' h => h.cell' BX.out.c1
      have x2 : ∀ w', Gr W3 w' → w'.cell? ⟨xb, 2, none⟩ = some (.int .i64 r) := fun w' h => h.cell' BX.out.c2
      have p0 : ∀ w', Gr W3 w' → w'.cell? ⟨fb, 0, none⟩ = some (.int .i64 k) := fun w' h => f0 w' (K6.trans h)
      have p1 : ∀ w', Gr W3 w' → w'.cell? ⟨fb, 1, none⟩ = some (.int .i64 c) := fun w' h => f1 w' (K6.trans h)
      have p2 : ∀ w', Gr W3 w' → w'.cell? ⟨fb, 2, none⟩ = some (.int .i64 r) := fun w' h => f2 w' (K6.trans h)
      have q0 : ∀ w', Gr W3 w' → w'.cell? ⟨gb, 0, none⟩ = some (.int .i64 k') := fun w' h => g0 w' (K6.trans h)
      have q1 : ∀ w', Gr W3 w' → w'.cell? ⟨gb, 1, none⟩ = some (.int .i64 c') := fun w' h => g1 w' (K6.trans h)
      have q2 : ∀ w', Gr W3 w' → w'.cell? ⟨gb, 2, none⟩ = some (.int .i64 r') := fun w' h => g2 w' (K6.trans h)
      have hDp : Hid (∀ w', Gr W3 w' → Calls Tryd.prog 21 #[er b1] w' fun e w'' => e = .returned (.int .i64 (xs.length : Int)) ∧ Gr w' w'') := fun w' h => by
        have hh := deepE (er b1) k c r xs.reverse w' (HSr.out.gr (GX.out.trans h)).et HLx.out (EA.out.gr (GX.out.trans h))
        rw [HN.out, List.length_reverse] at hh
        exact hh
      have hSy : Hid (∀ w', Gr W3 w' → Calls Tryd.prog 24 #[er b1] w' fun e w'' => e = .returned (.string (saidB xs.reverse ++ textB k c r)) ∧ Gr w' w'') := fun w' h => by
        have hh := sayE (er b1) k c r xs.reverse w' (HSr.out.gr (GX.out.trans h)) HK.out.1 HK.out.2.1 HK.out.2.2 (EA.out.gr (GX.out.trans h)) HLx.out hz
        have hv : sayB k c r xs.reverse = saidB xs.reverse ++ textB k c r := by unfold sayB; rw [HN.out]; rfl
        rw [hv] at hh
        exact hh
      have hI1 : Hid (∀ w', Gr W3 w' → Calls Tryd.prog 25 #[er b1, vb] w' fun e w'' => e = .returned (.bool (same k c r k' c' r')) ∧ Gr w' w'') := fun w' h =>
        isE (er b1) k c r xs.reverse vb k' c' r' [] w' (HSr.out.gr (GX.out.trans h)).et HLx.out (by decide) (EA.out.gr (GX.out.trans h)) (ER.out.gr (GX.out.trans h))
      have hI2 : Hid (∀ w', Gr W3 w' → Calls Tryd.prog 25 #[vb, er b1] w' fun e w'' => e = .returned (.bool (same k c r k' c' r')) ∧ Gr w' w'') := fun w' h => by
        have hh := isE vb k' c' r' [] (er b1) k c r xs.reverse w' (HSr.out.gr (GX.out.trans h)).et (by decide) HLx.out (ER.out.gr (GX.out.trans h)) (EA.out.gr (GX.out.trans h))
        rw [same_comm] at hh
        exact hh
      have hI3 : Hid (∀ w' b', Gr W3 w' → Chain w' k c r b' [oth] → Calls Tryd.prog 25 #[er b1, er b'] w' fun e w'' => e = .returned (.bool true) ∧ Gr w' w'') := fun w' b' h hc' => by
        have hh := isE (er b1) k c r xs.reverse (er b') k c r [oth] w' (HSr.out.gr (GX.out.trans h)).et HLx.out (by decide) (EA.out.gr (GX.out.trans h)) (Or.inr ⟨HN.out, b', rfl, hc'⟩)
        rw [same_self] at hh
        exact hh
      have hI4 : Hid (∀ w', Gr W3 w' → Calls Tryd.prog 25 #[er b1, .nilIface] w' fun e w'' => e = .returned (.bool false) ∧ Gr w' w'') := fun w' h => by
        have hh := isE (er b1) k c r xs.reverse .nilIface 0 0 0 [] w' (HSr.out.gr (GX.out.trans h)).et HLx.out (by decide) (EA.out.gr (GX.out.trans h)) (Or.inl ⟨rfl, rfl⟩)
        rw [same_none, HN.out] at hh
        exact hh
      have e9 : ∀ w, (Op.stringOp .add (saidB xs.reverse) (textB k c r)).run Tryd.prog w = .ok (.string (saidB xs.reverse ++ textB k c r)) w := fun w => run_string_add_sum w _ _ (by have := textB_size k c r HK.out.1 HK.out.2.1 HK.out.2.2; omega)
      have HK6 : Hid (Gr W W3) := K6
      clear f0 f1 f2 g0 g1 g2 K6 KR K4 K3 K2 K1
      have hTx : Hid (∀ w', Calls Tryd.prog 19 #[fl k c r] w' fun e w'' => e = .returned (.string (textB k c r)) ∧ Gr w' w'') := fun w' => rtext19 k c r HK.out.1 HK.out.2.1 HK.out.2.2 w'
      generalize er b1 = va at *
      generalize saidB xs.reverse = sd at *
      generalize textB k c r = tx at *
      go_region_held3 (fun w' => Gr W3 w') (first | assumption | exact (Gr.refl _).drew | exact Gr.refl _ | exact Gr.drew (by assumption))
        (first
          | (go_at_call 21; refine (hDp.out _ (by assumption)).mono ?_; rintro e y1 ⟨rfl, hh1⟩; have L1 : Gr W3 y1 := Gr.trans (by assumption) hh1; clear hh1)
          | (go_at_call 24; refine (hSy.out _ (by assumption)).mono ?_; rintro e y2 ⟨rfl, hh2⟩; have L2 : Gr W3 y2 := Gr.trans (by assumption) hh2; clear hh2)
          | (go_at_call 8; refine (ref8 k c r _).mono ?_; rintro e y3 ⟨rfl, hh3⟩; have L3 : Gr W3 y3 := Gr.trans (by assumption) hh3; clear hh3)
          | (go_at_call 19; refine (hTx.out _).mono ?_; rintro e y4 ⟨rfl, hh4⟩; have L4 : Gr W3 y4 := Gr.trans (by assumption) hh4; clear hh4)
          | (go_at_call_of 25 (#[va, vb] : Array Value); refine (hI1.out _ (by assumption)).mono ?_; rintro e y5 ⟨rfl, hh5⟩; have L5 : Gr W3 y5 := Gr.trans (by assumption) hh5; clear hh5)
          | (go_at_call_of 25 (#[vb, va] : Array Value); refine (hI2.out _ (by assumption)).mono ?_; rintro e y6 ⟨rfl, hh6⟩; have L6 : Gr W3 y6 := Gr.trans (by assumption) hh6; clear hh6)
          | (go_at_call 20; refine (of20 k c r _ HN.out).mono ?_; rintro e y7 ⟨b7, rfl, hC7, hh7⟩; have L7 : Gr W3 y7 := Gr.trans (by assumption) hh7; have C7 : Hid (Chain y7 k c r b7 []) := hC7; clear hh7 hC7)
          | (go_at_call 22; refine (wrap22 k c r b7 [] oth _ C7.out).mono ?_; rintro e y8 ⟨b8, rfl, hC8, hh8⟩; have L8 : Gr W3 y8 := Gr.trans (by assumption) hh8; have C8 : Hid (Chain y8 k c r b8 [oth]) := hC8; clear hh8 hC8)
          | (go_at_call_of 25 (Value.nilIface); refine (hI4.out _ (by assumption)).mono ?_; rintro e y10 ⟨rfl, hh10⟩; have L10 : Gr W3 y10 := Gr.trans (by assumption) hh10; clear hh10)
          | (go_at_call 25; refine (hI3.out _ b8 (by assumption) C8.out).mono ?_; rintro e y9 ⟨rfl, hh9⟩; have L9 : Gr W3 y9 := Gr.trans (by assumption) hh9; clear hh9))
      go_wp2
      go_ret
      exact ⟨rfl, GW.out.trans (HK6.out.trans L10)⟩
end Go.Proofs.YtifhfdndbnmhlaaDoor
