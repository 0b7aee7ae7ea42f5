/- The walk of FailErrors where the first failure is none, at lists of at most a thousand notes; the conditions: the listed variables hold what the start lays, and the notes are not too long together. -/
import Derived.Test.YtifhfdndbnmhlaaDoorErr
import Derived.Deep.RegionHeld3
namespace Go.Proofs.YtifhfdndbnmhlaaDoor
open Go.RowKit Go.Sort
set_option linter.unusedVariables false

set_option maxRecDepth 100000 in
set_option maxHeartbeats 4000000 in
theorem errs_none (k' c' r' : Int) (xs : List ByteArray) (A : Option Addr) (cap : Nat) (hx : xs.length ≤ 1000) (w : World) (hS : St w) (hk' : I64 k') (hc' : I64 c') (hr' : I64 r') (hX : Nts w A xs) (hz : (saidB xs.reverse).size ≤ 4194304) :
    Calls Tryd.prog 5 #[fl 0 0 0, fl k' c' r', .slice A xs.length cap] w fun e w' => e = .returned (.bool true) ∧ Gr w w' := by
  have mixed := mixed
  have HS : Hid (St w) := hS
  have HX : Hid (Nts w A xs) := hX
  have HK : Hid (I64 k' ∧ I64 c' ∧ I64 r') := ⟨hk', hc', hr'⟩
  have hNz : ¬ (1000 : Int) < (xs.length : Int) := by omega
  clear hS hX hk' hc' hr'
  have heq := eql23 k' c' r' 0 0 0
  rw [same_none] at heq
  go_enter Tryd.func5, Tryd.ntmps5
  go_wp2
  obtain ⟨W, hW⟩ : ∃ W, W = (w.alloc (.cells #[.int .i64 0, .int .i64 0, .int .i64 0] 23)).alloc (.cells #[.int .i64 k', .int .i64 c', .int .i64 r'] 23) := ⟨_, rfl⟩
  have BF : Hid (Box W w.heap.size 0 0 0) := by show Box _ _ _ _ _; rw [hW]; exact (box_new w 0 0 0 23).gr ((Gr.refl _).alloc _)
  have BG : Hid (Box W (w.heap.size + 1) k' c' r') := by
    show Box _ _ _ _ _
    have h := box_new (w.alloc (.cells #[.int .i64 0, .int .i64 0, .int .i64 0] 23)) k' c' r' 23
    rw [World.size_alloc] at h
    rw [hW]
    exact h
  have GW : Hid (Gr w W) := by show Gr _ _; rw [hW]; exact ((Gr.refl _).alloc _).alloc _
  rw [← hW]
  generalize w.heap.size + 1 = gb at *
  generalize w.heap.size = fb at *
  clear hW
  have f0 : ∀ w', Gr W w' → w'.cell? ⟨fb, 0, none⟩ = some (.int .i64 0) := fun w' h => h.cell' BF.out.c0
  have f1 : ∀ w', Gr W w' → w'.cell? ⟨fb, 1, none⟩ = some (.int .i64 0) := fun w' h => h.cell' BF.out.c1
  have f2 : ∀ w', Gr W w' → w'.cell? ⟨fb, 2, none⟩ = some (.int .i64 0) := fun w' h => h.cell' BF.out.c2
  have g0 : ∀ w', Gr W w' → w'.cell? ⟨gb, 0, none⟩ = some (.int .i64 k') := fun w' h => h.cell' BG.out.c0
  have g1 : ∀ w', Gr W w' → w'.cell? ⟨gb, 1, none⟩ = some (.int .i64 c') := fun w' h => h.cell' BG.out.c1
  have g2 : ∀ w', Gr W w' → w'.cell? ⟨gb, 2, none⟩ = some (.int .i64 r') := fun w' h => h.cell' BG.out.c2
  go_region_held3 (fun w' => Gr W w') (first | assumption | exact (Gr.refl _).drew | exact Gr.refl _ | exact Gr.drew (by assumption))
    (first
      | (go_at_call_of 20 (Value.int IntKind.i64 k'); refine (ofE k' c' r' _).mono ?_; rintro e w2 ⟨vb, rfl, hE2, hg2⟩; have K2 : Gr W w2 := Gr.trans (by assumption) hg2; have E2 : Hid (Ev w2 vb k' c' r' []) := hE2; clear hE2 hg2)
      | (go_at_call 20; refine (of20_none _).mono ?_; rintro e w1 ⟨rfl, hg1⟩; have K1 : Gr W w1 := Gr.trans (by assumption) hg1; clear hg1))
  go_wp2
  have HS2 : Hid (St w2) := HS.out.gr (GW.out.trans K2)
  go_region_held3 (fun w' => Gr W w') (first | assumption | exact Gr.drew (by assumption))
    (first
      | (go_at_call 9; refine (awake9 _ (HS2.out.gr (Gr.drew (Gr.refl _)))).mono ?_; rintro e w3 ⟨rfl, hg3⟩; have K3 : Gr W w3 := Gr.trans (by assumption) hg3; have M3 : Hid (Gr w2 w3) := (Gr.drew (Gr.refl _)).trans hg3; clear hg3)
      | (go_at_call 21; refine (deepE .nilIface 0 0 0 [] _ (HS2.out.gr M3.out).et (by decide) (Or.inl ⟨rfl, rfl⟩)).mono ?_; rintro e w4 ⟨rfl, hg4⟩; have K4 : Gr W w4 := Gr.trans (by assumption) hg4; have M4 : Hid (Gr w2 w4) := M3.out.trans hg4; clear hg4))
  go_wp2
  go_loopw [7, 9, 10] (fun a t i wr => ∃ p : Nat, a = .nilIface ∧ t = .string (saidB (xs.take p).reverse) ∧ i = .int .i64 p ∧ p ≤ xs.length ∧ Hid (Gr w4 wr)) (fun _ _ i _ => xs.length - (intOf i).toNat)
  case atStart => exact ⟨0, rfl, rfl, rfl, Nat.zero_le _, Gr.refl _⟩
  case round =>
    obtain ⟨p, rfl, rfl, rfl, hp, GR⟩ := hrel
    have HGr : Hid (Gr w wr) := GW.out.trans (K4.trans GR.out)
    have HP : Hid (p ≤ xs.length) := hp
    by_cases hlt : p < xs.length
    · have hz1 : (p : Int) < (xs.length : Int) := by omega
      have hz0 : (0 : Int) ≤ (p : Int) := by omega
      obtain ⟨b, off, hA, hcell⟩ := (HX.out.gr HGr.out) (by omega)
      subst hA
      have fc := hcell p hlt
      have HST : Hid (saidB (xs.take (p + 1)).reverse = xs[p] ++ col ++ saidB (xs.take p).reverse) := said_step xs p hlt
      have HZ := said_rev_le xs (p + 1)
      rw [HST.out, ByteArray.size_append, ByteArray.size_append] at HZ
      generalize xs[p] = y at *
      generalize saidB (xs.take p).reverse = sd at *
      have e1 : ∀ w, (Op.stringOp .add y col).run Tryd.prog w = .ok (.string (y ++ col)) w := fun w => run_string_add_sum w _ _ (by omega)
      have e2 : ∀ w, (Op.stringOp .add (y ++ col) sd).run Tryd.prog w = .ok (.string (y ++ col ++ sd)) w := fun w => run_string_add_sum w _ _ (by rw [ByteArray.size_append]; omega)
      clear HZ hcell
      go_wp2_with (go_at_call 22; refine (wrap22_nil y _).mono ?_; rintro e w5 ⟨rfl, hg5⟩; have fd := hg5.cell' fc; have G5 : Hid (Gr w4 w5) := GR.out.trans hg5; clear hg5)
      go_roundw
      case rel => exact ⟨p + 1, rfl, by rw [HST.out], by go_num, by omega, G5.out⟩
      case measure => simp [intOf]; omega
    · have hz1 : ¬ (p : Int) < (xs.length : Int) := by omega
      obtain rfl : p = xs.length := by omega
      have KR : Gr W wr := K4.trans GR.out
      have h0 := f0 wr KR
      have HSr : Hid (St wr) := HS.out.gr HGr.out
      have ER : Hid (Ev wr vb k' c' r' []) := E2.out.gr (M4.out.trans GR.out)
      go_wp2_with (go_at_call 23; refine (find23_nil _).mono ?_; rintro e w6 ⟨rfl, hg6⟩; have K6 : Gr W (w6.alloc (.cells #[.int .i64 0, .int .i64 0, .int .i64 0] 23)) := (KR.trans hg6).alloc _; have a0 := f0 _ K6; have a1 := f1 _ K6; have a2 := f2 _ K6)
      have GX : Hid (Gr wr (w6.alloc (.cells #[.int .i64 0, .int .i64 0, .int .i64 0] 23))) := hg6.alloc _
      have BX : Hid (Box (w6.alloc (.cells #[.int .i64 0, .int .i64 0, .int .i64 0] 23)) w6.heap.size 0 0 0) := box_new w6 0 0 0 23
      clear a0 a1 a2 h0 hg6
      generalize w6.heap.size = xb at *
      generalize w6.alloc (.cells #[.int .i64 0, .int .i64 0, .int .i64 0] 23) = W3 at *
      have x0 : ∀ w', Gr W3 w' → w'.cell? ⟨xb, 0, none⟩ = some (.int .i64 0) := fun w' h => h.cell' BX.out.c0
      have x1 : ∀ w', Gr W3 w' → w'.cell? ⟨xb, 1, none⟩ = some (.int .i64 0) := fun w' h => h.cell' BX.out.c1
      have x2 : ∀ w', Gr W3 w' → w'.cell? ⟨xb, 2, none⟩ = some (.int .i64 0) := fun w' h => h.cell' BX.out.c2
      have p0 : ∀ w', Gr W3 w' → w'.cell? ⟨fb, 0, none⟩ = some (.int .i64 0) := fun w' h => f0 w' (K6.trans h)
      have p1 : ∀ w', Gr W3 w' → w'.cell? ⟨fb, 1, none⟩ = some (.int .i64 0) := fun w' h => f1 w' (K6.trans h)
      have p2 : ∀ w', Gr W3 w' → w'.cell? ⟨fb, 2, none⟩ = some (.int .i64 0) := fun w' h => f2 w' (K6.trans h)
      have q0 : ∀ w', Gr W3 w' → w'.cell? ⟨gb, 0, none⟩ = some (.int .i64 k') := fun w' h => g0 w' (K6.trans h)
      have q1 : ∀ w', Gr W3 w' → w'.cell? ⟨gb, 1, none⟩ = some (.int .i64 c') := fun w' h => g1 w' (K6.trans h)
      have q2 : ∀ w', Gr W3 w' → w'.cell? ⟨gb, 2, none⟩ = some (.int .i64 r') := fun w' h => g2 w' (K6.trans h)
      have hIs : Hid (∀ w', Gr W3 w' → Calls Tryd.prog 25 #[.nilIface, vb] w' fun e w'' => e = .returned (.bool (none3 k' c' r')) ∧ Gr w' w'') := fun w' h => by
        have hh := isE .nilIface 0 0 0 [] vb k' c' r' [] w' (HSr.out.gr (GX.out.trans h)).et (by decide) (by decide) (Or.inl ⟨rfl, rfl⟩) (ER.out.gr (GX.out.trans h))
        rw [none_same] at hh
        exact hh
      have HK6 : Hid (Gr W W3) := K6
      clear f0 f1 f2 g0 g1 g2 K6 KR K4 K3 K2 K1
      go_region_held3 (fun w' => Gr W3 w') (first | assumption | exact (Gr.refl _).drew | exact Gr.refl _ | exact Gr.drew (by assumption))
        (first
          | (go_at_call 24; refine (sayE_nil _).mono ?_; rintro e w7 ⟨rfl, hg7⟩; have K7 : Gr W3 w7 := Gr.trans (by assumption) hg7; clear hg7)
          | (go_at_call 21; refine (deepE .nilIface 0 0 0 [] _ (HSr.out.gr (GX.out.trans (by assumption))).et (by decide) (Or.inl ⟨rfl, rfl⟩)).mono ?_; rintro e w8 ⟨rfl, hg8⟩; have K8 : Gr W3 w8 := Gr.trans (by assumption) hg8; clear hg8)
          | (go_at_call 25; refine (hIs.out _ (by assumption)).mono ?_; rintro e w9 ⟨rfl, hg9⟩; have K9 : Gr W3 w9 := Gr.trans (by assumption) hg9; clear hg9))
      go_wp2
      go_ret
      exact ⟨rfl, GW.out.trans (HK6.out.trans K9)⟩
end Go.Proofs.YtifhfdndbnmhlaaDoor
