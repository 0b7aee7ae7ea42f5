/- The library's merge of two neighbouring ranges where the right one holds one key; no conditions but that the indices are within the row. -/
import Derived.Test.YtcdikdiopklcgaaGreatDoorQsa
namespace Go.Proofs.YtcdikdiopklcgaaGreatDoor.So
open Go.RowKit Go.Sort Go.Shelf Me
set_option linter.unusedVariables false

set_option maxHeartbeats 8000000 in
set_option maxRecDepth 100000 in
theorem sym52_right (w0 : World) (g n c : Nat) (L : List K) (a m b : Nat) (ham : a + 1 < m) (hb : b = m + 1) (h3 : b ≤ n) (w : World) (hn : n ≤ 5864062014634) (S1 : SIn L a m) (R : RW w0 g n c L w) :
    Calls Tryz.prog 98 #[.slice (some ⟨g, 0, none⟩) n c, .int .i64 a, .int .i64 m, .int .i64 b, cmpF] w fun e w' => e = .returned (.tuple #[]) ∧ ∃ L', Mod a b L L' ∧ SIn L' a b ∧ RW w0 g n c L' w' := by
  have mixed : Tryz.prog.follows .mixedOrders = true := by kernel_rfl
  have HR : Hid (RW w0 g n c L w) := R
  have HS : Hid (SIn L a m) := S1
  have HMB : Hid (b = m + 1) := hb
  have b1 : ((m : Int) - (a : Int) == 1) = false := by simp; omega
  have b2 : ((b : Int) - (m : Int) == 1) = true := by simp; omega
  have h2 : m < b := by omega
  clear R S1 hb
  unfold cmpF
  go_enter Tryz.func98, Tryz.ntmps98
  go_wp2
  go_loopw [14, 15] (fun x y wr => ∃ (i j : Nat), x = .int .i64 i ∧ y = .int .i64 j ∧ a ≤ i ∧ i ≤ j ∧ j ≤ m ∧ Hid (∀ t, a ≤ t → t < i → leK (A L t) (A L m)) ∧ Hid (∀ t, j ≤ t → t < m → leK (A L m) (A L t)) ∧ Hid (RW w0 g n c L wr)) (fun x y _ => (intOf y).toNat - (intOf x).toNat)
  case atStart => exact ⟨a, m, rfl, rfl, Nat.le_refl _, by omega, Nat.le_refl _, fun t q1 q2 => by omega, fun t q1 q2 => by omega, HR⟩
  case round =>
    obtain ⟨i, j, rfl, rfl, hi, hij, hjb, HLo, HHi, HW⟩ := hrel
    by_cases hlt : i < j
    · have iz : (i : Int) < (j : Int) := by omega
      obtain ⟨h, hh⟩ : ∃ h, h = (i + j) / 2 := ⟨_, rfl⟩
      have e1 : ((i : Int) + (j : Int)) / 2 = (h : Int) := by omega
      have hz : (h : Int) < (n : Int) := by omega
      have az : (m : Int) < (n : Int) := by omega
      have k1 : i ≤ h ∧ h < j := by omega
      have v0 := fun k os => (HW.out.cells m (by omega) k os).1
      have v1 := fun k os => (HW.out.cells m (by omega) k os).2
      have v2 := fun k os => (HW.out.cells h (by omega) k os).1
      have v3 := fun k os => (HW.out.cells h (by omega) k os).2
      have CM : Hid (∀ w, Calls Tryz.prog 49 #[.agg #[.int .u16 (A L m).1, .string (A L m).2], .agg #[.int .u16 (A L h).1, .string (A L h).2]] w fun e w' => e = .returned (.int .i64 (cmpK (A L m).1 (A L m).2 (A L h).1 (A L h).2)) ∧ Gr w w') := fun w => kcmp_ _ _ _ _ w
      have H1 : Hid (¬ cmpK (A L m).1 (A L m).2 (A L h).1 (A L h).2 < 0 → ∀ t, a ≤ t → t < h + 1 → leK (A L t) (A L m)) := fun hc t q1 q2 => leK_trans (HS.out.le t h q1 (by omega) (by omega)) (cmp_ge hc)
      have H2 : Hid (cmpK (A L m).1 (A L m).2 (A L h).1 (A L h).2 < 0 → ∀ t, h ≤ t → t < m → leK (A L m) (A L t)) := fun hc t q1 q2 => leK_trans (cmp_le hc) (HS.out.le h t (by omega) q1 q2)
      generalize cmpK (A L m).1 (A L m).2 (A L h).1 (A L h).2 = cv at *
      generalize (A L h).1 = x1 at *
      generalize (A L h).2 = x2 at *
      generalize (A L m).1 = y1 at *
      generalize (A L m).2 = y2 at *
      clear hh
      by_cases hc : cv < 0
      · go_wp2_with fail
        go_quiet_grown (first | (go_at_call 49; refine Calls.grown_of (CM.out _)) | (go_at_fn 49; refine Calls.grown_of (CM.out _)))
        go_wp2
        go_roundw
        case rel => exact ⟨i, h, rfl, rfl, hi, by omega, by omega, HLo, H2.out hc, HW.out.gr (gr_grow _ _ _)⟩
        case measure => simp [intOf]; omega
      · go_wp2_with fail
        go_quiet_grown (first | (go_at_call 49; refine Calls.grown_of (CM.out _)) | (go_at_fn 49; refine Calls.grown_of (CM.out _)))
        go_wp2
        all_goals first | (rename_i hx; exact absurd hx (by rw [Bool.not_eq_false', decide_eq_true_eq]; omega)) | skip
        go_roundw
        case rel => exact ⟨h + 1, j, by go_num, rfl, by omega, by omega, hjb, H1.out (by omega), HHi, HW.out.gr (gr_grow _ _ _)⟩
        case measure => simp [intOf]; omega
    · obtain rfl : i = j := by omega
      have iz : ¬ (i : Int) < (i : Int) := by omega
      go_wp2
      go_loopw [17] (fun x wr => ∃ (k : Nat) (Z : List K), x = .int .i64 k ∧ i ≤ k ∧ k ≤ m ∧ Hid (Mod a b L Z ∧ ShL L Z m k) ∧ Hid (RW w0 g n c Z wr)) (fun x _ => (intOf x).toNat)
      case atStart => exact ⟨m, L, rfl, by omega, Nat.le_refl _, ⟨Mod.refl _ _ _, shL_start L m⟩, HW⟩
      case round =>
        obtain ⟨k', Z, rfl, hak, hki, HZ, HV⟩ := hrel
        have hZl := HV.out.len
        by_cases hk : i < k'
        · obtain ⟨k, rfl⟩ : ∃ k, k' = k + 1 := ⟨k' - 1, by omega⟩
          have kz : (i : Int) < (k : Int) + 1 := by omega
          have q1 : k + 1 < Z.length := by omega
          have q2 : k < Z.length := by omega
          have i1 : (k : Int) + 1 < (n : Int) := by omega
          have i2 : (k : Int) < (n : Int) := by omega
          have i3 : (0 : Int) ≤ (k : Int) + 1 := by omega
          have i4 : ((k : Int) + 1).toNat = k + 1 := by omega
          have wk : IntKind.i64.wrap ((k : Int) + 1 - 1) = (k : Int) := by rw [IntKind.wrap_i64]; omega
          have wk' : IntKind.i64.wrap (k : Int) = (k : Int) := by rw [IntKind.wrap_i64]; omega
          obtain ⟨a0, a1, a2, a3⟩ := HV.out.at' (k + 1) (by omega)
          obtain ⟨c0, c1, c2, c3⟩ := HV.out.at' k (by omega)
          have HX : Hid _ := HV.out.swap' (k + 1) k q1 q2
          have HN : Hid (Mod a b L (swL Z (k + 1) k q1 q2) ∧ ShL L (swL Z (k + 1) k q1 q2) m k) := ⟨HZ.out.1.trans (mod_sw a b Z (k + 1) k q1 q2 (by omega) (by omega) (by omega) (by omega)), shL_step L Z m k (by omega) HZ.out.2 q1 q2⟩
          clear hZl
          generalize swL Z (k + 1) k q1 q2 = Z' at *
          generalize (A Z k).1 = x1 at *
          generalize (A Z k).2 = x2 at *
          generalize (A Z (k + 1)).1 = y1 at *
          generalize (A Z (k + 1)).2 = y2 at *
          go_wp2
          go_region
          all_goals go_wp2
          all_goals go_roundw
          case rel => exact ⟨k, Z', rfl, by omega, by omega, HN, HX.out.gr ((Gr.refl _).drew)⟩
          case measure => simp [intOf]
        · have kz : ¬ (i : Int) < (k' : Int) := by omega
          have HE : Hid (Mod a b L Z ∧ SIn Z a b) := ⟨HZ.out.1, by rw [HMB.out]; exact shL_sorted L Z a m i hi hjb (by rw [show i = k' by omega]; exact HZ.out.2) HS.out HLo.out HHi.out⟩
          clear hZl
          go_wp2
          exact bodyPost_ret (v := .tuple #[]) (by simp [results, Tryz.results98, go_sem]) rfl ⟨rfl, Z, HE.out.1, HE.out.2, HV.out⟩
end Go.Proofs.YtcdikdiopklcgaaGreatDoor.So
