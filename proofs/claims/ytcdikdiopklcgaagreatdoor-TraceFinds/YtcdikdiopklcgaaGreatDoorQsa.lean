/- The library's merge of two neighbouring ranges where the left one holds one key; no conditions but that the indices are within the row. -/
import Derived.Test.YtcdikdiopklcgaaGreatDoorQsy
import Derived.Test.YtcdikdiopklcgaaGreatDoorQin
namespace Go.Proofs.YtcdikdiopklcgaaGreatDoor.So
open Go.RowKit Go.Sort Go.Shelf Me
set_option linter.unusedVariables false

theorem RW.cells {w0 w : World} {g n c : Nat} {L : List K} (h : RW w0 g n c L w) (i : Nat) (hi : i < n) (k : Nat) (os : Array Obj) :
    (grow (w.drewN k) os).cell? ⟨g, i * 2, none⟩ = some (.int .u16 (A L i).1) ∧ (grow (w.drewN k) os).cell? ⟨g, i * 2 + 1, none⟩ = some (.string (A L i).2) :=
  ⟨(gr_grow w k os).cell (h.at' i hi).1 (by exact h.lt'), (gr_grow w k os).cell (h.at' i hi).2.1 (by exact h.lt')⟩

set_option maxHeartbeats 8000000 in
set_option maxRecDepth 100000 in
theorem sym52_left (w0 : World) (g n c : Nat) (L : List K) (a m b : Nat) (hm : m = a + 1) (h2 : m < b) (h3 : b ≤ n) (w : World) (hn : n ≤ 5864062014634) (S2 : SIn L m b) (R : RW w0 g n c L w) :
    Calls Tryz.prog 98 #[.slice (some ⟨g, 0, none⟩) n c, .int .i64 a, .int .i64 m, .int .i64 b, cmpF] w fun e w' => e = .returned (.tuple #[]) ∧ ∃ L', Mod a b L L' ∧ SIn L' a b ∧ RW w0 g n c L' w' := by
  have mixed : Tryz.prog.follows .mixedOrders = true := by kernel_rfl
  have HR : Hid (RW w0 g n c L w) := R
  have HS : Hid (SIn L m b) := S2
  have HMA : Hid (m = a + 1) := hm
  have b1 : ((m : Int) - (a : Int) == 1) = true := by simp; omega
  have ham : a < m := by omega
  clear R S2 hm
  unfold cmpF
  go_enter Tryz.func98, Tryz.ntmps98
  go_wp2
  go_loopw [10, 11] (fun x y wr => ∃ (i j : Nat), x = .int .i64 i ∧ y = .int .i64 j ∧ m ≤ i ∧ i ≤ j ∧ j ≤ b ∧ Hid (∀ t, m ≤ t → t < i → leK (A L t) (A L a)) ∧ Hid (∀ t, j ≤ t → t < b → leK (A L a) (A L t)) ∧ Hid (RW w0 g n c L wr)) (fun x y _ => (intOf y).toNat - (intOf x).toNat)
  case atStart => exact ⟨m, b, rfl, rfl, Nat.le_refl _, by omega, Nat.le_refl _, fun t q1 q2 => by omega, fun t q1 q2 => by omega, HR⟩
  case round =>
    obtain ⟨i, j, rfl, rfl, hi, hij, hjb, HLo, HHi, HW⟩ := hrel
    by_cases hlt : i < j
    · have iz : (i : Int) < (j : Int) := by omega
      obtain ⟨h, hh⟩ : ∃ h, h = (i + j) / 2 := ⟨_, rfl⟩
      have e1 : ((i : Int) + (j : Int)) / 2 = (h : Int) := by omega
      have hz : (h : Int) < (n : Int) := by omega
      have az : (a : Int) < (n : Int) := by omega
      have k1 : i ≤ h ∧ h < j := by omega
      have v0 := fun k os => (HW.out.cells h (by omega) k os).1
      have v1 := fun k os => (HW.out.cells h (by omega) k os).2
      have v2 := fun k os => (HW.out.cells a (by omega) k os).1
      have v3 := fun k os => (HW.out.cells a (by omega) k os).2
      have CM : Hid (∀ w, Calls Tryz.prog 49 #[.agg #[.int .u16 (A L h).1, .string (A L h).2], .agg #[.int .u16 (A L a).1, .string (A L a).2]] w fun e w' => e = .returned (.int .i64 (cmpK (A L h).1 (A L h).2 (A L a).1 (A L a).2)) ∧ Gr w w') := fun w => kcmp_ _ _ _ _ w
      have H1 : Hid (cmpK (A L h).1 (A L h).2 (A L a).1 (A L a).2 < 0 → ∀ t, m ≤ t → t < h + 1 → leK (A L t) (A L a)) := fun hc t q1 q2 => leK_trans (HS.out.le t h q1 (by omega) (by omega)) (cmp_le hc)
      have H2 : Hid (¬ cmpK (A L h).1 (A L h).2 (A L a).1 (A L a).2 < 0 → ∀ t, h ≤ t → t < b → leK (A L a) (A L t)) := fun hc t q1 q2 => leK_trans (cmp_ge hc) (HS.out.le h t (by omega) q1 q2)
      generalize cmpK (A L h).1 (A L h).2 (A L a).1 (A L a).2 = cv at *
      generalize (A L h).1 = x1 at *
      generalize (A L h).2 = x2 at *
      generalize (A L a).1 = y1 at *
      generalize (A L a).2 = y2 at *
      clear hh
      by_cases hc : cv < 0
      · go_wp2_with fail
        go_quiet_grown (first | (go_at_call 49; refine Calls.grown_of (CM.out _)) | (go_at_fn 49; refine Calls.grown_of (CM.out _)))
        go_wp2
        go_roundw
        case rel => exact ⟨h + 1, j, by go_num, rfl, by omega, by omega, hjb, H1.out hc, HHi, HW.out.gr (gr_grow _ _ _)⟩
        case measure => simp [intOf]; omega
      · go_wp2_with fail
        go_quiet_grown (first | (go_at_call 49; refine Calls.grown_of (CM.out _)) | (go_at_fn 49; refine Calls.grown_of (CM.out _)))
        go_wp2
        go_roundw
        case rel => exact ⟨i, h, rfl, rfl, hi, by omega, by omega, HLo, H2.out (by omega), HW.out.gr (gr_grow _ _ _)⟩
        case measure => simp [intOf]; omega
    · obtain rfl : i = j := by omega
      have iz : ¬ (i : Int) < (i : Int) := by omega
      go_wp2
      go_loopw [13] (fun x wr => ∃ (k : Nat) (Z : List K), x = .int .i64 k ∧ a ≤ k ∧ k + 1 ≤ i ∧ Hid (Mod a b L Z ∧ ShR L Z a k) ∧ Hid (RW w0 g n c Z wr)) (fun x _ => i - (intOf x).toNat)
      case atStart => exact ⟨a, L, rfl, Nat.le_refl _, by omega, ⟨Mod.refl _ _ _, shR_start L a⟩, HW⟩
      case round =>
        obtain ⟨k, Z, rfl, hak, hki, HZ, HV⟩ := hrel
        have hZl := HV.out.len
        by_cases hk : k + 1 < i
        · have kz : (k : Int) < (i : Int) - 1 := by omega
          have q1 : k < Z.length := by omega
          have q2 : k + 1 < Z.length := by omega
          have i1 : (k : Int) + 1 < (n : Int) := by omega
          have i2 : (k : Int) < (n : Int) := by omega
          have i3 : (0 : Int) ≤ (k : Int) + 1 := by omega
          have i4 : ((k : Int) + 1).toNat = k + 1 := by omega
          have wk : IntKind.i64.wrap ((k : Int) + 1) = (k : Int) + 1 := by rw [IntKind.wrap_i64]; omega
          obtain ⟨a0, a1, a2, a3⟩ := HV.out.at' k (by omega)
          obtain ⟨c0, c1, c2, c3⟩ := HV.out.at' (k + 1) (by omega)
          have HX : Hid _ := HV.out.swap' k (k + 1) q1 q2
          have HN : Hid (Mod a b L (swL Z k (k + 1) q1 q2) ∧ ShR L (swL Z k (k + 1) q1 q2) a (k + 1)) := ⟨HZ.out.1.trans (mod_sw a b Z k (k + 1) q1 q2 hak (by omega) (by omega) (by omega)), shR_step L Z a k hak HZ.out.2 q1 q2⟩
          clear hZl
          generalize swL Z k (k + 1) q1 q2 = Z' at *
          generalize (A Z k).1 = x1 at *
          generalize (A Z k).2 = x2 at *
          generalize (A Z (k + 1)).1 = y1 at *
          generalize (A Z (k + 1)).2 = y2 at *
          go_wp2
          go_region
          all_goals go_wp2
          all_goals go_roundw
          case rel => exact ⟨k + 1, Z', by go_num, by omega, by omega, HN, HX.out.gr ((Gr.refl _).drew)⟩
          case measure => simp [intOf]; omega
        · have kz : ¬ (k : Int) < (i : Int) - 1 := by omega
          have HE : Hid (Mod a b L Z ∧ SIn Z a b) := ⟨HZ.out.1, shR_sorted L Z a b i (by have := HMA.out; omega) hjb (by rw [show i - 1 = k by omega]; exact HZ.out.2) (by rw [← HMA.out]; exact HS.out) (by rw [← HMA.out]; exact HLo.out) HHi.out⟩
          clear hZl
          go_wp2
          exact bodyPost_ret (v := .tuple #[]) (by simp [results, Tryz.results98, go_sem]) rfl ⟨rfl, Z, HE.out.1, HE.out.2, HV.out⟩
end Go.Proofs.YtcdikdiopklcgaaGreatDoor.So
