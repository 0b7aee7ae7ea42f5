/- The contract of the library's sort by insertion at keys; no conditions but that the indices are within the row. -/
import Derived.Test.YtcdikdiopklcgaaGreatDoorQmd
namespace Go.Proofs.YtcdikdiopklcgaaGreatDoor.So
open Go.RowKit Go.Sort Go.Shelf Me
set_option linter.unusedVariables false

theorem cmp_le {L : List K} {i j : Nat} (h : cmpK (A L i).1 (A L i).2 (A L j).1 (A L j).2 < 0) : leK (A L i) (A L j) := leK_of_lt h
theorem cmp_ge {L : List K} {i j : Nat} (h : ¬ cmpK (A L i).1 (A L i).2 (A L j).1 (A L j).2 < 0) : leK (A L j) (A L i) := leK_of_not h
theorem RW.at' {w0 w : World} {g n c : Nat} {L : List K} (h : RW w0 g n c L w) (i : Nat) (hi : i < n) :
    w.cell? ⟨g, i * 2, none⟩ = some (.int .u16 (A L i).1) ∧ w.cell? ⟨g, i * 2 + 1, none⟩ = some (.string (A L i).2) ∧ w.frozen? ⟨g, i * 2, none⟩ = false ∧ w.frozen? ⟨g, i * 2 + 1, none⟩ = false := by
  have hl := h.len
  rw [A_eq L i (by omega)]
  exact h.at i (by omega)
theorem RW.swap' {w0 w : World} {g n c : Nat} {L : List K} (h : RW w0 g n c L w) (i j : Nat) (hi : i < L.length) (hj : j < L.length) :
    RW w0 g n c (swL L i j hi hj) ((((w.setCell ⟨g, i * 2, none⟩ (.int .u16 (A L j).1)).setCell ⟨g, i * 2 + 1, none⟩ (.string (A L j).2)).setCell ⟨g, j * 2, none⟩ (.int .u16 (A L i).1)).setCell ⟨g, j * 2 + 1, none⟩ (.string (A L i).2)) := by
  rw [A_eq L i hi, A_eq L j hj]
  exact h.swap i j hi hj

set_option maxHeartbeats 4000000 in
theorem ins51 (w0 : World) (g n c : Nat) (L : List K) (a b : Nat) (h1 : a ≤ b) (h3 : b ≤ n) (w : World) (hn : n ≤ 5864062014634) (R : RW w0 g n c L w) :
    Calls Tryz.prog 97 #[.slice (some ⟨g, 0, none⟩) n c, .int .i64 a, .int .i64 b, cmpF] w fun e w' => e = .returned (.tuple #[]) ∧ ∃ L', Mod a b L L' ∧ SIn L' a b ∧ RW w0 g n c L' w' := by
  have mixed : Tryz.prog.follows .mixedOrders = true := by kernel_rfl
  have HR : Hid (RW w0 g n c L w) := R
  clear R
  unfold cmpF
  go_enter Tryz.func97, Tryz.ntmps97
  go_wp2
  go_loopw [8] (fun v wr => ∃ (i : Nat) (Y : List K), v = .int .i64 i ∧ a + 1 ≤ i ∧ i ≤ b + 1 ∧ Hid (Mod a b L Y ∧ SIn Y a (min i b)) ∧ Hid (RW w0 g n c Y wr)) (fun v _ => b + 1 - (intOf v).toNat)
  case atStart => exact ⟨a + 1, L, by go_num, Nat.le_refl _, by omega, ⟨Mod.refl _ _ _, fun i j q1 q2 q3 => by omega⟩, HR⟩
  case round =>
    obtain ⟨i, Y, rfl, hi, hib, HM, HW⟩ := hrel
    by_cases hlt : i < b
    · have iz : (i : Int) < (b : Int) := by omega
      go_wp2
      go_loopw [9] (fun v wr => ∃ (j : Nat) (Z : List K), v = .int .i64 j ∧ a ≤ j ∧ j ≤ i ∧ Hid (Mod a b L Z ∧ InsI Z a i j) ∧ Hid (RW w0 g n c Z wr)) (fun v _ => (intOf v).toNat)
      case atStart => exact ⟨i, Y, rfl, by omega, Nat.le_refl _, ⟨HM.out.1, insI_start Y a i (HM.out.2.sub (Nat.le_refl _) (by omega))⟩, HW⟩
      case round =>
        obtain ⟨j, Z, rfl, haj, hji, HZ, HV⟩ := hrel
        have hZl := HV.out.len
        by_cases hja : a < j
        · obtain ⟨jp, rfl⟩ : ∃ jp, j = jp + 1 := ⟨j - 1, by omega⟩
          have jz : (a : Int) < (jp : Int) + 1 := by omega
          have i1 : (jp : Int) + 1 < (n : Int) := by omega
          have i2 : (jp : Int) < (n : Int) := by omega
          have i3 : (0 : Int) ≤ (jp : Int) + 1 := by omega
          have i4 : ((jp : Int) + 1).toNat = jp + 1 := by omega
          have wj : IntKind.i64.wrap (jp : Int) = (jp : Int) := by rw [IntKind.wrap_i64]; omega
          have q1 : jp + 1 < Z.length := by omega
          have q2 : jp < Z.length := by omega
          have v0 : ∀ n os, (grow (wr.drewN n) os).cell? ⟨g, (jp + 1) * 2, none⟩ = some (.int .u16 (A Z (jp + 1)).1) := fun n os => (gr_grow wr n os).cell (HV.out.at' (jp + 1) (by omega)).1 (by exact HV.out.lt')
          have v1 : ∀ n os, (grow (wr.drewN n) os).cell? ⟨g, (jp + 1) * 2 + 1, none⟩ = some (.string (A Z (jp + 1)).2) := fun n os => (gr_grow wr n os).cell (HV.out.at' (jp + 1) (by omega)).2.1 (by exact HV.out.lt')
          have v2 : ∀ n os, (grow (wr.drewN n) os).cell? ⟨g, jp * 2, none⟩ = some (.int .u16 (A Z jp).1) := fun n os => (gr_grow wr n os).cell (HV.out.at' jp (by omega)).1 (by exact HV.out.lt')
          have v3 : ∀ n os, (grow (wr.drewN n) os).cell? ⟨g, jp * 2 + 1, none⟩ = some (.string (A Z jp).2) := fun n os => (gr_grow wr n os).cell (HV.out.at' jp (by omega)).2.1 (by exact HV.out.lt')
          have HGO : Hid (cmpK (A Z (jp + 1)).1 (A Z (jp + 1)).2 (A Z jp).1 (A Z jp).2 < 0 → Mod a b L (swL Z (jp + 1) jp q1 q2) ∧ InsI (swL Z (jp + 1) jp q1 q2) a i jp) := fun hc =>
            ⟨HZ.out.1.trans (mod_sw a b Z (jp + 1) jp q1 q2 (by omega) (by omega) (by omega) (by omega)), insI_step Z a i jp (by omega) (by omega) HZ.out.2 q1 q2 (cmp_le hc)⟩
          have HST : Hid (¬ cmpK (A Z (jp + 1)).1 (A Z (jp + 1)).2 (A Z jp).1 (A Z jp).2 < 0 → SIn Z a (i + 1)) := fun hc => insI_stop Z a i (jp + 1) (by omega) (by omega) HZ.out.2 (Or.inr (cmp_ge hc))
          have HSW : Hid (∀ w', RW w0 g n c Z w' → RW w0 g n c (swL Z (jp + 1) jp q1 q2) ((((w'.setCell ⟨g, (jp + 1) * 2, none⟩ (.int .u16 (A Z jp).1)).setCell ⟨g, (jp + 1) * 2 + 1, none⟩ (.string (A Z jp).2)).setCell ⟨g, jp * 2, none⟩ (.int .u16 (A Z (jp + 1)).1)).setCell ⟨g, jp * 2 + 1, none⟩ (.string (A Z (jp + 1)).2))) := fun w' hw => hw.swap' (jp + 1) jp q1 q2
          have HFR : Hid (∀ w', RW w0 g n c Z w' → (w'.frozen? ⟨g, (jp + 1) * 2, none⟩ = false ∧ w'.frozen? ⟨g, (jp + 1) * 2 + 1, none⟩ = false ∧ w'.frozen? ⟨g, jp * 2, none⟩ = false ∧ w'.frozen? ⟨g, jp * 2 + 1, none⟩ = false)) := fun w' hw => ⟨(hw.at' (jp + 1) (by omega)).2.2.1, (hw.at' (jp + 1) (by omega)).2.2.2, (hw.at' jp (by omega)).2.2.1, (hw.at' jp (by omega)).2.2.2⟩
          have HMZ : Hid (Mod a b L Z) := HZ.out.1
          have CM : Hid (∀ w, Calls Tryz.prog 49 #[.agg #[.int .u16 (A Z (jp + 1)).1, .string (A Z (jp + 1)).2], .agg #[.int .u16 (A Z jp).1, .string (A Z jp).2]] w fun e w' => e = .returned (.int .i64 (cmpK (A Z (jp + 1)).1 (A Z (jp + 1)).2 (A Z jp).1 (A Z jp).2)) ∧ Gr w w') := fun w => kcmp_ _ _ _ _ w
          clear hZl
          generalize swL Z (jp + 1) jp q1 q2 = Z' at *
          generalize cmpK (A Z (jp + 1)).1 (A Z (jp + 1)).2 (A Z jp).1 (A Z jp).2 = cv at *
          generalize (A Z (jp + 1)).1 = x1 at *
          generalize (A Z (jp + 1)).2 = x2 at *
          generalize (A Z jp).1 = y1 at *
          generalize (A Z jp).2 = y2 at *
          clear HZ
          by_cases hc : cv < 0
          · go_wp2_with fail
            go_quiet_grown (first | (go_at_call 49; refine Calls.grown_of (CM.out _)) | (go_at_fn 49; refine Calls.grown_of (CM.out _)))
            obtain ⟨V, hV⟩ : ∃ V, V = grow (wr.drewN nq) osq := ⟨_, rfl⟩
            have HV2 : Hid (RW w0 g n c Z V) := by rw [hV]; exact HV.out.gr (gr_grow _ _ _)
            have u0 : V.cell? ⟨g, (jp + 1) * 2, none⟩ = some (.int .u16 x1) := by rw [hV]; exact v0 _ _
            have u1 : V.cell? ⟨g, (jp + 1) * 2 + 1, none⟩ = some (.string x2) := by rw [hV]; exact v1 _ _
            have u2 : V.cell? ⟨g, jp * 2, none⟩ = some (.int .u16 y1) := by rw [hV]; exact v2 _ _
            have u3 : V.cell? ⟨g, jp * 2 + 1, none⟩ = some (.string y2) := by rw [hV]; exact v3 _ _
            obtain ⟨t0, t1, t2, t3⟩ := HFR.out V HV2.out
            rw [← hV]
            clear hV v0 v1 v2 v3
            go_wp2_with fail
            go_region
            all_goals go_wp2
            all_goals go_roundw
            case rel => exact ⟨jp, Z', by go_num, by omega, by omega, HGO.out hc, (HSW.out V HV2.out).gr ((Gr.refl _).drew)⟩
            case measure => simp [intOf]
          · go_wp2_with fail
            go_quiet_grown (first | (go_at_call 49; refine Calls.grown_of (CM.out _)) | (go_at_fn 49; refine Calls.grown_of (CM.out _)))
            go_wp2
            go_roundw
            case rel => exact ⟨i + 1, Z, by go_num, by omega, by omega, ⟨HMZ.out, (HST.out (by omega)).sub (Nat.le_refl _) (by omega)⟩, HV.out.gr (gr_grow _ _ _)⟩
            case measure => simp [intOf]; omega
        · obtain rfl : j = a := by omega
          have jz : decide ((j : Int) > (j : Int)) = false := decide_eq_false (by omega)
          have HST : Hid (SIn Z j (i + 1)) := insI_stop Z j i j hji (Nat.le_refl _) HZ.out.2 (Or.inl rfl)
          have HMZ : Hid (Mod j b L Z) := HZ.out.1
          clear hZl HZ
          go_wp2_with fail
          go_quiet (fail)
          go_wp2
          go_roundw
          case rel => exact ⟨i + 1, Z, by go_num, by omega, by omega, ⟨HMZ.out, HST.out.sub (Nat.le_refl _) (by omega)⟩, HV.out.gr ((Gr.refl _).drewN _)⟩
          case measure => simp [intOf]; omega
    · have iz : ¬ (i : Int) < (b : Int) := by omega
      have HM' : Hid (Mod a b L Y ∧ SIn Y a b) := ⟨HM.out.1, HM.out.2.sub (Nat.le_refl _) (by omega)⟩
      clear HM
      go_wp2
      go_end0
      exact ⟨rfl, Y, HM'.out.1, HM'.out.2, HW.out⟩
end Go.Proofs.YtcdikdiopklcgaaGreatDoor.So
