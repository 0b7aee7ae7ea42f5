/- The contract of the library's merge of two neighbouring ranges at keys; no conditions but that the indices are within the row. -/
import Derived.Test.YtcdikdiopklcgaaGreatDoorQsb
namespace Go.Proofs.YtcdikdiopklcgaaGreatDoor.So
open Go.RowKit Go.Sort Go.Shelf Me
set_option linter.unusedVariables false

def Bnd (a m b mid s0 r0 : Nat) : Prop := (s0 = a ∧ r0 = m ∧ m ≤ mid) ∨ (s0 = mid + m - b ∧ r0 = mid ∧ mid < m)
theorem split_of {L : List K} {a m b mid s0 r0 s : Nat} (h1 : a < m) (h2 : m < b) (hm : mid = (a + b) / 2) (B : Bnd a m b mid s0 r0) (hs0 : s0 ≤ s) (hr0 : s ≤ r0) (S1 : SIn L a m) (S2 : SIn L m b)
    (lo : s = s0 ∨ leK (A L (s - 1)) (A L (mid + m - s))) (hi : s = r0 ∨ leK (A L (mid + m - 1 - s)) (A L s)) : Split L a m b s (mid + m - s) mid := by
  unfold Bnd at B
  refine ⟨by omega, by omega, by omega, by omega, by omega, fun p q p1 p2 q1 q2 => ?_, fun p q p1 p2 q1 q2 => ?_⟩
  · rcases lo with e | e
    · omega
    · exact leK_trans (leK_trans (S1.le p (s - 1) p1 (by omega) (by omega)) e) (S2.le (mid + m - s) q (by omega) q1 q2)
  · rcases hi with e | e
    · omega
    · exact leK_trans (leK_trans (S2.le p (mid + m - 1 - s) p1 (by omega) (by omega)) e) (S1.le s q (by omega) q1 q2)

set_option maxHeartbeats 16000000 in
set_option maxRecDepth 100000 in
theorem sym52_step (w0 : World) (g n c : Nat) (hn : n ≤ 5864062014634) (d : Nat)
    (IH : ∀ (L : List K) (a m b : Nat), a < m → m < b → b ≤ n → b - a < d → SIn L a m → SIn L m b → ∀ w, RW w0 g n c L w → Calls Tryz.prog 98 #[.slice (some ⟨g, 0, none⟩) n c, .int .i64 a, .int .i64 m, .int .i64 b, cmpF] w fun e w' => e = .returned (.tuple #[]) ∧ ∃ L', Mod a b L L' ∧ SIn L' a b ∧ RW w0 g n c L' w')
    (L : List K) (a m b : Nat) (ham : a + 1 < m) (hmb : m + 1 < b) (h3 : b ≤ n) (hd : b - a ≤ d) (S1 : SIn L a m) (S2 : SIn L m b) (w : World) (R : RW w0 g n c L w) :
    Calls Tryz.prog 98 #[.slice (some ⟨g, 0, none⟩) n c, .int .i64 a, .int .i64 m, .int .i64 b, cmpF] w fun e w' => e = .returned (.tuple #[]) ∧ ∃ L', Mod a b L L' ∧ SIn L' a b ∧ RW w0 g n c L' w' := by
  have mixed : Tryz.prog.follows .mixedOrders = true := by kernel_rfl
  have HR : Hid (RW w0 g n c L w) := R
  have HS1 : Hid (SIn L a m) := S1
  have HS2 : Hid (SIn L m b) := S2
  have HRot : Hid (∀ s m e, s < m → m < e → e ≤ n → ∀ w, RW w0 g n c L w → Calls Tryz.prog 113 #[.slice (some ⟨g, 0, none⟩) n c, .int .i64 s, .int .i64 m, .int .i64 e, cmpF] w fun e' w' => e' = .returned (.tuple #[]) ∧ ∃ L', L'.Perm L ∧ (∀ t, L'[t]? = T L s m e t) ∧ RW w0 g n c L' w') := fun s m e e1 e2 e3 w r => rot58 w0 g n c L s m e e1 e2 e3 w hn r
  have HI : Hid (∀ (L : List K) (a m b : Nat), a < m → m < b → b ≤ n → b - a < d → SIn L a m → SIn L m b → ∀ w, RW w0 g n c L w → Calls Tryz.prog 98 #[.slice (some ⟨g, 0, none⟩) n c, .int .i64 a, .int .i64 m, .int .i64 b, cmpF] w fun e w' => e = .returned (.tuple #[]) ∧ ∃ L', Mod a b L L' ∧ SIn L' a b ∧ RW w0 g n c L' w') := IH
  have b1 : ((m : Int) - (a : Int) == 1) = false := by simp; omega
  have b2 : ((b : Int) - (m : Int) == 1) = false := by simp; omega
  obtain ⟨mid, hmid⟩ : ∃ mid, mid = (a + b) / 2 := ⟨_, rfl⟩
  have midz : ((a : Int) + (b : Int)) / 2 = (mid : Int) := by omega
  obtain ⟨nn, hnn⟩ : ∃ nn, nn = mid + m := ⟨_, rfl⟩
  have nnz : (mid : Int) + (m : Int) = (nn : Int) := by omega
  obtain ⟨p, hp⟩ : ∃ p, p = nn - 1 := ⟨_, rfl⟩
  have pz : (nn : Int) - 1 = (p : Int) := by omega
  have hB : ∃ s0 r0, Bnd a m b mid s0 r0 ∧ s0 ≤ r0 := by
    unfold Bnd
    by_cases q : mid < m
    · exact ⟨mid + m - b, mid, Or.inr ⟨rfl, rfl, q⟩, by omega⟩
    · exact ⟨a, m, Or.inl ⟨rfl, rfl, by omega⟩, by omega⟩
  obtain ⟨s0, r0, B, hsr⟩ := hB
  have HB : Hid (Bnd a m b mid s0 r0) := B
  have HMid : Hid (mid = (a + b) / 2) := hmid
  unfold Bnd at B
  have l1 : a ≤ s0 := by omega
  have l2 : r0 ≤ m := by omega
  have l3 : r0 ≤ mid := by omega
  have l4 : nn ≤ b + s0 := by omega
  have hmidb : a < mid ∧ mid < b := by omega
  have nnu : nn ≤ 2 * n := by omega
  have p1u : p + 1 = nn := by omega
  have HNN : Hid (nn = mid + m) := hnn
  have hsb : ((nn : Int) - (b : Int) = (s0 : Int) ∧ r0 = mid ∧ (mid : Int) < (m : Int)) ∨ (s0 = a ∧ r0 = m ∧ ¬ (mid : Int) < (m : Int)) := by omega
  have snn : r0 ≤ p := by omega
  clear R S1 S2 IH B hmid hp hnn
  unfold cmpF at HRot HI ⊢
  go_enter Tryz.func98, Tryz.ntmps98
  rcases hsb with ⟨sb1, sb2, sb3⟩ | ⟨sb1, sb2, sb3⟩
  all_goals go_wp2
  all_goals go_loopw [20, 21] (fun x y wr => ∃ (i j : Nat), x = .int .i64 i ∧ y = .int .i64 j ∧ s0 ≤ i ∧ i ≤ j ∧ j ≤ r0 ∧ Hid (i = s0 ∨ leK (A L (i - 1)) (A L (mid + m - i))) ∧ Hid (j = r0 ∨ leK (A L (mid + m - 1 - j)) (A L j)) ∧ Hid (RW w0 g n c L wr)) (fun x y _ => (intOf y).toNat - (intOf x).toNat)
  case atStart => exact ⟨s0, r0, by go_num, by rw [sb2], Nat.le_refl _, hsr, Nat.le_refl _, Or.inl rfl, Or.inl rfl, HR⟩
  case atStart => exact ⟨s0, r0, by rw [sb1], by rw [sb2], Nat.le_refl _, hsr, Nat.le_refl _, Or.inl rfl, Or.inl rfl, HR⟩
  all_goals clear sb1 sb2 sb3
  all_goals
    obtain ⟨i, j, rfl, rfl, hi, hij, hjb, HLo, HHi, HW⟩ := hrel
    by_cases hlt : i < j
    · have iz : (i : Int) < (j : Int) := by omega
      obtain ⟨h, hh⟩ : ∃ h, h = (i + j) / 2 := ⟨_, rfl⟩
      have e1 : ((i : Int) + (j : Int)) / 2 = (h : Int) := by omega
      have k1 : i ≤ h ∧ h < j := by omega
      obtain ⟨q, hq⟩ : ∃ q, q = p - h := ⟨_, rfl⟩
      have qz : (p : Int) - (h : Int) = (q : Int) := by omega
      have wk : IntKind.i64.wrap ((p : Int) - (h : Int)) = (q : Int) := by rw [IntKind.wrap_i64]; omega
      have wk' : IntKind.i64.wrap (q : Int) = (q : Int) := by rw [IntKind.wrap_i64]; omega
      have hz : (h : Int) < (n : Int) := by omega
      have az : (q : Int) < (n : Int) := by omega
      have v0 := fun k os => (HW.out.cells q (by omega) k os).1
      have v1 := fun k os => (HW.out.cells q (by omega) k os).2
      have v2 := fun k os => (HW.out.cells h (by omega) k os).1
      have v3 := fun k os => (HW.out.cells h (by omega) k os).2
      have CM : Hid (∀ w, Calls Tryz.prog 49 #[.agg #[.int .u16 (A L q).1, .string (A L q).2], .agg #[.int .u16 (A L h).1, .string (A L h).2]] w fun e w' => e = .returned (.int .i64 (cmpK (A L q).1 (A L q).2 (A L h).1 (A L h).2)) ∧ Gr w w') := fun w => kcmp_ _ _ _ _ w
      have H1 : Hid (¬ cmpK (A L q).1 (A L q).2 (A L h).1 (A L h).2 < 0 → leK (A L (h + 1 - 1)) (A L (mid + m - (h + 1)))) := fun hc => by
        have := HNN.out
        rw [show h + 1 - 1 = h by omega, show mid + m - (h + 1) = q by omega]
        exact cmp_ge hc
      have H2 : Hid (cmpK (A L q).1 (A L q).2 (A L h).1 (A L h).2 < 0 → leK (A L (mid + m - 1 - h)) (A L h)) := fun hc => by
        have := HNN.out
        rw [show mid + m - 1 - h = q by omega]
        exact cmp_le hc
      generalize cmpK (A L q).1 (A L q).2 (A L h).1 (A L h).2 = cv at *
      generalize (A L h).1 = x1 at *
      generalize (A L h).2 = x2 at *
      generalize (A L q).1 = y1 at *
      generalize (A L q).2 = y2 at *
      clear hh hq
      by_cases hc : cv < 0
      · go_wp2_with fail
        go_quiet_grown (first | (go_at_call 49; refine Calls.grown_of (CM.out _)) | (go_at_fn 49; refine Calls.grown_of (CM.out _)))
        go_wp2
        go_roundw
        case rel => exact ⟨i, h, rfl, rfl, hi, by omega, by omega, HLo, Or.inr (H2.out hc), HW.out.gr (gr_grow _ _ _)⟩
        case measure => simp [intOf]; omega
      · go_wp2_with fail
        go_quiet_grown (first | (go_at_call 49; refine Calls.grown_of (CM.out _)) | (go_at_fn 49; refine Calls.grown_of (CM.out _)))
        go_wp2
        all_goals first | (rename_i hx; exact absurd hx (by rw [Bool.not_eq_false', decide_eq_true_eq]; omega)) | skip
        go_roundw
        case rel => exact ⟨h + 1, j, by go_num, rfl, by omega, by omega, hjb, Or.inr (H1.out (by omega)), HHi, HW.out.gr (gr_grow _ _ _)⟩
        case measure => simp [intOf]; omega
    · obtain rfl : i = j := by omega
      have iz : ¬ (i : Int) < (i : Int) := by omega
      obtain ⟨s, rfl⟩ : ∃ s, s = i := ⟨_, rfl⟩
      obtain ⟨e, he⟩ : ∃ e, e = mid + m - s := ⟨_, rfl⟩
      have HSp : Hid (Split L a m b s e mid) := by
        rw [he]
        exact split_of (by omega) (by omega) HMid.out HB.out hi hjb HS1.out HS2.out HLo.out HHi.out
      have ez : (nn : Int) - (s : Int) = (e : Int) := by have := HNN.out; omega
      have f1 := HSp.out.has
      have f2 := HSp.out.hsm
      have f3 := HSp.out.hme
      have f4 := HSp.out.heb
      have f5 := HSp.out.hmid
      clear he HLo HHi HB HMid
      by_cases q1 : s < m
      · by_cases q4 : s < mid
        · have q2 : m < e := by omega
          by_cases q3 : a < s
          · by_cases q6 : e < b
            · have z1 : (s : Int) < (m : Int) := by omega
              have z2 : (m : Int) < (e : Int) := by omega
              have z3 : (a : Int) < (s : Int) := by omega
              have z4 : (s : Int) < (mid : Int) := by omega
              have z5 : (mid : Int) < (e : Int) := by omega
              have z6 : (e : Int) < (b : Int) := by omega
              have AA : Hid _ := HRot.out s m e q1 q2 (by omega) wr HW.out
              go_wp2_with fail
              refine Calls.mono AA.out ?_
              rintro e' w1 ⟨rfl, Y, hp, ht, hw⟩
              have HY : Hid (Y.Perm L ∧ (∀ t, Y[t]? = T L s m e t)) := ⟨hp, ht⟩
              have HV : Hid (RW w0 g n c Y w1) := hw
              clear hp ht hw AA
              have HQ : Hid _ := split_rot HSp.out HS1.out HS2.out HY.out.2
              have AB : Hid _ := HI.out Y a s mid (by omega) (by omega) (by omega) (by omega) HQ.out.1 HQ.out.2.1 w1 HV.out
              go_wp2_with fail
              refine Calls.mono AB.out ?_
              rintro e' w2 ⟨rfl, Z, hm', hs', hw⟩
              have HM2 : Hid (Mod a mid Y Z ∧ SIn Z a mid) := ⟨hm', hs'⟩
              have HV2 : Hid (RW w0 g n c Z w2) := hw
              clear hm' hs' hw AB
              have AC : Hid _ := HI.out Z mid e b (by omega) (by omega) (by omega) (by omega) (HQ.out.2.2.1.of_out HM2.out.1 (Or.inr (Nat.le_refl _))) (HQ.out.2.2.2.1.of_out HM2.out.1 (Or.inr (by omega))) w2 HV2.out
              go_wp2_with fail
              refine Calls.mono AC.out ?_
              rintro e' w3 ⟨rfl, X, hm', hs', hw⟩
              have HM3 : Hid (Mod mid b Z X ∧ SIn X mid b) := ⟨hm', hs'⟩
              have HV3 : Hid (RW w0 g n c X w3) := hw
              clear hm' hs' hw AC
              have HE : Hid (Mod a b L X ∧ SIn X a b) := ⟨((T_mod HY.out.1 HY.out.2 (by omega) (by omega) (by omega) (by omega)).trans (HM2.out.1.widen (Nat.le_refl _) (by omega))).trans (HM3.out.1.widen (by omega) (Nat.le_refl _)), join_sorted HQ.out.2.2.2.2 HM2.out.1 HM3.out.1 HM2.out.2 HM3.out.2⟩
              go_wp2
              go_end0
              exact ⟨rfl, X, HE.out.1, HE.out.2, HV3.out⟩
            · have z1 : (s : Int) < (m : Int) := by omega
              have z2 : (m : Int) < (e : Int) := by omega
              have z3 : (a : Int) < (s : Int) := by omega
              have z4 : (s : Int) < (mid : Int) := by omega
              have z5 : (mid : Int) < (e : Int) := by omega
              have z6 : ¬ (e : Int) < (b : Int) := by omega
              have AA : Hid _ := HRot.out s m e q1 q2 (by omega) wr HW.out
              go_wp2_with fail
              refine Calls.mono AA.out ?_
              rintro e' w1 ⟨rfl, Y, hp, ht, hw⟩
              have HY : Hid (Y.Perm L ∧ (∀ t, Y[t]? = T L s m e t)) := ⟨hp, ht⟩
              have HV : Hid (RW w0 g n c Y w1) := hw
              clear hp ht hw AA
              have HQ : Hid _ := split_rot HSp.out HS1.out HS2.out HY.out.2
              have AB : Hid _ := HI.out Y a s mid (by omega) (by omega) (by omega) (by omega) HQ.out.1 HQ.out.2.1 w1 HV.out
              go_wp2_with fail
              refine Calls.mono AB.out ?_
              rintro e' w2 ⟨rfl, Z, hm', hs', hw⟩
              have HM2 : Hid (Mod a mid Y Z ∧ SIn Z a mid) := ⟨hm', hs'⟩
              have HV2 : Hid (RW w0 g n c Z w2) := hw
              clear hm' hs' hw AB
              have HM3 : Hid (Mod mid b Z Z ∧ SIn Z mid b) := ⟨Mod.refl _ _ _, sin_join_empty (HQ.out.2.2.1.of_out HM2.out.1 (Or.inr (Nat.le_refl _))) (HQ.out.2.2.2.1.of_out HM2.out.1 (Or.inr (by omega))) (by omega)⟩
              have HE : Hid (Mod a b L Z ∧ SIn Z a b) := ⟨((T_mod HY.out.1 HY.out.2 (by omega) (by omega) (by omega) (by omega)).trans (HM2.out.1.widen (Nat.le_refl _) (by omega))).trans (HM3.out.1.widen (by omega) (Nat.le_refl _)), join_sorted HQ.out.2.2.2.2 HM2.out.1 HM3.out.1 HM2.out.2 HM3.out.2⟩
              go_wp2
              go_end0
              exact ⟨rfl, Z, HE.out.1, HE.out.2, HV2.out⟩
          · by_cases q6 : e < b
            · have z1 : (s : Int) < (m : Int) := by omega
              have z2 : (m : Int) < (e : Int) := by omega
              have z3 : ¬ (a : Int) < (s : Int) := by omega
              have z4 : (s : Int) < (mid : Int) := by omega
              have z5 : (mid : Int) < (e : Int) := by omega
              have z6 : (e : Int) < (b : Int) := by omega
              have AA : Hid _ := HRot.out s m e q1 q2 (by omega) wr HW.out
              go_wp2_with fail
              refine Calls.mono AA.out ?_
              rintro e' w1 ⟨rfl, Y, hp, ht, hw⟩
              have HY : Hid (Y.Perm L ∧ (∀ t, Y[t]? = T L s m e t)) := ⟨hp, ht⟩
              have HV : Hid (RW w0 g n c Y w1) := hw
              clear hp ht hw AA
              have HQ : Hid _ := split_rot HSp.out HS1.out HS2.out HY.out.2
              have HM2 : Hid (Mod a mid Y Y ∧ SIn Y a mid) := ⟨Mod.refl _ _ _, sin_join_empty HQ.out.1 HQ.out.2.1 (by omega)⟩
              have AC : Hid _ := HI.out Y mid e b (by omega) (by omega) (by omega) (by omega) (HQ.out.2.2.1.of_out HM2.out.1 (Or.inr (Nat.le_refl _))) (HQ.out.2.2.2.1.of_out HM2.out.1 (Or.inr (by omega))) w1 HV.out
              go_wp2_with fail
              refine Calls.mono AC.out ?_
              rintro e' w3 ⟨rfl, X, hm', hs', hw⟩
              have HM3 : Hid (Mod mid b Y X ∧ SIn X mid b) := ⟨hm', hs'⟩
              have HV3 : Hid (RW w0 g n c X w3) := hw
              clear hm' hs' hw AC
              have HE : Hid (Mod a b L X ∧ SIn X a b) := ⟨((T_mod HY.out.1 HY.out.2 (by omega) (by omega) (by omega) (by omega)).trans (HM2.out.1.widen (Nat.le_refl _) (by omega))).trans (HM3.out.1.widen (by omega) (Nat.le_refl _)), join_sorted HQ.out.2.2.2.2 HM2.out.1 HM3.out.1 HM2.out.2 HM3.out.2⟩
              go_wp2
              go_end0
              exact ⟨rfl, X, HE.out.1, HE.out.2, HV3.out⟩
            · have z1 : (s : Int) < (m : Int) := by omega
              have z2 : (m : Int) < (e : Int) := by omega
              have z3 : ¬ (a : Int) < (s : Int) := by omega
              have z4 : (s : Int) < (mid : Int) := by omega
              have z5 : (mid : Int) < (e : Int) := by omega
              have z6 : ¬ (e : Int) < (b : Int) := by omega
              have AA : Hid _ := HRot.out s m e q1 q2 (by omega) wr HW.out
              go_wp2_with fail
              refine Calls.mono AA.out ?_
              rintro e' w1 ⟨rfl, Y, hp, ht, hw⟩
              have HY : Hid (Y.Perm L ∧ (∀ t, Y[t]? = T L s m e t)) := ⟨hp, ht⟩
              have HV : Hid (RW w0 g n c Y w1) := hw
              clear hp ht hw AA
              have HQ : Hid _ := split_rot HSp.out HS1.out HS2.out HY.out.2
              have HM2 : Hid (Mod a mid Y Y ∧ SIn Y a mid) := ⟨Mod.refl _ _ _, sin_join_empty HQ.out.1 HQ.out.2.1 (by omega)⟩
              have HM3 : Hid (Mod mid b Y Y ∧ SIn Y mid b) := ⟨Mod.refl _ _ _, sin_join_empty (HQ.out.2.2.1.of_out HM2.out.1 (Or.inr (Nat.le_refl _))) (HQ.out.2.2.2.1.of_out HM2.out.1 (Or.inr (by omega))) (by omega)⟩
              have HE : Hid (Mod a b L Y ∧ SIn Y a b) := ⟨((T_mod HY.out.1 HY.out.2 (by omega) (by omega) (by omega) (by omega)).trans (HM2.out.1.widen (Nat.le_refl _) (by omega))).trans (HM3.out.1.widen (by omega) (Nat.le_refl _)), join_sorted HQ.out.2.2.2.2 HM2.out.1 HM3.out.1 HM2.out.2 HM3.out.2⟩
              go_wp2
              go_end0
              exact ⟨rfl, Y, HE.out.1, HE.out.2, HV.out⟩
        · have z1 : (s : Int) < (m : Int) := by omega
          have z2 : ¬ (m : Int) < (e : Int) := by omega
          have z3 : (a : Int) < (s : Int) := by omega
          have z4 : ¬ (s : Int) < (mid : Int) := by omega
          have z5 : (mid : Int) < (e : Int) := by omega
          have z6 : (e : Int) < (b : Int) := by omega
          have HY : Hid (L.Perm L ∧ (∀ t, L[t]? = T L s m e t)) := ⟨List.Perm.refl _, fun t => T_same L s m e t (by omega) (by omega) (by omega)⟩
          have HQ : Hid _ := split_rot HSp.out HS1.out HS2.out HY.out.2
          have HM2 : Hid (Mod a mid L L ∧ SIn L a mid) := ⟨Mod.refl _ _ _, sin_join_empty HQ.out.1 HQ.out.2.1 (by omega)⟩
          have AC : Hid _ := HI.out L mid e b (by omega) (by omega) (by omega) (by omega) (HQ.out.2.2.1.of_out HM2.out.1 (Or.inr (Nat.le_refl _))) (HQ.out.2.2.2.1.of_out HM2.out.1 (Or.inr (by omega))) wr HW.out
          go_wp2_with fail
          refine Calls.mono AC.out ?_
          rintro e' w3 ⟨rfl, X, hm', hs', hw⟩
          have HM3 : Hid (Mod mid b L X ∧ SIn X mid b) := ⟨hm', hs'⟩
          have HV3 : Hid (RW w0 g n c X w3) := hw
          clear hm' hs' hw AC
          have HE : Hid (Mod a b L X ∧ SIn X a b) := ⟨((T_mod HY.out.1 HY.out.2 (by omega) (by omega) (by omega) (by omega)).trans (HM2.out.1.widen (Nat.le_refl _) (by omega))).trans (HM3.out.1.widen (by omega) (Nat.le_refl _)), join_sorted HQ.out.2.2.2.2 HM2.out.1 HM3.out.1 HM2.out.2 HM3.out.2⟩
          go_wp2
          go_end0
          exact ⟨rfl, X, HE.out.1, HE.out.2, HV3.out⟩
      · by_cases q4 : s < mid
        · have z1 : ¬ (s : Int) < (m : Int) := by omega
          have z3 : (a : Int) < (s : Int) := by omega
          have z4 : (s : Int) < (mid : Int) := by omega
          have z5 : ¬ (mid : Int) < (e : Int) := by omega
          have HY : Hid (L.Perm L ∧ (∀ t, L[t]? = T L s m e t)) := ⟨List.Perm.refl _, fun t => T_same L s m e t (by omega) (by omega) (by omega)⟩
          have HQ : Hid _ := split_rot HSp.out HS1.out HS2.out HY.out.2
          have AB : Hid _ := HI.out L a s mid (by omega) (by omega) (by omega) (by omega) HQ.out.1 HQ.out.2.1 wr HW.out
          go_wp2_with fail
          refine Calls.mono AB.out ?_
          rintro e' w2 ⟨rfl, Z, hm', hs', hw⟩
          have HM2 : Hid (Mod a mid L Z ∧ SIn Z a mid) := ⟨hm', hs'⟩
          have HV2 : Hid (RW w0 g n c Z w2) := hw
          clear hm' hs' hw AB
          have HM3 : Hid (Mod mid b Z Z ∧ SIn Z mid b) := ⟨Mod.refl _ _ _, sin_join_empty (HQ.out.2.2.1.of_out HM2.out.1 (Or.inr (Nat.le_refl _))) (HQ.out.2.2.2.1.of_out HM2.out.1 (Or.inr (by omega))) (by omega)⟩
          have HE : Hid (Mod a b L Z ∧ SIn Z a b) := ⟨((T_mod HY.out.1 HY.out.2 (by omega) (by omega) (by omega) (by omega)).trans (HM2.out.1.widen (Nat.le_refl _) (by omega))).trans (HM3.out.1.widen (by omega) (Nat.le_refl _)), join_sorted HQ.out.2.2.2.2 HM2.out.1 HM3.out.1 HM2.out.2 HM3.out.2⟩
          go_wp2
          go_end0
          exact ⟨rfl, Z, HE.out.1, HE.out.2, HV2.out⟩
        · have z1 : ¬ (s : Int) < (m : Int) := by omega
          have z3 : (a : Int) < (s : Int) := by omega
          have z4 : ¬ (s : Int) < (mid : Int) := by omega
          have z5 : ¬ (mid : Int) < (e : Int) := by omega
          have HY : Hid (L.Perm L ∧ (∀ t, L[t]? = T L s m e t)) := ⟨List.Perm.refl _, fun t => T_same L s m e t (by omega) (by omega) (by omega)⟩
          have HQ : Hid _ := split_rot HSp.out HS1.out HS2.out HY.out.2
          have HM2 : Hid (Mod a mid L L ∧ SIn L a mid) := ⟨Mod.refl _ _ _, sin_join_empty HQ.out.1 HQ.out.2.1 (by omega)⟩
          have HM3 : Hid (Mod mid b L L ∧ SIn L mid b) := ⟨Mod.refl _ _ _, sin_join_empty (HQ.out.2.2.1.of_out HM2.out.1 (Or.inr (Nat.le_refl _))) (HQ.out.2.2.2.1.of_out HM2.out.1 (Or.inr (by omega))) (by omega)⟩
          have HE : Hid (Mod a b L L ∧ SIn L a b) := ⟨((T_mod HY.out.1 HY.out.2 (by omega) (by omega) (by omega) (by omega)).trans (HM2.out.1.widen (Nat.le_refl _) (by omega))).trans (HM3.out.1.widen (by omega) (Nat.le_refl _)), join_sorted HQ.out.2.2.2.2 HM2.out.1 HM3.out.1 HM2.out.2 HM3.out.2⟩
          go_wp2
          go_end0
          exact ⟨rfl, L, HE.out.1, HE.out.2, HW.out⟩

theorem sym52 (w0 : World) (g n c : Nat) (hn : n ≤ 5864062014634) : ∀ (d : Nat) (L : List K) (a m b : Nat), a < m → m < b → b ≤ n → b - a ≤ d → SIn L a m → SIn L m b → ∀ w, RW w0 g n c L w → Calls Tryz.prog 98 #[.slice (some ⟨g, 0, none⟩) n c, .int .i64 a, .int .i64 m, .int .i64 b, cmpF] w fun e w' => e = .returned (.tuple #[]) ∧ ∃ L', Mod a b L L' ∧ SIn L' a b ∧ RW w0 g n c L' w' := by
  intro d
  induction d with
  | zero => intro L a m b h1 h2 h3 hd; omega
  | succ d ih =>
    intro L a m b h1 h2 h3 hd S1 S2 w R
    by_cases c1 : m = a + 1
    · exact sym52_left w0 g n c L a m b c1 h2 h3 w hn S2 R
    · by_cases c2 : b = m + 1
      · exact sym52_right w0 g n c L a m b (by omega) c2 h3 w hn S1 R
      · exact sym52_step w0 g n c hn (d + 1) (fun L a m b k1 k2 k3 k4 => ih L a m b k1 k2 k3 (by omega)) L a m b (by omega) (by omega) h3 hd S1 S2 w R
end Go.Proofs.YtcdikdiopklcgaaGreatDoor.So
