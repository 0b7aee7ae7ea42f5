/- The walk of the law KeyLists, given the contract of the program's sorted list: it returns true and turns nothing that was there; the list's bytes are within the form's reach. -/
import Derived.Test.YtbaljfkjgfkdiaaDoorGatW
import Derived.Test.YtbaljfkjgfkdiaaDoorSrt
namespace Go.Proofs.YtbaljfkjgfkdiaaDoor
open Go.RowKit Go.Sort Go.Maps Go.WideMaps
set_option linter.unusedVariables false

def SortedOk (xs : List K) : Prop := ∀ (w : World) (v : Value), Sl w v xs → Calls Tryd.prog 25 #[v] w fun e w' => ∃ v' ys, e = .returned v' ∧ Sl w' v' ys ∧ ys.Perm xs ∧ ys.Pairwise leK ∧ Below w.heap.size w w'

theorem Oks.names {xs : List K} (h : Oks xs) : Names xs := fun x hx => (h x hx).2

set_option maxHeartbeats 4000000 in
theorem lists_row (xs : List K) (b off cap : Nat) (w : World) (hl : xs.length * 24 ≤ 140737488351232) (hpos : 0 < xs.length) (hN : Oks xs) (hS : SortedOk xs) (R : Row w b off xs) :
    Calls Tryd.prog 6 #[.slice (some ⟨b, off, none⟩) xs.length cap] w fun e w' => e = .returned (.bool true) ∧ Below w.heap.size w w' := by
  have mixed : Tryd.prog.follows .mixedOrders = true := by kernel_rfl
  obtain ⟨i4, hi4, hz40, hz41, hz42⟩ := info_parts info24
  have HSL : Hid (Sl w (.slice (some ⟨b, off, none⟩) xs.length cap) xs) := Or.inr ⟨b, off, cap, rfl, R⟩
  have HR : Hid _ := R
  have HNm : Hid (Oks xs) := hN
  have HS : Hid (SortedOk xs) := hS
  have HL : Hid _ := hl
  have hnews : ∀ j u, (cellsK xs)[j]? = some u → (w.alloc (.cells #[] 24)).cell? ((⟨b, off, none⟩ : Addr).add j) = some u := by
    intro j u hj
    have hlt : j < xs.length * 2 := by
      have := (List.getElem?_eq_some_iff.1 hj).1
      rw [cellsK_len] at this
      exact this
    have ha : (⟨b, off, none⟩ : Addr).add j = ⟨b, off + j, none⟩ := by simp [Addr.add]
    rw [ha, World.cell?_of_block (w := w) (a := ⟨b, off + j, none⟩) (Below.heap_alloc w _ b R.lt)]
    rcases Nat.mod_two_eq_zero_or_one j with hm | hm
    · obtain ⟨i, rfl⟩ : ∃ i, j = i * 2 := ⟨j / 2, by omega⟩
      rw [cellsK_at0 xs i (by omega)] at hj
      rw [← hj]
      exact R.at0 i (by omega)
    · obtain ⟨i, rfl⟩ : ∃ i, j = i * 2 + 1 := ⟨j / 2, by omega⟩
      rw [cellsK_at1 xs i (by omega)] at hj
      rw [← hj]
      exact R.at1 i (by omega)
  have h1c : ∀ u ∈ cellsK xs, u.oneCell' = true := by
    intro u hu
    unfold cellsK at hu
    simp only [List.mem_flatMap, List.mem_cons, List.not_mem_nil, or_false] at hu
    obtain ⟨x, _, rfl | rfl⟩ := hu <;> rfl
  have HNW : Hid _ := hnews
  have H1C : Hid _ := h1c
  clear hnews h1c R hN hS
  go_enter Tryd.func6, Tryd.ntmps6
  go_wp2_with (at_builtin; refine wpList_append_lies _ rfl _ _ 52 rfl w.heap.size 24 i4 (.agg #[.int .u16 0, .string ⟨#[]⟩]) 2 24 Tryd.underlying52 hi4 hz40 hz41 hz42 rfl (by decide) _ 0 [] rfl ⟨rfl, Or.inr ⟨w.heap.size, 0, #[], rfl, Nat.le_refl _, heap_alloc_new w _, Nat.le_refl _, by unfold maxLen; omega, rfl, rfl⟩⟩ ⟨b, off, none⟩ xs.length cap (cellsK xs) rfl (cellsK_len xs) HNW.out H1C.out hpos (by unfold maxLen; omega) (by omega) (by simp) _ rfl ?_; intro g c w1 hown hgrow hat hlt)
  have B1 : Hid (Below w.heap.size w w1) := ((Below.refl _ _).alloc (Nat.le_refl _) _).grown hgrow (by simp) (fun j hj => by
    have h2 : some w.heap.size = some j := hj
    cases h2
    exact Nat.le_refl _)
  have SI : Hid (Sl w1 (.slice (some ⟨g, 0, none⟩) xs.length c) xs) := Or.inr ⟨g, 0, c, rfl, owns_row (by simpa using hown)⟩
  clear hown hgrow hat hlt hi4 hz40 hz41 hz42 HNW H1C hl
  have C1 : Hid (Below w1.heap.size w1 w1) := Below.refl _ _
  go_wp2_with fail
  refine Calls.mono (awake9 _) ?_
  rintro e w2 ⟨rfl, g2⟩
  have C2 : Hid (Below w1.heap.size w1 w2) := C1.out.trans ((g2.below).mono C1.out.size)
  clear g2
  go_wp2_with fail
  refine Calls.mono (HS.out _ (.slice (some ⟨g, 0, none⟩) xs.length c) (SI.out.below C2.out)) ?_
  rintro e w3 ⟨vs, ys, rfl, sY, pY, oY, b3⟩
  have C3 : Hid (Below w1.heap.size w1 w3) := C2.out.trans ((b3).mono C2.out.size)
  have SY : Hid (Sl w3 vs ys) := sY
  have PY : Hid (ys.Perm xs ∧ ys.Pairwise leK) := ⟨pY, oY⟩
  clear b3 sY pY oY
  go_wp2_with fail
  refine Calls.mono (all27 xs (.slice (some ⟨b, off, none⟩) xs.length cap) _ HL.out (HSL.out.below (B1.out.trans (C3.out.mono B1.out.size)))) ?_
  rintro e w4 ⟨va, rfl, sA, b4⟩
  have C4 : Hid (Below w1.heap.size w1 w4) := C3.out.trans ((b4).mono C3.out.size)
  have SY4 : Hid (Sl w4 vs ys) := SY.out.below b4
  have SA : Hid (Sl w4 va xs) := sA
  clear b4 sA SY
  go_wp2_with fail
  refine Calls.mono (ref26 xs va _ HL.out HNm.out.names SA.out) ?_
  rintro e w5 ⟨vz, zs, rfl, sZ, pZ, oZ, b5⟩
  have C5 : Hid (Below w1.heap.size w1 w5) := C4.out.trans ((b5).mono C4.out.size)
  obtain rfl : ys = zs := sorted_unique ys zs (PY.out.1.trans pZ.symm) PY.out.2 oZ
  have SY5 : Hid (Sl w5 vs ys) := SY4.out.below b5
  have SZ : Hid (Sl w5 vz ys) := sZ
  have HYL : Hid (ys.length = xs.length) := PY.out.1.length_eq
  clear b5 sZ pZ oZ SY4 SA
  go_wp2_with fail
  refine Calls.mono (same24 ys vs vz _ (by have := HYL.out; have := HL.out; omega) SY5.out SZ.out) ?_
  rintro e w6 ⟨rfl, g6⟩
  have C6 : Hid (Below w1.heap.size w1 w6) := C5.out.trans ((g6.below).mono C5.out.size)
  clear g6 SY5 SZ PY HYL
  go_wp2_with fail
  refine Calls.mono (all27 xs (.slice (some ⟨b, off, none⟩) xs.length cap) _ HL.out (HSL.out.below (B1.out.trans (C6.out.mono B1.out.size)))) ?_
  rintro e w7 ⟨va1, rfl, sA, b7⟩
  have C7 : Hid (Below w1.heap.size w1 w7) := C6.out.trans ((b7).mono C6.out.size)
  have SA : Hid (Sl w7 va1 xs) := sA
  clear b7 sA
  go_wp2_with fail
  refine Calls.mono (same24 xs (.slice (some ⟨g, 0, none⟩) xs.length c) va1 _ (by have := HL.out; omega) (SI.out.below C7.out) SA.out) ?_
  rintro e w8 ⟨rfl, g8⟩
  have C8 : Hid (Below w1.heap.size w1 w8) := C7.out.trans ((g8.below).mono C7.out.size)
  clear g8 SA
  go_wp2_with fail
  refine Calls.mono (all27 xs (.slice (some ⟨b, off, none⟩) xs.length cap) _ HL.out (HSL.out.below (B1.out.trans (C8.out.mono B1.out.size)))) ?_
  rintro e w9 ⟨va2, rfl, sA, b9⟩
  have C9 : Hid (Below w1.heap.size w1 w9) := C8.out.trans ((b9).mono C8.out.size)
  have SA : Hid (Sl w9 va2 xs) := sA
  clear b9 sA
  go_wp2_with fail
  refine Calls.mono (ref28 xs va2 _ HL.out SA.out) ?_
  rintro e w10 ⟨vu, rfl, sU, b10⟩
  have C10 : Hid (Below w1.heap.size w1 w10) := C9.out.trans ((b10).mono C9.out.size)
  have SU : Hid (Sl w10 vu (unl [] xs)) := sU
  clear b10 sU SA
  go_wp2_with fail
  refine Calls.mono (unlike29 xs (.slice (some ⟨g, 0, none⟩) xs.length c) _ HL.out HNm.out (SI.out.below C10.out)) ?_
  rintro e w11 ⟨vk, rfl, sK, b11⟩
  have C11 : Hid (Below w1.heap.size w1 w11) := C10.out.trans ((b11).mono C10.out.size)
  have SU11 : Hid (Sl w11 vu (unl [] xs)) := SU.out.below b11
  have SK : Hid (Sl w11 vk (unl [] xs)) := sK
  clear b11 sK SU
  go_wp2_with fail
  refine Calls.mono (same24 (unl [] xs) vk vu _ (by have := unl_len [] xs; have := HL.out; simp only [List.length_nil] at *; omega) SK.out SU11.out) ?_
  rintro e w12 ⟨rfl, g12⟩
  have C12 : Hid (Below w1.heap.size w1 w12) := C11.out.trans ((g12.below).mono C11.out.size)
  have SU12 : Hid (Sl w12 vu (unl [] xs)) := SU11.out.gr g12
  clear g12 SK SU11
  go_wp2_with fail
  refine Calls.mono (all27 xs (.slice (some ⟨b, off, none⟩) xs.length cap) _ HL.out (HSL.out.below (B1.out.trans (C12.out.mono B1.out.size)))) ?_
  rintro e w13 ⟨va3, rfl, sA, b13⟩
  have C13 : Hid (Below w1.heap.size w1 w13) := C12.out.trans ((b13).mono C12.out.size)
  have SU13 : Hid (Sl w13 vu (unl [] xs)) := SU12.out.below b13
  have SA : Hid (Sl w13 va3 xs) := sA
  clear b13 sA SU12
  go_wp2_with fail
  refine Calls.mono (same24 xs (.slice (some ⟨g, 0, none⟩) xs.length c) va3 _ (by have := HL.out; omega) (SI.out.below C13.out) SA.out) ?_
  rintro e w14 ⟨rfl, g14⟩
  have C14 : Hid (Below w1.heap.size w1 w14) := C13.out.trans ((g14.below).mono C13.out.size)
  have SU14 : Hid (Sl w14 vu (unl [] xs)) := SU13.out.gr g14
  clear g14 SA SU13
  go_wp2_with fail
  refine Calls.mono (count30 xs (.slice (some ⟨g, 0, none⟩) xs.length c) _ HL.out HNm.out (SI.out.below C14.out)) ?_
  rintro e w15 ⟨vc, rfl, sC, b15⟩
  have C15 : Hid (Below w1.heap.size w1 w15) := C14.out.trans ((b15).mono C14.out.size)
  have SU15 : Hid (Sl w15 vu (unl [] xs)) := SU14.out.below b15
  have SC : Hid (SlI w15 vc (counts (unl [] xs) xs)) := sC
  clear b15 sC SU14
  have HU0 : Hid (0 < (unl [] xs).length) := by
    show 0 < _
    have hm : xs[0] ∈ unl [] xs := (unl_mem [] xs _).2 (Or.inr (List.getElem_mem hpos))
    exact List.length_pos_of_mem hm
  have HUL : Hid ((unl [] xs).length ≤ xs.length) := by
    show _ ≤ _
    have := unl_len [] xs
    simpa using this
  obtain ⟨bu, ou, cu, rfl, rU⟩ : ∃ bu ou cu, vu = .slice (some ⟨bu, ou, none⟩) (unl [] xs).length cu ∧ Row w15 bu ou (unl [] xs) := by
    rcases SU15.out with ⟨h0, _⟩ | h
    · rw [h0] at HU0
      exact absurd HU0.out (Nat.lt_irrefl 0)
    · exact h
  obtain ⟨bc, cc, rfl, lC, rC⟩ : ∃ bc cc, vc = .slice (some ⟨bc, 0, none⟩) (unl [] xs).length cc ∧ bc < w15.heap.size ∧ ∀ i (h : i < (unl [] xs).length), w15.cell? ⟨bc, i, none⟩ = some (.int .i64 (cnt ((unl [] xs)[i]) xs : Int)) := by
    rcases SC.out with ⟨h0, _⟩ | ⟨bc, cc, h, h1, h2⟩
    · have h3 := congrArg List.length h0
      rw [counts_len] at h3
      exact absurd HU0.out (by rw [h3]; exact Nat.lt_irrefl 0)
    · refine ⟨bc, cc, by rw [counts_len] at h; exact h, h1, fun i hi => ?_⟩
      have := h2 i (by rw [counts_len]; exact hi)
      rw [this]
      simp [counts]
  have RU : Hid (Row w15 bu ou (unl [] xs)) := rU
  have RC : Hid (bc < w15.heap.size ∧ ∀ i (h : i < (unl [] xs).length), w15.cell? ⟨bc, i, none⟩ = some (.int .i64 (cnt ((unl [] xs)[i]) xs : Int))) := ⟨lC, rC⟩
  clear rU lC rC SU15 SC HS
  generalize unl [] xs = U at *
  go_wp2_with fail
  refine Calls.mono (all27 xs (.slice (some ⟨b, off, none⟩) xs.length cap) _ HL.out (HSL.out.below (B1.out.trans (C15.out.mono B1.out.size)))) ?_
  rintro e w16 ⟨va4, rfl, sA, b16⟩
  have C16 : Hid (Below w1.heap.size w1 w16) := C15.out.trans (b16.mono C15.out.size)
  have SA : Hid (Sl w16 va4 xs) := sA
  have D16 : Hid (Below w15.heap.size w15 w16) := b16
  clear b16 sA
  go_wp2_with fail
  refine Calls.mono (same24 xs (.slice (some ⟨g, 0, none⟩) xs.length c) va4 _ (by have := HL.out; omega) (SI.out.below C16.out) SA.out) ?_
  rintro e w17 ⟨rfl, g17⟩
  have C17 : Hid (Below w1.heap.size w1 w17) := C16.out.trans (g17.below.mono C16.out.size)
  have D17 : Hid (Below w15.heap.size w15 w17) := D16.out.trans (g17.below.mono D16.out.size)
  have B17 : Hid (Below w.heap.size w w17) := B1.out.trans (C17.out.mono B1.out.size)
  have RU17 : Hid (Row w17 bu ou U) := RU.out.below D17.out
  have RC17 : Hid (bc < w17.heap.size ∧ ∀ i (h : i < U.length), w17.cell? ⟨bc, i, none⟩ = some (.int .i64 (cnt (U[i]) xs : Int))) := ⟨Nat.lt_of_lt_of_le RC.out.1 D17.out.size, fun i h => by rw [D17.out.cell (by exact RC.out.1)]; exact RC.out.2 i h⟩
  have RL17 : Hid (Row w17 b off xs) := HR.out.below B17.out
  clear g17 SA D16 D17 RU RC C16 C17
  clear C1 C2 C3 C4 C5 C6 C7 C8 C9 C10 C11 C12 C13 C14 C15
  have hlb : xs.length * 24 ≤ 140737488351232 := HL.out
  have hub : U.length ≤ xs.length := HUL.out
  go_wp2_with fail
  go_loopw [63] (fun i wr => ∃ k : Nat, i = .int .i64 k ∧ k ≤ U.length ∧ Hid (Below w17.heap.size w17 wr)) (fun i _ => U.length - (intOf i).toNat)
  case atStart => exact ⟨0, rfl, Nat.zero_le _, Below.refl _ _⟩
  case round =>
    obtain ⟨k, rfl, hk, HB⟩ := hrel
    obtain ⟨wo, rfl⟩ : ∃ wo, wo = wr := ⟨_, rfl⟩
    by_cases hlt : k < U.length
    · have kz : (k : Int) < (U.length : Int) := by omega
      have kz0 : (0 : Int) ≤ (k : Int) := by omega
      have f0 : wo.cell? ⟨bu, ou + k * 2, none⟩ = some (.int .u16 U[k].1) := by rw [HB.out.cell (by exact RU17.out.lt)]; exact RU17.out.at0 k hlt
      have f1 : wo.cell? ⟨bu, ou + k * 2 + 1, none⟩ = some (.string U[k].2) := by rw [HB.out.cell (by exact RU17.out.lt)]; exact RU17.out.at1 k hlt
      have FC : Hid (w17.cell? ⟨bc, k, none⟩ = some (.int .i64 (cnt (U[k].1, U[k].2) xs : Int))) := RC17.out.2 k hlt
      generalize U[k].1 = x at *
      generalize U[k].2 = y at *
      go_wp2_with fail
      obtain ⟨W1, hW1⟩ : ∃ W1, W1 = wo.alloc (.cells #[.int .u16 x, .string y] 31) := ⟨_, rfl⟩
      have BW : Hid (Below wo.heap.size wo W1) := by rw [hW1]; exact (Below.refl _ _).alloc (Nat.le_refl _) _
      have C0 : Hid (W1.cell? ⟨wo.heap.size, 0, none⟩ = some (.int .u16 x)) := by rw [hW1]; show _ = _; simp
      have C1 : Hid (W1.cell? ⟨wo.heap.size, 1, none⟩ = some (.string y)) := by rw [hW1]; show _ = _; simp
      have z1 : wo.heap.size < W1.heap.size := by rw [hW1]; simp
      rw [← hW1]
      clear hW1 f0 f1
      go_loopw [8, 70] (fun q i wr => ∃ (j m : Nat), i = .int .i64 j ∧ j ≤ xs.length ∧ m ≤ j ∧ q = .int .i64 m ∧ Hid (m = cnt (x, y) (xs.take j)) ∧ Gr W1 wr) (fun _ i _ => xs.length - (intOf i).toNat)
      case atStart => exact ⟨0, 0, rfl, Nat.zero_le _, Nat.le_refl _, rfl, rfl, Gr.refl _⟩
      case round =>
        obtain ⟨j, m, rfl, hj, hm, rfl, HC, GW⟩ := hrel
        have HBL : Hid (Below w17.heap.size w17 wr) := (HB.out.trans (BW.out.mono HB.out.size)).trans (GW.below.mono (by have := HB.out.size; omega))
        by_cases hjl : j < xs.length
        · have jz : (j : Int) < (xs.length : Int) := by omega
          have jz0 : (0 : Int) ≤ (j : Int) := by omega
          have e0 : wr.cell? ⟨b, off + j * 2, none⟩ = some (.int .u16 xs[j].1) := by rw [HBL.out.cell (by exact RL17.out.lt)]; exact RL17.out.at0 j hjl
          have e1 : wr.cell? ⟨b, off + j * 2 + 1, none⟩ = some (.string xs[j].2) := by rw [HBL.out.cell (by exact RL17.out.lt)]; exact RL17.out.at1 j hjl
          have HT : Hid (cnt (x, y) (xs.take (j + 1)) = m + cnt (x, y) [(xs[j].1, xs[j].2)]) := by show _ = _; rw [take_snocK xs j hjl, cnt_app, HC.out]
          have HG : Hid (Gr W1 wr) := GW
          clear GW HC
          generalize xs[j].1 = x' at *
          generalize xs[j].2 = y' at *
          go_wp2_with fail
          obtain ⟨V, hV⟩ : ∃ V, V = wr.alloc (.cells #[.int .u16 x', .string y'] 24) := ⟨_, rfl⟩
          have GV : Hid (Gr wr V) := by rw [hV]; exact (Gr.refl _).alloc _
          have zr := HG.out.size
          have v0 : ∀ n os, (grow (V.drewN n) os).cell? ⟨wr.heap.size, 0, none⟩ = some (.int .u16 x') := fun n os => (gr_grow V n os).cell (by rw [hV]; simp) (by rw [hV]; simp)
          have v1 : ∀ n os, (grow (V.drewN n) os).cell? ⟨wr.heap.size, 1, none⟩ = some (.string y') := fun n os => (gr_grow V n os).cell (by rw [hV]; simp) (by rw [hV]; simp)
          have v2 : ∀ n os, (grow (V.drewN n) os).cell? ⟨wo.heap.size, 0, none⟩ = some (.int .u16 x) := fun n os => ((HG.out.trans GV.out).grow n os).cell C0.out (by exact z1)
          have v3 : ∀ n os, (grow (V.drewN n) os).cell? ⟨wo.heap.size, 1, none⟩ = some (.string y) := fun n os => ((HG.out.trans GV.out).grow n os).cell C1.out (by exact z1)
          rw [← hV]
          clear hV e0 e1
          by_cases hx : x' = x
          · subst hx
            by_cases hy : y'.toList = y.toList
            · have HE : Hid (cnt (x', y) (xs.take (j + 1)) = m + 1) := by
                show _ = _
                rw [HT.out, show ((x', y') : K) = (x', y) from (keq _ _ _ _).2 ⟨rfl, hy⟩, cnt_one_same]
              go_quiet_grown (first | (go_at_call 12; refine Calls.grown_of (given12 _ _ _)))
              go_wp2
              go_roundw
              case rel => exact ⟨j + 1, m + 1, by go_num, by omega, by omega, by go_num, HE.out.symm, (HG.out.trans GV.out).grow _ _⟩
              case measure => simp [intOf]; omega
            · have HE : Hid (cnt (x', y) (xs.take (j + 1)) = m) := by
                show _ = _
                rw [HT.out, cnt_one_other _ _ (fun e => hy ((keq _ _ _ _).1 e).2)]
                omega
              go_quiet_grown (first | (go_at_call 12; refine Calls.grown_of (given12 _ _ _)))
              go_wp2
              go_roundw
              case rel => exact ⟨j + 1, m, by go_num, by omega, by omega, rfl, HE.out.symm, (HG.out.trans GV.out).grow _ _⟩
              case measure => simp [intOf]; omega
          · have HE : Hid (cnt (x, y) (xs.take (j + 1)) = m) := by
              show _ = _
              rw [HT.out, cnt_one_other _ _ (fun e => hx ((keq _ _ _ _).1 e).1)]
              omega
            go_quiet_grown (first | (go_at_call 12; refine Calls.grown_of (given12 _ _ _)))
            go_wp2
            go_roundw
            case rel => exact ⟨j + 1, m, by go_num, by omega, by omega, rfl, HE.out.symm, (HG.out.trans GV.out).grow _ _⟩
            case measure => simp [intOf]; omega
        · have jz : ¬ (j : Int) < (xs.length : Int) := by omega
          have hcm : m = cnt (x, y) xs := by rw [HC.out, List.take_of_length_le (by omega)]
          have fc : wr.cell? ⟨bc, k, none⟩ = some (.int .i64 (m : Int)) := by rw [HBL.out.cell (by exact RC17.out.1), FC.out, hcm]
          clear GW hcm
          go_wp2
          go_roundw
          case rel => exact ⟨k + 1, by go_num, by omega, HBL⟩
          case measure => simp [intOf]; omega
    · have kz : ¬ (k : Int) < (U.length : Int) := by omega
      go_wp2
      go_ret
      exact ⟨rfl, B17.out.trans (HB.out.mono B17.out.size)⟩

set_option maxHeartbeats 4000000 in
theorem lists_empty (b off cap : Nat) (w : World) (hS : SortedOk []) :
    Calls Tryd.prog 6 #[.slice (some ⟨b, off, none⟩) 0 cap] w fun e w' => e = .returned (.bool true) ∧ Below w.heap.size w w' := by
  obtain ⟨i4, hi4, hz40, hz41, hz42⟩ := info_parts info24
  obtain ⟨xs, hxs⟩ : ∃ xs : List K, xs = [] := ⟨_, rfl⟩
  have HSL : Hid (Sl w (.slice (some ⟨b, off, none⟩) 0 cap) xs) := Or.inl ⟨hxs, _, _, rfl⟩
  have HNm : Hid (Oks xs) := by rw [hxs]; exact fun x h => by cases h
  have HS : Hid (SortedOk xs) := by rw [hxs]; exact hS
  have HL : Hid (xs.length * 24 ≤ 140737488351232) := by rw [hxs]; show _ ≤ _; simp
  have HXS : Hid _ := hxs
  clear hS hxs
  go_enter Tryd.func6, Tryd.ntmps6
  go_wp2_with (at_builtin; refine wpList_append_own _ rfl _ _ 52 rfl w.heap.size 24 i4 (.agg #[.int .u16 0, .string ⟨#[]⟩]) 2 24 Tryd.underlying52 hi4 hz40 hz41 hz42 rfl (by decide) _ 0 [] rfl ⟨rfl, Or.inr ⟨w.heap.size, 0, #[], rfl, Nat.le_refl _, heap_alloc_new w _, Nat.le_refl _, by unfold maxLen; omega, rfl, rfl⟩⟩ ⟨b, off, none⟩ 0 cap [] rfl rfl (fun j u h => by cases h) (fun u h => by cases h) (by unfold maxLen; omega) (by omega) (by simp) ?_; intro vin w1 hown hgrow hn)
  have B1 : Hid (Below w.heap.size w w1) := ((Below.refl _ _).alloc (Nat.le_refl _) _).grown hgrow (by simp) (fun j hj => by
    have h2 : some w.heap.size = some j := hj
    cases h2
    exact Nat.le_refl _)
  have SI : Hid (Sl w1 vin xs) := by
    show Sl _ _ _
    refine Or.inl ⟨HXS.out, ?_⟩
    obtain ⟨_, h2 | ⟨g, cc, cur, hv, _⟩⟩ := hown
    · exact ⟨_, _, h2.1⟩
    · exact ⟨_, _, hv⟩
  clear hown hgrow hn
  clear hi4 hz40 hz41 hz42
  have C1 : Hid (Below w1.heap.size w1 w1) := Below.refl _ _
  go_wp2_with fail
  refine Calls.mono (awake9 _) ?_
  rintro e w2 ⟨rfl, g2⟩
  have C2 : Hid (Below w1.heap.size w1 w2) := C1.out.trans ((g2.below).mono C1.out.size)
  clear g2
  go_wp2_with fail
  refine Calls.mono (HS.out _ vin (SI.out.below C2.out)) ?_
  rintro e w3 ⟨vs, ys, rfl, sY, pY, oY, b3⟩
  have C3 : Hid (Below w1.heap.size w1 w3) := C2.out.trans ((b3).mono C2.out.size)
  have SY : Hid (Sl w3 vs ys) := sY
  have PY : Hid (ys.Perm xs ∧ ys.Pairwise leK) := ⟨pY, oY⟩
  clear b3 sY pY oY
  go_wp2_with fail
  refine Calls.mono (all27 xs (.slice (some ⟨b, off, none⟩) 0 cap) _ HL.out (HSL.out.below (B1.out.trans (C3.out.mono B1.out.size)))) ?_
  rintro e w4 ⟨va, rfl, sA, b4⟩
  have C4 : Hid (Below w1.heap.size w1 w4) := C3.out.trans ((b4).mono C3.out.size)
  have SY4 : Hid (Sl w4 vs ys) := SY.out.below b4
  have SA : Hid (Sl w4 va xs) := sA
  clear b4 sA SY
  go_wp2_with fail
  refine Calls.mono (ref26 xs va _ HL.out HNm.out.names SA.out) ?_
  rintro e w5 ⟨vz, zs, rfl, sZ, pZ, oZ, b5⟩
  have C5 : Hid (Below w1.heap.size w1 w5) := C4.out.trans ((b5).mono C4.out.size)
  obtain rfl : ys = zs := sorted_unique ys zs (PY.out.1.trans pZ.symm) PY.out.2 oZ
  have SY5 : Hid (Sl w5 vs ys) := SY4.out.below b5
  have SZ : Hid (Sl w5 vz ys) := sZ
  have HYL : Hid (ys.length = xs.length) := PY.out.1.length_eq
  clear b5 sZ pZ oZ SY4 SA
  go_wp2_with fail
  refine Calls.mono (same24 ys vs vz _ (by have := HYL.out; have := HL.out; omega) SY5.out SZ.out) ?_
  rintro e w6 ⟨rfl, g6⟩
  have C6 : Hid (Below w1.heap.size w1 w6) := C5.out.trans ((g6.below).mono C5.out.size)
  clear g6 SY5 SZ PY HYL
  go_wp2_with fail
  refine Calls.mono (all27 xs (.slice (some ⟨b, off, none⟩) 0 cap) _ HL.out (HSL.out.below (B1.out.trans (C6.out.mono B1.out.size)))) ?_
  rintro e w7 ⟨va1, rfl, sA, b7⟩
  have C7 : Hid (Below w1.heap.size w1 w7) := C6.out.trans ((b7).mono C6.out.size)
  have SA : Hid (Sl w7 va1 xs) := sA
  clear b7 sA
  go_wp2_with fail
  refine Calls.mono (same24 xs vin va1 _ (by have := HL.out; omega) (SI.out.below C7.out) SA.out) ?_
  rintro e w8 ⟨rfl, g8⟩
  have C8 : Hid (Below w1.heap.size w1 w8) := C7.out.trans ((g8.below).mono C7.out.size)
  clear g8 SA
  go_wp2_with fail
  refine Calls.mono (all27 xs (.slice (some ⟨b, off, none⟩) 0 cap) _ HL.out (HSL.out.below (B1.out.trans (C8.out.mono B1.out.size)))) ?_
  rintro e w9 ⟨va2, rfl, sA, b9⟩
  have C9 : Hid (Below w1.heap.size w1 w9) := C8.out.trans ((b9).mono C8.out.size)
  have SA : Hid (Sl w9 va2 xs) := sA
  clear b9 sA
  go_wp2_with fail
  refine Calls.mono (ref28 xs va2 _ HL.out SA.out) ?_
  rintro e w10 ⟨vu, rfl, sU, b10⟩
  have C10 : Hid (Below w1.heap.size w1 w10) := C9.out.trans ((b10).mono C9.out.size)
  have SU : Hid (Sl w10 vu (unl [] xs)) := sU
  clear b10 sU SA
  go_wp2_with fail
  refine Calls.mono (unlike29 xs vin _ HL.out HNm.out (SI.out.below C10.out)) ?_
  rintro e w11 ⟨vk, rfl, sK, b11⟩
  have C11 : Hid (Below w1.heap.size w1 w11) := C10.out.trans ((b11).mono C10.out.size)
  have SU11 : Hid (Sl w11 vu (unl [] xs)) := SU.out.below b11
  have SK : Hid (Sl w11 vk (unl [] xs)) := sK
  clear b11 sK SU
  go_wp2_with fail
  refine Calls.mono (same24 (unl [] xs) vk vu _ (by have := unl_len [] xs; have := HL.out; simp only [List.length_nil] at *; omega) SK.out SU11.out) ?_
  rintro e w12 ⟨rfl, g12⟩
  have C12 : Hid (Below w1.heap.size w1 w12) := C11.out.trans ((g12.below).mono C11.out.size)
  have SU12 : Hid (Sl w12 vu (unl [] xs)) := SU11.out.gr g12
  clear g12 SK SU11
  go_wp2_with fail
  refine Calls.mono (all27 xs (.slice (some ⟨b, off, none⟩) 0 cap) _ HL.out (HSL.out.below (B1.out.trans (C12.out.mono B1.out.size)))) ?_
  rintro e w13 ⟨va3, rfl, sA, b13⟩
  have C13 : Hid (Below w1.heap.size w1 w13) := C12.out.trans ((b13).mono C12.out.size)
  have SU13 : Hid (Sl w13 vu (unl [] xs)) := SU12.out.below b13
  have SA : Hid (Sl w13 va3 xs) := sA
  clear b13 sA SU12
  go_wp2_with fail
  refine Calls.mono (same24 xs vin va3 _ (by have := HL.out; omega) (SI.out.below C13.out) SA.out) ?_
  rintro e w14 ⟨rfl, g14⟩
  have C14 : Hid (Below w1.heap.size w1 w14) := C13.out.trans ((g14.below).mono C13.out.size)
  have SU14 : Hid (Sl w14 vu (unl [] xs)) := SU13.out.gr g14
  clear g14 SA SU13
  go_wp2_with fail
  refine Calls.mono (count30 xs vin _ HL.out HNm.out (SI.out.below C14.out)) ?_
  rintro e w15 ⟨vc, rfl, sC, b15⟩
  have C15 : Hid (Below w1.heap.size w1 w15) := C14.out.trans ((b15).mono C14.out.size)
  have SU15 : Hid (Sl w15 vu (unl [] xs)) := SU14.out.below b15
  have SC : Hid (SlI w15 vc (counts (unl [] xs) xs)) := sC
  clear b15 sC SU14
  obtain ⟨au, cu, rfl⟩ : ∃ au cu, vu = .slice au 0 cu := by
    rcases SU15.out with ⟨_, h⟩ | ⟨bb, oo, cc, h, _⟩
    · exact h
    · rw [HXS.out] at h
      exact ⟨_, _, h⟩
  obtain ⟨ac, cc, rfl⟩ : ∃ ac cc, vc = .slice ac 0 cc := by
    rcases SC.out with ⟨_, h⟩ | ⟨bb, cc, h, _⟩
    · exact h
    · rw [HXS.out] at h
      exact ⟨_, _, h⟩
  clear SU15 SC HS
  go_wp2_with fail
  refine Calls.mono (all27 xs (.slice (some ⟨b, off, none⟩) 0 cap) _ HL.out (HSL.out.below (B1.out.trans (C15.out.mono B1.out.size)))) ?_
  rintro e w16 ⟨va4, rfl, sA, b16⟩
  have C16 : Hid (Below w1.heap.size w1 w16) := C15.out.trans (b16.mono C15.out.size)
  have SA : Hid (Sl w16 va4 xs) := sA
  clear b16 sA
  go_wp2_with fail
  refine Calls.mono (same24 xs vin va4 _ (by have := HL.out; omega) (SI.out.below C16.out) SA.out) ?_
  rintro e w17 ⟨rfl, g17⟩
  have C17 : Hid (Below w1.heap.size w1 w17) := C16.out.trans (g17.below.mono C16.out.size)
  have B17 : Hid (Below w.heap.size w w17) := B1.out.trans (C17.out.mono B1.out.size)
  clear g17 SA C16 C17
  go_wp2_with fail
  go_loop [63] (fun i => i = .int .i64 0) (fun _ => 0)
  case atStart => rfl
  case round =>
    subst hrel
    go_wp2
    go_ret
    exact ⟨rfl, B17.out⟩

set_option maxHeartbeats 4000000 in
theorem lists_nil (w : World) (hS : SortedOk []) :
    Calls Tryd.prog 6 #[.slice none 0 0] w fun e w' => e = .returned (.bool true) ∧ Below w.heap.size w w' := by
  obtain ⟨i4, hi4, hz40, hz41, hz42⟩ := info_parts info24
  obtain ⟨xs, hxs⟩ : ∃ xs : List K, xs = [] := ⟨_, rfl⟩
  have HSL : Hid (Sl w (.slice none 0 0) xs) := Or.inl ⟨hxs, _, _, rfl⟩
  have HNm : Hid (Oks xs) := by rw [hxs]; exact fun x h => by cases h
  have HS : Hid (SortedOk xs) := by rw [hxs]; exact hS
  have HL : Hid (xs.length * 24 ≤ 140737488351232) := by rw [hxs]; show _ ≤ _; simp
  have HXS : Hid _ := hxs
  clear hS hxs
  go_enter Tryd.func6, Tryd.ntmps6
  go_wp2_with fail
  obtain ⟨w1, hw1⟩ : ∃ w1, w1 = w.alloc (.cells #[] 24) := ⟨_, rfl⟩
  have B1 : Hid (Below w.heap.size w w1) := by rw [hw1]; exact (Below.refl _ _).alloc (Nat.le_refl _) _
  have SI : Hid (Sl w1 (.slice (some ⟨w.heap.size, 0, none⟩) 0 0) xs) := Or.inl ⟨HXS.out, _, _, rfl⟩
  rw [← hw1]
  clear hw1
  clear hi4 hz40 hz41 hz42
  have C1 : Hid (Below w1.heap.size w1 w1) := Below.refl _ _
  go_wp2_with fail
  refine Calls.mono (awake9 _) ?_
  rintro e w2 ⟨rfl, g2⟩
  have C2 : Hid (Below w1.heap.size w1 w2) := C1.out.trans ((g2.below).mono C1.out.size)
  clear g2
  go_wp2_with fail
  refine Calls.mono (HS.out _ (.slice (some ⟨w.heap.size, 0, none⟩) 0 0) (SI.out.below C2.out)) ?_
  rintro e w3 ⟨vs, ys, rfl, sY, pY, oY, b3⟩
  have C3 : Hid (Below w1.heap.size w1 w3) := C2.out.trans ((b3).mono C2.out.size)
  have SY : Hid (Sl w3 vs ys) := sY
  have PY : Hid (ys.Perm xs ∧ ys.Pairwise leK) := ⟨pY, oY⟩
  clear b3 sY pY oY
  go_wp2_with fail
  refine Calls.mono (all27 xs (.slice none 0 0) _ HL.out (HSL.out.below (B1.out.trans (C3.out.mono B1.out.size)))) ?_
  rintro e w4 ⟨va, rfl, sA, b4⟩
  have C4 : Hid (Below w1.heap.size w1 w4) := C3.out.trans ((b4).mono C3.out.size)
  have SY4 : Hid (Sl w4 vs ys) := SY.out.below b4
  have SA : Hid (Sl w4 va xs) := sA
  clear b4 sA SY
  go_wp2_with fail
  refine Calls.mono (ref26 xs va _ HL.out HNm.out.names SA.out) ?_
  rintro e w5 ⟨vz, zs, rfl, sZ, pZ, oZ, b5⟩
  have C5 : Hid (Below w1.heap.size w1 w5) := C4.out.trans ((b5).mono C4.out.size)
  obtain rfl : ys = zs := sorted_unique ys zs (PY.out.1.trans pZ.symm) PY.out.2 oZ
  have SY5 : Hid (Sl w5 vs ys) := SY4.out.below b5
  have SZ : Hid (Sl w5 vz ys) := sZ
  have HYL : Hid (ys.length = xs.length) := PY.out.1.length_eq
  clear b5 sZ pZ oZ SY4 SA
  go_wp2_with fail
  refine Calls.mono (same24 ys vs vz _ (by have := HYL.out; have := HL.out; omega) SY5.out SZ.out) ?_
  rintro e w6 ⟨rfl, g6⟩
  have C6 : Hid (Below w1.heap.size w1 w6) := C5.out.trans ((g6.below).mono C5.out.size)
  clear g6 SY5 SZ PY HYL
  go_wp2_with fail
  refine Calls.mono (all27 xs (.slice none 0 0) _ HL.out (HSL.out.below (B1.out.trans (C6.out.mono B1.out.size)))) ?_
  rintro e w7 ⟨va1, rfl, sA, b7⟩
  have C7 : Hid (Below w1.heap.size w1 w7) := C6.out.trans ((b7).mono C6.out.size)
  have SA : Hid (Sl w7 va1 xs) := sA
  clear b7 sA
  go_wp2_with fail
  refine Calls.mono (same24 xs (.slice (some ⟨w.heap.size, 0, none⟩) 0 0) va1 _ (by have := HL.out; omega) (SI.out.below C7.out) SA.out) ?_
  rintro e w8 ⟨rfl, g8⟩
  have C8 : Hid (Below w1.heap.size w1 w8) := C7.out.trans ((g8.below).mono C7.out.size)
  clear g8 SA
  go_wp2_with fail
  refine Calls.mono (all27 xs (.slice none 0 0) _ HL.out (HSL.out.below (B1.out.trans (C8.out.mono B1.out.size)))) ?_
  rintro e w9 ⟨va2, rfl, sA, b9⟩
  have C9 : Hid (Below w1.heap.size w1 w9) := C8.out.trans ((b9).mono C8.out.size)
  have SA : Hid (Sl w9 va2 xs) := sA
  clear b9 sA
  go_wp2_with fail
  refine Calls.mono (ref28 xs va2 _ HL.out SA.out) ?_
  rintro e w10 ⟨vu, rfl, sU, b10⟩
  have C10 : Hid (Below w1.heap.size w1 w10) := C9.out.trans ((b10).mono C9.out.size)
  have SU : Hid (Sl w10 vu (unl [] xs)) := sU
  clear b10 sU SA
  go_wp2_with fail
  refine Calls.mono (unlike29 xs (.slice (some ⟨w.heap.size, 0, none⟩) 0 0) _ HL.out HNm.out (SI.out.below C10.out)) ?_
  rintro e w11 ⟨vk, rfl, sK, b11⟩
  have C11 : Hid (Below w1.heap.size w1 w11) := C10.out.trans ((b11).mono C10.out.size)
  have SU11 : Hid (Sl w11 vu (unl [] xs)) := SU.out.below b11
  have SK : Hid (Sl w11 vk (unl [] xs)) := sK
  clear b11 sK SU
  go_wp2_with fail
  refine Calls.mono (same24 (unl [] xs) vk vu _ (by have := unl_len [] xs; have := HL.out; simp only [List.length_nil] at *; omega) SK.out SU11.out) ?_
  rintro e w12 ⟨rfl, g12⟩
  have C12 : Hid (Below w1.heap.size w1 w12) := C11.out.trans ((g12.below).mono C11.out.size)
  have SU12 : Hid (Sl w12 vu (unl [] xs)) := SU11.out.gr g12
  clear g12 SK SU11
  go_wp2_with fail
  refine Calls.mono (all27 xs (.slice none 0 0) _ HL.out (HSL.out.below (B1.out.trans (C12.out.mono B1.out.size)))) ?_
  rintro e w13 ⟨va3, rfl, sA, b13⟩
  have C13 : Hid (Below w1.heap.size w1 w13) := C12.out.trans ((b13).mono C12.out.size)
  have SU13 : Hid (Sl w13 vu (unl [] xs)) := SU12.out.below b13
  have SA : Hid (Sl w13 va3 xs) := sA
  clear b13 sA SU12
  go_wp2_with fail
  refine Calls.mono (same24 xs (.slice (some ⟨w.heap.size, 0, none⟩) 0 0) va3 _ (by have := HL.out; omega) (SI.out.below C13.out) SA.out) ?_
  rintro e w14 ⟨rfl, g14⟩
  have C14 : Hid (Below w1.heap.size w1 w14) := C13.out.trans ((g14.below).mono C13.out.size)
  have SU14 : Hid (Sl w14 vu (unl [] xs)) := SU13.out.gr g14
  clear g14 SA SU13
  go_wp2_with fail
  refine Calls.mono (count30 xs (.slice (some ⟨w.heap.size, 0, none⟩) 0 0) _ HL.out HNm.out (SI.out.below C14.out)) ?_
  rintro e w15 ⟨vc, rfl, sC, b15⟩
  have C15 : Hid (Below w1.heap.size w1 w15) := C14.out.trans ((b15).mono C14.out.size)
  have SU15 : Hid (Sl w15 vu (unl [] xs)) := SU14.out.below b15
  have SC : Hid (SlI w15 vc (counts (unl [] xs) xs)) := sC
  clear b15 sC SU14
  obtain ⟨au, cu, rfl⟩ : ∃ au cu, vu = .slice au 0 cu := by
    rcases SU15.out with ⟨_, h⟩ | ⟨bb, oo, cc, h, _⟩
    · exact h
    · rw [HXS.out] at h
      exact ⟨_, _, h⟩
  obtain ⟨ac, cc, rfl⟩ : ∃ ac cc, vc = .slice ac 0 cc := by
    rcases SC.out with ⟨_, h⟩ | ⟨bb, cc, h, _⟩
    · exact h
    · rw [HXS.out] at h
      exact ⟨_, _, h⟩
  clear SU15 SC HS
  go_wp2_with fail
  refine Calls.mono (all27 xs (.slice none 0 0) _ HL.out (HSL.out.below (B1.out.trans (C15.out.mono B1.out.size)))) ?_
  rintro e w16 ⟨va4, rfl, sA, b16⟩
  have C16 : Hid (Below w1.heap.size w1 w16) := C15.out.trans (b16.mono C15.out.size)
  have SA : Hid (Sl w16 va4 xs) := sA
  clear b16 sA
  go_wp2_with fail
  refine Calls.mono (same24 xs (.slice (some ⟨w.heap.size, 0, none⟩) 0 0) va4 _ (by have := HL.out; omega) (SI.out.below C16.out) SA.out) ?_
  rintro e w17 ⟨rfl, g17⟩
  have C17 : Hid (Below w1.heap.size w1 w17) := C16.out.trans (g17.below.mono C16.out.size)
  have B17 : Hid (Below w.heap.size w w17) := B1.out.trans (C17.out.mono B1.out.size)
  clear g17 SA C16 C17
  go_wp2_with fail
  go_loop [63] (fun i => i = .int .i64 0) (fun _ => 0)
  case atStart => rfl
  case round =>
    subst hrel
    go_wp2
    go_ret
    exact ⟨rfl, B17.out⟩

theorem walkLis (xs : List K) (v : Value) (w : World) (hl : xs.length * 24 ≤ 140737488351232) (hN : Oks xs) (hS : SortedOk xs) (R : (v = .slice none 0 0 ∧ xs = []) ∨ ∃ b off cap, v = .slice (some ⟨b, off, none⟩) xs.length cap ∧ Row w b off xs) :
    Calls Tryd.prog 6 #[v] w fun e w' => e = .returned (.bool true) ∧ Below w.heap.size w w' := by
  rcases R with ⟨rfl, rfl⟩ | ⟨b, off, cap, rfl, R⟩
  · exact lists_nil w hS
  · by_cases hp : 0 < xs.length
    · exact lists_row xs b off cap w hl hp hN hS R
    · obtain rfl : xs = [] := List.length_eq_zero_iff.1 (by omega)
      exact lists_empty b off cap w hS
end Go.Proofs.YtbaljfkjgfkdiaaDoor
