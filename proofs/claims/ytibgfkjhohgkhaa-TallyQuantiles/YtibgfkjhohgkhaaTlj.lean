/- The document's time of a part of all; no conditions but those that each states. -/
import Derived.Test.YtibgfkjhohgkhaaTli
namespace Go.Proofs.Ytibgfkjhohgkhaa.Ty
open Go.RowKit Go.Maps Go.ChangeMaps
set_option linter.unusedVariables false
set_option linter.unusedSimpArgs false
set_option maxRecDepth 20000 in
theorem rquantile_no (f : Nat → Int) (hw : ∀ j, j < 64 → W64 (f j)) (part of' : Int) (h : lim f 64 = true → of' < 1 ∨ part < 0 ∨ of' < part) (w : World) :
    Calls Try.prog 21 #[.agg (ic 64 f), .int .i64 part, .int .i64 of'] w fun r w' => r = .returned (.tuple #[.int .i64 0, .bool false]) ∧ Touch [] w w' := by
  have HS := hid (ic_size 64 f)
  have HW := hid hw
  have T0 := hid ((Touch.refl [] w).alloc (.cells (ic 64 f) 37))
  clear hw
  by_cases h1 : of' < 1
  · clear h
    go_enter Try.func21, Try.ntmps21
    go_wp2
    go_ret2
    exact ⟨rfl, T0.out⟩
  by_cases h2 : part < 0
  · clear h
    go_enter Try.func21, Try.ntmps21
    go_wp2
    go_ret2
    exact ⟨rfl, T0.out⟩
  by_cases h3 : of' < part
  · clear h
    go_enter Try.func21, Try.ntmps21
    go_wp2
    go_ret2
    exact ⟨rfl, T0.out⟩
  have HF := hid (show lim f 64 = false by refine Bool.eq_false_iff.2 fun e => ?_; have := h e; omega)
  clear h
  go_enter Try.func21, Try.ntmps21
  go_wp2_with (refine wpList_loadT big64 rfl _ rfl w.heap.size (ic 64 f) 37 (0, 0) rfl (heap_alloc_new w _) HS.out ?_)
  go_loopw [8, 31] (fun all i wr => ∃ j : Nat, i = .int .i64 j ∧ all = .int .i64 (tot f j) ∧ j ≤ 64 ∧ Hid (lim f j = true) ∧ Hid (Touch [] w wr)) (fun _ i _ => 64 - (intOf i).toNat)
  case atStart => exact ⟨0, rfl, rfl, by omega, rfl, T0.out⟩
  case round =>
    obtain ⟨j, rfl, rfl, hj, HL, T⟩ := hrel
    by_cases hlt : j < 64
    · have q1 := (HW.out j hlt).lo
      have q2 := (HW.out j hlt).hi
      obtain ⟨q3, q4⟩ := lim_b HL.out
      by_cases h4 : f j < 0
      · generalize tot f j = y at *
        go_wp2_with (refine wpList_ix rfl Try.underlying37 _ _ rfl f j rfl rfl hlt ?_)
        go_ret2
        exact ⟨rfl, T.out⟩
      · by_cases h5 : 4611686018427387904 - tot f j < f j
        · generalize tot f j = y at *
          go_wp2_with (refine wpList_ix rfl Try.underlying37 _ _ rfl f j rfl rfl hlt ?_)
          go_ret2
          exact ⟨rfl, T.out⟩
        · have HN := hid (show lim f (j + 1) = true from lim_next.2 ⟨HL.out, by omega, by omega⟩)
          have HT := hid (show tot f j + f j = tot f (j + 1) from rfl)
          generalize hy : tot f j = y at *
          go_wp2_with (refine wpList_ix rfl Try.underlying37 _ _ rfl f j rfl rfl hlt ?_)
          go_roundw
          case rel => exact ⟨j + 1, rfl, by rw [← HT.out], by omega, HN, T⟩
          case measure => simp [intOf]; omega
    · obtain rfl : j = 64 := by omega
      exact absurd HL.out (by rw [HF.out]; decide)
theorem lex_no {X Y : Int} (h : X < Y) : X / 18446744073709551616 < Y / 18446744073709551616 ∨ X / 18446744073709551616 = Y / 18446744073709551616 ∧ X % 18446744073709551616 < Y % 18446744073709551616 := lex_lt.2 h
theorem lex_yes {X Y : Int} (h : Y ≤ X) : Y / 18446744073709551616 < X / 18446744073709551616 ∨ X / 18446744073709551616 = Y / 18446744073709551616 ∧ Y % 18446744073709551616 ≤ X % 18446744073709551616 := by omega
set_option maxRecDepth 20000 in
set_option maxHeartbeats 4000000 in
theorem rquantile_ (f : Nat → Int) (hw : ∀ j, j < 64 → W64 (f j)) (part of' : Int) (hl : lim f 64 = true) (h1 : 1 ≤ of') (h2 : 0 ≤ part) (h3 : part ≤ of') (ho : of' < 9223372036854775808) {k : Nat} (hk : IsQ f part of' k) (w : World) :
    Calls Try.prog 21 #[.agg (ic 64 f), .int .i64 part, .int .i64 of'] w fun r w' => r = .returned (.tuple #[.int .i64 (Ti.edHiN k), .bool true]) ∧ Touch [] w w' := by
  have HS := hid (ic_size 64 f)
  have HW := hid hw
  have HB := hid (fun j (hj : j ≤ 64) => lim_b (lim_le (f := f) hj hl))
  have HLL := hid (fun j (hj : j ≤ 64) => lim_le (f := f) hj hl)
  have HQ := hid hk
  have H0 := hid (fun ha => IsQ.none hl (by omega) ha hk)
  have kle := hk.le
  have wo := u64_of (z := of') (by omega) (by omega)
  have wp := u64_of h2 (by omega)
  simp only [IntKind.wrap_u64] at wo wp
  clear hl hw hk
  have h1' : ¬ of' < 1 := by omega
  have h2' : ¬ part < 0 := by omega
  have h3' : ¬ of' < part := by omega
  have R0 := hid (show Row (w.alloc (.cells (ic 64 f) 37)) w.heap.size 64 f 37 from heap_alloc_new w _)
  have T0 := hid ((Touch.refl [] w).alloc (.cells (ic 64 f) 37))
  go_enter Try.func21, Try.ntmps21
  go_wp2_with (refine wpList_loadT big64 rfl _ rfl w.heap.size (ic 64 f) 37 (0, 0) rfl (heap_alloc_new w _) HS.out ?_)
  go_loopw [8, 31] (fun all i wr => ∃ j : Nat, i = .int .i64 j ∧ all = .int .i64 (tot f j) ∧ j ≤ 64 ∧ Hid (Touch [] w wr) ∧ Hid (Row wr w.heap.size 64 f 37)) (fun _ i _ => 64 - (intOf i).toNat)
  case atStart => exact ⟨0, rfl, rfl, by omega, T0, R0⟩
  case round =>
    obtain ⟨j, rfl, rfl, hj, T, R⟩ := hrel
    by_cases hlt : j < 64
    · have q1 := (HW.out j hlt).lo
      have q2 := (HW.out j hlt).hi
      obtain ⟨q3, q4⟩ := HB.out j hj
      obtain ⟨_, q5, q6⟩ := lim_next.1 (HLL.out (j + 1) (by omega))
      have h4 : ¬ f j < 0 := by omega
      have h5 : ¬ 4611686018427387904 - tot f j < f j := by omega
      have HT := hid (show tot f j + f j = tot f (j + 1) from rfl)
      generalize hy : tot f j = y at *
      go_wp2_with (refine wpList_ix rfl Try.underlying37 _ _ rfl f j rfl rfl hlt ?_)
      go_roundw
      case rel => exact ⟨j + 1, rfl, by rw [← HT.out], by omega, T, R⟩
      case measure => simp [intOf]; omega
    · obtain rfl : j = 64 := by omega
      clear hlt hj
      obtain ⟨a0, a1⟩ := HB.out 64 (by omega)
      by_cases ha : tot f 64 = 0
      · have HK := hid (H0.out ha)
        rw [ha]
        go_wp2
        go_ret2
        exact ⟨by rw [HK.out]; rfl, T.out⟩
      · have wa := u64_of a0 (by omega)
        simp only [IntKind.wrap_u64] at wa
        have HP := hid (product_ (tot f 64) part a0 (by omega) h2 (by omega))
        have HX := hid (fun j (hj : j < k) => lex_no (HQ.out.lt j hj))
        have HY := hid (lex_yes HQ.out.at_)
        generalize tot f 64 * part = Y at *
        generalize Y / 18446744073709551616 = p' at *
        generalize Y % 18446744073709551616 = q' at *
        generalize tot f 64 = A at *
        go_wp2_with (first | (go_at_call 41; refine (HP.out _).mono ?_; rintro r w1 ⟨rfl, rfl⟩) | (refine wpList_loadT big64 rfl _ rfl w.heap.size (ic 64 f) 37 (0, 0) rfl R.out HS.out ?_))
        go_loopw [13, 14, 57] (fun sum edge i w2 => ∃ j : Nat, i = .int .i64 j ∧ sum = .int .i64 (tot f j) ∧ edge = .int .i64 (Ti.edHiN j) ∧ j ≤ k ∧ Hid (Touch [] w w2)) (fun _ _ i _ => 64 - (intOf i).toNat)
        case atStart => exact ⟨0, rfl, rfl, rfl, by omega, T⟩
        case round =>
          obtain ⟨j, rfl, rfl, rfl, hj, T'⟩ := hrel
          have hlt : j < 64 := by omega
          obtain ⟨q1, q2⟩ := HB.out (j + 1) (by omega)
          have e1 : tot f (j + 1) = tot f j + f j := rfl
          obtain ⟨q3, q4⟩ := HB.out j (by omega)
          have ws := u64_of q1 (by omega)
          simp only [IntKind.wrap_u64] at ws
          have HR := hid (product_ (tot f (j + 1)) of' q1 (by omega) (by omega) (by omega))
          have HE := hid (hi_next j)
          by_cases hjk : j < k
          · have eb := (Ti.ed_bounds (j + 1) (by omega)).2.2
            have eb0 := (Ti.ed_bounds j (by omega)).2.2
            rw [hi_next] at eb
            have HD := HX.out j hjk
            generalize tot f (j + 1) * of' = X at *
            generalize X / 18446744073709551616 = p at *
            generalize X % 18446744073709551616 = q at *
            have hj63 : j < 63 := by omega
            have HT := hid e1
            rw [e1] at q1 q2 ws HR
            clear e1
            generalize tot f j = y at *
            have eb1 := (Ti.ed_bounds j (by omega)).2.2.1
            generalize Ti.edHiN j = ed at *
            have hn1 : ¬ p' < p := by omega
            have key : ∀ v : Value, (∃ j_1 : Nat, Value.int .i64 ((j : Int) + 1) = Value.int .i64 j_1 ∧ Value.int .i64 (y + f j) = Value.int .i64 (tot f j_1) ∧ Value.int .i64 (2 * ed + 1) = Value.int .i64 (Ti.edHiN j_1) ∧ j_1 ≤ k ∧ Hid (Touch [] w wr)) := fun _ => ⟨j + 1, rfl, by rw [HT.out], by rw [HE.out], hjk, T'⟩
            have KEY := hid (key undef)
            clear key
            rcases HD with hd | ⟨hd1, hd2⟩
            · have hb : (p == p') = false := by simp; omega
              clear HT HE
              go_wp2_with (first | (refine wpList_ix rfl Try.underlying37 _ _ rfl f j rfl rfl hlt ?_) | (go_at_call 41; refine (HR.out _).mono ?_; rintro r w4 ⟨rfl, rfl⟩))
              exact ⟨KEY.out, by simp [intOf]; omega⟩
            · subst hd1
              have hb : ¬ q' ≤ q := by omega
              clear HT HE
              go_wp2_with (first | (refine wpList_ix rfl Try.underlying37 _ _ rfl f j rfl rfl hlt ?_) | (go_at_call 41; refine (HR.out _).mono ?_; rintro r w4 ⟨rfl, rfl⟩))
              exact ⟨KEY.out, by simp [intOf]; omega⟩
          · obtain rfl : j = k := by omega
            have HD := HY.out
            generalize tot f (j + 1) * of' = X at *
            generalize X / 18446744073709551616 = p at *
            generalize X % 18446744073709551616 = q at *
            rw [e1] at q1 q2 ws HR
            clear e1
            generalize tot f j = y at *
            rcases HD with hd | ⟨hd1, hd2⟩
            · go_wp2_with (first | (refine wpList_ix rfl Try.underlying37 _ _ rfl f j rfl rfl hlt ?_) | (go_at_call 41; refine (HR.out _).mono ?_; rintro r w4 ⟨rfl, rfl⟩))
              go_ret2
              exact ⟨rfl, T'.out⟩
            · subst hd1
              go_wp2_with (first | (refine wpList_ix rfl Try.underlying37 _ _ rfl f j rfl rfl hlt ?_) | (go_at_call 41; refine (HR.out _).mono ?_; rintro r w4 ⟨rfl, rfl⟩))
              go_ret2
              exact ⟨rfl, T'.out⟩
theorem quantiles_ (w : World) (f : Nat → Int) (part of' : Int) (hw : ∀ j, j < 64 → W64 (f j)) (hp : W64 part) (ho : W64 of') :
    Calls Try.prog 6 #[.agg (ic 64 f), .int .i64 part, .int .i64 of'] w fun r w' => r = .returned (.bool true) ∧ Touch [] w w' := by
  have HS := hid (ic_size 64 f)
  have R0 := hid (show Row (w.alloc (.cells (ic 64 f) 37)) w.heap.size 64 f 37 from heap_alloc_new w _)
  have T0 := hid ((Touch.refl [] w).alloc (.cells (ic 64 f) 37))
  have ho1 := ho.hi
  by_cases hok : lim f 64 = true ∧ 1 ≤ of' ∧ 0 ≤ part ∧ part ≤ of'
  · obtain ⟨hl, h1, h2, h3⟩ := hok
    obtain ⟨k, hk⟩ := IsQ.ex hl h2 h3
    obtain ⟨k0, hk0⟩ := IsQ.ex (f := f) (part := 0) (of' := of') hl (by omega) (by omega)
    obtain ⟨k1, hk1⟩ := IsQ.ex (f := f) (part := of') (of' := of') hl (by omega) (by omega)
    have HC := hid (quantile_ f hw part of' hl h1 h2 h3 (by omega) hk)
    have HC0 := hid (quantile_ f hw 0 of' hl h1 (by omega) (by omega) (by omega) hk0)
    have HC1 := hid (quantile_ f hw of' of' hl h1 (by omega) (by omega) (by omega) hk1)
    have HR := hid (rquantile_ f hw part of' hl h1 h2 h3 (by omega) hk)
    obtain rfl := IsQ.zero hl (by omega) hk0
    have m1 := hi_mono (hk.mono hl hk1 h3)
    have m0 := hi_mono (Nat.zero_le k)
    have z0 : Ti.edHiN 0 = 0 := rfl
    rw [z0] at m0 HC0
    clear hk hk0 hk1 z0 hw hl hp ho
    generalize Ti.edHiN k = x at *
    generalize Ti.edHiN k1 = y at *
    have HA := hid awake_
    go_enter Try.func6, Try.ntmps6
    go_wp2_with (refine wpList_loadT big64 rfl _ rfl w.heap.size (ic 64 f) 37 (0, 0) rfl R0.out HS.out ?_)
    refine (HC.out _).mono ?_
    rintro r w1 ⟨rfl, t⟩
    have T1 := hid (T0.out.trans' t)
    have R1 := hid (R0.out.keep t (by simp))
    clear t
    go_wp2_with (refine wpList_loadT big64 rfl _ rfl w.heap.size (ic 64 f) 37 (0, 0) rfl R1.out HS.out ?_)
    refine (HR.out _).mono ?_
    rintro r w2 ⟨rfl, t⟩
    have T2 := hid (T1.out.trans' t)
    have R2 := hid (R1.out.keep t (by simp))
    clear t
    go_wp2_with (refine wpList_loadT big64 rfl _ rfl w.heap.size (ic 64 f) 37 (0, 0) rfl R2.out HS.out ?_)
    refine (HA.out _).mono ?_
    rintro r w3 ⟨rfl, t⟩
    have T3 := hid (T2.out.trans' t)
    have R3 := hid (R2.out.keep t (by simp))
    clear t
    go_wp2_with (refine wpList_loadT big64 rfl _ rfl w.heap.size (ic 64 f) 37 (0, 0) rfl R3.out HS.out ?_)
    refine (HC0.out _).mono ?_
    rintro r w4 ⟨rfl, t⟩
    have T4 := hid (T3.out.trans' t)
    have R4 := hid (R3.out.keep t (by simp))
    clear t
    go_wp2_with (refine wpList_loadT big64 rfl _ rfl w.heap.size (ic 64 f) 37 (0, 0) rfl R4.out HS.out ?_)
    refine (HC1.out _).mono ?_
    rintro r w5 ⟨rfl, t⟩
    have T5 := hid (T4.out.trans' t)
    have R5 := hid (R4.out.keep t (by simp))
    clear t
    go_wp2_with (refine wpList_loadT big64 rfl _ rfl w.heap.size (ic 64 f) 37 (0, 0) rfl R5.out HS.out ?_)
    go_ret
    exact ⟨rfl, T5.out⟩
  · have hn : lim f 64 = true → of' < 1 ∨ part < 0 ∨ of' < part := fun hl => by
      by_cases h1 : of' < 1
      · exact Or.inl h1
      · by_cases h2 : part < 0
        · exact Or.inr (Or.inl h2)
        · exact Or.inr (Or.inr (by refine Int.not_le.1 fun h3 => hok ⟨hl, by omega, by omega, h3⟩))
    have HC := hid (quantile_no f hw part of' hn)
    have HR := hid (rquantile_no f hw part of' hn)
    have HA := hid awake_
    clear hn hok hw hp ho
    go_enter Try.func6, Try.ntmps6
    go_wp2_with (refine wpList_loadT big64 rfl _ rfl w.heap.size (ic 64 f) 37 (0, 0) rfl R0.out HS.out ?_)
    refine (HC.out _).mono ?_
    rintro r w1 ⟨rfl, t⟩
    have T1 := hid (T0.out.trans' t)
    have R1 := hid (R0.out.keep t (by simp))
    clear t
    go_wp2_with (refine wpList_loadT big64 rfl _ rfl w.heap.size (ic 64 f) 37 (0, 0) rfl R1.out HS.out ?_)
    refine (HR.out _).mono ?_
    rintro r w2 ⟨rfl, t⟩
    have T2 := hid (T1.out.trans' t)
    have R2 := hid (R1.out.keep t (by simp))
    clear t
    go_wp2_with (refine wpList_loadT big64 rfl _ rfl w.heap.size (ic 64 f) 37 (0, 0) rfl R2.out HS.out ?_)
    refine (HA.out _).mono ?_
    rintro r w3 ⟨rfl, t⟩
    have T3 := hid (T2.out.trans' t)
    have R3 := hid (R2.out.keep t (by simp))
    clear t
    go_wp2_with (refine wpList_loadT big64 rfl _ rfl w.heap.size (ic 64 f) 37 (0, 0) rfl R3.out HS.out ?_)
    go_ret
    exact ⟨rfl, T3.out⟩
end Go.Proofs.Ytibgfkjhohgkhaa.Ty
