/- The time of a part of all, on both sides; no conditions but those that each states. -/
import Derived.Test.YtibgfkjhohgkhaaTlh
import Derived.BigQuiet
import Derived.Deep.QuietTactic
namespace Go.Proofs.Ytibgfkjhohgkhaa.Ty
open Go.RowKit Go.Maps Go.ChangeMaps
set_option linter.unusedVariables false
set_option linter.unusedSimpArgs false
/-- So many counts together. -/
def tot (f : Nat → Int) : Nat → Int
  | 0 => 0
  | k + 1 => tot f k + f k
/-- None is below 0, and they are not too much together. -/
def lim (f : Nat → Int) : Nat → Bool
  | 0 => true
  | k + 1 => lim f k && decide (0 ≤ f k ∧ f k ≤ 4611686018427387904 - tot f k)
section
variable {f : Nat → Int}
theorem lim_next {k : Nat} : lim f (k + 1) = true ↔ lim f k = true ∧ 0 ≤ f k ∧ f k ≤ 4611686018427387904 - tot f k := by simp [lim]
theorem lim_b : ∀ {k : Nat}, lim f k = true → 0 ≤ tot f k ∧ tot f k ≤ 4611686018427387904
  | 0, _ => ⟨Int.le_refl _, by simp [tot]⟩
  | k + 1, h => by
    obtain ⟨h1, h2, h3⟩ := lim_next.1 h
    have := lim_b h1
    simp only [tot]
    omega
theorem lim_le {j k : Nat} (h : j ≤ k) (hl : lim f k = true) : lim f j = true := by
  induction h with
  | refl => exact hl
  | step _ ih => exact ih (lim_next.1 hl).1
theorem tot_mono {j k : Nat} (h : j ≤ k) (hl : lim f k = true) : tot f j ≤ tot f k := by
  induction h with
  | refl => exact Int.le_refl _
  | step _ ih =>
    obtain ⟨h1, h2, h3⟩ := lim_next.1 hl
    have := ih h1
    simp only [tot]
    omega
end
/-- The least bucket with which there are as many as the part of all. -/
structure IsQ (f : Nat → Int) (part of' : Int) (k : Nat) : Prop where
  le : k ≤ 63
  at_ : tot f 64 * part ≤ tot f (k + 1) * of'
  lt : ∀ j, j < k → tot f (j + 1) * of' < tot f 64 * part
theorem least {P : Nat → Prop} : ∀ (m n : Nat), n < m → P n → ∃ k, k ≤ n ∧ P k ∧ ∀ j, j < k → ¬ P j
  | m + 1, n, hn, h => by
    by_cases e : ∃ j, j < n ∧ P j
    · obtain ⟨j, hj, hp⟩ := e
      obtain ⟨k, h1, h2, h3⟩ := least m j (by omega) hp
      exact ⟨k, by omega, h2, h3⟩
    · exact ⟨n, Nat.le_refl _, h, fun j hj hp => e ⟨j, hj, hp⟩⟩
theorem IsQ.ex {f : Nat → Int} {part of' : Int} (hl : lim f 64 = true) (h0 : 0 ≤ part) (h1 : part ≤ of') : ∃ k, IsQ f part of' k := by
  have := lim_b hl
  obtain ⟨k, q1, q2, q3⟩ := least (P := fun j => tot f 64 * part ≤ tot f (j + 1) * of') 64 63 (by omega) (Int.mul_le_mul_of_nonneg_left h1 this.1)
  exact ⟨k, q1, q2, fun j hj => by have := q3 j hj; omega⟩
/-- It never falls as the part grows. -/
theorem IsQ.mono {f : Nat → Int} {part part' of' : Int} {k k' : Nat} (hl : lim f 64 = true) (h : IsQ f part of' k) (h' : IsQ f part' of' k') (hp : part ≤ part') : k ≤ k' := by
  have := lim_b hl
  have h1 := Int.mul_le_mul_of_nonneg_left hp this.1
  refine Nat.le_of_not_lt fun hlt => ?_
  have h2 := h.lt k' hlt
  have h3 := h'.at_
  omega
theorem IsQ.zero {f : Nat → Int} {of' : Int} {k : Nat} (hl : lim f 64 = true) (h0 : 0 ≤ of') (h : IsQ f 0 of' k) : k = 0 := by
  refine Nat.eq_zero_of_not_pos fun hp => ?_
  have h1 := h.lt 0 hp
  have h2 := (lim_b (lim_le (j := 1) (by omega) hl)).1
  have h3 := Int.mul_nonneg h2 h0
  rw [Int.mul_zero] at h1
  exact absurd h1 (by simpa using h3)
theorem IsQ.none {f : Nat → Int} {part of' : Int} {k : Nat} (hl : lim f 64 = true) (h0 : 0 ≤ of') (ha : tot f 64 = 0) (h : IsQ f part of' k) : k = 0 := by
  refine Nat.eq_zero_of_not_pos fun hp => ?_
  have h1 := h.lt 0 hp
  have h2 := (lim_b (lim_le (j := 1) (by omega) hl)).1
  have h3 := Int.mul_nonneg h2 h0
  rw [ha, Int.zero_mul] at h1
  exact absurd h1 (by simpa using h3)
theorem hi_mono {k k' : Nat} (h : k ≤ k') : Ti.edHiN k ≤ Ti.edHiN k' := by
  cases k with
  | zero =>
    cases k' with
    | zero => exact Int.le_refl _
    | succ n => have := Ti.p2_pos n; simp only [Ti.edHiN]; omega
  | succ m =>
    cases k' with
    | zero => omega
    | succ n => have := Ti.p2_mono (m := m) (n := n) (by omega); simp only [Ti.edHiN]; omega
theorem hi_next (k : Nat) : Ti.edHiN (k + 1) = 2 * Ti.edHiN k + 1 := by
  cases k with
  | zero => rfl
  | succ n => have := Ti.p2_succ n; simp only [Ti.edHiN]; omega
theorem at_index (w : World) {t : TypeId} {n : Nat} (hu : Try.prog.underlying t = some (.array n 3)) {f : Nat → Int} {j : Nat} (h : j < n) : (Instr.index t (.agg (ic n f)) (.int .i64 (j : Int))).run Try.prog w = .ok (.int .i64 (f j)) w := by
  have hs : (sizeOf 3).run Try.prog w = .ok 1 w := by kernel_rfl
  have hp := part_int w (f := f) h
  have hu' : (underlying t).run Try.prog w = .ok (.array n 3) w := by simp [underlying, hu]
  simp only [Instr.index, asIntOf, Sem.run_bind, Sem.run_pure, Result.andThen_ok, hu']
  rw [if_pos ⟨Int.natCast_nonneg j, by omega⟩]
  simp only [Sem.run_bind, hs, Result.andThen_ok, Nat.mul_one, Int.toNat_natCast, hp]
theorem wpList_ix {w : World} {ops : Array Oper} {rest : List Oper} {o : Oper} {a : Act} {Q : Exit → Act → World → Prop} (hg : o.guard = none) {t : TypeId} {n : Nat} (hu : Try.prog.underlying t = some (.array n 3)) (x ix : Operand) (hop : o.op = Op.index t x ix) (f : Nat → Int) (j : Nat) (hx : a.eval x = .agg (ic n f)) (hi : a.eval ix = .int .i64 (j : Int)) (hj : j < n)
    (hK : wpList Try.prog ops Q rest (a.put o.dst (.int .i64 (f j))) w) : wpList Try.prog ops Q (o :: rest) a w := by
  refine wpList_plain hg fun K' hK' => ?_
  have hrun := at_index w hu (f := f) hj
  unfold Oper.wp
  simp only [execOp, hop, hx, hi, hrun, Sem.run_bind, Sem.run_pure, Result.andThen_ok]
  exact hK' _ _ hK
/-- All counts, if they may be. -/
def totR (f : Nat → Int) : Int := if lim f 64 = true then tot f 64 else 0
theorem totR_no {f : Nat → Int} (h : lim f 64 = false) : totR f = 0 := by unfold totR; rw [h]; rfl
theorem totR_yes {f : Nat → Int} (h : lim f 64 = true) : totR f = tot f 64 := by unfold totR; rw [h]; rfl
theorem retB {a a' : Int} {b b' : Bool} (h1 : a = a') (h2 : b = b') : Ending.returned (.tuple #[.int .i64 a, .bool b]) = .returned (.tuple #[.int .i64 a', .bool b']) := by rw [h1, h2]
set_option maxRecDepth 20000 in
theorem together_ (f : Nat → Int) (hw : ∀ j, j < 64 → W64 (f j)) (w : World) :
    Calls Try.prog 38 #[.agg (ic 64 f)] w fun r w' => r = .returned (.tuple #[.int .i64 (totR f), .bool (lim f 64)]) ∧ Touch [] w w' := by
  have HS := hid (ic_size 64 f)
  have HW := hid hw
  have T0 := hid ((Touch.refl [] w).alloc (.cells (ic 64 f) 37))
  clear hw
  go_enter Try.func38, Try.ntmps38
  go_wp2_with (refine wpList_loadT big64 rfl _ rfl w.heap.size (ic 64 f) 37 (0, 0) rfl (heap_alloc_new w _) HS.out ?_)
  go_loopw [4, 8] (fun all i wr => ∃ j : Nat, i = .int .i64 j ∧ all = .int .i64 (tot f j) ∧ j ≤ 64 ∧ Hid (lim f j = true) ∧ Hid (Touch [] w wr)) (fun _ i _ => 64 - (intOf i).toNat)
  case atStart => exact ⟨0, rfl, rfl, by omega, rfl, T0.out⟩
  case round =>
    obtain ⟨j, rfl, rfl, hj, HL, T⟩ := hrel
    by_cases hlt : j < 64
    · have q1 := (HW.out j hlt).lo
      have q2 := (HW.out j hlt).hi
      obtain ⟨q3, q4⟩ := lim_b HL.out
      by_cases hn : f j < 0 ∨ 4611686018427387904 - tot f j < f j
      · have hf : lim f 64 = false := by
          refine Bool.eq_false_iff.2 fun h => ?_
          have := lim_next.1 (lim_le (j := j + 1) (by omega) h)
          omega
        have HD := hid (totR_no hf)
        have HF := hid hf
        clear hf
        by_cases h0 : f j < 0
        · clear hn
          generalize tot f j = y at *
          go_wp2_with (refine wpList_ix rfl Try.underlying37 _ _ rfl f j rfl rfl hlt ?_)
          go_ret2
          exact ⟨by rw [HD.out, HF.out]; rfl, T.out⟩
        · have hn : 4611686018427387904 - tot f j < f j := by omega
          generalize tot f j = y at *
          go_wp2_with (refine wpList_ix rfl Try.underlying37 _ _ rfl f j rfl rfl hlt ?_)
          go_ret2
          exact ⟨by rw [HD.out, HF.out]; rfl, T.out⟩
      · have h0 : ¬ f j < 0 := by omega
        have h1 : ¬ 4611686018427387904 - tot f j < f j := by omega
        have HN := hid (show lim f (j + 1) = true from lim_next.2 ⟨HL.out, by omega, by omega⟩)
        have HT := hid (show tot f j + f j = tot f (j + 1) from rfl)
        clear hn
        generalize hy : tot f j = y at *
        go_wp2_with (refine wpList_ix rfl Try.underlying37 _ _ rfl f j rfl rfl hlt ?_)
        go_roundw
        case rel => exact ⟨j + 1, rfl, by rw [← HT.out], by omega, HN, T⟩
        case measure => simp [intOf]; omega
    · obtain rfl : j = 64 := by omega
      have HE := hid (totR_yes HL.out)
      generalize tot f 64 = y at *
      go_wp2
      go_ret2
      exact ⟨by rw [HE.out, HL.out]; rfl, T.out⟩
theorem totR_b (f : Nat → Int) : 0 ≤ totR f ∧ totR f ≤ 4611686018427387904 := by
  unfold totR
  split
  · rename_i h; exact lim_b h
  · omega
theorem quantile_no (f : Nat → Int) (hw : ∀ j, j < 64 → W64 (f j)) (part of' : Int) (h : lim f 64 = true → of' < 1 ∨ part < 0 ∨ of' < part) (w : World) :
    Calls Try.prog 20 #[.agg (ic 64 f), .int .i64 part, .int .i64 of'] w fun r w' => r = .returned (.tuple #[.int .i64 0, .int .i64 1]) ∧ Touch [] w w' := by
  have HS := hid (ic_size 64 f)
  have HC := hid (together_ f hw)
  have T0 := hid ((Touch.refl [] w).alloc (.cells (ic 64 f) 37))
  clear hw
  generalize totR f = y at *
  cases hl : lim f 64
  · rw [hl] at HC
    clear h hl
    go_enter Try.func20, Try.ntmps20
    go_wp2_with (first | (refine wpList_loadT big64 rfl _ rfl w.heap.size (ic 64 f) 37 (0, 0) rfl (heap_alloc_new w _) HS.out ?_) | (go_at_call 38; refine (HC.out _).mono ?_; rintro r w1 ⟨rfl, t1⟩; have T1 := hid (T0.out.trans' t1); clear t1))
    go_ret2
    exact ⟨rfl, T1.out⟩
  · have h := h hl
    rw [hl] at HC
    clear hl
    by_cases h1 : of' < 1
    · clear h
      go_enter Try.func20, Try.ntmps20
      go_wp2_with (first | (refine wpList_loadT big64 rfl _ rfl w.heap.size (ic 64 f) 37 (0, 0) rfl (heap_alloc_new w _) HS.out ?_) | (go_at_call 38; refine (HC.out _).mono ?_; rintro r w1 ⟨rfl, t1⟩; have T1 := hid (T0.out.trans' t1); clear t1))
      go_ret2
      exact ⟨rfl, T1.out⟩
    · by_cases h2 : part < 0
      · clear h
        go_enter Try.func20, Try.ntmps20
        go_wp2_with (first | (refine wpList_loadT big64 rfl _ rfl w.heap.size (ic 64 f) 37 (0, 0) rfl (heap_alloc_new w _) HS.out ?_) | (go_at_call 38; refine (HC.out _).mono ?_; rintro r w1 ⟨rfl, t1⟩; have T1 := hid (T0.out.trans' t1); clear t1))
        go_ret2
        exact ⟨rfl, T1.out⟩
      · have h3 : of' < part := by omega
        clear h
        go_enter Try.func20, Try.ntmps20
        go_wp2_with (first | (refine wpList_loadT big64 rfl _ rfl w.heap.size (ic 64 f) 37 (0, 0) rfl (heap_alloc_new w _) HS.out ?_) | (go_at_call 38; refine (HC.out _).mono ?_; rintro r w1 ⟨rfl, t1⟩; have T1 := hid (T0.out.trans' t1); clear t1))
        go_ret2
        exact ⟨rfl, T1.out⟩
theorem quantile_ (f : Nat → Int) (hw : ∀ j, j < 64 → W64 (f j)) (part of' : Int) (hl : lim f 64 = true) (h1 : 1 ≤ of') (h2 : 0 ≤ part) (h3 : part ≤ of') (ho : of' < 9223372036854775808) {k : Nat} (hk : IsQ f part of' k) (w : World) :
    Calls Try.prog 20 #[.agg (ic 64 f), .int .i64 part, .int .i64 of'] w fun r w' => r = .returned (.tuple #[.int .i64 (Ti.edHiN k), .int .i64 0]) ∧ Touch [] w w' := by
  have HS := hid (ic_size 64 f)
  have HC := hid (together_ f hw)
  have HB := hid (fun j (hj : j ≤ 64) => lim_b (lim_le (f := f) hj hl))
  have HQ := hid hk
  have kle := hk.le
  have HE := hid (fun w => Ti.edges22_nat k hk.le w)
  rw [hl, totR_yes hl] at HC
  have HL := hid hl
  have Z0 := hid (show f 0 = tot f 1 by simp [tot])
  clear hl hw hk
  have h1' : ¬ of' < 1 := by omega
  have h2' : ¬ part < 0 := by omega
  have h3' : ¬ of' < part := by omega
  have R0 := hid (show Row (w.alloc (.cells (ic 64 f) 37)) w.heap.size 64 f 37 from heap_alloc_new w _)
  have T0 := hid ((Touch.refl [] w).alloc (.cells (ic 64 f) 37))
  go_enter Try.func20, Try.ntmps20
  go_wp2_with (first | (refine wpList_loadT big64 rfl _ rfl w.heap.size (ic 64 f) 37 (0, 0) rfl (heap_alloc_new w _) HS.out ?_) | (go_at_call 38; refine (HC.out _).mono ?_; rintro r w1 ⟨rfl, t1⟩; have T1 := hid (T0.out.trans' t1); have R1 := hid (R0.out.keep t1 (by simp)); have c0 := R1.out.cell (i := 0) (by omega); rw [Z0.out] at c0; clear t1))
  go_quiet (fail)
  obtain ⟨V, hV⟩ : ∃ V, V = w1.drewN nq := ⟨_, rfl⟩
  rw [← hV]
  have T2 := hid (show Touch [] w V by rw [hV]; exact T1.out.drewN _)
  have R2 := hid (show Row V w.heap.size 64 f 37 by rw [hV]; exact R1.out.keep ((Touch.refl [] w1).drewN _) (by simp))
  clear hV c0
  go_wp2
  go_loopw [10, 11] (fun i x wr => ∃ j : Nat, i = .int .i64 j ∧ x = .int .i64 (tot f (j + 1)) ∧ j ≤ k ∧ Hid (Touch [] w wr) ∧ Hid (Row wr w.heap.size 64 f 37)) (fun i _ _ => k - (intOf i).toNat)
  case atStart => exact ⟨0, rfl, rfl, by omega, T2, R2⟩
  case round =>
    obtain ⟨j, rfl, rfl, hj, T, R⟩ := hrel
    obtain ⟨q1, q2⟩ := HB.out (j + 1) (by omega)
    obtain ⟨q3, q4⟩ := HB.out 64 (by omega)
    have HI := hid (isBelow_ (tot f (j + 1)) of' (tot f 64) part q1 (by omega) q3 h2 (by omega) (by omega) (by omega) (by omega))
    by_cases hlt : j < k
    · have HD := hid (decide_eq_true (HQ.out.lt j hlt))
      rw [HD.out] at HI
      have c1 := R.out.cell (i := j + 1) (by omega)
      obtain ⟨q5, q6⟩ := HB.out (j + 2) (by omega)
      have HT := hid (show tot f (j + 1) + f (j + 1) = tot f (j + 1 + 1) from rfl)
      have e1 : tot f (j + 2) = tot f (j + 1) + f (j + 1) := rfl
      rw [e1] at q5 q6
      clear e1
      generalize tot f (j + 1) = y at *
      generalize f (j + 1) = x at *
      go_wp2_with (go_at_call 39; refine (HI.out _).mono ?_; rintro r w1 ⟨rfl, rfl⟩)
      go_roundw
      case rel => exact ⟨j + 1, rfl, by rw [← HT.out], hlt, T, R⟩
      case measure => simp [intOf]; omega
    · obtain rfl : j = k := by omega
      have HD := hid (decide_eq_false (fun h : tot f (j + 1) * of' < tot f 64 * part => by have := HQ.out.at_; omega))
      rw [HD.out] at HI
      generalize tot f (j + 1) = y at *
      go_wp2_with (first | (go_at_call 39; refine (HI.out _).mono ?_; rintro r w1 ⟨rfl, rfl⟩) | (go_at_call 40; refine (HE.out _).mono ?_; rintro r w1 ⟨rfl, rfl⟩))
      go_ret2
      exact ⟨rfl, T.out⟩
end Go.Proofs.Ytibgfkjhohgkhaa.Ty
