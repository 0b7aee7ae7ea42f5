/- The program's look at an event; the condition is that the table holds what the start lays. -/
import Derived.Test.YtlffleigahfdlaaGreatDoorEvb
import Derived.Test.YtlffleigahfdlaaGreatDoorRgt
namespace Go.Proofs.YtlffleigahfdlaaGreatDoor.Tr
open Go.RowKit Go.Maps Go.ChangeMaps
set_option linter.unusedVariables false
set_option linter.unusedSimpArgs false
def PA (b i : Nat) : Value := .pointer (some ⟨b, i, none⟩)
theorem numOf_ (b : Nat) (w : World) : Calls Tryz.prog 76 #[PA b 0] w fun e w' => e = .returned (.agg #[PA b 2, PA b 3, PA b 4, PA b 5, PA b 6]) ∧ Touch [] w w' := by
  unfold PA
  go_enter Tryz.func76, Tryz.ntmps76
  go_wp2
  go_region
  go_wp2
  exact bodyPost_ret (v := .agg #[.pointer (some ⟨b, 2, none⟩), .pointer (some ⟨b, 3, none⟩), .pointer (some ⟨b, 4, none⟩), .pointer (some ⟨b, 5, none⟩), .pointer (some ⟨b, 6, none⟩)]) (by simp [results, Tryz.results76, go_sem]) rfl ⟨rfl, ((Touch.refl [] w).alloc _).drew⟩
theorem ixA (b j : Nat) (hj : j < 5) (w : World) : (Instr.index 123 (.agg #[.pointer (some ⟨b, 2, none⟩), .pointer (some ⟨b, 3, none⟩), .pointer (some ⟨b, 4, none⟩), .pointer (some ⟨b, 5, none⟩), .pointer (some ⟨b, 6, none⟩)]) (.int .i64 j)).run Tryz.prog w = .ok (.pointer (some ⟨b, j + 2, none⟩)) w := by
  rcases (by omega : j = 0 ∨ j = 1 ∨ j = 2 ∨ j = 3 ∨ j = 4) with rfl | rfl | rfl | rfl | rfl <;> kernel_rfl
def fN (e : Ez) : Nat → Int
  | 0 => e.cl | 1 => e.ca | 2 => e.ru | 3 => e.ge | _ => e.ho
def lN : Nat → Int
  | 0 => 99 | 1 => 110 | 2 => 114 | 3 => 103 | _ => 104
def okN (e : Ez) (j : Nat) : Bool := numB e.kd (lN j) (fN e j)
theorem okN_neg {e : Ez} {j : Nat} (h : fN e j < 0) : okN e j = false := by
  unfold okN numB
  rw [decide_eq_false (by omega), decide_eq_false (by omega)]; rfl
theorem okN_zero {e : Ez} {j : Nat} (h : fN e j = 0) : okN e j = true := by
  unfold okN numB
  rw [decide_eq_true h]; rfl
theorem okN_pos {e : Ez} {j : Nat} (h : 0 < fN e j) : okN e j = nmB e.kd (lN j) := by
  unfold okN numB
  rw [decide_eq_false (by omega), decide_eq_true h]; rfl
theorem numsB_ok {e : Ez} (h : ∀ j, j < 5 → okN e j = true) : numsB e = decide (e.ho ≤ 6) := by
  have h0 : numB e.kd 99 e.cl = true := h 0 (by omega)
  have h1 : numB e.kd 110 e.ca = true := h 1 (by omega)
  have h2 : numB e.kd 114 e.ru = true := h 2 (by omega)
  have h3 : numB e.kd 103 e.ge = true := h 3 (by omega)
  have h4 : numB e.kd 104 e.ho = true := h 4 (by omega)
  unfold numsB
  rw [h0, h1, h2, h3, h4]; rfl
theorem numsB_no {e : Ez} {j : Nat} (hj : j < 5) (h : okN e j = false) : numsB e = false := by
  unfold numsB
  have : (numB e.kd 99 e.cl && (numB e.kd 110 e.ca && (numB e.kd 114 e.ru && (numB e.kd 103 e.ge && numB e.kd 104 e.ho)))) = false := by
    rcases (by omega : j = 0 ∨ j = 1 ∨ j = 2 ∨ j = 3 ∨ j = 4) with rfl | rfl | rfl | rfl | rfl
    · rw [show numB e.kd 99 e.cl = false from h]; simp
    · rw [show numB e.kd 110 e.ca = false from h]; simp
    · rw [show numB e.kd 114 e.ru = false from h]; simp
    · rw [show numB e.kd 103 e.ge = false from h]; simp
    · rw [show numB e.kd 104 e.ho = false from h]; simp
  rw [this]; rfl
set_option maxRecDepth 20000 in
set_option maxHeartbeats 2000000 in
theorem numMay_ (e : Ez) (w : World) (hk : Tk w) : Calls Tryz.prog 45 #[e.val] w fun r w' => r = .returned (.bool (numsB e)) ∧ Touch [] w w' := by
  obtain ⟨w0, hw0⟩ : ∃ w0, w0 = w.alloc (.cells #[.int .i64 e.at_, .int .i64 e.kd, .int .i64 e.cl, .int .i64 e.ca, .int .i64 e.ru, .int .i64 e.ge, .int .i64 e.ho, .int .u16 e.sp, .string e.nm, .int .i64 e.va, .int .i64 e.fk, .int .i64 e.fc, .int .i64 e.fr] 30) := ⟨_, rfl⟩
  have T0 : Touch [] w w0 := by rw [hw0]; exact (Touch.refl [] w).alloc _
  have HB : Hid (∀ w', Touch [] w0 w' → w'.cell? ⟨w.heap.size, 1, none⟩ = some (.int .i64 e.kd) ∧ w'.cell? ⟨w.heap.size, 2, none⟩ = some (.int .i64 e.cl) ∧ w'.cell? ⟨w.heap.size, 3, none⟩ = some (.int .i64 e.ca) ∧ w'.cell? ⟨w.heap.size, 4, none⟩ = some (.int .i64 e.ru) ∧ w'.cell? ⟨w.heap.size, 5, none⟩ = some (.int .i64 e.ge) ∧ w'.cell? ⟨w.heap.size, 6, none⟩ = some (.int .i64 e.ho)) := fun w' t => by
    have c : ∀ i v, w0.cell? ⟨w.heap.size, i, none⟩ = some v → w'.cell? ⟨w.heap.size, i, none⟩ = some v := fun i v h => tcell t h
    rw [hw0] at c
    exact ⟨c 1 _ (by simp), c 2 _ (by simp), c 3 _ (by simp), c 4 _ (by simp), c 5 _ (by simp), c 6 _ (by simp)⟩
  have HT : Hid (Touch [] w w0) := T0
  have HK : Hid (Tk w) := hk
  have HO : Hid _ := fun w' => numOf_ w.heap.size w'
  have HN : Hid (∀ (c : Int) (w' : World), Touch [] w0 w' → Calls Tryz.prog 82 #[.int .i64 e.kd, .int .u8 c] w' fun r w'' => r = .returned (.bool (nmB e.kd c)) ∧ w'' = w') := fun c w' t => names_ e.kd c w' (hk.touch (T0.trans' t))
  unfold PA at HO
  clear T0 hk
  unfold Ez.val
  go_enter Tryz.func45, Tryz.ntmps45
  go_wp2_with fail
  rw [← hw0]
  clear hw0
  refine (HO.out _).mono ?_
  rintro r w1 ⟨rfl, t1⟩
  have H1 : Hid (Touch [] w0 w1) := t1
  clear t1
  go_wp2_with fail
  go_loopw [6] (fun i wr => ∃ j : Nat, i = .int .i64 j ∧ j ≤ 5 ∧ Hid (∀ k, k < j → okN e k = true) ∧ Hid (Touch [] w0 wr)) (fun i _ => 5 - (intOf i).toNat)
  case atStart => exact ⟨0, rfl, Nat.zero_le _, fun k h => absurd h (Nat.not_lt_zero _), H1.out⟩
  case round =>
    obtain ⟨j, rfl, hj, HA, HG⟩ := hrel
    rcases (by omega : j = 0 ∨ j = 1 ∨ j = 2 ∨ j = 3 ∨ j = 4 ∨ j = 5) with rfl | rfl | rfl | rfl | rfl | rfl
    · obtain ⟨c1, c2, c3, c4, c5, c6⟩ := HB.out _ HG.out
      have hix : ∀ w' : World, (Instr.index 123 (.agg #[.pointer (some ⟨w.heap.size, 2, none⟩), .pointer (some ⟨w.heap.size, 3, none⟩), .pointer (some ⟨w.heap.size, 4, none⟩), .pointer (some ⟨w.heap.size, 5, none⟩), .pointer (some ⟨w.heap.size, 6, none⟩)]) (.int .i64 0)).run Tryz.prog w' = .ok (.pointer (some ⟨w.heap.size, 2, none⟩)) w' := ixA w.heap.size 0 (by omega)
      rcases Int.lt_trichotomy e.cl 0 with hn | hn | hn
      · have HE : Hid (numsB e = false) := numsB_no (j := 0) (by omega) (okN_neg (e := e) (j := 0) hn)
        go_wp2_with fail
        go_quiet (fail)
        go_wp2_with fail
        go_ret
        exact ⟨by rw [HE.out]; rfl, HT.out.trans' (HG.out.drewN _)⟩
      · have HE : Hid (∀ k, k < 1 → okN e k = true) := fun k h => by rcases (by omega : k < 0 ∨ k = 0) with h' | rfl; exact HA.out k h'; exact okN_zero (e := e) (j := 0) hn
        have hm : ¬ e.cl < 0 := by omega
        have hm2 : ¬ 0 < e.cl := by omega
        have hq1 : decide (e.cl < 0) = false := decide_eq_false hm
        have hq2 : decide (0 < e.cl) = false := decide_eq_false hm2
        clear hn hm hm2
        go_wp2_with fail
        go_quiet (fail)
        go_wp2_with fail
        go_roundw
        case rel => exact ⟨1, rfl, by omega, HE, HG.out.drewN _⟩
        case measure => simp [intOf]
      · have HV : Hid (okN e 0 = nmB e.kd 99) := okN_pos (e := e) (j := 0) hn
        have hm : ¬ e.cl < 0 := by omega
        have HC : Hid _ := HN.out 99
        obtain ⟨vb, hvb⟩ : ∃ vb, nmB e.kd 99 = vb := ⟨_, rfl⟩
        rw [hvb] at HC HV
        clear hvb
        cases vb with
        | true =>
          have HE : Hid (∀ k, k < 1 → okN e k = true) := fun k h => by rcases (by omega : k < 0 ∨ k = 0) with h' | rfl; exact HA.out k h'; exact HV.out
          go_wp2_with fail
          go_quiet (first | (go_at_call 82; exact Calls.quiet_of_same (HC.out _ (HG.out.drewN _))))
          go_wp2_with fail
          go_roundw
          case rel => exact ⟨1, rfl, by omega, HE, HG.out.drewN _⟩
          case measure => simp [intOf]
        | false =>
          have HE : Hid (numsB e = false) := numsB_no (j := 0) (by omega) HV.out
          go_wp2_with fail
          go_quiet (first | (go_at_call 82; exact Calls.quiet_of_same (HC.out _ (HG.out.drewN _))))
          go_wp2_with fail
          go_ret
          exact ⟨by rw [HE.out]; rfl, HT.out.trans' (HG.out.drewN _)⟩
    · obtain ⟨c1, c2, c3, c4, c5, c6⟩ := HB.out _ HG.out
      have hix : ∀ w' : World, (Instr.index 123 (.agg #[.pointer (some ⟨w.heap.size, 2, none⟩), .pointer (some ⟨w.heap.size, 3, none⟩), .pointer (some ⟨w.heap.size, 4, none⟩), .pointer (some ⟨w.heap.size, 5, none⟩), .pointer (some ⟨w.heap.size, 6, none⟩)]) (.int .i64 1)).run Tryz.prog w' = .ok (.pointer (some ⟨w.heap.size, 3, none⟩)) w' := ixA w.heap.size 1 (by omega)
      rcases Int.lt_trichotomy e.ca 0 with hn | hn | hn
      · have HE : Hid (numsB e = false) := numsB_no (j := 1) (by omega) (okN_neg (e := e) (j := 1) hn)
        go_wp2_with fail
        go_quiet (fail)
        go_wp2_with fail
        go_ret
        exact ⟨by rw [HE.out]; rfl, HT.out.trans' (HG.out.drewN _)⟩
      · have HE : Hid (∀ k, k < 2 → okN e k = true) := fun k h => by rcases (by omega : k < 1 ∨ k = 1) with h' | rfl; exact HA.out k h'; exact okN_zero (e := e) (j := 1) hn
        have hm : ¬ e.ca < 0 := by omega
        have hm2 : ¬ 0 < e.ca := by omega
        have hq1 : decide (e.ca < 0) = false := decide_eq_false hm
        have hq2 : decide (0 < e.ca) = false := decide_eq_false hm2
        clear hn hm hm2
        go_wp2_with fail
        go_quiet (fail)
        go_wp2_with fail
        go_roundw
        case rel => exact ⟨2, rfl, by omega, HE, HG.out.drewN _⟩
        case measure => simp [intOf]
      · have HV : Hid (okN e 1 = nmB e.kd 110) := okN_pos (e := e) (j := 1) hn
        have hm : ¬ e.ca < 0 := by omega
        have HC : Hid _ := HN.out 110
        obtain ⟨vb, hvb⟩ : ∃ vb, nmB e.kd 110 = vb := ⟨_, rfl⟩
        rw [hvb] at HC HV
        clear hvb
        cases vb with
        | true =>
          have HE : Hid (∀ k, k < 2 → okN e k = true) := fun k h => by rcases (by omega : k < 1 ∨ k = 1) with h' | rfl; exact HA.out k h'; exact HV.out
          go_wp2_with fail
          go_quiet (first | (go_at_call 82; exact Calls.quiet_of_same (HC.out _ (HG.out.drewN _))))
          go_wp2_with fail
          go_roundw
          case rel => exact ⟨2, rfl, by omega, HE, HG.out.drewN _⟩
          case measure => simp [intOf]
        | false =>
          have HE : Hid (numsB e = false) := numsB_no (j := 1) (by omega) HV.out
          go_wp2_with fail
          go_quiet (first | (go_at_call 82; exact Calls.quiet_of_same (HC.out _ (HG.out.drewN _))))
          go_wp2_with fail
          go_ret
          exact ⟨by rw [HE.out]; rfl, HT.out.trans' (HG.out.drewN _)⟩
    · obtain ⟨c1, c2, c3, c4, c5, c6⟩ := HB.out _ HG.out
      have hix : ∀ w' : World, (Instr.index 123 (.agg #[.pointer (some ⟨w.heap.size, 2, none⟩), .pointer (some ⟨w.heap.size, 3, none⟩), .pointer (some ⟨w.heap.size, 4, none⟩), .pointer (some ⟨w.heap.size, 5, none⟩), .pointer (some ⟨w.heap.size, 6, none⟩)]) (.int .i64 2)).run Tryz.prog w' = .ok (.pointer (some ⟨w.heap.size, 4, none⟩)) w' := ixA w.heap.size 2 (by omega)
      rcases Int.lt_trichotomy e.ru 0 with hn | hn | hn
      · have HE : Hid (numsB e = false) := numsB_no (j := 2) (by omega) (okN_neg (e := e) (j := 2) hn)
        go_wp2_with fail
        go_quiet (fail)
        go_wp2_with fail
        go_ret
        exact ⟨by rw [HE.out]; rfl, HT.out.trans' (HG.out.drewN _)⟩
      · have HE : Hid (∀ k, k < 3 → okN e k = true) := fun k h => by rcases (by omega : k < 2 ∨ k = 2) with h' | rfl; exact HA.out k h'; exact okN_zero (e := e) (j := 2) hn
        have hm : ¬ e.ru < 0 := by omega
        have hm2 : ¬ 0 < e.ru := by omega
        have hq1 : decide (e.ru < 0) = false := decide_eq_false hm
        have hq2 : decide (0 < e.ru) = false := decide_eq_false hm2
        clear hn hm hm2
        go_wp2_with fail
        go_quiet (fail)
        go_wp2_with fail
        go_roundw
        case rel => exact ⟨3, rfl, by omega, HE, HG.out.drewN _⟩
        case measure => simp [intOf]
      · have HV : Hid (okN e 2 = nmB e.kd 114) := okN_pos (e := e) (j := 2) hn
        have hm : ¬ e.ru < 0 := by omega
        have HC : Hid _ := HN.out 114
        obtain ⟨vb, hvb⟩ : ∃ vb, nmB e.kd 114 = vb := ⟨_, rfl⟩
        rw [hvb] at HC HV
        clear hvb
        cases vb with
        | true =>
          have HE : Hid (∀ k, k < 3 → okN e k = true) := fun k h => by rcases (by omega : k < 2 ∨ k = 2) with h' | rfl; exact HA.out k h'; exact HV.out
          go_wp2_with fail
          go_quiet (first | (go_at_call 82; exact Calls.quiet_of_same (HC.out _ (HG.out.drewN _))))
          go_wp2_with fail
          go_roundw
          case rel => exact ⟨3, rfl, by omega, HE, HG.out.drewN _⟩
          case measure => simp [intOf]
        | false =>
          have HE : Hid (numsB e = false) := numsB_no (j := 2) (by omega) HV.out
          go_wp2_with fail
          go_quiet (first | (go_at_call 82; exact Calls.quiet_of_same (HC.out _ (HG.out.drewN _))))
          go_wp2_with fail
          go_ret
          exact ⟨by rw [HE.out]; rfl, HT.out.trans' (HG.out.drewN _)⟩
    · obtain ⟨c1, c2, c3, c4, c5, c6⟩ := HB.out _ HG.out
      have hix : ∀ w' : World, (Instr.index 123 (.agg #[.pointer (some ⟨w.heap.size, 2, none⟩), .pointer (some ⟨w.heap.size, 3, none⟩), .pointer (some ⟨w.heap.size, 4, none⟩), .pointer (some ⟨w.heap.size, 5, none⟩), .pointer (some ⟨w.heap.size, 6, none⟩)]) (.int .i64 3)).run Tryz.prog w' = .ok (.pointer (some ⟨w.heap.size, 5, none⟩)) w' := ixA w.heap.size 3 (by omega)
      rcases Int.lt_trichotomy e.ge 0 with hn | hn | hn
      · have HE : Hid (numsB e = false) := numsB_no (j := 3) (by omega) (okN_neg (e := e) (j := 3) hn)
        go_wp2_with fail
        go_quiet (fail)
        go_wp2_with fail
        go_ret
        exact ⟨by rw [HE.out]; rfl, HT.out.trans' (HG.out.drewN _)⟩
      · have HE : Hid (∀ k, k < 4 → okN e k = true) := fun k h => by rcases (by omega : k < 3 ∨ k = 3) with h' | rfl; exact HA.out k h'; exact okN_zero (e := e) (j := 3) hn
        have hm : ¬ e.ge < 0 := by omega
        have hm2 : ¬ 0 < e.ge := by omega
        have hq1 : decide (e.ge < 0) = false := decide_eq_false hm
        have hq2 : decide (0 < e.ge) = false := decide_eq_false hm2
        clear hn hm hm2
        go_wp2_with fail
        go_quiet (fail)
        go_wp2_with fail
        go_roundw
        case rel => exact ⟨4, rfl, by omega, HE, HG.out.drewN _⟩
        case measure => simp [intOf]
      · have HV : Hid (okN e 3 = nmB e.kd 103) := okN_pos (e := e) (j := 3) hn
        have hm : ¬ e.ge < 0 := by omega
        have HC : Hid _ := HN.out 103
        obtain ⟨vb, hvb⟩ : ∃ vb, nmB e.kd 103 = vb := ⟨_, rfl⟩
        rw [hvb] at HC HV
        clear hvb
        cases vb with
        | true =>
          have HE : Hid (∀ k, k < 4 → okN e k = true) := fun k h => by rcases (by omega : k < 3 ∨ k = 3) with h' | rfl; exact HA.out k h'; exact HV.out
          go_wp2_with fail
          go_quiet (first | (go_at_call 82; exact Calls.quiet_of_same (HC.out _ (HG.out.drewN _))))
          go_wp2_with fail
          go_roundw
          case rel => exact ⟨4, rfl, by omega, HE, HG.out.drewN _⟩
          case measure => simp [intOf]
        | false =>
          have HE : Hid (numsB e = false) := numsB_no (j := 3) (by omega) HV.out
          go_wp2_with fail
          go_quiet (first | (go_at_call 82; exact Calls.quiet_of_same (HC.out _ (HG.out.drewN _))))
          go_wp2_with fail
          go_ret
          exact ⟨by rw [HE.out]; rfl, HT.out.trans' (HG.out.drewN _)⟩
    · obtain ⟨c1, c2, c3, c4, c5, c6⟩ := HB.out _ HG.out
      have hix : ∀ w' : World, (Instr.index 123 (.agg #[.pointer (some ⟨w.heap.size, 2, none⟩), .pointer (some ⟨w.heap.size, 3, none⟩), .pointer (some ⟨w.heap.size, 4, none⟩), .pointer (some ⟨w.heap.size, 5, none⟩), .pointer (some ⟨w.heap.size, 6, none⟩)]) (.int .i64 4)).run Tryz.prog w' = .ok (.pointer (some ⟨w.heap.size, 6, none⟩)) w' := ixA w.heap.size 4 (by omega)
      rcases Int.lt_trichotomy e.ho 0 with hn | hn | hn
      · have HE : Hid (numsB e = false) := numsB_no (j := 4) (by omega) (okN_neg (e := e) (j := 4) hn)
        go_wp2_with fail
        go_quiet (fail)
        go_wp2_with fail
        go_ret
        exact ⟨by rw [HE.out]; rfl, HT.out.trans' (HG.out.drewN _)⟩
      · have HE : Hid (∀ k, k < 5 → okN e k = true) := fun k h => by rcases (by omega : k < 4 ∨ k = 4) with h' | rfl; exact HA.out k h'; exact okN_zero (e := e) (j := 4) hn
        have hm : ¬ e.ho < 0 := by omega
        have hm2 : ¬ 0 < e.ho := by omega
        have hq1 : decide (e.ho < 0) = false := decide_eq_false hm
        have hq2 : decide (0 < e.ho) = false := decide_eq_false hm2
        clear hn hm hm2
        go_wp2_with fail
        go_quiet (fail)
        go_wp2_with fail
        go_roundw
        case rel => exact ⟨5, rfl, by omega, HE, HG.out.drewN _⟩
        case measure => simp [intOf]
      · have HV : Hid (okN e 4 = nmB e.kd 104) := okN_pos (e := e) (j := 4) hn
        have hm : ¬ e.ho < 0 := by omega
        have HC : Hid _ := HN.out 104
        obtain ⟨vb, hvb⟩ : ∃ vb, nmB e.kd 104 = vb := ⟨_, rfl⟩
        rw [hvb] at HC HV
        clear hvb
        cases vb with
        | true =>
          have HE : Hid (∀ k, k < 5 → okN e k = true) := fun k h => by rcases (by omega : k < 4 ∨ k = 4) with h' | rfl; exact HA.out k h'; exact HV.out
          go_wp2_with fail
          go_quiet (first | (go_at_call 82; exact Calls.quiet_of_same (HC.out _ (HG.out.drewN _))))
          go_wp2_with fail
          go_roundw
          case rel => exact ⟨5, rfl, by omega, HE, HG.out.drewN _⟩
          case measure => simp [intOf]
        | false =>
          have HE : Hid (numsB e = false) := numsB_no (j := 4) (by omega) HV.out
          go_wp2_with fail
          go_quiet (first | (go_at_call 82; exact Calls.quiet_of_same (HC.out _ (HG.out.drewN _))))
          go_wp2_with fail
          go_ret
          exact ⟨by rw [HE.out]; rfl, HT.out.trans' (HG.out.drewN _)⟩
    · have HE : Hid (numsB e = decide (e.ho ≤ 6)) := numsB_ok (fun k h => HA.out k h)
      obtain ⟨c1, c2, c3, c4, c5, c6⟩ := HB.out _ HG.out
      go_wp2_with fail
      go_ret
      exact ⟨by rw [HE.out]; rfl, HT.out.trans' HG.out⟩
end Go.Proofs.YtlffleigahfdlaaGreatDoor.Tr
