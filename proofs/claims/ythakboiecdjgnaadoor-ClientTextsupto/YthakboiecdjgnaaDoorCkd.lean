/- The program's table of things to do, and which may be; the condition is that the table holds what the start lays. -/
import Derived.Test.YthakboiecdjgnaaDoorCth
namespace Go.Proofs.YthakboiecdjgnaaDoor.Ci
open Go.RowKit Go.Maps Go.ChangeMaps
set_option linter.unusedVariables false
/-- the table in memory -/
structure Kd (w : World) : Prop where
  word : ∀ k, k < 10 → w.cell? ⟨0, k * 6, none⟩ = some (.string (kWord k))
  key : ∀ k, k < 10 → w.cell? ⟨0, k * 6 + 1, none⟩ = some (.bool (kKey k))
  nl : ∀ k, k < 10 → w.cell? ⟨0, k * 6 + 2, none⟩ = some (.int .i64 (kNl k))
  nh : ∀ k, k < 10 → w.cell? ⟨0, k * 6 + 3, none⟩ = some (.int .i64 (kNh k))
  sl : ∀ k, k < 10 → w.cell? ⟨0, k * 6 + 4, none⟩ = some (.int .i64 0)
  sh : ∀ k, k < 10 → w.cell? ⟨0, k * 6 + 5, none⟩ = some (.int .i64 (kSh k))
theorem Kd.touch {w w' : World} (h : Kd w) (t : Touch [] w w') : Kd w' :=
  ⟨fun k hk => tcell t (h.word k hk), fun k hk => tcell t (h.key k hk), fun k hk => tcell t (h.nl k hk), fun k hk => tcell t (h.nh k hk), fun k hk => tcell t (h.sl k hk), fun k hk => tcell t (h.sh k hk)⟩
theorem has_ (l g n : Int) (w : World) : Calls Tryd.prog 46 #[.agg #[.int .i64 l, .int .i64 g], .int .i64 n] w fun e w' => e = .returned (.bool (decide (l ≤ n ∧ n ≤ g))) ∧ Touch [] w w' := by
  by_cases h1 : l ≤ n
  · by_cases h2 : n ≤ g
    · have HD : Hid (decide (l ≤ n ∧ n ≤ g) = true) := decide_eq_true ⟨h1, h2⟩
      generalize decide (l ≤ n ∧ n ≤ g) = R at *
      go_enter Tryd.func46, Tryd.ntmps46
      go_wp2
      go_ret
      exact ⟨by rw [HD.out]; rfl, (Touch.refl [] _).alloc _⟩
    · have HD : Hid (decide (l ≤ n ∧ n ≤ g) = false) := decide_eq_false (fun h => h2 h.2)
      generalize decide (l ≤ n ∧ n ≤ g) = R at *
      go_enter Tryd.func46, Tryd.ntmps46
      go_wp2
      go_ret
      exact ⟨by rw [HD.out]; rfl, (Touch.refl [] _).alloc _⟩
  · have HD : Hid (decide (l ≤ n ∧ n ≤ g) = false) := decide_eq_false (fun h => h1 h.1)
    generalize decide (l ≤ n ∧ n ≤ g) = R at *
    go_enter Tryd.func46, Tryd.ntmps46
    go_wp2
    go_ret
    exact ⟨by rw [HD.out]; rfl, (Touch.refl [] _).alloc _⟩
theorem isOp_ (n : Int) (w : World) : Calls Tryd.prog 39 #[.int .i64 n] w fun e w' => e = .returned (.bool (decide (1 ≤ n ∧ n ≤ 9))) ∧ Touch [] w w' := by
  by_cases h1 : 1 ≤ n
  · by_cases h2 : n ≤ 9
    · have HD : Hid (decide (1 ≤ n ∧ n ≤ 9) = true) := decide_eq_true ⟨h1, h2⟩
      generalize decide (1 ≤ n ∧ n ≤ 9) = R at *
      go_enter Tryd.func39, Tryd.ntmps39
      go_wp2
      go_ret
      exact ⟨by rw [HD.out]; rfl, Touch.refl [] _⟩
    · have HD : Hid (decide (1 ≤ n ∧ n ≤ 9) = false) := decide_eq_false (fun h => h2 h.2)
      generalize decide (1 ≤ n ∧ n ≤ 9) = R at *
      go_enter Tryd.func39, Tryd.ntmps39
      go_wp2
      go_ret
      exact ⟨by rw [HD.out]; rfl, Touch.refl [] _⟩
  · have HD : Hid (decide (1 ≤ n ∧ n ≤ 9) = false) := decide_eq_false (fun h => h1 h.1)
    generalize decide (1 ≤ n ∧ n ≤ 9) = R at *
    go_enter Tryd.func39, Tryd.ntmps39
    go_wp2
    go_ret
    exact ⟨by rw [HD.out]; rfl, Touch.refl [] _⟩
def kck (nm : ByteArray) : Int := if nm.size ≤ 64 then 0 else 20
theorem kcheck_ (sp : Int) (nm : ByteArray) (w : World) (hs : nm.size ≤ maxLen) : Calls Tryd.prog 68 #[.agg #[.int .u16 sp, .string nm]] w fun e w' => e = .returned (.int .i64 (kck nm)) ∧ Touch [] w w' := by
  have HS : Hid (nm.size ≤ maxLen) := hs
  clear hs
  by_cases h : nm.size ≤ 64
  · have HD : Hid (kck nm = 0) := if_pos h
    have h' : ¬ (64 : Int) < (nm.size : Int) := by omega
    clear h
    generalize kck nm = R at *
    go_enter Tryd.func68, Tryd.ntmps68
    go_wp2
    go_ret
    exact ⟨by rw [HD.out]; rfl, (Touch.refl [] _).alloc _⟩
  · have HD : Hid (kck nm = 20) := if_neg h
    have h' : (64 : Int) < (nm.size : Int) := by omega
    clear h
    generalize kck nm = R at *
    go_enter Tryd.func68, Tryd.ntmps68
    go_wp2
    go_ret
    exact ⟨by rw [HD.out]; rfl, (Touch.refl [] _).alloc _⟩
theorem keyB_yes (sp : Int) (nm : ByteArray) : keyB true sp nm = (kck nm == 0) := by
  unfold keyB kck
  by_cases h : nm.size ≤ 64 <;> simp [h]
theorem keyMay_ (wd : ByteArray) (b : Bool) (x1 x2 x3 x4 sp : Int) (nm : ByteArray) (w : World) (hs : nm.size ≤ maxLen) :
    Calls Tryd.prog 45 #[.agg #[.string wd, .bool b, .int .i64 x1, .int .i64 x2, .int .i64 x3, .int .i64 x4], .agg #[.int .u16 sp, .string nm]] w fun e w' => e = .returned (.bool (keyB b sp nm)) ∧ Touch [] w w' := by
  cases b with
  | true =>
    have HC : Hid _ := fun w' => kcheck_ sp nm w' hs
    rw [keyB_yes]
    generalize kck nm = q at *
    clear hs
    go_enter Tryd.func45, Tryd.ntmps45
    go_wp2_with fail
    refine (HC.out _).mono ?_
    rintro e w1 ⟨rfl, t1⟩
    go_wp2_with fail
    go_ret
    exact ⟨rfl, (((Touch.refl [] w).alloc _).alloc _).trans' t1⟩
  | false =>
    have HE : Hid (keyB false sp nm = (decide (sp = 0) && decide (nm.toList = []))) := rfl
    generalize keyB false sp nm = R at *
    clear hs
    go_enter Tryd.func45, Tryd.ntmps45
    go_wp2
    all_goals (go_ret; exact ⟨by rw [HE.out]; simp_all, ((Touch.refl [] w).alloc _).alloc _⟩)
set_option maxHeartbeats 1000000 in
theorem may_in (k : Nat) (d : Dz) (w : World) (hk : Kd w) (e0 : d.op = k) (h1 : 1 ≤ k) (h2 : k ≤ 9) (hs : d.nm.size ≤ maxLen) :
    Calls Tryd.prog 29 #[.agg #[.int .i64 d.op, .int .u16 d.sp, .string d.nm, .int .i64 d.n, .int .i64 d.sl]] w fun e w' => e = .returned (.bool (mayZ d)) ∧ Touch [] w w' := by
  have hop : d.op.toNat = k := by omega
  have HR : Hid (mayZ d = (keyB (kKey k) d.sp d.nm && (decide (kNl k ≤ d.n ∧ d.n ≤ kNh k) && decide (0 ≤ d.sl ∧ d.sl ≤ kSh k)))) := by
    show mayZ d = _
    unfold mayZ
    rw [hop, decide_eq_true (by omega : 1 ≤ d.op ∧ d.op ≤ 9)]
    rfl
  rw [e0]
  clear hop e0
  generalize mayZ d = R at *
  obtain ⟨dop, sp, nm, n, sl⟩ := d
  dsimp only at *
  have T1 : Touch [] w (w.alloc (.cells #[.int .i64 k, .int .u16 sp, .string nm, .int .i64 n, .int .i64 sl] 47)) := (Touch.refl [] w).alloc _
  have c0 := tcell T1 (hk.word k (by omega))
  have c1 := tcell T1 (hk.key k (by omega))
  have c2 := tcell T1 (hk.nl k (by omega))
  have c3 := tcell T1 (hk.nh k (by omega))
  have c4 := tcell T1 (hk.sl k (by omega))
  have c5 := tcell T1 (hk.sh k (by omega))
  have k1 : (1 : Int) ≤ (k : Int) := by omega
  have k2 : (k : Int) ≤ 9 := by omega
  have HO : Hid (decide ((1 : Int) ≤ (k : Int) ∧ (k : Int) ≤ 9) = true) := decide_eq_true ⟨k1, k2⟩
  have k3 : (k : Int) < 10 := by omega
  have k4 : (0 : Int) ≤ (k : Int) := by omega
  generalize kWord k = wd at *
  generalize kKey k = kb at *
  generalize kNl k = nl at *
  generalize kNh k = nh at *
  generalize kSh k = sh at *
  have HC : Hid _ := fun w' => keyMay_ wd kb nl nh 0 sh sp nm w' hs
  have HC2 : Hid _ := fun w' => has_ nl nh n w'
  have HC3 : Hid _ := fun w' => has_ 0 sh sl w'
  clear hk h1 h2 hs T1
  generalize keyB kb sp nm = b1 at *
  generalize decide (nl ≤ n ∧ n ≤ nh) = b2 at *
  generalize decide (0 ≤ sl ∧ sl ≤ sh) = b3 at *
  go_enter Tryd.func29, Tryd.ntmps29
  go_wp2_with fail
  refine (isOp_ _ _).mono ?_
  rintro e w1 ⟨rfl, t1⟩
  rw [HO.out]
  have q0 : w1.cell? ⟨w.heap.size, 0, none⟩ = some (.int .i64 k) := tcell t1 (by simp)
  have q1 : w1.cell? ⟨w.heap.size, 1, none⟩ = some (.int .u16 sp) := tcell t1 (by simp)
  have q2 : w1.cell? ⟨w.heap.size, 2, none⟩ = some (.string nm) := tcell t1 (by simp)
  have q3 : w1.cell? ⟨w.heap.size, 3, none⟩ = some (.int .i64 n) := tcell t1 (by simp)
  have q4 : w1.cell? ⟨w.heap.size, 4, none⟩ = some (.int .i64 sl) := tcell t1 (by simp)
  replace c0 := tcell t1 c0
  replace c1 := tcell t1 c1
  replace c2 := tcell t1 c2
  replace c3 := tcell t1 c3
  replace c4 := tcell t1 c4
  replace c5 := tcell t1 c5
  have T : Hid (Touch [] w w1) := ((Touch.refl [] w).alloc _).trans' t1
  have hw : w.heap.size < w1.heap.size := Nat.lt_of_lt_of_le (by simp) t1.size
  clear t1 HO
  go_wp2_with fail
  refine (HC.out _).mono ?_
  rintro e w2 ⟨rfl, t2⟩
  have r0 : w2.cell? ⟨w1.heap.size, 2, none⟩ = some (.int .i64 nl) := tcell t2 (by simp)
  have r1 : w2.cell? ⟨w1.heap.size, 3, none⟩ = some (.int .i64 nh) := tcell t2 (by simp)
  have r2 : w2.cell? ⟨w1.heap.size, 4, none⟩ = some (.int .i64 0) := tcell t2 (by simp)
  have r3 : w2.cell? ⟨w1.heap.size, 5, none⟩ = some (.int .i64 sh) := tcell t2 (by simp)
  have q3' : w2.cell? ⟨w.heap.size, 3, none⟩ = some (.int .i64 n) := tcell t2 (tcell ((Touch.refl [] w1).alloc _) q3)
  have q4' : w2.cell? ⟨w.heap.size, 4, none⟩ = some (.int .i64 sl) := tcell t2 (tcell ((Touch.refl [] w1).alloc _) q4)
  have T2 : Hid (Touch [] w w2) := (T.out.alloc _).trans' t2
  clear t2 T c0 c1 c2 c3 c4 c5 q0 q1 q2 q3 q4
  cases b1 with
  | false =>
    go_wp2_with fail
    go_ret
    exact ⟨by rw [HR.out]; rfl, T2.out⟩
  | true =>
    go_wp2_with fail
    refine (HC2.out _).mono ?_
    rintro e w3 ⟨rfl, t3⟩
    replace r2 := tcell t3 r2
    replace r3 := tcell t3 r3
    replace q4' := tcell t3 q4'
    have T3 : Hid (Touch [] w w3) := T2.out.trans' t3
    clear t3 T2 r0 r1 q3'
    cases b2 with
    | false =>
      go_wp2_with fail
      go_ret
      exact ⟨by rw [HR.out]; rfl, T3.out⟩
    | true =>
      go_wp2_with fail
      refine (HC3.out _).mono ?_
      rintro e w4 ⟨rfl, t4⟩
      go_wp2_with fail
      go_ret
      exact ⟨by rw [HR.out]; rfl, T3.out.trans' t4⟩
theorem may_ (d : Dz) (w : World) (hk : Kd w) (hd : d.ok) :
    Calls Tryd.prog 29 #[.agg #[.int .i64 d.op, .int .u16 d.sp, .string d.nm, .int .i64 d.n, .int .i64 d.sl]] w fun e w' => e = .returned (.bool (mayZ d)) ∧ Touch [] w w' := by
  by_cases h : 1 ≤ d.op ∧ d.op ≤ 9
  · exact may_in d.op.toNat d w hk (by omega) (by omega) (by omega) hd.nm
  · have HO : Hid (decide (1 ≤ d.op ∧ d.op ≤ 9) = false) := decide_eq_false h
    rw [mayZ_op h]
    clear h hd hk
    obtain ⟨op, sp, nm, n, sl⟩ := d
    dsimp only at *
    go_enter Tryd.func29, Tryd.ntmps29
    go_wp2_with fail
    refine (isOp_ _ _).mono ?_
    rintro e w1 ⟨rfl, t1⟩
    rw [HO.out]
    go_wp2_with fail
    go_ret
    exact ⟨rfl, ((Touch.refl [] w).alloc _).trans' t1⟩
set_option maxRecDepth 20000 in
set_option maxHeartbeats 1000000 in
theorem check_ (L : List Dz) (a : Option Addr) (c : Nat) (w : World) (hk : Kd w) (hs : Sl w a L) (hw : Oks L) (hl : L.length ≤ 1000000000000000) :
    Calls Tryd.prog 7 #[.slice a L.length c] w fun e w' => e = .returned (.tuple #[.int .i64 (chkZ L).1, .int .i64 (chkZ L).2]) ∧ Touch [] w w' := by
  by_cases hm : 256 < L.length
  · have hm' : (256 : Int) < (L.length : Int) := by omega
    rw [chk_many hm]
    clear hm
    go_enter Tryd.func7, Tryd.ntmps7
    go_wp2
    go_ret2
    exact ⟨rfl, Touch.refl [] _⟩
  · have HS : Hid (Kd w ∧ Sl w a L ∧ Oks L ∧ L.length ≤ 256) := ⟨hk, hs, hw, by omega⟩
    have hm' : ¬ (256 : Int) < (L.length : Int) := by omega
    have hle : (L.length : Int) ≤ 256 := by omega
    clear hm hk hs hw hl
    go_enter Tryd.func7, Tryd.ntmps7
    go_wp2
    go_loopw [11] (fun i wr => ∃ j : Nat, i = .int .i64 j ∧ j ≤ L.length ∧ Hid (∀ k, (hk : k < L.length) → k < j → mayZ L[k] = true) ∧ Hid (Touch [] w wr)) (fun i _ => L.length - (intOf i).toNat)
    case atStart => exact ⟨0, rfl, Nat.zero_le _, fun k _ h => absurd h (Nat.not_lt_zero _), Touch.refl [] _⟩
    case round =>
      obtain ⟨j, rfl, hj, HB, HG⟩ := hrel
      by_cases hlt : j < L.length
      · have hz : (j : Int) < (L.length : Int) := by omega
        obtain ⟨b, off, rfl, c0, c1, c2, c3, c4⟩ := (HS.out.2.1.touch HG.out) j hlt
        have HC : Hid _ := fun w' (hg : Touch [] wr w') => may_ L[j] w' (HS.out.1.touch (HG.out.trans' hg)) (HS.out.2.2.1 _ (List.getElem_mem hlt))
        obtain ⟨vb, hvb⟩ : ∃ vb, mayZ L[j] = vb := ⟨_, rfl⟩
        have HX : Hid (mayZ L[j] = vb) := hvb
        rw [hvb] at HC
        clear hvb
        generalize L[j].op = x0 at *
        generalize L[j].sp = x1 at *
        generalize L[j].nm = x2 at *
        generalize L[j].n = x3 at *
        generalize L[j].sl = x4 at *
        cases vb with
        | true =>
          go_wp2_with (go_at_call 29; refine (HC.out _ ((Touch.refl [] _).alloc _)).mono ?_; rintro e w1 ⟨rfl, hg⟩)
          go_roundw
          case rel => exact ⟨j + 1, by go_num, by omega, fun k hk h => by rcases (by omega : k < j ∨ k = j) with h' | rfl; exact HB.out k hk h'; exact HX.out, (HG.out.alloc _).trans' hg⟩
          case measure => simp [intOf]; omega
        | false =>
          have HE : Hid (chkZ L = (j, 210)) := chk_at HS.out.2.2.2 j hlt (fun k hk h => HB.out k hk h) HX.out
          go_wp2_with (go_at_call 29; refine (HC.out _ ((Touch.refl [] _).alloc _)).mono ?_; rintro e w1 ⟨rfl, hg⟩)
          go_ret2
          exact ⟨by rw [HE.out]; rfl, (HG.out.alloc _).trans' hg⟩
      · have hz : ¬ (j : Int) < (L.length : Int) := by omega
        have HE : Hid (chkZ L = (0, 0)) := chk_end HS.out.2.2.2 (fun k hk => HB.out k hk (by omega))
        go_wp2
        go_ret2
        exact ⟨by rw [HE.out]; rfl, HG.out⟩
end Go.Proofs.YthakboiecdjgnaaDoor.Ci
