/- The document's form of a thing to do, and which may be; no conditions but those that each states. -/
import Derived.Test.YthakboiecdjgnaaDoorCkd
namespace Go.Proofs.YthakboiecdjgnaaDoor.Ci
open Go.RowKit Go.Maps Go.ChangeMaps
set_option linter.unusedVariables false
set_option linter.unusedSimpArgs false
theorem form_1 (w : World) : Calls Tryd.prog 47 #[.int .i64 1] w fun e w' => e = .returned (.agg #[.string ⟨#[99, 97, 108, 108]⟩, .bool true, .bool false, .bool false, .int .i64 0, .int .i64 0]) ∧ Touch [] w w' := by
  go_enter Tryd.func47, Tryd.ntmps47
  go_wp2
  exact bodyPost_ret (v := .agg #[.string ⟨#[99, 97, 108, 108]⟩, .bool true, .bool false, .bool false, .int .i64 0, .int .i64 0]) (by simp [results, Tryd.results47, go_sem]) rfl ⟨rfl, (Touch.refl _ _).alloc _⟩
theorem form_2 (w : World) : Calls Tryd.prog 47 #[.int .i64 2] w fun e w' => e = .returned (.agg #[.string ⟨#[115, 116, 97, 114, 116]⟩, .bool true, .bool true, .bool false, .int .i64 0, .int .i64 0]) ∧ Touch [] w w' := by
  go_enter Tryd.func47, Tryd.ntmps47
  go_wp2
  exact bodyPost_ret (v := .agg #[.string ⟨#[115, 116, 97, 114, 116]⟩, .bool true, .bool true, .bool false, .int .i64 0, .int .i64 0]) (by simp [results, Tryd.results47, go_sem]) rfl ⟨rfl, (Touch.refl _ _).alloc _⟩
theorem form_3 (w : World) : Calls Tryd.prog 47 #[.int .i64 3] w fun e w' => e = .returned (.agg #[.string ⟨#[97, 119, 97, 105, 116]⟩, .bool false, .bool true, .bool false, .int .i64 0, .int .i64 0]) ∧ Touch [] w w' := by
  go_enter Tryd.func47, Tryd.ntmps47
  go_wp2
  exact bodyPost_ret (v := .agg #[.string ⟨#[97, 119, 97, 105, 116]⟩, .bool false, .bool true, .bool false, .int .i64 0, .int .i64 0]) (by simp [results, Tryd.results47, go_sem]) rfl ⟨rfl, (Touch.refl _ _).alloc _⟩
theorem form_4 (w : World) : Calls Tryd.prog 47 #[.int .i64 4] w fun e w' => e = .returned (.agg #[.string ⟨#[102, 111, 114, 103, 101, 116]⟩, .bool true, .bool false, .bool false, .int .i64 0, .int .i64 0]) ∧ Touch [] w w' := by
  go_enter Tryd.func47, Tryd.ntmps47
  go_wp2
  exact bodyPost_ret (v := .agg #[.string ⟨#[102, 111, 114, 103, 101, 116]⟩, .bool true, .bool false, .bool false, .int .i64 0, .int .i64 0]) (by simp [results, Tryd.results47, go_sem]) rfl ⟨rfl, (Touch.refl _ _).alloc _⟩
theorem form_5 (w : World) : Calls Tryd.prog 47 #[.int .i64 5] w fun e w' => e = .returned (.agg #[.string ⟨#[99, 97, 110, 99, 101, 108]⟩, .bool false, .bool false, .bool true, .int .i64 1, .int .i64 1024]) ∧ Touch [] w w' := by
  go_enter Tryd.func47, Tryd.ntmps47
  go_wp2
  exact bodyPost_ret (v := .agg #[.string ⟨#[99, 97, 110, 99, 101, 108]⟩, .bool false, .bool false, .bool true, .int .i64 1, .int .i64 1024]) (by simp [results, Tryd.results47, go_sem]) rfl ⟨rfl, (Touch.refl _ _).alloc _⟩
theorem form_6 (w : World) : Calls Tryd.prog 47 #[.int .i64 6] w fun e w' => e = .returned (.agg #[.string ⟨#[111, 112, 101, 110]⟩, .bool false, .bool false, .bool true, .int .i64 0, .int .i64 255]) ∧ Touch [] w w' := by
  go_enter Tryd.func47, Tryd.ntmps47
  go_wp2
  exact bodyPost_ret (v := .agg #[.string ⟨#[111, 112, 101, 110]⟩, .bool false, .bool false, .bool true, .int .i64 0, .int .i64 255]) (by simp [results, Tryd.results47, go_sem]) rfl ⟨rfl, (Touch.refl _ _).alloc _⟩
theorem form_7 (w : World) : Calls Tryd.prog 47 #[.int .i64 7] w fun e w' => e = .returned (.agg #[.string ⟨#[115, 104, 117, 116]⟩, .bool false, .bool false, .bool true, .int .i64 0, .int .i64 255]) ∧ Touch [] w w' := by
  go_enter Tryd.func47, Tryd.ntmps47
  go_wp2
  exact bodyPost_ret (v := .agg #[.string ⟨#[115, 104, 117, 116]⟩, .bool false, .bool false, .bool true, .int .i64 0, .int .i64 255]) (by simp [results, Tryd.results47, go_sem]) rfl ⟨rfl, (Touch.refl _ _).alloc _⟩
theorem form_8 (w : World) : Calls Tryd.prog 47 #[.int .i64 8] w fun e w' => e = .returned (.agg #[.string ⟨#[115, 108, 101, 101, 112]⟩, .bool false, .bool false, .bool true, .int .i64 0, .int .i64 4611686018427387904]) ∧ Touch [] w w' := by
  go_enter Tryd.func47, Tryd.ntmps47
  go_wp2
  exact bodyPost_ret (v := .agg #[.string ⟨#[115, 108, 101, 101, 112]⟩, .bool false, .bool false, .bool true, .int .i64 0, .int .i64 4611686018427387904]) (by simp [results, Tryd.results47, go_sem]) rfl ⟨rfl, (Touch.refl _ _).alloc _⟩
theorem form_9 (w : World) : Calls Tryd.prog 47 #[.int .i64 9] w fun e w' => e = .returned (.agg #[.string ⟨#[116, 111, 107, 101, 110]⟩, .bool false, .bool false, .bool true, .int .i64 0, .int .i64 1024]) ∧ Touch [] w w' := by
  go_enter Tryd.func47, Tryd.ntmps47
  go_wp2
  exact bodyPost_ret (v := .agg #[.string ⟨#[116, 111, 107, 101, 110]⟩, .bool false, .bool false, .bool true, .int .i64 0, .int .i64 1024]) (by simp [results, Tryd.results47, go_sem]) rfl ⟨rfl, (Touch.refl _ _).alloc _⟩
theorem form_no (op : Int) (h : ¬ (1 ≤ op ∧ op ≤ 9)) (w : World) : Calls Tryd.prog 47 #[.int .i64 op] w fun e w' => e = .returned (.agg #[.string ⟨#[]⟩, .bool false, .bool false, .bool false, .int .i64 0, .int .i64 0]) ∧ Touch [] w w' := by
  have k1 : (op == 1) = false := by simp; omega
  have k2 : (op == 2) = false := by simp; omega
  have k3 : (op == 3) = false := by simp; omega
  have k4 : (op == 4) = false := by simp; omega
  have k5 : (op == 5) = false := by simp; omega
  have k6 : (op == 6) = false := by simp; omega
  have k7 : (op == 7) = false := by simp; omega
  have k8 : (op == 8) = false := by simp; omega
  have k9 : (op == 9) = false := by simp; omega
  clear h
  go_enter Tryd.func47, Tryd.ntmps47
  go_wp2
  exact bodyPost_ret (v := .agg #[.string ⟨#[]⟩, .bool false, .bool false, .bool false, .int .i64 0, .int .i64 0]) (by simp [results, Tryd.results47, go_sem]) rfl ⟨rfl, (Touch.refl _ _).alloc _⟩
theorem nm_empty {nm : ByteArray} : nm.toList = [] ↔ nm.size = 0 := by
  constructor
  · intro h
    have := ByteArray.toList_eq nm
    rw [h] at this
    have h2 : nm.data.toList.length = 0 := by rw [← this]; rfl
    simpa using h2
  · intro h
    rw [ByteArray.toList_eq]
    have : nm.data.toList.length = 0 := by simpa using h
    exact List.length_eq_zero_iff.1 this
set_option maxHeartbeats 2000000 in
theorem rmay_a (d : Dz) (wd : ByteArray) (lo hi : Int) (w : World) (hw1 : (wd.toList == []) = false) (hw2 : wd.toList.isEmpty = false) (HF : Hid (∀ w, Calls Tryd.prog 47 #[.int .i64 d.op] w fun e w' => e = .returned (.agg #[.string wd, .bool true, .bool false, .bool false, .int .i64 lo, .int .i64 hi]) ∧ Touch [] w w')) (HR : Hid (mayZ d = (keyB true d.sp d.nm && (decide (0 ≤ d.n ∧ d.n ≤ 0) && decide (0 ≤ d.sl ∧ d.sl ≤ 0))))) (hs : d.nm.size ≤ maxLen) : Calls Tryd.prog 30 #[.agg #[.int .i64 d.op, .int .u16 d.sp, .string d.nm, .int .i64 d.n, .int .i64 d.sl]] w fun e w' => e = .returned (.bool (mayZ d)) ∧ Touch [] w w' := by
  generalize mayZ d = R at *
  obtain ⟨dop, sp, nm, n, sl⟩ := d
  dsimp only at *
  have hsz : (nm.size : Int) ≤ 9223372036854775807 := by unfold maxLen at hs; omega
  clear hs
  by_cases hk : nm.size ≤ 64
  · have zk : (nm.size : Int) ≤ 64 := by omega
    have HK : Hid (keyB true sp nm = true) := hid (by unfold keyB; simp [hk])
    by_cases hl : 0 ≤ sl ∧ sl ≤ 0
    · obtain ⟨l1, l2⟩ := hl
      have l3 : (sl != 0) = false := by simp; omega
      have HL : Hid (decide (0 ≤ sl ∧ sl ≤ 0) = true) := hid (decide_eq_true ⟨l1, l2⟩)
      clear l1 l2
      by_cases hn : 0 ≤ n ∧ n ≤ 0
      · obtain ⟨m1, m2⟩ := hn
        have HR2 : Hid (R = true) := hid (by rw [HR.out, HK.out, HL.out, decide_eq_true ⟨m1, m2⟩]; rfl)
        have m3 : (n == 0) = true := by simp; omega
        clear m1 m2
        clear HR HK HL
        go_enter Tryd.func30, Tryd.ntmps30
        go_wp2_with fail
        refine (HF.out _).mono ?_
        rintro e w1 ⟨rfl, t1⟩
        have T1 := hid (((Touch.refl [] w).alloc (.cells #[.int .i64 dop, .int .u16 sp, .string nm, .int .i64 n, .int .i64 sl] 85)).trans' t1)
        have q0 : w1.cell? ⟨w.heap.size, 0, none⟩ = some (.int .i64 dop) := tcell t1 (by simp)
        have q1 : w1.cell? ⟨w.heap.size, 1, none⟩ = some (.int .u16 sp) := tcell t1 (by simp)
        have q2 : w1.cell? ⟨w.heap.size, 2, none⟩ = some (.string nm) := tcell t1 (by simp)
        have q3 : w1.cell? ⟨w.heap.size, 3, none⟩ = some (.int .i64 n) := tcell t1 (by simp)
        have q4 : w1.cell? ⟨w.heap.size, 4, none⟩ = some (.int .i64 sl) := tcell t1 (by simp)
        have hw : w.heap.size < w1.heap.size := Nat.lt_of_lt_of_le (by simp) t1.size
        clear t1
        go_wp2_with fail
        all_goals (go_ret; exact ⟨by rw [HR2.out]; rfl, T1.out.alloc _⟩)
      · have HR2 : Hid (R = false) := hid (by rw [HR.out, HK.out, HL.out, decide_eq_false hn]; rfl)
        clear HR HK HL
        have m3 : (n == 0) = false := by simp; omega
        clear hn
        go_enter Tryd.func30, Tryd.ntmps30
        go_wp2_with fail
        refine (HF.out _).mono ?_
        rintro e w1 ⟨rfl, t1⟩
        have T1 := hid (((Touch.refl [] w).alloc (.cells #[.int .i64 dop, .int .u16 sp, .string nm, .int .i64 n, .int .i64 sl] 85)).trans' t1)
        have q0 : w1.cell? ⟨w.heap.size, 0, none⟩ = some (.int .i64 dop) := tcell t1 (by simp)
        have q1 : w1.cell? ⟨w.heap.size, 1, none⟩ = some (.int .u16 sp) := tcell t1 (by simp)
        have q2 : w1.cell? ⟨w.heap.size, 2, none⟩ = some (.string nm) := tcell t1 (by simp)
        have q3 : w1.cell? ⟨w.heap.size, 3, none⟩ = some (.int .i64 n) := tcell t1 (by simp)
        have q4 : w1.cell? ⟨w.heap.size, 4, none⟩ = some (.int .i64 sl) := tcell t1 (by simp)
        have hw : w.heap.size < w1.heap.size := Nat.lt_of_lt_of_le (by simp) t1.size
        clear t1
        go_wp2_with fail
        all_goals (go_ret; exact ⟨by rw [HR2.out]; rfl, T1.out.alloc _⟩)
    · have HR2 : Hid (R = false) := hid (by rw [HR.out, decide_eq_false hl]; simp)
      clear HR HK
      have l3 : (sl != 0) = true := by simp; omega
      clear hl
      go_enter Tryd.func30, Tryd.ntmps30
      go_wp2_with fail
      refine (HF.out _).mono ?_
      rintro e w1 ⟨rfl, t1⟩
      have T1 := hid (((Touch.refl [] w).alloc (.cells #[.int .i64 dop, .int .u16 sp, .string nm, .int .i64 n, .int .i64 sl] 85)).trans' t1)
      have q0 : w1.cell? ⟨w.heap.size, 0, none⟩ = some (.int .i64 dop) := tcell t1 (by simp)
      have q1 : w1.cell? ⟨w.heap.size, 1, none⟩ = some (.int .u16 sp) := tcell t1 (by simp)
      have q2 : w1.cell? ⟨w.heap.size, 2, none⟩ = some (.string nm) := tcell t1 (by simp)
      have q3 : w1.cell? ⟨w.heap.size, 3, none⟩ = some (.int .i64 n) := tcell t1 (by simp)
      have q4 : w1.cell? ⟨w.heap.size, 4, none⟩ = some (.int .i64 sl) := tcell t1 (by simp)
      have hw : w.heap.size < w1.heap.size := Nat.lt_of_lt_of_le (by simp) t1.size
      clear t1
      go_wp2_with fail
      all_goals (go_ret; exact ⟨by rw [HR2.out]; rfl, T1.out.alloc _⟩)
  · have zk : (64 : Int) < (nm.size : Int) := by omega
    have HR2 : Hid (R = false) := hid (by rw [HR.out]; unfold keyB; simp [hk])
    clear HR hk
    go_enter Tryd.func30, Tryd.ntmps30
    go_wp2_with fail
    refine (HF.out _).mono ?_
    rintro e w1 ⟨rfl, t1⟩
    have T1 := hid (((Touch.refl [] w).alloc (.cells #[.int .i64 dop, .int .u16 sp, .string nm, .int .i64 n, .int .i64 sl] 85)).trans' t1)
    have q0 : w1.cell? ⟨w.heap.size, 0, none⟩ = some (.int .i64 dop) := tcell t1 (by simp)
    have q1 : w1.cell? ⟨w.heap.size, 1, none⟩ = some (.int .u16 sp) := tcell t1 (by simp)
    have q2 : w1.cell? ⟨w.heap.size, 2, none⟩ = some (.string nm) := tcell t1 (by simp)
    have q3 : w1.cell? ⟨w.heap.size, 3, none⟩ = some (.int .i64 n) := tcell t1 (by simp)
    have q4 : w1.cell? ⟨w.heap.size, 4, none⟩ = some (.int .i64 sl) := tcell t1 (by simp)
    have hw : w.heap.size < w1.heap.size := Nat.lt_of_lt_of_le (by simp) t1.size
    clear t1
    go_wp2_with fail
    all_goals (go_ret; exact ⟨by rw [HR2.out]; rfl, T1.out.alloc _⟩)
set_option maxHeartbeats 2000000 in
theorem rmay_b (d : Dz) (wd : ByteArray) (lo hi : Int) (w : World) (hw1 : (wd.toList == []) = false) (hw2 : wd.toList.isEmpty = false) (HF : Hid (∀ w, Calls Tryd.prog 47 #[.int .i64 d.op] w fun e w' => e = .returned (.agg #[.string wd, .bool true, .bool true, .bool false, .int .i64 lo, .int .i64 hi]) ∧ Touch [] w w')) (HR : Hid (mayZ d = (keyB true d.sp d.nm && (decide (0 ≤ d.n ∧ d.n ≤ 0) && decide (0 ≤ d.sl ∧ d.sl ≤ 15))))) (hs : d.nm.size ≤ maxLen) : Calls Tryd.prog 30 #[.agg #[.int .i64 d.op, .int .u16 d.sp, .string d.nm, .int .i64 d.n, .int .i64 d.sl]] w fun e w' => e = .returned (.bool (mayZ d)) ∧ Touch [] w w' := by
  generalize mayZ d = R at *
  obtain ⟨dop, sp, nm, n, sl⟩ := d
  dsimp only at *
  have hsz : (nm.size : Int) ≤ 9223372036854775807 := by unfold maxLen at hs; omega
  clear hs
  by_cases hk : nm.size ≤ 64
  · have zk : (nm.size : Int) ≤ 64 := by omega
    have HK : Hid (keyB true sp nm = true) := hid (by unfold keyB; simp [hk])
    by_cases hl : 0 ≤ sl ∧ sl ≤ 15
    · obtain ⟨l1, l2⟩ := hl
      have l3 : ¬ sl < 0 := by omega
      have l4 : ¬ 16 ≤ sl := by omega
      have HL : Hid (decide (0 ≤ sl ∧ sl ≤ 15) = true) := hid (decide_eq_true ⟨l1, l2⟩)
      clear l1 l2
      by_cases hn : 0 ≤ n ∧ n ≤ 0
      · obtain ⟨m1, m2⟩ := hn
        have HR2 : Hid (R = true) := hid (by rw [HR.out, HK.out, HL.out, decide_eq_true ⟨m1, m2⟩]; rfl)
        have m3 : (n == 0) = true := by simp; omega
        clear m1 m2
        clear HR HK HL
        go_enter Tryd.func30, Tryd.ntmps30
        go_wp2_with fail
        refine (HF.out _).mono ?_
        rintro e w1 ⟨rfl, t1⟩
        have T1 := hid (((Touch.refl [] w).alloc (.cells #[.int .i64 dop, .int .u16 sp, .string nm, .int .i64 n, .int .i64 sl] 85)).trans' t1)
        have q0 : w1.cell? ⟨w.heap.size, 0, none⟩ = some (.int .i64 dop) := tcell t1 (by simp)
        have q1 : w1.cell? ⟨w.heap.size, 1, none⟩ = some (.int .u16 sp) := tcell t1 (by simp)
        have q2 : w1.cell? ⟨w.heap.size, 2, none⟩ = some (.string nm) := tcell t1 (by simp)
        have q3 : w1.cell? ⟨w.heap.size, 3, none⟩ = some (.int .i64 n) := tcell t1 (by simp)
        have q4 : w1.cell? ⟨w.heap.size, 4, none⟩ = some (.int .i64 sl) := tcell t1 (by simp)
        have hw : w.heap.size < w1.heap.size := Nat.lt_of_lt_of_le (by simp) t1.size
        clear t1
        go_wp2_with fail
        all_goals (go_ret; exact ⟨by rw [HR2.out]; rfl, T1.out.alloc _⟩)
      · have HR2 : Hid (R = false) := hid (by rw [HR.out, HK.out, HL.out, decide_eq_false hn]; rfl)
        clear HR HK HL
        have m3 : (n == 0) = false := by simp; omega
        clear hn
        go_enter Tryd.func30, Tryd.ntmps30
        go_wp2_with fail
        refine (HF.out _).mono ?_
        rintro e w1 ⟨rfl, t1⟩
        have T1 := hid (((Touch.refl [] w).alloc (.cells #[.int .i64 dop, .int .u16 sp, .string nm, .int .i64 n, .int .i64 sl] 85)).trans' t1)
        have q0 : w1.cell? ⟨w.heap.size, 0, none⟩ = some (.int .i64 dop) := tcell t1 (by simp)
        have q1 : w1.cell? ⟨w.heap.size, 1, none⟩ = some (.int .u16 sp) := tcell t1 (by simp)
        have q2 : w1.cell? ⟨w.heap.size, 2, none⟩ = some (.string nm) := tcell t1 (by simp)
        have q3 : w1.cell? ⟨w.heap.size, 3, none⟩ = some (.int .i64 n) := tcell t1 (by simp)
        have q4 : w1.cell? ⟨w.heap.size, 4, none⟩ = some (.int .i64 sl) := tcell t1 (by simp)
        have hw : w.heap.size < w1.heap.size := Nat.lt_of_lt_of_le (by simp) t1.size
        clear t1
        go_wp2_with fail
        all_goals (go_ret; exact ⟨by rw [HR2.out]; rfl, T1.out.alloc _⟩)
    · have HR2 : Hid (R = false) := hid (by rw [HR.out, decide_eq_false hl]; simp)
      clear HR HK
      rcases (by omega : sl < 0 ∨ (¬ sl < 0 ∧ 16 ≤ sl)) with l1 | ⟨l1, l2⟩
      · clear hl
        go_enter Tryd.func30, Tryd.ntmps30
        go_wp2_with fail
        refine (HF.out _).mono ?_
        rintro e w1 ⟨rfl, t1⟩
        have T1 := hid (((Touch.refl [] w).alloc (.cells #[.int .i64 dop, .int .u16 sp, .string nm, .int .i64 n, .int .i64 sl] 85)).trans' t1)
        have q0 : w1.cell? ⟨w.heap.size, 0, none⟩ = some (.int .i64 dop) := tcell t1 (by simp)
        have q1 : w1.cell? ⟨w.heap.size, 1, none⟩ = some (.int .u16 sp) := tcell t1 (by simp)
        have q2 : w1.cell? ⟨w.heap.size, 2, none⟩ = some (.string nm) := tcell t1 (by simp)
        have q3 : w1.cell? ⟨w.heap.size, 3, none⟩ = some (.int .i64 n) := tcell t1 (by simp)
        have q4 : w1.cell? ⟨w.heap.size, 4, none⟩ = some (.int .i64 sl) := tcell t1 (by simp)
        have hw : w.heap.size < w1.heap.size := Nat.lt_of_lt_of_le (by simp) t1.size
        clear t1
        go_wp2_with fail
        all_goals (go_ret; exact ⟨by rw [HR2.out]; rfl, T1.out.alloc _⟩)
      · clear hl
        go_enter Tryd.func30, Tryd.ntmps30
        go_wp2_with fail
        refine (HF.out _).mono ?_
        rintro e w1 ⟨rfl, t1⟩
        have T1 := hid (((Touch.refl [] w).alloc (.cells #[.int .i64 dop, .int .u16 sp, .string nm, .int .i64 n, .int .i64 sl] 85)).trans' t1)
        have q0 : w1.cell? ⟨w.heap.size, 0, none⟩ = some (.int .i64 dop) := tcell t1 (by simp)
        have q1 : w1.cell? ⟨w.heap.size, 1, none⟩ = some (.int .u16 sp) := tcell t1 (by simp)
        have q2 : w1.cell? ⟨w.heap.size, 2, none⟩ = some (.string nm) := tcell t1 (by simp)
        have q3 : w1.cell? ⟨w.heap.size, 3, none⟩ = some (.int .i64 n) := tcell t1 (by simp)
        have q4 : w1.cell? ⟨w.heap.size, 4, none⟩ = some (.int .i64 sl) := tcell t1 (by simp)
        have hw : w.heap.size < w1.heap.size := Nat.lt_of_lt_of_le (by simp) t1.size
        clear t1
        go_wp2_with fail
        all_goals (go_ret; exact ⟨by rw [HR2.out]; rfl, T1.out.alloc _⟩)
  · have zk : (64 : Int) < (nm.size : Int) := by omega
    have HR2 : Hid (R = false) := hid (by rw [HR.out]; unfold keyB; simp [hk])
    clear HR hk
    go_enter Tryd.func30, Tryd.ntmps30
    go_wp2_with fail
    refine (HF.out _).mono ?_
    rintro e w1 ⟨rfl, t1⟩
    have T1 := hid (((Touch.refl [] w).alloc (.cells #[.int .i64 dop, .int .u16 sp, .string nm, .int .i64 n, .int .i64 sl] 85)).trans' t1)
    have q0 : w1.cell? ⟨w.heap.size, 0, none⟩ = some (.int .i64 dop) := tcell t1 (by simp)
    have q1 : w1.cell? ⟨w.heap.size, 1, none⟩ = some (.int .u16 sp) := tcell t1 (by simp)
    have q2 : w1.cell? ⟨w.heap.size, 2, none⟩ = some (.string nm) := tcell t1 (by simp)
    have q3 : w1.cell? ⟨w.heap.size, 3, none⟩ = some (.int .i64 n) := tcell t1 (by simp)
    have q4 : w1.cell? ⟨w.heap.size, 4, none⟩ = some (.int .i64 sl) := tcell t1 (by simp)
    have hw : w.heap.size < w1.heap.size := Nat.lt_of_lt_of_le (by simp) t1.size
    clear t1
    go_wp2_with fail
    all_goals (go_ret; exact ⟨by rw [HR2.out]; rfl, T1.out.alloc _⟩)
set_option maxHeartbeats 2000000 in
theorem rmay_c (d : Dz) (wd : ByteArray) (lo hi : Int) (w : World) (hw1 : (wd.toList == []) = false) (hw2 : wd.toList.isEmpty = false) (HF : Hid (∀ w, Calls Tryd.prog 47 #[.int .i64 d.op] w fun e w' => e = .returned (.agg #[.string wd, .bool false, .bool true, .bool false, .int .i64 lo, .int .i64 hi]) ∧ Touch [] w w')) (HR : Hid (mayZ d = (keyB false d.sp d.nm && (decide (0 ≤ d.n ∧ d.n ≤ 0) && decide (0 ≤ d.sl ∧ d.sl ≤ 15))))) (hs : d.nm.size ≤ maxLen) : Calls Tryd.prog 30 #[.agg #[.int .i64 d.op, .int .u16 d.sp, .string d.nm, .int .i64 d.n, .int .i64 d.sl]] w fun e w' => e = .returned (.bool (mayZ d)) ∧ Touch [] w w' := by
  generalize mayZ d = R at *
  obtain ⟨dop, sp, nm, n, sl⟩ := d
  dsimp only at *
  have hsz : (nm.size : Int) ≤ 9223372036854775807 := by unfold maxLen at hs; omega
  clear hs
  by_cases hk : sp = 0 ∧ nm.toList = []
  · obtain ⟨z1, z2⟩ := hk
    have HK : Hid (keyB false sp nm = true) := hid (by unfold keyB; simp [z1, z2])
    have z3 : (nm.toList == []) = true := by simp [z2]
    have z4 : (sp == 0) = true := by simp [z1]
    have z5 : nm.toList.isEmpty = true := by rw [z2]; rfl
    clear z1 z2
    by_cases hl : 0 ≤ sl ∧ sl ≤ 15
    · obtain ⟨l1, l2⟩ := hl
      have l3 : ¬ sl < 0 := by omega
      have l4 : ¬ 16 ≤ sl := by omega
      have HL : Hid (decide (0 ≤ sl ∧ sl ≤ 15) = true) := hid (decide_eq_true ⟨l1, l2⟩)
      clear l1 l2
      by_cases hn : 0 ≤ n ∧ n ≤ 0
      · obtain ⟨m1, m2⟩ := hn
        have HR2 : Hid (R = true) := hid (by rw [HR.out, HK.out, HL.out, decide_eq_true ⟨m1, m2⟩]; rfl)
        have m3 : (n == 0) = true := by simp; omega
        clear m1 m2
        clear HR HK HL
        go_enter Tryd.func30, Tryd.ntmps30
        go_wp2_with fail
        refine (HF.out _).mono ?_
        rintro e w1 ⟨rfl, t1⟩
        have T1 := hid (((Touch.refl [] w).alloc (.cells #[.int .i64 dop, .int .u16 sp, .string nm, .int .i64 n, .int .i64 sl] 85)).trans' t1)
        have q0 : w1.cell? ⟨w.heap.size, 0, none⟩ = some (.int .i64 dop) := tcell t1 (by simp)
        have q1 : w1.cell? ⟨w.heap.size, 1, none⟩ = some (.int .u16 sp) := tcell t1 (by simp)
        have q2 : w1.cell? ⟨w.heap.size, 2, none⟩ = some (.string nm) := tcell t1 (by simp)
        have q3 : w1.cell? ⟨w.heap.size, 3, none⟩ = some (.int .i64 n) := tcell t1 (by simp)
        have q4 : w1.cell? ⟨w.heap.size, 4, none⟩ = some (.int .i64 sl) := tcell t1 (by simp)
        have hw : w.heap.size < w1.heap.size := Nat.lt_of_lt_of_le (by simp) t1.size
        clear t1
        go_wp2_with fail
        all_goals (go_ret; exact ⟨by rw [HR2.out]; rfl, T1.out.alloc _⟩)
      · have HR2 : Hid (R = false) := hid (by rw [HR.out, HK.out, HL.out, decide_eq_false hn]; rfl)
        clear HR HK HL
        have m3 : (n == 0) = false := by simp; omega
        clear hn
        go_enter Tryd.func30, Tryd.ntmps30
        go_wp2_with fail
        refine (HF.out _).mono ?_
        rintro e w1 ⟨rfl, t1⟩
        have T1 := hid (((Touch.refl [] w).alloc (.cells #[.int .i64 dop, .int .u16 sp, .string nm, .int .i64 n, .int .i64 sl] 85)).trans' t1)
        have q0 : w1.cell? ⟨w.heap.size, 0, none⟩ = some (.int .i64 dop) := tcell t1 (by simp)
        have q1 : w1.cell? ⟨w.heap.size, 1, none⟩ = some (.int .u16 sp) := tcell t1 (by simp)
        have q2 : w1.cell? ⟨w.heap.size, 2, none⟩ = some (.string nm) := tcell t1 (by simp)
        have q3 : w1.cell? ⟨w.heap.size, 3, none⟩ = some (.int .i64 n) := tcell t1 (by simp)
        have q4 : w1.cell? ⟨w.heap.size, 4, none⟩ = some (.int .i64 sl) := tcell t1 (by simp)
        have hw : w.heap.size < w1.heap.size := Nat.lt_of_lt_of_le (by simp) t1.size
        clear t1
        go_wp2_with fail
        all_goals (go_ret; exact ⟨by rw [HR2.out]; rfl, T1.out.alloc _⟩)
    · have HR2 : Hid (R = false) := hid (by rw [HR.out, decide_eq_false hl]; simp)
      clear HR HK
      rcases (by omega : sl < 0 ∨ (¬ sl < 0 ∧ 16 ≤ sl)) with l1 | ⟨l1, l2⟩
      · clear hl
        go_enter Tryd.func30, Tryd.ntmps30
        go_wp2_with fail
        refine (HF.out _).mono ?_
        rintro e w1 ⟨rfl, t1⟩
        have T1 := hid (((Touch.refl [] w).alloc (.cells #[.int .i64 dop, .int .u16 sp, .string nm, .int .i64 n, .int .i64 sl] 85)).trans' t1)
        have q0 : w1.cell? ⟨w.heap.size, 0, none⟩ = some (.int .i64 dop) := tcell t1 (by simp)
        have q1 : w1.cell? ⟨w.heap.size, 1, none⟩ = some (.int .u16 sp) := tcell t1 (by simp)
        have q2 : w1.cell? ⟨w.heap.size, 2, none⟩ = some (.string nm) := tcell t1 (by simp)
        have q3 : w1.cell? ⟨w.heap.size, 3, none⟩ = some (.int .i64 n) := tcell t1 (by simp)
        have q4 : w1.cell? ⟨w.heap.size, 4, none⟩ = some (.int .i64 sl) := tcell t1 (by simp)
        have hw : w.heap.size < w1.heap.size := Nat.lt_of_lt_of_le (by simp) t1.size
        clear t1
        go_wp2_with fail
        all_goals (go_ret; exact ⟨by rw [HR2.out]; rfl, T1.out.alloc _⟩)
      · clear hl
        go_enter Tryd.func30, Tryd.ntmps30
        go_wp2_with fail
        refine (HF.out _).mono ?_
        rintro e w1 ⟨rfl, t1⟩
        have T1 := hid (((Touch.refl [] w).alloc (.cells #[.int .i64 dop, .int .u16 sp, .string nm, .int .i64 n, .int .i64 sl] 85)).trans' t1)
        have q0 : w1.cell? ⟨w.heap.size, 0, none⟩ = some (.int .i64 dop) := tcell t1 (by simp)
        have q1 : w1.cell? ⟨w.heap.size, 1, none⟩ = some (.int .u16 sp) := tcell t1 (by simp)
        have q2 : w1.cell? ⟨w.heap.size, 2, none⟩ = some (.string nm) := tcell t1 (by simp)
        have q3 : w1.cell? ⟨w.heap.size, 3, none⟩ = some (.int .i64 n) := tcell t1 (by simp)
        have q4 : w1.cell? ⟨w.heap.size, 4, none⟩ = some (.int .i64 sl) := tcell t1 (by simp)
        have hw : w.heap.size < w1.heap.size := Nat.lt_of_lt_of_le (by simp) t1.size
        clear t1
        go_wp2_with fail
        all_goals (go_ret; exact ⟨by rw [HR2.out]; rfl, T1.out.alloc _⟩)
  · have HR2 : Hid (R = false) := hid (by rw [HR.out]; unfold keyB; simp at hk ⊢; intro a b; exact absurd b (hk a))
    clear HR
    by_cases z1 : sp = 0
    · have z2 : ¬ nm.toList = [] := fun e => hk ⟨z1, e⟩
      have z3 : (nm.toList == []) = false := by simp [z2]
      have z4 : (sp == 0) = true := by simp [z1]
      have z5 : nm.toList.isEmpty = false := by simp [z2]
      clear hk z1 z2
      go_enter Tryd.func30, Tryd.ntmps30
      go_wp2_with fail
      refine (HF.out _).mono ?_
      rintro e w1 ⟨rfl, t1⟩
      have T1 := hid (((Touch.refl [] w).alloc (.cells #[.int .i64 dop, .int .u16 sp, .string nm, .int .i64 n, .int .i64 sl] 85)).trans' t1)
      have q0 : w1.cell? ⟨w.heap.size, 0, none⟩ = some (.int .i64 dop) := tcell t1 (by simp)
      have q1 : w1.cell? ⟨w.heap.size, 1, none⟩ = some (.int .u16 sp) := tcell t1 (by simp)
      have q2 : w1.cell? ⟨w.heap.size, 2, none⟩ = some (.string nm) := tcell t1 (by simp)
      have q3 : w1.cell? ⟨w.heap.size, 3, none⟩ = some (.int .i64 n) := tcell t1 (by simp)
      have q4 : w1.cell? ⟨w.heap.size, 4, none⟩ = some (.int .i64 sl) := tcell t1 (by simp)
      have hw : w.heap.size < w1.heap.size := Nat.lt_of_lt_of_le (by simp) t1.size
      clear t1
      go_wp2_with fail
      all_goals (go_ret; exact ⟨by rw [HR2.out]; rfl, T1.out.alloc _⟩)
    · have z4 : (sp == 0) = false := by simp [z1]
      clear hk z1
      go_enter Tryd.func30, Tryd.ntmps30
      go_wp2_with fail
      refine (HF.out _).mono ?_
      rintro e w1 ⟨rfl, t1⟩
      have T1 := hid (((Touch.refl [] w).alloc (.cells #[.int .i64 dop, .int .u16 sp, .string nm, .int .i64 n, .int .i64 sl] 85)).trans' t1)
      have q0 : w1.cell? ⟨w.heap.size, 0, none⟩ = some (.int .i64 dop) := tcell t1 (by simp)
      have q1 : w1.cell? ⟨w.heap.size, 1, none⟩ = some (.int .u16 sp) := tcell t1 (by simp)
      have q2 : w1.cell? ⟨w.heap.size, 2, none⟩ = some (.string nm) := tcell t1 (by simp)
      have q3 : w1.cell? ⟨w.heap.size, 3, none⟩ = some (.int .i64 n) := tcell t1 (by simp)
      have q4 : w1.cell? ⟨w.heap.size, 4, none⟩ = some (.int .i64 sl) := tcell t1 (by simp)
      have hw : w.heap.size < w1.heap.size := Nat.lt_of_lt_of_le (by simp) t1.size
      clear t1
      go_wp2_with fail
      all_goals (go_ret; exact ⟨by rw [HR2.out]; rfl, T1.out.alloc _⟩)
set_option maxHeartbeats 2000000 in
theorem rmay_e (d : Dz) (wd : ByteArray) (lo hi : Int) (w : World) (hw1 : (wd.toList == []) = false) (hw2 : wd.toList.isEmpty = false) (HF : Hid (∀ w, Calls Tryd.prog 47 #[.int .i64 d.op] w fun e w' => e = .returned (.agg #[.string wd, .bool false, .bool false, .bool true, .int .i64 lo, .int .i64 hi]) ∧ Touch [] w w')) (HR : Hid (mayZ d = (keyB false d.sp d.nm && (decide (lo ≤ d.n ∧ d.n ≤ hi) && decide (0 ≤ d.sl ∧ d.sl ≤ 0))))) (hs : d.nm.size ≤ maxLen) : Calls Tryd.prog 30 #[.agg #[.int .i64 d.op, .int .u16 d.sp, .string d.nm, .int .i64 d.n, .int .i64 d.sl]] w fun e w' => e = .returned (.bool (mayZ d)) ∧ Touch [] w w' := by
  generalize mayZ d = R at *
  obtain ⟨dop, sp, nm, n, sl⟩ := d
  dsimp only at *
  have hsz : (nm.size : Int) ≤ 9223372036854775807 := by unfold maxLen at hs; omega
  clear hs
  by_cases hk : sp = 0 ∧ nm.toList = []
  · obtain ⟨z1, z2⟩ := hk
    have HK : Hid (keyB false sp nm = true) := hid (by unfold keyB; simp [z1, z2])
    have z3 : (nm.toList == []) = true := by simp [z2]
    have z4 : (sp == 0) = true := by simp [z1]
    have z5 : nm.toList.isEmpty = true := by rw [z2]; rfl
    clear z1 z2
    by_cases hl : 0 ≤ sl ∧ sl ≤ 0
    · obtain ⟨l1, l2⟩ := hl
      have l3 : (sl != 0) = false := by simp; omega
      have HL : Hid (decide (0 ≤ sl ∧ sl ≤ 0) = true) := hid (decide_eq_true ⟨l1, l2⟩)
      clear l1 l2
      by_cases hn : lo ≤ n ∧ n ≤ hi
      · obtain ⟨m1, m2⟩ := hn
        have HR2 : Hid (R = true) := hid (by rw [HR.out, HK.out, HL.out, decide_eq_true ⟨m1, m2⟩]; rfl)
        clear HR HK HL
        go_enter Tryd.func30, Tryd.ntmps30
        go_wp2_with fail
        refine (HF.out _).mono ?_
        rintro e w1 ⟨rfl, t1⟩
        have T1 := hid (((Touch.refl [] w).alloc (.cells #[.int .i64 dop, .int .u16 sp, .string nm, .int .i64 n, .int .i64 sl] 85)).trans' t1)
        have q0 : w1.cell? ⟨w.heap.size, 0, none⟩ = some (.int .i64 dop) := tcell t1 (by simp)
        have q1 : w1.cell? ⟨w.heap.size, 1, none⟩ = some (.int .u16 sp) := tcell t1 (by simp)
        have q2 : w1.cell? ⟨w.heap.size, 2, none⟩ = some (.string nm) := tcell t1 (by simp)
        have q3 : w1.cell? ⟨w.heap.size, 3, none⟩ = some (.int .i64 n) := tcell t1 (by simp)
        have q4 : w1.cell? ⟨w.heap.size, 4, none⟩ = some (.int .i64 sl) := tcell t1 (by simp)
        have hw : w.heap.size < w1.heap.size := Nat.lt_of_lt_of_le (by simp) t1.size
        clear t1
        go_wp2_with fail
        all_goals (go_ret; exact ⟨by rw [HR2.out]; first | rfl | (show Ending.returned (.bool _) = _; rw [decide_eq_true m2]), T1.out.alloc _⟩)
      · have HR2 : Hid (R = false) := hid (by rw [HR.out, HK.out, HL.out, decide_eq_false hn]; rfl)
        clear HR HK HL
        rcases (by omega : ¬ lo ≤ n ∨ (lo ≤ n ∧ ¬ n ≤ hi)) with m1 | ⟨m1, m2⟩
        · clear hn
          go_enter Tryd.func30, Tryd.ntmps30
          go_wp2_with fail
          refine (HF.out _).mono ?_
          rintro e w1 ⟨rfl, t1⟩
          have T1 := hid (((Touch.refl [] w).alloc (.cells #[.int .i64 dop, .int .u16 sp, .string nm, .int .i64 n, .int .i64 sl] 85)).trans' t1)
          have q0 : w1.cell? ⟨w.heap.size, 0, none⟩ = some (.int .i64 dop) := tcell t1 (by simp)
          have q1 : w1.cell? ⟨w.heap.size, 1, none⟩ = some (.int .u16 sp) := tcell t1 (by simp)
          have q2 : w1.cell? ⟨w.heap.size, 2, none⟩ = some (.string nm) := tcell t1 (by simp)
          have q3 : w1.cell? ⟨w.heap.size, 3, none⟩ = some (.int .i64 n) := tcell t1 (by simp)
          have q4 : w1.cell? ⟨w.heap.size, 4, none⟩ = some (.int .i64 sl) := tcell t1 (by simp)
          have hw : w.heap.size < w1.heap.size := Nat.lt_of_lt_of_le (by simp) t1.size
          clear t1
          go_wp2_with fail
          all_goals (go_ret; exact ⟨by rw [HR2.out]; rfl, T1.out.alloc _⟩)
        · clear hn
          have HM2 := hid m2
          go_enter Tryd.func30, Tryd.ntmps30
          go_wp2_with fail
          refine (HF.out _).mono ?_
          rintro e w1 ⟨rfl, t1⟩
          have T1 := hid (((Touch.refl [] w).alloc (.cells #[.int .i64 dop, .int .u16 sp, .string nm, .int .i64 n, .int .i64 sl] 85)).trans' t1)
          have q0 : w1.cell? ⟨w.heap.size, 0, none⟩ = some (.int .i64 dop) := tcell t1 (by simp)
          have q1 : w1.cell? ⟨w.heap.size, 1, none⟩ = some (.int .u16 sp) := tcell t1 (by simp)
          have q2 : w1.cell? ⟨w.heap.size, 2, none⟩ = some (.string nm) := tcell t1 (by simp)
          have q3 : w1.cell? ⟨w.heap.size, 3, none⟩ = some (.int .i64 n) := tcell t1 (by simp)
          have q4 : w1.cell? ⟨w.heap.size, 4, none⟩ = some (.int .i64 sl) := tcell t1 (by simp)
          have hw : w.heap.size < w1.heap.size := Nat.lt_of_lt_of_le (by simp) t1.size
          clear t1
          go_wp2_with fail
          all_goals (go_ret; exact ⟨by rw [HR2.out]; first | rfl | (show Ending.returned (.bool _) = _; rw [decide_eq_false (Int.not_le.2 HM2.out)]), T1.out.alloc _⟩)
    · have HR2 : Hid (R = false) := hid (by rw [HR.out, decide_eq_false hl]; simp)
      clear HR HK
      have l3 : (sl != 0) = true := by simp; omega
      clear hl
      go_enter Tryd.func30, Tryd.ntmps30
      go_wp2_with fail
      refine (HF.out _).mono ?_
      rintro e w1 ⟨rfl, t1⟩
      have T1 := hid (((Touch.refl [] w).alloc (.cells #[.int .i64 dop, .int .u16 sp, .string nm, .int .i64 n, .int .i64 sl] 85)).trans' t1)
      have q0 : w1.cell? ⟨w.heap.size, 0, none⟩ = some (.int .i64 dop) := tcell t1 (by simp)
      have q1 : w1.cell? ⟨w.heap.size, 1, none⟩ = some (.int .u16 sp) := tcell t1 (by simp)
      have q2 : w1.cell? ⟨w.heap.size, 2, none⟩ = some (.string nm) := tcell t1 (by simp)
      have q3 : w1.cell? ⟨w.heap.size, 3, none⟩ = some (.int .i64 n) := tcell t1 (by simp)
      have q4 : w1.cell? ⟨w.heap.size, 4, none⟩ = some (.int .i64 sl) := tcell t1 (by simp)
      have hw : w.heap.size < w1.heap.size := Nat.lt_of_lt_of_le (by simp) t1.size
      clear t1
      go_wp2_with fail
      all_goals (go_ret; exact ⟨by rw [HR2.out]; rfl, T1.out.alloc _⟩)
  · have HR2 : Hid (R = false) := hid (by rw [HR.out]; unfold keyB; simp at hk ⊢; intro a b; exact absurd b (hk a))
    clear HR
    by_cases z1 : sp = 0
    · have z2 : ¬ nm.toList = [] := fun e => hk ⟨z1, e⟩
      have z3 : (nm.toList == []) = false := by simp [z2]
      have z4 : (sp == 0) = true := by simp [z1]
      have z5 : nm.toList.isEmpty = false := by simp [z2]
      clear hk z1 z2
      go_enter Tryd.func30, Tryd.ntmps30
      go_wp2_with fail
      refine (HF.out _).mono ?_
      rintro e w1 ⟨rfl, t1⟩
      have T1 := hid (((Touch.refl [] w).alloc (.cells #[.int .i64 dop, .int .u16 sp, .string nm, .int .i64 n, .int .i64 sl] 85)).trans' t1)
      have q0 : w1.cell? ⟨w.heap.size, 0, none⟩ = some (.int .i64 dop) := tcell t1 (by simp)
      have q1 : w1.cell? ⟨w.heap.size, 1, none⟩ = some (.int .u16 sp) := tcell t1 (by simp)
      have q2 : w1.cell? ⟨w.heap.size, 2, none⟩ = some (.string nm) := tcell t1 (by simp)
      have q3 : w1.cell? ⟨w.heap.size, 3, none⟩ = some (.int .i64 n) := tcell t1 (by simp)
      have q4 : w1.cell? ⟨w.heap.size, 4, none⟩ = some (.int .i64 sl) := tcell t1 (by simp)
      have hw : w.heap.size < w1.heap.size := Nat.lt_of_lt_of_le (by simp) t1.size
      clear t1
      go_wp2_with fail
      all_goals (go_ret; exact ⟨by rw [HR2.out]; rfl, T1.out.alloc _⟩)
    · have z4 : (sp == 0) = false := by simp [z1]
      clear hk z1
      go_enter Tryd.func30, Tryd.ntmps30
      go_wp2_with fail
      refine (HF.out _).mono ?_
      rintro e w1 ⟨rfl, t1⟩
      have T1 := hid (((Touch.refl [] w).alloc (.cells #[.int .i64 dop, .int .u16 sp, .string nm, .int .i64 n, .int .i64 sl] 85)).trans' t1)
      have q0 : w1.cell? ⟨w.heap.size, 0, none⟩ = some (.int .i64 dop) := tcell t1 (by simp)
      have q1 : w1.cell? ⟨w.heap.size, 1, none⟩ = some (.int .u16 sp) := tcell t1 (by simp)
      have q2 : w1.cell? ⟨w.heap.size, 2, none⟩ = some (.string nm) := tcell t1 (by simp)
      have q3 : w1.cell? ⟨w.heap.size, 3, none⟩ = some (.int .i64 n) := tcell t1 (by simp)
      have q4 : w1.cell? ⟨w.heap.size, 4, none⟩ = some (.int .i64 sl) := tcell t1 (by simp)
      have hw : w.heap.size < w1.heap.size := Nat.lt_of_lt_of_le (by simp) t1.size
      clear t1
      go_wp2_with fail
      all_goals (go_ret; exact ⟨by rw [HR2.out]; rfl, T1.out.alloc _⟩)
theorem rmay_1 (d : Dz) (w : World) (e0 : d.op = 1) (hs : d.nm.size ≤ maxLen) : Calls Tryd.prog 30 #[.agg #[.int .i64 d.op, .int .u16 d.sp, .string d.nm, .int .i64 d.n, .int .i64 d.sl]] w fun e w' => e = .returned (.bool (mayZ d)) ∧ Touch [] w w' :=
  rmay_a d ⟨#[99, 97, 108, 108]⟩ 0 0 w (by rw [ByteArray.toList_eq]; rfl) (by rw [ByteArray.toList_eq]; rfl) (hid (fun w => by rw [e0]; exact form_1 w)) (hid (by unfold mayZ; rw [e0]; rfl)) hs
theorem rmay_2 (d : Dz) (w : World) (e0 : d.op = 2) (hs : d.nm.size ≤ maxLen) : Calls Tryd.prog 30 #[.agg #[.int .i64 d.op, .int .u16 d.sp, .string d.nm, .int .i64 d.n, .int .i64 d.sl]] w fun e w' => e = .returned (.bool (mayZ d)) ∧ Touch [] w w' :=
  rmay_b d ⟨#[115, 116, 97, 114, 116]⟩ 0 0 w (by rw [ByteArray.toList_eq]; rfl) (by rw [ByteArray.toList_eq]; rfl) (hid (fun w => by rw [e0]; exact form_2 w)) (hid (by unfold mayZ; rw [e0]; rfl)) hs
theorem rmay_3 (d : Dz) (w : World) (e0 : d.op = 3) (hs : d.nm.size ≤ maxLen) : Calls Tryd.prog 30 #[.agg #[.int .i64 d.op, .int .u16 d.sp, .string d.nm, .int .i64 d.n, .int .i64 d.sl]] w fun e w' => e = .returned (.bool (mayZ d)) ∧ Touch [] w w' :=
  rmay_c d ⟨#[97, 119, 97, 105, 116]⟩ 0 0 w (by rw [ByteArray.toList_eq]; rfl) (by rw [ByteArray.toList_eq]; rfl) (hid (fun w => by rw [e0]; exact form_3 w)) (hid (by unfold mayZ; rw [e0]; rfl)) hs
theorem rmay_4 (d : Dz) (w : World) (e0 : d.op = 4) (hs : d.nm.size ≤ maxLen) : Calls Tryd.prog 30 #[.agg #[.int .i64 d.op, .int .u16 d.sp, .string d.nm, .int .i64 d.n, .int .i64 d.sl]] w fun e w' => e = .returned (.bool (mayZ d)) ∧ Touch [] w w' :=
  rmay_a d ⟨#[102, 111, 114, 103, 101, 116]⟩ 0 0 w (by rw [ByteArray.toList_eq]; rfl) (by rw [ByteArray.toList_eq]; rfl) (hid (fun w => by rw [e0]; exact form_4 w)) (hid (by unfold mayZ; rw [e0]; rfl)) hs
theorem rmay_5 (d : Dz) (w : World) (e0 : d.op = 5) (hs : d.nm.size ≤ maxLen) : Calls Tryd.prog 30 #[.agg #[.int .i64 d.op, .int .u16 d.sp, .string d.nm, .int .i64 d.n, .int .i64 d.sl]] w fun e w' => e = .returned (.bool (mayZ d)) ∧ Touch [] w w' :=
  rmay_e d ⟨#[99, 97, 110, 99, 101, 108]⟩ 1 1024 w (by rw [ByteArray.toList_eq]; rfl) (by rw [ByteArray.toList_eq]; rfl) (hid (fun w => by rw [e0]; exact form_5 w)) (hid (by unfold mayZ; rw [e0]; rfl)) hs
theorem rmay_6 (d : Dz) (w : World) (e0 : d.op = 6) (hs : d.nm.size ≤ maxLen) : Calls Tryd.prog 30 #[.agg #[.int .i64 d.op, .int .u16 d.sp, .string d.nm, .int .i64 d.n, .int .i64 d.sl]] w fun e w' => e = .returned (.bool (mayZ d)) ∧ Touch [] w w' :=
  rmay_e d ⟨#[111, 112, 101, 110]⟩ 0 255 w (by rw [ByteArray.toList_eq]; rfl) (by rw [ByteArray.toList_eq]; rfl) (hid (fun w => by rw [e0]; exact form_6 w)) (hid (by unfold mayZ; rw [e0]; rfl)) hs
theorem rmay_7 (d : Dz) (w : World) (e0 : d.op = 7) (hs : d.nm.size ≤ maxLen) : Calls Tryd.prog 30 #[.agg #[.int .i64 d.op, .int .u16 d.sp, .string d.nm, .int .i64 d.n, .int .i64 d.sl]] w fun e w' => e = .returned (.bool (mayZ d)) ∧ Touch [] w w' :=
  rmay_e d ⟨#[115, 104, 117, 116]⟩ 0 255 w (by rw [ByteArray.toList_eq]; rfl) (by rw [ByteArray.toList_eq]; rfl) (hid (fun w => by rw [e0]; exact form_7 w)) (hid (by unfold mayZ; rw [e0]; rfl)) hs
theorem rmay_8 (d : Dz) (w : World) (e0 : d.op = 8) (hs : d.nm.size ≤ maxLen) : Calls Tryd.prog 30 #[.agg #[.int .i64 d.op, .int .u16 d.sp, .string d.nm, .int .i64 d.n, .int .i64 d.sl]] w fun e w' => e = .returned (.bool (mayZ d)) ∧ Touch [] w w' :=
  rmay_e d ⟨#[115, 108, 101, 101, 112]⟩ 0 4611686018427387904 w (by rw [ByteArray.toList_eq]; rfl) (by rw [ByteArray.toList_eq]; rfl) (hid (fun w => by rw [e0]; exact form_8 w)) (hid (by unfold mayZ; rw [e0]; rfl)) hs
theorem rmay_9 (d : Dz) (w : World) (e0 : d.op = 9) (hs : d.nm.size ≤ maxLen) : Calls Tryd.prog 30 #[.agg #[.int .i64 d.op, .int .u16 d.sp, .string d.nm, .int .i64 d.n, .int .i64 d.sl]] w fun e w' => e = .returned (.bool (mayZ d)) ∧ Touch [] w w' :=
  rmay_e d ⟨#[116, 111, 107, 101, 110]⟩ 0 1024 w (by rw [ByteArray.toList_eq]; rfl) (by rw [ByteArray.toList_eq]; rfl) (hid (fun w => by rw [e0]; exact form_9 w)) (hid (by unfold mayZ; rw [e0]; rfl)) hs
theorem rmay_ (d : Dz) (w : World) (hs : d.nm.size ≤ maxLen) : Calls Tryd.prog 30 #[.agg #[.int .i64 d.op, .int .u16 d.sp, .string d.nm, .int .i64 d.n, .int .i64 d.sl]] w fun e w' => e = .returned (.bool (mayZ d)) ∧ Touch [] w w' := by
  by_cases h : 1 ≤ d.op ∧ d.op ≤ 9
  · rcases (by omega : d.op = 1 ∨ d.op = 2 ∨ d.op = 3 ∨ d.op = 4 ∨ d.op = 5 ∨ d.op = 6 ∨ d.op = 7 ∨ d.op = 8 ∨ d.op = 9) with e | e | e | e | e | e | e | e | e
    · exact rmay_1 d w e hs
    · exact rmay_2 d w e hs
    · exact rmay_3 d w e hs
    · exact rmay_4 d w e hs
    · exact rmay_5 d w e hs
    · exact rmay_6 d w e hs
    · exact rmay_7 d w e hs
    · exact rmay_8 d w e hs
    · exact rmay_9 d w e hs
  · have HF := hid (fun w => form_no d.op h w)
    rw [mayZ_op h]
    obtain ⟨dop, sp, nm, n, sl⟩ := d
    dsimp only at *
    clear h hs
    go_enter Tryd.func30, Tryd.ntmps30
    go_wp2_with fail
    refine (HF.out _).mono ?_
    rintro e w1 ⟨rfl, t1⟩
    have T1 := hid (((Touch.refl [] w).alloc (.cells #[.int .i64 dop, .int .u16 sp, .string nm, .int .i64 n, .int .i64 sl] 85)).trans' t1)
    clear t1
    go_wp2_with fail
    go_ret
    exact ⟨rfl, T1.out.alloc _⟩
end Go.Proofs.YthakboiecdjgnaaDoor.Ci
