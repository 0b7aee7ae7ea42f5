/- The walk of the law KeyBack: it returns true and turns nothing that was there; a name's length is within the form's reach. -/
import Derived.Test.YtbaljfkjgfkdiaaDoorBck
namespace Go.Proofs.YtbaljfkjgfkdiaaDoor
open Go.RowKit Go.Sort
set_option linter.unusedVariables false

set_option maxHeartbeats 2000000 in
theorem bck_ok_ok (a : Nat) (s : ByteArray) (n : Nat) (n1 : 1 ≤ n) (n2 : n ≤ 32768) (w : World) (h1 : a ≤ 65535) (hl : s.size ≤ 64) (hs : s.size ≤ 140737488351232) (hT : Tab w) :
    Calls Tryd.prog 8 #[.agg #[.int .u16 a, .string s], .int .i64 n] w fun e w' => e = .returned (.bool true) ∧ Below w.heap.size w w' := by
  have A1 : Hid _ := fun w (ht : Tab w) => text10_ok a s w hl (by omega) (by omega) ht
  have A2 : Hid _ := fun w => bytes16_ok a s w (by omega) (by omega) hl
  have A3 : Hid _ := fun w => parse_text a s w h1 hl
  have A4 : Hid _ := fun w => take_bytes a s w h1 hl
  have hB : (s.size : Int) + 4 = ((hd3 a s ++ s).size : Int) + 1 := by rw [ByteArray.size_append, hd3_size]; omega
  have hBs : (hd3 a s ++ s).size ≤ 67 := by rw [ByteArray.size_append, hd3_size]; omega
  have had : ∀ w, (Op.stringOp .add ⟨#[122]⟩ (hd3 a s ++ s)).run Tryd.prog w = .ok (.string (zBytes a s)) w := fun w => run_string_add_sum w _ _ (by have : (ByteArray.mk #[122]).size = 1 := rfl; omega)
  rw [hB] at A4
  change Hid (∀ w, Tab w → Calls Tryd.prog 10 #[.agg #[.int .u16 a, .string s]] w fun e w' => e = .returned (.tuple #[.string (textB a s), .int .i64 0]) ∧ Gr w w') at A1
  generalize textB a s = T at *
  generalize zBytes a s = Z at *
  generalize hd3 a s ++ s = B at *
  have hl' : (s.size : Int) ≤ 64 := by omega
  have A5 : Hid _ := fun w => part22_ok a s n (by omega) (by omega) (by omega) n1 (by omega) w
  have A6 : Hid _ := fun w => part22_ok a s (2 * n) (by omega) (by omega) (by omega) (by omega) (by omega) w
  have q0 := partN_lt (hashK a s) n (hashK_lt a s) n1
  have q1 := partN_lt (hashK a s) (2 * n) (hashK_lt a s) (by omega)
  have q2 := partN_half (hashK a s) n
  rw [show ((2 * n : Nat) : Int) = 2 * (n : Int) by omega] at A6
  generalize partN (hashK a s) n = Q at *
  generalize partN (hashK a s) (2 * n) = R at *
  have r0 : (0 : Int) ≤ (Q : Int) := by omega
  have r1 : (Q : Int) < (n : Int) := by omega
  have r2 : (R : Int) / 2 = (Q : Int) := by omega
  have r3 : (R : Int) ≤ 65536 := by omega
  have m1 : ¬ (n : Int) < 1 := by omega
  have m2 : ¬ (32768 : Int) < (n : Int) := by omega
  have q4 : ((R : Int) / 2 == (Q : Int)) = true := by rw [r2]; simp
  clear q0 q1 q2
  have HT : Hid (Tab w) := hT
  clear hT hl h1 hs
  go_enter Tryd.func8, Tryd.ntmps8
  go_wp2_with fail
  refine (awake9 _).mono ?_
  rintro e w1 ⟨rfl, g1⟩
  have c0 : w1.cell? ⟨w.heap.size, 0, none⟩ = some (.int .u16 a) := g1.cell (by simp) (by simp)
  have c1 : w1.cell? ⟨w.heap.size, 1, none⟩ = some (.string s) := g1.cell (by simp) (by simp)
  have z1 : w.heap.size < w1.heap.size := by have := g1.size; simp at this; omega
  have G1 : Gr w w1 := ((Gr.refl _).alloc _).trans g1
  have HT1 : Hid (Tab w1) := HT.out.gr G1
  go_wp2_with fail
  refine (A1.out _ HT1.out).mono ?_
  rintro e w2 ⟨rfl, g2⟩
  have c0 : w2.cell? ⟨w.heap.size, 0, none⟩ = some (.int .u16 a) := g2.cell c0 (by exact z1)
  have c1 : w2.cell? ⟨w.heap.size, 1, none⟩ = some (.string s) := g2.cell c1 (by exact z1)
  have G2 : Gr w w2 := G1.trans g2
  have z2 : w.heap.size < w2.heap.size := by have := g2.size; omega
  go_wp2_with fail
  refine (A2.out _).mono ?_
  rintro e w3 ⟨rfl, g3⟩
  have d0 : w3.cell? ⟨w.heap.size, 0, none⟩ = some (.int .u16 a) := g3.cell c0 (by exact z2)
  have d1 : w3.cell? ⟨w.heap.size, 1, none⟩ = some (.string s) := g3.cell c1 (by exact z2)
  have z3 : w.heap.size < w3.heap.size := by have := g3.size; omega
  have B3 : Hid (Below w.heap.size w w3) := (G2.trans g3).below
  clear g1 g2 g3 c0 c1 G1 G2 HT1 z1 z2
  go_wp2_with fail
  refine (A3.out _).mono ?_
  rintro e w4 ⟨rfl, b4⟩
  have B4 : Hid (Below w.heap.size w w4) := B3.out.trans (b4.mono (B3.out.size))
  have k0 : w4.cell? ⟨w.heap.size, 0, none⟩ = some (.int .u16 a) := by rw [b4.cell (by exact z3)]; exact d0
  have k1 : w4.cell? ⟨w.heap.size, 1, none⟩ = some (.string s) := by rw [b4.cell (by exact z3)]; exact d1
  have z4 : w.heap.size < w4.heap.size := by have := b4.size; omega
  clear b4 B3 d0 d1
  go_wp2_with fail
  refine (A4.out _).mono ?_
  rintro e w5 ⟨rfl, b5⟩
  have B5 : Hid (Below w.heap.size w w5) := (B4.out.alloc B4.out.size _).trans (b5.mono (by have := B4.out.size; simp; omega))
  have e0 : w5.cell? ⟨w4.heap.size, 0, none⟩ = some (.int .u16 a) := by rw [b5.cell (by simp)]; simp
  have e1 : w5.cell? ⟨w4.heap.size, 1, none⟩ = some (.string s) := by rw [b5.cell (by simp)]; simp
  have d0 : w5.cell? ⟨w.heap.size, 0, none⟩ = some (.int .u16 a) := by rw [b5.cell (by simp; omega), Below.cell (B := w4.heap.size) ((Below.refl _ _).alloc (Nat.le_refl _) _) (by exact z4)]; exact k0
  have d1 : w5.cell? ⟨w.heap.size, 1, none⟩ = some (.string s) := by rw [b5.cell (by simp; omega), Below.cell (B := w4.heap.size) ((Below.refl _ _).alloc (Nat.le_refl _) _) (by exact z4)]; exact k1
  have z5 : w4.heap.size < w5.heap.size := by have := b5.size; simp at this; omega
  obtain ⟨V, hV⟩ : ∃ V, V = w5.alloc (.cells #[.int .u16 a, .string s] 24) := ⟨_, rfl⟩
  have g0 : V.cell? ⟨w.heap.size, 0, none⟩ = some (.int .u16 a) := by rw [hV, Below.cell (B := w5.heap.size) ((Below.refl _ _).alloc (Nat.le_refl _) _) (by show w.heap.size < _; omega)]; exact d0
  have g1 : V.cell? ⟨w.heap.size, 1, none⟩ = some (.string s) := by rw [hV, Below.cell (B := w5.heap.size) ((Below.refl _ _).alloc (Nat.le_refl _) _) (by show w.heap.size < _; omega)]; exact d1
  have g2 : V.cell? ⟨w4.heap.size, 0, none⟩ = some (.int .u16 a) := by rw [hV, Below.cell (B := w5.heap.size) ((Below.refl _ _).alloc (Nat.le_refl _) _) (by exact z5)]; exact e0
  have g3 : V.cell? ⟨w4.heap.size, 1, none⟩ = some (.string s) := by rw [hV, Below.cell (B := w5.heap.size) ((Below.refl _ _).alloc (Nat.le_refl _) _) (by exact z5)]; exact e1
  have g4 : V.cell? ⟨w5.heap.size, 0, none⟩ = some (.int .u16 a) := by rw [hV]; simp
  have g5 : V.cell? ⟨w5.heap.size, 1, none⟩ = some (.string s) := by rw [hV]; simp
  have BV : Hid (Below w.heap.size w V) := by rw [hV]; exact B5.out.alloc B5.out.size _
  have zV : w.heap.size < V.heap.size := by have := BV.out.size; rw [hV]; simp; omega
  have HV : Hid (V = w5.alloc (.cells #[.int .u16 a, .string s] 24)) := hV
  have hV' : w5.alloc (.cells #[.int .u16 a, .string s] 24) = V := hV.symm
  clear hV b5 B4 k0 k1 d0 d1 e0 e1
  go_wp2_with fail
  refine (A5.out _).mono ?_
  rintro e w6 ⟨rfl, g6⟩
  have j0 : w6.cell? ⟨w.heap.size, 0, none⟩ = some (.int .u16 a) := g6.cell g0 (by exact zV)
  have j1 : w6.cell? ⟨w.heap.size, 1, none⟩ = some (.string s) := g6.cell g1 (by exact zV)
  have B6 : Hid (Below w.heap.size w w6) := BV.out.trans (g6.below.mono BV.out.size)
  clear g6
  go_wp2_with fail
  refine (A6.out _).mono ?_
  rintro e w7 ⟨rfl, g7⟩
  have B7 : Hid (Below w.heap.size w w7) := B6.out.trans (g7.below.mono B6.out.size)
  clear g7
  go_wp2
  go_ret
  exact ⟨rfl, B7.out⟩

set_option maxHeartbeats 2000000 in
theorem bck_ok_no (a : Nat) (s : ByteArray) (n : Int) (hn : n < 1 ∨ 32768 < n) (w : World) (h1 : a ≤ 65535) (hl : s.size ≤ 64) (hs : s.size ≤ 140737488351232) (hT : Tab w) :
    Calls Tryd.prog 8 #[.agg #[.int .u16 a, .string s], .int .i64 n] w fun e w' => e = .returned (.bool true) ∧ Below w.heap.size w w' := by
  have A1 : Hid _ := fun w (ht : Tab w) => text10_ok a s w hl (by omega) (by omega) ht
  have A2 : Hid _ := fun w => bytes16_ok a s w (by omega) (by omega) hl
  have A3 : Hid _ := fun w => parse_text a s w h1 hl
  have A4 : Hid _ := fun w => take_bytes a s w h1 hl
  have hB : (s.size : Int) + 4 = ((hd3 a s ++ s).size : Int) + 1 := by rw [ByteArray.size_append, hd3_size]; omega
  have hBs : (hd3 a s ++ s).size ≤ 67 := by rw [ByteArray.size_append, hd3_size]; omega
  have had : ∀ w, (Op.stringOp .add ⟨#[122]⟩ (hd3 a s ++ s)).run Tryd.prog w = .ok (.string (zBytes a s)) w := fun w => run_string_add_sum w _ _ (by have : (ByteArray.mk #[122]).size = 1 := rfl; omega)
  rw [hB] at A4
  change Hid (∀ w, Tab w → Calls Tryd.prog 10 #[.agg #[.int .u16 a, .string s]] w fun e w' => e = .returned (.tuple #[.string (textB a s), .int .i64 0]) ∧ Gr w w') at A1
  generalize textB a s = T at *
  generalize zBytes a s = Z at *
  generalize hd3 a s ++ s = B at *
  have hl' : (s.size : Int) ≤ 64 := by omega
  have HT : Hid (Tab w) := hT
  clear hT hl h1 hs
  go_enter Tryd.func8, Tryd.ntmps8
  go_wp2_with fail
  refine (awake9 _).mono ?_
  rintro e w1 ⟨rfl, g1⟩
  have c0 : w1.cell? ⟨w.heap.size, 0, none⟩ = some (.int .u16 a) := g1.cell (by simp) (by simp)
  have c1 : w1.cell? ⟨w.heap.size, 1, none⟩ = some (.string s) := g1.cell (by simp) (by simp)
  have z1 : w.heap.size < w1.heap.size := by have := g1.size; simp at this; omega
  have G1 : Gr w w1 := ((Gr.refl _).alloc _).trans g1
  have HT1 : Hid (Tab w1) := HT.out.gr G1
  go_wp2_with fail
  refine (A1.out _ HT1.out).mono ?_
  rintro e w2 ⟨rfl, g2⟩
  have c0 : w2.cell? ⟨w.heap.size, 0, none⟩ = some (.int .u16 a) := g2.cell c0 (by exact z1)
  have c1 : w2.cell? ⟨w.heap.size, 1, none⟩ = some (.string s) := g2.cell c1 (by exact z1)
  have G2 : Gr w w2 := G1.trans g2
  have z2 : w.heap.size < w2.heap.size := by have := g2.size; omega
  go_wp2_with fail
  refine (A2.out _).mono ?_
  rintro e w3 ⟨rfl, g3⟩
  have d0 : w3.cell? ⟨w.heap.size, 0, none⟩ = some (.int .u16 a) := g3.cell c0 (by exact z2)
  have d1 : w3.cell? ⟨w.heap.size, 1, none⟩ = some (.string s) := g3.cell c1 (by exact z2)
  have z3 : w.heap.size < w3.heap.size := by have := g3.size; omega
  have B3 : Hid (Below w.heap.size w w3) := (G2.trans g3).below
  clear g1 g2 g3 c0 c1 G1 G2 HT1 z1 z2
  go_wp2_with fail
  refine (A3.out _).mono ?_
  rintro e w4 ⟨rfl, b4⟩
  have B4 : Hid (Below w.heap.size w w4) := B3.out.trans (b4.mono (B3.out.size))
  have k0 : w4.cell? ⟨w.heap.size, 0, none⟩ = some (.int .u16 a) := by rw [b4.cell (by exact z3)]; exact d0
  have k1 : w4.cell? ⟨w.heap.size, 1, none⟩ = some (.string s) := by rw [b4.cell (by exact z3)]; exact d1
  have z4 : w.heap.size < w4.heap.size := by have := b4.size; omega
  clear b4 B3 d0 d1
  go_wp2_with fail
  refine (A4.out _).mono ?_
  rintro e w5 ⟨rfl, b5⟩
  have B5 : Hid (Below w.heap.size w w5) := (B4.out.alloc B4.out.size _).trans (b5.mono (by have := B4.out.size; simp; omega))
  have e0 : w5.cell? ⟨w4.heap.size, 0, none⟩ = some (.int .u16 a) := by rw [b5.cell (by simp)]; simp
  have e1 : w5.cell? ⟨w4.heap.size, 1, none⟩ = some (.string s) := by rw [b5.cell (by simp)]; simp
  have d0 : w5.cell? ⟨w.heap.size, 0, none⟩ = some (.int .u16 a) := by rw [b5.cell (by simp; omega), Below.cell (B := w4.heap.size) ((Below.refl _ _).alloc (Nat.le_refl _) _) (by exact z4)]; exact k0
  have d1 : w5.cell? ⟨w.heap.size, 1, none⟩ = some (.string s) := by rw [b5.cell (by simp; omega), Below.cell (B := w4.heap.size) ((Below.refl _ _).alloc (Nat.le_refl _) _) (by exact z4)]; exact k1
  have z5 : w4.heap.size < w5.heap.size := by have := b5.size; simp at this; omega
  obtain ⟨V, hV⟩ : ∃ V, V = w5.alloc (.cells #[.int .u16 a, .string s] 24) := ⟨_, rfl⟩
  have g0 : V.cell? ⟨w.heap.size, 0, none⟩ = some (.int .u16 a) := by rw [hV, Below.cell (B := w5.heap.size) ((Below.refl _ _).alloc (Nat.le_refl _) _) (by show w.heap.size < _; omega)]; exact d0
  have g1 : V.cell? ⟨w.heap.size, 1, none⟩ = some (.string s) := by rw [hV, Below.cell (B := w5.heap.size) ((Below.refl _ _).alloc (Nat.le_refl _) _) (by show w.heap.size < _; omega)]; exact d1
  have g2 : V.cell? ⟨w4.heap.size, 0, none⟩ = some (.int .u16 a) := by rw [hV, Below.cell (B := w5.heap.size) ((Below.refl _ _).alloc (Nat.le_refl _) _) (by exact z5)]; exact e0
  have g3 : V.cell? ⟨w4.heap.size, 1, none⟩ = some (.string s) := by rw [hV, Below.cell (B := w5.heap.size) ((Below.refl _ _).alloc (Nat.le_refl _) _) (by exact z5)]; exact e1
  have g4 : V.cell? ⟨w5.heap.size, 0, none⟩ = some (.int .u16 a) := by rw [hV]; simp
  have g5 : V.cell? ⟨w5.heap.size, 1, none⟩ = some (.string s) := by rw [hV]; simp
  have BV : Hid (Below w.heap.size w V) := by rw [hV]; exact B5.out.alloc B5.out.size _
  have zV : w.heap.size < V.heap.size := by have := BV.out.size; rw [hV]; simp; omega
  have HV : Hid (V = w5.alloc (.cells #[.int .u16 a, .string s] 24)) := hV
  have hV' : w5.alloc (.cells #[.int .u16 a, .string s] 24) = V := hV.symm
  clear hV b5 B4 k0 k1 d0 d1 e0 e1
  by_cases hn1 : n < 1
  · go_wp2
    go_ret
    exact ⟨rfl, BV.out⟩
  · have hn2 : 32768 < n := by omega
    go_wp2
    go_ret
    exact ⟨rfl, BV.out⟩

set_option maxHeartbeats 2000000 in
theorem bck_no_ok (a : Nat) (s : ByteArray) (n : Nat) (n1 : 1 ≤ n) (n2 : n ≤ 32768) (w : World) (h1 : a ≤ 65535) (hl : 64 < s.size) (hs : s.size ≤ 140737488351232) (hT : Tab w) :
    Calls Tryd.prog 8 #[.agg #[.int .u16 a, .string s], .int .i64 n] w fun e w' => e = .returned (.bool true) ∧ Below w.heap.size w w' := by
  have A1 : Hid _ := fun w (ht : Tab w) => text10_no a s w hl
  have A2 : Hid _ := fun w => bytes16_no a s w hl
  have hl' : (64 : Int) < (s.size : Int) := by omega
  have A5 : Hid _ := fun w => part22_ok a s n (by omega) (by omega) (by omega) n1 (by omega) w
  have A6 : Hid _ := fun w => part22_ok a s (2 * n) (by omega) (by omega) (by omega) (by omega) (by omega) w
  have q0 := partN_lt (hashK a s) n (hashK_lt a s) n1
  have q1 := partN_lt (hashK a s) (2 * n) (hashK_lt a s) (by omega)
  have q2 := partN_half (hashK a s) n
  rw [show ((2 * n : Nat) : Int) = 2 * (n : Int) by omega] at A6
  generalize partN (hashK a s) n = Q at *
  generalize partN (hashK a s) (2 * n) = R at *
  have r0 : (0 : Int) ≤ (Q : Int) := by omega
  have r1 : (Q : Int) < (n : Int) := by omega
  have r2 : (R : Int) / 2 = (Q : Int) := by omega
  have r3 : (R : Int) ≤ 65536 := by omega
  have m1 : ¬ (n : Int) < 1 := by omega
  have m2 : ¬ (32768 : Int) < (n : Int) := by omega
  have q4 : ((R : Int) / 2 == (Q : Int)) = true := by rw [r2]; simp
  clear q0 q1 q2
  have HT : Hid (Tab w) := hT
  clear hT hl h1 hs
  go_enter Tryd.func8, Tryd.ntmps8
  go_wp2_with fail
  refine (awake9 _).mono ?_
  rintro e w1 ⟨rfl, g1⟩
  have c0 : w1.cell? ⟨w.heap.size, 0, none⟩ = some (.int .u16 a) := g1.cell (by simp) (by simp)
  have c1 : w1.cell? ⟨w.heap.size, 1, none⟩ = some (.string s) := g1.cell (by simp) (by simp)
  have z1 : w.heap.size < w1.heap.size := by have := g1.size; simp at this; omega
  have G1 : Gr w w1 := ((Gr.refl _).alloc _).trans g1
  have HT1 : Hid (Tab w1) := HT.out.gr G1
  go_wp2_with fail
  refine (A1.out _ HT1.out).mono ?_
  rintro e w2 ⟨rfl, g2⟩
  have c0 : w2.cell? ⟨w.heap.size, 0, none⟩ = some (.int .u16 a) := g2.cell c0 (by exact z1)
  have c1 : w2.cell? ⟨w.heap.size, 1, none⟩ = some (.string s) := g2.cell c1 (by exact z1)
  have G2 : Gr w w2 := G1.trans g2
  have z2 : w.heap.size < w2.heap.size := by have := g2.size; omega
  go_wp2_with fail
  refine (A2.out _).mono ?_
  rintro e w3 ⟨rfl, g3⟩
  have d0 : w3.cell? ⟨w.heap.size, 0, none⟩ = some (.int .u16 a) := g3.cell c0 (by exact z2)
  have d1 : w3.cell? ⟨w.heap.size, 1, none⟩ = some (.string s) := g3.cell c1 (by exact z2)
  have z3 : w.heap.size < w3.heap.size := by have := g3.size; omega
  have B3 : Hid (Below w.heap.size w w3) := (G2.trans g3).below
  clear g1 g2 g3 c0 c1 G1 G2 HT1 z1 z2
  obtain ⟨V, hV⟩ : ∃ V, V = w3 := ⟨_, rfl⟩
  subst hV
  have BV : Hid (Below w.heap.size w V) := B3.out
  have g0 := d0
  have g1 := d1
  have zV := z3
  go_wp2_with fail
  refine (A5.out _).mono ?_
  rintro e w6 ⟨rfl, g6⟩
  have j0 : w6.cell? ⟨w.heap.size, 0, none⟩ = some (.int .u16 a) := g6.cell g0 (by exact zV)
  have j1 : w6.cell? ⟨w.heap.size, 1, none⟩ = some (.string s) := g6.cell g1 (by exact zV)
  have B6 : Hid (Below w.heap.size w w6) := BV.out.trans (g6.below.mono BV.out.size)
  clear g6
  go_wp2_with fail
  refine (A6.out _).mono ?_
  rintro e w7 ⟨rfl, g7⟩
  have B7 : Hid (Below w.heap.size w w7) := B6.out.trans (g7.below.mono B6.out.size)
  clear g7
  go_wp2
  go_ret
  exact ⟨rfl, B7.out⟩

set_option maxHeartbeats 2000000 in
theorem bck_no_no (a : Nat) (s : ByteArray) (n : Int) (hn : n < 1 ∨ 32768 < n) (w : World) (h1 : a ≤ 65535) (hl : 64 < s.size) (hs : s.size ≤ 140737488351232) (hT : Tab w) :
    Calls Tryd.prog 8 #[.agg #[.int .u16 a, .string s], .int .i64 n] w fun e w' => e = .returned (.bool true) ∧ Below w.heap.size w w' := by
  have A1 : Hid _ := fun w (ht : Tab w) => text10_no a s w hl
  have A2 : Hid _ := fun w => bytes16_no a s w hl
  have hl' : (64 : Int) < (s.size : Int) := by omega
  have HT : Hid (Tab w) := hT
  clear hT hl h1 hs
  go_enter Tryd.func8, Tryd.ntmps8
  go_wp2_with fail
  refine (awake9 _).mono ?_
  rintro e w1 ⟨rfl, g1⟩
  have c0 : w1.cell? ⟨w.heap.size, 0, none⟩ = some (.int .u16 a) := g1.cell (by simp) (by simp)
  have c1 : w1.cell? ⟨w.heap.size, 1, none⟩ = some (.string s) := g1.cell (by simp) (by simp)
  have z1 : w.heap.size < w1.heap.size := by have := g1.size; simp at this; omega
  have G1 : Gr w w1 := ((Gr.refl _).alloc _).trans g1
  have HT1 : Hid (Tab w1) := HT.out.gr G1
  go_wp2_with fail
  refine (A1.out _ HT1.out).mono ?_
  rintro e w2 ⟨rfl, g2⟩
  have c0 : w2.cell? ⟨w.heap.size, 0, none⟩ = some (.int .u16 a) := g2.cell c0 (by exact z1)
  have c1 : w2.cell? ⟨w.heap.size, 1, none⟩ = some (.string s) := g2.cell c1 (by exact z1)
  have G2 : Gr w w2 := G1.trans g2
  have z2 : w.heap.size < w2.heap.size := by have := g2.size; omega
  go_wp2_with fail
  refine (A2.out _).mono ?_
  rintro e w3 ⟨rfl, g3⟩
  have d0 : w3.cell? ⟨w.heap.size, 0, none⟩ = some (.int .u16 a) := g3.cell c0 (by exact z2)
  have d1 : w3.cell? ⟨w.heap.size, 1, none⟩ = some (.string s) := g3.cell c1 (by exact z2)
  have z3 : w.heap.size < w3.heap.size := by have := g3.size; omega
  have B3 : Hid (Below w.heap.size w w3) := (G2.trans g3).below
  clear g1 g2 g3 c0 c1 G1 G2 HT1 z1 z2
  obtain ⟨V, hV⟩ : ∃ V, V = w3 := ⟨_, rfl⟩
  subst hV
  have BV : Hid (Below w.heap.size w V) := B3.out
  have g0 := d0
  have g1 := d1
  have zV := z3
  by_cases hn1 : n < 1
  · go_wp2
    go_ret
    exact ⟨rfl, BV.out⟩
  · have hn2 : 32768 < n := by omega
    go_wp2
    go_ret
    exact ⟨rfl, BV.out⟩

theorem walkBck (a : Int) (s : ByteArray) (n : Int) (w : World) (h : 0 ≤ a ∧ a ≤ 65535) (hs : s.size ≤ 140737488351232) (hT : Tab w) :
    Calls Tryd.prog 8 #[.agg #[.int .u16 a, .string s], .int .i64 n] w fun e w' => e = .returned (.bool true) ∧ Below w.heap.size w w' := by
  obtain ⟨a, rfl⟩ : ∃ b : Nat, a = b := ⟨a.toNat, by omega⟩
  have ha : a ≤ 65535 := by omega
  by_cases hn : n < 1 ∨ 32768 < n
  · by_cases hl : s.size ≤ 64
    · exact bck_ok_no a s n hn w ha hl hs hT
    · exact bck_no_no a s n hn w ha (by omega) hs hT
  · obtain ⟨k, rfl⟩ : ∃ k : Nat, n = k := ⟨n.toNat, by omega⟩
    by_cases hl : s.size ≤ 64
    · exact bck_ok_ok a s k (by omega) (by omega) w ha hl hs hT
    · exact bck_no_ok a s k (by omega) (by omega) w ha (by omega) hs hT
end Go.Proofs.YtbaljfkjgfkdiaaDoor
