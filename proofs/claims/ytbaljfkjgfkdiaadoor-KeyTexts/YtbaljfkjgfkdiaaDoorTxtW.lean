/- The walk of the law KeyTexts: it returns true and turns nothing that was there; the text's length is within the form's reach. -/
import Derived.Test.YtbaljfkjgfkdiaaDoorPrr
import Derived.Test.YtbaljfkjgfkdiaaDoorDig
namespace Go.Proofs.YtbaljfkjgfkdiaaDoor
open Go.RowKit Go.Sort
set_option linter.unusedVariables false

set_option maxHeartbeats 2000000 in
theorem txt_ok_bad (a : Nat) (s t : ByteArray) (w : World) (h1 : a ≤ 65535) (hl : s.size ≤ 64) (hT : Tab w) (wrong : Int) (hwr : 0 ≤ wrong)
    (T1 : ∀ w, Calls Tryd.prog 14 #[.string t] w fun e w' => e = .returned (.tuple #[.agg #[.int .u16 0, .string ⟨#[]⟩], .int .i64 wrong, .int .i64 20]) ∧ Below w.heap.size w w')
    (T2 : ∀ w, Calls Tryd.prog 15 #[.string t] w fun e w' => e = .returned (.tuple #[.agg #[.int .u16 0, .string ⟨#[]⟩], .int .i64 wrong]) ∧ Below w.heap.size w w') :
    Calls Tryd.prog 3 #[.agg #[.int .u16 a, .string s], .string t] w fun e w' => e = .returned (.bool true) ∧ Below w.heap.size w w' := by
  have mixed : Tryd.prog.follows .mixedOrders = true := by kernel_rfl
  have A1 : Hid _ := fun w (ht : Tab w) => text10_ok a s w hl (by omega) (by omega) ht
  have A2 : Hid _ := fun w => ref11_ok a s w hl h1
  have A3 : Hid _ := fun w => check13_ok a s w hl
  generalize itoaB a ++ ⟨#[58]⟩ ++ s = T at *
  have P1 : Hid _ := T1
  have P2 : Hid _ := T2
  have HT : Hid (Tab w) := hT
  clear T1 T2 hT hl h1
  go_enter Tryd.func3, Tryd.ntmps3
  go_wp2_with fail
  refine (awake9 _).mono ?_
  rintro e w1 ⟨rfl, g1⟩
  have c0 : w1.cell? ⟨w.heap.size, 0, none⟩ = some (.int .u16 a) := g1.cell (by simp) (by simp)
  have c1 : w1.cell? ⟨w.heap.size, 1, none⟩ = some (.string s) := g1.cell (by simp) (by simp)
  have z1 : w.heap.size < w1.heap.size := by have := g1.size; simp at this; omega
  have G1 : Gr w w1 := ((Gr.refl _).alloc _).trans g1
  have HT1 : Hid (Tab w1) := HT.out.gr G1
  go_wp2_with fail
  refine (A1.out _ HT1.out).mono ?_
  rintro e w2 ⟨rfl, g2⟩
  have d0 : w2.cell? ⟨w.heap.size, 0, none⟩ = some (.int .u16 a) := g2.cell c0 (by exact z1)
  have d1 : w2.cell? ⟨w.heap.size, 1, none⟩ = some (.string s) := g2.cell c1 (by exact z1)
  have G2 : Gr w w2 := G1.trans g2
  have z2 := g2.size
  clear g1 g2 c0 c1 G1 HT1
  go_wp2_with fail
  refine (given12 a s _).mono ?_
  rintro e w2' ⟨rfl, g2'⟩
  go_wp2_with fail
  refine (A2.out _).mono ?_
  rintro e w3 ⟨rfl, g3⟩
  have G3 : Gr w w3 := (G2.trans g2').trans g3
  have k0 : w3.cell? ⟨w.heap.size, 0, none⟩ = some (.int .u16 a) := (g2'.trans g3).cell d0 (by show w.heap.size < _; omega)
  have k1 : w3.cell? ⟨w.heap.size, 1, none⟩ = some (.string s) := (g2'.trans g3).cell d1 (by show w.heap.size < _; omega)
  clear g2' g3 d0 d1 G2 z1 z2
  go_wp2_with fail
  refine (A3.out _).mono ?_
  rintro e w3' ⟨rfl, g3'⟩
  have B3 : Hid (Below w.heap.size w w3') := (G3.trans g3').below
  clear G3 g3' k0 k1
  go_wp2_with fail
  refine (P1.out _).mono ?_
  rintro e w4 ⟨rfl, b4⟩
  have B4 : Hid (Below w.heap.size w w4) := B3.out.trans (b4.mono (B3.out.size))
  clear b4 B3
  go_wp2_with fail
  refine (P2.out _).mono ?_
  rintro e w5 ⟨rfl, b5⟩
  have B5 : Hid (Below w.heap.size w w5) := (B4.out.alloc B4.out.size _).trans (b5.mono (by have := B4.out.size; simp; omega))
  have e0 : w5.cell? ⟨w4.heap.size, 0, none⟩ = some (.int .u16 0) := by rw [b5.cell (by simp)]; simp
  have e1 : w5.cell? ⟨w4.heap.size, 1, none⟩ = some (.string ⟨#[]⟩) := by rw [b5.cell (by simp)]; simp
  have z5 : w4.heap.size < w5.heap.size := by have := b5.size; simp at this; omega
  clear b5 B4
  go_wp2
  go_ret
  exact ⟨rfl, B5.out.alloc B5.out.size _⟩

set_option maxHeartbeats 2000000 in
theorem txt_no_bad (a : Nat) (s t : ByteArray) (w : World) (h1 : a ≤ 65535) (hl : 64 < s.size) (hT : Tab w) (wrong : Int) (hwr : 0 ≤ wrong)
    (T1 : ∀ w, Calls Tryd.prog 14 #[.string t] w fun e w' => e = .returned (.tuple #[.agg #[.int .u16 0, .string ⟨#[]⟩], .int .i64 wrong, .int .i64 20]) ∧ Below w.heap.size w w')
    (T2 : ∀ w, Calls Tryd.prog 15 #[.string t] w fun e w' => e = .returned (.tuple #[.agg #[.int .u16 0, .string ⟨#[]⟩], .int .i64 wrong]) ∧ Below w.heap.size w w') :
    Calls Tryd.prog 3 #[.agg #[.int .u16 a, .string s], .string t] w fun e w' => e = .returned (.bool true) ∧ Below w.heap.size w w' := by
  have mixed : Tryd.prog.follows .mixedOrders = true := by kernel_rfl
  have A1 : Hid _ := fun w (ht : Tab w) => text10_no a s w hl
  have A2 : Hid _ := fun w => ref11_no a s w hl
  have A3 : Hid _ := fun w => check13_no a s w hl
  have P1 : Hid _ := T1
  have P2 : Hid _ := T2
  have HT : Hid (Tab w) := hT
  clear T1 T2 hT hl h1
  go_enter Tryd.func3, Tryd.ntmps3
  go_wp2_with fail
  refine (awake9 _).mono ?_
  rintro e w1 ⟨rfl, g1⟩
  have c0 : w1.cell? ⟨w.heap.size, 0, none⟩ = some (.int .u16 a) := g1.cell (by simp) (by simp)
  have c1 : w1.cell? ⟨w.heap.size, 1, none⟩ = some (.string s) := g1.cell (by simp) (by simp)
  have z1 : w.heap.size < w1.heap.size := by have := g1.size; simp at this; omega
  have G1 : Gr w w1 := ((Gr.refl _).alloc _).trans g1
  have HT1 : Hid (Tab w1) := HT.out.gr G1
  go_wp2_with fail
  refine (A1.out _ HT1.out).mono ?_
  rintro e w2 ⟨rfl, g2⟩
  have d0 : w2.cell? ⟨w.heap.size, 0, none⟩ = some (.int .u16 a) := g2.cell c0 (by exact z1)
  have d1 : w2.cell? ⟨w.heap.size, 1, none⟩ = some (.string s) := g2.cell c1 (by exact z1)
  have G2 : Gr w w2 := G1.trans g2
  have z2 := g2.size
  clear g1 g2 c0 c1 G1 HT1
  go_wp2_with fail
  refine (given12 a s _).mono ?_
  rintro e w2' ⟨rfl, g2'⟩
  go_wp2_with fail
  refine (A2.out _).mono ?_
  rintro e w3 ⟨rfl, g3⟩
  have G3 : Gr w w3 := (G2.trans g2').trans g3
  have k0 : w3.cell? ⟨w.heap.size, 0, none⟩ = some (.int .u16 a) := (g2'.trans g3).cell d0 (by show w.heap.size < _; omega)
  have k1 : w3.cell? ⟨w.heap.size, 1, none⟩ = some (.string s) := (g2'.trans g3).cell d1 (by show w.heap.size < _; omega)
  clear g2' g3 d0 d1 G2 z1 z2
  go_wp2_with fail
  refine (A3.out _).mono ?_
  rintro e w3' ⟨rfl, g3'⟩
  have B3 : Hid (Below w.heap.size w w3') := (G3.trans g3').below
  clear G3 g3' k0 k1
  go_wp2_with fail
  refine (P1.out _).mono ?_
  rintro e w4 ⟨rfl, b4⟩
  have B4 : Hid (Below w.heap.size w w4) := B3.out.trans (b4.mono (B3.out.size))
  clear b4 B3
  go_wp2_with fail
  refine (P2.out _).mono ?_
  rintro e w5 ⟨rfl, b5⟩
  have B5 : Hid (Below w.heap.size w w5) := (B4.out.alloc B4.out.size _).trans (b5.mono (by have := B4.out.size; simp; omega))
  have e0 : w5.cell? ⟨w4.heap.size, 0, none⟩ = some (.int .u16 0) := by rw [b5.cell (by simp)]; simp
  have e1 : w5.cell? ⟨w4.heap.size, 1, none⟩ = some (.string ⟨#[]⟩) := by rw [b5.cell (by simp)]; simp
  have z5 : w4.heap.size < w5.heap.size := by have := b5.size; simp at this; omega
  clear b5 B4
  go_wp2
  go_ret
  exact ⟨rfl, B5.out.alloc B5.out.size _⟩

set_option maxHeartbeats 2000000 in
theorem txt_ok_ok (a : Nat) (s t : ByteArray) (w : World) (h1 : a ≤ 65535) (hl : s.size ≤ 64) (hT : Tab w) (x : Int) (y : ByteArray)
    (T1 : ∀ w, Calls Tryd.prog 14 #[.string t] w fun e w' => e = .returned (.tuple #[.agg #[.int .u16 x, .string y], .int .i64 0, .int .i64 0]) ∧ Below w.heap.size w w')
    (T2 : ∀ w, Calls Tryd.prog 15 #[.string t] w fun e w' => e = .returned (.tuple #[.agg #[.int .u16 x, .string y], .int .i64 (-1)]) ∧ Below w.heap.size w w') :
    Calls Tryd.prog 3 #[.agg #[.int .u16 a, .string s], .string t] w fun e w' => e = .returned (.bool true) ∧ Below w.heap.size w w' := by
  have mixed : Tryd.prog.follows .mixedOrders = true := by kernel_rfl
  have A1 : Hid _ := fun w (ht : Tab w) => text10_ok a s w hl (by omega) (by omega) ht
  have A2 : Hid _ := fun w => ref11_ok a s w hl h1
  have A3 : Hid _ := fun w => check13_ok a s w hl
  generalize itoaB a ++ ⟨#[58]⟩ ++ s = T at *
  have P1 : Hid _ := T1
  have P2 : Hid _ := T2
  have HT : Hid (Tab w) := hT
  clear T1 T2 hT hl h1
  go_enter Tryd.func3, Tryd.ntmps3
  go_wp2_with fail
  refine (awake9 _).mono ?_
  rintro e w1 ⟨rfl, g1⟩
  have c0 : w1.cell? ⟨w.heap.size, 0, none⟩ = some (.int .u16 a) := g1.cell (by simp) (by simp)
  have c1 : w1.cell? ⟨w.heap.size, 1, none⟩ = some (.string s) := g1.cell (by simp) (by simp)
  have z1 : w.heap.size < w1.heap.size := by have := g1.size; simp at this; omega
  have G1 : Gr w w1 := ((Gr.refl _).alloc _).trans g1
  have HT1 : Hid (Tab w1) := HT.out.gr G1
  go_wp2_with fail
  refine (A1.out _ HT1.out).mono ?_
  rintro e w2 ⟨rfl, g2⟩
  have d0 : w2.cell? ⟨w.heap.size, 0, none⟩ = some (.int .u16 a) := g2.cell c0 (by exact z1)
  have d1 : w2.cell? ⟨w.heap.size, 1, none⟩ = some (.string s) := g2.cell c1 (by exact z1)
  have G2 : Gr w w2 := G1.trans g2
  have z2 := g2.size
  clear g1 g2 c0 c1 G1 HT1
  go_wp2_with fail
  refine (given12 a s _).mono ?_
  rintro e w2' ⟨rfl, g2'⟩
  go_wp2_with fail
  refine (A2.out _).mono ?_
  rintro e w3 ⟨rfl, g3⟩
  have G3 : Gr w w3 := (G2.trans g2').trans g3
  have k0 : w3.cell? ⟨w.heap.size, 0, none⟩ = some (.int .u16 a) := (g2'.trans g3).cell d0 (by show w.heap.size < _; omega)
  have k1 : w3.cell? ⟨w.heap.size, 1, none⟩ = some (.string s) := (g2'.trans g3).cell d1 (by show w.heap.size < _; omega)
  clear g2' g3 d0 d1 G2 z1 z2
  go_wp2_with fail
  refine (A3.out _).mono ?_
  rintro e w3' ⟨rfl, g3'⟩
  have B3 : Hid (Below w.heap.size w w3') := (G3.trans g3').below
  clear G3 g3' k0 k1
  go_wp2_with fail
  refine (P1.out _).mono ?_
  rintro e w4 ⟨rfl, b4⟩
  have B4 : Hid (Below w.heap.size w w4) := B3.out.trans (b4.mono (B3.out.size))
  clear b4 B3
  go_wp2_with fail
  refine (P2.out _).mono ?_
  rintro e w5 ⟨rfl, b5⟩
  have B5 : Hid (Below w.heap.size w w5) := (B4.out.alloc B4.out.size _).trans (b5.mono (by have := B4.out.size; simp; omega))
  have e0 : w5.cell? ⟨w4.heap.size, 0, none⟩ = some (.int .u16 x) := by rw [b5.cell (by simp)]; simp
  have e1 : w5.cell? ⟨w4.heap.size, 1, none⟩ = some (.string y) := by rw [b5.cell (by simp)]; simp
  have z5 : w4.heap.size < w5.heap.size := by have := b5.size; simp at this; omega
  clear b5 B4
  go_wp2_with fail
  obtain ⟨V, hV⟩ : ∃ V, V = w5.alloc (.cells #[.int .u16 x, .string y] 31) := ⟨_, rfl⟩
  have BV : Hid (Below w.heap.size w V) := by rw [hV]; exact B5.out.alloc B5.out.size _
  have GV : Gr w5 V := by rw [hV]; exact (Gr.refl _).alloc _
  have v0 : ∀ n os, (grow (V.drewN n) os).cell? ⟨w4.heap.size, 0, none⟩ = some (.int .u16 x) := fun n os => (GV.grow n os).cell e0 (by exact z5)
  have v1 : ∀ n os, (grow (V.drewN n) os).cell? ⟨w4.heap.size, 1, none⟩ = some (.string y) := fun n os => (GV.grow n os).cell e1 (by exact z5)
  have v2 : ∀ n os, (grow (V.drewN n) os).cell? ⟨w5.heap.size, 0, none⟩ = some (.int .u16 x) := fun n os => (gr_grow V n os).cell (by rw [hV]; simp) (by rw [hV]; simp)
  have v3 : ∀ n os, (grow (V.drewN n) os).cell? ⟨w5.heap.size, 1, none⟩ = some (.string y) := fun n os => (gr_grow V n os).cell (by rw [hV]; simp) (by rw [hV]; simp)
  rw [← hV]
  clear hV GV e0 e1
  go_quiet_grown (first | (go_at_call 12; refine Calls.grown_of (given12 _ _ _)))
  go_wp2
  go_ret
  exact ⟨rfl, BV.out.trans ((gr_grow V _ _).below.mono BV.out.size)⟩

set_option maxHeartbeats 2000000 in
theorem txt_no_ok (a : Nat) (s t : ByteArray) (w : World) (h1 : a ≤ 65535) (hl : 64 < s.size) (hT : Tab w) (x : Int) (y : ByteArray)
    (T1 : ∀ w, Calls Tryd.prog 14 #[.string t] w fun e w' => e = .returned (.tuple #[.agg #[.int .u16 x, .string y], .int .i64 0, .int .i64 0]) ∧ Below w.heap.size w w')
    (T2 : ∀ w, Calls Tryd.prog 15 #[.string t] w fun e w' => e = .returned (.tuple #[.agg #[.int .u16 x, .string y], .int .i64 (-1)]) ∧ Below w.heap.size w w') :
    Calls Tryd.prog 3 #[.agg #[.int .u16 a, .string s], .string t] w fun e w' => e = .returned (.bool true) ∧ Below w.heap.size w w' := by
  have mixed : Tryd.prog.follows .mixedOrders = true := by kernel_rfl
  have A1 : Hid _ := fun w (ht : Tab w) => text10_no a s w hl
  have A2 : Hid _ := fun w => ref11_no a s w hl
  have A3 : Hid _ := fun w => check13_no a s w hl
  have P1 : Hid _ := T1
  have P2 : Hid _ := T2
  have HT : Hid (Tab w) := hT
  clear T1 T2 hT hl h1
  go_enter Tryd.func3, Tryd.ntmps3
  go_wp2_with fail
  refine (awake9 _).mono ?_
  rintro e w1 ⟨rfl, g1⟩
  have c0 : w1.cell? ⟨w.heap.size, 0, none⟩ = some (.int .u16 a) := g1.cell (by simp) (by simp)
  have c1 : w1.cell? ⟨w.heap.size, 1, none⟩ = some (.string s) := g1.cell (by simp) (by simp)
  have z1 : w.heap.size < w1.heap.size := by have := g1.size; simp at this; omega
  have G1 : Gr w w1 := ((Gr.refl _).alloc _).trans g1
  have HT1 : Hid (Tab w1) := HT.out.gr G1
  go_wp2_with fail
  refine (A1.out _ HT1.out).mono ?_
  rintro e w2 ⟨rfl, g2⟩
  have d0 : w2.cell? ⟨w.heap.size, 0, none⟩ = some (.int .u16 a) := g2.cell c0 (by exact z1)
  have d1 : w2.cell? ⟨w.heap.size, 1, none⟩ = some (.string s) := g2.cell c1 (by exact z1)
  have G2 : Gr w w2 := G1.trans g2
  have z2 := g2.size
  clear g1 g2 c0 c1 G1 HT1
  go_wp2_with fail
  refine (given12 a s _).mono ?_
  rintro e w2' ⟨rfl, g2'⟩
  go_wp2_with fail
  refine (A2.out _).mono ?_
  rintro e w3 ⟨rfl, g3⟩
  have G3 : Gr w w3 := (G2.trans g2').trans g3
  have k0 : w3.cell? ⟨w.heap.size, 0, none⟩ = some (.int .u16 a) := (g2'.trans g3).cell d0 (by show w.heap.size < _; omega)
  have k1 : w3.cell? ⟨w.heap.size, 1, none⟩ = some (.string s) := (g2'.trans g3).cell d1 (by show w.heap.size < _; omega)
  clear g2' g3 d0 d1 G2 z1 z2
  go_wp2_with fail
  refine (A3.out _).mono ?_
  rintro e w3' ⟨rfl, g3'⟩
  have B3 : Hid (Below w.heap.size w w3') := (G3.trans g3').below
  clear G3 g3' k0 k1
  go_wp2_with fail
  refine (P1.out _).mono ?_
  rintro e w4 ⟨rfl, b4⟩
  have B4 : Hid (Below w.heap.size w w4) := B3.out.trans (b4.mono (B3.out.size))
  clear b4 B3
  go_wp2_with fail
  refine (P2.out _).mono ?_
  rintro e w5 ⟨rfl, b5⟩
  have B5 : Hid (Below w.heap.size w w5) := (B4.out.alloc B4.out.size _).trans (b5.mono (by have := B4.out.size; simp; omega))
  have e0 : w5.cell? ⟨w4.heap.size, 0, none⟩ = some (.int .u16 x) := by rw [b5.cell (by simp)]; simp
  have e1 : w5.cell? ⟨w4.heap.size, 1, none⟩ = some (.string y) := by rw [b5.cell (by simp)]; simp
  have z5 : w4.heap.size < w5.heap.size := by have := b5.size; simp at this; omega
  clear b5 B4
  go_wp2_with fail
  obtain ⟨V, hV⟩ : ∃ V, V = w5.alloc (.cells #[.int .u16 x, .string y] 31) := ⟨_, rfl⟩
  have BV : Hid (Below w.heap.size w V) := by rw [hV]; exact B5.out.alloc B5.out.size _
  have GV : Gr w5 V := by rw [hV]; exact (Gr.refl _).alloc _
  have v0 : ∀ n os, (grow (V.drewN n) os).cell? ⟨w4.heap.size, 0, none⟩ = some (.int .u16 x) := fun n os => (GV.grow n os).cell e0 (by exact z5)
  have v1 : ∀ n os, (grow (V.drewN n) os).cell? ⟨w4.heap.size, 1, none⟩ = some (.string y) := fun n os => (GV.grow n os).cell e1 (by exact z5)
  have v2 : ∀ n os, (grow (V.drewN n) os).cell? ⟨w5.heap.size, 0, none⟩ = some (.int .u16 x) := fun n os => (gr_grow V n os).cell (by rw [hV]; simp) (by rw [hV]; simp)
  have v3 : ∀ n os, (grow (V.drewN n) os).cell? ⟨w5.heap.size, 1, none⟩ = some (.string y) := fun n os => (gr_grow V n os).cell (by rw [hV]; simp) (by rw [hV]; simp)
  rw [← hV]
  clear hV GV e0 e1
  go_quiet_grown (first | (go_at_call 12; refine Calls.grown_of (given12 _ _ _)))
  go_wp2
  go_ret
  exact ⟨rfl, BV.out.trans ((gr_grow V _ _).below.mono BV.out.size)⟩

theorem walkTxt (a : Int) (s t : ByteArray) (w : World) (h : 0 ≤ a ∧ a ≤ 65535) (hs : t.size ≤ 281474976710656) (hT : Tab w) :
    Calls Tryd.prog 3 #[.agg #[.int .u16 a, .string s], .string t] w fun e w' => e = .returned (.bool true) ∧ Below w.heap.size w w' := by
  obtain ⟨a, rfl⟩ : ∃ b : Nat, a = b := ⟨a.toNat, by omega⟩
  have ha : a ≤ 65535 := by omega
  obtain ⟨N, I, hN⟩ : ∃ N I, scan t.data.toList 0 0 = (N, I) := ⟨_, _, rfl⟩
  have hle := scan_le t.data.toList 0 0 (by omega)
  rw [hN] at hle
  have hI : I ≤ t.size := by have := hle.2.2; simp only [Nat.zero_add] at this; exact this
  by_cases hb : isBad t I
  · have T1 := fun w => parse14_bad t w hs N I hN hI hb
    have T2 := fun w => ref15 t w hs N I (.tuple #[zeroKey, .int .i64 I]) hN ⟨fun _ => rfl, fun h => absurd hb (fun hb => by
      obtain ⟨h0, ⟨hlt, h58⟩, _⟩ := h
      rcases hb with h | h | ⟨_, h⟩
      · exact h0 h
      · omega
      · exact h h58), fun h => absurd hb (fun hb => by
      obtain ⟨h0, ⟨hlt, h58⟩, _⟩ := h
      rcases hb with h | h | ⟨_, h⟩
      · exact h0 h
      · omega
      · exact h h58)⟩
    by_cases hl : s.size ≤ 64
    · exact txt_ok_bad a s t w ha hl hT I (by omega) T1 T2
    · exact txt_no_bad a s t w ha (by omega) hT I (by omega) T1 T2
  · have h0 : I ≠ 0 := fun e => hb (Or.inl e)
    have hlt : I < t.size := by
      rcases Nat.lt_or_ge I t.size with h | h
      · exact h
      · exact absurd (Or.inr (Or.inl (by omega))) hb
    have h58 : t[I].toNat = 58 := by
      by_cases h : t[I].toNat = 58
      · exact h
      · exact absurd (Or.inr (Or.inr ⟨hlt, h⟩)) hb
    by_cases hlong : 64 < t.size - (I + 1)
    · have T1 := fun w => parse14_long t w hs N I hN h0 hlt h58 hlong
      have T2 := fun w => ref15 t w hs N I (.tuple #[zeroKey, .int .i64 ((I : Int) + 1 + 64)]) hN ⟨fun h => absurd h hb, fun _ => rfl, fun h => by have := h.2.2; omega⟩
      by_cases hl : s.size ≤ 64
      · exact txt_ok_bad a s t w ha hl hT _ (by omega) T1 T2
      · exact txt_no_bad a s t w ha (by omega) hT _ (by omega) T1 T2
    · have T1 := fun w => parse14_ok t w hs N I hN h0 hlt h58 (by omega)
      have T2 := fun w => ref15 t w hs N I (.tuple #[.agg #[.int .u16 N, .string (t.extract (I + 1) t.size)], .int .i64 (-1)]) hN ⟨fun h => absurd h hb, fun h => by have := h.2.2; omega, fun _ => rfl⟩
      by_cases hl : s.size ≤ 64
      · exact txt_ok_ok a s t w ha hl hT _ _ T1 T2
      · exact txt_no_ok a s t w ha (by omega) hT _ _ T1 T2
end Go.Proofs.YtbaljfkjgfkdiaaDoor
