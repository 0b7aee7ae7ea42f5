/- The walk of the law KeyBytes: it returns true and turns nothing that was there; the text's length is within the form's reach. -/
import Derived.Test.YtbaljfkjgfkdiaaDoorTar
import Derived.Test.YtbaljfkjgfkdiaaDoorOrd
namespace Go.Proofs.YtbaljfkjgfkdiaaDoor
open Go.RowKit Go.Sort
set_option linter.unusedVariables false

theorem takes (s : ByteArray) (at_ : Int) (hs : s.size ≤ 281474976710656) (ha : at_ ≤ 9223372036854775807) :
    ∃ (x : Int) (y : ByteArray) (to : Int) (ok : Bool),
      (∀ w, Calls Tryd.prog 18 #[.string s, .int .i64 at_] w fun e w' => e = .returned (.tuple #[.agg #[.int .u16 x, .string y], .int .i64 to, .bool ok]) ∧ Below w.heap.size w w') ∧
      (∀ w, Calls Tryd.prog 19 #[.string s, .int .i64 at_] w fun e w' => e = .returned (.tuple #[.agg #[.int .u16 x, .string y], .int .i64 to, .bool ok]) ∧ Below w.heap.size w w') := by
  by_cases h : at_ < 0 ∨ (s.size : Int) - at_ < 3
  · exact ⟨0, ⟨#[]⟩, 0, false, fun w => take18_early s at_ w hs ha h, fun w => ref19_early s at_ w hs ha h⟩
  · obtain ⟨k, rfl⟩ : ∃ k : Nat, at_ = k := ⟨at_.toNat, by omega⟩
    have hk : k + 3 ≤ s.size := by omega
    by_cases h2 : 64 < s[k + 2].toNat ∨ s.size < k + 3 + s[k + 2].toNat
    · exact ⟨0, ⟨#[]⟩, 0, false, fun w => take18_late s k _ w hs hk rfl h2, fun w => ref19_late s k _ w hs hk rfl h2⟩
    · exact ⟨_, _, _, true, fun w => take18_ok s k _ w hs hk rfl _ _ rfl rfl (by omega) (by omega), fun w => ref19_ok s k _ w hs hk rfl _ _ rfl rfl (by omega) (by omega)⟩

theorem cell_grown_of {V : World} {a : Addr} {v : Value} (h : V.cell? a = some v) (hb : a.block < V.heap.size) (n : Nat) (os : Array Obj) : (grow (V.drewN n) os).cell? a = some v := (gr_grow V n os).cell h hb

set_option maxHeartbeats 2000000 in
theorem walkByt_no (a : Int) (s t : ByteArray) (at_ : Int) (w : World) (h0 : 0 ≤ a) (h1 : a ≤ 65535) (hl : 64 < s.size) (hs : t.size ≤ 281474976710656) (ha : at_ ≤ 9223372036854775807) :
    Calls Tryd.prog 4 #[.agg #[.int .u16 a, .string s], .string t, .int .i64 at_] w fun e w' => e = .returned (.bool true) ∧ Below w.heap.size w w' := by
  have mixed : Tryd.prog.follows .mixedOrders = true := by kernel_rfl
  obtain ⟨x, y, to, ok, T1, T2⟩ := takes t at_ hs ha
  have A1 : Hid _ := T1
  have A2 : Hid _ := T2
  have hl' : (64 : Int) < (s.size : Int) := by omega
  have HL : Hid _ := hl
  clear T1 T2 hl hs ha h0 h1
  go_enter Tryd.func4, Tryd.ntmps4
  go_wp2_with fail
  refine (awake9 _).mono ?_
  rintro e w1 ⟨rfl, g1⟩
  have c0 : w1.cell? ⟨w.heap.size, 0, none⟩ = some (.int .u16 a) := g1.cell (by simp) (by simp)
  have c1 : w1.cell? ⟨w.heap.size, 1, none⟩ = some (.string s) := g1.cell (by simp) (by simp)
  have z1 : w.heap.size < w1.heap.size := by have := g1.size; simp at this; omega
  go_wp2_with fail
  refine (bytes16_no a s _ HL.out).mono ?_
  rintro e w2 ⟨rfl, g2⟩
  have d1 : w2.cell? ⟨w.heap.size, 1, none⟩ = some (.string s) := g2.cell c1 (by exact z1)
  have B : Hid (Below w.heap.size w w2) := (((Gr.refl _).alloc _).trans (g1.trans g2)).below
  clear g1 g2 c0 c1
  go_wp2_with fail
  refine (A1.out _).mono ?_
  rintro e w3 ⟨rfl, b3⟩
  have B3 : Hid (Below w.heap.size w w3) := B.out.trans (b3.mono (B.out.size))
  clear b3 d1 B
  go_wp2_with fail
  refine (A2.out _).mono ?_
  rintro e w4 ⟨rfl, b4⟩
  have B4 : Hid (Below w.heap.size w w4) := (B3.out.alloc B3.out.size _).trans (b4.mono (by have := B3.out.size; simp; omega))
  have e0 : w4.cell? ⟨w3.heap.size, 0, none⟩ = some (.int .u16 x) := by rw [b4.cell (by simp)]; simp
  have e1 : w4.cell? ⟨w3.heap.size, 1, none⟩ = some (.string y) := by rw [b4.cell (by simp)]; simp
  have z4 : w3.heap.size < w4.heap.size := by have := b4.size; simp at this; omega
  clear b4 B3
  go_wp2_with fail
  obtain ⟨V, hV⟩ : ∃ V, V = w4.alloc (.cells #[.int .u16 x, .string y] 31) := ⟨_, rfl⟩
  have BV : Hid (Below w.heap.size w V) := by rw [hV]; exact B4.out.alloc B4.out.size _
  have GV : Gr w4 V := by rw [hV]; exact (Gr.refl _).alloc _
  have v0 : ∀ n os, (grow (V.drewN n) os).cell? ⟨w3.heap.size, 0, none⟩ = some (.int .u16 x) := fun n os => (GV.grow n os).cell e0 (by exact z4)
  have v1 : ∀ n os, (grow (V.drewN n) os).cell? ⟨w3.heap.size, 1, none⟩ = some (.string y) := fun n os => (GV.grow n os).cell e1 (by exact z4)
  have v2 : ∀ n os, (grow (V.drewN n) os).cell? ⟨w4.heap.size, 0, none⟩ = some (.int .u16 x) := fun n os => (gr_grow V n os).cell (by rw [hV]; simp) (by rw [hV]; simp)
  have v3 : ∀ n os, (grow (V.drewN n) os).cell? ⟨w4.heap.size, 1, none⟩ = some (.string y) := fun n os => (gr_grow V n os).cell (by rw [hV]; simp) (by rw [hV]; simp)
  rw [← hV]
  clear hV GV e0 e1
  go_quiet_grown (first | (go_at_call 12; refine Calls.grown_of (given12 _ _ _)))
  go_wp2
  go_ret
  exact ⟨rfl, BV.out.trans ((gr_grow V _ _).below.mono BV.out.size)⟩

set_option maxHeartbeats 2000000 in
theorem walkByt_ok (a : Int) (s t : ByteArray) (at_ : Int) (w : World) (h0 : 0 ≤ a) (h1 : a ≤ 65535) (hl : s.size ≤ 64) (hs : t.size ≤ 281474976710656) (ha : at_ ≤ 9223372036854775807) :
    Calls Tryd.prog 4 #[.agg #[.int .u16 a, .string s], .string t, .int .i64 at_] w fun e w' => e = .returned (.bool true) ∧ Below w.heap.size w w' := by
  have mixed : Tryd.prog.follows .mixedOrders = true := by kernel_rfl
  obtain ⟨x, y, to, ok, T1, T2⟩ := takes t at_ hs ha
  have A1 : Hid _ := T1
  have A2 : Hid _ := T2
  have A3 : Hid _ := fun w => bytes16_ok a s w h0 h1 hl
  have A4 : Hid _ := fun w => ref17 a s w h0 h1 (by omega)
  have hl' : (s.size : Int) ≤ 64 := by omega
  clear T1 T2 hl hs ha h0 h1
  go_enter Tryd.func4, Tryd.ntmps4
  go_wp2_with fail
  refine (awake9 _).mono ?_
  rintro e w1 ⟨rfl, g1⟩
  have c0 : w1.cell? ⟨w.heap.size, 0, none⟩ = some (.int .u16 a) := g1.cell (by simp) (by simp)
  have c1 : w1.cell? ⟨w.heap.size, 1, none⟩ = some (.string s) := g1.cell (by simp) (by simp)
  have z1 : w.heap.size < w1.heap.size := by have := g1.size; simp at this; omega
  go_wp2_with fail
  refine (A3.out _).mono ?_
  rintro e w2 ⟨rfl, g2⟩
  have d0 : w2.cell? ⟨w.heap.size, 0, none⟩ = some (.int .u16 a) := g2.cell c0 (by exact z1)
  have d1 : w2.cell? ⟨w.heap.size, 1, none⟩ = some (.string s) := g2.cell c1 (by exact z1)
  have B : Hid (Below w.heap.size w w2) := (((Gr.refl _).alloc _).trans (g1.trans g2)).below
  clear g1 g2 c0 c1
  go_wp2_with fail
  refine (given12 a s _).mono ?_
  rintro e w2' ⟨rfl, g2'⟩
  have B' : Hid (Below w.heap.size w w2') := B.out.trans (g2'.below.mono B.out.size)
  clear g2' d0 d1 B
  go_wp2_with fail
  refine (A4.out _).mono ?_
  rintro e w2'' ⟨rfl, g2''⟩
  have B : Hid (Below w.heap.size w w2'') := B'.out.trans (g2''.below.mono B'.out.size)
  clear g2'' B'
  go_wp2_with fail
  refine (A1.out _).mono ?_
  rintro e w3 ⟨rfl, b3⟩
  have B3 : Hid (Below w.heap.size w w3) := B.out.trans (b3.mono (B.out.size))
  clear b3 B
  go_wp2_with fail
  refine (A2.out _).mono ?_
  rintro e w4 ⟨rfl, b4⟩
  have B4 : Hid (Below w.heap.size w w4) := (B3.out.alloc B3.out.size _).trans (b4.mono (by have := B3.out.size; simp; omega))
  have e0 : w4.cell? ⟨w3.heap.size, 0, none⟩ = some (.int .u16 x) := by rw [b4.cell (by simp)]; simp
  have e1 : w4.cell? ⟨w3.heap.size, 1, none⟩ = some (.string y) := by rw [b4.cell (by simp)]; simp
  have z4 : w3.heap.size < w4.heap.size := by have := b4.size; simp at this; omega
  clear b4 B3
  go_wp2_with fail
  obtain ⟨V, hV⟩ : ∃ V, V = w4.alloc (.cells #[.int .u16 x, .string y] 31) := ⟨_, rfl⟩
  have BV : Hid (Below w.heap.size w V) := by rw [hV]; exact B4.out.alloc B4.out.size _
  have GV : Gr w4 V := by rw [hV]; exact (Gr.refl _).alloc _
  have v0 : ∀ n os, (grow (V.drewN n) os).cell? ⟨w3.heap.size, 0, none⟩ = some (.int .u16 x) := fun n os => (GV.grow n os).cell e0 (by exact z4)
  have v1 : ∀ n os, (grow (V.drewN n) os).cell? ⟨w3.heap.size, 1, none⟩ = some (.string y) := fun n os => (GV.grow n os).cell e1 (by exact z4)
  have v2 : ∀ n os, (grow (V.drewN n) os).cell? ⟨w4.heap.size, 0, none⟩ = some (.int .u16 x) := fun n os => (gr_grow V n os).cell (by rw [hV]; simp) (by rw [hV]; simp)
  have v3 : ∀ n os, (grow (V.drewN n) os).cell? ⟨w4.heap.size, 1, none⟩ = some (.string y) := fun n os => (gr_grow V n os).cell (by rw [hV]; simp) (by rw [hV]; simp)
  rw [← hV]
  clear hV GV e0 e1
  go_quiet_grown (first | (go_at_call 12; refine Calls.grown_of (given12 _ _ _)))
  go_wp2
  go_ret
  exact ⟨rfl, BV.out.trans ((gr_grow V _ _).below.mono BV.out.size)⟩

theorem walkByt (a : Int) (s t : ByteArray) (at_ : Int) (w : World) (h : 0 ≤ a ∧ a ≤ 65535) (hs : t.size ≤ 281474976710656) (ha : at_ ≤ 9223372036854775807) :
    Calls Tryd.prog 4 #[.agg #[.int .u16 a, .string s], .string t, .int .i64 at_] w fun e w' => e = .returned (.bool true) ∧ Below w.heap.size w w' := by
  by_cases hl : s.size ≤ 64
  · exact walkByt_ok a s t at_ w h.1 h.2 hl hs ha
  · exact walkByt_no a s t at_ w h.1 h.2 (by omega) hs ha
end Go.Proofs.YtbaljfkjgfkdiaaDoor
