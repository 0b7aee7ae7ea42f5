/- The walk of the law KeyHashes: it returns true and lays new blocks alone; a name's length is within the form's reach. -/
import Derived.Test.YtbaljfkjgfkdiaaDoorPar
namespace Go.Proofs.YtbaljfkjgfkdiaaDoor
open Go.RowKit Go.Sort
set_option linter.unusedVariables false

set_option maxHeartbeats 2000000 in
theorem walkHsh_no (a : Int) (s : ByteArray) (n : Int) (w : World) (h0 : 0 ≤ a) (h1 : a ≤ 65535) (hs : s.size ≤ 140737488351232) (hn : n < 1 ∨ 65536 < n) :
    Calls Tryd.prog 5 #[.agg #[.int .u16 a, .string s], .int .i64 n] w fun e w' => e = .returned (.bool true) ∧ Gr w w' := by
  have mixed : Tryd.prog.follows .mixedOrders = true := by kernel_rfl
  have A1 : Hid _ := fun w => hash20 a s w h0 h1 (by omega)
  have A2 : Hid _ := fun w => hash21 a s w h0 h1 (by omega)
  have A3 : Hid _ := fun w => part22_no a s n hn w
  generalize hashK a s = hk at *
  clear h0 h1 hs
  go_enter Tryd.func5, Tryd.ntmps5
  go_wp2_with fail
  obtain ⟨V, hV⟩ : ∃ V, V = w.alloc (.cells #[.int .u16 a, .string s] 24) := ⟨_, rfl⟩
  have GV : Hid (Gr w V) := by rw [hV]; exact (Gr.refl _).alloc _
  have v0 : ∀ n os, (grow (V.drewN n) os).cell? ⟨w.heap.size, 0, none⟩ = some (.int .u16 a) := fun n os => (gr_grow V n os).cell (by rw [hV]; simp) (by rw [hV]; simp)
  have v1 : ∀ n os, (grow (V.drewN n) os).cell? ⟨w.heap.size, 1, none⟩ = some (.string s) := fun n os => (gr_grow V n os).cell (by rw [hV]; simp) (by rw [hV]; simp)
  rw [← hV]
  clear hV
  go_quiet_grown (first | (go_at_call 9; refine Calls.grown_of (awake9 _)) | (go_at_call 20; refine Calls.grown_of (A1.out _)) | (go_at_call 12; refine Calls.grown_of (given12 _ _ _)) | (go_at_call 21; refine Calls.grown_of (A2.out _)))
  go_wp2_with fail
  refine (A3.out _).mono ?_
  rintro e w2 ⟨rfl, g2⟩
  have G : Hid (Gr w w2) := (GV.out.grow _ _).trans g2
  clear g2 v0 v1
  by_cases hn1 : n < 1
  · go_wp2
    go_ret
    exact ⟨rfl, G.out⟩
  · have hn2 : 65536 < n := by omega
    go_wp2
    go_ret
    exact ⟨rfl, G.out⟩
set_option maxHeartbeats 2000000 in
theorem walkHsh_ok (a : Int) (s : ByteArray) (n : Nat) (w : World) (h0 : 0 ≤ a) (h1 : a ≤ 65535) (hs : s.size ≤ 140737488351232) (n1 : 1 ≤ n) (n2 : n ≤ 65536) :
    Calls Tryd.prog 5 #[.agg #[.int .u16 a, .string s], .int .i64 n] w fun e w' => e = .returned (.bool true) ∧ Gr w w' := by
  have mixed : Tryd.prog.follows .mixedOrders = true := by kernel_rfl
  have A1 : Hid _ := fun w => hash20 a s w h0 h1 (by omega)
  have A2 : Hid _ := fun w => hash21 a s w h0 h1 (by omega)
  have A3 : Hid _ := fun w => part22_ok a s n h0 h1 (by omega) n1 n2 w
  have A4 : Hid _ := fun w => ref23 a s n h0 h1 (by omega) n1 n2 w
  have hn1 : ¬ (n : Int) < 1 := by omega
  have hn2 : ¬ (65536 : Int) < (n : Int) := by omega
  generalize partN (hashK a s) n = Q at *
  generalize hashK a s = hk at *
  clear h0 h1 hs n1 n2
  go_enter Tryd.func5, Tryd.ntmps5
  go_wp2_with fail
  obtain ⟨V, hV⟩ : ∃ V, V = w.alloc (.cells #[.int .u16 a, .string s] 24) := ⟨_, rfl⟩
  have GV : Hid (Gr w V) := by rw [hV]; exact (Gr.refl _).alloc _
  have z : w.heap.size < V.heap.size := by rw [hV]; simp
  have v0 : ∀ n os, (grow (V.drewN n) os).cell? ⟨w.heap.size, 0, none⟩ = some (.int .u16 a) := fun n os => (gr_grow V n os).cell (by rw [hV]; simp) (by rw [hV]; simp)
  have v1 : ∀ n os, (grow (V.drewN n) os).cell? ⟨w.heap.size, 1, none⟩ = some (.string s) := fun n os => (gr_grow V n os).cell (by rw [hV]; simp) (by rw [hV]; simp)
  rw [← hV]
  clear hV
  go_quiet_grown (first | (go_at_call 9; refine Calls.grown_of (awake9 _)) | (go_at_call 20; refine Calls.grown_of (A1.out _)) | (go_at_call 12; refine Calls.grown_of (given12 _ _ _)) | (go_at_call 21; refine Calls.grown_of (A2.out _)))
  go_wp2_with fail
  refine (A3.out _).mono ?_
  rintro e w2 ⟨rfl, g2⟩
  have G : Hid (Gr w w2) := (GV.out.grow _ _).trans g2
  have c0 : w2.cell? ⟨w.heap.size, 0, none⟩ = some (.int .u16 a) := g2.cell (v0 _ _) (by show w.heap.size < _; rw [size_grow]; exact Nat.lt_of_lt_of_le z (Nat.le_add_right _ _))
  have c1 : w2.cell? ⟨w.heap.size, 1, none⟩ = some (.string s) := g2.cell (v1 _ _) (by show w.heap.size < _; rw [size_grow]; exact Nat.lt_of_lt_of_le z (Nat.le_add_right _ _))
  clear g2 v0 v1
  go_wp2_with fail
  refine (given12 a s _).mono ?_
  rintro e w3 ⟨rfl, g3⟩
  go_wp2_with fail
  refine (A4.out _).mono ?_
  rintro e w4 ⟨rfl, g4⟩
  go_wp2_with fail
  go_ret
  exact ⟨rfl, (G.out.trans g3).trans g4⟩
theorem walkHsh (a : Int) (s : ByteArray) (n : Int) (w : World) (h : 0 ≤ a ∧ a ≤ 65535) (hs : s.size ≤ 140737488351232) :
    Calls Tryd.prog 5 #[.agg #[.int .u16 a, .string s], .int .i64 n] w fun e w' => e = .returned (.bool true) ∧ Below w.heap.size w w' := by
  by_cases hn : n < 1 ∨ 65536 < n
  · exact (walkHsh_no a s n w h.1 h.2 hs hn).mono fun e w' ⟨he, hg⟩ => ⟨he, hg.below⟩
  · obtain ⟨k, rfl⟩ : ∃ k : Nat, n = k := ⟨n.toNat, by omega⟩
    exact (walkHsh_ok a s k w h.1 h.2 hs (by omega) (by omega)).mono fun e w' ⟨he, hg⟩ => ⟨he, hg.below⟩
end Go.Proofs.YtbaljfkjgfkdiaaDoor
