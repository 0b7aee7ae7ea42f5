/- The walk of the law KeyOrders: it returns true and lays new blocks alone; the names' lengths fit. -/
import Derived.Test.YtbaljfkjgfkdiaaDoorOrd
namespace Go.Proofs.YtbaljfkjgfkdiaaDoor
open Go.RowKit Go.Sort
set_option linter.unusedVariables false

theorem cell_again {W : World} {a : Addr} {v : Value} (f : ∀ n os, (grow (W.drewN n) os).cell? a = some v) (nq : Nat) (osq : Array Obj) (n : Nat) (os : Array Obj) : (grow ((grow (W.drewN nq) osq).drewN n) os).cell? a = some v := by
  have := f (nq + n) (osq ++ os)
  rw [← grow_grow, ← World.drewN_drewN] at this
  exact this

set_option maxHeartbeats 2000000 in
theorem walkOrd (a b c x y z : Int) (s t u : ByteArray) (w : World) (hs : s.size ≤ maxLen) (ht : t.size ≤ maxLen)
    (hx : cmpK a s b t = x) (hy : cmpK b t c u = y) (hz : cmpK a s c u = z) :
    Calls Tryd.prog 7 #[.agg #[.int .u16 a, .string s], .agg #[.int .u16 b, .string t], .agg #[.int .u16 c, .string u]] w fun e w' => e = .returned (.bool true) ∧ Gr w w' := by
  have mixed : Tryd.prog.follows .mixedOrders = true := by kernel_rfl
  have hn : cmpK b t a s = -x := by rw [cmpK_neg, hx]
  have HT : Hid (x > 0 ∨ y > 0 ∨ z ≤ 0) := by
    show _ ∨ _ ∨ _
    by_cases p : x > 0
    · exact Or.inl p
    · by_cases q : y > 0
      · exact Or.inr (Or.inl q)
      · exact Or.inr (Or.inr (by rw [← hz]; exact cmpK_trans a b c s t u (by omega) (by omega)))
  have HR : Hid _ := cmpK_range a b s t
  have HZ : Hid _ := cmpK_zero a b s t
  have HX : Hid _ := hx
  go_enter Tryd.func7, Tryd.ntmps7
  go_wp2_with fail
  obtain ⟨W1, hW1⟩ : ∃ W1, W1 = w.alloc (.cells #[.int .u16 a, .string s] 24) := ⟨_, rfl⟩
  obtain ⟨W2, hW2⟩ : ∃ W2, W2 = W1.alloc (.cells #[.int .u16 b, .string t] 24) := ⟨_, rfl⟩
  obtain ⟨W, hW⟩ : ∃ W, W = W2.alloc (.cells #[.int .u16 c, .string u] 24) := ⟨_, rfl⟩
  rw [← hW1, ← hW2, ← hW]
  have G1 : Gr w W1 := by rw [hW1]; exact (Gr.refl _).alloc _
  have G2 : Gr W1 W2 := by rw [hW2]; exact (Gr.refl _).alloc _
  have G3 : Gr W2 W := by rw [hW]; exact (Gr.refl _).alloc _
  have z1 : W1.heap.size = w.heap.size + 1 := by rw [hW1]; simp
  have z2 : W2.heap.size = w.heap.size + 2 := by rw [hW2]; simp [z1]
  have f0 : ∀ n os, (grow (W.drewN n) os).cell? ⟨w.heap.size, 0, none⟩ = some (.int .u16 a) := fun n os => ((G2.trans G3).grow n os).cell (by rw [hW1]; simp) (by show w.heap.size < _; omega)
  have f1 : ∀ n os, (grow (W.drewN n) os).cell? ⟨w.heap.size, 1, none⟩ = some (.string s) := fun n os => ((G2.trans G3).grow n os).cell (by rw [hW1]; simp) (by show w.heap.size < _; omega)
  have f2 : ∀ n os, (grow (W.drewN n) os).cell? ⟨w.heap.size + 1, 0, none⟩ = some (.int .u16 b) := fun n os => (G3.grow n os).cell (by rw [hW2, ← z1]; simp) (by show w.heap.size + 1 < _; omega)
  have f3 : ∀ n os, (grow (W.drewN n) os).cell? ⟨w.heap.size + 1, 1, none⟩ = some (.string t) := fun n os => (G3.grow n os).cell (by rw [hW2, ← z1]; simp) (by show w.heap.size + 1 < _; omega)
  have f4 : ∀ n os, (grow (W.drewN n) os).cell? ⟨w.heap.size + 2, 0, none⟩ = some (.int .u16 c) := fun n os => (gr_grow W n os).cell (by rw [hW, ← z2]; simp) (by rw [hW, ← z2]; simp)
  have f5 : ∀ n os, (grow (W.drewN n) os).cell? ⟨w.heap.size + 2, 1, none⟩ = some (.string u) := fun n os => (gr_grow W n os).cell (by rw [hW, ← z2]; simp) (by rw [hW, ← z2]; simp)
  have G : Hid (Gr w W) := (G1.trans G2).trans G3
  clear hW hW1 hW2 G1 G2 G3 z1 z2
  clear W1 W2
  go_quiet_grown (first | (go_at_call 31; refine Calls.grown_of (compare31 _ _ _ _ _)))
  have g0 := cell_again f0 nq osq
  have g1 := cell_again f1 nq osq
  have g2 := cell_again f2 nq osq
  have g3 := cell_again f3 nq osq
  have G2 : Hid (Gr w (grow (W.drewN nq) osq)) := G.out.grow nq osq
  clear f0 f1 f2 f3 f4 f5 G
  generalize grow (W.drewN nq) osq = V at *
  clear W
  go_wp2_with fail
  have w1 : IntKind.i64.wrap 1 = 1 := rfl
  have w0 : IntKind.i64.wrap 0 = 0 := rfl
  have wm : IntKind.i64.wrap (-1) = -1 := rfl
  rcases HR.out with h | h | h
  · obtain rfl : x = -1 := by rw [← HX.out]; exact h
    by_cases hab : a = b
    · subst hab
      have hst : ¬ s.toList = t.toList := fun e => by
        rw [ByteArray.toList_eq, ByteArray.toList_eq] at e
        obtain rfl : s = t := ByteArray.ext (Array.toList_inj.1 e)
        rw [cmpK_self] at h
        omega
      go_quiet_grown (first | (go_at_call 31; refine Calls.grown_of (compare31 _ _ _ _ _)) | (go_at_call 9; refine Calls.grown_of (awake9 _)) | (go_at_call 12; refine Calls.grown_of (given12 _ _ _)) | (go_at_call 32; refine Calls.grown_of (ref32 _ _ _ _ _ hs ht)))
      by_cases p : y > 0
      · go_wp2
        go_ret
        exact ⟨rfl, G2.out.grow _ _⟩
      · have q : z ≤ 0 := by
          have := HT.out
          omega
        go_wp2
        go_ret
        exact ⟨rfl, G2.out.grow _ _⟩
    · skip
      go_quiet_grown (first | (go_at_call 31; refine Calls.grown_of (compare31 _ _ _ _ _)) | (go_at_call 9; refine Calls.grown_of (awake9 _)) | (go_at_call 12; refine Calls.grown_of (given12 _ _ _)) | (go_at_call 32; refine Calls.grown_of (ref32 _ _ _ _ _ hs ht)))
      by_cases p : y > 0
      · go_wp2
        go_ret
        exact ⟨rfl, G2.out.grow _ _⟩
      · have q : z ≤ 0 := by
          have := HT.out
          omega
        go_wp2
        go_ret
        exact ⟨rfl, G2.out.grow _ _⟩
  · obtain rfl : x = 0 := by rw [← HX.out]; exact h
    obtain ⟨rfl, rfl⟩ := HZ.out h
    go_quiet_grown (first | (go_at_call 31; refine Calls.grown_of (compare31 _ _ _ _ _)) | (go_at_call 9; refine Calls.grown_of (awake9 _)) | (go_at_call 12; refine Calls.grown_of (given12 _ _ _)) | (go_at_call 32; refine Calls.grown_of (ref32 _ _ _ _ _ hs ht)))
    by_cases p : y > 0
    · go_wp2
      go_ret
      exact ⟨rfl, G2.out.grow _ _⟩
    · have q : z ≤ 0 := by
        have := HT.out
        omega
      go_wp2
      go_ret
      exact ⟨rfl, G2.out.grow _ _⟩
  · obtain rfl : x = 1 := by rw [← HX.out]; exact h
    by_cases hab : a = b
    · subst hab
      have hst : ¬ s.toList = t.toList := fun e => by
        rw [ByteArray.toList_eq, ByteArray.toList_eq] at e
        obtain rfl : s = t := ByteArray.ext (Array.toList_inj.1 e)
        rw [cmpK_self] at h
        omega
      go_quiet_grown (first | (go_at_call 31; refine Calls.grown_of (compare31 _ _ _ _ _)) | (go_at_call 9; refine Calls.grown_of (awake9 _)) | (go_at_call 12; refine Calls.grown_of (given12 _ _ _)) | (go_at_call 32; refine Calls.grown_of (ref32 _ _ _ _ _ hs ht)))
      go_wp2
      go_ret
      exact ⟨rfl, G2.out.grow _ _⟩
    · skip
      go_quiet_grown (first | (go_at_call 31; refine Calls.grown_of (compare31 _ _ _ _ _)) | (go_at_call 9; refine Calls.grown_of (awake9 _)) | (go_at_call 12; refine Calls.grown_of (given12 _ _ _)) | (go_at_call 32; refine Calls.grown_of (ref32 _ _ _ _ _ hs ht)))
      go_wp2
      go_ret
      exact ⟨rfl, G2.out.grow _ _⟩
end Go.Proofs.YtbaljfkjgfkdiaaDoor
