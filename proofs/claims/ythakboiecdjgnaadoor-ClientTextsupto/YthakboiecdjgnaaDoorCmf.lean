/- The contract of a client's Fill where the slot is pending for that caller; the condition is that it is. -/
import Derived.Test.YthakboiecdjgnaaDoorCmt
namespace Go.Proofs.YthakboiecdjgnaaDoor.Ci
open Go.RowKit Go.Maps Go.ChangeMaps
set_option linter.unusedVariables false
set_option linter.unusedSimpArgs false
section
variable {w w' : World} {b : Nat} {pv lv : Value} {S : Cs}
set_option maxRecDepth 20000 in
set_option maxHeartbeats 1000000 in
theorem fill_ok (h : Cq w b pv lv S) (i : Nat) (c : Int) (g : Gz) (hi : i < 16) (hc : ¬ c < 1) (hf : (S.sl i).ca = c) : Calls Tryd.prog 27 #[.pointer (some ⟨b, 0, none⟩), .int .i64 (i : Nat), .int .i64 c, .agg #[.int .i64 g.pl, .int .i64 g.ho, .int .i64 g.va, .int .i64 g.kd, .int .i64 g.cd, .int .i64 g.rn, .int .i64 g.tm]] w fun e w' => e = .returned (.bool true) ∧ Touch [b] w w' ∧ Cq w' b pv lv (setSl S i ⟨0, true, g⟩) := by
  have HI : Hid (∀ w', Calls Tryd.prog 43 #[.int .i64 (i : Nat)] w' fun e w'' => e = .returned (.bool true) ∧ w'' = w') := fun w' => (isSlot_ i w').mono fun e w'' ⟨he, t⟩ => ⟨by rw [he, decide_eq_true (by omega)], t⟩
  have hz : (i : Int) < 16 := by omega
  have hb := h.lt
  have p0 := (h.cells9 hi).1
  rw [hf] at p0
  have H := hid h
  have Hi := hid hi
  clear hi h hf
  obtain ⟨g0', g1, g2, g3, g4, g5, g6⟩ := g
  dsimp only
  go_enter Tryd.func27, Tryd.ntmps27
  go_wp2_with fail
  refine (HI.out _).mono ?_
  rintro e w1 ⟨rfl, e1⟩
  rw [e1]
  clear e1 w1
  go_upto_region 3 with fail
  clear p0
  obtain ⟨V, hV⟩ : ∃ V, V = w.alloc (.cells #[.int .i64 g0', .int .i64 g1, .int .i64 g2, .int .i64 g3, .int .i64 g4, .int .i64 g5, .int .i64 g6] 60) := ⟨_, rfl⟩
  rw [← hV]
  have TV := hid (show Touch [] w V by rw [hV]; exact (Touch.refl [] w).alloc _)
  have BV := hid (show V.heap[w.heap.size]? = some (.cells #[.int .i64 g0', .int .i64 g1, .int .i64 g2, .int .i64 g3, .int .i64 g4, .int .i64 g5, .int .i64 g6] 60 (0, 0)) by rw [hV]; exact heap_alloc_new w _)
  clear hV
  obtain ⟨B, hB⟩ : ∃ B, B = w.heap.size := ⟨_, rfl⟩
  rw [← hB] at BV ⊢
  clear hB
  have T0 := hid (TV.out.drew)
  have S0 : V.drew.heap[B]? = some (.cells #[.int .i64 g0', .int .i64 g1, .int .i64 g2, .int .i64 g3, .int .i64 g4, .int .i64 g5, .int .i64 g6] 60 (0, 0)) := BV.out
  refine wp_region_H (S := fun w' => w'.heap[B]? = some (.cells #[.int .i64 g0', .int .i64 g1, .int .i64 g2, .int .i64 g3, .int .i64 g4, .int .i64 g5, .int .i64 g6] 60 (0, 0))) (by kernel_rfl) ?_
  generalize V.drew = W0 at *
  have Q0 := hid (H.out.touch T0.out)
  have hbB : b ≠ B := fun e => by
    obtain ⟨cs, h1, _⟩ := Q0.out.blk
    rw [e, S0] at h1
    simp at h1
  have HBB := hid hbB
  clear hbB
  obtain ⟨p0, p1, p2, p3, p4, p5, p6, p7, p8⟩ := Q0.out.cells9 Hi.out
  have f := Q0.out.fz
  have F0 : ∀ w' : World, w'.heap[B]? = some (.cells #[.int .i64 g0', .int .i64 g1, .int .i64 g2, .int .i64 g3, .int .i64 g4, .int .i64 g5, .int .i64 g6] 60 (0, 0)) → w'.cell? ⟨B, 0, none⟩ = some (.int .i64 g0') := fun w' h => cell_at h rfl
  have F1 : ∀ w' : World, w'.heap[B]? = some (.cells #[.int .i64 g0', .int .i64 g1, .int .i64 g2, .int .i64 g3, .int .i64 g4, .int .i64 g5, .int .i64 g6] 60 (0, 0)) → w'.cell? ⟨B, 1, none⟩ = some (.int .i64 g1) := fun w' h => cell_at h rfl
  have F2 : ∀ w' : World, w'.heap[B]? = some (.cells #[.int .i64 g0', .int .i64 g1, .int .i64 g2, .int .i64 g3, .int .i64 g4, .int .i64 g5, .int .i64 g6] 60 (0, 0)) → w'.cell? ⟨B, 2, none⟩ = some (.int .i64 g2) := fun w' h => cell_at h rfl
  have F3 : ∀ w' : World, w'.heap[B]? = some (.cells #[.int .i64 g0', .int .i64 g1, .int .i64 g2, .int .i64 g3, .int .i64 g4, .int .i64 g5, .int .i64 g6] 60 (0, 0)) → w'.cell? ⟨B, 3, none⟩ = some (.int .i64 g3) := fun w' h => cell_at h rfl
  have F4 : ∀ w' : World, w'.heap[B]? = some (.cells #[.int .i64 g0', .int .i64 g1, .int .i64 g2, .int .i64 g3, .int .i64 g4, .int .i64 g5, .int .i64 g6] 60 (0, 0)) → w'.cell? ⟨B, 4, none⟩ = some (.int .i64 g4) := fun w' h => cell_at h rfl
  have F5 : ∀ w' : World, w'.heap[B]? = some (.cells #[.int .i64 g0', .int .i64 g1, .int .i64 g2, .int .i64 g3, .int .i64 g4, .int .i64 g5, .int .i64 g6] 60 (0, 0)) → w'.cell? ⟨B, 5, none⟩ = some (.int .i64 g5) := fun w' h => cell_at h rfl
  have F6 : ∀ w' : World, w'.heap[B]? = some (.cells #[.int .i64 g0', .int .i64 g1, .int .i64 g2, .int .i64 g3, .int .i64 g4, .int .i64 g5, .int .i64 g6] 60 (0, 0)) → w'.cell? ⟨B, 6, none⟩ = some (.int .i64 g6) := fun w' h => cell_at h rfl
  refine wpH_take (i := 0) (v := (.pointer (some ⟨b, 0, none⟩))) (some 31) rfl rfl (by kernel_rfl) (by kernel_rfl) (by kernel_rfl) (fun _ _ _ h => h) (Or.inl ⟨by rfl, fun w' hS => (by go_simp)⟩) S0 ?_
  try simp only [Go.Act.put, List.setIfInBounds_toArray, List.set_cons_zero, List.set_cons_succ]
  refine wpH_take (i := 1) (v := (.int .i64 (i : Nat))) (some 32) rfl rfl (by kernel_rfl) (by kernel_rfl) (by kernel_rfl) (fun _ _ _ h => h) (Or.inl ⟨by rfl, fun w' hS => (by go_simp)⟩) S0 ?_
  try simp only [Go.Act.put, List.setIfInBounds_toArray, List.set_cons_zero, List.set_cons_succ]
  refine wpH_take (i := 2) (v := (.agg #[.int .i64 g0', .int .i64 g1, .int .i64 g2, .int .i64 g3, .int .i64 g4, .int .i64 g5, .int .i64 g6])) (some 33) rfl rfl (by kernel_rfl) (by kernel_rfl) (by kernel_rfl) (fun _ _ _ h => h) (Or.inl ⟨by rfl, fun w' hS => (by have z0 := F0 _ hS; have z1 := F1 _ hS; have z2 := F2 _ hS; have z3 := F3 _ hS; have z4 := F4 _ hS; have z5 := F5 _ hS; have z6 := F6 _ hS; go_simp)⟩) S0 ?_
  try simp only [Go.Act.put, List.setIfInBounds_toArray, List.set_cons_zero, List.set_cons_succ]
  refine wpH_take (i := 3) (v := (.agg #[.int .i64 0, .bool true, .int .i64 g0', .int .i64 g1, .int .i64 g2, .int .i64 g3, .int .i64 g4, .int .i64 g5, .int .i64 g6])) (some 34) rfl rfl (by kernel_rfl) (by kernel_rfl) (by kernel_rfl) (fun _ _ _ h => h) (Or.inl ⟨by rfl, fun w' hS => (by go_simp)⟩) S0 ?_
  try simp only [Go.Act.put, List.setIfInBounds_toArray, List.set_cons_zero, List.set_cons_succ]
  refine wpH_take (i := 4) (v := (.pointer (some ⟨b, 0, none⟩))) (some 35) rfl rfl (by kernel_rfl) (by kernel_rfl) (by kernel_rfl) (fun _ _ _ h => h) (Or.inl ⟨by rfl, fun w' hS => (by go_simp)⟩) S0 ?_
  try simp only [Go.Act.put, List.setIfInBounds_toArray, List.set_cons_zero, List.set_cons_succ]
  refine wpH_take (i := 5) (v := (.pointer (some ⟨b, 4, none⟩))) (some 36) rfl rfl (by kernel_rfl) (by kernel_rfl) (by kernel_rfl) (fun _ _ _ h => h) (Or.inl ⟨by rfl, fun w' hS => (by go_simp)⟩) S0 ?_
  try simp only [Go.Act.put, List.setIfInBounds_toArray, List.set_cons_zero, List.set_cons_succ]
  refine wpH_take (i := 6) (v := (.pointer (some ⟨b, 4 + i * 9, none⟩))) (some 37) rfl rfl (by kernel_rfl) (by kernel_rfl) (by kernel_rfl) (fun _ _ _ h => h) (Or.inl ⟨by rfl, fun w' hS => (by go_simp)⟩) S0 ?_
  try simp only [Go.Act.put, List.setIfInBounds_toArray, List.set_cons_zero, List.set_cons_succ]
  refine wpH_call (i := 7) (o := { dst := none, op := Op.store 112 (Operand.tmp 37) (Operand.tmp 34), type := 0, pos := _, after := #[{ on := 6, ground := Ground.data }, { on := 3, ground := Ground.data }, { on := 0, ground := Ground.phase }, { on := 1, ground := Ground.phase }, { on := 2, ground := Ground.phase }, { on := 3, ground := Ground.phase }], guard := none }) (by kernel_rfl) rfl (fun K' hK => ?_)
  rw [if_pos (by rfl)]
  go_simp
  have T1 := Touch9 (b := b) (T0.out.mono (G := [b]) (fun _ e => by cases e)) (by simp) (4 + i * 9) (.int .i64 0) (.bool true) (.int .i64 g0') (.int .i64 g1) (.int .i64 g2) (.int .i64 g3) (.int .i64 g4) (.int .i64 g5) (.int .i64 g6)
  have Q1 := Q0.out.setSlot Hi.out ⟨0, true, ⟨g0', g1, g2, g3, g4, g5, g6⟩⟩ (.int .i64 0) (.bool true) (.int .i64 g0') (.int .i64 g1) (.int .i64 g2) (.int .i64 g3) (.int .i64 g4) (.int .i64 g5) (.int .i64 g6) rfl
  have S1 := ((Touch9 (b := b) (Touch.refl [b] W0) (by simp) (4 + i * 9) (.int .i64 0) (.bool true) (.int .i64 g0') (.int .i64 g1) (.int .i64 g2) (.int .i64 g3) (.int .i64 g4) (.int .i64 g5) (.int .i64 g6)).keep S0 (by simpa using (Ne.symm HBB.out)))
  refine hK.out _ _ S1 ?_
  clear hK
  try simp only [Go.Act.put, List.setIfInBounds_toArray, List.set_cons_zero, List.set_cons_succ]
  refine wpAnyH_done (by kernel_rfl) ?_ _
  go_wp2_with fail
  go_ret
  exact ⟨rfl, T1, Q1⟩
end
end Go.Proofs.YthakboiecdjgnaaDoor.Ci
