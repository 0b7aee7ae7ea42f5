/- The contract of the law's says: a record says what it must. -/
import Derived.Test.YtaikleaiofpebaaRfa
import Derived.Test.YtaikleaiofpebaaHlh
namespace Go.Proofs.Ytaikleaiofpebaa
open Go.RowKit Go.Maps Go.ChangeMaps
set_option linter.unusedVariables false
set_option linter.unusedSimpArgs false
set_option maxHeartbeats 4000000 in
set_option maxRecDepth 100000 in
theorem says9 (w : World) (b N : Nat) (F : List Nat) (R : Rn) (S : St) (u : Value) (x : Int) (h : Rq w b F R S N) (hu : Rd w u S.who) (hN : N ≤ 3000000000000) (hx : W64 x) : Calls Try.prog 9 #[PT b, dv u S, .int .i64 x] w fun e w' => e = .returned (.bool true) ∧ Touch [] w w' := by
  obtain ⟨a, c, rfl, _, _⟩ := hu.form
  have hle : S.who.length ≤ 3000000000000 := Nat.le_trans h.wlen hN
  obtain ⟨V, hV⟩ : ∃ V, V = w.alloc (.cells (dc (.slice a S.who.length c) S) 39) := ⟨_, rfl⟩
  have TV : Hid (Touch [] w V) := by rw [hV]; exact (Touch.refl _ _).alloc _
  have HB0 : Hid (V.heap[w.heap.size]? = some (.cells (dc (.slice a S.who.length c) S) 39 (0, 0))) := by rw [hV]; exact heap_alloc_new w _
  have H18 := hid (waiters18 V b N F R S (h.keep0 TV.out) hN)
  unfold AlE at H18
  have H12 : Hid (∀ w', Touch [] V w' → Calls Try.prog 12 #[PT b] w' fun e w2 => e = .returned (.tuple #[ov S.out, .bool S.ended]) ∧ Touch [] w' w2) := fun w' T => outcome12 w' b N F R S (h.keep0 (TV.out.trans' T))
  have G15 : ∀ W w', Touch [] V W → Touch [] W w' → Calls Try.prog 15 #[PT b, .int .i64 x] w' fun e w2 => e = .returned (.bool (decide (x ∈ S.who))) ∧ w2 = w' := fun W w' T0 T => waits15 w' b N F R S (h.keep0 (TV.out.trans' (T0.trans' T))) x hx
  have G27 : ∀ W w', Touch [] V W → Touch [] W w' → Calls Try.prog 27 #[dv (.slice a S.who.length c) S, .int .i64 x] w' fun e w2 => e = .returned (.bool (decide (x ∈ S.who))) ∧ Touch [] W w2 := fun W w' T0 T => (rwaits27 w' _ S (hu.keep0 (TV.out.trans' (T0.trans' T))) hle x).mono (fun e w2 ⟨q1, q2⟩ => ⟨q1, T.trans' q2⟩)
  have G19 : ∀ W w', Touch [] V W → Touch [] W w' → Calls Try.prog 19 #[PT b] w' fun e w2 => e = .returned (.int .i64 (inter S)) ∧ w2 = w' := fun W w' T0 T => interest19 w' b N F R S (h.keep0 (TV.out.trans' (T0.trans' T))) hN
  have G28 : ∀ W w', Touch [] V W → Touch [] W w' → Calls Try.prog 28 #[dv (.slice a S.who.length c) S] w' fun e w2 => e = .returned (.int .i64 (inter S)) ∧ Touch [] W w2 := fun W w' T0 T => (rinter28 w' _ S (hu.keep0 (TV.out.trans' (T0.trans' T))) hle).mono (fun e w2 ⟨q1, q2⟩ => ⟨q1, T.trans' q2⟩)
  have G16 : ∀ W w', Touch [] V W → Touch [] W w' → Calls Try.prog 16 #[PT b] w' fun e w2 => e = .returned (.bool S.canc) ∧ w2 = w' := fun W w' T0 T => cancelled16 w' b N F R S (h.keep0 (TV.out.trans' (T0.trans' T)))
  have G17 : ∀ W w', Touch [] V W → Touch [] W w' → Calls Try.prog 17 #[PT b] w' fun e w2 => e = .returned (.bool S.ended) ∧ w2 = w' := fun W w' T0 T => ended17 w' b N F R S (h.keep0 (TV.out.trans' (T0.trans' T)))
  have G26 : ∀ W w', Touch [] W w' → Calls Try.prog 26 #[ov S.out] w' fun e w2 => e = .returned (ov S.out) ∧ Touch [] W w2 := fun W w' T => (outcome26 w' S.out).mono (fun e w2 ⟨q1, q2⟩ => ⟨q1, T.trans' q2⟩)
  have HRU : Hid (∀ w', Touch [] V w' → Rd w' (.slice a S.who.length c) S.who) := fun w' T => hu.keep0 (TV.out.trans' T)
  have HX : Hid (∀ i, i < S.who.length → ∃ y, S.who[i]? = some y) := fun i hi => ⟨_, List.getElem?_eq_getElem hi⟩
  have HLE := hid hle
  have G15' := hid G15
  have G27' := hid G27
  have G19' := hid G19
  have G28' := hid G28
  have G16' := hid G16
  have G17' := hid G17
  have G26' := hid G26
  clear h hu hle hN hx G15 G27 G19 G28 G16 G17 G26
  generalize decide (x ∈ S.who) = B at *
  generalize inter S = I at *
  have hV' := hV
  unfold dv dc
  unfold dc at hV'
  unfold PT ov at *
  go_enter Try.func9, Try.ntmps9
  go_upto_region 1 with fail
  rw [← hV']
  clear hV hV'
  go_upto_region 3 with (first
    | (go_at_call 18; refine H18.out.mono ?_; rintro e w2 ⟨g, cap, rfl, r2, t2⟩; have R2 := hid r2; have T2 := hid t2; clear r2 t2)
    | (go_at_call 12; refine (H12.out _ T2.out).mono ?_; rintro e w3 ⟨rfl, t3⟩; have T3 := hid t3; clear t3))
  obtain ⟨W4, hW4⟩ : ∃ W4, W4 = w3.alloc (.cells #[.int .i64 S.out.1, .int .i64 S.out.2.1, .int .i64 S.out.2.2.1, .int .i64 S.out.2.2.2] 44) := ⟨_, rfl⟩
  have T34 : Touch [] w3 W4 := by rw [hW4]; exact (Touch.refl _ _).alloc _
  have T4 : Hid (Touch [] V W4) := T2.out.trans' (T3.out.trans' T34)
  have HRW : Hid (∀ w', Touch [] W4 w' → ∀ i y, S.who[i]? = some y → w'.cell? ⟨g, i, none⟩ = some (.int .i64 y)) := fun w' T i y hy => own_cell (own_touch R2.out (T3.out.trans' (T34.trans' T)) (fun _ _ e => by cases e)) (by simp [ints, hy])
  have HRU2 : Hid (∀ w', Touch [] W4 w' → Rd w' (.slice a S.who.length c) S.who) := fun w' T => HRU.out w' (T4.out.trans' T)
  have HA : ∀ w', Touch [] W4 w' → Dcs w' w.heap.size (.slice a S.who.length c) S := fun w' T => dcs_at ((T4.out.trans' T).keep HB0.out (by simp))
  have HO : ∀ w', Touch [] W4 w' → w'.heap[w3.heap.size]? = some (.cells #[.int .i64 S.out.1, .int .i64 S.out.2.1, .int .i64 S.out.2.2.1, .int .i64 S.out.2.2.2] 44 (0, 0)) := fun w' T => T.keep (by rw [hW4]; exact heap_alloc_new w3 _) (by simp)
  have A0 := fun w' T => (HA w' T).c0
  have A1 := fun w' T => (HA w' T).c1
  have A2 := fun w' T => (HA w' T).c2
  have A3 := fun w' T => (HA w' T).c3
  have A4 := fun w' T => (HA w' T).c4
  have A5 := fun w' T => (HA w' T).c5
  have A6 := fun w' T => (HA w' T).c6
  have A7 := fun w' T => (HA w' T).c7
  have O0 := fun w' T => cell_at (j := 0) (v := .int .i64 S.out.1) (HO w' T) rfl
  have O1 := fun w' T => cell_at (j := 1) (v := .int .i64 S.out.2.1) (HO w' T) rfl
  have O2 := fun w' T => cell_at (j := 2) (v := .int .i64 S.out.2.2.1) (HO w' T) rfl
  have O3 := fun w' T => cell_at (j := 3) (v := .int .i64 S.out.2.2.2) (HO w' T) rfl
  have H15 := hid (fun w' (T : Touch [] W4 w') => G15'.out W4 w' T4.out T)
  have H27 := hid (fun w' (T : Touch [] W4 w') => G27'.out W4 w' T4.out T)
  have H19 := hid (fun w' (T : Touch [] W4 w') => G19'.out W4 w' T4.out T)
  have H28 := hid (fun w' (T : Touch [] W4 w') => G28'.out W4 w' T4.out T)
  have H16 := hid (fun w' (T : Touch [] W4 w') => G16'.out W4 w' T4.out T)
  have H17 := hid (fun w' (T : Touch [] W4 w') => G17'.out W4 w' T4.out T)
  have H26 := hid (fun w' (T : Touch [] W4 w') => G26'.out W4 w' T)
  have HFT : Hid (∀ w', Touch [] W4 w' → Touch [] w w') := fun w' T => TV.out.trans' (T4.out.trans' T)
  rw [← hW4]
  clear hW4 T34 HA HO R2 T2 T3 T4 HRU HB0 TV G15' G27' G19' G28' G16' G17' G26' H18 H12
  unfold dv dc at H27 H28
  have s0 : Touch [] W4 W4.drew := (Touch.refl _ _).drew
  refine wp_region_H (S := fun w' => Touch [] W4 w') (by kernel_rfl) ?_
  refine wpH_take (i := 0) (v := (.slice (some ⟨g, 0, none⟩) S.who.length cap)) (some 18) rfl rfl (by kernel_rfl) (by kernel_rfl) (by kernel_rfl) (fun _ _ _ h => h) (Or.inl ⟨by rfl, fun w' hS => (by go_simp)⟩) s0 ?_
  try simp only [Go.Act.put, List.setIfInBounds_toArray, List.set_cons_zero, List.set_cons_succ]
  refine wpH_take (i := 1) (v := (.int .i64 (S.who.length : Nat))) (some 19) rfl rfl (by kernel_rfl) (by kernel_rfl) (by kernel_rfl) (fun _ _ _ h => h) (Or.inl ⟨by rfl, fun w' hS => (by go_simp)⟩) s0 ?_
  try simp only [Go.Act.put, List.setIfInBounds_toArray, List.set_cons_zero, List.set_cons_succ]
  refine wpH_take (i := 2) (v := (.pointer (some ⟨w.heap.size, 0, none⟩))) (some 20) rfl rfl (by kernel_rfl) (by kernel_rfl) (by kernel_rfl) (fun _ _ _ h => h) (Or.inl ⟨by rfl, fun w' hS => (by go_simp)⟩) s0 ?_
  try simp only [Go.Act.put, List.setIfInBounds_toArray, List.set_cons_zero, List.set_cons_succ]
  refine wpH_take (i := 3) (v := (.slice a S.who.length c)) (some 21) rfl rfl (by kernel_rfl) (by kernel_rfl) (by kernel_rfl) (fun _ _ _ h => h) (Or.inl ⟨by rfl, fun w' hS => (by have z0 := A0 _ hS; go_simp)⟩) s0 ?_
  try simp only [Go.Act.put, List.setIfInBounds_toArray, List.set_cons_zero, List.set_cons_succ]
  refine wpH_take (i := 4) (v := (.int .i64 (S.who.length : Nat))) (some 22) rfl rfl (by kernel_rfl) (by kernel_rfl) (by kernel_rfl) (fun _ _ _ h => h) (Or.inl ⟨by rfl, fun w' hS => (by go_simp)⟩) s0 ?_
  try simp only [Go.Act.put, List.setIfInBounds_toArray, List.set_cons_zero, List.set_cons_succ]
  refine wpH_take (i := 5) (v := (.bool false)) (some 23) rfl rfl (by kernel_rfl) (by kernel_rfl) (by kernel_rfl) (fun _ _ _ h => h) (Or.inl ⟨by rfl, fun w' hS => (by go_simp)⟩) s0 ?_
  try simp only [Go.Act.put, List.setIfInBounds_toArray, List.set_cons_zero, List.set_cons_succ]
  refine wpH_take (i := 6) (v := (.bool false)) (some 24) rfl rfl (by kernel_rfl) (by kernel_rfl) (by kernel_rfl) (fun _ _ _ h => h) (Or.inl ⟨by rfl, fun w' hS => (by go_simp)⟩) s0 ?_
  try simp only [Go.Act.put, List.setIfInBounds_toArray, List.set_cons_zero, List.set_cons_succ]
  refine wpH_take (i := 7) (v := (.pointer (some ⟨b, 0, none⟩))) (some 25) rfl rfl (by kernel_rfl) (by kernel_rfl) (by kernel_rfl) (fun _ _ _ h => h) (Or.inl ⟨by rfl, fun w' hS => (by go_simp)⟩) s0 ?_
  try simp only [Go.Act.put, List.setIfInBounds_toArray, List.set_cons_zero, List.set_cons_succ]
  refine wpH_take (i := 8) (v := (.int .i64 x)) (some 26) rfl rfl (by kernel_rfl) (by kernel_rfl) (by kernel_rfl) (fun _ _ _ h => h) (Or.inl ⟨by rfl, fun w' hS => (by go_simp)⟩) s0 ?_
  try simp only [Go.Act.put, List.setIfInBounds_toArray, List.set_cons_zero, List.set_cons_succ]
  refine wpH_take (i := 10) (v := (.agg #[.slice a S.who.length c, .bool S.kept, .bool S.canc, .bool S.ended, .int .i64 S.out.1, .int .i64 S.out.2.1, .int .i64 S.out.2.2.1, .int .i64 S.out.2.2.2])) (some 28) rfl rfl (by kernel_rfl) (by kernel_rfl) (by kernel_rfl) (fun _ _ _ h => h) (Or.inl ⟨by rfl, fun w' hS => (by have z0 := A0 _ hS; have z1 := A1 _ hS; have z2 := A2 _ hS; have z3 := A3 _ hS; have z4 := A4 _ hS; have z5 := A5 _ hS; have z6 := A6 _ hS; have z7 := A7 _ hS; go_simp)⟩) s0 ?_
  try simp only [Go.Act.put, List.setIfInBounds_toArray, List.set_cons_zero, List.set_cons_succ]
  refine wpH_take (i := 11) (v := (.int .i64 x)) (some 29) rfl rfl (by kernel_rfl) (by kernel_rfl) (by kernel_rfl) (fun _ _ _ h => h) (Or.inl ⟨by rfl, fun w' hS => (by go_simp)⟩) s0 ?_
  try simp only [Go.Act.put, List.setIfInBounds_toArray, List.set_cons_zero, List.set_cons_succ]
  refine wpH_call (i := 9) (o := { dst := some 27, op := Op.call { callee := Callee.value (Operand.func 15), args := #[Operand.tmp 25, Operand.tmp 26], argTypes := #[28, 3] }, type := 4, pos := _, after := #[{ on := 7, ground := Ground.data }, { on := 8, ground := Ground.data }, { on := 6, ground := Ground.chain }, { on := 6, ground := Ground.guard }], guard := some (6, false) }) (by kernel_rfl) rfl (fun K' hK => ?_)
  rw [if_pos (by rfl)]
  go_simp
  refine (H15.out _ s0).mono ?_
  rintro e' w5 ⟨rfl, rfl⟩
  refine hK.out _ _ s0 ?_
  clear hK
  try simp only [Go.Act.put, List.setIfInBounds_toArray, List.set_cons_zero, List.set_cons_succ]
  refine wpH_call (i := 12) (o := { dst := some 30, op := Op.call { callee := Callee.value (Operand.func 27), args := #[Operand.tmp 28, Operand.tmp 29], argTypes := #[39, 3] }, type := 4, pos := _, after := #[{ on := 10, ground := Ground.data }, { on := 11, ground := Ground.data }, { on := 9, ground := Ground.chain }, { on := 6, ground := Ground.guard }], guard := some (6, false) }) (by kernel_rfl) rfl (fun K' hK => ?_)
  rw [if_pos (by rfl)]
  go_simp
  refine (H27.out _ s0).mono ?_
  rintro e' w6 ⟨rfl, s1⟩
  refine hK.out _ _ s1 ?_
  clear hK
  try simp only [Go.Act.put, List.setIfInBounds_toArray, List.set_cons_zero, List.set_cons_succ]
  refine wpH_take (i := 13) (v := (.bool false)) (some 31) rfl rfl (by kernel_rfl) (by kernel_rfl) (by kernel_rfl) (fun _ _ _ h => h) (Or.inl ⟨by rfl, fun w' hS => (by go_simp)⟩) s1 ?_
  try simp only [Go.Act.put, List.setIfInBounds_toArray, List.set_cons_zero, List.set_cons_succ]
  refine wpH_take (i := 14) (v := (.bool false)) (some 32) rfl rfl (by kernel_rfl) (by kernel_rfl) (by kernel_rfl) (fun _ _ _ h => h) (Or.inl ⟨by rfl, fun w' hS => (by go_simp)⟩) s1 ?_
  try simp only [Go.Act.put, List.setIfInBounds_toArray, List.set_cons_zero, List.set_cons_succ]
  refine wpH_take (i := 15) (v := (.bool false)) (some 33) rfl rfl (by kernel_rfl) (by kernel_rfl) (by kernel_rfl) (fun _ _ _ h => h) (Or.inl ⟨by rfl, fun w' hS => (by go_simp)⟩) s1 ?_
  try simp only [Go.Act.put, List.setIfInBounds_toArray, List.set_cons_zero, List.set_cons_succ]
  refine wpH_take (i := 16) (v := (.pointer (some ⟨b, 0, none⟩))) (some 34) rfl rfl (by kernel_rfl) (by kernel_rfl) (by kernel_rfl) (fun _ _ _ h => h) (Or.inl ⟨by rfl, fun w' hS => (by go_simp)⟩) s1 ?_
  try simp only [Go.Act.put, List.setIfInBounds_toArray, List.set_cons_zero, List.set_cons_succ]
  refine wpH_take (i := 18) (v := (.agg #[.slice a S.who.length c, .bool S.kept, .bool S.canc, .bool S.ended, .int .i64 S.out.1, .int .i64 S.out.2.1, .int .i64 S.out.2.2.1, .int .i64 S.out.2.2.2])) (some 36) rfl rfl (by kernel_rfl) (by kernel_rfl) (by kernel_rfl) (fun _ _ _ h => h) (Or.inl ⟨by rfl, fun w' hS => (by have z0 := A0 _ hS; have z1 := A1 _ hS; have z2 := A2 _ hS; have z3 := A3 _ hS; have z4 := A4 _ hS; have z5 := A5 _ hS; have z6 := A6 _ hS; have z7 := A7 _ hS; go_simp)⟩) s1 ?_
  try simp only [Go.Act.put, List.setIfInBounds_toArray, List.set_cons_zero, List.set_cons_succ]
  refine wpH_call (i := 17) (o := { dst := some 35, op := Op.call { callee := Callee.value (Operand.func 19), args := #[Operand.tmp 34], argTypes := #[28] }, type := 3, pos := _, after := #[{ on := 16, ground := Ground.data }, { on := 15, ground := Ground.chain }, { on := 15, ground := Ground.guard }], guard := some (15, false) }) (by kernel_rfl) rfl (fun K' hK => ?_)
  rw [if_pos (by rfl)]
  go_simp
  refine (H19.out _ s1).mono ?_
  rintro e' w7 ⟨rfl, rfl⟩
  refine hK.out _ _ s1 ?_
  clear hK
  try simp only [Go.Act.put, List.setIfInBounds_toArray, List.set_cons_zero, List.set_cons_succ]
  refine wpH_call (i := 19) (o := { dst := some 37, op := Op.call { callee := Callee.value (Operand.func 28), args := #[Operand.tmp 36], argTypes := #[39] }, type := 3, pos := _, after := #[{ on := 18, ground := Ground.data }, { on := 17, ground := Ground.chain }, { on := 15, ground := Ground.guard }], guard := some (15, false) }) (by kernel_rfl) rfl (fun K' hK => ?_)
  rw [if_pos (by rfl)]
  go_simp
  refine (H28.out _ s1).mono ?_
  rintro e' w8 ⟨rfl, s2⟩
  refine hK.out _ _ s2 ?_
  clear hK
  try simp only [Go.Act.put, List.setIfInBounds_toArray, List.set_cons_zero, List.set_cons_succ]
  refine wpH_take (i := 20) (v := (.bool false)) (some 38) rfl rfl (by kernel_rfl) (by kernel_rfl) (by kernel_rfl) (fun _ _ _ h => h) (Or.inl ⟨by rfl, fun w' hS => (by go_simp)⟩) s2 ?_
  try simp only [Go.Act.put, List.setIfInBounds_toArray, List.set_cons_zero, List.set_cons_succ]
  refine wpH_take (i := 21) (v := (.bool false)) (some 39) rfl rfl (by kernel_rfl) (by kernel_rfl) (by kernel_rfl) (fun _ _ _ h => h) (Or.inl ⟨by rfl, fun w' hS => (by go_simp)⟩) s2 ?_
  try simp only [Go.Act.put, List.setIfInBounds_toArray, List.set_cons_zero, List.set_cons_succ]
  refine wpH_take (i := 22) (v := (.bool false)) (some 40) rfl rfl (by kernel_rfl) (by kernel_rfl) (by kernel_rfl) (fun _ _ _ h => h) (Or.inl ⟨by rfl, fun w' hS => (by go_simp)⟩) s2 ?_
  try simp only [Go.Act.put, List.setIfInBounds_toArray, List.set_cons_zero, List.set_cons_succ]
  refine wpH_take (i := 23) (v := (.pointer (some ⟨b, 0, none⟩))) (some 41) rfl rfl (by kernel_rfl) (by kernel_rfl) (by kernel_rfl) (fun _ _ _ h => h) (Or.inl ⟨by rfl, fun w' hS => (by go_simp)⟩) s2 ?_
  try simp only [Go.Act.put, List.setIfInBounds_toArray, List.set_cons_zero, List.set_cons_succ]
  refine wpH_take (i := 25) (v := (.pointer (some ⟨w.heap.size, 2, none⟩))) (some 43) rfl rfl (by kernel_rfl) (by kernel_rfl) (by kernel_rfl) (fun _ _ _ h => h) (Or.inl ⟨by rfl, fun w' hS => (by go_simp)⟩) s2 ?_
  try simp only [Go.Act.put, List.setIfInBounds_toArray, List.set_cons_zero, List.set_cons_succ]
  refine wpH_take (i := 26) (v := (.bool S.canc)) (some 44) rfl rfl (by kernel_rfl) (by kernel_rfl) (by kernel_rfl) (fun _ _ _ h => h) (Or.inl ⟨by rfl, fun w' hS => (by have z0 := A2 _ hS; go_simp)⟩) s2 ?_
  try simp only [Go.Act.put, List.setIfInBounds_toArray, List.set_cons_zero, List.set_cons_succ]
  refine wpH_call (i := 24) (o := { dst := some 42, op := Op.call { callee := Callee.value (Operand.func 16), args := #[Operand.tmp 41], argTypes := #[28] }, type := 4, pos := _, after := #[{ on := 23, ground := Ground.data }, { on := 22, ground := Ground.chain }, { on := 22, ground := Ground.guard }], guard := some (22, false) }) (by kernel_rfl) rfl (fun K' hK => ?_)
  rw [if_pos (by rfl)]
  go_simp
  refine (H16.out _ s2).mono ?_
  rintro e' w9 ⟨rfl, rfl⟩
  refine hK.out _ _ s2 ?_
  clear hK
  try simp only [Go.Act.put, List.setIfInBounds_toArray, List.set_cons_zero, List.set_cons_succ]
  refine wpH_take (i := 27) (v := (.bool false)) (some 45) rfl rfl (by kernel_rfl) (by kernel_rfl) (by kernel_rfl) (fun _ _ _ h => h) (Or.inl ⟨by rfl, fun w' hS => (by go_simp)⟩) s2 ?_
  try simp only [Go.Act.put, List.setIfInBounds_toArray, List.set_cons_zero, List.set_cons_succ]
  refine wpH_take (i := 28) (v := (.bool false)) (some 46) rfl rfl (by kernel_rfl) (by kernel_rfl) (by kernel_rfl) (fun _ _ _ h => h) (Or.inl ⟨by rfl, fun w' hS => (by go_simp)⟩) s2 ?_
  try simp only [Go.Act.put, List.setIfInBounds_toArray, List.set_cons_zero, List.set_cons_succ]
  refine wpH_take (i := 29) (v := (.bool false)) (some 47) rfl rfl (by kernel_rfl) (by kernel_rfl) (by kernel_rfl) (fun _ _ _ h => h) (Or.inl ⟨by rfl, fun w' hS => (by go_simp)⟩) s2 ?_
  try simp only [Go.Act.put, List.setIfInBounds_toArray, List.set_cons_zero, List.set_cons_succ]
  refine wpH_take (i := 30) (v := (.pointer (some ⟨b, 0, none⟩))) (some 48) rfl rfl (by kernel_rfl) (by kernel_rfl) (by kernel_rfl) (fun _ _ _ h => h) (Or.inl ⟨by rfl, fun w' hS => (by go_simp)⟩) s2 ?_
  try simp only [Go.Act.put, List.setIfInBounds_toArray, List.set_cons_zero, List.set_cons_succ]
  refine wpH_take (i := 32) (v := (.pointer (some ⟨w.heap.size, 3, none⟩))) (some 50) rfl rfl (by kernel_rfl) (by kernel_rfl) (by kernel_rfl) (fun _ _ _ h => h) (Or.inl ⟨by rfl, fun w' hS => (by go_simp)⟩) s2 ?_
  try simp only [Go.Act.put, List.setIfInBounds_toArray, List.set_cons_zero, List.set_cons_succ]
  refine wpH_take (i := 33) (v := (.bool S.ended)) (some 51) rfl rfl (by kernel_rfl) (by kernel_rfl) (by kernel_rfl) (fun _ _ _ h => h) (Or.inl ⟨by rfl, fun w' hS => (by have z0 := A3 _ hS; go_simp)⟩) s2 ?_
  try simp only [Go.Act.put, List.setIfInBounds_toArray, List.set_cons_zero, List.set_cons_succ]
  refine wpH_call (i := 31) (o := { dst := some 49, op := Op.call { callee := Callee.value (Operand.func 17), args := #[Operand.tmp 48], argTypes := #[28] }, type := 4, pos := _, after := #[{ on := 30, ground := Ground.data }, { on := 29, ground := Ground.chain }, { on := 29, ground := Ground.guard }], guard := some (29, false) }) (by kernel_rfl) rfl (fun K' hK => ?_)
  rw [if_pos (by rfl)]
  go_simp
  refine (H17.out _ s2).mono ?_
  rintro e' w10 ⟨rfl, rfl⟩
  refine hK.out _ _ s2 ?_
  clear hK
  try simp only [Go.Act.put, List.setIfInBounds_toArray, List.set_cons_zero, List.set_cons_succ]
  refine wpH_take (i := 34) (v := (.bool false)) (some 52) rfl rfl (by kernel_rfl) (by kernel_rfl) (by kernel_rfl) (fun _ _ _ h => h) (Or.inl ⟨by rfl, fun w' hS => (by go_simp)⟩) s2 ?_
  try simp only [Go.Act.put, List.setIfInBounds_toArray, List.set_cons_zero, List.set_cons_succ]
  refine wpH_take (i := 35) (v := (.bool false)) (some 53) rfl rfl (by kernel_rfl) (by kernel_rfl) (by kernel_rfl) (fun _ _ _ h => h) (Or.inl ⟨by rfl, fun w' hS => (by go_simp)⟩) s2 ?_
  try simp only [Go.Act.put, List.setIfInBounds_toArray, List.set_cons_zero, List.set_cons_succ]
  refine wpH_take (i := 36) (v := (.bool false)) (some 54) rfl rfl (by kernel_rfl) (by kernel_rfl) (by kernel_rfl) (fun _ _ _ h => h) (Or.inl ⟨by rfl, fun w' hS => (by go_simp)⟩) s2 ?_
  try simp only [Go.Act.put, List.setIfInBounds_toArray, List.set_cons_zero, List.set_cons_succ]
  refine wpH_take (i := 37) (v := (.bool S.ended)) (some 55) rfl rfl (by kernel_rfl) (by kernel_rfl) (by kernel_rfl) (fun _ _ _ h => h) (Or.inl ⟨by rfl, fun w' hS => (by go_simp)⟩) s2 ?_
  try simp only [Go.Act.put, List.setIfInBounds_toArray, List.set_cons_zero, List.set_cons_succ]
  refine wpH_take (i := 38) (v := (.pointer (some ⟨w.heap.size, 3, none⟩))) (some 56) rfl rfl (by kernel_rfl) (by kernel_rfl) (by kernel_rfl) (fun _ _ _ h => h) (Or.inl ⟨by rfl, fun w' hS => (by go_simp)⟩) s2 ?_
  try simp only [Go.Act.put, List.setIfInBounds_toArray, List.set_cons_zero, List.set_cons_succ]
  refine wpH_take (i := 39) (v := (.bool S.ended)) (some 57) rfl rfl (by kernel_rfl) (by kernel_rfl) (by kernel_rfl) (fun _ _ _ h => h) (Or.inl ⟨by rfl, fun w' hS => (by have z0 := A3 _ hS; go_simp)⟩) s2 ?_
  try simp only [Go.Act.put, List.setIfInBounds_toArray, List.set_cons_zero, List.set_cons_succ]
  refine wpH_take (i := 40) (v := (.bool false)) (some 58) rfl rfl (by kernel_rfl) (by kernel_rfl) (by kernel_rfl) (fun _ _ _ h => h) (Or.inl ⟨by rfl, fun w' hS => (by go_simp)⟩) s2 ?_
  try simp only [Go.Act.put, List.setIfInBounds_toArray, List.set_cons_zero, List.set_cons_succ]
  refine wpH_take (i := 41) (v := (.bool false)) (some 59) rfl rfl (by kernel_rfl) (by kernel_rfl) (by kernel_rfl) (fun _ _ _ h => h) (Or.inl ⟨by rfl, fun w' hS => (by go_simp)⟩) s2 ?_
  try simp only [Go.Act.put, List.setIfInBounds_toArray, List.set_cons_zero, List.set_cons_succ]
  refine wpH_take (i := 42) (v := (.bool false)) (some 60) rfl rfl (by kernel_rfl) (by kernel_rfl) (by kernel_rfl) (fun _ _ _ h => h) (Or.inl ⟨by rfl, fun w' hS => (by go_simp)⟩) s2 ?_
  try simp only [Go.Act.put, List.setIfInBounds_toArray, List.set_cons_zero, List.set_cons_succ]
  refine wpH_take (i := 43) (v := (.agg #[.int .i64 S.out.1, .int .i64 S.out.2.1, .int .i64 S.out.2.2.1, .int .i64 S.out.2.2.2])) (some 61) rfl rfl (by kernel_rfl) (by kernel_rfl) (by kernel_rfl) (fun _ _ _ h => h) (Or.inl ⟨by rfl, fun w' hS => (by have z0 := O0 _ hS; have z1 := O1 _ hS; have z2 := O2 _ hS; have z3 := O3 _ hS; go_simp)⟩) s2 ?_
  try simp only [Go.Act.put, List.setIfInBounds_toArray, List.set_cons_zero, List.set_cons_succ]
  refine wpH_take (i := 45) (v := (.pointer (some ⟨w.heap.size, 4, none⟩))) (some 63) rfl rfl (by kernel_rfl) (by kernel_rfl) (by kernel_rfl) (fun _ _ _ h => h) (Or.inl ⟨by rfl, fun w' hS => (by go_simp)⟩) s2 ?_
  try simp only [Go.Act.put, List.setIfInBounds_toArray, List.set_cons_zero, List.set_cons_succ]
  refine wpH_take (i := 46) (v := (.agg #[.int .i64 S.out.1, .int .i64 S.out.2.1, .int .i64 S.out.2.2.1, .int .i64 S.out.2.2.2])) (some 64) rfl rfl (by kernel_rfl) (by kernel_rfl) (by kernel_rfl) (fun _ _ _ h => h) (Or.inl ⟨by rfl, fun w' hS => (by have z0 := A4 _ hS; have z1 := A5 _ hS; have z2 := A6 _ hS; have z3 := A7 _ hS; go_simp)⟩) s2 ?_
  try simp only [Go.Act.put, List.setIfInBounds_toArray, List.set_cons_zero, List.set_cons_succ]
  refine wpH_call (i := 44) (o := { dst := some 62, op := Op.call { callee := Callee.value (Operand.func 26), args := #[Operand.tmp 61], argTypes := #[44] }, type := 37, pos := _, after := #[{ on := 43, ground := Ground.data }, { on := 42, ground := Ground.chain }, { on := 42, ground := Ground.guard }], guard := some (42, false) }) (by kernel_rfl) rfl (fun K' hK => ?_)
  rw [if_pos (by rfl)]
  go_simp
  refine (H26.out _ s2).mono ?_
  rintro e' w11 ⟨rfl, s3⟩
  refine hK.out _ _ s3 ?_
  clear hK
  try simp only [Go.Act.put, List.setIfInBounds_toArray, List.set_cons_zero, List.set_cons_succ]
  refine wpH_take (i := 47) (v := (.bool false)) (some 65) rfl rfl (by kernel_rfl) (by kernel_rfl) (by kernel_rfl) (fun _ _ _ h => h) (Or.inl ⟨by rfl, fun w' hS => (by go_simp)⟩) s3 ?_
  try simp only [Go.Act.put, List.setIfInBounds_toArray, List.set_cons_zero, List.set_cons_succ]
  refine wpH_take (i := 48) (v := (.bool false)) (some 66) rfl rfl (by kernel_rfl) (by kernel_rfl) (by kernel_rfl) (fun _ _ _ h => h) (Or.inl ⟨by rfl, fun w' hS => (by go_simp)⟩) s3 ?_
  try simp only [Go.Act.put, List.setIfInBounds_toArray, List.set_cons_zero, List.set_cons_succ]
  refine wpAnyH_done (by kernel_rfl) ?_ _
  clear O0 O1 O2 O3 A1 A2 A3 A4 A5 A6 A7 s0 s1 s2
  have S3 := hid s3
  clear s3
  clear H15 H27 H19 H28 H16 H17 H26
  go_upto_region 6 with fail
  go_loopw [10] (fun i wr => ∃ j : Nat, i = .int .i64 (j : Nat) ∧ j ≤ S.who.length ∧ Hid (Touch [] W4 wr)) (fun i _ => S.who.length - (intOf i).toNat)
  case atStart => exact ⟨0, rfl, Nat.zero_le _, S3⟩
  case round =>
    clear S3
    obtain ⟨j, rfl, hj, HT⟩ := hrel
    by_cases hlt : j < S.who.length
    · have zk : (j : Int) < (S.who.length : Int) := by omega
      have zL : (S.who.length : Int) < 9223372036854775807 := by have := HLE.out; omega
      obtain ⟨y, hy⟩ := HX.out j hlt
      obtain ⟨gu, rfl, _⟩ := (HRU2.out wr HT.out).at rfl hy
      have CG : ∀ w', Touch [] W4 w' → w'.cell? ⟨g, j, none⟩ = some (.int .i64 y) := fun w' T => HRW.out w' T j y hy
      have CU : ∀ w', Touch [] W4 w' → w'.cell? ⟨gu, j, none⟩ = some (.int .i64 y) := fun w' T => by
        obtain ⟨g2, e2, q⟩ := (HRU2.out w' T).at rfl hy
        cases e2
        exact q
      have C0 := A0
      clear hy
      go_upto_region 8 with fail
      have r0 : Touch [] W4 wr.drew := HT.out.drew
      refine wp_region_H (S := fun w' => Touch [] W4 w') (by kernel_rfl) ?_
      refine wpH_take (i := 0) (v := (.slice (some ⟨g, 0, none⟩) S.who.length cap)) (some 73) rfl rfl (by kernel_rfl) (by kernel_rfl) (by kernel_rfl) (fun _ _ _ h => h) (Or.inl ⟨by rfl, fun w' hS => (by go_simp)⟩) r0 ?_
      try simp only [Go.Act.put, List.setIfInBounds_toArray, List.set_cons_zero, List.set_cons_succ]
      refine wpH_take (i := 1) (v := (.int .i64 (j : Nat))) (some 74) rfl rfl (by kernel_rfl) (by kernel_rfl) (by kernel_rfl) (fun _ _ _ h => h) (Or.inl ⟨by rfl, fun w' hS => (by go_simp)⟩) r0 ?_
      try simp only [Go.Act.put, List.setIfInBounds_toArray, List.set_cons_zero, List.set_cons_succ]
      refine wpH_take (i := 2) (v := (.pointer (some ⟨g, j, none⟩))) (some 75) rfl rfl (by kernel_rfl) (by kernel_rfl) (by kernel_rfl) (fun _ _ _ h => h) (Or.inl ⟨by rfl, fun w' hS => (by go_simp)⟩) r0 ?_
      try simp only [Go.Act.put, List.setIfInBounds_toArray, List.set_cons_zero, List.set_cons_succ]
      refine wpH_take (i := 3) (v := (.int .i64 y)) (some 76) rfl rfl (by kernel_rfl) (by kernel_rfl) (by kernel_rfl) (fun _ _ _ h => h) (Or.inl ⟨by rfl, fun w' hS => (by have z0 := CG _ hS; go_simp)⟩) r0 ?_
      try simp only [Go.Act.put, List.setIfInBounds_toArray, List.set_cons_zero, List.set_cons_succ]
      refine wpH_take (i := 4) (v := (.pointer (some ⟨w.heap.size, 0, none⟩))) (some 77) rfl rfl (by kernel_rfl) (by kernel_rfl) (by kernel_rfl) (fun _ _ _ h => h) (Or.inl ⟨by rfl, fun w' hS => (by go_simp)⟩) r0 ?_
      try simp only [Go.Act.put, List.setIfInBounds_toArray, List.set_cons_zero, List.set_cons_succ]
      refine wpH_take (i := 5) (v := (.slice (some ⟨gu, 0, none⟩) S.who.length c)) (some 78) rfl rfl (by kernel_rfl) (by kernel_rfl) (by kernel_rfl) (fun _ _ _ h => h) (Or.inl ⟨by rfl, fun w' hS => (by have z0 := C0 _ hS; go_simp)⟩) r0 ?_
      try simp only [Go.Act.put, List.setIfInBounds_toArray, List.set_cons_zero, List.set_cons_succ]
      refine wpH_take (i := 6) (v := (.int .i64 (j : Nat))) (some 79) rfl rfl (by kernel_rfl) (by kernel_rfl) (by kernel_rfl) (fun _ _ _ h => h) (Or.inl ⟨by rfl, fun w' hS => (by go_simp)⟩) r0 ?_
      try simp only [Go.Act.put, List.setIfInBounds_toArray, List.set_cons_zero, List.set_cons_succ]
      refine wpH_take (i := 7) (v := (.pointer (some ⟨gu, j, none⟩))) (some 80) rfl rfl (by kernel_rfl) (by kernel_rfl) (by kernel_rfl) (fun _ _ _ h => h) (Or.inl ⟨by rfl, fun w' hS => (by go_simp)⟩) r0 ?_
      try simp only [Go.Act.put, List.setIfInBounds_toArray, List.set_cons_zero, List.set_cons_succ]
      refine wpH_take (i := 8) (v := (.int .i64 y)) (some 81) rfl rfl (by kernel_rfl) (by kernel_rfl) (by kernel_rfl) (fun _ _ _ h => h) (Or.inl ⟨by rfl, fun w' hS => (by have z0 := CU _ hS; go_simp)⟩) r0 ?_
      try simp only [Go.Act.put, List.setIfInBounds_toArray, List.set_cons_zero, List.set_cons_succ]
      refine wpH_take (i := 9) (v := (.bool false)) (some 82) rfl rfl (by kernel_rfl) (by kernel_rfl) (by kernel_rfl) (fun _ _ _ h => h) (Or.inl ⟨by rfl, fun w' hS => (by go_simp)⟩) r0 ?_
      try simp only [Go.Act.put, List.setIfInBounds_toArray, List.set_cons_zero, List.set_cons_succ]
      refine wpAnyH_done (by kernel_rfl) ?_ _
      have HT2 := hid r0
      clear CG CU C0 r0
      go_wp2
      go_roundw
      case rel => exact ⟨j + 1, by go_num, by omega, HT2⟩
      case measure => simp [intOf]; omega
    · have e' : j = S.who.length := by omega
      subst e'
      clear hlt hj A0 HRU2 HRW HX
      go_wp2
      go_ret
      exact ⟨rfl, HFT.out _ HT.out⟩
end Go.Proofs.Ytaikleaiofpebaa
