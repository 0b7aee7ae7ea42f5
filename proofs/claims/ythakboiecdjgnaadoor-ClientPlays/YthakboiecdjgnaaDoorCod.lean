/- The law's one: Put, into a slot; no conditions but those that it states. -/
import Derived.Test.YthakboiecdjgnaaDoorCoc
namespace Go.Proofs.YthakboiecdjgnaaDoor.Ci
open Go.RowKit Go.Maps Go.ChangeMaps
set_option linter.unusedVariables false
set_option linter.unusedSimpArgs false
section
variable {B b : Nat} {w w' : World} {pv lv pv2 lv2 : Value} {cs : Array Value} {S : Cs} {T : Ls}
set_option maxHeartbeats 4000000 in
set_option maxRecDepth 20000 in
theorem one_put_ok (h : Iv B w b pv lv cs pv2 lv2 S T) (i : Nat) (a2 : Int) (g : Gz) (hi : i < 16) (ha : 1 ≤ a2) : Calls Tryd.prog 18 #[.pointer (some ⟨b, 0, none⟩), .agg cs, actv 3 (i : Nat) a2 g] w fun e w' => OnE e w w' B b lv S := by
  have HI := hid h
  have hb := h.q.lt
  have HW := hid (fun w q e => want_ w q e)
  obtain ⟨ap, cp, e2⟩ := own_form h.p2
  subst e2
  have hone : Hid (lv2.oneCell' = true) := hid (by obtain ⟨a, c, e⟩ := own_form h.g2; rw [e]; rfl)
  have HK := hid (And.intro hi ha)
  have k1 : (i : Int) < 16 := by omega
  have HST := hid (h.s.st i hi)
  have HCA : Hid ((cs.setIfInBounds (4 + i) (.int .i64 2))[20 + i]? = some (.int .i64 (T.ca i))) := hid ((h.s.setSt hi 2).ca i hi)
  have HN1 : Hid (((cs.setIfInBounds (4 + i) (.int .i64 2)).setIfInBounds (20 + i) (.int .i64 a2)).size = 148) := hid (by simpa using h.s.n)
  have HO1 : Hid (((cs.setIfInBounds (4 + i) (.int .i64 2)).setIfInBounds (20 + i) (.int .i64 a2)).all (·.oneCell') = true) := hid (((h.s.setSt hi 2).setCa hi a2).one rfl hone.out)
  clear h
  obtain ⟨g0', g1, g2, g3, g4, g5, g6⟩ := g
  unfold actv
  dsimp only
  obtain ⟨V, hV⟩ : ∃ V, V = ((w.alloc (.cells cs 63)).alloc (.cells #[.int .i64 3, .int .i64 (i : Nat), .int .i64 a2, .int .i64 g0', .int .i64 g1, .int .i64 g2, .int .i64 g3, .int .i64 g4, .int .i64 g5, .int .i64 g6] 67)).alloc (.cells Tryd.zeroCells63 63) := ⟨_, rfl⟩
  have TV : Hid (Touch [] w V) := hid (by rw [hV]; exact (((Touch.refl _ _).alloc _).alloc _).alloc _)
  have B4 : Hid (V.heap[w.heap.size]? = some (.cells cs 63 (0, 0))) := hid (by rw [hV]; exact (((Touch.refl [] _).alloc _).alloc _).keep (heap_alloc_new w _) (by simp))
  have B5 : Hid (V.heap[w.heap.size + 1]? = some (.cells #[.int .i64 3, .int .i64 (i : Nat), .int .i64 a2, .int .i64 g0', .int .i64 g1, .int .i64 g2, .int .i64 g3, .int .i64 g4, .int .i64 g5, .int .i64 g6] 67 (0, 0))) := hid (by
    rw [hV]
    have := heap_alloc_new (w.alloc (.cells cs 63)) (.cells #[.int .i64 3, .int .i64 (i : Nat), .int .i64 a2, .int .i64 g0', .int .i64 g1, .int .i64 g2, .int .i64 g3, .int .i64 g4, .int .i64 g5, .int .i64 g6] 67)
    rw [World.size_alloc] at this
    exact ((Touch.refl [] _).alloc _).keep this (by simp))
  have B7 : Hid (V.heap[w.heap.size + 2]? = some (.cells Tryd.zeroCells63 63 (0, 0))) := hid (by
    rw [hV]
    have := heap_alloc_new ((w.alloc (.cells cs 63)).alloc (.cells #[.int .i64 3, .int .i64 (i : Nat), .int .i64 a2, .int .i64 g0', .int .i64 g1, .int .i64 g2, .int .i64 g3, .int .i64 g4, .int .i64 g5, .int .i64 g6] 67)) (.cells Tryd.zeroCells63 63)
    rwa [World.size_alloc, World.size_alloc] at this)
  go_enter Tryd.func18, Tryd.ntmps18
  go_upto_region 1 with fail
  rw [← hV]
  clear hV
  have v0 := cell_at (j := 0) B5.out rfl
  have v1 := cell_at (j := 1) B5.out rfl
  have v2 := cell_at (j := 2) B5.out rfl
  go_upto_region 24 with (go_at_call 41; refine (HW.out _ _ _).mono ?_; rintro e w1 ⟨rfl, e1⟩; rw [e1]; clear e1 w1; simp only [if_true, if_false, Bool.false_eq_true, reduceIte])
  clear v0 v1 v2
  have TU0 : Touch [w.heap.size] V V.drew := (Touch.refl _ V).drew
  have R0 : V.drew.heap[w.heap.size + 1]? = some (.cells #[.int .i64 3, .int .i64 (i : Nat), .int .i64 a2, .int .i64 g0', .int .i64 g1, .int .i64 g2, .int .i64 g3, .int .i64 g4, .int .i64 g5, .int .i64 g6] 67 (0, 0)) := B5.out
  have B40 : Hid (V.drew.heap[w.heap.size]? = some (.cells cs 63 (0, 0))) := B4
  refine wp_region_H (S := fun w' => w'.heap[w.heap.size + 1]? = some (.cells #[.int .i64 3, .int .i64 (i : Nat), .int .i64 a2, .int .i64 g0', .int .i64 g1, .int .i64 g2, .int .i64 g3, .int .i64 g4, .int .i64 g5, .int .i64 g6] 67 (0, 0))) (by kernel_rfl) ?_
  generalize V.drew = U0 at *
  have TU := hid TU0
  clear TU0
  have y1 := cell_at B40.out HST.out
  have yf := froz_at B40.out
  have E1 : ∀ w' : World, w'.heap[w.heap.size + 1]? = some (.cells #[.int .i64 3, .int .i64 (i : Nat), .int .i64 a2, .int .i64 g0', .int .i64 g1, .int .i64 g2, .int .i64 g3, .int .i64 g4, .int .i64 g5, .int .i64 g6] 67 (0, 0)) → w'.cell? ⟨w.heap.size + 1, 1, none⟩ = some (.int .i64 (i : Nat)) := fun w' h => cell_at h rfl
  have E2 : ∀ w' : World, w'.heap[w.heap.size + 1]? = some (.cells #[.int .i64 3, .int .i64 (i : Nat), .int .i64 a2, .int .i64 g0', .int .i64 g1, .int .i64 g2, .int .i64 g3, .int .i64 g4, .int .i64 g5, .int .i64 g6] 67 (0, 0)) → w'.cell? ⟨w.heap.size + 1, 2, none⟩ = some (.int .i64 a2) := fun w' h => cell_at h rfl
  refine wpH_take (i := 0) (v := (.pointer (some ⟨w.heap.size + 1, 1, none⟩))) (some 110) rfl rfl (by kernel_rfl) (by kernel_rfl) (by kernel_rfl) (fun _ _ _ h => h) (Or.inl ⟨by rfl, fun w' hS => (by go_simp)⟩) R0 ?_
  try simp only [Go.Act.put, List.setIfInBounds_toArray, List.set_cons_zero, List.set_cons_succ]
  refine wpH_take (i := 1) (v := (.int .i64 (i : Nat))) (some 111) rfl rfl (by kernel_rfl) (by kernel_rfl) (by kernel_rfl) (fun _ _ _ h => h) (Or.inl ⟨by rfl, fun w' hS => (by have z0 := E1 _ hS; go_simp)⟩) R0 ?_
  try simp only [Go.Act.put, List.setIfInBounds_toArray, List.set_cons_zero, List.set_cons_succ]
  refine wpH_take (i := 2) (v := (.pointer (some ⟨w.heap.size + 1, 1, none⟩))) (some 112) rfl rfl (by kernel_rfl) (by kernel_rfl) (by kernel_rfl) (fun _ _ _ h => h) (Or.inl ⟨by rfl, fun w' hS => (by go_simp)⟩) R0 ?_
  try simp only [Go.Act.put, List.setIfInBounds_toArray, List.set_cons_zero, List.set_cons_succ]
  refine wpH_take (i := 3) (v := (.int .i64 (i : Nat))) (some 113) rfl rfl (by kernel_rfl) (by kernel_rfl) (by kernel_rfl) (fun _ _ _ h => h) (Or.inl ⟨by rfl, fun w' hS => (by have z0 := E1 _ hS; go_simp)⟩) R0 ?_
  try simp only [Go.Act.put, List.setIfInBounds_toArray, List.set_cons_zero, List.set_cons_succ]
  refine wpH_take (i := 4) (v := (.pointer (some ⟨w.heap.size + 1, 2, none⟩))) (some 114) rfl rfl (by kernel_rfl) (by kernel_rfl) (by kernel_rfl) (fun _ _ _ h => h) (Or.inl ⟨by rfl, fun w' hS => (by go_simp)⟩) R0 ?_
  try simp only [Go.Act.put, List.setIfInBounds_toArray, List.set_cons_zero, List.set_cons_succ]
  refine wpH_take (i := 5) (v := (.int .i64 a2)) (some 115) rfl rfl (by kernel_rfl) (by kernel_rfl) (by kernel_rfl) (fun _ _ _ h => h) (Or.inl ⟨by rfl, fun w' hS => (by have z0 := E2 _ hS; go_simp)⟩) R0 ?_
  try simp only [Go.Act.put, List.setIfInBounds_toArray, List.set_cons_zero, List.set_cons_succ]
  refine wpH_take (i := 6) (v := (.pointer (some ⟨w.heap.size, 4, none⟩))) (some 116) rfl rfl (by kernel_rfl) (by kernel_rfl) (by kernel_rfl) (fun _ _ _ h => h) (Or.inl ⟨by rfl, fun w' hS => (by go_simp)⟩) R0 ?_
  try simp only [Go.Act.put, List.setIfInBounds_toArray, List.set_cons_zero, List.set_cons_succ]
  refine wpH_take (i := 7) (v := (.pointer (some ⟨w.heap.size, 4 + i, none⟩))) (some 117) rfl rfl (by kernel_rfl) (by kernel_rfl) (by kernel_rfl) (fun _ _ _ h => h) (Or.inl ⟨by rfl, fun w' hS => (by go_simp)⟩) R0 ?_
  try simp only [Go.Act.put, List.setIfInBounds_toArray, List.set_cons_zero, List.set_cons_succ]
  refine wpH_take (i := 9) (v := (.pointer (some ⟨w.heap.size, 20, none⟩))) (some 118) rfl rfl (by kernel_rfl) (by kernel_rfl) (by kernel_rfl) (fun _ _ _ h => h) (Or.inl ⟨by rfl, fun w' hS => (by go_simp)⟩) R0 ?_
  try simp only [Go.Act.put, List.setIfInBounds_toArray, List.set_cons_zero, List.set_cons_succ]
  refine wpH_call (i := 8) (o := { dst := none, op := Op.store 3 (Operand.tmp 117) (Operand.const (Value.int IntKind.i64 2)), type := 0, pos := _, after := #[{ on := 7, ground := Ground.data }, { on := 0, ground := Ground.phase }, { on := 1, ground := Ground.phase }, { on := 2, ground := Ground.textOnly Departure.lateStores }, { on := 3, ground := Ground.textOnly Departure.lateStores }, { on := 4, ground := Ground.textOnly Departure.lateStores }, { on := 5, ground := Ground.textOnly Departure.lateStores }], guard := none }) (by kernel_rfl) rfl (fun K' hK => ?_)
  rw [if_pos (by rfl)]
  go_simp
  have S1 := ((Touch.refl [w.heap.size] U0).setCell (p := ⟨w.heap.size, 4 + i, none⟩) (Or.inl (by simp)) (.int .i64 2)).keep R0 (by simp)
  refine hK.out _ _ S1 ?_
  clear hK
  try simp only [Go.Act.put, List.setIfInBounds_toArray, List.set_cons_zero, List.set_cons_succ]
  obtain ⟨U1, hU1⟩ : ∃ U1, U1 = U0.setCell ⟨w.heap.size, 4 + i, none⟩ (.int .i64 2) := ⟨_, rfl⟩
  rw [← hU1] at S1 ⊢
  have b41 := hid (show U1.heap[w.heap.size]? = some (.cells (cs.setIfInBounds (4 + i) (.int .i64 2)) 63 (0, 0)) by rw [hU1]; exact bset B40.out _)
  have t01 : Hid (Touch [w.heap.size] U0 U1) := hid (by rw [hU1]; exact (Touch.refl _ _).setCell (Or.inl (by simp)) _)
  clear hU1 y1 yf
  have y2 := cell_at b41.out HCA.out
  have yf := froz_at b41.out
  refine wpH_take (i := 10) (v := (.pointer (some ⟨w.heap.size, 20 + i, none⟩))) (some 119) rfl rfl (by kernel_rfl) (by kernel_rfl) (by kernel_rfl) (fun _ _ _ h => h) (Or.inl ⟨by rfl, fun w' hS => (by go_simp)⟩) S1 ?_
  try simp only [Go.Act.put, List.setIfInBounds_toArray, List.set_cons_zero, List.set_cons_succ]
  refine wpH_call (i := 11) (o := { dst := none, op := Op.store 3 (Operand.tmp 119) (Operand.tmp 115), type := 0, pos := _, after := #[{ on := 10, ground := Ground.data }, { on := 5, ground := Ground.data }, { on := 8, ground := Ground.chain }, { on := 0, ground := Ground.phase }, { on := 1, ground := Ground.phase }, { on := 2, ground := Ground.phase }, { on := 3, ground := Ground.phase }, { on := 4, ground := Ground.phase }, { on := 5, ground := Ground.phase }, { on := 6, ground := Ground.phase }, { on := 7, ground := Ground.phase }, { on := 8, ground := Ground.phase }], guard := none }) (by kernel_rfl) rfl (fun K' hK => ?_)
  rw [if_pos (by rfl)]
  go_simp
  have S2 := ((Touch.refl [w.heap.size] U1).setCell (p := ⟨w.heap.size, 20 + i, none⟩) (Or.inl (by simp)) (.int .i64 a2)).keep S1 (by simp)
  refine hK.out _ _ S2 ?_
  clear hK
  try simp only [Go.Act.put, List.setIfInBounds_toArray, List.set_cons_zero, List.set_cons_succ]
  obtain ⟨U2, hU2⟩ : ∃ U2, U2 = U1.setCell ⟨w.heap.size, 20 + i, none⟩ (.int .i64 a2) := ⟨_, rfl⟩
  rw [← hU2] at S2 ⊢
  have b42 := hid (show U2.heap[w.heap.size]? = some (.cells ((cs.setIfInBounds (4 + i) (.int .i64 2)).setIfInBounds (20 + i) (.int .i64 a2)) 63 (0, 0)) by rw [hU2]; exact bset b41.out _)
  have t02 : Hid (Touch [w.heap.size] U0 U2) := hid (t01.out.trans' (by rw [hU2]; exact (Touch.refl _ _).setCell (Or.inl (by simp)) _))
  clear hU2 y2 yf b41 t01 S1
  refine wpAnyH_done (by kernel_rfl) ?_ _
  go_upto_region 25 with fail
  obtain ⟨W0, hW0⟩ : ∃ W0, W0 = U2.drew := ⟨_, rfl⟩
  have tb : Touch [w.heap.size] V W0 := by rw [hW0]; exact (TU.out.trans' t02.out).drew
  have S0 : (fun (w' : World) => w'.heap[w.heap.size]? = some (.cells ((cs.setIfInBounds (4 + i) (.int .i64 2)).setIfInBounds (20 + i) (.int .i64 a2)) 63 (0, 0)) ∧ w'.heap[w.heap.size + 1]? = some (.cells #[.int .i64 3, .int .i64 (i : Nat), .int .i64 a2, .int .i64 g0', .int .i64 g1, .int .i64 g2, .int .i64 g3, .int .i64 g4, .int .i64 g5, .int .i64 g6] 67 (0, 0))) W0 := And.intro (by rw [hW0]; exact b42.out) (tb.keep B5.out (by simp))
  dsimp only at S0
  have FI := (HI.out.touch TV.out).box B4.out tb
  have HU := hid (put_ok FI.q i a2 HK.out.1 (by have := HK.out.2; omega))
  have HFI : Hid (∀ w5, Cq w5 b pv lv (setSl S i ⟨a2, false, g0⟩) → Touch [b] W0 w5 → Iv B w5 b pv lv ((cs.setIfInBounds (4 + i) (.int .i64 2)).setIfInBounds (20 + i) (.int .i64 a2)) (.slice ap T.L.length cp) lv2 (setSl S i ⟨a2, false, g0⟩) { T with st := fun j => if j = i then 2 else T.st j, ca := fun j => if j = i then a2 else T.ca j }) := hid (fun w5 q t => FI.step q t ((FI.s.setSt HK.out.1 2).setCa HK.out.1 a2) (FI.r.put i a2 HK.out.2) rfl rfl)
  clear S2 b42 t02
  have TW : Hid (Touch (b :: lv.ownBlock.toList) w W0) := hid ((TV.out.mono (fun _ e => by cases e)).trans tb (fun k hk => Or.inr (by simp at hk; omega)))
  have B7' := hid (tb.keep B7.out (by simp))
  have F1 : ∀ w' : World, (w'.heap[w.heap.size]? = some (.cells ((cs.setIfInBounds (4 + i) (.int .i64 2)).setIfInBounds (20 + i) (.int .i64 a2)) 63 (0, 0)) ∧ w'.heap[w.heap.size + 1]? = some (.cells #[.int .i64 3, .int .i64 (i : Nat), .int .i64 a2, .int .i64 g0', .int .i64 g1, .int .i64 g2, .int .i64 g3, .int .i64 g4, .int .i64 g5, .int .i64 g6] 67 (0, 0))) → w'.cell? ⟨w.heap.size + 1, 1, none⟩ = some (.int .i64 (i : Nat)) := fun w' h => cell_at h.2 rfl
  have F2 : ∀ w' : World, (w'.heap[w.heap.size]? = some (.cells ((cs.setIfInBounds (4 + i) (.int .i64 2)).setIfInBounds (20 + i) (.int .i64 a2)) 63 (0, 0)) ∧ w'.heap[w.heap.size + 1]? = some (.cells #[.int .i64 3, .int .i64 (i : Nat), .int .i64 a2, .int .i64 g0', .int .i64 g1, .int .i64 g2, .int .i64 g3, .int .i64 g4, .int .i64 g5, .int .i64 g6] 67 (0, 0))) → w'.cell? ⟨w.heap.size + 1, 2, none⟩ = some (.int .i64 a2) := fun w' h => cell_at h.2 rfl
  refine wp_region_H (S := fun (w' : World) => w'.heap[w.heap.size]? = some (.cells ((cs.setIfInBounds (4 + i) (.int .i64 2)).setIfInBounds (20 + i) (.int .i64 a2)) 63 (0, 0)) ∧ w'.heap[w.heap.size + 1]? = some (.cells #[.int .i64 3, .int .i64 (i : Nat), .int .i64 a2, .int .i64 g0', .int .i64 g1, .int .i64 g2, .int .i64 g3, .int .i64 g4, .int .i64 g5, .int .i64 g6] 67 (0, 0))) (by kernel_rfl) ?_
  rw [← hW0]
  clear hW0 tb
  refine wpH_take (i := 0) (v := (.pointer (some ⟨b, 0, none⟩))) (some 120) rfl rfl (by kernel_rfl) (by kernel_rfl) (by kernel_rfl) (fun _ _ _ h => h) (Or.inl ⟨by rfl, fun w' hS => (by go_simp)⟩) S0 ?_
  try simp only [Go.Act.put, List.setIfInBounds_toArray, List.set_cons_zero, List.set_cons_succ]
  refine wpH_take (i := 1) (v := (.agg ((cs.setIfInBounds (4 + i) (.int .i64 2)).setIfInBounds (20 + i) (.int .i64 a2)))) (some 121) rfl rfl (by kernel_rfl) (by kernel_rfl) (by kernel_rfl) (fun _ _ _ h => h) (Or.inl ⟨by rfl, fun w' hS => exec_loadT bigS _ rfl rfl hS.1 HN1.out⟩) S0 ?_
  try simp only [Go.Act.put, List.setIfInBounds_toArray, List.set_cons_zero, List.set_cons_succ]
  refine wpH_take (i := 2) (v := (.pointer (some ⟨b, 0, none⟩))) (some 122) rfl rfl (by kernel_rfl) (by kernel_rfl) (by kernel_rfl) (fun _ _ _ h => h) (Or.inl ⟨by rfl, fun w' hS => (by go_simp)⟩) S0 ?_
  try simp only [Go.Act.put, List.setIfInBounds_toArray, List.set_cons_zero, List.set_cons_succ]
  refine wpH_take (i := 3) (v := (.pointer (some ⟨w.heap.size + 1, 1, none⟩))) (some 123) rfl rfl (by kernel_rfl) (by kernel_rfl) (by kernel_rfl) (fun _ _ _ h => h) (Or.inl ⟨by rfl, fun w' hS => (by go_simp)⟩) S0 ?_
  try simp only [Go.Act.put, List.setIfInBounds_toArray, List.set_cons_zero, List.set_cons_succ]
  refine wpH_take (i := 4) (v := (.int .i64 (i : Nat))) (some 124) rfl rfl (by kernel_rfl) (by kernel_rfl) (by kernel_rfl) (fun _ _ _ h => h) (Or.inl ⟨by rfl, fun w' hS => (by have z0 := F1 _ hS; go_simp)⟩) S0 ?_
  try simp only [Go.Act.put, List.setIfInBounds_toArray, List.set_cons_zero, List.set_cons_succ]
  refine wpH_take (i := 5) (v := (.pointer (some ⟨w.heap.size + 1, 2, none⟩))) (some 125) rfl rfl (by kernel_rfl) (by kernel_rfl) (by kernel_rfl) (fun _ _ _ h => h) (Or.inl ⟨by rfl, fun w' hS => (by go_simp)⟩) S0 ?_
  try simp only [Go.Act.put, List.setIfInBounds_toArray, List.set_cons_zero, List.set_cons_succ]
  refine wpH_take (i := 6) (v := (.int .i64 a2)) (some 126) rfl rfl (by kernel_rfl) (by kernel_rfl) (by kernel_rfl) (fun _ _ _ h => h) (Or.inl ⟨by rfl, fun w' hS => (by have z0 := F2 _ hS; go_simp)⟩) S0 ?_
  try simp only [Go.Act.put, List.setIfInBounds_toArray, List.set_cons_zero, List.set_cons_succ]
  refine wpH_take (i := 8) (v := (.int .i64 0)) (some 128) rfl rfl (by kernel_rfl) (by kernel_rfl) (by kernel_rfl) (fun _ _ _ h => h) (Or.inl ⟨by rfl, fun w' hS => (by go_simp)⟩) S0 ?_
  try simp only [Go.Act.put, List.setIfInBounds_toArray, List.set_cons_zero, List.set_cons_succ]
  refine wpH_call (i := 7) (o := { dst := some 127, op := Op.call { callee := Callee.value (Operand.func 26), args := #[Operand.tmp 122, Operand.tmp 124, Operand.tmp 126], argTypes := #[50, 3, 3] }, type := 23, pos := _, after := #[{ on := 2, ground := Ground.data }, { on := 4, ground := Ground.data }, { on := 6, ground := Ground.data }], guard := none }) (by kernel_rfl) rfl (fun K' hK => ?_)
  rw [if_pos (by rfl)]
  go_simp
  refine HU.out.mono ?_
  rintro e w5 ⟨rfl, t5, q5⟩
  have S5 := And.intro (t5.keep S0.1 (by simp; omega)) (t5.keep S0.2 (by simp; omega))
  have B75 := hid (t5.keep B7'.out (by simp; omega))
  have F5 := hid (HFI.out _ q5 t5)
  have T5 := hid (TW.out.trans t5 (fun k hk => Or.inl (by simp at hk; simp [hk])))
  clear t5 q5
  refine hK.out _ _ S5 ?_
  clear hK
  try simp only [Go.Act.put, List.setIfInBounds_toArray, List.set_cons_zero, List.set_cons_succ]
  refine wpH_take (i := 9) (v := (.bool true)) (some 129) rfl rfl (by kernel_rfl) (by kernel_rfl) (by kernel_rfl) (fun _ _ _ h => h) (Or.inl ⟨by rfl, fun w' hS => (by go_simp)⟩) S5 ?_
  try simp only [Go.Act.put, List.setIfInBounds_toArray, List.set_cons_zero, List.set_cons_succ]
  refine wpH_take (i := 10) (v := (.pointer (some ⟨b, 0, none⟩))) (some 6) rfl rfl (by kernel_rfl) (by kernel_rfl) (by kernel_rfl) (fun _ _ _ h => h) (Or.inl ⟨by rfl, fun w' hS => (by go_simp)⟩) S5 ?_
  try simp only [Go.Act.put, List.setIfInBounds_toArray, List.set_cons_zero, List.set_cons_succ]
  refine wpH_call (i := 11) (o := { dst := none, op := Op.store 63 (Operand.tmp 7) (Operand.tmp 121), type := 0, pos := _, after := #[{ on := 1, ground := Ground.data }, { on := 10, ground := Ground.chain }, { on := 0, ground := Ground.phase }, { on := 1, ground := Ground.phase }, { on := 2, ground := Ground.textOnly Departure.lateStores }, { on := 3, ground := Ground.textOnly Departure.lateStores }, { on := 4, ground := Ground.textOnly Departure.lateStores }, { on := 5, ground := Ground.textOnly Departure.lateStores }, { on := 6, ground := Ground.textOnly Departure.lateStores }, { on := 7, ground := Ground.textOnly Departure.lateStoresUnsure }, { on := 8, ground := Ground.textOnly Departure.lateStores }, { on := 9, ground := Ground.textOnly Departure.lateStores }, { on := 10, ground := Ground.phase }], guard := none }) (by kernel_rfl) rfl (fun K' hK => ?_)
  rw [if_pos (by rfl)]
  refine wp_storeT bigS (Operand.tmp 7) (Operand.tmp 121) rfl (w.heap.size + 2) _ ((cs.setIfInBounds (4 + i) (.int .i64 2)).setIfInBounds (20 + i) (.int .i64 a2)) 63 rfl rfl B75.out zs_size HN1.out HO1.out (fun w7 h7 t7 s7 => ?_)
  have S7 := And.intro (t7.keep S5.1 (by simp)) (t7.keep S5.2 (by simp))
  refine hK.out _ _ S7 ?_
  clear hK
  try simp only [Go.Act.put, List.setIfInBounds_toArray, List.set_cons_zero, List.set_cons_succ]
  refine wpH_take (i := 12) (v := (.bool true)) (some 8) rfl rfl (by kernel_rfl) (by kernel_rfl) (by kernel_rfl) (fun _ _ _ h => h) (Or.inl ⟨by rfl, fun w' hS => (by go_simp)⟩) S7 ?_
  try simp only [Go.Act.put, List.setIfInBounds_toArray, List.set_cons_zero, List.set_cons_succ]
  refine wpAnyH_done (by kernel_rfl) ?_ _
  go_wp2_with fail
  refine bodyPost_ret (results_one rfl _ _ rfl h7 HN1.out) rfl ?_
  exact ⟨b, pv, lv, _, _, lv2, _, _, rfl, F5.out.box B75.out t7, Nat.le_succ _, rfl, T5.out.trans t7 (fun k hk => Or.inr (by simp at hk; omega))⟩
end
end Go.Proofs.YthakboiecdjgnaaDoor.Ci
