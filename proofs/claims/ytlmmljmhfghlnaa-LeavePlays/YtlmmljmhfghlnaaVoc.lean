/- The law's one act: a run ends, a token is cancelled; no conditions but those that each states. -/
import Derived.Test.YtlmmljmhfghlnaaVoa
import Derived.Test.YtlmmljmhfghlnaaHlh
import Derived.Test.YtlmmljmhfghlnaaAlh
namespace Go.Proofs.Ytlmmljmhfghlnaa
open Go.RowKit Go.Maps Go.ChangeMaps
set_option linter.unusedVariables false
set_option linter.unusedSimpArgs false
section
variable (w : World) (s : Nat) (F : List Nat) (L : List Se) (G : List Int) (u v : Value) (x : ActV) (N : Nat)
set_option maxHeartbeats 8000000 in
set_option maxRecDepth 100000 in
theorem one_end (h : Sq w s F L G N) (hd : Dd w u v L G) (hN : N ≤ 4400000000000) (ha : x.ok) (hk : x.kd = 2) : Calls Try.prog 7 #[PT s, .agg #[u, v], .agg x.cs] w fun e w' => OnE e w w' F (outL 1 x.st.rn L) (G) N := by
  obtain ⟨a, cu, a', cv, rfl, rfl⟩ := hd.fm
  obtain ⟨V, hV⟩ : ∃ V, V = ((w.alloc (.cells #[.slice a L.length cu, .slice a' G.length cv] 29)).alloc (.cells x.cs 35)).alloc (.cells z2 29) := ⟨_, rfl⟩
  obtain ⟨tv, hz, hb0, hb1, hb2⟩ := boxA w (.slice a L.length cu) (.slice a' G.length cv) x V hV
  have hF : ∀ q, q ∈ F → q < w.heap.size := h.lt
  have HBX : Hid (∀ w', Touch F V w' → Bx w w' (.slice a L.length cu) (.slice a' G.length cv) x) := hid (fun w' T => bx_of hF hb0 hb1 hb2 T)
  have hll : L.length ≤ N := h.iv.ll
  have hlg : G.length ≤ N := h.iv.lg
  have hs1 := h.keep0 tv
  have hown := hs1.own
  have hd1 := hd.keep0 tv
  have HP : Hid (Calls Try.prog 23 #[PT s, .int .i64 x.st.rn] V fun e w2 => ∃ a2 n2 c2, e = .returned (.slice a2 n2 c2) ∧ Touch F V w2 ∧ Calls Try.prog 27 #[.agg #[.slice a L.length cu, .slice a' G.length cv], .int .i64 1, .int .i64 x.st.rn] w2 fun e w3 => ∃ a3 n3 c3 a6 n6 c6 b3 m3 e3, e = .returned (.tuple #[.agg #[.slice a3 n3 c3, .slice a6 n6 c6], .slice b3 m3 e3]) ∧ Touch F V w3 ∧ ∀ W4, Touch [] w3 W4 → (∀ W', Touch [w.heap.size + 2] W4 W' → Calls Try.prog 17 #[.slice a2 n2 c2, .slice b3 m3 e3] W' fun e w5 => e = .returned (.bool true) ∧ Touch [] W' w5) ∧ ∀ W5, Touch [w.heap.size + 2] W4 W5 → OnE (.returned (.tuple #[PT s, .agg #[.slice a3 n3 c3, .slice a6 n6 c6], .bool true])) w W5 F (outL 1 x.st.rn L) (G) N) := hid (by
    refine (end_ hs1 ha.2.2.1 (by omega)).mono ?_
    rintro e w2 ⟨a2, c2, rfl, r2, F2, q1, q2, q3⟩
    refine ⟨a2, _, c2, rfl, q2, ?_⟩
    refine (rout_ w2 _ _ L G (hd1.other q2 hown) 1 (by omega) x.st.rn (by omega)).mono ?_
    rintro e w3 ⟨a3, n3, c3, b3, m3, e3, rfl, r4, r5, r6⟩
    have t3 : Touch F V w3 := q2.trans r6 (fun _ e => by cases e)
    refine ⟨a3, n3, c3, _, _, _, b3, m3, e3, rfl, t3, fun W4 t4 => ⟨fun W' t' => ?_, fun W5 t5 => ⟨s, _, _, _, _, _, _, rfl, on_fin hF tv (by omega) hz (HBX.out W4 (t3.trans t4 (fun _ e => by cases e))).bx (q1.mono (Nat.le_succ N)) q2 q3 r4 r6 t4 t5⟩⟩⟩
    have hbx := (HBX.out W4 (t3.trans t4 (fun _ e => by cases e))).bx
    exact lseats_ W' _ _ (inL 1 x.st.rn L) (((Rs.of_own r2).keep0 (r6.trans' t4)).box hbx (by decide) t') ((r5.keep0 t4).box hbx (by decide) t') (by have := List.length_filter_le (fun x_1 => decide (bn 1 x_1 = x.st.rn)) L; unfold inL; omega))
  obtain ⟨b0, b1, i0, i1, i2, i3, d0, d1, gg, bx⟩ := HBX.out V (Touch.refl _ _)
  have j0 : (x.kd == 0) = false := by simp [hk]
  have j1 : (x.kd == 1) = false := by simp [hk]
  have j2 : (x.kd == 2) = true := by simp [hk]
  clear h hd tv hz hb0 hb1 hb2 hF hll hlg hs1 hown hd1 bx ha hk hN
  unfold ActV.cs z2 at hV
  unfold ActV.cs
  generalize L.length = ln at *
  generalize G.length = gn at *
  unfold PT at HP
  try unfold sv at HP
  unfold PT
  go_enter Try.func7, Try.ntmps7
  go_upto_region 1 with fail
  rw [← hV]
  clear hV
  go_upto_region 13 with (go_at_call 23; refine HP.out.mono ?_; rintro e w2 ⟨a2, n2, c2, rfl, t2, q2⟩; clear b0 b1 i0 i1 i2 i3 d0 d1 gg; obtain ⟨b0, b1, i0, i1, i2, i3, d0, d1, gg, bx⟩ := HBX.out _ t2; have Q2 := hid q2; clear t2 q2 bx)
  go_upto_region 14 with (go_at_call 27; refine Q2.out.mono ?_; rintro e w3 ⟨a3, n3, c3, a6, n6, c6, b3, m3, e3, rfl, t3, q3⟩; have Q3 := hid q3; have T3 := hid t3; clear t3 q3 b0 b1 i0 i1 i2 i3 d0 d1 gg)
  obtain ⟨W4, hW4⟩ : ∃ W4, W4 = w3.alloc (.cells #[.slice a3 n3 c3, .slice a6 n6 c6] 29) := ⟨_, rfl⟩
  have t4 : Touch [] w3 W4 := by rw [hW4]; exact (Touch.refl _ _).alloc _
  have hb4 : W4.heap[w3.heap.size]? = some (.cells #[.slice a3 n3 c3, .slice a6 n6 c6] 29 (0, 0)) := by rw [hW4]; exact heap_alloc_new w3 _
  rw [← hW4]
  clear hW4
  have hbb := (HBX.out W4 (T3.out.trans t4 (fun _ e => by cases e))).bx
  have HDD : Hid (∀ w', Touch [] W4 w' → w'.cell? ⟨w.heap.size + 2, 0, none⟩ = some (.slice none 0 0) ∧ w'.cell? ⟨w.heap.size + 2, 1, none⟩ = some (.slice none 0 0) ∧ ∀ j, w'.frozen? ⟨w.heap.size + 2, j, none⟩ = false) := hid (fun w' t => ⟨cell_at (t.keep hbb (by simp)) rfl, cell_at (t.keep hbb (by simp)) rfl, froz_at (t.keep hbb (by simp))⟩)
  obtain ⟨hcl, hfin⟩ := Q3.out W4 t4
  have HCL := hid hcl
  have HY := hid hfin
  have HSZ : Hid (w3.heap.size ≠ w.heap.size + 2) := hid (fun e => by
    have := T3.out.size
    have := block_lt (HBX.out V (Touch.refl _ _)).bx
    omega)
  have g0 : ∀ w', Touch [w.heap.size + 2] W4 w' → w'.cell? ⟨w3.heap.size, 0, none⟩ = some (.slice a3 n3 c3) := fun w' T => cell_at (T.keep hb4 (by simpa using HSZ.out)) rfl
  have g1 : ∀ w', Touch [w.heap.size + 2] W4 w' → w'.cell? ⟨w3.heap.size, 1, none⟩ = some (.slice a6 n6 c6) := fun w' T => cell_at (T.keep hb4 (by simpa using HSZ.out)) rfl
  clear hbb hb4 t4 Q2 Q3 T3 HP HBX hcl hfin
  have s0 : Touch [w.heap.size + 2] W4 W4.drew := (Touch.refl _ _).drew
  have s0' : Touch [] W4 W4.drew := (Touch.refl _ _).drew
  refine wp_region_H (S := fun w' => Touch [w.heap.size + 2] W4 w') (by kernel_rfl) ?_
  refine wpH_take (i := 0) (v := (.pointer (some ⟨s, 0, none⟩))) (some 96) rfl rfl (by kernel_rfl) (by kernel_rfl) (by kernel_rfl) (fun _ _ _ h => h) (Or.inl ⟨by rfl, fun w' hS => (by go_simp)⟩) s0 ?_
  try simp only [Go.Act.put, List.setIfInBounds_toArray, List.set_cons_zero, List.set_cons_succ]
  refine wpH_take (i := 1) (v := (.agg #[.slice a3 n3 c3, .slice a6 n6 c6])) (some 97) rfl rfl (by kernel_rfl) (by kernel_rfl) (by kernel_rfl) (fun _ _ _ h => h) (Or.inl ⟨by rfl, fun w' hS => (by have z0 := g0 _ hS; have z1 := g1 _ hS; go_simp)⟩) s0 ?_
  try simp only [Go.Act.put, List.setIfInBounds_toArray, List.set_cons_zero, List.set_cons_succ]
  refine wpH_take (i := 2) (v := (.slice a2 n2 c2)) (some 98) rfl rfl (by kernel_rfl) (by kernel_rfl) (by kernel_rfl) (fun _ _ _ h => h) (Or.inl ⟨by rfl, fun w' hS => (by go_simp)⟩) s0 ?_
  try simp only [Go.Act.put, List.setIfInBounds_toArray, List.set_cons_zero, List.set_cons_succ]
  refine wpH_take (i := 3) (v := (.slice b3 m3 e3)) (some 99) rfl rfl (by kernel_rfl) (by kernel_rfl) (by kernel_rfl) (fun _ _ _ h => h) (Or.inl ⟨by rfl, fun w' hS => (by go_simp)⟩) s0 ?_
  try simp only [Go.Act.put, List.setIfInBounds_toArray, List.set_cons_zero, List.set_cons_succ]
  refine wpH_call (i := 4) (o := { dst := some 100, op := Op.call { callee := Callee.value (Operand.func 17), args := #[Operand.tmp 98, Operand.tmp 99], argTypes := #[47, 27] }, type := 4, pos := _, after := #[{ on := 2, ground := Ground.data }, { on := 3, ground := Ground.data }], guard := none }) (by kernel_rfl) rfl (fun K' hK => ?_)
  rw [if_pos (by rfl)]
  go_simp
  refine (HCL.out _ s0).mono ?_
  rintro e' w6 ⟨rfl, t6⟩
  have s6 : Touch [w.heap.size + 2] W4 w6 := s0.trans t6 (fun _ e => by cases e)
  obtain ⟨d0, d1, gg⟩ := HDD.out w6 (s0'.trans' t6)
  refine hK.out _ _ s6 ?_
  clear hK
  try simp only [Go.Act.put, List.setIfInBounds_toArray, List.set_cons_zero, List.set_cons_succ]
  refine wpH_take (i := 5) (v := (.pointer (some ⟨s, 0, none⟩))) (some 6) rfl rfl (by kernel_rfl) (by kernel_rfl) (by kernel_rfl) (fun _ _ _ h => h) (Or.inl ⟨by rfl, fun w' hS => (by go_simp)⟩) s6 ?_
  try simp only [Go.Act.put, List.setIfInBounds_toArray, List.set_cons_zero, List.set_cons_succ]
  refine wpH_call (i := 6) (o := { dst := none, op := Op.store 29 (Operand.tmp 7) (Operand.tmp 97), type := 0, pos := _, after := #[{ on := 1, ground := Ground.data }, { on := 5, ground := Ground.chain }, { on := 0, ground := Ground.phase }, { on := 1, ground := Ground.phase }, { on := 2, ground := Ground.textOnly Departure.lateStores }, { on := 3, ground := Ground.textOnly Departure.lateStores }, { on := 4, ground := Ground.textOnly Departure.lateStoresUnsure }, { on := 5, ground := Ground.phase }], guard := none }) (by kernel_rfl) rfl (fun K' hK => ?_)
  rw [if_pos (by rfl)]
  go_simp
  refine hK.out _ _ ((s6.setCell (Or.inl (by simp)) _).setCell (Or.inl (by simp)) _) ?_
  clear hK
  try simp only [Go.Act.put, List.setIfInBounds_toArray, List.set_cons_zero, List.set_cons_succ]
  refine wpH_take (i := 7) (v := (.bool true)) (some 8) rfl rfl (by kernel_rfl) (by kernel_rfl) (by kernel_rfl) (fun _ _ _ h => h) (Or.inl ⟨by rfl, fun w' hS => (by go_simp)⟩) ((s6.setCell (Or.inl (by simp)) _).setCell (Or.inl (by simp)) _) ?_
  try simp only [Go.Act.put, List.setIfInBounds_toArray, List.set_cons_zero, List.set_cons_succ]
  refine wpAnyH_done (by kernel_rfl) ?_ _
  go_wp2
  refine bodyPost_ret (v := .tuple #[.pointer (some ⟨s, 0, none⟩), .agg #[.slice a3 n3 c3, .slice a6 n6 c6], .bool true]) (by simp [results, Try.results7, go_sem, d0, d1]) rfl (HY.out _ ?_)
  exact ((s6.setCell (Or.inl (by simp)) _).setCell (Or.inl (by simp)) _)
set_option maxHeartbeats 8000000 in
set_option maxRecDepth 100000 in
theorem one_cancel (h : Sq w s F L G N) (hd : Dd w u v L G) (hN : N ≤ 4400000000000) (ha : x.ok) (hk : x.kd = 3) : Calls Try.prog 7 #[PT s, .agg #[u, v], .agg x.cs] w fun e w' => OnE e w w' F (canL L x.st.tk) (canG G x.st.tk) N := by
  obtain ⟨a, cu, a', cv, rfl, rfl⟩ := hd.fm
  obtain ⟨V, hV⟩ : ∃ V, V = ((w.alloc (.cells #[.slice a L.length cu, .slice a' G.length cv] 29)).alloc (.cells x.cs 35)).alloc (.cells z2 29) := ⟨_, rfl⟩
  obtain ⟨tv, hz, hb0, hb1, hb2⟩ := boxA w (.slice a L.length cu) (.slice a' G.length cv) x V hV
  have hF : ∀ q, q ∈ F → q < w.heap.size := h.lt
  have HBX : Hid (∀ w', Touch F V w' → Bx w w' (.slice a L.length cu) (.slice a' G.length cv) x) := hid (fun w' T => bx_of hF hb0 hb1 hb2 T)
  have hll : L.length ≤ N := h.iv.ll
  have hlg : G.length ≤ N := h.iv.lg
  have hs1 := h.keep0 tv
  have hown := hs1.own
  have hd1 := hd.keep0 tv
  have HP : Hid (Calls Try.prog 24 #[PT s, .int .i64 x.st.tk] V fun e w2 => ∃ a2 n2 c2, e = .returned (.slice a2 n2 c2) ∧ Touch F V w2 ∧ Calls Try.prog 28 #[.agg #[.slice a L.length cu, .slice a' G.length cv], .int .i64 x.st.tk] w2 fun e w3 => ∃ a3 n3 c3 a6 n6 c6 b3 m3 e3, e = .returned (.tuple #[.agg #[.slice a3 n3 c3, .slice a6 n6 c6], .slice b3 m3 e3]) ∧ Touch F V w3 ∧ ∀ W4, Touch [] w3 W4 → (∀ W', Touch [w.heap.size + 2] W4 W' → Calls Try.prog 17 #[.slice a2 n2 c2, .slice b3 m3 e3] W' fun e w5 => e = .returned (.bool true) ∧ Touch [] W' w5) ∧ ∀ W5, Touch [w.heap.size + 2] W4 W5 → OnE (.returned (.tuple #[PT s, .agg #[.slice a3 n3 c3, .slice a6 n6 c6], .bool true])) w W5 F (canL L x.st.tk) (canG G x.st.tk) N) := hid (by
    refine (cancel_ hs1 ha.2.2.2 hN).mono ?_
    rintro e w2 ⟨a2, c2, rfl, r2, F2, q1, q2, q3⟩
    refine ⟨a2, _, c2, rfl, q2, ?_⟩
    refine (rcancel_ w2 _ _ L G (hd1.other q2 hown) x.st.tk (by omega) (by omega)).mono ?_
    rintro e w3 ⟨a3, n3, c3, a6, n6, c6, b3, m3, e3, rfl, r4, r5, r6⟩
    have t3 : Touch F V w3 := q2.trans r6 (fun _ e => by cases e)
    refine ⟨a3, n3, c3, _, _, _, b3, m3, e3, rfl, t3, fun W4 t4 => ⟨fun W' t' => ?_, fun W5 t5 => ⟨s, _, _, _, _, _, _, rfl, on_fin hF tv (by omega) hz (HBX.out W4 (t3.trans t4 (fun _ e => by cases e))).bx q1 q2 q3 r4 r6 t4 t5⟩⟩⟩
    have hbx := (HBX.out W4 (t3.trans t4 (fun _ e => by cases e))).bx
    exact lseats_ W' _ _ (canA L x.st.tk) (((Rs.of_own r2).keep0 (r6.trans' t4)).box hbx (by decide) t') ((r5.keep0 t4).box hbx (by decide) t') (by unfold canA inL; split; simp; have := List.length_filter_le (fun x_1 => decide (bn 2 x_1 = x.st.tk)) L; omega))
  obtain ⟨b0, b1, i0, i1, i2, i3, d0, d1, gg, bx⟩ := HBX.out V (Touch.refl _ _)
  have j0 : (x.kd == 0) = false := by simp [hk]
  have j1 : (x.kd == 1) = false := by simp [hk]
  have j2 : (x.kd == 2) = false := by simp [hk]
  have j3 : (x.kd == 3) = true := by simp [hk]
  clear h hd tv hz hb0 hb1 hb2 hF hll hlg hs1 hown hd1 bx ha hk hN
  unfold ActV.cs z2 at hV
  unfold ActV.cs
  generalize L.length = ln at *
  generalize G.length = gn at *
  unfold PT at HP
  try unfold sv at HP
  unfold PT
  go_enter Try.func7, Try.ntmps7
  go_upto_region 1 with fail
  rw [← hV]
  clear hV
  go_upto_region 17 with (go_at_call 24; refine HP.out.mono ?_; rintro e w2 ⟨a2, n2, c2, rfl, t2, q2⟩; clear b0 b1 i0 i1 i2 i3 d0 d1 gg; obtain ⟨b0, b1, i0, i1, i2, i3, d0, d1, gg, bx⟩ := HBX.out _ t2; have Q2 := hid q2; clear t2 q2 bx)
  go_upto_region 18 with (go_at_call 28; refine Q2.out.mono ?_; rintro e w3 ⟨a3, n3, c3, a6, n6, c6, b3, m3, e3, rfl, t3, q3⟩; have Q3 := hid q3; have T3 := hid t3; clear t3 q3 b0 b1 i0 i1 i2 i3 d0 d1 gg)
  obtain ⟨W4, hW4⟩ : ∃ W4, W4 = w3.alloc (.cells #[.slice a3 n3 c3, .slice a6 n6 c6] 29) := ⟨_, rfl⟩
  have t4 : Touch [] w3 W4 := by rw [hW4]; exact (Touch.refl _ _).alloc _
  have hb4 : W4.heap[w3.heap.size]? = some (.cells #[.slice a3 n3 c3, .slice a6 n6 c6] 29 (0, 0)) := by rw [hW4]; exact heap_alloc_new w3 _
  rw [← hW4]
  clear hW4
  have hbb := (HBX.out W4 (T3.out.trans t4 (fun _ e => by cases e))).bx
  have HDD : Hid (∀ w', Touch [] W4 w' → w'.cell? ⟨w.heap.size + 2, 0, none⟩ = some (.slice none 0 0) ∧ w'.cell? ⟨w.heap.size + 2, 1, none⟩ = some (.slice none 0 0) ∧ ∀ j, w'.frozen? ⟨w.heap.size + 2, j, none⟩ = false) := hid (fun w' t => ⟨cell_at (t.keep hbb (by simp)) rfl, cell_at (t.keep hbb (by simp)) rfl, froz_at (t.keep hbb (by simp))⟩)
  obtain ⟨hcl, hfin⟩ := Q3.out W4 t4
  have HCL := hid hcl
  have HY := hid hfin
  have HSZ : Hid (w3.heap.size ≠ w.heap.size + 2) := hid (fun e => by
    have := T3.out.size
    have := block_lt (HBX.out V (Touch.refl _ _)).bx
    omega)
  have g0 : ∀ w', Touch [w.heap.size + 2] W4 w' → w'.cell? ⟨w3.heap.size, 0, none⟩ = some (.slice a3 n3 c3) := fun w' T => cell_at (T.keep hb4 (by simpa using HSZ.out)) rfl
  have g1 : ∀ w', Touch [w.heap.size + 2] W4 w' → w'.cell? ⟨w3.heap.size, 1, none⟩ = some (.slice a6 n6 c6) := fun w' T => cell_at (T.keep hb4 (by simpa using HSZ.out)) rfl
  clear hbb hb4 t4 Q2 Q3 T3 HP HBX hcl hfin
  have s0 : Touch [w.heap.size + 2] W4 W4.drew := (Touch.refl _ _).drew
  have s0' : Touch [] W4 W4.drew := (Touch.refl _ _).drew
  refine wp_region_H (S := fun w' => Touch [w.heap.size + 2] W4 w') (by kernel_rfl) ?_
  refine wpH_take (i := 0) (v := (.pointer (some ⟨s, 0, none⟩))) (some 116) rfl rfl (by kernel_rfl) (by kernel_rfl) (by kernel_rfl) (fun _ _ _ h => h) (Or.inl ⟨by rfl, fun w' hS => (by go_simp)⟩) s0 ?_
  try simp only [Go.Act.put, List.setIfInBounds_toArray, List.set_cons_zero, List.set_cons_succ]
  refine wpH_take (i := 1) (v := (.agg #[.slice a3 n3 c3, .slice a6 n6 c6])) (some 117) rfl rfl (by kernel_rfl) (by kernel_rfl) (by kernel_rfl) (fun _ _ _ h => h) (Or.inl ⟨by rfl, fun w' hS => (by have z0 := g0 _ hS; have z1 := g1 _ hS; go_simp)⟩) s0 ?_
  try simp only [Go.Act.put, List.setIfInBounds_toArray, List.set_cons_zero, List.set_cons_succ]
  refine wpH_take (i := 2) (v := (.slice a2 n2 c2)) (some 118) rfl rfl (by kernel_rfl) (by kernel_rfl) (by kernel_rfl) (fun _ _ _ h => h) (Or.inl ⟨by rfl, fun w' hS => (by go_simp)⟩) s0 ?_
  try simp only [Go.Act.put, List.setIfInBounds_toArray, List.set_cons_zero, List.set_cons_succ]
  refine wpH_take (i := 3) (v := (.slice b3 m3 e3)) (some 119) rfl rfl (by kernel_rfl) (by kernel_rfl) (by kernel_rfl) (fun _ _ _ h => h) (Or.inl ⟨by rfl, fun w' hS => (by go_simp)⟩) s0 ?_
  try simp only [Go.Act.put, List.setIfInBounds_toArray, List.set_cons_zero, List.set_cons_succ]
  refine wpH_call (i := 4) (o := { dst := some 120, op := Op.call { callee := Callee.value (Operand.func 17), args := #[Operand.tmp 118, Operand.tmp 119], argTypes := #[47, 27] }, type := 4, pos := _, after := #[{ on := 2, ground := Ground.data }, { on := 3, ground := Ground.data }], guard := none }) (by kernel_rfl) rfl (fun K' hK => ?_)
  rw [if_pos (by rfl)]
  go_simp
  refine (HCL.out _ s0).mono ?_
  rintro e' w6 ⟨rfl, t6⟩
  have s6 : Touch [w.heap.size + 2] W4 w6 := s0.trans t6 (fun _ e => by cases e)
  obtain ⟨d0, d1, gg⟩ := HDD.out w6 (s0'.trans' t6)
  refine hK.out _ _ s6 ?_
  clear hK
  try simp only [Go.Act.put, List.setIfInBounds_toArray, List.set_cons_zero, List.set_cons_succ]
  refine wpH_take (i := 5) (v := (.pointer (some ⟨s, 0, none⟩))) (some 6) rfl rfl (by kernel_rfl) (by kernel_rfl) (by kernel_rfl) (fun _ _ _ h => h) (Or.inl ⟨by rfl, fun w' hS => (by go_simp)⟩) s6 ?_
  try simp only [Go.Act.put, List.setIfInBounds_toArray, List.set_cons_zero, List.set_cons_succ]
  refine wpH_call (i := 6) (o := { dst := none, op := Op.store 29 (Operand.tmp 7) (Operand.tmp 117), type := 0, pos := _, after := #[{ on := 1, ground := Ground.data }, { on := 5, ground := Ground.chain }, { on := 0, ground := Ground.phase }, { on := 1, ground := Ground.phase }, { on := 2, ground := Ground.textOnly Departure.lateStores }, { on := 3, ground := Ground.textOnly Departure.lateStores }, { on := 4, ground := Ground.textOnly Departure.lateStoresUnsure }, { on := 5, ground := Ground.phase }], guard := none }) (by kernel_rfl) rfl (fun K' hK => ?_)
  rw [if_pos (by rfl)]
  go_simp
  refine hK.out _ _ ((s6.setCell (Or.inl (by simp)) _).setCell (Or.inl (by simp)) _) ?_
  clear hK
  try simp only [Go.Act.put, List.setIfInBounds_toArray, List.set_cons_zero, List.set_cons_succ]
  refine wpH_take (i := 7) (v := (.bool true)) (some 8) rfl rfl (by kernel_rfl) (by kernel_rfl) (by kernel_rfl) (fun _ _ _ h => h) (Or.inl ⟨by rfl, fun w' hS => (by go_simp)⟩) ((s6.setCell (Or.inl (by simp)) _).setCell (Or.inl (by simp)) _) ?_
  try simp only [Go.Act.put, List.setIfInBounds_toArray, List.set_cons_zero, List.set_cons_succ]
  refine wpAnyH_done (by kernel_rfl) ?_ _
  go_wp2
  refine bodyPost_ret (v := .tuple #[.pointer (some ⟨s, 0, none⟩), .agg #[.slice a3 n3 c3, .slice a6 n6 c6], .bool true]) (by simp [results, Try.results7, go_sem, d0, d1]) rfl (HY.out _ ?_)
  exact ((s6.setCell (Or.inl (by simp)) _).setCell (Or.inl (by simp)) _)
end
end Go.Proofs.Ytlmmljmhfghlnaa
