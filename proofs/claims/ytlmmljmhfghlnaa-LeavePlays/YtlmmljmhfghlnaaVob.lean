/- The law's one act: who sits down, stands up; no conditions but those that each states. -/
import Derived.Test.YtlmmljmhfghlnaaVoa
import Derived.Test.YtlmmljmhfghlnaaHlh
import Derived.Test.YtlmmljmhfghlnaaAlh
namespace Go.Proofs.Ytlmmljmhfghlnaa
open Go.RowKit Go.Maps Go.ChangeMaps
set_option linter.unusedVariables false
set_option linter.unusedSimpArgs false
section
variable (w : World) (s : Nat) (F : List Nat) (L : List Se) (G : List Int) (u v : Value) (x : ActV) (N : Nat)
set_option maxHeartbeats 8000000 in
set_option maxRecDepth 100000 in
theorem one_sit (h : Sq w s F L G N) (hd : Dd w u v L G) (hN : N ≤ 4400000000000) (ha : x.ok) (hk : x.kd = 0) : Calls Try.prog 7 #[PT s, .agg #[u, v], .agg x.cs] w fun e w' => OnE e w w' F (sitL L G x.st.se) G N := by
  obtain ⟨a, cu, a', cv, rfl, rfl⟩ := hd.fm
  obtain ⟨V, hV⟩ : ∃ V, V = ((w.alloc (.cells #[.slice a L.length cu, .slice a' G.length cv] 29)).alloc (.cells x.cs 35)).alloc (.cells z2 29) := ⟨_, rfl⟩
  obtain ⟨tv, hz, hb0, hb1, hb2⟩ := boxA w (.slice a L.length cu) (.slice a' G.length cv) x V hV
  have hF : ∀ q, q ∈ F → q < w.heap.size := h.lt
  have HBX : Hid (∀ w', Touch F V w' → Bx w w' (.slice a L.length cu) (.slice a' G.length cv) x) := hid (fun w' T => bx_of hF hb0 hb1 hb2 T)
  have hll : L.length ≤ N := h.iv.ll
  have hlg : G.length ≤ N := h.iv.lg
  have hs1 := h.keep0 tv
  have hown := hs1.own
  have hd1 := hd.keep0 tv
  have HP : Hid (Calls Try.prog 22 #[PT s, sv x.st.se] V fun e w2 => e = .returned (.int .i64 (sitE L G x.st.se)) ∧ Touch F V w2 ∧ Calls Try.prog 26 #[.agg #[.slice a L.length cu, .slice a' G.length cv], sv x.st.se] w2 fun e w3 => ∃ a3 n3 c3, e = .returned (.tuple #[.agg #[.slice a3 n3 c3, .slice a' G.length cv], .int .i64 (sitE L G x.st.se)]) ∧ Touch F V w3 ∧ ∀ W4 W5, Touch [] w3 W4 → Touch [w.heap.size + 2] W4 W5 → OnE (.returned (.tuple #[PT s, .agg #[.slice a3 n3 c3, .slice a' G.length cv], .bool true])) w W5 F (sitL L G x.st.se) G N) := hid (by
    refine (sit_ hs1 (SeA.wf ha.2) hN).mono ?_
    rintro e w2 ⟨rfl, F2, q1, q2, q3⟩
    refine ⟨rfl, q2, ?_⟩
    refine (rsit_ w2 _ _ L G (hd1.other q2 hown) x.st.se (by omega) (by omega)).mono ?_
    rintro e w3 ⟨a3, n3, c3, rfl, r1, r3⟩
    have t3 : Touch F V w3 := q2.trans r3 (fun _ e => by cases e)
    exact ⟨a3, n3, c3, rfl, t3, fun W4 W5 t4 t5 => ⟨s, _, _, _, _, _, _, rfl, on_fin hF tv (by omega) hz (HBX.out W4 (t3.trans t4 (fun _ e => by cases e))).bx q1 q2 q3 r1 r3 t4 t5⟩⟩)
  obtain ⟨b0, b1, i0, i1, i2, i3, d0, d1, gg, bx⟩ := HBX.out V (Touch.refl _ _)
  have j0 : (x.kd == 0) = true := by simp [hk]
  generalize sitE L G x.st.se = E at *
  clear h hd tv hz hb0 hb1 hb2 hF hll hlg hs1 hown hd1 bx ha hk hN
  unfold ActV.cs z2 at hV
  unfold ActV.cs
  generalize L.length = ln at *
  generalize G.length = gn at *
  unfold PT at HP
  try unfold sv at HP
  unfold PT
  go_enter Try.func7, Try.ntmps7
  go_upto_region 1 with fail
  rw [← hV]
  clear hV
  unfold SeA.se at HP
  go_upto_region 4 with (go_at_call 22; refine HP.out.mono ?_; rintro e w2 ⟨rfl, t2, q2⟩; clear b0 b1 i0 i1 i2 i3 d0 d1 gg; obtain ⟨b0, b1, i0, i1, i2, i3, d0, d1, gg, bx⟩ := HBX.out _ t2; have Q2 := hid q2; clear t2 q2 bx)
  go_upto_region 5 with (go_at_call 26; refine Q2.out.mono ?_; rintro e w3 ⟨a3, n3, c3, rfl, t3, q3⟩; have Q3 := hid q3; have T3 := hid t3; clear t3 q3 b0 b1 i0 i1 i2 i3 d0 d1 gg)
  obtain ⟨W4, hW4⟩ : ∃ W4, W4 = w3.alloc (.cells #[.slice a3 n3 c3, .slice a' gn cv] 29) := ⟨_, rfl⟩
  have t4 : Touch [] w3 W4 := by rw [hW4]; exact (Touch.refl _ _).alloc _
  have hb4 : W4.heap[w3.heap.size]? = some (.cells #[.slice a3 n3 c3, .slice a' gn cv] 29 (0, 0)) := by rw [hW4]; exact heap_alloc_new w3 _
  rw [← hW4]
  clear hW4
  obtain ⟨-, -, -, -, -, -, d0, d1, gg, bx⟩ := HBX.out W4 (T3.out.trans t4 (fun _ e => by cases e))
  have HY := hid (fun W5 => Q3.out W4 W5 t4)
  have HSZ : Hid (w3.heap.size ≠ w.heap.size + 2) := hid (fun e => by
    have := T3.out.size
    have := block_lt (HBX.out V (Touch.refl _ _)).bx
    omega)
  have g0 : ∀ w', Touch [w.heap.size + 2] W4 w' → w'.cell? ⟨w3.heap.size, 0, none⟩ = some (.slice a3 n3 c3) := fun w' T => cell_at (T.keep hb4 (by simpa using HSZ.out)) rfl
  have g1 : ∀ w', Touch [w.heap.size + 2] W4 w' → w'.cell? ⟨w3.heap.size, 1, none⟩ = some (.slice a' gn cv) := fun w' T => cell_at (T.keep hb4 (by simpa using HSZ.out)) rfl
  clear bx hb4 t4 Q2 Q3 T3 HP HBX
  have s0 : Touch [w.heap.size + 2] W4 W4.drew := (Touch.refl _ _).drew
  refine wp_region_H (S := fun w' => Touch [w.heap.size + 2] W4 w') (by kernel_rfl) ?_
  refine wpH_take (i := 0) (v := (.pointer (some ⟨s, 0, none⟩))) (some 40) rfl rfl (by kernel_rfl) (by kernel_rfl) (by kernel_rfl) (fun _ _ _ h => h) (Or.inl ⟨by rfl, fun w' hS => (by go_simp)⟩) s0 ?_
  try simp only [Go.Act.put, List.setIfInBounds_toArray, List.set_cons_zero, List.set_cons_succ]
  refine wpH_take (i := 1) (v := (.agg #[.slice a3 n3 c3, .slice a' gn cv])) (some 41) rfl rfl (by kernel_rfl) (by kernel_rfl) (by kernel_rfl) (fun _ _ _ h => h) (Or.inl ⟨by rfl, fun w' hS => (by have z0 := g0 _ hS; have z1 := g1 _ hS; go_simp)⟩) s0 ?_
  try simp only [Go.Act.put, List.setIfInBounds_toArray, List.set_cons_zero, List.set_cons_succ]
  refine wpH_take (i := 2) (v := (.int .i64 E)) (some 42) rfl rfl (by kernel_rfl) (by kernel_rfl) (by kernel_rfl) (fun _ _ _ h => h) (Or.inl ⟨by rfl, fun w' hS => (by go_simp)⟩) s0 ?_
  try simp only [Go.Act.put, List.setIfInBounds_toArray, List.set_cons_zero, List.set_cons_succ]
  refine wpH_take (i := 3) (v := (.int .i64 E)) (some 43) rfl rfl (by kernel_rfl) (by kernel_rfl) (by kernel_rfl) (fun _ _ _ h => h) (Or.inl ⟨by rfl, fun w' hS => (by go_simp)⟩) s0 ?_
  try simp only [Go.Act.put, List.setIfInBounds_toArray, List.set_cons_zero, List.set_cons_succ]
  refine wpH_take (i := 4) (v := (.bool true)) (some 44) rfl rfl (by kernel_rfl) (by kernel_rfl) (by kernel_rfl) (fun _ _ _ h => h) (Or.inl ⟨by rfl, fun w' hS => (by go_simp)⟩) s0 ?_
  try simp only [Go.Act.put, List.setIfInBounds_toArray, List.set_cons_zero, List.set_cons_succ]
  refine wpH_take (i := 5) (v := (.pointer (some ⟨s, 0, none⟩))) (some 6) rfl rfl (by kernel_rfl) (by kernel_rfl) (by kernel_rfl) (fun _ _ _ h => h) (Or.inl ⟨by rfl, fun w' hS => (by go_simp)⟩) s0 ?_
  try simp only [Go.Act.put, List.setIfInBounds_toArray, List.set_cons_zero, List.set_cons_succ]
  refine wpH_call (i := 6) (o := { dst := none, op := Op.store 29 (Operand.tmp 7) (Operand.tmp 41), type := 0, pos := _, after := #[{ on := 1, ground := Ground.data }, { on := 5, ground := Ground.chain }, { on := 0, ground := Ground.phase }, { on := 1, ground := Ground.phase }, { on := 2, ground := Ground.textOnly Departure.lateStores }, { on := 3, ground := Ground.textOnly Departure.lateStores }, { on := 4, ground := Ground.textOnly Departure.lateStores }, { on := 5, ground := Ground.phase }], guard := none }) (by kernel_rfl) rfl (fun K' hK => ?_)
  rw [if_pos (by rfl)]
  go_simp
  refine hK.out _ _ ((((Touch.refl _ _).setCell (Or.inl (by simp)) _).setCell (Or.inl (by simp)) _).drew) ?_
  clear hK
  try simp only [Go.Act.put, List.setIfInBounds_toArray, List.set_cons_zero, List.set_cons_succ]
  refine wpH_take (i := 7) (v := (.bool true)) (some 8) rfl rfl (by kernel_rfl) (by kernel_rfl) (by kernel_rfl) (fun _ _ _ h => h) (Or.inl ⟨by rfl, fun w' hS => (by go_simp)⟩) ((((Touch.refl _ _).setCell (Or.inl (by simp)) _).setCell (Or.inl (by simp)) _).drew) ?_
  try simp only [Go.Act.put, List.setIfInBounds_toArray, List.set_cons_zero, List.set_cons_succ]
  refine wpAnyH_done (by kernel_rfl) ?_ _
  go_wp2
  refine bodyPost_ret (v := .tuple #[.pointer (some ⟨s, 0, none⟩), .agg #[.slice a3 n3 c3, .slice a' gn cv], .bool true]) (by simp [results, Try.results7, go_sem, d0, d1]) rfl (HY.out _ ?_)
  exact ((((Touch.refl _ _).setCell (Or.inl (by simp)) _).setCell (Or.inl (by simp)) _).drew)
set_option maxHeartbeats 8000000 in
set_option maxRecDepth 100000 in
theorem one_stand (h : Sq w s F L G N) (hd : Dd w u v L G) (hN : N ≤ 4400000000000) (ha : x.ok) (hk : x.kd = 1) : Calls Try.prog 7 #[PT s, .agg #[u, v], .agg x.cs] w fun e w' => OnE e w w' F (outL 0 x.st.ca L) G N := by
  obtain ⟨a, cu, a', cv, rfl, rfl⟩ := hd.fm
  obtain ⟨V, hV⟩ : ∃ V, V = ((w.alloc (.cells #[.slice a L.length cu, .slice a' G.length cv] 29)).alloc (.cells x.cs 35)).alloc (.cells z2 29) := ⟨_, rfl⟩
  obtain ⟨tv, hz, hb0, hb1, hb2⟩ := boxA w (.slice a L.length cu) (.slice a' G.length cv) x V hV
  have hF : ∀ q, q ∈ F → q < w.heap.size := h.lt
  have HBX : Hid (∀ w', Touch F V w' → Bx w w' (.slice a L.length cu) (.slice a' G.length cv) x) := hid (fun w' T => bx_of hF hb0 hb1 hb2 T)
  have hll : L.length ≤ N := h.iv.ll
  have hlg : G.length ≤ N := h.iv.lg
  have hs1 := h.keep0 tv
  have hown := hs1.own
  have hd1 := hd.keep0 tv
  have HP : Hid (Calls Try.prog 21 #[PT s, .int .i64 x.st.ca] V fun e w2 => e = .returned (.tuple #[sv ((whr L x.st.ca).getD (0, 0, 0)), .bool (whr L x.st.ca).isSome]) ∧ Touch F V w2 ∧ ∀ W2, Touch [] w2 W2 → Calls Try.prog 9 #[.agg #[.slice a L.length cu, .slice a' G.length cv], .int .i64 x.st.ca] W2 fun e w3 => e = .returned (.tuple #[sv ((whr L x.st.ca).getD (0, 0, 0)), .bool (whr L x.st.ca).isSome]) ∧ Touch [] W2 w3 ∧ ∀ W3, Touch [] w3 W3 → Calls Try.prog 27 #[.agg #[.slice a L.length cu, .slice a' G.length cv], .int .i64 0, .int .i64 x.st.ca] W3 fun e w4 => ∃ a3 n3 c3 b3 m3 e3, e = .returned (.tuple #[.agg #[.slice a3 n3 c3, .slice a' G.length cv], .slice b3 m3 e3]) ∧ Touch [] W3 w4 ∧ ∀ W4 W5, Touch [] w4 W4 → Touch [w.heap.size + 2] W4 W5 → OnE (.returned (.tuple #[PT s, .agg #[.slice a3 n3 c3, .slice a' G.length cv], .bool true])) w W5 F (outL 0 x.st.ca L) G N) := hid (by
    refine (standQ hs1 ha.2.1 hN).mono ?_
    rintro e w2 ⟨rfl, F2, q1, q2, q3⟩
    refine ⟨rfl, q2, fun W2 t2 => ?_⟩
    have hd2 := (hd1.other q2 hown).keep0 t2
    refine (rwhere_ W2 _ _ L G hd2 x.st.ca (by omega)).mono ?_
    rintro e w3 ⟨rfl, r3⟩
    refine ⟨rfl, r3, fun W3 t3 => ?_⟩
    refine (rout_ W3 _ _ L G ((hd2.keep0 r3).keep0 t3) 0 (by omega) x.st.ca (by omega)).mono ?_
    rintro e w4 ⟨a3, n3, c3, b3, m3, e3, rfl, r4, r5, r6⟩
    have t24 : Touch [] w2 w4 := ((t2.trans' r3).trans' t3).trans' r6
    have t4' : Touch F V w4 := q2.trans t24 (fun _ e => by cases e)
    exact ⟨a3, n3, c3, b3, m3, e3, rfl, r6, fun W4 W5 t4 t5 => ⟨s, _, _, _, _, _, _, rfl, on_fin hF tv (by omega) hz (HBX.out W4 (t4'.trans t4 (fun _ e => by cases e))).bx (q1.mono (Nat.le_succ N)) q2 q3 r4 t24 t4 t5⟩⟩)
  have HSV : Hid (w.heap.size + 2 < V.heap.size) := hid hz
  obtain ⟨b0, b1, i0, i1, i2, i3, d0, d1, gg, bx⟩ := HBX.out V (Touch.refl _ _)
  have j0 : (x.kd == 0) = false := by simp [hk]
  have j1 : (x.kd == 1) = true := by simp [hk]
  generalize (whr L x.st.ca).getD (0, 0, 0) = y at *
  generalize (whr L x.st.ca).isSome = B at *
  clear h hd tv hz hb0 hb1 hb2 hF hll hlg hs1 hown hd1 bx ha hk hN
  unfold ActV.cs z2 at hV
  unfold ActV.cs
  generalize L.length = ln at *
  generalize G.length = gn at *
  unfold PT at HP
  try unfold sv at HP
  unfold PT
  go_enter Try.func7, Try.ntmps7
  go_upto_region 1 with fail
  rw [← hV]
  clear hV
  go_upto_region 8 with (go_at_call 21; refine HP.out.mono ?_; rintro e w2 ⟨rfl, t2, q2⟩; have Q2 := hid q2; have T2 := hid t2; clear t2 q2 b0 b1 i0 i1 i2 i3 d0 d1 gg)
  obtain ⟨W2, hW2⟩ : ∃ W2, W2 = w2.alloc (.cells #[.int .i64 y.1, .int .i64 y.2.1, .int .i64 y.2.2] 33) := ⟨_, rfl⟩
  have t2 : Touch [] w2 W2 := by rw [hW2]; exact (Touch.refl _ _).alloc _
  have hb2 : W2.heap[w2.heap.size]? = some (.cells #[.int .i64 y.1, .int .i64 y.2.1, .int .i64 y.2.2] 33 (0, 0)) := by rw [hW2]; exact heap_alloc_new w2 _
  rw [← hW2]
  clear hW2
  have C2 : Hid (Touch F V W2) := hid (T2.out.trans t2 (fun _ e => by cases e))
  have HZ2 : Hid (w.heap.size + 2 < w2.heap.size) := hid (Nat.lt_of_lt_of_le HSV.out T2.out.size)
  have P2 := hid (Q2.out W2 t2)
  have HB2 := hid hb2
  obtain ⟨b0, b1, i0, i1, i2, i3, -, -, -, -⟩ := HBX.out W2 C2.out
  clear t2 hb2 Q2 T2 HP
  go_upto_region 9 with (go_at_call 9; refine P2.out.mono ?_; rintro e w3 ⟨rfl, t3, q3⟩; have Q3 := hid q3; have T3 := hid t3; clear t3 q3 b0 b1 i0 i1 i2 i3)
  obtain ⟨W3, hW3⟩ : ∃ W3, W3 = w3.alloc (.cells #[.int .i64 y.1, .int .i64 y.2.1, .int .i64 y.2.2] 38) := ⟨_, rfl⟩
  have t3 : Touch [] w3 W3 := by rw [hW3]; exact (Touch.refl _ _).alloc _
  have hb3 : W3.heap[w3.heap.size]? = some (.cells #[.int .i64 y.1, .int .i64 y.2.1, .int .i64 y.2.2] 38 (0, 0)) := by rw [hW3]; exact heap_alloc_new w3 _
  rw [← hW3]
  clear hW3
  have C3 : Hid (Touch F V W3) := hid (C2.out.trans (T3.out.trans' t3) (fun _ e => by cases e))
  have P3 := hid (Q3.out W3 t3)
  have HB3 := hid hb3
  have HB2' := hid ((T3.out.trans' t3).keep HB2.out (by simp))
  have HZ3 : Hid (w.heap.size + 2 < w3.heap.size) := hid (by have := HZ2.out; have := T3.out.size; have := block_lt HB2.out; omega)
  obtain ⟨b0, b1, i0, i1, i2, i3, -, -, -, -⟩ := HBX.out W3 C3.out
  clear t3 hb3 Q3 T3 P2 HB2
  go_upto_region 10 with (go_at_call 27; refine P3.out.mono ?_; rintro e w4 ⟨a3, n3, c3, b3, m3, e3, rfl, t4, q4⟩; have Q4 := hid q4; have T4 := hid t4; clear t4 q4 b0 b1 i0 i1 i2 i3)
  obtain ⟨W4, hW4⟩ : ∃ W4, W4 = w4.alloc (.cells #[.slice a3 n3 c3, .slice a' gn cv] 29) := ⟨_, rfl⟩
  have t4 : Touch [] w4 W4 := by rw [hW4]; exact (Touch.refl _ _).alloc _
  have hb4 : W4.heap[w4.heap.size]? = some (.cells #[.slice a3 n3 c3, .slice a' gn cv] 29 (0, 0)) := by rw [hW4]; exact heap_alloc_new w4 _
  rw [← hW4]
  clear hW4
  have C4 : Hid (Touch F V W4) := hid (C3.out.trans (T4.out.trans' t4) (fun _ e => by cases e))
  have HZ4 : Hid (w.heap.size + 2 < w4.heap.size) := hid (by have := HZ3.out; have := T4.out.size; have := block_lt HB3.out; omega)
  have k2 := (T4.out.trans' t4).keep HB2'.out (by simp)
  have k3 := (T4.out.trans' t4).keep HB3.out (by simp)
  obtain ⟨-, -, -, -, -, -, d0, d1, gg, -⟩ := HBX.out W4 C4.out
  have HY := hid (fun W5 => Q4.out W4 W5 t4)
  have g0 : ∀ w', Touch [w.heap.size + 2] W4 w' → w'.cell? ⟨w4.heap.size, 0, none⟩ = some (.slice a3 n3 c3) := fun w' T => cell_at (T.keep hb4 (by have := HZ4.out; simp; omega)) rfl
  have g1 : ∀ w', Touch [w.heap.size + 2] W4 w' → w'.cell? ⟨w4.heap.size, 1, none⟩ = some (.slice a' gn cv) := fun w' T => cell_at (T.keep hb4 (by have := HZ4.out; simp; omega)) rfl
  have p0 : ∀ w', Touch [w.heap.size + 2] W4 w' → w'.cell? ⟨w2.heap.size, 0, none⟩ = some (.int .i64 y.1) := fun w' T => cell_at (T.keep k2 (by have := HZ2.out; simp; omega)) rfl
  have p1 : ∀ w', Touch [w.heap.size + 2] W4 w' → w'.cell? ⟨w2.heap.size, 1, none⟩ = some (.int .i64 y.2.1) := fun w' T => cell_at (T.keep k2 (by have := HZ2.out; simp; omega)) rfl
  have p2 : ∀ w', Touch [w.heap.size + 2] W4 w' → w'.cell? ⟨w2.heap.size, 2, none⟩ = some (.int .i64 y.2.2) := fun w' T => cell_at (T.keep k2 (by have := HZ2.out; simp; omega)) rfl
  have r0 : ∀ w', Touch [w.heap.size + 2] W4 w' → w'.cell? ⟨w3.heap.size, 0, none⟩ = some (.int .i64 y.1) := fun w' T => cell_at (T.keep k3 (by have := HZ3.out; simp; omega)) rfl
  have r1 : ∀ w', Touch [w.heap.size + 2] W4 w' → w'.cell? ⟨w3.heap.size, 1, none⟩ = some (.int .i64 y.2.1) := fun w' T => cell_at (T.keep k3 (by have := HZ3.out; simp; omega)) rfl
  have r2 : ∀ w', Touch [w.heap.size + 2] W4 w' → w'.cell? ⟨w3.heap.size, 2, none⟩ = some (.int .i64 y.2.2) := fun w' T => cell_at (T.keep k3 (by have := HZ3.out; simp; omega)) rfl
  clear hb4 t4 Q4 T4 P3 HBX k2 k3
  have eqs := fun W => eqlS W y
  have s0 : Touch [w.heap.size + 2] W4 W4.drew := (Touch.refl _ _).drew
  refine wp_region_H (S := fun w' => Touch [w.heap.size + 2] W4 w') (by kernel_rfl) ?_
  refine wpH_take (i := 0) (v := (.pointer (some ⟨s, 0, none⟩))) (some 71) rfl rfl (by kernel_rfl) (by kernel_rfl) (by kernel_rfl) (fun _ _ _ h => h) (Or.inl ⟨by rfl, fun w' hS => (by go_simp)⟩) s0 ?_
  try simp only [Go.Act.put, List.setIfInBounds_toArray, List.set_cons_zero, List.set_cons_succ]
  refine wpH_take (i := 1) (v := (.agg #[.slice a3 n3 c3, .slice a' gn cv])) (some 72) rfl rfl (by kernel_rfl) (by kernel_rfl) (by kernel_rfl) (fun _ _ _ h => h) (Or.inl ⟨by rfl, fun w' hS => (by have z0 := g0 _ hS; have z1 := g1 _ hS; go_simp)⟩) s0 ?_
  try simp only [Go.Act.put, List.setIfInBounds_toArray, List.set_cons_zero, List.set_cons_succ]
  refine wpH_take (i := 2) (v := (.agg #[.int .i64 y.1, .int .i64 y.2.1, .int .i64 y.2.2])) (some 73) rfl rfl (by kernel_rfl) (by kernel_rfl) (by kernel_rfl) (fun _ _ _ h => h) (Or.inl ⟨by rfl, fun w' hS => (by have z0 := p0 _ hS; have z1 := p1 _ hS; have z2 := p2 _ hS; go_simp)⟩) s0 ?_
  try simp only [Go.Act.put, List.setIfInBounds_toArray, List.set_cons_zero, List.set_cons_succ]
  refine wpH_take (i := 3) (v := (.agg #[.int .i64 y.1, .int .i64 y.2.1, .int .i64 y.2.2])) (some 74) rfl rfl (by kernel_rfl) (by kernel_rfl) (by kernel_rfl) (fun _ _ _ h => h) (Or.inl ⟨by rfl, fun w' hS => (by have z0 := r0 _ hS; have z1 := r1 _ hS; have z2 := r2 _ hS; go_simp)⟩) s0 ?_
  try simp only [Go.Act.put, List.setIfInBounds_toArray, List.set_cons_zero, List.set_cons_succ]
  refine wpH_take (i := 4) (v := (.bool true)) (some 75) rfl rfl (by kernel_rfl) (by kernel_rfl) (by kernel_rfl) (fun _ _ _ h => h) (Or.inl ⟨by rfl, fun w' hS => (by go_simp)⟩) s0 ?_
  try simp only [Go.Act.put, List.setIfInBounds_toArray, List.set_cons_zero, List.set_cons_succ]
  refine wpH_take (i := 5) (v := (.bool true)) (some 76) rfl rfl (by kernel_rfl) (by kernel_rfl) (by kernel_rfl) (fun _ _ _ h => h) (Or.inl ⟨by rfl, fun w' hS => (by go_simp)⟩) s0 ?_
  try simp only [Go.Act.put, List.setIfInBounds_toArray, List.set_cons_zero, List.set_cons_succ]
  refine wpH_take (i := 6) (v := (.bool B)) (some 77) rfl rfl (by kernel_rfl) (by kernel_rfl) (by kernel_rfl) (fun _ _ _ h => h) (Or.inl ⟨by rfl, fun w' hS => (by go_simp)⟩) s0 ?_
  try simp only [Go.Act.put, List.setIfInBounds_toArray, List.set_cons_zero, List.set_cons_succ]
  refine wpH_take (i := 7) (v := (.bool B)) (some 78) rfl rfl (by kernel_rfl) (by kernel_rfl) (by kernel_rfl) (fun _ _ _ h => h) (Or.inl ⟨by rfl, fun w' hS => (by go_simp)⟩) s0 ?_
  try simp only [Go.Act.put, List.setIfInBounds_toArray, List.set_cons_zero, List.set_cons_succ]
  refine wpH_take (i := 8) (v := (.bool true)) (some 79) rfl rfl (by kernel_rfl) (by kernel_rfl) (by kernel_rfl) (fun _ _ _ h => h) (Or.inl ⟨by rfl, fun w' hS => (by go_simp)⟩) s0 ?_
  try simp only [Go.Act.put, List.setIfInBounds_toArray, List.set_cons_zero, List.set_cons_succ]
  refine wpH_take (i := 9) (v := (.bool true)) (some 80) rfl rfl (by kernel_rfl) (by kernel_rfl) (by kernel_rfl) (fun _ _ _ h => h) (Or.inl ⟨by rfl, fun w' hS => (by go_simp)⟩) s0 ?_
  try simp only [Go.Act.put, List.setIfInBounds_toArray, List.set_cons_zero, List.set_cons_succ]
  refine wpH_take (i := 10) (v := (.pointer (some ⟨s, 0, none⟩))) (some 6) rfl rfl (by kernel_rfl) (by kernel_rfl) (by kernel_rfl) (fun _ _ _ h => h) (Or.inl ⟨by rfl, fun w' hS => (by go_simp)⟩) s0 ?_
  try simp only [Go.Act.put, List.setIfInBounds_toArray, List.set_cons_zero, List.set_cons_succ]
  refine wpH_call (i := 11) (o := { dst := none, op := Op.store 29 (Operand.tmp 7) (Operand.tmp 72), type := 0, pos := _, after := #[{ on := 1, ground := Ground.data }, { on := 10, ground := Ground.chain }, { on := 0, ground := Ground.phase }, { on := 1, ground := Ground.phase }, { on := 2, ground := Ground.textOnly Departure.lateStores }, { on := 3, ground := Ground.textOnly Departure.lateStores }, { on := 4, ground := Ground.textOnly Departure.lateStores }, { on := 5, ground := Ground.textOnly Departure.lateStores }, { on := 6, ground := Ground.textOnly Departure.lateStores }, { on := 7, ground := Ground.textOnly Departure.lateStores }, { on := 8, ground := Ground.textOnly Departure.lateStores }, { on := 9, ground := Ground.textOnly Departure.lateStores }, { on := 10, ground := Ground.phase }], guard := none }) (by kernel_rfl) rfl (fun K' hK => ?_)
  rw [if_pos (by rfl)]
  go_simp
  refine hK.out _ _ ((((Touch.refl _ _).setCell (Or.inl (by simp)) _).setCell (Or.inl (by simp)) _).drew) ?_
  clear hK
  try simp only [Go.Act.put, List.setIfInBounds_toArray, List.set_cons_zero, List.set_cons_succ]
  refine wpH_take (i := 12) (v := (.bool true)) (some 8) rfl rfl (by kernel_rfl) (by kernel_rfl) (by kernel_rfl) (fun _ _ _ h => h) (Or.inl ⟨by rfl, fun w' hS => (by go_simp)⟩) ((((Touch.refl _ _).setCell (Or.inl (by simp)) _).setCell (Or.inl (by simp)) _).drew) ?_
  try simp only [Go.Act.put, List.setIfInBounds_toArray, List.set_cons_zero, List.set_cons_succ]
  refine wpAnyH_done (by kernel_rfl) ?_ _
  go_wp2
  refine bodyPost_ret (v := .tuple #[.pointer (some ⟨s, 0, none⟩), .agg #[.slice a3 n3 c3, .slice a' gn cv], .bool true]) (by simp [results, Try.results7, go_sem, d0, d1]) rfl (HY.out _ ?_)
  exact ((((Touch.refl _ _).setCell (Or.inl (by simp)) _).setCell (Or.inl (by simp)) _).drew)
end
end Go.Proofs.Ytlmmljmhfghlnaa
