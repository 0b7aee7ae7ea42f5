/- The law's one act, by kinds: a run is added, what is due is sent, what waits is sent. -/
import Derived.Test.YtogojdeohohhhaaBoa
import Derived.Test.YtogojdeohohhhaaAlh
import Derived.Test.YtogojdeohohhhaaHlg
namespace Go.Proofs.Ytogojdeohohhhaa
open Go.RowKit Go.Maps Go.ChangeMaps
set_option linter.unusedVariables false
set_option linter.unusedSimpArgs false
section
variable (w : World) (b : Nat) (F : List Nat) (S : Bs) (u : Value) (a : ActB) (N : Nat)
set_option maxHeartbeats 8000000 in
set_option maxRecDepth 100000 in
theorem one_add (h : Bq w b F S N) (hu : Rd w u S.run) (ap : Ap S.run u F) (hN : N ≤ 6000000000000) (ha : a.ok) (hk : a.kd = 0) : Calls Try.prog 8 #[PT b, dv u S, .agg a.cs] w fun e w' => OnE e w w' F (addS S a.nw a.rn) N := by
  obtain ⟨al, cl, rfl, _, _⟩ := hu.form
  obtain ⟨V, hV⟩ : ∃ V, V = ((w.alloc (.cells (dc (.slice al S.run.length cl) S) 31)).alloc (.cells a.cs 35)).alloc (.cells zd 31) := ⟨_, rfl⟩
  obtain ⟨tv, hz, hb0, hb1, hb2⟩ := boxA w (.slice al S.run.length cl) S a V hV
  have hF : ∀ q, q ∈ F → q < w.heap.size := h.lt
  have HBX : Hid (∀ w', Touch F V w' → w'.heap[w.heap.size]? = some (.cells (dc (.slice al S.run.length cl) S) 31 (0, 0)) ∧ w'.heap[w.heap.size + 1]? = some (.cells a.cs 35 (0, 0)) ∧ w'.heap[w.heap.size + 2]? = some (.cells (dc (.slice none 0 0) Sz) 31 (0, 0)) ∧ w.heap.size + 2 < w'.heap.size) := hid (fun w' T => ⟨T.keep hb0 (fun e => by have := hF _ e; omega), T.keep hb1 (fun e => by have := hF _ e; omega), T.keep hb2 (fun e => by have := hF _ e; omega), Nat.lt_of_lt_of_le hz T.size⟩)
  have HP : Hid (Calls Try.prog 16 #[PT b, .int .i64 a.nw, .int .i64 a.rn] V fun e w2 => ∃ a2 n2 c2, e = .returned (.tuple #[.slice a2 n2 c2, .int .i64 (addE S a.nw a.rn)]) ∧ Touch F V w2 ∧ Calls Try.prog 20 #[dv (.slice al S.run.length cl) S, .int .i64 a.nw, .int .i64 a.rn] w2 fun e w3 => ∃ a3 n3 c3 a4 n4 c4, e = .returned (.tuple #[dv (.slice a3 n3 c3) (addS S a.nw a.rn), .slice a4 n4 c4, .int .i64 (addE S a.nw a.rn)]) ∧ StP w V w2 w3 b F (addS S a.nw a.rn) N (addL S a.nw a.rn) (.slice a2 n2 c2) (.slice a3 n3 c3) (.slice a4 n4 c4)) := hid (by
    obtain ⟨sl, d, rfl, hm, hv⟩ := h.keep0 tv
    have hiv := hv
    refine (add_ (n := a.nw) (x := a.rn) hm hv hN ha.2.1).mono ?_
    rintro e w2 ⟨v2, rfl, q⟩
    obtain ⟨a2, n2, c2, rfl⟩ := q.2.2
    obtain ⟨F2, _, q2, _⟩ := q.1
    refine ⟨a2, n2, c2, rfl, q2, ?_⟩
    have hu2 : Rd w2 (.slice al S.run.length cl) S.run := (hu.keep0 tv).keepN q2 ap
    refine (radd_ w2 _ S hu2 hiv hN a.nw a.rn).mono ?_
    rintro e w3 ⟨_, _, rfl, ⟨a3, n3, c3, rfl⟩, ⟨a4, n4, c4, rfl⟩, r1, r2, r5, r6⟩
    exact ⟨a3, n3, c3, a4, n4, c4, rfl, StP.mk h hu ap tv hz q r1 r2 r6 r5⟩)
  have HLS : Hid ((addL S a.nw a.rn).length ≤ 65536) := hid (by obtain ⟨sl, d, rfl, hm, hv⟩ := h; have := hv.len; unfold addL; split; simp; split; simp; omega; simp)
  have i0 := cell_at (j := 0) (v := .int .i64 a.kd) hb1 rfl
  have i1 := cell_at (j := 1) (v := .int .i64 a.rn) hb1 rfl
  have i2 := cell_at (j := 2) (v := .int .i64 a.nw) hb1 rfl
  clear h hu ap ha tv hz hb0 hb1 hb2 hF
  have HOE : Hid (∀ w' u', (∃ a n c, u' = .slice a n c) → OnQ w w' F (addS S a.nw a.rn) N b u' → OnE (.returned (.tuple #[PT b, dv u' (addS S a.nw a.rn), .bool true])) w w' F (addS S a.nw a.rn) N) := hid (fun w' u' hf q => ⟨b, u', rfl, hf, q⟩)
  generalize addS S a.nw a.rn = S' at *
  generalize addL S a.nw a.rn = ls at *
  generalize addE S a.nw a.rn = ek at *
  rw [hk] at i0
  clear hk
  unfold dc ActB.cs zd at hV
  unfold dv dc PT at HP
  unfold dv dc PT at HOE
  unfold dv dc PT ActB.cs
  go_enter Try.func8, Try.ntmps8
  go_upto_region 1 with fail
  rw [← hV]
  clear hV
  go_upto_region 4 with (go_at_call 16; refine HP.out.mono ?_; rintro e w2 ⟨a2, n2, c2, rfl, t2, q2⟩; have Q2 := hid q2; obtain ⟨z0, z1, z2, z3⟩ := HBX.out _ t2; clear i0 i1 i2; obtain ⟨c0, c1, c2', c3, c4, c5, c6, ff⟩ := dcs_at z0; have i1 := cell_at (j := 1) (v := .int .i64 a.rn) z1 rfl; have i2 := cell_at (j := 2) (v := .int .i64 a.nw) z1 rfl; clear q2 t2 z0 z1 z2 z3)
  go_upto_region 5 with (go_at_call 20; refine Q2.out.mono ?_; rintro e w3 ⟨a3, n3, c3', a4, n4, c4', rfl, q3⟩; have Q3 := hid q3; clear q3 c0 c1 c2' c3 c4 c5 c6 ff i1 i2)
  obtain ⟨W4, hW4⟩ : ∃ W4, W4 = w3.alloc (.cells (dc (.slice a3 n3 c3') S') 31) := ⟨_, rfl⟩
  obtain ⟨y1, y2, y3, y4⟩ := Q3.out
  have t4 : Touch [] w3 W4 := by rw [hW4]; exact (Touch.refl _ _).alloc _
  have hn : W4.heap[w3.heap.size]? = some (.cells (dc (.slice a3 n3 c3') S') 31 (0, 0)) := by rw [hW4]; exact heap_alloc_new w3 _
  obtain ⟨z0, z1, z2, z3⟩ := HBX.out _ (y3.trans t4 (fun _ e => by cases e))
  have hlt3 : w.heap.size + 2 < w3.heap.size := (HBX.out _ y3).2.2.2
  have HI : Hid (∀ w', Touch [] W4 w' → Calls Try.prog 11 #[.slice a2 n2 c2, .slice a4 n4 c4'] w' fun e w5 => e = .returned (.bool true) ∧ Touch [] W4 w5) := hid (fun w' T => (ints_ w' _ _ ls (y1.keep0 (t4.trans' T)) (y2.keep0 (t4.trans' T)) HLS.out).mono (fun e w5 q => ⟨q.1, T.trans' q.2⟩))
  have HY : Hid (∀ W5, Touch [w.heap.size + 2] W4 W5 → OnE (.returned (.tuple #[.pointer (some ⟨b, 0, none⟩), .agg #[.int .i64 S'.cnt, .int .i64 S'.win, .slice a3 n3 c3', .int .i64 S'.snc, .int .i64 S'.tim, .int .i64 S'.lst, .int .i64 S'.snt], .bool true])) w W5 F S' N) := hid (fun W5 T => HOE.out _ _ ⟨_, _, _, rfl⟩ (y4 W4 W5 t4 T))
  have HBN : Hid (∀ w', Touch [w.heap.size + 2] W4 w' → w'.heap[w3.heap.size]? = some (.cells (dc (.slice a3 n3 c3') S') 31 (0, 0))) := hid (fun w' T => T.keep hn (by simp; omega))
  have HB2 := hid z2
  unfold dc at hW4
  rw [← hW4]
  clear hW4 y1 y2 y3 y4 z0 z1 z2 z3 t4 hn Q3 Q2 HP HBX HOE HLS
  have g0 : ∀ w', Touch [w.heap.size + 2] W4 w' → w'.cell? ⟨w3.heap.size, 0, none⟩ = some (.int .i64 S'.cnt) := fun w' T => (dcs_at (HBN.out w' T)).c0
  have g1 : ∀ w', Touch [w.heap.size + 2] W4 w' → w'.cell? ⟨w3.heap.size, 1, none⟩ = some (.int .i64 S'.win) := fun w' T => (dcs_at (HBN.out w' T)).c1
  have g2 : ∀ w', Touch [w.heap.size + 2] W4 w' → w'.cell? ⟨w3.heap.size, 2, none⟩ = some (.slice a3 n3 c3') := fun w' T => (dcs_at (HBN.out w' T)).c2
  have g3 : ∀ w', Touch [w.heap.size + 2] W4 w' → w'.cell? ⟨w3.heap.size, 3, none⟩ = some (.int .i64 S'.snc) := fun w' T => (dcs_at (HBN.out w' T)).c3
  have g4 : ∀ w', Touch [w.heap.size + 2] W4 w' → w'.cell? ⟨w3.heap.size, 4, none⟩ = some (.int .i64 S'.tim) := fun w' T => (dcs_at (HBN.out w' T)).c4
  have g5 : ∀ w', Touch [w.heap.size + 2] W4 w' → w'.cell? ⟨w3.heap.size, 5, none⟩ = some (.int .i64 S'.lst) := fun w' T => (dcs_at (HBN.out w' T)).c5
  have g6 : ∀ w', Touch [w.heap.size + 2] W4 w' → w'.cell? ⟨w3.heap.size, 6, none⟩ = some (.int .i64 S'.snt) := fun w' T => (dcs_at (HBN.out w' T)).c6
  clear HBN hlt3
  have s0 : Touch [w.heap.size + 2] W4 W4.drew := (Touch.refl _ _).drew
  have sI : Touch [] W4 W4.drew := (Touch.refl _ _).drew
  refine wp_region_H (S := fun w' => Touch [w.heap.size + 2] W4 w') (by kernel_rfl) ?_
  refine wpH_take (i := 0) (v := (.pointer (some ⟨b, 0, none⟩))) (some 46) rfl rfl (by kernel_rfl) (by kernel_rfl) (by kernel_rfl) (fun _ _ _ h => h) (Or.inl ⟨by rfl, fun w' hS => (by go_simp)⟩) s0 ?_
  try simp only [Go.Act.put, List.setIfInBounds_toArray, List.set_cons_zero, List.set_cons_succ]
  refine wpH_take (i := 1) (v := (.agg #[.int .i64 S'.cnt, .int .i64 S'.win, .slice a3 n3 c3', .int .i64 S'.snc, .int .i64 S'.tim, .int .i64 S'.lst, .int .i64 S'.snt])) (some 47) rfl rfl (by kernel_rfl) (by kernel_rfl) (by kernel_rfl) (fun _ _ _ h => h) (Or.inl ⟨by rfl, fun w' hS => (by have z0 := g0 _ hS; have z1 := g1 _ hS; have z2 := g2 _ hS; have z3 := g3 _ hS; have z4 := g4 _ hS; have z5 := g5 _ hS; have z6 := g6 _ hS; go_simp)⟩) s0 ?_
  try simp only [Go.Act.put, List.setIfInBounds_toArray, List.set_cons_zero, List.set_cons_succ]
  refine wpH_take (i := 2) (v := (.slice a2 n2 c2)) (some 48) rfl rfl (by kernel_rfl) (by kernel_rfl) (by kernel_rfl) (fun _ _ _ h => h) (Or.inl ⟨by rfl, fun w' hS => (by go_simp)⟩) s0 ?_
  try simp only [Go.Act.put, List.setIfInBounds_toArray, List.set_cons_zero, List.set_cons_succ]
  refine wpH_take (i := 3) (v := (.slice a4 n4 c4')) (some 49) rfl rfl (by kernel_rfl) (by kernel_rfl) (by kernel_rfl) (fun _ _ _ h => h) (Or.inl ⟨by rfl, fun w' hS => (by go_simp)⟩) s0 ?_
  try simp only [Go.Act.put, List.setIfInBounds_toArray, List.set_cons_zero, List.set_cons_succ]
  refine wpH_call (i := 4) (o := { dst := some 50, op := Op.call { callee := Callee.value (Operand.func 11), args := #[Operand.tmp 48, Operand.tmp 49], argTypes := #[29, 29] }, type := 4, pos := _, after := #[{ on := 2, ground := Ground.data }, { on := 3, ground := Ground.data }], guard := none }) (by kernel_rfl) rfl (fun K' hK => ?_)
  rw [if_pos (by rfl)]
  go_simp
  refine (HI.out _ sI).mono ?_
  rintro e w5 ⟨rfl, t5⟩
  have t5' : Touch [w.heap.size + 2] W4 w5 := t5.mono (fun _ e => by cases e)
  obtain ⟨d0, d1, d2, d3, d4, d5, d6, gg⟩ := dcs_at (t5.keep HB2.out (by simp))
  refine hK.out _ _ t5' ?_
  clear hK
  try simp only [Go.Act.put, List.setIfInBounds_toArray, List.set_cons_zero, List.set_cons_succ]
  refine wpH_take (i := 5) (v := (.bool true)) (some 51) rfl rfl (by kernel_rfl) (by kernel_rfl) (by kernel_rfl) (fun _ _ _ h => h) (Or.inl ⟨by rfl, fun w' hS => (by go_simp)⟩) t5' ?_
  try simp only [Go.Act.put, List.setIfInBounds_toArray, List.set_cons_zero, List.set_cons_succ]
  refine wpH_take (i := 6) (v := (.int .i64 ek)) (some 52) rfl rfl (by kernel_rfl) (by kernel_rfl) (by kernel_rfl) (fun _ _ _ h => h) (Or.inl ⟨by rfl, fun w' hS => (by go_simp)⟩) t5' ?_
  try simp only [Go.Act.put, List.setIfInBounds_toArray, List.set_cons_zero, List.set_cons_succ]
  refine wpH_take (i := 7) (v := (.int .i64 ek)) (some 53) rfl rfl (by kernel_rfl) (by kernel_rfl) (by kernel_rfl) (fun _ _ _ h => h) (Or.inl ⟨by rfl, fun w' hS => (by go_simp)⟩) t5' ?_
  try simp only [Go.Act.put, List.setIfInBounds_toArray, List.set_cons_zero, List.set_cons_succ]
  refine wpH_take (i := 8) (v := (.bool true)) (some 54) rfl rfl (by kernel_rfl) (by kernel_rfl) (by kernel_rfl) (fun _ _ _ h => h) (Or.inl ⟨by rfl, fun w' hS => (by go_simp)⟩) t5' ?_
  try simp only [Go.Act.put, List.setIfInBounds_toArray, List.set_cons_zero, List.set_cons_succ]
  refine wpH_take (i := 9) (v := (.bool true)) (some 55) rfl rfl (by kernel_rfl) (by kernel_rfl) (by kernel_rfl) (fun _ _ _ h => h) (Or.inl ⟨by rfl, fun w' hS => (by go_simp)⟩) t5' ?_
  try simp only [Go.Act.put, List.setIfInBounds_toArray, List.set_cons_zero, List.set_cons_succ]
  refine wpH_take (i := 10) (v := (.pointer (some ⟨b, 0, none⟩))) (some 6) rfl rfl (by kernel_rfl) (by kernel_rfl) (by kernel_rfl) (fun _ _ _ h => h) (Or.inl ⟨by rfl, fun w' hS => (by go_simp)⟩) t5' ?_
  try simp only [Go.Act.put, List.setIfInBounds_toArray, List.set_cons_zero, List.set_cons_succ]
  refine wpH_call (i := 11) (o := { dst := none, op := Op.store 31 (Operand.tmp 7) (Operand.tmp 47), type := 0, pos := _, after := #[{ on := 1, ground := Ground.data }, { on := 10, ground := Ground.chain }, { on := 0, ground := Ground.phase }, { on := 1, ground := Ground.phase }, { on := 2, ground := Ground.textOnly Departure.lateStores }, { on := 3, ground := Ground.textOnly Departure.lateStores }, { on := 4, ground := Ground.textOnly Departure.lateStoresUnsure }, { on := 5, ground := Ground.textOnly Departure.lateStores }, { on := 6, ground := Ground.textOnly Departure.lateStores }, { on := 7, ground := Ground.textOnly Departure.lateStores }, { on := 8, ground := Ground.textOnly Departure.lateStores }, { on := 9, ground := Ground.textOnly Departure.lateStores }, { on := 10, ground := Ground.phase }], guard := none }) (by kernel_rfl) rfl (fun K' hK => ?_)
  rw [if_pos (by rfl)]
  go_simp
  refine hK.out _ _ (((((((t5'.setCell (Or.inl (by simp)) _).setCell (Or.inl (by simp)) _).setCell (Or.inl (by simp)) _).setCell (Or.inl (by simp)) _).setCell (Or.inl (by simp)) _).setCell (Or.inl (by simp)) _).setCell (Or.inl (by simp)) _) ?_
  clear hK
  try simp only [Go.Act.put, List.setIfInBounds_toArray, List.set_cons_zero, List.set_cons_succ]
  refine wpH_take (i := 12) (v := (.bool true)) (some 8) rfl rfl (by kernel_rfl) (by kernel_rfl) (by kernel_rfl) (fun _ _ _ h => h) (Or.inl ⟨by rfl, fun w' hS => (by go_simp)⟩) (((((((t5'.setCell (Or.inl (by simp)) _).setCell (Or.inl (by simp)) _).setCell (Or.inl (by simp)) _).setCell (Or.inl (by simp)) _).setCell (Or.inl (by simp)) _).setCell (Or.inl (by simp)) _).setCell (Or.inl (by simp)) _) ?_
  try simp only [Go.Act.put, List.setIfInBounds_toArray, List.set_cons_zero, List.set_cons_succ]
  refine wpAnyH_done (by kernel_rfl) ?_ _
  go_wp2
  refine bodyPost_ret (v := .tuple #[.pointer (some ⟨b, 0, none⟩), .agg #[.int .i64 S'.cnt, .int .i64 S'.win, .slice a3 n3 c3', .int .i64 S'.snc, .int .i64 S'.tim, .int .i64 S'.lst, .int .i64 S'.snt], .bool true]) (by simp [results, Try.results8, go_sem, d0, d1, d2, d3, d4, d5, d6]) rfl (HY.out _ ?_)
  exact (((((((t5'.setCell (Or.inl (by simp)) _).setCell (Or.inl (by simp)) _).setCell (Or.inl (by simp)) _).setCell (Or.inl (by simp)) _).setCell (Or.inl (by simp)) _).setCell (Or.inl (by simp)) _).setCell (Or.inl (by simp)) _)
set_option maxHeartbeats 8000000 in
set_option maxRecDepth 100000 in
theorem one_send (h : Bq w b F S N) (hu : Rd w u S.run) (ap : Ap S.run u F) (hN : N ≤ 6000000000000) (ha : a.ok) (hk : a.kd = 1) : Calls Try.prog 8 #[PT b, dv u S, .agg a.cs] w fun e w' => OnE e w w' F (sendS S a.nw) N := by
  obtain ⟨al, cl, rfl, _, _⟩ := hu.form
  obtain ⟨V, hV⟩ : ∃ V, V = ((w.alloc (.cells (dc (.slice al S.run.length cl) S) 31)).alloc (.cells a.cs 35)).alloc (.cells zd 31) := ⟨_, rfl⟩
  obtain ⟨tv, hz, hb0, hb1, hb2⟩ := boxA w (.slice al S.run.length cl) S a V hV
  have hF : ∀ q, q ∈ F → q < w.heap.size := h.lt
  have HBX : Hid (∀ w', Touch F V w' → w'.heap[w.heap.size]? = some (.cells (dc (.slice al S.run.length cl) S) 31 (0, 0)) ∧ w'.heap[w.heap.size + 1]? = some (.cells a.cs 35 (0, 0)) ∧ w'.heap[w.heap.size + 2]? = some (.cells (dc (.slice none 0 0) Sz) 31 (0, 0)) ∧ w.heap.size + 2 < w'.heap.size) := hid (fun w' T => ⟨T.keep hb0 (fun e => by have := hF _ e; omega), T.keep hb1 (fun e => by have := hF _ e; omega), T.keep hb2 (fun e => by have := hF _ e; omega), Nat.lt_of_lt_of_le hz T.size⟩)
  have HP : Hid (Calls Try.prog 17 #[PT b, .int .i64 a.nw] V fun e w2 => ∃ a2 n2 c2, e = .returned (.tuple #[.slice a2 n2 c2, .int .i64 (wrongE S a.nw)]) ∧ Touch F V w2 ∧ Calls Try.prog 21 #[dv (.slice al S.run.length cl) S, .int .i64 a.nw] w2 fun e w3 => ∃ a3 n3 c3 a4 n4 c4, e = .returned (.tuple #[dv (.slice a3 n3 c3) (sendS S a.nw), .slice a4 n4 c4, .int .i64 (wrongE S a.nw)]) ∧ StP w V w2 w3 b F (sendS S a.nw) N (sendL S a.nw) (.slice a2 n2 c2) (.slice a3 n3 c3) (.slice a4 n4 c4)) := hid (by
    obtain ⟨sl, d, rfl, hm, hv⟩ := h.keep0 tv
    have hiv := hv
    refine (send_ (n := a.nw) hm hv hN).mono ?_
    rintro e w2 ⟨v2, rfl, q⟩
    obtain ⟨a2, n2, c2, rfl⟩ := q.2.2
    obtain ⟨F2, _, q2, _⟩ := q.1
    refine ⟨a2, n2, c2, rfl, q2, ?_⟩
    have hu2 : Rd w2 (.slice al S.run.length cl) S.run := (hu.keep0 tv).keepN q2 ap
    refine (rsend_ w2 _ S hu2 hiv hN a.nw).mono ?_
    rintro e w3 ⟨_, _, rfl, ⟨a3, n3, c3, rfl⟩, ⟨a4, n4, c4, rfl⟩, r1, r2, r5, r6⟩
    exact ⟨a3, n3, c3, a4, n4, c4, rfl, StP.mk h hu ap tv hz q r1 r2 r6 r5⟩)
  have HLS : Hid ((sendL S a.nw).length ≤ 65536) := hid (by obtain ⟨sl, d, rfl, hm, hv⟩ := h; have := hv.len; unfold sendL; split; simp; split; omega; simp)
  have i0 := cell_at (j := 0) (v := .int .i64 a.kd) hb1 rfl
  have i1 := cell_at (j := 1) (v := .int .i64 a.rn) hb1 rfl
  have i2 := cell_at (j := 2) (v := .int .i64 a.nw) hb1 rfl
  clear h hu ap ha tv hz hb0 hb1 hb2 hF
  have HOE : Hid (∀ w' u', (∃ a n c, u' = .slice a n c) → OnQ w w' F (sendS S a.nw) N b u' → OnE (.returned (.tuple #[PT b, dv u' (sendS S a.nw), .bool true])) w w' F (sendS S a.nw) N) := hid (fun w' u' hf q => ⟨b, u', rfl, hf, q⟩)
  generalize sendS S a.nw = S' at *
  generalize sendL S a.nw = ls at *
  generalize wrongE S a.nw = ek at *
  rw [hk] at i0
  clear hk
  unfold dc ActB.cs zd at hV
  unfold dv dc PT at HP
  unfold dv dc PT at HOE
  unfold dv dc PT ActB.cs
  go_enter Try.func8, Try.ntmps8
  go_upto_region 1 with fail
  rw [← hV]
  clear hV
  go_upto_region 8 with (go_at_call 17; refine HP.out.mono ?_; rintro e w2 ⟨a2, n2, c2, rfl, t2, q2⟩; have Q2 := hid q2; obtain ⟨z0, z1, z2, z3⟩ := HBX.out _ t2; clear i0 i1 i2; obtain ⟨c0, c1, c2', c3, c4, c5, c6, ff⟩ := dcs_at z0; have i1 := cell_at (j := 1) (v := .int .i64 a.rn) z1 rfl; have i2 := cell_at (j := 2) (v := .int .i64 a.nw) z1 rfl; clear q2 t2 z0 z1 z2 z3)
  go_upto_region 9 with (go_at_call 21; refine Q2.out.mono ?_; rintro e w3 ⟨a3, n3, c3', a4, n4, c4', rfl, q3⟩; have Q3 := hid q3; clear q3 c0 c1 c2' c3 c4 c5 c6 ff i1 i2)
  obtain ⟨W4, hW4⟩ : ∃ W4, W4 = w3.alloc (.cells (dc (.slice a3 n3 c3') S') 31) := ⟨_, rfl⟩
  obtain ⟨y1, y2, y3, y4⟩ := Q3.out
  have t4 : Touch [] w3 W4 := by rw [hW4]; exact (Touch.refl _ _).alloc _
  have hn : W4.heap[w3.heap.size]? = some (.cells (dc (.slice a3 n3 c3') S') 31 (0, 0)) := by rw [hW4]; exact heap_alloc_new w3 _
  obtain ⟨z0, z1, z2, z3⟩ := HBX.out _ (y3.trans t4 (fun _ e => by cases e))
  have hlt3 : w.heap.size + 2 < w3.heap.size := (HBX.out _ y3).2.2.2
  have HI : Hid (∀ w', Touch [] W4 w' → Calls Try.prog 11 #[.slice a2 n2 c2, .slice a4 n4 c4'] w' fun e w5 => e = .returned (.bool true) ∧ Touch [] W4 w5) := hid (fun w' T => (ints_ w' _ _ ls (y1.keep0 (t4.trans' T)) (y2.keep0 (t4.trans' T)) HLS.out).mono (fun e w5 q => ⟨q.1, T.trans' q.2⟩))
  have HY : Hid (∀ W5, Touch [w.heap.size + 2] W4 W5 → OnE (.returned (.tuple #[.pointer (some ⟨b, 0, none⟩), .agg #[.int .i64 S'.cnt, .int .i64 S'.win, .slice a3 n3 c3', .int .i64 S'.snc, .int .i64 S'.tim, .int .i64 S'.lst, .int .i64 S'.snt], .bool true])) w W5 F S' N) := hid (fun W5 T => HOE.out _ _ ⟨_, _, _, rfl⟩ (y4 W4 W5 t4 T))
  have HBN : Hid (∀ w', Touch [w.heap.size + 2] W4 w' → w'.heap[w3.heap.size]? = some (.cells (dc (.slice a3 n3 c3') S') 31 (0, 0))) := hid (fun w' T => T.keep hn (by simp; omega))
  have HB2 := hid z2
  unfold dc at hW4
  rw [← hW4]
  clear hW4 y1 y2 y3 y4 z0 z1 z2 z3 t4 hn Q3 Q2 HP HBX HOE HLS
  have g0 : ∀ w', Touch [w.heap.size + 2] W4 w' → w'.cell? ⟨w3.heap.size, 0, none⟩ = some (.int .i64 S'.cnt) := fun w' T => (dcs_at (HBN.out w' T)).c0
  have g1 : ∀ w', Touch [w.heap.size + 2] W4 w' → w'.cell? ⟨w3.heap.size, 1, none⟩ = some (.int .i64 S'.win) := fun w' T => (dcs_at (HBN.out w' T)).c1
  have g2 : ∀ w', Touch [w.heap.size + 2] W4 w' → w'.cell? ⟨w3.heap.size, 2, none⟩ = some (.slice a3 n3 c3') := fun w' T => (dcs_at (HBN.out w' T)).c2
  have g3 : ∀ w', Touch [w.heap.size + 2] W4 w' → w'.cell? ⟨w3.heap.size, 3, none⟩ = some (.int .i64 S'.snc) := fun w' T => (dcs_at (HBN.out w' T)).c3
  have g4 : ∀ w', Touch [w.heap.size + 2] W4 w' → w'.cell? ⟨w3.heap.size, 4, none⟩ = some (.int .i64 S'.tim) := fun w' T => (dcs_at (HBN.out w' T)).c4
  have g5 : ∀ w', Touch [w.heap.size + 2] W4 w' → w'.cell? ⟨w3.heap.size, 5, none⟩ = some (.int .i64 S'.lst) := fun w' T => (dcs_at (HBN.out w' T)).c5
  have g6 : ∀ w', Touch [w.heap.size + 2] W4 w' → w'.cell? ⟨w3.heap.size, 6, none⟩ = some (.int .i64 S'.snt) := fun w' T => (dcs_at (HBN.out w' T)).c6
  clear HBN hlt3
  have s0 : Touch [w.heap.size + 2] W4 W4.drew := (Touch.refl _ _).drew
  have sI : Touch [] W4 W4.drew := (Touch.refl _ _).drew
  refine wp_region_H (S := fun w' => Touch [w.heap.size + 2] W4 w') (by kernel_rfl) ?_
  refine wpH_take (i := 0) (v := (.pointer (some ⟨b, 0, none⟩))) (some 73) rfl rfl (by kernel_rfl) (by kernel_rfl) (by kernel_rfl) (fun _ _ _ h => h) (Or.inl ⟨by rfl, fun w' hS => (by go_simp)⟩) s0 ?_
  try simp only [Go.Act.put, List.setIfInBounds_toArray, List.set_cons_zero, List.set_cons_succ]
  refine wpH_take (i := 1) (v := (.agg #[.int .i64 S'.cnt, .int .i64 S'.win, .slice a3 n3 c3', .int .i64 S'.snc, .int .i64 S'.tim, .int .i64 S'.lst, .int .i64 S'.snt])) (some 74) rfl rfl (by kernel_rfl) (by kernel_rfl) (by kernel_rfl) (fun _ _ _ h => h) (Or.inl ⟨by rfl, fun w' hS => (by have z0 := g0 _ hS; have z1 := g1 _ hS; have z2 := g2 _ hS; have z3 := g3 _ hS; have z4 := g4 _ hS; have z5 := g5 _ hS; have z6 := g6 _ hS; go_simp)⟩) s0 ?_
  try simp only [Go.Act.put, List.setIfInBounds_toArray, List.set_cons_zero, List.set_cons_succ]
  refine wpH_take (i := 2) (v := (.slice a2 n2 c2)) (some 75) rfl rfl (by kernel_rfl) (by kernel_rfl) (by kernel_rfl) (fun _ _ _ h => h) (Or.inl ⟨by rfl, fun w' hS => (by go_simp)⟩) s0 ?_
  try simp only [Go.Act.put, List.setIfInBounds_toArray, List.set_cons_zero, List.set_cons_succ]
  refine wpH_take (i := 3) (v := (.slice a4 n4 c4')) (some 76) rfl rfl (by kernel_rfl) (by kernel_rfl) (by kernel_rfl) (fun _ _ _ h => h) (Or.inl ⟨by rfl, fun w' hS => (by go_simp)⟩) s0 ?_
  try simp only [Go.Act.put, List.setIfInBounds_toArray, List.set_cons_zero, List.set_cons_succ]
  refine wpH_call (i := 4) (o := { dst := some 77, op := Op.call { callee := Callee.value (Operand.func 11), args := #[Operand.tmp 75, Operand.tmp 76], argTypes := #[29, 29] }, type := 4, pos := _, after := #[{ on := 2, ground := Ground.data }, { on := 3, ground := Ground.data }], guard := none }) (by kernel_rfl) rfl (fun K' hK => ?_)
  rw [if_pos (by rfl)]
  go_simp
  refine (HI.out _ sI).mono ?_
  rintro e w5 ⟨rfl, t5⟩
  have t5' : Touch [w.heap.size + 2] W4 w5 := t5.mono (fun _ e => by cases e)
  obtain ⟨d0, d1, d2, d3, d4, d5, d6, gg⟩ := dcs_at (t5.keep HB2.out (by simp))
  refine hK.out _ _ t5' ?_
  clear hK
  try simp only [Go.Act.put, List.setIfInBounds_toArray, List.set_cons_zero, List.set_cons_succ]
  refine wpH_take (i := 5) (v := (.bool true)) (some 78) rfl rfl (by kernel_rfl) (by kernel_rfl) (by kernel_rfl) (fun _ _ _ h => h) (Or.inl ⟨by rfl, fun w' hS => (by go_simp)⟩) t5' ?_
  try simp only [Go.Act.put, List.setIfInBounds_toArray, List.set_cons_zero, List.set_cons_succ]
  refine wpH_take (i := 6) (v := (.int .i64 ek)) (some 79) rfl rfl (by kernel_rfl) (by kernel_rfl) (by kernel_rfl) (fun _ _ _ h => h) (Or.inl ⟨by rfl, fun w' hS => (by go_simp)⟩) t5' ?_
  try simp only [Go.Act.put, List.setIfInBounds_toArray, List.set_cons_zero, List.set_cons_succ]
  refine wpH_take (i := 7) (v := (.int .i64 ek)) (some 80) rfl rfl (by kernel_rfl) (by kernel_rfl) (by kernel_rfl) (fun _ _ _ h => h) (Or.inl ⟨by rfl, fun w' hS => (by go_simp)⟩) t5' ?_
  try simp only [Go.Act.put, List.setIfInBounds_toArray, List.set_cons_zero, List.set_cons_succ]
  refine wpH_take (i := 8) (v := (.bool true)) (some 81) rfl rfl (by kernel_rfl) (by kernel_rfl) (by kernel_rfl) (fun _ _ _ h => h) (Or.inl ⟨by rfl, fun w' hS => (by go_simp)⟩) t5' ?_
  try simp only [Go.Act.put, List.setIfInBounds_toArray, List.set_cons_zero, List.set_cons_succ]
  refine wpH_take (i := 9) (v := (.bool true)) (some 82) rfl rfl (by kernel_rfl) (by kernel_rfl) (by kernel_rfl) (fun _ _ _ h => h) (Or.inl ⟨by rfl, fun w' hS => (by go_simp)⟩) t5' ?_
  try simp only [Go.Act.put, List.setIfInBounds_toArray, List.set_cons_zero, List.set_cons_succ]
  refine wpH_take (i := 10) (v := (.pointer (some ⟨b, 0, none⟩))) (some 6) rfl rfl (by kernel_rfl) (by kernel_rfl) (by kernel_rfl) (fun _ _ _ h => h) (Or.inl ⟨by rfl, fun w' hS => (by go_simp)⟩) t5' ?_
  try simp only [Go.Act.put, List.setIfInBounds_toArray, List.set_cons_zero, List.set_cons_succ]
  refine wpH_call (i := 11) (o := { dst := none, op := Op.store 31 (Operand.tmp 7) (Operand.tmp 74), type := 0, pos := _, after := #[{ on := 1, ground := Ground.data }, { on := 10, ground := Ground.chain }, { on := 0, ground := Ground.phase }, { on := 1, ground := Ground.phase }, { on := 2, ground := Ground.textOnly Departure.lateStores }, { on := 3, ground := Ground.textOnly Departure.lateStores }, { on := 4, ground := Ground.textOnly Departure.lateStoresUnsure }, { on := 5, ground := Ground.textOnly Departure.lateStores }, { on := 6, ground := Ground.textOnly Departure.lateStores }, { on := 7, ground := Ground.textOnly Departure.lateStores }, { on := 8, ground := Ground.textOnly Departure.lateStores }, { on := 9, ground := Ground.textOnly Departure.lateStores }, { on := 10, ground := Ground.phase }], guard := none }) (by kernel_rfl) rfl (fun K' hK => ?_)
  rw [if_pos (by rfl)]
  go_simp
  refine hK.out _ _ (((((((t5'.setCell (Or.inl (by simp)) _).setCell (Or.inl (by simp)) _).setCell (Or.inl (by simp)) _).setCell (Or.inl (by simp)) _).setCell (Or.inl (by simp)) _).setCell (Or.inl (by simp)) _).setCell (Or.inl (by simp)) _) ?_
  clear hK
  try simp only [Go.Act.put, List.setIfInBounds_toArray, List.set_cons_zero, List.set_cons_succ]
  refine wpH_take (i := 12) (v := (.bool true)) (some 8) rfl rfl (by kernel_rfl) (by kernel_rfl) (by kernel_rfl) (fun _ _ _ h => h) (Or.inl ⟨by rfl, fun w' hS => (by go_simp)⟩) (((((((t5'.setCell (Or.inl (by simp)) _).setCell (Or.inl (by simp)) _).setCell (Or.inl (by simp)) _).setCell (Or.inl (by simp)) _).setCell (Or.inl (by simp)) _).setCell (Or.inl (by simp)) _).setCell (Or.inl (by simp)) _) ?_
  try simp only [Go.Act.put, List.setIfInBounds_toArray, List.set_cons_zero, List.set_cons_succ]
  refine wpAnyH_done (by kernel_rfl) ?_ _
  go_wp2
  refine bodyPost_ret (v := .tuple #[.pointer (some ⟨b, 0, none⟩), .agg #[.int .i64 S'.cnt, .int .i64 S'.win, .slice a3 n3 c3', .int .i64 S'.snc, .int .i64 S'.tim, .int .i64 S'.lst, .int .i64 S'.snt], .bool true]) (by simp [results, Try.results8, go_sem, d0, d1, d2, d3, d4, d5, d6]) rfl (HY.out _ ?_)
  exact (((((((t5'.setCell (Or.inl (by simp)) _).setCell (Or.inl (by simp)) _).setCell (Or.inl (by simp)) _).setCell (Or.inl (by simp)) _).setCell (Or.inl (by simp)) _).setCell (Or.inl (by simp)) _).setCell (Or.inl (by simp)) _)
set_option maxHeartbeats 8000000 in
set_option maxRecDepth 100000 in
theorem one_force (h : Bq w b F S N) (hu : Rd w u S.run) (ap : Ap S.run u F) (hN : N ≤ 6000000000000) (ha : a.ok) (hk : a.kd = 2) : Calls Try.prog 8 #[PT b, dv u S, .agg a.cs] w fun e w' => OnE e w w' F (forceS S) N := by
  obtain ⟨al, cl, rfl, _, _⟩ := hu.form
  obtain ⟨V, hV⟩ : ∃ V, V = ((w.alloc (.cells (dc (.slice al S.run.length cl) S) 31)).alloc (.cells a.cs 35)).alloc (.cells zd 31) := ⟨_, rfl⟩
  obtain ⟨tv, hz, hb0, hb1, hb2⟩ := boxA w (.slice al S.run.length cl) S a V hV
  have hF : ∀ q, q ∈ F → q < w.heap.size := h.lt
  have HBX : Hid (∀ w', Touch F V w' → w'.heap[w.heap.size]? = some (.cells (dc (.slice al S.run.length cl) S) 31 (0, 0)) ∧ w'.heap[w.heap.size + 1]? = some (.cells a.cs 35 (0, 0)) ∧ w'.heap[w.heap.size + 2]? = some (.cells (dc (.slice none 0 0) Sz) 31 (0, 0)) ∧ w.heap.size + 2 < w'.heap.size) := hid (fun w' T => ⟨T.keep hb0 (fun e => by have := hF _ e; omega), T.keep hb1 (fun e => by have := hF _ e; omega), T.keep hb2 (fun e => by have := hF _ e; omega), Nat.lt_of_lt_of_le hz T.size⟩)
  have HP : Hid (Calls Try.prog 18 #[PT b] V fun e w2 => ∃ a2 n2 c2, e = .returned (.slice a2 n2 c2) ∧ Touch F V w2 ∧ Calls Try.prog 22 #[dv (.slice al S.run.length cl) S] w2 fun e w3 => ∃ a3 n3 c3 a4 n4 c4, e = .returned (.tuple #[dv (.slice a3 n3 c3) (forceS S), .slice a4 n4 c4]) ∧ StP w V w2 w3 b F (forceS S) N (S.run) (.slice a2 n2 c2) (.slice a3 n3 c3) (.slice a4 n4 c4)) := hid (by
    obtain ⟨sl, d, rfl, hm, hv⟩ := h.keep0 tv
    have hiv := hv
    refine (force_step hm hv hN (Touch.refl _ _) (Nf.refl _ _)).mono ?_
    rintro e w2 ⟨v2, rfl, _, q⟩
    obtain ⟨a2, n2, c2, rfl⟩ := q.2.2
    obtain ⟨F2, _, q2, _⟩ := q.1
    refine ⟨a2, n2, c2, rfl, q2, ?_⟩
    have hu2 : Rd w2 (.slice al S.run.length cl) S.run := (hu.keep0 tv).keepN q2 ap
    refine (rforce_ w2 _ S hu2 hiv.n1 (by have := hiv.n2; omega)).mono ?_
    rintro e w3 ⟨_, rfl, ⟨a3, n3, c3, rfl⟩, r1, r2', r5, r6⟩
    have r2 : Un w2 (Value.slice al S.run.length cl) (Value.slice a3 n3 c3) := Or.inr r2'
    obtain ⟨a4, n4, c4, e4⟩ : ∃ a4 n4 c4, Value.slice al S.run.length cl = .slice a4 n4 c4 := ⟨_, _, _, rfl⟩
    rw [e4] at r5 ⊢
    exact ⟨a3, n3, c3, a4, n4, c4, rfl, StP.mk h hu ap tv hz q r1 r2 r6 r5⟩)
  have HLS : Hid ((S.run).length ≤ 65536) := hid (by obtain ⟨sl, d, rfl, hm, hv⟩ := h; have := hv.len; omega)
  have i0 := cell_at (j := 0) (v := .int .i64 a.kd) hb1 rfl
  have i1 := cell_at (j := 1) (v := .int .i64 a.rn) hb1 rfl
  have i2 := cell_at (j := 2) (v := .int .i64 a.nw) hb1 rfl
  clear h hu ap ha tv hz hb0 hb1 hb2 hF
  have HOE : Hid (∀ w' u', (∃ a n c, u' = .slice a n c) → OnQ w w' F (forceS S) N b u' → OnE (.returned (.tuple #[PT b, dv u' (forceS S), .bool true])) w w' F (forceS S) N) := hid (fun w' u' hf q => ⟨b, u', rfl, hf, q⟩)
  generalize forceS S = S' at *
  generalize S.run = ls at *
  rw [hk] at i0
  clear hk
  unfold dc ActB.cs zd at hV
  unfold dv dc PT at HP
  unfold dv dc PT at HOE
  unfold dv dc PT ActB.cs
  go_enter Try.func8, Try.ntmps8
  go_upto_region 1 with fail
  rw [← hV]
  clear hV
  go_upto_region 12 with (go_at_call 18; refine HP.out.mono ?_; rintro e w2 ⟨a2, n2, c2, rfl, t2, q2⟩; have Q2 := hid q2; obtain ⟨z0, z1, z2, z3⟩ := HBX.out _ t2; clear i0 i1 i2; obtain ⟨c0, c1, c2', c3, c4, c5, c6, ff⟩ := dcs_at z0; have i1 := cell_at (j := 1) (v := .int .i64 a.rn) z1 rfl; have i2 := cell_at (j := 2) (v := .int .i64 a.nw) z1 rfl; clear q2 t2 z0 z1 z2 z3)
  go_upto_region 13 with (go_at_call 22; refine Q2.out.mono ?_; rintro e w3 ⟨a3, n3, c3', a4, n4, c4', rfl, q3⟩; have Q3 := hid q3; clear q3 c0 c1 c2' c3 c4 c5 c6 ff i1 i2)
  obtain ⟨W4, hW4⟩ : ∃ W4, W4 = w3.alloc (.cells (dc (.slice a3 n3 c3') S') 31) := ⟨_, rfl⟩
  obtain ⟨y1, y2, y3, y4⟩ := Q3.out
  have t4 : Touch [] w3 W4 := by rw [hW4]; exact (Touch.refl _ _).alloc _
  have hn : W4.heap[w3.heap.size]? = some (.cells (dc (.slice a3 n3 c3') S') 31 (0, 0)) := by rw [hW4]; exact heap_alloc_new w3 _
  obtain ⟨z0, z1, z2, z3⟩ := HBX.out _ (y3.trans t4 (fun _ e => by cases e))
  have hlt3 : w.heap.size + 2 < w3.heap.size := (HBX.out _ y3).2.2.2
  have HI : Hid (∀ w', Touch [] W4 w' → Calls Try.prog 11 #[.slice a2 n2 c2, .slice a4 n4 c4'] w' fun e w5 => e = .returned (.bool true) ∧ Touch [] W4 w5) := hid (fun w' T => (ints_ w' _ _ ls (y1.keep0 (t4.trans' T)) (y2.keep0 (t4.trans' T)) HLS.out).mono (fun e w5 q => ⟨q.1, T.trans' q.2⟩))
  have HY : Hid (∀ W5, Touch [w.heap.size + 2] W4 W5 → OnE (.returned (.tuple #[.pointer (some ⟨b, 0, none⟩), .agg #[.int .i64 S'.cnt, .int .i64 S'.win, .slice a3 n3 c3', .int .i64 S'.snc, .int .i64 S'.tim, .int .i64 S'.lst, .int .i64 S'.snt], .bool true])) w W5 F S' N) := hid (fun W5 T => HOE.out _ _ ⟨_, _, _, rfl⟩ (y4 W4 W5 t4 T))
  have HBN : Hid (∀ w', Touch [w.heap.size + 2] W4 w' → w'.heap[w3.heap.size]? = some (.cells (dc (.slice a3 n3 c3') S') 31 (0, 0))) := hid (fun w' T => T.keep hn (by simp; omega))
  have HB2 := hid z2
  unfold dc at hW4
  rw [← hW4]
  clear hW4 y1 y2 y3 y4 z0 z1 z2 z3 t4 hn Q3 Q2 HP HBX HOE HLS
  have g0 : ∀ w', Touch [w.heap.size + 2] W4 w' → w'.cell? ⟨w3.heap.size, 0, none⟩ = some (.int .i64 S'.cnt) := fun w' T => (dcs_at (HBN.out w' T)).c0
  have g1 : ∀ w', Touch [w.heap.size + 2] W4 w' → w'.cell? ⟨w3.heap.size, 1, none⟩ = some (.int .i64 S'.win) := fun w' T => (dcs_at (HBN.out w' T)).c1
  have g2 : ∀ w', Touch [w.heap.size + 2] W4 w' → w'.cell? ⟨w3.heap.size, 2, none⟩ = some (.slice a3 n3 c3') := fun w' T => (dcs_at (HBN.out w' T)).c2
  have g3 : ∀ w', Touch [w.heap.size + 2] W4 w' → w'.cell? ⟨w3.heap.size, 3, none⟩ = some (.int .i64 S'.snc) := fun w' T => (dcs_at (HBN.out w' T)).c3
  have g4 : ∀ w', Touch [w.heap.size + 2] W4 w' → w'.cell? ⟨w3.heap.size, 4, none⟩ = some (.int .i64 S'.tim) := fun w' T => (dcs_at (HBN.out w' T)).c4
  have g5 : ∀ w', Touch [w.heap.size + 2] W4 w' → w'.cell? ⟨w3.heap.size, 5, none⟩ = some (.int .i64 S'.lst) := fun w' T => (dcs_at (HBN.out w' T)).c5
  have g6 : ∀ w', Touch [w.heap.size + 2] W4 w' → w'.cell? ⟨w3.heap.size, 6, none⟩ = some (.int .i64 S'.snt) := fun w' T => (dcs_at (HBN.out w' T)).c6
  clear HBN hlt3
  have s0 : Touch [w.heap.size + 2] W4 W4.drew := (Touch.refl _ _).drew
  have sI : Touch [] W4 W4.drew := (Touch.refl _ _).drew
  refine wp_region_H (S := fun w' => Touch [w.heap.size + 2] W4 w') (by kernel_rfl) ?_
  refine wpH_take (i := 0) (v := (.pointer (some ⟨b, 0, none⟩))) (some 92) rfl rfl (by kernel_rfl) (by kernel_rfl) (by kernel_rfl) (fun _ _ _ h => h) (Or.inl ⟨by rfl, fun w' hS => (by go_simp)⟩) s0 ?_
  try simp only [Go.Act.put, List.setIfInBounds_toArray, List.set_cons_zero, List.set_cons_succ]
  refine wpH_take (i := 1) (v := (.agg #[.int .i64 S'.cnt, .int .i64 S'.win, .slice a3 n3 c3', .int .i64 S'.snc, .int .i64 S'.tim, .int .i64 S'.lst, .int .i64 S'.snt])) (some 93) rfl rfl (by kernel_rfl) (by kernel_rfl) (by kernel_rfl) (fun _ _ _ h => h) (Or.inl ⟨by rfl, fun w' hS => (by have z0 := g0 _ hS; have z1 := g1 _ hS; have z2 := g2 _ hS; have z3 := g3 _ hS; have z4 := g4 _ hS; have z5 := g5 _ hS; have z6 := g6 _ hS; go_simp)⟩) s0 ?_
  try simp only [Go.Act.put, List.setIfInBounds_toArray, List.set_cons_zero, List.set_cons_succ]
  refine wpH_take (i := 2) (v := (.slice a2 n2 c2)) (some 94) rfl rfl (by kernel_rfl) (by kernel_rfl) (by kernel_rfl) (fun _ _ _ h => h) (Or.inl ⟨by rfl, fun w' hS => (by go_simp)⟩) s0 ?_
  try simp only [Go.Act.put, List.setIfInBounds_toArray, List.set_cons_zero, List.set_cons_succ]
  refine wpH_take (i := 3) (v := (.slice a4 n4 c4')) (some 95) rfl rfl (by kernel_rfl) (by kernel_rfl) (by kernel_rfl) (fun _ _ _ h => h) (Or.inl ⟨by rfl, fun w' hS => (by go_simp)⟩) s0 ?_
  try simp only [Go.Act.put, List.setIfInBounds_toArray, List.set_cons_zero, List.set_cons_succ]
  refine wpH_call (i := 4) (o := { dst := some 96, op := Op.call { callee := Callee.value (Operand.func 11), args := #[Operand.tmp 94, Operand.tmp 95], argTypes := #[29, 29] }, type := 4, pos := _, after := #[{ on := 2, ground := Ground.data }, { on := 3, ground := Ground.data }], guard := none }) (by kernel_rfl) rfl (fun K' hK => ?_)
  rw [if_pos (by rfl)]
  go_simp
  refine (HI.out _ sI).mono ?_
  rintro e w5 ⟨rfl, t5⟩
  have t5' : Touch [w.heap.size + 2] W4 w5 := t5.mono (fun _ e => by cases e)
  obtain ⟨d0, d1, d2, d3, d4, d5, d6, gg⟩ := dcs_at (t5.keep HB2.out (by simp))
  refine hK.out _ _ t5' ?_
  clear hK
  try simp only [Go.Act.put, List.setIfInBounds_toArray, List.set_cons_zero, List.set_cons_succ]
  refine wpH_take (i := 5) (v := (.pointer (some ⟨b, 0, none⟩))) (some 6) rfl rfl (by kernel_rfl) (by kernel_rfl) (by kernel_rfl) (fun _ _ _ h => h) (Or.inl ⟨by rfl, fun w' hS => (by go_simp)⟩) t5' ?_
  try simp only [Go.Act.put, List.setIfInBounds_toArray, List.set_cons_zero, List.set_cons_succ]
  refine wpH_call (i := 6) (o := { dst := none, op := Op.store 31 (Operand.tmp 7) (Operand.tmp 93), type := 0, pos := _, after := #[{ on := 1, ground := Ground.data }, { on := 5, ground := Ground.chain }, { on := 0, ground := Ground.phase }, { on := 1, ground := Ground.phase }, { on := 2, ground := Ground.textOnly Departure.lateStores }, { on := 3, ground := Ground.textOnly Departure.lateStores }, { on := 4, ground := Ground.textOnly Departure.lateStoresUnsure }, { on := 5, ground := Ground.phase }], guard := none }) (by kernel_rfl) rfl (fun K' hK => ?_)
  rw [if_pos (by rfl)]
  go_simp
  refine hK.out _ _ (((((((t5'.setCell (Or.inl (by simp)) _).setCell (Or.inl (by simp)) _).setCell (Or.inl (by simp)) _).setCell (Or.inl (by simp)) _).setCell (Or.inl (by simp)) _).setCell (Or.inl (by simp)) _).setCell (Or.inl (by simp)) _) ?_
  clear hK
  try simp only [Go.Act.put, List.setIfInBounds_toArray, List.set_cons_zero, List.set_cons_succ]
  refine wpH_take (i := 7) (v := (.bool true)) (some 8) rfl rfl (by kernel_rfl) (by kernel_rfl) (by kernel_rfl) (fun _ _ _ h => h) (Or.inl ⟨by rfl, fun w' hS => (by go_simp)⟩) (((((((t5'.setCell (Or.inl (by simp)) _).setCell (Or.inl (by simp)) _).setCell (Or.inl (by simp)) _).setCell (Or.inl (by simp)) _).setCell (Or.inl (by simp)) _).setCell (Or.inl (by simp)) _).setCell (Or.inl (by simp)) _) ?_
  try simp only [Go.Act.put, List.setIfInBounds_toArray, List.set_cons_zero, List.set_cons_succ]
  refine wpAnyH_done (by kernel_rfl) ?_ _
  go_wp2
  refine bodyPost_ret (v := .tuple #[.pointer (some ⟨b, 0, none⟩), .agg #[.int .i64 S'.cnt, .int .i64 S'.win, .slice a3 n3 c3', .int .i64 S'.snc, .int .i64 S'.tim, .int .i64 S'.lst, .int .i64 S'.snt], .bool true]) (by simp [results, Try.results8, go_sem, d0, d1, d2, d3, d4, d5, d6]) rfl (HY.out _ ?_)
  exact (((((((t5'.setCell (Or.inl (by simp)) _).setCell (Or.inl (by simp)) _).setCell (Or.inl (by simp)) _).setCell (Or.inl (by simp)) _).setCell (Or.inl (by simp)) _).setCell (Or.inl (by simp)) _).setCell (Or.inl (by simp)) _)
end
end Go.Proofs.Ytogojdeohohhhaa
