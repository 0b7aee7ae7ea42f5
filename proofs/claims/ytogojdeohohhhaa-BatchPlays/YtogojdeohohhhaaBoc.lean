/- The law's one act: a copy is taken, and the old one let be; and one act of whatever kind. -/
import Derived.Test.YtogojdeohohhhaaBob
namespace Go.Proofs.Ytogojdeohohhhaa
open Go.RowKit Go.Maps Go.ChangeMaps
set_option linter.unusedVariables false
set_option linter.unusedSimpArgs false
section
variable (w : World) (b : Nat) (F : List Nat) (S : Bs) (u : Value) (a : ActB) (N : Nat)
set_option maxHeartbeats 8000000 in
set_option maxRecDepth 100000 in
theorem one_copy (h : Bq w b F S N) (hu : Rd w u S.run) (ap : Ap S.run u F) (hN : N < 6000000000000) (hk0 : a.kd ≠ 0) (hk1 : a.kd ≠ 1) (hk2 : a.kd ≠ 2) : Calls Try.prog 8 #[PT b, dv u S, .agg a.cs] w fun e w' => OnE e w w' F S N := by
  obtain ⟨al, cl, rfl, _, _⟩ := hu.form
  obtain ⟨V, hV⟩ : ∃ V, V = ((w.alloc (.cells (dc (.slice al S.run.length cl) S) 31)).alloc (.cells a.cs 35)).alloc (.cells zd 31) := ⟨_, rfl⟩
  obtain ⟨tv, hz, hb0, hb1, hb2⟩ := boxA w (.slice al S.run.length cl) S a V hV
  have hF : ∀ q, q ∈ F → q < w.heap.size := h.lt
  have HBX : Hid (∀ w', Touch F V w' → w'.heap[w.heap.size]? = some (.cells (dc (.slice al S.run.length cl) S) 31 (0, 0)) ∧ w'.heap[w.heap.size + 2]? = some (.cells (dc (.slice none 0 0) Sz) 31 (0, 0))) := hid (fun w' T => ⟨T.keep hb0 (fun e => by have := hF _ e; omega), T.keep hb2 (fun e => by have := hF _ e; omega)⟩)
  have HP : Hid (Calls Try.prog 19 #[PT b] V fun e w2 => ∃ k, e = .returned (PT k) ∧ Calls Try.prog 16 #[PT b, .int .i64 4611686018427387904, .int .i64 1099511627776] w2 fun e w3 => ∃ a3 n3 c3 k3, e = .returned (.tuple #[.slice a3 n3 c3, .int .i64 k3]) ∧ Calls Try.prog 18 #[PT b] w3 fun e w4 => ∃ a4 n4 c4, e = .returned (.slice a4 n4 c4) ∧ Touch F V w4 ∧ ∀ W5, Touch [w.heap.size + 2] w4 W5 → OnE (.returned (.tuple #[PT k, dv (.slice al S.run.length cl) S, .bool true])) w W5 F S N) := hid (by
    obtain ⟨sl, d, rfl, hm, hv⟩ := h.keep0 tv
    refine (clone_ hm hv).mono ?_
    rintro e w2 ⟨k, Fk, rfl, p1, p2, p3⟩
    refine ⟨k, rfl, ?_⟩
    refine (add_ (n := 4611686018427387904) (x := 1099511627776) (hm.keep0 p2) hv (by omega) (W64.mk (by omega) (by omega))).mono ?_
    rintro e w3 ⟨v3, rfl, ⟨F3, ⟨sl3, d3, rfl, m3, v3'⟩, q2, q3⟩, q4, a3, n3, c3, rfl⟩
    refine ⟨a3, n3, c3, _, rfl, ?_⟩
    refine (force_step m3 v3' (by omega) (Touch.refl _ _) (Nf.refl _ _)).mono ?_
    rintro e w4 ⟨v4, rfl, ⟨a4, n4, c4, rfl⟩, ⟨F4, _, y2, _⟩, _, _⟩
    have t3 : Touch (fpB b sl) V w3 := (p2.mono (fun _ e => by cases e)).trans' q2
    have t4 : Touch (fpB b sl) V w4 := t3.trans y2 (fun q hq => (q3 q hq).elim Or.inl (fun e => Or.inr (Nat.le_trans p2.size e)))
    refine ⟨a4, n4, c4, rfl, t4, fun W5 t5 => ?_⟩
    have hkl := p1.lt
    refine ⟨k, _, rfl, ⟨_, _, _, rfl⟩, Fk, ?_, ?_, fun hx q hq e => ?_, ?_, fun q hq => Or.inr (Nat.le_trans tv.size (p3 q hq))⟩
    · have x1 : Bq w3 k Fk S N := p1.keep q2 (fun q hq e => by have := hF q e; have := p3 q hq; have := tv.size; omega)
      have x2 : Bq w4 k Fk S N := x1.keep y2 (fun q hq e => by
        rcases q3 q e with e' | e'
        · have := hF q e'; have := p3 q hq; have := tv.size; omega
        · have := hkl q hq; omega)
      exact (x2.keep t5 (fun q hq e => by have := p3 q hq; simp at e; omega)).mono (Nat.le_succ N)
    · exact ((hu.keep0 tv).keepN t4 ap).keepN t5 (fun hx q hq e => by have := hu.blt hx hq; simp at e; omega)
    · have := hu.blt hx hq
      have := p3 q e
      have := tv.size
      omega
    · exact ((tv.mono (fun _ e => by cases e)).trans' t4).trans t5 (fun q hq => Or.inr (by simp at hq; omega)))
  have i0 := cell_at (j := 0) (v := .int .i64 a.kd) hb1 rfl
  have j0 : (a.kd == 0) = false := by simpa using hk0
  have j1 : (a.kd == 1) = false := by simpa using hk1
  have j2 : (a.kd == 2) = false := by simpa using hk2
  clear h hu ap tv hz hb0 hb1 hb2 hF hk0 hk1 hk2
  unfold dc ActB.cs zd at hV
  unfold dv dc PT at HP
  unfold dv dc PT ActB.cs
  go_enter Try.func8, Try.ntmps8
  go_upto_region 1 with fail
  rw [← hV]
  clear hV
  go_upto_region 15 with (go_at_call 19; refine HP.out.mono ?_; rintro e w2 ⟨k, rfl, q2⟩; have Q2 := hid q2; clear q2)
  go_upto_region 16 with (go_at_call 16; refine Q2.out.mono ?_; rintro e w3 ⟨a3, n3, c3, k3, rfl, q3⟩; have Q3 := hid q3; clear q3)
  go_upto_region 17 with (go_at_call 18; refine Q3.out.mono ?_; rintro e w4 ⟨a4, n4, c4, rfl, t4, q4⟩; have HY := hid q4; have HT := hid t4; clear q4 t4)
  obtain ⟨z0, z2⟩ := HBX.out _ HT.out
  obtain ⟨d0, d1, d2, d3, d4, d5, d6, gg⟩ := dcs_at z2
  have HBN : Hid (∀ w', Touch [w.heap.size + 2] w4 w' → w'.heap[w.heap.size]? = some (.cells (dc (.slice al S.run.length cl) S) 31 (0, 0))) := hid (fun w' T => T.keep z0 (by simp))
  clear z0 z2 i0 j0 j1 j2 HP Q2 Q3
  have g0 : ∀ w', Touch [w.heap.size + 2] w4 w' → w'.cell? ⟨w.heap.size, 0, none⟩ = some (.int .i64 S.cnt) := fun w' T => (dcs_at (HBN.out w' T)).c0
  have g1 : ∀ w', Touch [w.heap.size + 2] w4 w' → w'.cell? ⟨w.heap.size, 1, none⟩ = some (.int .i64 S.win) := fun w' T => (dcs_at (HBN.out w' T)).c1
  have g2 : ∀ w', Touch [w.heap.size + 2] w4 w' → w'.cell? ⟨w.heap.size, 2, none⟩ = some (.slice al S.run.length cl) := fun w' T => (dcs_at (HBN.out w' T)).c2
  have g3 : ∀ w', Touch [w.heap.size + 2] w4 w' → w'.cell? ⟨w.heap.size, 3, none⟩ = some (.int .i64 S.snc) := fun w' T => (dcs_at (HBN.out w' T)).c3
  have g4 : ∀ w', Touch [w.heap.size + 2] w4 w' → w'.cell? ⟨w.heap.size, 4, none⟩ = some (.int .i64 S.tim) := fun w' T => (dcs_at (HBN.out w' T)).c4
  have g5 : ∀ w', Touch [w.heap.size + 2] w4 w' → w'.cell? ⟨w.heap.size, 5, none⟩ = some (.int .i64 S.lst) := fun w' T => (dcs_at (HBN.out w' T)).c5
  have g6 : ∀ w', Touch [w.heap.size + 2] w4 w' → w'.cell? ⟨w.heap.size, 6, none⟩ = some (.int .i64 S.snt) := fun w' T => (dcs_at (HBN.out w' T)).c6
  clear HBN
  have s0 : Touch [w.heap.size + 2] w4 w4.drew := (Touch.refl _ _).drew
  refine wp_region_H (S := fun w' => Touch [w.heap.size + 2] w4 w') (by kernel_rfl) ?_
  refine wpH_take (i := 0) (v := (.pointer (some ⟨k, 0, none⟩))) (some 103) rfl rfl (by kernel_rfl) (by kernel_rfl) (by kernel_rfl) (fun _ _ _ h => h) (Or.inl ⟨by rfl, fun w' hS => (by go_simp)⟩) s0 ?_
  try simp only [Go.Act.put, List.setIfInBounds_toArray, List.set_cons_zero, List.set_cons_succ]
  refine wpH_take (i := 1) (v := (.agg #[.int .i64 S.cnt, .int .i64 S.win, .slice al S.run.length cl, .int .i64 S.snc, .int .i64 S.tim, .int .i64 S.lst, .int .i64 S.snt])) (some 104) rfl rfl (by kernel_rfl) (by kernel_rfl) (by kernel_rfl) (fun _ _ _ h => h) (Or.inl ⟨by rfl, fun w' hS => (by have z0 := g0 _ hS; have z1 := g1 _ hS; have z2 := g2 _ hS; have z3 := g3 _ hS; have z4 := g4 _ hS; have z5 := g5 _ hS; have z6 := g6 _ hS; go_simp)⟩) s0 ?_
  try simp only [Go.Act.put, List.setIfInBounds_toArray, List.set_cons_zero, List.set_cons_succ]
  refine wpH_take (i := 2) (v := (.pointer (some ⟨k, 0, none⟩))) (some 105) rfl rfl (by kernel_rfl) (by kernel_rfl) (by kernel_rfl) (fun _ _ _ h => h) (Or.inl ⟨by rfl, fun w' hS => (by go_simp)⟩) s0 ?_
  try simp only [Go.Act.put, List.setIfInBounds_toArray, List.set_cons_zero, List.set_cons_succ]
  refine wpH_take (i := 3) (v := (.bool true)) (some 106) rfl rfl (by kernel_rfl) (by kernel_rfl) (by kernel_rfl) (fun _ _ _ h => h) (Or.inl ⟨by rfl, fun w' hS => (by go_simp)⟩) s0 ?_
  try simp only [Go.Act.put, List.setIfInBounds_toArray, List.set_cons_zero, List.set_cons_succ]
  refine wpH_take (i := 4) (v := (.pointer (some ⟨k, 0, none⟩))) (some 6) rfl rfl (by kernel_rfl) (by kernel_rfl) (by kernel_rfl) (fun _ _ _ h => h) (Or.inl ⟨by rfl, fun w' hS => (by go_simp)⟩) s0 ?_
  try simp only [Go.Act.put, List.setIfInBounds_toArray, List.set_cons_zero, List.set_cons_succ]
  refine wpH_call (i := 5) (o := { dst := none, op := Op.store 31 (Operand.tmp 7) (Operand.tmp 104), type := 0, pos := _, after := #[{ on := 1, ground := Ground.data }, { on := 4, ground := Ground.chain }, { on := 0, ground := Ground.phase }, { on := 1, ground := Ground.phase }, { on := 2, ground := Ground.textOnly Departure.lateStores }, { on := 3, ground := Ground.textOnly Departure.lateStores }, { on := 4, ground := Ground.phase }], guard := none }) (by kernel_rfl) rfl (fun K' hK => ?_)
  rw [if_pos (by rfl)]
  go_simp
  refine hK.out _ _ (((((((((Touch.refl _ _).setCell (Or.inl (by simp)) _).setCell (Or.inl (by simp)) _).setCell (Or.inl (by simp)) _).setCell (Or.inl (by simp)) _).setCell (Or.inl (by simp)) _).setCell (Or.inl (by simp)) _).setCell (Or.inl (by simp)) _).drew) ?_
  clear hK
  try simp only [Go.Act.put, List.setIfInBounds_toArray, List.set_cons_zero, List.set_cons_succ]
  refine wpH_take (i := 6) (v := (.bool true)) (some 8) rfl rfl (by kernel_rfl) (by kernel_rfl) (by kernel_rfl) (fun _ _ _ h => h) (Or.inl ⟨by rfl, fun w' hS => (by go_simp)⟩) (((((((((Touch.refl _ _).setCell (Or.inl (by simp)) _).setCell (Or.inl (by simp)) _).setCell (Or.inl (by simp)) _).setCell (Or.inl (by simp)) _).setCell (Or.inl (by simp)) _).setCell (Or.inl (by simp)) _).setCell (Or.inl (by simp)) _).drew) ?_
  try simp only [Go.Act.put, List.setIfInBounds_toArray, List.set_cons_zero, List.set_cons_succ]
  refine wpAnyH_done (by kernel_rfl) ?_ _
  go_wp2
  refine bodyPost_ret (v := .tuple #[.pointer (some ⟨k, 0, none⟩), .agg #[.int .i64 S.cnt, .int .i64 S.win, .slice al S.run.length cl, .int .i64 S.snc, .int .i64 S.tim, .int .i64 S.lst, .int .i64 S.snt], .bool true]) (by simp [results, Try.results8, go_sem, d0, d1, d2, d3, d4, d5, d6]) rfl (HY.out _ ?_)
  exact (((((((((Touch.refl _ _).setCell (Or.inl (by simp)) _).setCell (Or.inl (by simp)) _).setCell (Or.inl (by simp)) _).setCell (Or.inl (by simp)) _).setCell (Or.inl (by simp)) _).setCell (Or.inl (by simp)) _).setCell (Or.inl (by simp)) _).drew)
/-- One act of whatever kind. -/
theorem one_ (h : Bq w b F S N) (hu : Rd w u S.run) (ap : Ap S.run u F) (hN : N < 6000000000000) (ha : a.ok) : Calls Try.prog 8 #[PT b, dv u S, .agg a.cs] w fun e w' => OnE e w w' F (stepB S a) N := by
  unfold stepB
  by_cases h0 : a.kd = 0
  · rw [if_pos h0]; exact one_add w b F S u a N h hu ap (by omega) ha h0
  · rw [if_neg h0]
    by_cases h1 : a.kd = 1
    · rw [if_pos h1]; exact one_send w b F S u a N h hu ap (by omega) ha h1
    · rw [if_neg h1]
      by_cases h2 : a.kd = 2
      · rw [if_pos h2]; exact one_force w b F S u a N h hu ap (by omega) ha h2
      · rw [if_neg h2]; exact one_copy w b F S u a N h hu ap hN h0 h1 h2
end
end Go.Proofs.Ytogojdeohohhhaa
