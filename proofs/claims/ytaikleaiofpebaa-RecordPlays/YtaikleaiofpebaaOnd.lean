/- The law's one: a copy is taken and the old one let be; all kinds together. -/
import Derived.Test.YtaikleaiofpebaaOnc
namespace Go.Proofs.Ytaikleaiofpebaa
open Go.RowKit Go.Maps Go.ChangeMaps
set_option linter.unusedVariables false
set_option linter.unusedSimpArgs false
theorem on_fin2 {w V w2 w3 w4 W5 : World} {b b1 b2 N : Nat} {F F1 F2 : List Nat} {R : Rn} {S : St} {u : Value} (h : Rq w b F R S N) (hu : Rd w u S.who) (ap : Ap S.who u F) (tv : Touch [] w V) (hb : w.heap.size ≤ b2) (hb' : b2 < V.heap.size)
    (c1 : Rq w2 b1 F1 R S N) (c2 : Touch [] V w2) (c3 : ∀ d, d ∈ F1 → V.heap.size ≤ d) (q2 : Touch F w2 w3) (q3 : Nf w2 F F2) (p2 : Touch F2 w3 w4) (t5 : Touch [b2] w4 W5) : OnQ w W5 F R S N b1 u := by
  have hlt := h.lt
  have hlt1 := c1.lt
  have z1 := tv.size
  have z2 := c2.size
  have hF : ∀ d, d ∈ F2 → d ∈ F ∨ w2.heap.size ≤ d := q3
  refine ⟨F1, (((c1.keep q2 (fun d hd e => ?_)).keep p2 (fun d hd e => ?_)).keep t5 (fun d hd e => ?_)).mono (Nat.le_succ _), (((hu.keep0 (tv.trans' c2)).keepN q2 (fun hx q hq => ap hx q hq)).keepN p2 (fun hx q hq e => ?_)).keepN t5 (fun hx q hq e => ?_), fun hx q hq e => ?_, ?_, fun d hd => Or.inr (Nat.le_trans z1 (c3 d hd))⟩
  · have := c3 d hd; have := hlt d e; omega
  · have := c3 d hd
    have := hlt1 d hd
    rcases hF d e with e | e
    · have := hlt d e; omega
    · omega
  · have := c3 d hd; simp only [List.mem_singleton] at e; omega
  · have := hu.blt hx hq
    rcases hF q e with e | e
    · exact ap hx q hq e
    · omega
  · have := hu.blt hx hq; simp only [List.mem_singleton] at e; omega
  · have := hu.blt hx hq; have := c3 q e; omega
  · have x1 : Touch F w w3 := ((tv.trans' c2).mono (fun _ q => by cases q)).trans' q2
    have x2 : Touch F w w4 := x1.trans p2 (fun i hi => (hF i hi).elim Or.inl (fun e => Or.inr (by omega)))
    exact x2.trans t5 (fun i hi => Or.inr (by simp at hi; omega))
set_option maxHeartbeats 4000000 in
set_option maxRecDepth 100000 in
theorem one7_copy (w : World) (b N : Nat) (F : List Nat) (R : Rn) (S : St) (u : Value) (ac : ActR) (h : Rq w b F R S N) (hu : Rd w u S.who) (ap : Ap S.who u F) (hN : N + 1 ≤ 3000000000000) (ha : WfA ac) (k0 : (ac.kd == 0) = false) (k1 : (ac.kd == 1) = false) (k2 : (ac.kd == 2) = false) (k3 : (ac.kd == 3) = false) : Calls Try.prog 7 #[PT b, dv u S, av ac] w fun e w' => OnE e w w' F R S N := by
  obtain ⟨a0, cp0, rfl, _, _⟩ := hu.form
  obtain ⟨V, hV⟩ : ∃ V, V = ((w.alloc (.cells (dc (.slice a0 S.who.length cp0) S) 39)).alloc (.cells (ca ac) 46)).alloc (.cells z39 39) := ⟨_, rfl⟩
  obtain ⟨tv, hsz, hb0, hb1, hb2⟩ := boxA w (.slice a0 S.who.length cp0) S ac V hV
  have hlt := h.lt
  have nF : ∀ i, w.heap.size ≤ i → ¬ i ∈ F := fun i hi e => by have := hlt i e; omega
  have HC := hid (clone20 V b N F R S (h.keep0 tv) (by omega))
  unfold CpE at HC
  have HJ : Hid (∀ w2, Touch [] V w2 → Calls Try.prog 13 #[PT b, .int .i64 1000] w2 fun e w' => e = .returned (.int .i64 (joinE S 1000)) ∧ RqE w2 w' b F R (joinS S 1000) (N + 1)) := fun w2 X => join13 w2 b N F R S (h.keep0 (tv.trans' X)) (by omega) 1000 (W64.mk (by omega) (by omega))
  unfold RqE at HJ
  have HE : Hid (∀ w3 F2, Rq w3 b F2 R (joinS S 1000) (N + 1) → Calls Try.prog 11 #[PT b, ov (9, 0, 0, 0)] w3 fun e w' => EnE e w3 w' b F2 R (joinS S 1000) (9, 0, 0, 0) (N + 1)) := fun w3 F2 q => end11 w3 b (N + 1) F2 R (joinS S 1000) q hN (9, 0, 0, 0)
  unfold EnE RqE at HE
  have HA : Hid (∀ w2 w3 w4 F2, Touch [] V w2 → Touch F w2 w3 → Nf w2 F F2 → Touch F2 w3 w4 → w4.heap[w.heap.size]? = some (.cells (dc (.slice a0 S.who.length cp0) S) 39 (0, 0)) ∧ w4.heap[w.heap.size + 1 + 1]? = some (.cells z39 39 (0, 0))) := fun w2 w3 w4 F2 x1 x2 x3 x4 => by
    have n2 : ∀ i, w.heap.size ≤ i → i < V.heap.size → ¬ i ∈ F2 := fun i hi hj e => by
      have := x1.size
      rcases x3 i e with q | q
      · exact nF i hi q
      · omega
    exact ⟨x4.keep (x2.keep (x1.keep hb0 (by simp)) (nF _ (Nat.le_refl _))) (n2 _ (Nat.le_refl _) (by omega)), x4.keep (x2.keep (x1.keep hb2 (by simp)) (nF _ (by omega))) (n2 _ (by omega) (by omega))⟩
  have HFN : Hid (∀ w2 b1 F1 w3 F2 w4 W5, Rq w2 b1 F1 R S N → Touch [] V w2 → (∀ d, d ∈ F1 → V.heap.size ≤ d) → Touch F w2 w3 → Nf w2 F F2 → Touch F2 w3 w4 → Touch [w.heap.size + 1 + 1] w4 W5 → OnQ w W5 F R S N b1 (.slice a0 S.who.length cp0)) := fun w2 b1 F1 w3 F2 w4 W5 x1 x2 x3 x4 x5 x6 x7 => on_fin2 h hu ap tv (by omega) (by omega) x1 x2 x3 x4 x5 x6 x7
  have HB2 := hid hsz
  have y0 := cell_at (j := 0) (v := .int .i64 ac.kd) hb1 rfl
  clear h hu ap tv hsz hb0 hb1 hb2 hlt nF ha hN
  generalize joinE S 1000 = E at *
  generalize joinS S 1000 = T at *
  unfold PT at *
  unfold ov at HE
  unfold av
  unfold dv dc
  unfold dc ca z39 at hV
  generalize ac.kd = kd at *
  go_enter Try.func7, Try.ntmps7
  go_upto_region 1 with fail
  rw [← hV]
  clear hV
  go_upto_region 28 with (first
    | (go_at_call 20; refine HC.out.mono ?_; rintro e w2 ⟨b1, F1, rfl, q1, q2, q3⟩; have Q1 := hid (And.intro q1 (And.intro q2 q3)); clear q1 q2 q3)
    | (go_at_call 13; refine (HJ.out _ Q1.out.2.1).mono ?_; rintro e w3 ⟨rfl, F2, q1, q2, q3⟩; have Q2 := hid (And.intro q1 (And.intro q2 q3)); clear q1 q2 q3)
    | (go_at_call 11; refine (HE.out _ _ Q2.out.1).mono ?_; rintro e w4 ⟨v9, rfl, q0, F3, q1, q2, q3⟩; have Q3 := hid q2; clear q0 q1 q2 q3))
  have hz := HA.out w2 w3 w4 F2 Q1.out.2.1 Q2.out.2.1 Q2.out.2.2 Q3.out
  have hM : ∀ w', Touch [w.heap.size + 1 + 1] w4 w' → Dcs w' w.heap.size (.slice a0 S.who.length cp0) S := fun w' X => dcs_at (X.keep hz.1 (by simp <;> omega))
  have M0 := fun w' X => (hM w' X).c0
  have M1 := fun w' X => (hM w' X).c1
  have M2 := fun w' X => (hM w' X).c2
  have M3 := fun w' X => (hM w' X).c3
  have M4 := fun w' X => (hM w' X).c4
  have M5 := fun w' X => (hM w' X).c5
  have M6 := fun w' X => (hM w' X).c6
  have M7 := fun w' X => (hM w' X).c7
  have HG : Hid (∀ W5, Touch [w.heap.size + 1 + 1] w4 W5 → OnQ w W5 F R S N b1 (.slice a0 S.who.length cp0)) := fun W5 X => HFN.out w2 b1 F1 w3 F2 w4 W5 Q1.out.1 Q1.out.2.1 Q1.out.2.2 Q2.out.2.1 Q2.out.2.2 Q3.out X
  obtain ⟨d0, d1, d2, d3, d4, d5, d6, d7⟩ := dcs_at (S := Sz) (u := .slice none 0 0) hz.2
  have gg := froz_at hz.2
  clear hM HFN hz Q1 Q2 Q3 HC HJ HE HA y0 k0 k1 k2 k3
  have k0 : Touch [w.heap.size + 1 + 1] w4 w4.drew := (Touch.refl _ _).drew
  refine wp_region_H (S := fun w' => Touch [w.heap.size + 1 + 1] w4 w') (by kernel_rfl) ?_
  refine wpH_take (i := 0) (v := (.pointer (some ⟨b1, 0, none⟩))) (some 155) rfl rfl (by kernel_rfl) (by kernel_rfl) (by kernel_rfl) (fun _ _ _ h => h) (Or.inl ⟨by rfl, fun w' hS => (by go_simp)⟩) k0 ?_
  try simp only [Go.Act.put, List.setIfInBounds_toArray, List.set_cons_zero, List.set_cons_succ]
  refine wpH_take (i := 1) (v := (.agg #[.slice a0 S.who.length cp0, .bool S.kept, .bool S.canc, .bool S.ended, .int .i64 S.out.1, .int .i64 S.out.2.1, .int .i64 S.out.2.2.1, .int .i64 S.out.2.2.2])) (some 156) rfl rfl (by kernel_rfl) (by kernel_rfl) (by kernel_rfl) (fun _ _ _ h => h) (Or.inl ⟨by rfl, fun w' hS => (by have z0 := M0 _ hS; have z1 := M1 _ hS; have z2 := M2 _ hS; have z3 := M3 _ hS; have z4 := M4 _ hS; have z5 := M5 _ hS; have z6 := M6 _ hS; have z7 := M7 _ hS; go_simp)⟩) k0 ?_
  try simp only [Go.Act.put, List.setIfInBounds_toArray, List.set_cons_zero, List.set_cons_succ]
  refine wpH_take (i := 2) (v := (.pointer (some ⟨b1, 0, none⟩))) (some 157) rfl rfl (by kernel_rfl) (by kernel_rfl) (by kernel_rfl) (fun _ _ _ h => h) (Or.inl ⟨by rfl, fun w' hS => (by go_simp)⟩) k0 ?_
  try simp only [Go.Act.put, List.setIfInBounds_toArray, List.set_cons_zero, List.set_cons_succ]
  refine wpH_take (i := 3) (v := (.bool true)) (some 158) rfl rfl (by kernel_rfl) (by kernel_rfl) (by kernel_rfl) (fun _ _ _ h => h) (Or.inl ⟨by rfl, fun w' hS => (by go_simp)⟩) k0 ?_
  try simp only [Go.Act.put, List.setIfInBounds_toArray, List.set_cons_zero, List.set_cons_succ]
  refine wpH_take (i := 4) (v := (.pointer (some ⟨b1, 0, none⟩))) (some 6) rfl rfl (by kernel_rfl) (by kernel_rfl) (by kernel_rfl) (fun _ _ _ h => h) (Or.inl ⟨by rfl, fun w' hS => (by go_simp)⟩) k0 ?_
  try simp only [Go.Act.put, List.setIfInBounds_toArray, List.set_cons_zero, List.set_cons_succ]
  refine wpH_call (i := 5) (o := { dst := none, op := Op.store 39 (Operand.tmp 7) (Operand.tmp 156), type := 0, pos := _, after := #[{ on := 1, ground := Ground.data }, { on := 4, ground := Ground.chain }, { on := 0, ground := Ground.phase }, { on := 1, ground := Ground.phase }, { on := 2, ground := Ground.textOnly Departure.lateStores }, { on := 3, ground := Ground.textOnly Departure.lateStores }, { on := 4, ground := Ground.phase }], guard := none }) (by kernel_rfl) rfl (fun K' hK => ?_)
  rw [if_pos (by rfl)]
  go_simp
  refine hK.out _ _ ((((((((((Touch.refl [w.heap.size + 1 + 1] w4).setCell (Or.inl (by simp)) _).setCell (Or.inl (by simp)) _).setCell (Or.inl (by simp)) _).setCell (Or.inl (by simp)) _).setCell (Or.inl (by simp)) _).setCell (Or.inl (by simp)) _).setCell (Or.inl (by simp)) _).setCell (Or.inl (by simp)) _).drew) ?_
  clear hK
  try simp only [Go.Act.put, List.setIfInBounds_toArray, List.set_cons_zero, List.set_cons_succ]
  refine wpH_take (i := 6) (v := (.bool true)) (some 8) rfl rfl (by kernel_rfl) (by kernel_rfl) (by kernel_rfl) (fun _ _ _ h => h) (Or.inl ⟨by rfl, fun w' hS => (by go_simp)⟩) ((((((((((Touch.refl [w.heap.size + 1 + 1] w4).setCell (Or.inl (by simp)) _).setCell (Or.inl (by simp)) _).setCell (Or.inl (by simp)) _).setCell (Or.inl (by simp)) _).setCell (Or.inl (by simp)) _).setCell (Or.inl (by simp)) _).setCell (Or.inl (by simp)) _).setCell (Or.inl (by simp)) _).drew) ?_
  try simp only [Go.Act.put, List.setIfInBounds_toArray, List.set_cons_zero, List.set_cons_succ]
  refine wpAnyH_done (by kernel_rfl) ?_ _
  clear M0 M1 M2 M3 M4 M5 M6 M7 k0
  go_wp2
  exact bodyPost_ret (v := .tuple #[.pointer (some ⟨b1, 0, none⟩), .agg #[.slice a0 S.who.length cp0, .bool S.kept, .bool S.canc, .bool S.ended, .int .i64 S.out.1, .int .i64 S.out.2.1, .int .i64 S.out.2.2.1, .int .i64 S.out.2.2.2], .bool true]) (by simp [results, Try.results7, go_sem, d0, d1, d2, d3, d4, d5, d6, d7]) rfl ⟨b1, _, rfl, HG.out _ ((((((((((Touch.refl [w.heap.size + 1 + 1] w4).setCell (Or.inl (by simp)) _).setCell (Or.inl (by simp)) _).setCell (Or.inl (by simp)) _).setCell (Or.inl (by simp)) _).setCell (Or.inl (by simp)) _).setCell (Or.inl (by simp)) _).setCell (Or.inl (by simp)) _).setCell (Or.inl (by simp)) _).drew)⟩
theorem one7 (w : World) (b N : Nat) (F : List Nat) (R : Rn) (S : St) (u : Value) (ac : ActR) (h : Rq w b F R S N) (hu : Rd w u S.who) (ap : Ap S.who u F) (hN : N + 1 ≤ 3000000000000) (ha : WfA ac) : Calls Try.prog 7 #[PT b, dv u S, av ac] w fun e w' => OnE e w w' F R (stepS S ac) N := by
  unfold stepS
  split
  · exact one7_join w b N F R S u ac h hu ap hN ha (by assumption)
  split
  · exact one7_leave w b N F R S u ac h hu ap hN ha (by assumption)
  split
  · exact one7_rel w b N F R S u ac h hu ap hN ha (by assumption)
  split
  · exact one7_end w b N F R S u ac h hu ap hN ha (by assumption)
  · rename_i h0 h1 h2 h3
    exact one7_copy w b N F R S u ac h hu ap hN ha (by simpa using h0) (by simpa using h1) (by simpa using h2) (by simpa using h3)
end Go.Proofs.Ytaikleaiofpebaa
