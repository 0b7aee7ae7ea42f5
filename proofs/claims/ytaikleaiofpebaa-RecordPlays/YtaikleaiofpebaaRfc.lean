/- The contract of the document's Release. -/
import Derived.Test.YtaikleaiofpebaaRfb
namespace Go.Proofs.Ytaikleaiofpebaa
open Go.RowKit Go.Maps Go.ChangeMaps
set_option linter.unusedVariables false
set_option linter.unusedSimpArgs false
set_option maxHeartbeats 4000000 in
set_option maxRecDepth 100000 in
theorem rrel24 (w : World) (u : Value) (S : St) (h : Rd w u S.who) (hle : S.who.length ≤ 3000000000000) (iv : Iv S) : Calls Try.prog 24 #[dv u S] w fun e w' => RjE e w w' u (relS S) (fun v => .tuple #[v, .bool (relB S)]) := by
  obtain ⟨a, c, rfl, hc1, hc2⟩ := h.form
  obtain ⟨V, hV⟩ : ∃ V, V = (w.alloc (.cells (dc (.slice a S.who.length c) S) 39)).alloc (.cells z39 39) := ⟨_, rfl⟩
  obtain ⟨tv, hq⟩ := box2 w (.slice a S.who.length c) S V hV
  have TV := hid tv
  have HQ := hid hq
  have HSAME : Hid (∀ w', Touch [] w w' → Rd w' (.slice a S.who.length c) S.who ∧ Un w (.slice a S.who.length c) (.slice a S.who.length c) ∧ Touch [] w w') := fun w' T => ⟨h.keep0 T, Un.refl _ _, T⟩
  have HSV : Hid (w.heap.size + 1 < V.heap.size) := hid (by rw [hV, World.size_alloc, World.size_alloc]; omega)
  clear tv hq hc1 hc2
  cases hE : S.ended with
  | true =>
    have e2 : relS S = S := by unfold relS; rw [hE]; simp
    have e3 : relB S = false := by unfold relB; rw [hE]; simp
    unfold RjE
    rw [e2, e3]
    clear h e2 e3 iv
    obtain ⟨⟨c0, c1, c2, c3, c4, c5, c6, c7⟩, ff, ⟨d0, d1, d2, d3, d4, d5, d6, d7⟩, gg⟩ := HQ.out V (Touch.refl _ _)
    unfold dv dc
    unfold dc z39 at hV
    rw [hE] at c3 hV ⊢
    clear hE
    go_enter Try.func24, Try.ntmps24
    go_upto_region 1 with fail
    rw [← hV]
    clear hV
    go_wp2
    refine bodyPost_ret (v := .tuple #[.agg #[.slice a S.who.length c, .bool S.kept, .bool S.canc, .bool true, .int .i64 S.out.1, .int .i64 S.out.2.1, .int .i64 S.out.2.2.1, .int .i64 S.out.2.2.2], .bool false]) (by simp [results, Try.results24, go_sem, d0, d1, d2, d3, d4, d5, d6, d7]) rfl ⟨_, rfl, (HSAME.out _ ?_)⟩
    iterate 8 (refine Touch.setCell ?_ (Or.inr (by simp)) _)
    exact TV.out
  | false =>
    cases hK : S.kept with
    | false =>
      have e2 : relS S = S := by unfold relS; rw [hK]; simp
      have e3 : relB S = false := by unfold relB; rw [hK]; simp
      unfold RjE
      rw [e2, e3]
      clear h e2 e3 iv
      obtain ⟨⟨c0, c1, c2, c3, c4, c5, c6, c7⟩, ff, ⟨d0, d1, d2, d3, d4, d5, d6, d7⟩, gg⟩ := HQ.out V (Touch.refl _ _)
      unfold dv dc
      unfold dc z39 at hV
      rw [hE, hK] at hV ⊢
      rw [hE] at c3
      rw [hK] at c1
      clear hE hK
      go_enter Try.func24, Try.ntmps24
      go_upto_region 1 with fail
      rw [← hV]
      clear hV
      go_wp2
      refine bodyPost_ret (v := .tuple #[.agg #[.slice a S.who.length c, .bool false, .bool S.canc, .bool false, .int .i64 S.out.1, .int .i64 S.out.2.1, .int .i64 S.out.2.2.1, .int .i64 S.out.2.2.2], .bool false]) (by simp [results, Try.results24, go_sem, d0, d1, d2, d3, d4, d5, d6, d7]) rfl ⟨_, rfl, (HSAME.out _ ?_)⟩
      iterate 8 (refine Touch.setCell ?_ (Or.inr (by simp)) _)
      exact TV.out
    | true =>
      have hC : S.canc = false := by
        cases q : S.canc
        · rfl
        · have := (iv.ca hE q).2
          rw [hK] at this
          cases this
      have e2 : relS S = leftS { S with kept := false } := by unfold relS; rw [hK, hE]; simp
      have e3 : relB S = leftB { S with kept := false } := by unfold relB; rw [hK, hE]; simp
      unfold RjE
      rw [e2, e3]
      have T1 : Touch [w.heap.size] V (V.setCell ⟨w.heap.size, 1, none⟩ (.bool false)) := (Touch.refl _ _).setCell (Or.inl (by simp)) _
      have T1' : Hid (Touch [] w (V.setCell ⟨w.heap.size, 1, none⟩ (.bool false))) := TV.out.trans T1 (fun i hi => Or.inr (by simp at hi; omega))
      have HL := hid (rleft37 (V.setCell ⟨w.heap.size, 1, none⟩ (.bool false)) (.slice a S.who.length c) { S with kept := false } (h.keep0 T1'.out) hle hC)
      have HBX : Hid (∀ w2, Touch [] (V.setCell ⟨w.heap.size, 1, none⟩ (.bool false)) w2 → Dcs w2 (w.heap.size + 1) (.slice none 0 0) Sz ∧ (∀ i, w2.frozen? ⟨w.heap.size + 1, i, none⟩ = false)) := fun w2 T => by
        have q1 : V.heap[w.heap.size + 1]? = some (.cells z39 39 (0, 0)) := by
          rw [hV]
          have := heap_alloc_new (w.alloc (.cells (dc (.slice a S.who.length c) S) 39)) (.cells z39 39)
          rwa [World.size_alloc] at this
        have q2 := T.keep (T1.keep q1 (by simp)) (by simp)
        exact ⟨dcs_at q2, froz_at q2⟩
      obtain ⟨⟨c0, c1, c2, c3, c4, c5, c6, c7⟩, ff, ⟨d0, d1, d2, d3, d4, d5, d6, d7⟩, gg⟩ := HQ.out V (Touch.refl _ _)
      clear h e2 e3 iv d0 d1 d2 d3 d4 d5 d6 d7 gg T1
      have HLS : Hid (∃ C, C = leftB { S with kept := false }) := ⟨_, rfl⟩
      unfold leftS at HL ⊢
      unfold leftS at HSAME
      generalize leftB { S with kept := false } = B at *
      unfold dv dc at HL ⊢
      unfold dc z39 at hV
      simp only at HL ⊢
      rw [hE, hC, hK] at hV
      rw [hE, hC] at HL
      rw [hE, hC, hK]
      rw [hE] at c3
      rw [hC] at c2
      rw [hK] at c1
      clear hE hC hK
      go_enter Try.func24, Try.ntmps24
      go_upto_region 1 with fail
      rw [← hV]
      clear hV
      go_wp2_with (go_at_call 37; refine HL.out.mono ?_; rintro e w2 ⟨rfl, t2⟩; obtain ⟨⟨d0, d1, d2, d3, d4, d5, d6, d7⟩, gg⟩ := HBX.out _ t2; have T2 := hid (T1'.out.trans' t2); clear t2)
      refine bodyPost_ret (v := .tuple #[.agg #[.slice a S.who.length c, .bool false, .bool B, .bool false, .int .i64 S.out.1, .int .i64 S.out.2.1, .int .i64 S.out.2.2.1, .int .i64 S.out.2.2.2], .bool B]) (by simp [results, Try.results24, go_sem, d0, d1, d2, d3, d4, d5, d6, d7]) rfl ⟨_, rfl, (HSAME.out _ ?_)⟩
      iterate 8 (refine Touch.setCell ?_ (Or.inr (by simp)) _)
      exact T2.out
end Go.Proofs.Ytaikleaiofpebaa
