/- The contracts of the document's Join and Release. -/
import Derived.Test.YtaikleaiofpebaaRfa
namespace Go.Proofs.Ytaikleaiofpebaa
open Go.RowKit Go.Maps Go.ChangeMaps
set_option linter.unusedVariables false
set_option linter.unusedSimpArgs false
def Un (w : World) (u u' : Value) : Prop := u' = u ∨ ∀ q, u'.ownBlock = some q → w.heap.size ≤ q
theorem Un.refl (w : World) (u : Value) : Un w u u := Or.inl rfl
theorem box2 (w : World) (u : Value) (S : St) (V : World) (hV : V = (w.alloc (.cells (dc u S) 39)).alloc (.cells z39 39)) : Touch [] w V ∧ ∀ w2, Touch [] V w2 → Dcs w2 w.heap.size u S ∧ (∀ i, w2.frozen? ⟨w.heap.size, i, none⟩ = false) ∧ Dcs w2 (w.heap.size + 1) (.slice none 0 0) Sz ∧ (∀ i, w2.frozen? ⟨w.heap.size + 1, i, none⟩ = false) := by
  have hb0 : V.heap[w.heap.size]? = some (.cells (dc u S) 39 (0, 0)) := by rw [hV]; exact ((Touch.refl [] _).alloc _).keep (heap_alloc_new w _) (by simp)
  have hb1 : V.heap[w.heap.size + 1]? = some (.cells z39 39 (0, 0)) := by
    rw [hV]
    have := heap_alloc_new (w.alloc (.cells (dc u S) 39)) (.cells z39 39)
    rwa [World.size_alloc] at this
  refine ⟨by rw [hV]; exact ((Touch.refl _ _).alloc _).alloc _, fun w2 T => ?_⟩
  have q0 := T.keep hb0 (by simp)
  have q1 := T.keep hb1 (by simp)
  exact ⟨dcs_at q0, froz_at q0, dcs_at q1, froz_at q1⟩
def RjE (e : Ending) (w w' : World) (u : Value) (S : St) (f : Value → Value) : Prop := ∃ u', e = .returned (f (dv u' S)) ∧ Rd w' u' S.who ∧ Un w u u' ∧ Touch [] w w'
set_option maxHeartbeats 4000000 in
set_option maxRecDepth 100000 in
theorem rjoin22 (w : World) (u : Value) (S : St) (h : Rd w u S.who) (hle : S.who.length ≤ 3000000000000) (x : Int) : Calls Try.prog 22 #[dv u S, .int .i64 x] w fun e w' => RjE e w w' u (joinS S x) (fun v => .tuple #[v, .int .i64 (joinE S x)]) := by
  obtain ⟨a, c, rfl, hc1, hc2⟩ := h.form
  obtain ⟨V, hV⟩ : ∃ V, V = (w.alloc (.cells (dc (.slice a S.who.length c) S) 39)).alloc (.cells z39 39) := ⟨_, rfl⟩
  obtain ⟨tv, hq⟩ := box2 w (.slice a S.who.length c) S V hV
  have TV := hid tv
  have HQ := hid hq
  have HSAME : Hid (∀ w', Touch [] w w' → Rd w' (.slice a S.who.length c) S.who ∧ Un w (.slice a S.who.length c) (.slice a S.who.length c) ∧ Touch [] w w') := fun w' T => ⟨h.keep0 T, Un.refl _ _, T⟩
  have HSV : Hid (w.heap.size + 1 < V.heap.size) := hid (by rw [hV, World.size_alloc, World.size_alloc]; omega)
  clear tv hq hc1 hc2
  by_cases h1 : x < 1
  · have e1 : joinE S x = 1 := by simp [joinE, h1]
    have e2 : joinS S x = S := by unfold joinS; rw [e1]; simp
    unfold RjE
    rw [e1, e2]
    clear h e1 e2
    obtain ⟨⟨c0, c1, c2, c3, c4, c5, c6, c7⟩, ff, ⟨d0, d1, d2, d3, d4, d5, d6, d7⟩, gg⟩ := HQ.out V (Touch.refl _ _)
    unfold dv dc
    unfold dc z39 at hV
    go_enter Try.func22, Try.ntmps22
    go_upto_region 1 with fail
    rw [← hV]
    clear hV
    go_wp2
    refine bodyPost_ret (v := .tuple #[.agg #[.slice a S.who.length c, .bool S.kept, .bool S.canc, .bool S.ended, .int .i64 S.out.1, .int .i64 S.out.2.1, .int .i64 S.out.2.2.1, .int .i64 S.out.2.2.2], .int .i64 1]) (by simp [results, Try.results22, go_sem, d0, d1, d2, d3, d4, d5, d6, d7]) rfl ⟨_, rfl, (HSAME.out _ ?_)⟩
    iterate 8 (refine Touch.setCell ?_ (Or.inr (by simp)) _)
    exact TV.out
  · cases hE : S.ended with
    | true =>
      have e1 : joinE S x = 110 := by simp [joinE, h1, hE]
      have e2 : joinS S x = S := by unfold joinS; rw [e1]; simp
      unfold RjE
      rw [e1, e2]
      clear h e1 e2
      obtain ⟨⟨c0, c1, c2, c3, c4, c5, c6, c7⟩, ff, ⟨d0, d1, d2, d3, d4, d5, d6, d7⟩, gg⟩ := HQ.out V (Touch.refl _ _)
      unfold dv dc
      unfold dc z39 at hV
      rw [hE] at c3 hV ⊢
      clear hE
      go_enter Try.func22, Try.ntmps22
      go_upto_region 1 with fail
      rw [← hV]
      clear hV
      go_wp2
      refine bodyPost_ret (v := .tuple #[.agg #[.slice a S.who.length c, .bool S.kept, .bool S.canc, .bool true, .int .i64 S.out.1, .int .i64 S.out.2.1, .int .i64 S.out.2.2.1, .int .i64 S.out.2.2.2], .int .i64 110]) (by simp [results, Try.results22, go_sem, d0, d1, d2, d3, d4, d5, d6, d7]) rfl ⟨_, rfl, (HSAME.out _ ?_)⟩
      iterate 8 (refine Touch.setCell ?_ (Or.inr (by simp)) _)
      exact TV.out
    | false =>
      cases hC : S.canc with
      | true =>
        have e1 : joinE S x = 113 := by simp [joinE, h1, hE, hC]
        have e2 : joinS S x = S := by unfold joinS; rw [e1]; simp
        unfold RjE
        rw [e1, e2]
        clear h e1 e2
        obtain ⟨⟨c0, c1, c2, c3, c4, c5, c6, c7⟩, ff, ⟨d0, d1, d2, d3, d4, d5, d6, d7⟩, gg⟩ := HQ.out V (Touch.refl _ _)
        unfold dv dc
        unfold dc z39 at hV
        rw [hE, hC] at hV ⊢
        rw [hE] at c3
        rw [hC] at c2
        clear hE hC
        go_enter Try.func22, Try.ntmps22
        go_upto_region 1 with fail
        rw [← hV]
        clear hV
        go_wp2
        refine bodyPost_ret (v := .tuple #[.agg #[.slice a S.who.length c, .bool S.kept, .bool true, .bool false, .int .i64 S.out.1, .int .i64 S.out.2.1, .int .i64 S.out.2.2.1, .int .i64 S.out.2.2.2], .int .i64 113]) (by simp [results, Try.results22, go_sem, d0, d1, d2, d3, d4, d5, d6, d7]) rfl ⟨_, rfl, (HSAME.out _ ?_)⟩
        iterate 8 (refine Touch.setCell ?_ (Or.inr (by simp)) _)
        exact TV.out
      | false =>
        have HW := hid (rwaits27 V _ S (h.keep0 TV.out) hle x)
        obtain ⟨⟨c0, c1, c2, c3, c4, c5, c6, c7⟩, ff, ⟨d0, d1, d2, d3, d4, d5, d6, d7⟩, gg⟩ := HQ.out V (Touch.refl _ _)
        have HQ2 : Hid (∀ w2, Touch [] V w2 → Dcs w2 w.heap.size (.slice a S.who.length c) S ∧ (∀ i, w2.frozen? ⟨w.heap.size, i, none⟩ = false) ∧ Dcs w2 (w.heap.size + 1) (.slice none 0 0) Sz ∧ (∀ i, w2.frozen? ⟨w.heap.size + 1, i, none⟩ = false)) := HQ.out
        have HEC := hid (And.intro hE hC)
        by_cases hm : x ∈ S.who
        · have e1 : joinE S x = 111 := by simp [joinE, h1, hE, hC, hm]
          have e2 : joinS S x = S := by unfold joinS; rw [e1]; simp
          unfold RjE
          rw [e1, e2]
          rw [show decide (x ∈ S.who) = true by simp [hm]] at HW
          clear h e1 e2 hm d0 d1 d2 d3 d4 d5 d6 d7 gg ff
          unfold dv dc at HW ⊢
          unfold dc z39 at hV
          rw [hE, hC] at hV HW ⊢
          rw [hE] at c3
          rw [hC] at c2
          clear hE hC
          go_enter Try.func22, Try.ntmps22
          go_upto_region 1 with fail
          rw [← hV]
          clear hV
          go_wp2_with (go_at_call 27; refine HW.out.mono ?_; rintro e w2 ⟨rfl, t2⟩; clear c0 c1 c2 c3 c4 c5 c6 c7; obtain ⟨⟨c0, c1, c2, c3, c4, c5, c6, c7⟩, ff, ⟨d0, d1, d2, d3, d4, d5, d6, d7⟩, gg⟩ := HQ2.out _ t2; rw [HEC.out.1] at c3; rw [HEC.out.2] at c2; have T2 := hid (TV.out.trans' t2); clear t2)
          refine bodyPost_ret (v := .tuple #[.agg #[.slice a S.who.length c, .bool S.kept, .bool false, .bool false, .int .i64 S.out.1, .int .i64 S.out.2.1, .int .i64 S.out.2.2.1, .int .i64 S.out.2.2.2], .int .i64 111]) (by simp [results, Try.results22, go_sem, d0, d1, d2, d3, d4, d5, d6, d7]) rfl ⟨_, rfl, (HSAME.out _ ?_)⟩
          iterate 8 (refine Touch.setCell ?_ (Or.inr (by simp)) _)
          exact T2.out
        · have e1 : joinE S x = 0 := by simp [joinE, h1, hE, hC, hm]
          have e2 : joinS S x = { S with who := S.who ++ [x] } := by unfold joinS; rw [e1]; simp
          unfold RjE
          rw [e1, e2]
          rw [show decide (x ∈ S.who) = false by simp [hm]] at HW
          have HLE := hid hle
          have HRW : Hid (∀ w', Touch [] w w' → Rd w' (.slice a S.who.length c) S.who) := fun w' T => h.keep0 T
          clear h e1 e2 hm d0 d1 d2 d3 d4 d5 d6 d7 gg ff hle HSAME
          unfold dv dc at HW ⊢
          unfold dc z39 at hV
          simp only
          rw [hE, hC] at hV HW ⊢
          rw [hE] at c3
          rw [hC] at c2
          clear hE hC
          go_enter Try.func22, Try.ntmps22
          go_upto_region 1 with fail
          rw [← hV]
          clear hV
          go_upto_region 9 with (go_at_call 27; refine HW.out.mono ?_; rintro e w2 ⟨rfl, t2⟩; clear c0 c1 c2 c3 c4 c5 c6 c7; have T2 := hid t2; clear t2)
          obtain ⟨⟨c0, c1, c2, c3, c4, c5, c6, c7⟩, ff, ⟨d0, d1, d2, d3, d4, d5, d6, d7⟩, gg⟩ := HQ2.out w2 T2.out
          have hsz : w.heap.size + 1 < w2.heap.size := by
            have h1 := T2.out.size
            have h2 : V.heap.size = V.heap.size := rfl
            have h3 : w.heap.size + 1 < V.heap.size := HSV.out
            omega
          have ne1 : w.heap.size ≠ w2.heap.size := by omega
          have HMD : Hid ((w2.alloc (.cells #[] 3)).ownsRow w2.heap.size 3 1 (.slice (some ⟨w2.heap.size, 0, none⟩) 0 0) 0 []) := World.ownsRow_made w2 #[] 0 (Nat.le_refl _) (by unfold maxLen; omega) rfl
          have HRA : Hid (∀ X, Touch [] w2 X → Rd X (.slice a S.who.length c) S.who) := fun X T => HRW.out X (TV.out.trans' (T2.out.trans' T))
          have HCA : Hid (∀ X, Touch [] w2 X → Dcs X w.heap.size (.slice a S.who.length c) S ∧ (∀ i, X.frozen? ⟨w.heap.size, i, none⟩ = false) ∧ Dcs X (w.heap.size + 1) (.slice none 0 0) Sz ∧ (∀ i, X.frozen? ⟨w.heap.size + 1, i, none⟩ = false)) := fun X T => HQ2.out X (T2.out.trans' T)
          have HA1 : Hid (∀ b5 c5 w5, w5.ownsRow w2.heap.size 3 1 (.slice (some ⟨b5, 0, none⟩) (0 + S.who.length) c5) (0 + S.who.length) ([] ++ ints S.who) → (w2.alloc (.cells #[] 3)).grownBy w5 (some w2.heap.size) → w5.ownsRow w2.heap.size 3 1 (.slice (some ⟨b5, 0, none⟩) S.who.length c5) S.who.length (ints S.who) ∧ Touch [] w2 w5) := fun b5 c5 w5 r gr => by
            rw [Nat.zero_add, List.nil_append] at r
            exact ⟨r, ((Touch.refl [] w2).alloc _).grown gr (fun k hk => Or.inr (by cases hk; exact Nat.le_refl _))⟩
          have HFN : Hid (∀ b7 c7 w7, w7.ownsRow w2.heap.size 3 1 (.slice (some ⟨b7, 0, none⟩) (S.who.length + 1) c7) (S.who.length + 1) (ints (S.who ++ [x])) → Touch [] w2 w7 → ∀ W, Touch [w.heap.size, w.heap.size + 1] w7 W → Rd W (.slice (some ⟨b7, 0, none⟩) (S.who.length + 1) c7) (S.who ++ [x]) ∧ Un w (.slice a S.who.length c) (.slice (some ⟨b7, 0, none⟩) (S.who.length + 1) c7) ∧ Touch [] w W) := fun b7 c7 w7 o7 t7 W TW => by
            have hz := (own_block o7).choose_spec.2.2.2.2.2.1
            refine ⟨?_, Or.inr (fun q hq => ?_), ((TV.out.trans' T2.out).trans' t7).trans TW (fun i hi => Or.inr ?_)⟩
            · have e1 : (S.who ++ [x]).length = S.who.length + 1 := by simp
              have o8 : w7.ownsRow w2.heap.size 3 1 (.slice (some ⟨b7, 0, none⟩) (S.who ++ [x]).length c7) (S.who ++ [x]).length (ints (S.who ++ [x])) := by rw [e1]; exact o7
              rw [← e1]
              refine (Rd.of_own o8).keep TW (fun q hq hm => ?_)
              simp only [Value.ownBlock, Option.some.injEq] at hq
              simp at hm
              omega
            · simp only [Value.ownBlock, Option.some.injEq] at hq
              omega
            · simp at hi
              omega
          have HTS : Hid (∀ b5 c5 w5 w7, w5.ownsRow w2.heap.size 3 1 (.slice (some ⟨b5, 0, none⟩) S.who.length c5) S.who.length (ints S.who) → Touch [] w2 w5 → (w5.alloc (.cells #[.int .i64 x] 3)).grownBy w7 (Value.slice (some ⟨b5, 0, none⟩) S.who.length c5).ownBlock → Touch [] w2 w7) := fun b5 c5 w5 w7 o5 t5 gr =>
            (t5.alloc _).grown gr (fun k hk => Or.inr (by cases hk; exact (own_block o5).choose_spec.2.2.2.2.2.1))
          clear c0 c1 c2 c3 c4 c5 c6 c7 d0 d1 d2 d3 d4 d5 d6 d7 gg ff
          have c0 := (HCA.out (w2.alloc (.cells #[] 3)) ((Touch.refl _ _).alloc _)).1.c0
          go_upto_region 10 with (first
            | (at_builtin; refine wpList_append_rd rfl _ _ rfl w2.heap.size w2.heap.size 0 0 [] rfl HMD.out _ S.who rfl (HRA.out _ ((Touch.refl _ _).alloc _)) (by have := HLE.out; omega) (by simp) ?_; intro b5 c5 w5 o5 g5; obtain ⟨o6, t6⟩ := HA1.out _ _ _ o5 g5; have O6 := hid o6; have T6 := hid t6; clear o5 g5 o6 t6; rw [Nat.zero_add])
            | (at_builtin; refine wpList_append_int rfl _ _ rfl w2.heap.size (.slice (some ⟨b5, 0, none⟩) S.who.length c5) S.who rfl (own_touch O6.out ((Touch.refl [] _).alloc _) (fun _ _ e => by cases e)) w5.heap.size x rfl (by simp) HLE.out (by have := T6.out.size; simp; omega) ?_; intro b7 cp7 w7 o7 g7 p7; have t7 := HTS.out _ _ _ w7 O6.out T6.out g7; have O7 := hid o7; have T7 := hid t7; clear c0; obtain ⟨⟨c0, c1, c2, c3, c4, c5', c6, c7⟩, ff, ⟨d0, d1, d2, d3, d4, d5, d6, d7⟩, gg⟩ := HCA.out w7 t7; rw [HEC.out.1] at c3; rw [HEC.out.2] at c2; clear o7 g7 p7 t7))
          have HG7 := hid (HFN.out b7 cp7 w7 O7.out T7.out)
          clear HFN HTS HA1 HCA HRA HMD O6 O7 T6
          go_wp2
          refine bodyPost_ret (v := .tuple #[.agg #[.slice (some ⟨b7, 0, none⟩) (S.who.length + 1) cp7, .bool S.kept, .bool false, .bool false, .int .i64 S.out.1, .int .i64 S.out.2.1, .int .i64 S.out.2.2.1, .int .i64 S.out.2.2.2], .int .i64 0]) (by simp [results, Try.results22, go_sem, d0, d1, d2, d3, d4, d5, d6, d7]) rfl ⟨_, rfl, HG7.out _ ?_⟩
          iterate 9 (refine Touch.setCell ?_ (Or.inl (by simp)) _)
          exact Touch.refl _ _
end Go.Proofs.Ytaikleaiofpebaa
