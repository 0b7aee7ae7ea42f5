/- The contract of the document's End. -/
import Derived.Test.YtaikleaiofpebaaRfb
import Derived.Test.YtaikleaiofpebaaHlh
namespace Go.Proofs.Ytaikleaiofpebaa
open Go.RowKit Go.Maps Go.ChangeMaps
set_option linter.unusedVariables false
set_option linter.unusedSimpArgs false
theorem box3 (w : World) (u : Value) (S : St) (o : O) (V : World) (hV : V = ((w.alloc (.cells (dc u S) 39)).alloc (.cells #[.int .i64 o.1, .int .i64 o.2.1, .int .i64 o.2.2.1, .int .i64 o.2.2.2] 37)).alloc (.cells z39 39)) : Touch [] w V ∧ w.heap.size + 2 < V.heap.size ∧ ∀ w2, Touch [] V w2 → Dcs w2 w.heap.size u S ∧ (∀ i, w2.frozen? ⟨w.heap.size, i, none⟩ = false) ∧ Dcs w2 (w.heap.size + 2) (.slice none 0 0) Sz ∧ (∀ i, w2.frozen? ⟨w.heap.size + 2, i, none⟩ = false) ∧ w2.cell? ⟨w.heap.size + 1, 0, none⟩ = some (.int .i64 o.1) ∧ w2.cell? ⟨w.heap.size + 1, 1, none⟩ = some (.int .i64 o.2.1) ∧ w2.cell? ⟨w.heap.size + 1, 2, none⟩ = some (.int .i64 o.2.2.1) ∧ w2.cell? ⟨w.heap.size + 1, 3, none⟩ = some (.int .i64 o.2.2.2) := by
  have hb0 : V.heap[w.heap.size]? = some (.cells (dc u S) 39 (0, 0)) := by rw [hV]; exact (((Touch.refl [] _).alloc _).alloc _).keep (heap_alloc_new w _) (by simp)
  have hb1 : V.heap[w.heap.size + 1]? = some (.cells #[.int .i64 o.1, .int .i64 o.2.1, .int .i64 o.2.2.1, .int .i64 o.2.2.2] 37 (0, 0)) := by
    rw [hV]
    have := heap_alloc_new (w.alloc (.cells (dc u S) 39)) (.cells #[.int .i64 o.1, .int .i64 o.2.1, .int .i64 o.2.2.1, .int .i64 o.2.2.2] 37)
    rw [World.size_alloc] at this
    exact ((Touch.refl [] _).alloc _).keep this (by simp)
  have hb2 : V.heap[w.heap.size + 2]? = some (.cells z39 39 (0, 0)) := by
    rw [hV]
    have := heap_alloc_new ((w.alloc (.cells (dc u S) 39)).alloc (.cells #[.int .i64 o.1, .int .i64 o.2.1, .int .i64 o.2.2.1, .int .i64 o.2.2.2] 37)) (.cells z39 39)
    rwa [World.size_alloc, World.size_alloc] at this
  refine ⟨by rw [hV]; exact (((Touch.refl _ _).alloc _).alloc _).alloc _, block_lt hb2, fun w2 T => ?_⟩
  have q0 := T.keep hb0 (by simp)
  have q1 := T.keep hb1 (by simp)
  have q2 := T.keep hb2 (by simp)
  exact ⟨dcs_at q0, froz_at q0, dcs_at q2, froz_at q2, cell_at q1 rfl, cell_at q1 rfl, cell_at q1 rfl, cell_at q1 rfl⟩
def ReE (e : Ending) (w w' : World) (u : Value) (S : St) (o : O) : Prop := ∃ u' a n c, e = .returned (.tuple #[dv u' (endS S o), .slice a n c, .int .i64 (endE S o)]) ∧ Rd w' u' (endS S o).who ∧ Un w u u' ∧ Rd w' (.slice a n c) (endL S o) ∧ Touch [] w w'
set_option maxHeartbeats 4000000 in
set_option maxRecDepth 100000 in
theorem rend25 (w : World) (u : Value) (S : St) (h : Rd w u S.who) (o : O) : Calls Try.prog 25 #[dv u S, ov o] w fun e w' => ReE e w w' u S o := by
  obtain ⟨a, c, rfl, hc1, hc2⟩ := h.form
  obtain ⟨V, hV⟩ : ∃ V, V = ((w.alloc (.cells (dc (.slice a S.who.length c) S) 39)).alloc (.cells #[.int .i64 o.1, .int .i64 o.2.1, .int .i64 o.2.2.1, .int .i64 o.2.2.2] 37)).alloc (.cells z39 39) := ⟨_, rfl⟩
  obtain ⟨tv, hsz, hq⟩ := box3 w (.slice a S.who.length c) S o V hV
  have TV := hid tv
  have HSZ := hid hsz
  have HQ := hid hq
  have HSAME : Hid (∀ w', Touch [] w w' → Rd w' (.slice a S.who.length c) S.who ∧ Un w (.slice a S.who.length c) (.slice a S.who.length c) ∧ Rd w' (.slice none 0 0) [] ∧ Touch [] w w') := fun w' T => ⟨h.keep0 T, Un.refl _ _, Rd.nil _, T⟩
  clear tv hq hc1 hc2 hsz
  obtain ⟨⟨c0, c1, c2, c3, c4, c5, c6, c7⟩, ff, ⟨d0, d1, d2, d3, d4, d5, d6, d7⟩, gg, o0, o1, o2, o3⟩ := HQ.out V (Touch.refl _ _)
  cases hE : S.ended with
  | true =>
    have e1 : endE S o = 110 := by simp [endE, hE]
    have e2 : endS S o = S := by unfold endS; rw [e1]; simp
    have e3 : endL S o = [] := by unfold endL; rw [e1]; simp
    unfold ReE
    rw [e1, e2, e3]
    clear h e1 e2 e3 o0 o1 o2 o3 HQ
    unfold dv dc ov
    unfold dc z39 at hV
    rw [hE] at c3 hV ⊢
    clear hE
    go_enter Try.func25, Try.ntmps25
    go_upto_region 1 with fail
    rw [← hV]
    clear hV
    go_wp2
    refine bodyPost_ret (v := .tuple #[.agg #[.slice a S.who.length c, .bool S.kept, .bool S.canc, .bool true, .int .i64 S.out.1, .int .i64 S.out.2.1, .int .i64 S.out.2.2.1, .int .i64 S.out.2.2.2], .slice none 0 0, .int .i64 110]) (by simp [results, Try.results25, go_sem, d0, d1, d2, d3, d4, d5, d6, d7]) rfl ⟨_, _, _, _, rfl, HSAME.out _ ?_⟩
    iterate 8 (refine Touch.setCell ?_ (Or.inr (by simp <;> omega)) _)
    exact TV.out
  | false =>
    have HR := hid (fun w => rright38 w o)
    have HEE := hid hE
    cases hr : right o with
    | false =>
      have e1 : endE S o = 30 := by simp [endE, hE, hr]
      have e2 : endS S o = S := by unfold endS; rw [e1]; simp
      have e3 : endL S o = [] := by unfold endL; rw [e1]; simp
      unfold ReE
      rw [e1, e2, e3]
      rw [hr] at HR
      clear h e1 e2 e3 hr c0 c1 c2 c4 c5 c6 c7 d0 d1 d2 d3 d4 d5 d6 d7 ff gg
      unfold dv dc ov
      unfold dc z39 at hV
      rw [hE] at c3 hV ⊢
      clear hE
      go_enter Try.func25, Try.ntmps25
      go_upto_region 1 with fail
      rw [← hV]
      clear hV
      go_wp2_with (go_at_call 38; refine (HR.out _).mono ?_; rintro e w2 ⟨rfl, t2⟩; clear o0 o1 o2 o3 c3; obtain ⟨⟨c0, c1, c2, c3, c4, c5, c6, c7⟩, ff, ⟨d0, d1, d2, d3, d4, d5, d6, d7⟩, gg, o0, o1, o2, o3⟩ := HQ.out _ t2; rw [HEE.out] at c3; have T2 := hid (TV.out.trans' t2); clear t2)
      refine bodyPost_ret (v := .tuple #[.agg #[.slice a S.who.length c, .bool S.kept, .bool S.canc, .bool false, .int .i64 S.out.1, .int .i64 S.out.2.1, .int .i64 S.out.2.2.1, .int .i64 S.out.2.2.2], .slice none 0 0, .int .i64 30]) (by simp [results, Try.results25, go_sem, d0, d1, d2, d3, d4, d5, d6, d7]) rfl ⟨_, _, _, _, rfl, HSAME.out _ ?_⟩
      iterate 8 (refine Touch.setCell ?_ (Or.inr (by simp <;> omega)) _)
      exact T2.out
    | true =>
      have e1 : endE S o = 0 := by simp [endE, hE, hr]
      have e2 : endS S o = { S with who := [], ended := true, out := o } := by unfold endS; rw [e1]; simp
      have e3 : endL S o = S.who := by unfold endL; rw [e1]; simp
      unfold ReE
      rw [e1, e2, e3]
      rw [hr] at HR
      have HFN : Hid (∀ w', Touch [] w w' → ∀ g, w.heap.size ≤ g → Rd w' (.slice (some ⟨g, 0, none⟩) 0 0) ({ S with who := [], ended := true, out := o } : St).who ∧ Un w (.slice a S.who.length c) (.slice (some ⟨g, 0, none⟩) 0 0) ∧ Rd w' (.slice a S.who.length c) S.who ∧ Touch [] w w') := fun w' T g hg =>
        ⟨⟨_, 0, rfl, Nat.le_refl _, Nat.zero_le _, fun q => (by cases q), Or.inl rfl⟩, Or.inr (fun q hq => by simp only [Value.ownBlock, Option.some.injEq] at hq; omega), h.keep0 T, T⟩
      clear h e1 e2 e3 hr c0 c1 c2 c4 c5 c6 c7 d0 d1 d2 d3 d4 d5 d6 d7 ff gg HSAME
      unfold dv dc ov
      unfold dc z39 at hV
      simp only
      rw [hE] at c3 hV ⊢
      clear hE
      go_enter Try.func25, Try.ntmps25
      go_upto_region 1 with fail
      rw [← hV]
      clear hV
      go_upto_region 6 with (go_at_call 38; refine (HR.out _).mono ?_; rintro e w2 ⟨rfl, t2⟩; clear o0 o1 o2 o3 c3; have T2 := hid t2; obtain ⟨⟨c0, c1, c2, c3, c4, c5, c6, c7⟩, ff, ⟨d0, d1, d2, d3, d4, d5, d6, d7⟩, gg, o0, o1, o2, o3⟩ := HQ.out _ t2; clear t2 o0 o1 o2 o3)
      have HZ2 := hid (Nat.lt_of_lt_of_le HSZ.out T2.out.size)
      have hz2 := HZ2.out
      have E : ∀ w', Touch [w.heap.size] w2 w' → w'.heap[w.heap.size + 1]? = w2.heap[w.heap.size + 1]? := fun w' T => T.block _ (by omega) (by simp)
      have HO := hid ((HQ.out _ T2.out).2.2.2.2)
      have E0 : ∀ w', Touch [w.heap.size] w2 w' → w'.cell? ⟨w.heap.size + 1, 0, none⟩ = some (.int .i64 o.1) := fun w' T => (World.cell?_of_block (E w' T)).trans HO.out.1
      have E1 : ∀ w', Touch [w.heap.size] w2 w' → w'.cell? ⟨w.heap.size + 1, 1, none⟩ = some (.int .i64 o.2.1) := fun w' T => (World.cell?_of_block (E w' T)).trans HO.out.2.1
      have E2 : ∀ w', Touch [w.heap.size] w2 w' → w'.cell? ⟨w.heap.size + 1, 2, none⟩ = some (.int .i64 o.2.2.1) := fun w' T => (World.cell?_of_block (E w' T)).trans HO.out.2.2.1
      have E3 : ∀ w', Touch [w.heap.size] w2 w' → w'.cell? ⟨w.heap.size + 1, 3, none⟩ = some (.int .i64 o.2.2.2) := fun w' T => (World.cell?_of_block (E w' T)).trans HO.out.2.2.2
      have k0 : Touch [w.heap.size] w2 w2.drew := (Touch.refl _ _).drew
      clear E HO
      have ne0 : w.heap.size ≠ w2.heap.size := by omega
      have ne2 : w.heap.size + 2 ≠ w2.heap.size := by omega
      have lt0 : w.heap.size < w2.heap.size := by omega
      have lt2 : w.heap.size + 1 + 1 < w2.heap.size := by omega
      refine wp_region_H (S := fun w' => Touch [w.heap.size] w2 w') (by kernel_rfl) ?_
      refine wpH_take (i := 1) (v := (.agg #[.int .i64 o.1, .int .i64 o.2.1, .int .i64 o.2.2.1, .int .i64 o.2.2.2])) (some 21) rfl rfl (by kernel_rfl) (by kernel_rfl) (by kernel_rfl) (fun _ _ _ h => h) (Or.inl ⟨by rfl, fun w' hS => (by have z0 := E0 _ hS; have z1 := E1 _ hS; have z2 := E2 _ hS; have z3 := E3 _ hS; go_simp)⟩) k0 ?_
      try simp only [Go.Act.put, List.setIfInBounds_toArray, List.set_cons_zero, List.set_cons_succ]
      refine wpH_call (i := 0) (o := { dst := some 20, op := Op.buildSlice 33 0 #[], type := 33, pos := _, after := #[], guard := none }) (by kernel_rfl) rfl (fun K' hK => ?_)
      rw [if_pos (by rfl)]
      go_simp
      refine hK.out _ _ (k0.alloc _) ?_
      clear hK
      try simp only [Go.Act.put, List.setIfInBounds_toArray, List.set_cons_zero, List.set_cons_succ]
      refine wpH_take (i := 2) (v := (.pointer (some ⟨w.heap.size, 0, none⟩))) (some 22) rfl rfl (by kernel_rfl) (by kernel_rfl) (by kernel_rfl) (fun _ _ _ h => h) (Or.inl ⟨by rfl, fun w' hS => (by go_simp)⟩) (k0.alloc _) ?_
      try simp only [Go.Act.put, List.setIfInBounds_toArray, List.set_cons_zero, List.set_cons_succ]
      refine wpH_call (i := 3) (o := { dst := none, op := Op.store 33 (Operand.tmp 22) (Operand.tmp 20), type := 0, pos := _, after := #[{ on := 2, ground := Ground.data }, { on := 0, ground := Ground.data }, { on := 0, ground := Ground.phase }, { on := 1, ground := Ground.textOnly Departure.lateStores }], guard := none }) (by kernel_rfl) rfl (fun K' hK => ?_)
      rw [if_pos (by rfl)]
      go_simp
      refine hK.out _ _ ((((Touch.refl [w.heap.size] w2).setCell (Or.inl (by simp)) _).alloc _).drew) ?_
      clear hK
      try simp only [Go.Act.put, List.setIfInBounds_toArray, List.set_cons_zero, List.set_cons_succ]
      refine wpH_take (i := 4) (v := (.pointer (some ⟨w.heap.size, 3, none⟩))) (some 23) rfl rfl (by kernel_rfl) (by kernel_rfl) (by kernel_rfl) (fun _ _ _ h => h) (Or.inl ⟨by rfl, fun w' hS => (by go_simp)⟩) ((((Touch.refl [w.heap.size] w2).setCell (Or.inl (by simp)) _).alloc _).drew) ?_
      try simp only [Go.Act.put, List.setIfInBounds_toArray, List.set_cons_zero, List.set_cons_succ]
      refine wpH_call (i := 5) (o := { dst := none, op := Op.store 4 (Operand.tmp 23) (Operand.const (Value.bool true)), type := 0, pos := _, after := #[{ on := 4, ground := Ground.data }, { on := 3, ground := Ground.chain }, { on := 0, ground := Ground.phase }, { on := 1, ground := Ground.textOnly Departure.lateStores }, { on := 2, ground := Ground.phase }, { on := 3, ground := Ground.phase }], guard := none }) (by kernel_rfl) rfl (fun K' hK => ?_)
      rw [if_pos (by rfl)]
      go_simp
      refine hK.out _ _ (((((Touch.refl [w.heap.size] w2).setCell (Or.inl (by simp)) _).setCell (Or.inl (by simp)) _).alloc _).drew) ?_
      clear hK
      try simp only [Go.Act.put, List.setIfInBounds_toArray, List.set_cons_zero, List.set_cons_succ]
      refine wpH_take (i := 6) (v := (.pointer (some ⟨w.heap.size, 4, none⟩))) (some 24) rfl rfl (by kernel_rfl) (by kernel_rfl) (by kernel_rfl) (fun _ _ _ h => h) (Or.inl ⟨by rfl, fun w' hS => (by go_simp)⟩) (((((Touch.refl [w.heap.size] w2).setCell (Or.inl (by simp)) _).setCell (Or.inl (by simp)) _).alloc _).drew) ?_
      try simp only [Go.Act.put, List.setIfInBounds_toArray, List.set_cons_zero, List.set_cons_succ]
      refine wpH_call (i := 7) (o := { dst := none, op := Op.store 37 (Operand.tmp 24) (Operand.tmp 21), type := 0, pos := _, after := #[{ on := 6, ground := Ground.data }, { on := 1, ground := Ground.data }, { on := 5, ground := Ground.chain }, { on := 0, ground := Ground.phase }, { on := 1, ground := Ground.phase }, { on := 2, ground := Ground.phase }, { on := 3, ground := Ground.phase }, { on := 4, ground := Ground.phase }, { on := 5, ground := Ground.phase }], guard := none }) (by kernel_rfl) rfl (fun K' hK => ?_)
      rw [if_pos (by rfl)]
      go_simp
      refine hK.out _ _ (((((((((Touch.refl [w.heap.size] w2).setCell (Or.inl (by simp)) _).setCell (Or.inl (by simp)) _).setCell (Or.inl (by simp)) _).setCell (Or.inl (by simp)) _).setCell (Or.inl (by simp)) _).setCell (Or.inl (by simp)) _).alloc _).drew) ?_
      clear hK
      try simp only [Go.Act.put, List.setIfInBounds_toArray, List.set_cons_zero, List.set_cons_succ]
      refine wpAnyH_done (by kernel_rfl) ?_ _
      have HG : Hid (∀ W, Touch [w.heap.size, w.heap.size + 2] w2 W → Rd W (.slice (some ⟨w2.heap.size, 0, none⟩) 0 0) ({ S with who := [], ended := true, out := o } : St).who ∧ Un w (.slice a S.who.length c) (.slice (some ⟨w2.heap.size, 0, none⟩) 0 0) ∧ Rd W (.slice a S.who.length c) S.who ∧ Touch [] w W) := fun W TW =>
        HFN.out W ((TV.out.trans' T2.out).trans TW (fun i hi => Or.inr (by simp at hi; omega))) _ (by have := HZ2.out; omega)
      clear HFN E0 E1 E2 E3 k0 HQ
      go_wp2
      refine bodyPost_ret (v := .tuple #[.agg #[.slice (some ⟨w2.heap.size, 0, none⟩) 0 0, .bool S.kept, .bool S.canc, .bool true, .int .i64 o.1, .int .i64 o.2.1, .int .i64 o.2.2.1, .int .i64 o.2.2.2], .slice a S.who.length c, .int .i64 0]) (by simp [results, Try.results25, go_sem, d0, d1, d2, d3, d4, d5, d6, d7, World.cell?_alloc_lt, lt2]) rfl ⟨_, _, _, _, rfl, HG.out _ ?_⟩
      refine Touch.drew (Touch.alloc ?_ _)
      iterate 14 (refine Touch.setCell ?_ (Or.inl (by simp)) _)
      exact Touch.refl _ _
end Go.Proofs.Ytaikleaiofpebaa
