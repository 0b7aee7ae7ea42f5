/- The contracts of the document's Add and Send; no conditions but those that each states. -/
import Derived.Test.YtogojdeohohhhaaBrf
import Derived.Test.YtogojdeohohhhaaRsl
import Derived.Test.YtogojdeohohhhaaBad
namespace Go.Proofs.Ytogojdeohohhhaa
open Go.RowKit Go.Maps Go.ChangeMaps
set_option linter.unusedVariables false
set_option linter.unusedSimpArgs false
def RaE (e : Ending) (w w' : World) (u : Value) (S' : Bs) (L : List Int) (k : Int) : Prop := ∃ u' o, e = .returned (.tuple #[dv u' S', o, .int .i64 k]) ∧ (∃ a n c, u' = .slice a n c) ∧ (∃ a n c, o = .slice a n c) ∧ Rd w' u' S'.run ∧ Un w u u' ∧ Rd w' o L ∧ Touch [] w w'
theorem rs_of_rd {w : World} {v : Value} {xs : List Int} (h : Rd w v xs) : Rs 3 1 w v xs.length (ints xs) := by
  obtain ⟨a, c, rfl, h1, h2, h0, h3⟩ := h
  refine ⟨by simp [ints], a, c, rfl, h1, h0, fun hp => ?_⟩
  rcases h3 with e | ⟨b, cur, e, z, rfl, hb, hc⟩
  · subst e; simp at hp
  · refine ⟨b, 0, rfl, cur, z, hb, fun j u hu => ?_⟩
    have hj : j < xs.length := by
      have := (List.getElem?_eq_some_iff.1 hu).1
      simpa [ints] using this
    simp [ints, hj] at hu
    rw [Nat.zero_add, ← hu]
    exact hc j hj
/-- Seven cells stored into a box. -/
def st7 (w : World) (b : Nat) (u : Value) (S : Bs) : World := ((((((w.setCell ⟨b, 0, none⟩ (.int .i64 S.cnt)).setCell ⟨b, 1, none⟩ (.int .i64 S.win)).setCell ⟨b, 2, none⟩ u).setCell ⟨b, 3, none⟩ (.int .i64 S.snc)).setCell ⟨b, 4, none⟩ (.int .i64 S.tim)).setCell ⟨b, 5, none⟩ (.int .i64 S.lst)).setCell ⟨b, 6, none⟩ (.int .i64 S.snt)
set_option maxRecDepth 100000 in
theorem st7_at {w : World} {b : Nat} {u u' : Value} {S T : Bs} (h : w.heap[b]? = some (.cells (dc u S) 31 (0, 0))) : (st7 w b u' T).heap[b]? = some (.cells (dc u' T) 31 (0, 0)) := by
  unfold st7
  simp [World.setCell, Array.getElem?_modify, h, dc]
theorem st7_touch {F : List Nat} {a w : World} {b : Nat} {u : Value} {S : Bs} (h : Touch F a w) (hb : b ∈ F ∨ a.heap.size ≤ b) : Touch F a (st7 w b u S) := by
  unfold st7
  exact ((((((h.setCell hb _).setCell hb _).setCell hb _).setCell hb _).setCell hb _).setCell hb _).setCell hb _
section
variable (w : World) (u : Value) (S : Bs)
set_option maxHeartbeats 4000000 in
theorem radd_early {N : Nat} (h : Rd w u S.run) (hv : Iv S N) (n x : Int) (h0 : addE S n x ≠ 0) : Calls Try.prog 20 #[dv u S, .int .i64 n, .int .i64 x] w fun e w' => RaE e w w' u S [] (addE S n x) := by
  obtain ⟨a, c, rfl, _, _⟩ := h.form
  obtain ⟨V, hV⟩ : ∃ V, V = (w.alloc (.cells (dc (.slice a S.run.length c) S) 31)).alloc (.cells zd 31) := ⟨_, rfl⟩
  obtain ⟨tv, hz, hb0, hb1⟩ := box2 w (.slice a S.run.length c) S V hV
  have HT := hid (rwrong_ V (.slice a S.run.length c) S ⟨_, _, _, rfl⟩ n)
  have HQ : Hid (∀ w', Touch [] V w' → Dcs w' w.heap.size (.slice a S.run.length c) S ∧ Dcs w' (w.heap.size + 1) (.slice none 0 0) Sz) := hid (fun w' T => ⟨dcs_at (T.keep hb0 (by simp)), dcs_at (T.keep hb1 (by simp))⟩)
  have HS : Hid (∀ k w', Touch [] w w' → RaE (.returned (.tuple #[dv (.slice a S.run.length c) S, .slice none 0 0, .int .i64 k])) w w' (.slice a S.run.length c) S [] k) := hid (fun k w' T => ⟨_, _, rfl, ⟨_, _, _, rfl⟩, ⟨_, _, _, rfl⟩, h.keep0 T, Or.inl rfl, Rd.nil _, T⟩)
  have TV := hid tv
  obtain ⟨⟨c0, c1, c2, c3, c4, c5, c6, ff⟩, ⟨d0, d1, d2, d3, d4, d5, d6, gg⟩⟩ := HQ.out V (Touch.refl _ _)
  clear h hv tv hz hb0 hb1
  unfold dc zd at hV
  unfold dv dc at HS HT ⊢
  unfold addE at h0 ⊢
  by_cases hw : wrongE S n ≠ 0
  · rw [if_pos hw]
    have hk : (wrongE S n != 0) = true := by simpa using hw
    clear h0 hw
    generalize wrongE S n = k at *
    go_enter Try.func20, Try.ntmps20
    go_upto_region 1 with fail
    rw [← hV]
    clear hV
    go_wp2_with (go_at_call 27; refine (HT.out).mono ?_; rintro e w2 ⟨rfl, t2⟩; clear c0 c1 c2 c3 c4 c5 c6 ff d0 d1 d2 d3 d4 d5 d6 gg; obtain ⟨⟨c0, c1, c2, c3, c4, c5, c6, ff⟩, ⟨d0, d1, d2, d3, d4, d5, d6, gg⟩⟩ := HQ.out _ t2; have T2 := hid (TV.out.trans' t2); clear t2)
    refine bodyPost_ret (v := .tuple #[.agg #[.int .i64 S.cnt, .int .i64 S.win, .slice a S.run.length c, .int .i64 S.snc, .int .i64 S.tim, .int .i64 S.lst, .int .i64 S.snt], .slice none 0 0, .int .i64 k]) (by simp [results, Try.results20, go_sem, d0, d1, d2, d3, d4, d5, d6]) rfl (HS.out _ _ ?_)
    iterate 7 (refine Touch.setCell ?_ (Or.inr (by simp)) _)
    exact T2.out
  · rw [if_neg hw] at h0 ⊢
    rw [Decidable.not_not.1 hw] at HT
    by_cases h1 : x < 1
    · rw [if_pos h1]
      clear h0 hw
      go_enter Try.func20, Try.ntmps20
      go_upto_region 1 with fail
      rw [← hV]
      clear hV
      go_wp2_with (go_at_call 27; refine (HT.out).mono ?_; rintro e w2 ⟨rfl, t2⟩; clear c0 c1 c2 c3 c4 c5 c6 ff d0 d1 d2 d3 d4 d5 d6 gg; obtain ⟨⟨c0, c1, c2, c3, c4, c5, c6, ff⟩, ⟨d0, d1, d2, d3, d4, d5, d6, gg⟩⟩ := HQ.out _ t2; have T2 := hid (TV.out.trans' t2); clear t2)
      refine bodyPost_ret (v := .tuple #[.agg #[.int .i64 S.cnt, .int .i64 S.win, .slice a S.run.length c, .int .i64 S.snc, .int .i64 S.tim, .int .i64 S.lst, .int .i64 S.snt], .slice none 0 0, .int .i64 1]) (by simp [results, Try.results20, go_sem, d0, d1, d2, d3, d4, d5, d6]) rfl (HS.out _ _ ?_)
      iterate 7 (refine Touch.setCell ?_ (Or.inr (by simp)) _)
      exact T2.out
    · rw [if_neg h1] at h0 ⊢
      have h2 : x ≤ S.lst := by
        by_cases q : x ≤ S.lst
        · exact q
        · rw [if_neg q] at h0; exact absurd rfl h0
      rw [if_pos h2]
      clear h0 hw
      go_enter Try.func20, Try.ntmps20
      go_upto_region 1 with fail
      rw [← hV]
      clear hV
      go_wp2_with (go_at_call 27; refine (HT.out).mono ?_; rintro e w2 ⟨rfl, t2⟩; clear c0 c1 c2 c3 c4 c5 c6 ff d0 d1 d2 d3 d4 d5 d6 gg; obtain ⟨⟨c0, c1, c2, c3, c4, c5, c6, ff⟩, ⟨d0, d1, d2, d3, d4, d5, d6, gg⟩⟩ := HQ.out _ t2; have T2 := hid (TV.out.trans' t2); clear t2)
      refine bodyPost_ret (v := .tuple #[.agg #[.int .i64 S.cnt, .int .i64 S.win, .slice a S.run.length c, .int .i64 S.snc, .int .i64 S.tim, .int .i64 S.lst, .int .i64 S.snt], .slice none 0 0, .int .i64 130]) (by simp [results, Try.results20, go_sem, d0, d1, d2, d3, d4, d5, d6]) rfl (HS.out _ _ ?_)
      iterate 7 (refine Touch.setCell ?_ (Or.inr (by simp)) _)
      exact T2.out
end
/-- What the document's Add has laid once the run waits: its box, and the box of its answer. -/
structure Mid (w W : World) (u : Value) (S : Bs) (n x : Int) : Prop where
  b0 : W.heap[w.heap.size]? = some (.cells (dc u (addM S n x)) 31 (0, 0))
  b1 : W.heap[w.heap.size + 1]? = some (.cells (dc (.slice none 0 0) Sz) 31 (0, 0))
  t : Touch [] w W
  r : W.ownsRow (w.heap.size + 2) 3 1 u (S.run ++ [x]).length (ints (S.run ++ [x]))
theorem mid_made {w W2 w6 : World} {u u6 : Value} {S S1 : Bs} {n x : Int} (hs : { S1 with run := S.run ++ [x] } = addM S n x) (hb0 : W2.heap[w.heap.size]? = some (.cells (dc u S1) 31 (0, 0))) (hb1 : W2.heap[w.heap.size + 1]? = some (.cells (dc (.slice none 0 0) Sz) 31 (0, 0))) (tw : Touch [] w W2)
    (t6 : Touch [] W2 w6) (r6 : w6.ownsRow W2.heap.size 3 1 u6 (S.run ++ [x]).length (ints (S.run ++ [x]))) : Mid w (w6.setCell ⟨w.heap.size, 2, none⟩ u6) u6 S n x := by
  have hz := block_lt hb1
  have T3 : Touch [w.heap.size] w6 (w6.setCell ⟨w.heap.size, 2, none⟩ u6) := (Touch.refl _ _).setCell (Or.inl (by simp)) _
  refine ⟨?_, T3.keep (t6.keep hb1 (by simp)) (by simp), (tw.trans' t6).trans T3 (fun i hi => Or.inr (by simp at hi; omega)), own_base (own_touch r6 T3 (fun q hq e => ?_)) (by omega)⟩
  · rw [← hs]
    have := bset (i := 2) (t6.keep hb0 (by simp)) u6
    simpa [dc] using this
  · have := (r6.lt q hq).1
    simp at e
    omega
theorem mid_wait {w W w' : World} {u u0 : Value} {S : Bs} {n x : Int} {g : Nat} (h : Mid w W u S n x) (h0 : ¬ addE S n x ≠ 0) (hf : addF S = false) (hu : ∃ a n c, u = .slice a n c) (T : Touch [] w w') (T' : Touch [w.heap.size + 1] W w') : RaE (.returned (.tuple #[dv u (addM S n x), .slice (some ⟨g, 0, none⟩) 0 0, .int .i64 0])) w w' u0 (addS S n x) (addL S n x) 0 := by
  have e1 : addS S n x = addM S n x := by unfold addS; rw [if_neg h0, if_neg (by simp [hf])]
  have e2 : addL S n x = [] := by unfold addL; rw [if_neg h0, if_neg (by simp [hf])]
  rw [e1, e2]
  refine ⟨_, _, rfl, hu, ⟨_, _, _, rfl⟩, Rd.of_own (own_base (own_touch h.r T' (fun q hq e => ?_)) (Nat.zero_le _)), Or.inr (fun q hq => ?_), rd_none _ _, T⟩
  · have := (h.r.lt q hq).1
    simp at e
    omega
  · have := (h.r.lt q hq).1
    omega
theorem mid_full {w W w2 w' : World} {u u0 u' : Value} {S : Bs} {n x : Int} (h : Mid w W u S n x) (h0 : ¬ addE S n x ≠ 0) (hf : addF S = true) (hu : ∃ a n c, u = .slice a n c) (hu' : ∃ a n c, u' = .slice a n c) (r1 : Rd w2 u' (forceS (addM S n x)).run) (r2 : ∀ q, u'.ownBlock = some q → W.heap.size ≤ q) (r3 : Rd w2 u (addM S n x).run) (t2 : Touch [] W w2) (T : Touch [w.heap.size, w.heap.size + 1] w2 w') : RaE (.returned (.tuple #[dv u' (forceS (addM S n x)), u, .int .i64 0])) w w' u0 (addS S n x) (addL S n x) 0 := by
  have e1 : addS S n x = forceS (addM S n x) := by unfold addS; rw [if_neg h0, if_pos hf]
  have e2 : addL S n x = S.run ++ [x] := by unfold addL; rw [if_neg h0, if_pos hf]
  rw [e1, e2]
  have hz := block_lt h.b1
  refine ⟨_, _, rfl, hu', hu, r1.keep T (fun q hq e => ?_), Or.inr (fun q hq => ?_), r3.keep T (fun q hq e => ?_), (h.t.trans' t2).trans T (fun i hi => Or.inr (by simp at hi; omega))⟩
  · have := r2 q hq
    simp at e
    omega
  · have := r2 q hq
    omega
  · have := (h.r.lt q hq).1
    simp at e
    omega
section
variable (w : World) (u : Value) (S : Bs)
set_option maxHeartbeats 8000000 in
set_option maxRecDepth 100000 in
theorem radd_go {N : Nat} (h : Rd w u S.run) (hv : Iv S N) (hN : N ≤ 6000000000000) (n x : Int) (h0 : ¬ addE S n x ≠ 0) : Calls Try.prog 20 #[dv u S, .int .i64 n, .int .i64 x] w fun e w' => RaE e w w' u (addS S n x) (addL S n x) 0 := by
  obtain ⟨g0, g1, g2⟩ := add0 h0
  obtain ⟨a, c, rfl, _, _⟩ := h.form
  obtain ⟨V, hV⟩ : ∃ V, V = (w.alloc (.cells (dc (.slice a S.run.length c) S) 31)).alloc (.cells zd 31) := ⟨_, rfl⟩
  obtain ⟨tv, hz, hb0, hb1⟩ := box2 w (.slice a S.run.length c) S V hV
  have HT := hid (rwrong_ V (.slice a S.run.length c) S ⟨_, _, _, rfl⟩ n)
  rw [g0] at HT
  have HQ : Hid (∀ w', Touch [] V w' → w'.heap[w.heap.size]? = some (.cells (dc (.slice a S.run.length c) S) 31 (0, 0)) ∧ w'.heap[w.heap.size + 1]? = some (.cells (dc (.slice none 0 0) Sz) 31 (0, 0))) := hid (fun w' T => ⟨T.keep hb0 (by simp), T.keep hb1 (by simp)⟩)
  have TV := hid tv
  obtain ⟨c0, c1, c2, c3, c4, c5, c6, ff⟩ := dcs_at hb0
  have h1 : ¬ x < 1 := by omega
  have h2 : ¬ x ≤ S.lst := by omega
  have HV := hid hv
  have HH := hid h
  have H0 := hid h0
  clear h hv tv hz hb0 hb1 h0 g0 g1 g2
  unfold dc zd at hV
  unfold dv dc at HT ⊢
  go_enter Try.func20, Try.ntmps20
  go_upto_region 1 with fail
  rw [← hV]
  clear hV
  go_upto_region 8 with (go_at_call 27; refine (HT.out).mono ?_; rintro e w2 ⟨rfl, t2⟩; clear c0 c1 c2 c3 c4 c5 c6 ff; obtain ⟨z1, z2⟩ := HQ.out _ t2; have Z1 := hid z1; have Z2 := hid z2; obtain ⟨c0, c1, c2, c3, c4, c5, c6, ff⟩ := dcs_at z1; have T2 := hid (TV.out.trans' t2); clear t2 z1 z2)
  go_upto_if 29 with fail
  go_cut [] from 26 to 31 (fun wx => Hid (wx.heap[w.heap.size]? = some (.cells (dc (.slice a S.run.length c) { S with snc := if S.run = [] then n else S.snc }) 31 (0, 0)) ∧ Touch [w.heap.size] w2 wx))
  case first =>
    by_cases he : S.run = []
    · have hz : ((S.run.length : Int) == 0) = true := by simp [he]
      have HE := hid he
      clear he
      go_wp2_with fail
      go_meet
      case rel =>
        refine hid ⟨?_, (Touch.refl _ _).setCell (Or.inl (by simp)) _⟩
        rw [if_pos HE.out]
        have := bset (i := 3) Z1.out (.int .i64 n)
        simpa [dc] using this
    · have hz : ((S.run.length : Int) == 0) = false := by
        have := List.length_pos_iff.2 he
        simp; omega
      have HE := hid he
      clear he
      go_wp2_with fail
      go_meet
      case rel =>
        refine hid ⟨?_, Touch.refl _ _⟩
        rw [if_neg HE.out]
        exact Z1.out
  case rest =>
    have HC := hcut
    clear hcut c0 c1 c2 c3 c4 c5 c6 ff
    obtain ⟨c0, c1, c2, c3, c4, c5, c6, ff⟩ := dcs_at HC.out.1
    go_upto_region 11 with fail
    obtain ⟨W2, hW2⟩ : ∃ W2, W2 = (wc.setCell ⟨w.heap.size, 4, none⟩ (.int .i64 n)).setCell ⟨w.heap.size, 5, none⟩ (.int .i64 x) := ⟨_, rfl⟩
    obtain ⟨S1, hS1⟩ : ∃ S1 : Bs, S1 = { S with tim := n, lst := x, snc := if S.run = [] then n else S.snc } := ⟨_, rfl⟩
    have T4 : Touch [w.heap.size] w2 W2 := by rw [hW2]; exact (HC.out.2.setCell (Or.inl (by simp)) _).setCell (Or.inl (by simp)) _
    have B0 : W2.heap[w.heap.size]? = some (.cells (dc (.slice a S.run.length c) S1) 31 (0, 0)) := by
      rw [hW2, hS1]
      have := bset (i := 5) (bset (i := 4) HC.out.1 (.int .i64 n)) (.int .i64 x)
      simpa [dc] using this
    have B1 : W2.heap[w.heap.size + 1]? = some (.cells (dc (.slice none 0 0) Sz) 31 (0, 0)) := T4.keep Z2.out (by simp)
    have TW : Touch [] w W2 := T2.out.trans T4 (fun i hi => Or.inr (by simp at hi; omega))
    have HS1 : Hid ({ S1 with run := S.run ++ [x] } = addM S n x) := hid (by rw [hS1]; rfl)
    rw [← hW2]
    clear hW2 hS1 HC c0 c1 c2 c3 c4 c5 c6 ff Z1 Z2 T2 T4 HQ HT
    have HLEN := hid HV.out.len
    have HRD : Hid (Rd W2 (.slice a S.run.length c) S.run) := hid (HH.out.keep0 TW)
    have HRS1 : Hid (Rs 3 1 (W2.alloc (.cells #[] 3)) (.slice a S.run.length c) S.run.length (ints S.run)) := hid (rs_of_rd (HRD.out.keep0 ((Touch.refl [] _).alloc _)))
    have HM : Hid ((W2.alloc (.cells #[] 3)).ownsRow W2.heap.size 3 1 (.slice (some ⟨W2.heap.size, 0, none⟩) 0 0) 0 []) := hid (World.ownsRow_made (e := 3) (size := 1) W2 #[] 0 (Nat.le_refl _) (by unfold maxLen; omega) rfl)
    have HK1 : Hid (∀ v5 w5, w5.ownsRow W2.heap.size 3 1 v5 (0 + S.run.length) ([] ++ ints S.run) → (W2.alloc (.cells #[] 3)).grownBy w5 (Value.slice (some ⟨W2.heap.size, 0, none⟩) 0 0).ownBlock → w5.ownsRow W2.heap.size 3 1 v5 S.run.length (ints S.run) ∧ Touch [] W2 w5) := hid (fun v5 w5 o g => by
      rw [Nat.zero_add, List.nil_append] at o
      exact ⟨o, ((Touch.refl [] W2).alloc _).grown g (fun k hk => Or.inr (by cases hk; exact Nat.le_refl _))⟩)
    have HK2 : Hid (∀ v5 w5 v6 w6, w5.ownsRow W2.heap.size 3 1 v5 S.run.length (ints S.run) → Touch [] W2 w5 → w6.ownsRow W2.heap.size 3 1 v6 (S.run.length + 1) (ints S.run ++ [.int .i64 x]) → (w5.alloc (.cells #[.int .i64 x] 3)).grownBy w6 v5.ownBlock → w6.ownsRow W2.heap.size 3 1 v6 (S.run.length + 1) (ints (S.run ++ [x])) ∧ Touch [] W2 w6) := hid (fun v5 w5 v6 w6 o5 t5 o g =>
      ⟨by simpa [ints] using o, touch_grown (t5.alloc _) g (own_touch o5 ((Touch.refl [] _).alloc _) (fun _ _ e => by cases e)) (Nat.le_refl _)⟩)
    have HMID : Hid (∀ w6 u6, Touch [] W2 w6 → w6.ownsRow W2.heap.size 3 1 u6 (S.run.length + 1) (ints (S.run ++ [x])) → Mid w (w6.setCell ⟨w.heap.size, 2, none⟩ u6) u6 S n x) := hid (fun w6 u6 t r => mid_made HS1.out B0 B1 TW t (by rw [show (S.run ++ [x]).length = S.run.length + 1 by simp]; exact r))
    have HB0 := hid B0
    obtain ⟨c0, c1, c2, c3, c4, c5, c6, ff⟩ := dcs_at B0
    have lt0 : w.heap.size < W2.heap.size := block_lt B0
    clear B0 B1 TW HRD HS1
    go_upto_region 12 with (at_builtin; first
      | (refine wpList_append_rs rfl _ _ _ 3 rfl (.int .i64 0) 1 8 info3 Try.underlying29 rfl (by decide) W2.heap.size (.slice (some ⟨W2.heap.size, 0, none⟩) 0 0) 0 [] rfl HM.out _ S.run.length (ints S.run) rfl HRS1.out (fun y hy => by simp only [ints, List.mem_map] at hy; obtain ⟨z, _, rfl⟩ := hy; rfl) (by have := HLEN.out; unfold maxLen; omega) (by have := HLEN.out; omega) (by simp) ?_; intro v5 w5 o5 g5 e5; obtain ⟨z1, z2⟩ := HK1.out v5 w5 o5 g5; clear o5 g5 e5; obtain ⟨a5, k5, rfl⟩ := own_form z1; have O5 := hid z1; have T5 := hid z2; have R5 : Hid ((w5.alloc (.cells #[.int .i64 x] 3)).ownsRow W2.heap.size 3 1 (.slice a5 S.run.length k5) S.run.length (ints S.run)) := hid (own_touch z1 ((Touch.refl [] _).alloc _) (fun _ _ e => by cases e)); have S5 := hid (rs_new w5 x); have Z5 := hid z2.size; clear z1 z2)
      | (refine wpList_append_rs rfl _ _ _ 3 rfl (.int .i64 0) 1 8 info3 Try.underlying29 rfl (by decide) W2.heap.size (.slice a5 S.run.length k5) S.run.length (ints S.run) rfl R5.out _ 1 [.int .i64 x] rfl S5.out (fun y hy => by simp only [List.mem_singleton] at hy; subst hy; rfl) (by have := HLEN.out; unfold maxLen; omega) (by have := HLEN.out; omega) (by have := Z5.out; simp; omega) ?_; intro v6 w6 o6 g6 e6; obtain ⟨z1, z2⟩ := HK2.out _ _ v6 w6 O5.out T5.out o6 g6; clear o6 g6 e6; obtain ⟨a6, k6, rfl⟩ := own_form z1; have M6 := hid (HMID.out _ _ z2 z1); clear c0 c1 c2 c3 c4 c5 c6 ff lt0; obtain ⟨c0, c1, c2, c3, c4, c5, c6, ff⟩ := dcs_at (z2.keep HB0.out (by simp)); clear z1 z2))
    obtain ⟨W3, hW3⟩ : ∃ W3, W3 = w6.setCell ⟨w.heap.size, 2, none⟩ (.slice a6 (S.run.length + 1) k6) := ⟨_, rfl⟩
    rw [← hW3] at M6 ⊢
    clear hW3 c0 c1 c2 c3 c4 c5 c6 ff HM HRS1 HK1 HK2 HMID HB0 O5 T5 R5 S5 Z5
    obtain ⟨c0, c1, c2, c3, c4, c5, c6, ff⟩ := dcs_at M6.out.b0
    obtain ⟨d0, d1, d2, d3, d4, d5, d6, gg⟩ := dcs_at M6.out.b1
    have lt1 : w.heap.size + 1 < W3.heap.size := block_lt M6.out.b1
    have lt0 : w.heap.size < W3.heap.size := by omega
    have HF := hid (rforce_ W3 (.slice a6 (S.run.length + 1) k6) (addM S n x) (Rd.of_own M6.out.r) HV.out.n1 (by have := HV.out.n2; show S.snt < _; omega))
    unfold RfE at HF
    rcases (by cases addF S <;> simp : addF S = false ∨ addF S = true) with hf | hf
    · have HX : Hid (∀ w', Touch [] w w' → Touch [w.heap.size + 1] W3 w' → RaE (.returned (.tuple #[dv (.slice a6 (S.run.length + 1) k6) (addM S n x), .slice (some ⟨W3.heap.size, 0, none⟩) 0 0, .int .i64 0])) w w' (.slice a S.run.length c) (addS S n x) (addL S n x) 0) := hid (fun w' T T' => mid_wait M6.out H0.out hf ⟨_, _, _, rfl⟩ T T')
      have HTT := hid M6.out.t
      unfold dv dc at HX
      unfold addF at hf
      simp only [Bool.or_eq_false_iff, decide_eq_false_iff_not] at hf
      obtain ⟨f1, f2⟩ := hf
      have f4 : ((S.run.length + 1 : Nat) : Int) < (addM S n x).cnt := by show _ < S.cnt; omega
      have f5 : 0 < (addM S n x).win := by have := HV.out.w1; show 0 < S.win; omega
      clear f1 f2 HF M6 HV HH H0 HLEN
      generalize S.run.length + 1 = m at *
      generalize addM S n x = SM at *
      go_wp2
      refine bodyPost_ret (v := .tuple #[.agg #[.int .i64 SM.cnt, .int .i64 SM.win, .slice a6 m k6, .int .i64 SM.snc, .int .i64 SM.tim, .int .i64 SM.lst, .int .i64 SM.snt], .slice (some ⟨W3.heap.size, 0, none⟩) 0 0, .int .i64 0]) (by simp [results, Try.results20, go_sem, d0, d1, d2, d3, d4, d5, d6, World.cell?_alloc_lt, lt1]) rfl (HX.out _ ?_ ?_)
      · refine Touch.alloc ?_ _
        iterate 7 (refine Touch.setCell ?_ (Or.inr (by simp)) _)
        exact HTT.out
      · refine Touch.alloc ?_ _
        iterate 7 (refine Touch.setCell ?_ (Or.inl (by simp)) _)
        exact Touch.refl _ _
    · have HX : Hid (∀ w4 u4 w', (∃ a n c, u4 = .slice a n c) → Rd w4 u4 (forceS (addM S n x)).run → (∀ q, u4.ownBlock = some q → W3.heap.size ≤ q) → Rd w4 (.slice a6 (S.run.length + 1) k6) (addM S n x).run → Touch [] W3 w4 → Touch [w.heap.size, w.heap.size + 1] w4 w' → RaE (.returned (.tuple #[dv u4 (forceS (addM S n x)), .slice a6 (S.run.length + 1) k6, .int .i64 0])) w w' (.slice a S.run.length c) (addS S n x) (addL S n x) 0) := hid (fun w4 u4 w' x1 x2 x3 x4 x5 x6 => mid_full M6.out H0.out hf ⟨_, _, _, rfl⟩ x1 x2 x3 x4 x5 x6)
      have HBB : Hid (∀ w', Touch [] W3 w' → w'.heap[w.heap.size]? = some (.cells (dc (.slice a6 (S.run.length + 1) k6) (addM S n x)) 31 (0, 0)) ∧ w'.heap[w.heap.size + 1]? = some (.cells (dc (.slice none 0 0) Sz) 31 (0, 0))) := hid (fun w' T => ⟨T.keep M6.out.b0 (by simp), T.keep M6.out.b1 (by simp)⟩)
      have f5 : (addM S n x).cnt ≤ ((S.run.length + 1 : Nat) : Int) ∨ ((addM S n x).win ≤ 0) := by
        unfold addF at hf
        simp only [Bool.or_eq_true, decide_eq_true_eq] at hf
        rcases hf with e | e
        · exact Or.inl e
        · exact Or.inr (by show S.win ≤ 0; omega)
      unfold dv dc at HF
      unfold dv dc at HX
      clear hf M6 HV HH H0 HLEN d0 d1 d2 d3 d4 d5 d6 gg
      generalize S.run.length + 1 = m at *
      generalize addM S n x = SM at *
      generalize forceS SM = SF at *
      by_cases f1 : SM.cnt ≤ (m : Int)
      · clear f5
        go_upto_region 15 with (go_at_call 22; refine (HF.out).mono ?_; rintro e w4 ⟨u4, rfl, ⟨a4, n4, k4, rfl⟩, x2, x3, x4, x5⟩; obtain ⟨z0, z1⟩ := HBB.out _ x5; have Z0 := hid z0; have Z1 := hid z1; have X4 := hid (fun w' T => HX.out _ _ w' ⟨_, _, _, rfl⟩ x2 x3 x4 x5 T); clear x2 x3 x4 x5 c0 c1 c2 c3 c4 c5 c6 ff lt0 lt1; obtain ⟨c0, c1, c2, c3, c4, c5, c6, ff⟩ := dcs_at z0; clear z0 z1)
        obtain ⟨W5, hW5⟩ : ∃ W5, W5 = st7 w4 w.heap.size (.slice a4 n4 k4) SF := ⟨_, rfl⟩
        have y0 : W5.heap[w.heap.size]? = some (.cells (dc (.slice a4 n4 k4) SF) 31 (0, 0)) := by rw [hW5]; exact st7_at Z0.out
        have t5 : Touch [w.heap.size] w4 W5 := by rw [hW5]; exact st7_touch (Touch.refl _ _) (Or.inl (by simp))
        have y1 := t5.keep Z1.out (by simp)
        unfold st7 at hW5
        rw [← hW5]
        have T5 := hid (t5.mono (G := [w.heap.size, w.heap.size + 1]) (fun q hq => by simp at hq; simp [hq]))
        clear hW5 t5 c0 c1 c2 c3 c4 c5 c6 ff
        obtain ⟨c0, c1, c2, c3, c4, c5, c6, ff⟩ := dcs_at y0
        obtain ⟨d0, d1, d2, d3, d4, d5, d6, gg⟩ := dcs_at y1
        clear y0 y1
        go_wp2
        refine bodyPost_ret (v := .tuple #[.agg #[.int .i64 SF.cnt, .int .i64 SF.win, .slice a4 n4 k4, .int .i64 SF.snc, .int .i64 SF.tim, .int .i64 SF.lst, .int .i64 SF.snt], .slice a6 m k6, .int .i64 0]) (by simp [results, Try.results20, go_sem, d0, d1, d2, d3, d4, d5, d6]) rfl (X4.out _ ?_)
        iterate 7 (refine Touch.setCell ?_ (Or.inl (by simp)) _)
        exact T5.out
      · have f2 : SM.win ≤ 0 := by rcases f5 with e | e; exact absurd e f1; exact e
        clear f5
        go_upto_region 15 with (go_at_call 22; refine (HF.out).mono ?_; rintro e w4 ⟨u4, rfl, ⟨a4, n4, k4, rfl⟩, x2, x3, x4, x5⟩; obtain ⟨z0, z1⟩ := HBB.out _ x5; have Z0 := hid z0; have Z1 := hid z1; have X4 := hid (fun w' T => HX.out _ _ w' ⟨_, _, _, rfl⟩ x2 x3 x4 x5 T); clear x2 x3 x4 x5 c0 c1 c2 c3 c4 c5 c6 ff lt0 lt1; obtain ⟨c0, c1, c2, c3, c4, c5, c6, ff⟩ := dcs_at z0; clear z0 z1)
        obtain ⟨W5, hW5⟩ : ∃ W5, W5 = st7 w4 w.heap.size (.slice a4 n4 k4) SF := ⟨_, rfl⟩
        have y0 : W5.heap[w.heap.size]? = some (.cells (dc (.slice a4 n4 k4) SF) 31 (0, 0)) := by rw [hW5]; exact st7_at Z0.out
        have t5 : Touch [w.heap.size] w4 W5 := by rw [hW5]; exact st7_touch (Touch.refl _ _) (Or.inl (by simp))
        have y1 := t5.keep Z1.out (by simp)
        unfold st7 at hW5
        rw [← hW5]
        have T5 := hid (t5.mono (G := [w.heap.size, w.heap.size + 1]) (fun q hq => by simp at hq; simp [hq]))
        clear hW5 t5 c0 c1 c2 c3 c4 c5 c6 ff
        obtain ⟨c0, c1, c2, c3, c4, c5, c6, ff⟩ := dcs_at y0
        obtain ⟨d0, d1, d2, d3, d4, d5, d6, gg⟩ := dcs_at y1
        clear y0 y1
        go_wp2
        refine bodyPost_ret (v := .tuple #[.agg #[.int .i64 SF.cnt, .int .i64 SF.win, .slice a4 n4 k4, .int .i64 SF.snc, .int .i64 SF.tim, .int .i64 SF.lst, .int .i64 SF.snt], .slice a6 m k6, .int .i64 0]) (by simp [results, Try.results20, go_sem, d0, d1, d2, d3, d4, d5, d6]) rfl (X4.out _ ?_)
        iterate 7 (refine Touch.setCell ?_ (Or.inl (by simp)) _)
        exact T5.out
end
end Go.Proofs.Ytogojdeohohhhaa
