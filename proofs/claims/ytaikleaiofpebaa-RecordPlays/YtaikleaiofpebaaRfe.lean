/- The contract of the document's Leave. -/
import Derived.Test.YtaikleaiofpebaaRfb
namespace Go.Proofs.Ytaikleaiofpebaa
open Go.RowKit Go.Maps Go.ChangeMaps
set_option linter.unusedVariables false
set_option linter.unusedSimpArgs false
def fl (x : Int) (xs : List Int) : List Int := xs.filter (fun y => decide (y ≠ x))
theorem fl_take {xs : List Int} {i : Nat} {y x : Int} (hy : xs[i]? = some y) : fl x (xs.take (i + 1)) = if y = x then fl x (xs.take i) else fl x (xs.take i) ++ [y] := by
  obtain ⟨h, rfl⟩ := List.getElem?_eq_some_iff.1 hy
  rw [List.take_succ_eq_append_getElem h]
  unfold fl
  rw [List.filter_append]
  split
  · rename_i e; simp [e]
  · rename_i e; simp [e]
theorem fl_le (x : Int) (xs : List Int) (i : Nat) : (fl x (xs.take i)).length ≤ xs.length := Nat.le_trans (List.length_filter_le _ _) (by simp; omega)
/-- How the document's Leave stands ahead of a round. -/
structure LvS (w wr : World) (x : Int) (xs : List Int) (g cap j : Nat) : Prop where
  row : wr.ownsRow w.heap.size 3 1 (.slice (some ⟨g, 0, none⟩) (fl x (xs.take j)).length cap) (fl x (xs.take j)).length (ints (fl x (xs.take j)))
  tc : Touch [] w wr
set_option maxHeartbeats 4000000 in
set_option maxRecDepth 100000 in
theorem rleave23 (w : World) (u : Value) (S : St) (h : Rd w u S.who) (hle : S.who.length ≤ 3000000000000) (iv : Iv S) (x : Int) : Calls Try.prog 23 #[dv u S, .int .i64 x] w fun e w' => RjE e w w' u (leaveS S x) (fun v => .tuple #[v, .bool (leaveB S x), .int .i64 (leaveE S x)]) := by
  obtain ⟨a, c, rfl, hc1, hc2⟩ := h.form
  obtain ⟨V, hV⟩ : ∃ V, V = (w.alloc (.cells (dc (.slice a S.who.length c) S) 39)).alloc (.cells z39 39) := ⟨_, rfl⟩
  obtain ⟨tv, hq⟩ := box2 w (.slice a S.who.length c) S V hV
  have TV := hid tv
  have HQ := hid hq
  have HSAME : Hid (∀ w', Touch [] w w' → Rd w' (.slice a S.who.length c) S.who ∧ Un w (.slice a S.who.length c) (.slice a S.who.length c) ∧ Touch [] w w') := fun w' T => ⟨h.keep0 T, Un.refl _ _, T⟩
  have HSV : Hid (w.heap.size + 1 < V.heap.size) := hid (by rw [hV, World.size_alloc, World.size_alloc]; omega)
  clear tv hq hc1 hc2
  cases hE : S.ended with
  | true =>
    have e1 : leaveE S x = 110 := by simp [leaveE, hE]
    have e2 : leaveS S x = S := by unfold leaveS; rw [e1]; simp
    have e3 : leaveB S x = false := by unfold leaveB; rw [e1]; simp
    unfold RjE
    rw [e1, e2, e3]
    clear h e1 e2 e3 iv
    obtain ⟨⟨c0, c1, c2, c3, c4, c5, c6, c7⟩, ff, ⟨d0, d1, d2, d3, d4, d5, d6, d7⟩, gg⟩ := HQ.out V (Touch.refl _ _)
    unfold dv dc
    unfold dc z39 at hV
    rw [hE] at c3 hV ⊢
    clear hE
    go_enter Try.func23, Try.ntmps23
    go_upto_region 1 with fail
    rw [← hV]
    clear hV
    go_wp2
    refine bodyPost_ret (v := .tuple #[.agg #[.slice a S.who.length c, .bool S.kept, .bool S.canc, .bool true, .int .i64 S.out.1, .int .i64 S.out.2.1, .int .i64 S.out.2.2.1, .int .i64 S.out.2.2.2], .bool false, .int .i64 110]) (by simp [results, Try.results23, go_sem, d0, d1, d2, d3, d4, d5, d6, d7]) rfl ⟨_, rfl, (HSAME.out _ ?_)⟩
    iterate 8 (refine Touch.setCell ?_ (Or.inr (by simp)) _)
    exact TV.out
  | false =>
    have HW := hid (rwaits27 V _ S (h.keep0 TV.out) hle x)
    obtain ⟨⟨c0, c1, c2, c3, c4, c5, c6, c7⟩, ff, ⟨d0, d1, d2, d3, d4, d5, d6, d7⟩, gg⟩ := HQ.out V (Touch.refl _ _)
    have HEC := hid hE
    by_cases hm : x ∈ S.who
    · have e1 : leaveE S x = 0 := by simp [leaveE, hE, hm]
      have e2 : leaveS S x = leftS (lessS S x) := by unfold leaveS; rw [e1]; simp
      have e3 : leaveB S x = leftB (lessS S x) := by unfold leaveB; rw [e1]; simp
      have hC : S.canc = false := by
        cases q : S.canc
        · rfl
        · have := (iv.ca hE q).1
          rw [this] at hm
          cases hm
      unfold RjE
      rw [e1, e2, e3]
      rw [show decide (x ∈ S.who) = true by simp [hm]] at HW
      have HCC := hid hC
      have HLE := hid hle
      have HRW : Hid (∀ w', Touch [] w w' → Rd w' (.slice a S.who.length c) S.who) := fun w' T => h.keep0 T
      have HX : Hid (∀ i, i < S.who.length → ∃ y, S.who[i]? = some y) := fun i hi => ⟨_, List.getElem?_eq_getElem hi⟩
      have HT : Hid (∀ i y, S.who[i]? = some y → fl x (S.who.take (i + 1)) = if y = x then fl x (S.who.take i) else fl x (S.who.take i) ++ [y]) := fun i y hy => fl_take hy
      have HLT : Hid (∀ i, (fl x (S.who.take i)).length ≤ 3000000000000) := fun i => Nat.le_trans (fl_le x S.who i) hle
      have HZ : Hid (fl x (S.who.take S.who.length) = (lessS S x).who) := hid (by rw [List.take_length]; rfl)
      have HLS : Hid ((lessS S x).who.length ≤ 3000000000000) := hid (Nat.le_trans (List.length_filter_le _ _) hle)
      clear h e1 e2 e3 hm d0 d1 d2 d3 d4 d5 d6 d7 gg ff hle HSAME iv
      have hVV := hid hV
      unfold dv dc at HW ⊢
      unfold dc z39 at hV
      unfold leftS
      simp only
      rw [hE] at hV HW
      rw [hE] at c3
      rw [show (lessS S x).ended = false from hE, show (lessS S x).kept = S.kept from rfl, show (lessS S x).out = S.out from rfl]
      clear hC
      go_enter Try.func23, Try.ntmps23
      go_upto_region 1 with fail
      rw [hE, ← hV]
      clear hV hE
      go_upto_region 5 with (go_at_call 27; refine HW.out.mono ?_; rintro e w2 ⟨rfl, t2⟩; clear c0 c1 c2 c3 c4 c5 c6 c7; have T2 := hid t2; clear t2)
      have hsz : w.heap.size + 1 < w2.heap.size := Nat.lt_of_lt_of_le HSV.out T2.out.size
      have HCA : Hid (∀ X, Touch [] w2 X → Dcs X w.heap.size (.slice a S.who.length c) S ∧ (∀ i, X.frozen? ⟨w.heap.size, i, none⟩ = false) ∧ Dcs X (w.heap.size + 1) (.slice none 0 0) Sz ∧ (∀ i, X.frozen? ⟨w.heap.size + 1, i, none⟩ = false)) := fun X T => HQ.out X (T2.out.trans' T)
      have H0 : Hid (LvS w2 (w2.alloc (.cells #[] 3)) x S.who w2.heap.size 0 0) := ⟨World.ownsRow_made w2 #[] 0 (Nat.le_refl _) (by unfold maxLen; omega) rfl, (Touch.refl _ _).alloc _⟩
      have HR : Hid (∀ X, Touch [] w2 X → Rd X (.slice a S.who.length c) S.who) := fun X T => HRW.out X (TV.out.trans' (T2.out.trans' T))
      have HSZ := hid hsz
      clear hsz HRW HQ HW
      go_upto_region 7 with fail
      go_loopw [7, 8] (fun s i wr => ∃ (j g cap : Nat), i = .int .i64 (j : Nat) ∧ j ≤ S.who.length ∧ s = .slice (some ⟨g, 0, none⟩) (fl x (S.who.take j)).length cap ∧ Hid (LvS w2 wr x S.who g cap j)) (fun _ i _ => S.who.length - (intOf i).toNat)
      case atStart => exact ⟨0, w2.heap.size, 0, rfl, Nat.zero_le _, rfl, H0⟩
      case round =>
        clear H0
        obtain ⟨j, g, cap, rfl, hj, rfl, HV⟩ := hrel
        have c0 := (HCA.out wr HV.out.tc).1.c0
        by_cases hlt : j < S.who.length
        · have zk : (j : Int) < (S.who.length : Int) := by omega
          have zL : (S.who.length : Int) < 9223372036854775807 := by have := HLE.out; omega
          obtain ⟨y, hy⟩ := HX.out j hlt
          obtain ⟨gb, rfl, hc⟩ := (HR.out wr HV.out.tc).at rfl hy
          have ht := HT.out j y hy
          by_cases hyx : y = x
          · subst hyx
            rw [if_pos rfl] at ht
            have HT2 := hid ht
            clear ht hy
            go_wp2
            go_roundw
            case rel => exact ⟨j + 1, g, cap, by go_num, by omega, by rw [HT2.out], ⟨by rw [HT2.out]; exact HV.out.row, HV.out.tc⟩⟩
            case measure => simp [intOf]; omega
          · rw [if_neg hyx] at ht
            have hxn : (y != x) = true := by simp [hyx]
            have HT2 := hid ht
            have HO : Hid (∀ ob, (wr.alloc ob).ownsRow w2.heap.size 3 1 (.slice (some ⟨g, 0, none⟩) (fl x (S.who.take j)).length cap) (fl x (S.who.take j)).length (ints (fl x (S.who.take j)))) := fun ob => own_touch HV.out.row ((Touch.refl [] _).alloc _) (fun _ _ e => by cases e)
            have HS := hid HV.out.tc.size
            have HLJ := hid (HLT.out j)
            have HR2 : Hid (∀ g' cap'' w5, w5.ownsRow w2.heap.size 3 1 (.slice (some ⟨g', 0, none⟩) ((fl x (S.who.take j)).length + 1) cap'') ((fl x (S.who.take j)).length + 1) (ints (fl x (S.who.take j) ++ [y])) → (wr.alloc (.cells #[.int .i64 y] 3)).grownBy w5 (some g) → ∃ n, n = (fl x (S.who.take j)).length + 1 ∧ n = (fl x (S.who.take (j + 1))).length ∧ Hid (LvS w2 w5 x S.who g' cap'' (j + 1))) := fun g' cap'' w5 r gr => by
              have e1 : (fl x (S.who.take (j + 1))).length = (fl x (S.who.take j)).length + 1 := by rw [HT2.out]; simp
              refine ⟨_, rfl, e1.symm, ⟨?_, (HV.out.tc.alloc _).grown gr (fun q hq => Or.inr (by cases hq; exact (own_block HV.out.row).choose_spec.2.2.2.2.2.1))⟩⟩
              rw [e1, HT2.out]
              exact r
            clear ht hy hyx HT2 HV
            generalize fl x (S.who.take j) = ys at *
            have blt : w.heap.size < wr.heap.size := by have := HS.out; have := HSZ.out; omega
            go_wp2_with (at_builtin; refine wpList_append_int rfl _ _ rfl w2.heap.size (.slice (some ⟨g, 0, none⟩) ys.length cap) ys rfl (HO.out _) wr.heap.size y rfl (by simp) HLJ.out (by have := HS.out; simp; omega) ?_; intro g5 cp5 w5 o5 r5 _; obtain ⟨n5, e5, e6, O5⟩ := HR2.out _ _ _ o5 r5; have E5 := hid e5; have E6 := hid e6; clear o5 r5 e5 e6)
            rw [← E5.out]
            go_wp2
            go_roundw
            case rel => exact ⟨j + 1, g5, cp5, by go_num, by omega, by rw [E6.out], O5⟩
            case measure => simp [intOf]; omega
        · have e' : j = S.who.length := by omega
          subst e'
          clear hlt hj
          obtain ⟨⟨q0, q1, q2, q3, q4, q5, q6, q7⟩, ff, -, -⟩ := HCA.out wr HV.out.tc
          rw [HEC.out] at q3
          rw [HCC.out] at q2
          have HRW := hid HV.out.row
          have HTC := hid HV.out.tc
          rw [HZ.out] at HRW
          rw [HZ.out]
          clear HV HX HT HLT HZ HR c0
          obtain ⟨W4, hW4⟩ : ∃ W4, W4 = wr.setCell ⟨w.heap.size, 0, none⟩ (.slice (some ⟨g, 0, none⟩) (lessS S x).who.length cap) := ⟨_, rfl⟩
          have hgz : w2.heap.size ≤ g := (own_block HRW.out).choose_spec.2.2.2.2.2.1
          have tB : Touch [w.heap.size] wr W4 := by rw [hW4]; exact (Touch.refl _ _).setCell (Or.inl (by simp)) _
          have t4 : Touch [] w W4 := (TV.out.trans' (T2.out.trans' HTC.out)).trans tB (fun i hi => Or.inr (by simp at hi; omega))
          have hb0 : W4.heap[w.heap.size]? = some (.cells (dc (.slice (some ⟨g, 0, none⟩) (lessS S x).who.length cap) (lessS S x)) 39 (0, 0)) := by
            have q : V.heap[w.heap.size]? = some (.cells (dc (.slice a S.who.length c) S) 39 (0, 0)) := by rw [hVV.out]; exact ((Touch.refl [] _).alloc _).keep (heap_alloc_new w _) (by simp)
            have := HTC.out.keep (T2.out.keep q (by simp)) (by simp)
            rw [hW4]
            exact bset this _
          have hb1 : W4.heap[w.heap.size + 1]? = some (.cells z39 39 (0, 0)) := by
            have q : V.heap[w.heap.size + 1]? = some (.cells z39 39 (0, 0)) := by
              rw [hVV.out]
              have := heap_alloc_new (w.alloc (.cells (dc (.slice a S.who.length c) S) 39)) (.cells z39 39)
              rwa [World.size_alloc] at this
            exact tB.keep (HTC.out.keep (T2.out.keep q (by simp)) (by simp)) (by simp)
          have hrd : Rd W4 (.slice (some ⟨g, 0, none⟩) (lessS S x).who.length cap) (lessS S x).who := (Rd.of_own HRW.out).keep tB (fun q hq e => by
            simp only [Value.ownBlock, Option.some.injEq] at hq
            simp at e
            have := HSZ.out
            omega)
          have HL := hid (rleft37 W4 _ (lessS S x) hrd HLS.out HCC.out)
          have HBX : Hid (∀ w5, Touch [] W4 w5 → Dcs w5 w.heap.size (.slice (some ⟨g, 0, none⟩) (lessS S x).who.length cap) (lessS S x) ∧ (∀ i, w5.frozen? ⟨w.heap.size, i, none⟩ = false) ∧ Dcs w5 (w.heap.size + 1) (.slice none 0 0) Sz ∧ (∀ i, w5.frozen? ⟨w.heap.size + 1, i, none⟩ = false)) := fun w5 T => by
            have q0 := T.keep hb0 (by simp)
            have q1 := T.keep hb1 (by simp)
            exact ⟨dcs_at q0, froz_at q0, dcs_at q1, froz_at q1⟩
          have HFIN : Hid (∀ w5 W, Touch [] W4 w5 → Touch [w.heap.size, w.heap.size + 1] w5 W → Rd W (.slice (some ⟨g, 0, none⟩) (lessS S x).who.length cap) (lessS S x).who ∧ Un w (.slice a S.who.length c) (.slice (some ⟨g, 0, none⟩) (lessS S x).who.length cap) ∧ Touch [] w W) := fun w5 W T TW => by
            have := HSZ.out
            refine ⟨(hrd.keep0 T).keep TW (fun q hq e => ?_), Or.inr (fun q hq => ?_), (t4.trans' T).trans TW (fun i hi => Or.inr (by simp at hi; omega))⟩
            · simp only [Value.ownBlock, Option.some.injEq] at hq
              simp at e
              omega
            · simp only [Value.ownBlock, Option.some.injEq] at hq
              omega
          unfold leftS dv dc at HL
          simp only at HL
          rw [show (lessS S x).ended = false from HEC.out, show (lessS S x).kept = S.kept from rfl, show (lessS S x).out = S.out from rfl, show (lessS S x).canc = false from HCC.out] at HL
          have HEQ : Hid ((lessS S x).ended = false ∧ (lessS S x).kept = S.kept ∧ (lessS S x).out = S.out ∧ (lessS S x).canc = false) := ⟨HEC.out, rfl, rfl, HCC.out⟩
          clear hrd hb0 hb1 t4 tB hgz HRW HTC HCA
          obtain ⟨B, hB⟩ : ∃ B, B = leftB (lessS S x) := ⟨_, rfl⟩
          rw [← hB] at HL
          have HBB := hid hB
          clear hB
          go_upto_region 12 with fail
          rw [← hW4]
          clear hW4 q0 q1 q2 q3 q4 q5 q6 q7 ff
          obtain ⟨⟨c0, c1, c2, c3, c4, c5, c6, c7⟩, ff, -, -⟩ := HBX.out W4 (Touch.refl _ _)
          rw [HEQ.out.1] at c3
          rw [HEQ.out.2.1] at c1
          rw [HEQ.out.2.2.1] at c4 c5 c6 c7
          rw [HEQ.out.2.2.2] at c2
          go_wp2_with (go_at_call 37; refine HL.out.mono ?_; rintro e w5 ⟨rfl, t5⟩; clear c0 c1 c2 c3 c4 c5 c6 c7 ff; obtain ⟨⟨c0, c1, c2, c3, c4, c5, c6, c7⟩, ff, ⟨d0, d1, d2, d3, d4, d5, d6, d7⟩, gg⟩ := HBX.out _ t5; have HFF := hid (HFIN.out w5 · t5); clear t5)
          refine bodyPost_ret (v := .tuple #[.agg #[.slice (some ⟨g, 0, none⟩) (lessS S x).who.length cap, .bool S.kept, .bool B, .bool false, .int .i64 S.out.1, .int .i64 S.out.2.1, .int .i64 S.out.2.2.1, .int .i64 S.out.2.2.2], .bool B, .int .i64 0]) (by simp [results, Try.results23, go_sem, d0, d1, d2, d3, d4, d5, d6, d7]) rfl ⟨_, by rw [HBB.out], HFF.out _ ?_⟩
          iterate 16 (refine Touch.setCell ?_ (Or.inl (by simp)) _)
          exact Touch.refl _ _
    · have e1 : leaveE S x = 112 := by simp [leaveE, hE, hm]
      have e2 : leaveS S x = S := by unfold leaveS; rw [e1]; simp
      have e3 : leaveB S x = false := by unfold leaveB; rw [e1]; simp
      unfold RjE
      rw [e1, e2, e3]
      rw [show decide (x ∈ S.who) = false by simp [hm]] at HW
      clear h e1 e2 e3 hm d0 d1 d2 d3 d4 d5 d6 d7 gg ff
      unfold dv dc at HW ⊢
      unfold dc z39 at hV
      rw [hE] at hV HW ⊢
      rw [hE] at c3
      clear hE
      go_enter Try.func23, Try.ntmps23
      go_upto_region 1 with fail
      rw [← hV]
      clear hV
      go_wp2_with (go_at_call 27; refine HW.out.mono ?_; rintro e w2 ⟨rfl, t2⟩; clear c0 c1 c2 c3 c4 c5 c6 c7; obtain ⟨⟨c0, c1, c2, c3, c4, c5, c6, c7⟩, ff, ⟨d0, d1, d2, d3, d4, d5, d6, d7⟩, gg⟩ := HQ.out _ t2; rw [HEC.out] at c3; have T2 := hid (TV.out.trans' t2); clear t2)
      refine bodyPost_ret (v := .tuple #[.agg #[.slice a S.who.length c, .bool S.kept, .bool S.canc, .bool false, .int .i64 S.out.1, .int .i64 S.out.2.1, .int .i64 S.out.2.2.1, .int .i64 S.out.2.2.2], .bool false, .int .i64 112]) (by simp [results, Try.results23, go_sem, d0, d1, d2, d3, d4, d5, d6, d7]) rfl ⟨_, rfl, (HSAME.out _ ?_)⟩
      iterate 8 (refine Touch.setCell ?_ (Or.inr (by simp)) _)
      exact T2.out
end Go.Proofs.Ytaikleaiofpebaa
