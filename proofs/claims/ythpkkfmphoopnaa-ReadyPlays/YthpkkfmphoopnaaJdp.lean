/- The contracts of the document's Peek and Pick; no conditions but those that each states. -/
import Derived.Test.YthpkkfmphoopnaaJdr
namespace Go.Proofs.Ythpkkfmphoopnaa.Re
open Go.RowKit Go.Maps Go.ChangeMaps
set_option linter.unusedVariables false
set_option linter.unusedSimpArgs false
def st5 (w : World) (b : Nat) (c0 c1 c2 c3 c4 : Value) : World := ((((w.setCell ⟨b, 0, none⟩ c0).setCell ⟨b, 1, none⟩ c1).setCell ⟨b, 2, none⟩ c2).setCell ⟨b, 3, none⟩ c3).setCell ⟨b, 4, none⟩ c4
set_option maxRecDepth 100000 in
theorem st5_at {w : World} {b : Nat} {x0 x1 x2 x3 x4 : Value} {ty : TypeId} (h : w.heap[b]? = some (.cells #[x0, x1, x2, x3, x4] ty (0, 0))) (c0 c1 c2 c3 c4 : Value) : (st5 w b c0 c1 c2 c3 c4).heap[b]? = some (.cells #[c0, c1, c2, c3, c4] ty (0, 0)) := by
  unfold st5
  simp [World.setCell, Array.getElem?_modify, h]
theorem st5_touch {F : List Nat} {a w : World} {b : Nat} (h : Touch F a w) (hb : b ∈ F ∨ a.heap.size ≤ b) (c0 c1 c2 c3 c4 : Value) : Touch F a (st5 w b c0 c1 c2 c3 c4) := by
  unfold st5
  exact ((((h.setCell hb _).setCell hb _).setCell hb _).setCell hb _).setCell hb _
section
variable {w : World} {N : Nat} {S : Rz} {p l t : Value}
set_option maxHeartbeats 4000000 in
theorem dpeek_ (h : Dm w S p l t) (hv : Iv S N) : Calls Try.prog 30 #[dvv S p l t] w fun e w' => e = .returned (.tuple #[.int .i64 (pickV S), .bool (someB S)]) ∧ Touch [] w w' := by
  have hh := h
  obtain ⟨ap, np, cp, ep⟩ := h.p.slf
  obtain ⟨al, cl, el, hcl⟩ := h.l.form
  obtain ⟨at', nt, ct, et⟩ := h.t.slf
  subst ep el et
  obtain ⟨V, hV⟩ : ∃ V, V = w.alloc (.cells (dvc S (.slice ap np cp) (.slice al S.ln.length cl) (.slice at' nt ct)) 32) := ⟨_, rfl⟩
  have tv : Touch [] w V := by rw [hV]; exact (Touch.refl _ _).alloc _
  have hbx : V.heap[w.heap.size]? = some (.cells (dvc S (.slice ap np cp) (.slice al S.ln.length cl) (.slice at' nt ct)) 32 (0, 0)) := by rw [hV]; exact heap_alloc_new w _
  obtain ⟨i0, i1, i2, i3, i4, iff⟩ := dcs_at hbx
  have TV := hid tv
  have HBX := hid hbx
  unfold dvc at hV i0 i1 i2 i3 i4
  by_cases hne : S.ln = []
  · obtain ⟨e1, e2, e3⟩ := some_no hne
    rw [e1, e2]
    have hl0 : S.ln.length = 0 := by rw [hne]; rfl
    rw [hl0] at hV i3 ⊢
    unfold dvv dvc
    clear h hh hv e1 e2 e3 hne tv hbx hcl HBX
    go_enter Try.func30, Try.ntmps30
    go_upto_region 1 with fail
    rw [← hV]
    clear hV
    go_wp2
    exact bodyPost_ret (v := .tuple #[.int .i64 0, .bool false]) (by simp [results, Try.results30, go_sem]) rfl ⟨rfl, TV.out⟩
  · rw [some_yes hne, place_at hv hne]
    have hp := place_lt hne
    have HX := hid (place_ (hh.keep0 tv) hv hne)
    obtain ⟨g, off, eg, ylt, yc⟩ := h.l.cell hp
    subst eg
    have HC : Hid (∀ w', Touch [] V w' → w'.cell? ⟨w.heap.size, 3, none⟩ = some (.slice (some ⟨g, off, none⟩) S.ln.length cl) ∧ w'.cell? ⟨g, off + (placeS S).1, none⟩ = some (.int .i64 (S.ln[(placeS S).1]'(place_lt hne)))) := hid (fun w' T => by
      obtain ⟨g', off', e, _, y⟩ := (h.l.keep0 (tv.trans' T)).cell hp
      cases e
      exact ⟨cell_at (j := 3) (T.keep HBX.out (by simp)) rfl, y⟩)
    have hz : ((S.ln.length : Int) == 0) = false := by simp; exact hne
    clear ylt yc hh h hbx tv HBX
    unfold dvv dvc at HX ⊢
    have zi : ((placeS S).1 : Int) < (S.ln.length : Int) := by omega
    generalize S.ln[(placeS S).1]'(place_lt hne) = x at *
    generalize (placeS S).1 = i at *
    generalize (placeS S).2 = s2 at *
    generalize S.ln.length = n at *
    clear hv hp hne
    go_enter Try.func30, Try.ntmps30
    go_upto_region 1 with fail
    rw [← hV]
    clear hV
    go_wp2_with (go_at_call 31; refine HX.out.mono ?_; rintro e w1 ⟨rfl, t1⟩; obtain ⟨y1, y2⟩ := HC.out _ t1; have T1 := hid t1; clear t1 i0 i1 i2 i3 i4)
    exact bodyPost_ret (v := .tuple #[.int .i64 x, .bool true]) (by simp [results, Try.results30, go_sem]) rfl ⟨rfl, TV.out.trans' T1.out⟩
/-- What a pick of the document's leaves. -/
def PkE (e : Ending) (w w' : World) (S : Rz) (p l t : Value) : Prop := ∃ p' l' t', e = .returned (.tuple #[dvv (pickS S) p' l' t', .int .i64 (pickV S), .bool (someB S)]) ∧ SlF p' ∧ SlF l' ∧ SlF t' ∧ DE w w' S (pickS S) p l t p' l' t'
set_option maxHeartbeats 4000000 in
set_option maxRecDepth 100000 in
theorem dpick_no (h : Dm w S p l t) (hv : Iv S N) (hne : S.ln = []) : Calls Try.prog 12 #[dvv S p l t] w fun e w' => PkE e w w' S p l t := by
  have HSame : Hid (∀ w', Touch [] w w' → DE w w' S S p l t p l t) := hid (fun w' T => ⟨h.keep0 T, Un.refl _ _ _, Un.refl _ _ _, Un.refl _ _ _, T⟩)
  obtain ⟨V, hV⟩ : ∃ V, V = (w.alloc (.cells (dvc S p l t) 32)).alloc (.cells dz 32) := ⟨_, rfl⟩
  obtain ⟨tv, hz, hb0, hb1⟩ := box2 w _ V hV
  have HPk := hid (dpeek_ (h.keep0 tv) hv)
  obtain ⟨e1, e2, e3⟩ := some_no hne
  unfold PkE
  rw [e1, e2] at HPk
  rw [e1, e2, e3]
  have HB : Hid (∀ w', Touch [] V w' → w'.heap[w.heap.size]? = some (.cells (dvc S p l t) 32 (0, 0)) ∧ w'.heap[w.heap.size + 1]? = some (.cells dz 32 (0, 0)) ∧ w.heap.size < w'.heap.size) := hid (fun w' T => ⟨T.keep hb0 (by simp), T.keep hb1 (by simp), by have := T.size; omega⟩)
  obtain ⟨ap, np, cp, ep⟩ := h.p.slf
  obtain ⟨al, nl, cl, el⟩ := h.l.slf
  obtain ⟨at', nt, ct, et⟩ := h.t.slf
  subst ep el et
  obtain ⟨i0, i1, i2, i3, i4, iff⟩ := dcs_at hb0
  have TV := hid tv
  clear h hv hne e1 e2 e3 hb0 hb1 hz tv
  unfold dvc at hV i0 i1 i2 i3 i4
  unfold dz at hV
  unfold dvv dvc at HPk ⊢
  go_enter Try.func12, Try.ntmps12
  go_upto_region 1 with fail
  rw [← hV]
  clear hV
  go_upto_region 3 with (go_at_call 30; refine HPk.out.mono ?_; rintro e w2 ⟨rfl, t2⟩; obtain ⟨x0, x1, lt0⟩ := HB.out _ t2; have T2 := hid t2; clear t2 i0 i1 i2 i3 i4 iff; obtain ⟨i0, i1, i2, i3, i4, iff⟩ := dcs_at x0; obtain ⟨d0, d1, d2, d3, d4, dff⟩ := dcs_at x1; clear x0 x1)
  unfold dvc at i0 i1 i2 i3 i4
  unfold dz at d0 d1 d2 d3 d4
  go_wp2
  refine bodyPost_ret (v := .tuple #[.agg #[.int .i64 S.pol, .int .u64 (S.st : Int), .slice ap np cp, .slice al nl cl, .slice at' nt ct], .int .i64 0, .bool false]) (by simp [results, Try.results12, go_sem, d0, d1, d2, d3, d4]) rfl ⟨_, _, _, rfl, ⟨_, _, _, rfl⟩, ⟨_, _, _, rfl⟩, ⟨_, _, _, rfl⟩, HSame.out _ ?_⟩
  iterate 5 (refine Touch.setCell ?_ (Or.inr (by simp)) _)
  exact TV.out.trans' T2.out
/-- What makes a pick of the document's whole. -/
theorem pick_doc {w3 w4 w8 W' : World} {l2 p' t6 : Value} (h : Dm w S p l t) (hv : Iv S N) (hne : S.ln ≠ []) (T3 : Touch [] w w3) (hz3 : w.heap.size + 2 ≤ w3.heap.size) (hd : DE w3 w4 S (outS S (placeS S).1) p l t p l2 t) (hp' : Ra w p' (S.pk.drop (S.tl.length + 1))) (hup : Un w p (S.pk.drop S.tl.length) p' (S.pk.drop (S.tl.length + 1))) (ht6 : Ow w8 (w.heap.size + 2) t6 (S.tl ++ [((placeS S).1 : Int)])) (T8 : Touch [w.heap.size, w.heap.size + 1] w4 w8) (T9 : Touch [w.heap.size, w.heap.size + 1] w8 W') (hl2 : SlF l2) (hpf : SlF p') (htf : SlF t6) :
    PkE (.returned (.tuple #[dvv (pickS S) p' l2 t6, .int .i64 (pickV S), .bool true])) w W' S p l t := by
  have e : pickS S = { S with st := (placeS S).2, ln := S.ln.eraseIdx (placeS S).1, tl := S.tl ++ [((placeS S).1 : Int)] } := by unfold pickS; rw [if_neg hne]
  have T10 : Touch [w.heap.size, w.heap.size + 1] w4 W' := T8.trans' T9
  have TT : Touch [] w W' := (T3.trans' hd.T).trans T10 (fun q hq => Or.inr (by simp only [List.mem_cons, List.not_mem_nil, or_false] at hq; omega))
  have hnin : ∀ q, q ∈ [w.heap.size, w.heap.size + 1] → w.heap.size ≤ q ∧ q < w.heap.size + 2 := fun q hq => by simp only [List.mem_cons, List.not_mem_nil, or_false] at hq; omega
  have hln : (outS S (placeS S).1).ln = S.ln.eraseIdx (placeS S).1 := rfl
  have hl3 : Ra W' l2 (S.ln.eraseIdx (placeS S).1) := by
    rw [← hln]
    refine hd.d.l.keep T10 (fun hpos q hq hin => ?_)
    have hb := hnin q hin
    rcases hd.ul with ⟨e1, e2⟩ | e1
    · have := h.l.blt (e2 hpos) (by rw [← e1]; exact hq)
      omega
    · have := e1 q hq
      omega
  have ht7 := ht6.keep T9 (fun q hq hin => by have := (ht6.lt hq).1; have := hnin q hin; omega)
  refine ⟨p', l2, t6, by rw [some_yes hne], hpf, hl2, htf, ⟨⟨?_, ?_, ?_⟩, ?_, ?_, ?_, TT⟩⟩
  · rw [e]
    simp only [List.length_append, List.length_singleton]
    exact hp'.keep0 TT
  · rw [e]; exact hl3
  · rw [e]; exact ht7.ra
  · rw [e]
    simp only [List.length_append, List.length_singleton]
    exact hup
  · rw [e]
    rcases hd.ul with ⟨e1, e2⟩ | e1
    · exact Or.inl ⟨e1, e2⟩
    · exact Or.inr (fun q hq => by have := e1 q hq; omega)
  · exact Or.inr (fun q hq => by have := (ht6.lt hq).1; omega)
theorem dset1 {w : World} {b : Nat} {c0 c1 c2 c3 c4 : Value} (h : w.heap[b]? = some (.cells #[c0, c1, c2, c3, c4] 32 (0, 0))) (x : Value) : (w.setCell ⟨b, 1, none⟩ x).heap[b]? = some (.cells #[c0, x, c2, c3, c4] 32 (0, 0)) := by
  have := bset (i := 1) h x
  simpa using this
theorem dset2 {w : World} {b : Nat} {c0 c1 c2 c3 c4 : Value} (h : w.heap[b]? = some (.cells #[c0, c1, c2, c3, c4] 32 (0, 0))) (x : Value) : (w.setCell ⟨b, 2, none⟩ x).heap[b]? = some (.cells #[c0, c1, x, c3, c4] 32 (0, 0)) := by
  have := bset (i := 2) h x
  simpa using this
theorem dset4 {w : World} {b : Nat} {c0 c1 c2 c3 c4 : Value} (h : w.heap[b]? = some (.cells #[c0, c1, c2, c3, c4] 32 (0, 0))) (x : Value) : (w.setCell ⟨b, 4, none⟩ x).heap[b]? = some (.cells #[c0, c1, c2, c3, x] 32 (0, 0)) := by
  have := bset (i := 4) h x
  simpa using this
/-- The end of a pick: what was told is laid anew, and all is handed out. -/
theorem told_app {W7 : World} {B : Nat} {v : Value} {xs : List Int} {w8 : World} {V : World} {F : List Nat} (hT : Touch F V W7) (ho : Ow W7 B v xs) (hB : V.heap.size ≤ B) (T : Touch v.ownBlock.toList W7 w8) : Touch F V w8 :=
  hT.trans T (fun q hq => Or.inr (Nat.le_trans hB (ho.lt (by simpa using hq)).1))
set_option maxHeartbeats 8000000 in
set_option maxRecDepth 100000 in
theorem dpick_yes (h : Dm w S p l t) (hv : Iv S N) (hN : N ≤ 8796093022208) (hne : S.ln ≠ []) : Calls Try.prog 12 #[dvv S p l t] w fun e w' => PkE e w w' S p l t := by
  have HRt := hid (fun w' (T : Touch [] w w') => h.t.keep0 T)
  have HDoc := hid (fun w3 w4 w8 W' l2 p' t6 => @pick_doc w N S p l t w3 w4 w8 W' l2 p' t6 h hv hne)
  have HTL : Hid (S.tl.length + 1 ≤ 17592186044416) := hid (by have := hv.t1; omega)
  have HPS : Hid (pickS S = { S with st := (placeS S).2, ln := S.ln.eraseIdx (placeS S).1, tl := S.tl ++ [((placeS S).1 : Int)] }) := hid (by unfold pickS; rw [if_neg hne])
  obtain ⟨V, hV⟩ : ∃ V, V = (w.alloc (.cells (dvc S p l t) 32)).alloc (.cells dz 32) := ⟨_, rfl⟩
  obtain ⟨tv, hz, hb0, hb1⟩ := box2 w _ V hV
  have HPk := hid (dpeek_ (h.keep0 tv) hv)
  rw [some_yes hne] at HPk
  have HPl := hid (fun w' (T : Touch [] V w') => place_ (h.keep0 (tv.trans' T)) hv hne)
  have HRe := hid (fun w' (T : Touch [] V w') => drest_ (h.keep0 (tv.trans' T)) hv.l1 (placeS S).1 (place_lt hne))
  have HB : Hid (∀ w', Touch [] V w' → w'.heap[w.heap.size]? = some (.cells (dvc S p l t) 32 (0, 0)) ∧ w'.heap[w.heap.size + 1]? = some (.cells dz 32 (0, 0)) ∧ w.heap.size < w'.heap.size) := hid (fun w' T => ⟨T.keep hb0 (by simp), T.keep hb1 (by simp), by have := T.size; omega⟩)
  have HPr := hid h.p
  have hpf := h.p.form
  obtain ⟨al, nl, cl, el⟩ := h.l.slf
  obtain ⟨at', nt, ct, et⟩ := h.t.slf
  obtain ⟨ap, cp, ep, hcp⟩ := hpf
  have HNp : Hid ((S.pk.drop S.tl.length).length = S.pk.length - S.tl.length) := hid List.length_drop
  obtain ⟨np, hnp⟩ : ∃ np, np = (S.pk.drop S.tl.length).length := ⟨_, rfl⟩
  have HNq := hid hnp
  rw [← hnp] at ep hcp
  subst ep el et
  obtain ⟨i0, i1, i2, i3, i4, iff⟩ := dcs_at hb0
  have TV := hid tv
  have HZ := hid hz
  have HDD : Hid ((S.pk.drop S.tl.length).drop 1 = S.pk.drop (S.tl.length + 1)) := hid (by rw [List.drop_drop])
  obtain ⟨xv, hxv⟩ : ∃ xv, pickV S = xv := ⟨_, rfl⟩
  have HPV := hid hxv
  rw [hxv] at HPk
  clear h hv hne hb0 hb1 hz tv hnp hxv
  unfold dvc at hV i0 i1 i2 i3 i4
  unfold dz at hV
  unfold dvv outS dvc at HRe
  unfold dvv dvc at HPk HPl
  generalize (placeS S).1 = i at *
  generalize (placeS S).2 = s2 at *
  unfold dvv dvc
  go_enter Try.func12, Try.ntmps12
  go_upto_region 1 with fail
  rw [← hV]
  clear hV
  go_upto_region 4 with (go_at_call 30; refine HPk.out.mono ?_; rintro e w2 ⟨rfl, t2⟩; obtain ⟨x0, x1, lt0⟩ := HB.out _ t2; have T2 := hid t2; clear t2 i0 i1 i2 i3 i4 iff; obtain ⟨i0, i1, i2, i3, i4, iff⟩ := dcs_at x0; clear x0 x1)
  unfold dvc at i0 i1 i2 i3 i4
  go_upto_region 5 with (go_at_call 31; refine (HPl.out _ T2.out).mono ?_; rintro e w3 ⟨rfl, t3⟩; have T3 := hid (T2.out.trans' t3); obtain ⟨x0, x1, lt3⟩ := HB.out _ T3.out; clear t3 i0 i1 i2 i3 i4 iff; obtain ⟨i0, i1, i2, i3, i4, iff⟩ := dcs_at x0; clear x0 x1)
  unfold dvc at i0 i1 i2 i3 i4
  have Q3 : Hid (Touch [] w w3) := hid (TV.out.trans' T3.out)
  have Q3z : Hid (w.heap.size + 2 ≤ w3.heap.size) := hid (by have := T3.out.size; have := HZ.out; omega)
  go_upto_region 6 with (go_at_call 15; refine (HRe.out _ T3.out).mono ?_; rintro e w4 ⟨l2, rfl, ⟨al2, nl2, cl2, rfl⟩, q4⟩; have Q4 := hid q4; obtain ⟨x0, x1, lt4⟩ := HB.out _ (T3.out.trans' q4.T); have Y0 := hid x0; have Y1 := hid x1; clear q4 i0 i1 i2 i3 i4 iff; obtain ⟨i0, i1, i2, i3, i4, iff⟩ := dcs_at x0; unfold dvc at i0 i1 i2 i3 i4; clear x0 x1)
  obtain ⟨W5, hW5⟩ : ∃ W5, W5 = st5 w4 w.heap.size (.int .i64 S.pol) (.int .u64 (S.st : Int)) (.slice ap np cp) (.slice al2 nl2 cl2) (.slice at' nt ct) := ⟨_, rfl⟩
  have b5 : W5.heap[w.heap.size]? = some (.cells #[.int .i64 S.pol, .int .u64 (S.st : Int), .slice ap np cp, .slice al2 nl2 cl2, .slice at' nt ct] 32 (0, 0)) := by rw [hW5]; exact st5_at Y0.out _ _ _ _ _
  have T5 : Touch [w.heap.size, w.heap.size + 1] w4 W5 := by rw [hW5]; exact st5_touch (Touch.refl _ _) (Or.inl (by simp)) _ _ _ _ _
  have b51 : W5.heap[w.heap.size + 1]? = some (.cells dz 32 (0, 0)) := by rw [hW5]; exact (st5_touch (F := [w.heap.size]) (Touch.refl _ _) (Or.inl (by simp)) _ _ _ _ _).keep Y1.out (by simp)
  unfold st5 at hW5
  rw [← hW5]
  have z5 : W5.heap.size = w4.heap.size := by rw [hW5]; simp
  clear hW5 i0 i1 i2 i3 i4 iff
  obtain ⟨i0, i1, i2, i3, i4, iff⟩ := dcs_at b5
  go_upto_region 7 with fail
  obtain ⟨W6, hW6⟩ : ∃ W6, W6 = W5.setCell ⟨w.heap.size, 1, none⟩ (.int .u64 (s2 : Int)) := ⟨_, rfl⟩
  have b6 := dset1 b5 (.int .u64 (s2 : Int))
  rw [← hW6] at b6
  have T6 : Touch [w.heap.size, w.heap.size + 1] w4 W6 := by rw [hW6]; exact T5.setCell (Or.inl (by simp)) _
  have b61 : W6.heap[w.heap.size + 1]? = some (.cells dz 32 (0, 0)) := by rw [hW6]; exact ((Touch.refl [w.heap.size] _).setCell (Or.inl (by simp)) _).keep b51 (by simp)
  have z6 : W6.heap.size = w4.heap.size := by rw [hW6]; simp; exact z5
  rw [← hW6]
  clear hW6 i0 i1 i2 i3 i4 iff b5 b51 T5 z5 lt0 lt3 lt4
  obtain ⟨i0, i1, i2, i3, i4, iff⟩ := dcs_at b6
  have HT46 := hid T6
  have Q4z : Hid (w.heap.size + 2 ≤ w4.heap.size) := hid (by have := Q4.out.T.size; have := Q3z.out; omega)
  by_cases hnp : np = 0
  · have HP' : Hid (Ra w (.slice ap np cp) (S.pk.drop (S.tl.length + 1))) := hid (by
      have h0 : S.pk.drop S.tl.length = [] := List.length_eq_zero_iff.1 (by have := HNq.out; omega)
      rw [← HDD.out, h0]
      have := HPr.out
      rw [h0] at this
      exact this)
    have HU' : Hid (Un w (.slice ap np cp) (S.pk.drop S.tl.length) (.slice ap np cp) (S.pk.drop (S.tl.length + 1))) := hid (Or.inl ⟨rfl, fun hq => by rw [← HDD.out, List.length_drop] at hq; omega⟩)
    have HT47 := HT46
    have HT7 : Hid (Touch [] w W6) := hid ((Q3.out.trans' Q4.out.T).trans T6 (fun q hq => Or.inr (by simp only [List.mem_cons, List.not_mem_nil, or_false] at hq; omega)))
    have HS7 : Hid (w.heap.size + 2 ≤ W6.heap.size) := hid (by have := Q4z.out; omega)
    have HW7a := hid b6
    have HW7b := hid b61
    have hnz : ¬ (0 : Int) < (np : Int) := by omega
    clear b6 b61 T6 z6 hnp hcp
    go_upto_region 9 with fail
    clear i0 i1 i2 i3 i4 iff
    obtain ⟨W7, hW7⟩ : ∃ W7, W7 = W6 := ⟨_, rfl⟩
    rw [← hW7] at HT7 HS7 HW7a HW7b HT47 ⊢
    clear hW7
    have x1 := HW7b.out
    have x0 := HW7a.out
    have lt7 : w.heap.size < W7.heap.size := by have := HS7.out; omega
    obtain ⟨j0, j1, j2, j3, j4, jff⟩ := dcs_at x0
    have HBB : Hid (∀ w', Touch [] W7 w' → w'.heap[w.heap.size]? = some (.cells #[.int .i64 S.pol, .int .u64 (s2 : Int), .slice ap np cp, .slice al2 nl2 cl2, .slice at' nt ct] 32 (0, 0)) ∧ w'.heap[w.heap.size + 1]? = some (.cells dz 32 (0, 0)) ∧ w.heap.size < w'.heap.size) := hid (fun w' T => ⟨T.keep x0 (by simp), T.keep x1 (by simp), by have := T.size; omega⟩)
    clear x0 x1
    go_upto_region 10 with (first
      | (at_builtin; refine wpList_append_ow rfl _ _ rfl W7.heap.size (.slice (some ⟨W7.heap.size, 0, none⟩) 0 0) [] rfl (ow_new _ (Nat.le_refl _)) _ S.tl rfl (HRt.out _ (HT7.out.alloc _)) (by have := HTL.out; simp; omega) (by simp) ?_; intro v8 w8 o8 t8 e8; have T8 := hid (told_app ((Touch.refl [] W7).alloc _) (ow_new W7 (Nat.le_refl _)) (Nat.le_refl _) t8); rw [List.nil_append] at o8; have O8 := hid o8; obtain ⟨a8, n8, c8, e9⟩ := o8.ra.slf; subst e9; clear o8 t8 e8)
      | (at_builtin; refine wpList_append_ow rfl _ _ rfl W7.heap.size (.slice a8 n8 c8) S.tl rfl (O8.out.keep0 ((Touch.refl _ _).alloc _)) _ [(i : Int)] rfl (ra_new _ _) (by have := HTL.out; simp; omega) (by have := T8.out.size; simp; omega) ?_; intro v9 w9 o9 t9 e9; have T9 := hid (told_app (T8.out.alloc _) (O8.out.keep0 ((Touch.refl _ _).alloc _)) (Nat.le_refl _) t9); obtain ⟨a9, n9, c9, e10⟩ := o9.ra.slf; subst e10; have O9 := hid o9; obtain ⟨x0, x1, lt9⟩ := HBB.out _ T9.out; have Y0 := hid x0; have Y1 := hid x1; obtain ⟨k0, k1, k2, k3, k4, kff⟩ := dcs_at x0; clear j0 j1 j2 j3 j4 jff o9 t9 e9 x0 x1))
    obtain ⟨W10, hW10⟩ : ∃ W10, W10 = w9.setCell ⟨w.heap.size, 4, none⟩ (.slice a9 n9 c9) := ⟨_, rfl⟩
    have T10 : Touch [w.heap.size, w.heap.size + 1] w9 W10 := by rw [hW10]; exact (Touch.refl _ _).setCell (Or.inl (by simp)) _
    have z0 := dset4 Y0.out (.slice a9 n9 c9)
    rw [← hW10] at z0
    have z1 : W10.heap[w.heap.size + 1]? = some (.cells dz 32 (0, 0)) := by rw [hW10]; exact ((Touch.refl [w.heap.size] _).setCell (Or.inl (by simp)) _).keep Y1.out (by simp)
    rw [← hW10]
    clear hW10 k0 k1 k2 k3 k4 kff lt7 lt9
    obtain ⟨k0, k1, k2, k3, k4, kff⟩ := dcs_at z0
    obtain ⟨d0, d1, d2, d3, d4, dff⟩ := dcs_at z1
    unfold dz at d0 d1 d2 d3 d4
    have HT10 := hid T10
    clear z0 z1 T10
    have HEnd : Hid (∀ W', Touch [w.heap.size, w.heap.size + 1] w9 W' → PkE (.returned (.tuple #[dvv (pickS S) (.slice ap np cp) (.slice al2 nl2 cl2) (.slice a9 n9 c9), .int .i64 (pickV S), .bool true])) w W' S _ _ _) := hid (fun W' T => HDoc.out _ _ _ _ _ _ _ Q3.out Q3z.out Q4.out HP'.out HU'.out (O9.out.base (by have := HS7.out; omega)) (HT47.out.trans T9.out (fun _ e => by cases e)) T ⟨_, _, _, rfl⟩ ⟨_, _, _, rfl⟩ ⟨_, _, _, rfl⟩)
    rw [HPS.out] at HEnd
    unfold dvv dvc at HEnd
    rw [HPV.out] at HEnd
    go_wp2
    refine bodyPost_ret (v := .tuple #[.agg #[.int .i64 S.pol, .int .u64 (s2 : Int), .slice ap np cp, .slice al2 nl2 cl2, .slice a9 n9 c9], .int .i64 xv, .bool true]) (by simp [results, Try.results12, go_sem, d0, d1, d2, d3, d4]) rfl (HEnd.out _ ?_)
    exact ((((HT10.out.setCell (Or.inl (by simp)) _).setCell (Or.inl (by simp)) _).setCell (Or.inl (by simp)) _).setCell (Or.inl (by simp)) _).setCell (Or.inl (by simp)) _
  · obtain ⟨g, off, eg, ylt, yc⟩ := HPr.out.cell (i := 0) (by have := HNq.out; omega)
    subst eg
    clear ylt yc
    have HRd := hid (ra_drop (i := 1) HPr.out (by have := HNq.out; omega))
    rw [HDD.out, ← HNq.out] at HRd
    have hpos : 0 < (np : Int) := by omega
    have hp1 : (1 : Int) ≤ (np : Int) := by omega
    have zc1 : (1 : Int) ≤ (cp : Int) := by omega
    have hz1 : ((np : Int) - 1).toNat = np - 1 := by omega
    have hz2 : ((cp : Int) - 1).toNat = cp - 1 := by omega
    have HU : Hid (∀ o2, Un w (.slice (some ⟨g, off, none⟩) np cp) (S.pk.drop S.tl.length) (.slice (some ⟨g, o2, none⟩) (np - 1) (cp - 1)) (S.pk.drop (S.tl.length + 1))) := hid (fun o2 => Or.inl ⟨rfl, fun _ => by have := HNq.out; omega⟩)
    by_cases hc1 : cp = 1
    · have hn1 : np = 1 := by omega
      subst hc1 hn1
      rw [if_pos rfl] at HRd
      simp only [Nat.sub_self] at HRd HU
      have HP' := HRd
      have HU' := hid (HU.out off)
      go_upto_region 9 with fail
      obtain ⟨W7, hW7⟩ : ∃ W7, W7 = W6.setCell ⟨w.heap.size, 2, none⟩ (.slice (some ⟨g, off, none⟩) 0 0) := ⟨_, rfl⟩
      have b7 := dset2 b6 (.slice (some ⟨g, off, none⟩) 0 0)
      rw [← hW7] at b7
      have T7 : Touch [w.heap.size, w.heap.size + 1] w4 W7 := by rw [hW7]; exact T6.setCell (Or.inl (by simp)) _
      have b71 : W7.heap[w.heap.size + 1]? = some (.cells dz 32 (0, 0)) := by rw [hW7]; exact ((Touch.refl [w.heap.size] _).setCell (Or.inl (by simp)) _).keep b61 (by simp)
      have z7 : W7.heap.size = w4.heap.size := by rw [hW7]; simp; exact z6
      rw [← hW7]
      clear hW7 i0 i1 i2 i3 i4 iff
      have HT47 := hid T7
      have HT7 : Hid (Touch [] w W7) := hid ((Q3.out.trans' Q4.out.T).trans T7 (fun q hq => Or.inr (by simp only [List.mem_cons, List.not_mem_nil, or_false] at hq; omega)))
      have HS7 : Hid (w.heap.size + 2 ≤ W7.heap.size) := hid (by have := Q4z.out; omega)
      have HW7a := hid b7
      have HW7b := hid b71
      clear b6 b61 T6 z6 b7 b71 T7 z7 HRd HU
      have x1 := HW7b.out
      have x0 := HW7a.out
      have lt7 : w.heap.size < W7.heap.size := by have := HS7.out; omega
      obtain ⟨j0, j1, j2, j3, j4, jff⟩ := dcs_at x0
      have HBB : Hid (∀ w', Touch [] W7 w' → w'.heap[w.heap.size]? = some (.cells #[.int .i64 S.pol, .int .u64 (s2 : Int), .slice (some ⟨g, off, none⟩) 0 0, .slice al2 nl2 cl2, .slice at' nt ct] 32 (0, 0)) ∧ w'.heap[w.heap.size + 1]? = some (.cells dz 32 (0, 0)) ∧ w.heap.size < w'.heap.size) := hid (fun w' T => ⟨T.keep x0 (by simp), T.keep x1 (by simp), by have := T.size; omega⟩)
      clear x0 x1
      go_upto_region 10 with (first
        | (at_builtin; refine wpList_append_ow rfl _ _ rfl W7.heap.size (.slice (some ⟨W7.heap.size, 0, none⟩) 0 0) [] rfl (ow_new _ (Nat.le_refl _)) _ S.tl rfl (HRt.out _ (HT7.out.alloc _)) (by have := HTL.out; simp; omega) (by simp) ?_; intro v8 w8 o8 t8 e8; have T8 := hid (told_app ((Touch.refl [] W7).alloc _) (ow_new W7 (Nat.le_refl _)) (Nat.le_refl _) t8); rw [List.nil_append] at o8; have O8 := hid o8; obtain ⟨a8, n8, c8, e9⟩ := o8.ra.slf; subst e9; clear o8 t8 e8)
        | (at_builtin; refine wpList_append_ow rfl _ _ rfl W7.heap.size (.slice a8 n8 c8) S.tl rfl (O8.out.keep0 ((Touch.refl _ _).alloc _)) _ [(i : Int)] rfl (ra_new _ _) (by have := HTL.out; simp; omega) (by have := T8.out.size; simp; omega) ?_; intro v9 w9 o9 t9 e9; have T9 := hid (told_app (T8.out.alloc _) (O8.out.keep0 ((Touch.refl _ _).alloc _)) (Nat.le_refl _) t9); obtain ⟨a9, n9, c9, e10⟩ := o9.ra.slf; subst e10; have O9 := hid o9; obtain ⟨x0, x1, lt9⟩ := HBB.out _ T9.out; have Y0 := hid x0; have Y1 := hid x1; obtain ⟨k0, k1, k2, k3, k4, kff⟩ := dcs_at x0; clear j0 j1 j2 j3 j4 jff o9 t9 e9 x0 x1))
      obtain ⟨W10, hW10⟩ : ∃ W10, W10 = w9.setCell ⟨w.heap.size, 4, none⟩ (.slice a9 n9 c9) := ⟨_, rfl⟩
      have T10 : Touch [w.heap.size, w.heap.size + 1] w9 W10 := by rw [hW10]; exact (Touch.refl _ _).setCell (Or.inl (by simp)) _
      have z0 := dset4 Y0.out (.slice a9 n9 c9)
      rw [← hW10] at z0
      have z1 : W10.heap[w.heap.size + 1]? = some (.cells dz 32 (0, 0)) := by rw [hW10]; exact ((Touch.refl [w.heap.size] _).setCell (Or.inl (by simp)) _).keep Y1.out (by simp)
      rw [← hW10]
      clear hW10 k0 k1 k2 k3 k4 kff lt7 lt9
      obtain ⟨k0, k1, k2, k3, k4, kff⟩ := dcs_at z0
      obtain ⟨d0, d1, d2, d3, d4, dff⟩ := dcs_at z1
      unfold dz at d0 d1 d2 d3 d4
      have HT10 := hid T10
      clear z0 z1 T10
      have HEnd : Hid (∀ W', Touch [w.heap.size, w.heap.size + 1] w9 W' → PkE (.returned (.tuple #[dvv (pickS S) (.slice (some ⟨g, off, none⟩) 0 0) (.slice al2 nl2 cl2) (.slice a9 n9 c9), .int .i64 (pickV S), .bool true])) w W' S _ _ _) := hid (fun W' T => HDoc.out _ _ _ _ _ _ _ Q3.out Q3z.out Q4.out HP'.out HU'.out (O9.out.base (by have := HS7.out; omega)) (HT47.out.trans T9.out (fun _ e => by cases e)) T ⟨_, _, _, rfl⟩ ⟨_, _, _, rfl⟩ ⟨_, _, _, rfl⟩)
      rw [HPS.out] at HEnd
      unfold dvv dvc at HEnd
      rw [HPV.out] at HEnd
      go_wp2
      refine bodyPost_ret (v := .tuple #[.agg #[.int .i64 S.pol, .int .u64 (s2 : Int), .slice (some ⟨g, off, none⟩) 0 0, .slice al2 nl2 cl2, .slice a9 n9 c9], .int .i64 xv, .bool true]) (by simp [results, Try.results12, go_sem, d0, d1, d2, d3, d4]) rfl (HEnd.out _ ?_)
      exact ((((HT10.out.setCell (Or.inl (by simp)) _).setCell (Or.inl (by simp)) _).setCell (Or.inl (by simp)) _).setCell (Or.inl (by simp)) _).setCell (Or.inl (by simp)) _
    · rw [if_neg hc1] at HRd
      have HP' := HRd
      have HU' := hid (HU.out (off + 1))
      go_upto_region 9 with fail
      obtain ⟨W7, hW7⟩ : ∃ W7, W7 = W6.setCell ⟨w.heap.size, 2, none⟩ (.slice (some ⟨g, off + 1, none⟩) (np - 1) (cp - 1)) := ⟨_, rfl⟩
      have b7 := dset2 b6 (.slice (some ⟨g, off + 1, none⟩) (np - 1) (cp - 1))
      rw [← hW7] at b7
      have T7 : Touch [w.heap.size, w.heap.size + 1] w4 W7 := by rw [hW7]; exact T6.setCell (Or.inl (by simp)) _
      have b71 : W7.heap[w.heap.size + 1]? = some (.cells dz 32 (0, 0)) := by rw [hW7]; exact ((Touch.refl [w.heap.size] _).setCell (Or.inl (by simp)) _).keep b61 (by simp)
      have z7 : W7.heap.size = w4.heap.size := by rw [hW7]; simp; exact z6
      rw [← hW7]
      clear hW7 i0 i1 i2 i3 i4 iff
      have HT47 := hid T7
      have HT7 : Hid (Touch [] w W7) := hid ((Q3.out.trans' Q4.out.T).trans T7 (fun q hq => Or.inr (by simp only [List.mem_cons, List.not_mem_nil, or_false] at hq; omega)))
      have HS7 : Hid (w.heap.size + 2 ≤ W7.heap.size) := hid (by have := Q4z.out; omega)
      have HW7a := hid b7
      have HW7b := hid b71
      clear b6 b61 T6 z6 b7 b71 T7 z7 HRd HU
      have x1 := HW7b.out
      have x0 := HW7a.out
      have lt7 : w.heap.size < W7.heap.size := by have := HS7.out; omega
      obtain ⟨j0, j1, j2, j3, j4, jff⟩ := dcs_at x0
      have HBB : Hid (∀ w', Touch [] W7 w' → w'.heap[w.heap.size]? = some (.cells #[.int .i64 S.pol, .int .u64 (s2 : Int), .slice (some ⟨g, off + 1, none⟩) (np - 1) (cp - 1), .slice al2 nl2 cl2, .slice at' nt ct] 32 (0, 0)) ∧ w'.heap[w.heap.size + 1]? = some (.cells dz 32 (0, 0)) ∧ w.heap.size < w'.heap.size) := hid (fun w' T => ⟨T.keep x0 (by simp), T.keep x1 (by simp), by have := T.size; omega⟩)
      clear x0 x1
      go_upto_region 10 with (first
        | (at_builtin; refine wpList_append_ow rfl _ _ rfl W7.heap.size (.slice (some ⟨W7.heap.size, 0, none⟩) 0 0) [] rfl (ow_new _ (Nat.le_refl _)) _ S.tl rfl (HRt.out _ (HT7.out.alloc _)) (by have := HTL.out; simp; omega) (by simp) ?_; intro v8 w8 o8 t8 e8; have T8 := hid (told_app ((Touch.refl [] W7).alloc _) (ow_new W7 (Nat.le_refl _)) (Nat.le_refl _) t8); rw [List.nil_append] at o8; have O8 := hid o8; obtain ⟨a8, n8, c8, e9⟩ := o8.ra.slf; subst e9; clear o8 t8 e8)
        | (at_builtin; refine wpList_append_ow rfl _ _ rfl W7.heap.size (.slice a8 n8 c8) S.tl rfl (O8.out.keep0 ((Touch.refl _ _).alloc _)) _ [(i : Int)] rfl (ra_new _ _) (by have := HTL.out; simp; omega) (by have := T8.out.size; simp; omega) ?_; intro v9 w9 o9 t9 e9; have T9 := hid (told_app (T8.out.alloc _) (O8.out.keep0 ((Touch.refl _ _).alloc _)) (Nat.le_refl _) t9); obtain ⟨a9, n9, c9, e10⟩ := o9.ra.slf; subst e10; have O9 := hid o9; obtain ⟨x0, x1, lt9⟩ := HBB.out _ T9.out; have Y0 := hid x0; have Y1 := hid x1; obtain ⟨k0, k1, k2, k3, k4, kff⟩ := dcs_at x0; clear j0 j1 j2 j3 j4 jff o9 t9 e9 x0 x1))
      obtain ⟨W10, hW10⟩ : ∃ W10, W10 = w9.setCell ⟨w.heap.size, 4, none⟩ (.slice a9 n9 c9) := ⟨_, rfl⟩
      have T10 : Touch [w.heap.size, w.heap.size + 1] w9 W10 := by rw [hW10]; exact (Touch.refl _ _).setCell (Or.inl (by simp)) _
      have z0 := dset4 Y0.out (.slice a9 n9 c9)
      rw [← hW10] at z0
      have z1 : W10.heap[w.heap.size + 1]? = some (.cells dz 32 (0, 0)) := by rw [hW10]; exact ((Touch.refl [w.heap.size] _).setCell (Or.inl (by simp)) _).keep Y1.out (by simp)
      rw [← hW10]
      clear hW10 k0 k1 k2 k3 k4 kff lt7 lt9
      obtain ⟨k0, k1, k2, k3, k4, kff⟩ := dcs_at z0
      obtain ⟨d0, d1, d2, d3, d4, dff⟩ := dcs_at z1
      unfold dz at d0 d1 d2 d3 d4
      have HT10 := hid T10
      clear z0 z1 T10
      have HEnd : Hid (∀ W', Touch [w.heap.size, w.heap.size + 1] w9 W' → PkE (.returned (.tuple #[dvv (pickS S) (.slice (some ⟨g, off + 1, none⟩) (np - 1) (cp - 1)) (.slice al2 nl2 cl2) (.slice a9 n9 c9), .int .i64 (pickV S), .bool true])) w W' S _ _ _) := hid (fun W' T => HDoc.out _ _ _ _ _ _ _ Q3.out Q3z.out Q4.out HP'.out HU'.out (O9.out.base (by have := HS7.out; omega)) (HT47.out.trans T9.out (fun _ e => by cases e)) T ⟨_, _, _, rfl⟩ ⟨_, _, _, rfl⟩ ⟨_, _, _, rfl⟩)
      rw [HPS.out] at HEnd
      unfold dvv dvc at HEnd
      rw [HPV.out] at HEnd
      go_wp2
      refine bodyPost_ret (v := .tuple #[.agg #[.int .i64 S.pol, .int .u64 (s2 : Int), .slice (some ⟨g, off + 1, none⟩) (np - 1) (cp - 1), .slice al2 nl2 cl2, .slice a9 n9 c9], .int .i64 xv, .bool true]) (by simp [results, Try.results12, go_sem, d0, d1, d2, d3, d4]) rfl (HEnd.out _ ?_)
      exact ((((HT10.out.setCell (Or.inl (by simp)) _).setCell (Or.inl (by simp)) _).setCell (Or.inl (by simp)) _).setCell (Or.inl (by simp)) _).setCell (Or.inl (by simp)) _
theorem dpick_ (h : Dm w S p l t) (hv : Iv S N) (hN : N ≤ 8796093022208) : Calls Try.prog 12 #[dvv S p l t] w fun e w' => PkE e w w' S p l t := by
  by_cases hne : S.ln = []
  · exact dpick_no h hv hne
  · exact dpick_yes h hv hN hne
end
end Go.Proofs.Ythpkkfmphoopnaa.Re
