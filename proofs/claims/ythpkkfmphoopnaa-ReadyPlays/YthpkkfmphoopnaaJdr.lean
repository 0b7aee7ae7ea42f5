/- The contracts of the document's Rest and Wake; no conditions but those that each states. -/
import Derived.Test.YthpkkfmphoopnaaJpl
namespace Go.Proofs.Ythpkkfmphoopnaa.Re
open Go.RowKit Go.Maps Go.ChangeMaps
set_option linter.unusedVariables false
set_option linter.unusedSimpArgs false
theorem ra_take {w : World} {g off c n i : Nat} {xs : List Int} (h : Ra w (.slice (some ⟨g, off, none⟩) n c) xs) (hi : i ≤ xs.length) : Ra w (.slice (some ⟨g, off, none⟩) i c) (xs.take i) := by
  obtain ⟨a, c', e, h1, h2⟩ := h
  cases e
  have hl : (xs.take i).length = i := by rw [List.length_take]; omega
  refine ⟨_, c, by rw [hl], by omega, fun hp => ?_⟩
  obtain ⟨g', off', e, hg, hc⟩ := h2 (by omega)
  cases e
  refine ⟨g, off, rfl, hg, fun j r hj => hc j r ?_⟩
  have hj' := (List.getElem?_eq_some_iff.1 hj).1
  rw [hl] at hj'
  rwa [List.getElem?_take, if_pos hj'] at hj
theorem ra_drop {w : World} {g off c n i : Nat} {xs : List Int} (h : Ra w (.slice (some ⟨g, off, none⟩) n c) xs) (hi : i ≤ xs.length) : Ra w (.slice (some ⟨g, if c = i then off else off + i, none⟩) (xs.length - i) (c - i)) (xs.drop i) := by
  obtain ⟨a, c', e, h1, h2⟩ := h
  cases e
  have hl : (xs.drop i).length = xs.length - i := List.length_drop
  refine ⟨_, c - i, by rw [hl], by omega, fun hp => ?_⟩
  obtain ⟨g', off', e, hg, hc⟩ := h2 (by omega)
  cases e
  refine ⟨g, _, rfl, hg, fun j r hj => ?_⟩
  rw [if_neg (by omega), show off + i + j = off + (i + j) by omega]
  refine hc (i + j) r ?_
  rwa [List.getElem?_drop] at hj
theorem app_touch {V W1 w2 : World} {v : Value} {xs : List Int} (h : Ow W1 V.heap.size v xs) (t : Touch [] V W1) (T : Touch v.ownBlock.toList W1 w2) : Touch [] V w2 :=
  t.trans T (fun q hq => Or.inr (h.lt (by simpa using hq)).1)
def Un (w : World) (v : Value) (xs : List Int) (v' : Value) (xs' : List Int) : Prop := (v'.ownBlock = v.ownBlock ∧ (0 < xs'.length → 0 < xs.length)) ∨ ∀ q, v'.ownBlock = some q → w.heap.size ≤ q
theorem Un.refl (w : World) (v : Value) (xs : List Int) : Un w v xs v xs := Or.inl ⟨rfl, id⟩
def SlF (v : Value) : Prop := ∃ a n c, v = .slice a n c
theorem Ra.slf {w : World} {v : Value} {xs : List Int} (h : Ra w v xs) : SlF v := by
  obtain ⟨a, c, e, _⟩ := h.form
  exact ⟨a, _, c, e⟩
/-- What a step of the document's leaves. -/
structure DE (w w' : World) (S S' : Rz) (p l t p' l' t' : Value) : Prop where
  d : Dm w' S' p' l' t'
  up : Un w p (S.pk.drop S.tl.length) p' (S'.pk.drop S'.tl.length)
  ul : Un w l S.ln l' S'.ln
  ut : Un w t S.tl t' S'.tl
  T : Touch [] w w'
/-- The two boxes of a call. -/
theorem box2 (w : World) (cs : Array Value) (V : World) (hV : V = (w.alloc (.cells cs 32)).alloc (.cells dz 32)) : Touch [] w V ∧ V.heap.size = w.heap.size + 2 ∧ V.heap[w.heap.size]? = some (.cells cs 32 (0, 0)) ∧ V.heap[w.heap.size + 1]? = some (.cells dz 32 (0, 0)) := by
  refine ⟨by rw [hV]; exact ((Touch.refl _ _).alloc _).alloc _, by rw [hV, World.size_alloc, World.size_alloc], by rw [hV]; exact ((Touch.refl [] _).alloc _).keep (heap_alloc_new w _) (by simp), ?_⟩
  rw [hV]
  have := heap_alloc_new (w.alloc (.cells cs 32)) (.cells dz 32)
  rwa [World.size_alloc] at this
theorem dset3 {w : World} {b : Nat} {S : Rz} {p l t : Value} (h : w.heap[b]? = some (.cells (dvc S p l t) 32 (0, 0))) (l' : Value) : (w.setCell ⟨b, 3, none⟩ l').heap[b]? = some (.cells (dvc S p l' t) 32 (0, 0)) := by
  have := bset (i := 3) h l'
  simpa [dvc] using this
section
variable {w : World} {N : Nat} {S : Rz} {p l t : Value}
set_option maxHeartbeats 4000000 in
set_option maxRecDepth 100000 in
theorem drest_ (h : Dm w S p l t) (hl1 : S.ln.length ≤ 65536) (i : Nat) (hi : i < S.ln.length) : Calls Try.prog 15 #[dvv S p l t, .int .i64 (i : Int)] w fun e w' => ∃ l', e = .returned (dvv (outS S i) p l' t) ∧ SlF l' ∧ DE w w' S (outS S i) p l t p l' t := by
  have HF : Hid (∀ w' l', Touch [] w w' → Ow w' (w.heap.size + 2) l' (S.ln.eraseIdx i) → DE w w' S (outS S i) p l t p l' t) := hid (fun w' l' T hl' => ⟨⟨h.p.keep0 T, hl'.ra, h.t.keep0 T⟩, Un.refl _ _ _, Or.inr (fun q hq => by have := (hl'.lt hq).1; omega), Un.refl _ _ _, T⟩)
  have HF2 : Hid (∀ w6 v6 W', Touch [] w w6 → Ow w6 (w.heap.size + 2) v6 (S.ln.eraseIdx i) → Touch [w.heap.size, w.heap.size + 1] w6 W' → DE w W' S (outS S i) p l t p v6 t) := hid (fun w6 v6 W' q1 q2 q3 => HF.out W' v6 (q1.trans q3 (fun q hq => Or.inr (by simp only [List.mem_cons, List.not_mem_nil, or_false] at hq; omega))) (q2.keep q3 (fun q hq e => by have := (q2.lt hq).1; simp only [List.mem_cons, List.not_mem_nil, or_false] at e; omega)))
  have HOL : Hid (S.ln.take i ++ S.ln.drop (i + 1) = S.ln.eraseIdx i) := hid (by rw [List.eraseIdx_eq_take_drop_succ])
  obtain ⟨ap, cp, ep, _⟩ := h.p.form
  obtain ⟨al, cl, el, hcl⟩ := h.l.form
  obtain ⟨at', ct, et, _⟩ := h.t.form
  generalize (S.pk.drop S.tl.length).length = pn at *
  generalize S.tl.length = tn at *
  subst ep el et
  obtain ⟨g, off, eg, ylt, yc⟩ := h.l.cell hi
  subst eg
  clear ylt yc
  obtain ⟨V, hV⟩ : ∃ V, V = (w.alloc (.cells (dvc S (.slice ap pn cp) (.slice (some ⟨g, off, none⟩) S.ln.length cl) (.slice at' tn ct)) 32)).alloc (.cells dz 32) := ⟨_, rfl⟩
  obtain ⟨tv, hz, hb0, hb1⟩ := box2 w _ V hV
  have HTk := hid (fun w' (T : Touch [] V w') => ra_take (h.l.keep0 (tv.trans' T)) (Nat.le_of_lt hi))
  have HDr := hid (fun w' (T : Touch [] V w') => ra_drop (i := i + 1) (h.l.keep0 (tv.trans' T)) hi)
  have HB : Hid (∀ w', Touch [] V w' → w'.heap[w.heap.size]? = some (.cells (dvc S (.slice ap pn cp) (.slice (some ⟨g, off, none⟩) S.ln.length cl) (.slice at' tn ct)) 32 (0, 0)) ∧ w'.heap[w.heap.size + 1]? = some (.cells dz 32 (0, 0))) := hid (fun w' T => ⟨T.keep hb0 (by simp), T.keep hb1 (by simp)⟩)
  have TV := hid tv
  have HOw0 : Hid (Ow (V.alloc (.cells #[] 3)) V.heap.size (.slice (some ⟨V.heap.size, 0, none⟩) 0 0) []) := hid (ow_new V (Nat.le_refl _))
  have HLe : Hid (i + (S.ln.length - (i + 1)) ≤ 65536) := hid (by omega)
  obtain ⟨i0, i1, i2, i3, i4, iff⟩ := dcs_at hb0
  have HZ := hid hz
  have lt0 : w.heap.size < V.heap.size := by omega
  have HLt : Hid ((S.ln.take i).length = i ∧ (S.ln.drop (i + 1)).length = S.ln.length - (i + 1)) := hid ⟨by rw [List.length_take]; omega, List.length_drop⟩
  clear h tv hb0 hb1 hz
  unfold dvc at hV i0 i1 i2 i3 i4
  unfold dvv outS dvc
  unfold outS at HF2
  clear HF
  unfold dz at hV
  generalize S.ln.take i = Lt at *
  generalize S.ln.drop (i + 1) = Ld at *
  generalize S.ln.eraseIdx i = Le at *
  generalize S.ln.length = n at *
  have zi : (i : Int) ≤ (n : Int) := by omega
  have zc : (i : Int) ≤ (cl : Int) := by omega
  have zi1 : (i : Int) + 1 ≤ (n : Int) := by omega
  have hw : IntKind.i64.wrap ((i : Int) + 1) = (i : Int) + 1 := by simp [IntKind.wrap, IntKind.bits, IntKind.signed, IntKind.min, IntKind.max]; omega
  go_enter Try.func15, Try.ntmps15
  go_upto_region 1 with fail
  rw [← hV]
  clear hV
  go_upto_region 2 with (at_builtin; refine wpList_append_ow rfl _ _ rfl V.heap.size _ [] rfl HOw0.out _ Lt rfl (HTk.out _ ((Touch.refl _ _).alloc _)) (by have := HLt.out.1; have := HLe.out; simp; omega) (by simp) ?_; intro v5 w5 o5 t5 e5; have T5 := hid (app_touch HOw0.out ((Touch.refl _ _).alloc _) t5); rw [List.nil_append] at o5; have O5 := hid o5; obtain ⟨a5, c5, e6⟩ : ∃ a c, v5 = .slice a i c := (by obtain ⟨a, c, e, _⟩ := o5.form; exact ⟨a, c, by rw [e, HLt.out.1]⟩); subst e6; clear o5 t5 e5)
  obtain ⟨x0, x1⟩ := HB.out _ T5.out
  obtain ⟨j0, j1, j2, j3, j4, jff⟩ := dcs_at x0
  have X0 := hid x0
  have X1 := hid x1
  clear i0 i1 i2 i3 i4 iff x0 x1 lt0
  unfold dvc at j0 j1 j2 j3 j4
  have HD2 := hid (HDr.out _ T5.out)
  have hzz : (n - (i + 1) : Nat) = n - (i + 1) := rfl
  have zcn : (((cl : Int) - ((i : Int) + 1)).toNat) = cl - (i + 1) := by omega
  have zcm : (((n : Int) - ((i : Int) + 1)).toNat) = n - (i + 1) := by omega
  have zt : ((i : Int) + 1).toNat = i + 1 := by omega
  have HFin : Hid (∀ w6 v6, Ow w6 V.heap.size v6 (Lt ++ Ld) → Touch (Value.slice a5 i c5).ownBlock.toList w5 w6 → SlF v6 ∧ (w6.heap[w.heap.size]? = some (.cells (dvc S (.slice ap pn cp) (.slice (some ⟨g, off, none⟩) n cl) (.slice at' tn ct)) 32 (0, 0)) ∧ w6.heap[w.heap.size + 1]? = some (.cells dz 32 (0, 0))) ∧ Touch [] w w6 ∧ Ow w6 (w.heap.size + 2) v6 Le) := hid (fun w6 v6 q1 q2 => by
    have T6 : Touch [] V w6 := T5.out.trans q2 (fun q hq => Or.inr (O5.out.lt (by simpa using hq)).1)
    rw [HOL.out] at q1
    exact ⟨q1.ra.slf, HB.out _ T6, TV.out.trans' T6, by rw [← HZ.out]; exact q1⟩)
  have HLO : Hid (Lt.length + Ld.length ≤ 17592186044416) := hid (by have := HLt.out; have := HLe.out; omega)
  by_cases hcc : cl = i + 1
  · have hnn : n = i + 1 := by omega
    subst hcc hnn
    rw [if_pos rfl, Nat.sub_self] at HD2
    go_upto_region 3 with (at_builtin; refine wpList_append_ow rfl _ _ rfl V.heap.size _ Lt rfl O5.out _ Ld rfl HD2.out HLO.out (by have := T5.out.size; omega) ?_; intro v6 w6 o6 t6 e6; obtain ⟨⟨a6, n6, c6, e7⟩, ⟨x0, x1⟩, q3, q4⟩ := HFin.out _ _ o6 t6; subst e7; have Q3 := hid q3; have Q4 := hid q4; have Y0 := hid x0; have Y1 := hid x1; obtain ⟨k0, k1, k2, k3, k4, kff⟩ := dcs_at x0; clear j0 j1 j2 j3 j4 jff o6 t6 e6 q3 q4 x0 x1)
    obtain ⟨W7, hW7⟩ : ∃ W7, W7 = w6.setCell ⟨w.heap.size, 3, none⟩ (.slice a6 n6 c6) := ⟨_, rfl⟩
    have T7 : Touch [w.heap.size, w.heap.size + 1] w6 W7 := by rw [hW7]; exact (Touch.refl _ _).setCell (Or.inl (by simp)) _
    have z0 := dset3 Y0.out (.slice a6 n6 c6)
    rw [← hW7] at z0
    have z1 : W7.heap[w.heap.size + 1]? = some (.cells dz 32 (0, 0)) := by rw [hW7]; exact ((Touch.refl [w.heap.size] _).setCell (Or.inl (by simp)) _).keep Y1.out (by simp)
    rw [← hW7]
    clear hW7 k0 k1 k2 k3 k4 kff
    obtain ⟨k0, k1, k2, k3, k4, kff⟩ := dcs_at z0
    obtain ⟨d0, d1, d2, d3, d4, dff⟩ := dcs_at z1
    unfold dvc at k0 k1 k2 k3 k4
    unfold dz at d0 d1 d2 d3 d4
    have HT7 := hid T7
    clear z0 z1 T7
    go_wp2
    refine bodyPost_ret (v := .agg #[.int .i64 S.pol, .int .u64 (S.st : Int), .slice ap pn cp, .slice a6 n6 c6, .slice at' tn ct]) (by simp [results, Try.results15, go_sem, d0, d1, d2, d3, d4]) rfl ⟨_, rfl, ⟨_, _, _, rfl⟩, HF2.out _ _ _ Q3.out Q4.out ?_⟩
    exact ((((HT7.out.setCell (Or.inl (by simp)) _).setCell (Or.inl (by simp)) _).setCell (Or.inl (by simp)) _).setCell (Or.inl (by simp)) _).setCell (Or.inl (by simp)) _
  · rw [if_neg hcc] at HD2
    go_upto_region 3 with (at_builtin; refine wpList_append_ow rfl _ _ rfl V.heap.size _ Lt rfl O5.out _ Ld rfl HD2.out HLO.out (by have := T5.out.size; omega) ?_; intro v6 w6 o6 t6 e6; obtain ⟨⟨a6, n6, c6, e7⟩, ⟨x0, x1⟩, q3, q4⟩ := HFin.out _ _ o6 t6; subst e7; have Q3 := hid q3; have Q4 := hid q4; have Y0 := hid x0; have Y1 := hid x1; obtain ⟨k0, k1, k2, k3, k4, kff⟩ := dcs_at x0; clear j0 j1 j2 j3 j4 jff o6 t6 e6 q3 q4 x0 x1)
    obtain ⟨W7, hW7⟩ : ∃ W7, W7 = w6.setCell ⟨w.heap.size, 3, none⟩ (.slice a6 n6 c6) := ⟨_, rfl⟩
    have T7 : Touch [w.heap.size, w.heap.size + 1] w6 W7 := by rw [hW7]; exact (Touch.refl _ _).setCell (Or.inl (by simp)) _
    have z0 := dset3 Y0.out (.slice a6 n6 c6)
    rw [← hW7] at z0
    have z1 : W7.heap[w.heap.size + 1]? = some (.cells dz 32 (0, 0)) := by rw [hW7]; exact ((Touch.refl [w.heap.size] _).setCell (Or.inl (by simp)) _).keep Y1.out (by simp)
    rw [← hW7]
    clear hW7 k0 k1 k2 k3 k4 kff
    obtain ⟨k0, k1, k2, k3, k4, kff⟩ := dcs_at z0
    obtain ⟨d0, d1, d2, d3, d4, dff⟩ := dcs_at z1
    unfold dvc at k0 k1 k2 k3 k4
    unfold dz at d0 d1 d2 d3 d4
    have HT7 := hid T7
    clear z0 z1 T7
    go_wp2
    refine bodyPost_ret (v := .agg #[.int .i64 S.pol, .int .u64 (S.st : Int), .slice ap pn cp, .slice a6 n6 c6, .slice at' tn ct]) (by simp [results, Try.results15, go_sem, d0, d1, d2, d3, d4]) rfl ⟨_, rfl, ⟨_, _, _, rfl⟩, HF2.out _ _ _ Q3.out Q4.out ?_⟩
    exact ((((HT7.out.setCell (Or.inl (by simp)) _).setCell (Or.inl (by simp)) _).setCell (Or.inl (by simp)) _).setCell (Or.inl (by simp)) _).setCell (Or.inl (by simp)) _
theorem wake_ne {x : Int} (h : wakeE S x ≠ 0) : wakeS S x = S := by unfold wakeS; rw [if_neg h]
theorem wake_eq {x : Int} (h : wakeE S x = 0) : wakeS S x = { S with ln := S.ln ++ [x] } := by unfold wakeS; rw [if_pos h]
set_option maxHeartbeats 4000000 in
set_option maxRecDepth 100000 in
theorem dwake_ (h : Dm w S p l t) (hl1 : S.ln.length ≤ 65536) (x : Int) : Calls Try.prog 19 #[dvv S p l t, .int .i64 x] w fun e w' => ∃ l', e = .returned (.tuple #[dvv (wakeS S x) p l' t, .int .i64 (wakeE S x)]) ∧ SlF l' ∧ DE w w' S (wakeS S x) p l t p l' t := by
  have HSame : Hid (∀ w', Touch [] w w' → DE w w' S S p l t p l t) := hid (fun w' T => ⟨h.keep0 T, Un.refl _ _ _, Un.refl _ _ _, Un.refl _ _ _, T⟩)
  have HF2 : Hid (∀ w6 v6 W', Touch [] w w6 → Ow w6 (w.heap.size + 2) v6 (S.ln ++ [x]) → Touch [w.heap.size, w.heap.size + 1] w6 W' → DE w W' S { S with ln := S.ln ++ [x] } p l t p v6 t) := hid (fun w6 v6 W' q1 q2 q3 => by
    have T : Touch [] w W' := q1.trans q3 (fun q hq => Or.inr (by simp only [List.mem_cons, List.not_mem_nil, or_false] at hq; omega))
    exact ⟨⟨h.p.keep0 T, (q2.keep q3 (fun q hq e => by have := (q2.lt hq).1; simp only [List.mem_cons, List.not_mem_nil, or_false] at e; omega)).ra, h.t.keep0 T⟩, Un.refl _ _ _, Or.inr (fun q hq => by have := (q2.lt hq).1; omega), Un.refl _ _ _, T⟩)
  obtain ⟨ap, cp, ep, _⟩ := h.p.form
  obtain ⟨al, cl, el, hcl⟩ := h.l.form
  obtain ⟨at', ct, et, _⟩ := h.t.form
  generalize (S.pk.drop S.tl.length).length = pn at *
  generalize S.tl.length = tn at *
  subst ep el et
  obtain ⟨V, hV⟩ : ∃ V, V = (w.alloc (.cells (dvc S (.slice ap pn cp) (.slice al S.ln.length cl) (.slice at' tn ct)) 32)).alloc (.cells dz 32) := ⟨_, rfl⟩
  obtain ⟨tv, hz, hb0, hb1⟩ := box2 w _ V hV
  have HFi := hid (find_ V S (.slice ap pn cp) (.slice al S.ln.length cl) (.slice at' tn ct) x ⟨_, _, _, rfl⟩ ⟨_, _, _, rfl⟩ (h.l.keep0 tv) hl1)
  have HRl := hid (fun w' (T : Touch [] V w') => h.l.keep0 (tv.trans' T))
  have HB : Hid (∀ w', Touch [] V w' → w'.heap[w.heap.size]? = some (.cells (dvc S (.slice ap pn cp) (.slice al S.ln.length cl) (.slice at' tn ct)) 32 (0, 0)) ∧ w'.heap[w.heap.size + 1]? = some (.cells dz 32 (0, 0)) ∧ w.heap.size < w'.heap.size) := hid (fun w' T => ⟨T.keep hb0 (by simp), T.keep hb1 (by simp), by have := T.size; omega⟩)
  have TV := hid tv
  obtain ⟨i0, i1, i2, i3, i4, iff⟩ := dcs_at hb0
  have HZ := hid hz
  clear h tv hb0 hb1 hz
  unfold dvc at hV i0 i1 i2 i3 i4
  unfold dz at hV
  unfold dvv dvc at HFi ⊢
  by_cases hne : wakeE S x = 0
  · rw [hne, wake_eq hne]
    have hni : ¬ x ∈ S.ln := fun e => by unfold wakeE at hne; rw [if_pos e] at hne; simp at hne
    have hfu : S.ln.length < 65536 := by
      unfold wakeE at hne
      rw [if_neg hni] at hne
      split at hne
      · simp at hne
      · omega
    rw [show idxI S.ln x = -1 by unfold idxI; rw [if_neg hni]] at HFi
    clear hni hne HSame
    have HOw0 : Hid (∀ w2, Touch [] V w2 → Ow (w2.alloc (.cells #[] 3)) V.heap.size (.slice (some ⟨w2.heap.size, 0, none⟩) 0 0) []) := hid (fun w2 T => ow_new w2 T.size)
    have HLe : Hid (S.ln.length + 1 ≤ 65536) := hid (by omega)
    generalize S.ln = xs at *
    obtain ⟨n, hn⟩ : ∃ n, n = xs.length := ⟨_, rfl⟩
    rw [← hn] at hV HFi HRl HB i0 i1 i2 i3 i4 hfu HLe HF2 ⊢
    obtain ⟨NI, hNI⟩ : ∃ NI : Int, (n : Int) = NI := ⟨_, rfl⟩
    have zf : NI < 65536 := by omega
    have HNn := hid hn
    clear hn hfu hl1
    go_enter Try.func19, Try.ntmps19
    go_upto_region 1 with fail
    rw [← hV]
    clear hV
    go_upto_region 3 with (go_at_call 13; refine HFi.out.mono ?_; rintro e w2 ⟨rfl, t2⟩; obtain ⟨x0, x1, lt0⟩ := HB.out _ t2; have T2 := hid t2; clear t2 i0 i1 i2 i3 i4 iff; obtain ⟨i0, i1, i2, i3, i4, iff⟩ := dcs_at x0; clear x0 x1)
    unfold dvc at i0 i1 i2 i3 i4
    go_upto_region 5 with fail
    clear hNI zf
    go_upto_region 6 with (first
      | (at_builtin; refine wpList_append_ow rfl _ _ rfl V.heap.size (.slice (some ⟨w2.heap.size, 0, none⟩) 0 0) [] rfl (HOw0.out _ T2.out) _ xs rfl (HRl.out _ (T2.out.alloc _)) (by have := HNn.out; have := HLe.out; simp; omega) (by have := T2.out.size; simp; omega) ?_; intro v5 w5 o5 t5 e5; have T5 := hid (app_touch (HOw0.out _ T2.out) (T2.out.alloc _) t5); rw [List.nil_append] at o5; have O5 := hid o5; obtain ⟨a5, c5, e6⟩ : ∃ a c, v5 = .slice a n c := (by obtain ⟨a, c, e, _⟩ := o5.form; exact ⟨a, c, by rw [e, HNn.out]⟩); subst e6; clear o5 t5 e5)
      | (at_builtin; refine wpList_append_ow rfl _ _ rfl V.heap.size (.slice a5 n c5) xs rfl (O5.out.keep0 ((Touch.refl _ _).alloc _)) _ [x] rfl (ra_new _ _) (by have := HNn.out; have := HLe.out; simp; omega) (by have := T5.out.size; simp; omega) ?_; intro v6 w6 o6 t6 e6; have T6 := hid (app_touch (O5.out.keep0 ((Touch.refl _ _).alloc _)) (T5.out.alloc _) t6); obtain ⟨a6, n6, c6, e7⟩ := o6.ra.slf; subst e7; have O6 := hid o6; obtain ⟨x0, x1, lt6⟩ := HB.out _ T6.out; have Y0 := hid x0; have Y1 := hid x1; obtain ⟨k0, k1, k2, k3, k4, kff⟩ := dcs_at x0; clear i0 i1 i2 i3 i4 iff o6 t6 e6 x0 x1))
    obtain ⟨W7, hW7⟩ : ∃ W7, W7 = w6.setCell ⟨w.heap.size, 3, none⟩ (.slice a6 n6 c6) := ⟨_, rfl⟩
    have T7 : Touch [w.heap.size, w.heap.size + 1] w6 W7 := by rw [hW7]; exact (Touch.refl _ _).setCell (Or.inl (by simp)) _
    have z0 := dset3 Y0.out (.slice a6 n6 c6)
    rw [← hW7] at z0
    have z1 : W7.heap[w.heap.size + 1]? = some (.cells dz 32 (0, 0)) := by rw [hW7]; exact ((Touch.refl [w.heap.size] _).setCell (Or.inl (by simp)) _).keep Y1.out (by simp)
    rw [← hW7]
    clear hW7 k0 k1 k2 k3 k4 kff lt0 lt6
    obtain ⟨k0, k1, k2, k3, k4, kff⟩ := dcs_at z0
    obtain ⟨d0, d1, d2, d3, d4, dff⟩ := dcs_at z1
    unfold dvc at k0 k1 k2 k3 k4
    unfold dz at d0 d1 d2 d3 d4
    have HT7 := hid T7
    clear z0 z1 T7
    have HO7 : Hid (Ow w6 (w.heap.size + 2) (.slice a6 n6 c6) (xs ++ [x])) := hid (by rw [← HZ.out]; exact O6.out)
    go_wp2
    refine bodyPost_ret (v := .tuple #[.agg #[.int .i64 S.pol, .int .u64 (S.st : Int), .slice ap pn cp, .slice a6 n6 c6, .slice at' tn ct], .int .i64 0]) (by simp [results, Try.results19, go_sem, d0, d1, d2, d3, d4]) rfl ⟨_, rfl, ⟨_, _, _, rfl⟩, HF2.out _ _ _ (TV.out.trans' T6.out) HO7.out ?_⟩
    exact ((((HT7.out.setCell (Or.inl (by simp)) _).setCell (Or.inl (by simp)) _).setCell (Or.inl (by simp)) _).setCell (Or.inl (by simp)) _).setCell (Or.inl (by simp)) _
  · rw [wake_ne hne]
    clear HF2 HRl HZ
    by_cases hi : x ∈ S.ln
    · have e0 : wakeE S x = 40 := by unfold wakeE; rw [if_pos hi]
      rw [e0]
      rw [show idxI S.ln x = (S.ln.idxOf x : Int) by unfold idxI; rw [if_pos hi]] at HFi
      generalize S.ln.idxOf x = ix at *
      clear hne hi e0 hl1 hcl
      go_enter Try.func19, Try.ntmps19
      go_upto_region 1 with fail
      rw [← hV]
      clear hV
      go_upto_region 2 with (go_at_call 13; refine HFi.out.mono ?_; rintro e w2 ⟨rfl, t2⟩; obtain ⟨x0, x1, lt0⟩ := HB.out _ t2; have T2 := hid t2; clear t2 i0 i1 i2 i3 i4 iff; obtain ⟨i0, i1, i2, i3, i4, iff⟩ := dcs_at x0; obtain ⟨d0, d1, d2, d3, d4, dff⟩ := dcs_at x1; clear x0 x1)
      unfold dvc at i0 i1 i2 i3 i4
      unfold dz at d0 d1 d2 d3 d4
      go_wp2
      refine bodyPost_ret (v := .tuple #[.agg #[.int .i64 S.pol, .int .u64 (S.st : Int), .slice ap pn cp, .slice al S.ln.length cl, .slice at' tn ct], .int .i64 40]) (by simp [results, Try.results19, go_sem, d0, d1, d2, d3, d4]) rfl ⟨_, rfl, ⟨_, _, _, rfl⟩, HSame.out _ ?_⟩
      iterate 5 (refine Touch.setCell ?_ (Or.inr (by simp)) _)
      exact TV.out.trans' T2.out
    · have hf : 65536 ≤ S.ln.length := by
        unfold wakeE at hne
        rw [if_neg hi] at hne
        rcases Nat.lt_or_ge S.ln.length 65536 with q | q
        · rw [if_neg (by omega)] at hne; exact absurd rfl hne
        · exact q
      have e0 : wakeE S x = 3 := by unfold wakeE; rw [if_neg hi, if_pos hf]
      rw [e0]
      rw [show idxI S.ln x = -1 by unfold idxI; rw [if_neg hi]] at HFi
      generalize S.ln.length = n at *
      obtain ⟨NI, hNI⟩ : ∃ NI : Int, (n : Int) = NI := ⟨_, rfl⟩
      have zf : 65536 ≤ NI := by omega
      clear hne hi e0 hl1 hcl hf
      go_enter Try.func19, Try.ntmps19
      go_upto_region 1 with fail
      rw [← hV]
      clear hV
      go_upto_region 3 with (go_at_call 13; refine HFi.out.mono ?_; rintro e w2 ⟨rfl, t2⟩; obtain ⟨x0, x1, lt0⟩ := HB.out _ t2; have T2 := hid t2; clear t2 i0 i1 i2 i3 i4 iff; obtain ⟨i0, i1, i2, i3, i4, iff⟩ := dcs_at x0; obtain ⟨d0, d1, d2, d3, d4, dff⟩ := dcs_at x1; clear x0 x1)
      unfold dvc at i0 i1 i2 i3 i4
      unfold dz at d0 d1 d2 d3 d4
      go_wp2
      refine bodyPost_ret (v := .tuple #[.agg #[.int .i64 S.pol, .int .u64 (S.st : Int), .slice ap pn cp, .slice al n cl, .slice at' tn ct], .int .i64 3]) (by simp [results, Try.results19, go_sem, d0, d1, d2, d3, d4]) rfl ⟨_, rfl, ⟨_, _, _, rfl⟩, HSame.out _ ?_⟩
      iterate 5 (refine Touch.setCell ?_ (Or.inr (by simp)) _)
      exact TV.out.trans' T2.out
end
end Go.Proofs.Ythpkkfmphoopnaa.Re
