/- The contract of the document's Join. -/
import Derived.Test.YtpihhlllembdeaaGreatDlv
namespace Go.Proofs.YtpihhlllembdeaaGreat
open Go.RowKit Go.Maps Go.ChangeMaps
set_option linter.unusedVariables false
set_option linter.unusedSimpArgs false
def joinP (w : World) (lv gv : Value) (ds : List De) (gs : List (K × Int)) (T : Tb) (n x : Int) (e : Ending) (w' : World) : Prop := ∃ lv', e = .returned (.tuple #[tv (tJoin T n x) lv' gv, .int .i64 (tJoinE T n x)]) ∧ DtE w w' lv gv ds lv' gv gs (tJoin T n x)
set_option maxHeartbeats 4000000 in
set_option maxRecDepth 100000 in
theorem join_ (w : World) (lv gv : Value) (ds : List De) (gs : List (K × Int)) (T : Tb) (M : Nat) (nn x : Int) (h : Dg w lv gv ds gs T M) :
    Calls Tryz.prog 10 #[tv T lv gv, .int .i64 nn, .int .i64 x] w fun e w' => joinP w lv gv ds gs T nn x e w' := by
  obtain ⟨la, lc, ga, gc, rfl, rfl⟩ := h.dt.form
  obtain ⟨n, hn⟩ : ∃ n, n = ds.length := ⟨_, rfl⟩
  obtain ⟨gn, hgn⟩ : ∃ gn, gn = gs.length := ⟨_, rfl⟩
  have hnl := h.len
  have hM := h.hM
  have hgl := h.gl
  have h8 := h.dt.lr
  have h2 := h.dt.gr
  have HF : Hid (∀ w', Touch [] w w' → Calls Tryz.prog 35 #[.agg #[.int .i64 T.fl, .int .i64 T.bg, .slice la n lc, .slice ga gn gc], .int .i64 nn] w' fun e w2 => e = .returned (.int .i64 (posN (desOf ds) nn)) ∧ Touch [] w' w2) := fun w' X => find_ w' T.fl T.bg nn la ga n lc gn gc ds hn (by omega) (own_touch (by rw [hn]; exact h8) X (fun _ _ e => by cases e)) h.vs
  obtain ⟨V, hV⟩ : ∃ V, V = (w.alloc (.cells #[.int .i64 T.fl, .int .i64 T.bg, .slice la n lc, .slice ga gn gc] 31)).alloc (.cells #[.int .i64 0, .int .i64 0, .slice none 0 0, .slice none 0 0] 31) := ⟨_, rfl⟩
  have HTc : Hid (Touch [] w V) := by rw [hV]; exact ((Touch.refl _ _).alloc _).alloc _
  have kT : V.heap[w.heap.size]? = some (.cells #[.int .i64 T.fl, .int .i64 T.bg, .slice la n lc, .slice ga gn gc] 31 (0, 0)) := by rw [hV]; exact (Below.heap_alloc _ _ _ (by simp)).trans (heap_alloc_new w _)
  have kZ : V.heap[w.heap.size + 1]? = some (.cells #[.int .i64 0, .int .i64 0, .slice none 0 0, .slice none 0 0] 31 (0, 0)) := by
    rw [hV]
    have := heap_alloc_new (w.alloc (.cells #[.int .i64 T.fl, .int .i64 T.bg, .slice la n lc, .slice ga gn gc] 31)) (.cells #[.int .i64 0, .int .i64 0, .slice none 0 0, .slice none 0 0] 31)
    rwa [World.size_alloc] at this
  have HG : Hid (∀ w', Touch [] w w' → w'.ownsRow 0 78 8 (.slice la n lc) n (ds.flatMap row8)) := fun w' t => own_touch (by rw [hn]; exact h8) t (fun _ _ e => by cases e)
  have HDg : Hid (Dg w (.slice la n lc) (.slice ga gn gc) ds gs T M) := hid (by rw [hn, hgn]; exact h)
  have HGb : Hid (∀ b, (Value.slice ga gn gc).ownBlock = some b → b < w.heap.size) := fun b hb => (h2.lt b (by rw [← hgn]; exact hb)).2
  have HN := hid hn
  have zn : (n : Int) ≤ 4096 := by omega
  have HGn := hid hgn
  have HGl : Hid (gn ≤ 1700000000000) := hid (by omega)
  unfold tv
  rw [← hn, ← hgn]
  obtain ⟨Q, hQ⟩ : ∃ Q : Ending → World → Prop, Q = fun e w' => joinP w (.slice la n lc) (.slice ga gn gc) ds gs T nn x e w' := ⟨_, rfl⟩
  have HQ : Hid (∀ e w', joinP w (.slice la n lc) (.slice ga gn gc) ds gs T nn x e w' → Q e w') := hid (by rw [hQ]; exact fun e w' hh => hh)
  rw [← hQ]
  clear hQ h h8 h2 hM hgl hnl
  rcases HDg.out.run nn with ⟨e1, e2⟩ | ⟨i, d, e1, e2, e3, e4⟩
  · rw [e1] at HF
    have HE : Hid (∀ w', Touch [] w w' → Q (.returned (.tuple #[.agg #[.int .i64 T.fl, .int .i64 T.bg, .slice la n lc, .slice ga gn gc], .int .i64 122])) w') := fun w' X => HQ.out _ _ ⟨.slice la n lc, by simp [tv, tJoin, tJoinE, e2], by
      have := HDg.out.stay X
      simpa [tJoin, e2] using this⟩
    clear e1 e2 HDg HG HQ hn hgn
    generalize T.fl = fl at *
    generalize T.bg = bg at *
    have HKc := hid (And.intro kT kZ)
    have a0 := cell_at (j := 0) kT rfl
    have a1 := cell_at (j := 1) kT rfl
    have a2 := cell_at (j := 2) kT rfl
    have a3 := cell_at (j := 3) kT rfl
    have af := froz_at kT
    have z0 := cell_at (j := 0) kZ rfl
    have z1 := cell_at (j := 1) kZ rfl
    have z2 := cell_at (j := 2) kZ rfl
    have z3 := cell_at (j := 3) kZ rfl
    have zf := froz_at kZ
    clear kT kZ
    go_enter Tryz.func10, Tryz.ntmps10
    go_upto_region 1 with fail
    rw [← hV]
    clear hV
    go_wp2_with (go_at_call 35; refine (HF.out _ HTc.out).mono ?_; rintro e w2 ⟨rfl, t2⟩; obtain ⟨kT, kZ⟩ := HKc.out; replace kT := t2.keep kT (by first | (simp; done) | (simp; omega)); replace kZ := t2.keep kZ (by first | (simp; done) | (simp; omega)); clear HKc a0 a1 a2 a3 af z0 z1 z2 z3 zf; have HKc := hid (And.intro kT kZ); have a0 := cell_at (j := 0) kT rfl; have a1 := cell_at (j := 1) kT rfl; have a2 := cell_at (j := 2) kT rfl; have a3 := cell_at (j := 3) kT rfl; have af := froz_at kT; have z0 := cell_at (j := 0) kZ rfl; have z1 := cell_at (j := 1) kZ rfl; have z2 := cell_at (j := 2) kZ rfl; have z3 := cell_at (j := 3) kZ rfl; have zf := froz_at kZ; clear kT kZ; replace HTc := hid (HTc.out.trans' t2); clear t2)
    obtain ⟨kT, kZ⟩ := HKc.out
    obtain ⟨q4, tF⟩ := finZ kZ (.int .i64 fl) (.int .i64 bg) (.slice la n lc) (.slice ga gn gc)
    have q0 := cell_at (j := 0) q4 rfl
    have q1 := cell_at (j := 1) q4 rfl
    have q2 := cell_at (j := 2) q4 rfl
    have q3 := cell_at (j := 3) q4 rfl
    exact bodyPost_ret (v := .tuple #[.agg #[.int .i64 fl, .int .i64 bg, .slice la n lc, .slice ga gn gc], .int .i64 122]) (by simp [results, Tryz.results10, go_sem, q0, q1, q2, q3]) rfl (HE.out _ (HTc.out.trans tF (fun b hb => Or.inr (by simp at hb; omega))))
  · rw [e1] at HF
    have hdm := List.mem_of_getElem? e2
    have hiv := HDg.out.ti.live _ (HDg.out.mem hdm)
    have hlv := HDg.out.lv _ (HDg.out.mem hdm)
    have hwl := HDg.out.who _ (HDg.out.mem hdm)
    have hwv := HDg.out.dt.wr d hdm
    obtain ⟨va, vc, ev⟩ := own_form hwv
    obtain ⟨vn, hvn⟩ : ∃ vn, vn = d.S.who.length := ⟨_, rfl⟩
    rw [← hvn] at ev
    simp only at hlv hwl hiv
    have zi : (i : Int) < (n : Int) := by have := (List.getElem?_eq_some_iff.1 e2).1; omega
    have HD := hid e2
    have Hev := hid ev
    have hM := HDg.out.hM
    have hww : w.ownsRow 0 3 1 (.slice va vn vc) vn (ints d.S.who) := by have := hwv; unfold Wv at this; rwa [ev, ← hvn] at this
    have HWt : Hid (∀ w', Touch [] w w' → Calls Tryz.prog 40 #[.agg #[.int .i64 d.R.run, .int .i64 d.R.gen, .int .u16 d.R.sp, .string d.R.nm, .bool d.R.rf, .bool d.S.kept, .bool d.S.canc, .slice va vn vc], .int .i64 x] w' fun e w2 => e = .returned (.int .i64 (posW d.S.who x)) ∧ Touch [] w' w2) := fun w' X => waits_ w' d.R d.S va vn vc x hvn (by omega) (own_touch hww X (fun _ _ e => by cases e))
    have HX : Hid (∀ w' (E : Int), joinE d.S x = E → E ≠ 0 → Touch [] w w' → Q (.returned (.tuple #[.agg #[.int .i64 T.fl, .int .i64 T.bg, .slice la n lc, .slice ga gn gc], .int .i64 E])) w') := fun w' E hE h0 X => by
      have eT : tJoin T nn x = T := by
        have := setS_same HDg.out.ti e4
        simpa [tJoin, e4, joinS, hE, h0] using this
      refine HQ.out _ _ ⟨.slice la n lc, by rw [eT]; simp [tv, tJoinE, e4, hE], ?_⟩
      rw [eT]
      exact HDg.out.stay X
    have HNx : Hid (∀ w' (a va' : Option Addr) (c vc' : Nat), joinE d.S x = 0 → w'.ownsRow w.heap.size 78 8 (.slice a n c) n ((ds.set i ⟨d.R, joinS d.S x, .slice va' (vn + 1) vc'⟩).flatMap row8) → w'.ownsRow w.heap.size 3 1 (.slice va' (vn + 1) vc') (vn + 1) (ints d.S.who ++ [.int .i64 x]) → Touch [] w w' → Q (.returned (.tuple #[.agg #[.int .i64 T.fl, .int .i64 T.bg, .slice a n c, .slice ga gn gc], .int .i64 0])) w') := fun w' a va' c vc' hE q1 q0 X => by
      have eT : tJoin T nn x = setS T nn (joinS d.S x) := by simp [tJoin, e4]
      have r : (joinS d.S x).who = d.S.who ++ [x] := by simp [joinS, hE]
      refine HQ.out _ _ ⟨.slice a n c, by rw [eT]; simp [tv, tJoinE, e4, hE, setS], ?_⟩
      refine HDg.out.set X e2 (S := joinS d.S x) (v := .slice va' (vn + 1) vc') (by rw [← hn]; exact q1) ?_ (fun q hq => Or.inr (q0.lt q hq).1) (own_touch HDg.out.dt.gr X (fun _ _ e => by cases e)) (fun q hq => Or.inl hq) ?_ (fun j => ?_)
      · unfold Wv
        simp only
        rw [r, List.length_append, ← hvn]
        unfold ints at q0 ⊢
        rw [List.map_append]
        exact own_base q0 (Nat.zero_le _)
      · rw [eT, e3]
        rfl
      · rw [eT]
        exact HDg.out.dt.go j
    have HWi : Hid (∀ w' (va' : Option Addr) (vc' : Nat), joinE d.S x = 0 → d.S.canc = false → Touch [] w w' → Calls Tryz.prog 41 #[.agg #[.int .i64 T.fl, .int .i64 T.bg, .slice la n lc, .slice ga gn gc], .int .i64 (i : Int), .agg #[.int .i64 d.R.run, .int .i64 d.R.gen, .int .u16 d.R.sp, .string d.R.nm, .bool d.R.rf, .bool d.S.kept, .bool false, .slice va' (vn + 1) vc']] w' fun e w2 => ∃ a c, e = .returned (.agg #[.int .i64 T.fl, .int .i64 T.bg, .slice a n c, .slice ga gn gc]) ∧ w2.ownsRow w'.heap.size 78 8 (.slice a n c) n ((ds.set i ⟨d.R, joinS d.S x, .slice va' (vn + 1) vc'⟩).flatMap row8) ∧ Touch [] w' w2) := fun w' va' vc' hE hca X => by
      have hnl := HDg.out.len
      have := with_ w' T.fl T.bg la ga va' n lc gn gc i (vn + 1) vc' ds d.R (joinS d.S x) hn (by omega) (by omega) (HG.out _ X) HDg.out.vs
      have r1 : (joinS d.S x).kept = d.S.kept := by simp [joinS, hE]
      have r2 : (joinS d.S x).canc = false := by simp [joinS, hE, hca]
      unfold dv8 at this
      simp only [r1, r2] at this
      exact this
    have HLn : Hid (vn ≤ 1700000000000) := hid (by omega)
    have hjE : joinE d.S x = if x < 1 then 1 else if d.S.canc then 113 else if x ∈ d.S.who then 111 else 0 := by simp [joinE, hlv]
    have HRs : Hid (∀ w', Touch [] w w' → Rs 3 1 w' (.slice va vn vc) vn (ints d.S.who)) := fun w' X => Rs.of_own (own_touch hww X (fun _ _ e => by cases e))
    have hpw : posW d.S.who x = if x ∈ d.S.who then ((d.S.who.idxOf x : Nat) : Int) else -1 := rfl
    clear e1 e2 e3 e4 HQ HDg hn hgn hiv hlv hwl hwv ev hvn hdm hM hww
    generalize T.fl = fl at *
    generalize T.bg = bg at *
    have HKc := hid (And.intro kT kZ)
    have a0 := cell_at (j := 0) kT rfl
    have a1 := cell_at (j := 1) kT rfl
    have a2 := cell_at (j := 2) kT rfl
    have a3 := cell_at (j := 3) kT rfl
    have af := froz_at kT
    have z0 := cell_at (j := 0) kZ rfl
    have z1 := cell_at (j := 1) kZ rfl
    have z2 := cell_at (j := 2) kZ rfl
    have z3 := cell_at (j := 3) kZ rfl
    have zf := froz_at kZ
    clear kT kZ
    go_enter Tryz.func10, Tryz.ntmps10
    go_upto_region 1 with fail
    rw [← hV]
    clear hV
    cases hk : d.S.canc with
    | true =>
      by_cases h1 : x < 1
      · have HE := hid (fun w' => HX.out w' 1 (by rw [hjE, if_pos h1]) (by omega))
        clear HX HNx HWi hjE HRs hpw HWt
        go_upto_region 4 with (go_at_call 35; refine (HF.out _ HTc.out).mono ?_; rintro e w2 ⟨rfl, t2⟩; obtain ⟨kT, kZ⟩ := HKc.out; replace kT := t2.keep kT (by first | (simp; done) | (simp; omega)); replace kZ := t2.keep kZ (by first | (simp; done) | (simp; omega)); clear HKc a0 a1 a2 a3 af z0 z1 z2 z3 zf; have HKc := hid (And.intro kT kZ); have a0 := cell_at (j := 0) kT rfl; have a1 := cell_at (j := 1) kT rfl; have a2 := cell_at (j := 2) kT rfl; have a3 := cell_at (j := 3) kT rfl; have af := froz_at kT; have z0 := cell_at (j := 0) kZ rfl; have z1 := cell_at (j := 1) kZ rfl; have z2 := cell_at (j := 2) kZ rfl; have z3 := cell_at (j := 3) kZ rfl; have zf := froz_at kZ; clear kT kZ; replace HTc := hid (HTc.out.trans' t2); clear t2)
        clear HF
        obtain ⟨g, c', e, _, _⟩ := own_some (HG.out _ HTc.out) (by omega)
        cases e
        obtain ⟨r0, r1, r2, r3, r4, r5, r6, r7⟩ := lr_cells (HG.out _ HTc.out) HD.out
        rw [Hev.out] at r7
        go_upto_region 5 with fail
        clear r0 r1 r2 r3 r4 r5 r6 r7
        obtain ⟨kT, kZ⟩ := HKc.out
        obtain ⟨W3, hW3⟩ : ∃ W, W = w2.alloc (.cells #[.int .i64 d.R.run, .int .i64 d.R.gen, .int .u16 d.R.sp, .string d.R.nm, .bool d.R.rf, .bool d.S.kept, .bool d.S.canc, .slice va vn vc] 78) := ⟨_, rfl⟩
        have tq : Touch [] w2 W3 := by rw [hW3]; exact (Touch.refl _ _).alloc _
        have kE : W3.heap[w2.heap.size]? = some (.cells #[.int .i64 d.R.run, .int .i64 d.R.gen, .int .u16 d.R.sp, .string d.R.nm, .bool d.R.rf, .bool d.S.kept, .bool d.S.canc, .slice va vn vc] 78 (0, 0)) := by rw [hW3]; exact heap_alloc_new w2 _
        have zeb : w.heap.size + 2 ≤ w2.heap.size := by have := block_lt kZ; omega
        replace kT := tq.keep kT (by simp)
        replace kZ := tq.keep kZ (by simp)
        replace HTc := hid (HTc.out.trans' tq)
        simp only [hk] at hW3 kE
        rw [← hW3]
        clear hW3 tq
        generalize w2.heap.size = eb at *
        clear HKc a0 a1 a2 a3 af z0 z1 z2 z3 zf
        have HKc := hid (And.intro kT (And.intro kZ kE))
        have a0 := cell_at (j := 0) kT rfl
        have a1 := cell_at (j := 1) kT rfl
        have a2 := cell_at (j := 2) kT rfl
        have a3 := cell_at (j := 3) kT rfl
        have af := froz_at kT
        have z0 := cell_at (j := 0) kZ rfl
        have z1 := cell_at (j := 1) kZ rfl
        have z2 := cell_at (j := 2) kZ rfl
        have z3 := cell_at (j := 3) kZ rfl
        have zf := froz_at kZ
        have x0 := cell_at (j := 0) kE rfl
        have x1 := cell_at (j := 1) kE rfl
        have x2 := cell_at (j := 2) kE rfl
        have x3 := cell_at (j := 3) kE rfl
        have x4 := cell_at (j := 4) kE rfl
        have x5 := cell_at (j := 5) kE rfl
        have x6 := cell_at (j := 6) kE rfl
        have x7 := cell_at (j := 7) kE rfl
        have xf := froz_at kE
        clear kT kZ kE
        clear HG HD Hev
        go_wp2
        obtain ⟨kT, kZ, kE⟩ := HKc.out
        obtain ⟨q4, tF⟩ := finZ kZ (.int .i64 fl) (.int .i64 bg) (.slice (some ⟨g, 0, none⟩) n lc) (.slice ga gn gc)
        have q0 := cell_at (j := 0) q4 rfl
        have q1 := cell_at (j := 1) q4 rfl
        have q2 := cell_at (j := 2) q4 rfl
        have q3 := cell_at (j := 3) q4 rfl
        exact bodyPost_ret (v := .tuple #[.agg #[.int .i64 fl, .int .i64 bg, .slice (some ⟨g, 0, none⟩) n lc, .slice ga gn gc], .int .i64 1]) (by simp [results, Tryz.results10, go_sem, q0, q1, q2, q3]) rfl (HE.out _ (HTc.out.trans tF (fun b hb => Or.inr (by simp at hb; omega))))
      · have HE := hid (fun w' => HX.out w' 113 (by rw [hjE, if_neg h1, if_pos hk]) (by omega))
        clear HX HNx HWi hjE HRs hpw HWt
        go_upto_region 4 with (go_at_call 35; refine (HF.out _ HTc.out).mono ?_; rintro e w2 ⟨rfl, t2⟩; obtain ⟨kT, kZ⟩ := HKc.out; replace kT := t2.keep kT (by first | (simp; done) | (simp; omega)); replace kZ := t2.keep kZ (by first | (simp; done) | (simp; omega)); clear HKc a0 a1 a2 a3 af z0 z1 z2 z3 zf; have HKc := hid (And.intro kT kZ); have a0 := cell_at (j := 0) kT rfl; have a1 := cell_at (j := 1) kT rfl; have a2 := cell_at (j := 2) kT rfl; have a3 := cell_at (j := 3) kT rfl; have af := froz_at kT; have z0 := cell_at (j := 0) kZ rfl; have z1 := cell_at (j := 1) kZ rfl; have z2 := cell_at (j := 2) kZ rfl; have z3 := cell_at (j := 3) kZ rfl; have zf := froz_at kZ; clear kT kZ; replace HTc := hid (HTc.out.trans' t2); clear t2)
        clear HF
        obtain ⟨g, c', e, _, _⟩ := own_some (HG.out _ HTc.out) (by omega)
        cases e
        obtain ⟨r0, r1, r2, r3, r4, r5, r6, r7⟩ := lr_cells (HG.out _ HTc.out) HD.out
        rw [Hev.out] at r7
        go_upto_region 5 with fail
        clear r0 r1 r2 r3 r4 r5 r6 r7
        obtain ⟨kT, kZ⟩ := HKc.out
        obtain ⟨W3, hW3⟩ : ∃ W, W = w2.alloc (.cells #[.int .i64 d.R.run, .int .i64 d.R.gen, .int .u16 d.R.sp, .string d.R.nm, .bool d.R.rf, .bool d.S.kept, .bool d.S.canc, .slice va vn vc] 78) := ⟨_, rfl⟩
        have tq : Touch [] w2 W3 := by rw [hW3]; exact (Touch.refl _ _).alloc _
        have kE : W3.heap[w2.heap.size]? = some (.cells #[.int .i64 d.R.run, .int .i64 d.R.gen, .int .u16 d.R.sp, .string d.R.nm, .bool d.R.rf, .bool d.S.kept, .bool d.S.canc, .slice va vn vc] 78 (0, 0)) := by rw [hW3]; exact heap_alloc_new w2 _
        have zeb : w.heap.size + 2 ≤ w2.heap.size := by have := block_lt kZ; omega
        replace kT := tq.keep kT (by simp)
        replace kZ := tq.keep kZ (by simp)
        replace HTc := hid (HTc.out.trans' tq)
        simp only [hk] at hW3 kE
        rw [← hW3]
        clear hW3 tq
        generalize w2.heap.size = eb at *
        clear HKc a0 a1 a2 a3 af z0 z1 z2 z3 zf
        have HKc := hid (And.intro kT (And.intro kZ kE))
        have a0 := cell_at (j := 0) kT rfl
        have a1 := cell_at (j := 1) kT rfl
        have a2 := cell_at (j := 2) kT rfl
        have a3 := cell_at (j := 3) kT rfl
        have af := froz_at kT
        have z0 := cell_at (j := 0) kZ rfl
        have z1 := cell_at (j := 1) kZ rfl
        have z2 := cell_at (j := 2) kZ rfl
        have z3 := cell_at (j := 3) kZ rfl
        have zf := froz_at kZ
        have x0 := cell_at (j := 0) kE rfl
        have x1 := cell_at (j := 1) kE rfl
        have x2 := cell_at (j := 2) kE rfl
        have x3 := cell_at (j := 3) kE rfl
        have x4 := cell_at (j := 4) kE rfl
        have x5 := cell_at (j := 5) kE rfl
        have x6 := cell_at (j := 6) kE rfl
        have x7 := cell_at (j := 7) kE rfl
        have xf := froz_at kE
        clear kT kZ kE
        clear HG HD Hev
        go_wp2
        obtain ⟨kT, kZ, kE⟩ := HKc.out
        obtain ⟨q4, tF⟩ := finZ kZ (.int .i64 fl) (.int .i64 bg) (.slice (some ⟨g, 0, none⟩) n lc) (.slice ga gn gc)
        have q0 := cell_at (j := 0) q4 rfl
        have q1 := cell_at (j := 1) q4 rfl
        have q2 := cell_at (j := 2) q4 rfl
        have q3 := cell_at (j := 3) q4 rfl
        exact bodyPost_ret (v := .tuple #[.agg #[.int .i64 fl, .int .i64 bg, .slice (some ⟨g, 0, none⟩) n lc, .slice ga gn gc], .int .i64 113]) (by simp [results, Tryz.results10, go_sem, q0, q1, q2, q3]) rfl (HE.out _ (HTc.out.trans tF (fun b hb => Or.inr (by simp at hb; omega))))
    | false =>
      by_cases h1 : x < 1
      · have HE := hid (fun w' => HX.out w' 1 (by rw [hjE, if_pos h1]) (by omega))
        clear HX HNx HWi hjE HRs hpw HWt
        go_upto_region 4 with (go_at_call 35; refine (HF.out _ HTc.out).mono ?_; rintro e w2 ⟨rfl, t2⟩; obtain ⟨kT, kZ⟩ := HKc.out; replace kT := t2.keep kT (by first | (simp; done) | (simp; omega)); replace kZ := t2.keep kZ (by first | (simp; done) | (simp; omega)); clear HKc a0 a1 a2 a3 af z0 z1 z2 z3 zf; have HKc := hid (And.intro kT kZ); have a0 := cell_at (j := 0) kT rfl; have a1 := cell_at (j := 1) kT rfl; have a2 := cell_at (j := 2) kT rfl; have a3 := cell_at (j := 3) kT rfl; have af := froz_at kT; have z0 := cell_at (j := 0) kZ rfl; have z1 := cell_at (j := 1) kZ rfl; have z2 := cell_at (j := 2) kZ rfl; have z3 := cell_at (j := 3) kZ rfl; have zf := froz_at kZ; clear kT kZ; replace HTc := hid (HTc.out.trans' t2); clear t2)
        clear HF
        obtain ⟨g, c', e, _, _⟩ := own_some (HG.out _ HTc.out) (by omega)
        cases e
        obtain ⟨r0, r1, r2, r3, r4, r5, r6, r7⟩ := lr_cells (HG.out _ HTc.out) HD.out
        rw [Hev.out] at r7
        go_upto_region 5 with fail
        clear r0 r1 r2 r3 r4 r5 r6 r7
        obtain ⟨kT, kZ⟩ := HKc.out
        obtain ⟨W3, hW3⟩ : ∃ W, W = w2.alloc (.cells #[.int .i64 d.R.run, .int .i64 d.R.gen, .int .u16 d.R.sp, .string d.R.nm, .bool d.R.rf, .bool d.S.kept, .bool d.S.canc, .slice va vn vc] 78) := ⟨_, rfl⟩
        have tq : Touch [] w2 W3 := by rw [hW3]; exact (Touch.refl _ _).alloc _
        have kE : W3.heap[w2.heap.size]? = some (.cells #[.int .i64 d.R.run, .int .i64 d.R.gen, .int .u16 d.R.sp, .string d.R.nm, .bool d.R.rf, .bool d.S.kept, .bool d.S.canc, .slice va vn vc] 78 (0, 0)) := by rw [hW3]; exact heap_alloc_new w2 _
        have zeb : w.heap.size + 2 ≤ w2.heap.size := by have := block_lt kZ; omega
        replace kT := tq.keep kT (by simp)
        replace kZ := tq.keep kZ (by simp)
        replace HTc := hid (HTc.out.trans' tq)
        simp only [hk] at hW3 kE
        rw [← hW3]
        clear hW3 tq
        generalize w2.heap.size = eb at *
        clear HKc a0 a1 a2 a3 af z0 z1 z2 z3 zf
        have HKc := hid (And.intro kT (And.intro kZ kE))
        have a0 := cell_at (j := 0) kT rfl
        have a1 := cell_at (j := 1) kT rfl
        have a2 := cell_at (j := 2) kT rfl
        have a3 := cell_at (j := 3) kT rfl
        have af := froz_at kT
        have z0 := cell_at (j := 0) kZ rfl
        have z1 := cell_at (j := 1) kZ rfl
        have z2 := cell_at (j := 2) kZ rfl
        have z3 := cell_at (j := 3) kZ rfl
        have zf := froz_at kZ
        have x0 := cell_at (j := 0) kE rfl
        have x1 := cell_at (j := 1) kE rfl
        have x2 := cell_at (j := 2) kE rfl
        have x3 := cell_at (j := 3) kE rfl
        have x4 := cell_at (j := 4) kE rfl
        have x5 := cell_at (j := 5) kE rfl
        have x6 := cell_at (j := 6) kE rfl
        have x7 := cell_at (j := 7) kE rfl
        have xf := froz_at kE
        clear kT kZ kE
        clear HG HD Hev
        go_wp2
        obtain ⟨kT, kZ, kE⟩ := HKc.out
        obtain ⟨q4, tF⟩ := finZ kZ (.int .i64 fl) (.int .i64 bg) (.slice (some ⟨g, 0, none⟩) n lc) (.slice ga gn gc)
        have q0 := cell_at (j := 0) q4 rfl
        have q1 := cell_at (j := 1) q4 rfl
        have q2 := cell_at (j := 2) q4 rfl
        have q3 := cell_at (j := 3) q4 rfl
        exact bodyPost_ret (v := .tuple #[.agg #[.int .i64 fl, .int .i64 bg, .slice (some ⟨g, 0, none⟩) n lc, .slice ga gn gc], .int .i64 1]) (by simp [results, Tryz.results10, go_sem, q0, q1, q2, q3]) rfl (HE.out _ (HTc.out.trans tF (fun b hb => Or.inr (by simp at hb; omega))))
      · simp only [hk] at HWt
        by_cases hx : x ∈ d.S.who
        · have HE := hid (fun w' => HX.out w' 111 (by rw [hjE, if_neg h1, hk, if_neg (by simp), if_pos hx]) (by omega))
          rw [hpw, if_pos hx] at HWt
          generalize d.S.who.idxOf x = ix at *
          clear HX HNx HWi hjE HRs hpw hx
          go_upto_region 4 with (go_at_call 35; refine (HF.out _ HTc.out).mono ?_; rintro e w2 ⟨rfl, t2⟩; obtain ⟨kT, kZ⟩ := HKc.out; replace kT := t2.keep kT (by first | (simp; done) | (simp; omega)); replace kZ := t2.keep kZ (by first | (simp; done) | (simp; omega)); clear HKc a0 a1 a2 a3 af z0 z1 z2 z3 zf; have HKc := hid (And.intro kT kZ); have a0 := cell_at (j := 0) kT rfl; have a1 := cell_at (j := 1) kT rfl; have a2 := cell_at (j := 2) kT rfl; have a3 := cell_at (j := 3) kT rfl; have af := froz_at kT; have z0 := cell_at (j := 0) kZ rfl; have z1 := cell_at (j := 1) kZ rfl; have z2 := cell_at (j := 2) kZ rfl; have z3 := cell_at (j := 3) kZ rfl; have zf := froz_at kZ; clear kT kZ; replace HTc := hid (HTc.out.trans' t2); clear t2)
          clear HF
          obtain ⟨g, c', e, _, _⟩ := own_some (HG.out _ HTc.out) (by omega)
          cases e
          obtain ⟨r0, r1, r2, r3, r4, r5, r6, r7⟩ := lr_cells (HG.out _ HTc.out) HD.out
          rw [Hev.out] at r7
          go_upto_region 5 with fail
          clear r0 r1 r2 r3 r4 r5 r6 r7
          obtain ⟨kT, kZ⟩ := HKc.out
          obtain ⟨W3, hW3⟩ : ∃ W, W = w2.alloc (.cells #[.int .i64 d.R.run, .int .i64 d.R.gen, .int .u16 d.R.sp, .string d.R.nm, .bool d.R.rf, .bool d.S.kept, .bool d.S.canc, .slice va vn vc] 78) := ⟨_, rfl⟩
          have tq : Touch [] w2 W3 := by rw [hW3]; exact (Touch.refl _ _).alloc _
          have kE : W3.heap[w2.heap.size]? = some (.cells #[.int .i64 d.R.run, .int .i64 d.R.gen, .int .u16 d.R.sp, .string d.R.nm, .bool d.R.rf, .bool d.S.kept, .bool d.S.canc, .slice va vn vc] 78 (0, 0)) := by rw [hW3]; exact heap_alloc_new w2 _
          have zeb : w.heap.size + 2 ≤ w2.heap.size := by have := block_lt kZ; omega
          replace kT := tq.keep kT (by simp)
          replace kZ := tq.keep kZ (by simp)
          replace HTc := hid (HTc.out.trans' tq)
          simp only [hk] at hW3 kE
          rw [← hW3]
          clear hW3 tq
          generalize w2.heap.size = eb at *
          clear HKc a0 a1 a2 a3 af z0 z1 z2 z3 zf
          have HKc := hid (And.intro kT (And.intro kZ kE))
          have a0 := cell_at (j := 0) kT rfl
          have a1 := cell_at (j := 1) kT rfl
          have a2 := cell_at (j := 2) kT rfl
          have a3 := cell_at (j := 3) kT rfl
          have af := froz_at kT
          have z0 := cell_at (j := 0) kZ rfl
          have z1 := cell_at (j := 1) kZ rfl
          have z2 := cell_at (j := 2) kZ rfl
          have z3 := cell_at (j := 3) kZ rfl
          have zf := froz_at kZ
          have x0 := cell_at (j := 0) kE rfl
          have x1 := cell_at (j := 1) kE rfl
          have x2 := cell_at (j := 2) kE rfl
          have x3 := cell_at (j := 3) kE rfl
          have x4 := cell_at (j := 4) kE rfl
          have x5 := cell_at (j := 5) kE rfl
          have x6 := cell_at (j := 6) kE rfl
          have x7 := cell_at (j := 7) kE rfl
          have xf := froz_at kE
          clear kT kZ kE
          clear HG HD Hev
          go_wp2_with (go_at_call 40; refine (HWt.out _ HTc.out).mono ?_; rintro e w4 ⟨rfl, t4⟩; obtain ⟨kT, kZ, kE⟩ := HKc.out; replace kT := t4.keep kT (by first | (simp; done) | (simp; omega)); replace kZ := t4.keep kZ (by first | (simp; done) | (simp; omega)); replace kE := t4.keep kE (by first | (simp; done) | (simp; omega)); clear HKc a0 a1 a2 a3 af z0 z1 z2 z3 zf x0 x1 x2 x3 x4 x5 x6 x7 xf; have HKc := hid (And.intro kT (And.intro kZ kE)); have a0 := cell_at (j := 0) kT rfl; have a1 := cell_at (j := 1) kT rfl; have a2 := cell_at (j := 2) kT rfl; have a3 := cell_at (j := 3) kT rfl; have af := froz_at kT; have z0 := cell_at (j := 0) kZ rfl; have z1 := cell_at (j := 1) kZ rfl; have z2 := cell_at (j := 2) kZ rfl; have z3 := cell_at (j := 3) kZ rfl; have zf := froz_at kZ; have x0 := cell_at (j := 0) kE rfl; have x1 := cell_at (j := 1) kE rfl; have x2 := cell_at (j := 2) kE rfl; have x3 := cell_at (j := 3) kE rfl; have x4 := cell_at (j := 4) kE rfl; have x5 := cell_at (j := 5) kE rfl; have x6 := cell_at (j := 6) kE rfl; have x7 := cell_at (j := 7) kE rfl; have xf := froz_at kE; clear kT kZ kE; replace HTc := hid (HTc.out.trans' t4); clear t4)
          obtain ⟨kT, kZ, kE⟩ := HKc.out
          obtain ⟨q4, tF⟩ := finZ kZ (.int .i64 fl) (.int .i64 bg) (.slice (some ⟨g, 0, none⟩) n lc) (.slice ga gn gc)
          have q0 := cell_at (j := 0) q4 rfl
          have q1 := cell_at (j := 1) q4 rfl
          have q2 := cell_at (j := 2) q4 rfl
          have q3 := cell_at (j := 3) q4 rfl
          exact bodyPost_ret (v := .tuple #[.agg #[.int .i64 fl, .int .i64 bg, .slice (some ⟨g, 0, none⟩) n lc, .slice ga gn gc], .int .i64 111]) (by simp [results, Tryz.results10, go_sem, q0, q1, q2, q3]) rfl (HE.out _ (HTc.out.trans tF (fun b hb => Or.inr (by simp at hb; omega))))
        · have hz : joinE d.S x = 0 := by rw [hjE, if_neg h1, hk, if_neg (by simp), if_neg hx]
          have HE := hid (fun w' a va' c vc' => HNx.out w' a va' c vc' hz)
          have HWj := hid (fun w' va' vc' => HWi.out w' va' vc' hz hk)
          rw [hpw, if_neg hx] at HWt
          clear HX HNx HWi hjE hpw hx hz
          go_upto_region 4 with (go_at_call 35; refine (HF.out _ HTc.out).mono ?_; rintro e w2 ⟨rfl, t2⟩; obtain ⟨kT, kZ⟩ := HKc.out; replace kT := t2.keep kT (by first | (simp; done) | (simp; omega)); replace kZ := t2.keep kZ (by first | (simp; done) | (simp; omega)); clear HKc a0 a1 a2 a3 af z0 z1 z2 z3 zf; have HKc := hid (And.intro kT kZ); have a0 := cell_at (j := 0) kT rfl; have a1 := cell_at (j := 1) kT rfl; have a2 := cell_at (j := 2) kT rfl; have a3 := cell_at (j := 3) kT rfl; have af := froz_at kT; have z0 := cell_at (j := 0) kZ rfl; have z1 := cell_at (j := 1) kZ rfl; have z2 := cell_at (j := 2) kZ rfl; have z3 := cell_at (j := 3) kZ rfl; have zf := froz_at kZ; clear kT kZ; replace HTc := hid (HTc.out.trans' t2); clear t2)
          clear HF
          obtain ⟨g, c', e, _, _⟩ := own_some (HG.out _ HTc.out) (by omega)
          cases e
          obtain ⟨r0, r1, r2, r3, r4, r5, r6, r7⟩ := lr_cells (HG.out _ HTc.out) HD.out
          rw [Hev.out] at r7
          go_upto_region 5 with fail
          clear r0 r1 r2 r3 r4 r5 r6 r7
          obtain ⟨kT, kZ⟩ := HKc.out
          obtain ⟨W3, hW3⟩ : ∃ W, W = w2.alloc (.cells #[.int .i64 d.R.run, .int .i64 d.R.gen, .int .u16 d.R.sp, .string d.R.nm, .bool d.R.rf, .bool d.S.kept, .bool d.S.canc, .slice va vn vc] 78) := ⟨_, rfl⟩
          have tq : Touch [] w2 W3 := by rw [hW3]; exact (Touch.refl _ _).alloc _
          have kE : W3.heap[w2.heap.size]? = some (.cells #[.int .i64 d.R.run, .int .i64 d.R.gen, .int .u16 d.R.sp, .string d.R.nm, .bool d.R.rf, .bool d.S.kept, .bool d.S.canc, .slice va vn vc] 78 (0, 0)) := by rw [hW3]; exact heap_alloc_new w2 _
          have zeb : w.heap.size + 2 ≤ w2.heap.size := by have := block_lt kZ; omega
          replace kT := tq.keep kT (by simp)
          replace kZ := tq.keep kZ (by simp)
          replace HTc := hid (HTc.out.trans' tq)
          simp only [hk] at hW3 kE
          rw [← hW3]
          clear hW3 tq
          generalize w2.heap.size = eb at *
          clear HKc a0 a1 a2 a3 af z0 z1 z2 z3 zf
          have HKc := hid (And.intro kT (And.intro kZ kE))
          have a0 := cell_at (j := 0) kT rfl
          have a1 := cell_at (j := 1) kT rfl
          have a2 := cell_at (j := 2) kT rfl
          have a3 := cell_at (j := 3) kT rfl
          have af := froz_at kT
          have z0 := cell_at (j := 0) kZ rfl
          have z1 := cell_at (j := 1) kZ rfl
          have z2 := cell_at (j := 2) kZ rfl
          have z3 := cell_at (j := 3) kZ rfl
          have zf := froz_at kZ
          have x0 := cell_at (j := 0) kE rfl
          have x1 := cell_at (j := 1) kE rfl
          have x2 := cell_at (j := 2) kE rfl
          have x3 := cell_at (j := 3) kE rfl
          have x4 := cell_at (j := 4) kE rfl
          have x5 := cell_at (j := 5) kE rfl
          have x6 := cell_at (j := 6) kE rfl
          have x7 := cell_at (j := 7) kE rfl
          have xf := froz_at kE
          clear kT kZ kE
          clear HG HD Hev
          go_upto_region 11 with (go_at_call 40; refine (HWt.out _ HTc.out).mono ?_; rintro e w4 ⟨rfl, t4⟩; obtain ⟨kT, kZ, kE⟩ := HKc.out; replace kT := t4.keep kT (by first | (simp; done) | (simp; omega)); replace kZ := t4.keep kZ (by first | (simp; done) | (simp; omega)); replace kE := t4.keep kE (by first | (simp; done) | (simp; omega)); clear HKc a0 a1 a2 a3 af z0 z1 z2 z3 zf x0 x1 x2 x3 x4 x5 x6 x7 xf; have HKc := hid (And.intro kT (And.intro kZ kE)); have a0 := cell_at (j := 0) kT rfl; have a1 := cell_at (j := 1) kT rfl; have a2 := cell_at (j := 2) kT rfl; have a3 := cell_at (j := 3) kT rfl; have af := froz_at kT; have z0 := cell_at (j := 0) kZ rfl; have z1 := cell_at (j := 1) kZ rfl; have z2 := cell_at (j := 2) kZ rfl; have z3 := cell_at (j := 3) kZ rfl; have zf := froz_at kZ; have x0 := cell_at (j := 0) kE rfl; have x1 := cell_at (j := 1) kE rfl; have x2 := cell_at (j := 2) kE rfl; have x3 := cell_at (j := 3) kE rfl; have x4 := cell_at (j := 4) kE rfl; have x5 := cell_at (j := 5) kE rfl; have x6 := cell_at (j := 6) kE rfl; have x7 := cell_at (j := 7) kE rfl; have xf := froz_at kE; clear kT kZ kE; replace HTc := hid (HTc.out.trans' t4); clear t4)
          clear HWt
          have HM : Hid ((w4.alloc (.cells #[] 3)).ownsRow w4.heap.size 3 1 (.slice (some ⟨w4.heap.size, 0, none⟩) 0 0) 0 []) := World.ownsRow_made (e := 3) (size := 1) w4 #[] 0 (Nat.le_refl _) (by unfold maxLen; omega) rfl
          have HTa : Hid (Touch [] w (w4.alloc (.cells #[] 3))) := HTc.out.alloc _
          have xa := cell_at (j := 7) (((Touch.refl [] w4).alloc (.cells #[] 3)).keep HKc.out.2.2 (by simp)) rfl
          go_upto_region 12 with (at_builtin; (first | (refine wpList_append_rs rfl _ _ 75 3 rfl _ 1 8 info3 Tryz.underlying75 rfl (by decide) w4.heap.size _ 0 [] rfl HM.out _ vn _ rfl (HRs.out _ HTa.out) ints_one (by have := HLn.out; unfold maxLen; omega) (by have := HLn.out; omega) (by simp) ?_; intro v5 w5 o5 g5 p5; rw [Nat.zero_add, List.nil_append] at o5; have t5 : Touch [] w4 w5 := touch_grown ((Touch.refl [] w4).alloc _) g5 HM.out (Nat.le_refl _); obtain ⟨a5, c5, e5⟩ := own_form o5; subst e5; have O5 := hid (own_base (B' := eb + 1) o5 (by have := block_lt HKc.out.2.2; omega)); clear xa HTa o5 g5 p5; obtain ⟨kT, kZ, kE⟩ := HKc.out; replace kT := t5.keep kT (by first | (simp; done) | (simp; omega)); replace kZ := t5.keep kZ (by first | (simp; done) | (simp; omega)); replace kE := t5.keep kE (by first | (simp; done) | (simp; omega)); clear HKc a0 a1 a2 a3 af z0 z1 z2 z3 zf x0 x1 x2 x3 x4 x5 x6 x7 xf; have HKc := hid (And.intro kT (And.intro kZ kE)); have a0 := cell_at (j := 0) kT rfl; have a1 := cell_at (j := 1) kT rfl; have a2 := cell_at (j := 2) kT rfl; have a3 := cell_at (j := 3) kT rfl; have af := froz_at kT; have z0 := cell_at (j := 0) kZ rfl; have z1 := cell_at (j := 1) kZ rfl; have z2 := cell_at (j := 2) kZ rfl; have z3 := cell_at (j := 3) kZ rfl; have zf := froz_at kZ; have x0 := cell_at (j := 0) kE rfl; have x1 := cell_at (j := 1) kE rfl; have x2 := cell_at (j := 2) kE rfl; have x3 := cell_at (j := 3) kE rfl; have x4 := cell_at (j := 4) kE rfl; have x5 := cell_at (j := 5) kE rfl; have x6 := cell_at (j := 6) kE rfl; have x7 := cell_at (j := 7) kE rfl; have xf := froz_at kE; clear kT kZ kE; replace HTc := hid (HTc.out.trans' t5); clear t5) | (refine wpList_append_rs rfl _ _ 75 3 rfl _ 1 8 info3 Tryz.underlying75 rfl (by decide) (eb + 1) _ vn _ rfl (own_touch O5.out ((Touch.refl [] _).alloc _) (fun _ _ e => by cases e)) _ 1 [.int .i64 x] rfl (Rs.new w5 #[.int .i64 x] 3 1 rfl) (by simp [Value.oneCell']) (by have := HLn.out; unfold maxLen; omega) (by have := HLn.out; omega) (by have := block_lt HKc.out.2.2; simp; omega) ?_; intro v6 w6 o6 g6 p6; have ta : Touch [] w5 (w5.alloc (.cells #[.int .i64 x] 3)) := (Touch.refl _ _).alloc _; replace O5 := hid (own_touch O5.out ta (fun _ _ e => by cases e)); obtain ⟨kT, kZ, kE⟩ := HKc.out; replace kT := ta.keep kT (by first | (simp; done) | (simp; omega)); replace kZ := ta.keep kZ (by first | (simp; done) | (simp; omega)); replace kE := ta.keep kE (by first | (simp; done) | (simp; omega)); clear HKc a0 a1 a2 a3 af z0 z1 z2 z3 zf x0 x1 x2 x3 x4 x5 x6 x7 xf; have HKc := hid (And.intro kT (And.intro kZ kE)); have a0 := cell_at (j := 0) kT rfl; have a1 := cell_at (j := 1) kT rfl; have a2 := cell_at (j := 2) kT rfl; have a3 := cell_at (j := 3) kT rfl; have af := froz_at kT; have z0 := cell_at (j := 0) kZ rfl; have z1 := cell_at (j := 1) kZ rfl; have z2 := cell_at (j := 2) kZ rfl; have z3 := cell_at (j := 3) kZ rfl; have zf := froz_at kZ; have x0 := cell_at (j := 0) kE rfl; have x1 := cell_at (j := 1) kE rfl; have x2 := cell_at (j := 2) kE rfl; have x3 := cell_at (j := 3) kE rfl; have x4 := cell_at (j := 4) kE rfl; have x5 := cell_at (j := 5) kE rfl; have x6 := cell_at (j := 6) kE rfl; have x7 := cell_at (j := 7) kE rfl; have xf := froz_at kE; clear kT kZ kE; replace HTc := hid (HTc.out.trans' ta); clear ta; have tg := (Touch.refl _ _).grown g6 (fun q hq => Or.inl (Option.mem_toList.2 hq)); obtain ⟨kT, kZ, kE⟩ := HKc.out; replace kT := tg.keep kT (fun e => by have := (O5.out.lt _ (Option.mem_toList.1 e)).1; omega); replace kZ := tg.keep kZ (fun e => by have := (O5.out.lt _ (Option.mem_toList.1 e)).1; omega); replace kE := tg.keep kE (fun e => by have := (O5.out.lt _ (Option.mem_toList.1 e)).1; omega); clear HKc a0 a1 a2 a3 af z0 z1 z2 z3 zf x0 x1 x2 x3 x4 x5 x6 x7 xf; have HKc := hid (And.intro kT (And.intro kZ kE)); have a0 := cell_at (j := 0) kT rfl; have a1 := cell_at (j := 1) kT rfl; have a2 := cell_at (j := 2) kT rfl; have a3 := cell_at (j := 3) kT rfl; have af := froz_at kT; have z0 := cell_at (j := 0) kZ rfl; have z1 := cell_at (j := 1) kZ rfl; have z2 := cell_at (j := 2) kZ rfl; have z3 := cell_at (j := 3) kZ rfl; have zf := froz_at kZ; have x0 := cell_at (j := 0) kE rfl; have x1 := cell_at (j := 1) kE rfl; have x2 := cell_at (j := 2) kE rfl; have x3 := cell_at (j := 3) kE rfl; have x4 := cell_at (j := 4) kE rfl; have x5 := cell_at (j := 5) kE rfl; have x6 := cell_at (j := 6) kE rfl; have x7 := cell_at (j := 7) kE rfl; have xf := froz_at kE; clear kT kZ kE; replace HTc := hid (touch_grown HTc.out g6 O5.out (by omega)); clear tg; obtain ⟨a6, c6, e6⟩ := own_form o6; subst e6; have O6 := hid o6; clear o6 g6 p6 O5)))
          clear HRs HM
          obtain ⟨kT, kZ, kE⟩ := HKc.out
          obtain ⟨W7, hW7⟩ : ∃ W, W = (w6.setCell ⟨eb, 7, none⟩ (.slice a6 (vn + 1) c6)) := ⟨_, rfl⟩
          obtain ⟨kq, tq⟩ := set1 kE 7 (.slice a6 (vn + 1) c6)
          rw [← hW7] at kq tq ⊢
          clear hW7
          replace kT := tq.keep kT (by first | (simp; done) | (simp; omega))
          replace kZ := tq.keep kZ (by first | (simp; done) | (simp; omega))
          replace kE := kq
          clear kq
          clear HKc a0 a1 a2 a3 af z0 z1 z2 z3 zf x0 x1 x2 x3 x4 x5 x6 x7 xf
          have HKc := hid (And.intro kT (And.intro kZ kE))
          have a0 := cell_at (j := 0) kT rfl
          have a1 := cell_at (j := 1) kT rfl
          have a2 := cell_at (j := 2) kT rfl
          have a3 := cell_at (j := 3) kT rfl
          have af := froz_at kT
          have z0 := cell_at (j := 0) kZ rfl
          have z1 := cell_at (j := 1) kZ rfl
          have z2 := cell_at (j := 2) kZ rfl
          have z3 := cell_at (j := 3) kZ rfl
          have zf := froz_at kZ
          have x0 := cell_at (j := 0) kE rfl
          have x1 := cell_at (j := 1) kE rfl
          have x2 := cell_at (j := 2) kE rfl
          have x3 := cell_at (j := 3) kE rfl
          have x4 := cell_at (j := 4) kE rfl
          have x5 := cell_at (j := 5) kE rfl
          have x6 := cell_at (j := 6) kE rfl
          have x7 := cell_at (j := 7) kE rfl
          have xf := froz_at kE
          clear kT kZ kE
          replace HTc := hid (HTc.out.trans tq (fun b hb => Or.inr (by simp at hb; omega)))
          replace O6 := hid (own_touch O6.out tq (fun b hb e => by have := (O6.out.lt b hb).1; simp at e; omega))
          clear tq
          go_wp2_with (go_at_call 41; refine (HWj.out _ _ _ HTc.out).mono ?_; rintro e w8 ⟨a5, c5, rfl, o5, t5⟩; replace o5 := own_base (B' := w.heap.size + 2) o5 (by have := block_lt HKc.out.2.1; omega); replace O6 := hid (own_touch O6.out t5 (fun _ _ e => by cases e)); obtain ⟨kT, kZ, kE⟩ := HKc.out; replace kT := t5.keep kT (by first | (simp; done) | (simp; omega)); replace kZ := t5.keep kZ (by first | (simp; done) | (simp; omega)); replace kE := t5.keep kE (by first | (simp; done) | (simp; omega)); clear HKc a0 a1 a2 a3 af z0 z1 z2 z3 zf x0 x1 x2 x3 x4 x5 x6 x7 xf; have HKc := hid (And.intro kT (And.intro kZ kE)); have a0 := cell_at (j := 0) kT rfl; have a1 := cell_at (j := 1) kT rfl; have a2 := cell_at (j := 2) kT rfl; have a3 := cell_at (j := 3) kT rfl; have af := froz_at kT; have z0 := cell_at (j := 0) kZ rfl; have z1 := cell_at (j := 1) kZ rfl; have z2 := cell_at (j := 2) kZ rfl; have z3 := cell_at (j := 3) kZ rfl; have zf := froz_at kZ; have x0 := cell_at (j := 0) kE rfl; have x1 := cell_at (j := 1) kE rfl; have x2 := cell_at (j := 2) kE rfl; have x3 := cell_at (j := 3) kE rfl; have x4 := cell_at (j := 4) kE rfl; have x5 := cell_at (j := 5) kE rfl; have x6 := cell_at (j := 6) kE rfl; have x7 := cell_at (j := 7) kE rfl; have xf := froz_at kE; clear kT kZ kE; replace HTc := hid (HTc.out.trans' t5); have O5 := hid o5; clear o5; clear t5)
          obtain ⟨kT, kZ, kE⟩ := HKc.out
          obtain ⟨q4, tF⟩ := finZ kZ (.int .i64 fl) (.int .i64 bg) (.slice a5 n c5) (.slice ga gn gc)
          have q0 := cell_at (j := 0) q4 rfl
          have q1 := cell_at (j := 1) q4 rfl
          have q2 := cell_at (j := 2) q4 rfl
          have q3 := cell_at (j := 3) q4 rfl
          exact bodyPost_ret (v := .tuple #[.agg #[.int .i64 fl, .int .i64 bg, .slice a5 n c5, .slice ga gn gc], .int .i64 0]) (by simp [results, Tryz.results10, go_sem, q0, q1, q2, q3]) rfl (HE.out _ _ _ _ _ (own_base (own_touch O5.out tF (fun b hb e => by have := (O5.out.lt b hb).1; simp at e; omega)) (by omega)) (own_base (own_touch O6.out tF (fun b hb e => by have := (O6.out.lt b hb).1; simp at e; omega)) (by omega)) (HTc.out.trans tF (fun b hb => Or.inr (by simp at hb; omega))))
end Go.Proofs.YtpihhlllembdeaaGreat
