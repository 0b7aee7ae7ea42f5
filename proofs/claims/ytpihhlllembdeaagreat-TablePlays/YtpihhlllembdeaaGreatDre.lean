/- The contract of the document's Release. -/
import Derived.Test.YtpihhlllembdeaaGreatDst
namespace Go.Proofs.YtpihhlllembdeaaGreat
open Go.RowKit Go.Maps Go.ChangeMaps
set_option linter.unusedVariables false
set_option linter.unusedSimpArgs false
theorem setS_same {T : Tb} {M : Nat} (h : Ti T M) {n : Int} {p : Rn × St} (hp : runOf T n = some p) : setS T n p.2 = T := by
  have e : T.rs.map (putS n p.2) = T.rs := by
    conv => rhs; rw [← List.map_id T.rs]
    refine List.map_congr_left (fun q hq => ?_)
    unfold putS
    split
    · rename_i e
      have := runOf_of_mem h hq
      rw [e, hp] at this
      cases this
      rfl
    · rfl
  unfold setS
  rw [e]
theorem goneT_fl (T : Tb) (R : Rn) (c : Bool) : (goneT T R c).fl = T.fl ∧ (goneT T R c).bg = T.bg ∧ (goneT T R c).rs = T.rs := by unfold goneT; split <;> exact ⟨rfl, rfl, rfl⟩
def relP (w : World) (lv gv : Value) (ds : List De) (gs : List (K × Int)) (T : Tb) (n : Int) (e : Ending) (w' : World) : Prop := ∃ lv' gv' gs', e = .returned (.tuple #[tv (tRel T n) lv' gv', .bool (tRelC T n), .bool (tRelA T n), .int .i64 (tRelE T n)]) ∧ DtE w w' lv gv ds lv' gv' gs' (tRel T n) ∧ gs'.length ≤ gs.length + 1
set_option maxHeartbeats 4000000 in
set_option maxRecDepth 100000 in
theorem release_ (w : World) (lv gv : Value) (ds : List De) (gs : List (K × Int)) (T : Tb) (M : Nat) (nn : Int) (h : Dg w lv gv ds gs T M) :
    Calls Tryz.prog 15 #[tv T lv gv, .int .i64 nn] w fun e w' => relP w lv gv ds gs T nn e w' := by
  obtain ⟨la, lc, ga, gc, rfl, rfl⟩ := h.dt.form
  obtain ⟨n, hn⟩ : ∃ n, n = ds.length := ⟨_, rfl⟩
  obtain ⟨gn, hgn⟩ : ∃ gn, gn = gs.length := ⟨_, rfl⟩
  have hnl := h.len
  have hM := h.hM
  have hgl := h.gl
  have h8 := h.dt.lr
  have h2 := h.dt.gr
  have HF : Hid (∀ w', Touch [] w w' → Calls Tryz.prog 35 #[.agg #[.int .i64 T.fl, .int .i64 T.bg, .slice la n lc, .slice ga gn gc], .int .i64 nn] w' fun e w2 => e = .returned (.int .i64 (posN (desOf ds) nn)) ∧ Touch [] w' w2) := fun w' X => find_ w' T.fl T.bg nn la ga n lc gn gc ds hn (by omega) (own_touch (by rw [hn]; exact h8) X (fun _ _ e => by cases e)) h.vs
  obtain ⟨V, hV⟩ : ∃ V, V = (w.alloc (.cells #[.int .i64 T.fl, .int .i64 T.bg, .slice la n lc, .slice ga gn gc] 31)).alloc (.cells #[.int .i64 0, .int .i64 0, .slice none 0 0, .slice none 0 0] 31) := ⟨_, rfl⟩
  have HTc : Hid (Touch [] w V) := by rw [hV]; exact ((Touch.refl _ _).alloc _).alloc _
  have kT : V.heap[w.heap.size]? = some (.cells #[.int .i64 T.fl, .int .i64 T.bg, .slice la n lc, .slice ga gn gc] 31 (0, 0)) := by rw [hV]; exact (Below.heap_alloc _ _ _ (by simp)).trans (heap_alloc_new w _)
  have kZ : V.heap[w.heap.size + 1]? = some (.cells #[.int .i64 0, .int .i64 0, .slice none 0 0, .slice none 0 0] 31 (0, 0)) := by
    rw [hV]
    have := heap_alloc_new (w.alloc (.cells #[.int .i64 T.fl, .int .i64 T.bg, .slice la n lc, .slice ga gn gc] 31)) (.cells #[.int .i64 0, .int .i64 0, .slice none 0 0, .slice none 0 0] 31)
    rwa [World.size_alloc] at this
  have HG : Hid (∀ w', Touch [] w w' → w'.ownsRow 0 78 8 (.slice la n lc) n (ds.flatMap row8)) := fun w' t => own_touch (by rw [hn]; exact h8) t (fun _ _ e => by cases e)
  have HDg : Hid (Dg w (.slice la n lc) (.slice ga gn gc) ds gs T M) := hid (by rw [hn, hgn]; exact h)
  have HGb : Hid (∀ b, (Value.slice ga gn gc).ownBlock = some b → b < w.heap.size) := fun b hb => (h2.lt b (by rw [← hgn]; exact hb)).2
  have HN := hid hn
  have zn : (n : Int) ≤ 4096 := by omega
  have HGn := hid hgn
  have HGl : Hid (gn ≤ 1700000000000) := hid (by omega)
  unfold tv
  rw [← hn, ← hgn]
  obtain ⟨Q, hQ⟩ : ∃ Q : Ending → World → Prop, Q = fun e w' => relP w (.slice la n lc) (.slice ga gn gc) ds gs T nn e w' := ⟨_, rfl⟩
  have HQ : Hid (∀ e w', relP w (.slice la n lc) (.slice ga gn gc) ds gs T nn e w' → Q e w') := hid (by rw [hQ]; exact fun e w' hh => hh)
  rw [← hQ]
  clear hQ h h8 h2 hM hgl hnl
  rcases HDg.out.run nn with ⟨e1, e2⟩ | ⟨i, d, e1, e2, e3, e4⟩
  · rw [e1] at HF
    have HE : Hid (∀ w', Touch [] w w' → Q (.returned (.tuple #[.agg #[.int .i64 T.fl, .int .i64 T.bg, .slice la n lc, .slice ga gn gc], .bool false, .bool false, .int .i64 122])) w') := fun w' X => HQ.out _ _ ⟨.slice la n lc, .slice ga gn gc, gs, by simp [tv, tRel, tRelC, tRelA, tRelE, e2], by
      have := HDg.out.stay X
      simpa [tRel, e2] using this, by omega⟩
    clear e1 e2 HDg HG HQ hn hgn
    generalize T.fl = fl at *
    generalize T.bg = bg at *
    have HKc := hid (And.intro kT kZ)
    have a0 := cell_at (j := 0) kT rfl
    have a1 := cell_at (j := 1) kT rfl
    have a2 := cell_at (j := 2) kT rfl
    have a3 := cell_at (j := 3) kT rfl
    have af := froz_at kT
    have z0 := cell_at (j := 0) kZ rfl
    have z1 := cell_at (j := 1) kZ rfl
    have z2 := cell_at (j := 2) kZ rfl
    have z3 := cell_at (j := 3) kZ rfl
    have zf := froz_at kZ
    clear kT kZ
    go_enter Tryz.func15, Tryz.ntmps15
    go_upto_region 1 with fail
    rw [← hV]
    clear hV
    go_wp2_with (go_at_call 35; refine (HF.out _ HTc.out).mono ?_; rintro e w2 ⟨rfl, t2⟩; obtain ⟨kT, kZ⟩ := HKc.out; replace kT := t2.keep kT (by first | (simp; done) | (simp; omega)); replace kZ := t2.keep kZ (by first | (simp; done) | (simp; omega)); clear HKc a0 a1 a2 a3 af z0 z1 z2 z3 zf; have HKc := hid (And.intro kT kZ); have a0 := cell_at (j := 0) kT rfl; have a1 := cell_at (j := 1) kT rfl; have a2 := cell_at (j := 2) kT rfl; have a3 := cell_at (j := 3) kT rfl; have af := froz_at kT; have z0 := cell_at (j := 0) kZ rfl; have z1 := cell_at (j := 1) kZ rfl; have z2 := cell_at (j := 2) kZ rfl; have z3 := cell_at (j := 3) kZ rfl; have zf := froz_at kZ; clear kT kZ; replace HTc := hid (HTc.out.trans' t2); clear t2)
    obtain ⟨kT, kZ⟩ := HKc.out
    obtain ⟨q4, tF⟩ := finZ kZ (.int .i64 fl) (.int .i64 bg) (.slice la n lc) (.slice ga gn gc)
    have q0 := cell_at (j := 0) q4 rfl
    have q1 := cell_at (j := 1) q4 rfl
    have q2 := cell_at (j := 2) q4 rfl
    have q3 := cell_at (j := 3) q4 rfl
    exact bodyPost_ret (v := .tuple #[.agg #[.int .i64 fl, .int .i64 bg, .slice la n lc, .slice ga gn gc], .bool false, .bool false, .int .i64 122]) (by simp [results, Tryz.results15, go_sem, q0, q1, q2, q3]) rfl (HE.out _ (HTc.out.trans tF (fun b hb => Or.inr (by simp at hb; omega))))
  · rw [e1] at HF
    have hdm := List.mem_of_getElem? e2
    have hiv := HDg.out.ti.live _ (HDg.out.mem hdm)
    have hlv := HDg.out.lv _ (HDg.out.mem hdm)
    have hwl := HDg.out.who _ (HDg.out.mem hdm)
    have hwv := HDg.out.dt.wr d hdm
    obtain ⟨va, vc, ev⟩ := own_form hwv
    obtain ⟨vn, hvn⟩ : ∃ vn, vn = d.S.who.length := ⟨_, rfl⟩
    rw [← hvn] at ev
    simp only at hlv hwl
    have zi : (i : Int) < (n : Int) := by have := (List.getElem?_eq_some_iff.1 e2).1; omega
    have HD := hid e2
    have Hev := hid ev
    have key : tRelE T nn = 0 := by simp [tRelE, e4]
    have eT : tRel T nn = goneT (setS T nn (relS d.S)) d.R (relB d.S) := by simp [tRel, e4]
    cases hk : d.S.kept with
    | false =>
      have HE : Hid (∀ w', Touch [] w w' → Q (.returned (.tuple #[.agg #[.int .i64 T.fl, .int .i64 T.bg, .slice la n lc, .slice ga gn gc], .bool false, .bool false, .int .i64 0])) w') := fun w' X => HQ.out _ _ ⟨.slice la n lc, .slice ga gn gc, gs, by simp [tv, tRel, tRelC, tRelA, tRelE, e4, relB, hk, goneB, goneT, relS, setS], by
        have := HDg.out.stay X
        have e : tRel T nn = T := by
          have := setS_same HDg.out.ti e4
          simpa [tRel, e4, relB, relS, hk, goneT, goneB] using this
        rw [e]
        exact this, by omega⟩
      clear e1 e2 e3 e4 HQ HDg hn hgn hiv hlv hwl hwv ev hvn key hdm eT
      generalize T.fl = fl at *
      generalize T.bg = bg at *
      have HKc := hid (And.intro kT kZ)
      have a0 := cell_at (j := 0) kT rfl
      have a1 := cell_at (j := 1) kT rfl
      have a2 := cell_at (j := 2) kT rfl
      have a3 := cell_at (j := 3) kT rfl
      have af := froz_at kT
      have z0 := cell_at (j := 0) kZ rfl
      have z1 := cell_at (j := 1) kZ rfl
      have z2 := cell_at (j := 2) kZ rfl
      have z3 := cell_at (j := 3) kZ rfl
      have zf := froz_at kZ
      clear kT kZ
      go_enter Tryz.func15, Tryz.ntmps15
      go_upto_region 1 with fail
      rw [← hV]
      clear hV
      go_upto_region 4 with (go_at_call 35; refine (HF.out _ HTc.out).mono ?_; rintro e w2 ⟨rfl, t2⟩; obtain ⟨kT, kZ⟩ := HKc.out; replace kT := t2.keep kT (by first | (simp; done) | (simp; omega)); replace kZ := t2.keep kZ (by first | (simp; done) | (simp; omega)); clear HKc a0 a1 a2 a3 af z0 z1 z2 z3 zf; have HKc := hid (And.intro kT kZ); have a0 := cell_at (j := 0) kT rfl; have a1 := cell_at (j := 1) kT rfl; have a2 := cell_at (j := 2) kT rfl; have a3 := cell_at (j := 3) kT rfl; have af := froz_at kT; have z0 := cell_at (j := 0) kZ rfl; have z1 := cell_at (j := 1) kZ rfl; have z2 := cell_at (j := 2) kZ rfl; have z3 := cell_at (j := 3) kZ rfl; have zf := froz_at kZ; clear kT kZ; replace HTc := hid (HTc.out.trans' t2); clear t2)
      clear HF
      obtain ⟨g, c', e, _, _⟩ := own_some (HG.out _ HTc.out) (by omega)
      cases e
      obtain ⟨r0, r1, r2, r3, r4, r5, r6, r7⟩ := lr_cells (HG.out _ HTc.out) HD.out
      rw [Hev.out] at r7
      go_upto_region 5 with fail
      clear r0 r1 r2 r3 r4 r5 r6 r7
      obtain ⟨kT, kZ⟩ := HKc.out
      obtain ⟨W3, hW3⟩ : ∃ W, W = w2.alloc (.cells #[.int .i64 d.R.run, .int .i64 d.R.gen, .int .u16 d.R.sp, .string d.R.nm, .bool d.R.rf, .bool d.S.kept, .bool d.S.canc, .slice va vn vc] 78) := ⟨_, rfl⟩
      have tq : Touch [] w2 W3 := by rw [hW3]; exact (Touch.refl _ _).alloc _
      have kE : W3.heap[w2.heap.size]? = some (.cells #[.int .i64 d.R.run, .int .i64 d.R.gen, .int .u16 d.R.sp, .string d.R.nm, .bool d.R.rf, .bool d.S.kept, .bool d.S.canc, .slice va vn vc] 78 (0, 0)) := by rw [hW3]; exact heap_alloc_new w2 _
      have zeb : w.heap.size + 2 ≤ w2.heap.size := by have := block_lt kZ; omega
      replace kT := tq.keep kT (by simp)
      replace kZ := tq.keep kZ (by simp)
      replace HTc := hid (HTc.out.trans' tq)
      simp only [hk] at hW3 kE
      rw [← hW3]
      clear hW3 tq
      generalize w2.heap.size = eb at *
      clear HKc a0 a1 a2 a3 af z0 z1 z2 z3 zf
      have HKc := hid (And.intro kT (And.intro kZ kE))
      have a0 := cell_at (j := 0) kT rfl
      have a1 := cell_at (j := 1) kT rfl
      have a2 := cell_at (j := 2) kT rfl
      have a3 := cell_at (j := 3) kT rfl
      have af := froz_at kT
      have z0 := cell_at (j := 0) kZ rfl
      have z1 := cell_at (j := 1) kZ rfl
      have z2 := cell_at (j := 2) kZ rfl
      have z3 := cell_at (j := 3) kZ rfl
      have zf := froz_at kZ
      have x0 := cell_at (j := 0) kE rfl
      have x1 := cell_at (j := 1) kE rfl
      have x2 := cell_at (j := 2) kE rfl
      have x3 := cell_at (j := 3) kE rfl
      have x4 := cell_at (j := 4) kE rfl
      have x5 := cell_at (j := 5) kE rfl
      have x6 := cell_at (j := 6) kE rfl
      have x7 := cell_at (j := 7) kE rfl
      have xf := froz_at kE
      clear kT kZ kE
      clear HG HD Hev
      go_wp2
      obtain ⟨kT, kZ, kE⟩ := HKc.out
      obtain ⟨q4, tF⟩ := finZ kZ (.int .i64 fl) (.int .i64 bg) (.slice (some ⟨g, 0, none⟩) n lc) (.slice ga gn gc)
      have q0 := cell_at (j := 0) q4 rfl
      have q1 := cell_at (j := 1) q4 rfl
      have q2 := cell_at (j := 2) q4 rfl
      have q3 := cell_at (j := 3) q4 rfl
      exact bodyPost_ret (v := .tuple #[.agg #[.int .i64 fl, .int .i64 bg, .slice (some ⟨g, 0, none⟩) n lc, .slice ga gn gc], .bool false, .bool false, .int .i64 0]) (by simp [results, Tryz.results15, go_sem, q0, q1, q2, q3]) rfl (HE.out _ (HTc.out.trans tF (fun b hb => Or.inr (by simp at hb; omega))))
    | true =>
      have hca : d.S.canc = false := by
        cases hc : d.S.canc with
        | false => rfl
        | true => have := (hiv.ca hlv hc).2; rw [hk] at this; cases this
      have HL : Hid (∀ w', Touch [] w w' → Calls Tryz.prog 47 #[.agg #[.int .i64 T.fl, .int .i64 T.bg, .slice la n lc, .slice ga gn gc], .int .i64 (i : Int), .agg #[.int .i64 d.R.run, .int .i64 d.R.gen, .int .u16 d.R.sp, .string d.R.nm, .bool d.R.rf, .bool false, .bool d.S.canc, .slice va vn vc]] w' fun e w2 => ∃ a c b m c2, e = .returned (.tuple #[.agg #[.int .i64 T.fl, .int .i64 T.bg, .slice a n c, .slice b m c2], .bool (relB d.S), .bool (relB d.S && isC gs d.R)]) ∧ w2.ownsRow w'.heap.size 78 8 (.slice a n c) n ((ds.set i ⟨d.R, relS d.S, .slice va vn vc⟩).flatMap row8) ∧ m = (onG gs (kOf d.R) (relB d.S && isC gs d.R)).length ∧ w2.ownsRow 0 122 3 (.slice b m c2) m ((onG gs (kOf d.R) (relB d.S && isC gs d.R)).flatMap row3) ∧ (∀ q, (Value.slice b m c2).ownBlock = some q → (Value.slice ga gn gc).ownBlock = some q ∨ w'.heap.size ≤ q) ∧ Touch [] w' w2) := fun w' X => by
        have g1 := HDg.out.ti.gn (kOf d.R)
        have g2 := HDg.out.dt.go (kOf d.R)
        have hM := HDg.out.hM
        have hgl := HDg.out.gl
        have hnl := HDg.out.len
        have := left_ w' T.fl T.bg la ga va n lc gn gc i vn vc ds gs d.R { d.S with kept := false } hn (by omega) hgn (by omega) (by omega) (by omega) (by omega) hvn (by omega) hlv hca (HG.out _ X) (own_touch (by have := HDg.out.dt.gr; rwa [← hgn] at this) X (fun _ _ e => by cases e)) HDg.out.vs
        have r1 : leftB { d.S with kept := false } = relB d.S := by simp [relB, hk, hlv]
        have r2 : leftS { d.S with kept := false } = relS d.S := by simp [relS, hk, hlv]
        rw [r1, r2] at this
        exact this
      have HE : Hid (∀ w' (a b : Option Addr) (c c2 m : Nat), w'.ownsRow w.heap.size 78 8 (.slice a n c) n ((ds.set i ⟨d.R, relS d.S, .slice va vn vc⟩).flatMap row8) → m = (onG gs (kOf d.R) (relB d.S && isC gs d.R)).length → w'.ownsRow 0 122 3 (.slice b m c2) m ((onG gs (kOf d.R) (relB d.S && isC gs d.R)).flatMap row3) → (∀ q, (Value.slice b m c2).ownBlock = some q → (Value.slice ga gn gc).ownBlock = some q ∨ w.heap.size ≤ q) → Touch [] w w' → Q (.returned (.tuple #[.agg #[.int .i64 T.fl, .int .i64 T.bg, .slice a n c, .slice b m c2], .bool (relB d.S), .bool (relB d.S && isC gs d.R), .int .i64 0])) w') := fun w' a b c c2 m q1 q2 q3 q4 X => HQ.out _ _ ⟨.slice a n c, .slice b m c2, onG gs (kOf d.R) (relB d.S && isC gs d.R), by
          rw [HDg.out.isC, eT]
          unfold tv
          rw [(goneT_fl _ _ _).1, (goneT_fl _ _ _).2.1, key]
          simp only [tRelC, tRelA, e4, goneB]
          rfl, by
          have r : relS d.S = { d.S with kept := false, canc := relB d.S } := by simp [relS, relB, hk, hlv, leftS]
          refine HDg.out.set X e2 (S := relS d.S) (v := .slice va vn vc) (by rw [← hn]; exact q1) ?_ (fun q hq => Or.inl (by rw [ev]; exact hq)) (by rw [← q2]; exact q3) ?_ ?_ (fun j => ?_)
          · have := hwv.keep0 X
            rw [r]
            unfold Wv at this ⊢
            rw [ev] at this
            exact this
          · exact q4
          · rw [eT, (goneT_fl _ _ _).2.2, e3]
            rfl
          · rw [HDg.out.onG (kOf d.R) _ (setS T nn (relS d.S)) rfl j, HDg.out.isC, eT]
            rfl, by have := onG_len gs (kOf d.R) (relB d.S && isC gs d.R); omega⟩
      clear e1 e2 e3 e4 HQ HDg hn hgn hiv hlv hwl hwv ev hvn key hdm eT hca
      generalize T.fl = fl at *
      generalize T.bg = bg at *
      generalize relB d.S = rb at *
      generalize isC gs d.R = ic at *
      generalize relS d.S = rS at *
      have HKc := hid (And.intro kT kZ)
      have a0 := cell_at (j := 0) kT rfl
      have a1 := cell_at (j := 1) kT rfl
      have a2 := cell_at (j := 2) kT rfl
      have a3 := cell_at (j := 3) kT rfl
      have af := froz_at kT
      have z0 := cell_at (j := 0) kZ rfl
      have z1 := cell_at (j := 1) kZ rfl
      have z2 := cell_at (j := 2) kZ rfl
      have z3 := cell_at (j := 3) kZ rfl
      have zf := froz_at kZ
      clear kT kZ
      go_enter Tryz.func15, Tryz.ntmps15
      go_upto_region 1 with fail
      rw [← hV]
      clear hV
      go_upto_region 4 with (go_at_call 35; refine (HF.out _ HTc.out).mono ?_; rintro e w2 ⟨rfl, t2⟩; obtain ⟨kT, kZ⟩ := HKc.out; replace kT := t2.keep kT (by first | (simp; done) | (simp; omega)); replace kZ := t2.keep kZ (by first | (simp; done) | (simp; omega)); clear HKc a0 a1 a2 a3 af z0 z1 z2 z3 zf; have HKc := hid (And.intro kT kZ); have a0 := cell_at (j := 0) kT rfl; have a1 := cell_at (j := 1) kT rfl; have a2 := cell_at (j := 2) kT rfl; have a3 := cell_at (j := 3) kT rfl; have af := froz_at kT; have z0 := cell_at (j := 0) kZ rfl; have z1 := cell_at (j := 1) kZ rfl; have z2 := cell_at (j := 2) kZ rfl; have z3 := cell_at (j := 3) kZ rfl; have zf := froz_at kZ; clear kT kZ; replace HTc := hid (HTc.out.trans' t2); clear t2)
      clear HF
      obtain ⟨g, c', e, _, _⟩ := own_some (HG.out _ HTc.out) (by omega)
      cases e
      obtain ⟨r0, r1, r2, r3, r4, r5, r6, r7⟩ := lr_cells (HG.out _ HTc.out) HD.out
      rw [Hev.out] at r7
      go_upto_region 5 with fail
      clear r0 r1 r2 r3 r4 r5 r6 r7
      obtain ⟨kT, kZ⟩ := HKc.out
      obtain ⟨W3, hW3⟩ : ∃ W, W = w2.alloc (.cells #[.int .i64 d.R.run, .int .i64 d.R.gen, .int .u16 d.R.sp, .string d.R.nm, .bool d.R.rf, .bool d.S.kept, .bool d.S.canc, .slice va vn vc] 78) := ⟨_, rfl⟩
      have tq : Touch [] w2 W3 := by rw [hW3]; exact (Touch.refl _ _).alloc _
      have kE : W3.heap[w2.heap.size]? = some (.cells #[.int .i64 d.R.run, .int .i64 d.R.gen, .int .u16 d.R.sp, .string d.R.nm, .bool d.R.rf, .bool d.S.kept, .bool d.S.canc, .slice va vn vc] 78 (0, 0)) := by rw [hW3]; exact heap_alloc_new w2 _
      have zeb : w.heap.size + 2 ≤ w2.heap.size := by have := block_lt kZ; omega
      replace kT := tq.keep kT (by simp)
      replace kZ := tq.keep kZ (by simp)
      replace HTc := hid (HTc.out.trans' tq)
      simp only [hk] at hW3 kE
      rw [← hW3]
      clear hW3 tq
      generalize w2.heap.size = eb at *
      clear HKc a0 a1 a2 a3 af z0 z1 z2 z3 zf
      have HKc := hid (And.intro kT (And.intro kZ kE))
      have a0 := cell_at (j := 0) kT rfl
      have a1 := cell_at (j := 1) kT rfl
      have a2 := cell_at (j := 2) kT rfl
      have a3 := cell_at (j := 3) kT rfl
      have af := froz_at kT
      have z0 := cell_at (j := 0) kZ rfl
      have z1 := cell_at (j := 1) kZ rfl
      have z2 := cell_at (j := 2) kZ rfl
      have z3 := cell_at (j := 3) kZ rfl
      have zf := froz_at kZ
      have x0 := cell_at (j := 0) kE rfl
      have x1 := cell_at (j := 1) kE rfl
      have x2 := cell_at (j := 2) kE rfl
      have x3 := cell_at (j := 3) kE rfl
      have x4 := cell_at (j := 4) kE rfl
      have x5 := cell_at (j := 5) kE rfl
      have x6 := cell_at (j := 6) kE rfl
      have x7 := cell_at (j := 7) kE rfl
      have xf := froz_at kE
      clear kT kZ kE
      clear HG HD Hev
      go_upto_region 8 with fail
      obtain ⟨kT, kZ, kE⟩ := HKc.out
      obtain ⟨W4, hW4⟩ : ∃ W, W = (W3.setCell ⟨eb, 5, none⟩ (.bool false)) := ⟨_, rfl⟩
      obtain ⟨kq, tq⟩ := set1 kE 5 (.bool false)
      rw [← hW4] at kq tq ⊢
      clear hW4
      replace kT := tq.keep kT (by first | (simp; done) | (simp; omega))
      replace kZ := tq.keep kZ (by first | (simp; done) | (simp; omega))
      replace kE := kq
      clear kq
      clear HKc a0 a1 a2 a3 af z0 z1 z2 z3 zf x0 x1 x2 x3 x4 x5 x6 x7 xf
      have HKc := hid (And.intro kT (And.intro kZ kE))
      have a0 := cell_at (j := 0) kT rfl
      have a1 := cell_at (j := 1) kT rfl
      have a2 := cell_at (j := 2) kT rfl
      have a3 := cell_at (j := 3) kT rfl
      have af := froz_at kT
      have z0 := cell_at (j := 0) kZ rfl
      have z1 := cell_at (j := 1) kZ rfl
      have z2 := cell_at (j := 2) kZ rfl
      have z3 := cell_at (j := 3) kZ rfl
      have zf := froz_at kZ
      have x0 := cell_at (j := 0) kE rfl
      have x1 := cell_at (j := 1) kE rfl
      have x2 := cell_at (j := 2) kE rfl
      have x3 := cell_at (j := 3) kE rfl
      have x4 := cell_at (j := 4) kE rfl
      have x5 := cell_at (j := 5) kE rfl
      have x6 := cell_at (j := 6) kE rfl
      have x7 := cell_at (j := 7) kE rfl
      have xf := froz_at kE
      clear kT kZ kE
      replace HTc := hid (HTc.out.trans tq (fun b hb => Or.inr (by simp at hb; omega)))
      clear tq
      go_upto_region 9 with (go_at_call 47; refine (HL.out _ HTc.out).mono ?_; rintro e w5 ⟨a5, c5, b5, m5, d5, rfl, o5, y5, p5, u5, t5⟩; replace o5 := own_base (B' := w.heap.size + 2) o5 (by have := block_lt HKc.out.2.1; omega); replace u5 := fun q hq => (u5 q hq).imp id (fun hh => (Nat.le_trans (by have := block_lt HKc.out.2.1; omega) hh : w.heap.size + 2 ≤ q)); obtain ⟨kT, kZ, kE⟩ := HKc.out; replace kT := t5.keep kT (by first | (simp; done) | (simp; omega)); replace kZ := t5.keep kZ (by first | (simp; done) | (simp; omega)); replace kE := t5.keep kE (by first | (simp; done) | (simp; omega)); clear HKc a0 a1 a2 a3 af z0 z1 z2 z3 zf x0 x1 x2 x3 x4 x5 x6 x7 xf; have HKc := hid (And.intro kT (And.intro kZ kE)); have a0 := cell_at (j := 0) kT rfl; have a1 := cell_at (j := 1) kT rfl; have a2 := cell_at (j := 2) kT rfl; have a3 := cell_at (j := 3) kT rfl; have af := froz_at kT; have z0 := cell_at (j := 0) kZ rfl; have z1 := cell_at (j := 1) kZ rfl; have z2 := cell_at (j := 2) kZ rfl; have z3 := cell_at (j := 3) kZ rfl; have zf := froz_at kZ; have x0 := cell_at (j := 0) kE rfl; have x1 := cell_at (j := 1) kE rfl; have x2 := cell_at (j := 2) kE rfl; have x3 := cell_at (j := 3) kE rfl; have x4 := cell_at (j := 4) kE rfl; have x5 := cell_at (j := 5) kE rfl; have x6 := cell_at (j := 6) kE rfl; have x7 := cell_at (j := 7) kE rfl; have xf := froz_at kE; clear kT kZ kE; replace HTc := hid (HTc.out.trans' t5); have O5 := hid o5; have P5 := hid (And.intro y5 (And.intro p5 u5)); clear o5 y5 p5 u5; clear t5)
      obtain ⟨kT, kZ, kE⟩ := HKc.out
      obtain ⟨W6, hW6⟩ : ∃ W, W = ((((w5.setCell ⟨w.heap.size, 0, none⟩ (.int .i64 fl)).setCell ⟨w.heap.size, 1, none⟩ (.int .i64 bg)).setCell ⟨w.heap.size, 2, none⟩ (.slice a5 n c5)).setCell ⟨w.heap.size, 3, none⟩ (.slice b5 m5 d5)) := ⟨_, rfl⟩
      obtain ⟨kq, tq⟩ := finZ kT (.int .i64 fl) (.int .i64 bg) (.slice a5 n c5) (.slice b5 m5 d5)
      rw [← hW6] at kq tq ⊢
      clear hW6
      replace kT := kq
      replace kZ := tq.keep kZ (by first | (simp; done) | (simp; omega))
      replace kE := tq.keep kE (by first | (simp; done) | (simp; omega))
      clear kq
      clear HKc a0 a1 a2 a3 af z0 z1 z2 z3 zf x0 x1 x2 x3 x4 x5 x6 x7 xf
      have HKc := hid (And.intro kT (And.intro kZ kE))
      have a0 := cell_at (j := 0) kT rfl
      have a1 := cell_at (j := 1) kT rfl
      have a2 := cell_at (j := 2) kT rfl
      have a3 := cell_at (j := 3) kT rfl
      have af := froz_at kT
      have z0 := cell_at (j := 0) kZ rfl
      have z1 := cell_at (j := 1) kZ rfl
      have z2 := cell_at (j := 2) kZ rfl
      have z3 := cell_at (j := 3) kZ rfl
      have zf := froz_at kZ
      have x0 := cell_at (j := 0) kE rfl
      have x1 := cell_at (j := 1) kE rfl
      have x2 := cell_at (j := 2) kE rfl
      have x3 := cell_at (j := 3) kE rfl
      have x4 := cell_at (j := 4) kE rfl
      have x5 := cell_at (j := 5) kE rfl
      have x6 := cell_at (j := 6) kE rfl
      have x7 := cell_at (j := 7) kE rfl
      have xf := froz_at kE
      clear kT kZ kE
      replace HTc := hid (HTc.out.trans tq (fun b hb => Or.inr (by simp at hb; omega)))
      replace O5 := hid (own_touch O5.out tq (fun b hb e => by have := (O5.out.lt b hb).1; simp at e; omega))
      replace P5 := hid (And.intro P5.out.1 (And.intro (own_touch P5.out.2.1 tq (fun b hb e => by rcases P5.out.2.2 b hb with q | q; (have := HGb.out b q; simp at e; omega); (simp at e; omega))) P5.out.2.2))
      clear tq
      clear HL
      go_wp2
      obtain ⟨kT, kZ, kE⟩ := HKc.out
      obtain ⟨q4, tF⟩ := finZ kZ (.int .i64 fl) (.int .i64 bg) (.slice a5 n c5) (.slice b5 m5 d5)
      have q0 := cell_at (j := 0) q4 rfl
      have q1 := cell_at (j := 1) q4 rfl
      have q2 := cell_at (j := 2) q4 rfl
      have q3 := cell_at (j := 3) q4 rfl
      exact bodyPost_ret (v := .tuple #[.agg #[.int .i64 fl, .int .i64 bg, .slice a5 n c5, .slice b5 m5 d5], .bool rb, .bool (rb && ic), .int .i64 0]) (by simp [results, Tryz.results15, go_sem, q0, q1, q2, q3]) rfl (HE.out _ _ _ _ _ _ (own_base (own_touch O5.out tF (fun b hb e => by have := (O5.out.lt b hb).1; simp at e; omega)) (by omega)) P5.out.1 (own_touch P5.out.2.1 tF (fun b hb e => by rcases P5.out.2.2 b hb with q | q; (have := HGb.out b q; simp at e; omega); (simp at e; omega))) (fun q hq => (P5.out.2.2 q hq).imp id (fun hh => by omega)) (HTc.out.trans tF (fun b hb => Or.inr (by simp at hb; omega))))
end Go.Proofs.YtpihhlllembdeaaGreat
