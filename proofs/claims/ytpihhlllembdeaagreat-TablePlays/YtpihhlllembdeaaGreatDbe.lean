/- The contract of the document's Begin. -/
import Derived.Test.YtpihhlllembdeaaGreatDen
import Derived.Deep.RegionHeldLaw
import Derived.Test.YtpihhlllembdeaaGreatAlh
namespace Go.Proofs.YtpihhlllembdeaaGreat
open Go.RowKit Go.Maps Go.ChangeMaps
set_option linter.unusedVariables false
set_option linter.unusedSimpArgs false
/-- A run more. -/
theorem Dg.add {w w' : World} {lv gv lv' : Value} {ds : List De} {gs : List (K × Int)} {T T' : Tb} {M n : Nat} {d : De} (h : Dg w lv gv ds gs T M) (t : Touch [] w w') (hn : n = ds.length) (hl : w'.ownsRow w.heap.size 78 8 lv' (n + 1) (ds.flatMap row8 ++ row8 d)) (hd : Wv w' d) (hvb : ∀ q, d.v.ownBlock = some q → w.heap.size ≤ q) (hT : T'.rs = T.rs ++ [(d.R, d.S)]) (hg : T'.gn = T.gn) : DtE w w' lv gv ds lv' gv gs T' := by
  refine ⟨ds ++ [d], ⟨?_, ?_, fun x hx => ?_, own_touch h.dt.gr t (fun _ _ e => by cases e), fun k => by rw [hg]; exact h.dt.go k⟩, t, fun b hb => ?_⟩
  · rw [hT, h.dt.rs]
    unfold desOf
    rw [List.map_append]
    rfl
  · rw [List.flatMap_append, List.length_append, ← hn]
    have : [d].flatMap row8 = row8 d := by simp
    rw [this]
    exact own_base hl (Nat.zero_le _)
  · rcases List.mem_append.1 hx with e | e
    · exact (h.dt.wr x e).keep0 t
    · rw [List.mem_singleton.1 e]; exact hd
  · rcases mem_fpD.1 hb with e | e | ⟨x, hx, e⟩
    · exact Or.inr (hl.lt b e).1
    · exact Or.inl (mem_fpD.2 (Or.inr (Or.inl e)))
    · rcases List.mem_append.1 hx with q | q
      · exact Or.inl (mem_fpD.2 (Or.inr (Or.inr ⟨x, q, e⟩)))
      · rw [List.mem_singleton.1 q] at e
        exact Or.inr (hvb b e)
theorem step_append_rs (w : World) {ops : Array Oper} {o : Oper} {a : Go.Act} {KK : Go.Act → World → Prop} {Q : Exit → Go.Act → World → Prop} {E : Prop} (d : Option Tmp) (hd : o.dst = d) (hgd : o.guard = none) (s x : Operand) (st et : TypeId) (ho : o.op = .call { callee := .builtin .append, args := #[s, x], argTypes := #[st, st] })
    (z : Value) (k bytes : Nat) (hinfo : (Tryz.prog.info? et).map (fun i => (i.zero, i.size, i.bytes)) = some (some z, k, bytes)) (ht : Tryz.prog.underlying st = some (.slice et)) (hzs : z.cells.size = k) (hk : 0 < k)
    (base : Nat) (v : Value) (n : Nat) (xs : List Value) (hs : a.eval s = v) (hown : w.ownsRow base et k v n xs)
    (u : Value) (m : Nat) (vs : List Value) (hx : a.eval x = u) (hu : Rs et k w u m vs) (h1 : ∀ y ∈ vs, y.oneCell' = true) (h63 : n + m ≤ maxLen) (hbytes : (n + m) * bytes ≤ 140737488355328) (hbase : base ≤ w.heap.size)
    (h : ∀ v' w', w'.ownsRow base et k v' (n + m) (xs ++ vs) → w.grownBy w' v.ownBlock → KK (a.put d v') w') : if Region.wanted o (yielded ops a.tmps) = true then Oper.wp Tryz.prog o a w KK Q else E := by
  subst hd
  have hw : Region.wanted o (yielded ops a.tmps) = true := by simp [Region.wanted, hgd]
  rw [if_pos hw]
  obtain ⟨i3, hf, hz0, hz1, hz2⟩ := info_parts hinfo
  obtain ⟨hl, ad, c, rfl, hc, hn0, hr⟩ := hu
  cases ad with
  | none =>
    have e0 := hn0 rfl
    subst e0
    have em : m = 0 := by omega
    subst em
    have ev : vs = [] := List.length_eq_zero_iff.1 (by omega)
    subst ev
    have hrun := run_append_owned_none (P := Tryz.prog) (w := w) base st o.type et i3 k ht hf v n xs hown
    unfold Oper.wp
    simp [execOp, ho, resolve, invoke, builtin, hs, hx, hrun, Result.andThen]
    exact h v w (by simpa using hown) (World.grownBy.refl _ _)
  | some ad =>
    have hnews : ∀ j y, vs[j]? = some y → w.cell? (ad.add j) = some y := fun j y hy => by
      have hm : 0 < m := by
        rcases Nat.eq_zero_or_pos m with e | e
        · subst e
          have : vs = [] := List.length_eq_zero_iff.1 (by omega)
          subst this
          simp at hy
        · exact e
      obtain ⟨g, off, e, cs, zz, h5, h6⟩ := hr hm
      cases e
      rw [show (⟨g, off, none⟩ : Addr).add j = ⟨g, off + j, none⟩ by simp [Addr.add]]
      simp [World.cell?, h5, h6 j y hy]
    obtain ⟨v', w', hr', h2, h3, h4, h5⟩ := run_append_own_at (P := Tryz.prog) w base st o.type et i3 z k bytes ht hf hz0 hz1 hz2 hzs hk v n xs hown ad m c vs hl hnews h1 h63 hbytes hbase
    unfold Oper.wp execOp
    simp only [ho, resolve, invoke, builtin, Sem.run_bind, Sem.run_pure, Result.andThen_ok, List.map_toArray, List.map_cons, List.map_nil, hs, hx, hr']
    exact h v' w' h2 h3
/-- Eight stores into one box. -/
theorem fin8 {wr : World} {Z : Nat} {t2 : TypeId} {z0 z1 z2 z3 z4 z5 z6 z7 : Value} (hz : wr.heap[Z]? = some (.cells #[z0, z1, z2, z3, z4, z5, z6, z7] t2 (0, 0))) (v0 v1 v2 v3 v4 v5 v6 v7 : Value) :
    ((((((((wr.setCell ⟨Z, 0, none⟩ v0).setCell ⟨Z, 1, none⟩ v1).setCell ⟨Z, 2, none⟩ v2).setCell ⟨Z, 3, none⟩ v3).setCell ⟨Z, 4, none⟩ v4).setCell ⟨Z, 5, none⟩ v5).setCell ⟨Z, 6, none⟩ v6).setCell ⟨Z, 7, none⟩ v7).heap[Z]? = some (.cells #[v0, v1, v2, v3, v4, v5, v6, v7] t2 (0, 0)) ∧ Touch [Z] wr ((((((((wr.setCell ⟨Z, 0, none⟩ v0).setCell ⟨Z, 1, none⟩ v1).setCell ⟨Z, 2, none⟩ v2).setCell ⟨Z, 3, none⟩ v3).setCell ⟨Z, 4, none⟩ v4).setCell ⟨Z, 5, none⟩ v5).setCell ⟨Z, 6, none⟩ v6).setCell ⟨Z, 7, none⟩ v7) := by
  refine ⟨by simp [World.setCell, Array.getElem?_modify, hz], ?_⟩
  have hm : Z ∈ [Z] := by simp
  exact ((((((((Touch.refl _ _).setCell (Or.inl hm) _).setCell (Or.inl hm) _).setCell (Or.inl hm) _).setCell (Or.inl hm) _).setCell (Or.inl hm) _).setCell (Or.inl hm) _).setCell (Or.inl hm) _).setCell (Or.inl hm) _
def begP (w : World) (lv gv : Value) (ds : List De) (gs : List (K × Int)) (T : Tb) (k : K) (x : Int) (rf : Bool) (e : Ending) (w' : World) : Prop := ∃ lv', e = .returned (.tuple #[tv (tBeg T k x rf) lv' gv, .int .i64 (tBegN T k x rf), .int .i64 (tBegE T k x rf)]) ∧ DtE w w' lv gv ds lv' gv gs (tBeg T k x rf)
set_option maxHeartbeats 4000000 in
set_option maxRecDepth 100000 in
theorem begin__ (w : World) (lv gv : Value) (ds : List De) (gs : List (K × Int)) (T : Tb) (M : Nat) (k : K) (x : Int) (rf : Bool) (h : Dg w lv gv ds gs T M) :
    Calls Tryz.prog 22 #[tv T lv gv, kv k, .int .i64 x, .bool rf] w fun e w' => begP w lv gv ds gs T k x rf e w' := by
  obtain ⟨la, lc, ga, gc, rfl, rfl⟩ := h.dt.form
  obtain ⟨n, hn⟩ : ∃ n, n = ds.length := ⟨_, rfl⟩
  obtain ⟨gn, hgn⟩ : ∃ gn, gn = gs.length := ⟨_, rfl⟩
  have hnl := h.len
  have hM := h.hM
  have hgl := h.gl
  have h8 := h.dt.lr
  have h2 := h.dt.gr
  obtain ⟨V, hV⟩ : ∃ V, V = ((w.alloc (.cells #[.int .i64 T.fl, .int .i64 T.bg, .slice la n lc, .slice ga gn gc] 31)).alloc (bxRK k)).alloc (.cells #[.int .i64 0, .int .i64 0, .slice none 0 0, .slice none 0 0] 31) := ⟨_, rfl⟩
  have HTc : Hid (Touch [] w V) := by rw [hV]; exact (((Touch.refl _ _).alloc _).alloc _).alloc _
  have kT : V.heap[w.heap.size]? = some (.cells #[.int .i64 T.fl, .int .i64 T.bg, .slice la n lc, .slice ga gn gc] 31 (0, 0)) := by rw [hV]; exact (Below.heap_alloc _ _ _ (by simp; omega)).trans ((Below.heap_alloc _ _ _ (by simp)).trans (heap_alloc_new w _))
  have kK : V.heap[w.heap.size + 1]? = some (.cells #[.int .u16 k.1, .string k.2] 68 (0, 0)) := by
    rw [hV]
    have := heap_alloc_new (w.alloc (.cells #[.int .i64 T.fl, .int .i64 T.bg, .slice la n lc, .slice ga gn gc] 31)) (bxRK k)
    rw [World.size_alloc] at this
    exact (Below.heap_alloc _ _ _ (by simp)).trans this
  have HG : Hid (∀ w', Touch [] w w' → w'.ownsRow 0 78 8 (.slice la n lc) n (ds.flatMap row8)) := fun w' t => own_touch (by rw [hn]; exact h8) t (fun _ _ e => by cases e)
  have HDg : Hid (Dg w (.slice la n lc) (.slice ga gn gc) ds gs T M) := hid (by rw [hn, hgn]; exact h)
  have HGb : Hid (∀ b, (Value.slice ga gn gc).ownBlock = some b → b < w.heap.size) := fun b hb => (h2.lt b (by rw [← hgn]; exact hb)).2
  have HN := hid hn
  have zn : (n : Int) ≤ 4096 := by omega
  have HGn := hid hgn
  have HGl : Hid (gn ≤ 1700000000000) := hid (by omega)
  unfold tv
  rw [← hn, ← hgn]
  obtain ⟨Q, hQ⟩ : ∃ Q : Ending → World → Prop, Q = fun e w' => begP w (.slice la n lc) (.slice ga gn gc) ds gs T k x rf e w' := ⟨_, rfl⟩
  have HQ : Hid (∀ e w', begP w (.slice la n lc) (.slice ga gn gc) ds gs T k x rf e w' → Q e w') := hid (by rw [hQ]; exact fun e w' hh => hh)
  rw [← hQ]
  clear hQ h h8 h2 hM hgl
  have kZ : V.heap[w.heap.size + 1 + 1]? = some (.cells #[.int .i64 0, .int .i64 0, .slice none 0 0, .slice none 0 0] 31 (0, 0)) := by
    rw [hV]
    have := heap_alloc_new ((w.alloc (.cells #[.int .i64 T.fl, .int .i64 T.bg, .slice la n lc, .slice ga gn gc] 31)).alloc (bxRK k)) (.cells #[.int .i64 0, .int .i64 0, .slice none 0 0, .slice none 0 0] 31)
    rwa [World.size_alloc, World.size_alloc] at this
  have HX : Hid (∀ w' (E : Int), tBegE T k x rf = E → E ≠ 0 → Touch [] w w' → Q (.returned (.tuple #[.agg #[.int .i64 T.fl, .int .i64 T.bg, .slice la n lc, .slice ga gn gc], .int .i64 0, .int .i64 E])) w') := fun w' E hE h0 X => by
    have eT : tBeg T k x rf = T := by simp [tBeg, hE, h0]
    refine HQ.out _ _ ⟨.slice la n lc, by rw [eT]; simp [tv, tBegN, hE, h0], ?_⟩
    rw [eT]
    exact HDg.out.stay X
  have hEe : tBegE T k x rf = if ¬ k.2.size ≤ 64 then 20 else if badC x rf then 1 else if (curOf T k).isSome then 121 else if T.fl ≤ (n : Int) then 120 else 0 := by
    unfold tBegE mayK
    rw [HDg.out.dt.len, ← hn]
    by_cases hk : k.2.size ≤ 64 <;> simp [hk]
  have hgo : ofL gs = T.gn := funext HDg.out.dt.go
  have HC : Hid (∀ w', Touch [] w w' → Calls Tryz.prog 30 #[.agg #[.int .i64 T.fl, .int .i64 T.bg, .slice la n lc, .slice ga gn gc], .agg #[.int .u16 k.1, .string k.2]] w' fun e w2 => e = .returned (.int .i64 (posC (ofL gs) (desOf ds) k)) ∧ Touch [] w' w2) := fun w' X => current_ w' T.fl T.bg la ga n lc gn gc ds gs k hn (by omega) hgn (by have := HGl.out; omega) (HG.out _ X) (own_touch (by have := HDg.out.dt.gr; rwa [← hgn] at this) X (fun _ _ e => by cases e)) HDg.out.vs
  have hpc : (0 ≤ posC (ofL gs) (desOf ds) k) = ((curOf T k).isSome = true) := by rw [hgo, ← HDg.out.dt.rs]; exact posC_cur k
  have HO : Hid (∀ w' (bg : Int), Touch [] w w' → Calls Tryz.prog 32 #[.agg #[.int .i64 T.fl, .int .i64 bg, .slice la n lc, .slice ga gn gc], .agg #[.int .u16 k.1, .string k.2]] w' fun e w2 => e = .returned (.int .i64 (T.gn k)) ∧ Touch [] w' w2) := fun w' bg X => by
    have := of_ w' T.fl bg la ga n lc gn gc gs k hgn (by have := HGl.out; omega) (own_touch (by have := HDg.out.dt.gr; rwa [← hgn] at this) X (fun _ _ e => by cases e))
    rw [HDg.out.dt.go] at this
    exact this
  have HNx : Hid (∀ w' (a : Option Addr) (c : Nat) (v : Value), tBegE T k x rf = 0 → w'.ownsRow w.heap.size 78 8 (.slice a (n + 1) c) (n + 1) (ds.flatMap row8 ++ [.int .i64 (T.bg + 1), .int .i64 (T.gn k), .int .u16 k.1, .string k.2, .bool rf, .bool rf, .bool false, v]) → w'.ownsRow w.heap.size 3 1 v (S0 (tBegR T k rf) x).who.length (ints (S0 (tBegR T k rf) x).who) → Touch [] w w' → Q (.returned (.tuple #[.agg #[.int .i64 T.fl, .int .i64 (T.bg + 1), .slice a (n + 1) c, .slice ga gn gc], .int .i64 (T.bg + 1), .int .i64 0])) w') := fun w' a c v hE q1 q0 X => by
    have eT : tBeg T k x rf = { T with bg := T.bg + 1, rs := T.rs ++ [(tBegR T k rf, S0 (tBegR T k rf) x)] } := by unfold tBeg; rw [if_pos hE]
    refine HQ.out _ _ ⟨.slice a (n + 1) c, by rw [eT]; simp [tv, tBegN, hE], ?_⟩
    exact HDg.out.add (d := ⟨tBegR T k rf, S0 (tBegR T k rf) x, v⟩) X hn q1 (own_base q0 (Nat.zero_le _)) (fun q hq => (q0.lt q hq).1) (by rw [eT]) (by rw [eT])
  have hwr : IntKind.i64.wrap (T.bg + 1) = T.bg + 1 := by
    have := HDg.out.ti.bg
    have := HDg.out.hM
    rw [IntKind.wrap_i64]; omega
  have HRs : Hid (∀ w', Touch [] w w' → Rs 78 8 w' (.slice la n lc) n (ds.flatMap row8)) := fun w' X => Rs.of_own (HG.out w' X)
  have H1 : Hid (∀ y ∈ ds.flatMap row8, y.oneCell' = true) := fun y hy => row8_one HDg.out.vs y hy
  have HLn : Hid (n ≤ 4096) := hid (by omega)
  have hsn : n ≤ 4096 := by omega
  clear HQ HDg hn hgn HG hgo
  generalize T.fl = fl at *
  generalize T.bg = bg at *
  generalize T.gn k = gk at *
  generalize posC (ofL gs) (desOf ds) k = pc at *
  unfold bxRK at hV
  unfold kv
  have HKc := hid (And.intro kT (And.intro kK kZ))
  have a0 := cell_at (j := 0) kT rfl
  have a1 := cell_at (j := 1) kT rfl
  have a2 := cell_at (j := 2) kT rfl
  have a3 := cell_at (j := 3) kT rfl
  have af := froz_at kT
  have y0 := cell_at (j := 0) kK rfl
  have y1 := cell_at (j := 1) kK rfl
  have yf := froz_at kK
  have z0 := cell_at (j := 0) kZ rfl
  have z1 := cell_at (j := 1) kZ rfl
  have z2 := cell_at (j := 2) kZ rfl
  have z3 := cell_at (j := 3) kZ rfl
  have zf := froz_at kZ
  clear kT kK kZ
  go_enter Tryz.func22, Tryz.ntmps22
  go_upto_block 0 with fail
  rw [← hV]
  clear hV
  by_cases hk : k.2.size ≤ 64
  · have zk : (k.2.size : Int) ≤ 64 := by omega
    cases rf with
    | false =>
      by_cases hb : x < 1
      · have HE := hid (fun w' => HX.out w' 1 (by rw [hEe, if_neg (by omega), if_pos (by simp [badC, hb])]) (by omega))
        clear HX HC HO HNx hEe hpc HRs H1 hk
        go_wp2
        obtain ⟨kT, kK, kZ⟩ := HKc.out
        obtain ⟨q4, tF⟩ := finZ kZ (.int .i64 fl) (.int .i64 bg) (.slice la n lc) (.slice ga gn gc)
        have q0 := cell_at (j := 0) q4 rfl
        have q1 := cell_at (j := 1) q4 rfl
        have q2 := cell_at (j := 2) q4 rfl
        have q3 := cell_at (j := 3) q4 rfl
        exact bodyPost_ret (v := .tuple #[.agg #[.int .i64 fl, .int .i64 bg, .slice la n lc, .slice ga gn gc], .int .i64 0, .int .i64 1]) (by simp [results, Tryz.results22, go_sem, q0, q1, q2, q3]) rfl (HE.out _ (HTc.out.trans tF (fun b hb => Or.inr (by simp at hb; omega))))
      · by_cases hc : 0 ≤ pc
        · have HE := hid (fun w' => HX.out w' 121 (by rw [hEe, if_neg (by omega), if_neg (by simp [badC, hb]), if_pos (by rw [← hpc]; exact hc)]) (by omega))
          clear HX HO HNx hEe hpc HRs H1 hk
          go_wp2_with (go_at_call 30; refine (HC.out _ HTc.out).mono ?_; rintro e w2 ⟨rfl, t2⟩; obtain ⟨kT, kK, kZ⟩ := HKc.out; replace kT := t2.keep kT (by first | (simp; done) | (simp; omega)); replace kK := t2.keep kK (by first | (simp; done) | (simp; omega)); replace kZ := t2.keep kZ (by first | (simp; done) | (simp; omega)); clear HKc a0 a1 a2 a3 af y0 y1 yf z0 z1 z2 z3 zf; have HKc := hid (And.intro kT (And.intro kK kZ)); have a0 := cell_at (j := 0) kT rfl; have a1 := cell_at (j := 1) kT rfl; have a2 := cell_at (j := 2) kT rfl; have a3 := cell_at (j := 3) kT rfl; have af := froz_at kT; have y0 := cell_at (j := 0) kK rfl; have y1 := cell_at (j := 1) kK rfl; have yf := froz_at kK; have z0 := cell_at (j := 0) kZ rfl; have z1 := cell_at (j := 1) kZ rfl; have z2 := cell_at (j := 2) kZ rfl; have z3 := cell_at (j := 3) kZ rfl; have zf := froz_at kZ; clear kT kK kZ; replace HTc := hid (HTc.out.trans' t2); clear t2)
          obtain ⟨kT, kK, kZ⟩ := HKc.out
          obtain ⟨q4, tF⟩ := finZ kZ (.int .i64 fl) (.int .i64 bg) (.slice la n lc) (.slice ga gn gc)
          have q0 := cell_at (j := 0) q4 rfl
          have q1 := cell_at (j := 1) q4 rfl
          have q2 := cell_at (j := 2) q4 rfl
          have q3 := cell_at (j := 3) q4 rfl
          exact bodyPost_ret (v := .tuple #[.agg #[.int .i64 fl, .int .i64 bg, .slice la n lc, .slice ga gn gc], .int .i64 0, .int .i64 121]) (by simp [results, Tryz.results22, go_sem, q0, q1, q2, q3]) rfl (HE.out _ (HTc.out.trans tF (fun b hb => Or.inr (by simp at hb; omega))))
        · by_cases hf : fl ≤ (n : Int)
          · have HE := hid (fun w' => HX.out w' 120 (by rw [hEe, if_neg (by omega), if_neg (by simp [badC, hb]), if_neg (by rw [← hpc]; exact hc), if_pos hf]) (by omega))
            clear HX HO HNx hEe hpc HRs H1 hk
            go_wp2_with (go_at_call 30; refine (HC.out _ HTc.out).mono ?_; rintro e w2 ⟨rfl, t2⟩; obtain ⟨kT, kK, kZ⟩ := HKc.out; replace kT := t2.keep kT (by first | (simp; done) | (simp; omega)); replace kK := t2.keep kK (by first | (simp; done) | (simp; omega)); replace kZ := t2.keep kZ (by first | (simp; done) | (simp; omega)); clear HKc a0 a1 a2 a3 af y0 y1 yf z0 z1 z2 z3 zf; have HKc := hid (And.intro kT (And.intro kK kZ)); have a0 := cell_at (j := 0) kT rfl; have a1 := cell_at (j := 1) kT rfl; have a2 := cell_at (j := 2) kT rfl; have a3 := cell_at (j := 3) kT rfl; have af := froz_at kT; have y0 := cell_at (j := 0) kK rfl; have y1 := cell_at (j := 1) kK rfl; have yf := froz_at kK; have z0 := cell_at (j := 0) kZ rfl; have z1 := cell_at (j := 1) kZ rfl; have z2 := cell_at (j := 2) kZ rfl; have z3 := cell_at (j := 3) kZ rfl; have zf := froz_at kZ; clear kT kK kZ; replace HTc := hid (HTc.out.trans' t2); clear t2)
            obtain ⟨kT, kK, kZ⟩ := HKc.out
            obtain ⟨q4, tF⟩ := finZ kZ (.int .i64 fl) (.int .i64 bg) (.slice la n lc) (.slice ga gn gc)
            have q0 := cell_at (j := 0) q4 rfl
            have q1 := cell_at (j := 1) q4 rfl
            have q2 := cell_at (j := 2) q4 rfl
            have q3 := cell_at (j := 3) q4 rfl
            exact bodyPost_ret (v := .tuple #[.agg #[.int .i64 fl, .int .i64 bg, .slice la n lc, .slice ga gn gc], .int .i64 0, .int .i64 120]) (by simp [results, Tryz.results22, go_sem, q0, q1, q2, q3]) rfl (HE.out _ (HTc.out.trans tF (fun b hb => Or.inr (by simp at hb; omega))))
          · have HE := hid (fun w' a c v => HNx.out w' a c v (by rw [hEe, if_neg (by omega), if_neg (by simp [badC, hb]), if_neg (by rw [← hpc]; exact hc), if_neg hf]))
            clear HX HNx hEe hpc hk
            go_upto_region 9 with (go_at_call 30; refine (HC.out _ HTc.out).mono ?_; rintro e w2 ⟨rfl, t2⟩; obtain ⟨kT, kK, kZ⟩ := HKc.out; replace kT := t2.keep kT (by first | (simp; done) | (simp; omega)); replace kK := t2.keep kK (by first | (simp; done) | (simp; omega)); replace kZ := t2.keep kZ (by first | (simp; done) | (simp; omega)); clear HKc a0 a1 a2 a3 af y0 y1 yf z0 z1 z2 z3 zf; have HKc := hid (And.intro kT (And.intro kK kZ)); have a0 := cell_at (j := 0) kT rfl; have a1 := cell_at (j := 1) kT rfl; have a2 := cell_at (j := 2) kT rfl; have a3 := cell_at (j := 3) kT rfl; have af := froz_at kT; have y0 := cell_at (j := 0) kK rfl; have y1 := cell_at (j := 1) kK rfl; have yf := froz_at kK; have z0 := cell_at (j := 0) kZ rfl; have z1 := cell_at (j := 1) kZ rfl; have z2 := cell_at (j := 2) kZ rfl; have z3 := cell_at (j := 3) kZ rfl; have zf := froz_at kZ; clear kT kK kZ; replace HTc := hid (HTc.out.trans' t2); clear t2)
            clear HC
            go_upto_region 10 with fail
            obtain ⟨kT, kK, kZ⟩ := HKc.out
            obtain ⟨W3, hW3⟩ : ∃ W, W = (w2.setCell ⟨w.heap.size, 1, none⟩ (.int .i64 (bg + 1))) := ⟨_, rfl⟩
            obtain ⟨kq, tq⟩ := set1 kT 1 (.int .i64 (bg + 1))
            rw [← hW3] at kq tq ⊢
            clear hW3
            replace kT := kq
            replace kK := tq.keep kK (by first | (simp; done) | (simp; omega))
            replace kZ := tq.keep kZ (by first | (simp; done) | (simp; omega))
            clear kq
            clear HKc a0 a1 a2 a3 af y0 y1 yf z0 z1 z2 z3 zf
            have HKc := hid (And.intro kT (And.intro kK kZ))
            have a0 := cell_at (j := 0) kT rfl
            have a1 := cell_at (j := 1) kT rfl
            have a2 := cell_at (j := 2) kT rfl
            have a3 := cell_at (j := 3) kT rfl
            have af := froz_at kT
            have y0 := cell_at (j := 0) kK rfl
            have y1 := cell_at (j := 1) kK rfl
            have yf := froz_at kK
            have z0 := cell_at (j := 0) kZ rfl
            have z1 := cell_at (j := 1) kZ rfl
            have z2 := cell_at (j := 2) kZ rfl
            have z3 := cell_at (j := 3) kZ rfl
            have zf := froz_at kZ
            clear kT kK kZ
            replace HTc := hid (HTc.out.trans tq (fun b hb => Or.inr (by simp at hb; omega)))
            clear tq
            clear hwr
            go_cut [11] from 51 to 59 (fun s11 wx => ∃ eb : Nat, s11 = .pointer (some ⟨eb, 0, none⟩) ∧ w.heap.size + 3 ≤ eb ∧ Hid (wx.heap[w.heap.size]? = some (.cells #[.int .i64 fl, .int .i64 (bg + 1), .slice la n lc, .slice ga gn gc] 31 (0, 0)) ∧ wx.heap[w.heap.size + 1]? = some (.cells #[.int .u16 k.1, .string k.2] 68 (0, 0)) ∧ wx.heap[w.heap.size + 1 + 1]? = some (.cells #[.int .i64 0, .int .i64 0, .slice none 0 0, .slice none 0 0] 31 (0, 0)) ∧ wx.heap[eb]? = some (.cells #[.int .i64 (bg + 1), .int .i64 gk, .int .u16 k.1, .string k.2, .bool false, .bool false, .bool false, .slice none 0 0] 78 (0, 0))) ∧ Hid (Touch [] w wx))
            case first =>
              have U0 : ∀ w', Touch [] W3 w' → w'.cell? ⟨w.heap.size, 0, none⟩ = some (.int .i64 fl) := fun w' X => cell_at (X.keep HKc.out.1 (by simp)) rfl
              have U1 : ∀ w', Touch [] W3 w' → w'.cell? ⟨w.heap.size, 1, none⟩ = some (.int .i64 (bg + 1)) := fun w' X => cell_at (X.keep HKc.out.1 (by simp)) rfl
              have U2 : ∀ w', Touch [] W3 w' → w'.cell? ⟨w.heap.size, 2, none⟩ = some (.slice la n lc) := fun w' X => cell_at (X.keep HKc.out.1 (by simp)) rfl
              have U3 : ∀ w', Touch [] W3 w' → w'.cell? ⟨w.heap.size, 3, none⟩ = some (.slice ga gn gc) := fun w' X => cell_at (X.keep HKc.out.1 (by simp)) rfl
              have E0 : ∀ w', Touch [] W3 w' → w'.cell? ⟨w.heap.size + 1, 0, none⟩ = some (.int .u16 k.1) := fun w' X => cell_at (X.keep HKc.out.2.1 (by simp)) rfl
              have E1 : ∀ w', Touch [] W3 w' → w'.cell? ⟨w.heap.size + 1, 1, none⟩ = some (.string k.2) := fun w' X => cell_at (X.keep HKc.out.2.1 (by simp)) rfl
              have k0 : Touch [] W3 W3.drew := (Touch.refl _ _).drew
              have zW : w.heap.size + 3 ≤ W3.heap.size := by have := block_lt HKc.out.2.2; omega
              have HO2 : Hid (∀ w', Touch [] W3 w' → _) := fun w' X => HO.out w' (bg + 1) (HTc.out.trans' X)
              clear a0 a1 a2 a3 af y0 y1 yf z0 z1 z2 z3 zf
              refine wp_region_H (S := fun w' => Touch [] W3 w') (by kernel_rfl) ?_
              refine wpH_take (i := 0) (v := (.pointer (some ⟨w.heap.size, 1, none⟩))) (some 51) rfl rfl (by kernel_rfl) (by kernel_rfl) (by kernel_rfl) (fun _ _ _ h => h) (Or.inl ⟨by rfl, fun w' hS => (by go_simp)⟩) k0 ?_
              try simp only [Go.Act.put, List.setIfInBounds_toArray, List.set_cons_zero, List.set_cons_succ]
              refine wpH_take (i := 1) (v := (.int .i64 (bg + 1))) (some 52) rfl rfl (by kernel_rfl) (by kernel_rfl) (by kernel_rfl) (fun _ _ _ h => h) (Or.inl ⟨by rfl, fun w' hS => (by have z0 := U1 _ hS; go_simp)⟩) k0 ?_
              try simp only [Go.Act.put, List.setIfInBounds_toArray, List.set_cons_zero, List.set_cons_succ]
              refine wpH_take (i := 2) (v := (.agg #[.int .i64 fl, .int .i64 (bg + 1), .slice la n lc, .slice ga gn gc])) (some 53) rfl rfl (by kernel_rfl) (by kernel_rfl) (by kernel_rfl) (fun _ _ _ h => h) (Or.inl ⟨by rfl, fun w' hS => (by have z0 := U0 _ hS; have z1 := U1 _ hS; have z2 := U2 _ hS; have z3 := U3 _ hS; go_simp)⟩) k0 ?_
              try simp only [Go.Act.put, List.setIfInBounds_toArray, List.set_cons_zero, List.set_cons_succ]
              refine wpH_take (i := 3) (v := (.agg #[.int .u16 k.1, .string k.2])) (some 54) rfl rfl (by kernel_rfl) (by kernel_rfl) (by kernel_rfl) (fun _ _ _ h => h) (Or.inl ⟨by rfl, fun w' hS => (by have z0 := E0 _ hS; have z1 := E1 _ hS; go_simp)⟩) k0 ?_
              try simp only [Go.Act.put, List.setIfInBounds_toArray, List.set_cons_zero, List.set_cons_succ]
              refine wpH_take (i := 5) (v := (.agg #[.int .u16 k.1, .string k.2])) (some 56) rfl rfl (by kernel_rfl) (by kernel_rfl) (by kernel_rfl) (fun _ _ _ h => h) (Or.inl ⟨by rfl, fun w' hS => (by have z0 := E0 _ hS; have z1 := E1 _ hS; go_simp)⟩) k0 ?_
              try simp only [Go.Act.put, List.setIfInBounds_toArray, List.set_cons_zero, List.set_cons_succ]
              refine wpH_take (i := 6) (v := (.bool false)) (some 57) rfl rfl (by kernel_rfl) (by kernel_rfl) (by kernel_rfl) (fun _ _ _ h => h) (Or.inl ⟨by rfl, fun w' hS => (by go_simp)⟩) k0 ?_
              try simp only [Go.Act.put, List.setIfInBounds_toArray, List.set_cons_zero, List.set_cons_succ]
              refine wpH_take (i := 7) (v := (.bool false)) (some 58) rfl rfl (by kernel_rfl) (by kernel_rfl) (by kernel_rfl) (fun _ _ _ h => h) (Or.inl ⟨by rfl, fun w' hS => (by go_simp)⟩) k0 ?_
              try simp only [Go.Act.put, List.setIfInBounds_toArray, List.set_cons_zero, List.set_cons_succ]
              refine wpH_ready (rs := [4, 9]) (by kernel_rfl) (by simp) ?_
              refine AllH.cons (o := { dst := some 55, op := Op.call { callee := Callee.value (Operand.func 32), args := #[Operand.tmp 53, Operand.tmp 54], argTypes := #[31, 68] }, type := 3, pos := _, after := #[{ on := 2, ground := Ground.data }, { on := 3, ground := Ground.data }], guard := none }) rfl (fun K' hK => ?_) ?_
              · rw [if_pos (by rfl)]
                go_simp
                refine (HO2.out _ k0).mono ?_
                rintro e' w4 ⟨rfl, t4⟩
                have kO : Touch [] W3 w4 := k0.trans' t4
                refine hK.out _ _ kO ?_
                clear hK
                try simp only [Go.Act.put, List.setIfInBounds_toArray, List.set_cons_zero, List.set_cons_succ]
                refine wpH_take (i := 8) (v := (.agg #[.int .i64 (bg + 1), .int .i64 gk, .int .u16 k.1, .string k.2, .bool false, .bool false, .bool false, .slice none 0 0])) (some 59) rfl rfl (by kernel_rfl) (by kernel_rfl) (by kernel_rfl) (fun _ _ _ h => h) (Or.inl ⟨by rfl, fun w' hS => (by go_simp)⟩) kO ?_
                try simp only [Go.Act.put, List.setIfInBounds_toArray, List.set_cons_zero, List.set_cons_succ]
                refine wpH_call (i := 9) (o := { dst := some 11, op := Op.alloc 78, type := 0, pos := _, after := #[], guard := none }) (by kernel_rfl) rfl (fun K' hK => ?_)
                rw [if_pos (by rfl)]
                go_simp
                have kA : Touch [] W3 (w4.alloc (.cells #[.int .i64 0, .int .i64 0, .int .u16 0, .string ⟨#[]⟩, .bool false, .bool false, .bool false, .slice none 0 0] 78)) := kO.alloc _
                have kE : (w4.alloc (.cells #[.int .i64 0, .int .i64 0, .int .u16 0, .string ⟨#[]⟩, .bool false, .bool false, .bool false, .slice none 0 0] 78)).heap[w4.heap.size]? = some (.cells #[.int .i64 0, .int .i64 0, .int .u16 0, .string ⟨#[]⟩, .bool false, .bool false, .bool false, .slice none 0 0] 78 (0, 0)) := heap_alloc_new w4 _
                have zE : W3.heap.size ≤ w4.heap.size := kO.size
                refine hK.out _ _ kA ?_
                clear hK
                try simp only [Go.Act.put, List.setIfInBounds_toArray, List.set_cons_zero, List.set_cons_succ]
                refine wpH_call (i := 10) (o := { dst := none, op := Op.store 78 (Operand.tmp 11) (Operand.tmp 59), type := 0, pos := _, after := #[{ on := 9, ground := Ground.data }, { on := 8, ground := Ground.data }, { on := 4, ground := Ground.chain }, { on := 0, ground := Ground.phase }, { on := 1, ground := Ground.phase }, { on := 2, ground := Ground.phase }, { on := 3, ground := Ground.phase }, { on := 4, ground := Ground.phase }, { on := 5, ground := Ground.phase }, { on := 6, ground := Ground.phase }, { on := 7, ground := Ground.phase }, { on := 8, ground := Ground.phase }, { on := 9, ground := Ground.phase }], guard := none }) (by kernel_rfl) rfl (fun K' hK => ?_)
                rw [if_pos (by rfl)]
                have e0 := cell_at (j := 0) kE rfl
                have e1 := cell_at (j := 1) kE rfl
                have e2 := cell_at (j := 2) kE rfl
                have e3 := cell_at (j := 3) kE rfl
                have e4 := cell_at (j := 4) kE rfl
                have e5 := cell_at (j := 5) kE rfl
                have e6 := cell_at (j := 6) kE rfl
                have e7 := cell_at (j := 7) kE rfl
                have ef := froz_at kE
                go_simp
                have kS : Touch [] W3 (w4.alloc (.cells #[.int .i64 (bg + 1), .int .i64 gk, .int .u16 k.1, .string k.2, .bool false, .bool false, .bool false, .slice none 0 0] 78)) := kO.alloc _
                have q8 : (w4.alloc (.cells #[.int .i64 (bg + 1), .int .i64 gk, .int .u16 k.1, .string k.2, .bool false, .bool false, .bool false, .slice none 0 0] 78)).heap[w4.heap.size]? = some (.cells #[.int .i64 (bg + 1), .int .i64 gk, .int .u16 k.1, .string k.2, .bool false, .bool false, .bool false, .slice none 0 0] 78 (0, 0)) := heap_alloc_new w4 _
                refine hK.out _ _ kS ?_
                clear hK
                try simp only [Go.Act.put, List.setIfInBounds_toArray, List.set_cons_zero, List.set_cons_succ]
                refine wpAnyH_done (by kernel_rfl) ?_ _
                clear e0 e1 e2 e3 e4 e5 e6 e7 ef U0 U1 U2 U3 E0 E1
                go_wp2_with fail
                go_meet
                case rel => exact ⟨_, rfl, by omega, ⟨kS.keep HKc.out.1 (by simp), kS.keep HKc.out.2.1 (by simp), kS.keep HKc.out.2.2 (by simp), q8⟩, HTc.out.trans' kS⟩
              refine AllH.cons (o := { dst := some 11, op := Op.alloc 78, type := 0, pos := _, after := #[], guard := none }) rfl (fun K' hK => ?_) ?_
              · rw [if_pos (by rfl)]
                go_simp
                have kA : Touch [] W3 (W3.drew.alloc (.cells #[.int .i64 0, .int .i64 0, .int .u16 0, .string ⟨#[]⟩, .bool false, .bool false, .bool false, .slice none 0 0] 78)) := k0.alloc _
                have kE : (W3.drew.alloc (.cells #[.int .i64 0, .int .i64 0, .int .u16 0, .string ⟨#[]⟩, .bool false, .bool false, .bool false, .slice none 0 0] 78)).heap[W3.heap.size]? = some (.cells #[.int .i64 0, .int .i64 0, .int .u16 0, .string ⟨#[]⟩, .bool false, .bool false, .bool false, .slice none 0 0] 78 (0, 0)) := heap_alloc_new W3.drew _
                have zE : W3.heap.size ≤ W3.heap.size := k0.size
                refine hK.out _ _ kA ?_
                clear hK
                try simp only [Go.Act.put, List.setIfInBounds_toArray, List.set_cons_zero, List.set_cons_succ]
                refine wpH_call (i := 4) (o := { dst := some 55, op := Op.call { callee := Callee.value (Operand.func 32), args := #[Operand.tmp 53, Operand.tmp 54], argTypes := #[31, 68] }, type := 3, pos := _, after := #[{ on := 2, ground := Ground.data }, { on := 3, ground := Ground.data }], guard := none }) (by kernel_rfl) rfl (fun K' hK => ?_)
                rw [if_pos (by rfl)]
                go_simp
                refine (HO2.out _ kA).mono ?_
                rintro e' w4 ⟨rfl, t4⟩
                have kO : Touch [] W3 w4 := kA.trans' t4
                replace kE := t4.keep kE (by simp)
                refine hK.out _ _ kO ?_
                clear hK
                try simp only [Go.Act.put, List.setIfInBounds_toArray, List.set_cons_zero, List.set_cons_succ]
                refine wpH_take (i := 8) (v := (.agg #[.int .i64 (bg + 1), .int .i64 gk, .int .u16 k.1, .string k.2, .bool false, .bool false, .bool false, .slice none 0 0])) (some 59) rfl rfl (by kernel_rfl) (by kernel_rfl) (by kernel_rfl) (fun _ _ _ h => h) (Or.inl ⟨by rfl, fun w' hS => (by go_simp)⟩) kO ?_
                try simp only [Go.Act.put, List.setIfInBounds_toArray, List.set_cons_zero, List.set_cons_succ]
                refine wpH_call (i := 10) (o := { dst := none, op := Op.store 78 (Operand.tmp 11) (Operand.tmp 59), type := 0, pos := _, after := #[{ on := 9, ground := Ground.data }, { on := 8, ground := Ground.data }, { on := 4, ground := Ground.chain }, { on := 0, ground := Ground.phase }, { on := 1, ground := Ground.phase }, { on := 2, ground := Ground.phase }, { on := 3, ground := Ground.phase }, { on := 4, ground := Ground.phase }, { on := 5, ground := Ground.phase }, { on := 6, ground := Ground.phase }, { on := 7, ground := Ground.phase }, { on := 8, ground := Ground.phase }, { on := 9, ground := Ground.phase }], guard := none }) (by kernel_rfl) rfl (fun K' hK => ?_)
                rw [if_pos (by rfl)]
                have e0 := cell_at (j := 0) kE rfl
                have e1 := cell_at (j := 1) kE rfl
                have e2 := cell_at (j := 2) kE rfl
                have e3 := cell_at (j := 3) kE rfl
                have e4 := cell_at (j := 4) kE rfl
                have e5 := cell_at (j := 5) kE rfl
                have e6 := cell_at (j := 6) kE rfl
                have e7 := cell_at (j := 7) kE rfl
                have ef := froz_at kE
                go_simp
                obtain ⟨q8, tF⟩ := fin8 kE (.int .i64 (bg + 1)) (.int .i64 gk) (.int .u16 k.1) (.string k.2) (.bool false) (.bool false) (.bool false) (.slice none 0 0)
                have kS := kO.trans tF (fun b hb => Or.inr (by simp at hb; omega))
                refine hK.out _ _ kS ?_
                clear hK
                try simp only [Go.Act.put, List.setIfInBounds_toArray, List.set_cons_zero, List.set_cons_succ]
                refine wpAnyH_done (by kernel_rfl) ?_ _
                clear e0 e1 e2 e3 e4 e5 e6 e7 ef U0 U1 U2 U3 E0 E1
                go_wp2_with fail
                go_meet
                case rel => exact ⟨_, rfl, by omega, ⟨kS.keep HKc.out.1 (by simp), kS.keep HKc.out.2.1 (by simp), kS.keep HKc.out.2.2 (by simp), q8⟩, HTc.out.trans' kS⟩
              exact AllH.nil
            case rest =>
              obtain ⟨eb, rfl, zeb, HKn, HTn⟩ := hcut
              clear HKc HTc a0 a1 a2 a3 af y0 y1 yf z0 z1 z2 z3 zf
              have HTc := HTn
              clear HTn HO
              obtain ⟨kT, kK, kZ, kE⟩ := HKn.out
              clear HKn
              have HKc := hid (And.intro kT (And.intro kK (And.intro kZ kE)))
              have a0 := cell_at (j := 0) kT rfl
              have a1 := cell_at (j := 1) kT rfl
              have a2 := cell_at (j := 2) kT rfl
              have a3 := cell_at (j := 3) kT rfl
              have af := froz_at kT
              have y0 := cell_at (j := 0) kK rfl
              have y1 := cell_at (j := 1) kK rfl
              have yf := froz_at kK
              have z0 := cell_at (j := 0) kZ rfl
              have z1 := cell_at (j := 1) kZ rfl
              have z2 := cell_at (j := 2) kZ rfl
              have z3 := cell_at (j := 3) kZ rfl
              have zf := froz_at kZ
              have x0 := cell_at (j := 0) kE rfl
              have x1 := cell_at (j := 1) kE rfl
              have x2 := cell_at (j := 2) kE rfl
              have x3 := cell_at (j := 3) kE rfl
              have x4 := cell_at (j := 4) kE rfl
              have x5 := cell_at (j := 5) kE rfl
              have x6 := cell_at (j := 6) kE rfl
              have x7 := cell_at (j := 7) kE rfl
              have xf := froz_at kE
              clear kT kK kZ kE
              have ta : Touch [] wc (wc.alloc (.cells #[.int .i64 x] 3)) := (Touch.refl _ _).alloc _
              have kEa := ta.keep HKc.out.2.2.2 (by simp)
              have xa7 := cell_at (j := 7) kEa rfl
              have xaf := froz_at kEa
              have O7 : Hid ((wc.alloc (.cells #[.int .i64 x] 3)).ownsRow (eb + 1) 3 1 (.slice (some ⟨wc.heap.size, 0, none⟩) 1 1) 1 [.int .i64 x]) := own_new wc (eb + 1) #[.int .i64 x] 3 1 rfl (by have := block_lt HKc.out.2.2.2; omega)
              clear kEa
              go_upto_region 13 with fail
              clear xa7 xaf
              obtain ⟨kT, kK, kZ, kE⟩ := HKc.out
              replace kT := ta.keep kT (by first | (simp; done) | (simp; omega))
              replace kK := ta.keep kK (by first | (simp; done) | (simp; omega))
              replace kZ := ta.keep kZ (by first | (simp; done) | (simp; omega))
              replace kE := ta.keep kE (by first | (simp; done) | (simp; omega))
              clear HKc a0 a1 a2 a3 af y0 y1 yf z0 z1 z2 z3 zf x0 x1 x2 x3 x4 x5 x6 x7 xf
              have HKc := hid (And.intro kT (And.intro kK (And.intro kZ kE)))
              have a0 := cell_at (j := 0) kT rfl
              have a1 := cell_at (j := 1) kT rfl
              have a2 := cell_at (j := 2) kT rfl
              have a3 := cell_at (j := 3) kT rfl
              have af := froz_at kT
              have y0 := cell_at (j := 0) kK rfl
              have y1 := cell_at (j := 1) kK rfl
              have yf := froz_at kK
              have z0 := cell_at (j := 0) kZ rfl
              have z1 := cell_at (j := 1) kZ rfl
              have z2 := cell_at (j := 2) kZ rfl
              have z3 := cell_at (j := 3) kZ rfl
              have zf := froz_at kZ
              have x0 := cell_at (j := 0) kE rfl
              have x1 := cell_at (j := 1) kE rfl
              have x2 := cell_at (j := 2) kE rfl
              have x3 := cell_at (j := 3) kE rfl
              have x4 := cell_at (j := 4) kE rfl
              have x5 := cell_at (j := 5) kE rfl
              have x6 := cell_at (j := 6) kE rfl
              have x7 := cell_at (j := 7) kE rfl
              have xf := froz_at kE
              clear kT kK kZ kE
              replace HTc := hid (HTc.out.trans' ta)
              clear ta
              obtain ⟨kT, kK, kZ, kE⟩ := HKc.out
              obtain ⟨W6, hW6⟩ : ∃ W, W = ((wc.alloc (.cells #[.int .i64 x] 3)).setCell ⟨eb, 7, none⟩ (.slice (some ⟨wc.heap.size, 0, none⟩) 1 1)) := ⟨_, rfl⟩
              obtain ⟨kq, tq⟩ := set1 kE 7 (.slice (some ⟨wc.heap.size, 0, none⟩) 1 1)
              rw [← hW6] at kq tq ⊢
              clear hW6
              replace kT := tq.keep kT (by first | (simp; done) | (simp; omega))
              replace kK := tq.keep kK (by first | (simp; done) | (simp; omega))
              replace kZ := tq.keep kZ (by first | (simp; done) | (simp; omega))
              replace kE := kq
              clear kq
              clear HKc a0 a1 a2 a3 af y0 y1 yf z0 z1 z2 z3 zf x0 x1 x2 x3 x4 x5 x6 x7 xf
              have HKc := hid (And.intro kT (And.intro kK (And.intro kZ kE)))
              have a0 := cell_at (j := 0) kT rfl
              have a1 := cell_at (j := 1) kT rfl
              have a2 := cell_at (j := 2) kT rfl
              have a3 := cell_at (j := 3) kT rfl
              have af := froz_at kT
              have y0 := cell_at (j := 0) kK rfl
              have y1 := cell_at (j := 1) kK rfl
              have yf := froz_at kK
              have z0 := cell_at (j := 0) kZ rfl
              have z1 := cell_at (j := 1) kZ rfl
              have z2 := cell_at (j := 2) kZ rfl
              have z3 := cell_at (j := 3) kZ rfl
              have zf := froz_at kZ
              have x0 := cell_at (j := 0) kE rfl
              have x1 := cell_at (j := 1) kE rfl
              have x2 := cell_at (j := 2) kE rfl
              have x3 := cell_at (j := 3) kE rfl
              have x4 := cell_at (j := 4) kE rfl
              have x5 := cell_at (j := 5) kE rfl
              have x6 := cell_at (j := 6) kE rfl
              have x7 := cell_at (j := 7) kE rfl
              have xf := froz_at kE
              clear kT kK kZ kE
              replace HTc := hid (HTc.out.trans tq (fun b hb => Or.inr (by simp at hb; omega)))
              replace O7 := hid (own_base (B' := w.heap.size + 3) (own_touch O7.out tq (fun b hb e => by have := (O7.out.lt b hb).1; simp at e; omega)) (by omega))
              clear tq
              have U0 : ∀ w', Touch [] W6 w' → w'.cell? ⟨w.heap.size, 0, none⟩ = some (.int .i64 fl) := fun w' X => cell_at (X.keep HKc.out.1 (by simp)) rfl
              have U1 : ∀ w', Touch [] W6 w' → w'.cell? ⟨w.heap.size, 1, none⟩ = some (.int .i64 (bg + 1)) := fun w' X => cell_at (X.keep HKc.out.1 (by simp)) rfl
              have U2 : ∀ w', Touch [] W6 w' → w'.cell? ⟨w.heap.size, 2, none⟩ = some (.slice la n lc) := fun w' X => cell_at (X.keep HKc.out.1 (by simp)) rfl
              have U3 : ∀ w', Touch [] W6 w' → w'.cell? ⟨w.heap.size, 3, none⟩ = some (.slice ga gn gc) := fun w' X => cell_at (X.keep HKc.out.1 (by simp)) rfl
              have X0 : ∀ w', Touch [] W6 w' → w'.cell? ⟨eb, 0, none⟩ = some (.int .i64 (bg + 1)) := fun w' X => cell_at (X.keep HKc.out.2.2.2 (by simp)) rfl
              have X1 : ∀ w', Touch [] W6 w' → w'.cell? ⟨eb, 1, none⟩ = some (.int .i64 gk) := fun w' X => cell_at (X.keep HKc.out.2.2.2 (by simp)) rfl
              have X2 : ∀ w', Touch [] W6 w' → w'.cell? ⟨eb, 2, none⟩ = some (.int .u16 k.1) := fun w' X => cell_at (X.keep HKc.out.2.2.2 (by simp)) rfl
              have X3 : ∀ w', Touch [] W6 w' → w'.cell? ⟨eb, 3, none⟩ = some (.string k.2) := fun w' X => cell_at (X.keep HKc.out.2.2.2 (by simp)) rfl
              have X4 : ∀ w', Touch [] W6 w' → w'.cell? ⟨eb, 4, none⟩ = some (.bool false) := fun w' X => cell_at (X.keep HKc.out.2.2.2 (by simp)) rfl
              have X5 : ∀ w', Touch [] W6 w' → w'.cell? ⟨eb, 5, none⟩ = some (.bool false) := fun w' X => cell_at (X.keep HKc.out.2.2.2 (by simp)) rfl
              have X6 : ∀ w', Touch [] W6 w' → w'.cell? ⟨eb, 6, none⟩ = some (.bool false) := fun w' X => cell_at (X.keep HKc.out.2.2.2 (by simp)) rfl
              have X7 : ∀ w', Touch [] W6 w' → w'.cell? ⟨eb, 7, none⟩ = some (.slice (some ⟨wc.heap.size, 0, none⟩) 1 1) := fun w' X => cell_at (X.keep HKc.out.2.2.2 (by simp)) rfl
              have k0 : Touch [] W6 W6.drew := (Touch.refl _ _).drew
              have zW : w.heap.size + 3 ≤ W6.heap.size := by have := block_lt HKc.out.2.2.1; omega
              clear a0 a1 a2 a3 af y0 y1 yf z0 z1 z2 z3 zf x0 x1 x2 x3 x4 x5 x6 x7 xf
              refine wp_region_L (S := fun w' => Touch [] W6 w') (st := 8) (by kernel_rfl) ?_
              refine wpL_take (i := 1) (v := (.pointer (some ⟨w.heap.size, 2, none⟩))) (some 66) rfl rfl (by kernel_rfl) (by kernel_rfl) (by kernel_rfl) (by kernel_rfl) (by kernel_rfl) (by decide) (fun _ _ _ h => h) (Or.inl ⟨by rfl, fun w' hS => (by go_simp)⟩) k0 ?_
              try simp only [Go.Act.put, List.setIfInBounds_toArray, List.set_cons_zero, List.set_cons_succ]
              refine wpL_take (i := 2) (v := (.slice la n lc)) (some 67) rfl rfl (by kernel_rfl) (by kernel_rfl) (by kernel_rfl) (by kernel_rfl) (by kernel_rfl) (by decide) (fun _ _ _ h => h) (Or.inl ⟨by rfl, fun w' hS => (by have z0 := U2 _ hS; go_simp)⟩) k0 ?_
              try simp only [Go.Act.put, List.setIfInBounds_toArray, List.set_cons_zero, List.set_cons_succ]
              refine wpL_take (i := 4) (v := (.agg #[.int .i64 (bg + 1), .int .i64 gk, .int .u16 k.1, .string k.2, .bool false, .bool false, .bool false, .slice (some ⟨wc.heap.size, 0, none⟩) 1 1])) (some 69) rfl rfl (by kernel_rfl) (by kernel_rfl) (by kernel_rfl) (by kernel_rfl) (by kernel_rfl) (by decide) (fun _ _ _ h => h) (Or.inl ⟨by rfl, fun w' hS => (by have z0 := X0 _ hS; have z1 := X1 _ hS; have z2 := X2 _ hS; have z3 := X3 _ hS; have z4 := X4 _ hS; have z5 := X5 _ hS; have z6 := X6 _ hS; have z7 := X7 _ hS; go_simp)⟩) k0 ?_
              try simp only [Go.Act.put, List.setIfInBounds_toArray, List.set_cons_zero, List.set_cons_succ]
              refine wpL_ready (rs := [0, 5]) (by kernel_rfl) (by simp) ?_
              refine AllL.cons (o := { dst := some 65, op := Op.buildSlice 28 0 #[], type := 28, pos := _, after := #[], guard := none }) rfl (fun K' hK => ?_) ?_
              · rw [if_pos (by rfl)]
                go_simp
                have kM := k0.alloc (.cells #[] 78)
                have HM : Hid ((W6.drew.alloc (.cells #[] 78)).ownsRow (W6.heap.size) 78 8 (.slice (some ⟨W6.heap.size, 0, none⟩) 0 0) 0 []) := hid (by have q := World.ownsRow_made (e := 78) (size := 8) W6.drew #[] 0 (Nat.le_refl _) (by unfold maxLen; omega) rfl; (try rw [World.size_alloc] at q); exact q)
                have zM : W6.heap.size ≤ W6.heap.size := (by have q := k0.size; (try rw [World.size_alloc] at q); exact q)
                refine hK.out _ _ (fun _ => kM) ?_
                clear hK
                try simp only [Go.Act.put, List.setIfInBounds_toArray, List.set_cons_zero, List.set_cons_succ]
                refine wpL_ready (rs := [3, 5]) (by kernel_rfl) (by simp) ?_
                refine AllL.cons (o := { dst := some 68, op := Op.call { callee := Callee.builtin Builtin.append, args := #[Operand.tmp 65, Operand.tmp 67], argTypes := #[28, 28] }, type := 28, pos := _, after := #[{ on := 0, ground := Ground.data }, { on := 2, ground := Ground.data }], guard := none }) rfl (fun K' hK => ?_) ?_
                · refine step_append_rs _ (some 68) rfl (by rfl) _ _ 28 78 (by rfl) _ 8 72 infoR Tryz.underlying28 rfl (by decide) (W6.heap.size) _ 0 [] (by rfl) HM.out _ n (ds.flatMap row8) (by rfl) (HRs.out _ (HTc.out.trans' kM)) H1.out (by have := HLn.out; unfold maxLen; omega) (by have := HLn.out; omega) (by simp <;> omega) ?_
                  intro v5 w5 o5 g5
                  rw [Nat.zero_add, List.nil_append] at o5
                  have kP : Touch [] W6 w5 := touch_grown kM g5 HM.out zM
                  have zP : W6.heap.size ≤ w5.heap.size := Nat.le_trans (by simp <;> omega) g5.size
                  obtain ⟨a5, c5, e5⟩ := own_form o5
                  subst e5
                  have O5 := hid o5
                  clear o5 g5
                  refine hK.out _ _ (fun _ => kP) ?_
                  clear hK
                  try simp only [Go.Act.put, List.setIfInBounds_toArray, List.set_cons_zero, List.set_cons_succ]
                  refine wpL_ready (rs := [5]) (by kernel_rfl) (by simp) (AllL.cons (o := { dst := some 70, op := Op.buildSlice 28 1 #[(0, Operand.tmp 69)], type := 28, pos := _, after := #[{ on := 4, ground := Ground.data }], guard := none }) rfl (fun K' hK => ?_) AllL.nil)
                  rw [if_pos (by rfl)]
                  go_simp
                  have kN := kP.alloc (.cells #[.int .i64 (bg + 1), .int .i64 gk, .int .u16 k.1, .string k.2, .bool false, .bool false, .bool false, .slice (some ⟨wc.heap.size, 0, none⟩) 1 1] 78)
                  have HN1 : Hid (Rs 78 8 (w5.alloc (.cells #[.int .i64 (bg + 1), .int .i64 gk, .int .u16 k.1, .string k.2, .bool false, .bool false, .bool false, .slice (some ⟨wc.heap.size, 0, none⟩) 1 1] 78)) (.slice (some ⟨w5.heap.size, 0, none⟩) 1 1) 1 [.int .i64 (bg + 1), .int .i64 gk, .int .u16 k.1, .string k.2, .bool false, .bool false, .bool false, .slice (some ⟨wc.heap.size, 0, none⟩) 1 1]) := hid (by have q := Rs.new w5 #[.int .i64 (bg + 1), .int .i64 gk, .int .u16 k.1, .string k.2, .bool false, .bool false, .bool false, .slice (some ⟨wc.heap.size, 0, none⟩) 1 1] 78 8 rfl; (try rw [World.size_alloc] at q); exact q)
                  replace O5 := hid (own_touch O5.out ((Touch.refl [] _).alloc (.cells #[.int .i64 (bg + 1), .int .i64 gk, .int .u16 k.1, .string k.2, .bool false, .bool false, .bool false, .slice (some ⟨wc.heap.size, 0, none⟩) 1 1] 78)) (fun _ _ e => by cases e))
                  refine hK.out _ _ (fun _ => kN) ?_
                  clear hK
                  try simp only [Go.Act.put, List.setIfInBounds_toArray, List.set_cons_zero, List.set_cons_succ]
                  refine wpL_ready (rs := [6]) (by kernel_rfl) (by simp) (AllL.cons (o := { dst := some 71, op := Op.call { callee := Callee.builtin Builtin.append, args := #[Operand.tmp 68, Operand.tmp 70], argTypes := #[28, 28] }, type := 28, pos := _, after := #[{ on := 3, ground := Ground.data }, { on := 5, ground := Ground.data }, { on := 3, ground := Ground.chain }], guard := none }) rfl (fun K' hK => ?_) AllL.nil)
                  refine step_append_rs _ (some 71) rfl (by rfl) _ _ 28 78 (by rfl) _ 8 72 infoR Tryz.underlying28 rfl (by decide) (W6.heap.size) _ n (ds.flatMap row8) (by rfl) O5.out _ 1 [.int .i64 (bg + 1), .int .i64 gk, .int .u16 k.1, .string k.2, .bool false, .bool false, .bool false, .slice (some ⟨wc.heap.size, 0, none⟩) 1 1] (by rfl) HN1.out (by simp [Value.oneCell']) (by have := HLn.out; unfold maxLen; omega) (by have := HLn.out; omega) (by have := zP; simp <;> omega) ?_
                  intro v6 w6 o6 g6
                  have kQ : Touch [] W6 w6 := touch_grown kN g6 O5.out zM
                  obtain ⟨a6, c6, e6⟩ := own_form o6
                  subst e6
                  have O6 := hid (own_base (B' := w.heap.size + 3) o6 (by omega))
                  clear o6 g6
                  refine hK.out _ _ (fun _ => kQ) ?_
                  clear hK
                  try simp only [Go.Act.put, List.setIfInBounds_toArray, List.set_cons_zero, List.set_cons_succ]
                  refine wpL_take (i := 7) (v := (.pointer (some ⟨w.heap.size, 2, none⟩))) (some 72) rfl rfl (by kernel_rfl) (by kernel_rfl) (by kernel_rfl) (by kernel_rfl) (by kernel_rfl) (by decide) (fun _ _ _ h => h) (Or.inl ⟨by rfl, fun w' hS => (by go_simp)⟩) kQ ?_
                  try simp only [Go.Act.put, List.setIfInBounds_toArray, List.set_cons_zero, List.set_cons_succ]
                  refine wpL_ready (rs := [8]) (by kernel_rfl) (by simp) (AllL.cons (o := { dst := none, op := Op.store 28 (Operand.tmp 72) (Operand.tmp 71), type := 0, pos := _, after := #[{ on := 7, ground := Ground.data }, { on := 6, ground := Ground.data }, { on := 6, ground := Ground.chain }, { on := 0, ground := Ground.phase }, { on := 1, ground := Ground.phase }, { on := 2, ground := Ground.phase }, { on := 3, ground := Ground.phase }, { on := 4, ground := Ground.phase }, { on := 5, ground := Ground.phase }, { on := 6, ground := Ground.phase }], guard := none }) rfl (fun K' hK => ?_) AllL.nil)
                  rw [if_pos (by rfl)]
                  have t2 := cell_at (j := 2) (kQ.keep HKc.out.1 (by simp)) rfl
                  have tf := froz_at (kQ.keep HKc.out.1 (by simp))
                  go_simp
                  refine hK.out _ _ (fun h => absurd h (by decide)) ?_
                  clear hK
                  try simp only [Go.Act.put, List.setIfInBounds_toArray, List.set_cons_zero, List.set_cons_succ]
                  refine wpL_done (by kernel_rfl) ?_ _
                  clear t2 tf k0 HRs H1 HN1 O5 HM zM
                  clear U0 U1 U2 U3 X0 X1 X2 X3 X4 X5 X6 X7
                  go_upto_region 14 with fail
                  obtain ⟨kT, kK, kZ, kE⟩ := HKc.out
                  replace kT := kQ.keep kT (by first | (simp; done) | (simp; omega))
                  replace kK := kQ.keep kK (by first | (simp; done) | (simp; omega))
                  replace kZ := kQ.keep kZ (by first | (simp; done) | (simp; omega))
                  replace kE := kQ.keep kE (by first | (simp; done) | (simp; omega))
                  replace O7 := hid (own_touch O7.out kQ (fun _ _ e => by cases e))
                  replace HTc := hid (HTc.out.trans' kQ)
                  clear kQ
                  clear HKc
                  have HKc := hid (And.intro kT (And.intro kK (And.intro kZ kE)))
                  clear kT kK kZ kE
                  obtain ⟨kT, kK, kZ, kE⟩ := HKc.out
                  obtain ⟨W8, hW8⟩ : ∃ W, W = (w6.setCell ⟨w.heap.size, 2, none⟩ (.slice a6 (n + 1) c6)) := ⟨_, rfl⟩
                  obtain ⟨kq, tq⟩ := set1 kT 2 (.slice a6 (n + 1) c6)
                  rw [← hW8] at kq tq ⊢
                  clear hW8
                  replace kT := kq
                  replace kK := tq.keep kK (by first | (simp; done) | (simp; omega))
                  replace kZ := tq.keep kZ (by first | (simp; done) | (simp; omega))
                  replace kE := tq.keep kE (by first | (simp; done) | (simp; omega))
                  clear kq
                  clear HKc
                  have HKc := hid (And.intro kT (And.intro kK (And.intro kZ kE)))
                  have a0 := cell_at (j := 0) kT rfl
                  have a1 := cell_at (j := 1) kT rfl
                  have a2 := cell_at (j := 2) kT rfl
                  have a3 := cell_at (j := 3) kT rfl
                  have af := froz_at kT
                  have y0 := cell_at (j := 0) kK rfl
                  have y1 := cell_at (j := 1) kK rfl
                  have yf := froz_at kK
                  have z0 := cell_at (j := 0) kZ rfl
                  have z1 := cell_at (j := 1) kZ rfl
                  have z2 := cell_at (j := 2) kZ rfl
                  have z3 := cell_at (j := 3) kZ rfl
                  have zf := froz_at kZ
                  have x0 := cell_at (j := 0) kE rfl
                  have x1 := cell_at (j := 1) kE rfl
                  have x2 := cell_at (j := 2) kE rfl
                  have x3 := cell_at (j := 3) kE rfl
                  have x4 := cell_at (j := 4) kE rfl
                  have x5 := cell_at (j := 5) kE rfl
                  have x6 := cell_at (j := 6) kE rfl
                  have x7 := cell_at (j := 7) kE rfl
                  have xf := froz_at kE
                  clear kT kK kZ kE
                  replace HTc := hid (HTc.out.trans tq (fun b hb => Or.inr (by simp at hb; omega)))
                  replace O6 := hid (own_touch O6.out tq (fun b hb e => by have := (O6.out.lt b hb).1; simp at e; omega))
                  replace O7 := hid (own_touch O7.out tq (fun b hb e => by have := (O7.out.lt b hb).1; simp at e; omega))
                  clear tq
                  have U0 : ∀ w', Touch [w.heap.size + 1 + 1] W8 w' → w'.cell? ⟨w.heap.size, 0, none⟩ = some (.int .i64 fl) := fun w' X => cell_at (X.keep HKc.out.1 (by simp; omega)) rfl
                  have U1 : ∀ w', Touch [w.heap.size + 1 + 1] W8 w' → w'.cell? ⟨w.heap.size, 1, none⟩ = some (.int .i64 (bg + 1)) := fun w' X => cell_at (X.keep HKc.out.1 (by simp; omega)) rfl
                  have U2 : ∀ w', Touch [w.heap.size + 1 + 1] W8 w' → w'.cell? ⟨w.heap.size, 2, none⟩ = some (.slice a6 (n + 1) c6) := fun w' X => cell_at (X.keep HKc.out.1 (by simp; omega)) rfl
                  have U3 : ∀ w', Touch [w.heap.size + 1 + 1] W8 w' → w'.cell? ⟨w.heap.size, 3, none⟩ = some (.slice ga gn gc) := fun w' X => cell_at (X.keep HKc.out.1 (by simp; omega)) rfl
                  clear a0 a1 a2 a3 af y0 y1 yf z0 z1 z2 z3 zf x0 x1 x2 x3 x4 x5 x6 x7 xf
                  have kz := HKc.out.2.2.1
                  have kq : Touch [] W8 W8.drew := (Touch.refl _ _).drew
                  have k0 : Touch [w.heap.size + 1 + 1] W8 W8.drew := kq.mono (by simp)
                  refine wp_region_H (S := fun w' => Touch [w.heap.size + 1 + 1] W8 w') (by kernel_rfl) ?_
                  generalize W8.drew = WD at *
                  refine wpH_take (i := 0) (v := (.agg #[.int .i64 fl, .int .i64 (bg + 1), .slice a6 (n + 1) c6, .slice ga gn gc])) (some 73) rfl rfl (by kernel_rfl) (by kernel_rfl) (by kernel_rfl) (fun _ _ _ h => h) (Or.inl ⟨by rfl, fun w' hS => (by have z0 := U0 _ hS; have z1 := U1 _ hS; have z2 := U2 _ hS; have z3 := U3 _ hS; go_simp)⟩) k0 ?_
                  try simp only [Go.Act.put, List.setIfInBounds_toArray, List.set_cons_zero, List.set_cons_succ]
                  refine wpH_take (i := 1) (v := (.pointer (some ⟨w.heap.size, 1, none⟩))) (some 74) rfl rfl (by kernel_rfl) (by kernel_rfl) (by kernel_rfl) (fun _ _ _ h => h) (Or.inl ⟨by rfl, fun w' hS => (by go_simp)⟩) k0 ?_
                  try simp only [Go.Act.put, List.setIfInBounds_toArray, List.set_cons_zero, List.set_cons_succ]
                  refine wpH_take (i := 2) (v := (.int .i64 (bg + 1))) (some 75) rfl rfl (by kernel_rfl) (by kernel_rfl) (by kernel_rfl) (fun _ _ _ h => h) (Or.inl ⟨by rfl, fun w' hS => (by have z0 := U1 _ hS; go_simp)⟩) k0 ?_
                  try simp only [Go.Act.put, List.setIfInBounds_toArray, List.set_cons_zero, List.set_cons_succ]
                  refine wpH_call (i := 3) (o := { dst := none, op := Op.store 31 (Operand.tmp 8) (Operand.tmp 73), type := 0, pos := _, after := #[{ on := 0, ground := Ground.data }, { on := 0, ground := Ground.phase }, { on := 1, ground := Ground.textOnly Departure.lateStores }, { on := 2, ground := Ground.textOnly Departure.lateStores }], guard := none }) (by kernel_rfl) rfl (fun K' hK => ?_)
                  rw [if_pos (by rfl)]
                  have kzd := kq.keep kz (by simp)
                  have z0 := cell_at (j := 0) kzd rfl
                  have z1 := cell_at (j := 1) kzd rfl
                  have z2 := cell_at (j := 2) kzd rfl
                  have z3 := cell_at (j := 3) kzd rfl
                  have zf := froz_at kzd
                  go_simp
                  obtain ⟨q4, tF⟩ := finZ kzd (.int .i64 fl) (.int .i64 (bg + 1)) (.slice a6 (n + 1) c6) (.slice ga gn gc)
                  have ks := k0.trans' tF
                  refine hK.out _ _ ks ?_
                  clear hK
                  try simp only [Go.Act.put, List.setIfInBounds_toArray, List.set_cons_zero, List.set_cons_succ]
                  refine wpH_take (i := 4) (v := (.int .i64 (bg + 1))) (some 9) rfl rfl (by kernel_rfl) (by kernel_rfl) (by kernel_rfl) (fun _ _ _ h => h) (Or.inl ⟨by rfl, fun w' hS => (by go_simp)⟩) ks ?_
                  try simp only [Go.Act.put, List.setIfInBounds_toArray, List.set_cons_zero, List.set_cons_succ]
                  refine wpH_take (i := 5) (v := (.int .i64 0)) (some 10) rfl rfl (by kernel_rfl) (by kernel_rfl) (by kernel_rfl) (fun _ _ _ h => h) (Or.inl ⟨by rfl, fun w' hS => (by go_simp)⟩) ks ?_
                  try simp only [Go.Act.put, List.setIfInBounds_toArray, List.set_cons_zero, List.set_cons_succ]
                  refine wpAnyH_done (by kernel_rfl) ?_ _
                  clear kzd z0 z1 z2 z3 zf U0 U1 U2 U3
                  go_wp2
                  have q0 := cell_at (j := 0) q4 rfl
                  have q1 := cell_at (j := 1) q4 rfl
                  have q2 := cell_at (j := 2) q4 rfl
                  have q3 := cell_at (j := 3) q4 rfl
                  exact bodyPost_ret (v := .tuple #[.agg #[.int .i64 fl, .int .i64 (bg + 1), .slice a6 (n + 1) c6, .slice ga gn gc], .int .i64 (bg + 1), .int .i64 0]) (by simp [results, Tryz.results22, go_sem, q0, q1, q2, q3]) rfl (HE.out _ _ _ _ (own_base (own_touch O6.out ks (fun b hb e => by have := (O6.out.lt b hb).1; simp at e; omega)) (by omega)) (own_base (own_touch O7.out ks (fun b hb e => by have := (O7.out.lt b hb).1; simp at e; omega)) (by omega)) (HTc.out.trans ks (fun b hb => Or.inr (by simp at hb; omega))))
                refine AllL.cons (o := { dst := some 70, op := Op.buildSlice 28 1 #[(0, Operand.tmp 69)], type := 28, pos := _, after := #[{ on := 4, ground := Ground.data }], guard := none }) rfl (fun K' hK => ?_) ?_
                · rw [if_pos (by rfl)]
                  go_simp
                  have kN := kM.alloc (.cells #[.int .i64 (bg + 1), .int .i64 gk, .int .u16 k.1, .string k.2, .bool false, .bool false, .bool false, .slice (some ⟨wc.heap.size, 0, none⟩) 1 1] 78)
                  have HN1 : Hid (Rs 78 8 ((W6.drew.alloc (.cells #[] 78)).alloc (.cells #[.int .i64 (bg + 1), .int .i64 gk, .int .u16 k.1, .string k.2, .bool false, .bool false, .bool false, .slice (some ⟨wc.heap.size, 0, none⟩) 1 1] 78)) (.slice (some ⟨W6.heap.size + 1, 0, none⟩) 1 1) 1 [.int .i64 (bg + 1), .int .i64 gk, .int .u16 k.1, .string k.2, .bool false, .bool false, .bool false, .slice (some ⟨wc.heap.size, 0, none⟩) 1 1]) := hid (by have q := Rs.new (W6.drew.alloc (.cells #[] 78)) #[.int .i64 (bg + 1), .int .i64 gk, .int .u16 k.1, .string k.2, .bool false, .bool false, .bool false, .slice (some ⟨wc.heap.size, 0, none⟩) 1 1] 78 8 rfl; (try rw [World.size_alloc] at q); exact q)
                  replace HM := hid (own_touch HM.out ((Touch.refl [] _).alloc (.cells #[.int .i64 (bg + 1), .int .i64 gk, .int .u16 k.1, .string k.2, .bool false, .bool false, .bool false, .slice (some ⟨wc.heap.size, 0, none⟩) 1 1] 78)) (fun _ _ e => by cases e))
                  refine hK.out _ _ (fun _ => kN) ?_
                  clear hK
                  try simp only [Go.Act.put, List.setIfInBounds_toArray, List.set_cons_zero, List.set_cons_succ]
                  refine wpL_ready (rs := [3]) (by kernel_rfl) (by simp) (AllL.cons (o := { dst := some 68, op := Op.call { callee := Callee.builtin Builtin.append, args := #[Operand.tmp 65, Operand.tmp 67], argTypes := #[28, 28] }, type := 28, pos := _, after := #[{ on := 0, ground := Ground.data }, { on := 2, ground := Ground.data }], guard := none }) rfl (fun K' hK => ?_) AllL.nil)
                  refine step_append_rs _ (some 68) rfl (by rfl) _ _ 28 78 (by rfl) _ 8 72 infoR Tryz.underlying28 rfl (by decide) (W6.heap.size) _ 0 [] (by rfl) HM.out _ n (ds.flatMap row8) (by rfl) (HRs.out _ (HTc.out.trans' kN)) H1.out (by have := HLn.out; unfold maxLen; omega) (by have := HLn.out; omega) (by simp <;> omega) ?_
                  intro v5 w5 o5 g5
                  rw [Nat.zero_add, List.nil_append] at o5
                  have kP : Touch [] W6 w5 := touch_grown kN g5 HM.out zM
                  have zP : W6.heap.size ≤ w5.heap.size := Nat.le_trans (by simp <;> omega) g5.size
                  replace HN1 := hid (HN1.out.keep ((Touch.refl _ _).grown g5 (fun q hq => Or.inl (Option.mem_toList.2 hq))) (fun g off nn cc e hh => by cases e; have h' := Option.mem_toList.1 hh; simp [Value.ownBlock] at h'))
                  obtain ⟨a5, c5, e5⟩ := own_form o5
                  subst e5
                  have O5 := hid o5
                  clear o5 g5
                  refine hK.out _ _ (fun _ => kP) ?_
                  clear hK
                  try simp only [Go.Act.put, List.setIfInBounds_toArray, List.set_cons_zero, List.set_cons_succ]
                  refine wpL_ready (rs := [6]) (by kernel_rfl) (by simp) (AllL.cons (o := { dst := some 71, op := Op.call { callee := Callee.builtin Builtin.append, args := #[Operand.tmp 68, Operand.tmp 70], argTypes := #[28, 28] }, type := 28, pos := _, after := #[{ on := 3, ground := Ground.data }, { on := 5, ground := Ground.data }, { on := 3, ground := Ground.chain }], guard := none }) rfl (fun K' hK => ?_) AllL.nil)
                  refine step_append_rs _ (some 71) rfl (by rfl) _ _ 28 78 (by rfl) _ 8 72 infoR Tryz.underlying28 rfl (by decide) (W6.heap.size) _ n (ds.flatMap row8) (by rfl) O5.out _ 1 [.int .i64 (bg + 1), .int .i64 gk, .int .u16 k.1, .string k.2, .bool false, .bool false, .bool false, .slice (some ⟨wc.heap.size, 0, none⟩) 1 1] (by rfl) HN1.out (by simp [Value.oneCell']) (by have := HLn.out; unfold maxLen; omega) (by have := HLn.out; omega) (by have := zP; simp <;> omega) ?_
                  intro v6 w6 o6 g6
                  have kQ : Touch [] W6 w6 := touch_grown kP g6 O5.out zM
                  obtain ⟨a6, c6, e6⟩ := own_form o6
                  subst e6
                  have O6 := hid (own_base (B' := w.heap.size + 3) o6 (by omega))
                  clear o6 g6
                  refine hK.out _ _ (fun _ => kQ) ?_
                  clear hK
                  try simp only [Go.Act.put, List.setIfInBounds_toArray, List.set_cons_zero, List.set_cons_succ]
                  refine wpL_take (i := 7) (v := (.pointer (some ⟨w.heap.size, 2, none⟩))) (some 72) rfl rfl (by kernel_rfl) (by kernel_rfl) (by kernel_rfl) (by kernel_rfl) (by kernel_rfl) (by decide) (fun _ _ _ h => h) (Or.inl ⟨by rfl, fun w' hS => (by go_simp)⟩) kQ ?_
                  try simp only [Go.Act.put, List.setIfInBounds_toArray, List.set_cons_zero, List.set_cons_succ]
                  refine wpL_ready (rs := [8]) (by kernel_rfl) (by simp) (AllL.cons (o := { dst := none, op := Op.store 28 (Operand.tmp 72) (Operand.tmp 71), type := 0, pos := _, after := #[{ on := 7, ground := Ground.data }, { on := 6, ground := Ground.data }, { on := 6, ground := Ground.chain }, { on := 0, ground := Ground.phase }, { on := 1, ground := Ground.phase }, { on := 2, ground := Ground.phase }, { on := 3, ground := Ground.phase }, { on := 4, ground := Ground.phase }, { on := 5, ground := Ground.phase }, { on := 6, ground := Ground.phase }], guard := none }) rfl (fun K' hK => ?_) AllL.nil)
                  rw [if_pos (by rfl)]
                  have t2 := cell_at (j := 2) (kQ.keep HKc.out.1 (by simp)) rfl
                  have tf := froz_at (kQ.keep HKc.out.1 (by simp))
                  go_simp
                  refine hK.out _ _ (fun h => absurd h (by decide)) ?_
                  clear hK
                  try simp only [Go.Act.put, List.setIfInBounds_toArray, List.set_cons_zero, List.set_cons_succ]
                  refine wpL_done (by kernel_rfl) ?_ _
                  clear t2 tf k0 HRs H1 HN1 O5 HM zM
                  clear U0 U1 U2 U3 X0 X1 X2 X3 X4 X5 X6 X7
                  go_upto_region 14 with fail
                  obtain ⟨kT, kK, kZ, kE⟩ := HKc.out
                  replace kT := kQ.keep kT (by first | (simp; done) | (simp; omega))
                  replace kK := kQ.keep kK (by first | (simp; done) | (simp; omega))
                  replace kZ := kQ.keep kZ (by first | (simp; done) | (simp; omega))
                  replace kE := kQ.keep kE (by first | (simp; done) | (simp; omega))
                  replace O7 := hid (own_touch O7.out kQ (fun _ _ e => by cases e))
                  replace HTc := hid (HTc.out.trans' kQ)
                  clear kQ
                  clear HKc
                  have HKc := hid (And.intro kT (And.intro kK (And.intro kZ kE)))
                  clear kT kK kZ kE
                  obtain ⟨kT, kK, kZ, kE⟩ := HKc.out
                  obtain ⟨W8, hW8⟩ : ∃ W, W = (w6.setCell ⟨w.heap.size, 2, none⟩ (.slice a6 (n + 1) c6)) := ⟨_, rfl⟩
                  obtain ⟨kq, tq⟩ := set1 kT 2 (.slice a6 (n + 1) c6)
                  rw [← hW8] at kq tq ⊢
                  clear hW8
                  replace kT := kq
                  replace kK := tq.keep kK (by first | (simp; done) | (simp; omega))
                  replace kZ := tq.keep kZ (by first | (simp; done) | (simp; omega))
                  replace kE := tq.keep kE (by first | (simp; done) | (simp; omega))
                  clear kq
                  clear HKc
                  have HKc := hid (And.intro kT (And.intro kK (And.intro kZ kE)))
                  have a0 := cell_at (j := 0) kT rfl
                  have a1 := cell_at (j := 1) kT rfl
                  have a2 := cell_at (j := 2) kT rfl
                  have a3 := cell_at (j := 3) kT rfl
                  have af := froz_at kT
                  have y0 := cell_at (j := 0) kK rfl
                  have y1 := cell_at (j := 1) kK rfl
                  have yf := froz_at kK
                  have z0 := cell_at (j := 0) kZ rfl
                  have z1 := cell_at (j := 1) kZ rfl
                  have z2 := cell_at (j := 2) kZ rfl
                  have z3 := cell_at (j := 3) kZ rfl
                  have zf := froz_at kZ
                  have x0 := cell_at (j := 0) kE rfl
                  have x1 := cell_at (j := 1) kE rfl
                  have x2 := cell_at (j := 2) kE rfl
                  have x3 := cell_at (j := 3) kE rfl
                  have x4 := cell_at (j := 4) kE rfl
                  have x5 := cell_at (j := 5) kE rfl
                  have x6 := cell_at (j := 6) kE rfl
                  have x7 := cell_at (j := 7) kE rfl
                  have xf := froz_at kE
                  clear kT kK kZ kE
                  replace HTc := hid (HTc.out.trans tq (fun b hb => Or.inr (by simp at hb; omega)))
                  replace O6 := hid (own_touch O6.out tq (fun b hb e => by have := (O6.out.lt b hb).1; simp at e; omega))
                  replace O7 := hid (own_touch O7.out tq (fun b hb e => by have := (O7.out.lt b hb).1; simp at e; omega))
                  clear tq
                  have U0 : ∀ w', Touch [w.heap.size + 1 + 1] W8 w' → w'.cell? ⟨w.heap.size, 0, none⟩ = some (.int .i64 fl) := fun w' X => cell_at (X.keep HKc.out.1 (by simp; omega)) rfl
                  have U1 : ∀ w', Touch [w.heap.size + 1 + 1] W8 w' → w'.cell? ⟨w.heap.size, 1, none⟩ = some (.int .i64 (bg + 1)) := fun w' X => cell_at (X.keep HKc.out.1 (by simp; omega)) rfl
                  have U2 : ∀ w', Touch [w.heap.size + 1 + 1] W8 w' → w'.cell? ⟨w.heap.size, 2, none⟩ = some (.slice a6 (n + 1) c6) := fun w' X => cell_at (X.keep HKc.out.1 (by simp; omega)) rfl
                  have U3 : ∀ w', Touch [w.heap.size + 1 + 1] W8 w' → w'.cell? ⟨w.heap.size, 3, none⟩ = some (.slice ga gn gc) := fun w' X => cell_at (X.keep HKc.out.1 (by simp; omega)) rfl
                  clear a0 a1 a2 a3 af y0 y1 yf z0 z1 z2 z3 zf x0 x1 x2 x3 x4 x5 x6 x7 xf
                  have kz := HKc.out.2.2.1
                  have kq : Touch [] W8 W8.drew := (Touch.refl _ _).drew
                  have k0 : Touch [w.heap.size + 1 + 1] W8 W8.drew := kq.mono (by simp)
                  refine wp_region_H (S := fun w' => Touch [w.heap.size + 1 + 1] W8 w') (by kernel_rfl) ?_
                  generalize W8.drew = WD at *
                  refine wpH_take (i := 0) (v := (.agg #[.int .i64 fl, .int .i64 (bg + 1), .slice a6 (n + 1) c6, .slice ga gn gc])) (some 73) rfl rfl (by kernel_rfl) (by kernel_rfl) (by kernel_rfl) (fun _ _ _ h => h) (Or.inl ⟨by rfl, fun w' hS => (by have z0 := U0 _ hS; have z1 := U1 _ hS; have z2 := U2 _ hS; have z3 := U3 _ hS; go_simp)⟩) k0 ?_
                  try simp only [Go.Act.put, List.setIfInBounds_toArray, List.set_cons_zero, List.set_cons_succ]
                  refine wpH_take (i := 1) (v := (.pointer (some ⟨w.heap.size, 1, none⟩))) (some 74) rfl rfl (by kernel_rfl) (by kernel_rfl) (by kernel_rfl) (fun _ _ _ h => h) (Or.inl ⟨by rfl, fun w' hS => (by go_simp)⟩) k0 ?_
                  try simp only [Go.Act.put, List.setIfInBounds_toArray, List.set_cons_zero, List.set_cons_succ]
                  refine wpH_take (i := 2) (v := (.int .i64 (bg + 1))) (some 75) rfl rfl (by kernel_rfl) (by kernel_rfl) (by kernel_rfl) (fun _ _ _ h => h) (Or.inl ⟨by rfl, fun w' hS => (by have z0 := U1 _ hS; go_simp)⟩) k0 ?_
                  try simp only [Go.Act.put, List.setIfInBounds_toArray, List.set_cons_zero, List.set_cons_succ]
                  refine wpH_call (i := 3) (o := { dst := none, op := Op.store 31 (Operand.tmp 8) (Operand.tmp 73), type := 0, pos := _, after := #[{ on := 0, ground := Ground.data }, { on := 0, ground := Ground.phase }, { on := 1, ground := Ground.textOnly Departure.lateStores }, { on := 2, ground := Ground.textOnly Departure.lateStores }], guard := none }) (by kernel_rfl) rfl (fun K' hK => ?_)
                  rw [if_pos (by rfl)]
                  have kzd := kq.keep kz (by simp)
                  have z0 := cell_at (j := 0) kzd rfl
                  have z1 := cell_at (j := 1) kzd rfl
                  have z2 := cell_at (j := 2) kzd rfl
                  have z3 := cell_at (j := 3) kzd rfl
                  have zf := froz_at kzd
                  go_simp
                  obtain ⟨q4, tF⟩ := finZ kzd (.int .i64 fl) (.int .i64 (bg + 1)) (.slice a6 (n + 1) c6) (.slice ga gn gc)
                  have ks := k0.trans' tF
                  refine hK.out _ _ ks ?_
                  clear hK
                  try simp only [Go.Act.put, List.setIfInBounds_toArray, List.set_cons_zero, List.set_cons_succ]
                  refine wpH_take (i := 4) (v := (.int .i64 (bg + 1))) (some 9) rfl rfl (by kernel_rfl) (by kernel_rfl) (by kernel_rfl) (fun _ _ _ h => h) (Or.inl ⟨by rfl, fun w' hS => (by go_simp)⟩) ks ?_
                  try simp only [Go.Act.put, List.setIfInBounds_toArray, List.set_cons_zero, List.set_cons_succ]
                  refine wpH_take (i := 5) (v := (.int .i64 0)) (some 10) rfl rfl (by kernel_rfl) (by kernel_rfl) (by kernel_rfl) (fun _ _ _ h => h) (Or.inl ⟨by rfl, fun w' hS => (by go_simp)⟩) ks ?_
                  try simp only [Go.Act.put, List.setIfInBounds_toArray, List.set_cons_zero, List.set_cons_succ]
                  refine wpAnyH_done (by kernel_rfl) ?_ _
                  clear kzd z0 z1 z2 z3 zf U0 U1 U2 U3
                  go_wp2
                  have q0 := cell_at (j := 0) q4 rfl
                  have q1 := cell_at (j := 1) q4 rfl
                  have q2 := cell_at (j := 2) q4 rfl
                  have q3 := cell_at (j := 3) q4 rfl
                  exact bodyPost_ret (v := .tuple #[.agg #[.int .i64 fl, .int .i64 (bg + 1), .slice a6 (n + 1) c6, .slice ga gn gc], .int .i64 (bg + 1), .int .i64 0]) (by simp [results, Tryz.results22, go_sem, q0, q1, q2, q3]) rfl (HE.out _ _ _ _ (own_base (own_touch O6.out ks (fun b hb e => by have := (O6.out.lt b hb).1; simp at e; omega)) (by omega)) (own_base (own_touch O7.out ks (fun b hb e => by have := (O7.out.lt b hb).1; simp at e; omega)) (by omega)) (HTc.out.trans ks (fun b hb => Or.inr (by simp at hb; omega))))
                exact AllL.nil
              refine AllL.cons (o := { dst := some 70, op := Op.buildSlice 28 1 #[(0, Operand.tmp 69)], type := 28, pos := _, after := #[{ on := 4, ground := Ground.data }], guard := none }) rfl (fun K' hK => ?_) ?_
              · rw [if_pos (by rfl)]
                go_simp
                have kN := k0.alloc (.cells #[.int .i64 (bg + 1), .int .i64 gk, .int .u16 k.1, .string k.2, .bool false, .bool false, .bool false, .slice (some ⟨wc.heap.size, 0, none⟩) 1 1] 78)
                have HN1 : Hid (Rs 78 8 (W6.drew.alloc (.cells #[.int .i64 (bg + 1), .int .i64 gk, .int .u16 k.1, .string k.2, .bool false, .bool false, .bool false, .slice (some ⟨wc.heap.size, 0, none⟩) 1 1] 78)) (.slice (some ⟨W6.heap.size, 0, none⟩) 1 1) 1 [.int .i64 (bg + 1), .int .i64 gk, .int .u16 k.1, .string k.2, .bool false, .bool false, .bool false, .slice (some ⟨wc.heap.size, 0, none⟩) 1 1]) := hid (by have q := Rs.new W6.drew #[.int .i64 (bg + 1), .int .i64 gk, .int .u16 k.1, .string k.2, .bool false, .bool false, .bool false, .slice (some ⟨wc.heap.size, 0, none⟩) 1 1] 78 8 rfl; (try rw [World.size_alloc] at q); exact q)
                refine hK.out _ _ (fun _ => kN) ?_
                clear hK
                try simp only [Go.Act.put, List.setIfInBounds_toArray, List.set_cons_zero, List.set_cons_succ]
                refine wpL_ready (rs := [0]) (by kernel_rfl) (by simp) (AllL.cons (o := { dst := some 65, op := Op.buildSlice 28 0 #[], type := 28, pos := _, after := #[], guard := none }) rfl (fun K' hK => ?_) AllL.nil)
                rw [if_pos (by rfl)]
                go_simp
                have kM := kN.alloc (.cells #[] 78)
                have HM : Hid (((W6.drew.alloc (.cells #[.int .i64 (bg + 1), .int .i64 gk, .int .u16 k.1, .string k.2, .bool false, .bool false, .bool false, .slice (some ⟨wc.heap.size, 0, none⟩) 1 1] 78)).alloc (.cells #[] 78)).ownsRow (W6.heap.size + 1) 78 8 (.slice (some ⟨W6.heap.size + 1, 0, none⟩) 0 0) 0 []) := hid (by have q := World.ownsRow_made (e := 78) (size := 8) (W6.drew.alloc (.cells #[.int .i64 (bg + 1), .int .i64 gk, .int .u16 k.1, .string k.2, .bool false, .bool false, .bool false, .slice (some ⟨wc.heap.size, 0, none⟩) 1 1] 78)) #[] 0 (Nat.le_refl _) (by unfold maxLen; omega) rfl; (try rw [World.size_alloc] at q); exact q)
                have zM : W6.heap.size ≤ W6.heap.size + 1 := (by have q := kN.size; (try rw [World.size_alloc] at q); exact q)
                replace HN1 := hid (HN1.out.keep0 ((Touch.refl [] _).alloc (.cells #[] 78)))
                refine hK.out _ _ (fun _ => kM) ?_
                clear hK
                try simp only [Go.Act.put, List.setIfInBounds_toArray, List.set_cons_zero, List.set_cons_succ]
                refine wpL_ready (rs := [3]) (by kernel_rfl) (by simp) (AllL.cons (o := { dst := some 68, op := Op.call { callee := Callee.builtin Builtin.append, args := #[Operand.tmp 65, Operand.tmp 67], argTypes := #[28, 28] }, type := 28, pos := _, after := #[{ on := 0, ground := Ground.data }, { on := 2, ground := Ground.data }], guard := none }) rfl (fun K' hK => ?_) AllL.nil)
                refine step_append_rs _ (some 68) rfl (by rfl) _ _ 28 78 (by rfl) _ 8 72 infoR Tryz.underlying28 rfl (by decide) (W6.heap.size + 1) _ 0 [] (by rfl) HM.out _ n (ds.flatMap row8) (by rfl) (HRs.out _ (HTc.out.trans' kM)) H1.out (by have := HLn.out; unfold maxLen; omega) (by have := HLn.out; omega) (by simp <;> omega) ?_
                intro v5 w5 o5 g5
                rw [Nat.zero_add, List.nil_append] at o5
                have kP : Touch [] W6 w5 := touch_grown kM g5 HM.out zM
                have zP : W6.heap.size + 1 ≤ w5.heap.size := Nat.le_trans (by simp <;> omega) g5.size
                replace HN1 := hid (HN1.out.keep ((Touch.refl _ _).grown g5 (fun q hq => Or.inl (Option.mem_toList.2 hq))) (fun g off nn cc e hh => by cases e; have h' := Option.mem_toList.1 hh; simp [Value.ownBlock] at h'))
                obtain ⟨a5, c5, e5⟩ := own_form o5
                subst e5
                have O5 := hid o5
                clear o5 g5
                refine hK.out _ _ (fun _ => kP) ?_
                clear hK
                try simp only [Go.Act.put, List.setIfInBounds_toArray, List.set_cons_zero, List.set_cons_succ]
                refine wpL_ready (rs := [6]) (by kernel_rfl) (by simp) (AllL.cons (o := { dst := some 71, op := Op.call { callee := Callee.builtin Builtin.append, args := #[Operand.tmp 68, Operand.tmp 70], argTypes := #[28, 28] }, type := 28, pos := _, after := #[{ on := 3, ground := Ground.data }, { on := 5, ground := Ground.data }, { on := 3, ground := Ground.chain }], guard := none }) rfl (fun K' hK => ?_) AllL.nil)
                refine step_append_rs _ (some 71) rfl (by rfl) _ _ 28 78 (by rfl) _ 8 72 infoR Tryz.underlying28 rfl (by decide) (W6.heap.size + 1) _ n (ds.flatMap row8) (by rfl) O5.out _ 1 [.int .i64 (bg + 1), .int .i64 gk, .int .u16 k.1, .string k.2, .bool false, .bool false, .bool false, .slice (some ⟨wc.heap.size, 0, none⟩) 1 1] (by rfl) HN1.out (by simp [Value.oneCell']) (by have := HLn.out; unfold maxLen; omega) (by have := HLn.out; omega) (by have := zP; simp <;> omega) ?_
                intro v6 w6 o6 g6
                have kQ : Touch [] W6 w6 := touch_grown kP g6 O5.out zM
                obtain ⟨a6, c6, e6⟩ := own_form o6
                subst e6
                have O6 := hid (own_base (B' := w.heap.size + 3) o6 (by omega))
                clear o6 g6
                refine hK.out _ _ (fun _ => kQ) ?_
                clear hK
                try simp only [Go.Act.put, List.setIfInBounds_toArray, List.set_cons_zero, List.set_cons_succ]
                refine wpL_take (i := 7) (v := (.pointer (some ⟨w.heap.size, 2, none⟩))) (some 72) rfl rfl (by kernel_rfl) (by kernel_rfl) (by kernel_rfl) (by kernel_rfl) (by kernel_rfl) (by decide) (fun _ _ _ h => h) (Or.inl ⟨by rfl, fun w' hS => (by go_simp)⟩) kQ ?_
                try simp only [Go.Act.put, List.setIfInBounds_toArray, List.set_cons_zero, List.set_cons_succ]
                refine wpL_ready (rs := [8]) (by kernel_rfl) (by simp) (AllL.cons (o := { dst := none, op := Op.store 28 (Operand.tmp 72) (Operand.tmp 71), type := 0, pos := _, after := #[{ on := 7, ground := Ground.data }, { on := 6, ground := Ground.data }, { on := 6, ground := Ground.chain }, { on := 0, ground := Ground.phase }, { on := 1, ground := Ground.phase }, { on := 2, ground := Ground.phase }, { on := 3, ground := Ground.phase }, { on := 4, ground := Ground.phase }, { on := 5, ground := Ground.phase }, { on := 6, ground := Ground.phase }], guard := none }) rfl (fun K' hK => ?_) AllL.nil)
                rw [if_pos (by rfl)]
                have t2 := cell_at (j := 2) (kQ.keep HKc.out.1 (by simp)) rfl
                have tf := froz_at (kQ.keep HKc.out.1 (by simp))
                go_simp
                refine hK.out _ _ (fun h => absurd h (by decide)) ?_
                clear hK
                try simp only [Go.Act.put, List.setIfInBounds_toArray, List.set_cons_zero, List.set_cons_succ]
                refine wpL_done (by kernel_rfl) ?_ _
                clear t2 tf k0 HRs H1 HN1 O5 HM zM
                clear U0 U1 U2 U3 X0 X1 X2 X3 X4 X5 X6 X7
                go_upto_region 14 with fail
                obtain ⟨kT, kK, kZ, kE⟩ := HKc.out
                replace kT := kQ.keep kT (by first | (simp; done) | (simp; omega))
                replace kK := kQ.keep kK (by first | (simp; done) | (simp; omega))
                replace kZ := kQ.keep kZ (by first | (simp; done) | (simp; omega))
                replace kE := kQ.keep kE (by first | (simp; done) | (simp; omega))
                replace O7 := hid (own_touch O7.out kQ (fun _ _ e => by cases e))
                replace HTc := hid (HTc.out.trans' kQ)
                clear kQ
                clear HKc
                have HKc := hid (And.intro kT (And.intro kK (And.intro kZ kE)))
                clear kT kK kZ kE
                obtain ⟨kT, kK, kZ, kE⟩ := HKc.out
                obtain ⟨W8, hW8⟩ : ∃ W, W = (w6.setCell ⟨w.heap.size, 2, none⟩ (.slice a6 (n + 1) c6)) := ⟨_, rfl⟩
                obtain ⟨kq, tq⟩ := set1 kT 2 (.slice a6 (n + 1) c6)
                rw [← hW8] at kq tq ⊢
                clear hW8
                replace kT := kq
                replace kK := tq.keep kK (by first | (simp; done) | (simp; omega))
                replace kZ := tq.keep kZ (by first | (simp; done) | (simp; omega))
                replace kE := tq.keep kE (by first | (simp; done) | (simp; omega))
                clear kq
                clear HKc
                have HKc := hid (And.intro kT (And.intro kK (And.intro kZ kE)))
                have a0 := cell_at (j := 0) kT rfl
                have a1 := cell_at (j := 1) kT rfl
                have a2 := cell_at (j := 2) kT rfl
                have a3 := cell_at (j := 3) kT rfl
                have af := froz_at kT
                have y0 := cell_at (j := 0) kK rfl
                have y1 := cell_at (j := 1) kK rfl
                have yf := froz_at kK
                have z0 := cell_at (j := 0) kZ rfl
                have z1 := cell_at (j := 1) kZ rfl
                have z2 := cell_at (j := 2) kZ rfl
                have z3 := cell_at (j := 3) kZ rfl
                have zf := froz_at kZ
                have x0 := cell_at (j := 0) kE rfl
                have x1 := cell_at (j := 1) kE rfl
                have x2 := cell_at (j := 2) kE rfl
                have x3 := cell_at (j := 3) kE rfl
                have x4 := cell_at (j := 4) kE rfl
                have x5 := cell_at (j := 5) kE rfl
                have x6 := cell_at (j := 6) kE rfl
                have x7 := cell_at (j := 7) kE rfl
                have xf := froz_at kE
                clear kT kK kZ kE
                replace HTc := hid (HTc.out.trans tq (fun b hb => Or.inr (by simp at hb; omega)))
                replace O6 := hid (own_touch O6.out tq (fun b hb e => by have := (O6.out.lt b hb).1; simp at e; omega))
                replace O7 := hid (own_touch O7.out tq (fun b hb e => by have := (O7.out.lt b hb).1; simp at e; omega))
                clear tq
                have U0 : ∀ w', Touch [w.heap.size + 1 + 1] W8 w' → w'.cell? ⟨w.heap.size, 0, none⟩ = some (.int .i64 fl) := fun w' X => cell_at (X.keep HKc.out.1 (by simp; omega)) rfl
                have U1 : ∀ w', Touch [w.heap.size + 1 + 1] W8 w' → w'.cell? ⟨w.heap.size, 1, none⟩ = some (.int .i64 (bg + 1)) := fun w' X => cell_at (X.keep HKc.out.1 (by simp; omega)) rfl
                have U2 : ∀ w', Touch [w.heap.size + 1 + 1] W8 w' → w'.cell? ⟨w.heap.size, 2, none⟩ = some (.slice a6 (n + 1) c6) := fun w' X => cell_at (X.keep HKc.out.1 (by simp; omega)) rfl
                have U3 : ∀ w', Touch [w.heap.size + 1 + 1] W8 w' → w'.cell? ⟨w.heap.size, 3, none⟩ = some (.slice ga gn gc) := fun w' X => cell_at (X.keep HKc.out.1 (by simp; omega)) rfl
                clear a0 a1 a2 a3 af y0 y1 yf z0 z1 z2 z3 zf x0 x1 x2 x3 x4 x5 x6 x7 xf
                have kz := HKc.out.2.2.1
                have kq : Touch [] W8 W8.drew := (Touch.refl _ _).drew
                have k0 : Touch [w.heap.size + 1 + 1] W8 W8.drew := kq.mono (by simp)
                refine wp_region_H (S := fun w' => Touch [w.heap.size + 1 + 1] W8 w') (by kernel_rfl) ?_
                generalize W8.drew = WD at *
                refine wpH_take (i := 0) (v := (.agg #[.int .i64 fl, .int .i64 (bg + 1), .slice a6 (n + 1) c6, .slice ga gn gc])) (some 73) rfl rfl (by kernel_rfl) (by kernel_rfl) (by kernel_rfl) (fun _ _ _ h => h) (Or.inl ⟨by rfl, fun w' hS => (by have z0 := U0 _ hS; have z1 := U1 _ hS; have z2 := U2 _ hS; have z3 := U3 _ hS; go_simp)⟩) k0 ?_
                try simp only [Go.Act.put, List.setIfInBounds_toArray, List.set_cons_zero, List.set_cons_succ]
                refine wpH_take (i := 1) (v := (.pointer (some ⟨w.heap.size, 1, none⟩))) (some 74) rfl rfl (by kernel_rfl) (by kernel_rfl) (by kernel_rfl) (fun _ _ _ h => h) (Or.inl ⟨by rfl, fun w' hS => (by go_simp)⟩) k0 ?_
                try simp only [Go.Act.put, List.setIfInBounds_toArray, List.set_cons_zero, List.set_cons_succ]
                refine wpH_take (i := 2) (v := (.int .i64 (bg + 1))) (some 75) rfl rfl (by kernel_rfl) (by kernel_rfl) (by kernel_rfl) (fun _ _ _ h => h) (Or.inl ⟨by rfl, fun w' hS => (by have z0 := U1 _ hS; go_simp)⟩) k0 ?_
                try simp only [Go.Act.put, List.setIfInBounds_toArray, List.set_cons_zero, List.set_cons_succ]
                refine wpH_call (i := 3) (o := { dst := none, op := Op.store 31 (Operand.tmp 8) (Operand.tmp 73), type := 0, pos := _, after := #[{ on := 0, ground := Ground.data }, { on := 0, ground := Ground.phase }, { on := 1, ground := Ground.textOnly Departure.lateStores }, { on := 2, ground := Ground.textOnly Departure.lateStores }], guard := none }) (by kernel_rfl) rfl (fun K' hK => ?_)
                rw [if_pos (by rfl)]
                have kzd := kq.keep kz (by simp)
                have z0 := cell_at (j := 0) kzd rfl
                have z1 := cell_at (j := 1) kzd rfl
                have z2 := cell_at (j := 2) kzd rfl
                have z3 := cell_at (j := 3) kzd rfl
                have zf := froz_at kzd
                go_simp
                obtain ⟨q4, tF⟩ := finZ kzd (.int .i64 fl) (.int .i64 (bg + 1)) (.slice a6 (n + 1) c6) (.slice ga gn gc)
                have ks := k0.trans' tF
                refine hK.out _ _ ks ?_
                clear hK
                try simp only [Go.Act.put, List.setIfInBounds_toArray, List.set_cons_zero, List.set_cons_succ]
                refine wpH_take (i := 4) (v := (.int .i64 (bg + 1))) (some 9) rfl rfl (by kernel_rfl) (by kernel_rfl) (by kernel_rfl) (fun _ _ _ h => h) (Or.inl ⟨by rfl, fun w' hS => (by go_simp)⟩) ks ?_
                try simp only [Go.Act.put, List.setIfInBounds_toArray, List.set_cons_zero, List.set_cons_succ]
                refine wpH_take (i := 5) (v := (.int .i64 0)) (some 10) rfl rfl (by kernel_rfl) (by kernel_rfl) (by kernel_rfl) (fun _ _ _ h => h) (Or.inl ⟨by rfl, fun w' hS => (by go_simp)⟩) ks ?_
                try simp only [Go.Act.put, List.setIfInBounds_toArray, List.set_cons_zero, List.set_cons_succ]
                refine wpAnyH_done (by kernel_rfl) ?_ _
                clear kzd z0 z1 z2 z3 zf U0 U1 U2 U3
                go_wp2
                have q0 := cell_at (j := 0) q4 rfl
                have q1 := cell_at (j := 1) q4 rfl
                have q2 := cell_at (j := 2) q4 rfl
                have q3 := cell_at (j := 3) q4 rfl
                exact bodyPost_ret (v := .tuple #[.agg #[.int .i64 fl, .int .i64 (bg + 1), .slice a6 (n + 1) c6, .slice ga gn gc], .int .i64 (bg + 1), .int .i64 0]) (by simp [results, Tryz.results22, go_sem, q0, q1, q2, q3]) rfl (HE.out _ _ _ _ (own_base (own_touch O6.out ks (fun b hb e => by have := (O6.out.lt b hb).1; simp at e; omega)) (by omega)) (own_base (own_touch O7.out ks (fun b hb e => by have := (O7.out.lt b hb).1; simp at e; omega)) (by omega)) (HTc.out.trans ks (fun b hb => Or.inr (by simp at hb; omega))))
              exact AllL.nil
    | true =>
      by_cases hb : ¬ x = 0
      · have HE := hid (fun w' => HX.out w' 1 (by rw [hEe, if_neg (by omega), if_pos (by simp [badC, hb])]) (by omega))
        clear HX HC HO HNx hEe hpc HRs H1 hk
        go_wp2
        obtain ⟨kT, kK, kZ⟩ := HKc.out
        obtain ⟨q4, tF⟩ := finZ kZ (.int .i64 fl) (.int .i64 bg) (.slice la n lc) (.slice ga gn gc)
        have q0 := cell_at (j := 0) q4 rfl
        have q1 := cell_at (j := 1) q4 rfl
        have q2 := cell_at (j := 2) q4 rfl
        have q3 := cell_at (j := 3) q4 rfl
        exact bodyPost_ret (v := .tuple #[.agg #[.int .i64 fl, .int .i64 bg, .slice la n lc, .slice ga gn gc], .int .i64 0, .int .i64 1]) (by simp [results, Tryz.results22, go_sem, q0, q1, q2, q3]) rfl (HE.out _ (HTc.out.trans tF (fun b hb => Or.inr (by simp at hb; omega))))
      · by_cases hc : 0 ≤ pc
        · have HE := hid (fun w' => HX.out w' 121 (by rw [hEe, if_neg (by omega), if_neg (by simp [badC, hb]), if_pos (by rw [← hpc]; exact hc)]) (by omega))
          clear HX HO HNx hEe hpc HRs H1 hk
          go_wp2_with (go_at_call 30; refine (HC.out _ HTc.out).mono ?_; rintro e w2 ⟨rfl, t2⟩; obtain ⟨kT, kK, kZ⟩ := HKc.out; replace kT := t2.keep kT (by first | (simp; done) | (simp; omega)); replace kK := t2.keep kK (by first | (simp; done) | (simp; omega)); replace kZ := t2.keep kZ (by first | (simp; done) | (simp; omega)); clear HKc a0 a1 a2 a3 af y0 y1 yf z0 z1 z2 z3 zf; have HKc := hid (And.intro kT (And.intro kK kZ)); have a0 := cell_at (j := 0) kT rfl; have a1 := cell_at (j := 1) kT rfl; have a2 := cell_at (j := 2) kT rfl; have a3 := cell_at (j := 3) kT rfl; have af := froz_at kT; have y0 := cell_at (j := 0) kK rfl; have y1 := cell_at (j := 1) kK rfl; have yf := froz_at kK; have z0 := cell_at (j := 0) kZ rfl; have z1 := cell_at (j := 1) kZ rfl; have z2 := cell_at (j := 2) kZ rfl; have z3 := cell_at (j := 3) kZ rfl; have zf := froz_at kZ; clear kT kK kZ; replace HTc := hid (HTc.out.trans' t2); clear t2)
          obtain ⟨kT, kK, kZ⟩ := HKc.out
          obtain ⟨q4, tF⟩ := finZ kZ (.int .i64 fl) (.int .i64 bg) (.slice la n lc) (.slice ga gn gc)
          have q0 := cell_at (j := 0) q4 rfl
          have q1 := cell_at (j := 1) q4 rfl
          have q2 := cell_at (j := 2) q4 rfl
          have q3 := cell_at (j := 3) q4 rfl
          exact bodyPost_ret (v := .tuple #[.agg #[.int .i64 fl, .int .i64 bg, .slice la n lc, .slice ga gn gc], .int .i64 0, .int .i64 121]) (by simp [results, Tryz.results22, go_sem, q0, q1, q2, q3]) rfl (HE.out _ (HTc.out.trans tF (fun b hb => Or.inr (by simp at hb; omega))))
        · by_cases hf : fl ≤ (n : Int)
          · have HE := hid (fun w' => HX.out w' 120 (by rw [hEe, if_neg (by omega), if_neg (by simp [badC, hb]), if_neg (by rw [← hpc]; exact hc), if_pos hf]) (by omega))
            clear HX HO HNx hEe hpc HRs H1 hk
            go_wp2_with (go_at_call 30; refine (HC.out _ HTc.out).mono ?_; rintro e w2 ⟨rfl, t2⟩; obtain ⟨kT, kK, kZ⟩ := HKc.out; replace kT := t2.keep kT (by first | (simp; done) | (simp; omega)); replace kK := t2.keep kK (by first | (simp; done) | (simp; omega)); replace kZ := t2.keep kZ (by first | (simp; done) | (simp; omega)); clear HKc a0 a1 a2 a3 af y0 y1 yf z0 z1 z2 z3 zf; have HKc := hid (And.intro kT (And.intro kK kZ)); have a0 := cell_at (j := 0) kT rfl; have a1 := cell_at (j := 1) kT rfl; have a2 := cell_at (j := 2) kT rfl; have a3 := cell_at (j := 3) kT rfl; have af := froz_at kT; have y0 := cell_at (j := 0) kK rfl; have y1 := cell_at (j := 1) kK rfl; have yf := froz_at kK; have z0 := cell_at (j := 0) kZ rfl; have z1 := cell_at (j := 1) kZ rfl; have z2 := cell_at (j := 2) kZ rfl; have z3 := cell_at (j := 3) kZ rfl; have zf := froz_at kZ; clear kT kK kZ; replace HTc := hid (HTc.out.trans' t2); clear t2)
            obtain ⟨kT, kK, kZ⟩ := HKc.out
            obtain ⟨q4, tF⟩ := finZ kZ (.int .i64 fl) (.int .i64 bg) (.slice la n lc) (.slice ga gn gc)
            have q0 := cell_at (j := 0) q4 rfl
            have q1 := cell_at (j := 1) q4 rfl
            have q2 := cell_at (j := 2) q4 rfl
            have q3 := cell_at (j := 3) q4 rfl
            exact bodyPost_ret (v := .tuple #[.agg #[.int .i64 fl, .int .i64 bg, .slice la n lc, .slice ga gn gc], .int .i64 0, .int .i64 120]) (by simp [results, Tryz.results22, go_sem, q0, q1, q2, q3]) rfl (HE.out _ (HTc.out.trans tF (fun b hb => Or.inr (by simp at hb; omega))))
          · have HE := hid (fun w' a c v => HNx.out w' a c v (by rw [hEe, if_neg (by omega), if_neg (by simp [badC, hb]), if_neg (by rw [← hpc]; exact hc), if_neg hf]))
            clear HX HNx hEe hpc hk
            go_upto_region 9 with (go_at_call 30; refine (HC.out _ HTc.out).mono ?_; rintro e w2 ⟨rfl, t2⟩; obtain ⟨kT, kK, kZ⟩ := HKc.out; replace kT := t2.keep kT (by first | (simp; done) | (simp; omega)); replace kK := t2.keep kK (by first | (simp; done) | (simp; omega)); replace kZ := t2.keep kZ (by first | (simp; done) | (simp; omega)); clear HKc a0 a1 a2 a3 af y0 y1 yf z0 z1 z2 z3 zf; have HKc := hid (And.intro kT (And.intro kK kZ)); have a0 := cell_at (j := 0) kT rfl; have a1 := cell_at (j := 1) kT rfl; have a2 := cell_at (j := 2) kT rfl; have a3 := cell_at (j := 3) kT rfl; have af := froz_at kT; have y0 := cell_at (j := 0) kK rfl; have y1 := cell_at (j := 1) kK rfl; have yf := froz_at kK; have z0 := cell_at (j := 0) kZ rfl; have z1 := cell_at (j := 1) kZ rfl; have z2 := cell_at (j := 2) kZ rfl; have z3 := cell_at (j := 3) kZ rfl; have zf := froz_at kZ; clear kT kK kZ; replace HTc := hid (HTc.out.trans' t2); clear t2)
            clear HC
            go_upto_region 10 with fail
            obtain ⟨kT, kK, kZ⟩ := HKc.out
            obtain ⟨W3, hW3⟩ : ∃ W, W = (w2.setCell ⟨w.heap.size, 1, none⟩ (.int .i64 (bg + 1))) := ⟨_, rfl⟩
            obtain ⟨kq, tq⟩ := set1 kT 1 (.int .i64 (bg + 1))
            rw [← hW3] at kq tq ⊢
            clear hW3
            replace kT := kq
            replace kK := tq.keep kK (by first | (simp; done) | (simp; omega))
            replace kZ := tq.keep kZ (by first | (simp; done) | (simp; omega))
            clear kq
            clear HKc a0 a1 a2 a3 af y0 y1 yf z0 z1 z2 z3 zf
            have HKc := hid (And.intro kT (And.intro kK kZ))
            have a0 := cell_at (j := 0) kT rfl
            have a1 := cell_at (j := 1) kT rfl
            have a2 := cell_at (j := 2) kT rfl
            have a3 := cell_at (j := 3) kT rfl
            have af := froz_at kT
            have y0 := cell_at (j := 0) kK rfl
            have y1 := cell_at (j := 1) kK rfl
            have yf := froz_at kK
            have z0 := cell_at (j := 0) kZ rfl
            have z1 := cell_at (j := 1) kZ rfl
            have z2 := cell_at (j := 2) kZ rfl
            have z3 := cell_at (j := 3) kZ rfl
            have zf := froz_at kZ
            clear kT kK kZ
            replace HTc := hid (HTc.out.trans tq (fun b hb => Or.inr (by simp at hb; omega)))
            clear tq
            clear hwr
            go_cut [11] from 51 to 59 (fun s11 wx => ∃ eb : Nat, s11 = .pointer (some ⟨eb, 0, none⟩) ∧ w.heap.size + 3 ≤ eb ∧ Hid (wx.heap[w.heap.size]? = some (.cells #[.int .i64 fl, .int .i64 (bg + 1), .slice la n lc, .slice ga gn gc] 31 (0, 0)) ∧ wx.heap[w.heap.size + 1]? = some (.cells #[.int .u16 k.1, .string k.2] 68 (0, 0)) ∧ wx.heap[w.heap.size + 1 + 1]? = some (.cells #[.int .i64 0, .int .i64 0, .slice none 0 0, .slice none 0 0] 31 (0, 0)) ∧ wx.heap[eb]? = some (.cells #[.int .i64 (bg + 1), .int .i64 gk, .int .u16 k.1, .string k.2, .bool true, .bool true, .bool false, .slice none 0 0] 78 (0, 0))) ∧ Hid (Touch [] w wx))
            case first =>
              have U0 : ∀ w', Touch [] W3 w' → w'.cell? ⟨w.heap.size, 0, none⟩ = some (.int .i64 fl) := fun w' X => cell_at (X.keep HKc.out.1 (by simp)) rfl
              have U1 : ∀ w', Touch [] W3 w' → w'.cell? ⟨w.heap.size, 1, none⟩ = some (.int .i64 (bg + 1)) := fun w' X => cell_at (X.keep HKc.out.1 (by simp)) rfl
              have U2 : ∀ w', Touch [] W3 w' → w'.cell? ⟨w.heap.size, 2, none⟩ = some (.slice la n lc) := fun w' X => cell_at (X.keep HKc.out.1 (by simp)) rfl
              have U3 : ∀ w', Touch [] W3 w' → w'.cell? ⟨w.heap.size, 3, none⟩ = some (.slice ga gn gc) := fun w' X => cell_at (X.keep HKc.out.1 (by simp)) rfl
              have E0 : ∀ w', Touch [] W3 w' → w'.cell? ⟨w.heap.size + 1, 0, none⟩ = some (.int .u16 k.1) := fun w' X => cell_at (X.keep HKc.out.2.1 (by simp)) rfl
              have E1 : ∀ w', Touch [] W3 w' → w'.cell? ⟨w.heap.size + 1, 1, none⟩ = some (.string k.2) := fun w' X => cell_at (X.keep HKc.out.2.1 (by simp)) rfl
              have k0 : Touch [] W3 W3.drew := (Touch.refl _ _).drew
              have zW : w.heap.size + 3 ≤ W3.heap.size := by have := block_lt HKc.out.2.2; omega
              have HO2 : Hid (∀ w', Touch [] W3 w' → _) := fun w' X => HO.out w' (bg + 1) (HTc.out.trans' X)
              clear a0 a1 a2 a3 af y0 y1 yf z0 z1 z2 z3 zf
              refine wp_region_H (S := fun w' => Touch [] W3 w') (by kernel_rfl) ?_
              refine wpH_take (i := 0) (v := (.pointer (some ⟨w.heap.size, 1, none⟩))) (some 51) rfl rfl (by kernel_rfl) (by kernel_rfl) (by kernel_rfl) (fun _ _ _ h => h) (Or.inl ⟨by rfl, fun w' hS => (by go_simp)⟩) k0 ?_
              try simp only [Go.Act.put, List.setIfInBounds_toArray, List.set_cons_zero, List.set_cons_succ]
              refine wpH_take (i := 1) (v := (.int .i64 (bg + 1))) (some 52) rfl rfl (by kernel_rfl) (by kernel_rfl) (by kernel_rfl) (fun _ _ _ h => h) (Or.inl ⟨by rfl, fun w' hS => (by have z0 := U1 _ hS; go_simp)⟩) k0 ?_
              try simp only [Go.Act.put, List.setIfInBounds_toArray, List.set_cons_zero, List.set_cons_succ]
              refine wpH_take (i := 2) (v := (.agg #[.int .i64 fl, .int .i64 (bg + 1), .slice la n lc, .slice ga gn gc])) (some 53) rfl rfl (by kernel_rfl) (by kernel_rfl) (by kernel_rfl) (fun _ _ _ h => h) (Or.inl ⟨by rfl, fun w' hS => (by have z0 := U0 _ hS; have z1 := U1 _ hS; have z2 := U2 _ hS; have z3 := U3 _ hS; go_simp)⟩) k0 ?_
              try simp only [Go.Act.put, List.setIfInBounds_toArray, List.set_cons_zero, List.set_cons_succ]
              refine wpH_take (i := 3) (v := (.agg #[.int .u16 k.1, .string k.2])) (some 54) rfl rfl (by kernel_rfl) (by kernel_rfl) (by kernel_rfl) (fun _ _ _ h => h) (Or.inl ⟨by rfl, fun w' hS => (by have z0 := E0 _ hS; have z1 := E1 _ hS; go_simp)⟩) k0 ?_
              try simp only [Go.Act.put, List.setIfInBounds_toArray, List.set_cons_zero, List.set_cons_succ]
              refine wpH_take (i := 5) (v := (.agg #[.int .u16 k.1, .string k.2])) (some 56) rfl rfl (by kernel_rfl) (by kernel_rfl) (by kernel_rfl) (fun _ _ _ h => h) (Or.inl ⟨by rfl, fun w' hS => (by have z0 := E0 _ hS; have z1 := E1 _ hS; go_simp)⟩) k0 ?_
              try simp only [Go.Act.put, List.setIfInBounds_toArray, List.set_cons_zero, List.set_cons_succ]
              refine wpH_take (i := 6) (v := (.bool true)) (some 57) rfl rfl (by kernel_rfl) (by kernel_rfl) (by kernel_rfl) (fun _ _ _ h => h) (Or.inl ⟨by rfl, fun w' hS => (by go_simp)⟩) k0 ?_
              try simp only [Go.Act.put, List.setIfInBounds_toArray, List.set_cons_zero, List.set_cons_succ]
              refine wpH_take (i := 7) (v := (.bool true)) (some 58) rfl rfl (by kernel_rfl) (by kernel_rfl) (by kernel_rfl) (fun _ _ _ h => h) (Or.inl ⟨by rfl, fun w' hS => (by go_simp)⟩) k0 ?_
              try simp only [Go.Act.put, List.setIfInBounds_toArray, List.set_cons_zero, List.set_cons_succ]
              refine wpH_ready (rs := [4, 9]) (by kernel_rfl) (by simp) ?_
              refine AllH.cons (o := { dst := some 55, op := Op.call { callee := Callee.value (Operand.func 32), args := #[Operand.tmp 53, Operand.tmp 54], argTypes := #[31, 68] }, type := 3, pos := _, after := #[{ on := 2, ground := Ground.data }, { on := 3, ground := Ground.data }], guard := none }) rfl (fun K' hK => ?_) ?_
              · rw [if_pos (by rfl)]
                go_simp
                refine (HO2.out _ k0).mono ?_
                rintro e' w4 ⟨rfl, t4⟩
                have kO : Touch [] W3 w4 := k0.trans' t4
                refine hK.out _ _ kO ?_
                clear hK
                try simp only [Go.Act.put, List.setIfInBounds_toArray, List.set_cons_zero, List.set_cons_succ]
                refine wpH_take (i := 8) (v := (.agg #[.int .i64 (bg + 1), .int .i64 gk, .int .u16 k.1, .string k.2, .bool true, .bool true, .bool false, .slice none 0 0])) (some 59) rfl rfl (by kernel_rfl) (by kernel_rfl) (by kernel_rfl) (fun _ _ _ h => h) (Or.inl ⟨by rfl, fun w' hS => (by go_simp)⟩) kO ?_
                try simp only [Go.Act.put, List.setIfInBounds_toArray, List.set_cons_zero, List.set_cons_succ]
                refine wpH_call (i := 9) (o := { dst := some 11, op := Op.alloc 78, type := 0, pos := _, after := #[], guard := none }) (by kernel_rfl) rfl (fun K' hK => ?_)
                rw [if_pos (by rfl)]
                go_simp
                have kA : Touch [] W3 (w4.alloc (.cells #[.int .i64 0, .int .i64 0, .int .u16 0, .string ⟨#[]⟩, .bool false, .bool false, .bool false, .slice none 0 0] 78)) := kO.alloc _
                have kE : (w4.alloc (.cells #[.int .i64 0, .int .i64 0, .int .u16 0, .string ⟨#[]⟩, .bool false, .bool false, .bool false, .slice none 0 0] 78)).heap[w4.heap.size]? = some (.cells #[.int .i64 0, .int .i64 0, .int .u16 0, .string ⟨#[]⟩, .bool false, .bool false, .bool false, .slice none 0 0] 78 (0, 0)) := heap_alloc_new w4 _
                have zE : W3.heap.size ≤ w4.heap.size := kO.size
                refine hK.out _ _ kA ?_
                clear hK
                try simp only [Go.Act.put, List.setIfInBounds_toArray, List.set_cons_zero, List.set_cons_succ]
                refine wpH_call (i := 10) (o := { dst := none, op := Op.store 78 (Operand.tmp 11) (Operand.tmp 59), type := 0, pos := _, after := #[{ on := 9, ground := Ground.data }, { on := 8, ground := Ground.data }, { on := 4, ground := Ground.chain }, { on := 0, ground := Ground.phase }, { on := 1, ground := Ground.phase }, { on := 2, ground := Ground.phase }, { on := 3, ground := Ground.phase }, { on := 4, ground := Ground.phase }, { on := 5, ground := Ground.phase }, { on := 6, ground := Ground.phase }, { on := 7, ground := Ground.phase }, { on := 8, ground := Ground.phase }, { on := 9, ground := Ground.phase }], guard := none }) (by kernel_rfl) rfl (fun K' hK => ?_)
                rw [if_pos (by rfl)]
                have e0 := cell_at (j := 0) kE rfl
                have e1 := cell_at (j := 1) kE rfl
                have e2 := cell_at (j := 2) kE rfl
                have e3 := cell_at (j := 3) kE rfl
                have e4 := cell_at (j := 4) kE rfl
                have e5 := cell_at (j := 5) kE rfl
                have e6 := cell_at (j := 6) kE rfl
                have e7 := cell_at (j := 7) kE rfl
                have ef := froz_at kE
                go_simp
                have kS : Touch [] W3 (w4.alloc (.cells #[.int .i64 (bg + 1), .int .i64 gk, .int .u16 k.1, .string k.2, .bool true, .bool true, .bool false, .slice none 0 0] 78)) := kO.alloc _
                have q8 : (w4.alloc (.cells #[.int .i64 (bg + 1), .int .i64 gk, .int .u16 k.1, .string k.2, .bool true, .bool true, .bool false, .slice none 0 0] 78)).heap[w4.heap.size]? = some (.cells #[.int .i64 (bg + 1), .int .i64 gk, .int .u16 k.1, .string k.2, .bool true, .bool true, .bool false, .slice none 0 0] 78 (0, 0)) := heap_alloc_new w4 _
                refine hK.out _ _ kS ?_
                clear hK
                try simp only [Go.Act.put, List.setIfInBounds_toArray, List.set_cons_zero, List.set_cons_succ]
                refine wpAnyH_done (by kernel_rfl) ?_ _
                clear e0 e1 e2 e3 e4 e5 e6 e7 ef U0 U1 U2 U3 E0 E1
                go_wp2_with fail
                go_meet
                case rel => exact ⟨_, rfl, by omega, ⟨kS.keep HKc.out.1 (by simp), kS.keep HKc.out.2.1 (by simp), kS.keep HKc.out.2.2 (by simp), q8⟩, HTc.out.trans' kS⟩
              refine AllH.cons (o := { dst := some 11, op := Op.alloc 78, type := 0, pos := _, after := #[], guard := none }) rfl (fun K' hK => ?_) ?_
              · rw [if_pos (by rfl)]
                go_simp
                have kA : Touch [] W3 (W3.drew.alloc (.cells #[.int .i64 0, .int .i64 0, .int .u16 0, .string ⟨#[]⟩, .bool false, .bool false, .bool false, .slice none 0 0] 78)) := k0.alloc _
                have kE : (W3.drew.alloc (.cells #[.int .i64 0, .int .i64 0, .int .u16 0, .string ⟨#[]⟩, .bool false, .bool false, .bool false, .slice none 0 0] 78)).heap[W3.heap.size]? = some (.cells #[.int .i64 0, .int .i64 0, .int .u16 0, .string ⟨#[]⟩, .bool false, .bool false, .bool false, .slice none 0 0] 78 (0, 0)) := heap_alloc_new W3.drew _
                have zE : W3.heap.size ≤ W3.heap.size := k0.size
                refine hK.out _ _ kA ?_
                clear hK
                try simp only [Go.Act.put, List.setIfInBounds_toArray, List.set_cons_zero, List.set_cons_succ]
                refine wpH_call (i := 4) (o := { dst := some 55, op := Op.call { callee := Callee.value (Operand.func 32), args := #[Operand.tmp 53, Operand.tmp 54], argTypes := #[31, 68] }, type := 3, pos := _, after := #[{ on := 2, ground := Ground.data }, { on := 3, ground := Ground.data }], guard := none }) (by kernel_rfl) rfl (fun K' hK => ?_)
                rw [if_pos (by rfl)]
                go_simp
                refine (HO2.out _ kA).mono ?_
                rintro e' w4 ⟨rfl, t4⟩
                have kO : Touch [] W3 w4 := kA.trans' t4
                replace kE := t4.keep kE (by simp)
                refine hK.out _ _ kO ?_
                clear hK
                try simp only [Go.Act.put, List.setIfInBounds_toArray, List.set_cons_zero, List.set_cons_succ]
                refine wpH_take (i := 8) (v := (.agg #[.int .i64 (bg + 1), .int .i64 gk, .int .u16 k.1, .string k.2, .bool true, .bool true, .bool false, .slice none 0 0])) (some 59) rfl rfl (by kernel_rfl) (by kernel_rfl) (by kernel_rfl) (fun _ _ _ h => h) (Or.inl ⟨by rfl, fun w' hS => (by go_simp)⟩) kO ?_
                try simp only [Go.Act.put, List.setIfInBounds_toArray, List.set_cons_zero, List.set_cons_succ]
                refine wpH_call (i := 10) (o := { dst := none, op := Op.store 78 (Operand.tmp 11) (Operand.tmp 59), type := 0, pos := _, after := #[{ on := 9, ground := Ground.data }, { on := 8, ground := Ground.data }, { on := 4, ground := Ground.chain }, { on := 0, ground := Ground.phase }, { on := 1, ground := Ground.phase }, { on := 2, ground := Ground.phase }, { on := 3, ground := Ground.phase }, { on := 4, ground := Ground.phase }, { on := 5, ground := Ground.phase }, { on := 6, ground := Ground.phase }, { on := 7, ground := Ground.phase }, { on := 8, ground := Ground.phase }, { on := 9, ground := Ground.phase }], guard := none }) (by kernel_rfl) rfl (fun K' hK => ?_)
                rw [if_pos (by rfl)]
                have e0 := cell_at (j := 0) kE rfl
                have e1 := cell_at (j := 1) kE rfl
                have e2 := cell_at (j := 2) kE rfl
                have e3 := cell_at (j := 3) kE rfl
                have e4 := cell_at (j := 4) kE rfl
                have e5 := cell_at (j := 5) kE rfl
                have e6 := cell_at (j := 6) kE rfl
                have e7 := cell_at (j := 7) kE rfl
                have ef := froz_at kE
                go_simp
                obtain ⟨q8, tF⟩ := fin8 kE (.int .i64 (bg + 1)) (.int .i64 gk) (.int .u16 k.1) (.string k.2) (.bool true) (.bool true) (.bool false) (.slice none 0 0)
                have kS := kO.trans tF (fun b hb => Or.inr (by simp at hb; omega))
                refine hK.out _ _ kS ?_
                clear hK
                try simp only [Go.Act.put, List.setIfInBounds_toArray, List.set_cons_zero, List.set_cons_succ]
                refine wpAnyH_done (by kernel_rfl) ?_ _
                clear e0 e1 e2 e3 e4 e5 e6 e7 ef U0 U1 U2 U3 E0 E1
                go_wp2_with fail
                go_meet
                case rel => exact ⟨_, rfl, by omega, ⟨kS.keep HKc.out.1 (by simp), kS.keep HKc.out.2.1 (by simp), kS.keep HKc.out.2.2 (by simp), q8⟩, HTc.out.trans' kS⟩
              exact AllH.nil
            case rest =>
              obtain ⟨eb, rfl, zeb, HKn, HTn⟩ := hcut
              clear HKc HTc a0 a1 a2 a3 af y0 y1 yf z0 z1 z2 z3 zf
              have HTc := HTn
              clear HTn HO
              obtain ⟨kT, kK, kZ, kE⟩ := HKn.out
              clear HKn
              have HKc := hid (And.intro kT (And.intro kK (And.intro kZ kE)))
              have a0 := cell_at (j := 0) kT rfl
              have a1 := cell_at (j := 1) kT rfl
              have a2 := cell_at (j := 2) kT rfl
              have a3 := cell_at (j := 3) kT rfl
              have af := froz_at kT
              have y0 := cell_at (j := 0) kK rfl
              have y1 := cell_at (j := 1) kK rfl
              have yf := froz_at kK
              have z0 := cell_at (j := 0) kZ rfl
              have z1 := cell_at (j := 1) kZ rfl
              have z2 := cell_at (j := 2) kZ rfl
              have z3 := cell_at (j := 3) kZ rfl
              have zf := froz_at kZ
              have x0 := cell_at (j := 0) kE rfl
              have x1 := cell_at (j := 1) kE rfl
              have x2 := cell_at (j := 2) kE rfl
              have x3 := cell_at (j := 3) kE rfl
              have x4 := cell_at (j := 4) kE rfl
              have x5 := cell_at (j := 5) kE rfl
              have x6 := cell_at (j := 6) kE rfl
              have x7 := cell_at (j := 7) kE rfl
              have xf := froz_at kE
              clear kT kK kZ kE
              have O7 : Hid (wc.ownsRow (w.heap.size + 3) 3 1 (.slice none 0 0) 0 []) := World.ownsRow_nil _ _ _ _
              go_upto_region 13 with fail
              have U0 : ∀ w', Touch [] wc w' → w'.cell? ⟨w.heap.size, 0, none⟩ = some (.int .i64 fl) := fun w' X => cell_at (X.keep HKc.out.1 (by simp)) rfl
              have U1 : ∀ w', Touch [] wc w' → w'.cell? ⟨w.heap.size, 1, none⟩ = some (.int .i64 (bg + 1)) := fun w' X => cell_at (X.keep HKc.out.1 (by simp)) rfl
              have U2 : ∀ w', Touch [] wc w' → w'.cell? ⟨w.heap.size, 2, none⟩ = some (.slice la n lc) := fun w' X => cell_at (X.keep HKc.out.1 (by simp)) rfl
              have U3 : ∀ w', Touch [] wc w' → w'.cell? ⟨w.heap.size, 3, none⟩ = some (.slice ga gn gc) := fun w' X => cell_at (X.keep HKc.out.1 (by simp)) rfl
              have X0 : ∀ w', Touch [] wc w' → w'.cell? ⟨eb, 0, none⟩ = some (.int .i64 (bg + 1)) := fun w' X => cell_at (X.keep HKc.out.2.2.2 (by simp)) rfl
              have X1 : ∀ w', Touch [] wc w' → w'.cell? ⟨eb, 1, none⟩ = some (.int .i64 gk) := fun w' X => cell_at (X.keep HKc.out.2.2.2 (by simp)) rfl
              have X2 : ∀ w', Touch [] wc w' → w'.cell? ⟨eb, 2, none⟩ = some (.int .u16 k.1) := fun w' X => cell_at (X.keep HKc.out.2.2.2 (by simp)) rfl
              have X3 : ∀ w', Touch [] wc w' → w'.cell? ⟨eb, 3, none⟩ = some (.string k.2) := fun w' X => cell_at (X.keep HKc.out.2.2.2 (by simp)) rfl
              have X4 : ∀ w', Touch [] wc w' → w'.cell? ⟨eb, 4, none⟩ = some (.bool true) := fun w' X => cell_at (X.keep HKc.out.2.2.2 (by simp)) rfl
              have X5 : ∀ w', Touch [] wc w' → w'.cell? ⟨eb, 5, none⟩ = some (.bool true) := fun w' X => cell_at (X.keep HKc.out.2.2.2 (by simp)) rfl
              have X6 : ∀ w', Touch [] wc w' → w'.cell? ⟨eb, 6, none⟩ = some (.bool false) := fun w' X => cell_at (X.keep HKc.out.2.2.2 (by simp)) rfl
              have X7 : ∀ w', Touch [] wc w' → w'.cell? ⟨eb, 7, none⟩ = some (.slice none 0 0) := fun w' X => cell_at (X.keep HKc.out.2.2.2 (by simp)) rfl
              have k0 : Touch [] wc wc.drew := (Touch.refl _ _).drew
              have zW : w.heap.size + 3 ≤ wc.heap.size := by have := block_lt HKc.out.2.2.1; omega
              clear a0 a1 a2 a3 af y0 y1 yf z0 z1 z2 z3 zf x0 x1 x2 x3 x4 x5 x6 x7 xf
              refine wp_region_L (S := fun w' => Touch [] wc w') (st := 8) (by kernel_rfl) ?_
              refine wpL_take (i := 1) (v := (.pointer (some ⟨w.heap.size, 2, none⟩))) (some 66) rfl rfl (by kernel_rfl) (by kernel_rfl) (by kernel_rfl) (by kernel_rfl) (by kernel_rfl) (by decide) (fun _ _ _ h => h) (Or.inl ⟨by rfl, fun w' hS => (by go_simp)⟩) k0 ?_
              try simp only [Go.Act.put, List.setIfInBounds_toArray, List.set_cons_zero, List.set_cons_succ]
              refine wpL_take (i := 2) (v := (.slice la n lc)) (some 67) rfl rfl (by kernel_rfl) (by kernel_rfl) (by kernel_rfl) (by kernel_rfl) (by kernel_rfl) (by decide) (fun _ _ _ h => h) (Or.inl ⟨by rfl, fun w' hS => (by have z0 := U2 _ hS; go_simp)⟩) k0 ?_
              try simp only [Go.Act.put, List.setIfInBounds_toArray, List.set_cons_zero, List.set_cons_succ]
              refine wpL_take (i := 4) (v := (.agg #[.int .i64 (bg + 1), .int .i64 gk, .int .u16 k.1, .string k.2, .bool true, .bool true, .bool false, .slice none 0 0])) (some 69) rfl rfl (by kernel_rfl) (by kernel_rfl) (by kernel_rfl) (by kernel_rfl) (by kernel_rfl) (by decide) (fun _ _ _ h => h) (Or.inl ⟨by rfl, fun w' hS => (by have z0 := X0 _ hS; have z1 := X1 _ hS; have z2 := X2 _ hS; have z3 := X3 _ hS; have z4 := X4 _ hS; have z5 := X5 _ hS; have z6 := X6 _ hS; have z7 := X7 _ hS; go_simp)⟩) k0 ?_
              try simp only [Go.Act.put, List.setIfInBounds_toArray, List.set_cons_zero, List.set_cons_succ]
              refine wpL_ready (rs := [0, 5]) (by kernel_rfl) (by simp) ?_
              refine AllL.cons (o := { dst := some 65, op := Op.buildSlice 28 0 #[], type := 28, pos := _, after := #[], guard := none }) rfl (fun K' hK => ?_) ?_
              · rw [if_pos (by rfl)]
                go_simp
                have kM := k0.alloc (.cells #[] 78)
                have HM : Hid ((wc.drew.alloc (.cells #[] 78)).ownsRow (wc.heap.size) 78 8 (.slice (some ⟨wc.heap.size, 0, none⟩) 0 0) 0 []) := hid (by have q := World.ownsRow_made (e := 78) (size := 8) wc.drew #[] 0 (Nat.le_refl _) (by unfold maxLen; omega) rfl; (try rw [World.size_alloc] at q); exact q)
                have zM : wc.heap.size ≤ wc.heap.size := (by have q := k0.size; (try rw [World.size_alloc] at q); exact q)
                refine hK.out _ _ (fun _ => kM) ?_
                clear hK
                try simp only [Go.Act.put, List.setIfInBounds_toArray, List.set_cons_zero, List.set_cons_succ]
                refine wpL_ready (rs := [3, 5]) (by kernel_rfl) (by simp) ?_
                refine AllL.cons (o := { dst := some 68, op := Op.call { callee := Callee.builtin Builtin.append, args := #[Operand.tmp 65, Operand.tmp 67], argTypes := #[28, 28] }, type := 28, pos := _, after := #[{ on := 0, ground := Ground.data }, { on := 2, ground := Ground.data }], guard := none }) rfl (fun K' hK => ?_) ?_
                · refine step_append_rs _ (some 68) rfl (by rfl) _ _ 28 78 (by rfl) _ 8 72 infoR Tryz.underlying28 rfl (by decide) (wc.heap.size) _ 0 [] (by rfl) HM.out _ n (ds.flatMap row8) (by rfl) (HRs.out _ (HTc.out.trans' kM)) H1.out (by have := HLn.out; unfold maxLen; omega) (by have := HLn.out; omega) (by simp <;> omega) ?_
                  intro v5 w5 o5 g5
                  rw [Nat.zero_add, List.nil_append] at o5
                  have kP : Touch [] wc w5 := touch_grown kM g5 HM.out zM
                  have zP : wc.heap.size ≤ w5.heap.size := Nat.le_trans (by simp <;> omega) g5.size
                  obtain ⟨a5, c5, e5⟩ := own_form o5
                  subst e5
                  have O5 := hid o5
                  clear o5 g5
                  refine hK.out _ _ (fun _ => kP) ?_
                  clear hK
                  try simp only [Go.Act.put, List.setIfInBounds_toArray, List.set_cons_zero, List.set_cons_succ]
                  refine wpL_ready (rs := [5]) (by kernel_rfl) (by simp) (AllL.cons (o := { dst := some 70, op := Op.buildSlice 28 1 #[(0, Operand.tmp 69)], type := 28, pos := _, after := #[{ on := 4, ground := Ground.data }], guard := none }) rfl (fun K' hK => ?_) AllL.nil)
                  rw [if_pos (by rfl)]
                  go_simp
                  have kN := kP.alloc (.cells #[.int .i64 (bg + 1), .int .i64 gk, .int .u16 k.1, .string k.2, .bool true, .bool true, .bool false, .slice none 0 0] 78)
                  have HN1 : Hid (Rs 78 8 (w5.alloc (.cells #[.int .i64 (bg + 1), .int .i64 gk, .int .u16 k.1, .string k.2, .bool true, .bool true, .bool false, .slice none 0 0] 78)) (.slice (some ⟨w5.heap.size, 0, none⟩) 1 1) 1 [.int .i64 (bg + 1), .int .i64 gk, .int .u16 k.1, .string k.2, .bool true, .bool true, .bool false, .slice none 0 0]) := hid (by have q := Rs.new w5 #[.int .i64 (bg + 1), .int .i64 gk, .int .u16 k.1, .string k.2, .bool true, .bool true, .bool false, .slice none 0 0] 78 8 rfl; (try rw [World.size_alloc] at q); exact q)
                  replace O5 := hid (own_touch O5.out ((Touch.refl [] _).alloc (.cells #[.int .i64 (bg + 1), .int .i64 gk, .int .u16 k.1, .string k.2, .bool true, .bool true, .bool false, .slice none 0 0] 78)) (fun _ _ e => by cases e))
                  refine hK.out _ _ (fun _ => kN) ?_
                  clear hK
                  try simp only [Go.Act.put, List.setIfInBounds_toArray, List.set_cons_zero, List.set_cons_succ]
                  refine wpL_ready (rs := [6]) (by kernel_rfl) (by simp) (AllL.cons (o := { dst := some 71, op := Op.call { callee := Callee.builtin Builtin.append, args := #[Operand.tmp 68, Operand.tmp 70], argTypes := #[28, 28] }, type := 28, pos := _, after := #[{ on := 3, ground := Ground.data }, { on := 5, ground := Ground.data }, { on := 3, ground := Ground.chain }], guard := none }) rfl (fun K' hK => ?_) AllL.nil)
                  refine step_append_rs _ (some 71) rfl (by rfl) _ _ 28 78 (by rfl) _ 8 72 infoR Tryz.underlying28 rfl (by decide) (wc.heap.size) _ n (ds.flatMap row8) (by rfl) O5.out _ 1 [.int .i64 (bg + 1), .int .i64 gk, .int .u16 k.1, .string k.2, .bool true, .bool true, .bool false, .slice none 0 0] (by rfl) HN1.out (by simp [Value.oneCell']) (by have := HLn.out; unfold maxLen; omega) (by have := HLn.out; omega) (by have := zP; simp <;> omega) ?_
                  intro v6 w6 o6 g6
                  have kQ : Touch [] wc w6 := touch_grown kN g6 O5.out zM
                  obtain ⟨a6, c6, e6⟩ := own_form o6
                  subst e6
                  have O6 := hid (own_base (B' := w.heap.size + 3) o6 (by omega))
                  clear o6 g6
                  refine hK.out _ _ (fun _ => kQ) ?_
                  clear hK
                  try simp only [Go.Act.put, List.setIfInBounds_toArray, List.set_cons_zero, List.set_cons_succ]
                  refine wpL_take (i := 7) (v := (.pointer (some ⟨w.heap.size, 2, none⟩))) (some 72) rfl rfl (by kernel_rfl) (by kernel_rfl) (by kernel_rfl) (by kernel_rfl) (by kernel_rfl) (by decide) (fun _ _ _ h => h) (Or.inl ⟨by rfl, fun w' hS => (by go_simp)⟩) kQ ?_
                  try simp only [Go.Act.put, List.setIfInBounds_toArray, List.set_cons_zero, List.set_cons_succ]
                  refine wpL_ready (rs := [8]) (by kernel_rfl) (by simp) (AllL.cons (o := { dst := none, op := Op.store 28 (Operand.tmp 72) (Operand.tmp 71), type := 0, pos := _, after := #[{ on := 7, ground := Ground.data }, { on := 6, ground := Ground.data }, { on := 6, ground := Ground.chain }, { on := 0, ground := Ground.phase }, { on := 1, ground := Ground.phase }, { on := 2, ground := Ground.phase }, { on := 3, ground := Ground.phase }, { on := 4, ground := Ground.phase }, { on := 5, ground := Ground.phase }, { on := 6, ground := Ground.phase }], guard := none }) rfl (fun K' hK => ?_) AllL.nil)
                  rw [if_pos (by rfl)]
                  have t2 := cell_at (j := 2) (kQ.keep HKc.out.1 (by simp)) rfl
                  have tf := froz_at (kQ.keep HKc.out.1 (by simp))
                  go_simp
                  refine hK.out _ _ (fun h => absurd h (by decide)) ?_
                  clear hK
                  try simp only [Go.Act.put, List.setIfInBounds_toArray, List.set_cons_zero, List.set_cons_succ]
                  refine wpL_done (by kernel_rfl) ?_ _
                  clear t2 tf k0 HRs H1 HN1 O5 HM zM
                  clear U0 U1 U2 U3 X0 X1 X2 X3 X4 X5 X6 X7
                  go_upto_region 14 with fail
                  obtain ⟨kT, kK, kZ, kE⟩ := HKc.out
                  replace kT := kQ.keep kT (by first | (simp; done) | (simp; omega))
                  replace kK := kQ.keep kK (by first | (simp; done) | (simp; omega))
                  replace kZ := kQ.keep kZ (by first | (simp; done) | (simp; omega))
                  replace kE := kQ.keep kE (by first | (simp; done) | (simp; omega))
                  replace O7 := hid (own_touch O7.out kQ (fun _ _ e => by cases e))
                  replace HTc := hid (HTc.out.trans' kQ)
                  clear kQ
                  clear HKc
                  have HKc := hid (And.intro kT (And.intro kK (And.intro kZ kE)))
                  clear kT kK kZ kE
                  obtain ⟨kT, kK, kZ, kE⟩ := HKc.out
                  obtain ⟨W8, hW8⟩ : ∃ W, W = (w6.setCell ⟨w.heap.size, 2, none⟩ (.slice a6 (n + 1) c6)) := ⟨_, rfl⟩
                  obtain ⟨kq, tq⟩ := set1 kT 2 (.slice a6 (n + 1) c6)
                  rw [← hW8] at kq tq ⊢
                  clear hW8
                  replace kT := kq
                  replace kK := tq.keep kK (by first | (simp; done) | (simp; omega))
                  replace kZ := tq.keep kZ (by first | (simp; done) | (simp; omega))
                  replace kE := tq.keep kE (by first | (simp; done) | (simp; omega))
                  clear kq
                  clear HKc
                  have HKc := hid (And.intro kT (And.intro kK (And.intro kZ kE)))
                  have a0 := cell_at (j := 0) kT rfl
                  have a1 := cell_at (j := 1) kT rfl
                  have a2 := cell_at (j := 2) kT rfl
                  have a3 := cell_at (j := 3) kT rfl
                  have af := froz_at kT
                  have y0 := cell_at (j := 0) kK rfl
                  have y1 := cell_at (j := 1) kK rfl
                  have yf := froz_at kK
                  have z0 := cell_at (j := 0) kZ rfl
                  have z1 := cell_at (j := 1) kZ rfl
                  have z2 := cell_at (j := 2) kZ rfl
                  have z3 := cell_at (j := 3) kZ rfl
                  have zf := froz_at kZ
                  have x0 := cell_at (j := 0) kE rfl
                  have x1 := cell_at (j := 1) kE rfl
                  have x2 := cell_at (j := 2) kE rfl
                  have x3 := cell_at (j := 3) kE rfl
                  have x4 := cell_at (j := 4) kE rfl
                  have x5 := cell_at (j := 5) kE rfl
                  have x6 := cell_at (j := 6) kE rfl
                  have x7 := cell_at (j := 7) kE rfl
                  have xf := froz_at kE
                  clear kT kK kZ kE
                  replace HTc := hid (HTc.out.trans tq (fun b hb => Or.inr (by simp at hb; omega)))
                  replace O6 := hid (own_touch O6.out tq (fun b hb e => by have := (O6.out.lt b hb).1; simp at e; omega))
                  replace O7 := hid (own_touch O7.out tq (fun b hb e => by have := (O7.out.lt b hb).1; simp at e; omega))
                  clear tq
                  have U0 : ∀ w', Touch [w.heap.size + 1 + 1] W8 w' → w'.cell? ⟨w.heap.size, 0, none⟩ = some (.int .i64 fl) := fun w' X => cell_at (X.keep HKc.out.1 (by simp; omega)) rfl
                  have U1 : ∀ w', Touch [w.heap.size + 1 + 1] W8 w' → w'.cell? ⟨w.heap.size, 1, none⟩ = some (.int .i64 (bg + 1)) := fun w' X => cell_at (X.keep HKc.out.1 (by simp; omega)) rfl
                  have U2 : ∀ w', Touch [w.heap.size + 1 + 1] W8 w' → w'.cell? ⟨w.heap.size, 2, none⟩ = some (.slice a6 (n + 1) c6) := fun w' X => cell_at (X.keep HKc.out.1 (by simp; omega)) rfl
                  have U3 : ∀ w', Touch [w.heap.size + 1 + 1] W8 w' → w'.cell? ⟨w.heap.size, 3, none⟩ = some (.slice ga gn gc) := fun w' X => cell_at (X.keep HKc.out.1 (by simp; omega)) rfl
                  clear a0 a1 a2 a3 af y0 y1 yf z0 z1 z2 z3 zf x0 x1 x2 x3 x4 x5 x6 x7 xf
                  have kz := HKc.out.2.2.1
                  have kq : Touch [] W8 W8.drew := (Touch.refl _ _).drew
                  have k0 : Touch [w.heap.size + 1 + 1] W8 W8.drew := kq.mono (by simp)
                  refine wp_region_H (S := fun w' => Touch [w.heap.size + 1 + 1] W8 w') (by kernel_rfl) ?_
                  generalize W8.drew = WD at *
                  refine wpH_take (i := 0) (v := (.agg #[.int .i64 fl, .int .i64 (bg + 1), .slice a6 (n + 1) c6, .slice ga gn gc])) (some 73) rfl rfl (by kernel_rfl) (by kernel_rfl) (by kernel_rfl) (fun _ _ _ h => h) (Or.inl ⟨by rfl, fun w' hS => (by have z0 := U0 _ hS; have z1 := U1 _ hS; have z2 := U2 _ hS; have z3 := U3 _ hS; go_simp)⟩) k0 ?_
                  try simp only [Go.Act.put, List.setIfInBounds_toArray, List.set_cons_zero, List.set_cons_succ]
                  refine wpH_take (i := 1) (v := (.pointer (some ⟨w.heap.size, 1, none⟩))) (some 74) rfl rfl (by kernel_rfl) (by kernel_rfl) (by kernel_rfl) (fun _ _ _ h => h) (Or.inl ⟨by rfl, fun w' hS => (by go_simp)⟩) k0 ?_
                  try simp only [Go.Act.put, List.setIfInBounds_toArray, List.set_cons_zero, List.set_cons_succ]
                  refine wpH_take (i := 2) (v := (.int .i64 (bg + 1))) (some 75) rfl rfl (by kernel_rfl) (by kernel_rfl) (by kernel_rfl) (fun _ _ _ h => h) (Or.inl ⟨by rfl, fun w' hS => (by have z0 := U1 _ hS; go_simp)⟩) k0 ?_
                  try simp only [Go.Act.put, List.setIfInBounds_toArray, List.set_cons_zero, List.set_cons_succ]
                  refine wpH_call (i := 3) (o := { dst := none, op := Op.store 31 (Operand.tmp 8) (Operand.tmp 73), type := 0, pos := _, after := #[{ on := 0, ground := Ground.data }, { on := 0, ground := Ground.phase }, { on := 1, ground := Ground.textOnly Departure.lateStores }, { on := 2, ground := Ground.textOnly Departure.lateStores }], guard := none }) (by kernel_rfl) rfl (fun K' hK => ?_)
                  rw [if_pos (by rfl)]
                  have kzd := kq.keep kz (by simp)
                  have z0 := cell_at (j := 0) kzd rfl
                  have z1 := cell_at (j := 1) kzd rfl
                  have z2 := cell_at (j := 2) kzd rfl
                  have z3 := cell_at (j := 3) kzd rfl
                  have zf := froz_at kzd
                  go_simp
                  obtain ⟨q4, tF⟩ := finZ kzd (.int .i64 fl) (.int .i64 (bg + 1)) (.slice a6 (n + 1) c6) (.slice ga gn gc)
                  have ks := k0.trans' tF
                  refine hK.out _ _ ks ?_
                  clear hK
                  try simp only [Go.Act.put, List.setIfInBounds_toArray, List.set_cons_zero, List.set_cons_succ]
                  refine wpH_take (i := 4) (v := (.int .i64 (bg + 1))) (some 9) rfl rfl (by kernel_rfl) (by kernel_rfl) (by kernel_rfl) (fun _ _ _ h => h) (Or.inl ⟨by rfl, fun w' hS => (by go_simp)⟩) ks ?_
                  try simp only [Go.Act.put, List.setIfInBounds_toArray, List.set_cons_zero, List.set_cons_succ]
                  refine wpH_take (i := 5) (v := (.int .i64 0)) (some 10) rfl rfl (by kernel_rfl) (by kernel_rfl) (by kernel_rfl) (fun _ _ _ h => h) (Or.inl ⟨by rfl, fun w' hS => (by go_simp)⟩) ks ?_
                  try simp only [Go.Act.put, List.setIfInBounds_toArray, List.set_cons_zero, List.set_cons_succ]
                  refine wpAnyH_done (by kernel_rfl) ?_ _
                  clear kzd z0 z1 z2 z3 zf U0 U1 U2 U3
                  go_wp2
                  have q0 := cell_at (j := 0) q4 rfl
                  have q1 := cell_at (j := 1) q4 rfl
                  have q2 := cell_at (j := 2) q4 rfl
                  have q3 := cell_at (j := 3) q4 rfl
                  exact bodyPost_ret (v := .tuple #[.agg #[.int .i64 fl, .int .i64 (bg + 1), .slice a6 (n + 1) c6, .slice ga gn gc], .int .i64 (bg + 1), .int .i64 0]) (by simp [results, Tryz.results22, go_sem, q0, q1, q2, q3]) rfl (HE.out _ _ _ _ (own_base (own_touch O6.out ks (fun b hb e => by have := (O6.out.lt b hb).1; simp at e; omega)) (by omega)) (own_base (own_touch O7.out ks (fun b hb e => by have := (O7.out.lt b hb).1; simp at e; omega)) (by omega)) (HTc.out.trans ks (fun b hb => Or.inr (by simp at hb; omega))))
                refine AllL.cons (o := { dst := some 70, op := Op.buildSlice 28 1 #[(0, Operand.tmp 69)], type := 28, pos := _, after := #[{ on := 4, ground := Ground.data }], guard := none }) rfl (fun K' hK => ?_) ?_
                · rw [if_pos (by rfl)]
                  go_simp
                  have kN := kM.alloc (.cells #[.int .i64 (bg + 1), .int .i64 gk, .int .u16 k.1, .string k.2, .bool true, .bool true, .bool false, .slice none 0 0] 78)
                  have HN1 : Hid (Rs 78 8 ((wc.drew.alloc (.cells #[] 78)).alloc (.cells #[.int .i64 (bg + 1), .int .i64 gk, .int .u16 k.1, .string k.2, .bool true, .bool true, .bool false, .slice none 0 0] 78)) (.slice (some ⟨wc.heap.size + 1, 0, none⟩) 1 1) 1 [.int .i64 (bg + 1), .int .i64 gk, .int .u16 k.1, .string k.2, .bool true, .bool true, .bool false, .slice none 0 0]) := hid (by have q := Rs.new (wc.drew.alloc (.cells #[] 78)) #[.int .i64 (bg + 1), .int .i64 gk, .int .u16 k.1, .string k.2, .bool true, .bool true, .bool false, .slice none 0 0] 78 8 rfl; (try rw [World.size_alloc] at q); exact q)
                  replace HM := hid (own_touch HM.out ((Touch.refl [] _).alloc (.cells #[.int .i64 (bg + 1), .int .i64 gk, .int .u16 k.1, .string k.2, .bool true, .bool true, .bool false, .slice none 0 0] 78)) (fun _ _ e => by cases e))
                  refine hK.out _ _ (fun _ => kN) ?_
                  clear hK
                  try simp only [Go.Act.put, List.setIfInBounds_toArray, List.set_cons_zero, List.set_cons_succ]
                  refine wpL_ready (rs := [3]) (by kernel_rfl) (by simp) (AllL.cons (o := { dst := some 68, op := Op.call { callee := Callee.builtin Builtin.append, args := #[Operand.tmp 65, Operand.tmp 67], argTypes := #[28, 28] }, type := 28, pos := _, after := #[{ on := 0, ground := Ground.data }, { on := 2, ground := Ground.data }], guard := none }) rfl (fun K' hK => ?_) AllL.nil)
                  refine step_append_rs _ (some 68) rfl (by rfl) _ _ 28 78 (by rfl) _ 8 72 infoR Tryz.underlying28 rfl (by decide) (wc.heap.size) _ 0 [] (by rfl) HM.out _ n (ds.flatMap row8) (by rfl) (HRs.out _ (HTc.out.trans' kN)) H1.out (by have := HLn.out; unfold maxLen; omega) (by have := HLn.out; omega) (by simp <;> omega) ?_
                  intro v5 w5 o5 g5
                  rw [Nat.zero_add, List.nil_append] at o5
                  have kP : Touch [] wc w5 := touch_grown kN g5 HM.out zM
                  have zP : wc.heap.size ≤ w5.heap.size := Nat.le_trans (by simp <;> omega) g5.size
                  replace HN1 := hid (HN1.out.keep ((Touch.refl _ _).grown g5 (fun q hq => Or.inl (Option.mem_toList.2 hq))) (fun g off nn cc e hh => by cases e; have h' := Option.mem_toList.1 hh; simp [Value.ownBlock] at h'))
                  obtain ⟨a5, c5, e5⟩ := own_form o5
                  subst e5
                  have O5 := hid o5
                  clear o5 g5
                  refine hK.out _ _ (fun _ => kP) ?_
                  clear hK
                  try simp only [Go.Act.put, List.setIfInBounds_toArray, List.set_cons_zero, List.set_cons_succ]
                  refine wpL_ready (rs := [6]) (by kernel_rfl) (by simp) (AllL.cons (o := { dst := some 71, op := Op.call { callee := Callee.builtin Builtin.append, args := #[Operand.tmp 68, Operand.tmp 70], argTypes := #[28, 28] }, type := 28, pos := _, after := #[{ on := 3, ground := Ground.data }, { on := 5, ground := Ground.data }, { on := 3, ground := Ground.chain }], guard := none }) rfl (fun K' hK => ?_) AllL.nil)
                  refine step_append_rs _ (some 71) rfl (by rfl) _ _ 28 78 (by rfl) _ 8 72 infoR Tryz.underlying28 rfl (by decide) (wc.heap.size) _ n (ds.flatMap row8) (by rfl) O5.out _ 1 [.int .i64 (bg + 1), .int .i64 gk, .int .u16 k.1, .string k.2, .bool true, .bool true, .bool false, .slice none 0 0] (by rfl) HN1.out (by simp [Value.oneCell']) (by have := HLn.out; unfold maxLen; omega) (by have := HLn.out; omega) (by have := zP; simp <;> omega) ?_
                  intro v6 w6 o6 g6
                  have kQ : Touch [] wc w6 := touch_grown kP g6 O5.out zM
                  obtain ⟨a6, c6, e6⟩ := own_form o6
                  subst e6
                  have O6 := hid (own_base (B' := w.heap.size + 3) o6 (by omega))
                  clear o6 g6
                  refine hK.out _ _ (fun _ => kQ) ?_
                  clear hK
                  try simp only [Go.Act.put, List.setIfInBounds_toArray, List.set_cons_zero, List.set_cons_succ]
                  refine wpL_take (i := 7) (v := (.pointer (some ⟨w.heap.size, 2, none⟩))) (some 72) rfl rfl (by kernel_rfl) (by kernel_rfl) (by kernel_rfl) (by kernel_rfl) (by kernel_rfl) (by decide) (fun _ _ _ h => h) (Or.inl ⟨by rfl, fun w' hS => (by go_simp)⟩) kQ ?_
                  try simp only [Go.Act.put, List.setIfInBounds_toArray, List.set_cons_zero, List.set_cons_succ]
                  refine wpL_ready (rs := [8]) (by kernel_rfl) (by simp) (AllL.cons (o := { dst := none, op := Op.store 28 (Operand.tmp 72) (Operand.tmp 71), type := 0, pos := _, after := #[{ on := 7, ground := Ground.data }, { on := 6, ground := Ground.data }, { on := 6, ground := Ground.chain }, { on := 0, ground := Ground.phase }, { on := 1, ground := Ground.phase }, { on := 2, ground := Ground.phase }, { on := 3, ground := Ground.phase }, { on := 4, ground := Ground.phase }, { on := 5, ground := Ground.phase }, { on := 6, ground := Ground.phase }], guard := none }) rfl (fun K' hK => ?_) AllL.nil)
                  rw [if_pos (by rfl)]
                  have t2 := cell_at (j := 2) (kQ.keep HKc.out.1 (by simp)) rfl
                  have tf := froz_at (kQ.keep HKc.out.1 (by simp))
                  go_simp
                  refine hK.out _ _ (fun h => absurd h (by decide)) ?_
                  clear hK
                  try simp only [Go.Act.put, List.setIfInBounds_toArray, List.set_cons_zero, List.set_cons_succ]
                  refine wpL_done (by kernel_rfl) ?_ _
                  clear t2 tf k0 HRs H1 HN1 O5 HM zM
                  clear U0 U1 U2 U3 X0 X1 X2 X3 X4 X5 X6 X7
                  go_upto_region 14 with fail
                  obtain ⟨kT, kK, kZ, kE⟩ := HKc.out
                  replace kT := kQ.keep kT (by first | (simp; done) | (simp; omega))
                  replace kK := kQ.keep kK (by first | (simp; done) | (simp; omega))
                  replace kZ := kQ.keep kZ (by first | (simp; done) | (simp; omega))
                  replace kE := kQ.keep kE (by first | (simp; done) | (simp; omega))
                  replace O7 := hid (own_touch O7.out kQ (fun _ _ e => by cases e))
                  replace HTc := hid (HTc.out.trans' kQ)
                  clear kQ
                  clear HKc
                  have HKc := hid (And.intro kT (And.intro kK (And.intro kZ kE)))
                  clear kT kK kZ kE
                  obtain ⟨kT, kK, kZ, kE⟩ := HKc.out
                  obtain ⟨W8, hW8⟩ : ∃ W, W = (w6.setCell ⟨w.heap.size, 2, none⟩ (.slice a6 (n + 1) c6)) := ⟨_, rfl⟩
                  obtain ⟨kq, tq⟩ := set1 kT 2 (.slice a6 (n + 1) c6)
                  rw [← hW8] at kq tq ⊢
                  clear hW8
                  replace kT := kq
                  replace kK := tq.keep kK (by first | (simp; done) | (simp; omega))
                  replace kZ := tq.keep kZ (by first | (simp; done) | (simp; omega))
                  replace kE := tq.keep kE (by first | (simp; done) | (simp; omega))
                  clear kq
                  clear HKc
                  have HKc := hid (And.intro kT (And.intro kK (And.intro kZ kE)))
                  have a0 := cell_at (j := 0) kT rfl
                  have a1 := cell_at (j := 1) kT rfl
                  have a2 := cell_at (j := 2) kT rfl
                  have a3 := cell_at (j := 3) kT rfl
                  have af := froz_at kT
                  have y0 := cell_at (j := 0) kK rfl
                  have y1 := cell_at (j := 1) kK rfl
                  have yf := froz_at kK
                  have z0 := cell_at (j := 0) kZ rfl
                  have z1 := cell_at (j := 1) kZ rfl
                  have z2 := cell_at (j := 2) kZ rfl
                  have z3 := cell_at (j := 3) kZ rfl
                  have zf := froz_at kZ
                  have x0 := cell_at (j := 0) kE rfl
                  have x1 := cell_at (j := 1) kE rfl
                  have x2 := cell_at (j := 2) kE rfl
                  have x3 := cell_at (j := 3) kE rfl
                  have x4 := cell_at (j := 4) kE rfl
                  have x5 := cell_at (j := 5) kE rfl
                  have x6 := cell_at (j := 6) kE rfl
                  have x7 := cell_at (j := 7) kE rfl
                  have xf := froz_at kE
                  clear kT kK kZ kE
                  replace HTc := hid (HTc.out.trans tq (fun b hb => Or.inr (by simp at hb; omega)))
                  replace O6 := hid (own_touch O6.out tq (fun b hb e => by have := (O6.out.lt b hb).1; simp at e; omega))
                  replace O7 := hid (own_touch O7.out tq (fun b hb e => by have := (O7.out.lt b hb).1; simp at e; omega))
                  clear tq
                  have U0 : ∀ w', Touch [w.heap.size + 1 + 1] W8 w' → w'.cell? ⟨w.heap.size, 0, none⟩ = some (.int .i64 fl) := fun w' X => cell_at (X.keep HKc.out.1 (by simp; omega)) rfl
                  have U1 : ∀ w', Touch [w.heap.size + 1 + 1] W8 w' → w'.cell? ⟨w.heap.size, 1, none⟩ = some (.int .i64 (bg + 1)) := fun w' X => cell_at (X.keep HKc.out.1 (by simp; omega)) rfl
                  have U2 : ∀ w', Touch [w.heap.size + 1 + 1] W8 w' → w'.cell? ⟨w.heap.size, 2, none⟩ = some (.slice a6 (n + 1) c6) := fun w' X => cell_at (X.keep HKc.out.1 (by simp; omega)) rfl
                  have U3 : ∀ w', Touch [w.heap.size + 1 + 1] W8 w' → w'.cell? ⟨w.heap.size, 3, none⟩ = some (.slice ga gn gc) := fun w' X => cell_at (X.keep HKc.out.1 (by simp; omega)) rfl
                  clear a0 a1 a2 a3 af y0 y1 yf z0 z1 z2 z3 zf x0 x1 x2 x3 x4 x5 x6 x7 xf
                  have kz := HKc.out.2.2.1
                  have kq : Touch [] W8 W8.drew := (Touch.refl _ _).drew
                  have k0 : Touch [w.heap.size + 1 + 1] W8 W8.drew := kq.mono (by simp)
                  refine wp_region_H (S := fun w' => Touch [w.heap.size + 1 + 1] W8 w') (by kernel_rfl) ?_
                  generalize W8.drew = WD at *
                  refine wpH_take (i := 0) (v := (.agg #[.int .i64 fl, .int .i64 (bg + 1), .slice a6 (n + 1) c6, .slice ga gn gc])) (some 73) rfl rfl (by kernel_rfl) (by kernel_rfl) (by kernel_rfl) (fun _ _ _ h => h) (Or.inl ⟨by rfl, fun w' hS => (by have z0 := U0 _ hS; have z1 := U1 _ hS; have z2 := U2 _ hS; have z3 := U3 _ hS; go_simp)⟩) k0 ?_
                  try simp only [Go.Act.put, List.setIfInBounds_toArray, List.set_cons_zero, List.set_cons_succ]
                  refine wpH_take (i := 1) (v := (.pointer (some ⟨w.heap.size, 1, none⟩))) (some 74) rfl rfl (by kernel_rfl) (by kernel_rfl) (by kernel_rfl) (fun _ _ _ h => h) (Or.inl ⟨by rfl, fun w' hS => (by go_simp)⟩) k0 ?_
                  try simp only [Go.Act.put, List.setIfInBounds_toArray, List.set_cons_zero, List.set_cons_succ]
                  refine wpH_take (i := 2) (v := (.int .i64 (bg + 1))) (some 75) rfl rfl (by kernel_rfl) (by kernel_rfl) (by kernel_rfl) (fun _ _ _ h => h) (Or.inl ⟨by rfl, fun w' hS => (by have z0 := U1 _ hS; go_simp)⟩) k0 ?_
                  try simp only [Go.Act.put, List.setIfInBounds_toArray, List.set_cons_zero, List.set_cons_succ]
                  refine wpH_call (i := 3) (o := { dst := none, op := Op.store 31 (Operand.tmp 8) (Operand.tmp 73), type := 0, pos := _, after := #[{ on := 0, ground := Ground.data }, { on := 0, ground := Ground.phase }, { on := 1, ground := Ground.textOnly Departure.lateStores }, { on := 2, ground := Ground.textOnly Departure.lateStores }], guard := none }) (by kernel_rfl) rfl (fun K' hK => ?_)
                  rw [if_pos (by rfl)]
                  have kzd := kq.keep kz (by simp)
                  have z0 := cell_at (j := 0) kzd rfl
                  have z1 := cell_at (j := 1) kzd rfl
                  have z2 := cell_at (j := 2) kzd rfl
                  have z3 := cell_at (j := 3) kzd rfl
                  have zf := froz_at kzd
                  go_simp
                  obtain ⟨q4, tF⟩ := finZ kzd (.int .i64 fl) (.int .i64 (bg + 1)) (.slice a6 (n + 1) c6) (.slice ga gn gc)
                  have ks := k0.trans' tF
                  refine hK.out _ _ ks ?_
                  clear hK
                  try simp only [Go.Act.put, List.setIfInBounds_toArray, List.set_cons_zero, List.set_cons_succ]
                  refine wpH_take (i := 4) (v := (.int .i64 (bg + 1))) (some 9) rfl rfl (by kernel_rfl) (by kernel_rfl) (by kernel_rfl) (fun _ _ _ h => h) (Or.inl ⟨by rfl, fun w' hS => (by go_simp)⟩) ks ?_
                  try simp only [Go.Act.put, List.setIfInBounds_toArray, List.set_cons_zero, List.set_cons_succ]
                  refine wpH_take (i := 5) (v := (.int .i64 0)) (some 10) rfl rfl (by kernel_rfl) (by kernel_rfl) (by kernel_rfl) (fun _ _ _ h => h) (Or.inl ⟨by rfl, fun w' hS => (by go_simp)⟩) ks ?_
                  try simp only [Go.Act.put, List.setIfInBounds_toArray, List.set_cons_zero, List.set_cons_succ]
                  refine wpAnyH_done (by kernel_rfl) ?_ _
                  clear kzd z0 z1 z2 z3 zf U0 U1 U2 U3
                  go_wp2
                  have q0 := cell_at (j := 0) q4 rfl
                  have q1 := cell_at (j := 1) q4 rfl
                  have q2 := cell_at (j := 2) q4 rfl
                  have q3 := cell_at (j := 3) q4 rfl
                  exact bodyPost_ret (v := .tuple #[.agg #[.int .i64 fl, .int .i64 (bg + 1), .slice a6 (n + 1) c6, .slice ga gn gc], .int .i64 (bg + 1), .int .i64 0]) (by simp [results, Tryz.results22, go_sem, q0, q1, q2, q3]) rfl (HE.out _ _ _ _ (own_base (own_touch O6.out ks (fun b hb e => by have := (O6.out.lt b hb).1; simp at e; omega)) (by omega)) (own_base (own_touch O7.out ks (fun b hb e => by have := (O7.out.lt b hb).1; simp at e; omega)) (by omega)) (HTc.out.trans ks (fun b hb => Or.inr (by simp at hb; omega))))
                exact AllL.nil
              refine AllL.cons (o := { dst := some 70, op := Op.buildSlice 28 1 #[(0, Operand.tmp 69)], type := 28, pos := _, after := #[{ on := 4, ground := Ground.data }], guard := none }) rfl (fun K' hK => ?_) ?_
              · rw [if_pos (by rfl)]
                go_simp
                have kN := k0.alloc (.cells #[.int .i64 (bg + 1), .int .i64 gk, .int .u16 k.1, .string k.2, .bool true, .bool true, .bool false, .slice none 0 0] 78)
                have HN1 : Hid (Rs 78 8 (wc.drew.alloc (.cells #[.int .i64 (bg + 1), .int .i64 gk, .int .u16 k.1, .string k.2, .bool true, .bool true, .bool false, .slice none 0 0] 78)) (.slice (some ⟨wc.heap.size, 0, none⟩) 1 1) 1 [.int .i64 (bg + 1), .int .i64 gk, .int .u16 k.1, .string k.2, .bool true, .bool true, .bool false, .slice none 0 0]) := hid (by have q := Rs.new wc.drew #[.int .i64 (bg + 1), .int .i64 gk, .int .u16 k.1, .string k.2, .bool true, .bool true, .bool false, .slice none 0 0] 78 8 rfl; (try rw [World.size_alloc] at q); exact q)
                refine hK.out _ _ (fun _ => kN) ?_
                clear hK
                try simp only [Go.Act.put, List.setIfInBounds_toArray, List.set_cons_zero, List.set_cons_succ]
                refine wpL_ready (rs := [0]) (by kernel_rfl) (by simp) (AllL.cons (o := { dst := some 65, op := Op.buildSlice 28 0 #[], type := 28, pos := _, after := #[], guard := none }) rfl (fun K' hK => ?_) AllL.nil)
                rw [if_pos (by rfl)]
                go_simp
                have kM := kN.alloc (.cells #[] 78)
                have HM : Hid (((wc.drew.alloc (.cells #[.int .i64 (bg + 1), .int .i64 gk, .int .u16 k.1, .string k.2, .bool true, .bool true, .bool false, .slice none 0 0] 78)).alloc (.cells #[] 78)).ownsRow (wc.heap.size + 1) 78 8 (.slice (some ⟨wc.heap.size + 1, 0, none⟩) 0 0) 0 []) := hid (by have q := World.ownsRow_made (e := 78) (size := 8) (wc.drew.alloc (.cells #[.int .i64 (bg + 1), .int .i64 gk, .int .u16 k.1, .string k.2, .bool true, .bool true, .bool false, .slice none 0 0] 78)) #[] 0 (Nat.le_refl _) (by unfold maxLen; omega) rfl; (try rw [World.size_alloc] at q); exact q)
                have zM : wc.heap.size ≤ wc.heap.size + 1 := (by have q := kN.size; (try rw [World.size_alloc] at q); exact q)
                replace HN1 := hid (HN1.out.keep0 ((Touch.refl [] _).alloc (.cells #[] 78)))
                refine hK.out _ _ (fun _ => kM) ?_
                clear hK
                try simp only [Go.Act.put, List.setIfInBounds_toArray, List.set_cons_zero, List.set_cons_succ]
                refine wpL_ready (rs := [3]) (by kernel_rfl) (by simp) (AllL.cons (o := { dst := some 68, op := Op.call { callee := Callee.builtin Builtin.append, args := #[Operand.tmp 65, Operand.tmp 67], argTypes := #[28, 28] }, type := 28, pos := _, after := #[{ on := 0, ground := Ground.data }, { on := 2, ground := Ground.data }], guard := none }) rfl (fun K' hK => ?_) AllL.nil)
                refine step_append_rs _ (some 68) rfl (by rfl) _ _ 28 78 (by rfl) _ 8 72 infoR Tryz.underlying28 rfl (by decide) (wc.heap.size + 1) _ 0 [] (by rfl) HM.out _ n (ds.flatMap row8) (by rfl) (HRs.out _ (HTc.out.trans' kM)) H1.out (by have := HLn.out; unfold maxLen; omega) (by have := HLn.out; omega) (by simp <;> omega) ?_
                intro v5 w5 o5 g5
                rw [Nat.zero_add, List.nil_append] at o5
                have kP : Touch [] wc w5 := touch_grown kM g5 HM.out zM
                have zP : wc.heap.size + 1 ≤ w5.heap.size := Nat.le_trans (by simp <;> omega) g5.size
                replace HN1 := hid (HN1.out.keep ((Touch.refl _ _).grown g5 (fun q hq => Or.inl (Option.mem_toList.2 hq))) (fun g off nn cc e hh => by cases e; have h' := Option.mem_toList.1 hh; simp [Value.ownBlock] at h'))
                obtain ⟨a5, c5, e5⟩ := own_form o5
                subst e5
                have O5 := hid o5
                clear o5 g5
                refine hK.out _ _ (fun _ => kP) ?_
                clear hK
                try simp only [Go.Act.put, List.setIfInBounds_toArray, List.set_cons_zero, List.set_cons_succ]
                refine wpL_ready (rs := [6]) (by kernel_rfl) (by simp) (AllL.cons (o := { dst := some 71, op := Op.call { callee := Callee.builtin Builtin.append, args := #[Operand.tmp 68, Operand.tmp 70], argTypes := #[28, 28] }, type := 28, pos := _, after := #[{ on := 3, ground := Ground.data }, { on := 5, ground := Ground.data }, { on := 3, ground := Ground.chain }], guard := none }) rfl (fun K' hK => ?_) AllL.nil)
                refine step_append_rs _ (some 71) rfl (by rfl) _ _ 28 78 (by rfl) _ 8 72 infoR Tryz.underlying28 rfl (by decide) (wc.heap.size + 1) _ n (ds.flatMap row8) (by rfl) O5.out _ 1 [.int .i64 (bg + 1), .int .i64 gk, .int .u16 k.1, .string k.2, .bool true, .bool true, .bool false, .slice none 0 0] (by rfl) HN1.out (by simp [Value.oneCell']) (by have := HLn.out; unfold maxLen; omega) (by have := HLn.out; omega) (by have := zP; simp <;> omega) ?_
                intro v6 w6 o6 g6
                have kQ : Touch [] wc w6 := touch_grown kP g6 O5.out zM
                obtain ⟨a6, c6, e6⟩ := own_form o6
                subst e6
                have O6 := hid (own_base (B' := w.heap.size + 3) o6 (by omega))
                clear o6 g6
                refine hK.out _ _ (fun _ => kQ) ?_
                clear hK
                try simp only [Go.Act.put, List.setIfInBounds_toArray, List.set_cons_zero, List.set_cons_succ]
                refine wpL_take (i := 7) (v := (.pointer (some ⟨w.heap.size, 2, none⟩))) (some 72) rfl rfl (by kernel_rfl) (by kernel_rfl) (by kernel_rfl) (by kernel_rfl) (by kernel_rfl) (by decide) (fun _ _ _ h => h) (Or.inl ⟨by rfl, fun w' hS => (by go_simp)⟩) kQ ?_
                try simp only [Go.Act.put, List.setIfInBounds_toArray, List.set_cons_zero, List.set_cons_succ]
                refine wpL_ready (rs := [8]) (by kernel_rfl) (by simp) (AllL.cons (o := { dst := none, op := Op.store 28 (Operand.tmp 72) (Operand.tmp 71), type := 0, pos := _, after := #[{ on := 7, ground := Ground.data }, { on := 6, ground := Ground.data }, { on := 6, ground := Ground.chain }, { on := 0, ground := Ground.phase }, { on := 1, ground := Ground.phase }, { on := 2, ground := Ground.phase }, { on := 3, ground := Ground.phase }, { on := 4, ground := Ground.phase }, { on := 5, ground := Ground.phase }, { on := 6, ground := Ground.phase }], guard := none }) rfl (fun K' hK => ?_) AllL.nil)
                rw [if_pos (by rfl)]
                have t2 := cell_at (j := 2) (kQ.keep HKc.out.1 (by simp)) rfl
                have tf := froz_at (kQ.keep HKc.out.1 (by simp))
                go_simp
                refine hK.out _ _ (fun h => absurd h (by decide)) ?_
                clear hK
                try simp only [Go.Act.put, List.setIfInBounds_toArray, List.set_cons_zero, List.set_cons_succ]
                refine wpL_done (by kernel_rfl) ?_ _
                clear t2 tf k0 HRs H1 HN1 O5 HM zM
                clear U0 U1 U2 U3 X0 X1 X2 X3 X4 X5 X6 X7
                go_upto_region 14 with fail
                obtain ⟨kT, kK, kZ, kE⟩ := HKc.out
                replace kT := kQ.keep kT (by first | (simp; done) | (simp; omega))
                replace kK := kQ.keep kK (by first | (simp; done) | (simp; omega))
                replace kZ := kQ.keep kZ (by first | (simp; done) | (simp; omega))
                replace kE := kQ.keep kE (by first | (simp; done) | (simp; omega))
                replace O7 := hid (own_touch O7.out kQ (fun _ _ e => by cases e))
                replace HTc := hid (HTc.out.trans' kQ)
                clear kQ
                clear HKc
                have HKc := hid (And.intro kT (And.intro kK (And.intro kZ kE)))
                clear kT kK kZ kE
                obtain ⟨kT, kK, kZ, kE⟩ := HKc.out
                obtain ⟨W8, hW8⟩ : ∃ W, W = (w6.setCell ⟨w.heap.size, 2, none⟩ (.slice a6 (n + 1) c6)) := ⟨_, rfl⟩
                obtain ⟨kq, tq⟩ := set1 kT 2 (.slice a6 (n + 1) c6)
                rw [← hW8] at kq tq ⊢
                clear hW8
                replace kT := kq
                replace kK := tq.keep kK (by first | (simp; done) | (simp; omega))
                replace kZ := tq.keep kZ (by first | (simp; done) | (simp; omega))
                replace kE := tq.keep kE (by first | (simp; done) | (simp; omega))
                clear kq
                clear HKc
                have HKc := hid (And.intro kT (And.intro kK (And.intro kZ kE)))
                have a0 := cell_at (j := 0) kT rfl
                have a1 := cell_at (j := 1) kT rfl
                have a2 := cell_at (j := 2) kT rfl
                have a3 := cell_at (j := 3) kT rfl
                have af := froz_at kT
                have y0 := cell_at (j := 0) kK rfl
                have y1 := cell_at (j := 1) kK rfl
                have yf := froz_at kK
                have z0 := cell_at (j := 0) kZ rfl
                have z1 := cell_at (j := 1) kZ rfl
                have z2 := cell_at (j := 2) kZ rfl
                have z3 := cell_at (j := 3) kZ rfl
                have zf := froz_at kZ
                have x0 := cell_at (j := 0) kE rfl
                have x1 := cell_at (j := 1) kE rfl
                have x2 := cell_at (j := 2) kE rfl
                have x3 := cell_at (j := 3) kE rfl
                have x4 := cell_at (j := 4) kE rfl
                have x5 := cell_at (j := 5) kE rfl
                have x6 := cell_at (j := 6) kE rfl
                have x7 := cell_at (j := 7) kE rfl
                have xf := froz_at kE
                clear kT kK kZ kE
                replace HTc := hid (HTc.out.trans tq (fun b hb => Or.inr (by simp at hb; omega)))
                replace O6 := hid (own_touch O6.out tq (fun b hb e => by have := (O6.out.lt b hb).1; simp at e; omega))
                replace O7 := hid (own_touch O7.out tq (fun b hb e => by have := (O7.out.lt b hb).1; simp at e; omega))
                clear tq
                have U0 : ∀ w', Touch [w.heap.size + 1 + 1] W8 w' → w'.cell? ⟨w.heap.size, 0, none⟩ = some (.int .i64 fl) := fun w' X => cell_at (X.keep HKc.out.1 (by simp; omega)) rfl
                have U1 : ∀ w', Touch [w.heap.size + 1 + 1] W8 w' → w'.cell? ⟨w.heap.size, 1, none⟩ = some (.int .i64 (bg + 1)) := fun w' X => cell_at (X.keep HKc.out.1 (by simp; omega)) rfl
                have U2 : ∀ w', Touch [w.heap.size + 1 + 1] W8 w' → w'.cell? ⟨w.heap.size, 2, none⟩ = some (.slice a6 (n + 1) c6) := fun w' X => cell_at (X.keep HKc.out.1 (by simp; omega)) rfl
                have U3 : ∀ w', Touch [w.heap.size + 1 + 1] W8 w' → w'.cell? ⟨w.heap.size, 3, none⟩ = some (.slice ga gn gc) := fun w' X => cell_at (X.keep HKc.out.1 (by simp; omega)) rfl
                clear a0 a1 a2 a3 af y0 y1 yf z0 z1 z2 z3 zf x0 x1 x2 x3 x4 x5 x6 x7 xf
                have kz := HKc.out.2.2.1
                have kq : Touch [] W8 W8.drew := (Touch.refl _ _).drew
                have k0 : Touch [w.heap.size + 1 + 1] W8 W8.drew := kq.mono (by simp)
                refine wp_region_H (S := fun w' => Touch [w.heap.size + 1 + 1] W8 w') (by kernel_rfl) ?_
                generalize W8.drew = WD at *
                refine wpH_take (i := 0) (v := (.agg #[.int .i64 fl, .int .i64 (bg + 1), .slice a6 (n + 1) c6, .slice ga gn gc])) (some 73) rfl rfl (by kernel_rfl) (by kernel_rfl) (by kernel_rfl) (fun _ _ _ h => h) (Or.inl ⟨by rfl, fun w' hS => (by have z0 := U0 _ hS; have z1 := U1 _ hS; have z2 := U2 _ hS; have z3 := U3 _ hS; go_simp)⟩) k0 ?_
                try simp only [Go.Act.put, List.setIfInBounds_toArray, List.set_cons_zero, List.set_cons_succ]
                refine wpH_take (i := 1) (v := (.pointer (some ⟨w.heap.size, 1, none⟩))) (some 74) rfl rfl (by kernel_rfl) (by kernel_rfl) (by kernel_rfl) (fun _ _ _ h => h) (Or.inl ⟨by rfl, fun w' hS => (by go_simp)⟩) k0 ?_
                try simp only [Go.Act.put, List.setIfInBounds_toArray, List.set_cons_zero, List.set_cons_succ]
                refine wpH_take (i := 2) (v := (.int .i64 (bg + 1))) (some 75) rfl rfl (by kernel_rfl) (by kernel_rfl) (by kernel_rfl) (fun _ _ _ h => h) (Or.inl ⟨by rfl, fun w' hS => (by have z0 := U1 _ hS; go_simp)⟩) k0 ?_
                try simp only [Go.Act.put, List.setIfInBounds_toArray, List.set_cons_zero, List.set_cons_succ]
                refine wpH_call (i := 3) (o := { dst := none, op := Op.store 31 (Operand.tmp 8) (Operand.tmp 73), type := 0, pos := _, after := #[{ on := 0, ground := Ground.data }, { on := 0, ground := Ground.phase }, { on := 1, ground := Ground.textOnly Departure.lateStores }, { on := 2, ground := Ground.textOnly Departure.lateStores }], guard := none }) (by kernel_rfl) rfl (fun K' hK => ?_)
                rw [if_pos (by rfl)]
                have kzd := kq.keep kz (by simp)
                have z0 := cell_at (j := 0) kzd rfl
                have z1 := cell_at (j := 1) kzd rfl
                have z2 := cell_at (j := 2) kzd rfl
                have z3 := cell_at (j := 3) kzd rfl
                have zf := froz_at kzd
                go_simp
                obtain ⟨q4, tF⟩ := finZ kzd (.int .i64 fl) (.int .i64 (bg + 1)) (.slice a6 (n + 1) c6) (.slice ga gn gc)
                have ks := k0.trans' tF
                refine hK.out _ _ ks ?_
                clear hK
                try simp only [Go.Act.put, List.setIfInBounds_toArray, List.set_cons_zero, List.set_cons_succ]
                refine wpH_take (i := 4) (v := (.int .i64 (bg + 1))) (some 9) rfl rfl (by kernel_rfl) (by kernel_rfl) (by kernel_rfl) (fun _ _ _ h => h) (Or.inl ⟨by rfl, fun w' hS => (by go_simp)⟩) ks ?_
                try simp only [Go.Act.put, List.setIfInBounds_toArray, List.set_cons_zero, List.set_cons_succ]
                refine wpH_take (i := 5) (v := (.int .i64 0)) (some 10) rfl rfl (by kernel_rfl) (by kernel_rfl) (by kernel_rfl) (fun _ _ _ h => h) (Or.inl ⟨by rfl, fun w' hS => (by go_simp)⟩) ks ?_
                try simp only [Go.Act.put, List.setIfInBounds_toArray, List.set_cons_zero, List.set_cons_succ]
                refine wpAnyH_done (by kernel_rfl) ?_ _
                clear kzd z0 z1 z2 z3 zf U0 U1 U2 U3
                go_wp2
                have q0 := cell_at (j := 0) q4 rfl
                have q1 := cell_at (j := 1) q4 rfl
                have q2 := cell_at (j := 2) q4 rfl
                have q3 := cell_at (j := 3) q4 rfl
                exact bodyPost_ret (v := .tuple #[.agg #[.int .i64 fl, .int .i64 (bg + 1), .slice a6 (n + 1) c6, .slice ga gn gc], .int .i64 (bg + 1), .int .i64 0]) (by simp [results, Tryz.results22, go_sem, q0, q1, q2, q3]) rfl (HE.out _ _ _ _ (own_base (own_touch O6.out ks (fun b hb e => by have := (O6.out.lt b hb).1; simp at e; omega)) (by omega)) (own_base (own_touch O7.out ks (fun b hb e => by have := (O7.out.lt b hb).1; simp at e; omega)) (by omega)) (HTc.out.trans ks (fun b hb => Or.inr (by simp at hb; omega))))
              exact AllL.nil
  · have HE := hid (fun w' => HX.out w' 20 (by rw [hEe, if_pos hk]) (by omega))
    have zk : (64 : Int) < (k.2.size : Int) := by omega
    clear HX HC HO HNx hEe hpc HRs H1 hk
    go_wp2
    obtain ⟨kT, kK, kZ⟩ := HKc.out
    obtain ⟨q4, tF⟩ := finZ kZ (.int .i64 fl) (.int .i64 bg) (.slice la n lc) (.slice ga gn gc)
    have q0 := cell_at (j := 0) q4 rfl
    have q1 := cell_at (j := 1) q4 rfl
    have q2 := cell_at (j := 2) q4 rfl
    have q3 := cell_at (j := 3) q4 rfl
    exact bodyPost_ret (v := .tuple #[.agg #[.int .i64 fl, .int .i64 bg, .slice la n lc, .slice ga gn gc], .int .i64 0, .int .i64 20]) (by simp [results, Tryz.results22, go_sem, q0, q1, q2, q3]) rfl (HE.out _ (HTc.out.trans tF (fun b hb => Or.inr (by simp at hb; omega))))
end Go.Proofs.YtpihhlllembdeaaGreat
