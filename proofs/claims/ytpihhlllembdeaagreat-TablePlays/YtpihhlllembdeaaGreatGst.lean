/- What the law's stands asks of both tables: the program's answers and the document's, by one plain state. -/
import Derived.Test.YtpihhlllembdeaaGreatGbo
import Derived.Test.YtpihhlllembdeaaGreatGcu
import Derived.Test.YtpihhlllembdeaaGreatGls
import Derived.Test.YtpihhlllembdeaaGreatOpt
import Derived.Deep.RegionHeldLaw
import Derived.Test.YtpihhlllembdeaaGreatAlh
namespace Go.Proofs.YtpihhlllembdeaaGreat
open Go.RowKit Go.Maps Go.ChangeMaps
set_option linter.unusedVariables false
set_option linter.unusedSimpArgs false
theorem own_ne {w : World} {B B' e e' k k' n n' b : Nat} {v v' : Value} {xs xs' : List Value} (h1 : w.ownsRow B e k v n xs) (h2 : w.ownsRow B' e' k' v' n' xs') (he : e ≠ e') (hb : v.ownBlock = some b) : ¬ v'.ownBlock = some b := fun hb' => by
  rcases h1.2 with ⟨e1, _⟩ | ⟨g, cap, cur, rfl, hg, hc, _⟩
  · rw [e1] at hb; simp [Value.ownBlock] at hb
  · rcases h2.2 with ⟨e1, _⟩ | ⟨g', cap', cur', rfl, hg', hc', _⟩
    · rw [e1] at hb'; simp [Value.ownBlock] at hb'
    · simp [Value.ownBlock] at hb hb'
      subst hb hb'
      rw [hc] at hc'
      cases hc'
      exact he rfl
/-- Keys of the current runs. -/
def kc (T : Tb) (l : List De) : List K := (l.filter (fun d => isCur T d.R)).map (fun d => kOf d.R)
theorem kc_take {T : Tb} {ds : List De} {i : Nat} {d : De} (hd : ds[i]? = some d) : kc T (ds.take (i + 1)) = kc T (ds.take i) ++ (if isCur T d.R then [kOf d.R] else []) := by
  obtain ⟨hi, rfl⟩ := List.getElem?_eq_some_iff.1 hd
  unfold kc
  rw [List.take_succ_eq_append_getElem hi, List.filter_append, List.map_append]
  congr 1
  cases h : isCur T ds[i].R <;> simp [List.filter_cons, h]
theorem kc_le (T : Tb) (l : List De) : (kc T l).length ≤ l.length := by
  unfold kc
  rw [List.length_map]
  exact List.length_filter_le _ _
def rns (l : List De) : List Int := l.map (fun d => d.R.run)
theorem rns_take {ds : List De} {i : Nat} {d : De} (hd : ds[i]? = some d) : rns (ds.take (i + 1)) = rns (ds.take i) ++ [d.R.run] := by
  obtain ⟨hi, rfl⟩ := List.getElem?_eq_some_iff.1 hd
  unfold rns
  rw [List.take_succ_eq_append_getElem hi, List.map_append]
  rfl
section
variable {w w' : World} {t : Nat} {F : List Nat} {lv gv : Value} {ds : List De} {gs : List (K × Int)} {T : Tb} {N i : Nat} {d : De}
theorem Bo.gof (h : Bo w t F lv gv ds gs T N) : ofL gs = T.gn := funext h.dt.go
theorem Bo.mem (h : Bo w t F lv gv ds gs T N) (hd : ds[i]? = some d) : (d.R, d.S) ∈ T.rs := by
  rw [h.dt.rs]
  exact List.mem_map.2 ⟨d, List.mem_of_getElem? hd, rfl⟩
theorem Bo.run (h : Bo w t F lv gv ds gs T N) (hd : ds[i]? = some d) : runOf T d.R.run = some (d.R, d.S) := runOf_of_mem h.tq.iv (h.mem hd)
theorem Bo.w64 (h : Bo w t F lv gv ds gs T N) (hd : ds[i]? = some d) : W64 d.R.run := by
  have h1 := h.tq.iv.rng _ (h.mem hd)
  have h2 := h.tq.iv.bg.2
  have h3 := h.hN
  simp only at h1
  exact W64.mk (by omega) (by omega)
theorem Bo.ok (h : Bo w t F lv gv ds gs T N) (hd : ds[i]? = some d) : Ok (kOf d.R) := h.tq.iv.ok _ (h.mem hd)
theorem Bo.curs (h : Bo w t F lv gv ds gs T N) : (curs T).map kOf = kc T ds := by
  unfold Proofs.YtpihhlllembdeaaGreat.curs kc
  rw [h.dt.rs, desOf, List.filter_map, List.map_map, List.map_map]
  rfl
theorem Bo.runs (h : Bo w t F lv gv ds gs T N) : runsOf T = rns ds := by
  unfold runsOf rns
  rw [h.dt.rs, desOf, List.map_map]
  rfl
/-- Which run of a key is current: both say the same. -/
theorem Bo.cur (h : Bo w t F lv gv ds gs T N) (k : K) : (curOf T k = none ∧ posC (ofL gs) (desOf ds) k = -1) ∨ ∃ (j : Nat) (d : De), curOf T k = some d.R ∧ posC (ofL gs) (desOf ds) k = ((j : Nat) : Int) ∧ ds[j]? = some d ∧ kOf d.R = k := by
  rw [h.gof]
  rcases posC_lt (g := T.gn) (l := desOf ds) (k := k) with ⟨e1, e2⟩ | ⟨i, p, e1, e2, e3, e4⟩
  · refine Or.inl ⟨?_, e1⟩
    cases hc : curOf T k with
    | none => rfl
    | some R =>
      obtain ⟨⟨S, hm⟩, q1, q2⟩ := curOf_some hc
      rw [h.dt.rs] at hm
      exact absurd q2 (e2 (R, S) hm q1)
  · obtain ⟨d, hd, rfl⟩ := desOf_at' e2
    refine Or.inr ⟨i, d, ?_, e1, hd, e3⟩
    simp only at e3 e4
    have := (curOf_of_mem h.tq.iv (h.mem hd)).2 (by simp only [isCur]; rw [e3, e4]; simp)
    simp only at this
    rw [e3] at this
    exact this
theorem Bo.found (h : Bo w t F lv gv ds gs T N) (n : Int) : decide (0 ≤ posN (desOf ds) n) = (runOf T n).isSome := by
  rcases posN_lt (l := desOf ds) (n := n) with e | ⟨i, p, e1, e2, e3, e4⟩
  · rw [e]
    cases hr : runOf T n with
    | none => rfl
    | some p =>
      exfalso
      obtain ⟨h1, h2⟩ := runOf_mem hr
      rw [h.dt.rs] at h1
      obtain ⟨i, hi⟩ := List.getElem?_of_mem h1
      rcases posN_lt (l := desOf ds) (n := n) with e' | ⟨j, q, f1, _⟩
      · rw [posN_at hi h2 (fun j q hj hq => ?_)] at e
        · omega
        · have ho := h.tq.iv.ord
          rw [h.dt.rs] at ho
          have := ord_ne ho hq hi (by omega)
          omega
      · rw [f1] at e; omega
  · obtain ⟨d, hd, rfl⟩ := desOf_at' e2
    simp only at e3
    rw [e1, ← e3, h.run hd]
    simp
theorem Bo.isC (h : Bo w t F lv gv ds gs T N) (R : Rn) : Proofs.YtpihhlllembdeaaGreat.isC gs R = isCur T R := by
  unfold Proofs.YtpihhlllembdeaaGreat.isC isCur
  rw [h.gof]
/-- The program's answers about a run of the document's. -/
theorem Bo.runC (h : Bo w t F lv gv ds gs T N) (hd : ds[i]? = some d) : Calls Tryz.prog 23 #[PT t, .int .i64 d.R.run] w fun e w' => e = .returned (.tuple #[rv d.R, .bool true]) ∧ Touch [] w w' := by
  have := runT w t F T N h.tq (by have := h.hN; omega) d.R.run (h.w64 hd)
  unfold rnOf at this
  rw [h.run hd] at this
  exact this
theorem Bo.whoC (h : Bo w t F lv gv ds gs T N) (hd : ds[i]? = some d) : Calls Tryz.prog 26 #[PT t, .int .i64 d.R.run] w fun e w' => WtE e w w' d.S.who := by
  have := waitersT w t F T N h.tq (by have := h.hN; omega) d.R.run (h.w64 hd)
  unfold whoOf at this
  rw [h.run hd] at this
  exact this
theorem Bo.cancC (h : Bo w t F lv gv ds gs T N) (hd : ds[i]? = some d) : Calls Tryz.prog 27 #[PT t, .int .i64 d.R.run] w fun e w' => e = .returned (.bool d.S.canc) ∧ w' = w := by
  have := cancT w t F T N h.tq (by have := h.hN; omega) d.R.run (h.w64 hd)
  unfold cancOf at this
  rw [h.run hd] at this
  exact this
theorem Bo.isCurC (h : Bo w t F lv gv ds gs T N) (hd : ds[i]? = some d) : Calls Tryz.prog 28 #[PT t, .int .i64 d.R.run] w fun e w' => e = .returned (.bool (isCur T d.R)) ∧ Touch [] w w' := by
  have := isCurT w t F T N h.tq (by have := h.hN; omega) d.R.run (h.w64 hd)
  unfold curBy at this
  rw [h.run hd] at this
  exact this
theorem Bo.whoR (h : Bo w t F lv gv ds gs T N) (hd : ds[i]? = some d) : Rd w d.v d.S.who := Rd.of_own (h.dt.wr d (List.mem_of_getElem? hd))
theorem Bo.wlen (h : Bo w t F lv gv ds gs T N) (hd : ds[i]? = some d) : d.S.who.length ≤ 1700000000000 := Nat.le_trans (h.tq.who _ (h.mem hd)) h.hN
theorem Bo.dlen (h : Bo w t F lv gv ds gs T N) : ds.length ≤ 4096 := by
  have h1 := h.tq.iv.len
  have h2 := h.tq.iv.fl
  rw [h.dt.len] at h1
  omega
/-- The document's answers. -/
theorem Bo.isD (h : Bo w t F lv gv ds gs T N) (R : Rn) (S : St) (va : Option Addr) (vn vc : Nat) : Calls Tryz.prog 29 #[tv T lv gv, dv8 ⟨R, S, .slice va vn vc⟩] w fun e w' => e = .returned (.bool (isCur T R)) ∧ Touch [] w w' := by
  obtain ⟨la, lc, ga, gc, rfl, rfl⟩ := h.dt.form
  have := isCur_ w T.fl T.bg la ga va ds.length lc gs.length gc vn vc gs R S rfl (by have := h.gl; have := h.hN; omega) h.dt.gr
  rw [h.isC] at this
  exact this
theorem Bo.curD (h : Bo w t F lv gv ds gs T N) (k : K) : Calls Tryz.prog 30 #[tv T lv gv, kv k] w fun e w' => e = .returned (.int .i64 (posC (ofL gs) (desOf ds) k)) ∧ Touch [] w w' := by
  have hv := h.dg.vs
  obtain ⟨la, lc, ga, gc, rfl, rfl⟩ := h.dt.form
  exact current_ w T.fl T.bg la ga ds.length lc gs.length gc ds gs k rfl (by have := h.dlen; omega) rfl (by have := h.gl; have := h.hN; omega) h.dt.lr h.dt.gr hv
theorem Bo.ofD (h : Bo w t F lv gv ds gs T N) (k : K) : Calls Tryz.prog 32 #[tv T lv gv, kv k] w fun e w' => e = .returned (.int .i64 (T.gn k)) ∧ Touch [] w w' := by
  obtain ⟨la, lc, ga, gc, rfl, rfl⟩ := h.dt.form
  have := of_ w T.fl T.bg la ga ds.length lc gs.length gc gs k rfl (by have := h.gl; have := h.hN; omega) h.dt.gr
  rw [h.gof] at this
  exact this
theorem Bo.findD (h : Bo w t F lv gv ds gs T N) (n : Int) : Calls Tryz.prog 35 #[tv T lv gv, .int .i64 n] w fun e w' => e = .returned (.int .i64 (posN (desOf ds) n)) ∧ Touch [] w w' := by
  have hv := h.dg.vs
  obtain ⟨la, lc, ga, gc, rfl, rfl⟩ := h.dt.form
  exact find_ w T.fl T.bg n la ga ds.length lc gs.length gc ds rfl (by have := h.dlen; omega) h.dt.lr hv
end
/-- Both orders of the current keys are one. -/
theorem sorted_keys {T : Tb} {L : List Rn} {ys : List K} (h1 : L.Perm (curs T)) (h2 : L.Pairwise leR) (h3 : ys.Perm ((curs T).map kOf)) (h4 : ys.Pairwise leK) : ys = L.map kOf :=
  sorted_unique _ _ (h3.trans (h1.map kOf).symm) h4 (List.pairwise_map.2 h2)
/-- A row that a call owns, as a list of keys. -/
theorem sl_own {w : World} {B n : Nat} {v : Value} {xs : List K} (h : w.ownsRow B 68 2 v xs.length (xs.flatMap row2)) : Sl w v xs := by
  rcases Nat.eq_zero_or_pos xs.length with e | e
  · obtain ⟨a, c, rfl⟩ := own_form h
    have : xs = [] := List.length_eq_zero_iff.1 e
    subst this
    exact Or.inl ⟨rfl, a, c, rfl⟩
  · obtain ⟨b, c, rfl, _, _⟩ := own_some h e
    exact Or.inr ⟨b, 0, c, rfl, owns_row (e := 68) (base := B) h⟩
end Go.Proofs.YtpihhlllembdeaaGreat
/- The law's stands: where both tables are at one state every question has one answer. -/
namespace Go.Proofs.YtpihhlllembdeaaGreat
open Go.RowKit Go.Maps Go.ChangeMaps
set_option linter.unusedVariables false
set_option linter.unusedSimpArgs false
set_option maxHeartbeats 8000000 in
set_option maxRecDepth 100000 in
theorem stands_ (w : World) (t : Nat) (F : List Nat) (lv gv : Value) (ds : List De) (gs : List (K × Int)) (T : Tb) (N : Nat) (a : ActT) (hw : WfA a) (h : Bo w t F lv gv ds gs T N) :
    Calls Tryz.prog 7 #[PT t, tv T lv gv, av a] w fun e w' => e = .returned (.bool true) ∧ Touch [] w w' := by
  obtain ⟨la, lc, ga, gc, rfl, rfl⟩ := h.dt.form
  obtain ⟨n, hn⟩ : ∃ n, n = ds.length := ⟨_, rfl⟩
  obtain ⟨gn, hgn⟩ : ∃ gn, gn = gs.length := ⟨_, rfl⟩
  have HB : Hid (∀ w', Touch [] w w' → Bo w' t F (.slice la n lc) (.slice ga gn gc) ds gs T N) := hid (fun w' X => by rw [hn, hgn]; exact h.keep0 X)
  have HN := hid hn
  have zn : n ≤ 4096 := by have := h.dlen; omega
  have HW := hid hw
  obtain ⟨V, hV⟩ : ∃ V, V = (w.alloc (.cells #[.int .i64 T.fl, .int .i64 T.bg, .slice la n lc, .slice ga gn gc] 31)).alloc (.cells #[.int .i64 a.kd, .int .i64 a.rn, .int .i64 a.cl, .bool a.rf, .int .u16 a.k.1, .string a.k.2, .int .i64 a.o.1, .int .i64 a.o.2.1, .int .i64 a.o.2.2.1, .int .i64 a.o.2.2.2] 40) := ⟨_, rfl⟩
  have T0 : Touch [] w V := by rw [hV]; exact ((Touch.refl _ _).alloc _).alloc _
  have hsz : V.heap.size = w.heap.size + 2 := by rw [hV]; simp
  have kT : V.heap[w.heap.size]? = some (.cells #[.int .i64 T.fl, .int .i64 T.bg, .slice la n lc, .slice ga gn gc] 31 (0, 0)) := by rw [hV]; exact (Below.heap_alloc _ _ _ (by simp)).trans (heap_alloc_new w _)
  have kA : V.heap[w.heap.size + 1]? = some (.cells #[.int .i64 a.kd, .int .i64 a.rn, .int .i64 a.cl, .bool a.rf, .int .u16 a.k.1, .string a.k.2, .int .i64 a.o.1, .int .i64 a.o.2.1, .int .i64 a.o.2.2.1, .int .i64 a.o.2.2.2] 40 (0, 0)) := by
    rw [hV]
    have := heap_alloc_new (w.alloc (.cells #[.int .i64 T.fl, .int .i64 T.bg, .slice la n lc, .slice ga gn gc] 31)) (.cells #[.int .i64 a.kd, .int .i64 a.rn, .int .i64 a.cl, .bool a.rf, .int .u16 a.k.1, .string a.k.2, .int .i64 a.o.1, .int .i64 a.o.2.1, .int .i64 a.o.2.2.1, .int .i64 a.o.2.2.2] 40)
    rwa [World.size_alloc] at this
  obtain ⟨V2, hV2⟩ : ∃ V2, V2 = (V.alloc (.cells #[] 3)).alloc (.cells #[] 68) := ⟨_, rfl⟩
  have T2 : Touch [] V V2 := by rw [hV2]; exact ((Touch.refl _ _).alloc _).alloc _
  have HO1 : Hid (V2.ownsRow (w.heap.size + 2) 3 1 (.slice (some ⟨w.heap.size + 2, 0, none⟩) 0 0) 0 []) := hid (by
    rw [hV2, ← hsz]
    exact own_touch (World.ownsRow_made (e := 3) (size := 1) V #[] 0 (Nat.le_refl _) (by unfold maxLen; omega) rfl) ((Touch.refl [] _).alloc _) (fun _ _ e => by cases e))
  have HO2 : Hid (V2.ownsRow (w.heap.size + 2) 68 2 (.slice (some ⟨w.heap.size + 2 + 1, 0, none⟩) 0 0) 0 []) := hid (by
    rw [hV2]
    have := World.ownsRow_made (e := 68) (size := 2) (V.alloc (.cells #[] 3)) #[] 0 (Nat.le_refl _) (by unfold maxLen; omega) rfl
    rw [World.size_alloc, hsz] at this
    exact own_base this (by omega))
  have HKc0 := hid (And.intro (T2.keep kT (by simp)) (T2.keep kA (by simp)))
  have HT2 := hid (T0.trans' T2)
  have HG : Hid (∀ w', Touch [] w w' → w'.ownsRow 0 78 8 (.slice la n lc) n (ds.flatMap row8)) := hid (fun w' X => by have := (h.keep0 X).dt.lr; rw [← hn] at this; exact this)
  unfold tv av
  rw [← hn, ← hgn]
  clear h hn hgn hw T0 T2
  clear kT kA
  unfold PT
  go_enter Tryz.func7, Tryz.ntmps7
  go_upto_region 1 with fail
  rw [← hV]
  clear hV
  go_upto_region 2 with fail
  rw [← hV2]
  clear hV2 hsz
  have tb2 := cell_at (j := 2) HKc0.out.1 rfl
  go_wp2_with fail
  clear tb2
  go_loopw [7, 8, 25] (fun s7 s8 s25 wr => ∃ (i : Nat) (na : Option Addr) (nc : Nat) (ka : Option Addr) (kl kc' : Nat), s7 = .slice na i nc ∧ s8 = .slice ka kl kc' ∧ s25 = .int .i64 (i : Int) ∧ i ≤ n ∧ Hid (wr.ownsRow (w.heap.size + 2) 3 1 (.slice na i nc) i (ints (rns (ds.take i)))) ∧ Hid (wr.ownsRow (w.heap.size + 2) 68 2 (.slice ka kl kc') kl ((kc T (ds.take i)).flatMap row2)) ∧ Hid (kl = (kc T (ds.take i)).length) ∧ Hid ((wr.heap[w.heap.size]? = some (.cells #[.int .i64 T.fl, .int .i64 T.bg, .slice la n lc, .slice ga gn gc] 31 (0, 0)) ∧ wr.heap[w.heap.size + 1]? = some (.cells #[.int .i64 a.kd, .int .i64 a.rn, .int .i64 a.cl, .bool a.rf, .int .u16 a.k.1, .string a.k.2, .int .i64 a.o.1, .int .i64 a.o.2.1, .int .i64 a.o.2.2.1, .int .i64 a.o.2.2.2] 40 (0, 0))) ∧ w.heap.size + 2 ≤ wr.heap.size) ∧ Hid (Touch [] w wr)) (fun _ _ s25 _ => n - (intOf s25).toNat)
  case atStart => exact ⟨0, _, 0, _, 0, 0, rfl, rfl, rfl, Nat.zero_le _, HO1, HO2, rfl, ⟨HKc0.out, by have := block_lt HKc0.out.2; omega⟩, HT2⟩
  case round =>
    obtain ⟨i, na, nc, ka, kl, kc', rfl, rfl, rfl, hi, HO, HK, HKl, HKz, HTc⟩ := hrel
    have HKc := hid HKz.out.1
    have zW := HKz.out.2
    clear HO1 HO2 HKc0 HT2 HKz
    by_cases hlt : i < n
    · have zi : (i : Int) < (n : Int) := by omega
      obtain ⟨d, hx⟩ : ∃ d, ds[i]? = some d := ⟨_, List.getElem?_eq_getElem (by have := HN.out; omega)⟩
      obtain ⟨R, S, v⟩ := d
      obtain ⟨va, vm, vc, ev⟩ := (HB.out _ HTc.out).dg.vs _ (List.mem_of_getElem? hx)
      simp only at ev
      subst ev
      obtain ⟨g, c0, e, _, _⟩ := own_some (HG.out _ HTc.out) (by omega)
      cases e
      obtain ⟨r0, r1, r2, r3, r4, r5, r6, r7⟩ := lr_cells (HG.out _ HTc.out) hx
      simp only at r0 r1 r2 r3 r4 r5 r6 r7
      obtain ⟨ic, hic⟩ : ∃ ic, ic = isCur T R := ⟨_, rfl⟩
      obtain ⟨gk, hgk⟩ : ∃ gk, gk = T.gn (kOf R) := ⟨_, rfl⟩
      have HRn : Hid (∀ w', Touch [] w w' → Calls Tryz.prog 23 #[.pointer (some ⟨t, 0, none⟩), .int .i64 R.run] w' fun e w2 => e = .returned (.tuple #[.agg #[.int .i64 R.run, .int .u16 R.sp, .string R.nm, .int .i64 R.gen, .bool R.rf], .bool true]) ∧ Touch [] w' w2) := hid (fun w' X => (HB.out w' X).runC hx)
      have HLr : Hid (∀ w', Calls Tryz.prog 24 #[.agg #[.int .i64 R.run, .int .i64 R.gen, .int .u16 R.sp, .string R.nm, .bool R.rf, .bool S.kept, .bool S.canc, .slice va vm vc]] w' fun e w2 => e = .returned (.agg #[.int .i64 R.run, .int .u16 R.sp, .string R.nm, .int .i64 R.gen, .bool R.rf]) ∧ Touch [] w' w2) := hid (fun w' => lrun_ w' ⟨R, S, .slice va vm vc⟩ va vm vc rfl)
      have HWt : Hid (∀ w', Touch [] w w' → Calls Tryz.prog 26 #[.pointer (some ⟨t, 0, none⟩), .int .i64 R.run] w' fun e w2 => ∃ wa wm wc, e = .returned (.slice wa wm wc) ∧ Rd w2 (.slice wa wm wc) S.who ∧ Touch [] w' w2) := hid (fun w' X => ((HB.out w' X).whoC hx).mono (fun e w2 q => by obtain ⟨v, rfl, q1, _, q3⟩ := q; obtain ⟨wa, wc, rfl, _, _⟩ := q1.form; exact ⟨wa, _, wc, rfl, q1, q3⟩))
      have HSm : Hid (∀ w', Touch [] w w' → ∀ wa wm wc, Rd w' (.slice wa wm wc) S.who → Calls Tryz.prog 25 #[.slice wa wm wc, .slice va vm vc] w' fun e w2 => e = .returned (.bool true) ∧ Touch [] w' w2) := hid (fun w' X wa wm wc hv => same_ w' _ _ S.who hv ((HB.out w' X).whoR hx) (by have := (HB.out w' X).wlen hx; simp only at this; omega))
      have HCc : Hid (∀ w', Touch [] w w' → Calls Tryz.prog 27 #[.pointer (some ⟨t, 0, none⟩), .int .i64 R.run] w' fun e w2 => e = .returned (.bool S.canc) ∧ Touch [] w' w2) := hid (fun w' X => ((HB.out w' X).cancC hx).mono (fun e w2 q => ⟨q.1, by rw [q.2]; exact Touch.refl _ _⟩))
      have HIc : Hid (∀ w', Touch [] w w' → Calls Tryz.prog 28 #[.pointer (some ⟨t, 0, none⟩), .int .i64 R.run] w' fun e w2 => e = .returned (.bool ic) ∧ Touch [] w' w2) := hid (fun w' X => by rw [hic]; exact (HB.out w' X).isCurC hx)
      have HId : Hid (∀ w', Touch [] w w' → Calls Tryz.prog 29 #[.agg #[.int .i64 T.fl, .int .i64 T.bg, .slice (some ⟨g, 0, none⟩) n lc, .slice ga gn gc], .agg #[.int .i64 R.run, .int .i64 R.gen, .int .u16 R.sp, .string R.nm, .bool R.rf, .bool S.kept, .bool S.canc, .slice va vm vc]] w' fun e w2 => e = .returned (.bool ic) ∧ Touch [] w' w2) := hid (fun w' X => by rw [hic]; exact (HB.out w' X).isD R S va vm vc)
      have HGe : Hid (∀ w', Touch [] w w' → Calls Tryz.prog 31 #[.pointer (some ⟨t, 0, none⟩), .agg #[.int .u16 R.sp, .string R.nm]] w' fun e w2 => e = .returned (.int .i64 gk) ∧ Touch [] w' w2) := hid (fun w' X => by rw [hgk]; exact gennT w' t F T N (HB.out w' X).tq (kOf R) ((HB.out w' X).ok hx))
      have HOf : Hid (∀ w', Touch [] w w' → Calls Tryz.prog 32 #[.agg #[.int .i64 T.fl, .int .i64 T.bg, .slice (some ⟨g, 0, none⟩) n lc, .slice ga gn gc], .agg #[.int .u16 R.sp, .string R.nm]] w' fun e w2 => e = .returned (.int .i64 gk) ∧ Touch [] w' w2) := hid (fun w' X => by rw [hgk]; exact (HB.out w' X).ofD (kOf R))
      obtain ⟨cn, hcn⟩ : ∃ cn, cn = ((curOf T (kOf R)).map Rn.run).getD 0 := ⟨_, rfl⟩
      obtain ⟨co, hco⟩ : ∃ co, co = (curOf T (kOf R)).isSome := ⟨_, rfl⟩
      obtain ⟨pc, hpc⟩ : ∃ pc, pc = posC (ofL gs) (desOf ds) (kOf R) := ⟨_, rfl⟩
      have HCu : Hid (∀ w', Touch [] w w' → Calls Tryz.prog 9 #[.pointer (some ⟨t, 0, none⟩), .agg #[.int .u16 R.sp, .string R.nm]] w' fun e w2 => e = .returned (.tuple #[.int .i64 cn, .bool co]) ∧ Touch [] w' w2) := hid (fun w' X => by rw [hcn, hco]; exact currentT w' t F T N (HB.out w' X).tq (kOf R) ((HB.out w' X).ok hx))
      have HPc : Hid (∀ w', Touch [] w w' → Calls Tryz.prog 30 #[.agg #[.int .i64 T.fl, .int .i64 T.bg, .slice (some ⟨g, 0, none⟩) n lc, .slice ga gn gc], .agg #[.int .u16 R.sp, .string R.nm]] w' fun e w2 => e = .returned (.int .i64 pc) ∧ Touch [] w' w2) := hid (fun w' X => by rw [hpc]; exact (HB.out w' X).curD (kOf R))
      have HCs : Hid ((co = false ∧ cn = 0 ∧ pc = -1) ∨ ∃ j : Nat, co = true ∧ pc = ((j : Nat) : Int) ∧ j < n ∧ ∀ w', Touch [] w w' → w'.cell? ⟨g, j * 8, none⟩ = some (.int .i64 cn)) := hid (by
        rcases (HB.out _ HTc.out).cur (kOf R) with ⟨q1, q2⟩ | ⟨j, d', q1, q2, q3, q4⟩
        · exact Or.inl ⟨by rw [hco, q1]; rfl, by rw [hcn, q1]; rfl, by rw [hpc, q2]⟩
        · refine Or.inr ⟨j, by rw [hco, q1]; rfl, by rw [hpc, q2], by have := (List.getElem?_eq_some_iff.1 q3).1; have := HN.out; omega, fun w' X => ?_⟩
          have := (lr_cells (HG.out w' X) q3).1
          rw [hcn, q1]
          exact this)
      have HX := hid hx
      have HIC := hid hic
      have rk := fun W => runKey W R.run R.sp R.gen R.nm R.rf
      clear hic hgk hcn hco hpc
      obtain ⟨kT, kA⟩ := HKc.out
      have a0 := cell_at (j := 0) kT rfl
      have a1 := cell_at (j := 1) kT rfl
      have a2 := cell_at (j := 2) kT rfl
      have a3 := cell_at (j := 3) kT rfl
      have af := froz_at kT
      have y0 := cell_at (j := 0) kA rfl
      have y1 := cell_at (j := 1) kA rfl
      have y2 := cell_at (j := 2) kA rfl
      have y3 := cell_at (j := 3) kA rfl
      have y4 := cell_at (j := 4) kA rfl
      have y5 := cell_at (j := 5) kA rfl
      have y6 := cell_at (j := 6) kA rfl
      have y7 := cell_at (j := 7) kA rfl
      have y8 := cell_at (j := 8) kA rfl
      have y9 := cell_at (j := 9) kA rfl
      have yf := froz_at kA
      clear kT kA
      go_upto_region 5 with fail
      clear r0 r1 r2 r3 r4 r5 r6 r7 hx
      have HNb : Hid (∀ b, (Value.slice na i nc).ownBlock = some b → b < wr.heap.size) := hid (fun b hb => (HO.out.lt b hb).2)
      obtain ⟨W1, hW1⟩ : ∃ W, W = wr.alloc (.cells #[.int .i64 R.run, .int .i64 R.gen, .int .u16 R.sp, .string R.nm, .bool R.rf, .bool S.kept, .bool S.canc, .slice va vm vc] 78) := ⟨_, rfl⟩
      have tq : Touch [] wr W1 := by rw [hW1]; exact (Touch.refl _ _).alloc _
      have kE : W1.heap[wr.heap.size]? = some (.cells #[.int .i64 R.run, .int .i64 R.gen, .int .u16 R.sp, .string R.nm, .bool R.rf, .bool S.kept, .bool S.canc, .slice va vm vc] 78 (0, 0)) := by rw [hW1]; exact heap_alloc_new wr _
      obtain ⟨kT, kA⟩ := HKc.out
      replace kT := tq.keep kT (by first | (simp; done) | (simp; omega))
      replace kA := tq.keep kA (by first | (simp; done) | (simp; omega))
      replace HTc := hid (HTc.out.trans' tq)
      replace HO := hid (own_touch HO.out tq (fun _ _ e => by cases e))
      replace HK := hid (own_touch HK.out tq (fun _ _ e => by cases e))
      rw [← hW1]
      have zzE : wr.heap.size < W1.heap.size := block_lt kE
      clear hW1 tq
      generalize wr.heap.size = eb at *
      clear HKc a0 a1 a2 a3 af y0 y1 y2 y3 y4 y5 y6 y7 y8 y9 yf
      have HKc := hid (And.intro kT (And.intro kA kE))
      have a0 := cell_at (j := 0) kT rfl
      have a1 := cell_at (j := 1) kT rfl
      have a2 := cell_at (j := 2) kT rfl
      have a3 := cell_at (j := 3) kT rfl
      have af := froz_at kT
      have y0 := cell_at (j := 0) kA rfl
      have y1 := cell_at (j := 1) kA rfl
      have y2 := cell_at (j := 2) kA rfl
      have y3 := cell_at (j := 3) kA rfl
      have y4 := cell_at (j := 4) kA rfl
      have y5 := cell_at (j := 5) kA rfl
      have y6 := cell_at (j := 6) kA rfl
      have y7 := cell_at (j := 7) kA rfl
      have y8 := cell_at (j := 8) kA rfl
      have y9 := cell_at (j := 9) kA rfl
      have yf := froz_at kA
      have x0 := cell_at (j := 0) kE rfl
      have x1 := cell_at (j := 1) kE rfl
      have x2 := cell_at (j := 2) kE rfl
      have x3 := cell_at (j := 3) kE rfl
      have x4 := cell_at (j := 4) kE rfl
      have x5 := cell_at (j := 5) kE rfl
      have x6 := cell_at (j := 6) kE rfl
      have x7 := cell_at (j := 7) kE rfl
      have xf := froz_at kE
      clear kT kA kE
      have ta : Touch [] W1 (W1.alloc (.cells #[.int .i64 R.run] 3)) := (Touch.refl _ _).alloc _
      go_upto_region 6 with (at_builtin; refine wpList_append_rs rfl _ _ 75 3 rfl _ 1 8 info3 Tryz.underlying75 rfl (by decide) (w.heap.size + 2) (.slice na i nc) i (ints (rns (ds.take i))) rfl (own_touch HO.out ta (fun _ _ e => by cases e)) _ 1 [.int .i64 R.run] rfl (Rs.new W1 #[.int .i64 R.run] 3 1 rfl) (by simp [Value.oneCell']) (by unfold maxLen; omega) (by omega) (by simp; omega) ?_; intro v5 w5 o5 g5 p5; have tg : Touch (Value.slice na i nc).ownBlock.toList W1 w5 := (ta.mono (fun _ e => by cases e)).trans' ((Touch.refl _ _).grown g5 (fun q hq => Or.inl (Option.mem_toList.2 hq))); obtain ⟨kT, kA, kE⟩ := HKc.out; replace kT := tg.keep kT (fun e => by have q1 := (HO.out.lt _ (Option.mem_toList.1 e)).1; have q2 := HNb.out _ (Option.mem_toList.1 e); omega); replace kA := tg.keep kA (fun e => by have q1 := (HO.out.lt _ (Option.mem_toList.1 e)).1; have q2 := HNb.out _ (Option.mem_toList.1 e); omega); replace kE := tg.keep kE (fun e => by have q1 := (HO.out.lt _ (Option.mem_toList.1 e)).1; have q2 := HNb.out _ (Option.mem_toList.1 e); omega); replace HK := hid (own_touch HK.out tg (fun b hb e => own_ne HK.out HO.out (by decide) hb (Option.mem_toList.1 e))); replace HTc := hid (HTc.out.trans tg (fun b hb => Or.inr (by have := (HO.out.lt b (Option.mem_toList.1 hb)).1; omega))); obtain ⟨nb, mc, e5⟩ := own_form o5; subst e5; clear HO HNb; have HO := hid o5; clear g5 p5 o5 tg; clear HKc a0 a1 a2 a3 af y0 y1 y2 y3 y4 y5 y6 y7 y8 y9 yf x0 x1 x2 x3 x4 x5 x6 x7 xf; have HKc := hid (And.intro kT (And.intro kA kE)); have a0 := cell_at (j := 0) kT rfl; have a1 := cell_at (j := 1) kT rfl; have a2 := cell_at (j := 2) kT rfl; have a3 := cell_at (j := 3) kT rfl; have af := froz_at kT; have y0 := cell_at (j := 0) kA rfl; have y1 := cell_at (j := 1) kA rfl; have y2 := cell_at (j := 2) kA rfl; have y3 := cell_at (j := 3) kA rfl; have y4 := cell_at (j := 4) kA rfl; have y5 := cell_at (j := 5) kA rfl; have y6 := cell_at (j := 6) kA rfl; have y7 := cell_at (j := 7) kA rfl; have y8 := cell_at (j := 8) kA rfl; have y9 := cell_at (j := 9) kA rfl; have yf := froz_at kA; have x0 := cell_at (j := 0) kE rfl; have x1 := cell_at (j := 1) kE rfl; have x2 := cell_at (j := 2) kE rfl; have x3 := cell_at (j := 3) kE rfl; have x4 := cell_at (j := 4) kE rfl; have x5 := cell_at (j := 5) kE rfl; have x6 := cell_at (j := 6) kE rfl; have x7 := cell_at (j := 7) kE rfl; have xf := froz_at kE; clear kT kA kE)
      clear ta
      go_upto_region 7 with (go_at_call 23; refine (HRn.out _ HTc.out).mono ?_; rintro e w6 ⟨rfl, t6⟩; obtain ⟨kT, kA, kE⟩ := HKc.out; replace kT := t6.keep kT (by first | (simp; done) | (simp; omega)); replace kA := t6.keep kA (by first | (simp; done) | (simp; omega)); replace kE := t6.keep kE (by first | (simp; done) | (simp; omega)); clear HKc a0 a1 a2 a3 af y0 y1 y2 y3 y4 y5 y6 y7 y8 y9 yf x0 x1 x2 x3 x4 x5 x6 x7 xf; have HKc := hid (And.intro kT (And.intro kA kE)); have a0 := cell_at (j := 0) kT rfl; have a1 := cell_at (j := 1) kT rfl; have a2 := cell_at (j := 2) kT rfl; have a3 := cell_at (j := 3) kT rfl; have af := froz_at kT; have y0 := cell_at (j := 0) kA rfl; have y1 := cell_at (j := 1) kA rfl; have y2 := cell_at (j := 2) kA rfl; have y3 := cell_at (j := 3) kA rfl; have y4 := cell_at (j := 4) kA rfl; have y5 := cell_at (j := 5) kA rfl; have y6 := cell_at (j := 6) kA rfl; have y7 := cell_at (j := 7) kA rfl; have y8 := cell_at (j := 8) kA rfl; have y9 := cell_at (j := 9) kA rfl; have yf := froz_at kA; have x0 := cell_at (j := 0) kE rfl; have x1 := cell_at (j := 1) kE rfl; have x2 := cell_at (j := 2) kE rfl; have x3 := cell_at (j := 3) kE rfl; have x4 := cell_at (j := 4) kE rfl; have x5 := cell_at (j := 5) kE rfl; have x6 := cell_at (j := 6) kE rfl; have x7 := cell_at (j := 7) kE rfl; have xf := froz_at kE; clear kT kA kE; replace HTc := hid (HTc.out.trans' t6); replace HO := hid (own_touch HO.out t6 (fun _ _ e => by cases e)); replace HK := hid (own_touch HK.out t6 (fun _ _ e => by cases e)); clear t6)
      clear HRn
      have zw6 : w.heap.size + 2 ≤ w6.heap.size := by have := block_lt HKc.out.2.1; omega
      obtain ⟨W7, hW7⟩ : ∃ W, W = w6.alloc (.cells #[.int .i64 R.run, .int .u16 R.sp, .string R.nm, .int .i64 R.gen, .bool R.rf] 80) := ⟨_, rfl⟩
      have tq : Touch [] w6 W7 := by rw [hW7]; exact (Touch.refl _ _).alloc _
      have kR : W7.heap[w6.heap.size]? = some (.cells #[.int .i64 R.run, .int .u16 R.sp, .string R.nm, .int .i64 R.gen, .bool R.rf] 80 (0, 0)) := by rw [hW7]; exact heap_alloc_new w6 _
      obtain ⟨kT, kA, kE⟩ := HKc.out
      replace kT := tq.keep kT (by first | (simp; done) | (simp; omega))
      replace kA := tq.keep kA (by first | (simp; done) | (simp; omega))
      replace kE := tq.keep kE (by first | (simp; done) | (simp; omega))
      replace HTc := hid (HTc.out.trans' tq)
      replace HO := hid (own_touch HO.out tq (fun _ _ e => by cases e))
      replace HK := hid (own_touch HK.out tq (fun _ _ e => by cases e))
      rw [← hW7]
      have zzR : w6.heap.size < W7.heap.size := block_lt kR
      clear hW7 tq
      generalize w6.heap.size = rb at *
      clear HKc a0 a1 a2 a3 af y0 y1 y2 y3 y4 y5 y6 y7 y8 y9 yf x0 x1 x2 x3 x4 x5 x6 x7 xf
      have HKc := hid (And.intro kT (And.intro kA (And.intro kE kR)))
      clear kT kA kE kR
      have U0 : ∀ w', Touch [] W7 w' → w'.cell? ⟨w.heap.size, 0, none⟩ = some (.int .i64 T.fl) := fun w' X => cell_at (X.keep HKc.out.1 (by simp)) rfl
      have U1 : ∀ w', Touch [] W7 w' → w'.cell? ⟨w.heap.size, 1, none⟩ = some (.int .i64 T.bg) := fun w' X => cell_at (X.keep HKc.out.1 (by simp)) rfl
      have U2 : ∀ w', Touch [] W7 w' → w'.cell? ⟨w.heap.size, 2, none⟩ = some (.slice (some ⟨g, 0, none⟩) n lc) := fun w' X => cell_at (X.keep HKc.out.1 (by simp)) rfl
      have U3 : ∀ w', Touch [] W7 w' → w'.cell? ⟨w.heap.size, 3, none⟩ = some (.slice ga gn gc) := fun w' X => cell_at (X.keep HKc.out.1 (by simp)) rfl
      have X0 : ∀ w', Touch [] W7 w' → w'.cell? ⟨eb, 0, none⟩ = some (.int .i64 R.run) := fun w' X => cell_at (X.keep HKc.out.2.2.1 (by simp)) rfl
      have X1 : ∀ w', Touch [] W7 w' → w'.cell? ⟨eb, 1, none⟩ = some (.int .i64 R.gen) := fun w' X => cell_at (X.keep HKc.out.2.2.1 (by simp)) rfl
      have X2 : ∀ w', Touch [] W7 w' → w'.cell? ⟨eb, 2, none⟩ = some (.int .u16 R.sp) := fun w' X => cell_at (X.keep HKc.out.2.2.1 (by simp)) rfl
      have X3 : ∀ w', Touch [] W7 w' → w'.cell? ⟨eb, 3, none⟩ = some (.string R.nm) := fun w' X => cell_at (X.keep HKc.out.2.2.1 (by simp)) rfl
      have X4 : ∀ w', Touch [] W7 w' → w'.cell? ⟨eb, 4, none⟩ = some (.bool R.rf) := fun w' X => cell_at (X.keep HKc.out.2.2.1 (by simp)) rfl
      have X5 : ∀ w', Touch [] W7 w' → w'.cell? ⟨eb, 5, none⟩ = some (.bool S.kept) := fun w' X => cell_at (X.keep HKc.out.2.2.1 (by simp)) rfl
      have X6 : ∀ w', Touch [] W7 w' → w'.cell? ⟨eb, 6, none⟩ = some (.bool S.canc) := fun w' X => cell_at (X.keep HKc.out.2.2.1 (by simp)) rfl
      have X7 : ∀ w', Touch [] W7 w' → w'.cell? ⟨eb, 7, none⟩ = some (.slice va vm vc) := fun w' X => cell_at (X.keep HKc.out.2.2.1 (by simp)) rfl
      have Z0 : ∀ w', Touch [] W7 w' → w'.cell? ⟨rb, 0, none⟩ = some (.int .i64 R.run) := fun w' X => cell_at (X.keep HKc.out.2.2.2 (by simp)) rfl
      have Z1 : ∀ w', Touch [] W7 w' → w'.cell? ⟨rb, 1, none⟩ = some (.int .u16 R.sp) := fun w' X => cell_at (X.keep HKc.out.2.2.2 (by simp)) rfl
      have Z2 : ∀ w', Touch [] W7 w' → w'.cell? ⟨rb, 2, none⟩ = some (.string R.nm) := fun w' X => cell_at (X.keep HKc.out.2.2.2 (by simp)) rfl
      have Z3 : ∀ w', Touch [] W7 w' → w'.cell? ⟨rb, 3, none⟩ = some (.int .i64 R.gen) := fun w' X => cell_at (X.keep HKc.out.2.2.2 (by simp)) rfl
      have Z4 : ∀ w', Touch [] W7 w' → w'.cell? ⟨rb, 4, none⟩ = some (.bool R.rf) := fun w' X => cell_at (X.keep HKc.out.2.2.2 (by simp)) rfl
      have k0 : Touch [] W7 W7.drew := (Touch.refl _ _).drew
      refine wp_region_H (S := fun w' => Touch [] W7 w') (by kernel_rfl) ?_
      generalize W7.drew = WD at *
      refine wpH_take (i := 0) (v := (.agg #[.int .i64 R.run, .int .u16 R.sp, .string R.nm, .int .i64 R.gen, .bool R.rf])) (some 41) rfl rfl (by kernel_rfl) (by kernel_rfl) (by kernel_rfl) (fun _ _ _ h => h) (Or.inl ⟨by rfl, fun w' hS => (by have z0 := Z0 _ hS; have z1 := Z1 _ hS; have z2 := Z2 _ hS; have z3 := Z3 _ hS; have z4 := Z4 _ hS; go_simp)⟩) k0 ?_
      try simp only [Go.Act.put, List.setIfInBounds_toArray, List.set_cons_zero, List.set_cons_succ]
      refine wpH_take (i := 1) (v := (.agg #[.int .i64 R.run, .int .i64 R.gen, .int .u16 R.sp, .string R.nm, .bool R.rf, .bool S.kept, .bool S.canc, .slice va vm vc])) (some 42) rfl rfl (by kernel_rfl) (by kernel_rfl) (by kernel_rfl) (fun _ _ _ h => h) (Or.inl ⟨by rfl, fun w' hS => (by have z0 := X0 _ hS; have z1 := X1 _ hS; have z2 := X2 _ hS; have z3 := X3 _ hS; have z4 := X4 _ hS; have z5 := X5 _ hS; have z6 := X6 _ hS; have z7 := X7 _ hS; go_simp)⟩) k0 ?_
      try simp only [Go.Act.put, List.setIfInBounds_toArray, List.set_cons_zero, List.set_cons_succ]
      refine wpH_call (i := 2) (o := { dst := some 43, op := Op.call { callee := Callee.value (Operand.func 24), args := #[Operand.tmp 42], argTypes := #[78] }, type := 80, pos := _, after := #[{ on := 1, ground := Ground.data }], guard := none }) (by kernel_rfl) rfl (fun K' hK => ?_)
      rw [if_pos (by rfl)]
      go_simp
      refine (HLr.out _).mono ?_
      rintro e' w52 ⟨rfl, t52⟩
      have k3 := k0.trans' t52
      refine hK.out _ _ k3 ?_
      clear hK
      try simp only [Go.Act.put, List.setIfInBounds_toArray, List.set_cons_zero, List.set_cons_succ]
      refine wpH_take (i := 3) (v := (.bool false)) (some 44) rfl rfl (by kernel_rfl) (by kernel_rfl) (by kernel_rfl) (fun _ _ _ h => h) (Or.inl ⟨by rfl, fun w' hS => (by go_simp)⟩) k3 ?_
      try simp only [Go.Act.put, List.setIfInBounds_toArray, List.set_cons_zero, List.set_cons_succ]
      refine wpH_take (i := 4) (v := (.bool false)) (some 45) rfl rfl (by kernel_rfl) (by kernel_rfl) (by kernel_rfl) (fun _ _ _ h => h) (Or.inl ⟨by rfl, fun w' hS => (by go_simp)⟩) k3 ?_
      try simp only [Go.Act.put, List.setIfInBounds_toArray, List.set_cons_zero, List.set_cons_succ]
      refine wpH_take (i := 5) (v := (.bool true)) (some 46) rfl rfl (by kernel_rfl) (by kernel_rfl) (by kernel_rfl) (fun _ _ _ h => h) (Or.inl ⟨by rfl, fun w' hS => (by go_simp)⟩) k3 ?_
      try simp only [Go.Act.put, List.setIfInBounds_toArray, List.set_cons_zero, List.set_cons_succ]
      refine wpH_take (i := 6) (v := (.bool false)) (some 47) rfl rfl (by kernel_rfl) (by kernel_rfl) (by kernel_rfl) (fun _ _ _ h => h) (Or.inl ⟨by rfl, fun w' hS => (by go_simp)⟩) k3 ?_
      try simp only [Go.Act.put, List.setIfInBounds_toArray, List.set_cons_zero, List.set_cons_succ]
      refine wpH_take (i := 7) (v := (.bool false)) (some 48) rfl rfl (by kernel_rfl) (by kernel_rfl) (by kernel_rfl) (fun _ _ _ h => h) (Or.inl ⟨by rfl, fun w' hS => (by go_simp)⟩) k3 ?_
      try simp only [Go.Act.put, List.setIfInBounds_toArray, List.set_cons_zero, List.set_cons_succ]
      refine wpH_take (i := 8) (v := (.bool false)) (some 49) rfl rfl (by kernel_rfl) (by kernel_rfl) (by kernel_rfl) (fun _ _ _ h => h) (Or.inl ⟨by rfl, fun w' hS => (by go_simp)⟩) k3 ?_
      try simp only [Go.Act.put, List.setIfInBounds_toArray, List.set_cons_zero, List.set_cons_succ]
      refine wpH_take (i := 9) (v := (.pointer (some ⟨t, 0, none⟩))) (some 50) rfl rfl (by kernel_rfl) (by kernel_rfl) (by kernel_rfl) (fun _ _ _ h => h) (Or.inl ⟨by rfl, fun w' hS => (by go_simp)⟩) k3 ?_
      try simp only [Go.Act.put, List.setIfInBounds_toArray, List.set_cons_zero, List.set_cons_succ]
      refine wpH_take (i := 10) (v := (.pointer (some ⟨eb, 0, none⟩))) (some 51) rfl rfl (by kernel_rfl) (by kernel_rfl) (by kernel_rfl) (fun _ _ _ h => h) (Or.inl ⟨by rfl, fun w' hS => (by go_simp)⟩) k3 ?_
      try simp only [Go.Act.put, List.setIfInBounds_toArray, List.set_cons_zero, List.set_cons_succ]
      refine wpH_take (i := 11) (v := (.int .i64 R.run)) (some 52) rfl rfl (by kernel_rfl) (by kernel_rfl) (by kernel_rfl) (fun _ _ _ h => h) (Or.inl ⟨by rfl, fun w' hS => (by have z0 := X0 _ hS; go_simp)⟩) k3 ?_
      try simp only [Go.Act.put, List.setIfInBounds_toArray, List.set_cons_zero, List.set_cons_succ]
      refine wpH_take (i := 13) (v := (.pointer (some ⟨eb, 7, none⟩))) (some 54) rfl rfl (by kernel_rfl) (by kernel_rfl) (by kernel_rfl) (fun _ _ _ h => h) (Or.inl ⟨by rfl, fun w' hS => (by go_simp)⟩) k3 ?_
      try simp only [Go.Act.put, List.setIfInBounds_toArray, List.set_cons_zero, List.set_cons_succ]
      refine wpH_take (i := 14) (v := (.slice va vm vc)) (some 55) rfl rfl (by kernel_rfl) (by kernel_rfl) (by kernel_rfl) (fun _ _ _ h => h) (Or.inl ⟨by rfl, fun w' hS => (by have z0 := X7 _ hS; go_simp)⟩) k3 ?_
      try simp only [Go.Act.put, List.setIfInBounds_toArray, List.set_cons_zero, List.set_cons_succ]
      refine wpH_call (i := 12) (o := { dst := some 53, op := Op.call { callee := Callee.value (Operand.func 26), args := #[Operand.tmp 50, Operand.tmp 52], argTypes := #[23, 3] }, type := 75, pos := _, after := #[{ on := 9, ground := Ground.data }, { on := 11, ground := Ground.data }, { on := 8, ground := Ground.chain }, { on := 8, ground := Ground.guard }], guard := some (8, false) }) (by kernel_rfl) rfl (fun K' hK => ?_)
      rw [if_pos (by rfl)]
      go_simp
      refine (HWt.out _ (HTc.out.trans' k3)).mono ?_
      rintro e' w62 ⟨wa, wm, wc, rfl, hwr, t62⟩
      have k13 := k3.trans' t62
      refine hK.out _ _ k13 ?_
      clear hK
      try simp only [Go.Act.put, List.setIfInBounds_toArray, List.set_cons_zero, List.set_cons_succ]
      refine wpH_call (i := 15) (o := { dst := some 56, op := Op.call { callee := Callee.value (Operand.func 25), args := #[Operand.tmp 53, Operand.tmp 55], argTypes := #[75, 75] }, type := 4, pos := _, after := #[{ on := 12, ground := Ground.data }, { on := 14, ground := Ground.data }, { on := 12, ground := Ground.chain }, { on := 8, ground := Ground.guard }], guard := some (8, false) }) (by kernel_rfl) rfl (fun K' hK => ?_)
      rw [if_pos (by rfl)]
      go_simp
      refine (HSm.out _ (HTc.out.trans' k13) wa wm wc hwr).mono ?_
      rintro e' w65 ⟨rfl, t65⟩
      have k16 := k13.trans' t65
      refine hK.out _ _ k16 ?_
      clear hK
      try simp only [Go.Act.put, List.setIfInBounds_toArray, List.set_cons_zero, List.set_cons_succ]
      refine wpH_take (i := 16) (v := (.bool false)) (some 57) rfl rfl (by kernel_rfl) (by kernel_rfl) (by kernel_rfl) (fun _ _ _ h => h) (Or.inl ⟨by rfl, fun w' hS => (by go_simp)⟩) k16 ?_
      try simp only [Go.Act.put, List.setIfInBounds_toArray, List.set_cons_zero, List.set_cons_succ]
      refine wpH_take (i := 17) (v := (.bool false)) (some 58) rfl rfl (by kernel_rfl) (by kernel_rfl) (by kernel_rfl) (fun _ _ _ h => h) (Or.inl ⟨by rfl, fun w' hS => (by go_simp)⟩) k16 ?_
      try simp only [Go.Act.put, List.setIfInBounds_toArray, List.set_cons_zero, List.set_cons_succ]
      refine wpH_take (i := 18) (v := (.bool false)) (some 59) rfl rfl (by kernel_rfl) (by kernel_rfl) (by kernel_rfl) (fun _ _ _ h => h) (Or.inl ⟨by rfl, fun w' hS => (by go_simp)⟩) k16 ?_
      try simp only [Go.Act.put, List.setIfInBounds_toArray, List.set_cons_zero, List.set_cons_succ]
      refine wpH_take (i := 19) (v := (.pointer (some ⟨t, 0, none⟩))) (some 60) rfl rfl (by kernel_rfl) (by kernel_rfl) (by kernel_rfl) (fun _ _ _ h => h) (Or.inl ⟨by rfl, fun w' hS => (by go_simp)⟩) k16 ?_
      try simp only [Go.Act.put, List.setIfInBounds_toArray, List.set_cons_zero, List.set_cons_succ]
      refine wpH_take (i := 20) (v := (.pointer (some ⟨eb, 0, none⟩))) (some 61) rfl rfl (by kernel_rfl) (by kernel_rfl) (by kernel_rfl) (fun _ _ _ h => h) (Or.inl ⟨by rfl, fun w' hS => (by go_simp)⟩) k16 ?_
      try simp only [Go.Act.put, List.setIfInBounds_toArray, List.set_cons_zero, List.set_cons_succ]
      refine wpH_take (i := 21) (v := (.int .i64 R.run)) (some 62) rfl rfl (by kernel_rfl) (by kernel_rfl) (by kernel_rfl) (fun _ _ _ h => h) (Or.inl ⟨by rfl, fun w' hS => (by have z0 := X0 _ hS; go_simp)⟩) k16 ?_
      try simp only [Go.Act.put, List.setIfInBounds_toArray, List.set_cons_zero, List.set_cons_succ]
      refine wpH_take (i := 23) (v := (.pointer (some ⟨eb, 6, none⟩))) (some 64) rfl rfl (by kernel_rfl) (by kernel_rfl) (by kernel_rfl) (fun _ _ _ h => h) (Or.inl ⟨by rfl, fun w' hS => (by go_simp)⟩) k16 ?_
      try simp only [Go.Act.put, List.setIfInBounds_toArray, List.set_cons_zero, List.set_cons_succ]
      refine wpH_take (i := 24) (v := (.bool S.canc)) (some 65) rfl rfl (by kernel_rfl) (by kernel_rfl) (by kernel_rfl) (fun _ _ _ h => h) (Or.inl ⟨by rfl, fun w' hS => (by have z0 := X6 _ hS; go_simp)⟩) k16 ?_
      try simp only [Go.Act.put, List.setIfInBounds_toArray, List.set_cons_zero, List.set_cons_succ]
      refine wpH_call (i := 22) (o := { dst := some 63, op := Op.call { callee := Callee.value (Operand.func 27), args := #[Operand.tmp 60, Operand.tmp 62], argTypes := #[23, 3] }, type := 4, pos := _, after := #[{ on := 19, ground := Ground.data }, { on := 21, ground := Ground.data }, { on := 18, ground := Ground.chain }, { on := 18, ground := Ground.guard }], guard := some (18, false) }) (by kernel_rfl) rfl (fun K' hK => ?_)
      rw [if_pos (by rfl)]
      go_simp
      refine (HCc.out _ (HTc.out.trans' k16)).mono ?_
      rintro e' w72 ⟨rfl, t72⟩
      have k23 := k16.trans' t72
      refine hK.out _ _ k23 ?_
      clear hK
      try simp only [Go.Act.put, List.setIfInBounds_toArray, List.set_cons_zero, List.set_cons_succ]
      refine wpH_take (i := 25) (v := (.bool false)) (some 66) rfl rfl (by kernel_rfl) (by kernel_rfl) (by kernel_rfl) (fun _ _ _ h => h) (Or.inl ⟨by rfl, fun w' hS => (by go_simp)⟩) k23 ?_
      try simp only [Go.Act.put, List.setIfInBounds_toArray, List.set_cons_zero, List.set_cons_succ]
      refine wpH_take (i := 26) (v := (.bool false)) (some 67) rfl rfl (by kernel_rfl) (by kernel_rfl) (by kernel_rfl) (fun _ _ _ h => h) (Or.inl ⟨by rfl, fun w' hS => (by go_simp)⟩) k23 ?_
      try simp only [Go.Act.put, List.setIfInBounds_toArray, List.set_cons_zero, List.set_cons_succ]
      refine wpH_take (i := 27) (v := (.bool false)) (some 68) rfl rfl (by kernel_rfl) (by kernel_rfl) (by kernel_rfl) (fun _ _ _ h => h) (Or.inl ⟨by rfl, fun w' hS => (by go_simp)⟩) k23 ?_
      try simp only [Go.Act.put, List.setIfInBounds_toArray, List.set_cons_zero, List.set_cons_succ]
      refine wpH_take (i := 28) (v := (.pointer (some ⟨t, 0, none⟩))) (some 69) rfl rfl (by kernel_rfl) (by kernel_rfl) (by kernel_rfl) (fun _ _ _ h => h) (Or.inl ⟨by rfl, fun w' hS => (by go_simp)⟩) k23 ?_
      try simp only [Go.Act.put, List.setIfInBounds_toArray, List.set_cons_zero, List.set_cons_succ]
      refine wpH_take (i := 29) (v := (.pointer (some ⟨eb, 0, none⟩))) (some 70) rfl rfl (by kernel_rfl) (by kernel_rfl) (by kernel_rfl) (fun _ _ _ h => h) (Or.inl ⟨by rfl, fun w' hS => (by go_simp)⟩) k23 ?_
      try simp only [Go.Act.put, List.setIfInBounds_toArray, List.set_cons_zero, List.set_cons_succ]
      refine wpH_take (i := 30) (v := (.int .i64 R.run)) (some 71) rfl rfl (by kernel_rfl) (by kernel_rfl) (by kernel_rfl) (fun _ _ _ h => h) (Or.inl ⟨by rfl, fun w' hS => (by have z0 := X0 _ hS; go_simp)⟩) k23 ?_
      try simp only [Go.Act.put, List.setIfInBounds_toArray, List.set_cons_zero, List.set_cons_succ]
      refine wpH_take (i := 32) (v := (.agg #[.int .i64 T.fl, .int .i64 T.bg, .slice (some ⟨g, 0, none⟩) n lc, .slice ga gn gc])) (some 73) rfl rfl (by kernel_rfl) (by kernel_rfl) (by kernel_rfl) (fun _ _ _ h => h) (Or.inl ⟨by rfl, fun w' hS => (by have z0 := U0 _ hS; have z1 := U1 _ hS; have z2 := U2 _ hS; have z3 := U3 _ hS; go_simp)⟩) k23 ?_
      try simp only [Go.Act.put, List.setIfInBounds_toArray, List.set_cons_zero, List.set_cons_succ]
      refine wpH_take (i := 33) (v := (.agg #[.int .i64 R.run, .int .i64 R.gen, .int .u16 R.sp, .string R.nm, .bool R.rf, .bool S.kept, .bool S.canc, .slice va vm vc])) (some 74) rfl rfl (by kernel_rfl) (by kernel_rfl) (by kernel_rfl) (fun _ _ _ h => h) (Or.inl ⟨by rfl, fun w' hS => (by have z0 := X0 _ hS; have z1 := X1 _ hS; have z2 := X2 _ hS; have z3 := X3 _ hS; have z4 := X4 _ hS; have z5 := X5 _ hS; have z6 := X6 _ hS; have z7 := X7 _ hS; go_simp)⟩) k23 ?_
      try simp only [Go.Act.put, List.setIfInBounds_toArray, List.set_cons_zero, List.set_cons_succ]
      refine wpH_call (i := 31) (o := { dst := some 72, op := Op.call { callee := Callee.value (Operand.func 28), args := #[Operand.tmp 69, Operand.tmp 71], argTypes := #[23, 3] }, type := 4, pos := _, after := #[{ on := 28, ground := Ground.data }, { on := 30, ground := Ground.data }, { on := 27, ground := Ground.chain }, { on := 27, ground := Ground.guard }], guard := some (27, false) }) (by kernel_rfl) rfl (fun K' hK => ?_)
      rw [if_pos (by rfl)]
      go_simp
      refine (HIc.out _ (HTc.out.trans' k23)).mono ?_
      rintro e' w81 ⟨rfl, t81⟩
      have k32 := k23.trans' t81
      refine hK.out _ _ k32 ?_
      clear hK
      try simp only [Go.Act.put, List.setIfInBounds_toArray, List.set_cons_zero, List.set_cons_succ]
      refine wpH_call (i := 34) (o := { dst := some 75, op := Op.call { callee := Callee.value (Operand.func 29), args := #[Operand.tmp 73, Operand.tmp 74], argTypes := #[31, 78] }, type := 4, pos := _, after := #[{ on := 32, ground := Ground.data }, { on := 33, ground := Ground.data }, { on := 31, ground := Ground.chain }, { on := 27, ground := Ground.guard }], guard := some (27, false) }) (by kernel_rfl) rfl (fun K' hK => ?_)
      rw [if_pos (by rfl)]
      go_simp
      refine (HId.out _ (HTc.out.trans' k32)).mono ?_
      rintro e' w84 ⟨rfl, t84⟩
      have k35 := k32.trans' t84
      refine hK.out _ _ k35 ?_
      clear hK
      try simp only [Go.Act.put, List.setIfInBounds_toArray, List.set_cons_zero, List.set_cons_succ]
      refine wpH_take (i := 35) (v := (.bool false)) (some 76) rfl rfl (by kernel_rfl) (by kernel_rfl) (by kernel_rfl) (fun _ _ _ h => h) (Or.inl ⟨by rfl, fun w' hS => (by go_simp)⟩) k35 ?_
      try simp only [Go.Act.put, List.setIfInBounds_toArray, List.set_cons_zero, List.set_cons_succ]
      refine wpH_take (i := 36) (v := (.bool false)) (some 77) rfl rfl (by kernel_rfl) (by kernel_rfl) (by kernel_rfl) (fun _ _ _ h => h) (Or.inl ⟨by rfl, fun w' hS => (by go_simp)⟩) k35 ?_
      try simp only [Go.Act.put, List.setIfInBounds_toArray, List.set_cons_zero, List.set_cons_succ]
      refine wpAnyH_done (by kernel_rfl) ?_ _
      clear U0 U1 U2 U3 X0 X1 X2 X3 X4 X5 X6 X7 Z0 Z1 Z2 Z3 Z4
      obtain ⟨kT, kA, kE, kR⟩ := HKc.out
      replace kT := k35.keep kT (by first | (simp; done) | (simp; omega))
      replace kA := k35.keep kA (by first | (simp; done) | (simp; omega))
      replace kE := k35.keep kE (by first | (simp; done) | (simp; omega))
      replace kR := k35.keep kR (by first | (simp; done) | (simp; omega))
      clear HKc
      have HKc := hid (And.intro kT (And.intro kA (And.intro kE kR)))
      clear kT kA kE kR
      replace HTc := hid (HTc.out.trans' k35)
      replace HO := hid (own_touch HO.out k35 (fun _ _ e => by cases e))
      replace HK := hid (own_touch HK.out k35 (fun _ _ e => by cases e))
      clear HWt HSm HCc HIc
      obtain ⟨kT, kA, kE, kR⟩ := HKc.out
      have a0 := cell_at (j := 0) kT rfl
      have a1 := cell_at (j := 1) kT rfl
      have a2 := cell_at (j := 2) kT rfl
      have a3 := cell_at (j := 3) kT rfl
      have af := froz_at kT
      have y0 := cell_at (j := 0) kA rfl
      have y1 := cell_at (j := 1) kA rfl
      have y2 := cell_at (j := 2) kA rfl
      have y3 := cell_at (j := 3) kA rfl
      have y4 := cell_at (j := 4) kA rfl
      have y5 := cell_at (j := 5) kA rfl
      have y6 := cell_at (j := 6) kA rfl
      have y7 := cell_at (j := 7) kA rfl
      have y8 := cell_at (j := 8) kA rfl
      have y9 := cell_at (j := 9) kA rfl
      have yf := froz_at kA
      have x0 := cell_at (j := 0) kE rfl
      have x1 := cell_at (j := 1) kE rfl
      have x2 := cell_at (j := 2) kE rfl
      have x3 := cell_at (j := 3) kE rfl
      have x4 := cell_at (j := 4) kE rfl
      have x5 := cell_at (j := 5) kE rfl
      have x6 := cell_at (j := 6) kE rfl
      have x7 := cell_at (j := 7) kE rfl
      have xf := froz_at kE
      have z0 := cell_at (j := 0) kR rfl
      have z1 := cell_at (j := 1) kR rfl
      have z2 := cell_at (j := 2) kR rfl
      have z3 := cell_at (j := 3) kR rfl
      have z4 := cell_at (j := 4) kR rfl
      have zf := froz_at kR
      clear kT kA kE kR
      go_upto_region 11 with (first | (go_at_call 24; refine (HLr.out _).mono ?_; rintro e w9 ⟨rfl, t9⟩; obtain ⟨kT, kA, kE, kR⟩ := HKc.out; replace kT := t9.keep kT (by first | (simp; done) | (simp; omega)); replace kA := t9.keep kA (by first | (simp; done) | (simp; omega)); replace kE := t9.keep kE (by first | (simp; done) | (simp; omega)); replace kR := t9.keep kR (by first | (simp; done) | (simp; omega)); clear HKc a0 a1 a2 a3 af y0 y1 y2 y3 y4 y5 y6 y7 y8 y9 yf x0 x1 x2 x3 x4 x5 x6 x7 xf z0 z1 z2 z3 z4 zf; have HKc := hid (And.intro kT (And.intro kA (And.intro kE kR))); have a0 := cell_at (j := 0) kT rfl; have a1 := cell_at (j := 1) kT rfl; have a2 := cell_at (j := 2) kT rfl; have a3 := cell_at (j := 3) kT rfl; have af := froz_at kT; have y0 := cell_at (j := 0) kA rfl; have y1 := cell_at (j := 1) kA rfl; have y2 := cell_at (j := 2) kA rfl; have y3 := cell_at (j := 3) kA rfl; have y4 := cell_at (j := 4) kA rfl; have y5 := cell_at (j := 5) kA rfl; have y6 := cell_at (j := 6) kA rfl; have y7 := cell_at (j := 7) kA rfl; have y8 := cell_at (j := 8) kA rfl; have y9 := cell_at (j := 9) kA rfl; have yf := froz_at kA; have x0 := cell_at (j := 0) kE rfl; have x1 := cell_at (j := 1) kE rfl; have x2 := cell_at (j := 2) kE rfl; have x3 := cell_at (j := 3) kE rfl; have x4 := cell_at (j := 4) kE rfl; have x5 := cell_at (j := 5) kE rfl; have x6 := cell_at (j := 6) kE rfl; have x7 := cell_at (j := 7) kE rfl; have xf := froz_at kE; have z0 := cell_at (j := 0) kR rfl; have z1 := cell_at (j := 1) kR rfl; have z2 := cell_at (j := 2) kR rfl; have z3 := cell_at (j := 3) kR rfl; have z4 := cell_at (j := 4) kR rfl; have zf := froz_at kR; clear kT kA kE kR; replace HTc := hid (HTc.out.trans' t9); replace HO := hid (own_touch HO.out t9 (fun _ _ e => by cases e)); replace HK := hid (own_touch HK.out t9 (fun _ _ e => by cases e)); clear t9) | (go_at_call 9; refine (HCu.out _ HTc.out).mono ?_; rintro e w10 ⟨rfl, t10⟩; obtain ⟨kT, kA, kE, kR⟩ := HKc.out; replace kT := t10.keep kT (by first | (simp; done) | (simp; omega)); replace kA := t10.keep kA (by first | (simp; done) | (simp; omega)); replace kE := t10.keep kE (by first | (simp; done) | (simp; omega)); replace kR := t10.keep kR (by first | (simp; done) | (simp; omega)); clear HKc a0 a1 a2 a3 af y0 y1 y2 y3 y4 y5 y6 y7 y8 y9 yf x0 x1 x2 x3 x4 x5 x6 x7 xf z0 z1 z2 z3 z4 zf; have HKc := hid (And.intro kT (And.intro kA (And.intro kE kR))); have a0 := cell_at (j := 0) kT rfl; have a1 := cell_at (j := 1) kT rfl; have a2 := cell_at (j := 2) kT rfl; have a3 := cell_at (j := 3) kT rfl; have af := froz_at kT; have y0 := cell_at (j := 0) kA rfl; have y1 := cell_at (j := 1) kA rfl; have y2 := cell_at (j := 2) kA rfl; have y3 := cell_at (j := 3) kA rfl; have y4 := cell_at (j := 4) kA rfl; have y5 := cell_at (j := 5) kA rfl; have y6 := cell_at (j := 6) kA rfl; have y7 := cell_at (j := 7) kA rfl; have y8 := cell_at (j := 8) kA rfl; have y9 := cell_at (j := 9) kA rfl; have yf := froz_at kA; have x0 := cell_at (j := 0) kE rfl; have x1 := cell_at (j := 1) kE rfl; have x2 := cell_at (j := 2) kE rfl; have x3 := cell_at (j := 3) kE rfl; have x4 := cell_at (j := 4) kE rfl; have x5 := cell_at (j := 5) kE rfl; have x6 := cell_at (j := 6) kE rfl; have x7 := cell_at (j := 7) kE rfl; have xf := froz_at kE; have z0 := cell_at (j := 0) kR rfl; have z1 := cell_at (j := 1) kR rfl; have z2 := cell_at (j := 2) kR rfl; have z3 := cell_at (j := 3) kR rfl; have z4 := cell_at (j := 4) kR rfl; have zf := froz_at kR; clear kT kA kE kR; replace HTc := hid (HTc.out.trans' t10); replace HO := hid (own_touch HO.out t10 (fun _ _ e => by cases e)); replace HK := hid (own_touch HK.out t10 (fun _ _ e => by cases e)); clear t10) | (go_at_call 30; refine (HPc.out _ HTc.out).mono ?_; rintro e w11 ⟨rfl, t11⟩; obtain ⟨kT, kA, kE, kR⟩ := HKc.out; replace kT := t11.keep kT (by first | (simp; done) | (simp; omega)); replace kA := t11.keep kA (by first | (simp; done) | (simp; omega)); replace kE := t11.keep kE (by first | (simp; done) | (simp; omega)); replace kR := t11.keep kR (by first | (simp; done) | (simp; omega)); clear HKc a0 a1 a2 a3 af y0 y1 y2 y3 y4 y5 y6 y7 y8 y9 yf x0 x1 x2 x3 x4 x5 x6 x7 xf z0 z1 z2 z3 z4 zf; have HKc := hid (And.intro kT (And.intro kA (And.intro kE kR))); have a0 := cell_at (j := 0) kT rfl; have a1 := cell_at (j := 1) kT rfl; have a2 := cell_at (j := 2) kT rfl; have a3 := cell_at (j := 3) kT rfl; have af := froz_at kT; have y0 := cell_at (j := 0) kA rfl; have y1 := cell_at (j := 1) kA rfl; have y2 := cell_at (j := 2) kA rfl; have y3 := cell_at (j := 3) kA rfl; have y4 := cell_at (j := 4) kA rfl; have y5 := cell_at (j := 5) kA rfl; have y6 := cell_at (j := 6) kA rfl; have y7 := cell_at (j := 7) kA rfl; have y8 := cell_at (j := 8) kA rfl; have y9 := cell_at (j := 9) kA rfl; have yf := froz_at kA; have x0 := cell_at (j := 0) kE rfl; have x1 := cell_at (j := 1) kE rfl; have x2 := cell_at (j := 2) kE rfl; have x3 := cell_at (j := 3) kE rfl; have x4 := cell_at (j := 4) kE rfl; have x5 := cell_at (j := 5) kE rfl; have x6 := cell_at (j := 6) kE rfl; have x7 := cell_at (j := 7) kE rfl; have xf := froz_at kE; have z0 := cell_at (j := 0) kR rfl; have z1 := cell_at (j := 1) kR rfl; have z2 := cell_at (j := 2) kR rfl; have z3 := cell_at (j := 3) kR rfl; have z4 := cell_at (j := 4) kR rfl; have zf := froz_at kR; clear kT kA kE kR; replace HTc := hid (HTc.out.trans' t11); replace HO := hid (own_touch HO.out t11 (fun _ _ e => by cases e)); replace HK := hid (own_touch HK.out t11 (fun _ _ e => by cases e)); clear t11))
      clear HCu HPc a0 a1 a2 a3 af y0 y1 y2 y3 y4 y5 y6 y7 y8 y9 yf x0 x1 x2 x3 x4 x5 x6 x7 xf z0 z1 z2 z3 z4 zf
      rcases HCs.out with ⟨e1, e2, e3⟩ | ⟨j, e1, e3, hj, hcj⟩
      · subst e1 e2 e3
        clear HCs
        have U0 : ∀ w', Touch [] w11 w' → w'.cell? ⟨w.heap.size, 0, none⟩ = some (.int .i64 T.fl) := fun w' X => cell_at (X.keep HKc.out.1 (by simp)) rfl
        have U1 : ∀ w', Touch [] w11 w' → w'.cell? ⟨w.heap.size, 1, none⟩ = some (.int .i64 T.bg) := fun w' X => cell_at (X.keep HKc.out.1 (by simp)) rfl
        have U2 : ∀ w', Touch [] w11 w' → w'.cell? ⟨w.heap.size, 2, none⟩ = some (.slice (some ⟨g, 0, none⟩) n lc) := fun w' X => cell_at (X.keep HKc.out.1 (by simp)) rfl
        have U3 : ∀ w', Touch [] w11 w' → w'.cell? ⟨w.heap.size, 3, none⟩ = some (.slice ga gn gc) := fun w' X => cell_at (X.keep HKc.out.1 (by simp)) rfl
        have X0 : ∀ w', Touch [] w11 w' → w'.cell? ⟨eb, 0, none⟩ = some (.int .i64 R.run) := fun w' X => cell_at (X.keep HKc.out.2.2.1 (by simp)) rfl
        have X1 : ∀ w', Touch [] w11 w' → w'.cell? ⟨eb, 1, none⟩ = some (.int .i64 R.gen) := fun w' X => cell_at (X.keep HKc.out.2.2.1 (by simp)) rfl
        have X2 : ∀ w', Touch [] w11 w' → w'.cell? ⟨eb, 2, none⟩ = some (.int .u16 R.sp) := fun w' X => cell_at (X.keep HKc.out.2.2.1 (by simp)) rfl
        have X3 : ∀ w', Touch [] w11 w' → w'.cell? ⟨eb, 3, none⟩ = some (.string R.nm) := fun w' X => cell_at (X.keep HKc.out.2.2.1 (by simp)) rfl
        have X4 : ∀ w', Touch [] w11 w' → w'.cell? ⟨eb, 4, none⟩ = some (.bool R.rf) := fun w' X => cell_at (X.keep HKc.out.2.2.1 (by simp)) rfl
        have X5 : ∀ w', Touch [] w11 w' → w'.cell? ⟨eb, 5, none⟩ = some (.bool S.kept) := fun w' X => cell_at (X.keep HKc.out.2.2.1 (by simp)) rfl
        have X6 : ∀ w', Touch [] w11 w' → w'.cell? ⟨eb, 6, none⟩ = some (.bool S.canc) := fun w' X => cell_at (X.keep HKc.out.2.2.1 (by simp)) rfl
        have X7 : ∀ w', Touch [] w11 w' → w'.cell? ⟨eb, 7, none⟩ = some (.slice va vm vc) := fun w' X => cell_at (X.keep HKc.out.2.2.1 (by simp)) rfl
        have k0 : Touch [] w11 w11.drew := (Touch.refl _ _).drew
        refine wp_region_H (S := fun w' => Touch [] w11 w') (by kernel_rfl) ?_
        generalize w11.drew = WD at *
        refine wpH_take (i := 0) (v := (.bool false)) (some 90) rfl rfl (by kernel_rfl) (by kernel_rfl) (by kernel_rfl) (fun _ _ _ h => h) (Or.inl ⟨by rfl, fun w' hS => (by go_simp)⟩) k0 ?_
        try simp only [Go.Act.put, List.setIfInBounds_toArray, List.set_cons_zero, List.set_cons_succ]
        refine wpH_take (i := 1) (v := (.int .i64 (-1))) (some 91) rfl rfl (by kernel_rfl) (by kernel_rfl) (by kernel_rfl) (fun _ _ _ h => h) (Or.inl ⟨by rfl, fun w' hS => (by go_simp)⟩) k0 ?_
        try simp only [Go.Act.put, List.setIfInBounds_toArray, List.set_cons_zero, List.set_cons_succ]
        refine wpH_take (i := 2) (v := (.bool false)) (some 92) rfl rfl (by kernel_rfl) (by kernel_rfl) (by kernel_rfl) (fun _ _ _ h => h) (Or.inl ⟨by rfl, fun w' hS => (by go_simp)⟩) k0 ?_
        try simp only [Go.Act.put, List.setIfInBounds_toArray, List.set_cons_zero, List.set_cons_succ]
        refine wpH_take (i := 3) (v := (.bool false)) (some 93) rfl rfl (by kernel_rfl) (by kernel_rfl) (by kernel_rfl) (fun _ _ _ h => h) (Or.inl ⟨by rfl, fun w' hS => (by go_simp)⟩) k0 ?_
        try simp only [Go.Act.put, List.setIfInBounds_toArray, List.set_cons_zero, List.set_cons_succ]
        refine wpH_take (i := 4) (v := (.bool false)) (some 94) rfl rfl (by kernel_rfl) (by kernel_rfl) (by kernel_rfl) (fun _ _ _ h => h) (Or.inl ⟨by rfl, fun w' hS => (by go_simp)⟩) k0 ?_
        try simp only [Go.Act.put, List.setIfInBounds_toArray, List.set_cons_zero, List.set_cons_succ]
        refine wpH_take (i := 5) (v := (.bool false)) (some 95) rfl rfl (by kernel_rfl) (by kernel_rfl) (by kernel_rfl) (fun _ _ _ h => h) (Or.inl ⟨by rfl, fun w' hS => (by go_simp)⟩) k0 ?_
        try simp only [Go.Act.put, List.setIfInBounds_toArray, List.set_cons_zero, List.set_cons_succ]
        refine wpH_take (i := 6) (v := (.bool false)) (some 96) rfl rfl (by kernel_rfl) (by kernel_rfl) (by kernel_rfl) (fun _ _ _ h => h) (Or.inl ⟨by rfl, fun w' hS => (by go_simp)⟩) k0 ?_
        try simp only [Go.Act.put, List.setIfInBounds_toArray, List.set_cons_zero, List.set_cons_succ]
        refine wpH_take (i := 7) (v := undef) (some 97) rfl rfl (by kernel_rfl) (by kernel_rfl) (by kernel_rfl) (fun _ _ _ h => h) (Or.inr ⟨by rfl, rfl⟩) k0 ?_
        try simp only [Go.Act.put, List.setIfInBounds_toArray, List.set_cons_zero, List.set_cons_succ]
        refine wpH_take (i := 8) (v := undef) (some 98) rfl rfl (by kernel_rfl) (by kernel_rfl) (by kernel_rfl) (fun _ _ _ h => h) (Or.inr ⟨by rfl, rfl⟩) k0 ?_
        try simp only [Go.Act.put, List.setIfInBounds_toArray, List.set_cons_zero, List.set_cons_succ]
        refine wpH_take (i := 9) (v := undef) (some 99) rfl rfl (by kernel_rfl) (by kernel_rfl) (by kernel_rfl) (fun _ _ _ h => h) (Or.inr ⟨by rfl, rfl⟩) k0 ?_
        try simp only [Go.Act.put, List.setIfInBounds_toArray, List.set_cons_zero, List.set_cons_succ]
        refine wpH_take (i := 10) (v := undef) (some 100) rfl rfl (by kernel_rfl) (by kernel_rfl) (by kernel_rfl) (fun _ _ _ h => h) (Or.inr ⟨by rfl, rfl⟩) k0 ?_
        try simp only [Go.Act.put, List.setIfInBounds_toArray, List.set_cons_zero, List.set_cons_succ]
        refine wpH_take (i := 11) (v := undef) (some 101) rfl rfl (by kernel_rfl) (by kernel_rfl) (by kernel_rfl) (fun _ _ _ h => h) (Or.inr ⟨by rfl, rfl⟩) k0 ?_
        try simp only [Go.Act.put, List.setIfInBounds_toArray, List.set_cons_zero, List.set_cons_succ]
        refine wpH_take (i := 12) (v := undef) (some 102) rfl rfl (by kernel_rfl) (by kernel_rfl) (by kernel_rfl) (fun _ _ _ h => h) (Or.inr ⟨by rfl, rfl⟩) k0 ?_
        try simp only [Go.Act.put, List.setIfInBounds_toArray, List.set_cons_zero, List.set_cons_succ]
        refine wpH_take (i := 13) (v := undef) (some 103) rfl rfl (by kernel_rfl) (by kernel_rfl) (by kernel_rfl) (fun _ _ _ h => h) (Or.inr ⟨by rfl, rfl⟩) k0 ?_
        try simp only [Go.Act.put, List.setIfInBounds_toArray, List.set_cons_zero, List.set_cons_succ]
        refine wpH_take (i := 14) (v := undef) (some 104) rfl rfl (by kernel_rfl) (by kernel_rfl) (by kernel_rfl) (fun _ _ _ h => h) (Or.inr ⟨by rfl, rfl⟩) k0 ?_
        try simp only [Go.Act.put, List.setIfInBounds_toArray, List.set_cons_zero, List.set_cons_succ]
        refine wpH_take (i := 15) (v := (.bool false)) (some 105) rfl rfl (by kernel_rfl) (by kernel_rfl) (by kernel_rfl) (fun _ _ _ h => h) (Or.inl ⟨by rfl, fun w' hS => (by go_simp)⟩) k0 ?_
        try simp only [Go.Act.put, List.setIfInBounds_toArray, List.set_cons_zero, List.set_cons_succ]
        refine wpH_take (i := 16) (v := (.bool false)) (some 106) rfl rfl (by kernel_rfl) (by kernel_rfl) (by kernel_rfl) (fun _ _ _ h => h) (Or.inl ⟨by rfl, fun w' hS => (by go_simp)⟩) k0 ?_
        try simp only [Go.Act.put, List.setIfInBounds_toArray, List.set_cons_zero, List.set_cons_succ]
        refine wpH_take (i := 17) (v := (.bool false)) (some 107) rfl rfl (by kernel_rfl) (by kernel_rfl) (by kernel_rfl) (fun _ _ _ h => h) (Or.inl ⟨by rfl, fun w' hS => (by go_simp)⟩) k0 ?_
        try simp only [Go.Act.put, List.setIfInBounds_toArray, List.set_cons_zero, List.set_cons_succ]
        refine wpH_take (i := 18) (v := (.bool false)) (some 108) rfl rfl (by kernel_rfl) (by kernel_rfl) (by kernel_rfl) (fun _ _ _ h => h) (Or.inl ⟨by rfl, fun w' hS => (by go_simp)⟩) k0 ?_
        try simp only [Go.Act.put, List.setIfInBounds_toArray, List.set_cons_zero, List.set_cons_succ]
        refine wpH_take (i := 19) (v := (.bool true)) (some 109) rfl rfl (by kernel_rfl) (by kernel_rfl) (by kernel_rfl) (fun _ _ _ h => h) (Or.inl ⟨by rfl, fun w' hS => (by go_simp)⟩) k0 ?_
        try simp only [Go.Act.put, List.setIfInBounds_toArray, List.set_cons_zero, List.set_cons_succ]
        refine wpH_take (i := 20) (v := (.bool true)) (some 110) rfl rfl (by kernel_rfl) (by kernel_rfl) (by kernel_rfl) (fun _ _ _ h => h) (Or.inl ⟨by rfl, fun w' hS => (by go_simp)⟩) k0 ?_
        try simp only [Go.Act.put, List.setIfInBounds_toArray, List.set_cons_zero, List.set_cons_succ]
        refine wpH_take (i := 21) (v := (.int .i64 0)) (some 111) rfl rfl (by kernel_rfl) (by kernel_rfl) (by kernel_rfl) (fun _ _ _ h => h) (Or.inl ⟨by rfl, fun w' hS => (by go_simp)⟩) k0 ?_
        try simp only [Go.Act.put, List.setIfInBounds_toArray, List.set_cons_zero, List.set_cons_succ]
        refine wpH_take (i := 22) (v := (.bool false)) (some 112) rfl rfl (by kernel_rfl) (by kernel_rfl) (by kernel_rfl) (fun _ _ _ h => h) (Or.inl ⟨by rfl, fun w' hS => (by go_simp)⟩) k0 ?_
        try simp only [Go.Act.put, List.setIfInBounds_toArray, List.set_cons_zero, List.set_cons_succ]
        refine wpH_take (i := 23) (v := (.bool false)) (some 113) rfl rfl (by kernel_rfl) (by kernel_rfl) (by kernel_rfl) (fun _ _ _ h => h) (Or.inl ⟨by rfl, fun w' hS => (by go_simp)⟩) k0 ?_
        try simp only [Go.Act.put, List.setIfInBounds_toArray, List.set_cons_zero, List.set_cons_succ]
        refine wpH_take (i := 24) (v := (.bool false)) (some 114) rfl rfl (by kernel_rfl) (by kernel_rfl) (by kernel_rfl) (fun _ _ _ h => h) (Or.inl ⟨by rfl, fun w' hS => (by go_simp)⟩) k0 ?_
        try simp only [Go.Act.put, List.setIfInBounds_toArray, List.set_cons_zero, List.set_cons_succ]
        refine wpH_take (i := 25) (v := (.bool false)) (some 115) rfl rfl (by kernel_rfl) (by kernel_rfl) (by kernel_rfl) (fun _ _ _ h => h) (Or.inl ⟨by rfl, fun w' hS => (by go_simp)⟩) k0 ?_
        try simp only [Go.Act.put, List.setIfInBounds_toArray, List.set_cons_zero, List.set_cons_succ]
        refine wpH_take (i := 26) (v := (.pointer (some ⟨t, 0, none⟩))) (some 116) rfl rfl (by kernel_rfl) (by kernel_rfl) (by kernel_rfl) (fun _ _ _ h => h) (Or.inl ⟨by rfl, fun w' hS => (by go_simp)⟩) k0 ?_
        try simp only [Go.Act.put, List.setIfInBounds_toArray, List.set_cons_zero, List.set_cons_succ]
        refine wpH_take (i := 27) (v := (.agg #[.int .i64 R.run, .int .i64 R.gen, .int .u16 R.sp, .string R.nm, .bool R.rf, .bool S.kept, .bool S.canc, .slice va vm vc])) (some 117) rfl rfl (by kernel_rfl) (by kernel_rfl) (by kernel_rfl) (fun _ _ _ h => h) (Or.inl ⟨by rfl, fun w' hS => (by have z0 := X0 _ hS; have z1 := X1 _ hS; have z2 := X2 _ hS; have z3 := X3 _ hS; have z4 := X4 _ hS; have z5 := X5 _ hS; have z6 := X6 _ hS; have z7 := X7 _ hS; go_simp)⟩) k0 ?_
        try simp only [Go.Act.put, List.setIfInBounds_toArray, List.set_cons_zero, List.set_cons_succ]
        refine wpH_take (i := 31) (v := (.agg #[.int .i64 T.fl, .int .i64 T.bg, .slice (some ⟨g, 0, none⟩) n lc, .slice ga gn gc])) (some 121) rfl rfl (by kernel_rfl) (by kernel_rfl) (by kernel_rfl) (fun _ _ _ h => h) (Or.inl ⟨by rfl, fun w' hS => (by have z0 := U0 _ hS; have z1 := U1 _ hS; have z2 := U2 _ hS; have z3 := U3 _ hS; go_simp)⟩) k0 ?_
        try simp only [Go.Act.put, List.setIfInBounds_toArray, List.set_cons_zero, List.set_cons_succ]
        refine wpH_take (i := 32) (v := (.pointer (some ⟨eb, 2, none⟩))) (some 122) rfl rfl (by kernel_rfl) (by kernel_rfl) (by kernel_rfl) (fun _ _ _ h => h) (Or.inl ⟨by rfl, fun w' hS => (by go_simp)⟩) k0 ?_
        try simp only [Go.Act.put, List.setIfInBounds_toArray, List.set_cons_zero, List.set_cons_succ]
        refine wpH_take (i := 33) (v := (.agg #[.int .u16 R.sp, .string R.nm])) (some 123) rfl rfl (by kernel_rfl) (by kernel_rfl) (by kernel_rfl) (fun _ _ _ h => h) (Or.inl ⟨by rfl, fun w' hS => (by have z0 := X2 _ hS; have z1 := X3 _ hS; go_simp)⟩) k0 ?_
        try simp only [Go.Act.put, List.setIfInBounds_toArray, List.set_cons_zero, List.set_cons_succ]
        refine wpH_call (i := 28) (o := { dst := some 118, op := Op.call { callee := Callee.value (Operand.func 24), args := #[Operand.tmp 117], argTypes := #[78] }, type := 80, pos := _, after := #[{ on := 27, ground := Ground.data }, { on := 25, ground := Ground.chain }, { on := 25, ground := Ground.guard }], guard := some (25, false) }) (by kernel_rfl) rfl (fun K' hK => ?_)
        rw [if_pos (by rfl)]
        go_simp
        refine (HLr.out _).mono ?_
        rintro e' w78 ⟨rfl, t78⟩
        have k29 := k0.trans' t78
        refine hK.out _ _ k29 ?_
        clear hK
        try simp only [Go.Act.put, List.setIfInBounds_toArray, List.set_cons_zero, List.set_cons_succ]
        refine wpH_take (i := 29) (v := (.agg #[.int .u16 R.sp, .string R.nm])) (some 119) rfl rfl (by kernel_rfl) (by kernel_rfl) (by kernel_rfl) (fun _ _ _ h => h) (Or.inl ⟨by rfl, fun w' hS => (by go_simp)⟩) k29 ?_
        try simp only [Go.Act.put, List.setIfInBounds_toArray, List.set_cons_zero, List.set_cons_succ]
        refine wpH_call (i := 30) (o := { dst := some 120, op := Op.call { callee := Callee.value (Operand.func 31), args := #[Operand.tmp 116, Operand.tmp 119], argTypes := #[23, 34] }, type := 3, pos := _, after := #[{ on := 26, ground := Ground.data }, { on := 29, ground := Ground.data }, { on := 28, ground := Ground.chain }, { on := 25, ground := Ground.guard }], guard := some (25, false) }) (by kernel_rfl) rfl (fun K' hK => ?_)
        rw [if_pos (by rfl)]
        go_simp
        refine (HGe.out _ (HTc.out.trans' k29)).mono ?_
        rintro e' w80 ⟨rfl, t80⟩
        have k31 := k29.trans' t80
        refine hK.out _ _ k31 ?_
        clear hK
        try simp only [Go.Act.put, List.setIfInBounds_toArray, List.set_cons_zero, List.set_cons_succ]
        refine wpH_call (i := 34) (o := { dst := some 124, op := Op.call { callee := Callee.value (Operand.func 32), args := #[Operand.tmp 121, Operand.tmp 123], argTypes := #[31, 68] }, type := 3, pos := _, after := #[{ on := 31, ground := Ground.data }, { on := 33, ground := Ground.data }, { on := 30, ground := Ground.chain }, { on := 25, ground := Ground.guard }], guard := some (25, false) }) (by kernel_rfl) rfl (fun K' hK => ?_)
        rw [if_pos (by rfl)]
        go_simp
        refine (HOf.out _ (HTc.out.trans' k31)).mono ?_
        rintro e' w84 ⟨rfl, t84⟩
        have k35 := k31.trans' t84
        refine hK.out _ _ k35 ?_
        clear hK
        try simp only [Go.Act.put, List.setIfInBounds_toArray, List.set_cons_zero, List.set_cons_succ]
        refine wpH_take (i := 35) (v := (.bool false)) (some 125) rfl rfl (by kernel_rfl) (by kernel_rfl) (by kernel_rfl) (fun _ _ _ h => h) (Or.inl ⟨by rfl, fun w' hS => (by go_simp)⟩) k35 ?_
        try simp only [Go.Act.put, List.setIfInBounds_toArray, List.set_cons_zero, List.set_cons_succ]
        refine wpH_take (i := 36) (v := (.bool false)) (some 126) rfl rfl (by kernel_rfl) (by kernel_rfl) (by kernel_rfl) (fun _ _ _ h => h) (Or.inl ⟨by rfl, fun w' hS => (by go_simp)⟩) k35 ?_
        try simp only [Go.Act.put, List.setIfInBounds_toArray, List.set_cons_zero, List.set_cons_succ]
        refine wpAnyH_done (by kernel_rfl) ?_ _
        clear U0 U1 U2 U3 X0 X1 X2 X3 X4 X5 X6 X7
        obtain ⟨kT, kA, kE, kR⟩ := HKc.out
        replace kT := k35.keep kT (by first | (simp; done) | (simp; omega))
        replace kA := k35.keep kA (by first | (simp; done) | (simp; omega))
        replace kE := k35.keep kE (by first | (simp; done) | (simp; omega))
        replace kR := k35.keep kR (by first | (simp; done) | (simp; omega))
        clear HKc
        have HKc := hid (And.intro kT (And.intro kA (And.intro kE kR)))
        clear kT kA kE kR
        replace HTc := hid (HTc.out.trans' k35)
        replace HO := hid (own_touch HO.out k35 (fun _ _ e => by cases e))
        replace HK := hid (own_touch HK.out k35 (fun _ _ e => by cases e))
        clear HLr HGe HOf rk
        obtain ⟨kT, kA, kE, kR⟩ := HKc.out
        have a0 := cell_at (j := 0) kT rfl
        have a1 := cell_at (j := 1) kT rfl
        have a2 := cell_at (j := 2) kT rfl
        have a3 := cell_at (j := 3) kT rfl
        have af := froz_at kT
        have y0 := cell_at (j := 0) kA rfl
        have y1 := cell_at (j := 1) kA rfl
        have y2 := cell_at (j := 2) kA rfl
        have y3 := cell_at (j := 3) kA rfl
        have y4 := cell_at (j := 4) kA rfl
        have y5 := cell_at (j := 5) kA rfl
        have y6 := cell_at (j := 6) kA rfl
        have y7 := cell_at (j := 7) kA rfl
        have y8 := cell_at (j := 8) kA rfl
        have y9 := cell_at (j := 9) kA rfl
        have yf := froz_at kA
        have x0 := cell_at (j := 0) kE rfl
        have x1 := cell_at (j := 1) kE rfl
        have x2 := cell_at (j := 2) kE rfl
        have x3 := cell_at (j := 3) kE rfl
        have x4 := cell_at (j := 4) kE rfl
        have x5 := cell_at (j := 5) kE rfl
        have x6 := cell_at (j := 6) kE rfl
        have x7 := cell_at (j := 7) kE rfl
        have xf := froz_at kE
        have z0 := cell_at (j := 0) kR rfl
        have z1 := cell_at (j := 1) kR rfl
        have z2 := cell_at (j := 2) kR rfl
        have z3 := cell_at (j := 3) kR rfl
        have z4 := cell_at (j := 4) kR rfl
        have zf := froz_at kR
        clear kT kA kE kR
        cases ic
        · go_wp2_with (go_at_call 29; refine (HId.out _ HTc.out).mono ?_; rintro e w13 ⟨rfl, t13⟩; obtain ⟨kT, kA, kE, kR⟩ := HKc.out; replace kT := t13.keep kT (by first | (simp; done) | (simp; omega)); replace kA := t13.keep kA (by first | (simp; done) | (simp; omega)); replace kE := t13.keep kE (by first | (simp; done) | (simp; omega)); replace kR := t13.keep kR (by first | (simp; done) | (simp; omega)); clear HKc a0 a1 a2 a3 af y0 y1 y2 y3 y4 y5 y6 y7 y8 y9 yf x0 x1 x2 x3 x4 x5 x6 x7 xf z0 z1 z2 z3 z4 zf; have HKc := hid (And.intro kT (And.intro kA (And.intro kE kR))); have a0 := cell_at (j := 0) kT rfl; have a1 := cell_at (j := 1) kT rfl; have a2 := cell_at (j := 2) kT rfl; have a3 := cell_at (j := 3) kT rfl; have af := froz_at kT; have y0 := cell_at (j := 0) kA rfl; have y1 := cell_at (j := 1) kA rfl; have y2 := cell_at (j := 2) kA rfl; have y3 := cell_at (j := 3) kA rfl; have y4 := cell_at (j := 4) kA rfl; have y5 := cell_at (j := 5) kA rfl; have y6 := cell_at (j := 6) kA rfl; have y7 := cell_at (j := 7) kA rfl; have y8 := cell_at (j := 8) kA rfl; have y9 := cell_at (j := 9) kA rfl; have yf := froz_at kA; have x0 := cell_at (j := 0) kE rfl; have x1 := cell_at (j := 1) kE rfl; have x2 := cell_at (j := 2) kE rfl; have x3 := cell_at (j := 3) kE rfl; have x4 := cell_at (j := 4) kE rfl; have x5 := cell_at (j := 5) kE rfl; have x6 := cell_at (j := 6) kE rfl; have x7 := cell_at (j := 7) kE rfl; have xf := froz_at kE; have z0 := cell_at (j := 0) kR rfl; have z1 := cell_at (j := 1) kR rfl; have z2 := cell_at (j := 2) kR rfl; have z3 := cell_at (j := 3) kR rfl; have z4 := cell_at (j := 4) kR rfl; have zf := froz_at kR; clear kT kA kE kR; replace HTc := hid (HTc.out.trans' t13); replace HO := hid (own_touch HO.out t13 (fun _ _ e => by cases e)); replace HK := hid (own_touch HK.out t13 (fun _ _ e => by cases e)); clear t13)
          clear HId
          go_roundw
          case rel => exact ⟨i + 1, nb, mc, ka, kl, kc', rfl, rfl, by go_num, by omega, hid (by have := HO.out; rw [rns_take HX.out, ← ints_snoc]; exact this), hid (by have := HK.out; rw [kc_take HX.out, ← HIC.out]; simpa [row2, kOf] using this), hid (by have := HKl.out; rw [kc_take HX.out, ← HIC.out]; simp; omega), ⟨⟨HKc.out.1, HKc.out.2.1⟩, by have := block_lt HKc.out.2.1; omega⟩, HTc⟩
          case measure => simp [intOf]; omega
        · go_upto_region 14 with (go_at_call 29; refine (HId.out _ HTc.out).mono ?_; rintro e w13 ⟨rfl, t13⟩; obtain ⟨kT, kA, kE, kR⟩ := HKc.out; replace kT := t13.keep kT (by first | (simp; done) | (simp; omega)); replace kA := t13.keep kA (by first | (simp; done) | (simp; omega)); replace kE := t13.keep kE (by first | (simp; done) | (simp; omega)); replace kR := t13.keep kR (by first | (simp; done) | (simp; omega)); clear HKc a0 a1 a2 a3 af y0 y1 y2 y3 y4 y5 y6 y7 y8 y9 yf x0 x1 x2 x3 x4 x5 x6 x7 xf z0 z1 z2 z3 z4 zf; have HKc := hid (And.intro kT (And.intro kA (And.intro kE kR))); have a0 := cell_at (j := 0) kT rfl; have a1 := cell_at (j := 1) kT rfl; have a2 := cell_at (j := 2) kT rfl; have a3 := cell_at (j := 3) kT rfl; have af := froz_at kT; have y0 := cell_at (j := 0) kA rfl; have y1 := cell_at (j := 1) kA rfl; have y2 := cell_at (j := 2) kA rfl; have y3 := cell_at (j := 3) kA rfl; have y4 := cell_at (j := 4) kA rfl; have y5 := cell_at (j := 5) kA rfl; have y6 := cell_at (j := 6) kA rfl; have y7 := cell_at (j := 7) kA rfl; have y8 := cell_at (j := 8) kA rfl; have y9 := cell_at (j := 9) kA rfl; have yf := froz_at kA; have x0 := cell_at (j := 0) kE rfl; have x1 := cell_at (j := 1) kE rfl; have x2 := cell_at (j := 2) kE rfl; have x3 := cell_at (j := 3) kE rfl; have x4 := cell_at (j := 4) kE rfl; have x5 := cell_at (j := 5) kE rfl; have x6 := cell_at (j := 6) kE rfl; have x7 := cell_at (j := 7) kE rfl; have xf := froz_at kE; have z0 := cell_at (j := 0) kR rfl; have z1 := cell_at (j := 1) kR rfl; have z2 := cell_at (j := 2) kR rfl; have z3 := cell_at (j := 3) kR rfl; have z4 := cell_at (j := 4) kR rfl; have zf := froz_at kR; clear kT kA kE kR; replace HTc := hid (HTc.out.trans' t13); replace HO := hid (own_touch HO.out t13 (fun _ _ e => by cases e)); replace HK := hid (own_touch HK.out t13 (fun _ _ e => by cases e)); clear t13)
          clear HId
          have ta : Touch [] w13 (w13.alloc (.cells #[.int .u16 R.sp, .string R.nm] 68)) := (Touch.refl _ _).alloc _
          go_wp2_with (at_builtin; refine wpList_append_rs rfl _ _ 76 68 rfl _ 2 24 infoRK Tryz.underlying76 rfl (by decide) (w.heap.size + 2) (.slice ka kl kc') kl ((kc T (ds.take i)).flatMap row2) rfl (own_touch HK.out ta (fun _ _ e => by cases e)) _ 1 [.int .u16 R.sp, .string R.nm] rfl (Rs.new w13 #[.int .u16 R.sp, .string R.nm] 68 2 rfl) (by simp [Value.oneCell']) (by have := HKl.out; have := kc_le T (ds.take i); have := List.length_take_le i ds; unfold maxLen; omega) (by have := HKl.out; have := kc_le T (ds.take i); have := List.length_take_le i ds; omega) (by have := block_lt HKc.out.2.1; simp; omega) ?_; intro v6 w6' o6 g6 p6; have tg : Touch (Value.slice ka kl kc').ownBlock.toList w13 w6' := (ta.mono (fun _ e => by cases e)).trans' ((Touch.refl _ _).grown g6 (fun q hq => Or.inl (Option.mem_toList.2 hq))); obtain ⟨kT, kA, kE, kR⟩ := HKc.out; replace kT := tg.keep kT (fun e => by have q1 := (HK.out.lt _ (Option.mem_toList.1 e)).1; omega); replace kA := tg.keep kA (fun e => by have q1 := (HK.out.lt _ (Option.mem_toList.1 e)).1; omega); clear HKc a0 a1 a2 a3 af y0 y1 y2 y3 y4 y5 y6 y7 y8 y9 yf x0 x1 x2 x3 x4 x5 x6 x7 xf z0 z1 z2 z3 z4 zf; have HKc := hid (And.intro kT (And.intro kA trivial)); clear kT kA kE kR; replace HO := hid (own_touch HO.out tg (fun b hb e => own_ne HO.out HK.out (by decide) hb (Option.mem_toList.1 e))); replace HTc := hid (HTc.out.trans tg (fun b hb => Or.inr (by have := (HK.out.lt b (Option.mem_toList.1 hb)).1; omega))); obtain ⟨kb, mk, e6⟩ := own_form o6; subst e6; clear HK; have HK := hid o6; clear g6 p6 o6 tg)
          clear ta
          go_roundw
          case rel => exact ⟨i + 1, nb, mc, kb, kl + 1, mk, rfl, rfl, by go_num, by omega, hid (by have := HO.out; rw [rns_take HX.out, ← ints_snoc]; exact this), hid (by have := HK.out; rw [kc_take HX.out, ← HIC.out]; simpa [row2, kOf] using this), hid (by have := HKl.out; rw [kc_take HX.out, ← HIC.out]; simp; omega), ⟨⟨HKc.out.1, HKc.out.2.1⟩, by have := block_lt HKc.out.2.1; omega⟩, HTc⟩
          case measure => simp [intOf]; omega
      · subst e1 e3
        clear HCs
        have hj0 : (0 : Int) ≤ (j : Int) := by omega
        have hjn : (j : Int) < (n : Int) := by omega
        have J0 : ∀ w', Touch [] w11 w' → w'.cell? ⟨g, j * 8, none⟩ = some (.int .i64 cn) := fun w' X => hcj w' (HTc.out.trans' X)
        have U0 : ∀ w', Touch [] w11 w' → w'.cell? ⟨w.heap.size, 0, none⟩ = some (.int .i64 T.fl) := fun w' X => cell_at (X.keep HKc.out.1 (by simp)) rfl
        have U1 : ∀ w', Touch [] w11 w' → w'.cell? ⟨w.heap.size, 1, none⟩ = some (.int .i64 T.bg) := fun w' X => cell_at (X.keep HKc.out.1 (by simp)) rfl
        have U2 : ∀ w', Touch [] w11 w' → w'.cell? ⟨w.heap.size, 2, none⟩ = some (.slice (some ⟨g, 0, none⟩) n lc) := fun w' X => cell_at (X.keep HKc.out.1 (by simp)) rfl
        have U3 : ∀ w', Touch [] w11 w' → w'.cell? ⟨w.heap.size, 3, none⟩ = some (.slice ga gn gc) := fun w' X => cell_at (X.keep HKc.out.1 (by simp)) rfl
        have X0 : ∀ w', Touch [] w11 w' → w'.cell? ⟨eb, 0, none⟩ = some (.int .i64 R.run) := fun w' X => cell_at (X.keep HKc.out.2.2.1 (by simp)) rfl
        have X1 : ∀ w', Touch [] w11 w' → w'.cell? ⟨eb, 1, none⟩ = some (.int .i64 R.gen) := fun w' X => cell_at (X.keep HKc.out.2.2.1 (by simp)) rfl
        have X2 : ∀ w', Touch [] w11 w' → w'.cell? ⟨eb, 2, none⟩ = some (.int .u16 R.sp) := fun w' X => cell_at (X.keep HKc.out.2.2.1 (by simp)) rfl
        have X3 : ∀ w', Touch [] w11 w' → w'.cell? ⟨eb, 3, none⟩ = some (.string R.nm) := fun w' X => cell_at (X.keep HKc.out.2.2.1 (by simp)) rfl
        have X4 : ∀ w', Touch [] w11 w' → w'.cell? ⟨eb, 4, none⟩ = some (.bool R.rf) := fun w' X => cell_at (X.keep HKc.out.2.2.1 (by simp)) rfl
        have X5 : ∀ w', Touch [] w11 w' → w'.cell? ⟨eb, 5, none⟩ = some (.bool S.kept) := fun w' X => cell_at (X.keep HKc.out.2.2.1 (by simp)) rfl
        have X6 : ∀ w', Touch [] w11 w' → w'.cell? ⟨eb, 6, none⟩ = some (.bool S.canc) := fun w' X => cell_at (X.keep HKc.out.2.2.1 (by simp)) rfl
        have X7 : ∀ w', Touch [] w11 w' → w'.cell? ⟨eb, 7, none⟩ = some (.slice va vm vc) := fun w' X => cell_at (X.keep HKc.out.2.2.1 (by simp)) rfl
        have k0 : Touch [] w11 w11.drew := (Touch.refl _ _).drew
        refine wp_region_H (S := fun w' => Touch [] w11 w') (by kernel_rfl) ?_
        generalize w11.drew = WD at *
        refine wpH_take (i := 0) (v := (.bool true)) (some 90) rfl rfl (by kernel_rfl) (by kernel_rfl) (by kernel_rfl) (fun _ _ _ h => h) (Or.inl ⟨by rfl, fun w' hS => (by go_simp)⟩) k0 ?_
        try simp only [Go.Act.put, List.setIfInBounds_toArray, List.set_cons_zero, List.set_cons_succ]
        refine wpH_take (i := 1) (v := (.int .i64 (j : Int))) (some 91) rfl rfl (by kernel_rfl) (by kernel_rfl) (by kernel_rfl) (fun _ _ _ h => h) (Or.inl ⟨by rfl, fun w' hS => (by go_simp)⟩) k0 ?_
        try simp only [Go.Act.put, List.setIfInBounds_toArray, List.set_cons_zero, List.set_cons_succ]
        refine wpH_take (i := 2) (v := (.bool true)) (some 92) rfl rfl (by kernel_rfl) (by kernel_rfl) (by kernel_rfl) (fun _ _ _ h => h) (Or.inl ⟨by rfl, fun w' hS => (by go_simp)⟩) k0 ?_
        try simp only [Go.Act.put, List.setIfInBounds_toArray, List.set_cons_zero, List.set_cons_succ]
        refine wpH_take (i := 3) (v := (.bool false)) (some 93) rfl rfl (by kernel_rfl) (by kernel_rfl) (by kernel_rfl) (fun _ _ _ h => h) (Or.inl ⟨by rfl, fun w' hS => (by go_simp)⟩) k0 ?_
        try simp only [Go.Act.put, List.setIfInBounds_toArray, List.set_cons_zero, List.set_cons_succ]
        refine wpH_take (i := 4) (v := (.bool false)) (some 94) rfl rfl (by kernel_rfl) (by kernel_rfl) (by kernel_rfl) (fun _ _ _ h => h) (Or.inl ⟨by rfl, fun w' hS => (by go_simp)⟩) k0 ?_
        try simp only [Go.Act.put, List.setIfInBounds_toArray, List.set_cons_zero, List.set_cons_succ]
        refine wpH_take (i := 5) (v := (.bool true)) (some 95) rfl rfl (by kernel_rfl) (by kernel_rfl) (by kernel_rfl) (fun _ _ _ h => h) (Or.inl ⟨by rfl, fun w' hS => (by go_simp)⟩) k0 ?_
        try simp only [Go.Act.put, List.setIfInBounds_toArray, List.set_cons_zero, List.set_cons_succ]
        refine wpH_take (i := 6) (v := (.bool true)) (some 96) rfl rfl (by kernel_rfl) (by kernel_rfl) (by kernel_rfl) (fun _ _ _ h => h) (Or.inl ⟨by rfl, fun w' hS => (by go_simp)⟩) k0 ?_
        try simp only [Go.Act.put, List.setIfInBounds_toArray, List.set_cons_zero, List.set_cons_succ]
        refine wpH_take (i := 7) (v := (.int .i64 cn)) (some 97) rfl rfl (by kernel_rfl) (by kernel_rfl) (by kernel_rfl) (fun _ _ _ h => h) (Or.inl ⟨by rfl, fun w' hS => (by go_simp)⟩) k0 ?_
        try simp only [Go.Act.put, List.setIfInBounds_toArray, List.set_cons_zero, List.set_cons_succ]
        refine wpH_take (i := 8) (v := (.pointer (some ⟨w.heap.size, 2, none⟩))) (some 98) rfl rfl (by kernel_rfl) (by kernel_rfl) (by kernel_rfl) (fun _ _ _ h => h) (Or.inl ⟨by rfl, fun w' hS => (by go_simp)⟩) k0 ?_
        try simp only [Go.Act.put, List.setIfInBounds_toArray, List.set_cons_zero, List.set_cons_succ]
        refine wpH_take (i := 9) (v := (.slice (some ⟨g, 0, none⟩) n lc)) (some 99) rfl rfl (by kernel_rfl) (by kernel_rfl) (by kernel_rfl) (fun _ _ _ h => h) (Or.inl ⟨by rfl, fun w' hS => (by have z0 := U2 _ hS; go_simp)⟩) k0 ?_
        try simp only [Go.Act.put, List.setIfInBounds_toArray, List.set_cons_zero, List.set_cons_succ]
        refine wpH_take (i := 10) (v := (.int .i64 (j : Int))) (some 100) rfl rfl (by kernel_rfl) (by kernel_rfl) (by kernel_rfl) (fun _ _ _ h => h) (Or.inl ⟨by rfl, fun w' hS => (by go_simp)⟩) k0 ?_
        try simp only [Go.Act.put, List.setIfInBounds_toArray, List.set_cons_zero, List.set_cons_succ]
        refine wpH_take (i := 11) (v := (.pointer (some ⟨g, j * 8, none⟩))) (some 101) rfl rfl (by kernel_rfl) (by kernel_rfl) (by kernel_rfl) (fun _ _ _ h => h) (Or.inl ⟨by rfl, fun w' hS => (by go_simp)⟩) k0 ?_
        try simp only [Go.Act.put, List.setIfInBounds_toArray, List.set_cons_zero, List.set_cons_succ]
        refine wpH_take (i := 12) (v := (.pointer (some ⟨g, j * 8, none⟩))) (some 102) rfl rfl (by kernel_rfl) (by kernel_rfl) (by kernel_rfl) (fun _ _ _ h => h) (Or.inl ⟨by rfl, fun w' hS => (by go_simp)⟩) k0 ?_
        try simp only [Go.Act.put, List.setIfInBounds_toArray, List.set_cons_zero, List.set_cons_succ]
        refine wpH_take (i := 13) (v := (.int .i64 cn)) (some 103) rfl rfl (by kernel_rfl) (by kernel_rfl) (by kernel_rfl) (fun _ _ _ h => h) (Or.inl ⟨by rfl, fun w' hS => (by have z0 := J0 _ hS; go_simp)⟩) k0 ?_
        try simp only [Go.Act.put, List.setIfInBounds_toArray, List.set_cons_zero, List.set_cons_succ]
        refine wpH_take (i := 14) (v := (.bool false)) (some 104) rfl rfl (by kernel_rfl) (by kernel_rfl) (by kernel_rfl) (fun _ _ _ h => h) (Or.inl ⟨by rfl, fun w' hS => (by go_simp)⟩) k0 ?_
        try simp only [Go.Act.put, List.setIfInBounds_toArray, List.set_cons_zero, List.set_cons_succ]
        refine wpH_take (i := 15) (v := (.bool false)) (some 105) rfl rfl (by kernel_rfl) (by kernel_rfl) (by kernel_rfl) (fun _ _ _ h => h) (Or.inl ⟨by rfl, fun w' hS => (by go_simp)⟩) k0 ?_
        try simp only [Go.Act.put, List.setIfInBounds_toArray, List.set_cons_zero, List.set_cons_succ]
        refine wpH_take (i := 16) (v := (.bool false)) (some 106) rfl rfl (by kernel_rfl) (by kernel_rfl) (by kernel_rfl) (fun _ _ _ h => h) (Or.inl ⟨by rfl, fun w' hS => (by go_simp)⟩) k0 ?_
        try simp only [Go.Act.put, List.setIfInBounds_toArray, List.set_cons_zero, List.set_cons_succ]
        refine wpH_take (i := 17) (v := (.bool false)) (some 107) rfl rfl (by kernel_rfl) (by kernel_rfl) (by kernel_rfl) (fun _ _ _ h => h) (Or.inl ⟨by rfl, fun w' hS => (by go_simp)⟩) k0 ?_
        try simp only [Go.Act.put, List.setIfInBounds_toArray, List.set_cons_zero, List.set_cons_succ]
        refine wpH_take (i := 18) (v := (.bool true)) (some 108) rfl rfl (by kernel_rfl) (by kernel_rfl) (by kernel_rfl) (fun _ _ _ h => h) (Or.inl ⟨by rfl, fun w' hS => (by go_simp)⟩) k0 ?_
        try simp only [Go.Act.put, List.setIfInBounds_toArray, List.set_cons_zero, List.set_cons_succ]
        refine wpH_take (i := 19) (v := (.bool false)) (some 109) rfl rfl (by kernel_rfl) (by kernel_rfl) (by kernel_rfl) (fun _ _ _ h => h) (Or.inl ⟨by rfl, fun w' hS => (by go_simp)⟩) k0 ?_
        try simp only [Go.Act.put, List.setIfInBounds_toArray, List.set_cons_zero, List.set_cons_succ]
        refine wpH_take (i := 20) (v := (.bool false)) (some 110) rfl rfl (by kernel_rfl) (by kernel_rfl) (by kernel_rfl) (fun _ _ _ h => h) (Or.inl ⟨by rfl, fun w' hS => (by go_simp)⟩) k0 ?_
        try simp only [Go.Act.put, List.setIfInBounds_toArray, List.set_cons_zero, List.set_cons_succ]
        refine wpH_take (i := 21) (v := undef) (some 111) rfl rfl (by kernel_rfl) (by kernel_rfl) (by kernel_rfl) (fun _ _ _ h => h) (Or.inr ⟨by rfl, rfl⟩) k0 ?_
        try simp only [Go.Act.put, List.setIfInBounds_toArray, List.set_cons_zero, List.set_cons_succ]
        refine wpH_take (i := 22) (v := undef) (some 112) rfl rfl (by kernel_rfl) (by kernel_rfl) (by kernel_rfl) (fun _ _ _ h => h) (Or.inr ⟨by rfl, rfl⟩) k0 ?_
        try simp only [Go.Act.put, List.setIfInBounds_toArray, List.set_cons_zero, List.set_cons_succ]
        refine wpH_take (i := 23) (v := (.bool false)) (some 113) rfl rfl (by kernel_rfl) (by kernel_rfl) (by kernel_rfl) (fun _ _ _ h => h) (Or.inl ⟨by rfl, fun w' hS => (by go_simp)⟩) k0 ?_
        try simp only [Go.Act.put, List.setIfInBounds_toArray, List.set_cons_zero, List.set_cons_succ]
        refine wpH_take (i := 24) (v := (.bool false)) (some 114) rfl rfl (by kernel_rfl) (by kernel_rfl) (by kernel_rfl) (fun _ _ _ h => h) (Or.inl ⟨by rfl, fun w' hS => (by go_simp)⟩) k0 ?_
        try simp only [Go.Act.put, List.setIfInBounds_toArray, List.set_cons_zero, List.set_cons_succ]
        refine wpH_take (i := 25) (v := (.bool false)) (some 115) rfl rfl (by kernel_rfl) (by kernel_rfl) (by kernel_rfl) (fun _ _ _ h => h) (Or.inl ⟨by rfl, fun w' hS => (by go_simp)⟩) k0 ?_
        try simp only [Go.Act.put, List.setIfInBounds_toArray, List.set_cons_zero, List.set_cons_succ]
        refine wpH_take (i := 26) (v := (.pointer (some ⟨t, 0, none⟩))) (some 116) rfl rfl (by kernel_rfl) (by kernel_rfl) (by kernel_rfl) (fun _ _ _ h => h) (Or.inl ⟨by rfl, fun w' hS => (by go_simp)⟩) k0 ?_
        try simp only [Go.Act.put, List.setIfInBounds_toArray, List.set_cons_zero, List.set_cons_succ]
        refine wpH_take (i := 27) (v := (.agg #[.int .i64 R.run, .int .i64 R.gen, .int .u16 R.sp, .string R.nm, .bool R.rf, .bool S.kept, .bool S.canc, .slice va vm vc])) (some 117) rfl rfl (by kernel_rfl) (by kernel_rfl) (by kernel_rfl) (fun _ _ _ h => h) (Or.inl ⟨by rfl, fun w' hS => (by have z0 := X0 _ hS; have z1 := X1 _ hS; have z2 := X2 _ hS; have z3 := X3 _ hS; have z4 := X4 _ hS; have z5 := X5 _ hS; have z6 := X6 _ hS; have z7 := X7 _ hS; go_simp)⟩) k0 ?_
        try simp only [Go.Act.put, List.setIfInBounds_toArray, List.set_cons_zero, List.set_cons_succ]
        refine wpH_take (i := 31) (v := (.agg #[.int .i64 T.fl, .int .i64 T.bg, .slice (some ⟨g, 0, none⟩) n lc, .slice ga gn gc])) (some 121) rfl rfl (by kernel_rfl) (by kernel_rfl) (by kernel_rfl) (fun _ _ _ h => h) (Or.inl ⟨by rfl, fun w' hS => (by have z0 := U0 _ hS; have z1 := U1 _ hS; have z2 := U2 _ hS; have z3 := U3 _ hS; go_simp)⟩) k0 ?_
        try simp only [Go.Act.put, List.setIfInBounds_toArray, List.set_cons_zero, List.set_cons_succ]
        refine wpH_take (i := 32) (v := (.pointer (some ⟨eb, 2, none⟩))) (some 122) rfl rfl (by kernel_rfl) (by kernel_rfl) (by kernel_rfl) (fun _ _ _ h => h) (Or.inl ⟨by rfl, fun w' hS => (by go_simp)⟩) k0 ?_
        try simp only [Go.Act.put, List.setIfInBounds_toArray, List.set_cons_zero, List.set_cons_succ]
        refine wpH_take (i := 33) (v := (.agg #[.int .u16 R.sp, .string R.nm])) (some 123) rfl rfl (by kernel_rfl) (by kernel_rfl) (by kernel_rfl) (fun _ _ _ h => h) (Or.inl ⟨by rfl, fun w' hS => (by have z0 := X2 _ hS; have z1 := X3 _ hS; go_simp)⟩) k0 ?_
        try simp only [Go.Act.put, List.setIfInBounds_toArray, List.set_cons_zero, List.set_cons_succ]
        refine wpH_call (i := 28) (o := { dst := some 118, op := Op.call { callee := Callee.value (Operand.func 24), args := #[Operand.tmp 117], argTypes := #[78] }, type := 80, pos := _, after := #[{ on := 27, ground := Ground.data }, { on := 25, ground := Ground.chain }, { on := 25, ground := Ground.guard }], guard := some (25, false) }) (by kernel_rfl) rfl (fun K' hK => ?_)
        rw [if_pos (by rfl)]
        go_simp
        refine (HLr.out _).mono ?_
        rintro e' w78 ⟨rfl, t78⟩
        have k29 := k0.trans' t78
        refine hK.out _ _ k29 ?_
        clear hK
        try simp only [Go.Act.put, List.setIfInBounds_toArray, List.set_cons_zero, List.set_cons_succ]
        refine wpH_take (i := 29) (v := (.agg #[.int .u16 R.sp, .string R.nm])) (some 119) rfl rfl (by kernel_rfl) (by kernel_rfl) (by kernel_rfl) (fun _ _ _ h => h) (Or.inl ⟨by rfl, fun w' hS => (by go_simp)⟩) k29 ?_
        try simp only [Go.Act.put, List.setIfInBounds_toArray, List.set_cons_zero, List.set_cons_succ]
        refine wpH_call (i := 30) (o := { dst := some 120, op := Op.call { callee := Callee.value (Operand.func 31), args := #[Operand.tmp 116, Operand.tmp 119], argTypes := #[23, 34] }, type := 3, pos := _, after := #[{ on := 26, ground := Ground.data }, { on := 29, ground := Ground.data }, { on := 28, ground := Ground.chain }, { on := 25, ground := Ground.guard }], guard := some (25, false) }) (by kernel_rfl) rfl (fun K' hK => ?_)
        rw [if_pos (by rfl)]
        go_simp
        refine (HGe.out _ (HTc.out.trans' k29)).mono ?_
        rintro e' w80 ⟨rfl, t80⟩
        have k31 := k29.trans' t80
        refine hK.out _ _ k31 ?_
        clear hK
        try simp only [Go.Act.put, List.setIfInBounds_toArray, List.set_cons_zero, List.set_cons_succ]
        refine wpH_call (i := 34) (o := { dst := some 124, op := Op.call { callee := Callee.value (Operand.func 32), args := #[Operand.tmp 121, Operand.tmp 123], argTypes := #[31, 68] }, type := 3, pos := _, after := #[{ on := 31, ground := Ground.data }, { on := 33, ground := Ground.data }, { on := 30, ground := Ground.chain }, { on := 25, ground := Ground.guard }], guard := some (25, false) }) (by kernel_rfl) rfl (fun K' hK => ?_)
        rw [if_pos (by rfl)]
        go_simp
        refine (HOf.out _ (HTc.out.trans' k31)).mono ?_
        rintro e' w84 ⟨rfl, t84⟩
        have k35 := k31.trans' t84
        refine hK.out _ _ k35 ?_
        clear hK
        try simp only [Go.Act.put, List.setIfInBounds_toArray, List.set_cons_zero, List.set_cons_succ]
        refine wpH_take (i := 35) (v := (.bool false)) (some 125) rfl rfl (by kernel_rfl) (by kernel_rfl) (by kernel_rfl) (fun _ _ _ h => h) (Or.inl ⟨by rfl, fun w' hS => (by go_simp)⟩) k35 ?_
        try simp only [Go.Act.put, List.setIfInBounds_toArray, List.set_cons_zero, List.set_cons_succ]
        refine wpH_take (i := 36) (v := (.bool false)) (some 126) rfl rfl (by kernel_rfl) (by kernel_rfl) (by kernel_rfl) (fun _ _ _ h => h) (Or.inl ⟨by rfl, fun w' hS => (by go_simp)⟩) k35 ?_
        try simp only [Go.Act.put, List.setIfInBounds_toArray, List.set_cons_zero, List.set_cons_succ]
        refine wpAnyH_done (by kernel_rfl) ?_ _
        clear U0 U1 U2 U3 X0 X1 X2 X3 X4 X5 X6 X7
        obtain ⟨kT, kA, kE, kR⟩ := HKc.out
        replace kT := k35.keep kT (by first | (simp; done) | (simp; omega))
        replace kA := k35.keep kA (by first | (simp; done) | (simp; omega))
        replace kE := k35.keep kE (by first | (simp; done) | (simp; omega))
        replace kR := k35.keep kR (by first | (simp; done) | (simp; omega))
        clear HKc
        have HKc := hid (And.intro kT (And.intro kA (And.intro kE kR)))
        clear kT kA kE kR
        replace HTc := hid (HTc.out.trans' k35)
        replace HO := hid (own_touch HO.out k35 (fun _ _ e => by cases e))
        replace HK := hid (own_touch HK.out k35 (fun _ _ e => by cases e))
        clear HLr HGe HOf rk
        obtain ⟨kT, kA, kE, kR⟩ := HKc.out
        have a0 := cell_at (j := 0) kT rfl
        have a1 := cell_at (j := 1) kT rfl
        have a2 := cell_at (j := 2) kT rfl
        have a3 := cell_at (j := 3) kT rfl
        have af := froz_at kT
        have y0 := cell_at (j := 0) kA rfl
        have y1 := cell_at (j := 1) kA rfl
        have y2 := cell_at (j := 2) kA rfl
        have y3 := cell_at (j := 3) kA rfl
        have y4 := cell_at (j := 4) kA rfl
        have y5 := cell_at (j := 5) kA rfl
        have y6 := cell_at (j := 6) kA rfl
        have y7 := cell_at (j := 7) kA rfl
        have y8 := cell_at (j := 8) kA rfl
        have y9 := cell_at (j := 9) kA rfl
        have yf := froz_at kA
        have x0 := cell_at (j := 0) kE rfl
        have x1 := cell_at (j := 1) kE rfl
        have x2 := cell_at (j := 2) kE rfl
        have x3 := cell_at (j := 3) kE rfl
        have x4 := cell_at (j := 4) kE rfl
        have x5 := cell_at (j := 5) kE rfl
        have x6 := cell_at (j := 6) kE rfl
        have x7 := cell_at (j := 7) kE rfl
        have xf := froz_at kE
        have z0 := cell_at (j := 0) kR rfl
        have z1 := cell_at (j := 1) kR rfl
        have z2 := cell_at (j := 2) kR rfl
        have z3 := cell_at (j := 3) kR rfl
        have z4 := cell_at (j := 4) kR rfl
        have zf := froz_at kR
        clear kT kA kE kR
        cases ic
        · go_wp2_with (go_at_call 29; refine (HId.out _ HTc.out).mono ?_; rintro e w13 ⟨rfl, t13⟩; obtain ⟨kT, kA, kE, kR⟩ := HKc.out; replace kT := t13.keep kT (by first | (simp; done) | (simp; omega)); replace kA := t13.keep kA (by first | (simp; done) | (simp; omega)); replace kE := t13.keep kE (by first | (simp; done) | (simp; omega)); replace kR := t13.keep kR (by first | (simp; done) | (simp; omega)); clear HKc a0 a1 a2 a3 af y0 y1 y2 y3 y4 y5 y6 y7 y8 y9 yf x0 x1 x2 x3 x4 x5 x6 x7 xf z0 z1 z2 z3 z4 zf; have HKc := hid (And.intro kT (And.intro kA (And.intro kE kR))); have a0 := cell_at (j := 0) kT rfl; have a1 := cell_at (j := 1) kT rfl; have a2 := cell_at (j := 2) kT rfl; have a3 := cell_at (j := 3) kT rfl; have af := froz_at kT; have y0 := cell_at (j := 0) kA rfl; have y1 := cell_at (j := 1) kA rfl; have y2 := cell_at (j := 2) kA rfl; have y3 := cell_at (j := 3) kA rfl; have y4 := cell_at (j := 4) kA rfl; have y5 := cell_at (j := 5) kA rfl; have y6 := cell_at (j := 6) kA rfl; have y7 := cell_at (j := 7) kA rfl; have y8 := cell_at (j := 8) kA rfl; have y9 := cell_at (j := 9) kA rfl; have yf := froz_at kA; have x0 := cell_at (j := 0) kE rfl; have x1 := cell_at (j := 1) kE rfl; have x2 := cell_at (j := 2) kE rfl; have x3 := cell_at (j := 3) kE rfl; have x4 := cell_at (j := 4) kE rfl; have x5 := cell_at (j := 5) kE rfl; have x6 := cell_at (j := 6) kE rfl; have x7 := cell_at (j := 7) kE rfl; have xf := froz_at kE; have z0 := cell_at (j := 0) kR rfl; have z1 := cell_at (j := 1) kR rfl; have z2 := cell_at (j := 2) kR rfl; have z3 := cell_at (j := 3) kR rfl; have z4 := cell_at (j := 4) kR rfl; have zf := froz_at kR; clear kT kA kE kR; replace HTc := hid (HTc.out.trans' t13); replace HO := hid (own_touch HO.out t13 (fun _ _ e => by cases e)); replace HK := hid (own_touch HK.out t13 (fun _ _ e => by cases e)); clear t13)
          clear HId
          go_roundw
          case rel => exact ⟨i + 1, nb, mc, ka, kl, kc', rfl, rfl, by go_num, by omega, hid (by have := HO.out; rw [rns_take HX.out, ← ints_snoc]; exact this), hid (by have := HK.out; rw [kc_take HX.out, ← HIC.out]; simpa [row2, kOf] using this), hid (by have := HKl.out; rw [kc_take HX.out, ← HIC.out]; simp; omega), ⟨⟨HKc.out.1, HKc.out.2.1⟩, by have := block_lt HKc.out.2.1; omega⟩, HTc⟩
          case measure => simp [intOf]; omega
        · go_upto_region 14 with (go_at_call 29; refine (HId.out _ HTc.out).mono ?_; rintro e w13 ⟨rfl, t13⟩; obtain ⟨kT, kA, kE, kR⟩ := HKc.out; replace kT := t13.keep kT (by first | (simp; done) | (simp; omega)); replace kA := t13.keep kA (by first | (simp; done) | (simp; omega)); replace kE := t13.keep kE (by first | (simp; done) | (simp; omega)); replace kR := t13.keep kR (by first | (simp; done) | (simp; omega)); clear HKc a0 a1 a2 a3 af y0 y1 y2 y3 y4 y5 y6 y7 y8 y9 yf x0 x1 x2 x3 x4 x5 x6 x7 xf z0 z1 z2 z3 z4 zf; have HKc := hid (And.intro kT (And.intro kA (And.intro kE kR))); have a0 := cell_at (j := 0) kT rfl; have a1 := cell_at (j := 1) kT rfl; have a2 := cell_at (j := 2) kT rfl; have a3 := cell_at (j := 3) kT rfl; have af := froz_at kT; have y0 := cell_at (j := 0) kA rfl; have y1 := cell_at (j := 1) kA rfl; have y2 := cell_at (j := 2) kA rfl; have y3 := cell_at (j := 3) kA rfl; have y4 := cell_at (j := 4) kA rfl; have y5 := cell_at (j := 5) kA rfl; have y6 := cell_at (j := 6) kA rfl; have y7 := cell_at (j := 7) kA rfl; have y8 := cell_at (j := 8) kA rfl; have y9 := cell_at (j := 9) kA rfl; have yf := froz_at kA; have x0 := cell_at (j := 0) kE rfl; have x1 := cell_at (j := 1) kE rfl; have x2 := cell_at (j := 2) kE rfl; have x3 := cell_at (j := 3) kE rfl; have x4 := cell_at (j := 4) kE rfl; have x5 := cell_at (j := 5) kE rfl; have x6 := cell_at (j := 6) kE rfl; have x7 := cell_at (j := 7) kE rfl; have xf := froz_at kE; have z0 := cell_at (j := 0) kR rfl; have z1 := cell_at (j := 1) kR rfl; have z2 := cell_at (j := 2) kR rfl; have z3 := cell_at (j := 3) kR rfl; have z4 := cell_at (j := 4) kR rfl; have zf := froz_at kR; clear kT kA kE kR; replace HTc := hid (HTc.out.trans' t13); replace HO := hid (own_touch HO.out t13 (fun _ _ e => by cases e)); replace HK := hid (own_touch HK.out t13 (fun _ _ e => by cases e)); clear t13)
          clear HId
          have ta : Touch [] w13 (w13.alloc (.cells #[.int .u16 R.sp, .string R.nm] 68)) := (Touch.refl _ _).alloc _
          go_wp2_with (at_builtin; refine wpList_append_rs rfl _ _ 76 68 rfl _ 2 24 infoRK Tryz.underlying76 rfl (by decide) (w.heap.size + 2) (.slice ka kl kc') kl ((kc T (ds.take i)).flatMap row2) rfl (own_touch HK.out ta (fun _ _ e => by cases e)) _ 1 [.int .u16 R.sp, .string R.nm] rfl (Rs.new w13 #[.int .u16 R.sp, .string R.nm] 68 2 rfl) (by simp [Value.oneCell']) (by have := HKl.out; have := kc_le T (ds.take i); have := List.length_take_le i ds; unfold maxLen; omega) (by have := HKl.out; have := kc_le T (ds.take i); have := List.length_take_le i ds; omega) (by have := block_lt HKc.out.2.1; simp; omega) ?_; intro v6 w6' o6 g6 p6; have tg : Touch (Value.slice ka kl kc').ownBlock.toList w13 w6' := (ta.mono (fun _ e => by cases e)).trans' ((Touch.refl _ _).grown g6 (fun q hq => Or.inl (Option.mem_toList.2 hq))); obtain ⟨kT, kA, kE, kR⟩ := HKc.out; replace kT := tg.keep kT (fun e => by have q1 := (HK.out.lt _ (Option.mem_toList.1 e)).1; omega); replace kA := tg.keep kA (fun e => by have q1 := (HK.out.lt _ (Option.mem_toList.1 e)).1; omega); clear HKc a0 a1 a2 a3 af y0 y1 y2 y3 y4 y5 y6 y7 y8 y9 yf x0 x1 x2 x3 x4 x5 x6 x7 xf z0 z1 z2 z3 z4 zf; have HKc := hid (And.intro kT (And.intro kA trivial)); clear kT kA kE kR; replace HO := hid (own_touch HO.out tg (fun b hb e => own_ne HO.out HK.out (by decide) hb (Option.mem_toList.1 e))); replace HTc := hid (HTc.out.trans tg (fun b hb => Or.inr (by have := (HK.out.lt b (Option.mem_toList.1 hb)).1; omega))); obtain ⟨kb, mk, e6⟩ := own_form o6; subst e6; clear HK; have HK := hid o6; clear g6 p6 o6 tg)
          clear ta
          go_roundw
          case rel => exact ⟨i + 1, nb, mc, kb, kl + 1, mk, rfl, rfl, by go_num, by omega, hid (by have := HO.out; rw [rns_take HX.out, ← ints_snoc]; exact this), hid (by have := HK.out; rw [kc_take HX.out, ← HIC.out]; simpa [row2, kOf] using this), hid (by have := HKl.out; rw [kc_take HX.out, ← HIC.out]; simp; omega), ⟨⟨HKc.out.1, HKc.out.2.1⟩, by have := block_lt HKc.out.2.1; omega⟩, HTc⟩
          case measure => simp [intOf]; omega
    · have e : n = i := by omega
      subst e
      have htk : ds.take n = ds := List.take_of_length_le (by have := HN.out; omega)
      rw [htk] at HO HK HKl
      clear htk
      have HCr := hid (currentsT wr t F T N (HB.out wr HTc.out).tq (HB.out wr HTc.out).hN)
      unfold PT at HCr
      obtain ⟨kT, kA⟩ := HKc.out
      have a0 := cell_at (j := 0) kT rfl
      have a1 := cell_at (j := 1) kT rfl
      have a2 := cell_at (j := 2) kT rfl
      have a3 := cell_at (j := 3) kT rfl
      have af := froz_at kT
      have y0 := cell_at (j := 0) kA rfl
      have y1 := cell_at (j := 1) kA rfl
      have y2 := cell_at (j := 2) kA rfl
      have y3 := cell_at (j := 3) kA rfl
      have y4 := cell_at (j := 4) kA rfl
      have y5 := cell_at (j := 5) kA rfl
      have y6 := cell_at (j := 6) kA rfl
      have y7 := cell_at (j := 7) kA rfl
      have y8 := cell_at (j := 8) kA rfl
      have y9 := cell_at (j := 9) kA rfl
      have yf := froz_at kA
      clear kT kA
      go_upto_region 17 with (go_at_call 33; refine (HCr.out).mono ?_; rintro e w16 ⟨Ls, v6, rfl, c6, p6, s6, t16⟩; obtain ⟨kT, kA⟩ := HKc.out; replace kT := t16.keep kT (by first | (simp; done) | (simp; omega)); replace kA := t16.keep kA (by first | (simp; done) | (simp; omega)); clear HKc a0 a1 a2 a3 af y0 y1 y2 y3 y4 y5 y6 y7 y8 y9 yf; have HKc := hid (And.intro kT kA); have a0 := cell_at (j := 0) kT rfl; have a1 := cell_at (j := 1) kT rfl; have a2 := cell_at (j := 2) kT rfl; have a3 := cell_at (j := 3) kT rfl; have af := froz_at kT; have y0 := cell_at (j := 0) kA rfl; have y1 := cell_at (j := 1) kA rfl; have y2 := cell_at (j := 2) kA rfl; have y3 := cell_at (j := 3) kA rfl; have y4 := cell_at (j := 4) kA rfl; have y5 := cell_at (j := 5) kA rfl; have y6 := cell_at (j := 6) kA rfl; have y7 := cell_at (j := 7) kA rfl; have y8 := cell_at (j := 8) kA rfl; have y9 := cell_at (j := 9) kA rfl; have yf := froz_at kA; clear kT kA; replace HTc := hid (HTc.out.trans' t16); replace HO := hid (own_touch HO.out t16 (fun _ _ e => by cases e)); replace HK := hid (own_touch HK.out t16 (fun _ _ e => by cases e)); obtain ⟨ca, cc, e6⟩ := own_form c6; subst e6; have HC6 := hid c6; have HP6 := hid (And.intro p6 s6); clear c6 p6 s6; clear t16)
      clear HCr
      obtain ⟨ln, hln⟩ : ∃ ln, ln = Ls.length := ⟨_, rfl⟩
      have ekl : kl = ln := by rw [hln, HKl.out, ← (HB.out _ HTc.out).curs, List.length_map, HP6.out.1.length_eq]
      subst ekl
      rw [← hln]
      rw [← hln] at HC6
      have zl : kl ≤ 4096 := by have := HKl.out; have := kc_le T ds; have := HN.out; omega
      have HSo : Hid (∀ w', Touch [] w w' → w'.ownsRow (w.heap.size + 2) 68 2 (.slice ka kl kc') kl ((kc T ds).flatMap row2) → Calls Tryz.prog 34 #[.slice ka kl kc'] w' fun e w2 => ∃ sa sc, e = .returned (.slice sa kl sc) ∧ Sl w2 (.slice sa kl sc) (Ls.map kOf) ∧ Touch [] w' w2) := hid (fun w' X ho => by
        have ho' : w'.ownsRow (w.heap.size + 2) 68 2 (.slice ka kl kc') (kc T ds).length ((kc T ds).flatMap row2) := by rw [← HKl.out]; exact ho
        refine (dsort_ (kc T ds) _ w' (by have := HKl.out; omega) (fun x hx => ?_) (sl_own (n := 0) ho')).mono ?_
        · obtain ⟨d, hd, rfl⟩ := List.mem_map.1 hx
          obtain ⟨q, hq⟩ := List.getElem?_of_mem ((List.mem_filter.1 hd).1)
          exact ((HB.out w' X).ok hq).2
        · rintro e w2 ⟨v, ys, rfl, h1, h2, h3, h4⟩
          have e1 := sorted_keys HP6.out.1 HP6.out.2 (by rw [(HB.out w' X).curs]; exact h2) h3
          subst e1
          have e2 : (Ls.map kOf).length = kl := by rw [List.length_map, hln]
          rcases h1 with ⟨q1, sa, sc, rfl⟩ | ⟨b, off, sc, rfl, q2⟩
          · have e3 : kl = 0 := by rw [← e2, q1]; rfl
            subst e3
            exact ⟨sa, sc, rfl, Or.inl ⟨q1, sa, sc, rfl⟩, Touch.of_below h4⟩
          · rw [e2]
            exact ⟨_, sc, rfl, Or.inr ⟨b, off, sc, by rw [e2], q2⟩, Touch.of_below h4⟩)
      have HLn := hid hln
      clear hln
      go_wp2_with (go_at_call 34; refine (HSo.out _ HTc.out HK.out).mono ?_; rintro e w19 ⟨sa, sc, rfl, z19, t19⟩; obtain ⟨kT, kA⟩ := HKc.out; replace kT := t19.keep kT (by first | (simp; done) | (simp; omega)); replace kA := t19.keep kA (by first | (simp; done) | (simp; omega)); clear HKc a0 a1 a2 a3 af y0 y1 y2 y3 y4 y5 y6 y7 y8 y9 yf; have HKc := hid (And.intro kT kA); have a0 := cell_at (j := 0) kT rfl; have a1 := cell_at (j := 1) kT rfl; have a2 := cell_at (j := 2) kT rfl; have a3 := cell_at (j := 3) kT rfl; have af := froz_at kT; have y0 := cell_at (j := 0) kA rfl; have y1 := cell_at (j := 1) kA rfl; have y2 := cell_at (j := 2) kA rfl; have y3 := cell_at (j := 3) kA rfl; have y4 := cell_at (j := 4) kA rfl; have y5 := cell_at (j := 5) kA rfl; have y6 := cell_at (j := 6) kA rfl; have y7 := cell_at (j := 7) kA rfl; have y8 := cell_at (j := 8) kA rfl; have y9 := cell_at (j := 9) kA rfl; have yf := froz_at kA; clear kT kA; replace HTc := hid (HTc.out.trans' t19); replace HO := hid (own_touch HO.out t19 (fun _ _ e => by cases e)); replace HC6 := hid (own_touch HC6.out t19 (fun _ _ e => by cases e)); have HS9 := hid z19; clear z19; clear t19)
      clear HSo HK HKl a0 a1 a2 a3 af y0 y1 y2 y3 y4 y5 y6 y7 y8 y9 yf
      go_loopw [146] (fun s wr => ∃ i : Nat, s = .int .i64 (i : Int) ∧ i ≤ kl ∧ Hid (Touch [] w19 wr)) (fun s _ => kl - (intOf s).toNat)
      case atStart => exact ⟨0, rfl, Nat.zero_le _, Touch.refl _ _⟩
      case round =>
        obtain ⟨i, rfl, hi, HX⟩ := hrel
        by_cases hlt : i < kl
        · have zi : (i : Int) < (kl : Int) := by omega
          obtain ⟨R, hR⟩ : ∃ R, Ls[i]? = some R := ⟨_, List.getElem?_eq_getElem (by have := HLn.out; omega)⟩
          have TW := HTc.out.trans' HX.out
          have hcur : curOf T (kOf R) = some R := (curs_mem (HB.out _ TW).tq.iv R).1 (HP6.out.1.mem_iff.1 (List.mem_of_getElem? hR))
          rcases (HB.out _ TW).cur (kOf R) with ⟨q1, _⟩ | ⟨j, d, q1, q2, q3, q4⟩
          · rw [hcur] at q1; cases q1
          obtain ⟨R', S, v⟩ := d
          rw [hcur] at q1
          simp only [Option.some.injEq] at q1
          subst q1
          obtain ⟨va, vm, vc, ev⟩ := (HB.out _ TW).dg.vs _ (List.mem_of_getElem? q3)
          simp only at ev
          subst ev
          have hjn' : j < n := by have := (List.getElem?_eq_some_iff.1 q3).1; have := HN.out; omega
          obtain ⟨g, c0, e, _, _⟩ := own_some (HG.out _ TW) (by omega)
          cases e
          have HD : Hid (∀ w', Touch [] w w' → R8 w' g (j * 8) ⟨R, S, .slice va vm vc⟩) := hid (fun w' X => lr_cells (HG.out w' X) q3)
          have HPc : Hid (∀ w', Touch [] w w' → Calls Tryz.prog 30 #[.agg #[.int .i64 T.fl, .int .i64 T.bg, .slice (some ⟨g, 0, none⟩) n lc, .slice ga gn gc], .agg #[.int .u16 R.sp, .string R.nm]] w' fun e w2 => e = .returned (.int .i64 (j : Int)) ∧ Touch [] w' w2) := hid (fun w' X => by rw [← q2]; exact (HB.out w' X).curD (kOf R))
          have HLr : Hid (∀ w', Calls Tryz.prog 24 #[.agg #[.int .i64 R.run, .int .i64 R.gen, .int .u16 R.sp, .string R.nm, .bool R.rf, .bool S.kept, .bool S.canc, .slice va vm vc]] w' fun e w2 => e = .returned (.agg #[.int .i64 R.run, .int .u16 R.sp, .string R.nm, .int .i64 R.gen, .bool R.rf]) ∧ Touch [] w' w2) := hid (fun w' => lrun_ w' ⟨R, S, .slice va vm vc⟩ va vm vc rfl)
          obtain ⟨cb, c1, e, _, _⟩ := own_some HC6.out (by omega)
          cases e
          have HC : Hid (∀ (j : Nat) (u : Value), (row5 R)[j]? = some u → ∀ w', Touch [] w19 w' → w'.cell? ⟨cb, i * 5 + j, none⟩ = some u) := hid (fun j u hu w' X => own_cell (own_touch HC6.out X (fun _ _ e => by cases e)) (by rw [flat_at row5_len Ls i j R hR (by have := (List.getElem?_eq_some_iff.1 hu).1; rw [row5_len] at this; exact this)]; exact hu))
          obtain ⟨sb, so, esa, s0, s1⟩ : ∃ sb so, sa = some ⟨sb, so, none⟩ ∧ wr.cell? ⟨sb, so + i * 2, none⟩ = some (.int .u16 R.sp) ∧ wr.cell? ⟨sb, so + i * 2 + 1, none⟩ = some (.string R.nm) := by
            have hl : i < (Ls.map kOf).length := by rw [List.length_map]; have := HLn.out; omega
            have hg : (Ls.map kOf)[i] = kOf R := by rw [List.getElem_map]; congr 1; exact Option.some.inj ((List.getElem?_eq_getElem _).symm.trans hR)
            rcases HS9.out with ⟨q1, _⟩ | ⟨b, off, c2, e2, q⟩
            · rw [q1] at hl; exact absurd hl (by simp)
            · simp only [Value.slice.injEq] at e2
              have q' := q.below (w' := wr) ⟨HX.out.os, HX.out.tape, HX.out.output, HX.out.size, fun k hk => HX.out.block k hk (by simp)⟩
              have a0 := q'.at0 i hl
              have a1 := q'.at1 i hl
              rw [hg] at a0 a1
              exact ⟨b, off, e2.1, a0, a1⟩
          subst esa
          clear q2 q3 q4 hcur hR
          have hj0 : (0 : Int) ≤ (j : Int) := by omega
          have hjn : (j : Int) < (n : Int) := by omega
          have zi0 : (0 : Int) ≤ (i : Int) := by omega
          go_upto_region 22 with fail
          clear s0 s1
          obtain ⟨W1, hW1⟩ : ∃ W, W = wr.alloc (.cells #[.int .u16 R.sp, .string R.nm] 68) := ⟨_, rfl⟩
          have tq : Touch [] w19 W1 := by rw [hW1]; exact HX.out.alloc _
          have kB : W1.heap[wr.heap.size]? = some (.cells #[.int .u16 R.sp, .string R.nm] 68 (0, 0)) := by rw [hW1]; exact heap_alloc_new wr _
          rw [← hW1]
          clear hW1
          generalize wr.heap.size = kb at *
          have kT := tq.keep HKc.out.1 (by simp)
          have U0 : ∀ w', Touch [] W1 w' → w'.cell? ⟨w.heap.size, 0, none⟩ = some (.int .i64 T.fl) := fun w' X => cell_at (X.keep kT (by simp)) rfl
          have U1 : ∀ w', Touch [] W1 w' → w'.cell? ⟨w.heap.size, 1, none⟩ = some (.int .i64 T.bg) := fun w' X => cell_at (X.keep kT (by simp)) rfl
          have U2 : ∀ w', Touch [] W1 w' → w'.cell? ⟨w.heap.size, 2, none⟩ = some (.slice (some ⟨g, 0, none⟩) n lc) := fun w' X => cell_at (X.keep kT (by simp)) rfl
          have U3 : ∀ w', Touch [] W1 w' → w'.cell? ⟨w.heap.size, 3, none⟩ = some (.slice ga gn gc) := fun w' X => cell_at (X.keep kT (by simp)) rfl
          have B0 : ∀ w', Touch [] W1 w' → w'.cell? ⟨kb, 0, none⟩ = some (.int .u16 R.sp) := fun w' X => cell_at (X.keep kB (by simp)) rfl
          have B1 : ∀ w', Touch [] W1 w' → w'.cell? ⟨kb, 1, none⟩ = some (.string R.nm) := fun w' X => cell_at (X.keep kB (by simp)) rfl
          have C0 : ∀ w', Touch [] W1 w' → w'.cell? ⟨cb, i * 5, none⟩ = some (.int .i64 R.run) := fun w' X => HC.out 0 _ rfl w' (tq.trans' X)
          have C1 : ∀ w', Touch [] W1 w' → w'.cell? ⟨cb, i * 5 + 1, none⟩ = some (.int .u16 R.sp) := fun w' X => HC.out 1 _ rfl w' (tq.trans' X)
          have C2 : ∀ w', Touch [] W1 w' → w'.cell? ⟨cb, i * 5 + 2, none⟩ = some (.string R.nm) := fun w' X => HC.out 2 _ rfl w' (tq.trans' X)
          have C3 : ∀ w', Touch [] W1 w' → w'.cell? ⟨cb, i * 5 + 3, none⟩ = some (.int .i64 R.gen) := fun w' X => HC.out 3 _ rfl w' (tq.trans' X)
          have C4 : ∀ w', Touch [] W1 w' → w'.cell? ⟨cb, i * 5 + 4, none⟩ = some (.bool R.rf) := fun w' X => HC.out 4 _ rfl w' (tq.trans' X)
          have D0 : ∀ w', Touch [] W1 w' → w'.cell? ⟨g, j * 8, none⟩ = some (.int .i64 R.run) := fun w' X => by have := HD.out w' (HTc.out.trans' (tq.trans' X)); obtain ⟨r0, r1, r2, r3, r4, r5, r6, r7⟩ := this; exact r0
          have D1 : ∀ w', Touch [] W1 w' → w'.cell? ⟨g, j * 8 + 1, none⟩ = some (.int .i64 R.gen) := fun w' X => by have := HD.out w' (HTc.out.trans' (tq.trans' X)); obtain ⟨r0, r1, r2, r3, r4, r5, r6, r7⟩ := this; exact r1
          have D2 : ∀ w', Touch [] W1 w' → w'.cell? ⟨g, j * 8 + 2, none⟩ = some (.int .u16 R.sp) := fun w' X => by have := HD.out w' (HTc.out.trans' (tq.trans' X)); obtain ⟨r0, r1, r2, r3, r4, r5, r6, r7⟩ := this; exact r2
          have D3 : ∀ w', Touch [] W1 w' → w'.cell? ⟨g, j * 8 + 3, none⟩ = some (.string R.nm) := fun w' X => by have := HD.out w' (HTc.out.trans' (tq.trans' X)); obtain ⟨r0, r1, r2, r3, r4, r5, r6, r7⟩ := this; exact r3
          have D4 : ∀ w', Touch [] W1 w' → w'.cell? ⟨g, j * 8 + 4, none⟩ = some (.bool R.rf) := fun w' X => by have := HD.out w' (HTc.out.trans' (tq.trans' X)); obtain ⟨r0, r1, r2, r3, r4, r5, r6, r7⟩ := this; exact r4
          have D5 : ∀ w', Touch [] W1 w' → w'.cell? ⟨g, j * 8 + 5, none⟩ = some (.bool S.kept) := fun w' X => by have := HD.out w' (HTc.out.trans' (tq.trans' X)); obtain ⟨r0, r1, r2, r3, r4, r5, r6, r7⟩ := this; exact r5
          have D6 : ∀ w', Touch [] W1 w' → w'.cell? ⟨g, j * 8 + 6, none⟩ = some (.bool S.canc) := fun w' X => by have := HD.out w' (HTc.out.trans' (tq.trans' X)); obtain ⟨r0, r1, r2, r3, r4, r5, r6, r7⟩ := this; exact r6
          have D7 : ∀ w', Touch [] W1 w' → w'.cell? ⟨g, j * 8 + 7, none⟩ = some (.slice va vm vc) := fun w' X => by have := HD.out w' (HTc.out.trans' (tq.trans' X)); obtain ⟨r0, r1, r2, r3, r4, r5, r6, r7⟩ := this; exact r7
          have k0 : Touch [] W1 W1.drew := (Touch.refl _ _).drew
          refine wp_region_H (S := fun w' => Touch [] W1 w') (by kernel_rfl) ?_
          generalize W1.drew = WD at *
          refine wpH_take (i := 0) (v := (.slice (some ⟨cb, 0, none⟩) kl cc)) (some 151) rfl rfl (by kernel_rfl) (by kernel_rfl) (by kernel_rfl) (fun _ _ _ h => h) (Or.inl ⟨by rfl, fun w' hS => (by go_simp)⟩) k0 ?_
          try simp only [Go.Act.put, List.setIfInBounds_toArray, List.set_cons_zero, List.set_cons_succ]
          refine wpH_take (i := 1) (v := (.int .i64 (i : Int))) (some 152) rfl rfl (by kernel_rfl) (by kernel_rfl) (by kernel_rfl) (fun _ _ _ h => h) (Or.inl ⟨by rfl, fun w' hS => (by go_simp)⟩) k0 ?_
          try simp only [Go.Act.put, List.setIfInBounds_toArray, List.set_cons_zero, List.set_cons_succ]
          refine wpH_take (i := 2) (v := (.pointer (some ⟨cb, i * 5, none⟩))) (some 153) rfl rfl (by kernel_rfl) (by kernel_rfl) (by kernel_rfl) (fun _ _ _ h => h) (Or.inl ⟨by rfl, fun w' hS => (by go_simp)⟩) k0 ?_
          try simp only [Go.Act.put, List.setIfInBounds_toArray, List.set_cons_zero, List.set_cons_succ]
          refine wpH_take (i := 3) (v := (.agg #[.int .i64 R.run, .int .u16 R.sp, .string R.nm, .int .i64 R.gen, .bool R.rf])) (some 154) rfl rfl (by kernel_rfl) (by kernel_rfl) (by kernel_rfl) (fun _ _ _ h => h) (Or.inl ⟨by rfl, fun w' hS => (by have z0 := C0 _ hS; have z1 := C1 _ hS; have z2 := C2 _ hS; have z3 := C3 _ hS; have z4 := C4 _ hS; go_simp)⟩) k0 ?_
          try simp only [Go.Act.put, List.setIfInBounds_toArray, List.set_cons_zero, List.set_cons_succ]
          refine wpH_take (i := 4) (v := (.pointer (some ⟨w.heap.size, 2, none⟩))) (some 155) rfl rfl (by kernel_rfl) (by kernel_rfl) (by kernel_rfl) (fun _ _ _ h => h) (Or.inl ⟨by rfl, fun w' hS => (by go_simp)⟩) k0 ?_
          try simp only [Go.Act.put, List.setIfInBounds_toArray, List.set_cons_zero, List.set_cons_succ]
          refine wpH_take (i := 5) (v := (.slice (some ⟨g, 0, none⟩) n lc)) (some 156) rfl rfl (by kernel_rfl) (by kernel_rfl) (by kernel_rfl) (fun _ _ _ h => h) (Or.inl ⟨by rfl, fun w' hS => (by have z0 := U2 _ hS; go_simp)⟩) k0 ?_
          try simp only [Go.Act.put, List.setIfInBounds_toArray, List.set_cons_zero, List.set_cons_succ]
          refine wpH_take (i := 6) (v := (.agg #[.int .i64 T.fl, .int .i64 T.bg, .slice (some ⟨g, 0, none⟩) n lc, .slice ga gn gc])) (some 157) rfl rfl (by kernel_rfl) (by kernel_rfl) (by kernel_rfl) (fun _ _ _ h => h) (Or.inl ⟨by rfl, fun w' hS => (by have z0 := U0 _ hS; have z1 := U1 _ hS; have z2 := U2 _ hS; have z3 := U3 _ hS; go_simp)⟩) k0 ?_
          try simp only [Go.Act.put, List.setIfInBounds_toArray, List.set_cons_zero, List.set_cons_succ]
          refine wpH_take (i := 7) (v := (.agg #[.int .u16 R.sp, .string R.nm])) (some 158) rfl rfl (by kernel_rfl) (by kernel_rfl) (by kernel_rfl) (fun _ _ _ h => h) (Or.inl ⟨by rfl, fun w' hS => (by have z0 := B0 _ hS; have z1 := B1 _ hS; go_simp)⟩) k0 ?_
          try simp only [Go.Act.put, List.setIfInBounds_toArray, List.set_cons_zero, List.set_cons_succ]
          refine wpH_call (i := 8) (o := { dst := some 159, op := Op.call { callee := Callee.value (Operand.func 30), args := #[Operand.tmp 157, Operand.tmp 158], argTypes := #[31, 68] }, type := 3, pos := _, after := #[{ on := 6, ground := Ground.data }, { on := 7, ground := Ground.data }], guard := none }) (by kernel_rfl) rfl (fun K' hK => ?_)
          rw [if_pos (by rfl)]
          go_simp
          refine (HPc.out _ (HTc.out.trans' (tq.trans' k0))).mono ?_
          rintro e' w58 ⟨rfl, t58⟩
          have k9 := k0.trans' t58
          refine hK.out _ _ k9 ?_
          clear hK
          try simp only [Go.Act.put, List.setIfInBounds_toArray, List.set_cons_zero, List.set_cons_succ]
          refine wpH_take (i := 9) (v := (.pointer (some ⟨g, j * 8, none⟩))) (some 160) rfl rfl (by kernel_rfl) (by kernel_rfl) (by kernel_rfl) (fun _ _ _ h => h) (Or.inl ⟨by rfl, fun w' hS => (by go_simp)⟩) k9 ?_
          try simp only [Go.Act.put, List.setIfInBounds_toArray, List.set_cons_zero, List.set_cons_succ]
          refine wpH_take (i := 10) (v := (.agg #[.int .i64 R.run, .int .i64 R.gen, .int .u16 R.sp, .string R.nm, .bool R.rf, .bool S.kept, .bool S.canc, .slice va vm vc])) (some 161) rfl rfl (by kernel_rfl) (by kernel_rfl) (by kernel_rfl) (fun _ _ _ h => h) (Or.inl ⟨by rfl, fun w' hS => (by have z0 := D0 _ hS; have z1 := D1 _ hS; have z2 := D2 _ hS; have z3 := D3 _ hS; have z4 := D4 _ hS; have z5 := D5 _ hS; have z6 := D6 _ hS; have z7 := D7 _ hS; go_simp)⟩) k9 ?_
          try simp only [Go.Act.put, List.setIfInBounds_toArray, List.set_cons_zero, List.set_cons_succ]
          refine wpH_call (i := 11) (o := { dst := some 162, op := Op.call { callee := Callee.value (Operand.func 24), args := #[Operand.tmp 161], argTypes := #[78] }, type := 80, pos := _, after := #[{ on := 10, ground := Ground.data }, { on := 8, ground := Ground.chain }], guard := none }) (by kernel_rfl) rfl (fun K' hK => ?_)
          rw [if_pos (by rfl)]
          go_simp
          refine (HLr.out _).mono ?_
          rintro e' w61 ⟨rfl, t61⟩
          have k12 := k9.trans' t61
          refine hK.out _ _ k12 ?_
          clear hK
          try simp only [Go.Act.put, List.setIfInBounds_toArray, List.set_cons_zero, List.set_cons_succ]
          refine wpH_take (i := 12) (v := (.bool false)) (some 163) rfl rfl (by kernel_rfl) (by kernel_rfl) (by kernel_rfl) (fun _ _ _ h => h) (Or.inl ⟨by rfl, fun w' hS => (by go_simp)⟩) k12 ?_
          try simp only [Go.Act.put, List.setIfInBounds_toArray, List.set_cons_zero, List.set_cons_succ]
          refine wpAnyH_done (by kernel_rfl) ?_ _
          clear U0 U1 U2 U3 B0 B1 C0 C1 C2 C3 C4 D0 D1 D2 D3 D4 D5 D6 D7
          go_wp2
          go_roundw
          case rel => exact ⟨i + 1, by go_num, by omega, hid (tq.trans' k12)⟩
          case measure => simp [intOf]; omega
        · have zi : (kl : Int) ≤ (i : Int) := by omega
          have TW := HTc.out.trans' HX.out
          replace HO := hid (own_touch HO.out HX.out (fun _ _ e => by cases e))
          obtain ⟨kT, kA⟩ := HKc.out
          replace kT := HX.out.keep kT (by first | (simp; done) | (simp; omega))
          replace kA := HX.out.keep kA (by first | (simp; done) | (simp; omega))
          clear HKc HTc
          have HKc := hid (And.intro kT kA)
          have HTc := hid TW
          have a0 := cell_at (j := 0) kT rfl
          have a1 := cell_at (j := 1) kT rfl
          have a2 := cell_at (j := 2) kT rfl
          have a3 := cell_at (j := 3) kT rfl
          have af := froz_at kT
          have y0 := cell_at (j := 0) kA rfl
          have y1 := cell_at (j := 1) kA rfl
          have y2 := cell_at (j := 2) kA rfl
          have y3 := cell_at (j := 3) kA rfl
          have y4 := cell_at (j := 4) kA rfl
          have y5 := cell_at (j := 5) kA rfl
          have y6 := cell_at (j := 6) kA rfl
          have y7 := cell_at (j := 7) kA rfl
          have y8 := cell_at (j := 8) kA rfl
          have y9 := cell_at (j := 9) kA rfl
          have yf := froz_at kA
          clear kT kA TW HX HC6 HS9 HP6
          obtain ⟨fo, hfo⟩ : ∃ fo, fo = (runOf T a.rn).isSome := ⟨_, rfl⟩
          obtain ⟨pn, hpn⟩ : ∃ pn, pn = posN (desOf ds) a.rn := ⟨_, rfl⟩
          have hfp : decide (0 ≤ pn) = fo := by rw [hfo, hpn]; exact (HB.out _ HTc.out).found a.rn
          have HRa : Hid (∀ w', Touch [] w w' → Calls Tryz.prog 23 #[.pointer (some ⟨t, 0, none⟩), .int .i64 a.rn] w' fun e w2 => e = .returned (.tuple #[.agg #[.int .i64 (rnOf T a.rn).run, .int .u16 (rnOf T a.rn).sp, .string (rnOf T a.rn).nm, .int .i64 (rnOf T a.rn).gen, .bool (rnOf T a.rn).rf], .bool fo]) ∧ Touch [] w' w2) := hid (fun w' X => by rw [hfo]; exact runT w' t F T N (HB.out w' X).tq (by have := (HB.out w' X).hN; omega) a.rn HW.out.2.1)
          have HFd : Hid (∀ w', Touch [] w w' → Calls Tryz.prog 35 #[.agg #[.int .i64 T.fl, .int .i64 T.bg, .slice la n lc, .slice ga gn gc], .int .i64 a.rn] w' fun e w2 => e = .returned (.int .i64 pn) ∧ Touch [] w' w2) := hid (fun w' X => by rw [hpn]; exact (HB.out w' X).findD a.rn)
          have HPg : Hid (∀ w', Touch [] w w' → Calls Tryz.prog 36 #[.pointer (some ⟨t, 0, none⟩)] w' fun e w2 => ∃ pa pm pk, e = .returned (.slice pa pm pk) ∧ Rd w2 (.slice pa pm pk) (rns ds) ∧ Touch [] w' w2) := hid (fun w' X => (progT w' t F T N (HB.out w' X).tq (by have := (HB.out w' X).hN; omega)).mono (fun e w2 q => by obtain ⟨v, rfl, q1, _, q3⟩ := q; rw [(HB.out w' X).runs] at q1; obtain ⟨pa, pk, rfl, _, _⟩ := q1.form; exact ⟨pa, _, pk, rfl, q1, q3⟩))
          have HSm : Hid (∀ w' pa pm pk, Rd w' (.slice pa pm pk) (rns ds) → Rd w' (.slice na n nc) (rns ds) → Calls Tryz.prog 25 #[.slice pa pm pk, .slice na n nc] w' fun e w2 => e = .returned (.bool true) ∧ Touch [] w' w2) := hid (fun w' pa pm pk h1 h2 => same_ w' _ _ (rns ds) h1 h2 (by unfold rns; rw [List.length_map]; have := HN.out; omega))
          have HBg : Hid (∀ w', Touch [] w w' → Calls Tryz.prog 37 #[.pointer (some ⟨t, 0, none⟩)] w' fun e w2 => e = .returned (.int .i64 T.bg) ∧ Touch [] w' w2) := hid (fun w' X => (begunT w' t F T N (HB.out w' X).tq).mono (fun e w2 q => ⟨q.1, by rw [q.2]; exact Touch.refl _ _⟩))
          obtain ⟨gk, hgk⟩ : ∃ gk, gk = T.gn a.k := ⟨_, rfl⟩
          have HGe : Hid (∀ w', Touch [] w w' → Calls Tryz.prog 31 #[.pointer (some ⟨t, 0, none⟩), .agg #[.int .u16 a.k.1, .string a.k.2]] w' fun e w2 => e = .returned (.int .i64 gk) ∧ Touch [] w' w2) := hid (fun w' X => by rw [hgk]; exact gennT w' t F T N (HB.out w' X).tq a.k HW.out.2.2.2.1)
          have HLk : Hid (∀ w', Calls Tryz.prog 18 #[.agg #[.int .u16 a.k.1, .string a.k.2]] w' fun e w2 => e = .returned (.agg #[.int .u16 a.k.1, .string a.k.2]) ∧ Touch [] w' w2) := hid (fun w' => lkey_ w' a.k)
          have HOf : Hid (∀ w', Touch [] w w' → Calls Tryz.prog 32 #[.agg #[.int .i64 T.fl, .int .i64 T.bg, .slice la n lc, .slice ga gn gc], .agg #[.int .u16 a.k.1, .string a.k.2]] w' fun e w2 => e = .returned (.int .i64 gk) ∧ Touch [] w' w2) := hid (fun w' X => by rw [hgk]; exact (HB.out w' X).ofD a.k)
          have HRo : Hid (∀ w', Touch [] wr w' → Rd w' (.slice na n nc) (rns ds)) := hid (fun w' X => Rd.of_own (by have := own_touch HO.out X (fun _ _ e => by cases e); rw [show (rns ds).length = n by unfold rns; rw [List.length_map]; exact HN.out.symm]; exact this))
          have HT0 : Hid (Touch [] wr wr) := Touch.refl _ _
          clear hfo hpn hgk
          go_upto_region 26 with (go_at_call 23; refine (HRa.out _ HTc.out).mono ?_; rintro e w25 ⟨rfl, t25⟩; obtain ⟨kT, kA⟩ := HKc.out; replace kT := t25.keep kT (by first | (simp; done) | (simp; omega)); replace kA := t25.keep kA (by first | (simp; done) | (simp; omega)); clear HKc a0 a1 a2 a3 af y0 y1 y2 y3 y4 y5 y6 y7 y8 y9 yf; have HKc := hid (And.intro kT kA); have a0 := cell_at (j := 0) kT rfl; have a1 := cell_at (j := 1) kT rfl; have a2 := cell_at (j := 2) kT rfl; have a3 := cell_at (j := 3) kT rfl; have af := froz_at kT; have y0 := cell_at (j := 0) kA rfl; have y1 := cell_at (j := 1) kA rfl; have y2 := cell_at (j := 2) kA rfl; have y3 := cell_at (j := 3) kA rfl; have y4 := cell_at (j := 4) kA rfl; have y5 := cell_at (j := 5) kA rfl; have y6 := cell_at (j := 6) kA rfl; have y7 := cell_at (j := 7) kA rfl; have y8 := cell_at (j := 8) kA rfl; have y9 := cell_at (j := 9) kA rfl; have yf := froz_at kA; clear kT kA; replace HTc := hid (HTc.out.trans' t25); replace HT0 := hid (HT0.out.trans' t25); clear t25)
          clear HRa
          obtain ⟨W1, hW1⟩ : ∃ W, W = w25.alloc (.cells #[.int .i64 (rnOf T a.rn).run, .int .u16 (rnOf T a.rn).sp, .string (rnOf T a.rn).nm, .int .i64 (rnOf T a.rn).gen, .bool (rnOf T a.rn).rf] 80) := ⟨_, rfl⟩
          have tq : Touch [] w25 W1 := by rw [hW1]; exact (Touch.refl _ _).alloc _
          rw [← hW1]
          clear hW1
          obtain ⟨kT, kA⟩ := HKc.out
          replace kT := tq.keep kT (by first | (simp; done) | (simp; omega))
          replace kA := tq.keep kA (by first | (simp; done) | (simp; omega))
          clear HKc a0 a1 a2 a3 af y0 y1 y2 y3 y4 y5 y6 y7 y8 y9 yf
          have HKc := hid (And.intro kT kA)
          have a0 := cell_at (j := 0) kT rfl
          have a1 := cell_at (j := 1) kT rfl
          have a2 := cell_at (j := 2) kT rfl
          have a3 := cell_at (j := 3) kT rfl
          have af := froz_at kT
          have y0 := cell_at (j := 0) kA rfl
          have y1 := cell_at (j := 1) kA rfl
          have y2 := cell_at (j := 2) kA rfl
          have y3 := cell_at (j := 3) kA rfl
          have y4 := cell_at (j := 4) kA rfl
          have y5 := cell_at (j := 5) kA rfl
          have y6 := cell_at (j := 6) kA rfl
          have y7 := cell_at (j := 7) kA rfl
          have y8 := cell_at (j := 8) kA rfl
          have y9 := cell_at (j := 9) kA rfl
          have yf := froz_at kA
          clear kT kA
          replace HTc := hid (HTc.out.trans' tq)
          replace HT0 := hid (HT0.out.trans' tq)
          clear tq
          subst hfp
          go_upto_region 28 with (go_at_call 35; refine (HFd.out _ HTc.out).mono ?_; rintro e w26 ⟨rfl, t26⟩; obtain ⟨kT, kA⟩ := HKc.out; replace kT := t26.keep kT (by first | (simp; done) | (simp; omega)); replace kA := t26.keep kA (by first | (simp; done) | (simp; omega)); clear HKc a0 a1 a2 a3 af y0 y1 y2 y3 y4 y5 y6 y7 y8 y9 yf; have HKc := hid (And.intro kT kA); have a0 := cell_at (j := 0) kT rfl; have a1 := cell_at (j := 1) kT rfl; have a2 := cell_at (j := 2) kT rfl; have a3 := cell_at (j := 3) kT rfl; have af := froz_at kT; have y0 := cell_at (j := 0) kA rfl; have y1 := cell_at (j := 1) kA rfl; have y2 := cell_at (j := 2) kA rfl; have y3 := cell_at (j := 3) kA rfl; have y4 := cell_at (j := 4) kA rfl; have y5 := cell_at (j := 5) kA rfl; have y6 := cell_at (j := 6) kA rfl; have y7 := cell_at (j := 7) kA rfl; have y8 := cell_at (j := 8) kA rfl; have y9 := cell_at (j := 9) kA rfl; have yf := froz_at kA; clear kT kA; replace HTc := hid (HTc.out.trans' t26); replace HT0 := hid (HT0.out.trans' t26); clear t26)
          clear HFd a0 a1 a2 a3 af y0 y1 y2 y3 y4 y5 y6 y7 y8 y9 yf
          have U0 : ∀ w', Touch [] w26 w' → w'.cell? ⟨w.heap.size, 0, none⟩ = some (.int .i64 T.fl) := fun w' X => cell_at (X.keep HKc.out.1 (by simp)) rfl
          have U1 : ∀ w', Touch [] w26 w' → w'.cell? ⟨w.heap.size, 1, none⟩ = some (.int .i64 T.bg) := fun w' X => cell_at (X.keep HKc.out.1 (by simp)) rfl
          have U2 : ∀ w', Touch [] w26 w' → w'.cell? ⟨w.heap.size, 2, none⟩ = some (.slice la n lc) := fun w' X => cell_at (X.keep HKc.out.1 (by simp)) rfl
          have U3 : ∀ w', Touch [] w26 w' → w'.cell? ⟨w.heap.size, 3, none⟩ = some (.slice ga gn gc) := fun w' X => cell_at (X.keep HKc.out.1 (by simp)) rfl
          have Y4 : ∀ w', Touch [] w26 w' → w'.cell? ⟨w.heap.size + 1, 4, none⟩ = some (.int .u16 a.k.1) := fun w' X => cell_at (X.keep HKc.out.2 (by simp)) rfl
          have Y5 : ∀ w', Touch [] w26 w' → w'.cell? ⟨w.heap.size + 1, 5, none⟩ = some (.string a.k.2) := fun w' X => cell_at (X.keep HKc.out.2 (by simp)) rfl
          have k0 : Touch [] w26 w26.drew := (Touch.refl _ _).drew
          refine wp_region_H (S := fun w' => Touch [] w26 w') (by kernel_rfl) ?_
          generalize w26.drew = WD at *
          refine wpH_take (i := 0) (v := (.pointer (some ⟨t, 0, none⟩))) (some 179) rfl rfl (by kernel_rfl) (by kernel_rfl) (by kernel_rfl) (fun _ _ _ h => h) (Or.inl ⟨by rfl, fun w' hS => (by go_simp)⟩) k0 ?_
          try simp only [Go.Act.put, List.setIfInBounds_toArray, List.set_cons_zero, List.set_cons_succ]
          refine wpH_take (i := 2) (v := (.slice na n nc)) (some 181) rfl rfl (by kernel_rfl) (by kernel_rfl) (by kernel_rfl) (fun _ _ _ h => h) (Or.inl ⟨by rfl, fun w' hS => (by go_simp)⟩) k0 ?_
          try simp only [Go.Act.put, List.setIfInBounds_toArray, List.set_cons_zero, List.set_cons_succ]
          refine wpH_call (i := 1) (o := { dst := some 180, op := Op.call { callee := Callee.value (Operand.func 36), args := #[Operand.tmp 179], argTypes := #[23] }, type := 75, pos := _, after := #[{ on := 0, ground := Ground.data }], guard := none }) (by kernel_rfl) rfl (fun K' hK => ?_)
          rw [if_pos (by rfl)]
          go_simp
          refine (HPg.out _ (HTc.out.trans' k0)).mono ?_
          rintro e' w51 ⟨pa, pm, pk, rfl, hpr, t51⟩
          have k2 := k0.trans' t51
          refine hK.out _ _ k2 ?_
          clear hK
          try simp only [Go.Act.put, List.setIfInBounds_toArray, List.set_cons_zero, List.set_cons_succ]
          refine wpH_call (i := 3) (o := { dst := some 182, op := Op.call { callee := Callee.value (Operand.func 25), args := #[Operand.tmp 180, Operand.tmp 181], argTypes := #[75, 75] }, type := 4, pos := _, after := #[{ on := 1, ground := Ground.data }, { on := 2, ground := Ground.data }, { on := 1, ground := Ground.chain }], guard := none }) (by kernel_rfl) rfl (fun K' hK => ?_)
          rw [if_pos (by rfl)]
          go_simp
          refine (HSm.out _ pa pm pk hpr (HRo.out _ (HT0.out.trans' k2))).mono ?_
          rintro e' w53 ⟨rfl, t53⟩
          have k4 := k2.trans' t53
          refine hK.out _ _ k4 ?_
          clear hK
          try simp only [Go.Act.put, List.setIfInBounds_toArray, List.set_cons_zero, List.set_cons_succ]
          refine wpH_take (i := 4) (v := (.bool true)) (some 183) rfl rfl (by kernel_rfl) (by kernel_rfl) (by kernel_rfl) (fun _ _ _ h => h) (Or.inl ⟨by rfl, fun w' hS => (by go_simp)⟩) k4 ?_
          try simp only [Go.Act.put, List.setIfInBounds_toArray, List.set_cons_zero, List.set_cons_succ]
          refine wpH_take (i := 5) (v := (.pointer (some ⟨t, 0, none⟩))) (some 184) rfl rfl (by kernel_rfl) (by kernel_rfl) (by kernel_rfl) (fun _ _ _ h => h) (Or.inl ⟨by rfl, fun w' hS => (by go_simp)⟩) k4 ?_
          try simp only [Go.Act.put, List.setIfInBounds_toArray, List.set_cons_zero, List.set_cons_succ]
          refine wpH_take (i := 7) (v := (.pointer (some ⟨w.heap.size, 1, none⟩))) (some 186) rfl rfl (by kernel_rfl) (by kernel_rfl) (by kernel_rfl) (fun _ _ _ h => h) (Or.inl ⟨by rfl, fun w' hS => (by go_simp)⟩) k4 ?_
          try simp only [Go.Act.put, List.setIfInBounds_toArray, List.set_cons_zero, List.set_cons_succ]
          refine wpH_take (i := 8) (v := (.int .i64 T.bg)) (some 187) rfl rfl (by kernel_rfl) (by kernel_rfl) (by kernel_rfl) (fun _ _ _ h => h) (Or.inl ⟨by rfl, fun w' hS => (by have z0 := U1 _ hS; go_simp)⟩) k4 ?_
          try simp only [Go.Act.put, List.setIfInBounds_toArray, List.set_cons_zero, List.set_cons_succ]
          refine wpH_call (i := 6) (o := { dst := some 185, op := Op.call { callee := Callee.value (Operand.func 37), args := #[Operand.tmp 184], argTypes := #[23] }, type := 3, pos := _, after := #[{ on := 5, ground := Ground.data }, { on := 4, ground := Ground.chain }, { on := 4, ground := Ground.guard }], guard := some (4, true) }) (by kernel_rfl) rfl (fun K' hK => ?_)
          rw [if_pos (by rfl)]
          go_simp
          refine (HBg.out _ (HTc.out.trans' k4)).mono ?_
          rintro e' w56 ⟨rfl, t56⟩
          have k7 := k4.trans' t56
          refine hK.out _ _ k7 ?_
          clear hK
          try simp only [Go.Act.put, List.setIfInBounds_toArray, List.set_cons_zero, List.set_cons_succ]
          refine wpH_take (i := 9) (v := (.bool true)) (some 188) rfl rfl (by kernel_rfl) (by kernel_rfl) (by kernel_rfl) (fun _ _ _ h => h) (Or.inl ⟨by rfl, fun w' hS => (by go_simp)⟩) k7 ?_
          try simp only [Go.Act.put, List.setIfInBounds_toArray, List.set_cons_zero, List.set_cons_succ]
          refine wpH_take (i := 10) (v := (.bool true)) (some 189) rfl rfl (by kernel_rfl) (by kernel_rfl) (by kernel_rfl) (fun _ _ _ h => h) (Or.inl ⟨by rfl, fun w' hS => (by go_simp)⟩) k7 ?_
          try simp only [Go.Act.put, List.setIfInBounds_toArray, List.set_cons_zero, List.set_cons_succ]
          refine wpH_take (i := 11) (v := (.bool true)) (some 190) rfl rfl (by kernel_rfl) (by kernel_rfl) (by kernel_rfl) (fun _ _ _ h => h) (Or.inl ⟨by rfl, fun w' hS => (by go_simp)⟩) k7 ?_
          try simp only [Go.Act.put, List.setIfInBounds_toArray, List.set_cons_zero, List.set_cons_succ]
          refine wpH_take (i := 12) (v := (.pointer (some ⟨t, 0, none⟩))) (some 191) rfl rfl (by kernel_rfl) (by kernel_rfl) (by kernel_rfl) (fun _ _ _ h => h) (Or.inl ⟨by rfl, fun w' hS => (by go_simp)⟩) k7 ?_
          try simp only [Go.Act.put, List.setIfInBounds_toArray, List.set_cons_zero, List.set_cons_succ]
          refine wpH_take (i := 13) (v := (.pointer (some ⟨w.heap.size + 1, 4, none⟩))) (some 192) rfl rfl (by kernel_rfl) (by kernel_rfl) (by kernel_rfl) (fun _ _ _ h => h) (Or.inl ⟨by rfl, fun w' hS => (by go_simp)⟩) k7 ?_
          try simp only [Go.Act.put, List.setIfInBounds_toArray, List.set_cons_zero, List.set_cons_succ]
          refine wpH_take (i := 14) (v := (.agg #[.int .u16 a.k.1, .string a.k.2])) (some 193) rfl rfl (by kernel_rfl) (by kernel_rfl) (by kernel_rfl) (fun _ _ _ h => h) (Or.inl ⟨by rfl, fun w' hS => (by have z0 := Y4 _ hS; have z1 := Y5 _ hS; go_simp)⟩) k7 ?_
          try simp only [Go.Act.put, List.setIfInBounds_toArray, List.set_cons_zero, List.set_cons_succ]
          refine wpH_take (i := 16) (v := (.agg #[.int .i64 T.fl, .int .i64 T.bg, .slice la n lc, .slice ga gn gc])) (some 195) rfl rfl (by kernel_rfl) (by kernel_rfl) (by kernel_rfl) (fun _ _ _ h => h) (Or.inl ⟨by rfl, fun w' hS => (by have z0 := U0 _ hS; have z1 := U1 _ hS; have z2 := U2 _ hS; have z3 := U3 _ hS; go_simp)⟩) k7 ?_
          try simp only [Go.Act.put, List.setIfInBounds_toArray, List.set_cons_zero, List.set_cons_succ]
          refine wpH_take (i := 17) (v := (.pointer (some ⟨w.heap.size + 1, 4, none⟩))) (some 196) rfl rfl (by kernel_rfl) (by kernel_rfl) (by kernel_rfl) (fun _ _ _ h => h) (Or.inl ⟨by rfl, fun w' hS => (by go_simp)⟩) k7 ?_
          try simp only [Go.Act.put, List.setIfInBounds_toArray, List.set_cons_zero, List.set_cons_succ]
          refine wpH_take (i := 18) (v := (.agg #[.int .u16 a.k.1, .string a.k.2])) (some 197) rfl rfl (by kernel_rfl) (by kernel_rfl) (by kernel_rfl) (fun _ _ _ h => h) (Or.inl ⟨by rfl, fun w' hS => (by have z0 := Y4 _ hS; have z1 := Y5 _ hS; go_simp)⟩) k7 ?_
          try simp only [Go.Act.put, List.setIfInBounds_toArray, List.set_cons_zero, List.set_cons_succ]
          refine wpH_call (i := 15) (o := { dst := some 194, op := Op.call { callee := Callee.value (Operand.func 31), args := #[Operand.tmp 191, Operand.tmp 193], argTypes := #[23, 34] }, type := 3, pos := _, after := #[{ on := 12, ground := Ground.data }, { on := 14, ground := Ground.data }, { on := 11, ground := Ground.chain }, { on := 11, ground := Ground.guard }], guard := some (11, true) }) (by kernel_rfl) rfl (fun K' hK => ?_)
          rw [if_pos (by rfl)]
          go_simp
          refine (HGe.out _ (HTc.out.trans' k7)).mono ?_
          rintro e' w65 ⟨rfl, t65⟩
          have k16 := k7.trans' t65
          refine hK.out _ _ k16 ?_
          clear hK
          try simp only [Go.Act.put, List.setIfInBounds_toArray, List.set_cons_zero, List.set_cons_succ]
          refine wpH_call (i := 19) (o := { dst := some 198, op := Op.call { callee := Callee.value (Operand.func 18), args := #[Operand.tmp 197], argTypes := #[34] }, type := 68, pos := _, after := #[{ on := 18, ground := Ground.data }, { on := 15, ground := Ground.chain }, { on := 11, ground := Ground.guard }], guard := some (11, true) }) (by kernel_rfl) rfl (fun K' hK => ?_)
          rw [if_pos (by rfl)]
          go_simp
          refine (HLk.out _).mono ?_
          rintro e' w69 ⟨rfl, t69⟩
          have k20 := k16.trans' t69
          refine hK.out _ _ k20 ?_
          clear hK
          try simp only [Go.Act.put, List.setIfInBounds_toArray, List.set_cons_zero, List.set_cons_succ]
          refine wpH_call (i := 20) (o := { dst := some 199, op := Op.call { callee := Callee.value (Operand.func 32), args := #[Operand.tmp 195, Operand.tmp 198], argTypes := #[31, 68] }, type := 3, pos := _, after := #[{ on := 16, ground := Ground.data }, { on := 19, ground := Ground.data }, { on := 19, ground := Ground.chain }, { on := 11, ground := Ground.guard }], guard := some (11, true) }) (by kernel_rfl) rfl (fun K' hK => ?_)
          rw [if_pos (by rfl)]
          go_simp
          refine (HOf.out _ (HTc.out.trans' k20)).mono ?_
          rintro e' w70 ⟨rfl, t70⟩
          have k21 := k20.trans' t70
          refine hK.out _ _ k21 ?_
          clear hK
          try simp only [Go.Act.put, List.setIfInBounds_toArray, List.set_cons_zero, List.set_cons_succ]
          refine wpH_take (i := 21) (v := (.bool true)) (some 200) rfl rfl (by kernel_rfl) (by kernel_rfl) (by kernel_rfl) (fun _ _ _ h => h) (Or.inl ⟨by rfl, fun w' hS => (by go_simp)⟩) k21 ?_
          try simp only [Go.Act.put, List.setIfInBounds_toArray, List.set_cons_zero, List.set_cons_succ]
          refine wpH_take (i := 22) (v := (.bool true)) (some 201) rfl rfl (by kernel_rfl) (by kernel_rfl) (by kernel_rfl) (fun _ _ _ h => h) (Or.inl ⟨by rfl, fun w' hS => (by go_simp)⟩) k21 ?_
          try simp only [Go.Act.put, List.setIfInBounds_toArray, List.set_cons_zero, List.set_cons_succ]
          refine wpH_take (i := 23) (v := (.bool true)) (some 6) rfl rfl (by kernel_rfl) (by kernel_rfl) (by kernel_rfl) (fun _ _ _ h => h) (Or.inl ⟨by rfl, fun w' hS => (by go_simp)⟩) k21 ?_
          try simp only [Go.Act.put, List.setIfInBounds_toArray, List.set_cons_zero, List.set_cons_succ]
          refine wpAnyH_done (by kernel_rfl) ?_ _
          clear U0 U1 U2 U3 Y4 Y5
          go_wp2
          go_ret
          exact ⟨rfl, HTc.out.trans' k21⟩
end Go.Proofs.YtpihhlllembdeaaGreat
