/- A loop over a map, by plain keys: no conditions. -/
import Derived.Test.YtpihhlllembdeaaGreatMpk
import Derived.Maps.RangeWalk
import Derived.Test.YtpihhlllembdeaaGreatReb
import Derived.Test.YtpihhlllembdeaaGreatTbr
import Derived.Test.YtpihhlllembdeaaGreatDle
namespace Go.Proofs.YtpihhlllembdeaaGreat
open Go.RowKit Go.Maps Go.ChangeMaps Go.WideMaps
set_option linter.unusedVariables false
section
variable {P : Program} {kt : TypeId} {K : Type} (c : KK P kt K)
/-- Under way: which keys are still to come, and how many. -/
def RgK (w : World) (b r n : Nat) (f : K → Option Value) (left : K → Prop) (cnt : Nat) : Prop :=
  ∃ (D : DataW Value) (lf : Lit → Bool), w.ranges P kt HR b r n D lf cnt ∧ Dm c D f ∧ (∀ k, left k → c.ok k) ∧ ∀ k, c.ok k → (left k ↔ lf (c.lit k) = true)
variable {c} {w w' : World} {b r n cnt : Nat} {f : K → Option Value} {left : K → Prop} {t e : TypeId} {F : List Nat}
theorem RgK.ne (h : RgK c w b r n f left cnt) : r ≠ b := by
  obtain ⟨D, lf, h1, _⟩ := h
  exact h1.ne
theorem RgK.lt (h : RgK c w b r n f left cnt) : r < w.heap.size := by
  obtain ⟨D, lf, h1, _⟩ := h
  exact h1.lt
theorem RgK.count (h : RgK c w b r n f left cnt) : w.rangeLeft b r = cnt := by
  obtain ⟨D, lf, h1, _⟩ := h
  exact h1.left_eq
theorem RgK.keep (h : RgK c w b r n f left cnt) (T : Touch F w w') (hb : ¬ b ∈ F) (hr : ¬ r ∈ F) : RgK c w' b r n f left cnt := by
  obtain ⟨D, lf, h1, h2⟩ := h
  refine ⟨D, lf, ?_, h2⟩
  have q1 := h1.owns.lt
  have q2 := h1.lt
  obtain ⟨es, clock, since, seen, c0, hb', Ft, hs, hD, hr', rest⟩ := h1
  exact ⟨es, clock, since, seen, c0, (T.block b q1 hb).trans hb', Ft, hs, hD, (T.block r q2 hr).trans hr', rest⟩
/-- The loop begins. -/
theorem MapK.range (h : MapK c w b n f) (ht : P.underlying t = some (.map kt e)) :
    ∃ w', (Instr.range t (.map (some b))).run P w = .ok (.pointer (some ⟨w.heap.size, 0, none⟩)) w' ∧ RgK c w' b w.heap.size n f (fun k => c.ok k ∧ (f k).isSome = true) n ∧ Touch [] w w' ∧ w'.heap.size = w.heap.size + 1 := by
  obtain ⟨D, h1, h2, h3⟩ := h
  obtain ⟨w', r1, r2, r3, r4⟩ := h1.range c.keyed ht
  rw [h2] at r2
  refine ⟨w', r1, ⟨D, _, r2, h3, fun k hk => hk.1, fun k hk => ?_⟩, ⟨r3.os, r3.tape, r3.output, r3.size, fun k hk _ => r3.block k hk (by simp)⟩, r4⟩
  rw [(h3.at_ k hk).1]
  exact ⟨fun q => q.2, fun q => ⟨hk, q⟩⟩
/-- The loop's step. -/
theorem RgK.next (h : RgK c w b r n f left cnt) (ty : TypeId) :
    (cnt = 0 ∧ (∀ k, ¬ left k) ∧ (Instr.next (.pointer (some ⟨r, 0, none⟩)) false ty).run P w = .ok (.tuple #[.bool false]) w) ∨
    ∃ k v w' cnt', c.ok k ∧ left k ∧ f k = some v ∧ (Instr.next (.pointer (some ⟨r, 0, none⟩)) false ty).run P w = .ok (.tuple #[.bool true, c.kv k, v]) w' ∧
      RgK c w' b r n f (fun j => left j ∧ j ≠ k) cnt' ∧ cnt' < cnt ∧ Touch [r] w w' ∧ w'.heap.size = w.heap.size ∧ (Instr.entry (.pointer (some ⟨r, 0, none⟩))).run P w' = .ok (.tuple #[c.kv k, v]) w' := by
  obtain ⟨D, lf, h1, h2, h3, h4⟩ := h
  rcases h1.next c.keyed ty with ⟨q1, q2, q3⟩ | ⟨key, v, kl, y, w', cnt', hkey, hlk, hv, hat, hrun, hrg, hlt, hgr, hsz, hen⟩
  · refine Or.inl ⟨q1, fun k hk => ?_, q3⟩
    have := (h4 k (h3 k hk)).1 hk
    rw [q2] at this
    cases this
  · have hhas : Maps.has D kl = true := by
      obtain ⟨es, clock, since, seen, c0, hb, Ft, hs, hD, hr, hold, hc, hl1, hl2, rest⟩ := h1
      obtain ⟨x, hx, hk⟩ := hl2 kl hlk
      rw [hD]
      obtain ⟨y', hy'⟩ := Ft.reads x hx
      exact List.any_eq_true.2 ⟨WideElems.rg P kt HR x, mem_sorted.2 (List.mem_map.2 ⟨x, hx, rfl⟩), by rw [hk]; exact WideAt.sameKey_self (c.keyed.key hkey)⟩
    obtain ⟨k, hk, rfl⟩ := h2.dom kl hhas
    have ekey : key = c.kv k := c.keyed.inj hkey (c.key hk)
    subst ekey
    have hv' : y.1 = .held v := by
      simp only [HR, Option.some.injEq] at hv
      rw [← hv]
    have hfk : f k = some v := by
      have a1 := (h2.at_ k hk).1
      rw [hhas] at a1
      obtain ⟨u, hu⟩ := Option.isSome_iff_exists.1 a1.symm
      have a2 := (h2.at_ k hk).2 v
      rw [hat, hv', hu] at a2
      simp only [Option.getD_some, DataW.held.injEq] at a2
      rw [hu, a2]
    refine Or.inr ⟨k, v, w', cnt', hk, (h4 k hk).2 hlk, hfk, hrun, ⟨D, _, hrg, h2, fun j hj => h3 j hj.1, fun j hj => ?_⟩, hlt, ⟨hgr.os, hgr.tape, hgr.output, hgr.size, fun i hi hn => hgr.block i hi (fun e => hn (by cases e; simp))⟩, hsz, hen⟩
    simp only [Bool.and_eq_true, Bool.not_eq_true']
    constructor
    · rintro ⟨g1, g2⟩
      exact ⟨(h4 j hj).1 g1, Maps.sameKey_ne (c.ne hj hk g2)⟩
    · rintro ⟨g1, g2⟩
      refine ⟨(h4 j hj).2 g1, fun e => ?_⟩
      subst e
      rw [WideAt.sameKey_self (c.isKey hj)] at g2
      cases g2
end
end Go.Proofs.YtpihhlllembdeaaGreat
/- The contract of Clone: a record of its own that is the same. -/
namespace Go.Proofs.YtpihhlllembdeaaGreat
open Go.RowKit Go.Maps Go.ChangeMaps
set_option linter.unusedVariables false
set_option linter.unusedSimpArgs false
theorem own_form2 {w : World} {base e n k : Nat} {v : Value} {xs : List Value} (h : w.ownsRow base e k v n xs) : ∃ p n c, v = .slice p n c := by
  obtain ⟨p, c, e⟩ := own_form h
  exact ⟨p, n, c, e⟩
def CpE (e : Ending) (w w' : World) (R : Rn) (S : St) (N : Nat) : Prop := ∃ b F, e = .returned (PT b) ∧ Rq w' b F R S N ∧ Touch [] w w' ∧ ∀ d, d ∈ F → w.heap.size ≤ d
section
variable (w : World) (b N : Nat) (F : List Nat) (R : Rn) (S : St)
set_option maxHeartbeats 4000000 in
set_option maxRecDepth 100000 in
theorem clone20 (h : Rq w b F R S N) (hN : N ≤ 3000000000000) : Calls Tryz.prog 54 #[PT b] w fun e w' => CpE e w w' R S N := by
  obtain ⟨sl, m, cs, rfl, h, hw, hl, hiv⟩ := h
  have hbl := h.rc.lt
  have hne : b ≠ w.heap.size := by omega
  obtain ⟨a, cap, rfl⟩ := own_form h.ln.row
  obtain ⟨W1, hW1⟩ : ∃ W1, W1 = w.alloc (.cells (rc R (.slice a cs.length cap) (.map m) (S.kept && !S.ended) S.canc S.ended S.out) 135) := ⟨_, rfl⟩
  have hrc1 : Rc W1 w.heap.size R (.slice a cs.length cap) (.map m) (S.kept && !S.ended) S.canc S.ended S.out := ⟨by rw [hW1]; exact heap_alloc_new w _⟩
  have t1 : Touch [] w W1 := by rw [hW1]; exact (Touch.refl _ _).alloc _
  have h1 := h.keep0 t1
  have HC := hid (clone36 W1 b R _ m cs _ _ _ _ h1 (by omega))
  unfold ClE at HC
  have HG : Hid (∀ w2, Touch [] W1 w2 → w2.cell? ⟨w.heap.size, 5, none⟩ = some (.slice a cs.length cap) ∧ w2.cell? ⟨w.heap.size, 6, none⟩ = some (.map m) ∧ ∀ i, w2.frozen? ⟨w.heap.size, i, none⟩ = false) := fun w2 T => by
    have := hrc1.keep T (by simp)
    exact ⟨this.cs.c5, this.cs.c6, this.fz⟩
  have HX : Hid (∀ w2 sl2 m2, Ln w2 sl2 m2 cs → (∀ q, sl2.ownBlock = some q ∨ m2 = some q → W1.heap.size ≤ q) → Touch [] W1 w2 → CpE (.returned (PT w.heap.size)) w ((w2.setCell ⟨w.heap.size, 5, none⟩ sl2).setCell ⟨w.heap.size, 6, none⟩ (.map m2)) R S N) := fun w2 sl2 m2 hln hq T => by
    have hs1 : w.heap.size < W1.heap.size := hrc1.lt
    have hrc2 := hrc1.keep T (by simp)
    have TB : Touch [w.heap.size] w2 ((w2.setCell ⟨w.heap.size, 5, none⟩ sl2).setCell ⟨w.heap.size, 6, none⟩ (.map m2)) := ((Touch.refl _ _).setCell (Or.inl (by simp)) _).setCell (Or.inl (by simp)) _
    refine ⟨w.heap.size, fpR w.heap.size sl2 m2, rfl, ⟨sl2, m2, cs, rfl, ⟨(hrc2.set5 _).set6 _, hln.keep TB (fun d hd e' => ?_) (fun d hd e' => ?_)⟩, hw, hl, hiv⟩, (t1.trans' T).trans TB (fun i hi => Or.inr (by simp at hi; omega)), fun d hd => ?_⟩
    · have := hq d (Or.inl hd); simp at e'; omega
    · have := hq d (Or.inr hd); simp at e'; omega
    · rcases mem_fpR.1 hd with q | q | q
      · omega
      · have := hq d (Or.inl q); omega
      · have := hq d (Or.inr q); omega
  obtain ⟨c0, c1, c2, c3, c4, c5, c6, c7, c8, c9, c10, c11, c12, c13⟩ := h.rc.cs
  have ff := h.rc.fz
  clear h h1 hrc1 t1 hw hl hiv
  unfold PT at *
  unfold PL at HC
  unfold rc at hW1
  go_enter Tryz.func54, Tryz.ntmps54
  go_upto_region 4 with fail
  rw [← hW1]
  clear hW1 c0 c1 c2 c3 c4 c5 c6 c7 c8 c9 c10 c11 c12 c13 ff
  go_wp2_with (go_at_call 71; refine HC.out.mono ?_; rintro e w2 ⟨sl2, m2, rfl, q1, q2, q3⟩; obtain ⟨a2, n2, c2, rfl⟩ := own_form2 q1.row; obtain ⟨y1, y2, y3⟩ := HG.out w2 q3; have RR := hid (HX.out w2 _ m2 q1 q2 q3); clear q1 q2 q3)
  go_ret
  exact RR.out
end
end Go.Proofs.YtpihhlllembdeaaGreat
/- What a copy of a table is made of: copies of maps, copies of records gathered in any order. -/
namespace Go.Proofs.YtpihhlllembdeaaGreat
open Go.RowKit Go.Maps Go.ChangeMaps
set_option linter.unusedVariables false
set_option linter.unusedSimpArgs false
section
variable {P : Program} {kt : TypeId} {K : Type} {c : KK P kt K} {w w' : World} {b b' n n' : Nat} {f f' : K → Option Value}
theorem MapK.keys (h : MapK c w b n f) : ∃ ls : List Lit, ls.Nodup ∧ ls.length = n ∧ ∀ l, l ∈ ls ↔ ∃ k, c.ok k ∧ l = c.lit k ∧ (f k).isSome = true := by
  obtain ⟨D, h1, h2, h3⟩ := h
  obtain ⟨es, rfl, hp, hk⟩ := h1.entries c.keyed
  refine ⟨es.map (·.1), List.pairwise_map.2 hp, by rw [List.length_map, ← h2]; rfl, fun l => ?_⟩
  constructor
  · intro hl
    obtain ⟨q, hq, rfl⟩ := List.mem_map.1 hl
    have hh : Maps.has (.map es) q.1 = true := by rw [Maps.has_eq]; exact List.any_eq_true.2 ⟨q, hq, WideAt.sameKey_self (hk q hq)⟩
    obtain ⟨k, hk', e⟩ := h3.dom _ hh
    refine ⟨k, hk', e, ?_⟩
    rw [← (h3.at_ k hk').1, ← e]
    exact hh
  · rintro ⟨k, hk', rfl, hs⟩
    rw [← (h3.at_ k hk').1, Maps.has_eq] at hs
    obtain ⟨q, hq, e⟩ := List.any_eq_true.1 hs
    exact List.mem_map.2 ⟨q, hq, WideAt.sameKey_eq e⟩
/-- Maps of the same keys are of one size. -/
theorem MapK.same_size (h : MapK c w b n f) (h' : MapK c w' b' n' f') (hf : ∀ k, c.ok k → (f k).isSome = (f' k).isSome) : n = n' := by
  obtain ⟨ls, a1, rfl, a3⟩ := h.keys
  obtain ⟨ms, b1, rfl, b3⟩ := h'.keys
  refine ((List.perm_ext_iff_of_nodup a1 b1).2 (fun l => ?_)).length_eq
  rw [a3, b3]
  constructor
  · rintro ⟨k, q1, q2, q3⟩
    exact ⟨k, q1, q2, by rw [← hf k q1]; exact q3⟩
  · rintro ⟨k, q1, q2, q3⟩
    exact ⟨k, q1, q2, by rw [hf k q1]; exact q3⟩
end
theorem cloneM_none (w : World) : Calls Tryz.prog 55 #[.map none] w fun e w' => e = .returned (.map none) ∧ w' = w := by
  have hq := fun (w : World) (m : Option Nat) => run_eql_map_nil_sl (P := Tryz.prog) w 46 _ _ m Tryz.underlying46
  go_enter Tryz.func55, Tryz.ntmps55
  go_wp2
  go_ret
  exact ⟨rfl, rfl⟩
set_option maxRecDepth 100000 in
theorem cloneM_some (w : World) (d n : Nat) (f : K → Option Value) (h : MapK KC w d n f) : Calls Tryz.prog 55 #[.map (some d)] w fun e w' => e = .returned (.map (some w.heap.size)) ∧ MapK KC w' w.heap.size n f ∧ Touch [] w w' := by
  have hq := fun (w : World) (m : Option Nat) => run_eql_map_nil_sl (P := Tryz.prog) w 46 _ _ m Tryz.underlying46
  obtain ⟨es, cl, hb, hm⟩ := h.copy
  have HM := hid hm
  have hta := fun w v => run_typeAssert_map_sl (P := Tryz.prog) w 46 20 _ _ v Tryz.underlying46
  clear h hm
  go_enter Tryz.func55, Tryz.ntmps55
  go_wp2
  rw [run_callFunc_extern Tryz.func72 (by kernel_rfl) (by kernel_rfl) (by kernel_rfl) (e := Extern.MapsClone.clone) (by kernel_rfl), run_maps_clone_sl w 46 hb]
  simp only [Result.andThen]
  rw [Oper.upon_value]
  go_wp2
  go_ret
  exact ⟨rfl, HM.out, (Touch.refl _ _).alloc _⟩
/-- The generations' copy. -/
theorem cloneM_gen (w : World) (g : Option Nat) (ng : Nat) (T : Tb) (h : Gm w g ng T) : Calls Tryz.prog 55 #[.map g] w fun e w' => ∃ g', e = .returned (.map g') ∧ Gm w' g' ng T ∧ (∀ d, g' = some d → w.heap.size ≤ d) ∧ Touch [] w w' := by
  rcases h with ⟨rfl, h0⟩ | ⟨d, rfl, hm⟩
  · refine (cloneM_none w).mono ?_
    rintro e w' ⟨rfl, rfl⟩
    exact ⟨none, rfl, Or.inl ⟨rfl, h0⟩, fun d hd => (by cases hd), Touch.refl _ _⟩
  · refine (cloneM_some w d ng _ hm).mono ?_
    rintro e w' ⟨rfl, q1, q2⟩
    exact ⟨_, rfl, Or.inr ⟨_, rfl, q1⟩, fun d hd => (by cases hd; exact Nat.le_refl _), q2⟩
/-- The copies' map: those that are done. -/
def CpF (Ps : List Rb) (left : Int → Prop) (cp : Int → Nat × List Nat) (f : Int → Option Value) : Prop := (∀ n, left n → f n = none) ∧ ∀ n, ¬ left n → f n = (ptr Ps n).map (fun _ => PT (cp n).1)
structure Cpi (f : Int → Option Value) (wr : World) (B b1 m : Nat) (Ps : List Rb) (left : Int → Prop) (cp : Int → Nat × List Nat) (N : Nat) : Prop where
  mp : MapK KI wr b1 m f
  ff : CpF Ps left cp f
  rq : ∀ q ∈ Ps, ¬ left q.R.run → Rq wr (cp q.R.run).1 (cp q.R.run).2 q.R q.S N ∧ ∀ d, d ∈ (cp q.R.run).2 → B ≤ d
  ap : ∀ q ∈ Ps, ∀ q' ∈ Ps, q.R.run ≠ q'.R.run → ¬ left q.R.run → ¬ left q'.R.run → ∀ d, d ∈ (cp q.R.run).2 → ¬ d ∈ (cp q'.R.run).2
section
variable {wr w' w2 : World} {B b1 m N : Nat} {Ps : List Rb} {left : Int → Prop} {cp : Int → Nat × List Nat} {F : List Nat} {f : Int → Option Value}
theorem Cpi.keep (h : Cpi f wr B b1 m Ps left cp N) (X : Touch F wr w') (h1 : ¬ b1 ∈ F) (hF : ∀ d, d ∈ F → d < B) : Cpi f w' B b1 m Ps left cp N :=
  ⟨h.mp.keep X h1, h.ff, fun q hq hl => ⟨(h.rq q hq hl).1.keep X (fun d hd e => by have := hF d e; have := (h.rq q hq hl).2 d hd; omega), (h.rq q hq hl).2⟩, h.ap⟩
theorem ptr_mem {n : Int} {v : Value} (h : ptr Ps n = some v) : ∃ q ∈ Ps, q.R.run = n ∧ v = PT q.b := by
  unfold ptr at h
  obtain ⟨q, hq, rfl⟩ := Option.map_eq_some_iff.1 h
  exact ⟨q, List.mem_of_find?_eq_some hq, by have := List.find?_some hq; simpa using this, rfl⟩
theorem ptr_of {q : Rb} (hq : q ∈ Ps) : (ptr Ps q.R.run).isSome = true := by
  unfold ptr
  rw [Option.isSome_map, List.find?_isSome]
  exact ⟨q, hq, by simp⟩
theorem Cpi.start (B : Nat) (h : MapK KI wr b1 0 (fun _ => none)) (hl : ∀ q ∈ Ps, left q.R.run) : Cpi (fun _ => none) wr B b1 0 Ps left cp N := by
  refine ⟨h, ⟨fun _ _ => rfl, fun k hk => ?_⟩, fun q hq hn => absurd (hl q hq) hn, fun q hq _ _ _ hn => absurd (hl q hq) hn⟩
  cases e : ptr Ps k with
  | none => rfl
  | some v =>
    obtain ⟨q, hq, rfl, _⟩ := ptr_mem e
    exact absurd (hl q hq) hk
theorem one_run {Ps : List Rb} (ho : Ps.Pairwise (fun p q => p.R.run ≠ q.R.run)) {q r : Rb} (hq : q ∈ Ps) (hr : r ∈ Ps) (e : r.R.run = q.R.run) : r = q := by
  induction Ps with
  | nil => cases hr
  | cons a l ih =>
    obtain ⟨o1, o2⟩ := List.pairwise_cons.1 ho
    rcases List.mem_cons.1 hr with e1 | e1
    · rcases List.mem_cons.1 hq with e2 | e2
      · rw [e1, e2]
      · subst e1; exact absurd e (o1 q e2)
    · rcases List.mem_cons.1 hq with e2 | e2
      · subst e2; exact absurd e.symm (o1 r e1)
      · exact ih o2 e2 e1
/-- One record more. -/
theorem Cpi.step (h : Cpi f wr B b1 m Ps left cp N) (ho : Ps.Pairwise (fun p q => p.R.run ≠ q.R.run)) {q : Rb} (hq : q ∈ Ps) (hl : left q.R.run) {b : Nat} {G : List Nat} (X : Touch [] wr w') (hr : Rq w' b G q.R q.S N) (hG : ∀ d, d ∈ G → wr.heap.size ≤ d) (hB : B ≤ wr.heap.size) (hb1 : b1 < B) {ob : Obj} {m' : Nat} (hm : MapK KI (setBlock w' b1 ob) b1 m' (kupd f q.R.run (PT b))) (X2 : Touch [b1] w' (setBlock w' b1 ob)) :
    Cpi (kupd f q.R.run (PT b)) (setBlock w' b1 ob) B b1 m' Ps (fun j => left j ∧ j ≠ q.R.run) (fun j => if j = q.R.run then (b, G) else cp j) N := by
  have hb : ∀ d, B ≤ d → ¬ d ∈ [b1] := fun d hd e => by simp only [List.mem_singleton] at e; omega
  refine ⟨hm, ⟨fun k hk => ?_, fun k hk => ?_⟩, fun r hr' hn => ?_, fun r hr' s hs hne hn1 hn2 d hd hd' => ?_⟩
  · unfold kupd
    rw [if_neg hk.2]
    exact h.ff.1 k hk.1
  · unfold kupd
    by_cases e : k = q.R.run
    · subst e
      obtain ⟨v, hv⟩ := Option.isSome_iff_exists.1 (ptr_of hq)
      rw [if_pos rfl, hv]
      simp
    · rw [if_neg e, h.ff.2 k (fun e' => hk ⟨e', e⟩)]
      simp [e]
  · by_cases e : r.R.run = q.R.run
    · obtain rfl := one_run ho hq hr' e
      simp only [if_true]
      exact ⟨hr.keep X2 (fun d hd => hb d (Nat.le_trans hB (hG d hd))), fun d hd => Nat.le_trans hB (hG d hd)⟩
    · simp only [e, if_false]
      have hn' : ¬ left r.R.run := fun e' => hn ⟨e', e⟩
      obtain ⟨k1, k2⟩ := h.rq r hr' hn'
      exact ⟨(k1.keep0 X).keep X2 (fun d hd => hb d (k2 d hd)), k2⟩
  · by_cases e : r.R.run = q.R.run
    · have e' : s.R.run ≠ q.R.run := fun e' => hne (e.trans e'.symm)
      simp only [e, if_true] at hd
      simp only [e', if_false] at hd'
      have hn' : ¬ left s.R.run := fun e2 => hn2 ⟨e2, e'⟩
      have := (h.rq s hs hn').1.lt d hd'
      have := hG d hd
      omega
    · simp only [e, if_false] at hd
      have hn' : ¬ left r.R.run := fun e2 => hn1 ⟨e2, e⟩
      by_cases e' : s.R.run = q.R.run
      · simp only [e', if_true] at hd'
        have := (h.rq r hr' hn').1.lt d hd
        have := hG d hd'
        omega
      · simp only [e', if_false] at hd'
        exact h.ap r hr' s hs hne hn' (fun e2 => hn2 ⟨e2, e'⟩) d hd hd'
end
/-- The copies, in the table's order. -/
def cpL (Ps : List Rb) (cp : Int → Nat × List Nat) : List Rb := Ps.map (fun q => ⟨q.R, q.S, (cp q.R.run).1, (cp q.R.run).2⟩)
theorem ptr_cpL (Ps : List Rb) (cp : Int → Nat × List Nat) (n : Int) : ptr (cpL Ps cp) n = (ptr Ps n).map (fun _ => PT (cp n).1) := by
  unfold ptr cpL
  rw [List.find?_map]
  simp only [Option.map_map]
  rw [show ((fun q : Rb => decide (q.R.run = n)) ∘ fun q : Rb => (⟨q.R, q.S, (cp q.R.run).1, (cp q.R.run).2⟩ : Rb)) = (fun q : Rb => decide (q.R.run = n)) from rfl]
  cases e : Ps.find? (fun q => decide (q.R.run = n)) with
  | none => rfl
  | some q =>
    have hq : q.R.run = n := by have := List.find?_some e; simpa using this
    simp [hq]
theorem Cpi.fin {w wr w' : World} {B b0 b1 t p c c' m N nc ng : Nat} {g g' : Option Nat} {Ps : List Rb} {T : Tb} {left : Int → Prop} {cp : Int → Nat × List Nat} {f : Int → Option Value} (ht : Tm w t p c g nc ng Ps T N) (h : Cpi f w' B b1 m Ps left cp N) (hl : ∀ k, ¬ left k)
    (bl : w'.heap[b0]? = some (.cells (tc T b1 c' g') 48 (0, 0))) (cm : MapK KC w' c' nc (curV T)) (gm : Gm w' g' ng T) (h01 : b0 < B) (h11 : b1 < B) (hne : b0 ≠ b1) (hc' : B ≤ c') (hg' : ∀ d, g' = some d → c' < d)
    (hcF : ∀ q ∈ Ps, ∀ d, d ∈ (cp q.R.run).2 → d < c') : Tm w' b0 b1 c' g' nc ng (cpL Ps cp) T N := by
  have hmp : MapK KI w' b1 m (ptr (cpL Ps cp)) := h.mp.congr (fun k _ => by rw [h.ff.2 k (hl k), ptr_cpL])
  have hm : m = (cpL Ps cp).length := by
    have e1 := hmp.same_size ht.pm (fun k _ => by rw [ptr_cpL, Option.isSome_map])
    rw [e1]
    simp [cpL]
  have hR := fun q hq => h.rq q hq (hl _)
  refine ⟨?_, bl, hm ▸ hmp, cm, gm, by omega, fun e => by have := hg' _ e; omega, fun e => by have := hg' _ e; omega, ht.lc, ht.lg, fun q hq => ?_, fun q hq d hd => ?_, ?_, ht.iv⟩
  · rw [ht.rs]
    simp [rsOf, cpL]
  · obtain ⟨r, hr, rfl⟩ := List.mem_map.1 hq
    exact (hR r hr).1
  · obtain ⟨r, hr, rfl⟩ := List.mem_map.1 hq
    have k1 := (hR r hr).2 d hd
    have k2 := hcF r hr d hd
    exact ⟨by omega, by omega, by omega, fun e => by have := hg' _ e; omega⟩
  · unfold cpL
    rw [List.pairwise_map]
    have ho := ht.iv.ord
    rw [ht.rs, rsOf, List.pairwise_map] at ho
    refine List.Pairwise.imp_of_mem (fun {a b} ha hb hab d hd => ?_) ho
    exact h.ap a ha b hb (by simp only at hab; omega) (hl _) (hl _) d hd
end Go.Proofs.YtpihhlllembdeaaGreat
/- The contract of Clone: a copy of a table in new memory. -/
namespace Go.Proofs.YtpihhlllembdeaaGreat
open Go.RowKit Go.Maps Go.ChangeMaps
set_option linter.unusedVariables false
set_option linter.unusedSimpArgs false
def CtE (e : Ending) (w w' : World) (T : Tb) (N : Nat) : Prop := ∃ b F', e = .returned (PT b) ∧ Tq w' b F' T N ∧ Touch [] w w' ∧ ∀ d, d ∈ F' → w.heap.size ≤ d
theorem sb_touch {w : World} {b : Nat} (o : Obj) : Touch [b] w (setBlock w b o) := by
  refine ⟨rfl, rfl, rfl, by simp [setBlock], fun k hk hn => ?_⟩
  simp only [List.mem_singleton] at hn
  simp only [setBlock, Array.getElem?_setIfInBounds]
  rw [if_neg (fun e => hn e.symm)]
theorem mkMP (w : World) (n : Int) : (Instr.makeMap 45 (some (.int .i64 n))).run Tryz.prog w = .ok (.map (some w.heap.size)) (w.alloc (.map #[] 0)) := by
  simp [Instr.makeMap, run_underlying Tryz.underlying45, asInt, asIntOf, Result.andThen]
section
variable {w : World} {t p c : Nat} {g : Option Nat} {nc ng : Nat} {Ps : List Rb} {T : Tb} {N : Nat}
set_option maxHeartbeats 4000000 in
set_option maxRecDepth 100000 in
theorem tClone (h : Tm w t p c g nc ng Ps T N) (hL : Lv T) (hN : N ≤ 1700000000000) : Calls Tryz.prog 20 #[PT t] w fun e w' => CtE e w w' T N := by
  have htl : t < w.heap.size := block_lt h.bl
  have hcl : c < w.heap.size := h.cm.lt
  have hpl : p < w.heap.size := h.pm.lt
  have hpn : Ps.length ≤ 4096 := by
    have := h.iv.len
    have := h.iv.fl
    rw [h.rs] at *
    simp [rsOf] at *
    omega
  obtain ⟨W1, hW1⟩ : ∃ W, W = w.alloc (.cells (tc T p c g) 48) := ⟨_, rfl⟩
  have T1 : Touch [] w W1 := by rw [hW1]; exact (Touch.refl _ _).alloc _
  have hs1 : W1.heap.size = w.heap.size + 1 := by rw [hW1]; simp
  have kb1 : W1.heap[w.heap.size]? = some (.cells (tc T p c g) 48 (0, 0)) := by rw [hW1]; exact heap_alloc_new w _
  have HLen := hid (fun ty => (h.keep0 T1).pm.len (t := 45) Tryz.underlying45 ty)
  obtain ⟨W2, hW2⟩ : ∃ W, W = W1.setCell ⟨w.heap.size, 2, none⟩ (.map (some (w.heap.size + 1))) := ⟨_, rfl⟩
  obtain ⟨kb2, T2⟩ : W2.heap[w.heap.size]? = some (.cells (tc T (w.heap.size + 1) c g) 48 (0, 0)) ∧ Touch [w.heap.size] W1 W2 := by rw [hW2]; exact set1 kb1 2 _
  have hs2 : W2.heap.size = w.heap.size + 1 := by rw [hW2]; simp [hs1]
  obtain ⟨W3, hW3⟩ : ∃ W, W = W2.alloc (.map #[] 0) := ⟨_, rfl⟩
  have T3 : Touch [] W2 W3 := by rw [hW3]; exact (Touch.refl _ _).alloc _
  have kb3 := T3.keep kb2 (by simp)
  have TW3 : Touch [] w W3 := (T1.trans T2 (fun b hb => Or.inr (by simp at hb; omega))).trans' T3
  have hs3 : W3.heap.size = w.heap.size + 2 := by rw [hW3]; simp [hs2]
  have km3 : MapK KI W3 (w.heap.size + 1) 0 (fun _ => none) := by rw [hW3, ← hs2]; exact mapK_made KI W2
  have c2' := (h.keep0 TW3).cs.c2
  obtain ⟨W4, hrun, hrg, T4, hs4⟩ := (h.keep0 TW3).pm.range (t := 45) (e := 97) Tryz.underlying45
  have HRg := hid hrg
  have HT4 := hid (TW3.trans' T4)
  have HB4 := hid (T4.keep kb3 (by simp))
  have ho : Ps.Pairwise (fun p q => p.R.run ≠ q.R.run) := by
    have := h.iv.ord
    rw [h.rs, rsOf, List.pairwise_map] at this
    exact this.imp (fun {a b} hab => by simp only at hab; omega)
  have HI0 : Hid (Cpi (fun _ => none) W4 (w.heap.size + 3) (w.heap.size + 1) 0 Ps (fun k => KI.ok k ∧ (ptr Ps k).isSome = true) (fun _ => (0, [])) N) := hid (Cpi.start _ (km3.keep T4 (by simp)) (fun q hq => by
    refine ⟨?_, ptr_of hq⟩
    have h1 := h.iv.rng (q.R, q.S) (by rw [h.rs]; exact List.mem_map.2 ⟨q, hq, rfl⟩)
    have h2 := h.iv.bg.2
    simp only at h1
    exact W64.mk (by omega) (by omega)))
  have HL : Hid (∀ w', Touch [] w w' → ∀ n v, ptr Ps n = some v → ∃ q, q ∈ Ps ∧ q.R.run = n ∧ v = PT q.b ∧ ∀ w1, Touch [] w' w1 → Calls Tryz.prog 54 #[PT q.b] w1 fun e w2 => ∃ b G, e = .returned (PT b) ∧ Rq w2 b G q.R q.S N ∧ Touch [] w1 w2 ∧ ∀ d, d ∈ G → w1.heap.size ≤ d) := hid (fun w' X n v hv => by
    obtain ⟨q, hq, rfl, rfl⟩ := ptr_mem hv
    exact ⟨q, hq, rfl, rfl, fun w1 Y => clone20 w1 q.b N q.F q.R q.S (((h.recs q hq).keep0 X).keep0 Y) (by omega)⟩)
  have HS : Hid (∀ (wr w' : World) (m b : Nat) (G : List Nat) (q : Rb) (left : Int → Prop) (cp : Int → Nat × List Nat) (f : Int → Option Value), Cpi f wr (w.heap.size + 3) (w.heap.size + 1) m Ps left cp N → q ∈ Ps → left q.R.run → Touch [] wr w' → Rq w' b G q.R q.S N → (∀ d, d ∈ G → wr.heap.size ≤ d) → w.heap.size + 3 ≤ wr.heap.size → m ≤ 4096 →
      ∃ o, (Instr.mapUpdate 45 (.map (some (w.heap.size + 1))) (.int .i64 q.R.run) (PT b)).run Tryz.prog w' = .ok () (setBlock w' (w.heap.size + 1) o) ∧ Cpi (kupd f q.R.run (PT b)) (setBlock w' (w.heap.size + 1) o) (w.heap.size + 3) (w.heap.size + 1) (m + 1) Ps (fun j => left j ∧ j ≠ q.R.run) (fun j => if j = q.R.run then (b, G) else cp j) N) := hid (fun wr w' m b G q left cp f hI hq hl X hr hG hz hm => by
    have hw : W64 q.R.run := by
      have h1 := h.iv.rng (q.R, q.S) (by rw [h.rs]; exact List.mem_map.2 ⟨q, hq, rfl⟩)
      have h2 := h.iv.bg.2
      simp only at h1
      exact W64.mk (by omega) (by omega)
    obtain ⟨o, e1, e2⟩ := (hI.mp.keep X (by simp)).set (t := 45) (e := 97) Tryz.underlying45 (by unfold maxLen; omega) (k := q.R.run) hw (PT b)
    have e0 : f q.R.run = none := hI.ff.1 _ hl
    rw [e0] at e2
    exact ⟨o, e1, hI.step ho hq hl X hr hG hz (by omega) e2 (sb_touch o)⟩)
  have HC : Hid (∀ w', Touch [] w w' → Calls Tryz.prog 55 #[.map (some c)] w' fun e w2 => e = .returned (.map (some w'.heap.size)) ∧ (MapK KC w2 w'.heap.size nc (curV T) ∧ w'.heap.size < w2.heap.size) ∧ Touch [] w' w2) := hid (fun w' X => (cloneM_some w' c nc _ ((h.keep0 X).cm)).mono (fun e w2 q => ⟨q.1, ⟨q.2.1, q.2.1.lt⟩, q.2.2⟩))
  have HGn : Hid (∀ w', Touch [] w w' → Calls Tryz.prog 55 #[.map g] w' fun e w2 => ∃ g', e = .returned (.map g') ∧ (Gm w2 g' ng T ∧ ∀ d, g' = some d → w'.heap.size ≤ d) ∧ Touch [] w' w2) := hid (fun w' X => (cloneM_gen w' g ng T ((h.keep0 X).gm)).mono (fun e w2 q => by obtain ⟨g', e1, e2, e3, e4⟩ := q; exact ⟨g', e1, ⟨e2, e3⟩, e4⟩))
  have HU : Hid (∀ w', Touch [] w w' → w'.cell? ⟨t, 3, none⟩ = some (.map (some c)) ∧ w'.cell? ⟨t, 4, none⟩ = some (.map g)) := hid (fun w' X => ⟨(h.keep0 X).cs.c3, (h.keep0 X).cs.c4⟩)
  have HE : Hid (∀ (wr wA wB w' : World) (m : Nat) (left : Int → Prop) (cp : Int → Nat × List Nat) (c' : Nat) (g' : Option Nat) (f : Int → Option Value), Cpi f wr (w.heap.size + 3) (w.heap.size + 1) m Ps left cp N → (∀ k, ¬ left k) → w.heap.size + 3 ≤ wr.heap.size → wr.heap[w.heap.size]? = some (.cells (tc T (w.heap.size + 1) c g) 48 (0, 0)) → Touch [] w wr → Touch [] wr wA → MapK KC wA c' nc (curV T) → wr.heap.size ≤ c' → c' < wA.heap.size → Touch [] wA wB → Gm wB g' ng T → (∀ d, g' = some d → wA.heap.size ≤ d) → w' = (wB.setCell ⟨w.heap.size, 3, none⟩ (.map (some c'))).setCell ⟨w.heap.size, 4, none⟩ (.map g') → CtE (.returned (PT w.heap.size)) w w' T N) := hid (fun wr wA wB w' m left cp c' g' f hI hl hz hb X XA hc hc1 hc2 XB hg hg1 e => by
    have kB := (XA.trans' XB).keep hb (by simp)
    obtain ⟨k1, x1⟩ := set1 kB 3 (.map (some c'))
    obtain ⟨k2, x2⟩ := set1 k1 4 (.map g')
    rw [← e] at k2 x2
    have x3 : Touch [w.heap.size] wB w' := x1.trans' x2
    have hF : ∀ d, w.heap.size + 1 ≤ d → ¬ d ∈ [w.heap.size] := fun d hd e' => by simp only [List.mem_singleton] at e'; omega
    have zA := XA.size
    have zB := XB.size
    have ht := Cpi.fin (w := w) (wr := wr) (c' := c') (g' := g') h ((hI.keep (XA.trans' XB) (by simp) (fun _ e => by cases e)).keep x3 (hF _ (by omega)) (fun d hd => by simp only [List.mem_singleton] at hd; omega)) hl k2 ((hc.keep XB (by simp)).keep x3 (hF _ (by omega))) (hg.keep x3 (fun d hd => hF _ (by have := hg1 d hd; omega))) (by omega) (by omega) (by omega) (by omega) (fun d hd => by have := hg1 d hd; omega) (fun q hq d hd => by have := (hI.rq q hq (hl _)).1.lt d hd; omega)
    refine ⟨w.heap.size, _, rfl, ⟨_, _, _, _, _, _, rfl, ht, hL⟩, (X.trans' (XA.trans' XB)).trans x3 (fun b hb => Or.inr (by simp at hb; omega)), fun d hd => ?_⟩
    rcases mem_fpT.1 hd with e1 | e1 | e1 | e1 | ⟨q, hq, e1⟩
    · omega
    · omega
    · omega
    · have := hg1 d e1; omega
    · obtain ⟨r, hr, rfl⟩ := List.mem_map.1 hq
      have := (hI.rq r hr (hl _)).2 d e1
      omega)
  obtain ⟨c0, c1, c2, c3, c4⟩ := h.cs
  have c2w : W1.cell? ⟨t, 2, none⟩ = some (.map (some p)) := (h.keep0 T1).cs.c2
  have bf1 := froz_at kb1
  have bc2 := cell_at (j := 2) kb1 rfl
  have hl1 := HLen.out
  have hmk := mkMP W1
  have HW2 := hid hW2
  have HW3 := hid hW3
  clear hW2 hW3 h HLen hL T1 T2 T3 T4 TW3 hrg km3 kb1 kb2 kb3 ho
  unfold PT tc at *
  generalize hQ : CtE = Q at *
  clear hQ
  go_enter Tryz.func20, Tryz.ntmps20
  go_upto_region 4 with fail
  rw [← hW1]
  clear hW1 c0 c1 c2 c3 c4
  go_upto_region 5 with fail
  rw [← HW2.out, ← HW3.out]
  clear HW2 HW3 bf1 bc2 hl1 hmk c2w hs1 hs2
  rw [hs3] at hrun HRg hs4
  go_wp2_with fail
  clear hrun c2' hs3
  go_loopw [4] (fun v wr => ∃ (m cnt : Nat) (left : Int → Prop) (cp : Int → Nat × List Nat) (f : Int → Option Value), Hid (Cpi f wr (w.heap.size + 3) (w.heap.size + 1) m Ps left cp N) ∧ Hid (RgK KI wr p (w.heap.size + 2) Ps.length (ptr Ps) left cnt) ∧ Hid (wr.heap[w.heap.size]? = some (.cells #[.int .i64 T.fl, .int .i64 T.bg, .map (some (w.heap.size + 1)), .map (some c), .map g] 48 (0, 0))) ∧ m + cnt ≤ Ps.length ∧ w.heap.size + 3 ≤ wr.heap.size ∧ Hid (Touch [] w wr)) (fun _ wr => wr.rangeLeft p (w.heap.size + 2))
  case atStart => exact ⟨0, Ps.length, _, _, _, HI0, HRg, HB4, by omega, by omega, HT4⟩
  case round =>
    obtain ⟨m, cnt, left, cp, f, HI, HR, HB, hmc, hz, HT⟩ := hrel
    rcases HR.out.next 0 with ⟨hc0, hl0, hnx⟩ | ⟨n, v, w1, cnt1, hok, hlk, hfk, hnx, hrg1, hlt, t1, hs1, hen⟩
    · clear HS HL HRg HI0 HT4 HB4
      go_upto_region 9 with fail
      have U3 : ∀ w', Touch [w.heap.size] wr w' → w'.cell? ⟨t, 3, none⟩ = some (.map (some c)) := fun w' X => (HU.out w' (HT.out.trans X (fun b hb => Or.inr (by simp at hb; omega)))).1
      have U4 : ∀ w', Touch [w.heap.size] wr w' → w'.cell? ⟨t, 4, none⟩ = some (.map g) := fun w' X => (HU.out w' (HT.out.trans X (fun b hb => Or.inr (by simp at hb; omega)))).2
      have k0 : Touch [] wr wr.drew := (Touch.refl _ _).drew
      have kS0 : Touch [w.heap.size] wr wr.drew := k0.mono (by simp)
      refine wp_region_H (S := fun w' => Touch [w.heap.size] wr w') (by kernel_rfl) ?_
      generalize wr.drew = WD at *
      refine wpH_take (i := 0) (v := (.pointer (some ⟨t, 0, none⟩))) (some 33) rfl rfl (by kernel_rfl) (by kernel_rfl) (by kernel_rfl) (fun _ _ _ h => h) (Or.inl ⟨by rfl, fun w' hS => (by go_simp)⟩) kS0 ?_
      try simp only [Go.Act.put, List.setIfInBounds_toArray, List.set_cons_zero, List.set_cons_succ]
      refine wpH_take (i := 1) (v := (.pointer (some ⟨t, 0, none⟩))) (some 34) rfl rfl (by kernel_rfl) (by kernel_rfl) (by kernel_rfl) (fun _ _ _ h => h) (Or.inl ⟨by rfl, fun w' hS => (by go_simp)⟩) kS0 ?_
      try simp only [Go.Act.put, List.setIfInBounds_toArray, List.set_cons_zero, List.set_cons_succ]
      refine wpH_take (i := 2) (v := (.pointer (some ⟨t, 3, none⟩))) (some 35) rfl rfl (by kernel_rfl) (by kernel_rfl) (by kernel_rfl) (fun _ _ _ h => h) (Or.inl ⟨by rfl, fun w' hS => (by go_simp)⟩) kS0 ?_
      try simp only [Go.Act.put, List.setIfInBounds_toArray, List.set_cons_zero, List.set_cons_succ]
      refine wpH_take (i := 3) (v := (.map (some c))) (some 36) rfl rfl (by kernel_rfl) (by kernel_rfl) (by kernel_rfl) (fun _ _ _ h => h) (Or.inl ⟨by rfl, fun w' hS => (by have z0 := U3 _ hS; go_simp)⟩) kS0 ?_
      try simp only [Go.Act.put, List.setIfInBounds_toArray, List.set_cons_zero, List.set_cons_succ]
      refine wpH_take (i := 5) (v := (.pointer (some ⟨t, 0, none⟩))) (some 38) rfl rfl (by kernel_rfl) (by kernel_rfl) (by kernel_rfl) (fun _ _ _ h => h) (Or.inl ⟨by rfl, fun w' hS => (by go_simp)⟩) kS0 ?_
      try simp only [Go.Act.put, List.setIfInBounds_toArray, List.set_cons_zero, List.set_cons_succ]
      refine wpH_take (i := 6) (v := (.pointer (some ⟨t, 0, none⟩))) (some 39) rfl rfl (by kernel_rfl) (by kernel_rfl) (by kernel_rfl) (fun _ _ _ h => h) (Or.inl ⟨by rfl, fun w' hS => (by go_simp)⟩) kS0 ?_
      try simp only [Go.Act.put, List.setIfInBounds_toArray, List.set_cons_zero, List.set_cons_succ]
      refine wpH_take (i := 7) (v := (.pointer (some ⟨t, 4, none⟩))) (some 40) rfl rfl (by kernel_rfl) (by kernel_rfl) (by kernel_rfl) (fun _ _ _ h => h) (Or.inl ⟨by rfl, fun w' hS => (by go_simp)⟩) kS0 ?_
      try simp only [Go.Act.put, List.setIfInBounds_toArray, List.set_cons_zero, List.set_cons_succ]
      refine wpH_take (i := 8) (v := (.map g)) (some 41) rfl rfl (by kernel_rfl) (by kernel_rfl) (by kernel_rfl) (fun _ _ _ h => h) (Or.inl ⟨by rfl, fun w' hS => (by have z0 := U4 _ hS; go_simp)⟩) kS0 ?_
      try simp only [Go.Act.put, List.setIfInBounds_toArray, List.set_cons_zero, List.set_cons_succ]
      refine wpH_call (i := 4) (o := { dst := some 37, op := Op.call { callee := Callee.value (Operand.func 55), args := #[Operand.tmp 36], argTypes := #[46] }, type := 46, pos := _, after := #[{ on := 3, ground := Ground.data }], guard := none }) (by kernel_rfl) rfl (fun K' hK => ?_)
      rw [if_pos (by rfl)]
      go_simp
      refine (HC.out _ (HT.out.trans' k0)).mono ?_
      rintro e' wA ⟨rfl, ⟨mA, zA⟩, tA⟩
      have kA : Touch [] wr wA := k0.trans' tA
      have kSA : Touch [w.heap.size] wr wA := kA.mono (by simp)
      refine hK.out _ _ kSA ?_
      clear hK
      try simp only [Go.Act.put, List.setIfInBounds_toArray, List.set_cons_zero, List.set_cons_succ]
      refine wpH_call (i := 9) (o := { dst := some 42, op := Op.call { callee := Callee.value (Operand.func 55), args := #[Operand.tmp 41], argTypes := #[46] }, type := 46, pos := _, after := #[{ on := 8, ground := Ground.data }, { on := 4, ground := Ground.chain }], guard := none }) (by kernel_rfl) rfl (fun K' hK => ?_)
      rw [if_pos (by rfl)]
      go_simp
      refine (HGn.out _ (HT.out.trans' kA)).mono ?_
      rintro e' wB ⟨g', rfl, ⟨mB, zB⟩, tB⟩
      have kB : Touch [] wr wB := kA.trans' tB
      have kSB : Touch [w.heap.size] wr wB := kB.mono (by simp)
      refine hK.out _ _ kSB ?_
      clear hK
      try simp only [Go.Act.put, List.setIfInBounds_toArray, List.set_cons_zero, List.set_cons_succ]
      refine wpH_take (i := 10) (v := (.pointer (some ⟨w.heap.size, 3, none⟩))) (some 43) rfl rfl (by kernel_rfl) (by kernel_rfl) (by kernel_rfl) (fun _ _ _ h => h) (Or.inl ⟨by rfl, fun w' hS => (by go_simp)⟩) kSB ?_
      try simp only [Go.Act.put, List.setIfInBounds_toArray, List.set_cons_zero, List.set_cons_succ]
      refine wpH_call (i := 11) (o := { dst := none, op := Op.store 46 (Operand.tmp 43) (Operand.tmp 37), type := 0, pos := _, after := #[{ on := 10, ground := Ground.data }, { on := 4, ground := Ground.data }, { on := 9, ground := Ground.chain }, { on := 0, ground := Ground.phase }, { on := 1, ground := Ground.phase }, { on := 2, ground := Ground.phase }, { on := 3, ground := Ground.phase }, { on := 4, ground := Ground.phase }, { on := 5, ground := Ground.textOnly Departure.lateStores }, { on := 6, ground := Ground.textOnly Departure.lateStoresUnsure }, { on := 7, ground := Ground.textOnly Departure.lateStoresUnsure }, { on := 8, ground := Ground.phase }, { on := 9, ground := Ground.phase }], guard := none }) (by kernel_rfl) rfl (fun K' hK => ?_)
      rw [if_pos (by rfl)]
      have kb := kB.keep HB.out (by simp)
      have y3 := cell_at (j := 3) kb rfl
      have yf := froz_at kb
      go_simp
      obtain ⟨k1, x1⟩ := set1 kb 3 (.map (some WD.heap.size))
      have s1 := kSB.trans' x1
      refine hK.out _ _ s1 ?_
      clear hK
      try simp only [Go.Act.put, List.setIfInBounds_toArray, List.set_cons_zero, List.set_cons_succ]
      refine wpH_take (i := 12) (v := (.pointer (some ⟨w.heap.size, 4, none⟩))) (some 44) rfl rfl (by kernel_rfl) (by kernel_rfl) (by kernel_rfl) (fun _ _ _ h => h) (Or.inl ⟨by rfl, fun w' hS => (by go_simp)⟩) s1 ?_
      try simp only [Go.Act.put, List.setIfInBounds_toArray, List.set_cons_zero, List.set_cons_succ]
      refine wpH_call (i := 13) (o := { dst := none, op := Op.store 46 (Operand.tmp 44) (Operand.tmp 42), type := 0, pos := _, after := #[{ on := 12, ground := Ground.data }, { on := 9, ground := Ground.data }, { on := 11, ground := Ground.chain }, { on := 0, ground := Ground.phase }, { on := 1, ground := Ground.phase }, { on := 2, ground := Ground.phase }, { on := 3, ground := Ground.phase }, { on := 4, ground := Ground.phase }, { on := 5, ground := Ground.phase }, { on := 6, ground := Ground.phase }, { on := 7, ground := Ground.phase }, { on := 8, ground := Ground.phase }, { on := 9, ground := Ground.phase }, { on := 10, ground := Ground.phase }, { on := 11, ground := Ground.phase }], guard := none }) (by kernel_rfl) rfl (fun K' hK => ?_)
      rw [if_pos (by rfl)]
      have y4 := cell_at (j := 4) k1 rfl
      have yf1 := froz_at k1
      go_simp
      obtain ⟨k2, x2⟩ := set1 k1 4 (.map g')
      have s2 := s1.trans' x2
      refine hK.out _ _ s2 ?_
      clear hK
      try simp only [Go.Act.put, List.setIfInBounds_toArray, List.set_cons_zero, List.set_cons_succ]
      refine wpAnyH_done (by kernel_rfl) ?_ _
      clear y3 y4 yf yf1 U3 U4
      go_wp2
      exact HE.out wr wA wB _ m left cp _ g' f HI.out hl0 hz HB.out HT.out kA mA k0.size zA tB mB zB rfl
    · have tw1 : Touch [] w w1 := HT.out.trans t1 (fun b hb => Or.inr (by simp at hb; omega))
      obtain ⟨q, hq, rfl, rfl, hcall⟩ := HL.out w1 tw1 n v hfk
      have HW1 := hid tw1
      have HR1 := hid hrg1
      have HQ := hid hq
      have HLK := hid hlk
      have HCl := hid hcall
      have HI1 := hid (HI.out.keep t1 (by simp) (fun d hd => by simp at hd; omega))
      have HB1 := hid (t1.keep HB.out (by simp))
      clear hcall tw1 t1 hrg1 hfk hq hlk HL HC HGn HU HE HI0 HRg HI HB HB4 HT4
      unfold PT at HCl
      rw [show KI.kv q.R.run = Value.int .i64 q.R.run from rfl] at hnx hen
      go_upto_region 8 with fail
      have U2 : ∀ w', Touch [w.heap.size + 1] w1 w' → w'.cell? ⟨w.heap.size, 2, none⟩ = some (.map (some (w.heap.size + 1))) := fun w' X => cell_at (X.keep HB1.out (by simp)) rfl
      have k0 : Touch [] w1 w1.drew := (Touch.refl _ _).drew
      have kS0 : Touch [w.heap.size + 1] w1 w1.drew := k0.mono (by simp)
      refine wp_region_H (S := fun w' => Touch [w.heap.size + 1] w1 w') (by kernel_rfl) ?_
      generalize w1.drew = WD at *
      refine wpH_take (i := 0) (v := (.pointer (some ⟨w.heap.size, 2, none⟩))) (some 28) rfl rfl (by kernel_rfl) (by kernel_rfl) (by kernel_rfl) (fun _ _ _ h => h) (Or.inl ⟨by rfl, fun w' hS => (by go_simp)⟩) kS0 ?_
      try simp only [Go.Act.put, List.setIfInBounds_toArray, List.set_cons_zero, List.set_cons_succ]
      refine wpH_take (i := 1) (v := (.map (some (w.heap.size + 1)))) (some 29) rfl rfl (by kernel_rfl) (by kernel_rfl) (by kernel_rfl) (fun _ _ _ h => h) (Or.inl ⟨by rfl, fun w' hS => (by have z0 := U2 _ hS; go_simp)⟩) kS0 ?_
      try simp only [Go.Act.put, List.setIfInBounds_toArray, List.set_cons_zero, List.set_cons_succ]
      refine wpH_take (i := 2) (v := (.int .i64 q.R.run)) (some 30) rfl rfl (by kernel_rfl) (by kernel_rfl) (by kernel_rfl) (fun _ _ _ h => h) (Or.inl ⟨by rfl, fun w' hS => (by go_simp)⟩) kS0 ?_
      try simp only [Go.Act.put, List.setIfInBounds_toArray, List.set_cons_zero, List.set_cons_succ]
      refine wpH_take (i := 3) (v := (.pointer (some ⟨q.b, 0, none⟩))) (some 31) rfl rfl (by kernel_rfl) (by kernel_rfl) (by kernel_rfl) (fun _ _ _ h => h) (Or.inl ⟨by rfl, fun w' hS => (by go_simp)⟩) kS0 ?_
      try simp only [Go.Act.put, List.setIfInBounds_toArray, List.set_cons_zero, List.set_cons_succ]
      refine wpH_call (i := 4) (o := { dst := some 32, op := Op.call { callee := Callee.value (Operand.func 54), args := #[Operand.tmp 31], argTypes := #[97] }, type := 97, pos := _, after := #[{ on := 3, ground := Ground.data }], guard := none }) (by kernel_rfl) rfl (fun K' hK => ?_)
      rw [if_pos (by rfl)]
      go_simp
      refine (HCl.out _ k0).mono ?_
      rintro e' w2 ⟨b, G, rfl, hrq, t2, hG⟩
      have kO : Touch [] w1 w2 := k0.trans' t2
      have kS : Touch [w.heap.size + 1] w1 w2 := kO.mono (by simp)
      refine hK.out _ _ kS ?_
      clear hK
      try simp only [Go.Act.put, List.setIfInBounds_toArray, List.set_cons_zero, List.set_cons_succ]
      refine wpH_call (i := 5) (o := { dst := none, op := Op.mapUpdate 45 (Operand.tmp 29) (Operand.tmp 30) (Operand.tmp 32), type := 0, pos := _, after := #[{ on := 1, ground := Ground.data }, { on := 2, ground := Ground.data }, { on := 4, ground := Ground.data }, { on := 4, ground := Ground.chain }, { on := 0, ground := Ground.phase }, { on := 1, ground := Ground.phase }, { on := 2, ground := Ground.phase }, { on := 3, ground := Ground.phase }, { on := 4, ground := Ground.phase }], guard := none }) (by kernel_rfl) rfl (fun K' hK => ?_)
      rw [if_pos (by rfl)]
      obtain ⟨ob, hup, hcp⟩ := HS.out w1 w2 m b G q left cp f HI1.out HQ.out HLK.out kO hrq (fun d hd => Nat.le_trans k0.size (hG d hd)) (by omega) (by omega)
      go_simp
      have kT : Touch [w.heap.size + 1] w1 (setBlock w2 (w.heap.size + 1) ob) := kS.trans' (sb_touch ob)
      refine hK.out _ _ kT ?_
      clear hK
      try simp only [Go.Act.put, List.setIfInBounds_toArray, List.set_cons_zero, List.set_cons_succ]
      refine wpAnyH_done (by kernel_rfl) ?_ _
      clear U2 hup
      go_wp2
      go_roundw
      case rel => exact ⟨m + 1, cnt1, _, _, _, hid hcp, hid (HR1.out.keep kT (by simp; omega) (by simp)), hid (kT.keep HB1.out (by simp)), by omega, by have := kT.size; omega, hid (HW1.out.trans kT (fun b hb => Or.inr (by simp at hb; omega)))⟩
      case measure =>
        rw [(HR1.out.keep kT (by simp; omega) (by simp)).count, HR.out.count]
        exact hlt
theorem cloneT (w : World) (t : Nat) (F : List Nat) (T : Tb) (N : Nat) (h : Tq w t F T N) (hN : N ≤ 1700000000000) : Calls Tryz.prog 20 #[PT t] w fun e w' => CtE e w w' T N := by
  obtain ⟨p, c, g, nc, ng, Ps, rfl, h, hL⟩ := h
  exact tClone h hL hN
end
end Go.Proofs.YtpihhlllembdeaaGreat
