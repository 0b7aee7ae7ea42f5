/- The law of telling once, walked; no conditions but the script's length. -/
import Derived.Test.YtkfophlhpjbmgaaGreatQo14
import Derived.Test.YtkfophlhpjbmgaaGreatQo11
set_option linter.unusedVariables false
set_option linter.unusedSimpArgs false
set_option maxRecDepth 100000
namespace Go.Proofs.YtkfophlhpjbmgaaGreat
open Go.RowKit Go.Maps Go.ChangeMaps
def atT (now : Int) (a : ActG) : Int := if a.od = 0 then now + a.st.tmod 64 else a.od
set_option maxHeartbeats 1000000 in
theorem at_ (w : World) (now : Int) (a : ActG) (h0 : 0 ≤ now) (h1 : now ≤ 4611686018427387904) : Calls Tryz.prog 35 #[.int .i64 now, .agg a.cs] w fun e w' => e = .returned (.int .i64 (atT now a)) ∧ Touch [] w w' := by
 have hb := heap_alloc_new w (.cells a.cs 44)
 have c4 : (w.alloc (.cells a.cs 44)).cell? ⟨w.heap.size, 4, none⟩ = some (.int .i64 a.st) := cell_at hb rfl
 have c5 : (w.alloc (.cells a.cs 44)).cell? ⟨w.heap.size, 5, none⟩ = some (.int .i64 a.od) := cell_at hb rfl
 obtain ⟨V, hV⟩ : ∃ V, V = w.alloc (.cells a.cs 44) := ⟨_, rfl⟩
 have tv : Touch [] w V := by rw [hV]; exact (Touch.refl _ _).alloc _
 rw [← hV] at c4 c5
 have TV := hid tv
 clear hb tv
 unfold ActG.cs at hV
 unfold ActG.cs
 have h2 := Int.tmod_lt_of_pos a.st (show (0 : Int) < 64 by decide)
 have h3 := Int.lt_tmod_of_pos a.st (show (0 : Int) < 64 by decide)
 obtain ⟨r, hr⟩ : ∃ r, r = atT now a := ⟨_, rfl⟩
 rw [← hr]
 go_enter Tryz.func35, Tryz.ntmps35
 go_upto_region 1 with fail
 rw [← hV]
 clear hV
 by_cases hz : a.od = 0
 ·have e : r = now + a.st.tmod 64 := by rw [hr]; unfold atT; rw [if_pos hz]
  clear hr
  subst e
  rw [hz] at c5
  go_wp2
  go_ret
  exact ⟨rfl, TV.out⟩
 ·have e : r = a.od := by rw [hr]; unfold atT; rw [if_neg hz]
  clear hr
  subst e
  go_wp2
  go_ret
  exact ⟨rfl, TV.out⟩
theorem MapK.at_ {w : World} {b n : Nat} {f : Int → Option Value} (h : MapK KI w b n f) : MapAt w b n f := by
 obtain ⟨D, h1, h2, h3⟩ := h
 exact ⟨D, h1, h2, fun k hk => h3.at_ k hk⟩
def OnX (w wr : World) (g : Nat) (P : Pt) (mb i : Nat) (now : Int) : Prop := ∃ X N m, On w wr g P mb [] X N i m (wlv X.L) ∧ now = X.now
def OnY (w wr : World) (g : Nat) (P : Pt) (mb i : Nat) : Prop := ∃ X N m, On w wr g P mb [] X N i m (wlv X.L)
section
variable {w wr w2 : World} {g mb i m : Nat} {P : Pt} {Q : List Nat} {X Y : Gp} {N M : Cn} {f : Int → Option Value}
theorem On.start {V w1 w2 : World} {c : CfG} (tv : Touch [] w V) (hc : Me.okC (cfO c) = true) (hn : NwE V w1 [] g (cfO c) 0 []) (T : Touch [] w1 w2) : ∃ P, On w (w2.alloc (.map #[] 0)) g P w2.heap.size [] (G0 (cfO c) 0 []) C0 0 0 (wlv []) := by
 obtain ⟨P, F, q, t, fr⟩ := hn
 have t2 : Touch [] V w2 := t.trans' T
 have T3 : Touch [] w2 (w2.alloc (.map #[] 0)) := (Touch.refl _ _).alloc _
 have fr2 : ∀ k, k ∈ F → V.heap.size ≤ k := fun k hk => (fr k hk).elim (fun e => by cases e) id
 have q2 := q.keep0 T
 have hs := tv.size
 refine ⟨P, ⟨F, q2.keep0 T3, (tv.trans' t2).trans' T3, fun k hk => by have := fr2 k hk; omega, fun k hk => ?_⟩, Gi.zero _ _ _, ⟨Int.le_refl _, Int.le_refl _, by show (0 : Int) ≤ 4611686018427387904; decide⟩, mapK_made KI w2, (tv.trans' t2).size, Nat.le_refl _, Nat.le_refl _, Nat.le_refl _, Nat.le_refl _⟩
 simp only [List.mem_cons, List.not_mem_nil, or_false] at hk
 subst hk
 exact ⟨by rw [World.size_alloc]; omega, fun e => by have := q2.lt _ e; omega⟩
theorem On.tch (h : On w wr g P mb Q X N i m f) : Touch [] w wr := h.sp.tch
theorem cells_ne {W : World} {k : Nat} {cs : Array Value} {t : TypeId} {z : Nat × Nat} (hb : W.heap[k]? = some (.cells cs t z)) (hm : MapK KI W mb m f) : k ≠ mb := fun e => by
 subst e
 obtain ⟨es, cl, h2⟩ := hm.kind
 rw [hb] at h2
 cases h2
theorem ys_len {L ys : List Lv.Se} (hn : (ys.map Prod.fst).Nodup) (hs : ∀ y ∈ ys, y ∈ L) : ys.length ≤ L.length := by
 have h := hn.length_le_of_subset (l₂ := L.map Prod.fst) (fun z hz => by
  obtain ⟨y, hy, rfl⟩ := List.mem_map.1 hz
  exact List.mem_map.2 ⟨y, hs y hy, rfl⟩)
 simpa using h
theorem cn_ys (hn : (X.L.map Prod.fst).Nodup) (n t : Int) : ∃ ys, cnV X n t = lefVs X.T ys ∧ (∀ y ∈ ys, y ∈ X.L) ∧ (ys.map Prod.fst).Nodup ∧ (cnX X n t).L = Lv.outs X.L ys := by
 by_cases hE : cnE X n t = 0
 ·have ht := cn0 hE
  have e1 : Lv.canA X.L t = Lv.inL 2 t X.L := by unfold Lv.canA; rw [if_neg ht]
  refine ⟨Lv.inL 2 t X.L, by unfold cnV; rw [if_neg (by simpa using hE), e1], fun y hy => (List.mem_filter.1 hy).1, hn.sublist (List.filter_sublist.map _), ?_⟩
  rw [cn_l, if_pos hE]
  unfold Lv.canL
  rw [if_neg ht, Lv.outs_in hn]
 ·exact ⟨[], (by unfold cnV; rw [if_pos hE]; rfl), (fun y hy => by cases hy), (by simp), (by rw [cn_l, if_neg hE]; rfl)⟩
theorem ed_ys (h : Gi X) {M : Nat} (hT : Ta.Ti X.T M) (hn : (X.L.map Prod.fst).Nodup) (n r : Int) (o : O) : ∃ ys : List Lv.Se, (edD X n r o).told = ys.map Prod.fst ∧ (∀ y ∈ ys, y ∈ X.L ∧ y.2.1 = r) ∧ (ys.map Prod.fst).Nodup ∧ (edX X n r o).L = Lv.outs X.L ys := by
 by_cases hE : edE X n r o = 0
 ·have hte : Ta.tEndE X.T r o = 0 := by
   unfold edE at hE
   split at hE
   ·contradiction
   ·exact hE
  have hrun : ∃ p, Ta.runOf X.T r = some p ∧ Ta.endE p.2 o = 0 := by
   unfold Ta.tEndE at hte
   cases hr : Ta.runOf X.T r with
   | none => rw [hr] at hte; cases hte
   | some p => rw [hr] at hte; exact ⟨p, rfl, hte⟩
  obtain ⟨p, hr, he⟩ := hrun
  obtain ⟨hp, hpr⟩ := Ta.runOf_mem hr
  have htl : Ta.tEndL X.T r o = (Lv.inL 1 r X.L).map Prod.fst := by
   unfold Ta.tEndL
   rw [hr]
   show Ta.endL p.2 o = _
   unfold Ta.endL
   rw [if_pos he, h.ws p hp, hpr]
   rfl
  refine ⟨Lv.inL 1 r X.L, ?_, fun y hy => ?_, hn.sublist (List.filter_sublist.map _), ?_⟩
  ·rw [← htl]
   unfold edD
   rw [if_neg (by simpa using hE)]
   split <;> rfl
  ·obtain ⟨h1, h2⟩ := List.mem_filter.1 hy
   exact ⟨h1, by simpa [Lv.bn] using h2⟩
  ·rw [ed_l, if_pos hE, Lv.outs_in hn]
 ·refine ⟨[], ?_, (fun y hy => by cases hy), (by simp), (by rw [ed_l, if_neg hE]; rfl)⟩
  unfold edD
  rw [if_pos hE]
  rfl
theorem On.more {r : Nat} (h : On w wr g P mb [] X N i m f) (T : Touch [] wr w2) (hr : r = wr.heap.size) (hs : r < w2.heap.size) : On w w2 g P mb [r] X N i m f := by
 have h2 := h.keep0 T
 obtain ⟨F, q, t, fr, hq⟩ := h.sp
 refine { h2 with sp := ⟨F, q.keep0 T, t.trans' T, fr, fun k hk => ?_⟩ }
 simp only [List.mem_cons, List.not_mem_nil, or_false] at hk
 rcases hk with e | e
 ·have := hq mb (by simp)
  rw [e]
  exact ⟨Nat.lt_of_lt_of_le this.1 T.size, this.2⟩
 ·rw [e]
  exact ⟨hs, fun e' => by have := q.lt _ e'; omega⟩
theorem On.beside {r : Nat} (h : On w wr g P mb [r] X N i m f) (T : Touch [r] wr w2) (hne : r ≠ mb) (hw : w.heap.size ≤ r) : On w w2 g P mb [r] X N i m f := by
 obtain ⟨F, q, t, fr, hq⟩ := h.sp
 refine { h with sp := ⟨F, q.keep T (fun k hk e => ?_), t.trans T (fun j hj => Or.inr (by simp at hj; omega)), fr, fun k hk => ⟨Nat.lt_of_lt_of_le (hq k hk).1 T.size, (hq k hk).2⟩⟩, mp := h.mp.keep T (by simp; exact fun e => hne e.symm) }
 simp only [List.mem_singleton] at e
 subst e
 exact (hq _ (by simp)).2 hk
end
set_option maxHeartbeats 32000000 in
theorem once_law (w : World) (c : CfG) (xs : List ActG) (v : Value) (hc : c.ok) (hsl : SlActG w v xs) (hok : ∀ x ∈ xs, x.ok) (hlen : xs.length ≤ 1390000000000) : Calls Tryz.prog 7 #[.agg c.cs, v] w fun e w' => e = .returned (.bool true) ∧ Touch [] w w' := by
 obtain ⟨va, vc, rfl⟩ : ∃ a k, v = .slice a xs.length k := by
  rcases hsl with ⟨rfl, a, k, rfl⟩ | ⟨b, off, cap, rfl, _⟩
  ·exact ⟨a, k, rfl⟩
  ·exact ⟨_, _, rfl⟩
 have HRow : Hid (xs.length = 0 ∨ ∃ b off, va = some ⟨b, off, none⟩ ∧ RowActG w b off xs) := by
  rcases hsl with ⟨rfl, _⟩ | ⟨b, off, cap, e, r⟩
  ·exact Or.inl rfl
  ·simp only [Value.slice.injEq] at e
   exact Or.inr ⟨b, off, e.1, r⟩
 obtain ⟨A, hA⟩ : ∃ A, A = xs.length := ⟨_, rfl⟩
 have HAx := hid hA
 have HWf := hid hok
 rw [← hA] at HRow hlen ⊢
 have HLe := hid hlen
 obtain ⟨V, hV⟩ : ∃ V, V = w.alloc (.cells c.cs 23) := ⟨_, rfl⟩
 have tv : Touch [] w V := by rw [hV]; exact (Touch.refl _ _).alloc _
 have hb : V.heap[w.heap.size]? = some (.cells c.cs 23) := by rw [hV]; exact heap_alloc_new w _
 have TV := hid tv
 have c0 : V.cell? ⟨w.heap.size, 0, none⟩ = some (.int .i64 c.t) := cell_at hb rfl
 have c1 : V.cell? ⟨w.heap.size, 1, none⟩ = some (.int .i64 c.n) := cell_at hb rfl
 have c2 : V.cell? ⟨w.heap.size, 2, none⟩ = some (.int .i64 c.s) := cell_at hb rfl
 have c3 : V.cell? ⟨w.heap.size, 3, none⟩ = some (.int .i64 c.e) := cell_at hb rfl
 have c4 : V.cell? ⟨w.heap.size, 4, none⟩ = some (.int .i64 c.f) := cell_at hb rfl
 have c5 : V.cell? ⟨w.heap.size, 5, none⟩ = some (.int .i64 c.b) := cell_at hb rfl
 have c6 : V.cell? ⟨w.heap.size, 6, none⟩ = some (.int .i64 c.d) := cell_at hb rfl
 have HNo : Hid (Me.okC (cfO c) = false → Calls Tryz.prog 8 #[.agg c.cs] V fun e w1 => e = .returned (.tuple #[.pointer none, .int .i64 100]) ∧ Touch [] V w1) := hid (fun h => new_no V (cfO c) h)
 have HYe : Hid (Me.okC (cfO c) = true → Calls Tryz.prog 8 #[.agg c.cs] V fun e w1 => ∃ g, e = .returned (.tuple #[PT g, .int .i64 0]) ∧ NwE V w1 [] g (cfO c) 0 []) := hid (fun h => new_ V (cfO c) h ⟨hc.1.hi, hc.2.1.hi, hc.2.2.1.hi, hc.2.2.2.2.2.2.hi⟩)
 clear hA hok hlen hsl hb tv hc
 unfold CfG.cs at hV HNo HYe ⊢
 unfold PT at HYe
 go_enter Tryz.func7, Tryz.ntmps7
 go_upto_region 1 with fail
 rw [← hV]
 clear hV
 by_cases hcc : Me.okC (cfO c) = true
 ·have HN := hid (HYe.out hcc)
  clear HYe HNo
  go_upto_region 2 with (go_at_call 8; refine HN.out.mono ?_; rintro e w1 ⟨g, rfl, hn⟩; have HNN := hid hn; clear hn c0 c1 c2 c3 c4 c5 c6)
  go_upto_region 4 with (go_at_call 9; refine (awake_ _).mono ?_; rintro e w2 ⟨rfl, t2⟩; have T2 := hid t2; clear t2)
  obtain ⟨P, hL0⟩ := On.start TV.out hcc HNN.out T2.out
  obtain ⟨W3, hW3⟩ : ∃ W, W = w2.alloc (.map #[] 0) := ⟨_, rfl⟩
  have hmm := @run_makeMap Tryz.prog
  go_upto_region 6 with fail
  rw [← hW3] at hL0 ⊢
  have HL0 : Hid (OnX w W3 g P w2.heap.size 0 0) := hid ⟨_, _, _, hL0, rfl⟩
  clear hL0 hW3 hmm HN HNN T2 TV
  generalize w2.heap.size = mb at *
  go_wp2
  go_loopw [7, 56] (fun s7 s56 wr => ∃ i : Nat, s56 = .int .i64 (i : Int) ∧ i ≤ A ∧ ∃ now : Int, s7 = .int .i64 now ∧ Hid (OnX w wr g P mb i now)) (fun _ i _ => A - (intOf i).toNat)
  case atStart => exact ⟨0, rfl, Nat.zero_le _, 0, rfl, HL0⟩
  case round =>
   clear HL0
   obtain ⟨i, rfl, hi, now, rfl, HR⟩ := hrel
   by_cases hlt : i < A
   ·have zi : (i : Int) < (A : Int) := by omega
    have zA : (A : Int) ≤ 1390000000000 := by have := HLe.out; omega
    obtain ⟨ba, off, rfl, hrow⟩ : ∃ ba off, va = some ⟨ba, off, none⟩ ∧ RowActG w ba off xs := by
     rcases HRow.out with e | e
     ·omega
     ·exact e
    have hnx : i < xs.length := by have := HAx.out; omega
    obtain ⟨X, N, m, on, hnow⟩ := HR.out
    have hrw := hrow.keep on.tch
    have q0 := hrw.c0 i hnx
    have q1 := hrw.c1 i hnx
    have q2 := hrw.c2 i hnx
    have q3 := hrw.c3 i hnx
    have q4 := hrw.c4 i hnx
    have q5 := hrw.c5 i hnx
    have q6 := hrw.c6 i hnx
    have q7 := hrw.c7 i hnx
    have q8 := hrw.c8 i hnx
    have q9 := hrw.c9 i hnx
    have q10 := hrw.c10 i hnx
    have q11 := hrw.c11 i hnx
    have HWx := hid (HWf.out xs[i] (List.getElem_mem hnx))
    have zn0 : 0 ≤ now := by rw [hnow]; exact on.gt.z
    have zn1 : now ≤ 4611686018427387904 := by rw [hnow]; exact on.gt.t
    have HON := hid on
    have HIA : Hid (i ≤ 1400000000000) := hid (by have := HLe.out; omega)
    clear hrow hrw on HR hnow
    generalize xs[i] = ac at *
    clear hnx
    go_upto_region 9 with fail
    obtain ⟨W1, hW1⟩ : ∃ W, W = wr.alloc (.cells #[.int .i64 ac.kd, .int .i64 ac.cl, .int .i64 ac.tk, .int .i64 ac.rn, .int .i64 ac.st, .int .i64 ac.od, .int .u16 ac.k.sp, .string ac.k.nm, .int .i64 ac.o.va, .int .i64 ac.o.fl.kd, .int .i64 ac.o.fl.cd, .int .i64 ac.o.fl.rn] 44) := ⟨_, rfl⟩
    have h1 := heap_alloc_new wr (.cells #[.int .i64 ac.kd, .int .i64 ac.cl, .int .i64 ac.tk, .int .i64 ac.rn, .int .i64 ac.st, .int .i64 ac.od, .int .u16 ac.k.sp, .string ac.k.nm, .int .i64 ac.o.va, .int .i64 ac.o.fl.kd, .int .i64 ac.o.fl.cd, .int .i64 ac.o.fl.rn] 44)
    have l1 := HON.out.alloc (.cells #[.int .i64 ac.kd, .int .i64 ac.cl, .int .i64 ac.tk, .int .i64 ac.rn, .int .i64 ac.st, .int .i64 ac.od, .int .u16 ac.k.sp, .string ac.k.nm, .int .i64 ac.o.va, .int .i64 ac.o.fl.kd, .int .i64 ac.o.fl.cd, .int .i64 ac.o.fl.rn] 44)
    rw [← hW1] at h1 l1 ⊢
    have z0 : W1.cell? ⟨wr.heap.size, 0, none⟩ = some (.int .i64 ac.kd) := cell_at h1 rfl
    have z1 : W1.cell? ⟨wr.heap.size, 1, none⟩ = some (.int .i64 ac.cl) := cell_at h1 rfl
    have z2 : W1.cell? ⟨wr.heap.size, 2, none⟩ = some (.int .i64 ac.tk) := cell_at h1 rfl
    have z3 : W1.cell? ⟨wr.heap.size, 3, none⟩ = some (.int .i64 ac.rn) := cell_at h1 rfl
    have z4 : W1.cell? ⟨wr.heap.size, 4, none⟩ = some (.int .i64 ac.st) := cell_at h1 rfl
    have z5 : W1.cell? ⟨wr.heap.size, 5, none⟩ = some (.int .i64 ac.od) := cell_at h1 rfl
    have z6 : W1.cell? ⟨wr.heap.size, 6, none⟩ = some (.int .u16 ac.k.sp) := cell_at h1 rfl
    have z7 : W1.cell? ⟨wr.heap.size, 7, none⟩ = some (.string ac.k.nm) := cell_at h1 rfl
    have z8 : W1.cell? ⟨wr.heap.size, 8, none⟩ = some (.int .i64 ac.o.va) := cell_at h1 rfl
    have z9 : W1.cell? ⟨wr.heap.size, 9, none⟩ = some (.int .i64 ac.o.fl.kd) := cell_at h1 rfl
    have z10 : W1.cell? ⟨wr.heap.size, 10, none⟩ = some (.int .i64 ac.o.fl.cd) := cell_at h1 rfl
    have z11 : W1.cell? ⟨wr.heap.size, 11, none⟩ = some (.int .i64 ac.o.fl.rn) := cell_at h1 rfl
    have HAT := hid (at_ W1 now ac zn0 zn1)
    have HL1 := hid l1
    have HB1 := hid h1
    clear hW1 h1 l1 q0 q1 q2 q3 q4 q5 q6 q7 q8 q9 q10 q11
    generalize wr.heap.size = ab at *
    unfold ActG.cs at HAT
    go_upto_region 10 with (go_at_call 35; refine HAT.out.mono ?_; rintro e w4 ⟨rfl, t4⟩; have T4 := hid t4; clear t4 z0 z1 z2 z3 z4 z5 z6 z7 z8 z9 z10 z11)
    have HL4 := hid (HL1.out.keep0 T4.out)
    have HB4 := hid (T4.out.keep HB1.out (by simp))
    clear HAT HL1 HB1 T4 HON
    generalize atT now ac = tt at *
    have z0 : w4.cell? ⟨ab, 0, none⟩ = some (.int .i64 ac.kd) := cell_at HB4.out rfl
    have z1 : w4.cell? ⟨ab, 1, none⟩ = some (.int .i64 ac.cl) := cell_at HB4.out rfl
    have z2 : w4.cell? ⟨ab, 2, none⟩ = some (.int .i64 ac.tk) := cell_at HB4.out rfl
    have z3 : w4.cell? ⟨ab, 3, none⟩ = some (.int .i64 ac.rn) := cell_at HB4.out rfl
    have z4 : w4.cell? ⟨ab, 4, none⟩ = some (.int .i64 ac.st) := cell_at HB4.out rfl
    have z5 : w4.cell? ⟨ab, 5, none⟩ = some (.int .i64 ac.od) := cell_at HB4.out rfl
    have z6 : w4.cell? ⟨ab, 6, none⟩ = some (.int .u16 ac.k.sp) := cell_at HB4.out rfl
    have z7 : w4.cell? ⟨ab, 7, none⟩ = some (.string ac.k.nm) := cell_at HB4.out rfl
    have z8 : w4.cell? ⟨ab, 8, none⟩ = some (.int .i64 ac.o.va) := cell_at HB4.out rfl
    have z9 : w4.cell? ⟨ab, 9, none⟩ = some (.int .i64 ac.o.fl.kd) := cell_at HB4.out rfl
    have z10 : w4.cell? ⟨ab, 10, none⟩ = some (.int .i64 ac.o.fl.cd) := cell_at HB4.out rfl
    have z11 : w4.cell? ⟨ab, 11, none⟩ = some (.int .i64 ac.o.fl.rn) := cell_at HB4.out rfl
    have k1 := Int.tmod_lt_of_pos ac.kd (show (0 : Int) < 12 by decide)
    have k2 := Int.lt_tmod_of_pos ac.kd (show (0 : Int) < 12 by decide)
    obtain ⟨κ, hκ⟩ : ∃ κ, (ac.kd.tmod 12 + 12) % 12 = κ := ⟨_, rfl⟩
    have hκ1 : (ac.kd.tmod 12 + 12).tmod 12 = κ := by rw [Int.tmod_eq_emod_of_nonneg (by omega)]; exact hκ
    go_upto_block 2 with fail
    clear hκ hκ1 k1 k2
    go_cut [18, 24, 35, 37, 38, 39, 40, 41, 42, 43, 44, 45, 46, 47, 48, 49, 50, 51, 52, 53, 54, 55, 56] from 12 to 238 (fun s18 s24 s35 s37 s38 s39 s40 s41 s42 s43 s44 s45 s46 s47 s48 s49 s50 s51 s52 s53 s54 s55 s56 wx => s18 = undef ∧ s24 = undef ∧ s35 = undef ∧ s37 = .tuple #[.pointer (some ⟨g, 0, none⟩), .int .i64 0] ∧ s38 = .agg #[.int .i64 c.t, .int .i64 c.n, .int .i64 c.s, .int .i64 c.e, .int .i64 c.f, .int .i64 c.b, .int .i64 c.d] ∧ s39 = .tuple #[.pointer (some ⟨g, 0, none⟩), .int .i64 0] ∧ s40 = .pointer (some ⟨g, 0, none⟩) ∧ s41 = .int .i64 0 ∧ s42 = .bool true ∧ s43 = .bool false ∧ s44 = .bool false ∧ s45 = .int .i64 0 ∧ s46 = .bool false ∧ s47 = .bool false ∧ s48 = undef ∧ s49 = undef ∧ s50 = undef ∧ s51 = undef ∧ s52 = undef ∧ s53 = .map (some mb) ∧ s54 = .slice (some ⟨ba, off, none⟩) A vc ∧ s55 = .int .i64 (A : Int) ∧ s56 = .int .i64 (i : Int) ∧ Hid (OnY w wx g P mb (i + 1)))
    case first =>
     by_cases q4 : κ = 4
     ·skip
      clear_value *
      as_aux_lemma =>
       have HC4 := hid (HL4.out.leave HIA.out tt HWx.out.2.1)
       unfold PT at HC4
       have e4 : (κ == 4) = true := by simp [q4]
       clear q4
       obtain ⟨a1, a2, a3, a4⟩ := HL4.out.sp.iv
       have HK := hid HWx.out.2.1
       rcases lvE_or X tt ac.cl with hE | ⟨hE, hno⟩ | ⟨hE, hE2⟩
       ·obtain ⟨x, hx, hx1, hx2⟩ := lv0 hE
        have hV : lvV X tt ac.cl = lefV X.T x := by unfold lvV; rw [if_neg (by simpa using hE), hx2]
        have hL : (lvX X tt ac.cl).L = Lv.outL 0 ac.cl X.L := by rw [lv_l, if_pos hE]
        have hW := wlv_of a2 hx
        rw [hx1] at hW
        rw [hV, hE] at HC4
        unfold lefV at HC4
        rw [hx1] at HC4
        generalize Ta.tLeaveC X.T x.2.1 ac.cl = B1 at HC4
        generalize Ta.tLeaveA X.T x.2.1 ac.cl = B2 at HC4
        generalize x.2.1 = rx at *
        have HV1 : Hid ((wlv X.L ac.cl).getD (.int .i64 0) = .int .i64 rx) := hid (by rw [hW]; rfl)
        have HV2 : Hid ((wlv X.L ac.cl).isSome = true) := hid (by rw [hW]; rfl)
        have HLL : Hid (kdel (wlv X.L) ac.cl = wlv (lvX X tt ac.cl).L) := hid (by rw [hL, wlv_out0])
        clear hx hx1 hx2 hV hL hW hE a1 a2 a3 a4
        go_upto_region 19 with (go_at_call 17; refine HC4.out.mono ?_; rintro e w5 ⟨rfl, ⟨M5, on5⟩, kq5⟩; have HO5 := hid on5; have HB5 := hid ((kq5 ab (by simp)).trans HB4.out); clear on5 kq5 z0 z1 z2 z3 z4 z5 z6 z7 z8 z9 z10 z11)
        obtain ⟨W6, hW6⟩ : ∃ W, W = w5.alloc (.cells #[.int .i64 ac.cl, .int .i64 rx, .bool B1, .bool B2, .int .i64 0, .int .i64 3, .int .i64 0, .int .i64 0] 67) := ⟨_, rfl⟩
        have hbx := heap_alloc_new w5 (.cells #[.int .i64 ac.cl, .int .i64 rx, .bool B1, .bool B2, .int .i64 0, .int .i64 3, .int .i64 0, .int .i64 0] 67)
        have on6 := HO5.out.alloc (.cells #[.int .i64 ac.cl, .int .i64 rx, .bool B1, .bool B2, .int .i64 0, .int .i64 3, .int .i64 0, .int .i64 0] 67)
        have hab := ((Touch.refl [] w5).alloc (.cells #[.int .i64 ac.cl, .int .i64 rx, .bool B1, .bool B2, .int .i64 0, .int .i64 3, .int .i64 0, .int .i64 0] 67)).keep HB5.out (by simp)
        have TW6 : Hid (Touch [] w5 W6) := hid (by rw [hW6]; exact (Touch.refl _ _).alloc _)
        rw [← hW6] at hbx on6 hab ⊢
        clear hW6
        obtain ⟨lb, hlb⟩ : ∃ lb, lb = w5.heap.size := ⟨_, rfl⟩
        rw [← hlb] at hbx on6 ⊢
        clear hlb
        have y0 : W6.cell? ⟨lb, 0, none⟩ = some (.int .i64 ac.cl) := cell_at hbx rfl
        have y1 : W6.cell? ⟨lb, 1, none⟩ = some (.int .i64 rx) := cell_at hbx rfl
        have y2 : W6.cell? ⟨lb, 2, none⟩ = some (.bool B1) := cell_at hbx rfl
        have y3 : W6.cell? ⟨lb, 3, none⟩ = some (.bool B2) := cell_at hbx rfl
        have y4 : W6.cell? ⟨lb, 4, none⟩ = some (.int .i64 0) := cell_at hbx rfl
        have y5 : W6.cell? ⟨lb, 5, none⟩ = some (.int .i64 3) := cell_at hbx rfl
        have y6 : W6.cell? ⟨lb, 6, none⟩ = some (.int .i64 0) := cell_at hbx rfl
        have y7 : W6.cell? ⟨lb, 7, none⟩ = some (.int .i64 0) := cell_at hbx rfl
        have z0 : W6.cell? ⟨ab, 0, none⟩ = some (.int .i64 ac.kd) := cell_at hab rfl
        have z1 : W6.cell? ⟨ab, 1, none⟩ = some (.int .i64 ac.cl) := cell_at hab rfl
        have z2 : W6.cell? ⟨ab, 2, none⟩ = some (.int .i64 ac.tk) := cell_at hab rfl
        have z3 : W6.cell? ⟨ab, 3, none⟩ = some (.int .i64 ac.rn) := cell_at hab rfl
        have z4 : W6.cell? ⟨ab, 4, none⟩ = some (.int .i64 ac.st) := cell_at hab rfl
        have z5 : W6.cell? ⟨ab, 5, none⟩ = some (.int .i64 ac.od) := cell_at hab rfl
        have z6 : W6.cell? ⟨ab, 6, none⟩ = some (.int .u16 ac.k.sp) := cell_at hab rfl
        have z7 : W6.cell? ⟨ab, 7, none⟩ = some (.string ac.k.nm) := cell_at hab rfl
        have z8 : W6.cell? ⟨ab, 8, none⟩ = some (.int .i64 ac.o.va) := cell_at hab rfl
        have z9 : W6.cell? ⟨ab, 9, none⟩ = some (.int .i64 ac.o.fl.kd) := cell_at hab rfl
        have z10 : W6.cell? ⟨ab, 10, none⟩ = some (.int .i64 ac.o.fl.cd) := cell_at hab rfl
        have z11 : W6.cell? ⟨ab, 11, none⟩ = some (.int .i64 ac.o.fl.rn) := cell_at hab rfl
        have HO6 := hid on6
        have HBL := hid hbx
        have HB6 := hid hab
        clear hbx on6 hab
        have HMA := hid HO6.out.mp.at_
        have HMK := hid HO6.out.mp
        go_wp2_with (first
      | (at_lookup; refine wpList_mlookok _ rfl _ _ 31 rfl 3 Tryz.underlying31 (zero3 _) mb m (wlv X.L) rfl HMA.out (ac.cl) rfl HK.out (.int .i64 rx) HV1.out true HV2.out ?_)
      | (at_delete; refine wpList_kdel (c := KI) _ rfl _ _ 31 rfl 3 Tryz.underlying31 mb m (wlv X.L) rfl HMK.out (ac.cl) rfl HK.out ?_; intro ob hM; have HS := hid (HO6.out.set hM (by have := HL4.out.nm; split <;> omega)); clear hM))
        have HY : OnY w _ g P mb (i + 1) := ⟨_, _, _, by have := HS.out.less.less; rw [HLL.out] at this; exact this⟩
        go_meet
        case rel => exact ⟨rfl, rfl, rfl, rfl, rfl, rfl, rfl, rfl, rfl, rfl, rfl, rfl, rfl, rfl, rfl, rfl, rfl, rfl, rfl, rfl, rfl, rfl, rfl, hid HY⟩
       ·have hne : lvE X tt ac.cl ≠ 0 := by rw [hE]; decide
        have hW := wlv_no hno
        have HV1 : Hid ((wlv X.L ac.cl).getD (.int .i64 0) = .int .i64 0) := hid (by rw [hW]; rfl)
        have HV2 : Hid ((wlv X.L ac.cl).isSome = false) := hid (by rw [hW]; rfl)
        have hV : lvV X tt ac.cl = lfz := by unfold lvV; rw [if_pos hne]
        have HLL : Hid (wlv (lvX X tt ac.cl).L = wlv X.L) := hid (by rw [lv_l, if_neg hne])
        rw [hV] at HC4
        unfold lfz at HC4
        clear hV a1 a2 a3 a4
        rw [hE] at HC4
        clear hE hno hne hW
        go_upto_region 19 with (go_at_call 17; refine HC4.out.mono ?_; rintro e w5 ⟨rfl, ⟨M5, on5⟩, kq5⟩; have HO5 := hid on5; have HB5 := hid ((kq5 ab (by simp)).trans HB4.out); clear on5 kq5 z0 z1 z2 z3 z4 z5 z6 z7 z8 z9 z10 z11)
        obtain ⟨W6, hW6⟩ : ∃ W, W = w5.alloc (.cells #[.int .i64 0, .int .i64 0, .bool false, .bool false, .int .i64 0, .int .i64 0, .int .i64 0, .int .i64 0] 67) := ⟨_, rfl⟩
        have hbx := heap_alloc_new w5 (.cells #[.int .i64 0, .int .i64 0, .bool false, .bool false, .int .i64 0, .int .i64 0, .int .i64 0, .int .i64 0] 67)
        have on6 := HO5.out.alloc (.cells #[.int .i64 0, .int .i64 0, .bool false, .bool false, .int .i64 0, .int .i64 0, .int .i64 0, .int .i64 0] 67)
        have hab := ((Touch.refl [] w5).alloc (.cells #[.int .i64 0, .int .i64 0, .bool false, .bool false, .int .i64 0, .int .i64 0, .int .i64 0, .int .i64 0] 67)).keep HB5.out (by simp)
        have TW6 : Hid (Touch [] w5 W6) := hid (by rw [hW6]; exact (Touch.refl _ _).alloc _)
        rw [← hW6] at hbx on6 hab ⊢
        clear hW6
        obtain ⟨lb, hlb⟩ : ∃ lb, lb = w5.heap.size := ⟨_, rfl⟩
        rw [← hlb] at hbx on6 ⊢
        clear hlb
        have y0 : W6.cell? ⟨lb, 0, none⟩ = some (.int .i64 0) := cell_at hbx rfl
        have y1 : W6.cell? ⟨lb, 1, none⟩ = some (.int .i64 0) := cell_at hbx rfl
        have y2 : W6.cell? ⟨lb, 2, none⟩ = some (.bool false) := cell_at hbx rfl
        have y3 : W6.cell? ⟨lb, 3, none⟩ = some (.bool false) := cell_at hbx rfl
        have y4 : W6.cell? ⟨lb, 4, none⟩ = some (.int .i64 0) := cell_at hbx rfl
        have y5 : W6.cell? ⟨lb, 5, none⟩ = some (.int .i64 0) := cell_at hbx rfl
        have y6 : W6.cell? ⟨lb, 6, none⟩ = some (.int .i64 0) := cell_at hbx rfl
        have y7 : W6.cell? ⟨lb, 7, none⟩ = some (.int .i64 0) := cell_at hbx rfl
        have z0 : W6.cell? ⟨ab, 0, none⟩ = some (.int .i64 ac.kd) := cell_at hab rfl
        have z1 : W6.cell? ⟨ab, 1, none⟩ = some (.int .i64 ac.cl) := cell_at hab rfl
        have z2 : W6.cell? ⟨ab, 2, none⟩ = some (.int .i64 ac.tk) := cell_at hab rfl
        have z3 : W6.cell? ⟨ab, 3, none⟩ = some (.int .i64 ac.rn) := cell_at hab rfl
        have z4 : W6.cell? ⟨ab, 4, none⟩ = some (.int .i64 ac.st) := cell_at hab rfl
        have z5 : W6.cell? ⟨ab, 5, none⟩ = some (.int .i64 ac.od) := cell_at hab rfl
        have z6 : W6.cell? ⟨ab, 6, none⟩ = some (.int .u16 ac.k.sp) := cell_at hab rfl
        have z7 : W6.cell? ⟨ab, 7, none⟩ = some (.string ac.k.nm) := cell_at hab rfl
        have z8 : W6.cell? ⟨ab, 8, none⟩ = some (.int .i64 ac.o.va) := cell_at hab rfl
        have z9 : W6.cell? ⟨ab, 9, none⟩ = some (.int .i64 ac.o.fl.kd) := cell_at hab rfl
        have z10 : W6.cell? ⟨ab, 10, none⟩ = some (.int .i64 ac.o.fl.cd) := cell_at hab rfl
        have z11 : W6.cell? ⟨ab, 11, none⟩ = some (.int .i64 ac.o.fl.rn) := cell_at hab rfl
        have HO6 := hid on6
        have HBL := hid hbx
        have HB6 := hid hab
        clear hbx on6 hab
        have HMA := hid HO6.out.mp.at_
        go_wp2_with (at_lookup; refine wpList_mlookok _ rfl _ _ 31 rfl 3 Tryz.underlying31 (zero3 _) mb m (wlv X.L) rfl HMA.out (ac.cl) rfl HK.out (.int .i64 0) HV1.out false HV2.out ?_)
        have HY : OnY w _ g P mb (i + 1) := ⟨_, _, _, by have := HO6.out.less.less; rw [← HLL.out] at this; exact this⟩
        go_meet
        case rel => exact ⟨rfl, rfl, rfl, rfl, rfl, rfl, rfl, rfl, rfl, rfl, rfl, rfl, rfl, rfl, rfl, rfl, rfl, rfl, rfl, rfl, rfl, rfl, rfl, hid HY⟩
       ·obtain ⟨r0, b0, hr0, hb0⟩ : ∃ (r0 : Int) (b0 : Bool), (wlv X.L ac.cl).getD (.int .i64 0) = .int .i64 r0 ∧ (wlv X.L ac.cl).isSome = b0 := by
         cases hw : wlv X.L ac.cl with
         | none => exact ⟨0, false, rfl, rfl⟩
         | some u =>
          obtain ⟨r, t, e, _⟩ := wlv_mem hw
          exact ⟨r, true, by rw [e]; rfl, rfl⟩
        have HV1 := hid hr0
        have HV2 := hid hb0
        have hV : lvV X tt ac.cl = lfz := by unfold lvV; rw [if_pos hE]
        have HLL : Hid (wlv (lvX X tt ac.cl).L = wlv X.L) := hid (by rw [lv_l, if_neg hE])
        rw [hV] at HC4
        unfold lfz at HC4
        clear hV a1 a2 a3 a4
        have e5 : (lvE X tt ac.cl == 0) = false := by simpa using hE
        have e6 : (lvE X tt ac.cl == 2) = false := by simpa using hE2
        clear hr0 hb0 hE hE2
        generalize lvE X tt ac.cl = EE at *
        go_upto_region 19 with (go_at_call 17; refine HC4.out.mono ?_; rintro e w5 ⟨rfl, ⟨M5, on5⟩, kq5⟩; have HO5 := hid on5; have HB5 := hid ((kq5 ab (by simp)).trans HB4.out); clear on5 kq5 z0 z1 z2 z3 z4 z5 z6 z7 z8 z9 z10 z11)
        obtain ⟨W6, hW6⟩ : ∃ W, W = w5.alloc (.cells #[.int .i64 0, .int .i64 0, .bool false, .bool false, .int .i64 0, .int .i64 0, .int .i64 0, .int .i64 0] 67) := ⟨_, rfl⟩
        have hbx := heap_alloc_new w5 (.cells #[.int .i64 0, .int .i64 0, .bool false, .bool false, .int .i64 0, .int .i64 0, .int .i64 0, .int .i64 0] 67)
        have on6 := HO5.out.alloc (.cells #[.int .i64 0, .int .i64 0, .bool false, .bool false, .int .i64 0, .int .i64 0, .int .i64 0, .int .i64 0] 67)
        have hab := ((Touch.refl [] w5).alloc (.cells #[.int .i64 0, .int .i64 0, .bool false, .bool false, .int .i64 0, .int .i64 0, .int .i64 0, .int .i64 0] 67)).keep HB5.out (by simp)
        have TW6 : Hid (Touch [] w5 W6) := hid (by rw [hW6]; exact (Touch.refl _ _).alloc _)
        rw [← hW6] at hbx on6 hab ⊢
        clear hW6
        obtain ⟨lb, hlb⟩ : ∃ lb, lb = w5.heap.size := ⟨_, rfl⟩
        rw [← hlb] at hbx on6 ⊢
        clear hlb
        have y0 : W6.cell? ⟨lb, 0, none⟩ = some (.int .i64 0) := cell_at hbx rfl
        have y1 : W6.cell? ⟨lb, 1, none⟩ = some (.int .i64 0) := cell_at hbx rfl
        have y2 : W6.cell? ⟨lb, 2, none⟩ = some (.bool false) := cell_at hbx rfl
        have y3 : W6.cell? ⟨lb, 3, none⟩ = some (.bool false) := cell_at hbx rfl
        have y4 : W6.cell? ⟨lb, 4, none⟩ = some (.int .i64 0) := cell_at hbx rfl
        have y5 : W6.cell? ⟨lb, 5, none⟩ = some (.int .i64 0) := cell_at hbx rfl
        have y6 : W6.cell? ⟨lb, 6, none⟩ = some (.int .i64 0) := cell_at hbx rfl
        have y7 : W6.cell? ⟨lb, 7, none⟩ = some (.int .i64 0) := cell_at hbx rfl
        have z0 : W6.cell? ⟨ab, 0, none⟩ = some (.int .i64 ac.kd) := cell_at hab rfl
        have z1 : W6.cell? ⟨ab, 1, none⟩ = some (.int .i64 ac.cl) := cell_at hab rfl
        have z2 : W6.cell? ⟨ab, 2, none⟩ = some (.int .i64 ac.tk) := cell_at hab rfl
        have z3 : W6.cell? ⟨ab, 3, none⟩ = some (.int .i64 ac.rn) := cell_at hab rfl
        have z4 : W6.cell? ⟨ab, 4, none⟩ = some (.int .i64 ac.st) := cell_at hab rfl
        have z5 : W6.cell? ⟨ab, 5, none⟩ = some (.int .i64 ac.od) := cell_at hab rfl
        have z6 : W6.cell? ⟨ab, 6, none⟩ = some (.int .u16 ac.k.sp) := cell_at hab rfl
        have z7 : W6.cell? ⟨ab, 7, none⟩ = some (.string ac.k.nm) := cell_at hab rfl
        have z8 : W6.cell? ⟨ab, 8, none⟩ = some (.int .i64 ac.o.va) := cell_at hab rfl
        have z9 : W6.cell? ⟨ab, 9, none⟩ = some (.int .i64 ac.o.fl.kd) := cell_at hab rfl
        have z10 : W6.cell? ⟨ab, 10, none⟩ = some (.int .i64 ac.o.fl.cd) := cell_at hab rfl
        have z11 : W6.cell? ⟨ab, 11, none⟩ = some (.int .i64 ac.o.fl.rn) := cell_at hab rfl
        have HO6 := hid on6
        have HBL := hid hbx
        have HB6 := hid hab
        clear hbx on6 hab
        have HMA := hid HO6.out.mp.at_
        go_wp2_with (at_lookup; refine wpList_mlookok _ rfl _ _ 31 rfl 3 Tryz.underlying31 (zero3 _) mb m (wlv X.L) rfl HMA.out (ac.cl) rfl HK.out (.int .i64 r0) HV1.out b0 HV2.out ?_)
        have HY : OnY w _ g P mb (i + 1) := ⟨_, _, _, by have := HO6.out.less.less; rw [← HLL.out] at this; exact this⟩
        go_meet
        case rel => exact ⟨rfl, rfl, rfl, rfl, rfl, rfl, rfl, rfl, rfl, rfl, rfl, rfl, rfl, rfl, rfl, rfl, rfl, rfl, rfl, rfl, rfl, rfl, rfl, hid HY⟩
     ·by_cases q5 : κ = 5
      ·skip
       clear_value *
       as_aux_lemma =>
        have HC := hid (HL4.out.cancel HIA.out tt HWx.out.2.2.1)
        unfold PT at HC
        obtain ⟨a1, a2, a3, a4⟩ := HL4.out.sp.iv
        have e4 : (κ == 4) = false := by simp [q4]
        have e5 : (κ == 5) = true := by simp [q5]
        clear q4 q5
        obtain ⟨ys, hcv, hyL, hynd, hfin⟩ := cn_ys a2 tt ac.tk
        obtain ⟨n5, hn5⟩ : ∃ n5, n5 = ys.length := ⟨_, rfl⟩
        rw [hcv, lefVs_len, ← hn5] at HC
        have HN5 := hid hn5
        have HYL := hid (And.intro hyL (And.intro hynd (And.intro a2 a4)))
        have HFI := hid hfin
        generalize cnE X tt ac.tk = EE at HC
        clear a1 a2 a3 a4 hcv hyL hynd hfin hn5
        go_upto_region 26 with (go_at_call 18; refine HC.out.mono ?_; rintro e w5 ⟨⟨a5, c5, rfl, rs5⟩, ⟨M5, on5⟩, kq5⟩; have HO5 := hid on5; have HR5 := hid rs5; have HB5 := hid ((kq5 ab (by simp)).trans HB4.out); clear on5 kq5 rs5 z0 z1 z2 z3 z4 z5 z6 z7 z8 z9 z10 z11)
        have hyl := ys_len HYL.out.2.1 HYL.out.1
        have zn5 : (n5 : Int) ≤ 3000000000000 := by have := HL4.out.nt; have h1 := HN5.out; have := HIA.out; omega
        clear hyl
        go_wp2_with fail
        go_loopw [158] (fun s158 wx => ∃ k m5 : Nat, s158 = .int .i64 (k : Int) ∧ k ≤ n5 ∧ Hid (On w wx g P mb [ab] (cnX X tt ac.tk) M5 (i + 1) m5 (wlv (Lv.outs X.L (ys.take k)))) ∧ Hid (Rs 67 8 wx (.slice a5 n5 c5) n5 (flatL (lefVs X.T ys))) ∧ Hid (wx.heap[ab]? = some (.cells #[.int .i64 ac.kd, .int .i64 ac.cl, .int .i64 ac.tk, .int .i64 ac.rn, .int .i64 ac.st, .int .i64 ac.od, .int .u16 ac.k.sp, .string ac.k.nm, .int .i64 ac.o.va, .int .i64 ac.o.fl.kd, .int .i64 ac.o.fl.cd, .int .i64 ac.o.fl.rn] 44 (0, 0)))) (fun s158 _ => n5 - (intOf s158).toNat)
        case atStart => exact ⟨0, m, rfl, Nat.zero_le _, HO5, HR5, HB5⟩
        case round =>
         clear HO5 HR5 HB5
         obtain ⟨k, m5, rfl, hk, HOW, HRW, HBW⟩ := hrel
         by_cases hkl : k < n5
         ·have zk : (k : Int) < (n5 : Int) := by omega
          have hk2 : k < ys.length := by have := HN5.out; omega
          obtain ⟨g5, o5, b1, b2, ea5, u0, u1, u2, u3, u4, u5, u6, u7⟩ := rs8 (by have := HRW.out; rw [HN5.out] at this; exact this) hk2
          subst ea5
          have hW := wlv_of (outs_nd HYL.out.2.2.1 (ys.take k)) (outs_at HYL.out.1 HYL.out.2.1 hk2)
          have HNX : Hid (kdel (wlv (Lv.outs X.L (ys.take k))) ys[k].1 = wlv (Lv.outs X.L (ys.take (k + 1)))) := hid (by rw [outs_next _ _ hk2, wlv_out0])
          have HKX : Hid (W64 ys[k].1) := hid (HYL.out.2.2.2 _ (HYL.out.1 _ (List.getElem_mem _))).1
          generalize ys[k].1 = cx at *
          generalize ys[k].2.1 = rx at *
          have HV1 : Hid ((wlv (Lv.outs X.L (ys.take k)) cx).getD (.int .i64 0) = .int .i64 rx) := hid (by rw [hW]; rfl)
          have HV2 : Hid ((wlv (Lv.outs X.L (ys.take k)) cx).isSome = true) := hid (by rw [hW]; rfl)
          clear hW
          go_upto_region 29 with fail
          obtain ⟨W6, hW6⟩ : ∃ W, W = wr.alloc (.cells #[.int .i64 cx, .int .i64 rx, .bool b1, .bool b2, .int .i64 0, .int .i64 3, .int .i64 0, .int .i64 0] 67) := ⟨_, rfl⟩
          have hbx := heap_alloc_new wr (.cells #[.int .i64 cx, .int .i64 rx, .bool b1, .bool b2, .int .i64 0, .int .i64 3, .int .i64 0, .int .i64 0] 67)
          have on6 := HOW.out.alloc (.cells #[.int .i64 cx, .int .i64 rx, .bool b1, .bool b2, .int .i64 0, .int .i64 3, .int .i64 0, .int .i64 0] 67)
          have hab := ((Touch.refl [] wr).alloc (.cells #[.int .i64 cx, .int .i64 rx, .bool b1, .bool b2, .int .i64 0, .int .i64 3, .int .i64 0, .int .i64 0] 67)).keep HBW.out (by simp)
          have TW6 : Hid (Touch [] wr W6) := hid (by rw [hW6]; exact (Touch.refl _ _).alloc _)
          rw [← hW6] at hbx on6 hab ⊢
          clear hW6
          obtain ⟨lb, hlb⟩ : ∃ lb, lb = wr.heap.size := ⟨_, rfl⟩
          rw [← hlb] at hbx on6 ⊢
          clear hlb
          have y0 : W6.cell? ⟨lb, 0, none⟩ = some (.int .i64 cx) := cell_at hbx rfl
          have y1 : W6.cell? ⟨lb, 1, none⟩ = some (.int .i64 rx) := cell_at hbx rfl
          have y2 : W6.cell? ⟨lb, 2, none⟩ = some (.bool b1) := cell_at hbx rfl
          have y3 : W6.cell? ⟨lb, 3, none⟩ = some (.bool b2) := cell_at hbx rfl
          have y4 : W6.cell? ⟨lb, 4, none⟩ = some (.int .i64 0) := cell_at hbx rfl
          have y5 : W6.cell? ⟨lb, 5, none⟩ = some (.int .i64 3) := cell_at hbx rfl
          have y6 : W6.cell? ⟨lb, 6, none⟩ = some (.int .i64 0) := cell_at hbx rfl
          have y7 : W6.cell? ⟨lb, 7, none⟩ = some (.int .i64 0) := cell_at hbx rfl
          have z0 : W6.cell? ⟨ab, 0, none⟩ = some (.int .i64 ac.kd) := cell_at hab rfl
          have z1 : W6.cell? ⟨ab, 1, none⟩ = some (.int .i64 ac.cl) := cell_at hab rfl
          have z2 : W6.cell? ⟨ab, 2, none⟩ = some (.int .i64 ac.tk) := cell_at hab rfl
          have z3 : W6.cell? ⟨ab, 3, none⟩ = some (.int .i64 ac.rn) := cell_at hab rfl
          have z4 : W6.cell? ⟨ab, 4, none⟩ = some (.int .i64 ac.st) := cell_at hab rfl
          have z5 : W6.cell? ⟨ab, 5, none⟩ = some (.int .i64 ac.od) := cell_at hab rfl
          have z6 : W6.cell? ⟨ab, 6, none⟩ = some (.int .u16 ac.k.sp) := cell_at hab rfl
          have z7 : W6.cell? ⟨ab, 7, none⟩ = some (.string ac.k.nm) := cell_at hab rfl
          have z8 : W6.cell? ⟨ab, 8, none⟩ = some (.int .i64 ac.o.va) := cell_at hab rfl
          have z9 : W6.cell? ⟨ab, 9, none⟩ = some (.int .i64 ac.o.fl.kd) := cell_at hab rfl
          have z10 : W6.cell? ⟨ab, 10, none⟩ = some (.int .i64 ac.o.fl.cd) := cell_at hab rfl
          have z11 : W6.cell? ⟨ab, 11, none⟩ = some (.int .i64 ac.o.fl.rn) := cell_at hab rfl
          have HO6 := hid on6
          have HBL := hid hbx
          have HB6 := hid hab
          clear hbx on6 hab
          have HMA := hid HO6.out.mp.at_
          have HMK := hid HO6.out.mp
          have HR6 : Hid (Rs 67 8 W6 (.slice (some ⟨g5, o5, none⟩) n5 c5) n5 (flatL (lefVs X.T ys))) := hid (HRW.out.keep0 TW6.out)
          clear u0 u1 u2 u3 u4 u5 u6 u7
          go_wp2_with (first
         | (at_lookup; refine wpList_mlookok _ rfl _ _ 31 rfl 3 Tryz.underlying31 (zero3 _) mb m5 (wlv (Lv.outs X.L (ys.take k))) rfl HMA.out (cx) rfl HKX.out (.int .i64 rx) HV1.out true HV2.out ?_)
         | (at_delete; refine wpList_kdel (c := KI) _ rfl _ _ 31 rfl 3 Tryz.underlying31 mb m5 (wlv (Lv.outs X.L (ys.take k))) rfl HMK.out (cx) rfl HKX.out ?_; intro ob hM; have TS : Touch [mb] W6 (setBlock W6 mb ob) := touch_setBlock (Touch.refl _ _) (Or.inl (by simp)) ob; have HS := hid (HO6.out.set hM (by have := HOW.out.nm; split <;> omega)).less; have HRS := hid (rs_map HR6.out HMK.out TS); have HBS := hid (TS.keep HB6.out (by simpa using cells_ne HB6.out HMK.out)); clear hM TS))
          go_roundw
          case rel => exact ⟨k + 1, _, by go_num, by omega, hid (by have := HS.out; rw [HNX.out] at this; exact this), HRS, HBS⟩
          case measure => simp [intOf]; omega
         ·have zk : ¬ (k : Int) < (n5 : Int) := by omega
          have HY0 : Hid (OnY w wr g P mb (i + 1)) := hid ⟨_, _, _, by have := HOW.out.less; rw [List.take_of_length_le (by have := HN5.out; omega), ← HFI.out] at this; exact this⟩
          go_wp2_with fail
          have HY := HY0.out
          go_meet
          case rel => exact ⟨rfl, rfl, rfl, rfl, rfl, rfl, rfl, rfl, rfl, rfl, rfl, rfl, rfl, rfl, rfl, rfl, rfl, rfl, rfl, rfl, rfl, rfl, rfl, hid HY⟩
      ·by_cases q6 : κ = 6
       ·skip
        clear_value *
        as_aux_lemma =>
         have HC := hid (HL4.out.forget HIA.out tt ac.k.key HWx.out.2.2.2.2.2.2.1)
         unfold PT kv KyA.key at HC
         have e4 : (κ == 4) = false := by simp [q4]
         have e5 : (κ == 5) = false := by simp [q5]
         have e6 : (κ == 6) = true := by simp [q6]
         clear q4 q5 q6
         generalize hvv : fgV X tt (ac.k.sp, ac.k.nm) = vv at HC
         clear hvv
         go_wp2_with (go_at_call 19; refine HC.out.mono ?_; rintro e w5 ⟨rfl, ⟨M5, on5⟩, kq5⟩; have HO5 := hid on5; clear on5 kq5 z0 z1 z2 z3 z4 z5 z6 z7 z8 z9 z10 z11)
         have HY : OnY w _ g P mb (i + 1) := ⟨_, _, _, by have := HO5.out.less; rw [show wlv X.L = wlv (fgX X tt (ac.k.sp, ac.k.nm)).L by rw [fg_l]] at this; exact this⟩
         go_meet
         case rel => exact ⟨rfl, rfl, rfl, rfl, rfl, rfl, rfl, rfl, rfl, rfl, rfl, rfl, rfl, rfl, rfl, rfl, rfl, rfl, rfl, rfl, rfl, rfl, rfl, hid HY⟩
       ·by_cases q7 : κ = 7
        ·skip
         clear_value *
         as_aux_lemma =>
          have HC := hid (HL4.out.end_ HIA.out tt HWx.out.2.2.2.1 (ac.o.va, ac.o.fl.kd, ac.o.fl.cd, ac.o.fl.rn))
          unfold PT Me.ov dcs at HC
          obtain ⟨a1, a2, a3, a4⟩ := HL4.out.sp.iv
          have e4 : (κ == 4) = false := by simp [q4]
          have e5 : (κ == 5) = false := by simp [q5]
          have e6 : (κ == 6) = false := by simp [q6]
          have e7 : (κ == 7) = true := by simp [q7]
          clear q4 q5 q6 q7
          obtain ⟨ys, htd, hyL, hynd, hfin⟩ := ed_ys HL4.out.gi a1 a2 tt ac.rn (ac.o.va, ac.o.fl.kd, ac.o.fl.cd, ac.o.fl.rn)
          obtain ⟨n5, hn5⟩ : ∃ n5, n5 = ys.length := ⟨_, rfl⟩
          have HN5 := hid hn5
          have HYL := hid (And.intro hyL (And.intro hynd (And.intro a2 a4)))
          have HFI := hid hfin
          have HTD := hid htd
          generalize edE X tt ac.rn (ac.o.va, ac.o.fl.kd, ac.o.fl.cd, ac.o.fl.rn) = EE at HC
          generalize edD X tt ac.rn (ac.o.va, ac.o.fl.kd, ac.o.fl.cd, ac.o.fl.rn) = D at HC HTD
          clear a1 a2 a3 a4 htd hyL hynd hfin hn5
          go_upto_region 39 with (go_at_call 13; refine HC.out.mono ?_; rintro e w5 ⟨⟨tv, gv, lv, rfl, dq⟩, ⟨M5, on5⟩, kq5⟩; obtain ⟨at5, ct5, et5⟩ := tv_len dq.t; obtain ⟨ag5, cg5, eg5⟩ := own_form dq.g; obtain ⟨_, al5, nl5, cl5, el5⟩ := dq.l; have dt := dq.t; subst et5 eg5 el5; have HO5 := hid on5; have HD5 := hid dt; have HB5 := hid ((kq5 ab (by simp)).trans HB4.out); clear on5 kq5 dq dt z0 z1 z2 z3 z4 z5 z6 z7 z8 z9 z10 z11; generalize D.gone.length = ng5 at *; rw [show D.told.length = n5 by rw [HTD.out, List.length_map]; exact HN5.out.symm] at *)
          rw [HTD.out] at HD5
          have hyl := ys_len HYL.out.2.1 (fun y hy => (HYL.out.1 y hy).1)
          have zn5 : (n5 : Int) ≤ 3000000000000 := by have := HL4.out.nt; have h1 := HN5.out; have := HIA.out; omega
          clear hyl
          obtain ⟨W6, hW6⟩ : ∃ W, W = w5.alloc (.cells #[.int .i64 D.R.run, .int .u16 D.R.sp, .string D.R.nm, .int .i64 D.R.gen, .bool D.R.rf, .slice at5 n5 ct5, .bool D.cur, .bool D.kept, .slice ag5 ng5 cg5, .slice al5 nl5 cl5] 57) := ⟨_, rfl⟩
          have hbx := heap_alloc_new w5 (.cells #[.int .i64 D.R.run, .int .u16 D.R.sp, .string D.R.nm, .int .i64 D.R.gen, .bool D.R.rf, .slice at5 n5 ct5, .bool D.cur, .bool D.kept, .slice ag5 ng5 cg5, .slice al5 nl5 cl5] 57)
          have on6 := HO5.out.alloc (.cells #[.int .i64 D.R.run, .int .u16 D.R.sp, .string D.R.nm, .int .i64 D.R.gen, .bool D.R.rf, .slice at5 n5 ct5, .bool D.cur, .bool D.kept, .slice ag5 ng5 cg5, .slice al5 nl5 cl5] 57)
          have hab := ((Touch.refl [] w5).alloc (.cells #[.int .i64 D.R.run, .int .u16 D.R.sp, .string D.R.nm, .int .i64 D.R.gen, .bool D.R.rf, .slice at5 n5 ct5, .bool D.cur, .bool D.kept, .slice ag5 ng5 cg5, .slice al5 nl5 cl5] 57)).keep HB5.out (by simp)
          have TW6 : Hid (Touch [] w5 W6) := hid (by rw [hW6]; exact (Touch.refl _ _).alloc _)
          rw [← hW6] at hbx on6 hab ⊢
          clear hW6
          obtain ⟨lb, hlb⟩ : ∃ lb, lb = w5.heap.size := ⟨_, rfl⟩
          rw [← hlb] at hbx on6 ⊢
          clear hlb
          have y0 : W6.cell? ⟨lb, 0, none⟩ = some (.int .i64 D.R.run) := cell_at hbx rfl
          have y1 : W6.cell? ⟨lb, 1, none⟩ = some (.int .u16 D.R.sp) := cell_at hbx rfl
          have y2 : W6.cell? ⟨lb, 2, none⟩ = some (.string D.R.nm) := cell_at hbx rfl
          have y3 : W6.cell? ⟨lb, 3, none⟩ = some (.int .i64 D.R.gen) := cell_at hbx rfl
          have y4 : W6.cell? ⟨lb, 4, none⟩ = some (.bool D.R.rf) := cell_at hbx rfl
          have y5 : W6.cell? ⟨lb, 5, none⟩ = some (.slice at5 n5 ct5) := cell_at hbx rfl
          have y6 : W6.cell? ⟨lb, 6, none⟩ = some (.bool D.cur) := cell_at hbx rfl
          have y7 : W6.cell? ⟨lb, 7, none⟩ = some (.bool D.kept) := cell_at hbx rfl
          have y8 : W6.cell? ⟨lb, 8, none⟩ = some (.slice ag5 ng5 cg5) := cell_at hbx rfl
          have y9 : W6.cell? ⟨lb, 9, none⟩ = some (.slice al5 nl5 cl5) := cell_at hbx rfl
          have z0 : W6.cell? ⟨ab, 0, none⟩ = some (.int .i64 ac.kd) := cell_at hab rfl
          have z1 : W6.cell? ⟨ab, 1, none⟩ = some (.int .i64 ac.cl) := cell_at hab rfl
          have z2 : W6.cell? ⟨ab, 2, none⟩ = some (.int .i64 ac.tk) := cell_at hab rfl
          have z3 : W6.cell? ⟨ab, 3, none⟩ = some (.int .i64 ac.rn) := cell_at hab rfl
          have z4 : W6.cell? ⟨ab, 4, none⟩ = some (.int .i64 ac.st) := cell_at hab rfl
          have z5 : W6.cell? ⟨ab, 5, none⟩ = some (.int .i64 ac.od) := cell_at hab rfl
          have z6 : W6.cell? ⟨ab, 6, none⟩ = some (.int .u16 ac.k.sp) := cell_at hab rfl
          have z7 : W6.cell? ⟨ab, 7, none⟩ = some (.string ac.k.nm) := cell_at hab rfl
          have z8 : W6.cell? ⟨ab, 8, none⟩ = some (.int .i64 ac.o.va) := cell_at hab rfl
          have z9 : W6.cell? ⟨ab, 9, none⟩ = some (.int .i64 ac.o.fl.kd) := cell_at hab rfl
          have z10 : W6.cell? ⟨ab, 10, none⟩ = some (.int .i64 ac.o.fl.cd) := cell_at hab rfl
          have z11 : W6.cell? ⟨ab, 11, none⟩ = some (.int .i64 ac.o.fl.rn) := cell_at hab rfl
          have HO6 := hid on6
          have HBL := hid hbx
          have HB6 := hid hab
          clear hbx on6 hab
          have HO7 := hid HO6.out.less
          have HD6 := hid (HD5.out.keep TW6.out (fun k hk => by cases hk))
          clear HO6
          go_wp2_with fail
          clear y0 y1 y2 y3 y4 y5 y6 y7 y8 y9 z0 z1 z2 z3 z4 z5 z6 z7 z8 z9 z10 z11
          go_loopw [204] (fun s204 wx => ∃ k m5 : Nat, s204 = .int .i64 (k : Int) ∧ k ≤ n5 ∧ Hid (On w wx g P mb [ab] (edX X tt ac.rn (ac.o.va, ac.o.fl.kd, ac.o.fl.cd, ac.o.fl.rn)) M5 (i + 1) m5 (wlv (Lv.outs X.L (ys.take k)))) ∧ Hid (Ta.Tv 0 wx (.slice at5 n5 ct5) (ys.map Prod.fst) (ac.o.va, ac.o.fl.kd, ac.o.fl.cd, ac.o.fl.rn)) ∧ Hid (wx.heap[ab]? = some (.cells #[.int .i64 ac.kd, .int .i64 ac.cl, .int .i64 ac.tk, .int .i64 ac.rn, .int .i64 ac.st, .int .i64 ac.od, .int .u16 ac.k.sp, .string ac.k.nm, .int .i64 ac.o.va, .int .i64 ac.o.fl.kd, .int .i64 ac.o.fl.cd, .int .i64 ac.o.fl.rn] 44 (0, 0)))) (fun s204 _ => n5 - (intOf s204).toNat)
          case atStart => exact ⟨0, m, rfl, Nat.zero_le _, HO7, HD6, HB6⟩
          case round =>
           clear HO5 HO7 HD5 HD6 HB5 HB6 HBL TW6
           obtain ⟨k, m5, rfl, hk, HOW, HRW, HBW⟩ := hrel
           by_cases hkl : k < n5
           ·have zk : (k : Int) < (n5 : Int) := by omega
            have hk2 : k < ys.length := by have := HN5.out; omega
            obtain ⟨t5, ea5, u0, u1, u2, u3, u4⟩ := tv5 HRW.out (j := k) (by rw [List.length_map]; exact hk2)
            subst ea5
            rw [List.getElem_map] at u0
            have hyk := HYL.out.1 _ (List.getElem_mem hk2)
            have hW := wlv_of (outs_nd HYL.out.2.2.1 (ys.take k)) (outs_at (fun y hy => (HYL.out.1 y hy).1) HYL.out.2.1 hk2)
            rw [hyk.2] at hW
            have HNX : Hid (kdel (wlv (Lv.outs X.L (ys.take k))) ys[k].1 = wlv (Lv.outs X.L (ys.take (k + 1)))) := hid (by rw [outs_next _ _ hk2, wlv_out0])
            have HKX : Hid (W64 ys[k].1) := hid (HYL.out.2.2.2 _ hyk.1).1
            clear hyk
            generalize ys[k].1 = cx at *
            have HV1 : Hid ((wlv (Lv.outs X.L (ys.take k)) cx).getD (.int .i64 0) = .int .i64 ac.rn) := hid (by rw [hW]; rfl)
            have HV2 : Hid ((wlv (Lv.outs X.L (ys.take k)) cx).isSome = true) := hid (by rw [hW]; rfl)
            clear hW
            go_upto_region 42 with fail
            obtain ⟨W8, hW8⟩ : ∃ W, W = wr.alloc (.cells #[.int .i64 cx, .int .i64 ac.o.va, .int .i64 ac.o.fl.kd, .int .i64 ac.o.fl.cd, .int .i64 ac.o.fl.rn] 64) := ⟨_, rfl⟩
            have hbx := heap_alloc_new wr (.cells #[.int .i64 cx, .int .i64 ac.o.va, .int .i64 ac.o.fl.kd, .int .i64 ac.o.fl.cd, .int .i64 ac.o.fl.rn] 64)
            have on6 := HOW.out.alloc (.cells #[.int .i64 cx, .int .i64 ac.o.va, .int .i64 ac.o.fl.kd, .int .i64 ac.o.fl.cd, .int .i64 ac.o.fl.rn] 64)
            have hab := ((Touch.refl [] wr).alloc (.cells #[.int .i64 cx, .int .i64 ac.o.va, .int .i64 ac.o.fl.kd, .int .i64 ac.o.fl.cd, .int .i64 ac.o.fl.rn] 64)).keep HBW.out (by simp)
            have TW8 : Hid (Touch [] wr W8) := hid (by rw [hW8]; exact (Touch.refl _ _).alloc _)
            rw [← hW8] at hbx on6 hab ⊢
            clear hW8
            obtain ⟨lt, hlt⟩ : ∃ lt, lt = wr.heap.size := ⟨_, rfl⟩
            rw [← hlt] at hbx on6 ⊢
            clear hlt
            have y0 : W8.cell? ⟨lt, 0, none⟩ = some (.int .i64 cx) := cell_at hbx rfl
            have y1 : W8.cell? ⟨lt, 1, none⟩ = some (.int .i64 ac.o.va) := cell_at hbx rfl
            have y2 : W8.cell? ⟨lt, 2, none⟩ = some (.int .i64 ac.o.fl.kd) := cell_at hbx rfl
            have y3 : W8.cell? ⟨lt, 3, none⟩ = some (.int .i64 ac.o.fl.cd) := cell_at hbx rfl
            have y4 : W8.cell? ⟨lt, 4, none⟩ = some (.int .i64 ac.o.fl.rn) := cell_at hbx rfl
            have z0 : W8.cell? ⟨ab, 0, none⟩ = some (.int .i64 ac.kd) := cell_at hab rfl
            have z1 : W8.cell? ⟨ab, 1, none⟩ = some (.int .i64 ac.cl) := cell_at hab rfl
            have z2 : W8.cell? ⟨ab, 2, none⟩ = some (.int .i64 ac.tk) := cell_at hab rfl
            have z3 : W8.cell? ⟨ab, 3, none⟩ = some (.int .i64 ac.rn) := cell_at hab rfl
            have z4 : W8.cell? ⟨ab, 4, none⟩ = some (.int .i64 ac.st) := cell_at hab rfl
            have z5 : W8.cell? ⟨ab, 5, none⟩ = some (.int .i64 ac.od) := cell_at hab rfl
            have z6 : W8.cell? ⟨ab, 6, none⟩ = some (.int .u16 ac.k.sp) := cell_at hab rfl
            have z7 : W8.cell? ⟨ab, 7, none⟩ = some (.string ac.k.nm) := cell_at hab rfl
            have z8 : W8.cell? ⟨ab, 8, none⟩ = some (.int .i64 ac.o.va) := cell_at hab rfl
            have z9 : W8.cell? ⟨ab, 9, none⟩ = some (.int .i64 ac.o.fl.kd) := cell_at hab rfl
            have z10 : W8.cell? ⟨ab, 10, none⟩ = some (.int .i64 ac.o.fl.cd) := cell_at hab rfl
            have z11 : W8.cell? ⟨ab, 11, none⟩ = some (.int .i64 ac.o.fl.rn) := cell_at hab rfl
            have HO6 := hid on6
            have HBL := hid hbx
            have HB6 := hid hab
            clear hbx on6 hab
            have HMA := hid HO6.out.mp.at_
            have HMK := hid HO6.out.mp
            have HR6 : Hid (Ta.Tv 0 W8 (.slice (some ⟨t5, 0, none⟩) n5 ct5) (ys.map Prod.fst) (ac.o.va, ac.o.fl.kd, ac.o.fl.cd, ac.o.fl.rn)) := hid (HRW.out.keep TW8.out (fun k hk => by cases hk))
            clear u0 u1 u2 u3 u4
            go_wp2_with (first
         | (at_lookup; refine wpList_mlookok _ rfl _ _ 31 rfl 3 Tryz.underlying31 (zero3 _) mb m5 (wlv (Lv.outs X.L (ys.take k))) rfl HMA.out (cx) rfl HKX.out (.int .i64 ac.rn) HV1.out true HV2.out ?_)
         | (at_delete; refine wpList_kdel (c := KI) _ rfl _ _ 31 rfl 3 Tryz.underlying31 mb m5 (wlv (Lv.outs X.L (ys.take k))) rfl HMK.out (cx) rfl HKX.out ?_; intro ob hM; have TS : Touch [mb] W8 (setBlock W8 mb ob) := touch_setBlock (Touch.refl _ _) (Or.inl (by simp)) ob; have HS := hid (HO6.out.set hM (by have := HOW.out.nm; split <;> omega)).less; have HRS := hid (tv_map HR6.out HMK.out TS); have HBS := hid (TS.keep HB6.out (by simpa using cells_ne HB6.out HMK.out)); clear hM TS))
            go_roundw
            case rel => exact ⟨k + 1, _, by go_num, by omega, hid (by have := HS.out; rw [HNX.out] at this; exact this), HRS, HBS⟩
            case measure => simp [intOf]; omega
           ·have zk : ¬ (k : Int) < (n5 : Int) := by omega
            have HY0 : Hid (OnY w wr g P mb (i + 1)) := hid ⟨_, _, _, by have := HOW.out.less; rw [List.take_of_length_le (by have := HN5.out; omega), ← HFI.out] at this; exact this⟩
            go_wp2_with fail
            have HY := HY0.out
            go_meet
            case rel => exact ⟨rfl, rfl, rfl, rfl, rfl, rfl, rfl, rfl, rfl, rfl, rfl, rfl, rfl, rfl, rfl, rfl, rfl, rfl, rfl, rfl, rfl, rfl, rfl, hid HY⟩
        ·by_cases q8 : κ = 8
         ·skip
          clear_value *
          as_aux_lemma =>
           have HC := hid (HL4.out.end_ HIA.out tt HWx.out.2.2.2.1 (ac.o.va, ac.o.fl.kd, ac.o.fl.cd, ac.o.fl.rn))
           unfold PT Me.ov dcs at HC
           obtain ⟨a1, a2, a3, a4⟩ := HL4.out.sp.iv
           have e4 : (κ == 4) = false := by simp [q4]
           have e5 : (κ == 5) = false := by simp [q5]
           have e6 : (κ == 6) = false := by simp [q6]
           have e7 : (κ == 7) = false := by simp [q7]
           have e8 : (κ == 8) = true := by simp [q8]
           clear q4 q5 q6 q7 q8
           obtain ⟨ys, htd, hyL, hynd, hfin⟩ := ed_ys HL4.out.gi a1 a2 tt ac.rn (ac.o.va, ac.o.fl.kd, ac.o.fl.cd, ac.o.fl.rn)
           obtain ⟨n5, hn5⟩ : ∃ n5, n5 = ys.length := ⟨_, rfl⟩
           have HN5 := hid hn5
           have HYL := hid (And.intro hyL (And.intro hynd (And.intro a2 a4)))
           have HFI := hid hfin
           have HTD := hid htd
           generalize edE X tt ac.rn (ac.o.va, ac.o.fl.kd, ac.o.fl.cd, ac.o.fl.rn) = EE at HC
           generalize edD X tt ac.rn (ac.o.va, ac.o.fl.kd, ac.o.fl.cd, ac.o.fl.rn) = D at HC HTD
           clear a1 a2 a3 a4 htd hyL hynd hfin hn5
           go_upto_region 39 with (go_at_call 13; refine HC.out.mono ?_; rintro e w5 ⟨⟨tv, gv, lv, rfl, dq⟩, ⟨M5, on5⟩, kq5⟩; obtain ⟨at5, ct5, et5⟩ := tv_len dq.t; obtain ⟨ag5, cg5, eg5⟩ := own_form dq.g; obtain ⟨_, al5, nl5, cl5, el5⟩ := dq.l; have dt := dq.t; subst et5 eg5 el5; have HO5 := hid on5; have HD5 := hid dt; have HB5 := hid ((kq5 ab (by simp)).trans HB4.out); clear on5 kq5 dq dt z0 z1 z2 z3 z4 z5 z6 z7 z8 z9 z10 z11; generalize D.gone.length = ng5 at *; rw [show D.told.length = n5 by rw [HTD.out, List.length_map]; exact HN5.out.symm] at *)
           rw [HTD.out] at HD5
           have hyl := ys_len HYL.out.2.1 (fun y hy => (HYL.out.1 y hy).1)
           have zn5 : (n5 : Int) ≤ 3000000000000 := by have := HL4.out.nt; have h1 := HN5.out; have := HIA.out; omega
           clear hyl
           obtain ⟨W6, hW6⟩ : ∃ W, W = w5.alloc (.cells #[.int .i64 D.R.run, .int .u16 D.R.sp, .string D.R.nm, .int .i64 D.R.gen, .bool D.R.rf, .slice at5 n5 ct5, .bool D.cur, .bool D.kept, .slice ag5 ng5 cg5, .slice al5 nl5 cl5] 57) := ⟨_, rfl⟩
           have hbx := heap_alloc_new w5 (.cells #[.int .i64 D.R.run, .int .u16 D.R.sp, .string D.R.nm, .int .i64 D.R.gen, .bool D.R.rf, .slice at5 n5 ct5, .bool D.cur, .bool D.kept, .slice ag5 ng5 cg5, .slice al5 nl5 cl5] 57)
           have on6 := HO5.out.alloc (.cells #[.int .i64 D.R.run, .int .u16 D.R.sp, .string D.R.nm, .int .i64 D.R.gen, .bool D.R.rf, .slice at5 n5 ct5, .bool D.cur, .bool D.kept, .slice ag5 ng5 cg5, .slice al5 nl5 cl5] 57)
           have hab := ((Touch.refl [] w5).alloc (.cells #[.int .i64 D.R.run, .int .u16 D.R.sp, .string D.R.nm, .int .i64 D.R.gen, .bool D.R.rf, .slice at5 n5 ct5, .bool D.cur, .bool D.kept, .slice ag5 ng5 cg5, .slice al5 nl5 cl5] 57)).keep HB5.out (by simp)
           have TW6 : Hid (Touch [] w5 W6) := hid (by rw [hW6]; exact (Touch.refl _ _).alloc _)
           rw [← hW6] at hbx on6 hab ⊢
           clear hW6
           obtain ⟨lb, hlb⟩ : ∃ lb, lb = w5.heap.size := ⟨_, rfl⟩
           rw [← hlb] at hbx on6 ⊢
           clear hlb
           have y0 : W6.cell? ⟨lb, 0, none⟩ = some (.int .i64 D.R.run) := cell_at hbx rfl
           have y1 : W6.cell? ⟨lb, 1, none⟩ = some (.int .u16 D.R.sp) := cell_at hbx rfl
           have y2 : W6.cell? ⟨lb, 2, none⟩ = some (.string D.R.nm) := cell_at hbx rfl
           have y3 : W6.cell? ⟨lb, 3, none⟩ = some (.int .i64 D.R.gen) := cell_at hbx rfl
           have y4 : W6.cell? ⟨lb, 4, none⟩ = some (.bool D.R.rf) := cell_at hbx rfl
           have y5 : W6.cell? ⟨lb, 5, none⟩ = some (.slice at5 n5 ct5) := cell_at hbx rfl
           have y6 : W6.cell? ⟨lb, 6, none⟩ = some (.bool D.cur) := cell_at hbx rfl
           have y7 : W6.cell? ⟨lb, 7, none⟩ = some (.bool D.kept) := cell_at hbx rfl
           have y8 : W6.cell? ⟨lb, 8, none⟩ = some (.slice ag5 ng5 cg5) := cell_at hbx rfl
           have y9 : W6.cell? ⟨lb, 9, none⟩ = some (.slice al5 nl5 cl5) := cell_at hbx rfl
           have z0 : W6.cell? ⟨ab, 0, none⟩ = some (.int .i64 ac.kd) := cell_at hab rfl
           have z1 : W6.cell? ⟨ab, 1, none⟩ = some (.int .i64 ac.cl) := cell_at hab rfl
           have z2 : W6.cell? ⟨ab, 2, none⟩ = some (.int .i64 ac.tk) := cell_at hab rfl
           have z3 : W6.cell? ⟨ab, 3, none⟩ = some (.int .i64 ac.rn) := cell_at hab rfl
           have z4 : W6.cell? ⟨ab, 4, none⟩ = some (.int .i64 ac.st) := cell_at hab rfl
           have z5 : W6.cell? ⟨ab, 5, none⟩ = some (.int .i64 ac.od) := cell_at hab rfl
           have z6 : W6.cell? ⟨ab, 6, none⟩ = some (.int .u16 ac.k.sp) := cell_at hab rfl
           have z7 : W6.cell? ⟨ab, 7, none⟩ = some (.string ac.k.nm) := cell_at hab rfl
           have z8 : W6.cell? ⟨ab, 8, none⟩ = some (.int .i64 ac.o.va) := cell_at hab rfl
           have z9 : W6.cell? ⟨ab, 9, none⟩ = some (.int .i64 ac.o.fl.kd) := cell_at hab rfl
           have z10 : W6.cell? ⟨ab, 10, none⟩ = some (.int .i64 ac.o.fl.cd) := cell_at hab rfl
           have z11 : W6.cell? ⟨ab, 11, none⟩ = some (.int .i64 ac.o.fl.rn) := cell_at hab rfl
           have HO6 := hid on6
           have HBL := hid hbx
           have HB6 := hid hab
           clear hbx on6 hab
           have HO7 := hid HO6.out.less
           have HD6 := hid (HD5.out.keep TW6.out (fun k hk => by cases hk))
           clear HO6
           go_wp2_with fail
           clear y0 y1 y2 y3 y4 y5 y6 y7 y8 y9 z0 z1 z2 z3 z4 z5 z6 z7 z8 z9 z10 z11
           go_loopw [204] (fun s204 wx => ∃ k m5 : Nat, s204 = .int .i64 (k : Int) ∧ k ≤ n5 ∧ Hid (On w wx g P mb [ab] (edX X tt ac.rn (ac.o.va, ac.o.fl.kd, ac.o.fl.cd, ac.o.fl.rn)) M5 (i + 1) m5 (wlv (Lv.outs X.L (ys.take k)))) ∧ Hid (Ta.Tv 0 wx (.slice at5 n5 ct5) (ys.map Prod.fst) (ac.o.va, ac.o.fl.kd, ac.o.fl.cd, ac.o.fl.rn)) ∧ Hid (wx.heap[ab]? = some (.cells #[.int .i64 ac.kd, .int .i64 ac.cl, .int .i64 ac.tk, .int .i64 ac.rn, .int .i64 ac.st, .int .i64 ac.od, .int .u16 ac.k.sp, .string ac.k.nm, .int .i64 ac.o.va, .int .i64 ac.o.fl.kd, .int .i64 ac.o.fl.cd, .int .i64 ac.o.fl.rn] 44 (0, 0)))) (fun s204 _ => n5 - (intOf s204).toNat)
           case atStart => exact ⟨0, m, rfl, Nat.zero_le _, HO7, HD6, HB6⟩
           case round =>
            clear HO5 HO7 HD5 HD6 HB5 HB6 HBL TW6
            obtain ⟨k, m5, rfl, hk, HOW, HRW, HBW⟩ := hrel
            by_cases hkl : k < n5
            ·have zk : (k : Int) < (n5 : Int) := by omega
             have hk2 : k < ys.length := by have := HN5.out; omega
             obtain ⟨t5, ea5, u0, u1, u2, u3, u4⟩ := tv5 HRW.out (j := k) (by rw [List.length_map]; exact hk2)
             subst ea5
             rw [List.getElem_map] at u0
             have hyk := HYL.out.1 _ (List.getElem_mem hk2)
             have hW := wlv_of (outs_nd HYL.out.2.2.1 (ys.take k)) (outs_at (fun y hy => (HYL.out.1 y hy).1) HYL.out.2.1 hk2)
             rw [hyk.2] at hW
             have HNX : Hid (kdel (wlv (Lv.outs X.L (ys.take k))) ys[k].1 = wlv (Lv.outs X.L (ys.take (k + 1)))) := hid (by rw [outs_next _ _ hk2, wlv_out0])
             have HKX : Hid (W64 ys[k].1) := hid (HYL.out.2.2.2 _ hyk.1).1
             clear hyk
             generalize ys[k].1 = cx at *
             have HV1 : Hid ((wlv (Lv.outs X.L (ys.take k)) cx).getD (.int .i64 0) = .int .i64 ac.rn) := hid (by rw [hW]; rfl)
             have HV2 : Hid ((wlv (Lv.outs X.L (ys.take k)) cx).isSome = true) := hid (by rw [hW]; rfl)
             clear hW
             go_upto_region 42 with fail
             obtain ⟨W8, hW8⟩ : ∃ W, W = wr.alloc (.cells #[.int .i64 cx, .int .i64 ac.o.va, .int .i64 ac.o.fl.kd, .int .i64 ac.o.fl.cd, .int .i64 ac.o.fl.rn] 64) := ⟨_, rfl⟩
             have hbx := heap_alloc_new wr (.cells #[.int .i64 cx, .int .i64 ac.o.va, .int .i64 ac.o.fl.kd, .int .i64 ac.o.fl.cd, .int .i64 ac.o.fl.rn] 64)
             have on6 := HOW.out.alloc (.cells #[.int .i64 cx, .int .i64 ac.o.va, .int .i64 ac.o.fl.kd, .int .i64 ac.o.fl.cd, .int .i64 ac.o.fl.rn] 64)
             have hab := ((Touch.refl [] wr).alloc (.cells #[.int .i64 cx, .int .i64 ac.o.va, .int .i64 ac.o.fl.kd, .int .i64 ac.o.fl.cd, .int .i64 ac.o.fl.rn] 64)).keep HBW.out (by simp)
             have TW8 : Hid (Touch [] wr W8) := hid (by rw [hW8]; exact (Touch.refl _ _).alloc _)
             rw [← hW8] at hbx on6 hab ⊢
             clear hW8
             obtain ⟨lt, hlt⟩ : ∃ lt, lt = wr.heap.size := ⟨_, rfl⟩
             rw [← hlt] at hbx on6 ⊢
             clear hlt
             have y0 : W8.cell? ⟨lt, 0, none⟩ = some (.int .i64 cx) := cell_at hbx rfl
             have y1 : W8.cell? ⟨lt, 1, none⟩ = some (.int .i64 ac.o.va) := cell_at hbx rfl
             have y2 : W8.cell? ⟨lt, 2, none⟩ = some (.int .i64 ac.o.fl.kd) := cell_at hbx rfl
             have y3 : W8.cell? ⟨lt, 3, none⟩ = some (.int .i64 ac.o.fl.cd) := cell_at hbx rfl
             have y4 : W8.cell? ⟨lt, 4, none⟩ = some (.int .i64 ac.o.fl.rn) := cell_at hbx rfl
             have z0 : W8.cell? ⟨ab, 0, none⟩ = some (.int .i64 ac.kd) := cell_at hab rfl
             have z1 : W8.cell? ⟨ab, 1, none⟩ = some (.int .i64 ac.cl) := cell_at hab rfl
             have z2 : W8.cell? ⟨ab, 2, none⟩ = some (.int .i64 ac.tk) := cell_at hab rfl
             have z3 : W8.cell? ⟨ab, 3, none⟩ = some (.int .i64 ac.rn) := cell_at hab rfl
             have z4 : W8.cell? ⟨ab, 4, none⟩ = some (.int .i64 ac.st) := cell_at hab rfl
             have z5 : W8.cell? ⟨ab, 5, none⟩ = some (.int .i64 ac.od) := cell_at hab rfl
             have z6 : W8.cell? ⟨ab, 6, none⟩ = some (.int .u16 ac.k.sp) := cell_at hab rfl
             have z7 : W8.cell? ⟨ab, 7, none⟩ = some (.string ac.k.nm) := cell_at hab rfl
             have z8 : W8.cell? ⟨ab, 8, none⟩ = some (.int .i64 ac.o.va) := cell_at hab rfl
             have z9 : W8.cell? ⟨ab, 9, none⟩ = some (.int .i64 ac.o.fl.kd) := cell_at hab rfl
             have z10 : W8.cell? ⟨ab, 10, none⟩ = some (.int .i64 ac.o.fl.cd) := cell_at hab rfl
             have z11 : W8.cell? ⟨ab, 11, none⟩ = some (.int .i64 ac.o.fl.rn) := cell_at hab rfl
             have HO6 := hid on6
             have HBL := hid hbx
             have HB6 := hid hab
             clear hbx on6 hab
             have HMA := hid HO6.out.mp.at_
             have HMK := hid HO6.out.mp
             have HR6 : Hid (Ta.Tv 0 W8 (.slice (some ⟨t5, 0, none⟩) n5 ct5) (ys.map Prod.fst) (ac.o.va, ac.o.fl.kd, ac.o.fl.cd, ac.o.fl.rn)) := hid (HRW.out.keep TW8.out (fun k hk => by cases hk))
             clear u0 u1 u2 u3 u4
             go_wp2_with (first
         | (at_lookup; refine wpList_mlookok _ rfl _ _ 31 rfl 3 Tryz.underlying31 (zero3 _) mb m5 (wlv (Lv.outs X.L (ys.take k))) rfl HMA.out (cx) rfl HKX.out (.int .i64 ac.rn) HV1.out true HV2.out ?_)
         | (at_delete; refine wpList_kdel (c := KI) _ rfl _ _ 31 rfl 3 Tryz.underlying31 mb m5 (wlv (Lv.outs X.L (ys.take k))) rfl HMK.out (cx) rfl HKX.out ?_; intro ob hM; have TS : Touch [mb] W8 (setBlock W8 mb ob) := touch_setBlock (Touch.refl _ _) (Or.inl (by simp)) ob; have HS := hid (HO6.out.set hM (by have := HOW.out.nm; split <;> omega)).less; have HRS := hid (tv_map HR6.out HMK.out TS); have HBS := hid (TS.keep HB6.out (by simpa using cells_ne HB6.out HMK.out)); clear hM TS))
             go_roundw
             case rel => exact ⟨k + 1, _, by go_num, by omega, hid (by have := HS.out; rw [HNX.out] at this; exact this), HRS, HBS⟩
             case measure => simp [intOf]; omega
            ·have zk : ¬ (k : Int) < (n5 : Int) := by omega
             have HY0 : Hid (OnY w wr g P mb (i + 1)) := hid ⟨_, _, _, by have := HOW.out.less; rw [List.take_of_length_le (by have := HN5.out; omega), ← HFI.out] at this; exact this⟩
             go_wp2_with fail
             have HY := HY0.out
             go_meet
             case rel => exact ⟨rfl, rfl, rfl, rfl, rfl, rfl, rfl, rfl, rfl, rfl, rfl, rfl, rfl, rfl, rfl, rfl, rfl, rfl, rfl, rfl, rfl, rfl, rfl, hid HY⟩
         ·by_cases q9 : κ = 9
          ·skip
           clear_value *
           as_aux_lemma =>
            have HC := hid (HL4.out.send HIA.out tt)
            unfold PT at HC
            have e4 : (κ == 4) = false := by simp [q4]
            have e5 : (κ == 5) = false := by simp [q5]
            have e6 : (κ == 6) = false := by simp [q6]
            have e7 : (κ == 7) = false := by simp [q7]
            have e8 : (κ == 8) = false := by simp [q8]
            have e9 : (κ == 9) = true := by simp [q9]
            clear q4 q5 q6 q7 q8 q9
            go_wp2_with (go_at_call 20; refine HC.out.mono ?_; rintro e w5 ⟨⟨a5, k5, c5, E5, rfl⟩, ⟨M5, on5⟩, kq5⟩; have HO5 := hid on5; clear on5 kq5 z0 z1 z2 z3 z4 z5 z6 z7 z8 z9 z10 z11)
            have HY : OnY w _ g P mb (i + 1) := ⟨_, _, _, by have := HO5.out.less; rw [show wlv X.L = wlv (sndX X tt).L by rw [snd_l]] at this; exact this⟩
            go_meet
            case rel => exact ⟨rfl, rfl, rfl, rfl, rfl, rfl, rfl, rfl, rfl, rfl, rfl, rfl, rfl, rfl, rfl, rfl, rfl, rfl, rfl, rfl, rfl, rfl, rfl, hid HY⟩
          ·skip
           clear_value *
           as_aux_lemma =>
            have HC := hid (HL4.out.join HIA.out tt ac.k.key HWx.out.2.2.2.2.2.2.1 HWx.out.2.1 HWx.out.2.2.1)
            obtain ⟨a1, a2, a3, a4⟩ := HL4.out.sp.iv
            have hjs := jo_seat a1 tt ac.k.key ac.cl ac.tk
            have HK := hid HWx.out.2.1
            have hmy : mayE X tt ac.k.key ac.cl ac.tk = 0 → wlv X.L ac.cl = none := fun h => wlv_no (may0 h).2.2.2.2.2
            unfold PT kv KyA.key at HC
            unfold KyA.key at hjs hmy
            have e4 : (κ == 4) = false := by simp [q4]
            have e5 : (κ == 5) = false := by simp [q5]
            have e6 : (κ == 6) = false := by simp [q6]
            have e7 : (κ == 7) = false := by simp [q7]
            have e8 : (κ == 8) = false := by simp [q8]
            have e9 : (κ == 9) = false := by simp [q9]
            clear q4 q5 q6 q7 q8 q9
            obtain ⟨J, hJ⟩ : ∃ J, J = joJ X tt (ac.k.sp, ac.k.nm) ac.cl ac.tk := ⟨_, rfl⟩
            rw [← hJ] at HC hjs
            clear hJ
            obtain ⟨Y, hY⟩ : ∃ Y, Y = joX X tt (ac.k.sp, ac.k.nm) ac.cl ac.tk := ⟨_, rfl⟩
            rw [← hY] at HC hjs
            clear hY
            generalize mayE X tt (ac.k.sp, ac.k.nm) ac.cl ac.tk = EE at *
            rcases hjs with ⟨hw, hL⟩ | ⟨hw, h0, hL, hr1, hr2, hno⟩
            ·have w3 : (J.how == 3) = false := by simpa using fun e => hw (Or.inl e)
             have w5 : (J.how == 5) = false := by simpa using fun e => hw (Or.inr e)
             have HLL : Hid (wlv X.L = wlv Y.L) := hid (by rw [hL])
             obtain ⟨r0, b0, hr0, hb0, hor⟩ : ∃ (r0 : Int) (b0 : Bool), (wlv X.L ac.cl).getD (.int .i64 0) = .int .i64 r0 ∧ (wlv X.L ac.cl).isSome = b0 ∧ (EE = 0 → b0 = false) := by
              cases hw : wlv X.L ac.cl with
              | none => exact ⟨0, false, rfl, rfl, fun _ => rfl⟩
              | some u =>
               obtain ⟨r, t, e, _⟩ := wlv_mem hw
               exact ⟨r, true, by rw [e]; rfl, rfl, fun e => by rw [hmy e] at hw; cases hw⟩
             have HV1 := hid hr0
             have HV2 := hid hb0
             have HOR := hid hor
             clear hw hL hr0 hb0 hor a1 a2 a3 a4 hmy
             go_upto_region 12 with (go_at_call 12; refine HC.out.mono ?_; rintro e w5 ⟨⟨a5, ln5, c5, rfl⟩, ⟨M5, on5⟩, kq5⟩; have HO5 := hid on5; have HB5 := hid ((kq5 ab (by simp)).trans HB4.out); clear on5 kq5 z0 z1 z2 z3 z4 z5 z6 z7 z8 z9 z10 z11)
             obtain ⟨W6, hW6⟩ : ∃ W, W = w5.alloc (.cells #[.int .i64 J.how, .int .i64 J.run, .bool J.bg, .int .i64 J.o.1, .int .i64 J.o.2.1, .int .i64 J.o.2.2.1, .int .i64 J.o.2.2.2, .slice a5 ln5 c5] 49) := ⟨_, rfl⟩
             have hbx := heap_alloc_new w5 (.cells #[.int .i64 J.how, .int .i64 J.run, .bool J.bg, .int .i64 J.o.1, .int .i64 J.o.2.1, .int .i64 J.o.2.2.1, .int .i64 J.o.2.2.2, .slice a5 ln5 c5] 49)
             have on6 := HO5.out.alloc (.cells #[.int .i64 J.how, .int .i64 J.run, .bool J.bg, .int .i64 J.o.1, .int .i64 J.o.2.1, .int .i64 J.o.2.2.1, .int .i64 J.o.2.2.2, .slice a5 ln5 c5] 49)
             have hab := ((Touch.refl [] w5).alloc (.cells #[.int .i64 J.how, .int .i64 J.run, .bool J.bg, .int .i64 J.o.1, .int .i64 J.o.2.1, .int .i64 J.o.2.2.1, .int .i64 J.o.2.2.2, .slice a5 ln5 c5] 49)).keep HB5.out (by simp)
             have TW6 : Hid (Touch [] w5 W6) := hid (by rw [hW6]; exact (Touch.refl _ _).alloc _)
             rw [← hW6] at hbx on6 hab ⊢
             clear hW6
             obtain ⟨lb, hlb⟩ : ∃ lb, lb = w5.heap.size := ⟨_, rfl⟩
             rw [← hlb] at hbx on6 ⊢
             clear hlb
             have y0 : W6.cell? ⟨lb, 0, none⟩ = some (.int .i64 J.how) := cell_at hbx rfl
             have y1 : W6.cell? ⟨lb, 1, none⟩ = some (.int .i64 J.run) := cell_at hbx rfl
             have y2 : W6.cell? ⟨lb, 2, none⟩ = some (.bool J.bg) := cell_at hbx rfl
             have y3 : W6.cell? ⟨lb, 3, none⟩ = some (.int .i64 J.o.1) := cell_at hbx rfl
             have y4 : W6.cell? ⟨lb, 4, none⟩ = some (.int .i64 J.o.2.1) := cell_at hbx rfl
             have y5 : W6.cell? ⟨lb, 5, none⟩ = some (.int .i64 J.o.2.2.1) := cell_at hbx rfl
             have y6 : W6.cell? ⟨lb, 6, none⟩ = some (.int .i64 J.o.2.2.2) := cell_at hbx rfl
             have y7 : W6.cell? ⟨lb, 7, none⟩ = some (.slice a5 ln5 c5) := cell_at hbx rfl
             have z0 : W6.cell? ⟨ab, 0, none⟩ = some (.int .i64 ac.kd) := cell_at hab rfl
             have z1 : W6.cell? ⟨ab, 1, none⟩ = some (.int .i64 ac.cl) := cell_at hab rfl
             have z2 : W6.cell? ⟨ab, 2, none⟩ = some (.int .i64 ac.tk) := cell_at hab rfl
             have z3 : W6.cell? ⟨ab, 3, none⟩ = some (.int .i64 ac.rn) := cell_at hab rfl
             have z4 : W6.cell? ⟨ab, 4, none⟩ = some (.int .i64 ac.st) := cell_at hab rfl
             have z5 : W6.cell? ⟨ab, 5, none⟩ = some (.int .i64 ac.od) := cell_at hab rfl
             have z6 : W6.cell? ⟨ab, 6, none⟩ = some (.int .u16 ac.k.sp) := cell_at hab rfl
             have z7 : W6.cell? ⟨ab, 7, none⟩ = some (.string ac.k.nm) := cell_at hab rfl
             have z8 : W6.cell? ⟨ab, 8, none⟩ = some (.int .i64 ac.o.va) := cell_at hab rfl
             have z9 : W6.cell? ⟨ab, 9, none⟩ = some (.int .i64 ac.o.fl.kd) := cell_at hab rfl
             have z10 : W6.cell? ⟨ab, 10, none⟩ = some (.int .i64 ac.o.fl.cd) := cell_at hab rfl
             have z11 : W6.cell? ⟨ab, 11, none⟩ = some (.int .i64 ac.o.fl.rn) := cell_at hab rfl
             have HO6 := hid on6
             have HBL := hid hbx
             have HB6 := hid hab
             clear hbx on6 hab
             have HMA := hid HO6.out.mp.at_
             by_cases hz : EE = 0
             ·have hb : b0 = false := HOR.out hz
              have e0 : (EE == 0) = true := by simp [hz]
              subst hb
              clear hz
              go_wp2_with (at_lookup; refine wpList_mlookok _ rfl _ _ 31 rfl 3 Tryz.underlying31 (zero3 _) mb m (wlv X.L) rfl HMA.out (ac.cl) rfl HK.out (.int .i64 r0) HV1.out false HV2.out ?_)
              have HY : OnY w _ g P mb (i + 1) := ⟨_, _, _, by have := HO6.out.less.less; rw [HLL.out] at this; exact this⟩
              go_meet
              case rel => exact ⟨rfl, rfl, rfl, rfl, rfl, rfl, rfl, rfl, rfl, rfl, rfl, rfl, rfl, rfl, rfl, rfl, rfl, rfl, rfl, rfl, rfl, rfl, rfl, hid HY⟩
             ·have e0 : (EE == 0) = false := by simpa using hz
              clear hz
              go_wp2_with (at_lookup; refine wpList_mlookok _ rfl _ _ 31 rfl 3 Tryz.underlying31 (zero3 _) mb m (wlv X.L) rfl HMA.out (ac.cl) rfl HK.out (.int .i64 r0) HV1.out b0 HV2.out ?_)
              have HY : OnY w _ g P mb (i + 1) := ⟨_, _, _, by have := HO6.out.less.less; rw [HLL.out] at this; exact this⟩
              go_meet
              case rel => exact ⟨rfl, rfl, rfl, rfl, rfl, rfl, rfl, rfl, rfl, rfl, rfl, rfl, rfl, rfl, rfl, rfl, rfl, rfl, rfl, rfl, rfl, rfl, rfl, hid HY⟩
            ·have hW := wlv_no hno
             subst h0
             have HV1 : Hid ((wlv X.L ac.cl).getD (.int .i64 0) = .int .i64 0) := hid (by rw [hW]; rfl)
             have HV2 : Hid ((wlv X.L ac.cl).isSome = false) := hid (by rw [hW]; rfl)
             have HLL : Hid (kupd (wlv X.L) ac.cl (.int .i64 J.run) = wlv Y.L) := hid (by rw [hL, wlv_snoc _ _ hno])
             have HHW := hid hw
             clear hw hL hr1 hr2 hno hW a1 a2 a3 a4 hmy
             go_upto_region 12 with (go_at_call 12; refine HC.out.mono ?_; rintro e w5 ⟨⟨a5, ln5, c5, rfl⟩, ⟨M5, on5⟩, kq5⟩; have HO5 := hid on5; have HB5 := hid ((kq5 ab (by simp)).trans HB4.out); clear on5 kq5 z0 z1 z2 z3 z4 z5 z6 z7 z8 z9 z10 z11)
             obtain ⟨W6, hW6⟩ : ∃ W, W = w5.alloc (.cells #[.int .i64 J.how, .int .i64 J.run, .bool J.bg, .int .i64 J.o.1, .int .i64 J.o.2.1, .int .i64 J.o.2.2.1, .int .i64 J.o.2.2.2, .slice a5 ln5 c5] 49) := ⟨_, rfl⟩
             have hbx := heap_alloc_new w5 (.cells #[.int .i64 J.how, .int .i64 J.run, .bool J.bg, .int .i64 J.o.1, .int .i64 J.o.2.1, .int .i64 J.o.2.2.1, .int .i64 J.o.2.2.2, .slice a5 ln5 c5] 49)
             have on6 := HO5.out.alloc (.cells #[.int .i64 J.how, .int .i64 J.run, .bool J.bg, .int .i64 J.o.1, .int .i64 J.o.2.1, .int .i64 J.o.2.2.1, .int .i64 J.o.2.2.2, .slice a5 ln5 c5] 49)
             have hab := ((Touch.refl [] w5).alloc (.cells #[.int .i64 J.how, .int .i64 J.run, .bool J.bg, .int .i64 J.o.1, .int .i64 J.o.2.1, .int .i64 J.o.2.2.1, .int .i64 J.o.2.2.2, .slice a5 ln5 c5] 49)).keep HB5.out (by simp)
             have TW6 : Hid (Touch [] w5 W6) := hid (by rw [hW6]; exact (Touch.refl _ _).alloc _)
             rw [← hW6] at hbx on6 hab ⊢
             clear hW6
             obtain ⟨lb, hlb⟩ : ∃ lb, lb = w5.heap.size := ⟨_, rfl⟩
             rw [← hlb] at hbx on6 ⊢
             clear hlb
             have y0 : W6.cell? ⟨lb, 0, none⟩ = some (.int .i64 J.how) := cell_at hbx rfl
             have y1 : W6.cell? ⟨lb, 1, none⟩ = some (.int .i64 J.run) := cell_at hbx rfl
             have y2 : W6.cell? ⟨lb, 2, none⟩ = some (.bool J.bg) := cell_at hbx rfl
             have y3 : W6.cell? ⟨lb, 3, none⟩ = some (.int .i64 J.o.1) := cell_at hbx rfl
             have y4 : W6.cell? ⟨lb, 4, none⟩ = some (.int .i64 J.o.2.1) := cell_at hbx rfl
             have y5 : W6.cell? ⟨lb, 5, none⟩ = some (.int .i64 J.o.2.2.1) := cell_at hbx rfl
             have y6 : W6.cell? ⟨lb, 6, none⟩ = some (.int .i64 J.o.2.2.2) := cell_at hbx rfl
             have y7 : W6.cell? ⟨lb, 7, none⟩ = some (.slice a5 ln5 c5) := cell_at hbx rfl
             have z0 : W6.cell? ⟨ab, 0, none⟩ = some (.int .i64 ac.kd) := cell_at hab rfl
             have z1 : W6.cell? ⟨ab, 1, none⟩ = some (.int .i64 ac.cl) := cell_at hab rfl
             have z2 : W6.cell? ⟨ab, 2, none⟩ = some (.int .i64 ac.tk) := cell_at hab rfl
             have z3 : W6.cell? ⟨ab, 3, none⟩ = some (.int .i64 ac.rn) := cell_at hab rfl
             have z4 : W6.cell? ⟨ab, 4, none⟩ = some (.int .i64 ac.st) := cell_at hab rfl
             have z5 : W6.cell? ⟨ab, 5, none⟩ = some (.int .i64 ac.od) := cell_at hab rfl
             have z6 : W6.cell? ⟨ab, 6, none⟩ = some (.int .u16 ac.k.sp) := cell_at hab rfl
             have z7 : W6.cell? ⟨ab, 7, none⟩ = some (.string ac.k.nm) := cell_at hab rfl
             have z8 : W6.cell? ⟨ab, 8, none⟩ = some (.int .i64 ac.o.va) := cell_at hab rfl
             have z9 : W6.cell? ⟨ab, 9, none⟩ = some (.int .i64 ac.o.fl.kd) := cell_at hab rfl
             have z10 : W6.cell? ⟨ab, 10, none⟩ = some (.int .i64 ac.o.fl.cd) := cell_at hab rfl
             have z11 : W6.cell? ⟨ab, 11, none⟩ = some (.int .i64 ac.o.fl.rn) := cell_at hab rfl
             have HO6 := hid on6
             have HBL := hid hbx
             have HB6 := hid hab
             clear hbx on6 hab
             have HMA := hid HO6.out.mp.at_
             have HMK := hid HO6.out.mp
             have HML : Hid (m < maxLen) := hid (by have := HO6.out.nm; have := HIA.out; unfold maxLen; omega)
             rcases HHW.out with hw | hw
             ·have w3 : (J.how == 3) = true := by simp [hw]
              have w5 : (J.how == 5) = false := by simp [hw]
              clear hw
              go_wp2_with (first
       | (at_lookup; refine wpList_mlookok _ rfl _ _ 31 rfl 3 Tryz.underlying31 (zero3 _) mb m (wlv X.L) rfl HMA.out (ac.cl) rfl HK.out (.int .i64 0) HV1.out false HV2.out ?_)
       | (at_mapUpdate; refine wpList_kset (c := KI) _ rfl _ _ _ 31 rfl 3 Tryz.underlying31 mb m (wlv X.L) rfl HMK.out HML.out (ac.cl) rfl HK.out (.int .i64 J.run) rfl ?_; intro ob hM; have HS := hid (HO6.out.set hM (by rw [show (wlv X.L ac.cl).isSome = false from HV2.out]; have := HL4.out.nm; simp; omega)); clear hM))
              have HY : OnY w _ g P mb (i + 1) := ⟨_, _, _, by have := HS.out.less.less; rw [HLL.out] at this; exact this⟩
              go_meet
              case rel => exact ⟨rfl, rfl, rfl, rfl, rfl, rfl, rfl, rfl, rfl, rfl, rfl, rfl, rfl, rfl, rfl, rfl, rfl, rfl, rfl, rfl, rfl, rfl, rfl, hid HY⟩
             ·have w5 : (J.how == 5) = true := by simp [hw]
              have w3 : (J.how == 3) = false := by simp [hw]
              clear hw
              go_wp2_with (first
       | (at_lookup; refine wpList_mlookok _ rfl _ _ 31 rfl 3 Tryz.underlying31 (zero3 _) mb m (wlv X.L) rfl HMA.out (ac.cl) rfl HK.out (.int .i64 0) HV1.out false HV2.out ?_)
       | (at_mapUpdate; refine wpList_kset (c := KI) _ rfl _ _ _ 31 rfl 3 Tryz.underlying31 mb m (wlv X.L) rfl HMK.out HML.out (ac.cl) rfl HK.out (.int .i64 J.run) rfl ?_; intro ob hM; have HS := hid (HO6.out.set hM (by rw [show (wlv X.L ac.cl).isSome = false from HV2.out]; have := HL4.out.nm; simp; omega)); clear hM))
              have HY : OnY w _ g P mb (i + 1) := ⟨_, _, _, by have := HS.out.less.less; rw [HLL.out] at this; exact this⟩
              go_meet
              case rel => exact ⟨rfl, rfl, rfl, rfl, rfl, rfl, rfl, rfl, rfl, rfl, rfl, rfl, rfl, rfl, rfl, rfl, rfl, rfl, rfl, rfl, rfl, rfl, rfl, hid HY⟩
    case rest =>
     obtain ⟨rfl, rfl, rfl, rfl, rfl, rfl, rfl, rfl, rfl, rfl, rfl, rfl, rfl, rfl, rfl, rfl, rfl, rfl, rfl, rfl, rfl, rfl, rfl, HC⟩ := hcut
     obtain ⟨Y, N6, m6, on6⟩ := HC.out
     have HO := hid on6
     have HNW := hid on6.now
     unfold PT at HNW
     obtain ⟨W9, hrun, rg, t9, s9⟩ := on6.mp.range (t := 31) Tryz.underlying31
     have hr9 : wc.heap.size < W9.heap.size := by omega
     have HO9 := hid (on6.more t9 rfl hr9)
     have hwc : w.heap.size ≤ wc.heap.size := on6.tch.size
     have HRG := hid rg
     clear on6 HC t9 s9 hr9 rg HL4 HB4 HWx z0 z1 z2 z3 z4 z5 z6 z7 z8 z9 z10 z11
     generalize hrr : wc.heap.size = r9 at *
     clear hrr
     go_wp2_with (go_at_call 32; refine HNW.out.mono ?_; rintro e w7 ⟨rfl, e7⟩; rw [e7]; clear e7 w7)
     clear hrun
     go_loopw [32] (fun s32 wx => ∃ (cnt : Nat) (left : Int → Prop), Hid (RgK KI wx mb r9 m6 (wlv Y.L) left cnt) ∧ Hid (On w wx g P mb [r9] Y N6 (i + 1) m6 (wlv Y.L))) (fun _ wx => wx.rangeLeft mb r9)
     case atStart => exact ⟨_, _, HRG, HO9⟩
     case round =>
      clear HRG HO9
      obtain ⟨cnt, left, HG, HX⟩ := hrel
      rcases HG.out.next 0 with ⟨hc0, hl0, hnx⟩ | ⟨cn, v, w8, cnt1, hok, hlk, hfk, hnx, hrg1, hlt1, t8, hs8, hen⟩
      ·clear HG
       go_wp2_with fail
       go_roundw
       case rel => exact ⟨i + 1, by go_num, by omega, Y.now, rfl, hid ⟨Y, N6, m6, HX.out.less, rfl⟩⟩
       case measure => simp [intOf]; omega
      ·obtain ⟨rx, tx, hv, hmem⟩ := wlv_mem hfk
       subst hv
       have hne := HG.out.ne
       have hx8 := HX.out.beside t8 hne hwc
       have HX8 := hid hx8
       have HWT := hid (hx8.waiters (by have := HLe.out; omega) hmem)
       have HG1 := hid hrg1
       have HLT := hid hlt1
       have HCN := hid HG.out.count
       unfold PT at HWT
       generalize Ta.whoOf Y.T rx = us at *
       clear hok hlk hfk hrg1 hlt1 t8 hs8 hmem hx8 hne HG HX
       have hnx2 : (Instr.next (.pointer (some ⟨r9, 0, none⟩)) false 0).run Tryz.prog wr = .ok (.tuple #[.bool true, .int .i64 cn, .int .i64 rx]) w8 := hnx
       have hen2 : (Instr.entry (.pointer (some ⟨r9, 0, none⟩))).run Tryz.prog w8 = .ok (.tuple #[.int .i64 cn, .int .i64 rx]) w8 := hen
       clear hnx hen
       go_wp2_with (go_at_call 14; refine HWT.out.mono ?_; rintro e w10 ⟨a10, k10, rfl, rd10, hin, hln, t10⟩; have HRD := hid rd10; have HIN := hid hin; have HLN := hid hln; have T10 := hid t10; clear rd10 hin hln t10)
       clear hnx2 hen2 HWT
       obtain ⟨n10, hn10⟩ : ∃ n, n = us.length := ⟨_, rfl⟩
       rw [← hn10] at HRD HLN ⊢
       have HN10 := hid hn10
       have zn10 : (n10 : Int) ≤ 3000000000000 := by have := HLN.out; omega
       clear hn10
       obtain ⟨wp, rfl⟩ : ∃ wp, wp = wr := ⟨_, rfl⟩
       go_loopw [34, 252] (fun s34 s252 wx => ∃ j : Nat, s252 = .int .i64 (j : Int) ∧ j ≤ n10 ∧ s34 = .bool (decide (cn ∈ us.take j)) ∧ Hid (wx = w10)) (fun _ j _ => n10 - (intOf j).toNat)
       case atStart => exact ⟨0, rfl, Nat.zero_le _, by simp, hid rfl⟩
       case round =>
        obtain ⟨j, rfl, hj, rfl, HE⟩ := hrel
        obtain rfl := HE.out
        clear HE
        by_cases hjl : j < n10
        ·have zj : (j : Int) < (n10 : Int) := by omega
         have hj2 : j < us.length := by have := HN10.out; omega
         obtain ⟨g1, ea, y1⟩ := HRD.out.cell (i := j) hj2
         subst ea
         have htk : us.take (j + 1) = us.take j ++ [us[j]] := List.take_succ_eq_append_getElem hj2
         have HTK : Hid (decide (cn ∈ us.take (j + 1)) = (decide (cn ∈ us.take j) || decide (us[j] = cn))) := hid (by rw [← Bool.decide_or]; exact decide_eq_decide.2 (by rw [htk, List.mem_append, List.mem_singleton]; exact or_congr Iff.rfl eq_comm))
         clear htk
         generalize us[j] = uj at *
         cases hB : decide (cn ∈ us.take j) with
         | true =>
          rw [hB] at HTK
          clear hB
          go_wp2_with fail
          go_roundw
          case rel => exact ⟨j + 1, by go_num, by omega, by rw [HTK.out]; rfl, hid trivial⟩
          case measure => simp [intOf]; omega
         | false =>
          rw [hB] at HTK
          clear hB
          by_cases hu : uj = cn
          ·have hu2 : (uj == cn) = true := by simp [hu]
           have HT2 := hid (show decide (cn ∈ us.take (j + 1)) = true by rw [HTK.out]; simp [hu])
           clear hu HTK
           go_wp2_with fail
           go_roundw
           case rel => exact ⟨j + 1, by go_num, by omega, by rw [HT2.out], hid trivial⟩
           case measure => simp [intOf]; omega
          ·have hu2 : (uj == cn) = false := by simp [hu]
           have HT2 := hid (show decide (cn ∈ us.take (j + 1)) = false by rw [HTK.out]; simp [hu])
           clear hu HTK
           go_wp2_with fail
           go_roundw
           case rel => exact ⟨j + 1, by go_num, by omega, by rw [HT2.out], hid trivial⟩
           case measure => simp [intOf]; omega
        ·have zj : ¬ (j : Int) < (n10 : Int) := by omega
         have hT : decide (cn ∈ us.take j) = true := by rw [List.take_of_length_le (by have := HN10.out; omega)]; simpa using HIN.out
         rw [hT]
         clear hT
         go_wp2_with fail
         go_roundw
         case rel => exact ⟨cnt1, _, hid (HG1.out.keep T10.out (by simp) (by simp)), hid (HX8.out.keep0 T10.out)⟩
         case measure =>
          rw [(HG1.out.keep T10.out (by simp) (by simp)).count, HCN.out]
          exact HLT.out
   ·have zi : ¬ (i : Int) < (A : Int) := by omega
    obtain ⟨X, N, m, on, hnow⟩ := HR.out
    have HT := hid on.tch
    clear on hnow HR
    go_wp2
    go_ret
    exact ⟨rfl, HT.out⟩
 ·have HN := hid (HNo.out (by simpa using hcc))
  clear HYe HNo
  go_upto_region 2 with (go_at_call 8; refine HN.out.mono ?_; rintro e w1 ⟨rfl, t1⟩; have T1 := hid t1; clear t1 c0 c1 c2 c3 c4 c5 c6)
  go_upto_region 3 with (go_at_call 9; refine (awake_ _).mono ?_; rintro e w2 ⟨rfl, t2⟩; have T2 := hid t2; clear t2)
  go_wp2_with (go_at_call 9; refine (awake_ _).mono ?_; rintro e w3 ⟨rfl, t3⟩; have T3 := hid t3; clear t3)
  go_ret
  exact ⟨rfl, ((TV.out.trans' T1.out).trans' T2.out).trans' T3.out⟩
end Go.Proofs.YtkfophlhpjbmgaaGreat
