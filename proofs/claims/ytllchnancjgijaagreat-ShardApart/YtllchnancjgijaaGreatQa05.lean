/- The contract of tell: each of some callers is told an outcome. -/
import Derived.Test.YtllchnancjgijaaGreatQa03
set_option linter.unusedVariables false
set_option linter.unusedSimpArgs false
set_option maxRecDepth 100000
namespace Go.Proofs.YtllchnancjgijaaGreat.Ta
open Go.RowKit Go.Maps Go.ChangeMaps
theorem info70 : (Tryz.prog.info? 117).map (fun i => (i.zero, i.size, i.bytes)) = some (some (.agg #[.int .i64 0, .int .i64 0, .int .i64 0, .int .i64 0, .int .i64 0]), 5, 40) := by kernel_rfl
theorem mk52 (w : World) (n : Nat) (h : n ≤ 3000000000000) : (Instr.makeSlice 50 (.int .i64 (n : Int)) (.int .i64 (n : Int))).run Tryz.prog w = .ok (.slice (some ⟨w.heap.size, 0, none⟩) n n) (w.alloc (.cells (madeCells #[.int .i64 0, .int .i64 0, .int .i64 0, .int .i64 0, .int .i64 0] (n * 5)) 117)) := by
 obtain ⟨i3, hi3, hz0, hz1, hz2⟩ := info_parts info70
 have := run_make (P := Tryz.prog) w 50 117 i3 _ Tryz.underlying50 hi3 hz0 .i64 .i64 (n : Int) (n : Int) (by omega) (by omega) (by rw [hz2]; omega) (by omega)
 rw [hz1] at this
 simpa [Value.cells] using this
def Tc (cur : Array Value) (i : Nat) (x : Int) (o : O) : Prop := cur[i * 5]? = some (.int .i64 x) ∧ cur[i * 5 + 1]? = some (.int .i64 o.1) ∧ cur[i * 5 + 2]? = some (.int .i64 o.2.1) ∧ cur[i * 5 + 3]? = some (.int .i64 o.2.2.1) ∧ cur[i * 5 + 4]? = some (.int .i64 o.2.2.2)
structure TdS (w wr : World) (t : Nat) (xs : List Int) (o : O) (j : Nat) : Prop where
 bl : ∃ cur, wr.heap[t]? = some (.cells cur 117 (0, 0)) ∧ cur.size = xs.length * 5 ∧ ∀ i x, i < j → xs[i]? = some x → Tc cur i x o
 tc : Touch [] w wr
def st5 (wr : World) (t p : Nat) (x : Int) (o : O) : World := ((((wr.setCell ⟨t, p, none⟩ (.int .i64 x)).setCell ⟨t, p + 1, none⟩ (.int .i64 o.1)).setCell ⟨t, p + 2, none⟩ (.int .i64 o.2.1)).setCell ⟨t, p + 3, none⟩ (.int .i64 o.2.2.1)).setCell ⟨t, p + 4, none⟩ (.int .i64 o.2.2.2)
theorem TdS.step {w wr : World} {t : Nat} {xs : List Int} {o : O} {j : Nat} {x : Int} (h : TdS w wr t xs o j) (ht : w.heap.size ≤ t) (hx : xs[j]? = some x) : TdS w (st5 wr t (j * 5) x o) t xs o (j + 1) := by
 obtain ⟨⟨cur, hb, hs, hc⟩, tc⟩ := h
 have hj := (List.getElem?_eq_some_iff.1 hx).1
 refine ⟨⟨_, bset (bset (bset (bset (bset hb _) _) _) _) _, by simp [hs], fun i y hi hy => ?_⟩, ?_⟩
 ·by_cases e : i = j
  ·subst e
   rw [hx] at hy
   cases hy
   unfold Tc
   simp only [Array.getElem?_setIfInBounds, Array.size_setIfInBounds, hs]
   refine ⟨?_, ?_, ?_, ?_, ?_⟩ <;> (repeat (first | rw [if_pos trivial] | rw [if_pos (by omega)] | rw [if_neg (by omega)])) <;> (try rfl)
  ·obtain ⟨q0, q1, q2, q3, q4⟩ := hc i y (by omega) hy
   unfold Tc
   simp only [Array.getElem?_setIfInBounds, Array.size_setIfInBounds, hs]
   refine ⟨?_, ?_, ?_, ?_, ?_⟩ <;> (repeat (rw [if_neg (by omega)])) <;> assumption
 ·unfold st5
  repeat (first | exact tc | (refine Touch.setCell ?_ (Or.inr ht) _))
def TdE (e : Ending) (w w' : World) (xs : List Int) (o : O) : Prop := ∃ t, e = .returned (.slice (some ⟨t, 0, none⟩) xs.length xs.length) ∧ w.heap.size ≤ t ∧ TdS w w' t xs o xs.length
theorem TdS.five {w wr : World} {t : Nat} {xs : List Int} {o : O} {n j : Nat} (h : TdS w wr t xs o n) (hj : j < xs.length) : ∃ z0 z1 z2 z3 z4, wr.cell? ⟨t, j * 5, none⟩ = some z0 ∧ wr.cell? ⟨t, j * 5 + 1, none⟩ = some z1 ∧ wr.cell? ⟨t, j * 5 + 2, none⟩ = some z2 ∧ wr.cell? ⟨t, j * 5 + 3, none⟩ = some z3 ∧ wr.cell? ⟨t, j * 5 + 4, none⟩ = some z4 ∧ ∀ i, wr.frozen? ⟨t, i, none⟩ = false := by
 obtain ⟨⟨cur, hb, hs, hc⟩, tc⟩ := h
 have q : ∀ k, k < 5 → cur[j * 5 + k]? = some (cur.getD (j * 5 + k) undef) := fun k hk => by
  have : j * 5 + k < cur.size := by omega
  simp [Array.getD, this]
 exact ⟨_, _, _, _, _, cell_at hb (q 0 (by omega)), cell_at hb (q 1 (by omega)), cell_at hb (q 2 (by omega)), cell_at hb (q 3 (by omega)), cell_at hb (q 4 (by omega)), fun i => froz_at hb i⟩
set_option maxHeartbeats 4000000 in
set_option maxRecDepth 100000 in
theorem tell33 (w : World) (g cap : Nat) (xs : List Int) (o : O) (h : w.ownsRow 0 3 1 (.slice (some ⟨g, 0, none⟩) xs.length cap) xs.length (ints xs)) (hle : xs.length ≤ 3000000000000) : Calls Tryz.prog 166 #[.slice (some ⟨g, 0, none⟩) xs.length cap, ov o] w fun e w' => TdE e w w' xs o := by
 obtain ⟨V, hV⟩ : ∃ V, V = w.alloc (.cells #[.int .i64 o.1, .int .i64 o.2.1, .int .i64 o.2.2.1, .int .i64 o.2.2.2] 39) := ⟨_, rfl⟩
 have TV : Hid (Touch [] w V) := by rw [hV]; exact (Touch.refl _ _).alloc _
 have HBX : V.heap[w.heap.size]? = some (.cells #[.int .i64 o.1, .int .i64 o.2.1, .int .i64 o.2.2.1, .int .i64 o.2.2.2] 39 (0, 0)) := by rw [hV]; exact heap_alloc_new w _
 have hsz : V.heap.size = w.heap.size + 1 := by rw [hV]; simp
 have hmk := mk52 V xs.length hle
 have HQ : Hid (∀ w', Touch [] V w' → w'.cell? ⟨w.heap.size, 0, none⟩ = some (.int .i64 o.1) ∧ w'.cell? ⟨w.heap.size, 1, none⟩ = some (.int .i64 o.2.1) ∧ w'.cell? ⟨w.heap.size, 2, none⟩ = some (.int .i64 o.2.2.1) ∧ w'.cell? ⟨w.heap.size, 3, none⟩ = some (.int .i64 o.2.2.2)) := fun w' T => by
  have := T.keep HBX (by simp)
  exact ⟨cell_at this rfl, cell_at this rfl, cell_at this rfl, cell_at this rfl⟩
 have HG : Hid (∀ w', Touch [] V w' → ∀ i x, xs[i]? = some x → w'.cell? ⟨g, i, none⟩ = some (.int .i64 x)) := fun w' T i x hx => own_cell (own_touch h (TV.out.trans' T) (fun _ _ e => by cases e)) (by simp [ints, hx])
 have H0 : Hid (TdS V (V.alloc (.cells (madeCells #[.int .i64 0, .int .i64 0, .int .i64 0, .int .i64 0, .int .i64 0] (xs.length * 5)) 117)) V.heap.size xs o 0) := ⟨⟨_, heap_alloc_new V _, size_madeCells _ _, fun i x hi => absurd hi (Nat.not_lt_zero _)⟩, (Touch.refl _ _).alloc _⟩
 have HX : Hid (∀ i, i < xs.length → ∃ x, xs[i]? = some x) := fun i hi => ⟨_, List.getElem?_eq_getElem hi⟩
 have HE : Hid (∀ w', TdS V w' V.heap.size xs o xs.length → TdE (.returned (.slice (some ⟨V.heap.size, 0, none⟩) xs.length xs.length)) w w' xs o) := fun w' r => ⟨_, rfl, TV.out.size, ⟨r.bl, TV.out.trans' r.tc⟩⟩
 have HLE := hid hle
 clear h hle HBX
 unfold ov
 go_enter Tryz.func166, Tryz.ntmps166
 go_upto_region 1 with fail
 rw [← hV]
 clear hV TV hsz
 go_upto_region 3 with fail
 have HV : Hid (V.heap.size ≤ V.heap.size) := Nat.le_refl _
 have HST : Hid (∀ wr j x, TdS V wr V.heap.size xs o j → xs[j]? = some x → TdS V (st5 wr V.heap.size (j * 5) x o) V.heap.size xs o (j + 1)) := fun wr j x r hx => r.step (Nat.le_refl _) hx
 have HST2 := HST
 obtain ⟨t, ht⟩ : ∃ t, t = V.heap.size := ⟨_, rfl⟩
 rw [← ht] at H0 HE HST hmk ⊢
 clear ht HV HST2 hmk
 go_loopw [13] (fun i wr => ∃ j : Nat, i = .int .i64 (j : Nat) ∧ j ≤ xs.length ∧ Hid (TdS V wr t xs o j)) (fun i _ => xs.length - (intOf i).toNat)
 case atStart => exact ⟨0, rfl, Nat.zero_le _, H0⟩
 case round =>
  clear H0
  obtain ⟨j, rfl, hj, HR⟩ := hrel
  by_cases hlt : j < xs.length
  ·have zk : (j : Int) < (xs.length : Int) := by omega
   have zL : (xs.length : Int) < 9223372036854775807 := by have := HLE.out; omega
   obtain ⟨x, hx⟩ := HX.out j hlt
   obtain ⟨z0, z1, z2, z3, z4, a0, a1, a2, a3, a4, ff⟩ := HR.out.five hlt
   obtain ⟨b0, b1, b2, b3⟩ := HQ.out wr HR.out.tc
   have hg := HG.out wr HR.out.tc j x hx
   have HN := hid (HST.out wr j x HR.out hx)
   unfold st5 at HN
   clear hx HR
   go_wp2
   go_roundw
   case rel => exact ⟨j + 1, by go_num, by omega, HN⟩
   case measure => simp [intOf]; omega
  ·have e' : j = xs.length := by omega
   subst e'
   have HZ := hid (HE.out _ HR.out)
   clear hj hlt
   go_wp2
   go_ret
   exact HZ.out
end Go.Proofs.YtllchnancjgijaaGreat.Ta
/- The contract of End: all who wait are told the same, and nobody waits any more. -/
namespace Go.Proofs.YtllchnancjgijaaGreat.Ta
open Go.RowKit Go.Maps Go.ChangeMaps
def Tv (B : Nat) (w : World) (v : Value) (xs : List Int) (o : O) : Prop := ∃ a c, v = .slice a xs.length c ∧ (xs = [] ∨ ∃ t cur, a = some ⟨t, 0, none⟩ ∧ B ≤ t ∧ w.heap[t]? = some (.cells cur 117 (0, 0)) ∧ ∀ i x, xs[i]? = some x → Tc cur i x o)
theorem Tv.nil (B : Nat) (w : World) (o : O) : Tv B w (.slice none 0 0) [] o := ⟨none, 0, rfl, Or.inl rfl⟩
theorem Tv.keep {B : Nat} {w w' : World} {v : Value} {xs : List Int} {o : O} {F : List Nat} (h : Tv B w v xs o) (T : Touch F w w') (hF : ∀ k, k ∈ F → k < B ∨ ∀ cur, w.heap[k]? ≠ some (.cells cur 117 (0, 0))) : Tv B w' v xs o := by
 obtain ⟨a, c, e, h1 | ⟨t, cur, e1, h2, h3, h4⟩⟩ := h
 ·exact ⟨a, c, e, Or.inl h1⟩
 ·refine ⟨a, c, e, Or.inr ⟨t, cur, e1, h2, T.keep h3 (fun q => ?_), h4⟩⟩
  rcases hF t q with q1 | q1
  ·omega
  ·exact q1 cur h3
theorem Tv.keep0 {B : Nat} {w w' : World} {v : Value} {xs : List Int} {o : O} (h : Tv B w v xs o) (T : Touch [] w w') : Tv B w' v xs o := h.keep T (fun _ q => by cases q)
section
variable {w w' : World} {b : Nat} {R : Rn} {sl mp : Value} {k c e : Bool} {o : O}
theorem Rc.set10 (h : Rc w b R sl mp k c e o) (v : Int) : Rc (w.setCell ⟨b, 10, none⟩ (.int .i64 v)) b R sl mp k c e (v, o.2.1, o.2.2.1, o.2.2.2) := ⟨bset h.bl _⟩
theorem Rc.set11 (h : Rc w b R sl mp k c e o) (v : Int) : Rc (w.setCell ⟨b, 11, none⟩ (.int .i64 v)) b R sl mp k c e (o.1, v, o.2.2.1, o.2.2.2) := ⟨bset h.bl _⟩
theorem Rc.set12 (h : Rc w b R sl mp k c e o) (v : Int) : Rc (w.setCell ⟨b, 12, none⟩ (.int .i64 v)) b R sl mp k c e (o.1, o.2.1, v, o.2.2.2) := ⟨bset h.bl _⟩
theorem Rc.set13 (h : Rc w b R sl mp k c e o) (v : Int) : Rc (w.setCell ⟨b, 13, none⟩ (.int .i64 v)) b R sl mp k c e (o.1, o.2.1, o.2.2.1, v) := ⟨bset h.bl _⟩
def endA (w : World) (b : Nat) (o : O) : World := ((((w.setCell ⟨b, 9, none⟩ (.bool true)).setCell ⟨b, 10, none⟩ (.int .i64 o.1)).setCell ⟨b, 11, none⟩ (.int .i64 o.2.1)).setCell ⟨b, 12, none⟩ (.int .i64 o.2.2.1)).setCell ⟨b, 13, none⟩ (.int .i64 o.2.2.2)
def endW (w : World) (b : Nat) : World := ((w.setCell ⟨b, 5, none⟩ (.slice none 0 0)).setCell ⟨b, 6, none⟩ (.map none)).setCell ⟨b, 7, none⟩ (.bool false)
theorem Rc.endA (h : Rc w b R sl mp k c e o) (p : O) : Rc (endA w b p) b R sl mp k c true p := by
 have := ((((h.set9 true).set10 p.1).set11 p.2.1).set12 p.2.2.1).set13 p.2.2.2
 exact this
theorem Rc.endW (h : Rc w b R sl mp k c e o) : Rc (endW w b) b R (.slice none 0 0) (.map none) false c e o := ((h.set5 _).set6 _).set7 _
theorem touch_endA (w : World) (b : Nat) (o : O) : Touch [b] w (endA w b o) := by
 unfold YtllchnancjgijaaGreat.Ta.endA
 exact (((((Touch.refl _ _).setCell (Or.inl (by simp)) _).setCell (Or.inl (by simp)) _).setCell (Or.inl (by simp)) _).setCell (Or.inl (by simp)) _).setCell (Or.inl (by simp)) _
theorem touch_endW (w : World) (b : Nat) : Touch [b] w (endW w b) := by
 unfold YtllchnancjgijaaGreat.Ta.endW
 exact (((Touch.refl _ _).setCell (Or.inl (by simp)) _).setCell (Or.inl (by simp)) _).setCell (Or.inl (by simp)) _
end
def EnE (e : Ending) (w w' : World) (b : Nat) (F : List Nat) (R : Rn) (S : St) (o : O) (N : Nat) : Prop := ∃ v, e = .returned (.tuple #[v, .int .i64 (endE S o)]) ∧ Tv w.heap.size w' v (endL S o) o ∧ RqE w w' b F R (endS S o) N
section
variable (w : World) (b N : Nat) (F : List Nat) (R : Rn) (S : St)
set_option maxHeartbeats 4000000 in
set_option maxRecDepth 100000 in
theorem end11 (h : Rq w b F R S N) (hN : N ≤ 3000000000000) (o : O) : Calls Tryz.prog 114 #[PT b, ov o] w fun e w' => EnE e w w' b F R S o N := by
 obtain ⟨V, hV⟩ : ∃ V, V = w.alloc (.cells #[.int .i64 o.1, .int .i64 o.2.1, .int .i64 o.2.2.1, .int .i64 o.2.2.2] 39) := ⟨_, rfl⟩
 have TV : Hid (Touch [] w V) := by rw [hV]; exact (Touch.refl _ _).alloc _
 have HBX : V.heap[w.heap.size]? = some (.cells #[.int .i64 o.1, .int .i64 o.2.1, .int .i64 o.2.2.1, .int .i64 o.2.2.2] 39 (0, 0)) := by rw [hV]; exact heap_alloc_new w _
 have hv := h.keep0 TV.out
 obtain ⟨sl', mp', ⟨c0, c1, c2, c3, c4, c5, c6, c7, c8, c9, c10, c11, c12, c13⟩, f7⟩ := hv.cs
 clear c0 c1 c2 c3 c4 c5 c6 c7 c8 c10 c11 c12 c13 f7
 have HS : Hid (∀ w', Touch [] V w' → RqE w w' b F R S N) := fun w' T => ⟨F, h.keep0 (TV.out.trans' T), (TV.out.trans' T).mono (fun _ q => by cases q), Nf.refl _ _⟩
 cases hE : S.ended with
 | true =>
  have e1 : endE S o = 110 := by simp [endE, hE]
  have e2 : endS S o = S := by unfold endS; rw [e1]; simp
  have e3 : endL S o = [] := by unfold endL; rw [e1]; simp
  unfold EnE
  rw [e1, e2, e3]
  rw [hE] at c9
  have HX := hid (HS.out V (Touch.refl _ _))
  clear h hv e1 e2 e3 hE HS HBX TV
  rw [hV] at c9 HX
  unfold PT ov
  clear hV
  go_enter Tryz.func114, Tryz.ntmps114
  go_wp2
  exact bodyPost_ret (v := .tuple #[.slice none 0 0, .int .i64 110]) (by simp [results, Tryz.results114, go_sem]) rfl ⟨_, rfl, Tv.nil _ _ _, HX.out⟩
 | false =>
  have HR := hid (fun w => right32 w o)
  rw [hE] at c9
  have B0 : ∀ w', Touch [] V w' → w'.heap[w.heap.size]? = some (.cells #[.int .i64 o.1, .int .i64 o.2.1, .int .i64 o.2.2.1, .int .i64 o.2.2.2] 39 (0, 0)) := fun w' T => T.keep HBX (by simp)
  have HQ : Hid (∀ w', Touch [] V w' → w'.cell? ⟨w.heap.size, 0, none⟩ = some (.int .i64 o.1) ∧ w'.cell? ⟨w.heap.size, 1, none⟩ = some (.int .i64 o.2.1) ∧ w'.cell? ⟨w.heap.size, 2, none⟩ = some (.int .i64 o.2.2.1) ∧ w'.cell? ⟨w.heap.size, 3, none⟩ = some (.int .i64 o.2.2.2)) := fun w' T => ⟨cell_at (B0 w' T) rfl, cell_at (B0 w' T) rfl, cell_at (B0 w' T) rfl, cell_at (B0 w' T) rfl⟩
  clear B0
  obtain ⟨i0, i1, i2, i3⟩ := HQ.out V (Touch.refl _ _)
  cases hr : right o with
  | false =>
   have e1 : endE S o = 30 := by simp [endE, hE, hr]
   have e2 : endS S o = S := by unfold endS; rw [e1]; simp
   have e3 : endL S o = [] := by unfold endL; rw [e1]; simp
   unfold EnE
   rw [e1, e2, e3]
   rw [hr] at HR
   clear h hv e1 e2 e3 hE hr HBX TV HQ
   unfold PT
   unfold ov at *
   go_enter Tryz.func114, Tryz.ntmps114
   go_upto_region 1 with fail
   rw [← hV]
   clear hV
   go_wp2_with (go_at_call 165; refine (HR.out _).mono ?_; rintro e w2 ⟨rfl, t2⟩; have X2 := hid (HS.out _ t2); clear t2)
   exact bodyPost_ret (v := .tuple #[.slice none 0 0, .int .i64 30]) (by simp [results, Tryz.results114, go_sem]) rfl ⟨_, rfl, Tv.nil _ _ _, X2.out⟩
  | true =>
   have e1 : endE S o = 0 := by simp [endE, hE, hr]
   have e2 : endS S o = { S with who := [], ended := true, out := o } := by unfold endS; rw [e1]; simp
   have e3 : endL S o = S.who := by unfold endL; rw [e1]; simp
   have hiv := h.iv.end_ o
   rw [e2] at hiv
   unfold EnE
   rw [e1, e2, e3]
   rw [hr] at HR
   have HLW : Hid (S.who.length ≤ 3000000000000) := Nat.le_trans h.wlen hN
   obtain ⟨sl, m, cs, rfl, hl, hw, hcl, _⟩ := h
   have hlv := hl.keep0 TV.out
   have HA : Hid (∀ w', Touch [] V w' → Calls Tryz.prog 167 #[PL b] w' fun e w2 => AlE e w' w2 S.who) := fun w' T => by
    rw [← hw]
    exact all34 w' b R sl m cs _ _ _ _ (hlv.keep0 T) (by omega)
   have HG : Hid (∀ w', Touch [] V w' → Rc w' b R sl (.map m) (S.kept && !S.ended) S.canc S.ended S.out) := fun w' T => (hlv.keep0 T).rc
   have HBX2 := hid HBX
   have HFN : Hid (∀ w4 t, Touch [] V w4 → ∀ w3, w3.heap.size ≤ t → Touch [] V w3 → TdS w3 w4 t S.who o S.who.length →
     Tv w.heap.size (endW (endA w4 b o) b) (.slice (some ⟨t, 0, none⟩) S.who.length S.who.length) S.who o ∧ RqE w (endW (endA w4 b o) b) b (fpR b sl m) R { S with who := [], ended := true, out := o } N) := fun w4 t T w3 z4 T3 r4 => by
    have hrc := HG.out w4 T
    have TB : Touch [b] w4 (endW (endA w4 b o) b) := (touch_endA _ _ _).trans' (touch_endW _ _)
    have hbl := (hrc.endA o).endW
    refine ⟨?_, fpR b (.slice none 0 0) none, ⟨_, _, [], rfl, ⟨by simpa using hbl, Ln.nil _⟩, rfl, Nat.zero_le _, hiv⟩, ((TV.out.trans' T).mono (fun _ q => by cases q)).trans' (TB.mono (fun q hq => ?_)), fun q hq => ?_⟩
    ·obtain ⟨⟨cur, q1, q2, q3⟩, q4⟩ := r4
     have hsz := Nat.le_trans TV.out.size (Nat.le_trans T3.size z4)
     refine (show Tv w.heap.size w4 _ S.who o from ⟨_, _, rfl, Or.inr ⟨t, cur, rfl, hsz, q1, fun i x hx => q3 i x (List.getElem?_eq_some_iff.1 hx).1 hx⟩⟩).keep TB (fun k hk => Or.inl ?_)
     simp only [List.mem_singleton] at hk
     rw [hk]
     exact hl.rc.lt
    ·simp only [List.mem_singleton] at hq; exact mem_fpR.2 (Or.inl hq)
    ·rcases mem_fpR.1 hq with q1 | q1 | q1
     ·exact Or.inl (mem_fpR.2 (Or.inl q1))
     ·cases q1
     ·cases q1
   have hbw := hl.rc.lt
   have HBL := hid hbw
   clear hv e1 e2 e3 hE hr HBX hl hlv hiv hw hcl HS TV hbw
   unfold PT
   unfold PL at HA
   unfold ov at HR
   unfold ov
   go_enter Tryz.func114, Tryz.ntmps114
   go_upto_region 1 with fail
   rw [← hV]
   clear hV
   go_upto_region 7 with (go_at_call 165; refine (HR.out _).mono ?_; rintro e w2 ⟨rfl, t2⟩; have T2 := hid t2; clear t2)
   have B0 := fun w' T => (HQ.out w' T).1
   have B1 := fun w' T => (HQ.out w' T).2.1
   have B2 := fun w' T => (HQ.out w' T).2.2.1
   have B3 := fun w' T => (HQ.out w' T).2.2.2
   have s0 : Touch [] V w2.drew := T2.out.drew
   clear i0 i1 i2 i3 c9
   refine wp_region_H (S := fun w' => Touch [] V w') (by kernel_rfl) ?_
   refine wpH_take (i := 0) (v := (.pointer (some ⟨b, 0, none⟩))) (some 19) rfl rfl (by kernel_rfl) (by kernel_rfl) (by kernel_rfl) (fun _ _ _ h => h) (Or.inl ⟨by rfl, fun w' hS => (by go_simp)⟩) s0 ?_
   try simp only [Go.Act.put, Zx, Zy, Zz]
   refine wpH_take (i := 1) (v := (.pointer (some ⟨b, 0, none⟩))) (some 20) rfl rfl (by kernel_rfl) (by kernel_rfl) (by kernel_rfl) (fun _ _ _ h => h) (Or.inl ⟨by rfl, fun w' hS => (by go_simp)⟩) s0 ?_
   try simp only [Go.Act.put, Zx, Zy, Zz]
   refine wpH_take (i := 2) (v := (.pointer (some ⟨b, 5, none⟩))) (some 21) rfl rfl (by kernel_rfl) (by kernel_rfl) (by kernel_rfl) (fun _ _ _ h => h) (Or.inl ⟨by rfl, fun w' hS => (by go_simp)⟩) s0 ?_
   try simp only [Go.Act.put, Zx, Zy, Zz]
   refine wpH_take (i := 4) (v := (.agg #[.int .i64 o.1, .int .i64 o.2.1, .int .i64 o.2.2.1, .int .i64 o.2.2.2])) (some 23) rfl rfl (by kernel_rfl) (by kernel_rfl) (by kernel_rfl) (fun _ _ _ h => h) (Or.inl ⟨by rfl, fun w' hS => (by have z0 := B0 _ hS; have z1 := B1 _ hS; have z2 := B2 _ hS; have z3 := B3 _ hS; go_simp)⟩) s0 ?_
   try simp only [Go.Act.put, Zx, Zy, Zz]
   refine wpH_call (i := 3) (o := { dst := some 22, op := Op.call { callee := Callee.value (Operand.func 167), args := #[Operand.tmp 21], argTypes := #[272] }, type := 43, pos := _, after := #[{ on := 2, ground := Ground.data }], guard := none }) (by kernel_rfl) rfl (fun K' hK => ?_)
   rw [if_pos (by rfl)]
   go_simp
   refine (HA.out _ s0).mono ?_
   rintro e' w3 ⟨g, cap, rfl, r3, t3⟩
   have R3 := hid r3
   have s1 : Touch [] V w3 := s0.trans' t3
   clear r3 t3
   refine hK.out _ _ s1 ?_
   clear hK
   try simp only [Go.Act.put, Zx, Zy, Zz]
   refine wpH_call (i := 5) (o := { dst := some 24, op := Op.call { callee := Callee.value (Operand.func 166), args := #[Operand.tmp 22, Operand.tmp 23], argTypes := #[43, 39] }, type := 50, pos := _, after := #[{ on := 3, ground := Ground.data }, { on := 4, ground := Ground.data }, { on := 3, ground := Ground.chain }], guard := none }) (by kernel_rfl) rfl (fun K' hK => ?_)
   rw [if_pos (by rfl)]
   go_simp
   refine (tell33 w3 g cap S.who o (own_base R3.out (Nat.zero_le _)) HLW.out).mono ?_
   rintro e' w4 ⟨t, rfl, z4, r4⟩
   have R4 := hid r4
   have Z4 := hid z4
   have s2 : Touch [] V w4 := s1.trans' r4.tc
   clear r4 z4
   refine hK.out _ _ s2 ?_
   clear hK
   try simp only [Go.Act.put, Zx, Zy, Zz]
   refine wpH_take (i := 6) (v := (.slice (some ⟨t, 0, none⟩) S.who.length S.who.length)) (some 6) rfl rfl (by kernel_rfl) (by kernel_rfl) (by kernel_rfl) (fun _ _ _ h => h) (Or.inl ⟨by rfl, fun w' hS => (by go_simp)⟩) s2 ?_
   try simp only [Go.Act.put, Zx, Zy, Zz]
   refine wpAnyH_done (by kernel_rfl) ?_ _
   clear B0 B1 B2 B3 HA
   have HF : Hid (Tv w.heap.size (endW (endA w4 b o) b).drew (.slice (some ⟨t, 0, none⟩) S.who.length S.who.length) S.who o ∧ RqE w (endW (endA w4 b o) b).drew b (fpR b sl m) R { S with who := [], ended := true, out := o } N) := by
    obtain ⟨q1, F', q2, q3, q4⟩ := HFN.out w4 t s2 w3 Z4.out s1 R4.out
    exact ⟨q1.keep0 (Touch.refl _ _).drew, F', q2.keep0 (Touch.refl _ _).drew, q3.drew, q4⟩
   have hrc := HG.out _ s2
   have D : ∀ w', Touch [b] w4 w' → w'.heap[w.heap.size]? = some (.cells #[.int .i64 o.1, .int .i64 o.2.1, .int .i64 o.2.2.1, .int .i64 o.2.2.2] 39 (0, 0)) := fun w' T => T.keep (s2.keep HBX2.out (by simp)) (by have := HBL.out; simp; omega)
   have D0 := fun w' T => cell_at (j := 0) (v := .int .i64 o.1) (D w' T) rfl
   have D1 := fun w' T => cell_at (j := 1) (v := .int .i64 o.2.1) (D w' T) rfl
   have D2 := fun w' T => cell_at (j := 2) (v := .int .i64 o.2.2.1) (D w' T) rfl
   have D3 := fun w' T => cell_at (j := 3) (v := .int .i64 o.2.2.2) (D w' T) rfl
   clear HFN HG HBX2 HBL D R3 R4 Z4 T2 s0 s1 HQ HR HLW
   have qf := hrc.fz
   obtain ⟨c0, c1, c2, c3, c4, c5, c6, c7, c8, c9, c10, c11, c12, c13⟩ := hrc.cs
   clear hrc s2 c0 c1 c2 c3 c4
   unfold endW endA at HF
   go_upto_region 8 with fail
   have k0 : Touch [b] w4 w4.drew := (Touch.refl _ _).drew
   refine wp_region_H (S := fun w' => Touch [b] w4 w') (by kernel_rfl) ?_
   refine wpH_take (i := 0) (v := (.pointer (some ⟨b, 0, none⟩))) (some 25) rfl rfl (by kernel_rfl) (by kernel_rfl) (by kernel_rfl) (fun _ _ _ h => h) (Or.inl ⟨by rfl, fun w' hS => (by go_simp)⟩) k0 ?_
   try simp only [Go.Act.put, Zx, Zy, Zz]
   refine wpH_take (i := 1) (v := (.pointer (some ⟨b, 0, none⟩))) (some 26) rfl rfl (by kernel_rfl) (by kernel_rfl) (by kernel_rfl) (fun _ _ _ h => h) (Or.inl ⟨by rfl, fun w' hS => (by go_simp)⟩) k0 ?_
   try simp only [Go.Act.put, Zx, Zy, Zz]
   refine wpH_take (i := 2) (v := (.agg #[.int .i64 o.1, .int .i64 o.2.1, .int .i64 o.2.2.1, .int .i64 o.2.2.2])) (some 27) rfl rfl (by kernel_rfl) (by kernel_rfl) (by kernel_rfl) (fun _ _ _ h => h) (Or.inl ⟨by rfl, fun w' hS => (by have z0 := D0 _ hS; have z1 := D1 _ hS; have z2 := D2 _ hS; have z3 := D3 _ hS; go_simp)⟩) k0 ?_
   try simp only [Go.Act.put, Zx, Zy, Zz]
   refine wpH_take (i := 3) (v := (.pointer (some ⟨b, 0, none⟩))) (some 28) rfl rfl (by kernel_rfl) (by kernel_rfl) (by kernel_rfl) (fun _ _ _ h => h) (Or.inl ⟨by rfl, fun w' hS => (by go_simp)⟩) k0 ?_
   try simp only [Go.Act.put, Zx, Zy, Zz]
   refine wpH_take (i := 4) (v := (.pointer (some ⟨b, 9, none⟩))) (some 29) rfl rfl (by kernel_rfl) (by kernel_rfl) (by kernel_rfl) (fun _ _ _ h => h) (Or.inl ⟨by rfl, fun w' hS => (by go_simp)⟩) k0 ?_
   try simp only [Go.Act.put, Zx, Zy, Zz]
   refine wpH_call (i := 5) (o := { dst := none, op := Op.store 4 (Operand.tmp 29) (Operand.const (Value.bool true)), type := 0, pos := _, after := #[{ on := 4, ground := Ground.data }, { on := 0, ground := Ground.phase }, { on := 1, ground := Ground.textOnly Departure.lateStores }, { on := 2, ground := Ground.textOnly Departure.lateStores }], guard := none }) (by kernel_rfl) rfl (fun K' hK => ?_)
   rw [if_pos (by rfl)]
   go_simp
   refine hK.out _ _ (k0.setCell (Or.inl (by simp)) _) ?_
   clear hK
   try simp only [Go.Act.put, Zx, Zy, Zz]
   refine wpH_take (i := 6) (v := (.pointer (some ⟨b, 0, none⟩))) (some 30) rfl rfl (by kernel_rfl) (by kernel_rfl) (by kernel_rfl) (fun _ _ _ h => h) (Or.inl ⟨by rfl, fun w' hS => (by go_simp)⟩) (k0.setCell (Or.inl (by simp)) _) ?_
   try simp only [Go.Act.put, Zx, Zy, Zz]
   refine wpH_take (i := 7) (v := (.pointer (some ⟨b, 10, none⟩))) (some 31) rfl rfl (by kernel_rfl) (by kernel_rfl) (by kernel_rfl) (fun _ _ _ h => h) (Or.inl ⟨by rfl, fun w' hS => (by go_simp)⟩) (k0.setCell (Or.inl (by simp)) _) ?_
   try simp only [Go.Act.put, Zx, Zy, Zz]
   refine wpH_call (i := 8) (o := { dst := none, op := Op.store 39 (Operand.tmp 31) (Operand.tmp 27), type := 0, pos := _, after := #[{ on := 7, ground := Ground.data }, { on := 2, ground := Ground.data }, { on := 5, ground := Ground.chain }, { on := 0, ground := Ground.phase }, { on := 1, ground := Ground.phase }, { on := 2, ground := Ground.phase }, { on := 3, ground := Ground.phase }, { on := 4, ground := Ground.phase }, { on := 5, ground := Ground.phase }], guard := none }) (by kernel_rfl) rfl (fun K' hK => ?_)
   rw [if_pos (by rfl)]
   go_simp
   refine hK.out _ _ (((((k0.setCell (Or.inl (by simp)) _).setCell (Or.inl (by simp)) _).setCell (Or.inl (by simp)) _).setCell (Or.inl (by simp)) _).setCell (Or.inl (by simp)) _) ?_
   clear hK
   try simp only [Go.Act.put, Zx, Zy, Zz]
   refine wpAnyH_done (by kernel_rfl) ?_ _
   clear D0 D1 D2 D3
   go_wp2
   exact bodyPost_ret (v := .tuple #[.slice (some ⟨t, 0, none⟩) S.who.length S.who.length, .int .i64 0]) (by simp [results, Tryz.results114, go_sem]) rfl ⟨_, rfl, HF.out⟩
end
end Go.Proofs.YtllchnancjgijaaGreat.Ta
/- The contracts of a nil record's methods, and that who waits is told. -/
namespace Go.Proofs.YtllchnancjgijaaGreat.Ta
open Go.RowKit Go.Maps Go.ChangeMaps
section
variable (w : World)
theorem run8_nil : Calls Tryz.prog 111 #[.pointer none] w fun e w' => e = .returned (.agg #[.int .i64 0, .int .u16 0, .string ⟨#[]⟩, .int .i64 0, .bool false]) ∧ Touch [] w w' := by
 go_enter Tryz.func111, Tryz.ntmps111
 go_wp2
 refine bodyPost_ret (v := .agg #[.int .i64 0, .int .u16 0, .string ⟨#[]⟩, .int .i64 0, .bool false]) (by simp [results, Tryz.results111, go_sem]) rfl ⟨rfl, ?_⟩
 repeat (first | exact Touch.refl _ _ | apply Touch.alloc | (refine Touch.setCell ?_ (Or.inr (by simp)) _))
end
end Go.Proofs.YtllchnancjgijaaGreat.Ta
/- The contracts of a table's methods that only read, and of Join. -/
namespace Go.Proofs.YtllchnancjgijaaGreat.Ta
open Go.RowKit Go.Maps Go.ChangeMaps
def bxK (k : K) : Obj := .cells #[.int .u16 k.1, .string k.2] 35
section
variable {w : World} {t p c : Nat} {g : Option Nat} {nc ng : Nat} {Ps : List Rb} {T : Tb} {N : Nat} {F : List Nat}
theorem tRecord (h : Tm w t p c g nc ng Ps T N) (n : Int) (hn : W64 n) : Calls Tryz.prog 109 #[PT t, .int .i64 n] w fun e w' => e = .returned ((ptr Ps n).getD (.pointer none)) ∧ w' = w := by
 have hl := h.lookP hn
 have c2 := h.cs.c2
 clear h
 generalize (ptr Ps n).getD (.pointer none) = v at *
 unfold PT
 go_enter Tryz.func109, Tryz.ntmps109
 go_wp2
 go_ret
 exact ⟨rfl, rfl⟩
theorem tCurrent (h : Tm w t p c g nc ng Ps T N) (k : K) (hk : Ok k) : Calls Tryz.prog 91 #[PT t, kv k] w fun e w' => e = .returned (.tuple #[.int .i64 (((curOf T k).map Rn.run).getD 0), .bool (curOf T k).isSome]) ∧ Touch [] w w' := by
 have hl : ∀ n, (Instr.lookup 202 (.map (some c)) (kv k) true).run Tryz.prog ((w.alloc (bxK k)).drewN n) = .ok (.tuple #[.int .i64 (((curOf T k).map Rn.run).getD 0), .bool (curOf T k).isSome]) ((w.alloc (bxK k)).drewN n) := fun n => (h.keep0 (((Touch.refl _ _).alloc _).drewN n)).lookCok hk
 have c3 := (h.keep0 ((Touch.refl _ _).alloc (bxK k))).cs.c3
 clear h
 generalize ((curOf T k).map Rn.run).getD 0 = v at *
 generalize (curOf T k).isSome = v2 at *
 unfold PT kv bxK at *
 go_enter Tryz.func91, Tryz.ntmps91
 go_wp2
 go_quiet (fail)
 go_wp2
 exact bodyPost_ret (v := .tuple #[.int .i64 v, .bool v2]) (by simp [results, Tryz.results91, go_sem]) rfl ⟨rfl, ((Touch.refl _ _).alloc _).drewN _⟩
theorem fCheck (w : World) (k : K) (hk : Ok k) : Calls Tryz.prog 85 #[kv k] w fun e w' => e = .returned (.int .i64 (tForE k)) ∧ Touch [] w w' := by
 have hl : (w.alloc (bxK k)).cell? ⟨w.heap.size, 1, none⟩ = some (.string k.2) := by simp [bxK]
 have hs : 0 ≤ ((k.2.size : Nat) : Int) := by omega
 unfold tForE mayK
 by_cases hc : k.2.size ≤ 64
 ·rw [show decide (k.2.size ≤ 64) = true by simp [hc], if_pos rfl]
  have hq : ¬ (64 < ((k.2.size : Nat) : Int)) := by omega
  clear hc
  unfold kv bxK at *
  go_enter Tryz.func85, Tryz.ntmps85
  go_wp2
  go_ret
  exact ⟨rfl, (Touch.refl _ _).alloc _⟩
 ·rw [show decide (k.2.size ≤ 64) = false by simp [hc], if_neg (by simp)]
  have hq : 64 < ((k.2.size : Nat) : Int) := by omega
  clear hc
  unfold kv bxK at *
  go_enter Tryz.func85, Tryz.ntmps85
  go_wp2
  go_ret
  exact ⟨rfl, (Touch.refl _ _).alloc _⟩
theorem box_run (w w2 : World) (T' : Touch [] (w.alloc (.cells #[.int .i64 0, .int .u16 0, .string ⟨#[]⟩, .int .i64 0, .bool false] 49)) w2) : w2.cell? ⟨w.heap.size, 0, none⟩ = some (.int .i64 0) ∧ w2.cell? ⟨w.heap.size, 1, none⟩ = some (.int .u16 0) ∧ w2.cell? ⟨w.heap.size, 2, none⟩ = some (.string ⟨#[]⟩) ∧ w2.cell? ⟨w.heap.size, 3, none⟩ = some (.int .i64 0) ∧ w2.cell? ⟨w.heap.size, 4, none⟩ = some (.bool false) ∧ ∀ i, w2.frozen? ⟨w.heap.size, i, none⟩ = false := by
 have q := T'.keep (heap_alloc_new _ _) (by simp)
 exact ⟨cell_at q rfl, cell_at q rfl, cell_at q rfl, cell_at q rfl, cell_at q rfl, froz_at q⟩
theorem tRun_no (h : Tm w t p c g nc ng Ps T N) (n : Int) (hn : W64 n) (hr : runOf T n = none) : Calls Tryz.prog 66 #[PT t, .int .i64 n] w fun e w' => e = .returned (.tuple #[.agg #[.int .i64 0, .int .u16 0, .string ⟨#[]⟩, .int .i64 0, .bool false], .bool false]) ∧ Touch [] w w' := by
 have HR := hid (fun o => tRecord (h.keep0 ((Touch.refl _ _).alloc o)) n hn)
 rw [h.notIn hr] at HR
 have HC := hid (fun w => run8_nil w)
 simp only [Option.getD_none] at HR
 have hz : w.heap.size < (w.alloc (.cells #[.int .i64 0, .int .u16 0, .string ⟨#[]⟩, .int .i64 0, .bool false] 49)).heap.size := by simp
 clear h
 have HK : Hid (∀ w2, Touch [] (w.alloc (.cells #[.int .i64 0, .int .u16 0, .string ⟨#[]⟩, .int .i64 0, .bool false] 49)) w2 → w2.cell? ⟨w.heap.size, 0, none⟩ = some (.int .i64 0) ∧ w2.cell? ⟨w.heap.size, 1, none⟩ = some (.int .u16 0) ∧ w2.cell? ⟨w.heap.size, 2, none⟩ = some (.string ⟨#[]⟩) ∧ w2.cell? ⟨w.heap.size, 3, none⟩ = some (.int .i64 0) ∧ w2.cell? ⟨w.heap.size, 4, none⟩ = some (.bool false) ∧ ∀ i, w2.frozen? ⟨w.heap.size, i, none⟩ = false) := fun w2 T' => box_run w w2 T'
 unfold PT at *
 go_enter Tryz.func66, Tryz.ntmps66
 go_wp2_with (first | (go_at_call 109; refine (HR.out _).mono ?_; rintro e w2 ⟨rfl, rfl⟩) | (go_at_call 111; refine (HC.out _).mono ?_; rintro e w2 ⟨rfl, t2⟩; obtain ⟨q0, q1, q2, q3, q4, qf⟩ := HK.out _ t2; have T2 := hid (((Touch.refl [] w).alloc _).trans' t2); clear t2))
 refine bodyPost_ret (v := .tuple #[.agg #[.int .i64 0, .int .u16 0, .string ⟨#[]⟩, .int .i64 0, .bool false], .bool false]) (by simp [results, Tryz.results66, go_sem, q0, q1, q2, q3, q4]) rfl ⟨rfl, ?_⟩
 repeat (first | exact T2.out | (refine Touch.setCell ?_ (Or.inr (by simp)) _))
theorem Tm.memR {A B : List Rb} {q : Rb} (h : Tm w t p c g nc ng (A ++ q :: B) T N) : (q.R, q.S) ∈ T.rs := by rw [h.rs]; simp [rsOf]
theorem Tm.w64 {A B : List Rb} {q : Rb} (h : Tm w t p c g nc ng (A ++ q :: B) T N) (hN : N ≤ 3000000000000) : W64 q.R.run := by
 have h1 := h.iv.rng _ h.memR
 have h2 := h.iv.bg.2
 simp only at h1
 exact W64.mk (by omega) (by omega)
theorem tRecord_at {A B : List Rb} {q : Rb} (h : Tm w t p c g nc ng (A ++ q :: B) T N) (hN : N ≤ 3000000000000) : Calls Tryz.prog 109 #[PT t, .int .i64 q.R.run] w fun e w' => e = .returned (PT q.b) ∧ w' = w := by
 have := tRecord h q.R.run (h.w64 hN)
 rw [ptr_mid h.after.1] at this
 exact this
theorem tRun_at {A B : List Rb} {q : Rb} (h : Tm w t p c g nc ng (A ++ q :: B) T N) (hN : N ≤ 3000000000000) : Calls Tryz.prog 66 #[PT t, .int .i64 q.R.run] w fun e w' => e = .returned (.tuple #[rv q.R, .bool true]) ∧ Touch [] w w' := by
 have HR := hid (fun o => tRecord_at (h.keep0 ((Touch.refl _ _).alloc o)) hN)
 have HC := hid (fun o => run8 (w.alloc o) q.b N q.F q.R q.S ((h.recs q (by simp)).keep0 ((Touch.refl _ _).alloc o)))
 have hz : w.heap.size < (w.alloc (.cells #[.int .i64 0, .int .u16 0, .string ⟨#[]⟩, .int .i64 0, .bool false] 49)).heap.size := by simp
 clear h
 have HK : Hid (∀ w2, Touch [] (w.alloc (.cells #[.int .i64 0, .int .u16 0, .string ⟨#[]⟩, .int .i64 0, .bool false] 49)) w2 → w2.cell? ⟨w.heap.size, 0, none⟩ = some (.int .i64 0) ∧ w2.cell? ⟨w.heap.size, 1, none⟩ = some (.int .u16 0) ∧ w2.cell? ⟨w.heap.size, 2, none⟩ = some (.string ⟨#[]⟩) ∧ w2.cell? ⟨w.heap.size, 3, none⟩ = some (.int .i64 0) ∧ w2.cell? ⟨w.heap.size, 4, none⟩ = some (.bool false) ∧ ∀ i, w2.frozen? ⟨w.heap.size, i, none⟩ = false) := fun w2 T' => box_run w w2 T'
 unfold PT rv at *
 go_enter Tryz.func66, Tryz.ntmps66
 go_wp2_with (first | (go_at_call 109; refine (HR.out _).mono ?_; rintro e w2 ⟨rfl, rfl⟩) | (go_at_call 111; refine (HC.out _).mono ?_; rintro e w2 ⟨rfl, t2⟩; obtain ⟨q0, q1, q2, q3, q4, qf⟩ := HK.out _ t2; have T2 := hid (((Touch.refl [] w).alloc _).trans' t2); clear t2))
 refine bodyPost_ret (v := .tuple #[.agg #[.int .i64 q.R.run, .int .u16 q.R.sp, .string q.R.nm, .int .i64 q.R.gen, .bool q.R.rf], .bool true]) (by simp [results, Tryz.results66, go_sem, q0, q1, q2, q3, q4]) rfl ⟨rfl, ?_⟩
 repeat (first | exact T2.out | (refine Touch.setCell ?_ (Or.inr (by simp)) _))
theorem runKey (w : World) (a b d : Int) (s : ByteArray) (e : Bool) : (Instr.field 49 (.agg #[.int .i64 a, .int .u16 b, .string s, .int .i64 d, .bool e]) 1).run Tryz.prog w = .ok (.agg #[.int .u16 b, .string s]) w := by kernel_rfl
set_option maxRecDepth 100000 in
theorem tIsCur_no (h : Tm w t p c g nc ng Ps T N) (n : Int) (hn : W64 n) (hr : runOf T n = none) : Calls Tryz.prog 115 #[PT t, .int .i64 n] w fun e w' => e = .returned (.bool false) ∧ Touch [] w w' := by
 have HR := hid (tRecord h n hn)
 rw [h.notIn hr] at HR
 simp only [Option.getD_none] at HR
 clear h
 unfold PT at *
 go_enter Tryz.func115, Tryz.ntmps115
 go_wp2_with (go_at_call 109; refine HR.out.mono ?_; rintro e w ⟨rfl, rfl⟩)
 have k0 : Touch [] w w.drew := (Touch.refl _ _).drew
 refine wp_region_H (S := fun w' => Touch [] w w') (by kernel_rfl) ?_
 refine wpH_take (i := 0) (v := (.pointer none)) (some 9) rfl rfl (by kernel_rfl) (by kernel_rfl) (by kernel_rfl) (fun _ _ _ h => h) (Or.inl ⟨by rfl, fun w' hS => (by go_simp)⟩) k0 ?_
 try simp only [Go.Act.put, Zx, Zy, Zz]
 refine wpH_take (i := 1) (v := (.bool false)) (some 10) rfl rfl (by kernel_rfl) (by kernel_rfl) (by kernel_rfl) (fun _ _ _ h => h) (Or.inl ⟨by rfl, fun w' hS => (by go_simp)⟩) k0 ?_
 try simp only [Go.Act.put, Zx, Zy, Zz]
 refine wpH_take (i := 2) (v := (.bool false)) (some 11) rfl rfl (by kernel_rfl) (by kernel_rfl) (by kernel_rfl) (fun _ _ _ h => h) (Or.inl ⟨by rfl, fun w' hS => (by go_simp)⟩) k0 ?_
 try simp only [Go.Act.put, Zx, Zy, Zz]
 refine wpH_take (i := 3) (v := undef) (some 12) rfl rfl (by kernel_rfl) (by kernel_rfl) (by kernel_rfl) (fun _ _ _ h => h) (Or.inr ⟨by rfl, rfl⟩) k0 ?_
 try simp only [Go.Act.put, Zx, Zy, Zz]
 refine wpH_take (i := 4) (v := undef) (some 13) rfl rfl (by kernel_rfl) (by kernel_rfl) (by kernel_rfl) (fun _ _ _ h => h) (Or.inr ⟨by rfl, rfl⟩) k0 ?_
 try simp only [Go.Act.put, Zx, Zy, Zz]
 refine wpH_take (i := 5) (v := undef) (some 14) rfl rfl (by kernel_rfl) (by kernel_rfl) (by kernel_rfl) (fun _ _ _ h => h) (Or.inr ⟨by rfl, rfl⟩) k0 ?_
 try simp only [Go.Act.put, Zx, Zy, Zz]
 refine wpH_take (i := 6) (v := undef) (some 15) rfl rfl (by kernel_rfl) (by kernel_rfl) (by kernel_rfl) (fun _ _ _ h => h) (Or.inr ⟨by rfl, rfl⟩) k0 ?_
 try simp only [Go.Act.put, Zx, Zy, Zz]
 refine wpH_take (i := 7) (v := undef) (some 16) rfl rfl (by kernel_rfl) (by kernel_rfl) (by kernel_rfl) (fun _ _ _ h => h) (Or.inr ⟨by rfl, rfl⟩) k0 ?_
 try simp only [Go.Act.put, Zx, Zy, Zz]
 refine wpH_take (i := 8) (v := undef) (some 17) rfl rfl (by kernel_rfl) (by kernel_rfl) (by kernel_rfl) (fun _ _ _ h => h) (Or.inr ⟨by rfl, rfl⟩) k0 ?_
 try simp only [Go.Act.put, Zx, Zy, Zz]
 refine wpH_take (i := 9) (v := undef) (some 18) rfl rfl (by kernel_rfl) (by kernel_rfl) (by kernel_rfl) (fun _ _ _ h => h) (Or.inr ⟨by rfl, rfl⟩) k0 ?_
 try simp only [Go.Act.put, Zx, Zy, Zz]
 refine wpH_take (i := 10) (v := undef) (some 19) rfl rfl (by kernel_rfl) (by kernel_rfl) (by kernel_rfl) (fun _ _ _ h => h) (Or.inr ⟨by rfl, rfl⟩) k0 ?_
 try simp only [Go.Act.put, Zx, Zy, Zz]
 refine wpH_take (i := 11) (v := undef) (some 20) rfl rfl (by kernel_rfl) (by kernel_rfl) (by kernel_rfl) (fun _ _ _ h => h) (Or.inr ⟨by rfl, rfl⟩) k0 ?_
 try simp only [Go.Act.put, Zx, Zy, Zz]
 refine wpH_take (i := 12) (v := undef) (some 21) rfl rfl (by kernel_rfl) (by kernel_rfl) (by kernel_rfl) (fun _ _ _ h => h) (Or.inr ⟨by rfl, rfl⟩) k0 ?_
 try simp only [Go.Act.put, Zx, Zy, Zz]
 refine wpH_take (i := 13) (v := (.bool false)) (some 22) rfl rfl (by kernel_rfl) (by kernel_rfl) (by kernel_rfl) (fun _ _ _ h => h) (Or.inl ⟨by rfl, fun w' hS => (by go_simp)⟩) k0 ?_
 try simp only [Go.Act.put, Zx, Zy, Zz]
 refine wpH_take (i := 14) (v := (.bool false)) (some 4) rfl rfl (by kernel_rfl) (by kernel_rfl) (by kernel_rfl) (fun _ _ _ h => h) (Or.inl ⟨by rfl, fun w' hS => (by go_simp)⟩) k0 ?_
 try simp only [Go.Act.put, Zx, Zy, Zz]
 refine wpAnyH_done (by kernel_rfl) ?_ _
 go_wp2
 go_ret
 exact ⟨rfl, k0⟩
set_option maxHeartbeats 2000000 in
set_option maxRecDepth 100000 in
theorem tIsCur_at {A B : List Rb} {q : Rb} (h : Tm w t p c g nc ng (A ++ q :: B) T N) (hN : N ≤ 3000000000000) : Calls Tryz.prog 115 #[PT t, .int .i64 q.R.run] w fun e w' => e = .returned (.bool (isCur T q.R)) ∧ Touch [] w w' := by
 have HR := hid (tRecord_at h hN)
 have HC : Hid (∀ w', Touch [] w w' → Calls Tryz.prog 111 #[PT q.b] w' fun e w2 => e = .returned (rv q.R) ∧ Touch [] w w2) := fun w' T' => (run8 w' q.b N q.F q.R q.S ((h.recs q (by simp)).keep0 T')).mono (fun e w2 hh => ⟨hh.1, T'.trans' hh.2⟩)
 have C3 : ∀ w', Touch [] w w' → w'.cell? ⟨t, 3, none⟩ = some (.map (some c)) := fun w' T' => (h.keep0 T').cs.c3
 have L0 : ∀ w', Touch [] w w' → (Instr.lookup 202 (.map (some c)) (.agg #[.int .u16 q.R.sp, .string q.R.nm]) false).run Tryz.prog w' = .ok (.int .i64 (((curOf T (kOf q.R)).map Rn.run).getD 0)) w' := fun w' T' => (h.keep0 T').lookC (h.iv.ok _ h.memR)
 have hB := curN_of_mem h.iv h.memR
 simp only at hB
 clear h
 generalize ((curOf T (kOf q.R)).map Rn.run).getD 0 = v at *
 have hb : (v == q.R.run) = isCur T q.R := by rw [← hB]; exact Bool.beq_eq_decide_eq _ _
 clear hB
 generalize isCur T q.R = B at *
 unfold PT rv at *
 go_enter Tryz.func115, Tryz.ntmps115
 go_wp2_with (go_at_call 109; refine HR.out.mono ?_; rintro e w ⟨rfl, rfl⟩)
 have k0 : Touch [] w w.drew := (Touch.refl _ _).drew
 refine wp_region_H (S := fun w' => Touch [] w w') (by kernel_rfl) ?_
 refine wpH_take (i := 0) (v := (.pointer (some ⟨q.b, 0, none⟩))) (some 9) rfl rfl (by kernel_rfl) (by kernel_rfl) (by kernel_rfl) (fun _ _ _ h => h) (Or.inl ⟨by rfl, fun w' hS => (by go_simp)⟩) k0 ?_
 try simp only [Go.Act.put, Zx, Zy, Zz]
 refine wpH_take (i := 1) (v := (.bool true)) (some 10) rfl rfl (by kernel_rfl) (by kernel_rfl) (by kernel_rfl) (fun _ _ _ h => h) (Or.inl ⟨by rfl, fun w' hS => (by go_simp)⟩) k0 ?_
 try simp only [Go.Act.put, Zx, Zy, Zz]
 refine wpH_take (i := 2) (v := (.bool true)) (some 11) rfl rfl (by kernel_rfl) (by kernel_rfl) (by kernel_rfl) (fun _ _ _ h => h) (Or.inl ⟨by rfl, fun w' hS => (by go_simp)⟩) k0 ?_
 try simp only [Go.Act.put, Zx, Zy, Zz]
 refine wpH_take (i := 3) (v := (.pointer (some ⟨t, 0, none⟩))) (some 12) rfl rfl (by kernel_rfl) (by kernel_rfl) (by kernel_rfl) (fun _ _ _ h => h) (Or.inl ⟨by rfl, fun w' hS => (by go_simp)⟩) k0 ?_
 try simp only [Go.Act.put, Zx, Zy, Zz]
 refine wpH_take (i := 4) (v := (.pointer (some ⟨t, 0, none⟩))) (some 13) rfl rfl (by kernel_rfl) (by kernel_rfl) (by kernel_rfl) (fun _ _ _ h => h) (Or.inl ⟨by rfl, fun w' hS => (by go_simp)⟩) k0 ?_
 try simp only [Go.Act.put, Zx, Zy, Zz]
 refine wpH_take (i := 5) (v := (.pointer (some ⟨t, 3, none⟩))) (some 14) rfl rfl (by kernel_rfl) (by kernel_rfl) (by kernel_rfl) (fun _ _ _ h => h) (Or.inl ⟨by rfl, fun w' hS => (by go_simp)⟩) k0 ?_
 try simp only [Go.Act.put, Zx, Zy, Zz]
 refine wpH_take (i := 6) (v := (.map (some c))) (some 15) rfl rfl (by kernel_rfl) (by kernel_rfl) (by kernel_rfl) (fun _ _ _ h => h) (Or.inl ⟨by rfl, fun w' hS => (by have z0 := C3 _ hS; go_simp)⟩) k0 ?_
 try simp only [Go.Act.put, Zx, Zy, Zz]
 refine wpH_take (i := 7) (v := (.pointer (some ⟨q.b, 0, none⟩))) (some 16) rfl rfl (by kernel_rfl) (by kernel_rfl) (by kernel_rfl) (fun _ _ _ h => h) (Or.inl ⟨by rfl, fun w' hS => (by go_simp)⟩) k0 ?_
 try simp only [Go.Act.put, Zx, Zy, Zz]
 refine wpH_take (i := 11) (v := (.int .i64 q.R.run)) (some 20) rfl rfl (by kernel_rfl) (by kernel_rfl) (by kernel_rfl) (fun _ _ _ h => h) (Or.inl ⟨by rfl, fun w' hS => (by go_simp)⟩) k0 ?_
 try simp only [Go.Act.put, Zx, Zy, Zz]
 refine wpH_call (i := 8) (o := { dst := some 17, op := Op.call { callee := Callee.value (Operand.func 111), args := #[Operand.tmp 16], argTypes := #[206] }, type := 49, pos := _, after := #[{ on := 7, ground := Ground.data }, { on := 2, ground := Ground.chain }, { on := 2, ground := Ground.guard }], guard := some (2, true) }) (by kernel_rfl) rfl (fun K' hK => ?_)
 rw [if_pos (by rfl)]
 go_simp
 refine (HC.out _ k0).mono ?_
 rintro e' w2 ⟨rfl, s2⟩
 refine hK.out _ _ s2 ?_
 clear hK
 try simp only [Go.Act.put, Zx, Zy, Zz]
 refine wpH_take (i := 9) (v := (.agg #[.int .u16 q.R.sp, .string q.R.nm])) (some 18) rfl rfl (by kernel_rfl) (by kernel_rfl) (by kernel_rfl) (fun _ _ _ h => h) (Or.inl ⟨by rfl, fun w' hS => (by have z0 := runKey w' q.R.run q.R.sp q.R.gen q.R.nm q.R.rf; go_simp)⟩) s2 ?_
 try simp only [Go.Act.put, Zx, Zy, Zz]
 refine wpH_take (i := 10) (v := (.int .i64 v)) (some 19) rfl rfl (by kernel_rfl) (by kernel_rfl) (by kernel_rfl) (fun _ _ _ h => h) (Or.inl ⟨by rfl, fun w' hS => (by have z0 := L0 _ hS; go_simp)⟩) s2 ?_
 try simp only [Go.Act.put, Zx, Zy, Zz]
 refine wpH_take (i := 12) (v := (.bool B)) (some 21) rfl rfl (by kernel_rfl) (by kernel_rfl) (by kernel_rfl) (fun _ _ _ h => h) (Or.inl ⟨by rfl, fun w' hS => (by go_simp)⟩) s2 ?_
 try simp only [Go.Act.put, Zx, Zy, Zz]
 refine wpH_take (i := 13) (v := (.bool B)) (some 22) rfl rfl (by kernel_rfl) (by kernel_rfl) (by kernel_rfl) (fun _ _ _ h => h) (Or.inl ⟨by rfl, fun w' hS => (by go_simp)⟩) s2 ?_
 try simp only [Go.Act.put, Zx, Zy, Zz]
 refine wpH_take (i := 14) (v := (.bool B)) (some 4) rfl rfl (by kernel_rfl) (by kernel_rfl) (by kernel_rfl) (fun _ _ _ h => h) (Or.inl ⟨by rfl, fun w' hS => (by go_simp)⟩) s2 ?_
 try simp only [Go.Act.put, Zx, Zy, Zz]
 refine wpAnyH_done (by kernel_rfl) ?_ _
 go_wp2
 go_ret
 exact ⟨rfl, s2⟩
theorem tJoin_no (h : Tm w t p c g nc ng Ps T N) (n x : Int) (hn : W64 n) (hr : runOf T n = none) : Calls Tryz.prog 92 #[PT t, .int .i64 n, .int .i64 x] w fun e w' => e = .returned (.int .i64 122) ∧ w' = w := by
 have HR := hid (tRecord h n hn)
 rw [h.notIn hr] at HR
 simp only [Option.getD_none] at HR
 clear h
 unfold PT at *
 go_enter Tryz.func92, Tryz.ntmps92
 go_wp2_with (go_at_call 109; refine HR.out.mono ?_; rintro e w ⟨rfl, rfl⟩)
 go_ret
 exact ⟨rfl, rfl⟩
theorem tJoin_at {A B : List Rb} {q : Rb} (h : Tm w t p c g nc ng (A ++ q :: B) T N) (hN : N ≤ 3000000000000) (x : Int) (hx : W64 x) : Calls Tryz.prog 92 #[PT t, .int .i64 q.R.run, .int .i64 x] w fun e w' => e = .returned (.int .i64 (joinE q.S x)) ∧ RqE w w' q.b q.F q.R (joinS q.S x) (N + 1) := by
 have HR := hid (tRecord_at h hN)
 have HJ := hid (join13 w q.b N q.F q.R q.S (h.recs q (by simp)) hN x hx)
 clear h
 unfold PT at *
 go_enter Tryz.func92, Tryz.ntmps92
 go_wp2_with (first | (go_at_call 109; refine HR.out.mono ?_; rintro e w ⟨rfl, rfl⟩) | (go_at_call 133; refine HJ.out.mono ?_; rintro e w2 ⟨rfl, r⟩; have RR := hid r; clear r))
 go_ret
 exact ⟨rfl, RR.out⟩
end
section
variable (w : World) (t : Nat) (F : List Nat) (T : Tb) (N : Nat)
def whoOf (T : Tb) (n : Int) : List Int := match runOf T n with | none => [] | some p => p.2.who
def rnOf (T : Tb) (n : Int) : Rn := match runOf T n with | none => ⟨0, 0, ⟨#[]⟩, 0, false⟩ | some p => p.1
def curBy (T : Tb) (n : Int) : Bool := match runOf T n with | none => false | some p => isCur T p.1
theorem runT (h : Tq w t F T N) (hN : N ≤ 3000000000000) (n : Int) (hn : W64 n) : Calls Tryz.prog 66 #[PT t, .int .i64 n] w fun e w' => e = .returned (.tuple #[rv (rnOf T n), .bool (runOf T n).isSome]) ∧ Touch [] w w' := by
 obtain ⟨p, c, g, nc, ng, Ps, rfl, h, hL⟩ := h
 unfold rnOf
 cases hr : runOf T n with
 | none => exact tRun_no h n hn hr
 | some r =>
  obtain ⟨A, q, B, rfl, rfl, rfl, _⟩ := h.found hr
  exact tRun_at h hN
theorem isCurT (h : Tq w t F T N) (hN : N ≤ 3000000000000) (n : Int) (hn : W64 n) : Calls Tryz.prog 115 #[PT t, .int .i64 n] w fun e w' => e = .returned (.bool (curBy T n)) ∧ Touch [] w w' := by
 obtain ⟨p, c, g, nc, ng, Ps, rfl, h, hL⟩ := h
 unfold curBy
 cases hr : runOf T n with
 | none => exact tIsCur_no h n hn hr
 | some r =>
  obtain ⟨A, q, B, rfl, rfl, rfl, _⟩ := h.found hr
  exact tIsCur_at h hN
theorem joinT (h : Tq w t F T N) (hN : N ≤ 3000000000000) (n x : Int) (hn : W64 n) (hx : W64 x) : Calls Tryz.prog 92 #[PT t, .int .i64 n, .int .i64 x] w fun e w' => e = .returned (.int .i64 (tJoinE T n x)) ∧ TqE w w' t F (tJoin T n x) (N + 1) := by
 unfold tJoinE tJoin
 cases hr : runOf T n with
 | none =>
  have hs := TqE.same h (Nat.le_succ N)
  obtain ⟨p, c, g, nc, ng, Ps, rfl, h, hL⟩ := h
  refine (tJoin_no h n x hn hr).mono ?_
  rintro e w' ⟨rfl, rfl⟩
  exact ⟨rfl, hs⟩
 | some r =>
  obtain ⟨p, c, g, nc, ng, Ps, rfl, h, hL⟩ := h
  obtain ⟨A, q, B, rfl, rfl, rfl, _⟩ := h.found hr
  refine (tJoin_at h hN x hx).mono ?_
  rintro e w' ⟨rfl, r⟩
  exact ⟨rfl, h.stepE r (Nat.le_succ N) hL (join_live (hL _ h.memR) x)⟩
end
end Go.Proofs.YtllchnancjgijaaGreat.Ta
/- The contract of goOn: a key's generation goes on. -/
namespace Go.Proofs.YtllchnancjgijaaGreat.Ta
open Go.RowKit Go.Maps Go.ChangeMaps
section
variable {w W W1 W2 : World} {t p c d : Nat} {g : Option Nat} {nc ng nc' ng' : Nat} {Ps : List Rb} {T : Tb} {N : Nat} {k : K}
theorem Tm.tne (h : Tm w t p c g nc ng Ps T N) : t ≠ p ∧ t ≠ c ∧ g ≠ some t := by
 obtain ⟨e1, l1, k1⟩ := h.pm.kind
 obtain ⟨e2, l2, k2⟩ := h.cm.kind
 refine ⟨fun e => ?_, fun e => ?_, fun e => ?_⟩
 ·rw [← e, h.bl] at k1; cases k1
 ·rw [← e, h.bl] at k2; cases k2
 ·obtain ⟨e3, l3, k3⟩ := h.gm.kind e
  rw [h.bl] at k3; cases k3
theorem eqMK_some (w : World) (d : Nat) : (binOp .eql 202 (.map (some d)) (.map none)).run Tryz.prog w = .ok (.bool false) w := run_eql_map_nil w _ _ _ (some d) Tryz.underlying202
theorem eqMK_none (w : World) : (binOp .eql 202 (.map none) (.map none)).run Tryz.prog w = .ok (.bool true) w := run_eql_map_nil w _ _ _ none Tryz.underlying202
theorem genV_goOn (T : Tb) (k j : K) (h : 0 ≤ T.gn k) : kupd (genV T) k (.int .i64 (T.gn k + 1)) j = genV (goOn T k) j := by
 unfold kupd genV goOn
 by_cases e : j = k
 ·subst e
  simp
  omega
 ·simp [e]
theorem curV_goOn (h : Ti T N) (k j : K) : kdel (curV T) k j = curV (goOn T k) j := by
 unfold kdel curV
 rw [curOf_goOn h]
 split <;> rfl
theorem goOn_end (h : Tm W t p c (some d) nc ng Ps T N) (hk : Ok k) (T1 : Touch [d] W W1) (m1 : MapK KC W1 d ng' (kupd (genV T) k (.int .i64 (T.gn k + 1)))) (T2 : Touch [c] W1 W2) (m2 : MapK KC W2 c nc' (kdel (curV T) k)) (hng : ng' ≤ N + 1) (hnc : nc' ≤ N + 1) :
  Tm W2 t p c (some d) nc' ng' Ps (goOn T k) (N + 1) ∧ Touch [d, c] W W2 := by
 have hT : Touch [d, c] W W2 := (T1.mono (by simp)).trans (T2.mono (by simp)) (fun i hi => Or.inl hi)
 have hd : d ≠ p ∧ d ≠ c := ⟨fun e => h.gp (by rw [e]), fun e => h.gc (by rw [e])⟩
 obtain ⟨es, cl, kd⟩ := h.gm.kind rfl
 obtain ⟨es2, cl2, kc⟩ := h.cm.kind
 have ht1 : t ≠ d := fun e => by rw [← e, h.bl] at kd; cases kd
 have ht2 : t ≠ c := fun e => by rw [← e, h.bl] at kc; cases kc
 refine ⟨⟨h.rs, hT.keep h.bl (by simp [ht1, ht2]), h.pm.keep hT (by simp [Ne.symm hd.1, h.pc]), m2.congr (fun j _ => curV_goOn h.iv k j), Or.inr ⟨d, rfl, ?_⟩, h.pc, h.gp, h.gc, hnc, hng, fun q hq => ?_, h.far, h.apart, h.iv.goOn k⟩, hT⟩
 ·exact (m1.keep T2 (by simp [hd.2])).congr (fun j _ => genV_goOn T k j (h.iv.gn k).1)
 ·refine ((h.recs q hq).keep hT (fun x hx e => ?_)).mono (Nat.le_succ N)
  have := h.far q hq x hx
  simp only [List.mem_cons, List.not_mem_nil, or_false] at e
  rcases e with e | e
  ·exact this.2.2.2 (by rw [e])
  ·exact this.2.2.1 e
theorem Tm.made (h : Tm w t p c none nc ng Ps T N) : Tm ((w.alloc (.map #[] 0)).setCell ⟨t, 4, none⟩ (.map (some w.heap.size))) t p c (some w.heap.size) nc 0 Ps T N ∧ Touch [t] w ((w.alloc (.map #[] 0)).setCell ⟨t, 4, none⟩ (.map (some w.heap.size))) := by
 have h0 : ∀ k, T.gn k = 0 := by
  rcases h.gm with ⟨_, h0⟩ | ⟨d, e, _⟩
  ·exact h0
  ·cases e
 have ta : Touch [] w (w.alloc (.map #[] 0)) := (Touch.refl _ _).alloc _
 have ha := h.keep0 ta
 have hts : Touch [t] (w.alloc (.map #[] 0)) ((w.alloc (.map #[] 0)).setCell ⟨t, 4, none⟩ (.map (some w.heap.size))) := (Touch.refl _ _).setCell (Or.inl (by simp)) _
 have lt1 := h.lt t (mem_fpT.2 (Or.inl rfl))
 obtain ⟨e1, l1, k1⟩ := h.pm.kind
 obtain ⟨e2, l2, k2⟩ := h.cm.kind
 have n1 : p ≠ t := fun e => by rw [e, h.bl] at k1; cases k1
 have n2 : c ≠ t := fun e => by rw [e, h.bl] at k2; cases k2
 have l3 := block_lt k1
 have l4 := block_lt k2
 refine ⟨⟨h.rs, ?_, ha.pm.keep hts (by simp [n1]), ha.cm.keep hts (by simp [n2]), Or.inr ⟨_, rfl, ?_⟩, h.pc, fun e => ?_, fun e => ?_, h.lc, Nat.zero_le _, fun q hq => ?_, fun q hq x hx => ?_, h.apart, h.iv⟩, (ta.mono (by simp)).trans hts (fun i hi => Or.inl hi)⟩
 ·have := bset (i := 4) ha.bl (.map (some w.heap.size))
  exact this
 ·refine ((mapK_made KC w).keep hts (by simp; omega)).congr (fun k _ => ?_)
  simp [genV, h0 k]
 ·simp only [Option.some.injEq] at e; omega
 ·simp only [Option.some.injEq] at e; omega
 ·exact (ha.recs q hq).keep hts (fun x hx e => by simp only [List.mem_singleton] at e; exact (h.far q hq x hx).1 e)
 ·have := h.far q hq x hx
  have l := (h.recs q hq).lt x hx
  exact ⟨this.1, this.2.1, this.2.2.1, fun e => by simp only [Option.some.injEq] at e; omega⟩
def GsS (W : World) (d : Nat) (k : K) (v : Int) (w' : World) : Prop := Touch [d] W w' ∧ (Instr.lookup 202 (.map (some d)) (.agg #[.int .u16 k.1, .string k.2]) false).run Tryz.prog w' = .ok (.int .i64 v) w'
theorem gen_entry (h : Tm W t p c (some d) nc ng Ps T N) (hk : Ok k) (hN : N ≤ 3000000000000) : ∃ (sn : Nat) (o : Obj), (Instr.mapEntry 202 (.map (some d)) (.agg #[.int .u16 k.1, .string k.2])).run Tryz.prog W.drew = .ok (.tuple #[.int .i64 (T.gn k), .int .i64 (sn : Nat)]) (setBlock W.drew d o) ∧ GsS W d k (T.gn k) (setBlock W.drew d o) ∧
  ∃ o2, (Instr.entryStore 202 (.map (some d)) (.int .i64 (sn : Nat)) (.int .i64 (T.gn k + 1))).run Tryz.prog (setBlock W.drew d o) = .ok () (setBlock (setBlock W.drew d o) d o2) ∧ ∃ ng', ng' ≤ N + 1 ∧ MapK KC (setBlock (setBlock W.drew d o) d o2) d ng' (kupd (genV T) k (.int .i64 (T.gn k + 1))) ∧ Touch [d] W (setBlock (setBlock W.drew d o) d o2) := by
 have hm : MapK KC W.drew d ng (genV T) := by
  rcases h.gm with ⟨e, _⟩ | ⟨d', e, hm⟩
  ·cases e
  ·cases e; exact hm.kept rfl
 have e0 : (genV T k).getD (.int .i64 0) = .int .i64 (T.gn k) := by
  unfold genV
  split
  ·rename_i q; rw [q]; rfl
  ·rfl
 have hl := h.lg
 obtain ⟨sn, o, q1, q2, q3⟩ := hm.entry (t := 202) Tryz.underlying202 (by unfold maxLen; omega) zero3 hk
 rw [e0] at q1 q2
 have tt : Touch [d] W (setBlock W.drew d o) := touch_setBlock (Touch.refl _ _).drew (Or.inl (by simp)) o
 have hb : (setBlock W.drew d o).heap[d]? = some o := by
  have := hm.lt
  simp only [setBlock, Array.getElem?_setIfInBounds, if_true, this]
 obtain ⟨o2, r1, r2⟩ := q3 _ (.int .i64 (T.gn k + 1)) hb
 refine ⟨sn, o, q1, ⟨tt, ?_⟩, o2, r1, _, ?_, r2, touch_setBlock tt (Or.inl (by simp)) o2⟩
 ·have := q2.look (t := 202) Tryz.underlying202 (zero3 _) hk
  simp only [kupd, if_true, Option.getD_some] at this
  exact this
 ·split <;> omega
theorem cur_del (h : Tm W t p c (some d) nc ng Ps T N) (hk : Ok k) (T1 : Touch [d] W W1) : ∃ o, (∀ ty, (Builtin.delete_ #[202, 35] ty #[.map (some c), .agg #[.int .u16 k.1, .string k.2]]).run Tryz.prog W1.drew = .ok (.tuple #[]) (setBlock W1.drew c o)) ∧ Touch [c] W1 (setBlock W1.drew c o) ∧ ∃ nc', nc' ≤ N + 1 ∧ MapK KC (setBlock W1.drew c o) c nc' (kdel (curV T) k) := by
 have hc : c ≠ d := fun e => h.gc (by rw [e])
 have hm : MapK KC W1.drew c nc (curV T) := (h.cm.keep T1 (by simp [hc])).kept rfl
 obtain ⟨o, q1, q2⟩ := hm.del (t := 202) Tryz.underlying202 hk 0
 have hl := h.lc
 refine ⟨o, fun ty => q1, touch_setBlock (Touch.refl _ _).drew (Or.inl (by simp)) o, _, ?_, q2⟩
 split <;> omega
set_option maxHeartbeats 4000000 in
set_option maxRecDepth 100000 in
theorem tGoOn_some (h : Tm w t p c (some d) nc ng Ps T N) (hN : N ≤ 3000000000000) (hL : Lv T) (hk : Ok k) : Calls Tryz.prog 108 #[PT t, kv k] w fun e w' => e = .returned (.tuple #[]) ∧ TqE w w' t (fpT t p c (some d) Ps) (goOn T k) (N + 1) := by
 obtain ⟨W, hW⟩ : ∃ W, W = w.alloc (bxK k) := ⟨_, rfl⟩
 have t0 : Touch [] w W := by rw [hW]; exact (Touch.refl _ _).alloc _
 have h1 := h.keep0 t0
 have c4 := h1.cs.c4
 have HE : Hid (∀ W1 W2 nc' ng', Touch [d] W W1 → MapK KC W1 d ng' (kupd (genV T) k (.int .i64 (T.gn k + 1))) → Touch [c] W1 W2 → MapK KC W2 c nc' (kdel (curV T) k) → ng' ≤ N + 1 → nc' ≤ N + 1 → TqE w W2 t (fpT t p c (some d) Ps) (goOn T k) (N + 1)) := fun W1 W2 nc' ng' a1 a2 a3 a4 a5 a6 => by
  obtain ⟨q1, q2⟩ := goOn_end h1 hk a1 a2 a3 a4 a5 a6
  refine TqE.from0 t0 ⟨_, ⟨p, c, some d, nc', ng', Ps, rfl, q1, hL⟩, q2.mono (fun i hi => ?_), Nf.refl _ _⟩
  simp only [List.mem_cons, List.not_mem_nil, or_false] at hi
  rcases hi with e | e
  ·exact mem_fpT.2 (Or.inr (Or.inr (Or.inr (Or.inl (by rw [e])))))
  ·exact mem_fpT.2 (Or.inr (Or.inr (Or.inl e)))
 have hWb : W.heap[w.heap.size]? = some (.cells #[.int .u16 k.1, .string k.2] 35 (0, 0)) := by rw [hW]; exact heap_alloc_new w _
 have ld := h.lt d (mem_fpT.2 (Or.inr (Or.inr (Or.inr (Or.inl rfl)))))
 obtain ⟨nt1, nt2, nt3⟩ := h1.tne
 obtain ⟨sn, o1, E1, E2, o2, E3, ng', E4, E5, E6⟩ := gen_entry h1 hk hN
 obtain ⟨o3, D1, D2, nc', D3, D4⟩ := cur_del h1 hk E6
 have HF := hid (HE.out _ _ nc' ng' E6 E5 D2 D4 E4 D3)
 have M4 : ∀ w', GsS W d k (T.gn k) w' → w'.cell? ⟨t, 4, none⟩ = some (.map (some d)) := fun w' q => cell_at (q.1.keep h1.bl (by simp only [List.mem_singleton]; exact fun e => nt3 (by rw [e]))) rfl
 have K0 : ∀ w', GsS W d k (T.gn k) w' → w'.cell? ⟨w.heap.size, 0, none⟩ = some (.int .u16 k.1) := fun w' q => cell_at (q.1.keep hWb (by simp only [List.mem_singleton]; omega)) rfl
 have K1 : ∀ w', GsS W d k (T.gn k) w' → w'.cell? ⟨w.heap.size, 1, none⟩ = some (.string k.2) := fun w' q => cell_at (q.1.keep hWb (by simp only [List.mem_singleton]; omega)) rfl
 have L0 : ∀ w', GsS W d k (T.gn k) w' → (Instr.lookup 202 (.map (some d)) (.agg #[.int .u16 k.1, .string k.2]) false).run Tryz.prog w' = .ok (.int .i64 (T.gn k)) w' := fun w' q => q.2
 have k0 : GsS W d k (T.gn k) W.drew := ⟨(Touch.refl _ _).drew, (h1.keep0 (Touch.refl _ _).drew).lookG hk⟩
 have hwr : IntKind.i64.wrap (T.gn k + 1) = T.gn k + 1 := by have := h.iv.gn k; rw [IntKind.wrap_i64]; omega
 obtain ⟨W3, hW3⟩ : ∃ W3, W3 = setBlock (setBlock W.drew d o1) d o2 := ⟨_, rfl⟩
 rw [← hW3] at HF D1 D2 D4
 have tW : Touch [d] W W3 := by rw [hW3]; exact E6
 have M3 : ∀ w', Touch [] W3 w' → w'.cell? ⟨t, 3, none⟩ = some (.map (some c)) := fun w' q => cell_at ((tW.trans q (fun _ e => by cases e)).keep h1.bl (by simp only [List.mem_singleton]; exact fun e => nt3 (by rw [e]))) rfl
 have B0 : ∀ w', Touch [] W3 w' → w'.cell? ⟨w.heap.size, 0, none⟩ = some (.int .u16 k.1) := fun w' q => cell_at ((tW.trans q (fun _ e => by cases e)).keep hWb (by simp only [List.mem_singleton]; omega)) rfl
 have B1 : ∀ w', Touch [] W3 w' → w'.cell? ⟨w.heap.size, 1, none⟩ = some (.string k.2) := fun w' q => cell_at ((tW.trans q (fun _ e => by cases e)).keep hWb (by simp only [List.mem_singleton]; omega)) rfl
 have D1' := D1 0
 clear h h1 HE E4 E5 E6 D1 D2 D3 D4 t0 hN hk tW hWb ld nt1 nt2 nt3
 unfold PT kv
 unfold bxK at hW
 have qm := eqMK_some W d
 go_enter Tryz.func108, Tryz.ntmps108
 go_upto_region 1 with fail
 rw [← hW]
 clear hW
 go_upto_region 3 with fail
 refine wp_region_L (S := GsS W d k (T.gn k)) (st := 9) (by kernel_rfl) ?_
 refine wpL_take (i := 0) (v := (.pointer (some ⟨t, 0, none⟩))) (some 13) rfl rfl (by kernel_rfl) (by kernel_rfl) (by kernel_rfl) (by kernel_rfl) (by kernel_rfl) (by decide) (fun _ _ _ h => h) (Or.inl ⟨by rfl, fun w' hS => (by go_simp)⟩) k0 ?_
 try simp only [Go.Act.put, Zx, Zy, Zz]
 refine wpL_take (i := 1) (v := (.pointer (some ⟨t, 0, none⟩))) (some 14) rfl rfl (by kernel_rfl) (by kernel_rfl) (by kernel_rfl) (by kernel_rfl) (by kernel_rfl) (by decide) (fun _ _ _ h => h) (Or.inl ⟨by rfl, fun w' hS => (by go_simp)⟩) k0 ?_
 try simp only [Go.Act.put, Zx, Zy, Zz]
 refine wpL_take (i := 2) (v := (.pointer (some ⟨t, 4, none⟩))) (some 15) rfl rfl (by kernel_rfl) (by kernel_rfl) (by kernel_rfl) (by kernel_rfl) (by kernel_rfl) (by decide) (fun _ _ _ h => h) (Or.inl ⟨by rfl, fun w' hS => (by go_simp)⟩) k0 ?_
 try simp only [Go.Act.put, Zx, Zy, Zz]
 refine wpL_take (i := 3) (v := (.map (some d))) (some 16) rfl rfl (by kernel_rfl) (by kernel_rfl) (by kernel_rfl) (by kernel_rfl) (by kernel_rfl) (by decide) (fun _ _ _ h => h) (Or.inl ⟨by rfl, fun w' hS => (by have z0 := M4 _ hS; go_simp)⟩) k0 ?_
 try simp only [Go.Act.put, Zx, Zy, Zz]
 refine wpL_take (i := 4) (v := (.agg #[.int .u16 k.1, .string k.2])) (some 17) rfl rfl (by kernel_rfl) (by kernel_rfl) (by kernel_rfl) (by kernel_rfl) (by kernel_rfl) (by decide) (fun _ _ _ h => h) (Or.inl ⟨by rfl, fun w' hS => (by have z0 := K0 _ hS; have z1 := K1 _ hS; go_simp)⟩) k0 ?_
 try simp only [Go.Act.put, Zx, Zy, Zz]
 refine wpL_take (i := 5) (v := (.int .i64 (T.gn k))) (some 18) rfl rfl (by kernel_rfl) (by kernel_rfl) (by kernel_rfl) (by kernel_rfl) (by kernel_rfl) (by decide) (fun _ _ _ h => h) (Or.inl ⟨by rfl, fun w' hS => (by have z0 := L0 _ hS; go_simp)⟩) k0 ?_
 try simp only [Go.Act.put, Zx, Zy, Zz]
 refine wpL_take (i := 6) (v := (.int .i64 (T.gn k + 1))) (some 19) rfl rfl (by kernel_rfl) (by kernel_rfl) (by kernel_rfl) (by kernel_rfl) (by kernel_rfl) (by decide) (fun _ _ _ h => h) (Or.inl ⟨by rfl, fun w' hS => (by go_simp)⟩) k0 ?_
 try simp only [Go.Act.put, Zx, Zy, Zz]
 refine wpL_ready (rs := [7]) (by kernel_rfl) (by simp) (AllL.cons (o := { dst := some 20, op := Op.mapEntry 202 (Operand.tmp 16) (Operand.tmp 17), type := 0, pos := _, after := #[{ on := 3, ground := Ground.data }, { on := 4, ground := Ground.data }, { on := 0, ground := Ground.phase }, { on := 1, ground := Ground.phase }, { on := 2, ground := Ground.phase }, { on := 3, ground := Ground.phase }, { on := 4, ground := Ground.phase }, { on := 5, ground := Ground.textOnly Departure.mapOpAssignEntry }, { on := 6, ground := Ground.textOnly Departure.mapOpAssignEntry }], guard := none }) rfl (fun K' hK => ?_) AllL.nil)
 rw [if_pos (by rfl)]
 go_simp
 refine hK.out _ _ (fun _ => E2) ?_
 clear hK
 try simp only [Go.Act.put, Zx, Zy, Zz]
 refine wpL_take (i := 8) (v := (.int .i64 (sn : Nat))) (some 21) rfl rfl (by kernel_rfl) (by kernel_rfl) (by kernel_rfl) (by kernel_rfl) (by kernel_rfl) (by decide) (fun _ _ _ h => h) (Or.inl ⟨by rfl, fun w' hS => (by go_simp)⟩) E2 ?_
 try simp only [Go.Act.put, Zx, Zy, Zz]
 refine wpL_ready (rs := [9]) (by kernel_rfl) (by simp) (AllL.cons (o := { dst := none, op := Op.entryStore 202 (Operand.tmp 16) (Operand.tmp 21) (Operand.tmp 19), type := 0, pos := _, after := #[{ on := 3, ground := Ground.data }, { on := 8, ground := Ground.data }, { on := 6, ground := Ground.data }, { on := 7, ground := Ground.chain }, { on := 0, ground := Ground.phase }, { on := 1, ground := Ground.phase }, { on := 2, ground := Ground.phase }, { on := 3, ground := Ground.phase }, { on := 4, ground := Ground.phase }, { on := 5, ground := Ground.phase }, { on := 6, ground := Ground.phase }, { on := 7, ground := Ground.phase }, { on := 8, ground := Ground.phase }], guard := none }) rfl (fun K' hK => ?_) AllL.nil)
 rw [if_pos (by rfl)]
 go_simp
 refine hK.out _ _ (fun h => absurd h (by decide)) ?_
 clear hK
 try simp only [Go.Act.put, Zx, Zy, Zz]
 refine wpL_done (by kernel_rfl) ?_ _
 rw [← hW3]
 clear hW3 E1 E2 E3 M4 K0 K1 L0 k0 hwr
 go_upto_region 4 with fail
 have k3 : Touch [] W3 W3.drew := (Touch.refl _ _).drew
 refine wp_region_L (S := fun w' => Touch [] W3 w') (st := 5) (by kernel_rfl) ?_
 refine wpL_takeY (i := 0) (v := (.pointer (some ⟨t, 0, none⟩))) (some 22) rfl rfl (by kernel_rfl) (by kernel_rfl) (by kernel_rfl) (by decide) (fun _ _ _ h => h) (Or.inl ⟨by rfl, fun w' hS => (by go_simp)⟩) (fun _ => k3) ?_
 try simp only [Go.Act.put, Zx, Zy, Zz]
 refine wpL_takeY (i := 1) (v := (.pointer (some ⟨t, 0, none⟩))) (some 23) rfl rfl (by kernel_rfl) (by kernel_rfl) (by kernel_rfl) (by decide) (fun _ _ _ h => h) (Or.inl ⟨by rfl, fun w' hS => (by go_simp)⟩) (fun _ => k3) ?_
 try simp only [Go.Act.put, Zx, Zy, Zz]
 refine wpL_takeY (i := 2) (v := (.pointer (some ⟨t, 3, none⟩))) (some 24) rfl rfl (by kernel_rfl) (by kernel_rfl) (by kernel_rfl) (by decide) (fun _ _ _ h => h) (Or.inl ⟨by rfl, fun w' hS => (by go_simp)⟩) (fun _ => k3) ?_
 try simp only [Go.Act.put, Zx, Zy, Zz]
 refine wpL_take (i := 3) (v := (.map (some c))) (some 25) rfl rfl (by kernel_rfl) (by kernel_rfl) (by kernel_rfl) (by kernel_rfl) (by kernel_rfl) (by decide) (fun _ _ _ h => h) (Or.inl ⟨by rfl, fun w' hS => (by have z0 := M3 _ hS; go_simp)⟩) k3 ?_
 try simp only [Go.Act.put, Zx, Zy, Zz]
 refine wpL_take (i := 4) (v := (.agg #[.int .u16 k.1, .string k.2])) (some 26) rfl rfl (by kernel_rfl) (by kernel_rfl) (by kernel_rfl) (by kernel_rfl) (by kernel_rfl) (by decide) (fun _ _ _ h => h) (Or.inl ⟨by rfl, fun w' hS => (by have z0 := B0 _ hS; have z1 := B1 _ hS; go_simp)⟩) k3 ?_
 try simp only [Go.Act.put, Zx, Zy, Zz]
 refine wpL_ready (rs := [5]) (by kernel_rfl) (by simp) (AllL.cons (o := { dst := none, op := Op.call { callee := Callee.builtin Builtin.delete, args := #[Operand.tmp 25, Operand.tmp 26], argTypes := #[202, 35] }, type := 0, pos := _, after := #[{ on := 3, ground := Ground.data }, { on := 4, ground := Ground.data }], guard := none }) rfl (fun K' hK => ?_) AllL.nil)
 rw [if_pos (by rfl)]
 go_simp
 refine hK.out _ _ (fun h => absurd h (by decide)) ?_
 clear hK
 try simp only [Go.Act.put, Zx, Zy, Zz]
 refine wpL_done (by kernel_rfl) ?_ _
 go_wp2
 go_end0
 exact ⟨rfl, HF.out⟩
set_option maxHeartbeats 4000000 in
set_option maxRecDepth 100000 in
theorem tGoOn_none (h : Tm w t p c none nc ng Ps T N) (hN : N ≤ 3000000000000) (hL : Lv T) (hk : Ok k) : Calls Tryz.prog 108 #[PT t, kv k] w fun e w' => e = .returned (.tuple #[]) ∧ TqE w w' t (fpT t p c none Ps) (goOn T k) (N + 1) := by
 obtain ⟨V, hV⟩ : ∃ V, V = w.alloc (bxK k) := ⟨_, rfl⟩
 have tV : Touch [] w V := by rw [hV]; exact (Touch.refl _ _).alloc _
 have h0 := h.keep0 tV
 have c4v := h0.cs.c4
 have fv := h0.fz
 obtain ⟨h1, t1⟩ := h0.made
 obtain ⟨d, hd⟩ : ∃ d, d = V.heap.size := ⟨_, rfl⟩
 obtain ⟨W, hW⟩ : ∃ W, W = (V.alloc (.map #[] 0)).setCell ⟨t, 4, none⟩ (.map (some d)) := ⟨_, rfl⟩
 rw [← hd] at h1 t1
 rw [← hW] at h1 t1
 have hVb : V.heap[w.heap.size]? = some (.cells #[.int .u16 k.1, .string k.2] 35 (0, 0)) := by rw [hV]; exact heap_alloc_new w _
 have lt := h.lt t (mem_fpT.2 (Or.inl rfl))
 have ltV := h0.lt t (mem_fpT.2 (Or.inl rfl))
 have hlV : w.heap.size < V.heap.size := block_lt hVb
 have hcm : (V.alloc (.map #[] 0)).setCell ⟨t, 4, none⟩ (.map (some d)) = (V.setCell ⟨t, 4, none⟩ (.map (some d))).alloc (.map #[] 0) := by go_simp
 rw [hcm] at hW
 clear hcm
 have c4 := h1.cs.c4
 have HE : Hid (∀ W1 W2 nc' ng', Touch [d] W W1 → MapK KC W1 d ng' (kupd (genV T) k (.int .i64 (T.gn k + 1))) → Touch [c] W1 W2 → MapK KC W2 c nc' (kdel (curV T) k) → ng' ≤ N + 1 → nc' ≤ N + 1 → TqE w W2 t (fpT t p c none Ps) (goOn T k) (N + 1)) := fun W1 W2 nc' ng' a1 a2 a3 a4 a5 a6 => by
  obtain ⟨q1, q2⟩ := goOn_end h1 hk a1 a2 a3 a4 a5 a6
  have hz := tV.size
  refine TqE.from0 tV ⟨_, ⟨p, c, some d, nc', ng', Ps, rfl, q1, hL⟩, (t1.mono (fun i hi => ?_)).trans q2 (fun i hi => ?_), fun i hi => ?_⟩
  ·simp only [List.mem_singleton] at hi; exact mem_fpT.2 (Or.inl hi)
  ·simp only [List.mem_cons, List.not_mem_nil, or_false] at hi
   rcases hi with e | e
   ·exact Or.inr (by omega)
   ·exact Or.inl (mem_fpT.2 (Or.inr (Or.inr (Or.inl e))))
  ·rcases mem_fpT.1 hi with e | e | e | e | e
   ·exact Or.inl (mem_fpT.2 (Or.inl e))
   ·exact Or.inl (mem_fpT.2 (Or.inr (Or.inl e)))
   ·exact Or.inl (mem_fpT.2 (Or.inr (Or.inr (Or.inl e))))
   ·simp only [Option.some.injEq] at e; exact Or.inr (by omega)
   ·exact Or.inl (mem_fpT.2 (Or.inr (Or.inr (Or.inr (Or.inr e)))))
 have hWb : W.heap[w.heap.size]? = some (.cells #[.int .u16 k.1, .string k.2] 35 (0, 0)) := t1.keep hVb (by simp only [List.mem_singleton]; omega)
 obtain ⟨nt1, nt2, nt3⟩ := h1.tne
 obtain ⟨sn, o1, E1, E2, o2, E3, ng', E4, E5, E6⟩ := gen_entry h1 hk hN
 obtain ⟨o3, D1, D2, nc', D3, D4⟩ := cur_del h1 hk E6
 have HF := hid (HE.out _ _ nc' ng' E6 E5 D2 D4 E4 D3)
 have M4 : ∀ w', GsS W d k (T.gn k) w' → w'.cell? ⟨t, 4, none⟩ = some (.map (some d)) := fun w' q => cell_at (q.1.keep h1.bl (by simp only [List.mem_singleton]; exact fun e => nt3 (by rw [e]))) rfl
 have K0 : ∀ w', GsS W d k (T.gn k) w' → w'.cell? ⟨w.heap.size, 0, none⟩ = some (.int .u16 k.1) := fun w' q => cell_at (q.1.keep hWb (by simp only [List.mem_singleton]; omega)) rfl
 have K1 : ∀ w', GsS W d k (T.gn k) w' → w'.cell? ⟨w.heap.size, 1, none⟩ = some (.string k.2) := fun w' q => cell_at (q.1.keep hWb (by simp only [List.mem_singleton]; omega)) rfl
 have L0 : ∀ w', GsS W d k (T.gn k) w' → (Instr.lookup 202 (.map (some d)) (.agg #[.int .u16 k.1, .string k.2]) false).run Tryz.prog w' = .ok (.int .i64 (T.gn k)) w' := fun w' q => q.2
 have k0 : GsS W d k (T.gn k) W.drew := ⟨(Touch.refl _ _).drew, (h1.keep0 (Touch.refl _ _).drew).lookG hk⟩
 have hwr : IntKind.i64.wrap (T.gn k + 1) = T.gn k + 1 := by have := h.iv.gn k; rw [IntKind.wrap_i64]; omega
 obtain ⟨W3, hW3⟩ : ∃ W3, W3 = setBlock (setBlock W.drew d o1) d o2 := ⟨_, rfl⟩
 rw [← hW3] at HF D1 D2 D4
 have tW : Touch [d] W W3 := by rw [hW3]; exact E6
 have M3 : ∀ w', Touch [] W3 w' → w'.cell? ⟨t, 3, none⟩ = some (.map (some c)) := fun w' q => cell_at ((tW.trans q (fun _ e => by cases e)).keep h1.bl (by simp only [List.mem_singleton]; exact fun e => nt3 (by rw [e]))) rfl
 have B0 : ∀ w', Touch [] W3 w' → w'.cell? ⟨w.heap.size, 0, none⟩ = some (.int .u16 k.1) := fun w' q => cell_at ((tW.trans q (fun _ e => by cases e)).keep hWb (by simp only [List.mem_singleton]; omega)) rfl
 have B1 : ∀ w', Touch [] W3 w' → w'.cell? ⟨w.heap.size, 1, none⟩ = some (.string k.2) := fun w' q => cell_at ((tW.trans q (fun _ e => by cases e)).keep hWb (by simp only [List.mem_singleton]; omega)) rfl
 have D1' := D1 0
 clear h h0 h1 HE E4 E5 E6 D1 D2 D3 D4 tV t1 hN hk tW hWb hVb lt hlV nt1 nt2 nt3
 unfold PT kv
 unfold bxK at hV
 have qm := eqMK_none V
 have hmm := @run_makeMap Tryz.prog
 go_enter Tryz.func108, Tryz.ntmps108
 go_upto_region 1 with fail
 rw [← hV]
 clear hV
 go_upto_region 2 with fail
 go_wp2_with fail
 rw [← hd, ← hW]
 clear hd hW c4v fv hmm ltV
 go_upto_region 3 with fail
 refine wp_region_L (S := GsS W d k (T.gn k)) (st := 9) (by kernel_rfl) ?_
 refine wpL_take (i := 0) (v := (.pointer (some ⟨t, 0, none⟩))) (some 13) rfl rfl (by kernel_rfl) (by kernel_rfl) (by kernel_rfl) (by kernel_rfl) (by kernel_rfl) (by decide) (fun _ _ _ h => h) (Or.inl ⟨by rfl, fun w' hS => (by go_simp)⟩) k0 ?_
 try simp only [Go.Act.put, Zx, Zy, Zz]
 refine wpL_take (i := 1) (v := (.pointer (some ⟨t, 0, none⟩))) (some 14) rfl rfl (by kernel_rfl) (by kernel_rfl) (by kernel_rfl) (by kernel_rfl) (by kernel_rfl) (by decide) (fun _ _ _ h => h) (Or.inl ⟨by rfl, fun w' hS => (by go_simp)⟩) k0 ?_
 try simp only [Go.Act.put, Zx, Zy, Zz]
 refine wpL_take (i := 2) (v := (.pointer (some ⟨t, 4, none⟩))) (some 15) rfl rfl (by kernel_rfl) (by kernel_rfl) (by kernel_rfl) (by kernel_rfl) (by kernel_rfl) (by decide) (fun _ _ _ h => h) (Or.inl ⟨by rfl, fun w' hS => (by go_simp)⟩) k0 ?_
 try simp only [Go.Act.put, Zx, Zy, Zz]
 refine wpL_take (i := 3) (v := (.map (some d))) (some 16) rfl rfl (by kernel_rfl) (by kernel_rfl) (by kernel_rfl) (by kernel_rfl) (by kernel_rfl) (by decide) (fun _ _ _ h => h) (Or.inl ⟨by rfl, fun w' hS => (by have z0 := M4 _ hS; go_simp)⟩) k0 ?_
 try simp only [Go.Act.put, Zx, Zy, Zz]
 refine wpL_take (i := 4) (v := (.agg #[.int .u16 k.1, .string k.2])) (some 17) rfl rfl (by kernel_rfl) (by kernel_rfl) (by kernel_rfl) (by kernel_rfl) (by kernel_rfl) (by decide) (fun _ _ _ h => h) (Or.inl ⟨by rfl, fun w' hS => (by have z0 := K0 _ hS; have z1 := K1 _ hS; go_simp)⟩) k0 ?_
 try simp only [Go.Act.put, Zx, Zy, Zz]
 refine wpL_take (i := 5) (v := (.int .i64 (T.gn k))) (some 18) rfl rfl (by kernel_rfl) (by kernel_rfl) (by kernel_rfl) (by kernel_rfl) (by kernel_rfl) (by decide) (fun _ _ _ h => h) (Or.inl ⟨by rfl, fun w' hS => (by have z0 := L0 _ hS; go_simp)⟩) k0 ?_
 try simp only [Go.Act.put, Zx, Zy, Zz]
 refine wpL_take (i := 6) (v := (.int .i64 (T.gn k + 1))) (some 19) rfl rfl (by kernel_rfl) (by kernel_rfl) (by kernel_rfl) (by kernel_rfl) (by kernel_rfl) (by decide) (fun _ _ _ h => h) (Or.inl ⟨by rfl, fun w' hS => (by go_simp)⟩) k0 ?_
 try simp only [Go.Act.put, Zx, Zy, Zz]
 refine wpL_ready (rs := [7]) (by kernel_rfl) (by simp) (AllL.cons (o := { dst := some 20, op := Op.mapEntry 202 (Operand.tmp 16) (Operand.tmp 17), type := 0, pos := _, after := #[{ on := 3, ground := Ground.data }, { on := 4, ground := Ground.data }, { on := 0, ground := Ground.phase }, { on := 1, ground := Ground.phase }, { on := 2, ground := Ground.phase }, { on := 3, ground := Ground.phase }, { on := 4, ground := Ground.phase }, { on := 5, ground := Ground.textOnly Departure.mapOpAssignEntry }, { on := 6, ground := Ground.textOnly Departure.mapOpAssignEntry }], guard := none }) rfl (fun K' hK => ?_) AllL.nil)
 rw [if_pos (by rfl)]
 go_simp
 refine hK.out _ _ (fun _ => E2) ?_
 clear hK
 try simp only [Go.Act.put, Zx, Zy, Zz]
 refine wpL_take (i := 8) (v := (.int .i64 (sn : Nat))) (some 21) rfl rfl (by kernel_rfl) (by kernel_rfl) (by kernel_rfl) (by kernel_rfl) (by kernel_rfl) (by decide) (fun _ _ _ h => h) (Or.inl ⟨by rfl, fun w' hS => (by go_simp)⟩) E2 ?_
 try simp only [Go.Act.put, Zx, Zy, Zz]
 refine wpL_ready (rs := [9]) (by kernel_rfl) (by simp) (AllL.cons (o := { dst := none, op := Op.entryStore 202 (Operand.tmp 16) (Operand.tmp 21) (Operand.tmp 19), type := 0, pos := _, after := #[{ on := 3, ground := Ground.data }, { on := 8, ground := Ground.data }, { on := 6, ground := Ground.data }, { on := 7, ground := Ground.chain }, { on := 0, ground := Ground.phase }, { on := 1, ground := Ground.phase }, { on := 2, ground := Ground.phase }, { on := 3, ground := Ground.phase }, { on := 4, ground := Ground.phase }, { on := 5, ground := Ground.phase }, { on := 6, ground := Ground.phase }, { on := 7, ground := Ground.phase }, { on := 8, ground := Ground.phase }], guard := none }) rfl (fun K' hK => ?_) AllL.nil)
 rw [if_pos (by rfl)]
 go_simp
 refine hK.out _ _ (fun h => absurd h (by decide)) ?_
 clear hK
 try simp only [Go.Act.put, Zx, Zy, Zz]
 refine wpL_done (by kernel_rfl) ?_ _
 rw [← hW3]
 clear hW3 E1 E2 E3 M4 K0 K1 L0 k0 hwr
 go_upto_region 4 with fail
 have k3 : Touch [] W3 W3.drew := (Touch.refl _ _).drew
 refine wp_region_L (S := fun w' => Touch [] W3 w') (st := 5) (by kernel_rfl) ?_
 refine wpL_takeY (i := 0) (v := (.pointer (some ⟨t, 0, none⟩))) (some 22) rfl rfl (by kernel_rfl) (by kernel_rfl) (by kernel_rfl) (by decide) (fun _ _ _ h => h) (Or.inl ⟨by rfl, fun w' hS => (by go_simp)⟩) (fun _ => k3) ?_
 try simp only [Go.Act.put, Zx, Zy, Zz]
 refine wpL_takeY (i := 1) (v := (.pointer (some ⟨t, 0, none⟩))) (some 23) rfl rfl (by kernel_rfl) (by kernel_rfl) (by kernel_rfl) (by decide) (fun _ _ _ h => h) (Or.inl ⟨by rfl, fun w' hS => (by go_simp)⟩) (fun _ => k3) ?_
 try simp only [Go.Act.put, Zx, Zy, Zz]
 refine wpL_takeY (i := 2) (v := (.pointer (some ⟨t, 3, none⟩))) (some 24) rfl rfl (by kernel_rfl) (by kernel_rfl) (by kernel_rfl) (by decide) (fun _ _ _ h => h) (Or.inl ⟨by rfl, fun w' hS => (by go_simp)⟩) (fun _ => k3) ?_
 try simp only [Go.Act.put, Zx, Zy, Zz]
 refine wpL_take (i := 3) (v := (.map (some c))) (some 25) rfl rfl (by kernel_rfl) (by kernel_rfl) (by kernel_rfl) (by kernel_rfl) (by kernel_rfl) (by decide) (fun _ _ _ h => h) (Or.inl ⟨by rfl, fun w' hS => (by have z0 := M3 _ hS; go_simp)⟩) k3 ?_
 try simp only [Go.Act.put, Zx, Zy, Zz]
 refine wpL_take (i := 4) (v := (.agg #[.int .u16 k.1, .string k.2])) (some 26) rfl rfl (by kernel_rfl) (by kernel_rfl) (by kernel_rfl) (by kernel_rfl) (by kernel_rfl) (by decide) (fun _ _ _ h => h) (Or.inl ⟨by rfl, fun w' hS => (by have z0 := B0 _ hS; have z1 := B1 _ hS; go_simp)⟩) k3 ?_
 try simp only [Go.Act.put, Zx, Zy, Zz]
 refine wpL_ready (rs := [5]) (by kernel_rfl) (by simp) (AllL.cons (o := { dst := none, op := Op.call { callee := Callee.builtin Builtin.delete, args := #[Operand.tmp 25, Operand.tmp 26], argTypes := #[202, 35] }, type := 0, pos := _, after := #[{ on := 3, ground := Ground.data }, { on := 4, ground := Ground.data }], guard := none }) rfl (fun K' hK => ?_) AllL.nil)
 rw [if_pos (by rfl)]
 go_simp
 refine hK.out _ _ (fun h => absurd h (by decide)) ?_
 clear hK
 try simp only [Go.Act.put, Zx, Zy, Zz]
 refine wpL_done (by kernel_rfl) ?_ _
 go_wp2
 go_end0
 exact ⟨rfl, HF.out⟩
theorem goOnT {t : Nat} {F : List Nat} (h : Tq w t F T N) (hN : N ≤ 3000000000000) (hk : Ok k) : Calls Tryz.prog 108 #[PT t, kv k] w fun e w' => e = .returned (.tuple #[]) ∧ TqE w w' t F (goOn T k) (N + 1) := by
 obtain ⟨p, c, g, nc, ng, Ps, rfl, h, hL⟩ := h
 cases g with
 | none => exact tGoOn_none h hN hL hk
 | some d => exact tGoOn_some h hN hL hk
end
end Go.Proofs.YtllchnancjgijaaGreat.Ta
/- The contracts of gone, Leave and Release. -/
namespace Go.Proofs.YtllchnancjgijaaGreat.Ta
open Go.RowKit Go.Maps Go.ChangeMaps
def bxR (R : Rn) : Obj := .cells #[.int .i64 R.run, .int .u16 R.sp, .string R.nm, .int .i64 R.gen, .bool R.rf] 49
def bxG : Obj := .cells #[.bool false, .bool false] 143
section
variable (w : World) (t : Nat) (F : List Nat) (T : Tb) (N : Nat)
theorem curBy_mem {R : Rn} {S : St} (h : Ti T N) (hR : (R, S) ∈ T.rs) : curBy T R.run = isCur T R := by
 unfold curBy
 have := runOf_of_mem h hR
 simp only at this
 rw [this]
set_option maxHeartbeats 2000000 in
theorem goneTc (h : Tq w t F T N) (hN : N ≤ 3000000000000) (R : Rn) (S : St) (hR : (R, S) ∈ T.rs) (cc : Bool) : Calls Tryz.prog 110 #[PT t, rv R, .bool cc] w fun e w' => e = .returned (.agg #[.bool cc, .bool (goneB T R cc)]) ∧ TqE w w' t F (goneT T R cc) (N + 1) := by
 obtain ⟨W, hW⟩ : ∃ W, W = (w.alloc (bxR R)).alloc bxG := ⟨_, rfl⟩
 have t0 : Touch [] w W := by rw [hW]; exact ((Touch.refl _ _).alloc _).alloc _
 have hF := h.lt
 have h1 := h.keep0 t0
 have hk : Ok (kOf R) := h.iv.ok _ hR
 have hr := h.iv.rng _ hR
 have hbg := h.iv.bg.2
 simp only at hr
 have HI := hid (isCurT W t F T N h1 hN R.run (W64.mk (by omega) (by omega)))
 rw [curBy_mem T N h.iv hR] at HI
 have HO : Hid (∀ w2, Touch [] W w2 → Calls Tryz.prog 108 #[PT t, kv (kOf R)] w2 fun e w' => e = .returned (.tuple #[]) ∧ TqE W w' t F (goOn T (kOf R)) (N + 1)) := fun w2 T' => (goOnT (h1.keep0 T') hN hk).mono (fun e w' hh => ⟨hh.1, TqE.from0 T' hh.2⟩)
 have hsz : W.heap.size = w.heap.size + 1 + 1 := by rw [hW]; simp
 have hb1 : W.heap[w.heap.size + 1]? = some (.cells #[.bool false, .bool false] 143 (0, 0)) := by rw [hW]; have := heap_alloc_new (w.alloc (bxR R)) bxG; rwa [World.size_alloc] at this
 have hb0 : W.heap[w.heap.size]? = some (.cells #[.int .i64 R.run, .int .u16 R.sp, .string R.nm, .int .i64 R.gen, .bool R.rf] 49 (0, 0)) := by rw [hW]; exact (Below.heap_alloc _ _ _ (by simp)).trans (heap_alloc_new w (bxR R))
 have H0 : Hid (∀ w2, Touch [] W w2 → w2.cell? ⟨w.heap.size, 0, none⟩ = some (.int .i64 R.run) ∧ w2.cell? ⟨w.heap.size, 1, none⟩ = some (.int .u16 R.sp) ∧ w2.cell? ⟨w.heap.size, 2, none⟩ = some (.string R.nm)) := fun w2 T' => by
  have q := T'.keep hb0 (by simp)
  exact ⟨cell_at q rfl, cell_at q rfl, cell_at q rfl⟩
 have H1 : Hid (∀ w2, Touch F W w2 → w2.cell? ⟨w.heap.size + 1, 0, none⟩ = some (.bool false) ∧ w2.cell? ⟨w.heap.size + 1, 1, none⟩ = some (.bool false) ∧ ∀ i, w2.frozen? ⟨w.heap.size + 1, i, none⟩ = false) := fun w2 T' => by
  have q := T'.keep hb1 (fun e => by have := hF _ e; omega)
  exact ⟨cell_at q rfl, cell_at q rfl, froz_at q⟩
 have HT : Hid (∀ w1 w2 T1, TqE W w1 t F T1 (N + 1) → Touch [w.heap.size + 1] w1 w2 → TqE w w2 t F T1 (N + 1)) := fun w1 w2 T1 q T2 => TqE.box t0 q hF (by omega) (by omega) T2
 have HS : Hid (∀ w1, Touch [] W w1 → TqE W w1 t F T (N + 1)) := fun w1 T' => TqE.touch h1 T' (Nat.le_succ N)
 have HTF : Hid (∀ w1, TqE W w1 t F (goOn T (kOf R)) (N + 1) → Touch F W w1) := fun w1 q => by obtain ⟨_, _, q, _⟩ := q; exact q
 have TR : Touch [] W W := Touch.refl _ _
 obtain ⟨x0, x1, x2⟩ := H0.out W TR
 obtain ⟨y0, y1, yf⟩ := H1.out W (Touch.refl _ _)
 have tset : ∀ (w1 : World) (b1 b2 : Bool), Touch [w.heap.size + 1] w1 ((w1.setCell ⟨w.heap.size + 1, 0, none⟩ (.bool b1)).setCell ⟨w.heap.size + 1, 1, none⟩ (.bool b2)) := fun w1 b1 b2 => ((Touch.refl _ _).setCell (Or.inl (by simp)) _).setCell (Or.inl (by simp)) _
 have TS := hid tset
 clear h h1 hF hk hr hbg hb0 hb1 tset
 unfold goneT goneB
 unfold kv kOf at HO
 unfold bxR bxG at hW
 unfold PT rv at *
 cases cc with
 | false =>
  simp only [Bool.false_and]
  rw [if_neg (by simp)]
  go_enter Tryz.func110, Tryz.ntmps110
  go_upto_region 1 with fail
  rw [← hW]
  clear hW
  go_wp2
  exact bodyPost_ret (v := .agg #[.bool false, .bool false]) (by simp [results, Tryz.results110, go_sem, y0, y1]) rfl ⟨rfl, HT.out _ _ _ (HS.out _ TR) (TS.out _ _ _)⟩
 | true =>
  simp only [Bool.true_and]
  cases hc : isCur T R with
  | false =>
   rw [hc] at HI
   rw [if_neg (by simp)]
   clear hc
   go_enter Tryz.func110, Tryz.ntmps110
   go_upto_region 1 with fail
   rw [← hW]
   clear hW
   go_wp2_with (go_at_call 115; refine HI.out.mono ?_; rintro e w2 ⟨rfl, t2⟩; clear x0 x1 x2 y0 y1 yf; obtain ⟨y0, y1, yf⟩ := H1.out w2 (t2.mono (fun _ e => by cases e)); have T2 := hid t2; clear t2)
   exact bodyPost_ret (v := .agg #[.bool true, .bool false]) (by simp [results, Tryz.results110, go_sem, y0, y1]) rfl ⟨rfl, HT.out _ _ _ (HS.out _ T2.out) (TS.out _ _ _)⟩
  | true =>
   rw [hc] at HI
   rw [if_pos (by simp)]
   clear hc
   go_enter Tryz.func110, Tryz.ntmps110
   go_upto_region 1 with fail
   rw [← hW]
   clear hW
   go_wp2_with (first
    | (go_at_call 115; refine HI.out.mono ?_; rintro e w2 ⟨rfl, t2⟩; clear x0 x1 x2 y0 y1 yf; obtain ⟨x0, x1, x2⟩ := H0.out w2 t2; have T2 := hid t2; clear t2)
    | (go_at_call 108; refine (HO.out _ T2.out).mono ?_; rintro e w3 ⟨rfl, r3⟩; clear x0 x1 x2; obtain ⟨y0, y1, yf⟩ := H1.out w3 (HTF.out _ r3); have R3 := hid r3; clear r3))
   exact bodyPost_ret (v := .agg #[.bool true, .bool true]) (by simp [results, Tryz.results110, go_sem, y0, y1]) rfl ⟨rfl, HT.out _ _ _ R3.out (TS.out _ _ _)⟩
theorem mem_setS {n : Int} {R : Rn} {S S' : St} (h : (R, S) ∈ T.rs) (hn : R.run = n) : (R, S') ∈ (setS T n S').rs := by
 simp only [setS, List.mem_map]
 exact ⟨(R, S), h, by simp [putS, hn]⟩
structure Stp (W w2 : World) (t : Nat) (F F1 : List Nat) (T1 : Tb) (q : Rb) (S' : St) (N : Nat) : Prop where
 tq : Tq w2 t F1 T1 N
 tf : Touch F W w2
 nf : Nf W F F1
 rq : ∃ F', Rq w2 q.b F' q.R S' N
theorem Tm.stp {W w2 : World} {t p c : Nat} {g : Option Nat} {nc ng : Nat} {A B : List Rb} {q : Rb} {T : Tb} {N M : Nat} {S' : St} (h : Tm W t p c g nc ng (A ++ q :: B) T N) (hN : N ≤ M) (hL : Lv T) (E : RqE W w2 q.b q.F q.R S' M) (hE : S'.ended = false) : ∃ F1, Stp W w2 t (fpT t p c g (A ++ q :: B)) F1 (setS T q.R.run S') q S' M := by
 obtain ⟨f, r1, r2, r3⟩ := h.step E hN
 obtain ⟨F', e1, _⟩ := E
 exact ⟨_, ⟨_, _, _, _, _, _, rfl, r1, hL.setS hE⟩, r2.mono fp_rec, fp_step r3, F', e1⟩
set_option maxHeartbeats 2000000 in
theorem tRel_no (h : Tq w t F T N) (n : Int) (hn : W64 n) (hr : runOf T n = none) : Calls Tryz.prog 64 #[PT t, .int .i64 n] w fun e w' => e = .returned (.tuple #[.agg #[.bool false, .bool false], .int .i64 122]) ∧ Touch [] w w' := by
 obtain ⟨p, c, g, nc, ng, Ps, rfl, h, hL⟩ := h
 have HR := hid (fun o => tRecord (h.keep0 ((Touch.refl _ _).alloc o)) n hn)
 rw [h.notIn hr] at HR
 simp only [Option.getD_none] at HR
 clear h
 unfold PT at *
 go_enter Tryz.func64, Tryz.ntmps64
 go_wp2_with (go_at_call 109; refine (HR.out _).mono ?_; rintro e w2 ⟨rfl, rfl⟩)
 refine bodyPost_ret (v := .tuple #[.agg #[.bool false, .bool false], .int .i64 122]) (by simp [results, Tryz.results64, go_sem]) rfl ⟨rfl, ?_⟩
 repeat (first | exact Touch.refl _ _ | apply Touch.alloc | (refine Touch.setCell ?_ (Or.inr (by simp)) _))
set_option maxHeartbeats 4000000 in
theorem tRel_at {p c : Nat} {g : Option Nat} {nc ng : Nat} {A B : List Rb} {q : Rb} (h : Tm w t p c g nc ng (A ++ q :: B) T N) (hN : N ≤ 3000000000000) (hL : Lv T) :
  Calls Tryz.prog 64 #[PT t, .int .i64 q.R.run] w fun e w' => e = .returned (.tuple #[.agg #[.bool (relB q.S), .bool (goneB T q.R (relB q.S))], .int .i64 0]) ∧ TqE w w' t (fpT t p c g (A ++ q :: B)) (goneT (setS T q.R.run (relS q.S)) q.R (relB q.S)) (N + 1) := by
 obtain ⟨F, hFe⟩ : ∃ F, F = fpT t p c g (A ++ q :: B) := ⟨_, rfl⟩
 obtain ⟨W, hW⟩ : ∃ W, W = w.alloc bxG := ⟨_, rfl⟩
 have t0 : Touch [] w W := by rw [hW]; exact (Touch.refl _ _).alloc _
 have hF : ∀ d, d ∈ F → d < w.heap.size := by rw [hFe]; exact h.lt
 have h1 := h.keep0 t0
 have HR := hid (tRecord_at h1 hN)
 have HLv : Hid (∀ w2, Touch [] W w2 → Calls Tryz.prog 112 #[PT q.b] w2 fun e w' => e = .returned (.bool (relB q.S)) ∧ RqE w2 w' q.b q.F q.R (relS q.S) N) := fun w2 T' => release14 w2 q.b N q.F q.R q.S ((h1.recs q (by simp)).keep0 T') hN
 have hE := rel_live (hL _ h.memR)
 have HP : Hid (∀ w2 w3, Touch [] W w2 → RqE w2 w3 q.b q.F q.R (relS q.S) N → ∃ F1, Stp w2 w3 t F F1 (setS T q.R.run (relS q.S)) q (relS q.S) N) := fun w2 w3 T' e => by rw [hFe]; exact (h1.keep0 T').stp (Nat.le_refl N) hL e hE
 have hm := mem_setS T (S' := relS q.S) h.memR rfl
 have HG : Hid (∀ w2 w3 F1, Touch [] W w2 → Stp w2 w3 t F F1 (setS T q.R.run (relS q.S)) q (relS q.S) N → Calls Tryz.prog 110 #[PT t, rv q.R, .bool (relB q.S)] w3 fun e w' => e = .returned (.agg #[.bool (relB q.S), .bool (goneB T q.R (relB q.S))]) ∧ TqE W w' t F (goneT (setS T q.R.run (relS q.S)) q.R (relB q.S)) (N + 1)) := fun w2 w3 F1 T' s => (goneTc w3 t F1 _ N s.tq hN q.R _ hm _).mono (fun e w' hh => ⟨hh.1, TqE.from0 T' (TqE.trans (T1 := T) s.tf s.nf hh.2)⟩)
 have HRn := hid (run8 W q.b N q.F q.R q.S (h1.recs q (by simp)))
 have HT : Hid (∀ w1 w2 T1, TqE W w1 t F T1 (N + 1) → Touch [w.heap.size] w1 w2 → TqE w w2 t F T1 (N + 1)) := fun w1 w2 T1 q' T2 => TqE.box t0 q' hF (Nat.le_refl _) (by rw [hW]; simp) T2
 have hb1 : W.heap[w.heap.size]? = some (.cells #[.bool false, .bool false] 143 (0, 0)) := by rw [hW]; exact heap_alloc_new w bxG
 have H1 : Hid (∀ w2, Touch F W w2 → w2.cell? ⟨w.heap.size, 0, none⟩ = some (.bool false) ∧ w2.cell? ⟨w.heap.size, 1, none⟩ = some (.bool false) ∧ ∀ i, w2.frozen? ⟨w.heap.size, i, none⟩ = false) := fun w2 T' => by
  have q' := T'.keep hb1 (fun e => by have := hF _ e; omega)
  exact ⟨cell_at q' rfl, cell_at q' rfl, froz_at q'⟩
 have HTF : Hid (∀ w1 T1, TqE W w1 t F T1 (N + 1) → Touch F W w1) := fun w1 T1 q' => by obtain ⟨_, _, q', _⟩ := q'; exact q'
 have tset : ∀ (w1 : World) (b1 b2 : Bool), Touch [w.heap.size] w1 ((w1.setCell ⟨w.heap.size, 0, none⟩ (.bool b1)).setCell ⟨w.heap.size, 1, none⟩ (.bool b2)) := fun w1 b1 b2 => ((Touch.refl _ _).setCell (Or.inl (by simp)) _).setCell (Or.inl (by simp)) _
 have TS := hid tset
 rw [← hFe]
 clear h h1 hF hm hb1 tset hE t0 hFe hL
 unfold bxG at hW
 generalize goneT (setS T q.R.run (relS q.S)) q.R (relB q.S) = T2 at *
 generalize setS T q.R.run (relS q.S) = T1 at *
 generalize goneB T q.R (relB q.S) = B2 at *
 generalize relS q.S = S' at *
 generalize relB q.S = B1 at *
 unfold PT rv at *
 go_enter Tryz.func64, Tryz.ntmps64
 go_upto_region 1 with fail
 rw [← hW]
 clear hW
 go_wp2_with (first
  | (go_at_call 109; refine HR.out.mono ?_; rintro e w2 ⟨rfl, rfl⟩)
  | (go_at_call 111; refine HRn.out.mono ?_; rintro e w3 ⟨rfl, t3⟩; have T3 := hid t3; clear t3)
  | (go_at_call 112; refine (HLv.out _ T3.out).mono ?_; rintro e w4 ⟨rfl, r2⟩; obtain ⟨F1, s2⟩ := HP.out _ _ T3.out r2; have S2 := hid s2; clear r2 s2)
  | (go_at_call 110; refine (HG.out _ _ _ T3.out S2.out).mono ?_; rintro e w5 ⟨rfl, r4⟩; obtain ⟨y0, y1, yf⟩ := H1.out w5 (HTF.out _ _ r4); have R4 := hid r4; clear r4))
 exact bodyPost_ret (v := .tuple #[.agg #[.bool B1, .bool B2], .int .i64 0]) (by simp [results, Tryz.results64, go_sem, y0, y1]) rfl ⟨rfl, HT.out _ _ _ R4.out (TS.out _ _ _)⟩
theorem relT (h : Tq w t F T N) (hN : N ≤ 3000000000000) (n : Int) (hn : W64 n) : Calls Tryz.prog 64 #[PT t, .int .i64 n] w fun e w' => e = .returned (.tuple #[.agg #[.bool (tRelC T n), .bool (tRelA T n)], .int .i64 (tRelE T n)]) ∧ TqE w w' t F (tRel T n) (N + 1) := by
 unfold tRelC tRelA tRelE tRel
 cases hr : runOf T n with
 | none => exact (tRel_no w t F T N h n hn hr).mono (fun e w' hh => ⟨hh.1, TqE.touch h hh.2 (Nat.le_succ N)⟩)
 | some r =>
  obtain ⟨p, c, g, nc, ng, Ps, rfl, h, hL⟩ := h
  obtain ⟨A, q, B, rfl, rfl, rfl, _⟩ := h.found hr
  exact tRel_at w t T N h hN hL
end
end Go.Proofs.YtllchnancjgijaaGreat.Ta
