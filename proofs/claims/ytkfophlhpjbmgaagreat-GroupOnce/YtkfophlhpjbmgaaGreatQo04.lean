/- The contracts of Join, Leave and Release. -/
import Derived.Test.YtkfophlhpjbmgaaGreatQo03
import Derived.Test.YtkfophlhpjbmgaaGreatQo01
set_option linter.unusedVariables false
set_option linter.unusedSimpArgs false
set_option maxRecDepth 100000
namespace Go.Proofs.YtkfophlhpjbmgaaGreat.Ta
open Go.RowKit Go.Maps Go.ChangeMaps
theorem RqE.trans {w w1 w2 : World} {b N M : Nat} {F F1 : List Nat} {R : Rn} {S1 S2 : St} (h1 : Rq w1 b F1 R S1 M) (t1 : Touch F w w1) (n1 : Nf w F F1) (h2 : RqE w1 w2 b F1 R S2 N) : RqE w w2 b F R S2 N := by
 obtain ⟨F2, r1, r2, r3⟩ := h2
 exact ⟨F2, r1, t1.trans r2 n1, n1.trans r3 t1.size⟩
section
variable (w : World) (b N : Nat) (F : List Nat) (R : Rn) (S : St)
set_option maxHeartbeats 1000000 in
theorem left31 (h : Rq w b F R S N) (hN : N ≤ 3000000000000) (hE : S.ended = false) : Calls Tryz.prog 145 #[PT b] w fun e w' => e = .returned (.bool (leftB S)) ∧ RqE w w' b F R (leftS S) N := by
 have HI := hid (interest19 w b N F R S h hN)
 obtain ⟨sl, mp, ⟨c0, c1, c2, c3, c4, c5, c6, c7, c8, c9, c10, c11, c12, c13⟩, f8⟩ := h.cs
 have hl := h.blt
 have HX : Hid (RqE w (w.setCell ⟨b, 8, none⟩ (.bool (leftB S))) b F R (leftS S) N) := by
  obtain ⟨sl, m, cs, rfl, h, h1, h2, h3⟩ := h
  have T : Touch [b] w (w.setCell ⟨b, 8, none⟩ (.bool (leftB S))) := (Touch.refl _ _).setCell (Or.inl (by simp)) _
  refine ⟨_, ⟨sl, m, cs, rfl, ⟨h.rc.set8 _, h.ln.keep T (fun d hd e' => ?_) (fun d hd e' => ?_)⟩, h1, h2, h3.left hE⟩, T.mono (fun q hq => ?_), Nf.refl _ _⟩
  ·simp only [List.mem_singleton] at e'; exact row_ne h.rc h.ln.row hd e'
  ·simp only [List.mem_singleton] at e'; exact map_ne h.rc h.ln.mp hd e'
  ·simp only [List.mem_singleton] at hq; exact mem_fpR.2 (Or.inl hq)
 have HB : Hid (leftB S = decide (inter S = 0)) := rfl
 clear h c0 c1 c2 c3 c4 c5 c6 c7 c9 c10 c11 c12 c13
 obtain ⟨B, hB⟩ : ∃ B, B = leftB S := ⟨_, rfl⟩
 have hq : (inter S == 0) = B := by rw [hB, HB.out]; exact Bool.beq_eq_decide_eq _ _
 rw [← hB] at HX ⊢
 clear HB hB
 generalize inter S = n at *
 unfold PT at *
 go_enter Tryz.func145, Tryz.ntmps145
 go_wp2_with (go_at_call 172; refine HI.out.mono ?_; rintro e w ⟨rfl, rfl⟩)
 go_ret
 exact ⟨by simp [hq], by simpa [hq] using HX.out⟩
set_option maxHeartbeats 2000000 in
theorem join13 (h : Rq w b F R S N) (hN : N ≤ 3000000000000) (x : Int) (hx : W64 x) : Calls Tryz.prog 129 #[PT b, .int .i64 x] w fun e w' => e = .returned (.int .i64 (joinE S x)) ∧ RqE w w' b F R (joinS S x) (N + 1) := by
 have HS := hid (RqE.same h (Nat.le_succ N))
 obtain ⟨sl', mp', ⟨c0, c1, c2, c3, c4, c5, c6, c7, c8, c9, c10, c11, c12, c13⟩, f8⟩ := h.cs
 clear c0 c1 c2 c3 c4 c5 c6 c7 c10 c11 c12 c13 f8
 by_cases h1 : x < 1
 ·have e1 : joinE S x = 1 := by simp [joinE, h1]
  have e2 : joinS S x = S := by unfold joinS; rw [e1]; simp
  rw [e1, e2]
  clear h e1 e2 c8 c9
  unfold PT
  go_enter Tryz.func129, Tryz.ntmps129
  go_wp2
  go_ret
  exact ⟨rfl, HS.out⟩
 ·cases hE : S.ended with
  | true =>
   have e1 : joinE S x = 110 := by simp [joinE, h1, hE]
   have e2 : joinS S x = S := by unfold joinS; rw [e1]; simp
   rw [e1, e2]
   rw [hE] at c9
   clear h e1 e2 c8 hE
   unfold PT
   go_enter Tryz.func129, Tryz.ntmps129
   go_wp2
   go_ret
   exact ⟨rfl, HS.out⟩
  | false =>
   cases hC : S.canc with
   | true =>
    have e1 : joinE S x = 113 := by simp [joinE, h1, hE, hC]
    have e2 : joinS S x = S := by unfold joinS; rw [e1]; simp
    rw [e1, e2]
    rw [hE] at c9
    rw [hC] at c8
    clear h e1 e2 hE hC
    unfold PT
    go_enter Tryz.func129, Tryz.ntmps129
    go_wp2
    go_ret
    exact ⟨rfl, HS.out⟩
   | false =>
    rw [hE] at c9
    rw [hC] at c8
    obtain ⟨sl, m, cs, rfl, hr, hw, hl, hv⟩ := h
    have HH := hid (has29 hr x hx)
    rw [hw] at HH
    by_cases hm : x ∈ S.who
    ·have e1 : joinE S x = 111 := by simp [joinE, h1, hE, hC, hm]
     have e2 : joinS S x = S := by unfold joinS; rw [e1]; simp
     rw [e1, e2]
     rw [show decide (x ∈ S.who) = true by simp [hm]] at HH
     clear hr e1 e2 hE hC hm hw hl hv
     unfold PT
     unfold PL at HH
     go_enter Tryz.func129, Tryz.ntmps129
     go_wp2_with (go_at_call 160; refine HH.out.mono ?_; rintro e w ⟨rfl, rfl⟩)
     go_ret
     exact ⟨rfl, HS.out⟩
    ·have e1 : joinE S x = 0 := by simp [joinE, h1, hE, hC, hm]
     have e2 : joinS S x = { S with who := S.who ++ [x] } := by unfold joinS; rw [e1]; simp
     have hv2 := hv.join hx
     rw [e2] at hv2
     rw [e1, e2]
     rw [show decide (x ∈ S.who) = false by simp [hm]] at HH
     have HA := hid (add21 w b R sl m cs _ _ _ _ hr x hx (by omega) (by rw [hw]; exact hm) (by omega))
     have HX : Hid (∀ w', LnE w w' b R (S.kept && !S.ended) S.canc S.ended S.out (fpR b sl m) (cs ++ [x]) → RqE w w' b (fpR b sl m) R { S with who := S.who ++ [x] } (N + 1)) := fun w' ⟨sl', m', q1, q2, q3⟩ =>
      ⟨_, ⟨sl', m', cs ++ [x], rfl, q1, by rw [wl_app, wl_one (by omega), hw], by simp; exact hl, hv2⟩, q2, q3⟩
     clear hr e1 e2 hE hC hm hw hl hv hv2 HS
     unfold PT
     unfold PL at HH HA
     go_enter Tryz.func129, Tryz.ntmps129
     go_wp2_with (first | (go_at_call 160; refine HH.out.mono ?_; rintro e w ⟨rfl, rfl⟩) | (go_at_call 161; refine HA.out.mono ?_; rintro e w2 ⟨rfl, r⟩; have RR := hid (HX.out _ r); clear r))
     go_ret
     exact ⟨rfl, RR.out⟩
set_option maxHeartbeats 2000000 in
theorem leave10 (h : Rq w b F R S N) (hN : N ≤ 3000000000000) (x : Int) (hx : W64 x) : Calls Tryz.prog 144 #[PT b, .int .i64 x] w fun e w' => e = .returned (.tuple #[.bool (leaveB S x), .int .i64 (leaveE S x)]) ∧ RqE w w' b F R (leaveS S x) N := by
 have HS := hid (RqE.same h (Nat.le_refl N))
 obtain ⟨sl', mp', ⟨c0, c1, c2, c3, c4, c5, c6, c7, c8, c9, c10, c11, c12, c13⟩, f8⟩ := h.cs
 clear c0 c1 c2 c3 c4 c5 c6 c7 c8 c10 c11 c12 c13 f8
 cases hE : S.ended with
 | true =>
  have e1 : leaveE S x = 110 := by simp [leaveE, hE]
  have e2 : leaveS S x = S := by unfold leaveS; rw [e1]; simp
  have e3 : leaveB S x = false := by unfold leaveB; rw [e1]; simp
  rw [e1, e2, e3]
  rw [hE] at c9
  clear h e1 e2 e3 hE
  unfold PT
  go_enter Tryz.func144, Tryz.ntmps144
  go_wp2
  exact bodyPost_ret (v := .tuple #[.bool false, .int .i64 110]) (by simp [results, Tryz.results144, go_sem]) rfl ⟨rfl, HS.out⟩
 | false =>
  rw [hE] at c9
  obtain ⟨sl, m, cs, rfl, hr, hw, hl, hv⟩ := h
  have HH := hid (has29 hr x hx)
  rw [hw] at HH
  by_cases hm : x ∈ S.who
  ·have e1 : leaveE S x = 0 := by simp [leaveE, hE, hm]
   have e2 : leaveS S x = leftS (lessS S x) := by unfold leaveS; rw [e1]; simp
   have e3 : leaveB S x = leftB (lessS S x) := by unfold leaveB; rw [e1]; simp
   rw [e1, e2, e3]
   rw [show decide (x ∈ S.who) = true by simp [hm]] at HH
   have HA := hid (remove30 w b R sl m cs _ _ _ _ hr x (by rw [hw]; exact hm) (by omega))
   have HX : Hid (∀ w', RmE w w' b R (S.kept && !S.ended) S.canc S.ended S.out (fpR b sl m) cs x → RqE w w' b (fpR b sl m) R (lessS S x) N) := fun w' ⟨cs', p1, p2, sl', m', q1, q2, q3⟩ =>
    ⟨_, ⟨sl', m', cs', rfl, q1, by rw [p1, hw]; rfl, Nat.le_trans p2 hl, hv.less x⟩, q2, q3⟩
   have HL : Hid (∀ w' F', Rq w' b F' R (lessS S x) N → Calls Tryz.prog 145 #[PT b] w' fun e w'' => e = .returned (.bool (leftB (lessS S x))) ∧ RqE w' w'' b F' R (leftS (lessS S x)) N) := fun w' F' q => left31 w' b N F' R _ q hN hE
   clear hr e1 e2 e3 hE hm hw hl hv HS
   generalize leftB (lessS S x) = B at *
   generalize leftS (lessS S x) = S2 at *
   generalize lessS S x = S1 at *
   unfold PT at *
   unfold PL at HH HA
   go_enter Tryz.func144, Tryz.ntmps144
   go_wp2_with (first
    | (go_at_call 160; refine HH.out.mono ?_; rintro e w ⟨rfl, rfl⟩)
    | (go_at_call 171; refine HA.out.mono ?_; rintro e w2 ⟨rfl, r⟩; obtain ⟨F1, q1, q2, q3⟩ := HX.out _ r; have Q1 := hid q1; have Q2 := hid (And.intro q2 q3); clear r q1 q2 q3)
    | (go_at_call 145; refine (HL.out _ _ Q1.out).mono ?_; rintro e w3 ⟨rfl, r⟩; have RR := hid (RqE.trans Q1.out Q2.out.1 Q2.out.2 r); clear r))
   exact bodyPost_ret (v := .tuple #[.bool B, .int .i64 0]) (by simp [results, Tryz.results144, go_sem]) rfl ⟨rfl, RR.out⟩
  ·have e1 : leaveE S x = 112 := by simp [leaveE, hE, hm]
   have e2 : leaveS S x = S := by unfold leaveS; rw [e1]; simp
   have e3 : leaveB S x = false := by unfold leaveB; rw [e1]; simp
   rw [e1, e2, e3]
   rw [show decide (x ∈ S.who) = false by simp [hm]] at HH
   clear hr e1 e2 e3 hE hm hw hl hv
   unfold PT at *
   unfold PL at HH
   go_enter Tryz.func144, Tryz.ntmps144
   go_wp2_with (go_at_call 160; refine HH.out.mono ?_; rintro e w ⟨rfl, rfl⟩)
   exact bodyPost_ret (v := .tuple #[.bool false, .int .i64 112]) (by simp [results, Tryz.results144, go_sem]) rfl ⟨rfl, HS.out⟩
set_option maxHeartbeats 2000000 in
theorem release14 (h : Rq w b F R S N) (hN : N ≤ 3000000000000) : Calls Tryz.prog 107 #[PT b] w fun e w' => e = .returned (.bool (relB S)) ∧ RqE w w' b F R (relS S) N := by
 have HS := hid (RqE.same h (Nat.le_refl N))
 obtain ⟨sl', mp', ⟨c0, c1, c2, c3, c4, c5, c6, c7, c8, c9, c10, c11, c12, c13⟩, f7⟩ := h.cs
 clear c0 c1 c2 c3 c4 c5 c6 c8 c9 c10 c11 c12 c13
 cases hK : (S.kept && !S.ended) with
 | false =>
  have e2 : relS S = S := by unfold relS; rw [hK]; simp
  have e3 : relB S = false := by unfold relB; rw [hK]; simp
  rw [e2, e3]
  rw [hK] at c7
  clear h e2 e3 hK f7
  unfold PT
  go_enter Tryz.func107, Tryz.ntmps107
  go_wp2
  go_ret
  exact ⟨rfl, HS.out⟩
 | true =>
  have hE : S.ended = false := by cases q : S.ended <;> simp_all
  have e2 : relS S = leftS { S with kept := false } := by unfold relS; rw [hK]; simp
  have e3 : relB S = leftB { S with kept := false } := by unfold relB; rw [hK]; simp
  rw [e2, e3]
  rw [hK] at c7
  have hl := h.blt
  have HX : Hid (RqE w (w.setCell ⟨b, 7, none⟩ (.bool false)) b F R { S with kept := false } N) := by
   obtain ⟨sl, m, cs, rfl, h, h1, h2, h3⟩ := h
   have T : Touch [b] w (w.setCell ⟨b, 7, none⟩ (.bool false)) := (Touch.refl _ _).setCell (Or.inl (by simp)) _
   refine ⟨_, ⟨sl, m, cs, rfl, ⟨h.rc.set7 _, h.ln.keep T (fun d hd e' => ?_) (fun d hd e' => ?_)⟩, h1, h2, ⟨h3.en, h3.no, fun e1 e2 => ⟨(h3.ca e1 e2).1, rfl⟩, h3.pos, h3.nd⟩⟩, T.mono (fun q hq => ?_), Nf.refl _ _⟩
   ·simp only [List.mem_singleton] at e'; exact row_ne h.rc h.ln.row hd e'
   ·simp only [List.mem_singleton] at e'; exact map_ne h.rc h.ln.mp hd e'
   ·simp only [List.mem_singleton] at hq; exact mem_fpR.2 (Or.inl hq)
  obtain ⟨F1, q1, q2, q3⟩ := HX.out
  have HL := hid (left31 _ b N F1 R _ q1 hN hE)
  have HY : Hid (∀ w', RqE (w.setCell ⟨b, 7, none⟩ (.bool false)) w' b F1 R (leftS { S with kept := false }) N → RqE w w' b F R (leftS { S with kept := false }) N) := fun w' r => RqE.trans q1 q2 q3 r
  clear h e2 e3 hK hE HX q1 q2 q3 HS
  generalize leftB { S with kept := false } = B at *
  generalize leftS { S with kept := false } = S2 at *
  unfold PT at *
  go_enter Tryz.func107, Tryz.ntmps107
  go_wp2_with (go_at_call 145; refine HL.out.mono ?_; rintro e w3 ⟨rfl, r⟩; have RR := hid (HY.out _ r); clear r)
  go_ret
  exact ⟨rfl, RR.out⟩
end
end Go.Proofs.YtkfophlhpjbmgaaGreat.Ta
/- The contracts of New and of Clone. -/
namespace Go.Proofs.YtkfophlhpjbmgaaGreat.Ta
open Go.RowKit Go.Maps Go.ChangeMaps
def mayN (R : Rn) (x : Int) : Bool := decide (1 ≤ R.run) && decide (0 ≤ R.gen) && (if R.rf then decide (x = 0) else decide (1 ≤ x))
def S0 (R : Rn) (x : Int) : St := ⟨if R.rf then [] else [x], R.rf, false, false, oz⟩
theorem iv_S0 {R : Rn} {x : Int} (hx : W64 x) (h : mayN R x = true) : Iv (S0 R x) := by
 refine ⟨fun e => (by cases e), fun _ => rfl, fun _ e => (by cases e), fun y hy => ?_, ?_⟩
 ·unfold S0 at hy
  unfold mayN at h
  cases hr : R.rf
  ·rw [hr] at hy h
   simp at hy h
   subst hy
   exact ⟨hx, h.2⟩
  ·rw [hr] at hy; simp at hy
 ·unfold S0
  cases hr : R.rf <;> simp
def NwE (e : Ending) (w w' : World) (R : Rn) (x : Int) : Prop := ∃ b F, e = .returned (.tuple #[PT b, .int .i64 0]) ∧ Rq w' b F R (S0 R x) 1 ∧ Touch [] w w' ∧ ∀ d, d ∈ F → w.heap.size ≤ d
section
variable (w : World) (R : Rn) (x : Int)
theorem rl_new (w : World) (o : Obj) (R : Rn) : Rl ((w.alloc o).alloc (.cells (rc R (.slice none 0 0) (.map none) R.rf false false oz) 238)) (w.heap.size + 1) R R.rf false false oz (.slice none 0 0) none [] := by
 refine ⟨⟨?_⟩, Ln.nil _⟩
 have := heap_alloc_new (w.alloc o) (.cells (rc R (.slice none 0 0) (.map none) R.rf false false oz) 238)
 rwa [World.size_alloc] at this
set_option maxHeartbeats 2000000 in
theorem new5_ok (hx : W64 x) (h : mayN R x = true) : Calls Tryz.prog 132 #[rv R, .int .i64 x] w fun e w' => NwE e w w' R x := by
 have hiv := iv_S0 hx h
 have HL := hid (rl_new w (.cells #[.int .i64 R.run, .int .u16 R.sp, .string R.nm, .int .i64 R.gen, .bool R.rf] 53) R)
 have ht : Touch [] w ((w.alloc (.cells #[.int .i64 R.run, .int .u16 R.sp, .string R.nm, .int .i64 R.gen, .bool R.rf] 53)).alloc (.cells (rc R (.slice none 0 0) (.map none) R.rf false false oz) 238)) := ((Touch.refl _ _).alloc _).alloc _
 have HT := hid ht
 clear ht
 unfold mayN at h
 cases hr : R.rf with
 | true =>
  rw [hr] at h HL HT
  simp only [if_true, Bool.and_eq_true, decide_eq_true_eq] at h
  obtain ⟨⟨h1, h2⟩, rfl⟩ := h
  have HX : Hid (NwE (.returned (.tuple #[PT (w.heap.size + 1), .int .i64 0])) w ((w.alloc (.cells #[.int .i64 R.run, .int .u16 R.sp, .string R.nm, .int .i64 R.gen, .bool true] 53)).alloc (.cells (rc R (.slice none 0 0) (.map none) true false false oz) 238)) R 0) := by
   refine ⟨w.heap.size + 1, fpR (w.heap.size + 1) (.slice none 0 0) none, rfl, ⟨.slice none 0 0, none, [], rfl, ?_, ?_, Nat.zero_le _, hiv⟩, HT.out, fun d hd => ?_⟩
   ·unfold S0
    rw [hr]
    exact HL.out
   ·unfold S0; rw [hr]; rfl
   ·rcases mem_fpR.1 hd with q | q | q
    ·omega
    ·cases q
    ·cases q
  clear HL HT hiv hx
  unfold PT rc oz at HX
  unfold rv
  rw [hr] at HX ⊢
  have g1 : (R.run < 1) = False := by simp; omega
  have g2 : (R.gen < 0) = False := by simp; omega
  go_enter Tryz.func132, Tryz.ntmps132
  go_wp2
  exact bodyPost_ret (v := .tuple #[.pointer (some ⟨w.heap.size + 1, 0, none⟩), .int .i64 0]) (by simp [results, Tryz.results132, go_sem]) rfl HX.out
 | false =>
  rw [hr] at h HL HT
  simp only [Bool.false_eq_true, if_false, Bool.and_eq_true, decide_eq_true_eq] at h
  obtain ⟨⟨h1, h2⟩, h3⟩ := h
  have HA := hid (add21 _ _ R _ none [] _ _ _ _ HL.out x hx (by omega) (by simp [wl]) (by simp))
  have HX : Hid (∀ w', LnE ((w.alloc (.cells #[.int .i64 R.run, .int .u16 R.sp, .string R.nm, .int .i64 R.gen, .bool false] 53)).alloc (.cells (rc R (.slice none 0 0) (.map none) false false false oz) 238)) w' (w.heap.size + 1) R false false false oz (fpR (w.heap.size + 1) (.slice none 0 0) none) ([] ++ [x]) → NwE (.returned (.tuple #[PT (w.heap.size + 1), .int .i64 0])) w w' R x) := fun w' ⟨sl, m, q1, q2, q3⟩ => by
   have hz := HT.out.size
   refine ⟨w.heap.size + 1, fpR (w.heap.size + 1) sl m, rfl, ⟨sl, m, [] ++ [x], rfl, ?_, ?_, by simp, hiv⟩, HT.out.trans q2 (fun d hd => Or.inr ?_), fun d hd => ?_⟩
   ·unfold S0; rw [hr]; exact q1
   ·unfold S0; rw [hr]; exact wl_one (by omega)
   ·rcases mem_fpR.1 hd with q | q | q
    ·omega
    ·cases q
    ·cases q
   ·rcases q3 d hd with q | q
    ·rcases mem_fpR.1 q with q | q | q
     ·omega
     ·cases q
     ·cases q
    ·omega
  clear HL HT hiv
  unfold PL rc oz at HA
  unfold PT rc oz at HX
  unfold rv
  rw [hr] at HX HA ⊢
  have g1 : (R.run < 1) = False := by simp; omega
  have g2 : (R.gen < 0) = False := by simp; omega
  have g3 : (x < 0) = False := by simp; omega
  have g4 : (x == 0) = false := by simp; omega
  go_enter Tryz.func132, Tryz.ntmps132
  go_wp2_with (go_at_call 161; refine HA.out.mono ?_; rintro e w2 ⟨rfl, r⟩; have RR := hid (HX.out _ r); clear r)
  exact bodyPost_ret (v := .tuple #[.pointer (some ⟨w.heap.size + 1, 0, none⟩), .int .i64 0]) (by simp [results, Tryz.results132, go_sem]) rfl RR.out
end
end Go.Proofs.YtkfophlhpjbmgaaGreat.Ta
/- A table of runs as a plain state, and its steps; no program. -/
namespace Go.Proofs.YtkfophlhpjbmgaaGreat.Ta
structure Tb where
 fl : Int
 bg : Int
 rs : List (Rn × St)
 gn : K → Int
def kOf (R : Rn) : K := (R.sp, R.nm)
def runOf (T : Tb) (n : Int) : Option (Rn × St) := T.rs.find? (fun p => decide (p.1.run = n))
def isCur (T : Tb) (R : Rn) : Bool := decide (R.gen = T.gn (kOf R))
def curL (T : Tb) (k : K) (l : List (Rn × St)) : Option (Rn × St) := l.find? (fun p => decide (kOf p.1 = k) && isCur T p.1)
def curOf (T : Tb) (k : K) : Option Rn := (curL T k T.rs).map (·.1)
def putS (n : Int) (S : St) (p : Rn × St) : Rn × St := if p.1.run = n then (p.1, S) else p
def setS (T : Tb) (n : Int) (S : St) : Tb := { T with rs := T.rs.map (putS n S) }
def goOn (T : Tb) (k : K) : Tb := { T with gn := fun j => if j = k then T.gn j + 1 else T.gn j }
def outR (T : Tb) (n : Int) : Tb := { T with rs := T.rs.filter (fun p => decide (p.1.run ≠ n)) }
def goneB (T : Tb) (R : Rn) (c : Bool) : Bool := c && isCur T R
def goneT (T : Tb) (R : Rn) (c : Bool) : Tb := if goneB T R c then goOn T (kOf R) else T
def tJoinE (T : Tb) (n x : Int) : Int := match runOf T n with | none => 122 | some p => joinE p.2 x
def tJoin (T : Tb) (n x : Int) : Tb := match runOf T n with | none => T | some p => setS T n (joinS p.2 x)
def tLeaveE (T : Tb) (n x : Int) : Int := match runOf T n with | none => 122 | some p => leaveE p.2 x
def tLeaveC (T : Tb) (n x : Int) : Bool := match runOf T n with | none => false | some p => leaveB p.2 x
def tLeaveA (T : Tb) (n x : Int) : Bool := match runOf T n with | none => false | some p => goneB T p.1 (leaveB p.2 x)
def tLeave (T : Tb) (n x : Int) : Tb := match runOf T n with | none => T | some p => goneT (setS T n (leaveS p.2 x)) p.1 (leaveB p.2 x)
def tRelE (T : Tb) (n : Int) : Int := match runOf T n with | none => 122 | some _ => 0
def tRelC (T : Tb) (n : Int) : Bool := match runOf T n with | none => false | some p => relB p.2
def tRelA (T : Tb) (n : Int) : Bool := match runOf T n with | none => false | some p => goneB T p.1 (relB p.2)
def tRel (T : Tb) (n : Int) : Tb := match runOf T n with | none => T | some p => goneT (setS T n (relS p.2)) p.1 (relB p.2)
def mayK (k : K) : Bool := decide (k.2.size ≤ 64)
def tFor (T : Tb) (k : K) : Tb := if mayK k then goOn T k else T
def tForN (T : Tb) (k : K) : Int := if mayK k then T.gn k + 1 else 0
def tForR (T : Tb) (k : K) : Int := if mayK k then ((curOf T k).map Rn.run).getD 0 else 0
def tForE (k : K) : Int := if mayK k then 0 else 20
def tEndE (T : Tb) (n : Int) (o : O) : Int := match runOf T n with | none => 122 | some p => endE p.2 o
def tEndL (T : Tb) (n : Int) (o : O) : List Int := match runOf T n with | none => [] | some p => endL p.2 o
def tEndC (T : Tb) (n : Int) (o : O) : Bool := match runOf T n with | none => false | some p => decide (endE p.2 o = 0) && isCur T p.1
def tEnd (T : Tb) (n : Int) (o : O) : Tb := match runOf T n with | none => T | some p => if endE p.2 o = 0 then outR T n else T
def badC (x : Int) (rf : Bool) : Bool := if rf then decide (x ≠ 0) else decide (x < 1)
def tBegE (T : Tb) (k : K) (x : Int) (rf : Bool) : Int := if !mayK k then 20 else if badC x rf then 1 else if (curOf T k).isSome then 121 else if T.fl ≤ T.rs.length then 120 else 0
def tBegR (T : Tb) (k : K) (rf : Bool) : Rn := ⟨T.bg + 1, k.1, k.2, T.gn k, rf⟩
def tBegN (T : Tb) (k : K) (x : Int) (rf : Bool) : Int := if tBegE T k x rf = 0 then T.bg + 1 else 0
def tBeg (T : Tb) (k : K) (x : Int) (rf : Bool) : Tb := if tBegE T k x rf = 0 then { T with bg := T.bg + 1, rs := T.rs ++ [(tBegR T k rf, S0 (tBegR T k rf) x)] } else T
structure Ti (T : Tb) (M : Nat) : Prop where
 ord : T.rs.Pairwise (fun p q => p.1.run < q.1.run)
 rng : ∀ p ∈ T.rs, 1 ≤ p.1.run ∧ p.1.run ≤ T.bg
 gen : ∀ p ∈ T.rs, 0 ≤ p.1.gen ∧ p.1.gen ≤ T.gn (kOf p.1)
 one : T.rs.Pairwise (fun p q => kOf p.1 = kOf q.1 → p.1.gen ≠ q.1.gen)
 live : ∀ p ∈ T.rs, Iv p.2
 ok : ∀ p ∈ T.rs, Ok (kOf p.1)
 len : (T.rs.length : Int) ≤ T.fl
 fl : 1 ≤ T.fl ∧ T.fl ≤ 4096
 bg : 0 ≤ T.bg ∧ T.bg ≤ M
 gn : ∀ k, 0 ≤ T.gn k ∧ T.gn k ≤ M
section
variable {T : Tb} {M N : Nat} {n : Int} {p : Rn × St}
theorem Ti.mono (h : Ti T M) (hm : M ≤ N) : Ti T N := ⟨h.ord, h.rng, h.gen, h.one, h.live, h.ok, h.len, h.fl, ⟨h.bg.1, by have := h.bg.2; omega⟩, fun k => ⟨(h.gn k).1, by have := (h.gn k).2; omega⟩⟩
theorem runOf_mem (h : runOf T n = some p) : p ∈ T.rs ∧ p.1.run = n := ⟨List.mem_of_find?_eq_some h, by have := List.find?_some h; simpa using this⟩
theorem runOf_of_mem (h : Ti T M) (hp : p ∈ T.rs) : runOf T p.1.run = some p := by
 unfold runOf
 have ho := h.ord
 generalize T.rs = l at hp ho
 induction l with
 | nil => cases hp
 | cons a r ih =>
  obtain ⟨h1, h2⟩ := List.pairwise_cons.1 ho
  rcases List.mem_cons.1 hp with e | e
  ·subst e; simp
  ·have := h1 p e
   rw [List.find?_cons_of_neg (by simp; omega)]
   exact ih e h2
theorem runOf_none (h : runOf T n = none) : ∀ p ∈ T.rs, p.1.run ≠ n := fun p hp e => by
 have := List.find?_eq_none.1 h p hp
 simp [e] at this
theorem putS_fst (S : St) (p : Rn × St) : (putS n S p).1 = p.1 := by unfold putS; split <;> rfl
theorem rs_setS (S : St) : (setS T n S).rs.map (·.1) = T.rs.map (·.1) := by
 simp only [setS, List.map_map]
 exact List.map_congr_left (fun p _ => putS_fst S p)
theorem curOf_eq (T : Tb) (k : K) : curOf T k = (T.rs.map (·.1)).find? (fun R => decide (kOf R = k) && isCur T R) := by
 unfold curOf curL
 rw [List.find?_map]
 rfl
theorem curOf_setS (S : St) (k : K) : curOf (setS T n S) k = curOf T k := by
 rw [curOf_eq, curOf_eq, rs_setS]
 rfl
theorem curOf_some {k : K} {R : Rn} (h : curOf T k = some R) : (∃ S, (R, S) ∈ T.rs) ∧ kOf R = k ∧ R.gen = T.gn k := by
 unfold curOf at h
 obtain ⟨p, hp, rfl⟩ := Option.map_eq_some_iff.1 h
 have h1 := List.mem_of_find?_eq_some hp
 have h2 := List.find?_some hp
 simp only [Bool.and_eq_true, decide_eq_true_eq, isCur] at h2
 exact ⟨⟨p.2, h1⟩, h2.1, h2.1 ▸ h2.2⟩
theorem curOf_none {k : K} (h : curOf T k = none) : ∀ p ∈ T.rs, kOf p.1 = k → p.1.gen ≠ T.gn k := fun p hp hk e => by
 unfold curOf at h
 have := List.find?_eq_none.1 (Option.map_eq_none_iff.1 h) p hp
 simp [hk, isCur, e] at this
theorem curOf_of_mem (h : Ti T M) (hp : p ∈ T.rs) : curOf T (kOf p.1) = some p.1 ↔ isCur T p.1 = true := by
 constructor
 ·intro e
  have := (curOf_some e).2.2
  simp [isCur, this]
 ·intro e
  cases hc : curOf T (kOf p.1) with
  | none => exact absurd (of_decide_eq_true e) (curOf_none hc p hp rfl)
  | some R =>
   obtain ⟨⟨S, hm⟩, h1, h2⟩ := curOf_some hc
   have e' : p.1.gen = T.gn (kOf p.1) := of_decide_eq_true e
   by_cases he : (R, S) = p
   ·rw [← he]
   ·exfalso
    have ho := h.one
    generalize T.rs = l at hp hm ho
    induction l with
    | nil => cases hp
    | cons a r ih =>
     obtain ⟨q1, q2⟩ := List.pairwise_cons.1 ho
     rcases List.mem_cons.1 hp with e1 | e1 <;> rcases List.mem_cons.1 hm with e2 | e2
     ·exact he (e2.trans e1.symm)
     ·exact q1 _ e2 (by rw [← e1]; exact h1.symm) (by rw [← e1]; simp only; omega)
     ·exact q1 _ e1 (by rw [← e2]; exact h1) (by rw [← e2]; simp only; omega)
     ·exact ih e1 e2 q2
theorem curN_of_mem (h : Ti T M) (hp : p ∈ T.rs) : decide (((curOf T (kOf p.1)).map Rn.run).getD 0 = p.1.run) = isCur T p.1 := by
 cases hc : isCur T p.1
 ·have hn : ¬ curOf T (kOf p.1) = some p.1 := fun e => by rw [(curOf_of_mem h hp).1 e] at hc; cases hc
  cases hq : curOf T (kOf p.1) with
  | none => simp; have := (h.rng p hp).1; omega
  | some R =>
   simp only [Option.map_some, Option.getD_some, decide_eq_false_iff_not]
   intro e
   obtain ⟨⟨S, hm⟩, h1, h2⟩ := curOf_some hq
   have r1 := runOf_of_mem h hm
   have r2 := runOf_of_mem h hp
   simp only at r1
   rw [e, r2] at r1
   cases r1
   exact hn hq
 ·rw [(curOf_of_mem h hp).2 hc]
  simp
theorem curOf_goOn (h : Ti T M) (k j : K) : curOf (goOn T k) j = if j = k then none else curOf T j := by
 rw [curOf_eq, curOf_eq]
 split
 ·rename_i e
  subst e
  refine List.find?_eq_none.2 (fun R hR => ?_)
  obtain ⟨p, hp, rfl⟩ := List.mem_map.1 hR
  simp only [Bool.and_eq_true, decide_eq_true_eq, isCur, goOn, not_and]
  intro e
  have := (h.gen p hp).2
  rw [e] at this ⊢
  simp
  omega
 ·rename_i e
  have : ∀ R : Rn, (decide (kOf R = j) && isCur (goOn T k) R) = (decide (kOf R = j) && isCur T R) := fun R => by
   by_cases hk : kOf R = j
   ·simp [hk, isCur, goOn, e]
   ·simp [hk]
  simp only [this]
  rfl
theorem curOf_outR (h : Ti T M) (hp : p ∈ T.rs) (j : K) : curOf (outR T p.1.run) j = if isCur T p.1 = true ∧ j = kOf p.1 then none else curOf T j := by
 have hg : (outR T p.1.run).gn = T.gn := rfl
 split
 ·rename_i e
  obtain ⟨e1, rfl⟩ := e
  have hc := (curOf_of_mem h hp).2 e1
  cases hq : curOf (outR T p.1.run) (kOf p.1) with
  | none => rfl
  | some R =>
   exfalso
   obtain ⟨⟨S, hm⟩, h1, h2⟩ := curOf_some hq
   have hm' := List.mem_filter.1 hm
   have h3 : isCur T R = true := by simp [isCur, h1, h2, hg]
   have h4 := (curOf_of_mem h hm'.1).2 h3
   simp only at h4
   rw [h1, hc] at h4
   have e4 := Option.some.inj h4
   have := hm'.2
   simp [← e4] at this
 ·rename_i e
  cases hc : curOf T j with
  | none =>
   cases hq : curOf (outR T p.1.run) j with
   | none => rfl
   | some R =>
    exfalso
    obtain ⟨⟨S, hm⟩, h1, h2⟩ := curOf_some hq
    exact curOf_none hc _ (List.mem_filter.1 hm).1 h1 h2
  | some R =>
   obtain ⟨⟨S, hm⟩, h1, h2⟩ := curOf_some hc
   have hne : R.run ≠ p.1.run := fun e' => by
    have r1 := runOf_of_mem h hm
    have r2 := runOf_of_mem h hp
    simp only at r1
    rw [e', r2] at r1
    cases r1
    exact e ⟨by simp [isCur, h1, h2], h1.symm⟩
   cases hq : curOf (outR T p.1.run) j with
   | none => exact absurd h2 (curOf_none hq (R, S) (List.mem_filter.2 ⟨hm, by simp [hne]⟩) h1)
   | some R' =>
    obtain ⟨⟨S', hm'⟩, h1', h2'⟩ := curOf_some hq
    have hmm := (List.mem_filter.1 hm').1
    have g1 := (curOf_of_mem h hmm).2 (by simp [isCur, h1', h2', hg])
    simp only at g1
    rw [h1', hc] at g1
    exact g1.symm
theorem curOf_app (T' : Tb) (R : Rn) (S : St) (hr : T'.rs = T.rs ++ [(R, S)]) (hg : T'.gn = T.gn) (hc : curOf T (kOf R) = none) (he : R.gen = T.gn (kOf R)) (j : K) : curOf T' j = if j = kOf R then some R else curOf T j := by
 rw [curOf_eq, curOf_eq, hr, List.map_append, List.find?_append]
 have hs : ∀ Q : Rn, isCur T' Q = isCur T Q := fun Q => by unfold isCur; rw [hg]
 simp only [hs]
 rw [← curOf_eq]
 split
 ·rename_i e
  subst e
  rw [hc]
  simp [isCur, he]
 ·rename_i e
  cases hq : curOf T j with
  | some Q => simp
  | none =>
   simp only [List.map_cons, List.map_nil, Option.none_or]
   rw [List.find?_cons_of_neg (by simp; intro e'; exact absurd e'.symm e)]
   rfl
theorem Ti.setS (h : Ti T M) {S : St} (hS : Iv S) : Ti (setS T n S) M := by
 have hmem : ∀ q ∈ (YtkfophlhpjbmgaaGreat.Ta.setS T n S).rs, ∃ p ∈ T.rs, q.1 = p.1 ∧ (q.2 = p.2 ∨ q.2 = S) := fun q hq => by
  obtain ⟨p, hp, rfl⟩ := List.mem_map.1 hq
  refine ⟨p, hp, putS_fst S p, ?_⟩
  unfold putS
  split
  ·exact Or.inr rfl
  ·exact Or.inl rfl
 refine ⟨?_, fun q hq => ?_, fun q hq => ?_, ?_, fun q hq => ?_, fun q hq => ?_, ?_, h.fl, h.bg, h.gn⟩
 ·refine List.pairwise_map.2 (h.ord.imp (fun {a b} hab => ?_))
  rw [putS_fst, putS_fst]; exact hab
 ·obtain ⟨p, hp, e, _⟩ := hmem q hq; rw [e]; exact h.rng p hp
 ·obtain ⟨p, hp, e, _⟩ := hmem q hq; rw [e]; exact h.gen p hp
 ·refine List.pairwise_map.2 (h.one.imp (fun {a b} hab => ?_))
  rw [putS_fst, putS_fst]; exact hab
 ·obtain ⟨p, hp, _, e | e⟩ := hmem q hq
  ·rw [e]; exact h.live p hp
  ·rw [e]; exact hS
 ·obtain ⟨p, hp, e, _⟩ := hmem q hq; rw [e]; exact h.ok p hp
 ·simp only [YtkfophlhpjbmgaaGreat.Ta.setS, List.length_map]; exact h.len
theorem Ti.goOn (h : Ti T M) (k : K) : Ti (goOn T k) (M + 1) := by
 refine ⟨h.ord, h.rng, fun p hp => ⟨(h.gen p hp).1, ?_⟩, h.one, h.live, h.ok, h.len, h.fl, ⟨h.bg.1, by have := h.bg.2; show T.bg ≤ _; omega⟩, fun j => ?_⟩
 ·have := (h.gen p hp).2
  simp only [YtkfophlhpjbmgaaGreat.Ta.goOn]
  split <;> omega
 ·have := h.gn j
  simp only [YtkfophlhpjbmgaaGreat.Ta.goOn]
  split <;> omega
theorem Ti.outR (h : Ti T M) (n : Int) : Ti (outR T n) M := by
 refine ⟨h.ord.filter _, fun p hp => h.rng p (List.mem_filter.1 hp).1, fun p hp => h.gen p (List.mem_filter.1 hp).1, h.one.filter _, fun p hp => h.live p (List.mem_filter.1 hp).1, fun p hp => h.ok p (List.mem_filter.1 hp).1, ?_, h.fl, h.bg, h.gn⟩
 have := h.len
 have h2 := List.length_filter_le (fun p : Rn × St => decide (p.1.run ≠ n)) T.rs
 show (((T.rs.filter _).length : Nat) : Int) ≤ T.fl
 omega
theorem Ti.goneT (h : Ti T M) (R : Rn) (c : Bool) : Ti (goneT T R c) (M + 1) := by
 unfold YtkfophlhpjbmgaaGreat.Ta.goneT
 split
 ·exact h.goOn _
 ·exact h.mono (Nat.le_succ _)
theorem leave_live {S : St} (hE : S.ended = false) (x : Int) : (leaveS S x).ended = false := by unfold leaveS; split <;> exact hE
theorem join_live {S : St} (hE : S.ended = false) (x : Int) : (joinS S x).ended = false := by unfold joinS; split <;> exact hE
theorem rel_live {S : St} (hE : S.ended = false) : (relS S).ended = false := by unfold relS; split <;> exact hE
theorem Ti.leave (h : Ti T M) (n x : Int) : Ti (tLeave T n x) (M + 1) := by
 unfold tLeave
 split
 ·exact h.mono (Nat.le_succ _)
 ·rename_i p hp
  have := h.live p (runOf_mem hp).1
  exact (h.setS (this.leave x)).goneT _ _
theorem Ti.end_ (h : Ti T M) (n : Int) (o : O) : Ti (tEnd T n o) M := by
 unfold tEnd
 split
 ·exact h
 ·split
  ·exact h.outR _
  ·exact h
theorem tBegE_zero {k : K} {x : Int} {rf : Bool} (h : tBegE T k x rf = 0) : k.2.size ≤ 64 ∧ badC x rf = false ∧ curOf T k = none ∧ ¬ T.fl ≤ T.rs.length := by
 unfold tBegE mayK at h
 split at h
 ·omega
 ·split at h
  ·omega
  ·split at h
   ·omega
   ·split at h
    ·omega
    ·rename_i h1 h2 h3 h4
     exact ⟨by simpa using h1, by simpa using h2, by simpa using h3, h4⟩
theorem begin_may {k : K} {x : Int} {rf : Bool} (h : Ti T M) (hb : badC x rf = false) : mayN (tBegR T k rf) x = true := by
 have h1 := h.bg.1
 have h2 := (h.gn k).1
 unfold mayN tBegR
 unfold badC at hb
 cases rf
 ·simp at hb; simp; omega
 ·simp at hb; simp; omega
theorem Ti.begin_ (h : Ti T M) {k : K} {x : Int} {rf : Bool} (hk : Ok k) (hx : W64 x) : Ti (tBeg T k x rf) (M + 1) := by
 unfold tBeg
 split
 ·rename_i e
  obtain ⟨h1, h2, h3, h4⟩ := tBegE_zero e
  have hb := h.bg
  refine ⟨?_, fun p hp => ?_, fun p hp => ?_, ?_, fun p hp => ?_, fun p hp => ?_, ?_, h.fl, ⟨by simp only; omega, by simp only; omega⟩, fun j => ⟨(h.gn j).1, by have := (h.gn j).2; simp only; omega⟩⟩
  ·refine List.pairwise_append.2 ⟨h.ord, by simp, fun a ha b hb' => ?_⟩
   simp only [List.mem_singleton] at hb'
   subst hb'
   have := (h.rng a ha).2
   simp only [tBegR]
   omega
  ·rcases List.mem_append.1 hp with q | q
   ·have := h.rng p q; simp only; omega
   ·simp only [List.mem_singleton] at q; subst q; simp only [tBegR]; omega
  ·rcases List.mem_append.1 hp with q | q
   ·exact h.gen p q
   ·simp only [List.mem_singleton] at q; subst q; simp only [tBegR, kOf]; exact ⟨(h.gn _).1, Int.le_refl _⟩
  ·refine List.pairwise_append.2 ⟨h.one, by simp, fun a ha b hb' => ?_⟩
   simp only [List.mem_singleton] at hb'
   subst hb'
   simp only [tBegR, kOf]
   intro e2
   exact curOf_none h3 a ha e2
  ·rcases List.mem_append.1 hp with q | q
   ·exact h.live p q
   ·simp only [List.mem_singleton] at q; subst q; exact iv_S0 hx (begin_may h h2)
  ·rcases List.mem_append.1 hp with q | q
   ·exact h.ok p q
   ·simp only [List.mem_singleton] at q; subst q; exact hk
  ·simp only [List.length_append, List.length_singleton]; omega
 ·exact h.mono (Nat.le_succ _)
def Lv (T : Tb) : Prop := ∀ p ∈ T.rs, p.2.ended = false
theorem Lv.setS (h : Lv T) {S : St} (hE : S.ended = false) : Lv (setS T n S) := fun q hq => by
 obtain ⟨p, hp, rfl⟩ := List.mem_map.1 hq
 unfold putS
 split
 ·exact hE
 ·exact h p hp
theorem Lv.outR (h : Lv T) : Lv (outR T n) := fun q hq => h q (List.mem_filter.1 hq).1
theorem Lv.begin_ (h : Lv T) (k : K) (x : Int) (rf : Bool) : Lv (tBeg T k x rf) := by
 unfold tBeg
 split
 ·intro p hp
  rcases List.mem_append.1 hp with q | q
  ·exact h p q
  ·simp only [List.mem_singleton] at q; subst q; rfl
 ·exact h
theorem tv_new {f : Int} (h1 : 1 ≤ f) (h2 : f ≤ 4096) : Ti ⟨f, 0, [], fun _ => 0⟩ 0 :=
 ⟨List.Pairwise.nil, fun p hp => (by cases hp), fun p hp => (by cases hp), List.Pairwise.nil, fun p hp => (by cases hp), fun p hp => (by cases hp), by simp; omega, ⟨h1, h2⟩, ⟨by simp, by simp⟩, fun k => ⟨by simp, by simp⟩⟩
end
end Go.Proofs.YtkfophlhpjbmgaaGreat.Ta
/- A table in memory: its block, its three maps, its records with their blocks; how it stays and how one record's step leaves it. -/
namespace Go.Proofs.YtkfophlhpjbmgaaGreat.Ta
open Go.RowKit Go.Maps Go.ChangeMaps
structure Rb where
 R : Rn
 S : St
 b : Nat
 F : List Nat
def rsOf (Ps : List Rb) : List (Rn × St) := Ps.map (fun q => (q.R, q.S))
def ptr (Ps : List Rb) (n : Int) : Option Value := (Ps.find? (fun q => decide (q.R.run = n))).map (fun q => PT q.b)
def curV (T : Tb) (k : K) : Option Value := (curOf T k).map (fun R => .int .i64 R.run)
def genV (T : Tb) (k : K) : Option Value := if T.gn k = 0 then none else some (.int .i64 (T.gn k))
def tc (T : Tb) (p c : Nat) (g : Option Nat) : Array Value := #[.int .i64 T.fl, .int .i64 T.bg, .map (some p), .map (some c), .map g]
def Gm (w : World) (g : Option Nat) (ng : Nat) (T : Tb) : Prop := (g = none ∧ ∀ k, T.gn k = 0) ∨ ∃ d, g = some d ∧ MapK KC w d ng (genV T)
structure Tm (w : World) (t p c : Nat) (g : Option Nat) (nc ng : Nat) (Ps : List Rb) (T : Tb) (N : Nat) : Prop where
 rs : T.rs = rsOf Ps
 bl : w.heap[t]? = some (.cells (tc T p c g) 179 (0, 0))
 pm : MapK KI w p Ps.length (ptr Ps)
 cm : MapK KC w c nc (curV T)
 gm : Gm w g ng T
 pc : p ≠ c
 gp : g ≠ some p
 gc : g ≠ some c
 lc : nc ≤ N
 lg : ng ≤ N
 recs : ∀ q ∈ Ps, Rq w q.b q.F q.R q.S N
 far : ∀ q ∈ Ps, ∀ d ∈ q.F, d ≠ t ∧ d ≠ p ∧ d ≠ c ∧ g ≠ some d
 apart : Ps.Pairwise (fun q r => ∀ d, d ∈ q.F → ¬ d ∈ r.F)
 iv : Ti T N
def fpT (t p c : Nat) (g : Option Nat) (Ps : List Rb) : List Nat := t :: p :: c :: (g.toList ++ Ps.flatMap (fun q => q.F))
theorem mem_fpT {t p c : Nat} {g : Option Nat} {Ps : List Rb} {k : Nat} : k ∈ fpT t p c g Ps ↔ k = t ∨ k = p ∨ k = c ∨ g = some k ∨ ∃ q ∈ Ps, k ∈ q.F := by
 simp [fpT]
def Tq (w : World) (t : Nat) (F : List Nat) (T : Tb) (N : Nat) : Prop := ∃ p c g nc ng Ps, F = fpT t p c g Ps ∧ Tm w t p c g nc ng Ps T N ∧ Lv T
def TqE (w w' : World) (t : Nat) (F : List Nat) (T : Tb) (N : Nat) : Prop := ∃ F', Tq w' t F' T N ∧ Touch F w w' ∧ Nf w F F'
section
variable {w w' : World} {t p c : Nat} {g : Option Nat} {nc ng : Nat} {Ps : List Rb} {T : Tb} {N M : Nat} {F G : List Nat}
theorem Gm.kind (h : Gm w g ng T) {d : Nat} (hd : g = some d) : ∃ es cl, w.heap[d]? = some (.map es cl) := by
 rcases h with ⟨h, _⟩ | ⟨d', hd', hm⟩
 ·rw [h] at hd; cases hd
 ·rw [hd'] at hd; cases hd; exact hm.kind
theorem Gm.keep (h : Gm w g ng T) (T' : Touch F w w') (hF : ∀ d, g = some d → ¬ d ∈ F) : Gm w' g ng T := by
 rcases h with h | ⟨d, hd, hm⟩
 ·exact Or.inl h
 ·exact Or.inr ⟨d, hd, hm.keep T' (hF d hd)⟩
theorem Tm.lt (h : Tm w t p c g nc ng Ps T N) : ∀ d, d ∈ fpT t p c g Ps → d < w.heap.size := fun d hd => by
 rcases mem_fpT.1 hd with e | e | e | e | ⟨q, hq, e⟩
 ·subst e; exact block_lt h.bl
 ·subst e; exact h.pm.lt
 ·subst e; exact h.cm.lt
 ·obtain ⟨es, cl, hb⟩ := h.gm.kind e; exact block_lt hb
 ·exact (h.recs q hq).lt d e
theorem Tm.keep (h : Tm w t p c g nc ng Ps T N) (T' : Touch G w w') (hG : ∀ d, d ∈ fpT t p c g Ps → ¬ d ∈ G) : Tm w' t p c g nc ng Ps T N :=
 ⟨h.rs, T'.keep h.bl (hG t (mem_fpT.2 (Or.inl rfl))), h.pm.keep T' (hG p (mem_fpT.2 (Or.inr (Or.inl rfl)))), h.cm.keep T' (hG c (mem_fpT.2 (Or.inr (Or.inr (Or.inl rfl))))),
  h.gm.keep T' (fun d hd => hG d (mem_fpT.2 (Or.inr (Or.inr (Or.inr (Or.inl hd)))))), h.pc, h.gp, h.gc, h.lc, h.lg,
  fun q hq => (h.recs q hq).keep T' (fun d hd => hG d (mem_fpT.2 (Or.inr (Or.inr (Or.inr (Or.inr ⟨q, hq, hd⟩)))))), h.far, h.apart, h.iv⟩
theorem Tm.keep0 (h : Tm w t p c g nc ng Ps T N) (T' : Touch [] w w') : Tm w' t p c g nc ng Ps T N := h.keep T' (fun _ _ e => by cases e)
theorem Tm.mono (h : Tm w t p c g nc ng Ps T N) (hN : N ≤ M) : Tm w t p c g nc ng Ps T M :=
 ⟨h.rs, h.bl, h.pm, h.cm, h.gm, h.pc, h.gp, h.gc, Nat.le_trans h.lc hN, Nat.le_trans h.lg hN, fun q hq => (h.recs q hq).mono hN, h.far, h.apart, h.iv.mono hN⟩
theorem Tq.lt (h : Tq w t F T N) : ∀ d, d ∈ F → d < w.heap.size := by
 obtain ⟨p, c, g, nc, ng, Ps, rfl, h, hL⟩ := h
 exact h.lt
theorem Tq.keep (h : Tq w t F T N) (T' : Touch G w w') (hG : ∀ d, d ∈ F → ¬ d ∈ G) : Tq w' t F T N := by
 obtain ⟨p, c, g, nc, ng, Ps, rfl, h, hL⟩ := h
 exact ⟨p, c, g, nc, ng, Ps, rfl, h.keep T' hG, hL⟩
theorem Tq.keep0 (h : Tq w t F T N) (T' : Touch [] w w') : Tq w' t F T N := h.keep T' (fun _ _ e => by cases e)
theorem Tq.mono (h : Tq w t F T N) (hN : N ≤ M) : Tq w t F T M := by
 obtain ⟨p, c, g, nc, ng, Ps, rfl, h, hL⟩ := h
 exact ⟨p, c, g, nc, ng, Ps, rfl, h.mono hN, hL⟩
theorem Tq.iv (h : Tq w t F T N) : Ti T N := by
 obtain ⟨p, c, g, nc, ng, Ps, rfl, h, hL⟩ := h
 exact h.iv
theorem Tq.live (h : Tq w t F T N) : Lv T := by
 obtain ⟨p, c, g, nc, ng, Ps, rfl, h, hL⟩ := h
 exact hL
theorem TqE.same (h : Tq w t F T N) (hN : N ≤ M) : TqE w w t F T M := ⟨F, h.mono hN, Touch.refl _ _, Nf.refl _ _⟩
theorem TqE.touch (h : Tq w t F T N) (T' : Touch [] w w') (hN : N ≤ M) : TqE w w' t F T M := ⟨F, (h.keep0 T').mono hN, T'.mono (fun _ e => by cases e), Nf.refl _ _⟩
theorem TqE.trans {w1 w2 : World} {F1 : List Nat} {T1 T2 : Tb} (t1 : Touch F w w1) (n1 : Nf w F F1) (h2 : TqE w1 w2 t F1 T2 N) : TqE w w2 t F T2 N := by
 obtain ⟨F2, r1, r2, r3⟩ := h2
 exact ⟨F2, r1, t1.trans r2 n1, n1.trans r3 t1.size⟩
theorem TqE.from0 {w1 w2 : World} {T2 : Tb} (t1 : Touch [] w w1) (h2 : TqE w1 w2 t F T2 N) : TqE w w2 t F T2 N := TqE.trans (T1 := T2) (t1.mono (fun _ e => by cases e)) (Nf.refl _ _) h2
theorem TqE.then0 {w1 w2 : World} {T1 : Tb} (h1 : TqE w w1 t F T1 N) (t2 : Touch [] w1 w2) : TqE w w2 t F T1 N := by
 obtain ⟨F1, q1, q2, q3⟩ := h1
 exact ⟨F1, q1.keep0 t2, q2.trans t2 (fun _ e => by cases e), q3⟩
theorem TqE.box {W w1 w2 : World} (t0 : Touch [] w W) (h : TqE W w1 t F T N) (hF : ∀ d, d ∈ F → d < w.heap.size) {b : Nat} (hb : w.heap.size ≤ b) (hb2 : b < W.heap.size) (T2 : Touch [b] w1 w2) : TqE w w2 t F T N := by
 obtain ⟨F1, q1, q2, q3⟩ := h
 have hn : ∀ d, d ∈ F1 → ¬ d ∈ [b] := fun d hd e => by
  simp only [List.mem_singleton] at e
  rcases q3 d hd with e' | e'
  ·have := hF d e'; omega
  ·omega
 have hz := t0.size
 refine ⟨F1, q1.keep T2 hn, ((t0.mono (fun _ e => by cases e)).trans q2 (fun i hi => Or.inl hi)).trans T2 (fun i hi => ?_), fun d hd => ?_⟩
 ·simp only [List.mem_singleton] at hi; exact Or.inr (by omega)
 ·rcases q3 d hd with e' | e'
  ·exact Or.inl e'
  ·exact Or.inr (by omega)
theorem ptr_none {Ps : List Rb} {n : Int} (h : ∀ q ∈ Ps, q.R.run ≠ n) : ptr Ps n = none := by
 unfold ptr
 rw [List.find?_eq_none.2 (fun q hq => by simp [h q hq])]
 rfl
theorem ptr_mid {A B : List Rb} {q : Rb} (hA : ∀ a ∈ A, a.R.run ≠ q.R.run) : ptr (A ++ q :: B) q.R.run = some (PT q.b) := by
 unfold ptr
 rw [List.find?_append, List.find?_eq_none.2 (fun a ha => by simp [hA a ha])]
 simp
theorem ptr_congr {A B : List Rb} {q q' : Rb} (e1 : q'.R = q.R) (e2 : q'.b = q.b) (n : Int) : ptr (A ++ q' :: B) n = ptr (A ++ q :: B) n := by
 unfold ptr
 rw [List.find?_append, List.find?_append, List.find?_cons, List.find?_cons, e1]
 cases List.find? (fun q => decide (q.R.run = n)) A with
 | some a => rfl
 | none => cases decide (q.R.run = n) <;> simp [e2]
theorem Tm.notIn (h : Tm w t p c g nc ng Ps T N) {n : Int} (hr : runOf T n = none) : ptr Ps n = none :=
 ptr_none (fun q hq => runOf_none hr (q.R, q.S) (by rw [h.rs]; exact List.mem_map.2 ⟨q, hq, rfl⟩))
theorem Tm.found (h : Tm w t p c g nc ng Ps T N) {n : Int} {r : Rn × St} (hr : runOf T n = some r) : ∃ A q B, Ps = A ++ q :: B ∧ r = (q.R, q.S) ∧ q.R.run = n ∧ ∀ a ∈ A, a.R.run ≠ q.R.run := by
 unfold runOf at hr
 rw [h.rs] at hr
 clear h
 induction Ps with
 | nil => simp [rsOf] at hr
 | cons x r' ih =>
  simp only [rsOf, List.map_cons, List.find?_cons] at hr
  cases hx : decide (x.R.run = n) with
  | true =>
   rw [hx] at hr
   simp only [Option.some.injEq] at hr
   exact ⟨[], x, r', rfl, hr.symm, of_decide_eq_true hx, fun a ha => by cases ha⟩
  | false =>
   rw [hx] at hr
   obtain ⟨A, q, B, e1, e2, e3, e4⟩ := ih hr
   refine ⟨x :: A, q, B, by rw [e1]; rfl, e2, e3, fun a ha => ?_⟩
   rcases List.mem_cons.1 ha with e | e
   ·subst e; rw [e3]; exact of_decide_eq_false hx
   ·exact e4 a e
theorem Tm.after {A B : List Rb} {q : Rb} (h : Tm w t p c g nc ng (A ++ q :: B) T N) : (∀ a ∈ A, a.R.run ≠ q.R.run) ∧ ∀ b ∈ B, b.R.run ≠ q.R.run := by
 have ho := h.iv.ord
 rw [h.rs, rsOf, List.pairwise_map] at ho
 obtain ⟨h1, h2, h3⟩ := List.pairwise_append.1 ho
 refine ⟨fun a ha => ?_, fun b hb => ?_⟩
 ·have := h3 a ha q (by simp); simp only at this; omega
 ·have := (List.pairwise_cons.1 h2).1 b hb; simp only at this; omega
theorem rs_set {A B : List Rb} {q : Rb} {S : St} {f : List Nat} (hA : ∀ a ∈ A, a.R.run ≠ q.R.run) (hB : ∀ b ∈ B, b.R.run ≠ q.R.run) : (rsOf (A ++ q :: B)).map (putS q.R.run S) = rsOf (A ++ ⟨q.R, S, q.b, f⟩ :: B) := by
 have h1 : ∀ L : List Rb, (∀ a ∈ L, a.R.run ≠ q.R.run) → (rsOf L).map (putS q.R.run S) = rsOf L := fun L hL => by
  unfold rsOf
  rw [List.map_map]
  exact List.map_congr_left (fun a ha => by simp [putS, hL a ha])
 have e1 : rsOf (A ++ q :: B) = rsOf A ++ (q.R, q.S) :: rsOf B := by simp [rsOf]
 have e2 : rsOf (A ++ ⟨q.R, S, q.b, f⟩ :: B) = rsOf A ++ (q.R, S) :: rsOf B := by simp [rsOf]
 rw [e1, e2, List.map_append, List.map_cons, h1 A hA, h1 B hB]
 simp [putS]
theorem Tm.step {A B : List Rb} {q : Rb} {S : St} (h : Tm w t p c g nc ng (A ++ q :: B) T N) (E : RqE w w' q.b q.F q.R S M) (hN : N ≤ M) :
  ∃ f, Tm w' t p c g nc ng (A ++ ⟨q.R, S, q.b, f⟩ :: B) (setS T q.R.run S) M ∧ Touch q.F w w' ∧ Nf w q.F f := by
 obtain ⟨f, r1, r2, r3⟩ := E
 obtain ⟨hA, hB⟩ := h.after
 have hq : q ∈ A ++ q :: B := by simp
 have hf := h.far q hq
 obtain ⟨ap1, ap2, ap3⟩ := List.pairwise_append.1 h.apart
 obtain ⟨ap4, ap5⟩ := List.pairwise_cons.1 ap2
 have hoth : ∀ x, x ∈ A ∨ x ∈ B → ∀ d, d ∈ x.F → ¬ d ∈ q.F := fun x hx d hd he => by
  rcases hx with e | e
  ·exact ap3 x e q (by simp) d hd he
  ·exact ap4 x e d he hd
 have hin : ∀ x, x ∈ A ∨ x ∈ B → x ∈ A ++ q :: B := fun x hx => by rcases hx with e | e <;> simp [e]
 have hnew : ∀ x, x ∈ A ∨ x ∈ B → ∀ d, d ∈ x.F → ¬ d ∈ f := fun x hx d hd he => by
  rcases r3 d he with e | e
  ·exact hoth x hx d hd e
  ·have := (h.recs x (hin x hx)).lt d hd; omega
 have hms : ∀ x, x ∈ A ++ (⟨q.R, S, q.b, f⟩ : Rb) :: B → x = ⟨q.R, S, q.b, f⟩ ∨ x ∈ A ∨ x ∈ B := fun x hx => by
  rcases List.mem_append.1 hx with e | e
  ·exact Or.inr (Or.inl e)
  ·rcases List.mem_cons.1 e with e | e
   ·exact Or.inl e
   ·exact Or.inr (Or.inr e)
 refine ⟨f, ⟨?_, ?_, ?_, ?_, ?_, h.pc, h.gp, h.gc, Nat.le_trans h.lc hN, Nat.le_trans h.lg hN, fun x hx => ?_, fun x hx d hd => ?_, ?_, (h.iv.setS r1.iv).mono hN⟩, r2, r3⟩
 ·simp only [setS, h.rs]; exact rs_set hA hB
 ·exact r2.keep h.bl (fun e => (hf t e).1 rfl)
 ·have := h.pm.keep r2 (fun e => (hf p e).2.1 rfl)
  have e : (A ++ (⟨q.R, S, q.b, f⟩ : Rb) :: B).length = (A ++ q :: B).length := by simp
  rw [e]
  exact this.congr (fun n _ => (ptr_congr (q := q) (q' := ⟨q.R, S, q.b, f⟩) rfl rfl n).symm)
 ·refine (h.cm.keep r2 (fun e => (hf c e).2.2.1 rfl)).congr (fun k _ => ?_)
  unfold curV
  rw [curOf_setS]
 ·exact h.gm.keep r2 (fun d hd e => (hf d e).2.2.2 hd)
 ·rcases hms x hx with e | e
  ·subst e; exact r1
  ·exact ((h.recs x (hin x e)).keep r2 (hoth x e)).mono hN
 ·rcases hms x hx with e | e
  ·subst e
   rcases r3 d hd with e' | e'
   ·exact hf d e'
   ·have l1 := h.lt t (mem_fpT.2 (Or.inl rfl))
    have l2 := h.pm.lt
    have l3 := h.cm.lt
    refine ⟨by omega, by omega, by omega, fun e2 => ?_⟩
    have := h.lt d (mem_fpT.2 (Or.inr (Or.inr (Or.inr (Or.inl e2)))))
    omega
  ·exact h.far x (hin x e) d hd
 ·refine List.pairwise_append.2 ⟨ap1, List.pairwise_cons.2 ⟨fun b hb d hd he => hnew b (Or.inr hb) d he hd, ap5⟩, fun a ha b hb d hd he => ?_⟩
  rcases List.mem_cons.1 hb with e | e
  ·subst e; exact hnew a (Or.inl ha) d hd he
  ·exact ap3 a ha b (by simp [e]) d hd he
theorem fp_step {A B : List Rb} {q : Rb} {S : St} {f : List Nat} (hn : Nf w q.F f) : Nf w (fpT t p c g (A ++ q :: B)) (fpT t p c g (A ++ ⟨q.R, S, q.b, f⟩ :: B)) := fun d hd => by
 rcases mem_fpT.1 hd with e | e | e | e | ⟨x, hx, e⟩
 ·exact Or.inl (mem_fpT.2 (Or.inl e))
 ·exact Or.inl (mem_fpT.2 (Or.inr (Or.inl e)))
 ·exact Or.inl (mem_fpT.2 (Or.inr (Or.inr (Or.inl e))))
 ·exact Or.inl (mem_fpT.2 (Or.inr (Or.inr (Or.inr (Or.inl e)))))
 ·rcases List.mem_append.1 hx with e1 | e1
  ·exact Or.inl (mem_fpT.2 (Or.inr (Or.inr (Or.inr (Or.inr ⟨x, by simp [e1], e⟩)))))
  ·rcases List.mem_cons.1 e1 with e2 | e2
   ·subst e2
    rcases hn d e with e3 | e3
    ·exact Or.inl (mem_fpT.2 (Or.inr (Or.inr (Or.inr (Or.inr ⟨q, by simp, e3⟩)))))
    ·exact Or.inr e3
   ·exact Or.inl (mem_fpT.2 (Or.inr (Or.inr (Or.inr (Or.inr ⟨x, by simp [e2], e⟩)))))
theorem fp_rec {A B : List Rb} {q : Rb} : ∀ d, d ∈ q.F → d ∈ fpT t p c g (A ++ q :: B) := fun d hd => mem_fpT.2 (Or.inr (Or.inr (Or.inr (Or.inr ⟨q, by simp, hd⟩))))
theorem Tm.stepE {A B : List Rb} {q : Rb} {S : St} (h : Tm w t p c g nc ng (A ++ q :: B) T N) (E : RqE w w' q.b q.F q.R S M) (hN : N ≤ M) (hL : Lv T) (hE : S.ended = false) : TqE w w' t (fpT t p c g (A ++ q :: B)) (setS T q.R.run S) M := by
 obtain ⟨f, h1, h2, h3⟩ := h.step E hN
 exact ⟨_, ⟨_, _, _, _, _, _, rfl, h1, hL.setS hE⟩, h2.mono fp_rec, fp_step h3⟩
structure Tcs (w : World) (t p c : Nat) (g : Option Nat) (T : Tb) : Prop where
 c0 : w.cell? ⟨t, 0, none⟩ = some (.int .i64 T.fl)
 c1 : w.cell? ⟨t, 1, none⟩ = some (.int .i64 T.bg)
 c2 : w.cell? ⟨t, 2, none⟩ = some (.map (some p))
 c3 : w.cell? ⟨t, 3, none⟩ = some (.map (some c))
 c4 : w.cell? ⟨t, 4, none⟩ = some (.map g)
theorem Tm.cs (h : Tm w t p c g nc ng Ps T N) : Tcs w t p c g T := ⟨cell_at h.bl rfl, cell_at h.bl rfl, cell_at h.bl rfl, cell_at h.bl rfl, cell_at h.bl rfl⟩
theorem Tm.fz (h : Tm w t p c g nc ng Ps T N) (j : Nat) : w.frozen? ⟨t, j, none⟩ = false := froz_at h.bl j
theorem zeroP (w : World) : (zeroValue 171).run Tryz.prog w = .ok (.pointer none) w := by kernel_rfl
theorem Tm.lookP (h : Tm w t p c g nc ng Ps T N) {n : Int} (hn : W64 n) : (Instr.lookup 176 (.map (some p)) (.int .i64 n) false).run Tryz.prog w = .ok ((ptr Ps n).getD (.pointer none)) w :=
 h.pm.look (t := 176) Tryz.underlying176 (zeroP w) hn
theorem Tm.lookC (h : Tm w t p c g nc ng Ps T N) {k : K} (hk : Ok k) : (Instr.lookup 177 (.map (some c)) (kv k) false).run Tryz.prog w = .ok (.int .i64 (((curOf T k).map Rn.run).getD 0)) w := by
 have := h.cm.look (t := 177) Tryz.underlying177 (zero3 w) hk
 rw [show (KC : KK Tryz.prog 38 K).kv k = kv k from rfl] at this
 rw [this]
 unfold curV
 cases curOf T k <;> rfl
theorem Tm.lookCok (h : Tm w t p c g nc ng Ps T N) {k : K} (hk : Ok k) : (Instr.lookup 177 (.map (some c)) (kv k) true).run Tryz.prog w = .ok (.tuple #[.int .i64 (((curOf T k).map Rn.run).getD 0), .bool (curOf T k).isSome]) w := by
 have := h.cm.lookOk (t := 177) Tryz.underlying177 (zero3 w) hk
 rw [show (KC : KK Tryz.prog 38 K).kv k = kv k from rfl] at this
 rw [this]
 unfold curV
 cases curOf T k <;> rfl
theorem Tm.lookG (h : Tm w t p c g nc ng Ps T N) {k : K} (hk : Ok k) : (Instr.lookup 177 (.map g) (kv k) false).run Tryz.prog w = .ok (.int .i64 (T.gn k)) w := by
 rcases h.gm with ⟨e, h0⟩ | ⟨d, e, hm⟩
 ·rw [e, h0 k]
  exact look_nil KC (t := 177) Tryz.underlying177 (zero3 w) hk
 ·have := hm.look (t := 177) Tryz.underlying177 (zero3 w) hk
  rw [show (KC : KK Tryz.prog 38 K).kv k = kv k from rfl] at this
  rw [e, this]
  unfold genV
  split
  ·rename_i e0; rw [e0]; rfl
  ·rfl
theorem Tm.lenP (h : Tm w t p c g nc ng Ps T N) (ty : TypeId) : (Builtin.len_ #[176] ty #[.map (some p)]).run Tryz.prog w = .ok (.int .i64 (T.rs.length : Nat)) w := by
 rw [h.pm.len (t := 176) Tryz.underlying176 ty, h.rs]
 simp [rsOf]
end
end Go.Proofs.YtkfophlhpjbmgaaGreat.Ta
/- What a batch is, in plain words: one state for the program's and the document's, and its steps; no conditions. -/
namespace Go.Proofs.YtkfophlhpjbmgaaGreat.Ba
open Go.RowKit Go.Maps Go.ChangeMaps
structure Bs where
 cnt : Int
 win : Int
 tim : Int
 lst : Int
 run : List Int
 snc : Int
 snt : Int
def aft (n d : Int) : Int := if 4611686018427387904 - n < d then 4611686018427387904 else n + d
def dueS (S : Bs) : Int := aft S.snc S.win
def wrongE (S : Bs) (n : Int) : Int := if n < 0 then 10 else if 4611686018427387904 < n then 10 else if n < S.tim then 50 else 0
def forceS (S : Bs) : Bs := if S.run = [] then S else { S with run := [], snt := S.snt + 1 }
def addE (S : Bs) (n x : Int) : Int := if wrongE S n ≠ 0 then wrongE S n else if x < 1 then 1 else if x ≤ S.lst then 130 else 0
def addM (S : Bs) (n x : Int) : Bs := { S with tim := n, lst := x, run := S.run ++ [x], snc := if S.run = [] then n else S.snc }
def addF (S : Bs) : Bool := decide (S.cnt ≤ ((S.run.length + 1 : Nat) : Int)) || decide (S.win = 0)
def addS (S : Bs) (n x : Int) : Bs := if addE S n x ≠ 0 then S else if addF S then forceS (addM S n x) else addM S n x
def addL (S : Bs) (n x : Int) : List Int := if addE S n x ≠ 0 then [] else if addF S then S.run ++ [x] else []
def sendM (S : Bs) (n : Int) : Bs := { S with tim := n }
def sendF (S : Bs) (n : Int) : Bool := decide (S.run ≠ []) && decide (dueS S ≤ n)
def sendS (S : Bs) (n : Int) : Bs := if wrongE S n ≠ 0 then S else if sendF S n then forceS (sendM S n) else sendM S n
def sendL (S : Bs) (n : Int) : List Int := if wrongE S n ≠ 0 then [] else if sendF S n then S.run else []
structure Iv (S : Bs) (N : Nat) : Prop where
 c1 : 1 ≤ S.cnt
 c2 : S.cnt ≤ 1024
 w1 : 0 ≤ S.win
 w2 : S.win ≤ 9223372036854775807
 t1 : 0 ≤ S.tim
 t2 : S.tim ≤ 4611686018427387904
 l1 : 0 ≤ S.lst
 l2 : W64 S.lst
 len : S.run.length < 1024
 inc : S.run.Pairwise (· < ·)
 le : ∀ x ∈ S.run, 1 ≤ x ∧ x ≤ S.lst
 s1 : 0 ≤ S.snc
 s2 : S.snc ≤ 4611686018427387904
 n1 : 0 ≤ S.snt
 n2 : S.snt ≤ (N : Int)
theorem wrong0 {S : Bs} {n : Int} (h : ¬ wrongE S n ≠ 0) : 0 ≤ n ∧ n ≤ 4611686018427387904 ∧ S.tim ≤ n := by
 unfold wrongE at h
 split at h
 ·simp at h
 ·split at h
  ·simp at h
  ·split at h
   ·simp at h
   ·omega
theorem add0 {S : Bs} {n x : Int} (h : ¬ addE S n x ≠ 0) : wrongE S n = 0 ∧ 1 ≤ x ∧ S.lst < x := by
 unfold addE at h
 split at h
 ·rename_i h1; exact absurd h1 h
 ·rename_i h1
  split at h
  ·simp at h
  ·split at h
   ·simp at h
   ·exact ⟨Decidable.not_not.1 h1, by omega, by omega⟩
theorem Iv.mono {S : Bs} {N M : Nat} (h : Iv S N) (hm : N ≤ M) : Iv S M := { h with n2 := by have := h.n2; omega }
theorem Iv.force {S : Bs} {N : Nat} (h : Iv S N) : Iv (forceS S) (N + 1) := by
 unfold forceS
 split
 ·exact h.mono (Nat.le_succ N)
 ·exact { h with len := by simp, inc := by simp, le := by simp, n1 := by have := h.n1; simp only; omega, n2 := by have := h.n2; simp only; omega }
theorem Iv.mid {S : Bs} {N : Nat} (h : Iv S N) {n x : Int} (hx : W64 x) (h0 : ¬ addE S n x ≠ 0) (hl : S.run.length + 1 < 1024) : Iv (addM S n x) N := by
 obtain ⟨h1, h2, h3⟩ := add0 h0
 obtain ⟨h4, h5, h6⟩ := wrong0 (by rw [h1]; simp : ¬ wrongE S n ≠ 0)
 refine { h with t1 := h4, t2 := h5, l1 := by show 0 ≤ x; omega, l2 := hx, len := by simpa [addM] using hl, inc := ?_, le := ?_, s1 := ?_, s2 := ?_ }
 ·show (S.run ++ [x]).Pairwise (· < ·)
  rw [List.pairwise_append]
  exact ⟨h.inc, by simp, fun a ha b hb => by simp only [List.mem_singleton] at hb; subst hb; have := (h.le a ha).2; omega⟩
 ·intro y hy
  have hy' : y ∈ S.run ++ [x] := hy
  show 1 ≤ y ∧ y ≤ x
  rcases List.mem_append.1 hy' with q | q
  ·have := h.le y q; omega
  ·simp only [List.mem_singleton] at q; omega
 ·show 0 ≤ if S.run = [] then n else S.snc
  split
  ·exact h4
  ·exact h.s1
 ·show (if S.run = [] then n else S.snc) ≤ 4611686018427387904
  split
  ·exact h5
  ·exact h.s2
theorem Iv.add {S : Bs} {N : Nat} (h : Iv S N) {n x : Int} (hx : W64 x) : Iv (addS S n x) (N + 1) := by
 unfold addS
 split
 ·exact h.mono (Nat.le_succ N)
 ·rename_i h0
  split
  ·obtain ⟨h1, h2, h3⟩ := add0 h0
   obtain ⟨h4, h5, h6⟩ := wrong0 (by rw [h1]; simp : ¬ wrongE S n ≠ 0)
   unfold forceS
   rw [if_neg (by simp [addM])]
   refine { h with t1 := h4, t2 := h5, l1 := by show 0 ≤ x; omega, l2 := hx, len := by simp, inc := by simp, le := by simp, s1 := ?_, s2 := ?_, n1 := by have := h.n1; show 0 ≤ S.snt + 1; omega, n2 := by have := h.n2; show S.snt + 1 ≤ _; omega }
   ·show 0 ≤ if S.run = [] then n else S.snc
    split
    ·exact h4
    ·exact h.s1
   ·show (if S.run = [] then n else S.snc) ≤ 4611686018427387904
    split
    ·exact h5
    ·exact h.s2
  ·rename_i hf
   refine (h.mid hx h0 ?_).mono (Nat.le_succ N)
   unfold addF at hf
   simp only [Bool.or_eq_true, decide_eq_true_eq, not_or] at hf
   have := h.c2
   omega
theorem due_mid {S : Bs} {n x : Int} : dueS (addM S n x) = if S.run = [] then aft n S.win else dueS S := by
 unfold dueS addM
 simp only
 split <;> rfl
end Go.Proofs.YtkfophlhpjbmgaaGreat.Ba
/- The program's batch in memory, and the contracts of its small functions: ticks, Due, Sent, Force; no conditions but those that each states. -/
namespace Go.Proofs.YtkfophlhpjbmgaaGreat.Ba
open Go.RowKit Go.Maps Go.ChangeMaps
def isT (t : Int) : Bool := decide (0 ≤ t) && decide (t ≤ 4611686018427387904)
theorem is_ (t : Int) (w : World) : Calls Tryz.prog 90 #[.int .i64 t] w fun e w' => e = .returned (.bool (isT t)) ∧ w' = w := by
 by_cases h0 : 0 ≤ t
 ·by_cases h1 : t ≤ 4611686018427387904
  ·go_enter Tryz.func90, Tryz.ntmps90
   go_wp2
   go_ret
   exact ⟨by simp [isT, h0, h1], rfl⟩
  ·go_enter Tryz.func90, Tryz.ntmps90
   go_wp2
   go_ret
   exact ⟨by simp [isT, h1], rfl⟩
 ·have hn : isT t = false := by simp [isT]; omega
  rw [hn]
  go_enter Tryz.func90, Tryz.ntmps90
  go_wp2
  go_ret
  exact ⟨rfl, rfl⟩
theorem isT_yes {t : Int} (h : 0 ≤ t) (h2 : t ≤ 4611686018427387904) : isT t = true := by unfold isT; simp; omega
theorem after_ (n d : Int) (w : World) (h1 : 0 ≤ n) (h2 : n ≤ 4611686018427387904) (h3 : 0 ≤ d) (h4 : d ≤ 9223372036854775807) : Calls Tryz.prog 162 #[.int .i64 n, .int .i64 d] w fun e w' => (∃ k, e = .returned (.tuple #[.int .i64 (aft n d), .bool k])) ∧ w' = w := by
 have H1 := is_ n
 rw [isT_yes h1 h2] at H1
 have hw : IntKind.i64.wrap (4611686018427387904 - n) = 4611686018427387904 - n := by simp [IntKind.wrap, IntKind.bits, IntKind.signed, IntKind.min, IntKind.max]; omega
 by_cases hz : 4611686018427387904 - n < d
 ·have e1 : aft n d = 4611686018427387904 := by unfold aft; rw [if_pos hz]
  rw [e1]
  clear e1
  go_enter Tryz.func162, Tryz.ntmps162
  go_wp2_with (go_at_call 90; refine (H1 _).mono ?_; rintro e w2 ⟨rfl, rfl⟩)
  exact bodyPost_ret (v := .tuple #[.int .i64 4611686018427387904, .bool false]) (by simp [results, Tryz.results162, go_sem]) rfl ⟨⟨_, rfl⟩, rfl⟩
 ·have e1 : aft n d = n + d := by unfold aft; rw [if_neg hz]
  have hv : IntKind.i64.wrap (n + d) = n + d := by simp [IntKind.wrap, IntKind.bits, IntKind.signed, IntKind.min, IntKind.max]; omega
  rw [e1]
  clear e1
  go_enter Tryz.func162, Tryz.ntmps162
  go_wp2_with (go_at_call 90; refine (H1 _).mono ?_; rintro e w2 ⟨rfl, rfl⟩)
  exact bodyPost_ret (v := .tuple #[.int .i64 (n + d), .bool true]) (by simp [results, Tryz.results162, go_sem]) rfl ⟨⟨_, rfl⟩, rfl⟩
def pc (S : Bs) (sl : Value) (d : Int) : Array Value := #[.int .i64 S.cnt, .int .i64 S.win, .int .i64 S.tim, .int .i64 S.lst, sl, .int .i64 d, .int .i64 S.snt]
structure Bm (w : World) (b : Nat) (sl : Value) (d : Int) (S : Bs) : Prop where
 hb : w.heap[b]? = some (.cells (pc S sl d) 202 (0, 0))
 row : w.ownsRow 0 3 1 sl S.run.length (ints S.run)
 du : S.run ≠ [] → d = dueS S
def fpB (b : Nat) (sl : Value) : List Nat := b :: sl.ownBlock.toList
theorem mem_fpB {b : Nat} {sl : Value} {q : Nat} : q ∈ fpB b sl ↔ q = b ∨ sl.ownBlock = some q := by
 unfold fpB
 cases sl.ownBlock <;> simp [eq_comm]
def Bq (w : World) (b : Nat) (F : List Nat) (S : Bs) (N : Nat) : Prop := ∃ sl d, F = fpB b sl ∧ Bm w b sl d S ∧ Iv S N
section
variable {w w' : World} {b : Nat} {sl : Value} {d : Int} {S : Bs} {F G : List Nat} {N : Nat}
theorem Bm.lt (h : Bm w b sl d S) : b < w.heap.size := block_lt h.hb
theorem Bm.keep (h : Bm w b sl d S) (T : Touch G w w') (hn : ∀ q, q ∈ fpB b sl → ¬ q ∈ G) : Bm w' b sl d S :=
 ⟨T.keep h.hb (hn b (mem_fpB.2 (Or.inl rfl))), own_touch h.row T (fun q hq => hn q (mem_fpB.2 (Or.inr hq))), h.du⟩
theorem Bm.keep0 (h : Bm w b sl d S) (T : Touch [] w w') : Bm w' b sl d S := h.keep T (fun _ _ e => by cases e)
theorem Bm.ne (h : Bm w b sl d S) {q : Nat} (hq : sl.ownBlock = some q) : q ≠ b := fun e => by
 subst e
 obtain ⟨cs, hc⟩ := own_kind h.row hq
 rw [h.hb] at hc
 simp at hc
theorem Bm.all (h : Bm w b sl d S) : ∀ q, q ∈ fpB b sl → q < w.heap.size := fun q hq => by
 rcases mem_fpB.1 hq with e | e
 ·rw [e]; exact h.lt
 ·exact (h.row.lt q e).2
theorem Bq.keep (h : Bq w b F S N) (T : Touch G w w') (hn : ∀ q, q ∈ F → ¬ q ∈ G) : Bq w' b F S N := by
 obtain ⟨sl, d, rfl, h1, h2⟩ := h
 exact ⟨sl, d, rfl, h1.keep T hn, h2⟩
theorem Bq.lt (h : Bq w b F S N) : ∀ q, q ∈ F → q < w.heap.size := by
 obtain ⟨sl, d, rfl, h1, h2⟩ := h
 exact h1.all
end
def BqE (w w' : World) (b : Nat) (F : List Nat) (S : Bs) (N : Nat) (ls : List Int) (v : Value) : Prop := (∃ F', Bq w' b F' S N ∧ Touch F w w' ∧ Nf w F F') ∧ Rd w' v ls ∧ ∃ a n c, v = .slice a n c
section
variable {w : World} {b : Nat} {sl : Value} {d : Int} {S : Bs}
theorem tell_ (h : Bm w b sl d S) (x : Int) : Calls Tryz.prog 109 #[PT b, .int .i64 x] w fun e w' => e = .returned (.int .i64 (wrongE S x)) ∧ w' = w := by
 have H1 := is_ x
 have c2 := cell_at (j := 2) (v := .int .i64 S.tim) h.hb rfl
 unfold PT
 by_cases h0 : x < 0
 ·rw [show isT x = false by simp [isT]; omega] at H1
  rw [show wrongE S x = 10 by simp [wrongE, h0]]
  go_enter Tryz.func109, Tryz.ntmps109
  go_wp2_with (go_at_call 90; refine (H1 _).mono ?_; rintro e w2 ⟨rfl, rfl⟩)
  go_ret
  exact ⟨rfl, rfl⟩
 ·by_cases h1 : 4611686018427387904 < x
  ·rw [show isT x = false by simp [isT]; omega] at H1
   rw [show wrongE S x = 10 by simp [wrongE, h1]]
   go_enter Tryz.func109, Tryz.ntmps109
   go_wp2_with (go_at_call 90; refine (H1 _).mono ?_; rintro e w2 ⟨rfl, rfl⟩)
   go_ret
   exact ⟨rfl, rfl⟩
  ·rw [isT_yes (by omega) (by omega)] at H1
   by_cases h2 : x < S.tim
   ·rw [show wrongE S x = 50 by simp [wrongE, h0, h1, h2]]
    go_enter Tryz.func109, Tryz.ntmps109
    go_wp2_with (go_at_call 90; refine (H1 _).mono ?_; rintro e w2 ⟨rfl, rfl⟩)
    go_ret
    exact ⟨rfl, rfl⟩
   ·rw [show wrongE S x = 0 by simp [wrongE, h0, h1, h2]]
    go_enter Tryz.func109, Tryz.ntmps109
    go_wp2_with (go_at_call 90; refine (H1 _).mono ?_; rintro e w2 ⟨rfl, rfl⟩)
    go_ret
    exact ⟨rfl, rfl⟩
def dueV (S : Bs) : Int := if S.run = [] then 0 else dueS S
theorem due_ (h : Bm w b sl d S) : Calls Tryz.prog 60 #[PT b] w fun e w' => e = .returned (.tuple #[.int .i64 (dueV S), .bool (decide (S.run ≠ []))]) ∧ w' = w := by
 obtain ⟨a, c, rfl⟩ := own_form h.row
 have c4 := cell_at (j := 4) (v := .slice a S.run.length c) h.hb rfl
 have c5 := cell_at (j := 5) (v := .int .i64 d) h.hb rfl
 have hd := h.du
 clear h
 unfold PT
 by_cases he : S.run = []
 ·rw [he] at c4
  rw [show dueV S = 0 by simp [dueV, he], show decide (S.run ≠ []) = false by simp [he]]
  clear hd
  go_enter Tryz.func60, Tryz.ntmps60
  go_wp2
  exact bodyPost_ret (v := .tuple #[.int .i64 0, .bool false]) (by simp [results, Tryz.results60, go_sem]) rfl ⟨rfl, rfl⟩
 ·rw [show dueV S = d by simp [dueV, he, hd he], show decide (S.run ≠ []) = true by simp [he]]
  have hl : 0 < S.run.length := List.length_pos_iff.2 he
  generalize S.run.length = n at *
  have hz : ((n : Int) == 0) = false := by simp; omega
  clear hd he hl
  go_enter Tryz.func60, Tryz.ntmps60
  go_wp2
  exact bodyPost_ret (v := .tuple #[.int .i64 d, .bool true]) (by simp [results, Tryz.results60, go_sem]) rfl ⟨rfl, rfl⟩
theorem force_no (h : Bm w b sl d S) (he : S.run = []) : Calls Tryz.prog 110 #[PT b] w fun e w' => e = .returned (.slice none 0 0) ∧ w' = w := by
 obtain ⟨a, c, rfl⟩ := own_form h.row
 have c4 := cell_at (j := 4) (v := .slice a S.run.length c) h.hb rfl
 rw [he] at c4
 clear h
 unfold PT
 go_enter Tryz.func110, Tryz.ntmps110
 go_wp2
 go_ret
 exact ⟨rfl, rfl⟩
theorem force_yes (h : Bm w b sl d S) (he : S.run ≠ []) (hn : 0 ≤ S.snt) (hm : S.snt < 9000000000000000000) : Calls Tryz.prog 110 #[PT b] w fun e w' => e = .returned sl ∧ w' = (w.setCell ⟨b, 4, none⟩ (.slice none 0 0)).setCell ⟨b, 6, none⟩ (.int .i64 (S.snt + 1)) := by
 obtain ⟨a, c, rfl⟩ := own_form h.row
 have c4 := cell_at (j := 4) (v := .slice a S.run.length c) h.hb rfl
 have c6 := cell_at (j := 6) (v := .int .i64 S.snt) h.hb rfl
 have ff := froz_at h.hb
 have hlt := h.lt
 have hw : IntKind.i64.wrap (S.snt + 1) = S.snt + 1 := by simp [IntKind.wrap, IntKind.bits, IntKind.signed, IntKind.min, IntKind.max]; omega
 have hl : 0 < S.run.length := List.length_pos_iff.2 he
 generalize S.run.length = n at *
 have hz : ((n : Int) == 0) = false := by simp; omega
 clear he hl h hn hm
 unfold PT
 go_enter Tryz.func110, Tryz.ntmps110
 go_wp2
 go_ret
 exact ⟨rfl, rfl⟩
theorem Bm.forced (h : Bm w b sl d S) (he : S.run ≠ []) : Bm ((w.setCell ⟨b, 4, none⟩ (.slice none 0 0)).setCell ⟨b, 6, none⟩ (.int .i64 (S.snt + 1))) b (.slice none 0 0) d (forceS S) := by
 have e : forceS S = { S with run := [], snt := S.snt + 1 } := by unfold forceS; rw [if_neg he]
 rw [e]
 refine ⟨?_, World.ownsRow_nil _ _ _ _, fun h => absurd rfl h⟩
 have := bset (i := 6) (bset (i := 4) h.hb (.slice none 0 0)) (.int .i64 (S.snt + 1))
 simpa [pc] using this
theorem forced_touch (w : World) (b : Nat) (n : Int) : Touch [b] w ((w.setCell ⟨b, 4, none⟩ (.slice none 0 0)).setCell ⟨b, 6, none⟩ (.int .i64 n)) := ((Touch.refl _ _).setCell (Or.inl (by simp)) _).setCell (Or.inl (by simp)) _
theorem force_ (h : Bm w b sl d S) (hn : 0 ≤ S.snt) (hm : S.snt < 9000000000000000000) : Calls Tryz.prog 110 #[PT b] w fun e w' => ∃ v sl', e = .returned v ∧ (∃ a n c, v = .slice a n c) ∧ Bm w' b sl' d (forceS S) ∧ (sl' = sl ∨ sl' = .slice none 0 0) ∧ Touch [b] w w' ∧ Rd w' v S.run := by
 by_cases he : S.run = []
 ·refine (force_no h he).mono ?_
  rintro e w' ⟨rfl, rfl⟩
  have e2 : forceS S = S := by unfold forceS; rw [if_pos he]
  rw [e2, he]
  exact ⟨_, sl, rfl, ⟨_, _, _, rfl⟩, h, Or.inl rfl, Touch.refl _ _, Rd.nil _⟩
 ·refine (force_yes h he hn hm).mono ?_
  rintro e w' ⟨rfl, rfl⟩
  obtain ⟨a, c, e1⟩ := own_form h.row
  refine ⟨sl, _, rfl, ⟨_, _, _, e1⟩, h.forced he, Or.inr rfl, forced_touch _ _ _, Rd.of_own (own_touch h.row (forced_touch _ _ _) (fun q hq e => ?_))⟩
  simp only [List.mem_singleton] at e
  exact h.ne hq e
end
end Go.Proofs.YtkfophlhpjbmgaaGreat.Ba
/- What seats are, in plain words: a list, and the tokens that are cancelled; chains with both neighbours as plain functions; no conditions. -/
namespace Go.Proofs.YtkfophlhpjbmgaaGreat.Lv
open Go.RowKit Go.Maps Go.ChangeMaps
abbrev Se := Int × Int × Int
def bn (b : Nat) (x : Se) : Int := match b with | 0 => x.1 | 1 => x.2.1 | _ => x.2.2
def inL (b : Nat) (n : Int) (L : List Se) : List Se := L.filter (fun x => decide (bn b x = n))
def outL (b : Nat) (n : Int) (L : List Se) : List Se := L.filter (fun x => !decide (bn b x = n))
def whr (L : List Se) (c : Int) : Option Se := L.find? (fun x => decide (x.1 = c))
def may (x : Se) : Bool := decide (1 ≤ x.1) && decide (1 ≤ x.2.1) && decide (0 ≤ x.2.2)
def sitE (L : List Se) (G : List Int) (x : Se) : Int := if may x = false then 150 else if x.2.2 ∈ G then 152 else if (whr L x.1).isSome then 151 else 0
def sitL (L : List Se) (G : List Int) (x : Se) : List Se := if sitE L G x = 0 then L ++ [x] else L
def canG (G : List Int) (t : Int) : List Int := if t < 1 then G else if t ∈ G then G else G ++ [t]
def canL (L : List Se) (t : Int) : List Se := if t < 1 then L else outL 2 t L
def canA (L : List Se) (t : Int) : List Se := if t < 1 then [] else inL 2 t L
def Wf (x : Se) : Prop := W64 x.1 ∧ W64 x.2.1 ∧ W64 x.2.2
structure Iv (L : List Se) (G : List Int) (N : Nat) : Prop where
 nc : (L.map Prod.fst).Nodup
 ok : ∀ x ∈ L, may x = true ∧ Wf x
 ng : G.Nodup
 wg : ∀ t ∈ G, 1 ≤ t ∧ W64 t
 ll : L.length ≤ N
 lg : G.length ≤ N
theorem Iv.mono {L : List Se} {G : List Int} {N M : Nat} (h : Iv L G N) (hm : N ≤ M) : Iv L G M := { h with ll := Nat.le_trans h.ll hm, lg := Nat.le_trans h.lg hm }
theorem Iv.sub {L M : List Se} {G : List Int} {N : Nat} (h : Iv L G N) (hs : M.Sublist L) : Iv M G N :=
 { h with nc := h.nc.sublist (hs.map _), ok := fun x hx => h.ok x (hs.subset hx), ll := Nat.le_trans hs.length_le h.ll }
theorem Iv.out {L : List Se} {G : List Int} {N : Nat} (h : Iv L G N) (b : Nat) (n : Int) : Iv (outL b n L) G N := h.sub List.filter_sublist
theorem Iv.canG {L : List Se} {G : List Int} {N : Nat} (h : Iv L G N) {t : Int} (ht : W64 t) : Iv L (canG G t) (N + 1) := by
 unfold YtkfophlhpjbmgaaGreat.Lv.canG
 split
 ·exact h.mono (Nat.le_succ N)
 ·split
  ·exact h.mono (Nat.le_succ N)
  ·rename_i h1 h2
   refine { h.mono (Nat.le_succ N) with ng := nd_snoc h.ng h2, wg := fun s hs => ?_, lg := by have := h.lg; simp; omega }
   rcases List.mem_append.1 hs with e | e
   ·exact h.wg s e
   ·simp only [List.mem_singleton] at e
    subst e
    exact ⟨by omega, ht⟩
theorem whr_none {L : List Se} {c : Int} : (whr L c).isSome = false ↔ ∀ x ∈ L, x.1 ≠ c := by
 unfold whr
 constructor
 ·intro h x hx e
  have : (L.find? (fun x => decide (x.1 = c))).isSome = true := List.find?_isSome.2 ⟨x, hx, by simp [e]⟩
  rw [h] at this
  cases this
 ·intro h
  rw [List.find?_eq_none.2 (fun x hx => by simp [h x hx])]
  rfl
theorem whr_mem {L : List Se} {c : Int} {x : Se} (h : whr L c = some x) : x ∈ L ∧ x.1 = c := by
 unfold whr at h
 exact ⟨List.mem_of_find?_eq_some h, by simpa using List.find?_some h⟩
theorem Iv.snoc {L : List Se} {G : List Int} {N : Nat} (h : Iv L G N) {x : Se} (hx : Wf x) (hm : may x = true) (hn : ∀ y ∈ L, y.1 ≠ x.1) : Iv (L ++ [x]) G (N + 1) := by
 refine { h.mono (Nat.le_succ N) with nc := ?_, ok := fun y hy => ?_, ll := by have := h.ll; simp; omega }
 ·rw [List.map_append, List.map_cons, List.map_nil]
  refine nd_snoc h.nc (fun e => ?_)
  obtain ⟨y, hy, e⟩ := List.mem_map.1 e
  exact hn y hy e
 ·rcases List.mem_append.1 hy with e | e
  ·exact h.ok y e
  ·simp only [List.mem_singleton] at e
   subst e
   exact ⟨hm, hx⟩
theorem in_caller {L : List Se} (h : (L.map Prod.fst).Nodup) {x : Se} (hx : x ∈ L) : inL 0 x.1 L = [x] := by
 unfold inL
 induction L with
 | nil => cases hx
 | cons y r ih =>
  rw [List.map_cons, List.nodup_cons] at h
  rcases List.mem_cons.1 hx with e | e
  ·subst e
   rw [List.filter_cons_of_pos (by simp [bn])]
   rw [List.filter_eq_nil_iff.2 (fun y hy => ?_)]
   simp only [bn, decide_eq_true_eq]
   exact fun e => h.1 (List.mem_map.2 ⟨y, hy, e⟩)
  ·rw [List.filter_cons_of_neg ?_, ih h.2 e]
   simp only [bn, decide_eq_true_eq]
   exact fun e' => h.1 (List.mem_map.2 ⟨x, e, e'.symm⟩)
theorem out_none {L : List Se} {c : Int} (h : ∀ x ∈ L, x.1 ≠ c) : outL 0 c L = L := by
 unfold outL
 rw [List.filter_eq_self]
 intro x hx
 simp [bn, h x hx]
def outs (L : List Se) (xs : List Se) : List Se := xs.foldl (fun M x => outL 0 x.1 M) L
theorem outs_eq (L xs : List Se) : outs L xs = L.filter (fun y => !decide (y.1 ∈ xs.map Prod.fst)) := by
 induction xs generalizing L with
 | nil => exact (List.filter_eq_self.2 (fun _ _ => rfl)).symm
 | cons x r ih =>
  rw [outs, List.foldl_cons, ← outs, ih]
  unfold outL
  rw [List.filter_filter]
  refine List.filter_congr (fun y _ => ?_)
  simp only [bn, List.map_cons, List.mem_cons]
  by_cases h1 : y.1 = x.1 <;> by_cases h2 : y.1 ∈ r.map Prod.fst <;> simp [h1, h2]
theorem outs_in {L : List Se} (h : (L.map Prod.fst).Nodup) (b : Nat) (n : Int) : outs L (inL b n L) = outL b n L := by
 rw [outs_eq]
 unfold outL
 refine List.filter_congr (fun y hy => ?_)
 congr 1
 rw [decide_eq_decide]
 constructor
 ·intro e
  obtain ⟨z, hz, e⟩ := List.mem_map.1 e
  have hz' := List.mem_filter.1 hz
  have : z = y := by
   have h1 := in_caller h hy
   have h2 : z ∈ inL 0 y.1 L := List.mem_filter.2 ⟨hz'.1, by simp [bn, e]⟩
   rw [h1] at h2
   simpa using h2
  subst this
  simpa using hz'.2
 ·intro e
  exact List.mem_map.2 ⟨y, List.mem_filter.2 ⟨hy, by simp [e]⟩, rfl⟩
theorem outs_snoc (L xs : List Se) (x : Se) : outs L (xs ++ [x]) = outL 0 x.1 (outs L xs) := by simp [outs]
def Lk (f g : Nat → Option Nat) : Option Nat → List Nat → Prop
 | _, [] => True
 | p, q :: r => f q = p ∧ g q = r.head? ∧ Lk f g (some q) r
def lastO : Option Nat → List Nat → Option Nat
 | p, [] => p
 | _, q :: r => lastO (some q) r
def updO (f : Nat → Option Nat) (o : Option Nat) (v : Option Nat) : Nat → Option Nat := fun j => if o = some j then v else f j
theorem Lk.congr {f g f' g' : Nat → Option Nat} : ∀ {p : Option Nat} {xs : List Nat}, Lk f g p xs → (∀ q ∈ xs, f' q = f q ∧ g' q = g q) → Lk f' g' p xs
 | _, [], _, _ => trivial
 | p, q :: r, h, hc => ⟨(hc q (by simp)).1.trans h.1, (hc q (by simp)).2.trans h.2.1, Lk.congr h.2.2 (fun z hz => hc z (by simp [hz]))⟩
theorem lastO_mem : ∀ {xs : List Nat} {p : Option Nat} {z : Nat}, lastO p xs = some z → p = some z ∨ z ∈ xs
 | [], p, z, h => Or.inl h
 | q :: r, p, z, h => by
  rcases lastO_mem (xs := r) h with e | e
  ·simp only [Option.some.injEq] at e
   exact Or.inr (by simp [e])
  ·exact Or.inr (by simp [e])
theorem lastO_append (u v : List Nat) (p : Option Nat) : lastO p (u ++ v) = lastO (lastO p u) v := by
 induction u generalizing p with
 | nil => rfl
 | cons a r ih => exact ih (some a)
theorem lastO_none {xs : List Nat} (h : lastO none xs = none) : xs = [] := by
 cases xs with
 | nil => rfl
 | cons a r =>
  exfalso
  have : ∀ (r : List Nat) (a : Nat), lastO (some a) r ≠ none := fun r => by
   induction r with
   | nil => intro a; simp [lastO]
   | cons b s ih => intro a; exact ih b
  exact this r a h
theorem Lk.at {f g : Nat → Option Nat} {q : Nat} {v : List Nat} : ∀ {p : Option Nat} {u : List Nat}, Lk f g p (u ++ q :: v) → f q = lastO p u ∧ g q = v.head?
 | p, [], h => ⟨h.1, h.2.1⟩
 | p, a :: u, h => Lk.at (p := some a) (u := u) h.2.2
theorem Lk.next {f g : Nat → Option Nat} {p : Option Nat} {xs : List Nat} (h : Lk f g p xs) {i q : Nat} (hi : xs[i]? = some q) : g q = xs[i + 1]? := by
 induction xs generalizing p i with
 | nil => simp at hi
 | cons a r ih =>
  cases i with
  | zero =>
   simp at hi
   subst hi
   rw [h.2.1]
   simp [List.head?_eq_getElem?]
  | succ i => simpa using ih h.2.2 (by simpa using hi)
theorem Lk.snoc {f g : Nat → Option Nat} {q : Nat} : ∀ {p : Option Nat} {xs : List Nat}, Lk f g p xs → (xs ++ [q]).Nodup → g q = none → p ≠ some q →
  Lk (updO f (some q) (lastO p xs)) (updO g (lastO p xs) (some q)) p (xs ++ [q])
 | p, [], h, hn, hg, hp => by
  refine ⟨by simp [updO, lastO], ?_, trivial⟩
  simp [updO, lastO, hp, hg]
 | p, a :: r, h, hn, hg, hp => by
  have hn' : a ∉ r ++ [q] ∧ (r ++ [q]).Nodup := List.nodup_cons.1 hn
  have haq : a ≠ q := fun e => hn'.1 (by simp [e])
  have ih := Lk.snoc (p := some a) h.2.2 hn'.2 hg (by simpa using haq)
  refine ⟨?_, ?_, ih⟩
  ·unfold updO
   rw [if_neg (by simp only [Option.some.injEq]; exact fun e => haq e.symm)]
   exact h.1
  ·cases r with
   | nil => simp [updO, lastO]
   | cons b s =>
    have : lastO (some a) (b :: s) ≠ some a := fun e => by
     rcases lastO_mem (xs := s) (p := some b) e with e | e
     ·simp only [Option.some.injEq] at e
      exact hn'.1 (by simp [e])
     ·exact hn'.1 (by simp [e])
    show updO g (lastO (some a) (b :: s)) (some q) a = _
    unfold updO
    rw [if_neg this, h.2.1]
    rfl
theorem Lk.del {f g : Nat → Option Nat} {q : Nat} {v : List Nat} : ∀ {p : Option Nat} {u : List Nat}, Lk f g p (u ++ q :: v) → (u ++ q :: v).Nodup → (∀ z ∈ u ++ q :: v, p ≠ some z) →
  Lk (updO f (g q) (f q)) (updO g (f q) (g q)) p (u ++ v)
 | p, [], h, hn, hp => by
  obtain ⟨h1, h2, h3⟩ := h
  have hn' : q ∉ v ∧ v.Nodup := List.nodup_cons.1 hn
  show Lk _ _ p v
  rw [h1, h2]
  cases v with
  | nil => trivial
  | cons b s =>
   have hb : b ∉ s ∧ s.Nodup := List.nodup_cons.1 hn'.2
   refine ⟨by simp [updO], ?_, ?_⟩
   ·unfold updO
    rw [if_neg (hp b (by simp))]
    exact h3.2.1
   ·refine h3.2.2.congr (fun z hz => ⟨?_, ?_⟩)
    ·unfold updO
     rw [if_neg]
     simp only [List.head?_cons, Option.some.injEq]
     exact fun e => hb.1 (e ▸ hz)
    ·unfold updO
     rw [if_neg (hp z (by simp [hz]))]
 | p, a :: u, h, hn, hp => by
  have hn' : a ∉ u ++ q :: v ∧ (u ++ q :: v).Nodup := List.nodup_cons.1 hn
  have ih := Lk.del (p := some a) (u := u) h.2.2 hn'.2 (fun z hz e => by simp only [Option.some.injEq] at e; exact hn'.1 (e ▸ hz))
  obtain ⟨e1, e2⟩ := Lk.at (p := some a) (u := u) h.2.2
  refine ⟨?_, ?_, ih⟩
  ·unfold updO
   rw [if_neg, h.1]
   rw [e2]
   intro e
   exact hn'.1 (by have := List.mem_of_mem_head? e; simp [this])
  ·rw [e1, e2]
   have h2 := h.2.1
   cases u with
   | nil => simp [updO, lastO]
   | cons b s =>
    unfold updO
    rw [if_neg]
    ·exact h2
    ·intro e
     rcases lastO_mem (xs := s) (p := some b) e with e | e
     ·simp only [Option.some.injEq] at e
      exact hn'.1 (by simp [e])
     ·exact hn'.1 (by simp [e])
end Go.Proofs.YtkfophlhpjbmgaaGreat.Lv
/- Seats in memory: chairs linked in three rows each, maps of chairs by caller, of rows by name, of cancelled tokens; how all this stays; no conditions. -/
namespace Go.Proofs.YtkfophlhpjbmgaaGreat.Lv
open Go.RowKit Go.Maps Go.ChangeMaps Go.WideMaps
abbrev Nm := Int × Int
def OkN (x : Nm) : Prop := W64 x.1 ∧ W64 x.2
def nv (x : Nm) : Value := .agg #[.int .i64 x.1, .int .i64 x.2]
def datN (x : Nm) : DataW Unit := .agg [.lit (.int .i64 x.1), .lit (.int .i64 x.2)]
def nlit (x : Nm) : Lit := (datN x).asKey
theorem cellsN : Tryz.prog.cellsOf 182 = 2 := by kernel_rfl
theorem shut_name {H : Type} {enc : TypeId × Value → H} {W : World} {base : Nat} {sp : Nat → Bool} {held : Bool} {a b : Int} (wa : W64 a) (wb : W64 b) :
  DataW.Trod enc Tryz.prog W base sp held 182 (.agg #[.int .i64 a, .int .i64 b]) (.agg [.lit (.int .i64 a), .lit (.int .i64 b)]) [] :=
 Joins.shut_agg2 (y0 := (.lit (.int .i64 a), [])) (y1 := (.lit (.int .i64 b), [])) Tryz.underlying182 (by kernel_rfl) cellsN ⟨1, by have wa' : (Lit.int .i64 a).wf = true := wa; simp [DataW.trod, Tryz.underlying3, wa']⟩ ⟨1, by have wb' : (Lit.int .i64 b).wf = true := wb; simp [DataW.trod, Tryz.underlying3, wb']⟩
theorem wideN : (match Tryz.prog.underlying 182 with | some (.array _ _) | some (.struct _) => true | _ => false) = true := by kernel_rfl
theorem deepN : Tryz.prog.keyTypeAt (Tryz.prog.types.size + 1) 182 = true := by kernel_rfl
theorem formedN (a b : Int) : (Value.agg #[.int .i64 a, .int .i64 b]).formed Tryz.prog 182 = true := by
 simp [Value.formed, Tryz.underlying182, cellsN]
set_option maxRecDepth 100000 in
theorem lawN : KeyLaw Tryz.prog 182 := deep_law_laid (by kernel_rfl) (m := 2) (by omega) (of_decide_eq_true (by kernel_rfl)) (by kernel_rfl) wideN
theorem keyedN : Keyed Tryz.prog 182 := Keyed.of_law lawN
set_option maxRecDepth 100000 in
theorem keyN {x : Nm} (h : OkN x) : keyOf Tryz.prog 182 (nv x) = some (nlit x) :=
 (keyOf_asKey (enc := fun _ => ()) (w := default) (base := 0) (sp := fun _ => true) (held := true) deepN wideN (formedN _ _) (shut_name h.1 h.2)).1
theorem nlit_inj {x y : Nm} (hx : OkN x) (hy : OkN y) (e : nlit x = nlit y) : x = y := by
 have h1 := keyN hx
 have h2 := keyN hy
 rw [← e] at h2
 have h3 := lawN.inj h1 h2
 simp only [nv, Value.agg.injEq, Array.mk.injEq, List.cons.injEq, Value.int.injEq, and_true, true_and] at h3
 exact Prod.ext h3.1 h3.2
def KN : KK Tryz.prog 182 Nm := ⟨OkN, nv, nlit, keyedN, keyN, nlit_inj⟩
def pv (o : Option Nat) : Value := .pointer (o.map (fun q => ⟨q, 0, none⟩))
theorem pv_some (q : Nat) : pv (some q) = PT q := rfl
def sc (x : Se) : List Value := [.int .i64 x.1, .int .i64 x.2.1, .int .i64 x.2.2]
def sv (x : Se) : Value := .agg #[.int .i64 x.1, .int .i64 x.2.1, .int .i64 x.2.2]
theorem sc_len (x : Se) : (sc x).length = 3 := rfl
def chc (x : Se) (a b : Nat → Option Nat) : Array Value := #[.int .i64 x.1, .int .i64 x.2.1, .int .i64 x.2.2, pv (a 0), pv (a 1), pv (a 2), pv (b 0), pv (b 1), pv (b 2)]
def updN (a : Nat → Option Nat) (k : Nat) (v : Option Nat) : Nat → Option Nat := fun j => if j = k then v else a j
theorem chc_a {x : Se} {a b : Nat → Option Nat} {k : Nat} (hk : k < 3) : (chc x a b)[3 + k]? = some (pv (a k)) := by
 match k, hk with
 | 0, _ => rfl
 | 1, _ => rfl
 | 2, _ => rfl
theorem chc_b {x : Se} {a b : Nat → Option Nat} {k : Nat} (hk : k < 3) : (chc x a b)[6 + k]? = some (pv (b k)) := by
 match k, hk with
 | 0, _ => rfl
 | 1, _ => rfl
 | 2, _ => rfl
theorem chc_sa {x : Se} {a b : Nat → Option Nat} {k : Nat} (hk : k < 3) (v : Option Nat) : (chc x a b).setIfInBounds (3 + k) (pv v) = chc x (updN a k v) b := by
 match k, hk with
 | 0, _ => simp [chc, updN]
 | 1, _ => simp [chc, updN]
 | 2, _ => simp [chc, updN]
theorem chc_sb {x : Se} {a b : Nat → Option Nat} {k : Nat} (hk : k < 3) (v : Option Nat) : (chc x a b).setIfInBounds (6 + k) (pv v) = chc x a (updN b k v) := by
 match k, hk with
 | 0, _ => simp [chc, updN]
 | 1, _ => simp [chc, updN]
 | 2, _ => simp [chc, updN]
abbrev Chr := Nat × Se
def num (k : Nat) (x : Se) : Int := match k with | 0 => 0 | 1 => x.2.1 | _ => x.2.2
def rowOf (k : Nat) (n : Int) (CH : List Chr) : List Nat := (CH.filter (fun p => decide (num k p.2 = n))).map Prod.fst
def rowC (xs : List Nat) : Array Value := #[pv xs.head?, pv (lastO none xs)]
def rowV (xs : List Nat) : Value := .agg (rowC xs)
def cmap (CH : List Chr) (c : Int) : Option Value := (CH.find? (fun p => decide (p.2.1 = c))).map (fun p => PT p.1)
def rmap (CH : List Chr) (n : Nm) : Option Value := if 0 ≤ n.1 ∧ n.1 < 3 ∧ rowOf n.1.toNat n.2 CH ≠ [] then some (rowV (rowOf n.1.toNat n.2 CH)) else none
def kmap (G : List Int) (t : Int) : Option Value := if t ∈ G then some (.agg #[]) else none
def Ch (w : World) (CH : List Chr) (A B : Nat → Nat → Option Nat) : Prop := ∀ p ∈ CH, w.heap[p.1]? = some (.cells (chc p.2 (fun k => A k p.1) (fun k => B k p.1)) 227 (0, 0))
def Lks (A B : Nat → Nat → Option Nat) (CH : List Chr) : Prop := ∀ k, k < 3 → ∀ n, Lk (A k) (B k) none (rowOf k n CH)
def sbc (mc mr mk : Option Nat) : Array Value := #[.map mc, .map mr, .map mk]
structure Sm (w : World) (s : Nat) (mc mr mk : Option Nat) (nr : Nat) (CH : List Chr) (G : List Int) : Prop where
 hb : w.heap[s]? = some (.cells (sbc mc mr mk) 197 (0, 0))
 cm : (mc = none ∧ mr = none ∧ CH = []) ∨ ∃ b d, mc = some b ∧ mr = some d ∧ b ≠ d ∧ MapK KI w b CH.length (cmap CH) ∧ MapK KN w d nr (rmap CH)
 km : (mk = none ∧ G = []) ∨ ∃ b, mk = some b ∧ MapK KI w b G.length (kmap G)
 kc : ∀ b, mk = some b → mc ≠ some b ∧ mr ≠ some b
 lk : ∃ A B, Ch w CH A B ∧ Lks A B CH
 nb : (CH.map Prod.fst).Nodup
def fpS (s : Nat) (mc mr mk : Option Nat) (CH : List Chr) : List Nat := s :: (mc.toList ++ (mr.toList ++ (mk.toList ++ CH.map Prod.fst)))
theorem mem_fpS {s : Nat} {mc mr mk : Option Nat} {CH : List Chr} {q : Nat} : q ∈ fpS s mc mr mk CH ↔ q = s ∨ mc = some q ∨ mr = some q ∨ mk = some q ∨ q ∈ CH.map Prod.fst := by
 simp only [fpS, List.mem_cons, List.mem_append, Option.mem_toList, Option.mem_def]
def Own1 (w : World) (q : Nat) : Prop := (∃ cs z, w.heap[q]? = some (.cells cs 197 z)) ∨ (∃ cs z, w.heap[q]? = some (.cells cs 227 z)) ∨ ∃ es cl, w.heap[q]? = some (.map es cl)
def Sq (w : World) (s : Nat) (F : List Nat) (L : List Se) (G : List Int) (N : Nat) : Prop := ∃ mc mr mk nr CH, F = fpS s mc mr mk CH ∧ L = CH.map Prod.snd ∧ Sm w s mc mr mk nr CH G ∧ Iv L G N ∧ nr ≤ 3 * N
def SqE (w w' : World) (s : Nat) (F : List Nat) (L : List Se) (G : List Int) (N : Nat) : Prop := ∃ F', Sq w' s F' L G N ∧ Touch F w w' ∧ Nf w F F'
section
variable {w w' : World} {s nr : Nat} {mc mr mk : Option Nat} {CH : List Chr} {G : List Int} {F X : List Nat} {L : List Se} {N M : Nat}
theorem Sm.own (h : Sm w s mc mr mk nr CH G) : ∀ q, q ∈ fpS s mc mr mk CH → Own1 w q := fun q hq => by
 rcases mem_fpS.1 hq with e | e | e | e | e
 ·subst e; exact Or.inl ⟨_, _, h.hb⟩
 ·rcases h.cm with ⟨h1, _⟩ | ⟨b, d, h1, h2, _, h3, h4⟩
  ·rw [h1] at e; cases e
  ·rw [h1] at e; cases e; exact Or.inr (Or.inr h3.kind)
 ·rcases h.cm with ⟨_, h1, _⟩ | ⟨b, d, h1, h2, _, h3, h4⟩
  ·rw [h1] at e; cases e
  ·rw [h2] at e; cases e; exact Or.inr (Or.inr h4.kind)
 ·rcases h.km with ⟨h1, _⟩ | ⟨b, h1, h2⟩
  ·rw [h1] at e; cases e
  ·rw [h1] at e; cases e; exact Or.inr (Or.inr h2.kind)
 ·obtain ⟨p, hp, rfl⟩ := List.mem_map.1 e
  obtain ⟨A, B, h1, _⟩ := h.lk
  exact Or.inr (Or.inl ⟨_, _, h1 p hp⟩)
theorem Own1.lt {q : Nat} (h : Own1 w q) : q < w.heap.size := by
 rcases h with ⟨_, _, h⟩ | ⟨_, _, h⟩ | ⟨_, _, h⟩ <;> exact block_lt h
theorem Own1.ne {q r : Nat} (h : Own1 w q) {cs : Array Value} {t : TypeId} {z : Nat × Nat} (hr : w.heap[r]? = some (.cells cs t z)) (h1 : t ≠ 197) (h2 : t ≠ 227) : q ≠ r := fun e => by
 subst e
 rcases h with ⟨_, _, h⟩ | ⟨_, _, h⟩ | ⟨_, _, h⟩
 ·rw [hr] at h; simp only [Option.some.injEq, Obj.cells.injEq] at h; exact h1 h.2.1
 ·rw [hr] at h; simp only [Option.some.injEq, Obj.cells.injEq] at h; exact h2 h.2.1
 ·rw [hr] at h; cases h
theorem Sm.keep (h : Sm w s mc mr mk nr CH G) (T : Touch X w w') (hX : ∀ q, q ∈ fpS s mc mr mk CH → ¬ q ∈ X) : Sm w' s mc mr mk nr CH G := by
 refine ⟨T.keep h.hb (hX s (mem_fpS.2 (Or.inl rfl))), ?_, ?_, h.kc, ?_, h.nb⟩
 ·rcases h.cm with h1 | ⟨b, d, h1, h2, hne, h3, h4⟩
  ·exact Or.inl h1
  ·exact Or.inr ⟨b, d, h1, h2, hne, h3.keep T (hX b (mem_fpS.2 (Or.inr (Or.inl h1)))), h4.keep T (hX d (mem_fpS.2 (Or.inr (Or.inr (Or.inl h2)))))⟩
 ·rcases h.km with h1 | ⟨b, h1, h2⟩
  ·exact Or.inl h1
  ·exact Or.inr ⟨b, h1, h2.keep T (hX b (mem_fpS.2 (Or.inr (Or.inr (Or.inr (Or.inl h1))))))⟩
 ·obtain ⟨A, B, h1, h2⟩ := h.lk
  exact ⟨A, B, fun p hp => T.keep (h1 p hp) (hX p.1 (mem_fpS.2 (Or.inr (Or.inr (Or.inr (Or.inr (List.mem_map.2 ⟨p, hp, rfl⟩))))))), h2⟩
theorem Sm.keep0 (h : Sm w s mc mr mk nr CH G) (T : Touch [] w w') : Sm w' s mc mr mk nr CH G := h.keep T (fun _ _ e => by cases e)
theorem Sq.own (h : Sq w s F L G N) : ∀ q, q ∈ F → Own1 w q := by
 obtain ⟨mc, mr, mk, nr, CH, rfl, rfl, h1, _⟩ := h
 exact h1.own
theorem Sq.lt (h : Sq w s F L G N) : ∀ q, q ∈ F → q < w.heap.size := fun q hq => (h.own q hq).lt
theorem Sq.mem (h : Sq w s F L G N) : s ∈ F := by
 obtain ⟨mc, mr, mk, nr, CH, rfl, rfl, h1, _⟩ := h
 exact mem_fpS.2 (Or.inl rfl)
theorem Sq.slt (h : Sq w s F L G N) : s < w.heap.size := h.lt s h.mem
theorem Sq.keep (h : Sq w s F L G N) (T : Touch X w w') (hX : ∀ q, q ∈ F → ¬ q ∈ X) : Sq w' s F L G N := by
 obtain ⟨mc, mr, mk, nr, CH, rfl, rfl, h1, h2, h3⟩ := h
 exact ⟨mc, mr, mk, nr, CH, rfl, rfl, h1.keep T hX, h2, h3⟩
theorem Sq.keep0 (h : Sq w s F L G N) (T : Touch [] w w') : Sq w' s F L G N := h.keep T (fun _ _ e => by cases e)
theorem Sq.mono (h : Sq w s F L G N) (hm : N ≤ M) : Sq w s F L G M := by
 obtain ⟨mc, mr, mk, nr, CH, rfl, rfl, h1, h2, h3⟩ := h
 exact ⟨mc, mr, mk, nr, CH, rfl, rfl, h1, h2.mono hm, by omega⟩
theorem Sq.iv (h : Sq w s F L G N) : Iv L G N := by
 obtain ⟨mc, mr, mk, nr, CH, rfl, rfl, h1, h2, h3⟩ := h
 exact h2
theorem SqE.same (h : Sq w s F L G N) (hm : N ≤ M) (T : Touch [] w w') : SqE w w' s F L G M := ⟨F, (h.keep0 T).mono hm, T.mono (fun _ e => by cases e), Nf.refl _ _⟩
theorem SqE.trans {w2 : World} {F1 : List Nat} (t1 : Touch F w w') (n1 : Nf w F F1) (h2 : SqE w' w2 s F1 L G N) : SqE w w2 s F L G N := by
 obtain ⟨F2, r1, r2, r3⟩ := h2
 exact ⟨F2, r1, t1.trans r2 n1, n1.trans r3 t1.size⟩
theorem SqE.from0 {w2 : World} (t1 : Touch [] w w') (h2 : SqE w' w2 s F L G N) : SqE w w2 s F L G N := SqE.trans (t1.mono (fun _ e => by cases e)) (Nf.refl _ _) h2
theorem SqE.box {W w1 w2 : World} (t0 : Touch [] w W) (h : SqE W w1 s F L G N) (hF : ∀ d, d ∈ F → d < w.heap.size) {b : Nat} (hb : w.heap.size ≤ b) (hb2 : b < W.heap.size) (T2 : Touch [b] w1 w2) : SqE w w2 s F L G N := by
 obtain ⟨F1, q1, q2, q3⟩ := h
 have hn : ∀ d, d ∈ F1 → ¬ d ∈ [b] := fun d hd e => by
  simp only [List.mem_singleton] at e
  rcases q3 d hd with e' | e'
  ·have := hF d e'; omega
  ·omega
 have hz := t0.size
 refine ⟨F1, q1.keep T2 hn, ((t0.mono (fun _ e => by cases e)).trans q2 (fun i hi => Or.inl hi)).trans T2 (fun i hi => ?_), fun d hd => ?_⟩
 ·simp only [List.mem_singleton] at hi; exact Or.inr (by omega)
 ·rcases q3 d hd with e' | e'
  ·exact Or.inl e'
  ·exact Or.inr (by omega)
end
end Go.Proofs.YtkfophlhpjbmgaaGreat.Lv
/- A group in memory: its memo, its table, its batch and its seats side by side, and how a step of one of them is a step of the group; no conditions. -/
namespace Go.Proofs.YtkfophlhpjbmgaaGreat
open Go.RowKit Go.Maps Go.ChangeMaps
structure Gp where
 c : Me.Cf
 mn : Int
 en : List Me.En
 T : Ta.Tb
 B : Ba.Bs
 L : List Lv.Se
 G : List Int
 now : Int
structure Pt where
 m : Nat
 t : Nat
 b : Nat
 s : Nat
structure Cn where
 t : Nat
 b : Nat
 s : Nat
def gcs (P : Pt) (now : Int) : Array Value := #[PT P.m, PT P.t, PT P.b, PT P.s, .int .i64 now]
def Dj (A B : List Nat) : Prop := ∀ k, k ∈ A → ¬ k ∈ B
theorem Dj.symm {A B : List Nat} (h : Dj A B) : Dj B A := fun k hk e => h k e hk
theorem Dj.grow {w : World} {A A' B : List Nat} (h : Dj A B) (nf : Nf w A A') (hB : ∀ k, k ∈ B → k < w.heap.size) : Dj A' B := fun k hk e => by
 rcases nf k hk with q | q
 ·exact h k q e
 ·have := hB k e; omega
structure Gm (w : World) (g : Nat) (P : Pt) (Fm Ft Fb Fs : List Nat) (X : Gp) (N : Cn) : Prop where
 bl : w.heap[g]? = some (.cells (gcs P X.now) 119 (0, 0))
 mq : Me.Mq w P.m Fm X.c X.mn X.en
 tq : Ta.Tq w P.t Ft X.T N.t
 bq : Ba.Bq w P.b Fb X.B N.b
 sq : Lv.Sq w P.s Fs X.L X.G N.s
 gm : Dj [g] Fm
 gt : Dj [g] Ft
 gb : Dj [g] Fb
 gs : Dj [g] Fs
 mt : Dj Fm Ft
 mb : Dj Fm Fb
 ms : Dj Fm Fs
 tb : Dj Ft Fb
 ts : Dj Ft Fs
 bs : Dj Fb Fs
def fpG (g : Nat) (Fm Ft Fb Fs : List Nat) : List Nat := g :: (Fm ++ (Ft ++ (Fb ++ Fs)))
theorem mem_fpG {g k : Nat} {Fm Ft Fb Fs : List Nat} : k ∈ fpG g Fm Ft Fb Fs ↔ k = g ∨ k ∈ Fm ∨ k ∈ Ft ∨ k ∈ Fb ∨ k ∈ Fs := by simp [fpG]
def Gq (w : World) (g : Nat) (P : Pt) (F : List Nat) (X : Gp) (N : Cn) : Prop := ∃ Fm Ft Fb Fs, F = fpG g Fm Ft Fb Fs ∧ Gm w g P Fm Ft Fb Fs X N
def GqE (w w' : World) (g : Nat) (P : Pt) (F : List Nat) (X : Gp) (N : Cn) : Prop := ∃ F', Gq w' g P F' X N ∧ Touch F w w' ∧ Nf w F F'
section
variable {w w' w2 : World} {g : Nat} {P : Pt} {F F1 D Fm Ft Fb Fs : List Nat} {X Y : Gp} {N M : Cn}
theorem Gm.glt (h : Gm w g P Fm Ft Fb Fs X N) : g < w.heap.size := block_lt h.bl
theorem Gm.lt (h : Gm w g P Fm Ft Fb Fs X N) : ∀ k, k ∈ fpG g Fm Ft Fb Fs → k < w.heap.size := fun k hk => by
 rcases mem_fpG.1 hk with e | e | e | e | e
 ·subst e; exact h.glt
 ·exact h.mq.lt k e
 ·exact h.tq.lt k e
 ·exact h.bq.lt k e
 ·exact h.sq.lt k e
theorem Gq.lt (h : Gq w g P F X N) : ∀ k, k ∈ F → k < w.heap.size := by
 obtain ⟨Fm, Ft, Fb, Fs, rfl, h⟩ := h
 exact h.lt
theorem Gm.keep (h : Gm w g P Fm Ft Fb Fs X N) (T : Touch D w w') (hD : ∀ k, k ∈ fpG g Fm Ft Fb Fs → ¬ k ∈ D) : Gm w' g P Fm Ft Fb Fs X N :=
 { h with
  bl := T.keep h.bl (hD g (mem_fpG.2 (Or.inl rfl)))
  mq := h.mq.keep T (fun k hk => hD k (mem_fpG.2 (Or.inr (Or.inl hk))))
  tq := h.tq.keep T (fun k hk => hD k (mem_fpG.2 (Or.inr (Or.inr (Or.inl hk)))))
  bq := h.bq.keep T (fun k hk => hD k (mem_fpG.2 (Or.inr (Or.inr (Or.inr (Or.inl hk))))))
  sq := h.sq.keep T (fun k hk => hD k (mem_fpG.2 (Or.inr (Or.inr (Or.inr (Or.inr hk)))))) }
theorem Gq.keep (h : Gq w g P F X N) (T : Touch D w w') (hD : ∀ k, k ∈ F → ¬ k ∈ D) : Gq w' g P F X N := by
 obtain ⟨Fm, Ft, Fb, Fs, rfl, h⟩ := h
 exact ⟨Fm, Ft, Fb, Fs, rfl, h.keep T hD⟩
theorem Gq.keep0 (h : Gq w g P F X N) (T : Touch [] w w') : Gq w' g P F X N := h.keep T (fun _ _ e => by cases e)
theorem GqE.same (h : Gq w g P F X N) (T : Touch [] w w') : GqE w w' g P F X N := ⟨F, h.keep0 T, T.mono (fun _ e => by cases e), Nf.refl _ _⟩
theorem GqE.refl (h : Gq w g P F X N) : GqE w w g P F X N := GqE.same h (Touch.refl _ _)
theorem GqE.then0 (h1 : GqE w w' g P F X N) (t2 : Touch [] w' w2) : GqE w w2 g P F X N := by
 obtain ⟨F1, q1, q2, q3⟩ := h1
 exact ⟨F1, q1.keep0 t2, q2.trans t2 (fun _ e => by cases e), q3⟩
theorem Nf.out {k : Nat} (n : Nf w F F1) (hk : k < w.heap.size) (hF : ¬ k ∈ F) : ¬ k ∈ F1 := fun e => by
 rcases n k e with q | q
 ·exact hF q
 ·omega
structure GmC (w : World) (g : Nat) (P : Pt) (now : Int) : Prop where
 c0 : w.cell? ⟨g, 0, none⟩ = some (.pointer (some ⟨P.m, 0, none⟩))
 c1 : w.cell? ⟨g, 1, none⟩ = some (.pointer (some ⟨P.t, 0, none⟩))
 c2 : w.cell? ⟨g, 2, none⟩ = some (.pointer (some ⟨P.b, 0, none⟩))
 c3 : w.cell? ⟨g, 3, none⟩ = some (.pointer (some ⟨P.s, 0, none⟩))
 c4 : w.cell? ⟨g, 4, none⟩ = some (.int .i64 now)
 f4 : w.frozen? ⟨g, 4, none⟩ = false
theorem Gm.cs (h : Gm w g P Fm Ft Fb Fs X N) : GmC w g P X.now := by
 have := h.bl
 unfold gcs PT at this
 constructor <;> simp [World.cell?, World.frozen?, this]
theorem Gq.cs (h : Gq w g P F X N) : GmC w g P X.now := by
 obtain ⟨Fm, Ft, Fb, Fs, rfl, h⟩ := h
 exact h.cs
theorem Gq.memo (h : Gq w g P F X N) : ∃ Fm, Me.Mq w P.m Fm X.c X.mn X.en ∧ (∀ k, k ∈ Fm → k ∈ F) ∧ ∀ w' n e, Me.Mc w P.m Fm X.c n e w' → GqE w w' g P F { X with mn := n, en := e } N := by
 obtain ⟨Fm, Ft, Fb, Fs, rfl, h⟩ := h
 refine ⟨Fm, h.mq, fun k hk => mem_fpG.2 (Or.inr (Or.inl hk)), fun w' n e hc => ?_⟩
 obtain ⟨F', q1, q2, q3⟩ := hc
 refine ⟨fpG g F' Ft Fb Fs, ⟨F', Ft, Fb, Fs, rfl, ?_⟩, q2.mono (fun k hk => mem_fpG.2 (Or.inr (Or.inl hk))), fun k hk => ?_⟩
 ·exact ⟨q2.keep h.bl (h.gm g (by simp)), q1, h.tq.keep q2 h.mt.symm, h.bq.keep q2 h.mb.symm, h.sq.keep q2 h.ms.symm, (h.gm.symm.grow q3 (fun k hk => by simp at hk; subst hk; exact h.glt)).symm, h.gt, h.gb, h.gs, h.mt.grow q3 h.tq.lt, h.mb.grow q3 h.bq.lt, h.ms.grow q3 h.sq.lt, h.tb, h.ts, h.bs⟩
 ·rcases mem_fpG.1 hk with e | e | e | e | e
  ·exact Or.inl (mem_fpG.2 (Or.inl e))
  ·exact (q3 k e).elim (fun e => Or.inl (mem_fpG.2 (Or.inr (Or.inl e)))) Or.inr
  ·exact Or.inl (mem_fpG.2 (Or.inr (Or.inr (Or.inl e))))
  ·exact Or.inl (mem_fpG.2 (Or.inr (Or.inr (Or.inr (Or.inl e)))))
  ·exact Or.inl (mem_fpG.2 (Or.inr (Or.inr (Or.inr (Or.inr e)))))
theorem Gq.tab (h : Gq w g P F X N) : ∃ Ft, Ta.Tq w P.t Ft X.T N.t ∧ (∀ k, k ∈ Ft → k ∈ F) ∧ ∀ w' T' M, Ta.TqE w w' P.t Ft T' M → GqE w w' g P F { X with T := T' } { N with t := M } := by
 obtain ⟨Fm, Ft, Fb, Fs, rfl, h⟩ := h
 refine ⟨Ft, h.tq, fun k hk => mem_fpG.2 (Or.inr (Or.inr (Or.inl hk))), fun w' T' M hc => ?_⟩
 obtain ⟨F', q1, q2, q3⟩ := hc
 refine ⟨fpG g Fm F' Fb Fs, ⟨Fm, F', Fb, Fs, rfl, ?_⟩, q2.mono (fun k hk => mem_fpG.2 (Or.inr (Or.inr (Or.inl hk)))), fun k hk => ?_⟩
 ·exact ⟨q2.keep h.bl (h.gt g (by simp)), h.mq.keep q2 h.mt, q1, h.bq.keep q2 h.tb.symm, h.sq.keep q2 h.ts.symm, h.gm, (h.gt.symm.grow q3 (fun k hk => by simp at hk; subst hk; exact h.glt)).symm, h.gb, h.gs, (h.mt.symm.grow q3 h.mq.lt).symm, h.mb, h.ms, h.tb.grow q3 h.bq.lt, h.ts.grow q3 h.sq.lt, h.bs⟩
 ·rcases mem_fpG.1 hk with e | e | e | e | e
  ·exact Or.inl (mem_fpG.2 (Or.inl e))
  ·exact Or.inl (mem_fpG.2 (Or.inr (Or.inl e)))
  ·exact (q3 k e).elim (fun e => Or.inl (mem_fpG.2 (Or.inr (Or.inr (Or.inl e))))) Or.inr
  ·exact Or.inl (mem_fpG.2 (Or.inr (Or.inr (Or.inr (Or.inl e)))))
  ·exact Or.inl (mem_fpG.2 (Or.inr (Or.inr (Or.inr (Or.inr e)))))
theorem Gq.bat (h : Gq w g P F X N) : ∃ Fb, Ba.Bq w P.b Fb X.B N.b ∧ (∀ k, k ∈ Fb → k ∈ F) ∧ ∀ w' S' M, (∃ F', Ba.Bq w' P.b F' S' M ∧ Touch Fb w w' ∧ Nf w Fb F') → GqE w w' g P F { X with B := S' } { N with b := M } := by
 obtain ⟨Fm, Ft, Fb, Fs, rfl, h⟩ := h
 refine ⟨Fb, h.bq, fun k hk => mem_fpG.2 (Or.inr (Or.inr (Or.inr (Or.inl hk)))), fun w' T' M hc => ?_⟩
 obtain ⟨F', q1, q2, q3⟩ := hc
 refine ⟨fpG g Fm Ft F' Fs, ⟨Fm, Ft, F', Fs, rfl, ?_⟩, q2.mono (fun k hk => mem_fpG.2 (Or.inr (Or.inr (Or.inr (Or.inl hk))))), fun k hk => ?_⟩
 ·exact ⟨q2.keep h.bl (h.gb g (by simp)), h.mq.keep q2 h.mb, h.tq.keep q2 h.tb, q1, h.sq.keep q2 h.bs.symm, h.gm, h.gt, (h.gb.symm.grow q3 (fun k hk => by simp at hk; subst hk; exact h.glt)).symm, h.gs, h.mt, (h.mb.symm.grow q3 h.mq.lt).symm, h.ms, (h.tb.symm.grow q3 h.tq.lt).symm, h.ts, h.bs.grow q3 h.sq.lt⟩
 ·rcases mem_fpG.1 hk with e | e | e | e | e
  ·exact Or.inl (mem_fpG.2 (Or.inl e))
  ·exact Or.inl (mem_fpG.2 (Or.inr (Or.inl e)))
  ·exact Or.inl (mem_fpG.2 (Or.inr (Or.inr (Or.inl e))))
  ·exact (q3 k e).elim (fun e => Or.inl (mem_fpG.2 (Or.inr (Or.inr (Or.inr (Or.inl e)))))) Or.inr
  ·exact Or.inl (mem_fpG.2 (Or.inr (Or.inr (Or.inr (Or.inr e)))))
theorem Gq.sea (h : Gq w g P F X N) : ∃ Fs, Lv.Sq w P.s Fs X.L X.G N.s ∧ (∀ k, k ∈ Fs → k ∈ F) ∧ ∀ w' L' G' M, Lv.SqE w w' P.s Fs L' G' M → GqE w w' g P F { X with L := L', G := G' } { N with s := M } := by
 obtain ⟨Fm, Ft, Fb, Fs, rfl, h⟩ := h
 refine ⟨Fs, h.sq, fun k hk => mem_fpG.2 (Or.inr (Or.inr (Or.inr (Or.inr hk)))), fun w' L' G' M hc => ?_⟩
 obtain ⟨F', q1, q2, q3⟩ := hc
 refine ⟨fpG g Fm Ft Fb F', ⟨Fm, Ft, Fb, F', rfl, ?_⟩, q2.mono (fun k hk => mem_fpG.2 (Or.inr (Or.inr (Or.inr (Or.inr hk))))), fun k hk => ?_⟩
 ·exact ⟨q2.keep h.bl (h.gs g (by simp)), h.mq.keep q2 h.ms, h.tq.keep q2 h.ts, h.bq.keep q2 h.bs, q1, h.gm, h.gt, h.gb, (h.gs.symm.grow q3 (fun k hk => by simp at hk; subst hk; exact h.glt)).symm, h.mt, h.mb, (h.ms.symm.grow q3 h.mq.lt).symm, h.tb, (h.ts.symm.grow q3 h.tq.lt).symm, (h.bs.symm.grow q3 h.bq.lt).symm⟩
 ·rcases mem_fpG.1 hk with e | e | e | e | e
  ·exact Or.inl (mem_fpG.2 (Or.inl e))
  ·exact Or.inl (mem_fpG.2 (Or.inr (Or.inl e)))
  ·exact Or.inl (mem_fpG.2 (Or.inr (Or.inr (Or.inl e))))
  ·exact Or.inl (mem_fpG.2 (Or.inr (Or.inr (Or.inr (Or.inl e)))))
  ·exact (q3 k e).elim (fun e => Or.inl (mem_fpG.2 (Or.inr (Or.inr (Or.inr (Or.inr e)))))) Or.inr
theorem Gq.setNow (h : Gq w g P F X N) (n : Int) : GqE w (w.setCell ⟨g, 4, none⟩ (.int .i64 n)) g P F { X with now := n } N := by
 obtain ⟨Fm, Ft, Fb, Fs, rfl, h⟩ := h
 have T : Touch [g] w (w.setCell ⟨g, 4, none⟩ (.int .i64 n)) := (Touch.refl _ _).setCell (Or.inl (by simp)) _
 refine ⟨_, ⟨Fm, Ft, Fb, Fs, rfl, { h with bl := ?_, mq := h.mq.keep T h.gm.symm, tq := h.tq.keep T h.gt.symm, bq := h.bq.keep T h.gb.symm, sq := h.sq.keep T h.gs.symm }⟩, T.mono (fun k hk => by simp at hk; exact mem_fpG.2 (Or.inl hk)), Nf.refl _ _⟩
 have := bset h.bl (i := 4) (.int .i64 n)
 unfold gcs at this ⊢
 simpa using this
theorem Gq.iv (h : Gq w g P F X N) : Me.Gd X.c X.mn X.en ∧ Ta.Ti X.T N.t ∧ Ta.Lv X.T ∧ Lv.Iv X.L X.G N.s ∧ Ba.Iv X.B N.b := by
 obtain ⟨Fm, Ft, Fb, Fs, rfl, h⟩ := h
 refine ⟨h.mq.gd, h.tq.iv, h.tq.live, h.sq.iv, ?_⟩
 obtain ⟨sl, d, e, hm, hv⟩ := h.bq
 exact hv
end
section
variable {W w w' w2 : World} {g : Nat} {P : Pt} {F Bx : List Nat} {X Y : Gp} {N M : Cn}
end
section
variable {W w w' w1 w2 : World} {g : Nat} {P : Pt} {F : List Nat} {X Y : Gp} {N M : Cn}
theorem GqE.tch (h : GqE W w1 g P F X N) : Touch F W w1 := by
 obtain ⟨F1, q1, q2, q3⟩ := h
 exact q2
theorem GqE.bk (h : GqE W w1 g P F X N) {k : Nat} {ob : Obj} (hk : W.heap[k]? = some ob) (hn : ¬ k ∈ F) : w1.heap[k]? = some ob := h.tch.keep hk hn
theorem GqE.cs (h : GqE W w1 g P F X N) : GmC w1 g P X.now := by
 obtain ⟨F1, q1, q2, q3⟩ := h
 exact q1.cs
theorem GqE.sub (h : GqE W w1 g P F X N) : ∃ F1, Gq w1 g P F1 X N ∧ (∀ k, k < W.heap.size → ¬ k ∈ F → ¬ k ∈ F1) ∧ ∀ w2 Y M, GqE w1 w2 g P F1 Y M → GqE W w2 g P F Y M := by
 obtain ⟨F1, q1, q2, q3⟩ := h
 refine ⟨F1, q1, fun k h1 h2 => q3.out h1 h2, fun w2 Y M hE => ?_⟩
 obtain ⟨F2, r1, r2, r3⟩ := hE
 exact ⟨F2, r1, q2.trans r2 q3, q3.trans r3 q2.size⟩
theorem GqE.box (t0 : Touch [] w W) (h : GqE W w1 g P F X N) (hF : ∀ d, d ∈ F → d < w.heap.size) {Bs : List Nat} (hb : ∀ b, b ∈ Bs → w.heap.size ≤ b ∧ b < W.heap.size) (T2 : Touch Bs w1 w2) : GqE w w2 g P F X N := by
 obtain ⟨F1, q1, q2, q3⟩ := h
 refine ⟨F1, q1.keep T2 (fun d hd e => ?_), ((t0.mono (fun _ e => by cases e)).trans' q2).trans T2 (fun i hi => Or.inr (hb i hi).1), fun k hk => (q3 k hk).elim Or.inl (fun e => Or.inr (Nat.le_trans t0.size e))⟩
 have := hb d e
 rcases q3 d hd with q | q
 ·have := hF d q; omega
 ·omega
end
end Go.Proofs.YtkfophlhpjbmgaaGreat
/- The contract of put; a key's name has at most 64 bytes. -/
namespace Go.Proofs.YtkfophlhpjbmgaaGreat.Me
open Go.RowKit Go.Sort Go.Maps Go.ChangeMaps Go.WideMaps
def RT (t : Nat) (w : World) (v : Value) (xs : List K) : Prop := w.ownsRow 0 t 2 v xs.length (cellsK xs)
theorem RT.nil (t : Nat) (w : World) : RT t w (.slice none 0 0) [] := World.ownsRow_nil _ _ _ _
theorem RT.one {t : Nat} {w : World} {g : Nat} {x : K} (h : w.heap[g]? = some (.cells #[.int .u16 x.1, .string x.2] t (0, 0))) : RT t w (.slice (some ⟨g, 0, none⟩) 1 1) [x] :=
 ⟨rfl, Or.inr ⟨g, 1, #[.int .u16 x.1, .string x.2], rfl, Nat.zero_le _, h, Nat.le_refl _, by unfold maxLen; decide, rfl, rfl⟩⟩
theorem RT.form {t : Nat} {w : World} {v : Value} {xs : List K} (h : RT t w v xs) : ∃ a c, v = .slice a xs.length c ∧ ∀ k (hk : k < xs.length), ∃ g, a = some ⟨g, 0, none⟩ := by
 obtain ⟨h1, h2 | ⟨g, cap, cur, rfl, hg, hc, hn, r⟩⟩ := h
 ·obtain ⟨h2, h3⟩ := h2
  exact ⟨none, 0, by rw [h3]; exact h2, fun k hk => by omega⟩
 ·exact ⟨_, cap, rfl, fun k hk => ⟨g, rfl⟩⟩
theorem RT.cells {t : Nat} {w : World} {g c : Nat} {xs : List K} (h : RT t w (.slice (some ⟨g, 0, none⟩) xs.length c) xs) (k : Nat) (hk : k < xs.length) : w.cell? ⟨g, k * 2, none⟩ = some (.int .u16 xs[k].1) ∧ w.cell? ⟨g, k * 2 + 1, none⟩ = some (.string xs[k].2) :=
 ⟨own_cell h (cellsK_at0 xs k hk), own_cell h (cellsK_at1 xs k hk)⟩
def goneL (e : Int) (xs : List En) (k : K) : List K := if useB e (keysL xs) k then [useG e (keysL xs) k] else []
structure Pm (w : World) (m b o : Nat) (G : List Nat) (c : Cf) (now : Int) (xs : List En) (k : K) (v : V) (W : World) : Prop where
 md : Md W m c now b o
 mp : MapAt W b (if (mpf xs k).isSome then xs.length else xs.length + 1) (upd (mpf xs) k (ev v))
 oq : ∃ G', Oq W o G' c.e (useL c.e (keysL xs) k) ∧ ¬ b ∈ G' ∧ Nf w G G'
 t : Touch (m :: b :: G) w W
theorem dr_len_mem {xs : List K} {k : K} (hn : xs.Nodup) (h : k ∈ xs) : (dr xs k).length + 1 = xs.length := by
 obtain ⟨A, B, rfl⟩ := List.append_of_mem h
 rw [List.nodup_append, List.nodup_cons] at hn
 rw [dr_mid (fun x hx e => hn.2.2 x hx k (by simp) e) (fun x hx e => hn.2.1.1 (e ▸ hx))]
 simp only [List.length_append, List.length_cons]
 omega
theorem putY_len {xs : List En} (hn : (keysL xs).Nodup) (k : K) (v : V) : (putY xs k v).length = if (mpf xs k).isSome then xs.length else xs.length + 1 := by
 unfold putY mpf
 simp only [List.length_append, List.length_singleton, Option.isSome_map]
 rw [fnd_isSome]
 by_cases h : k ∈ keysL xs
 ·rw [hs_yes h, if_pos rfl]
  have h1 := dr_len_mem hn h
  rw [← drx_keys, keysL_len, keysL_len] at h1
  exact h1
 ·rw [hs_no h]
  simp only [Bool.false_eq_true, if_false]
  have h1 := congrArg List.length (dr_no h)
  rw [← drx_keys, keysL_len, keysL_len] at h1
  omega
theorem upd_mpf (xs : List En) (k : K) (v : V) : upd (mpf xs) k (ev v) = mpf (putY xs k v) := by
 funext j
 unfold upd mpf
 rw [fnd_putY]
 split <;> rfl
section
variable {w W : World} {m b o : Nat} {G : List Nat} {c : Cf} {now : Int} {xs : List En} {k : K} {v : V}
theorem Pm.end1 (h : Pm w m b o G c now xs k v W) (hn : (keysL xs).Nodup) (hg : Gd c now xs) (hv : right v.1 = true ∧ 0 ≤ v.2 ∧ v.2 ≤ now) (hb : useB c.e (keysL xs) k = false) : Mc w m (m :: b :: G) c now (putL c.e xs k v) W := by
 obtain ⟨md, mp, ⟨G', o1, o2, o3⟩, t⟩ := h
 have e : putL c.e xs k v = putY xs k v := by unfold putL; rw [hb]; rfl
 refine ⟨m :: b :: G', ⟨b, o, G', rfl, md, ?_, ?_, hg.put k v hv, o2⟩, t, fun i hi => ?_⟩
 ·rw [e, putY_len hn, ← upd_mpf]
  exact mp
 ·rw [putL_keys]
  exact o1
 ·simp only [List.mem_cons] at hi ⊢
  rcases hi with rfl | rfl | hi
  ·exact Or.inl (Or.inl rfl)
  ·exact Or.inl (Or.inr (Or.inl rfl))
  ·exact (o3 i hi).elim (fun e => Or.inl (Or.inr (Or.inr e))) Or.inr
theorem Pm.end2 (h : Pm w m b o G c now xs k v W) (hn : (keysL xs).Nodup) (hok : ∀ k ∈ keysL xs, Ok k) (hk : Ok k) (hg : Gd c now xs) (hv : right v.1 = true ∧ 0 ≤ v.2 ∧ v.2 ≤ now) (hb : useB c.e (keysL xs) k = true) (ty : TypeId) :
  ∃ ob, (Builtin.delete_ #[152, 38] ty #[.map (some b), kv (useG c.e (keysL xs) k)]).run Tryz.prog W.drew = .ok (.tuple #[]) (setBlock W.drew b ob) ∧ Mc w m (m :: b :: G) c now (putL c.e xs k v) (setBlock W.drew b ob) := by
 obtain ⟨md, mp, ⟨G', o1, o2, o3⟩, t⟩ := h
 obtain ⟨g, zs, hy⟩ : ∃ g zs, putY xs k v = g :: zs := by
  cases e : putY xs k v with
  | nil => simp [putY] at e
  | cons g zs => exact ⟨g, zs, rfl⟩
 have eG : useG c.e (keysL xs) k = g.1 := by
  unfold useG
  rw [if_pos hb, ← putY_keys xs k v, hy]
  rfl
 have e : putL c.e xs k v = zs := by unfold putL; rw [hb, hy]; rfl
 have hmem : ∀ x ∈ keysL (putY xs k v), Ok x := fun x hx => by
  obtain ⟨y, hy1, rfl⟩ := List.mem_map.1 hx
  rcases mem_putY hy1 with e | e
  ·exact hok _ (List.mem_map_of_mem e)
  ·rw [e]; exact hk
 have hnd : (keysL (putY xs k v)).Nodup := by
  rw [putY_keys]
  unfold useY dr
  rw [List.nodup_append]
  refine ⟨hn.filter _, by simp, fun a ha b hb e => ?_⟩
  simp only [List.mem_singleton] at hb
  have := (List.mem_filter.1 ha).2
  simp only [ne_eq, decide_eq_true_eq] at this
  exact this (e.trans hb)
 rw [hy] at hnd hmem
 simp only [keysL, List.map_cons, List.nodup_cons] at hnd
 rw [upd_mpf, ← putY_len hn k v, hy] at mp
 rw [eG]
 obtain ⟨ob, hu, hs⟩ := (show MapAt W.drew b _ _ from mp.kept rfl).del (t := 152) Tryz.underlying152 (hmem g.1 (by simp [keysL])) ty
 refine ⟨ob, hu, m :: b :: G', ⟨b, o, G', rfl, ?_, ?_, ?_, hg.put k v hv, o2⟩, ?_, fun i hi => ?_⟩
 ·have hne : m ≠ b := fun e => by
   have := mp.ne_block md
   exact this e.symm
  unfold Md
  rw [setBlock_other _ _ _ hne]
  exact md
 ·rw [e]
  have h1 : (mpf (g :: zs) g.1).isSome = true := by simp [mpf, fnd]
  rw [h1, if_pos rfl] at hs
  simp only [List.length_cons, Nat.add_sub_cancel] at hs
  refine hs.congr (fun j _ => ?_)
  unfold YtkfophlhpjbmgaaGreat.Me.del mpf
  rw [fnd_tail hnd.1 j]
  split <;> rfl
 ·rw [putL_keys]
  have t2 : Touch [b] W (setBlock W.drew b ob) := touch_setBlock ((Touch.refl _ _).drew) (Or.inl (by simp)) _
  exact o1.keep t2 (fun i hi hh => by simp only [List.mem_singleton] at hh; subst hh; exact o2 hi)
 ·exact t.trans' (touch_setBlock ((Touch.refl _ _).drew) (Or.inl (by simp)) _)
 ·simp only [List.mem_cons] at hi ⊢
  rcases hi with rfl | rfl | hi
  ·exact Or.inl (Or.inl rfl)
  ·exact Or.inl (Or.inr (Or.inl rfl))
  ·exact (o3 i hi).elim (fun e => Or.inl (Or.inr (Or.inr e))) Or.inr
theorem put_mid {V W1 w2 w3 W : World} (h : Mb w m b o G c now xs) (TV : Touch [] w V) {ob : Obj} (hW : W1 = setBlock V.drew b ob) (hm : MapAt W1 b (if (mpf xs k).isSome then xs.length else xs.length + 1) (upd (mpf xs) k (ev v)))
  (t2 : Touch [] W1 w2) (c3 : Ch w2 o G c.e (useL c.e (keysL xs) k) w3) (t4 : Touch [] w3 W ∨ ∃ q, Touch [q] w3 W ∧ W1.heap.size ≤ q ∧ q < w2.heap.size) : Pm w m b o G c now xs k v W := by
 have T1 : Touch [b] w W1 := by rw [hW]; exact touch_setBlock ((TV.drew).mono (fun _ e => by cases e)) (Or.inl (by simp)) _
 have m1 : Md W1 m c now b o := T1.keep h.md (by simpa using h.mb.symm)
 obtain ⟨G', c1, c2, c4⟩ := c3
 have hlt := h.lt
 have hz1 : w.heap.size ≤ W1.heap.size := T1.size
 have m3 : Md w3 m c now b o := c2.keep (t2.keep m1 (by simp)) h.mg
 have p3 : MapAt w3 b _ _ := (hm.kept (t2.block b hm.lt (by simp))).kept (c2.block b (Nat.lt_of_lt_of_le hm.lt t2.size) h.bg)
 have bG : ¬ b ∈ G' := fun hh => (c4 b hh).elim h.bg (fun e => by have := hlt b (by simp); have := t2.size; omega)
 have nf : Nf w G G' := fun i hi => (c4 i hi).elim Or.inl (fun e => Or.inr (by have := t2.size; omega))
 have T3 : Touch (m :: b :: G) w w3 := ((T1.mono (fun i hi => by simp only [List.mem_singleton] at hi; subst hi; simp)).trans' (t2.mono (fun _ e => by cases e))).trans' (c2.mono (fun i hi => by simp [hi]))
 rcases t4 with t4 | ⟨q, t4, q1, q2⟩
 ·exact ⟨t4.keep m3 (by simp), p3.kept (t4.block b p3.lt (by simp)), ⟨G', c1.keep0 t4, bG, nf⟩, T3.trans' (t4.mono (fun _ e => by cases e))⟩
 ·have hq : ∀ i, i ∈ m :: b :: G → i ≠ q := fun i hi => by have := hlt i hi; omega
  refine ⟨t4.keep m3 (by simpa using hq m (by simp)), p3.kept (t4.block b p3.lt (by simpa using hq b (by simp))), ⟨G', c1.keep t4 (fun i hi hh => ?_), bG, nf⟩, T3.trans t4 (fun i hi => by simp only [List.mem_singleton] at hi; subst hi; exact Or.inr (by omega))⟩
  simp only [List.mem_singleton] at hh
  subst hh
  rcases c4 i hi with e | e
  ·exact hq i (by simp [e]) rfl
  ·omega
end
end Go.Proofs.YtkfophlhpjbmgaaGreat.Me
