/- The contracts of Join, Leave and Release. -/
import Derived.Test.YtpihhlllembdeaaGreatRea
namespace Go.Proofs.YtpihhlllembdeaaGreat
open Go.RowKit Go.Maps Go.ChangeMaps
set_option linter.unusedVariables false
set_option linter.unusedSimpArgs false
theorem RqE.trans {w w1 w2 : World} {b N M : Nat} {F F1 : List Nat} {R : Rn} {S1 S2 : St} (h1 : Rq w1 b F1 R S1 M) (t1 : Touch F w w1) (n1 : Nf w F F1) (h2 : RqE w1 w2 b F1 R S2 N) : RqE w w2 b F R S2 N := by
  obtain ⟨F2, r1, r2, r3⟩ := h2
  exact ⟨F2, r1, t1.trans r2 n1, n1.trans r3 t1.size⟩
section
variable (w : World) (b N : Nat) (F : List Nat) (R : Rn) (S : St)
set_option maxHeartbeats 1000000 in
theorem left31 (h : Rq w b F R S N) (hN : N ≤ 3000000000000) (hE : S.ended = false) : Calls Tryz.prog 68 #[PT b] w fun e w' => e = .returned (.bool (leftB S)) ∧ RqE w w' b F R (leftS S) N := by
  have HI := hid (interest19 w b N F R S h hN)
  obtain ⟨sl, mp, ⟨c0, c1, c2, c3, c4, c5, c6, c7, c8, c9, c10, c11, c12, c13⟩, f8⟩ := h.cs
  have hl := h.blt
  have HX : Hid (RqE w (w.setCell ⟨b, 8, none⟩ (.bool (leftB S))) b F R (leftS S) N) := by
    obtain ⟨sl, m, cs, rfl, h, h1, h2, h3⟩ := h
    have T : Touch [b] w (w.setCell ⟨b, 8, none⟩ (.bool (leftB S))) := (Touch.refl _ _).setCell (Or.inl (by simp)) _
    refine ⟨_, ⟨sl, m, cs, rfl, ⟨h.rc.set8 _, h.ln.keep T (fun d hd e' => ?_) (fun d hd e' => ?_)⟩, h1, h2, h3.left hE⟩, T.mono (fun q hq => ?_), Nf.refl _ _⟩
    · simp only [List.mem_singleton] at e'; exact row_ne h.rc h.ln.row hd e'
    · simp only [List.mem_singleton] at e'; exact map_ne h.rc h.ln.mp hd e'
    · simp only [List.mem_singleton] at hq; exact mem_fpR.2 (Or.inl hq)
  have HB : Hid (leftB S = decide (inter S = 0)) := rfl
  clear h c0 c1 c2 c3 c4 c5 c6 c7 c9 c10 c11 c12 c13
  obtain ⟨B, hB⟩ : ∃ B, B = leftB S := ⟨_, rfl⟩
  have hq : (inter S == 0) = B := by rw [hB, HB.out]; exact Bool.beq_eq_decide_eq _ _
  rw [← hB] at HX ⊢
  clear HB hB
  generalize inter S = n at *
  unfold PT at *
  go_enter Tryz.func68, Tryz.ntmps68
  go_wp2_with (go_at_call 85; refine HI.out.mono ?_; rintro e w ⟨rfl, rfl⟩)
  go_ret
  exact ⟨by simp [hq], by simpa [hq] using HX.out⟩
set_option maxHeartbeats 2000000 in
theorem join13 (h : Rq w b F R S N) (hN : N ≤ 3000000000000) (x : Int) (hx : W64 x) : Calls Tryz.prog 43 #[PT b, .int .i64 x] w fun e w' => e = .returned (.int .i64 (joinE S x)) ∧ RqE w w' b F R (joinS S x) (N + 1) := by
  have HS := hid (RqE.same h (Nat.le_succ N))
  obtain ⟨sl', mp', ⟨c0, c1, c2, c3, c4, c5, c6, c7, c8, c9, c10, c11, c12, c13⟩, f8⟩ := h.cs
  clear c0 c1 c2 c3 c4 c5 c6 c7 c10 c11 c12 c13 f8
  by_cases h1 : x < 1
  · have e1 : joinE S x = 1 := by simp [joinE, h1]
    have e2 : joinS S x = S := by unfold joinS; rw [e1]; simp
    rw [e1, e2]
    clear h e1 e2 c8 c9
    unfold PT
    go_enter Tryz.func43, Tryz.ntmps43
    go_wp2
    go_ret
    exact ⟨rfl, HS.out⟩
  · cases hE : S.ended with
    | true =>
      have e1 : joinE S x = 110 := by simp [joinE, h1, hE]
      have e2 : joinS S x = S := by unfold joinS; rw [e1]; simp
      rw [e1, e2]
      rw [hE] at c9
      clear h e1 e2 c8 hE
      unfold PT
      go_enter Tryz.func43, Tryz.ntmps43
      go_wp2
      go_ret
      exact ⟨rfl, HS.out⟩
    | false =>
      cases hC : S.canc with
      | true =>
        have e1 : joinE S x = 113 := by simp [joinE, h1, hE, hC]
        have e2 : joinS S x = S := by unfold joinS; rw [e1]; simp
        rw [e1, e2]
        rw [hE] at c9
        rw [hC] at c8
        clear h e1 e2 hE hC
        unfold PT
        go_enter Tryz.func43, Tryz.ntmps43
        go_wp2
        go_ret
        exact ⟨rfl, HS.out⟩
      | false =>
        rw [hE] at c9
        rw [hC] at c8
        obtain ⟨sl, m, cs, rfl, hr, hw, hl, hv⟩ := h
        have HH := hid (has29 hr x hx)
        rw [hw] at HH
        by_cases hm : x ∈ S.who
        · have e1 : joinE S x = 111 := by simp [joinE, h1, hE, hC, hm]
          have e2 : joinS S x = S := by unfold joinS; rw [e1]; simp
          rw [e1, e2]
          rw [show decide (x ∈ S.who) = true by simp [hm]] at HH
          clear hr e1 e2 hE hC hm hw hl hv
          unfold PT
          unfold PL at HH
          go_enter Tryz.func43, Tryz.ntmps43
          go_wp2_with (go_at_call 66; refine HH.out.mono ?_; rintro e w ⟨rfl, rfl⟩)
          go_ret
          exact ⟨rfl, HS.out⟩
        · have e1 : joinE S x = 0 := by simp [joinE, h1, hE, hC, hm]
          have e2 : joinS S x = { S with who := S.who ++ [x] } := by unfold joinS; rw [e1]; simp
          have hv2 := hv.join hx
          rw [e2] at hv2
          rw [e1, e2]
          rw [show decide (x ∈ S.who) = false by simp [hm]] at HH
          have HA := hid (add21 w b R sl m cs _ _ _ _ hr x hx (by omega) (by rw [hw]; exact hm) (by omega))
          have HX : Hid (∀ w', LnE w w' b R (S.kept && !S.ended) S.canc S.ended S.out (fpR b sl m) (cs ++ [x]) → RqE w w' b (fpR b sl m) R { S with who := S.who ++ [x] } (N + 1)) := fun w' ⟨sl', m', q1, q2, q3⟩ =>
            ⟨_, ⟨sl', m', cs ++ [x], rfl, q1, by rw [wl_app, wl_one (by omega), hw], by simp; exact hl, hv2⟩, q2, q3⟩
          clear hr e1 e2 hE hC hm hw hl hv hv2 HS
          unfold PT
          unfold PL at HH HA
          go_enter Tryz.func43, Tryz.ntmps43
          go_wp2_with (first | (go_at_call 66; refine HH.out.mono ?_; rintro e w ⟨rfl, rfl⟩) | (go_at_call 65; refine HA.out.mono ?_; rintro e w2 ⟨rfl, r⟩; have RR := hid (HX.out _ r); clear r))
          go_ret
          exact ⟨rfl, RR.out⟩
set_option maxHeartbeats 2000000 in
theorem leave10 (h : Rq w b F R S N) (hN : N ≤ 3000000000000) (x : Int) (hx : W64 x) : Calls Tryz.prog 44 #[PT b, .int .i64 x] w fun e w' => e = .returned (.tuple #[.bool (leaveB S x), .int .i64 (leaveE S x)]) ∧ RqE w w' b F R (leaveS S x) N := by
  have HS := hid (RqE.same h (Nat.le_refl N))
  obtain ⟨sl', mp', ⟨c0, c1, c2, c3, c4, c5, c6, c7, c8, c9, c10, c11, c12, c13⟩, f8⟩ := h.cs
  clear c0 c1 c2 c3 c4 c5 c6 c7 c8 c10 c11 c12 c13 f8
  cases hE : S.ended with
  | true =>
    have e1 : leaveE S x = 110 := by simp [leaveE, hE]
    have e2 : leaveS S x = S := by unfold leaveS; rw [e1]; simp
    have e3 : leaveB S x = false := by unfold leaveB; rw [e1]; simp
    rw [e1, e2, e3]
    rw [hE] at c9
    clear h e1 e2 e3 hE
    unfold PT
    go_enter Tryz.func44, Tryz.ntmps44
    go_wp2
    exact bodyPost_ret (v := .tuple #[.bool false, .int .i64 110]) (by simp [results, Tryz.results44, go_sem]) rfl ⟨rfl, HS.out⟩
  | false =>
    rw [hE] at c9
    obtain ⟨sl, m, cs, rfl, hr, hw, hl, hv⟩ := h
    have HH := hid (has29 hr x hx)
    rw [hw] at HH
    by_cases hm : x ∈ S.who
    · have e1 : leaveE S x = 0 := by simp [leaveE, hE, hm]
      have e2 : leaveS S x = leftS (lessS S x) := by unfold leaveS; rw [e1]; simp
      have e3 : leaveB S x = leftB (lessS S x) := by unfold leaveB; rw [e1]; simp
      rw [e1, e2, e3]
      rw [show decide (x ∈ S.who) = true by simp [hm]] at HH
      have HA := hid (remove30 w b R sl m cs _ _ _ _ hr x (by rw [hw]; exact hm) (by omega))
      have HX : Hid (∀ w', RmE w w' b R (S.kept && !S.ended) S.canc S.ended S.out (fpR b sl m) cs x → RqE w w' b (fpR b sl m) R (lessS S x) N) := fun w' ⟨cs', p1, p2, sl', m', q1, q2, q3⟩ =>
        ⟨_, ⟨sl', m', cs', rfl, q1, by rw [p1, hw]; rfl, Nat.le_trans p2 hl, hv.less x⟩, q2, q3⟩
      have HL : Hid (∀ w' F', Rq w' b F' R (lessS S x) N → Calls Tryz.prog 68 #[PT b] w' fun e w'' => e = .returned (.bool (leftB (lessS S x))) ∧ RqE w' w'' b F' R (leftS (lessS S x)) N) := fun w' F' q => left31 w' b N F' R _ q hN hE
      clear hr e1 e2 e3 hE hm hw hl hv HS
      generalize leftB (lessS S x) = B at *
      generalize leftS (lessS S x) = S2 at *
      generalize lessS S x = S1 at *
      unfold PT at *
      unfold PL at HH HA
      go_enter Tryz.func44, Tryz.ntmps44
      go_wp2_with (first
        | (go_at_call 66; refine HH.out.mono ?_; rintro e w ⟨rfl, rfl⟩)
        | (go_at_call 67; refine HA.out.mono ?_; rintro e w2 ⟨rfl, r⟩; obtain ⟨F1, q1, q2, q3⟩ := HX.out _ r; have Q1 := hid q1; have Q2 := hid (And.intro q2 q3); clear r q1 q2 q3)
        | (go_at_call 68; refine (HL.out _ _ Q1.out).mono ?_; rintro e w3 ⟨rfl, r⟩; have RR := hid (RqE.trans Q1.out Q2.out.1 Q2.out.2 r); clear r))
      exact bodyPost_ret (v := .tuple #[.bool B, .int .i64 0]) (by simp [results, Tryz.results44, go_sem]) rfl ⟨rfl, RR.out⟩
    · have e1 : leaveE S x = 112 := by simp [leaveE, hE, hm]
      have e2 : leaveS S x = S := by unfold leaveS; rw [e1]; simp
      have e3 : leaveB S x = false := by unfold leaveB; rw [e1]; simp
      rw [e1, e2, e3]
      rw [show decide (x ∈ S.who) = false by simp [hm]] at HH
      clear hr e1 e2 e3 hE hm hw hl hv
      unfold PT at *
      unfold PL at HH
      go_enter Tryz.func44, Tryz.ntmps44
      go_wp2_with (go_at_call 66; refine HH.out.mono ?_; rintro e w ⟨rfl, rfl⟩)
      exact bodyPost_ret (v := .tuple #[.bool false, .int .i64 112]) (by simp [results, Tryz.results44, go_sem]) rfl ⟨rfl, HS.out⟩
set_option maxHeartbeats 2000000 in
theorem release14 (h : Rq w b F R S N) (hN : N ≤ 3000000000000) : Calls Tryz.prog 48 #[PT b] w fun e w' => e = .returned (.bool (relB S)) ∧ RqE w w' b F R (relS S) N := by
  have HS := hid (RqE.same h (Nat.le_refl N))
  obtain ⟨sl', mp', ⟨c0, c1, c2, c3, c4, c5, c6, c7, c8, c9, c10, c11, c12, c13⟩, f7⟩ := h.cs
  clear c0 c1 c2 c3 c4 c5 c6 c8 c9 c10 c11 c12 c13
  cases hK : (S.kept && !S.ended) with
  | false =>
    have e2 : relS S = S := by unfold relS; rw [hK]; simp
    have e3 : relB S = false := by unfold relB; rw [hK]; simp
    rw [e2, e3]
    rw [hK] at c7
    clear h e2 e3 hK f7
    unfold PT
    go_enter Tryz.func48, Tryz.ntmps48
    go_wp2
    go_ret
    exact ⟨rfl, HS.out⟩
  | true =>
    have hE : S.ended = false := by cases q : S.ended <;> simp_all
    have e2 : relS S = leftS { S with kept := false } := by unfold relS; rw [hK]; simp
    have e3 : relB S = leftB { S with kept := false } := by unfold relB; rw [hK]; simp
    rw [e2, e3]
    rw [hK] at c7
    have hl := h.blt
    have HX : Hid (RqE w (w.setCell ⟨b, 7, none⟩ (.bool false)) b F R { S with kept := false } N) := by
      obtain ⟨sl, m, cs, rfl, h, h1, h2, h3⟩ := h
      have T : Touch [b] w (w.setCell ⟨b, 7, none⟩ (.bool false)) := (Touch.refl _ _).setCell (Or.inl (by simp)) _
      refine ⟨_, ⟨sl, m, cs, rfl, ⟨h.rc.set7 _, h.ln.keep T (fun d hd e' => ?_) (fun d hd e' => ?_)⟩, h1, h2, ⟨h3.en, h3.no, fun e1 e2 => ⟨(h3.ca e1 e2).1, rfl⟩, h3.pos, h3.nd⟩⟩, T.mono (fun q hq => ?_), Nf.refl _ _⟩
      · simp only [List.mem_singleton] at e'; exact row_ne h.rc h.ln.row hd e'
      · simp only [List.mem_singleton] at e'; exact map_ne h.rc h.ln.mp hd e'
      · simp only [List.mem_singleton] at hq; exact mem_fpR.2 (Or.inl hq)
    obtain ⟨F1, q1, q2, q3⟩ := HX.out
    have HL := hid (left31 _ b N F1 R _ q1 hN hE)
    have HY : Hid (∀ w', RqE (w.setCell ⟨b, 7, none⟩ (.bool false)) w' b F1 R (leftS { S with kept := false }) N → RqE w w' b F R (leftS { S with kept := false }) N) := fun w' r => RqE.trans q1 q2 q3 r
    clear h e2 e3 hK hE HX q1 q2 q3 HS
    generalize leftB { S with kept := false } = B at *
    generalize leftS { S with kept := false } = S2 at *
    unfold PT at *
    go_enter Tryz.func48, Tryz.ntmps48
    go_wp2_with (go_at_call 68; refine HL.out.mono ?_; rintro e w3 ⟨rfl, r⟩; have RR := hid (HY.out _ r); clear r)
    go_ret
    exact ⟨rfl, RR.out⟩
end
end Go.Proofs.YtpihhlllembdeaaGreat
