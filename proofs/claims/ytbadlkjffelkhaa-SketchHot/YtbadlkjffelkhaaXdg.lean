/- The contract of the document's Merge; no conditions but those that it states. -/
import Derived.Test.YtbadlkjffelkhaaXda
namespace Go.Proofs.Ytbadlkjffelkhaa.Sk
open Go.RowKit Go.Maps Go.ChangeMaps
set_option maxRecDepth 100000
set_option linter.unusedVariables false
set_option linter.unusedSimpArgs false
section
variable {w w' : World} {B G cap B2 G2 cap2 : Nat} {Q Cp Q2 Cp2 : Nat → Nat} {X Y : S}
theorem rmerge_no (hne : ¬ (X.r = Y.r ∧ X.b = Y.b)) (w : World) : Calls Try.prog 12 #[dv (.slice (some ⟨G, 0, none⟩) X.r cap) X, dv (.slice (some ⟨G2, 0, none⟩) Y.r cap2) Y] w fun e w' => e = .returned (.tuple #[.agg #[.int .i64 0, .slice none 0 0, .int .u64 0], .int .i64 190]) ∧ Touch [] w w' := by
  obtain ⟨V, hV⟩ : ∃ V, V = ((w.alloc (.cells (bxd X G cap) 29)).alloc (.cells (bxd Y G2 cap2) 29)).alloc (.cells #[.int .i64 0, .slice none 0 0, .int .u64 0] 29) := ⟨_, rfl⟩
  obtain ⟨TV, hb1, hb2, hb3⟩ := three_new w (bxd X G cap) (bxd Y G2 cap2) #[.int .i64 0, .slice none 0 0, .int .u64 0] 29 29 29
  rw [← hV] at TV hb1 hb2 hb3
  have c0 := cell_at (j := 0) (v := .int .i64 (X.b : Nat)) hb1 rfl
  have c1 := cell_at (j := 1) (v := .slice (some ⟨G, 0, none⟩) X.r cap) hb1 rfl
  have d0 := cell_at (j := 0) (v := .int .i64 (Y.b : Nat)) hb2 rfl
  have d1 := cell_at (j := 1) (v := .slice (some ⟨G2, 0, none⟩) Y.r cap2) hb2 rfl
  have y0 := cell_at (j := 0) (v := .int .i64 0) hb3 rfl
  have y1 := cell_at (j := 1) (v := .slice none 0 0) hb3 rfl
  have y2 := cell_at (j := 2) (v := .int .u64 0) hb3 rfl
  have f3 := froz_at hb3
  have HTT : Hid (Touch [] w (((V.setCell ⟨w.heap.size + 2, 0, none⟩ (.int .i64 0)).setCell ⟨w.heap.size + 2, 1, none⟩ (.slice none 0 0)).setCell ⟨w.heap.size + 2, 2, none⟩ (.int .u64 0))) := hid (((TV.setCell (p := ⟨w.heap.size + 2, 0, none⟩) (Or.inr (by simp)) _).setCell (p := ⟨w.heap.size + 2, 1, none⟩) (Or.inr (by simp)) _).setCell (p := ⟨w.heap.size + 2, 2, none⟩) (Or.inr (by simp)) _)
  clear TV hb1 hb2 hb3
  unfold dv bxd at *
  by_cases hb : X.b = Y.b
  · have hr : ¬ X.r = Y.r := fun e => hne ⟨e, hb⟩
    have e1 : ((X.b : Int) != (Y.b : Int)) = false := by simp; omega
    have e2 : ((X.r : Int) != (Y.r : Int)) = true := by simp; omega
    clear hne hb hr
    go_enter Try.func12, Try.ntmps12
    go_upto_region 1 with fail
    rw [← hV]
    clear hV
    go_wp2
    exact bodyPost_ret (v := .tuple #[.agg #[.int .i64 0, .slice none 0 0, .int .u64 0], .int .i64 190]) (by simp [results, Try.results12, go_sem, y0, y1, y2]) rfl ⟨rfl, HTT.out⟩
  · have e1 : ((X.b : Int) != (Y.b : Int)) = true := by simp; omega
    clear hne hb
    go_enter Try.func12, Try.ntmps12
    go_upto_region 1 with fail
    rw [← hV]
    clear hV
    go_wp2
    exact bodyPost_ret (v := .tuple #[.agg #[.int .i64 0, .slice none 0 0, .int .u64 0], .int .i64 190]) (by simp [results, Try.results12, go_sem, y0, y1, y2]) rfl ⟨rfl, HTT.out⟩
set_option maxHeartbeats 8000000 in
theorem rmerge_ok (h : Dq w B G cap Q Cp X) (h' : Dq w B2 G2 cap2 Q2 Cp2 Y) (hw : Wf X) (hw' : Wf Y) (hr : X.r = Y.r) (hb : X.b = Y.b) : Calls Try.prog 12 #[dv (.slice (some ⟨G, 0, none⟩) X.r cap) X, dv (.slice (some ⟨G2, 0, none⟩) Y.r cap2) Y] w fun e w' => ∃ v, e = .returned (.tuple #[v, .int .i64 0]) ∧ DnE v w w' (mergeS X Y) := by
  obtain ⟨V, hV⟩ : ∃ V, V = ((w.alloc (.cells (bxd X G cap) 29)).alloc (.cells (bxd Y G2 cap2) 29)).alloc (.cells #[.int .i64 0, .slice none 0 0, .int .u64 0] 29) := ⟨_, rfl⟩
  obtain ⟨TV, hb1, hb2, hb3⟩ := three_new w (bxd X G cap) (bxd Y G2 cap2) #[.int .i64 0, .slice none 0 0, .int .u64 0] 29 29 29
  rw [← hV] at TV hb1 hb2 hb3
  have HSZ : Hid (w.heap.size + 3 ≤ V.heap.size) := hid (by rw [hV]; simp)
  have c0 := cell_at (j := 0) (v := .int .i64 (X.b : Nat)) hb1 rfl
  have c1 := cell_at (j := 1) (v := .slice (some ⟨G, 0, none⟩) X.r cap) hb1 rfl
  have c2 := cell_at (j := 2) (v := .int .u64 (X.t : Nat)) hb1 rfl
  have d0 := cell_at (j := 0) (v := .int .i64 (Y.b : Nat)) hb2 rfl
  have d1 := cell_at (j := 1) (v := .slice (some ⟨G2, 0, none⟩) Y.r cap2) hb2 rfl
  rw [← hb] at d0
  rw [← hr] at d1
  have e1 : ((X.b : Int) != (X.b : Int)) = false := by simp
  have e2 : ((X.r : Int) != (X.r : Int)) = false := by simp
  have HCP : Hid (Calls Try.prog 32 #[dv (.slice (some ⟨G, 0, none⟩) X.r cap) X] V fun e w1 => ∃ G1 cap1 Q1 Cp1, e = .returned (dv (.slice (some ⟨G1, 0, none⟩) X.r cap1) X) ∧ (∃ a b c, w1.cell? ⟨w.heap.size, 0, none⟩ = some a ∧ w1.cell? ⟨w.heap.size, 1, none⟩ = some b ∧ w1.cell? ⟨w.heap.size, 2, none⟩ = some c) ∧ (∀ j, w1.frozen? ⟨w.heap.size, j, none⟩ = false) ∧ Cw V (((w1.setCell ⟨w.heap.size, 0, none⟩ (.int .i64 (X.b : Nat))).setCell ⟨w.heap.size, 1, none⟩ (.slice (some ⟨G1, 0, none⟩) X.r cap1)).setCell ⟨w.heap.size, 2, none⟩ (.int .u64 (X.t : Nat))) w.heap.size G1 cap1 Q1 Cp1 X) := hid (by
    refine (rcopy_ (h.keep0 TV)).mono ?_
    rintro e w1 ⟨v1, rfl, G1, cap1, Q1, Cp1, rfl, D1, T1⟩
    have m1 := T1.keep hb1 (by simp)
    exact ⟨G1, cap1, Q1, Cp1, rfl, ⟨_, _, _, cell_at (j := 0) m1 rfl, cell_at (j := 1) m1 rfl, cell_at (j := 2) m1 rfl⟩, froz_at m1, Cw.start T1 D1 m1 rfl (by have := HSZ.out; omega)⟩)
  have HYY : Hid (∀ w1, Touch [w.heap.size] V w1 → w1.cell? ⟨w.heap.size + 1, 1, none⟩ = some (.slice (some ⟨G2, 0, none⟩) X.r cap2) ∧ w1.cell? ⟨w.heap.size + 1, 2, none⟩ = some (.int .u64 (Y.t : Nat)) ∧ ∀ i, i < X.r → w1.cell? ⟨G2, i, none⟩ = some (.slice (some ⟨Q2 i, 0, none⟩) (2 ^ X.b) (Cp2 i)) ∧ ∀ p, p < 2 ^ X.b → w1.cell? ⟨Q2 i, p, none⟩ = some (.int .i64 (Y.c i p : Nat))) := hid (fun w1 t1 => by
    have m2 := t1.keep hb2 (by simp)
    have k := h'.keep0 TV
    obtain ⟨a1, a2⟩ := k.apart hb1 (by decide) (by decide)
    have k2 := k.keep t1 (by simp [a1]) (fun i hi => by simp [a2 i hi])
    have x1 : w1.cell? ⟨w.heap.size + 1, 1, none⟩ = some (.slice (some ⟨G2, 0, none⟩) Y.r cap2) := cell_at m2 rfl
    rw [← hr] at x1
    refine ⟨x1, cell_at m2 rfl, fun i hi => ?_⟩
    have hi' : i < Y.r := by omega
    have y1 := k2.c0 hi'
    rw [← hb] at y1
    exact ⟨y1, fun p hp => k2.c1 hi' (by rw [← hb]; exact hp)⟩)
  have HY0 : Hid (∀ w1, Touch [w.heap.size] V w1 → w1.cell? ⟨w.heap.size + 2, 0, none⟩ = some (.int .i64 0) ∧ w1.cell? ⟨w.heap.size + 2, 1, none⟩ = some (.slice none 0 0) ∧ w1.cell? ⟨w.heap.size + 2, 2, none⟩ = some (.int .u64 0) ∧ ∀ j, w1.frozen? ⟨w.heap.size + 2, j, none⟩ = false) := hid (fun w1 t1 => by
    have := t1.keep hb3 (by simp)
    exact ⟨cell_at this rfl, cell_at this rfl, cell_at this rfl, froz_at this⟩)
  obtain ⟨F, hF⟩ : ∃ F : Nat → Nat → Nat, F = fun i p => min (X.c i p + Y.c i p) 255 := ⟨_, rfl⟩
  have HF0 : Hid (∀ i p, F i p = min (X.c i p + Y.c i p) 255) := hid (fun i p => by rw [hF])
  have HC : Hid (∀ w1 G1 cap1 Q1 Cp1 i p, Cw V w1 w.heap.size G1 cap1 Q1 Cp1 { X with c := fr2 F X.c i p } → i < X.r → w1.cell? ⟨w.heap.size, 1, none⟩ = some (.slice (some ⟨G1, 0, none⟩) X.r cap1) ∧ w1.cell? ⟨G1, i, none⟩ = some (.slice (some ⟨Q1 i, 0, none⟩) (2 ^ X.b) (Cp1 i)) ∧ w1.cell? ⟨w.heap.size + 1, 1, none⟩ = some (.slice (some ⟨G2, 0, none⟩) X.r cap2) ∧ w1.cell? ⟨G2, i, none⟩ = some (.slice (some ⟨Q2 i, 0, none⟩) (2 ^ X.b) (Cp2 i)) ∧ (p < 2 ^ X.b → w1.cell? ⟨Q1 i, p, none⟩ = some (.int .i64 (X.c i p : Nat)) ∧ w1.frozen? ⟨Q1 i, p, none⟩ = false ∧ w1.cell? ⟨Q2 i, p, none⟩ = some (.int .i64 (Y.c i p : Nat)) ∧ ∀ w2, w2 = w1.setCell ⟨Q1 i, p, none⟩ (.int .i64 ((X.c i p + Y.c i p : Nat) : Int)) → w2.cell? ⟨w.heap.size, 1, none⟩ = some (.slice (some ⟨G1, 0, none⟩) X.r cap1) ∧ w2.cell? ⟨G1, i, none⟩ = some (.slice (some ⟨Q1 i, 0, none⟩) (2 ^ X.b) (Cp1 i)) ∧ w2.cell? ⟨Q1 i, p, none⟩ = some (.int .i64 ((X.c i p + Y.c i p : Nat) : Int)) ∧ w2.frozen? ⟨Q1 i, p, none⟩ = false ∧ (X.c i p + Y.c i p ≤ 255 → Cw V w2 w.heap.size G1 cap1 Q1 Cp1 { X with c := fr2 F X.c i (p + 1) }) ∧ (255 < X.c i p + Y.c i p → Cw V (w2.setCell ⟨Q1 i, p, none⟩ (.int .i64 255)) w.heap.size G1 cap1 Q1 Cp1 { X with c := fr2 F X.c i (p + 1) }))) := hid (fun w1 G1 cap1 Q1 Cp1 i p c hi => by
    obtain ⟨y1, y2, y3⟩ := HYY.out _ c.t
    refine ⟨c.c1, c.d.c0 hi, y1, (y3 i hi).1, fun hp => ⟨?_, c.d.fz hi p, (y3 i hi).2 p hp, ?_⟩⟩
    · have := c.d.c1 (i := i) (p := p) hi hp
      have e : fr2 F X.c i p i p = X.c i p := fr2_here F X.c i p
      rw [← e]; exact this
    · rintro w2 rfl
      have c2 := c.setC (X.c i p + Y.c i p) hi hp
      have q := c2.d.c1 (i := i) (p := p) hi hp
      have q' : World.cell? _ ⟨Q1 i, p, none⟩ = some (.int .i64 ((upd (fr2 F X.c i p) i p (X.c i p + Y.c i p) i p : Nat) : Int)) := q
      rw [upd_same] at q'
      refine ⟨c2.c1, c2.d.c0 hi, q', c2.d.fz hi p, fun hle => ?_, fun hlt => ?_⟩
      · exact c.next hi hp (by rw [HF0.out]; omega)
      · refine (c2.setC 255 hi hp).congr rfl rfl rfl (fun j q _ _ => ?_)
        have e := fr2_next F X.c i p j q
        rw [HF0.out, show min (X.c i p + Y.c i p) 255 = 255 by omega] at e
        show fr2 F X.c i (p + 1) j q = upd (upd (fr2 F X.c i p) i p (X.c i p + Y.c i p)) i p 255 j q
        rw [← e]
        unfold upd
        split <;> simp_all)
  obtain ⟨t', ht'⟩ : ∃ t', t' = (X.t + Y.t) % 18446744073709551616 := ⟨_, rfl⟩
  have wt : IntKind.u64.wrap ((X.t : Int) + (Y.t : Int)) = (t' : Int) := by rw [IntKind.wrap_u64]; omega
  have HTT : Hid ((mergeS X Y).t = t') := hid (by rw [ht']; rfl)
  have HZ : Hid (∀ w1 G1 cap1 Q1 Cp1, Cw V w1 w.heap.size G1 cap1 Q1 Cp1 { X with c := fr2 F X.c X.r 0 } → w1.cell? ⟨w.heap.size, 0, none⟩ = some (.int .i64 (X.b : Nat)) ∧ w1.cell? ⟨w.heap.size, 1, none⟩ = some (.slice (some ⟨G1, 0, none⟩) X.r cap1) ∧ w1.cell? ⟨w.heap.size, 2, none⟩ = some (.int .u64 (X.t : Nat)) ∧ w1.cell? ⟨w.heap.size + 1, 2, none⟩ = some (.int .u64 (Y.t : Nat)) ∧ (∀ j, w1.frozen? ⟨w.heap.size, j, none⟩ = false) ∧ (w1.cell? ⟨w.heap.size + 2, 0, none⟩ = some (.int .i64 0) ∧ w1.cell? ⟨w.heap.size + 2, 1, none⟩ = some (.slice none 0 0) ∧ w1.cell? ⟨w.heap.size + 2, 2, none⟩ = some (.int .u64 0) ∧ ∀ j, w1.frozen? ⟨w.heap.size + 2, j, none⟩ = false) ∧ DnE (.agg #[.int .i64 (X.b : Nat), .slice (some ⟨G1, 0, none⟩) X.r cap1, .int .u64 (t' : Nat)]) w ((((w1.setCell ⟨w.heap.size, 2, none⟩ (.int .u64 (t' : Nat))).setCell ⟨w.heap.size + 2, 0, none⟩ (.int .i64 (X.b : Nat))).setCell ⟨w.heap.size + 2, 1, none⟩ (.slice (some ⟨G1, 0, none⟩) X.r cap1)).setCell ⟨w.heap.size + 2, 2, none⟩ (.int .u64 (t' : Nat))) (mergeS X Y)) := hid (fun w1 G1 cap1 Q1 Cp1 c => by
    refine ⟨c.c0, c.c1, c.c2, (HYY.out _ c.t).2.1, c.fz, HY0.out _ c.t, ?_⟩
    have c5 : Cw V (w1.setCell ⟨w.heap.size, 2, none⟩ (.int .u64 (t' : Nat))) w.heap.size G1 cap1 Q1 Cp1 (mergeS X Y) := (c.setT t').congr rfl rfl (by rw [HTT.out]) (fun i p hi hp => by
      show min (X.c i p + Y.c i p) 255 = fr2 F X.c X.r 0 i p
      unfold fr2
      rw [if_pos (Or.inl hi), HF0.out])
    have := c5.fin (r := w.heap.size + 2) TV (Nat.le_refl _) (by omega) (by have := HSZ.out; omega)
    unfold dv at this
    rw [HTT.out] at this
    exact this)
  have HZ0 : Hid (∀ w1 G1 cap1 Q1 Cp1, Cw V w1 w.heap.size G1 cap1 Q1 Cp1 X → w1.cell? ⟨w.heap.size, 1, none⟩ = some (.slice (some ⟨G1, 0, none⟩) X.r cap1) ∧ Cw V w1 w.heap.size G1 cap1 Q1 Cp1 { X with c := fr2 F X.c 0 0 }) := hid (fun w1 G1 cap1 Q1 Cp1 c => ⟨c.c1, c.zero⟩)
  have HTN : Hid (∀ w1 G1 cap1 Q1 Cp1 i, Cw V w1 w.heap.size G1 cap1 Q1 Cp1 { X with c := fr2 F X.c i (2 ^ X.b) } → Cw V w1 w.heap.size G1 cap1 Q1 Cp1 { X with c := fr2 F X.c (i + 1) 0 }) := hid (fun w1 G1 cap1 Q1 Cp1 i c => c.turn)
  have HKP : Hid (∀ w1 w2 G1 cap1 Q1 Cp1 i p, Cw V w1 w.heap.size G1 cap1 Q1 Cp1 { X with c := fr2 F X.c i p } → Touch [] w1 w2 → Cw V w2 w.heap.size G1 cap1 Q1 Cp1 { X with c := fr2 F X.c i p }) := hid (fun w1 w2 G1 cap1 Q1 Cp1 i p c t => c.keep0 t)
  have HLE : Hid (∀ i p, X.c i p ≤ 255 ∧ Y.c i p ≤ 255) := hid (fun i p => ⟨hw.c2 i p, hw'.c2 i p⟩)
  have r2 := h.r2
  have h2 := pow_le16 h.b2
  obtain ⟨W, hW⟩ : ∃ W, W = 2 ^ X.b := ⟨_, rfl⟩
  rw [← hW] at HC HTN h2
  clear h h' hw hw' hr hb hb1 hb2 hb3 TV ht' HF0 hF HY0 HYY hW HTT
  unfold dv bxd at *
  go_enter Try.func12, Try.ntmps12
  go_upto_region 1 with fail
  rw [← hV]
  clear hV
  go_wp2_with (go_at_call 32; refine HCP.out.mono ?_; rintro e w1 ⟨G1, cap1, Q1, Cp1, rfl, ⟨x0, x1, x2, g0, g1, g2⟩, f1, C1⟩; obtain ⟨k1, C1⟩ := HZ0.out _ _ _ _ _ C1; have C1 := hid C1; clear HCP HZ0)
  go_loopw [6] (fun s6 wr => ∃ i : Nat, i ≤ X.r ∧ s6 = .int .i64 i ∧ Cw V wr w.heap.size G1 cap1 Q1 Cp1 { X with c := fr2 F X.c i 0 }) (fun s6 _ => X.r - (intOf s6).toNat)
  case atStart => exact ⟨0, Nat.zero_le _, rfl, C1.out⟩
  case round =>
    obtain ⟨i, hi, rfl, CQ⟩ := hrel
    clear C1 k1
    by_cases hlt : i < X.r
    · have zi : (i : Int) < (X.r : Int) := by omega
      obtain ⟨q1, q2, _⟩ := HC.out _ _ _ _ _ i 0 CQ hlt
      go_wp2
      have C0 := hid CQ
      clear CQ q1 q2
      go_loopw [7] (fun s7 wr => ∃ p : Nat, p ≤ W ∧ s7 = .int .i64 p ∧ Cw V wr w.heap.size G1 cap1 Q1 Cp1 { X with c := fr2 F X.c i p }) (fun s7 _ => W - (intOf s7).toNat)
      case atStart => exact ⟨0, Nat.zero_le _, rfl, C0.out⟩
      case round =>
        obtain ⟨p, hp, rfl, CQ⟩ := hrel
        clear C0
        obtain ⟨q1, q2, q3, q4, q5⟩ := HC.out _ _ _ _ _ i p CQ hlt
        by_cases hpt : p < W
        · have zp : (p : Int) < (W : Int) := by omega
          obtain ⟨l1, l2⟩ := HLE.out i p
          clear q5 HZ HTN HLE q3 q4
          go_wp2
          obtain ⟨W0, hW0⟩ : ∃ W0, W0 = wr.drew := ⟨_, rfl⟩
          have CW := HKP.out _ W0 _ _ _ _ _ _ CQ (by rw [hW0]; exact (Touch.refl _ _).drew)
          obtain ⟨b1, b2, b3, b4, b5⟩ := HC.out _ _ _ _ _ i p CW hlt
          obtain ⟨b6, b7, b8, b9⟩ := b5 hpt
          have B9 := hid b9
          clear b5 b9 HC HKP CQ CW q1 q2
          generalize X.c i p = v1 at *
          generalize Y.c i p = v2 at *
          obtain ⟨sm, hsm⟩ : ∃ sm, sm = v1 + v2 := ⟨_, rfl⟩
          rw [← hsm] at B9
          have ws : IntKind.i64.wrap ((v1 : Int) + (v2 : Int)) = (sm : Int) := by rw [IntKind.wrap_i64]; omega
          have hs5 : sm ≤ 510 := by omega
          clear hsm l1 l2
          have C1 : ∀ w', w' = W0 → w'.cell? ⟨w.heap.size, 1, none⟩ = some (.slice (some ⟨G1, 0, none⟩) X.r cap1) := fun w' e => by rw [e]; exact b1
          have C2 : ∀ w', w' = W0 → w'.cell? ⟨G1, i, none⟩ = some (.slice (some ⟨Q1 i, 0, none⟩) W (Cp1 i)) := fun w' e => by rw [e]; exact b2
          have C3 : ∀ w', w' = W0 → w'.cell? ⟨w.heap.size + 1, 1, none⟩ = some (.slice (some ⟨G2, 0, none⟩) X.r cap2) := fun w' e => by rw [e]; exact b3
          have C4 : ∀ w', w' = W0 → w'.cell? ⟨G2, i, none⟩ = some (.slice (some ⟨Q2 i, 0, none⟩) W (Cp2 i)) := fun w' e => by rw [e]; exact b4
          have C6 : ∀ w', w' = W0 → w'.cell? ⟨Q1 i, p, none⟩ = some (.int .i64 (v1 : Nat)) := fun w' e => by rw [e]; exact b6
          have C8 : ∀ w', w' = W0 → w'.cell? ⟨Q2 i, p, none⟩ = some (.int .i64 (v2 : Nat)) := fun w' e => by rw [e]; exact b8
          refine wp_region_L (S := fun w' => w' = W0) (st := 18) (by kernel_rfl) ?_
          rw [← hW0]
          clear hW0
          have s0 : W0 = W0 := rfl
          refine wpL_take (i := 0) (v := (.pointer (some ⟨(w.heap.size), 1, none⟩))) (some 42) rfl rfl (by kernel_rfl) (by kernel_rfl) (by kernel_rfl) (by kernel_rfl) (by kernel_rfl) (by decide) (fun _ _ _ h => h) (Or.inl ⟨by rfl, fun w' hS => (by go_simp)⟩) s0 ?_
          try simp only [Go.Act.put, List.setIfInBounds_toArray, List.set_cons_zero, List.set_cons_succ]
          refine wpL_take (i := 1) (v := (Value.slice (some ⟨G1, 0, none⟩) X.r cap1)) (some 43) rfl rfl (by kernel_rfl) (by kernel_rfl) (by kernel_rfl) (by kernel_rfl) (by kernel_rfl) (by decide) (fun _ _ _ h => h) (Or.inl ⟨by rfl, fun w' hS => (by have z0 := C1 _ hS; go_simp)⟩) s0 ?_
          try simp only [Go.Act.put, List.setIfInBounds_toArray, List.set_cons_zero, List.set_cons_succ]
          refine wpL_take (i := 2) (v := (.int .i64 (i : Nat))) (some 44) rfl rfl (by kernel_rfl) (by kernel_rfl) (by kernel_rfl) (by kernel_rfl) (by kernel_rfl) (by decide) (fun _ _ _ h => h) (Or.inl ⟨by rfl, fun w' hS => (by go_simp)⟩) s0 ?_
          try simp only [Go.Act.put, List.setIfInBounds_toArray, List.set_cons_zero, List.set_cons_succ]
          refine wpL_take (i := 3) (v := (.pointer (some ⟨G1, i, none⟩))) (some 45) rfl rfl (by kernel_rfl) (by kernel_rfl) (by kernel_rfl) (by kernel_rfl) (by kernel_rfl) (by decide) (fun _ _ _ h => h) (Or.inl ⟨by rfl, fun w' hS => (by go_simp)⟩) s0 ?_
          try simp only [Go.Act.put, List.setIfInBounds_toArray, List.set_cons_zero, List.set_cons_succ]
          refine wpL_take (i := 4) (v := (Value.slice (some ⟨Q1 i, 0, none⟩) W (Cp1 i))) (some 46) rfl rfl (by kernel_rfl) (by kernel_rfl) (by kernel_rfl) (by kernel_rfl) (by kernel_rfl) (by decide) (fun _ _ _ h => h) (Or.inl ⟨by rfl, fun w' hS => (by have z0 := C2 _ hS; go_simp)⟩) s0 ?_
          try simp only [Go.Act.put, List.setIfInBounds_toArray, List.set_cons_zero, List.set_cons_succ]
          refine wpL_take (i := 5) (v := (.int .i64 (p : Nat))) (some 47) rfl rfl (by kernel_rfl) (by kernel_rfl) (by kernel_rfl) (by kernel_rfl) (by kernel_rfl) (by decide) (fun _ _ _ h => h) (Or.inl ⟨by rfl, fun w' hS => (by go_simp)⟩) s0 ?_
          try simp only [Go.Act.put, List.setIfInBounds_toArray, List.set_cons_zero, List.set_cons_succ]
          refine wpL_take (i := 6) (v := (.pointer (some ⟨(Q1 i), p, none⟩))) (some 48) rfl rfl (by kernel_rfl) (by kernel_rfl) (by kernel_rfl) (by kernel_rfl) (by kernel_rfl) (by decide) (fun _ _ _ h => h) (Or.inl ⟨by rfl, fun w' hS => (by go_simp)⟩) s0 ?_
          try simp only [Go.Act.put, List.setIfInBounds_toArray, List.set_cons_zero, List.set_cons_succ]
          refine wpL_take (i := 7) (v := (.int .i64 (v1 : Nat))) (some 49) rfl rfl (by kernel_rfl) (by kernel_rfl) (by kernel_rfl) (by kernel_rfl) (by kernel_rfl) (by decide) (fun _ _ _ h => h) (Or.inl ⟨by rfl, fun w' hS => (by have z0 := C6 _ hS; go_simp)⟩) s0 ?_
          try simp only [Go.Act.put, List.setIfInBounds_toArray, List.set_cons_zero, List.set_cons_succ]
          refine wpL_take (i := 8) (v := (.pointer (some ⟨(w.heap.size + 1), 1, none⟩))) (some 50) rfl rfl (by kernel_rfl) (by kernel_rfl) (by kernel_rfl) (by kernel_rfl) (by kernel_rfl) (by decide) (fun _ _ _ h => h) (Or.inl ⟨by rfl, fun w' hS => (by go_simp)⟩) s0 ?_
          try simp only [Go.Act.put, List.setIfInBounds_toArray, List.set_cons_zero, List.set_cons_succ]
          refine wpL_take (i := 9) (v := (Value.slice (some ⟨G2, 0, none⟩) X.r cap2)) (some 51) rfl rfl (by kernel_rfl) (by kernel_rfl) (by kernel_rfl) (by kernel_rfl) (by kernel_rfl) (by decide) (fun _ _ _ h => h) (Or.inl ⟨by rfl, fun w' hS => (by have z0 := C3 _ hS; go_simp)⟩) s0 ?_
          try simp only [Go.Act.put, List.setIfInBounds_toArray, List.set_cons_zero, List.set_cons_succ]
          refine wpL_take (i := 10) (v := (.int .i64 (i : Nat))) (some 52) rfl rfl (by kernel_rfl) (by kernel_rfl) (by kernel_rfl) (by kernel_rfl) (by kernel_rfl) (by decide) (fun _ _ _ h => h) (Or.inl ⟨by rfl, fun w' hS => (by go_simp)⟩) s0 ?_
          try simp only [Go.Act.put, List.setIfInBounds_toArray, List.set_cons_zero, List.set_cons_succ]
          refine wpL_take (i := 11) (v := (.pointer (some ⟨G2, i, none⟩))) (some 53) rfl rfl (by kernel_rfl) (by kernel_rfl) (by kernel_rfl) (by kernel_rfl) (by kernel_rfl) (by decide) (fun _ _ _ h => h) (Or.inl ⟨by rfl, fun w' hS => (by go_simp)⟩) s0 ?_
          try simp only [Go.Act.put, List.setIfInBounds_toArray, List.set_cons_zero, List.set_cons_succ]
          refine wpL_take (i := 12) (v := (Value.slice (some ⟨Q2 i, 0, none⟩) W (Cp2 i))) (some 54) rfl rfl (by kernel_rfl) (by kernel_rfl) (by kernel_rfl) (by kernel_rfl) (by kernel_rfl) (by decide) (fun _ _ _ h => h) (Or.inl ⟨by rfl, fun w' hS => (by have z0 := C4 _ hS; go_simp)⟩) s0 ?_
          try simp only [Go.Act.put, List.setIfInBounds_toArray, List.set_cons_zero, List.set_cons_succ]
          refine wpL_take (i := 13) (v := (.int .i64 (p : Nat))) (some 55) rfl rfl (by kernel_rfl) (by kernel_rfl) (by kernel_rfl) (by kernel_rfl) (by kernel_rfl) (by decide) (fun _ _ _ h => h) (Or.inl ⟨by rfl, fun w' hS => (by go_simp)⟩) s0 ?_
          try simp only [Go.Act.put, List.setIfInBounds_toArray, List.set_cons_zero, List.set_cons_succ]
          refine wpL_take (i := 14) (v := (.pointer (some ⟨(Q2 i), p, none⟩))) (some 56) rfl rfl (by kernel_rfl) (by kernel_rfl) (by kernel_rfl) (by kernel_rfl) (by kernel_rfl) (by decide) (fun _ _ _ h => h) (Or.inl ⟨by rfl, fun w' hS => (by go_simp)⟩) s0 ?_
          try simp only [Go.Act.put, List.setIfInBounds_toArray, List.set_cons_zero, List.set_cons_succ]
          refine wpL_take (i := 15) (v := (.int .i64 (v2 : Nat))) (some 57) rfl rfl (by kernel_rfl) (by kernel_rfl) (by kernel_rfl) (by kernel_rfl) (by kernel_rfl) (by decide) (fun _ _ _ h => h) (Or.inl ⟨by rfl, fun w' hS => (by have z0 := C8 _ hS; go_simp)⟩) s0 ?_
          try simp only [Go.Act.put, List.setIfInBounds_toArray, List.set_cons_zero, List.set_cons_succ]
          refine wpL_take (i := 16) (v := (.int .i64 (sm : Nat))) (some 58) rfl rfl (by kernel_rfl) (by kernel_rfl) (by kernel_rfl) (by kernel_rfl) (by kernel_rfl) (by decide) (fun _ _ _ h => h) (Or.inl ⟨by rfl, fun w' hS => (by go_simp)⟩) s0 ?_
          try simp only [Go.Act.put, List.setIfInBounds_toArray, List.set_cons_zero, List.set_cons_succ]
          refine wpL_take (i := 17) (v := (.pointer (some ⟨(Q1 i), p, none⟩))) (some 59) rfl rfl (by kernel_rfl) (by kernel_rfl) (by kernel_rfl) (by kernel_rfl) (by kernel_rfl) (by decide) (fun _ _ _ h => h) (Or.inl ⟨by rfl, fun w' hS => (by go_simp)⟩) s0 ?_
          try simp only [Go.Act.put, List.setIfInBounds_toArray, List.set_cons_zero, List.set_cons_succ]
          refine wpL_ready (rs := [18]) (by kernel_rfl) (by simp) (AllL.cons (o := { dst := none, op := Op.store 3 (Operand.tmp 59) (Operand.tmp 58), type := 0, pos := _, after := #[{ on := 17, ground := Ground.data }, { on := 16, ground := Ground.data }, { on := 0, ground := Ground.phase }, { on := 1, ground := Ground.phase }, { on := 2, ground := Ground.phase }, { on := 3, ground := Ground.phase }, { on := 4, ground := Ground.phase }, { on := 5, ground := Ground.phase }, { on := 6, ground := Ground.phase }, { on := 7, ground := Ground.phase }, { on := 8, ground := Ground.phase }, { on := 9, ground := Ground.phase }, { on := 10, ground := Ground.phase }, { on := 11, ground := Ground.phase }, { on := 12, ground := Ground.phase }, { on := 13, ground := Ground.phase }, { on := 14, ground := Ground.phase }, { on := 15, ground := Ground.phase }, { on := 16, ground := Ground.phase }], guard := none }) rfl (fun K' hK => ?_) AllL.nil)
          rw [if_pos (by rfl)]
          go_simp
          refine hK.out _ _ (fun h => absurd h (by decide)) ?_
          clear hK
          try simp only [Go.Act.put, List.setIfInBounds_toArray, List.set_cons_zero, List.set_cons_succ]
          refine wpL_done (by kernel_rfl) ?_ _
          clear C1 C2 C3 C4 C6 C8 b1 b2 b3 b4 s0
          obtain ⟨W2, hW2⟩ : ∃ W2, W2 = W0.setCell ⟨Q1 i, p, none⟩ (.int .i64 (sm : Nat)) := ⟨_, rfl⟩
          obtain ⟨n1, n2, n3, n4, n5, n6⟩ := B9.out W2 hW2
          have N5 := hid n5
          have N6 := hid n6
          rw [← hW2]
          clear hW2 n5 n6 B9 b6 b7 b8
          by_cases h255 : 255 < sm
          · have z5 : (255 : Int) < (sm : Int) := by omega
            go_wp2
            refine ⟨⟨p + 1, by omega, rfl, N6.out h255⟩, by simp [intOf]; omega⟩
          · have z5 : ¬ (255 : Int) < (sm : Int) := by omega
            go_wp2
            refine ⟨⟨p + 1, by omega, rfl, N5.out (by omega)⟩, by simp [intOf]; omega⟩
        · have ep : p = W := by omega
          subst ep
          have zp : ¬ (p : Int) < (p : Int) := by omega
          have C2 := hid (HTN.out _ _ _ _ _ i CQ)
          clear q5 HC HZ HTN CQ HLE HKP
          go_wp2
          refine ⟨⟨i + 1, by omega, rfl, C2.out⟩, by simp [intOf]; omega⟩
    · have ei : i = X.r := by omega
      subst ei
      have zi : ¬ (X.r : Int) < (X.r : Int) := by omega
      obtain ⟨q0, q1, q2, q3, q4, ⟨y0, y1, y2, y3⟩, q6⟩ := HZ.out _ _ _ _ _ CQ
      have K6 := hid q6
      clear q6 HC HZ HTN CQ HLE HKP
      go_wp2
      exact bodyPost_ret (v := .tuple #[.agg #[.int .i64 (X.b : Nat), .slice (some ⟨G1, 0, none⟩) X.r cap1, .int .u64 (t' : Nat)], .int .i64 0]) (by simp [results, Try.results12, go_sem, y0, y1, y2]) rfl ⟨_, rfl, K6.out⟩
end
end Go.Proofs.Ytbadlkjffelkhaa.Sk
