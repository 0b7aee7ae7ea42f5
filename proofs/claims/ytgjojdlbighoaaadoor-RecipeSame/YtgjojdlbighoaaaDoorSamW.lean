/- The walk of the law RecipeSame: it returns true and lays new blocks alone; the conditions: the table holds what the start lays, the list lies in memory, keys' spaces are numbers of 16 bits. -/
import Derived.Test.YtgjojdlbighoaaaDoorAwk
namespace Go.Proofs.YtgjojdlbighoaaaDoor
open Go.RowKit Go.Sort
set_option linter.unusedVariables false

def FreeX (x : Sp) : Prop := x.1 ≠ 4 ∧ x.1 ≠ 8 ∧ x.1 ≠ 11 ∧ x.1 ≠ 12 ∧ ¬ (x.1 = 9 ∧ x.2.1 = 3)
theorem f_free {L : List Sp} (hL : Good L) (hF : Free L) (x y : Ar) : x.f L = Ar.f ⟨x.sp, x.nm, y.r, y.cn⟩ L := step_free hL hF _ _ _ _ _
theorem ne_beq {a b : Int} (h : a ≠ b) : (a == b) = false := by simpa using h
set_option maxHeartbeats 4000000 in
theorem same7 (L : List Sp) (A : Option Addr) (c : Nat) (x y : Ar) (w : World) (hk : Kd w) (hs : Sl w A L) (hw : WfS L) (hl : L.length ≤ 5864062014635) (hx : x.ok) (hy : y.ok) :
    Calls Tryd.prog 7 #[.slice A L.length c, .agg #[.int .u16 x.sp, .string x.nm, .int .i64 x.r, .bool x.cn], .agg #[.int .u16 y.sp, .string y.nm, .int .i64 y.r, .bool y.cn]] w fun e w' => e = .returned (.bool true) ∧ Gr w w' := by
  have HS : Hid (Kd w ∧ Sl w A L ∧ WfS L ∧ x.ok ∧ y.ok ∧ L.length ≤ 5864062014635) := ⟨hk, hs, hw, hx, hy, hl⟩
  have hl' : (L.length : Int) ≤ 5864062014635 := by omega
  clear hk hs hw hx hy hl
  go_enter Tryd.func7, Tryd.ntmps7
  go_wp2_with fail
  refine Calls.mono (awake11 _ (HS.out.1.gr (((Gr.refl _).alloc _).alloc _))) ?_
  rintro e w0 ⟨rfl, hg⟩
  have B0 : Hid (Bx w0 w.heap.size (.int .u16 x.sp) (.string x.nm) (.int .i64 x.r) (.bool x.cn)) := (((bx_new w _ _ _ _ _).al _)).gr hg
  have B1 : Hid (Bx w0 (w.heap.size + 1) (.int .u16 y.sp) (.string y.nm) (.int .i64 y.r) (.bool y.cn)) := by
    have := bx_new (w.alloc (.cells #[.int .u16 x.sp, .string x.nm, .int .i64 x.r, .bool x.cn] 29)) (.int .u16 y.sp) (.string y.nm) (.int .i64 y.r) (.bool y.cn) 29
    simp only [World.size_alloc] at this
    exact this.gr hg
  have G0 : Hid (Gr w w0) := (((Gr.refl _).alloc _).alloc _).trans hg
  clear hg
  go_wp2_with fail
  go_loopw [19] (fun i wr => ∃ j : Nat, i = .int .i64 j ∧ j ≤ L.length ∧ Hid (∀ k, (hk : k < L.length) → k < j → FreeX L[k]) ∧ Hid (Gr w0 wr)) (fun i _ => L.length - (intOf i).toNat)
  case atStart => exact ⟨0, rfl, Nat.zero_le _, fun k _ h => absurd h (Nat.not_lt_zero _), Gr.refl _⟩
  case round =>
    obtain ⟨j, rfl, hj, HF, HG⟩ := hrel
    by_cases hlt : j < L.length
    · have hz : (j : Int) < (L.length : Int) := by omega
      obtain ⟨b, off, rfl, c0, c1, c2⟩ := (HS.out.2.1.gr (G0.out.trans HG.out)) j hlt
      have HX : Hid (FreeX (L[j].1, L[j].2.1, L[j].2.2) → FreeX L[j]) := fun h => h
      obtain ⟨x0, e0⟩ : ∃ x, L[j].1 = x := ⟨_, rfl⟩
      obtain ⟨x1, e1⟩ : ∃ x, L[j].2.1 = x := ⟨_, rfl⟩
      obtain ⟨x2, e2⟩ : ∃ x, L[j].2.2 = x := ⟨_, rfl⟩
      rw [e0, e1, e2] at HX
      rw [e0] at c0
      rw [e1] at c1
      rw [e2] at c2
      clear e0 e1 e2
      by_cases h4 : x0 = 4
      · subst h4
        go_wp2
        go_ret
        exact ⟨rfl, G0.out.trans (HG.out.alloc _)⟩
      by_cases h11 : x0 = 11
      · subst h11
        go_wp2
        go_ret
        exact ⟨rfl, G0.out.trans (HG.out.alloc _)⟩
      by_cases h12 : x0 = 12
      · subst h12
        go_wp2
        go_ret
        exact ⟨rfl, G0.out.trans (HG.out.alloc _)⟩
      by_cases h8 : x0 = 8
      · subst h8
        go_wp2
        go_ret
        exact ⟨rfl, G0.out.trans (HG.out.alloc _)⟩
      by_cases h9 : x0 = 9
      · subst h9
        by_cases h3 : x1 = 3
        · subst h3
          go_wp2
          go_ret
          exact ⟨rfl, G0.out.trans (HG.out.alloc _)⟩
        · have HF2 : Hid (FreeX L[j]) := HX.out ⟨by show (9 : Int) ≠ 4; decide, by show (9 : Int) ≠ 8; decide, by show (9 : Int) ≠ 11; decide, by show (9 : Int) ≠ 12; decide, fun h => h3 h.2⟩
          have g3 := ne_beq h3
          clear h3
          go_wp2
          go_roundw
          case rel => exact ⟨j + 1, by go_num, by omega, fun k hk h => by rcases (by omega : k < j ∨ k = j) with h' | rfl; exact HF.out k hk h'; exact HF2.out, HG.out.alloc _⟩
          case measure => simp [intOf]; omega
      · have HF2 : Hid (FreeX L[j]) := HX.out ⟨h4, h8, h11, h12, fun h => h9 h.1⟩
        have g4 := ne_beq h4
        have g8 := ne_beq h8
        have g9 := ne_beq h9
        have g11 := ne_beq h11
        have g12 := ne_beq h12
        clear h4 h8 h9 h11 h12
        go_wp2
        go_roundw
        case rel => exact ⟨j + 1, by go_num, by omega, fun k hk h => by rcases (by omega : k < j ∨ k = j) with h' | rfl; exact HF.out k hk h'; exact HF2.out, HG.out.alloc _⟩
        case measure => simp [intOf]; omega
    · have hz : ¬ (j : Int) < (L.length : Int) := by omega
      have HF2 : Hid (Free L) := fun z hz => by
        obtain ⟨k, hk, rfl⟩ := List.getElem_of_mem hz
        exact HF.out k hk (by omega)
      have C0 := B0.out.gr HG.out
      have C1 := B1.out.gr HG.out
      have G1 : Hid (Gr w wr) := G0.out.trans HG.out
      have q0 := C0.c0
      have q1 := C0.c1
      have q2 := C0.c2
      have q3 := C0.c3
      have r0 := C1.c0
      have r1 := C1.c1
      have r2 := C1.c2
      have r3 := C1.c3
      have t0 := C1.f0
      have t1 := C1.f1
      have HC0 : Hid _ := C0
      have HC1 : Hid _ := C1
      clear C0 C1 HF
      go_wp2_with fail
      have GV : Hid (Gr w ((wr.setCell ⟨w.heap.size + 1, 0, none⟩ (.int .u16 x.sp)).setCell ⟨w.heap.size + 1, 1, none⟩ (.string x.nm))) := (G1.out.setCell (by show w.heap.size ≤ w.heap.size + 1; omega) _).setCell (by show w.heap.size ≤ w.heap.size + 1; omega) _
      have BV : Hid (Bx ((wr.setCell ⟨w.heap.size + 1, 0, none⟩ (.int .u16 x.sp)).setCell ⟨w.heap.size + 1, 1, none⟩ (.string x.nm)) (w.heap.size + 1) (.int .u16 x.sp) (.string x.nm) (.int .i64 y.r) (.bool y.cn)) := by
        have h := HC1.out
        refine ⟨by rw [size_set, size_set]; exact h.lt, ?_, ?_, ?_, ?_, ?_, ?_, ?_, ?_⟩
        · rw [sc_off (by decide)]; exact sc_same h.c0
        · exact sc_same (by rw [sc_off (by decide)]; exact h.c1)
        · rw [sc_off (by decide), sc_off (by decide)]; exact h.c2
        · rw [sc_off (by decide), sc_off (by decide)]; exact h.c3
        · simp only [World.frozen?_setCell]; exact h.f0
        · simp only [World.frozen?_setCell]; exact h.f1
        · simp only [World.frozen?_setCell]; exact h.f2
        · simp only [World.frozen?_setCell]; exact h.f3
      generalize (wr.setCell ⟨w.heap.size + 1, 0, none⟩ (.int .u16 x.sp)).setCell ⟨w.heap.size + 1, 1, none⟩ (.string x.nm) = V at *
      clear q0 q1 q2 q3 r0 r1 r2 r3 t0 t1 HC0 HC1 G1 HG
      obtain ⟨y', hy'⟩ : ∃ y' : Ar, y' = ⟨x.sp, x.nm, y.r, y.cn⟩ := ⟨_, rfl⟩
      have HY : Hid (y'.ok) := by
        obtain ⟨a1, a2, a3, a4⟩ := HS.out.2.2.2.1
        obtain ⟨b1, b2, b3, b4⟩ := HS.out.2.2.2.2.1
        rw [hy']
        exact ⟨a1, a2, a3, b4⟩
      by_cases hgood : Good L
      · have HC1 : Hid _ := alone20_ok L A c x V (HS.out.1.gr GV.out) (HS.out.2.1.gr GV.out) HS.out.2.2.1 hgood HS.out.2.2.2.1
        have HC2 : Hid (∀ w', Gr V w' → Calls Tryd.prog 20 #[.slice A L.length c, .agg #[.int .u16 x.sp, .string x.nm, .int .i64 y.r, .bool y.cn]] w' fun e w'' => AlE (x.f L) e ∧ Gr w' w'') := fun w' hg => by
          have := alone20_ok L A c y' w' (HS.out.1.gr (GV.out.trans hg)) (HS.out.2.1.gr (GV.out.trans hg)) HS.out.2.2.1 hgood HY.out
          rw [f_free hgood HF2.out x y, ← hy']
          rw [hy'] at this ⊢
          exact this
        clear hgood hy' HY
        refine Calls.mono HC1.out ?_
        rintro e w1 ⟨⟨v, k, cc, r, s, rfl, ha, hs1, hs2⟩, hg1⟩
        have HA : Hid (Al (x.f L) 0 0 0 (v, k, cc, r, s)) := ha
        have BW : Hid (Bx (w1.alloc (.cells #[.int .i64 v, .int .i64 k, .int .i64 cc, .int .i64 r] 41)) (w.heap.size + 1) (.int .u16 x.sp) (.string x.nm) (.int .i64 y.r) (.bool y.cn)) := (BV.out.gr hg1).al _
        have GW : Hid (Gr V (w1.alloc (.cells #[.int .i64 v, .int .i64 k, .int .i64 cc, .int .i64 r] 41))) := hg1.alloc _
        have BN : Hid (Bx (w1.alloc (.cells #[.int .i64 v, .int .i64 k, .int .i64 cc, .int .i64 r] 41)) w1.heap.size (.int .i64 v) (.int .i64 k) (.int .i64 cc) (.int .i64 r)) := bx_new _ _ _ _ _ _
        have q0 := BW.out.c0
        have q1 := BW.out.c1
        have q2 := BW.out.c2
        have q3 := BW.out.c3
        clear ha hs1 hs2 hg1 HC1
        go_wp2_with fail
        refine Calls.mono (HC2.out _ GW.out) ?_
        rintro e w2 ⟨⟨v', k', cc', r', s', rfl, ha', hs1', hs2'⟩, hg2⟩
        have he := HA.out.eq ha'
        simp only [Prod.mk.injEq] at he
        obtain ⟨rfl, rfl, rfl, rfl, rfl⟩ := he
        have BM := (BN.out.gr hg2).al (.cells #[.int .i64 v, .int .i64 k, .int .i64 cc, .int .i64 r] 41)
        have z0 := BM.c0
        have z1 := BM.c1
        have z2 := BM.c2
        have z3 := BM.c3
        have GE : Hid (Gr w w2) := (GV.out.trans GW.out).trans hg2
        clear ha' hs1' hs2' hg2 HC2 q0 q1 q2 q3 BM
        go_wp2_with fail
        go_ret
        exact ⟨rfl, GE.out.alloc _⟩
      · have HC1 : Hid _ := alone20_no L A c x V (HS.out.1.gr GV.out) (HS.out.2.1.gr GV.out) HS.out.2.2.1 (by have := HS.out.2.2.2.2.2; omega) hgood
        have HC2 : Hid (∀ w', Gr V w' → Calls Tryd.prog 20 #[.slice A L.length c, .agg #[.int .u16 x.sp, .string x.nm, .int .i64 y.r, .bool y.cn]] w' fun e w'' => e = .returned (.tuple #[.agg #[.int .i64 0, .int .i64 0, .int .i64 0, .int .i64 0], .int .i64 0, .int .i64 80]) ∧ Gr w' w'') := fun w' hg => by
          have := alone20_no L A c y' w' (HS.out.1.gr (GV.out.trans hg)) (HS.out.2.1.gr (GV.out.trans hg)) HS.out.2.2.1 (by have := HS.out.2.2.2.2.2; omega) hgood
          rw [hy'] at this
          exact this
        clear hgood hy' HY
        refine Calls.mono HC1.out ?_
        rintro e w1 ⟨rfl, hg1⟩
        have BW : Hid (Bx (w1.alloc (.cells #[.int .i64 0, .int .i64 0, .int .i64 0, .int .i64 0] 41)) (w.heap.size + 1) (.int .u16 x.sp) (.string x.nm) (.int .i64 y.r) (.bool y.cn)) := (BV.out.gr hg1).al _
        have GW : Hid (Gr V (w1.alloc (.cells #[.int .i64 0, .int .i64 0, .int .i64 0, .int .i64 0] 41))) := hg1.alloc _
        have BN : Hid (Bx (w1.alloc (.cells #[.int .i64 0, .int .i64 0, .int .i64 0, .int .i64 0] 41)) w1.heap.size (.int .i64 0) (.int .i64 0) (.int .i64 0) (.int .i64 0)) := bx_new _ _ _ _ _ _
        have q0 := BW.out.c0
        have q1 := BW.out.c1
        have q2 := BW.out.c2
        have q3 := BW.out.c3
        clear hg1 HC1
        go_wp2_with fail
        refine Calls.mono (HC2.out _ GW.out) ?_
        rintro e w2 ⟨rfl, hg2⟩
        have BM := (BN.out.gr hg2).al (.cells #[.int .i64 0, .int .i64 0, .int .i64 0, .int .i64 0] 41)
        have z0 := BM.c0
        have z1 := BM.c1
        have z2 := BM.c2
        have z3 := BM.c3
        have GE : Hid (Gr w w2) := (GV.out.trans GW.out).trans hg2
        clear hg2 HC2 q0 q1 q2 q3 BM
        go_wp2_with fail
        go_ret
        exact ⟨rfl, GE.out.alloc _⟩
end Go.Proofs.YtgjojdlbighoaaaDoor
