/- A key laid where a node's one byte is another: a table takes its place; no conditions but those that each states. -/
import Derived.Test.YtlffleigahfdlaaGreatDoorFgb
import Derived.BigQuiet
import Derived.Deep.QuietTactic
namespace Go.Proofs.YtlffleigahfdlaaGreatDoor.Tr
open Go.RowKit Go.Sort Go.Shelf Go.Maps Go.ChangeMaps
set_option linter.unusedVariables false
set_option linter.unusedSimpArgs false
def tab0 : Array Value := #[.pointer none, .pointer none, .pointer none, .pointer none, .pointer none, .pointer none]
theorem make6 (w : World) : (Instr.makeSlice 258 (.int .i64 6) (.int .i64 6)).run Tryz.prog w = .ok (.slice (some ⟨w.heap.size, 0, none⟩) 6 6) (w.alloc (.cells tab0 257)) := by
  kernel_rfl
theorem s0w {V W : World} {b q : Nat} {x : ByteArray} (h : At V b (nd ⟨#[]⟩ 0 x (nA q) sN)) (hW : W = ((V.setCell ⟨b, 4, none⟩ (sT (V.heap.size + 1))).alloc (.cells zN 260)).alloc (.cells tab0 257)) :
    At W b (nd ⟨#[]⟩ 0 x (nA q) (sT (V.heap.size + 1))) ∧ At W V.heap.size zN ∧ W.heap[V.heap.size + 1]? = some (.cells tab0 257 (0, 0)) ∧ Touch [b] V W := by
  subst hW
  have a0 := heap_set (i := 4) h (sT (V.heap.size + 1))
  have ts : Touch [b] V (V.setCell ⟨b, 4, none⟩ (sT (V.heap.size + 1))) := (Touch.refl [b] V).setCell (p := ⟨b, 4, none⟩) (Or.inl (by simp)) _
  have z0 : (V.setCell ⟨b, 4, none⟩ (sT (V.heap.size + 1))).heap.size = V.heap.size := by simp [World.setCell]
  generalize V.setCell ⟨b, 4, none⟩ (sT (V.heap.size + 1)) = V1 at *
  rw [← z0]
  have t1 : Touch [] V1 (V1.alloc (.cells zN 260)) := (Touch.refl [] V1).alloc _
  have t2 := t1.alloc (.cells tab0 257)
  have z1 : (V1.alloc (.cells zN 260)).heap.size = V1.heap.size + 1 := by simp
  have a1 := heap_alloc_new V1 (.cells zN 260)
  have a2 := heap_alloc_new (V1.alloc (.cells zN 260)) (.cells tab0 257)
  rw [z1] at a2
  exact ⟨by rw [z0]; exact t2.keep a0 (by simp), ((Touch.refl [] _).alloc (.cells tab0 257)).keep a1 (by simp), a2, ts.trans t2 (fun i hi => by cases hi)⟩
set_option maxRecDepth 40000 in
set_option maxHeartbeats 8000000 in
theorem add_sA {w : World} {b q r : Nat} {rt : Nat → Value} (h : At w b (nd ⟨#[]⟩ 0 ⟨#[97]⟩ (nA q) sN)) (G : Gn w r rt 6 mapB) (v : ByteArray) (p : Int) :
    Calls Tryz.prog 195 #[nP b, .string ⟨#[100]⟩, .string v, .int .i64 p, nP r] w fun e w' => e = .returned (.tuple #[]) ∧ Touch [b] w w' ∧ ∃ kn, w.heap.size ≤ kn ∧ At w' b (nd ⟨#[]⟩ 0 ⟨#[]⟩ none (sT (kn + 1))) ∧ w'.heap[kn + 1]? = some (.cells ((tab0.setIfInBounds 4 (nP q)).setIfInBounds 5 (nP kn)) 257 (0, 0)) ∧ At w' kn (nd v p ⟨#[]⟩ none sN) := by
  have c2 : w.cell? ⟨b, 2, none⟩ = some (.string ⟨#[97]⟩) := cell_at h (j := 2) rfl
  have c3 : w.cell? ⟨b, 3, none⟩ = some (.pointer (some ⟨q, 0, none⟩)) := cell_at h (j := 3) rfl
  have c4 : w.cell? ⟨b, 4, none⟩ = some (.slice none 0 0) := cell_at h (j := 4) rfl
  have f2 := froz_at h 2
  have f3 := froz_at h 3
  have f4 := froz_at h 4
  have g5 : w.cell? ⟨r, 5, none⟩ = some (.int .i64 6) := G.size
  have gx : w.cell? ⟨r, 103, none⟩ = some (.int .u8 4) := by
    have := G.num (b := 97) (by omega)
    rw [show mapB 97 = 4 by decide +kernel] at this
    exact this
  have gy : w.cell? ⟨r, 106, none⟩ = some (.int .u8 5) := by
    have := G.num (b := 100) (by omega)
    rw [show mapB 100 = 5 by decide +kernel] at this
    exact this
  have hb := h.lt
  have hr := G.lt
  have H := hid (And.intro h G)
  clear h G
  unfold nP
  go_enter Tryz.func195, Tryz.ntmps195
  go_wp2_with fail
  go_loopw [10] (fun i wr => i = .int .i64 0 ∧ wr = w) (fun _ _ => 0)
  case atStart => exact ⟨rfl, rfl⟩
  case round =>
    obtain ⟨rfl, rfl⟩ := hrel
    go_wp2_with fail
    go_quiet (fail)
    obtain ⟨V, hV⟩ : ∃ V, V = wr.drewN nq := ⟨_, rfl⟩
    rw [← hV]
    have K := hid (And.intro (show At V b (nd ⟨#[]⟩ 0 ⟨#[97]⟩ (nA q) sN) by rw [hV]; exact H.out.1) (show Gn V r rt 6 mapB by rw [hV]; exact H.out.2))
    have TV : Hid (Touch [] wr V) := hid (by rw [hV]; exact (Touch.refl [] wr).drewN _)
    clear c2 c3 c4 f2 f3 f4 g5 gx gy hb hr hV H
    have h := K.out.1
    have G := K.out.2
    have c2 : V.cell? ⟨b, 2, none⟩ = some (.string ⟨#[97]⟩) := cell_at h (j := 2) rfl
    have c3 : V.cell? ⟨b, 3, none⟩ = some (.pointer (some ⟨q, 0, none⟩)) := cell_at h (j := 3) rfl
    have c4 : V.cell? ⟨b, 4, none⟩ = some (.slice none 0 0) := cell_at h (j := 4) rfl
    have f2 := froz_at h 2
    have f3 := froz_at h 3
    have f4 := froz_at h 4
    have g5 : V.cell? ⟨r, 5, none⟩ = some (.int .i64 6) := G.size
    have gx : V.cell? ⟨r, 103, none⟩ = some (.int .u8 4) := by
      have := G.num (b := 97) (by omega)
      rw [show mapB 97 = 4 by decide +kernel] at this
      exact this
    have gy : V.cell? ⟨r, 106, none⟩ = some (.int .u8 5) := by
      have := G.num (b := 100) (by omega)
      rw [show mapB 100 = 5 by decide +kernel] at this
      exact this
    have hb := h.lt
    have hr := G.lt
    clear h G
    have HM := make6
    go_wp2_with fail
    obtain ⟨W2, hW2⟩ : ∃ W2, W2 = ((V.setCell ⟨b, 4, none⟩ (.slice (some ⟨V.heap.size + 1, 0, none⟩) 6 6)).alloc (.cells #[.string ⟨#[]⟩, .int .i64 0, .string ⟨#[]⟩, .pointer none, .slice none 0 0] 260)).alloc (.cells tab0 257) := ⟨_, rfl⟩
    rw [← hW2]
    obtain ⟨d1, d2, d3, d4⟩ := s0w K.out.1 hW2
    have hrb : ¬ r ∈ [b] := fun hm => by
      simp only [List.mem_singleton] at hm
      obtain ⟨cs, e0, _⟩ := K.out.2
      rw [hm, K.out.1] at e0
      simp at e0
    have G2 := K.out.2.keep d4 hrb
    obtain ⟨kn, hkn⟩ : ∃ kn, kn = V.heap.size := ⟨_, rfl⟩
    rw [← hkn] at d1 d2 d3 ⊢
    have hk0 := hid (show wr.heap.size ≤ kn by rw [hkn]; exact TV.out.size)
    have D := hid (And.intro d1 (And.intro d2 (And.intro d3 G2)))
    have hbk := hid (show b < kn by rw [hkn]; exact K.out.1.lt)
    have hrk := hid (show r < kn by rw [hkn]; exact K.out.2.lt)
    have T2 := hid ((TV.out.mono (by simp)).trans d4 (fun i hi => Or.inl hi))
    have HRB := hid hrb
    clear c2 c3 c4 f2 f3 f4 g5 gx gy hb hr HM hW2 d1 d2 d3 d4 G2 hkn TV K hrb
    have c2 : W2.cell? ⟨b, 2, none⟩ = some (.string ⟨#[97]⟩) := cell_at D.out.1 (j := 2) rfl
    have c4 : W2.cell? ⟨b, 4, none⟩ = some (.slice (some ⟨kn + 1, 0, none⟩) 6 6) := cell_at D.out.1 (j := 4) rfl
    have gx : W2.cell? ⟨r, 103, none⟩ = some (.int .u8 4) := by
      have := D.out.2.2.2.num (b := 97) (by omega)
      rw [show mapB 97 = 4 by decide +kernel] at this
      exact this
    have t0 : W2.cell? ⟨kn + 1, 4, none⟩ = some (.pointer none) := cell_at D.out.2.2.1 (j := 4) rfl
    have f0 := froz_at D.out.2.2.1 4
    have hx : (ByteArray.mk #[97])[0].toNat = 97 := rfl
    have hy : (ByteArray.mk #[100])[0].toNat = 100 := rfl
    go_region
    obtain ⟨W3, hW3⟩ : ∃ W3, W3 = (W2.setCell ⟨kn + 1, 4, none⟩ (.pointer (some ⟨q, 0, none⟩))).drew := ⟨_, rfl⟩
    rw [← hW3]
    have t3 : Touch [kn + 1] W2 W3 := by rw [hW3]; exact ((Touch.refl [kn + 1] W2).setCell (p := ⟨kn + 1, 4, none⟩) (Or.inl (by simp)) _).drew
    have E1 := hid (D.out.1.keep t3 (by have := hbk.out; simp only [List.mem_singleton]; omega))
    have E2 := hid (D.out.2.1.keep t3 (by simp))
    have E3 : Hid (W3.heap[kn + 1]? = some (.cells (tab0.setIfInBounds 4 (.pointer (some ⟨q, 0, none⟩))) 257 (0, 0))) := hid (by rw [hW3]; exact heap_set D.out.2.2.1 _)
    have E4 := hid (D.out.2.2.2.keep t3 (by have := hrk.out; simp only [List.mem_singleton]; omega))
    have T3 := hid (T2.out.trans t3 (fun i hi => Or.inr (by have := hk0.out; simp only [List.mem_singleton] at hi; omega)))
    clear c2 c4 gx t0 f0 hW3 t3 D T2
    have c4 : W3.cell? ⟨b, 4, none⟩ = some (.slice (some ⟨kn + 1, 0, none⟩) 6 6) := cell_at E1.out (j := 4) rfl
    have gy : W3.cell? ⟨r, 106, none⟩ = some (.int .u8 5) := by
      have := E4.out.num (b := 100) (by omega)
      rw [show mapB 100 = 5 by decide +kernel] at this
      exact this
    have t0 : W3.cell? ⟨kn + 1, 5, none⟩ = some (.pointer none) := cell_at E3.out (j := 5) rfl
    have f0 := froz_at E3.out 5
    go_wp2_with fail
    go_region
    obtain ⟨W4, hW4⟩ : ∃ W4, W4 = (W3.setCell ⟨kn + 1, 5, none⟩ (.pointer (some ⟨kn, 0, none⟩))).drew := ⟨_, rfl⟩
    rw [← hW4]
    have t4 : Touch [kn + 1] W3 W4 := by rw [hW4]; exact ((Touch.refl [kn + 1] W3).setCell (p := ⟨kn + 1, 5, none⟩) (Or.inl (by simp)) _).drew
    have F1 := hid (E1.out.keep t4 (by have := hbk.out; simp only [List.mem_singleton]; omega))
    have F2 := hid (E2.out.keep t4 (by simp))
    have F3 : Hid (W4.heap[kn + 1]? = some (.cells ((tab0.setIfInBounds 4 (.pointer (some ⟨q, 0, none⟩))).setIfInBounds 5 (.pointer (some ⟨kn, 0, none⟩))) 257 (0, 0))) := hid (by rw [hW4]; exact heap_set E3.out _)
    have T4 := hid (T3.out.trans t4 (fun i hi => Or.inr (by have := hk0.out; simp only [List.mem_singleton] at hi; omega)))
    clear c4 gy t0 f0 hW4 t4 E1 E2 E3 E4 T3
    have c2 : W4.cell? ⟨b, 2, none⟩ = some (.string ⟨#[97]⟩) := cell_at F1.out (j := 2) rfl
    have c3 : W4.cell? ⟨b, 3, none⟩ = some (.pointer (some ⟨q, 0, none⟩)) := cell_at F1.out (j := 3) rfl
    have f2 := froz_at F1.out 2
    have f3 := froz_at F1.out 3
    have hex : (ByteArray.mk #[100]).extract 1 1 = ⟨#[]⟩ := rfl
    go_wp2_with fail
    obtain ⟨Wc, hWc⟩ : ∃ Wc, Wc = (W4.setCell ⟨b, 2, none⟩ (.string ⟨#[]⟩)).setCell ⟨b, 3, none⟩ (.pointer none) := ⟨_, rfl⟩
    rw [← hWc]
    have t5 : Touch [b] W4 Wc := by rw [hWc]; exact ((Touch.refl [b] W4).setCell (p := ⟨b, 2, none⟩) (Or.inl (by simp)) _).setCell (p := ⟨b, 3, none⟩) (Or.inl (by simp)) _
    have hbk' := hbk.out
    have hk' := hk0.out
    have b1 : At Wc b (nd ⟨#[]⟩ 0 ⟨#[]⟩ none (sT (kn + 1))) := by rw [hWc]; exact heap_set (i := 3) (heap_set (i := 2) F1.out (.string ⟨#[]⟩)) (.pointer none)
    have b2 := F2.out.keep t5 (by simp only [List.mem_singleton]; omega)
    have b3 := t5.keep F3.out (by simp only [List.mem_singleton]; omega)
    have T5 := T4.out.trans t5 (fun i hi => Or.inl hi)
    have B := hid (And.intro b1 (And.intro b3 T5))
    clear c2 c3 f2 f3 hWc t5 b1 b3 T5 F1 F2 F3 T4 hbk' hk'
    refine (add_e b2 v p (.pointer (some ⟨r, 0, none⟩))).mono ?_
    rintro e w9 ⟨rfl, t9, a9⟩
    clear b2
    have hbk' := hbk.out
    have hk' := hk0.out
    have R9 := hid a9
    have T9 := hid t9
    clear t9 a9
    go_wp2_with fail
    go_end0
    exact ⟨rfl, B.out.2.2.trans T9.out (fun i hi => Or.inr (by simp only [List.mem_singleton] at hi; omega)), kn, hk', B.out.1.keep T9.out (by simp only [List.mem_singleton]; omega), T9.out.keep B.out.2.1 (by simp), R9.out⟩
set_option maxRecDepth 40000 in
set_option maxHeartbeats 8000000 in
theorem add_sB {w : World} {b q r : Nat} {rt : Nat → Value} (h : At w b (nd ⟨#[]⟩ 0 ⟨#[48]⟩ (nA q) sN)) (G : Gn w r rt 6 mapB) (v : ByteArray) (p : Int) :
    Calls Tryz.prog 195 #[nP b, .string ⟨#[50, 53]⟩, .string v, .int .i64 p, nP r] w fun e w' => e = .returned (.tuple #[]) ∧ Touch [b] w w' ∧ ∃ kn, w.heap.size ≤ kn ∧ At w' b (nd ⟨#[]⟩ 0 ⟨#[]⟩ none (sT (kn + 1))) ∧ w'.heap[kn + 1]? = some (.cells ((tab0.setIfInBounds 1 (nP q)).setIfInBounds 2 (nP kn)) 257 (0, 0)) ∧ ∃ q2, At w' kn (nd ⟨#[]⟩ 0 ⟨#[53]⟩ (nA q2) sN) ∧ At w' q2 (nd v p ⟨#[]⟩ none sN) := by
  have c2 : w.cell? ⟨b, 2, none⟩ = some (.string ⟨#[48]⟩) := cell_at h (j := 2) rfl
  have c3 : w.cell? ⟨b, 3, none⟩ = some (.pointer (some ⟨q, 0, none⟩)) := cell_at h (j := 3) rfl
  have c4 : w.cell? ⟨b, 4, none⟩ = some (.slice none 0 0) := cell_at h (j := 4) rfl
  have f2 := froz_at h 2
  have f3 := froz_at h 3
  have f4 := froz_at h 4
  have g5 : w.cell? ⟨r, 5, none⟩ = some (.int .i64 6) := G.size
  have gx : w.cell? ⟨r, 54, none⟩ = some (.int .u8 1) := by
    have := G.num (b := 48) (by omega)
    rw [show mapB 48 = 1 by decide +kernel] at this
    exact this
  have gy : w.cell? ⟨r, 56, none⟩ = some (.int .u8 2) := by
    have := G.num (b := 50) (by omega)
    rw [show mapB 50 = 2 by decide +kernel] at this
    exact this
  have hb := h.lt
  have hr := G.lt
  have H := hid (And.intro h G)
  clear h G
  unfold nP
  go_enter Tryz.func195, Tryz.ntmps195
  go_wp2_with fail
  go_loopw [10] (fun i wr => i = .int .i64 0 ∧ wr = w) (fun _ _ => 0)
  case atStart => exact ⟨rfl, rfl⟩
  case round =>
    obtain ⟨rfl, rfl⟩ := hrel
    go_wp2_with fail
    go_quiet (fail)
    obtain ⟨V, hV⟩ : ∃ V, V = wr.drewN nq := ⟨_, rfl⟩
    rw [← hV]
    have K := hid (And.intro (show At V b (nd ⟨#[]⟩ 0 ⟨#[48]⟩ (nA q) sN) by rw [hV]; exact H.out.1) (show Gn V r rt 6 mapB by rw [hV]; exact H.out.2))
    have TV : Hid (Touch [] wr V) := hid (by rw [hV]; exact (Touch.refl [] wr).drewN _)
    clear c2 c3 c4 f2 f3 f4 g5 gx gy hb hr hV H
    have h := K.out.1
    have G := K.out.2
    have c2 : V.cell? ⟨b, 2, none⟩ = some (.string ⟨#[48]⟩) := cell_at h (j := 2) rfl
    have c3 : V.cell? ⟨b, 3, none⟩ = some (.pointer (some ⟨q, 0, none⟩)) := cell_at h (j := 3) rfl
    have c4 : V.cell? ⟨b, 4, none⟩ = some (.slice none 0 0) := cell_at h (j := 4) rfl
    have f2 := froz_at h 2
    have f3 := froz_at h 3
    have f4 := froz_at h 4
    have g5 : V.cell? ⟨r, 5, none⟩ = some (.int .i64 6) := G.size
    have gx : V.cell? ⟨r, 54, none⟩ = some (.int .u8 1) := by
      have := G.num (b := 48) (by omega)
      rw [show mapB 48 = 1 by decide +kernel] at this
      exact this
    have gy : V.cell? ⟨r, 56, none⟩ = some (.int .u8 2) := by
      have := G.num (b := 50) (by omega)
      rw [show mapB 50 = 2 by decide +kernel] at this
      exact this
    have hb := h.lt
    have hr := G.lt
    clear h G
    have HM := make6
    go_wp2_with fail
    obtain ⟨W2, hW2⟩ : ∃ W2, W2 = ((V.setCell ⟨b, 4, none⟩ (.slice (some ⟨V.heap.size + 1, 0, none⟩) 6 6)).alloc (.cells #[.string ⟨#[]⟩, .int .i64 0, .string ⟨#[]⟩, .pointer none, .slice none 0 0] 260)).alloc (.cells tab0 257) := ⟨_, rfl⟩
    rw [← hW2]
    obtain ⟨d1, d2, d3, d4⟩ := s0w K.out.1 hW2
    have hrb : ¬ r ∈ [b] := fun hm => by
      simp only [List.mem_singleton] at hm
      obtain ⟨cs, e0, _⟩ := K.out.2
      rw [hm, K.out.1] at e0
      simp at e0
    have G2 := K.out.2.keep d4 hrb
    obtain ⟨kn, hkn⟩ : ∃ kn, kn = V.heap.size := ⟨_, rfl⟩
    rw [← hkn] at d1 d2 d3 ⊢
    have hk0 := hid (show wr.heap.size ≤ kn by rw [hkn]; exact TV.out.size)
    have D := hid (And.intro d1 (And.intro d2 (And.intro d3 G2)))
    have hbk := hid (show b < kn by rw [hkn]; exact K.out.1.lt)
    have hrk := hid (show r < kn by rw [hkn]; exact K.out.2.lt)
    have T2 := hid ((TV.out.mono (by simp)).trans d4 (fun i hi => Or.inl hi))
    have HRB := hid hrb
    clear c2 c3 c4 f2 f3 f4 g5 gx gy hb hr HM hW2 d1 d2 d3 d4 G2 hkn TV K hrb
    have c2 : W2.cell? ⟨b, 2, none⟩ = some (.string ⟨#[48]⟩) := cell_at D.out.1 (j := 2) rfl
    have c4 : W2.cell? ⟨b, 4, none⟩ = some (.slice (some ⟨kn + 1, 0, none⟩) 6 6) := cell_at D.out.1 (j := 4) rfl
    have gx : W2.cell? ⟨r, 54, none⟩ = some (.int .u8 1) := by
      have := D.out.2.2.2.num (b := 48) (by omega)
      rw [show mapB 48 = 1 by decide +kernel] at this
      exact this
    have t0 : W2.cell? ⟨kn + 1, 1, none⟩ = some (.pointer none) := cell_at D.out.2.2.1 (j := 1) rfl
    have f0 := froz_at D.out.2.2.1 1
    have hx : (ByteArray.mk #[48])[0].toNat = 48 := rfl
    have hy : (ByteArray.mk #[50, 53])[0].toNat = 50 := rfl
    go_region
    obtain ⟨W3, hW3⟩ : ∃ W3, W3 = (W2.setCell ⟨kn + 1, 1, none⟩ (.pointer (some ⟨q, 0, none⟩))).drew := ⟨_, rfl⟩
    rw [← hW3]
    have t3 : Touch [kn + 1] W2 W3 := by rw [hW3]; exact ((Touch.refl [kn + 1] W2).setCell (p := ⟨kn + 1, 1, none⟩) (Or.inl (by simp)) _).drew
    have E1 := hid (D.out.1.keep t3 (by have := hbk.out; simp only [List.mem_singleton]; omega))
    have E2 := hid (D.out.2.1.keep t3 (by simp))
    have E3 : Hid (W3.heap[kn + 1]? = some (.cells (tab0.setIfInBounds 1 (.pointer (some ⟨q, 0, none⟩))) 257 (0, 0))) := hid (by rw [hW3]; exact heap_set D.out.2.2.1 _)
    have E4 := hid (D.out.2.2.2.keep t3 (by have := hrk.out; simp only [List.mem_singleton]; omega))
    have T3 := hid (T2.out.trans t3 (fun i hi => Or.inr (by have := hk0.out; simp only [List.mem_singleton] at hi; omega)))
    clear c2 c4 gx t0 f0 hW3 t3 D T2
    have c4 : W3.cell? ⟨b, 4, none⟩ = some (.slice (some ⟨kn + 1, 0, none⟩) 6 6) := cell_at E1.out (j := 4) rfl
    have gy : W3.cell? ⟨r, 56, none⟩ = some (.int .u8 2) := by
      have := E4.out.num (b := 50) (by omega)
      rw [show mapB 50 = 2 by decide +kernel] at this
      exact this
    have t0 : W3.cell? ⟨kn + 1, 2, none⟩ = some (.pointer none) := cell_at E3.out (j := 2) rfl
    have f0 := froz_at E3.out 2
    go_wp2_with fail
    go_region
    obtain ⟨W4, hW4⟩ : ∃ W4, W4 = (W3.setCell ⟨kn + 1, 2, none⟩ (.pointer (some ⟨kn, 0, none⟩))).drew := ⟨_, rfl⟩
    rw [← hW4]
    have t4 : Touch [kn + 1] W3 W4 := by rw [hW4]; exact ((Touch.refl [kn + 1] W3).setCell (p := ⟨kn + 1, 2, none⟩) (Or.inl (by simp)) _).drew
    have F1 := hid (E1.out.keep t4 (by have := hbk.out; simp only [List.mem_singleton]; omega))
    have F2 := hid (E2.out.keep t4 (by simp))
    have F3 : Hid (W4.heap[kn + 1]? = some (.cells ((tab0.setIfInBounds 1 (.pointer (some ⟨q, 0, none⟩))).setIfInBounds 2 (.pointer (some ⟨kn, 0, none⟩))) 257 (0, 0))) := hid (by rw [hW4]; exact heap_set E3.out _)
    have T4 := hid (T3.out.trans t4 (fun i hi => Or.inr (by have := hk0.out; simp only [List.mem_singleton] at hi; omega)))
    clear c4 gy t0 f0 hW4 t4 E1 E2 E3 E4 T3
    have c2 : W4.cell? ⟨b, 2, none⟩ = some (.string ⟨#[48]⟩) := cell_at F1.out (j := 2) rfl
    have c3 : W4.cell? ⟨b, 3, none⟩ = some (.pointer (some ⟨q, 0, none⟩)) := cell_at F1.out (j := 3) rfl
    have f2 := froz_at F1.out 2
    have f3 := froz_at F1.out 3
    have hex : (ByteArray.mk #[50, 53]).extract 1 2 = ⟨#[53]⟩ := rfl
    go_wp2_with fail
    obtain ⟨Wc, hWc⟩ : ∃ Wc, Wc = (W4.setCell ⟨b, 2, none⟩ (.string ⟨#[]⟩)).setCell ⟨b, 3, none⟩ (.pointer none) := ⟨_, rfl⟩
    rw [← hWc]
    have t5 : Touch [b] W4 Wc := by rw [hWc]; exact ((Touch.refl [b] W4).setCell (p := ⟨b, 2, none⟩) (Or.inl (by simp)) _).setCell (p := ⟨b, 3, none⟩) (Or.inl (by simp)) _
    have hbk' := hbk.out
    have hk' := hk0.out
    have b1 : At Wc b (nd ⟨#[]⟩ 0 ⟨#[]⟩ none (sT (kn + 1))) := by rw [hWc]; exact heap_set (i := 3) (heap_set (i := 2) F1.out (.string ⟨#[]⟩)) (.pointer none)
    have b2 := F2.out.keep t5 (by simp only [List.mem_singleton]; omega)
    have b3 := t5.keep F3.out (by simp only [List.mem_singleton]; omega)
    have T5 := T4.out.trans t5 (fun i hi => Or.inl hi)
    have B := hid (And.intro b1 (And.intro b3 T5))
    clear c2 c3 f2 f3 hWc t5 b1 b3 T5 F1 F2 F3 T4 hbk' hk'
    refine (add_l b2 ⟨#[53]⟩ (by rw [ByteArray.toList_eq]; rfl) v p (.pointer (some ⟨r, 0, none⟩))).mono ?_
    rintro e w9 ⟨rfl, t9, q9, a8, a7, a6⟩
    have a9 := Exists.intro (p := fun q2 => At w9 kn (nd ⟨#[]⟩ 0 ⟨#[53]⟩ (nA q2) sN) ∧ At w9 q2 (nd v p ⟨#[]⟩ none sN)) q9 ⟨a7, a6⟩
    clear b2 a8 a7 a6
    have hbk' := hbk.out
    have hk' := hk0.out
    have R9 := hid a9
    have T9 := hid t9
    clear t9 a9
    go_wp2_with fail
    go_end0
    exact ⟨rfl, B.out.2.2.trans T9.out (fun i hi => Or.inr (by simp only [List.mem_singleton] at hi; omega)), kn, hk', B.out.1.keep T9.out (by simp only [List.mem_singleton]; omega), T9.out.keep B.out.2.1 (by simp), R9.out⟩
end Go.Proofs.YtlffleigahfdlaaGreatDoor.Tr
