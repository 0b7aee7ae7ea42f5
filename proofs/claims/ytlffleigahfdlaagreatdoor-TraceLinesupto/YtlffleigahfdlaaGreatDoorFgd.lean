/- A key laid where a node's bytes begin alike; no conditions but those that each states. -/
import Derived.Test.YtlffleigahfdlaaGreatDoorFgc
namespace Go.Proofs.YtlffleigahfdlaaGreatDoor.Tr
open Go.RowKit Go.Sort Go.Shelf Go.Maps Go.ChangeMaps
set_option linter.unusedVariables false
set_option linter.unusedSimpArgs false
set_option maxRecDepth 40000 in
set_option maxHeartbeats 8000000 in
theorem add_s1 {w : World} {b q r : Nat} {rt : Nat → Value} (h : At w b (nd ⟨#[]⟩ 0 ⟨#[48, 97]⟩ (nA q) sN)) (G : Gn w r rt 6 mapB) (v : ByteArray) (p : Int) :
    Calls Tryz.prog 195 #[nP b, .string ⟨#[48, 100]⟩, .string v, .int .i64 p, nP r] w fun e w' => e = .returned (.tuple #[]) ∧ Touch [b] w w' ∧ ∃ m kn, w.heap.size ≤ m ∧ w.heap.size ≤ kn ∧ At w' b (nd ⟨#[]⟩ 0 ⟨#[48]⟩ (nA m) sN) ∧ At w' m (nd ⟨#[]⟩ 0 ⟨#[]⟩ none (sT (kn + 1))) ∧ w'.heap[kn + 1]? = some (.cells ((tab0.setIfInBounds 4 (nP q)).setIfInBounds 5 (nP kn)) 257 (0, 0)) ∧ At w' kn (nd v p ⟨#[]⟩ none sN) := by
  have c2 : w.cell? ⟨b, 2, none⟩ = some (.string ⟨#[48, 97]⟩) := cell_at h (j := 2) rfl
  have H := hid (And.intro h G)
  clear h G
  unfold nP
  go_enter Tryz.func195, Tryz.ntmps195
  go_wp2_with fail
  go_loopw [10] (fun i wr => ∃ j : Nat, i = .int .i64 j ∧ j ≤ 1 ∧ Hid (Touch [] w wr ∧ At wr b (nd ⟨#[]⟩ 0 ⟨#[48, 97]⟩ (nA q) sN) ∧ Gn wr r rt 6 mapB)) (fun i _ => 1 - (intOf i).toNat)
  case atStart => exact ⟨0, rfl, by omega, hid ⟨Touch.refl _ _, H.out⟩⟩
  case round =>
    obtain ⟨j, rfl, hj, HR⟩ := hrel
    clear c2
    have c2 : wr.cell? ⟨b, 2, none⟩ = some (.string ⟨#[48, 97]⟩) := cell_at HR.out.2.1 (j := 2) rfl
    have hx0 : (ByteArray.mk #[48, 97])[0].toNat = 48 := rfl
    have hx1 : (ByteArray.mk #[48, 97])[1].toNat = 97 := rfl
    have hy0 : (ByteArray.mk #[48, 100])[0].toNat = 48 := rfl
    have hy1 : (ByteArray.mk #[48, 100])[1].toNat = 100 := rfl
    rcases (by omega : j = 0 ∨ j = 1) with rfl | rfl
    · go_wp2_with fail
      go_quiet (fail)
      go_wp2_with fail
      go_roundw
      case rel => exact ⟨1, rfl, by omega, hid ⟨HR.out.1.drewN _, HR.out.2.1, HR.out.2.2⟩⟩
      case measure => simp [intOf]
    · go_wp2_with fail
      go_quiet (fail)
      go_wp2_with fail
      obtain ⟨V, hV⟩ : ∃ V, V = wr.drewN nq := ⟨_, rfl⟩
      rw [← hV]
      have K : Hid (Touch [] w V ∧ At V b (nd ⟨#[]⟩ 0 ⟨#[48, 97]⟩ (nA q) sN) ∧ Gn V r rt 6 mapB) := hid (by rw [hV]; exact ⟨HR.out.1.drewN _, HR.out.2.1, HR.out.2.2⟩)
      clear hV c2 hx0 hx1 hy0 hy1 HR
      have c2 : V.cell? ⟨b, 2, none⟩ = some (.string ⟨#[48, 97]⟩) := cell_at K.out.2.1 (j := 2) rfl
      have c3 : V.cell? ⟨b, 3, none⟩ = some (.pointer (some ⟨q, 0, none⟩)) := cell_at K.out.2.1 (j := 3) rfl
      have hb := K.out.2.1.lt
      have he1 : (ByteArray.mk #[48, 97]).extract 1 2 = ⟨#[97]⟩ := rfl
      have he2 : (ByteArray.mk #[48, 97]).extract 0 1 = ⟨#[48]⟩ := rfl
      have he3 : (ByteArray.mk #[48, 100]).extract 1 2 = ⟨#[100]⟩ := rfl
      go_region
      obtain ⟨W3, hW3⟩ : ∃ W3, W3 = (V.alloc (.cells #[.string ⟨#[]⟩, .int .i64 0, .string ⟨#[97]⟩, .pointer (some ⟨q, 0, none⟩), .slice none 0 0] 260)).drew := ⟨_, rfl⟩
      rw [← hW3]
      obtain ⟨m, hm⟩ : ∃ m, m = V.heap.size := ⟨_, rfl⟩
      rw [← hm]
      have t3 : Touch [] V W3 := by rw [hW3]; exact ((Touch.refl [] V).alloc _).drew
      have a3 : At W3 m (nd ⟨#[]⟩ 0 ⟨#[97]⟩ (nA q) sN) := by rw [hW3, hm]; exact heap_alloc_new V _
      have hmb : b < m := by rw [hm]; exact hb
      have hmw : w.heap.size ≤ m := by rw [hm]; exact K.out.1.size
      have E := hid (And.intro (K.out.1.trans' t3) (And.intro (K.out.2.1.keep t3 (by simp)) (And.intro (K.out.2.2.touch t3) (And.intro a3 (And.intro hmb hmw)))))
      clear c2 c3 hb hW3 hm t3 a3 hmb hmw K
      have c2 : W3.cell? ⟨b, 2, none⟩ = some (.string ⟨#[48, 97]⟩) := cell_at E.out.2.1 (j := 2) rfl
      have c3 : W3.cell? ⟨b, 3, none⟩ = some (.pointer (some ⟨q, 0, none⟩)) := cell_at E.out.2.1 (j := 3) rfl
      have f2 := froz_at E.out.2.1 2
      have f3 := froz_at E.out.2.1 3
      go_wp2_with fail
      obtain ⟨Wc, hWc⟩ : ∃ Wc, Wc = (W3.setCell ⟨b, 2, none⟩ (.string ⟨#[48]⟩)).setCell ⟨b, 3, none⟩ (.pointer (some ⟨m, 0, none⟩)) := ⟨_, rfl⟩
      rw [← hWc]
      have t5 : Touch [b] W3 Wc := by rw [hWc]; exact ((Touch.refl [b] W3).setCell (p := ⟨b, 2, none⟩) (Or.inl (by simp)) _).setCell (p := ⟨b, 3, none⟩) (Or.inl (by simp)) _
      have b1 : At Wc b (nd ⟨#[]⟩ 0 ⟨#[48]⟩ (nA m) sN) := by rw [hWc]; exact heap_set (i := 3) (heap_set (i := 2) E.out.2.1 (.string ⟨#[48]⟩)) (.pointer (some ⟨m, 0, none⟩))
      have hmb := E.out.2.2.2.2.1
      have b2 := E.out.2.2.2.1.keep t5 (by simp only [List.mem_singleton]; omega)
      have hrb : ¬ r ∈ [b] := fun hm => by
        simp only [List.mem_singleton] at hm
        obtain ⟨cs, e0, _⟩ := E.out.2.2.1
        rw [hm, E.out.2.1] at e0
        simp at e0
      have b3 := E.out.2.2.1.keep t5 hrb
      have T5 : Touch [b] w Wc := (E.out.1.mono (by simp)).trans t5 (fun i hi => Or.inl hi)
      have B := hid (And.intro b1 (And.intro T5 (And.intro hmb E.out.2.2.2.2.2)))
      clear c2 c3 f2 f3 hWc t5 b1 T5 hmb hrb E
      refine (add_sA b2 b3 v p).mono ?_
      rintro e w9 ⟨rfl, t9, kn, k1, k2, k3, k4⟩
      have R9 := hid (And.intro t9 (And.intro k1 (And.intro k2 (And.intro k3 k4))))
      clear b2 b3 t9 k1 k2 k3 k4
      go_wp2_with fail
      go_end0
      have hmb := B.out.2.2.1
      have hmw := B.out.2.2.2
      have hs := B.out.2.1.size
      exact ⟨rfl, B.out.2.1.trans R9.out.1 (fun i hi => Or.inr (by simp only [List.mem_singleton] at hi; omega)), m, kn, hmw, Nat.le_trans hs R9.out.2.1, B.out.1.keep R9.out.1 (by simp only [List.mem_singleton]; omega), R9.out.2.2⟩
end Go.Proofs.YtlffleigahfdlaaGreatDoor.Tr
