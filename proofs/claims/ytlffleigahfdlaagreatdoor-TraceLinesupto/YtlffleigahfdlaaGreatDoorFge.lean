/- Keys laid at the root of a trie; no conditions but those that each states. -/
import Derived.Test.YtlffleigahfdlaaGreatDoorMa1
import Derived.StillTailTactics
namespace Go.Proofs.YtlffleigahfdlaaGreatDoor.Tr
open Go.RowKit Go.Sort Go.Shelf Go.Maps Go.ChangeMaps
set_option linter.unusedVariables false
set_option linter.unusedSimpArgs false
theorem neqnil (a : Option Addr) (l c : Nat) (w : World) : (binOp .neq 258 (.slice a l c) (.slice none 0 0)).run Tryz.prog w = .ok (.bool a.isSome) w := by
  cases a <;> kernel_rfl
set_option maxRecDepth 40000 in
set_option maxHeartbeats 8000000 in
theorem add_rA {w : World} {r t0 n1 : Nat} {rt : Nat → Value} (G : Gn w r rt 6 mapB) (h2 : rt 2 = .string ⟨#[]⟩) (h4 : rt 4 = sT t0) (ht : w.cell? ⟨t0, 0, none⟩ = some (nP n1)) (v : ByteArray) (p : Int) (Q : World → Prop)
    (HT : ∀ w1, Touch [] w w1 → Calls Tryz.prog 195 #[nP n1, .string ⟨#[48, 100]⟩, .string v, .int .i64 p, nP r] w1 fun e w' => e = .returned (.tuple #[]) ∧ Q w') :
    Calls Tryz.prog 195 #[nP r, .string ⟨#[37, 48, 100]⟩, .string v, .int .i64 p, nP r] w fun e w' => e = .returned (.tuple #[]) ∧ Q w' := by
  have c2 : w.cell? ⟨r, 2, none⟩ = some (.string ⟨#[]⟩) := by rw [← h2]; exact G.root (by omega)
  have c4 : w.cell? ⟨r, 4, none⟩ = some (.slice (some ⟨t0, 0, none⟩) 6 6) := by rw [← show sT t0 = .slice (some ⟨t0, 0, none⟩) 6 6 from rfl, ← h4]; exact G.root (by omega)
  have gx : w.cell? ⟨r, 43, none⟩ = some (.int .u8 0) := by
    have := G.num (b := 37) (by omega)
    rw [show mapB 37 = 0 by decide +kernel] at this
    exact this
  have c0 : w.cell? ⟨t0, 0, none⟩ = some (.pointer (some ⟨n1, 0, none⟩)) := ht
  have H := hid HT
  have HN : ∀ w', (binOp .neq 258 (.slice (some ⟨t0, 0, none⟩) 6 6) (.slice none 0 0)).run Tryz.prog w' = .ok (.bool true) w' := fun w' => neqnil _ _ _ w'
  have hy : (ByteArray.mk #[37, 48, 100])[0].toNat = 37 := rfl
  have hex : (ByteArray.mk #[37, 48, 100]).extract 1 3 = ⟨#[48, 100]⟩ := rfl
  clear G h2 h4 ht HT
  unfold nP at *
  go_enter Tryz.func195, Tryz.ntmps195
  go_wp2_with fail
  go_quiet (fail)
  obtain ⟨V, hV⟩ : ∃ V, V = w.drewN nq := ⟨_, rfl⟩
  rw [← hV]
  have TV := hid (show Touch [] w V by rw [hV]; exact (Touch.refl [] w).drewN _)
  have c2' := tcell TV.out c2
  have c4' := tcell TV.out c4
  have c0' := tcell TV.out c0
  clear hV c2 c4 c0 gx
  go_wp2_with fail
  refine wp_region_still_tail 12 mixed (by kernel_rfl) ?_
  obtain ⟨U, hU⟩ : ∃ U, U = V.drew := ⟨_, rfl⟩
  rw [show ({ heap := V.heap, tape := V.tape, drawn := V.drawn + 1, os := V.os, output := V.output } : World) = U from hU.symm]
  have TU := hid (show Touch [] w U by rw [hU]; exact TV.out.drew)
  have d4 : U.cell? ⟨r, 4, none⟩ = some (.slice (some ⟨t0, 0, none⟩) 6 6) := by rw [hU]; exact c4'
  have d0 : U.cell? ⟨t0, 0, none⟩ = some (.pointer (some ⟨n1, 0, none⟩)) := by rw [hU]; exact c0'
  clear hU c2' c4' c0'
  simp only [List.take_succ_cons, List.take_zero, List.drop_succ_cons, List.drop_zero]
  iterate 12 still_step
  refine wpStill_nil ?_
  go_wp2_with fail
  refine (H.out _ TU.out).mono ?_
  rintro e w9 ⟨rfl, q9⟩
  have Q9 := hid q9
  clear q9
  go_wp2_with fail
  go_end0
  exact ⟨rfl, Q9.out⟩
set_option maxRecDepth 40000 in
set_option maxHeartbeats 8000000 in
theorem add_rB {w : World} {r t0 n1 : Nat} {rt : Nat → Value} (G : Gn w r rt 6 mapB) (h2 : rt 2 = .string ⟨#[]⟩) (h4 : rt 4 = sT t0) (ht : w.cell? ⟨t0, 0, none⟩ = some (nP n1)) (v : ByteArray) (p : Int) (Q : World → Prop)
    (HT : ∀ w1, Touch [] w w1 → Calls Tryz.prog 195 #[nP n1, .string ⟨#[50, 53]⟩, .string v, .int .i64 p, nP r] w1 fun e w' => e = .returned (.tuple #[]) ∧ Q w') :
    Calls Tryz.prog 195 #[nP r, .string ⟨#[37, 50, 53]⟩, .string v, .int .i64 p, nP r] w fun e w' => e = .returned (.tuple #[]) ∧ Q w' := by
  have c2 : w.cell? ⟨r, 2, none⟩ = some (.string ⟨#[]⟩) := by rw [← h2]; exact G.root (by omega)
  have c4 : w.cell? ⟨r, 4, none⟩ = some (.slice (some ⟨t0, 0, none⟩) 6 6) := by rw [← show sT t0 = .slice (some ⟨t0, 0, none⟩) 6 6 from rfl, ← h4]; exact G.root (by omega)
  have gx : w.cell? ⟨r, 43, none⟩ = some (.int .u8 0) := by
    have := G.num (b := 37) (by omega)
    rw [show mapB 37 = 0 by decide +kernel] at this
    exact this
  have c0 : w.cell? ⟨t0, 0, none⟩ = some (.pointer (some ⟨n1, 0, none⟩)) := ht
  have H := hid HT
  have HN : ∀ w', (binOp .neq 258 (.slice (some ⟨t0, 0, none⟩) 6 6) (.slice none 0 0)).run Tryz.prog w' = .ok (.bool true) w' := fun w' => neqnil _ _ _ w'
  have hy : (ByteArray.mk #[37, 50, 53])[0].toNat = 37 := rfl
  have hex : (ByteArray.mk #[37, 50, 53]).extract 1 3 = ⟨#[50, 53]⟩ := rfl
  clear G h2 h4 ht HT
  unfold nP at *
  go_enter Tryz.func195, Tryz.ntmps195
  go_wp2_with fail
  go_quiet (fail)
  obtain ⟨V, hV⟩ : ∃ V, V = w.drewN nq := ⟨_, rfl⟩
  rw [← hV]
  have TV := hid (show Touch [] w V by rw [hV]; exact (Touch.refl [] w).drewN _)
  have c2' := tcell TV.out c2
  have c4' := tcell TV.out c4
  have c0' := tcell TV.out c0
  clear hV c2 c4 c0 gx
  go_wp2_with fail
  refine wp_region_still_tail 12 mixed (by kernel_rfl) ?_
  obtain ⟨U, hU⟩ : ∃ U, U = V.drew := ⟨_, rfl⟩
  rw [show ({ heap := V.heap, tape := V.tape, drawn := V.drawn + 1, os := V.os, output := V.output } : World) = U from hU.symm]
  have TU := hid (show Touch [] w U by rw [hU]; exact TV.out.drew)
  have d4 : U.cell? ⟨r, 4, none⟩ = some (.slice (some ⟨t0, 0, none⟩) 6 6) := by rw [hU]; exact c4'
  have d0 : U.cell? ⟨t0, 0, none⟩ = some (.pointer (some ⟨n1, 0, none⟩)) := by rw [hU]; exact c0'
  clear hU c2' c4' c0'
  simp only [List.take_succ_cons, List.take_zero, List.drop_succ_cons, List.drop_zero]
  iterate 12 still_step
  refine wpStill_nil ?_
  go_wp2_with fail
  refine (H.out _ TU.out).mono ?_
  rintro e w9 ⟨rfl, q9⟩
  have Q9 := hid q9
  clear q9
  go_wp2_with fail
  go_end0
  exact ⟨rfl, Q9.out⟩
set_option maxRecDepth 40000 in
set_option maxHeartbeats 8000000 in
theorem add_rN {w : World} {r t0 : Nat} {rt : Nat → Value} (G : Gn w r rt 6 mapB) (h2 : rt 2 = .string ⟨#[]⟩) (h4 : rt 4 = sT t0) (ht : w.heap[t0]? = some (.cells tab0 257 (0, 0))) (v : ByteArray) (p : Int) :
    Calls Tryz.prog 195 #[nP r, .string ⟨#[37, 48, 97]⟩, .string v, .int .i64 p, nP r] w fun e w' => e = .returned (.tuple #[]) ∧ Touch [t0] w w' ∧ ∃ n1 n2, w.heap.size ≤ n1 ∧ w.heap.size ≤ n2 ∧ w'.heap[t0]? = some (.cells (tab0.setIfInBounds 0 (nP n1)) 257 (0, 0)) ∧ At w' n1 (nd ⟨#[]⟩ 0 ⟨#[48, 97]⟩ (nA n2) sN) ∧ At w' n2 (nd v p ⟨#[]⟩ none sN) := by
  have c2 : w.cell? ⟨r, 2, none⟩ = some (.string ⟨#[]⟩) := by rw [← h2]; exact G.root (by omega)
  have c4 : w.cell? ⟨r, 4, none⟩ = some (.slice (some ⟨t0, 0, none⟩) 6 6) := by rw [← show sT t0 = .slice (some ⟨t0, 0, none⟩) 6 6 from rfl, ← h4]; exact G.root (by omega)
  have gx : w.cell? ⟨r, 43, none⟩ = some (.int .u8 0) := by
    have := G.num (b := 37) (by omega)
    rw [show mapB 37 = 0 by decide +kernel] at this
    exact this
  have c0 : w.cell? ⟨t0, 0, none⟩ = some (.pointer none) := cell_at ht (j := 0) rfl
  have H := hid ht
  have HRT : Hid (¬ r = t0) := hid (fun e => by
    obtain ⟨cs, e0, _⟩ := G
    rw [e, ht] at e0
    simp at e0)
  have HN : ∀ w', (binOp .neq 258 (.slice (some ⟨t0, 0, none⟩) 6 6) (.slice none 0 0)).run Tryz.prog w' = .ok (.bool true) w' := fun w' => neqnil _ _ _ w'
  have hy : (ByteArray.mk #[37, 48, 97])[0].toNat = 37 := rfl
  have hex : (ByteArray.mk #[37, 48, 97]).extract 1 3 = ⟨#[48, 97]⟩ := rfl
  clear G h2 h4 ht
  unfold nP at *
  go_enter Tryz.func195, Tryz.ntmps195
  go_wp2_with fail
  go_quiet (fail)
  obtain ⟨V, hV⟩ : ∃ V, V = w.drewN nq := ⟨_, rfl⟩
  rw [← hV]
  have TV := hid (show Touch [] w V by rw [hV]; exact (Touch.refl [] w).drewN _)
  have c4' := tcell TV.out c4
  have c0' := tcell TV.out c0
  have HV := hid (show V.heap[t0]? = some (.cells tab0 257 (0, 0)) by rw [hV]; exact H.out)
  have f0 := froz_at HV.out 0
  have hl1 := cell_lt c4'
  have hl2 := cell_lt c0'
  clear hV c2 c4 c0 gx
  go_wp2_with fail
  obtain ⟨V1, hV1⟩ : ∃ V1, V1 = V.setCell ⟨t0, 0, none⟩ (.pointer (some ⟨V.heap.size, 0, none⟩)) := ⟨_, rfl⟩
  obtain ⟨W3, hW3⟩ : ∃ W3, W3 = V1.alloc (.cells #[.string ⟨#[]⟩, .int .i64 0, .string ⟨#[]⟩, .pointer none, .slice none 0 0] 260) := ⟨_, rfl⟩
  rw [← hV1, ← hW3]
  have z1 : V1.heap.size = V.heap.size := by rw [hV1]; simp [World.setCell]
  have ts : Touch [t0] V V1 := by rw [hV1]; exact (Touch.refl [t0] V).setCell (p := ⟨t0, 0, none⟩) (Or.inl (by simp)) _
  have t1 : Touch [] V1 W3 := by rw [hW3]; exact (Touch.refl [] V1).alloc _
  have a1 : At W3 V.heap.size zN := by rw [hW3, ← z1]; exact heap_alloc_new V1 _
  have a2 : W3.heap[t0]? = some (.cells (tab0.setIfInBounds 0 (.pointer (some ⟨V.heap.size, 0, none⟩))) 257 (0, 0)) := t1.keep (by rw [hV1]; exact heap_set HV.out _) (by simp)
  have e4 : W3.cell? ⟨r, 4, none⟩ = some (.slice (some ⟨t0, 0, none⟩) 6 6) := by
    refine tcell t1 ?_
    rw [hV1]
    simpa [World.cell?, World.setCell, Array.getElem?_modify, HRT.out, Ne.symm HRT.out] using c4'
  obtain ⟨n1, hn1⟩ : ∃ n1, n1 = V.heap.size := ⟨_, rfl⟩
  rw [← hn1] at a1 a2
  have hwn : w.heap.size ≤ n1 := by rw [hn1]; exact TV.out.size
  have htn : t0 < n1 := by rw [hn1]; exact hl2
  have TW : Touch [t0] w W3 := ((TV.out.mono (by simp)).trans ts (fun i hi => Or.inl hi)).trans t1 (fun i hi => by cases hi)
  have HW := hid (And.intro TW (And.intro a1 (And.intro a2 (And.intro hwn htn))))
  have e0 : W3.cell? ⟨t0, 0, none⟩ = some (.pointer (some ⟨n1, 0, none⟩)) := cell_at a2 (j := 0) rfl
  clear hV1 hW3 z1 ts t1 a1 a2 hn1 hwn htn TW c4' c0' f0 hl1 hl2 HV
  refine wp_region_still_tail 12 mixed (by kernel_rfl) ?_
  obtain ⟨U, hU⟩ : ∃ U, U = W3.drew := ⟨_, rfl⟩
  rw [show ({ heap := W3.heap, tape := W3.tape, drawn := W3.drawn + 1, os := W3.os, output := W3.output } : World) = U from hU.symm]
  have HU := hid (show Touch [t0] w U ∧ At U n1 zN ∧ U.heap[t0]? = some (.cells (tab0.setIfInBounds 0 (.pointer (some ⟨n1, 0, none⟩))) 257 (0, 0)) ∧ w.heap.size ≤ n1 ∧ t0 < n1 by rw [hU]; exact ⟨HW.out.1.drew, HW.out.2⟩)
  have d4 : U.cell? ⟨r, 4, none⟩ = some (.slice (some ⟨t0, 0, none⟩) 6 6) := by rw [hU]; exact e4
  have d0 : U.cell? ⟨t0, 0, none⟩ = some (.pointer (some ⟨n1, 0, none⟩)) := by rw [hU]; exact e0
  clear hU e4 e0 HW
  simp only [List.take_succ_cons, List.take_zero, List.drop_succ_cons, List.drop_zero]
  iterate 12 still_step
  refine wpStill_nil ?_
  go_wp2_with fail
  refine (add_l HU.out.2.1 ⟨#[48, 97]⟩ (by rw [ByteArray.toList_eq]; rfl) v p (.pointer (some ⟨r, 0, none⟩))).mono ?_
  rintro e w9 ⟨rfl, t9, n2, k1, k2, k3⟩
  have R9 := hid (And.intro t9 (And.intro k1 (And.intro k2 k3)))
  clear t9 k1 k2 k3 d4 d0
  go_wp2_with fail
  go_end0
  have h1 := HU.out.2.2.2.1
  have h2 := HU.out.2.2.2.2
  exact ⟨rfl, HU.out.1.trans R9.out.1 (fun i hi => Or.inr (by simp only [List.mem_singleton] at hi; omega)), n1, n2, h1, Nat.le_trans HU.out.1.size R9.out.2.1, R9.out.1.keep HU.out.2.2.1 (by simp only [List.mem_singleton]; omega), R9.out.2.2.1, R9.out.2.2.2⟩
end Go.Proofs.YtlffleigahfdlaaGreatDoor.Tr
