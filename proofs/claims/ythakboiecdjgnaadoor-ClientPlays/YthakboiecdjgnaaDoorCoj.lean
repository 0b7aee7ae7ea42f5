/- The law's one: Take of a full slot; no conditions but those that it states. -/
import Derived.Test.YthakboiecdjgnaaDoorCoi
namespace Go.Proofs.YthakboiecdjgnaaDoor.Ci
open Go.RowKit Go.Maps Go.ChangeMaps
set_option linter.unusedVariables false
set_option linter.unusedSimpArgs false
section
variable {B b : Nat} {w w' : World} {pv lv pv2 lv2 : Value} {cs : Array Value} {S : Cs} {T : Ls}
theorem Rel.take (h : Rel S T) (i : Nat) : Rel (setSl S i s0) { T with st := fun j => if j = i then 0 else T.st j } := by
  refine ⟨h.L, h.at_, h.tok, h.log, fun j hj => ?_⟩
  simp only [setSl]
  by_cases e : j = i
  · simp only [if_pos e]
    exact Or.inl ⟨rfl, rfl, rfl⟩
  · simp only [if_neg e]
    exact h.sl j hj
set_option maxHeartbeats 4000000 in
set_option maxRecDepth 20000 in
theorem one_take_full (h : Iv B w b pv lv cs pv2 lv2 S T) (i : Nat) (a2 : Int) (g : Gz) (hi : i < 16) (hf : T.st i = 3) : Calls Tryd.prog 18 #[.pointer (some ⟨b, 0, none⟩), .agg cs, actv 5 (i : Nat) a2 g] w fun e w' => OnE e w w' B b lv S := by
  have HI := hid h
  have hb := h.q.lt
  obtain ⟨ap, cp, e2⟩ := own_form h.p2
  subst e2
  have hone : Hid (lv2.oneCell' = true) := hid (by obtain ⟨a, c, e⟩ := own_form h.g2; rw [e]; rfl)
  have k1 : (i : Int) < 16 := by omega
  have HK := hid hi
  obtain ⟨hfu, hg⟩ : (S.sl i).fu = true ∧ (S.sl i).g = T.fu i := by
    rcases h.r.sl i hi with ⟨e, _⟩ | ⟨e, _⟩ | ⟨_, _, e1, e2⟩
    · omega
    · omega
    · exact ⟨e1, e2⟩
  have HU0 : Hid (∀ W0, Touch [] w W0 → _) := hid (fun W0 t => take_full (h.q.touch t) i hi hfu)
  rw [hg] at HU0
  have HST := hid (h.s.st i hi)
  rw [hf] at HST
  have HFU := hid ((h.s.setSt hi 0).fu7 hi)
  have HN1 : Hid ((cs.setIfInBounds (4 + i) (.int .i64 0)).size = 148) := hid (by simpa using h.s.n)
  have HO1 : Hid ((cs.setIfInBounds (4 + i) (.int .i64 0)).all (·.oneCell') = true) := hid ((h.s.setSt hi 0).one rfl hone.out)
  dsimp only at HFU
  clear h hfu hg hf
  generalize hGG : T.fu i = GG at HU0 HFU
  clear hGG
  obtain ⟨q0, q1, q2, q3, q4, q5, q6⟩ := GG
  obtain ⟨g0', g1, g2, g3, g4, g5, g6⟩ := g
  unfold actv
  dsimp only at *
  obtain ⟨V, hV⟩ : ∃ V, V = ((w.alloc (.cells cs 63)).alloc (.cells #[.int .i64 5, .int .i64 (i : Nat), .int .i64 a2, .int .i64 g0', .int .i64 g1, .int .i64 g2, .int .i64 g3, .int .i64 g4, .int .i64 g5, .int .i64 g6] 67)).alloc (.cells Tryd.zeroCells63 63) := ⟨_, rfl⟩
  have TV : Hid (Touch [] w V) := hid (by rw [hV]; exact (((Touch.refl _ _).alloc _).alloc _).alloc _)
  have B4 : Hid (V.heap[w.heap.size]? = some (.cells cs 63 (0, 0))) := hid (by rw [hV]; exact (((Touch.refl [] _).alloc _).alloc _).keep (heap_alloc_new w _) (by simp))
  have B5 : Hid (V.heap[w.heap.size + 1]? = some (.cells #[.int .i64 5, .int .i64 (i : Nat), .int .i64 a2, .int .i64 g0', .int .i64 g1, .int .i64 g2, .int .i64 g3, .int .i64 g4, .int .i64 g5, .int .i64 g6] 67 (0, 0))) := hid (by
    rw [hV]
    have := heap_alloc_new (w.alloc (.cells cs 63)) (.cells #[.int .i64 5, .int .i64 (i : Nat), .int .i64 a2, .int .i64 g0', .int .i64 g1, .int .i64 g2, .int .i64 g3, .int .i64 g4, .int .i64 g5, .int .i64 g6] 67)
    rw [World.size_alloc] at this
    exact ((Touch.refl [] _).alloc _).keep this (by simp))
  have B7 : Hid (V.heap[w.heap.size + 2]? = some (.cells Tryd.zeroCells63 63 (0, 0))) := hid (by
    rw [hV]
    have := heap_alloc_new ((w.alloc (.cells cs 63)).alloc (.cells #[.int .i64 5, .int .i64 (i : Nat), .int .i64 a2, .int .i64 g0', .int .i64 g1, .int .i64 g2, .int .i64 g3, .int .i64 g4, .int .i64 g5, .int .i64 g6] 67)) (.cells Tryd.zeroCells63 63)
    rwa [World.size_alloc, World.size_alloc] at this)
  go_enter Tryd.func18, Tryd.ntmps18
  go_upto_region 1 with fail
  rw [← hV]
  clear hV
  have v0 := cell_at (j := 0) B5.out rfl
  have v1 := cell_at (j := 1) B5.out rfl
  have v2 := cell_at (j := 2) B5.out rfl
  go_upto_region 41 with (go_at_call 22; refine (HU0.out _ TV.out).mono ?_; rintro e w1 ⟨rfl, t1, c1⟩; have T1 := hid t1; have Q1 := hid c1; clear v0 v1 v2 c1; have v1 := cell_at (j := 1) (t1.keep B5.out (by simp; omega)) rfl; have b4 := t1.keep B4.out (by simp; omega); have y1 := cell_at b4 HST.out; have yf := froz_at b4; have hz0 := block_lt b4; have hz1 := block_lt (t1.keep B5.out (by simp; omega)); have B4' := hid b4; clear t1 b4)
  clear v1 y1 yf hz0 hz1
  obtain ⟨G, hG⟩ : ∃ G, G = w1.heap.size := ⟨_, rfl⟩
  obtain ⟨W0, hW0⟩ : ∃ W0, W0 = ((w1.setCell ⟨w.heap.size, 4 + i, none⟩ (.int .i64 0)).alloc (.cells #[.int .i64 q0, .int .i64 q1, .int .i64 q2, .int .i64 q3, .int .i64 q4, .int .i64 q5, .int .i64 q6] 60)).drew := ⟨_, rfl⟩
  have hGw : w.heap.size + 2 < G := by have := block_lt (T1.out.keep B7.out (by simp; omega)); omega
  have hGw1 : w1.heap.size ≠ w.heap.size := by omega
  have tb : Touch [w.heap.size] w1 W0 := by rw [hW0]; exact (((Touch.refl _ w1).setCell (Or.inl (by simp)) _).alloc _).drew
  have S0 : (fun (w' : World) => w'.heap[w.heap.size]? = some (.cells (cs.setIfInBounds (4 + i) (.int .i64 0)) 63 (0, 0)) ∧ w'.heap[w.heap.size + 1]? = some (.cells #[.int .i64 5, .int .i64 (i : Nat), .int .i64 a2, .int .i64 g0', .int .i64 g1, .int .i64 g2, .int .i64 g3, .int .i64 g4, .int .i64 g5, .int .i64 g6] 67 (0, 0)) ∧ w'.heap[G]? = some (.cells #[.int .i64 q0, .int .i64 q1, .int .i64 q2, .int .i64 q3, .int .i64 q4, .int .i64 q5, .int .i64 q6] 60 (0, 0))) W0 := And.intro (by rw [hW0]; exact (((Touch.refl [] _).alloc _).drew).keep (bset B4'.out _) (by simp)) (And.intro (tb.keep (T1.out.keep B5.out (by simp; omega)) (by simp)) (by rw [hW0, hG]; have z := heap_alloc_new (w1.setCell ⟨w.heap.size, 4 + i, none⟩ (.int .i64 0)) (.cells #[.int .i64 q0, .int .i64 q1, .int .i64 q2, .int .i64 q3, .int .i64 q4, .int .i64 q5, .int .i64 q6] 60); rw [show (w1.setCell ⟨w.heap.size, 4 + i, none⟩ (.int .i64 0)).heap.size = w1.heap.size by simp [World.setCell]] at z; exact z))
  dsimp only at S0
  have FI := (HI.out.touch TV.out).step Q1.out T1.out (HI.out.s.setSt HK.out 0) (HI.out.r.take i) rfl rfl
  have HFI := hid (FI.box B4'.out tb)
  have TW : Hid (Touch (b :: lv.ownBlock.toList) w W0) := hid (((TV.out.mono (fun _ e => by cases e)).trans T1.out (fun k hk => Or.inl (by simp at hk; simp [hk]))).trans tb (fun k hk => Or.inr (by simp at hk; omega)))
  have B7' := hid (tb.keep (T1.out.keep B7.out (by simp; omega)) (by simp))
  clear FI hGw1
  have K0 : ∀ w' : World, (w'.heap[w.heap.size]? = some (.cells (cs.setIfInBounds (4 + i) (.int .i64 0)) 63 (0, 0)) ∧ w'.heap[w.heap.size + 1]? = some (.cells #[.int .i64 5, .int .i64 (i : Nat), .int .i64 a2, .int .i64 g0', .int .i64 g1, .int .i64 g2, .int .i64 g3, .int .i64 g4, .int .i64 g5, .int .i64 g6] 67 (0, 0)) ∧ w'.heap[G]? = some (.cells #[.int .i64 q0, .int .i64 q1, .int .i64 q2, .int .i64 q3, .int .i64 q4, .int .i64 q5, .int .i64 q6] 60 (0, 0))) → w'.cell? ⟨G, 0, none⟩ = some (.int .i64 q0) := fun w' h => cell_at h.2.2 rfl
  have K1 : ∀ w' : World, (w'.heap[w.heap.size]? = some (.cells (cs.setIfInBounds (4 + i) (.int .i64 0)) 63 (0, 0)) ∧ w'.heap[w.heap.size + 1]? = some (.cells #[.int .i64 5, .int .i64 (i : Nat), .int .i64 a2, .int .i64 g0', .int .i64 g1, .int .i64 g2, .int .i64 g3, .int .i64 g4, .int .i64 g5, .int .i64 g6] 67 (0, 0)) ∧ w'.heap[G]? = some (.cells #[.int .i64 q0, .int .i64 q1, .int .i64 q2, .int .i64 q3, .int .i64 q4, .int .i64 q5, .int .i64 q6] 60 (0, 0))) → w'.cell? ⟨G, 1, none⟩ = some (.int .i64 q1) := fun w' h => cell_at h.2.2 rfl
  have K2 : ∀ w' : World, (w'.heap[w.heap.size]? = some (.cells (cs.setIfInBounds (4 + i) (.int .i64 0)) 63 (0, 0)) ∧ w'.heap[w.heap.size + 1]? = some (.cells #[.int .i64 5, .int .i64 (i : Nat), .int .i64 a2, .int .i64 g0', .int .i64 g1, .int .i64 g2, .int .i64 g3, .int .i64 g4, .int .i64 g5, .int .i64 g6] 67 (0, 0)) ∧ w'.heap[G]? = some (.cells #[.int .i64 q0, .int .i64 q1, .int .i64 q2, .int .i64 q3, .int .i64 q4, .int .i64 q5, .int .i64 q6] 60 (0, 0))) → w'.cell? ⟨G, 2, none⟩ = some (.int .i64 q2) := fun w' h => cell_at h.2.2 rfl
  have K3 : ∀ w' : World, (w'.heap[w.heap.size]? = some (.cells (cs.setIfInBounds (4 + i) (.int .i64 0)) 63 (0, 0)) ∧ w'.heap[w.heap.size + 1]? = some (.cells #[.int .i64 5, .int .i64 (i : Nat), .int .i64 a2, .int .i64 g0', .int .i64 g1, .int .i64 g2, .int .i64 g3, .int .i64 g4, .int .i64 g5, .int .i64 g6] 67 (0, 0)) ∧ w'.heap[G]? = some (.cells #[.int .i64 q0, .int .i64 q1, .int .i64 q2, .int .i64 q3, .int .i64 q4, .int .i64 q5, .int .i64 q6] 60 (0, 0))) → w'.cell? ⟨G, 3, none⟩ = some (.int .i64 q3) := fun w' h => cell_at h.2.2 rfl
  have K4 : ∀ w' : World, (w'.heap[w.heap.size]? = some (.cells (cs.setIfInBounds (4 + i) (.int .i64 0)) 63 (0, 0)) ∧ w'.heap[w.heap.size + 1]? = some (.cells #[.int .i64 5, .int .i64 (i : Nat), .int .i64 a2, .int .i64 g0', .int .i64 g1, .int .i64 g2, .int .i64 g3, .int .i64 g4, .int .i64 g5, .int .i64 g6] 67 (0, 0)) ∧ w'.heap[G]? = some (.cells #[.int .i64 q0, .int .i64 q1, .int .i64 q2, .int .i64 q3, .int .i64 q4, .int .i64 q5, .int .i64 q6] 60 (0, 0))) → w'.cell? ⟨G, 4, none⟩ = some (.int .i64 q4) := fun w' h => cell_at h.2.2 rfl
  have K5 : ∀ w' : World, (w'.heap[w.heap.size]? = some (.cells (cs.setIfInBounds (4 + i) (.int .i64 0)) 63 (0, 0)) ∧ w'.heap[w.heap.size + 1]? = some (.cells #[.int .i64 5, .int .i64 (i : Nat), .int .i64 a2, .int .i64 g0', .int .i64 g1, .int .i64 g2, .int .i64 g3, .int .i64 g4, .int .i64 g5, .int .i64 g6] 67 (0, 0)) ∧ w'.heap[G]? = some (.cells #[.int .i64 q0, .int .i64 q1, .int .i64 q2, .int .i64 q3, .int .i64 q4, .int .i64 q5, .int .i64 q6] 60 (0, 0))) → w'.cell? ⟨G, 5, none⟩ = some (.int .i64 q5) := fun w' h => cell_at h.2.2 rfl
  have K6 : ∀ w' : World, (w'.heap[w.heap.size]? = some (.cells (cs.setIfInBounds (4 + i) (.int .i64 0)) 63 (0, 0)) ∧ w'.heap[w.heap.size + 1]? = some (.cells #[.int .i64 5, .int .i64 (i : Nat), .int .i64 a2, .int .i64 g0', .int .i64 g1, .int .i64 g2, .int .i64 g3, .int .i64 g4, .int .i64 g5, .int .i64 g6] 67 (0, 0)) ∧ w'.heap[G]? = some (.cells #[.int .i64 q0, .int .i64 q1, .int .i64 q2, .int .i64 q3, .int .i64 q4, .int .i64 q5, .int .i64 q6] 60 (0, 0))) → w'.cell? ⟨G, 6, none⟩ = some (.int .i64 q6) := fun w' h => cell_at h.2.2 rfl
  have L0 : ∀ w' : World, (w'.heap[w.heap.size]? = some (.cells (cs.setIfInBounds (4 + i) (.int .i64 0)) 63 (0, 0)) ∧ w'.heap[w.heap.size + 1]? = some (.cells #[.int .i64 5, .int .i64 (i : Nat), .int .i64 a2, .int .i64 g0', .int .i64 g1, .int .i64 g2, .int .i64 g3, .int .i64 g4, .int .i64 g5, .int .i64 g6] 67 (0, 0)) ∧ w'.heap[G]? = some (.cells #[.int .i64 q0, .int .i64 q1, .int .i64 q2, .int .i64 q3, .int .i64 q4, .int .i64 q5, .int .i64 q6] 60 (0, 0))) → w'.cell? ⟨w.heap.size, 36 + i * 7, none⟩ = some (.int .i64 q0) := fun w' h => cell_at h.1 HFU.out.1
  have L1 : ∀ w' : World, (w'.heap[w.heap.size]? = some (.cells (cs.setIfInBounds (4 + i) (.int .i64 0)) 63 (0, 0)) ∧ w'.heap[w.heap.size + 1]? = some (.cells #[.int .i64 5, .int .i64 (i : Nat), .int .i64 a2, .int .i64 g0', .int .i64 g1, .int .i64 g2, .int .i64 g3, .int .i64 g4, .int .i64 g5, .int .i64 g6] 67 (0, 0)) ∧ w'.heap[G]? = some (.cells #[.int .i64 q0, .int .i64 q1, .int .i64 q2, .int .i64 q3, .int .i64 q4, .int .i64 q5, .int .i64 q6] 60 (0, 0))) → w'.cell? ⟨w.heap.size, 36 + i * 7 + 1, none⟩ = some (.int .i64 q1) := fun w' h => cell_at h.1 HFU.out.2.1
  have L2 : ∀ w' : World, (w'.heap[w.heap.size]? = some (.cells (cs.setIfInBounds (4 + i) (.int .i64 0)) 63 (0, 0)) ∧ w'.heap[w.heap.size + 1]? = some (.cells #[.int .i64 5, .int .i64 (i : Nat), .int .i64 a2, .int .i64 g0', .int .i64 g1, .int .i64 g2, .int .i64 g3, .int .i64 g4, .int .i64 g5, .int .i64 g6] 67 (0, 0)) ∧ w'.heap[G]? = some (.cells #[.int .i64 q0, .int .i64 q1, .int .i64 q2, .int .i64 q3, .int .i64 q4, .int .i64 q5, .int .i64 q6] 60 (0, 0))) → w'.cell? ⟨w.heap.size, 36 + i * 7 + 2, none⟩ = some (.int .i64 q2) := fun w' h => cell_at h.1 HFU.out.2.2.1
  have L3 : ∀ w' : World, (w'.heap[w.heap.size]? = some (.cells (cs.setIfInBounds (4 + i) (.int .i64 0)) 63 (0, 0)) ∧ w'.heap[w.heap.size + 1]? = some (.cells #[.int .i64 5, .int .i64 (i : Nat), .int .i64 a2, .int .i64 g0', .int .i64 g1, .int .i64 g2, .int .i64 g3, .int .i64 g4, .int .i64 g5, .int .i64 g6] 67 (0, 0)) ∧ w'.heap[G]? = some (.cells #[.int .i64 q0, .int .i64 q1, .int .i64 q2, .int .i64 q3, .int .i64 q4, .int .i64 q5, .int .i64 q6] 60 (0, 0))) → w'.cell? ⟨w.heap.size, 36 + i * 7 + 3, none⟩ = some (.int .i64 q3) := fun w' h => cell_at h.1 HFU.out.2.2.2.1
  have L4 : ∀ w' : World, (w'.heap[w.heap.size]? = some (.cells (cs.setIfInBounds (4 + i) (.int .i64 0)) 63 (0, 0)) ∧ w'.heap[w.heap.size + 1]? = some (.cells #[.int .i64 5, .int .i64 (i : Nat), .int .i64 a2, .int .i64 g0', .int .i64 g1, .int .i64 g2, .int .i64 g3, .int .i64 g4, .int .i64 g5, .int .i64 g6] 67 (0, 0)) ∧ w'.heap[G]? = some (.cells #[.int .i64 q0, .int .i64 q1, .int .i64 q2, .int .i64 q3, .int .i64 q4, .int .i64 q5, .int .i64 q6] 60 (0, 0))) → w'.cell? ⟨w.heap.size, 36 + i * 7 + 4, none⟩ = some (.int .i64 q4) := fun w' h => cell_at h.1 HFU.out.2.2.2.2.1
  have L5 : ∀ w' : World, (w'.heap[w.heap.size]? = some (.cells (cs.setIfInBounds (4 + i) (.int .i64 0)) 63 (0, 0)) ∧ w'.heap[w.heap.size + 1]? = some (.cells #[.int .i64 5, .int .i64 (i : Nat), .int .i64 a2, .int .i64 g0', .int .i64 g1, .int .i64 g2, .int .i64 g3, .int .i64 g4, .int .i64 g5, .int .i64 g6] 67 (0, 0)) ∧ w'.heap[G]? = some (.cells #[.int .i64 q0, .int .i64 q1, .int .i64 q2, .int .i64 q3, .int .i64 q4, .int .i64 q5, .int .i64 q6] 60 (0, 0))) → w'.cell? ⟨w.heap.size, 36 + i * 7 + 5, none⟩ = some (.int .i64 q5) := fun w' h => cell_at h.1 HFU.out.2.2.2.2.2.1
  have L6 : ∀ w' : World, (w'.heap[w.heap.size]? = some (.cells (cs.setIfInBounds (4 + i) (.int .i64 0)) 63 (0, 0)) ∧ w'.heap[w.heap.size + 1]? = some (.cells #[.int .i64 5, .int .i64 (i : Nat), .int .i64 a2, .int .i64 g0', .int .i64 g1, .int .i64 g2, .int .i64 g3, .int .i64 g4, .int .i64 g5, .int .i64 g6] 67 (0, 0)) ∧ w'.heap[G]? = some (.cells #[.int .i64 q0, .int .i64 q1, .int .i64 q2, .int .i64 q3, .int .i64 q4, .int .i64 q5, .int .i64 q6] 60 (0, 0))) → w'.cell? ⟨w.heap.size, 36 + i * 7 + 6, none⟩ = some (.int .i64 q6) := fun w' h => cell_at h.1 HFU.out.2.2.2.2.2.2
  have E1 : ∀ w' : World, (w'.heap[w.heap.size]? = some (.cells (cs.setIfInBounds (4 + i) (.int .i64 0)) 63 (0, 0)) ∧ w'.heap[w.heap.size + 1]? = some (.cells #[.int .i64 5, .int .i64 (i : Nat), .int .i64 a2, .int .i64 g0', .int .i64 g1, .int .i64 g2, .int .i64 g3, .int .i64 g4, .int .i64 g5, .int .i64 g6] 67 (0, 0)) ∧ w'.heap[G]? = some (.cells #[.int .i64 q0, .int .i64 q1, .int .i64 q2, .int .i64 q3, .int .i64 q4, .int .i64 q5, .int .i64 q6] 60 (0, 0))) → w'.cell? ⟨w.heap.size + 1, 1, none⟩ = some (.int .i64 (i : Nat)) := fun w' h => cell_at h.2.1 rfl
  refine wp_region_H (S := fun (w' : World) => w'.heap[w.heap.size]? = some (.cells (cs.setIfInBounds (4 + i) (.int .i64 0)) 63 (0, 0)) ∧ w'.heap[w.heap.size + 1]? = some (.cells #[.int .i64 5, .int .i64 (i : Nat), .int .i64 a2, .int .i64 g0', .int .i64 g1, .int .i64 g2, .int .i64 g3, .int .i64 g4, .int .i64 g5, .int .i64 g6] 67 (0, 0)) ∧ w'.heap[G]? = some (.cells #[.int .i64 q0, .int .i64 q1, .int .i64 q2, .int .i64 q3, .int .i64 q4, .int .i64 q5, .int .i64 q6] 60 (0, 0))) (by kernel_rfl) ?_
  rw [← hG, ← hW0]
  clear hW0 hG tb T1
  refine wpH_take (i := 0) (v := (.pointer (some ⟨b, 0, none⟩))) (some 226) rfl rfl (by kernel_rfl) (by kernel_rfl) (by kernel_rfl) (fun _ _ _ h => h) (Or.inl ⟨by rfl, fun w' hS => (by go_simp)⟩) S0 ?_
  try simp only [Go.Act.put, List.setIfInBounds_toArray, List.set_cons_zero, List.set_cons_succ]
  refine wpH_take (i := 1) (v := (.agg (cs.setIfInBounds (4 + i) (.int .i64 0)))) (some 227) rfl rfl (by kernel_rfl) (by kernel_rfl) (by kernel_rfl) (fun _ _ _ h => h) (Or.inl ⟨by rfl, fun w' hS => exec_loadT bigS _ rfl rfl hS.1 HN1.out⟩) S0 ?_
  try simp only [Go.Act.put, List.setIfInBounds_toArray, List.set_cons_zero, List.set_cons_succ]
  refine wpH_take (i := 2) (v := (.agg #[.int .i64 q0, .int .i64 q1, .int .i64 q2, .int .i64 q3, .int .i64 q4, .int .i64 q5, .int .i64 q6])) (some 228) rfl rfl (by kernel_rfl) (by kernel_rfl) (by kernel_rfl) (fun _ _ _ h => h) (Or.inl ⟨by rfl, fun w' hS => (by have z0 := K0 _ hS; have z1 := K1 _ hS; have z2 := K2 _ hS; have z3 := K3 _ hS; have z4 := K4 _ hS; have z5 := K5 _ hS; have z6 := K6 _ hS; go_simp)⟩) S0 ?_
  try simp only [Go.Act.put, List.setIfInBounds_toArray, List.set_cons_zero, List.set_cons_succ]
  refine wpH_take (i := 3) (v := (.pointer (some ⟨w.heap.size + 1, 1, none⟩))) (some 229) rfl rfl (by kernel_rfl) (by kernel_rfl) (by kernel_rfl) (fun _ _ _ h => h) (Or.inl ⟨by rfl, fun w' hS => (by go_simp)⟩) S0 ?_
  try simp only [Go.Act.put, List.setIfInBounds_toArray, List.set_cons_zero, List.set_cons_succ]
  refine wpH_take (i := 4) (v := (.int .i64 (i : Nat))) (some 230) rfl rfl (by kernel_rfl) (by kernel_rfl) (by kernel_rfl) (fun _ _ _ h => h) (Or.inl ⟨by rfl, fun w' hS => (by have z0 := E1 _ hS; go_simp)⟩) S0 ?_
  try simp only [Go.Act.put, List.setIfInBounds_toArray, List.set_cons_zero, List.set_cons_succ]
  refine wpH_take (i := 5) (v := (.pointer (some ⟨w.heap.size, 36, none⟩))) (some 231) rfl rfl (by kernel_rfl) (by kernel_rfl) (by kernel_rfl) (fun _ _ _ h => h) (Or.inl ⟨by rfl, fun w' hS => (by go_simp)⟩) S0 ?_
  try simp only [Go.Act.put, List.setIfInBounds_toArray, List.set_cons_zero, List.set_cons_succ]
  refine wpH_take (i := 6) (v := (.pointer (some ⟨w.heap.size, 36 + i * 7, none⟩))) (some 232) rfl rfl (by kernel_rfl) (by kernel_rfl) (by kernel_rfl) (fun _ _ _ h => h) (Or.inl ⟨by rfl, fun w' hS => (by go_simp)⟩) S0 ?_
  try simp only [Go.Act.put, List.setIfInBounds_toArray, List.set_cons_zero, List.set_cons_succ]
  refine wpH_take (i := 7) (v := (.agg #[.int .i64 q0, .int .i64 q1, .int .i64 q2, .int .i64 q3, .int .i64 q4, .int .i64 q5, .int .i64 q6])) (some 233) rfl rfl (by kernel_rfl) (by kernel_rfl) (by kernel_rfl) (fun _ _ _ h => h) (Or.inl ⟨by rfl, fun w' hS => (by have z0 := L0 _ hS; have z1 := L1 _ hS; have z2 := L2 _ hS; have z3 := L3 _ hS; have z4 := L4 _ hS; have z5 := L5 _ hS; have z6 := L6 _ hS; go_simp)⟩) S0 ?_
  try simp only [Go.Act.put, List.setIfInBounds_toArray, List.set_cons_zero, List.set_cons_succ]
  refine wpH_take (i := 8) (v := (.bool true)) (some 234) rfl rfl (by kernel_rfl) (by kernel_rfl) (by kernel_rfl) (fun _ _ _ h => h) (Or.inl ⟨by rfl, fun w' hS => (by go_simp)⟩) S0 ?_
  try simp only [Go.Act.put, List.setIfInBounds_toArray, List.set_cons_zero, List.set_cons_succ]
  refine wpH_take (i := 9) (v := (.bool true)) (some 235) rfl rfl (by kernel_rfl) (by kernel_rfl) (by kernel_rfl) (fun _ _ _ h => h) (Or.inl ⟨by rfl, fun w' hS => (by go_simp)⟩) S0 ?_
  try simp only [Go.Act.put, List.setIfInBounds_toArray, List.set_cons_zero, List.set_cons_succ]
  refine wpH_take (i := 10) (v := (.int .i64 3)) (some 236) rfl rfl (by kernel_rfl) (by kernel_rfl) (by kernel_rfl) (fun _ _ _ h => h) (Or.inl ⟨by rfl, fun w' hS => (by go_simp)⟩) S0 ?_
  try simp only [Go.Act.put, List.setIfInBounds_toArray, List.set_cons_zero, List.set_cons_succ]
  refine wpH_take (i := 11) (v := (.int .i64 3)) (some 237) rfl rfl (by kernel_rfl) (by kernel_rfl) (by kernel_rfl) (fun _ _ _ h => h) (Or.inl ⟨by rfl, fun w' hS => (by go_simp)⟩) S0 ?_
  try simp only [Go.Act.put, List.setIfInBounds_toArray, List.set_cons_zero, List.set_cons_succ]
  refine wpH_take (i := 12) (v := (.bool true)) (some 238) rfl rfl (by kernel_rfl) (by kernel_rfl) (by kernel_rfl) (fun _ _ _ h => h) (Or.inl ⟨by rfl, fun w' hS => (by go_simp)⟩) S0 ?_
  try simp only [Go.Act.put, List.setIfInBounds_toArray, List.set_cons_zero, List.set_cons_succ]
  refine wpH_take (i := 13) (v := (.bool true)) (some 239) rfl rfl (by kernel_rfl) (by kernel_rfl) (by kernel_rfl) (fun _ _ _ h => h) (Or.inl ⟨by rfl, fun w' hS => (by go_simp)⟩) S0 ?_
  try simp only [Go.Act.put, List.setIfInBounds_toArray, List.set_cons_zero, List.set_cons_succ]
  refine wpH_take (i := 14) (v := (.bool true)) (some 240) rfl rfl (by kernel_rfl) (by kernel_rfl) (by kernel_rfl) (fun _ _ _ h => h) (Or.inl ⟨by rfl, fun w' hS => (by go_simp)⟩) S0 ?_
  try simp only [Go.Act.put, List.setIfInBounds_toArray, List.set_cons_zero, List.set_cons_succ]
  refine wpH_take (i := 15) (v := (.int .i64 0)) (some 241) rfl rfl (by kernel_rfl) (by kernel_rfl) (by kernel_rfl) (fun _ _ _ h => h) (Or.inl ⟨by rfl, fun w' hS => (by go_simp)⟩) S0 ?_
  try simp only [Go.Act.put, List.setIfInBounds_toArray, List.set_cons_zero, List.set_cons_succ]
  refine wpH_take (i := 16) (v := (.bool true)) (some 242) rfl rfl (by kernel_rfl) (by kernel_rfl) (by kernel_rfl) (fun _ _ _ h => h) (Or.inl ⟨by rfl, fun w' hS => (by go_simp)⟩) S0 ?_
  try simp only [Go.Act.put, List.setIfInBounds_toArray, List.set_cons_zero, List.set_cons_succ]
  refine wpH_take (i := 17) (v := (.bool true)) (some 243) rfl rfl (by kernel_rfl) (by kernel_rfl) (by kernel_rfl) (fun _ _ _ h => h) (Or.inl ⟨by rfl, fun w' hS => (by go_simp)⟩) S0 ?_
  try simp only [Go.Act.put, List.setIfInBounds_toArray, List.set_cons_zero, List.set_cons_succ]
  refine wpH_take (i := 18) (v := (.pointer (some ⟨b, 0, none⟩))) (some 6) rfl rfl (by kernel_rfl) (by kernel_rfl) (by kernel_rfl) (fun _ _ _ h => h) (Or.inl ⟨by rfl, fun w' hS => (by go_simp)⟩) S0 ?_
  try simp only [Go.Act.put, List.setIfInBounds_toArray, List.set_cons_zero, List.set_cons_succ]
  refine wpH_call (i := 19) (o := { dst := none, op := Op.store 63 (Operand.tmp 7) (Operand.tmp 227), type := 0, pos := _, after := #[{ on := 1, ground := Ground.data }, { on := 18, ground := Ground.chain }, { on := 0, ground := Ground.phase }, { on := 1, ground := Ground.phase }, { on := 2, ground := Ground.textOnly Departure.lateStores }, { on := 3, ground := Ground.textOnly Departure.lateStores }, { on := 4, ground := Ground.textOnly Departure.lateStores }, { on := 5, ground := Ground.textOnly Departure.lateStores }, { on := 6, ground := Ground.textOnly Departure.lateStores }, { on := 7, ground := Ground.textOnly Departure.lateStores }, { on := 8, ground := Ground.textOnly Departure.lateStores }, { on := 9, ground := Ground.textOnly Departure.lateStores }, { on := 10, ground := Ground.textOnly Departure.lateStores }, { on := 11, ground := Ground.textOnly Departure.lateStores }, { on := 12, ground := Ground.textOnly Departure.lateStores }, { on := 13, ground := Ground.textOnly Departure.lateStores }, { on := 14, ground := Ground.textOnly Departure.lateStores }, { on := 15, ground := Ground.textOnly Departure.lateStores }, { on := 16, ground := Ground.textOnly Departure.lateStores }, { on := 17, ground := Ground.textOnly Departure.lateStores }, { on := 18, ground := Ground.phase }], guard := none }) (by kernel_rfl) rfl (fun K' hK => ?_)
  rw [if_pos (by rfl)]
  refine wp_storeT bigS (Operand.tmp 7) (Operand.tmp 227) rfl (w.heap.size + 2) _ (cs.setIfInBounds (4 + i) (.int .i64 0)) 63 rfl rfl B7'.out zs_size HN1.out HO1.out (fun w7 h7 t7 s7 => ?_)
  have S7 := And.intro (t7.keep S0.1 (by simp)) (And.intro (t7.keep S0.2.1 (by simp)) (t7.keep S0.2.2 (by simp; omega)))
  refine hK.out _ _ S7 ?_
  clear hK
  try simp only [Go.Act.put, List.setIfInBounds_toArray, List.set_cons_zero, List.set_cons_succ]
  refine wpH_take (i := 20) (v := (.bool true)) (some 8) rfl rfl (by kernel_rfl) (by kernel_rfl) (by kernel_rfl) (fun _ _ _ h => h) (Or.inl ⟨by rfl, fun w' hS => (by go_simp)⟩) S7 ?_
  try simp only [Go.Act.put, List.setIfInBounds_toArray, List.set_cons_zero, List.set_cons_succ]
  refine wpAnyH_done (by kernel_rfl) ?_ _
  go_wp2_with fail
  refine bodyPost_ret (results_one rfl _ _ rfl h7 HN1.out) rfl ?_
  exact ⟨b, pv, lv, _, _, lv2, _, _, rfl, HFI.out.box B7'.out t7, Nat.le_succ _, rfl, TW.out.trans t7 (fun k hk => Or.inr (by simp at hk; omega))⟩
end
end Go.Proofs.YthakboiecdjgnaaDoor.Ci
