/- The contract of Clone: a record of its own that is the same. -/
import Derived.Test.YtaikleaiofpebaaReb
namespace Go.Proofs.Ytaikleaiofpebaa
open Go.RowKit Go.Maps Go.ChangeMaps
set_option linter.unusedVariables false
set_option linter.unusedSimpArgs false
theorem own_form2 {w : World} {base e n k : Nat} {v : Value} {xs : List Value} (h : w.ownsRow base e k v n xs) : ∃ p n c, v = .slice p n c := by
  obtain ⟨p, c, e⟩ := own_form h
  exact ⟨p, n, c, e⟩
def CpE (e : Ending) (w w' : World) (R : Rn) (S : St) (N : Nat) : Prop := ∃ b F, e = .returned (PT b) ∧ Rq w' b F R S N ∧ Touch [] w w' ∧ ∀ d, d ∈ F → w.heap.size ≤ d
section
variable (w : World) (b N : Nat) (F : List Nat) (R : Rn) (S : St)
set_option maxHeartbeats 4000000 in
set_option maxRecDepth 100000 in
theorem clone20 (h : Rq w b F R S N) (hN : N ≤ 3000000000000) : Calls Try.prog 20 #[PT b] w fun e w' => CpE e w w' R S N := by
  obtain ⟨sl, m, cs, rfl, h, hw, hl, hiv⟩ := h
  have hbl := h.rc.lt
  have hne : b ≠ w.heap.size := by omega
  obtain ⟨a, cap, rfl⟩ := own_form h.ln.row
  obtain ⟨W1, hW1⟩ : ∃ W1, W1 = w.alloc (.cells (rc R (.slice a cs.length cap) (.map m) (S.kept && !S.ended) S.canc S.ended S.out) 67) := ⟨_, rfl⟩
  have hrc1 : Rc W1 w.heap.size R (.slice a cs.length cap) (.map m) (S.kept && !S.ended) S.canc S.ended S.out := ⟨by rw [hW1]; exact heap_alloc_new w _⟩
  have t1 : Touch [] w W1 := by rw [hW1]; exact (Touch.refl _ _).alloc _
  have h1 := h.keep0 t1
  have HC := hid (clone36 W1 b R _ m cs _ _ _ _ h1 (by omega))
  unfold ClE at HC
  have HG : Hid (∀ w2, Touch [] W1 w2 → w2.cell? ⟨w.heap.size, 5, none⟩ = some (.slice a cs.length cap) ∧ w2.cell? ⟨w.heap.size, 6, none⟩ = some (.map m) ∧ ∀ i, w2.frozen? ⟨w.heap.size, i, none⟩ = false) := fun w2 T => by
    have := hrc1.keep T (by simp)
    exact ⟨this.cs.c5, this.cs.c6, this.fz⟩
  have HX : Hid (∀ w2 sl2 m2, Ln w2 sl2 m2 cs → (∀ q, sl2.ownBlock = some q ∨ m2 = some q → W1.heap.size ≤ q) → Touch [] W1 w2 → CpE (.returned (PT w.heap.size)) w ((w2.setCell ⟨w.heap.size, 5, none⟩ sl2).setCell ⟨w.heap.size, 6, none⟩ (.map m2)) R S N) := fun w2 sl2 m2 hln hq T => by
    have hs1 : w.heap.size < W1.heap.size := hrc1.lt
    have hrc2 := hrc1.keep T (by simp)
    have TB : Touch [w.heap.size] w2 ((w2.setCell ⟨w.heap.size, 5, none⟩ sl2).setCell ⟨w.heap.size, 6, none⟩ (.map m2)) := ((Touch.refl _ _).setCell (Or.inl (by simp)) _).setCell (Or.inl (by simp)) _
    refine ⟨w.heap.size, fpR w.heap.size sl2 m2, rfl, ⟨sl2, m2, cs, rfl, ⟨(hrc2.set5 _).set6 _, hln.keep TB (fun d hd e' => ?_) (fun d hd e' => ?_)⟩, hw, hl, hiv⟩, (t1.trans' T).trans TB (fun i hi => Or.inr (by simp at hi; omega)), fun d hd => ?_⟩
    · have := hq d (Or.inl hd); simp at e'; omega
    · have := hq d (Or.inr hd); simp at e'; omega
    · rcases mem_fpR.1 hd with q | q | q
      · omega
      · have := hq d (Or.inl q); omega
      · have := hq d (Or.inr q); omega
  obtain ⟨c0, c1, c2, c3, c4, c5, c6, c7, c8, c9, c10, c11, c12, c13⟩ := h.rc.cs
  have ff := h.rc.fz
  clear h h1 hrc1 t1 hw hl hiv
  unfold PT at *
  unfold PL at HC
  unfold rc at hW1
  go_enter Try.func20, Try.ntmps20
  go_upto_region 4 with fail
  rw [← hW1]
  clear hW1 c0 c1 c2 c3 c4 c5 c6 c7 c8 c9 c10 c11 c12 c13 ff
  go_wp2_with (go_at_call 36; refine HC.out.mono ?_; rintro e w2 ⟨sl2, m2, rfl, q1, q2, q3⟩; obtain ⟨a2, n2, c2, rfl⟩ := own_form2 q1.row; obtain ⟨y1, y2, y3⟩ := HG.out w2 q3; have RR := hid (HX.out w2 _ m2 q1 q2 q3); clear q1 q2 q3)
  go_ret
  exact RR.out
end
end Go.Proofs.Ytaikleaiofpebaa
