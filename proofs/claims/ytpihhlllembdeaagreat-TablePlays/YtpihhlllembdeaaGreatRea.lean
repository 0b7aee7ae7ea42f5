/- A record as a plain state; the contracts of what only reads one. -/
import Derived.Test.YtpihhlllembdeaaGreatCln
namespace Go.Proofs.YtpihhlllembdeaaGreat
open Go.RowKit Go.Maps Go.ChangeMaps
set_option linter.unusedVariables false
set_option linter.unusedSimpArgs false
def Rq (w : World) (b : Nat) (F : List Nat) (R : Rn) (S : St) (N : Nat) : Prop := ∃ sl m cs, F = fpR b sl m ∧ Rl w b R (S.kept && !S.ended) S.canc S.ended S.out sl m cs ∧ wl cs = S.who ∧ cs.length ≤ N ∧ Iv S
def RqE (w w' : World) (b : Nat) (F : List Nat) (R : Rn) (S : St) (N : Nat) : Prop := ∃ F', Rq w' b F' R S N ∧ Touch F w w' ∧ Nf w F F'
section
variable {w w' : World} {b N M : Nat} {F G : List Nat} {R : Rn} {S : St}
theorem Rq.lt (h : Rq w b F R S N) : ∀ d, d ∈ F → d < w.heap.size := by
  obtain ⟨sl, m, cs, rfl, h, _⟩ := h
  exact h.lt
theorem Rq.keep (h : Rq w b F R S N) (T : Touch G w w') (hG : ∀ d, d ∈ F → ¬ d ∈ G) : Rq w' b F R S N := by
  obtain ⟨sl, m, cs, rfl, h, r⟩ := h
  exact ⟨sl, m, cs, rfl, h.keep T hG, r⟩
theorem Rq.keep0 (h : Rq w b F R S N) (T : Touch [] w w') : Rq w' b F R S N := h.keep T (fun _ _ e => by cases e)
theorem Rq.mono (h : Rq w b F R S N) (hN : N ≤ M) : Rq w b F R S M := by
  obtain ⟨sl, m, cs, rfl, h, h1, h2, h3⟩ := h
  exact ⟨sl, m, cs, rfl, h, h1, Nat.le_trans h2 hN, h3⟩
theorem Rq.iv (h : Rq w b F R S N) : Iv S := by
  obtain ⟨sl, m, cs, rfl, h, h1, h2, h3⟩ := h
  exact h3
theorem Rq.wlen (h : Rq w b F R S N) : S.who.length ≤ N := by
  obtain ⟨sl, m, cs, rfl, h, h1, h2, h3⟩ := h
  rw [← h1]
  exact Nat.le_trans (wl_len _) h2
theorem Rq.mem (h : Rq w b F R S N) : b ∈ F := by
  obtain ⟨sl, m, cs, rfl, _⟩ := h
  exact mem_fpR.2 (Or.inl rfl)
theorem RqE.same (h : Rq w b F R S N) (hN : N ≤ M) : RqE w w b F R S M := ⟨F, h.mono hN, Touch.refl _ _, Nf.refl _ _⟩
theorem Rq.cs (h : Rq w b F R S N) : ∃ sl mp, Rcs w b R sl mp (S.kept && !S.ended) S.canc S.ended S.out ∧ ∀ i, w.frozen? ⟨b, i, none⟩ = false := by
  obtain ⟨sl, m, cs, rfl, h, _⟩ := h
  exact ⟨sl, .map m, h.rc.cs, h.rc.fz⟩
theorem Rq.blt (h : Rq w b F R S N) : b < w.heap.size := h.lt b h.mem
end
section
variable (w : World) (b N : Nat) (F : List Nat) (R : Rn) (S : St)
theorem run8 (h : Rq w b F R S N) : Calls Tryz.prog 46 #[PT b] w fun e w' => e = .returned (rv R) ∧ Touch [] w w' := by
  have hl := h.blt
  have hne : b ≠ w.heap.size := by omega
  obtain ⟨sl, mp, ⟨c0, c1, c2, c3, c4, c5, c6, c7, c8, c9, c10, c11, c12, c13⟩, -⟩ := h.cs
  clear h c5 c6 c7 c8 c9 c10 c11 c12 c13
  unfold PT rv
  go_enter Tryz.func46, Tryz.ntmps46
  go_wp2
  refine bodyPost_ret (v := .agg #[.int .i64 R.run, .int .u16 R.sp, .string R.nm, .int .i64 R.gen, .bool R.rf]) (by simp [results, Tryz.results46, go_sem]) rfl ⟨rfl, ?_⟩
  repeat (first | exact Touch.refl _ _ | apply Touch.alloc | (refine Touch.setCell ?_ (Or.inr (by simp)) _))
theorem waiters18 (h : Rq w b F R S N) (hN : N ≤ 3000000000000) : Calls Tryz.prog 57 #[PT b] w fun e w' => AlE e w w' S.who := by
  obtain ⟨sl, m, cs, rfl, h, h1, h2, h3⟩ := h
  have HA := hid (all34 w b R sl m cs _ _ _ _ h (by omega))
  rw [h1] at HA
  clear h h1 h2 h3
  unfold PT
  unfold PL at HA
  go_enter Tryz.func57, Tryz.ntmps57
  go_wp2_with (go_at_call 75; refine HA.out.mono ?_; rintro e w2 ⟨g, cap, rfl, r⟩; have RR := hid r; clear r)
  go_ret
  exact ⟨g, cap, rfl, RR.out⟩
theorem interest19 (h : Rq w b F R S N) (hN : N ≤ 3000000000000) : Calls Tryz.prog 85 #[PT b] w fun e w' => e = .returned (.int .i64 (inter S)) ∧ w' = w := by
  have hw := h.wlen
  obtain ⟨sl, m, cs, rfl, h, h1, h2, h3⟩ := h
  have HC := hid (count35 h)
  rw [h1] at HC
  have c7 := h.rc.cs.c7
  have HN := hid (show 0 ≤ ((S.who.length : Nat) : Int) ∧ ((S.who.length : Nat) : Int) ≤ 3000000000000 by omega)
  unfold inter
  clear h h1 h2 h3 hw hN
  generalize (S.who.length : Int) = n at *
  generalize (S.kept && !S.ended) = B at *
  unfold PT
  unfold PL at HC
  have hwr : IntKind.i64.wrap (n + 1) = n + 1 := by have := HN.out; rw [IntKind.wrap_i64]; omega
  cases B
  · clear hwr
    go_enter Tryz.func85, Tryz.ntmps85
    go_wp2_with (go_at_call 83; refine HC.out.mono ?_; rintro e w2 ⟨rfl, rfl⟩)
    go_ret
    exact ⟨by simp, rfl⟩
  · go_enter Tryz.func85, Tryz.ntmps85
    go_wp2_with (go_at_call 83; refine HC.out.mono ?_; rintro e w2 ⟨rfl, rfl⟩)
    go_ret
    exact ⟨by simp, rfl⟩
theorem cancelled16 (h : Rq w b F R S N) : Calls Tryz.prog 58 #[PT b] w fun e w' => e = .returned (.bool S.canc) ∧ w' = w := by
  obtain ⟨sl, mp, ⟨c0, c1, c2, c3, c4, c5, c6, c7, c8, c9, c10, c11, c12, c13⟩, -⟩ := h.cs
  clear h c0 c1 c2 c3 c4 c5 c6 c7 c9 c10 c11 c12 c13
  generalize S.canc = B at *
  unfold PT
  go_enter Tryz.func58, Tryz.ntmps58
  go_wp2
  go_ret
  exact ⟨rfl, rfl⟩
end
end Go.Proofs.YtpihhlllembdeaaGreat
