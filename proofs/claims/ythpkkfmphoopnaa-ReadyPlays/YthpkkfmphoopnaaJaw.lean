/- Of every schedule, policy and list of acts: with the places that were picked as the schedule the same is told: the walk of the law ReadyAgain; lengths are within the form's reach. -/
import Derived.Test.YthpkkfmphoopnaaJag
import Derived.Test.YthpkkfmphoopnaaJsa
namespace Go.Proofs.Ythpkkfmphoopnaa.Re
open Go.RowKit Go.Maps Go.ChangeMaps
set_option linter.unusedVariables false
set_option linter.unusedSimpArgs false
theorem Ld.done {w w1 : World} {b N : Nat} {S : Rz} {v : Value} {I : List Int} (h : Ld w w1 b S N v I) (hN : N ≤ 8796093022208) (a : ActR) (ha : a.ok) : Calls Try.prog 20 #[PT b, .agg a.cs] w1 fun e w2 => e = .returned (.int .i64 (doneV S a)) ∧ Ld w w2 b (doneS S a) (N + 1) v I := by
  obtain ⟨F, h1, h2, h3, h4, h5⟩ := h
  refine (done_ h1 hN a ha).mono ?_
  rintro e w2 ⟨rfl, q⟩
  exact ⟨rfl, Ld.stepE h1 h2 h3 h4 h5 q⟩
/-- What a step of the second one leaves alone. -/
def Sx (w5 : World) (g : Nat) (a : ActR) (w' : World) : Prop := Touch [] w5 w' ∧ w'.cell? ⟨g, 0, none⟩ = some (.int .i64 a.kd) ∧ w'.cell? ⟨g, 1, none⟩ = some (.int .i64 a.n)
theorem Rf.done {w w1 : World} {b N g : Nat} {S : Rz} {a : ActR} (h : Rf w w1 b S N) (hg : w1.heap[g]? = some (.cells a.cs 38 (0, 0))) (hN : N ≤ 8796093022208) (ha : a.ok) : Calls Try.prog 20 #[PT b, .agg a.cs] w1 fun e w2 => e = .returned (.int .i64 (doneV S a)) ∧ Sx w g a w2 ∧ Rf w w2 b (doneS S a) (N + 1) := by
  obtain ⟨F, h1, h2, h3⟩ := h
  have hn : ¬ g ∈ F := fun e => by
    obtain ⟨v, u, m, t, rfl, h4, h5⟩ := h1
    rcases mem_fpR.1 e with r | r | r | r | r
    · rw [r, h4.hb] at hg; simp at hg
    · exact ow_ne h4.pk hg (by decide) r
    · exact ow_ne h4.ln hg (by decide) r
    · exact mp_ne h4.mp hg r
    · exact ow_ne h4.tl hg (by decide) r
  refine (done_ h1 hN a ha).mono ?_
  rintro e w2 ⟨rfl, F', q1, q2, q3⟩
  have hg2 := q2.keep hg hn
  have ht : Touch [] w w2 := h2.trans q2 (fun q hq => Or.inr (h3 q hq))
  refine ⟨rfl, ⟨ht, cell_at hg2 rfl, cell_at hg2 rfl⟩, F', q1, ht, fun q hq => ?_⟩
  have := h2.size
  rcases q3 q hq with e | e
  · exact h3 q e
  · omega
def pq (p : Int) : Int := (wrap64 (p.tmod 5 + 5)).tmod 5
theorem pq_range (p : Int) : 0 ≤ pq p ∧ pq p < 5 := by
  have h1 := Int.tmod_lt_of_pos p (show (0 : Int) < 5 by decide)
  have h2 := Int.lt_tmod_of_pos p (show (0 : Int) < 5 by decide)
  have e : wrap64 (p.tmod 5 + 5) = p.tmod 5 + 5 := by unfold wrap64; omega
  unfold pq
  rw [e]
  exact ⟨Int.tmod_nonneg 5 (show (0 : Int) ≤ p.tmod 5 + 5 by omega), Int.tmod_lt_of_pos (p.tmod 5 + 5) (show (0 : Int) < 5 by decide)⟩
theorem u64_bounds {z : Int} (h : (Lit.int .u64 z).wf = true) : 0 ≤ z ∧ z < 18446744073709551616 := by
  have h := h
  simp [Lit.wf, IntKind.min, IntKind.max, IntKind.bits, IntKind.signed] at h
  omega
set_option maxHeartbeats 8000000 in
theorem again_no (w : World) (x : SchA) (pol : Int) (v : Value) (hx : Ra w x.u x.xs ∧ x.ok) (hf : ∃ a n c, v = .slice a n c) (h0 : newE x.p x.xs.length ≠ 0) : Calls Try.prog 4 #[.agg x.cs, .int .i64 pol, v] w fun e w' => e = .returned (.bool true) ∧ Touch [] w w' := by
  obtain ⟨av, nv, cv, rfl⟩ := hf
  obtain ⟨s, hs⟩ : ∃ s : Nat, x.s = (s : Int) := ⟨x.s.toNat, by have := u64_bounds hx.2.2.1; omega⟩
  obtain ⟨V, hV⟩ : ∃ V, V = w.alloc (.cells x.cs 25) := ⟨_, rfl⟩
  have tv : Touch [] w V := by rw [hV]; exact (Touch.refl _ _).alloc _
  have hbx : V.heap[w.heap.size]? = some (.cells x.cs 25 (0, 0)) := by rw [hV]; exact heap_alloc_new w _
  have HN := hid (new_no V x.p s x.xs x.u (hx.1.keep0 tv) h0)
  have hz : (newE x.p x.xs.length != 0) = true := by simpa using h0
  obtain ⟨au, cu, eu, _⟩ := hx.1.form
  have i0 := cell_at (j := 0) (v := .int .i64 x.p) hbx rfl
  have i1 := cell_at (j := 1) (v := .int .u64 x.s) hbx rfl
  have i2 := cell_at (j := 2) (v := x.u) hbx rfl
  have TV := hid tv
  unfold SchA.cs at hV ⊢
  rw [hs] at i1 hV ⊢
  rw [eu] at i2 hV HN ⊢
  generalize newE x.p x.xs.length = ek at *
  clear hx h0 hbx tv
  go_enter Try.func4, Try.ntmps4
  go_upto_region 1 with fail
  rw [← hV]
  clear hV
  go_upto_region 2 with (go_at_call 7; refine HN.out.mono ?_; rintro e w1 ⟨rfl, e1⟩; rw [e1]; clear e1 w1)
  clear i0 i1 i2
  go_upto_region 3 with (go_at_call 9; refine (awake_ _).mono ?_; rintro e w2 ⟨rfl, t2⟩; have T2 := hid t2; clear t2)
  go_wp2_with (go_at_call 9; refine (awake_ _).mono ?_; rintro e w3 ⟨rfl, t3⟩; have T3 := hid t3; clear t3)
  go_ret
  exact ⟨rfl, TV.out.trans' (T2.out.trans' T3.out)⟩
end Go.Proofs.Ythpkkfmphoopnaa.Re
