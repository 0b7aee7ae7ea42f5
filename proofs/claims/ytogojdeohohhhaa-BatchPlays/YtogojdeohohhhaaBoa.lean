/- What stands between the steps of one act of the law: the boxes, the batch and the document's, and how an act ends. -/
import Derived.Test.YtogojdeohohhhaaBrs
import Derived.Test.YtogojdeohohhhaaBse
import Derived.Test.YtogojdeohohhhaaBop
namespace Go.Proofs.Ytogojdeohohhhaa
open Go.RowKit Go.Maps Go.ChangeMaps
set_option linter.unusedVariables false
set_option linter.unusedSimpArgs false
theorem Rd.keepN {w w' : World} {v : Value} {xs : List Int} {F : List Nat} (h : Rd w v xs) (T : Touch F w w') (hF : xs ≠ [] → ∀ b, v.ownBlock = some b → ¬ b ∈ F) : Rd w' v xs := by
  obtain ⟨a, c, rfl, h1, h2, h0, h3⟩ := h
  refine ⟨a, c, rfl, h1, h2, h0, ?_⟩
  rcases h3 with e | ⟨b, cur, e, z, rfl, hb, hc⟩
  · exact Or.inl e
  · by_cases hx : xs = []
    · exact Or.inl hx
    · exact Or.inr ⟨b, cur, e, z, rfl, T.keep hb (hF hx b rfl), hc⟩
theorem Rd.blt {w : World} {v : Value} {xs : List Int} (h : Rd w v xs) (hx : xs ≠ []) {b : Nat} (hb : v.ownBlock = some b) : b < w.heap.size := by
  obtain ⟨a, c, rfl, h1, h2, h0, h3⟩ := h
  rcases h3 with e | ⟨b', cur, e, z, rfl, hb', hc⟩
  · exact absurd e hx
  · simp only [Value.ownBlock, Option.some.injEq] at hb
    subst hb
    exact block_lt hb'
/-- The document's slice lies apart from the batch. -/
def Ap (xs : List Int) (u : Value) (F : List Nat) : Prop := xs ≠ [] → ∀ q, u.ownBlock = some q → ¬ q ∈ F
def stepB (S : Bs) (a : ActB) : Bs := if a.kd = 0 then addS S a.nw a.rn else if a.kd = 1 then sendS S a.nw else if a.kd = 2 then forceS S else S
def OnQ (w w' : World) (F : List Nat) (S : Bs) (N b : Nat) (u : Value) : Prop := ∃ F', Bq w' b F' S (N + 1) ∧ Rd w' u S.run ∧ Ap S.run u F' ∧ Touch F w w' ∧ Nf w F F'
def OnE (e : Ending) (w w' : World) (F : List Nat) (S : Bs) (N : Nat) : Prop := ∃ b u, e = .returned (.tuple #[PT b, dv u S, .bool true]) ∧ (∃ a n c, u = .slice a n c) ∧ OnQ w w' F S N b u
theorem un_ap {w w3 : World} {u u' : Value} {xs ys : List Int} (hu : Rd w u xs) (hu' : Rd w3 u' ys) (h : u' = u) (hy : ys ≠ []) : xs ≠ [] := by
  obtain ⟨a, c, e, _⟩ := hu
  obtain ⟨a', c', e', _⟩ := hu'
  rw [e, e'] at h
  simp only [Value.slice.injEq] at h
  intro q
  rw [q] at h
  exact hy (List.length_eq_zero_iff.1 h.2.1)
theorem on_fin {w V w2 w3 W4 W5 : World} {b b2 N : Nat} {F F2 : List Nat} {S S' : Bs} {u u' : Value} (h : Bq w b F S N) (hu : Rd w u S.run) (ap : Ap S.run u F) (tv : Touch [] w V) (hb : w.heap.size ≤ b2) (hb' : b2 < V.heap.size)
    (q1 : Bq w2 b F2 S' (N + 1)) (q2 : Touch F V w2) (q3 : Nf V F F2) (r1 : Rd w3 u' S'.run) (r2 : Un w2 u u') (r3 : Touch [] w2 w3) (t4 : Touch [] w3 W4) (t5 : Touch [b2] W4 W5) : OnQ w W5 F S' N b u' := by
  have hF : ∀ d, d ∈ F2 → d ∈ F ∨ V.heap.size ≤ d := q3
  have hlt := h.lt
  have hn : ¬ b2 ∈ F2 := fun e => by
    rcases hF _ e with q | q
    · have := hlt _ q; omega
    · omega
  refine ⟨F2, (q1.keep0 (r3.trans' t4)).keep t5 (fun d hd e => ?_), (r1.keep0 t4).keepN t5 (fun hx q hq e => ?_), fun hx q hq e => ?_, ?_, ?_⟩
  · simp only [List.mem_singleton] at e; rw [e] at hd; exact hn hd
  · simp only [List.mem_singleton] at e
    rcases r2 with r2 | r2
    · have := hu.blt (un_ap hu r1 r2 hx) (by rw [← r2]; exact hq)
      omega
    · have := r2 q hq
      have := q2.size
      omega
  · rcases r2 with r2 | r2
    · have hne := un_ap hu r1 r2 hx
      rw [r2] at hq
      rcases hF _ e with q' | q'
      · exact ap hne q hq q'
      · have := hu.blt hne hq
        have := tv.size
        omega
    · have := r2 q hq
      have := q1.lt q e
      omega
  · have x1 : Touch F w w2 := (tv.mono (fun _ q => by cases q)).trans' q2
    have x2 : Touch F w W4 := x1.trans (r3.trans' t4) (fun _ q => by cases q)
    exact x2.trans t5 (fun i hi => Or.inr (by simp at hi; omega))
  · exact fun d hd => (hF d hd).elim Or.inl (fun q => Or.inr (Nat.le_trans tv.size q))
theorem boxA (w : World) (u : Value) (S : Bs) (a : ActB) (V : World) (hV : V = ((w.alloc (.cells (dc u S) 31)).alloc (.cells a.cs 35)).alloc (.cells zd 31)) : Touch [] w V ∧ w.heap.size + 2 < V.heap.size ∧ V.heap[w.heap.size]? = some (.cells (dc u S) 31 (0, 0)) ∧ V.heap[w.heap.size + 1]? = some (.cells a.cs 35 (0, 0)) ∧ V.heap[w.heap.size + 2]? = some (.cells (dc (.slice none 0 0) Sz) 31 (0, 0)) := by
  have hb0 : V.heap[w.heap.size]? = some (.cells (dc u S) 31 (0, 0)) := by rw [hV]; exact (((Touch.refl [] _).alloc _).alloc _).keep (heap_alloc_new w _) (by simp)
  have hb1 : V.heap[w.heap.size + 1]? = some (.cells a.cs 35 (0, 0)) := by
    rw [hV]
    have := heap_alloc_new (w.alloc (.cells (dc u S) 31)) (.cells a.cs 35)
    rw [World.size_alloc] at this
    exact ((Touch.refl [] _).alloc _).keep this (by simp)
  have hb2 : V.heap[w.heap.size + 2]? = some (.cells (dc (.slice none 0 0) Sz) 31 (0, 0)) := by
    rw [hV]
    have := heap_alloc_new ((w.alloc (.cells (dc u S) 31)).alloc (.cells a.cs 35)) (.cells zd 31)
    rwa [World.size_alloc, World.size_alloc] at this
  exact ⟨by rw [hV]; exact (((Touch.refl _ _).alloc _).alloc _).alloc _, block_lt hb2, hb0, hb1, hb2⟩
/-- The program's step and the document's, side by side. -/
def StP (w V w2 w3 : World) (b : Nat) (F : List Nat) (S' : Bs) (N : Nat) (ls : List Int) (v u' o : Value) : Prop := Rd w3 v ls ∧ Rd w3 o ls ∧ Touch F V w3 ∧ ∀ W4 W5, Touch [] w3 W4 → Touch [w.heap.size + 2] W4 W5 → OnQ w W5 F S' N b u'
theorem StP.mk {w V w2 w3 : World} {b N : Nat} {F : List Nat} {S S' : Bs} {ls : List Int} {v u u' o : Value} (h : Bq w b F S N) (hu : Rd w u S.run) (ap : Ap S.run u F) (tv : Touch [] w V) (hz : w.heap.size + 2 < V.heap.size)
    (q : BqE V w2 b F S' (N + 1) ls v) (r1 : Rd w3 u' S'.run) (r2 : Un w2 u u') (r3 : Touch [] w2 w3) (r4 : Rd w3 o ls) : StP w V w2 w3 b F S' N ls v u' o := by
  obtain ⟨⟨F2, q1, q2, q3⟩, q4, q5⟩ := q
  exact ⟨q4.keep0 r3, r4, q2.trans r3 (fun _ e => by cases e), fun W4 W5 t4 t5 => on_fin h hu ap tv (by omega) hz q1 q2 q3 r1 r2 r3 t4 t5⟩
end Go.Proofs.Ytogojdeohohhhaa
