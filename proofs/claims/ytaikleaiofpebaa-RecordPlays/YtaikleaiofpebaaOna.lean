/- What stands between the steps of one act of the law: the boxes, the record and the document's, and how an act ends. -/
import Derived.Test.YtaikleaiofpebaaNiw
import Derived.Test.YtaikleaiofpebaaCpy
import Derived.Test.YtaikleaiofpebaaRfc
import Derived.Test.YtaikleaiofpebaaRfd
import Derived.Test.YtaikleaiofpebaaRfe
namespace Go.Proofs.Ytaikleaiofpebaa
open Go.RowKit Go.Maps Go.ChangeMaps
set_option linter.unusedVariables false
set_option linter.unusedSimpArgs false
section
variable {P : Program} {ops : Array Oper} {Q : Exit → Act → World → Prop} {md : Region.Mode} {S : World → Prop}
def AllH (P : Program) (md : Region.Mode) (ops : Array Oper) (Q : Exit → Act → World → Prop) (S : World → Prop) (fuel : Nat) (listed : Array Bool) (a : Act) (w : World) (rs : List Nat) : Prop :=
  ∀ i ∈ rs, wpOp P ops Q i (fun a' w' => S w' ∧ wpAnyH P md ops Q S fuel (listed.setIfInBounds i true) a' w') a w
theorem AllH.nil {fuel : Nat} {listed : Array Bool} {a : Act} {w : World} : AllH P md ops Q S fuel listed a w [] := fun _ h => by cases h
theorem AllH.cons {fuel : Nat} {listed : Array Bool} {a : Act} {w : World} {i : Nat} {o : Oper} {rs : List Nat} (ho : ops[i]? = some o)
    (h : ∀ K' : Act → World → Prop, Shut (∀ a w, S w → wpAnyH P md ops Q S fuel (listed.setIfInBounds i true) a w → K' a w) → if Region.wanted o (yielded ops a.tmps) = true then Oper.wp P o a w K' Q else K' (a.put o.dst undef) w)
    (hs : AllH P md ops Q S fuel listed a w rs) : AllH P md ops Q S fuel listed a w (i :: rs) := fun j hj => by
  rcases List.mem_cons.1 hj with rfl | hj
  · exact wpOp_step ho (fun K' hK => h K' (fun a w hS hW => hK a w ⟨hS, hW⟩))
  · exact hs j hj
theorem wpH_ready {rs : List Nat} {fuel : Nat} {listed : Array Bool} {a : Act} {w : World} (hr : Region.ready md ops listed = rs) (hne : rs ≠ [])
    (h : AllH P md ops Q S fuel listed a w rs) : wpAnyH P md ops Q S (fuel + 1) listed a w := wpAnyH_all hr hne h
end
theorem Rd.keepN {w w' : World} {v : Value} {xs : List Int} {F : List Nat} (h : Rd w v xs) (T : Touch F w w') (hF : xs ≠ [] → ∀ b, v.ownBlock = some b → ¬ b ∈ F) : Rd w' v xs := by
  obtain ⟨a, c, rfl, h1, h2, h0, h3⟩ := h
  refine ⟨a, c, rfl, h1, h2, h0, ?_⟩
  rcases h3 with e | ⟨b, cur, e, z, rfl, hb, hc⟩
  · exact Or.inl e
  · by_cases hx : xs = []
    · exact Or.inl hx
    · exact Or.inr ⟨b, cur, e, z, rfl, T.keep hb (hF hx b rfl), hc⟩
theorem Rd.blt {w : World} {v : Value} {xs : List Int} (h : Rd w v xs) (hx : xs ≠ []) {b : Nat} (hb : v.ownBlock = some b) : b < w.heap.size := by
  obtain ⟨a, c, rfl, h1, h2, h0, h3⟩ := h
  rcases h3 with e | ⟨b', cur, e, z, rfl, hb', hc⟩
  · exact absurd e hx
  · simp only [Value.ownBlock, Option.some.injEq] at hb
    subst hb
    exact block_lt hb'
/-- The document's slice lies apart from the record. -/
def Ap (xs : List Int) (u : Value) (F : List Nat) : Prop := xs ≠ [] → ∀ q, u.ownBlock = some q → ¬ q ∈ F
def stepS (S : St) (a : ActR) : St := if a.kd = 0 then joinS S a.cl else if a.kd = 1 then leaveS S a.cl else if a.kd = 2 then relS S else if a.kd = 3 then endS S a.o else S
def OnQ (w w' : World) (F : List Nat) (R : Rn) (S : St) (N b : Nat) (u : Value) : Prop := ∃ F', Rq w' b F' R S (N + 1) ∧ Rd w' u S.who ∧ Ap S.who u F' ∧ Touch F w w' ∧ Nf w F F'
def OnE (e : Ending) (w w' : World) (F : List Nat) (R : Rn) (S : St) (N : Nat) : Prop := ∃ b u, e = .returned (.tuple #[PT b, dv u S, .bool true]) ∧ OnQ w w' F R S N b u
theorem un_ap {w w2 w3 : World} {u u' : Value} {xs ys : List Int} (hu : Rd w u xs) (hu' : Rd w3 u' ys) (h : u' = u) (hy : ys ≠ []) : xs ≠ [] := by
  obtain ⟨a, c, e, _⟩ := hu
  obtain ⟨a', c', e', _⟩ := hu'
  rw [e, e'] at h
  simp only [Value.slice.injEq] at h
  intro q
  rw [q] at h
  exact hy (List.length_eq_zero_iff.1 h.2.1)
theorem on_fin {w V w2 w3 W4 W5 : World} {b b2 N N1 : Nat} {F F2 : List Nat} {R : Rn} {S S' : St} {u u' : Value} (h : Rq w b F R S N) (hu : Rd w u S.who) (ap : Ap S.who u F) (tv : Touch [] w V) (hb : w.heap.size ≤ b2) (hb' : b2 < V.heap.size)
    (q1 : Rq w2 b F2 R S' N1) (hN : N1 ≤ N + 1) (q2 : Touch F V w2) (q3 : Nf V F F2) (r1 : Rd w3 u' S'.who) (r2 : Un w2 u u') (r3 : Touch [] w2 w3) (t4 : Touch [] w3 W4) (t5 : Touch [b2] W4 W5) : OnQ w W5 F R S' N b u' := by
  have hF : ∀ d, d ∈ F2 → d ∈ F ∨ V.heap.size ≤ d := q3
  have hlt := h.lt
  have hn : ¬ b2 ∈ F2 := fun e => by
    rcases hF _ e with q | q
    · have := hlt _ q; omega
    · omega
  refine ⟨F2, ((q1.keep0 (r3.trans' t4)).keep t5 (fun d hd e => ?_)).mono hN, (r1.keep0 t4).keepN t5 (fun hx q hq e => ?_), fun hx q hq e => ?_, ?_, ?_⟩
  · simp only [List.mem_singleton] at e; rw [e] at hd; exact hn hd
  · simp only [List.mem_singleton] at e
    rcases r2 with r2 | r2
    · have := hu.blt (un_ap (w2 := w2) hu r1 r2 hx) (by rw [← r2]; exact hq)
      omega
    · have := r2 q hq
      have := q2.size
      omega
  · rcases r2 with r2 | r2
    · have hne := un_ap (w2 := w2) hu r1 r2 hx
      rw [r2] at hq
      rcases hF _ e with q' | q'
      · exact ap hne q hq q'
      · have := hu.blt hne hq
        have := tv.size
        omega
    · have := r2 q hq
      have := q1.lt q e
      omega
  · have x1 : Touch F w w2 := (tv.mono (fun _ q => by cases q)).trans' q2
    have x2 : Touch F w W4 := x1.trans (r3.trans' t4) (fun _ q => by cases q)
    exact x2.trans t5 (fun i hi => Or.inr (by simp at hi; omega))
  · exact fun d hd => (hF d hd).elim Or.inl (fun q => Or.inr (Nat.le_trans tv.size q))
theorem boxA (w : World) (u : Value) (S : St) (a : ActR) (V : World) (hV : V = ((w.alloc (.cells (dc u S) 39)).alloc (.cells (ca a) 46)).alloc (.cells z39 39)) : Touch [] w V ∧ w.heap.size + 2 < V.heap.size ∧ V.heap[w.heap.size]? = some (.cells (dc u S) 39 (0, 0)) ∧ V.heap[w.heap.size + 1]? = some (.cells (ca a) 46 (0, 0)) ∧ V.heap[w.heap.size + 2]? = some (.cells z39 39 (0, 0)) := by
  have hb0 : V.heap[w.heap.size]? = some (.cells (dc u S) 39 (0, 0)) := by rw [hV]; exact (((Touch.refl [] _).alloc _).alloc _).keep (heap_alloc_new w _) (by simp)
  have hb1 : V.heap[w.heap.size + 1]? = some (.cells (ca a) 46 (0, 0)) := by
    rw [hV]
    have := heap_alloc_new (w.alloc (.cells (dc u S) 39)) (.cells (ca a) 46)
    rw [World.size_alloc] at this
    exact ((Touch.refl [] _).alloc _).keep this (by simp)
  have hb2 : V.heap[w.heap.size + 2]? = some (.cells z39 39 (0, 0)) := by
    rw [hV]
    have := heap_alloc_new ((w.alloc (.cells (dc u S) 39)).alloc (.cells (ca a) 46)) (.cells z39 39)
    rwa [World.size_alloc, World.size_alloc] at this
  exact ⟨by rw [hV]; exact (((Touch.refl _ _).alloc _).alloc _).alloc _, block_lt hb2, hb0, hb1, hb2⟩
end Go.Proofs.Ytaikleaiofpebaa
