/- What stands between the steps of one act of the law: the boxes, the seats and the document's, and how an act ends; no conditions. -/
import Derived.Test.YtlmmljmhfghlnaaVnl
import Derived.Test.YtlmmljmhfghlnaaVdm
import Derived.Test.YtlmmljmhfghlnaaVop
namespace Go.Proofs.Ytlmmljmhfghlnaa
open Go.RowKit Go.Maps Go.ChangeMaps
set_option linter.unusedVariables false
set_option linter.unusedSimpArgs false
theorem Dd.other {w w' : World} {u v : Value} {L : List Se} {G : List Int} {F : List Nat} (h : Dd w u v L G) (T : Touch F w w') (hF : ∀ q, q ∈ F → Own1 w q) : Dd w' u v L G := ⟨h.u.other T hF (by decide) (by decide), h.v.other T hF (by decide) (by decide)⟩
def stpL (L : List Se) (G : List Int) (a : ActV) : List Se := if a.kd = 0 then sitL L G a.st.se else if a.kd = 1 then outL 0 a.st.ca L else if a.kd = 2 then outL 1 a.st.rn L else if a.kd = 3 then canL L a.st.tk else L
def stpG (G : List Int) (a : ActV) : List Int := if a.kd = 3 then canG G a.st.tk else G
def OnQ (w w' : World) (F : List Nat) (L : List Se) (G : List Int) (N s : Nat) (u v : Value) : Prop := ∃ F', Sq w' s F' L G (N + 1) ∧ Dd w' u v L G ∧ Touch F w w' ∧ Nf w F F'
def OnE (e : Ending) (w w' : World) (F : List Nat) (L : List Se) (G : List Int) (N : Nat) : Prop := ∃ s a n c a' n' c', e = .returned (.tuple #[PT s, .agg #[.slice a n c, .slice a' n' c'], .bool true]) ∧ OnQ w w' F L G N s (.slice a n c) (.slice a' n' c')
theorem on_fin {w V w2 w3 W4 W5 : World} {s b2 N : Nat} {F F2 : List Nat} {L : List Se} {G : List Int} {u v : Value} {cs : Array Value} {z : Nat × Nat} (hF : ∀ q, q ∈ F → q < w.heap.size) (tv : Touch [] w V) (hb : w.heap.size ≤ b2) (hb' : b2 < V.heap.size) (hbx : W4.heap[b2]? = some (.cells cs 29 z))
    (q1 : Sq w2 s F2 L G (N + 1)) (q2 : Touch F V w2) (q3 : Nf V F F2) (r1 : Dd w3 u v L G) (r3 : Touch [] w2 w3) (t4 : Touch [] w3 W4) (t5 : Touch [b2] W4 W5) : OnQ w W5 F L G N s u v := by
  have hn : ¬ b2 ∈ F2 := fun e => by
    rcases q3 _ e with q | q
    · have := hF _ q; omega
    · omega
  refine ⟨F2, (q1.keep0 (r3.trans' t4)).keep t5 (fun d hd e => ?_), (r1.keep0 t4).box hbx t5, ?_, ?_⟩
  · simp only [List.mem_singleton] at e; rw [e] at hd; exact hn hd
  · have x1 : Touch F w w2 := (tv.mono (fun _ q => by cases q)).trans' q2
    have x2 : Touch F w W4 := x1.trans (r3.trans' t4) (fun _ q => by cases q)
    exact x2.trans t5 (fun i hi => Or.inr (by simp at hi; omega))
  · exact fun d hd => (q3 d hd).elim Or.inl (fun q => Or.inr (Nat.le_trans tv.size q))
def z2 : Array Value := #[.slice none 0 0, .slice none 0 0]
theorem boxA (w : World) (u v : Value) (x : ActV) (V : World) (hV : V = ((w.alloc (.cells #[u, v] 29)).alloc (.cells x.cs 35)).alloc (.cells z2 29)) : Touch [] w V ∧ w.heap.size + 2 < V.heap.size ∧ V.heap[w.heap.size]? = some (.cells #[u, v] 29 (0, 0)) ∧ V.heap[w.heap.size + 1]? = some (.cells x.cs 35 (0, 0)) ∧ V.heap[w.heap.size + 2]? = some (.cells z2 29 (0, 0)) := by
  have hb0 : V.heap[w.heap.size]? = some (.cells #[u, v] 29 (0, 0)) := by rw [hV]; exact (((Touch.refl [] _).alloc _).alloc _).keep (heap_alloc_new w _) (by simp)
  have hb1 : V.heap[w.heap.size + 1]? = some (.cells x.cs 35 (0, 0)) := by
    rw [hV]
    have := heap_alloc_new (w.alloc (.cells #[u, v] 29)) (.cells x.cs 35)
    rw [World.size_alloc] at this
    exact ((Touch.refl [] _).alloc _).keep this (by simp)
  have hb2 : V.heap[w.heap.size + 2]? = some (.cells z2 29 (0, 0)) := by
    rw [hV]
    have := heap_alloc_new ((w.alloc (.cells #[u, v] 29)).alloc (.cells x.cs 35)) (.cells z2 29)
    rwa [World.size_alloc, World.size_alloc] at this
  exact ⟨by rw [hV]; exact (((Touch.refl _ _).alloc _).alloc _).alloc _, block_lt hb2, hb0, hb1, hb2⟩
/-- The boxes, as they are read. -/
structure Bx (w w' : World) (u v : Value) (x : ActV) : Prop where
  b0 : w'.cell? ⟨w.heap.size, 0, none⟩ = some u
  b1 : w'.cell? ⟨w.heap.size, 1, none⟩ = some v
  i0 : w'.cell? ⟨w.heap.size + 1, 0, none⟩ = some (.int .i64 x.kd)
  i1 : w'.cell? ⟨w.heap.size + 1, 1, none⟩ = some (.int .i64 x.st.ca)
  i2 : w'.cell? ⟨w.heap.size + 1, 2, none⟩ = some (.int .i64 x.st.rn)
  i3 : w'.cell? ⟨w.heap.size + 1, 3, none⟩ = some (.int .i64 x.st.tk)
  d0 : w'.cell? ⟨w.heap.size + 2, 0, none⟩ = some (.slice none 0 0)
  d1 : w'.cell? ⟨w.heap.size + 2, 1, none⟩ = some (.slice none 0 0)
  gg : ∀ j, w'.frozen? ⟨w.heap.size + 2, j, none⟩ = false
  bx : w'.heap[w.heap.size + 2]? = some (.cells z2 29 (0, 0))
theorem bx_of {w V w' : World} {u v : Value} {x : ActV} {F : List Nat} (hF : ∀ q, q ∈ F → q < w.heap.size) (h0 : V.heap[w.heap.size]? = some (.cells #[u, v] 29 (0, 0))) (h1 : V.heap[w.heap.size + 1]? = some (.cells x.cs 35 (0, 0))) (h2 : V.heap[w.heap.size + 2]? = some (.cells z2 29 (0, 0))) (T : Touch F V w') : Bx w w' u v x := by
  have k0 := T.keep h0 (fun e => by have := hF _ e; omega)
  have k1 := T.keep h1 (fun e => by have := hF _ e; omega)
  have k2 := T.keep h2 (fun e => by have := hF _ e; omega)
  exact ⟨cell_at k0 rfl, cell_at k0 rfl, cell_at k1 rfl, cell_at k1 rfl, cell_at k1 rfl, cell_at k1 rfl, cell_at k2 rfl, cell_at k2 rfl, froz_at k2, k2⟩
end Go.Proofs.Ytlmmljmhfghlnaa
