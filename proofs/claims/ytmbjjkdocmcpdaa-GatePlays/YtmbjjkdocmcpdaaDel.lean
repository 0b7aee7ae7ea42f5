/- The contract of the library's Delete of one place of a row of pointers that a call owns. -/
import Derived.Test.YtmbjjkdocmcpdaaBig
import Derived.Test.YtmbjjkdocmcpdaaShf
namespace Go.Proofs.Ytmbjjkdocmcpdaa
open Go.RowKit Go.Maps Go.ChangeMaps Go.Sort Go.Shelf
set_option linter.unusedVariables false
theorem own_of_cells {w : World} {base e g c n k : Nat} {cur : Array Value} {xs : List Value} (hc : w.heap[g]? = some (.cells cur e (0, 0))) (hg : base ≤ g) (hn : n ≤ c) (hm : c ≤ maxLen) (hs : cur.size = c * k) (hl : xs.length = n * k)
    (h : ∀ p v, xs[p]? = some v → w.cell? ⟨g, p, none⟩ = some v) : w.ownsRow base e k (.slice (some ⟨g, 0, none⟩) n c) n xs := by
  refine ⟨hl, Or.inr ⟨g, c, cur, rfl, hg, hc, hn, hm, hs, ?_⟩⟩
  have hle : n * k ≤ c * k := Nat.mul_le_mul_right k hn
  refine List.ext_getElem (by rw [List.length_take, Array.length_toList]; omega) (fun p h1 h2 => ?_)
  have := h p xs[p] (List.getElem?_eq_getElem h2)
  have e2 : cur[p]? = some xs[p] := by simpa [World.cell?, hc] using this
  have h3 : p < cur.size := by omega
  rw [Array.getElem?_eq_getElem h3] at e2
  rw [List.getElem_take, Array.getElem_toList]
  exact Option.some.inj e2
theorem heap_mapBlock (w : World) (g : Nat) (f : Array Value → Array Value) {cur : Array Value} {e : TypeId} (hc : w.heap[g]? = some (.cells cur e (0, 0))) : (mapBlock w g f).heap[g]? = some (.cells (f cur) e (0, 0)) := by
  simp [mapBlock, Array.getElem?_modify, hc, onCells]
theorem heap_mapBlock_other (w : World) (g k : Nat) (f : Array Value → Array Value) (h : k ≠ g) : (mapBlock w g f).heap[k]? = w.heap[k]? := by
  simp only [mapBlock, Array.getElem?_modify]
  rw [if_neg (fun e => h e.symm)]
def pts (ps : List (Option Addr)) : List Value := ps.map Value.pointer
theorem own_holds {w : World} {base g c : Nat} {ps : List (Option Addr)} (h : w.ownsRow base 71 1 (.slice (some ⟨g, 0, none⟩) ps.length c) ps.length (pts ps)) : Holds Value.pointer w g 0 ps.toArray := by
  intro j hj
  simp at hj
  refine ⟨?_, own_frozen h _⟩
  rw [Nat.zero_add]
  exact own_cell h (by simp [pts, hj])
theorem info71 : (Try.prog.info? 71).map (fun i => (i.zero, i.size, i.bytes)) = some (some (.pointer none), 1, 8) := by kernel_rfl
theorem putrow_own {w : World} {base g c n' m : Nat} {ps qs : List (Option Addr)} (h : w.ownsRow base 71 1 (.slice (some ⟨g, 0, none⟩) ps.length c) ps.length (pts ps)) (hS : qs.length = ps.length) (hm : m ≤ ps.length) :
    (putRow Value.pointer (Go.Sort.ahead w n') g 0 qs.toArray).ownsRow base 71 1 (.slice (some ⟨g, 0, none⟩) m c) m (pts (qs.take m)) ∧ Touch [g] w (putRow Value.pointer (Go.Sort.ahead w n') g 0 qs.toArray) := by
  obtain ⟨cur, hc, hn, hmx, hs, ht, hg, hl⟩ := own_block h
  have hH := own_holds h
  have hH2 := holds_putRow Value.pointer (Go.Sort.ahead w n') g 0 ps.toArray qs.toArray (holds_ahead Value.pointer w n' g 0 ps.toArray hH) (by simp [hS])
  have hb : (putRow Value.pointer (Go.Sort.ahead w n') g 0 qs.toArray).heap[g]? = some (.cells (putCells Value.pointer 0 qs.toArray cur) 71 (0, 0)) := heap_mapBlock (Go.Sort.ahead w n') g _ hc
  refine ⟨own_of_cells hb hg (by omega) hmx ?_ (by simp [pts]; omega) (fun p v hp => ?_), ?_⟩
  · rw [← hs]
    simp [putCells]
  · have hp' : p < (pts (qs.take m)).length := (List.getElem?_eq_some_iff.1 hp).1
    have hp2 : p < m ∧ p < qs.length := by simp [pts] at hp'; omega
    have := (hH2 p (by simpa using hp2.2)).1
    rw [Nat.zero_add] at this
    rw [this]
    rw [List.getElem?_eq_getElem hp'] at hp
    have := Option.some.inj hp
    rw [← this]
    simp [pts, hp2.2]
  · refine ⟨rfl, rfl, rfl, ?_, fun k hk hn => ?_⟩
    · unfold putRow mapBlock Go.Sort.ahead; simp
    · exact heap_mapBlock_other (Go.Sort.ahead w n') g k _ (by simpa using hn)
theorem del42 (w : World) (base g c : Nat) (ps : List (Option Addr)) (i : Nat) (hi : i < ps.length) (h : w.ownsRow base 71 1 (.slice (some ⟨g, 0, none⟩) ps.length c) ps.length (pts ps)) :
    Calls Try.prog 42 #[.slice (some ⟨g, 0, none⟩) ps.length c, .int .i64 i, .int .i64 ((i : Int) + 1)] w fun e w' => e = .returned (.slice (some ⟨g, 0, none⟩) (ps.length - 1) c) ∧ w'.ownsRow base 71 1 (.slice (some ⟨g, 0, none⟩) (ps.length - 1) c) (ps.length - 1) (pts (ps.eraseIdx i)) ∧ Touch [g] w w' := by
  obtain ⟨i0, h0, hz, h1, h2⟩ := info_parts info71
  obtain ⟨cur, hc, hn, hmx, hs, ht, hg, hl⟩ := own_block h
  have hcon := AnyE.slices_Delete Try.delS Value.pointer (fun _ => rfl) none Try.zeroValue71 i0 h0 h1 g 0 c i (i + 1) ps.toArray w (own_holds h) (by simpa using hn) (by unfold maxLen at hmx; omega) (by omega) (by simp; omega)
  change Calls Try.prog 42 _ _ _ at hcon
  have e1 : ps.toArray.size = ps.length := by simp
  rw [e1, show ((i + 1 : Nat) : Int) = (i : Int) + 1 by omega, show i + 1 - i = 1 by omega] at hcon
  refine hcon.mono ?_
  rintro e w' ⟨he, q, rfl⟩
  have e2 : ps.take i ++ ps.drop (i + 1) ++ List.replicate 1 none = ps.eraseIdx i ++ [none] := by
    rw [List.eraseIdx_eq_take_drop_succ]; rfl
  have e3 : (ps.eraseIdx i).length = ps.length - 1 := List.length_eraseIdx_of_lt hi
  obtain ⟨r1, r2⟩ := putrow_own (n' := q) (m := ps.length - 1) (qs := ps.eraseIdx i ++ [none]) h (by simp [e3]; omega) (by omega)
  refine ⟨he, ?_, ?_⟩
  · rw [e2]
    rw [List.take_left' e3] at r1
    exact r1
  · rw [e2]
    exact r2
end Go.Proofs.Ytmbjjkdocmcpdaa
