/- The contract of the library's Sort at a row of whole numbers that a call owns. -/
import Derived.Test.YtbjnajiicljnbaaFnd
import Derived.Test.YtbjnajiicljnbaaShf
namespace Go.Proofs.Ytbjnajiicljnbaa
open Go.RowKit Go.Maps Go.ChangeMaps Go.Sort Go.Shelf
set_option linter.unusedVariables false
def ints (l : List Nat) : List Value := l.map (fun n : Nat => Value.int .i64 (n : Int))
theorem ints_len (l : List Nat) : (ints l).length = l.length := by simp [ints]
theorem ints_app (l k : List Nat) : ints (l ++ k) = ints l ++ ints k := by simp [ints]
theorem ints_toI (l : List Nat) : ints l = (toI l).map (Value.int .i64) := by simp [ints, toI]
theorem own_of_cells {w : World} {base e g c n k : Nat} {cur : Array Value} {xs : List Value} (hc : w.heap[g]? = some (.cells cur e (0, 0))) (hg : base ≤ g) (hn : n ≤ c) (hm : c ≤ maxLen) (hs : cur.size = c * k) (hl : xs.length = n * k)
    (h : ∀ p v, xs[p]? = some v → w.cell? ⟨g, p, none⟩ = some v) : w.ownsRow base e k (.slice (some ⟨g, 0, none⟩) n c) n xs := by
  refine ⟨hl, Or.inr ⟨g, c, cur, rfl, hg, hc, hn, hm, hs, ?_⟩⟩
  have hle : n * k ≤ c * k := Nat.mul_le_mul_right k hn
  refine List.ext_getElem (by rw [List.length_take, Array.length_toList]; omega) (fun p h1 h2 => ?_)
  have := h p xs[p] (List.getElem?_eq_getElem h2)
  have e2 : cur[p]? = some xs[p] := by simpa [World.cell?, hc] using this
  have h3 : p < cur.size := by omega
  rw [Array.getElem?_eq_getElem h3] at e2
  rw [List.getElem_take, Array.getElem_toList]
  exact Option.some.inj e2
theorem heap_mapBlock (w : World) (g : Nat) (f : Array Value → Array Value) {cur : Array Value} {e : TypeId} (hc : w.heap[g]? = some (.cells cur e (0, 0))) : (mapBlock w g f).heap[g]? = some (.cells (f cur) e (0, 0)) := by
  simp [mapBlock, Array.getElem?_modify, hc, onCells]
theorem heap_mapBlock_other (w : World) (g k : Nat) (f : Array Value → Array Value) (h : k ≠ g) : (mapBlock w g f).heap[k]? = w.heap[k]? := by
  simp only [mapBlock, Array.getElem?_modify]
  rw [if_neg (fun e => h e.symm)]
theorem own_holds {w : World} {base g c : Nat} {F : List Int} (h : w.ownsRow base 3 1 (.slice (some ⟨g, 0, none⟩) F.length c) F.length (F.map (Value.int .i64))) : Holds (Value.int .i64) w g 0 F.toArray := by
  intro j hj
  simp at hj
  refine ⟨?_, own_frozen h _⟩
  rw [Nat.zero_add]
  exact own_cell h (by simp [hj])
theorem sort_own {w : World} {base g c n' : Nat} {F G : List Int} (os : Array Obj) (h : w.ownsRow base 3 1 (.slice (some ⟨g, 0, none⟩) F.length c) F.length (F.map (Value.int .i64))) (hS : G.length = F.length) :
    (grow (putRow (Value.int .i64) (Go.Sort.ahead w n') g 0 G.toArray) os).ownsRow base 3 1 (.slice (some ⟨g, 0, none⟩) G.length c) G.length (G.map (Value.int .i64)) ∧ Touch [g] w (grow (putRow (Value.int .i64) (Go.Sort.ahead w n') g 0 G.toArray) os) := by
  obtain ⟨cur, hc, hn, hm, hs, ht, hg, hl⟩ := own_block h
  have hH := own_holds h
  have hH2 := holds_putRow (Value.int .i64) (Go.Sort.ahead w n') g 0 F.toArray G.toArray (holds_ahead (Value.int .i64) w n' g 0 F.toArray hH) (by simp [hS])
  have hgs : g < (putRow (Value.int .i64) (Go.Sort.ahead w n') g 0 G.toArray).heap.size := by
    unfold putRow mapBlock Go.Sort.ahead
    simp
    exact block_lt hc
  have hH3 := holds_grow (Value.int .i64) _ os g 0 G.toArray hgs hH2
  have hb : (grow (putRow (Value.int .i64) (Go.Sort.ahead w n') g 0 G.toArray) os).heap[g]? = some (.cells (putCells (Value.int .i64) 0 G.toArray cur) 3 (0, 0)) := by
    rw [heap_grow_old _ _ hgs]
    exact heap_mapBlock (Go.Sort.ahead w n') g _ hc
  refine ⟨own_of_cells hb hg (by rw [hS]; exact hn) hm ?_ (by simp) (fun p v hp => ?_), ?_⟩
  · rw [← hs]
    simp [putCells]
  · have hp' : p < (G.map (Value.int .i64)).length := (List.getElem?_eq_some_iff.1 hp).1
    have hp2 : p < G.length := by simpa using hp'
    have := (hH3 p (by simpa using hp2)).1
    rw [Nat.zero_add] at this
    rw [this]
    rw [List.getElem?_eq_getElem hp'] at hp
    have := Option.some.inj hp
    rw [← this]
    simp [hp2]
  · refine ⟨rfl, rfl, rfl, ?_, fun k hk hn => ?_⟩
    · unfold putRow mapBlock Go.Sort.ahead grow; simp
    · rw [heap_grow_old _ _ (by unfold putRow mapBlock Go.Sort.ahead; simp; exact hk)]
      exact heap_mapBlock_other (Go.Sort.ahead w n') g k _ (by simpa using hn)
theorem sort31 (w : World) (base g c : Nat) (F G : List Nat) (h : w.ownsRow base 3 1 (.slice (some ⟨g, 0, none⟩) F.length c) F.length (ints F)) (hl : F.length ≤ 65536) (hs : (toI F).mergeSort (fun x y => decide (x ≤ y)) = toI G) :
    Calls Try.prog 31 #[.slice (some ⟨g, 0, none⟩) F.length c] w fun e w' => e = .returned (.tuple #[]) ∧ w'.ownsRow base 3 1 (.slice (some ⟨g, 0, none⟩) F.length c) F.length (ints G) ∧ Touch [g] w w' := by
  have e1 : (toI F).length = F.length := by simp [toI]
  have e2 : (toI G).length = F.length := by rw [← hs, List.length_mergeSort, e1]
  rw [ints_toI, ← e1] at h
  obtain ⟨cur, hc, _⟩ := own_block h
  have hcon := Any.slices_Sort_int Try.sortS g 0 c (toI F) w (own_holds h) (block_lt hc) (by rw [e1]; omega)
  change Calls Try.prog 31 _ _ _ at hcon
  rw [e1] at hcon
  refine hcon.mono ?_
  rintro e w' ⟨he, n, os, rfl⟩
  rw [hs]
  obtain ⟨r1, r2⟩ := sort_own (n' := n) (G := toI G) os h (by rw [e2, e1])
  rw [e2, ← ints_toI] at r1
  exact ⟨he, r1, r2⟩
end Go.Proofs.Ytbjnajiicljnbaa
