/- The contract of the library's Delete of one place of a row of whole numbers that a call owns; no conditions but those that it states. -/
import Derived.Test.YthpkkfmphoopnaaJsm
import Derived.Shelf.SlicesE.Delete
namespace Go.Proofs
open Go.Shelf
def Try.delI_ren : Go.Shelf.Ren := ⟨fun | 45 => 37 | n => n, fun | 22 => 23 | 23 => 3 | 3 => 3 | 4 => 4 | 0 => 0 | n => n, fun | n => n⟩
theorem Try.delI : Go.Proofs.SlLaysE.n45 Try.prog Try.delI_ren := {
  mixed := by kernel_rfl
  f45 := ⟨Try.f37.name, by decide, Try.func37.trans (congrArg some (by kernel_rfl))⟩
  t0 := Try.underlying0
  a0 := Try.isAgg0
  z0 := Try.sizeOf0
  v0 := Try.zeroValue0
  t3 := Try.underlying3
  a3 := Try.isAgg3
  z3 := Try.sizeOf3
  v3 := Try.zeroValue3
  t4 := Try.underlying4
  a4 := Try.isAgg4
  z4 := Try.sizeOf4
  v4 := Try.zeroValue4
  t22 := Try.underlying23
  a22 := Try.isAgg23
  z22 := Try.sizeOf23
  v22 := Try.zeroValue23
  a23 := Try.isAgg3
  z23 := Try.sizeOf3 }
end Go.Proofs
namespace Go.Proofs.Ythpkkfmphoopnaa.Re
open Go.RowKit Go.Maps Go.ChangeMaps Go.Sort Go.Shelf
set_option linter.unusedVariables false
theorem heap_mapBlock (w : World) (g : Nat) (f : Array Value → Array Value) {cur : Array Value} {e : TypeId} (hc : w.heap[g]? = some (.cells cur e (0, 0))) : (mapBlock w g f).heap[g]? = some (.cells (f cur) e (0, 0)) := by
  simp [mapBlock, Array.getElem?_modify, hc, onCells]
theorem heap_mapBlock_other (w : World) (g k : Nat) (f : Array Value → Array Value) (h : k ≠ g) : (mapBlock w g f).heap[k]? = w.heap[k]? := by
  simp only [mapBlock, Array.getElem?_modify]
  rw [if_neg (fun e => h e.symm)]
/-- One place is taken out of a row. -/
theorem del_ (w : World) (B : Nat) (v : Value) (xs : List Int) (i : Nat) (hi : i < xs.length) (h : Ow w B v xs) : Calls Try.prog 37 #[v, .int .i64 i, .int .i64 ((i : Int) + 1)] w fun e w' => ∃ a c, e = .returned (.slice a (xs.length - 1) c) ∧ Ow w' B (.slice a (xs.length - 1) c) (xs.eraseIdx i) ∧ Touch v.ownBlock.toList w w' ∧ (Value.slice a (xs.length - 1) c).ownBlock = v.ownBlock := by
  obtain ⟨i0, h0, hz, h1, h2⟩ := info_parts info3
  rcases h with ⟨_, rfl⟩ | ⟨g, off, c, cur, rfl, hBg, hg, hn, hmx, hs, hc⟩
  · simp at hi
  have hH : Holds (Value.int .i64) w g off xs.toArray := fun j hj => by
    simp at hj
    exact ⟨(hc j _ (List.getElem?_eq_getElem hj)).trans (by simp [hj]), by simp [World.frozen?, hg]⟩
  have hcon := AnyE.slices_Delete Try.delI (Value.int .i64) (fun _ => rfl) 0 Try.zeroValue3 i0 h0 h1 g off c i (i + 1) xs.toArray w hH (by simpa using hn) (by unfold maxLen at hmx; omega) (by omega) (by simp; omega)
  change Calls Try.prog 37 _ _ _ at hcon
  have e1 : xs.toArray.size = xs.length := by simp
  rw [e1, show ((i + 1 : Nat) : Int) = (i : Int) + 1 by omega, show i + 1 - i = 1 by omega] at hcon
  refine hcon.mono ?_
  rintro e w' ⟨he, q, rfl⟩
  have e2 : xs.take i ++ xs.drop (i + 1) ++ List.replicate 1 0 = xs.eraseIdx i ++ [0] := by
    rw [List.eraseIdx_eq_take_drop_succ]; rfl
  have e3 : (xs.eraseIdx i).length = xs.length - 1 := List.length_eraseIdx_of_lt hi
  rw [e2]
  have hH2 := holds_putRow (Value.int .i64) (Go.Sort.ahead w q) g off xs.toArray (xs.eraseIdx i ++ [0]).toArray (holds_ahead (Value.int .i64) w q g off xs.toArray hH) (by simp [e3]; omega)
  have hb : (putRow (Value.int .i64) (Go.Sort.ahead w q) g off (xs.eraseIdx i ++ [0]).toArray).heap[g]? = some (.cells (putCells (Value.int .i64) off (xs.eraseIdx i ++ [0]).toArray cur) 3 (0, 0)) := heap_mapBlock (Go.Sort.ahead w q) g _ hg
  refine ⟨_, c, he, Or.inr ⟨g, off, c, _, by rw [e3], hBg, hb, by omega, hmx, by simp [putCells]; omega, fun j r hj => ?_⟩, ⟨rfl, rfl, rfl, ?_, fun k hk hn => ?_⟩, rfl⟩
  · have hj' := (List.getElem?_eq_some_iff.1 hj).1
    rw [(hH2 j (by simp; omega)).1]
    have : (xs.eraseIdx i ++ [0])[j]? = some r := by rw [List.getElem?_append_left hj']; exact hj
    obtain ⟨hl, he⟩ := List.getElem?_eq_some_iff.1 this
    rw [getElem!_pos _ j (by simpa using hl)]
    simp only [List.getElem_toArray, he]
  · unfold putRow mapBlock Go.Sort.ahead; simp
  · exact heap_mapBlock_other (Go.Sort.ahead w q) g k _ (by simpa [Value.ownBlock] using hn)
end Go.Proofs.Ythpkkfmphoopnaa.Re
