/- A slice of acts as an argument, opened; no conditions. -/
import Derived.Test.YtbjnajiicljnbaaRows
import Derived.Test.YtbjnajiicljnbaaBas
import Derived.WalkKit
import Derived.ProofKit
import Derived.OpenShut
import Derived.ShutString
import Derived.Deep.Slices
namespace Go.Proofs.Ytbjnajiicljnbaa
open Go.ChangeShapes Go.WideShapes Go.ChangeAt Go.RowKit
set_option linter.unusedVariables false
/-- What is done: its kind, its token. -/
structure Act where
  kd : Int
  nn : Int
def WfA (a : Act) : Prop := W64 a.kd ∧ W64 a.nn
structure RowA (w : World) (b off : Nat) (xs : List Act) : Prop where
  lt : b < w.heap.size
  c0 : ∀ i (h : i < xs.length), w.cell? ⟨b, off + i * 2, none⟩ = some (.int .i64 xs[i].kd)
  c1 : ∀ i (h : i < xs.length), w.cell? ⟨b, off + i * 2 + 1, none⟩ = some (.int .i64 xs[i].nn)
def SlA (w : World) (v : Value) (xs : List Act) : Prop := (xs = [] ∧ ∃ a c, v = .slice a 0 c) ∨ ∃ b off cap, v = .slice (some ⟨b, off, none⟩) xs.length cap ∧ RowA w b off xs
theorem RowA.keep {w w' : World} {b off : Nat} {xs : List Act} (h : RowA w b off xs) (ht : Touch [] w w') : RowA w' b off xs := by
  have e : w'.heap[b]? = w.heap[b]? := ht.block b h.lt (by simp)
  refine ⟨Nat.lt_of_lt_of_le h.lt ht.size, fun i hi => ?_, fun i hi => ?_⟩
  · rw [World.cell?_of_block (by exact e)]; exact h.c0 i hi
  · rw [World.cell?_of_block (by exact e)]; exact h.c1 i hi
theorem laidOut : laidOutB Try.prog = true := by kernel_rfl
theorem add_plain (b off j : Nat) : (⟨b, off, none⟩ : Addr).add j = ⟨b, off + j, none⟩ := by simp [Addr.add]
theorem cells28 : Try.prog.cellsOf 28 = 2 := by kernel_rfl
set_option maxRecDepth 100000 in
theorem open_acts {H : Type} {enc : TypeId × Value → H} {W : World} {b0 : Nat} {v : Value} {d : DataW H} {p : List MemPlace} (hv : Value.okWide Try.prog W .any b0 22 v) (h : DataW.Trod enc Try.prog W 0 (fun _ => true) true 22 v d p) :
    ∃ xs : List Act, SlA W v xs ∧ (∀ x ∈ xs, WfA x) ∧ (xs = [] ∨ ∃ elems spare, d = .slice elems spare ∧ elems.length = xs.length) := by
  obtain ⟨a, len, cap, rfl⟩ := okWide_slice Try.underlying22 hv
  obtain ⟨fuel, hf⟩ := h
  rcases Deep.open_slice Try.underlying22 hf with ⟨hcs, _⟩ | ⟨x, l, c, m, n, D, Pl, hcs, _, hl, hm, hmm, hx, hall⟩
  · simp [Value.cells] at hcs
    obtain ⟨rfl, rfl, rfl⟩ := hcs
    exact ⟨[], Or.inl ⟨rfl, _, _, rfl⟩, fun x hx => by simp at hx, Or.inl rfl⟩
  · simp [Value.cells] at hcs
    obtain ⟨rfl, rfl, rfl⟩ := hcs
    simp only [if_true] at hmm
    subst hmm
    simp only [Prod.mk.injEq] at hx
    obtain ⟨rfl, rfl⟩ := hx
    rw [cells28] at hall
    have each : ∀ i, i < m → ∃ q : Act, W.cell? (x.add (i * 2)) = some (.int .i64 q.kd) ∧ W.cell? (x.add (i * 2 + 1)) = some (.int .i64 q.nn) ∧ WfA q := fun i hi => by
      obtain ⟨cs', h1, h2⟩ := hall i hi
      obtain ⟨_, hlen, hcell⟩ := World.cells?_some h1
      obtain ⟨ys, k, hk, hxy, _, hyl, hfe⟩ := DataW.trod_struct Try.underlying28 h2
      match cs', hlen with
      | [v0, v1], _ =>
        have hy : ys.length = 2 := hyl
        match ys, hy with
        | [y0, y1], _ =>
          have g0 := hfe 0 _ rfl
          have g1 := hfe 1 _ rfl
          have c3 : Try.prog.cellsOf 3 = 1 := by kernel_rfl
          simp [c3] at g0 g1
          obtain ⟨A, a1, _, wa⟩ := DataW.trod_int Try.underlying3 g0
          obtain ⟨B, b1, _, wb⟩ := DataW.trod_int Try.underlying3 g1
          simp only [List.cons.injEq, and_true] at a1 b1
          subst a1 b1
          have e0 := hcell 0 (by omega)
          have e1 := hcell 1 (by omega)
          rw [Deep.add_add] at e0 e1
          exact ⟨⟨A, B⟩, by simpa using e0, by simpa using e1, wa, wb⟩
    haveI : Inhabited Act := ⟨⟨0, 0⟩⟩
    obtain ⟨q, hq⟩ := Deep.choose_lt each
    rcases Nat.eq_zero_or_pos len with e | e
    · subst e
      exact ⟨[], Or.inl ⟨rfl, _, _, rfl⟩, fun x hx => by simp at hx, Or.inl rfl⟩
    · have hsp : x.spot = none := by
        have h0 := (hq 0 (by omega)).1
        rw [show x.add (0 * 2) = x by simp [Addr.add]] at h0
        unfold World.cell? at h0
        split at h0
        · split at h0
          · cases h0
          · rename_i hs
            cases hh : x.spot with
            | none => rfl
            | some z => rw [hh] at hs; exact absurd rfl hs
        · cases h0
      obtain ⟨b, off, r⟩ := x
      obtain rfl : r = none := hsp
      have hlen : ((List.range len).map q).length = len := by simp
      refine ⟨(List.range len).map q, Or.inr ⟨b, off, m, by rw [hlen], ?_, fun i hi => ?_, fun i hi => ?_⟩, fun y hy => ?_, Or.inr ⟨_, _, rfl, by simp⟩⟩
      · rcases Nat.lt_or_ge b W.heap.size with h | h
        · exact h
        · have h0 := (hq 0 (by omega)).1
          simp [World.cell?, add_plain, Array.getElem?_eq_none h] at h0
      · rw [hlen] at hi
        have h0 := (hq i (by omega)).1
        simpa [add_plain] using h0
      · rw [hlen] at hi
        have h0 := (hq i (by omega)).2.1
        simpa [add_plain, Nat.add_assoc] using h0
      · simp only [List.mem_map, List.mem_range] at hy
        obtain ⟨i, hi, rfl⟩ := hy
        exact (hq i (by omega)).2.2
end Go.Proofs.Ytbjnajiicljnbaa
