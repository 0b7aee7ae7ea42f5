/- An act, and a slice of acts, as an argument, opened; no conditions. -/
import Derived.Test.YtmbjjkdocmcpdaaRows
import Derived.Test.YtmbjjkdocmcpdaaBas
import Derived.WalkKit
import Derived.ProofKit
import Derived.OpenShut
import Derived.ShutString
import Derived.Deep.Slices
namespace Go.Proofs.Ytmbjjkdocmcpdaa
open Go.ChangeShapes Go.WideShapes Go.ChangeAt Go.RowKit
set_option linter.unusedVariables false
/-- What is done: its kind, its gate, who, how many. -/
structure Act where
  kd : Int
  gt : Int
  who : Int
  nn : Int
def WfA (a : Act) : Prop := W64 a.kd ∧ W64 a.gt ∧ W64 a.who ∧ W64 a.nn
def cellsA (a : Act) : Array Value := #[.int .i64 a.kd, .int .i64 a.gt, .int .i64 a.who, .int .i64 a.nn]
structure RowA (w : World) (b off : Nat) (xs : List Act) : Prop where
  lt : b < w.heap.size
  c0 : ∀ i (h : i < xs.length), w.cell? ⟨b, off + i * 4, none⟩ = some (.int .i64 xs[i].kd)
  c1 : ∀ i (h : i < xs.length), w.cell? ⟨b, off + i * 4 + 1, none⟩ = some (.int .i64 xs[i].gt)
  c2 : ∀ i (h : i < xs.length), w.cell? ⟨b, off + i * 4 + 2, none⟩ = some (.int .i64 xs[i].who)
  c3 : ∀ i (h : i < xs.length), w.cell? ⟨b, off + i * 4 + 3, none⟩ = some (.int .i64 xs[i].nn)
def SlA (w : World) (v : Value) (xs : List Act) : Prop := (xs = [] ∧ ∃ a c, v = .slice a 0 c) ∨ ∃ b off cap, v = .slice (some ⟨b, off, none⟩) xs.length cap ∧ RowA w b off xs
theorem RowA.keep {w w' : World} {b off : Nat} {xs : List Act} (h : RowA w b off xs) (ht : Touch [] w w') : RowA w' b off xs := by
  have e : w'.heap[b]? = w.heap[b]? := ht.block b h.lt (by simp)
  refine ⟨Nat.lt_of_lt_of_le h.lt ht.size, fun i hi => ?_, fun i hi => ?_, fun i hi => ?_, fun i hi => ?_⟩
  · rw [World.cell?_of_block (by exact e)]; exact h.c0 i hi
  · rw [World.cell?_of_block (by exact e)]; exact h.c1 i hi
  · rw [World.cell?_of_block (by exact e)]; exact h.c2 i hi
  · rw [World.cell?_of_block (by exact e)]; exact h.c3 i hi
theorem laidOut : laidOutB Try.prog = true := by kernel_rfl
theorem add_plain (b off j : Nat) : (⟨b, off, none⟩ : Addr).add j = ⟨b, off + j, none⟩ := by simp [Addr.add]
theorem cells31 : Try.prog.cellsOf 31 = 4 := by kernel_rfl
theorem fields31 {H : Type} {enc : TypeId × Value → H} {W : World} {base fuel : Nat} {spare : Nat → Bool} {held : Bool} {cs : List Value} {x : DataW H × List MemPlace} (h : DataW.trod enc Try.prog W base spare held fuel 31 cs = some x) (hl : cs.length = 4) : ∃ a : Act, cs = (cellsA a).toList ∧ WfA a := by
  obtain ⟨ys, k, hk, hxy, _, hyl, hfe⟩ := DataW.trod_struct Try.underlying31 h
  match cs, hl with
  | [v0, v1, v2, v3], _ =>
    have hy : ys.length = 4 := hyl
    match ys, hy with
    | [y0, y1, y2, y3], _ =>
      have g0 := hfe 0 _ rfl
      have g1 := hfe 1 _ rfl
      have g2 := hfe 2 _ rfl
      have g3 := hfe 3 _ rfl
      have c3 : Try.prog.cellsOf 3 = 1 := by kernel_rfl
      simp [c3] at g0 g1 g2 g3
      obtain ⟨A, a1, _, wa⟩ := DataW.trod_int Try.underlying3 g0
      obtain ⟨B, b1, _, wb⟩ := DataW.trod_int Try.underlying3 g1
      obtain ⟨C, c1, _, wc⟩ := DataW.trod_int Try.underlying3 g2
      obtain ⟨D, d1, _, wd⟩ := DataW.trod_int Try.underlying3 g3
      simp at a1 b1 c1 d1
      subst a1 b1 c1 d1
      exact ⟨⟨A, B, C, D⟩, rfl, wa, wb, wc, wd⟩
theorem open_act {H : Type} {enc : TypeId × Value → H} {W : World} {b0 : Nat} {v : Value} {d : DataW H} {p : List MemPlace} (hv : Value.okWide Try.prog W .any b0 31 v) (h : DataW.Trod enc Try.prog W 0 (fun _ => true) true 31 v d p) :
    ∃ a : Act, v = .agg (cellsA a) ∧ WfA a := by
  obtain ⟨cs, rfl, hs⟩ := okWide_struct Try.underlying31 hv
  obtain ⟨fuel, hf⟩ := h
  rw [cells31] at hs
  obtain ⟨a, ha, hw⟩ := fields31 hf (by simp [Value.cells, hs])
  refine ⟨a, ?_, hw⟩
  simp only [Value.cells] at ha
  congr 1
  exact Array.toList_inj.1 ha
set_option maxRecDepth 100000 in
theorem open_acts {H : Type} {enc : TypeId × Value → H} {W : World} {b0 : Nat} {v : Value} {d : DataW H} {p : List MemPlace} (hv : Value.okWide Try.prog W .any b0 22 v) (h : DataW.Trod enc Try.prog W 0 (fun _ => true) true 22 v d p) :
    ∃ xs : List Act, SlA W v xs ∧ (∀ x ∈ xs, WfA x) ∧ (xs = [] ∨ ∃ elems spare, d = .slice elems spare ∧ elems.length = xs.length) := by
  obtain ⟨a, len, cap, rfl⟩ := okWide_slice Try.underlying22 hv
  obtain ⟨fuel, hf⟩ := h
  rcases Deep.open_slice Try.underlying22 hf with ⟨hcs, _⟩ | ⟨x, l, c, m, n, D, Pl, hcs, _, hl, hm, hmm, hx, hall⟩
  · simp [Value.cells] at hcs
    obtain ⟨rfl, rfl, rfl⟩ := hcs
    exact ⟨[], Or.inl ⟨rfl, _, _, rfl⟩, fun x hx => by simp at hx, Or.inl rfl⟩
  · simp [Value.cells] at hcs
    obtain ⟨rfl, rfl, rfl⟩ := hcs
    simp only [if_true] at hmm
    subst hmm
    simp only [Prod.mk.injEq] at hx
    obtain ⟨rfl, rfl⟩ := hx
    rw [cells31] at hall
    have each : ∀ i, i < m → ∃ q : Act, W.cell? (x.add (i * 4)) = some (.int .i64 q.kd) ∧ W.cell? (x.add (i * 4 + 1)) = some (.int .i64 q.gt) ∧ W.cell? (x.add (i * 4 + 2)) = some (.int .i64 q.who) ∧ W.cell? (x.add (i * 4 + 3)) = some (.int .i64 q.nn) ∧ WfA q := fun i hi => by
      obtain ⟨cs', h1, h2⟩ := hall i hi
      obtain ⟨_, hlen, hcell⟩ := World.cells?_some h1
      obtain ⟨q, rfl, hw⟩ := fields31 h2 hlen
      have e0 := hcell 0 (by simp)
      have e1 := hcell 1 (by simp)
      have e2 := hcell 2 (by simp)
      have e3 := hcell 3 (by simp)
      rw [Deep.add_add] at e0 e1 e2 e3
      exact ⟨q, by simpa [cellsA] using e0, by simpa [cellsA] using e1, by simpa [cellsA] using e2, by simpa [cellsA] using e3, hw⟩
    haveI : Inhabited Act := ⟨⟨0, 0, 0, 0⟩⟩
    obtain ⟨q, hq⟩ := Deep.choose_lt each
    rcases Nat.eq_zero_or_pos len with e | e
    · subst e
      exact ⟨[], Or.inl ⟨rfl, _, _, rfl⟩, fun x hx => by simp at hx, Or.inl rfl⟩
    · have hsp : x.spot = none := by
        have h0 := (hq 0 (by omega)).1
        rw [show x.add (0 * 4) = x by simp [Addr.add]] at h0
        unfold World.cell? at h0
        split at h0
        · split at h0
          · cases h0
          · rename_i hs
            cases hh : x.spot with
            | none => rfl
            | some z => rw [hh] at hs; exact absurd rfl hs
        · cases h0
      obtain ⟨b, off, r⟩ := x
      obtain rfl : r = none := hsp
      have hlen : ((List.range len).map q).length = len := by simp
      refine ⟨(List.range len).map q, Or.inr ⟨b, off, m, by rw [hlen], ?_, fun i hi => ?_, fun i hi => ?_, fun i hi => ?_, fun i hi => ?_⟩, fun y hy => ?_, Or.inr ⟨_, _, rfl, by simp⟩⟩
      · rcases Nat.lt_or_ge b W.heap.size with h | h
        · exact h
        · have h0 := (hq 0 (by omega)).1
          simp [World.cell?, add_plain, Array.getElem?_eq_none h] at h0
      · rw [hlen] at hi
        have h0 := (hq i (by omega)).1
        simpa [add_plain] using h0
      · rw [hlen] at hi
        have h0 := (hq i (by omega)).2.1
        simpa [add_plain, Nat.add_assoc] using h0
      · rw [hlen] at hi
        have h0 := (hq i (by omega)).2.2.1
        simpa [add_plain, Nat.add_assoc] using h0
      · rw [hlen] at hi
        have h0 := (hq i (by omega)).2.2.2.1
        simpa [add_plain, Nat.add_assoc] using h0
      · simp only [List.mem_map, List.mem_range] at hy
        obtain ⟨i, hi, rfl⟩ := hy
        exact (hq i (by omega)).2.2.2.2
end Go.Proofs.Ytmbjjkdocmcpdaa
