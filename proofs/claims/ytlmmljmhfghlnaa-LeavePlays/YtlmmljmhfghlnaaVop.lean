/- A seat, a slice of acts and a slice of numbers as arguments, opened; no conditions. -/
import Derived.Test.YtlmmljmhfghlnaaRows
import Derived.Test.YtlmmljmhfghlnaaVem
import Derived.WalkKit
import Derived.ProofKit
import Derived.OpenShut
import Derived.ShutString
import Derived.Deep.Slices
namespace Go.Proofs.Ytlmmljmhfghlnaa
open Go.ChangeShapes Go.WideShapes Go.ChangeAt Go.RowKit
set_option linter.unusedVariables false
theorem cl_3 : Try.prog.cellsOf 3 = 1 := by kernel_rfl
theorem cl_SeA : Try.prog.cellsOf 33 = 3 := by kernel_rfl
structure SeA where
  ca : Int
  rn : Int
  tk : Int
def SeA.ok (a : SeA) : Prop := W64 a.ca ∧ W64 a.rn ∧ W64 a.tk
def SeA.cs (a : SeA) : Array Value := #[.int .i64 a.ca, .int .i64 a.rn, .int .i64 a.tk]
set_option maxRecDepth 100000 in
theorem fields_SeA {H : Type} {enc : TypeId × Value → H} {W : World} {base fuel : Nat} {spare : Nat → Bool} {held : Bool} {cs : List Value} {x : DataW H × List MemPlace} (h : DataW.trod enc Try.prog W base spare held fuel 33 cs = some x) (hl : cs.length = 3) :
    ∃ a : SeA, cs = a.cs.toList ∧ a.ok := by
  obtain ⟨ys, k, hk, hxy, _, hyl, hfe⟩ := DataW.trod_struct Try.underlying33 h
  match cs, hl with
  | [v0, v1, v2], _ =>
    have hy : ys.length = 3 := hyl
    match ys, hy with
    | [y0, y1, y2], _ =>
      have g0 := hfe 0 _ rfl
      have g1 := hfe 1 _ rfl
      have g2 := hfe 2 _ rfl
      simp [cl_3] at g0 g1 g2
      obtain ⟨A0, e0, _, w0⟩ := DataW.trod_int Try.underlying3 g0
      obtain ⟨A1, e1, _, w1⟩ := DataW.trod_int Try.underlying3 g1
      obtain ⟨A2, e2, _, w2⟩ := DataW.trod_int Try.underlying3 g2
      simp only [List.cons.injEq, and_true] at e0 e1 e2
      subst e0 e1 e2
      exact ⟨⟨A0, A1, A2⟩, rfl, w0, w1, w2⟩
theorem cl_ActV : Try.prog.cellsOf 35 = 4 := by kernel_rfl
structure ActV where
  kd : Int
  st : SeA
def ActV.ok (a : ActV) : Prop := W64 a.kd ∧ SeA.ok a.st
def ActV.cs (a : ActV) : Array Value := #[.int .i64 a.kd, .int .i64 a.st.ca, .int .i64 a.st.rn, .int .i64 a.st.tk]
set_option maxRecDepth 100000 in
theorem fields_ActV {H : Type} {enc : TypeId × Value → H} {W : World} {base fuel : Nat} {spare : Nat → Bool} {held : Bool} {cs : List Value} {x : DataW H × List MemPlace} (h : DataW.trod enc Try.prog W base spare held fuel 35 cs = some x) (hl : cs.length = 4) :
    ∃ a : ActV, cs = a.cs.toList ∧ a.ok := by
  obtain ⟨ys, k, hk, hxy, _, hyl, hfe⟩ := DataW.trod_struct Try.underlying35 h
  match cs, hl with
  | [v0, v1, v2, v3], _ =>
    have hy : ys.length = 2 := hyl
    match ys, hy with
    | [y0, y1], _ =>
      have g0 := hfe 0 _ rfl
      have g1 := hfe 1 _ rfl
      simp [cl_3, cl_SeA] at g0 g1
      obtain ⟨A0, e0, _, w0⟩ := DataW.trod_int Try.underlying3 g0
      obtain ⟨A1, b1, w1⟩ := fields_SeA g1 rfl
      simp only [SeA.cs, List.cons.injEq, and_true] at b1
      obtain ⟨e1, e2, e3⟩ := b1
      simp only [List.cons.injEq, and_true] at e0
      subst e0 e1 e2 e3
      exact ⟨⟨A0, A1⟩, rfl, w0, w1⟩
theorem add_plainA (b off j : Nat) : (⟨b, off, none⟩ : Addr).add j = ⟨b, off + j, none⟩ := by simp [Addr.add]
set_option maxRecDepth 100000 in
theorem open_SeA {H : Type} {enc : TypeId × Value → H} {W : World} {b0 : Nat} {v : Value} {d : DataW H} {p : List MemPlace} (hv : Value.okWide Try.prog W .any b0 33 v) (h : DataW.Trod enc Try.prog W 0 (fun _ => true) true 33 v d p) : ∃ a : SeA, v = .agg a.cs ∧ a.ok := by
  obtain ⟨cs, rfl, hs⟩ := okWide_struct Try.underlying33 hv
  obtain ⟨fuel, hf⟩ := h
  rw [cl_SeA] at hs
  obtain ⟨cl⟩ := cs
  have hs' : cl.length = 3 := by simpa using hs
  obtain ⟨a, e, wa⟩ := fields_SeA (cs := cl) (by simpa [Value.cells] using hf) hs'
  subst e
  exact ⟨a, rfl, wa⟩
set_option maxRecDepth 100000 in
theorem open_ActV {H : Type} {enc : TypeId × Value → H} {W : World} {b0 : Nat} {v : Value} {d : DataW H} {p : List MemPlace} (hv : Value.okWide Try.prog W .any b0 35 v) (h : DataW.Trod enc Try.prog W 0 (fun _ => true) true 35 v d p) : ∃ a : ActV, v = .agg a.cs ∧ a.ok := by
  obtain ⟨cs, rfl, hs⟩ := okWide_struct Try.underlying35 hv
  obtain ⟨fuel, hf⟩ := h
  rw [cl_ActV] at hs
  obtain ⟨cl⟩ := cs
  have hs' : cl.length = 4 := by simpa using hs
  obtain ⟨a, e, wa⟩ := fields_ActV (cs := cl) (by simpa [Value.cells] using hf) hs'
  subst e
  exact ⟨a, rfl, wa⟩
structure RowActV (w : World) (b off : Nat) (xs : List ActV) : Prop where
  lt : b < w.heap.size
  c0 : ∀ i (h : i < xs.length), w.cell? ⟨b, off + i * 4, none⟩ = some (.int .i64 xs[i].kd)
  c1 : ∀ i (h : i < xs.length), w.cell? ⟨b, off + i * 4 + 1, none⟩ = some (.int .i64 xs[i].st.ca)
  c2 : ∀ i (h : i < xs.length), w.cell? ⟨b, off + i * 4 + 2, none⟩ = some (.int .i64 xs[i].st.rn)
  c3 : ∀ i (h : i < xs.length), w.cell? ⟨b, off + i * 4 + 3, none⟩ = some (.int .i64 xs[i].st.tk)
def SlActV (w : World) (v : Value) (xs : List ActV) : Prop := (xs = [] ∧ ∃ a c, v = .slice a 0 c) ∨ ∃ b off cap, v = .slice (some ⟨b, off, none⟩) xs.length cap ∧ RowActV w b off xs
theorem RowActV.keep {w w' : World} {b off : Nat} {xs : List ActV} (h : RowActV w b off xs) (ht : Touch [] w w') : RowActV w' b off xs := by
  have e : w'.heap[b]? = w.heap[b]? := ht.block b h.lt (by simp)
  refine ⟨Nat.lt_of_lt_of_le h.lt ht.size, fun i hi => ?_, fun i hi => ?_, fun i hi => ?_, fun i hi => ?_⟩
  · rw [World.cell?_of_block (by exact e)]; exact h.c0 i hi
  · rw [World.cell?_of_block (by exact e)]; exact h.c1 i hi
  · rw [World.cell?_of_block (by exact e)]; exact h.c2 i hi
  · rw [World.cell?_of_block (by exact e)]; exact h.c3 i hi
set_option maxRecDepth 100000 in
theorem open_ActVs {H : Type} {enc : TypeId × Value → H} {W : World} {b0 : Nat} {v : Value} {d : DataW H} {p : List MemPlace} (hv : Value.okWide Try.prog W .any b0 22 v) (h : DataW.Trod enc Try.prog W 0 (fun _ => true) true 22 v d p) :
    ∃ xs : List ActV, SlActV W v xs ∧ (∀ x ∈ xs, x.ok) ∧ (xs = [] ∨ ∃ elems spare, d = .slice elems spare ∧ elems.length = xs.length) := by
  obtain ⟨a, len, cap, rfl⟩ := okWide_slice Try.underlying22 hv
  obtain ⟨fuel, hf⟩ := h
  rcases Deep.open_slice Try.underlying22 hf with ⟨hcs, _⟩ | ⟨x, l, c, m, n, D, Pl, hcs, _, hl, hm, hmm, hx, hall⟩
  · simp [Value.cells] at hcs
    obtain ⟨rfl, rfl, rfl⟩ := hcs
    exact ⟨[], Or.inl ⟨rfl, _, _, rfl⟩, fun x hx => by simp at hx, Or.inl rfl⟩
  · simp [Value.cells] at hcs
    obtain ⟨rfl, rfl, rfl⟩ := hcs
    simp only [if_true] at hmm
    subst hmm
    simp only [Prod.mk.injEq] at hx
    obtain ⟨rfl, rfl⟩ := hx
    rw [cl_ActV] at hall
    have each : ∀ i, i < m → ∃ q : ActV, W.cell? (x.add (i * 4)) = some (.int .i64 q.kd) ∧ W.cell? (x.add (i * 4 + 1)) = some (.int .i64 q.st.ca) ∧ W.cell? (x.add (i * 4 + 2)) = some (.int .i64 q.st.rn) ∧ W.cell? (x.add (i * 4 + 3)) = some (.int .i64 q.st.tk) ∧ q.ok := fun i hi => by
      obtain ⟨cs', h1, h2⟩ := hall i hi
      obtain ⟨_, hlen, hcell⟩ := World.cells?_some h1
      obtain ⟨q, rfl, wq⟩ := fields_ActV h2 hlen
      have e0 := hcell 0 (by omega)
      have e1 := hcell 1 (by omega)
      have e2 := hcell 2 (by omega)
      have e3 := hcell 3 (by omega)
      rw [Deep.add_add] at e0 e1 e2 e3
      exact ⟨q, by simpa [ActV.cs] using e0, by simpa [ActV.cs] using e1, by simpa [ActV.cs] using e2, by simpa [ActV.cs] using e3, wq⟩
    haveI : Inhabited ActV := ⟨⟨0, ⟨0, 0, 0⟩⟩⟩
    obtain ⟨q, hq⟩ := Deep.choose_lt each
    rcases Nat.eq_zero_or_pos len with e | e
    · subst e
      exact ⟨[], Or.inl ⟨rfl, _, _, rfl⟩, fun x hx => by simp at hx, Or.inl rfl⟩
    · have hsp : x.spot = none := by
        have h0 := (hq 0 (by omega)).1
        rw [show x.add (0 * 4) = x by simp [Addr.add]] at h0
        unfold World.cell? at h0
        split at h0
        · split at h0
          · cases h0
          · rename_i hs
            cases hh : x.spot with
            | none => rfl
            | some z => rw [hh] at hs; exact absurd rfl hs
        · cases h0
      obtain ⟨b, off, r⟩ := x
      obtain rfl : r = none := hsp
      have hlen : ((List.range len).map q).length = len := by simp
      refine ⟨(List.range len).map q, Or.inr ⟨b, off, m, by rw [hlen], ?_, fun i hi => ?_, fun i hi => ?_, fun i hi => ?_, fun i hi => ?_⟩, fun y hy => ?_, Or.inr ⟨_, _, rfl, by simp⟩⟩
      · rcases Nat.lt_or_ge b W.heap.size with h | h
        · exact h
        · have h0 := (hq 0 (by omega)).1
          simp [World.cell?, add_plainA, Array.getElem?_eq_none h] at h0
      · rw [hlen] at hi
        have h0 := (hq i (by omega)).1
        simpa [add_plainA, Nat.add_assoc] using h0
      · rw [hlen] at hi
        have h0 := (hq i (by omega)).2.1
        simpa [add_plainA, Nat.add_assoc] using h0
      · rw [hlen] at hi
        have h0 := (hq i (by omega)).2.2.1
        simpa [add_plainA, Nat.add_assoc] using h0
      · rw [hlen] at hi
        have h0 := (hq i (by omega)).2.2.2.1
        simpa [add_plainA, Nat.add_assoc] using h0
      · simp only [List.mem_map, List.mem_range] at hy
        obtain ⟨i, hi, rfl⟩ := hy
        exact (hq i (by omega)).2.2.2.2
set_option maxRecDepth 100000 in
theorem laidOut : laidOutB Try.prog = true := by kernel_rfl

set_option maxRecDepth 100000 in
theorem open_ints {H : Type} {enc : TypeId × Value → H} {W : World} {b0 : Nat} {v : Value} {d : DataW H} {p : List MemPlace} (hv : Value.okWide Try.prog W .any b0 23 v) (h : DataW.Trod enc Try.prog W 0 (fun _ => true) true 23 v d p) :
    ∃ xs : List Int, Ra W v xs ∧ (∀ x ∈ xs, W64 x) ∧ (xs = [] ∨ ∃ elems spare, d = .slice elems spare ∧ elems.length = xs.length) := by
  obtain ⟨a, len, cap, rfl⟩ := okWide_slice Try.underlying23 hv
  obtain ⟨fuel, hf⟩ := h
  rcases Deep.open_slice Try.underlying23 hf with ⟨hcs, _⟩ | ⟨x, l, c, m, n, D, Pl, hcs, _, hl, hm, hmm, hx, hall⟩
  · simp [Value.cells] at hcs
    obtain ⟨rfl, rfl, rfl⟩ := hcs
    exact ⟨[], ⟨_, _, rfl, fun h => absurd h (Nat.lt_irrefl 0)⟩, fun x hx => by simp at hx, Or.inl rfl⟩
  · simp [Value.cells] at hcs
    obtain ⟨rfl, rfl, rfl⟩ := hcs
    simp only [if_true] at hmm
    subst hmm
    simp only [Prod.mk.injEq] at hx
    obtain ⟨rfl, rfl⟩ := hx
    rw [cl_3] at hall
    have each : ∀ i, i < m → ∃ q : Int, W.cell? (x.add i) = some (.int .i64 q) ∧ W64 q := fun i hi => by
      obtain ⟨cs', h1, h2⟩ := hall i hi
      obtain ⟨_, hlen, hcell⟩ := World.cells?_some h1
      match cs', hlen with
      | [v0], _ =>
        obtain ⟨q, e, _, w1⟩ := DataW.trod_int Try.underlying3 h2
        simp only [List.cons.injEq, and_true] at e
        subst e
        have e0 := hcell 0 (by omega)
        rw [Deep.add_add] at e0
        exact ⟨q, by simpa using e0, w1⟩
    haveI : Inhabited Int := ⟨0⟩
    obtain ⟨q, hq⟩ := Deep.choose_lt each
    rcases Nat.eq_zero_or_pos len with e | e
    · subst e
      exact ⟨[], ⟨_, _, rfl, fun h => absurd h (Nat.lt_irrefl 0)⟩, fun x hx => by simp at hx, Or.inl rfl⟩
    · have hsp : x.spot = none := by
        have h0 := (hq 0 (by omega)).1
        rw [show x.add 0 = x by simp [Addr.add]] at h0
        unfold World.cell? at h0
        split at h0
        · split at h0
          · cases h0
          · rename_i hs
            cases hh : x.spot with
            | none => rfl
            | some z => rw [hh] at hs; exact absurd rfl hs
        · cases h0
      obtain ⟨b, off, r⟩ := x
      obtain rfl : r = none := hsp
      have hlen : ((List.range len).map q).length = len := by simp
      refine ⟨(List.range len).map q, ⟨some ⟨b, off, none⟩, m, by rw [hlen], fun _ => ⟨b, off, rfl, ?_, fun i r hi => ?_⟩⟩, fun y hy => ?_, Or.inr ⟨_, _, rfl, by simp⟩⟩
      · rcases Nat.lt_or_ge b W.heap.size with h | h
        · exact h
        · have h0 := (hq 0 (by omega)).1
          simp [World.cell?, add_plainA, Array.getElem?_eq_none h] at h0
      · have hi' := (List.getElem?_eq_some_iff.1 hi).1
        rw [hlen] at hi'
        have h0 := (hq i (by omega)).1
        simp [hi'] at hi
        subst hi
        simpa [add_plainA] using h0
      · simp only [List.mem_map, List.mem_range] at hy
        obtain ⟨i, hi, rfl⟩ := hy
        exact (hq i (by omega)).2
def SeA.se (a : SeA) : Se := (a.ca, a.rn, a.tk)
theorem SeA.wf {a : SeA} (h : a.ok) : Wf a.se := h
theorem SeA.sv (a : SeA) : Value.agg a.cs = Ytlmmljmhfghlnaa.sv a.se := rfl
end Go.Proofs.Ytlmmljmhfghlnaa
