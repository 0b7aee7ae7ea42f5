/- A plan, an act and a slice of acts as arguments, opened; no conditions. -/
import Derived.Test.YtkodabhkhifggaaRows
import Derived.Test.YtkodabhkhifggaaBas
import Derived.WalkKit
import Derived.ProofKit
import Derived.OpenShut
import Derived.ShutString
import Derived.Deep.Slices
namespace Go.Proofs.Ytkodabhkhifggaa
open Go.ChangeShapes Go.WideShapes Go.ChangeAt Go.RowKit
set_option linter.unusedVariables false
theorem cl_2 : Try.prog.cellsOf 2 = 1 := by kernel_rfl
theorem cl_3 : Try.prog.cellsOf 3 = 1 := by kernel_rfl
theorem cl_Rt : Try.prog.cellsOf 23 = 4 := by kernel_rfl
structure Rt where
  ba : Int
  mo : Int
  tr : Int
  sp : Int
def Rt.ok (a : Rt) : Prop := W64 a.ba ∧ W64 a.mo ∧ W64 a.tr ∧ W64 a.sp
def Rt.cs (a : Rt) : Array Value := #[.int .i64 a.ba, .int .i64 a.mo, .int .i64 a.tr, .int .i64 a.sp]
set_option maxRecDepth 100000 in
theorem fields_Rt {H : Type} {enc : TypeId × Value → H} {W : World} {base fuel : Nat} {spare : Nat → Bool} {held : Bool} {cs : List Value} {x : DataW H × List MemPlace} (h : DataW.trod enc Try.prog W base spare held fuel 23 cs = some x) (hl : cs.length = 4) :
    ∃ a : Rt, cs = a.cs.toList ∧ a.ok := by
  obtain ⟨ys, k, hk, hxy, _, hyl, hfe⟩ := DataW.trod_struct Try.underlying23 h
  match cs, hl with
  | [v0, v1, v2, v3], _ =>
    have hy : ys.length = 4 := hyl
    match ys, hy with
    | [y0, y1, y2, y3], _ =>
      have g0 := hfe 0 _ rfl
      have g1 := hfe 1 _ rfl
      have g2 := hfe 2 _ rfl
      have g3 := hfe 3 _ rfl
      simp [cl_2, cl_3] at g0 g1 g2 g3
      obtain ⟨A0, e0, _, w0⟩ := DataW.trod_int Try.underlying2 g0
      obtain ⟨A1, e1, _, w1⟩ := DataW.trod_int Try.underlying2 g1
      obtain ⟨A2, e2, _, w2⟩ := DataW.trod_int Try.underlying3 g2
      obtain ⟨A3, e3, _, w3⟩ := DataW.trod_int Try.underlying3 g3
      simp only [List.cons.injEq, and_true] at e0 e1 e2 e3
      subst e0 e1 e2 e3
      exact ⟨⟨A0, A1, A2, A3⟩, rfl, w0, w1, w2, w3⟩
theorem cl_ActQ : Try.prog.cellsOf 51 = 2 := by kernel_rfl
structure ActQ where
  kd : Int
  nw : Int
def ActQ.ok (a : ActQ) : Prop := W64 a.kd ∧ W64 a.nw
def ActQ.cs (a : ActQ) : Array Value := #[.int .i64 a.kd, .int .i64 a.nw]
set_option maxRecDepth 100000 in
theorem fields_ActQ {H : Type} {enc : TypeId × Value → H} {W : World} {base fuel : Nat} {spare : Nat → Bool} {held : Bool} {cs : List Value} {x : DataW H × List MemPlace} (h : DataW.trod enc Try.prog W base spare held fuel 51 cs = some x) (hl : cs.length = 2) :
    ∃ a : ActQ, cs = a.cs.toList ∧ a.ok := by
  obtain ⟨ys, k, hk, hxy, _, hyl, hfe⟩ := DataW.trod_struct Try.underlying51 h
  match cs, hl with
  | [v0, v1], _ =>
    have hy : ys.length = 2 := hyl
    match ys, hy with
    | [y0, y1], _ =>
      have g0 := hfe 0 _ rfl
      have g1 := hfe 1 _ rfl
      simp [cl_2, cl_3] at g0 g1
      obtain ⟨A0, e0, _, w0⟩ := DataW.trod_int Try.underlying3 g0
      obtain ⟨A1, e1, _, w1⟩ := DataW.trod_int Try.underlying2 g1
      simp only [List.cons.injEq, and_true] at e0 e1
      subst e0 e1
      exact ⟨⟨A0, A1⟩, rfl, w0, w1⟩
theorem add_plainA (b off j : Nat) : (⟨b, off, none⟩ : Addr).add j = ⟨b, off + j, none⟩ := by simp [Addr.add]
set_option maxRecDepth 100000 in
theorem open_Rt {H : Type} {enc : TypeId × Value → H} {W : World} {b0 : Nat} {v : Value} {d : DataW H} {p : List MemPlace} (hv : Value.okWide Try.prog W .any b0 23 v) (h : DataW.Trod enc Try.prog W 0 (fun _ => true) true 23 v d p) : ∃ a : Rt, v = .agg a.cs ∧ a.ok := by
  obtain ⟨cs, rfl, hs⟩ := okWide_struct Try.underlying23 hv
  obtain ⟨fuel, hf⟩ := h
  rw [cl_Rt] at hs
  obtain ⟨cl⟩ := cs
  have hs' : cl.length = 4 := by simpa using hs
  obtain ⟨a, e, wa⟩ := fields_Rt (cs := cl) (by simpa [Value.cells] using hf) hs'
  subst e
  exact ⟨a, rfl, wa⟩
set_option maxRecDepth 100000 in
theorem open_ActQ {H : Type} {enc : TypeId × Value → H} {W : World} {b0 : Nat} {v : Value} {d : DataW H} {p : List MemPlace} (hv : Value.okWide Try.prog W .any b0 51 v) (h : DataW.Trod enc Try.prog W 0 (fun _ => true) true 51 v d p) : ∃ a : ActQ, v = .agg a.cs ∧ a.ok := by
  obtain ⟨cs, rfl, hs⟩ := okWide_struct Try.underlying51 hv
  obtain ⟨fuel, hf⟩ := h
  rw [cl_ActQ] at hs
  obtain ⟨cl⟩ := cs
  have hs' : cl.length = 2 := by simpa using hs
  obtain ⟨a, e, wa⟩ := fields_ActQ (cs := cl) (by simpa [Value.cells] using hf) hs'
  subst e
  exact ⟨a, rfl, wa⟩
structure RowActQ (w : World) (b off : Nat) (xs : List ActQ) : Prop where
  lt : b < w.heap.size
  c0 : ∀ i (h : i < xs.length), w.cell? ⟨b, off + i * 2, none⟩ = some (.int .i64 xs[i].kd)
  c1 : ∀ i (h : i < xs.length), w.cell? ⟨b, off + i * 2 + 1, none⟩ = some (.int .i64 xs[i].nw)
def SlActQ (w : World) (v : Value) (xs : List ActQ) : Prop := (xs = [] ∧ ∃ a c, v = .slice a 0 c) ∨ ∃ b off cap, v = .slice (some ⟨b, off, none⟩) xs.length cap ∧ RowActQ w b off xs
theorem RowActQ.keep {w w' : World} {b off : Nat} {xs : List ActQ} (h : RowActQ w b off xs) (ht : Touch [] w w') : RowActQ w' b off xs := by
  have e : w'.heap[b]? = w.heap[b]? := ht.block b h.lt (by simp)
  refine ⟨Nat.lt_of_lt_of_le h.lt ht.size, fun i hi => ?_, fun i hi => ?_⟩
  · rw [World.cell?_of_block (by exact e)]; exact h.c0 i hi
  · rw [World.cell?_of_block (by exact e)]; exact h.c1 i hi
set_option maxRecDepth 100000 in
theorem open_ActQs {H : Type} {enc : TypeId × Value → H} {W : World} {b0 : Nat} {v : Value} {d : DataW H} {p : List MemPlace} (hv : Value.okWide Try.prog W .any b0 44 v) (h : DataW.Trod enc Try.prog W 0 (fun _ => true) true 44 v d p) :
    ∃ xs : List ActQ, SlActQ W v xs ∧ (∀ x ∈ xs, x.ok) ∧ (xs = [] ∨ ∃ elems spare, d = .slice elems spare ∧ elems.length = xs.length) := by
  obtain ⟨a, len, cap, rfl⟩ := okWide_slice Try.underlying44 hv
  obtain ⟨fuel, hf⟩ := h
  rcases Deep.open_slice Try.underlying44 hf with ⟨hcs, _⟩ | ⟨x, l, c, m, n, D, Pl, hcs, _, hl, hm, hmm, hx, hall⟩
  · simp [Value.cells] at hcs
    obtain ⟨rfl, rfl, rfl⟩ := hcs
    exact ⟨[], Or.inl ⟨rfl, _, _, rfl⟩, fun x hx => by simp at hx, Or.inl rfl⟩
  · simp [Value.cells] at hcs
    obtain ⟨rfl, rfl, rfl⟩ := hcs
    simp only [if_true] at hmm
    subst hmm
    simp only [Prod.mk.injEq] at hx
    obtain ⟨rfl, rfl⟩ := hx
    rw [cl_ActQ] at hall
    have each : ∀ i, i < m → ∃ q : ActQ, W.cell? (x.add (i * 2)) = some (.int .i64 q.kd) ∧ W.cell? (x.add (i * 2 + 1)) = some (.int .i64 q.nw) ∧ q.ok := fun i hi => by
      obtain ⟨cs', h1, h2⟩ := hall i hi
      obtain ⟨_, hlen, hcell⟩ := World.cells?_some h1
      obtain ⟨q, rfl, wq⟩ := fields_ActQ h2 hlen
      have e0 := hcell 0 (by omega)
      have e1 := hcell 1 (by omega)
      rw [Deep.add_add] at e0 e1
      exact ⟨q, by simpa [ActQ.cs] using e0, by simpa [ActQ.cs] using e1, wq⟩
    haveI : Inhabited ActQ := ⟨⟨0, 0⟩⟩
    obtain ⟨q, hq⟩ := Deep.choose_lt each
    rcases Nat.eq_zero_or_pos len with e | e
    · subst e
      exact ⟨[], Or.inl ⟨rfl, _, _, rfl⟩, fun x hx => by simp at hx, Or.inl rfl⟩
    · have hsp : x.spot = none := by
        have h0 := (hq 0 (by omega)).1
        rw [show x.add (0 * 2) = x by simp [Addr.add]] at h0
        unfold World.cell? at h0
        split at h0
        · split at h0
          · cases h0
          · rename_i hs
            cases hh : x.spot with
            | none => rfl
            | some z => rw [hh] at hs; exact absurd rfl hs
        · cases h0
      obtain ⟨b, off, r⟩ := x
      obtain rfl : r = none := hsp
      have hlen : ((List.range len).map q).length = len := by simp
      refine ⟨(List.range len).map q, Or.inr ⟨b, off, m, by rw [hlen], ?_, fun i hi => ?_, fun i hi => ?_⟩, fun y hy => ?_, Or.inr ⟨_, _, rfl, by simp⟩⟩
      · rcases Nat.lt_or_ge b W.heap.size with h | h
        · exact h
        · have h0 := (hq 0 (by omega)).1
          simp [World.cell?, add_plainA, Array.getElem?_eq_none h] at h0
      · rw [hlen] at hi
        have h0 := (hq i (by omega)).1
        simpa [add_plainA, Nat.add_assoc] using h0
      · rw [hlen] at hi
        have h0 := (hq i (by omega)).2.1
        simpa [add_plainA, Nat.add_assoc] using h0
      · simp only [List.mem_map, List.mem_range] at hy
        obtain ⟨i, hi, rfl⟩ := hy
        exact (hq i (by omega)).2.2
set_option maxRecDepth 100000 in
theorem laidOut : laidOutB Try.prog = true := by kernel_rfl
end Go.Proofs.Ytkodabhkhifggaa
