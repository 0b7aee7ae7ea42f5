/- Events: what they hold, in a box and in rows, and slices of them as arguments, opened; no conditions. -/
import Derived.Test.YtibgfkjhohgkhaaRows
import Derived.Test.YtibgfkjhohgkhaaRsl
import Derived.WalkKit
import Derived.ProofKit
import Derived.OpenShut
import Derived.ShutString
import Derived.Deep.Slices
namespace Go.Proofs.Ytibgfkjhohgkhaa
open Go.ChangeShapes Go.WideShapes Go.ChangeAt Go.RowKit Go.Maps Go.ChangeMaps
set_option linter.unusedVariables false
namespace Tr
theorem cell_lt {w : World} {a : Addr} {v : Value} (h : w.cell? a = some v) : a.block < w.heap.size := by
  rcases Nat.lt_or_ge a.block w.heap.size with h' | h'
  · exact h'
  · simp [World.cell?, Array.getElem?_eq_none h'] at h
theorem tcell {w w' : World} (t : Touch [] w w') {a : Addr} {v : Value} (h : w.cell? a = some v) : w'.cell? a = some v := by
  rw [World.cell?_of_block (t.block a.block (cell_lt h) (by simp))]; exact h
theorem tfz {w w' : World} (t : Touch [] w w') {a : Addr} (h : w.frozen? a = false) (hb : a.block < w.heap.size) : w'.frozen? a = false := by
  rw [World.frozen?_of_block (t.block a.block hb (by simp))]; exact h
/-- An event. -/
structure Ez where
  at_ : Int
  kd : Int
  cl : Int
  ca : Int
  ru : Int
  ge : Int
  ho : Int
  sp : Int
  nm : ByteArray
  va : Int
  fk : Int
  fc : Int
  fr : Int
def Ez.cells (e : Ez) : List Value := [.int .i64 e.at_, .int .i64 e.kd, .int .i64 e.cl, .int .i64 e.ca, .int .i64 e.ru, .int .i64 e.ge, .int .i64 e.ho, .int .u16 e.sp, .string e.nm, .int .i64 e.va, .int .i64 e.fk, .int .i64 e.fc, .int .i64 e.fr]
def Ez.val (e : Ez) : Value := .agg #[.int .i64 e.at_, .int .i64 e.kd, .int .i64 e.cl, .int .i64 e.ca, .int .i64 e.ru, .int .i64 e.ge, .int .i64 e.ho, .int .u16 e.sp, .string e.nm, .int .i64 e.va, .int .i64 e.fk, .int .i64 e.fc, .int .i64 e.fr]
def e0 : Ez := ⟨0, 0, 0, 0, 0, 0, 0, 0, ⟨#[]⟩, 0, 0, 0, 0⟩
structure Ez.ok (e : Ez) : Prop where
  at_ : W64 e.at_
  kd : W64 e.kd
  cl : W64 e.cl
  ca : W64 e.ca
  ru : W64 e.ru
  ge : W64 e.ge
  ho : W64 e.ho
  sp : (Lit.int .u16 e.sp).wf = true
  nm : e.nm.size ≤ maxLen
  va : W64 e.va
  fk : W64 e.fk
  fc : W64 e.fc
  fr : W64 e.fr
/-- An event in a box. -/
structure Ib (w : World) (b : Nat) (e : Ez) : Prop where
  c0 : w.cell? ⟨b, 0, none⟩ = some (.int .i64 e.at_)
  c1 : w.cell? ⟨b, 1, none⟩ = some (.int .i64 e.kd)
  c2 : w.cell? ⟨b, 2, none⟩ = some (.int .i64 e.cl)
  c3 : w.cell? ⟨b, 3, none⟩ = some (.int .i64 e.ca)
  c4 : w.cell? ⟨b, 4, none⟩ = some (.int .i64 e.ru)
  c5 : w.cell? ⟨b, 5, none⟩ = some (.int .i64 e.ge)
  c6 : w.cell? ⟨b, 6, none⟩ = some (.int .i64 e.ho)
  c7 : w.cell? ⟨b, 7, none⟩ = some (.int .u16 e.sp)
  c8 : w.cell? ⟨b, 8, none⟩ = some (.string e.nm)
  c9 : w.cell? ⟨b, 9, none⟩ = some (.int .i64 e.va)
  c10 : w.cell? ⟨b, 10, none⟩ = some (.int .i64 e.fk)
  c11 : w.cell? ⟨b, 11, none⟩ = some (.int .i64 e.fc)
  c12 : w.cell? ⟨b, 12, none⟩ = some (.int .i64 e.fr)
theorem Ib.touch {w w' : World} {b : Nat} {e : Ez} (h : Ib w b e) (t : Touch [] w w') : Ib w' b e :=
  ⟨tcell t h.c0, tcell t h.c1, tcell t h.c2, tcell t h.c3, tcell t h.c4, tcell t h.c5, tcell t h.c6, tcell t h.c7, tcell t h.c8, tcell t h.c9, tcell t h.c10, tcell t h.c11, tcell t h.c12⟩
theorem Ib.new (w : World) (e : Ez) (t : TypeId) : Ib (w.alloc (.cells #[.int .i64 e.at_, .int .i64 e.kd, .int .i64 e.cl, .int .i64 e.ca, .int .i64 e.ru, .int .i64 e.ge, .int .i64 e.ho, .int .u16 e.sp, .string e.nm, .int .i64 e.va, .int .i64 e.fk, .int .i64 e.fc, .int .i64 e.fr] t)) w.heap.size e := by
  constructor <;> simp
end Tr
theorem cl_Tintuint16 : Try.prog.cellsOf 61 = 1 := by kernel_rfl
theorem cl_9 : Try.prog.cellsOf 9 = 1 := by kernel_rfl
theorem cl_3 : Try.prog.cellsOf 3 = 1 := by kernel_rfl
theorem cl_2 : Try.prog.cellsOf 2 = 1 := by kernel_rfl
theorem cl_KyA : Try.prog.cellsOf 63 = 2 := by kernel_rfl
structure KyA where
  sp : Int
  nm : ByteArray
def KyA.ok (a : KyA) : Prop := (Lit.int .u16 a.sp).wf = true ∧ a.nm.size ≤ maxLen
def KyA.cs (a : KyA) : Array Value := #[.int .u16 a.sp, .string a.nm]
set_option maxRecDepth 100000 in
theorem fields_KyA {H : Type} {enc : TypeId × Value → H} {W : World} {base fuel : Nat} {spare : Nat → Bool} {held : Bool} {cs : List Value} {x : DataW H × List MemPlace} (h : DataW.trod enc Try.prog W base spare held fuel 63 cs = some x) (hl : cs.length = 2) :
    ∃ a : KyA, cs = a.cs.toList ∧ a.ok := by
  obtain ⟨ys, k, hk, hxy, _, hyl, hfe⟩ := DataW.trod_struct Try.underlying63 h
  match cs, hl with
  | [v0, v1], _ =>
    have hy : ys.length = 2 := hyl
    match ys, hy with
    | [y0, y1], _ =>
      have g0 := hfe 0 _ rfl
      have g1 := hfe 1 _ rfl
      simp [cl_9, cl_Tintuint16] at g0 g1
      obtain ⟨A0, e0, _, w0⟩ := DataW.trod_int Try.underlying61 g0
      obtain ⟨A1, e1, _, w1⟩ := DataW.trod_string Try.underlying9 g1
      simp only [List.cons.injEq, and_true] at e0 e1
      subst e0 e1
      exact ⟨⟨A0, A1⟩, rfl, w0, w1⟩
theorem cl_FaA : Try.prog.cellsOf 65 = 3 := by kernel_rfl
structure FaA where
  kd : Int
  cd : Int
  rn : Int
def FaA.ok (a : FaA) : Prop := W64 a.kd ∧ W64 a.cd ∧ W64 a.rn
def FaA.cs (a : FaA) : Array Value := #[.int .i64 a.kd, .int .i64 a.cd, .int .i64 a.rn]
set_option maxRecDepth 100000 in
theorem fields_FaA {H : Type} {enc : TypeId × Value → H} {W : World} {base fuel : Nat} {spare : Nat → Bool} {held : Bool} {cs : List Value} {x : DataW H × List MemPlace} (h : DataW.trod enc Try.prog W base spare held fuel 65 cs = some x) (hl : cs.length = 3) :
    ∃ a : FaA, cs = a.cs.toList ∧ a.ok := by
  obtain ⟨ys, k, hk, hxy, _, hyl, hfe⟩ := DataW.trod_struct Try.underlying65 h
  match cs, hl with
  | [v0, v1, v2], _ =>
    have hy : ys.length = 3 := hyl
    match ys, hy with
    | [y0, y1, y2], _ =>
      have g0 := hfe 0 _ rfl
      have g1 := hfe 1 _ rfl
      have g2 := hfe 2 _ rfl
      simp [cl_3] at g0 g1 g2
      obtain ⟨A0, e0, _, w0⟩ := DataW.trod_int Try.underlying3 g0
      obtain ⟨A1, e1, _, w1⟩ := DataW.trod_int Try.underlying3 g1
      obtain ⟨A2, e2, _, w2⟩ := DataW.trod_int Try.underlying3 g2
      simp only [List.cons.injEq, and_true] at e0 e1 e2
      subst e0 e1 e2
      exact ⟨⟨A0, A1, A2⟩, rfl, w0, w1, w2⟩
theorem cl_OuA : Try.prog.cellsOf 67 = 4 := by kernel_rfl
structure OuA where
  va : Int
  f : FaA
def OuA.ok (a : OuA) : Prop := W64 a.va ∧ FaA.ok a.f
def OuA.cs (a : OuA) : Array Value := #[.int .i64 a.va, .int .i64 a.f.kd, .int .i64 a.f.cd, .int .i64 a.f.rn]
set_option maxRecDepth 100000 in
theorem fields_OuA {H : Type} {enc : TypeId × Value → H} {W : World} {base fuel : Nat} {spare : Nat → Bool} {held : Bool} {cs : List Value} {x : DataW H × List MemPlace} (h : DataW.trod enc Try.prog W base spare held fuel 67 cs = some x) (hl : cs.length = 4) :
    ∃ a : OuA, cs = a.cs.toList ∧ a.ok := by
  obtain ⟨ys, k, hk, hxy, _, hyl, hfe⟩ := DataW.trod_struct Try.underlying67 h
  match cs, hl with
  | [v0, v1, v2, v3], _ =>
    have hy : ys.length = 2 := hyl
    match ys, hy with
    | [y0, y1], _ =>
      have g0 := hfe 0 _ rfl
      have g1 := hfe 1 _ rfl
      simp [cl_2, cl_FaA] at g0 g1
      obtain ⟨A0, e0, _, w0⟩ := DataW.trod_int Try.underlying2 g0
      obtain ⟨A1, b1, w1⟩ := fields_FaA g1 rfl
      simp only [FaA.cs, List.cons.injEq, and_true] at b1
      obtain ⟨e1, e2, e3⟩ := b1
      simp only [List.cons.injEq, and_true] at e0
      subst e0 e1 e2 e3
      exact ⟨⟨A0, A1⟩, rfl, w0, w1⟩
theorem cl_EvA : Try.prog.cellsOf 69 = 13 := by kernel_rfl
structure EvA where
  at_ : Int
  kd : Int
  cl : Int
  ca : Int
  ru : Int
  ge : Int
  ho : Int
  k : KyA
  o : OuA
def EvA.ok (a : EvA) : Prop := W64 a.at_ ∧ W64 a.kd ∧ W64 a.cl ∧ W64 a.ca ∧ W64 a.ru ∧ W64 a.ge ∧ W64 a.ho ∧ KyA.ok a.k ∧ OuA.ok a.o
def EvA.cs (a : EvA) : Array Value := #[.int .i64 a.at_, .int .i64 a.kd, .int .i64 a.cl, .int .i64 a.ca, .int .i64 a.ru, .int .i64 a.ge, .int .i64 a.ho, .int .u16 a.k.sp, .string a.k.nm, .int .i64 a.o.va, .int .i64 a.o.f.kd, .int .i64 a.o.f.cd, .int .i64 a.o.f.rn]
set_option maxRecDepth 100000 in
theorem fields_EvA {H : Type} {enc : TypeId × Value → H} {W : World} {base fuel : Nat} {spare : Nat → Bool} {held : Bool} {cs : List Value} {x : DataW H × List MemPlace} (h : DataW.trod enc Try.prog W base spare held fuel 69 cs = some x) (hl : cs.length = 13) :
    ∃ a : EvA, cs = a.cs.toList ∧ a.ok := by
  obtain ⟨ys, k, hk, hxy, _, hyl, hfe⟩ := DataW.trod_struct Try.underlying69 h
  match cs, hl with
  | [v0, v1, v2, v3, v4, v5, v6, v7, v8, v9, v10, v11, v12], _ =>
    have hy : ys.length = 9 := hyl
    match ys, hy with
    | [y0, y1, y2, y3, y4, y5, y6, y7, y8], _ =>
      have g0 := hfe 0 _ rfl
      have g1 := hfe 1 _ rfl
      have g2 := hfe 2 _ rfl
      have g3 := hfe 3 _ rfl
      have g4 := hfe 4 _ rfl
      have g5 := hfe 5 _ rfl
      have g6 := hfe 6 _ rfl
      have g7 := hfe 7 _ rfl
      have g8 := hfe 8 _ rfl
      simp [cl_2, cl_3, cl_KyA, cl_OuA] at g0 g1 g2 g3 g4 g5 g6 g7 g8
      obtain ⟨A0, e0, _, w0⟩ := DataW.trod_int Try.underlying2 g0
      obtain ⟨A1, e1, _, w1⟩ := DataW.trod_int Try.underlying3 g1
      obtain ⟨A2, e2, _, w2⟩ := DataW.trod_int Try.underlying3 g2
      obtain ⟨A3, e3, _, w3⟩ := DataW.trod_int Try.underlying3 g3
      obtain ⟨A4, e4, _, w4⟩ := DataW.trod_int Try.underlying3 g4
      obtain ⟨A5, e5, _, w5⟩ := DataW.trod_int Try.underlying3 g5
      obtain ⟨A6, e6, _, w6⟩ := DataW.trod_int Try.underlying3 g6
      obtain ⟨A7, b7, w7⟩ := fields_KyA g7 rfl
      simp only [KyA.cs, List.cons.injEq, and_true] at b7
      obtain ⟨e7, e8⟩ := b7
      obtain ⟨A8, b8, w8⟩ := fields_OuA g8 rfl
      simp only [OuA.cs, List.cons.injEq, and_true] at b8
      obtain ⟨e9, e10, e11, e12⟩ := b8
      simp only [List.cons.injEq, and_true] at e0 e1 e2 e3 e4 e5 e6
      subst e0 e1 e2 e3 e4 e5 e6 e7 e8 e9 e10 e11 e12
      exact ⟨⟨A0, A1, A2, A3, A4, A5, A6, A7, A8⟩, rfl, w0, w1, w2, w3, w4, w5, w6, w7, w8⟩
theorem add_plainA (b off j : Nat) : (⟨b, off, none⟩ : Addr).add j = ⟨b, off + j, none⟩ := by simp [Addr.add]
set_option maxRecDepth 100000 in
theorem open_EvA {H : Type} {enc : TypeId × Value → H} {W : World} {b0 : Nat} {v : Value} {d : DataW H} {p : List MemPlace} (hv : Value.okWide Try.prog W .any b0 69 v) (h : DataW.Trod enc Try.prog W 0 (fun _ => true) true 69 v d p) : ∃ a : EvA, v = .agg a.cs ∧ a.ok := by
  obtain ⟨cs, rfl, hs⟩ := okWide_struct Try.underlying69 hv
  obtain ⟨fuel, hf⟩ := h
  rw [cl_EvA] at hs
  obtain ⟨cl⟩ := cs
  have hs' : cl.length = 13 := by simpa using hs
  obtain ⟨a, e, wa⟩ := fields_EvA (cs := cl) (by simpa [Value.cells] using hf) hs'
  subst e
  exact ⟨a, rfl, wa⟩
structure RowEvA (w : World) (b off : Nat) (xs : List EvA) : Prop where
  lt : b < w.heap.size
  c0 : ∀ i (h : i < xs.length), w.cell? ⟨b, off + i * 13, none⟩ = some (.int .i64 xs[i].at_)
  c1 : ∀ i (h : i < xs.length), w.cell? ⟨b, off + i * 13 + 1, none⟩ = some (.int .i64 xs[i].kd)
  c2 : ∀ i (h : i < xs.length), w.cell? ⟨b, off + i * 13 + 2, none⟩ = some (.int .i64 xs[i].cl)
  c3 : ∀ i (h : i < xs.length), w.cell? ⟨b, off + i * 13 + 3, none⟩ = some (.int .i64 xs[i].ca)
  c4 : ∀ i (h : i < xs.length), w.cell? ⟨b, off + i * 13 + 4, none⟩ = some (.int .i64 xs[i].ru)
  c5 : ∀ i (h : i < xs.length), w.cell? ⟨b, off + i * 13 + 5, none⟩ = some (.int .i64 xs[i].ge)
  c6 : ∀ i (h : i < xs.length), w.cell? ⟨b, off + i * 13 + 6, none⟩ = some (.int .i64 xs[i].ho)
  c7 : ∀ i (h : i < xs.length), w.cell? ⟨b, off + i * 13 + 7, none⟩ = some (.int .u16 xs[i].k.sp)
  c8 : ∀ i (h : i < xs.length), w.cell? ⟨b, off + i * 13 + 8, none⟩ = some (.string xs[i].k.nm)
  c9 : ∀ i (h : i < xs.length), w.cell? ⟨b, off + i * 13 + 9, none⟩ = some (.int .i64 xs[i].o.va)
  c10 : ∀ i (h : i < xs.length), w.cell? ⟨b, off + i * 13 + 10, none⟩ = some (.int .i64 xs[i].o.f.kd)
  c11 : ∀ i (h : i < xs.length), w.cell? ⟨b, off + i * 13 + 11, none⟩ = some (.int .i64 xs[i].o.f.cd)
  c12 : ∀ i (h : i < xs.length), w.cell? ⟨b, off + i * 13 + 12, none⟩ = some (.int .i64 xs[i].o.f.rn)
def SlEvA (w : World) (v : Value) (xs : List EvA) : Prop := (xs = [] ∧ ∃ a c, v = .slice a 0 c) ∨ ∃ b off cap, v = .slice (some ⟨b, off, none⟩) xs.length cap ∧ RowEvA w b off xs
theorem RowEvA.keep {w w' : World} {b off : Nat} {xs : List EvA} (h : RowEvA w b off xs) (ht : Touch [] w w') : RowEvA w' b off xs := by
  have e : w'.heap[b]? = w.heap[b]? := ht.block b h.lt (by simp)
  refine ⟨Nat.lt_of_lt_of_le h.lt ht.size, fun i hi => ?_, fun i hi => ?_, fun i hi => ?_, fun i hi => ?_, fun i hi => ?_, fun i hi => ?_, fun i hi => ?_, fun i hi => ?_, fun i hi => ?_, fun i hi => ?_, fun i hi => ?_, fun i hi => ?_, fun i hi => ?_⟩
  · rw [World.cell?_of_block (by exact e)]; exact h.c0 i hi
  · rw [World.cell?_of_block (by exact e)]; exact h.c1 i hi
  · rw [World.cell?_of_block (by exact e)]; exact h.c2 i hi
  · rw [World.cell?_of_block (by exact e)]; exact h.c3 i hi
  · rw [World.cell?_of_block (by exact e)]; exact h.c4 i hi
  · rw [World.cell?_of_block (by exact e)]; exact h.c5 i hi
  · rw [World.cell?_of_block (by exact e)]; exact h.c6 i hi
  · rw [World.cell?_of_block (by exact e)]; exact h.c7 i hi
  · rw [World.cell?_of_block (by exact e)]; exact h.c8 i hi
  · rw [World.cell?_of_block (by exact e)]; exact h.c9 i hi
  · rw [World.cell?_of_block (by exact e)]; exact h.c10 i hi
  · rw [World.cell?_of_block (by exact e)]; exact h.c11 i hi
  · rw [World.cell?_of_block (by exact e)]; exact h.c12 i hi
set_option maxRecDepth 100000 in
theorem open_EvAs {H : Type} {enc : TypeId × Value → H} {W : World} {b0 : Nat} {v : Value} {d : DataW H} {p : List MemPlace} (hv : Value.okWide Try.prog W .any b0 22 v) (h : DataW.Trod enc Try.prog W 0 (fun _ => true) true 22 v d p) :
    ∃ xs : List EvA, SlEvA W v xs ∧ (∀ x ∈ xs, x.ok) ∧ (xs = [] ∨ ∃ elems spare, d = .slice elems spare ∧ elems.length = xs.length) := by
  obtain ⟨a, len, cap, rfl⟩ := okWide_slice Try.underlying22 hv
  obtain ⟨fuel, hf⟩ := h
  rcases Deep.open_slice Try.underlying22 hf with ⟨hcs, _⟩ | ⟨x, l, c, m, n, D, Pl, hcs, _, hl, hm, hmm, hx, hall⟩
  · simp [Value.cells] at hcs
    obtain ⟨rfl, rfl, rfl⟩ := hcs
    exact ⟨[], Or.inl ⟨rfl, _, _, rfl⟩, fun x hx => by simp at hx, Or.inl rfl⟩
  · simp [Value.cells] at hcs
    obtain ⟨rfl, rfl, rfl⟩ := hcs
    simp only [if_true] at hmm
    subst hmm
    simp only [Prod.mk.injEq] at hx
    obtain ⟨rfl, rfl⟩ := hx
    rw [cl_EvA] at hall
    have each : ∀ i, i < m → ∃ q : EvA, W.cell? (x.add (i * 13)) = some (.int .i64 q.at_) ∧ W.cell? (x.add (i * 13 + 1)) = some (.int .i64 q.kd) ∧ W.cell? (x.add (i * 13 + 2)) = some (.int .i64 q.cl) ∧ W.cell? (x.add (i * 13 + 3)) = some (.int .i64 q.ca) ∧ W.cell? (x.add (i * 13 + 4)) = some (.int .i64 q.ru) ∧ W.cell? (x.add (i * 13 + 5)) = some (.int .i64 q.ge) ∧ W.cell? (x.add (i * 13 + 6)) = some (.int .i64 q.ho) ∧ W.cell? (x.add (i * 13 + 7)) = some (.int .u16 q.k.sp) ∧ W.cell? (x.add (i * 13 + 8)) = some (.string q.k.nm) ∧ W.cell? (x.add (i * 13 + 9)) = some (.int .i64 q.o.va) ∧ W.cell? (x.add (i * 13 + 10)) = some (.int .i64 q.o.f.kd) ∧ W.cell? (x.add (i * 13 + 11)) = some (.int .i64 q.o.f.cd) ∧ W.cell? (x.add (i * 13 + 12)) = some (.int .i64 q.o.f.rn) ∧ q.ok := fun i hi => by
      obtain ⟨cs', h1, h2⟩ := hall i hi
      obtain ⟨_, hlen, hcell⟩ := World.cells?_some h1
      obtain ⟨q, rfl, wq⟩ := fields_EvA h2 hlen
      have e0 := hcell 0 (by omega)
      have e1 := hcell 1 (by omega)
      have e2 := hcell 2 (by omega)
      have e3 := hcell 3 (by omega)
      have e4 := hcell 4 (by omega)
      have e5 := hcell 5 (by omega)
      have e6 := hcell 6 (by omega)
      have e7 := hcell 7 (by omega)
      have e8 := hcell 8 (by omega)
      have e9 := hcell 9 (by omega)
      have e10 := hcell 10 (by omega)
      have e11 := hcell 11 (by omega)
      have e12 := hcell 12 (by omega)
      rw [Deep.add_add] at e0 e1 e2 e3 e4 e5 e6 e7 e8 e9 e10 e11 e12
      exact ⟨q, by simpa [EvA.cs] using e0, by simpa [EvA.cs] using e1, by simpa [EvA.cs] using e2, by simpa [EvA.cs] using e3, by simpa [EvA.cs] using e4, by simpa [EvA.cs] using e5, by simpa [EvA.cs] using e6, by simpa [EvA.cs] using e7, by simpa [EvA.cs] using e8, by simpa [EvA.cs] using e9, by simpa [EvA.cs] using e10, by simpa [EvA.cs] using e11, by simpa [EvA.cs] using e12, wq⟩
    haveI : Inhabited EvA := ⟨⟨0, 0, 0, 0, 0, 0, 0, ⟨0, ⟨#[]⟩⟩, ⟨0, ⟨0, 0, 0⟩⟩⟩⟩
    obtain ⟨q, hq⟩ := Deep.choose_lt each
    rcases Nat.eq_zero_or_pos len with e | e
    · subst e
      exact ⟨[], Or.inl ⟨rfl, _, _, rfl⟩, fun x hx => by simp at hx, Or.inl rfl⟩
    · have hsp : x.spot = none := by
        have h0 := (hq 0 (by omega)).1
        rw [show x.add (0 * 13) = x by simp [Addr.add]] at h0
        unfold World.cell? at h0
        split at h0
        · split at h0
          · cases h0
          · rename_i hs
            cases hh : x.spot with
            | none => rfl
            | some z => rw [hh] at hs; exact absurd rfl hs
        · cases h0
      obtain ⟨b, off, r⟩ := x
      obtain rfl : r = none := hsp
      have hlen : ((List.range len).map q).length = len := by simp
      refine ⟨(List.range len).map q, Or.inr ⟨b, off, m, by rw [hlen], ?_, fun i hi => ?_, fun i hi => ?_, fun i hi => ?_, fun i hi => ?_, fun i hi => ?_, fun i hi => ?_, fun i hi => ?_, fun i hi => ?_, fun i hi => ?_, fun i hi => ?_, fun i hi => ?_, fun i hi => ?_, fun i hi => ?_⟩, fun y hy => ?_, Or.inr ⟨_, _, rfl, by simp⟩⟩
      · rcases Nat.lt_or_ge b W.heap.size with h | h
        · exact h
        · have h0 := (hq 0 (by omega)).1
          simp [World.cell?, add_plainA, Array.getElem?_eq_none h] at h0
      · rw [hlen] at hi
        have h0 := (hq i (by omega)).1
        simpa [add_plainA, Nat.add_assoc] using h0
      · rw [hlen] at hi
        have h0 := (hq i (by omega)).2.1
        simpa [add_plainA, Nat.add_assoc] using h0
      · rw [hlen] at hi
        have h0 := (hq i (by omega)).2.2.1
        simpa [add_plainA, Nat.add_assoc] using h0
      · rw [hlen] at hi
        have h0 := (hq i (by omega)).2.2.2.1
        simpa [add_plainA, Nat.add_assoc] using h0
      · rw [hlen] at hi
        have h0 := (hq i (by omega)).2.2.2.2.1
        simpa [add_plainA, Nat.add_assoc] using h0
      · rw [hlen] at hi
        have h0 := (hq i (by omega)).2.2.2.2.2.1
        simpa [add_plainA, Nat.add_assoc] using h0
      · rw [hlen] at hi
        have h0 := (hq i (by omega)).2.2.2.2.2.2.1
        simpa [add_plainA, Nat.add_assoc] using h0
      · rw [hlen] at hi
        have h0 := (hq i (by omega)).2.2.2.2.2.2.2.1
        simpa [add_plainA, Nat.add_assoc] using h0
      · rw [hlen] at hi
        have h0 := (hq i (by omega)).2.2.2.2.2.2.2.2.1
        simpa [add_plainA, Nat.add_assoc] using h0
      · rw [hlen] at hi
        have h0 := (hq i (by omega)).2.2.2.2.2.2.2.2.2.1
        simpa [add_plainA, Nat.add_assoc] using h0
      · rw [hlen] at hi
        have h0 := (hq i (by omega)).2.2.2.2.2.2.2.2.2.2.1
        simpa [add_plainA, Nat.add_assoc] using h0
      · rw [hlen] at hi
        have h0 := (hq i (by omega)).2.2.2.2.2.2.2.2.2.2.2.1
        simpa [add_plainA, Nat.add_assoc] using h0
      · rw [hlen] at hi
        have h0 := (hq i (by omega)).2.2.2.2.2.2.2.2.2.2.2.2.1
        simpa [add_plainA, Nat.add_assoc] using h0
      · simp only [List.mem_map, List.mem_range] at hy
        obtain ⟨i, hi, rfl⟩ := hy
        exact (hq i (by omega)).2.2.2.2.2.2.2.2.2.2.2.2.2
set_option maxRecDepth 100000 in
theorem laidOut : laidOutB Try.prog = true := by kernel_rfl

namespace Tr
def _root_.Go.Proofs.Ytibgfkjhohgkhaa.EvA.z (a : EvA) : Ez := ⟨a.at_, a.kd, a.cl, a.ca, a.ru, a.ge, a.ho, a.k.sp, a.k.nm, a.o.va, a.o.f.kd, a.o.f.cd, a.o.f.rn⟩
theorem z_ok {a : EvA} (h : a.ok) : a.z.ok := ⟨h.1, h.2.1, h.2.2.1, h.2.2.2.1, h.2.2.2.2.1, h.2.2.2.2.2.1, h.2.2.2.2.2.2.1, h.2.2.2.2.2.2.2.1.1, h.2.2.2.2.2.2.2.1.2, h.2.2.2.2.2.2.2.2.1, h.2.2.2.2.2.2.2.2.2.1, h.2.2.2.2.2.2.2.2.2.2.1, h.2.2.2.2.2.2.2.2.2.2.2⟩
theorem z_val (a : EvA) : a.z.val = .agg a.cs := rfl


end Tr
end Go.Proofs.Ytibgfkjhohgkhaa
