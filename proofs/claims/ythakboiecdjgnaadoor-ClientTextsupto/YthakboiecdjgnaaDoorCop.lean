/- A program, an act and a slice of acts as arguments, opened; no conditions. -/
import Derived.Test.YthakboiecdjgnaaDoorRows
import Derived.Test.YthakboiecdjgnaaDoorCth
import Derived.WalkKit
import Derived.ProofKit
import Derived.OpenShut
import Derived.ShutString
import Derived.Deep.Slices
namespace Go.Proofs.YthakboiecdjgnaaDoor
open Go.ChangeShapes Go.WideShapes Go.ChangeAt Go.RowKit
set_option linter.unusedVariables false
theorem cl_Tintuint16 : Tryd.prog.cellsOf 43 = 1 := by kernel_rfl
theorem cl_9 : Tryd.prog.cellsOf 9 = 1 := by kernel_rfl
theorem cl_3 : Tryd.prog.cellsOf 3 = 1 := by kernel_rfl
theorem cl_2 : Tryd.prog.cellsOf 2 = 1 := by kernel_rfl
theorem cl_KyA : Tryd.prog.cellsOf 45 = 2 := by kernel_rfl
structure KyA where
  sp : Int
  nm : ByteArray
def KyA.ok (a : KyA) : Prop := (Lit.int .u16 a.sp).wf = true ∧ a.nm.size ≤ maxLen
def KyA.cs (a : KyA) : Array Value := #[.int .u16 a.sp, .string a.nm]
set_option maxRecDepth 100000 in
theorem fields_KyA {H : Type} {enc : TypeId × Value → H} {W : World} {base fuel : Nat} {spare : Nat → Bool} {held : Bool} {cs : List Value} {x : DataW H × List MemPlace} (h : DataW.trod enc Tryd.prog W base spare held fuel 45 cs = some x) (hl : cs.length = 2) :
    ∃ a : KyA, cs = a.cs.toList ∧ a.ok := by
  obtain ⟨ys, k, hk, hxy, _, hyl, hfe⟩ := DataW.trod_struct Tryd.underlying45 h
  match cs, hl with
  | [v0, v1], _ =>
    have hy : ys.length = 2 := hyl
    match ys, hy with
    | [y0, y1], _ =>
      have g0 := hfe 0 _ rfl
      have g1 := hfe 1 _ rfl
      simp [cl_9, cl_Tintuint16] at g0 g1
      obtain ⟨A0, e0, _, w0⟩ := DataW.trod_int Tryd.underlying43 g0
      obtain ⟨A1, e1, _, w1⟩ := DataW.trod_string Tryd.underlying9 g1
      simp only [List.cons.injEq, and_true] at e0 e1
      subst e0 e1
      exact ⟨⟨A0, A1⟩, rfl, w0, w1⟩
theorem cl_DoA : Tryd.prog.cellsOf 47 = 5 := by kernel_rfl
structure DoA where
  op : Int
  k : KyA
  n : Int
  sl : Int
def DoA.ok (a : DoA) : Prop := W64 a.op ∧ KyA.ok a.k ∧ W64 a.n ∧ W64 a.sl
def DoA.cs (a : DoA) : Array Value := #[.int .i64 a.op, .int .u16 a.k.sp, .string a.k.nm, .int .i64 a.n, .int .i64 a.sl]
set_option maxRecDepth 100000 in
theorem fields_DoA {H : Type} {enc : TypeId × Value → H} {W : World} {base fuel : Nat} {spare : Nat → Bool} {held : Bool} {cs : List Value} {x : DataW H × List MemPlace} (h : DataW.trod enc Tryd.prog W base spare held fuel 47 cs = some x) (hl : cs.length = 5) :
    ∃ a : DoA, cs = a.cs.toList ∧ a.ok := by
  obtain ⟨ys, k, hk, hxy, _, hyl, hfe⟩ := DataW.trod_struct Tryd.underlying47 h
  match cs, hl with
  | [v0, v1, v2, v3, v4], _ =>
    have hy : ys.length = 4 := hyl
    match ys, hy with
    | [y0, y1, y2, y3], _ =>
      have g0 := hfe 0 _ rfl
      have g1 := hfe 1 _ rfl
      have g2 := hfe 2 _ rfl
      have g3 := hfe 3 _ rfl
      simp [cl_2, cl_3, cl_KyA] at g0 g1 g2 g3
      obtain ⟨A0, e0, _, w0⟩ := DataW.trod_int Tryd.underlying3 g0
      obtain ⟨A1, b1, w1⟩ := fields_KyA g1 rfl
      simp only [KyA.cs, List.cons.injEq, and_true] at b1
      obtain ⟨e1, e2⟩ := b1
      obtain ⟨A2, e3, _, w2⟩ := DataW.trod_int Tryd.underlying2 g2
      obtain ⟨A3, e4, _, w3⟩ := DataW.trod_int Tryd.underlying3 g3
      simp only [List.cons.injEq, and_true] at e0 e3 e4
      subst e0 e1 e2 e3 e4
      exact ⟨⟨A0, A1, A2, A3⟩, rfl, w0, w1, w2, w3⟩
theorem cl_FaA : Tryd.prog.cellsOf 56 = 3 := by kernel_rfl
structure FaA where
  kd : Int
  cd : Int
  rn : Int
def FaA.ok (a : FaA) : Prop := W64 a.kd ∧ W64 a.cd ∧ W64 a.rn
def FaA.cs (a : FaA) : Array Value := #[.int .i64 a.kd, .int .i64 a.cd, .int .i64 a.rn]
set_option maxRecDepth 100000 in
theorem fields_FaA {H : Type} {enc : TypeId × Value → H} {W : World} {base fuel : Nat} {spare : Nat → Bool} {held : Bool} {cs : List Value} {x : DataW H × List MemPlace} (h : DataW.trod enc Tryd.prog W base spare held fuel 56 cs = some x) (hl : cs.length = 3) :
    ∃ a : FaA, cs = a.cs.toList ∧ a.ok := by
  obtain ⟨ys, k, hk, hxy, _, hyl, hfe⟩ := DataW.trod_struct Tryd.underlying56 h
  match cs, hl with
  | [v0, v1, v2], _ =>
    have hy : ys.length = 3 := hyl
    match ys, hy with
    | [y0, y1, y2], _ =>
      have g0 := hfe 0 _ rfl
      have g1 := hfe 1 _ rfl
      have g2 := hfe 2 _ rfl
      simp [cl_3] at g0 g1 g2
      obtain ⟨A0, e0, _, w0⟩ := DataW.trod_int Tryd.underlying3 g0
      obtain ⟨A1, e1, _, w1⟩ := DataW.trod_int Tryd.underlying3 g1
      obtain ⟨A2, e2, _, w2⟩ := DataW.trod_int Tryd.underlying3 g2
      simp only [List.cons.injEq, and_true] at e0 e1 e2
      subst e0 e1 e2
      exact ⟨⟨A0, A1, A2⟩, rfl, w0, w1, w2⟩
theorem cl_OuA : Tryd.prog.cellsOf 58 = 4 := by kernel_rfl
structure OuA where
  va : Int
  f : FaA
def OuA.ok (a : OuA) : Prop := W64 a.va ∧ FaA.ok a.f
def OuA.cs (a : OuA) : Array Value := #[.int .i64 a.va, .int .i64 a.f.kd, .int .i64 a.f.cd, .int .i64 a.f.rn]
set_option maxRecDepth 100000 in
theorem fields_OuA {H : Type} {enc : TypeId × Value → H} {W : World} {base fuel : Nat} {spare : Nat → Bool} {held : Bool} {cs : List Value} {x : DataW H × List MemPlace} (h : DataW.trod enc Tryd.prog W base spare held fuel 58 cs = some x) (hl : cs.length = 4) :
    ∃ a : OuA, cs = a.cs.toList ∧ a.ok := by
  obtain ⟨ys, k, hk, hxy, _, hyl, hfe⟩ := DataW.trod_struct Tryd.underlying58 h
  match cs, hl with
  | [v0, v1, v2, v3], _ =>
    have hy : ys.length = 2 := hyl
    match ys, hy with
    | [y0, y1], _ =>
      have g0 := hfe 0 _ rfl
      have g1 := hfe 1 _ rfl
      simp [cl_2, cl_FaA] at g0 g1
      obtain ⟨A0, e0, _, w0⟩ := DataW.trod_int Tryd.underlying2 g0
      obtain ⟨A1, b1, w1⟩ := fields_FaA g1 rfl
      simp only [FaA.cs, List.cons.injEq, and_true] at b1
      obtain ⟨e1, e2, e3⟩ := b1
      simp only [List.cons.injEq, and_true] at e0
      subst e0 e1 e2 e3
      exact ⟨⟨A0, A1⟩, rfl, w0, w1⟩
theorem cl_GoA : Tryd.prog.cellsOf 60 = 7 := by kernel_rfl
structure GoA where
  pl : Int
  ho : Int
  o : OuA
  tm : Int
def GoA.ok (a : GoA) : Prop := W64 a.pl ∧ W64 a.ho ∧ OuA.ok a.o ∧ W64 a.tm
def GoA.cs (a : GoA) : Array Value := #[.int .i64 a.pl, .int .i64 a.ho, .int .i64 a.o.va, .int .i64 a.o.f.kd, .int .i64 a.o.f.cd, .int .i64 a.o.f.rn, .int .i64 a.tm]
set_option maxRecDepth 100000 in
theorem fields_GoA {H : Type} {enc : TypeId × Value → H} {W : World} {base fuel : Nat} {spare : Nat → Bool} {held : Bool} {cs : List Value} {x : DataW H × List MemPlace} (h : DataW.trod enc Tryd.prog W base spare held fuel 60 cs = some x) (hl : cs.length = 7) :
    ∃ a : GoA, cs = a.cs.toList ∧ a.ok := by
  obtain ⟨ys, k, hk, hxy, _, hyl, hfe⟩ := DataW.trod_struct Tryd.underlying60 h
  match cs, hl with
  | [v0, v1, v2, v3, v4, v5, v6], _ =>
    have hy : ys.length = 4 := hyl
    match ys, hy with
    | [y0, y1, y2, y3], _ =>
      have g0 := hfe 0 _ rfl
      have g1 := hfe 1 _ rfl
      have g2 := hfe 2 _ rfl
      have g3 := hfe 3 _ rfl
      simp [cl_2, cl_3, cl_OuA] at g0 g1 g2 g3
      obtain ⟨A0, e0, _, w0⟩ := DataW.trod_int Tryd.underlying3 g0
      obtain ⟨A1, e1, _, w1⟩ := DataW.trod_int Tryd.underlying3 g1
      obtain ⟨A2, b2, w2⟩ := fields_OuA g2 rfl
      simp only [OuA.cs, List.cons.injEq, and_true] at b2
      obtain ⟨e2, e3, e4, e5⟩ := b2
      obtain ⟨A3, e6, _, w3⟩ := DataW.trod_int Tryd.underlying2 g3
      simp only [List.cons.injEq, and_true] at e0 e1 e6
      subst e0 e1 e2 e3 e4 e5 e6
      exact ⟨⟨A0, A1, A2, A3⟩, rfl, w0, w1, w2, w3⟩
theorem cl_AcA : Tryd.prog.cellsOf 67 = 10 := by kernel_rfl
structure AcA where
  kd : Int
  n : Int
  cl : Int
  g : GoA
def AcA.ok (a : AcA) : Prop := W64 a.kd ∧ W64 a.n ∧ W64 a.cl ∧ GoA.ok a.g
def AcA.cs (a : AcA) : Array Value := #[.int .i64 a.kd, .int .i64 a.n, .int .i64 a.cl, .int .i64 a.g.pl, .int .i64 a.g.ho, .int .i64 a.g.o.va, .int .i64 a.g.o.f.kd, .int .i64 a.g.o.f.cd, .int .i64 a.g.o.f.rn, .int .i64 a.g.tm]
set_option maxRecDepth 100000 in
theorem fields_AcA {H : Type} {enc : TypeId × Value → H} {W : World} {base fuel : Nat} {spare : Nat → Bool} {held : Bool} {cs : List Value} {x : DataW H × List MemPlace} (h : DataW.trod enc Tryd.prog W base spare held fuel 67 cs = some x) (hl : cs.length = 10) :
    ∃ a : AcA, cs = a.cs.toList ∧ a.ok := by
  obtain ⟨ys, k, hk, hxy, _, hyl, hfe⟩ := DataW.trod_struct Tryd.underlying67 h
  match cs, hl with
  | [v0, v1, v2, v3, v4, v5, v6, v7, v8, v9], _ =>
    have hy : ys.length = 4 := hyl
    match ys, hy with
    | [y0, y1, y2, y3], _ =>
      have g0 := hfe 0 _ rfl
      have g1 := hfe 1 _ rfl
      have g2 := hfe 2 _ rfl
      have g3 := hfe 3 _ rfl
      simp [cl_3, cl_GoA] at g0 g1 g2 g3
      obtain ⟨A0, e0, _, w0⟩ := DataW.trod_int Tryd.underlying3 g0
      obtain ⟨A1, e1, _, w1⟩ := DataW.trod_int Tryd.underlying3 g1
      obtain ⟨A2, e2, _, w2⟩ := DataW.trod_int Tryd.underlying3 g2
      obtain ⟨A3, b3, w3⟩ := fields_GoA g3 rfl
      simp only [GoA.cs, List.cons.injEq, and_true] at b3
      obtain ⟨e3, e4, e5, e6, e7, e8, e9⟩ := b3
      simp only [List.cons.injEq, and_true] at e0 e1 e2
      subst e0 e1 e2 e3 e4 e5 e6 e7 e8 e9
      exact ⟨⟨A0, A1, A2, A3⟩, rfl, w0, w1, w2, w3⟩
theorem add_plainA (b off j : Nat) : (⟨b, off, none⟩ : Addr).add j = ⟨b, off + j, none⟩ := by simp [Addr.add]
set_option maxRecDepth 100000 in
theorem open_AcA {H : Type} {enc : TypeId × Value → H} {W : World} {b0 : Nat} {v : Value} {d : DataW H} {p : List MemPlace} (hv : Value.okWide Tryd.prog W .any b0 67 v) (h : DataW.Trod enc Tryd.prog W 0 (fun _ => true) true 67 v d p) : ∃ a : AcA, v = .agg a.cs ∧ a.ok := by
  obtain ⟨cs, rfl, hs⟩ := okWide_struct Tryd.underlying67 hv
  obtain ⟨fuel, hf⟩ := h
  rw [cl_AcA] at hs
  obtain ⟨cl⟩ := cs
  have hs' : cl.length = 10 := by simpa using hs
  obtain ⟨a, e, wa⟩ := fields_AcA (cs := cl) (by simpa [Value.cells] using hf) hs'
  subst e
  exact ⟨a, rfl, wa⟩
structure RowDoA (w : World) (b off : Nat) (xs : List DoA) : Prop where
  lt : b < w.heap.size
  c0 : ∀ i (h : i < xs.length), w.cell? ⟨b, off + i * 5, none⟩ = some (.int .i64 xs[i].op)
  c1 : ∀ i (h : i < xs.length), w.cell? ⟨b, off + i * 5 + 1, none⟩ = some (.int .u16 xs[i].k.sp)
  c2 : ∀ i (h : i < xs.length), w.cell? ⟨b, off + i * 5 + 2, none⟩ = some (.string xs[i].k.nm)
  c3 : ∀ i (h : i < xs.length), w.cell? ⟨b, off + i * 5 + 3, none⟩ = some (.int .i64 xs[i].n)
  c4 : ∀ i (h : i < xs.length), w.cell? ⟨b, off + i * 5 + 4, none⟩ = some (.int .i64 xs[i].sl)
def SlDoA (w : World) (v : Value) (xs : List DoA) : Prop := (xs = [] ∧ ∃ a c, v = .slice a 0 c) ∨ ∃ b off cap, v = .slice (some ⟨b, off, none⟩) xs.length cap ∧ RowDoA w b off xs
theorem RowDoA.keep {w w' : World} {b off : Nat} {xs : List DoA} (h : RowDoA w b off xs) (ht : Touch [] w w') : RowDoA w' b off xs := by
  have e : w'.heap[b]? = w.heap[b]? := ht.block b h.lt (by simp)
  refine ⟨Nat.lt_of_lt_of_le h.lt ht.size, fun i hi => ?_, fun i hi => ?_, fun i hi => ?_, fun i hi => ?_, fun i hi => ?_⟩
  · rw [World.cell?_of_block (by exact e)]; exact h.c0 i hi
  · rw [World.cell?_of_block (by exact e)]; exact h.c1 i hi
  · rw [World.cell?_of_block (by exact e)]; exact h.c2 i hi
  · rw [World.cell?_of_block (by exact e)]; exact h.c3 i hi
  · rw [World.cell?_of_block (by exact e)]; exact h.c4 i hi
set_option maxRecDepth 100000 in
theorem open_DoAs {H : Type} {enc : TypeId × Value → H} {W : World} {b0 : Nat} {v : Value} {d : DataW H} {p : List MemPlace} (hv : Value.okWide Tryd.prog W .any b0 22 v) (h : DataW.Trod enc Tryd.prog W 0 (fun _ => true) true 22 v d p) :
    ∃ xs : List DoA, SlDoA W v xs ∧ (∀ x ∈ xs, x.ok) ∧ (xs = [] ∨ ∃ elems spare, d = .slice elems spare ∧ elems.length = xs.length) := by
  obtain ⟨a, len, cap, rfl⟩ := okWide_slice Tryd.underlying22 hv
  obtain ⟨fuel, hf⟩ := h
  rcases Deep.open_slice Tryd.underlying22 hf with ⟨hcs, _⟩ | ⟨x, l, c, m, n, D, Pl, hcs, _, hl, hm, hmm, hx, hall⟩
  · simp [Value.cells] at hcs
    obtain ⟨rfl, rfl, rfl⟩ := hcs
    exact ⟨[], Or.inl ⟨rfl, _, _, rfl⟩, fun x hx => by simp at hx, Or.inl rfl⟩
  · simp [Value.cells] at hcs
    obtain ⟨rfl, rfl, rfl⟩ := hcs
    simp only [if_true] at hmm
    subst hmm
    simp only [Prod.mk.injEq] at hx
    obtain ⟨rfl, rfl⟩ := hx
    rw [cl_DoA] at hall
    have each : ∀ i, i < m → ∃ q : DoA, W.cell? (x.add (i * 5)) = some (.int .i64 q.op) ∧ W.cell? (x.add (i * 5 + 1)) = some (.int .u16 q.k.sp) ∧ W.cell? (x.add (i * 5 + 2)) = some (.string q.k.nm) ∧ W.cell? (x.add (i * 5 + 3)) = some (.int .i64 q.n) ∧ W.cell? (x.add (i * 5 + 4)) = some (.int .i64 q.sl) ∧ q.ok := fun i hi => by
      obtain ⟨cs', h1, h2⟩ := hall i hi
      obtain ⟨_, hlen, hcell⟩ := World.cells?_some h1
      obtain ⟨q, rfl, wq⟩ := fields_DoA h2 hlen
      have e0 := hcell 0 (by omega)
      have e1 := hcell 1 (by omega)
      have e2 := hcell 2 (by omega)
      have e3 := hcell 3 (by omega)
      have e4 := hcell 4 (by omega)
      rw [Deep.add_add] at e0 e1 e2 e3 e4
      exact ⟨q, by simpa [DoA.cs] using e0, by simpa [DoA.cs] using e1, by simpa [DoA.cs] using e2, by simpa [DoA.cs] using e3, by simpa [DoA.cs] using e4, wq⟩
    haveI : Inhabited DoA := ⟨⟨0, ⟨0, ⟨#[]⟩⟩, 0, 0⟩⟩
    obtain ⟨q, hq⟩ := Deep.choose_lt each
    rcases Nat.eq_zero_or_pos len with e | e
    · subst e
      exact ⟨[], Or.inl ⟨rfl, _, _, rfl⟩, fun x hx => by simp at hx, Or.inl rfl⟩
    · have hsp : x.spot = none := by
        have h0 := (hq 0 (by omega)).1
        rw [show x.add (0 * 5) = x by simp [Addr.add]] at h0
        unfold World.cell? at h0
        split at h0
        · split at h0
          · cases h0
          · rename_i hs
            cases hh : x.spot with
            | none => rfl
            | some z => rw [hh] at hs; exact absurd rfl hs
        · cases h0
      obtain ⟨b, off, r⟩ := x
      obtain rfl : r = none := hsp
      have hlen : ((List.range len).map q).length = len := by simp
      refine ⟨(List.range len).map q, Or.inr ⟨b, off, m, by rw [hlen], ?_, fun i hi => ?_, fun i hi => ?_, fun i hi => ?_, fun i hi => ?_, fun i hi => ?_⟩, fun y hy => ?_, Or.inr ⟨_, _, rfl, by simp⟩⟩
      · rcases Nat.lt_or_ge b W.heap.size with h | h
        · exact h
        · have h0 := (hq 0 (by omega)).1
          simp [World.cell?, add_plainA, Array.getElem?_eq_none h] at h0
      · rw [hlen] at hi
        have h0 := (hq i (by omega)).1
        simpa [add_plainA, Nat.add_assoc] using h0
      · rw [hlen] at hi
        have h0 := (hq i (by omega)).2.1
        simpa [add_plainA, Nat.add_assoc] using h0
      · rw [hlen] at hi
        have h0 := (hq i (by omega)).2.2.1
        simpa [add_plainA, Nat.add_assoc] using h0
      · rw [hlen] at hi
        have h0 := (hq i (by omega)).2.2.2.1
        simpa [add_plainA, Nat.add_assoc] using h0
      · rw [hlen] at hi
        have h0 := (hq i (by omega)).2.2.2.2.1
        simpa [add_plainA, Nat.add_assoc] using h0
      · simp only [List.mem_map, List.mem_range] at hy
        obtain ⟨i, hi, rfl⟩ := hy
        exact (hq i (by omega)).2.2.2.2.2
structure RowAcA (w : World) (b off : Nat) (xs : List AcA) : Prop where
  lt : b < w.heap.size
  c0 : ∀ i (h : i < xs.length), w.cell? ⟨b, off + i * 10, none⟩ = some (.int .i64 xs[i].kd)
  c1 : ∀ i (h : i < xs.length), w.cell? ⟨b, off + i * 10 + 1, none⟩ = some (.int .i64 xs[i].n)
  c2 : ∀ i (h : i < xs.length), w.cell? ⟨b, off + i * 10 + 2, none⟩ = some (.int .i64 xs[i].cl)
  c3 : ∀ i (h : i < xs.length), w.cell? ⟨b, off + i * 10 + 3, none⟩ = some (.int .i64 xs[i].g.pl)
  c4 : ∀ i (h : i < xs.length), w.cell? ⟨b, off + i * 10 + 4, none⟩ = some (.int .i64 xs[i].g.ho)
  c5 : ∀ i (h : i < xs.length), w.cell? ⟨b, off + i * 10 + 5, none⟩ = some (.int .i64 xs[i].g.o.va)
  c6 : ∀ i (h : i < xs.length), w.cell? ⟨b, off + i * 10 + 6, none⟩ = some (.int .i64 xs[i].g.o.f.kd)
  c7 : ∀ i (h : i < xs.length), w.cell? ⟨b, off + i * 10 + 7, none⟩ = some (.int .i64 xs[i].g.o.f.cd)
  c8 : ∀ i (h : i < xs.length), w.cell? ⟨b, off + i * 10 + 8, none⟩ = some (.int .i64 xs[i].g.o.f.rn)
  c9 : ∀ i (h : i < xs.length), w.cell? ⟨b, off + i * 10 + 9, none⟩ = some (.int .i64 xs[i].g.tm)
def SlAcA (w : World) (v : Value) (xs : List AcA) : Prop := (xs = [] ∧ ∃ a c, v = .slice a 0 c) ∨ ∃ b off cap, v = .slice (some ⟨b, off, none⟩) xs.length cap ∧ RowAcA w b off xs
theorem RowAcA.keep {w w' : World} {b off : Nat} {xs : List AcA} (h : RowAcA w b off xs) (ht : Touch [] w w') : RowAcA w' b off xs := by
  have e : w'.heap[b]? = w.heap[b]? := ht.block b h.lt (by simp)
  refine ⟨Nat.lt_of_lt_of_le h.lt ht.size, fun i hi => ?_, fun i hi => ?_, fun i hi => ?_, fun i hi => ?_, fun i hi => ?_, fun i hi => ?_, fun i hi => ?_, fun i hi => ?_, fun i hi => ?_, fun i hi => ?_⟩
  · rw [World.cell?_of_block (by exact e)]; exact h.c0 i hi
  · rw [World.cell?_of_block (by exact e)]; exact h.c1 i hi
  · rw [World.cell?_of_block (by exact e)]; exact h.c2 i hi
  · rw [World.cell?_of_block (by exact e)]; exact h.c3 i hi
  · rw [World.cell?_of_block (by exact e)]; exact h.c4 i hi
  · rw [World.cell?_of_block (by exact e)]; exact h.c5 i hi
  · rw [World.cell?_of_block (by exact e)]; exact h.c6 i hi
  · rw [World.cell?_of_block (by exact e)]; exact h.c7 i hi
  · rw [World.cell?_of_block (by exact e)]; exact h.c8 i hi
  · rw [World.cell?_of_block (by exact e)]; exact h.c9 i hi
set_option maxRecDepth 100000 in
theorem open_AcAs {H : Type} {enc : TypeId × Value → H} {W : World} {b0 : Nat} {v : Value} {d : DataW H} {p : List MemPlace} (hv : Value.okWide Tryd.prog W .any b0 49 v) (h : DataW.Trod enc Tryd.prog W 0 (fun _ => true) true 49 v d p) :
    ∃ xs : List AcA, SlAcA W v xs ∧ (∀ x ∈ xs, x.ok) ∧ (xs = [] ∨ ∃ elems spare, d = .slice elems spare ∧ elems.length = xs.length) := by
  obtain ⟨a, len, cap, rfl⟩ := okWide_slice Tryd.underlying49 hv
  obtain ⟨fuel, hf⟩ := h
  rcases Deep.open_slice Tryd.underlying49 hf with ⟨hcs, _⟩ | ⟨x, l, c, m, n, D, Pl, hcs, _, hl, hm, hmm, hx, hall⟩
  · simp [Value.cells] at hcs
    obtain ⟨rfl, rfl, rfl⟩ := hcs
    exact ⟨[], Or.inl ⟨rfl, _, _, rfl⟩, fun x hx => by simp at hx, Or.inl rfl⟩
  · simp [Value.cells] at hcs
    obtain ⟨rfl, rfl, rfl⟩ := hcs
    simp only [if_true] at hmm
    subst hmm
    simp only [Prod.mk.injEq] at hx
    obtain ⟨rfl, rfl⟩ := hx
    rw [cl_AcA] at hall
    have each : ∀ i, i < m → ∃ q : AcA, W.cell? (x.add (i * 10)) = some (.int .i64 q.kd) ∧ W.cell? (x.add (i * 10 + 1)) = some (.int .i64 q.n) ∧ W.cell? (x.add (i * 10 + 2)) = some (.int .i64 q.cl) ∧ W.cell? (x.add (i * 10 + 3)) = some (.int .i64 q.g.pl) ∧ W.cell? (x.add (i * 10 + 4)) = some (.int .i64 q.g.ho) ∧ W.cell? (x.add (i * 10 + 5)) = some (.int .i64 q.g.o.va) ∧ W.cell? (x.add (i * 10 + 6)) = some (.int .i64 q.g.o.f.kd) ∧ W.cell? (x.add (i * 10 + 7)) = some (.int .i64 q.g.o.f.cd) ∧ W.cell? (x.add (i * 10 + 8)) = some (.int .i64 q.g.o.f.rn) ∧ W.cell? (x.add (i * 10 + 9)) = some (.int .i64 q.g.tm) ∧ q.ok := fun i hi => by
      obtain ⟨cs', h1, h2⟩ := hall i hi
      obtain ⟨_, hlen, hcell⟩ := World.cells?_some h1
      obtain ⟨q, rfl, wq⟩ := fields_AcA h2 hlen
      have e0 := hcell 0 (by omega)
      have e1 := hcell 1 (by omega)
      have e2 := hcell 2 (by omega)
      have e3 := hcell 3 (by omega)
      have e4 := hcell 4 (by omega)
      have e5 := hcell 5 (by omega)
      have e6 := hcell 6 (by omega)
      have e7 := hcell 7 (by omega)
      have e8 := hcell 8 (by omega)
      have e9 := hcell 9 (by omega)
      rw [Deep.add_add] at e0 e1 e2 e3 e4 e5 e6 e7 e8 e9
      exact ⟨q, by simpa [AcA.cs] using e0, by simpa [AcA.cs] using e1, by simpa [AcA.cs] using e2, by simpa [AcA.cs] using e3, by simpa [AcA.cs] using e4, by simpa [AcA.cs] using e5, by simpa [AcA.cs] using e6, by simpa [AcA.cs] using e7, by simpa [AcA.cs] using e8, by simpa [AcA.cs] using e9, wq⟩
    haveI : Inhabited AcA := ⟨⟨0, 0, 0, ⟨0, 0, ⟨0, ⟨0, 0, 0⟩⟩, 0⟩⟩⟩
    obtain ⟨q, hq⟩ := Deep.choose_lt each
    rcases Nat.eq_zero_or_pos len with e | e
    · subst e
      exact ⟨[], Or.inl ⟨rfl, _, _, rfl⟩, fun x hx => by simp at hx, Or.inl rfl⟩
    · have hsp : x.spot = none := by
        have h0 := (hq 0 (by omega)).1
        rw [show x.add (0 * 10) = x by simp [Addr.add]] at h0
        unfold World.cell? at h0
        split at h0
        · split at h0
          · cases h0
          · rename_i hs
            cases hh : x.spot with
            | none => rfl
            | some z => rw [hh] at hs; exact absurd rfl hs
        · cases h0
      obtain ⟨b, off, r⟩ := x
      obtain rfl : r = none := hsp
      have hlen : ((List.range len).map q).length = len := by simp
      refine ⟨(List.range len).map q, Or.inr ⟨b, off, m, by rw [hlen], ?_, fun i hi => ?_, fun i hi => ?_, fun i hi => ?_, fun i hi => ?_, fun i hi => ?_, fun i hi => ?_, fun i hi => ?_, fun i hi => ?_, fun i hi => ?_, fun i hi => ?_⟩, fun y hy => ?_, Or.inr ⟨_, _, rfl, by simp⟩⟩
      · rcases Nat.lt_or_ge b W.heap.size with h | h
        · exact h
        · have h0 := (hq 0 (by omega)).1
          simp [World.cell?, add_plainA, Array.getElem?_eq_none h] at h0
      · rw [hlen] at hi
        have h0 := (hq i (by omega)).1
        simpa [add_plainA, Nat.add_assoc] using h0
      · rw [hlen] at hi
        have h0 := (hq i (by omega)).2.1
        simpa [add_plainA, Nat.add_assoc] using h0
      · rw [hlen] at hi
        have h0 := (hq i (by omega)).2.2.1
        simpa [add_plainA, Nat.add_assoc] using h0
      · rw [hlen] at hi
        have h0 := (hq i (by omega)).2.2.2.1
        simpa [add_plainA, Nat.add_assoc] using h0
      · rw [hlen] at hi
        have h0 := (hq i (by omega)).2.2.2.2.1
        simpa [add_plainA, Nat.add_assoc] using h0
      · rw [hlen] at hi
        have h0 := (hq i (by omega)).2.2.2.2.2.1
        simpa [add_plainA, Nat.add_assoc] using h0
      · rw [hlen] at hi
        have h0 := (hq i (by omega)).2.2.2.2.2.2.1
        simpa [add_plainA, Nat.add_assoc] using h0
      · rw [hlen] at hi
        have h0 := (hq i (by omega)).2.2.2.2.2.2.2.1
        simpa [add_plainA, Nat.add_assoc] using h0
      · rw [hlen] at hi
        have h0 := (hq i (by omega)).2.2.2.2.2.2.2.2.1
        simpa [add_plainA, Nat.add_assoc] using h0
      · rw [hlen] at hi
        have h0 := (hq i (by omega)).2.2.2.2.2.2.2.2.2.1
        simpa [add_plainA, Nat.add_assoc] using h0
      · simp only [List.mem_map, List.mem_range] at hy
        obtain ⟨i, hi, rfl⟩ := hy
        exact (hq i (by omega)).2.2.2.2.2.2.2.2.2.2
set_option maxRecDepth 100000 in
theorem laidOut : laidOutB Tryd.prog = true := by kernel_rfl

namespace Ci
def _root_.Go.Proofs.YthakboiecdjgnaaDoor.DoA.z (a : DoA) : Dz := ⟨a.op, a.k.sp, a.k.nm, a.n, a.sl⟩
theorem z_ok {a : DoA} (h : a.ok) : a.z.ok := ⟨h.1, h.2.1.1, h.2.1.2, h.2.2.1, h.2.2.2⟩
theorem zs_ok {xs : List DoA} (h : ∀ x ∈ xs, x.ok) : Oks (xs.map DoA.z) := fun x hx => by
  obtain ⟨y, hy, rfl⟩ := List.mem_map.1 hx
  exact z_ok (h y hy)
theorem sl_of {w : World} {v : Value} {xs : List DoA} (h : SlDoA w v xs) : ∃ a c, v = .slice a (xs.map DoA.z).length c ∧ Sl w a (xs.map DoA.z) := by
  rcases h with ⟨rfl, a, c, rfl⟩ | ⟨b, off, c, rfl, r⟩
  · exact ⟨a, c, rfl, fun i hi => by simp at hi⟩
  · refine ⟨some ⟨b, off, none⟩, c, by rw [List.length_map], fun i hi => ?_⟩
    rw [List.length_map] at hi
    refine ⟨b, off, rfl, ?_, ?_, ?_, ?_, ?_⟩
    · simpa [DoA.z] using r.c0 i hi
    · simpa [DoA.z] using r.c1 i hi
    · simpa [DoA.z] using r.c2 i hi
    · simpa [DoA.z] using r.c3 i hi
    · simpa [DoA.z] using r.c4 i hi
end Ci
end Go.Proofs.YthakboiecdjgnaaDoor
