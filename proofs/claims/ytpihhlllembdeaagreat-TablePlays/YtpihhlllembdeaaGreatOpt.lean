/- An act and a slice of acts as arguments, opened; no conditions. -/
import Derived.Test.YtpihhlllembdeaaGreatRows
import Derived.Test.YtpihhlllembdeaaGreatTby
import Derived.WalkKit
import Derived.ProofKit
import Derived.OpenShut
import Derived.ShutString
import Derived.Deep.Slices
namespace Go.Proofs.YtpihhlllembdeaaGreat
open Go.ChangeShapes Go.WideShapes Go.ChangeAt Go.RowKit
set_option linter.unusedVariables false
theorem cells2 : Tryz.prog.cellsOf 2 = 1 := by kernel_rfl
theorem cells3 : Tryz.prog.cellsOf 3 = 1 := by kernel_rfl
theorem cells4 : Tryz.prog.cellsOf 4 = 1 := by kernel_rfl
theorem cells9 : Tryz.prog.cellsOf 9 = 1 := by kernel_rfl
theorem cellsU : Tryz.prog.cellsOf 32 = 1 := by kernel_rfl
theorem cellsF : Tryz.prog.cellsOf 36 = 3 := by kernel_rfl
theorem cellsO : Tryz.prog.cellsOf 38 = 4 := by kernel_rfl
theorem cellsA : Tryz.prog.cellsOf 40 = 10 := by kernel_rfl
def Wo (x : O) : Prop := W64 x.1 ∧ W64 x.2.1 ∧ W64 x.2.2.1 ∧ W64 x.2.2.2
structure ActT where
  kd : Int
  rn : Int
  cl : Int
  rf : Bool
  k : K
  o : O
def WfA (a : ActT) : Prop := W64 a.kd ∧ W64 a.rn ∧ W64 a.cl ∧ Ok a.k ∧ Wo a.o
def av (a : ActT) : Value := .agg #[.int .i64 a.kd, .int .i64 a.rn, .int .i64 a.cl, .bool a.rf, .int .u16 a.k.1, .string a.k.2, .int .i64 a.o.1, .int .i64 a.o.2.1, .int .i64 a.o.2.2.1, .int .i64 a.o.2.2.2]
set_option maxRecDepth 100000 in
/-- Four cells that read as an outcome. -/
theorem fieldsO {H : Type} {enc : TypeId × Value → H} {W : World} {base fuel : Nat} {spare : Nat → Bool} {held : Bool} {cs : List Value} {x : DataW H × List MemPlace} (h : DataW.trod enc Tryz.prog W base spare held fuel 38 cs = some x) (hl : cs.length = 4) :
    ∃ o : O, cs = [.int .i64 o.1, .int .i64 o.2.1, .int .i64 o.2.2.1, .int .i64 o.2.2.2] ∧ Wo o := by
  obtain ⟨ys, k, hk, hxy, _, hyl, hfe⟩ := DataW.trod_struct Tryz.underlying38 h
  match cs, hl with
  | [v0, v1, v2, v3], _ =>
    have hy : ys.length = 2 := hyl
    match ys, hy with
    | [y0, y1], _ =>
      have g0 := hfe 0 _ rfl
      have g1 := hfe 1 _ rfl
      simp [cells2, cellsF] at g0 g1
      obtain ⟨A, a1, _, wa⟩ := DataW.trod_int Tryz.underlying2 g0
      obtain ⟨zs, k2, hk2, _, _, hzl, hfz⟩ := DataW.trod_struct Tryz.underlying36 g1
      have hz : zs.length = 3 := hzl
      match zs, hz with
      | [z0, z1, z2], _ =>
        have f0 := hfz 0 _ rfl
        have f1 := hfz 1 _ rfl
        have f2 := hfz 2 _ rfl
        simp [cells3] at f0 f1 f2
        obtain ⟨B, b1, _, wb⟩ := DataW.trod_int Tryz.underlying3 f0
        obtain ⟨C, c1, _, wc⟩ := DataW.trod_int Tryz.underlying3 f1
        obtain ⟨D, d1, _, wd⟩ := DataW.trod_int Tryz.underlying3 f2
        simp only [List.cons.injEq, and_true] at a1 b1 c1 d1
        subst a1 b1 c1 d1
        exact ⟨(A, B, C, D), rfl, wa, wb, wc, wd⟩
set_option maxRecDepth 100000 in
theorem fieldsA {H : Type} {enc : TypeId × Value → H} {W : World} {base fuel : Nat} {spare : Nat → Bool} {held : Bool} {cs : List Value} {x : DataW H × List MemPlace} (h : DataW.trod enc Tryz.prog W base spare held fuel 40 cs = some x) (hl : cs.length = 10) :
    ∃ a : ActT, cs = [.int .i64 a.kd, .int .i64 a.rn, .int .i64 a.cl, .bool a.rf, .int .u16 a.k.1, .string a.k.2, .int .i64 a.o.1, .int .i64 a.o.2.1, .int .i64 a.o.2.2.1, .int .i64 a.o.2.2.2] ∧ WfA a := by
  obtain ⟨ys, k, hk, hxy, _, hyl, hfe⟩ := DataW.trod_struct Tryz.underlying40 h
  match cs, hl with
  | [v0, v1, v2, v3, v4, v5, v6, v7, v8, v9], _ =>
    have hy : ys.length = 6 := hyl
    match ys, hy with
    | [y0, y1, y2, y3, y4, y5], _ =>
      have g0 := hfe 0 _ rfl
      have g1 := hfe 1 _ rfl
      have g2 := hfe 2 _ rfl
      have g3 := hfe 3 _ rfl
      have g4 := hfe 4 _ rfl
      have g5 := hfe 5 _ rfl
      simp [cells3, cells4, cellsK, cellsO] at g0 g1 g2 g3 g4 g5
      obtain ⟨A, a1, _, wa⟩ := DataW.trod_int Tryz.underlying3 g0
      obtain ⟨B, b1, _, wb⟩ := DataW.trod_int Tryz.underlying3 g1
      obtain ⟨C, c1, _, wc⟩ := DataW.trod_int Tryz.underlying3 g2
      obtain ⟨R, r1, _⟩ := DataW.trod_bool Tryz.underlying4 g3
      obtain ⟨zs, k2, hk2, _, _, hzl, hfz⟩ := DataW.trod_struct Tryz.underlying34 g4
      have hz : zs.length = 2 := hzl
      match zs, hz with
      | [z0, z1], _ =>
        have f0 := hfz 0 _ rfl
        have f1 := hfz 1 _ rfl
        simp [cellsU, cells9] at f0 f1
        obtain ⟨D, d1, _, wd⟩ := DataW.trod_int Tryz.underlying32 f0
        obtain ⟨s, e1, _, ws⟩ := DataW.trod_string Tryz.underlying9 f1
        obtain ⟨o, o1, wo⟩ := fieldsO g5 rfl
        simp only [List.cons.injEq, and_true] at a1 b1 c1 r1 d1 e1 o1
        obtain ⟨o1, o2, o3, o4⟩ := o1
        subst a1 b1 c1 r1 d1 e1 o1 o2 o3 o4
        exact ⟨⟨A, B, C, R, (D, s), o⟩, rfl, wa, wb, wc, ⟨wd, ws⟩, wo⟩
structure RowM (w : World) (b off : Nat) (xs : List ActT) : Prop where
  lt : b < w.heap.size
  c0 : ∀ i (h : i < xs.length), w.cell? ⟨b, off + i * 10, none⟩ = some (.int .i64 xs[i].kd)
  c1 : ∀ i (h : i < xs.length), w.cell? ⟨b, off + i * 10 + 1, none⟩ = some (.int .i64 xs[i].rn)
  c2 : ∀ i (h : i < xs.length), w.cell? ⟨b, off + i * 10 + 2, none⟩ = some (.int .i64 xs[i].cl)
  c3 : ∀ i (h : i < xs.length), w.cell? ⟨b, off + i * 10 + 3, none⟩ = some (.bool xs[i].rf)
  c4 : ∀ i (h : i < xs.length), w.cell? ⟨b, off + i * 10 + 4, none⟩ = some (.int .u16 xs[i].k.1)
  c5 : ∀ i (h : i < xs.length), w.cell? ⟨b, off + i * 10 + 5, none⟩ = some (.string xs[i].k.2)
  c6 : ∀ i (h : i < xs.length), w.cell? ⟨b, off + i * 10 + 6, none⟩ = some (.int .i64 xs[i].o.1)
  c7 : ∀ i (h : i < xs.length), w.cell? ⟨b, off + i * 10 + 7, none⟩ = some (.int .i64 xs[i].o.2.1)
  c8 : ∀ i (h : i < xs.length), w.cell? ⟨b, off + i * 10 + 8, none⟩ = some (.int .i64 xs[i].o.2.2.1)
  c9 : ∀ i (h : i < xs.length), w.cell? ⟨b, off + i * 10 + 9, none⟩ = some (.int .i64 xs[i].o.2.2.2)
def SlM (w : World) (v : Value) (xs : List ActT) : Prop := (xs = [] ∧ ∃ a c, v = .slice a 0 c) ∨ ∃ b off cap, v = .slice (some ⟨b, off, none⟩) xs.length cap ∧ RowM w b off xs
theorem RowM.keep {w w' : World} {b off : Nat} {xs : List ActT} (h : RowM w b off xs) (ht : Touch [] w w') : RowM w' b off xs := by
  have e : w'.heap[b]? = w.heap[b]? := ht.block b h.lt (by simp)
  refine ⟨Nat.lt_of_lt_of_le h.lt ht.size, fun i hi => ?_, fun i hi => ?_, fun i hi => ?_, fun i hi => ?_, fun i hi => ?_, fun i hi => ?_, fun i hi => ?_, fun i hi => ?_, fun i hi => ?_, fun i hi => ?_⟩
  · rw [World.cell?_of_block (by exact e)]; exact h.c0 i hi
  · rw [World.cell?_of_block (by exact e)]; exact h.c1 i hi
  · rw [World.cell?_of_block (by exact e)]; exact h.c2 i hi
  · rw [World.cell?_of_block (by exact e)]; exact h.c3 i hi
  · rw [World.cell?_of_block (by exact e)]; exact h.c4 i hi
  · rw [World.cell?_of_block (by exact e)]; exact h.c5 i hi
  · rw [World.cell?_of_block (by exact e)]; exact h.c6 i hi
  · rw [World.cell?_of_block (by exact e)]; exact h.c7 i hi
  · rw [World.cell?_of_block (by exact e)]; exact h.c8 i hi
  · rw [World.cell?_of_block (by exact e)]; exact h.c9 i hi
theorem add_plainA (b off j : Nat) : (⟨b, off, none⟩ : Addr).add j = ⟨b, off + j, none⟩ := by simp [Addr.add]
set_option maxRecDepth 100000 in
theorem open_act {H : Type} {enc : TypeId × Value → H} {W : World} {b0 : Nat} {v : Value} {d : DataW H} {p : List MemPlace} (hv : Value.okWide Tryz.prog W .any b0 40 v) (h : DataW.Trod enc Tryz.prog W 0 (fun _ => true) true 40 v d p) : ∃ a : ActT, v = av a ∧ WfA a := by
  obtain ⟨cs, rfl, hs⟩ := okWide_struct Tryz.underlying40 hv
  obtain ⟨fuel, hf⟩ := h
  rw [cellsA] at hs
  obtain ⟨cl⟩ := cs
  have hs' : cl.length = 10 := by simpa using hs
  obtain ⟨a, e, wa⟩ := fieldsA (cs := cl) (by simpa [Value.cells] using hf) hs'
  subst e
  exact ⟨a, rfl, wa⟩
set_option maxRecDepth 100000 in
theorem open_acts {H : Type} {enc : TypeId × Value → H} {W : World} {b0 : Nat} {v : Value} {d : DataW H} {p : List MemPlace} (hv : Value.okWide Tryz.prog W .any b0 22 v) (h : DataW.Trod enc Tryz.prog W 0 (fun _ => true) true 22 v d p) :
    ∃ xs : List ActT, SlM W v xs ∧ (∀ x ∈ xs, WfA x) ∧ (xs = [] ∨ ∃ elems spare, d = .slice elems spare ∧ elems.length = xs.length) := by
  obtain ⟨a, len, cap, rfl⟩ := okWide_slice Tryz.underlying22 hv
  obtain ⟨fuel, hf⟩ := h
  rcases Deep.open_slice Tryz.underlying22 hf with ⟨hcs, _⟩ | ⟨x, l, c, m, n, D, Pl, hcs, _, hl, hm, hmm, hx, hall⟩
  · simp [Value.cells] at hcs
    obtain ⟨rfl, rfl, rfl⟩ := hcs
    exact ⟨[], Or.inl ⟨rfl, _, _, rfl⟩, fun x hx => by simp at hx, Or.inl rfl⟩
  · simp [Value.cells] at hcs
    obtain ⟨rfl, rfl, rfl⟩ := hcs
    simp only [if_true] at hmm
    subst hmm
    simp only [Prod.mk.injEq] at hx
    obtain ⟨rfl, rfl⟩ := hx
    rw [cellsA] at hall
    have each : ∀ i, i < m → ∃ q : ActT, W.cell? (x.add (i * 10)) = some (.int .i64 q.kd) ∧ W.cell? (x.add (i * 10 + 1)) = some (.int .i64 q.rn) ∧ W.cell? (x.add (i * 10 + 2)) = some (.int .i64 q.cl) ∧ W.cell? (x.add (i * 10 + 3)) = some (.bool q.rf) ∧ W.cell? (x.add (i * 10 + 4)) = some (.int .u16 q.k.1) ∧ W.cell? (x.add (i * 10 + 5)) = some (.string q.k.2) ∧ W.cell? (x.add (i * 10 + 6)) = some (.int .i64 q.o.1) ∧ W.cell? (x.add (i * 10 + 7)) = some (.int .i64 q.o.2.1) ∧ W.cell? (x.add (i * 10 + 8)) = some (.int .i64 q.o.2.2.1) ∧ W.cell? (x.add (i * 10 + 9)) = some (.int .i64 q.o.2.2.2) ∧ WfA q := fun i hi => by
      obtain ⟨cs', h1, h2⟩ := hall i hi
      obtain ⟨_, hlen, hcell⟩ := World.cells?_some h1
      obtain ⟨q, rfl, wq⟩ := fieldsA h2 hlen
      have e0 := hcell 0 (by omega)
      have e1 := hcell 1 (by omega)
      have e2 := hcell 2 (by omega)
      have e3 := hcell 3 (by omega)
      have e4 := hcell 4 (by omega)
      have e5 := hcell 5 (by omega)
      have e6 := hcell 6 (by omega)
      have e7 := hcell 7 (by omega)
      have e8 := hcell 8 (by omega)
      have e9 := hcell 9 (by omega)
      rw [Deep.add_add] at e0 e1 e2 e3 e4 e5 e6 e7 e8 e9
      exact ⟨q, by simpa using e0, by simpa using e1, by simpa using e2, by simpa using e3, by simpa using e4, by simpa using e5, by simpa using e6, by simpa using e7, by simpa using e8, by simpa using e9, wq⟩
    haveI : Inhabited ActT := ⟨⟨0, 0, 0, false, (0, ⟨#[]⟩), oz⟩⟩
    obtain ⟨q, hq⟩ := Deep.choose_lt each
    rcases Nat.eq_zero_or_pos len with e | e
    · subst e
      exact ⟨[], Or.inl ⟨rfl, _, _, rfl⟩, fun x hx => by simp at hx, Or.inl rfl⟩
    · have hsp : x.spot = none := by
        have h0 := (hq 0 (by omega)).1
        rw [show x.add (0 * 10) = x by simp [Addr.add]] at h0
        unfold World.cell? at h0
        split at h0
        · split at h0
          · cases h0
          · rename_i hs
            cases hh : x.spot with
            | none => rfl
            | some z => rw [hh] at hs; exact absurd rfl hs
        · cases h0
      obtain ⟨b, off, r⟩ := x
      obtain rfl : r = none := hsp
      have hlen : ((List.range len).map q).length = len := by simp
      refine ⟨(List.range len).map q, Or.inr ⟨b, off, m, by rw [hlen], ?_, fun i hi => ?_, fun i hi => ?_, fun i hi => ?_, fun i hi => ?_, fun i hi => ?_, fun i hi => ?_, fun i hi => ?_, fun i hi => ?_, fun i hi => ?_, fun i hi => ?_⟩, fun y hy => ?_, Or.inr ⟨_, _, rfl, by simp⟩⟩
      · rcases Nat.lt_or_ge b W.heap.size with h | h
        · exact h
        · have h0 := (hq 0 (by omega)).1
          simp [World.cell?, add_plainA, Array.getElem?_eq_none h] at h0
      · rw [hlen] at hi
        have h0 := (hq i (by omega)).1
        simpa [add_plainA, Nat.add_assoc] using h0
      · rw [hlen] at hi
        have h0 := (hq i (by omega)).2.1
        simpa [add_plainA, Nat.add_assoc] using h0
      · rw [hlen] at hi
        have h0 := (hq i (by omega)).2.2.1
        simpa [add_plainA, Nat.add_assoc] using h0
      · rw [hlen] at hi
        have h0 := (hq i (by omega)).2.2.2.1
        simpa [add_plainA, Nat.add_assoc] using h0
      · rw [hlen] at hi
        have h0 := (hq i (by omega)).2.2.2.2.1
        simpa [add_plainA, Nat.add_assoc] using h0
      · rw [hlen] at hi
        have h0 := (hq i (by omega)).2.2.2.2.2.1
        simpa [add_plainA, Nat.add_assoc] using h0
      · rw [hlen] at hi
        have h0 := (hq i (by omega)).2.2.2.2.2.2.1
        simpa [add_plainA, Nat.add_assoc] using h0
      · rw [hlen] at hi
        have h0 := (hq i (by omega)).2.2.2.2.2.2.2.1
        simpa [add_plainA, Nat.add_assoc] using h0
      · rw [hlen] at hi
        have h0 := (hq i (by omega)).2.2.2.2.2.2.2.2.1
        simpa [add_plainA, Nat.add_assoc] using h0
      · rw [hlen] at hi
        have h0 := (hq i (by omega)).2.2.2.2.2.2.2.2.2.1
        simpa [add_plainA, Nat.add_assoc] using h0
      · simp only [List.mem_map, List.mem_range] at hy
        obtain ⟨i, hi, rfl⟩ := hy
        exact (hq i (by omega)).2.2.2.2.2.2.2.2.2.2
set_option maxRecDepth 100000 in
theorem laidOut : laidOutB Tryz.prog = true := by kernel_rfl
end Go.Proofs.YtpihhlllembdeaaGreat
