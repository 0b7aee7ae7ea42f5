/- A run, an act and a slice of acts as arguments, opened; no conditions. -/
import Derived.Test.YtaikleaiofpebaaRows
import Derived.Test.YtaikleaiofpebaaRec
import Derived.WalkKit
import Derived.ProofKit
import Derived.OpenShut
import Derived.ShutString
import Derived.Deep.Slices
namespace Go.Proofs.Ytaikleaiofpebaa
open Go.ChangeShapes Go.WideShapes Go.ChangeAt Go.RowKit
set_option linter.unusedVariables false
theorem cells2 : Try.prog.cellsOf 2 = 1 := by kernel_rfl
theorem cells3 : Try.prog.cellsOf 3 = 1 := by kernel_rfl
theorem cells4 : Try.prog.cellsOf 4 = 1 := by kernel_rfl
theorem cells9 : Try.prog.cellsOf 9 = 1 := by kernel_rfl
theorem cells22 : Try.prog.cellsOf 22 = 1 := by kernel_rfl
theorem cells24 : Try.prog.cellsOf 24 = 2 := by kernel_rfl
theorem cells26 : Try.prog.cellsOf 26 = 5 := by kernel_rfl
theorem cells42 : Try.prog.cellsOf 42 = 3 := by kernel_rfl
theorem cells44 : Try.prog.cellsOf 44 = 4 := by kernel_rfl
theorem cells46 : Try.prog.cellsOf 46 = 6 := by kernel_rfl
def Wo (x : O) : Prop := W64 x.1 ∧ W64 x.2.1 ∧ W64 x.2.2.1 ∧ W64 x.2.2.2
structure ActR where
  kd : Int
  cl : Int
  o : O
def WfA (a : ActR) : Prop := W64 a.kd ∧ W64 a.cl ∧ Wo a.o
def av (a : ActR) : Value := .agg #[.int .i64 a.kd, .int .i64 a.cl, .int .i64 a.o.1, .int .i64 a.o.2.1, .int .i64 a.o.2.2.1, .int .i64 a.o.2.2.2]
set_option maxRecDepth 100000 in
/-- Four cells that read as an outcome. -/
theorem fields44 {H : Type} {enc : TypeId × Value → H} {W : World} {base fuel : Nat} {spare : Nat → Bool} {held : Bool} {cs : List Value} {x : DataW H × List MemPlace} (h : DataW.trod enc Try.prog W base spare held fuel 44 cs = some x) (hl : cs.length = 4) :
    ∃ o : O, cs = [.int .i64 o.1, .int .i64 o.2.1, .int .i64 o.2.2.1, .int .i64 o.2.2.2] ∧ Wo o := by
  obtain ⟨ys, k, hk, hxy, _, hyl, hfe⟩ := DataW.trod_struct Try.underlying44 h
  match cs, hl with
  | [v0, v1, v2, v3], _ =>
    have hy : ys.length = 2 := hyl
    match ys, hy with
    | [y0, y1], _ =>
      have g0 := hfe 0 _ rfl
      have g1 := hfe 1 _ rfl
      simp [cells2, cells42] at g0 g1
      obtain ⟨A, a1, _, wa⟩ := DataW.trod_int Try.underlying2 g0
      obtain ⟨zs, k2, hk2, _, _, hzl, hfz⟩ := DataW.trod_struct Try.underlying42 g1
      have hz : zs.length = 3 := hzl
      match zs, hz with
      | [z0, z1, z2], _ =>
        have f0 := hfz 0 _ rfl
        have f1 := hfz 1 _ rfl
        have f2 := hfz 2 _ rfl
        simp [cells3] at f0 f1 f2
        obtain ⟨B, b1, _, wb⟩ := DataW.trod_int Try.underlying3 f0
        obtain ⟨C, c1, _, wc⟩ := DataW.trod_int Try.underlying3 f1
        obtain ⟨D, d1, _, wd⟩ := DataW.trod_int Try.underlying3 f2
        simp only [List.cons.injEq, and_true] at a1 b1 c1 d1
        subst a1 b1 c1 d1
        exact ⟨(A, B, C, D), rfl, wa, wb, wc, wd⟩
set_option maxRecDepth 100000 in
theorem fields46 {H : Type} {enc : TypeId × Value → H} {W : World} {base fuel : Nat} {spare : Nat → Bool} {held : Bool} {cs : List Value} {x : DataW H × List MemPlace} (h : DataW.trod enc Try.prog W base spare held fuel 46 cs = some x) (hl : cs.length = 6) :
    ∃ a : ActR, cs = [.int .i64 a.kd, .int .i64 a.cl, .int .i64 a.o.1, .int .i64 a.o.2.1, .int .i64 a.o.2.2.1, .int .i64 a.o.2.2.2] ∧ WfA a := by
  obtain ⟨ys, k, hk, hxy, _, hyl, hfe⟩ := DataW.trod_struct Try.underlying46 h
  match cs, hl with
  | [v0, v1, v2, v3, v4, v5], _ =>
    have hy : ys.length = 3 := hyl
    match ys, hy with
    | [y0, y1, y2], _ =>
      have g0 := hfe 0 _ rfl
      have g1 := hfe 1 _ rfl
      have g2 := hfe 2 _ rfl
      simp [cells3, cells44] at g0 g1 g2
      obtain ⟨A, a1, _, wa⟩ := DataW.trod_int Try.underlying3 g0
      obtain ⟨B, b1, _, wb⟩ := DataW.trod_int Try.underlying3 g1
      obtain ⟨o, o1, wo⟩ := fields44 g2 rfl
      simp only [List.cons.injEq, and_true] at a1 b1 o1
      obtain ⟨o1, o2, o3, o4⟩ := o1
      subst a1 b1 o1 o2 o3 o4
      exact ⟨⟨A, B, o⟩, rfl, wa, wb, wo⟩
set_option maxRecDepth 100000 in
theorem open_act {H : Type} {enc : TypeId × Value → H} {W : World} {b0 : Nat} {v : Value} {d : DataW H} {p : List MemPlace} (hv : Value.okWide Try.prog W .any b0 46 v) (h : DataW.Trod enc Try.prog W 0 (fun _ => true) true 46 v d p) : ∃ a : ActR, v = av a ∧ WfA a := by
  obtain ⟨cs, rfl, hs⟩ := okWide_struct Try.underlying46 hv
  obtain ⟨fuel, hf⟩ := h
  rw [cells46] at hs
  obtain ⟨cl⟩ := cs
  have hs' : cl.length = 6 := by simpa using hs
  obtain ⟨a, e, wa⟩ := fields46 (cs := cl) (by simpa [Value.cells] using hf) hs'
  subst e
  exact ⟨a, rfl, wa⟩
def WfR (R : Rn) : Prop := W64 R.run ∧ (Lit.int .u16 R.sp).wf = true ∧ R.nm.size ≤ maxLen ∧ W64 R.gen
set_option maxRecDepth 100000 in
theorem open_run {H : Type} {enc : TypeId × Value → H} {W : World} {b0 : Nat} {v : Value} {d : DataW H} {p : List MemPlace} (hv : Value.okWide Try.prog W .any b0 26 v) (h : DataW.Trod enc Try.prog W 0 (fun _ => true) true 26 v d p) : ∃ R : Rn, v = rv R ∧ WfR R := by
  obtain ⟨cs, rfl, hs⟩ := okWide_struct Try.underlying26 hv
  obtain ⟨fuel, hf⟩ := h
  rw [cells26] at hs
  obtain ⟨ys, k, hk, hxy, _, hyl, hfe⟩ := DataW.trod_struct Try.underlying26 hf
  obtain ⟨cl⟩ := cs
  have hs' : cl.length = 5 := by simpa using hs
  match cl, hs' with
  | [v0, v1, v2, v3, v4], _ =>
    have hy : ys.length = 4 := hyl
    match ys, hy with
    | [y0, y1, y2, y3], _ =>
      have g0 := hfe 0 _ rfl
      have g1 := hfe 1 _ rfl
      have g2 := hfe 2 _ rfl
      have g3 := hfe 3 _ rfl
      simp [Value.cells, cells3, cells4, cells24] at g0 g1 g2 g3
      obtain ⟨A, a1, _, wa⟩ := DataW.trod_int Try.underlying3 g0
      obtain ⟨zs, k2, hk2, _, _, hzl, hfz⟩ := DataW.trod_struct Try.underlying24 g1
      have hz : zs.length = 2 := hzl
      match zs, hz with
      | [z0, z1], _ =>
        have f0 := hfz 0 _ rfl
        have f1 := hfz 1 _ rfl
        simp [cells22, cells9] at f0 f1
        obtain ⟨D, d1, _, wd⟩ := DataW.trod_int Try.underlying22 f0
        obtain ⟨s, e1, _, ws⟩ := DataW.trod_string Try.underlying9 f1
        obtain ⟨C, c1, _, wc⟩ := DataW.trod_int Try.underlying3 g2
        obtain ⟨B, b1, _⟩ := DataW.trod_bool Try.underlying4 g3
        simp only [List.cons.injEq, and_true] at a1 b1 c1 d1 e1
        subst a1 b1 c1 d1 e1
        exact ⟨⟨A, D, s, C, B⟩, rfl, wa, wd, ws, wc⟩
structure RowM (w : World) (b off : Nat) (xs : List ActR) : Prop where
  lt : b < w.heap.size
  c0 : ∀ i (h : i < xs.length), w.cell? ⟨b, off + i * 6, none⟩ = some (.int .i64 xs[i].kd)
  c1 : ∀ i (h : i < xs.length), w.cell? ⟨b, off + i * 6 + 1, none⟩ = some (.int .i64 xs[i].cl)
  c2 : ∀ i (h : i < xs.length), w.cell? ⟨b, off + i * 6 + 2, none⟩ = some (.int .i64 xs[i].o.1)
  c3 : ∀ i (h : i < xs.length), w.cell? ⟨b, off + i * 6 + 3, none⟩ = some (.int .i64 xs[i].o.2.1)
  c4 : ∀ i (h : i < xs.length), w.cell? ⟨b, off + i * 6 + 4, none⟩ = some (.int .i64 xs[i].o.2.2.1)
  c5 : ∀ i (h : i < xs.length), w.cell? ⟨b, off + i * 6 + 5, none⟩ = some (.int .i64 xs[i].o.2.2.2)
def SlM (w : World) (v : Value) (xs : List ActR) : Prop := (xs = [] ∧ ∃ a c, v = .slice a 0 c) ∨ ∃ b off cap, v = .slice (some ⟨b, off, none⟩) xs.length cap ∧ RowM w b off xs
theorem RowM.keep {w w' : World} {b off : Nat} {xs : List ActR} (h : RowM w b off xs) (ht : Touch [] w w') : RowM w' b off xs := by
  have e : w'.heap[b]? = w.heap[b]? := ht.block b h.lt (by simp)
  refine ⟨Nat.lt_of_lt_of_le h.lt ht.size, fun i hi => ?_, fun i hi => ?_, fun i hi => ?_, fun i hi => ?_, fun i hi => ?_, fun i hi => ?_⟩
  · rw [World.cell?_of_block (by exact e)]; exact h.c0 i hi
  · rw [World.cell?_of_block (by exact e)]; exact h.c1 i hi
  · rw [World.cell?_of_block (by exact e)]; exact h.c2 i hi
  · rw [World.cell?_of_block (by exact e)]; exact h.c3 i hi
  · rw [World.cell?_of_block (by exact e)]; exact h.c4 i hi
  · rw [World.cell?_of_block (by exact e)]; exact h.c5 i hi
theorem add_plainA (b off j : Nat) : (⟨b, off, none⟩ : Addr).add j = ⟨b, off + j, none⟩ := by simp [Addr.add]
set_option maxRecDepth 100000 in
theorem open_acts {H : Type} {enc : TypeId × Value → H} {W : World} {b0 : Nat} {v : Value} {d : DataW H} {p : List MemPlace} (hv : Value.okWide Try.prog W .any b0 27 v) (h : DataW.Trod enc Try.prog W 0 (fun _ => true) true 27 v d p) :
    ∃ xs : List ActR, SlM W v xs ∧ (∀ x ∈ xs, WfA x) ∧ (xs = [] ∨ ∃ elems spare, d = .slice elems spare ∧ elems.length = xs.length) := by
  obtain ⟨a, len, cap, rfl⟩ := okWide_slice Try.underlying27 hv
  obtain ⟨fuel, hf⟩ := h
  rcases Deep.open_slice Try.underlying27 hf with ⟨hcs, _⟩ | ⟨x, l, c, m, n, D, Pl, hcs, _, hl, hm, hmm, hx, hall⟩
  · simp [Value.cells] at hcs
    obtain ⟨rfl, rfl, rfl⟩ := hcs
    exact ⟨[], Or.inl ⟨rfl, _, _, rfl⟩, fun x hx => by simp at hx, Or.inl rfl⟩
  · simp [Value.cells] at hcs
    obtain ⟨rfl, rfl, rfl⟩ := hcs
    simp only [if_true] at hmm
    subst hmm
    simp only [Prod.mk.injEq] at hx
    obtain ⟨rfl, rfl⟩ := hx
    rw [cells46] at hall
    have each : ∀ i, i < m → ∃ q : ActR, W.cell? (x.add (i * 6)) = some (.int .i64 q.kd) ∧ W.cell? (x.add (i * 6 + 1)) = some (.int .i64 q.cl) ∧ W.cell? (x.add (i * 6 + 2)) = some (.int .i64 q.o.1) ∧ W.cell? (x.add (i * 6 + 3)) = some (.int .i64 q.o.2.1) ∧ W.cell? (x.add (i * 6 + 4)) = some (.int .i64 q.o.2.2.1) ∧ W.cell? (x.add (i * 6 + 5)) = some (.int .i64 q.o.2.2.2) ∧ WfA q := fun i hi => by
      obtain ⟨cs', h1, h2⟩ := hall i hi
      obtain ⟨_, hlen, hcell⟩ := World.cells?_some h1
      obtain ⟨q, rfl, wq⟩ := fields46 h2 hlen
      have e0 := hcell 0 (by omega)
      have e1 := hcell 1 (by omega)
      have e2 := hcell 2 (by omega)
      have e3 := hcell 3 (by omega)
      have e4 := hcell 4 (by omega)
      have e5 := hcell 5 (by omega)
      rw [Deep.add_add] at e0 e1 e2 e3 e4 e5
      exact ⟨q, by simpa using e0, by simpa using e1, by simpa using e2, by simpa using e3, by simpa using e4, by simpa using e5, wq⟩
    haveI : Inhabited ActR := ⟨⟨0, 0, oz⟩⟩
    obtain ⟨q, hq⟩ := Deep.choose_lt each
    rcases Nat.eq_zero_or_pos len with e | e
    · subst e
      exact ⟨[], Or.inl ⟨rfl, _, _, rfl⟩, fun x hx => by simp at hx, Or.inl rfl⟩
    · have hsp : x.spot = none := by
        have h0 := (hq 0 (by omega)).1
        rw [show x.add (0 * 6) = x by simp [Addr.add]] at h0
        unfold World.cell? at h0
        split at h0
        · split at h0
          · cases h0
          · rename_i hs
            cases hh : x.spot with
            | none => rfl
            | some z => rw [hh] at hs; exact absurd rfl hs
        · cases h0
      obtain ⟨b, off, r⟩ := x
      obtain rfl : r = none := hsp
      have hlen : ((List.range len).map q).length = len := by simp
      refine ⟨(List.range len).map q, Or.inr ⟨b, off, m, by rw [hlen], ?_, fun i hi => ?_, fun i hi => ?_, fun i hi => ?_, fun i hi => ?_, fun i hi => ?_, fun i hi => ?_⟩, fun y hy => ?_, Or.inr ⟨_, _, rfl, by simp⟩⟩
      · rcases Nat.lt_or_ge b W.heap.size with h | h
        · exact h
        · have h0 := (hq 0 (by omega)).1
          simp [World.cell?, add_plainA, Array.getElem?_eq_none h] at h0
      · rw [hlen] at hi
        have h0 := (hq i (by omega)).1
        simpa [add_plainA, Nat.add_assoc] using h0
      · rw [hlen] at hi
        have h0 := (hq i (by omega)).2.1
        simpa [add_plainA, Nat.add_assoc] using h0
      · rw [hlen] at hi
        have h0 := (hq i (by omega)).2.2.1
        simpa [add_plainA, Nat.add_assoc] using h0
      · rw [hlen] at hi
        have h0 := (hq i (by omega)).2.2.2.1
        simpa [add_plainA, Nat.add_assoc] using h0
      · rw [hlen] at hi
        have h0 := (hq i (by omega)).2.2.2.2.1
        simpa [add_plainA, Nat.add_assoc] using h0
      · rw [hlen] at hi
        have h0 := (hq i (by omega)).2.2.2.2.2.1
        simpa [add_plainA, Nat.add_assoc] using h0
      · simp only [List.mem_map, List.mem_range] at hy
        obtain ⟨i, hi, rfl⟩ := hy
        exact (hq i (by omega)).2.2.2.2.2.2
theorem laidOut : laidOutB Try.prog = true := by kernel_rfl
end Go.Proofs.Ytaikleaiofpebaa
