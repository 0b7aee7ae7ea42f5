/- A slice of acts, and one of numbers, as arguments, opened; no conditions. -/
import Derived.Test.YtopepalpmkeffaaOpn
namespace Go.Proofs.Ytopepalpmkeffaa
open Go.ChangeShapes Go.WideShapes Go.ChangeAt Go.RowKit
set_option linter.unusedVariables false
/-- What is done: its kind, its step, its odd tick, its key, its outcome. -/
structure ActM where
  kd : Int
  st : Int
  od : Int
  k : K
  o : O
def WfM (a : ActM) : Prop := W64 a.kd ∧ W64 a.st ∧ W64 a.od ∧ Ok a.k ∧ Wo a.o
structure RowM (w : World) (b off : Nat) (xs : List ActM) : Prop where
  lt : b < w.heap.size
  c0 : ∀ i (h : i < xs.length), w.cell? ⟨b, off + i * 9, none⟩ = some (.int .i64 xs[i].kd)
  c1 : ∀ i (h : i < xs.length), w.cell? ⟨b, off + i * 9 + 1, none⟩ = some (.int .i64 xs[i].st)
  c2 : ∀ i (h : i < xs.length), w.cell? ⟨b, off + i * 9 + 2, none⟩ = some (.int .i64 xs[i].od)
  c3 : ∀ i (h : i < xs.length), w.cell? ⟨b, off + i * 9 + 3, none⟩ = some (.int .u16 xs[i].k.1)
  c4 : ∀ i (h : i < xs.length), w.cell? ⟨b, off + i * 9 + 4, none⟩ = some (.string xs[i].k.2)
  c5 : ∀ i (h : i < xs.length), w.cell? ⟨b, off + i * 9 + 5, none⟩ = some (.int .i64 xs[i].o.1)
  c6 : ∀ i (h : i < xs.length), w.cell? ⟨b, off + i * 9 + 6, none⟩ = some (.int .i64 xs[i].o.2.1)
  c7 : ∀ i (h : i < xs.length), w.cell? ⟨b, off + i * 9 + 7, none⟩ = some (.int .i64 xs[i].o.2.2.1)
  c8 : ∀ i (h : i < xs.length), w.cell? ⟨b, off + i * 9 + 8, none⟩ = some (.int .i64 xs[i].o.2.2.2)
def SlM (w : World) (v : Value) (xs : List ActM) : Prop := (xs = [] ∧ ∃ a c, v = .slice a 0 c) ∨ ∃ b off cap, v = .slice (some ⟨b, off, none⟩) xs.length cap ∧ RowM w b off xs
theorem RowM.keep {w w' : World} {b off : Nat} {xs : List ActM} (h : RowM w b off xs) (ht : Touch [] w w') : RowM w' b off xs := by
  have e : w'.heap[b]? = w.heap[b]? := ht.block b h.lt (by simp)
  refine ⟨Nat.lt_of_lt_of_le h.lt ht.size, fun i hi => ?_, fun i hi => ?_, fun i hi => ?_, fun i hi => ?_, fun i hi => ?_, fun i hi => ?_, fun i hi => ?_, fun i hi => ?_, fun i hi => ?_⟩
  · rw [World.cell?_of_block (by exact e)]; exact h.c0 i hi
  · rw [World.cell?_of_block (by exact e)]; exact h.c1 i hi
  · rw [World.cell?_of_block (by exact e)]; exact h.c2 i hi
  · rw [World.cell?_of_block (by exact e)]; exact h.c3 i hi
  · rw [World.cell?_of_block (by exact e)]; exact h.c4 i hi
  · rw [World.cell?_of_block (by exact e)]; exact h.c5 i hi
  · rw [World.cell?_of_block (by exact e)]; exact h.c6 i hi
  · rw [World.cell?_of_block (by exact e)]; exact h.c7 i hi
  · rw [World.cell?_of_block (by exact e)]; exact h.c8 i hi
theorem add_plainA (b off j : Nat) : (⟨b, off, none⟩ : Addr).add j = ⟨b, off + j, none⟩ := by simp [Addr.add]
theorem cells45 : Try.prog.cellsOf 45 = 9 := by kernel_rfl
theorem cells39 : Try.prog.cellsOf 39 = 2 := by kernel_rfl
set_option maxRecDepth 100000 in
theorem fields45 {H : Type} {enc : TypeId × Value → H} {W : World} {base fuel : Nat} {spare : Nat → Bool} {held : Bool} {cs : List Value} {x : DataW H × List MemPlace} (h : DataW.trod enc Try.prog W base spare held fuel 45 cs = some x) (hl : cs.length = 9) :
    ∃ a : ActM, cs = [.int .i64 a.kd, .int .i64 a.st, .int .i64 a.od, .int .u16 a.k.1, .string a.k.2, .int .i64 a.o.1, .int .i64 a.o.2.1, .int .i64 a.o.2.2.1, .int .i64 a.o.2.2.2] ∧ WfM a := by
  obtain ⟨ys, k, hk, hxy, _, hyl, hfe⟩ := DataW.trod_struct Try.underlying45 h
  match cs, hl with
  | [v0, v1, v2, v3, v4, v5, v6, v7, v8], _ =>
    have hy : ys.length = 5 := hyl
    match ys, hy with
    | [y0, y1, y2, y3, y4], _ =>
      have g0 := hfe 0 _ rfl
      have g1 := hfe 1 _ rfl
      have g2 := hfe 2 _ rfl
      have g3 := hfe 3 _ rfl
      have g4 := hfe 4 _ rfl
      simp [cells2, cells3, cells39, cells43] at g0 g1 g2 g3 g4
      obtain ⟨A, a1, _, wa⟩ := DataW.trod_int Try.underlying3 g0
      obtain ⟨B, b1, _, wb⟩ := DataW.trod_int Try.underlying2 g1
      obtain ⟨C, c1, _, wc⟩ := DataW.trod_int Try.underlying2 g2
      obtain ⟨zs, k2, hk2, _, _, hzl, hfz⟩ := DataW.trod_struct Try.underlying39 g3
      have hz : zs.length = 2 := hzl
      match zs, hz with
      | [z0, z1], _ =>
        have f0 := hfz 0 _ rfl
        have f1 := hfz 1 _ rfl
        simp [cells37, cells9] at f0 f1
        obtain ⟨D, d1, _, wd⟩ := DataW.trod_int Try.underlying37 f0
        obtain ⟨s, e1, _, ws⟩ := DataW.trod_string Try.underlying9 f1
        obtain ⟨o, o1, wo⟩ := fields43 g4 rfl
        simp only [List.cons.injEq, and_true] at a1 b1 c1 d1 e1 o1
        obtain ⟨o1, o2, o3, o4⟩ := o1
        subst a1 b1 c1 d1 e1 o1 o2 o3 o4
        exact ⟨⟨A, B, C, (D, s), o⟩, rfl, wa, wb, wc, ⟨wd, ws⟩, wo⟩
set_option maxRecDepth 100000 in
theorem open_acts {H : Type} {enc : TypeId × Value → H} {W : World} {b0 : Nat} {v : Value} {d : DataW H} {p : List MemPlace} (hv : Value.okWide Try.prog W .any b0 24 v) (h : DataW.Trod enc Try.prog W 0 (fun _ => true) true 24 v d p) :
    ∃ xs : List ActM, SlM W v xs ∧ (∀ x ∈ xs, WfM x) ∧ (xs = [] ∨ ∃ elems spare, d = .slice elems spare ∧ elems.length = xs.length) := by
  obtain ⟨a, len, cap, rfl⟩ := okWide_slice Try.underlying24 hv
  obtain ⟨fuel, hf⟩ := h
  rcases Deep.open_slice Try.underlying24 hf with ⟨hcs, _⟩ | ⟨x, l, c, m, n, D, Pl, hcs, _, hl, hm, hmm, hx, hall⟩
  · simp [Value.cells] at hcs
    obtain ⟨rfl, rfl, rfl⟩ := hcs
    exact ⟨[], Or.inl ⟨rfl, _, _, rfl⟩, fun x hx => by simp at hx, Or.inl rfl⟩
  · simp [Value.cells] at hcs
    obtain ⟨rfl, rfl, rfl⟩ := hcs
    simp only [if_true] at hmm
    subst hmm
    simp only [Prod.mk.injEq] at hx
    obtain ⟨rfl, rfl⟩ := hx
    rw [cells45] at hall
    have each : ∀ i, i < m → ∃ q : ActM, W.cell? (x.add (i * 9)) = some (.int .i64 q.kd) ∧ W.cell? (x.add (i * 9 + 1)) = some (.int .i64 q.st) ∧ W.cell? (x.add (i * 9 + 2)) = some (.int .i64 q.od) ∧ W.cell? (x.add (i * 9 + 3)) = some (.int .u16 q.k.1) ∧ W.cell? (x.add (i * 9 + 4)) = some (.string q.k.2) ∧ W.cell? (x.add (i * 9 + 5)) = some (.int .i64 q.o.1) ∧ W.cell? (x.add (i * 9 + 6)) = some (.int .i64 q.o.2.1) ∧ W.cell? (x.add (i * 9 + 7)) = some (.int .i64 q.o.2.2.1) ∧ W.cell? (x.add (i * 9 + 8)) = some (.int .i64 q.o.2.2.2) ∧ WfM q := fun i hi => by
      obtain ⟨cs', h1, h2⟩ := hall i hi
      obtain ⟨_, hlen, hcell⟩ := World.cells?_some h1
      obtain ⟨q, rfl, wq⟩ := fields45 h2 hlen
      have e0 := hcell 0 (by omega)
      have e1 := hcell 1 (by omega)
      have e2 := hcell 2 (by omega)
      have e3 := hcell 3 (by omega)
      have e4 := hcell 4 (by omega)
      have e5 := hcell 5 (by omega)
      have e6 := hcell 6 (by omega)
      have e7 := hcell 7 (by omega)
      have e8 := hcell 8 (by omega)
      rw [Deep.add_add] at e0 e1 e2 e3 e4 e5 e6 e7 e8
      exact ⟨q, by simpa using e0, by simpa using e1, by simpa using e2, by simpa using e3, by simpa using e4, by simpa using e5, by simpa using e6, by simpa using e7, by simpa using e8, wq⟩
    haveI : Inhabited ActM := ⟨⟨0, 0, 0, (0, ⟨#[]⟩), oz⟩⟩
    obtain ⟨q, hq⟩ := Deep.choose_lt each
    rcases Nat.eq_zero_or_pos len with e | e
    · subst e
      exact ⟨[], Or.inl ⟨rfl, _, _, rfl⟩, fun x hx => by simp at hx, Or.inl rfl⟩
    · have hsp : x.spot = none := by
        have h0 := (hq 0 (by omega)).1
        rw [show x.add (0 * 9) = x by simp [Addr.add]] at h0
        unfold World.cell? at h0
        split at h0
        · split at h0
          · cases h0
          · rename_i hs
            cases hh : x.spot with
            | none => rfl
            | some z => rw [hh] at hs; exact absurd rfl hs
        · cases h0
      obtain ⟨b, off, r⟩ := x
      obtain rfl : r = none := hsp
      have hlen : ((List.range len).map q).length = len := by simp
      refine ⟨(List.range len).map q, Or.inr ⟨b, off, m, by rw [hlen], ?_, fun i hi => ?_, fun i hi => ?_, fun i hi => ?_, fun i hi => ?_, fun i hi => ?_, fun i hi => ?_, fun i hi => ?_, fun i hi => ?_, fun i hi => ?_⟩, fun y hy => ?_, Or.inr ⟨_, _, rfl, by simp⟩⟩
      · rcases Nat.lt_or_ge b W.heap.size with h | h
        · exact h
        · have h0 := (hq 0 (by omega)).1
          simp [World.cell?, add_plainA, Array.getElem?_eq_none h] at h0
      · rw [hlen] at hi
        have h0 := (hq i (by omega)).1
        simpa [add_plainA, Nat.add_assoc] using h0
      · rw [hlen] at hi
        have h0 := (hq i (by omega)).2.1
        simpa [add_plainA, Nat.add_assoc] using h0
      · rw [hlen] at hi
        have h0 := (hq i (by omega)).2.2.1
        simpa [add_plainA, Nat.add_assoc] using h0
      · rw [hlen] at hi
        have h0 := (hq i (by omega)).2.2.2.1
        simpa [add_plainA, Nat.add_assoc] using h0
      · rw [hlen] at hi
        have h0 := (hq i (by omega)).2.2.2.2.1
        simpa [add_plainA, Nat.add_assoc] using h0
      · rw [hlen] at hi
        have h0 := (hq i (by omega)).2.2.2.2.2.1
        simpa [add_plainA, Nat.add_assoc] using h0
      · rw [hlen] at hi
        have h0 := (hq i (by omega)).2.2.2.2.2.2.1
        simpa [add_plainA, Nat.add_assoc] using h0
      · rw [hlen] at hi
        have h0 := (hq i (by omega)).2.2.2.2.2.2.2.1
        simpa [add_plainA, Nat.add_assoc] using h0
      · rw [hlen] at hi
        have h0 := (hq i (by omega)).2.2.2.2.2.2.2.2.1
        simpa [add_plainA, Nat.add_assoc] using h0
      · simp only [List.mem_map, List.mem_range] at hy
        obtain ⟨i, hi, rfl⟩ := hy
        exact (hq i (by omega)).2.2.2.2.2.2.2.2.2
structure RowN (w : World) (b off : Nat) (xs : List Int) : Prop where
  lt : b < w.heap.size
  c0 : ∀ i (h : i < xs.length), w.cell? ⟨b, off + i, none⟩ = some (.int .i64 xs[i])
def SlN (w : World) (v : Value) (xs : List Int) : Prop := (xs = [] ∧ ∃ a c, v = .slice a 0 c) ∨ ∃ b off cap, v = .slice (some ⟨b, off, none⟩) xs.length cap ∧ RowN w b off xs
theorem RowN.keep {w w' : World} {b off : Nat} {xs : List Int} (h : RowN w b off xs) (ht : Touch [] w w') : RowN w' b off xs := by
  have e : w'.heap[b]? = w.heap[b]? := ht.block b h.lt (by simp)
  refine ⟨Nat.lt_of_lt_of_le h.lt ht.size, fun i hi => ?_⟩
  rw [World.cell?_of_block (by exact e)]; exact h.c0 i hi
set_option maxRecDepth 100000 in
theorem open_nums {H : Type} {enc : TypeId × Value → H} {W : World} {b0 : Nat} {v : Value} {d : DataW H} {p : List MemPlace} (hv : Value.okWide Try.prog W .any b0 67 v) (h : DataW.Trod enc Try.prog W 0 (fun _ => true) true 67 v d p) :
    ∃ xs : List Int, SlN W v xs ∧ (∀ x ∈ xs, W64 x) ∧ (xs = [] ∨ ∃ elems spare, d = .slice elems spare ∧ elems.length = xs.length) := by
  obtain ⟨a, len, cap, rfl⟩ := okWide_slice Try.underlying67 hv
  obtain ⟨fuel, hf⟩ := h
  rcases Deep.open_slice Try.underlying67 hf with ⟨hcs, _⟩ | ⟨x, l, c, m, n, D, Pl, hcs, _, hl, hm, hmm, hx, hall⟩
  · simp [Value.cells] at hcs
    obtain ⟨rfl, rfl, rfl⟩ := hcs
    exact ⟨[], Or.inl ⟨rfl, _, _, rfl⟩, fun x hx => by simp at hx, Or.inl rfl⟩
  · simp [Value.cells] at hcs
    obtain ⟨rfl, rfl, rfl⟩ := hcs
    simp only [if_true] at hmm
    subst hmm
    simp only [Prod.mk.injEq] at hx
    obtain ⟨rfl, rfl⟩ := hx
    rw [cells2] at hall
    have each : ∀ i, i < m → ∃ q : Int, W.cell? (x.add i) = some (.int .i64 q) ∧ W64 q := fun i hi => by
      obtain ⟨cs', h1, h2⟩ := hall i hi
      obtain ⟨_, hlen, hcell⟩ := World.cells?_some h1
      obtain ⟨A, a1, _, wa⟩ := DataW.trod_int Try.underlying2 h2
      subst a1
      have e0 := hcell 0 (by simp)
      rw [Deep.add_add] at e0
      exact ⟨A, by simpa using e0, wa⟩
    obtain ⟨q, hq⟩ := Deep.choose_lt each
    rcases Nat.eq_zero_or_pos len with e | e
    · subst e
      exact ⟨[], Or.inl ⟨rfl, _, _, rfl⟩, fun x hx => by simp at hx, Or.inl rfl⟩
    · have hsp : x.spot = none := by
        have h0 := (hq 0 (by omega)).1
        rw [show x.add 0 = x by simp [Addr.add]] at h0
        unfold World.cell? at h0
        split at h0
        · split at h0
          · cases h0
          · rename_i hs
            cases hh : x.spot with
            | none => rfl
            | some z => rw [hh] at hs; exact absurd rfl hs
        · cases h0
      obtain ⟨b, off, r⟩ := x
      obtain rfl : r = none := hsp
      have hlen : ((List.range len).map q).length = len := by simp
      refine ⟨(List.range len).map q, Or.inr ⟨b, off, m, by rw [hlen], ?_, fun i hi => ?_⟩, fun y hy => ?_, Or.inr ⟨_, _, rfl, by simp⟩⟩
      · rcases Nat.lt_or_ge b W.heap.size with h | h
        · exact h
        · have h0 := (hq 0 (by omega)).1
          simp [World.cell?, add_plainA, Array.getElem?_eq_none h] at h0
      · rw [hlen] at hi
        have h0 := (hq i (by omega)).1
        simpa [add_plainA, Nat.add_assoc] using h0
      · simp only [List.mem_map, List.mem_range] at hy
        obtain ⟨i, hi, rfl⟩ := hy
        exact (hq i (by omega)).2
end Go.Proofs.Ytopepalpmkeffaa
