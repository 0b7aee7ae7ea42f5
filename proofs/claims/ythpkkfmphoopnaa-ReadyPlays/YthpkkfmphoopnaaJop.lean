/- An act and a slice of acts as arguments, opened; no conditions. -/
import Derived.Test.YthpkkfmphoopnaaRows
import Derived.Test.YthpkkfmphoopnaaJrw
import Derived.WalkKit
import Derived.ProofKit
import Derived.OpenShut
import Derived.ShutString
import Derived.Deep.Slices
namespace Go.Proofs.Ythpkkfmphoopnaa
open Go.ChangeShapes Go.WideShapes Go.ChangeAt Go.RowKit
set_option linter.unusedVariables false
theorem cl_3 : Try.prog.cellsOf 3 = 1 := by kernel_rfl
theorem cl_ActR : Try.prog.cellsOf 38 = 2 := by kernel_rfl
structure ActR where
  kd : Int
  n : Int
def ActR.ok (a : ActR) : Prop := W64 a.kd ∧ W64 a.n
def ActR.cs (a : ActR) : Array Value := #[.int .i64 a.kd, .int .i64 a.n]
set_option maxRecDepth 100000 in
theorem fields_ActR {H : Type} {enc : TypeId × Value → H} {W : World} {base fuel : Nat} {spare : Nat → Bool} {held : Bool} {cs : List Value} {x : DataW H × List MemPlace} (h : DataW.trod enc Try.prog W base spare held fuel 38 cs = some x) (hl : cs.length = 2) :
    ∃ a : ActR, cs = a.cs.toList ∧ a.ok := by
  obtain ⟨ys, k, hk, hxy, _, hyl, hfe⟩ := DataW.trod_struct Try.underlying38 h
  match cs, hl with
  | [v0, v1], _ =>
    have hy : ys.length = 2 := hyl
    match ys, hy with
    | [y0, y1], _ =>
      have g0 := hfe 0 _ rfl
      have g1 := hfe 1 _ rfl
      simp [cl_3] at g0 g1
      obtain ⟨A0, e0, _, w0⟩ := DataW.trod_int Try.underlying3 g0
      obtain ⟨A1, e1, _, w1⟩ := DataW.trod_int Try.underlying3 g1
      simp only [List.cons.injEq, and_true] at e0 e1
      subst e0 e1
      exact ⟨⟨A0, A1⟩, rfl, w0, w1⟩
theorem add_plainA (b off j : Nat) : (⟨b, off, none⟩ : Addr).add j = ⟨b, off + j, none⟩ := by simp [Addr.add]
set_option maxRecDepth 100000 in
theorem open_ActR {H : Type} {enc : TypeId × Value → H} {W : World} {b0 : Nat} {v : Value} {d : DataW H} {p : List MemPlace} (hv : Value.okWide Try.prog W .any b0 38 v) (h : DataW.Trod enc Try.prog W 0 (fun _ => true) true 38 v d p) : ∃ a : ActR, v = .agg a.cs ∧ a.ok := by
  obtain ⟨cs, rfl, hs⟩ := okWide_struct Try.underlying38 hv
  obtain ⟨fuel, hf⟩ := h
  rw [cl_ActR] at hs
  obtain ⟨cl⟩ := cs
  have hs' : cl.length = 2 := by simpa using hs
  obtain ⟨a, e, wa⟩ := fields_ActR (cs := cl) (by simpa [Value.cells] using hf) hs'
  subst e
  exact ⟨a, rfl, wa⟩
structure RowActR (w : World) (b off : Nat) (xs : List ActR) : Prop where
  lt : b < w.heap.size
  c0 : ∀ i (h : i < xs.length), w.cell? ⟨b, off + i * 2, none⟩ = some (.int .i64 xs[i].kd)
  c1 : ∀ i (h : i < xs.length), w.cell? ⟨b, off + i * 2 + 1, none⟩ = some (.int .i64 xs[i].n)
def SlActR (w : World) (v : Value) (xs : List ActR) : Prop := (xs = [] ∧ ∃ a c, v = .slice a 0 c) ∨ ∃ b off cap, v = .slice (some ⟨b, off, none⟩) xs.length cap ∧ RowActR w b off xs
theorem RowActR.keep {w w' : World} {b off : Nat} {xs : List ActR} (h : RowActR w b off xs) (ht : Touch [] w w') : RowActR w' b off xs := by
  have e : w'.heap[b]? = w.heap[b]? := ht.block b h.lt (by simp)
  refine ⟨Nat.lt_of_lt_of_le h.lt ht.size, fun i hi => ?_, fun i hi => ?_⟩
  · rw [World.cell?_of_block (by exact e)]; exact h.c0 i hi
  · rw [World.cell?_of_block (by exact e)]; exact h.c1 i hi
set_option maxRecDepth 100000 in
theorem open_ActRs {H : Type} {enc : TypeId × Value → H} {W : World} {b0 : Nat} {v : Value} {d : DataW H} {p : List MemPlace} (hv : Value.okWide Try.prog W .any b0 26 v) (h : DataW.Trod enc Try.prog W 0 (fun _ => true) true 26 v d p) :
    ∃ xs : List ActR, SlActR W v xs ∧ (∀ x ∈ xs, x.ok) ∧ (xs = [] ∨ ∃ elems spare, d = .slice elems spare ∧ elems.length = xs.length) := by
  obtain ⟨a, len, cap, rfl⟩ := okWide_slice Try.underlying26 hv
  obtain ⟨fuel, hf⟩ := h
  rcases Deep.open_slice Try.underlying26 hf with ⟨hcs, _⟩ | ⟨x, l, c, m, n, D, Pl, hcs, _, hl, hm, hmm, hx, hall⟩
  · simp [Value.cells] at hcs
    obtain ⟨rfl, rfl, rfl⟩ := hcs
    exact ⟨[], Or.inl ⟨rfl, _, _, rfl⟩, fun x hx => by simp at hx, Or.inl rfl⟩
  · simp [Value.cells] at hcs
    obtain ⟨rfl, rfl, rfl⟩ := hcs
    simp only [if_true] at hmm
    subst hmm
    simp only [Prod.mk.injEq] at hx
    obtain ⟨rfl, rfl⟩ := hx
    rw [cl_ActR] at hall
    have each : ∀ i, i < m → ∃ q : ActR, W.cell? (x.add (i * 2)) = some (.int .i64 q.kd) ∧ W.cell? (x.add (i * 2 + 1)) = some (.int .i64 q.n) ∧ q.ok := fun i hi => by
      obtain ⟨cs', h1, h2⟩ := hall i hi
      obtain ⟨_, hlen, hcell⟩ := World.cells?_some h1
      obtain ⟨q, rfl, wq⟩ := fields_ActR h2 hlen
      have e0 := hcell 0 (by omega)
      have e1 := hcell 1 (by omega)
      rw [Deep.add_add] at e0 e1
      exact ⟨q, by simpa [ActR.cs] using e0, by simpa [ActR.cs] using e1, wq⟩
    haveI : Inhabited ActR := ⟨⟨0, 0⟩⟩
    obtain ⟨q, hq⟩ := Deep.choose_lt each
    rcases Nat.eq_zero_or_pos len with e | e
    · subst e
      exact ⟨[], Or.inl ⟨rfl, _, _, rfl⟩, fun x hx => by simp at hx, Or.inl rfl⟩
    · have hsp : x.spot = none := by
        have h0 := (hq 0 (by omega)).1
        rw [show x.add (0 * 2) = x by simp [Addr.add]] at h0
        unfold World.cell? at h0
        split at h0
        · split at h0
          · cases h0
          · rename_i hs
            cases hh : x.spot with
            | none => rfl
            | some z => rw [hh] at hs; exact absurd rfl hs
        · cases h0
      obtain ⟨b, off, r⟩ := x
      obtain rfl : r = none := hsp
      have hlen : ((List.range len).map q).length = len := by simp
      refine ⟨(List.range len).map q, Or.inr ⟨b, off, m, by rw [hlen], ?_, fun i hi => ?_, fun i hi => ?_⟩, fun y hy => ?_, Or.inr ⟨_, _, rfl, by simp⟩⟩
      · rcases Nat.lt_or_ge b W.heap.size with h | h
        · exact h
        · have h0 := (hq 0 (by omega)).1
          simp [World.cell?, add_plainA, Array.getElem?_eq_none h] at h0
      · rw [hlen] at hi
        have h0 := (hq i (by omega)).1
        simpa [add_plainA, Nat.add_assoc] using h0
      · rw [hlen] at hi
        have h0 := (hq i (by omega)).2.1
        simpa [add_plainA, Nat.add_assoc] using h0
      · simp only [List.mem_map, List.mem_range] at hy
        obtain ⟨i, hi, rfl⟩ := hy
        exact (hq i (by omega)).2.2
set_option maxRecDepth 100000 in
theorem laidOut : laidOutB Try.prog = true := by kernel_rfl

theorem cl_Sch : Try.prog.cellsOf 25 = 3 := by kernel_rfl
theorem cl_Sin : Try.prog.cellsOf 23 = 1 := by kernel_rfl
theorem cl_U64 : Try.prog.cellsOf 22 = 1 := by kernel_rfl
set_option maxRecDepth 100000 in
theorem fields_ints {H : Type} {enc : TypeId × Value → H} {W : World} {base fuel : Nat} {spare : Nat → Bool} {held : Bool} {v : Value} {x : DataW H × List MemPlace} (hf : DataW.trod enc Try.prog W base spare held fuel 23 [v] = some x) :
    ∃ xs : List Int, Re.Ra W v xs ∧ (∀ x ∈ xs, W64 x) ∧ (xs = [] ∨ ∃ es sp, x.1 = .slice es sp ∧ es.length = xs.length) := by
  rcases Deep.open_slice Try.underlying23 hf with ⟨hcs, _⟩ | ⟨x, l, c, m, n, D, Pl, hcs, _, hl, hm, hmm, hxx, hall⟩
  · simp at hcs
    subst hcs
    exact ⟨[], ⟨_, _, rfl, Nat.le_refl _, fun h => absurd h (Nat.lt_irrefl 0)⟩, fun x hx => by simp at hx, Or.inl rfl⟩
  · simp only [List.cons.injEq, and_true] at hcs
    subst hcs
    have hlm : l ≤ m := by rw [hmm]; split <;> omega
    rw [cl_3] at hall
    have each : ∀ i, i < m → ∃ q : Int, W.cell? (x.add i) = some (.int .i64 q) ∧ W64 q := fun i hi => by
      obtain ⟨cs', h1, h2⟩ := hall i hi
      obtain ⟨_, hlen, hcell⟩ := World.cells?_some h1
      match cs', hlen with
      | [v0], _ =>
        obtain ⟨q, e, _, w1⟩ := DataW.trod_int Try.underlying3 h2
        simp only [List.cons.injEq, and_true] at e
        subst e
        have e0 := hcell 0 (by omega)
        rw [Deep.add_add] at e0
        exact ⟨q, by simpa using e0, w1⟩
    haveI : Inhabited Int := ⟨0⟩
    obtain ⟨q, hq⟩ := Deep.choose_lt each
    rcases Nat.eq_zero_or_pos l with e | e
    · subst e
      exact ⟨[], ⟨_, _, rfl, Nat.zero_le _, fun h => absurd h (Nat.lt_irrefl 0)⟩, fun x hx => by simp at hx, Or.inl rfl⟩
    · have hsp : x.spot = none := by
        have h0 := (hq 0 (by omega)).1
        rw [show x.add 0 = x by simp [Addr.add]] at h0
        unfold World.cell? at h0
        split at h0
        · split at h0
          · cases h0
          · rename_i hs
            cases hh : x.spot with
            | none => rfl
            | some z => rw [hh] at hs; exact absurd rfl hs
        · cases h0
      obtain ⟨b, off, r⟩ := x
      obtain rfl : r = none := hsp
      have hlen : ((List.range l).map q).length = l := by simp
      have hadd : ∀ i, ((⟨b, off, none⟩ : Addr).add i) = ⟨b, off + i, none⟩ := fun i => by simp [Addr.add]
      refine ⟨(List.range l).map q, ⟨some ⟨b, off, none⟩, c, by rw [hlen], by rw [hlen]; omega, fun _ => ⟨b, off, rfl, ?_, fun i r hi => ?_⟩⟩, fun y hy => ?_, Or.inr ⟨_, _, by rw [hxx], by simp⟩⟩
      · rcases Nat.lt_or_ge b W.heap.size with h | h
        · exact h
        · have h0 := (hq 0 (by omega)).1
          simp [World.cell?, hadd, Array.getElem?_eq_none h] at h0
      · have hi' := (List.getElem?_eq_some_iff.1 hi).1
        rw [hlen] at hi'
        have h0 := (hq i (by omega)).1
        simp [hi'] at hi
        subst hi
        rw [hadd] at h0
        exact h0
      · simp only [List.mem_map, List.mem_range] at hy
        obtain ⟨i, hi, rfl⟩ := hy
        exact (hq i (by omega)).2
theorem open_ints {H : Type} {enc : TypeId × Value → H} {W : World} {b0 : Nat} {v : Value} {d : DataW H} {p : List MemPlace} (hv : Value.okWide Try.prog W .any b0 23 v) (h : DataW.Trod enc Try.prog W 0 (fun _ => true) true 23 v d p) :
    ∃ xs : List Int, Re.Ra W v xs ∧ (∀ x ∈ xs, W64 x) ∧ (xs = [] ∨ ∃ elems spare, d = .slice elems spare ∧ elems.length = xs.length) := by
  obtain ⟨a, len, cap, rfl⟩ := okWide_slice Try.underlying23 hv
  obtain ⟨fuel, hf⟩ := h
  exact fields_ints (x := (d, p)) (by simpa [Value.cells] using hf)
structure SchA where
  p : Int
  s : Int
  u : Value
  xs : List Int
def SchA.cs (a : SchA) : Array Value := #[.int .i64 a.p, .int .u64 a.s, a.u]
def SchA.ok (a : SchA) : Prop := W64 a.p ∧ (Lit.int .u64 a.s).wf = true ∧ ∀ x ∈ a.xs, W64 x
set_option maxRecDepth 100000 in
theorem open_SchA {H : Type} {enc : TypeId × Value → H} {W : World} {b0 : Nat} {v : Value} {d : DataW H} {p : List MemPlace} (hv : Value.okWide Try.prog W .any b0 25 v) (h : DataW.Trod enc Try.prog W 0 (fun _ => true) true 25 v d p) : ∃ a : SchA, v = .agg a.cs ∧ (Re.Ra W a.u a.xs ∧ a.ok) ∧ (a.xs = [] ∨ ∃ e0 e1 es sp, d = .agg [e0, e1, .slice es sp] ∧ es.length = a.xs.length) := by
  obtain ⟨cs, rfl, hs⟩ := okWide_struct Try.underlying25 hv
  obtain ⟨fuel, hf⟩ := h
  rw [cl_Sch] at hs
  obtain ⟨cl⟩ := cs
  have hs' : cl.length = 3 := by simpa using hs
  have hf' : DataW.trod enc Try.prog W 0 (fun _ => true) true fuel 25 cl = some (d, p) := by simpa [Value.cells] using hf
  obtain ⟨ys, k, hk, hxy, _, hyl, hfe⟩ := DataW.trod_struct Try.underlying25 hf'
  match cl, hs' with
  | [v0, v1, v2], _ =>
    have hy : ys.length = 3 := hyl
    match ys, hy with
    | [y0, y1, y2], _ =>
      have g0 := hfe 0 _ rfl
      have g1 := hfe 1 _ rfl
      have g2 := hfe 2 _ rfl
      simp [cl_3, cl_U64, cl_Sin] at g0 g1 g2
      obtain ⟨A0, e0, _, w0⟩ := DataW.trod_int Try.underlying3 g0
      obtain ⟨A1, e1, _, w1⟩ := DataW.trod_int Try.underlying22 g1
      simp only [List.cons.injEq, and_true] at e0 e1
      subst e0 e1
      obtain ⟨xs, r, wx, hl⟩ := fields_ints g2
      refine ⟨⟨A0, A1, v2, xs⟩, rfl, ⟨r, w0, w1, wx⟩, ?_⟩
      rcases hl with hl | ⟨es, sp, e, e2⟩
      · exact Or.inl hl
      · refine Or.inr ⟨y0.1, y1.1, es, sp, ?_, e2⟩
        have := congrArg Prod.fst hxy
        simp only [List.map_cons, List.map_nil] at this
        rw [this, e]
end Go.Proofs.Ythpkkfmphoopnaa
