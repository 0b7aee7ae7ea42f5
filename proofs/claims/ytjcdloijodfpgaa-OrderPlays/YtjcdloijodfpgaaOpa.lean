/- A slice of acts as an argument, opened; no conditions. -/
import Derived.Test.YtjcdloijodfpgaaRows
import Derived.Test.YtjcdloijodfpgaaBas
import Derived.WalkKit
import Derived.ProofKit
import Derived.OpenShut
import Derived.ShutString
import Derived.Deep.Slices
namespace Go.Proofs.Ytjcdloijodfpgaa
open Go.ChangeShapes Go.WideShapes Go.ChangeAt Go.RowKit
set_option linter.unusedVariables false
/-- What is done: its kind, its number, its key. -/
structure ActK where
  kd : Int
  nn : Int
  k : K
def WfA (a : ActK) : Prop := W64 a.kd ∧ W64 a.nn ∧ Ok a.k
structure RowA (w : World) (b off : Nat) (xs : List ActK) : Prop where
  lt : b < w.heap.size
  c0 : ∀ i (h : i < xs.length), w.cell? ⟨b, off + i * 4, none⟩ = some (.int .i64 xs[i].kd)
  c1 : ∀ i (h : i < xs.length), w.cell? ⟨b, off + i * 4 + 1, none⟩ = some (.int .i64 xs[i].nn)
  c2 : ∀ i (h : i < xs.length), w.cell? ⟨b, off + i * 4 + 2, none⟩ = some (.int .u16 xs[i].k.1)
  c3 : ∀ i (h : i < xs.length), w.cell? ⟨b, off + i * 4 + 3, none⟩ = some (.string xs[i].k.2)
def SlA (w : World) (v : Value) (xs : List ActK) : Prop := (xs = [] ∧ ∃ a c, v = .slice a 0 c) ∨ ∃ b off cap, v = .slice (some ⟨b, off, none⟩) xs.length cap ∧ RowA w b off xs
theorem RowA.keep {w w' : World} {b off : Nat} {xs : List ActK} (h : RowA w b off xs) (ht : Touch [] w w') : RowA w' b off xs := by
  have e : w'.heap[b]? = w.heap[b]? := ht.block b h.lt (by simp)
  refine ⟨Nat.lt_of_lt_of_le h.lt ht.size, fun i hi => ?_, fun i hi => ?_, fun i hi => ?_, fun i hi => ?_⟩
  · rw [World.cell?_of_block (by exact e)]; exact h.c0 i hi
  · rw [World.cell?_of_block (by exact e)]; exact h.c1 i hi
  · rw [World.cell?_of_block (by exact e)]; exact h.c2 i hi
  · rw [World.cell?_of_block (by exact e)]; exact h.c3 i hi
theorem add_plainA (b off j : Nat) : (⟨b, off, none⟩ : Addr).add j = ⟨b, off + j, none⟩ := by simp [Addr.add]
theorem cells38 : Try.prog.cellsOf 38 = 4 := by kernel_rfl
set_option maxRecDepth 100000 in
theorem open_acts {H : Type} {enc : TypeId × Value → H} {W : World} {b0 : Nat} {v : Value} {d : DataW H} {p : List MemPlace} (hv : Value.okWide Try.prog W .any b0 22 v) (h : DataW.Trod enc Try.prog W 0 (fun _ => true) true 22 v d p) :
    ∃ xs : List ActK, SlA W v xs ∧ (∀ x ∈ xs, WfA x) ∧ (xs = [] ∨ ∃ elems spare, d = .slice elems spare ∧ elems.length = xs.length) := by
  obtain ⟨a, len, cap, rfl⟩ := okWide_slice Try.underlying22 hv
  obtain ⟨fuel, hf⟩ := h
  rcases Deep.open_slice Try.underlying22 hf with ⟨hcs, _⟩ | ⟨x, l, c, m, n, D, Pl, hcs, _, hl, hm, hmm, hx, hall⟩
  · simp [Value.cells] at hcs
    obtain ⟨rfl, rfl, rfl⟩ := hcs
    exact ⟨[], Or.inl ⟨rfl, _, _, rfl⟩, fun x hx => by simp at hx, Or.inl rfl⟩
  · simp [Value.cells] at hcs
    obtain ⟨rfl, rfl, rfl⟩ := hcs
    simp only [if_true] at hmm
    subst hmm
    simp only [Prod.mk.injEq] at hx
    obtain ⟨rfl, rfl⟩ := hx
    rw [cells38] at hall
    have each : ∀ i, i < m → ∃ q : ActK, W.cell? (x.add (i * 4)) = some (.int .i64 q.kd) ∧ W.cell? (x.add (i * 4 + 1)) = some (.int .i64 q.nn) ∧ W.cell? (x.add (i * 4 + 2)) = some (.int .u16 q.k.1) ∧ W.cell? (x.add (i * 4 + 3)) = some (.string q.k.2) ∧ WfA q := fun i hi => by
      obtain ⟨cs', h1, h2⟩ := hall i hi
      obtain ⟨_, hlen, hcell⟩ := World.cells?_some h1
      obtain ⟨ys, k, hk, hxy, _, hyl, hfe⟩ := DataW.trod_struct Try.underlying38 h2
      match cs', hlen with
      | [v0, v1, v2, v3], _ =>
        have hy : ys.length = 3 := hyl
        match ys, hy with
        | [y0, y1, y2], _ =>
          have g0 := hfe 0 _ rfl
          have g1 := hfe 1 _ rfl
          have g2 := hfe 2 _ rfl
          have c3 : Try.prog.cellsOf 3 = 1 := by kernel_rfl
          simp [c3, cells36] at g0 g1 g2
          obtain ⟨A, a1, _, wa⟩ := DataW.trod_int Try.underlying3 g0
          obtain ⟨B, b1, _, wb⟩ := DataW.trod_int Try.underlying3 g1
          simp only [List.cons.injEq, and_true] at a1 b1
          subst a1 b1
          obtain ⟨zs, k2, hk2, _, _, hzl, hfz⟩ := DataW.trod_struct Try.underlying36 g2
          have hz : zs.length = 2 := hzl
          match zs, hz with
          | [z0, z1], _ =>
            have f0 := hfz 0 _ rfl
            have f1 := hfz 1 _ rfl
            have c34 : Try.prog.cellsOf 34 = 1 := by kernel_rfl
            have c9 : Try.prog.cellsOf 9 = 1 := by kernel_rfl
            simp [c34, c9] at f0 f1
            obtain ⟨C, p1, _, wc⟩ := DataW.trod_int Try.underlying34 f0
            obtain ⟨s, q1, _, ws⟩ := DataW.trod_string Try.underlying9 f1
            simp only [List.cons.injEq, and_true] at p1 q1
            subst p1 q1
            have e0 := hcell 0 (by omega)
            have e1 := hcell 1 (by omega)
            have e2 := hcell 2 (by omega)
            have e3 := hcell 3 (by omega)
            rw [Deep.add_add] at e0 e1 e2 e3
            exact ⟨⟨A, B, (C, s)⟩, by simpa using e0, by simpa using e1, by simpa using e2, by simpa using e3, wa, wb, wc, ws⟩
    haveI : Inhabited ActK := ⟨⟨0, 0, (0, ⟨#[]⟩)⟩⟩
    obtain ⟨q, hq⟩ := Deep.choose_lt each
    rcases Nat.eq_zero_or_pos len with e | e
    · subst e
      exact ⟨[], Or.inl ⟨rfl, _, _, rfl⟩, fun x hx => by simp at hx, Or.inl rfl⟩
    · have hsp : x.spot = none := by
        have h0 := (hq 0 (by omega)).1
        rw [show x.add (0 * 4) = x by simp [Addr.add]] at h0
        unfold World.cell? at h0
        split at h0
        · split at h0
          · cases h0
          · rename_i hs
            cases hh : x.spot with
            | none => rfl
            | some z => rw [hh] at hs; exact absurd rfl hs
        · cases h0
      obtain ⟨b, off, r⟩ := x
      obtain rfl : r = none := hsp
      have hlen : ((List.range len).map q).length = len := by simp
      refine ⟨(List.range len).map q, Or.inr ⟨b, off, m, by rw [hlen], ?_, fun i hi => ?_, fun i hi => ?_, fun i hi => ?_, fun i hi => ?_⟩, fun y hy => ?_, Or.inr ⟨_, _, rfl, by simp⟩⟩
      · rcases Nat.lt_or_ge b W.heap.size with h | h
        · exact h
        · have h0 := (hq 0 (by omega)).1
          simp [World.cell?, add_plainA, Array.getElem?_eq_none h] at h0
      · rw [hlen] at hi
        have h0 := (hq i (by omega)).1
        simpa [add_plainA] using h0
      · rw [hlen] at hi
        have h0 := (hq i (by omega)).2.1
        simpa [add_plainA, Nat.add_assoc] using h0
      · rw [hlen] at hi
        have h0 := (hq i (by omega)).2.2.1
        simpa [add_plainA, Nat.add_assoc] using h0
      · rw [hlen] at hi
        have h0 := (hq i (by omega)).2.2.2.1
        simpa [add_plainA, Nat.add_assoc] using h0
      · simp only [List.mem_map, List.mem_range] at hy
        obtain ⟨i, hi, rfl⟩ := hy
        exact (hq i (by omega)).2.2.2.2
end Go.Proofs.Ytjcdloijodfpgaa
