/- Both sketches side by side between two acts, and what an act does to each; no conditions but those that each states. -/
import Derived.Test.YtbadlkjffelkhaaXsy
import Derived.Test.YtbadlkjffelkhaaXdn
namespace Go.Proofs.Ytbadlkjffelkhaa.Sk
open Go.RowKit Go.Maps Go.ChangeMaps
set_option maxRecDepth 100000
set_option linter.unusedVariables false
set_option linter.unusedSimpArgs false
def zd : Array Value := #[.int .i64 0, .slice none 0 0, .int .u64 0]
/-- The program's sketch is Y, the document's is X in the box mb; the result's cell lies at the world's first new block. -/
structure Pv (w wr : World) (mb s g cap : Nat) (Y X : S) (G cp : Nat) (Q Cp : Nat → Nat) : Prop where
  t : Touch [] w wr
  k : Kq wr s g cap Y
  ks : w.heap.size ≤ s
  kg : w.heap.size ≤ g
  m : wr.heap[mb]? = some (.cells (bxd X G cp) 29 (0, 0))
  d : Dq wr 0 G cp Q Cp X
  z : wr.heap[w.heap.size]? = some (.cells zd 29 (0, 0))
  mz : w.heap.size < mb
  wx : Wf X
section
variable {w wr w2 : World} {mb s g cap G cp : Nat} {Y Y' X Z : S} {Q Cp : Nat → Nat}
theorem Pv.keep0 (h : Pv w wr mb s g cap Y X G cp Q Cp) (T : Touch [] wr w2) : Pv w w2 mb s g cap Y X G cp Q Cp :=
  ⟨h.t.trans' T, h.k.keep0 T, h.ks, h.kg, T.keep h.m (by simp), h.d.keep0 T, T.keep h.z (by simp), h.mz, h.wx⟩
theorem kq_apart {wr : World} {s g cap : Nat} {Y : S} (k : Kq wr s g cap Y) {q : Nat} {cs : Array Value} {fr : Nat × Nat} (hb : wr.heap[q]? = some (.cells cs 29 fr)) : ¬ q ∈ [s, g] := by
  intro hm
  simp only [List.mem_cons, List.mem_nil_iff, or_false] at hm
  rcases hm with rfl | rfl
  · have := k.box
    rw [hb] at this
    cases this
  · obtain ⟨cs', h2⟩ := own_kind k.row (b := q) rfl
    rw [hb] at h2
    cases h2
theorem kq_out {wr : World} {s g cap : Nat} {Y : S} (k : Kq wr s g cap Y) {q t : Nat} {cs : Array Value} {fr : Nat × Nat} (hb : wr.heap[q]? = some (.cells cs t fr)) (h1 : t ≠ 78) (h2 : t ≠ 5) : ¬ q ∈ [s, g] := by
  intro hm
  simp only [List.mem_cons, List.mem_nil_iff, or_false] at hm
  rcases hm with rfl | rfl
  · have := k.box
    rw [hb] at this
    cases this
    exact h1 rfl
  · obtain ⟨cs', h3⟩ := own_kind k.row (b := q) rfl
    rw [hb] at h3
    cases h3
    exact h2 rfl
theorem Pv.prog (h : Pv w wr mb s g cap Y X G cp Q Cp) (T : Touch [s, g] wr w2) (k : Kq w2 s g cap Y') : Pv w w2 mb s g cap Y' X G cp Q Cp :=
  ⟨h.t.trans T (fun q hq => Or.inr (by
    simp only [List.mem_cons, List.mem_nil_iff, or_false] at hq
    rcases hq with rfl | rfl
    · exact h.ks
    · exact h.kg)), k, h.ks, h.kg, T.keep h.m (kq_apart h.k h.m), h.d.prog h.k T, T.keep h.z (kq_apart h.k h.z), h.mz, h.wx⟩
/-- Another sketch of the program's takes the place. -/
theorem Pv.swap {s' g' cap' : Nat} (h : Pv w wr mb s g cap Y X G cp Q Cp) (k : Kq wr s' g' cap' Y') (h1 : w.heap.size ≤ s') (h2 : w.heap.size ≤ g') : Pv w wr mb s' g' cap' Y' X G cp Q Cp :=
  ⟨h.t, k, h1, h2, h.m, h.d, h.z, h.mz, h.wx⟩
/-- The document's new sketch is laid into its box. -/
theorem Pv.doc {G' cp' : Nat} {Q' Cp' : Nat → Nat} (h : Pv w wr mb s g cap Y X G cp Q Cp) (d : Dq wr 0 G' cp' Q' Cp' Z) (hz : Wf Z) : Pv w (((wr.setCell ⟨mb, 0, none⟩ (.int .i64 (Z.b : Nat))).setCell ⟨mb, 1, none⟩ (.slice (some ⟨G', 0, none⟩) Z.r cp')).setCell ⟨mb, 2, none⟩ (.int .u64 (Z.t : Nat))) mb s g cap Y Z G' cp' Q' Cp' := by
  have tt : Touch [mb] wr _ := (((Touch.refl _ wr).setCell (p := ⟨mb, 0, none⟩) (Or.inl (by simp)) (.int .i64 (Z.b : Nat))).setCell (p := ⟨mb, 1, none⟩) (Or.inl (by simp)) (.slice (some ⟨G', 0, none⟩) Z.r cp')).setCell (p := ⟨mb, 2, none⟩) (Or.inl (by simp)) (.int .u64 (Z.t : Nat))
  obtain ⟨a1, a2⟩ := d.apart h.m (by decide) (by decide)
  have hm := kq_apart h.k h.m
  simp only [List.mem_cons, List.mem_nil_iff, or_false, not_or] at hm
  have hmz := h.mz
  refine ⟨h.t.trans tt (fun q hq => Or.inr ?_), h.k.keep tt (by simp; exact Ne.symm hm.1) (by simp; exact Ne.symm hm.2), h.ks, h.kg, bset (i := 2) (bset (i := 1) (bset (i := 0) h.m _) _) _, d.keep tt (by simp [a1]) (fun j hj => by simp [a2 j hj]), tt.keep h.z (by simp; omega), h.mz, hz⟩
  simp only [List.mem_singleton] at hq
  omega
theorem Pv.m0 (h : Pv w wr mb s g cap Y X G cp Q Cp) : wr.cell? ⟨mb, 0, none⟩ = some (.int .i64 (X.b : Nat)) := cell_at h.m rfl
theorem Pv.m1 (h : Pv w wr mb s g cap Y X G cp Q Cp) : wr.cell? ⟨mb, 1, none⟩ = some (.slice (some ⟨G, 0, none⟩) X.r cp) := cell_at h.m rfl
theorem Pv.m2 (h : Pv w wr mb s g cap Y X G cp Q Cp) : wr.cell? ⟨mb, 2, none⟩ = some (.int .u64 (X.t : Nat)) := cell_at h.m rfl
theorem Pv.mf (h : Pv w wr mb s g cap Y X G cp Q Cp) (j : Nat) : wr.frozen? ⟨mb, j, none⟩ = false := froz_at h.m j
end
/-- Acts that can be read. -/
def AcS (w : World) (a : Option Addr) (xs : List ActX) : Prop := ∀ w1, Touch [] w w1 → ∀ i (h : i < xs.length), xs[i].ok ∧ ∃ b off, a = some ⟨b, off, none⟩ ∧ w1.cell? ⟨b, off + i * 3, none⟩ = some (.int .i64 xs[i].kd) ∧ w1.cell? ⟨b, off + i * 3 + 1, none⟩ = some (.int .u16 xs[i].k.sp) ∧ w1.cell? ⟨b, off + i * 3 + 2, none⟩ = some (.string xs[i].k.nm)
theorem AcS.keep {w w' : World} {a : Option Addr} {xs : List ActX} (h : AcS w a xs) (T : Touch [] w w') : AcS w' a xs := fun w1 t i hi => h w1 (T.trans' t) i hi
theorem AcS.of_sl {w : World} {v : Value} {xs : List ActX} (h : SlActX w v xs) (hx : ∀ x ∈ xs, x.ok) : ∃ a c, v = .slice a xs.length c ∧ AcS w a xs := by
  rcases h with ⟨rfl, a, c, rfl⟩ | ⟨b, off, c, rfl, h⟩
  · exact ⟨a, c, rfl, fun w1 t i hi => absurd hi (Nat.not_lt_zero _)⟩
  · refine ⟨_, c, rfl, fun w1 t i hi => ⟨hx _ (List.getElem_mem hi), b, off, rfl, ?_⟩⟩
    have h1 := h.keep t
    exact ⟨h1.c0 i hi, h1.c1 i hi, h1.c2 i hi⟩
/-- What played hands back: a sketch, and the document's beside it, the same. -/
def PlE (v u : Value) (w w' : World) (r b : Nat) : Prop := ∃ s g cap X G cp Q Cp, v = PT s ∧ u = dv (.slice (some ⟨G, 0, none⟩) X.r cp) X ∧ Kq w' s g cap X ∧ Dq w' 0 G cp Q Cp X ∧ X.r = r ∧ X.b = b ∧ w.heap.size ≤ s ∧ w.heap.size ≤ g ∧ Touch [] w w'
end Go.Proofs.Ytbadlkjffelkhaa.Sk
