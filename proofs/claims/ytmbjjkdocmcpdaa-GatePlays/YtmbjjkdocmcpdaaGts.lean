/- The gates in memory: 256 gates with their lines, and a map that tells where each one waits. -/
import Derived.Test.YtmbjjkdocmcpdaaThy
namespace Go.Proofs.Ytmbjjkdocmcpdaa
open Go.RowKit Go.Maps Go.ChangeMaps
set_option linter.unusedVariables false
def fpA (sl : Nat → Value) (L : Nat → List Li) : List Nat := (List.range 256).flatMap (fun i => fpL (sl i) (L i))
def fpG (g : Nat) (sl : Nat → Value) (m : Option Nat) (L : Nat → List Li) : List Nat := g :: (m.toList ++ fpA sl L)
theorem mem_fpA {sl : Nat → Value} {L : Nat → List Li} {k : Nat} : k ∈ fpA sl L ↔ ∃ i, i < 256 ∧ k ∈ fpL (sl i) (L i) := by simp [fpA]
theorem mem_fpG {g : Nat} {sl : Nat → Value} {m : Option Nat} {L : Nat → List Li} {k : Nat} : k ∈ fpG g sl m L ↔ k = g ∨ m = some k ∨ ∃ i, i < 256 ∧ k ∈ fpL (sl i) (L i) := by
  unfold fpG
  rw [List.mem_cons, List.mem_append, mem_fpA]
  simp
/-- The gates and their lines, without the map. -/
structure Gl (w : World) (g : Nat) (op : Nat → Bool) (sl : Nat → Value) (m : Option Nat) (L : Nat → List Li) : Prop where
  bl : w.heap[g]? = some (.cells (gc op sl m) 56 (0, 0))
  ln : ∀ i, i < 256 → Lines w (sl i) (L i)
  fu : ∀ i, i < 256 → Full (L i)
  ap : ∀ i j, i < 256 → j < 256 → i ≠ j → ∀ k, k ∈ fpL (sl i) (L i) → ¬ k ∈ fpL (sl j) (L j)
  off : ∀ i, i < 256 → ¬ g ∈ fpL (sl i) (L i)
  mo : ∀ b, m = some b → b ≠ g ∧ b < w.heap.size ∧ ∀ i, i < 256 → ¬ b ∈ fpL (sl i) (L i)
/-- The map. -/
def Mp (w : World) (m : Option Nat) (W : Nat → List Int) : Prop := (m = none ∧ ∀ i, i < 256 → W i = []) ∨ ∃ b, m = some b ∧ MapAt w b (tot W) (locv W)
/-- The gates stand so. -/
structure Gz (w : World) (g : Nat) (op : Nat → Bool) (W : Nat → List Int) (sl : Nat → Value) (m : Option Nat) (L : Nat → List Li) : Prop where
  gl : Gl w g op sl m L
  mp : Mp w m W
  ok : Ok W
  wl : ∀ i, i < 256 → wl (L i) = W i
def Gs (w : World) (g : Nat) (F : List Nat) (op : Nat → Bool) (W : Nat → List Int) : Prop := ∃ sl m L, F = fpG g sl m L ∧ Gz w g op W sl m L
section
variable {w w' : World} {g : Nat} {op : Nat → Bool} {W : Nat → List Int} {sl : Nat → Value} {m : Option Nat} {L : Nat → List Li} {F : List Nat}
theorem Gl.lt (h : Gl w g op sl m L) : ∀ k, k ∈ fpG g sl m L → k < w.heap.size := fun k hk => by
  rcases mem_fpG.1 hk with e | e | ⟨i, hi, e⟩
  · subst e; exact block_lt h.bl
  · exact (h.mo k e).2.1
  · exact (h.ln i hi).lt k e
theorem Gl.keep (h : Gl w g op sl m L) {G : List Nat} (ht : Touch G w w') (hn : ∀ k, k ∈ fpG g sl m L → ¬ k ∈ G) : Gl w' g op sl m L :=
  ⟨ht.keep h.bl (hn g (by simp [fpG])), fun i hi => (h.ln i hi).keep ht (fun k hk => hn k (mem_fpG.2 (Or.inr (Or.inr ⟨i, hi, hk⟩)))), h.fu, h.ap, h.off, fun b hb => ⟨(h.mo b hb).1, Nat.lt_of_lt_of_le (h.mo b hb).2.1 ht.size, (h.mo b hb).2.2⟩⟩
theorem Mp.keep (h : Mp w m W) {G : List Nat} (ht : Touch G w w') (hn : ∀ b, m = some b → ¬ b ∈ G) : Mp w' m W := by
  rcases h with h | ⟨b, hb, hm⟩
  · exact Or.inl h
  · exact Or.inr ⟨b, hb, hm.kept (ht.block b hm.lt (hn b hb))⟩
theorem Gz.keep (h : Gz w g op W sl m L) {G : List Nat} (ht : Touch G w w') (hn : ∀ k, k ∈ fpG g sl m L → ¬ k ∈ G) : Gz w' g op W sl m L :=
  ⟨h.gl.keep ht hn, h.mp.keep ht (fun b hb => hn b (mem_fpG.2 (Or.inr (Or.inl hb)))), h.ok, h.wl⟩
theorem Gs.keep (h : Gs w g F op W) {G : List Nat} (ht : Touch G w w') (hn : ∀ k, k ∈ F → ¬ k ∈ G) : Gs w' g F op W := by
  obtain ⟨sl, m, L, rfl, h⟩ := h
  exact ⟨sl, m, L, rfl, h.keep ht hn⟩
theorem Gs.keep0 (h : Gs w g F op W) (ht : Touch [] w w') : Gs w' g F op W := h.keep ht (fun _ _ e => by cases e)
theorem Gs.lt (h : Gs w g F op W) : ∀ k, k ∈ F → k < w.heap.size := by
  obtain ⟨sl, m, L, rfl, h⟩ := h
  exact h.gl.lt
theorem Gs.ok (h : Gs w g F op W) : Ok W := by
  obtain ⟨sl, m, L, rfl, h⟩ := h
  exact h.ok
theorem Gs.me (h : Gs w g F op W) : g ∈ F := by
  obtain ⟨sl, m, L, rfl, h⟩ := h
  simp [fpG]
theorem gc_congr {op op' : Nat → Bool} {sl sl' : Nat → Value} {m m' : Option Nat} (h : ∀ j, j < 513 → gcf op sl m j = gcf op' sl' m' j) : gc op sl m = gc op' sl' m' := by
  unfold gc
  exact congrArg List.toArray (List.map_congr_left (fun j hj => h j (List.mem_range.1 hj)))
theorem Gs.congr (h : Gs w g F op W) {op' : Nat → Bool} {V : Nat → List Int} (hW : ∀ i, i < 256 → W i = V i) (ho : ∀ i, i < 256 → op i = op' i) : Gs w g F op' V := by
  obtain ⟨sl, m, L, rfl, h⟩ := h
  have hV : Ok V := ⟨fun i hi => by rw [← hW i hi]; exact h.ok.nd i hi, fun i j x hi hj h1 h2 => h.ok.dj i j x hi hj (by rw [hW i hi]; exact h1) (by rw [hW j hj]; exact h2), fun i x hi hx => h.ok.wf i x hi (by rw [hW i hi]; exact hx)⟩
  refine ⟨sl, m, L, rfl, ⟨⟨?_, h.gl.ln, h.gl.fu, h.gl.ap, h.gl.off, h.gl.mo⟩, ?_, hV, fun i hi => (h.wl i hi).trans (hW i hi)⟩⟩
  · rw [h.gl.bl]
    rw [gc_congr (fun j hj' => ?_)]
    unfold gcf
    split
    · rfl
    · split
      · rw [ho _ (by omega)]
      · rfl
  · rcases h.mp with ⟨e, hm⟩ | ⟨b, hb, hm⟩
    · exact Or.inl ⟨e, fun i hi => by rw [← hW i hi]; exact hm i hi⟩
    · refine Or.inr ⟨b, hb, ?_⟩
      rw [← tot_ext hW]
      exact hm.congr (fun k _ => locv_ext h.ok hV hW k)
/-- A gate's lines have changed. -/
theorem Gl.line (h : Gl w g op sl m L) {i : Nat} (hi : i < 256) {sl' : Value} {L' : List Li} (a : At w w' g (i * 2) (gc op sl m) 56 (sl i) sl' (L i) L') (hF : Full L') :
    Gl w' g op (fup sl i sl') m (fup L i L') ∧ Touch (fpG g sl none L) w w' ∧ Nf w (fpG g sl m L) (fpG g (fup sl i sl') m (fup L i L')) := by
  have hlt := h.lt
  have hgw := block_lt h.bl
  have hin : ∀ k, k ∈ fpL (sl i) (L i) → k ∈ fpG g sl m L := fun k hk => mem_fpG.2 (Or.inr (Or.inr ⟨i, hi, hk⟩))
  have hoth : ∀ j, j < 256 → j ≠ i → ∀ k, k ∈ fpL (sl j) (L j) → ¬ k ∈ g :: fpL (sl i) (L i) := fun j hj hne k hk e => by
    rcases List.mem_cons.1 e with e | e
    · subst e; exact h.off j hj hk
    · exact h.ap j i hj hi hne k hk e
  have hnew : ∀ k, k ∈ fpL sl' L' → ∀ j, j < 256 → j ≠ i → ¬ k ∈ fpL (sl j) (L j) := fun k hk j hj hne e => by
    rcases a.nf k hk with e1 | e1
    · exact h.ap j i hj hi hne k e e1
    · have := hlt k (mem_fpG.2 (Or.inr (Or.inr ⟨j, hj, e⟩))); omega
  refine ⟨⟨?_, fun j hj => ?_, fun j hj => ?_, fun p q hp hq hne k hk e => ?_, fun j hj e => ?_, fun b hb => ⟨(h.mo b hb).1, Nat.lt_of_lt_of_le (h.mo b hb).2.1 a.tc.size, fun j hj e => ?_⟩⟩, a.tc.mono (fun k hk => ?_), fun k hk => ?_⟩
  · rw [a.bl, gc_setlines op sl m hi]
  · by_cases e : j = i
    · subst e; rw [fup_same, fup_same]; exact a.ln
    · rw [fup_other _ _ e, fup_other _ _ e]; exact (h.ln j hj).keep a.tc (hoth j hj e)
  · by_cases e : j = i
    · subst e; rw [fup_same]; exact hF
    · rw [fup_other _ _ e]; exact h.fu j hj
  · by_cases e1 : p = i
    · subst e1
      rw [fup_same, fup_same] at hk
      rw [fup_other _ _ (Ne.symm hne), fup_other _ _ (Ne.symm hne)] at e
      exact hnew k hk q hq (Ne.symm hne) e
    · rw [fup_other _ _ e1, fup_other _ _ e1] at hk
      by_cases e2 : q = i
      · subst e2
        rw [fup_same, fup_same] at e
        exact hnew k e p hp e1 hk
      · rw [fup_other _ _ e2, fup_other _ _ e2] at e
        exact h.ap p q hp hq hne k hk e
  · by_cases e1 : j = i
    · subst e1
      rw [fup_same, fup_same] at e
      rcases a.nf g e with e2 | e2
      · exact h.off j hj e2
      · omega
    · rw [fup_other _ _ e1, fup_other _ _ e1] at e
      exact h.off j hj e
  · by_cases e1 : j = i
    · subst e1
      rw [fup_same, fup_same] at e
      rcases a.nf b e with e2 | e2
      · exact (h.mo b hb).2.2 j hj e2
      · have := (h.mo b hb).2.1; omega
    · rw [fup_other _ _ e1, fup_other _ _ e1] at e
      exact (h.mo b hb).2.2 j hj e
  · rcases List.mem_cons.1 hk with e | e
    · subst e; simp [fpG]
    · exact mem_fpG.2 (Or.inr (Or.inr ⟨i, hi, e⟩))
  · rcases mem_fpG.1 hk with e | e | ⟨j, hj, e⟩
    · exact Or.inl (mem_fpG.2 (Or.inl e))
    · exact Or.inl (mem_fpG.2 (Or.inr (Or.inl e)))
    · by_cases e1 : j = i
      · subst e1
        rw [fup_same, fup_same] at e
        rcases a.nf k e with e2 | e2
        · exact Or.inl (mem_fpG.2 (Or.inr (Or.inr ⟨j, hj, e2⟩)))
        · exact Or.inr e2
      · rw [fup_other _ _ e1, fup_other _ _ e1] at e
        exact Or.inl (mem_fpG.2 (Or.inr (Or.inr ⟨j, hj, e⟩)))
/-- The map's block, and no other, has changed. -/
theorem Gl.map {b : Nat} (h : Gl w g op sl (some b) L) (ob : Obj) : Gl (setBlock w b ob) g op sl (some b) L := by
  have hm := h.mo b rfl
  have ht : Touch [b] w (setBlock w b ob) := touch_setBlock (Touch.refl _ _) (by simp) ob
  exact ⟨ht.keep h.bl (by simpa using Ne.symm hm.1), fun i hi => (h.ln i hi).keep ht (fun k hk e => by simp only [List.mem_singleton] at e; subst e; exact hm.2.2 i hi hk), h.fu, h.ap, h.off, fun b' hb => by
    cases hb
    exact ⟨hm.1, Nat.lt_of_lt_of_le hm.2.1 ht.size, hm.2.2⟩⟩
/-- A gate is opened or shut. -/
theorem Gl.opens (h : Gl w g op sl m L) {i : Nat} (hi : i < 256) (v : Bool) : Gl (w.setCell ⟨g, i * 2, none⟩ (.bool v)) g (fup op i v) sl m L := by
  have ht : Touch [g] w (w.setCell ⟨g, i * 2, none⟩ (.bool v)) := (Touch.refl _ _).setCell (by simp) _
  refine ⟨?_, fun i hi => (h.ln i hi).keep ht (fun k hk e => by simp only [List.mem_singleton] at e; subst e; exact h.off i hi hk), h.fu, h.ap, h.off, fun b hb => ⟨(h.mo b hb).1, Nat.lt_of_lt_of_le (h.mo b hb).2.1 ht.size, (h.mo b hb).2.2⟩⟩
  rw [← gc_setopen op sl m hi v]
  exact bset h.bl _
theorem Gs.opens (h : Gs w g F op W) {i : Nat} (hi : i < 256) (v : Bool) : Gs (w.setCell ⟨g, i * 2, none⟩ (.bool v)) g F (fup op i v) W ∧ Touch F w (w.setCell ⟨g, i * 2, none⟩ (.bool v)) := by
  obtain ⟨sl, m, L, rfl, h⟩ := h
  have ht : Touch [g] w (w.setCell ⟨g, i * 2, none⟩ (.bool v)) := (Touch.refl _ _).setCell (by simp) _
  exact ⟨⟨sl, m, L, rfl, h.gl.opens hi v, h.mp.keep ht (fun b hb e => by simp only [List.mem_singleton] at e; exact (h.gl.mo b hb).1 e), h.ok, h.wl⟩, ht.mono (fun k hk => by simp only [List.mem_singleton] at hk; subst hk; simp [fpG])⟩
theorem Gs.cell (h : Gs w g F op W) {i : Nat} (hi : i < 256) : w.cell? ⟨g, i * 2, none⟩ = some (.bool (op i)) ∧ w.frozen? ⟨g, i * 2, none⟩ = false := by
  obtain ⟨sl, m, L, rfl, h⟩ := h
  exact ⟨cell_at h.gl.bl (gc_open op sl m hi), froz_at h.gl.bl _⟩
end
end Go.Proofs.Ytmbjjkdocmcpdaa
