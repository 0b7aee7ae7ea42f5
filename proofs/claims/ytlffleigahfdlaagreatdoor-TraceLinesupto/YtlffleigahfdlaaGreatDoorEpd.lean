/- A replacer of six texts is made, and builds itself once; no conditions but those that each states. -/
import Derived.Test.YtlffleigahfdlaaGreatDoorEpc
namespace Go.Proofs.YtlffleigahfdlaaGreatDoor.Tr
open Go.RowKit Go.Shelf Go.Maps Go.ChangeMaps
set_option linter.unusedVariables false
set_option linter.unusedSimpArgs false
theorem Br.keep {w w' : World} {B r k b : Nat} {cs : Array Value} {z : Nat × Nat} {t : Nat} (h : Br w B r k) (hb : w.heap[b]? = some (.cells cs t z)) (h1 : t ≠ 242) (h2 : t ≠ 5) (h3 : t ≠ 9) (T : Touch [b] w w') : Br w' B r k := by
  obtain ⟨f, v, q1, q2, q3, q4⟩ := h
  have nr : ∀ q bs z' t', w.heap[q]? = some (.cells bs t' z') → t' ≠ t → q ≠ b := fun q bs z' t' hq ht e => by
    subst e
    rw [hb] at hq
    cases hq
    exact ht rfl
  refine ⟨f, v, T.keep q1 (fun hm => nr r _ _ _ q1 (fun e => h1 e.symm) (by simpa using hm)), q2, own_touch q3 T (fun q hq hm => ?_), fun j hj => (q4 j hj).keep T (fun g bs z' hg hh => nr g bs z' 5 hh (fun e => h2 e.symm) (by simpa using hg))⟩
  obtain ⟨cur, hc, _⟩ := own_ty q3 (q := q) (by simp [hq])
  exact nr q cur _ 9 hc (fun e => h3 e.symm) (by simpa using hm)
def rcs (d m : Int) (r o : Value) : Array Value := #[.int .u32 d, .int .i32 m, .int .u32 0, r, o]
set_option maxRecDepth 100000 in
theorem buildOnce_ {w : World} {b g m : Nat} {d mu : Int} (hb : w.heap[b]? = some (.cells (rcs d mu .nilIface (.slice (some ⟨g, 0, none⟩) 6 m)) 193 (0, 0))) (hm : 6 ≤ m) (hR : Six w g) :
    Calls Tryz.prog 136 #[PT b] w fun e w2 => e = .returned (.tuple #[]) ∧ ∃ r, w2.heap[b]? = some (.cells (rcs d mu (.iface 243 (PT r)) (.slice none 0 0)) 193 (0, 0)) ∧ Br w2 w.heap.size r 3 ∧ Touch [b] w w2 := by
  have HB : Hid _ := build_ (cell_at hb (j := 4) rfl) hm hR
  have Hb := hid hb
  have fz := froz_at hb
  unfold PT at HB ⊢
  go_enter Tryz.func136, Tryz.ntmps136
  go_wp2_with fail
  refine Calls.mono HB.out ?_
  rintro e w2 ⟨r, rfl, q1, q2⟩
  have hb2 := q2.keep Hb.out (by simp)
  have c3 := cell_at hb2 (j := 3) rfl
  have c4 := cell_at hb2 (j := 4) rfl
  have fz2 := froz_at hb2
  have H2 := hid (And.intro q1 (And.intro q2 hb2))
  clear q1 q2 hb2 fz hb
  go_wp2_with fail
  go_end0
  have T : Touch [b] w2 ((w2.setCell ⟨b, 3, none⟩ (.iface 243 (PT r))).setCell ⟨b, 4, none⟩ (.slice none 0 0)) := ((Touch.refl [b] w2).setCell (Or.inl (by simp)) _).setCell (Or.inl (by simp)) _
  refine ⟨rfl, r, ?_, H2.out.1.keep H2.out.2.2 (by decide) (by decide) (by decide) T, (H2.out.2.1.mono (fun k hk => by simp at hk)).trans' T⟩
  exact bset (bset H2.out.2.2 (i := 3) (.iface 243 (PT r))) (i := 4) (.slice none 0 0)
/-- Do of a replacer that is new: it is built. -/
theorem doBuild_ {w : World} {b g m : Nat} (hb : w.heap[b]? = some (.cells (rcs 0 0 .nilIface (.slice (some ⟨g, 0, none⟩) 6 m)) 193 (0, 0))) (hm : 6 ≤ m) (hR : Six w g) :
    Calls Tryz.prog 135 #[PT b, .func (.func 136) #[PT b] #[]] w fun e w' => e = .returned (.tuple #[]) ∧ ∃ r, w'.heap[b]? = some (.cells (rcs 1 0 (.iface 243 (PT r)) (.slice none 0 0)) 193 (0, 0)) ∧ Br w' w.heap.size r 3 ∧ Touch [b] w w' := by
  have h1 : (w.setCell ⟨b, 1, none⟩ (.int .i32 1)).heap[b]? = some (.cells (rcs 0 1 .nilIface (.slice (some ⟨g, 0, none⟩) 6 m)) 193 (0, 0)) := bset hb (i := 1) (.int .i32 1)
  have t1 : Touch [b] w (w.setCell ⟨b, 1, none⟩ (.int .i32 1)) := (Touch.refl [b] w).setCell (Or.inl (by simp)) _
  have hgb : ¬ g ∈ [b] := by
    intro e
    obtain ⟨cs, z, h, _⟩ := hR
    simp at e
    subst e
    rw [hb] at h
    simp at h
  have hs : (w.setCell ⟨b, 1, none⟩ (.int .i32 1)).heap.size = w.heap.size := by simp
  refine (do_ (b := b) (w := w) (fun w2 => ∃ r, w2.heap[b]? = some (.cells (rcs 0 1 (.iface 243 (PT r)) (.slice none 0 0)) 193 (0, 0)) ∧ Br w2 w.heap.size r 3 ∧ Touch [b] w w2) (cell_at hb (j := 0) rfl) (cell_at hb (j := 1) rfl) (froz_at hb 0) (froz_at hb 1) ?_).mono ?_
  · refine (buildOnce_ h1 hm (hR.keep t1 hgb)).mono ?_
    rintro e w2 ⟨rfl, r, q1, q2, q3⟩
    rw [hs] at q2
    exact ⟨rfl, cell_at q1 (j := 0) rfl, cell_at q1 (j := 1) rfl, froz_at q1 0, froz_at q1 1, r, q1, q2, t1.trans' q3⟩
  · rintro e w' ⟨rfl, w2, ⟨r, q1, q2, q3⟩, rfl⟩
    have q1' : w2.drew.heap[b]? = some (.cells (rcs 0 1 (.iface 243 (PT r)) (.slice none 0 0)) 193 (0, 0)) := q1
    have T : Touch [b] w2 ((w2.drew.setCell ⟨b, 0, none⟩ (.int .u32 1)).setCell ⟨b, 1, none⟩ (.int .i32 0)) := (((Touch.refl [b] w2).drew).setCell (Or.inl (by simp)) _).setCell (Or.inl (by simp)) _
    refine ⟨rfl, r, ?_, q2.keep q1 (by decide) (by decide) (by decide) T, q3.trans' T⟩
    exact bset (bset q1' (i := 0) (.int .u32 1)) (i := 1) (.int .i32 0)
theorem six_own {w : World} {B h c : Nat} (o : w.ownsRow B 9 1 (.slice (some ⟨h, 0, none⟩) 6 c) 6 six) : Six w h ∧ 6 ≤ c := by
  obtain ⟨h1, a, c', e, h2, h3, h4⟩ := Rs.of_own o
  cases e
  obtain ⟨g, off, e, cs, z, h5, h6⟩ := h4 (by omega)
  rcases o with ⟨_, ⟨e1, _⟩ | ⟨g', cap, cur, e1, hg, hc, hn, hm, hs, ht⟩⟩
  · cases e1
  · cases e1
    refine ⟨⟨cur, _, hc, fun j u hu => ?_⟩, h2⟩
    have hj := (List.getElem?_eq_some_iff.1 hu).1
    rw [← Array.getElem?_toList, ← hu, ← ht, List.getElem?_take, if_pos (by simp [six] at hj; omega)]
/-- A replacer that is made. -/
theorem newRep_ {w : World} {g : Nat} (hR : Six w g) :
    Calls Tryz.prog 104 #[.slice (some ⟨g, 0, none⟩) 6 6] w fun e w' => ∃ b h m, e = .returned (PT b) ∧ w.heap.size ≤ b ∧ w'.heap[b]? = some (.cells (rcs 0 0 .nilIface (.slice (some ⟨h, 0, none⟩) 6 m)) 193 (0, 0)) ∧ 6 ≤ m ∧ Six w' h ∧ Touch [] w w' := by
  have HR : Hid (Rs 9 1 w (.slice (some ⟨g, 0, none⟩) 6 6) 6 six) := hid (by
    obtain ⟨cs, z, h1, h2⟩ := hR
    exact ⟨rfl, _, _, rfl, Nat.le_refl _, fun e => (by cases e), fun _ => ⟨g, 0, rfl, cs, z, h1, fun j u hu => by rw [Nat.zero_add]; exact h2 j u hu⟩⟩)
  go_enter Tryz.func104, Tryz.ntmps104
  go_wp2_with (at_builtin; go_must (refine wpList_append_rs rfl _ _ 178 9 rfl (.string ⟨#[]⟩) 1 16 info9 Tryz.underlying178 rfl (by decide) w.heap.size (.slice none 0 0) 0 [] rfl ⟨rfl, Or.inl ⟨rfl, rfl⟩⟩ _ 6 six rfl HR.out (by simp [six]; decide) (by unfold maxLen; omega) (by omega) (Nat.le_refl _) ?_; intro v3 w3 o3 g3 b3; have H3 := hid (And.intro o3 g3); obtain ⟨h3, c3, rfl, k3, l3⟩ := own_some o3 (by omega); clear o3 g3 b3))
  obtain ⟨sx, h6⟩ := six_own H3.out.1
  have T : Touch [] w w3 := (Touch.refl [] w).grown H3.out.2 (by simp [Value.ownBlock])
  go_ret
  exact ⟨_, h3, c3, rfl, T.size, heap_alloc_new w3 _, h6, sx.keep ((Touch.refl [] w3).alloc _) (by simp), T.alloc _⟩
end Go.Proofs.YtlffleigahfdlaaGreatDoor.Tr
