/- The contracts of a gate's put and tidy. -/
import Derived.Test.YtmbjjkdocmcpdaaLin
namespace Go.Proofs.Ytmbjjkdocmcpdaa
open Go.RowKit Go.Maps Go.ChangeMaps
set_option linter.unusedVariables false
/-- What a gate's lines have become in its place o of the block g. -/
structure At (w w' : World) (g o : Nat) (c : Array Value) (t : TypeId) (sl sl' : Value) (L L' : List Li) : Prop where
  ln : Lines w' sl' L'
  bl : w'.heap[g]? = some (.cells (c.setIfInBounds (o + 1) sl') t (0, 0))
  tc : Touch (g :: fpL sl L) w w'
  nf : Nf w (fpL sl L) (fpL sl' L')
def AtE (w w' : World) (g o : Nat) (c : Array Value) (t : TypeId) (sl : Value) (L : List Li) (xs : List Int) : Prop := ∃ sl' L', At w w' g o c t sl sl' L L' ∧ Full L' ∧ wl L' = xs
theorem set_same {c : Array Value} {j : Nat} {v : Value} (h : c[j]? = some v) : c.setIfInBounds j v = c := by
  apply Array.ext_getElem?
  intro k
  rw [Array.getElem?_setIfInBounds]
  split
  · rename_i e; subst e; rw [if_pos (Array.getElem?_eq_some_iff.1 h).1, h]
  · rfl
theorem cell_at {w : World} {g j : Nat} {c : Array Value} {t : TypeId} {fr : Nat × Nat} {v : Value} (hb : w.heap[g]? = some (.cells c t fr)) (h : c[j]? = some v) : w.cell? ⟨g, j, none⟩ = some v := by simp [World.cell?, hb, h]
theorem froz_at {w : World} {g : Nat} {c : Array Value} {t : TypeId} (hb : w.heap[g]? = some (.cells c t (0, 0))) (j : Nat) : w.frozen? ⟨g, j, none⟩ = false := by simp [World.frozen?, hb]
theorem full_set {L : List Li} {i : Nat} {l : Li} (h : Full L) (hl : l.xs ≠ []) : Full (L.set i l) := fun a ha => by
  rcases List.mem_or_eq_of_mem_set ha with e | rfl
  · exact h a e
  · exact hl
section
variable {w : World} {g o : Nat} {c : Array Value} {t : TypeId} {sl : Value} {L : List Li}
set_option maxHeartbeats 4000000 in
set_option maxRecDepth 100000 in
theorem put33_fits (hb : w.heap[g]? = some (.cells c t (0, 0))) (hc : c[o + 1]? = some sl) (h : Lines w sl L) (hF : Full L) (hg : ¬ g ∈ fpL sl L) {i : Nat} (hi : i + 1 = L.length) (hL : L.length ≤ 4398046511104) (x : Int) (hx : W64 x) (hnx : ¬ x ∈ wl L) (hfit : (L[i]'(by omega)).xs.length < 65536) :
    Calls Try.prog 33 #[.pointer (some ⟨g, o, none⟩), .int .i64 x] w fun e w' => e = .returned (.tuple #[]) ∧ AtE w w' g o c t sl L (wl L ++ [x]) := by
  have hil : i < L.length := by omega
  obtain ⟨p, cap, hs⟩ := h.form
  obtain ⟨b, hp, hcell⟩ := h.cell hs hil
  have c1 := cell_at hb hc
  rw [hs, hp] at c1
  have hxi : ¬ x ∈ L[i].xs := fun e => hnx (by simp only [wl, List.mem_flatMap]; exact ⟨_, List.getElem_mem hil, e⟩)
  have HP := uput_ok w L[i].q L[i].F L[i].xs x hx (h.all _ (List.getElem_mem hil)) hxi hfit
  have z1 : (L.length : Int) - 1 = (i : Int) := by omega
  have z2 : (i : Int) < (L.length : Int) := by omega
  have zb : (L.length : Int) ≤ 4398046511104 := by omega
  have HX := hid (And.intro h (And.intro hF (And.intro hb (And.intro hc hg))))
  have HI := hid (And.intro hi hil)
  unfold ptr at hcell
  have HQ : Hid (∀ w', (∃ F', Uq w' L[i].q F' (L[i].xs ++ [x]) ∧ Touch L[i].F w w' ∧ Nf w L[i].F F') → AtE w w' g o c t sl L (wl L ++ [x])) := fun w' ⟨F', u, tt, nn⟩ => by
    obtain ⟨r1, r2⟩ := h.work hil u tt nn
    have hgF : ¬ g ∈ L[i].F := fun e => hg (mem_fpL.2 (Or.inr ⟨_, List.getElem_mem hil, e⟩))
    refine ⟨sl, _, ⟨r1, ?_, tt.mono (fun k hk => List.mem_cons_of_mem _ (mem_fpL.2 (Or.inr ⟨_, List.getElem_mem hil, hk⟩))), r2⟩, full_set hF (by simp), ?_⟩
    · rw [set_same hc]
      exact tt.keep hb hgF
    · have e1 : L = L.take i ++ [L[i]] := by
        conv => lhs; rw [← List.take_length (l := L), ← hi, List.take_succ_eq_append_getElem hil]
      have e2 : L.set i ⟨L[i].q, F', L[i].xs ++ [x]⟩ = L.take i ++ [⟨L[i].q, F', L[i].xs ++ [x]⟩] := by
        rw [List.set_eq_take_append_cons_drop, if_pos hil, List.drop_eq_nil_of_le (by omega)]
      have e3 : wl L = wl (L.take i) ++ L[i].xs := by
        conv => lhs; rw [e1]
        rw [wl_app]; simp [wl]
      rw [e2, e3, wl_app]; simp [wl]
  unfold PT at HP
  generalize L[i].q = q at *
  generalize L[i].F = G at *
  generalize L[i].xs = xs at *
  clear h hF hb hc hg hi hil hnx hxi hs hp hL
  generalize wl L = WL at *
  generalize hN : L.length = N at *
  clear hN
  go_enter Try.func33, Try.ntmps33
  go_wp2_with (go_at_call 39; refine HP.mono ?_; rintro e w2 ⟨rfl, r⟩; have R := hid r; clear r)
  exact bodyPost_ret (v := .tuple #[]) (by simp [results, Try.results33, go_sem]) rfl ⟨rfl, HQ.out _ R.out⟩
theorem put_end (hb : w.heap[g]? = some (.cells c t (0, 0))) (hc : c[o + 1]? = some sl) (h : Lines w sl L) (hF : Full L) (hg : ¬ g ∈ fpL sl L) {w2 w5 : World} {q b cap : Nat} {x : Int} {G : List Nat} {ob : Obj} (t2 : Touch [] w w2) (u : Uq w2 q G [x]) (hG : ∀ k, k ∈ G → w.heap.size ≤ k)
    (ow : w5.ownsRow 0 71 1 (.slice (some ⟨b, 0, none⟩) (L.length + 1) cap) (L.length + 1) (pts (L.map ptr) ++ [PT q])) (gr : (w2.alloc ob).grownBy w5 sl.ownBlock) (hbk : sl.ownBlock = some b ∨ b = (w2.alloc ob).heap.size) :
    AtE w (w5.setCell ⟨g, o + 1, none⟩ (.slice (some ⟨b, 0, none⟩) (L.length + 1) cap)) g o c t sl L (wl L ++ [x]) := by
  have t5 : Touch sl.ownBlock.toList w2 w5 := ((Touch.refl _ _).alloc _).grown gr (fun k hk => Or.inl (by simp [hk]))
  obtain ⟨r1, r2⟩ := h.add t2 u hG ow t5 (fun b' hb' => by
    have e : b = b' := by simpa [Value.ownBlock] using hb'
    subst e
    rcases hbk with e | e
    · exact Or.inl e
    · refine Or.inr ?_
      rw [e]; exact ((Touch.refl [] w2).alloc ob).size)
  have hgw := block_lt hb
  have hgn : ¬ g ∈ fpL (.slice (some ⟨b, 0, none⟩) (L.length + 1) cap) (L ++ [⟨q, G, [x]⟩]) := fun e => by
    rcases r2 g e with e1 | e1
    · exact hg e1
    · omega
  have t25 : Touch (fpL sl L) w w5 := (t2.mono (fun _ e => by cases e)).trans t5 (fun i hi => Or.inl (mem_fpL.2 (Or.inl (by simpa using hi))))
  refine ⟨_, _, ⟨r1.keep (G := [g]) ((Touch.refl _ _).setCell (p := ⟨g, o + 1, none⟩) (by simp) _) (fun k hk e => by simp only [List.mem_singleton] at e; subst e; exact hgn hk), bset (t25.keep hb hg) _, (t25.mono (fun k hk => List.mem_cons_of_mem _ hk)).setCell (by simp) _, r2⟩, fun l hl => ?_, by rw [wl_app]; simp [wl]⟩
  rcases List.mem_append.1 hl with e | e
  · exact hF l e
  · simp only [List.mem_singleton] at e
    subst e
    simp
set_option maxHeartbeats 4000000 in
set_option maxRecDepth 100000 in
theorem put33_none (hb : w.heap[g]? = some (.cells c t (0, 0))) (hc : c[o + 1]? = some sl) (h : Lines w sl L) (hF : Full L) (hg : ¬ g ∈ fpL sl L) (h0 : L.length = 0) (hL : L.length ≤ 4398046511104) (x : Int) (hx : W64 x) (hnx : ¬ x ∈ wl L) :
    Calls Try.prog 33 #[.pointer (some ⟨g, o, none⟩), .int .i64 x] w fun e w' => e = .returned (.tuple #[]) ∧ AtE w w' g o c t sl L (wl L ++ [x]) := by
  obtain ⟨i71, hi71, hz0, hz1, hz2⟩ := info_parts info71

  have hgw := block_lt hb
  have c1 := cell_at hb hc
  have HE : Hid (∀ w1 w2 q b cap G ob w5, Touch [] w w1 → q = w1.heap.size → Touch [q] w1 w2 → Uq w2 q G [x] → Nf w1 [q] G → w5.ownsRow 0 71 1 (.slice (some ⟨b, 0, none⟩) (L.length + 1) cap) (L.length + 1) (pts (L.map ptr) ++ [PT q]) → (w2.alloc ob).grownBy w5 sl.ownBlock → (sl.ownBlock = some b ∨ b = (w2.alloc ob).heap.size) → AtE w (w5.setCell ⟨g, o + 1, none⟩ (.slice (some ⟨b, 0, none⟩) (L.length + 1) cap)) g o c t sl L (wl L ++ [x])) :=
    fun w1 w2 q b cap G ob w5 t1 eq t2 u nf ow gr hbk => by
      have hz := t1.size
      refine put_end hb hc h hF hg (t1.trans t2 (fun i hi => Or.inr (by simp only [List.mem_singleton] at hi; omega))) u (fun k hk => ?_) ow gr hbk
      rcases nf k hk with e | e
      · simp only [List.mem_singleton] at e; omega
      · omega
  have HC : Hid (∀ w5 ob w2, Touch [] w w2 → (w2.alloc ob).grownBy w5 sl.ownBlock → w5.cell? ⟨g, o + 1, none⟩ = some sl ∧ w5.frozen? ⟨g, o + 1, none⟩ = false) := fun w5 ob w2 t2 gr => by
    have t5 : Touch sl.ownBlock.toList w2 w5 := ((Touch.refl _ _).alloc _).grown gr (fun k hk => Or.inl (by simp [hk]))
    have hb5 := t5.keep (t2.keep hb (by simp)) (fun e => hg (mem_fpL.2 (Or.inl (by simpa using e))))
    exact ⟨cell_at hb5 hc, froz_at hb5 _⟩
  have HR : Hid (∀ W, Touch [] w W → W.ownsRow 0 71 1 sl L.length (pts (L.map ptr))) := fun W T => own_touch h.row T (fun _ _ e => by cases e)
  have H2 : Hid (∀ W, Touch [] w W → W.cell? ⟨g, o + 1, none⟩ = some sl) := fun W T => cell_at (T.keep hb (by simp)) hc
  obtain ⟨sp, scap, hs⟩ := h.form
  have zb : (L.length : Int) ≤ 4398046511104 := by omega
  have z1 : (L.length : Int) - 1 = -1 := by omega
  clear h0
  clear h hF hb hg hnx hc
  subst hs
  generalize wl L ++ [x] = WL at *
  generalize pts (L.map ptr) = PV at *
  generalize hN : L.length = N at *
  clear hN
  go_enter Try.func33, Try.ntmps33
  go_wp2_with (first
    | (go_at_call 40; refine (newTurns8 _).mono ?_; rintro e w1 ⟨rfl, u1, t1⟩; have U1 := hid (And.intro u1 t1); clear u1 t1; unfold PT)
    | (go_at_call 39; refine (uput_ok w1 _ _ [] x hx U1.out.1 (by simp) (by simp)).mono ?_; rintro e w2 ⟨rfl, r⟩; obtain ⟨G, u2, t2, n2⟩ := r; have U2 := hid (And.intro u2 (And.intro t2 n2)); have T2 : Hid (Touch [] w w2) := U1.out.2.trans t2 (fun i hi => Or.inr (by simp only [List.mem_singleton] at hi; omega)); have c2 := H2.out w2 (T2.out); clear u2 t2 n2)
    | (at_builtin; refine wpList_append_lies _ rfl _ _ 50 rfl 0 71 i71 (.pointer none) 1 8 Try.underlying50 hi71 hz0 hz1 hz2 rfl (by decide) (.slice sp N scap) N PV rfl (HR.out _ ((T2.out).alloc _)) ⟨w2.heap.size, 0, none⟩ 1 1 [.pointer (some ⟨w.heap.size, 0, none⟩)] rfl rfl (cell_one_new _ _ _) (by simp [Value.oneCell']) (by decide) (by unfold maxLen; omega) (by omega) (Nat.zero_le _) _ rfl ?_; intro b cap w5 ow gr hbk hlt5; have X5 := hid (And.intro ow (And.intro gr hbk)); obtain ⟨c5, f5⟩ := HC.out w5 _ w2 (T2.out) gr; clear ow gr hbk hlt5)
    | fail)
  go_end0
  exact ⟨rfl, HE.out w w2 w.heap.size b cap G _ w5 (Touch.refl _ _) rfl (U1.out.2.mono (fun _ e => by cases e) |>.trans' U2.out.2.1) U2.out.1 (fun k hk => (U2.out.2.2 k hk).elim Or.inl (fun e => Or.inr (Nat.le_trans U1.out.2.size e))) X5.out.1 X5.out.2.1 X5.out.2.2⟩
set_option maxHeartbeats 4000000 in
set_option maxRecDepth 100000 in
theorem put33_full (hb : w.heap[g]? = some (.cells c t (0, 0))) (hc : c[o + 1]? = some sl) (h : Lines w sl L) (hF : Full L) (hg : ¬ g ∈ fpL sl L) {i : Nat} (hi : i + 1 = L.length) (hfull : 65536 ≤ (L[i]'(by omega)).xs.length) (hL : L.length ≤ 4398046511104) (x : Int) (hx : W64 x) (hnx : ¬ x ∈ wl L) :
    Calls Try.prog 33 #[.pointer (some ⟨g, o, none⟩), .int .i64 x] w fun e w' => e = .returned (.tuple #[]) ∧ AtE w w' g o c t sl L (wl L ++ [x]) := by
  obtain ⟨i71, hi71, hz0, hz1, hz2⟩ := info_parts info71
  have hil : i < L.length := by omega
  obtain ⟨p, cap0, hs0⟩ := h.form
  obtain ⟨b0, hp0, hcell⟩ := h.cell hs0 hil
  unfold ptr at hcell
  have hxi : ¬ x ∈ L[i].xs := fun e => hnx (by simp only [wl, List.mem_flatMap]; exact ⟨_, List.getElem_mem hil, e⟩)
  have HP := hid (uput_many w L[i].q L[i].F L[i].xs x hx (h.all _ (List.getElem_mem hil)) hxi hfull)
  unfold PT at HP
  generalize L[i].q = q0 at *
  clear hxi hfull
  have z1 : (L.length : Int) - 1 = (i : Int) := by omega
  have z2 : (i : Int) < (L.length : Int) := by omega
  have hgw := block_lt hb
  have c1 := cell_at hb hc
  have HE : Hid (∀ w1 w2 q b cap G ob w5, Touch [] w w1 → q = w1.heap.size → Touch [q] w1 w2 → Uq w2 q G [x] → Nf w1 [q] G → w5.ownsRow 0 71 1 (.slice (some ⟨b, 0, none⟩) (L.length + 1) cap) (L.length + 1) (pts (L.map ptr) ++ [PT q]) → (w2.alloc ob).grownBy w5 sl.ownBlock → (sl.ownBlock = some b ∨ b = (w2.alloc ob).heap.size) → AtE w (w5.setCell ⟨g, o + 1, none⟩ (.slice (some ⟨b, 0, none⟩) (L.length + 1) cap)) g o c t sl L (wl L ++ [x])) :=
    fun w1 w2 q b cap G ob w5 t1 eq t2 u nf ow gr hbk => by
      have hz := t1.size
      refine put_end hb hc h hF hg (t1.trans t2 (fun i hi => Or.inr (by simp only [List.mem_singleton] at hi; omega))) u (fun k hk => ?_) ow gr hbk
      rcases nf k hk with e | e
      · simp only [List.mem_singleton] at e; omega
      · omega
  have HC : Hid (∀ w5 ob w2, Touch [] w w2 → (w2.alloc ob).grownBy w5 sl.ownBlock → w5.cell? ⟨g, o + 1, none⟩ = some sl ∧ w5.frozen? ⟨g, o + 1, none⟩ = false) := fun w5 ob w2 t2 gr => by
    have t5 : Touch sl.ownBlock.toList w2 w5 := ((Touch.refl _ _).alloc _).grown gr (fun k hk => Or.inl (by simp [hk]))
    have hb5 := t5.keep (t2.keep hb (by simp)) (fun e => hg (mem_fpL.2 (Or.inl (by simpa using e))))
    exact ⟨cell_at hb5 hc, froz_at hb5 _⟩
  have HR : Hid (∀ W, Touch [] w W → W.ownsRow 0 71 1 sl L.length (pts (L.map ptr))) := fun W T => own_touch h.row T (fun _ _ e => by cases e)
  have H2 : Hid (∀ W, Touch [] w W → W.cell? ⟨g, o + 1, none⟩ = some sl) := fun W T => cell_at (T.keep hb (by simp)) hc
  obtain ⟨sp, scap, hs⟩ := h.form
  have zb : (L.length : Int) ≤ 4398046511104 := by omega
  rw [hs] at hs0
  simp only [Value.slice.injEq, true_and] at hs0
  obtain ⟨rfl, rfl⟩ := hs0
  subst hp0
  clear hi hil
  clear h hF hb hg hnx hc
  subst hs
  generalize wl L ++ [x] = WL at *
  generalize pts (L.map ptr) = PV at *
  generalize hN : L.length = N at *
  clear hN
  go_enter Try.func33, Try.ntmps33
  go_wp2_with (first
    | (go_at_call_of 39 (#[.pointer (some ⟨q0, 0, none⟩), .int .i64 x] : Array Value); refine HP.out.mono ?_; rintro e w0 ⟨rfl, t0⟩; have T0 := hid t0; clear t0)
    | (go_at_call 40; refine (newTurns8 _).mono ?_; rintro e w1 ⟨rfl, u1, t1⟩; have U1 := hid (And.intro u1 t1); clear u1 t1; unfold PT)
    | (go_at_call 39; refine (uput_ok w1 _ _ [] x hx U1.out.1 (by simp) (by simp)).mono ?_; rintro e w2 ⟨rfl, r⟩; obtain ⟨G, u2, t2, n2⟩ := r; have U2 := hid (And.intro u2 (And.intro t2 n2)); have T2 : Hid (Touch [] w0 w2) := U1.out.2.trans t2 (fun i hi => Or.inr (by simp only [List.mem_singleton] at hi; omega)); have c2 := H2.out w2 (T0.out.trans' T2.out); clear u2 t2 n2)
    | (at_builtin; refine wpList_append_lies _ rfl _ _ 50 rfl 0 71 i71 (.pointer none) 1 8 Try.underlying50 hi71 hz0 hz1 hz2 rfl (by decide) (.slice (some ⟨b0, 0, none⟩) N scap) N PV rfl (HR.out _ ((T0.out.trans' T2.out).alloc _)) ⟨w2.heap.size, 0, none⟩ 1 1 [.pointer (some ⟨w0.heap.size, 0, none⟩)] rfl rfl (cell_one_new _ _ _) (by simp [Value.oneCell']) (by decide) (by unfold maxLen; omega) (by omega) (Nat.zero_le _) _ rfl ?_; intro b cap w5 ow gr hbk hlt5; have X5 := hid (And.intro ow (And.intro gr hbk)); obtain ⟨c5, f5⟩ := HC.out w5 _ w2 (T0.out.trans' T2.out) gr; clear ow gr hbk hlt5)
    | fail)
  go_end0
  exact ⟨rfl, HE.out w0 w2 w0.heap.size b cap G _ w5 (T0.out) rfl (U1.out.2.mono (fun _ e => by cases e) |>.trans' U2.out.2.1) U2.out.1 (fun k hk => (U2.out.2.2 k hk).elim Or.inl (fun e => Or.inr (Nat.le_trans U1.out.2.size e))) X5.out.1 X5.out.2.1 X5.out.2.2⟩
/-- put, whatever stands there. -/
theorem put33 (hb : w.heap[g]? = some (.cells c t (0, 0))) (hc : c[o + 1]? = some sl) (h : Lines w sl L) (hF : Full L) (hg : ¬ g ∈ fpL sl L) (hL : L.length ≤ 4398046511104) (x : Int) (hx : W64 x) (hnx : ¬ x ∈ wl L) :
    Calls Try.prog 33 #[.pointer (some ⟨g, o, none⟩), .int .i64 x] w fun e w' => e = .returned (.tuple #[]) ∧ AtE w w' g o c t sl L (wl L ++ [x]) := by
  by_cases h0 : L.length = 0
  · exact put33_none hb hc h hF hg h0 hL x hx hnx
  · obtain ⟨i, hi⟩ : ∃ i, i + 1 = L.length := ⟨L.length - 1, by omega⟩
    by_cases hf : (L[i]'(by omega)).xs.length < 65536
    · exact put33_fits hb hc h hF hg hi hL x hx hnx hf
    · exact put33_full hb hc h hF hg hi (by omega) hL x hx hnx
/-- tidy at a queue that somebody waits in. -/
theorem tidy35_keep (hb : w.heap[g]? = some (.cells c t (0, 0))) (hc : c[o + 1]? = some sl) (h : Lines w sl L) {i : Nat} (hi : i < L.length) (hL : L.length ≤ 4398046511104) (hne : L[i].xs ≠ []) :
    Calls Try.prog 35 #[.pointer (some ⟨g, o, none⟩), .int .i64 i] w fun e w' => e = .returned (.tuple #[]) ∧ w' = w := by
  obtain ⟨p, cap, hs⟩ := h.form
  obtain ⟨b, hp, hcell⟩ := h.cell hs hi
  have c1 := cell_at hb hc
  rw [hs, hp] at c1
  unfold ptr at hcell
  have HP := ulen w L[i].q L[i].F L[i].xs (h.all _ (List.getElem_mem hi))
  have z2 : (i : Int) < (L.length : Int) := by omega
  have zb : (L.length : Int) ≤ 4398046511104 := by omega
  have z3 : ((L[i].xs.length : Int) == 0) = false := by
    have : 0 < L[i].xs.length := List.length_pos_iff.2 hne
    simp; omega
  unfold PT at HP
  generalize L[i].q = q at *
  generalize (L[i].xs.length : Int) = n at *
  clear h hb hc hi hL hne hs hp
  generalize hN : L.length = N at *
  clear hN
  go_enter Try.func35, Try.ntmps35
  go_wp2_with (go_at_call 36; refine HP.mono ?_; rintro e w2 ⟨rfl, rfl⟩)
  go_end0
  exact ⟨rfl, rfl⟩
set_option maxHeartbeats 4000000 in
set_option maxRecDepth 100000 in
/-- tidy at a queue that all have left. -/
theorem tidy35_less (hb : w.heap[g]? = some (.cells c t (0, 0))) (hc : c[o + 1]? = some sl) (h : Lines w sl L) (hg : ¬ g ∈ fpL sl L) {i : Nat} (hi : i < L.length) (hL : L.length ≤ 4398046511104) (hne : L[i].xs = []) :
    Calls Try.prog 35 #[.pointer (some ⟨g, o, none⟩), .int .i64 i] w fun e w' => e = .returned (.tuple #[]) ∧ ∃ sl', At w w' g o c t sl sl' L (L.eraseIdx i) := by
  obtain ⟨p, cap, hs⟩ := h.form
  obtain ⟨b, hp, hcell⟩ := h.cell hs hi
  have c1 := cell_at hb hc
  rw [hs, hp] at c1
  unfold ptr at hcell
  have HP := ulen w L[i].q L[i].F L[i].xs (h.all _ (List.getElem_mem hi))
  rw [hne] at HP
  simp only [List.length_nil] at HP
  have hrow := h.row
  rw [hs, hp, show L.length = (L.map ptr).length by simp] at hrow
  have HD := hid (del42 w 0 b cap (L.map ptr) i (by simpa using hi) hrow)
  simp only [List.length_map] at HD
  have HE : Hid (∀ w2, w2.ownsRow 0 71 1 (.slice (some ⟨b, 0, none⟩) (L.length - 1) cap) (L.length - 1) (pts ((L.map ptr).eraseIdx i)) → Touch [b] w w2 → (w2.cell? ⟨g, o + 1, none⟩ = some sl ∧ w2.frozen? ⟨g, o + 1, none⟩ = false) ∧ ∃ sl', At w (w2.setCell ⟨g, o + 1, none⟩ (.slice (some ⟨b, 0, none⟩) (L.length - 1) cap)) g o c t sl sl' L (L.eraseIdx i)) := fun w2 ow t2 => by
    have hbk : sl.ownBlock = some b := by rw [hs, hp]; rfl
    have hgb : ¬ g ∈ [b] := fun e => by simp only [List.mem_singleton] at e; subst e; exact hg (mem_fpL.2 (Or.inl hbk))
    have hb2 := t2.keep hb hgb
    refine ⟨⟨cell_at hb2 hc, froz_at hb2 _⟩, .slice (some ⟨b, 0, none⟩) (L.length - 1) cap, ?_⟩
    obtain ⟨r1, r2⟩ := h.less hi ow (t2.mono (fun k hk => by rw [hbk]; simpa using hk)) (by rw [hbk]; rfl)
    refine ⟨r1.keep (G := [g]) ((Touch.refl _ _).setCell (p := ⟨g, o + 1, none⟩) (by simp) _) (fun k hk e => by simp only [List.mem_singleton] at e; subst e; exact hg (r2 k hk)), bset hb2 _, (t2.mono (fun k hk => ?_)).setCell (by simp) _, fun k hk => Or.inl (r2 k hk)⟩
    simp only [List.mem_singleton] at hk
    subst hk
    exact List.mem_cons_of_mem _ (mem_fpL.2 (Or.inl hbk))
  have z2 : (i : Int) < (L.length : Int) := by omega
  have zb : (L.length : Int) ≤ 4398046511104 := by omega
  unfold PT at HP
  generalize L[i].q = q at *
  clear h hb hc hi hL hne hs hp hrow
  generalize hN : L.length = N at *
  clear hN
  go_enter Try.func35, Try.ntmps35
  go_wp2_with (first | (go_at_call 36; refine HP.mono ?_; rintro e w2 ⟨rfl, rfl⟩) | (go_at_call 42; refine HD.out.mono ?_; rintro e w3 ⟨rfl, ow, t3⟩; obtain ⟨⟨c3, f3⟩, R⟩ := HE.out w3 ow t3; have RR := hid R; clear ow t3 R) | fail)
  go_end0
  exact ⟨rfl, RR.out⟩
end
end Go.Proofs.Ytmbjjkdocmcpdaa
