/- How the law ClockPlays stands: a clock, another one that stays, the document's clock in its box. -/
import Derived.Test.YtaioegefoiabhaaOne
import Derived.Test.YtaioegefoiabhaaSac
import Derived.Test.YtaioegefoiabhaaCln
namespace Go.Proofs.Ytaioegefoiabhaa
open Go.RowKit Go.Maps Go.ChangeMaps
set_option linter.unusedVariables false
theorem Ck.notin {w : World} {c : Nat} {F : List Nat} {s : Cs} (h : Ck w c F s) {b e : Nat} {cs : Array Value} {z : Nat × Nat} (hb : w.heap[b]? = some (.cells cs e z)) (e1 : e ≠ 58) (e2 : e ≠ 83) (e3 : e ≠ 86) : ¬ b ∈ F := by
  obtain ⟨q, G, p, S, rfl, k⟩ := h
  intro hF
  rcases List.mem_cons.1 hF with rfl | hF
  · have := k.cc
    unfold CC at this
    rw [hb] at this
    simp at this
    exact e1 this.2.1
  · exact k.tq.notin hb e2 e3 hF
/-- A clock c that stands as s, as the document's in box bm does; another clock o that nobody touched. -/
structure Pm (w wr : World) (c o bm : Nat) (F G : List Nat) (s : Cs) (v : Value) : Prop where
  kc : Ck wr c F s
  ko : Ck wr o G ⟨0, 0, []⟩
  dj : ∀ k, k ∈ F → ¬ k ∈ G
  nf : ∀ k, k ∈ F → w.heap.size ≤ k
  ng : ∀ k, k ∈ G → w.heap.size ≤ k
  kb : BM wr bm s.now v s.last
  rr : RR 93 wr w.heap.size v s.T
  nb : w.heap.size ≤ bm
  tc : Touch [] w wr
def Pl (w wr : World) (c o bm : Nat) (s : Cs) (v : Value) : Prop := ∃ F G, Pm w wr c o bm F G s v
theorem Pl.to {w wr : World} {c o bm : Nat} {s : Cs} {v : Value} (h : Pl w wr c o bm s v) : Touch [] w wr := by
  obtain ⟨F, G, k⟩ := h
  exact k.tc
theorem Pl.bm {w wr : World} {c o bm : Nat} {s : Cs} {v : Value} (h : Pl w wr c o bm s v) : BM wr bm s.now v s.last := by
  obtain ⟨F, G, k⟩ := h
  exact k.kb
theorem Pl.quiet {w wr w' : World} {c o bm : Nat} {s : Cs} {v : Value} (h : Pl w wr c o bm s v) (t : Touch [] wr w') : Pl w w' c o bm s v := by
  obtain ⟨F, G, k⟩ := h
  exact ⟨F, G, k.kc.keep0 t, k.ko.keep0 t, k.dj, k.nf, k.ng, k.kb.keep0 t, k.rr.keep0 t, k.nb, k.tc.trans' t⟩
theorem Pl.make {w wr : World} {c o : Nat} (h : P2 w wr c o ⟨0, 0, []⟩ ⟨0, 0, []⟩) : Pl w (wr.alloc (.cells #[.int .i64 0, .slice none 0 0, .int .i64 0] 28)) c o wr.heap.size ⟨0, 0, []⟩ (.slice none 0 0) := by
  obtain ⟨F, G, h1, h2, h3, h4, h5, h6⟩ := h
  have t : Touch [] wr (wr.alloc (.cells #[.int .i64 0, .slice none 0 0, .int .i64 0] 28)) := (Touch.refl _ _).alloc _
  exact ⟨F, G, h1.keep0 t, h2.keep0 t, h3, h4, h5, BM.new wr 0 (.slice none 0 0) 0, RR.nil _ _ _, h6.size, h6.trans' t⟩
/-- What the step leaves, ahead of the store into the box. -/
def PoE (e : Ending) (w w' : World) (c o bm : Nat) (s : Cs) (v : Value) : Prop := ∃ s1 a k m, e = .returned (.tuple #[.agg #[.int .i64 s1.now, .slice a k m, .int .i64 s1.last], .bool true]) ∧ BM w' bm s.now v s.last ∧ Touch [] w w' ∧ s1.last ≤ s.last + 1 ∧ Pl w (((w'.setCell ⟨bm, 0, none⟩ (.int .i64 s1.now)).setCell ⟨bm, 1, none⟩ (.slice a k m)).setCell ⟨bm, 2, none⟩ (.int .i64 s1.last)) c o bm s1 (.slice a k m)
theorem Pl.end1 {w w1 w' : World} {c o bm : Nat} {F G : List Nat} {s s1 : Cs} {v : Value} {e : Ending} (h : Pm w w1 c o bm F G s v) (hl : s1.last ≤ s.last + 1) (hE : OnE e w1 w' w.heap.size c F s1) : PoE e w w' c o bm s v := by
  obtain ⟨a, k, m, he, hr, F', n1, n2, n3⟩ := hE
  have hb := h.kb.keep n2 (h.kc.notin h.kb (by decide) (by decide) (by decide))
  have ho := h.ko.keep n2 (fun j hj e => h.dj j e hj)
  have T : Touch [bm] w' (((w'.setCell ⟨bm, 0, none⟩ (.int .i64 s1.now)).setCell ⟨bm, 1, none⟩ (.slice a k m)).setCell ⟨bm, 2, none⟩ (.int .i64 s1.last)) := (((Touch.refl _ _).setCell (p := ⟨bm, 0, none⟩) (Or.inl (by simp)) _).setCell (p := ⟨bm, 1, none⟩) (Or.inl (by simp)) _).setCell (p := ⟨bm, 2, none⟩) (Or.inl (by simp)) _
  have c0 : BM (w'.setCell ⟨bm, 0, none⟩ (.int .i64 s1.now)) bm s1.now v s.last := Joins.block_setCell hb _
  have c1 : BM ((w'.setCell ⟨bm, 0, none⟩ (.int .i64 s1.now)).setCell ⟨bm, 1, none⟩ (.slice a k m)) bm s1.now (.slice a k m) s.last := Joins.block_setCell c0 _
  have tw : Touch [] w w' := h.tc.trans n2 (fun j hj => Or.inr (h.nf j hj))
  refine ⟨s1, a, k, m, he, hb, tw, hl, F', G, n1.keep T (fun j hj e => ?_), ho.keep T (fun j hj e => ?_), fun j hj e => ?_, fun j hj => ?_, h.ng, Joins.block_setCell c1 _, hr.keep T (fun b hb' e => ?_), h.nb, tw.trans T (fun j hj => Or.inr (by simp at hj; have := h.nb; omega))⟩
  · simp at e
    subst e
    exact n1.notin hb (by decide) (by decide) (by decide) hj
  · simp at e
    subst e
    exact ho.notin hb (by decide) (by decide) (by decide) hj
  · rcases n3 j hj with e' | e'
    · exact h.dj j e' e
    · have := h.ko.lt j e; omega
  · rcases n3 j hj with e' | e'
    · exact h.nf j e'
    · exact Nat.le_trans h.tc.size e'
  · simp at e
    subst e
    exact own_ne hr hb (by decide) _ hb' rfl
theorem stopS_last (s : Cs) (k : Int) : (stopS s k).last = s.last := rfl
theorem advS_last (s : Cs) (d : Int) : (advS s d).last = s.last := by unfold advS; split <;> rfl
theorem leapS_last (s : Cs) : (leapS s).last = s.last := by unfold leapS; split <;> rfl
theorem inS_last (s : Cs) (d : Int) : (inS s d).last ≤ s.last + 1 := by
  unfold inS
  split
  · omega
  · exact (armS_last _).2
section
variable {w w1 : World} {c o bm : Nat} {s : Cs} {v : Value}
theorem Pl.one (h : Pl w w1 c o bm s v) (hl : s.last < 4611686018427387904) (k i t : Int) (hi : W64 i) (ht : W64 t) :
    Calls Try.prog 12 #[.pointer (some ⟨c, 0, none⟩), .agg #[.int .i64 s.now, v, .int .i64 s.last], .agg #[.int .i64 k, .int .i64 i, .int .i64 t]] w1 fun e w' => PoE e w w' c o bm s v := by
  obtain ⟨F, G, p⟩ := h
  have hB : w.heap.size ≤ w1.heap.size := p.tc.size
  by_cases h0 : k = 0
  · subst h0
    exact (one_arm w1 w.heap.size c F v s i t p.kc p.rr hB hl ht).mono (fun e w' hE => Pl.end1 p (armS_last _).2 hE)
  · by_cases h1 : k = 1
    · subst h1
      exact (one_in w1 w.heap.size c F v s i t p.kc p.rr hB hl ht).mono (fun e w' hE => Pl.end1 p (inS_last _ _) hE)
    · by_cases h2 : k = 2
      · subst h2
        exact (one_stop w1 w.heap.size c F v s i t p.kc p.rr hB hi).mono (fun e w' hE => Pl.end1 p (by rw [stopS_last]; omega) hE)
      · by_cases h3 : k = 3
        · subst h3
          exact (one_adv w1 w.heap.size c F v s i t p.kc p.rr hB ht).mono (fun e w' hE => Pl.end1 p (by rw [advS_last]; omega) hE)
        · exact (one_leap w1 w.heap.size c F v s k i t p.kc p.rr hB h0 h1 h2 h3).mono (fun e w' hE => Pl.end1 p (by rw [leapS_last]; omega) hE)
theorem Pl.says (h : Pl w w1 c o bm s v) (k : Int) (hk : W64 k) : Calls Try.prog 13 #[.pointer (some ⟨c, 0, none⟩), .agg #[.int .i64 s.now, v, .int .i64 s.last], .int .i64 k] w1 fun e w' => e = .returned (.bool true) ∧ Touch [] w1 w' := by
  obtain ⟨F, G, p⟩ := h
  cases hT : s.T with
  | nil => exact says_nil w1 w.heap.size c F v s k p.kc p.rr hk hT
  | cons x l => exact says_cons w1 w.heap.size c F v s k p.kc p.rr hk hT
theorem Pl.other (h : Pl w w1 c o bm s v) : (Calls Try.prog 14 #[.pointer (some ⟨o, 0, none⟩)] w1 fun e w' => e = .returned (.int .i64 0) ∧ w' = w1) ∧ Calls Try.prog 15 #[.pointer (some ⟨o, 0, none⟩)] w1 fun e w' => ArQ e w1 w' 0 [] := by
  obtain ⟨F, G, p⟩ := h
  exact ⟨now14 w1 o G _ p.ko, armedQ w1 o G ⟨0, 0, []⟩ 0 rfl p.ko⟩
end
/-- Behind Clone: the old clock c is let be, the new one d goes on. -/
structure P3 (w wr : World) (c d o bm : Nat) (s : Cs) (v : Value) (L : Int) (sc : Cs) (E F G : List Nat) : Prop where
  p : Pm w wr d o bm F G s v
  ke : Ck wr c E sc
  ll : sc.last ≤ L
  ef : ∀ k, k ∈ E → ¬ k ∈ F
  eg : ∀ k, k ∈ E → ¬ k ∈ G
  ne : ∀ k, k ∈ E → w.heap.size ≤ k
def P4 (w wr : World) (c d o bm : Nat) (s : Cs) (v : Value) (L : Int) : Prop := ∃ sc E F G, P3 w wr c d o bm s v L sc E F G
theorem P3.step {w wr w' : World} {c d o bm : Nat} {s : Cs} {v : Value} {L L' : Int} {sc sc' : Cs} {E F G : List Nat} (h : P3 w wr c d o bm s v L sc E F G) (hn : Nx wr w' c E sc') (hl : sc'.last ≤ L') : P4 w w' c d o bm s v L' := by
  obtain ⟨E', n1, n2, n3⟩ := hn
  refine ⟨sc', E', F, G, ⟨h.p.kc.keep n2 (fun j hj e => h.ef j e hj), h.p.ko.keep n2 (fun j hj e => h.eg j e hj), h.p.dj, h.p.nf, h.p.ng, h.p.kb.keep n2 (h.ke.notin h.p.kb (by decide) (by decide) (by decide)), h.p.rr.keep n2 (fun b hb => h.ke.apartE h.p.rr (by decide) (by decide) (by decide) b hb), h.p.nb, h.p.tc.trans n2 (fun j hj => Or.inr (h.ne j hj))⟩, n1, hl, fun j hj e => ?_, fun j hj e => ?_, fun j hj => ?_⟩
  · rcases n3 j hj with e' | e'
    · exact h.ef j e' e
    · have := h.p.kc.lt j e; omega
  · rcases n3 j hj with e' | e'
    · exact h.eg j e' e
    · have := h.p.ko.lt j e; omega
  · rcases n3 j hj with e' | e'
    · exact h.ne j e'
    · exact Nat.le_trans h.p.tc.size e'
def ClE (e : Ending) (w w' : World) (c o bm : Nat) (s : Cs) (v : Value) : Prop := ∃ d, e = .returned (.pointer (some ⟨d, 0, none⟩)) ∧ P4 w w' c d o bm s v s.last
section
variable {w w1 : World} {c o bm : Nat} {s : Cs} {v : Value}
theorem Pl.clone (h : Pl w w1 c o bm s v) : Calls Try.prog 9 #[.pointer (some ⟨c, 0, none⟩)] w1 fun e w' => ClE e w w' c o bm s v := by
  obtain ⟨F, G, p⟩ := h
  refine (clone9 w1 c F s p.kc).mono ?_
  rintro e w' ⟨d, D, he, k, t, n⟩
  exact ⟨d, he, s, F, D, G, ⟨k, p.ko.keep0 t, fun j hj e => by have := p.ko.lt j e; have := n j hj; omega, fun j hj => Nat.le_trans p.tc.size (n j hj), p.ng, p.kb.keep0 t, p.rr.keep0 t, p.nb, p.tc.trans' t⟩, p.kc.keep0 t, Int.le_refl _, fun j hj e => by have := p.kc.lt j hj; have := n j e; omega, p.dj, p.nf⟩
theorem P4.arm {d : Nat} {L : Int} (h : P4 w w1 c d o bm s v L) (hL : L < 4611686018427387904) (t : Int) : Calls Try.prog 10 #[.pointer (some ⟨c, 0, none⟩), .int .i64 t] w1 fun e w' => (∃ n m, e = .returned (.tuple #[.int .i64 n, .int .i64 m])) ∧ P4 w w' c d o bm s v (L + 1) := by
  obtain ⟨sc, E, F, G, p⟩ := h
  refine (arm10 w1 c E sc t p.ke (by have := p.ll; omega)).mono ?_
  rintro e w' ⟨he, hn⟩
  exact ⟨⟨_, _, he⟩, p.step hn (by have := (armS_last (s := sc) t).2; have := p.ll; omega)⟩
theorem P4.adv {d : Nat} {L : Int} (h : P4 w w1 c d o bm s v L) (t : Int) (ht : W64 t) : Calls Try.prog 11 #[.pointer (some ⟨c, 0, none⟩), .int .i64 t] w1 fun e w' => (∃ a n m x, e = .returned (.tuple #[.slice a n m, .int .i64 x])) ∧ Pl w w' d o bm s v := by
  obtain ⟨sc, E, F, G, p⟩ := h
  refine (advance11 w1 c E sc t p.ke ht).mono ?_
  rintro e w' ⟨a, n, m, he, _, hn⟩
  obtain ⟨sc', E', F', G', q⟩ := p.step hn (Int.le_refl _)
  exact ⟨⟨_, _, _, _, he⟩, F', G', q.p⟩
end
end Go.Proofs.Ytaioegefoiabhaa
