/- Two clocks beside one another; what rings in parts rings at once. -/
import Derived.Test.YtaioegefoiabhaaAwk
namespace Go.Proofs.Ytaioegefoiabhaa
open Go.RowKit Go.Maps Go.ChangeMaps
set_option linter.unusedVariables false
theorem Touch.cell {w w' : World} (h : Touch [] w w') {a : Addr} {v : Value} (hc : w.cell? a = some v) : w'.cell? a = some v := by
  have hb : a.block < w.heap.size := by
    rcases Nat.lt_or_ge a.block w.heap.size with h | h
    · exact h
    · simp [World.cell?, Array.getElem?_eq_none h] at hc
  rw [World.cell?_of_block (h.block a.block hb (by simp))]
  exact hc
theorem Ck.apart {w : World} {c : Nat} {F : List Nat} {s : Cs} (h : Ck w c F s) {B : Nat} {v : Value} {l : List Tm} (hr : RR 45 w B v l) : ∀ b, v.ownBlock = some b → ¬ b ∈ F := by
  obtain ⟨q, G, p, S, rfl, k⟩ := h
  intro b hb hF
  rcases List.mem_cons.1 hF with rfl | hF
  · exact own_ne hr k.cc (by decide) b hb rfl
  · exact k.tq.apart hr (by decide) (by decide) b hb hF
/-- Two clocks that share nothing, both made since w. -/
def P2 (w wr : World) (c o : Nat) (s s' : Cs) : Prop := ∃ F G, Ck wr c F s ∧ Ck wr o G s' ∧ (∀ k, k ∈ F → ¬ k ∈ G) ∧ (∀ k, k ∈ F → w.heap.size ≤ k) ∧ (∀ k, k ∈ G → w.heap.size ≤ k) ∧ Touch [] w wr
/-- Rows of rings stay. -/
def Kp (w w' : World) : Prop := w.heap.size ≤ w'.heap.size ∧ ∀ B v l, RR 45 w B v l → RR 45 w' B v l
theorem P2.quiet {w wr w' : World} {c o : Nat} {s s' : Cs} (h : P2 w wr c o s s') (t : Touch [] wr w') : P2 w w' c o s s' := by
  obtain ⟨F, G, h1, h2, h3, h4, h5, h6⟩ := h
  exact ⟨F, G, h1.keep0 t, h2.keep0 t, h3, h4, h5, h6.trans' t⟩
theorem P2.swap {w wr : World} {c o : Nat} {s s' : Cs} (h : P2 w wr c o s s') : P2 w wr o c s' s := by
  obtain ⟨F, G, h1, h2, h3, h4, h5, h6⟩ := h
  exact ⟨G, F, h2, h1, fun k hk e => h3 k e hk, h5, h4, h6⟩
theorem P2.to {w wr : World} {c o : Nat} {s s' : Cs} (h : P2 w wr c o s s') : Touch [] w wr := by
  obtain ⟨F, G, h1, h2, h3, h4, h5, h6⟩ := h
  exact h6
theorem P2.step {w wr w' : World} {c o : Nat} {F G : List Nat} {s s' s1 : Cs} (h1 : Ck wr c F s) (h2 : Ck wr o G s') (h3 : ∀ k, k ∈ F → ¬ k ∈ G) (h4 : ∀ k, k ∈ F → w.heap.size ≤ k) (h5 : ∀ k, k ∈ G → w.heap.size ≤ k) (h6 : Touch [] w wr) (hn : Nx wr w' c F s1) : P2 w w' c o s1 s' ∧ Kp wr w' := by
  obtain ⟨F', n1, n2, n3⟩ := hn
  refine ⟨⟨F', G, n1, h2.keep n2 (fun k hk e => h3 k e hk), fun k hk e => ?_, fun k hk => ?_, h5, h6.trans n2 (fun i hi => Or.inr (h4 i hi))⟩, n2.size, fun B v l hr => hr.keep n2 (fun b hb => h1.apart hr b hb)⟩
  · rcases n3 k hk with e' | e'
    · exact h3 k e' e
    · have := h2.lt k e; omega
  · rcases n3 k hk with e' | e'
    · exact h4 k e'
    · exact Nat.le_trans h6.size e'
theorem P2.row {w wr w' : World} {c o B : Nat} {s s' : Cs} {v : Value} {l : List Tm} (h : P2 w wr c o s s') (hr : RR 45 wr B v l) (hB : w.heap.size ≤ B) (t : Touch v.ownBlock.toList wr w') : P2 w w' c o s s' := by
  obtain ⟨F, G, h1, h2, h3, h4, h5, h6⟩ := h
  exact ⟨F, G, h1.keep t (fun k hk e => h1.apart hr k (by simpa using e) hk), h2.keep t (fun k hk e => h2.apart hr k (by simpa using e) hk), h3, h4, h5, h6.trans t (fun i hi => Or.inr (Nat.le_trans hB (hr.lt i (by simpa using hi)).1))⟩
theorem P2.make {w w1 w2 : World} {c o : Nat} {F G : List Nat} (h1 : Ck w1 c F ⟨0, 0, []⟩) (t1 : Touch [] w w1) (n1 : ∀ k, k ∈ F → w.heap.size ≤ k) (h2 : Ck w2 o G ⟨0, 0, []⟩) (t2 : Touch [] w1 w2) (n2 : ∀ k, k ∈ G → w1.heap.size ≤ k) : P2 w w2 c o ⟨0, 0, []⟩ ⟨0, 0, []⟩ :=
  ⟨F, G, h1.keep0 t2, h2, fun k hk e => by have := h1.lt k hk; have := n2 k e; omega, n1, fun k hk => Nat.le_trans t1.size (n2 k hk), t1.trans' t2⟩
section
variable {w : World} {c o : Nat} {s s' : Cs} (w1 : World)
theorem P2.arm (h : P2 w w1 c o s s') (t : Int) (hl : s.last < 4611686018427387904) : Calls Try.prog 10 #[.pointer (some ⟨c, 0, none⟩), .int .i64 t] w1 fun e w' => e = .returned (.tuple #[.int .i64 (armN s t), .int .i64 (armE s t)]) ∧ P2 w w' c o (armS s t) s' ∧ Kp w1 w' := by
  obtain ⟨F, G, h1, h2, h3, h4, h5, h6⟩ := h
  refine (arm10 w1 c F s t h1 hl).mono ?_
  rintro e w' ⟨he, hn⟩
  exact ⟨he, P2.step h1 h2 h3 h4 h5 h6 hn⟩
def AdP (e : Ending) (w w1 w' : World) (c o : Nat) (s s' : Cs) (R : List Tm) (x : Value) : Prop := ∃ a n m, e = .returned (.tuple #[.slice a n m, x]) ∧ RR 45 w' w1.heap.size (.slice a n m) R ∧ P2 w w' c o s s' ∧ Kp w1 w'
theorem P2.adv (h : P2 w w1 c o s s') (d : Int) (hd : W64 d) : Calls Try.prog 11 #[.pointer (some ⟨c, 0, none⟩), .int .i64 d] w1 fun e w' => AdP e w w1 w' c o (advS s d) s' (advR s d) (.int .i64 (advE s d)) := by
  obtain ⟨F, G, h1, h2, h3, h4, h5, h6⟩ := h
  refine (advance11 w1 c F s d h1 hd).mono ?_
  rintro e w' ⟨a, n, m, he, hr, hn⟩
  obtain ⟨r1, r2⟩ := P2.step h1 h2 h3 h4 h5 h6 hn
  exact ⟨a, n, m, he, hr, r1, r2⟩
theorem P2.now (h : P2 w w1 c o s s') : Calls Try.prog 14 #[.pointer (some ⟨c, 0, none⟩)] w1 fun e w' => e = .returned (.int .i64 s.now) ∧ w' = w1 := by
  obtain ⟨F, G, h1, h2, h3, h4, h5, h6⟩ := h
  exact now14 w1 c F s h1
end
theorem parts {s : Cs} {a b : Int} (ok : Ok s) (h0 : s.now = 0) (ha : 0 ≤ a) (ha1 : a ≤ 1152921504606846976) (hb : 0 ≤ b) (hb1 : b ≤ 1152921504606846976) :
    advE s a = 0 ∧ advE (advS s a) b = 0 ∧ advE s (a + b) = 0 ∧ advR s a ++ advR (advS s a) b = advR s (a + b) ∧ (advS (advS s a) b).now = a + b ∧ (advS s (a + b)).now = a + b ∧ advR s (a + b) = s.T.take (dueT s.T (a + b)) := by
  have e1 : advE s a = 0 := by unfold advE; rw [if_neg (by omega), if_neg (by omega)]
  have e2 : advS s a = goS s a := by unfold advS; rw [if_pos e1, h0, Int.zero_add]
  have e3 : advE (goS s a) b = 0 := by
    have : (goS s a).now = a := rfl
    unfold advE
    rw [if_neg (by omega), if_neg (by omega)]
  have e4 : advE s (a + b) = 0 := by unfold advE; rw [if_neg (by omega), if_neg (by omega)]
  have e5 : advS s (a + b) = goS s (a + b) := by unfold advS; rw [if_pos e4, h0, Int.zero_add]
  have e6 : advS (goS s a) b = goS (goS s a) (a + b) := by
    unfold advS
    rw [if_pos e3]
    rfl
  have e7 : advR s a = s.T.take (dueT s.T a) := by
    unfold advR
    rw [if_pos e1, h0, Int.zero_add]
    rfl
  have e8 : advR s (a + b) = s.T.take (dueT s.T (a + b)) := by
    unfold advR
    rw [if_pos e4, h0, Int.zero_add]
    rfl
  have e9 : advR (goS s a) b = (s.T.drop (dueT s.T a)).take (dueT (s.T.drop (dueT s.T a)) (a + b)) := by
    unfold advR
    rw [if_pos e3]
    rfl
  have e10 : dueT s.T (a + b) = dueT s.T a + dueT (s.T.drop (dueT s.T a)) (a + b) := by
    have l1 := dueT_le s.T a
    have l2 := dueT_le (s.T.drop (dueT s.T a)) (a + b)
    rw [List.length_drop] at l2
    refine dueT_of (by omega) (fun j hj => ?_) ?_
    · by_cases hj1 : j < dueT s.T a
      · have := dueT_all hj1
        omega
      · have := dueT_all (l := s.T.drop (dueT s.T a)) (now := a + b) (j := j - dueT s.T a) (by omega)
        rw [gtT_drop, show dueT s.T a + (j - dueT s.T a) = j by omega] at this
        exact this
    · by_cases hd : dueT (s.T.drop (dueT s.T a)) (a + b) < (s.T.drop (dueT s.T a)).length
      · right
        have := dueT_stop hd
        rw [gtT_drop] at this
        exact this
      · left
        rw [List.length_drop] at hd
        omega
  refine ⟨e1, by rw [e2]; exact e3, e4, ?_, by rw [e2, e6]; rfl, by rw [e5]; rfl, e8⟩
  rw [e2, e7, e9, e8, e10, List.take_add]
theorem tail_ord {l : List Tm} (h : l.Pairwise (fun x y => x.at_ < y.at_ ∨ x.at_ = y.at_ ∧ x.it < y.it)) {k n : Nat} (hn : n + 1 < (l.take k).length) : (gtT (l.take k) n).at_ < (gtT (l.take k) (n + 1)).at_ ∨ (gtT (l.take k) n).at_ = (gtT (l.take k) (n + 1)).at_ ∧ (gtT (l.take k) n).it < (gtT (l.take k) (n + 1)).it := by
  have := List.pairwise_iff_getElem.1 (h.sublist (List.take_sublist k l)) n (n + 1) (by omega) hn (by omega)
  rw [gtT_eq hn, gtT_eq (by omega)]
  exact this
end Go.Proofs.Ytaioegefoiabhaa
