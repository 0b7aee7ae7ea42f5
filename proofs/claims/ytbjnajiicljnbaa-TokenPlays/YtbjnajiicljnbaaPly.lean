/- The program's tokens and the document's, played side by side. -/
import Derived.Test.YtbjnajiicljnbaaStw
namespace Go.Proofs.Ytbjnajiicljnbaa
open Go.RowKit Go.Maps Go.ChangeMaps
set_option linter.unusedVariables false
/-- The program's tokens, the document's list beside them, and the act in a block of its own. -/
structure Pl (w wr : World) (t g c b : Nat) (S : List Tk) (n : Nat) (kd nn : Int) : Prop where
  st : St w wr t S n [g, b]
  rr : RR wr w.heap.size g c S
  bx : wr.heap[b]? = some (.cells #[.int .i64 kd, .int .i64 nn] 28 (0, 0))
section
variable {w wr w' : World} {t g c b : Nat} {S S' : List Tk} {n n' : Nat} {kd nn : Int}
theorem Pl.cell (h : Pl w wr t g c b S n kd nn) : wr.cell? ⟨b, 1, none⟩ = some (.int .i64 nn) := by simp [World.cell?, h.bx]
theorem Pl.quiet (h : Pl w wr t g c b S n kd nn) (T : Touch [] wr w') : Pl w w' t g c b S n kd nn := ⟨h.st.quiet T, h.rr.keep0 T, T.keep h.bx (by simp)⟩
end
/-- The program has gone on, the document not yet. -/
structure Pm (w wr : World) (t g c b : Nat) (S S' : List Tk) (n : Nat) (kd nn : Int) : Prop where
  st : St w wr t S' n [g, b]
  rr : RR wr w.heap.size g c S
  bx : wr.heap[b]? = some (.cells #[.int .i64 kd, .int .i64 nn] 28 (0, 0))
section
variable {w wr w' : World} {t g c b : Nat} {S S' : List Tk} {n n' : Nat} {kd nn : Int}
theorem Pm.cell (h : Pm w wr t g c b S S' n kd nn) : wr.cell? ⟨b, 1, none⟩ = some (.int .i64 nn) := by simp [World.cell?, h.bx]
theorem Pl.step (h : Pl w wr t g c b S n kd nn) (hs : Sn w wr w' t S' n' [g, b]) : Pm w w' t g c b S S' n' kd nn :=
  ⟨hs.1, h.rr.block (hs.2 g (by simp)), by rw [hs.2 b (by simp)]; exact h.bx⟩
theorem Pm.quiet (h : Pm w wr t g c b S S' n kd nn) (T : Touch [] wr w') : Pm w w' t g c b S S' n kd nn := ⟨h.st.quiet T, h.rr.keep0 T, T.keep h.bx (by simp)⟩
/-- The document goes on, too: to a list of its own, or to the same. -/
theorem Pm.next {g' c' : Nat} (h : Pm w wr t g c b S S' n kd nn) (T : Touch [] wr w') (hr : RR w' w.heap.size g' c' S') (hg : g' = g ∨ wr.heap.size ≤ g') : Pl w w' t g' c' b S' n kd nn := by
  have h' := h.quiet T
  refine ⟨?_, hr, h'.bx⟩
  rcases hg with rfl | hg
  · exact h'.st
  · exact (h.st.add T hg hr.lt.2).less (fun k hk => by simp at hk ⊢; rcases hk with e | e <;> simp [e])
theorem Pm.same (h : Pm w wr t g c b S S n kd nn) : Pl w wr t g c b S n kd nn := ⟨h.st, h.rr, h.bx⟩
end
/-- Between two acts. -/
def Pq (w wr : World) (t g c : Nat) (S : List Tk) (n : Nat) : Prop := St w wr t S n [g] ∧ RR wr w.heap.size g c S
theorem Pl.over {w wr : World} {t g c b : Nat} {S : List Tk} {n : Nat} {kd nn : Int} (h : Pl w wr t g c b S n kd nn) : Pq w wr t g c S n := ⟨h.st.less (fun k hk => by simp at hk; simp [hk]), h.rr⟩
theorem Pq.box {w wr : World} {t g c : Nat} {S : List Tk} {n : Nat} (h : Pq w wr t g c S n) (kd nn : Int) : Pl w (wr.alloc (.cells #[.int .i64 kd, .int .i64 nn] 28)) t g c wr.heap.size S n kd nn := by
  have T : Touch [] wr (wr.alloc (.cells #[.int .i64 kd, .int .i64 nn] 28)) := (Touch.refl _ _).alloc _
  exact ⟨(h.1.add T (Nat.le_refl _) (by simp)).less (fun k hk => by simp at hk ⊢; rcases hk with e | e <;> simp [e]), h.2.keep0 T, heap_alloc_new _ _⟩
/-- The tokens and the list say the same. -/
theorem Pl.stands {w wr : World} {t g c b : Nat} {S : List Tk} {n : Nat} {kd nn : Int} (h : Pl w wr t g c b S n kd nn) : Calls Try.prog 16 #[PT t, .slice (some ⟨g, 0, none⟩) S.length c, .int .i64 nn] wr fun e w' => e = .returned (.bool true) ∧ Pl w w' t g c b S n kd nn := by
  obtain ⟨sl, hs⟩ := h.st
  refine (stands16 wr t sl w.heap.size g c S nn hs.tn hs.ok h.rr).mono ?_
  rintro e w' ⟨he, T⟩
  exact ⟨he, h.quiet T⟩
section
variable {w wr : World} {t g c b : Nat} {S : List Tk} {n : Nat} {kd nn : Int}
theorem caS_no (hv : vaB S nn = false) : caS S nn = S := by unfold caS; rw [hv]; rfl
theorem caL_no (hv : vaB S nn = false) : caL S nn = [] := by unfold caL; rw [hv]; rfl
theorem vaE_no (hv : vaB S nn = false) : vaE S nn = 60 := by unfold vaE; rw [hv]; rfl
theorem vaE_yes (hv : vaB S nn = true) : vaE S nn = 0 := by unfold vaE; rw [hv]; rfl
/-- Cancel of a number that is none. -/
theorem Pl.cancel_no (h : Pl w wr t g c b S n kd nn) (hv : vaB S nn = false) : Calls Try.prog 8 #[PT t, .int .i64 nn] wr fun e w' => ∃ a k, e = .returned (.tuple #[.slice a 0 k, .int .i64 60]) ∧ Pl w w' t g c b S (n + 1) kd nn := by
  refine (h.st.cancel nn).mono ?_
  rintro e w' ⟨a, k, he, r1, r2⟩
  rw [caL_no hv, vaE_no hv] at he
  rw [caS_no hv] at r2
  exact ⟨a, k, he, (h.step r2).same⟩
/-- Cancel of a token, on both sides. -/
theorem Pl.cancel (h : Pl w wr t g c b S n kd nn) (hv : vaB S nn = true) : Calls Try.prog 8 #[PT t, .int .i64 nn] wr fun e w' => ∃ a m k, e = .returned (.tuple #[.slice a m k, .int .i64 0]) ∧ w'.cell? ⟨b, 1, none⟩ = some (.int .i64 nn) ∧
    (Calls Try.prog 10 #[.slice (some ⟨g, 0, none⟩) S.length c, .int .i64 nn] w' fun e w2 => ∃ g' c' a' k', e = .returned (.tuple #[.slice (some ⟨g', 0, none⟩) S.length c', .slice a' m k']) ∧
      (Calls Try.prog 11 #[.slice a m k, .slice a' m k'] w2 fun e w3 => e = .returned (.bool true) ∧ Pl w w3 t g' c' b (caS S nn) (n + 1) kd nn)) := by
  refine (h.st.cancel nn).mono ?_
  rintro e w' ⟨a, k, he, r1, r2⟩
  rw [vaE_yes hv] at he
  have hm := h.step r2
  refine ⟨a, _, k, he, hm.cell, ?_⟩
  obtain ⟨m, rfl, m1, m2⟩ := va_yes hv
  have eL : caL S (m : Int) = gnL S m := by unfold caL; rw [hv]; rfl
  have eS : caS S (m : Int) = canS S m := by unfold caS; rw [hv]; rfl
  rw [eL] at r1 ⊢
  rw [eS] at hm ⊢
  refine (rcancel10 w' w.heap.size g c S m hm.rr h.st.ok h.st.le2 m1 m2).mono ?_
  rintro e w2 ⟨g', c', a', k', he2, q1, q2, q3⟩
  refine ⟨g', c', a', k', he2, ?_⟩
  have hlen : (gnL S m).length ≤ 65536 := by
    have h1 : (gnL S m).length ≤ S.length := by
      unfold gnL
      split
      · exact Nat.le_trans (List.length_filter_le _ _) (by simp)
      · simp
    exact Nat.le_trans h1 h.st.le2
  refine (same11 w2 wr.heap.size w'.heap.size _ _ (gnL S m) (r1.keep0 q3) q2 hlen).mono ?_
  rintro e w3 ⟨he3, q4⟩
  have hb : w.heap.size ≤ w'.heap.size := hm.st.tc.size
  refine ⟨he3, ((hm.next q3 (q1.base hb) (Or.inr q1.lt.1)).quiet q4)⟩
theorem leL_len (h : S.length ≤ 65536) : (leL S nn).length ≤ 65536 := by
  have h1 : ∀ T : List Tk, ∀ m, (gnL T m).length ≤ T.length := fun T m => by
    unfold gnL
    split
    · exact Nat.le_trans (List.length_filter_le _ _) (by simp)
    · simp
  unfold leL
  split
  · split
    · exact Nat.le_trans (h1 _ _) (by rw [lowS_len]; exact h)
    · simp
  · simp
/-- Let, on both sides. -/
theorem Pl.let_ (h : Pl w wr t g c b S n kd nn) (hn : n < 65536) : Calls Try.prog 13 #[PT t, .int .i64 nn] wr fun e w' => ∃ a m k x, e = .returned (.tuple #[.slice a m k, .int .i64 x]) ∧ w'.cell? ⟨b, 1, none⟩ = some (.int .i64 nn) ∧
    (Calls Try.prog 14 #[.slice (some ⟨g, 0, none⟩) S.length c, .int .i64 nn] w' fun e w2 => ∃ g' c' a' k', e = .returned (.tuple #[.slice (some ⟨g', 0, none⟩) S.length c', .slice a' m k', .int .i64 x]) ∧
      (Calls Try.prog 11 #[.slice a m k, .slice a' m k'] w2 fun e w3 => e = .returned (.bool true) ∧ Pl w w3 t g' c' b (leS S nn) (n + 1) kd nn)) := by
  refine (h.st.let_ hn nn).mono ?_
  rintro e w' ⟨a, k, he, r1, r2⟩
  have hm := h.step r2
  have hb : w.heap.size ≤ w'.heap.size := hm.st.tc.size
  refine ⟨a, _, k, _, he, hm.cell, (rlet14 w' w.heap.size g c S nn hm.rr h.st.ok hb h.st.le2 (fun m => by have := h.st.ho m; omega)).mono ?_⟩
  rintro e w2 ⟨g', c', a', k', he2, q1, q2, q3, q4⟩
  refine ⟨g', c', a', k', he2, (same11 w2 wr.heap.size w'.heap.size _ _ (leL S nn) (r1.keep0 q3) q2 (leL_len h.st.le2)).mono ?_⟩
  rintro e w3 ⟨he3, q5⟩
  exact ⟨he3, (hm.next q3 q1 q4).quiet q5⟩
/-- Make, on both sides. -/
theorem Pl.make (h : Pl w wr t g c b S n kd nn) (hn : n < 65536) : Calls Try.prog 17 #[PT t, .int .i64 nn] wr fun e w' => ∃ x y, e = .returned (.tuple #[.int .i64 x, .int .i64 y]) ∧ w'.cell? ⟨b, 1, none⟩ = some (.int .i64 nn) ∧
    (Calls Try.prog 18 #[.slice (some ⟨g, 0, none⟩) S.length c, .int .i64 nn] w' fun e w2 => ∃ g' c', e = .returned (.tuple #[.slice (some ⟨g', 0, none⟩) (mkS S nn).length c', .int .i64 x, .int .i64 y]) ∧ Pl w w2 t g' c' b (mkS S nn) (n + 1) kd nn) := by
  refine (h.st.make hn nn).mono ?_
  rintro e w' ⟨he, r2⟩
  have hm := h.step r2
  have hb : w.heap.size ≤ w'.heap.size := hm.st.tc.size
  have hl := h.st.le
  refine ⟨_, _, he, hm.cell, (rmake18 w' w.heap.size g c S nn hm.rr hb (by omega)).mono ?_⟩
  rintro e w2 ⟨g', c', he2, q1, q2, q3⟩
  exact ⟨g', c', he2, hm.next q2 q1 q3⟩
/-- Hold of a number that is none. -/
theorem Pl.hold_no (h : Pl w wr t g c b S n kd nn) (hn : n < 65536) (hv : vaB S nn = false) : Calls Try.prog 12 #[PT t, .int .i64 nn] wr fun e w' => e = .returned (.int .i64 60) ∧ Pl w w' t g c b S (n + 1) kd nn := by
  refine (h.st.hold hn nn).mono ?_
  rintro e w' ⟨he, r2⟩
  rw [vaE_no hv] at he
  have eS : hoS S nn = S := by unfold hoS; rw [hv]; rfl
  rw [eS] at r2
  exact ⟨he, (h.step r2).same⟩
/-- Hold of a token: the program's side. -/
theorem Pl.hold (h : Pl w wr t g c b S n kd nn) (hn : n < 65536) (m : Nat) (hv : vaB S m = true) (hm : nn = (m : Int)) : Calls Try.prog 12 #[PT t, .int .i64 nn] wr fun e w' => e = .returned (.int .i64 0) ∧ Pm w w' t g c b S (holdS S m) (n + 1) kd nn := by
  subst hm
  refine (h.st.hold hn _).mono ?_
  rintro e w' ⟨he, r2⟩
  rw [vaE_yes hv] at he
  have eS : hoS S (m : Int) = holdS S m := by unfold hoS; rw [hv]; rfl
  rw [eS] at r2
  exact ⟨he, h.step r2⟩
/-- Hold of a token: the document's side, behind its copy. -/
theorem Pm.held {w5 : World} {g1 c1 : Nat} {m : Nat} (h : Pm w wr t g c b S (holdS S m) n kd nn) (h1 : 1 ≤ m) (h2 : m ≤ S.length) (hr : RR w5 wr.heap.size g1 c1 S) (T : Touch [] wr w5) :
    w5.cell? ⟨g1, (m - 1) * 3 + 1, none⟩ = some (.int .i64 ((tk S m).hol : Int)) ∧ w5.frozen? ⟨g1, (m - 1) * 3 + 1, none⟩ = false ∧ w5.cell? ⟨b, 1, none⟩ = some (.int .i64 nn) ∧ Pl w (w5.setCell ⟨g1, (m - 1) * 3 + 1, none⟩ (.int .i64 (((tk S m).hol : Int) + 1))) t g1 c1 b (holdS S m) n kd nn := by
  have h5 := h.quiet T
  have hb : w.heap.size ≤ wr.heap.size := h.st.tc.size
  refine ⟨(hr.cells h1 h2).2.1, hr.frz _, h5.cell, ?_⟩
  have hg := hr.lt
  have r2 : RR (w5.setCell ⟨g1, (m - 1) * 3 + 1, none⟩ (.int .i64 (((tk S m).hol : Int) + 1))) wr.heap.size g1 c1 (holdS S m) :=
    hr.set _ _ (holdS_len S m) (flat3_hol (s := S) (i := m - 1) (by omega) ((tk S m).hol + 1))
  have T2 : Touch [g1] w5 (w5.setCell ⟨g1, (m - 1) * 3 + 1, none⟩ (.int .i64 (((tk S m).hol : Int) + 1))) := (Touch.refl _ _).setCell (Or.inl (by simp)) _
  have T3 : Touch [] wr (w5.setCell ⟨g1, (m - 1) * 3 + 1, none⟩ (.int .i64 (((tk S m).hol : Int) + 1))) := T.trans T2 (fun i hi => Or.inr (by simp at hi; omega))
  exact h.next T3 (r2.base hb) (Or.inr hg.1)
/-- A clone goes its own way. -/
theorem Pl.clone (h : Pl w wr t g c b S n kd nn) (hn : n + 4 < 65536) : Calls Try.prog 15 #[PT t] wr fun e w1 => ∃ d, e = .returned (PT d) ∧ w1.cell? ⟨b, 1, none⟩ = some (.int .i64 nn) ∧
    (Calls Try.prog 16 #[PT d, .slice (some ⟨g, 0, none⟩) S.length c, .int .i64 nn] w1 fun e w2 => e = .returned (.bool true) ∧
      (Calls Try.prog 17 #[PT d, .int .i64 0] w2 fun e w3 => (∃ v, e = .returned v) ∧
        (Calls Try.prog 8 #[PT d, .int .i64 1] w3 fun e w4 => (∃ v, e = .returned v) ∧
          (Calls Try.prog 12 #[PT d, .int .i64 1] w4 fun e w5 => (∃ v, e = .returned v) ∧ Pl w w5 t g c b S (n + 1) kd nn)))) := by
  obtain ⟨sl, hs⟩ := h.st
  refine (clone15 wr t sl S hs.tn).mono ?_
  rintro e w1 ⟨d, sl1, he, r1, r2, r3⟩
  have s1 : St wr w1 d S n [] := ⟨sl1, r1, hs.ok, r3, r2, hs.ho, hs.le, fun k hk => by simp at hk⟩
  refine ⟨d, he, (h.quiet r2).cell, (stands16 w1 d sl1 w.heap.size g c S nn r1 hs.ok (h.quiet r2).rr).mono ?_⟩
  rintro e w2 ⟨he2, T2⟩
  refine ⟨he2, ((s1.quiet T2).make (by omega) 0).mono ?_⟩
  rintro e w3 ⟨he3, s3⟩
  refine ⟨⟨_, he3⟩, (s3.1.cancel 1).mono ?_⟩
  rintro e w4 ⟨a4, c4, he4, -, s4⟩
  refine ⟨⟨_, he4⟩, (s4.1.hold (by omega) 1).mono ?_⟩
  rintro e w5 ⟨he5, s5⟩
  have h5 := h.quiet s5.1.tc
  exact ⟨⟨_, he5⟩, h5.st.mono (by omega), h5.rr, h5.bx⟩
end
end Go.Proofs.Ytbjnajiicljnbaa
