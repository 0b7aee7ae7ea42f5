/- The contracts of cancel, Cancel, Hold and Let. -/
import Derived.Test.YtbjnajiicljnbaaMkp
import Derived.Test.YtbjnajiicljnbaaBra
namespace Go.Proofs.Ytbjnajiicljnbaa
open Go.RowKit Go.Maps Go.ChangeMaps
set_option linter.unusedVariables false
/-- A slice that reads as a list of numbers. -/
def RI (w : World) (B : Nat) (v : Value) (l : List Nat) : Prop := ∃ a c, v = .slice a l.length c ∧ (l = [] ∨ ∃ g o cur e z, a = some ⟨g, o, none⟩ ∧ B ≤ g ∧ w.heap[g]? = some (.cells cur e z) ∧ ∀ i, i < l.length → cur[o + i]? = some (.int .i64 ((l.getD i 0 : Nat) : Int)))
section
variable {w w' : World} {B : Nat} {v : Value} {l : List Nat}
theorem RI.of_own (h : w.ownsRow B 3 1 v l.length (ints l)) : RI w B v l := by
  obtain ⟨h1, ⟨h2, h3⟩ | ⟨g, cap, cur, rfl, hg, hc, hn, hm, hs, ht⟩⟩ := h
  · exact ⟨none, 0, by rw [h2, h3], Or.inl (List.length_eq_zero_iff.1 h3)⟩
  · refine ⟨_, cap, rfl, Or.inr ⟨g, 0, cur, 3, (0, 0), rfl, hg, hc, fun i hi => ?_⟩⟩
    have : (cur.toList.take (l.length * 1))[i]? = (ints l)[i]? := by rw [ht]
    rw [List.getElem?_take, if_pos (by omega)] at this
    rw [Nat.zero_add, ← Array.getElem?_toList, this]
    simp [ints, hi]
theorem RI.keep {F : List Nat} (h : RI w B v l) (T : Touch F w w') (hF : ∀ k, k ∈ F → k < B) : RI w' B v l := by
  obtain ⟨a, c, e, h1 | ⟨g, o, cur, e1, z, h2, h3, h4, h5⟩⟩ := h
  · exact ⟨a, c, e, Or.inl h1⟩
  · exact ⟨a, c, e, Or.inr ⟨g, o, cur, e1, z, h2, h3, T.keep h4 (fun hk => by have := hF g hk; omega), h5⟩⟩
theorem RI.keep0 (h : RI w B v l) (T : Touch [] w w') : RI w' B v l := h.keep T (fun _ e => by cases e)
theorem RI.form (h : RI w B v l) : ∃ a c, v = .slice a l.length c := by
  obtain ⟨a, c, e, _⟩ := h
  exact ⟨a, c, e⟩
theorem RI.cell {a : Option Addr} {n c i k : Nat} (h : RI w B (.slice a n c) l) (hk : l[i]? = some k) : ∃ g o, a = some ⟨g, o, none⟩ ∧ w.cell? ⟨g, o + i, none⟩ = some (.int .i64 (k : Nat)) := by
  have hi := (List.getElem?_eq_some_iff.1 hk).1
  obtain ⟨a, c, e, h1 | ⟨g, o, cur, e1, z, h2, h3, h4, h5⟩⟩ := h
  · rw [h1] at hi; simp at hi
  · injection e with e2 e3 e4
    refine ⟨g, o, by rw [e2, h2], ?_⟩
    have := h5 i hi
    simp [World.cell?, h4, this, hk]
theorem RI.nil (w : World) (B : Nat) : RI w B (.slice none 0 0) [] := ⟨none, 0, rfl, Or.inl rfl⟩
end
section
variable {w : World} {t g c N : Nat} {S S' : List Tk}
theorem Tn.set (h : Tn w t (.slice (some ⟨g, 0, none⟩) N c) S) (p : Nat) (v : Value) (hl : S'.length = S.length) (hf : flat5 S' = (flat5 S).set p v) : Tn (w.setCell ⟨g, p, none⟩ v) t (.slice (some ⟨g, 0, none⟩) N c) S' ∧ Touch [g] w (w.setCell ⟨g, p, none⟩ v) := by
  have T : Touch [g] w (w.setCell ⟨g, p, none⟩ v) := (Touch.refl _ _).setCell (Or.inl (by simp)) _
  have hgt := h.ne g rfl
  obtain ⟨p', c', e⟩ := own_form h.row
  injection e with e1 e2 e3
  subst e2
  refine ⟨⟨h.tc.keep T (by simpa using Ne.symm hgt), ?_, by rw [hl]; exact h.le, fun e => h.nz (List.length_eq_zero_iff.1 (by rw [← hl, e]; rfl))⟩, T⟩
  rw [hl, hf]
  exact own_set h.row p v
end
def CaE (e : Ending) (w w' : World) (t : Nat) (sl : Value) (S : List Tk) (n : Nat) (f : Value → Value) : Prop := ∃ a c, e = .returned (f (.slice a (gnL S n).length c)) ∧ RI w' w.heap.size (.slice a (gnL S n).length c) (gnL S n) ∧ Tn w' t sl (canS S n) ∧ Touch (ft t sl) w w'
/-- How cancel stands ahead of a round. -/
structure Cr (w wr : World) (t : Nat) (sl : Value) (v : Value) (S : List Tk) (n k : Nat) (l : List Nat) : Prop where
  tn : Tn wr t sl (wyS n (l.take k) S)
  ri : RI wr w.heap.size v l
  tc : Touch (ft t sl) w wr
theorem Cr.step {w wr : World} {t g c N : Nat} {v : Value} {S : List Tk} {n k m : Nat} {l : List Nat} (h : Cr w wr t (.slice (some ⟨g, 0, none⟩) N c) v S n k l) (hg : g < w.heap.size) (hk : l[k]? = some m) (h1 : 1 ≤ m) (h2 : m ≤ S.length) :
    Cr w (wr.setCell ⟨g, (m - 1) * 5 + 2, none⟩ (.int .i64 (n : Nat))) t (.slice (some ⟨g, 0, none⟩) N c) v S n (k + 1) l := by
  obtain ⟨hkl, hke⟩ := List.getElem?_eq_some_iff.1 hk
  have e : wyS n (l.take (k + 1)) S = (wyS n (l.take k) S).set (m - 1) { tk (wyS n (l.take k) S) m with why := n } := by
    rw [List.take_succ_eq_append_getElem hkl, hke, wyS_snoc]
  obtain ⟨r1, r2⟩ := h.tn.set (S' := wyS n (l.take (k + 1)) S) ((m - 1) * 5 + 2) (.int .i64 (n : Nat)) (by rw [wyS_len, wyS_len]) (by
    rw [e]
    exact flat5_why (by rw [wyS_len]; omega) n)
  refine ⟨r1, h.ri.keep r2 (fun j hj => by simp at hj; omega), h.tc.trans' (r2.mono (fun j hj => by simp at hj; simp [ft, hj, Value.ownBlock]))⟩
section
variable (w : World) (t : Nat) (sl : Value) (S : List Tk) (n : Nat)
set_option maxHeartbeats 2000000 in
theorem cancel27_dead (h : Tn w t sl S) (h1 : 1 ≤ n) (h2 : n ≤ S.length) (hw : (tk S n).why ≠ 0) : Calls Try.prog 27 #[PT t, .int .i64 (n : Nat)] w fun e w' => CaE e w w' t sl S n id := by
  have HI := hid (is22 w t sl S n h)
  rw [fI_ok h1 h2, nat_bne, show ((tk S n).why == 0) = false by simp [hw]] at HI
  have HE : Hid (CaE (.returned (.slice none 0 0)) w w t sl S n id) := by
    have e : gnL S n = [] := by unfold gnL; rw [if_neg hw]
    refine ⟨none, 0, by rw [e]; rfl, by rw [e]; exact RI.nil _ _, by unfold canS; rw [e]; exact h, Touch.refl _ _⟩
  clear h h1 h2 hw
  generalize (n : Int) = ni at *
  unfold PT at *
  go_enter Try.func27, Try.ntmps27
  go_wp2_with (go_at_call 22; refine HI.out.mono ?_; rintro e w1 ⟨rfl, rfl⟩)
  go_ret
  exact HE.out
set_option maxHeartbeats 4000000 in
set_option maxRecDepth 100000 in
theorem cancel27_live (h : Tn w t sl S) (ok : Ok S) (h1 : 1 ≤ n) (h2 : n ≤ S.length) (hw : (tk S n).why = 0) : Calls Try.prog 27 #[PT t, .int .i64 (n : Nat)] w fun e w' => CaE e w w' t sl S n id := by
  have HI := hid (is22 w t sl S n h)
  rw [fI_ok h1 h2, nat_bne, show ((tk S n).why == 0) = true by simp [hw]] at HI
  have HB := hid (branch30_live w t sl S n h ok h1 h2 hw)
  obtain ⟨g, c, rfl⟩ := h.slice (by omega)
  have hg := h.lt g (by simp [ft, Value.ownBlock])
  have eg : gnL S n = brL S (liv S) n := by unfold gnL; rw [if_pos hw]
  rw [← eg] at HB
  have HM : Hid (∀ m, m ∈ gnL S n → 1 ≤ m ∧ m ≤ S.length) := fun m hm => by rw [eg] at hm; exact (mem_brL.1 hm).1
  have HS : Hid (∀ v w', RI w' w.heap.size v (gnL S n) → Touch [] w w' → Cr w w' t (.slice (some ⟨g, 0, none⟩) S.length c) v S n 0 (gnL S n)) := fun v w' r T => ⟨by simpa [wyS] using h.keep0 T, r, T.mono (fun _ e => by cases e)⟩
  have HLe := hid h.le
  have HLN : Hid ((gnL S n).length ≤ S.length) := by
    rw [eg]
    exact Nat.le_trans (List.length_filter_le _ _) (by simp)
  have HG := hid hg
  clear h ok h1 h2 hw eg hg
  obtain ⟨L, hL⟩ : ∃ L, L = (gnL S n).length := ⟨_, rfl⟩
  have HL := hid hL
  have HE : Hid (∀ a c1 w', Cr w w' t (.slice (some ⟨g, 0, none⟩) S.length c) (.slice a L c1) S n L (gnL S n) → CaE (.returned (.slice a L c1)) w w' t (.slice (some ⟨g, 0, none⟩) S.length c) S n id) := fun a c1 w' r => by
    rw [hL] at r ⊢
    refine ⟨a, c1, rfl, r.ri, ?_, r.tc⟩
    have := r.tn
    rw [List.take_length] at this
    exact this
  unfold BrE at HB
  rw [← hL] at HLN HB
  clear hL
  unfold PT at *
  go_enter Try.func27, Try.ntmps27
  go_wp2_with (first
    | (go_at_call 22; refine HI.out.mono ?_; rintro e w ⟨rfl, rfl⟩)
    | (go_at_call 30; refine HB.out.mono ?_; rintro e w2 ⟨a2, c2, rfl, o2, t2⟩; have H0 := hid (HS.out _ _ (RI.of_own (by rw [← HL.out]; exact o2)) t2); clear o2 t2))
  clear HI HB HS
  go_loopw [16] (fun i wr => ∃ k : Nat, i = .int .i64 (k : Nat) ∧ k ≤ L ∧ Hid (Cr w wr t (.slice (some ⟨g, 0, none⟩) S.length c) (.slice a2 L c2) S n k (gnL S n))) (fun i _ => L - (intOf i).toNat)
  case atStart => exact ⟨0, rfl, Nat.zero_le _, H0⟩
  case round =>
    clear H0
    obtain ⟨k, rfl, hk, HR⟩ := hrel
    by_cases hlt : k < L
    · have zk : (k : Int) < (L : Int) := by omega
      obtain ⟨m, hm⟩ : ∃ m, (gnL S n)[k]? = some m := ⟨_, List.getElem?_eq_getElem (by have := HL.out; omega)⟩
      obtain ⟨m1, m2⟩ := HM.out m (List.mem_of_getElem? hm)
      obtain ⟨gf, of, e, x⟩ := HR.out.ri.cell hm
      subst e
      have HN := hid (HR.out.step HG.out hm m1 m2)
      have HF : Hid (Calls Try.prog 26 #[PT t, .int .i64 (m : Nat)] wr fun e w' => e = .returned (.pointer (some ⟨g, (m - 1) * 5, none⟩)) ∧ w' = wr) := by
        have := HR.out.tn
        rw [show S.length = (wyS n ((gnL S n).take k) S).length from (wyS_len _ _ _).symm] at this
        exact find26_ok wr t _ g c m this m1 (by rw [wyS_len]; exact m2)
      obtain ⟨-, -, y2, -, -⟩ := HR.out.tn.cells m1 (by rw [wyS_len]; exact m2)
      have yf := HR.out.tn.frz ((m - 1) * 5 + 2)
      have zL : (L : Int) < 9223372036854775807 := by have := HLN.out; have := HLe.out; omega
      clear hm m1 m2 HR
      unfold PT at *
      generalize (m : Int) = mi at *
      generalize (m - 1) * 5 = mp at *
      go_wp2_with (go_at_call 26; refine HF.out.mono ?_; rintro e w3 ⟨rfl, rfl⟩)
      go_roundw
      case rel => exact ⟨k + 1, by go_num, by omega, HN⟩
      case measure => simp [intOf]; omega
    · have e : k = L := by omega
      subst e
      have HX := hid (HE.out _ _ _ HR.out)
      go_wp2
      go_ret
      exact HX.out
theorem cancel27 (h : Tn w t sl S) (ok : Ok S) (h1 : 1 ≤ n) (h2 : n ≤ S.length) : Calls Try.prog 27 #[PT t, .int .i64 (n : Nat)] w fun e w' => CaE e w w' t sl S n id := by
  by_cases hw : (tk S n).why = 0
  · exact cancel27_live w t sl S n h ok h1 h2 hw
  · exact cancel27_dead w t sl S n h h1 h2 hw
end
end Go.Proofs.Ytbjnajiicljnbaa
