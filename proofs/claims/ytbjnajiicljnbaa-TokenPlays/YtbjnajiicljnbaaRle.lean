/- The contract of the document's Let. -/
import Derived.Test.YtbjnajiicljnbaaRca
namespace Go.Proofs.Ytbjnajiicljnbaa
open Go.RowKit Go.Maps Go.ChangeMaps
set_option linter.unusedVariables false
theorem leS_len (S : List Tk) (i : Int) : (leS S i).length = S.length := by
  unfold leS
  split
  · split
    · rfl
    · split
      · rw [canS_len, lowS_len]
      · rw [lowS_len]
  · rfl
/-- What the document's Let answers. -/
def RlE (e : Ending) (w w' : World) (B g : Nat) (S : List Tk) (i : Int) : Prop := ∃ g' c' a k, e = .returned (.tuple #[.slice (some ⟨g', 0, none⟩) S.length c', .slice a (leL S i).length k, .int .i64 (leE S i)]) ∧ RR w' B g' c' (leS S i) ∧ RI w' w.heap.size (.slice a (leL S i).length k) (leL S i) ∧ Touch [] w w' ∧ (g' = g ∨ w.heap.size ≤ g')
section
variable (w : World) (B g c : Nat) (S : List Tk)
theorem rlet14_no (i : Int) (h : RR w B g c S) (hv : vaB S i = false) : Calls Try.prog 14 #[.slice (some ⟨g, 0, none⟩) S.length c, .int .i64 i] w fun e w' => RlE e w w' B g S i := by
  have HI := hid (ris9 w g c S i)
  rw [hv] at HI
  have HE : Hid (RlE (.returned (.tuple #[.slice (some ⟨g, 0, none⟩) S.length c, .slice none 0 0, .int .i64 60])) w w B g S i) := by
    refine ⟨g, c, none, 0, ?_, ?_, ?_, Touch.refl _ _, Or.inl rfl⟩
    · unfold leL leE; rw [hv]; rfl
    · unfold leS; rw [hv]; exact h
    · unfold leL; rw [hv]; exact RI.nil _ _
  clear h hv
  generalize S.length = N at *
  go_enter Try.func14, Try.ntmps14
  go_wp2_with (go_at_call 9; refine HI.out.mono ?_; rintro e w ⟨rfl, rfl⟩)
  exact bodyPost_ret (v := .tuple #[.slice (some ⟨g, 0, none⟩) N c, .slice none 0 0, .int .i64 60]) (by simp [results, Try.results14, go_sem]) rfl HE.out
set_option maxHeartbeats 1000000 in
set_option maxRecDepth 100000 in
theorem rlet14_held (m : Nat) (h : RR w B g c S) (hle : S.length ≤ 65536) (h1 : 1 ≤ m) (h2 : m ≤ S.length) (hh : (tk S m).hol = 0) : Calls Try.prog 14 #[.slice (some ⟨g, 0, none⟩) S.length c, .int .i64 (m : Nat)] w fun e w' => RlE e w w' B g S m := by
  have hv : vaB S m = true := by simp [vaB]; omega
  have HI := hid (ris9 w g c S m)
  rw [hv] at HI
  obtain ⟨-, x1, -⟩ := h.cells h1 h2
  rw [hh] at x1
  have HE : Hid (RlE (.returned (.tuple #[.slice (some ⟨g, 0, none⟩) S.length c, .slice none 0 0, .int .i64 61])) w w B g S m) := by
    have e : leL S m = [] := by unfold leL; rw [hv, Int.toNat_natCast, if_pos rfl, if_neg (by omega)]
    refine ⟨g, c, none, 0, ?_, ?_, ?_, Touch.refl _ _, Or.inl rfl⟩
    · rw [e]; unfold leE; rw [hv, Int.toNat_natCast, if_pos rfl, if_pos hh]; rfl
    · unfold leS; rw [hv, Int.toNat_natCast, if_pos rfl, if_pos hh]; exact h
    · rw [e]; exact RI.nil _ _
  clear h hv hh
  generalize S.length = N at *
  obtain ⟨i, rfl⟩ : ∃ i, m = i + 1 := ⟨m - 1, by omega⟩
  rw [Nat.add_sub_cancel] at x1
  have z1 : ((i + 1 : Nat) : Int) = (i : Int) + 1 := by omega
  have z2 : (i : Int) + 1 ≤ (N : Int) := by omega
  have z3 : (N : Int) ≤ 65536 := by omega
  rw [z1] at HI
  clear h1 h2 hle
  go_enter Try.func14, Try.ntmps14
  go_wp2_with (go_at_call 9; refine HI.out.mono ?_; rintro e w ⟨rfl, rfl⟩)
  exact bodyPost_ret (v := .tuple #[.slice (some ⟨g, 0, none⟩) N c, .slice none 0 0, .int .i64 61]) (by simp [results, Try.results14, go_sem]) rfl HE.out
set_option maxHeartbeats 2000000 in
set_option maxRecDepth 100000 in
theorem rlet14_held2 (m : Nat) (h : RR w B g c S) (ok : Ok S) (hB : B ≤ w.heap.size) (hle : S.length ≤ 65536) (h1 : 1 ≤ m) (h2 : m ≤ S.length) (hh : (tk S m).hol ≠ 0) (hb : (tk S m).hol ≤ 65536) : Calls Try.prog 14 #[.slice (some ⟨g, 0, none⟩) S.length c, .int .i64 (m : Nat)] w fun e w' => RlE e w w' B g S m := by
  obtain ⟨i0, hi, hz0, hz1, hz2⟩ := info_parts info39
  have hv : vaB S m = true := by simp [vaB]; omega
  have HI := hid (ris9 w g c S m)
  rw [hv] at HI
  obtain ⟨-, x1, -⟩ := h.cells h1 h2
  obtain ⟨m1, m2, m3⟩ := copy_ahead h
  have HM := hid m1
  have HN := hid m2
  have HF := hid m3
  have HB : Hid (1 ≤ S.length ∧ S.length ≤ 65536) := ⟨by omega, hle⟩
  have HX : Hid (∀ g1 c1 w5, RR w5 w.heap.size g1 c1 S → Touch [] w w5 → w5.cell? ⟨g1, (m - 1) * 3 + 1, none⟩ = some (.int .i64 ((tk S m).hol : Nat)) ∧ w5.frozen? ⟨g1, (m - 1) * 3 + 1, none⟩ = false ∧ (w5.setCell ⟨g1, (m - 1) * 3 + 1, none⟩ (.int .i64 (((tk S m).hol : Int) - 1))).cell? ⟨g1, (m - 1) * 3 + 1, none⟩ = some (.int .i64 (((tk S m).hol : Int) - 1)) ∧ RR (w5.setCell ⟨g1, (m - 1) * 3 + 1, none⟩ (.int .i64 (((tk S m).hol : Int) - 1))) w.heap.size g1 c1 (lowS S m) ∧ Touch [] w (w5.setCell ⟨g1, (m - 1) * 3 + 1, none⟩ (.int .i64 (((tk S m).hol : Int) - 1)))) := fun g1 c1 w5 r T => by
    have e : Value.int .i64 (((tk S m).hol : Int) - 1) = .int .i64 (((tk S m).hol - 1 : Nat) : Int) := by congr 1; omega
    have r2 : RR (w5.setCell ⟨g1, (m - 1) * 3 + 1, none⟩ (.int .i64 (((tk S m).hol : Int) - 1))) w.heap.size g1 c1 (lowS S m) := by
      refine r.set _ _ (lowS_len S m) ?_
      rw [e]
      exact flat3_hol (s := S) (i := m - 1) (by omega) ((tk S m).hol - 1)
    have hgb := r.lt.1
    have y := (r2.cells h1 (by rw [lowS_len]; exact h2)).2.1
    have e2 : (tk (lowS S m) m).hol = (tk S m).hol - 1 := by unfold lowS; rw [tk_set h1 h2 h1, if_pos rfl]
    rw [e2, ← e] at y
    refine ⟨(r.cells h1 h2).2.1, r.frz _, y, r2, T.trans ((Touch.refl [g1] _).setCell (Or.inl (by simp)) _) (fun j hj => Or.inr (by simp at hj; omega))⟩
  have HE1 : Hid (((tk S m).hol : Int) = 1 → ∀ g1 c1 w6, RR w6 w.heap.size g1 c1 (lowS S m) → Touch [] w w6 → Calls Try.prog 10 #[.slice (some ⟨g1, 0, none⟩) S.length c1, .int .i64 (m : Nat)] w6 fun e w' => ∃ g2 c2 a k, e = .returned (.tuple #[.slice (some ⟨g2, 0, none⟩) S.length c2, .slice a (gnL (lowS S m) m).length k]) ∧ RlE (.returned (.tuple #[.slice (some ⟨g2, 0, none⟩) S.length c2, .slice a (gnL (lowS S m) m).length k, .int .i64 0])) w w' B g S m) := fun h' g1 c1 w6 r T => by
    have hh1 : (tk S m).hol = 1 := by omega
    have := rcancel10 w6 w.heap.size g1 c1 (lowS S m) m r (ok.low h1 h2) (by rw [lowS_len]; exact hle) h1 (by rw [lowS_len]; exact h2)
    rw [lowS_len] at this
    refine this.mono ?_
    rintro e w' ⟨g2, c2, a, k, he, r1, r2, r3⟩
    rw [lowS_len] at he
    refine ⟨g2, c2, a, k, he, g2, c2, a, k, ?_, ?_, ?_, T.trans' r3, Or.inr (Nat.le_trans T.size r1.lt.1)⟩
    · unfold leL leE; rw [hv, Int.toNat_natCast, if_pos rfl, if_pos hh1, if_pos rfl, if_neg hh]
    · unfold leS; rw [hv, Int.toNat_natCast, if_pos rfl, if_neg hh, if_pos hh1]; exact r1.base (Nat.le_trans hB T.size)
    · unfold leL; rw [hv, Int.toNat_natCast, if_pos rfl, if_pos hh1]
      obtain ⟨a', c', e', hd⟩ := r2
      refine ⟨a', c', e', ?_⟩
      rcases hd with hd | ⟨q1, q2, q3, q4, q5, q6, q7, q8, q9⟩
      · exact Or.inl hd
      · exact Or.inr ⟨q1, q2, q3, q4, q5, q6, Nat.le_trans T.size q7, q8, q9⟩
  have HE2 : Hid (((tk S m).hol : Int) ≠ 1 → ∀ g1 c1 w6, RR w6 w.heap.size g1 c1 (lowS S m) → Touch [] w w6 → RlE (.returned (.tuple #[.slice (some ⟨g1, 0, none⟩) S.length c1, .slice none 0 0, .int .i64 0])) w w6 B g S m) := fun h' g1 c1 w6 r T => by
    have hh1 : ¬ (tk S m).hol = 1 := by omega
    have e : leL S m = [] := by unfold leL; rw [hv, Int.toNat_natCast, if_pos rfl, if_neg hh1]
    refine ⟨g1, c1, none, 0, ?_, ?_, ?_, T, Or.inr r.lt.1⟩
    · rw [e]; unfold leE; rw [hv, Int.toNat_natCast, if_pos rfl, if_neg hh]; rfl
    · unfold leS; rw [hv, Int.toNat_natCast, if_pos rfl, if_neg hh, if_neg hh1]; exact r.base hB
    · rw [e]; exact RI.nil _ _
  have zh : ((tk S m).hol : Int) ≤ 65536 := by omega
  have zh1 : 1 ≤ ((tk S m).hol : Int) := by omega
  clear m1 m2 m3 h hv hh hb ok
  obtain ⟨i, hin⟩ : ∃ i, m = i + 1 := ⟨m - 1, by omega⟩
  have ei : m - 1 = i := by omega
  have z1 : (m : Int) - 1 = (i : Int) := by omega
  have z2 : (i : Int) < (S.length : Int) := by omega
  rw [ei] at x1 HX
  unfold RR at HX
  rw [lowS_len] at HX
  unfold RR at HE1 HE2
  rw [lowS_len] at HE1 HE2
  clear ei hin
  generalize ((tk S m).hol : Int) = y at *
  generalize S.length = N at *
  have z3 : (N : Int) ≤ 65536 := by omega
  clear h1 h2 hle
  generalize (m : Int) = mi at *
  have zw : IntKind.i64.wrap (y - 1) = y - 1 := by simp [IntKind.wrap, IntKind.bits, IntKind.signed]; omega
  have zy : (y == 0) = false := by
    have : y ≠ 0 := by omega
    simpa using this
  go_enter Try.func14, Try.ntmps14
  go_upto_region 6 with (first
    | (go_at_call 9; refine HI.out.mono ?_; rintro e w ⟨rfl, rfl⟩)
    | (at_builtin; refine wpList_append_lies _ rfl _ _ 26 rfl w.heap.size 39 i0 (.agg #[.int .i64 0, .int .i64 0, .int .i64 0]) 3 24 Try.underlying26 hi hz0 hz1 hz2 rfl (by decide) (.slice (some ⟨w.heap.size, 0, none⟩) 0 0) 0 [] rfl HM.out ⟨g, 0, none⟩ N c (flat3 S) rfl HF.out HN.out flat3_one (by have := HB.out; omega) (by have := HB.out; unfold maxLen; omega) (by have := HB.out; omega) (by simp) _ rfl ?_; intro g1 c1 w5 hown5 hgrow hat hlt5))
  have R : Hid (w5.ownsRow w.heap.size 39 3 (.slice (some ⟨g1, 0, none⟩) N c1) N (flat3 S) ∧ Touch [] w w5) := by
    rw [Nat.zero_add, List.nil_append] at hown5
    refine ⟨hown5, ((Touch.refl [] w).alloc _).grown hgrow (fun k hk => Or.inr ?_)⟩
    simp [Value.ownBlock] at hk
    omega
  clear hown5 hgrow hat hlt5
  obtain ⟨y1, y2, y3, y4, y5⟩ := HX.out g1 c1 w5 R.out.1 R.out.2
  have Y := hid (And.intro y4 y5)
  try simp only [Nat.zero_add]
  clear y4 y5 R HX HM HN HF HI x1
  by_cases e1 : y = 1
  · have HC := hid (HE1.out e1 g1 c1 _ Y.out.1 Y.out.2)
    subst e1
    clear HE1 HE2
    go_wp2_with (go_at_call 10; refine HC.out.mono ?_; rintro e w7 ⟨g2, c2, a2, k2, rfl, r⟩; have R7 := hid r; clear r)
    exact bodyPost_ret (v := .tuple #[.slice (some ⟨g2, 0, none⟩) N c2, .slice a2 (gnL (lowS S m) m).length k2, .int .i64 0]) (by simp [results, Try.results14, go_sem]) rfl R7.out
  · have HC := hid (HE2.out e1 g1 c1 _ Y.out.1 Y.out.2)
    have zp : 0 < y - 1 := by omega
    clear HE1 HE2 e1
    go_wp2
    exact bodyPost_ret (v := .tuple #[.slice (some ⟨g1, 0, none⟩) N c1, .slice none 0 0, .int .i64 0]) (by simp [results, Try.results14, go_sem]) rfl HC.out
theorem rlet14 (i : Int) (h : RR w B g c S) (ok : Ok S) (hB : B ≤ w.heap.size) (hle : S.length ≤ 65536) (hb : ∀ m, (tk S m).hol ≤ 65536) : Calls Try.prog 14 #[.slice (some ⟨g, 0, none⟩) S.length c, .int .i64 i] w fun e w' => RlE e w w' B g S i := by
  by_cases hv : vaB S i = true
  · obtain ⟨m, rfl, h1, h2⟩ := va_yes hv
    by_cases hh : (tk S m).hol = 0
    · exact rlet14_held w B g c S m h hle h1 h2 hh
    · exact rlet14_held2 w B g c S m h ok hB hle h1 h2 hh (hb m)
  · exact rlet14_no w B g c S i h (by simpa using hv)
end
end Go.Proofs.Ytbjnajiicljnbaa
