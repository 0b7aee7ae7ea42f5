/- The contracts of Cancel, Hold, Let, Live, Under and Clone. -/
import Derived.Test.YtbjnajiicljnbaaCnl
namespace Go.Proofs.Ytbjnajiicljnbaa
open Go.RowKit Go.Maps Go.ChangeMaps
set_option linter.unusedVariables false
section
variable (w : World) (t : Nat) (sl : Value) (S : List Tk) (n : Nat)
theorem Cancel8_no (i : Int) (h : Tn w t sl S) (hv : ¬ Va S i) : Calls Try.prog 8 #[PT t, .int .i64 i] w fun e w' => e = .returned (.tuple #[.slice none 0 0, .int .i64 60]) ∧ w' = w := by
  have HF := hid (find26_no w t sl S i h hv)
  clear h hv
  unfold PT at *
  go_enter Try.func8, Try.ntmps8
  go_wp2_with (go_at_call 26; refine HF.out.mono ?_; rintro e w ⟨rfl, rfl⟩)
  exact bodyPost_ret (v := .tuple #[.slice none 0 0, .int .i64 60]) (by simp [results, Try.results8, go_sem]) rfl ⟨rfl, rfl⟩
set_option maxHeartbeats 1000000 in
theorem Cancel8 (h : Tn w t sl S) (ok : Ok S) (h1 : 1 ≤ n) (h2 : n ≤ S.length) : Calls Try.prog 8 #[PT t, .int .i64 (n : Nat)] w fun e w' => CaE e w w' t sl S n (fun v => .tuple #[v, .int .i64 0]) := by
  have HC := hid (cancel27 w t sl S n h ok h1 h2)
  obtain ⟨g, c, rfl⟩ := h.slice (by omega)
  have HF := hid (find26_ok w t S g c n h h1 h2)
  clear h ok h1 h2
  generalize (n : Int) = ni at *
  generalize (n - 1) * 5 = np at *
  unfold PT at *
  go_enter Try.func8, Try.ntmps8
  go_wp2_with (first | (go_at_call 26; refine HF.out.mono ?_; rintro e w ⟨rfl, rfl⟩) | (go_at_call 27; refine HC.out.mono ?_; rintro e w2 ⟨a2, c2, rfl, r⟩; have R := hid r; clear r))
  exact bodyPost_ret (v := .tuple #[.slice a2 (gnL S n).length c2, .int .i64 0]) (by simp [results, Try.results8, go_sem]) rfl ⟨a2, c2, rfl, R.out⟩
theorem hold12_no (i : Int) (h : Tn w t sl S) (hv : ¬ Va S i) : Calls Try.prog 12 #[PT t, .int .i64 i] w fun e w' => e = .returned (.int .i64 60) ∧ w' = w := by
  have HF := hid (find26_no w t sl S i h hv)
  clear h hv
  unfold PT at *
  go_enter Try.func12, Try.ntmps12
  go_wp2_with (go_at_call 26; refine HF.out.mono ?_; rintro e w ⟨rfl, rfl⟩)
  go_ret
  exact ⟨rfl, rfl⟩
set_option maxHeartbeats 1000000 in
theorem hold12 (h : Tn w t sl S) (h1 : 1 ≤ n) (h2 : n ≤ S.length) (hh : (tk S n).hol < 4611686018427387904) : Calls Try.prog 12 #[PT t, .int .i64 (n : Nat)] w fun e w' => e = .returned (.int .i64 0) ∧ Tn w' t sl (holdS S n) ∧ Touch (ft t sl) w w' := by
  obtain ⟨g, c, rfl⟩ := h.slice (by omega)
  have HF := hid (find26_ok w t S g c n h h1 h2)
  obtain ⟨-, x1, -, -, -⟩ := h.cells h1 h2
  have xf := h.frz ((n - 1) * 5 + 1)
  have HE : Hid (Tn (w.setCell ⟨g, (n - 1) * 5 + 1, none⟩ (.int .i64 (((tk S n).hol : Nat) + 1))) t (.slice (some ⟨g, 0, none⟩) S.length c) (holdS S n) ∧ Touch (ft t (.slice (some ⟨g, 0, none⟩) S.length c)) w (w.setCell ⟨g, (n - 1) * 5 + 1, none⟩ (.int .i64 (((tk S n).hol : Nat) + 1)))) := by
    obtain ⟨r1, r2⟩ := h.set (S' := holdS S n) ((n - 1) * 5 + 1) (.int .i64 (((tk S n).hol : Nat) + 1)) (by unfold holdS; simp) (flat5_hol (s := S) (i := n - 1) (by omega) ((tk S n).hol + 1))
    exact ⟨r1, r2.mono (fun j hj => by simp at hj; simp [ft, hj, Value.ownBlock])⟩
  have zh : (((tk S n).hol : Nat) : Int) < 4611686018427387904 := by omega
  have z0 : (0 : Int) ≤ (((tk S n).hol : Nat) : Int) := by omega
  clear h h1 h2 hh
  generalize (n : Int) = ni at *
  generalize (n - 1) * 5 = np at *
  generalize ((tk S n).hol : Int) = y at *
  have zw : IntKind.i64.wrap (y + 1) = y + 1 := by simp [IntKind.wrap, IntKind.bits, IntKind.signed]; omega
  unfold PT at *
  go_enter Try.func12, Try.ntmps12
  go_wp2_with (go_at_call 26; refine HF.out.mono ?_; rintro e w ⟨rfl, rfl⟩)
  go_ret
  exact ⟨rfl, HE.out⟩
theorem let13_no (i : Int) (h : Tn w t sl S) (hv : ¬ Va S i) : Calls Try.prog 13 #[PT t, .int .i64 i] w fun e w' => e = .returned (.tuple #[.slice none 0 0, .int .i64 60]) ∧ w' = w := by
  have HF := hid (find26_no w t sl S i h hv)
  clear h hv
  unfold PT at *
  go_enter Try.func13, Try.ntmps13
  go_wp2_with (go_at_call 26; refine HF.out.mono ?_; rintro e w ⟨rfl, rfl⟩)
  exact bodyPost_ret (v := .tuple #[.slice none 0 0, .int .i64 60]) (by simp [results, Try.results13, go_sem]) rfl ⟨rfl, rfl⟩
set_option maxHeartbeats 1000000 in
theorem let13_held (h : Tn w t sl S) (h1 : 1 ≤ n) (h2 : n ≤ S.length) (hh : (tk S n).hol = 0) : Calls Try.prog 13 #[PT t, .int .i64 (n : Nat)] w fun e w' => e = .returned (.tuple #[.slice none 0 0, .int .i64 61]) ∧ w' = w := by
  obtain ⟨g, c, rfl⟩ := h.slice (by omega)
  have HF := hid (find26_ok w t S g c n h h1 h2)
  obtain ⟨-, x1, -, -, -⟩ := h.cells h1 h2
  rw [hh] at x1
  clear h h1 h2 hh
  generalize (n : Int) = ni at *
  generalize (n - 1) * 5 = np at *
  unfold PT at *
  go_enter Try.func13, Try.ntmps13
  go_wp2_with (go_at_call 26; refine HF.out.mono ?_; rintro e w ⟨rfl, rfl⟩)
  exact bodyPost_ret (v := .tuple #[.slice none 0 0, .int .i64 61]) (by simp [results, Try.results13, go_sem]) rfl ⟨rfl, rfl⟩
set_option maxHeartbeats 1000000 in
theorem let13_more (h : Tn w t sl S) (h1 : 1 ≤ n) (h2 : n ≤ S.length) (hh : 1 < (tk S n).hol) (hb : (tk S n).hol < 4611686018427387904) : Calls Try.prog 13 #[PT t, .int .i64 (n : Nat)] w fun e w' => e = .returned (.tuple #[.slice none 0 0, .int .i64 0]) ∧ Tn w' t sl (lowS S n) ∧ Touch (ft t sl) w w' := by
  obtain ⟨g, c, rfl⟩ := h.slice (by omega)
  have HF := hid (find26_ok w t S g c n h h1 h2)
  obtain ⟨-, x1, -, -, -⟩ := h.cells h1 h2
  have xf := h.frz ((n - 1) * 5 + 1)
  have HE : Hid (Tn (w.setCell ⟨g, (n - 1) * 5 + 1, none⟩ (.int .i64 (((tk S n).hol : Nat) - 1))) t (.slice (some ⟨g, 0, none⟩) S.length c) (lowS S n) ∧ Touch (ft t (.slice (some ⟨g, 0, none⟩) S.length c)) w (w.setCell ⟨g, (n - 1) * 5 + 1, none⟩ (.int .i64 (((tk S n).hol : Nat) - 1)))) := by
    have e : Value.int .i64 (((tk S n).hol : Int) - 1) = .int .i64 (((tk S n).hol - 1 : Nat) : Int) := by congr 1; omega
    obtain ⟨r1, r2⟩ := h.set (S' := lowS S n) ((n - 1) * 5 + 1) (.int .i64 (((tk S n).hol : Nat) - 1)) (by unfold lowS; simp) (by rw [e]; exact flat5_hol (s := S) (i := n - 1) (by omega) ((tk S n).hol - 1))
    exact ⟨r1, r2.mono (fun j hj => by simp at hj; simp [ft, hj, Value.ownBlock])⟩
  have zh : (((tk S n).hol : Nat) : Int) < 4611686018427387904 := by omega
  have z0 : (1 : Int) < (((tk S n).hol : Nat) : Int) := by omega
  clear h h1 h2 hh hb
  generalize (n : Int) = ni at *
  generalize (n - 1) * 5 = np at *
  generalize ((tk S n).hol : Int) = y at *
  have zw : IntKind.i64.wrap (y - 1) = y - 1 := by simp [IntKind.wrap, IntKind.bits, IntKind.signed]; omega
  have zy : (y == 0) = false := by simp; omega
  have zp : 0 < y - 1 := by omega
  unfold PT at *
  go_enter Try.func13, Try.ntmps13
  go_wp2_with (go_at_call 26; refine HF.out.mono ?_; rintro e w ⟨rfl, rfl⟩)
  exact bodyPost_ret (v := .tuple #[.slice none 0 0, .int .i64 0]) (by simp [results, Try.results13, go_sem]) rfl ⟨rfl, HE.out⟩
/-- What the last Let leaves. -/
def LtE (e : Ending) (w w' : World) (t : Nat) (sl : Value) (S : List Tk) (n : Nat) : Prop := ∃ a c, e = .returned (.tuple #[.slice a (gnL (lowS S n) n).length c, .int .i64 0]) ∧ RI w' w.heap.size (.slice a (gnL (lowS S n) n).length c) (gnL (lowS S n) n) ∧ Tn w' t sl (canS (lowS S n) n) ∧ Touch (ft t sl) w w'
set_option maxHeartbeats 1000000 in
theorem let13_last (h : Tn w t sl S) (ok : Ok S) (h1 : 1 ≤ n) (h2 : n ≤ S.length) (hh : (tk S n).hol = 1) : Calls Try.prog 13 #[PT t, .int .i64 (n : Nat)] w fun e w' => LtE e w w' t sl S n := by
  obtain ⟨g, c, rfl⟩ := h.slice (by omega)
  have HF := hid (find26_ok w t S g c n h h1 h2)
  obtain ⟨-, x1, -, -, -⟩ := h.cells h1 h2
  rw [hh] at x1
  have xf := h.frz ((n - 1) * 5 + 1)
  obtain ⟨V, hV⟩ : ∃ V, V = w.setCell ⟨g, (n - 1) * 5 + 1, none⟩ (.int .i64 0) := ⟨_, rfl⟩
  have xv : V.cell? ⟨g, (n - 1) * 5 + 1, none⟩ = some (.int .i64 0) := by
    have h3 : Tn V t (.slice (some ⟨g, 0, none⟩) S.length c) (lowS S n) := by
      rw [hV]
      exact (h.set (S' := lowS S n) ((n - 1) * 5 + 1) (.int .i64 0) (by unfold lowS; simp) (by unfold lowS; rw [hh]; exact flat5_hol (s := S) (i := n - 1) (by omega) 0)).1
    obtain ⟨-, y1, -, -, -⟩ := h3.cells h1 (by unfold lowS; simpa using h2)
    have e : (tk (lowS S n) n).hol = 0 := by unfold lowS; rw [tk_set h1 h2 h1, if_pos rfl, hh]
    rw [e] at y1
    exact y1
  have HC : Hid (Calls Try.prog 27 #[PT t, .int .i64 (n : Nat)] V fun e w' => ∃ a c2, e = .returned (.slice a (gnL (lowS S n) n).length c2) ∧ LtE (.returned (.tuple #[.slice a (gnL (lowS S n) n).length c2, .int .i64 0])) w w' t (.slice (some ⟨g, 0, none⟩) S.length c) S n) := by
    obtain ⟨r1, r2⟩ := h.set (S' := lowS S n) ((n - 1) * 5 + 1) (.int .i64 0) (by unfold lowS; simp) (by unfold lowS; rw [hh]; exact flat5_hol (s := S) (i := n - 1) (by omega) 0)
    rw [← hV] at r1 r2
    refine (cancel27 V t _ (lowS S n) n r1 (ok.low h1 h2) h1 (by unfold lowS; simpa using h2)).mono ?_
    rintro e w' ⟨a, c2, he, s1, s2, s3⟩
    have hsz : V.heap.size = w.heap.size := by rw [hV]; simp [World.setCell]
    rw [hsz] at s1
    exact ⟨a, c2, he, a, c2, rfl, s1, s2, (r2.mono (fun j hj => by simp at hj; simp [ft, hj, Value.ownBlock])).trans' s3⟩
  have HV := hid hV
  clear h h1 h2 hh ok hV
  generalize (n : Int) = ni at *
  generalize (n - 1) * 5 = np at *
  unfold PT at *
  go_enter Try.func13, Try.ntmps13
  go_wp2_with (first | (go_at_call 26; refine HF.out.mono ?_; rintro e w ⟨rfl, rfl⟩) | (rw [← HV.out]; go_at_call 27; refine HC.out.mono ?_; rintro e w2 ⟨a2, c2, rfl, r⟩; have R := hid r; clear r))
  exact bodyPost_ret (v := .tuple #[.slice a2 (gnL (lowS S n) n).length c2, .int .i64 0]) (by simp [results, Try.results13, go_sem]) rfl R.out
end
end Go.Proofs.Ytbjnajiicljnbaa
