/- The contract of the library's turning of two neighbouring ranges; no conditions but that the indices are within the row. -/
import Derived.Test.YtcdikdiopklcgaaGreatDoorQsw
namespace Go.Proofs.YtcdikdiopklcgaaGreatDoor.So
open Go.RowKit Go.Sort Go.Shelf Me
set_option linter.unusedVariables false

def T (L : List K) (lo m hi t : Nat) : Option K := if lo ≤ t ∧ t < lo + (hi - m) then L[t - lo + m]? else if lo + (hi - m) ≤ t ∧ t < hi then L[t - (hi - m)]? else L[t]?
theorem at_eq (L : List K) {x y : Nat} (h : x = y) : L[x]? = L[y]? := by rw [h]
theorem rot_gt (Y Y' : List K) (m i j : Nat) (h : SwapR Y (m - i) m j Y') (hj : j < i) (hi : i ≤ m) (t : Nat) : T Y' (m - (i - j)) m (m + j) t = T Y (m - i) m (m + j) t := by
  unfold T
  simp only [h.2]
  repeat' split
  all_goals first | rfl | (exfalso; omega) | exact at_eq Y (by omega)
theorem rot_lt (Y Y' : List K) (m i j : Nat) (h : SwapR Y (m - i) (m + j - i) i Y') (hj : i < j) (hi : i ≤ m) (t : Nat) : T Y' (m - i) m (m + (j - i)) t = T Y (m - i) m (m + j) t := by
  unfold T
  simp only [h.2]
  repeat' split
  all_goals first | rfl | (exfalso; omega) | exact at_eq Y (by omega)
theorem rot_eq (Y Y' : List K) (m i : Nat) (h : SwapR Y (m - i) m i Y') (hi : i ≤ m) (t : Nat) : Y'[t]? = T Y (m - i) m (m + i) t := by
  unfold T
  simp only [h.2]
  repeat' split
  all_goals first | rfl | (exfalso; omega) | exact at_eq Y (by omega)

set_option maxHeartbeats 2000000 in
theorem rot58 (w0 : World) (g n c : Nat) (L : List K) (a m b : Nat) (h1 : a < m) (h2 : m < b) (h3 : b ≤ n) (w : World) (hn : n ≤ 5864062014634) (R : RW w0 g n c L w) :
    Calls Tryz.prog 113 #[.slice (some ⟨g, 0, none⟩) n c, .int .i64 a, .int .i64 m, .int .i64 b, cmpF] w fun e w' => e = .returned (.tuple #[]) ∧ ∃ L', L'.Perm L ∧ (∀ t, L'[t]? = T L a m b t) ∧ RW w0 g n c L' w' := by
  have HR : Hid (RW w0 g n c L w) := R
  have hc : ∃ F, F = cmpF := ⟨_, rfl⟩
  obtain ⟨F, hF⟩ := hc
  have A : Hid (∀ (Y : List K) (a b m : Nat), a + m ≤ b → b + m ≤ n → ∀ w, RW w0 g n c Y w → Calls Tryz.prog 127 #[.slice (some ⟨g, 0, none⟩) n c, .int .i64 a, .int .i64 b, .int .i64 m, F] w fun e w' => e = .returned (.tuple #[]) ∧ ∃ L', SwapR Y a b m L' ∧ RW w0 g n c L' w') := fun Y a b m e1 e2 w r => by rw [hF]; exact swap64 w0 g n c Y a b m e1 e2 w hn r
  rw [← hF]
  clear R hF
  go_enter Tryz.func113, Tryz.ntmps113
  go_wp2
  go_loopw [10, 11] (fun x y wr => ∃ (i j : Nat) (Y : List K), x = .int .i64 i ∧ y = .int .i64 j ∧ 1 ≤ i ∧ 1 ≤ j ∧ i ≤ m ∧ m + j ≤ b ∧ Hid (Y.Perm L ∧ ∀ t, T Y (m - i) m (m + j) t = T L a m b t) ∧ Hid (RW w0 g n c Y wr)) (fun x y _ => (intOf x).toNat + (intOf y).toNat)
  case atStart =>
    refine ⟨m - a, b - m, L, by go_num, by go_num, by omega, by omega, by omega, by omega, ⟨List.Perm.refl _, fun t => ?_⟩, HR⟩
    rw [show m - (m - a) = a by omega, show m + (b - m) = b by omega]
  case round =>
    obtain ⟨i, j, Y, rfl, rfl, hi, hj, him, hjb, HS, HW⟩ := hrel
    have m1 : (m : Int) - (i : Int) = ((m - i : Nat) : Int) := by omega
    rcases Nat.lt_trichotomy i j with hlt | heq | hgt
    · have b1 : ((i : Int) == (j : Int)) = false := by simp; omega
      have c1 : ¬ (j : Int) < (i : Int) := by omega
      have m2 : (m : Int) + (j : Int) - (i : Int) = ((m + j - i : Nat) : Int) := by omega
      have AA : Hid _ := A.out Y (m - i) (m + j - i) i (by omega) (by omega) wr HW.out
      go_wp2_with fail
      refine Calls.mono AA.out ?_
      rintro e w1 ⟨rfl, Y', hs, hw⟩
      have H1 : Hid (Y'.Perm L ∧ ∀ t, T Y' (m - i) m (m + (j - i)) t = T L a m b t) := ⟨hs.1.trans HS.out.1, fun t => by rw [rot_lt Y Y' m i j hs hlt him]; exact HS.out.2 t⟩
      have H2 : Hid (RW w0 g n c Y' w1) := hw
      clear hs hw
      go_wp2
      go_roundw
      case rel => exact ⟨i, j - i, Y', rfl, by go_num, hi, by omega, him, by omega, H1, H2⟩
      case measure => simp [intOf]; omega
    · subst heq
      have AA : Hid _ := A.out Y (m - i) m i (by omega) (by omega) wr HW.out
      go_wp2_with fail
      refine Calls.mono AA.out ?_
      rintro e w1 ⟨rfl, Y', hs, hw⟩
      have H1 : Hid (Y'.Perm L ∧ ∀ t, Y'[t]? = T L a m b t) := ⟨hs.1.trans HS.out.1, fun t => by rw [rot_eq Y Y' m i hs him]; exact HS.out.2 t⟩
      have H2 : Hid (RW w0 g n c Y' w1) := hw
      clear hs hw
      go_wp2
      go_end0
      exact ⟨rfl, Y', H1.out.1, H1.out.2, H2.out⟩
    · have b1 : ((i : Int) == (j : Int)) = false := by simp; omega
      have c1 : (j : Int) < (i : Int) := by omega
      have AA : Hid _ := A.out Y (m - i) m j (by omega) (by omega) wr HW.out
      go_wp2_with fail
      refine Calls.mono AA.out ?_
      rintro e w1 ⟨rfl, Y', hs, hw⟩
      have H1 : Hid (Y'.Perm L ∧ ∀ t, T Y' (m - (i - j)) m (m + j) t = T L a m b t) := ⟨hs.1.trans HS.out.1, fun t => by rw [rot_gt Y Y' m i j hs hgt him]; exact HS.out.2 t⟩
      have H2 : Hid (RW w0 g n c Y' w1) := hw
      clear hs hw
      go_wp2
      go_roundw
      case rel => exact ⟨i - j, j, Y', by go_num, rfl, by omega, hj, by omega, hjb, H1, H2⟩
      case measure => simp [intOf]; omega
end Go.Proofs.YtcdikdiopklcgaaGreatDoor.So
