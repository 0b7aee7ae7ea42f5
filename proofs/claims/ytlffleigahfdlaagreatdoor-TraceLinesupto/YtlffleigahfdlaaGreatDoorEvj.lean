/- What a line is written by: parts and numbers; no conditions but those that each states. -/
import Derived.Test.YtlffleigahfdlaaGreatDoorEve
import Derived.Test.YtlffleigahfdlaaGreatDoorEbd
import Derived.StillTailTactics
namespace Go.Proofs.YtlffleigahfdlaaGreatDoor.Tr
open Go.RowKit Go.Sort Go.Shelf Go.Maps Go.ChangeMaps
set_option linter.unusedVariables false
set_option linter.unusedSimpArgs false
theorem wpart_ {B b : Nat} {l : List UInt8} {w : World} (h : Bd B b l w) (c : UInt8) (s : ByteArray) (hl : l.length + s.size ≤ 140737488350000) (hs : s.size ≤ 140737488350000) :
    Calls Tryz.prog 78 #[PT b, .int .u8 c.toNat, .string s] w fun e w' => e = .returned (.tuple #[]) ∧ Bd B b (l ++ 32 :: c :: s.data.toList) w' ∧ Wr B b w w' := by
  have H1 : Hid _ := write_ h ⟨#[32]⟩ (by show l.length + 1 ≤ _; omega)
  have H2 : Hid (∀ w', Bd B b (l ++ [32]) w' → _) := fun w' h' => writeB_ (w := w') h' c (by simp; omega)
  have H3 : Hid (∀ w', Bd B b (l ++ [32] ++ [c]) w' → _) := fun w' h' => write_ (w := w') h' s (by simp; omega)
  have HL : Hid (l ++ [32] ++ [c] ++ s.data.toList = l ++ 32 :: c :: s.data.toList) := by show _ = _; simp
  unfold PT at *
  clear h hl hs
  go_enter Tryz.func78, Tryz.ntmps78
  go_wp2_with fail
  refine Calls.mono H1.out ?_
  rintro e w1 ⟨rfl, q1, r1⟩
  have Q1 : Hid (Bd B b (l ++ [32]) w1 ∧ Wr B b w w1) := ⟨q1, r1⟩
  clear q1 r1 H1
  go_wp2_with fail
  refine (H2.out _ Q1.out.1).mono ?_
  rintro e w2 ⟨rfl, q2, r2⟩
  have Q2 : Hid (Bd B b (l ++ [32] ++ [c]) w2 ∧ Wr B b w w2) := ⟨q2, Q1.out.2.trans r2⟩
  clear q2 r2 H2 Q1
  go_wp2_with fail
  refine (H3.out _ Q2.out.1).mono ?_
  rintro e w3 ⟨rfl, q3, r3⟩
  have Q3 : Hid (Bd B b (l ++ [32] ++ [c] ++ s.data.toList) w3 ∧ Wr B b w w3) := ⟨q3, Q2.out.2.trans r3⟩
  clear q3 r3 H3 Q2
  go_wp2_with fail
  go_end0
  exact ⟨rfl, by rw [← HL.out]; exact Q3.out.1, Q3.out.2⟩
theorem dig1 : (⟨(Lib.decDigits 1).toArray⟩ : ByteArray) = ⟨#[49]⟩ := by rw [show Lib.decDigits 1 = [49] by rw [Lib.decDigits]; simp]
theorem dig0 : (⟨(Lib.decDigits 0).toArray⟩ : ByteArray) = ⟨#[48]⟩ := by rw [show Lib.decDigits 0 = [48] by rw [Lib.decDigits]; simp]
theorem wnum0_ (b : Nat) (c : Int) (w : World) : Calls Tryz.prog 77 #[PT b, .int .u8 c, .int .i64 0] w fun e w' => e = .returned (.tuple #[]) ∧ w' = w := by
  unfold PT
  go_enter Tryz.func77, Tryz.ntmps77
  go_wp2
  go_end0
  exact ⟨rfl, rfl⟩
theorem wnum1_ {B b : Nat} {l : List UInt8} {w : World} (h : Bd B b l w) (c : UInt8) (hl : l.length ≤ 1000000) :
    Calls Tryz.prog 77 #[PT b, .int .u8 c.toNat, .int .i64 1] w fun e w' => e = .returned (.tuple #[]) ∧ Bd B b (l ++ [32, c, 49]) w' ∧ Wr B b w w' := by
  have H1 : Hid (Calls Tryz.prog 75 #[.int .i64 1, .int .i64 10] w fun e w'' => e = .returned (.string ⟨#[49]⟩) ∧ w'' = w) := (Tryz.strconv_FormatInt_10_small 1 (by omega) w).mono fun e w'' ⟨he, t⟩ => ⟨by rw [he, dig1], t⟩
  have H2 : Hid _ := wpart_ h c ⟨#[49]⟩ (by show l.length + 1 ≤ _; omega) (by decide)
  unfold PT at *
  clear h hl
  go_enter Tryz.func77, Tryz.ntmps77
  go_wp2_with fail
  refine Calls.mono H1.out ?_
  rintro e w1 ⟨rfl, e1⟩
  rw [e1]
  clear e1 w1
  go_wp2_with fail
  refine Calls.mono H2.out ?_
  rintro e w2 ⟨rfl, q2, r2⟩
  have Q2 : Hid _ := And.intro q2 r2
  clear q2 r2
  go_wp2_with fail
  go_end0
  exact ⟨rfl, Q2.out⟩
end Go.Proofs.YtlffleigahfdlaaGreatDoor.Tr
