/- What IndexRune tells of a rune that is no ASCII in the three bytes that end lines; no conditions but those that each states. -/
import Derived.Test.YtlffleigahfdlaaGreatDoorEpg
import Derived.Test.YtlffleigahfdlaaGreatDoorShi
import Derived.Laws.RangeAny
import Derived.WalkMore
import Derived.ScopeJumps
import Derived.Laws.Runes
import Derived.Shelf.Small.Utf8
namespace Go.Proofs.YtlffleigahfdlaaGreatDoor.Tr
open Go.RowKit Go.Shelf Go.Maps Go.ChangeMaps
set_option linter.unusedVariables false
set_option linter.unusedSimpArgs false
def three : ByteArray := ⟨#[10, 13, 37]⟩
theorem b0 {h : 0 < three.size} : (three[0]'h).toNat = 10 := rfl
theorem b1 {h : 1 < three.size} : (three[1]'h).toNat = 13 := rfl
theorem b2 {h : 2 < three.size} : (three[2]'h).toNat = 37 := rfl
theorem titer (w : World) (s : ByteArray) (i : Nat) : Touch [] w (w.iter s i) := (Touch.refl [] w).alloc _
theorem ib_ {l : List UInt8} (hl : l = [37] ∨ l = []) {Y : Nat} (h : 128 ≤ Y) (h2 : Y < 256) : Lib.indexByte l ((Y : Int).toNat.toUInt8) = -1 := by
  have hy : ((Y : Int).toNat.toUInt8).toNat = Y := by simp; omega
  rcases hl with rfl | rfl
  · have : ((37 : UInt8) == (Y : Int).toNat.toUInt8) = false := by
      rw [beq_eq_false_iff_ne]
      intro e
      rw [← e] at hy
      have : (37 : UInt8).toNat = 37 := rfl
      omega
    simp only [Lib.indexByte, this]
    rfl
  · rfl
theorem f167_ (s : ByteArray) (hs : s.data.toList = [37] ∨ s.data.toList = []) {Y : Nat} (h : 128 ≤ Y) (h2 : Y < 256) (w : World) : (callFunc 167 #[.string s, .int .u8 (Y : Int)]).run Tryz.prog w = .ok (.value (.int .i64 (-1))) w := by
  rw [run_callFunc_extern Tryz.func167 (by kernel_rfl) (by kernel_rfl) (by kernel_rfl) (e := Extern.BytealgIndexByte.indexByte) (by kernel_rfl), Lib.run_indexByteString, ib_ hs h h2]
  rfl
set_option maxHeartbeats 4000000 in
set_option maxRecDepth 100000 in
theorem indexRune_hi (x : Int) (h0 : 128 ≤ x) (h1 : x ≤ 2147483647) (w : World) :
    Calls Tryz.prog 160 #[.string three, .int .i32 x] w fun e w' => e = .returned (.int .i64 (-1)) ∧ Touch [] w w' := by
  have hz1 : ¬ (x < 128) := by omega
  have hz0 : 0 ≤ x := by omega
  have hsz : (three.size : Int) = 3 := rfl
  by_cases he : x = 65533
  · subst he
    go_enter Tryz.func160, Tryz.ntmps160
    go_wp2_with fail
    go_loopw [5, 6] (fun _ _ w2 => ∃ i : Nat, i ≤ 3 ∧ w2 = w.iter three i) (fun _ _ w2 => 3 - w2.iterPos w.heap.size)
    case atStart => exact ⟨0, by omega, rfl⟩
    case round =>
      obtain ⟨i, hi, rfl⟩ := hrel
      have hi3 : three.size = 3 := rfl
      rcases (by omega : i = 0 ∨ i = 1 ∨ i = 2 ∨ i = 3) with rfl | rfl | rfl | rfl
      · have hnx := fun ty => run_next_ascii (P := Tryz.prog) w three 0 ty (by rw [hi3]; omega) (by rw [b0]; omega)
        rw [b0] at hnx
        go_wp2_with fail
        go_roundw
        case rel => exact ⟨1, by omega, rfl⟩
        case measure => simp
      · have hnx := fun ty => run_next_ascii (P := Tryz.prog) w three 1 ty (by rw [hi3]; omega) (by rw [b1]; omega)
        rw [b1] at hnx
        go_wp2_with fail
        go_roundw
        case rel => exact ⟨2, by omega, rfl⟩
        case measure => simp
      · have hnx := fun ty => run_next_ascii (P := Tryz.prog) w three 2 ty (by rw [hi3]; omega) (by rw [b2]; omega)
        rw [b2] at hnx
        go_wp2_with fail
        go_roundw
        case rel => exact ⟨3, by omega, rfl⟩
        case measure => simp
      · have hnx := run_next_end (P := Tryz.prog) w three 3
        go_wp2_with fail
        go_ret
        exact ⟨rfl, titer w three 3⟩
  · have hne : (x == 65533) = false := by simpa using he
    go_enter Tryz.func160, Tryz.ntmps160
    go_wp2_with fail
    refine (Any.utf8_ValidRune { Tryz.strings_IndexRune with } x _).mono ?_
    rintro e w1 ⟨rfl, rfl⟩
    cases hv : Lib.validRune x with
    | false =>
      go_wp2_with fail
      go_ret
      exact ⟨rfl, Touch.refl _ _⟩
    | true =>
      have hvv : Utf8.valid x = true := by
        unfold Lib.validRune at hv
        unfold Utf8.valid
        simp at hv ⊢
        omega
      obtain ⟨l2, l4, lb⟩ := encode_facts x hvv h0
      obtain ⟨rs, hrs⟩ : ∃ rs, Utf8.encode x = rs := ⟨_, rfl⟩
      rw [hrs] at l2 l4 lb
      go_wp2_with fail
      go_step3
      go_wp2_with fail
      go_loopw [9] (fun i wr => i = .int .i64 ((rs.size : Int) - 1) ∧ wr = w1) (fun _ _ => 0)
      case atStart => exact ⟨rfl, rfl⟩
      case round =>
        obtain ⟨rfl, rfl⟩ := hrel
        rcases (by omega : rs.size = 2 ∨ rs.size = 3 ∨ rs.size = 4) with e | e | e
        · have e' : (rs.size : Int) = 2 := by omega
          obtain ⟨Y, hY⟩ : ∃ Y : Nat, (rs[1]'(by omega)).toNat = Y := ⟨_, rfl⟩
          have hY1 : 128 ≤ Y := by have := lb (by omega); simp only [e] at this; rw [← hY]; exact this
          have hY2 : Y < 256 := by rw [← hY]; exact UInt8.toNat_lt _
          have hb := b1 (h := by decide)
          have hne' : ((13 : Int) != (Y : Int)) = true := by simp; omega
          have hf := f167_ (three.extract 2 three.size) (Or.inl rfl) hY1 hY2
          go_wp2_with fail
          go_step3
          go_wp2_with fail
          go_quiet (fail)
          go_wp2_with fail
          go_region_calls
          all_goals
            go_wp2_with fail
            rw [Exit.noGoto_ret]
            show bodyPost Tryz.prog Tryz.f160 (fun e w' => e = .returned (.int .i64 (-1)) ∧ Touch [] wr w') Exit.ret _ _
            go_ret
            exact ⟨rfl, (Touch.refl _ _).drewN _⟩
        · have e' : (rs.size : Int) = 3 := by omega
          obtain ⟨Y, hY⟩ : ∃ Y : Nat, (rs[2]'(by omega)).toNat = Y := ⟨_, rfl⟩
          have hY1 : 128 ≤ Y := by have := lb (by omega); simp only [e] at this; rw [← hY]; exact this
          have hY2 : Y < 256 := by rw [← hY]; exact UInt8.toNat_lt _
          have hb := b2 (h := by decide)
          have hne' : ((37 : Int) != (Y : Int)) = true := by simp; omega
          have hf := f167_ (three.extract 3 three.size) (Or.inr rfl) hY1 hY2
          go_wp2_with fail
          go_step3
          go_wp2_with fail
          go_quiet (fail)
          go_wp2_with fail
          go_region_calls
          all_goals
            go_wp2_with fail
            rw [Exit.noGoto_ret]
            show bodyPost Tryz.prog Tryz.f160 (fun e w' => e = .returned (.int .i64 (-1)) ∧ Touch [] wr w') Exit.ret _ _
            go_ret
            exact ⟨rfl, (Touch.refl _ _).drewN _⟩
        · have e' : (rs.size : Int) = 4 := by omega
          go_wp2_with fail
          rw [Exit.noGoto_ret]
          go_ret
          exact ⟨rfl, Touch.refl _ _⟩
end Go.Proofs.YtlffleigahfdlaaGreatDoor.Tr
