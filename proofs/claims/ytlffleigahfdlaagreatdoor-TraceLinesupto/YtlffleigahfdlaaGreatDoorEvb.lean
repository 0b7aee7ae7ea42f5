/- What a kind names, in the program's table; the condition is that the table holds what the start lays. -/
import Derived.Test.YtlffleigahfdlaaGreatDoorEva
import Derived.Test.YtlffleigahfdlaaGreatDoorShl
import Derived.Lib.IndexAny
import Derived.Deep.RegionHeld3
namespace Go.Proofs.YtlffleigahfdlaaGreatDoor.Tr
open Go.RowKit Go.Maps Go.ChangeMaps
set_option linter.unusedVariables false
def wdS : Nat → ByteArray
  | 1 => ⟨#[106, 111, 105, 110]⟩ | 2 => ⟨#[98, 101, 103, 105, 110]⟩ | 3 => ⟨#[115, 101, 110, 100]⟩ | 4 => ⟨#[116, 101, 108, 108]⟩ | 5 => ⟨#[101, 110, 100]⟩ | 6 => ⟨#[99, 97, 110, 99, 101, 108]⟩
  | 7 => ⟨#[97, 98, 97, 110, 100, 111, 110]⟩ | 8 => ⟨#[102, 111, 114, 103, 101, 116]⟩ | 9 => ⟨#[107, 101, 101, 112]⟩ | 10 => ⟨#[100, 114, 111, 112]⟩ | 11 => ⟨#[108, 101, 97, 118, 101]⟩ | _ => ⟨#[]⟩
/-- the table in memory -/
structure Tk (w : World) : Prop where
  word : ∀ k, k < 12 → w.cell? ⟨0, k * 2, none⟩ = some (.string (wdS k))
  named : ∀ k, k < 12 → w.cell? ⟨0, k * 2 + 1, none⟩ = some (.string (nmS k))
theorem Tk.touch {w w' : World} (h : Tk w) (t : Touch [] w w') : Tk w' := ⟨fun k hk => tcell t (h.word k hk), fun k hk => tcell t (h.named k hk)⟩
theorem isK_ (n : Int) (w : World) : Calls Tryz.prog 44 #[.int .i64 n] w fun e w' => e = .returned (.bool (isK n)) ∧ w' = w := by
  unfold isK
  by_cases h1 : 1 ≤ n
  · by_cases h2 : n ≤ 11
    · have HD : Hid (decide (1 ≤ n ∧ n ≤ 11) = true) := decide_eq_true ⟨h1, h2⟩
      generalize decide (1 ≤ n ∧ n ≤ 11) = R at *
      go_enter Tryz.func44, Tryz.ntmps44
      go_wp2
      go_ret
      exact ⟨by rw [HD.out]; rfl, rfl⟩
    · have HD : Hid (decide (1 ≤ n ∧ n ≤ 11) = false) := decide_eq_false (fun h => h2 h.2)
      generalize decide (1 ≤ n ∧ n ≤ 11) = R at *
      go_enter Tryz.func44, Tryz.ntmps44
      go_wp2
      go_ret
      exact ⟨by rw [HD.out]; rfl, rfl⟩
  · have HD : Hid (decide (1 ≤ n ∧ n ≤ 11) = false) := decide_eq_false (fun h => h1 h.1)
    generalize decide (1 ≤ n ∧ n ≤ 11) = R at *
    go_enter Tryz.func44, Tryz.ntmps44
    go_wp2
    go_ret
    exact ⟨by rw [HD.out]; rfl, rfl⟩
theorem is_ (n : Int) (w : World) : Calls Tryz.prog 43 #[.int .i64 n] w fun e w' => e = .returned (.bool (atB n)) ∧ w' = w := by
  unfold atB
  by_cases h1 : 0 ≤ n
  · by_cases h2 : n ≤ 4611686018427387904
    · have HD : Hid (decide (0 ≤ n ∧ n ≤ 4611686018427387904) = true) := decide_eq_true ⟨h1, h2⟩
      generalize decide (0 ≤ n ∧ n ≤ 4611686018427387904) = R at *
      go_enter Tryz.func43, Tryz.ntmps43
      go_wp2
      go_ret
      exact ⟨by rw [HD.out]; rfl, rfl⟩
    · have HD : Hid (decide (0 ≤ n ∧ n ≤ 4611686018427387904) = false) := decide_eq_false (fun h => h2 h.2)
      generalize decide (0 ≤ n ∧ n ≤ 4611686018427387904) = R at *
      go_enter Tryz.func43, Tryz.ntmps43
      go_wp2
      go_ret
      exact ⟨by rw [HD.out]; rfl, rfl⟩
  · have HD : Hid (decide (0 ≤ n ∧ n ≤ 4611686018427387904) = false) := decide_eq_false (fun h => h1 h.1)
    generalize decide (0 ≤ n ∧ n ≤ 4611686018427387904) = R at *
    go_enter Tryz.func43, Tryz.ntmps43
    go_wp2
    go_ret
    exact ⟨by rw [HD.out]; rfl, rfl⟩
theorem names_in (k : Nat) (c : Int) (w : World) (hk : Tk w) (h1 : 1 ≤ k) (h2 : k ≤ 11) :
    Calls Tryz.prog 82 #[.int .i64 k, .int .u8 c] w fun e w' => e = .returned (.bool (nmB k c)) ∧ w' = w := by
  have HR : Hid (nmB k c = decide (0 ≤ Lib.indexByte (nmS k).data.toList c.toNat.toUInt8)) := by
    show nmB k c = _
    unfold nmB isK
    rw [decide_eq_true (by omega : (1 : Int) ≤ (k : Int) ∧ (k : Int) ≤ 11), ← Lib.contains_iff_indexByte]
    simp [nmS]
  have HI : Hid (isK k = true) := decide_eq_true (by omega)
  have HC : Hid _ := fun w' => Tryz.strings_IndexByte (nmS k) c w'
  have c1 := hk.named k (by omega)
  have k3 : (k : Int) < 12 := by omega
  have k4 : (0 : Int) ≤ (k : Int) := by omega
  clear hk h1 h2
  generalize nmB k c = R at *
  generalize nmS k = s at *
  generalize hi : Lib.indexByte s.data.toList c.toNat.toUInt8 = i at *
  clear hi
  have HW : Hid (∀ w', Calls Tryz.prog 44 #[.int .i64 k] w' fun e w'' => e = .returned (.bool true) ∧ w'' = w') := fun w' => (isK_ k w').mono fun e w'' ⟨he, h⟩ => ⟨by rw [he, HI.out], h⟩
  clear HI
  go_enter Tryz.func82, Tryz.ntmps82
  go_wp2_with fail
  refine (HW.out _).mono ?_
  rintro e w1 ⟨rfl, e1⟩
  rw [e1]
  clear e1 w1
  go_wp2_with fail
  refine (HC.out _).mono ?_
  rintro e w2 ⟨rfl, e2⟩
  rw [e2]
  clear e2 w2
  go_wp2_with fail
  go_ret
  exact ⟨by rw [HR.out]; rfl, rfl⟩
theorem names_ (k c : Int) (w : World) (hk : Tk w) :
    Calls Tryz.prog 82 #[.int .i64 k, .int .u8 c] w fun e w' => e = .returned (.bool (nmB k c)) ∧ w' = w := by
  by_cases h : 1 ≤ k ∧ k ≤ 11
  · have := names_in k.toNat c w hk (by omega) (by omega)
    rw [show ((k.toNat : Nat) : Int) = k by omega] at this
    exact this
  · have HI : isK k = false := decide_eq_false h
    have HR : Hid (nmB k c = false) := by show nmB k c = false; unfold nmB; rw [HI]; rfl
    have HW : Hid (∀ w', Calls Tryz.prog 44 #[.int .i64 k] w' fun e w'' => e = .returned (.bool false) ∧ w'' = w') := fun w' => (isK_ k w').mono fun e w'' ⟨he, h⟩ => ⟨by rw [he, HI], h⟩
    clear h HI hk
    generalize nmB k c = R at *
    go_enter Tryz.func82, Tryz.ntmps82
    go_wp2_with fail
    refine (HW.out _).mono ?_
    rintro e w1 ⟨rfl, e1⟩
    rw [e1]
    clear e1 w1
    go_wp2_with fail
    go_ret
    exact ⟨by rw [HR.out]; rfl, rfl⟩
end Go.Proofs.YtlffleigahfdlaaGreatDoor.Tr
