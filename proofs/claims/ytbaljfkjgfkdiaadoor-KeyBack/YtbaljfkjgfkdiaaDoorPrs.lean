/- The contracts of the program's and the document's reading of a key's text; the text's length is within the form's reach. -/
import Derived.Test.YtbaljfkjgfkdiaaDoorScn
namespace Go.Proofs.YtbaljfkjgfkdiaaDoor
open Go.RowKit Go.Sort
set_option linter.unusedVariables false

theorem parse14_bad (s : ByteArray) (w : World) (hs : s.size ≤ 281474976710656) (N I : Nat) (hN : scan s.data.toList 0 0 = (N, I)) (hI : I ≤ s.size) (h : I = 0 ∨ I = s.size ∨ ∃ h : I < s.size, s[I].toNat ≠ 58) :
    Calls Tryd.prog 14 #[.string s] w fun e w' => e = .returned (.tuple #[zeroKey, .int .i64 I, .int .i64 20]) ∧ Below w.heap.size w w' := by
  have D : Hid _ := fun w => digits35 s w hs N I hN
  clear hN
  by_cases h0 : I = 0
  · subst h0
    go_enter Tryd.func14, Tryd.ntmps14
    go_wp2_with fail
    refine (D.out _).mono ?_
    rintro e w1 ⟨rfl, rfl⟩
    go_wp2
    exact bodyPost_ret (v := .tuple #[zeroKey, .int .i64 0, .int .i64 20]) (by simp [results, Tryd.results14, go_sem, zeroKey]) rfl ⟨rfl, (Below.refl _ _).alloc (Nat.le_refl _) _⟩
  · have h0' : ¬ (I : Int) = 0 := by omega
    by_cases h1 : I = s.size
    · subst h1
      have b0 : ((s.size : Int) == 0) = false := by simpa using h0'
      clear h hI
      go_enter Tryd.func14, Tryd.ntmps14
      go_wp2_with fail
      refine (D.out _).mono ?_
      rintro e w1 ⟨rfl, rfl⟩
      go_wp2
      exact bodyPost_ret (v := .tuple #[zeroKey, .int .i64 s.size, .int .i64 20]) (by simp [results, Tryd.results14, go_sem, zeroKey]) rfl ⟨rfl, (Below.refl _ _).alloc (Nat.le_refl _) _⟩
    · have h1' : ¬ (I : Int) = (s.size : Int) := by omega
      have hz : (I : Int) < (s.size : Int) := by omega
      obtain ⟨hlt, hne⟩ : ∃ h : I < s.size, s[I].toNat ≠ 58 := by
        rcases h with h | h | h
        · exact absurd h h0
        · exact absurd h h1
        · exact h
      obtain ⟨c, hc⟩ : ∃ c : Nat, s[I].toNat = c := ⟨_, rfl⟩
      have hne' : ¬ (c : Int) = 58 := by omega
      have b0 : ((I : Int) == 0) = false := by simpa using h0'
      have b1 : ((I : Int) == (s.size : Int)) = false := by simpa using h1'
      have b2 : ((c : Int) == 58) = false := by simpa using hne'
      clear h0' h1' hne'
      clear h
      go_enter Tryd.func14, Tryd.ntmps14
      go_wp2_with fail
      refine (D.out _).mono ?_
      rintro e w1 ⟨rfl, rfl⟩
      go_wp2
      exact bodyPost_ret (v := .tuple #[zeroKey, .int .i64 I, .int .i64 20]) (by simp [results, Tryd.results14, go_sem, zeroKey]) rfl ⟨rfl, (Below.refl _ _).alloc (Nat.le_refl _) _⟩
theorem parse14_long (s : ByteArray) (w : World) (hs : s.size ≤ 281474976710656) (N I : Nat) (hN : scan s.data.toList 0 0 = (N, I)) (h0 : I ≠ 0) (hlt : I < s.size) (h58 : s[I].toNat = 58) (hl : 64 < s.size - (I + 1)) :
    Calls Tryd.prog 14 #[.string s] w fun e w' => e = .returned (.tuple #[zeroKey, .int .i64 ((I : Int) + 1 + 64), .int .i64 20]) ∧ Below w.heap.size w w' := by
  have D : Hid _ := fun w => digits35 s w hs N I hN
  clear hN
  have h0' : ¬ (I : Int) = 0 := by omega
  have h1' : ¬ (I : Int) = (s.size : Int) := by omega
  have hz : (I : Int) < (s.size : Int) := by omega
  have hl' : (64 : Int) < (s.size : Int) - ((I : Int) + 1) := by omega
  have b0 : ((I : Int) == 0) = false := by simpa using h0'
  have b1 : ((I : Int) == (s.size : Int)) = false := by simpa using h1'
  clear h0' h1'
  go_enter Tryd.func14, Tryd.ntmps14
  go_wp2_with fail
  refine (D.out _).mono ?_
  rintro e w1 ⟨rfl, rfl⟩
  go_wp2
  exact bodyPost_ret (v := .tuple #[zeroKey, .int .i64 ((I : Int) + 1 + 64), .int .i64 20]) (by simp [results, Tryd.results14, go_sem, zeroKey]) rfl ⟨rfl, (Below.refl _ _).alloc (Nat.le_refl _) _⟩
set_option maxHeartbeats 1000000 in
theorem parse14_ok (s : ByteArray) (w : World) (hs : s.size ≤ 281474976710656) (N I : Nat) (hN : scan s.data.toList 0 0 = (N, I)) (h0 : I ≠ 0) (hlt : I < s.size) (h58 : s[I].toNat = 58) (hl : s.size - (I + 1) ≤ 64) :
    Calls Tryd.prog 14 #[.string s] w fun e w' => e = .returned (.tuple #[.agg #[.int .u16 N, .string (s.extract (I + 1) s.size)], .int .i64 0, .int .i64 0]) ∧ Below w.heap.size w w' := by
  have D : Hid _ := fun w => digits35 s w hs N I hN
  have C : Hid _ := fun w => clone36 (s.extract (I + 1) s.size) w (by rw [ByteArray.size_extract]; omega)
  clear hN
  have h0' : ¬ (I : Int) = 0 := by omega
  have h1' : ¬ (I : Int) = (s.size : Int) := by omega
  have hz : (I : Int) < (s.size : Int) := by omega
  have hl' : ¬ (64 : Int) < (s.size : Int) - ((I : Int) + 1) := by omega
  have b0 : ((I : Int) == 0) = false := by simpa using h0'
  have b1 : ((I : Int) == (s.size : Int)) = false := by simpa using h1'
  clear h0' h1'
  have hsl : ∀ w, (Instr.slice 9 (.string s) (some (.int .i64 ((I : Int) + 1))) none none).run Tryd.prog w = .ok (.string (s.extract (I + 1) s.size)) w := fun w => by
    rw [run_slice_string_l w 9 s Tryd.underlying9 .i64 ((I : Int) + 1) (by omega) (by omega), show ((I : Int) + 1).toNat = I + 1 by omega]
  go_enter Tryd.func14, Tryd.ntmps14
  go_wp2_with fail
  refine (D.out _).mono ?_
  rintro e w1 ⟨rfl, hw1⟩
  subst hw1
  go_wp2_with fail
  refine (C.out _).mono ?_
  rintro e w2 ⟨rfl, hb⟩
  have c0 : w2.cell? ⟨w.heap.size, 0, none⟩ = some (.int .u16 0) := by rw [hb.cell (by simp)]; simp
  have c1 : w2.cell? ⟨w.heap.size, 1, none⟩ = some (.string ⟨#[]⟩) := by rw [hb.cell (by simp)]; simp
  have f0 : w2.frozen? ⟨w.heap.size, 0, none⟩ = false := by rw [hb.frozen (by simp)]; simp
  have f1 : w2.frozen? ⟨w.heap.size, 1, none⟩ = false := by rw [hb.frozen (by simp)]; simp
  have B : Hid (Below w.heap.size w w2) := ((Below.refl _ _).alloc (Nat.le_refl _) _).trans (hb.mono (by simp))
  clear hb
  go_wp2
  exact bodyPost_ret (v := .tuple #[.agg #[.int .u16 N, .string (s.extract (I + 1) s.size)], .int .i64 0, .int .i64 0]) (by simp [results, Tryd.results14, go_sem, c0, c1]) rfl
    ⟨rfl, (B.out.setCell (Nat.le_refl _) _).setCell (Nat.le_refl _) _⟩
end Go.Proofs.YtbaljfkjgfkdiaaDoor
