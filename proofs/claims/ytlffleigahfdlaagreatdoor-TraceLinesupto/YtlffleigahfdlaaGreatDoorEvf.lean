/- What a kind names, as the document has it; no conditions. -/
import Derived.Test.YtlffleigahfdlaaGreatDoorEvb
namespace Go.Proofs.YtlffleigahfdlaaGreatDoor.Tr
open Go.RowKit Go.Maps Go.ChangeMaps
set_option linter.unusedVariables false
set_option linter.unusedSimpArgs false
def nmD : Nat → ByteArray
  | 1 => ⟨#[99, 110, 107, 104, 114, 111]⟩ | 2 => ⟨#[114, 107, 103, 104]⟩ | 3 => ⟨#[114]⟩ | 4 => ⟨#[99, 110, 114, 107, 111]⟩ | 5 => ⟨#[114, 107, 103, 111]⟩ | 6 => ⟨#[114, 107, 103]⟩ | 7 => ⟨#[114, 107, 103]⟩
  | 8 => ⟨#[99, 107, 103]⟩ | 9 => ⟨#[114, 107, 111]⟩ | 10 => ⟨#[107]⟩ | 11 => ⟨#[99, 110, 114, 107, 111]⟩ | _ => ⟨#[]⟩
def rnm (k : Int) : ByteArray := if isK k then nmD k.toNat else ⟨#[]⟩
theorem rnm_k (k : Nat) (h1 : 1 ≤ k) (h2 : k ≤ 11) : rnm k = nmD k := by
  unfold rnm isK
  rw [decide_eq_true (by omega)]; rfl
theorem rnm_no {k : Int} (h : isK k = false) : rnm k = ⟨#[]⟩ := by unfold rnm; rw [h]; rfl
theorem rnm_size (k : Int) : (rnm k).size ≤ 6 := by
  unfold rnm isK
  by_cases h : 1 ≤ k ∧ k ≤ 11
  · rw [decide_eq_true h]
    obtain ⟨n, rfl⟩ : ∃ n : Nat, k = n := ⟨k.toNat, by omega⟩
    have : n = 1 ∨ n = 2 ∨ n = 3 ∨ n = 4 ∨ n = 5 ∨ n = 6 ∨ n = 7 ∨ n = 8 ∨ n = 9 ∨ n = 10 ∨ n = 11 := by omega
    rcases this with rfl | rfl | rfl | rfl | rfl | rfl | rfl | rfl | rfl | rfl | rfl <;> decide
  · rw [decide_eq_false h]; show (⟨#[]⟩ : ByteArray).size ≤ 6; decide
theorem rnm_nil (k : Int) : ((rnm k).toList = []) = (isK k = false) := by
  by_cases h : 1 ≤ k ∧ k ≤ 11
  · have h' : isK k = true := decide_eq_true h
    obtain ⟨n, rfl⟩ : ∃ n : Nat, k = n := ⟨k.toNat, by omega⟩
    rw [rnm_k n (by omega) (by omega), h']
    have : n = 1 ∨ n = 2 ∨ n = 3 ∨ n = 4 ∨ n = 5 ∨ n = 6 ∨ n = 7 ∨ n = 8 ∨ n = 9 ∨ n = 10 ∨ n = 11 := by omega
    rcases this with rfl | rfl | rfl | rfl | rfl | rfl | rfl | rfl | rfl | rfl | rfl <;> simp [nmD]
  · have h' : isK k = false := decide_eq_false h
    rw [rnm_no h', h']
    simp
theorem rnames_ (k : Int) (w : World) : Calls Tryz.prog 39 #[.int .i64 k] w fun e w' => e = .returned (.string (rnm k)) ∧ w' = w := by
  by_cases h : isK k = true
  · have h0 : 1 ≤ k ∧ k ≤ 11 := of_decide_eq_true h
    obtain ⟨n, rfl⟩ : ∃ n : Nat, k = n := ⟨k.toNat, by omega⟩
    rw [rnm_k n (by omega) (by omega)]
    clear h
    have h1 : n = 1 ∨ n = 2 ∨ n = 3 ∨ n = 4 ∨ n = 5 ∨ n = 6 ∨ n = 7 ∨ n = 8 ∨ n = 9 ∨ n = 10 ∨ n = 11 := by omega
    clear h0
    rcases h1 with rfl | rfl | rfl | rfl | rfl | rfl | rfl | rfl | rfl | rfl | rfl
    · go_enter Tryz.func39, Tryz.ntmps39
      go_wp2
      go_ret
      exact ⟨rfl, rfl⟩
    · go_enter Tryz.func39, Tryz.ntmps39
      go_wp2
      go_ret
      exact ⟨rfl, rfl⟩
    · go_enter Tryz.func39, Tryz.ntmps39
      go_wp2
      go_ret
      exact ⟨rfl, rfl⟩
    · go_enter Tryz.func39, Tryz.ntmps39
      go_wp2
      go_ret
      exact ⟨rfl, rfl⟩
    · go_enter Tryz.func39, Tryz.ntmps39
      go_wp2
      go_ret
      exact ⟨rfl, rfl⟩
    · go_enter Tryz.func39, Tryz.ntmps39
      go_wp2
      go_ret
      exact ⟨rfl, rfl⟩
    · go_enter Tryz.func39, Tryz.ntmps39
      go_wp2
      go_ret
      exact ⟨rfl, rfl⟩
    · go_enter Tryz.func39, Tryz.ntmps39
      go_wp2
      go_ret
      exact ⟨rfl, rfl⟩
    · go_enter Tryz.func39, Tryz.ntmps39
      go_wp2
      go_ret
      exact ⟨rfl, rfl⟩
    · go_enter Tryz.func39, Tryz.ntmps39
      go_wp2
      go_ret
      exact ⟨rfl, rfl⟩
    · go_enter Tryz.func39, Tryz.ntmps39
      go_wp2
      go_ret
      exact ⟨rfl, rfl⟩
  · have h0 : ¬ (1 ≤ k ∧ k ≤ 11) := fun h1 => h (decide_eq_true h1)
    rw [rnm_no (by simpa using h)]
    have b1 : (k == 1) = false := by simp; omega
    have b2 : (k == 2) = false := by simp; omega
    have b3 : (k == 3) = false := by simp; omega
    have b4 : (k == 4) = false := by simp; omega
    have b5 : (k == 5) = false := by simp; omega
    have b6 : (k == 6) = false := by simp; omega
    have b7 : (k == 7) = false := by simp; omega
    have b8 : (k == 8) = false := by simp; omega
    have b9 : (k == 9) = false := by simp; omega
    have b10 : (k == 10) = false := by simp; omega
    have b11 : (k == 11) = false := by simp; omega
    clear h h0
    go_enter Tryz.func39, Tryz.ntmps39
    go_wp2
    go_ret
    exact ⟨rfl, rfl⟩
/-- does a string hold a byte? -/
def hasB (s : ByteArray) (c : Nat) : Bool := s.data.toList.any (fun x => x.toNat == c)
theorem hasB_at {s : ByteArray} {c j : Nat} (hj : j < s.size) (h : s[j].toNat = c) : hasB s c = true := by
  unfold hasB
  rw [List.any_eq_true]
  exact ⟨s[j], by rw [Array.mem_toList_iff]; exact Array.getElem_mem hj, by simp [h]⟩
theorem hasB_no {s : ByteArray} {c : Nat} (h : ∀ j, (hj : j < s.size) → s[j].toNat ≠ c) : hasB s c = false := by
  unfold hasB
  rw [List.any_eq_false]
  intro x hx
  rw [Array.mem_toList_iff] at hx
  obtain ⟨j, hj, e⟩ := Array.getElem_of_mem hx
  have := h j hj
  have e' : s[j] = x := e
  rw [e'] at this
  simpa using this
theorem rnamed_ (k : Int) (c : Nat) (w : World) : Calls Tryz.prog 42 #[.int .i64 k, .int .u8 c] w fun e w' => e = .returned (.bool (hasB (rnm k) c)) ∧ w' = w := by
  have HS : Hid ((rnm k).size ≤ 6) := rnm_size k
  have HC : Hid _ := fun w' => rnames_ k w'
  generalize rnm k = s at *
  have hs : (s.size : Int) ≤ 6 := by have := HS.out; omega
  go_enter Tryz.func42, Tryz.ntmps42
  go_wp2_with fail
  refine (HC.out _).mono ?_
  rintro e w1 ⟨rfl, e1⟩
  rw [e1]
  clear e1 w1
  go_wp2_with fail
  go_loopw [6] (fun i wr => ∃ j : Nat, i = .int .i64 j ∧ j ≤ s.size ∧ Hid (∀ i, (hi : i < s.size) → i < j → s[i].toNat ≠ c) ∧ wr = w) (fun i _ => s.size - (intOf i).toNat)
  case atStart => exact ⟨0, rfl, Nat.zero_le _, fun k _ h => absurd h (Nat.not_lt_zero _), rfl⟩
  case round =>
    obtain ⟨j, rfl, hj, HB, rfl⟩ := hrel
    by_cases hlt : j < s.size
    · have hz : (j : Int) < (s.size : Int) := by omega
      by_cases hb : s[j].toNat = c
      · have HE : Hid (hasB s c = true) := hasB_at hlt hb
        go_wp2_with fail
        go_ret
        exact ⟨by rw [HE.out]; rfl, rfl⟩
      · have HX : Hid (s[j].toNat ≠ c) := hb
        go_wp2_with fail
        go_roundw
        case rel => exact ⟨j + 1, by go_num, by omega, fun i hi h => by rcases (by omega : i < j ∨ i = j) with h' | rfl; exact HB.out i hi h'; exact HX.out, trivial⟩
        case measure => simp [intOf]; omega
    · have hz : ¬ (j : Int) < (s.size : Int) := by omega
      have HE : Hid (hasB s c = false) := hasB_no (fun i hi => HB.out i hi (by omega))
      go_wp2_with fail
      go_ret
      exact ⟨by rw [HE.out]; rfl, rfl⟩
theorem has_nm (k : Int) (c : Nat) (hc : c = 99 ∨ c = 110 ∨ c = 114 ∨ c = 103 ∨ c = 104 ∨ c = 107) : hasB (rnm k) c = nmB k c := by
  unfold nmB
  by_cases h : 1 ≤ k ∧ k ≤ 11
  · have h' : isK k = true := decide_eq_true h
    rw [h']
    obtain ⟨n, rfl⟩ : ∃ n : Nat, k = n := ⟨k.toNat, by omega⟩
    rw [rnm_k n (by omega) (by omega)]
    have : n = 1 ∨ n = 2 ∨ n = 3 ∨ n = 4 ∨ n = 5 ∨ n = 6 ∨ n = 7 ∨ n = 8 ∨ n = 9 ∨ n = 10 ∨ n = 11 := by omega
    rcases this with rfl | rfl | rfl | rfl | rfl | rfl | rfl | rfl | rfl | rfl | rfl <;> rcases hc with rfl | rfl | rfl | rfl | rfl | rfl <;> decide
  · have h' : isK k = false := decide_eq_false h
    rw [rnm_no h', h']; rfl
theorem has_out (k : Int) : hasB (rnm k) 111 = nmB k 118 := by
  unfold nmB
  by_cases h : 1 ≤ k ∧ k ≤ 11
  · have h' : isK k = true := decide_eq_true h
    rw [h']
    obtain ⟨n, rfl⟩ : ∃ n : Nat, k = n := ⟨k.toNat, by omega⟩
    rw [rnm_k n (by omega) (by omega)]
    have : n = 1 ∨ n = 2 ∨ n = 3 ∨ n = 4 ∨ n = 5 ∨ n = 6 ∨ n = 7 ∨ n = 8 ∨ n = 9 ∨ n = 10 ∨ n = 11 := by omega
    rcases this with rfl | rfl | rfl | rfl | rfl | rfl | rfl | rfl | rfl | rfl | rfl <;> decide
  · have h' : isK k = false := decide_eq_false h
    rw [rnm_no h', h']; rfl
end Go.Proofs.YtlffleigahfdlaaGreatDoor.Tr
