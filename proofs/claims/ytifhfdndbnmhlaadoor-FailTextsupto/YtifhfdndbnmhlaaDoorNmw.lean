/- The walk of the document's number that a text is; the condition is that the text is not too long. -/
import Derived.Test.YtifhfdndbnmhlaaDoorNmb
namespace Go.Proofs.YtifhfdndbnmhlaaDoor
open Go.RowKit Go.Sort
set_option linter.unusedVariables false
theorem wrap_i64_in (z : Int) : I64 (IntKind.i64.wrap z) := by rw [IntKind.wrap_i64]; unfold I64; omega
theorem beqB (a b : ByteArray) : (a.toList == b.toList) = true ↔ a = b := by
  rw [beq_iff_eq, ByteArray.toList_eq, ByteArray.toList_eq]
  exact ⟨fun h => ByteArray.ext (Array.toList_inj.1 h), fun h => by rw [h]⟩
/-- what the document's number tells -/
def NumOf (s : ByteArray) (n : Int) (b : Bool) : Prop := I64 n ∧ (b = true → itoaB n = s) ∧ ((∃ m, I64 m ∧ itoaB m = s) → b = true)
def RetN (s : ByteArray) (e : Ending) : Prop := ∃ n b, e = .returned (.tuple #[.int .i64 n, .bool b]) ∧ NumOf s n b
theorem numOf_end (s : ByteArray) (nf : Int) (hi : I64 nf) (hm : ∀ m, I64 m → itoaB m = s → nf = m) : NumOf s nf ((itoaB nf).toList == s.toList) :=
  ⟨hi, fun h => (beqB _ _).1 h, fun ⟨m, h1, h2⟩ => (beqB _ _).2 (by rw [hm m h1 h2]; exact h2)⟩
set_option maxRecDepth 20000 in
set_option maxHeartbeats 2000000 in
theorem number33 (s : ByteArray) (w : World) (hs : s.size ≤ 4194304) : Calls Tryd.prog 33 #[.string s] w fun e w' => RetN s e ∧ Gr w w' := by
  have mixed := mixed
  go_enter Tryd.func33, Tryd.ntmps33
  go_wp2
  go_loopw [4, 5] (fun t i wr => ∃ (n : Int) (p : Nat), t = .int .i64 n ∧ i = .int .i64 p ∧ p ≤ s.size ∧ Hid (I64 n) ∧ Hid (Acc s p n) ∧ wr = w) (fun _ i _ => s.size - (intOf i).toNat)
  case atStart => exact ⟨0, 0, rfl, rfl, Nat.zero_le _, by show I64 0; unfold I64; omega, fun m hm h => rfl, rfl⟩
  case round =>
    obtain ⟨n, p, rfl, rfl, hp, HI, HA, rfl⟩ := hrel
    by_cases hlt : p < s.size
    · have hz : (p : Int) < (s.size : Int) := by omega
      have hz0 : (0 : Int) ≤ (p : Int) := by omega
      by_cases hm : (s[p].toNat : Int) = 45
      · by_cases hp0 : p = 0
        · subst hp0
          have HA1 : Hid (Acc s 1 n) := acc_minus s n hlt HA.out hm
          go_wp2
          go_roundw
          case rel => exact ⟨n, 1, rfl, rfl, by omega, HI.out, HA1.out, by first | rfl | trivial⟩
          case measure => simp [intOf]; omega
        · have hp1 : ¬ (p : Int) = 0 := by omega
          have h48 : (s[p].toNat : Int) < 48 := by omega
          have HB : Hid (∀ m : Int, I64 m → itoaB m ≠ s) := acc_bad s p hlt (Or.inl h48) (fun h => hp0 h.2)
          go_wp2
          go_ret2
          exact ⟨⟨0, false, rfl, by unfold I64; omega, by simp, fun ⟨m, h1, h2⟩ => absurd h2 (HB.out m h1)⟩, Gr.refl _⟩
      · by_cases h48 : (s[p].toNat : Int) < 48
        · have HB : Hid (∀ m : Int, I64 m → itoaB m ≠ s) := acc_bad s p hlt (Or.inl h48) (fun h => hm h.1)
          go_wp2
          go_ret2
          exact ⟨⟨0, false, rfl, by unfold I64; omega, by simp, fun ⟨m, h1, h2⟩ => absurd h2 (HB.out m h1)⟩, Gr.refl _⟩
        · by_cases h57 : 57 < (s[p].toNat : Int)
          · have HB : Hid (∀ m : Int, I64 m → itoaB m ≠ s) := acc_bad s p hlt (Or.inr h57) (fun h => hm h.1)
            go_wp2
            go_ret2
            exact ⟨⟨0, false, rfl, by unfold I64; omega, by simp, fun ⟨m, h1, h2⟩ => absurd h2 (HB.out m h1)⟩, Gr.refl _⟩
          · obtain ⟨n1, hn1⟩ : ∃ n1, IntKind.i64.wrap (n * 10) = n1 := ⟨_, rfl⟩
            obtain ⟨n2, hn2⟩ : ∃ n2, IntKind.i64.wrap (n1 - ((s[p].toNat : Int) - 48)) = n2 := ⟨_, rfl⟩
            have HA2 : Hid (Acc s (p + 1) n2) := acc_dig s p n n1 n2 hlt HA.out hn1 hn2 (by omega) (by omega)
            have HI2 : Hid (I64 n2) := by show I64 n2; rw [← hn2]; exact wrap_i64_in _
            have hw : ((s[p].toNat : Int) - 48) % 256 = (s[p].toNat : Int) - 48 := by omega
            have hw2 : IntKind.u8.wrap ((s[p].toNat : Int) - 48) = (s[p].toNat : Int) - 48 := by rw [IntKind.wrap_u8]; omega
            have hw3 : IntKind.i64.wrap ((s[p].toNat : Int) - 48) = (s[p].toNat : Int) - 48 := by rw [IntKind.wrap_i64]; omega
            go_wp2
            go_roundw
            case rel => exact ⟨n2, p + 1, rfl, by go_num, by omega, HI2.out, HA2.out, by first | rfl | trivial⟩
            case measure => simp [intOf]; omega
    · have hz : ¬ (p : Int) < (s.size : Int) := by omega
      obtain rfl : p = s.size := by omega
      by_cases h0 : 0 < s.size
      · have h0z : (0 : Int) < (s.size : Int) := by omega
        by_cases h45 : (s[0].toNat : Int) = 45
        · have HF : Hid (I64 n) := HI.out
          have HE : Hid (NumOf s n ((itoaB n).toList == s.toList)) := numOf_end s n HI.out fun m h1 h2 => by
            obtain ⟨_, a, _⟩ := acc_end s n HA.out m h1 h2
            exact a h45
          have hw : IntKind.i64.wrap n = n := by have := HI.out.1; have := HI.out.2; rw [IntKind.wrap_i64]; omega
          go_wp2_with (go_at_call 36; refine (num36 n _ HF.out).mono ?_; rintro e w1 ⟨rfl, hg⟩)
          go_ret2
          exact ⟨⟨n, _, rfl, HE.out⟩, hg⟩
        · obtain ⟨n3, hn3⟩ : ∃ n3, IntKind.i64.wrap (-n) = n3 := ⟨_, rfl⟩
          have HF : Hid (I64 n3) := by show I64 n3; rw [← hn3]; exact wrap_i64_in _
          have HE : Hid (NumOf s n3 ((itoaB n3).toList == s.toList)) := numOf_end s n3 HF.out fun m h1 h2 => by
            obtain ⟨_, _, a⟩ := acc_end s n HA.out m h1 h2
            rw [← hn3]
            exact a h45
          have hw : IntKind.i64.wrap n3 = n3 := by have := HF.out.1; have := HF.out.2; rw [IntKind.wrap_i64]; omega
          have h45' : ((s[0].toNat : Int) == 45) = false := by simpa using h45
          go_wp2_with (go_at_call 36; refine (num36 n3 _ HF.out).mono ?_; rintro e w1 ⟨rfl, hg⟩)
          go_ret2
          exact ⟨⟨n3, _, rfl, HE.out⟩, hg⟩
      · have h0z : ¬ (0 : Int) < (s.size : Int) := by omega
        have HF : Hid (I64 n) := HI.out
        have HE : Hid (NumOf s n ((itoaB n).toList == s.toList)) := numOf_end s n HI.out fun m h1 h2 => by
          obtain ⟨a, _⟩ := acc_end s n HA.out m h1 h2
          exact absurd a h0
        have hw : IntKind.i64.wrap n = n := by have := HI.out.1; have := HI.out.2; rw [IntKind.wrap_i64]; omega
        go_wp2_with (go_at_call 36; refine (num36 n _ HF.out).mono ?_; rintro e w1 ⟨rfl, hg⟩)
        go_ret2
        exact ⟨⟨n, _, rfl, HE.out⟩, hg⟩
end Go.Proofs.YtifhfdndbnmhlaaDoor
