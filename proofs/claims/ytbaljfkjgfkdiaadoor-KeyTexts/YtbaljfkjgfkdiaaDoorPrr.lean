/- The contract of the document's reading of a key's text; the text's length is within the form's reach. -/
import Derived.Test.YtbaljfkjgfkdiaaDoorPrs
namespace Go.Proofs.YtbaljfkjgfkdiaaDoor
open Go.RowKit Go.Sort
set_option linter.unusedVariables false

def isBad (s : ByteArray) (I : Nat) : Prop := I = 0 ∨ I = s.size ∨ ∃ h : I < s.size, s[I].toNat ≠ 58
def isLong (s : ByteArray) (I : Nat) : Prop := I ≠ 0 ∧ (∃ h : I < s.size, s[I].toNat = 58) ∧ 64 < s.size - (I + 1)
def isText (s : ByteArray) (I : Nat) : Prop := I ≠ 0 ∧ (∃ h : I < s.size, s[I].toNat = 58) ∧ s.size - (I + 1) ≤ 64
def refAns (s : ByteArray) (N I : Nat) (v : Value) : Prop := (isBad s I → v = .tuple #[zeroKey, .int .i64 I]) ∧ (isLong s I → v = .tuple #[zeroKey, .int .i64 ((I : Int) + 1 + 64)]) ∧ (isText s I → v = .tuple #[.agg #[.int .u16 N, .string (s.extract (I + 1) s.size)], .int .i64 (-1)])
theorem tup_int {z : Value} {a b : Nat} (h : a = b) : Value.tuple #[z, .int .i64 (a : Int)] = Value.tuple #[z, .int .i64 (b : Int)] := by rw [h]

set_option maxHeartbeats 2000000 in
theorem ref15 (s : ByteArray) (w : World) (hs : s.size ≤ 281474976710656) (N I : Nat) (v : Value) (hN : scan s.data.toList 0 0 = (N, I)) (hv : refAns s N I v) :
    Calls Tryd.prog 15 #[.string s] w fun e w' => e = .returned v ∧ Below w.heap.size w w' := by
  have HN : Hid _ := hN
  have HA : Hid _ := hv
  clear hN hv
  go_enter Tryd.func15, Tryd.ntmps15
  go_wp2
  go_loop [4, 5] (fun t i => ∃ k n : Nat, k ≤ s.size ∧ n ≤ 65535 ∧ i = .int .i64 k ∧ t = .int .i64 n ∧ Hid (scan (s.data.toList.drop k) k n = (N, I))) (fun _ i => s.size - (intOf i).toNat)
  case atStart => exact ⟨0, 0, Nat.zero_le _, by omega, rfl, rfl, HN⟩
  case round =>
    obtain ⟨k, n, hk, hn, rfl, rfl, HS⟩ := hrel
    have wn : IntKind.u16.wrap (n : Int) = (n : Int) := by rw [IntKind.wrap_u16]; omega
    by_cases hlt : k < s.size
    · have hz : (k : Int) < (s.size : Int) := by omega
      obtain ⟨c, hc⟩ : ∃ c : Nat, s[k].toNat = c := ⟨_, rfl⟩
      have hc1 : c < 256 := by rw [← hc]; exact s[k].toNat_lt
      by_cases h58 : c = 58
      · have ho : okAt k n s[k].toNat = false := by rw [hc, h58]; simp [okAt]
        obtain ⟨rfl, rfl⟩ : n = N ∧ k = I := by
          have := scan_stop s k n hlt ho
          rw [HS.out] at this
          simp only [Prod.mk.injEq] at this
          exact ⟨this.1.symm, this.2.symm⟩
        subst h58
        have b1 : ((k : Int) == (s.size : Int)) = false := by simp; omega
        by_cases h0 : k = 0
        · subst h0
          have HV : Hid (v = .tuple #[zeroKey, .int .i64 ((0 : Nat) : Int)]) := HA.out.1 (Or.inl rfl)
          go_wp2
          exact bodyPost_ret (v := .tuple #[zeroKey, .int .i64 0]) (by simp [results, Tryd.results15, go_sem, zeroKey]) rfl ⟨by rw [HV.out]; rfl, (Below.refl _ _).alloc (Nat.le_refl _) _⟩
        · have b0 : ((k : Int) == 0) = false := by simp; omega
          by_cases hl : 64 < s.size - (k + 1)
          · have HV : Hid (v = .tuple #[zeroKey, .int .i64 ((k : Int) + 1 + 64)]) := HA.out.2.1 ⟨h0, ⟨hlt, hc⟩, hl⟩
            have hl' : (64 : Int) < (s.size : Int) - (k : Int) - 1 := by omega
            go_wp2
            exact bodyPost_ret (v := .tuple #[zeroKey, .int .i64 ((k : Int) + 1 + 64)]) (by simp [results, Tryd.results15, go_sem, zeroKey]) rfl ⟨by rw [HV.out], (Below.refl _ _).alloc (Nat.le_refl _) _⟩
          · have HV : Hid (v = .tuple #[.agg #[.int .u16 n, .string (s.extract (k + 1) s.size)], .int .i64 (-1)]) := HA.out.2.2 ⟨h0, ⟨hlt, hc⟩, by omega⟩
            have hl' : ¬ (64 : Int) < (s.size : Int) - (k : Int) - 1 := by omega
            have hsl : ∀ w, (Instr.slice 9 (.string s) (some (.int .i64 ((k : Int) + 1))) none none).run Tryd.prog w = .ok (.string (s.extract (k + 1) s.size)) w := fun w => by
              rw [run_slice_string_l w 9 s Tryd.underlying9 .i64 ((k : Int) + 1) (by omega) (by omega), show ((k : Int) + 1).toNat = k + 1 by omega]
            go_wp2
            exact bodyPost_ret (v := .tuple #[.agg #[.int .u16 n, .string (s.extract (k + 1) s.size)], .int .i64 (-1)]) (by simp [results, Tryd.results15, go_sem]) rfl ⟨by rw [HV.out], (Below.refl _ _).alloc (Nat.le_refl _) _⟩
      · have b58 : ((c : Int) == 58) = false := by simp; omega
        by_cases ho : okAt k n c = true
        · have HG : Hid (scan (s.data.toList.drop (k + 1)) (k + 1) (n * 10 + (c - 48)) = (N, I)) := by
            have := scan_go s k n hlt (by rw [hc]; exact ho)
            rw [hc, HS.out] at this
            exact this.symm
          simp [okAt] at ho
          obtain ⟨⟨⟨o1, o2⟩, o3⟩, o4⟩ := ho
          have p1 : ¬ (c : Int) < 48 := by omega
          have p2 : ¬ (57 : Int) < (c : Int) := by omega
          have p4 : ¬ (65535 : Int) < 10 * (n : Int) + ((c : Int) - 48) := by omega
          have p5 : ((c : Int) - 48) % 256 = (c : Int) - 48 := by omega
          have P6 : Hid (10 * (n : Int) + ((c : Int) - 48) = ((n * 10 + (c - 48) : Nat) : Int)) := by show _ = _; omega
          by_cases hk0 : 0 < k
          · have q1 : (0 : Int) < (k : Int) := by omega
            have q2 : ((n : Int) == 0) = false := by simp; omega
            go_wp2
            go_round
            case rel => exact ⟨k + 1, n * 10 + (c - 48), by omega, o4, by go_num, by rw [← P6.out], HG⟩
            case measure => simp [intOf]; omega
          · have q1 : ¬ (0 : Int) < (k : Int) := by omega
            go_wp2
            go_round
            case rel => exact ⟨k + 1, n * 10 + (c - 48), by omega, o4, by go_num, by rw [← P6.out], HG⟩
            case measure => simp [intOf]; omega
        · have HT : Hid (n = N ∧ k = I) := by
            have := scan_stop s k n hlt (by rw [hc]; simpa using ho)
            rw [HS.out] at this
            simp only [Prod.mk.injEq] at this
            exact ⟨this.1.symm, this.2.symm⟩
          have HV : Hid (v = .tuple #[zeroKey, .int .i64 I]) := HA.out.1 (by rw [← HT.out.2]; exact Or.inr (Or.inr ⟨hlt, by omega⟩))
          by_cases p1 : c < 48
          · have p1' : (c : Int) < 48 := by omega
            go_wp2
            exact bodyPost_ret (v := .tuple #[zeroKey, .int .i64 k]) (by simp [results, Tryd.results15, go_sem, zeroKey]) rfl ⟨by rw [HV.out]; exact congrArg Ending.returned (tup_int HT.out.2), (Below.refl _ _).alloc (Nat.le_refl _) _⟩
          by_cases p2 : 57 < c
          · have p1' : ¬ (c : Int) < 48 := by omega
            have p2' : (57 : Int) < (c : Int) := by omega
            go_wp2
            exact bodyPost_ret (v := .tuple #[zeroKey, .int .i64 k]) (by simp [results, Tryd.results15, go_sem, zeroKey]) rfl ⟨by rw [HV.out]; exact congrArg Ending.returned (tup_int HT.out.2), (Below.refl _ _).alloc (Nat.le_refl _) _⟩
          have p1' : ¬ (c : Int) < 48 := by omega
          have p2' : ¬ (57 : Int) < (c : Int) := by omega
          by_cases p3 : 0 < k ∧ n = 0
          · obtain ⟨p3, rfl⟩ := p3
            have q1 : (0 : Int) < (k : Int) := by omega
            go_wp2
            exact bodyPost_ret (v := .tuple #[zeroKey, .int .i64 k]) (by simp [results, Tryd.results15, go_sem, zeroKey]) rfl ⟨by rw [HV.out]; exact congrArg Ending.returned (tup_int HT.out.2), (Below.refl _ _).alloc (Nat.le_refl _) _⟩
          have p4 : (65535 : Int) < 10 * (n : Int) + ((c : Int) - 48) := by
            simp [okAt] at ho
            omega
          have p5 : ((c : Int) - 48) % 256 = (c : Int) - 48 := by omega
          by_cases hk0 : 0 < k
          · have q1 : (0 : Int) < (k : Int) := by omega
            have q2 : ((n : Int) == 0) = false := by simp; omega
            go_wp2
            exact bodyPost_ret (v := .tuple #[zeroKey, .int .i64 k]) (by simp [results, Tryd.results15, go_sem, zeroKey]) rfl ⟨by rw [HV.out]; exact congrArg Ending.returned (tup_int HT.out.2), (Below.refl _ _).alloc (Nat.le_refl _) _⟩
          · have q1 : ¬ (0 : Int) < (k : Int) := by omega
            go_wp2
            exact bodyPost_ret (v := .tuple #[zeroKey, .int .i64 k]) (by simp [results, Tryd.results15, go_sem, zeroKey]) rfl ⟨by rw [HV.out]; exact congrArg Ending.returned (tup_int HT.out.2), (Below.refl _ _).alloc (Nat.le_refl _) _⟩
    · have HT : Hid (n = N ∧ k = I) := by
        have := scan_end s k n hlt
        rw [HS.out] at this
        simp only [Prod.mk.injEq] at this
        exact ⟨this.1.symm, this.2.symm⟩
      have HV : Hid (v = .tuple #[zeroKey, .int .i64 I]) := HA.out.1 (by rw [← HT.out.2]; exact Or.inr (Or.inl (by omega)))
      have hz : ¬ (k : Int) < (s.size : Int) := by omega
      have b1 : ((k : Int) == (s.size : Int)) = true := by simp; omega
      go_wp2
      exact bodyPost_ret (v := .tuple #[zeroKey, .int .i64 k]) (by simp [results, Tryd.results15, go_sem, zeroKey]) rfl ⟨by rw [HV.out]; exact congrArg Ending.returned (tup_int HT.out.2), (Below.refl _ _).alloc (Nat.le_refl _) _⟩
end Go.Proofs.YtbaljfkjgfkdiaaDoor
