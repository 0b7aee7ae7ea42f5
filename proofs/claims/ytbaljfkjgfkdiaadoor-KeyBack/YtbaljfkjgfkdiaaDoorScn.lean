/- How a space is read off a text, in plain words, and the contract of the program's reading; the text's length fits. -/
import Derived.Test.YtbaljfkjgfkdiaaDoorTak
namespace Go.Proofs.YtbaljfkjgfkdiaaDoor
open Go.RowKit Go.Sort
set_option linter.unusedVariables false

def okAt (i n c : Nat) : Bool := decide (48 ≤ c) && decide (c ≤ 57) && !(decide (0 < i) && decide (n = 0)) && decide (n * 10 + (c - 48) ≤ 65535)
def scan : List UInt8 → Nat → Nat → Nat × Nat
  | [], i, n => (n, i)
  | c :: l, i, n => if okAt i n c.toNat then scan l (i + 1) (n * 10 + (c.toNat - 48)) else (n, i)
theorem scan_le : ∀ (l : List UInt8) (i n : Nat), n ≤ 65535 → (scan l i n).1 ≤ 65535 ∧ i ≤ (scan l i n).2 ∧ (scan l i n).2 ≤ i + l.length
  | [], i, n, h => by simp [scan, h]
  | c :: l, i, n, h => by
    unfold scan
    by_cases hk : okAt i n c.toNat = true
    · rw [if_pos hk]
      have h2 : n * 10 + (c.toNat - 48) ≤ 65535 := by
        simp [okAt] at hk
        omega
      have := scan_le l (i + 1) _ h2
      simp only [List.length_cons]
      omega
    · rw [if_neg hk]
      simp [h]
theorem drop_end (s : ByteArray) (k : Nat) (h : ¬ k < s.size) : s.data.toList.drop k = [] := List.drop_of_length_le (by show s.size ≤ k; omega)
theorem scan_go (s : ByteArray) (k n : Nat) (h : k < s.size) (ho : okAt k n s[k].toNat = true) : scan (s.data.toList.drop k) k n = scan (s.data.toList.drop (k + 1)) (k + 1) (n * 10 + (s[k].toNat - 48)) := by
  rw [show s.data.toList.drop k = s[k] :: s.data.toList.drop (k + 1) by rw [List.drop_eq_getElem_cons (by simpa using h)]; rfl]
  conv => lhs; unfold scan
  rw [if_pos ho]
theorem scan_stop (s : ByteArray) (k n : Nat) (h : k < s.size) (ho : okAt k n s[k].toNat = false) : scan (s.data.toList.drop k) k n = (n, k) := by
  rw [show s.data.toList.drop k = s[k] :: s.data.toList.drop (k + 1) by rw [List.drop_eq_getElem_cons (by simpa using h)]; rfl]
  unfold scan
  rw [if_neg (by rw [ho]; simp)]
theorem scan_end (s : ByteArray) (k n : Nat) (h : ¬ k < s.size) : scan (s.data.toList.drop k) k n = (n, k) := by
  rw [drop_end s k h]; rfl

theorem ret2 {k l : IntKind} {a b c d : Int} (h : a = b) (h' : c = d) : Ending.returned (.tuple #[.int k a, .int l c]) = .returned (.tuple #[.int k b, .int l d]) := by rw [h, h']

set_option maxHeartbeats 1000000 in
theorem digits35 (s : ByteArray) (w : World) (hs : s.size ≤ 281474976710656) (N I : Nat) (hN : scan s.data.toList 0 0 = (N, I)) :
    Calls Tryd.prog 35 #[.string s] w fun e w' => e = .returned (.tuple #[.int .u16 N, .int .i64 I]) ∧ w' = w := by
  have HN : Hid _ := hN
  clear hN
  go_enter Tryd.func35, Tryd.ntmps35
  go_wp2
  go_loop [4, 9] (fun v i => ∃ k n : Nat, k ≤ s.size ∧ n ≤ 65535 ∧ i = .int .i64 k ∧ v = .int .i64 n ∧ Hid (scan (s.data.toList.drop k) k n = (N, I))) (fun _ i => s.size - (intOf i).toNat)
  case atStart => exact ⟨0, 0, Nat.zero_le _, by omega, rfl, rfl, HN⟩
  case round =>
    obtain ⟨k, n, hk, hn, rfl, rfl, HS⟩ := hrel
    have wn : IntKind.u16.wrap (n : Int) = (n : Int) := by rw [IntKind.wrap_u16]; omega
    by_cases hlt : k < s.size
    · have hz : (k : Int) < (s.size : Int) := by omega
      obtain ⟨c, hc⟩ : ∃ c : Nat, s[k].toNat = c := ⟨_, rfl⟩
      have hc1 : c < 256 := by rw [← hc]; exact s[k].toNat_lt
      by_cases ho : okAt k n c = true
      · have HG : Hid (scan (s.data.toList.drop (k + 1)) (k + 1) (n * 10 + (c - 48)) = (N, I)) := by
          have := scan_go s k n hlt (by rw [hc]; exact ho)
          rw [hc, HS.out] at this
          exact this.symm
        simp [okAt] at ho
        obtain ⟨⟨⟨o1, o2⟩, o3⟩, o4⟩ := ho
        have p1 : ¬ (c : Int) < 48 := by omega
        have p2 : ¬ (57 : Int) < (c : Int) := by omega
        have p4 : ¬ (65535 : Int) < (n : Int) * 10 + ((c : Int) - 48) := by omega
        have p5 : ((c : Int) - 48) % 256 = (c : Int) - 48 := by omega
        have p6 : (n : Int) * 10 + ((c : Int) - 48) = ((n * 10 + (c - 48) : Nat) : Int) := by omega
        have P6 : Hid _ := p6
        clear p6
        by_cases hk0 : 0 < k
        · have q1 : (0 : Int) < (k : Int) := by omega
          have q2 : ¬ (n : Int) = 0 := by omega
          go_wp2
          go_round
          case rel => exact ⟨k + 1, n * 10 + (c - 48), by omega, o4, by go_num, by rw [← P6.out], HG⟩
          case measure => simp [intOf]; omega
        · have q1 : ¬ (0 : Int) < (k : Int) := by omega
          go_wp2
          go_round
          case rel => exact ⟨k + 1, n * 10 + (c - 48), by omega, o4, by go_num, by rw [← P6.out], HG⟩
          case measure => simp [intOf]; omega
      · have HT : Hid (n = N ∧ k = I) := by
          have := scan_stop s k n hlt (by rw [hc]; simpa using ho)
          rw [HS.out] at this
          simp only [Prod.mk.injEq] at this
          exact ⟨this.1.symm, this.2.symm⟩
        by_cases p1 : c < 48
        · have p1' : (c : Int) < 48 := by omega
          go_wp2
          go_ret2
          exact ⟨ret2 (by have := HT.out.1; omega) (by have := HT.out.2; omega), rfl⟩
        by_cases p2 : 57 < c
        · have p1' : ¬ (c : Int) < 48 := by omega
          have p2' : (57 : Int) < (c : Int) := by omega
          go_wp2
          go_ret2
          exact ⟨ret2 (by have := HT.out.1; omega) (by have := HT.out.2; omega), rfl⟩
        have p1' : ¬ (c : Int) < 48 := by omega
        have p2' : ¬ (57 : Int) < (c : Int) := by omega
        by_cases p3 : 0 < k ∧ n = 0
        · obtain ⟨p3, rfl⟩ := p3
          have q1 : (0 : Int) < (k : Int) := by omega
          go_wp2
          go_ret2
          exact ⟨ret2 (by have := HT.out.1; omega) (by have := HT.out.2; omega), rfl⟩
        have p4 : (65535 : Int) < (n : Int) * 10 + ((c : Int) - 48) := by
          simp [okAt] at ho
          omega
        have p5 : ((c : Int) - 48) % 256 = (c : Int) - 48 := by omega
        by_cases hk0 : 0 < k
        · have q1 : (0 : Int) < (k : Int) := by omega
          have q2 : ¬ (n : Int) = 0 := by omega
          go_wp2
          go_ret2
          exact ⟨ret2 (by have := HT.out.1; omega) (by have := HT.out.2; omega), rfl⟩
        · have q1 : ¬ (0 : Int) < (k : Int) := by omega
          go_wp2
          go_ret2
          exact ⟨ret2 (by have := HT.out.1; omega) (by have := HT.out.2; omega), rfl⟩
    · have HT : Hid (n = N ∧ k = I) := by
        have := scan_end s k n hlt
        rw [HS.out] at this
        simp only [Prod.mk.injEq] at this
        exact ⟨this.1.symm, this.2.symm⟩
      have hz : ¬ (k : Int) < (s.size : Int) := by omega
      have HK : Hid (s.size = k) := by show s.size = k; omega
      go_wp2
      go_ret2
      exact ⟨ret2 (by rw [HT.out.1]) (by rw [HK.out, HT.out.2]), rfl⟩
end Go.Proofs.YtbaljfkjgfkdiaaDoor
