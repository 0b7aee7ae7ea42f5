/- The contracts of the program's and the document's taking of a key from bytes; the text's length is within the form's reach. -/
import Derived.Test.YtbaljfkjgfkdiaaDoorByt
namespace Go.Proofs.YtbaljfkjgfkdiaaDoor
open Go.RowKit Go.Sort
set_option linter.unusedVariables false

theorem or16 (p q : Nat) (hp : p ≤ 255) (hq : q ≤ 255) : bits .or .u16 (p : Int) ((q : Int) * 256) = (p : Int) + 256 * (q : Int) := by
  have h1 : (BitVec.ofInt 16 (p : Int)).toNat = p := by
    rw [BitVec.ofInt_natCast, BitVec.toNat_ofNat]; exact Nat.mod_eq_of_lt (by omega)
  have h2 : (BitVec.ofInt 16 ((q : Int) * 256)).toNat = q * 256 := by
    rw [show (q : Int) * 256 = ((q * 256 : Nat) : Int) by omega, BitVec.ofInt_natCast, BitVec.toNat_ofNat]; exact Nat.mod_eq_of_lt (by omega)
  show IntKind.u16.wrap ((BitVec.ofInt 16 (p : Int) ||| BitVec.ofInt 16 ((q : Int) * 256)).toNat : Int) = _
  have h3 : p ||| q * 256 = p + 256 * q := by
    have := Nat.two_pow_add_eq_or_of_lt (i := 8) (b := p) (by omega) q
    rw [Nat.or_comm, Nat.mul_comm q 256, ← this]
    omega
  rw [BitVec.toNat_or, h1, h2, h3, IntKind.wrap_u16]
  omega
theorem Below.drewN {B : Nat} {a w : World} (h : Below B a w) (n : Nat) : Below B a (w.drewN n) := ⟨h.os, h.tape, h.output, h.size, h.block⟩

theorem clone36 (s : ByteArray) (w : World) (hs : s.size ≤ 281474976710656) :
    Calls Tryd.prog 36 #[.string s] w fun e w' => e = .returned (.string s) ∧ Below w.heap.size w w' := by
  have H : Hid _ := hs
  clear hs
  go_enter Tryd.func36, Tryd.ntmps36
  go_wp2_with (go_at_call 45; refine (Tryd.stringslite_Clone s _ H.out).mono ?_; rintro e w1 ⟨rfl, hg⟩)
  go_ret
  exact ⟨rfl, hg⟩

def zeroKey : Value := .agg #[.int .u16 0, .string ⟨#[]⟩]
theorem take18_early (s : ByteArray) (at_ : Int) (w : World) (hs : s.size ≤ 281474976710656) (ha : at_ ≤ 9223372036854775807) (h : at_ < 0 ∨ (s.size : Int) - at_ < 3) :
    Calls Tryd.prog 18 #[.string s, .int .i64 at_] w fun e w' => e = .returned (.tuple #[zeroKey, .int .i64 0, .bool false]) ∧ Below w.heap.size w w' := by
  by_cases h0 : at_ < 0
  · go_enter Tryd.func18, Tryd.ntmps18
    go_wp2
    exact bodyPost_ret (v := .tuple #[zeroKey, .int .i64 0, .bool false]) (by simp [results, Tryd.results18, go_sem, zeroKey]) rfl ⟨rfl, (Below.refl _ _).alloc (Nat.le_refl _) _⟩
  · have h1 : (s.size : Int) - at_ < 3 := by omega
    have h2 : 0 ≤ at_ := by omega
    have hw : IntKind.i64.wrap ((s.size : Int) - at_) = (s.size : Int) - at_ := by rw [IntKind.wrap_i64]; omega
    clear h ha hs
    go_enter Tryd.func18, Tryd.ntmps18
    go_wp2
    exact bodyPost_ret (v := .tuple #[zeroKey, .int .i64 0, .bool false]) (by simp [results, Tryd.results18, go_sem, zeroKey]) rfl ⟨rfl, (Below.refl _ _).alloc (Nat.le_refl _) _⟩
theorem take18_late (s : ByteArray) (k n : Nat) (w : World) (hs : s.size ≤ 281474976710656) (hk : k + 3 ≤ s.size) (hn : s[k + 2].toNat = n) (h : 64 < n ∨ s.size < k + 3 + n) :
    Calls Tryd.prog 18 #[.string s, .int .i64 k] w fun e w' => e = .returned (.tuple #[zeroKey, .int .i64 0, .bool false]) ∧ Below w.heap.size w w' := by
  have k2 : (k : Int) + 2 < (s.size : Int) := by omega
  have k3 : ((k : Int) + 2).toNat = k + 2 := by omega
  have hx : ¬ (s.size : Int) - (k : Int) < 3 := by omega
  have hn0 : (0 : Int) ≤ (n : Int) := by omega
  have hn1 : (n : Int) ≤ 255 := by
    have := s[k + 2].toNat_lt
    omega
  by_cases h0 : 64 < n
  · have h0' : (64 : Int) < (n : Int) := by omega
    go_enter Tryd.func18, Tryd.ntmps18
    go_wp2
    exact bodyPost_ret (v := .tuple #[zeroKey, .int .i64 0, .bool false]) (by simp [results, Tryd.results18, go_sem, zeroKey]) rfl ⟨rfl, (Below.refl _ _).alloc (Nat.le_refl _) _⟩
  · have h0' : ¬ (64 : Int) < (n : Int) := by omega
    have h1' : (s.size : Int) - ((k : Int) + 3) < (n : Int) := by omega
    go_enter Tryd.func18, Tryd.ntmps18
    go_wp2
    exact bodyPost_ret (v := .tuple #[zeroKey, .int .i64 0, .bool false]) (by simp [results, Tryd.results18, go_sem, zeroKey]) rfl ⟨rfl, (Below.refl _ _).alloc (Nat.le_refl _) _⟩

set_option maxHeartbeats 1000000 in
theorem take18_ok (s : ByteArray) (k n : Nat) (w : World) (hs : s.size ≤ 281474976710656) (hk : k + 3 ≤ s.size) (hn : s[k + 2].toNat = n) (p q : Nat) (hp : s[k].toNat = p) (hq : s[k + 1].toNat = q) (h : n ≤ 64) (h' : k + 3 + n ≤ s.size) :
    Calls Tryd.prog 18 #[.string s, .int .i64 k] w fun e w' => e = .returned (.tuple #[.agg #[.int .u16 ((p : Int) + 256 * (q : Int)), .string (s.extract (k + 3) (k + 3 + n))], .int .i64 ((k : Int) + 3 + (n : Int)), .bool true]) ∧ Below w.heap.size w w' := by
  have k0 : (k : Int) < (s.size : Int) := by omega
  have k1 : (k : Int) + 1 < (s.size : Int) := by omega
  have k1' : ((k : Int) + 1).toNat = k + 1 := by omega
  have k2 : (k : Int) + 2 < (s.size : Int) := by omega
  have k3 : ((k : Int) + 2).toNat = k + 2 := by omega
  have hx : ¬ (s.size : Int) - (k : Int) < 3 := by omega
  have hn0 : (0 : Int) ≤ (n : Int) := by omega
  have hn1 : (n : Int) ≤ 255 := by omega
  have h0' : ¬ (64 : Int) < (n : Int) := by omega
  have h1' : ¬ (s.size : Int) - ((k : Int) + 3) < (n : Int) := by omega
  have p1 : p ≤ 255 := by
    have := s[k].toNat_lt
    omega
  have q1 : q ≤ 255 := by
    have := s[k + 1].toNat_lt
    omega
  have wk : IntKind.i64.wrap ((k : Int) + 1) = (k : Int) + 1 := by rw [IntKind.wrap_i64]; omega
  have wp : IntKind.u16.wrap (p : Int) = (p : Int) := by rw [IntKind.wrap_u16]; omega
  have wq : IntKind.u16.wrap (q : Int) = (q : Int) := by rw [IntKind.wrap_u16]; omega
  have hsl : ∀ w, (Instr.slice 9 (.string s) (some (.int .i64 ((k : Int) + 3))) (some (.int .i64 ((k : Int) + 3 + (n : Int)))) none).run Tryd.prog w = .ok (.string (s.extract (k + 3) (k + 3 + n))) w := fun w => by
    rw [run_slice_string w 9 s .i64 .i64 _ _ Tryd.underlying9 (by omega) (by omega) (by omega), show ((k : Int) + 3).toNat = k + 3 by omega, show ((k : Int) + 3 + (n : Int)).toNat = k + 3 + n by omega]
  go_enter Tryd.func18, Tryd.ntmps18
  go_wp2
  go_quiet (fail)
  have hor := or16 p q p1 q1
  go_wp2_with fail
  refine (clone36 _ _ (by have : (s.extract (k + 3) (k + 3 + n)).size ≤ s.size := by rw [ByteArray.size_extract]; omega
                          omega)).mono ?_
  rintro e w1 ⟨rfl, hb⟩
  have c0 : w1.cell? ⟨w.heap.size, 0, none⟩ = some (.int .u16 0) := by rw [hb.cell (by simp)]; simp
  have c1 : w1.cell? ⟨w.heap.size, 1, none⟩ = some (.string ⟨#[]⟩) := by rw [hb.cell (by simp)]; simp
  have f0 : w1.frozen? ⟨w.heap.size, 0, none⟩ = false := by rw [hb.frozen (by simp)]; simp
  have f1 : w1.frozen? ⟨w.heap.size, 1, none⟩ = false := by rw [hb.frozen (by simp)]; simp
  go_wp2
  have B : Below w.heap.size w w1 := (Below.drewN ((Below.refl _ _).alloc (Nat.le_refl _) _) _).trans (hb.mono (by simp))
  exact bodyPost_ret (v := .tuple #[.agg #[.int .u16 ((p : Int) + 256 * (q : Int)), .string (s.extract (k + 3) (k + 3 + n))], .int .i64 ((k : Int) + 3 + (n : Int)), .bool true]) (by simp [results, Tryd.results18, go_sem, c0, c1]) rfl
    ⟨rfl, (B.setCell (Nat.le_refl _) _).setCell (Nat.le_refl _) _⟩

theorem ref19_early (s : ByteArray) (at_ : Int) (w : World) (hs : s.size ≤ 281474976710656) (ha : at_ ≤ 9223372036854775807) (h : at_ < 0 ∨ (s.size : Int) - at_ < 3) :
    Calls Tryd.prog 19 #[.string s, .int .i64 at_] w fun e w' => e = .returned (.tuple #[zeroKey, .int .i64 0, .bool false]) ∧ Below w.heap.size w w' := by
  by_cases h0 : at_ < 0
  · go_enter Tryd.func19, Tryd.ntmps19
    go_wp2
    exact bodyPost_ret (v := .tuple #[zeroKey, .int .i64 0, .bool false]) (by simp [results, Tryd.results19, go_sem, zeroKey]) rfl ⟨rfl, (Below.refl _ _).alloc (Nat.le_refl _) _⟩
  · have h1 : (s.size : Int) - at_ < 3 := by omega
    have h2 : 0 ≤ at_ := by omega
    have hw : IntKind.i64.wrap ((s.size : Int) - at_) = (s.size : Int) - at_ := by rw [IntKind.wrap_i64]; omega
    clear h ha hs
    by_cases h3 : (s.size : Int) < at_
    · go_enter Tryd.func19, Tryd.ntmps19
      go_wp2
      exact bodyPost_ret (v := .tuple #[zeroKey, .int .i64 0, .bool false]) (by simp [results, Tryd.results19, go_sem, zeroKey]) rfl ⟨rfl, (Below.refl _ _).alloc (Nat.le_refl _) _⟩
    · go_enter Tryd.func19, Tryd.ntmps19
      go_wp2
      exact bodyPost_ret (v := .tuple #[zeroKey, .int .i64 0, .bool false]) (by simp [results, Tryd.results19, go_sem, zeroKey]) rfl ⟨rfl, (Below.refl _ _).alloc (Nat.le_refl _) _⟩
theorem ref19_late (s : ByteArray) (k n : Nat) (w : World) (hs : s.size ≤ 281474976710656) (hk : k + 3 ≤ s.size) (hn : s[k + 2].toNat = n) (h : 64 < n ∨ s.size < k + 3 + n) :
    Calls Tryd.prog 19 #[.string s, .int .i64 k] w fun e w' => e = .returned (.tuple #[zeroKey, .int .i64 0, .bool false]) ∧ Below w.heap.size w w' := by
  have k2 : (k : Int) + 2 < (s.size : Int) := by omega
  have k3 : ((k : Int) + 2).toNat = k + 2 := by omega
  have hx : ¬ (s.size : Int) - (k : Int) < 3 := by omega
  have hx' : ¬ (s.size : Int) < (k : Int) := by omega
  have hn0 : (0 : Int) ≤ (n : Int) := by omega
  have hn1 : (n : Int) ≤ 255 := by
    have := s[k + 2].toNat_lt
    omega
  by_cases h0 : 64 < n
  · have h0' : (64 : Int) < (n : Int) := by omega
    go_enter Tryd.func19, Tryd.ntmps19
    go_wp2
    exact bodyPost_ret (v := .tuple #[zeroKey, .int .i64 0, .bool false]) (by simp [results, Tryd.results19, go_sem, zeroKey]) rfl ⟨rfl, (Below.refl _ _).alloc (Nat.le_refl _) _⟩
  · have h0' : ¬ (64 : Int) < (n : Int) := by omega
    have h1' : (s.size : Int) - (k : Int) - 3 < (n : Int) := by omega
    go_enter Tryd.func19, Tryd.ntmps19
    go_wp2
    exact bodyPost_ret (v := .tuple #[zeroKey, .int .i64 0, .bool false]) (by simp [results, Tryd.results19, go_sem, zeroKey]) rfl ⟨rfl, (Below.refl _ _).alloc (Nat.le_refl _) _⟩
end Go.Proofs.YtbaljfkjgfkdiaaDoor
