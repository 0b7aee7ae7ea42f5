/- What a recipe's steps do, in plain words: shifts and turns of numbers, one step, steps until it waits or ends, a loader by itself; no conditions. -/
import Derived.WalkKit
import Derived.ProofKit
import Derived.Laws.Bits64b
namespace Go.Proofs.YtgjojdlbighoaaaDoor
open Go.RowKit
set_option linter.unusedVariables false

def I64 (n : Int) : Prop := -9223372036854775808 ≤ n ∧ n ≤ 9223372036854775807
theorem wrap_in (z : Int) : I64 (IntKind.i64.wrap z) := by rw [IntKind.wrap_i64]; unfold I64; omega
theorem wrap_id {z : Int} (h : I64 z) : IntKind.i64.wrap z = z := by unfold I64 at h; rw [IntKind.wrap_i64]; omega
theorem wrap_dbl (x : Int) : IntKind.i64.wrap (IntKind.i64.wrap x * 2) = IntKind.i64.wrap (x * 2) := by
  rw [IntKind.wrap_i64, IntKind.wrap_i64, IntKind.wrap_i64]; omega
/-- a number shifted: to the left, or to the right with its sign -/
def shl (n : Int) (k : Nat) : Int := IntKind.i64.wrap (n * 2 ^ k)
def shr (n : Int) (k : Nat) : Int := n / 2 ^ k
def shiftI (n a : Int) : Int := if a < 0 then shr n (-a).toNat else shl n a.toNat
theorem shl_zero {n : Int} (h : I64 n) : shl n 0 = n := by unfold shl; rw [Int.pow_zero, Int.mul_one, wrap_id h]
theorem shl_succ (n : Int) (k : Nat) : IntKind.i64.wrap (shl n k * 2) = shl n (k + 1) := by
  unfold shl
  rw [wrap_dbl, Int.pow_succ, Int.mul_assoc]
theorem shr_zero (n : Int) : shr n 0 = n := by unfold shr; rw [Int.pow_zero, Int.ediv_one]
theorem shr_succ (n : Int) (k : Nat) : shr n k / 2 = shr n (k + 1) := by
  unfold shr
  rw [Int.pow_succ, Int.ediv_ediv_of_nonneg (Int.le_of_lt (Int.pow_pos (by decide)))]
theorem shr_in {n : Int} (h : I64 n) (k : Nat) : I64 (shr n k) := by
  induction k with
  | zero => rw [shr_zero]; exact h
  | succ k ih => rw [← shr_succ]; unfold I64 at *; omega
theorem shl_in (n : Int) (k : Nat) : I64 (shl n k) := wrap_in _
theorem shiftI_in {n : Int} (h : I64 n) (a : Int) : I64 (shiftI n a) := by unfold shiftI; split; exact shr_in h _; exact shl_in _ _
theorem half_neg {n : Int} (h : n < 0) (h2 : n.tmod 2 ≠ 0) : (n - 1).tdiv 2 = n / 2 := by
  have e : n.tmod 2 = -((-n) % 2) := by rw [← Int.neg_neg n, Int.neg_tmod, Int.neg_neg, Int.tmod_eq_emod_of_nonneg (by omega)]
  have e2 : (n - 1).tdiv 2 = -((-(n - 1)) / 2) := by rw [← Int.neg_neg (n - 1), Int.neg_tdiv, Int.neg_neg, Int.tdiv_eq_ediv_of_nonneg (by omega)]
  rw [e2]; rw [e] at h2; omega
theorem half_even {n : Int} (h2 : n.tmod 2 = 0) : n.tdiv 2 = n / 2 := by
  have := Int.tdiv_eq_ediv_of_dvd (Int.dvd_of_tmod_eq_zero h2)
  exact this
theorem half_pos {n : Int} (h : 0 ≤ n) : n.tdiv 2 = n / 2 := Int.tdiv_eq_ediv_of_nonneg h
/-- a number's bits turned to the left -/
def rot (x s : Nat) : Nat := x % 2 ^ (64 - s) * 2 ^ s + x / 2 ^ (64 - s)
theorem rot_zero {x : Nat} (h : x < 18446744073709551616) : rot x 0 = x := by
  unfold rot
  rw [show (2 : Nat) ^ (64 - 0) = 18446744073709551616 from rfl, Nat.mod_eq_of_lt h, Nat.div_eq_of_lt h]; omega
theorem rot_parts (P Q x : Nat) (hP : 0 < P) (hQ : 0 < Q) (hPQ : P * Q = 9223372036854775808) (hx : x < 18446744073709551616) :
    (x % (2 * P) * Q + x / (2 * P)) * 2 % 18446744073709551616 + (x % (2 * P) * Q + x / (2 * P)) / 9223372036854775808 = x % P * (2 * Q) + x / P ∧ x % (2 * P) * Q + x / (2 * P) < 18446744073709551616 := by
  obtain ⟨q, hq⟩ : ∃ q, q = x / (2 * P) := ⟨_, rfl⟩
  obtain ⟨r, hr⟩ : ∃ r, r = x % P := ⟨_, rfl⟩
  obtain ⟨t, ht⟩ : ∃ t, t = x / P % 2 := ⟨_, rfl⟩
  have e1 : x / P = 2 * q + t := by
    have : x / (2 * P) = x / P / 2 := by rw [Nat.mul_comm, Nat.div_div_eq_div_mul]
    rw [hq, this, ht]; omega
  have e2 : x % (2 * P) = t * P + r := by
    have h1 := Nat.mod_mul (x := x) (a := P) (b := 2)
    rw [Nat.mul_comm 2 P, h1, ← hr, ← ht, Nat.mul_comm P t, Nat.add_comm]
  have hr2 : r < P := by rw [hr]; exact Nat.mod_lt _ hP
  have hqQ : q < Q := by
    rw [hq]
    apply Nat.div_lt_of_lt_mul
    have : 2 * P * Q = 18446744073709551616 := by rw [Nat.mul_assoc, hPQ]
    omega
  have hrQ : r * Q + q < 9223372036854775808 := by
    have : (r + 1) * Q ≤ P * Q := Nat.mul_le_mul_right Q hr2
    rw [Nat.add_mul, Nat.one_mul, hPQ] at this
    omega
  have hr4 : r * (2 * Q) = 2 * (r * Q) := by rw [Nat.mul_left_comm]
  have htP : (t * P + r) * Q = t * 9223372036854775808 + r * Q := by rw [Nat.add_mul, Nat.mul_assoc, hPQ]
  have ht2 : t < 2 := by rw [ht]; exact Nat.mod_lt _ (by decide)
  rw [e1, e2, ← hq, ← hr, htP, hr4]
  generalize r * Q = A at *
  omega
theorem rot_succ (x s : Nat) (hx : x < 18446744073709551616) (hs : s < 63) : rot x s * 2 % 18446744073709551616 + rot x s / 9223372036854775808 = rot x (s + 1) ∧ rot x s < 18446744073709551616 := by
  have h := rot_parts (2 ^ (64 - (s + 1))) (2 ^ s) x (Nat.two_pow_pos _) (Nat.two_pow_pos _) (by rw [← Nat.pow_add, show 64 - (s + 1) + s = 63 by omega]) hx
  unfold rot
  rw [show 64 - s = 64 - (s + 1) + 1 by omega, Nat.pow_succ 2 (64 - (s + 1)), Nat.mul_comm (2 ^ (64 - (s + 1))) 2, Nat.pow_succ 2 s, Nat.mul_comm (2 ^ s) 2]
  exact h
theorem rot_lt (x s : Nat) (hx : x < 18446744073709551616) (hs : s ≤ 63) : rot x s < 18446744073709551616 := by
  by_cases h : s < 63
  · exact (rot_succ x s hx h).2
  · obtain rfl : s = 63 := by omega
    have h1 : rot x 63 = x % 2 * 9223372036854775808 + x / 2 := rfl
    rw [h1]; omega
/-- the library's way to turn -/
theorem rot_or (x s : Nat) (hx : x < 18446744073709551616) (hs : s ≤ 63) : (x * 2 ^ s % 18446744073709551616) ||| (x / 2 ^ (64 - s)) = rot x s := by
  have hlt : x / 2 ^ (64 - s) < 2 ^ s := by
    apply Nat.div_lt_of_lt_mul
    rw [← Nat.pow_add, show 64 - s + s = 64 by omega]; exact hx
  have e : x * 2 ^ s % 18446744073709551616 = (x % 2 ^ (64 - s)) <<< s := by
    rw [Nat.shiftLeft_eq, show (18446744073709551616 : Nat) = 2 ^ (64 - s) * 2 ^ s by rw [← Nat.pow_add, show 64 - s + s = 64 by omega], Nat.mul_mod_mul_right]
  rw [e, ← Nat.shiftLeft_add_eq_or_of_lt hlt, Nat.shiftLeft_eq]
  rfl
def turnI (n a : Int) : Int := IntKind.i64.wrap ((rot (n % 18446744073709551616).toNat a.toNat : Nat) : Int)
theorem turnI_in (n a : Int) : I64 (turnI n a) := wrap_in _
def skipI (a n : Int) (c : Bool) : Bool := if a = 0 then n == 0 else if a = 1 then decide (n < 0) else if a = 2 then n % 2 == 1 else c

abbrev Sp := Int × Int × Int
/-- what a step comes to: a state (the place, the number, whether it waits, on what), or an end (the value, or kind, code and run) -/
inductive Rs where
  | go (p : Nat) (n wt on : Int)
  | fin (v k c r : Int)
def stepO (h r : Int) (c : Bool) (L : List Sp) (p : Nat) (n op a b : Int) : Rs :=
    if op = 1 then .go (p + 1) (IntKind.i64.wrap (n + a)) 0 0
    else if op = 2 then .go (p + 1) (shiftI n a) 0 0
    else if op = 3 then .go (p + 1) (bits .xor .i64 n h) 0 0
    else if op = 4 then .go (p + 1) (IntKind.i64.wrap (n + r)) 0 0
    else if op = 5 then .go (p + 1) (turnI n a) 0 0
    else if op = 6 then .go (p + 1) n 1 a
    else if op = 7 then .go (p + 1) n 2 a
    else if op = 8 then (if c = true then .fin 0 5 0 r else .go (p + 1) n 0 0)
    else if op = 9 then (if skipI a n c = true then .go (min (p + 1 + b.toNat) L.length) n 0 0 else .go (p + 1) n 0 0)
    else if op = 10 then .fin n 0 0 0
    else if op = 11 then .fin 0 1 a r
    else .fin 0 2 a r
theorem stepO_1 {h r : Int} {c : Bool} {L : List Sp} {p : Nat} {n a b : Int} : stepO h r c L p n 1 a b = (.go (p + 1) (IntKind.i64.wrap (n + a)) 0 0) := by
  unfold stepO; rw [if_pos rfl]
theorem stepO_2 {h r : Int} {c : Bool} {L : List Sp} {p : Nat} {n a b : Int} : stepO h r c L p n 2 a b = (.go (p + 1) (shiftI n a) 0 0) := by
  unfold stepO; rw [if_neg (by decide), if_pos rfl]
theorem stepO_3 {h r : Int} {c : Bool} {L : List Sp} {p : Nat} {n a b : Int} : stepO h r c L p n 3 a b = (.go (p + 1) (bits .xor .i64 n h) 0 0) := by
  unfold stepO; rw [if_neg (by decide), if_neg (by decide), if_pos rfl]
theorem stepO_4 {h r : Int} {c : Bool} {L : List Sp} {p : Nat} {n a b : Int} : stepO h r c L p n 4 a b = (.go (p + 1) (IntKind.i64.wrap (n + r)) 0 0) := by
  unfold stepO; rw [if_neg (by decide), if_neg (by decide), if_neg (by decide), if_pos rfl]
theorem stepO_5 {h r : Int} {c : Bool} {L : List Sp} {p : Nat} {n a b : Int} : stepO h r c L p n 5 a b = (.go (p + 1) (turnI n a) 0 0) := by
  unfold stepO; rw [if_neg (by decide), if_neg (by decide), if_neg (by decide), if_neg (by decide), if_pos rfl]
theorem stepO_6 {h r : Int} {c : Bool} {L : List Sp} {p : Nat} {n a b : Int} : stepO h r c L p n 6 a b = (.go (p + 1) n 1 a) := by
  unfold stepO; rw [if_neg (by decide), if_neg (by decide), if_neg (by decide), if_neg (by decide), if_neg (by decide), if_pos rfl]
theorem stepO_7 {h r : Int} {c : Bool} {L : List Sp} {p : Nat} {n a b : Int} : stepO h r c L p n 7 a b = (.go (p + 1) n 2 a) := by
  unfold stepO; rw [if_neg (by decide), if_neg (by decide), if_neg (by decide), if_neg (by decide), if_neg (by decide), if_neg (by decide), if_pos rfl]
theorem stepO_8 {h r : Int} {c : Bool} {L : List Sp} {p : Nat} {n a b : Int} : stepO h r c L p n 8 a b = (if c = true then .fin 0 5 0 r else .go (p + 1) n 0 0) := by
  unfold stepO; rw [if_neg (by decide), if_neg (by decide), if_neg (by decide), if_neg (by decide), if_neg (by decide), if_neg (by decide), if_neg (by decide), if_pos rfl]
theorem stepO_9 {h r : Int} {c : Bool} {L : List Sp} {p : Nat} {n a b : Int} : stepO h r c L p n 9 a b = (if skipI a n c = true then .go (min (p + 1 + b.toNat) L.length) n 0 0 else .go (p + 1) n 0 0) := by
  unfold stepO; rw [if_neg (by decide), if_neg (by decide), if_neg (by decide), if_neg (by decide), if_neg (by decide), if_neg (by decide), if_neg (by decide), if_neg (by decide), if_pos rfl]
theorem stepO_10 {h r : Int} {c : Bool} {L : List Sp} {p : Nat} {n a b : Int} : stepO h r c L p n 10 a b = (.fin n 0 0 0) := by
  unfold stepO; rw [if_neg (by decide), if_neg (by decide), if_neg (by decide), if_neg (by decide), if_neg (by decide), if_neg (by decide), if_neg (by decide), if_neg (by decide), if_neg (by decide), if_pos rfl]
theorem stepO_11 {h r : Int} {c : Bool} {L : List Sp} {p : Nat} {n a b : Int} : stepO h r c L p n 11 a b = (.fin 0 1 a r) := by
  unfold stepO; rw [if_neg (by decide), if_neg (by decide), if_neg (by decide), if_neg (by decide), if_neg (by decide), if_neg (by decide), if_neg (by decide), if_neg (by decide), if_neg (by decide), if_neg (by decide), if_pos rfl]
theorem stepO_12 {h r : Int} {c : Bool} {L : List Sp} {p : Nat} {n a b : Int} : stepO h r c L p n 12 a b = (.fin 0 2 a r) := by
  unfold stepO; rw [if_neg (by decide), if_neg (by decide), if_neg (by decide), if_neg (by decide), if_neg (by decide), if_neg (by decide), if_neg (by decide), if_neg (by decide), if_neg (by decide), if_neg (by decide), if_neg (by decide)]
def stepS (h r : Int) (c : Bool) (L : List Sp) (p : Nat) (n : Int) : Rs :=
  match L[p]? with
  | none => .fin n 0 0 0
  | some x => stepO h r c L p n x.1 x.2.1 x.2.2
theorem stepS_at {h r : Int} {c : Bool} {L : List Sp} {p : Nat} {n op a b : Int} (hg : L[p]? = some (op, a, b)) : stepS h r c L p n = stepO h r c L p n op a b := by
  unfold stepS; rw [hg]
theorem stepS_end {h r : Int} {c : Bool} {L : List Sp} {p : Nat} {n : Int} (hg : L.length ≤ p) : stepS h r c L p n = .fin n 0 0 0 := by
  unfold stepS; rw [List.getElem?_eq_none hg]
/-- may a step be? -/
def may3 (op a b : Int) : Prop :=
  (op = 1 ∧ b = 0) ∨ (op = 2 ∧ -63 ≤ a ∧ a ≤ 63 ∧ b = 0) ∨ (op = 3 ∧ a = 0 ∧ b = 0) ∨ (op = 4 ∧ a = 0 ∧ b = 0)
  ∨ (op = 5 ∧ 0 ≤ a ∧ a ≤ 63 ∧ b = 0) ∨ (op = 6 ∧ 0 ≤ a ∧ a ≤ 255 ∧ b = 0) ∨ (op = 7 ∧ 0 ≤ a ∧ a ≤ 4611686018427387904 ∧ b = 0)
  ∨ (op = 8 ∧ a = 0 ∧ b = 0) ∨ (op = 9 ∧ 0 ≤ a ∧ a ≤ 3 ∧ 1 ≤ b ∧ b ≤ 256) ∨ (op = 10 ∧ a = 0 ∧ b = 0) ∨ (op = 11 ∧ b = 0) ∨ (op = 12 ∧ b = 0)
def may (x : Sp) : Prop := may3 x.1 x.2.1 x.2.2
/-- a recipe that may be -/
def Good (L : List Sp) : Prop := L.length ≤ 256 ∧ ∀ x ∈ L, may x
def WfS (L : List Sp) : Prop := ∀ x ∈ L, I64 x.1 ∧ I64 x.2.1 ∧ I64 x.2.2
theorem step_go {h r : Int} {c : Bool} {L : List Sp} {p : Nat} {n : Int} {p' : Nat} {m wt on : Int} (hL : Good L) (hw : WfS L) (hn : I64 n) (e : stepS h r c L p n = .go p' m wt on) (hx : I64 (bits .xor .i64 n h)) :
    p < p' ∧ p' ≤ L.length ∧ I64 m ∧ (wt = 0 ∨ wt = 1 ∨ wt = 2) ∧ (wt = 2 → 0 ≤ on ∧ on ≤ 4611686018427387904) ∧ I64 on ∧ (wt = 0 → on = 0) := by
  unfold stepS at e
  cases hg : L[p]? with
  | none => rw [hg] at e; cases e
  | some x =>
    obtain ⟨op, a, b⟩ := x
    have hm : (op, a, b) ∈ L := List.mem_of_getElem? hg
    have hp : p < L.length := by
      rcases Nat.lt_or_ge p L.length with h1 | h1
      · exact h1
      · rw [List.getElem?_eq_none h1] at hg; cases hg
    have hmay : may3 op a b := hL.2 _ hm
    obtain ⟨_, wa, wb⟩ : I64 op ∧ I64 a ∧ I64 b := hw _ hm
    have i0 : I64 0 := by unfold I64; omega
    rw [hg] at e
    replace e : stepO h r c L p n op a b = _ := e
    unfold may3 at hmay
    rcases hmay with ⟨rfl, _⟩ | ⟨rfl, h1, h2, _⟩ | ⟨rfl, _⟩ | ⟨rfl, _⟩ | ⟨rfl, h1, h2, _⟩ | ⟨rfl, h1, h2, _⟩ | ⟨rfl, h1, h2, _⟩ | ⟨rfl, _⟩ | ⟨rfl, h1, h2, h3, h4⟩ | ⟨rfl, _⟩ | ⟨rfl, _⟩ | ⟨rfl, _⟩
    · rw [stepO_1] at e
      obtain ⟨rfl, rfl, rfl, rfl⟩ := Rs.go.inj e
      exact ⟨by omega, by omega, wrap_in _, Or.inl rfl, (fun h => by cases h), i0, fun _ => rfl⟩
    · rw [stepO_2] at e
      obtain ⟨rfl, rfl, rfl, rfl⟩ := Rs.go.inj e
      exact ⟨by omega, by omega, shiftI_in hn _, Or.inl rfl, (fun h => by cases h), i0, fun _ => rfl⟩
    · rw [stepO_3] at e
      obtain ⟨rfl, rfl, rfl, rfl⟩ := Rs.go.inj e
      exact ⟨by omega, by omega, hx, Or.inl rfl, (fun h => by cases h), i0, fun _ => rfl⟩
    · rw [stepO_4] at e
      obtain ⟨rfl, rfl, rfl, rfl⟩ := Rs.go.inj e
      exact ⟨by omega, by omega, wrap_in _, Or.inl rfl, (fun h => by cases h), i0, fun _ => rfl⟩
    · rw [stepO_5] at e
      obtain ⟨rfl, rfl, rfl, rfl⟩ := Rs.go.inj e
      exact ⟨by omega, by omega, turnI_in _ _, Or.inl rfl, (fun h => by cases h), i0, fun _ => rfl⟩
    · rw [stepO_6] at e
      obtain ⟨rfl, rfl, rfl, rfl⟩ := Rs.go.inj e
      exact ⟨by omega, by omega, hn, Or.inr (Or.inl rfl), (fun h => by cases h), wa, (fun h => by cases h)⟩
    · rw [stepO_7] at e
      obtain ⟨rfl, rfl, rfl, rfl⟩ := Rs.go.inj e
      exact ⟨by omega, by omega, hn, Or.inr (Or.inr rfl), fun _ => ⟨h1, h2⟩, wa, (fun h => by cases h)⟩
    · rw [stepO_8] at e
      split at e
      · cases e
      · obtain ⟨rfl, rfl, rfl, rfl⟩ := Rs.go.inj e
        exact ⟨by omega, by omega, hn, Or.inl rfl, (fun h => by cases h), i0, fun _ => rfl⟩
    · rw [stepO_9] at e
      split at e
      · obtain ⟨rfl, rfl, rfl, rfl⟩ := Rs.go.inj e
        exact ⟨by omega, by omega, hn, Or.inl rfl, (fun h => by cases h), i0, fun _ => rfl⟩
      · obtain ⟨rfl, rfl, rfl, rfl⟩ := Rs.go.inj e
        exact ⟨by omega, by omega, hn, Or.inl rfl, (fun h => by cases h), i0, fun _ => rfl⟩
    · rw [stepO_10] at e; cases e
    · rw [stepO_11] at e; cases e
    · rw [stepO_12] at e; cases e
/-- steps until it waits or ends -/
inductive On (f : Nat → Int → Rs) : Nat → Int → Rs → Prop
  | fin {p n v k c r} : f p n = .fin v k c r → On f p n (.fin v k c r)
  | wait {p n q m wt on} : f p n = .go q m wt on → wt ≠ 0 → On f p n (.go q m wt on)
  | step {p n q m on R} : f p n = .go q m 0 on → On f q m R → On f p n R
theorem On.eq {f : Nat → Int → Rs} {p : Nat} {n : Int} {R R' : Rs} (h : On f p n R) (h' : On f p n R') : R = R' := by
  induction h with
  | fin e =>
    cases h' with
    | fin e' => rw [e] at e'; exact e'
    | wait e' _ => rw [e] at e'; cases e'
    | step e' _ => rw [e] at e'; cases e'
  | wait e hn =>
    cases h' with
    | fin e' => rw [e] at e'; cases e'
    | wait e' _ => rw [e] at e'; exact e'
    | step e' _ => rw [e] at e'; cases e'; exact absurd rfl hn
  | step e _ ih =>
    cases h' with
    | fin e' => rw [e] at e'; cases e'
    | wait e' hn => rw [e] at e'; cases e'; exact absurd rfl hn
    | step e' k' => rw [e] at e'; cases e'; exact ih k'
def capS (s on : Int) : Int := s + min on (4611686018427387904 - s)
/-- a loader by itself: what it ends with, and how long it slept -/
inductive Al (f : Nat → Int → Rs) : Nat → Int → Int → Int × Int × Int × Int × Int → Prop
  | fin {p n s v k c r} : On f p n (.fin v k c r) → Al f p n s (v, k, c, r, s)
  | go {p n s q m wt on R} : On f p n (.go q m wt on) → Al f q m (if wt = 2 then capS s on else s) R → Al f p n s R
theorem Al.eq {f : Nat → Int → Rs} {p : Nat} {n s : Int} {R R' : Int × Int × Int × Int × Int} (h : Al f p n s R) (h' : Al f p n s R') : R = R' := by
  induction h with
  | fin e =>
    cases h' with
    | fin e' => have := e.eq e'; cases this; rfl
    | go e' _ => have := e.eq e'; cases this
  | go e _ ih =>
    cases h' with
    | fin e' => have := e.eq e'; cases this
    | go e' k' => have := e.eq e'; cases this; exact ih k'
/-- a recipe that asks neither for its run nor for its token -/
def Free (L : List Sp) : Prop := ∀ x ∈ L, x.1 ≠ 4 ∧ x.1 ≠ 8 ∧ x.1 ≠ 11 ∧ x.1 ≠ 12 ∧ ¬ (x.1 = 9 ∧ x.2.1 = 3)
theorem step_free {L : List Sp} (hL : Good L) (hF : Free L) (h r r' : Int) (c c' : Bool) : stepS h r c L = stepS h r' c' L := by
  funext p n
  unfold stepS
  cases hg : L[p]? with
  | none => rfl
  | some x =>
    obtain ⟨op, a, b⟩ := x
    have hm : (op, a, b) ∈ L := List.mem_of_getElem? hg
    have h1 : may3 op a b := hL.2 _ hm
    have h2 : op ≠ 4 ∧ op ≠ 8 ∧ op ≠ 11 ∧ op ≠ 12 ∧ ¬ (op = 9 ∧ a = 3) := hF _ hm
    unfold may3 at h1
    show stepO h r c L p n op a b = stepO h r' c' L p n op a b
    by_cases h9 : op = 9
    · subst h9
      have : skipI a n c = skipI a n c' := by
        unfold skipI
        rcases (by omega : a = 0 ∨ a = 1 ∨ a = 2) with rfl | rfl | rfl <;> simp
      rw [stepO_9, stepO_9, this]
    · have : op = 1 ∨ op = 2 ∨ op = 3 ∨ op = 5 ∨ op = 6 ∨ op = 7 ∨ op = 10 := by omega
      rcases this with rfl | rfl | rfl | rfl | rfl | rfl | rfl
      · rw [stepO_1, stepO_1]
      · rw [stepO_2, stepO_2]
      · rw [stepO_3, stepO_3]
      · rw [stepO_5, stepO_5]
      · rw [stepO_6, stepO_6]
      · rw [stepO_7, stepO_7]
      · rw [stepO_10, stepO_10]
end Go.Proofs.YtgjojdlbighoaaaDoor
