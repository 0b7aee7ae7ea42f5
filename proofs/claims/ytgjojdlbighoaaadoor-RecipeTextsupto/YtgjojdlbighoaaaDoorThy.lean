/- What a recipe's steps do, in plain words: shifts and turns of numbers, one step, steps until it waits or ends, a loader by itself; no conditions. -/
import Derived.WalkKit
import Derived.ProofKit
import Derived.Laws.Bits64b
namespace Go.Proofs.YtgjojdlbighoaaaDoor
open Go.RowKit
set_option linter.unusedVariables false

def I64 (n : Int) : Prop := -9223372036854775808 ≤ n ∧ n ≤ 9223372036854775807
theorem wrap_in (z : Int) : I64 (IntKind.i64.wrap z) := by rw [IntKind.wrap_i64]; unfold I64; omega
theorem wrap_id {z : Int} (h : I64 z) : IntKind.i64.wrap z = z := by unfold I64 at h; rw [IntKind.wrap_i64]; omega
theorem wrap_dbl (x : Int) : IntKind.i64.wrap (IntKind.i64.wrap x * 2) = IntKind.i64.wrap (x * 2) := by
  rw [IntKind.wrap_i64, IntKind.wrap_i64, IntKind.wrap_i64]; omega
/-- a number shifted: to the left, or to the right with its sign -/
def shl (n : Int) (k : Nat) : Int := IntKind.i64.wrap (n * 2 ^ k)
def shr (n : Int) (k : Nat) : Int := n / 2 ^ k
def shiftI (n a : Int) : Int := if a < 0 then shr n (-a).toNat else shl n a.toNat
theorem shl_zero {n : Int} (h : I64 n) : shl n 0 = n := by unfold shl; rw [Int.pow_zero, Int.mul_one, wrap_id h]
theorem shl_succ (n : Int) (k : Nat) : IntKind.i64.wrap (shl n k * 2) = shl n (k + 1) := by
  unfold shl
  rw [wrap_dbl, Int.pow_succ, Int.mul_assoc]
theorem shr_zero (n : Int) : shr n 0 = n := by unfold shr; rw [Int.pow_zero, Int.ediv_one]
theorem shr_succ (n : Int) (k : Nat) : shr n k / 2 = shr n (k + 1) := by
  unfold shr
  rw [Int.pow_succ, Int.ediv_ediv_of_nonneg (Int.le_of_lt (Int.pow_pos (by decide)))]
theorem shr_in {n : Int} (h : I64 n) (k : Nat) : I64 (shr n k) := by
  induction k with
  | zero => rw [shr_zero]; exact h
  | succ k ih => rw [← shr_succ]; unfold I64 at *; omega
theorem shl_in (n : Int) (k : Nat) : I64 (shl n k) := wrap_in _
theorem shiftI_in {n : Int} (h : I64 n) (a : Int) : I64 (shiftI n a) := by unfold shiftI; split; exact shr_in h _; exact shl_in _ _
theorem half_neg {n : Int} (h : n < 0) (h2 : n.tmod 2 ≠ 0) : (n - 1).tdiv 2 = n / 2 := by
  have e : n.tmod 2 = -((-n) % 2) := by rw [← Int.neg_neg n, Int.neg_tmod, Int.neg_neg, Int.tmod_eq_emod_of_nonneg (by omega)]
  have e2 : (n - 1).tdiv 2 = -((-(n - 1)) / 2) := by rw [← Int.neg_neg (n - 1), Int.neg_tdiv, Int.neg_neg, Int.tdiv_eq_ediv_of_nonneg (by omega)]
  rw [e2]; rw [e] at h2; omega
theorem half_even {n : Int} (h2 : n.tmod 2 = 0) : n.tdiv 2 = n / 2 := by
  have := Int.tdiv_eq_ediv_of_dvd (Int.dvd_of_tmod_eq_zero h2)
  exact this
theorem half_pos {n : Int} (h : 0 ≤ n) : n.tdiv 2 = n / 2 := Int.tdiv_eq_ediv_of_nonneg h
/-- a number's bits turned to the left -/
def rot (x s : Nat) : Nat := x % 2 ^ (64 - s) * 2 ^ s + x / 2 ^ (64 - s)
theorem rot_zero {x : Nat} (h : x < 18446744073709551616) : rot x 0 = x := by
  unfold rot
  rw [show (2 : Nat) ^ (64 - 0) = 18446744073709551616 from rfl, Nat.mod_eq_of_lt h, Nat.div_eq_of_lt h]; omega
theorem rot_parts (P Q x : Nat) (hP : 0 < P) (hQ : 0 < Q) (hPQ : P * Q = 9223372036854775808) (hx : x < 18446744073709551616) :
    (x % (2 * P) * Q + x / (2 * P)) * 2 % 18446744073709551616 + (x % (2 * P) * Q + x / (2 * P)) / 9223372036854775808 = x % P * (2 * Q) + x / P ∧ x % (2 * P) * Q + x / (2 * P) < 18446744073709551616 := by
  obtain ⟨q, hq⟩ : ∃ q, q = x / (2 * P) := ⟨_, rfl⟩
  obtain ⟨r, hr⟩ : ∃ r, r = x % P := ⟨_, rfl⟩
  obtain ⟨t, ht⟩ : ∃ t, t = x / P % 2 := ⟨_, rfl⟩
  have e1 : x / P = 2 * q + t := by
    have : x / (2 * P) = x / P / 2 := by rw [Nat.mul_comm, Nat.div_div_eq_div_mul]
    rw [hq, this, ht]; omega
  have e2 : x % (2 * P) = t * P + r := by
    have h1 := Nat.mod_mul (x := x) (a := P) (b := 2)
    rw [Nat.mul_comm 2 P, h1, ← hr, ← ht, Nat.mul_comm P t, Nat.add_comm]
  have hr2 : r < P := by rw [hr]; exact Nat.mod_lt _ hP
  have hqQ : q < Q := by
    rw [hq]
    apply Nat.div_lt_of_lt_mul
    have : 2 * P * Q = 18446744073709551616 := by rw [Nat.mul_assoc, hPQ]
    omega
  have hrQ : r * Q + q < 9223372036854775808 := by
    have : (r + 1) * Q ≤ P * Q := Nat.mul_le_mul_right Q hr2
    rw [Nat.add_mul, Nat.one_mul, hPQ] at this
    omega
  have hr4 : r * (2 * Q) = 2 * (r * Q) := by rw [Nat.mul_left_comm]
  have htP : (t * P + r) * Q = t * 9223372036854775808 + r * Q := by rw [Nat.add_mul, Nat.mul_assoc, hPQ]
  have ht2 : t < 2 := by rw [ht]; exact Nat.mod_lt _ (by decide)
  rw [e1, e2, ← hq, ← hr, htP, hr4]
  generalize r * Q = A at *
  omega
theorem rot_succ (x s : Nat) (hx : x < 18446744073709551616) (hs : s < 63) : rot x s * 2 % 18446744073709551616 + rot x s / 9223372036854775808 = rot x (s + 1) ∧ rot x s < 18446744073709551616 := by
  have h := rot_parts (2 ^ (64 - (s + 1))) (2 ^ s) x (Nat.two_pow_pos _) (Nat.two_pow_pos _) (by rw [← Nat.pow_add, show 64 - (s + 1) + s = 63 by omega]) hx
  unfold rot
  rw [show 64 - s = 64 - (s + 1) + 1 by omega, Nat.pow_succ 2 (64 - (s + 1)), Nat.mul_comm (2 ^ (64 - (s + 1))) 2, Nat.pow_succ 2 s, Nat.mul_comm (2 ^ s) 2]
  exact h
theorem rot_lt (x s : Nat) (hx : x < 18446744073709551616) (hs : s ≤ 63) : rot x s < 18446744073709551616 := by
  by_cases h : s < 63
  · exact (rot_succ x s hx h).2
  · obtain rfl : s = 63 := by omega
    have h1 : rot x 63 = x % 2 * 9223372036854775808 + x / 2 := rfl
    rw [h1]; omega
/-- the library's way to turn -/
theorem rot_or (x s : Nat) (hx : x < 18446744073709551616) (hs : s ≤ 63) : (x * 2 ^ s % 18446744073709551616) ||| (x / 2 ^ (64 - s)) = rot x s := by
  have hlt : x / 2 ^ (64 - s) < 2 ^ s := by
    apply Nat.div_lt_of_lt_mul
    rw [← Nat.pow_add, show 64 - s + s = 64 by omega]; exact hx
  have e : x * 2 ^ s % 18446744073709551616 = (x % 2 ^ (64 - s)) <<< s := by
    rw [Nat.shiftLeft_eq, show (18446744073709551616 : Nat) = 2 ^ (64 - s) * 2 ^ s by rw [← Nat.pow_add, show 64 - s + s = 64 by omega], Nat.mul_mod_mul_right]
  rw [e, ← Nat.shiftLeft_add_eq_or_of_lt hlt, Nat.shiftLeft_eq]
  rfl
def turnI (n a : Int) : Int := IntKind.i64.wrap ((rot (n % 18446744073709551616).toNat a.toNat : Nat) : Int)
theorem turnI_in (n a : Int) : I64 (turnI n a) := wrap_in _
def skipI (a n : Int) (c : Bool) : Bool := if a = 0 then n == 0 else if a = 1 then decide (n < 0) else if a = 2 then n % 2 == 1 else c

abbrev Sp := Int × Int × Int
/-- what a step comes to: a state (the place, the number, whether it waits, on what), or an end (the value, or kind, code and run) -/
abbrev Rs := (Nat × Int × Int × Int) ⊕ (Int × Int × Int × Int)
abbrev Rs.go (p : Nat) (n wt on : Int) : Rs := .inl (p, n, wt, on)
abbrev Rs.fin (v k c r : Int) : Rs := .inr (v, k, c, r)
theorem Rs.go_inj {p q : Nat} {n m wt wt' on on' : Int} (h : Rs.go p n wt on = Rs.go q m wt' on') : p = q ∧ n = m ∧ wt = wt' ∧ on = on' := by
  have := Sum.inl.inj h
  simp only [Prod.mk.injEq] at this
  exact this
theorem Rs.fin_inj {v k c r v' k' c' r' : Int} (h : Rs.fin v k c r = Rs.fin v' k' c' r') : v = v' ∧ k = k' ∧ c = c' ∧ r = r' := by
  have := Sum.inr.inj h
  simp only [Prod.mk.injEq] at this
  exact this
theorem Rs.no {p : Nat} {n wt on v k c r : Int} {C : Prop} (h : Rs.go p n wt on = Rs.fin v k c r) : C := by cases h
theorem Rs.no' {p : Nat} {n wt on v k c r : Int} {C : Prop} (h : Rs.fin v k c r = Rs.go p n wt on) : C := by cases h
def stepO (h r : Int) (c : Bool) (L : List Sp) (p : Nat) (n op a b : Int) : Rs :=
    if op = 1 then .go (p + 1) (IntKind.i64.wrap (n + a)) 0 0
    else if op = 2 then .go (p + 1) (shiftI n a) 0 0
    else if op = 3 then .go (p + 1) (bits .xor .i64 n h) 0 0
    else if op = 4 then .go (p + 1) (IntKind.i64.wrap (n + r)) 0 0
    else if op = 5 then .go (p + 1) (turnI n a) 0 0
    else if op = 6 then .go (p + 1) n 1 a
    else if op = 7 then .go (p + 1) n 2 a
    else if op = 8 then (if c = true then .fin 0 5 0 r else .go (p + 1) n 0 0)
    else if op = 9 then (if skipI a n c = true then .go (min (p + 1 + b.toNat) L.length) n 0 0 else .go (p + 1) n 0 0)
    else if op = 10 then .fin n 0 0 0
    else if op = 11 then .fin 0 1 a r
    else .fin 0 2 a r
theorem stepO_1 {h r : Int} {c : Bool} {L : List Sp} {p : Nat} {n a b : Int} : stepO h r c L p n 1 a b = (.go (p + 1) (IntKind.i64.wrap (n + a)) 0 0) := by
  unfold stepO; rw [if_pos rfl]
theorem stepO_2 {h r : Int} {c : Bool} {L : List Sp} {p : Nat} {n a b : Int} : stepO h r c L p n 2 a b = (.go (p + 1) (shiftI n a) 0 0) := by
  unfold stepO; rw [if_neg (by decide), if_pos rfl]
theorem stepO_3 {h r : Int} {c : Bool} {L : List Sp} {p : Nat} {n a b : Int} : stepO h r c L p n 3 a b = (.go (p + 1) (bits .xor .i64 n h) 0 0) := by
  unfold stepO; rw [if_neg (by decide), if_neg (by decide), if_pos rfl]
theorem stepO_4 {h r : Int} {c : Bool} {L : List Sp} {p : Nat} {n a b : Int} : stepO h r c L p n 4 a b = (.go (p + 1) (IntKind.i64.wrap (n + r)) 0 0) := by
  unfold stepO; rw [if_neg (by decide), if_neg (by decide), if_neg (by decide), if_pos rfl]
theorem stepO_5 {h r : Int} {c : Bool} {L : List Sp} {p : Nat} {n a b : Int} : stepO h r c L p n 5 a b = (.go (p + 1) (turnI n a) 0 0) := by
  unfold stepO; rw [if_neg (by decide), if_neg (by decide), if_neg (by decide), if_neg (by decide), if_pos rfl]
theorem stepO_6 {h r : Int} {c : Bool} {L : List Sp} {p : Nat} {n a b : Int} : stepO h r c L p n 6 a b = (.go (p + 1) n 1 a) := by
  unfold stepO; rw [if_neg (by decide), if_neg (by decide), if_neg (by decide), if_neg (by decide), if_neg (by decide), if_pos rfl]
theorem stepO_7 {h r : Int} {c : Bool} {L : List Sp} {p : Nat} {n a b : Int} : stepO h r c L p n 7 a b = (.go (p + 1) n 2 a) := by
  unfold stepO; rw [if_neg (by decide), if_neg (by decide), if_neg (by decide), if_neg (by decide), if_neg (by decide), if_neg (by decide), if_pos rfl]
theorem stepO_8 {h r : Int} {c : Bool} {L : List Sp} {p : Nat} {n a b : Int} : stepO h r c L p n 8 a b = (if c = true then .fin 0 5 0 r else .go (p + 1) n 0 0) := by
  unfold stepO; rw [if_neg (by decide), if_neg (by decide), if_neg (by decide), if_neg (by decide), if_neg (by decide), if_neg (by decide), if_neg (by decide), if_pos rfl]
theorem stepO_9 {h r : Int} {c : Bool} {L : List Sp} {p : Nat} {n a b : Int} : stepO h r c L p n 9 a b = (if skipI a n c = true then .go (min (p + 1 + b.toNat) L.length) n 0 0 else .go (p + 1) n 0 0) := by
  unfold stepO; rw [if_neg (by decide), if_neg (by decide), if_neg (by decide), if_neg (by decide), if_neg (by decide), if_neg (by decide), if_neg (by decide), if_neg (by decide), if_pos rfl]
theorem stepO_10 {h r : Int} {c : Bool} {L : List Sp} {p : Nat} {n a b : Int} : stepO h r c L p n 10 a b = (.fin n 0 0 0) := by
  unfold stepO; rw [if_neg (by decide), if_neg (by decide), if_neg (by decide), if_neg (by decide), if_neg (by decide), if_neg (by decide), if_neg (by decide), if_neg (by decide), if_neg (by decide), if_pos rfl]
theorem stepO_11 {h r : Int} {c : Bool} {L : List Sp} {p : Nat} {n a b : Int} : stepO h r c L p n 11 a b = (.fin 0 1 a r) := by
  unfold stepO; rw [if_neg (by decide), if_neg (by decide), if_neg (by decide), if_neg (by decide), if_neg (by decide), if_neg (by decide), if_neg (by decide), if_neg (by decide), if_neg (by decide), if_neg (by decide), if_pos rfl]
theorem stepO_12 {h r : Int} {c : Bool} {L : List Sp} {p : Nat} {n a b : Int} : stepO h r c L p n 12 a b = (.fin 0 2 a r) := by
  unfold stepO; rw [if_neg (by decide), if_neg (by decide), if_neg (by decide), if_neg (by decide), if_neg (by decide), if_neg (by decide), if_neg (by decide), if_neg (by decide), if_neg (by decide), if_neg (by decide), if_neg (by decide)]
def stepS (h r : Int) (c : Bool) (L : List Sp) (p : Nat) (n : Int) : Rs :=
  match L[p]? with
  | none => .fin n 0 0 0
  | some x => stepO h r c L p n x.1 x.2.1 x.2.2
theorem stepS_at {h r : Int} {c : Bool} {L : List Sp} {p : Nat} {n op a b : Int} (hg : L[p]? = some (op, a, b)) : stepS h r c L p n = stepO h r c L p n op a b := by
  unfold stepS; rw [hg]
theorem stepS_end {h r : Int} {c : Bool} {L : List Sp} {p : Nat} {n : Int} (hg : L.length ≤ p) : stepS h r c L p n = .fin n 0 0 0 := by
  unfold stepS; rw [List.getElem?_eq_none hg]
/-- may a step be? -/
def may3 (op a b : Int) : Prop :=
  (op = 1 ∧ b = 0) ∨ (op = 2 ∧ -63 ≤ a ∧ a ≤ 63 ∧ b = 0) ∨ (op = 3 ∧ a = 0 ∧ b = 0) ∨ (op = 4 ∧ a = 0 ∧ b = 0)
  ∨ (op = 5 ∧ 0 ≤ a ∧ a ≤ 63 ∧ b = 0) ∨ (op = 6 ∧ 0 ≤ a ∧ a ≤ 255 ∧ b = 0) ∨ (op = 7 ∧ 0 ≤ a ∧ a ≤ 4611686018427387904 ∧ b = 0)
  ∨ (op = 8 ∧ a = 0 ∧ b = 0) ∨ (op = 9 ∧ 0 ≤ a ∧ a ≤ 3 ∧ 1 ≤ b ∧ b ≤ 256) ∨ (op = 10 ∧ a = 0 ∧ b = 0) ∨ (op = 11 ∧ b = 0) ∨ (op = 12 ∧ b = 0)
def may (x : Sp) : Prop := may3 x.1 x.2.1 x.2.2
/-- a recipe that may be -/
def Good (L : List Sp) : Prop := L.length ≤ 256 ∧ ∀ x ∈ L, may x
def WfS (L : List Sp) : Prop := ∀ x ∈ L, I64 x.1 ∧ I64 x.2.1 ∧ I64 x.2.2
theorem step_go {h r : Int} {c : Bool} {L : List Sp} {p : Nat} {n : Int} {p' : Nat} {m wt on : Int} (hL : Good L) (hw : WfS L) (hn : I64 n) (e : stepS h r c L p n = .go p' m wt on) (hx : I64 (bits .xor .i64 n h)) :
    p < p' ∧ p' ≤ L.length ∧ I64 m ∧ (wt = 0 ∨ wt = 1 ∨ wt = 2) ∧ (wt = 2 → 0 ≤ on ∧ on ≤ 4611686018427387904) ∧ I64 on ∧ (wt = 0 → on = 0) := by
  unfold stepS at e
  cases hg : L[p]? with
  | none => rw [hg] at e; exact Rs.no' e
  | some x =>
    obtain ⟨op, a, b⟩ := x
    have hm : (op, a, b) ∈ L := List.mem_of_getElem? hg
    have hp : p < L.length := by
      rcases Nat.lt_or_ge p L.length with h1 | h1
      · exact h1
      · rw [List.getElem?_eq_none h1] at hg; cases hg
    have hmay : may3 op a b := hL.2 _ hm
    obtain ⟨_, wa, wb⟩ : I64 op ∧ I64 a ∧ I64 b := hw _ hm
    have i0 : I64 0 := by unfold I64; omega
    rw [hg] at e
    replace e : stepO h r c L p n op a b = _ := e
    unfold may3 at hmay
    rcases hmay with ⟨rfl, _⟩ | ⟨rfl, h1, h2, _⟩ | ⟨rfl, _⟩ | ⟨rfl, _⟩ | ⟨rfl, h1, h2, _⟩ | ⟨rfl, h1, h2, _⟩ | ⟨rfl, h1, h2, _⟩ | ⟨rfl, _⟩ | ⟨rfl, h1, h2, h3, h4⟩ | ⟨rfl, _⟩ | ⟨rfl, _⟩ | ⟨rfl, _⟩
    · rw [stepO_1] at e
      obtain ⟨rfl, rfl, rfl, rfl⟩ := Rs.go_inj e
      exact ⟨by omega, by omega, wrap_in _, Or.inl rfl, (fun h => by cases h), i0, fun _ => rfl⟩
    · rw [stepO_2] at e
      obtain ⟨rfl, rfl, rfl, rfl⟩ := Rs.go_inj e
      exact ⟨by omega, by omega, shiftI_in hn _, Or.inl rfl, (fun h => by cases h), i0, fun _ => rfl⟩
    · rw [stepO_3] at e
      obtain ⟨rfl, rfl, rfl, rfl⟩ := Rs.go_inj e
      exact ⟨by omega, by omega, hx, Or.inl rfl, (fun h => by cases h), i0, fun _ => rfl⟩
    · rw [stepO_4] at e
      obtain ⟨rfl, rfl, rfl, rfl⟩ := Rs.go_inj e
      exact ⟨by omega, by omega, wrap_in _, Or.inl rfl, (fun h => by cases h), i0, fun _ => rfl⟩
    · rw [stepO_5] at e
      obtain ⟨rfl, rfl, rfl, rfl⟩ := Rs.go_inj e
      exact ⟨by omega, by omega, turnI_in _ _, Or.inl rfl, (fun h => by cases h), i0, fun _ => rfl⟩
    · rw [stepO_6] at e
      obtain ⟨rfl, rfl, rfl, rfl⟩ := Rs.go_inj e
      exact ⟨by omega, by omega, hn, Or.inr (Or.inl rfl), (fun h => by cases h), wa, (fun h => by cases h)⟩
    · rw [stepO_7] at e
      obtain ⟨rfl, rfl, rfl, rfl⟩ := Rs.go_inj e
      exact ⟨by omega, by omega, hn, Or.inr (Or.inr rfl), fun _ => ⟨h1, h2⟩, wa, (fun h => by cases h)⟩
    · rw [stepO_8] at e
      split at e
      · exact Rs.no' e
      · obtain ⟨rfl, rfl, rfl, rfl⟩ := Rs.go_inj e
        exact ⟨by omega, by omega, hn, Or.inl rfl, (fun h => by cases h), i0, fun _ => rfl⟩
    · rw [stepO_9] at e
      split at e
      · obtain ⟨rfl, rfl, rfl, rfl⟩ := Rs.go_inj e
        exact ⟨by omega, by omega, hn, Or.inl rfl, (fun h => by cases h), i0, fun _ => rfl⟩
      · obtain ⟨rfl, rfl, rfl, rfl⟩ := Rs.go_inj e
        exact ⟨by omega, by omega, hn, Or.inl rfl, (fun h => by cases h), i0, fun _ => rfl⟩
    · rw [stepO_10] at e; exact Rs.no' e
    · rw [stepO_11] at e; exact Rs.no' e
    · rw [stepO_12] at e; exact Rs.no' e
/-- steps until it waits or ends -/
def On (f : Nat → Int → Rs) (p : Nat) (n : Int) (R : Rs) : Prop := ∀ P : Nat → Int → Rs → Prop,
  (∀ p n v k c r, f p n = .fin v k c r → P p n (.fin v k c r)) → (∀ p n q m wt on, f p n = .go q m wt on → wt ≠ 0 → P p n (.go q m wt on)) → (∀ p n q m on R, f p n = .go q m 0 on → P q m R → P p n R) → P p n R
section
variable {f : Nat → Int → Rs} {p : Nat} {n : Int} {R R' : Rs}
theorem On.fin {v k c r : Int} (h : f p n = .fin v k c r) : On f p n (.fin v k c r) := fun P h1 h2 h3 => h1 _ _ _ _ _ _ h
theorem On.wait {q : Nat} {m wt on : Int} (h : f p n = .go q m wt on) (hw : wt ≠ 0) : On f p n (.go q m wt on) := fun P h1 h2 h3 => h2 _ _ _ _ _ _ h hw
theorem On.step {q : Nat} {m on : Int} (h : f p n = .go q m 0 on) (hk : On f q m R) : On f p n R := fun P h1 h2 h3 => h3 _ _ _ _ _ _ h (hk P h1 h2 h3)
theorem On.inv (h : On f p n R) : (∃ v k c r, f p n = .fin v k c r ∧ R = .fin v k c r) ∨ (∃ q m wt on, f p n = .go q m wt on ∧ wt ≠ 0 ∧ R = .go q m wt on) ∨ ∃ q m on, f p n = .go q m 0 on ∧ On f q m R :=
  (h (fun p n R => On f p n R ∧ ((∃ v k c r, f p n = .fin v k c r ∧ R = .fin v k c r) ∨ (∃ q m wt on, f p n = .go q m wt on ∧ wt ≠ 0 ∧ R = .go q m wt on) ∨ ∃ q m on, f p n = .go q m 0 on ∧ On f q m R))
    (fun p n v k c r e => ⟨.fin e, Or.inl ⟨v, k, c, r, e, rfl⟩⟩) (fun p n q m wt on e hw => ⟨.wait e hw, Or.inr (Or.inl ⟨q, m, wt, on, e, hw, rfl⟩)⟩) (fun p n q m on R e hk => ⟨.step e hk.1, Or.inr (Or.inr ⟨q, m, on, e, hk.1⟩)⟩)).2
theorem On.eq (h : On f p n R) : On f p n R' → R = R' := by
  refine h (fun p n R => On f p n R' → R = R') ?_ ?_ ?_
  · intro p n v k c r e h'
    rcases h'.inv with ⟨v', k', c', r', e', rfl⟩ | ⟨q, m, wt, on, e', _⟩ | ⟨q, m, on, e', _⟩
    · rw [e] at e'; exact e'
    · rw [e] at e'; exact Rs.no' e'
    · rw [e] at e'; exact Rs.no' e'
  · intro p n q m wt on e hw h'
    rcases h'.inv with ⟨v', k', c', r', e', _⟩ | ⟨q', m', wt', on', e', _, rfl⟩ | ⟨q', m', on', e', _⟩
    · rw [e] at e'; exact Rs.no e'
    · rw [e] at e'; exact e'
    · rw [e] at e'; exact absurd (Rs.go_inj e').2.2.1 hw
  · intro p n q m on R e ih h'
    rcases h'.inv with ⟨v', k', c', r', e', _⟩ | ⟨q', m', wt', on', e', hw, _⟩ | ⟨q', m', on', e', hk⟩
    · rw [e] at e'; exact Rs.no e'
    · rw [e] at e'; exact absurd (Rs.go_inj e').2.2.1.symm hw
    · rw [e] at e'
      obtain ⟨rfl, rfl, _, _⟩ := Rs.go_inj e'
      exact ih hk
end
def capS (s on : Int) : Int := s + min on (4611686018427387904 - s)
/-- a loader by itself: what it ends with, and how long it slept -/
def Al (f : Nat → Int → Rs) (p : Nat) (n s : Int) (Z : Int × Int × Int × Int × Int) : Prop := ∀ P : Nat → Int → Int → (Int × Int × Int × Int × Int) → Prop,
  (∀ p n s v k c r, On f p n (.fin v k c r) → P p n s (v, k, c, r, s)) → (∀ p n s q m wt on Z, On f p n (.go q m wt on) → P q m (if wt = 2 then capS s on else s) Z → P p n s Z) → P p n s Z
section
variable {f : Nat → Int → Rs} {p : Nat} {n s : Int} {Z Z' : Int × Int × Int × Int × Int}
theorem Al.fin {v k c r : Int} (h : On f p n (.fin v k c r)) : Al f p n s (v, k, c, r, s) := fun P h1 h2 => h1 _ _ _ _ _ _ _ h
theorem Al.go {q : Nat} {m wt on : Int} (h : On f p n (.go q m wt on)) (hk : Al f q m (if wt = 2 then capS s on else s) Z) : Al f p n s Z := fun P h1 h2 => h2 _ _ _ _ _ _ _ _ h (hk P h1 h2)
theorem Al.inv (h : Al f p n s Z) : (∃ v k c r, On f p n (.fin v k c r) ∧ Z = (v, k, c, r, s)) ∨ ∃ q m wt on, On f p n (.go q m wt on) ∧ Al f q m (if wt = 2 then capS s on else s) Z :=
  (h (fun p n s Z => Al f p n s Z ∧ ((∃ v k c r, On f p n (.fin v k c r) ∧ Z = (v, k, c, r, s)) ∨ ∃ q m wt on, On f p n (.go q m wt on) ∧ Al f q m (if wt = 2 then capS s on else s) Z))
    (fun p n s v k c r e => ⟨.fin e, Or.inl ⟨v, k, c, r, e, rfl⟩⟩) (fun p n s q m wt on Z e hk => ⟨.go e hk.1, Or.inr ⟨q, m, wt, on, e, hk.1⟩⟩)).2
theorem Al.eq (h : Al f p n s Z) : Al f p n s Z' → Z = Z' := by
  refine h (fun p n s Z => Al f p n s Z' → Z = Z') ?_ ?_
  · intro p n s v k c r e h'
    rcases h'.inv with ⟨v', k', c', r', e', rfl⟩ | ⟨q, m, wt, on, e', _⟩
    · obtain ⟨rfl, rfl, rfl, rfl⟩ := Rs.fin_inj (e.eq e'); rfl
    · exact Rs.no' (e.eq e')
  · intro p n s q m wt on Z e ih h'
    rcases h'.inv with ⟨v', k', c', r', e', _⟩ | ⟨q', m', wt', on', e', hk⟩
    · exact Rs.no (e.eq e')
    · obtain ⟨rfl, rfl, rfl, rfl⟩ := Rs.go_inj (e.eq e')
      exact ih hk
end
/-- a recipe that asks neither for its run nor for its token -/
def Free (L : List Sp) : Prop := ∀ x ∈ L, x.1 ≠ 4 ∧ x.1 ≠ 8 ∧ x.1 ≠ 11 ∧ x.1 ≠ 12 ∧ ¬ (x.1 = 9 ∧ x.2.1 = 3)
theorem step_free {L : List Sp} (hL : Good L) (hF : Free L) (h r r' : Int) (c c' : Bool) : stepS h r c L = stepS h r' c' L := by
  funext p n
  unfold stepS
  cases hg : L[p]? with
  | none => rfl
  | some x =>
    obtain ⟨op, a, b⟩ := x
    have hm : (op, a, b) ∈ L := List.mem_of_getElem? hg
    have h1 : may3 op a b := hL.2 _ hm
    have h2 : op ≠ 4 ∧ op ≠ 8 ∧ op ≠ 11 ∧ op ≠ 12 ∧ ¬ (op = 9 ∧ a = 3) := hF _ hm
    unfold may3 at h1
    show stepO h r c L p n op a b = stepO h r' c' L p n op a b
    by_cases h9 : op = 9
    · subst h9
      have : skipI a n c = skipI a n c' := by
        unfold skipI
        rcases (by omega : a = 0 ∨ a = 1 ∨ a = 2) with rfl | rfl | rfl <;> simp
      rw [stepO_9, stepO_9, this]
    · have : op = 1 ∨ op = 2 ∨ op = 3 ∨ op = 5 ∨ op = 6 ∨ op = 7 ∨ op = 10 := by omega
      rcases this with rfl | rfl | rfl | rfl | rfl | rfl | rfl
      · rw [stepO_1, stepO_1]
      · rw [stepO_2, stepO_2]
      · rw [stepO_3, stepO_3]
      · rw [stepO_5, stepO_5]
      · rw [stepO_6, stepO_6]
      · rw [stepO_7, stepO_7]
      · rw [stepO_10, stepO_10]
end Go.Proofs.YtgjojdlbighoaaaDoor
