/- What it means that a call lays new blocks alone; no conditions. -/
import Derived.Test.YtcbckehdlbbbbaaDoorProg
import Derived.WalkKit
import Derived.ProofKit
import Derived.Shelf.RegionOpenPlain
import Derived.Lib.QuietBelow
import Derived.BigQuiet
import Derived.Laws.Bits64b
import Derived.Laws.IdiomStrings
import Derived.Laws.Closers25b
import Derived.Deep.RegionWith
namespace Go.Proofs.YtcbckehdlbbbbaaDoor.Rc
open Go.RowKit Go.Sort
set_option linter.unusedVariables false

def Gr (w w' : World) : Prop := Below w.heap.size w w'
theorem Gr.below {w w' : World} (h : Gr w w') : Below w.heap.size w w' := h
theorem Gr.refl (w : World) : Gr w w := Below.refl _ _
theorem Gr.size {w w' : World} (hg : Gr w w') : w.heap.size ≤ w'.heap.size := hg.below.size
theorem Gr.alloc {w w' : World} (h : Gr w w') (o : Obj) : Gr w (w'.alloc o) := Below.alloc h h.size o
theorem Gr.trans {a b c : World} (h : Gr a b) (k : Gr b c) : Gr a c := Below.trans h (k.below.mono h.size)
theorem gr_re (w : World) (d : Nat) (os : Array Obj) : Gr w (grow (redrawn w d) os) := below_regrown w d os
theorem Gr.re {w w' : World} (h : Gr w w') (d : Nat) (os : Array Obj) : Gr w (Sort.grow (redrawn w' d) os) := h.trans (gr_re w' d os)
theorem Gr.drew {w w' : World} (h : Gr w w') : Gr w w'.drew := Below.drew h
theorem Gr.drewN {w w' : World} (h : Gr w w') (n : Nat) : Gr w (w'.drewN n) := ⟨h.os, h.tape, h.output, h.size, h.block⟩
theorem Gr.setCell {w w' : World} (h : Gr w w') {a : Addr} (ha : w.heap.size ≤ a.block) (v : Value) : Gr w (w'.setCell a v) := Below.setCell h ha v
theorem Gr.cell {w w' : World} (hg : Gr w w') {a : Addr} {v : Value} (h : w.cell? a = some v) (hb : a.block < w.heap.size) : w'.cell? a = some v := by
  rw [hg.below.cell hb]; exact h
theorem cell_lt {w : World} {a : Addr} {v : Value} (h : w.cell? a = some v) : a.block < w.heap.size := by
  rcases Nat.lt_or_ge a.block w.heap.size with h' | h'
  · exact h'
  · simp [World.cell?, Array.getElem?_eq_none h'] at h
theorem Gr.cell' {w w' : World} (hg : Gr w w') {a : Addr} {v : Value} (h : w.cell? a = some v) : w'.cell? a = some v := hg.cell h (cell_lt h)
theorem Gr.fz {w w' : World} (hg : Gr w w') {a : Addr} (h : w.frozen? a = false) (hb : a.block < w.heap.size) : w'.frozen? a = false := by
  rw [World.frozen?_of_block (hg.below.block _ hb)]; exact h
theorem mixed : Tryd.prog.follows .mixedOrders = true := by kernel_rfl
end Go.Proofs.YtcbckehdlbbbbaaDoor.Rc
/- What a recipe's steps do, in plain words: shifts and turns of numbers, one step, steps until it waits or ends, a loader by itself; no conditions. -/
namespace Go.Proofs.YtcbckehdlbbbbaaDoor.Rc
open Go.RowKit
set_option linter.unusedVariables false

def I64 (n : Int) : Prop := -9223372036854775808 ≤ n ∧ n ≤ 9223372036854775807
theorem wrap_in (z : Int) : I64 (IntKind.i64.wrap z) := by rw [IntKind.wrap_i64]; unfold I64; omega
theorem wrap_id {z : Int} (h : I64 z) : IntKind.i64.wrap z = z := by unfold I64 at h; rw [IntKind.wrap_i64]; omega
theorem wrap_dbl (x : Int) : IntKind.i64.wrap (IntKind.i64.wrap x * 2) = IntKind.i64.wrap (x * 2) := by
  rw [IntKind.wrap_i64, IntKind.wrap_i64, IntKind.wrap_i64]; omega
/-- a number shifted: to the left, or to the right with its sign -/
def shl (n : Int) (k : Nat) : Int := IntKind.i64.wrap (n * 2 ^ k)
def shr (n : Int) (k : Nat) : Int := n / 2 ^ k
def shiftI (n a : Int) : Int := if a < 0 then shr n (-a).toNat else shl n a.toNat
theorem shl_zero {n : Int} (h : I64 n) : shl n 0 = n := by unfold shl; rw [Int.pow_zero, Int.mul_one, wrap_id h]
theorem shl_succ (n : Int) (k : Nat) : IntKind.i64.wrap (shl n k * 2) = shl n (k + 1) := by
  unfold shl
  rw [wrap_dbl, Int.pow_succ, Int.mul_assoc]
theorem shr_zero (n : Int) : shr n 0 = n := by unfold shr; rw [Int.pow_zero, Int.ediv_one]
theorem shr_succ (n : Int) (k : Nat) : shr n k / 2 = shr n (k + 1) := by
  unfold shr
  rw [Int.pow_succ, Int.ediv_ediv_of_nonneg (Int.le_of_lt (Int.pow_pos (by decide)))]
theorem shr_in {n : Int} (h : I64 n) (k : Nat) : I64 (shr n k) := by
  induction k with
  | zero => rw [shr_zero]; exact h
  | succ k ih => rw [← shr_succ]; unfold I64 at *; omega
theorem shl_in (n : Int) (k : Nat) : I64 (shl n k) := wrap_in _
theorem shiftI_in {n : Int} (h : I64 n) (a : Int) : I64 (shiftI n a) := by unfold shiftI; split; exact shr_in h _; exact shl_in _ _
theorem half_neg {n : Int} (h : n < 0) (h2 : n.tmod 2 ≠ 0) : (n - 1).tdiv 2 = n / 2 := by
  have e : n.tmod 2 = -((-n) % 2) := by rw [← Int.neg_neg n, Int.neg_tmod, Int.neg_neg, Int.tmod_eq_emod_of_nonneg (by omega)]
  have e2 : (n - 1).tdiv 2 = -((-(n - 1)) / 2) := by rw [← Int.neg_neg (n - 1), Int.neg_tdiv, Int.neg_neg, Int.tdiv_eq_ediv_of_nonneg (by omega)]
  rw [e2]; rw [e] at h2; omega
theorem half_even {n : Int} (h2 : n.tmod 2 = 0) : n.tdiv 2 = n / 2 := by
  have := Int.tdiv_eq_ediv_of_dvd (Int.dvd_of_tmod_eq_zero h2)
  exact this
theorem half_pos {n : Int} (h : 0 ≤ n) : n.tdiv 2 = n / 2 := Int.tdiv_eq_ediv_of_nonneg h
/-- a number's bits turned to the left -/
def rot (x s : Nat) : Nat := x % 2 ^ (64 - s) * 2 ^ s + x / 2 ^ (64 - s)
theorem rot_zero {x : Nat} (h : x < 18446744073709551616) : rot x 0 = x := by
  unfold rot
  rw [show (2 : Nat) ^ (64 - 0) = 18446744073709551616 from rfl, Nat.mod_eq_of_lt h, Nat.div_eq_of_lt h]; omega
theorem rot_parts (P Q x : Nat) (hP : 0 < P) (hQ : 0 < Q) (hPQ : P * Q = 9223372036854775808) (hx : x < 18446744073709551616) :
    (x % (2 * P) * Q + x / (2 * P)) * 2 % 18446744073709551616 + (x % (2 * P) * Q + x / (2 * P)) / 9223372036854775808 = x % P * (2 * Q) + x / P ∧ x % (2 * P) * Q + x / (2 * P) < 18446744073709551616 := by
  obtain ⟨q, hq⟩ : ∃ q, q = x / (2 * P) := ⟨_, rfl⟩
  obtain ⟨r, hr⟩ : ∃ r, r = x % P := ⟨_, rfl⟩
  obtain ⟨t, ht⟩ : ∃ t, t = x / P % 2 := ⟨_, rfl⟩
  have e1 : x / P = 2 * q + t := by
    have : x / (2 * P) = x / P / 2 := by rw [Nat.mul_comm, Nat.div_div_eq_div_mul]
    rw [hq, this, ht]; omega
  have e2 : x % (2 * P) = t * P + r := by
    have h1 := Nat.mod_mul (x := x) (a := P) (b := 2)
    rw [Nat.mul_comm 2 P, h1, ← hr, ← ht, Nat.mul_comm P t, Nat.add_comm]
  have hr2 : r < P := by rw [hr]; exact Nat.mod_lt _ hP
  have hqQ : q < Q := by
    rw [hq]
    apply Nat.div_lt_of_lt_mul
    have : 2 * P * Q = 18446744073709551616 := by rw [Nat.mul_assoc, hPQ]
    omega
  have hrQ : r * Q + q < 9223372036854775808 := by
    have : (r + 1) * Q ≤ P * Q := Nat.mul_le_mul_right Q hr2
    rw [Nat.add_mul, Nat.one_mul, hPQ] at this
    omega
  have hr4 : r * (2 * Q) = 2 * (r * Q) := by rw [Nat.mul_left_comm]
  have htP : (t * P + r) * Q = t * 9223372036854775808 + r * Q := by rw [Nat.add_mul, Nat.mul_assoc, hPQ]
  have ht2 : t < 2 := by rw [ht]; exact Nat.mod_lt _ (by decide)
  rw [e1, e2, ← hq, ← hr, htP, hr4]
  generalize r * Q = A at *
  omega
theorem rot_succ (x s : Nat) (hx : x < 18446744073709551616) (hs : s < 63) : rot x s * 2 % 18446744073709551616 + rot x s / 9223372036854775808 = rot x (s + 1) ∧ rot x s < 18446744073709551616 := by
  have h := rot_parts (2 ^ (64 - (s + 1))) (2 ^ s) x (Nat.two_pow_pos _) (Nat.two_pow_pos _) (by rw [← Nat.pow_add, show 64 - (s + 1) + s = 63 by omega]) hx
  unfold rot
  rw [show 64 - s = 64 - (s + 1) + 1 by omega, Nat.pow_succ 2 (64 - (s + 1)), Nat.mul_comm (2 ^ (64 - (s + 1))) 2, Nat.pow_succ 2 s, Nat.mul_comm (2 ^ s) 2]
  exact h
theorem rot_lt (x s : Nat) (hx : x < 18446744073709551616) (hs : s ≤ 63) : rot x s < 18446744073709551616 := by
  by_cases h : s < 63
  · exact (rot_succ x s hx h).2
  · obtain rfl : s = 63 := by omega
    have h1 : rot x 63 = x % 2 * 9223372036854775808 + x / 2 := rfl
    rw [h1]; omega
/-- the library's way to turn -/
theorem rot_or (x s : Nat) (hx : x < 18446744073709551616) (hs : s ≤ 63) : (x * 2 ^ s % 18446744073709551616) ||| (x / 2 ^ (64 - s)) = rot x s := by
  have hlt : x / 2 ^ (64 - s) < 2 ^ s := by
    apply Nat.div_lt_of_lt_mul
    rw [← Nat.pow_add, show 64 - s + s = 64 by omega]; exact hx
  have e : x * 2 ^ s % 18446744073709551616 = (x % 2 ^ (64 - s)) <<< s := by
    rw [Nat.shiftLeft_eq, show (18446744073709551616 : Nat) = 2 ^ (64 - s) * 2 ^ s by rw [← Nat.pow_add, show 64 - s + s = 64 by omega], Nat.mul_mod_mul_right]
  rw [e, ← Nat.shiftLeft_add_eq_or_of_lt hlt, Nat.shiftLeft_eq]
  rfl
def turnI (n a : Int) : Int := IntKind.i64.wrap ((rot (n % 18446744073709551616).toNat a.toNat : Nat) : Int)
theorem turnI_in (n a : Int) : I64 (turnI n a) := wrap_in _
def skipI (a n : Int) (c : Bool) : Bool := if a = 0 then n == 0 else if a = 1 then decide (n < 0) else if a = 2 then n % 2 == 1 else c

abbrev Sp := Int × Int × Int
/-- what a step comes to: a state (the place, the number, whether it waits, on what), or an end (the value, or kind, code and run) -/
abbrev Rs := (Nat × Int × Int × Int) ⊕ (Int × Int × Int × Int)
abbrev Rs.go (p : Nat) (n wt on : Int) : Rs := .inl (p, n, wt, on)
abbrev Rs.fin (v k c r : Int) : Rs := .inr (v, k, c, r)
theorem Rs.go_inj {p q : Nat} {n m wt wt' on on' : Int} (h : Rs.go p n wt on = Rs.go q m wt' on') : p = q ∧ n = m ∧ wt = wt' ∧ on = on' := by
  have := Sum.inl.inj h
  simp only [Prod.mk.injEq] at this
  exact this
theorem Rs.fin_inj {v k c r v' k' c' r' : Int} (h : Rs.fin v k c r = Rs.fin v' k' c' r') : v = v' ∧ k = k' ∧ c = c' ∧ r = r' := by
  have := Sum.inr.inj h
  simp only [Prod.mk.injEq] at this
  exact this
theorem Rs.no {p : Nat} {n wt on v k c r : Int} {C : Prop} (h : Rs.go p n wt on = Rs.fin v k c r) : C := by cases h
theorem Rs.no' {p : Nat} {n wt on v k c r : Int} {C : Prop} (h : Rs.fin v k c r = Rs.go p n wt on) : C := by cases h
def stepO (h r : Int) (c : Bool) (L : List Sp) (p : Nat) (n op a b : Int) : Rs :=
    if op = 1 then .go (p + 1) (IntKind.i64.wrap (n + a)) 0 0
    else if op = 2 then .go (p + 1) (shiftI n a) 0 0
    else if op = 3 then .go (p + 1) (bits .xor .i64 n h) 0 0
    else if op = 4 then .go (p + 1) (IntKind.i64.wrap (n + r)) 0 0
    else if op = 5 then .go (p + 1) (turnI n a) 0 0
    else if op = 6 then .go (p + 1) n 1 a
    else if op = 7 then .go (p + 1) n 2 a
    else if op = 8 then (if c = true then .fin 0 5 0 r else .go (p + 1) n 0 0)
    else if op = 9 then (if skipI a n c = true then .go (min (p + 1 + b.toNat) L.length) n 0 0 else .go (p + 1) n 0 0)
    else if op = 10 then .fin n 0 0 0
    else if op = 11 then .fin 0 1 a r
    else .fin 0 2 a r
theorem stepO_1 {h r : Int} {c : Bool} {L : List Sp} {p : Nat} {n a b : Int} : stepO h r c L p n 1 a b = (.go (p + 1) (IntKind.i64.wrap (n + a)) 0 0) := by
  unfold stepO; rw [if_pos rfl]
theorem stepO_2 {h r : Int} {c : Bool} {L : List Sp} {p : Nat} {n a b : Int} : stepO h r c L p n 2 a b = (.go (p + 1) (shiftI n a) 0 0) := by
  unfold stepO; rw [if_neg (by decide), if_pos rfl]
theorem stepO_3 {h r : Int} {c : Bool} {L : List Sp} {p : Nat} {n a b : Int} : stepO h r c L p n 3 a b = (.go (p + 1) (bits .xor .i64 n h) 0 0) := by
  unfold stepO; rw [if_neg (by decide), if_neg (by decide), if_pos rfl]
theorem stepO_4 {h r : Int} {c : Bool} {L : List Sp} {p : Nat} {n a b : Int} : stepO h r c L p n 4 a b = (.go (p + 1) (IntKind.i64.wrap (n + r)) 0 0) := by
  unfold stepO; rw [if_neg (by decide), if_neg (by decide), if_neg (by decide), if_pos rfl]
theorem stepO_5 {h r : Int} {c : Bool} {L : List Sp} {p : Nat} {n a b : Int} : stepO h r c L p n 5 a b = (.go (p + 1) (turnI n a) 0 0) := by
  unfold stepO; rw [if_neg (by decide), if_neg (by decide), if_neg (by decide), if_neg (by decide), if_pos rfl]
theorem stepO_6 {h r : Int} {c : Bool} {L : List Sp} {p : Nat} {n a b : Int} : stepO h r c L p n 6 a b = (.go (p + 1) n 1 a) := by
  unfold stepO; rw [if_neg (by decide), if_neg (by decide), if_neg (by decide), if_neg (by decide), if_neg (by decide), if_pos rfl]
theorem stepO_7 {h r : Int} {c : Bool} {L : List Sp} {p : Nat} {n a b : Int} : stepO h r c L p n 7 a b = (.go (p + 1) n 2 a) := by
  unfold stepO; rw [if_neg (by decide), if_neg (by decide), if_neg (by decide), if_neg (by decide), if_neg (by decide), if_neg (by decide), if_pos rfl]
theorem stepO_8 {h r : Int} {c : Bool} {L : List Sp} {p : Nat} {n a b : Int} : stepO h r c L p n 8 a b = (if c = true then .fin 0 5 0 r else .go (p + 1) n 0 0) := by
  unfold stepO; rw [if_neg (by decide), if_neg (by decide), if_neg (by decide), if_neg (by decide), if_neg (by decide), if_neg (by decide), if_neg (by decide), if_pos rfl]
theorem stepO_9 {h r : Int} {c : Bool} {L : List Sp} {p : Nat} {n a b : Int} : stepO h r c L p n 9 a b = (if skipI a n c = true then .go (min (p + 1 + b.toNat) L.length) n 0 0 else .go (p + 1) n 0 0) := by
  unfold stepO; rw [if_neg (by decide), if_neg (by decide), if_neg (by decide), if_neg (by decide), if_neg (by decide), if_neg (by decide), if_neg (by decide), if_neg (by decide), if_pos rfl]
theorem stepO_10 {h r : Int} {c : Bool} {L : List Sp} {p : Nat} {n a b : Int} : stepO h r c L p n 10 a b = (.fin n 0 0 0) := by
  unfold stepO; rw [if_neg (by decide), if_neg (by decide), if_neg (by decide), if_neg (by decide), if_neg (by decide), if_neg (by decide), if_neg (by decide), if_neg (by decide), if_neg (by decide), if_pos rfl]
theorem stepO_11 {h r : Int} {c : Bool} {L : List Sp} {p : Nat} {n a b : Int} : stepO h r c L p n 11 a b = (.fin 0 1 a r) := by
  unfold stepO; rw [if_neg (by decide), if_neg (by decide), if_neg (by decide), if_neg (by decide), if_neg (by decide), if_neg (by decide), if_neg (by decide), if_neg (by decide), if_neg (by decide), if_neg (by decide), if_pos rfl]
theorem stepO_12 {h r : Int} {c : Bool} {L : List Sp} {p : Nat} {n a b : Int} : stepO h r c L p n 12 a b = (.fin 0 2 a r) := by
  unfold stepO; rw [if_neg (by decide), if_neg (by decide), if_neg (by decide), if_neg (by decide), if_neg (by decide), if_neg (by decide), if_neg (by decide), if_neg (by decide), if_neg (by decide), if_neg (by decide), if_neg (by decide)]
def stepS (h r : Int) (c : Bool) (L : List Sp) (p : Nat) (n : Int) : Rs :=
  match L[p]? with
  | none => .fin n 0 0 0
  | some x => stepO h r c L p n x.1 x.2.1 x.2.2
theorem stepS_at {h r : Int} {c : Bool} {L : List Sp} {p : Nat} {n op a b : Int} (hg : L[p]? = some (op, a, b)) : stepS h r c L p n = stepO h r c L p n op a b := by
  unfold stepS; rw [hg]
theorem stepS_end {h r : Int} {c : Bool} {L : List Sp} {p : Nat} {n : Int} (hg : L.length ≤ p) : stepS h r c L p n = .fin n 0 0 0 := by
  unfold stepS; rw [List.getElem?_eq_none hg]
/-- may a step be? -/
def may3 (op a b : Int) : Prop :=
  (op = 1 ∧ b = 0) ∨ (op = 2 ∧ -63 ≤ a ∧ a ≤ 63 ∧ b = 0) ∨ (op = 3 ∧ a = 0 ∧ b = 0) ∨ (op = 4 ∧ a = 0 ∧ b = 0)
  ∨ (op = 5 ∧ 0 ≤ a ∧ a ≤ 63 ∧ b = 0) ∨ (op = 6 ∧ 0 ≤ a ∧ a ≤ 255 ∧ b = 0) ∨ (op = 7 ∧ 0 ≤ a ∧ a ≤ 4611686018427387904 ∧ b = 0)
  ∨ (op = 8 ∧ a = 0 ∧ b = 0) ∨ (op = 9 ∧ 0 ≤ a ∧ a ≤ 3 ∧ 1 ≤ b ∧ b ≤ 256) ∨ (op = 10 ∧ a = 0 ∧ b = 0) ∨ (op = 11 ∧ b = 0) ∨ (op = 12 ∧ b = 0)
def may (x : Sp) : Prop := may3 x.1 x.2.1 x.2.2
/-- a recipe that may be -/
def Good (L : List Sp) : Prop := L.length ≤ 256 ∧ ∀ x ∈ L, may x
def WfS (L : List Sp) : Prop := ∀ x ∈ L, I64 x.1 ∧ I64 x.2.1 ∧ I64 x.2.2
theorem step_go {h r : Int} {c : Bool} {L : List Sp} {p : Nat} {n : Int} {p' : Nat} {m wt on : Int} (hL : Good L) (hw : WfS L) (hn : I64 n) (e : stepS h r c L p n = .go p' m wt on) (hx : I64 (bits .xor .i64 n h)) :
    p < p' ∧ p' ≤ L.length ∧ I64 m ∧ (wt = 0 ∨ wt = 1 ∨ wt = 2) ∧ (wt = 2 → 0 ≤ on ∧ on ≤ 4611686018427387904) ∧ I64 on ∧ (wt = 0 → on = 0) := by
  unfold stepS at e
  cases hg : L[p]? with
  | none => rw [hg] at e; exact Rs.no' e
  | some x =>
    obtain ⟨op, a, b⟩ := x
    have hm : (op, a, b) ∈ L := List.mem_of_getElem? hg
    have hp : p < L.length := by
      rcases Nat.lt_or_ge p L.length with h1 | h1
      · exact h1
      · rw [List.getElem?_eq_none h1] at hg; cases hg
    have hmay : may3 op a b := hL.2 _ hm
    obtain ⟨_, wa, wb⟩ : I64 op ∧ I64 a ∧ I64 b := hw _ hm
    have i0 : I64 0 := by unfold I64; omega
    rw [hg] at e
    replace e : stepO h r c L p n op a b = _ := e
    unfold may3 at hmay
    rcases hmay with ⟨rfl, _⟩ | ⟨rfl, h1, h2, _⟩ | ⟨rfl, _⟩ | ⟨rfl, _⟩ | ⟨rfl, h1, h2, _⟩ | ⟨rfl, h1, h2, _⟩ | ⟨rfl, h1, h2, _⟩ | ⟨rfl, _⟩ | ⟨rfl, h1, h2, h3, h4⟩ | ⟨rfl, _⟩ | ⟨rfl, _⟩ | ⟨rfl, _⟩
    · rw [stepO_1] at e
      obtain ⟨rfl, rfl, rfl, rfl⟩ := Rs.go_inj e
      exact ⟨by omega, by omega, wrap_in _, Or.inl rfl, (fun h => by cases h), i0, fun _ => rfl⟩
    · rw [stepO_2] at e
      obtain ⟨rfl, rfl, rfl, rfl⟩ := Rs.go_inj e
      exact ⟨by omega, by omega, shiftI_in hn _, Or.inl rfl, (fun h => by cases h), i0, fun _ => rfl⟩
    · rw [stepO_3] at e
      obtain ⟨rfl, rfl, rfl, rfl⟩ := Rs.go_inj e
      exact ⟨by omega, by omega, hx, Or.inl rfl, (fun h => by cases h), i0, fun _ => rfl⟩
    · rw [stepO_4] at e
      obtain ⟨rfl, rfl, rfl, rfl⟩ := Rs.go_inj e
      exact ⟨by omega, by omega, wrap_in _, Or.inl rfl, (fun h => by cases h), i0, fun _ => rfl⟩
    · rw [stepO_5] at e
      obtain ⟨rfl, rfl, rfl, rfl⟩ := Rs.go_inj e
      exact ⟨by omega, by omega, turnI_in _ _, Or.inl rfl, (fun h => by cases h), i0, fun _ => rfl⟩
    · rw [stepO_6] at e
      obtain ⟨rfl, rfl, rfl, rfl⟩ := Rs.go_inj e
      exact ⟨by omega, by omega, hn, Or.inr (Or.inl rfl), (fun h => by cases h), wa, (fun h => by cases h)⟩
    · rw [stepO_7] at e
      obtain ⟨rfl, rfl, rfl, rfl⟩ := Rs.go_inj e
      exact ⟨by omega, by omega, hn, Or.inr (Or.inr rfl), fun _ => ⟨h1, h2⟩, wa, (fun h => by cases h)⟩
    · rw [stepO_8] at e
      split at e
      · exact Rs.no' e
      · obtain ⟨rfl, rfl, rfl, rfl⟩ := Rs.go_inj e
        exact ⟨by omega, by omega, hn, Or.inl rfl, (fun h => by cases h), i0, fun _ => rfl⟩
    · rw [stepO_9] at e
      split at e
      · obtain ⟨rfl, rfl, rfl, rfl⟩ := Rs.go_inj e
        exact ⟨by omega, by omega, hn, Or.inl rfl, (fun h => by cases h), i0, fun _ => rfl⟩
      · obtain ⟨rfl, rfl, rfl, rfl⟩ := Rs.go_inj e
        exact ⟨by omega, by omega, hn, Or.inl rfl, (fun h => by cases h), i0, fun _ => rfl⟩
    · rw [stepO_10] at e; exact Rs.no' e
    · rw [stepO_11] at e; exact Rs.no' e
    · rw [stepO_12] at e; exact Rs.no' e
/-- steps until it waits or ends -/
def On (f : Nat → Int → Rs) (p : Nat) (n : Int) (R : Rs) : Prop := ∀ P : Nat → Int → Rs → Prop,
  (∀ p n v k c r, f p n = .fin v k c r → P p n (.fin v k c r)) → (∀ p n q m wt on, f p n = .go q m wt on → wt ≠ 0 → P p n (.go q m wt on)) → (∀ p n q m on R, f p n = .go q m 0 on → P q m R → P p n R) → P p n R
section
variable {f : Nat → Int → Rs} {p : Nat} {n : Int} {R R' : Rs}
theorem On.fin {v k c r : Int} (h : f p n = .fin v k c r) : On f p n (.fin v k c r) := fun P h1 h2 h3 => h1 _ _ _ _ _ _ h
theorem On.wait {q : Nat} {m wt on : Int} (h : f p n = .go q m wt on) (hw : wt ≠ 0) : On f p n (.go q m wt on) := fun P h1 h2 h3 => h2 _ _ _ _ _ _ h hw
theorem On.step {q : Nat} {m on : Int} (h : f p n = .go q m 0 on) (hk : On f q m R) : On f p n R := fun P h1 h2 h3 => h3 _ _ _ _ _ _ h (hk P h1 h2 h3)
theorem On.inv (h : On f p n R) : (∃ v k c r, f p n = .fin v k c r ∧ R = .fin v k c r) ∨ (∃ q m wt on, f p n = .go q m wt on ∧ wt ≠ 0 ∧ R = .go q m wt on) ∨ ∃ q m on, f p n = .go q m 0 on ∧ On f q m R :=
  (h (fun p n R => On f p n R ∧ ((∃ v k c r, f p n = .fin v k c r ∧ R = .fin v k c r) ∨ (∃ q m wt on, f p n = .go q m wt on ∧ wt ≠ 0 ∧ R = .go q m wt on) ∨ ∃ q m on, f p n = .go q m 0 on ∧ On f q m R))
    (fun p n v k c r e => ⟨.fin e, Or.inl ⟨v, k, c, r, e, rfl⟩⟩) (fun p n q m wt on e hw => ⟨.wait e hw, Or.inr (Or.inl ⟨q, m, wt, on, e, hw, rfl⟩)⟩) (fun p n q m on R e hk => ⟨.step e hk.1, Or.inr (Or.inr ⟨q, m, on, e, hk.1⟩)⟩)).2
theorem On.eq (h : On f p n R) : On f p n R' → R = R' := by
  refine h (fun p n R => On f p n R' → R = R') ?_ ?_ ?_
  · intro p n v k c r e h'
    rcases h'.inv with ⟨v', k', c', r', e', rfl⟩ | ⟨q, m, wt, on, e', _⟩ | ⟨q, m, on, e', _⟩
    · rw [e] at e'; exact e'
    · rw [e] at e'; exact Rs.no' e'
    · rw [e] at e'; exact Rs.no' e'
  · intro p n q m wt on e hw h'
    rcases h'.inv with ⟨v', k', c', r', e', _⟩ | ⟨q', m', wt', on', e', _, rfl⟩ | ⟨q', m', on', e', _⟩
    · rw [e] at e'; exact Rs.no e'
    · rw [e] at e'; exact e'
    · rw [e] at e'; exact absurd (Rs.go_inj e').2.2.1 hw
  · intro p n q m on R e ih h'
    rcases h'.inv with ⟨v', k', c', r', e', _⟩ | ⟨q', m', wt', on', e', hw, _⟩ | ⟨q', m', on', e', hk⟩
    · rw [e] at e'; exact Rs.no e'
    · rw [e] at e'; exact absurd (Rs.go_inj e').2.2.1.symm hw
    · rw [e] at e'
      obtain ⟨rfl, rfl, _, _⟩ := Rs.go_inj e'
      exact ih hk
end
def capS (s on : Int) : Int := s + min on (4611686018427387904 - s)
/-- a loader by itself: what it ends with, and how long it slept -/
def Al (f : Nat → Int → Rs) (p : Nat) (n s : Int) (Z : Int × Int × Int × Int × Int) : Prop := ∀ P : Nat → Int → Int → (Int × Int × Int × Int × Int) → Prop,
  (∀ p n s v k c r, On f p n (.fin v k c r) → P p n s (v, k, c, r, s)) → (∀ p n s q m wt on Z, On f p n (.go q m wt on) → P q m (if wt = 2 then capS s on else s) Z → P p n s Z) → P p n s Z
section
variable {f : Nat → Int → Rs} {p : Nat} {n s : Int} {Z Z' : Int × Int × Int × Int × Int}
theorem Al.fin {v k c r : Int} (h : On f p n (.fin v k c r)) : Al f p n s (v, k, c, r, s) := fun P h1 h2 => h1 _ _ _ _ _ _ _ h
theorem Al.go {q : Nat} {m wt on : Int} (h : On f p n (.go q m wt on)) (hk : Al f q m (if wt = 2 then capS s on else s) Z) : Al f p n s Z := fun P h1 h2 => h2 _ _ _ _ _ _ _ _ h (hk P h1 h2)
theorem Al.inv (h : Al f p n s Z) : (∃ v k c r, On f p n (.fin v k c r) ∧ Z = (v, k, c, r, s)) ∨ ∃ q m wt on, On f p n (.go q m wt on) ∧ Al f q m (if wt = 2 then capS s on else s) Z :=
  (h (fun p n s Z => Al f p n s Z ∧ ((∃ v k c r, On f p n (.fin v k c r) ∧ Z = (v, k, c, r, s)) ∨ ∃ q m wt on, On f p n (.go q m wt on) ∧ Al f q m (if wt = 2 then capS s on else s) Z))
    (fun p n s v k c r e => ⟨.fin e, Or.inl ⟨v, k, c, r, e, rfl⟩⟩) (fun p n s q m wt on Z e hk => ⟨.go e hk.1, Or.inr ⟨q, m, wt, on, e, hk.1⟩⟩)).2
theorem Al.eq (h : Al f p n s Z) : Al f p n s Z' → Z = Z' := by
  refine h (fun p n s Z => Al f p n s Z' → Z = Z') ?_ ?_
  · intro p n s v k c r e h'
    rcases h'.inv with ⟨v', k', c', r', e', rfl⟩ | ⟨q, m, wt, on, e', _⟩
    · obtain ⟨rfl, rfl, rfl, rfl⟩ := Rs.fin_inj (e.eq e'); rfl
    · exact Rs.no' (e.eq e')
  · intro p n s q m wt on Z e ih h'
    rcases h'.inv with ⟨v', k', c', r', e', _⟩ | ⟨q', m', wt', on', e', hk⟩
    · exact Rs.no (e.eq e')
    · obtain ⟨rfl, rfl, rfl, rfl⟩ := Rs.go_inj (e.eq e')
      exact ih hk
end
/-- a recipe that asks neither for its run nor for its token -/
def Free (L : List Sp) : Prop := ∀ x ∈ L, x.1 ≠ 4 ∧ x.1 ≠ 8 ∧ x.1 ≠ 11 ∧ x.1 ≠ 12 ∧ ¬ (x.1 = 9 ∧ x.2.1 = 3)
theorem step_free {L : List Sp} (hL : Good L) (hF : Free L) (h r r' : Int) (c c' : Bool) : stepS h r c L = stepS h r' c' L := by
  funext p n
  unfold stepS
  cases hg : L[p]? with
  | none => rfl
  | some x =>
    obtain ⟨op, a, b⟩ := x
    have hm : (op, a, b) ∈ L := List.mem_of_getElem? hg
    have h1 : may3 op a b := hL.2 _ hm
    have h2 : op ≠ 4 ∧ op ≠ 8 ∧ op ≠ 11 ∧ op ≠ 12 ∧ ¬ (op = 9 ∧ a = 3) := hF _ hm
    unfold may3 at h1
    show stepO h r c L p n op a b = stepO h r' c' L p n op a b
    by_cases h9 : op = 9
    · subst h9
      have : skipI a n c = skipI a n c' := by
        unfold skipI
        rcases (by omega : a = 0 ∨ a = 1 ∨ a = 2) with rfl | rfl | rfl <;> simp
      rw [stepO_9, stepO_9, this]
    · have : op = 1 ∨ op = 2 ∨ op = 3 ∨ op = 5 ∨ op = 6 ∨ op = 7 ∨ op = 10 := by omega
      rcases this with rfl | rfl | rfl | rfl | rfl | rfl | rfl
      · rw [stepO_1, stepO_1]
      · rw [stepO_2, stepO_2]
      · rw [stepO_3, stepO_3]
      · rw [stepO_5, stepO_5]
      · rw [stepO_6, stepO_6]
      · rw [stepO_7, stepO_7]
      · rw [stepO_10, stepO_10]
end Go.Proofs.YtcbckehdlbbbbaaDoor.Rc
/- The program's table of the kinds of steps, and which steps may be; the condition is that the table holds what the start lays. -/
namespace Go.Proofs.YtcbckehdlbbbbaaDoor.Rc
open Go.RowKit Go.Sort
set_option linter.unusedVariables false

def kWord : Nat → ByteArray
  | 1 => ⟨#[97, 100, 100]⟩ | 2 => ⟨#[115, 104, 105, 102, 116]⟩ | 3 => ⟨#[107, 101, 121]⟩ | 4 => ⟨#[114, 117, 110]⟩ | 5 => ⟨#[116, 117, 114, 110]⟩ | 6 => ⟨#[103, 97, 116, 101]⟩
  | 7 => ⟨#[115, 108, 101, 101, 112]⟩ | 8 => ⟨#[104, 101, 101, 100]⟩ | 9 => ⟨#[115, 107, 105, 112]⟩ | 10 => ⟨#[97, 110, 115, 119, 101, 114]⟩ | 11 => ⟨#[102, 97, 105, 108]⟩ | 12 => ⟨#[112, 97, 110, 105, 99]⟩
  | _ => ⟨#[]⟩
def kNamed : Nat → Nat
  | 1 => 1 | 2 => 1 | 5 => 1 | 6 => 1 | 7 => 1 | 9 => 2 | 11 => 1 | 12 => 1 | _ => 0
def kLa : Nat → Int
  | 1 => -9223372036854775808 | 2 => -63 | 11 => -9223372036854775808 | 12 => -9223372036854775808 | _ => 0
def kHa : Nat → Int
  | 1 => 9223372036854775807 | 2 => 63 | 5 => 63 | 6 => 255 | 7 => 4611686018427387904 | 9 => 3 | 11 => 9223372036854775807 | 12 => 9223372036854775807 | _ => 0
def kLb : Nat → Int
  | 9 => 1 | _ => 0
def kHb : Nat → Int
  | 9 => 256 | _ => 0
/-- the table in memory -/
structure Kd (w : World) : Prop where
  word : ∀ k, k < 13 → w.cell? ⟨0, k * 6, none⟩ = some (.string (kWord k))
  named : ∀ k, k < 13 → w.cell? ⟨0, k * 6 + 1, none⟩ = some (.int .i64 (kNamed k))
  la : ∀ k, k < 13 → w.cell? ⟨0, k * 6 + 2, none⟩ = some (.int .i64 (kLa k))
  ha : ∀ k, k < 13 → w.cell? ⟨0, k * 6 + 3, none⟩ = some (.int .i64 (kHa k))
  lb : ∀ k, k < 13 → w.cell? ⟨0, k * 6 + 4, none⟩ = some (.int .i64 (kLb k))
  hb : ∀ k, k < 13 → w.cell? ⟨0, k * 6 + 5, none⟩ = some (.int .i64 (kHb k))
theorem Kd.gr {w w' : World} (h : Kd w) (hg : Gr w w') : Kd w' :=
  ⟨fun k hk => hg.cell' (h.word k hk), fun k hk => hg.cell' (h.named k hk), fun k hk => hg.cell' (h.la k hk), fun k hk => hg.cell' (h.ha k hk), fun k hk => hg.cell' (h.lb k hk), fun k hk => hg.cell' (h.hb k hk)⟩
theorem may_iff (k : Nat) (a b : Int) (h1 : 1 ≤ k) (h2 : k ≤ 12) (ha : I64 a) : may3 (k : Int) a b ↔ (kLa k ≤ a ∧ a ≤ kHa k) ∧ (kLb k ≤ b ∧ b ≤ kHb k) := by
  unfold I64 at ha
  unfold may3
  rcases (by omega : k = 1 ∨ k = 2 ∨ k = 3 ∨ k = 4 ∨ k = 5 ∨ k = 6 ∨ k = 7 ∨ k = 8 ∨ k = 9 ∨ k = 10 ∨ k = 11 ∨ k = 12) with rfl | rfl | rfl | rfl | rfl | rfl | rfl | rfl | rfl | rfl | rfl | rfl <;> simp only [kLa, kHa, kLb, kHb] <;> omega
theorem may_op {op a b : Int} (h : may3 op a b) : 1 ≤ op ∧ op ≤ 12 := by unfold may3 at h; omega
theorem has47 (l g n : Int) (w : World) : Calls Tryd.prog 74 #[.agg #[.int .i64 l, .int .i64 g], .int .i64 n] w fun e w' => e = .returned (.bool (decide (l ≤ n ∧ n ≤ g))) ∧ Gr w w' := by
  by_cases h1 : l ≤ n
  · by_cases h2 : n ≤ g
    · have HD : Hid (decide (l ≤ n ∧ n ≤ g) = true) := decide_eq_true ⟨h1, h2⟩
      generalize decide (l ≤ n ∧ n ≤ g) = R at *
      go_enter Tryd.func74, Tryd.ntmps74
      go_wp2
      go_ret
      exact ⟨by rw [HD.out]; rfl, (Gr.refl _).alloc _⟩
    · have HD : Hid (decide (l ≤ n ∧ n ≤ g) = false) := decide_eq_false (fun h => h2 h.2)
      generalize decide (l ≤ n ∧ n ≤ g) = R at *
      go_enter Tryd.func74, Tryd.ntmps74
      go_wp2
      go_ret
      exact ⟨by rw [HD.out]; rfl, (Gr.refl _).alloc _⟩
  · have HD : Hid (decide (l ≤ n ∧ n ≤ g) = false) := decide_eq_false (fun h => h1 h.1)
    generalize decide (l ≤ n ∧ n ≤ g) = R at *
    go_enter Tryd.func74, Tryd.ntmps74
    go_wp2
    go_ret
    exact ⟨by rw [HD.out]; rfl, (Gr.refl _).alloc _⟩
def mayD (op a b : Int) : Bool := decide
  ((op = 1 ∧ b = 0) ∨ (op = 2 ∧ -63 ≤ a ∧ a ≤ 63 ∧ b = 0) ∨ (op = 3 ∧ a = 0 ∧ b = 0) ∨ (op = 4 ∧ a = 0 ∧ b = 0)
  ∨ (op = 5 ∧ 0 ≤ a ∧ a ≤ 63 ∧ b = 0) ∨ (op = 6 ∧ 0 ≤ a ∧ a ≤ 255 ∧ b = 0) ∨ (op = 7 ∧ 0 ≤ a ∧ a ≤ 4611686018427387904 ∧ b = 0)
  ∨ (op = 8 ∧ a = 0 ∧ b = 0) ∨ (op = 9 ∧ 0 ≤ a ∧ a ≤ 3 ∧ 1 ≤ b ∧ b ≤ 256) ∨ (op = 10 ∧ a = 0 ∧ b = 0) ∨ (op = 11 ∧ b = 0) ∨ (op = 12 ∧ b = 0))
theorem mayD_true {op a b : Int} (h : may3 op a b) : mayD op a b = true := by unfold mayD; rw [decide_eq_true_iff]; exact h
theorem mayD_false {op a b : Int} (h : ¬ may3 op a b) : mayD op a b = false := by unfold mayD; rw [decide_eq_false_iff_not]; exact h
theorem mayD_iff {op a b : Int} : mayD op a b = true ↔ may3 op a b := ⟨fun h => by unfold mayD at h; rw [decide_eq_true_iff] at h; exact h, mayD_true⟩
set_option maxHeartbeats 1000000 in
theorem mayBe28_in (k : Nat) (a b : Int) (w : World) (hk : Kd w) (h1 : 1 ≤ k) (h2 : k ≤ 12) (ha : I64 a) :
    Calls Tryd.prog 56 #[.agg #[.int .i64 k, .int .i64 a, .int .i64 b]] w fun e w' => e = .returned (.bool (mayD k a b)) ∧ Gr w w' := by
  have hm := may_iff k a b h1 h2 ha
  have G1 : Gr w (w.alloc (.cells #[.int .i64 k, .int .i64 a, .int .i64 b] 35)) := (Gr.refl w).alloc _
  have d2 := G1.cell' (hk.la k (by omega))
  have d3 := G1.cell' (hk.ha k (by omega))
  have d4 := G1.cell' (hk.lb k (by omega))
  have d5 := G1.cell' (hk.hb k (by omega))
  clear hk ha G1
  have k1 : ¬ (k : Int) < 1 := by omega
  have k2 : ¬ (12 : Int) < (k : Int) := by omega
  have k3 : (k : Int) < 13 := by omega
  by_cases hA : kLa k ≤ a ∧ a ≤ kHa k
  · have A1 : decide (kLa k ≤ a ∧ a ≤ kHa k) = true := decide_eq_true hA
    obtain ⟨vb, hvb⟩ : ∃ vb, decide (kLb k ≤ b ∧ b ≤ kHb k) = vb := ⟨_, rfl⟩
    have HR : Hid (mayD k a b = vb) := by
      show mayD k a b = vb
      rw [← hvb, Bool.eq_iff_iff, mayD_iff, hm]
      simp [hA]
    clear hm hA
    generalize mayD k a b = R at *
    obtain ⟨la, e1⟩ : ∃ x, kLa k = x := ⟨_, rfl⟩
    obtain ⟨xa, e2⟩ : ∃ x, kHa k = x := ⟨_, rfl⟩
    obtain ⟨lb, e3⟩ : ∃ x, kLb k = x := ⟨_, rfl⟩
    obtain ⟨xb, e4⟩ : ∃ x, kHb k = x := ⟨_, rfl⟩
    rw [e1, e2] at A1
    rw [e3, e4] at hvb
    rw [e1] at d2
    rw [e2] at d3
    rw [e3] at d4
    rw [e4] at d5
    clear e1 e2 e3 e4
    go_enter Tryd.func56, Tryd.ntmps56
    go_wp2_with fail
    refine (has47 _ _ _ _).mono ?_
    rintro e w1 ⟨rfl, g1⟩
    rw [A1]
    have c2 : w1.cell? ⟨w.heap.size, 2, none⟩ = some (.int .i64 b) := g1.cell' (by simp)
    have c3 : w1.cell? ⟨w.heap.size + 1, 2, none⟩ = some (.int .i64 lb) := g1.cell' (by simp)
    have c4 : w1.cell? ⟨w.heap.size + 1, 3, none⟩ = some (.int .i64 xb) := g1.cell' (by simp)
    have G : Hid (Gr w w1) := (((Gr.refl w).alloc _).alloc _).trans g1
    clear g1 d2 d3 d4 d5 A1
    go_wp2_with fail
    refine (has47 _ _ _ _).mono ?_
    rintro e w2 ⟨rfl, g2⟩
    rw [hvb]
    go_wp2_with fail
    go_ret
    exact ⟨by rw [HR.out]; rfl, G.out.trans g2⟩
  · have A1 : decide (kLa k ≤ a ∧ a ≤ kHa k) = false := decide_eq_false hA
    have HR : Hid (mayD k a b = false) := by
      show mayD k a b = false
      rw [← Bool.not_eq_true, mayD_iff, hm]
      exact fun h => hA h.1
    clear hm hA
    generalize mayD k a b = R at *
    obtain ⟨la, e1⟩ : ∃ x, kLa k = x := ⟨_, rfl⟩
    obtain ⟨xa, e2⟩ : ∃ x, kHa k = x := ⟨_, rfl⟩
    rw [e1, e2] at A1
    rw [e1] at d2
    rw [e2] at d3
    clear e1 e2
    go_enter Tryd.func56, Tryd.ntmps56
    go_wp2_with fail
    refine (has47 _ _ _ _).mono ?_
    rintro e w1 ⟨rfl, g1⟩
    rw [A1]
    have G : Hid (Gr w w1) := (((Gr.refl w).alloc _).alloc _).trans g1
    clear g1 d2 d3 d4 d5 A1
    go_wp2_with fail
    go_ret
    exact ⟨by rw [HR.out]; rfl, G.out⟩
theorem mayBe28 (op a b : Int) (w : World) (hk : Kd w) (ha : I64 a) :
    Calls Tryd.prog 56 #[.agg #[.int .i64 op, .int .i64 a, .int .i64 b]] w fun e w' => e = .returned (.bool (mayD op a b)) ∧ Gr w w' := by
  by_cases h1 : op < 1
  · have HR : Hid (mayD op a b = false) := mayD_false (fun h => by have := may_op h; omega)
    generalize mayD op a b = R at *
    go_enter Tryd.func56, Tryd.ntmps56
    go_wp2
    go_ret
    exact ⟨by rw [HR.out]; rfl, (Gr.refl w).alloc _⟩
  · by_cases h2 : 12 < op
    · have HR : Hid (mayD op a b = false) := mayD_false (fun h => by have := may_op h; omega)
      generalize mayD op a b = R at *
      go_enter Tryd.func56, Tryd.ntmps56
      go_wp2
      go_ret
      exact ⟨by rw [HR.out]; rfl, (Gr.refl w).alloc _⟩
    · obtain ⟨k, rfl⟩ : ∃ k : Nat, op = k := ⟨op.toNat, by omega⟩
      exact mayBe28_in k a b w hk (by omega) (by omega) ha
end Go.Proofs.YtcbckehdlbbbbaaDoor.Rc
/- The program's look at a recipe, and whether it can go on from a state; the conditions: the table holds what the start lays, the list of steps lies in memory. -/
namespace Go.Proofs.YtcbckehdlbbbbaaDoor.Rc
open Go.RowKit Go.Sort
set_option linter.unusedVariables false

/-- a slice of steps in memory -/
def Sl (w : World) (a : Option Addr) (L : List Sp) : Prop := ∀ i, (h : i < L.length) → ∃ b off, a = some ⟨b, off, none⟩ ∧ w.cell? ⟨b, off + i * 3, none⟩ = some (.int .i64 L[i].1) ∧ w.cell? ⟨b, off + i * 3 + 1, none⟩ = some (.int .i64 L[i].2.1) ∧ w.cell? ⟨b, off + i * 3 + 2, none⟩ = some (.int .i64 L[i].2.2)
theorem Sl.gr {w w' : World} {a : Option Addr} {L : List Sp} (h : Sl w a L) (hg : Gr w w') : Sl w' a L := fun i hi => by
  obtain ⟨b, off, e, c0, c1, c2⟩ := h i hi
  exact ⟨b, off, e, hg.cell' c0, hg.cell' c1, hg.cell' c2⟩
def mayX (x : Sp) : Bool := mayD x.1 x.2.1 x.2.2
/-- what a look at a recipe tells -/
def chkS (L : List Sp) : Nat × Int := if 256 < L.length then (256, 3) else match L.findIdx? (fun x => !mayX x) with | some i => (i, 80) | none => (0, 0)
theorem chk_many {L : List Sp} (h : 256 < L.length) : chkS L = (256, 3) := by unfold chkS; rw [if_pos h]
theorem chk_at {L : List Sp} (h : L.length ≤ 256) (i : Nat) (hi : i < L.length) (hb : ∀ j, (hj : j < L.length) → j < i → mayX L[j] = true) (hn : mayX L[i] = false) : chkS L = (i, 80) := by
  unfold chkS
  rw [if_neg (by omega)]
  have : L.findIdx? (fun x => !mayX x) = some i := by
    rw [List.findIdx?_eq_some_iff_getElem]
    refine ⟨hi, by simp [hn], fun j hj => ?_⟩
    have := hb j (by omega) hj
    simp [this]
  rw [this]
theorem chk_end {L : List Sp} (h : L.length ≤ 256) (hb : ∀ j, (hj : j < L.length) → mayX L[j] = true) : chkS L = (0, 0) := by
  unfold chkS
  rw [if_neg (by omega)]
  have : L.findIdx? (fun x => !mayX x) = none := by
    rw [List.findIdx?_eq_none_iff]
    intro x hx
    obtain ⟨j, hj, rfl⟩ := List.getElem_of_mem hx
    simp [hb j hj]
  rw [this]
theorem chk_good {L : List Sp} : (chkS L).2 = 0 ↔ Good L := by
  unfold chkS
  split
  · rename_i h
    exact ⟨(fun h => by cases h), fun hg => (by have := hg.1; omega)⟩
  · rename_i h
    cases hf : L.findIdx? (fun x => !mayX x) with
    | none =>
      rw [List.findIdx?_eq_none_iff] at hf
      refine ⟨fun _ => ⟨by omega, fun x hx => ?_⟩, fun _ => rfl⟩
      have := hf x hx
      exact mayD_iff.1 (show mayX x = true by simpa using this)
    | some i =>
      refine ⟨(fun h => by cases h), fun hg => ?_⟩
      rw [List.findIdx?_eq_some_iff_getElem] at hf
      obtain ⟨hi, hn, _⟩ := hf
      have : mayX L[i] = true := mayD_true (hg.2 _ (List.getElem_mem hi))
      rw [this] at hn
      cases hn
theorem chk_fst {L : List Sp} (h : Good L) : chkS L = (0, 0) := by
  refine chk_end h.1 fun j hj => mayD_true (h.2 _ (List.getElem_mem hj))
theorem chk_snd (L : List Sp) : (chkS L).2 = 0 ∨ (chkS L).2 = 3 ∨ (chkS L).2 = 80 := by
  unfold chkS
  split
  · exact Or.inr (Or.inl rfl)
  · split
    · exact Or.inr (Or.inr rfl)
    · exact Or.inl rfl
theorem chk_le (L : List Sp) : (chkS L).1 ≤ 256 := by
  unfold chkS
  split
  · exact Nat.le_refl _
  · rename_i h
    cases hf : L.findIdx? (fun x => !mayX x) with
    | none => exact Nat.zero_le _
    | some i =>
      rw [List.findIdx?_eq_some_iff_getElem] at hf
      obtain ⟨hi, _⟩ := hf
      show i ≤ 256
      omega
set_option maxRecDepth 20000 in
set_option maxHeartbeats 1000000 in
theorem check8 (L : List Sp) (a : Option Addr) (c : Nat) (w : World) (hk : Kd w) (hs : Sl w a L) (hw : WfS L) :
    Calls Tryd.prog 43 #[.slice a L.length c] w fun e w' => e = .returned (.tuple #[.int .i64 (chkS L).1, .int .i64 (chkS L).2]) ∧ Gr w w' := by
  by_cases hm : 256 < L.length
  · have hm' : (256 : Int) < (L.length : Int) := by omega
    rw [chk_many hm]
    clear hm
    go_enter Tryd.func43, Tryd.ntmps43
    go_wp2
    go_ret2
    exact ⟨rfl, Gr.refl _⟩
  · have HS : Hid (Kd w ∧ Sl w a L ∧ WfS L ∧ L.length ≤ 256) := ⟨hk, hs, hw, by omega⟩
    have hm' : ¬ (256 : Int) < (L.length : Int) := by omega
    have hle : (L.length : Int) ≤ 256 := by omega
    clear hm hk hs hw
    go_enter Tryd.func43, Tryd.ntmps43
    go_wp2
    go_loopw [11] (fun i wr => ∃ j : Nat, i = .int .i64 j ∧ j ≤ L.length ∧ Hid (∀ k, (hk : k < L.length) → k < j → mayX L[k] = true) ∧ Hid (Gr w wr)) (fun i _ => L.length - (intOf i).toNat)
    case atStart => exact ⟨0, rfl, Nat.zero_le _, fun k _ h => absurd h (Nat.not_lt_zero _), Gr.refl _⟩
    case round =>
      obtain ⟨j, rfl, hj, HB, HG⟩ := hrel
      by_cases hlt : j < L.length
      · have hz : (j : Int) < (L.length : Int) := by omega
        obtain ⟨b, off, rfl, c0, c1, c2⟩ := (HS.out.2.1.gr HG.out) j hlt
        have HC : Hid _ := fun w' (hg : Gr wr w') => mayBe28 L[j].1 L[j].2.1 L[j].2.2 w' (HS.out.1.gr (HG.out.trans hg)) (HS.out.2.2.1 _ (List.getElem_mem hlt)).2.1
        have HX : Hid (mayD L[j].1 L[j].2.1 L[j].2.2 = mayX L[j]) := rfl
        obtain ⟨x0, e0⟩ : ∃ x, L[j].1 = x := ⟨_, rfl⟩
        obtain ⟨x1, e1⟩ : ∃ x, L[j].2.1 = x := ⟨_, rfl⟩
        obtain ⟨x2, e2⟩ : ∃ x, L[j].2.2 = x := ⟨_, rfl⟩
        rw [e0, e1, e2] at HC HX
        rw [e0] at c0
        rw [e1] at c1
        rw [e2] at c2
        clear e0 e1 e2
        obtain ⟨vb, hvb⟩ : ∃ vb, mayD x0 x1 x2 = vb := ⟨_, rfl⟩
        rw [hvb] at HC HX
        clear hvb
        cases vb with
        | true =>
          go_wp2_with (go_at_call 56; refine (HC.out _ ((Gr.refl _).alloc _)).mono ?_; rintro e w1 ⟨rfl, hg⟩)
          go_roundw
          case rel => exact ⟨j + 1, by go_num, by omega, fun k hk h => by rcases (by omega : k < j ∨ k = j) with h' | rfl; exact HB.out k hk h'; exact HX.out.symm, (HG.out.alloc _).trans hg⟩
          case measure => simp [intOf]; omega
        | false =>
          have HE : Hid (chkS L = (j, 80)) := chk_at HS.out.2.2.2 j hlt (fun k hk h => HB.out k hk h) HX.out.symm
          go_wp2_with (go_at_call 56; refine (HC.out _ ((Gr.refl _).alloc _)).mono ?_; rintro e w1 ⟨rfl, hg⟩)
          go_ret2
          exact ⟨by rw [HE.out]; rfl, (HG.out.alloc _).trans hg⟩
      · have hz : ¬ (j : Int) < (L.length : Int) := by omega
        have HE : Hid (chkS L = (0, 0)) := chk_end HS.out.2.2.2 (fun k hk => HB.out k hk (by omega))
        go_wp2
        go_ret2
        exact ⟨by rw [HE.out]; rfl, HG.out⟩
/-- whether a recipe can go on from a state -/
theorem ready30_no (L : List Sp) (a : Option Addr) (c : Nat) (p n wt on : Int) (w : World) (hk : Kd w) (hs : Sl w a L) (hw : WfS L) (hb : ¬ Good L) :
    Calls Tryd.prog 40 #[.slice a L.length c, .agg #[.int .i64 p, .int .i64 n, .int .i64 wt, .int .i64 on]] w fun e w' => e = .returned (.int .i64 80) ∧ Gr w w' := by
  have HC : Hid _ := fun w' (hg : Gr w w') => check8 L a c w' (hk.gr hg) (hs.gr hg) hw
  have h1 : ¬ (chkS L).2 = 0 := fun h => hb (chk_good.1 h)
  have hne : ((chkS L).2 == 0) = false := by simpa using h1
  generalize (chkS L).2 = v at *
  clear hk hs hw hb h1
  go_enter Tryd.func40, Tryd.ntmps40
  go_wp2_with (go_at_call 43; refine (HC.out _ ((Gr.refl _).alloc _)).mono ?_; rintro e w1 ⟨rfl, hg⟩)
  go_ret
  exact ⟨rfl, ((Gr.refl _).alloc _).trans hg⟩
theorem ready30_ok (L : List Sp) (a : Option Addr) (c : Nat) (p : Nat) (n on : Int) (w : World) (hk : Kd w) (hs : Sl w a L) (hw : WfS L) (hg : Good L) (hp : p ≤ L.length) :
    Calls Tryd.prog 40 #[.slice a L.length c, .agg #[.int .i64 p, .int .i64 n, .int .i64 0, .int .i64 on]] w fun e w' => e = .returned (.int .i64 0) ∧ Gr w w' := by
  have HC : Hid _ := fun w' (hg' : Gr w w') => check8 L a c w' (hk.gr hg') (hs.gr hg') hw
  rw [chk_fst hg] at HC
  have hp' : ¬ (L.length : Int) < (p : Int) := by omega
  clear hk hs hw hg hp
  go_enter Tryd.func40, Tryd.ntmps40
  go_wp2_with fail
  refine (HC.out _ ((Gr.refl _).alloc _)).mono ?_
  rintro e w1 ⟨rfl, hg⟩
  have c0 : w1.cell? ⟨w.heap.size, 0, none⟩ = some (.int .i64 p) := hg.cell' (by simp)
  have c2 : w1.cell? ⟨w.heap.size, 2, none⟩ = some (.int .i64 0) := hg.cell' (by simp)
  go_wp2_with fail
  go_ret
  exact ⟨rfl, ((Gr.refl _).alloc _).trans hg⟩
end Go.Proofs.YtcbckehdlbbbbaaDoor.Rc
/- The contracts of the program's and the document's hashes of keys, each by the same plain numbers; a key's space is a number of 16 bits, a name's length fits. -/
namespace Go.Proofs.YtcbckehdlbbbbaaDoor.Rc
open Go.RowKit Go.Sort
set_option linter.unusedVariables false

theorem take_snoc (s : ByteArray) (k : Nat) (h : k < s.size) : s.data.toList.take (k + 1) = s.data.toList.take k ++ [s[k]] := by
  rw [List.take_succ_eq_append_getElem (by simpa using h)]; rfl
def byt (x : Int) : UInt8 := UInt8.ofNat x.toNat
theorem byt_toNat (x : Int) (h0 : 0 ≤ x) (h1 : x ≤ 255) : ((byt x).toNat : Int) = x := by
  unfold byt
  rw [UInt8.toNat_ofNat']
  omega
def hd3 (a : Int) (s : ByteArray) : ByteArray := ⟨#[byt (a % 256), byt (a / 256), byt ((s.size : Int) % 256)]⟩
theorem hd3_size (a : Int) (s : ByteArray) : (hd3 a s).size = 3 := rfl

theorem head65 (a : Int) (s : ByteArray) (w : World) (h0 : 0 ≤ a) (h1 : a ≤ 65535) (hs : s.size ≤ 9223372036854775807) :
    Calls Tryd.prog 75 #[.agg #[.int .u16 a, .string s]] w fun e w' => e = .returned (.agg #[.int .u8 (a % 256), .int .u8 (a / 256), .int .u8 ((s.size : Int) % 256)]) ∧ ∃ o1 o2, w' = (w.alloc o1).alloc o2 := by
  go_enter Tryd.func75, Tryd.ntmps75
  go_wp2
  exact bodyPost_ret (v := .agg #[.int .u8 (a % 256), .int .u8 (a / 256), .int .u8 ((s.size : Int) % 256)]) (by simp [results, Tryd.results75, go_sem]) rfl ⟨rfl, _, _, rfl⟩

theorem add_hd (a : Int) (s : ByteArray) (hs : s.size ≤ 9223372036854775800) (w : World) : (Op.stringOp .add (hd3 a s) s).run Tryd.prog w = .ok (.string (hd3 a s ++ s)) w := run_string_add_sum w _ _ (by rw [hd3_size]; omega)

theorem ret_int {k : IntKind} {a b : Int} (h : a = b) : Ending.returned (.int k a) = .returned (.int k b) := by rw [h]
theorem mod_lt (a : Nat) : a % 18446744073709551616 < 18446744073709551616 := Nat.mod_lt _ (by omega)
def hStep (h : Nat) (c : UInt8) : Nat := (h ^^^ c.toNat) * 1099511628211 % 18446744073709551616
def hFold (a : Nat) (l : List UInt8) : Nat := l.foldl hStep a
theorem hFold_lt (a : Nat) (ha : a < 18446744073709551616) (l : List UInt8) : hFold a l < 18446744073709551616 := by
  unfold hFold
  induction l generalizing a with
  | nil => exact ha
  | cons c l ih => exact ih _ (mod_lt _)
theorem foldl_snoc (f : Nat → UInt8 → Nat) (a : Nat) (l : List UInt8) (c : UInt8) : (l ++ [c]).foldl f a = f (l.foldl f a) c := by simp
theorem foldl_app (f : Nat → UInt8 → Nat) (a : Nat) (l m : List UInt8) : (l ++ m).foldl f a = m.foldl f (l.foldl f a) := by simp
theorem hFold_snoc (a : Nat) (l : List UInt8) (c : UInt8) : hFold a (l ++ [c]) = hStep (hFold a l) c := foldl_snoc hStep a l c
theorem hFold_app (a : Nat) (l m : List UInt8) : hFold a (l ++ m) = hFold (hFold a l) m := foldl_app hStep a l m
theorem h_step (h : Nat) (c : UInt8) (hh : h < 18446744073709551616) (z : Int) (hz : IntKind.u64.wrap z = (c.toNat : Int)) : IntKind.u64.wrap (bits .xor .u64 (h : Int) (IntKind.u64.wrap z) * 1099511628211) = ((hStep h c : Nat) : Int) := by
  have hc : c.toNat < 256 := c.toNat_lt
  rw [hz]
  rw [bits_xor_u64_nat h c.toNat hh (by omega), IntKind.wrap_u64]
  unfold hStep
  rw [Int.natCast_emod, Int.natCast_mul]
  rfl
theorem fold3 (f : Nat → UInt8 → Nat) (a : Nat) (p q r : UInt8) : ∃ H : Nat → Nat, H 0 = a ∧ H 1 = f (H 0) p ∧ H 2 = f (H 1) q ∧ H 3 = f (H 2) r ∧ [p, q, r].foldl f a = H 3 :=
  ⟨fun k => ([p, q, r].take k).foldl f a, rfl, rfl, rfl, rfl, rfl⟩
theorem hStep_lt (h : Nat) (c : UInt8) : hStep h c < 18446744073709551616 := mod_lt _
theorem h_step' (h : Nat) (c : UInt8) (hh : h < 18446744073709551616) : IntKind.u64.wrap (bits .xor .u64 (h : Int) (c.toNat : Int) * 1099511628211) = ((hStep h c : Nat) : Int) := by
  have hc : c.toNat < 256 := c.toNat_lt
  rw [bits_xor_u64_nat h c.toNat hh (by omega), IntKind.wrap_u64]
  unfold hStep
  rw [Int.natCast_emod, Int.natCast_mul]
  rfl
def hMid (h : Nat) : Nat := (h ^^^ h / 4294967296) * 11400714819323198485 % 18446744073709551616
def hEnd (h : Nat) : Nat := h ^^^ h / 536870912
theorem hEnd_lt (h : Nat) (hh : h < 18446744073709551616) : hEnd h < 18446744073709551616 := by
  unfold hEnd
  exact Nat.xor_lt_two_pow (n := 64) (by omega) (by omega)
theorem h_mid (h : Nat) (hh : h < 18446744073709551616) : IntKind.u64.wrap (bits .xor .u64 (h : Int) ((h : Int) / 4294967296) * 11400714819323198485) = ((hMid h : Nat) : Int) := by
  rw [show (h : Int) / 4294967296 = ((h / 4294967296 : Nat) : Int) by omega, bits_xor_u64_nat h (h / 4294967296) hh (by omega), IntKind.wrap_u64]
  unfold hMid
  rw [Int.natCast_emod, Int.natCast_mul]
  rfl
theorem h_end (h : Nat) (hh : h < 18446744073709551616) : bits .xor .u64 (h : Int) ((h : Int) / 536870912) = ((hEnd h : Nat) : Int) := by
  rw [show (h : Int) / 536870912 = ((h / 536870912 : Nat) : Int) by omega, bits_xor_u64_nat h (h / 536870912) hh (by omega)]
  rfl
def hStart : Nat := 14695981039346656037
theorem hStart_lt : hStart < 18446744073709551616 := by unfold hStart; omega
def hashK (a : Int) (s : ByteArray) : Nat := hEnd (hMid (hFold hStart (hd3 a s ++ s).data.toList))
theorem hashK_lt (a : Int) (s : ByteArray) : hashK a s < 18446744073709551616 := hEnd_lt _ (mod_lt _)

set_option maxHeartbeats 1000000 in
theorem hash50 (a : Int) (s : ByteArray) (w : World) (h0 : 0 ≤ a) (h1 : a ≤ 65535) (hs : s.size ≤ 9223372036854775800) :
    Calls Tryd.prog 60 #[.agg #[.int .u16 a, .string s]] w fun e w' => e = .returned (.int .u64 (hashK a s : Nat)) ∧ ∃ o1 o2 o3 o4, w' = (((w.alloc o1).alloc o2).alloc o3).alloc o4 := by
  have R : Hid _ := fun w => head65 a s w h0 h1 (by omega)
  obtain ⟨p, hp⟩ : ∃ p, p = byt (a % 256) := ⟨_, rfl⟩
  obtain ⟨q, hq⟩ : ∃ q, q = byt (a / 256) := ⟨_, rfl⟩
  obtain ⟨r, hr⟩ : ∃ r, r = byt ((s.size : Int) % 256) := ⟨_, rfl⟩
  have hp' : a % 256 = (p.toNat : Int) := by rw [hp, byt_toNat _ (by omega) (by omega)]
  have hq' : a / 256 = (q.toNat : Int) := by rw [hq, byt_toNat _ (by omega) (by omega)]
  have hr' : (s.size : Int) % 256 = (r.toNat : Int) := by rw [hr, byt_toNat _ (by omega) (by omega)]
  have HD : hd3 a s = ⟨#[p, q, r]⟩ := by rw [hp, hq, hr]; rfl
  have HK : Hid (hashK a s = hEnd (hMid (hFold (hFold hStart [p, q, r]) s.data.toList))) := by
    show hEnd (hMid (hFold hStart (hd3 a s ++ s).data.toList)) = _
    rw [HD, ← hFold_app]
    have e : ((⟨#[p, q, r]⟩ : ByteArray) ++ s).data.toList = [p, q, r] ++ s.data.toList := by simp [ByteArray.data_append]
    rw [e]
  rw [hp', hq', hr'] at R
  generalize hashK a s = hk at *
  clear HD hp hq hr hp' hq' hr' h0 h1
  have P1 := p.toNat_lt
  have Q1 := q.toNat_lt
  have R1 := r.toNat_lt
  go_enter Tryd.func60, Tryd.ntmps60
  go_wp2_with fail
  refine (R.out _).mono ?_
  rintro e w1 ⟨rfl, o2, o3, g1'⟩
  have G : Hid (∃ o1 o2 o3, w1 = ((w.alloc o1).alloc o2).alloc o3) := ⟨_, o2, o3, g1'⟩
  have g1 : Gr (w.alloc (.cells #[.int .u16 a, .string s] 30)) w1 := by rw [g1']; exact ((Gr.refl _).alloc _).alloc _
  clear g1'
  have c1 : ∀ o, (w1.alloc o).cell? ⟨w.heap.size, 1, none⟩ = some (.string s) := fun o => (g1.alloc o).cell (by simp) (by simp)
  clear g1
  go_wp2_with fail
  obtain ⟨H, h_0, h_1, h_2, h_3, h_f⟩ := fold3 hStep hStart p q r
  have l0 : H 0 < 18446744073709551616 := by rw [h_0]; exact hStart_lt
  have l1 : H 1 < 18446744073709551616 := by rw [h_1]; exact hStep_lt _ _
  have l2 : H 2 < 18446744073709551616 := by rw [h_2]; exact hStep_lt _ _
  have l3 : H 3 < 18446744073709551616 := by rw [h_3]; exact hStep_lt _ _
  have H0 : Hid ((14695981039346656037 : Int) = ((H 0 : Nat) : Int)) := by rw [h_0]; show _ = _; unfold hStart; rfl
  have s0 : IntKind.u64.wrap (bits .xor .u64 ((H 0 : Nat) : Int) (p.toNat : Int) * 1099511628211) = ((H 1 : Nat) : Int) := by rw [h_step' _ _ l0, h_1]
  have s1 : IntKind.u64.wrap (bits .xor .u64 ((H 1 : Nat) : Int) (q.toNat : Int) * 1099511628211) = ((H 2 : Nat) : Int) := by rw [h_step' _ _ l1, h_2]
  have s2 : IntKind.u64.wrap (bits .xor .u64 ((H 2 : Nat) : Int) (r.toNat : Int) * 1099511628211) = ((H 3 : Nat) : Int) := by rw [h_step' _ _ l2, h_3]
  have HE : Hid (hFold hStart [p, q, r] = H 3) := h_f
  have HL : Hid (H 3 < 18446744073709551616) := l3
  clear h_0 h_1 h_2 h_3 h_f l0 l1 l2 l3
  go_loop [3, 9] (fun h i => ∃ k : Nat, k ≤ 3 ∧ i = .int .i64 k ∧ h = .int .u64 (H k : Nat)) (fun _ i => 3 - (intOf i).toNat)
  case atStart => exact ⟨0, Nat.zero_le _, rfl, by rw [← H0.out]⟩
  case round =>
    obtain ⟨k, hk', rfl, rfl⟩ := hrel
    by_cases hlt : k < 3
    · have : k = 0 ∨ k = 1 ∨ k = 2 := by omega
      rcases this with rfl | rfl | rfl
      · clear s1 s2
        go_wp2
        go_round
        case rel => exact ⟨1, by omega, rfl, rfl⟩
        case measure => simp [intOf]
      · clear s0 s2
        go_wp2
        go_round
        case rel => exact ⟨2, by omega, rfl, rfl⟩
        case measure => simp [intOf]
      · clear s0 s1
        go_wp2
        go_round
        case rel => exact ⟨3, by omega, rfl, rfl⟩
        case measure => simp [intOf]
    · obtain rfl : k = 3 := by omega
      have h3 := HL.out
      rw [HE.out] at HK
      clear s0 s1 s2 HL HE H0
      generalize H 3 = B at *
      go_wp2
      go_loop [3, 23] (fun h i => ∃ k : Nat, k ≤ s.size ∧ i = .int .i64 k ∧ h = .int .u64 (hFold B (s.data.toList.take k) : Nat)) (fun _ i => s.size - (intOf i).toNat)
      case atStart => exact ⟨0, Nat.zero_le _, rfl, rfl⟩
      case round =>
        obtain ⟨k, hk', rfl, rfl⟩ := hrel
        have hlt0 := hFold_lt B h3 (s.data.toList.take k)
        by_cases hlt : k < s.size
        · have hst := h_step (hFold B (s.data.toList.take k)) s[k] hlt0 (s[k].toNat : Int) (by have := s[k].toNat_lt; rw [IntKind.wrap_u64]; omega)
          rw [← hFold_snoc, ← take_snoc s k hlt] at hst
          clear hlt0
          go_wp2
          go_round
          case rel => exact ⟨k + 1, by omega, by go_num, rfl⟩
          case measure => simp [intOf]; omega
        · have e : s.data.toList.take k = s.data.toList := List.take_of_length_le (by show s.size ≤ k; omega)
          rw [e] at hlt0 ⊢
          generalize hFold B s.data.toList = H at *
          have m1 := h_mid H hlt0
          have m2 := h_end (hMid H) (mod_lt _)
          have M1 : hMid H < 18446744073709551616 := mod_lt _
          go_wp2
          go_ret
          obtain ⟨o1, o2, o3, hw⟩ := G.out
          exact ⟨ret_int (by rw [HK.out]), o1, o2, o3, _, by rw [hw]⟩
end Go.Proofs.YtcbckehdlbbbbaaDoor.Rc
/- The program's small functions on numbers, ends and tests; the conditions are those that each states. -/
namespace Go.Proofs.YtcbckehdlbbbbaaDoor.Rc
open Go.RowKit Go.Sort
set_option linter.unusedVariables false

def ckV (p n wt on : Int) : Value := .agg #[.int .i64 p, .int .i64 n, .int .i64 wt, .int .i64 on]
def otV (v k c r : Int) : Value := .agg #[.int .i64 v, .int .i64 k, .int .i64 c, .int .i64 r]
def arV (sp : Int) (nm : ByteArray) (r : Int) (c : Bool) : Value := .agg #[.int .u16 sp, .string nm, .int .i64 r, .bool c]
def rsV : Rs → Value
  | .inl (p, n, wt, on) => .tuple #[ckV p n wt on, otV 0 0 0 0, .bool false]
  | .inr (v, k, c, r) => .tuple #[ckV 0 0 0 0, otV v k c r, .bool true]
theorem rsV_go (p : Nat) (n wt on : Int) : rsV (.go p n wt on) = .tuple #[ckV p n wt on, otV 0 0 0 0, .bool false] := rfl
theorem rsV_fin (v k c r : Int) : rsV (.fin v k c r) = .tuple #[ckV 0 0 0 0, otV v k c r, .bool true] := rfl
theorem answers48 (n : Int) (w : World) : Calls Tryd.prog 58 #[.int .i64 n] w fun e w' => e = .returned (.tuple #[.agg #[.int .i64 0, .int .i64 0, .int .i64 0, .int .i64 0], .agg #[.int .i64 n, .int .i64 0, .int .i64 0, .int .i64 0], .bool true]) ∧ w' = (w.alloc (.cells #[.int .i64 0, .int .i64 0, .int .i64 0, .int .i64 0] 76)).alloc (.cells #[.int .i64 n, .int .i64 0, .int .i64 0, .int .i64 0] 51) := by
  go_enter Tryd.func58, Tryd.ntmps58
  go_wp2
  exact bodyPost_ret (v := .tuple #[.agg #[.int .i64 0, .int .i64 0, .int .i64 0, .int .i64 0], .agg #[.int .i64 n, .int .i64 0, .int .i64 0, .int .i64 0], .bool true]) (by simp [results, Tryd.results58, go_sem]) rfl ⟨rfl, rfl⟩
theorem fails52 (k c : Int) (sp : Int) (nm : ByteArray) (r : Int) (cn : Bool) (w : World) : Calls Tryd.prog 62 #[.int .i64 k, .int .i64 c, .agg #[.int .u16 sp, .string nm, .int .i64 r, .bool cn]] w fun e w' => e = .returned (.tuple #[.agg #[.int .i64 0, .int .i64 0, .int .i64 0, .int .i64 0], .agg #[.int .i64 0, .int .i64 k, .int .i64 c, .int .i64 r], .bool true]) ∧ w' = (((w.alloc (.cells #[.int .u16 sp, .string nm, .int .i64 r, .bool cn] 71)).alloc (.cells #[.int .i64 0, .int .i64 0, .int .i64 0, .int .i64 0] 76)).alloc (.cells #[.int .i64 0, .int .i64 k, .int .i64 c, .int .i64 r] 51)).drew := by
  go_enter Tryd.func62, Tryd.ntmps62
  go_wp2_with fail
  go_region
  all_goals
    go_wp2
    exact bodyPost_ret (v := .tuple #[.agg #[.int .i64 0, .int .i64 0, .int .i64 0, .int .i64 0], .agg #[.int .i64 0, .int .i64 k, .int .i64 c, .int .i64 r], .bool true]) (by simp [results, Tryd.results62, go_sem]) rfl ⟨rfl, rfl⟩
theorem shifted49 (n a : Int) (w : World) (h1 : -63 ≤ a) (h2 : a ≤ 63) : Calls Tryd.prog 59 #[.int .i64 n, .int .i64 a] w fun e w' => e = .returned (.int .i64 (shiftI n a)) ∧ w' = w := by
  by_cases h : a < 0
  · have hw : IntKind.i64.wrap (-a) = -a := by rw [IntKind.wrap_i64]; omega
    have HS : Hid (shiftI n a = n / 2 ^ (-a).toNat) := by show shiftI n a = _; unfold shiftI; rw [if_pos h]; rfl
    have g1 : 0 ≤ -a := by omega
    have g2 : -a ≤ 64 := by omega
    generalize shiftI n a = R at *
    go_enter Tryd.func59, Tryd.ntmps59
    go_wp2
    go_ret
    exact ⟨by rw [HS.out]; rfl, rfl⟩
  · have HS : Hid (shiftI n a = IntKind.i64.wrap (n * 2 ^ a.toNat)) := by show shiftI n a = _; unfold shiftI; rw [if_neg h]; rfl
    have g1 : 0 ≤ a := by omega
    have g2 : a ≤ 64 := by omega
    generalize shiftI n a = R at *
    go_enter Tryd.func59, Tryd.ntmps59
    go_wp2
    go_ret
    exact ⟨by rw [HS.out, IntWalk.i64_left]; rfl, rfl⟩
theorem and_one (n : Int) : bits .and .i64 n 1 = n % 2 := by
  show IntKind.i64.wrap ((BitVec.ofInt 64 n &&& BitVec.ofInt 64 1).toNat : Int) = n % 2
  have h1 : (BitVec.ofInt 64 1).toNat = 1 := rfl
  rw [BitVec.toNat_and, h1, Nat.and_one_is_mod, BitVec.toNat_ofInt, IntKind.wrap_i64]
  omega
theorem skips53 (a n : Int) (sp : Int) (nm : ByteArray) (r : Int) (cn : Bool) (w : World) (hn : I64 n) : Calls Tryd.prog 63 #[.int .i64 a, .int .i64 n, .agg #[.int .u16 sp, .string nm, .int .i64 r, .bool cn]] w fun e w' => e = .returned (.bool (skipI a n cn)) ∧ w' = w.alloc (.cells #[.int .u16 sp, .string nm, .int .i64 r, .bool cn] 71) := by
  by_cases h0 : a = 0
  · subst h0
    go_enter Tryd.func63, Tryd.ntmps63
    go_wp2
    go_ret
    exact ⟨rfl, rfl⟩
  by_cases h1 : a = 1
  · subst h1
    go_enter Tryd.func63, Tryd.ntmps63
    go_wp2
    go_ret
    exact ⟨rfl, rfl⟩
  by_cases h2 : a = 2
  · subst h2
    have HA : Hid (skipI 2 n cn = (bits .and .i64 n 1 == 1)) := by show _ = _; rw [and_one]; rfl
    generalize skipI 2 n cn = R at *
    go_enter Tryd.func63, Tryd.ntmps63
    go_wp2
    go_ret
    exact ⟨by rw [HA.out]; rfl, rfl⟩
  · have g0 : (a == 0) = false := by simpa using h0
    have g1 : (a == 1) = false := by simpa using h1
    have g2 : (a == 2) = false := by simpa using h2
    have HS : Hid (skipI a n cn = cn) := by show skipI a n cn = cn; unfold skipI; rw [if_neg h0, if_neg h1, if_neg h2]
    generalize skipI a n cn = R at *
    clear h0 h1 h2
    go_enter Tryd.func63, Tryd.ntmps63
    go_wp2
    go_ret
    exact ⟨by rw [HS.out]; rfl, rfl⟩
theorem rotate51 (x k : Nat) (w : World) (hx : x < 18446744073709551616) (hk : k ≤ 63) : Calls Tryd.prog 61 #[.int .u64 x, .int .i64 k] w fun e w' => e = .returned (.int .u64 (rot x k : Nat)) ∧ w' = w := by
  have hw : IntKind.u64.wrap (k : Int) = (k : Int) := by rw [IntKind.wrap_u64]; omega
  have hA : bits .and .u64 (k : Int) 63 = (k : Int) := by
    have := bits_and_u64_nat k 63 (by omega) (by omega)
    rw [show k &&& 63 = k % 2 ^ 6 from Nat.and_two_pow_sub_one_eq_mod k 6, Nat.mod_eq_of_lt (show k < 2 ^ 6 by omega)] at this
    exact this
  have s2 : IntKind.u64.wrap (64 - (k : Int)) = ((64 - k : Nat) : Int) := by rw [IntKind.wrap_u64]; omega
  have HF : Hid (bits .or .u64 (IntKind.u64.wrap ((x : Int) * 2 ^ k)) ((x : Int) / 2 ^ min (64 - k) 64) = ((rot x k : Nat) : Int)) := by
    show _ = _
    have e1 : IntKind.u64.wrap ((x : Int) * 2 ^ k) = ((x * 2 ^ k % 18446744073709551616 : Nat) : Int) := by
      rw [IntKind.wrap_u64, Int.natCast_emod, Int.natCast_mul, Int.natCast_pow]; rfl
    have e2 : (x : Int) / 2 ^ min (64 - k) 64 = ((x / 2 ^ (64 - k) : Nat) : Int) := by
      rw [Nat.min_eq_left (by omega), Int.natCast_ediv, Int.natCast_pow]; rfl
    rw [e1, e2, bits_or_u64_nat _ _ (Nat.mod_lt _ (by decide)) (Nat.lt_of_le_of_lt (Nat.div_le_self _ _) hx), rot_or x k hx hk]
  generalize rot x k = R at *
  generalize 64 - k = J at *
  go_enter Tryd.func61, Tryd.ntmps61
  go_wp2
  go_ret
  exact ⟨ret_int HF.out, rfl⟩
end Go.Proofs.YtcbckehdlbbbbaaDoor.Rc
/- One step of a recipe, done by the program; the conditions: the recipe may be and lies in memory, the state is ready. -/
namespace Go.Proofs.YtcbckehdlbbbbaaDoor.Rc
open Go.RowKit Go.Sort
set_option linter.unusedVariables false

/-- a key's hash as a number with a sign -/
def hI (sp : Int) (nm : ByteArray) : Int := IntKind.i64.wrap ((hashK sp nm : Nat) : Int)
set_option maxHeartbeats 1000000 in
theorem do31_end (L : List Sp) (A : Option Addr) (c : Nat) (p : Nat) (n on : Int) (sp : Int) (nm : ByteArray) (r : Int) (cn : Bool) (w : World) (hp : p = L.length) :
    Calls Tryd.prog 48 #[.slice A L.length c, .agg #[.int .i64 p, .int .i64 n, .int .i64 0, .int .i64 on], .agg #[.int .u16 sp, .string nm, .int .i64 r, .bool cn]] w fun e w' => e = .returned (.tuple #[.agg #[.int .i64 0, .int .i64 0, .int .i64 0, .int .i64 0], .agg #[.int .i64 n, .int .i64 0, .int .i64 0, .int .i64 0], .bool true]) ∧ Gr w w' := by
  subst hp
  go_enter Tryd.func48, Tryd.ntmps48
  go_wp2_with (go_at_call 58; refine (answers48 _ _).mono ?_; rintro e w1 ⟨rfl, rfl⟩)
  exact bodyPost_ret (v := .tuple #[.agg #[.int .i64 0, .int .i64 0, .int .i64 0, .int .i64 0], .agg #[.int .i64 n, .int .i64 0, .int .i64 0, .int .i64 0], .bool true]) (by simp [results, Tryd.results48, go_sem]) rfl ⟨rfl, by repeat (first | exact Gr.refl _ | apply Gr.alloc | apply Gr.drew)⟩
set_option maxHeartbeats 1000000 in
theorem do31_1 (L : List Sp) (A : Option Addr) (c : Nat) (p : Nat) (n on : Int) (sp : Int) (nm : ByteArray) (r : Int) (cn : Bool) (w : World) (b off : Nat) (hA : A = some ⟨b, off, none⟩) (a x : Int) (c0 : w.cell? ⟨b, off + p * 3, none⟩ = some (.int .i64 1)) (c1 : w.cell? ⟨b, off + p * 3 + 1, none⟩ = some (.int .i64 a)) (c2 : w.cell? ⟨b, off + p * 3 + 2, none⟩ = some (.int .i64 x)) (hp : p < L.length) (hl : L.length ≤ 256) :
    Calls Tryd.prog 48 #[.slice A L.length c, .agg #[.int .i64 p, .int .i64 n, .int .i64 0, .int .i64 on], .agg #[.int .u16 sp, .string nm, .int .i64 r, .bool cn]] w fun e w' => e = .returned (.tuple #[.agg #[.int .i64 ((p : Int) + 1), .int .i64 (IntKind.i64.wrap (n + a)), .int .i64 0, .int .i64 0], .agg #[.int .i64 0, .int .i64 0, .int .i64 0, .int .i64 0], .bool false]) ∧ Gr w w' := by
  subst hA
  have hb : b < w.heap.size := cell_lt c0
  have hpz : ((p : Int) == (L.length : Int)) = false := by simpa using (by omega : ¬ (p : Int) = (L.length : Int))
  have hpl : (p : Int) < (L.length : Int) := by omega
  have G4 : Gr w ((((w.alloc (.cells #[.int .i64 p, .int .i64 n, .int .i64 0, .int .i64 on] 76)).alloc (.cells #[.int .u16 sp, .string nm, .int .i64 r, .bool cn] 71)).alloc (.cells #[.int .i64 0, .int .i64 0, .int .i64 0, .int .i64 0] 76)).alloc (.cells #[.int .i64 0, .int .i64 0, .int .i64 0, .int .i64 0] 51)) := ((((Gr.refl w).alloc _).alloc _).alloc _).alloc _
  have d0 := G4.cell' c0
  have d1 := G4.cell' c1
  have d2 := G4.cell' c2
  clear c0 c1 c2 hb G4
  have wp1 : IntKind.i64.wrap ((p : Int) + 1) = (p : Int) + 1 := by rw [IntKind.wrap_i64]; omega
  obtain ⟨y, hy⟩ : ∃ y, IntKind.i64.wrap (n + a) = y := ⟨_, rfl⟩
  rw [hy]
  go_enter Tryd.func48, Tryd.ntmps48
  go_wp2
  exact bodyPost_ret (v := .tuple #[.agg #[.int .i64 ((p : Int) + 1), .int .i64 (y), .int .i64 0, .int .i64 0], .agg #[.int .i64 0, .int .i64 0, .int .i64 0, .int .i64 0], .bool false]) (by simp [results, Tryd.results48, go_sem]) rfl ⟨rfl, by repeat (first | exact Gr.refl _ | apply Gr.alloc | apply Gr.drew)⟩
set_option maxHeartbeats 1000000 in
theorem do31_2 (L : List Sp) (A : Option Addr) (c : Nat) (p : Nat) (n on : Int) (sp : Int) (nm : ByteArray) (r : Int) (cn : Bool) (w : World) (b off : Nat) (hA : A = some ⟨b, off, none⟩) (a x : Int) (c0 : w.cell? ⟨b, off + p * 3, none⟩ = some (.int .i64 2)) (c1 : w.cell? ⟨b, off + p * 3 + 1, none⟩ = some (.int .i64 a)) (c2 : w.cell? ⟨b, off + p * 3 + 2, none⟩ = some (.int .i64 x)) (hp : p < L.length) (hl : L.length ≤ 256) (h1 : -63 ≤ a) (h2 : a ≤ 63) :
    Calls Tryd.prog 48 #[.slice A L.length c, .agg #[.int .i64 p, .int .i64 n, .int .i64 0, .int .i64 on], .agg #[.int .u16 sp, .string nm, .int .i64 r, .bool cn]] w fun e w' => e = .returned (.tuple #[.agg #[.int .i64 ((p : Int) + 1), .int .i64 (shiftI n a), .int .i64 0, .int .i64 0], .agg #[.int .i64 0, .int .i64 0, .int .i64 0, .int .i64 0], .bool false]) ∧ Gr w w' := by
  subst hA
  have hb : b < w.heap.size := cell_lt c0
  have hpz : ((p : Int) == (L.length : Int)) = false := by simpa using (by omega : ¬ (p : Int) = (L.length : Int))
  have hpl : (p : Int) < (L.length : Int) := by omega
  have G4 : Gr w ((((w.alloc (.cells #[.int .i64 p, .int .i64 n, .int .i64 0, .int .i64 on] 76)).alloc (.cells #[.int .u16 sp, .string nm, .int .i64 r, .bool cn] 71)).alloc (.cells #[.int .i64 0, .int .i64 0, .int .i64 0, .int .i64 0] 76)).alloc (.cells #[.int .i64 0, .int .i64 0, .int .i64 0, .int .i64 0] 51)) := ((((Gr.refl w).alloc _).alloc _).alloc _).alloc _
  have d0 := G4.cell' c0
  have d1 := G4.cell' c1
  have d2 := G4.cell' c2
  clear c0 c1 c2 hb G4
  have wp1 : IntKind.i64.wrap ((p : Int) + 1) = (p : Int) + 1 := by rw [IntKind.wrap_i64]; omega
  have HC : Hid _ := fun w => shifted49 n a w h1 h2
  generalize shiftI n a = y at *
  clear h1 h2
  go_enter Tryd.func48, Tryd.ntmps48
  go_wp2_with (go_at_call 59; refine (HC.out _).mono ?_; rintro e w1 ⟨rfl, rfl⟩)
  exact bodyPost_ret (v := .tuple #[.agg #[.int .i64 ((p : Int) + 1), .int .i64 y, .int .i64 0, .int .i64 0], .agg #[.int .i64 0, .int .i64 0, .int .i64 0, .int .i64 0], .bool false]) (by simp [results, Tryd.results48, go_sem]) rfl ⟨rfl, by repeat (first | exact Gr.refl _ | apply Gr.alloc | apply Gr.drew)⟩
set_option maxHeartbeats 1000000 in
theorem do31_3 (L : List Sp) (A : Option Addr) (c : Nat) (p : Nat) (n on : Int) (sp : Int) (nm : ByteArray) (r : Int) (cn : Bool) (w : World) (b off : Nat) (hA : A = some ⟨b, off, none⟩) (a x : Int) (c0 : w.cell? ⟨b, off + p * 3, none⟩ = some (.int .i64 3)) (c1 : w.cell? ⟨b, off + p * 3 + 1, none⟩ = some (.int .i64 a)) (c2 : w.cell? ⟨b, off + p * 3 + 2, none⟩ = some (.int .i64 x)) (hp : p < L.length) (hl : L.length ≤ 256) (h1 : 0 ≤ sp) (h2 : sp ≤ 65535) (h3 : nm.size ≤ 9223372036854775800) :
    Calls Tryd.prog 48 #[.slice A L.length c, .agg #[.int .i64 p, .int .i64 n, .int .i64 0, .int .i64 on], .agg #[.int .u16 sp, .string nm, .int .i64 r, .bool cn]] w fun e w' => e = .returned (.tuple #[.agg #[.int .i64 ((p : Int) + 1), .int .i64 (bits .xor .i64 n (hI sp nm)), .int .i64 0, .int .i64 0], .agg #[.int .i64 0, .int .i64 0, .int .i64 0, .int .i64 0], .bool false]) ∧ Gr w w' := by
  subst hA
  have hb : b < w.heap.size := cell_lt c0
  have hpz : ((p : Int) == (L.length : Int)) = false := by simpa using (by omega : ¬ (p : Int) = (L.length : Int))
  have hpl : (p : Int) < (L.length : Int) := by omega
  have G4 : Gr w ((((w.alloc (.cells #[.int .i64 p, .int .i64 n, .int .i64 0, .int .i64 on] 76)).alloc (.cells #[.int .u16 sp, .string nm, .int .i64 r, .bool cn] 71)).alloc (.cells #[.int .i64 0, .int .i64 0, .int .i64 0, .int .i64 0] 76)).alloc (.cells #[.int .i64 0, .int .i64 0, .int .i64 0, .int .i64 0] 51)) := ((((Gr.refl w).alloc _).alloc _).alloc _).alloc _
  have d0 := G4.cell' c0
  have d1 := G4.cell' c1
  have d2 := G4.cell' c2
  clear c0 c1 c2 hb G4
  have wp1 : IntKind.i64.wrap ((p : Int) + 1) = (p : Int) + 1 := by rw [IntKind.wrap_i64]; omega
  have mixed := mixed
  have HC : Hid _ := fun w => hash50 sp nm w h1 h2 h3
  have hH : IntKind.i64.wrap ((hashK sp nm : Nat) : Int) = hI sp nm := rfl
  generalize hI sp nm = H at *
  generalize hashK sp nm = K at *
  obtain ⟨y, hy⟩ : ∃ y, bits .xor .i64 n H = y := ⟨_, rfl⟩
  rw [hy]
  clear h1 h2 h3
  go_enter Tryd.func48, Tryd.ntmps48
  go_wp2_with fail
  go_region_with (go_at_call 60; refine (HC.out _).mono ?_; rintro e w1 ⟨rfl, o1, o2, o3, o4, rfl⟩)
  all_goals
    go_wp2
    exact bodyPost_ret (v := .tuple #[.agg #[.int .i64 ((p : Int) + 1), .int .i64 y, .int .i64 0, .int .i64 0], .agg #[.int .i64 0, .int .i64 0, .int .i64 0, .int .i64 0], .bool false]) (by simp [results, Tryd.results48, go_sem]) rfl ⟨rfl, by repeat (first | exact Gr.refl _ | apply Gr.alloc | apply Gr.drew)⟩
set_option maxHeartbeats 1000000 in
theorem do31_4 (L : List Sp) (A : Option Addr) (c : Nat) (p : Nat) (n on : Int) (sp : Int) (nm : ByteArray) (r : Int) (cn : Bool) (w : World) (b off : Nat) (hA : A = some ⟨b, off, none⟩) (a x : Int) (c0 : w.cell? ⟨b, off + p * 3, none⟩ = some (.int .i64 4)) (c1 : w.cell? ⟨b, off + p * 3 + 1, none⟩ = some (.int .i64 a)) (c2 : w.cell? ⟨b, off + p * 3 + 2, none⟩ = some (.int .i64 x)) (hp : p < L.length) (hl : L.length ≤ 256) :
    Calls Tryd.prog 48 #[.slice A L.length c, .agg #[.int .i64 p, .int .i64 n, .int .i64 0, .int .i64 on], .agg #[.int .u16 sp, .string nm, .int .i64 r, .bool cn]] w fun e w' => e = .returned (.tuple #[.agg #[.int .i64 ((p : Int) + 1), .int .i64 (IntKind.i64.wrap (n + r)), .int .i64 0, .int .i64 0], .agg #[.int .i64 0, .int .i64 0, .int .i64 0, .int .i64 0], .bool false]) ∧ Gr w w' := by
  subst hA
  have hb : b < w.heap.size := cell_lt c0
  have hpz : ((p : Int) == (L.length : Int)) = false := by simpa using (by omega : ¬ (p : Int) = (L.length : Int))
  have hpl : (p : Int) < (L.length : Int) := by omega
  have G4 : Gr w ((((w.alloc (.cells #[.int .i64 p, .int .i64 n, .int .i64 0, .int .i64 on] 76)).alloc (.cells #[.int .u16 sp, .string nm, .int .i64 r, .bool cn] 71)).alloc (.cells #[.int .i64 0, .int .i64 0, .int .i64 0, .int .i64 0] 76)).alloc (.cells #[.int .i64 0, .int .i64 0, .int .i64 0, .int .i64 0] 51)) := ((((Gr.refl w).alloc _).alloc _).alloc _).alloc _
  have d0 := G4.cell' c0
  have d1 := G4.cell' c1
  have d2 := G4.cell' c2
  clear c0 c1 c2 hb G4
  have wp1 : IntKind.i64.wrap ((p : Int) + 1) = (p : Int) + 1 := by rw [IntKind.wrap_i64]; omega
  obtain ⟨y, hy⟩ : ∃ y, IntKind.i64.wrap (n + r) = y := ⟨_, rfl⟩
  rw [hy]
  go_enter Tryd.func48, Tryd.ntmps48
  go_wp2
  exact bodyPost_ret (v := .tuple #[.agg #[.int .i64 ((p : Int) + 1), .int .i64 (y), .int .i64 0, .int .i64 0], .agg #[.int .i64 0, .int .i64 0, .int .i64 0, .int .i64 0], .bool false]) (by simp [results, Tryd.results48, go_sem]) rfl ⟨rfl, by repeat (first | exact Gr.refl _ | apply Gr.alloc | apply Gr.drew)⟩
set_option maxHeartbeats 1000000 in
theorem do31_5 (L : List Sp) (A : Option Addr) (c : Nat) (p : Nat) (n on : Int) (sp : Int) (nm : ByteArray) (r : Int) (cn : Bool) (w : World) (b off : Nat) (hA : A = some ⟨b, off, none⟩) (a x : Int) (c0 : w.cell? ⟨b, off + p * 3, none⟩ = some (.int .i64 5)) (c1 : w.cell? ⟨b, off + p * 3 + 1, none⟩ = some (.int .i64 a)) (c2 : w.cell? ⟨b, off + p * 3 + 2, none⟩ = some (.int .i64 x)) (hp : p < L.length) (hl : L.length ≤ 256) (h1 : 0 ≤ a) (h2 : a ≤ 63) :
    Calls Tryd.prog 48 #[.slice A L.length c, .agg #[.int .i64 p, .int .i64 n, .int .i64 0, .int .i64 on], .agg #[.int .u16 sp, .string nm, .int .i64 r, .bool cn]] w fun e w' => e = .returned (.tuple #[.agg #[.int .i64 ((p : Int) + 1), .int .i64 (turnI n a), .int .i64 0, .int .i64 0], .agg #[.int .i64 0, .int .i64 0, .int .i64 0, .int .i64 0], .bool false]) ∧ Gr w w' := by
  subst hA
  have hb : b < w.heap.size := cell_lt c0
  have hpz : ((p : Int) == (L.length : Int)) = false := by simpa using (by omega : ¬ (p : Int) = (L.length : Int))
  have hpl : (p : Int) < (L.length : Int) := by omega
  have G4 : Gr w ((((w.alloc (.cells #[.int .i64 p, .int .i64 n, .int .i64 0, .int .i64 on] 76)).alloc (.cells #[.int .u16 sp, .string nm, .int .i64 r, .bool cn] 71)).alloc (.cells #[.int .i64 0, .int .i64 0, .int .i64 0, .int .i64 0] 76)).alloc (.cells #[.int .i64 0, .int .i64 0, .int .i64 0, .int .i64 0] 51)) := ((((Gr.refl w).alloc _).alloc _).alloc _).alloc _
  have d0 := G4.cell' c0
  have d1 := G4.cell' c1
  have d2 := G4.cell' c2
  clear c0 c1 c2 hb G4
  have wp1 : IntKind.i64.wrap ((p : Int) + 1) = (p : Int) + 1 := by rw [IntKind.wrap_i64]; omega
  obtain ⟨j, rfl⟩ : ∃ j : Nat, a = j := ⟨a.toNat, by omega⟩
  obtain ⟨u, hu⟩ : ∃ u : Nat, n % 18446744073709551616 = u := ⟨(n % 18446744073709551616).toNat, by omega⟩
  have HC : Hid _ := fun w => rotate51 u j w (by omega) (by omega)
  have hw : IntKind.u64.wrap n = (u : Int) := by rw [IntKind.wrap_u64]; exact hu
  have ht : IntKind.i64.wrap ((rot u j : Nat) : Int) = turnI n j := by unfold turnI; rw [hu, Int.toNat_natCast, Int.toNat_natCast]
  generalize turnI n j = y at *
  generalize rot u j = R at *
  clear h1 h2 hu
  go_enter Tryd.func48, Tryd.ntmps48
  go_wp2_with (go_at_call 61; refine (HC.out _).mono ?_; rintro e w1 ⟨rfl, rfl⟩)
  exact bodyPost_ret (v := .tuple #[.agg #[.int .i64 ((p : Int) + 1), .int .i64 y, .int .i64 0, .int .i64 0], .agg #[.int .i64 0, .int .i64 0, .int .i64 0, .int .i64 0], .bool false]) (by simp [results, Tryd.results48, go_sem]) rfl ⟨rfl, by repeat (first | exact Gr.refl _ | apply Gr.alloc | apply Gr.drew)⟩
set_option maxHeartbeats 1000000 in
theorem do31_6 (L : List Sp) (A : Option Addr) (c : Nat) (p : Nat) (n on : Int) (sp : Int) (nm : ByteArray) (r : Int) (cn : Bool) (w : World) (b off : Nat) (hA : A = some ⟨b, off, none⟩) (a x : Int) (c0 : w.cell? ⟨b, off + p * 3, none⟩ = some (.int .i64 6)) (c1 : w.cell? ⟨b, off + p * 3 + 1, none⟩ = some (.int .i64 a)) (c2 : w.cell? ⟨b, off + p * 3 + 2, none⟩ = some (.int .i64 x)) (hp : p < L.length) (hl : L.length ≤ 256) :
    Calls Tryd.prog 48 #[.slice A L.length c, .agg #[.int .i64 p, .int .i64 n, .int .i64 0, .int .i64 on], .agg #[.int .u16 sp, .string nm, .int .i64 r, .bool cn]] w fun e w' => e = .returned (.tuple #[.agg #[.int .i64 ((p : Int) + 1), .int .i64 n, .int .i64 1, .int .i64 a], .agg #[.int .i64 0, .int .i64 0, .int .i64 0, .int .i64 0], .bool false]) ∧ Gr w w' := by
  subst hA
  have hb : b < w.heap.size := cell_lt c0
  have hpz : ((p : Int) == (L.length : Int)) = false := by simpa using (by omega : ¬ (p : Int) = (L.length : Int))
  have hpl : (p : Int) < (L.length : Int) := by omega
  have G4 : Gr w ((((w.alloc (.cells #[.int .i64 p, .int .i64 n, .int .i64 0, .int .i64 on] 76)).alloc (.cells #[.int .u16 sp, .string nm, .int .i64 r, .bool cn] 71)).alloc (.cells #[.int .i64 0, .int .i64 0, .int .i64 0, .int .i64 0] 76)).alloc (.cells #[.int .i64 0, .int .i64 0, .int .i64 0, .int .i64 0] 51)) := ((((Gr.refl w).alloc _).alloc _).alloc _).alloc _
  have d0 := G4.cell' c0
  have d1 := G4.cell' c1
  have d2 := G4.cell' c2
  clear c0 c1 c2 hb G4
  have wp1 : IntKind.i64.wrap ((p : Int) + 1) = (p : Int) + 1 := by rw [IntKind.wrap_i64]; omega
  go_enter Tryd.func48, Tryd.ntmps48
  go_wp2_with fail
  go_region
  all_goals
    go_wp2
    exact bodyPost_ret (v := .tuple #[.agg #[.int .i64 ((p : Int) + 1), .int .i64 n, .int .i64 1, .int .i64 a], .agg #[.int .i64 0, .int .i64 0, .int .i64 0, .int .i64 0], .bool false]) (by simp [results, Tryd.results48, go_sem]) rfl ⟨rfl, by repeat (first | exact Gr.refl _ | apply Gr.alloc | apply Gr.drew)⟩
set_option maxHeartbeats 1000000 in
theorem do31_7 (L : List Sp) (A : Option Addr) (c : Nat) (p : Nat) (n on : Int) (sp : Int) (nm : ByteArray) (r : Int) (cn : Bool) (w : World) (b off : Nat) (hA : A = some ⟨b, off, none⟩) (a x : Int) (c0 : w.cell? ⟨b, off + p * 3, none⟩ = some (.int .i64 7)) (c1 : w.cell? ⟨b, off + p * 3 + 1, none⟩ = some (.int .i64 a)) (c2 : w.cell? ⟨b, off + p * 3 + 2, none⟩ = some (.int .i64 x)) (hp : p < L.length) (hl : L.length ≤ 256) :
    Calls Tryd.prog 48 #[.slice A L.length c, .agg #[.int .i64 p, .int .i64 n, .int .i64 0, .int .i64 on], .agg #[.int .u16 sp, .string nm, .int .i64 r, .bool cn]] w fun e w' => e = .returned (.tuple #[.agg #[.int .i64 ((p : Int) + 1), .int .i64 n, .int .i64 2, .int .i64 a], .agg #[.int .i64 0, .int .i64 0, .int .i64 0, .int .i64 0], .bool false]) ∧ Gr w w' := by
  subst hA
  have hb : b < w.heap.size := cell_lt c0
  have hpz : ((p : Int) == (L.length : Int)) = false := by simpa using (by omega : ¬ (p : Int) = (L.length : Int))
  have hpl : (p : Int) < (L.length : Int) := by omega
  have G4 : Gr w ((((w.alloc (.cells #[.int .i64 p, .int .i64 n, .int .i64 0, .int .i64 on] 76)).alloc (.cells #[.int .u16 sp, .string nm, .int .i64 r, .bool cn] 71)).alloc (.cells #[.int .i64 0, .int .i64 0, .int .i64 0, .int .i64 0] 76)).alloc (.cells #[.int .i64 0, .int .i64 0, .int .i64 0, .int .i64 0] 51)) := ((((Gr.refl w).alloc _).alloc _).alloc _).alloc _
  have d0 := G4.cell' c0
  have d1 := G4.cell' c1
  have d2 := G4.cell' c2
  clear c0 c1 c2 hb G4
  have wp1 : IntKind.i64.wrap ((p : Int) + 1) = (p : Int) + 1 := by rw [IntKind.wrap_i64]; omega
  go_enter Tryd.func48, Tryd.ntmps48
  go_wp2_with fail
  go_region
  all_goals
    go_wp2
    exact bodyPost_ret (v := .tuple #[.agg #[.int .i64 ((p : Int) + 1), .int .i64 n, .int .i64 2, .int .i64 a], .agg #[.int .i64 0, .int .i64 0, .int .i64 0, .int .i64 0], .bool false]) (by simp [results, Tryd.results48, go_sem]) rfl ⟨rfl, by repeat (first | exact Gr.refl _ | apply Gr.alloc | apply Gr.drew)⟩
set_option maxHeartbeats 1000000 in
theorem do31_8y (L : List Sp) (A : Option Addr) (c : Nat) (p : Nat) (n on : Int) (sp : Int) (nm : ByteArray) (r : Int) (cn : Bool) (w : World) (b off : Nat) (hA : A = some ⟨b, off, none⟩) (a x : Int) (c0 : w.cell? ⟨b, off + p * 3, none⟩ = some (.int .i64 8)) (c1 : w.cell? ⟨b, off + p * 3 + 1, none⟩ = some (.int .i64 a)) (c2 : w.cell? ⟨b, off + p * 3 + 2, none⟩ = some (.int .i64 x)) (hp : p < L.length) (hl : L.length ≤ 256) (hc : cn = true) :
    Calls Tryd.prog 48 #[.slice A L.length c, .agg #[.int .i64 p, .int .i64 n, .int .i64 0, .int .i64 on], .agg #[.int .u16 sp, .string nm, .int .i64 r, .bool cn]] w fun e w' => e = .returned (.tuple #[.agg #[.int .i64 0, .int .i64 0, .int .i64 0, .int .i64 0], .agg #[.int .i64 0, .int .i64 5, .int .i64 0, .int .i64 r], .bool true]) ∧ Gr w w' := by
  subst hA
  have hb : b < w.heap.size := cell_lt c0
  have hpz : ((p : Int) == (L.length : Int)) = false := by simpa using (by omega : ¬ (p : Int) = (L.length : Int))
  have hpl : (p : Int) < (L.length : Int) := by omega
  have G4 : Gr w ((((w.alloc (.cells #[.int .i64 p, .int .i64 n, .int .i64 0, .int .i64 on] 76)).alloc (.cells #[.int .u16 sp, .string nm, .int .i64 r, .bool cn] 71)).alloc (.cells #[.int .i64 0, .int .i64 0, .int .i64 0, .int .i64 0] 76)).alloc (.cells #[.int .i64 0, .int .i64 0, .int .i64 0, .int .i64 0] 51)) := ((((Gr.refl w).alloc _).alloc _).alloc _).alloc _
  have d0 := G4.cell' c0
  have d1 := G4.cell' c1
  have d2 := G4.cell' c2
  clear c0 c1 c2 hb G4
  have wp1 : IntKind.i64.wrap ((p : Int) + 1) = (p : Int) + 1 := by rw [IntKind.wrap_i64]; omega
  subst hc
  go_enter Tryd.func48, Tryd.ntmps48
  go_wp2_with (go_at_call 62; refine (fails52 _ _ _ _ _ _ _).mono ?_; rintro e w1 ⟨rfl, rfl⟩)
  exact bodyPost_ret (v := .tuple #[.agg #[.int .i64 0, .int .i64 0, .int .i64 0, .int .i64 0], .agg #[.int .i64 0, .int .i64 5, .int .i64 0, .int .i64 r], .bool true]) (by simp [results, Tryd.results48, go_sem]) rfl ⟨rfl, by repeat (first | exact Gr.refl _ | apply Gr.alloc | apply Gr.drew)⟩
set_option maxHeartbeats 1000000 in
theorem do31_8n (L : List Sp) (A : Option Addr) (c : Nat) (p : Nat) (n on : Int) (sp : Int) (nm : ByteArray) (r : Int) (cn : Bool) (w : World) (b off : Nat) (hA : A = some ⟨b, off, none⟩) (a x : Int) (c0 : w.cell? ⟨b, off + p * 3, none⟩ = some (.int .i64 8)) (c1 : w.cell? ⟨b, off + p * 3 + 1, none⟩ = some (.int .i64 a)) (c2 : w.cell? ⟨b, off + p * 3 + 2, none⟩ = some (.int .i64 x)) (hp : p < L.length) (hl : L.length ≤ 256) (hc : cn = false) :
    Calls Tryd.prog 48 #[.slice A L.length c, .agg #[.int .i64 p, .int .i64 n, .int .i64 0, .int .i64 on], .agg #[.int .u16 sp, .string nm, .int .i64 r, .bool cn]] w fun e w' => e = .returned (.tuple #[.agg #[.int .i64 ((p : Int) + 1), .int .i64 n, .int .i64 0, .int .i64 0], .agg #[.int .i64 0, .int .i64 0, .int .i64 0, .int .i64 0], .bool false]) ∧ Gr w w' := by
  subst hA
  have hb : b < w.heap.size := cell_lt c0
  have hpz : ((p : Int) == (L.length : Int)) = false := by simpa using (by omega : ¬ (p : Int) = (L.length : Int))
  have hpl : (p : Int) < (L.length : Int) := by omega
  have G4 : Gr w ((((w.alloc (.cells #[.int .i64 p, .int .i64 n, .int .i64 0, .int .i64 on] 76)).alloc (.cells #[.int .u16 sp, .string nm, .int .i64 r, .bool cn] 71)).alloc (.cells #[.int .i64 0, .int .i64 0, .int .i64 0, .int .i64 0] 76)).alloc (.cells #[.int .i64 0, .int .i64 0, .int .i64 0, .int .i64 0] 51)) := ((((Gr.refl w).alloc _).alloc _).alloc _).alloc _
  have d0 := G4.cell' c0
  have d1 := G4.cell' c1
  have d2 := G4.cell' c2
  clear c0 c1 c2 hb G4
  have wp1 : IntKind.i64.wrap ((p : Int) + 1) = (p : Int) + 1 := by rw [IntKind.wrap_i64]; omega
  subst hc
  go_enter Tryd.func48, Tryd.ntmps48
  go_wp2
  exact bodyPost_ret (v := .tuple #[.agg #[.int .i64 ((p : Int) + 1), .int .i64 n, .int .i64 0, .int .i64 0], .agg #[.int .i64 0, .int .i64 0, .int .i64 0, .int .i64 0], .bool false]) (by simp [results, Tryd.results48, go_sem]) rfl ⟨rfl, by repeat (first | exact Gr.refl _ | apply Gr.alloc | apply Gr.drew)⟩
set_option maxHeartbeats 1000000 in
theorem do31_9a (L : List Sp) (A : Option Addr) (c : Nat) (p : Nat) (n on : Int) (sp : Int) (nm : ByteArray) (r : Int) (cn : Bool) (w : World) (b off : Nat) (hA : A = some ⟨b, off, none⟩) (a x : Int) (c0 : w.cell? ⟨b, off + p * 3, none⟩ = some (.int .i64 9)) (c1 : w.cell? ⟨b, off + p * 3 + 1, none⟩ = some (.int .i64 a)) (c2 : w.cell? ⟨b, off + p * 3 + 2, none⟩ = some (.int .i64 x)) (hp : p < L.length) (hl : L.length ≤ 256) (hx1 : 1 ≤ x) (hx2 : x ≤ 256) (hn : I64 n) (hc : skipI a n cn = true) (hm : (p : Int) + 1 + x ≤ (L.length : Int)) :
    Calls Tryd.prog 48 #[.slice A L.length c, .agg #[.int .i64 p, .int .i64 n, .int .i64 0, .int .i64 on], .agg #[.int .u16 sp, .string nm, .int .i64 r, .bool cn]] w fun e w' => e = .returned (.tuple #[.agg #[.int .i64 ((p : Int) + 1 + x), .int .i64 n, .int .i64 0, .int .i64 0], .agg #[.int .i64 0, .int .i64 0, .int .i64 0, .int .i64 0], .bool false]) ∧ Gr w w' := by
  subst hA
  have hb : b < w.heap.size := cell_lt c0
  have hpz : ((p : Int) == (L.length : Int)) = false := by simpa using (by omega : ¬ (p : Int) = (L.length : Int))
  have hpl : (p : Int) < (L.length : Int) := by omega
  have G4 : Gr w ((((w.alloc (.cells #[.int .i64 p, .int .i64 n, .int .i64 0, .int .i64 on] 76)).alloc (.cells #[.int .u16 sp, .string nm, .int .i64 r, .bool cn] 71)).alloc (.cells #[.int .i64 0, .int .i64 0, .int .i64 0, .int .i64 0] 76)).alloc (.cells #[.int .i64 0, .int .i64 0, .int .i64 0, .int .i64 0] 51)) := ((((Gr.refl w).alloc _).alloc _).alloc _).alloc _
  have d0 := G4.cell' c0
  have d1 := G4.cell' c1
  have d2 := G4.cell' c2
  clear c0 c1 c2 hb G4
  have wp1 : IntKind.i64.wrap ((p : Int) + 1) = (p : Int) + 1 := by rw [IntKind.wrap_i64]; omega
  have HC : Hid _ := fun w => skips53 a n sp nm r cn w hn
  rw [hc] at HC
  have wp2 : IntKind.i64.wrap ((p : Int) + 1 + x) = (p : Int) + 1 + x := by rw [IntKind.wrap_i64]; omega
  clear hc hn
  go_enter Tryd.func48, Tryd.ntmps48
  go_wp2_with (go_at_call 63; refine (HC.out _).mono ?_; rintro e w1 ⟨rfl, rfl⟩)
  exact bodyPost_ret (v := .tuple #[.agg #[.int .i64 ((p : Int) + 1 + x), .int .i64 n, .int .i64 0, .int .i64 0], .agg #[.int .i64 0, .int .i64 0, .int .i64 0, .int .i64 0], .bool false]) (by simp [results, Tryd.results48, go_sem]) rfl ⟨rfl, by repeat (first | exact Gr.refl _ | apply Gr.alloc | apply Gr.drew)⟩
set_option maxHeartbeats 1000000 in
theorem do31_9b (L : List Sp) (A : Option Addr) (c : Nat) (p : Nat) (n on : Int) (sp : Int) (nm : ByteArray) (r : Int) (cn : Bool) (w : World) (b off : Nat) (hA : A = some ⟨b, off, none⟩) (a x : Int) (c0 : w.cell? ⟨b, off + p * 3, none⟩ = some (.int .i64 9)) (c1 : w.cell? ⟨b, off + p * 3 + 1, none⟩ = some (.int .i64 a)) (c2 : w.cell? ⟨b, off + p * 3 + 2, none⟩ = some (.int .i64 x)) (hp : p < L.length) (hl : L.length ≤ 256) (hx1 : 1 ≤ x) (hx2 : x ≤ 256) (hn : I64 n) (hc : skipI a n cn = true) (hm : (L.length : Int) < (p : Int) + 1 + x) :
    Calls Tryd.prog 48 #[.slice A L.length c, .agg #[.int .i64 p, .int .i64 n, .int .i64 0, .int .i64 on], .agg #[.int .u16 sp, .string nm, .int .i64 r, .bool cn]] w fun e w' => e = .returned (.tuple #[.agg #[.int .i64 L.length, .int .i64 n, .int .i64 0, .int .i64 0], .agg #[.int .i64 0, .int .i64 0, .int .i64 0, .int .i64 0], .bool false]) ∧ Gr w w' := by
  subst hA
  have hb : b < w.heap.size := cell_lt c0
  have hpz : ((p : Int) == (L.length : Int)) = false := by simpa using (by omega : ¬ (p : Int) = (L.length : Int))
  have hpl : (p : Int) < (L.length : Int) := by omega
  have G4 : Gr w ((((w.alloc (.cells #[.int .i64 p, .int .i64 n, .int .i64 0, .int .i64 on] 76)).alloc (.cells #[.int .u16 sp, .string nm, .int .i64 r, .bool cn] 71)).alloc (.cells #[.int .i64 0, .int .i64 0, .int .i64 0, .int .i64 0] 76)).alloc (.cells #[.int .i64 0, .int .i64 0, .int .i64 0, .int .i64 0] 51)) := ((((Gr.refl w).alloc _).alloc _).alloc _).alloc _
  have d0 := G4.cell' c0
  have d1 := G4.cell' c1
  have d2 := G4.cell' c2
  clear c0 c1 c2 hb G4
  have wp1 : IntKind.i64.wrap ((p : Int) + 1) = (p : Int) + 1 := by rw [IntKind.wrap_i64]; omega
  have HC : Hid _ := fun w => skips53 a n sp nm r cn w hn
  rw [hc] at HC
  have wp2 : IntKind.i64.wrap ((p : Int) + 1 + x) = (p : Int) + 1 + x := by rw [IntKind.wrap_i64]; omega
  clear hc hn
  go_enter Tryd.func48, Tryd.ntmps48
  go_wp2_with (go_at_call 63; refine (HC.out _).mono ?_; rintro e w1 ⟨rfl, rfl⟩)
  exact bodyPost_ret (v := .tuple #[.agg #[.int .i64 L.length, .int .i64 n, .int .i64 0, .int .i64 0], .agg #[.int .i64 0, .int .i64 0, .int .i64 0, .int .i64 0], .bool false]) (by simp [results, Tryd.results48, go_sem]) rfl ⟨rfl, by repeat (first | exact Gr.refl _ | apply Gr.alloc | apply Gr.drew)⟩
set_option maxHeartbeats 1000000 in
theorem do31_9n (L : List Sp) (A : Option Addr) (c : Nat) (p : Nat) (n on : Int) (sp : Int) (nm : ByteArray) (r : Int) (cn : Bool) (w : World) (b off : Nat) (hA : A = some ⟨b, off, none⟩) (a x : Int) (c0 : w.cell? ⟨b, off + p * 3, none⟩ = some (.int .i64 9)) (c1 : w.cell? ⟨b, off + p * 3 + 1, none⟩ = some (.int .i64 a)) (c2 : w.cell? ⟨b, off + p * 3 + 2, none⟩ = some (.int .i64 x)) (hp : p < L.length) (hl : L.length ≤ 256) (hn : I64 n) (hc : skipI a n cn = false) :
    Calls Tryd.prog 48 #[.slice A L.length c, .agg #[.int .i64 p, .int .i64 n, .int .i64 0, .int .i64 on], .agg #[.int .u16 sp, .string nm, .int .i64 r, .bool cn]] w fun e w' => e = .returned (.tuple #[.agg #[.int .i64 ((p : Int) + 1), .int .i64 n, .int .i64 0, .int .i64 0], .agg #[.int .i64 0, .int .i64 0, .int .i64 0, .int .i64 0], .bool false]) ∧ Gr w w' := by
  subst hA
  have hb : b < w.heap.size := cell_lt c0
  have hpz : ((p : Int) == (L.length : Int)) = false := by simpa using (by omega : ¬ (p : Int) = (L.length : Int))
  have hpl : (p : Int) < (L.length : Int) := by omega
  have G4 : Gr w ((((w.alloc (.cells #[.int .i64 p, .int .i64 n, .int .i64 0, .int .i64 on] 76)).alloc (.cells #[.int .u16 sp, .string nm, .int .i64 r, .bool cn] 71)).alloc (.cells #[.int .i64 0, .int .i64 0, .int .i64 0, .int .i64 0] 76)).alloc (.cells #[.int .i64 0, .int .i64 0, .int .i64 0, .int .i64 0] 51)) := ((((Gr.refl w).alloc _).alloc _).alloc _).alloc _
  have d0 := G4.cell' c0
  have d1 := G4.cell' c1
  have d2 := G4.cell' c2
  clear c0 c1 c2 hb G4
  have wp1 : IntKind.i64.wrap ((p : Int) + 1) = (p : Int) + 1 := by rw [IntKind.wrap_i64]; omega
  have HC : Hid _ := fun w => skips53 a n sp nm r cn w hn
  rw [hc] at HC
  clear hc hn
  go_enter Tryd.func48, Tryd.ntmps48
  go_wp2_with (go_at_call 63; refine (HC.out _).mono ?_; rintro e w1 ⟨rfl, rfl⟩)
  exact bodyPost_ret (v := .tuple #[.agg #[.int .i64 ((p : Int) + 1), .int .i64 n, .int .i64 0, .int .i64 0], .agg #[.int .i64 0, .int .i64 0, .int .i64 0, .int .i64 0], .bool false]) (by simp [results, Tryd.results48, go_sem]) rfl ⟨rfl, by repeat (first | exact Gr.refl _ | apply Gr.alloc | apply Gr.drew)⟩
set_option maxHeartbeats 1000000 in
theorem do31_10 (L : List Sp) (A : Option Addr) (c : Nat) (p : Nat) (n on : Int) (sp : Int) (nm : ByteArray) (r : Int) (cn : Bool) (w : World) (b off : Nat) (hA : A = some ⟨b, off, none⟩) (a x : Int) (c0 : w.cell? ⟨b, off + p * 3, none⟩ = some (.int .i64 10)) (c1 : w.cell? ⟨b, off + p * 3 + 1, none⟩ = some (.int .i64 a)) (c2 : w.cell? ⟨b, off + p * 3 + 2, none⟩ = some (.int .i64 x)) (hp : p < L.length) (hl : L.length ≤ 256) :
    Calls Tryd.prog 48 #[.slice A L.length c, .agg #[.int .i64 p, .int .i64 n, .int .i64 0, .int .i64 on], .agg #[.int .u16 sp, .string nm, .int .i64 r, .bool cn]] w fun e w' => e = .returned (.tuple #[.agg #[.int .i64 0, .int .i64 0, .int .i64 0, .int .i64 0], .agg #[.int .i64 n, .int .i64 0, .int .i64 0, .int .i64 0], .bool true]) ∧ Gr w w' := by
  subst hA
  have hb : b < w.heap.size := cell_lt c0
  have hpz : ((p : Int) == (L.length : Int)) = false := by simpa using (by omega : ¬ (p : Int) = (L.length : Int))
  have hpl : (p : Int) < (L.length : Int) := by omega
  have G4 : Gr w ((((w.alloc (.cells #[.int .i64 p, .int .i64 n, .int .i64 0, .int .i64 on] 76)).alloc (.cells #[.int .u16 sp, .string nm, .int .i64 r, .bool cn] 71)).alloc (.cells #[.int .i64 0, .int .i64 0, .int .i64 0, .int .i64 0] 76)).alloc (.cells #[.int .i64 0, .int .i64 0, .int .i64 0, .int .i64 0] 51)) := ((((Gr.refl w).alloc _).alloc _).alloc _).alloc _
  have d0 := G4.cell' c0
  have d1 := G4.cell' c1
  have d2 := G4.cell' c2
  clear c0 c1 c2 hb G4
  have wp1 : IntKind.i64.wrap ((p : Int) + 1) = (p : Int) + 1 := by rw [IntKind.wrap_i64]; omega
  go_enter Tryd.func48, Tryd.ntmps48
  go_wp2_with (go_at_call 58; refine (answers48 _ _).mono ?_; rintro e w1 ⟨rfl, rfl⟩)
  exact bodyPost_ret (v := .tuple #[.agg #[.int .i64 0, .int .i64 0, .int .i64 0, .int .i64 0], .agg #[.int .i64 n, .int .i64 0, .int .i64 0, .int .i64 0], .bool true]) (by simp [results, Tryd.results48, go_sem]) rfl ⟨rfl, by repeat (first | exact Gr.refl _ | apply Gr.alloc | apply Gr.drew)⟩
set_option maxHeartbeats 1000000 in
theorem do31_11 (L : List Sp) (A : Option Addr) (c : Nat) (p : Nat) (n on : Int) (sp : Int) (nm : ByteArray) (r : Int) (cn : Bool) (w : World) (b off : Nat) (hA : A = some ⟨b, off, none⟩) (a x : Int) (c0 : w.cell? ⟨b, off + p * 3, none⟩ = some (.int .i64 11)) (c1 : w.cell? ⟨b, off + p * 3 + 1, none⟩ = some (.int .i64 a)) (c2 : w.cell? ⟨b, off + p * 3 + 2, none⟩ = some (.int .i64 x)) (hp : p < L.length) (hl : L.length ≤ 256) :
    Calls Tryd.prog 48 #[.slice A L.length c, .agg #[.int .i64 p, .int .i64 n, .int .i64 0, .int .i64 on], .agg #[.int .u16 sp, .string nm, .int .i64 r, .bool cn]] w fun e w' => e = .returned (.tuple #[.agg #[.int .i64 0, .int .i64 0, .int .i64 0, .int .i64 0], .agg #[.int .i64 0, .int .i64 1, .int .i64 a, .int .i64 r], .bool true]) ∧ Gr w w' := by
  subst hA
  have hb : b < w.heap.size := cell_lt c0
  have hpz : ((p : Int) == (L.length : Int)) = false := by simpa using (by omega : ¬ (p : Int) = (L.length : Int))
  have hpl : (p : Int) < (L.length : Int) := by omega
  have G4 : Gr w ((((w.alloc (.cells #[.int .i64 p, .int .i64 n, .int .i64 0, .int .i64 on] 76)).alloc (.cells #[.int .u16 sp, .string nm, .int .i64 r, .bool cn] 71)).alloc (.cells #[.int .i64 0, .int .i64 0, .int .i64 0, .int .i64 0] 76)).alloc (.cells #[.int .i64 0, .int .i64 0, .int .i64 0, .int .i64 0] 51)) := ((((Gr.refl w).alloc _).alloc _).alloc _).alloc _
  have d0 := G4.cell' c0
  have d1 := G4.cell' c1
  have d2 := G4.cell' c2
  clear c0 c1 c2 hb G4
  have wp1 : IntKind.i64.wrap ((p : Int) + 1) = (p : Int) + 1 := by rw [IntKind.wrap_i64]; omega
  go_enter Tryd.func48, Tryd.ntmps48
  go_wp2_with (go_at_call 62; refine (fails52 _ _ _ _ _ _ _).mono ?_; rintro e w1 ⟨rfl, rfl⟩)
  exact bodyPost_ret (v := .tuple #[.agg #[.int .i64 0, .int .i64 0, .int .i64 0, .int .i64 0], .agg #[.int .i64 0, .int .i64 1, .int .i64 a, .int .i64 r], .bool true]) (by simp [results, Tryd.results48, go_sem]) rfl ⟨rfl, by repeat (first | exact Gr.refl _ | apply Gr.alloc | apply Gr.drew)⟩
set_option maxHeartbeats 1000000 in
theorem do31_12 (L : List Sp) (A : Option Addr) (c : Nat) (p : Nat) (n on : Int) (sp : Int) (nm : ByteArray) (r : Int) (cn : Bool) (w : World) (b off : Nat) (hA : A = some ⟨b, off, none⟩) (a x : Int) (c0 : w.cell? ⟨b, off + p * 3, none⟩ = some (.int .i64 12)) (c1 : w.cell? ⟨b, off + p * 3 + 1, none⟩ = some (.int .i64 a)) (c2 : w.cell? ⟨b, off + p * 3 + 2, none⟩ = some (.int .i64 x)) (hp : p < L.length) (hl : L.length ≤ 256) :
    Calls Tryd.prog 48 #[.slice A L.length c, .agg #[.int .i64 p, .int .i64 n, .int .i64 0, .int .i64 on], .agg #[.int .u16 sp, .string nm, .int .i64 r, .bool cn]] w fun e w' => e = .returned (.tuple #[.agg #[.int .i64 0, .int .i64 0, .int .i64 0, .int .i64 0], .agg #[.int .i64 0, .int .i64 2, .int .i64 a, .int .i64 r], .bool true]) ∧ Gr w w' := by
  subst hA
  have hb : b < w.heap.size := cell_lt c0
  have hpz : ((p : Int) == (L.length : Int)) = false := by simpa using (by omega : ¬ (p : Int) = (L.length : Int))
  have hpl : (p : Int) < (L.length : Int) := by omega
  have G4 : Gr w ((((w.alloc (.cells #[.int .i64 p, .int .i64 n, .int .i64 0, .int .i64 on] 76)).alloc (.cells #[.int .u16 sp, .string nm, .int .i64 r, .bool cn] 71)).alloc (.cells #[.int .i64 0, .int .i64 0, .int .i64 0, .int .i64 0] 76)).alloc (.cells #[.int .i64 0, .int .i64 0, .int .i64 0, .int .i64 0] 51)) := ((((Gr.refl w).alloc _).alloc _).alloc _).alloc _
  have d0 := G4.cell' c0
  have d1 := G4.cell' c1
  have d2 := G4.cell' c2
  clear c0 c1 c2 hb G4
  have wp1 : IntKind.i64.wrap ((p : Int) + 1) = (p : Int) + 1 := by rw [IntKind.wrap_i64]; omega
  go_enter Tryd.func48, Tryd.ntmps48
  go_wp2_with (go_at_call 62; refine (fails52 _ _ _ _ _ _ _).mono ?_; rintro e w1 ⟨rfl, rfl⟩)
  exact bodyPost_ret (v := .tuple #[.agg #[.int .i64 0, .int .i64 0, .int .i64 0, .int .i64 0], .agg #[.int .i64 0, .int .i64 2, .int .i64 a, .int .i64 r], .bool true]) (by simp [results, Tryd.results48, go_sem]) rfl ⟨rfl, by repeat (first | exact Gr.refl _ | apply Gr.alloc | apply Gr.drew)⟩
end Go.Proofs.YtcbckehdlbbbbaaDoor.Rc
/- One step of any recipe that may be, and steps until it waits or ends, done by the program; the conditions: the recipe may be and lies in memory, the state is ready, the key's space is a number of 16 bits. -/
namespace Go.Proofs.YtcbckehdlbbbbaaDoor.Rc
open Go.RowKit Go.Sort
set_option linter.unusedVariables false

/-- what surrounds a loader -/
structure Ar where
  sp : Int
  nm : ByteArray
  r : Int
  cn : Bool
def Ar.ok (x : Ar) : Prop := 0 ≤ x.sp ∧ x.sp ≤ 65535 ∧ x.nm.size ≤ 9223372036854775800 ∧ I64 x.r
def Ar.f (x : Ar) (L : List Sp) : Nat → Int → Rs := stepS (hI x.sp x.nm) x.r x.cn L
theorem do31 (L : List Sp) (A : Option Addr) (c : Nat) (p : Nat) (n on : Int) (x : Ar) (w : World) (hs : Sl w A L) (hg : Good L) (hn : I64 n) (hp : p ≤ L.length) (hx : x.ok) :
    Calls Tryd.prog 48 #[.slice A L.length c, .agg #[.int .i64 p, .int .i64 n, .int .i64 0, .int .i64 on], .agg #[.int .u16 x.sp, .string x.nm, .int .i64 x.r, .bool x.cn]] w fun e w' => e = .returned (rsV (x.f L p n)) ∧ Gr w w' := by
  obtain ⟨sp, nm, r, cn⟩ := x
  obtain ⟨h1, h2, h3, _⟩ := hx
  show Calls Tryd.prog 48 #[.slice A L.length c, .agg #[.int .i64 p, .int .i64 n, .int .i64 0, .int .i64 on], .agg #[.int .u16 sp, .string nm, .int .i64 r, .bool cn]] w fun e w' => e = .returned (rsV (stepS (hI sp nm) r cn L p n)) ∧ Gr w w'
  by_cases he : p = L.length
  · rw [stepS_end (by omega)]
    exact do31_end L A c p n on sp nm r cn w he
  · have hlt : p < L.length := by omega
    obtain ⟨b, off, hA, c0, c1, c2⟩ := hs p hlt
    have hgt : L[p]? = some L[p] := List.getElem?_eq_getElem hlt
    have hm : may L[p] := hg.2 _ (List.getElem_mem hlt)
    generalize L[p] = z at *
    obtain ⟨op, a, y⟩ := z
    have hl := hg.1
    rw [stepS_at hgt]
    have hmay : may3 op a y := hm
    unfold may3 at hmay
    rcases hmay with ⟨rfl, _⟩ | ⟨rfl, k1, k2, _⟩ | ⟨rfl, _⟩ | ⟨rfl, _⟩ | ⟨rfl, k1, k2, _⟩ | ⟨rfl, k1, k2, _⟩ | ⟨rfl, k1, k2, _⟩ | ⟨rfl, _⟩ | ⟨rfl, k1, k2, k3, k4⟩ | ⟨rfl, _⟩ | ⟨rfl, _⟩ | ⟨rfl, _⟩
    · rw [stepO_1]; exact do31_1 L A c p n on sp nm r cn w b off hA a y c0 c1 c2 hlt hl
    · rw [stepO_2]; exact do31_2 L A c p n on sp nm r cn w b off hA a y c0 c1 c2 hlt hl k1 k2
    · rw [stepO_3]; exact do31_3 L A c p n on sp nm r cn w b off hA a y c0 c1 c2 hlt hl h1 h2 h3
    · rw [stepO_4]; exact do31_4 L A c p n on sp nm r cn w b off hA a y c0 c1 c2 hlt hl
    · rw [stepO_5]; exact do31_5 L A c p n on sp nm r cn w b off hA a y c0 c1 c2 hlt hl k1 k2
    · rw [stepO_6]; exact do31_6 L A c p n on sp nm r cn w b off hA a y c0 c1 c2 hlt hl
    · rw [stepO_7]; exact do31_7 L A c p n on sp nm r cn w b off hA a y c0 c1 c2 hlt hl
    · rw [stepO_8]
      cases cn with
      | true => exact do31_8y L A c p n on sp nm r true w b off hA a y c0 c1 c2 hlt hl rfl
      | false => exact do31_8n L A c p n on sp nm r false w b off hA a y c0 c1 c2 hlt hl rfl
    · rw [stepO_9]
      cases hk : skipI a n cn with
      | true =>
        rw [if_pos rfl]
        by_cases hm2 : (p : Int) + 1 + y ≤ (L.length : Int)
        · have e : ((min (p + 1 + y.toNat) L.length : Nat) : Int) = (p : Int) + 1 + y := by omega
          show Calls _ _ _ _ fun e w' => e = .returned (.tuple #[ckV ((min (p + 1 + y.toNat) L.length : Nat) : Int) n 0 0, otV 0 0 0 0, .bool false]) ∧ Gr w w'
          rw [e]
          exact do31_9a L A c p n on sp nm r cn w b off hA a y c0 c1 c2 hlt hl k3 k4 hn hk hm2
        · have e : ((min (p + 1 + y.toNat) L.length : Nat) : Int) = (L.length : Int) := by omega
          show Calls _ _ _ _ fun e w' => e = .returned (.tuple #[ckV ((min (p + 1 + y.toNat) L.length : Nat) : Int) n 0 0, otV 0 0 0 0, .bool false]) ∧ Gr w w'
          rw [e]
          exact do31_9b L A c p n on sp nm r cn w b off hA a y c0 c1 c2 hlt hl k3 k4 hn hk (by omega)
      | false =>
        rw [if_neg (by decide)]
        exact do31_9n L A c p n on sp nm r cn w b off hA a y c0 c1 c2 hlt hl hn hk
    · rw [stepO_10]; exact do31_10 L A c p n on sp nm r cn w b off hA a y c0 c1 c2 hlt hl
    · rw [stepO_11]; exact do31_11 L A c p n on sp nm r cn w b off hA a y c0 c1 c2 hlt hl
    · rw [stepO_12]; exact do31_12 L A c p n on sp nm r cn w b off hA a y c0 c1 c2 hlt hl
theorem xor_in (n h : Int) : I64 (bits .xor .i64 n h) := ⟨bits_lo_i64 _ _ _, bits_hi_i64 _ _ _⟩
theorem f_go {x : Ar} {L : List Sp} {p : Nat} {n : Int} {q : Nat} {m wt on : Int} (hL : Good L) (hw : WfS L) (hn : I64 n) (e : x.f L p n = .go q m wt on) :
    p < q ∧ q ≤ L.length ∧ I64 m ∧ (wt = 0 ∨ wt = 1 ∨ wt = 2) ∧ (wt = 2 → 0 ≤ on ∧ on ≤ 4611686018427387904) ∧ I64 on ∧ (wt = 0 → on = 0) := step_go hL hw hn e (xor_in _ _)
/-- four cells of a block, that may be written -/
structure Bx (w : World) (b : Nat) (v0 v1 v2 v3 : Value) : Prop where
  lt : b < w.heap.size
  c0 : w.cell? ⟨b, 0, none⟩ = some v0
  c1 : w.cell? ⟨b, 1, none⟩ = some v1
  c2 : w.cell? ⟨b, 2, none⟩ = some v2
  c3 : w.cell? ⟨b, 3, none⟩ = some v3
  f0 : w.frozen? ⟨b, 0, none⟩ = false
  f1 : w.frozen? ⟨b, 1, none⟩ = false
  f2 : w.frozen? ⟨b, 2, none⟩ = false
  f3 : w.frozen? ⟨b, 3, none⟩ = false
theorem Bx.gr {w w' : World} {b : Nat} {v0 v1 v2 v3 : Value} (h : Bx w b v0 v1 v2 v3) (hg : Gr w w') : Bx w' b v0 v1 v2 v3 :=
  ⟨Nat.lt_of_lt_of_le h.lt hg.size, hg.cell' h.c0, hg.cell' h.c1, hg.cell' h.c2, hg.cell' h.c3, hg.fz h.f0 h.lt, hg.fz h.f1 h.lt, hg.fz h.f2 h.lt, hg.fz h.f3 h.lt⟩
theorem sc_same {w : World} {b o : Nat} {u v : Value} (h : w.cell? ⟨b, o, none⟩ = some u) : (w.setCell ⟨b, o, none⟩ v).cell? ⟨b, o, none⟩ = some v := World.cell?_setCell_same _ _ _ h
theorem sc_off {w : World} {b o q : Nat} {v : Value} (h : o ≠ q) : (w.setCell ⟨b, o, none⟩ v).cell? ⟨b, q, none⟩ = w.cell? ⟨b, q, none⟩ := World.cell?_setCell_other _ _ _ _ (fun e => h (by cases e; rfl))
theorem sc_far {w : World} {b d o q : Nat} {v : Value} (h : b ≠ d) : (w.setCell ⟨b, o, none⟩ v).cell? ⟨d, q, none⟩ = w.cell? ⟨d, q, none⟩ := World.cell?_setCell_other _ _ _ _ (fun e => h (by cases e; rfl))
theorem size_set (w : World) (a : Addr) (v : Value) : (w.setCell a v).heap.size = w.heap.size := by
  have h1 := (Gr.refl w)
  simp
theorem Bx.set {w : World} {b : Nat} {v0 v1 v2 v3 : Value} (h : Bx w b v0 v1 v2 v3) (u0 u1 u2 u3 : Value) : Bx ((((w.setCell ⟨b, 0, none⟩ u0).setCell ⟨b, 1, none⟩ u1).setCell ⟨b, 2, none⟩ u2).setCell ⟨b, 3, none⟩ u3) b u0 u1 u2 u3 := by
  refine ⟨by rw [size_set, size_set, size_set, size_set]; exact h.lt, ?_, ?_, ?_, ?_, ?_, ?_, ?_, ?_⟩
  · rw [sc_off (by decide), sc_off (by decide), sc_off (by decide)]; exact sc_same h.c0
  · rw [sc_off (by decide), sc_off (by decide)]; exact sc_same (by rw [sc_off (by decide)]; exact h.c1)
  · rw [sc_off (by decide)]; exact sc_same (by rw [sc_off (by decide), sc_off (by decide)]; exact h.c2)
  · exact sc_same (by rw [sc_off (by decide), sc_off (by decide), sc_off (by decide)]; exact h.c3)
  · simp only [World.frozen?_setCell]; exact h.f0
  · simp only [World.frozen?_setCell]; exact h.f1
  · simp only [World.frozen?_setCell]; exact h.f2
  · simp only [World.frozen?_setCell]; exact h.f3
theorem Bx.far {w : World} {b d : Nat} {v0 v1 v2 v3 : Value} (h : Bx w d v0 v1 v2 v3) (hd : b ≠ d) (u0 u1 u2 u3 : Value) : Bx ((((w.setCell ⟨b, 0, none⟩ u0).setCell ⟨b, 1, none⟩ u1).setCell ⟨b, 2, none⟩ u2).setCell ⟨b, 3, none⟩ u3) d v0 v1 v2 v3 := by
  refine ⟨by rw [size_set, size_set, size_set, size_set]; exact h.lt, ?_, ?_, ?_, ?_, ?_, ?_, ?_, ?_⟩
  · rw [sc_far hd, sc_far hd, sc_far hd, sc_far hd]; exact h.c0
  · rw [sc_far hd, sc_far hd, sc_far hd, sc_far hd]; exact h.c1
  · rw [sc_far hd, sc_far hd, sc_far hd, sc_far hd]; exact h.c2
  · rw [sc_far hd, sc_far hd, sc_far hd, sc_far hd]; exact h.c3
  · simp only [World.frozen?_setCell]; exact h.f0
  · simp only [World.frozen?_setCell]; exact h.f1
  · simp only [World.frozen?_setCell]; exact h.f2
  · simp only [World.frozen?_setCell]; exact h.f3
theorem Gr.set4 {w0 w : World} {b : Nat} (h : Gr w0 w) (hb : w0.heap.size ≤ b) (u0 u1 u2 u3 : Value) : Gr w0 ((((w.setCell ⟨b, 0, none⟩ u0).setCell ⟨b, 1, none⟩ u1).setCell ⟨b, 2, none⟩ u2).setCell ⟨b, 3, none⟩ u3) :=
  (((h.setCell hb _).setCell hb _).setCell hb _).setCell hb _
end Go.Proofs.YtcbckehdlbbbbaaDoor.Rc
/- Steps until it waits or ends, done by the program; the conditions: the recipe may be and lies in memory, the state is ready, the key's space is a number of 16 bits. -/
namespace Go.Proofs.YtcbckehdlbbbbaaDoor.Rc
open Go.RowKit Go.Sort
set_option linter.unusedVariables false
set_option linter.unusedSimpArgs false

def OnE (f : Nat → Int → Rs) (p : Nat) (n : Int) (e : Ending) : Prop := ∃ R, e = .returned (rsV R) ∧ On f p n R
/-- what the loop knows of its boxes -/
structure OnB (w wr : World) (q : Nat) (m o : Int) (x : Ar) : Prop where
  g : Gr w wr
  b0 : Bx wr w.heap.size (.int .i64 q) (.int .i64 m) (.int .i64 0) (.int .i64 o)
  b1 : Bx wr (w.heap.size + 1) (.int .u16 x.sp) (.string x.nm) (.int .i64 x.r) (.bool x.cn)
  b2 : Bx wr (w.heap.size + 1 + 1) (.int .i64 0) (.int .i64 0) (.int .i64 0) (.int .i64 0)
  b3 : Bx wr (w.heap.size + 1 + 1 + 1) (.int .i64 0) (.int .i64 0) (.int .i64 0) (.int .i64 0)
theorem OnB.gr {w wr w' : World} {q : Nat} {m o : Int} {x : Ar} (h : OnB w wr q m o x) (hg : Gr wr w') : OnB w w' q m o x :=
  ⟨h.g.trans hg, h.b0.gr hg, h.b1.gr hg, h.b2.gr hg, h.b3.gr hg⟩
theorem bx_new (w : World) (v0 v1 v2 v3 : Value) (t : TypeId) : Bx (w.alloc (.cells #[v0, v1, v2, v3] t)) w.heap.size v0 v1 v2 v3 := by
  refine ⟨by simp, by simp, by simp, by simp, by simp, by simp, by simp, by simp, by simp⟩
theorem Bx.al {w : World} {b : Nat} {v0 v1 v2 v3 : Value} (h : Bx w b v0 v1 v2 v3) (o : Obj) : Bx (w.alloc o) b v0 v1 v2 v3 := h.gr ((Gr.refl _).alloc o)
theorem onB_start (w : World) (q : Nat) (m o : Int) (x : Ar) : OnB w ((((w.alloc (.cells #[.int .i64 q, .int .i64 m, .int .i64 0, .int .i64 o] 76)).alloc (.cells #[.int .u16 x.sp, .string x.nm, .int .i64 x.r, .bool x.cn] 71)).alloc (.cells #[.int .i64 0, .int .i64 0, .int .i64 0, .int .i64 0] 76)).alloc (.cells #[.int .i64 0, .int .i64 0, .int .i64 0, .int .i64 0] 51)) q m o x := by
  refine ⟨((((Gr.refl w).alloc _).alloc _).alloc _).alloc _, (((bx_new w _ _ _ _ _).al _).al _).al _, ?_, ?_, ?_⟩
  · have := bx_new (w.alloc (.cells #[.int .i64 q, .int .i64 m, .int .i64 0, .int .i64 o] 76)) (.int .u16 x.sp) (.string x.nm) (.int .i64 x.r) (.bool x.cn) 71
    simp only [World.size_alloc] at this
    exact (this.al _).al _
  · have := bx_new ((w.alloc (.cells #[.int .i64 q, .int .i64 m, .int .i64 0, .int .i64 o] 76)).alloc (.cells #[.int .u16 x.sp, .string x.nm, .int .i64 x.r, .bool x.cn] 71)) (.int .i64 0) (.int .i64 0) (.int .i64 0) (.int .i64 0) 76
    simp only [World.size_alloc] at this
    exact this.al _
  · have := bx_new (((w.alloc (.cells #[.int .i64 q, .int .i64 m, .int .i64 0, .int .i64 o] 76)).alloc (.cells #[.int .u16 x.sp, .string x.nm, .int .i64 x.r, .bool x.cn] 71)).alloc (.cells #[.int .i64 0, .int .i64 0, .int .i64 0, .int .i64 0] 76)) (.int .i64 0) (.int .i64 0) (.int .i64 0) (.int .i64 0) 51
    simp only [World.size_alloc] at this
    exact this
theorem OnB.next {w wr : World} {q : Nat} {m o : Int} {x : Ar} (h : OnB w wr q m o x) (q' : Nat) (m' o' : Int) :
    OnB w ((((wr.setCell ⟨w.heap.size, 0, none⟩ (.int .i64 q')).setCell ⟨w.heap.size, 1, none⟩ (.int .i64 m')).setCell ⟨w.heap.size, 2, none⟩ (.int .i64 0)).setCell ⟨w.heap.size, 3, none⟩ (.int .i64 o')) q' m' o' x :=
  ⟨h.g.set4 (Nat.le_refl _) _ _ _ _, h.b0.set _ _ _ _, h.b1.far (by omega) _ _ _ _, h.b2.far (by omega) _ _ _ _, h.b3.far (by omega) _ _ _ _⟩
def placeOf (w wr : World) : Nat := (intOf ((wr.cell? ⟨w.heap.size, 0, none⟩).getD undef)).toNat
theorem OnB.place {w wr : World} {q : Nat} {m o : Int} {x : Ar} (h : OnB w wr q m o x) : placeOf w wr = q := by unfold placeOf; rw [h.b0.c0]; simp [intOf]
set_option maxHeartbeats 2000000 in
theorem on32 (L : List Sp) (A : Option Addr) (c : Nat) (p : Nat) (n on : Int) (x : Ar) (w : World) (hs : Sl w A L) (hg : Good L) (hw : WfS L) (hn : I64 n) (hp : p ≤ L.length) (hx : x.ok) :
    Calls Tryd.prog 41 #[.slice A L.length c, .agg #[.int .i64 p, .int .i64 n, .int .i64 0, .int .i64 on], .agg #[.int .u16 x.sp, .string x.nm, .int .i64 x.r, .bool x.cn]] w fun e w' => OnE (x.f L) p n e ∧ Gr w w' := by
  have HS : Hid (Sl w A L ∧ Good L ∧ WfS L ∧ x.ok) := ⟨hs, hg, hw, hx⟩
  have HP : Hid (I64 n ∧ p ≤ L.length) := ⟨hn, hp⟩
  clear hs hg hw hn hp hx
  go_enter Tryd.func41, Tryd.ntmps41
  go_wp2_with fail
  go_loopw [8] (fun v wr => v = .bool false ∧ ∃ (q : Nat) (m o : Int), Hid (q ≤ L.length ∧ I64 m ∧ (∀ R, On (x.f L) q m R → On (x.f L) p n R)) ∧ Hid (OnB w wr q m o x)) (fun _ wr => L.length + 1 - placeOf w wr)
  case atStart => exact ⟨rfl, p, n, on, ⟨HP.out.2, HP.out.1, fun R h => h⟩, onB_start w p n on x⟩
  case round =>
    obtain ⟨rfl, q, m, o, HQ, HB⟩ := hrel
    have HC : Hid _ := do31 L A c q m o x wr (HS.out.1.gr HB.out.g) HS.out.2.1 HQ.out.2.1 HQ.out.1 HS.out.2.2.2
    have a0 := HB.out.b0.c0
    have a1 := HB.out.b0.c1
    have a2 := HB.out.b0.c2
    have a3 := HB.out.b0.c3
    have b0 := HB.out.b1.c0
    have b1 := HB.out.b1.c1
    have b2 := HB.out.b1.c2
    have b3 := HB.out.b1.c3
    rcases hR0 : x.f L q m with ⟨q', m', wt, o'⟩ | ⟨v, k, cc, r⟩
    rotate_left
    · have hR : x.f L q m = .fin v k cc r := hR0
      clear hR0
      rw [hR] at HC
      have HE : Hid (On (x.f L) p n (.fin v k cc r)) := HQ.out.2.2 _ (.fin hR)
      clear hR
      go_wp2_with fail
      refine Calls.mono HC.out ?_
      rintro e w1 ⟨rfl, hg⟩
      simp only [rsV_go, rsV_fin, ckV, otV]
      have HB2 : Hid (OnB w ((w1.alloc (.cells #[.int .i64 0, .int .i64 0, .int .i64 0, .int .i64 0] 76)).alloc (.cells #[.int .i64 v, .int .i64 k, .int .i64 cc, .int .i64 r] 51)) q m o x) := (HB.out.gr hg).gr (((Gr.refl _).alloc _).alloc _)
      clear a0 a1 a2 a3 b0 b1 b2 b3
      have HN : Hid (Bx ((w1.alloc (.cells #[.int .i64 0, .int .i64 0, .int .i64 0, .int .i64 0] 76)).alloc (.cells #[.int .i64 v, .int .i64 k, .int .i64 cc, .int .i64 r] 51)) w1.heap.size (.int .i64 0) (.int .i64 0) (.int .i64 0) (.int .i64 0)) := (bx_new w1 _ _ _ _ _).al _
      have HN2 : Hid (Bx ((w1.alloc (.cells #[.int .i64 0, .int .i64 0, .int .i64 0, .int .i64 0] 76)).alloc (.cells #[.int .i64 v, .int .i64 k, .int .i64 cc, .int .i64 r] 51)) (w1.heap.size + 1) (.int .i64 v) (.int .i64 k) (.int .i64 cc) (.int .i64 r)) := by
        have := bx_new (w1.alloc (.cells #[.int .i64 0, .int .i64 0, .int .i64 0, .int .i64 0] 76)) (.int .i64 v) (.int .i64 k) (.int .i64 cc) (.int .i64 r) 51
        simp only [World.size_alloc] at this
        exact this
      have hlt := (HB.out.gr hg).b3.lt
      go_wp2_with fail
      generalize hV : (w1.alloc (.cells #[.int .i64 0, .int .i64 0, .int .i64 0, .int .i64 0] 76)).alloc (.cells #[.int .i64 v, .int .i64 k, .int .i64 cc, .int .i64 r] 51) = V at *
      clear hV
      obtain ⟨R2, hR2⟩ : ∃ R2, w.heap.size + 1 + 1 = R2 := ⟨_, rfl⟩
      obtain ⟨R3, hR3⟩ : ∃ R3, w.heap.size + 1 + 1 + 1 = R3 := ⟨_, rfl⟩
      obtain ⟨N1, hN1⟩ : ∃ N1, w1.heap.size = N1 := ⟨_, rfl⟩
      obtain ⟨N2, hN2⟩ : ∃ N2, w1.heap.size + 1 = N2 := ⟨_, rfl⟩
      have n1 : ¬ R2 = R3 := by omega
      have n2 : ¬ R2 = N1 := by omega
      have n3 : ¬ R2 = N2 := by omega
      have n4 : ¬ R3 = N1 := by omega
      have n5 : ¬ R3 = N2 := by omega
      have HG : Hid (Gr w V ∧ w.heap.size ≤ R2 ∧ w.heap.size ≤ R3) := ⟨HB2.out.g, by omega, by omega⟩
      have B2 := HB2.out.b2
      have B3 := HB2.out.b3
      have M1 := HN.out
      have M2 := HN2.out
      rw [hR3] at B3 ⊢
      rw [hR2] at B2 ⊢
      rw [hN2] at M2 ⊢
      rw [hN1] at M1 ⊢
      clear hR2 hR3 hN1 hN2 HB2 HN HN2 hg hlt HB HQ HC
      have HX : Hid _ := (B3.far n1 (.int .i64 0) (.int .i64 0) (.int .i64 0) (.int .i64 0)).set (.int .i64 v) (.int .i64 k) (.int .i64 cc) (.int .i64 r)
      have HY : Hid _ := (B2.set (.int .i64 0) (.int .i64 0) (.int .i64 0) (.int .i64 0)).far (fun e => n1 e.symm) (.int .i64 v) (.int .i64 k) (.int .i64 cc) (.int .i64 r)
      obtain ⟨_, p0, p1, p2, p3, q0, q1, q2, q3⟩ := B2
      obtain ⟨_, r0, r1, r2, r3, s0, s1, s2, s3⟩ := B3
      obtain ⟨_, t0, t1, t2, t3, _, _, _, _⟩ := M1
      obtain ⟨_, v0, v1, v2, v3, _, _, _, _⟩ := M2
      go_region
      all_goals
        go_wp2
        obtain ⟨_, x0, x1, x2, x3, _, _, _, _⟩ := HX.out
        obtain ⟨_, y0, y1, y2, y3, _, _, _, _⟩ := HY.out
        have hw := ((HG.out.1.set4 HG.out.2.1 (.int .i64 0) (.int .i64 0) (.int .i64 0) (.int .i64 0)).set4 HG.out.2.2 (.int .i64 v) (.int .i64 k) (.int .i64 cc) (.int .i64 r)).drew
        generalize V.setCell ⟨R2, 0, none⟩ (.int .i64 0) = V1 at *
        exact bodyPost_ret (v := .tuple #[.agg #[.int .i64 0, .int .i64 0, .int .i64 0, .int .i64 0], .agg #[.int .i64 v, .int .i64 k, .int .i64 cc, .int .i64 r], .bool true]) (by simp [results, Tryd.results41, go_sem, x0, x1, x2, x3, y0, y1, y2, y3]) rfl ⟨⟨.fin v k cc r, rfl, HE.out⟩, hw⟩
    · have hR : x.f L q m = .go q' m' wt o' := hR0
      clear hR0
      rw [hR] at HC
      obtain ⟨h1, h2, h3, h4, h5, h6, h7⟩ := f_go HS.out.2.1 HS.out.2.2.1 HQ.out.2.1 hR
      by_cases hwt : wt = 0
      · subst hwt
        have ho : o' = 0 := h7 rfl
        subst ho
        have HQ2 : Hid (q' ≤ L.length ∧ I64 m' ∧ (∀ R, On (x.f L) q' m' R → On (x.f L) p n R)) := ⟨h2, h3, fun R h => HQ.out.2.2 R (.step hR h)⟩
        have HP2 : Hid (q < q' ∧ q' ≤ L.length) := ⟨h1, h2⟩
        clear hR h1 h2 h3 h4 h5 h6 h7
        go_wp2_with fail
        refine Calls.mono HC.out ?_
        rintro e w1 ⟨rfl, hg⟩
        simp only [rsV_go, rsV_fin, ckV, otV]
        have HB2 : Hid (OnB w ((w1.alloc (.cells #[.int .i64 q', .int .i64 m', .int .i64 0, .int .i64 0] 76)).alloc (.cells #[.int .i64 0, .int .i64 0, .int .i64 0, .int .i64 0] 51)) q m o x) := (HB.out.gr hg).gr (((Gr.refl _).alloc _).alloc _)
        have c0 := HB2.out.b0.c0
        have c1 := HB2.out.b0.c1
        have c2 := HB2.out.b0.c2
        have c3 := HB2.out.b0.c3
        have d0 := HB2.out.b0.f0
        have d1 := HB2.out.b0.f1
        have d2 := HB2.out.b0.f2
        have d3 := HB2.out.b0.f3
        have HM : Hid (placeOf w wr = q) := HB.out.place
        clear a0 a1 a2 a3 b0 b1 b2 b3
        go_wp2_with fail
        go_roundw
        case rel => exact ⟨by first | rfl | trivial, q', m', 0, HQ2.out, HB2.out.next q' m' 0⟩
        case measure =>
          have h1 := (HB2.out.next q' m' 0).place
          have h2 := HP2.out
          rw [HM.out, h1]
          omega
      · have hne : (wt == 0) = false := by simpa using hwt
        have HE : Hid (On (x.f L) p n (.go q' m' wt o')) := HQ.out.2.2 _ (.wait hR hwt)
        clear hR h1 h2 h3 h4 h5 h6 h7 hwt
        go_wp2_with fail
        refine Calls.mono HC.out ?_
        rintro e w1 ⟨rfl, hg⟩
        simp only [rsV_go, rsV_fin, ckV, otV]
        have HB2 : Hid (OnB w ((w1.alloc (.cells #[.int .i64 q', .int .i64 m', .int .i64 wt, .int .i64 o'] 76)).alloc (.cells #[.int .i64 0, .int .i64 0, .int .i64 0, .int .i64 0] 51)) q m o x) := (HB.out.gr hg).gr (((Gr.refl _).alloc _).alloc _)
        clear a0 a1 a2 a3 b0 b1 b2 b3
        have HN : Hid (Bx ((w1.alloc (.cells #[.int .i64 q', .int .i64 m', .int .i64 wt, .int .i64 o'] 76)).alloc (.cells #[.int .i64 0, .int .i64 0, .int .i64 0, .int .i64 0] 51)) w1.heap.size (.int .i64 q') (.int .i64 m') (.int .i64 wt) (.int .i64 o')) := (bx_new w1 _ _ _ _ _).al _
        have HN2 : Hid (Bx ((w1.alloc (.cells #[.int .i64 q', .int .i64 m', .int .i64 wt, .int .i64 o'] 76)).alloc (.cells #[.int .i64 0, .int .i64 0, .int .i64 0, .int .i64 0] 51)) (w1.heap.size + 1) (.int .i64 0) (.int .i64 0) (.int .i64 0) (.int .i64 0)) := by
          have := bx_new (w1.alloc (.cells #[.int .i64 q', .int .i64 m', .int .i64 wt, .int .i64 o'] 76)) (.int .i64 0) (.int .i64 0) (.int .i64 0) (.int .i64 0) 51
          simp only [World.size_alloc] at this
          exact this
        have hlt := (HB.out.gr hg).b3.lt
        go_wp2_with fail
        generalize hV : (w1.alloc (.cells #[.int .i64 q', .int .i64 m', .int .i64 wt, .int .i64 o'] 76)).alloc (.cells #[.int .i64 0, .int .i64 0, .int .i64 0, .int .i64 0] 51) = V at *
        clear hV
        obtain ⟨R2, hR2⟩ : ∃ R2, w.heap.size + 1 + 1 = R2 := ⟨_, rfl⟩
        obtain ⟨R3, hR3⟩ : ∃ R3, w.heap.size + 1 + 1 + 1 = R3 := ⟨_, rfl⟩
        obtain ⟨N1, hN1⟩ : ∃ N1, w1.heap.size = N1 := ⟨_, rfl⟩
        obtain ⟨N2, hN2⟩ : ∃ N2, w1.heap.size + 1 = N2 := ⟨_, rfl⟩
        have n1 : ¬ R2 = R3 := by omega
        have n2 : ¬ R2 = N1 := by omega
        have n3 : ¬ R2 = N2 := by omega
        have n4 : ¬ R3 = N1 := by omega
        have n5 : ¬ R3 = N2 := by omega
        have HG : Hid (Gr w V ∧ w.heap.size ≤ R2 ∧ w.heap.size ≤ R3) := ⟨HB2.out.g, by omega, by omega⟩
        have B2 := HB2.out.b2
        have B3 := HB2.out.b3
        have M1 := HN.out
        have M2 := HN2.out
        rw [hR3] at B3 ⊢
        rw [hR2] at B2 ⊢
        rw [hN2] at M2 ⊢
        rw [hN1] at M1 ⊢
        clear hR2 hR3 hN1 hN2 HB2 HN HN2 hg hlt HB HQ HC
        have HX : Hid _ := (B3.far n1 (.int .i64 q') (.int .i64 m') (.int .i64 wt) (.int .i64 o')).set (.int .i64 0) (.int .i64 0) (.int .i64 0) (.int .i64 0)
        have HY : Hid _ := (B2.set (.int .i64 q') (.int .i64 m') (.int .i64 wt) (.int .i64 o')).far (fun e => n1 e.symm) (.int .i64 0) (.int .i64 0) (.int .i64 0) (.int .i64 0)
        obtain ⟨_, p0, p1, p2, p3, q0, q1, q2, q3⟩ := B2
        obtain ⟨_, r0, r1, r2, r3, s0, s1, s2, s3⟩ := B3
        obtain ⟨_, t0, t1, t2, t3, _, _, _, _⟩ := M1
        obtain ⟨_, v0, v1, v2, v3, _, _, _, _⟩ := M2
        go_region
        all_goals
          go_wp2
          obtain ⟨_, x0, x1, x2, x3, _, _, _, _⟩ := HX.out
          obtain ⟨_, y0, y1, y2, y3, _, _, _, _⟩ := HY.out
          have hw := ((HG.out.1.set4 HG.out.2.1 (.int .i64 q') (.int .i64 m') (.int .i64 wt) (.int .i64 o')).set4 HG.out.2.2 (.int .i64 0) (.int .i64 0) (.int .i64 0) (.int .i64 0)).drew
          generalize V.setCell ⟨R2, 0, none⟩ (.int .i64 q') = V1 at *
          exact bodyPost_ret (v := .tuple #[.agg #[.int .i64 q', .int .i64 m', .int .i64 wt, .int .i64 o'], .agg #[.int .i64 0, .int .i64 0, .int .i64 0, .int .i64 0], .bool false]) (by simp [results, Tryd.results41, go_sem, x0, x1, x2, x3, y0, y1, y2, y3]) rfl ⟨⟨(.go q' m' wt o'), rfl, HE.out⟩, hw⟩
end Go.Proofs.YtcbckehdlbbbbaaDoor.Rc
