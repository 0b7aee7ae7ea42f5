/- The contracts of the library's Index, Min and Max at whole numbers, of a pick modulo how many there are, and of a lot that is drawn; no conditions but those that each states. -/
import Derived.Test.YthpkkfmphoopnaaJsm
namespace Go.Proofs.Ythpkkfmphoopnaa.Re
open Go.RowKit Go.Maps Go.ChangeMaps
set_option linter.unusedVariables false
set_option linter.unusedSimpArgs false
theorem ret_int {k : IntKind} {a b : Int} (h : a = b) : Ending.returned (.int k a) = .returned (.int k b) := by rw [h]
theorem ret2 {k1 k2 : IntKind} {a b a' b' : Int} (h1 : a = a') (h2 : b = b') : Ending.returned (.tuple #[.int k1 a, .int k2 b]) = .returned (.tuple #[.int k1 a', .int k2 b']) := by rw [h1, h2]
def idxI (xs : List Int) (x : Int) : Int := if x ∈ xs then (xs.idxOf x : Int) else -1
theorem idx_first {xs : List Int} {x : Int} {n : Nat} (hn : n < xs.length) (h : ¬ x ∈ xs.take n) (e : xs[n] = x) : xs.idxOf x = n := by
  have h1 : xs = xs.take n ++ xs.drop n := (List.take_append_drop n xs).symm
  have h2 : xs.drop n = x :: xs.drop (n + 1) := by rw [List.drop_eq_getElem_cons hn, e]
  have h3 : (xs.take n).length = n := by rw [List.length_take]; omega
  rw [h2] at h1
  rw [h1, List.idxOf_append, if_neg h, h3]
  simp
theorem not_take {xs : List Int} {x : Int} {n : Nat} (hn : n < xs.length) (h : ¬ x ∈ xs.take n) (e : ¬ x = xs[n]) : ¬ x ∈ xs.take (n + 1) := by
  rw [List.take_succ_eq_append_getElem hn]
  intro q
  rcases List.mem_append.1 q with q | q
  · exact h q
  · simp at q; exact e q
set_option maxHeartbeats 1000000 in
theorem index_ (w : World) (v : Value) (xs : List Int) (x : Int) (hu : Ra w v xs) (hl : xs.length ≤ 65536) : Calls Try.prog 32 #[v, .int .i64 x] w fun e w' => e = .returned (.int .i64 (idxI xs x)) ∧ w' = w := by
  obtain ⟨a1, c1, rfl, _⟩ := hu.form
  have HB := hid hu
  clear hu
  obtain ⟨N, hN⟩ : ∃ N, N = xs.length := ⟨_, rfl⟩
  have HN := hid hN
  rw [← hN] at HB hl ⊢
  clear hN
  have zl : (N : Int) < 9223372036854775807 := by omega
  clear hl
  go_enter Try.func32, Try.ntmps32
  go_wp2
  go_loop [8] (fun i => ∃ n : Nat, i = .int .i64 n ∧ n ≤ N ∧ Hid (¬ x ∈ xs.take n)) (fun i => N - (intOf i).toNat)
  case atStart => exact ⟨0, rfl, Nat.zero_le _, hid (by simp)⟩
  case round =>
    obtain ⟨n, rfl, hn, HX⟩ := hrel
    by_cases hlt : n < N
    · have zn : (n : Int) < (N : Int) := by omega
      have hnl : n < xs.length := by have := HN.out; omega
      obtain ⟨g2, of2, rfl, _, y2⟩ := HB.out.cell hnl
      have HY : Hid (x = xs[n] → idxI xs x = (n : Int)) := hid (fun e => by
        unfold idxI
        rw [if_pos (by rw [e]; exact List.getElem_mem hnl), idx_first hnl HX.out e.symm])
      have HZ : Hid (¬ x = xs[n] → ¬ x ∈ xs.take (n + 1)) := hid (fun e => not_take hnl HX.out e)
      generalize xs[n] = ki at *
      clear hnl
      by_cases he : x = ki
      · have hb : (x == ki) = true := by simp [he]
        have HE := hid (HY.out he)
        clear he
        go_wp2
        go_ret
        exact ⟨by rw [HE.out]; rfl, rfl⟩
      · have hb : (x == ki) = false := by simp [he]
        have HZ2 := hid (HZ.out he)
        clear he
        go_wp2
        go_round
        case rel => exact ⟨n + 1, by go_num, by omega, HZ2⟩
        case measure => simp [intOf]; omega
    · have zn : ¬ (n : Int) < (N : Int) := by omega
      have HE : Hid (idxI xs x = -1) := hid (by
        have hx := HX.out
        have : xs.take n = xs := List.take_of_length_le (by have := HN.out; omega)
        rw [this] at hx
        unfold idxI
        rw [if_neg hx])
      go_wp2
      go_ret
      exact ⟨by rw [HE.out]; rfl, rfl⟩
theorem min_next {xs : List Int} {n : Nat} (hp : 0 < n) (hn : n < xs.length) : minL (xs.take (n + 1)) = min (minL (xs.take n)) xs[n] := by
  cases xs with
  | nil => simp at hn
  | cons a l =>
    obtain ⟨k, rfl⟩ : ∃ k, n = k + 1 := ⟨n - 1, by omega⟩
    simp only [List.length_cons] at hn
    have hk : k < l.length := by omega
    simp only [minL, List.take_succ_cons, List.tail_cons, List.headD_cons, List.getElem_cons_succ]
    rw [List.take_succ_eq_append_getElem hk, List.foldl_append]
    rfl
theorem max_next {xs : List Int} {n : Nat} (hp : 0 < n) (hn : n < xs.length) : maxL (xs.take (n + 1)) = max (maxL (xs.take n)) xs[n] := by
  cases xs with
  | nil => simp at hn
  | cons a l =>
    obtain ⟨k, rfl⟩ : ∃ k, n = k + 1 := ⟨n - 1, by omega⟩
    simp only [List.length_cons] at hn
    have hk : k < l.length := by omega
    simp only [maxL, List.take_succ_cons, List.tail_cons, List.headD_cons, List.getElem_cons_succ]
    rw [List.take_succ_eq_append_getElem hk, List.foldl_append]
    rfl
theorem min_one {xs : List Int} (h : 0 < xs.length) : minL (xs.take 1) = xs[0] := by
  cases xs with
  | nil => simp at h
  | cons a l => simp [minL]
theorem max_one {xs : List Int} (h : 0 < xs.length) : maxL (xs.take 1) = xs[0] := by
  cases xs with
  | nil => simp at h
  | cons a l => simp [maxL]
set_option maxHeartbeats 1000000 in
theorem min_ (w : World) (v : Value) (xs : List Int) (hu : Ra w v xs) (hp : 0 < xs.length) (hl : xs.length ≤ 65536) : Calls Try.prog 43 #[v] w fun e w' => e = .returned (.int .i64 (minL xs)) ∧ w' = w := by
  obtain ⟨a1, c1, rfl, _⟩ := hu.form
  have HB := hid hu
  have HO := hid (min_one hp)
  obtain ⟨g0, of0, rfl, _, y0⟩ := hu.cell hp
  rw [Nat.add_zero] at y0
  generalize xs[0] = k0 at *
  clear hu
  obtain ⟨N, hN⟩ : ∃ N, N = xs.length := ⟨_, rfl⟩
  have HN := hid hN
  rw [← hN] at HB hl hp ⊢
  clear hN
  have zl : (N : Int) < 9223372036854775807 := by omega
  obtain ⟨NI, hNI⟩ : ∃ NI : Int, (N : Int) = NI := ⟨_, rfl⟩
  have HNI := hid hNI
  have z1 : 1 ≤ NI := by omega
  have zl' : NI < 9223372036854775807 := by omega
  clear hl zl
  go_enter Try.func43, Try.ntmps43
  go_wp2
  go_loop [3, 4] (fun m i => ∃ (n : Nat) (k : Int), m = .int .i64 k ∧ i = .int .i64 n ∧ n ≤ N ∧ 1 ≤ n ∧ Hid (k = minL (xs.take n))) (fun _ i => N - (intOf i).toNat)
  case atStart => exact ⟨1, k0, rfl, rfl, by omega, Nat.le_refl _, HO.out.symm⟩
  case round =>
    obtain ⟨n, k, rfl, rfl, hn, h1, HX⟩ := hrel
    by_cases hlt : n < N
    · have zn : (n : Int) < NI := by omega
      have hnl : n < xs.length := by have := HN.out; omega
      obtain ⟨g2, of2, e2, _, y2⟩ := HB.out.cell hnl
      cases e2
      have HZ : Hid (min k xs[n] = minL (xs.take (n + 1))) := hid (by rw [min_next (by omega) hnl, HX.out])
      generalize xs[n] = ki at *
      clear hnl
      go_wp2
      go_round
      case rel => exact ⟨n + 1, min k ki, (by congr 1; split <;> omega), by go_num, by omega, by omega, HZ⟩
      case measure => simp [intOf]; omega
    · have zn : ¬ (n : Int) < NI := by omega
      have HE : Hid (k = minL xs) := hid (by
        have hx := HX.out
        have : xs.take n = xs := List.take_of_length_le (by have := HN.out; omega)
        rwa [this] at hx)
      go_wp2
      go_ret
      exact ⟨by rw [HE.out]; rfl, rfl⟩
set_option maxHeartbeats 1000000 in
theorem max_ (w : World) (v : Value) (xs : List Int) (hu : Ra w v xs) (hp : 0 < xs.length) (hl : xs.length ≤ 65536) : Calls Try.prog 44 #[v] w fun e w' => e = .returned (.int .i64 (maxL xs)) ∧ w' = w := by
  obtain ⟨a1, c1, rfl, _⟩ := hu.form
  have HB := hid hu
  have HO := hid (max_one hp)
  obtain ⟨g0, of0, rfl, _, y0⟩ := hu.cell hp
  rw [Nat.add_zero] at y0
  generalize xs[0] = k0 at *
  clear hu
  obtain ⟨N, hN⟩ : ∃ N, N = xs.length := ⟨_, rfl⟩
  have HN := hid hN
  rw [← hN] at HB hl hp ⊢
  clear hN
  have zl : (N : Int) < 9223372036854775807 := by omega
  obtain ⟨NI, hNI⟩ : ∃ NI : Int, (N : Int) = NI := ⟨_, rfl⟩
  have HNI := hid hNI
  have z1 : 1 ≤ NI := by omega
  have zl' : NI < 9223372036854775807 := by omega
  clear hl zl
  go_enter Try.func44, Try.ntmps44
  go_wp2
  go_loop [3, 4] (fun m i => ∃ (n : Nat) (k : Int), m = .int .i64 k ∧ i = .int .i64 n ∧ n ≤ N ∧ 1 ≤ n ∧ Hid (k = maxL (xs.take n))) (fun _ i => N - (intOf i).toNat)
  case atStart => exact ⟨1, k0, rfl, rfl, by omega, Nat.le_refl _, HO.out.symm⟩
  case round =>
    obtain ⟨n, k, rfl, rfl, hn, h1, HX⟩ := hrel
    by_cases hlt : n < N
    · have zn : (n : Int) < NI := by omega
      have hnl : n < xs.length := by have := HN.out; omega
      obtain ⟨g2, of2, e2, _, y2⟩ := HB.out.cell hnl
      cases e2
      have HZ : Hid (max k xs[n] = maxL (xs.take (n + 1))) := hid (by rw [max_next (by omega) hnl, HX.out])
      generalize xs[n] = ki at *
      clear hnl
      go_wp2
      go_round
      case rel => exact ⟨n + 1, max k ki, (by congr 1; split <;> omega), by go_num, by omega, by omega, HZ⟩
      case measure => simp [intOf]; omega
    · have zn : ¬ (n : Int) < NI := by omega
      have HE : Hid (k = maxL xs) := hid (by
        have hx := HX.out
        have : xs.take n = xs := List.take_of_length_le (by have := HN.out; omega)
        rwa [this] at hx)
      go_wp2
      go_ret
      exact ⟨by rw [HE.out]; rfl, rfl⟩
theorem tmod_add (p : Int) {n : Nat} (hn : 0 < n) : (if p.tmod (n : Int) < 0 then p.tmod (n : Int) + (n : Int) else p.tmod (n : Int)) = ((aroundN p n : Nat) : Int) := by
  have h2 := Int.emod_nonneg p (show (n : Int) ≠ 0 by omega)
  have h3 := Int.emod_lt_of_pos p (show (0 : Int) < (n : Int) by omega)
  have e : ((aroundN p n : Nat) : Int) = p % (n : Int) := by unfold aroundN; omega
  rw [e]
  have h := Int.tmod_eq_emod (a := p) (b := (n : Int))
  generalize p.tmod (n : Int) = t at *
  generalize p % (n : Int) = r at *
  split at h
  · rw [if_neg (by omega)]; omega
  · rw [if_pos (by omega)]; omega
theorem tmod_range (p : Int) {n : Nat} (hn : 0 < n) : -(n : Int) < p.tmod (n : Int) ∧ p.tmod (n : Int) < (n : Int) := by
  have h2 := Int.emod_nonneg p (show (n : Int) ≠ 0 by omega)
  have h3 := Int.emod_lt_of_pos p (show (0 : Int) < (n : Int) by omega)
  have h := Int.tmod_eq_emod (a := p) (b := (n : Int))
  by_cases hd : 0 ≤ p ∨ (n : Int) ∣ p
  · rw [if_pos hd] at h
    omega
  · rw [if_neg hd] at h
    have h4 : p % (n : Int) ≠ 0 := fun e => hd (Or.inr (Int.dvd_of_emod_eq_zero e))
    omega
set_option maxHeartbeats 1000000 in
theorem around_ (w : World) (p : Int) (n : Nat) (hp : W64 p) (hn : 0 < n) (hl : n ≤ 65536) : Calls Try.prog 34 #[.int .i64 p, .int .i64 (n : Int)] w fun e w' => e = .returned (.int .i64 ((aroundN p n : Nat) : Int)) ∧ w' = w := by
  have HE := hid (tmod_add p hn)
  have hlt := aroundN_lt p hn
  have hz : ((n : Int) == 0) = false := by simp; omega
  have hz2 : ¬ (n : Int) = 0 := by omega
  have hz3 : ¬ (n : Int) = -1 := by omega
  have hpl := hp.lo
  have hph := hp.hi
  obtain ⟨ht1, ht2⟩ := tmod_range p hn
  have w1 : IntKind.i64.wrap (p.tmod (n : Int)) = p.tmod (n : Int) := by simp [IntKind.wrap, IntKind.bits, IntKind.signed, IntKind.min, IntKind.max]; omega
  have w2 : IntKind.i64.wrap (p.tmod (n : Int) + (n : Int)) = p.tmod (n : Int) + (n : Int) := by simp [IntKind.wrap, IntKind.bits, IntKind.signed, IntKind.min, IntKind.max]; omega
  by_cases h0 : p.tmod (n : Int) < 0
  · have HF := hid (by have h := HE.out; rw [if_pos h0] at h; exact h : p.tmod (n : Int) + (n : Int) = ((aroundN p n : Nat) : Int))
    clear HE hlt ht1 ht2 hp hpl hph
    go_enter Try.func34, Try.ntmps34
    go_wp2
    go_ret
    exact ⟨by rw [← HF.out]; rfl, rfl⟩
  · have HF := hid (by have h := HE.out; rw [if_neg h0] at h; exact h : p.tmod (n : Int) = ((aroundN p n : Nat) : Int))
    clear HE hlt ht1 ht2 hp hpl hph
    go_enter Try.func34, Try.ntmps34
    go_wp2
    go_ret
    exact ⟨by rw [← HF.out]; rfl, rfl⟩
end Go.Proofs.Ythpkkfmphoopnaa.Re
