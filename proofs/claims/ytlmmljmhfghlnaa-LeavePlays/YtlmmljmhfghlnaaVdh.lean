/- The contracts of the document's and the law's small functions: has, is, and the comparisons of numbers and of seats; no conditions but those that each states. -/
import Derived.Test.YtlmmljmhfghlnaaVst
namespace Go.Proofs.Ytlmmljmhfghlnaa
open Go.RowKit Go.Maps Go.ChangeMaps
set_option linter.unusedVariables false
set_option linter.unusedSimpArgs false
theorem Rs.n1 {w : World} {a : Option Addr} {n c i : Nat} {l : List Int} (h : Rs 3 1 w (.slice a n c) l.length (ints l)) (hi : i < l.length) : ∃ g off, a = some ⟨g, off, none⟩ ∧ w.cell? ⟨g, off + i, none⟩ = some (.int .i64 l[i]) := by
  obtain ⟨a', c', e, _⟩ := h.form
  cases e
  exact h.cell (j := i) (u := .int .i64 l[i]) (by unfold ints; rw [List.getElem?_map, List.getElem?_eq_getElem hi]; rfl) (by omega)
theorem Rs.n3 {w : World} {t : Nat} {a : Option Addr} {n c i : Nat} {l : List Se} (h : Rs t 3 w (.slice a n c) l.length (l.flatMap sc)) (hi : i < l.length) : ∃ g off, a = some ⟨g, off, none⟩ ∧ w.cell? ⟨g, off + i * 3, none⟩ = some (.int .i64 l[i].1) ∧ w.cell? ⟨g, off + i * 3 + 1, none⟩ = some (.int .i64 l[i].2.1) ∧ w.cell? ⟨g, off + i * 3 + 2, none⟩ = some (.int .i64 l[i].2.2) := by
  obtain ⟨a', c', e, _⟩ := h.form
  cases e
  have q := fun j hj => flat_at (f := sc) (k := 3) sc_len l i j l[i] (List.getElem?_eq_getElem hi) hj
  obtain ⟨g, off, e0, h0⟩ := h.cell (j := i * 3) (u := .int .i64 l[i].1) (q 0 (by omega)) (by omega)
  obtain ⟨g1, off1, e1, h1⟩ := h.cell (j := i * 3 + 1) (u := .int .i64 l[i].2.1) (q 1 (by omega)) (by omega)
  obtain ⟨g2, off2, e2, h2⟩ := h.cell (j := i * 3 + 2) (u := .int .i64 l[i].2.2) (q 2 (by omega)) (by omega)
  rw [e0] at e1 e2
  cases e1
  cases e2
  exact ⟨g, off, e0, h0, h1, h2⟩
theorem Rs.fm {t k : Nat} {w : World} {v : Value} {n : Nat} {vs : List Value} (h : Rs t k w v n vs) : ∃ a c, v = .slice a n c := by
  obtain ⟨a, c, e, _⟩ := h.form
  exact ⟨a, c, e⟩
set_option maxHeartbeats 1000000 in
theorem rhas_ (w : World) (u : Value) (l : List Int) (x : Int) (hu : Rs 3 1 w u l.length (ints l)) (hl : l.length ≤ 20000000000000) : Calls Try.prog 32 #[u, .int .i64 x] w fun e w' => e = .returned (.bool (decide (x ∈ l))) ∧ Touch [] w w' := by
  obtain ⟨a1, c1, rfl⟩ := hu.fm
  have HB := hid hu
  clear hu
  obtain ⟨N, hN⟩ : ∃ N, N = l.length := ⟨_, rfl⟩
  have HN := hid hN
  rw [← hN] at hl ⊢
  have HB2 : Hid (∀ w', Touch [] w w' → ∀ n (h : n < l.length), ∃ g off, a1 = some ⟨g, off, none⟩ ∧ w'.cell? ⟨g, off + n, none⟩ = some (.int .i64 l[n])) := hid (fun w' t n h => (HB.out.keep0 t).n1 h)
  clear hN HB
  have zl : (N : Int) < 9223372036854775807 := by omega
  clear hl
  go_enter Try.func32, Try.ntmps32
  go_wp2
  go_loopw [5] (fun i wr => ∃ n : Nat, i = .int .i64 n ∧ n ≤ N ∧ Hid (Touch [] w wr) ∧ Hid (¬ x ∈ l.take n)) (fun i _ => N - (intOf i).toNat)
  case atStart => exact ⟨0, rfl, Nat.zero_le _, Touch.refl _ _, hid (by simp)⟩
  case round =>
    obtain ⟨n, rfl, hn, HT, HX⟩ := hrel
    by_cases hlt : n < N
    · have zn : (n : Int) < (N : Int) := by omega
      have hnl : n < l.length := by have := HN.out; omega
      obtain ⟨g2, off, rfl, y2⟩ := HB2.out wr HT.out n hnl
      have HY : Hid (l[n] = x → decide (x ∈ l) = true) := hid (fun e => by simp [← e])
      have HZ : Hid (¬ l[n] = x → ¬ x ∈ l.take (n + 1)) := hid (fun e h => by
        rw [List.take_succ_eq_append_getElem hnl] at h
        rcases List.mem_append.1 h with q | q
        · exact HX.out q
        · simp at q; exact e q.symm)
      generalize l[n] = ki at *
      clear hnl HB2
      by_cases he : ki = x
      · have hb : (ki == x) = true := by simp [he]
        have HE := hid (HY.out he)
        clear he
        go_wp2
        go_ret
        exact ⟨by rw [HE.out]; rfl, HT.out⟩
      · have hb : (ki == x) = false := by simp [he]
        have HZ2 := hid (HZ.out he)
        clear he
        go_wp2
        go_roundw
        case rel => exact ⟨n + 1, by go_num, by omega, HT, HZ2⟩
        case measure => simp [intOf]; omega
    · have zn : ¬ (n : Int) < (N : Int) := by omega
      have hd : decide (x ∈ l) = false := by
        have hx := HX.out
        have : l.take n = l := List.take_of_length_le (by have := HN.out; omega)
        rw [this] at hx
        simp [hx]
      have HE := hid hd
      clear hd
      go_wp2
      go_ret
      exact ⟨by rw [HE.out]; rfl, HT.out⟩
set_option maxHeartbeats 1000000 in
/-- The same numbers are told the same. -/
theorem ints_ (w : World) (v u : Value) (l : List Int) (hv : Rs 3 1 w v l.length (ints l)) (hu : Rs 3 1 w u l.length (ints l)) (hl : l.length ≤ 20000000000000) : Calls Try.prog 10 #[v, u] w fun e w' => e = .returned (.bool true) ∧ Touch [] w w' := by
  obtain ⟨a1, c1, rfl⟩ := hv.fm
  obtain ⟨a2, c2, rfl⟩ := hu.fm
  obtain ⟨N, hN⟩ : ∃ N, N = l.length := ⟨_, rfl⟩
  have HN := hid hN
  have HA : Hid (∀ w', Touch [] w w' → ∀ n (h : n < l.length), ∃ g off, a1 = some ⟨g, off, none⟩ ∧ w'.cell? ⟨g, off + n, none⟩ = some (.int .i64 l[n])) := hid (fun w' t n h => (hv.keep0 t).n1 h)
  have HB : Hid (∀ w', Touch [] w w' → ∀ n (h : n < l.length), ∃ g off, a2 = some ⟨g, off, none⟩ ∧ w'.cell? ⟨g, off + n, none⟩ = some (.int .i64 l[n])) := hid (fun w' t n h => (hu.keep0 t).n1 h)
  rw [← hN] at hl ⊢
  clear hN hv hu
  have zl : (N : Int) < 9223372036854775807 := by omega
  clear hl
  go_enter Try.func10, Try.ntmps10
  go_wp2
  go_loopw [5] (fun i wr => ∃ n : Nat, i = .int .i64 n ∧ n ≤ N ∧ Hid (Touch [] w wr)) (fun i _ => N - (intOf i).toNat)
  case atStart => exact ⟨0, rfl, Nat.zero_le _, Touch.refl _ _⟩
  case round =>
    obtain ⟨n, rfl, hn, HT⟩ := hrel
    by_cases hlt : n < N
    · have zn : (n : Int) < (N : Int) := by omega
      have hnl : n < l.length := by have := HN.out; omega
      obtain ⟨g1, o1, rfl, y1⟩ := HA.out wr HT.out n hnl
      obtain ⟨g2, o2, rfl, y2⟩ := HB.out wr HT.out n hnl
      generalize l[n] = ki at *
      clear hnl HA HB
      go_wp2
      go_quiet (fail)
      go_wp2
      go_roundw
      case rel => exact ⟨n + 1, by go_num, by omega, HT.out.drewN _⟩
      case measure => simp [intOf]; omega
    · have zn : ¬ (n : Int) < (N : Int) := by omega
      go_wp2
      go_ret
      exact ⟨rfl, HT.out⟩
theorem neqS (w : World) (x : Se) : (binOp .neq 38 (.agg #[.int .i64 x.1, .int .i64 x.2.1, .int .i64 x.2.2]) (.agg #[.int .i64 x.1, .int .i64 x.2.1, .int .i64 x.2.2])).run Try.prog w = .ok (.bool false) w := by
  go_simp
theorem eqlS (w : World) (x : Se) : (binOp .eql 38 (.agg #[.int .i64 x.1, .int .i64 x.2.1, .int .i64 x.2.2]) (.agg #[.int .i64 x.1, .int .i64 x.2.1, .int .i64 x.2.2])).run Try.prog w = .ok (.bool true) w := by
  go_simp
set_option maxHeartbeats 1000000 in
/-- The same seats are told the same. -/
theorem lseats_ (w : World) (v u : Value) (l : List Se) (hv : Rs 33 3 w v l.length (l.flatMap sc)) (hu : Rs 38 3 w u l.length (l.flatMap sc)) (hl : l.length ≤ 20000000000000) : Calls Try.prog 17 #[v, u] w fun e w' => e = .returned (.bool true) ∧ Touch [] w w' := by
  obtain ⟨a1, c1, rfl⟩ := hv.fm
  obtain ⟨a2, c2, rfl⟩ := hu.fm
  obtain ⟨N, hN⟩ : ∃ N, N = l.length := ⟨_, rfl⟩
  have HN := hid hN
  have HA : Hid (∀ w', Touch [] w w' → ∀ n (h : n < l.length), ∃ g off, a1 = some ⟨g, off, none⟩ ∧ w'.cell? ⟨g, off + n * 3, none⟩ = some (.int .i64 l[n].1) ∧ w'.cell? ⟨g, off + n * 3 + 1, none⟩ = some (.int .i64 l[n].2.1) ∧ w'.cell? ⟨g, off + n * 3 + 2, none⟩ = some (.int .i64 l[n].2.2)) := hid (fun w' t n h => (hv.keep0 t).n3 h)
  have HB : Hid (∀ w', Touch [] w w' → ∀ n (h : n < l.length), ∃ g off, a2 = some ⟨g, off, none⟩ ∧ w'.cell? ⟨g, off + n * 3, none⟩ = some (.int .i64 l[n].1) ∧ w'.cell? ⟨g, off + n * 3 + 1, none⟩ = some (.int .i64 l[n].2.1) ∧ w'.cell? ⟨g, off + n * 3 + 2, none⟩ = some (.int .i64 l[n].2.2)) := hid (fun w' t n h => (hu.keep0 t).n3 h)
  rw [← hN] at hl ⊢
  clear hN hv hu
  have zl : (N : Int) < 9223372036854775807 := by omega
  clear hl
  go_enter Try.func17, Try.ntmps17
  go_wp2
  go_loopw [5] (fun i wr => ∃ n : Nat, i = .int .i64 n ∧ n ≤ N ∧ Hid (Touch [] w wr)) (fun i _ => N - (intOf i).toNat)
  case atStart => exact ⟨0, rfl, Nat.zero_le _, Touch.refl _ _⟩
  case round =>
    obtain ⟨n, rfl, hn, HT⟩ := hrel
    by_cases hlt : n < N
    · have zn : (n : Int) < (N : Int) := by omega
      have hnl : n < l.length := by have := HN.out; omega
      obtain ⟨g1, o1, rfl, y1, y2, y3⟩ := HA.out wr HT.out n hnl
      obtain ⟨g2, o2, rfl, z1, z2, z3⟩ := HB.out wr HT.out n hnl
      generalize l[n] = ki at *
      clear hnl HA HB
      go_wp2
      go_quiet (fail)
      go_wp2
      go_roundw
      case rel => exact ⟨n + 1, by go_num, by omega, HT.out.drewN _⟩
      case measure => simp [intOf]; omega
    · have zn : ¬ (n : Int) < (N : Int) := by omega
      go_wp2
      go_ret
      exact ⟨rfl, HT.out⟩
/-- Is a seat meant? -/
theorem is0_ (w : World) (x : Se) (n : Int) : Calls Try.prog 31 #[sv x, .int .i64 0, .int .i64 n] w fun e w' => e = .returned (.bool (decide (bn 0 x = n))) ∧ Touch [] w w' := by
  rw [show bn 0 x = x.1 from rfl]
  unfold sv
  by_cases h : x.1 = n
  · have hb : (x.1 == n) = true := by simp [h]
    rw [decide_eq_true h]
    clear h
    go_enter Try.func31, Try.ntmps31
    go_wp2
    go_ret
    exact ⟨rfl, (Touch.refl _ _).alloc _⟩
  · have hb : (x.1 == n) = false := by simp [h]
    rw [decide_eq_false h]
    clear h
    go_enter Try.func31, Try.ntmps31
    go_wp2
    go_ret
    exact ⟨rfl, (Touch.refl _ _).alloc _⟩
theorem is1_ (w : World) (x : Se) (n : Int) : Calls Try.prog 31 #[sv x, .int .i64 1, .int .i64 n] w fun e w' => e = .returned (.bool (decide (bn 1 x = n))) ∧ Touch [] w w' := by
  rw [show bn 1 x = x.2.1 from rfl]
  unfold sv
  by_cases h : x.2.1 = n
  · have hb : (x.2.1 == n) = true := by simp [h]
    rw [decide_eq_true h]
    clear h
    go_enter Try.func31, Try.ntmps31
    go_wp2
    go_ret
    exact ⟨rfl, (Touch.refl _ _).alloc _⟩
  · have hb : (x.2.1 == n) = false := by simp [h]
    rw [decide_eq_false h]
    clear h
    go_enter Try.func31, Try.ntmps31
    go_wp2
    go_ret
    exact ⟨rfl, (Touch.refl _ _).alloc _⟩
theorem is2_ (w : World) (x : Se) (n : Int) : Calls Try.prog 31 #[sv x, .int .i64 2, .int .i64 n] w fun e w' => e = .returned (.bool (decide (bn 2 x = n))) ∧ Touch [] w w' := by
  rw [show bn 2 x = x.2.2 from rfl]
  unfold sv
  by_cases h : x.2.2 = n
  · have hb : (x.2.2 == n) = true := by simp [h]
    rw [decide_eq_true h]
    clear h
    go_enter Try.func31, Try.ntmps31
    go_wp2
    go_ret
    exact ⟨rfl, (Touch.refl _ _).alloc _⟩
  · have hb : (x.2.2 == n) = false := by simp [h]
    rw [decide_eq_false h]
    clear h
    go_enter Try.func31, Try.ntmps31
    go_wp2
    go_ret
    exact ⟨rfl, (Touch.refl _ _).alloc _⟩
theorem is_ (w : World) (x : Se) (b : Nat) (hb : b < 3) (n : Int) : Calls Try.prog 31 #[sv x, .int .i64 (b : Int), .int .i64 n] w fun e w' => e = .returned (.bool (decide (bn b x = n))) ∧ Touch [] w w' := by
  match b, hb with
  | 0, _ => exact is0_ w x n
  | 1, _ => exact is1_ w x n
  | 2, _ => exact is2_ w x n
end Go.Proofs.Ytlmmljmhfghlnaa
