/- The contracts of the document's How and Find; there are at most seventy thousand entries. -/
import Derived.Test.YtopepalpmkeffaaDfn
namespace Go.Proofs.Ytopepalpmkeffaa
open Go.RowKit Go.Sort Go.Maps Go.ChangeMaps Go.WideMaps
set_option linter.unusedVariables false
set_option linter.unusedSimpArgs false
set_option maxHeartbeats 1000000 in
theorem rhow59 (w : World) (c : Cf) (x : O) (age : Int) (hr : right x = true) (h0 : 0 ≤ age) (h1 : age ≤ 4611686018427387904) (hc : okC c = true) (wc : c.t ≤ 9223372036854775807 ∧ c.n ≤ 9223372036854775807 ∧ c.s ≤ 9223372036854775807) :
    Calls Try.prog 59 #[cv c, ov x, .int .i64 age] w fun e w' => e = .returned (.int .i64 (howC c x age)) ∧ Touch [] w w' := by
  obtain ⟨ct, cn, cs⟩ := okC_t hc
  have hn := right_none hr
  have HBl := hid (fun w => below71 w age c.t c.s h0 h1 ct wc.1)
  obtain ⟨t, n, s, e, f, b, d⟩ := c
  obtain ⟨v, a, y, z⟩ := x
  have eq := fun w => neqr w a y z
  unfold cv ov howC
  simp only at hn HBl ct cn cs ⊢
  clear hr hc wc
  by_cases ha : a = 0
  · have h2 := hn.1 ha
    simp only [Prod.mk.injEq] at h2
    have e1 : nonF a y z = true := by simp [nonF, h2]
    rw [e1] at eq
    rw [if_pos ha]
    clear h2 ha hn e1
    by_cases hA : age < t
    · rw [if_pos hA]
      go_enter Try.func59, Try.ntmps59
      go_wp2
      go_ret
      exact ⟨rfl, by repeat (first | exact Touch.refl _ _ | apply Touch.alloc)⟩
    · rw [if_neg hA]
      rw [decide_eq_false hA] at HBl
      by_cases hB : age < t + s
      · rw [if_pos hB]
        rw [decide_eq_true (show age - t < s by omega)] at HBl
        go_enter Try.func59, Try.ntmps59
        go_wp2_with (go_at_call 71; refine (HBl.out _).mono ?_; rintro e w2 ⟨rfl, e2⟩; rw [e2]; clear e2 w2)
        go_ret
        exact ⟨rfl, by repeat (first | exact Touch.refl _ _ | apply Touch.alloc)⟩
      · rw [if_neg hB]
        rw [decide_eq_false (show ¬ age - t < s by omega)] at HBl
        go_enter Try.func59, Try.ntmps59
        go_wp2_with (go_at_call 71; refine (HBl.out _).mono ?_; rintro e w2 ⟨rfl, e2⟩; rw [e2]; clear e2 w2)
        go_ret
        exact ⟨rfl, by repeat (first | exact Touch.refl _ _ | apply Touch.alloc)⟩
  · have e1 : nonF a y z = false := by simp [nonF, ha]
    rw [e1] at eq
    rw [if_neg ha]
    clear hn ha e1 HBl
    by_cases hA : age < n
    · rw [if_pos hA]
      go_enter Try.func59, Try.ntmps59
      go_wp2
      go_ret
      exact ⟨rfl, by repeat (first | exact Touch.refl _ _ | apply Touch.alloc)⟩
    · rw [if_neg hA]
      go_enter Try.func59, Try.ntmps59
      go_wp2
      go_ret
      exact ⟨rfl, by repeat (first | exact Touch.refl _ _ | apply Touch.alloc)⟩
/-- Where a key stands; -1: nowhere. -/
def pos : List En → K → Int
  | [], _ => -1
  | x :: l, k => if x.1 = k then 0 else if pos l k < 0 then -1 else pos l k + 1
theorem pos_no {xs : List En} {k : K} (h : ¬ k ∈ keysL xs) : pos xs k = -1 := by
  induction xs with
  | nil => rfl
  | cons x l ih =>
    simp only [keysL, List.map_cons, List.mem_cons, not_or] at h
    unfold pos
    rw [if_neg (fun e => h.1 e.symm), ih h.2]
    rfl
theorem pos_at {xs : List En} {k : K} {i : Nat} (hi : i < xs.length) (he : xs[i].1 = k) (hb : ∀ j (h : j < i), xs[j].1 ≠ k) : pos xs k = (i : Int) := by
  induction xs generalizing i with
  | nil => simp at hi
  | cons x l ih =>
    unfold pos
    cases i with
    | zero =>
      rw [if_pos (by simpa using he)]
      rfl
    | succ i =>
      have h0 := hb 0 (by omega)
      rw [if_neg (by simpa using h0)]
      have hp := ih (i := i) (by simpa using hi) (by simpa using he) (fun j hj => by have := hb (j + 1) (by omega); simpa using this)
      rw [hp, if_neg (by omega)]
      rfl
theorem pos_yes {xs : List En} {k : K} (h : k ∈ keysL xs) : ∃ i, ∃ hi : i < xs.length, xs[i].1 = k ∧ (∀ j (hj : j < i), xs[j].1 ≠ k) ∧ pos xs k = (i : Int) := by
  induction xs with
  | nil => simp [keysL] at h
  | cons x l ih =>
    by_cases e : x.1 = k
    · exact ⟨0, by simp, by simpa using e, fun j hj => by omega, by unfold pos; rw [if_pos e]; rfl⟩
    · simp only [keysL, List.map_cons, List.mem_cons] at h
      rcases h with h | h
      · exact absurd h.symm e
      · obtain ⟨i, hi, h1, h2, h3⟩ := ih h
        have hb : ∀ j (hj : j < i + 1), ((x :: l)[j]'(by simp only [List.length_cons]; omega)).1 ≠ k := fun j hj => by
          cases j with
          | zero => simpa using e
          | succ j => simpa using h2 j (by omega)
        exact ⟨i + 1, by simpa using hi, by simpa using h1, hb, pos_at (by simpa using hi) (by simpa using h1) hb⟩
def kbx (t : Nat) (k : K) : Obj := .cells #[.int .u16 k.1, .string k.2] t
set_option maxHeartbeats 2000000 in
set_option maxRecDepth 100000 in
theorem find31 (w : World) (v : Value) (xs : List En) (k : K) (hl : xs.length ≤ 70000) (h : RN 62 w v xs) : Calls Try.prog 31 #[v, kv k] w fun e w' => e = .returned (.int .i64 (pos xs k)) ∧ Touch [] w w' := by
  have HR := hid h
  obtain ⟨a, c, rfl, hc, hg⟩ := h
  have HG := hid hg
  clear hg
  obtain ⟨n, hn⟩ : ∃ n, n = xs.length := ⟨_, rfl⟩
  have HN := hid hn
  rw [← hn] at hl ⊢
  rw [← hn] at HR hc
  clear hn
  have TV : Hid (Touch [] w (w.alloc (kbx 57 k))) := (Touch.refl _ _).alloc _
  have HB : Hid (∀ w', Touch [] (w.alloc (kbx 57 k)) w' → w'.cell? ⟨w.heap.size, 0, none⟩ = some (.int .u16 k.1) ∧ w'.cell? ⟨w.heap.size, 1, none⟩ = some (.string k.2)) := fun w' t => by
    have := t.keep (heap_alloc_new w (kbx 57 k)) (by simp)
    unfold kbx at this
    simp [World.cell?, this]
  have zn : (n : Int) ≤ 70000 := by omega
  unfold kbx at TV HB
  unfold kv
  go_enter Try.func31, Try.ntmps31
  go_wp2
  go_loopw [9] (fun s9 wr => ∃ (i : Nat), s9 = .int .i64 (i : Int) ∧ i ≤ n ∧ Hid (Touch [] (w.alloc (.cells #[.int .u16 k.1, .string k.2] 57)) wr ∧ ∀ j (h : j < i) (h2 : j < xs.length), xs[j].1 ≠ k)) (fun s _ => n - (intOf s).toNat)
  case atStart => exact ⟨0, rfl, Nat.zero_le _, Touch.refl _ _, fun j hj => by omega⟩
  case round =>
    obtain ⟨i, rfl, hi, HT⟩ := hrel
    by_cases hlt : i < n
    · have zi : (i : Int) < (n : Int) := by omega
      have hix : i < xs.length := by have := HN.out; omega
      obtain ⟨g, off, rfl, hat⟩ := HG.out (by omega)
      have hat2 : At7 wr 62 g off xs := by
        have hg : g < w.heap.size := by obtain ⟨cs, h1, _⟩ := hat; exact block_lt h1
        exact hat.keep ((TV.out.trans' HT.out.1).block g hg (by simp))
      have r0 := hat2.cell i 0 hix (by omega) rfl
      have r1 := hat2.cell i 1 hix (by omega) rfl
      have r2 := hat2.cell i 2 hix (by omega) rfl
      have r3 := hat2.cell i 3 hix (by omega) rfl
      have r4 := hat2.cell i 4 hix (by omega) rfl
      have r5 := hat2.cell i 5 hix (by omega) rfl
      have r6 := hat2.cell i 6 hix (by omega) rfl
      rw [Nat.add_zero] at r0
      simp only [← Nat.add_assoc] at r1 r2 r3 r4 r5 r6
      obtain ⟨b0, b1⟩ := HB.out _ (HT.out.1.alloc (.cells #[.int .u16 xs[i].1.1, .string xs[i].1.2, .int .i64 xs[i].2.1.1, .int .i64 xs[i].2.1.2.1, .int .i64 xs[i].2.1.2.2.1, .int .i64 xs[i].2.1.2.2.2, .int .i64 xs[i].2.2] 62))
      have eq := fun w => eqk57 w xs[i].1 k
      unfold kv at eq
      have HNi := hid (And.intro hi hlt)
      by_cases hx : xs[i].1 = k
      · have HP := hid (pos_at hix hx (fun j hj => HT.out.2 j hj (by omega)))
        rw [decide_eq_true hx] at eq
        clear hat hat2 hx
        generalize xs[i] = y at *
        go_wp2
        go_ret
        exact ⟨by (rw [HP.out]; rfl), (TV.out.trans' HT.out.1).alloc _⟩
      · have HP : Hid (∀ j (h : j < i + 1) (h2 : j < xs.length), xs[j].1 ≠ k) := fun j hj h2 => by
          rcases Nat.lt_or_ge j i with e | e
          · exact HT.out.2 j e h2
          · obtain rfl : j = i := by omega
            exact hx
        rw [decide_eq_false hx] at eq
        clear hat hat2 hx
        generalize xs[i] = y at *
        go_wp2
        go_roundw
        case rel => exact ⟨i + 1, by go_num, by have := HNi.out; omega, HT.out.1.alloc _, HP.out⟩
        case measure => simp [intOf]; have := HNi.out; omega
    · have zi : (n : Int) ≤ (i : Int) := by omega
      have HP : Hid (pos xs k = -1) := hid (pos_no (fun hm => by
        obtain ⟨j, hj, h1, _⟩ := pos_yes hm
        exact HT.out.2 j (by have := HN.out; omega) hj h1))
      go_wp2
      go_ret
      exact ⟨by (rw [HP.out]; rfl), TV.out.trans' HT.out.1⟩
end Go.Proofs.Ytopepalpmkeffaa
