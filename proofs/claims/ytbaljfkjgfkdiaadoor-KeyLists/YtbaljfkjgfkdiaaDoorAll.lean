/- The contract of the law's own list of the document's keys: it lays a new list with the same keys; the list's bytes are within the form's reach. -/
import Derived.Test.YtbaljfkjgfkdiaaDoorLst
import Derived.Deep.AppendLies
import Derived.OwnWalk
namespace Go.Proofs.YtbaljfkjgfkdiaaDoor
open Go.RowKit Go.Sort
set_option linter.unusedVariables false

def cellsK (xs : List K) : List Value := xs.flatMap fun x => [.int .u16 x.1, .string x.2]
theorem cellsK_app (xs ys : List K) : cellsK (xs ++ ys) = cellsK xs ++ cellsK ys := by unfold cellsK; simp
theorem cellsK_one (x : K) : cellsK [x] = [.int .u16 x.1, .string x.2] := rfl
theorem cellsK_len (xs : List K) : (cellsK xs).length = xs.length * 2 := by
  induction xs with
  | nil => rfl
  | cons x xs ih => rw [show x :: xs = [x] ++ xs from rfl, cellsK_app, List.length_append, ih, cellsK_one]; simp; omega
theorem cellsK_at0 : ∀ (xs : List K) (i : Nat) (h : i < xs.length), (cellsK xs)[i * 2]? = some (.int .u16 xs[i].1)
  | x :: xs, 0, _ => rfl
  | x :: xs, i + 1, h => by
    rw [show (i + 1) * 2 = i * 2 + 1 + 1 by omega]
    exact cellsK_at0 xs i (by simpa using h)
theorem cellsK_at1 : ∀ (xs : List K) (i : Nat) (h : i < xs.length), (cellsK xs)[i * 2 + 1]? = some (.string xs[i].2)
  | x :: xs, 0, _ => rfl
  | x :: xs, i + 1, h => by
    rw [show (i + 1) * 2 + 1 = i * 2 + 1 + 1 + 1 by omega]
    exact cellsK_at1 xs i (by simpa using h)
theorem owns_below {w w' : World} {base e size n : Nat} {v : Value} {xs : List Value} (h : w.ownsRow base e size v n xs) (hb : Below w.heap.size w w') : w'.ownsRow base e size v n xs := by
  obtain ⟨h1, h2⟩ := h
  refine ⟨h1, ?_⟩
  rcases h2 with h2 | ⟨g, cap, cur, hv, hg, hc, r⟩
  · exact Or.inl h2
  · refine Or.inr ⟨g, cap, cur, hv, hg, ?_, r⟩
    rw [hb.block g (by
      rcases Nat.lt_or_ge g w.heap.size with h | h
      · exact h
      · rw [Array.getElem?_eq_none h] at hc; cases hc)]
    exact hc
theorem owns_row {w : World} {base e g cap : Nat} {xs : List K} (h : w.ownsRow base e 2 (.slice (some ⟨g, 0, none⟩) xs.length cap) xs.length (cellsK xs)) : Row w g 0 xs := by
  obtain ⟨h1, h2 | ⟨g', cap', cur, hv, hg, hc, hn, hm, hs, ht⟩⟩ := h
  · cases h2.1
  · simp only [Value.slice.injEq, Option.some.injEq, Addr.mk.injEq, and_true, true_and] at hv
    obtain ⟨rfl, rfl⟩ := hv
    have hlt : g < w.heap.size := by
      rcases Nat.lt_or_ge g w.heap.size with h | h
      · exact h
      · rw [Array.getElem?_eq_none h] at hc; cases hc
    have hcell : ∀ j, w.cell? ⟨g, j, none⟩ = cur[j]? := fun j => by simp [World.cell?, hc]
    have hj : ∀ j, j < xs.length * 2 → cur[j]? = (cellsK xs)[j]? := fun j hj => by
      rw [← ht, List.getElem?_take_of_lt hj, Array.getElem?_toList]
    refine ⟨hlt, fun i hi => ?_, fun i hi => ?_⟩
    · rw [hcell, Nat.zero_add, hj _ (by omega), cellsK_at0 xs i hi]
    · rw [hcell, Nat.zero_add, hj _ (by omega), cellsK_at1 xs i hi]
theorem owns_base {w : World} {base e size g k c n : Nat} {xs : List Value} (h : w.ownsRow base e size (.slice (some ⟨g, 0, none⟩) k c) n xs) : base ≤ g := by
  obtain ⟨_, h2 | ⟨g', _, _, hv, hg, _⟩⟩ := h
  · cases h2.1
  · simp only [Value.slice.injEq, Option.some.injEq, Addr.mk.injEq, and_true] at hv
    rw [hv.1]
    exact hg
theorem info31 : (Tryd.prog.info? 31).map (fun i => (i.zero, i.size, i.bytes)) = some (some (.agg #[.int .u16 0, .string ⟨#[]⟩]), 2, 24) := by kernel_rfl
theorem info24 : (Tryd.prog.info? 24).map (fun i => (i.zero, i.size, i.bytes)) = some (some (.agg #[.int .u16 0, .string ⟨#[]⟩]), 2, 24) := by kernel_rfl
theorem cell_two_new (w : World) (x y : Value) (t : TypeId) : ∀ j u, [x, y][j]? = some u → (w.alloc (.cells #[x, y] t)).cell? ((⟨w.heap.size, 0, none⟩ : Addr).add j) = some u := by
  intro j u hj
  match j, hj with
  | 0, hj => simp at hj; subst hj; simp [Addr.add]
  | 1, hj => simp at hj; subst hj; simp [Addr.add]

theorem take_snocK (xs : List K) (k : Nat) (h : k < xs.length) : xs.take (k + 1) = xs.take k ++ [xs[k]] := List.take_succ_eq_append_getElem h
set_option maxHeartbeats 2000000 in
theorem all27_row (xs : List K) (b off cap : Nat) (w : World) (hl : xs.length * 24 ≤ 140737488351232) (R : Row w b off xs) :
    Calls Tryd.prog 27 #[.slice (some ⟨b, off, none⟩) xs.length cap] w fun e w' => ∃ v, e = .returned v ∧ Sl w' v xs ∧ Below w.heap.size w w' := by
  obtain ⟨i0, hi, hz0, hz1, hz2⟩ := info_parts info31
  have HR : Hid _ := R
  clear R
  go_enter Tryd.func27, Tryd.ntmps27
  go_wp2
  go_loopw [3, 9] (fun t i wr => ∃ (k g c : Nat), i = .int .i64 k ∧ k ≤ xs.length ∧ t = .slice (some ⟨g, 0, none⟩) k c ∧ wr.ownsRow w.heap.size 31 2 (.slice (some ⟨g, 0, none⟩) k c) k (cellsK (xs.take k)) ∧ Below w.heap.size w wr) (fun _ i _ => xs.length - (intOf i).toNat)
  case atStart => exact ⟨0, w.heap.size, 0, rfl, Nat.zero_le _, rfl, ⟨rfl, Or.inr ⟨w.heap.size, 0, #[], rfl, Nat.le_refl _, heap_alloc_new w _, Nat.le_refl _, by unfold maxLen; omega, rfl, rfl⟩⟩, (Below.refl _ _).alloc (Nat.le_refl _) _⟩
  case round =>
    obtain ⟨k, g, c, rfl, hk, rfl, hown, hb⟩ := hrel
    by_cases hlt : k < xs.length
    · have hz : (k : Int) < (xs.length : Int) := by omega
      have hz' : (0 : Int) ≤ (k : Int) := by omega
      have f0 : wr.cell? ⟨b, off + k * 2, none⟩ = some (.int .u16 xs[k].1) := by rw [hb.cell (by exact HR.out.lt)]; exact HR.out.at0 k hlt
      have f1 : wr.cell? ⟨b, off + k * 2 + 1, none⟩ = some (.string xs[k].2) := by rw [hb.cell (by exact HR.out.lt)]; exact HR.out.at1 k hlt
      have HX : Hid (cellsK (xs.take (k + 1)) = cellsK (xs.take k) ++ [.int .u16 xs[k].1, .string xs[k].2]) := by show _ = _; rw [take_snocK xs k hlt, cellsK_app, cellsK_one]
      have HO : Hid _ := hown
      have HB : Hid _ := hb
      clear hown hb
      generalize xs[k].1 = x at *
      generalize xs[k].2 = y at *
      go_wp2_with fail
      refine (given12 x y _).mono ?_
      rintro e w2 ⟨rfl, g2⟩
      have B2 : Below wr.heap.size wr w2 := ((Below.refl _ _).alloc (Nat.le_refl _) _).trans (g2.below.mono (by simp))
      have hown2 := owns_below HO.out B2
      have hbw : Below w.heap.size w w2 := HB.out.trans (B2.mono HB.out.size)
      have hsz := hbw.size
      clear g2 B2 HO HB f0 f1
      go_wp2_with (at_builtin; refine wpList_append_lies _ rfl _ _ 55 rfl w.heap.size 31 i0 (.agg #[.int .u16 0, .string ⟨#[]⟩]) 2 24 Tryd.underlying55 hi hz0 hz1 hz2 rfl (by decide) _ _ _ rfl (hown2.alloc _) ⟨w2.heap.size, 0, none⟩ 1 1 [.int .u16 x, .string y] rfl rfl (cell_two_new _ _ _ _) (by simp [Value.oneCell']) (by decide) (by unfold maxLen; omega) (by omega) (by simp; omega) _ rfl ?_; intro g1 c1 w3 hown3 hgrow hat hlt3)
      go_roundw
      case rel =>
        refine ⟨k + 1, g1, c1, by go_num, by omega, rfl, by rw [HX.out]; exact hown3, ?_⟩
        exact (hbw.alloc hsz _).grown hgrow (by simp; omega) (fun j hj => by
          have h1 := owns_base hown2
          have h2 : some g = some j := hj
          cases h2
          exact h1)
      case measure => simp [intOf]; omega
    · have hz : ¬ (k : Int) < (xs.length : Int) := by omega
      obtain rfl : k = xs.length := by omega
      rw [List.take_length] at hown
      go_wp2
      go_ret
      exact ⟨_, rfl, Or.inr ⟨_, _, _, rfl, owns_row hown⟩, hb⟩
theorem all27_nil (a : Option Addr) (cap : Nat) (w : World) :
    Calls Tryd.prog 27 #[.slice a 0 cap] w fun e w' => ∃ v, e = .returned v ∧ Sl w' v [] ∧ Below w.heap.size w w' := by
  go_enter Tryd.func27, Tryd.ntmps27
  go_wp2
  go_loop [3, 9] (fun t i => t = .slice (some ⟨w.heap.size, 0, none⟩) 0 0 ∧ i = .int .i64 0) (fun _ _ => 0)
  case atStart => exact ⟨rfl, rfl⟩
  case round =>
    obtain ⟨rfl, rfl⟩ := hrel
    go_wp2
    go_ret
    exact ⟨_, rfl, Or.inl ⟨rfl, _, _, rfl⟩, (Below.refl _ _).alloc (Nat.le_refl _) _⟩
theorem all27 (xs : List K) (v : Value) (w : World) (hl : xs.length * 24 ≤ 140737488351232) (R : Sl w v xs) :
    Calls Tryd.prog 27 #[v] w fun e w' => ∃ v, e = .returned v ∧ Sl w' v xs ∧ Below w.heap.size w w' := by
  rcases R with ⟨rfl, a, cap, rfl⟩ | ⟨b, off, cap, rfl, R⟩
  · exact all27_nil a cap w
  · exact all27_row xs b off cap w hl R
end Go.Proofs.YtbaljfkjgfkdiaaDoor
