/- The law's own list of the document's steps, and the document's look at a recipe; the condition is that the list lies in memory, within the form's reach. -/
import Derived.Test.YtgjojdlbighoaaaDoorChk
import Derived.Deep.AppendLies
import Derived.OwnWalk
namespace Go.Proofs.YtgjojdlbighoaaaDoor
open Go.RowKit Go.Sort
set_option linter.unusedVariables false

def cellsP (xs : List Sp) : List Value := xs.flatMap fun x => [.int .i64 x.1, .int .i64 x.2.1, .int .i64 x.2.2]
theorem cellsP_app (xs ys : List Sp) : cellsP (xs ++ ys) = cellsP xs ++ cellsP ys := by unfold cellsP; simp
theorem cellsP_one (x : Sp) : cellsP [x] = [.int .i64 x.1, .int .i64 x.2.1, .int .i64 x.2.2] := rfl
theorem cellsP_len (xs : List Sp) : (cellsP xs).length = xs.length * 3 := by
  induction xs with
  | nil => rfl
  | cons x xs ih => rw [show x :: xs = [x] ++ xs from rfl, cellsP_app, List.length_append, ih, cellsP_one]; simp; omega
theorem cellsP_at : ∀ (xs : List Sp) (i : Nat) (h : i < xs.length), (cellsP xs)[i * 3]? = some (.int .i64 xs[i].1) ∧ (cellsP xs)[i * 3 + 1]? = some (.int .i64 xs[i].2.1) ∧ (cellsP xs)[i * 3 + 2]? = some (.int .i64 xs[i].2.2)
  | x :: xs, 0, _ => ⟨rfl, rfl, rfl⟩
  | x :: xs, i + 1, h => by
    rw [show (i + 1) * 3 = i * 3 + 1 + 1 + 1 by omega]
    exact cellsP_at xs i (by simpa using h)
theorem block_lt {w : World} {g : Nat} {o : Obj} (h : w.heap[g]? = some o) : g < w.heap.size := by
  rcases Nat.lt_or_ge g w.heap.size with h' | h'
  · exact h'
  · rw [Array.getElem?_eq_none h'] at h; cases h
theorem owns_gr {w w' : World} {base e size n : Nat} {v : Value} {xs : List Value} (h : w.ownsRow base e size v n xs) (hb : Gr w w') : w'.ownsRow base e size v n xs := by
  obtain ⟨h1, h2⟩ := h
  refine ⟨h1, ?_⟩
  rcases h2 with h2 | ⟨g, cap, cur, hv, hg, hc, r⟩
  · exact Or.inl h2
  · refine Or.inr ⟨g, cap, cur, hv, hg, ?_, r⟩
    rw [hb.below.block g (block_lt hc)]
    exact hc
theorem owns_sl {w : World} {base e : Nat} {A : Option Addr} {cap : Nat} {xs : List Sp} (h : w.ownsRow base e 3 (.slice A xs.length cap) xs.length (cellsP xs)) : Sl w A xs := by
  obtain ⟨h1, h2 | ⟨g', cap', cur, hv, hg, hc, hn, hm, hs, ht⟩⟩ := h
  · exact fun i hi => absurd hi (by omega)
  · simp only [Value.slice.injEq, true_and] at hv
    obtain ⟨rfl, rfl⟩ := hv
    have hcell : ∀ j, w.cell? ⟨g', j, none⟩ = cur[j]? := fun j => by simp [World.cell?, hc]
    have hj : ∀ j, j < xs.length * 3 → cur[j]? = (cellsP xs)[j]? := fun j hj => by
      rw [← ht, List.getElem?_take_of_lt hj, Array.getElem?_toList]
    intro i hi
    obtain ⟨a0, a1, a2⟩ := cellsP_at xs i hi
    refine ⟨g', 0, rfl, ?_, ?_, ?_⟩
    · rw [hcell, Nat.zero_add, hj _ (by omega), a0]
    · rw [hcell, Nat.zero_add, hj _ (by omega), a1]
    · rw [hcell, Nat.zero_add, hj _ (by omega), a2]
theorem owns_base {w : World} {base e size g k c n : Nat} {xs : List Value} (h : w.ownsRow base e size (.slice (some ⟨g, 0, none⟩) k c) n xs) : base ≤ g := by
  obtain ⟨_, h2 | ⟨g', _, _, hv, hg, _⟩⟩ := h
  · cases h2.1
  · simp only [Value.slice.injEq, Option.some.injEq, Addr.mk.injEq, and_true] at hv
    rw [hv.1]
    exact hg
theorem info80 : (Tryd.prog.info? 80).map (fun i => (i.zero, i.size, i.bytes)) = some (some (.agg #[.int .i64 0, .int .i64 0, .int .i64 0]), 3, 24) := by kernel_rfl
theorem cell_three_new (w : World) (x y z : Value) (t : TypeId) : ∀ j u, [x, y, z][j]? = some u → (w.alloc (.cells #[x, y, z] t)).cell? ((⟨w.heap.size, 0, none⟩ : Addr).add j) = some u := by
  intro j u hj
  match j, hj with
  | 0, hj => simp at hj; subst hj; simp [Addr.add]
  | 1, hj => simp at hj; subst hj; simp [Addr.add]
  | 2, hj => simp at hj; subst hj; simp [Addr.add]
/-- a new list -/
def NewE (w w' : World) (L : List Sp) (e : Ending) : Prop := ∃ A c, e = .returned (.slice A L.length c) ∧ Sl w' A L ∧ Gr w w'
set_option maxHeartbeats 2000000 in
theorem given10 (L : List Sp) (A : Option Addr) (cap : Nat) (w : World) (hs : Sl w A L) (hl : L.length ≤ 5864062014635) :
    Calls Tryd.prog 10 #[.slice A L.length cap] w fun e w' => NewE w w' L e := by
  obtain ⟨i0, hi, hz0, hz1, hz2⟩ := info_parts info80
  have HR : Hid (Sl w A L ∧ L.length ≤ 5864062014635) := ⟨hs, hl⟩
  have hl' : (L.length : Int) ≤ 5864062014635 := by omega
  clear hs hl
  go_enter Tryd.func10, Tryd.ntmps10
  go_wp2
  go_loopw [3, 9] (fun t i wr => ∃ (k g c : Nat), i = .int .i64 k ∧ k ≤ L.length ∧ t = .slice (some ⟨g, 0, none⟩) k c ∧ Hid (wr.ownsRow w.heap.size 80 3 (.slice (some ⟨g, 0, none⟩) k c) k (cellsP (L.take k))) ∧ Hid (Gr w wr)) (fun _ i _ => L.length - (intOf i).toNat)
  case atStart => exact ⟨0, w.heap.size, 0, rfl, Nat.zero_le _, rfl, ⟨rfl, Or.inr ⟨w.heap.size, 0, #[], rfl, Nat.le_refl _, heap_alloc_new w _, Nat.le_refl _, by unfold maxLen; omega, rfl, rfl⟩⟩, (Gr.refl _).alloc _⟩
  case round =>
    obtain ⟨k, g, c, rfl, hk, rfl, HO, HG⟩ := hrel
    by_cases hlt : k < L.length
    · have hz : (k : Int) < (L.length : Int) := by omega
      have hz' : (0 : Int) ≤ (k : Int) := by omega
      obtain ⟨b, off, rfl, f0, f1, f2⟩ := (HR.out.1.gr HG.out) k hlt
      have HX : Hid (cellsP (L.take (k + 1)) = cellsP (L.take k) ++ [.int .i64 L[k].1, .int .i64 L[k].2.1, .int .i64 L[k].2.2]) := by show _ = _; rw [List.take_succ_eq_append_getElem hlt, cellsP_app, cellsP_one]
      generalize L[k].1 = x at *
      generalize L[k].2.1 = y at *
      generalize L[k].2.2 = z at *
      have hown2 := owns_gr HO.out ((Gr.refl wr).alloc (.cells #[.int .i64 x, .int .i64 y, .int .i64 z] 64))
      have hsz := HG.out.size
      have hll := HR.out.2
      go_wp2_with (at_builtin; refine wpList_append_lies _ rfl _ _ 35 rfl w.heap.size 80 i0 (.agg #[.int .i64 0, .int .i64 0, .int .i64 0]) 3 24 Tryd.underlying35 hi hz0 hz1 hz2 rfl (by decide) _ _ _ rfl (hown2.alloc _) ⟨wr.heap.size + 1, 0, none⟩ 1 1 [.int .i64 x, .int .i64 y, .int .i64 z] rfl rfl (by have := cell_three_new (wr.alloc (.cells #[.int .i64 x, .int .i64 y, .int .i64 z] 64)) (.int .i64 x) (.int .i64 y) (.int .i64 z) 80; simp only [World.size_alloc] at this; exact this) (by simp [Value.oneCell']) (by decide) (by unfold maxLen; omega) (by omega) (by simp; omega) _ rfl ?_; intro g1 c1 w3 hown3 hgrow hat hlt3)
      go_roundw
      case rel =>
        refine ⟨k + 1, g1, c1, by go_num, by omega, rfl, by rw [HX.out]; exact hown3, ?_⟩
        exact Below.grown ((HG.out.alloc _).alloc _) hgrow (by simp; omega) (fun j hj => by
          have h1 := owns_base hown2
          have h2 : some g = some j := hj
          cases h2
          exact h1)
      case measure => simp [intOf]; omega
    · have hz : ¬ (k : Int) < (L.length : Int) := by omega
      obtain rfl : k = L.length := by omega
      rw [List.take_length] at HO
      go_wp2
      go_ret
      exact ⟨_, _, rfl, owns_sl HO.out, HG.out⟩
end Go.Proofs.YtgjojdlbighoaaaDoor
