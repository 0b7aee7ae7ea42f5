/- The contract of the program's sorted list: the same keys in order, and nothing that was there is turned; the list's bytes are within the form's reach. -/
import Derived.Test.YtbaljfkjgfkdiaaDoorStb
import Derived.Test.YtbaljfkjgfkdiaaDoorLisW
namespace Go.Proofs.YtbaljfkjgfkdiaaDoor
open Go.RowKit Go.Sort
set_option linter.unusedVariables false

theorem ins51_nil (v F : Value) (w : World) : Calls Tryd.prog 51 #[v, .int .i64 0, .int .i64 0, F] w fun e w' => e = .returned (.tuple #[]) ∧ w' = w := by
  go_enter Tryd.func51, Tryd.ntmps51
  go_wp2
  go_loopw [8] (fun x wr => x = .int .i64 1 ∧ wr = w) (fun _ _ => 0)
  case atStart => exact ⟨rfl, rfl⟩
  case round =>
    obtain ⟨rfl, rfl⟩ := hrel
    go_wp2
    go_end0
    exact ⟨rfl, rfl⟩
theorem stable47_nil (v F : Value) (w : World) : Calls Tryd.prog 47 #[v, .int .i64 0, F] w fun e w' => e = .returned (.tuple #[]) ∧ w' = w := by
  go_enter Tryd.func47, Tryd.ntmps47
  go_wp2
  go_loopw [7, 8] (fun x y wr => x = .int .i64 0 ∧ y = .int .i64 20 ∧ wr = w) (fun _ _ _ => 0)
  case atStart => exact ⟨rfl, rfl, rfl⟩
  case round =>
    obtain ⟨rfl, rfl, hwr⟩ := hrel
    rw [hwr]
    clear hwr
    go_wp2_with fail
    refine Calls.mono (ins51_nil _ _ _) ?_
    rintro e w1 ⟨rfl, hw1⟩
    obtain ⟨wo, hwo⟩ : ∃ wo, wo = w := ⟨_, rfl⟩
    go_wp2
    go_loopw [6] (fun x wr => x = .int .i64 20 ∧ wr = wo) (fun _ _ => 0)
    case atStart => exact ⟨rfl, hwo.symm⟩
    case round =>
      obtain ⟨rfl, hr⟩ := hrel
      go_wp2
      go_end0
      exact ⟨rfl, rfl⟩
theorem sort40_nil (a : Option Addr) (cap : Nat) (w : World) : Calls Tryd.prog 40 #[.slice a 0 cap, cmpF] w fun e w' => e = .returned (.tuple #[]) ∧ w' = w := by
  have hc : ∃ F, F = cmpF := ⟨_, rfl⟩
  obtain ⟨F, hF⟩ := hc
  rw [← hF]
  clear hF
  go_enter Tryd.func40, Tryd.ntmps40
  go_wp2_with fail
  refine Calls.mono (stable47_nil _ _ _) ?_
  rintro e w1 ⟨rfl, rfl⟩
  go_wp2
  go_end0
  exact ⟨rfl, rfl⟩
theorem sort40 (w0 : World) (g n c : Nat) (L : List K) (w : World) (hn : n ≤ 5864062014634) (R : RW w0 g n c L w) :
    Calls Tryd.prog 40 #[.slice (some ⟨g, 0, none⟩) n c, cmpF] w fun e w' => e = .returned (.tuple #[]) ∧ ∃ L', L'.Perm L ∧ SIn L' 0 n ∧ RW w0 g n c L' w' := by
  have HS : Hid _ := stable47 w0 g n c L w hn R
  have hc : ∃ F, F = cmpF := ⟨_, rfl⟩
  obtain ⟨F, hF⟩ := hc
  rw [← hF] at HS ⊢
  clear hF R
  go_enter Tryd.func40, Tryd.ntmps40
  go_wp2_with fail
  refine Calls.mono HS.out ?_
  rintro e w1 ⟨rfl, L', hp, hs, hw⟩
  have HE : Hid _ := (⟨hp, hs, hw⟩ : L'.Perm L ∧ SIn L' 0 n ∧ RW w0 g n c L' w1)
  clear hp hs hw
  go_wp2
  go_end0
  exact ⟨rfl, L', HE.out.1, HE.out.2.1, HE.out.2.2⟩

theorem cells_owned (w : World) (b off : Nat) (xs : List K) (R : Row w b off xs) : ∀ j u, (cellsK xs)[j]? = some u → w.cell? ((⟨b, off, none⟩ : Addr).add j) = some u := by
  intro j u hj
  have hlt : j < xs.length * 2 := by
    have := (List.getElem?_eq_some_iff.1 hj).1
    rw [cellsK_len] at this
    exact this
  have ha : (⟨b, off, none⟩ : Addr).add j = ⟨b, off + j, none⟩ := by simp [Addr.add]
  rw [ha]
  rcases Nat.mod_two_eq_zero_or_one j with hm | hm
  · obtain ⟨i, rfl⟩ : ∃ i, j = i * 2 := ⟨j / 2, by omega⟩
    rw [cellsK_at0 xs i (by omega)] at hj
    rw [← hj]
    exact R.at0 i (by omega)
  · obtain ⟨i, rfl⟩ : ∃ i, j = i * 2 + 1 := ⟨j / 2, by omega⟩
    rw [cellsK_at1 xs i (by omega)] at hj
    rw [← hj]
    exact R.at1 i (by omega)
theorem cells_one (xs : List K) : ∀ u ∈ cellsK xs, u.oneCell' = true := by
  intro u hu
  unfold cellsK at hu
  simp only [List.mem_flatMap, List.mem_cons, List.not_mem_nil, or_false] at hu
  obtain ⟨x, _, rfl | rfl⟩ := hu <;> rfl

theorem sorted25_row (xs : List K) (b off cap : Nat) (w : World) (hl : xs.length * 24 ≤ 140737488351232) (hpos : 0 < xs.length) (R : Row w b off xs) :
    Calls Tryd.prog 25 #[.slice (some ⟨b, off, none⟩) xs.length cap] w fun e w' => ∃ v' ys, e = .returned v' ∧ Sl w' v' ys ∧ ys.Perm xs ∧ ys.Pairwise leK ∧ Below w.heap.size w w' := by
  obtain ⟨i4, hi4, hz40, hz41, hz42⟩ := info_parts info24
  have HNW : Hid _ := cells_owned w b off xs R
  have H1C : Hid _ := cells_one xs
  have HL : Hid _ := hl
  clear R
  go_enter Tryd.func25, Tryd.ntmps25
  go_wp2_with (at_builtin; refine wpList_append_lies _ rfl _ _ 52 rfl w.heap.size 24 i4 (.agg #[.int .u16 0, .string ⟨#[]⟩]) 2 24 Tryd.underlying52 hi4 hz40 hz41 hz42 rfl (by decide) _ 0 [] rfl ⟨rfl, Or.inl ⟨rfl, rfl⟩⟩ ⟨b, off, none⟩ xs.length cap (cellsK xs) rfl (cellsK_len xs) HNW.out H1C.out hpos (by unfold maxLen; omega) (by omega) (by simp) _ rfl ?_; intro g c w1 hown hgrow hat hlt)
  have hgb : w.heap.size ≤ g := owns_base hown
  have B1 : Hid (Below w.heap.size w w1) := (Below.refl _ _).grown hgrow (Nat.le_refl _) (fun j hj => by cases hj)
  have O1 : Hid (w1.ownsRow 0 24 2 (.slice (some ⟨g, 0, none⟩) xs.length c) xs.length (cellsK xs)) := by
    obtain ⟨h1, h2 | ⟨g', cap', cur, hv, hg, hr⟩⟩ := hown
    · cases h2.1
    · exact ⟨by simpa using h1, Or.inr ⟨g', cap', cur, by simpa using hv, Nat.zero_le _, by simpa using hr⟩⟩
  have R1 : Hid (RW w1 g xs.length c xs w1) := ⟨O1.out, rfl, gr_grown (Gr.refl _) _, hlt⟩
  clear hown hgrow hat hi4 hz40 hz41 hz42 HNW H1C O1 hl
  go_wp2_with fail
  refine Calls.mono (sort40 w1 g xs.length c xs w1 (by have := HL.out; omega) R1.out) ?_
  rintro e w2 ⟨rfl, L', hp, hs, hw⟩
  have HE : Hid (L'.length = xs.length ∧ Row w2 g 0 L' ∧ L'.Perm xs ∧ L'.Pairwise leK ∧ Below w.heap.size w w2) := by
    have hlen := hw.len
    refine ⟨hlen, ?_, hp, sorted_of_sin L' (by rw [hlen]; exact hs), B1.out.grown hw.fr B1.out.size (fun j hj => by cases hj; exact hgb)⟩
    have ho := hw.own
    rw [← hlen] at ho
    exact owns_row ho
  clear hp hs hw
  go_wp2
  go_ret
  exact ⟨_, L', rfl, Or.inr ⟨g, 0, c, by rw [HE.out.1]; rfl, HE.out.2.1⟩, HE.out.2.2.1, HE.out.2.2.2.1, HE.out.2.2.2.2⟩

theorem sorted25_some (ad : Addr) (cap : Nat) (w : World) :
    Calls Tryd.prog 25 #[.slice (some ad) 0 cap] w fun e w' => ∃ v' ys, e = .returned v' ∧ Sl w' v' ys ∧ ys.Perm ([] : List K) ∧ ys.Pairwise leK ∧ Below w.heap.size w w' := by
  obtain ⟨i4, hi4, hz40, hz41, hz42⟩ := info_parts info24
  go_enter Tryd.func25, Tryd.ntmps25
  go_wp2_with (at_builtin; refine wpList_append_own _ rfl _ _ 52 rfl w.heap.size 24 i4 (.agg #[.int .u16 0, .string ⟨#[]⟩]) 2 24 Tryd.underlying52 hi4 hz40 hz41 hz42 rfl (by decide) _ 0 [] rfl ⟨rfl, Or.inl ⟨rfl, rfl⟩⟩ ad 0 cap [] rfl rfl (fun j u h => by cases h) (fun u h => by cases h) (by unfold maxLen; omega) (by omega) (by simp) ?_; intro vin w1 hown hgrow hn)
  have B1 : Hid (Below w.heap.size w w1) := (Below.refl _ _).grown hgrow (Nat.le_refl _) (fun j hj => by cases hj)
  obtain rfl : vin = .slice none 0 0 := hn.2 ⟨rfl, trivial⟩
  clear hown hgrow hn hi4 hz40 hz41 hz42
  go_wp2_with fail
  refine Calls.mono (sort40_nil none 0 _) ?_
  rintro e w2 ⟨rfl, rfl⟩
  go_wp2
  go_ret
  exact ⟨_, [], rfl, Or.inl ⟨rfl, none, 0, rfl⟩, List.Perm.refl _, List.Pairwise.nil, B1.out⟩
theorem sorted25_none (cap : Nat) (w : World) :
    Calls Tryd.prog 25 #[.slice none 0 cap] w fun e w' => ∃ v' ys, e = .returned v' ∧ Sl w' v' ys ∧ ys.Perm ([] : List K) ∧ ys.Pairwise leK ∧ Below w.heap.size w w' := by
  go_enter Tryd.func25, Tryd.ntmps25
  go_wp2_with fail
  refine Calls.mono (sort40_nil none 0 _) ?_
  rintro e w2 ⟨rfl, rfl⟩
  go_wp2
  go_ret
  exact ⟨_, [], rfl, Or.inl ⟨rfl, none, 0, rfl⟩, List.Perm.refl _, List.Pairwise.nil, Below.refl _ _⟩

theorem sortedOk (xs : List K) (hl : xs.length * 24 ≤ 140737488351232) : SortedOk xs := by
  intro w v h
  rcases h with ⟨rfl, a, cap, rfl⟩ | ⟨b, off, cap, rfl, R⟩
  · cases a with
    | none => exact sorted25_none cap w
    | some ad => exact sorted25_some ad cap w
  · rcases Nat.eq_zero_or_pos xs.length with e | e
    · obtain rfl : xs = [] := List.length_eq_zero_iff.1 e
      exact sorted25_some _ cap w
    · exact sorted25_row xs b off cap w hl e R
theorem walkL (xs : List K) (v : Value) (w : World) (hl : xs.length * 24 ≤ 140737488351232) (hN : Oks xs) (R : (v = .slice none 0 0 ∧ xs = []) ∨ ∃ b off cap, v = .slice (some ⟨b, off, none⟩) xs.length cap ∧ Row w b off xs) :
    Calls Tryd.prog 6 #[v] w fun e w' => e = .returned (.bool true) ∧ Below w.heap.size w w' := walkLis xs v w hl hN (sortedOk xs hl) R
end Go.Proofs.YtbaljfkjgfkdiaaDoor
