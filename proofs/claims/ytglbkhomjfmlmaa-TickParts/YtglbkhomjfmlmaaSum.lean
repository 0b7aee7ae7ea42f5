/- The program's Sum, Age, Is and Within, and the document's, each answer the same plain numbers, of every number and slice of times; the world stays as it was. -/
import Derived.Test.YtglbkhomjfmlmaaProg
import Derived.Test.YtglbkhomjfmlmaaPlain
import Derived.WalkKit
import Derived.ProofKit
import Derived.OpenShut
import Derived.WalkSpells
import Derived.WalkLawsBesides
import Derived.Laws.Externs
namespace Go.Proofs.Ytglbkhomjfmlmaa
open Go.ChangeShapes Go.WideShapes Go.ChangeAt Go.RowKit

/-- A slice of times that came in: nil, or a row of cells that hold the numbers. -/
def IsRow (k : IntKind) (w : World) (a : Option Addr) (len cap : Nat) (zs : List Int) : Prop :=
  (a = none ∧ len = 0 ∧ cap = 0 ∧ zs = []) ∨
  ∃ x, a = some x ∧ len ≤ cap ∧ cap ≤ maxLen ∧ zs.length = cap ∧ (∀ i, i < zs.length → w.cell? (x.add i) = some (.int k (zs.getD i 0))) ∧ ∀ n ∈ zs, (Lit.int k n).wf = true

theorem add64 (x y : Int) (hx : 0 ≤ x) (hy : 0 ≤ y) (w : World) : (callFunc 38 #[.int .u64 x, .int .u64 y, .int .u64 0]).run Try.prog w =
    .ok (.value (.tuple #[.int .u64 ((x + y) % 18446744073709551616), .int .u64 ((x + y) / 18446744073709551616)])) w := by
  rw [run_callFunc_extern Try.func38 (by kernel_rfl) (by kernel_rfl) (by kernel_rfl) (e := add64Entry) (by kernel_rfl), run_add64 x y 0 hx hy (by omega) (by omega)]
  simp only [Result.andThen, Int.add_zero]

theorem row_facts {w : World} {a : Option Addr} {len cap : Nat} {zs : List Int} (hr : IsRow .i64 w a len cap zs) :
    len ≤ 9223372036854775807 ∧ len ≤ zs.length ∧ (∀ n ∈ zs, (Lit.int .i64 n).wf = true) ∧
      (0 < len → ∃ b off, a = some ⟨b, off, none⟩ ∧ ∀ j, j < len → w.cell? ⟨b, off + j, none⟩ = some (.int .i64 (zs.getD j 0))) := by
  rcases hr with ⟨rfl, rfl, rfl, rfl⟩ | ⟨x, rfl, hl, hm, hz, hcell, hwz⟩
  · exact ⟨by omega, by simp, by simp, fun h => absurd h (by omega)⟩
  · unfold maxLen at hm
    refine ⟨by omega, by omega, hwz, fun h => ?_⟩
    obtain ⟨b, off, rfl, hc⟩ := ints_at hcell (by omega)
    exact ⟨b, off, rfl, fun j hj => hc j (by omega)⟩

theorem ret3 {k1 k2 k3 : IntKind} {a b c a' b' c' : Int} (h1 : a = a') (h2 : b = b') (h3 : c = c') :
    Ending.returned (.tuple #[.int k1 a, .int k2 b, .int k3 c]) = .returned (.tuple #[.int k1 a', .int k2 b', .int k3 c']) := by rw [h1, h2, h3]

theorem sum18_nil (a : Option Addr) (cap : Nat) (w : World) :
    Calls Try.prog 18 #[.slice a 0 cap] w fun e w' => e = .returned (.tuple #[.int .u64 0, .int .u64 0, .int .i64 0]) ∧ w' = w := by
  go_enter Try.func18, Try.ntmps18
  go_wp2
  go_loop [5, 6, 12] (fun h l i => h = .int .u64 0 ∧ l = .int .u64 0 ∧ i = .int .i64 0) (fun _ _ _ => 0)
  case atStart => exact ⟨rfl, rfl, rfl⟩
  case round =>
    obtain ⟨rfl, rfl, rfl⟩ := hrel
    go_wp2
    go_ret3
    exact ⟨rfl, rfl⟩

theorem sum18_some (b off : Nat) (len cap : Nat) (zs : List Int) (w : World) (hlen : len ≤ 9223372036854775807) (hzs : len ≤ zs.length) (hwz : ∀ n ∈ zs, (Lit.int .i64 n).wf = true)
    (hcell : ∀ j, j < len → w.cell? ⟨b, off + j, none⟩ = some (.int .i64 (zs.getD j 0))) :
    Calls Try.prog 18 #[.slice (some ⟨b, off, none⟩) len cap] w fun e w' => e = .returned (.tuple #[.int .u64 (sumHi (zs.take len)), .int .u64 (sumLo (zs.take len)), .int .i64 (sumErr (zs.take len))]) ∧ w' = w := by
  have HC : Hid (∀ j, j < len → w.cell? ⟨b, off + j, none⟩ = some (.int .i64 (zs.getD j 0))) := hcell
  have HW : Hid (∀ n ∈ zs, (Lit.int .i64 n).wf = true) := hwz
  clear hcell hwz
  go_enter Try.func18, Try.ntmps18
  go_wp2
  go_loop [5, 6, 12] (fun h l i => ∃ (k : Nat) (H L : Int), k ≤ len ∧ i = .int .i64 k ∧ h = .int .u64 H ∧ l = .int .u64 L ∧ 0 ≤ H ∧ H ≤ k ∧ 0 ≤ L ∧ L < 18446744073709551616 ∧ Hid (sumI (zs.take k) = H * 18446744073709551616 + L) ∧ Hid (negIn (zs.take k) = false)) (fun _ _ i => len - (intOf i).toNat)
  case atStart => exact ⟨0, 0, 0, Nat.zero_le _, rfl, rfl, rfl, by omega, by omega, by omega, by omega, rfl, rfl⟩
  case round =>
    obtain ⟨k, H, L, hk, rfl, rfl, rfl, hH0, hH1, hL0, hL1, hT, hN⟩ := hrel
    by_cases hlt : k < len
    · have hc := HC.out k hlt
      have hmem : zs.getD k 0 ∈ zs := by rw [getD_at zs k (by omega)]; exact List.getElem_mem _
      have hbd := i64_bounds (HW.out _ hmem)
      have hnx : Hid (zs.take (k + 1) = zs.take k ++ [zs.getD k 0]) := take_next zs k (by omega)
      have hng : Hid (zs.getD k 0 < 0 → negIn (zs.take len) = true) := negIn_take zs k len hlt (by omega)
      clear hmem
      generalize zs.getD k 0 = z at hc hbd hnx hng
      obtain ⟨hb1, hb2⟩ := hbd
      by_cases hneg : z < 0
      · go_wp2
        go_ret3
        have := hng.out hneg
        exact ⟨ret3 (by simp [sumHi, this]) (by simp [sumLo, this]) (by simp [sumErr, this]), rfl⟩
      · have hz0 : 0 ≤ z := by omega
        go_wp2_with (simp only [add64 L z hL0 hz0])
        go_round
        case rel =>
          refine ⟨k + 1, _, _, by omega, by go_num, rfl, rfl, by omega, by omega, by omega, by omega, ?_, ?_⟩
          · rw [hnx.out, sumI_snoc]; exact sum_next hT.out
          · show negIn _ = false; rw [hnx.out, negIn_snoc, hN.out]; simpa using hz0
        case measure => simp [intOf]; omega
    · go_wp2
      go_ret3
      obtain rfl : k = len := by omega
      obtain ⟨e1, e2, e3⟩ := sum_end hT.out hL0 hL1 hN.out
      exact ⟨ret3 e1 e2 e3, rfl⟩

theorem sum18 (a : Option Addr) (len cap : Nat) (zs : List Int) (w : World) (hr : IsRow .i64 w a len cap zs) :
    Calls Try.prog 18 #[.slice a len cap] w fun e w' => e = .returned (.tuple #[.int .u64 (sumHi (zs.take len)), .int .u64 (sumLo (zs.take len)), .int .i64 (sumErr (zs.take len))]) ∧ w' = w := by
  obtain ⟨hlen, hzs, hwz, hc⟩ := row_facts hr
  by_cases h0 : len = 0
  · subst h0
    exact sum18_nil a cap w
  · obtain ⟨b, off, rfl, hcell⟩ := hc (by omega)
    exact sum18_some b off len cap zs w hlen hzs hwz hcell

theorem sum19_nil (a : Option Addr) (cap : Nat) (w : World) :
    Calls Try.prog 19 #[.slice a 0 cap] w fun e w' => e = .returned (.tuple #[.int .u64 0, .int .u64 0, .int .i64 0]) ∧ w' = w := by
  go_enter Try.func19, Try.ntmps19
  go_wp2
  go_loop [7] (fun i => i = .int .i64 0) (fun _ => 0)
  case atStart => exact rfl
  case round =>
    subst hrel
    go_wp2
    go_loop [5, 6, 8] (fun h l i => h = .int .u64 0 ∧ l = .int .u64 0 ∧ i = .int .i64 0) (fun _ _ _ => 0)
    case atStart => exact ⟨rfl, rfl, rfl⟩
    case round =>
      obtain ⟨rfl, rfl, rfl⟩ := hrel
      go_wp2
      go_ret3
      exact ⟨rfl, rfl⟩

theorem sum19_some (b off : Nat) (len cap : Nat) (zs : List Int) (w : World) (hlen : len ≤ 9223372036854775807) (hzs : len ≤ zs.length) (hwz : ∀ n ∈ zs, (Lit.int .i64 n).wf = true)
    (hcell : ∀ j, j < len → w.cell? ⟨b, off + j, none⟩ = some (.int .i64 (zs.getD j 0))) :
    Calls Try.prog 19 #[.slice (some ⟨b, off, none⟩) len cap] w fun e w' => e = .returned (.tuple #[.int .u64 (sumHi (zs.take len)), .int .u64 (sumLo (zs.take len)), .int .i64 (sumErr (zs.take len))]) ∧ w' = w := by
  have HC : Hid (∀ j, j < len → w.cell? ⟨b, off + j, none⟩ = some (.int .i64 (zs.getD j 0))) := hcell
  have HW : Hid (∀ n ∈ zs, (Lit.int .i64 n).wf = true) := hwz
  clear hcell hwz
  go_enter Try.func19, Try.ntmps19
  go_wp2
  go_loop [7] (fun i => ∃ k : Nat, k ≤ len ∧ i = .int .i64 k ∧ Hid (negIn (zs.take k) = false)) (fun i => len - (intOf i).toNat)
  case atStart => exact ⟨0, Nat.zero_le _, rfl, rfl⟩
  case round =>
    obtain ⟨k, hk, rfl, hN⟩ := hrel
    by_cases hlt : k < len
    · have hc := HC.out k hlt
      have hnx : Hid (zs.take (k + 1) = zs.take k ++ [zs.getD k 0]) := take_next zs k (by omega)
      have hng : Hid (zs.getD k 0 < 0 → negIn (zs.take len) = true) := negIn_take zs k len hlt (by omega)
      generalize zs.getD k 0 = z at hc hnx hng
      by_cases hneg : z < 0
      · go_wp2
        go_ret3
        have := hng.out hneg
        exact ⟨ret3 (by simp [sumHi, this]) (by simp [sumLo, this]) (by simp [sumErr, this]), rfl⟩
      · have hz0 : 0 ≤ z := by omega
        go_wp2
        go_round
        case rel => exact ⟨k + 1, by omega, by go_num, by show negIn _ = false; rw [hnx.out, negIn_snoc, hN.out]; simpa using hz0⟩
        case measure => simp [intOf]; omega
    · obtain rfl : k = len := by omega
      go_wp2
      go_loop [5, 6, 8] (fun h l i => ∃ (j : Nat) (H L : Int), j ≤ k ∧ i = .int .i64 j ∧ h = .int .u64 H ∧ l = .int .u64 L ∧ 0 ≤ H ∧ H ≤ j ∧ 0 ≤ L ∧ L < 18446744073709551616 ∧ Hid (sumI (zs.take j) = H * 18446744073709551616 + L)) (fun _ _ i => k - (intOf i).toNat)
      case atStart => exact ⟨0, 0, 0, Nat.zero_le _, rfl, rfl, rfl, by omega, by omega, by omega, by omega, rfl⟩
      case round =>
        obtain ⟨j, H, L, hj, rfl, rfl, rfl, hH0, hH1, hL0, hL1, hT⟩ := hrel
        by_cases hlt : j < k
        · have hc := HC.out j hlt
          have hmem : zs.getD j 0 ∈ zs := by rw [getD_at zs j (by omega)]; exact List.getElem_mem _
          have hbd := i64_bounds (HW.out _ hmem)
          have hnx : Hid (zs.take (j + 1) = zs.take j ++ [zs.getD j 0]) := take_next zs j (by omega)
          have hz0 : 0 ≤ zs.getD j 0 := by
            by_cases h : zs.getD j 0 < 0
            · have := negIn_take zs j k hlt (by omega) h
              rw [hN.out] at this
              cases this
            · omega
          clear hmem
          generalize zs.getD j 0 = z at hc hbd hnx hz0
          obtain ⟨hb1, hb2⟩ := hbd
          by_cases hov : L + z < 18446744073709551616
          · go_wp2
            go_round
            case rel =>
              refine ⟨j + 1, _, _, by omega, by go_num, rfl, rfl, by omega, by omega, by omega, by omega, ?_⟩
              rw [hnx.out, sumI_snoc]
              have := hT.out
              show _ = _
              omega
            case measure => simp [intOf]; omega
          · have hwr : IntKind.u64.wrap (L + z) = L + z - 18446744073709551616 := by rw [IntKind.wrap_u64]; omega
            obtain ⟨N, hNN⟩ : ∃ N, IntKind.u64.wrap (L + z) = N := ⟨_, rfl⟩
            have HN : Hid (N = L + z - 18446744073709551616) := by rw [← hNN]; exact hwr
            have hN1 : N < L := by have := HN.out; omega
            have hN0 : 0 ≤ N := by have := HN.out; omega
            clear hwr hov
            go_wp2
            go_round
            case rel =>
              refine ⟨j + 1, _, _, by omega, by go_num, rfl, rfl, by omega, by omega, by omega, by omega, ?_⟩
              rw [hnx.out, sumI_snoc]
              have := hT.out
              have := HN.out
              show _ = _
              omega
            case measure => simp [intOf]; omega
        · obtain rfl : j = k := by omega
          go_wp2
          go_ret3
          obtain ⟨e1, e2, e3⟩ := sum_end hT.out hL0 hL1 hN.out
          exact ⟨ret3 e1 e2 e3, rfl⟩

theorem sum19 (a : Option Addr) (len cap : Nat) (zs : List Int) (w : World) (hr : IsRow .i64 w a len cap zs) :
    Calls Try.prog 19 #[.slice a len cap] w fun e w' => e = .returned (.tuple #[.int .u64 (sumHi (zs.take len)), .int .u64 (sumLo (zs.take len)), .int .i64 (sumErr (zs.take len))]) ∧ w' = w := by
  obtain ⟨hlen, hzs, hwz, hc⟩ := row_facts hr
  by_cases h0 : len = 0
  · subst h0
    exact sum19_nil a cap w
  · obtain ⟨b, off, rfl, hcell⟩ := hc (by omega)
    exact sum19_some b off len cap zs w hlen hzs hwz hcell

end Go.Proofs.Ytglbkhomjfmlmaa
