/- The contracts of the program's and the document's Sum, of times that are none below 0, some few of them. -/
import Derived.Test.YtkodabhkhifggaaWsm
import Derived.Test.YtkodabhkhifggaaRsq
import Derived.Laws.Externs
namespace Go.Proofs.Ytkodabhkhifggaa
open Go.RowKit Go.Maps Go.ChangeMaps Go.ChangeShapes Go.WideShapes Go.ChangeAt
set_option linter.unusedVariables false
set_option linter.unusedSimpArgs false
theorem add64 (x y : Int) (hx : 0 ≤ x) (hy : 0 ≤ y) (w : World) : (callFunc 38 #[.int .u64 x, .int .u64 y, .int .u64 0]).run Try.prog w =
    .ok (.value (.tuple #[.int .u64 ((x + y) % 18446744073709551616), .int .u64 ((x + y) / 18446744073709551616)])) w := by
  rw [run_callFunc_extern Try.func38 (by kernel_rfl) (by kernel_rfl) (by kernel_rfl) (e := add64Entry) (by kernel_rfl), run_add64 x y 0 hx hy (by omega) (by omega)]
  simp only [Result.andThen, Int.add_zero]
theorem sum_ (w : World) (a : Option Addr) (n c : Nat) (Z : List Int) (hr : Rs 2 1 w (.slice a n c) n (ints Z)) (hz : ∀ z ∈ Z, 0 ≤ z ∧ z ≤ 9223372036854775807) (hn : n ≤ 64) :
    Calls Try.prog 29 #[.slice a n c] w fun e w' => e = .returned (.tuple #[.int .u64 (sumI Z / 18446744073709551616), .int .u64 (sumI Z % 18446744073709551616), .int .i64 0]) ∧ w' = w := by
  have hl : Z.length = n := by have := hr.1; simpa [ints] using this
  have HC : Hid (∀ j, j < n → ∃ g off, a = some ⟨g, off, none⟩ ∧ w.cell? ⟨g, off + j, none⟩ = some (.int .i64 (Z.getD j 0)) ∧ 0 ≤ Z.getD j 0 ∧ Z.getD j 0 ≤ 9223372036854775807) := hid (fun j hj => by
    have hj' : j < Z.length := by omega
    obtain ⟨g, off, e, hc⟩ := hr.cell (j := j) (u := .int .i64 Z[j]) (by simp [ints, hj']) (by omega)
    rw [getD_at Z j hj']
    exact ⟨g, off, e, hc, hz _ (List.getElem_mem _)⟩)
  have HL := hid hl
  clear hr hz hl
  go_enter Try.func29, Try.ntmps29
  go_wp2
  go_loop [5, 6, 12] (fun h l i => ∃ (k : Nat) (H L : Int), k ≤ n ∧ i = .int .i64 (k : Int) ∧ h = .int .u64 H ∧ l = .int .u64 L ∧ 0 ≤ H ∧ H ≤ (k : Int) ∧ 0 ≤ L ∧ L < 18446744073709551616 ∧ Hid (sumI (Z.take k) = H * 18446744073709551616 + L)) (fun _ _ i => n - (intOf i).toNat)
  case atStart => exact ⟨0, 0, 0, Nat.zero_le _, rfl, rfl, rfl, by omega, by omega, by omega, by omega, rfl⟩
  case round =>
    obtain ⟨k, H, L, hk, rfl, rfl, rfl, hH0, hH1, hL0, hL1, hT⟩ := hrel
    by_cases hlt : k < n
    · obtain ⟨g, off, rfl, hc, hz0, hz1⟩ := HC.out k hlt
      have hnx : Hid (Z.take (k + 1) = Z.take k ++ [Z.getD k 0]) := take_next Z k (by have := HL.out; omega)
      generalize Z.getD k 0 = z at hc hnx hz0 hz1
      go_wp2_with (simp only [add64 L z hL0 hz0])
      go_round
      case rel =>
        refine ⟨k + 1, _, _, by omega, by go_num, rfl, rfl, by omega, by omega, by omega, by omega, ?_⟩
        rw [hnx.out, sumI_snoc]
        exact sum_next hT.out
      case measure => simp [intOf]; omega
    · have HE : Hid (H = sumI Z / 18446744073709551616 ∧ L = sumI Z % 18446744073709551616) := hid (by
        have e := hT.out
        rw [List.take_of_length_le (by have := HL.out; omega)] at e
        omega)
      go_wp2
      exact bodyPost_ret (v := .tuple #[.int .u64 H, .int .u64 L, .int .i64 0]) (by simp [results, Try.results29, go_sem]) rfl ⟨by rw [HE.out.1, HE.out.2], rfl⟩
theorem rsum_ (w : World) (a : Option Addr) (n c : Nat) (Z : List Int) (hr : Rs 2 1 w (.slice a n c) n (ints Z)) (hz : ∀ z ∈ Z, 0 ≤ z ∧ z ≤ 9223372036854775807) (hn : n ≤ 64) :
    Calls Try.prog 15 #[.slice a n c] w fun e w' => e = .returned (.tuple #[.int .u64 (sumI Z / 18446744073709551616), .int .u64 (sumI Z % 18446744073709551616), .int .i64 0]) ∧ w' = w := by
  have hl : Z.length = n := by have := hr.1; simpa [ints] using this
  have HC : Hid (∀ j, j < n → ∃ g off, a = some ⟨g, off, none⟩ ∧ w.cell? ⟨g, off + j, none⟩ = some (.int .i64 (Z.getD j 0)) ∧ 0 ≤ Z.getD j 0 ∧ Z.getD j 0 ≤ 9223372036854775807) := hid (fun j hj => by
    have hj' : j < Z.length := by omega
    obtain ⟨g, off, e, hc⟩ := hr.cell (j := j) (u := .int .i64 Z[j]) (by simp [ints, hj']) (by omega)
    rw [getD_at Z j hj']
    exact ⟨g, off, e, hc, hz _ (List.getElem_mem _)⟩)
  have HL := hid hl
  clear hr hz hl
  go_enter Try.func15, Try.ntmps15
  go_wp2
  go_loop [7] (fun i => ∃ k : Nat, k ≤ n ∧ i = .int .i64 (k : Int)) (fun i => n - (intOf i).toNat)
  case atStart => exact ⟨0, Nat.zero_le _, rfl⟩
  case round =>
    obtain ⟨k, hk, rfl⟩ := hrel
    by_cases hlt : k < n
    · obtain ⟨g, off, rfl, hc, hz0, hz1⟩ := HC.out k hlt
      generalize Z.getD k 0 = z at hc hz0 hz1
      go_wp2
      go_round
      case rel => exact ⟨k + 1, by omega, by go_num⟩
      case measure => simp [intOf]; omega
    · have hke : (k : Int) = (n : Int) := by omega
      clear hlt hk
      go_wp2
      go_loop [5, 6, 8] (fun h l i => ∃ (j : Nat) (H L : Int), j ≤ n ∧ i = .int .i64 (j : Int) ∧ h = .int .u64 H ∧ l = .int .u64 L ∧ 0 ≤ H ∧ H ≤ (j : Int) ∧ 0 ≤ L ∧ L < 18446744073709551616 ∧ Hid (sumI (Z.take j) = H * 18446744073709551616 + L)) (fun _ _ i => n - (intOf i).toNat)
      case atStart => exact ⟨0, 0, 0, Nat.zero_le _, rfl, rfl, rfl, by omega, by omega, by omega, by omega, rfl⟩
      case round =>
        obtain ⟨j, H, L, hj, rfl, rfl, rfl, hH0, hH1, hL0, hL1, hT⟩ := hrel
        by_cases hlt : j < n
        · obtain ⟨g, off, rfl, hc, hz0, hz1⟩ := HC.out j hlt
          have hnx : Hid (Z.take (j + 1) = Z.take j ++ [Z.getD j 0]) := take_next Z j (by have := HL.out; omega)
          generalize Z.getD j 0 = z at hc hnx hz0 hz1
          by_cases hov : L + z < 18446744073709551616
          · go_wp2
            go_round
            case rel =>
              refine ⟨j + 1, _, _, by omega, by go_num, rfl, rfl, by omega, by omega, by omega, by omega, ?_⟩
              rw [hnx.out, sumI_snoc]
              have := hT.out
              show _ = _
              omega
            case measure => simp [intOf]; omega
          · have hwr : IntKind.u64.wrap (L + z) = L + z - 18446744073709551616 := by rw [IntKind.wrap_u64]; omega
            obtain ⟨N, hNN⟩ : ∃ N, IntKind.u64.wrap (L + z) = N := ⟨_, rfl⟩
            have HN : Hid (N = L + z - 18446744073709551616) := by rw [← hNN]; exact hwr
            have hN1 : N < L := by have := HN.out; omega
            have hN0 : 0 ≤ N := by have := HN.out; omega
            clear hwr hov
            go_wp2
            go_round
            case rel =>
              refine ⟨j + 1, _, _, by omega, by go_num, rfl, rfl, by omega, by omega, by omega, by omega, ?_⟩
              rw [hnx.out, sumI_snoc]
              have := hT.out
              have := HN.out
              show _ = _
              omega
            case measure => simp [intOf]; omega
        · have HE : Hid (H = sumI Z / 18446744073709551616 ∧ L = sumI Z % 18446744073709551616) := hid (by
            have e := hT.out
            rw [List.take_of_length_le (by have := HL.out; omega)] at e
            omega)
          go_wp2
          exact bodyPost_ret (v := .tuple #[.int .u64 H, .int .u64 L, .int .i64 0]) (by simp [results, Try.results15, go_sem]) rfl ⟨by rw [HE.out.1, HE.out.2], rfl⟩
end Go.Proofs.Ytkodabhkhifggaa
