/- Contracts of the small functions below a memo: ticks, sums of one or two times, outcomes that may be, configurations; no conditions but those that each states. -/
import Derived.Test.YtopepalpmkeffaaThy
import Derived.Laws.Externs
import Derived.WalkLawsBesides
namespace Go.Proofs.Ytopepalpmkeffaa
open Go.RowKit Go.Sort Go.Maps Go.ChangeMaps Go.WideMaps
set_option linter.unusedVariables false
set_option linter.unusedSimpArgs false
def isT (t : Int) : Bool := decide (0 ≤ t) && decide (t ≤ 4611686018427387904)
theorem isT_yes {t : Int} (h : 0 ≤ t) (h2 : t ≤ MT) : isT t = true := by unfold isT MT at *; simp; omega
theorem is39 (t : Int) (w : World) : Calls Try.prog 39 #[.int .i64 t] w fun e w' => e = .returned (.bool (isT t)) ∧ w' = w := by
  by_cases h0 : 0 ≤ t
  · by_cases h1 : t ≤ 4611686018427387904
    · go_enter Try.func39, Try.ntmps39
      go_wp2
      go_ret
      exact ⟨by simp [isT, h0, h1], rfl⟩
    · go_enter Try.func39, Try.ntmps39
      go_wp2
      go_ret
      exact ⟨by simp [isT, h1], rfl⟩
  · have hn : isT t = false := by simp [isT]; omega
    rw [hn]
    go_enter Try.func39, Try.ntmps39
    go_wp2
    go_ret
    exact ⟨rfl, rfl⟩
theorem age81 (now at' : Int) (w : World) (h0 : 0 ≤ at') (h1 : at' ≤ now) (h2 : now ≤ MT) : Calls Try.prog 81 #[.int .i64 now, .int .i64 at'] w fun e w' => e = .returned (.tuple #[.int .i64 (now - at'), .int .i64 0]) ∧ w' = w := by
  have H1 := is39 now
  have H2 := is39 at'
  rw [isT_yes (by omega) h2] at H1
  rw [isT_yes h0 (by omega)] at H2
  unfold MT at h2
  have hw : IntKind.i64.wrap (now - at') = now - at' := by simp [IntKind.wrap, IntKind.bits, IntKind.signed, IntKind.min, IntKind.max]; omega
  go_enter Try.func81, Try.ntmps81
  go_wp2_with (first
    | (go_at_call_of 39 (#[.int .i64 now] : Array Value); refine (H1 _).mono ?_; rintro e w2 ⟨rfl, rfl⟩)
    | (go_at_call_of 39 (#[.int .i64 at'] : Array Value); refine (H2 _).mono ?_; rintro e w2 ⟨rfl, rfl⟩))
  exact bodyPost_ret (v := .tuple #[.int .i64 (now - at'), .int .i64 0]) (by simp [results, Try.results81, go_sem]) rfl ⟨rfl, rfl⟩
theorem add64 (x y : Int) (hx : 0 ≤ x) (hy : 0 ≤ y) (w : World) : (callFunc 83 #[.int .u64 x, .int .u64 y, .int .u64 0]).run Try.prog w =
    .ok (.value (.tuple #[.int .u64 ((x + y) % 18446744073709551616), .int .u64 ((x + y) / 18446744073709551616)])) w := by
  rw [run_callFunc_extern Try.func83 (by kernel_rfl) (by kernel_rfl) (by kernel_rfl) (e := add64Entry) (by kernel_rfl), run_add64 x y 0 hx hy (by omega) (by omega)]
  simp only [Result.andThen, Int.add_zero]
theorem sum82 (b len : Nat) (f S : Nat → Int) (w : World) (hlen : len ≤ 2) (hf : ∀ j, j < len → w.cell? ⟨b, j, none⟩ = some (.int .i64 (f j)) ∧ 0 ≤ f j ∧ f j ≤ 9223372036854775807)
    (h0 : S 0 = 0) (hS : ∀ j, j < len → S (j + 1) = S j + f j) (hb : ∀ j, j ≤ len → 0 ≤ S j ∧ S j < 18446744073709551616) :
    Calls Try.prog 82 #[.slice (some ⟨b, 0, none⟩) len len] w fun e w' => e = .returned (.tuple #[.int .u64 0, .int .u64 (S len), .int .i64 0]) ∧ w' = w := by
  have HF := hid hf
  have HS := hid hS
  have HB := hid hb
  have HZ := hid h0
  clear hf hS hb h0
  go_enter Try.func82, Try.ntmps82
  go_wp2
  go_loop [5, 6, 12] (fun h l i => ∃ (k : Nat), k ≤ len ∧ i = .int .i64 k ∧ h = .int .u64 0 ∧ l = .int .u64 (S k)) (fun _ _ i => len - (intOf i).toNat)
  case atStart => exact ⟨0, Nat.zero_le _, rfl, rfl, by rw [HZ.out]⟩
  case round =>
    obtain ⟨k, hk, rfl, rfl, rfl⟩ := hrel
    by_cases hlt : k < len
    · obtain ⟨hc, z0, z1⟩ := HF.out k hlt
      have HT := hid (HS.out k hlt)
      obtain ⟨s0, s1⟩ := HB.out k hk
      have HN := hid (HB.out (k + 1) hlt)
      generalize f k = z at *
      obtain ⟨L, hL⟩ : ∃ L, L = S k := ⟨_, rfl⟩
      have HL := hid hL
      rw [← hL] at s0 s1 ⊢
      clear hL
      have e1 : (L + z) % 18446744073709551616 = L + z := by have := HN.out; rw [HT.out, ← HL.out] at this; omega
      have e2 : (L + z) / 18446744073709551616 = 0 := by have := HN.out; rw [HT.out, ← HL.out] at this; omega
      have ad := add64 L z s0 z0
      rw [e1, e2] at ad
      clear e1 e2
      go_wp2_with (simp only [ad])
      go_round
      case rel => exact ⟨k + 1, by omega, by go_num, rfl, by rw [HT.out, ← HL.out]⟩
      case measure => simp [intOf]; omega
    · obtain rfl : k = len := by omega
      go_wp2
      exact bodyPost_ret (v := .tuple #[.int .u64 0, .int .u64 (S k), .int .i64 0]) (by simp [results, Try.results82, go_sem]) rfl ⟨rfl, rfl⟩
theorem within80 (now at' : Int) (b len : Nat) (f S : Nat → Int) (w : World) (ha0 : 0 ≤ at') (ha1 : at' ≤ now) (ha2 : now ≤ MT) (hlen : len ≤ 2) (hf : ∀ j, j < len → w.cell? ⟨b, j, none⟩ = some (.int .i64 (f j)) ∧ 0 ≤ f j ∧ f j ≤ 9223372036854775807)
    (h0 : S 0 = 0) (hS : ∀ j, j < len → S (j + 1) = S j + f j) (hb : ∀ j, j ≤ len → 0 ≤ S j ∧ S j < 18446744073709551616) :
    Calls Try.prog 80 #[.int .i64 now, .int .i64 at', .slice (some ⟨b, 0, none⟩) len len] w fun e w' => e = .returned (.tuple #[.bool (decide (now - at' < S len)), .int .i64 0]) ∧ w' = w := by
  have HA := hid (age81 now at' w ha0 ha1 ha2)
  have HS := hid (sum82 b len f S w hlen hf h0 hS hb)
  have hs := hb len (Nat.le_refl _)
  unfold MT at ha2
  have hw : IntKind.u64.wrap (now - at') = now - at' := by simp [IntKind.wrap, IntKind.bits, IntKind.signed, IntKind.min, IntKind.max]; omega
  clear hf h0 hS hb
  generalize S len = s at *
  generalize now - at' = ag at *
  obtain ⟨s0, s1⟩ := hs
  go_enter Try.func80, Try.ntmps80
  go_wp2_with (first
    | (go_at_call 81; refine HA.out.mono ?_; rintro e w2 ⟨rfl, e2⟩; rw [e2]; clear e2 w2)
    | (go_at_call 82; refine HS.out.mono ?_; rintro e w2 ⟨rfl, e2⟩; rw [e2]; clear e2 w2))
  exact bodyPost_ret (v := .tuple #[.bool (decide (ag < s)), .int .i64 0]) (by simp [results, Try.results80, go_sem]) rfl ⟨rfl, rfl⟩
theorem eqf (w : World) (a b c : Int) : (binOp .eql 41 (.agg #[.int .i64 a, .int .i64 b, .int .i64 c]) (.agg #[.int .i64 0, .int .i64 0, .int .i64 0])).run Try.prog w = .ok (.bool (nonF a b c)) w := by
  unfold nonF
  by_cases h1 : a = 0
  · by_cases h2 : b = 0
    · by_cases h3 : c = 0
      · go_simp
      · go_simp
    · go_simp
  · go_simp
theorem same79 (w : World) (a b c : Int) : Calls Try.prog 79 #[.agg #[.int .i64 a, .int .i64 b, .int .i64 c], .agg #[.int .i64 0, .int .i64 0, .int .i64 0]] w fun e w' => e = .returned (.bool (nonF a b c)) ∧ Touch [] w w' := by
  have h := fun w => eqf w a b c
  generalize nonF a b c = r at *
  go_enter Try.func79, Try.ntmps79
  go_wp2
  go_ret
  exact ⟨rfl, by repeat (first | exact Touch.refl _ _ | apply Touch.alloc)⟩
theorem none75 (w : World) (a b c : Int) : Calls Try.prog 75 #[.agg #[.int .i64 a, .int .i64 b, .int .i64 c]] w fun e w' => e = .returned (.bool (nonF a b c)) ∧ Touch [] w w' := by
  have H := hid (fun w => same79 w a b c)
  generalize nonF a b c = r at *
  go_enter Try.func75, Try.ntmps75
  go_wp2_with (go_at_call 79; refine (H.out _).mono ?_; rintro e w2 ⟨rfl, t2⟩; have T2 := hid t2; clear t2)
  go_ret
  exact ⟨rfl, ((Touch.refl _ _).alloc _).trans' T2.out⟩
theorem fail76 (w : World) (o : O) : Calls Try.prog 76 #[ov o] w fun e w' => e = .returned (.bool (!decide (o.2.1 = 0))) ∧ Touch [] w w' := by
  unfold ov
  by_cases h : o.2.1 = 0
  · go_enter Try.func76, Try.ntmps76
    go_wp2
    go_ret
    exact ⟨by simp [h], by repeat (first | exact Touch.refl _ _ | apply Touch.alloc)⟩
  · go_enter Try.func76, Try.ntmps76
    go_wp2
    go_ret
    exact ⟨by simp [h], by repeat (first | exact Touch.refl _ _ | apply Touch.alloc)⟩
end Go.Proofs.Ytopepalpmkeffaa
