/- Contracts of the small functions below a memo: ticks, sums of one or two times, outcomes that may be, configurations; no conditions but those that each states. -/
import Derived.Test.YtpefbmheblfbeaaGreatQc02
import Derived.Laws.Externs
import Derived.WalkLawsBesides
import Derived.RangeFuncNested
import Derived.RangeFuncBound
import Derived.RangeFuncCalls
import Derived.RangeFuncLeaves
import Derived.Shelf.Abstract
import Derived.Shelf.RegionOpen
import Derived.OwnWalkIn
import Derived.TacticsInMore
import Derived.LoopNIn
import Derived.LoopIn
import Derived.Deep.CutRange
import Derived.Deep.CutBlock
import Derived.Test.YtpefbmheblfbeaaGreatQc01
namespace Go.Proofs.YtpefbmheblfbeaaGreat.Me
open Go.RowKit Go.Sort Go.Maps Go.ChangeMaps Go.WideMaps
set_option maxRecDepth 100000
set_option linter.unusedVariables false
set_option linter.unusedSimpArgs false
def isT (t : Int) : Bool := decide (0 ≤ t) && decide (t ≤ 4611686018427387904)
theorem isT_yes {t : Int} (h : 0 ≤ t) (h2 : t ≤ MT) : isT t = true := by unfold isT MT at *; simp; omega
theorem is39 (t : Int) (w : World) : Calls Tryz.prog 84 #[.int .i64 t] w fun e w' => e = .returned (.bool (isT t)) ∧ w' = w := by
  by_cases h0 : 0 ≤ t
  · by_cases h1 : t ≤ 4611686018427387904
    · go_enter Tryz.func84, Tryz.ntmps84
      go_wp2
      go_ret
      exact ⟨by simp [isT, h0, h1], rfl⟩
    · go_enter Tryz.func84, Tryz.ntmps84
      go_wp2
      go_ret
      exact ⟨by simp [isT, h1], rfl⟩
  · have hn : isT t = false := by simp [isT]; omega
    rw [hn]
    go_enter Tryz.func84, Tryz.ntmps84
    go_wp2
    go_ret
    exact ⟨rfl, rfl⟩
theorem age81 (now at' : Int) (w : World) (h0 : 0 ≤ at') (h1 : at' ≤ now) (h2 : now ≤ MT) : Calls Tryz.prog 164 #[.int .i64 now, .int .i64 at'] w fun e w' => e = .returned (.tuple #[.int .i64 (now - at'), .int .i64 0]) ∧ w' = w := by
  have H1 := is39 now
  have H2 := is39 at'
  rw [isT_yes (by omega) h2] at H1
  rw [isT_yes h0 (by omega)] at H2
  unfold MT at h2
  have hw : IntKind.i64.wrap (now - at') = now - at' := by simp [IntKind.wrap, IntKind.bits, IntKind.signed, IntKind.min, IntKind.max]; omega
  go_enter Tryz.func164, Tryz.ntmps164
  go_wp2_with (first
    | (go_at_call_of 84 (#[.int .i64 now] : Array Value); refine (H1 _).mono ?_; rintro e w2 ⟨rfl, rfl⟩)
    | (go_at_call_of 84 (#[.int .i64 at'] : Array Value); refine (H2 _).mono ?_; rintro e w2 ⟨rfl, rfl⟩))
  exact bodyPost_ret (v := .tuple #[.int .i64 (now - at'), .int .i64 0]) (by simp [results, Tryz.results164, go_sem]) rfl ⟨rfl, rfl⟩
theorem add64 (x y : Int) (hx : 0 ≤ x) (hy : 0 ≤ y) (w : World) : (callFunc 166 #[.int .u64 x, .int .u64 y, .int .u64 0]).run Tryz.prog w =
    .ok (.value (.tuple #[.int .u64 ((x + y) % 18446744073709551616), .int .u64 ((x + y) / 18446744073709551616)])) w := by
  rw [run_callFunc_extern Tryz.func166 (by kernel_rfl) (by kernel_rfl) (by kernel_rfl) (e := add64Entry) (by kernel_rfl), run_add64 x y 0 hx hy (by omega) (by omega)]
  simp only [Result.andThen, Int.add_zero]
theorem sum82 (b len : Nat) (f S : Nat → Int) (w : World) (hlen : len ≤ 2) (hf : ∀ j, j < len → w.cell? ⟨b, j, none⟩ = some (.int .i64 (f j)) ∧ 0 ≤ f j ∧ f j ≤ 9223372036854775807)
    (h0 : S 0 = 0) (hS : ∀ j, j < len → S (j + 1) = S j + f j) (hb : ∀ j, j ≤ len → 0 ≤ S j ∧ S j < 18446744073709551616) :
    Calls Tryz.prog 165 #[.slice (some ⟨b, 0, none⟩) len len] w fun e w' => e = .returned (.tuple #[.int .u64 0, .int .u64 (S len), .int .i64 0]) ∧ w' = w := by
  have HF := hid hf
  have HS := hid hS
  have HB := hid hb
  have HZ := hid h0
  clear hf hS hb h0
  go_enter Tryz.func165, Tryz.ntmps165
  go_wp2
  go_loop [5, 6, 12] (fun h l i => ∃ (k : Nat), k ≤ len ∧ i = .int .i64 k ∧ h = .int .u64 0 ∧ l = .int .u64 (S k)) (fun _ _ i => len - (intOf i).toNat)
  case atStart => exact ⟨0, Nat.zero_le _, rfl, rfl, by rw [HZ.out]⟩
  case round =>
    obtain ⟨k, hk, rfl, rfl, rfl⟩ := hrel
    by_cases hlt : k < len
    · obtain ⟨hc, z0, z1⟩ := HF.out k hlt
      have HT := hid (HS.out k hlt)
      obtain ⟨s0, s1⟩ := HB.out k hk
      have HN := hid (HB.out (k + 1) hlt)
      generalize f k = z at *
      obtain ⟨L, hL⟩ : ∃ L, L = S k := ⟨_, rfl⟩
      have HL := hid hL
      rw [← hL] at s0 s1 ⊢
      clear hL
      have e1 : (L + z) % 18446744073709551616 = L + z := by have := HN.out; rw [HT.out, ← HL.out] at this; omega
      have e2 : (L + z) / 18446744073709551616 = 0 := by have := HN.out; rw [HT.out, ← HL.out] at this; omega
      have ad := add64 L z s0 z0
      rw [e1, e2] at ad
      clear e1 e2
      go_wp2_with (simp only [ad])
      go_round
      case rel => exact ⟨k + 1, by omega, by go_num, rfl, by rw [HT.out, ← HL.out]⟩
      case measure => simp [intOf]; omega
    · obtain rfl : k = len := by omega
      go_wp2
      exact bodyPost_ret (v := .tuple #[.int .u64 0, .int .u64 (S k), .int .i64 0]) (by simp [results, Tryz.results165, go_sem]) rfl ⟨rfl, rfl⟩
theorem within80 (now at' : Int) (b len : Nat) (f S : Nat → Int) (w : World) (ha0 : 0 ≤ at') (ha1 : at' ≤ now) (ha2 : now ≤ MT) (hlen : len ≤ 2) (hf : ∀ j, j < len → w.cell? ⟨b, j, none⟩ = some (.int .i64 (f j)) ∧ 0 ≤ f j ∧ f j ≤ 9223372036854775807)
    (h0 : S 0 = 0) (hS : ∀ j, j < len → S (j + 1) = S j + f j) (hb : ∀ j, j ≤ len → 0 ≤ S j ∧ S j < 18446744073709551616) :
    Calls Tryz.prog 162 #[.int .i64 now, .int .i64 at', .slice (some ⟨b, 0, none⟩) len len] w fun e w' => e = .returned (.tuple #[.bool (decide (now - at' < S len)), .int .i64 0]) ∧ w' = w := by
  have HA := hid (age81 now at' w ha0 ha1 ha2)
  have HS := hid (sum82 b len f S w hlen hf h0 hS hb)
  have hs := hb len (Nat.le_refl _)
  unfold MT at ha2
  have hw : IntKind.u64.wrap (now - at') = now - at' := by simp [IntKind.wrap, IntKind.bits, IntKind.signed, IntKind.min, IntKind.max]; omega
  clear hf h0 hS hb
  generalize S len = s at *
  generalize now - at' = ag at *
  obtain ⟨s0, s1⟩ := hs
  go_enter Tryz.func162, Tryz.ntmps162
  go_wp2_with (first
    | (go_at_call 164; refine HA.out.mono ?_; rintro e w2 ⟨rfl, e2⟩; rw [e2]; clear e2 w2)
    | (go_at_call 165; refine HS.out.mono ?_; rintro e w2 ⟨rfl, e2⟩; rw [e2]; clear e2 w2))
  exact bodyPost_ret (v := .tuple #[.bool (decide (ag < s)), .int .i64 0]) (by simp [results, Tryz.results162, go_sem]) rfl ⟨rfl, rfl⟩
theorem eqf (w : World) (a b c : Int) : (binOp .eql 56 (.agg #[.int .i64 a, .int .i64 b, .int .i64 c]) (.agg #[.int .i64 0, .int .i64 0, .int .i64 0])).run Tryz.prog w = .ok (.bool (nonF a b c)) w := by
  unfold nonF
  by_cases h1 : a = 0
  · by_cases h2 : b = 0
    · by_cases h3 : c = 0
      · go_simp
      · go_simp
    · go_simp
  · go_simp
theorem same79 (w : World) (a b c : Int) : Calls Tryz.prog 150 #[.agg #[.int .i64 a, .int .i64 b, .int .i64 c], .agg #[.int .i64 0, .int .i64 0, .int .i64 0]] w fun e w' => e = .returned (.bool (nonF a b c)) ∧ Touch [] w w' := by
  have h := fun w => eqf w a b c
  generalize nonF a b c = r at *
  go_enter Tryz.func150, Tryz.ntmps150
  go_wp2
  go_ret
  exact ⟨rfl, by repeat (first | exact Touch.refl _ _ | apply Touch.alloc)⟩
theorem none75 (w : World) (a b c : Int) : Calls Tryz.prog 137 #[.agg #[.int .i64 a, .int .i64 b, .int .i64 c]] w fun e w' => e = .returned (.bool (nonF a b c)) ∧ Touch [] w w' := by
  have H := hid (fun w => same79 w a b c)
  generalize nonF a b c = r at *
  go_enter Tryz.func137, Tryz.ntmps137
  go_wp2_with (go_at_call 150; refine (H.out _).mono ?_; rintro e w2 ⟨rfl, t2⟩; have T2 := hid t2; clear t2)
  go_ret
  exact ⟨rfl, ((Touch.refl _ _).alloc _).trans' T2.out⟩
theorem fail76 (w : World) (o : O) : Calls Tryz.prog 158 #[ov o] w fun e w' => e = .returned (.bool (!decide (o.2.1 = 0))) ∧ Touch [] w w' := by
  unfold ov
  by_cases h : o.2.1 = 0
  · go_enter Tryz.func158, Tryz.ntmps158
    go_wp2
    go_ret
    exact ⟨by simp [h], by repeat (first | exact Touch.refl _ _ | apply Touch.alloc)⟩
  · go_enter Tryz.func158, Tryz.ntmps158
    go_wp2
    go_ret
    exact ⟨by simp [h], by repeat (first | exact Touch.refl _ _ | apply Touch.alloc)⟩
end Go.Proofs.YtpefbmheblfbeaaGreat.Me
/- Contracts of fail.Right, of Check and of keeps, of the document's like, and of what turns a value into the document's; no conditions. -/
namespace Go.Proofs.YtpefbmheblfbeaaGreat.Me
open Go.RowKit Go.Sort Go.Maps Go.ChangeMaps Go.WideMaps
set_option maxRecDepth 100000
set_option linter.unusedVariables false
set_option linter.unusedSimpArgs false
theorem may74 (w : World) (a b c : Int) : Calls Tryz.prog 136 #[.agg #[.int .i64 a, .int .i64 b, .int .i64 c]] w fun e w' => e = .returned (.bool (mayF a b c)) ∧ Touch [] w w' := by
  have H := hid (fun w => none75 w a b c)
  unfold mayF
  by_cases h0 : a = 0
  · subst h0
    have e0 : nonF 0 b c = (decide (b = 0) && decide (c = 0)) := by simp [nonF]
    rw [e0] at H
    simp only [if_true]
    generalize (decide (b = 0) && decide (c = 0)) = r at *
    go_enter Tryz.func136, Tryz.ntmps136
    go_wp2_with (go_at_call 137; refine (H.out _).mono ?_; rintro e w2 ⟨rfl, t2⟩; have T2 := hid t2; clear t2)
    go_ret
    exact ⟨rfl, ((Touch.refl _ _).alloc _).trans' T2.out⟩
  rw [if_neg h0]
  clear H
  have b0 : (a == 0) = false := by simp [h0]
  by_cases h1 : a = 1
  · subst h1
    rw [if_pos rfl]
    go_enter Tryz.func136, Tryz.ntmps136
    go_wp2
    go_ret
    exact ⟨rfl, by repeat (first | exact Touch.refl _ _ | apply Touch.alloc)⟩
  rw [if_neg h1]
  have b1 : (a == 1) = false := by simp [h1]
  by_cases h2 : a = 2
  · subst h2
    rw [if_pos rfl]
    go_enter Tryz.func136, Tryz.ntmps136
    go_wp2
    go_ret
    exact ⟨rfl, by repeat (first | exact Touch.refl _ _ | apply Touch.alloc)⟩
  rw [if_neg h2]
  have b2 : (a == 2) = false := by simp [h2]
  by_cases h3 : a = 3
  · subst h3
    rw [if_pos rfl]
    by_cases hb : b = 0
    · subst hb
      go_enter Tryz.func136, Tryz.ntmps136
      go_wp2
      go_ret
      exact ⟨by by_cases hc : c = 0 <;> simp [hc], by repeat (first | exact Touch.refl _ _ | apply Touch.alloc)⟩
    · have hb' : (b == 0) = false := by simp [hb]
      go_enter Tryz.func136, Tryz.ntmps136
      go_wp2
      go_ret
      exact ⟨by simp [hb], by repeat (first | exact Touch.refl _ _ | apply Touch.alloc)⟩
  rw [if_neg h3]
  have b3 : (a == 3) = false := by simp [h3]
  by_cases h4 : a = 4
  · subst h4
    rw [if_pos rfl]
    by_cases hb : b = 0
    · subst hb
      go_enter Tryz.func136, Tryz.ntmps136
      go_wp2
      go_ret
      exact ⟨by by_cases hc : c = 0 <;> simp [hc], by repeat (first | exact Touch.refl _ _ | apply Touch.alloc)⟩
    · have hb' : (b == 0) = false := by simp [hb]
      go_enter Tryz.func136, Tryz.ntmps136
      go_wp2
      go_ret
      exact ⟨by simp [hb], by repeat (first | exact Touch.refl _ _ | apply Touch.alloc)⟩
  rw [if_neg h4]
  have b4 : (a == 4) = false := by simp [h4]
  by_cases h5 : a = 5
  · subst h5
    rw [if_pos rfl]
    by_cases hb : b = 0
    · subst hb
      go_enter Tryz.func136, Tryz.ntmps136
      go_wp2
      go_ret
      exact ⟨by by_cases hc : c = 0 <;> simp [hc], by repeat (first | exact Touch.refl _ _ | apply Touch.alloc)⟩
    · have hb' : (b == 0) = false := by simp [hb]
      go_enter Tryz.func136, Tryz.ntmps136
      go_wp2
      go_ret
      exact ⟨by simp [hb], by repeat (first | exact Touch.refl _ _ | apply Touch.alloc)⟩
  rw [if_neg h5]
  have b5 : (a == 5) = false := by simp [h5]
  go_enter Tryz.func136, Tryz.ntmps136
  go_wp2
  go_ret
  exact ⟨rfl, by repeat (first | exact Touch.refl _ _ | apply Touch.alloc)⟩
theorem right62 (w : World) (o : O) : Calls Tryz.prog 114 #[ov o] w fun e w' => e = .returned (.bool (right o)) ∧ Touch [] w w' := by
  obtain ⟨v, a, b, c⟩ := o
  have HM := hid (fun w => may74 w a b c)
  have HN := hid (fun w => none75 w a b c)
  unfold ov right
  simp only
  have B : ∀ w2, Touch [] (w.alloc (.cells #[.int .i64 v, .int .i64 a, .int .i64 b, .int .i64 c] 58)) w2 → w2.heap[w.heap.size]? = some (.cells #[.int .i64 v, .int .i64 a, .int .i64 b, .int .i64 c] 58 (0, 0)) := fun w2 t => t.keep (heap_alloc_new w _) (by simp)
  have HC : Hid (∀ w2, Touch [] (w.alloc (.cells #[.int .i64 v, .int .i64 a, .int .i64 b, .int .i64 c] 58)) w2 → w2.cell? ⟨w.heap.size, 0, none⟩ = some (.int .i64 v) ∧ w2.cell? ⟨w.heap.size, 1, none⟩ = some (.int .i64 a) ∧ w2.cell? ⟨w.heap.size, 2, none⟩ = some (.int .i64 b) ∧ w2.cell? ⟨w.heap.size, 3, none⟩ = some (.int .i64 c)) := fun w2 t => by
    have := B w2 t
    simp [World.cell?, this]
  clear B
  generalize mayF a b c = r at *
  generalize nonF a b c = s at *
  cases r
  · go_enter Tryz.func114, Tryz.ntmps114
    go_wp2_with (go_at_call 136; refine (HM.out _).mono ?_; rintro e w2 ⟨rfl, t2⟩; have T2 := hid t2; clear t2)
    go_ret
    exact ⟨rfl, ((Touch.refl _ _).alloc _).trans' T2.out⟩
  · cases s
    · by_cases hv : v = 0
      · subst hv
        go_enter Tryz.func114, Tryz.ntmps114
        go_wp2_with (first
          | (go_at_call 136; refine (HM.out _).mono ?_; rintro e w2 ⟨rfl, t2⟩; have T2 := hid t2; obtain ⟨c0, c1, c2, c3⟩ := HC.out _ t2; clear t2)
          | (go_at_call 137; refine (HN.out _).mono ?_; rintro e w3 ⟨rfl, t3⟩; have T3 := hid (T2.out.trans' t3); clear c0 c1 c2 c3 T2 t3; obtain ⟨c0, c1, c2, c3⟩ := HC.out _ T3.out))
        go_ret
        exact ⟨rfl, ((Touch.refl _ _).alloc _).trans' T3.out⟩
      · have hv' : (v == 0) = false := by simp [hv]
        go_enter Tryz.func114, Tryz.ntmps114
        go_wp2_with (first
          | (go_at_call 136; refine (HM.out _).mono ?_; rintro e w2 ⟨rfl, t2⟩; have T2 := hid t2; obtain ⟨c0, c1, c2, c3⟩ := HC.out _ t2; clear t2)
          | (go_at_call 137; refine (HN.out _).mono ?_; rintro e w3 ⟨rfl, t3⟩; have T3 := hid (T2.out.trans' t3); clear c0 c1 c2 c3 T2 t3; obtain ⟨c0, c1, c2, c3⟩ := HC.out _ T3.out))
        go_ret
        exact ⟨by simp [hv], ((Touch.refl _ _).alloc _).trans' T3.out⟩
    · go_enter Tryz.func114, Tryz.ntmps114
      go_wp2_with (first
        | (go_at_call 136; refine (HM.out _).mono ?_; rintro e w2 ⟨rfl, t2⟩; have T2 := hid t2; obtain ⟨c0, c1, c2, c3⟩ := HC.out _ t2; clear t2)
        | (go_at_call 137; refine (HN.out _).mono ?_; rintro e w3 ⟨rfl, t3⟩; have T3 := hid (T2.out.trans' t3); clear c0 c1 c2 c3 T2 t3; obtain ⟨c0, c1, c2, c3⟩ := HC.out _ T3.out))
      go_ret
      exact ⟨rfl, ((Touch.refl _ _).alloc _).trans' T3.out⟩
end Go.Proofs.YtpefbmheblfbeaaGreat.Me
/- The contract of keys: a new slice tells all keys, from the oldest on; there are fewer than a hundred thousand. -/
namespace Go.Proofs.YtpefbmheblfbeaaGreat.Me
open Go.RowKit Go.Sort Go.Maps Go.ChangeMaps Go.WideMaps
set_option maxRecDepth 100000
set_option linter.unusedVariables false
set_option linter.unusedSimpArgs false
def cellsK (xs : List K) : List Value := xs.flatMap fun x => [.int .u16 x.1, .string x.2]
theorem cellsK_app (xs ys : List K) : cellsK (xs ++ ys) = cellsK xs ++ cellsK ys := by unfold cellsK; simp
theorem cellsK_one (x : K) : cellsK [x] = [.int .u16 x.1, .string x.2] := rfl
theorem cellsK_len (xs : List K) : (cellsK xs).length = xs.length * 2 := by
  induction xs with
  | nil => rfl
  | cons x xs ih => rw [show x :: xs = [x] ++ xs from rfl, cellsK_app, List.length_append, ih, cellsK_one]; simp; omega
theorem cellsK_at0 : ∀ (xs : List K) (i : Nat) (h : i < xs.length), (cellsK xs)[i * 2]? = some (.int .u16 xs[i].1)
  | x :: xs, 0, _ => rfl
  | x :: xs, i + 1, h => by
    rw [show (i + 1) * 2 = i * 2 + 1 + 1 by omega]
    exact cellsK_at0 xs i (by simpa using h)
theorem cellsK_at1 : ∀ (xs : List K) (i : Nat) (h : i < xs.length), (cellsK xs)[i * 2 + 1]? = some (.string xs[i].2)
  | x :: xs, 0, _ => rfl
  | x :: xs, i + 1, h => by
    rw [show (i + 1) * 2 + 1 = i * 2 + 1 + 1 + 1 by omega]
    exact cellsK_at1 xs i (by simpa using h)
theorem info36 : (Tryz.prog.info? 54).map (fun i => (i.zero, i.size, i.bytes)) = some (some (.agg #[.int .u16 0, .string ⟨#[]⟩]), 2, 24) := by kernel_rfl
theorem cell_two_new (w : World) (x y : Value) (t : TypeId) : ∀ j u, [x, y][j]? = some u → (w.alloc (.cells #[x, y] t)).cell? ((⟨w.heap.size, 0, none⟩ : Addr).add j) = some u := by
  intro j u hj
  match j, hj with
  | 0, hj => simp at hj; subst hj; simp [Addr.add]
  | 1, hj => simp at hj; subst hj; simp [Addr.add]
def slen : Value → Nat
  | .slice _ n _ => n
  | _ => 0
set_option maxHeartbeats 2000000 in
set_option maxRecDepth 100000 in
theorem keys33 (w : World) (o : Nat) (m : Option Nat) (most : Int) (L : List E) (hl : L.length < 100000) (h : Od w o m most L) :
    Calls Tryz.prog 128 #[PT o] w fun e w' => ∃ v, e = .returned v ∧ w'.ownsRow w.heap.size 54 2 v L.length (cellsK (L.map Prod.fst)) ∧ Touch [] w w' := by
  obtain ⟨i3, hi, hz0, hz1, hz2⟩ := info_parts info36
  have HL := hid (len20 w o m most L h)
  have HO := hid h
  clear h
  unfold PT
  go_enter Tryz.func128, Tryz.ntmps128
  go_wp2_with fail
  unfold PT at HL
  refine HL.out.mono ?_
  rintro e w1 ⟨rfl, rfl⟩
  go_wp2_with (at_make; refine wpList_make_own _ rfl _ _ 61 rfl w1.heap.size 54 i3 (.agg #[.int .u16 0, .string ⟨#[]⟩]) 2 Tryz.underlying61 hi hz0 hz1 .i64 .i64 _ L.length rfl rfl rfl (by rw [hz2]; omega) (by unfold maxLen; omega) (Nat.le_refl _) ?_; intro w3 o3 g3; have T3 : Hid (Touch [] w1 w3) := Touch.grown (Touch.refl _ _) g3 (fun k hk => by cases hk); have c2 := (HO.out.keep0 T3.out).ln.oc.c2; have O3 := hid o3; clear o3 g3; unfold PP at c2; obtain ⟨p0, hp0⟩ : ∃ p0 : Option Addr, (hd L none).map (fun q => (⟨q, 0, none⟩ : Addr)) = p0 := ⟨_, rfl⟩; rw [hp0] at c2; have HP0 := hid hp0; clear hp0)
  go_loopw [3, 4] (fun s p wr => ∃ (A B : List E) (a p0 : Option Addr) (c : Nat), Hid (L = A ++ B ∧ (hd B none).map (fun q => (⟨q, 0, none⟩ : Addr)) = p0) ∧ s = .slice a A.length c ∧ p = .pointer p0 ∧ Hid (wr.ownsRow w1.heap.size 54 2 (.slice a A.length c) A.length (cellsK (A.map Prod.fst)) ∧ Touch [] w1 wr)) (fun s _ _ => L.length - slen s)
  case atStart => exact ⟨[], L, _, _, _, ⟨rfl, HP0.out⟩, rfl, rfl, O3.out, T3.out⟩
  case round =>
    obtain ⟨A, B, a, p1, c, HAB, rfl, rfl, HR⟩ := hrel
    cases B with
    | nil =>
      obtain rfl : none = p1 := HAB.out.2
      clear HP0 c2 HL
      go_wp2
      go_ret
      have hAB := HAB.out.1
      rw [List.append_nil] at hAB
      refine ⟨_, rfl, ?_, HR.out.2⟩
      rw [hAB]
      exact HR.out.1
    | cons e B =>
      obtain rfl : some ⟨e.2, 0, none⟩ = p1 := HAB.out.2
      have hAB := HAB.out.1
      have hn : Nd wr e.2 e.1 (lst A none) (hd B none) := by
        have := (HO.out.keep0 HR.out.2).ln.sg
        rw [hAB] at this
        exact ((seg_append _ _ _ _).1 this).2.1
      have HN := hid hn
      have HNL : Hid (¬ w1.heap.size ≤ e.2) := by
        have : e.2 < w1.heap.size := HO.out.lt _ (by rw [hAB]; simp [fp])
        show ¬ _
        omega
      have n0 := hn.c0
      have n1 := hn.c1
      have hbr := HR.out.2.size
      have hAl : A.length < 100000 := by rw [hAB] at hl; simp at hl; omega
      have hlt : A.length < L.length := by rw [hAB]; simp
      have HX : Hid (cellsK ((A ++ [e]).map Prod.fst) = cellsK (A.map Prod.fst) ++ [.int .u16 e.1.1, .string e.1.2]) := by
        show _ = _
        rw [List.map_append, cellsK_app]; rfl
      clear O3 T3 hn HL c2 hAB HP0
      obtain ⟨p2, hp2⟩ : ∃ p2 : Option Addr, (hd B none).map (fun q => (⟨q, 0, none⟩ : Addr)) = p2 := ⟨_, rfl⟩
      have HP2 := hid hp2
      clear hp2
      go_wp2_with (at_builtin; refine wpList_append_lies _ rfl _ _ 61 rfl w1.heap.size 54 i3 (.agg #[.int .u16 0, .string ⟨#[]⟩]) 2 24 Tryz.underlying61 hi hz0 hz1 hz2 rfl (by decide) (.slice a A.length c) A.length (cellsK (A.map Prod.fst)) rfl (HR.out.1.alloc _) ⟨wr.heap.size, 0, none⟩ 1 1 [.int .u16 e.1.1, .string e.1.2] rfl rfl (cell_two_new _ _ _ _) (by simp [Value.oneCell']) (by decide) (by unfold maxLen; omega) (by omega) (by simp; omega) _ rfl ?_; intro g1 c1 w5 hown5 hgrow hat hlt5; have T5 : Touch (Value.slice a A.length c).ownBlock.toList wr w5 := ((Touch.refl _ _).alloc _).grown hgrow (fun j hj => Or.inl (by simp [hj])); have TW : Touch [] w1 w5 := HR.out.2.trans T5 (fun j hj => Or.inr (HR.out.1.lt j (by simpa using hj)).1); have n3 := (HN.out.keep (w' := w5) (T5.block _ HN.out.lt (fun hh => absurd (HR.out.1.lt _ (by simpa using hh)).1 HNL.out))).c3; have HW := hid (And.intro hown5 TW); clear TW T5 hgrow hat hown5; unfold PP at n3; rw [HP2.out] at n3)
      go_roundw
      case rel => exact ⟨A ++ [e], B, some ⟨g1, 0, none⟩, _, c1, ⟨by rw [HAB.out.1]; simp, HP2.out⟩, by simp, rfl, by rw [HX.out]; simpa using HW.out.1, HW.out.2⟩
      case measure => simp [slen]; omega
end Go.Proofs.YtpefbmheblfbeaaGreat.Me
/- What All goes over: the contract of its inner function, for every loop body; there are fewer than a hundred thousand keys. -/
namespace Go.Proofs.YtpefbmheblfbeaaGreat.Me
open Go.RowKit Go.Sort Go.Maps Go.ChangeMaps Go.WideMaps Go.Shelf
set_option maxRecDepth 100000
set_option linter.unusedVariables false
set_option linter.unusedSimpArgs false
attribute [local go_sem] Oper.semAt_some
theorem keysO (w : World) (o : Nat) (F : List Nat) (most : Int) (xs : List K) (hl : xs.length < 100000) (h : Oq w o F most xs) :
    Calls Tryz.prog 128 #[PT o] w fun e w' => ∃ v, e = .returned v ∧ w'.ownsRow w.heap.size 54 2 v xs.length (cellsK xs) ∧ Touch [] w w' := by
  obtain ⟨m, L, rfl, rfl, t⟩ := h
  rw [List.length_map] at hl ⊢
  exact keys33 w o m most L hl t
theorem row_form {w : World} {base : Nat} {v : Value} {xs : List K} (h : w.ownsRow base 54 2 v xs.length (cellsK xs)) : (v = .slice none 0 0 ∧ xs = []) ∨ ∃ g c cs, v = .slice (some ⟨g, 0, none⟩) xs.length c ∧ base ≤ g ∧ w.heap[g]? = some (.cells cs 54 (0, 0)) ∧ ∀ i (hi : i < xs.length), cs[i * 2]? = some (.int .u16 xs[i].1) ∧ cs[i * 2 + 1]? = some (.string xs[i].2) := by
  have h' := h
  obtain ⟨h1, h2 | ⟨g, cap, cur, rfl, hg, hc, hn, hm, hs, ht⟩⟩ := h
  · refine Or.inl ⟨h2.1, ?_⟩
    rw [cellsK_len] at h1
    cases xs with
    | nil => rfl
    | cons x xs => have := h2.2; simp at this
  · refine Or.inr ⟨g, cap, cur, rfl, hg, hc, fun i hi => ?_⟩
    have e : ∀ j, j < xs.length * 2 → cur[j]? = (cellsK xs)[j]? := fun j hj => by
      rw [← ht, List.getElem?_take, if_pos hj, Array.getElem?_toList]
    rw [e _ (by omega), e _ (by omega), cellsK_at0 xs i hi, cellsK_at1 xs i hi]
    exact ⟨rfl, rfl⟩
def ItQ (xs : List K) (J : Nat → List K → World → Prop) (Jx : World → Prop) (W' : World) : Prop := (∃ r, J r xs W') ∨ Jx W'
set_option maxRecDepth 100000 in
set_option maxHeartbeats 2000000 in
theorem all32_row (l Bo o : Nat) (F : List Nat) (most : Int) (xs : List K) (W : World) (hB : W.cell? ⟨Bo, 0, none⟩ = some (PT o)) (hO : Oq W o F most xs) (hl : xs.length < 100000) (J : Nat → List K → World → Prop) (Jx : World → Prop)
    (hJ0 : ∀ r W1, Touch [] W W1 → W.heap.size ≤ r → J r [] W1) (hJa : ∀ r pre W1 W2, J r pre W1 → Touch [] W1 W2 → J r pre W2)
    (hY : ∀ r pre x W1, J r pre W1 → r < W1.heap.size → (∃ post, xs = pre ++ x :: post) → YieldAt Fence.wide 0 Tryz.prog l #[kv x] W1 fun e W' => (e = .returned (.bool true) ∧ J r (pre ++ [x]) W' ∧ W'.heap[r]? = W1.heap[r]?) ∨ (e = .returned (.bool false) ∧ Jx W')) :
    CallsIn Fence.wide 0 Tryz.prog 127 #[.func (.yield l) #[] #[], .pointer (some ⟨Bo, 0, none⟩)] W fun e W' => (∃ v, e = .returned v) ∧ ItQ xs J Jx W' := by
  have HK := hid (keysO W o F most xs hl hO)
  have HY := hid hY
  have HJ0 := hid hJ0
  have HJa := hid hJa
  clear hY hJ0 hJa hO
  refine callsIn_of_wp Tryz.func127 rfl trivial ?_ rfl
  simp only [Tryz.ntmps127, List.size_toArray, List.length_cons, List.length_nil, Nat.reduceAdd, Nat.reduceSub, Array.replicate_succ, Array.replicate_zero, List.push_toArray, List.append_toArray, List.nil_append, List.cons_append]
  unfold PT at *
  gi_wp2
  refine ⟨trivial, rfl, ?_⟩
  refine (callsIn_wide.2 HK.out).mono ?_
  rintro e w1 ⟨v, rfl, hv, t1⟩
  have T1 := hid t1
  rcases row_form hv with ⟨rfl, rfl⟩ | ⟨g, c, cs, rfl, hg, hgc, hcs⟩
  · clear HK hv t1
    gi_wp2
    gi_loopw [8] (fun i wr => i = .int .i64 0 ∧ wr = w1) (fun _ _ => 0)
    case atStart => exact ⟨rfl, rfl⟩
    case round =>
      obtain ⟨rfl, rfl⟩ := hrel
      gi_wp2
      go_end0
      exact ⟨⟨_, rfl⟩, Or.inl ⟨W.heap.size, HJ0.out _ _ T1.out (Nat.le_refl _)⟩⟩
  · have HC := hid hcs
    have hglt : g < w1.heap.size := block_lt hgc
    have hgc' := hid hgc
    clear HK hv t1 hcs hgc
    gi_wp2
    gi_loopw [8] (fun i wr => ∃ k : Nat, k ≤ xs.length ∧ i = .int .i64 k ∧ Hid (J g (xs.take k) wr ∧ wr.heap[g]? = some (.cells cs 54 (0, 0)))) (fun i _ => xs.length - (intOf i).toNat)
    case atStart => exact ⟨0, Nat.zero_le _, rfl, HJ0.out _ _ T1.out hg, hgc'.out⟩
    case round =>
      obtain ⟨k, hk, rfl, HR⟩ := hrel
      by_cases hlt : k < xs.length
      · have zk : (k : Int) < (xs.length : Int) := by omega
        have f0 : wr.cell? ⟨g, k * 2, none⟩ = some (.int .u16 xs[k].1) := by simp [World.cell?, HR.out.2, (HC.out k hlt).1]
        have f1 : wr.cell? ⟨g, k * 2 + 1, none⟩ = some (.string xs[k].2) := by simp [World.cell?, HR.out.2, (HC.out k hlt).2]
        have hrg : g < wr.heap.size := block_lt HR.out.2
        obtain ⟨fn, tmps, assign, body, hy, hR⟩ := HY.out g (xs.take k) xs[k] (wr.alloc (.cells #[.int .u16 xs[k].1, .string xs[k].2] 54)) (HJa.out _ _ _ _ HR.out.1 ((Touch.refl _ _).alloc _)) (by simp; omega) ⟨xs.drop (k + 1), by simp⟩
        have HRR := hid hR
        clear hR
        unfold kv at hy
        generalize xs[k].1 = x at *
        generalize xs[k].2 = y at *
        gi_wp2
        refine ⟨rfl, HRR.out.mono ?_⟩
        rintro e W3 (⟨rfl, hJ3, hk3⟩ | ⟨rfl, hJx3⟩)
        · have HS : Hid (J g (xs.take (k + 1)) W3 ∧ W3.heap[g]? = some (.cells cs 54 (0, 0))) := by
            refine ⟨?_, hk3.trans ((Below.heap_alloc _ _ _ hrg).trans HR.out.2)⟩
            rw [List.take_succ_eq_append_getElem hlt]
            exact hJ3
          clear hJ3 hk3 HRR hy f0 f1 HR
          gi_wp2
          go_roundw
          case rel => exact ⟨k + 1, by omega, by go_num, HS⟩
          case measure => simp [intOf]; omega
        · have HS := hid hJx3
          clear hJx3 HRR hy f0 f1 HR
          gi_wp2
          refine bodyPost_ret (results_none rfl _ _ _) rfl ?_
          exact ⟨⟨_, rfl⟩, Or.inr HS.out⟩
      · obtain rfl : k = xs.length := by omega
        have HS := HR
        rw [List.take_length] at HS
        clear HR
        gi_wp2
        go_end0
        exact ⟨⟨_, rfl⟩, Or.inl ⟨g, HS.out.1⟩⟩
theorem all13 (w : World) (o : Nat) : Calls Tryz.prog 89 #[PT o] w fun e w' => e = .returned (.func (.func 127) #[] #[.pointer (some ⟨w.heap.size, 0, none⟩)]) ∧ w' = w.alloc (.cells #[PT o] 142) := by
  unfold PT
  go_enter Tryz.func89, Tryz.ntmps89
  go_wp2
  go_ret
  exact ⟨rfl, rfl⟩
end Go.Proofs.YtpefbmheblfbeaaGreat.Me
/- A range over All: what the body of each round must keep, and what is known behind the loop; there are fewer than a hundred thousand keys. -/
namespace Go.Proofs.YtpefbmheblfbeaaGreat.Me
open Go.RowKit Go.Sort Go.Maps Go.ChangeMaps Go.WideMaps Go.Shelf
set_option maxRecDepth 100000
set_option linter.unusedVariables false
set_option linter.unusedSimpArgs false
theorem touch_putObj {X : List Nat} (W : World) {l : Nat} (o : Obj) (hl : l ∈ X) : Touch X W (W.putObj l o) :=
  ⟨rfl, rfl, rfl, by simp, fun k hk hn => World.putObj_heap_other (fun e => hn (e ▸ hl))⟩
def bodyP (X : List Nat) (I Ix : World → Prop) (W : World) : Exit → Act → World → Prop
  | .normal, _, W' => (∀ k ∈ X, W'.heap[k]? = W.heap[k]?) ∧ I W'
  | .ret, _, W' => (∀ k ∈ X, W'.heap[k]? = W.heap[k]?) ∧ Ix W'
  | _, _, _ => False
def dfr (D : Nat) (a : Act) : Act := { a with defers := { target := .collected D, args := #[] } :: a.defers }
set_option maxHeartbeats 2000000 in
theorem range_all {g : Operand} {ps : Array Tmp} {assign body : Code} {Q : Exit → Act → World → Prop} {a : Act} {w : World} (Bo o : Nat) (F : List Nat) (most : Int) (xs : List K)
    (hg : a.eval g = .func (.func 127) #[] #[.pointer (some ⟨Bo, 0, none⟩)]) (hps : ps.size = 1) (hB : w.cell? ⟨Bo, 0, none⟩ = some (PT o)) (hBo : Bo < w.heap.size) (hO : Oq w o F most xs) (hlen : xs.length < 100000)
    (I : List Nat → List K → World → Prop) (Ix : List Nat → World → Prop)
    (hI0 : ∀ X W, Touch [] w W → (∀ k ∈ X, w.heap.size ≤ k) → I X [] W) (hIt : ∀ X pre W W', I X pre W → Touch X W W' → I X pre W') (hIxt : ∀ X W W', Ix X W → Touch X W W' → Ix X W') (a₁ : K → Nat → Act)
    (hassign : ∀ (l : Nat) (x : K) (W : World) (K : Act → World → Prop), K (a₁ x W.heap.size) (W.alloc (bx x)) →
      assign.wpIn (Fence.wide.inRound l) 0 Tryz.prog (Exit.then K (fun _ _ _ => False)) { tmps := (ps.zip #[kv x]).foldl (fun t (p, v) => t.setIfInBounds p v) a.tmps, defers := [] } W)
    (hbody : ∀ (l : Nat) (X : List Nat) (pre : List K) (x : K) (b : Nat) (W : World), I X pre W → W.heap[b]? = some (bx x) → (∀ k ∈ X, k < b) → (∃ post, xs = pre ++ x :: post) →
      body.wpIn (Fence.wide.inRound l) 0 Tryz.prog (bodyP X (I X (pre ++ [x])) (Ix X) W) (a₁ x b) W)
    (hdone : ∀ (X : List Nat) (D : Nat) (W : World), w.heap.size ≤ D → D ∈ X → I X xs W → W.heap[D]? = some (.deferred (some [])) → Q .normal (dfr D a) W)
    (hstop : ∀ (X : List Nat) (D : Nat) (W : World), w.heap.size ≤ D → D ∈ X → Ix X W → W.heap[D]? = some (.deferred (some [])) → Code.ret.wpIn Fence.wide 0 Tryz.prog Q (dfr D a) W) :
    (Code.rangeFunc g ps assign body).wpIn Fence.wide 0 Tryz.prog Q a w := by
  refine wpIn_rangeFunc ?_
  intro fn hfn
  obtain ⟨rec, hrec⟩ : ∃ rec : LoopState → Option Code → Loop, rec = fun st pe => { state := st, pending := pe, fn, tmps := a.tmps, params := ps, assign, body, defers := w.heap.size } := ⟨_, rfl⟩
  obtain ⟨W1, hW1⟩ : ∃ W1, (w.alloc (.deferred (some []))).alloc (.loop (rec .ready none)) = W1 := ⟨_, rfl⟩
  have T1 : Touch [] w W1 := by rw [← hW1]; exact ((Touch.refl _ _).alloc _).alloc _
  have hz1 : W1.heap.size = w.heap.size + 1 + 1 := by rw [← hW1]; simp
  have hL1 : W1.heap[w.heap.size + 1]? = some (.loop (rec .ready none)) := by
    rw [← hW1]
    have := World.alloc_heap_new (w.alloc (.deferred (some []))) (.loop (rec .ready none))
    rwa [World.size_alloc] at this
  have hD1 : W1.heap[w.heap.size]? = some (.deferred (some [])) := by
    rw [← hW1]
    exact (Below.heap_alloc _ _ _ (by simp)).trans (World.alloc_heap_new w _)
  refine ⟨w.heap.size + 1, [{ target := .collected w.heap.size, args := #[] }], W1, { target := .fn (.func 127) #[.pointer (some ⟨Bo, 0, none⟩)], args := #[.func (.yield (w.heap.size + 1)) #[] #[]] }, W1, 127,
    #[.func (.yield (w.heap.size + 1)) #[] #[], .pointer (some ⟨Bo, 0, none⟩)], W1, ?_, ?_, ?_, ?_, (fun h => (by cases h)), ?_⟩
  · rw [← hW1, hrec]; exact run_enterLoop_outer _ _ _ _ _
  · simp only [resolve, hg]
    simp [go_sem]
  · intro f' hf'; exact trivial
  · have eg := enters_of (P := Tryz.prog) Tryz.func127 (by kernel_rfl) rfl
    simp [invoke, go_sem, eg]
  · have hB1 : W1.cell? ⟨Bo, 0, none⟩ = some (PT o) := (World.cell?_of_block (T1.block Bo hBo (by simp))).trans hB
    refine (all32_row (w.heap.size + 1) Bo o F most xs W1 hB1 (hO.keep0 T1) hlen
      (fun r pre W => I [w.heap.size, w.heap.size + 1, r] pre W ∧ W.heap[w.heap.size + 1]? = some (.loop (rec .ready none)) ∧ W.heap[w.heap.size]? = some (.deferred (some [])) ∧ w.heap.size + 1 + 1 ≤ r)
      (fun W => ∃ r, Ix [w.heap.size, w.heap.size + 1, r] W ∧ W.heap[w.heap.size + 1]? = some (.loop (rec .done (some .ret))) ∧ W.heap[w.heap.size]? = some (.deferred (some [])))
      ?_ ?_ ?_).mono ?_
    · intro r W ht hr
      exact ⟨hI0 _ _ (T1.trans' ht) (fun k hk => by simp only [List.mem_cons, List.not_mem_nil, or_false] at hk; omega), ht.keep hL1 (by simp), ht.keep hD1 (by simp), by omega⟩
    · rintro r pre W W' ⟨h1, h2, h3, h4⟩ ht
      exact ⟨hIt _ _ _ _ h1 (ht.mono (fun _ e => by cases e)), ht.keep h2 (by simp), ht.keep h3 (by simp), h4⟩
    · rintro r pre x W ⟨hi, hl, hd, hr⟩ hrl hpost
      have hy := run_yield (P := Tryz.prog) (args := #[kv x]) hl (by rw [hrec]; exact hps.symm)
      rw [hrec] at hy
      have hllt : w.heap.size + 1 < W.heap.size := block_lt hl
      have hla : (W.alloc (bx x)).heap[w.heap.size + 1]? = some (.loop (rec .ready none)) := (Below.heap_alloc _ _ _ hllt).trans hl
      have hda : (W.alloc (bx x)).heap[w.heap.size]? = some (.deferred (some [])) := (Below.heap_alloc _ _ _ (by omega)).trans hd
      refine ⟨fn, _, assign, body, hy, roundIn_of_wpIn hfn (hassign _ x W _ ⟨_, run_beginRound hla (by rw [hrec]), ?_⟩)⟩
      have T2 : Touch [w.heap.size, w.heap.size + 1, r] W ((W.alloc (bx x)).putObj (w.heap.size + 1) (.loop { rec .ready none with state := .busy })) := ((Touch.refl _ _).alloc _).trans' (touch_putObj _ _ (by simp))
      have hl2 : ((W.alloc (bx x)).putObj (w.heap.size + 1) (.loop { rec .ready none with state := .busy })).heap[w.heap.size + 1]? = some (.loop { rec .ready none with state := .busy }) := World.putObj_heap_same (block_lt hla)
      have hd2 : ((W.alloc (bx x)).putObj (w.heap.size + 1) (.loop { rec .ready none with state := .busy })).heap[w.heap.size]? = some (.deferred (some [])) := (World.putObj_heap_other (by omega)).trans hda
      have hr2 : ((W.alloc (bx x)).putObj (w.heap.size + 1) (.loop { rec .ready none with state := .busy })).heap[r]? = W.heap[r]? := (World.putObj_heap_other (by omega)).trans (Below.heap_alloc _ _ _ hrl)
      have hb2 : ((W.alloc (bx x)).putObj (w.heap.size + 1) (.loop { rec .ready none with state := .busy })).heap[W.heap.size]? = some (bx x) := (World.putObj_heap_other (by omega)).trans (World.alloc_heap_new W _)
      refine wpIn_mono (hbody _ [w.heap.size, w.heap.size + 1, r] pre x W.heap.size _ (hIt _ _ _ _ hi T2) hb2 (fun k hk => by simp only [List.mem_cons, List.not_mem_nil, or_false] at hk; omega) hpost) ?_
      generalize (W.alloc (bx x)).putObj (w.heap.size + 1) (.loop { rec .ready none with state := .busy }) = W2 at *
      have fin : ∀ (jump : Option Code) (W3 : World), (∀ k ∈ [w.heap.size, w.heap.size + 1, r], W3.heap[k]? = W2.heap[k]?) →
          (Instr.endRound (w.heap.size + 1) jump).run Tryz.prog W3 = .ok (.bool jump.isNone) (W3.putObj (w.heap.size + 1) (.loop (rec (if jump.isNone then .ready else .done) jump))) ∧
          (W3.putObj (w.heap.size + 1) (.loop (rec (if jump.isNone then .ready else .done) jump))).heap[w.heap.size + 1]? = some (.loop (rec (if jump.isNone then .ready else .done) jump)) ∧
          (W3.putObj (w.heap.size + 1) (.loop (rec (if jump.isNone then .ready else .done) jump))).heap[w.heap.size]? = some (.deferred (some [])) ∧
          (W3.putObj (w.heap.size + 1) (.loop (rec (if jump.isNone then .ready else .done) jump))).heap[r]? = W.heap[r]? := fun jump W3 hk3 => by
        have hl3 := (hk3 (w.heap.size + 1) (by simp)).trans hl2
        have := run_endRound (P := Tryz.prog) jump hl3
        rw [hrec] at this ⊢
        exact ⟨this, World.putObj_heap_same (block_lt hl3), (World.putObj_heap_other (by omega)).trans ((hk3 w.heap.size (by simp)).trans hd2), (World.putObj_heap_other (by omega)).trans ((hk3 r (by simp)).trans hr2)⟩
      rintro e a3 W3 hp
      cases e with
      | normal =>
        obtain ⟨hk3, hi3⟩ := hp
        obtain ⟨f1, f2, f3, f4⟩ := fin none W3 hk3
        exact ⟨_, _, f1, Or.inl ⟨rfl, ⟨hIt _ _ _ _ hi3 (touch_putObj _ _ (by simp)), f2, f3, hr⟩, f4⟩⟩
      | ret =>
        obtain ⟨hk3, hi3⟩ := hp
        obtain ⟨f1, f2, f3, f4⟩ := fin (some .ret) W3 hk3
        exact ⟨_, _, f1, Or.inr ⟨rfl, r, hIxt _ _ _ hi3 (touch_putObj _ _ (by simp)), f2, f3⟩⟩
      | exit id => exact hp.elim
      | goto t => exact hp.elim
      | panic ch => exact hp.elim
      | outgrown => exact hp.elim
    · rintro e W2 ⟨⟨v, rfl⟩, ⟨r, hi, hl, hd, hr⟩ | ⟨r, hi, hl, hd⟩⟩
      · refine ⟨none, _, by have := run_endLoop (P := Tryz.prog) hl (by rw [hrec]; simp); rw [hrec] at this; exact this, ?_⟩
        exact hdone [w.heap.size, w.heap.size + 1, r] w.heap.size _ (Nat.le_refl _) (by simp) (hIt _ _ _ _ hi (touch_putObj _ _ (by simp))) ((World.putObj_heap_other (by omega)).trans hd)
      · refine ⟨some .ret, _, by have := run_endLoop (P := Tryz.prog) hl (by rw [hrec]; simp); rw [hrec] at this; exact this, ?_⟩
        exact hstop [w.heap.size, w.heap.size + 1, r] w.heap.size _ (Nat.le_refl _) (by simp) (hIxt _ _ _ hi (touch_putObj _ _ (by simp))) ((World.putObj_heap_other (by omega)).trans hd)
def ax (a : Act) (s p : Tmp) (x : K) (b : Nat) : Act := { tmps := (a.tmps.setIfInBounds p (kv x)).setIfInBounds s (.pointer (some ⟨b, 0, none⟩)), defers := [] }
theorem range_at {g : Operand} {ps : Array Tmp} {assign body : Code} {Q : Exit → Act → World → Prop} {a : Act} {w : World} (s p : Tmp) (Bo o : Nat) (F : List Nat) (most : Int) (xs : List K)
    (hg : a.eval g = .func (.func 127) #[] #[.pointer (some ⟨Bo, 0, none⟩)]) (hps : ps.size = 1) (hB : w.cell? ⟨Bo, 0, none⟩ = some (PT o)) (hBo : Bo < w.heap.size) (hO : Oq w o F most xs) (hlen : xs.length < 100000)
    (I : List Nat → List K → World → Prop) (Ix : List Nat → World → Prop)
    (hI0 : ∀ X W, Touch [] w W → (∀ k ∈ X, w.heap.size ≤ k) → I X [] W) (hIt : ∀ X pre W W', I X pre W → Touch X W W' → I X pre W') (hIxt : ∀ X W W', Ix X W → Touch X W W' → Ix X W')
    (hassign : ∀ (l : Nat) (x : K) (W : World) (K : Act → World → Prop), K (ax a s p x W.heap.size) (W.alloc (bx x)) →
      assign.wpIn (Fence.wide.inRound l) 0 Tryz.prog (Exit.then K (fun _ _ _ => False)) { tmps := (ps.zip #[kv x]).foldl (fun t (p, v) => t.setIfInBounds p v) a.tmps, defers := [] } W)
    (hbody : ∀ (l : Nat) (X : List Nat) (pre : List K) (x : K) (b : Nat) (W : World), I X pre W → W.heap[b]? = some (bx x) → (∀ k ∈ X, k < b) → (∃ post, xs = pre ++ x :: post) →
      body.wpIn (Fence.wide.inRound l) 0 Tryz.prog (bodyP X (I X (pre ++ [x])) (Ix X) W) (ax a s p x b) W)
    (hdone : ∀ (X : List Nat) (D : Nat) (W : World), w.heap.size ≤ D → D ∈ X → I X xs W → W.heap[D]? = some (.deferred (some [])) → Q .normal (dfr D a) W)
    (hstop : ∀ (X : List Nat) (D : Nat) (W : World), w.heap.size ≤ D → D ∈ X → Ix X W → W.heap[D]? = some (.deferred (some [])) → Code.ret.wpIn Fence.wide 0 Tryz.prog Q (dfr D a) W) :
    (Code.rangeFunc g ps assign body).wpIn Fence.wide 0 Tryz.prog Q a w :=
  range_all Bo o F most xs hg hps hB hBo hO hlen I Ix hI0 hIt hIxt (ax a s p) hassign hbody hdone hstop
end Go.Proofs.YtpefbmheblfbeaaGreat.Me
/- The contract of Clone: an order of its own that is the same; there are fewer than a hundred thousand keys. -/
namespace Go.Proofs.YtpefbmheblfbeaaGreat.Me
open Go.RowKit Go.Sort Go.Maps Go.ChangeMaps Go.WideMaps Go.Shelf
set_option maxRecDepth 100000
set_option linter.unusedVariables false
set_option linter.unusedSimpArgs false
attribute [local go_sem] Oper.semAt_some
def ClI (w : World) (c p : Nat) (most : Int) (X : List Nat) (pre : List K) (W : World) : Prop :=
  (∃ G, Oq W c G most pre ∧ ∀ k ∈ G, ¬ k ∈ X ∧ w.heap.size ≤ k ∧ k ≠ p) ∧ W.heap[p]? = some (.cells #[PT c] 142 (0, 0)) ∧ ¬ p ∈ X ∧ (∀ k ∈ X, w.heap.size ≤ k) ∧ Touch [] w W
theorem ClI.step {w : World} {c p : Nat} {most : Int} {X : List Nat} {pre : List K} {W W' : World} (h : ClI w c p most X pre W) (ht : Touch X W W') : ClI w c p most X pre W' := by
  obtain ⟨⟨G, h1, h2⟩, h3, h4, h5, h6⟩ := h
  exact ⟨⟨G, h1.keep ht (fun k hk => (h2 k hk).1), h2⟩, ht.keep h3 h4, h4, h5, h6.trans ht (fun i hi => Or.inr (h5 i hi))⟩
theorem ClI.enter {w : World} {c p : Nat} {most : Int} {X : List Nat} {pre : List K} {W : World} (h : ClI w c p most X pre W) (x : K) (hx : Ok x) (hn : ¬ x ∈ pre) (hl : pre.length < 100000) (hX : ∀ k ∈ X, k < W.heap.size) (hp : w.heap.size ≤ p) :
    Calls Tryz.prog 112 #[PT c, kv x] W fun e W' => e = .returned (.tuple #[]) ∧ (∀ k ∈ X, W'.heap[k]? = W.heap[k]?) ∧ ClI w c p most X (pre ++ [x]) W' := by
  obtain ⟨⟨G, h1, h2⟩, h3, h4, h5, h6⟩ := h
  refine (enterO W c G most pre x hx hn hl h1).mono ?_
  rintro e W' ⟨rfl, G', c1, c2, c3⟩
  refine ⟨rfl, fun k hk => c2.block k (hX k hk) (fun hh => (h2 k hh).1 hk), ⟨G', c1, fun k hk => ?_⟩, c2.keep h3 (fun hh => (h2 p hh).2.2 rfl), h4, h5, h6.trans c2 (fun i hi => Or.inr (h2 i hi).2.1)⟩
  rcases c3 k hk with e | e
  · exact h2 k e
  · have := block_lt h3
    have := h6.size
    exact ⟨fun hh => by have := hX k hh; omega, by omega, by omega⟩
def ClQ (w : World) (most : Int) (xs : List K) (w' : World) : Prop := ∃ G, Oq w' w.heap.size G most xs ∧ (∀ k ∈ G, w.heap.size ≤ k) ∧ Touch [] w w'
set_option maxRecDepth 100000 in
set_option maxHeartbeats 2000000 in
theorem cloneO (w : World) (o : Nat) (F : List Nat) (most : Int) (xs : List K) (hl : xs.length < 100000) (h : Oq w o F most xs) : Calls Tryz.prog 72 #[PT o] w fun e w' => e = .returned (PT w.heap.size) ∧ ClQ w most xs w' := by
  refine (callsIn_wide (n := 0)).1 ?_
  have c0 := h.c0
  have H := hid h
  have ho : o < w.heap.size := h.lt _ h.mem
  clear h
  refine callsIn_of_wp_marks Tryz.func72 rfl trivial ?_ rfl
  simp only [Tryz.ntmps72, List.size_toArray, List.length_cons, List.length_nil, Nat.reduceAdd, Nat.reduceSub, Array.replicate_succ, Array.replicate_zero, List.push_toArray, List.append_toArray, List.nil_append, List.cons_append]
  unfold PT
  gi_wp2
  refine ⟨trivial, rfl, ?_⟩
  refine (callsIn_wide.2 (all13 _ o)).mono ?_
  rintro e w1 ⟨rfl, rfl⟩
  gi_wp2
  obtain ⟨W0, hW0⟩ : ∃ W0, ((w.alloc (.cells #[.int .i64 most, .map none, .pointer none, .pointer none] 197)).alloc (.cells #[.pointer (some ⟨w.heap.size, 0, none⟩)] 142)).alloc (.cells #[PT o] 142) = W0 := ⟨_, rfl⟩
  rw [hW0]
  have hz : W0.heap.size = w.heap.size + 3 := by rw [← hW0]; simp
  have T0 : Touch [] w W0 := by rw [← hW0]; exact (((Touch.refl _ _).alloc _).alloc _).alloc _
  have k0 : W0.heap[w.heap.size]? = some (.cells #[.int .i64 most, .map none, .pointer none, .pointer none] 197 (0, 0)) := by
    rw [← hW0]
    exact (Below.heap_alloc _ _ _ (by simp; omega)).trans ((Below.heap_alloc _ _ _ (by simp)).trans (heap_alloc_new w _))
  have k1 : W0.heap[w.heap.size + 1]? = some (.cells #[PT w.heap.size] 142 (0, 0)) := by
    rw [← hW0]
    have := heap_alloc_new (w.alloc (.cells #[.int .i64 most, .map none, .pointer none, .pointer none] 197)) (.cells #[.pointer (some ⟨w.heap.size, 0, none⟩)] 142)
    rw [World.size_alloc] at this
    exact (Below.heap_alloc _ _ _ (by simp)).trans this
  have k2 : W0.heap[w.heap.size + 1 + 1]? = some (.cells #[PT o] 142 (0, 0)) := by
    rw [← hW0]
    have := heap_alloc_new ((w.alloc (.cells #[.int .i64 most, .map none, .pointer none, .pointer none] 197)).alloc (.cells #[.pointer (some ⟨w.heap.size, 0, none⟩)] 142)) (.cells #[PT o] 142)
    rwa [World.size_alloc, World.size_alloc] at this
  have O0 : Oq W0 w.heap.size [w.heap.size] most [] := ⟨none, [], rfl, rfl, ⟨⟨k0, trivial, by simp⟩, by simp, fun e he => (by cases he), Or.inl ⟨rfl, rfl⟩⟩⟩
  clear hW0 c0
  refine range_all (w.heap.size + 1 + 1) o F most xs rfl rfl (by simp [World.cell?, k2]) (by omega) (H.out.keep0 T0) hl (ClI w w.heap.size (w.heap.size + 1) most) (fun _ _ => False) ?_ (fun X pre W W' hi ht => hi.step ht) (fun _ _ _ h _ => h)
    (fun x b => { tmps := #[.pointer (some ⟨o, 0, none⟩), undef, .pointer none, .pointer (some ⟨w.heap.size + 1, 0, none⟩), .pointer (some ⟨b, 0, none⟩), .pointer (some ⟨o, 0, none⟩), .bool false, .pointer (some ⟨o, 0, none⟩), .pointer (some ⟨o, 0, none⟩), .pointer (some ⟨o, 0, none⟩), .int .i64 most, .agg #[.int .i64 most, .map none, .pointer none, .pointer none], .pointer (some ⟨w.heap.size, 0, none⟩), .pointer (some ⟨o, 0, none⟩), .func (.func 127) #[] #[.pointer (some ⟨w.heap.size + 1 + 1, 0, none⟩)], .agg #[.int .u16 x.1, .string x.2], undef, undef, undef, undef], defers := [] }) ?_ ?_ ?_ ?_
  · intro X W ht hX
    have hX' : ∀ k ∈ X, w.heap.size + 3 ≤ k := fun k hk => by have := hX k hk; omega
    refine ⟨⟨[w.heap.size], O0.keep0 ht, fun k hk => ?_⟩, ht.keep k1 (by simp), fun hh => by have := hX' _ hh; omega, fun k hk => by have := hX' k hk; omega, T0.trans' ht⟩
    simp only [List.mem_singleton] at hk
    subst hk
    exact ⟨fun hh => by have := hX' _ hh; omega, Nat.le_refl _, by omega⟩
  · intro l x W K hK
    unfold kv
    gi_wp2
    exact hK
  · rintro l X pre x b W hi hb hX ⟨post, hpost⟩
    have hbx : W.heap[b]? = some (.cells #[.int .u16 x.1, .string x.2] 54 (0, 0)) := hb
    have b0 : W.cell? ⟨b, 0, none⟩ = some (.int .u16 x.1) := by simp [World.cell?, hbx]
    have b1 : W.cell? ⟨b, 1, none⟩ = some (.string x.2) := by simp [World.cell?, hbx]
    have hp := hi.2.1
    have p0 : W.cell? ⟨w.heap.size + 1, 0, none⟩ = some (.pointer (some ⟨w.heap.size, 0, none⟩)) := by unfold PT at hp; simp [World.cell?, hp]
    have hmem : x ∈ xs := by rw [hpost]; simp
    have hnx : ¬ x ∈ pre := fun hh => by
      have := H.out.nd
      rw [hpost, List.nodup_append] at this
      exact this.2.2 x hh x (by simp) rfl
    have hpl : pre.length < 100000 := by rw [hpost] at hl; simp at hl; omega
    have HE := hid (hi.enter x (H.out.ok x hmem) hnx hpl (fun k hk => by have := hX k hk; have := block_lt hb; omega) (by omega))
    unfold PT kv at HE
    clear hb hbx hp hi
    gi_wp2
    refine ⟨trivial, rfl, ?_⟩
    refine (CallsIn.inRound l (callsIn_wide.2 HE.out)).mono ?_
    rintro e W' ⟨rfl, q1, q2⟩
    have Q1 := hid q1
    have Q2 := hid q2
    clear q1 q2
    gi_wp2
    exact ⟨Q1.out, Q2.out⟩
  · rintro X D W hD hDX hi hK
    have hp := hi.2.1
    have p0 : W.cell? ⟨w.heap.size + 1, 0, none⟩ = some (.pointer (some ⟨w.heap.size, 0, none⟩)) := by unfold PT at hp; simp [World.cell?, hp]
    unfold dfr
    have HI := hid hi
    clear hi hp
    gi_wp2
    refine ⟨by simp, .inl ⟨_, _, rfl, run_takeDeferred hK, ?_⟩⟩
    refine ⟨_, results_tmp rfl _ _ _, rfl, ?_⟩
    obtain ⟨⟨G, h1, h2⟩, h3, h4, h5, h6⟩ := HI.out.step (touch_putObj W (l := D) (.deferred none) hDX)
    exact ⟨G, h1, fun k hk => (h2 k hk).2.1, h6⟩
  · intro X D W _ _ h
    exact h.elim
end Go.Proofs.YtpefbmheblfbeaaGreat.Me
/- A memo in memory as a plain list of entries, the one that was used the longest time ago first: what lies where, what keeps it; no conditions. -/
namespace Go.Proofs.YtpefbmheblfbeaaGreat.Me
open Go.RowKit Go.Sort Go.Maps Go.ChangeMaps Go.WideMaps
set_option maxRecDepth 100000
set_option linter.unusedVariables false
set_option linter.unusedSimpArgs false
theorem Oq.away {w : World} {o : Nat} {F : List Nat} {most : Int} {xs : List K} (h : Oq w o F most xs) {k : Nat} {cs : Array Value} {t : TypeId} {fr : Nat × Nat} (hc : w.heap[k]? = some (.cells cs t fr)) (h1 : t ≠ 197) (h2 : t ≠ 220) : ¬ k ∈ F := fun hk => by
  obtain ⟨m, L, rfl, rfl, t⟩ := h
  simp only [fp, List.mem_cons, List.mem_append] at hk
  rcases hk with rfl | hk | hk
  · have := t.ln.oc
    unfold OC at this
    rw [this] at hc
    simp at hc
    exact h1 hc.2.1.symm
  · rcases t.mp with ⟨rfl, _⟩ | ⟨b, f, rfl, hm, hf⟩
    · simp at hk
    · simp at hk
      subst hk
      exact hm.ne_block hc rfl
  · obtain ⟨e, he, rfl⟩ := List.mem_map.1 hk
    obtain ⟨x, y, hx⟩ := t.ln.sg.mem e he
    unfold Nd at hx
    rw [hx] at hc
    simp at hc
    exact h2 hc.2.1.symm
def mcs (c : Cf) (now : Int) (b o : Nat) : Array Value := #[.int .i64 c.t, .int .i64 c.n, .int .i64 c.s, .int .i64 c.e, .int .i64 c.f, .int .i64 c.b, .int .i64 c.d, .int .i64 now, .map (some b), PT o]
def Md (w : World) (m : Nat) (c : Cf) (now : Int) (b o : Nat) : Prop := w.heap[m]? = some (.cells (mcs c now b o) 144 (0, 0))
structure MdC (w : World) (m : Nat) (c : Cf) (now : Int) (b o : Nat) : Prop where
  c0 : w.cell? ⟨m, 0, none⟩ = some (.int .i64 c.t)
  c1 : w.cell? ⟨m, 1, none⟩ = some (.int .i64 c.n)
  c2 : w.cell? ⟨m, 2, none⟩ = some (.int .i64 c.s)
  c3 : w.cell? ⟨m, 3, none⟩ = some (.int .i64 c.e)
  c4 : w.cell? ⟨m, 4, none⟩ = some (.int .i64 c.f)
  c5 : w.cell? ⟨m, 5, none⟩ = some (.int .i64 c.b)
  c6 : w.cell? ⟨m, 6, none⟩ = some (.int .i64 c.d)
  c7 : w.cell? ⟨m, 7, none⟩ = some (.int .i64 now)
  c8 : w.cell? ⟨m, 8, none⟩ = some (.map (some b))
  c9 : w.cell? ⟨m, 9, none⟩ = some (.pointer (some ⟨o, 0, none⟩))
  f7 : w.frozen? ⟨m, 7, none⟩ = false
theorem Md.cs {w : World} {m : Nat} {c : Cf} {now : Int} {b o : Nat} (h : Md w m c now b o) : MdC w m c now b o := by
  unfold Md mcs PT at h
  constructor <;> simp [World.cell?, World.frozen?, h]
theorem Md.set7 {w : World} {m : Nat} {c : Cf} {now : Int} {b o : Nat} (h : Md w m c now b o) (n2 : Int) : Md (w.setCell ⟨m, 7, none⟩ (.int .i64 n2)) m c n2 b o := bset h _
theorem Md.lt {w : World} {m : Nat} {c : Cf} {now : Int} {b o : Nat} (h : Md w m c now b o) : m < w.heap.size := block_lt h
def mpf (xs : List En) : K → Option Value := fun k => (fnd xs k).map ev
structure Mb (w : World) (m b o : Nat) (G : List Nat) (c : Cf) (now : Int) (xs : List En) : Prop where
  md : Md w m c now b o
  mp : MapAt w b xs.length (mpf xs)
  oq : Oq w o G c.e (keysL xs)
  gd : Gd c now xs
  bg : ¬ b ∈ G
def Mq (w : World) (m : Nat) (F : List Nat) (c : Cf) (now : Int) (xs : List En) : Prop := ∃ b o G, F = m :: b :: G ∧ Mb w m b o G c now xs
section
variable {w w' : World} {m b o : Nat} {F G X : List Nat} {c : Cf} {now : Int} {xs : List En}
theorem Mb.mg (h : Mb w m b o G c now xs) : ¬ m ∈ G := h.oq.away h.md (by decide) (by decide)
theorem Mb.mb (h : Mb w m b o G c now xs) : b ≠ m := h.mp.ne_block h.md
theorem Mb.nd (h : Mb w m b o G c now xs) : (keysL xs).Nodup := h.oq.nd
theorem Mb.ok (h : Mb w m b o G c now xs) : ∀ k ∈ keysL xs, Ok k := h.oq.ok
theorem Mb.len (h : Mb w m b o G c now xs) : xs.length ≤ 65536 := by have := h.gd.ln; have := (okC_e h.gd.oc).2; omega
theorem Mb.keep (h : Mb w m b o G c now xs) (t : Touch X w w') (hn : ∀ k, k ∈ m :: b :: G → ¬ k ∈ X) : Mb w' m b o G c now xs :=
  ⟨t.keep h.md (hn m (by simp)), h.mp.kept (t.block b h.mp.lt (hn b (by simp))), h.oq.keep t (fun k hk => hn k (by simp [hk])), h.gd, h.bg⟩
theorem Mb.keep0 (h : Mb w m b o G c now xs) (t : Touch [] w w') : Mb w' m b o G c now xs := h.keep t (fun _ _ e => by cases e)
theorem Mb.lt (h : Mb w m b o G c now xs) : ∀ k, k ∈ m :: b :: G → k < w.heap.size := fun k hk => by
  simp only [List.mem_cons] at hk
  rcases hk with rfl | rfl | hk
  · exact h.md.lt
  · exact h.mp.lt
  · exact h.oq.lt k hk
theorem Mq.keep (h : Mq w m F c now xs) (t : Touch X w w') (hn : ∀ k, k ∈ F → ¬ k ∈ X) : Mq w' m F c now xs := by
  obtain ⟨b, o, G, rfl, h⟩ := h
  exact ⟨b, o, G, rfl, h.keep t hn⟩
theorem Mq.keep0 (h : Mq w m F c now xs) (t : Touch [] w w') : Mq w' m F c now xs := h.keep t (fun _ _ e => by cases e)
theorem Mq.lt (h : Mq w m F c now xs) : ∀ k, k ∈ F → k < w.heap.size := by
  obtain ⟨b, o, G, rfl, h⟩ := h
  exact h.lt
theorem Mq.gd (h : Mq w m F c now xs) : Gd c now xs := by
  obtain ⟨b, o, G, rfl, h⟩ := h
  exact h.gd
theorem Mq.nd (h : Mq w m F c now xs) : (keysL xs).Nodup := by
  obtain ⟨b, o, G, rfl, h⟩ := h
  exact h.nd
theorem Mq.ok (h : Mq w m F c now xs) : ∀ k ∈ keysL xs, Ok k := by
  obtain ⟨b, o, G, rfl, h⟩ := h
  exact h.ok
theorem Mq.len (h : Mq w m F c now xs) : xs.length ≤ 65536 := by
  obtain ⟨b, o, G, rfl, h⟩ := h
  exact h.len
theorem Mq.away (h : Mq w m F c now xs) {k : Nat} {cs : Array Value} {t : TypeId} {fr : Nat × Nat} (hc : w.heap[k]? = some (.cells cs t fr)) (h1 : t ≠ 197) (h2 : t ≠ 220) (h3 : t ≠ 144) : ¬ k ∈ F := fun hk => by
  obtain ⟨b, o, G, rfl, h⟩ := h
  simp only [List.mem_cons] at hk
  rcases hk with rfl | rfl | hk
  · have := h.md
    unfold Md at this
    rw [this] at hc
    simp at hc
    exact h3 hc.2.1.symm
  · exact h.mp.ne_block hc rfl
  · exact h.oq.away hc h1 h2 hk
end
def Mc (w : World) (m : Nat) (F : List Nat) (c : Cf) (now : Int) (ys : List En) (w' : World) : Prop := ∃ F', Mq w' m F' c now ys ∧ Touch F w w' ∧ Nf w F F'
theorem Mc.refl {w : World} {m : Nat} {F : List Nat} {c : Cf} {now : Int} {xs : List En} (h : Mq w m F c now xs) : Mc w m F c now xs w := ⟨F, h, Touch.refl _ _, Nf.refl _ _⟩
theorem Mc.from0 {w0 w w' : World} {m : Nat} {F : List Nat} {c : Cf} {now : Int} {ys : List En} (h : Mc w m F c now ys w') (t : Touch [] w0 w) : Mc w0 m F c now ys w' := by
  obtain ⟨F', h1, h2, h3⟩ := h
  exact ⟨F', h1, (t.mono (fun _ e => by cases e)).trans' h2, fun k hk => (h3 k hk).elim Or.inl (fun e => Or.inr (Nat.le_trans t.size e))⟩
theorem Mc.keep0 {w w1 w2 : World} {m : Nat} {F : List Nat} {c : Cf} {now : Int} {ys : List En} (h : Mc w m F c now ys w1) (t : Touch [] w1 w2) : Mc w m F c now ys w2 := by
  obtain ⟨F', h1, h2, h3⟩ := h
  exact ⟨F', h1.keep0 t, h2.trans' (t.mono (fun _ e => by cases e)), h3⟩
theorem Mc.block {w w1 : World} {m : Nat} {F : List Nat} {c : Cf} {now : Int} {ys : List En} (h : Mc w m F c now ys w1) {k : Nat} {ob : Obj} (hk : w.heap[k]? = some ob) (hn : ¬ k ∈ F) : w1.heap[k]? = some ob := by
  obtain ⟨F', h1, h2, h3⟩ := h
  exact h2.keep hk hn
theorem Mc.own {w0 w w1 w2 : World} {m : Nat} {F : List Nat} {c : Cf} {now : Int} {ys : List En} (h : Mc w m F c now ys w1) {r : Nat} (t : Touch [r] w1 w2) (h0 : Touch [] w0 w) (hr : w0.heap.size ≤ r) (hr' : r < w.heap.size) (hF : ∀ k ∈ F, k < w0.heap.size) : Mc w0 m F c now ys w2 := by
  obtain ⟨F', h1, h2, h3⟩ := h
  refine ⟨F', h1.keep t (fun k hk hh => ?_), ((h0.mono (fun _ e => by cases e)).trans' h2).trans t (fun i hi => by simp only [List.mem_singleton] at hi; subst hi; exact Or.inr hr), fun k hk => (h3 k hk).elim Or.inl (fun e => Or.inr (Nat.le_trans h0.size e))⟩
  simp only [List.mem_singleton] at hh
  subst hh
  rcases h3 k hk with e | e
  · have := hF k e; omega
  · omega
end Go.Proofs.YtpefbmheblfbeaaGreat.Me
/- Contracts of what only reads a memo: its ticks, what it keeps, how an entry is at its time; no conditions but those that each states. -/
namespace Go.Proofs.YtpefbmheblfbeaaGreat.Me
open Go.RowKit Go.Sort Go.Maps Go.ChangeMaps Go.WideMaps
set_option maxRecDepth 100000
set_option linter.unusedVariables false
set_option linter.unusedSimpArgs false
def tickE (now n : Int) : Int := if isT n then (if n < now then 101 else 0) else 10
theorem tick45 (w : World) (m : Nat) (c : Cf) (now n : Int) (b o : Nat) (h : Md w m c now b o) : Calls Tryz.prog 73 #[PT m, .int .i64 n] w fun e w' => e = .returned (.int .i64 (tickE now n)) ∧ w' = w := by
  have c7 := h.cs.c7
  have H := is39 n
  unfold tickE PT
  clear h
  generalize isT n = r at *
  cases r
  · go_enter Tryz.func73, Tryz.ntmps73
    go_wp2_with (go_at_call 84; refine (H _).mono ?_; rintro e w2 ⟨rfl, rfl⟩)
    go_ret
    exact ⟨rfl, rfl⟩
  · by_cases hb : n < now
    · go_enter Tryz.func73, Tryz.ntmps73
      go_wp2_with (go_at_call 84; refine (H _).mono ?_; rintro e w2 ⟨rfl, e2⟩; rw [e2]; clear e2 w2)
      go_ret
      simp [hb]
    · go_enter Tryz.func73, Tryz.ntmps73
      go_wp2_with (go_at_call 84; refine (H _).mono ?_; rintro e w2 ⟨rfl, e2⟩; rw [e2]; clear e2 w2)
      go_ret
      simp [hb]
theorem now26 (w : World) (m : Nat) (c : Cf) (now : Int) (b o : Nat) (h : Md w m c now b o) : Calls Tryz.prog 22 #[PT m] w fun e w' => e = .returned (.int .i64 now) ∧ w' = w := by
  have c7 := h.cs.c7
  clear h
  unfold PT
  go_enter Tryz.func22, Tryz.ntmps22
  go_wp2
  go_ret
  exact ⟨rfl, rfl⟩
theorem config27 (w : World) (m : Nat) (c : Cf) (now : Int) (b o : Nat) (h : Md w m c now b o) : Calls Tryz.prog 35 #[PT m] w fun e w' => e = .returned (cv c) ∧ Touch [] w w' := by
  have hl := h.lt
  have hne : m ≠ w.heap.size := by omega
  obtain ⟨c0, c1, c2, c3, c4, c5, c6, c7, c8, c9, f7⟩ := h.cs
  clear h
  unfold PT cv
  go_enter Tryz.func35, Tryz.ntmps35
  go_wp2
  refine bodyPost_ret (v := .agg #[.int .i64 c.t, .int .i64 c.n, .int .i64 c.s, .int .i64 c.e, .int .i64 c.f, .int .i64 c.b, .int .i64 c.d]) (by simp [results, Tryz.results35, go_sem]) rfl ⟨rfl, ?_⟩
  repeat (first | exact Touch.refl _ _ | apply Touch.alloc | (refine Touch.setCell ?_ (Or.inr (by simp)) _))
theorem len19 (w : World) (m b o : Nat) (G : List Nat) (c : Cf) (now : Int) (xs : List En) (h : Mb w m b o G c now xs) : Calls Tryz.prog 54 #[PT m] w fun e w' => e = .returned (.int .i64 (xs.length : Int)) ∧ w' = w := by
  have c8 := h.md.cs.c8
  have hl := fun ty => h.mp.len (t := 141) Tryz.underlying141 ty
  clear h
  generalize (xs.length : Int) = n at *
  unfold PT
  go_enter Tryz.func54, Tryz.ntmps54
  go_wp2
  go_ret
  exact ⟨rfl, rfl⟩
set_option maxHeartbeats 1000000 in
theorem keeps47 (w : World) (m : Nat) (c : Cf) (now : Int) (b o : Nat) (h : Md w m c now b o) (x : O) : Calls Tryz.prog 75 #[PT m, ov x] w fun e w' => e = .returned (.bool (keepsC c x)) ∧ Touch [] w w' := by
  have hl := h.lt
  obtain ⟨c0, c1, c2, c3, c4, c5, c6, c7, c8, c9, f7⟩ := h.cs
  clear h c4 c5 c6 c7 c8 c9 f7 c2
  obtain ⟨v, a, y, z⟩ := x
  unfold PT ov keepsC
  simp only
  have hne : m ≠ w.heap.size := by omega
  by_cases h0 : c.e = 0
  · rw [if_pos h0]
    rw [h0] at c3
    go_enter Tryz.func75, Tryz.ntmps75
    go_wp2
    go_ret
    exact ⟨rfl, by repeat (first | exact Touch.refl _ _ | apply Touch.alloc)⟩
  rw [if_neg h0]
  have e0 : (c.e == 0) = false := by simp [h0]
  by_cases ha : a = 0
  · subst ha
    rw [if_pos rfl]
    go_enter Tryz.func75, Tryz.ntmps75
    go_wp2
    go_ret
    exact ⟨rfl, by repeat (first | exact Touch.refl _ _ | apply Touch.alloc)⟩
  have ea : (a == 0) = false := by simp [ha]
  rw [if_neg ha]
  by_cases h1 : a = 1
  · subst h1
    rw [if_pos rfl]
    go_enter Tryz.func75, Tryz.ntmps75
    go_wp2
    go_ret
    exact ⟨rfl, by repeat (first | exact Touch.refl _ _ | apply Touch.alloc)⟩
  rw [if_neg h1]
  have b1 : (a == 1) = false := by simp [h1]
  by_cases h2 : a = 2
  · subst h2
    rw [if_pos rfl]
    go_enter Tryz.func75, Tryz.ntmps75
    go_wp2
    go_ret
    exact ⟨rfl, by repeat (first | exact Touch.refl _ _ | apply Touch.alloc)⟩
  rw [if_neg h2]
  have b2 : (a == 2) = false := by simp [h2]
  go_enter Tryz.func75, Tryz.ntmps75
  go_wp2
  go_ret
  exact ⟨rfl, by repeat (first | exact Touch.refl _ _ | apply Touch.alloc)⟩
def pairE (k : K) (x : O) : Int := if 64 < k.2.size then 20 else if right x then 0 else 30
theorem pair46 (w : World) (k : K) (x : O) : Calls Tryz.prog 74 #[kv k, ov x] w fun e w' => e = .returned (.int .i64 (pairE k x)) ∧ Touch [] w w' := by
  obtain ⟨V, hV⟩ : ∃ V, V = (w.alloc (bx k)).alloc (.cells #[.int .i64 x.1, .int .i64 x.2.1, .int .i64 x.2.2.1, .int .i64 x.2.2.2] 58) := ⟨_, rfl⟩
  have TV : Hid (Touch [] w V) := by rw [hV]; exact ((Touch.refl _ _).alloc _).alloc _
  have HB : Hid (∀ w2, Touch [] V w2 → w2.cell? ⟨w.heap.size + 1, 0, none⟩ = some (.int .i64 x.1) ∧ w2.cell? ⟨w.heap.size + 1, 1, none⟩ = some (.int .i64 x.2.1) ∧ w2.cell? ⟨w.heap.size + 1, 2, none⟩ = some (.int .i64 x.2.2.1) ∧ w2.cell? ⟨w.heap.size + 1, 3, none⟩ = some (.int .i64 x.2.2.2)) := fun w2 t => by
    have b : V.heap[w.heap.size + 1]? = some (.cells #[.int .i64 x.1, .int .i64 x.2.1, .int .i64 x.2.2.1, .int .i64 x.2.2.2] 58 (0, 0)) := by
      rw [hV]
      have := heap_alloc_new (w.alloc (bx k)) (.cells #[.int .i64 x.1, .int .i64 x.2.1, .int .i64 x.2.2.1, .int .i64 x.2.2.2] 58)
      rwa [World.size_alloc] at this
    have := t.keep b (by simp)
    simp [World.cell?, this]
  unfold pairE
  by_cases hk : 64 < k.2.size
  · rw [if_pos hk]
    have HC := hid (fun w => check29_no w k hk)
    clear HB
    subst hV
    unfold kv ov bx at *
    go_enter Tryz.func74, Tryz.ntmps74
    go_wp2_with (go_at_call 113; refine (HC.out _).mono ?_; rintro e w2 ⟨rfl, t2⟩; have T2 := hid t2; clear t2)
    go_ret
    exact ⟨rfl, TV.out.trans' T2.out⟩
  · rw [if_neg hk]
    have HC := hid (fun w => check29_ok w k (by omega))
    have HR := hid (fun w => right62 w x)
    generalize right x = r at *
    subst hV
    unfold kv ov bx at *
    cases r
    · go_enter Tryz.func74, Tryz.ntmps74
      go_wp2_with (first
        | (go_at_call 113; refine (HC.out _).mono ?_; rintro e w2 ⟨rfl, t2⟩; have T2 := hid t2; obtain ⟨q0, q1, q2, q3⟩ := HB.out _ t2; clear t2)
        | (go_at_call 114; refine (HR.out _).mono ?_; rintro e w3 ⟨rfl, t3⟩; have T3 := hid t3; clear t3))
      go_ret
      exact ⟨rfl, TV.out.trans' (T2.out.trans' T3.out)⟩
    · go_enter Tryz.func74, Tryz.ntmps74
      go_wp2_with (first
        | (go_at_call 113; refine (HC.out _).mono ?_; rintro e w2 ⟨rfl, t2⟩; have T2 := hid t2; obtain ⟨q0, q1, q2, q3⟩ := HB.out _ t2; clear t2)
        | (go_at_call 114; refine (HR.out _).mono ?_; rintro e w3 ⟨rfl, t3⟩; have T3 := hid t3; clear t3))
      go_ret
      exact ⟨rfl, TV.out.trans' (T2.out.trans' T3.out)⟩
theorem within77 (w : World) (m : Nat) (c : Cf) (now : Int) (b o : Nat) (h : Md w m c now b o) (v : V) (bl len : Nat) (f S : Nat → Int) (ha0 : 0 ≤ v.2) (ha1 : v.2 ≤ now) (ha2 : now ≤ MT) (hlen : len ≤ 2)
    (hf : ∀ j, j < len → w.cell? ⟨bl, j, none⟩ = some (.int .i64 (f j)) ∧ 0 ≤ f j ∧ f j ≤ 9223372036854775807)
    (h0 : S 0 = 0) (hS : ∀ j, j < len → S (j + 1) = S j + f j) (hb : ∀ j, j ≤ len → 0 ≤ S j ∧ S j < 18446744073709551616) :
    Calls Tryz.prog 159 #[PT m, ev v, .slice (some ⟨bl, 0, none⟩) len len] w fun e w' => e = .returned (.bool (decide (now - v.2 < S len))) ∧ Touch [] w w' := by
  obtain ⟨V, hV⟩ : ∃ V, V = w.alloc (.cells #[.int .i64 v.1.1, .int .i64 v.1.2.1, .int .i64 v.1.2.2.1, .int .i64 v.1.2.2.2, .int .i64 v.2] 147) := ⟨_, rfl⟩
  have TV : Hid (Touch [] w V) := by rw [hV]; exact (Touch.refl _ _).alloc _
  have c7 : V.cell? ⟨m, 7, none⟩ = some (.int .i64 now) := (show Md V m c now b o from TV.out.keep h (by simp)).cs.c7
  have HW : Hid (∀ n, Calls Tryz.prog 162 #[.int .i64 now, .int .i64 v.2, .slice (some ⟨bl, 0, none⟩) len len] (V.drewN n) fun e w' => e = .returned (.tuple #[.bool (decide (now - v.2 < S len)), .int .i64 0]) ∧ w' = V.drewN n) := fun n =>
    within80 now v.2 bl len f S (V.drewN n) ha0 ha1 ha2 hlen (fun j hj => by
      obtain ⟨q1, q2⟩ := hf j hj
      refine ⟨?_, q2⟩
      have hbl : bl < w.heap.size := by
        unfold World.cell? at q1
        rcases Nat.lt_or_ge bl w.heap.size with e | e
        · exact e
        · simp [Array.getElem?_eq_none e] at q1
      rw [← q1]
      exact World.cell?_of_block (TV.out.block bl hbl (by simp))) h0 hS hb
  have hv : V.cell? ⟨w.heap.size, 4, none⟩ = some (.int .i64 v.2) := by rw [hV]; simp
  clear hf h0 hS hb h ha0 ha1 ha2 hlen
  generalize decide (now - v.2 < S len) = r at *
  unfold PT ev
  go_enter Tryz.func159, Tryz.ntmps159
  go_wp2
  rw [← hV]
  clear hV
  go_quiet ((go_at_call 162; exact Calls.quiet_of_same (HW.out _)))
  go_wp2
  go_ret
  exact ⟨rfl, TV.out.drewN _⟩
end Go.Proofs.YtpefbmheblfbeaaGreat.Me
/- Contracts of how and see: how an entry is at the memo's time; no conditions but those that each states. -/
namespace Go.Proofs.YtpefbmheblfbeaaGreat.Me
open Go.RowKit Go.Sort Go.Maps Go.ChangeMaps Go.WideMaps
set_option maxRecDepth 100000
set_option linter.unusedVariables false
set_option linter.unusedSimpArgs false
def ebx (v : V) : Obj := .cells #[.int .i64 v.1.1, .int .i64 v.1.2.1, .int .i64 v.1.2.2.1, .int .i64 v.1.2.2.2, .int .i64 v.2] 147
theorem one_sum (a : Int) (h : 0 ≤ a) (h2 : a ≤ 9223372036854775807) : ∃ f S : Nat → Int, f 0 = a ∧ S 1 = a ∧ S 0 = 0 ∧ (∀ j, j < 1 → S (j + 1) = S j + f j) ∧ (∀ j, j ≤ 1 → 0 ≤ S j ∧ S j < 18446744073709551616) :=
  ⟨fun _ => a, fun j => if j = 0 then 0 else a, rfl, rfl, rfl, fun j hj => by
    rcases (show j = 0 by omega) with rfl
    simp, fun j hj => by simp only; split <;> omega⟩
theorem two_sum (a b : Int) (h : 0 ≤ a) (h2 : a ≤ 9223372036854775807) (h3 : 0 ≤ b) (h4 : b ≤ 9223372036854775807) : ∃ f S : Nat → Int, f 0 = a ∧ f 1 = b ∧ S 2 = a + b ∧ S 0 = 0 ∧ (∀ j, j < 2 → S (j + 1) = S j + f j) ∧ (∀ j, j ≤ 2 → 0 ≤ S j ∧ S j < 18446744073709551616) :=
  ⟨fun j => if j = 0 then a else b, fun j => if j = 0 then 0 else if j = 1 then a else a + b, rfl, rfl, rfl, rfl, fun j hj => by
    rcases (show j = 0 ∨ j = 1 by omega) with rfl | rfl <;> simp, fun j hj => by simp only; split; · omega
                                                                                 · split <;> omega⟩
theorem within1 (w : World) (m : Nat) (c : Cf) (now : Int) (b o : Nat) (h : Md w m c now b o) (v : V) (bl : Nat) (a : Int) (ha0 : 0 ≤ v.2) (ha1 : v.2 ≤ now) (ha2 : now ≤ MT) (h0 : 0 ≤ a) (h1 : a ≤ 9223372036854775807)
    (hc : w.cell? ⟨bl, 0, none⟩ = some (.int .i64 a)) : Calls Tryz.prog 159 #[PT m, ev v, .slice (some ⟨bl, 0, none⟩) 1 1] w fun e w' => e = .returned (.bool (decide (now - v.2 < a))) ∧ Touch [] w w' := by
  obtain ⟨f, S, q0, q1, q2, q3, q4⟩ := one_sum a h0 h1
  rw [← q1]
  exact within77 w m c now b o h v bl 1 f S ha0 ha1 ha2 (by omega) (fun j hj => by
    rcases (show j = 0 by omega) with rfl
    rw [q0]
    exact ⟨hc, h0, h1⟩) q2 q3 q4
theorem within2 (w : World) (m : Nat) (c : Cf) (now : Int) (b o : Nat) (h : Md w m c now b o) (v : V) (bl : Nat) (a a2 : Int) (ha0 : 0 ≤ v.2) (ha1 : v.2 ≤ now) (ha2 : now ≤ MT) (h0 : 0 ≤ a) (h1 : a ≤ 9223372036854775807) (h2 : 0 ≤ a2) (h3 : a2 ≤ 9223372036854775807)
    (hc : w.cell? ⟨bl, 0, none⟩ = some (.int .i64 a)) (hc2 : w.cell? ⟨bl, 1, none⟩ = some (.int .i64 a2)) : Calls Tryz.prog 159 #[PT m, ev v, .slice (some ⟨bl, 0, none⟩) 2 2] w fun e w' => e = .returned (.bool (decide (now - v.2 < a + a2))) ∧ Touch [] w w' := by
  obtain ⟨f, S, q0, q1, q2, q3, q4, q5⟩ := two_sum a a2 h0 h1 h2 h3
  rw [← q2]
  exact within77 w m c now b o h v bl 2 f S ha0 ha1 ha2 (by omega) (fun j hj => by
    rcases (show j = 0 ∨ j = 1 by omega) with rfl | rfl
    · rw [q0]; exact ⟨hc, h0, h1⟩
    · rw [q1]; exact ⟨hc2, h2, h3⟩) q3 q4 q5
set_option maxHeartbeats 2000000 in
theorem how65 (w : World) (m : Nat) (c : Cf) (now : Int) (b o : Nat) (h : Md w m c now b o) (v : V) (ha0 : 0 ≤ v.2) (ha1 : v.2 ≤ now) (ha2 : now ≤ MT) (hc : okC c = true) (wc : c.t ≤ 9223372036854775807 ∧ c.n ≤ 9223372036854775807 ∧ c.s ≤ 9223372036854775807) :
    Calls Tryz.prog 152 #[PT m, ev v] w fun e w' => e = .returned (.int .i64 (howC c v.1 (now - v.2))) ∧ Touch [] w w' := by
  obtain ⟨ct, cn, cs⟩ := okC_t hc
  obtain ⟨V, hV⟩ : ∃ V, V = w.alloc (ebx v) := ⟨_, rfl⟩
  have TV : Hid (Touch [] w V) := by rw [hV]; exact (Touch.refl _ _).alloc _
  have hB : V.heap[w.heap.size]? = some (ebx v) := by rw [hV]; exact heap_alloc_new w _
  have HM : Hid (∀ w', Touch [] V w' → Md w' m c now b o) := fun w' t => (TV.out.trans' t).keep h (by simp)
  have HK : Hid (∀ w', Touch [] V w' → w'.cell? ⟨w.heap.size, 0, none⟩ = some (.int .i64 v.1.1) ∧ w'.cell? ⟨w.heap.size, 1, none⟩ = some (.int .i64 v.1.2.1) ∧ w'.cell? ⟨w.heap.size, 2, none⟩ = some (.int .i64 v.1.2.2.1) ∧ w'.cell? ⟨w.heap.size, 3, none⟩ = some (.int .i64 v.1.2.2.2) ∧ w'.cell? ⟨w.heap.size, 4, none⟩ = some (.int .i64 v.2)) := fun w' t => by
    have := t.keep hB (by simp)
    unfold ebx at this
    simp [World.cell?, this]
  have HF := hid (fun w => fail76 w v.1)
  have k0 := HK.out V (Touch.refl _ _)
  obtain ⟨d0, d1, d2, d3, d4, d5, d6, d7, d8, d9, df⟩ := (HM.out V (Touch.refl _ _)).cs
  obtain ⟨k0, k1, k2, k3, k4⟩ := k0
  clear h hB
  have H1 : Hid (∀ w' bl a, Touch [] V w' → 0 ≤ a → a ≤ 9223372036854775807 → w'.cell? ⟨bl, 0, none⟩ = some (.int .i64 a) → Calls Tryz.prog 159 #[PT m, ev v, .slice (some ⟨bl, 0, none⟩) 1 1] w' fun e w'' => e = .returned (.bool (decide (now - v.2 < a))) ∧ Touch [] w' w'') := fun w' bl a t q0 q1 q2 => within1 w' m c now b o (HM.out w' t) v bl a ha0 ha1 ha2 q0 q1 q2
  have H2 : Hid (∀ w' bl a a2, Touch [] V w' → 0 ≤ a → a ≤ 9223372036854775807 → 0 ≤ a2 → a2 ≤ 9223372036854775807 → w'.cell? ⟨bl, 0, none⟩ = some (.int .i64 a) → w'.cell? ⟨bl, 1, none⟩ = some (.int .i64 a2) → Calls Tryz.prog 159 #[PT m, ev v, .slice (some ⟨bl, 0, none⟩) 2 2] w' fun e w'' => e = .returned (.bool (decide (now - v.2 < a + a2))) ∧ Touch [] w' w'') := fun w' bl a a2 t q0 q1 q2 q3 q4 q5 => within2 w' m c now b o (HM.out w' t) v bl a a2 ha0 ha1 ha2 q0 q1 q2 q3 q4 q5
  have HMs := HM
  clear HM
  unfold howC
  obtain ⟨wt, wn, wz⟩ := wc
  unfold PT ev at *
  unfold ov at HF
  clear ha0 ha1 ha2 hc
  generalize now - v.2 = ag at *
  by_cases hk : v.1.2.1 = 0
  · rw [if_pos hk]
    rw [decide_eq_true hk] at HF
    clear hk
    by_cases hA : ag < c.t
    · rw [if_pos hA]
      go_enter Tryz.func152, Tryz.ntmps152
      go_wp2
      unfold ebx at hV
      rw [← hV]
      clear hV
      go_quiet (fail)
      go_wp2_with (first
        | (go_at_call 158; refine (HF.out _).mono ?_; rintro e w2 ⟨rfl, t2⟩; have T2 := hid (((Touch.refl [] V).drewN nq).trans' t2); clear t2 k0 k1 k2 k3 k4 d0 d1 d2 d3 d4 d5 d6 d7 d8 d9 df; obtain ⟨k0, k1, k2, k3, k4⟩ := HK.out _ T2.out; obtain ⟨d0, d1, d2, d3, d4, d5, d6, d7, d8, d9, df⟩ := (HMs.out _ T2.out).cs)
        | (go_at_call 159; refine (H1.out _ _ c.t (T2.out.alloc _) (by omega) (by omega) (by simp)).mono ?_; rintro e w3 ⟨rfl, t3⟩; have T3 := hid ((T2.out.alloc _).trans' t3); clear t3 k0 k1 k2 k3 k4; obtain ⟨k0, k1, k2, k3, k4⟩ := HK.out _ T3.out))
      go_ret
      exact ⟨rfl, TV.out.trans' T3.out⟩
    · rw [if_neg hA]
      by_cases hB : ag < c.t + c.s
      · rw [if_pos hB]
        go_enter Tryz.func152, Tryz.ntmps152
        go_wp2
        unfold ebx at hV
        rw [← hV]
        clear hV
        go_quiet (fail)
        go_wp2_with (first
          | (go_at_call 158; refine (HF.out _).mono ?_; rintro e w2 ⟨rfl, t2⟩; have T2 := hid (((Touch.refl [] V).drewN nq).trans' t2); clear t2 k0 k1 k2 k3 k4 d0 d1 d2 d3 d4 d5 d6 d7 d8 d9 df; obtain ⟨k0, k1, k2, k3, k4⟩ := HK.out _ T2.out; obtain ⟨d0, d1, d2, d3, d4, d5, d6, d7, d8, d9, df⟩ := (HMs.out _ T2.out).cs)
          | (go_at_call 159; have q3 := T3; refine (H2.out _ _ c.t c.s (T3.out.alloc _) (by omega) (by omega) (by omega) (by omega) (by simp) (by simp)).mono ?_; rintro e w4 ⟨rfl, t4⟩; have T4 := hid ((T3.out.alloc _).trans' t4); clear t4 q3)
          | (go_at_call 159; refine (H1.out _ _ c.t (T2.out.alloc _) (by omega) (by omega) (by simp)).mono ?_; rintro e w3 ⟨rfl, t3⟩; have T3 := hid ((T2.out.alloc _).trans' t3); clear t3 k0 k1 k2 k3 k4; obtain ⟨k0, k1, k2, k3, k4⟩ := HK.out _ T3.out))
        go_ret
        exact ⟨rfl, TV.out.trans' T4.out⟩
      · rw [if_neg hB]
        go_enter Tryz.func152, Tryz.ntmps152
        go_wp2
        unfold ebx at hV
        rw [← hV]
        clear hV
        go_quiet (fail)
        go_wp2_with (first
          | (go_at_call 158; refine (HF.out _).mono ?_; rintro e w2 ⟨rfl, t2⟩; have T2 := hid (((Touch.refl [] V).drewN nq).trans' t2); clear t2 k0 k1 k2 k3 k4 d0 d1 d2 d3 d4 d5 d6 d7 d8 d9 df; obtain ⟨k0, k1, k2, k3, k4⟩ := HK.out _ T2.out; obtain ⟨d0, d1, d2, d3, d4, d5, d6, d7, d8, d9, df⟩ := (HMs.out _ T2.out).cs)
          | (go_at_call 159; have q3 := T3; refine (H2.out _ _ c.t c.s (T3.out.alloc _) (by omega) (by omega) (by omega) (by omega) (by simp) (by simp)).mono ?_; rintro e w4 ⟨rfl, t4⟩; have T4 := hid ((T3.out.alloc _).trans' t4); clear t4 q3)
          | (go_at_call 159; refine (H1.out _ _ c.t (T2.out.alloc _) (by omega) (by omega) (by simp)).mono ?_; rintro e w3 ⟨rfl, t3⟩; have T3 := hid ((T2.out.alloc _).trans' t3); clear t3 k0 k1 k2 k3 k4; obtain ⟨k0, k1, k2, k3, k4⟩ := HK.out _ T3.out))
        go_ret
        exact ⟨rfl, TV.out.trans' T4.out⟩
  · rw [if_neg hk]
    rw [decide_eq_false hk] at HF
    clear hk
    by_cases hA : ag < c.n
    · rw [if_pos hA]
      go_enter Tryz.func152, Tryz.ntmps152
      go_wp2
      unfold ebx at hV
      rw [← hV]
      clear hV
      go_quiet (fail)
      go_wp2_with (first
        | (go_at_call 158; refine (HF.out _).mono ?_; rintro e w2 ⟨rfl, t2⟩; have T2 := hid (((Touch.refl [] V).drewN nq).trans' t2); clear t2 k0 k1 k2 k3 k4 d0 d1 d2 d3 d4 d5 d6 d7 d8 d9 df; obtain ⟨k0, k1, k2, k3, k4⟩ := HK.out _ T2.out; obtain ⟨d0, d1, d2, d3, d4, d5, d6, d7, d8, d9, df⟩ := (HMs.out _ T2.out).cs)
        | (go_at_call 159; refine (H1.out _ _ c.n (T2.out.alloc _) (by omega) (by omega) (by simp)).mono ?_; rintro e w3 ⟨rfl, t3⟩; have T3 := hid ((T2.out.alloc _).trans' t3); clear t3 k0 k1 k2 k3 k4; obtain ⟨k0, k1, k2, k3, k4⟩ := HK.out _ T3.out))
      go_ret
      exact ⟨rfl, TV.out.trans' T3.out⟩
    · rw [if_neg hA]
      have hB : ¬ ag < c.n + 0 := by omega
      go_enter Tryz.func152, Tryz.ntmps152
      go_wp2
      unfold ebx at hV
      rw [← hV]
      clear hV
      go_quiet (fail)
      go_wp2_with (first
        | (go_at_call 158; refine (HF.out _).mono ?_; rintro e w2 ⟨rfl, t2⟩; have T2 := hid (((Touch.refl [] V).drewN nq).trans' t2); clear t2 k0 k1 k2 k3 k4 d0 d1 d2 d3 d4 d5 d6 d7 d8 d9 df; obtain ⟨k0, k1, k2, k3, k4⟩ := HK.out _ T2.out; obtain ⟨d0, d1, d2, d3, d4, d5, d6, d7, d8, d9, df⟩ := (HMs.out _ T2.out).cs)
        | (go_at_call 159; have q3 := T3; refine (H2.out _ _ c.n 0 (T3.out.alloc _) (by omega) (by omega) (by omega) (by omega) (by simp) (by simp)).mono ?_; rintro e w4 ⟨rfl, t4⟩; have T4 := hid ((T3.out.alloc _).trans' t4); clear t4 q3)
        | (go_at_call 159; refine (H1.out _ _ c.n (T2.out.alloc _) (by omega) (by omega) (by simp)).mono ?_; rintro e w3 ⟨rfl, t3⟩; have T3 := hid ((T2.out.alloc _).trans' t3); clear t3 k0 k1 k2 k3 k4; obtain ⟨k0, k1, k2, k3, k4⟩ := HK.out _ T3.out))
      go_ret
      exact ⟨rfl, TV.out.trans' T4.out⟩
end Go.Proofs.YtpefbmheblfbeaaGreat.Me
/- Contracts of see, Get and Look; no conditions but those that each states. -/
namespace Go.Proofs.YtpefbmheblfbeaaGreat.Me
open Go.RowKit Go.Sort Go.Maps Go.ChangeMaps Go.WideMaps
set_option maxRecDepth 100000
set_option linter.unusedVariables false
set_option linter.unusedSimpArgs false
def lookS (c : Cf) (now : Int) (xs : List En) (k : K) : Int × Int × O := match fnd xs k with
  | none => (0, 0, oz)
  | some v => (howC c v.1 (now - v.2), now - v.2, v.1)
def lv (p : Int × Int × O) : Value := sv p.1 p.2.1 p.2.2
theorem zero108 (w : World) : (zeroValue 147).run Tryz.prog w = .ok (.agg #[.int .i64 0, .int .i64 0, .int .i64 0, .int .i64 0, .int .i64 0]) w := by kernel_rfl
theorem Mb.look {w : World} {m b o : Nat} {G : List Nat} {c : Cf} {now : Int} {xs : List En} (h : Mb w m b o G c now xs) {k : K} (hk : Ok k) :
    (Instr.lookup 141 (.map (some b)) (kv k) true).run Tryz.prog w = .ok (.tuple #[((fnd xs k).map ev).getD (.agg #[.int .i64 0, .int .i64 0, .int .i64 0, .int .i64 0, .int .i64 0]), .bool (fnd xs k).isSome]) w := by
  have := h.mp.lookOk (t := 141) Tryz.underlying141 (zero108 w) hk
  unfold mpf at this
  simpa using this
theorem Mb.ats {w : World} {m b o : Nat} {G : List Nat} {c : Cf} {now : Int} {xs : List En} (h : Mb w m b o G c now xs) {k : K} {v : V} (hv : fnd xs k = some v) : right v.1 = true ∧ 0 ≤ v.2 ∧ v.2 ≤ now := h.gd.ok _ (fnd_mem hv)
theorem Mb.how {w : World} {m b o : Nat} {G : List Nat} {c : Cf} {now : Int} {xs : List En} (h : Mb w m b o G c now xs) {k : K} {v : V} (hv : fnd xs k = some v) :
    Calls Tryz.prog 152 #[PT m, ev v] w fun e w' => e = .returned (.int .i64 (howC c v.1 (now - v.2))) ∧ Touch [] w w' := by
  obtain ⟨q1, q2, q3⟩ := h.ats hv
  exact how65 w m c now b o h.md v q2 q3 h.gd.n1 h.gd.oc h.gd.wc
structure Sr (V : World) (r t n : Nat) (w' : World) : Prop where
  tc : Touch [r] V w'
  z : ∃ cs : Array Value, w'.heap[r]? = some (.cells cs t (0, 0)) ∧ cs.size = n
def gc (w : World) (r i : Nat) : Value := (w.cell? ⟨r, i, none⟩).getD undef
section
variable {V w' w'' : World} {r t n : Nat}
theorem Sr.mk' {cs : Array Value} (h : V.heap[r]? = some (.cells cs t (0, 0))) (hn : cs.size = n) : Sr V r t n V := ⟨Touch.refl _ _, cs, h, hn⟩
theorem Sr.go (h : Sr V r t n w') (k : Touch [] w' w'') : Sr V r t n w'' := by
  obtain ⟨cs, h1, h2⟩ := h.z
  exact ⟨h.tc.trans' (k.mono (fun _ e => by cases e)), cs, k.keep h1 (by simp), h2⟩
theorem Sr.drew (h : Sr V r t n w') : Sr V r t n w'.drew := h.go (Touch.refl _ _).drew
theorem Sr.set (h : Sr V r t n w') (i : Nat) (v : Value) : Sr V r t n (w'.setCell ⟨r, i, none⟩ v) := by
  obtain ⟨cs, h1, h2⟩ := h.z
  exact ⟨h.tc.setCell (Or.inl (by simp)) _, _, bset h1 _, by simp [h2]⟩
theorem Sr.cell (h : Sr V r t n w') (i : Nat) (hi : i < n) : w'.cell? ⟨r, i, none⟩ = some (gc w' r i) := by
  obtain ⟨cs, h1, h2⟩ := h.z
  have h3 : w'.cell? ⟨r, i, none⟩ = some (cs[i]'(by omega)) := by simp [World.cell?, h1, h2, hi]
  unfold gc
  rw [h3]
  rfl
theorem Sr.frozen (h : Sr V r t n w') (i : Nat) : w'.frozen? ⟨r, i, none⟩ = false := by
  obtain ⟨cs, h1, h2⟩ := h.z
  simp [World.frozen?, h1]
theorem Sr.keep (h : Sr V r t n w') {k : Nat} {ob : Obj} (hk : V.heap[k]? = some ob) (hr : k ≠ r) : w'.heap[k]? = some ob := h.tc.keep hk (by simpa using hr)
theorem Sr.new {w : World} (h : Sr V r t n w') (k : Touch [] w V) (hr : w.heap.size ≤ r) : Touch [] w w' := k.trans h.tc (fun i hi => by simp only [List.mem_singleton] at hi; subst hi; exact Or.inr hr)
end
theorem Sr.s6 {V w' : World} {r t n : Nat} (h : Sr V r t n w') (v0 v1 v2 v3 v4 v5 : Value) : Sr V r t n ((((((w'.setCell ⟨r, 0, none⟩ v0).setCell ⟨r, 1, none⟩ v1).setCell ⟨r, 2, none⟩ v2).setCell ⟨r, 3, none⟩ v3).setCell ⟨r, 4, none⟩ v4).setCell ⟨r, 5, none⟩ v5) := ((((((h.set 0 _).set 1 _).set 2 _).set 3 _).set 4 _).set 5 _)
theorem tset2 (w : World) (r : Nat) (v0 v1 : Value) : Touch [r] w ((w.setCell ⟨r, 0, none⟩ v0).setCell ⟨r, 1, none⟩ v1) := (((Touch.refl _ _).setCell (Or.inl (by simp)) _).setCell (Or.inl (by simp)) _)
theorem tset6 (w : World) (r : Nat) (v0 v1 v2 v3 v4 v5 : Value) : Touch [r] w ((((((w.setCell ⟨r, 0, none⟩ v0).setCell ⟨r, 1, none⟩ v1).setCell ⟨r, 2, none⟩ v2).setCell ⟨r, 3, none⟩ v3).setCell ⟨r, 4, none⟩ v4).setCell ⟨r, 5, none⟩ v5) := (((((((Touch.refl _ _).setCell (Or.inl (by simp)) _).setCell (Or.inl (by simp)) _).setCell (Or.inl (by simp)) _).setCell (Or.inl (by simp)) _).setCell (Or.inl (by simp)) _).setCell (Or.inl (by simp)) _)
theorem tset7 (w : World) (r : Nat) (v0 v1 v2 v3 v4 v5 v6 : Value) : Touch [r] w (((((((w.setCell ⟨r, 0, none⟩ v0).setCell ⟨r, 1, none⟩ v1).setCell ⟨r, 2, none⟩ v2).setCell ⟨r, 3, none⟩ v3).setCell ⟨r, 4, none⟩ v4).setCell ⟨r, 5, none⟩ v5).setCell ⟨r, 6, none⟩ v6) := ((((((((Touch.refl _ _).setCell (Or.inl (by simp)) _).setCell (Or.inl (by simp)) _).setCell (Or.inl (by simp)) _).setCell (Or.inl (by simp)) _).setCell (Or.inl (by simp)) _).setCell (Or.inl (by simp)) _).setCell (Or.inl (by simp)) _)
set_option maxHeartbeats 1000000 in
theorem see50_no (w : World) (m b o : Nat) (G : List Nat) (c : Cf) (now : Int) (xs : List En) (h : Mb w m b o G c now xs) (k : K) (hk : Ok k) (hf : fnd xs k = none) :
    Calls Tryz.prog 141 #[PT m, kv k] w fun e w' => e = .returned (lv (0, 0, oz)) ∧ Touch [] w w' := by
  obtain ⟨V, hV⟩ : ∃ V, V = (w.alloc (bx k)).alloc (.cells #[.int .i64 0, .int .i64 0, .int .i64 0, .int .i64 0, .int .i64 0, .int .i64 0] 155) := ⟨_, rfl⟩
  have TV : Hid (Touch [] w V) := by rw [hV]; exact ((Touch.refl _ _).alloc _).alloc _
  have hB : V.heap[w.heap.size]? = some (bx k) := by rw [hV]; exact (Below.heap_alloc _ _ _ (by simp)).trans (heap_alloc_new w _)
  have hZ : V.heap[w.heap.size + 1]? = some (.cells #[.int .i64 0, .int .i64 0, .int .i64 0, .int .i64 0, .int .i64 0, .int .i64 0] 155 (0, 0)) := by
    rw [hV]
    have := heap_alloc_new (w.alloc (bx k)) (.cells #[.int .i64 0, .int .i64 0, .int .i64 0, .int .i64 0, .int .i64 0, .int .i64 0] 155)
    rwa [World.size_alloc] at this
  have sA : ∀ w', Touch [] V w' → w'.cell? ⟨m, 8, none⟩ = some (.map (some b)) := fun w' t => (h.keep0 (TV.out.trans' t)).md.cs.c8
  have sB : ∀ w', Touch [] V w' → w'.cell? ⟨w.heap.size, 0, none⟩ = some (.int .u16 k.1) := fun w' t => by
    have := t.keep hB (by simp)
    unfold bx at this
    simp [World.cell?, this]
  have sC : ∀ w', Touch [] V w' → w'.cell? ⟨w.heap.size, 1, none⟩ = some (.string k.2) := fun w' t => by
    have := t.keep hB (by simp)
    unfold bx at this
    simp [World.cell?, this]
  have sL : ∀ w', Touch [] V w' → (Instr.lookup 141 (.map (some b)) (.agg #[.int .u16 k.1, .string k.2]) true).run Tryz.prog w' = .ok (.tuple #[.agg #[.int .i64 0, .int .i64 0, .int .i64 0, .int .i64 0, .int .i64 0], .bool false]) w' := fun w' t => by
    have := (h.keep0 (TV.out.trans' t)).look hk
    rw [hf] at this
    exact this
  obtain ⟨U, hU⟩ : ∃ U, U = (V.alloc (.cells #[.int .i64 0, .int .i64 0, .int .i64 0, .int .i64 0, .int .i64 0] 147)).drew := ⟨_, rfl⟩
  have TU : Touch [] V U := by rw [hU]; exact ((Touch.refl _ _).alloc _).drew
  have hZ' := TU.keep hZ (by simp)
  have z0 : U.cell? ⟨w.heap.size + 1, 0, none⟩ = some (.int .i64 0) := by simp [World.cell?, hZ']
  have z1 : U.cell? ⟨w.heap.size + 1, 1, none⟩ = some (.int .i64 0) := by simp [World.cell?, hZ']
  have z2 : U.cell? ⟨w.heap.size + 1, 2, none⟩ = some (.int .i64 0) := by simp [World.cell?, hZ']
  have z3 : U.cell? ⟨w.heap.size + 1, 3, none⟩ = some (.int .i64 0) := by simp [World.cell?, hZ']
  have z4 : U.cell? ⟨w.heap.size + 1, 4, none⟩ = some (.int .i64 0) := by simp [World.cell?, hZ']
  have z5 : U.cell? ⟨w.heap.size + 1, 5, none⟩ = some (.int .i64 0) := by simp [World.cell?, hZ']
  have zf : ∀ i, U.frozen? ⟨w.heap.size + 1, i, none⟩ = false := fun i => by simp [World.frozen?, hZ']
  have TW := hid (TV.out.trans' TU)
  clear h hB hZ hZ' TU
  unfold PT kv lv sv oz
  go_enter Tryz.func141, Tryz.ntmps141
  go_wp2
  unfold bx at hV
  rw [← hV]
  clear hV hf hk
  have t0 : Touch [] V V.drew := (Touch.refl _ _).drew
  go_region_held3 (fun w' => Touch [] V w') (repeat (first | assumption | exact Touch.refl _ _ | apply Touch.alloc | apply Touch.drew | (refine Touch.setCell ?_ (Or.inr (by simp)) _))) (fail)
  all_goals
    clear sA sB sC sL t0
    rw [← hU]
    clear hU
    go_wp2
    refine bodyPost_ret (v := .agg #[.int .i64 0, .int .i64 0, .int .i64 0, .int .i64 0, .int .i64 0, .int .i64 0]) (by simp [results, Tryz.results141, go_sem, z0, z1, z2, z3, z4, z5]) rfl ⟨rfl, ?_⟩
    refine TW.out.trans (G := [w.heap.size + 1]) ?_ (fun i hi => by simp only [List.mem_singleton] at hi; subst hi; exact Or.inr (Nat.le_succ _))
    exact tset6 _ _ _ _ _ _ _ _
end Go.Proofs.YtpefbmheblfbeaaGreat.Me
/- Contracts of see, Get and Look; no conditions but those that each states. -/
namespace Go.Proofs.YtpefbmheblfbeaaGreat.Me
open Go.RowKit Go.Sort Go.Maps Go.ChangeMaps Go.WideMaps
set_option maxRecDepth 100000
set_option linter.unusedVariables false
set_option linter.unusedSimpArgs false
set_option maxHeartbeats 4000000 in
theorem see50_yes (w : World) (m b o : Nat) (G : List Nat) (c : Cf) (now : Int) (xs : List En) (h : Mb w m b o G c now xs) (k : K) (hk : Ok k) (v : V) (hf : fnd xs k = some v) :
    Calls Tryz.prog 141 #[PT m, kv k] w fun e w' => e = .returned (lv (howC c v.1 (now - v.2), now - v.2, v.1)) ∧ Touch [] w w' := by
  obtain ⟨V, hV⟩ : ∃ V, V = (w.alloc (bx k)).alloc (.cells #[.int .i64 0, .int .i64 0, .int .i64 0, .int .i64 0, .int .i64 0, .int .i64 0] 155) := ⟨_, rfl⟩
  have TV : Hid (Touch [] w V) := by rw [hV]; exact ((Touch.refl _ _).alloc _).alloc _
  have hB : V.heap[w.heap.size]? = some (bx k) := by rw [hV]; exact (Below.heap_alloc _ _ _ (by simp)).trans (heap_alloc_new w _)
  have hZ : V.heap[w.heap.size + 1]? = some (.cells #[.int .i64 0, .int .i64 0, .int .i64 0, .int .i64 0, .int .i64 0, .int .i64 0] 155 (0, 0)) := by
    rw [hV]
    have := heap_alloc_new (w.alloc (bx k)) (.cells #[.int .i64 0, .int .i64 0, .int .i64 0, .int .i64 0, .int .i64 0, .int .i64 0] 155)
    rwa [World.size_alloc] at this
  have sA : ∀ w', Touch [] V w' → w'.cell? ⟨m, 8, none⟩ = some (.map (some b)) := fun w' t => (h.keep0 (TV.out.trans' t)).md.cs.c8
  have sB : ∀ w', Touch [] V w' → w'.cell? ⟨w.heap.size, 0, none⟩ = some (.int .u16 k.1) := fun w' t => by
    have := t.keep hB (by simp)
    unfold bx at this
    simp [World.cell?, this]
  have sC : ∀ w', Touch [] V w' → w'.cell? ⟨w.heap.size, 1, none⟩ = some (.string k.2) := fun w' t => by
    have := t.keep hB (by simp)
    unfold bx at this
    simp [World.cell?, this]
  have sL : ∀ w', Touch [] V w' → (Instr.lookup 141 (.map (some b)) (.agg #[.int .u16 k.1, .string k.2]) true).run Tryz.prog w' = .ok (.tuple #[.agg #[.int .i64 v.1.1, .int .i64 v.1.2.1, .int .i64 v.1.2.2.1, .int .i64 v.1.2.2.2, .int .i64 v.2], .bool true]) w' := fun w' t => by
    have := (h.keep0 (TV.out.trans' t)).look hk
    rw [hf] at this
    exact this
  obtain ⟨U, hU⟩ : ∃ U, U = (V.alloc (ebx v)).drew := ⟨_, rfl⟩
  have TU : Touch [] V U := by rw [hU]; exact ((Touch.refl _ _).alloc _).drew
  have hE : U.heap[V.heap.size]? = some (ebx v) := by rw [hU]; exact heap_alloc_new V _
  have hZ' := TU.keep hZ (by simp)
  have hlt : w.heap.size + 1 < V.heap.size := block_lt hZ
  have HS : Hid (Sr U (w.heap.size + 1) 155 6 U) := Sr.mk' hZ' rfl
  have hmr : m < w.heap.size := h.md.lt
  have rA : ∀ w', Sr U (w.heap.size + 1) 155 6 w' → w'.cell? ⟨m, 7, none⟩ = some (.int .i64 now) := fun w' s => by
    have hm := TU.keep (TV.out.keep h.md (by simp)) (by simp)
    exact (show Md w' m c now b o from s.keep hm (by omega)).cs.c7
  have rE : ∀ w', Sr U (w.heap.size + 1) 155 6 w' → w'.heap[V.heap.size]? = some (ebx v) := fun w' s => s.keep hE (by omega)
  have r0 : ∀ w', Sr U (w.heap.size + 1) 155 6 w' → w'.cell? ⟨V.heap.size, 0, none⟩ = some (.int .i64 v.1.1) := fun w' s => by have := rE w' s; unfold ebx at this; simp [World.cell?, this]
  have r1 : ∀ w', Sr U (w.heap.size + 1) 155 6 w' → w'.cell? ⟨V.heap.size, 1, none⟩ = some (.int .i64 v.1.2.1) := fun w' s => by have := rE w' s; unfold ebx at this; simp [World.cell?, this]
  have r2 : ∀ w', Sr U (w.heap.size + 1) 155 6 w' → w'.cell? ⟨V.heap.size, 2, none⟩ = some (.int .i64 v.1.2.2.1) := fun w' s => by have := rE w' s; unfold ebx at this; simp [World.cell?, this]
  have r3 : ∀ w', Sr U (w.heap.size + 1) 155 6 w' → w'.cell? ⟨V.heap.size, 3, none⟩ = some (.int .i64 v.1.2.2.2) := fun w' s => by have := rE w' s; unfold ebx at this; simp [World.cell?, this]
  have r4 : ∀ w', Sr U (w.heap.size + 1) 155 6 w' → w'.cell? ⟨V.heap.size, 4, none⟩ = some (.int .i64 v.2) := fun w' s => by have := rE w' s; unfold ebx at this; simp [World.cell?, this]
  have y0 : ∀ w', Sr U (w.heap.size + 1) 155 6 w' → w'.cell? ⟨w.heap.size + 1, 0, none⟩ = some (gc w' (w.heap.size + 1) 0) := fun w' s => s.cell 0 (by omega)
  have y1 : ∀ w', Sr U (w.heap.size + 1) 155 6 w' → w'.cell? ⟨w.heap.size + 1, 1, none⟩ = some (gc w' (w.heap.size + 1) 1) := fun w' s => s.cell 1 (by omega)
  have y2 : ∀ w', Sr U (w.heap.size + 1) 155 6 w' → w'.cell? ⟨w.heap.size + 1, 2, none⟩ = some (gc w' (w.heap.size + 1) 2) := fun w' s => s.cell 2 (by omega)
  have y3 : ∀ w', Sr U (w.heap.size + 1) 155 6 w' → w'.cell? ⟨w.heap.size + 1, 3, none⟩ = some (gc w' (w.heap.size + 1) 3) := fun w' s => s.cell 3 (by omega)
  have y4 : ∀ w', Sr U (w.heap.size + 1) 155 6 w' → w'.cell? ⟨w.heap.size + 1, 4, none⟩ = some (gc w' (w.heap.size + 1) 4) := fun w' s => s.cell 4 (by omega)
  have y5 : ∀ w', Sr U (w.heap.size + 1) 155 6 w' → w'.cell? ⟨w.heap.size + 1, 5, none⟩ = some (gc w' (w.heap.size + 1) 5) := fun w' s => s.cell 5 (by omega)
  have yf : ∀ w', Sr U (w.heap.size + 1) 155 6 w' → ∀ i, w'.frozen? ⟨w.heap.size + 1, i, none⟩ = false := fun w' s i => s.frozen i
  have HH : Hid (∀ w', Sr U (w.heap.size + 1) 155 6 w' → Calls Tryz.prog 152 #[PT m, ev v] w' fun e w'' => e = .returned (.int .i64 (howC c v.1 (now - v.2))) ∧ Touch [] w' w'') := fun w' s => (h.keep ((TV.out.trans' TU).mono (fun _ e => by cases e) |>.trans (G := [w.heap.size + 1]) s.tc (fun i hi => Or.inl hi)) (fun k' hk' => by
    have := h.lt k' hk'
    simp only [List.mem_singleton]
    omega)).how hf
  have TW : Hid (Touch [] w U) := TV.out.trans' TU
  have hw : IntKind.i64.wrap (now - v.2) = now - v.2 := by
    obtain ⟨q1, q2, q3⟩ := h.ats hf
    have := h.gd.n1
    unfold MT at this
    simp [IntKind.wrap, IntKind.bits, IntKind.signed, IntKind.min, IntKind.max]
    omega
  clear h hB hZ TU hE hZ' rE hf hk hmr
  unfold PT ev at HH
  unfold PT kv lv sv
  simp only
  generalize howC c v.1 (now - v.2) = hh at *
  go_enter Tryz.func141, Tryz.ntmps141
  go_wp2
  unfold bx at hV
  rw [← hV]
  clear hV
  have t0 : Touch [] V V.drew := (Touch.refl _ _).drew
  go_region_held3 (fun w' => Touch [] V w') (repeat (first | assumption | exact Touch.refl _ _ | apply Touch.alloc | apply Touch.drew | (refine Touch.setCell ?_ (Or.inr (by simp)) _))) (fail)
  all_goals
    clear sA sB sC sL t0
    unfold ebx at hU
    rw [← hU]
    clear hU
    have s0 := HS.out.drew
    go_upto_region 4 with fail
    refine wp_region_H (S := fun w' => Sr U (w.heap.size + 1) 155 6 w') (by kernel_rfl) ?_
    refine wpH_take (i := 0) (v := (.pointer (some ⟨m, 0, none⟩))) (some 19) rfl rfl (by kernel_rfl) (by kernel_rfl) (by kernel_rfl) (fun _ _ _ h => h) (Or.inl ⟨by rfl, fun w' hS => (by go_simp)⟩) s0 ?_
    try simp only [Go.Act.put, List.setIfInBounds_toArray, List.set_cons_zero, List.set_cons_succ]
    refine wpH_take (i := 1) (v := (.agg #[.int .i64 v.1.1, .int .i64 v.1.2.1, .int .i64 v.1.2.2.1, .int .i64 v.1.2.2.2, .int .i64 v.2])) (some 20) rfl rfl (by kernel_rfl) (by kernel_rfl) (by kernel_rfl) (fun _ _ _ h => h) (Or.inl ⟨by rfl, fun w' hS => (by have z0 := r0 _ hS; have z1 := r1 _ hS; have z2 := r2 _ hS; have z3 := r3 _ hS; have z4 := r4 _ hS; go_simp)⟩) s0 ?_
    try simp only [Go.Act.put, List.setIfInBounds_toArray, List.set_cons_zero, List.set_cons_succ]
    refine wpH_take (i := 3) (v := (.pointer (some ⟨m, 0, none⟩))) (some 22) rfl rfl (by kernel_rfl) (by kernel_rfl) (by kernel_rfl) (fun _ _ _ h => h) (Or.inl ⟨by rfl, fun w' hS => (by go_simp)⟩) s0 ?_
    try simp only [Go.Act.put, List.setIfInBounds_toArray, List.set_cons_zero, List.set_cons_succ]
    refine wpH_take (i := 4) (v := (.pointer (some ⟨m, 0, none⟩))) (some 23) rfl rfl (by kernel_rfl) (by kernel_rfl) (by kernel_rfl) (fun _ _ _ h => h) (Or.inl ⟨by rfl, fun w' hS => (by go_simp)⟩) s0 ?_
    try simp only [Go.Act.put, List.setIfInBounds_toArray, List.set_cons_zero, List.set_cons_succ]
    refine wpH_take (i := 5) (v := (.pointer (some ⟨m, 7, none⟩))) (some 24) rfl rfl (by kernel_rfl) (by kernel_rfl) (by kernel_rfl) (fun _ _ _ h => h) (Or.inl ⟨by rfl, fun w' hS => (by go_simp)⟩) s0 ?_
    try simp only [Go.Act.put, List.setIfInBounds_toArray, List.set_cons_zero, List.set_cons_succ]
    refine wpH_take (i := 6) (v := (.int .i64 now)) (some 25) rfl rfl (by kernel_rfl) (by kernel_rfl) (by kernel_rfl) (fun _ _ _ h => h) (Or.inl ⟨by rfl, fun w' hS => (by have z0 := rA _ hS; go_simp)⟩) s0 ?_
    try simp only [Go.Act.put, List.setIfInBounds_toArray, List.set_cons_zero, List.set_cons_succ]
    refine wpH_take (i := 7) (v := (.pointer (some ⟨V.heap.size, 4, none⟩))) (some 26) rfl rfl (by kernel_rfl) (by kernel_rfl) (by kernel_rfl) (fun _ _ _ h => h) (Or.inl ⟨by rfl, fun w' hS => (by go_simp)⟩) s0 ?_
    try simp only [Go.Act.put, List.setIfInBounds_toArray, List.set_cons_zero, List.set_cons_succ]
    refine wpH_take (i := 8) (v := (.int .i64 v.2)) (some 27) rfl rfl (by kernel_rfl) (by kernel_rfl) (by kernel_rfl) (fun _ _ _ h => h) (Or.inl ⟨by rfl, fun w' hS => (by have z0 := r4 _ hS; go_simp)⟩) s0 ?_
    try simp only [Go.Act.put, List.setIfInBounds_toArray, List.set_cons_zero, List.set_cons_succ]
    refine wpH_take (i := 9) (v := (.int .i64 (now - v.2))) (some 28) rfl rfl (by kernel_rfl) (by kernel_rfl) (by kernel_rfl) (fun _ _ _ h => h) (Or.inl ⟨by rfl, fun w' hS => (by go_simp)⟩) s0 ?_
    try simp only [Go.Act.put, List.setIfInBounds_toArray, List.set_cons_zero, List.set_cons_succ]
    refine wpH_take (i := 10) (v := (.pointer (some ⟨V.heap.size, 0, none⟩))) (some 29) rfl rfl (by kernel_rfl) (by kernel_rfl) (by kernel_rfl) (fun _ _ _ h => h) (Or.inl ⟨by rfl, fun w' hS => (by go_simp)⟩) s0 ?_
    try simp only [Go.Act.put, List.setIfInBounds_toArray, List.set_cons_zero, List.set_cons_succ]
    refine wpH_take (i := 11) (v := (.agg #[.int .i64 v.1.1, .int .i64 v.1.2.1, .int .i64 v.1.2.2.1, .int .i64 v.1.2.2.2])) (some 30) rfl rfl (by kernel_rfl) (by kernel_rfl) (by kernel_rfl) (fun _ _ _ h => h) (Or.inl ⟨by rfl, fun w' hS => (by have z0 := r0 _ hS; have z1 := r1 _ hS; have z2 := r2 _ hS; have z3 := r3 _ hS; go_simp)⟩) s0 ?_
    try simp only [Go.Act.put, List.setIfInBounds_toArray, List.set_cons_zero, List.set_cons_succ]
    refine wpH_call (i := 2) (o := { dst := some 21, op := Op.call { callee := Callee.value (Operand.func 152), args := #[Operand.tmp 19, Operand.tmp 20], argTypes := #[28, 147] }, type := 3, pos := _, after := #[{ on := 0, ground := Ground.data }, { on := 1, ground := Ground.data }], guard := none }) (by kernel_rfl) rfl (fun K' hK => ?_)
    rw [if_pos (by rfl)]
    go_simp
    refine (HH.out _ s0).mono ?_
    rintro e w1 ⟨rfl, t1⟩
    have s1 := s0.go t1
    clear t1
    obtain ⟨q0, q1, q2, q3, q4, q5⟩ : w1.cell? ⟨w.heap.size + 1, 0, none⟩ = some (gc w1 (w.heap.size + 1) 0) ∧ w1.cell? ⟨w.heap.size + 1, 1, none⟩ = some (gc w1 (w.heap.size + 1) 1) ∧ w1.cell? ⟨w.heap.size + 1, 2, none⟩ = some (gc w1 (w.heap.size + 1) 2) ∧ w1.cell? ⟨w.heap.size + 1, 3, none⟩ = some (gc w1 (w.heap.size + 1) 3) ∧ w1.cell? ⟨w.heap.size + 1, 4, none⟩ = some (gc w1 (w.heap.size + 1) 4) ∧ w1.cell? ⟨w.heap.size + 1, 5, none⟩ = some (gc w1 (w.heap.size + 1) 5) := ⟨y0 _ s1, y1 _ s1, y2 _ s1, y3 _ s1, y4 _ s1, y5 _ s1⟩
    have qf := yf _ s1
    refine hK.out _ _ s1 ?_
    clear hK
    try simp only [Go.Act.put, List.setIfInBounds_toArray, List.set_cons_zero, List.set_cons_succ]
    refine wpH_take (i := 12) (v := (.agg #[.int .i64 hh, .int .i64 (now - v.2), .int .i64 v.1.1, .int .i64 v.1.2.1, .int .i64 v.1.2.2.1, .int .i64 v.1.2.2.2])) (some 31) rfl rfl (by kernel_rfl) (by kernel_rfl) (by kernel_rfl) (fun _ _ _ h => h) (Or.inl ⟨by rfl, fun w' hS => (by go_simp)⟩) s1 ?_
    try simp only [Go.Act.put, List.setIfInBounds_toArray, List.set_cons_zero, List.set_cons_succ]
    refine wpH_call (i := 13) (o := { dst := none, op := Op.store 155 (Operand.tmp 4) (Operand.tmp 31), type := 0, pos := _, after := #[{ on := 12, ground := Ground.data }, { on := 2, ground := Ground.chain }, { on := 0, ground := Ground.phase }, { on := 1, ground := Ground.phase }, { on := 2, ground := Ground.phase }, { on := 3, ground := Ground.phase }, { on := 4, ground := Ground.phase }, { on := 5, ground := Ground.phase }, { on := 6, ground := Ground.phase }, { on := 7, ground := Ground.phase }, { on := 8, ground := Ground.phase }, { on := 9, ground := Ground.phase }, { on := 10, ground := Ground.phase }, { on := 11, ground := Ground.phase }, { on := 12, ground := Ground.phase }], guard := none }) (by kernel_rfl) rfl (fun K' hK => ?_)
    rw [if_pos (by rfl)]
    go_simp
    refine hK.out _ _ (Sr.s6 s1 _ _ _ _ _ _) ?_
    clear hK
    try simp only [Go.Act.put, List.setIfInBounds_toArray, List.set_cons_zero, List.set_cons_succ]
    refine wpAnyH_done (by kernel_rfl) ?_ _
    have S1 := hid s1
    clear rA r0 r1 r2 r3 r4 y0 y1 y2 y3 y4 y5 yf s0 s1 qf
    go_wp2
    refine bodyPost_ret (v := .agg #[.int .i64 hh, .int .i64 (now - v.2), .int .i64 v.1.1, .int .i64 v.1.2.1, .int .i64 v.1.2.2.1, .int .i64 v.1.2.2.2]) (by simp [results, Tryz.results141, go_sem, q0, q1, q2, q3, q4, q5]) rfl ⟨rfl, ?_⟩
    refine (S1.out.new TW.out (Nat.le_succ _)).trans (G := [w.heap.size + 1]) ?_ (fun i hi => by simp only [List.mem_singleton] at hi; subst hi; exact Or.inr (Nat.le_succ _))
    exact tset6 _ _ _ _ _ _ _ _
end Go.Proofs.YtpefbmheblfbeaaGreat.Me
/- Contracts of Get, Look and Tell; no conditions but those that each states. -/
namespace Go.Proofs.YtpefbmheblfbeaaGreat.Me
open Go.RowKit Go.Sort Go.Maps Go.ChangeMaps Go.WideMaps
set_option maxRecDepth 100000
set_option linter.unusedVariables false
set_option linter.unusedSimpArgs false
def nvz : Value := .agg #[.int .u16 0, .string ⟨#[]⟩, .int .i64 0, .int .i64 0, .int .i64 0, .int .i64 0, .int .i64 0]
def getS (xs : List En) (k : K) : Value × Bool := match fnd xs k with
  | none => (nvz, false)
  | some v => (nv (k, v), true)
set_option maxHeartbeats 2000000 in
theorem get24_no (w : World) (m b o : Nat) (G : List Nat) (c : Cf) (now : Int) (xs : List En) (h : Mb w m b o G c now xs) (k : K) (hk : Ok k) (hf : fnd xs k = none) :
    Calls Tryz.prog 90 #[PT m, kv k] w fun e w' => e = .returned (.tuple #[nvz, .bool false]) ∧ Touch [] w w' := by
  obtain ⟨V, hV⟩ : ∃ V, V = (w.alloc (bx k)).alloc (.cells #[.int .u16 0, .string ⟨#[]⟩, .int .i64 0, .int .i64 0, .int .i64 0, .int .i64 0, .int .i64 0] 60) := ⟨_, rfl⟩
  have TV : Hid (Touch [] w V) := by rw [hV]; exact ((Touch.refl _ _).alloc _).alloc _
  have hB : V.heap[w.heap.size]? = some (bx k) := by rw [hV]; exact (Below.heap_alloc _ _ _ (by simp)).trans (heap_alloc_new w _)
  have hZ : V.heap[w.heap.size + 1]? = some (.cells #[.int .u16 0, .string ⟨#[]⟩, .int .i64 0, .int .i64 0, .int .i64 0, .int .i64 0, .int .i64 0] 60 (0, 0)) := by
    rw [hV]
    have := heap_alloc_new (w.alloc (bx k)) (.cells #[.int .u16 0, .string ⟨#[]⟩, .int .i64 0, .int .i64 0, .int .i64 0, .int .i64 0, .int .i64 0] 60)
    rwa [World.size_alloc] at this
  have sA : ∀ w', Touch [] V w' → w'.cell? ⟨m, 8, none⟩ = some (.map (some b)) := fun w' t => (h.keep0 (TV.out.trans' t)).md.cs.c8
  have sB : ∀ w', Touch [] V w' → w'.cell? ⟨w.heap.size, 0, none⟩ = some (.int .u16 k.1) := fun w' t => by
    have := t.keep hB (by simp)
    unfold bx at this
    simp [World.cell?, this]
  have sC : ∀ w', Touch [] V w' → w'.cell? ⟨w.heap.size, 1, none⟩ = some (.string k.2) := fun w' t => by
    have := t.keep hB (by simp)
    unfold bx at this
    simp [World.cell?, this]
  have sL : ∀ w', Touch [] V w' → (Instr.lookup 141 (.map (some b)) (.agg #[.int .u16 k.1, .string k.2]) true).run Tryz.prog w' = .ok (.tuple #[.agg #[.int .i64 0, .int .i64 0, .int .i64 0, .int .i64 0, .int .i64 0], .bool false]) w' := fun w' t => by
    have := (h.keep0 (TV.out.trans' t)).look hk
    rw [hf] at this
    exact this
  obtain ⟨U, hU⟩ : ∃ U, U = (V.alloc (.cells #[.int .i64 0, .int .i64 0, .int .i64 0, .int .i64 0, .int .i64 0] 147)).drew := ⟨_, rfl⟩
  have TU : Touch [] V U := by rw [hU]; exact ((Touch.refl _ _).alloc _).drew
  have hE : U.heap[V.heap.size]? = some (.cells #[.int .i64 0, .int .i64 0, .int .i64 0, .int .i64 0, .int .i64 0] 147 (0, 0)) := by rw [hU]; exact heap_alloc_new V _
  have hZ' := TU.keep hZ (by simp)
  have hB' := TU.keep hB (by simp)
  unfold bx at hB'
  have z0 : U.cell? ⟨w.heap.size + 1, 0, none⟩ = some (.int .u16 0) := by simp [World.cell?, hZ']
  have z1 : U.cell? ⟨w.heap.size + 1, 1, none⟩ = some (.string ⟨#[]⟩) := by simp [World.cell?, hZ']
  have z2 : U.cell? ⟨w.heap.size + 1, 2, none⟩ = some (.int .i64 0) := by simp [World.cell?, hZ']
  have z3 : U.cell? ⟨w.heap.size + 1, 3, none⟩ = some (.int .i64 0) := by simp [World.cell?, hZ']
  have z4 : U.cell? ⟨w.heap.size + 1, 4, none⟩ = some (.int .i64 0) := by simp [World.cell?, hZ']
  have z5 : U.cell? ⟨w.heap.size + 1, 5, none⟩ = some (.int .i64 0) := by simp [World.cell?, hZ']
  have z6 : U.cell? ⟨w.heap.size + 1, 6, none⟩ = some (.int .i64 0) := by simp [World.cell?, hZ']
  have e0 : U.cell? ⟨V.heap.size, 0, none⟩ = some (.int .i64 0) := by simp [World.cell?, hE]
  have e1 : U.cell? ⟨V.heap.size, 1, none⟩ = some (.int .i64 0) := by simp [World.cell?, hE]
  have e2 : U.cell? ⟨V.heap.size, 2, none⟩ = some (.int .i64 0) := by simp [World.cell?, hE]
  have e3 : U.cell? ⟨V.heap.size, 3, none⟩ = some (.int .i64 0) := by simp [World.cell?, hE]
  have e4 : U.cell? ⟨V.heap.size, 4, none⟩ = some (.int .i64 0) := by simp [World.cell?, hE]
  have b0 : U.cell? ⟨w.heap.size, 0, none⟩ = some (.int .u16 k.1) := by simp [World.cell?, hB']
  have b1 : U.cell? ⟨w.heap.size, 1, none⟩ = some (.string k.2) := by simp [World.cell?, hB']
  have zf : ∀ i, U.frozen? ⟨w.heap.size + 1, i, none⟩ = false := fun i => by simp [World.frozen?, hZ']
  have TW := hid (TV.out.trans' TU)
  clear h hB hZ hZ' TU hE hB'
  unfold PT kv nvz
  go_enter Tryz.func90, Tryz.ntmps90
  go_wp2
  unfold bx at hV
  rw [← hV]
  clear hV hf hk
  have t0 : Touch [] V V.drew := (Touch.refl _ _).drew
  go_region_held3 (fun w' => Touch [] V w') (repeat (first | assumption | exact Touch.refl _ _ | apply Touch.alloc | apply Touch.drew | (refine Touch.setCell ?_ (Or.inr (by simp)) _))) (fail)
  all_goals
    clear sA sB sC sL t0
    rw [← hU]
    clear hU
    go_wp2
    refine bodyPost_ret (v := .tuple #[.agg #[.int .u16 0, .string ⟨#[]⟩, .int .i64 0, .int .i64 0, .int .i64 0, .int .i64 0, .int .i64 0], .bool false]) (by simp [results, Tryz.results90, go_sem, z0, z1, z2, z3, z4, z5, z6]) rfl ⟨rfl, ?_⟩
    refine TW.out.trans (G := [w.heap.size + 1]) ?_ (fun i hi => by simp only [List.mem_singleton] at hi; subst hi; exact Or.inr (Nat.le_succ _))
    exact tset7 _ _ _ _ _ _ _ _ _
set_option maxHeartbeats 2000000 in
theorem get24_yes (w : World) (m b o : Nat) (G : List Nat) (c : Cf) (now : Int) (xs : List En) (h : Mb w m b o G c now xs) (k : K) (hk : Ok k) (v : V) (hf : fnd xs k = some v) :
    Calls Tryz.prog 90 #[PT m, kv k] w fun e w' => e = .returned (.tuple #[nv (k, v), .bool true]) ∧ Touch [] w w' := by
  obtain ⟨V, hV⟩ : ∃ V, V = (w.alloc (bx k)).alloc (.cells #[.int .u16 0, .string ⟨#[]⟩, .int .i64 0, .int .i64 0, .int .i64 0, .int .i64 0, .int .i64 0] 60) := ⟨_, rfl⟩
  have TV : Hid (Touch [] w V) := by rw [hV]; exact ((Touch.refl _ _).alloc _).alloc _
  have hB : V.heap[w.heap.size]? = some (bx k) := by rw [hV]; exact (Below.heap_alloc _ _ _ (by simp)).trans (heap_alloc_new w _)
  have hZ : V.heap[w.heap.size + 1]? = some (.cells #[.int .u16 0, .string ⟨#[]⟩, .int .i64 0, .int .i64 0, .int .i64 0, .int .i64 0, .int .i64 0] 60 (0, 0)) := by
    rw [hV]
    have := heap_alloc_new (w.alloc (bx k)) (.cells #[.int .u16 0, .string ⟨#[]⟩, .int .i64 0, .int .i64 0, .int .i64 0, .int .i64 0, .int .i64 0] 60)
    rwa [World.size_alloc] at this
  have sA : ∀ w', Touch [] V w' → w'.cell? ⟨m, 8, none⟩ = some (.map (some b)) := fun w' t => (h.keep0 (TV.out.trans' t)).md.cs.c8
  have sB : ∀ w', Touch [] V w' → w'.cell? ⟨w.heap.size, 0, none⟩ = some (.int .u16 k.1) := fun w' t => by
    have := t.keep hB (by simp)
    unfold bx at this
    simp [World.cell?, this]
  have sC : ∀ w', Touch [] V w' → w'.cell? ⟨w.heap.size, 1, none⟩ = some (.string k.2) := fun w' t => by
    have := t.keep hB (by simp)
    unfold bx at this
    simp [World.cell?, this]
  have sL : ∀ w', Touch [] V w' → (Instr.lookup 141 (.map (some b)) (.agg #[.int .u16 k.1, .string k.2]) true).run Tryz.prog w' = .ok (.tuple #[.agg #[.int .i64 v.1.1, .int .i64 v.1.2.1, .int .i64 v.1.2.2.1, .int .i64 v.1.2.2.2, .int .i64 v.2], .bool true]) w' := fun w' t => by
    have := (h.keep0 (TV.out.trans' t)).look hk
    rw [hf] at this
    exact this
  obtain ⟨U, hU⟩ : ∃ U, U = (V.alloc (.cells #[.int .i64 v.1.1, .int .i64 v.1.2.1, .int .i64 v.1.2.2.1, .int .i64 v.1.2.2.2, .int .i64 v.2] 147)).drew := ⟨_, rfl⟩
  have TU : Touch [] V U := by rw [hU]; exact ((Touch.refl _ _).alloc _).drew
  have hE : U.heap[V.heap.size]? = some (.cells #[.int .i64 v.1.1, .int .i64 v.1.2.1, .int .i64 v.1.2.2.1, .int .i64 v.1.2.2.2, .int .i64 v.2] 147 (0, 0)) := by rw [hU]; exact heap_alloc_new V _
  have hZ' := TU.keep hZ (by simp)
  have hB' := TU.keep hB (by simp)
  unfold bx at hB'
  have z0 : U.cell? ⟨w.heap.size + 1, 0, none⟩ = some (.int .u16 0) := by simp [World.cell?, hZ']
  have z1 : U.cell? ⟨w.heap.size + 1, 1, none⟩ = some (.string ⟨#[]⟩) := by simp [World.cell?, hZ']
  have z2 : U.cell? ⟨w.heap.size + 1, 2, none⟩ = some (.int .i64 0) := by simp [World.cell?, hZ']
  have z3 : U.cell? ⟨w.heap.size + 1, 3, none⟩ = some (.int .i64 0) := by simp [World.cell?, hZ']
  have z4 : U.cell? ⟨w.heap.size + 1, 4, none⟩ = some (.int .i64 0) := by simp [World.cell?, hZ']
  have z5 : U.cell? ⟨w.heap.size + 1, 5, none⟩ = some (.int .i64 0) := by simp [World.cell?, hZ']
  have z6 : U.cell? ⟨w.heap.size + 1, 6, none⟩ = some (.int .i64 0) := by simp [World.cell?, hZ']
  have e0 : U.cell? ⟨V.heap.size, 0, none⟩ = some (.int .i64 v.1.1) := by simp [World.cell?, hE]
  have e1 : U.cell? ⟨V.heap.size, 1, none⟩ = some (.int .i64 v.1.2.1) := by simp [World.cell?, hE]
  have e2 : U.cell? ⟨V.heap.size, 2, none⟩ = some (.int .i64 v.1.2.2.1) := by simp [World.cell?, hE]
  have e3 : U.cell? ⟨V.heap.size, 3, none⟩ = some (.int .i64 v.1.2.2.2) := by simp [World.cell?, hE]
  have e4 : U.cell? ⟨V.heap.size, 4, none⟩ = some (.int .i64 v.2) := by simp [World.cell?, hE]
  have b0 : U.cell? ⟨w.heap.size, 0, none⟩ = some (.int .u16 k.1) := by simp [World.cell?, hB']
  have b1 : U.cell? ⟨w.heap.size, 1, none⟩ = some (.string k.2) := by simp [World.cell?, hB']
  have zf : ∀ i, U.frozen? ⟨w.heap.size + 1, i, none⟩ = false := fun i => by simp [World.frozen?, hZ']
  have TW := hid (TV.out.trans' TU)
  clear h hB hZ hZ' TU hE hB'
  unfold PT kv nv
  go_enter Tryz.func90, Tryz.ntmps90
  go_wp2
  unfold bx at hV
  rw [← hV]
  clear hV hf hk
  have t0 : Touch [] V V.drew := (Touch.refl _ _).drew
  go_region_held3 (fun w' => Touch [] V w') (repeat (first | assumption | exact Touch.refl _ _ | apply Touch.alloc | apply Touch.drew | (refine Touch.setCell ?_ (Or.inr (by simp)) _))) (fail)
  all_goals
    clear sA sB sC sL t0
    rw [← hU]
    clear hU
    go_wp2
    refine bodyPost_ret (v := .tuple #[.agg #[.int .u16 k.1, .string k.2, .int .i64 v.1.1, .int .i64 v.1.2.1, .int .i64 v.1.2.2.1, .int .i64 v.1.2.2.2, .int .i64 v.2], .bool true]) (by simp [results, Tryz.results90, go_sem, z0, z1, z2, z3, z4, z5, z6]) rfl ⟨rfl, ?_⟩
    refine TW.out.trans (G := [w.heap.size + 1]) ?_ (fun i hi => by simp only [List.mem_singleton] at hi; subst hi; exact Or.inr (Nat.le_succ _))
    exact tset7 _ _ _ _ _ _ _ _ _
theorem getM (w : World) (m : Nat) (F : List Nat) (c : Cf) (now : Int) (xs : List En) (h : Mq w m F c now xs) (k : K) (hk : Ok k) :
    Calls Tryz.prog 90 #[PT m, kv k] w fun e w' => e = .returned (.tuple #[(getS xs k).1, .bool (getS xs k).2]) ∧ Touch [] w w' := by
  obtain ⟨b, o, G, rfl, h⟩ := h
  unfold getS
  cases hf : fnd xs k with
  | none => exact get24_no w m b o G c now xs h k hk hf
  | some v => exact get24_yes w m b o G c now xs h k hk v hf
theorem seeM (w : World) (m : Nat) (F : List Nat) (c : Cf) (now : Int) (xs : List En) (h : Mq w m F c now xs) (k : K) (hk : Ok k) :
    Calls Tryz.prog 141 #[PT m, kv k] w fun e w' => e = .returned (lv (lookS c now xs k)) ∧ Touch [] w w' := by
  obtain ⟨b, o, G, rfl, h⟩ := h
  unfold lookS
  cases hf : fnd xs k with
  | none => exact see50_no w m b o G c now xs h k hk hf
  | some v => exact see50_yes w m b o G c now xs h k hk v hf
end Go.Proofs.YtpefbmheblfbeaaGreat.Me
