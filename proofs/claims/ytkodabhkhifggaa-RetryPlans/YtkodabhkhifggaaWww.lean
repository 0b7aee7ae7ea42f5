/- The contracts of the program's wait and Wait, of the document's Wait, and of the law's awake; their conditions: a plan of whole numbers, a seed below 2^64. -/
import Derived.Test.YtkodabhkhifggaaWck
import Derived.Test.YtkodabhkhifggaaWpt
namespace Go.Proofs.Ytkodabhkhifggaa
open Go.RowKit Go.Maps Go.ChangeMaps Go.ChangeShapes Go.WideShapes Go.ChangeAt
set_option linter.unusedVariables false
set_option linter.unusedSimpArgs false
/-- The wait ahead of what a lot takes off, behind the try m + 1. -/
def whl (r : Rt) (m : Nat) : Nat := (dbl r.ba m r.mo).toNat
def prt (r : Rt) (m : Nat) : Nat := whl r m * r.sp.toNat / 256
def lot (m s : Nat) : Nat := mixN ((s + (m + 1)) % 18446744073709551616) / 4294967296
def off (r : Rt) (m s : Nat) : Nat := prt r m * lot m s / 4294967296
def wt (r : Rt) (m s : Nat) : Int := (whl r m : Int) - (off r m s : Nat)
theorem lot_lt (m s : Nat) : lot m s ≤ 4294967295 := by
  have := mixN_lt ((s + (m + 1)) % 18446744073709551616)
  unfold lot
  omega
theorem whl_dbl {r : Rt} (h : may r = true) (m : Nat) : dbl r.ba m r.mo = (whl r m : Int) ∧ (whl r m : Int) ≤ r.mo := by
  obtain ⟨h1, h2, _⟩ := (may_iff r).1 h
  obtain ⟨b1, b2⟩ := dbl_bounds r.ba m r.mo h1 h2
  unfold whl
  omega
theorem div_mul_le {x a b : Nat} (h : a ≤ b) (hb : 0 < b) : x * a / b ≤ x := by
  have : x * a ≤ x * b := Nat.mul_le_mul_left _ h
  exact Nat.div_le_of_le_mul (by rw [Nat.mul_comm b]; exact this)
theorem off_le {r : Rt} (h : may r = true) (m s : Nat) : prt r m ≤ whl r m ∧ off r m s ≤ whl r m := by
  obtain ⟨h1, h2, h3, h4, h5, h6⟩ := (may_iff r).1 h
  have a1 : prt r m ≤ whl r m := div_mul_le (by omega) (by decide)
  have a2 : off r m s ≤ prt r m := div_mul_le (by have := lot_lt m s; omega) (by decide)
  omega
theorem wt_bounds {r : Rt} (h : may r = true) (m s : Nat) : 0 ≤ wt r m s ∧ wt r m s ≤ r.mo := by
  have := off_le h m s
  have := whl_dbl h m
  unfold wt
  omega
set_option maxHeartbeats 1000000 in
theorem wait_ (r : Rt) (hr : may r = true) (hk : r.ok) (m : Nat) (n : Int) (hn : n - 1 = (m : Int)) (hm : m < 63) (s : Nat) (hs : s < 18446744073709551616) (w : World) :
    Calls Try.prog 25 #[.agg r.cs, .int .i64 n, .int .u64 s] w fun e w' => e = .returned (.int .i64 (wt r m s)) ∧ Touch [] w w' := by
  obtain ⟨h1, h2, h3, h4, h5, h6⟩ := (may_iff r).1 hr
  obtain ⟨b1, b2⟩ := whl_dbl hr m
  obtain ⟨b3, b4⟩ := off_le hr m s
  have b5 := hk.2.1.hi
  have HD := hid (double_ r.ba r.mo m h1 h2 (by omega) (by omega))
  rw [b1] at HD
  obtain ⟨sp, hsp⟩ : ∃ sp : Nat, r.sp = (sp : Int) := ⟨r.sp.toNat, by omega⟩
  have hsp2 : r.sp.toNat = sp := by omega
  obtain ⟨z, Hz⟩ : ∃ z : Nat, Hid (z = (s + (m + 1)) % 18446744073709551616) := ⟨_, rfl⟩
  have hz : z < 18446744073709551616 := by have := Hz.out; omega
  have hz2 : IntKind.u64.wrap ((s : Int) + n) = (z : Int) := by rw [IntKind.wrap_u64]; have := Hz.out; omega
  have HM := hid (mix_ z hz)
  obtain ⟨L, HL⟩ : ∃ L : Nat, Hid (L = lot m s) := ⟨_, rfl⟩
  have hL : L ≤ 4294967295 := by rw [HL.out]; exact lot_lt m s
  have hL2 : ((mixN z : Nat) : Int) / 4294967296 = (L : Int) := by rw [HL.out]; unfold lot; rw [← Hz.out]; omega
  have H8 := hid (scale8_ (whl r m) sp (by omega) (by omega))
  have ep : whl r m * sp / 256 = prt r m := by unfold prt; rw [hsp2]
  rw [ep] at H8
  have H32 := hid (scale32_ (prt r m) L (by omega) hL)
  have eo : prt r m * L / 4294967296 = off r m s := by unfold off; rw [HL.out]
  rw [eo] at H32
  have hO : Hid (wt r m s = (whl r m : Int) - (off r m s : Nat)) := hid rfl
  have n1 : 1 ≤ n := by omega
  have hsp3 : (sp : Int) ≤ 256 := by omega
  have n2 : n ≤ 63 := by omega
  have w1 : (whl r m : Int) ≤ 9223372036854775807 := by omega
  have w2 : (off r m s : Int) ≤ (whl r m : Int) := by omega
  unfold Rt.cs
  rw [hsp]
  clear ep eo hsp hsp2 b1 b2 b3 b4 b5 h1 h2 h3 h4 h5 h6 hr
  generalize whl r m = Wh at *
  generalize prt r m = P at *
  generalize off r m s = O at *
  go_enter Try.func25, Try.ntmps25
  go_wp2_with (first
    | (go_at_call 35; refine (HD.out _).mono ?_; rintro e w2 ⟨rfl, e2⟩; rw [e2]; clear e2 w2)
    | (go_at_call_of 36 (#[.int .u64 (Wh : Int), .int .u64 (sp : Int), .int .i64 8] : Array Value); refine (H8.out _).mono ?_; rintro e w3 ⟨rfl, t3⟩; have T3 := hid t3; clear t3)
    | (go_at_call 37; refine (HM.out _).mono ?_; rintro e w4 ⟨rfl, e4⟩; rw [e4]; clear e4 w4)
    | (go_at_call_of 36 (#[.int .u64 (P : Int), .int .u64 (L : Int), .int .i64 32] : Array Value); refine (H32.out _).mono ?_; rintro e w5 ⟨rfl, t5⟩; have T5 := hid t5; clear t5))
  go_ret
  exact ⟨by rw [hO.out]; rfl, (((Touch.refl _ _).alloc _).trans' T3.out).trans' T5.out⟩
/-- What Wait answers: the wait, whether there is a further try, and an error. -/
def wW (r : Rt) (n : Int) (s : Nat) : Int := if may r ∧ 1 ≤ n ∧ n < r.tr then wt r (n - 1).toNat s else 0
def wB (r : Rt) (n : Int) : Bool := decide (may r ∧ 1 ≤ n ∧ n < r.tr)
def wE (r : Rt) (n : Int) : Int := if may r then (if n < 1 then 1 else 0) else 170
theorem w_no {r : Rt} {n : Int} (h : ¬ (may r = true ∧ 1 ≤ n ∧ n < r.tr)) (s : Nat) : wW r n s = 0 ∧ wB r n = false := by
  unfold wW wB
  rw [if_neg h]
  exact ⟨rfl, decide_eq_false h⟩
theorem w_yes {r : Rt} {n : Int} (h : may r = true ∧ 1 ≤ n ∧ n < r.tr) (s : Nat) : wW r n s = wt r (n - 1).toNat s ∧ wB r n = true ∧ wE r n = 0 := by
  unfold wW wB wE
  rw [if_pos h, if_pos h.1, if_neg (by omega)]
  exact ⟨rfl, decide_eq_true h, rfl⟩
set_option maxHeartbeats 1000000 in
theorem Wait_ (r : Rt) (hk : r.ok) (n : Int) (s : Nat) (hs : s < 18446744073709551616) (w : World) :
    Calls Try.prog 7 #[.agg r.cs, .int .i64 n, .int .u64 s] w fun e w' => e = .returned (.tuple #[.int .i64 (wW r n s), .bool (wB r n), .int .i64 (wE r n)]) ∧ Touch [] w w' := by
  have HC := hid (check_ r)
  cases hm : may r with
  | false =>
    rw [show chk r = 170 by unfold chk; rw [hm]; rfl] at HC
    obtain ⟨e1, e2⟩ := w_no (r := r) (n := n) (by simp [hm]) s
    rw [e1, e2, show wE r n = 170 by unfold wE; rw [hm]; rfl]
    clear e1 e2
    unfold Rt.cs at *
    go_enter Try.func7, Try.ntmps7
    go_wp2_with (go_at_call 12; refine (HC.out _).mono ?_; rintro e w2 ⟨rfl, t2⟩; have c2 := cell_at (j := 2) (v := .int .i64 r.tr) (t2.keep (heap_alloc_new w _) (by simp)) rfl; have T2 := hid t2; clear t2)
    exact bodyPost_ret (v := .tuple #[.int .i64 0, .bool false, .int .i64 170]) (by simp [results, Try.results7, go_sem]) rfl ⟨rfl, ((Touch.refl _ _).alloc _).trans' T2.out⟩
  | true =>
    rw [show chk r = 0 by unfold chk; rw [hm]; rfl] at HC
    by_cases h1 : n < 1
    · skip
      obtain ⟨e1, e2⟩ := w_no (r := r) (n := n) (by intro h; omega) s
      rw [e1, e2, show wE r n = 1 by unfold wE; rw [hm, if_pos h1]; rfl]
      clear e1 e2
      unfold Rt.cs at *
      go_enter Try.func7, Try.ntmps7
      go_wp2_with (go_at_call 12; refine (HC.out _).mono ?_; rintro e w2 ⟨rfl, t2⟩; have c2 := cell_at (j := 2) (v := .int .i64 r.tr) (t2.keep (heap_alloc_new w _) (by simp)) rfl; have T2 := hid t2; clear t2)
      exact bodyPost_ret (v := .tuple #[.int .i64 0, .bool false, .int .i64 1]) (by simp [results, Try.results7, go_sem]) rfl ⟨rfl, ((Touch.refl _ _).alloc _).trans' T2.out⟩
    · by_cases h2 : r.tr ≤ n
      · skip
        obtain ⟨e1, e2⟩ := w_no (r := r) (n := n) (by intro h; omega) s
        rw [e1, e2, show wE r n = 0 by unfold wE; rw [hm, if_neg h1]; rfl]
        clear e1 e2
        unfold Rt.cs at *
        go_enter Try.func7, Try.ntmps7
        go_wp2_with (go_at_call 12; refine (HC.out _).mono ?_; rintro e w2 ⟨rfl, t2⟩; have c2 := cell_at (j := 2) (v := .int .i64 r.tr) (t2.keep (heap_alloc_new w _) (by simp)) rfl; have T2 := hid t2; clear t2)
        exact bodyPost_ret (v := .tuple #[.int .i64 0, .bool false, .int .i64 0]) (by simp [results, Try.results7, go_sem]) rfl ⟨rfl, ((Touch.refl _ _).alloc _).trans' T2.out⟩
      · obtain ⟨e1, e2, e3⟩ := w_yes (r := r) (n := n) ⟨hm, by omega, by omega⟩ s
        rw [e1, e2, e3]
        clear e1 e2 e3
        obtain ⟨_, _, _, h64, _⟩ := (may_iff r).1 hm
        have HW := hid (wait_ r hm hk (n - 1).toNat n (by omega) (by omega) s hs)
        generalize wt r (n - 1).toNat s = V at *
        clear h64 hm
        unfold Rt.cs at *
        go_enter Try.func7, Try.ntmps7
        go_wp2_with (first
          | (go_at_call 12; refine (HC.out _).mono ?_; rintro e w2 ⟨rfl, t2⟩; have hb2 := t2.keep (heap_alloc_new w _) (by simp); have c0 := cell_at (j := 0) (v := .int .i64 r.ba) hb2 rfl; have c1 := cell_at (j := 1) (v := .int .i64 r.mo) hb2 rfl; have c2 := cell_at (j := 2) (v := .int .i64 r.tr) hb2 rfl; have c3 := cell_at (j := 3) (v := .int .i64 r.sp) hb2 rfl; have T2 := hid t2; clear t2 hb2)
          | (go_at_call 25; refine (HW.out _).mono ?_; rintro e w3 ⟨rfl, t3⟩; have T3 := hid t3; clear t3))
        exact bodyPost_ret (v := .tuple #[.int .i64 V, .bool true, .int .i64 0]) (by simp [results, Try.results7, go_sem]) rfl ⟨rfl, (((Touch.refl _ _).alloc _).trans' T2.out).trans' T3.out⟩
set_option maxHeartbeats 1000000 in
set_option maxRecDepth 20000 in
theorem rWait_ (r : Rt) (hk : r.ok) (n : Int) (s : Nat) (hs : s < 18446744073709551616) (w : World) :
    Calls Try.prog 8 #[.agg r.cs, .int .i64 n, .int .u64 s] w fun e w' => e = .returned (.tuple #[.int .i64 (wW r n s), .bool (wB r n), .int .i64 (wE r n)]) ∧ Touch [] w w' := by
  have HC := hid (may_ r)
  cases hm : may r with
  | false =>
    rw [hm] at HC
    obtain ⟨e1, e2⟩ := w_no (r := r) (n := n) (by simp [hm]) s
    rw [e1, e2, show wE r n = 170 by unfold wE; rw [hm]; rfl]
    clear e1 e2
    unfold Rt.cs at *
    go_enter Try.func8, Try.ntmps8
    go_wp2_with (go_at_call 10; refine (HC.out _).mono ?_; rintro e w2 ⟨rfl, t2⟩; have c2 := cell_at (j := 2) (v := .int .i64 r.tr) (t2.keep (heap_alloc_new w _) (by simp)) rfl; have T2 := hid t2; clear t2)
    exact bodyPost_ret (v := .tuple #[.int .i64 0, .bool false, .int .i64 170]) (by simp [results, Try.results8, go_sem]) rfl ⟨rfl, ((Touch.refl _ _).alloc _).trans' T2.out⟩
  | true =>
    rw [hm] at HC
    by_cases h1 : n < 1
    · skip
      obtain ⟨e1, e2⟩ := w_no (r := r) (n := n) (by intro h; omega) s
      rw [e1, e2, show wE r n = 1 by unfold wE; rw [hm, if_pos h1]; rfl]
      clear e1 e2
      unfold Rt.cs at *
      go_enter Try.func8, Try.ntmps8
      go_wp2_with (go_at_call 10; refine (HC.out _).mono ?_; rintro e w2 ⟨rfl, t2⟩; have c2 := cell_at (j := 2) (v := .int .i64 r.tr) (t2.keep (heap_alloc_new w _) (by simp)) rfl; have T2 := hid t2; clear t2)
      exact bodyPost_ret (v := .tuple #[.int .i64 0, .bool false, .int .i64 1]) (by simp [results, Try.results8, go_sem]) rfl ⟨rfl, ((Touch.refl _ _).alloc _).trans' T2.out⟩
    · by_cases h2 : r.tr ≤ n
      · skip
        obtain ⟨e1, e2⟩ := w_no (r := r) (n := n) (by intro h; omega) s
        rw [e1, e2, show wE r n = 0 by unfold wE; rw [hm, if_neg h1]; rfl]
        clear e1 e2
        unfold Rt.cs at *
        go_enter Try.func8, Try.ntmps8
        go_wp2_with (go_at_call 10; refine (HC.out _).mono ?_; rintro e w2 ⟨rfl, t2⟩; have c2 := cell_at (j := 2) (v := .int .i64 r.tr) (t2.keep (heap_alloc_new w _) (by simp)) rfl; have T2 := hid t2; clear t2)
        exact bodyPost_ret (v := .tuple #[.int .i64 0, .bool false, .int .i64 0]) (by simp [results, Try.results8, go_sem]) rfl ⟨rfl, ((Touch.refl _ _).alloc _).trans' T2.out⟩
      · obtain ⟨e1, e2, e3⟩ := w_yes (r := r) (n := n) ⟨hm, by omega, by omega⟩ s
        rw [e1, e2, e3]
        clear e1 e2 e3
        obtain ⟨h1', h2', h3', h4', h5', h6'⟩ := (may_iff r).1 hm
        obtain ⟨m, hn⟩ : ∃ m : Nat, n - 1 = (m : Int) := ⟨(n - 1).toNat, by omega⟩
        rw [show (n - 1).toNat = m by omega]
        have hm63 : m < 63 := by omega
        obtain ⟨b1, b2⟩ := whl_dbl hm m
        obtain ⟨b3, b4⟩ := off_le hm m s
        have b5 := hk.2.1.hi
        have b6 := hk.1.hi
        have HD := hid (rdouble_ r.ba r.mo m h1' (by omega) h2' (by omega) (by omega))
        rw [b1] at HD
        obtain ⟨sp, hsp⟩ : ∃ sp : Nat, r.sp = (sp : Int) := ⟨r.sp.toNat, by omega⟩
        have hsp2 : r.sp.toNat = sp := by omega
        obtain ⟨z, Hz⟩ : ∃ z : Nat, Hid (z = (s + (m + 1)) % 18446744073709551616) := ⟨_, rfl⟩
        have hz : z < 18446744073709551616 := by have := Hz.out; omega
        have hz2 : IntKind.u64.wrap ((s : Int) + n) = (z : Int) := by rw [IntKind.wrap_u64]; have := Hz.out; omega
        have HM := hid (rmix_ z hz)
        obtain ⟨L, HL⟩ : ∃ L : Nat, Hid (L = lot m s) := ⟨_, rfl⟩
        have hL : L ≤ 4294967295 := by rw [HL.out]; exact lot_lt m s
        have hL2 : ((mixN z : Nat) : Int) / 4294967296 = (L : Int) := by rw [HL.out]; unfold lot; rw [← Hz.out]; omega
        have hL3 : ((mixN z : Nat) : Int) < 18446744073709551616 := by have := mixN_lt z; omega
        have H8 := hid (part_ (whl r m) sp 8 (by omega) (by omega) (by omega))
        have ep : bitsOf (whl r m * sp) 8 64 = prt r m := by
          unfold prt
          rw [hsp2]
          refine bitsOf_64 _ _ ?_
          have : whl r m * sp ≤ 9223372036854775807 * 256 := Nat.mul_le_mul (by omega) (by omega)
          rw [show (2 : Nat) ^ 8 = 256 from by decide]
          omega
        rw [ep] at H8
        have H32 := hid (part_ (prt r m) L 32 (by omega) (by omega) (by omega))
        have eo : bitsOf (prt r m * L) 32 64 = off r m s := by
          unfold off
          rw [← HL.out]
          refine bitsOf_64 _ _ ?_
          have : prt r m * L ≤ 9223372036854775807 * 4294967296 := Nat.mul_le_mul (by omega) (by omega)
          rw [show (2 : Nat) ^ 32 = 4294967296 from by decide]
          omega
        rw [eo] at H32
        rw [show wt r m s = (whl r m : Int) - (off r m s : Nat) from rfl]
        have n1 := hid (show 1 ≤ n by omega)
        have hsp3 := hid (show (sp : Int) ≤ 256 by omega)
        have n2 := hid (show n ≤ 63 by omega)
        have Hn := hid hn
        have w1 : (whl r m : Int) ≤ 9223372036854775807 := by omega
        have w2 : (off r m s : Int) ≤ (whl r m : Int) := by omega
        unfold Rt.cs at *
        rw [hsp] at HC ⊢
        have HZ := hid (And.intro hz2 (And.intro hL2 (And.intro hL3 (And.intro w1 w2))))
        clear hn hz2 hL2 hL3 w1 w2 hz hL hs hm63
        clear ep eo hsp hsp2 b1 b2 b3 b4 b5 b6 h1' h2' h3' h4' h5' h6' hm
        generalize whl r m = Wh at *
        generalize prt r m = P at *
        generalize off r m s = O at *
        go_enter Try.func8, Try.ntmps8
        go_upto_region 7 with (go_at_call 10; refine (HC.out _).mono ?_; rintro e w2 ⟨rfl, t2⟩; have hb2 := t2.keep (heap_alloc_new w _) (by simp); have c0 := cell_at (j := 0) (v := .int .i64 r.ba) hb2 rfl; have c1 := cell_at (j := 1) (v := .int .i64 r.mo) hb2 rfl; have c2 := cell_at (j := 2) (v := .int .i64 r.tr) hb2 rfl; have c3 := cell_at (j := 3) (v := .int .i64 (sp : Int)) hb2 rfl; have T2 := hid t2; clear t2 hb2)
        have n1 := n1.out
        have n2 := n2.out
        have hn := Hn.out
        have hsp3 := hsp3.out
        clear h1 h2
        obtain ⟨hz2, hL2, hL3, w1, w2⟩ := HZ.out
        go_wp2_with (first
          | (go_at_call 26; refine (HD.out _).mono ?_; rintro e w2 ⟨rfl, e2⟩; rw [e2]; clear e2 w2)
          | (go_at_call_of 27 (#[.int .u64 (Wh : Int), .int .u64 (sp : Int), .int .i64 8] : Array Value); refine (H8.out _).mono ?_; rintro e w3 ⟨rfl, t3⟩; have T3 := hid t3; clear t3)
          | (go_at_call 28; refine (HM.out _).mono ?_; rintro e w4 ⟨rfl, e4⟩; rw [e4]; clear e4 w4)
          | (go_at_call_of 27 (#[.int .u64 (P : Int), .int .u64 (L : Int), .int .i64 32] : Array Value); refine (H32.out _).mono ?_; rintro e w5 ⟨rfl, t5⟩; have T5 := hid t5; clear t5))
        exact bodyPost_ret (v := .tuple #[.int .i64 ((Wh : Int) - (O : Nat)), .bool true, .int .i64 0]) (by simp [results, Try.results8, go_sem]) rfl ⟨rfl, ((((Touch.refl _ _).alloc _).trans' T2.out).trans' T3.out).trans' T5.out⟩
theorem awake_ (w : World) : Calls Try.prog 11 #[] w fun e w' => e = .returned (.bool true) ∧ Touch [] w w' := by
  have HW := hid (Wait_ ⟨10, 50, 5, 0⟩ ⟨W64.mk (by decide) (by decide), W64.mk (by decide) (by decide), W64.mk (by decide) (by decide), W64.mk (by decide) (by decide)⟩ 2 0 (by decide))
  rw [show wW ⟨10, 50, 5, 0⟩ 2 0 = 20 by decide, show wB ⟨10, 50, 5, 0⟩ 2 = true by decide, show wE ⟨10, 50, 5, 0⟩ 2 = 0 by decide] at HW
  unfold Rt.cs at HW
  go_enter Try.func11, Try.ntmps11
  go_wp2_with (go_at_call 7; refine (HW.out _).mono ?_; rintro e w3 ⟨rfl, t3⟩; have T3 := hid t3; clear t3)
  go_ret
  exact ⟨rfl, T3.out⟩
end Go.Proofs.Ytkodabhkhifggaa
