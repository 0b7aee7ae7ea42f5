/- The contracts of the program's and the document's hash of a key, mix and fold, by plain numbers; a key's space is a number of 16 bits, a name's length fits. -/
import Derived.Test.YtbadlkjffelkhaaMpk
import Derived.Test.YtbadlkjffelkhaaXnm
import Derived.Laws.Bits64b
import Derived.Laws.IdiomStrings
import Derived.WalkLawsBesides
namespace Go.Proofs.Ytbadlkjffelkhaa.Sk
open Go.RowKit Go.Sort
set_option linter.unusedVariables false
theorem ret2 {k1 k2 : IntKind} {a b a' b' : Int} (h1 : a = a') (h2 : b = b') : Ending.returned (.tuple #[.int k1 a, .int k2 b]) = .returned (.tuple #[.int k1 a', .int k2 b']) := by rw [h1, h2]
theorem take_snoc (s : ByteArray) (k : Nat) (h : k < s.size) : s.data.toList.take (k + 1) = s.data.toList.take k ++ [s[k]] := by
  rw [List.take_succ_eq_append_getElem (by simpa using h)]; rfl
def byt (x : Int) : UInt8 := UInt8.ofNat x.toNat
theorem byt_toNat (x : Int) (h0 : 0 ≤ x) (h1 : x ≤ 255) : ((byt x).toNat : Int) = x := by
  unfold byt
  rw [UInt8.toNat_ofNat']
  omega
def hd3 (a : Int) (s : ByteArray) : ByteArray := ⟨#[byt (a % 256), byt (a / 256), byt ((s.size : Int) % 256)]⟩
theorem hd3_size (a : Int) (s : ByteArray) : (hd3 a s).size = 3 := rfl

theorem head65 (a : Int) (s : ByteArray) (w : World) (h0 : 0 ≤ a) (h1 : a ≤ 65535) (hs : s.size ≤ 9223372036854775807) :
    Calls Try.prog 48 #[.agg #[.int .u16 a, .string s]] w fun e w' => e = .returned (.agg #[.int .u8 (a % 256), .int .u8 (a / 256), .int .u8 ((s.size : Int) % 256)]) ∧ ∃ o1 o2, w' = (w.alloc o1).alloc o2 := by
  go_enter Try.func48, Try.ntmps48
  go_wp2
  exact bodyPost_ret (v := .agg #[.int .u8 (a % 256), .int .u8 (a / 256), .int .u8 ((s.size : Int) % 256)]) (by simp [results, Try.results48, go_sem]) rfl ⟨rfl, _, _, rfl⟩

theorem ret_int {k : IntKind} {a b : Int} (h : a = b) : Ending.returned (.int k a) = .returned (.int k b) := by rw [h]
theorem mod_lt_ (a : Nat) : a % 18446744073709551616 < 18446744073709551616 := Nat.mod_lt _ (by omega)
def hStep (h : Nat) (c : UInt8) : Nat := (h ^^^ c.toNat) * 1099511628211 % 18446744073709551616
def hFold (a : Nat) (l : List UInt8) : Nat := l.foldl hStep a
theorem hFold_lt (a : Nat) (ha : a < 18446744073709551616) (l : List UInt8) : hFold a l < 18446744073709551616 := by
  unfold hFold
  induction l generalizing a with
  | nil => exact ha
  | cons c l ih => exact ih _ (mod_lt_ _)
theorem foldl_snoc (f : Nat → UInt8 → Nat) (a : Nat) (l : List UInt8) (c : UInt8) : (l ++ [c]).foldl f a = f (l.foldl f a) c := by simp
theorem foldl_app (f : Nat → UInt8 → Nat) (a : Nat) (l m : List UInt8) : (l ++ m).foldl f a = m.foldl f (l.foldl f a) := by simp
theorem hFold_snoc (a : Nat) (l : List UInt8) (c : UInt8) : hFold a (l ++ [c]) = hStep (hFold a l) c := foldl_snoc hStep a l c
theorem hFold_app (a : Nat) (l m : List UInt8) : hFold a (l ++ m) = hFold (hFold a l) m := foldl_app hStep a l m
theorem h_step (h : Nat) (c : UInt8) (hh : h < 18446744073709551616) (z : Int) (hz : IntKind.u64.wrap z = (c.toNat : Int)) : IntKind.u64.wrap (bits .xor .u64 (h : Int) (IntKind.u64.wrap z) * 1099511628211) = ((hStep h c : Nat) : Int) := by
  have hc : c.toNat < 256 := c.toNat_lt
  rw [hz]
  rw [bits_xor_u64_nat h c.toNat hh (by omega), IntKind.wrap_u64]
  unfold hStep
  rw [Int.natCast_emod, Int.natCast_mul]
  rfl
theorem fold3 (f : Nat → UInt8 → Nat) (a : Nat) (p q r : UInt8) : ∃ H : Nat → Nat, H 0 = a ∧ H 1 = f (H 0) p ∧ H 2 = f (H 1) q ∧ H 3 = f (H 2) r ∧ [p, q, r].foldl f a = H 3 :=
  ⟨fun k => ([p, q, r].take k).foldl f a, rfl, rfl, rfl, rfl, rfl⟩
theorem hStep_lt (h : Nat) (c : UInt8) : hStep h c < 18446744073709551616 := mod_lt_ _
theorem h_step' (h : Nat) (c : UInt8) (hh : h < 18446744073709551616) : IntKind.u64.wrap (bits .xor .u64 (h : Int) (c.toNat : Int) * 1099511628211) = ((hStep h c : Nat) : Int) := by
  have hc : c.toNat < 256 := c.toNat_lt
  rw [bits_xor_u64_nat h c.toNat hh (by omega), IntKind.wrap_u64]
  unfold hStep
  rw [Int.natCast_emod, Int.natCast_mul]
  rfl
def hMid (h : Nat) : Nat := (h ^^^ h / 4294967296) * 11400714819323198485 % 18446744073709551616
def hEnd (h : Nat) : Nat := h ^^^ h / 536870912
theorem hEnd_lt (h : Nat) (hh : h < 18446744073709551616) : hEnd h < 18446744073709551616 := by
  unfold hEnd
  exact Nat.xor_lt_two_pow (n := 64) (by omega) (by omega)
theorem h_mid (h : Nat) (hh : h < 18446744073709551616) : IntKind.u64.wrap (bits .xor .u64 (h : Int) ((h : Int) / 4294967296) * 11400714819323198485) = ((hMid h : Nat) : Int) := by
  rw [show (h : Int) / 4294967296 = ((h / 4294967296 : Nat) : Int) by omega, bits_xor_u64_nat h (h / 4294967296) hh (by omega), IntKind.wrap_u64]
  unfold hMid
  rw [Int.natCast_emod, Int.natCast_mul]
  rfl
theorem h_end (h : Nat) (hh : h < 18446744073709551616) : bits .xor .u64 (h : Int) ((h : Int) / 536870912) = ((hEnd h : Nat) : Int) := by
  rw [show (h : Int) / 536870912 = ((h / 536870912 : Nat) : Int) by omega, bits_xor_u64_nat h (h / 536870912) hh (by omega)]
  rfl
def hStart : Nat := 14695981039346656037
theorem hStart_lt : hStart < 18446744073709551616 := by unfold hStart; omega
def hashK (a : Int) (s : ByteArray) : Nat := hEnd (hMid (hFold hStart (hd3 a s ++ s).data.toList))
theorem hashK_lt (a : Int) (s : ByteArray) : hashK a s < 18446744073709551616 := hEnd_lt _ (mod_lt_ _)

set_option maxHeartbeats 1000000 in
theorem hash50 (a : Int) (s : ByteArray) (w : World) (h0 : 0 ≤ a) (h1 : a ≤ 65535) (hs : s.size ≤ 9223372036854775807) :
    Calls Try.prog 34 #[.agg #[.int .u16 a, .string s]] w fun e w' => e = .returned (.int .u64 (hashK a s : Nat)) ∧ ∃ o1 o2 o3 o4, w' = (((w.alloc o1).alloc o2).alloc o3).alloc o4 := by
  have R : Hid _ := fun w => head65 a s w h0 h1 (by omega)
  obtain ⟨p, hp⟩ : ∃ p, p = byt (a % 256) := ⟨_, rfl⟩
  obtain ⟨q, hq⟩ : ∃ q, q = byt (a / 256) := ⟨_, rfl⟩
  obtain ⟨r, hr⟩ : ∃ r, r = byt ((s.size : Int) % 256) := ⟨_, rfl⟩
  have hp' : a % 256 = (p.toNat : Int) := by rw [hp, byt_toNat _ (by omega) (by omega)]
  have hq' : a / 256 = (q.toNat : Int) := by rw [hq, byt_toNat _ (by omega) (by omega)]
  have hr' : (s.size : Int) % 256 = (r.toNat : Int) := by rw [hr, byt_toNat _ (by omega) (by omega)]
  have HD : hd3 a s = ⟨#[p, q, r]⟩ := by rw [hp, hq, hr]; rfl
  have HK : Hid (hashK a s = hEnd (hMid (hFold (hFold hStart [p, q, r]) s.data.toList))) := by
    show hEnd (hMid (hFold hStart (hd3 a s ++ s).data.toList)) = _
    rw [HD, ← hFold_app]
    have e : ((⟨#[p, q, r]⟩ : ByteArray) ++ s).data.toList = [p, q, r] ++ s.data.toList := by simp [ByteArray.data_append]
    rw [e]
  rw [hp', hq', hr'] at R
  generalize hashK a s = hk at *
  clear HD hp hq hr hp' hq' hr' h0 h1
  have P1 := p.toNat_lt
  have Q1 := q.toNat_lt
  have R1 := r.toNat_lt
  go_enter Try.func34, Try.ntmps34
  go_wp2_with fail
  refine (R.out _).mono ?_
  rintro e w1 ⟨rfl, o2, o3, g1'⟩
  have G : Hid (∃ o1 o2 o3, w1 = ((w.alloc o1).alloc o2).alloc o3) := ⟨_, o2, o3, g1'⟩
  have g1 : Touch [] (w.alloc (.cells #[.int .u16 a, .string s] 43)) w1 := by rw [g1']; exact ((Touch.refl _ _).alloc _).alloc _
  clear g1'
  have c1 : ∀ o, (w1.alloc o).cell? ⟨w.heap.size, 1, none⟩ = some (.string s) := fun o => cell_at ((g1.alloc o).keep (heap_alloc_new w _) (by simp)) rfl
  clear g1
  go_wp2_with fail
  obtain ⟨H, h_0, h_1, h_2, h_3, h_f⟩ := fold3 hStep hStart p q r
  have l0 : H 0 < 18446744073709551616 := by rw [h_0]; exact hStart_lt
  have l1 : H 1 < 18446744073709551616 := by rw [h_1]; exact hStep_lt _ _
  have l2 : H 2 < 18446744073709551616 := by rw [h_2]; exact hStep_lt _ _
  have l3 : H 3 < 18446744073709551616 := by rw [h_3]; exact hStep_lt _ _
  have H0 : Hid ((14695981039346656037 : Int) = ((H 0 : Nat) : Int)) := by rw [h_0]; show _ = _; unfold hStart; rfl
  have s0 : IntKind.u64.wrap (bits .xor .u64 ((H 0 : Nat) : Int) (p.toNat : Int) * 1099511628211) = ((H 1 : Nat) : Int) := by rw [h_step' _ _ l0, h_1]
  have s1 : IntKind.u64.wrap (bits .xor .u64 ((H 1 : Nat) : Int) (q.toNat : Int) * 1099511628211) = ((H 2 : Nat) : Int) := by rw [h_step' _ _ l1, h_2]
  have s2 : IntKind.u64.wrap (bits .xor .u64 ((H 2 : Nat) : Int) (r.toNat : Int) * 1099511628211) = ((H 3 : Nat) : Int) := by rw [h_step' _ _ l2, h_3]
  have HE : Hid (hFold hStart [p, q, r] = H 3) := h_f
  have HL : Hid (H 3 < 18446744073709551616) := l3
  clear h_0 h_1 h_2 h_3 h_f l0 l1 l2 l3
  go_loop [3, 9] (fun h i => ∃ k : Nat, k ≤ 3 ∧ i = .int .i64 k ∧ h = .int .u64 (H k : Nat)) (fun _ i => 3 - (intOf i).toNat)
  case atStart => exact ⟨0, Nat.zero_le _, rfl, by rw [← H0.out]⟩
  case round =>
    obtain ⟨k, hk', rfl, rfl⟩ := hrel
    by_cases hlt : k < 3
    · have : k = 0 ∨ k = 1 ∨ k = 2 := by omega
      rcases this with rfl | rfl | rfl
      · clear s1 s2
        go_wp2
        go_round
        case rel => exact ⟨1, by omega, rfl, rfl⟩
        case measure => simp [intOf]
      · clear s0 s2
        go_wp2
        go_round
        case rel => exact ⟨2, by omega, rfl, rfl⟩
        case measure => simp [intOf]
      · clear s0 s1
        go_wp2
        go_round
        case rel => exact ⟨3, by omega, rfl, rfl⟩
        case measure => simp [intOf]
    · obtain rfl : k = 3 := by omega
      have h3 := HL.out
      rw [HE.out] at HK
      clear s0 s1 s2 HL HE H0
      generalize H 3 = B at *
      go_wp2
      go_loop [3, 23] (fun h i => ∃ k : Nat, k ≤ s.size ∧ i = .int .i64 k ∧ h = .int .u64 (hFold B (s.data.toList.take k) : Nat)) (fun _ i => s.size - (intOf i).toNat)
      case atStart => exact ⟨0, Nat.zero_le _, rfl, rfl⟩
      case round =>
        obtain ⟨k, hk', rfl, rfl⟩ := hrel
        have hlt0 := hFold_lt B h3 (s.data.toList.take k)
        by_cases hlt : k < s.size
        · have hst := h_step (hFold B (s.data.toList.take k)) s[k] hlt0 (s[k].toNat : Int) (by have := s[k].toNat_lt; rw [IntKind.wrap_u64]; omega)
          rw [← hFold_snoc, ← take_snoc s k hlt] at hst
          clear hlt0
          go_wp2
          go_round
          case rel => exact ⟨k + 1, by omega, by go_num, rfl⟩
          case measure => simp [intOf]; omega
        · have e : s.data.toList.take k = s.data.toList := List.take_of_length_le (by show s.size ≤ k; omega)
          rw [e] at hlt0 ⊢
          generalize hFold B s.data.toList = H at *
          have m1 := h_mid H hlt0
          have m2 := h_end (hMid H) (mod_lt_ _)
          have M1 : hMid H < 18446744073709551616 := mod_lt_ _
          go_wp2
          go_ret
          obtain ⟨o1, o2, o3, hw⟩ := G.out
          exact ⟨ret_int (by rw [HK.out]), o1, o2, o3, _, by rw [hw]⟩
theorem conv3 (W : World) (b cap : Nat) (x y z : Int) (hx : 0 ≤ x ∧ x ≤ 255) (hy : 0 ≤ y ∧ y ≤ 255) (hz : 0 ≤ z ∧ z ≤ 255)
    (c0 : W.cell? ⟨b, 0, none⟩ = some (.int .u8 x)) (c1 : W.cell? ⟨b, 1, none⟩ = some (.int .u8 y)) (c2 : W.cell? ⟨b, 2, none⟩ = some (.int .u8 z)) :
    (convert 76 9 (.slice (some ⟨b, 0, none⟩) 3 cap)).run Try.prog W = .ok (.string ⟨#[byt x, byt y, byt z]⟩) W := by
  refine run_convert_bytes_back W 76 9 5 ⟨b, 0, none⟩ cap [byt x, byt y, byt z] Try.underlying76 Try.underlying5 Try.underlying9 fun j hj => ?_
  match j, hj with
  | 0, _ => simp only [List.getElem_cons_zero]; rw [byt_toNat x hx.1 hx.2]; exact c0
  | 1, _ => simp only [List.getElem_cons_zero, List.getElem_cons_succ]; rw [byt_toNat y hy.1 hy.2]; exact c1
  | 2, _ => simp only [List.getElem_cons_zero, List.getElem_cons_succ]; rw [byt_toNat z hz.1 hz.2]; exact c2
theorem add_hd (a : Int) (s : ByteArray) (hs : s.size ≤ 9223372036854775800) (w : World) : (Op.stringOp .add (hd3 a s) s).run Try.prog w = .ok (.string (hd3 a s ++ s)) w := run_string_add_sum w _ _ (by rw [hd3_size]; omega)

theorem ref17 (a : Int) (s : ByteArray) (w : World) (h0 : 0 ≤ a) (h1 : a ≤ 65535) (hs : s.size ≤ 9223372036854775800) :
    Calls Try.prog 56 #[.agg #[.int .u16 a, .string s]] w fun e w' => e = .returned (.string (hd3 a s ++ s)) ∧ Touch [] w w' := by
  have hcv := conv3 ((w.alloc (.cells #[.int .u16 a, .string s] 50)).alloc (.cells #[.int .u8 (a % 256), .int .u8 (a / 256), .int .u8 ((s.size : Int) % 256)] 5)) (w.heap.size + 1) 3 (a % 256) (a / 256) ((s.size : Int) % 256) (by omega) (by omega) (by omega)
    (by go_simp) (by go_simp) (by go_simp)
  rw [show (⟨#[byt (a % 256), byt (a / 256), byt ((s.size : Int) % 256)]⟩ : ByteArray) = hd3 a s from rfl] at hcv
  have had := add_hd a s hs
  have hdv : IntKind.u16.wrap (a.tdiv 256) = a / 256 := by rw [IntKind.wrap_u16, Int.tdiv_eq_ediv_of_nonneg h0]; omega
  have hmd : a / 256 % 256 = a / 256 := by omega
  clear hs
  go_enter Try.func56, Try.ntmps56
  go_wp2
  go_ret
  exact ⟨rfl, ((Touch.refl _ _).alloc _).alloc _⟩

theorem over38 (x n : Nat) (hx : x < 18446744073709551616) (hn : n ≤ 64) (w : World) :
    Calls Try.prog 57 #[.int .u64 x, .int .i64 n] w fun e w' => e = .returned (.int .u64 ((x / 2 ^ n : Nat) : Int)) ∧ w' = w := by
  go_enter Try.func57, Try.ntmps57
  go_wp2
  go_loop [0, 5] (fun v i => ∃ k y : Nat, k ≤ n ∧ i = .int .i64 k ∧ v = .int .u64 y ∧ y < 18446744073709551616 ∧ Hid (y = x / 2 ^ k)) (fun _ i => n - (intOf i).toNat)
  case atStart => exact ⟨0, x, Nat.zero_le _, rfl, rfl, hx, by show x = x / 2 ^ 0; simp⟩
  case round =>
    obtain ⟨k, y, hk, rfl, rfl, hy, HY⟩ := hrel
    have hq : IntKind.u64.wrap ((y : Int).tdiv 2) = ((y / 2 : Nat) : Int) := by rw [Int.tdiv_eq_ediv_of_nonneg (by omega), IntKind.wrap_u64]; omega
    by_cases hlt : k < n
    · have H2 : Hid (y / 2 = x / 2 ^ (k + 1)) := by show _ = _; rw [HY.out, Nat.div_div_eq_div_mul, Nat.pow_succ]
      go_wp2
      go_round
      case rel => exact ⟨k + 1, y / 2, by omega, by go_num, rfl, by omega, H2⟩
      case measure => simp [intOf]; omega
    · have e : k = n := by omega
      subst e
      go_wp2
      go_ret
      exact ⟨ret_int (by rw [HY.out, Int.natCast_ediv, Int.natCast_pow]; rfl), rfl⟩
theorem over32 (x : Nat) (hx : x < 18446744073709551616) (w : World) :
    Calls Try.prog 57 #[.int .u64 x, .int .i64 32] w fun e w' => e = .returned (.int .u64 ((x : Int) / 4294967296)) ∧ w' = w :=
  (over38 x 32 hx (by omega) w).mono fun e w' ⟨he, hw⟩ => ⟨by rw [he]; exact ret_int (by omega), hw⟩
theorem over29 (x : Nat) (hx : x < 18446744073709551616) (w : World) :
    Calls Try.prog 57 #[.int .u64 x, .int .i64 29] w fun e w' => e = .returned (.int .u64 ((x : Int) / 536870912)) ∧ w' = w :=
  (over38 x 29 hx (by omega) w).mono fun e w' ⟨he, hw⟩ => ⟨by rw [he]; exact ret_int (by omega), hw⟩

set_option maxHeartbeats 1000000 in
theorem hash21 (a : Int) (s : ByteArray) (w : World) (h0 : 0 ≤ a) (h1 : a ≤ 65535) (hs : s.size ≤ 9223372036854775800) :
    Calls Try.prog 45 #[.agg #[.int .u16 a, .string s]] w fun e w' => e = .returned (.int .u64 (hashK a s : Nat)) ∧ Touch [] w w' := by
  have R : Hid _ := fun w => ref17 a s w h0 h1 hs
  have HS : (hd3 a s ++ s).size ≤ 9223372036854775803 := by rw [ByteArray.size_append, hd3_size]; omega
  have HK : Hid (hashK a s = hEnd (hMid (hFold hStart (hd3 a s ++ s).data.toList))) := rfl
  generalize hashK a s = hk at *
  generalize hd3 a s ++ s = x at *
  clear hs h0 h1
  have hst0 : (14695981039346656037 : Int) = ((hFold hStart [] : Nat) : Int) := rfl
  have HST0 : Hid _ := hst0
  clear hst0
  go_enter Try.func45, Try.ntmps45
  go_wp2_with fail
  refine (R.out _).mono ?_
  rintro e w1 ⟨rfl, g1⟩
  have G : Hid (Touch [] w w1) := ((Touch.refl _ _).alloc _).trans' g1
  clear g1
  go_wp2_with fail
  go_loop [3, 5] (fun h i => ∃ k : Nat, k ≤ x.size ∧ i = .int .i64 k ∧ h = .int .u64 (hFold hStart (x.data.toList.take k) : Nat)) (fun _ i => x.size - (intOf i).toNat)
  case atStart => exact ⟨0, Nat.zero_le _, rfl, rfl⟩
  case round =>
    obtain ⟨k, hk', rfl, rfl⟩ := hrel
    have hlt0 := hFold_lt hStart hStart_lt (x.data.toList.take k)
    by_cases hlt : k < x.size
    · have hst := h_step (hFold hStart (x.data.toList.take k)) x[k] hlt0 (x[k].toNat : Int) (by have := x[k].toNat_lt; rw [IntKind.wrap_u64]; omega)
      rw [← hFold_snoc, ← take_snoc x k hlt] at hst
      clear hlt0
      go_wp2
      go_round
      case rel => exact ⟨k + 1, by omega, by go_num, rfl⟩
      case measure => simp [intOf]; omega
    · have e : x.data.toList.take k = x.data.toList := List.take_of_length_le (by show x.size ≤ k; omega)
      rw [e] at hlt0 ⊢
      generalize hFold hStart x.data.toList = H at *
      have m1 := h_mid H hlt0
      have m2 := h_end (hMid H) (mod_lt_ _)
      have M1 : hMid H < 18446744073709551616 := mod_lt_ _
      go_wp2_with fail
      refine (over32 H hlt0 _).mono ?_
      rintro e w2 ⟨rfl, rfl⟩
      go_wp2_with fail
      refine (over29 (hMid H) M1 _).mono ?_
      rintro e w2 ⟨rfl, rfl⟩
      go_wp2_with fail
      go_ret
      exact ⟨ret_int (by rw [HK.out]), G.out⟩

theorem mix30 (x : Nat) (hx : x < 18446744073709551616) (w : World) :
    Calls Try.prog 55 #[.int .u64 x] w fun e w' => e = .returned (.int .u64 (mixN x : Nat)) ∧ w' = w := by
  have h1 : (x : Int) < 18446744073709551616 := by omega
  go_enter Try.func55, Try.ntmps55
  go_wp2
  go_ret
  exact ⟨ret_int (mix_form x hx), rfl⟩
theorem mix31 (x : Nat) (hx : x < 18446744073709551616) (w : World) :
    Calls Try.prog 47 #[.int .u64 x] w fun e w' => e = .returned (.int .u64 (mixN x : Nat)) ∧ w' = w := by
  have h1 : (x : Int) < 18446744073709551616 := by omega
  go_enter Try.func47, Try.ntmps47
  go_wp2
  go_ret
  exact ⟨ret_int (mix_form' x hx), rfl⟩

theorem fold36_lt (x n : Nat) (hx : x < 18446744073709551616) (h1 : 1 ≤ n) (h2 : n < 64) (w : World) :
    Calls Try.prog 54 #[.int .u64 x, .int .i64 (n : Int)] w fun e w' => e = .returned (.tuple #[.int .u64 (foldG x n 64 : Nat), .int .i64 0]) ∧ w' = w := by
  have hs := stretch_lt h2
  go_enter Try.func54, Try.ntmps54
  go_wp2
  go_loop [0, 7] (fun a f => ∃ j X F : Nat, a = .int .u64 X ∧ f = .int .u64 F ∧ X < 18446744073709551616 ∧ F < 18446744073709551616 ∧ Hid (X = x / 2 ^ (j * n)) ∧ Hid (F = foldG x n (j * n))) (fun a _ => (intOf a).toNat)
  case atStart => exact ⟨0, x, 0, rfl, rfl, hx, by omega, by show x = x / 2 ^ (0 * n); simp, by show 0 = foldG x n (0 * n); simp [foldG]⟩
  case round =>
    obtain ⟨j, X, F, rfl, rfl, hX, hF, HX, HF⟩ := hrel
    have g1 : (X : Int) < 18446744073709551616 := by omega
    by_cases h : X = 0
    · subst h
      have hr : Hid (F = foldG x n 64) := by show _ = _; rw [HF.out]; exact foldG_all x n (j * n) hx HX.out.symm
      go_wp2
      go_ret2
      exact ⟨ret2 (by rw [hr.out]) rfl, rfl⟩
    · have h' : ((X : Int) != 0) = true := by simp; omega
      have st : Hid (_ = ((F ^^^ X % 2 ^ n : Nat) : Int)) := fold_step X F n (by omega) hX hF
      go_wp2
      go_round
      case rel =>
        refine ⟨j + 1, X / 2 ^ n, F ^^^ X % 2 ^ n, by rw [div_cast], congrArg _ st.out, ?_, ?_, ?_, ?_⟩
        · have := Nat.div_le_self X (2 ^ n); omega
        · exact Nat.xor_lt_two_pow (n := 64) hF (by have := Nat.mod_lt X (Nat.two_pow_pos n); have := two_pow_le (show n ≤ 64 by omega); omega)
        · show X / 2 ^ n = _; rw [HX.out, div_next]
        · show F ^^^ X % 2 ^ n = _; rw [foldG_round, HF.out, HX.out]
      case measure =>
        have : X / 2 ^ n < X := Nat.div_lt_self (by omega) (Nat.one_lt_two_pow (by omega))
        rw [div_cast]
        simpa only [intOf, Int.toNat_natCast] using this
theorem fold37_yes (x n : Nat) (h1 : 1 ≤ n) (h2 : n ≤ 64) (w : World) :
    Calls Try.prog 46 #[.int .u64 x, .int .i64 (n : Int)] w fun e w' => e = .returned (.tuple #[.int .u64 (foldG x n 64 : Nat), .int .i64 0]) ∧ w' = w := by
  have h3 : ¬ (n : Int) < 1 := by omega
  have h4 : ¬ 64 < (n : Int) := by omega
  go_enter Try.func46, Try.ntmps46
  go_wp2
  go_loop [6, 7] (fun f i => ∃ k F : Nat, k ≤ 64 ∧ i = .int .i64 (k : Int) ∧ f = .int .u64 F ∧ F < 18446744073709551616 ∧ Hid (F = foldG x n k)) (fun _ i => 64 - (intOf i).toNat)
  case atStart => exact ⟨0, 0, by omega, rfl, rfl, by omega, rfl⟩
  case round =>
    obtain ⟨k, F, hk, rfl, rfl, hF, HF⟩ := hrel
    by_cases h : k < 64
    · have hb := bit_test x k
      have st : Hid (_ = ((F ^^^ 2 ^ (k % n) : Nat) : Int)) := ref_step F k n h1 h2 hF
      cases hc : x.testBit k with
      | true =>
        rw [hc] at hb
        have nx : Hid (F ^^^ 2 ^ (k % n) = foldG x n (k + 1)) := by show _ = _; rw [HF.out]; simp [foldG, hc]
        clear hc
        go_wp2
        go_round
        case rel =>
          refine ⟨k + 1, F ^^^ 2 ^ (k % n), by omega, by go_num, congrArg _ st.out, ?_, nx.out⟩
          rw [nx.out]
          exact foldG_lt x n (k + 1) h1 h2
        case measure => simp [intOf]; omega
      | false =>
        rw [hc] at hb
        have nx : Hid (F = foldG x n (k + 1)) := by show _ = _; rw [HF.out]; simp [foldG, hc]
        clear hc
        go_wp2
        go_round
        case rel => exact ⟨k + 1, F, by omega, by go_num, rfl, hF, nx.out⟩
        case measure => simp [intOf]; omega
    · obtain rfl : k = 64 := by omega
      go_wp2
      go_ret2
      exact ⟨ret2 (by rw [HF.out]) rfl, rfl⟩

theorem fold36_no (x : Nat) (b : Int) (h : b < 1 ∨ 64 < b) (w : World) :
    Calls Try.prog 54 #[.int .u64 x, .int .i64 b] w fun e w' => e = .returned (.tuple #[.int .u64 0, .int .i64 12]) ∧ w' = w := by
  rcases h with h | h
  · go_enter Try.func54, Try.ntmps54
    go_wp2
    go_ret2
    exact ⟨rfl, rfl⟩
  · have h' : ¬ b < 1 := by omega
    go_enter Try.func54, Try.ntmps54
    go_wp2
    go_ret2
    exact ⟨rfl, rfl⟩
theorem fold37_no (x : Nat) (b : Int) (h : b < 1 ∨ 64 < b) (w : World) :
    Calls Try.prog 46 #[.int .u64 x, .int .i64 b] w fun e w' => e = .returned (.tuple #[.int .u64 0, .int .i64 12]) ∧ w' = w := by
  rcases h with h | h
  · go_enter Try.func46, Try.ntmps46
    go_wp2
    go_ret2
    exact ⟨rfl, rfl⟩
  · have h' : ¬ b < 1 := by omega
    go_enter Try.func46, Try.ntmps46
    go_wp2
    go_ret2
    exact ⟨rfl, rfl⟩
end Go.Proofs.Ytbadlkjffelkhaa.Sk
