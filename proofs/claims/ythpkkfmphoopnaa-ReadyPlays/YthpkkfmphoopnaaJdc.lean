/- The document's ready ones as a value, and the contracts of its small functions: New, Find, shift, Mix, part; no conditions but those that each states. -/
import Derived.Test.YthpkkfmphoopnaaJwk
namespace Go.Proofs.Ythpkkfmphoopnaa.Re
open Go.RowKit Go.Maps Go.ChangeMaps
set_option linter.unusedVariables false
set_option linter.unusedSimpArgs false
def dvc (S : Rz) (p l t : Value) : Array Value := #[.int .i64 S.pol, .int .u64 (S.st : Int), p, l, t]
def dvv (S : Rz) (p l t : Value) : Value := .agg (dvc S p l t)
def dz : Array Value := #[.int .i64 0, .int .u64 0, .slice none 0 0, .slice none 0 0, .slice none 0 0]
structure Dm (w : World) (S : Rz) (p l t : Value) : Prop where
  p : Ra w p (S.pk.drop S.tl.length)
  l : Ra w l S.ln
  t : Ra w t S.tl
theorem Dm.keep0 {w w' : World} {S : Rz} {p l t : Value} (h : Dm w S p l t) (T : Touch [] w w') : Dm w' S p l t := ⟨h.p.keep0 T, h.l.keep0 T, h.t.keep0 T⟩
structure Dcs (w : World) (b : Nat) (c : Array Value) : Prop where
  c0 : w.cell? ⟨b, 0, none⟩ = c[0]?
  c1 : w.cell? ⟨b, 1, none⟩ = c[1]?
  c2 : w.cell? ⟨b, 2, none⟩ = c[2]?
  c3 : w.cell? ⟨b, 3, none⟩ = c[3]?
  c4 : w.cell? ⟨b, 4, none⟩ = c[4]?
  ff : ∀ i, w.frozen? ⟨b, i, none⟩ = false
theorem dcs_at {w : World} {b : Nat} {c : Array Value} (h : w.heap[b]? = some (.cells c 32 (0, 0))) : Dcs w b c :=
  ⟨by simp [World.cell?, h], by simp [World.cell?, h], by simp [World.cell?, h], by simp [World.cell?, h], by simp [World.cell?, h], froz_at h⟩
set_option maxHeartbeats 1000000 in
theorem find_ (w : World) (S : Rz) (p l t : Value) (x : Int) (hp : ∃ a n c, p = .slice a n c) (ht : ∃ a n c, t = .slice a n c) (hu : Ra w l S.ln) (hl : S.ln.length ≤ 65536) : Calls Try.prog 13 #[dvv S p l t, .int .i64 x] w fun e w' => e = .returned (.int .i64 (idxI S.ln x)) ∧ Touch [] w w' := by
  obtain ⟨ap, np, cp, rfl⟩ := hp
  obtain ⟨at', nt, ct, rfl⟩ := ht
  obtain ⟨V, hV⟩ : ∃ V, V = w.alloc (.cells (dvc S (.slice ap np cp) l (.slice at' nt ct)) 32) := ⟨_, rfl⟩
  have tv : Touch [] w V := by rw [hV]; exact (Touch.refl _ _).alloc _
  have hbx : V.heap[w.heap.size]? = some (.cells (dvc S (.slice ap np cp) l (.slice at' nt ct)) 32 (0, 0)) := by rw [hV]; exact heap_alloc_new w _
  obtain ⟨a1, c1, rfl, _⟩ := hu.form
  have i3 := (dcs_at hbx).c3
  have HB := hid (hu.keep0 tv)
  have TV := hid tv
  clear hu tv hbx
  generalize S.ln = xs at *
  obtain ⟨N, hN⟩ : ∃ N, N = xs.length := ⟨_, rfl⟩
  have HN := hid hN
  rw [← hN] at HB hl i3 hV ⊢
  clear hN
  have zl : (N : Int) < 9223372036854775807 := by omega
  clear hl
  unfold dvc at hV i3
  unfold dvv dvc
  go_enter Try.func13, Try.ntmps13
  go_upto_region 1 with fail
  rw [← hV]
  clear hV
  go_wp2
  go_loop [10] (fun i => ∃ n : Nat, i = .int .i64 n ∧ n ≤ N ∧ Hid (¬ x ∈ xs.take n)) (fun i => N - (intOf i).toNat)
  case atStart => exact ⟨0, rfl, Nat.zero_le _, hid (by simp)⟩
  case round =>
    obtain ⟨n, rfl, hn, HX⟩ := hrel
    by_cases hlt : n < N
    · have zn : (n : Int) < (N : Int) := by omega
      have hnl : n < xs.length := by have := HN.out; omega
      obtain ⟨g2, of2, rfl, _, y2⟩ := HB.out.cell hnl
      have HY : Hid (x = xs[n] → idxI xs x = (n : Int)) := hid (fun e => by
        unfold idxI
        rw [if_pos (by rw [e]; exact List.getElem_mem hnl), idx_first hnl HX.out e.symm])
      have HZ : Hid (¬ x = xs[n] → ¬ x ∈ xs.take (n + 1)) := hid (fun e => not_take hnl HX.out e)
      generalize xs[n] = ki at *
      clear hnl
      by_cases he : x = ki
      · have hb : (ki == x) = true := by simp [he]
        have HE := hid (HY.out he)
        clear he
        go_wp2
        go_ret
        exact ⟨by rw [HE.out]; rfl, TV.out⟩
      · have hb : (ki == x) = false := by simp; exact fun e => he e.symm
        have HZ2 := hid (HZ.out he)
        clear he
        go_wp2
        go_round
        case rel => exact ⟨n + 1, by go_num, by omega, HZ2⟩
        case measure => simp [intOf]; omega
    · have zn : ¬ (n : Int) < (N : Int) := by omega
      have HE : Hid (idxI xs x = -1) := hid (by
        have hx := HX.out
        have : xs.take n = xs := List.take_of_length_le (by have := HN.out; omega)
        rw [this] at hx
        unfold idxI
        rw [if_neg hx])
      go_wp2
      go_ret
      exact ⟨by rw [HE.out]; rfl, TV.out⟩
theorem dnew_ (w : World) (p : Int) (s : Nat) (k : List Int) (v : Value) (hv : Ra w v k) : Calls Try.prog 8 #[.int .i64 p, .int .u64 (s : Int), v] w fun e w' => e = .returned (.tuple #[.agg (if newE p k.length = 0 then #[.int .i64 p, .int .u64 (s : Int), v, .slice none 0 0, .slice none 0 0] else dz), .int .i64 (newE p k.length)]) ∧ Touch [] w w' := by
  obtain ⟨a, c, rfl, _⟩ := hv.form
  obtain ⟨n, hn⟩ : ∃ n : Int, (k.length : Int) = n := ⟨_, rfl⟩
  have ht : ∀ cs, Touch [] w (w.alloc (.cells cs 32)) := fun cs => (Touch.refl _ _).alloc _
  unfold newE
  clear hv
  by_cases h1 : p < 0 ∨ 4 < p
  · simp only [h1, if_true, show ((220 : Int) = 0) = False by simp, if_false, dz]
    rcases h1 with h1 | h1
    · go_enter Try.func8, Try.ntmps8
      go_wp2
      exact bodyPost_ret (v := .tuple #[.agg #[.int .i64 0, .int .u64 0, .slice none 0 0, .slice none 0 0, .slice none 0 0], .int .i64 220]) (by simp [results, Try.results8, go_sem]) rfl ⟨rfl, ht _⟩
    · have h0 : ¬ p < 0 := by omega
      go_enter Try.func8, Try.ntmps8
      go_wp2
      exact bodyPost_ret (v := .tuple #[.agg #[.int .i64 0, .int .u64 0, .slice none 0 0, .slice none 0 0, .slice none 0 0], .int .i64 220]) (by simp [results, Try.results8, go_sem]) rfl ⟨rfl, ht _⟩
  · have h4 : ¬ p < 0 := by omega
    have h5 : p ≤ 4 := by omega
    by_cases h2 : 65536 < k.length
    · simp only [h1, h2, if_true, if_false, show ((3 : Int) = 0) = False by simp, dz]
      have h3 : 65536 < n := by omega
      clear h1 h2
      go_enter Try.func8, Try.ntmps8
      go_wp2
      exact bodyPost_ret (v := .tuple #[.agg #[.int .i64 0, .int .u64 0, .slice none 0 0, .slice none 0 0, .slice none 0 0], .int .i64 3]) (by simp [results, Try.results8, go_sem]) rfl ⟨rfl, ht _⟩
    · simp only [h1, h2, if_true, if_false]
      have h3 : n ≤ 65536 := by omega
      clear h1 h2
      go_enter Try.func8, Try.ntmps8
      go_wp2
      exact bodyPost_ret (v := .tuple #[.agg #[.int .i64 p, .int .u64 (s : Int), .slice a k.length c, .slice none 0 0, .slice none 0 0], .int .i64 0]) (by simp [results, Try.results8, go_sem]) rfl ⟨rfl, ht _⟩
theorem div_two (x n : Nat) : x / 2 ^ n / 2 = x / 2 ^ (n + 1) := by rw [Nat.div_div_eq_div_mul, ← Nat.pow_succ]
theorem shift_ (x n : Nat) (hx : x < 18446744073709551616) (hn : n ≤ 64) (w : World) : Calls Try.prog 45 #[.int .u64 (x : Int), .int .i64 (n : Int)] w fun e w' => e = .returned (.int .u64 ((x / 2 ^ n : Nat) : Int)) ∧ w' = w := by
  obtain ⟨R, hR⟩ : ∃ R, R = x / 2 ^ n := ⟨_, rfl⟩
  rw [← hR]
  have HR := hid hR
  clear hR
  go_enter Try.func45, Try.ntmps45
  go_wp2
  go_loop [0, 5] (fun a i => ∃ k X : Nat, a = .int .u64 (X : Int) ∧ i = .int .i64 (k : Int) ∧ k ≤ n ∧ X < 18446744073709551616 ∧ Hid (X = x / 2 ^ k)) (fun _ i => n - (intOf i).toNat)
  case atStart => exact ⟨0, x, rfl, rfl, Nat.zero_le _, hx, hid (by simp)⟩
  case round =>
    obtain ⟨k, X, rfl, rfl, hk, hX, HX⟩ := hrel
    by_cases hlt : k < n
    · have zk : (k : Int) < (n : Int) := by omega
      have e1 : IntKind.u64.wrap ((X : Int).tdiv 2) = ((X / 2 : Nat) : Int) := by rw [Int.tdiv_eq_ediv_of_nonneg (by omega), IntKind.wrap_u64]; omega
      have HZ : Hid (X / 2 = x / 2 ^ (k + 1)) := hid (by rw [HX.out, div_two])
      clear HX
      go_wp2
      go_round
      case rel => exact ⟨k + 1, X / 2, rfl, by go_num, by omega, by omega, HZ⟩
      case measure => simp [intOf]; omega
    · have zk : ¬ (k : Int) < (n : Int) := by omega
      have ek : k = n := by omega
      have HE : Hid (X = R) := hid (by rw [HR.out, ← ek]; exact HX.out)
      clear HX ek
      go_wp2
      go_ret
      exact ⟨by rw [← HE.out]; rfl, rfl⟩
theorem dmix_ (x : Nat) (hx : x < 18446744073709551616) (w : World) : Calls Try.prog 38 #[.int .u64 (x : Int)] w fun e w' => e = .returned (.int .u64 (mixN x : Nat)) ∧ w' = w := by
  obtain ⟨a, ha⟩ : ∃ a, a = (x ^^^ x / 1073741824) * 13787848793156543929 % 18446744073709551616 := ⟨_, rfl⟩
  obtain ⟨b, hb⟩ : ∃ b, b = (a ^^^ a / 134217728) * 10723151780598845931 % 18446744073709551616 := ⟨_, rfl⟩
  have ha2 : a < 18446744073709551616 := by rw [ha]; exact mod_lt _
  have hb2 : b < 18446744073709551616 := by rw [hb]; exact mod_lt _
  have HM : Hid (mixN x = b ^^^ b / 2147483648) := hid (by rw [hb, ha]; rfl)
  have H1 := hid (shift_ x 30 hx (by omega))
  have H2 := hid (shift_ a 27 ha2 (by omega))
  have H3 := hid (shift_ b 31 hb2 (by omega))
  rw [show (2 : Nat) ^ 30 = 1073741824 by decide] at H1
  rw [show (2 : Nat) ^ 27 = 134217728 by decide] at H2
  rw [show (2 : Nat) ^ 31 = 2147483648 by decide] at H3
  have s1 : IntKind.u64.wrap (bits .xor .u64 (x : Int) ((x / 1073741824 : Nat) : Int) * 13787848793156543929) = (a : Int) := by rw [ha]; exact step1 x hx
  have s2 : IntKind.u64.wrap (bits .xor .u64 (a : Int) ((a / 134217728 : Nat) : Int) * 10723151780598845931) = (b : Int) := by rw [hb]; exact step2 a ha2
  have s3 : bits .xor .u64 (b : Int) ((b / 2147483648 : Nat) : Int) = ((b ^^^ b / 2147483648 : Nat) : Int) := step3 b hb2
  rw [HM.out]
  generalize x / 1073741824 = x1 at *
  generalize a / 134217728 = a1 at *
  generalize b / 2147483648 = b1 at *
  generalize b ^^^ b1 = r at *
  clear ha hb ha2 hb2 hx HM
  go_enter Try.func38, Try.ntmps38
  go_upto_region 2 with (go_at_call 45; refine (H1.out _).mono ?_; rintro e w1 ⟨rfl, e1⟩; rw [e1]; clear e1 w1)
  go_upto_region 3 with (go_at_call 45; refine (H2.out _).mono ?_; rintro e w1 ⟨rfl, e1⟩; rw [e1]; clear e1 w1)
  go_wp2_with (go_at_call 45; refine (H3.out _).mono ?_; rintro e w1 ⟨rfl, e1⟩; rw [e1]; clear e1 w1)
  go_ret
  exact ⟨rfl, rfl⟩
theorem part_split (x n : Nat) : (x / 4294967296 * n + x % 4294967296 * n / 4294967296) / 4294967296 = partN x n := by
  unfold partN
  have e : x * n = x / 4294967296 * n * 4294967296 + x % 4294967296 * n := by
    conv => lhs; rw [← Nat.div_add_mod x 4294967296, Nat.add_mul]
    rw [Nat.mul_comm 4294967296 (x / 4294967296), Nat.mul_assoc, Nat.mul_comm 4294967296 n, ← Nat.mul_assoc]
  have e2 : x * n / 4294967296 = x / 4294967296 * n + x % 4294967296 * n / 4294967296 := by
    rw [e, Nat.add_comm, Nat.add_mul_div_right _ _ (by decide)]
    omega
  rw [← e2, Nat.div_div_eq_div_mul]
theorem dpart_ (x n : Nat) (hx : x < 18446744073709551616) (hn : 0 < n) (hl : n ≤ 65536) (w : World) : Calls Try.prog 39 #[.int .u64 (x : Int), .int .i64 (n : Int)] w fun e w' => e = .returned (.int .i64 (partN x n : Nat)) ∧ w' = w := by
  have HP := hid (part_split x n)
  have hpl := partN_lt hx hn
  have hm1 : x / 4294967296 * n ≤ 4294967295 * 65536 := Nat.mul_le_mul (by omega) hl
  have hm2 : x % 4294967296 * n ≤ 4294967295 * 65536 := Nat.mul_le_mul (by omega) hl
  have H1 := hid (shift_ x 32 hx (by omega))
  have H2 := hid (shift_ (x % 4294967296 * n) 32 (by omega) (by omega))
  have H3 := hid (shift_ (x / 4294967296 * n + x % 4294967296 * n / 4294967296) 32 (by omega) (by omega))
  rw [show (2 : Nat) ^ 32 = 4294967296 by decide] at H1 H2 H3
  rw [HP.out] at H3
  have s0 : (x : Int).tmod 4294967296 = ((x % 4294967296 : Nat) : Int) := by rw [Int.tmod_eq_emod_of_nonneg (by omega)]; omega
  have s0' : (x : Int) % 4294967296 = ((x % 4294967296 : Nat) : Int) := by omega
  have s1 : IntKind.u64.wrap (((x / 4294967296 : Nat) : Int) * (n : Int)) = ((x / 4294967296 * n : Nat) : Int) := by rw [IntKind.wrap_u64, ← Int.natCast_mul]; omega
  have s2 : IntKind.u64.wrap (((x % 4294967296 : Nat) : Int) * (n : Int)) = ((x % 4294967296 * n : Nat) : Int) := by rw [IntKind.wrap_u64, ← Int.natCast_mul]; omega
  have s3 : IntKind.u64.wrap (((x / 4294967296 * n : Nat) : Int) + ((x % 4294967296 * n / 4294967296 : Nat) : Int)) = ((x / 4294967296 * n + x % 4294967296 * n / 4294967296 : Nat) : Int) := by rw [IntKind.wrap_u64]; omega
  have z2 : IntKind.u64.wrap (n : Int) = (n : Int) := by rw [IntKind.wrap_u64]; omega
  have z3 : IntKind.i64.wrap ((partN x n : Nat) : Int) = ((partN x n : Nat) : Int) := by simp [IntKind.wrap, IntKind.bits, IntKind.signed, IntKind.min, IntKind.max]; omega
  generalize partN x n = P at *
  generalize hh : x / 4294967296 * n + x % 4294967296 * n / 4294967296 = X3 at *
  generalize x % 4294967296 * n / 4294967296 = X4 at *
  generalize x % 4294967296 * n = X2 at *
  generalize x / 4294967296 * n = X1 at *
  generalize x / 4294967296 = xh at *
  generalize x % 4294967296 = xl at *
  clear hh HP hpl hm1 hm2 hx hn hl
  go_enter Try.func39, Try.ntmps39
  go_upto_region 2 with (go_at_call 45; refine (H1.out _).mono ?_; rintro e w1 ⟨rfl, e1⟩; rw [e1]; clear e1 w1)
  go_wp2_with (first
    | (go_at_call_of 45 (#[.int .u64 (X2 : Int), .int .i64 32] : Array Value); refine (H2.out _).mono ?_; rintro e w1 ⟨rfl, e1⟩; rw [e1]; clear e1 w1)
    | (go_at_call_of 45 (#[.int .u64 (X3 : Int), .int .i64 32] : Array Value); refine (H3.out _).mono ?_; rintro e w1 ⟨rfl, e1⟩; rw [e1]; clear e1 w1))
  go_ret
  exact ⟨rfl, rfl⟩
end Go.Proofs.Ythpkkfmphoopnaa.Re
