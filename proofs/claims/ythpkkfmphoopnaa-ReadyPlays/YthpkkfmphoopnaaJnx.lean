/- The contracts of a lot's mixing and part, of a draw, of a policy's choice, and of whose turn it is; no conditions but those that each states. -/
import Derived.Test.YthpkkfmphoopnaaJix
namespace Go.Proofs.Ythpkkfmphoopnaa.Re
open Go.RowKit Go.Maps Go.ChangeMaps
set_option linter.unusedVariables false
set_option linter.unusedSimpArgs false
theorem step1 (x : Nat) (hx : x < 18446744073709551616) :
    IntKind.u64.wrap (bits .xor .u64 (x : Int) ((x : Int) / 1073741824) * 13787848793156543929) = (((x ^^^ x / 1073741824) * 13787848793156543929 % 18446744073709551616 : Nat) : Int) :=
  mixStep_u64 x 1073741824 13787848793156543929 hx
theorem step2 (x : Nat) (hx : x < 18446744073709551616) :
    IntKind.u64.wrap (bits .xor .u64 (x : Int) ((x : Int) / 134217728) * 10723151780598845931) = (((x ^^^ x / 134217728) * 10723151780598845931 % 18446744073709551616 : Nat) : Int) :=
  mixStep_u64 x 134217728 10723151780598845931 hx
theorem step3 (x : Nat) (hx : x < 18446744073709551616) :
    bits .xor .u64 (x : Int) ((x : Int) / 2147483648) = ((x ^^^ x / 2147483648 : Nat) : Int) :=
  xorShift_u64 x 2147483648 hx
theorem mod_lt (x : Nat) : x % 18446744073709551616 < 18446744073709551616 := Nat.mod_lt _ (by decide)
theorem mix_form (x : Nat) (hx : x < 18446744073709551616) :
    bits .xor .u64 (IntKind.u64.wrap (bits .xor .u64 (IntKind.u64.wrap (bits .xor .u64 (x : Int) ((x : Int) / 1073741824) * 13787848793156543929)) (IntKind.u64.wrap (bits .xor .u64 (x : Int) ((x : Int) / 1073741824) * 13787848793156543929) / 134217728) * 10723151780598845931))
      (IntKind.u64.wrap (bits .xor .u64 (IntKind.u64.wrap (bits .xor .u64 (x : Int) ((x : Int) / 1073741824) * 13787848793156543929)) (IntKind.u64.wrap (bits .xor .u64 (x : Int) ((x : Int) / 1073741824) * 13787848793156543929) / 134217728) * 10723151780598845931) / 2147483648) = ((mixN x : Nat) : Int) := by
  rw [step1 x hx, step2 _ (mod_lt _), step3 _ (mod_lt _)]; rfl
theorem mix_ (x : Nat) (hx : x < 18446744073709551616) (w : World) :
    Calls Try.prog 41 #[.int .u64 x] w fun e w' => e = .returned (.int .u64 (mixN x : Nat)) ∧ w' = w := by
  have h1 : (x : Int) < 18446744073709551616 := by omega
  go_enter Try.func41, Try.ntmps41
  go_wp2
  go_ret
  exact ⟨ret_int (mix_form x hx), rfl⟩
theorem wrap_range (z : Int) : 0 ≤ IntKind.u64.wrap z ∧ IntKind.u64.wrap z < 18446744073709551616 := by rw [IntKind.wrap_u64]; omega
theorem mul_form (x y : Int) (hx0 : 0 ≤ x) (hx : x < 18446744073709551616) (hy0 : 0 ≤ y) (hy : y < 18446744073709551616) :
    IntKind.u64.wrap (IntKind.u64.wrap (IntKind.u64.wrap (x / 4294967296 * (y / 4294967296)) +
        IntKind.u64.wrap (IntKind.u64.wrap (x / 4294967296 * bits .and .u64 y 4294967295) + IntKind.u64.wrap (bits .and .u64 x 4294967295 * bits .and .u64 y 4294967295) / 4294967296) / 4294967296) +
      IntKind.u64.wrap (bits .and .u64 (IntKind.u64.wrap (IntKind.u64.wrap (x / 4294967296 * bits .and .u64 y 4294967295) + IntKind.u64.wrap (bits .and .u64 x 4294967295 * bits .and .u64 y 4294967295) / 4294967296)) 4294967295 +
        IntKind.u64.wrap (bits .and .u64 x 4294967295 * (y / 4294967296))) / 4294967296) = x * y / 18446744073709551616 := by
  rw [and_low32 x hx0 hx, and_low32 y hy0 hy, and_low32 (IntKind.u64.wrap _) (wrap_range _).1 (wrap_range _).2]
  simp only [IntKind.wrap_u64]
  exact mul64_arith x y hx0 hx hy0 hy
theorem mul_ (x y : Int) (hx0 : 0 ≤ x) (hx : x < 18446744073709551616) (hy0 : 0 ≤ y) (hy : y < 18446744073709551616) (w : World) :
    Calls Try.prog 46 #[.int .u64 x, .int .u64 y] w fun e w' => e = .returned (.tuple #[.int .u64 (x * y / 18446744073709551616), .int .u64 (x * y % 18446744073709551616)]) ∧ w' = w := by
  have hf := mul_form x y hx0 hx hy0 hy
  have HF : Hid (_ = x * y / 18446744073709551616) := hf
  clear hf
  go_enter Try.func46, Try.ntmps46
  go_wp2
  go_ret2
  exact ⟨ret2 HF.out (IntKind.wrap_u64 _), rfl⟩
theorem part_ (x n : Nat) (hx : x < 18446744073709551616) (hn : 0 < n) (hl : n ≤ 65536) (w : World) :
    Calls Try.prog 42 #[.int .u64 x, .int .i64 (n : Int)] w fun e w' => e = .returned (.tuple #[.int .i64 (partN x n : Nat), .int .i64 0]) ∧ w' = w := by
  have M := hid (mul_ x n (by omega) (by omega) (by omega) (by omega))
  have hp := partN_lt hx hn
  have e1 : ((x : Int) * n / 18446744073709551616) = ((partN x n : Nat) : Int) := by unfold partN; simp
  rw [e1] at M
  generalize ((x : Int) * n % 18446744073709551616) = lo at *
  generalize partN x n = P at *
  obtain ⟨NI, hNI⟩ : ∃ NI : Int, NI = (n : Int) := ⟨_, rfl⟩
  rw [← hNI] at M ⊢
  have z1 : ¬ NI < 1 := by omega
  have z2 : IntKind.u64.wrap NI = NI := by rw [IntKind.wrap_u64]; omega
  have z3 : IntKind.i64.wrap (P : Int) = (P : Int) := by simp [IntKind.wrap, IntKind.bits, IntKind.signed, IntKind.min, IntKind.max]; omega
  clear hNI hp hl hn hx e1
  go_enter Try.func42, Try.ntmps42
  go_wp2_with (go_at_call 46; refine (M.out _).mono ?_; rintro e w' ⟨rfl, rfl⟩)
  exact bodyPost_ret (v := .tuple #[.int .i64 (P : Int), .int .i64 0]) (by simp [results, Try.results42, go_sem]) rfl ⟨rfl, rfl⟩
theorem draw_ (s n : Nat) (hs : s < 18446744073709551616) (hn : 0 < n) (hl : n ≤ 65536) (w : World) :
    Calls Try.prog 35 #[.int .u64 s, .int .i64 (n : Int)] w fun e w' => e = .returned (.tuple #[.int .i64 (partN (lotN s) n : Nat), .int .u64 (lotN s : Nat)]) ∧ w' = w := by
  have HM := hid (mix_ ((s + 11400714819323198485) % 18446744073709551616) (mod_lt _))
  have hw : IntKind.u64.wrap ((s : Int) + 11400714819323198485) = (((s + 11400714819323198485) % 18446744073709551616 : Nat) : Int) := by rw [IntKind.wrap_u64]; simp
  have HP := hid (part_ (lotN s) n (lotN_lt s) hn hl)
  have e1 : mixN ((s + 11400714819323198485) % 18446744073709551616) = lotN s := rfl
  rw [e1] at HM
  generalize (s + 11400714819323198485) % 18446744073709551616 = y at *
  generalize lotN s = L at *
  generalize partN L n = P at *
  clear hs hn hl e1
  go_enter Try.func35, Try.ntmps35
  go_wp2_with (first
    | (go_at_call 41; refine (HM.out _).mono ?_; rintro e w1 ⟨rfl, e1⟩; rw [e1]; clear e1 w1)
    | (go_at_call 42; refine (HP.out _).mono ?_; rintro e w1 ⟨rfl, e1⟩; rw [e1]; clear e1 w1))
  exact bodyPost_ret (v := .tuple #[.int .i64 (P : Int), .int .u64 (L : Int)]) (by simp [results, Try.results35, go_sem]) rfl ⟨rfl, rfl⟩
section
variable {w : World} {b N : Nat} {v u t : Value} {m : Option Nat} {S : Rz}
theorem idx_min (h : S.ln ≠ []) : idxI S.ln (minL S.ln) = (S.ln.idxOf (minL S.ln) : Int) := by unfold idxI; rw [if_pos (minL_spec h).1]
theorem idx_max (h : S.ln ≠ []) : idxI S.ln (maxL S.ln) = (S.ln.idxOf (maxL S.ln) : Int) := by unfold idxI; rw [if_pos (maxL_spec h).1]
set_option maxHeartbeats 2000000 in
theorem choose_ (h : Rm w b v u m t S) (hv : Iv S N) (hne : S.ln ≠ []) : Calls Try.prog 36 #[PT b] w fun e w' => e = .returned (.int .i64 ((chooseN S : Nat) : Int)) ∧ Touch [] w w' := by
  have hp : 0 < S.ln.length := List.length_pos_iff.2 hne
  have HL := hid (len_ h)
  have HI := hid (fun w' (T : Touch [] w w') x => index_ w' u S.ln x (h.ln.ra.keep0 T) hv.l1)
  have HMi := hid (fun w' (T : Touch [] w w') => min_ w' u S.ln (h.ln.ra.keep0 T) hp hv.l1)
  have HMa := hid (fun w' (T : Touch [] w w') => max_ w' u S.ln (h.ln.ra.keep0 T) hp hv.l1)
  have l1 := hv.l1
  obtain ⟨a, c, rfl, _⟩ := h.ln.form
  have c0 := cell_at (j := 0) (v := .int .i64 S.pol) h.hb rfl
  have c3 := cell_at (j := 3) (v := .slice a S.ln.length c) h.hb rfl
  have hb := hid h.hb
  have g3 : ∀ w', Touch [] w w' → w'.cell? ⟨b, 3, none⟩ = some (.slice a S.ln.length c) := fun w' T => cell_at (j := 3) (T.keep hb.out (by simp)) rfl
  unfold PT at *
  by_cases p1 : S.pol = 1
  · rw [p1] at c0
    have e1 : ((chooseN S : Nat) : Int) = (S.ln.length : Int) - 1 := by unfold chooseN; rw [if_pos p1]; omega
    rw [e1]
    have hw : IntKind.i64.wrap ((S.ln.length : Int) - 1) = (S.ln.length : Int) - 1 := by simp [IntKind.wrap, IntKind.bits, IntKind.signed, IntKind.min, IntKind.max]; omega
    clear p1 e1 h hv l1 hp hne HI HMi HMa g3 hb
    go_enter Try.func36, Try.ntmps36
    go_wp2_with (go_at_call 26; refine HL.out.mono ?_; rintro e w1 ⟨rfl, e1⟩; rw [e1]; clear e1 w1)
    go_ret
    exact ⟨rfl, Touch.refl _ _⟩
  · have q1 : (S.pol == 1) = false := by simp [p1]
    by_cases p3 : S.pol = 3
    · rw [p3] at c0
      have e1 : ((chooseN S : Nat) : Int) = idxI S.ln (minL S.ln) := by unfold chooseN; rw [if_neg p1, if_pos p3, idx_min hne]
      rw [e1]
      clear p1 q1 p3 e1 h hv l1 hp hne HL HMa hb
      generalize minL S.ln = k at *
      have HI2 := hid (fun w' T => HI.out w' T k)
      generalize idxI S.ln k = r at *
      clear HI
      go_enter Try.func36, Try.ntmps36
      go_upto_region 5 with fail
      have s0 : Touch [] w w.drew := (Touch.refl _ _).drew
      go_region_held3 (fun w' => Touch [] w w') (first | assumption) (first
        | (go_at_call 43; refine (HMi.out _ (by assumption)).mono ?_; rintro e w1 ⟨rfl, e1⟩; rw [e1]; clear e1 w1)
        | (go_at_call 32; refine (HI2.out _ (by assumption)).mono ?_; rintro e w1 ⟨rfl, e1⟩; rw [e1]; clear e1 w1))
      all_goals
        go_wp2
        go_ret
        exact ⟨rfl, by assumption⟩
    · have q3 : (S.pol == 3) = false := by simp [p3]
      by_cases p4 : S.pol = 4
      · rw [p4] at c0
        have e1 : ((chooseN S : Nat) : Int) = idxI S.ln (maxL S.ln) := by unfold chooseN; rw [if_neg p1, if_neg p3, if_pos p4, idx_max hne]
        rw [e1]
        clear p1 q1 p3 q3 p4 e1 h hv l1 hp hne HL HMi hb
        generalize maxL S.ln = k at *
        have HI2 := hid (fun w' T => HI.out w' T k)
        generalize idxI S.ln k = r at *
        clear HI
        go_enter Try.func36, Try.ntmps36
        go_upto_region 7 with fail
        have s0 : Touch [] w w.drew := (Touch.refl _ _).drew
        go_region_held3 (fun w' => Touch [] w w') (first | assumption) (first
          | (go_at_call 44; refine (HMa.out _ (by assumption)).mono ?_; rintro e w1 ⟨rfl, e1⟩; rw [e1]; clear e1 w1)
          | (go_at_call 32; refine (HI2.out _ (by assumption)).mono ?_; rintro e w1 ⟨rfl, e1⟩; rw [e1]; clear e1 w1))
        all_goals
          go_wp2
          go_ret
          exact ⟨rfl, by assumption⟩
      · have q4 : (S.pol == 4) = false := by simp [p4]
        have e1 : ((chooseN S : Nat) : Int) = 0 := by unfold chooseN; rw [if_neg p1, if_neg p3, if_neg p4]; rfl
        rw [e1]
        clear p1 p3 p4 e1 h hv l1 hp hne HL HMi HMa HI hb g3
        go_enter Try.func36, Try.ntmps36
        go_wp2
        go_ret
        exact ⟨rfl, Touch.refl _ _⟩
set_option maxHeartbeats 2000000 in
theorem next_ (h : Rm w b v u m t S) (hv : Iv S N) (hN : N ≤ 17592186044416) (hne : S.ln ≠ []) : Calls Try.prog 28 #[PT b] w fun e w' => e = .returned (.tuple #[.int .i64 (((placeS S).1 : Nat) : Int), .int .u64 (((placeS S).2 : Nat) : Int)]) ∧ Touch [] w w' := by
  have hp : 0 < S.ln.length := List.length_pos_iff.2 hne
  have HT := hid (turns_ h)
  have HL := hid (fun w' (T : Touch [] w w') => len_ (h.keep0 T))
  have HC : Hid (∀ w', Touch [] w w' → Calls Try.prog 36 #[PT b] w' fun e w2 => e = .returned (.int .i64 ((chooseN S : Nat) : Int)) ∧ Touch [] w w2) := hid (fun w' T => (choose_ (h.keep0 T) hv hne).mono (fun e w2 q => ⟨q.1, T.trans' q.2⟩))
  have l1 := hv.l1
  have t1 := hv.t1
  have k1 := hv.k1
  obtain ⟨a, c, e0, hac⟩ := h.pk.form
  have HRa := hid h.pk.ra
  subst e0
  have c0 := cell_at (j := 0) (v := .int .i64 S.pol) h.hb rfl
  have c2 := cell_at (j := 2) (v := .slice a S.pk.length c) h.hb rfl
  have hb := hid h.hb
  have g1 : ∀ w', Touch [] w w' → w'.cell? ⟨b, 1, none⟩ = some (.int .u64 (S.st : Int)) := fun w' T => cell_at (j := 1) (T.keep hb.out (by simp)) rfl
  have g2 : ∀ w', Touch [] w w' → w'.cell? ⟨b, 2, none⟩ = some (.slice a S.pk.length c) := fun w' T => cell_at (j := 2) (T.keep hb.out (by simp)) rfl
  unfold PT at *
  by_cases hlt : S.tl.length < S.pk.length
  · have e1 : placeS S = (aroundN S.pk[S.tl.length] S.ln.length, S.st) := by unfold placeS; rw [dif_pos hlt]
    rw [e1]
    have HAr := hid (fun w' => around_ w' S.pk[S.tl.length] S.ln.length (hv.k2 _ (List.getElem_mem hlt)) hp hv.l1)
    obtain ⟨g, off, ea, _, _⟩ := HRa.out.cell hlt
    subst ea
    have HCe : ∀ w', Touch [] w w' → w'.cell? ⟨g, off + S.tl.length, none⟩ = some (.int .i64 S.pk[S.tl.length]) := fun w' T => by
      obtain ⟨g', off', e, _, y⟩ := (HRa.out.keep0 T).cell hlt
      cases e
      exact y
    generalize S.pk[S.tl.length] = pp at *
    generalize aroundN pp S.ln.length = R at *
    generalize S.tl.length = tn at *
    generalize S.pk.length = pn at *
    have zl : (tn : Int) < (pn : Int) := by omega
    clear e1 h hv l1 t1 k1 hp hne HC hac HRa hlt c0 hb
    go_enter Try.func28, Try.ntmps28
    go_upto_region 3 with (go_at_call 23; refine HT.out.mono ?_; rintro e w1 ⟨rfl, e1⟩; rw [e1]; clear e1 w1)
    have s0 : Touch [] w w.drew := (Touch.refl _ _).drew
    go_region_held3 (fun w' => Touch [] w w') (first | assumption) (first
      | (go_at_call 26; refine (HL.out _ (by assumption)).mono ?_; rintro e w1 ⟨rfl, e1⟩; rw [e1]; clear e1 w1)
      | (go_at_call 34; refine (HAr.out _).mono ?_; rintro e w1 ⟨rfl, e1⟩; rw [e1]; clear e1 w1))
    all_goals
      go_wp2
      exact bodyPost_ret (v := .tuple #[.int .i64 (R : Int), .int .u64 (S.st : Int)]) (by simp [results, Try.results28, go_sem]) rfl ⟨rfl, by assumption⟩
  · by_cases p2 : S.pol = 2
    · have e1 : placeS S = (partN (lotN S.st) S.ln.length, lotN S.st) := by unfold placeS; rw [dif_neg hlt, if_pos p2]
      rw [e1]
      have HD := hid (fun w' => draw_ S.st S.ln.length hv.s1 hp hv.l1 w')
      rw [p2] at c0
      generalize lotN S.st = L at *
      generalize partN L S.ln.length = R at *
      generalize S.tl.length = tn at *
      generalize S.pk.length = pn at *
      have zl : ¬ (tn : Int) < (pn : Int) := by omega
      clear e1 h hv l1 t1 k1 hp hne HC hac HRa hlt hb g2 p2
      go_enter Try.func28, Try.ntmps28
      go_upto_region 5 with (go_at_call 23; refine HT.out.mono ?_; rintro e w1 ⟨rfl, e1⟩; rw [e1]; clear e1 w1)
      have s0 : Touch [] w w.drew := (Touch.refl _ _).drew
      go_region_held3 (fun w' => Touch [] w w') (first | assumption) (first
        | (go_at_call 26; refine (HL.out _ (by assumption)).mono ?_; rintro e w1 ⟨rfl, e1⟩; rw [e1]; clear e1 w1)
        | (go_at_call 35; refine (HD.out _).mono ?_; rintro e w1 ⟨rfl, e1⟩; rw [e1]; clear e1 w1))
      all_goals
        go_wp2
        exact bodyPost_ret (v := .tuple #[.int .i64 (R : Int), .int .u64 (L : Int)]) (by simp [results, Try.results28, go_sem]) rfl ⟨rfl, by assumption⟩
    · have e1 : placeS S = (chooseN S, S.st) := by unfold placeS; rw [dif_neg hlt, if_neg p2]
      have q2 : (S.pol == 2) = false := by simp [p2]
      rw [e1]
      generalize chooseN S = R at *
      generalize S.tl.length = tn at *
      generalize S.pk.length = pn at *
      have zl : ¬ (tn : Int) < (pn : Int) := by omega
      clear e1 h hv l1 t1 k1 hp hne HL hac HRa hlt hb g2 p2
      go_enter Try.func28, Try.ntmps28
      go_upto_region 6 with (go_at_call 23; refine HT.out.mono ?_; rintro e w1 ⟨rfl, e1⟩; rw [e1]; clear e1 w1)
      have s0 : Touch [] w w.drew := (Touch.refl _ _).drew
      go_region_held3 (fun w' => Touch [] w w') (first | assumption) (first
        | (go_at_call 36; refine (HC.out _ (by assumption)).mono ?_; rintro e w1 ⟨rfl, t1⟩))
      all_goals
        go_wp2
        exact bodyPost_ret (v := .tuple #[.int .i64 (R : Int), .int .u64 (S.st : Int)]) (by simp [results, Try.results28, go_sem]) rfl ⟨rfl, by assumption⟩
end
end Go.Proofs.Ythpkkfmphoopnaa.Re
