/- The contracts of Merge, Places and Better; no conditions but those that each states. -/
import Derived.Test.YtbadlkjffelkhaaXnw
namespace Go.Proofs.Ytbadlkjffelkhaa.Sk
open Go.RowKit Go.Maps Go.ChangeMaps
set_option maxRecDepth 100000
set_option linter.unusedVariables false
set_option linter.unusedSimpArgs false
section
variable {w w' : World} {s g cap s2 g2 cap2 j : Nat} {X Y : S}
theorem sum_ (a b : Nat) (ha : a ≤ 255) (hb : b ≤ 255) (w : World) : Calls Try.prog 31 #[.int .u8 (a : Nat), .int .u8 (b : Nat)] w fun e w' => e = .returned (.int .u8 ((min (a + b) 255 : Nat) : Int)) ∧ w' = w := by
  have w1 : IntKind.i64.wrap (a : Int) = (a : Int) := by rw [IntKind.wrap_i64]; omega
  have w2 : IntKind.i64.wrap (b : Int) = (b : Int) := by rw [IntKind.wrap_i64]; omega
  have w3 : IntKind.i64.wrap ((a : Int) + (b : Int)) = (a : Int) + (b : Int) := by rw [IntKind.wrap_i64]; omega
  by_cases h : 255 < a + b
  · have h' : (255 : Int) < (a : Int) + (b : Int) := by omega
    have e : min (a + b) 255 = 255 := by omega
    rw [e]
    go_enter Try.func31, Try.ntmps31
    go_wp2
    go_ret
    exact ⟨rfl, rfl⟩
  · have h' : ¬ (255 : Int) < (a : Int) + (b : Int) := by omega
    have e : min (a + b) 255 = a + b := by omega
    rw [e]
    have w4 : IntKind.u8.wrap ((a : Int) + (b : Int)) = (a : Int) + (b : Int) := by rw [IntKind.wrap_u8]; omega
    go_enter Try.func31, Try.ntmps31
    go_wp2
    go_ret
    exact ⟨rfl, rfl⟩
theorem merge_nil2 (h : Kq w s g cap X) : Calls Try.prog 11 #[PT s, .pointer none] w fun e w' => e = .returned (.tuple #[.pointer none, .int .i64 1]) ∧ Touch [] w w' := by
  clear h
  unfold PT
  go_enter Try.func11, Try.ntmps11
  go_wp2
  go_ret2
  exact ⟨rfl, Touch.refl _ _⟩
theorem merge_no (h : Kq w s g cap X) (h2 : Kq w s2 g2 cap2 Y) (hne : ¬ (X.r = Y.r ∧ X.b = Y.b)) : Calls Try.prog 11 #[PT s, PT s2] w fun e w' => e = .returned (.tuple #[.pointer none, .int .i64 190]) ∧ Touch [] w w' := by
  have c0 := h.c0
  have c1 := h.c1
  have d0 := h2.c0
  have d1 := h2.c1
  clear h h2
  unfold PT
  by_cases hr : X.r = Y.r
  · have hb : ¬ X.b = Y.b := fun e => hne ⟨hr, e⟩
    have e1 : ((X.r : Int) != (Y.r : Int)) = false := by simp; omega
    have e2 : ((X.b : Int) != (Y.b : Int)) = true := by simp; omega
    clear hne hr hb
    go_enter Try.func11, Try.ntmps11
    go_wp2
    go_quiet (fail)
    go_wp2
    go_ret2
    exact ⟨rfl, (Touch.refl _ _).drewN _⟩
  · have e1 : ((X.r : Int) != (Y.r : Int)) = true := by simp; omega
    clear hne hr
    go_enter Try.func11, Try.ntmps11
    go_wp2
    go_quiet (fail)
    go_wp2
    go_ret2
    exact ⟨rfl, (Touch.refl _ _).drewN _⟩
/-- The first j counters merged. -/
def mgC (X Y : S) (j : Nat) : Nat → Nat → Nat := fun i p => if i * 2 ^ X.b + p < j then min (X.c i p + Y.c i p) 255 else X.c i p
theorem Kq.mg (h : Kq w s g cap { X with c := mgC X Y j }) (hj : j < X.n) : w.cell? ⟨g, j, none⟩ = some (.int .u8 (X.c (j / 2 ^ X.b) (j % 2 ^ X.b) : Nat)) ∧ Kq (w.setCell ⟨g, j, none⟩ (.int .u8 ((min (X.c (j / 2 ^ X.b) (j % 2 ^ X.b) + Y.c (j / 2 ^ X.b) (j % 2 ^ X.b)) 255 : Nat) : Int))) s g cap { X with c := mgC X Y (j + 1) } := by
  have hd : j / 2 ^ X.b * 2 ^ X.b + j % 2 ^ X.b = j := by rw [Nat.mul_comm]; exact Nat.div_add_mod j (2 ^ X.b)
  have hi : j / 2 ^ X.b < X.r := Nat.div_lt_of_lt_mul (by rw [Nat.mul_comm]; exact hj)
  have hp : j % 2 ^ X.b < 2 ^ X.b := Nat.mod_lt _ (Nat.two_pow_pos _)
  have hc : mgC X Y j (j / 2 ^ X.b) (j % 2 ^ X.b) = X.c (j / 2 ^ X.b) (j % 2 ^ X.b) := by
    unfold mgC
    rw [hd, if_neg (Nat.lt_irrefl _)]
  have h1 := h.cell (j := j) hj
  refine ⟨?_, ?_⟩
  · rw [← hc]; exact h1
  · have h2 := h.setC (i := j / 2 ^ X.b) (p := j % 2 ^ X.b) hi hp (v := min (X.c (j / 2 ^ X.b) (j % 2 ^ X.b) + Y.c (j / 2 ^ X.b) (j % 2 ^ X.b)) 255) (Nat.min_le_right _ _)
    rw [hd] at h2
    refine ⟨h2.box, ?_, ⟨h2.wf.r1, h2.wf.r2, h2.wf.b2, fun i p => ?_, h2.wf.t2⟩⟩
    · have h3 := h2.row
      have e : flat X.b X.n (upd (mgC X Y j) (j / 2 ^ X.b) (j % 2 ^ X.b) (min (X.c (j / 2 ^ X.b) (j % 2 ^ X.b) + Y.c (j / 2 ^ X.b) (j % 2 ^ X.b)) 255)) = flat X.b X.n (mgC X Y (j + 1)) := flat_congr fun q hq => by
        have hdq : q / 2 ^ X.b * 2 ^ X.b + q % 2 ^ X.b = q := by rw [Nat.mul_comm]; exact Nat.div_add_mod q (2 ^ X.b)
        by_cases e : q = j
        · subst e
          rw [upd_same]
          unfold mgC
          rw [hdq, if_pos (by omega)]
        · have hne : ¬ (q / 2 ^ X.b = j / 2 ^ X.b ∧ q % 2 ^ X.b = j % 2 ^ X.b) := fun ⟨h1, h2⟩ => e (by rw [← hd, ← hdq, h1, h2])
          unfold upd mgC
          rw [if_neg hne, hdq]
          by_cases hl : q < j
          · rw [if_pos hl, if_pos (by omega)]
          · rw [if_neg hl, if_neg (by omega)]
      show World.ownsRow _ 0 5 1 (sl g X.n cap) X.n (flat X.b X.n (mgC X Y (j + 1)))
      rw [← e]
      exact h3
    · show mgC X Y (j + 1) i p ≤ 255
      have h4 : mgC X Y j i p ≤ 255 := h.wf.c2 i p
      unfold mgC at h4 ⊢
      split at h4 <;> split <;> omega
set_option maxHeartbeats 4000000 in
theorem merge_ok (h : Kq w s g cap X) (h2 : Kq w s2 g2 cap2 Y) (hr : X.r = Y.r) (hb : X.b = Y.b) : Calls Try.prog 11 #[PT s, PT s2] w fun e w' => ∃ v, e = .returned (.tuple #[v, .int .i64 0]) ∧ NwE v w w' (mergeS X Y) := by
  have c0 := h.c0
  have c1 := h.c1
  have d0 := h2.c0
  have d1 := h2.c1
  rw [← hr] at d0
  rw [← hb] at d1
  have e1 : ((X.r : Int) != (X.r : Int)) = false := by simp
  have e2 : ((X.b : Int) != (X.b : Int)) = false := by simp
  have hn : Y.n = X.n := by unfold S.n; rw [hr, hb]
  have HC : Hid (∀ w1, Touch [] w w1 → Calls Try.prog 27 #[PT s] w1 fun e w' => ∃ s' g' cap', e = .returned (.pointer (some ⟨s', 0, none⟩)) ∧ w1.heap.size ≤ s' ∧ w1.heap.size ≤ g' ∧ Kq w' s' g' cap' X ∧ Touch [] w1 w') := hid (fun w1 t1 => by
    refine (clone_ (h.keep0 t1)).mono ?_
    rintro e w' ⟨v, rfl, s', g', cap', rfl, q⟩
    exact ⟨s', g', cap', rfl, q⟩)
  have HY : Hid (∀ w1, Touch [] w w1 → w1.cell? ⟨s2, 2, none⟩ = some (.slice (some ⟨g2, 0, none⟩) X.n cap2) ∧ w1.cell? ⟨s2, 3, none⟩ = some (.int .u64 (Y.t : Nat)) ∧ ∀ j, j < X.n → w1.cell? ⟨g2, j, none⟩ = some (.int .u8 (Y.c (j / 2 ^ X.b) (j % 2 ^ X.b) : Nat))) := hid (fun w1 t1 => by
    have k := h2.keep0 t1
    have k2 := k.c2
    rw [hn] at k2
    refine ⟨k2, k.c3, fun j hj => ?_⟩
    have := k.cell (j := j) (by rw [hn]; exact hj)
    rwa [← hb] at this)
  have hn2 := h.wf.n_le
  have HS : Hid (∀ i p w1, Calls Try.prog 31 #[.int .u8 (X.c i p : Nat), .int .u8 (Y.c i p : Nat)] w1 fun e w' => e = .returned (.int .u8 ((min (X.c i p + Y.c i p) 255 : Nat) : Int)) ∧ w' = w1) := hid (fun i p w1 => sum_ _ _ (h.wf.c2 i p) (h2.wf.c2 i p) w1)
  have HA : Hid (∀ s' g' cap' w1 j, Kq w1 s' g' cap' { X with c := mgC X Y j } → w1.cell? ⟨s', 2, none⟩ = some (.slice (some ⟨g', 0, none⟩) X.n cap') ∧ w1.cell? ⟨s', 3, none⟩ = some (.int .u64 (X.t : Nat)) ∧ w1.frozen? ⟨s', 3, none⟩ = false ∧ (∀ q, w1.frozen? ⟨g', q, none⟩ = false) ∧ (j < X.n → w1.cell? ⟨g', j, none⟩ = some (.int .u8 (X.c (j / 2 ^ X.b) (j % 2 ^ X.b) : Nat)) ∧ Kq (w1.setCell ⟨g', j, none⟩ (.int .u8 ((min (X.c (j / 2 ^ X.b) (j % 2 ^ X.b) + Y.c (j / 2 ^ X.b) (j % 2 ^ X.b)) 255 : Nat) : Int))) s' g' cap' { X with c := mgC X Y (j + 1) })) := hid (fun s' g' cap' w1 j k1 => ⟨k1.c2, k1.c3, k1.fz 3, k1.fg, k1.mg⟩)
  have H0 : Hid (∀ s' g' cap' w1, Kq w1 s' g' cap' X → Kq w1 s' g' cap' { X with c := mgC X Y 0 }) := hid (fun s' g' cap' w1 k1 => by
    have e : mgC X Y 0 = X.c := by funext i p; simp [mgC]
    rw [e]; exact k1)
  obtain ⟨t2, ht2⟩ : ∃ t2, t2 = (X.t + Y.t) % 18446744073709551616 := ⟨_, rfl⟩
  have wt : IntKind.u64.wrap ((X.t : Int) + (Y.t : Int)) = (t2 : Int) := by rw [IntKind.wrap_u64]; omega
  have HZ : Hid (∀ s' g' cap' w1, Kq w1 s' g' cap' { X with c := mgC X Y X.n } → Kq (w1.setCell ⟨s', 3, none⟩ (.int .u64 (t2 : Nat))) s' g' cap' (mergeS X Y)) := hid (fun s' g' cap' w1 k1 => by
    have k2 := k1.setT (t := t2) (by omega)
    rw [ht2] at k2 ⊢
    refine ⟨k2.box, ?_, mergeS_wf h.wf⟩
    have e : flat X.b X.n (mgC X Y X.n) = flat X.b X.n (mergeS X Y).c := flat_congr fun q hq => by
      have hdq : q / 2 ^ X.b * 2 ^ X.b + q % 2 ^ X.b = q := by rw [Nat.mul_comm]; exact Nat.div_add_mod q (2 ^ X.b)
      unfold mgC
      rw [hdq, if_pos hq]; rfl
    have k3 := k2.row
    show World.ownsRow _ 0 5 1 (sl g' X.n cap') X.n (flat X.b X.n (mergeS X Y).c)
    rw [← e]
    exact k3)
  have hlt1 := h.lt
  have hlt2 := h2.lt
  have hlt3 := h2.ltg
  clear h h2 hr hb hn ht2
  unfold PT at *
  go_enter Try.func11, Try.ntmps11
  go_wp2
  go_quiet (fail)
  have HN : Hid (∀ n, Touch [] w (w.drewN n)) := hid (fun n => (Touch.refl _ _).drewN n)
  go_wp2_with (go_at_call 27; refine (HC.out _ (HN.out _)).mono ?_; rintro e w1 ⟨s', g', cap', rfl, l1, l2, K1, T1⟩; have T1 := hid ((HN.out _).trans' T1); have L1 := hid l1; have L2 := hid l2; have K1 := hid (H0.out _ _ _ _ K1); obtain ⟨y2, y3, y4⟩ := HY.out _ T1.out; clear y4 y3 l1 l2)
  go_loopw [42] (fun i wr => ∃ k : Nat, k ≤ X.n ∧ i = .int .i64 k ∧ Touch [] w wr ∧ Kq wr s' g' cap' { X with c := mgC X Y k }) (fun i _ => X.n - (intOf i).toNat)
  case atStart => exact ⟨0, Nat.zero_le _, rfl, T1.out, K1.out⟩
  case round =>
    obtain ⟨k, hk, rfl, T, KQ⟩ := hrel
    obtain ⟨b2, b3, b4, b5, b6⟩ := HA.out _ _ _ wr k KQ
    obtain ⟨z2, z3, z4⟩ := HY.out wr T
    by_cases hlt : k < X.n
    · have zi : (k : Int) < (X.n : Int) := by omega
      obtain ⟨b7, b8⟩ := b6 hlt
      have z5 := z4 k hlt
      have B8 := hid b8
      have HS2 := hid (HS.out (k / 2 ^ X.b) (k % 2 ^ X.b))
      clear b6 b8 HA HZ KQ HS b3 b4 H0 z2 z3 z4 HY HC HN K1 T1 c0 c1 d0 d1 y2
      generalize min (X.c (k / 2 ^ X.b) (k % 2 ^ X.b) + Y.c (k / 2 ^ X.b) (k % 2 ^ X.b)) 255 = v3 at *
      generalize X.c (k / 2 ^ X.b) (k % 2 ^ X.b) = v1 at *
      generalize Y.c (k / 2 ^ X.b) (k % 2 ^ X.b) = v2 at *
      have C2 : ∀ w', w' = wr.drew → w'.cell? ⟨s', 2, none⟩ = some (.slice (some ⟨g', 0, none⟩) X.n cap') := fun w' e => by rw [e]; exact b2
      have C7 : ∀ w', w' = wr.drew → w'.cell? ⟨g', k, none⟩ = some (.int .u8 (v1 : Nat)) := fun w' e => by rw [e]; exact b7
      have F5 : (wr.drew).frozen? ⟨g', k, none⟩ = false := b5 k
      go_wp2_with fail
      refine wp_region_L (S := fun w' => w' = wr.drew) (st := 15) (by kernel_rfl) ?_
      have s0 : wr.drew = wr.drew := rfl
      refine wpL_take (i := 0) (v := (.pointer (some ⟨s', 0, none⟩))) (some 47) rfl rfl (by kernel_rfl) (by kernel_rfl) (by kernel_rfl) (by kernel_rfl) (by kernel_rfl) (by decide) (fun _ _ _ h => h) (Or.inl ⟨by rfl, fun w' hS => (by go_simp)⟩) s0 ?_
      try simp only [Go.Act.put, List.setIfInBounds_toArray, List.set_cons_zero, List.set_cons_succ]
      refine wpL_take (i := 1) (v := (.pointer (some ⟨s', 0, none⟩))) (some 48) rfl rfl (by kernel_rfl) (by kernel_rfl) (by kernel_rfl) (by kernel_rfl) (by kernel_rfl) (by decide) (fun _ _ _ h => h) (Or.inl ⟨by rfl, fun w' hS => (by go_simp)⟩) s0 ?_
      try simp only [Go.Act.put, List.setIfInBounds_toArray, List.set_cons_zero, List.set_cons_succ]
      refine wpL_take (i := 2) (v := (.pointer (some ⟨s', 2, none⟩))) (some 49) rfl rfl (by kernel_rfl) (by kernel_rfl) (by kernel_rfl) (by kernel_rfl) (by kernel_rfl) (by decide) (fun _ _ _ h => h) (Or.inl ⟨by rfl, fun w' hS => (by go_simp)⟩) s0 ?_
      try simp only [Go.Act.put, List.setIfInBounds_toArray, List.set_cons_zero, List.set_cons_succ]
      refine wpL_take (i := 3) (v := (Value.slice (some ⟨g', 0, none⟩) X.n cap')) (some 50) rfl rfl (by kernel_rfl) (by kernel_rfl) (by kernel_rfl) (by kernel_rfl) (by kernel_rfl) (by decide) (fun _ _ _ h => h) (Or.inl ⟨by rfl, fun w' hS => (by have z0 := C2 _ hS; go_simp)⟩) s0 ?_
      try simp only [Go.Act.put, List.setIfInBounds_toArray, List.set_cons_zero, List.set_cons_succ]
      refine wpL_take (i := 4) (v := (.int .i64 (k : Nat))) (some 51) rfl rfl (by kernel_rfl) (by kernel_rfl) (by kernel_rfl) (by kernel_rfl) (by kernel_rfl) (by decide) (fun _ _ _ h => h) (Or.inl ⟨by rfl, fun w' hS => (by go_simp)⟩) s0 ?_
      try simp only [Go.Act.put, List.setIfInBounds_toArray, List.set_cons_zero, List.set_cons_succ]
      refine wpL_take (i := 5) (v := (.pointer (some ⟨s', 0, none⟩))) (some 52) rfl rfl (by kernel_rfl) (by kernel_rfl) (by kernel_rfl) (by kernel_rfl) (by kernel_rfl) (by decide) (fun _ _ _ h => h) (Or.inl ⟨by rfl, fun w' hS => (by go_simp)⟩) s0 ?_
      try simp only [Go.Act.put, List.setIfInBounds_toArray, List.set_cons_zero, List.set_cons_succ]
      refine wpL_take (i := 6) (v := (.pointer (some ⟨s', 0, none⟩))) (some 53) rfl rfl (by kernel_rfl) (by kernel_rfl) (by kernel_rfl) (by kernel_rfl) (by kernel_rfl) (by decide) (fun _ _ _ h => h) (Or.inl ⟨by rfl, fun w' hS => (by go_simp)⟩) s0 ?_
      try simp only [Go.Act.put, List.setIfInBounds_toArray, List.set_cons_zero, List.set_cons_succ]
      refine wpL_take (i := 7) (v := (.pointer (some ⟨s', 2, none⟩))) (some 54) rfl rfl (by kernel_rfl) (by kernel_rfl) (by kernel_rfl) (by kernel_rfl) (by kernel_rfl) (by decide) (fun _ _ _ h => h) (Or.inl ⟨by rfl, fun w' hS => (by go_simp)⟩) s0 ?_
      try simp only [Go.Act.put, List.setIfInBounds_toArray, List.set_cons_zero, List.set_cons_succ]
      refine wpL_take (i := 8) (v := (Value.slice (some ⟨g', 0, none⟩) X.n cap')) (some 55) rfl rfl (by kernel_rfl) (by kernel_rfl) (by kernel_rfl) (by kernel_rfl) (by kernel_rfl) (by decide) (fun _ _ _ h => h) (Or.inl ⟨by rfl, fun w' hS => (by have z0 := C2 _ hS; go_simp)⟩) s0 ?_
      try simp only [Go.Act.put, List.setIfInBounds_toArray, List.set_cons_zero, List.set_cons_succ]
      refine wpL_take (i := 9) (v := (.int .i64 (k : Nat))) (some 56) rfl rfl (by kernel_rfl) (by kernel_rfl) (by kernel_rfl) (by kernel_rfl) (by kernel_rfl) (by decide) (fun _ _ _ h => h) (Or.inl ⟨by rfl, fun w' hS => (by go_simp)⟩) s0 ?_
      try simp only [Go.Act.put, List.setIfInBounds_toArray, List.set_cons_zero, List.set_cons_succ]
      refine wpL_take (i := 10) (v := (.pointer (some ⟨g', k, none⟩))) (some 57) rfl rfl (by kernel_rfl) (by kernel_rfl) (by kernel_rfl) (by kernel_rfl) (by kernel_rfl) (by decide) (fun _ _ _ h => h) (Or.inl ⟨by rfl, fun w' hS => (by go_simp)⟩) s0 ?_
      try simp only [Go.Act.put, List.setIfInBounds_toArray, List.set_cons_zero, List.set_cons_succ]
      refine wpL_take (i := 11) (v := (.int .u8 (v1 : Nat))) (some 58) rfl rfl (by kernel_rfl) (by kernel_rfl) (by kernel_rfl) (by kernel_rfl) (by kernel_rfl) (by decide) (fun _ _ _ h => h) (Or.inl ⟨by rfl, fun w' hS => (by have z0 := C7 _ hS; go_simp)⟩) s0 ?_
      try simp only [Go.Act.put, List.setIfInBounds_toArray, List.set_cons_zero, List.set_cons_succ]
      refine wpL_take (i := 12) (v := (.int .u8 (v2 : Nat))) (some 59) rfl rfl (by kernel_rfl) (by kernel_rfl) (by kernel_rfl) (by kernel_rfl) (by kernel_rfl) (by decide) (fun _ _ _ h => h) (Or.inl ⟨by rfl, fun w' hS => (by go_simp)⟩) s0 ?_
      try simp only [Go.Act.put, List.setIfInBounds_toArray, List.set_cons_zero, List.set_cons_succ]
      refine wpL_ready (rs := [13]) (by kernel_rfl) (by simp) (AllL.cons (o := { dst := some 60, op := Op.call { callee := Callee.value (Operand.func 31), args := #[Operand.tmp 58, Operand.tmp 59], argTypes := #[5, 5] }, type := 5, pos := _, after := #[{ on := 11, ground := Ground.data }, { on := 12, ground := Ground.data }], guard := none }) rfl (fun K' hK => ?_) AllL.nil)
      rw [if_pos (by rfl)]
      go_simp
      refine (HS2.out _).mono ?_
      rintro e w5 ⟨rfl, rfl⟩
      refine hK.out _ _ (fun _ => rfl) ?_
      clear hK
      try simp only [Go.Act.put, List.setIfInBounds_toArray, List.set_cons_zero, List.set_cons_succ]
      refine wpL_take (i := 14) (v := (.pointer (some ⟨g', k, none⟩))) (some 61) rfl rfl (by kernel_rfl) (by kernel_rfl) (by kernel_rfl) (by kernel_rfl) (by kernel_rfl) (by decide) (fun _ _ _ h => h) (Or.inl ⟨by rfl, fun w' hS => (by go_simp)⟩) rfl ?_
      try simp only [Go.Act.put, List.setIfInBounds_toArray, List.set_cons_zero, List.set_cons_succ]
      refine wpL_ready (rs := [15]) (by kernel_rfl) (by simp) (AllL.cons (o := { dst := none, op := Op.store 5 (Operand.tmp 61) (Operand.tmp 60), type := 0, pos := _, after := #[{ on := 14, ground := Ground.data }, { on := 13, ground := Ground.data }, { on := 13, ground := Ground.chain }, { on := 0, ground := Ground.phase }, { on := 1, ground := Ground.phase }, { on := 2, ground := Ground.phase }, { on := 3, ground := Ground.phase }, { on := 4, ground := Ground.phase }, { on := 5, ground := Ground.phase }, { on := 6, ground := Ground.phase }, { on := 7, ground := Ground.phase }, { on := 8, ground := Ground.phase }, { on := 9, ground := Ground.phase }, { on := 10, ground := Ground.phase }, { on := 11, ground := Ground.phase }, { on := 12, ground := Ground.phase }, { on := 13, ground := Ground.phase }], guard := none }) rfl (fun K' hK => ?_) AllL.nil)
      rw [if_pos (by rfl)]
      go_simp
      refine hK.out _ _ (fun h => absurd h (by decide)) ?_
      clear hK
      try simp only [Go.Act.put, List.setIfInBounds_toArray, List.set_cons_zero, List.set_cons_succ]
      refine wpL_done (by kernel_rfl) ?_ _
      go_wp2
      refine ⟨⟨k + 1, by omega, rfl, (T.setCell (Or.inr ?_) _).drew, Kq.keep0 B8.out (Touch.refl _ _).drew⟩, by simp [intOf]; omega⟩
      exact L2.out
    · have ek : k = X.n := by omega
      have zi : ¬ (k : Int) < (X.n : Int) := by omega
      rw [ek] at KQ
      have K2 := hid (HZ.out _ _ _ wr KQ)
      have C2 : ∀ w', w' = wr.drew → w'.cell? ⟨s', 3, none⟩ = some (.int .u64 (X.t : Nat)) := fun w' e => by rw [e]; exact b3
      have C7 : ∀ w', w' = wr.drew → w'.cell? ⟨s2, 3, none⟩ = some (.int .u64 (Y.t : Nat)) := fun w' e => by rw [e]; exact z3
      have F5 : (wr.drew).frozen? ⟨s', 3, none⟩ = false := b4
      clear b6 HA HZ KQ HS H0 b5 HY HC HN K1 T1 c0 c1 d0 d1 y2 z4 z2 b2 ek hk hlt
      go_wp2_with fail
      refine wp_region_L (S := fun w' => w' = wr.drew) (st := 11) (by kernel_rfl) ?_
      have s0 : wr.drew = wr.drew := rfl
      refine wpL_take (i := 0) (v := (.pointer (some ⟨s', 0, none⟩))) (some 63) rfl rfl (by kernel_rfl) (by kernel_rfl) (by kernel_rfl) (by kernel_rfl) (by kernel_rfl) (by decide) (fun _ _ _ h => h) (Or.inl ⟨by rfl, fun w' hS => (by go_simp)⟩) s0 ?_
      try simp only [Go.Act.put, List.setIfInBounds_toArray, List.set_cons_zero, List.set_cons_succ]
      refine wpL_take (i := 1) (v := (.pointer (some ⟨s', 0, none⟩))) (some 64) rfl rfl (by kernel_rfl) (by kernel_rfl) (by kernel_rfl) (by kernel_rfl) (by kernel_rfl) (by decide) (fun _ _ _ h => h) (Or.inl ⟨by rfl, fun w' hS => (by go_simp)⟩) s0 ?_
      try simp only [Go.Act.put, List.setIfInBounds_toArray, List.set_cons_zero, List.set_cons_succ]
      refine wpL_take (i := 2) (v := (.pointer (some ⟨s', 3, none⟩))) (some 65) rfl rfl (by kernel_rfl) (by kernel_rfl) (by kernel_rfl) (by kernel_rfl) (by kernel_rfl) (by decide) (fun _ _ _ h => h) (Or.inl ⟨by rfl, fun w' hS => (by go_simp)⟩) s0 ?_
      try simp only [Go.Act.put, List.setIfInBounds_toArray, List.set_cons_zero, List.set_cons_succ]
      refine wpL_take (i := 3) (v := (.int .u64 (X.t : Nat))) (some 66) rfl rfl (by kernel_rfl) (by kernel_rfl) (by kernel_rfl) (by kernel_rfl) (by kernel_rfl) (by decide) (fun _ _ _ h => h) (Or.inl ⟨by rfl, fun w' hS => (by have z0 := C2 _ hS; go_simp)⟩) s0 ?_
      try simp only [Go.Act.put, List.setIfInBounds_toArray, List.set_cons_zero, List.set_cons_succ]
      refine wpL_take (i := 4) (v := (.pointer (some ⟨s2, 0, none⟩))) (some 67) rfl rfl (by kernel_rfl) (by kernel_rfl) (by kernel_rfl) (by kernel_rfl) (by kernel_rfl) (by decide) (fun _ _ _ h => h) (Or.inl ⟨by rfl, fun w' hS => (by go_simp)⟩) s0 ?_
      try simp only [Go.Act.put, List.setIfInBounds_toArray, List.set_cons_zero, List.set_cons_succ]
      refine wpL_take (i := 5) (v := (.pointer (some ⟨s2, 0, none⟩))) (some 68) rfl rfl (by kernel_rfl) (by kernel_rfl) (by kernel_rfl) (by kernel_rfl) (by kernel_rfl) (by decide) (fun _ _ _ h => h) (Or.inl ⟨by rfl, fun w' hS => (by go_simp)⟩) s0 ?_
      try simp only [Go.Act.put, List.setIfInBounds_toArray, List.set_cons_zero, List.set_cons_succ]
      refine wpL_take (i := 6) (v := (.pointer (some ⟨s2, 3, none⟩))) (some 69) rfl rfl (by kernel_rfl) (by kernel_rfl) (by kernel_rfl) (by kernel_rfl) (by kernel_rfl) (by decide) (fun _ _ _ h => h) (Or.inl ⟨by rfl, fun w' hS => (by go_simp)⟩) s0 ?_
      try simp only [Go.Act.put, List.setIfInBounds_toArray, List.set_cons_zero, List.set_cons_succ]
      refine wpL_take (i := 7) (v := (.int .u64 (Y.t : Nat))) (some 70) rfl rfl (by kernel_rfl) (by kernel_rfl) (by kernel_rfl) (by kernel_rfl) (by kernel_rfl) (by decide) (fun _ _ _ h => h) (Or.inl ⟨by rfl, fun w' hS => (by have z0 := C7 _ hS; go_simp)⟩) s0 ?_
      try simp only [Go.Act.put, List.setIfInBounds_toArray, List.set_cons_zero, List.set_cons_succ]
      refine wpL_take (i := 8) (v := (.int .u64 (t2 : Nat))) (some 71) rfl rfl (by kernel_rfl) (by kernel_rfl) (by kernel_rfl) (by kernel_rfl) (by kernel_rfl) (by decide) (fun _ _ _ h => h) (Or.inl ⟨by rfl, fun w' hS => (by go_simp)⟩) s0 ?_
      try simp only [Go.Act.put, List.setIfInBounds_toArray, List.set_cons_zero, List.set_cons_succ]
      refine wpL_takeY (i := 9) (v := (.pointer (some ⟨s', 0, none⟩))) (some 72) rfl rfl (by kernel_rfl) (by kernel_rfl) (by kernel_rfl) (by decide) (fun _ _ _ h => h) (Or.inl ⟨by rfl, fun w' hS => (by go_simp)⟩) (fun _ => s0) ?_
      try simp only [Go.Act.put, List.setIfInBounds_toArray, List.set_cons_zero, List.set_cons_succ]
      refine wpL_take (i := 10) (v := (.pointer (some ⟨s', 3, none⟩))) (some 73) rfl rfl (by kernel_rfl) (by kernel_rfl) (by kernel_rfl) (by kernel_rfl) (by kernel_rfl) (by decide) (fun _ _ _ h => h) (Or.inl ⟨by rfl, fun w' hS => (by go_simp)⟩) s0 ?_
      try simp only [Go.Act.put, List.setIfInBounds_toArray, List.set_cons_zero, List.set_cons_succ]
      refine wpL_ready (rs := [11]) (by kernel_rfl) (by simp) (AllL.cons (o := { dst := none, op := Op.store 27 (Operand.tmp 73) (Operand.tmp 71), type := 0, pos := _, after := #[{ on := 10, ground := Ground.data }, { on := 8, ground := Ground.data }, { on := 0, ground := Ground.phase }, { on := 1, ground := Ground.phase }, { on := 2, ground := Ground.phase }, { on := 3, ground := Ground.phase }, { on := 4, ground := Ground.phase }, { on := 5, ground := Ground.phase }, { on := 6, ground := Ground.phase }, { on := 7, ground := Ground.phase }, { on := 8, ground := Ground.phase }], guard := none }) rfl (fun K' hK => ?_) AllL.nil)
      rw [if_pos (by rfl)]
      go_simp
      refine hK.out _ _ (fun h => absurd h (by decide)) ?_
      clear hK
      try simp only [Go.Act.put, List.setIfInBounds_toArray, List.set_cons_zero, List.set_cons_succ]
      refine wpL_done (by kernel_rfl) ?_ _
      go_wp2
      go_ret2
      exact ⟨_, rfl, _, _, _, rfl, L1.out, L2.out, Kq.keep0 K2.out (Touch.refl _ _).drew, (T.setCell (p := ⟨s', 3, none⟩) (Or.inr L1.out) _).drew⟩
theorem places_no (h : Kq w s g cap X) {k : K} (h64 : 64 < k.2.size) : Calls Try.prog 26 #[PT s, kv k] w fun e w' => e = .returned (.slice none 0 0) ∧ Touch [] w w' := by
  have HC := hid (fun w1 => check_no (k := k) h64 w1)
  clear h h64
  unfold kv PT at *
  go_enter Try.func26, Try.ntmps26
  go_wp2_with (go_at_call 33; refine (HC.out _).mono ?_; rintro e w1 ⟨rfl, t1⟩)
  go_ret
  exact ⟨rfl, ((Touch.refl _ _).alloc _).trans' t1⟩
/-- The places of a key, row by row. -/
def plcs (X : S) (hv n : Nat) : List Int := (List.range n).map fun i => ((plc X.b hv i : Nat) : Int)
theorem plcs_succ (X : S) (hv n : Nat) : plcs X hv (n + 1) = plcs X hv n ++ [((plc X.b hv n : Nat) : Int)] := by simp [plcs, List.range_succ]
theorem plcs_len (X : S) (hv n : Nat) : (plcs X hv n).length = n := by simp [plcs]
set_option maxHeartbeats 4000000 in
theorem places_ok (h : Kq w s g cap X) {k : K} (hk : Ok k) (h64 : k.2.size ≤ 64) : Calls Try.prog 26 #[PT s, kv k] w fun e w' => ∃ a c, e = .returned (.slice a X.r c) ∧ Rd w' (.slice a X.r c) (plcs X (hK k) X.r) ∧ Touch [] w w' := by
  obtain ⟨V, hV⟩ : ∃ V, V = w.alloc (.cells #[.int .u16 k.1, .string k.2] 43) := ⟨_, rfl⟩
  have TV : Touch [] w V := by rw [hV]; exact (Touch.refl _ _).alloc _
  have HB : Hid (∀ w1, Touch [] V w1 → w1.cell? ⟨w.heap.size, 0, none⟩ = some (.int .u16 k.1) ∧ w1.cell? ⟨w.heap.size, 1, none⟩ = some (.string k.2)) := hid (fun w1 t1 => by
    have hb : V.heap[w.heap.size]? = some (.cells #[.int .u16 k.1, .string k.2] 43) := by rw [hV]; exact heap_alloc_new w _
    have := t1.keep hb (by simp)
    exact ⟨cell_at this rfl, cell_at this rfl⟩)
  obtain ⟨z0, z1⟩ := HB.out V (Touch.refl _ _)
  have HC := hid (check_ok h64 V)
  have HH := hid (fun w1 => khash_ hk w1)
  have HP := hid (fun w1 (t1 : Touch [] V w1) (i : Nat) (hi : i ≤ 8) => place_at (w := w1) h.wf.b2 (fun w' t' => (h.keep0 ((TV.trans' t1).trans' t')).c1) (hK k) i hi)
  have HR0 := hid (fun w1 (t1 : Touch [] V w1) => (h.keep0 (TV.trans' t1)).c0)
  have r2 := h.wf.r2
  obtain ⟨hv, hhv⟩ : ∃ hv, hv = hK k := ⟨_, rfl⟩
  rw [← hhv] at HH HP ⊢
  clear h hk h64 hhv
  unfold kv PT at *
  go_enter Try.func26, Try.ntmps26
  go_upto_region 1 with fail
  rw [← hV]
  clear hV
  go_wp2_with (first
    | (go_at_call 33; refine HC.out.mono ?_; rintro e w1 ⟨rfl, t1⟩; obtain ⟨y0, y1⟩ := HB.out _ t1)
    | (go_at_call 34; refine (HH.out _).mono ?_; rintro e w2 ⟨rfl, t2⟩; have t12 := t1.trans' t2; have x0 := HR0.out _ t12))
  go_loopw [6, 21] (fun sl i wr => ∃ (k : Nat) (a : Option Addr) (c : Nat), k ≤ X.r ∧ i = .int .i64 k ∧ sl = .slice a k c ∧ Touch [] V wr ∧ wr.ownsRow V.heap.size 3 1 (.slice a k c) k (ints (plcs X hv k))) (fun _ i _ => X.r - (intOf i).toNat)
  case atStart => exact ⟨0, none, 0, Nat.zero_le _, rfl, rfl, t12, World.ownsRow_nil _ _ _ _⟩
  case round =>
    obtain ⟨k, a, c, hk, rfl, rfl, T, O⟩ := hrel
    by_cases hlt : k < X.r
    · have zi : (k : Int) < (X.r : Int) := by omega
      have H1 := hid (HP.out wr T k (by omega))
      have HO : Hid (∀ w1 ob, Touch [] wr w1 → (w1.alloc ob).ownsRow V.heap.size 3 1 (.slice a k c) k (ints (plcs X hv k)) ∧ V.heap.size ≤ (w1.alloc ob).heap.size ∧ Touch [] V (w1.alloc ob)) := hid (fun w1 ob t1 => ⟨own_touch O (t1.alloc ob) (fun _ _ e => by cases e), (T.trans' (t1.alloc ob)).size, T.trans' (t1.alloc ob)⟩)
      have HN := hid (plcs_succ X hv k)
      generalize plc X.b hv k = q at *
      clear HP HC HH HB HR0 O x0 y0 y1 z0 z1
      go_wp2_with (first
        | (go_at_call 43; refine H1.out.mono ?_; rintro e w3 ⟨rfl, t3⟩)
        | (at_builtin; refine wpList_append_rs rfl _ _ 69 3 rfl (.int .i64 0) 1 8 info3 Try.underlying69 rfl (by decide) V.heap.size (.slice a k c) k (ints (plcs X hv k)) rfl (HO.out w3 _ t3).1 (.slice (some ⟨w3.heap.size, 0, none⟩) 1 1) 1 _ rfl (Rs.new w3 #[.int .i64 (q : Nat)] 3 1 rfl) (by simp [Value.oneCell']) (by unfold maxLen; omega) (by omega) (HO.out w3 _ t3).2.1 ?_; intro v5 w5 o5 g5 _; obtain ⟨a5, c5, e5, _⟩ := (Rs.of_own o5).form; subst e5; have T5 := hid (touch_grown (HO.out w3 _ t3).2.2 g5 (HO.out w3 _ t3).1 (Nat.le_refl _)); have O5 := hid o5; clear o5 g5))
      refine ⟨⟨k + 1, a5, c5, by omega, rfl, rfl, T5.out, ?_⟩, by simp [intOf]; omega⟩
      rw [HN.out]
      have := O5.out
      simpa [ints] using this
    · have ek : k = X.r := by omega
      subst ek
      have zi : ¬ (X.r : Int) < (X.r : Int) := by omega
      clear HP HC HH HB HR0
      go_wp2
      go_ret
      refine ⟨a, c, rfl, ?_, TV.trans' T⟩
      have := Rd.of_own (w := wr) (v := .slice a X.r c) (xs := plcs X hv X.r) (B := V.heap.size) (by rw [plcs_len]; exact O)
      exact this
set_option maxHeartbeats 1000000 in
theorem better_ (h : Kq w s g cap X) {k1 k2 : K} (hk1 : Ok k1) (hk2 : Ok k2) : Calls Try.prog 20 #[PT s, kv k1, kv k2] w fun e w' => e = .returned (.bool (decide (cnK X k2 < cnK X k1))) ∧ Touch [] w w' := by
  obtain ⟨V, hV⟩ : ∃ V, V = (w.alloc (.cells #[.int .u16 k1.1, .string k1.2] 43)).alloc (.cells #[.int .u16 k2.1, .string k2.2] 43) := ⟨_, rfl⟩
  have TV : Touch [] w V := by rw [hV]; exact ((Touch.refl _ _).alloc _).alloc _
  have hb1 : V.heap[w.heap.size]? = some (.cells #[.int .u16 k1.1, .string k1.2] 43) := by rw [hV]; exact ((Touch.refl [] _).alloc _).keep (heap_alloc_new w _) (by simp)
  have hb2 : V.heap[w.heap.size + 1]? = some (.cells #[.int .u16 k2.1, .string k2.2] 43) := by
    have := heap_alloc_new (w.alloc (.cells #[.int .u16 k1.1, .string k1.2] 43)) (.cells #[.int .u16 k2.1, .string k2.2] 43)
    rw [World.size_alloc] at this
    rw [hV]; exact this
  have C0 : ∀ w1, Touch [] V w1 → w1.cell? ⟨w.heap.size, 0, none⟩ = some (.int .u16 k1.1) := fun w1 t1 => cell_at (t1.keep hb1 (by simp)) rfl
  have C1 : ∀ w1, Touch [] V w1 → w1.cell? ⟨w.heap.size, 1, none⟩ = some (.string k1.2) := fun w1 t1 => cell_at (t1.keep hb1 (by simp)) rfl
  have D0 : ∀ w1, Touch [] V w1 → w1.cell? ⟨w.heap.size + 1, 0, none⟩ = some (.int .u16 k2.1) := fun w1 t1 => cell_at (t1.keep hb2 (by simp)) rfl
  have D1 : ∀ w1, Touch [] V w1 → w1.cell? ⟨w.heap.size + 1, 1, none⟩ = some (.string k2.2) := fun w1 t1 => cell_at (t1.keep hb2 (by simp)) rfl
  have H1 := hid (fun w1 (t1 : Touch [] V w1) => count_ (h.keep0 (TV.trans' t1)) hk1)
  have H2 := hid (fun w1 (t1 : Touch [] V w1) => count_ (h.keep0 (TV.trans' t1)) hk2)
  generalize cnK X k1 = n1 at *
  generalize cnK X k2 = n2 at *
  have zz : w.heap.size < V.heap.size := block_lt hb1
  have HT := hid TV
  clear h hk1 hk2 hb1 hb2 TV
  unfold kv PT at *
  go_enter Try.func20, Try.ntmps20
  go_upto_region 1 with fail
  rw [← hV]
  clear hV
  go_region_held3 (fun w' => Touch [] V w') (first | assumption | exact (Touch.refl _ _).drew | exact Touch.refl _ _ | exact Touch.drew (by assumption))
    (first
      | (go_at_call_of 23 (#[Value.pointer (some ⟨s, 0, none⟩), Value.agg #[.int .u16 k1.1, .string k1.2]] : Array Value); refine (H1.out _ (by assumption)).mono ?_; rintro e w1 ⟨rfl, t1⟩; have T1 : Touch [] V w1 := Touch.trans' (by assumption) t1; clear t1)
      | (go_at_call_of 23 (#[Value.pointer (some ⟨s, 0, none⟩), Value.agg #[.int .u16 k2.1, .string k2.2]] : Array Value); refine (H2.out _ (by assumption)).mono ?_; rintro e w2 ⟨rfl, t2⟩; have T2 : Touch [] V w2 := Touch.trans' (by assumption) t2; clear t2))
  all_goals
    go_wp2
    go_ret
    exact ⟨rfl, HT.out.trans' (by assumption)⟩
end
end Go.Proofs.Ytbadlkjffelkhaa.Sk
