/- Contracts of how and see: how an entry is at the memo's time; no conditions but those that each states. -/
import Derived.Test.YtopepalpmkeffaaHow
namespace Go.Proofs.Ytopepalpmkeffaa
open Go.RowKit Go.Sort Go.Maps Go.ChangeMaps Go.WideMaps
set_option linter.unusedVariables false
set_option linter.unusedSimpArgs false
def ebx (v : V) : Obj := .cells #[.int .i64 v.1.1, .int .i64 v.1.2.1, .int .i64 v.1.2.2.1, .int .i64 v.1.2.2.2, .int .i64 v.2] 108
theorem one_sum (a : Int) (h : 0 ≤ a) (h2 : a ≤ 9223372036854775807) : ∃ f S : Nat → Int, f 0 = a ∧ S 1 = a ∧ S 0 = 0 ∧ (∀ j, j < 1 → S (j + 1) = S j + f j) ∧ (∀ j, j ≤ 1 → 0 ≤ S j ∧ S j < 18446744073709551616) :=
  ⟨fun _ => a, fun j => if j = 0 then 0 else a, rfl, rfl, rfl, fun j hj => by
    rcases (show j = 0 by omega) with rfl
    simp, fun j hj => by simp only; split <;> omega⟩
theorem two_sum (a b : Int) (h : 0 ≤ a) (h2 : a ≤ 9223372036854775807) (h3 : 0 ≤ b) (h4 : b ≤ 9223372036854775807) : ∃ f S : Nat → Int, f 0 = a ∧ f 1 = b ∧ S 2 = a + b ∧ S 0 = 0 ∧ (∀ j, j < 2 → S (j + 1) = S j + f j) ∧ (∀ j, j ≤ 2 → 0 ≤ S j ∧ S j < 18446744073709551616) :=
  ⟨fun j => if j = 0 then a else b, fun j => if j = 0 then 0 else if j = 1 then a else a + b, rfl, rfl, rfl, rfl, fun j hj => by
    rcases (show j = 0 ∨ j = 1 by omega) with rfl | rfl <;> simp, fun j hj => by simp only; split; · omega
                                                                                 · split <;> omega⟩
theorem within1 (w : World) (m : Nat) (c : Cf) (now : Int) (b o : Nat) (h : Md w m c now b o) (v : V) (bl : Nat) (a : Int) (ha0 : 0 ≤ v.2) (ha1 : v.2 ≤ now) (ha2 : now ≤ MT) (h0 : 0 ≤ a) (h1 : a ≤ 9223372036854775807)
    (hc : w.cell? ⟨bl, 0, none⟩ = some (.int .i64 a)) : Calls Try.prog 77 #[PT m, ev v, .slice (some ⟨bl, 0, none⟩) 1 1] w fun e w' => e = .returned (.bool (decide (now - v.2 < a))) ∧ Touch [] w w' := by
  obtain ⟨f, S, q0, q1, q2, q3, q4⟩ := one_sum a h0 h1
  rw [← q1]
  exact within77 w m c now b o h v bl 1 f S ha0 ha1 ha2 (by omega) (fun j hj => by
    rcases (show j = 0 by omega) with rfl
    rw [q0]
    exact ⟨hc, h0, h1⟩) q2 q3 q4
theorem within2 (w : World) (m : Nat) (c : Cf) (now : Int) (b o : Nat) (h : Md w m c now b o) (v : V) (bl : Nat) (a a2 : Int) (ha0 : 0 ≤ v.2) (ha1 : v.2 ≤ now) (ha2 : now ≤ MT) (h0 : 0 ≤ a) (h1 : a ≤ 9223372036854775807) (h2 : 0 ≤ a2) (h3 : a2 ≤ 9223372036854775807)
    (hc : w.cell? ⟨bl, 0, none⟩ = some (.int .i64 a)) (hc2 : w.cell? ⟨bl, 1, none⟩ = some (.int .i64 a2)) : Calls Try.prog 77 #[PT m, ev v, .slice (some ⟨bl, 0, none⟩) 2 2] w fun e w' => e = .returned (.bool (decide (now - v.2 < a + a2))) ∧ Touch [] w w' := by
  obtain ⟨f, S, q0, q1, q2, q3, q4, q5⟩ := two_sum a a2 h0 h1 h2 h3
  rw [← q2]
  exact within77 w m c now b o h v bl 2 f S ha0 ha1 ha2 (by omega) (fun j hj => by
    rcases (show j = 0 ∨ j = 1 by omega) with rfl | rfl
    · rw [q0]; exact ⟨hc, h0, h1⟩
    · rw [q1]; exact ⟨hc2, h2, h3⟩) q3 q4 q5
set_option maxHeartbeats 2000000 in
theorem how65 (w : World) (m : Nat) (c : Cf) (now : Int) (b o : Nat) (h : Md w m c now b o) (v : V) (ha0 : 0 ≤ v.2) (ha1 : v.2 ≤ now) (ha2 : now ≤ MT) (hc : okC c = true) (wc : c.t ≤ 9223372036854775807 ∧ c.n ≤ 9223372036854775807 ∧ c.s ≤ 9223372036854775807) :
    Calls Try.prog 65 #[PT m, ev v] w fun e w' => e = .returned (.int .i64 (howC c v.1 (now - v.2))) ∧ Touch [] w w' := by
  obtain ⟨ct, cn, cs⟩ := okC_t hc
  obtain ⟨V, hV⟩ : ∃ V, V = w.alloc (ebx v) := ⟨_, rfl⟩
  have TV : Hid (Touch [] w V) := by rw [hV]; exact (Touch.refl _ _).alloc _
  have hB : V.heap[w.heap.size]? = some (ebx v) := by rw [hV]; exact heap_alloc_new w _
  have HM : Hid (∀ w', Touch [] V w' → Md w' m c now b o) := fun w' t => (TV.out.trans' t).keep h (by simp)
  have HK : Hid (∀ w', Touch [] V w' → w'.cell? ⟨w.heap.size, 0, none⟩ = some (.int .i64 v.1.1) ∧ w'.cell? ⟨w.heap.size, 1, none⟩ = some (.int .i64 v.1.2.1) ∧ w'.cell? ⟨w.heap.size, 2, none⟩ = some (.int .i64 v.1.2.2.1) ∧ w'.cell? ⟨w.heap.size, 3, none⟩ = some (.int .i64 v.1.2.2.2) ∧ w'.cell? ⟨w.heap.size, 4, none⟩ = some (.int .i64 v.2)) := fun w' t => by
    have := t.keep hB (by simp)
    unfold ebx at this
    simp [World.cell?, this]
  have HF := hid (fun w => fail76 w v.1)
  have k0 := HK.out V (Touch.refl _ _)
  obtain ⟨d0, d1, d2, d3, d4, d5, d6, d7, d8, d9, df⟩ := (HM.out V (Touch.refl _ _)).cs
  obtain ⟨k0, k1, k2, k3, k4⟩ := k0
  clear h hB
  have H1 : Hid (∀ w' bl a, Touch [] V w' → 0 ≤ a → a ≤ 9223372036854775807 → w'.cell? ⟨bl, 0, none⟩ = some (.int .i64 a) → Calls Try.prog 77 #[PT m, ev v, .slice (some ⟨bl, 0, none⟩) 1 1] w' fun e w'' => e = .returned (.bool (decide (now - v.2 < a))) ∧ Touch [] w' w'') := fun w' bl a t q0 q1 q2 => within1 w' m c now b o (HM.out w' t) v bl a ha0 ha1 ha2 q0 q1 q2
  have H2 : Hid (∀ w' bl a a2, Touch [] V w' → 0 ≤ a → a ≤ 9223372036854775807 → 0 ≤ a2 → a2 ≤ 9223372036854775807 → w'.cell? ⟨bl, 0, none⟩ = some (.int .i64 a) → w'.cell? ⟨bl, 1, none⟩ = some (.int .i64 a2) → Calls Try.prog 77 #[PT m, ev v, .slice (some ⟨bl, 0, none⟩) 2 2] w' fun e w'' => e = .returned (.bool (decide (now - v.2 < a + a2))) ∧ Touch [] w' w'') := fun w' bl a a2 t q0 q1 q2 q3 q4 q5 => within2 w' m c now b o (HM.out w' t) v bl a a2 ha0 ha1 ha2 q0 q1 q2 q3 q4 q5
  have HMs := HM
  clear HM
  unfold howC
  obtain ⟨wt, wn, wz⟩ := wc
  unfold PT ev at *
  unfold ov at HF
  clear ha0 ha1 ha2 hc
  generalize now - v.2 = ag at *
  by_cases hk : v.1.2.1 = 0
  · rw [if_pos hk]
    rw [decide_eq_true hk] at HF
    clear hk
    by_cases hA : ag < c.t
    · rw [if_pos hA]
      go_enter Try.func65, Try.ntmps65
      go_wp2
      unfold ebx at hV
      rw [← hV]
      clear hV
      go_quiet (fail)
      go_wp2_with (first
        | (go_at_call 76; refine (HF.out _).mono ?_; rintro e w2 ⟨rfl, t2⟩; have T2 := hid (((Touch.refl [] V).drewN nq).trans' t2); clear t2 k0 k1 k2 k3 k4 d0 d1 d2 d3 d4 d5 d6 d7 d8 d9 df; obtain ⟨k0, k1, k2, k3, k4⟩ := HK.out _ T2.out; obtain ⟨d0, d1, d2, d3, d4, d5, d6, d7, d8, d9, df⟩ := (HMs.out _ T2.out).cs)
        | (go_at_call 77; refine (H1.out _ _ c.t (T2.out.alloc _) (by omega) (by omega) (by simp)).mono ?_; rintro e w3 ⟨rfl, t3⟩; have T3 := hid ((T2.out.alloc _).trans' t3); clear t3 k0 k1 k2 k3 k4; obtain ⟨k0, k1, k2, k3, k4⟩ := HK.out _ T3.out))
      go_ret
      exact ⟨rfl, TV.out.trans' T3.out⟩
    · rw [if_neg hA]
      by_cases hB : ag < c.t + c.s
      · rw [if_pos hB]
        go_enter Try.func65, Try.ntmps65
        go_wp2
        unfold ebx at hV
        rw [← hV]
        clear hV
        go_quiet (fail)
        go_wp2_with (first
          | (go_at_call 76; refine (HF.out _).mono ?_; rintro e w2 ⟨rfl, t2⟩; have T2 := hid (((Touch.refl [] V).drewN nq).trans' t2); clear t2 k0 k1 k2 k3 k4 d0 d1 d2 d3 d4 d5 d6 d7 d8 d9 df; obtain ⟨k0, k1, k2, k3, k4⟩ := HK.out _ T2.out; obtain ⟨d0, d1, d2, d3, d4, d5, d6, d7, d8, d9, df⟩ := (HMs.out _ T2.out).cs)
          | (go_at_call 77; have q3 := T3; refine (H2.out _ _ c.t c.s (T3.out.alloc _) (by omega) (by omega) (by omega) (by omega) (by simp) (by simp)).mono ?_; rintro e w4 ⟨rfl, t4⟩; have T4 := hid ((T3.out.alloc _).trans' t4); clear t4 q3)
          | (go_at_call 77; refine (H1.out _ _ c.t (T2.out.alloc _) (by omega) (by omega) (by simp)).mono ?_; rintro e w3 ⟨rfl, t3⟩; have T3 := hid ((T2.out.alloc _).trans' t3); clear t3 k0 k1 k2 k3 k4; obtain ⟨k0, k1, k2, k3, k4⟩ := HK.out _ T3.out))
        go_ret
        exact ⟨rfl, TV.out.trans' T4.out⟩
      · rw [if_neg hB]
        go_enter Try.func65, Try.ntmps65
        go_wp2
        unfold ebx at hV
        rw [← hV]
        clear hV
        go_quiet (fail)
        go_wp2_with (first
          | (go_at_call 76; refine (HF.out _).mono ?_; rintro e w2 ⟨rfl, t2⟩; have T2 := hid (((Touch.refl [] V).drewN nq).trans' t2); clear t2 k0 k1 k2 k3 k4 d0 d1 d2 d3 d4 d5 d6 d7 d8 d9 df; obtain ⟨k0, k1, k2, k3, k4⟩ := HK.out _ T2.out; obtain ⟨d0, d1, d2, d3, d4, d5, d6, d7, d8, d9, df⟩ := (HMs.out _ T2.out).cs)
          | (go_at_call 77; have q3 := T3; refine (H2.out _ _ c.t c.s (T3.out.alloc _) (by omega) (by omega) (by omega) (by omega) (by simp) (by simp)).mono ?_; rintro e w4 ⟨rfl, t4⟩; have T4 := hid ((T3.out.alloc _).trans' t4); clear t4 q3)
          | (go_at_call 77; refine (H1.out _ _ c.t (T2.out.alloc _) (by omega) (by omega) (by simp)).mono ?_; rintro e w3 ⟨rfl, t3⟩; have T3 := hid ((T2.out.alloc _).trans' t3); clear t3 k0 k1 k2 k3 k4; obtain ⟨k0, k1, k2, k3, k4⟩ := HK.out _ T3.out))
        go_ret
        exact ⟨rfl, TV.out.trans' T4.out⟩
  · rw [if_neg hk]
    rw [decide_eq_false hk] at HF
    clear hk
    by_cases hA : ag < c.n
    · rw [if_pos hA]
      go_enter Try.func65, Try.ntmps65
      go_wp2
      unfold ebx at hV
      rw [← hV]
      clear hV
      go_quiet (fail)
      go_wp2_with (first
        | (go_at_call 76; refine (HF.out _).mono ?_; rintro e w2 ⟨rfl, t2⟩; have T2 := hid (((Touch.refl [] V).drewN nq).trans' t2); clear t2 k0 k1 k2 k3 k4 d0 d1 d2 d3 d4 d5 d6 d7 d8 d9 df; obtain ⟨k0, k1, k2, k3, k4⟩ := HK.out _ T2.out; obtain ⟨d0, d1, d2, d3, d4, d5, d6, d7, d8, d9, df⟩ := (HMs.out _ T2.out).cs)
        | (go_at_call 77; refine (H1.out _ _ c.n (T2.out.alloc _) (by omega) (by omega) (by simp)).mono ?_; rintro e w3 ⟨rfl, t3⟩; have T3 := hid ((T2.out.alloc _).trans' t3); clear t3 k0 k1 k2 k3 k4; obtain ⟨k0, k1, k2, k3, k4⟩ := HK.out _ T3.out))
      go_ret
      exact ⟨rfl, TV.out.trans' T3.out⟩
    · rw [if_neg hA]
      have hB : ¬ ag < c.n + 0 := by omega
      go_enter Try.func65, Try.ntmps65
      go_wp2
      unfold ebx at hV
      rw [← hV]
      clear hV
      go_quiet (fail)
      go_wp2_with (first
        | (go_at_call 76; refine (HF.out _).mono ?_; rintro e w2 ⟨rfl, t2⟩; have T2 := hid (((Touch.refl [] V).drewN nq).trans' t2); clear t2 k0 k1 k2 k3 k4 d0 d1 d2 d3 d4 d5 d6 d7 d8 d9 df; obtain ⟨k0, k1, k2, k3, k4⟩ := HK.out _ T2.out; obtain ⟨d0, d1, d2, d3, d4, d5, d6, d7, d8, d9, df⟩ := (HMs.out _ T2.out).cs)
        | (go_at_call 77; have q3 := T3; refine (H2.out _ _ c.n 0 (T3.out.alloc _) (by omega) (by omega) (by omega) (by omega) (by simp) (by simp)).mono ?_; rintro e w4 ⟨rfl, t4⟩; have T4 := hid ((T3.out.alloc _).trans' t4); clear t4 q3)
        | (go_at_call 77; refine (H1.out _ _ c.n (T2.out.alloc _) (by omega) (by omega) (by simp)).mono ?_; rintro e w3 ⟨rfl, t3⟩; have T3 := hid ((T2.out.alloc _).trans' t3); clear t3 k0 k1 k2 k3 k4; obtain ⟨k0, k1, k2, k3, k4⟩ := HK.out _ T3.out))
      go_ret
      exact ⟨rfl, TV.out.trans' T4.out⟩
end Go.Proofs.Ytopepalpmkeffaa
