/- Contracts of what only reads a memo: its ticks, what it keeps, how an entry is at its time; no conditions but those that each states. -/
import Derived.Test.YtllchnancjgijaaGreatQn01
import Derived.Deep.CutRange
import Derived.Deep.CutBlock
import Derived.Laws.MakeOwn
import Derived.Laws.OwnMore
import Derived.Shelf.SlMaps.Clone
namespace Go.Proofs.YtllchnancjgijaaGreat.Me
open Go.RowKit Go.Sort Go.Maps Go.ChangeMaps Go.WideMaps
set_option maxRecDepth 100000
set_option linter.unusedVariables false
set_option linter.unusedSimpArgs false
def tickE (now n : Int) : Int := if isT n then (if n < now then 101 else 0) else 10
theorem tick45 (w : World) (m : Nat) (c : Cf) (now n : Int) (b o : Nat) (h : Md w m c now b o) : Calls Tryz.prog 116 #[PT m, .int .i64 n] w fun e w' => e = .returned (.int .i64 (tickE now n)) ∧ w' = w := by
  have c7 := h.cs.c7
  have H := is39 n
  unfold tickE PT
  clear h
  generalize isT n = r at *
  cases r
  · go_enter Tryz.func116, Tryz.ntmps116
    go_wp2_with (go_at_call 96; refine (H _).mono ?_; rintro e w2 ⟨rfl, rfl⟩)
    go_ret
    exact ⟨rfl, rfl⟩
  · by_cases hb : n < now
    · go_enter Tryz.func116, Tryz.ntmps116
      go_wp2_with (go_at_call 96; refine (H _).mono ?_; rintro e w2 ⟨rfl, e2⟩; rw [e2]; clear e2 w2)
      go_ret
      simp [hb]
    · go_enter Tryz.func116, Tryz.ntmps116
      go_wp2_with (go_at_call 96; refine (H _).mono ?_; rintro e w2 ⟨rfl, e2⟩; rw [e2]; clear e2 w2)
      go_ret
      simp [hb]
theorem now26 (w : World) (m : Nat) (c : Cf) (now : Int) (b o : Nat) (h : Md w m c now b o) : Calls Tryz.prog 83 #[PT m] w fun e w' => e = .returned (.int .i64 now) ∧ w' = w := by
  have c7 := h.cs.c7
  clear h
  unfold PT
  go_enter Tryz.func83, Tryz.ntmps83
  go_wp2
  go_ret
  exact ⟨rfl, rfl⟩
theorem config27 (w : World) (m : Nat) (c : Cf) (now : Int) (b o : Nat) (h : Md w m c now b o) : Calls Tryz.prog 79 #[PT m] w fun e w' => e = .returned (cv c) ∧ Touch [] w w' := by
  have hl := h.lt
  have hne : m ≠ w.heap.size := by omega
  obtain ⟨c0, c1, c2, c3, c4, c5, c6, c7, c8, c9, f7⟩ := h.cs
  clear h
  unfold PT cv
  go_enter Tryz.func79, Tryz.ntmps79
  go_wp2
  refine bodyPost_ret (v := .agg #[.int .i64 c.t, .int .i64 c.n, .int .i64 c.s, .int .i64 c.e, .int .i64 c.f, .int .i64 c.b, .int .i64 c.d]) (by simp [results, Tryz.results79, go_sem]) rfl ⟨rfl, ?_⟩
  repeat (first | exact Touch.refl _ _ | apply Touch.alloc | (refine Touch.setCell ?_ (Or.inr (by simp)) _))
theorem within77 (w : World) (m : Nat) (c : Cf) (now : Int) (b o : Nat) (h : Md w m c now b o) (v : V) (bl len : Nat) (f S : Nat → Int) (ha0 : 0 ≤ v.2) (ha1 : v.2 ≤ now) (ha2 : now ≤ MT) (hlen : len ≤ 2)
    (hf : ∀ j, j < len → w.cell? ⟨bl, j, none⟩ = some (.int .i64 (f j)) ∧ 0 ≤ f j ∧ f j ≤ 9223372036854775807)
    (h0 : S 0 = 0) (hS : ∀ j, j < len → S (j + 1) = S j + f j) (hb : ∀ j, j ≤ len → 0 ≤ S j ∧ S j < 18446744073709551616) :
    Calls Tryz.prog 200 #[PT m, ev v, .slice (some ⟨bl, 0, none⟩) len len] w fun e w' => e = .returned (.bool (decide (now - v.2 < S len))) ∧ Touch [] w w' := by
  obtain ⟨V, hV⟩ : ∃ V, V = w.alloc (.cells #[.int .i64 v.1.1, .int .i64 v.1.2.1, .int .i64 v.1.2.2.1, .int .i64 v.1.2.2.2, .int .i64 v.2] 215) := ⟨_, rfl⟩
  have TV : Hid (Touch [] w V) := by rw [hV]; exact (Touch.refl _ _).alloc _
  have c7 : V.cell? ⟨m, 7, none⟩ = some (.int .i64 now) := (show Md V m c now b o from TV.out.keep h (by simp)).cs.c7
  have HW : Hid (∀ n, Calls Tryz.prog 206 #[.int .i64 now, .int .i64 v.2, .slice (some ⟨bl, 0, none⟩) len len] (V.drewN n) fun e w' => e = .returned (.tuple #[.bool (decide (now - v.2 < S len)), .int .i64 0]) ∧ w' = V.drewN n) := fun n =>
    within80 now v.2 bl len f S (V.drewN n) ha0 ha1 ha2 hlen (fun j hj => by
      obtain ⟨q1, q2⟩ := hf j hj
      refine ⟨?_, q2⟩
      have hbl : bl < w.heap.size := by
        unfold World.cell? at q1
        rcases Nat.lt_or_ge bl w.heap.size with e | e
        · exact e
        · simp [Array.getElem?_eq_none e] at q1
      rw [← q1]
      exact World.cell?_of_block (TV.out.block bl hbl (by simp))) h0 hS hb
  have hv : V.cell? ⟨w.heap.size, 4, none⟩ = some (.int .i64 v.2) := by rw [hV]; simp
  clear hf h0 hS hb h ha0 ha1 ha2 hlen
  generalize decide (now - v.2 < S len) = r at *
  unfold PT ev
  go_enter Tryz.func200, Tryz.ntmps200
  go_wp2
  rw [← hV]
  clear hV
  go_quiet ((go_at_call 206; exact Calls.quiet_of_same (HW.out _)))
  go_wp2
  go_ret
  exact ⟨rfl, TV.out.drewN _⟩
end Go.Proofs.YtllchnancjgijaaGreat.Me
/- Contracts of how and see: how an entry is at the memo's time; no conditions but those that each states. -/
namespace Go.Proofs.YtllchnancjgijaaGreat.Me
open Go.RowKit Go.Sort Go.Maps Go.ChangeMaps Go.WideMaps
set_option maxRecDepth 100000
set_option linter.unusedVariables false
set_option linter.unusedSimpArgs false
def ebx (v : V) : Obj := .cells #[.int .i64 v.1.1, .int .i64 v.1.2.1, .int .i64 v.1.2.2.1, .int .i64 v.1.2.2.2, .int .i64 v.2] 215
theorem one_sum (a : Int) (h : 0 ≤ a) (h2 : a ≤ 9223372036854775807) : ∃ f S : Nat → Int, f 0 = a ∧ S 1 = a ∧ S 0 = 0 ∧ (∀ j, j < 1 → S (j + 1) = S j + f j) ∧ (∀ j, j ≤ 1 → 0 ≤ S j ∧ S j < 18446744073709551616) :=
  ⟨fun _ => a, fun j => if j = 0 then 0 else a, rfl, rfl, rfl, fun j hj => by
    rcases (show j = 0 by omega) with rfl
    simp, fun j hj => by simp only; split <;> omega⟩
theorem two_sum (a b : Int) (h : 0 ≤ a) (h2 : a ≤ 9223372036854775807) (h3 : 0 ≤ b) (h4 : b ≤ 9223372036854775807) : ∃ f S : Nat → Int, f 0 = a ∧ f 1 = b ∧ S 2 = a + b ∧ S 0 = 0 ∧ (∀ j, j < 2 → S (j + 1) = S j + f j) ∧ (∀ j, j ≤ 2 → 0 ≤ S j ∧ S j < 18446744073709551616) :=
  ⟨fun j => if j = 0 then a else b, fun j => if j = 0 then 0 else if j = 1 then a else a + b, rfl, rfl, rfl, rfl, fun j hj => by
    rcases (show j = 0 ∨ j = 1 by omega) with rfl | rfl <;> simp, fun j hj => by simp only; split; · omega
                                                                                 · split <;> omega⟩
theorem within1 (w : World) (m : Nat) (c : Cf) (now : Int) (b o : Nat) (h : Md w m c now b o) (v : V) (bl : Nat) (a : Int) (ha0 : 0 ≤ v.2) (ha1 : v.2 ≤ now) (ha2 : now ≤ MT) (h0 : 0 ≤ a) (h1 : a ≤ 9223372036854775807)
    (hc : w.cell? ⟨bl, 0, none⟩ = some (.int .i64 a)) : Calls Tryz.prog 200 #[PT m, ev v, .slice (some ⟨bl, 0, none⟩) 1 1] w fun e w' => e = .returned (.bool (decide (now - v.2 < a))) ∧ Touch [] w w' := by
  obtain ⟨f, S, q0, q1, q2, q3, q4⟩ := one_sum a h0 h1
  rw [← q1]
  exact within77 w m c now b o h v bl 1 f S ha0 ha1 ha2 (by omega) (fun j hj => by
    rcases (show j = 0 by omega) with rfl
    rw [q0]
    exact ⟨hc, h0, h1⟩) q2 q3 q4
theorem within2 (w : World) (m : Nat) (c : Cf) (now : Int) (b o : Nat) (h : Md w m c now b o) (v : V) (bl : Nat) (a a2 : Int) (ha0 : 0 ≤ v.2) (ha1 : v.2 ≤ now) (ha2 : now ≤ MT) (h0 : 0 ≤ a) (h1 : a ≤ 9223372036854775807) (h2 : 0 ≤ a2) (h3 : a2 ≤ 9223372036854775807)
    (hc : w.cell? ⟨bl, 0, none⟩ = some (.int .i64 a)) (hc2 : w.cell? ⟨bl, 1, none⟩ = some (.int .i64 a2)) : Calls Tryz.prog 200 #[PT m, ev v, .slice (some ⟨bl, 0, none⟩) 2 2] w fun e w' => e = .returned (.bool (decide (now - v.2 < a + a2))) ∧ Touch [] w w' := by
  obtain ⟨f, S, q0, q1, q2, q3, q4, q5⟩ := two_sum a a2 h0 h1 h2 h3
  rw [← q2]
  exact within77 w m c now b o h v bl 2 f S ha0 ha1 ha2 (by omega) (fun j hj => by
    rcases (show j = 0 ∨ j = 1 by omega) with rfl | rfl
    · rw [q0]; exact ⟨hc, h0, h1⟩
    · rw [q1]; exact ⟨hc2, h2, h3⟩) q3 q4 q5
set_option maxHeartbeats 2000000 in
theorem how65 (w : World) (m : Nat) (c : Cf) (now : Int) (b o : Nat) (h : Md w m c now b o) (v : V) (ha0 : 0 ≤ v.2) (ha1 : v.2 ≤ now) (ha2 : now ≤ MT) (hc : okC c = true) (wc : c.t ≤ 9223372036854775807 ∧ c.n ≤ 9223372036854775807 ∧ c.s ≤ 9223372036854775807) :
    Calls Tryz.prog 175 #[PT m, ev v] w fun e w' => e = .returned (.int .i64 (howC c v.1 (now - v.2))) ∧ Touch [] w w' := by
  obtain ⟨ct, cn, cs⟩ := okC_t hc
  obtain ⟨V, hV⟩ : ∃ V, V = w.alloc (ebx v) := ⟨_, rfl⟩
  have TV : Hid (Touch [] w V) := by rw [hV]; exact (Touch.refl _ _).alloc _
  have hB : V.heap[w.heap.size]? = some (ebx v) := by rw [hV]; exact heap_alloc_new w _
  have HM : Hid (∀ w', Touch [] V w' → Md w' m c now b o) := fun w' t => (TV.out.trans' t).keep h (by simp)
  have HK : Hid (∀ w', Touch [] V w' → w'.cell? ⟨w.heap.size, 0, none⟩ = some (.int .i64 v.1.1) ∧ w'.cell? ⟨w.heap.size, 1, none⟩ = some (.int .i64 v.1.2.1) ∧ w'.cell? ⟨w.heap.size, 2, none⟩ = some (.int .i64 v.1.2.2.1) ∧ w'.cell? ⟨w.heap.size, 3, none⟩ = some (.int .i64 v.1.2.2.2) ∧ w'.cell? ⟨w.heap.size, 4, none⟩ = some (.int .i64 v.2)) := fun w' t => by
    have := t.keep hB (by simp)
    unfold ebx at this
    simp [World.cell?, this]
  have HF := hid (fun w => fail76 w v.1)
  have k0 := HK.out V (Touch.refl _ _)
  obtain ⟨d0, d1, d2, d3, d4, d5, d6, d7, d8, d9, df⟩ := (HM.out V (Touch.refl _ _)).cs
  obtain ⟨k0, k1, k2, k3, k4⟩ := k0
  clear h hB
  have H1 : Hid (∀ w' bl a, Touch [] V w' → 0 ≤ a → a ≤ 9223372036854775807 → w'.cell? ⟨bl, 0, none⟩ = some (.int .i64 a) → Calls Tryz.prog 200 #[PT m, ev v, .slice (some ⟨bl, 0, none⟩) 1 1] w' fun e w'' => e = .returned (.bool (decide (now - v.2 < a))) ∧ Touch [] w' w'') := fun w' bl a t q0 q1 q2 => within1 w' m c now b o (HM.out w' t) v bl a ha0 ha1 ha2 q0 q1 q2
  have H2 : Hid (∀ w' bl a a2, Touch [] V w' → 0 ≤ a → a ≤ 9223372036854775807 → 0 ≤ a2 → a2 ≤ 9223372036854775807 → w'.cell? ⟨bl, 0, none⟩ = some (.int .i64 a) → w'.cell? ⟨bl, 1, none⟩ = some (.int .i64 a2) → Calls Tryz.prog 200 #[PT m, ev v, .slice (some ⟨bl, 0, none⟩) 2 2] w' fun e w'' => e = .returned (.bool (decide (now - v.2 < a + a2))) ∧ Touch [] w' w'') := fun w' bl a a2 t q0 q1 q2 q3 q4 q5 => within2 w' m c now b o (HM.out w' t) v bl a a2 ha0 ha1 ha2 q0 q1 q2 q3 q4 q5
  have HMs := HM
  clear HM
  unfold howC
  obtain ⟨wt, wn, wz⟩ := wc
  unfold PT ev at *
  unfold ov at HF
  clear ha0 ha1 ha2 hc
  generalize now - v.2 = ag at *
  by_cases hk : v.1.2.1 = 0
  · rw [if_pos hk]
    rw [decide_eq_true hk] at HF
    clear hk
    by_cases hA : ag < c.t
    · rw [if_pos hA]
      go_enter Tryz.func175, Tryz.ntmps175
      go_wp2
      unfold ebx at hV
      rw [← hV]
      clear hV
      go_quiet (fail)
      go_wp2_with (first
        | (go_at_call 199; refine (HF.out _).mono ?_; rintro e w2 ⟨rfl, t2⟩; have T2 := hid (((Touch.refl [] V).drewN nq).trans' t2); clear t2 k0 k1 k2 k3 k4 d0 d1 d2 d3 d4 d5 d6 d7 d8 d9 df; obtain ⟨k0, k1, k2, k3, k4⟩ := HK.out _ T2.out; obtain ⟨d0, d1, d2, d3, d4, d5, d6, d7, d8, d9, df⟩ := (HMs.out _ T2.out).cs)
        | (go_at_call 200; refine (H1.out _ _ c.t (T2.out.alloc _) (by omega) (by omega) (by simp)).mono ?_; rintro e w3 ⟨rfl, t3⟩; have T3 := hid ((T2.out.alloc _).trans' t3); clear t3 k0 k1 k2 k3 k4; obtain ⟨k0, k1, k2, k3, k4⟩ := HK.out _ T3.out))
      go_ret
      exact ⟨rfl, TV.out.trans' T3.out⟩
    · rw [if_neg hA]
      by_cases hB : ag < c.t + c.s
      · rw [if_pos hB]
        go_enter Tryz.func175, Tryz.ntmps175
        go_wp2
        unfold ebx at hV
        rw [← hV]
        clear hV
        go_quiet (fail)
        go_wp2_with (first
          | (go_at_call 199; refine (HF.out _).mono ?_; rintro e w2 ⟨rfl, t2⟩; have T2 := hid (((Touch.refl [] V).drewN nq).trans' t2); clear t2 k0 k1 k2 k3 k4 d0 d1 d2 d3 d4 d5 d6 d7 d8 d9 df; obtain ⟨k0, k1, k2, k3, k4⟩ := HK.out _ T2.out; obtain ⟨d0, d1, d2, d3, d4, d5, d6, d7, d8, d9, df⟩ := (HMs.out _ T2.out).cs)
          | (go_at_call 200; have q3 := T3; refine (H2.out _ _ c.t c.s (T3.out.alloc _) (by omega) (by omega) (by omega) (by omega) (by simp) (by simp)).mono ?_; rintro e w4 ⟨rfl, t4⟩; have T4 := hid ((T3.out.alloc _).trans' t4); clear t4 q3)
          | (go_at_call 200; refine (H1.out _ _ c.t (T2.out.alloc _) (by omega) (by omega) (by simp)).mono ?_; rintro e w3 ⟨rfl, t3⟩; have T3 := hid ((T2.out.alloc _).trans' t3); clear t3 k0 k1 k2 k3 k4; obtain ⟨k0, k1, k2, k3, k4⟩ := HK.out _ T3.out))
        go_ret
        exact ⟨rfl, TV.out.trans' T4.out⟩
      · rw [if_neg hB]
        go_enter Tryz.func175, Tryz.ntmps175
        go_wp2
        unfold ebx at hV
        rw [← hV]
        clear hV
        go_quiet (fail)
        go_wp2_with (first
          | (go_at_call 199; refine (HF.out _).mono ?_; rintro e w2 ⟨rfl, t2⟩; have T2 := hid (((Touch.refl [] V).drewN nq).trans' t2); clear t2 k0 k1 k2 k3 k4 d0 d1 d2 d3 d4 d5 d6 d7 d8 d9 df; obtain ⟨k0, k1, k2, k3, k4⟩ := HK.out _ T2.out; obtain ⟨d0, d1, d2, d3, d4, d5, d6, d7, d8, d9, df⟩ := (HMs.out _ T2.out).cs)
          | (go_at_call 200; have q3 := T3; refine (H2.out _ _ c.t c.s (T3.out.alloc _) (by omega) (by omega) (by omega) (by omega) (by simp) (by simp)).mono ?_; rintro e w4 ⟨rfl, t4⟩; have T4 := hid ((T3.out.alloc _).trans' t4); clear t4 q3)
          | (go_at_call 200; refine (H1.out _ _ c.t (T2.out.alloc _) (by omega) (by omega) (by simp)).mono ?_; rintro e w3 ⟨rfl, t3⟩; have T3 := hid ((T2.out.alloc _).trans' t3); clear t3 k0 k1 k2 k3 k4; obtain ⟨k0, k1, k2, k3, k4⟩ := HK.out _ T3.out))
        go_ret
        exact ⟨rfl, TV.out.trans' T4.out⟩
  · rw [if_neg hk]
    rw [decide_eq_false hk] at HF
    clear hk
    by_cases hA : ag < c.n
    · rw [if_pos hA]
      go_enter Tryz.func175, Tryz.ntmps175
      go_wp2
      unfold ebx at hV
      rw [← hV]
      clear hV
      go_quiet (fail)
      go_wp2_with (first
        | (go_at_call 199; refine (HF.out _).mono ?_; rintro e w2 ⟨rfl, t2⟩; have T2 := hid (((Touch.refl [] V).drewN nq).trans' t2); clear t2 k0 k1 k2 k3 k4 d0 d1 d2 d3 d4 d5 d6 d7 d8 d9 df; obtain ⟨k0, k1, k2, k3, k4⟩ := HK.out _ T2.out; obtain ⟨d0, d1, d2, d3, d4, d5, d6, d7, d8, d9, df⟩ := (HMs.out _ T2.out).cs)
        | (go_at_call 200; refine (H1.out _ _ c.n (T2.out.alloc _) (by omega) (by omega) (by simp)).mono ?_; rintro e w3 ⟨rfl, t3⟩; have T3 := hid ((T2.out.alloc _).trans' t3); clear t3 k0 k1 k2 k3 k4; obtain ⟨k0, k1, k2, k3, k4⟩ := HK.out _ T3.out))
      go_ret
      exact ⟨rfl, TV.out.trans' T3.out⟩
    · rw [if_neg hA]
      have hB : ¬ ag < c.n + 0 := by omega
      go_enter Tryz.func175, Tryz.ntmps175
      go_wp2
      unfold ebx at hV
      rw [← hV]
      clear hV
      go_quiet (fail)
      go_wp2_with (first
        | (go_at_call 199; refine (HF.out _).mono ?_; rintro e w2 ⟨rfl, t2⟩; have T2 := hid (((Touch.refl [] V).drewN nq).trans' t2); clear t2 k0 k1 k2 k3 k4 d0 d1 d2 d3 d4 d5 d6 d7 d8 d9 df; obtain ⟨k0, k1, k2, k3, k4⟩ := HK.out _ T2.out; obtain ⟨d0, d1, d2, d3, d4, d5, d6, d7, d8, d9, df⟩ := (HMs.out _ T2.out).cs)
        | (go_at_call 200; have q3 := T3; refine (H2.out _ _ c.n 0 (T3.out.alloc _) (by omega) (by omega) (by omega) (by omega) (by simp) (by simp)).mono ?_; rintro e w4 ⟨rfl, t4⟩; have T4 := hid ((T3.out.alloc _).trans' t4); clear t4 q3)
        | (go_at_call 200; refine (H1.out _ _ c.n (T2.out.alloc _) (by omega) (by omega) (by simp)).mono ?_; rintro e w3 ⟨rfl, t3⟩; have T3 := hid ((T2.out.alloc _).trans' t3); clear t3 k0 k1 k2 k3 k4; obtain ⟨k0, k1, k2, k3, k4⟩ := HK.out _ T3.out))
      go_ret
      exact ⟨rfl, TV.out.trans' T4.out⟩
end Go.Proofs.YtllchnancjgijaaGreat.Me
/- Contracts of see, Get and Look; no conditions but those that each states. -/
namespace Go.Proofs.YtllchnancjgijaaGreat.Me
open Go.RowKit Go.Sort Go.Maps Go.ChangeMaps Go.WideMaps
set_option maxRecDepth 100000
set_option linter.unusedVariables false
set_option linter.unusedSimpArgs false
def lookS (c : Cf) (now : Int) (xs : List En) (k : K) : Int × Int × O := match fnd xs k with
  | none => (0, 0, oz)
  | some v => (howC c v.1 (now - v.2), now - v.2, v.1)
def lv (p : Int × Int × O) : Value := sv p.1 p.2.1 p.2.2
theorem zero108 (w : World) : (zeroValue 215).run Tryz.prog w = .ok (.agg #[.int .i64 0, .int .i64 0, .int .i64 0, .int .i64 0, .int .i64 0]) w := by kernel_rfl
theorem Mb.look {w : World} {m b o : Nat} {G : List Nat} {c : Cf} {now : Int} {xs : List En} (h : Mb w m b o G c now xs) {k : K} (hk : Ok k) :
    (Instr.lookup 160 (.map (some b)) (kv k) true).run Tryz.prog w = .ok (.tuple #[((fnd xs k).map ev).getD (.agg #[.int .i64 0, .int .i64 0, .int .i64 0, .int .i64 0, .int .i64 0]), .bool (fnd xs k).isSome]) w := by
  have := h.mp.lookOk (t := 160) Tryz.underlying160 (zero108 w) hk
  unfold mpf at this
  simpa using this
theorem Mb.ats {w : World} {m b o : Nat} {G : List Nat} {c : Cf} {now : Int} {xs : List En} (h : Mb w m b o G c now xs) {k : K} {v : V} (hv : fnd xs k = some v) : right v.1 = true ∧ 0 ≤ v.2 ∧ v.2 ≤ now := h.gd.ok _ (fnd_mem hv)
theorem Mb.how {w : World} {m b o : Nat} {G : List Nat} {c : Cf} {now : Int} {xs : List En} (h : Mb w m b o G c now xs) {k : K} {v : V} (hv : fnd xs k = some v) :
    Calls Tryz.prog 175 #[PT m, ev v] w fun e w' => e = .returned (.int .i64 (howC c v.1 (now - v.2))) ∧ Touch [] w w' := by
  obtain ⟨q1, q2, q3⟩ := h.ats hv
  exact how65 w m c now b o h.md v q2 q3 h.gd.n1 h.gd.oc h.gd.wc
structure Sr (V : World) (r t n : Nat) (w' : World) : Prop where
  tc : Touch [r] V w'
  z : ∃ cs : Array Value, w'.heap[r]? = some (.cells cs t (0, 0)) ∧ cs.size = n
def gc (w : World) (r i : Nat) : Value := (w.cell? ⟨r, i, none⟩).getD undef
section
variable {V w' w'' : World} {r t n : Nat}
theorem Sr.mk' {cs : Array Value} (h : V.heap[r]? = some (.cells cs t (0, 0))) (hn : cs.size = n) : Sr V r t n V := ⟨Touch.refl _ _, cs, h, hn⟩
theorem Sr.go (h : Sr V r t n w') (k : Touch [] w' w'') : Sr V r t n w'' := by
  obtain ⟨cs, h1, h2⟩ := h.z
  exact ⟨h.tc.trans' (k.mono (fun _ e => by cases e)), cs, k.keep h1 (by simp), h2⟩
theorem Sr.drew (h : Sr V r t n w') : Sr V r t n w'.drew := h.go (Touch.refl _ _).drew
theorem Sr.set (h : Sr V r t n w') (i : Nat) (v : Value) : Sr V r t n (w'.setCell ⟨r, i, none⟩ v) := by
  obtain ⟨cs, h1, h2⟩ := h.z
  exact ⟨h.tc.setCell (Or.inl (by simp)) _, _, bset h1 _, by simp [h2]⟩
theorem Sr.cell (h : Sr V r t n w') (i : Nat) (hi : i < n) : w'.cell? ⟨r, i, none⟩ = some (gc w' r i) := by
  obtain ⟨cs, h1, h2⟩ := h.z
  have h3 : w'.cell? ⟨r, i, none⟩ = some (cs[i]'(by omega)) := by simp [World.cell?, h1, h2, hi]
  unfold gc
  rw [h3]
  rfl
theorem Sr.frozen (h : Sr V r t n w') (i : Nat) : w'.frozen? ⟨r, i, none⟩ = false := by
  obtain ⟨cs, h1, h2⟩ := h.z
  simp [World.frozen?, h1]
theorem Sr.keep (h : Sr V r t n w') {k : Nat} {ob : Obj} (hk : V.heap[k]? = some ob) (hr : k ≠ r) : w'.heap[k]? = some ob := h.tc.keep hk (by simpa using hr)
theorem Sr.new {w : World} (h : Sr V r t n w') (k : Touch [] w V) (hr : w.heap.size ≤ r) : Touch [] w w' := k.trans h.tc (fun i hi => by simp only [List.mem_singleton] at hi; subst hi; exact Or.inr hr)
end
theorem Sr.s6 {V w' : World} {r t n : Nat} (h : Sr V r t n w') (v0 v1 v2 v3 v4 v5 : Value) : Sr V r t n ((((((w'.setCell ⟨r, 0, none⟩ v0).setCell ⟨r, 1, none⟩ v1).setCell ⟨r, 2, none⟩ v2).setCell ⟨r, 3, none⟩ v3).setCell ⟨r, 4, none⟩ v4).setCell ⟨r, 5, none⟩ v5) := ((((((h.set 0 _).set 1 _).set 2 _).set 3 _).set 4 _).set 5 _)
theorem tset6 (w : World) (r : Nat) (v0 v1 v2 v3 v4 v5 : Value) : Touch [r] w ((((((w.setCell ⟨r, 0, none⟩ v0).setCell ⟨r, 1, none⟩ v1).setCell ⟨r, 2, none⟩ v2).setCell ⟨r, 3, none⟩ v3).setCell ⟨r, 4, none⟩ v4).setCell ⟨r, 5, none⟩ v5) := (((((((Touch.refl _ _).setCell (Or.inl (by simp)) _).setCell (Or.inl (by simp)) _).setCell (Or.inl (by simp)) _).setCell (Or.inl (by simp)) _).setCell (Or.inl (by simp)) _).setCell (Or.inl (by simp)) _)
set_option maxHeartbeats 1000000 in
theorem see50_no (w : World) (m b o : Nat) (G : List Nat) (c : Cf) (now : Int) (xs : List En) (h : Mb w m b o G c now xs) (k : K) (hk : Ok k) (hf : fnd xs k = none) :
    Calls Tryz.prog 130 #[PT m, kv k] w fun e w' => e = .returned (lv (0, 0, oz)) ∧ Touch [] w w' := by
  obtain ⟨V, hV⟩ : ∃ V, V = (w.alloc (bx k)).alloc (.cells #[.int .i64 0, .int .i64 0, .int .i64 0, .int .i64 0, .int .i64 0, .int .i64 0] 173) := ⟨_, rfl⟩
  have TV : Hid (Touch [] w V) := by rw [hV]; exact ((Touch.refl _ _).alloc _).alloc _
  have hB : V.heap[w.heap.size]? = some (bx k) := by rw [hV]; exact (Below.heap_alloc _ _ _ (by simp)).trans (heap_alloc_new w _)
  have hZ : V.heap[w.heap.size + 1]? = some (.cells #[.int .i64 0, .int .i64 0, .int .i64 0, .int .i64 0, .int .i64 0, .int .i64 0] 173 (0, 0)) := by
    rw [hV]
    have := heap_alloc_new (w.alloc (bx k)) (.cells #[.int .i64 0, .int .i64 0, .int .i64 0, .int .i64 0, .int .i64 0, .int .i64 0] 173)
    rwa [World.size_alloc] at this
  have sA : ∀ w', Touch [] V w' → w'.cell? ⟨m, 8, none⟩ = some (.map (some b)) := fun w' t => (h.keep0 (TV.out.trans' t)).md.cs.c8
  have sB : ∀ w', Touch [] V w' → w'.cell? ⟨w.heap.size, 0, none⟩ = some (.int .u16 k.1) := fun w' t => by
    have := t.keep hB (by simp)
    unfold bx at this
    simp [World.cell?, this]
  have sC : ∀ w', Touch [] V w' → w'.cell? ⟨w.heap.size, 1, none⟩ = some (.string k.2) := fun w' t => by
    have := t.keep hB (by simp)
    unfold bx at this
    simp [World.cell?, this]
  have sL : ∀ w', Touch [] V w' → (Instr.lookup 160 (.map (some b)) (.agg #[.int .u16 k.1, .string k.2]) true).run Tryz.prog w' = .ok (.tuple #[.agg #[.int .i64 0, .int .i64 0, .int .i64 0, .int .i64 0, .int .i64 0], .bool false]) w' := fun w' t => by
    have := (h.keep0 (TV.out.trans' t)).look hk
    rw [hf] at this
    exact this
  obtain ⟨U, hU⟩ : ∃ U, U = (V.alloc (.cells #[.int .i64 0, .int .i64 0, .int .i64 0, .int .i64 0, .int .i64 0] 215)).drew := ⟨_, rfl⟩
  have TU : Touch [] V U := by rw [hU]; exact ((Touch.refl _ _).alloc _).drew
  have hZ' := TU.keep hZ (by simp)
  have z0 : U.cell? ⟨w.heap.size + 1, 0, none⟩ = some (.int .i64 0) := by simp [World.cell?, hZ']
  have z1 : U.cell? ⟨w.heap.size + 1, 1, none⟩ = some (.int .i64 0) := by simp [World.cell?, hZ']
  have z2 : U.cell? ⟨w.heap.size + 1, 2, none⟩ = some (.int .i64 0) := by simp [World.cell?, hZ']
  have z3 : U.cell? ⟨w.heap.size + 1, 3, none⟩ = some (.int .i64 0) := by simp [World.cell?, hZ']
  have z4 : U.cell? ⟨w.heap.size + 1, 4, none⟩ = some (.int .i64 0) := by simp [World.cell?, hZ']
  have z5 : U.cell? ⟨w.heap.size + 1, 5, none⟩ = some (.int .i64 0) := by simp [World.cell?, hZ']
  have zf : ∀ i, U.frozen? ⟨w.heap.size + 1, i, none⟩ = false := fun i => by simp [World.frozen?, hZ']
  have TW := hid (TV.out.trans' TU)
  clear h hB hZ hZ' TU
  unfold PT kv lv sv oz
  go_enter Tryz.func130, Tryz.ntmps130
  go_wp2
  unfold bx at hV
  rw [← hV]
  clear hV hf hk
  have t0 : Touch [] V V.drew := (Touch.refl _ _).drew
  go_region_held3 (fun w' => Touch [] V w') (repeat (first | assumption | exact Touch.refl _ _ | apply Touch.alloc | apply Touch.drew | (refine Touch.setCell ?_ (Or.inr (by simp)) _))) (fail)
  all_goals
    clear sA sB sC sL t0
    rw [← hU]
    clear hU
    go_wp2
    refine bodyPost_ret (v := .agg #[.int .i64 0, .int .i64 0, .int .i64 0, .int .i64 0, .int .i64 0, .int .i64 0]) (by simp [results, Tryz.results130, go_sem, z0, z1, z2, z3, z4, z5]) rfl ⟨rfl, ?_⟩
    refine TW.out.trans (G := [w.heap.size + 1]) ?_ (fun i hi => by simp only [List.mem_singleton] at hi; subst hi; exact Or.inr (Nat.le_succ _))
    exact tset6 _ _ _ _ _ _ _ _
end Go.Proofs.YtllchnancjgijaaGreat.Me
/- Contracts of see, Get and Look; no conditions but those that each states. -/
namespace Go.Proofs.YtllchnancjgijaaGreat.Me
open Go.RowKit Go.Sort Go.Maps Go.ChangeMaps Go.WideMaps
set_option maxRecDepth 100000
set_option linter.unusedVariables false
set_option linter.unusedSimpArgs false
set_option maxHeartbeats 4000000 in
theorem see50_yes (w : World) (m b o : Nat) (G : List Nat) (c : Cf) (now : Int) (xs : List En) (h : Mb w m b o G c now xs) (k : K) (hk : Ok k) (v : V) (hf : fnd xs k = some v) :
    Calls Tryz.prog 130 #[PT m, kv k] w fun e w' => e = .returned (lv (howC c v.1 (now - v.2), now - v.2, v.1)) ∧ Touch [] w w' := by
  obtain ⟨V, hV⟩ : ∃ V, V = (w.alloc (bx k)).alloc (.cells #[.int .i64 0, .int .i64 0, .int .i64 0, .int .i64 0, .int .i64 0, .int .i64 0] 173) := ⟨_, rfl⟩
  have TV : Hid (Touch [] w V) := by rw [hV]; exact ((Touch.refl _ _).alloc _).alloc _
  have hB : V.heap[w.heap.size]? = some (bx k) := by rw [hV]; exact (Below.heap_alloc _ _ _ (by simp)).trans (heap_alloc_new w _)
  have hZ : V.heap[w.heap.size + 1]? = some (.cells #[.int .i64 0, .int .i64 0, .int .i64 0, .int .i64 0, .int .i64 0, .int .i64 0] 173 (0, 0)) := by
    rw [hV]
    have := heap_alloc_new (w.alloc (bx k)) (.cells #[.int .i64 0, .int .i64 0, .int .i64 0, .int .i64 0, .int .i64 0, .int .i64 0] 173)
    rwa [World.size_alloc] at this
  have sA : ∀ w', Touch [] V w' → w'.cell? ⟨m, 8, none⟩ = some (.map (some b)) := fun w' t => (h.keep0 (TV.out.trans' t)).md.cs.c8
  have sB : ∀ w', Touch [] V w' → w'.cell? ⟨w.heap.size, 0, none⟩ = some (.int .u16 k.1) := fun w' t => by
    have := t.keep hB (by simp)
    unfold bx at this
    simp [World.cell?, this]
  have sC : ∀ w', Touch [] V w' → w'.cell? ⟨w.heap.size, 1, none⟩ = some (.string k.2) := fun w' t => by
    have := t.keep hB (by simp)
    unfold bx at this
    simp [World.cell?, this]
  have sL : ∀ w', Touch [] V w' → (Instr.lookup 160 (.map (some b)) (.agg #[.int .u16 k.1, .string k.2]) true).run Tryz.prog w' = .ok (.tuple #[.agg #[.int .i64 v.1.1, .int .i64 v.1.2.1, .int .i64 v.1.2.2.1, .int .i64 v.1.2.2.2, .int .i64 v.2], .bool true]) w' := fun w' t => by
    have := (h.keep0 (TV.out.trans' t)).look hk
    rw [hf] at this
    exact this
  obtain ⟨U, hU⟩ : ∃ U, U = (V.alloc (ebx v)).drew := ⟨_, rfl⟩
  have TU : Touch [] V U := by rw [hU]; exact ((Touch.refl _ _).alloc _).drew
  have hE : U.heap[V.heap.size]? = some (ebx v) := by rw [hU]; exact heap_alloc_new V _
  have hZ' := TU.keep hZ (by simp)
  have hlt : w.heap.size + 1 < V.heap.size := block_lt hZ
  have HS : Hid (Sr U (w.heap.size + 1) 173 6 U) := Sr.mk' hZ' rfl
  have hmr : m < w.heap.size := h.md.lt
  have rA : ∀ w', Sr U (w.heap.size + 1) 173 6 w' → w'.cell? ⟨m, 7, none⟩ = some (.int .i64 now) := fun w' s => by
    have hm := TU.keep (TV.out.keep h.md (by simp)) (by simp)
    exact (show Md w' m c now b o from s.keep hm (by omega)).cs.c7
  have rE : ∀ w', Sr U (w.heap.size + 1) 173 6 w' → w'.heap[V.heap.size]? = some (ebx v) := fun w' s => s.keep hE (by omega)
  have r0 : ∀ w', Sr U (w.heap.size + 1) 173 6 w' → w'.cell? ⟨V.heap.size, 0, none⟩ = some (.int .i64 v.1.1) := fun w' s => by have := rE w' s; unfold ebx at this; simp [World.cell?, this]
  have r1 : ∀ w', Sr U (w.heap.size + 1) 173 6 w' → w'.cell? ⟨V.heap.size, 1, none⟩ = some (.int .i64 v.1.2.1) := fun w' s => by have := rE w' s; unfold ebx at this; simp [World.cell?, this]
  have r2 : ∀ w', Sr U (w.heap.size + 1) 173 6 w' → w'.cell? ⟨V.heap.size, 2, none⟩ = some (.int .i64 v.1.2.2.1) := fun w' s => by have := rE w' s; unfold ebx at this; simp [World.cell?, this]
  have r3 : ∀ w', Sr U (w.heap.size + 1) 173 6 w' → w'.cell? ⟨V.heap.size, 3, none⟩ = some (.int .i64 v.1.2.2.2) := fun w' s => by have := rE w' s; unfold ebx at this; simp [World.cell?, this]
  have r4 : ∀ w', Sr U (w.heap.size + 1) 173 6 w' → w'.cell? ⟨V.heap.size, 4, none⟩ = some (.int .i64 v.2) := fun w' s => by have := rE w' s; unfold ebx at this; simp [World.cell?, this]
  have y0 : ∀ w', Sr U (w.heap.size + 1) 173 6 w' → w'.cell? ⟨w.heap.size + 1, 0, none⟩ = some (gc w' (w.heap.size + 1) 0) := fun w' s => s.cell 0 (by omega)
  have y1 : ∀ w', Sr U (w.heap.size + 1) 173 6 w' → w'.cell? ⟨w.heap.size + 1, 1, none⟩ = some (gc w' (w.heap.size + 1) 1) := fun w' s => s.cell 1 (by omega)
  have y2 : ∀ w', Sr U (w.heap.size + 1) 173 6 w' → w'.cell? ⟨w.heap.size + 1, 2, none⟩ = some (gc w' (w.heap.size + 1) 2) := fun w' s => s.cell 2 (by omega)
  have y3 : ∀ w', Sr U (w.heap.size + 1) 173 6 w' → w'.cell? ⟨w.heap.size + 1, 3, none⟩ = some (gc w' (w.heap.size + 1) 3) := fun w' s => s.cell 3 (by omega)
  have y4 : ∀ w', Sr U (w.heap.size + 1) 173 6 w' → w'.cell? ⟨w.heap.size + 1, 4, none⟩ = some (gc w' (w.heap.size + 1) 4) := fun w' s => s.cell 4 (by omega)
  have y5 : ∀ w', Sr U (w.heap.size + 1) 173 6 w' → w'.cell? ⟨w.heap.size + 1, 5, none⟩ = some (gc w' (w.heap.size + 1) 5) := fun w' s => s.cell 5 (by omega)
  have yf : ∀ w', Sr U (w.heap.size + 1) 173 6 w' → ∀ i, w'.frozen? ⟨w.heap.size + 1, i, none⟩ = false := fun w' s i => s.frozen i
  have HH : Hid (∀ w', Sr U (w.heap.size + 1) 173 6 w' → Calls Tryz.prog 175 #[PT m, ev v] w' fun e w'' => e = .returned (.int .i64 (howC c v.1 (now - v.2))) ∧ Touch [] w' w'') := fun w' s => (h.keep ((TV.out.trans' TU).mono (fun _ e => by cases e) |>.trans (G := [w.heap.size + 1]) s.tc (fun i hi => Or.inl hi)) (fun k' hk' => by
    have := h.lt k' hk'
    simp only [List.mem_singleton]
    omega)).how hf
  have TW : Hid (Touch [] w U) := TV.out.trans' TU
  have hw : IntKind.i64.wrap (now - v.2) = now - v.2 := by
    obtain ⟨q1, q2, q3⟩ := h.ats hf
    have := h.gd.n1
    unfold MT at this
    simp [IntKind.wrap, IntKind.bits, IntKind.signed, IntKind.min, IntKind.max]
    omega
  clear h hB hZ TU hE hZ' rE hf hk hmr
  unfold PT ev at HH
  unfold PT kv lv sv
  simp only
  generalize howC c v.1 (now - v.2) = hh at *
  go_enter Tryz.func130, Tryz.ntmps130
  go_wp2
  unfold bx at hV
  rw [← hV]
  clear hV
  have t0 : Touch [] V V.drew := (Touch.refl _ _).drew
  go_region_held3 (fun w' => Touch [] V w') (repeat (first | assumption | exact Touch.refl _ _ | apply Touch.alloc | apply Touch.drew | (refine Touch.setCell ?_ (Or.inr (by simp)) _))) (fail)
  all_goals
    clear sA sB sC sL t0
    unfold ebx at hU
    rw [← hU]
    clear hU
    have s0 := HS.out.drew
    go_upto_region 4 with fail
    refine wp_region_H (S := fun w' => Sr U (w.heap.size + 1) 173 6 w') (by kernel_rfl) ?_
    refine wpH_take (i := 0) (v := (.pointer (some ⟨m, 0, none⟩))) (some 19) rfl rfl (by kernel_rfl) (by kernel_rfl) (by kernel_rfl) (fun _ _ _ h => h) (Or.inl ⟨by rfl, fun w' hS => (by go_simp)⟩) s0 ?_
    try simp only [Go.Act.put, List.setIfInBounds_toArray, List.set_cons_zero, List.set_cons_succ]
    refine wpH_take (i := 1) (v := (.agg #[.int .i64 v.1.1, .int .i64 v.1.2.1, .int .i64 v.1.2.2.1, .int .i64 v.1.2.2.2, .int .i64 v.2])) (some 20) rfl rfl (by kernel_rfl) (by kernel_rfl) (by kernel_rfl) (fun _ _ _ h => h) (Or.inl ⟨by rfl, fun w' hS => (by have z0 := r0 _ hS; have z1 := r1 _ hS; have z2 := r2 _ hS; have z3 := r3 _ hS; have z4 := r4 _ hS; go_simp)⟩) s0 ?_
    try simp only [Go.Act.put, List.setIfInBounds_toArray, List.set_cons_zero, List.set_cons_succ]
    refine wpH_take (i := 3) (v := (.pointer (some ⟨m, 0, none⟩))) (some 22) rfl rfl (by kernel_rfl) (by kernel_rfl) (by kernel_rfl) (fun _ _ _ h => h) (Or.inl ⟨by rfl, fun w' hS => (by go_simp)⟩) s0 ?_
    try simp only [Go.Act.put, List.setIfInBounds_toArray, List.set_cons_zero, List.set_cons_succ]
    refine wpH_take (i := 4) (v := (.pointer (some ⟨m, 0, none⟩))) (some 23) rfl rfl (by kernel_rfl) (by kernel_rfl) (by kernel_rfl) (fun _ _ _ h => h) (Or.inl ⟨by rfl, fun w' hS => (by go_simp)⟩) s0 ?_
    try simp only [Go.Act.put, List.setIfInBounds_toArray, List.set_cons_zero, List.set_cons_succ]
    refine wpH_take (i := 5) (v := (.pointer (some ⟨m, 7, none⟩))) (some 24) rfl rfl (by kernel_rfl) (by kernel_rfl) (by kernel_rfl) (fun _ _ _ h => h) (Or.inl ⟨by rfl, fun w' hS => (by go_simp)⟩) s0 ?_
    try simp only [Go.Act.put, List.setIfInBounds_toArray, List.set_cons_zero, List.set_cons_succ]
    refine wpH_take (i := 6) (v := (.int .i64 now)) (some 25) rfl rfl (by kernel_rfl) (by kernel_rfl) (by kernel_rfl) (fun _ _ _ h => h) (Or.inl ⟨by rfl, fun w' hS => (by have z0 := rA _ hS; go_simp)⟩) s0 ?_
    try simp only [Go.Act.put, List.setIfInBounds_toArray, List.set_cons_zero, List.set_cons_succ]
    refine wpH_take (i := 7) (v := (.pointer (some ⟨V.heap.size, 4, none⟩))) (some 26) rfl rfl (by kernel_rfl) (by kernel_rfl) (by kernel_rfl) (fun _ _ _ h => h) (Or.inl ⟨by rfl, fun w' hS => (by go_simp)⟩) s0 ?_
    try simp only [Go.Act.put, List.setIfInBounds_toArray, List.set_cons_zero, List.set_cons_succ]
    refine wpH_take (i := 8) (v := (.int .i64 v.2)) (some 27) rfl rfl (by kernel_rfl) (by kernel_rfl) (by kernel_rfl) (fun _ _ _ h => h) (Or.inl ⟨by rfl, fun w' hS => (by have z0 := r4 _ hS; go_simp)⟩) s0 ?_
    try simp only [Go.Act.put, List.setIfInBounds_toArray, List.set_cons_zero, List.set_cons_succ]
    refine wpH_take (i := 9) (v := (.int .i64 (now - v.2))) (some 28) rfl rfl (by kernel_rfl) (by kernel_rfl) (by kernel_rfl) (fun _ _ _ h => h) (Or.inl ⟨by rfl, fun w' hS => (by go_simp)⟩) s0 ?_
    try simp only [Go.Act.put, List.setIfInBounds_toArray, List.set_cons_zero, List.set_cons_succ]
    refine wpH_take (i := 10) (v := (.pointer (some ⟨V.heap.size, 0, none⟩))) (some 29) rfl rfl (by kernel_rfl) (by kernel_rfl) (by kernel_rfl) (fun _ _ _ h => h) (Or.inl ⟨by rfl, fun w' hS => (by go_simp)⟩) s0 ?_
    try simp only [Go.Act.put, List.setIfInBounds_toArray, List.set_cons_zero, List.set_cons_succ]
    refine wpH_take (i := 11) (v := (.agg #[.int .i64 v.1.1, .int .i64 v.1.2.1, .int .i64 v.1.2.2.1, .int .i64 v.1.2.2.2])) (some 30) rfl rfl (by kernel_rfl) (by kernel_rfl) (by kernel_rfl) (fun _ _ _ h => h) (Or.inl ⟨by rfl, fun w' hS => (by have z0 := r0 _ hS; have z1 := r1 _ hS; have z2 := r2 _ hS; have z3 := r3 _ hS; go_simp)⟩) s0 ?_
    try simp only [Go.Act.put, List.setIfInBounds_toArray, List.set_cons_zero, List.set_cons_succ]
    refine wpH_call (i := 2) (o := { dst := some 21, op := Op.call { callee := Callee.value (Operand.func 175), args := #[Operand.tmp 19, Operand.tmp 20], argTypes := #[91, 215] }, type := 3, pos := _, after := #[{ on := 0, ground := Ground.data }, { on := 1, ground := Ground.data }], guard := none }) (by kernel_rfl) rfl (fun K' hK => ?_)
    rw [if_pos (by rfl)]
    go_simp
    refine (HH.out _ s0).mono ?_
    rintro e w1 ⟨rfl, t1⟩
    have s1 := s0.go t1
    clear t1
    obtain ⟨q0, q1, q2, q3, q4, q5⟩ : w1.cell? ⟨w.heap.size + 1, 0, none⟩ = some (gc w1 (w.heap.size + 1) 0) ∧ w1.cell? ⟨w.heap.size + 1, 1, none⟩ = some (gc w1 (w.heap.size + 1) 1) ∧ w1.cell? ⟨w.heap.size + 1, 2, none⟩ = some (gc w1 (w.heap.size + 1) 2) ∧ w1.cell? ⟨w.heap.size + 1, 3, none⟩ = some (gc w1 (w.heap.size + 1) 3) ∧ w1.cell? ⟨w.heap.size + 1, 4, none⟩ = some (gc w1 (w.heap.size + 1) 4) ∧ w1.cell? ⟨w.heap.size + 1, 5, none⟩ = some (gc w1 (w.heap.size + 1) 5) := ⟨y0 _ s1, y1 _ s1, y2 _ s1, y3 _ s1, y4 _ s1, y5 _ s1⟩
    have qf := yf _ s1
    refine hK.out _ _ s1 ?_
    clear hK
    try simp only [Go.Act.put, List.setIfInBounds_toArray, List.set_cons_zero, List.set_cons_succ]
    refine wpH_take (i := 12) (v := (.agg #[.int .i64 hh, .int .i64 (now - v.2), .int .i64 v.1.1, .int .i64 v.1.2.1, .int .i64 v.1.2.2.1, .int .i64 v.1.2.2.2])) (some 31) rfl rfl (by kernel_rfl) (by kernel_rfl) (by kernel_rfl) (fun _ _ _ h => h) (Or.inl ⟨by rfl, fun w' hS => (by go_simp)⟩) s1 ?_
    try simp only [Go.Act.put, List.setIfInBounds_toArray, List.set_cons_zero, List.set_cons_succ]
    refine wpH_call (i := 13) (o := { dst := none, op := Op.store 173 (Operand.tmp 4) (Operand.tmp 31), type := 0, pos := _, after := #[{ on := 12, ground := Ground.data }, { on := 2, ground := Ground.chain }, { on := 0, ground := Ground.phase }, { on := 1, ground := Ground.phase }, { on := 2, ground := Ground.phase }, { on := 3, ground := Ground.phase }, { on := 4, ground := Ground.phase }, { on := 5, ground := Ground.phase }, { on := 6, ground := Ground.phase }, { on := 7, ground := Ground.phase }, { on := 8, ground := Ground.phase }, { on := 9, ground := Ground.phase }, { on := 10, ground := Ground.phase }, { on := 11, ground := Ground.phase }, { on := 12, ground := Ground.phase }], guard := none }) (by kernel_rfl) rfl (fun K' hK => ?_)
    rw [if_pos (by rfl)]
    go_simp
    refine hK.out _ _ (Sr.s6 s1 _ _ _ _ _ _) ?_
    clear hK
    try simp only [Go.Act.put, List.setIfInBounds_toArray, List.set_cons_zero, List.set_cons_succ]
    refine wpAnyH_done (by kernel_rfl) ?_ _
    have S1 := hid s1
    clear rA r0 r1 r2 r3 r4 y0 y1 y2 y3 y4 y5 yf s0 s1 qf
    go_wp2
    refine bodyPost_ret (v := .agg #[.int .i64 hh, .int .i64 (now - v.2), .int .i64 v.1.1, .int .i64 v.1.2.1, .int .i64 v.1.2.2.1, .int .i64 v.1.2.2.2]) (by simp [results, Tryz.results130, go_sem, q0, q1, q2, q3, q4, q5]) rfl ⟨rfl, ?_⟩
    refine (S1.out.new TW.out (Nat.le_succ _)).trans (G := [w.heap.size + 1]) ?_ (fun i hi => by simp only [List.mem_singleton] at hi; subst hi; exact Or.inr (Nat.le_succ _))
    exact tset6 _ _ _ _ _ _ _ _
end Go.Proofs.YtllchnancjgijaaGreat.Me
/- Contracts of Get, Look and Tell; no conditions but those that each states. -/
namespace Go.Proofs.YtllchnancjgijaaGreat.Me
open Go.RowKit Go.Sort Go.Maps Go.ChangeMaps Go.WideMaps
set_option maxRecDepth 100000
set_option linter.unusedVariables false
set_option linter.unusedSimpArgs false
theorem seeM (w : World) (m : Nat) (F : List Nat) (c : Cf) (now : Int) (xs : List En) (h : Mq w m F c now xs) (k : K) (hk : Ok k) :
    Calls Tryz.prog 130 #[PT m, kv k] w fun e w' => e = .returned (lv (lookS c now xs k)) ∧ Touch [] w w' := by
  obtain ⟨b, o, G, rfl, h⟩ := h
  unfold lookS
  cases hf : fnd xs k with
  | none => exact see50_no w m b o G c now xs h k hk hf
  | some v => exact see50_yes w m b o G c now xs h k hk v hf
end Go.Proofs.YtllchnancjgijaaGreat.Me
/- The contract of Look; a key's space is a number of 16 bits, a name's length fits. -/
namespace Go.Proofs.YtllchnancjgijaaGreat.Me
open Go.RowKit Go.Sort Go.Maps Go.ChangeMaps Go.WideMaps
set_option maxRecDepth 100000
set_option linter.unusedVariables false
set_option linter.unusedSimpArgs false
theorem tickE_ok {now n : Int} (h : tickE now n = 0) : now ≤ n ∧ n ≤ MT := by
  unfold tickE isT at h
  unfold MT
  split at h
  · rename_i h1
    simp only [Bool.and_eq_true, decide_eq_true_eq] at h1
    split at h <;> omega
  · omega
theorem Mb.time {w : World} {m b o : Nat} {G : List Nat} {c : Cf} {now n : Int} {xs : List En} (h : Mb w m b o G c now xs) (h1 : now ≤ n) (h2 : n ≤ MT) : Mb (w.setCell ⟨m, 7, none⟩ (.int .i64 n)) m b o G c n xs := by
  have t : Touch [m] w (w.setCell ⟨m, 7, none⟩ (.int .i64 n)) := (Touch.refl _ _).setCell (Or.inl (by simp)) _
  refine ⟨h.md.set7 n, h.mp.kept (t.block b h.mp.lt (by simpa using h.mb)), h.oq.keep t (fun k hk hh => ?_), h.gd.later h1 h2, h.bg⟩
  simp only [List.mem_singleton] at hh
  subst hh
  exact h.mg hk
theorem Mq.time {w : World} {m : Nat} {F : List Nat} {c : Cf} {now n : Int} {xs : List En} (h : Mq w m F c now xs) (h1 : now ≤ n) (h2 : n ≤ MT) : Mc w m F c n xs (w.setCell ⟨m, 7, none⟩ (.int .i64 n)) := by
  obtain ⟨b, o, G, rfl, h⟩ := h
  exact ⟨_, ⟨b, o, G, rfl, h.time h1 h2⟩, (Touch.refl _ _).setCell (Or.inl (by simp)) _, Nf.refl _ _⟩
theorem Mq.mem {w : World} {m : Nat} {F : List Nat} {c : Cf} {now : Int} {xs : List En} (h : Mq w m F c now xs) : m ∈ F := by
  obtain ⟨b, o, G, rfl, h⟩ := h
  simp
theorem Mq.tick {w : World} {m : Nat} {F : List Nat} {c : Cf} {now : Int} {xs : List En} (h : Mq w m F c now xs) (n : Int) : Calls Tryz.prog 116 #[PT m, .int .i64 n] w fun e w' => e = .returned (.int .i64 (tickE now n)) ∧ w' = w := by
  obtain ⟨b, o, G, rfl, h⟩ := h
  exact tick45 w m c now n b o h.md
theorem Mq.c7 {w : World} {m : Nat} {F : List Nat} {c : Cf} {now : Int} {xs : List En} (h : Mq w m F c now xs) : w.cell? ⟨m, 7, none⟩ = some (.int .i64 now) ∧ w.frozen? ⟨m, 7, none⟩ = false := by
  obtain ⟨b, o, G, rfl, h⟩ := h
  exact ⟨h.md.cs.c7, h.md.cs.f7⟩
def askE (now n : Int) (k : K) : Int := if tickE now n = 0 then (if 64 < k.2.size then 20 else 0) else tickE now n
def zbx : Obj := .cells #[.int .i64 0, .int .i64 0, .int .i64 0, .int .i64 0, .int .i64 0, .int .i64 0] 173
structure Z6 (w : World) (r : Nat) : Prop where
  z0 : w.cell? ⟨r, 0, none⟩ = some (.int .i64 0)
  z1 : w.cell? ⟨r, 1, none⟩ = some (.int .i64 0)
  z2 : w.cell? ⟨r, 2, none⟩ = some (.int .i64 0)
  z3 : w.cell? ⟨r, 3, none⟩ = some (.int .i64 0)
  z4 : w.cell? ⟨r, 4, none⟩ = some (.int .i64 0)
  z5 : w.cell? ⟨r, 5, none⟩ = some (.int .i64 0)
  f0 : w.frozen? ⟨r, 0, none⟩ = false
  f1 : w.frozen? ⟨r, 1, none⟩ = false
  f2 : w.frozen? ⟨r, 2, none⟩ = false
  f3 : w.frozen? ⟨r, 3, none⟩ = false
  f4 : w.frozen? ⟨r, 4, none⟩ = false
  f5 : w.frozen? ⟨r, 5, none⟩ = false
theorem Z6.mk' {w : World} {r : Nat} (h : w.heap[r]? = some zbx) : Z6 w r := by
  unfold zbx at h
  constructor <;> simp [World.cell?, World.frozen?, h]
section
variable {w : World} {m : Nat} {F : List Nat} {c : Cf} {now : Int} {xs : List En}
theorem look21_tick (w : World) (m : Nat) (F : List Nat) (c : Cf) (now n : Int) (xs : List En) (h : Mq w m F c now xs) (k : K) (ht : tickE now n ≠ 0) :
    Calls Tryz.prog 88 #[PT m, .int .i64 n, kv k] w fun e w' => e = .returned (.tuple #[lv (0, 0, oz), .int .i64 (tickE now n)]) ∧ Touch [] w w' := by
  obtain ⟨V, hV⟩ : ∃ V, V = (w.alloc (bx k)).alloc zbx := ⟨_, rfl⟩
  have TV : Hid (Touch [] w V) := by rw [hV]; exact ((Touch.refl _ _).alloc _).alloc _
  have hZ : V.heap[w.heap.size + 1]? = some zbx := by
    rw [hV]
    have := heap_alloc_new (w.alloc (bx k)) zbx
    rwa [World.size_alloc] at this
  obtain ⟨z0, z1, z2, z3, z4, z5, f0, f1, f2, f3, f4, f5⟩ := Z6.mk' hZ
  have HT := hid ((h.keep0 TV.out).tick n)
  clear h hZ
  have hb : ((tickE now n) == 0) = false := by simp [ht]
  clear ht
  generalize tickE now n = E at *
  unfold PT kv lv sv oz at *
  go_enter Tryz.func88, Tryz.ntmps88
  go_upto_region 1 with fail
  unfold bx zbx at hV
  rw [← hV]
  clear hV
  go_wp2_with (go_at_call 116; refine HT.out.mono ?_; rintro e w2 ⟨rfl, e2⟩; rw [e2]; clear e2 w2)
  refine bodyPost_ret (v := .tuple #[.agg #[.int .i64 0, .int .i64 0, .int .i64 0, .int .i64 0, .int .i64 0, .int .i64 0], .int .i64 E]) (by simp [results, Tryz.results88, go_sem, z0, z1, z2, z3, z4, z5]) rfl ⟨rfl, ?_⟩
  refine TV.out.trans (G := [w.heap.size + 1]) ?_ (fun i hi => by simp only [List.mem_singleton] at hi; subst hi; exact Or.inr (Nat.le_succ _))
  exact tset6 _ _ _ _ _ _ _ _
theorem look21_key (w : World) (m : Nat) (F : List Nat) (c : Cf) (now n : Int) (xs : List En) (h : Mq w m F c now xs) (k : K) (ht : tickE now n = 0) (hk : 64 < k.2.size) :
    Calls Tryz.prog 88 #[PT m, .int .i64 n, kv k] w fun e w' => e = .returned (.tuple #[lv (0, 0, oz), .int .i64 20]) ∧ Touch [] w w' := by
  obtain ⟨V, hV⟩ : ∃ V, V = (w.alloc (bx k)).alloc zbx := ⟨_, rfl⟩
  have TV : Hid (Touch [] w V) := by rw [hV]; exact ((Touch.refl _ _).alloc _).alloc _
  have hB : V.heap[w.heap.size]? = some (bx k) := by rw [hV]; exact (Below.heap_alloc _ _ _ (by simp)).trans (heap_alloc_new w _)
  have hZ : V.heap[w.heap.size + 1]? = some zbx := by
    rw [hV]
    have := heap_alloc_new (w.alloc (bx k)) zbx
    rwa [World.size_alloc] at this
  have HZ : Hid (∀ w2, Touch [] V w2 → Z6 w2 (w.heap.size + 1)) := fun w2 t => Z6.mk' (t.keep hZ (by simp))
  unfold bx at hB
  have b0 : V.cell? ⟨w.heap.size, 0, none⟩ = some (.int .u16 k.1) := by simp [World.cell?, hB]
  have b1 : V.cell? ⟨w.heap.size, 1, none⟩ = some (.string k.2) := by simp [World.cell?, hB]
  have HT := hid ((h.keep0 TV.out).tick n)
  rw [ht] at HT
  have HC := hid (check29_no V k hk)
  clear h hZ hB ht hk
  unfold PT kv lv sv oz at *
  go_enter Tryz.func88, Tryz.ntmps88
  go_upto_region 1 with fail
  unfold bx zbx at hV
  rw [← hV]
  clear hV
  go_wp2_with (first
    | (go_at_call 116; refine HT.out.mono ?_; rintro e w2 ⟨rfl, e2⟩; rw [e2]; clear e2 w2)
    | (go_at_call 85; refine HC.out.mono ?_; rintro e w3 ⟨rfl, t3⟩; have T3 := hid t3; obtain ⟨z0, z1, z2, z3, z4, z5, f0, f1, f2, f3, f4, f5⟩ := HZ.out _ t3; clear t3))
  refine bodyPost_ret (v := .tuple #[.agg #[.int .i64 0, .int .i64 0, .int .i64 0, .int .i64 0, .int .i64 0, .int .i64 0], .int .i64 20]) (by simp [results, Tryz.results88, go_sem, z0, z1, z2, z3, z4, z5]) rfl ⟨rfl, ?_⟩
  refine (TV.out.trans' T3.out).trans (G := [w.heap.size + 1]) ?_ (fun i hi => by simp only [List.mem_singleton] at hi; subst hi; exact Or.inr (Nat.le_succ _))
  exact tset6 _ _ _ _ _ _ _ _
set_option maxHeartbeats 1000000 in
theorem look21_ok (w : World) (m : Nat) (F : List Nat) (c : Cf) (now n : Int) (xs : List En) (h : Mq w m F c now xs) (k : K) (ok : Ok k) (ht : tickE now n = 0) (hk : k.2.size ≤ 64) :
    Calls Tryz.prog 88 #[PT m, .int .i64 n, kv k] w fun e w' => e = .returned (.tuple #[lv (lookS c n xs k), .int .i64 0]) ∧ Mc w m F c n xs w' := by
  obtain ⟨V, hV⟩ : ∃ V, V = (w.alloc (bx k)).alloc zbx := ⟨_, rfl⟩
  have TV : Hid (Touch [] w V) := by rw [hV]; exact ((Touch.refl _ _).alloc _).alloc _
  have hB : V.heap[w.heap.size]? = some (bx k) := by rw [hV]; exact (Below.heap_alloc _ _ _ (by simp)).trans (heap_alloc_new w _)
  have hZ : V.heap[w.heap.size + 1]? = some zbx := by
    rw [hV]
    have := heap_alloc_new (w.alloc (bx k)) zbx
    rwa [World.size_alloc] at this
  have hF := h.lt
  obtain ⟨q1, q2⟩ := tickE_ok ht
  have HK : Hid (∀ w2, Touch [] V w2 → (w2.cell? ⟨w.heap.size, 0, none⟩ = some (.int .u16 k.1) ∧ w2.cell? ⟨w.heap.size, 1, none⟩ = some (.string k.2)) ∧ w2.cell? ⟨m, 7, none⟩ = some (.int .i64 now) ∧ w2.frozen? ⟨m, 7, none⟩ = false) := fun w2 t => by
    have := t.keep hB (by simp)
    unfold bx at this
    exact ⟨by simp [World.cell?, this], (h.keep0 (TV.out.trans' t)).c7⟩
  have hm : m < w.heap.size := hF m h.mem
  have hne : w.heap.size ≠ m := by omega
  have HS : Hid (∀ w2, Touch [] V w2 → Calls Tryz.prog 130 #[PT m, kv k] (w2.setCell ⟨m, 7, none⟩ (.int .i64 n)) fun e w' => e = .returned (lv (lookS c n xs k)) ∧ Z6 w' (w.heap.size + 1) ∧ ∀ w5, Touch [w.heap.size + 1] w' w5 → Mc w m F c n xs w5) := fun w2 t => by
    have C := (h.keep0 (TV.out.trans' t)).time q1 q2
    obtain ⟨F', C1, C2, C3⟩ := C
    refine (seeM _ m F' c n xs C1 k ok).mono ?_
    rintro e w4 ⟨rfl, t4⟩
    have tm : Touch [m] w2 (w2.setCell ⟨m, 7, none⟩ (.int .i64 n)) := (Touch.refl _ _).setCell (Or.inl (by simp)) _
    refine ⟨rfl, Z6.mk' (t4.keep (tm.keep (t.keep hZ (by simp)) (by simp; omega)) (by simp)), fun w5 t5 => ?_⟩
    exact (Mc.keep0 (⟨F', C1, C2, C3⟩ : Mc w2 m F c n xs _) t4).own t5 (TV.out.trans' t) (Nat.le_succ _) (by have := block_lt (t.keep hZ (by simp)); omega) hF
  have HT := hid ((h.keep0 TV.out).tick n)
  rw [ht] at HT
  have HC := hid (check29_ok V k hk)
  obtain ⟨⟨b0, b1⟩, g0, g1⟩ := HK.out V (Touch.refl _ _)
  clear h hZ hB ht hk hF q1 q2
  obtain ⟨s, hs⟩ : ∃ s, s = lookS c n xs k := ⟨_, rfl⟩
  rw [← hs] at HS ⊢
  clear hs
  obtain ⟨sh, sa, so⟩ := s
  unfold PT kv lv sv at *
  simp only at HS ⊢
  go_enter Tryz.func88, Tryz.ntmps88
  go_upto_region 1 with fail
  unfold bx zbx at hV
  rw [← hV]
  clear hV
  go_wp2_with (first
    | (go_at_call 116; refine HT.out.mono ?_; rintro e w2 ⟨rfl, e2⟩; rw [e2]; clear e2 w2)
    | (go_at_call 85; refine HC.out.mono ?_; rintro e w3 ⟨rfl, t3⟩; have T3 := hid t3; clear b0 b1 g0 g1; obtain ⟨⟨b0, b1⟩, g0, g1⟩ := HK.out _ t3; clear t3)
    | (go_at_call 130; refine (HS.out _ T3.out).mono ?_; rintro e w4 ⟨rfl, hz, hc⟩; obtain ⟨z0, z1, z2, z3, z4, z5, f0, f1, f2, f3, f4, f5⟩ := hz; have HC4 := hid hc; clear hc))
  refine bodyPost_ret (v := .tuple #[.agg #[.int .i64 sh, .int .i64 sa, .int .i64 so.1, .int .i64 so.2.1, .int .i64 so.2.2.1, .int .i64 so.2.2.2], .int .i64 0]) (by simp [results, Tryz.results88, go_sem, z0, z1, z2, z3, z4, z5]) rfl ⟨rfl, ?_⟩
  exact HC4.out _ (tset6 _ _ _ _ _ _ _ _)
end
def askR (c : Cf) (now n : Int) (xs : List En) (k : K) : Int × Int × O := if askE now n k = 0 then lookS c n xs k else (0, 0, oz)
def askN (now n : Int) (k : K) : Int := if askE now n k = 0 then n else now
theorem lookM (w : World) (m : Nat) (F : List Nat) (c : Cf) (now n : Int) (xs : List En) (h : Mq w m F c now xs) (k : K) (ok : Ok k) :
    Calls Tryz.prog 88 #[PT m, .int .i64 n, kv k] w fun e w' => e = .returned (.tuple #[lv (askR c now n xs k), .int .i64 (askE now n k)]) ∧ Mc w m F c (askN now n k) xs w' := by
  by_cases ht : tickE now n = 0
  · by_cases hk : 64 < k.2.size
    · have e : askE now n k = 20 := by unfold askE; rw [if_pos ht, if_pos hk]
      unfold askR askN
      rw [e, if_neg (by decide), if_neg (by decide)]
      exact (look21_key w m F c now n xs h k ht hk).mono fun e w' ⟨he, t⟩ => ⟨he, (Mc.refl h).keep0 t⟩
    · have e : askE now n k = 0 := by unfold askE; rw [if_pos ht, if_neg hk]
      unfold askR askN
      rw [e, if_pos rfl, if_pos rfl]
      exact look21_ok w m F c now n xs h k ok ht (by omega)
  · have e : askE now n k = tickE now n := by unfold askE; rw [if_neg ht]
    unfold askR askN
    rw [e, if_neg ht, if_neg ht]
    exact (look21_tick w m F c now n xs h k ht).mono fun e w' ⟨he, t⟩ => ⟨he, (Mc.refl h).keep0 t⟩
end Go.Proofs.YtllchnancjgijaaGreat.Me
/- Outcomes that may be, as a plain function; the contracts of the program's and of the document's look at them; no conditions. -/
namespace Go.Proofs.YtllchnancjgijaaGreat.Ta
open Go.RowKit Go.Maps Go.ChangeMaps
set_option maxRecDepth 100000
set_option linter.unusedVariables false
set_option linter.unusedSimpArgs false
abbrev O := Int × Int × Int × Int
def oz : O := (0, 0, 0, 0)
end Go.Proofs.YtllchnancjgijaaGreat.Ta
/- Who waits, as plain lists with holes where one went; what a record is and how it changes; no program. -/
namespace Go.Proofs.YtllchnancjgijaaGreat.Ta
set_option linter.unusedVariables false
set_option maxRecDepth 100000
def wl (cs : List Int) : List Int := cs.filter (fun x => decide (x ≠ 0))
def plv (cs : List Int) (x : Int) : Option Value := if x ≠ 0 ∧ x ∈ cs then some (.int .i64 ((cs.idxOf x : Nat) : Int)) else none
structure Okc (cs : List Int) : Prop where
  nd : (wl cs).Nodup
  wf : ∀ x ∈ cs, W64 x
theorem wl_len (cs : List Int) : (wl cs).length ≤ cs.length := List.length_filter_le _ _
theorem mem_wl {cs : List Int} {x : Int} : x ∈ wl cs ↔ x ∈ cs ∧ x ≠ 0 := by simp [wl]
theorem wl_app (a b : List Int) : wl (a ++ b) = wl a ++ wl b := by simp [wl]
theorem wl_one {x : Int} (h : x ≠ 0) : wl [x] = [x] := by simp [wl, h]
theorem plv_isSome (cs : List Int) (x : Int) : (plv cs x).isSome = decide (x ∈ wl cs) := by
  unfold plv
  by_cases h : x ≠ 0 ∧ x ∈ cs
  · rw [if_pos h]; simp [mem_wl, h.1, h.2]
  · rw [if_neg h]
    have : ¬ x ∈ wl cs := fun e => h ⟨(mem_wl.1 e).2, (mem_wl.1 e).1⟩
    simp [this]
theorem plv_none {cs : List Int} {x : Int} (h : ¬ x ∈ wl cs) : plv cs x = none := by
  have := plv_isSome cs x
  rw [show decide (x ∈ wl cs) = false by simp [h]] at this
  exact Option.not_isSome_iff_eq_none.1 (by simp [this])
theorem plv_some {cs : List Int} {x : Int} (h : x ∈ wl cs) : plv cs x = some (.int .i64 ((cs.idxOf x : Nat) : Int)) := by
  unfold plv
  rw [if_pos ⟨(mem_wl.1 h).2, (mem_wl.1 h).1⟩]
theorem plv_nil (x : Int) : plv [] x = none := by simp [plv]
theorem Okc.nil : Okc [] := ⟨by simp [wl], fun x h => by simp at h⟩
theorem Okc.put {cs : List Int} (h : Okc cs) {x : Int} (hx : W64 x) (h0 : x ≠ 0) (hn : ¬ x ∈ wl cs) : Okc (cs ++ [x]) := by
  refine ⟨?_, fun y hy => ?_⟩
  · rw [wl_app, wl_one h0]; exact nd_snoc h.nd hn
  · rcases List.mem_append.1 hy with e | e
    · exact h.wf y e
    · simp only [List.mem_singleton] at e; subst e; exact hx
theorem idx_app {a b : List Int} {x : Int} (h : x ∈ a) : (a ++ b).idxOf x = a.idxOf x := by
  rw [List.idxOf_append, if_pos h]
theorem idx_app' {a b : List Int} {x : Int} (h : ¬ x ∈ a) : (a ++ b).idxOf x = b.idxOf x + a.length := by
  rw [List.idxOf_append, if_neg h]
theorem plv_put {cs : List Int} {x : Int} (h0 : x ≠ 0) (hn : ¬ x ∈ wl cs) (k : Int) : upd (plv cs) x (.int .i64 (cs.length : Nat)) k = plv (cs ++ [x]) k := by
  have hn' : ¬ x ∈ cs := fun e => hn (mem_wl.2 ⟨e, h0⟩)
  unfold upd
  split
  · rename_i e
    subst e
    rw [plv_some (mem_wl.2 ⟨by simp, h0⟩), idx_app' hn']
    simp
  · rename_i e
    by_cases hk : k ∈ wl cs
    · rw [plv_some hk, plv_some (by rw [wl_app]; exact List.mem_append_left _ hk), idx_app (mem_wl.1 hk).1]
    · rw [plv_none hk, plv_none]
      rw [wl_app, wl_one h0]
      simp [hk, e]
structure Rn where
  run : Int
  sp : Int
  nm : ByteArray
  gen : Int
  rf : Bool
structure St where
  who : List Int
  kept : Bool
  canc : Bool
  ended : Bool
  out : O
structure Iv (S : St) : Prop where
  en : S.ended = true → S.who = []
  no : S.ended = false → S.out = oz
  ca : S.ended = false → S.canc = true → S.who = [] ∧ S.kept = false
  pos : ∀ x ∈ S.who, W64 x ∧ 1 ≤ x
  nd : S.who.Nodup
def inter (S : St) : Int := (S.who.length : Int) + (if S.kept && !S.ended then 1 else 0)
def joinE (S : St) (x : Int) : Int := if x < 1 then 1 else if S.ended then 110 else if S.canc then 113 else if x ∈ S.who then 111 else 0
def joinS (S : St) (x : Int) : St := if joinE S x = 0 then { S with who := S.who ++ [x] } else S
theorem inter_zero {S : St} : inter S = 0 ↔ S.who = [] ∧ (S.kept && !S.ended) = false := by
  unfold inter
  cases h : (S.kept && !S.ended)
  · simp
  · simp; omega
theorem Iv.join {S : St} (h : Iv S) {x : Int} (hx : W64 x) : Iv (joinS S x) := by
  unfold joinS
  split
  · rename_i e
    unfold joinE at e
    repeat' (split at e <;> first | omega | skip)
    rename_i h1 h2 h3 h4
    refine ⟨fun e => absurd e h2, h.no, fun _ e => absurd e h3, fun y hy => ?_, nd_snoc h.nd h4⟩
    rcases List.mem_append.1 hy with e | e
    · exact h.pos y e
    · simp only [List.mem_singleton] at e; subst e; exact ⟨hx, by omega⟩
  · exact h
end Go.Proofs.YtllchnancjgijaaGreat.Ta
/- A record in memory: its block, the line of callers and the map of their places; what a step may touch. -/
namespace Go.Proofs.YtllchnancjgijaaGreat.Ta
open Go.RowKit Go.Maps Go.ChangeMaps
set_option maxRecDepth 100000
set_option linter.unusedVariables false
def rc (R : Rn) (sl mp : Value) (k c e : Bool) (o : O) : Array Value := #[.int .i64 R.run, .int .u16 R.sp, .string R.nm, .int .i64 R.gen, .bool R.rf, sl, mp, .bool k, .bool c, .bool e, .int .i64 o.1, .int .i64 o.2.1, .int .i64 o.2.2.1, .int .i64 o.2.2.2]
def rv (R : Rn) : Value := .agg #[.int .i64 R.run, .int .u16 R.sp, .string R.nm, .int .i64 R.gen, .bool R.rf]
def PL (b : Nat) : Value := .pointer (some ⟨b, 5, none⟩)
structure Rc (w : World) (b : Nat) (R : Rn) (sl mp : Value) (k c e : Bool) (o : O) : Prop where
  bl : w.heap[b]? = some (.cells (rc R sl mp k c e o) 274 (0, 0))
structure Rcs (w : World) (b : Nat) (R : Rn) (sl mp : Value) (k c e : Bool) (o : O) : Prop where
  c0 : w.cell? ⟨b, 0, none⟩ = some (.int .i64 R.run)
  c1 : w.cell? ⟨b, 1, none⟩ = some (.int .u16 R.sp)
  c2 : w.cell? ⟨b, 2, none⟩ = some (.string R.nm)
  c3 : w.cell? ⟨b, 3, none⟩ = some (.int .i64 R.gen)
  c4 : w.cell? ⟨b, 4, none⟩ = some (.bool R.rf)
  c5 : w.cell? ⟨b, 5, none⟩ = some sl
  c6 : w.cell? ⟨b, 6, none⟩ = some mp
  c7 : w.cell? ⟨b, 7, none⟩ = some (.bool k)
  c8 : w.cell? ⟨b, 8, none⟩ = some (.bool c)
  c9 : w.cell? ⟨b, 9, none⟩ = some (.bool e)
  c10 : w.cell? ⟨b, 10, none⟩ = some (.int .i64 o.1)
  c11 : w.cell? ⟨b, 11, none⟩ = some (.int .i64 o.2.1)
  c12 : w.cell? ⟨b, 12, none⟩ = some (.int .i64 o.2.2.1)
  c13 : w.cell? ⟨b, 13, none⟩ = some (.int .i64 o.2.2.2)
section
variable {w w' : World} {b : Nat} {R : Rn} {sl mp : Value} {k c e : Bool} {o : O}
theorem Rc.lt (h : Rc w b R sl mp k c e o) : b < w.heap.size := block_lt h.bl
theorem Rc.cs (h : Rc w b R sl mp k c e o) : Rcs w b R sl mp k c e o :=
  ⟨cell_at h.bl rfl, cell_at h.bl rfl, cell_at h.bl rfl, cell_at h.bl rfl, cell_at h.bl rfl, cell_at h.bl rfl, cell_at h.bl rfl, cell_at h.bl rfl, cell_at h.bl rfl, cell_at h.bl rfl, cell_at h.bl rfl, cell_at h.bl rfl, cell_at h.bl rfl, cell_at h.bl rfl⟩
theorem Rc.fz (h : Rc w b R sl mp k c e o) (j : Nat) : w.frozen? ⟨b, j, none⟩ = false := froz_at h.bl j
theorem Rc.keep {F : List Nat} (h : Rc w b R sl mp k c e o) (T : Touch F w w') (hb : ¬ b ∈ F) : Rc w' b R sl mp k c e o := ⟨T.keep h.bl hb⟩
theorem Rc.set5 (h : Rc w b R sl mp k c e o) (v : Value) : Rc (w.setCell ⟨b, 5, none⟩ v) b R v mp k c e o := ⟨bset h.bl v⟩
theorem Rc.set6 (h : Rc w b R sl mp k c e o) (v : Value) : Rc (w.setCell ⟨b, 6, none⟩ v) b R sl v k c e o := ⟨bset h.bl v⟩
end
def Mp (w : World) (m : Option Nat) (cs : List Int) : Prop := (m = none ∧ cs = []) ∨ ∃ d, m = some d ∧ MapAt w d (wl cs).length (plv cs)
structure Ln (w : World) (sl : Value) (m : Option Nat) (cs : List Int) : Prop where
  row : w.ownsRow 0 3 1 sl cs.length (ints cs)
  mp : Mp w m cs
  ok : Okc cs
def fpR (b : Nat) (sl : Value) (m : Option Nat) : List Nat := b :: (sl.ownBlock.toList ++ m.toList)
theorem mem_fpR {b : Nat} {sl : Value} {m : Option Nat} {k : Nat} : k ∈ fpR b sl m ↔ k = b ∨ sl.ownBlock = some k ∨ m = some k := by
  simp [fpR]
section
variable {w w' : World} {b : Nat} {R : Rn} {sl : Value} {m : Option Nat} {cs : List Int} {k c e : Bool} {o : O} {F : List Nat}
theorem mapAt_kind {d n : Nat} {f : Int → Option Value} (h : MapAt w d n f) : ∃ es cl, w.heap[d]? = some (.map es cl) := by
  obtain ⟨D, ⟨es, cl, hb, _⟩, _⟩ := h
  exact ⟨es, cl, hb⟩
theorem Mp.kind (h : Mp w m cs) {d : Nat} (hd : m = some d) : ∃ es cl, w.heap[d]? = some (.map es cl) := by
  rcases h with ⟨h, _⟩ | ⟨d', hd', hm⟩
  · rw [h] at hd; cases hd
  · rw [hd'] at hd; cases hd; exact mapAt_kind hm
theorem Mp.lt (h : Mp w m cs) {d : Nat} (hd : m = some d) : d < w.heap.size := by
  obtain ⟨es, cl, h1⟩ := h.kind hd
  exact block_lt h1
theorem Mp.keep (h : Mp w m cs) (T : Touch F w w') (hF : ∀ d, m = some d → ¬ d ∈ F) : Mp w' m cs := by
  rcases h with h | ⟨d, hd, hm⟩
  · exact Or.inl h
  · exact Or.inr ⟨d, hd, hm.kept (T.block d hm.lt (hF d hd))⟩
theorem Ln.keep (h : Ln w sl m cs) (T : Touch F w w') (h1 : ∀ d, sl.ownBlock = some d → ¬ d ∈ F) (h2 : ∀ d, m = some d → ¬ d ∈ F) : Ln w' sl m cs :=
  ⟨own_touch h.row T h1, h.mp.keep T h2, h.ok⟩
theorem Ln.nil (w : World) : Ln w (.slice none 0 0) none [] := ⟨World.ownsRow_nil _ _ _ _, Or.inl ⟨rfl, rfl⟩, Okc.nil⟩
theorem row_ne (h : Rc w b R sl (.map m) k c e o) {v : Value} {n : Nat} {xs : List Value} {B : Nat} (hr : w.ownsRow B 3 1 v n xs) {d : Nat} (hd : v.ownBlock = some d) : d ≠ b := fun e' => by
  obtain ⟨cur, hc⟩ := own_kind hr hd
  subst e'
  rw [h.bl] at hc
  simp at hc
theorem map_ne (h : Rc w b R sl (.map m) k c e o) (hm : Mp w m cs) {d : Nat} (hd : m = some d) : d ≠ b := fun e' => by
  obtain ⟨es, cl, hc⟩ := hm.kind hd
  subst e'
  rw [h.bl] at hc
  simp at hc
theorem row_map {v : Value} {n : Nat} {xs : List Value} {B : Nat} (hr : w.ownsRow B 3 1 v n xs) (hm : Mp w m cs) {d d' : Nat} (hd : v.ownBlock = some d) (hd' : m = some d') : d ≠ d' := fun e' => by
  obtain ⟨cur, hc⟩ := own_kind hr hd
  obtain ⟨es, cl, hc'⟩ := hm.kind hd'
  subst e'
  rw [hc] at hc'
  simp at hc'
structure Rl (w : World) (b : Nat) (R : Rn) (k c e : Bool) (o : O) (sl : Value) (m : Option Nat) (cs : List Int) : Prop where
  rc : Rc w b R sl (.map m) k c e o
  ln : Ln w sl m cs
theorem Rl.lt (h : Rl w b R k c e o sl m cs) : ∀ d, d ∈ fpR b sl m → d < w.heap.size := fun d hd => by
  rcases mem_fpR.1 hd with e | e | e
  · subst e; exact h.rc.lt
  · exact (h.ln.row.lt d e).2
  · exact h.ln.mp.lt e
theorem Rl.keep (h : Rl w b R k c e o sl m cs) (T : Touch F w w') (hF : ∀ d, d ∈ fpR b sl m → ¬ d ∈ F) : Rl w' b R k c e o sl m cs :=
  ⟨h.rc.keep T (hF b (mem_fpR.2 (Or.inl rfl))), h.ln.keep T (fun d hd => hF d (mem_fpR.2 (Or.inr (Or.inl hd)))) (fun d hd => hF d (mem_fpR.2 (Or.inr (Or.inr hd))))⟩
theorem Rl.keep0 (h : Rl w b R k c e o sl m cs) (T : Touch [] w w') : Rl w' b R k c e o sl m cs := h.keep T (fun _ _ e => by cases e)
def LnE (w w' : World) (b : Nat) (R : Rn) (k c e : Bool) (o : O) (F : List Nat) (cs : List Int) : Prop := ∃ sl m, Rl w' b R k c e o sl m cs ∧ Touch F w w' ∧ Nf w F (fpR b sl m)
end
end Go.Proofs.YtllchnancjgijaaGreat.Ta
/- Contracts of a line's has, count and all. -/
namespace Go.Proofs.YtllchnancjgijaaGreat.Ta
open Go.RowKit Go.Maps Go.ChangeMaps
set_option maxRecDepth 100000
set_option linter.unusedVariables false
section
variable {w : World} {b : Nat} {R : Rn} {sl : Value} {m : Option Nat} {cs : List Int} {k c e : Bool} {o : O}
theorem has29 (h : Rl w b R k c e o sl m cs) (x : Int) (hx : W64 x) : Calls Tryz.prog 177 #[PL b, .int .i64 x] w fun e w' => e = .returned (.bool (decide (x ∈ wl cs))) ∧ w' = w := by
  have c6 := h.rc.cs.c6
  rcases h.ln.mp with ⟨rfl, hW⟩ | ⟨d, rfl, hm⟩
  · subst hW
    rw [show decide (x ∈ wl []) = false by simp [wl]]
    have hl := Maps.look_nil (P := Tryz.prog) (w := w) true keyed3 Tryz.underlying97 (zero3 w) (key3 hx)
    simp only [if_true] at hl
    clear h
    unfold PL
    go_enter Tryz.func177, Tryz.ntmps177
    go_wp2
    go_ret
    exact ⟨rfl, rfl⟩
  · have hl := hm.lookOk (t := 97) Tryz.underlying97 (zero3 w) hx
    rw [plv_isSome] at hl
    clear h hm
    generalize (plv cs x).getD (.int .i64 0) = z at *
    generalize decide (x ∈ wl cs) = B at *
    unfold PL
    go_enter Tryz.func177, Tryz.ntmps177
    go_wp2
    go_ret
    exact ⟨rfl, rfl⟩
end
theorem ints_snoc (xs : List Int) (y : Int) : ints xs ++ [.int .i64 y] = ints (xs ++ [y]) := by simp [ints]
theorem wpList_append_int {w : World} {ops : Array Oper} {rest : List Oper} {o : Oper} {a : Act} {Q : Exit → Act → World → Prop} (hgd : o.guard = none) (s x : Operand) (ho : o.op = .call { callee := .builtin .append, args := #[s, x], argTypes := #[43, 43] })
    (base : Nat) (v : Value) (xs : List Int) (hs : a.eval s = v) (hown : w.ownsRow base 3 1 v xs.length (ints xs)) (g' : Nat) (y : Int) (hx : a.eval x = .slice (some ⟨g', 0, none⟩) 1 1) (hc : w.cell? ⟨g', 0, none⟩ = some (.int .i64 y)) (hb : xs.length ≤ 3000000000000) (hbase : base ≤ w.heap.size)
    (h : ∀ g cap w', w'.ownsRow base 3 1 (.slice (some ⟨g, 0, none⟩) (xs.length + 1) cap) (xs.length + 1) (ints (xs ++ [y])) → w.grownBy w' v.ownBlock → (v.ownBlock = some g ∨ g = w.heap.size) → wpList Tryz.prog ops Q rest (a.put o.dst (.slice (some ⟨g, 0, none⟩) (xs.length + 1) cap)) w') : wpList Tryz.prog ops Q (o :: rest) a w := by
  obtain ⟨i3, hi3, hz0, hz1, hz2⟩ := info_parts info3
  refine wpList_append_own_at w hgd s x 43 ho base 3 i3 (.int .i64 0) 1 8 Tryz.underlying43 hi3 hz0 hz1 hz2 rfl (by decide) v xs.length (ints xs) hs hown ⟨g', 0, none⟩ 1 1 [.int .i64 y] hx rfl (fun j u hj => ?_) (fun u hu => by simp only [List.mem_singleton] at hu; subst hu; rfl) (by unfold maxLen; omega) (by omega) hbase (fun v' w' r gr nn at' => ?_)
  · match j, hj with
    | 0, hj => simp at hj; subst hj; simpa [Addr.add] using hc
  · rw [ints_snoc] at r
    obtain ⟨g, cap, rfl, _⟩ := own_some r (by omega)
    exact h g cap w' r gr (at'.elim (fun q => Or.inl q.symm) (fun q => Or.inr (by simpa [Value.ownBlock] using q)))
section
variable (w : World) (b : Nat) (R : Rn) (sl : Value) (m : Option Nat) (cs : List Int) (k c e : Bool) (o : O)
end
end Go.Proofs.YtllchnancjgijaaGreat.Ta
/- The contract of a line's add. -/
namespace Go.Proofs.YtllchnancjgijaaGreat.Ta
open Go.RowKit Go.Maps Go.ChangeMaps
set_option maxRecDepth 100000
set_option linter.unusedVariables false
set_option linter.unusedSimpArgs false
theorem eq63 (w : World) (r : Option Nat) : (binOp .eql 97 (.map r) (.map none)).run Tryz.prog w = .ok (.bool r.isNone) w := run_eql_map_nil w _ _ _ r Tryz.underlying97
section
variable (w : World) (b : Nat) (R : Rn) (sl : Value) (m : Option Nat) (cs : List Int) (k c e : Bool) (o : O)
set_option maxHeartbeats 4000000 in
set_option maxRecDepth 100000 in
theorem add21_some (d : Nat) (h : Rl w b R k c e o sl (some d) cs) (x : Int) (hx : W64 x) (h0 : x ≠ 0) (hn : ¬ x ∈ wl cs) (hle : cs.length ≤ 3000000000000) : Calls Tryz.prog 178 #[PL b, .int .i64 x] w fun e' w' => e' = .returned (.tuple #[]) ∧ LnE w w' b R k c e o (fpR b sl (some d)) (cs ++ [x]) := by
  obtain ⟨a, cap, rfl⟩ := own_form h.ln.row
  have q63 := eq63
  have c6 := h.rc.cs.c6
  have H5 : ∀ w', Touch [] w w' → w'.cell? ⟨b, 5, none⟩ = some (.slice a cs.length cap) := fun w' T => (h.keep0 T).rc.cs.c5
  have H6 : ∀ w', Touch [] w w' → w'.cell? ⟨b, 6, none⟩ = some (.map (some d)) := fun w' T => (h.keep0 T).rc.cs.c6
  have HMP : Hid (MapAt w.drew d (wl cs).length (plv cs)) := by
    rcases h.ln.mp with ⟨q, _⟩ | ⟨d', q, hm⟩
    · cases q
    · cases q; exact hm.kept rfl
  have HNM : Hid ((wl cs).length < maxLen) := by have := wl_len cs; unfold maxLen; exact hid (by omega)
  unfold PL
  have HLE := hid hle
  have HH := hid h
  clear hle h
  go_enter Tryz.func178, Tryz.ntmps178
  go_upto_region 2 with fail
  have s0 : Touch [] w w.drew := (Touch.refl _ _).drew
  refine wp_region_L (S := fun w' => Touch [] w w') (st := 10) (by kernel_rfl) ?_
  refine wpL_take (i := 0) (v := (.pointer (some ⟨b, 5, none⟩))) (some 13) rfl rfl (by kernel_rfl) (by kernel_rfl) (by kernel_rfl) (by kernel_rfl) (by kernel_rfl) (by decide) (fun _ _ _ h => h) (Or.inl ⟨by rfl, fun w' hS => (by go_simp)⟩) s0 ?_
  try simp only [Go.Act.put, List.setIfInBounds_toArray, List.set_cons_zero, List.set_cons_succ]
  refine wpL_take (i := 1) (v := (.pointer (some ⟨b, 5, none⟩))) (some 14) rfl rfl (by kernel_rfl) (by kernel_rfl) (by kernel_rfl) (by kernel_rfl) (by kernel_rfl) (by decide) (fun _ _ _ h => h) (Or.inl ⟨by rfl, fun w' hS => (by go_simp)⟩) s0 ?_
  try simp only [Go.Act.put, List.setIfInBounds_toArray, List.set_cons_zero, List.set_cons_succ]
  refine wpL_take (i := 2) (v := (.pointer (some ⟨b, 6, none⟩))) (some 15) rfl rfl (by kernel_rfl) (by kernel_rfl) (by kernel_rfl) (by kernel_rfl) (by kernel_rfl) (by decide) (fun _ _ _ h => h) (Or.inl ⟨by rfl, fun w' hS => (by go_simp)⟩) s0 ?_
  try simp only [Go.Act.put, List.setIfInBounds_toArray, List.set_cons_zero, List.set_cons_succ]
  refine wpL_take (i := 3) (v := (.map (some d))) (some 16) rfl rfl (by kernel_rfl) (by kernel_rfl) (by kernel_rfl) (by kernel_rfl) (by kernel_rfl) (by decide) (fun _ _ _ h => h) (Or.inl ⟨by rfl, fun w' hS => (by have z0 := H6 _ hS; go_simp)⟩) s0 ?_
  try simp only [Go.Act.put, List.setIfInBounds_toArray, List.set_cons_zero, List.set_cons_succ]
  refine wpL_take (i := 4) (v := (.int .i64 x)) (some 17) rfl rfl (by kernel_rfl) (by kernel_rfl) (by kernel_rfl) (by kernel_rfl) (by kernel_rfl) (by decide) (fun _ _ _ h => h) (Or.inl ⟨by rfl, fun w' hS => (by go_simp)⟩) s0 ?_
  try simp only [Go.Act.put, List.setIfInBounds_toArray, List.set_cons_zero, List.set_cons_succ]
  refine wpL_take (i := 5) (v := (.pointer (some ⟨b, 5, none⟩))) (some 18) rfl rfl (by kernel_rfl) (by kernel_rfl) (by kernel_rfl) (by kernel_rfl) (by kernel_rfl) (by decide) (fun _ _ _ h => h) (Or.inl ⟨by rfl, fun w' hS => (by go_simp)⟩) s0 ?_
  try simp only [Go.Act.put, List.setIfInBounds_toArray, List.set_cons_zero, List.set_cons_succ]
  refine wpL_take (i := 6) (v := (.pointer (some ⟨b, 5, none⟩))) (some 19) rfl rfl (by kernel_rfl) (by kernel_rfl) (by kernel_rfl) (by kernel_rfl) (by kernel_rfl) (by decide) (fun _ _ _ h => h) (Or.inl ⟨by rfl, fun w' hS => (by go_simp)⟩) s0 ?_
  try simp only [Go.Act.put, List.setIfInBounds_toArray, List.set_cons_zero, List.set_cons_succ]
  refine wpL_take (i := 7) (v := (.pointer (some ⟨b, 5, none⟩))) (some 20) rfl rfl (by kernel_rfl) (by kernel_rfl) (by kernel_rfl) (by kernel_rfl) (by kernel_rfl) (by decide) (fun _ _ _ h => h) (Or.inl ⟨by rfl, fun w' hS => (by go_simp)⟩) s0 ?_
  try simp only [Go.Act.put, List.setIfInBounds_toArray, List.set_cons_zero, List.set_cons_succ]
  refine wpL_take (i := 8) (v := (.slice a cs.length cap)) (some 21) rfl rfl (by kernel_rfl) (by kernel_rfl) (by kernel_rfl) (by kernel_rfl) (by kernel_rfl) (by decide) (fun _ _ _ h => h) (Or.inl ⟨by rfl, fun w' hS => (by have z0 := H5 _ hS; go_simp)⟩) s0 ?_
  try simp only [Go.Act.put, List.setIfInBounds_toArray, List.set_cons_zero, List.set_cons_succ]
  refine wpL_take (i := 9) (v := (.int .i64 (cs.length : Nat))) (some 22) rfl rfl (by kernel_rfl) (by kernel_rfl) (by kernel_rfl) (by kernel_rfl) (by kernel_rfl) (by decide) (fun _ _ _ h => h) (Or.inl ⟨by rfl, fun w' hS => (by go_simp)⟩) s0 ?_
  try simp only [Go.Act.put, List.setIfInBounds_toArray, List.set_cons_zero, List.set_cons_succ]
  refine wpL_ready (rs := [10]) (by kernel_rfl) (by simp) (AllL.cons (o := { dst := none, op := Op.mapUpdate 97 (Operand.tmp 16) (Operand.tmp 17) (Operand.tmp 22), type := 0, pos := _, after := #[{ on := 3, ground := Ground.data }, { on := 4, ground := Ground.data }, { on := 9, ground := Ground.data }, { on := 0, ground := Ground.phase }, { on := 1, ground := Ground.phase }, { on := 2, ground := Ground.phase }, { on := 3, ground := Ground.phase }, { on := 4, ground := Ground.phase }, { on := 5, ground := Ground.phase }, { on := 6, ground := Ground.phase }, { on := 7, ground := Ground.phase }, { on := 8, ground := Ground.phase }, { on := 9, ground := Ground.phase }], guard := none }) rfl (fun K' hK => ?_) AllL.nil)
  rw [if_pos (by rfl)]
  go_simp
  obtain ⟨ob, hrun, hM⟩ := HMP.out.set (t := 97) Tryz.underlying97 HNM.out hx (.int .i64 (cs.length : Nat))
  simp only [hrun]
  refine hK.out _ _ (fun h => absurd h (by decide)) ?_
  clear hK
  try simp only [Go.Act.put, List.setIfInBounds_toArray, List.set_cons_zero, List.set_cons_succ]
  refine wpL_done (by kernel_rfl) ?_ _
  obtain ⟨W2, hW2⟩ : ∃ W2, W2 = setBlock w.drew d ob := ⟨_, rfl⟩
  have T2 : Touch [d] w W2 := by rw [hW2]; exact touch_setBlock (Touch.refl _ _).drew (by simp) ob
  have HD : Hid (MapAt W2 d ((wl cs).length + 1) (plv (cs ++ [x])) ∧ W2.ownsRow 0 3 1 (.slice a cs.length cap) cs.length (ints cs) ∧ Rc W2 b R (.slice a cs.length cap) (.map (some d)) k c e o) := by
    have h := HH.out
    have hr := h.ln.row
    have hrc := h.rc
    refine ⟨?_, own_touch hr T2 (fun q hq e' => ?_), hrc.keep T2 (fun e' => ?_)⟩
    · rw [← hW2] at hM
      rw [plv_none hn] at hM
      refine (show MapAt W2 d ((wl cs).length + 1) _ from hM).congr (fun q _ => ?_)
      exact plv_put h0 hn q
    · simp only [List.mem_singleton] at e'
      exact row_map h.ln.row h.ln.mp hq rfl e'
    · simp only [List.mem_singleton] at e'
      exact map_ne h.rc h.ln.mp rfl e'.symm
  clear hrun hM
  rw [← hW2]
  clear hW2 ob s0 H5 H6 c6 HMP HNM q63
  have T2' := hid T2
  clear T2
  have c5 := HD.out.2.2.cs.c5
  have hbl := HD.out.2.2.lt
  have hne : b ≠ W2.heap.size := by omega
  have HO : Hid (∀ ob, (W2.alloc ob).ownsRow 0 3 1 (.slice a cs.length cap) cs.length (ints cs)) := fun ob => by
    exact own_touch HD.out.2.1 ((Touch.refl [] _).alloc _) (fun _ _ e => by cases e)
  have HX : Hid (∀ g5 c5 w5, w5.ownsRow 0 3 1 (.slice (some ⟨g5, 0, none⟩) (cs.length + 1) c5) (cs.length + 1) (ints (cs ++ [x])) → (W2.alloc (.cells #[.int .i64 x] 3)).grownBy w5 (Value.slice a cs.length cap).ownBlock → ((Value.slice a cs.length cap).ownBlock = some g5 ∨ g5 = (W2.alloc (.cells #[.int .i64 x] 3)).heap.size) →
      (w5.cell? ⟨b, 5, none⟩ = some (.slice a cs.length cap) ∧ w5.frozen? ⟨b, 5, none⟩ = false ∧ b < w5.heap.size) ∧ LnE w (w5.setCell ⟨b, 5, none⟩ (.slice (some ⟨g5, 0, none⟩) (cs.length + 1) c5)) b R k c e o (fpR b (.slice a cs.length cap) (some d)) (cs ++ [x])) := fun g5 c5 w5 o5 r5 p5 => by
    obtain ⟨hm, hr, hrc⟩ := HD.out
    have tA : Touch ((Value.slice a cs.length cap).ownBlock.toList) W2 w5 := ((Touch.refl _ _).alloc _).grown r5 (fun q hq => Or.inl (by rw [hq]; simp))
    have hrc5 : Rc w5 b R (.slice a cs.length cap) (.map (some d)) k c e o := hrc.keep tA (fun e' => by
      simp only [Option.mem_toList] at e'
      exact row_ne hrc hr e' rfl)
    refine ⟨⟨hrc5.cs.c5, hrc5.fz 5, hrc5.lt⟩, ?_⟩
    have tB : Touch [b] w5 (w5.setCell ⟨b, 5, none⟩ (.slice (some ⟨g5, 0, none⟩) (cs.length + 1) c5)) := (Touch.refl _ _).setCell (Or.inl (by simp)) _
    have hm2 : Mp W2 (some d) (cs ++ [x]) := Or.inr ⟨d, rfl, by rw [wl_app, wl_one h0]; simpa using hm⟩
    have hm5 : Mp w5 (some d) (cs ++ [x]) := hm2.keep tA (fun q hq e' => by
      simp only [Option.mem_toList] at e'
      exact row_map hr hm2 e' hq rfl)
    refine ⟨_, some d, ⟨hrc5.set5 _, ⟨?_, hm5.keep tB (fun q hq e' => ?_), HH.out.ln.ok.put hx h0 hn⟩⟩, ?_, fun q hq => ?_⟩
    · rw [show (cs ++ [x]).length = cs.length + 1 by simp]
      refine own_touch o5 tB (fun q hq e' => ?_)
      simp only [List.mem_singleton] at e'
      exact row_ne hrc5 o5 hq e'
    · simp only [List.mem_singleton] at e'
      exact map_ne hrc5 hm5 hq e'
    · refine (((T2'.out.mono (fun q hq => ?_)).trans tA (fun q hq => ?_)).trans tB (fun q hq => ?_))
      · simp only [List.mem_singleton] at hq; exact mem_fpR.2 (Or.inr (Or.inr (by rw [hq])))
      · simp only [Option.mem_toList] at hq; exact Or.inl (mem_fpR.2 (Or.inr (Or.inl hq)))
      · simp only [List.mem_singleton] at hq; exact Or.inl (mem_fpR.2 (Or.inl hq))
    · rcases mem_fpR.1 hq with e' | e' | e'
      · exact Or.inl (mem_fpR.2 (Or.inl e'))
      · simp only [Value.ownBlock, Option.some.injEq] at e'
        subst e'
        rcases p5 with p | p
        · exact Or.inl (mem_fpR.2 (Or.inr (Or.inl p)))
        · refine Or.inr ?_
          have := T2'.out.size
          rw [p]; simp; omega
      · exact Or.inl (mem_fpR.2 (Or.inr (Or.inr e')))
  clear HD HH hx h0 hn T2'
  go_wp2_with (at_builtin; refine wpList_append_int rfl _ _ rfl 0 (.slice a cs.length cap) cs rfl (HO.out _) W2.heap.size x rfl (by simp) HLE.out (Nat.zero_le _) ?_; intro g5 c5' w5 o5 r5 p5; obtain ⟨⟨y1, y2, y3⟩, y4⟩ := HX.out _ _ _ o5 r5 p5; have Y4 := hid y4; clear o5 r5 p5 y4)
  go_end0
  exact ⟨rfl, Y4.out⟩
set_option maxHeartbeats 4000000 in
set_option maxRecDepth 100000 in
theorem add21_none (h : Rl w b R k c e o sl none cs) (x : Int) (hx : W64 x) (h0 : x ≠ 0) (hn : ¬ x ∈ wl cs) (hle : cs.length ≤ 3000000000000) : Calls Tryz.prog 178 #[PL b, .int .i64 x] w fun e' w' => e' = .returned (.tuple #[]) ∧ LnE w w' b R k c e o (fpR b sl none) (cs ++ [x]) := by
  obtain ⟨a, cap, rfl⟩ := own_form h.ln.row
  have hcs : cs = [] := by
    rcases h.ln.mp with ⟨_, q⟩ | ⟨d', q, hm⟩
    · exact q
    · cases q
  have q63 := eq63
  have hmm := @run_makeMap Tryz.prog
  have c6 := h.rc.cs.c6
  have f6 := h.rc.fz 6
  have hbl := h.rc.lt
  have hne : b ≠ w.heap.size := by omega
  obtain ⟨W1, hW1⟩ : ∃ W1, W1 = (w.setCell ⟨b, 6, none⟩ (.map (some w.heap.size))).alloc (.map #[] 0) := ⟨_, rfl⟩
  have T1 : Hid (Touch [b] w W1) := by rw [hW1]; exact ((Touch.refl _ _).setCell (Or.inl (by simp)) _).alloc _
  have HH : Hid (Rl W1 b R k c e o (.slice a cs.length cap) (some w.heap.size) cs) := by
    refine ⟨?_, own_touch h.ln.row T1.out (fun q hq e' => ?_), Or.inr ⟨_, rfl, ?_⟩, h.ln.ok⟩
    · rw [hW1]
      exact (h.rc.set6 _).keep ((Touch.refl [] _).alloc _) (by simp)
    · simp only [List.mem_singleton] at e'
      exact row_ne h.rc h.ln.row hq e'
    · rw [hW1, hcs]
      have := mapAt_made (w.setCell ⟨b, 6, none⟩ (.map (some w.heap.size)))
      have e1 : (w.setCell ⟨b, 6, none⟩ (.map (some w.heap.size))).heap.size = w.heap.size := by simp [World.setCell]
      rw [e1] at this
      exact this.congr (fun q _ => (plv_nil q).symm)
  have HSZ := hid h.rc.lt
  clear h hcs
  obtain ⟨d, hd⟩ : ∃ d, d = w.heap.size := ⟨_, rfl⟩
  have HDD := hid hd
  rw [← hd] at HH
  have HLE := hid hle
  clear hle
  unfold PL
  go_enter Tryz.func178, Tryz.ntmps178
  go_upto_region 2 with fail
  rw [← hW1, ← hd]
  clear hd hW1 c6 f6 hbl hne hmm
  have HFIN : Hid (∀ w', LnE W1 w' b R k c e o (fpR b (.slice a cs.length cap) (some d)) (cs ++ [x]) → LnE w w' b R k c e o (fpR b (.slice a cs.length cap) none) (cs ++ [x])) := fun w' ⟨sl', m', r1, r2, r3⟩ => by
    have hz := T1.out.size
    have aux : ∀ q, q ∈ fpR b (.slice a cs.length cap) (some d) → q ∈ fpR b (.slice a cs.length cap) none ∨ w.heap.size ≤ q := fun q hq => by
      rcases mem_fpR.1 hq with e' | e' | e'
      · exact Or.inl (mem_fpR.2 (Or.inl e'))
      · exact Or.inl (mem_fpR.2 (Or.inr (Or.inl e')))
      · refine Or.inr ?_
        cases e'
        rw [HDD.out]
        exact Nat.le_refl _
    refine ⟨sl', m', r1, (T1.out.mono (fun q hq => ?_)).trans r2 aux, fun q hq => ?_⟩
    · simp only [List.mem_singleton] at hq; exact mem_fpR.2 (Or.inl hq)
    · rcases r3 q hq with e' | e'
      · exact aux q e'
      · exact Or.inr (Nat.le_trans hz e')
  clear T1 HSZ HDD
  have H5 : ∀ w', Touch [] W1 w' → w'.cell? ⟨b, 5, none⟩ = some (.slice a cs.length cap) := fun w' T => (HH.out.keep0 T).rc.cs.c5
  have H6 : ∀ w', Touch [] W1 w' → w'.cell? ⟨b, 6, none⟩ = some (.map (some d)) := fun w' T => (HH.out.keep0 T).rc.cs.c6
  have HMP : Hid (MapAt W1.drew d (wl cs).length (plv cs)) := by
    rcases HH.out.ln.mp with ⟨q, _⟩ | ⟨d', q, hm⟩
    · cases q
    · cases q; exact hm.kept rfl
  have HNM : Hid ((wl cs).length < maxLen) := by have := wl_len cs; have := HLE.out; unfold maxLen; exact hid (by omega)
  have s0 : Touch [] W1 W1.drew := (Touch.refl _ _).drew
  refine wp_region_L (S := fun w' => Touch [] W1 w') (st := 10) (by kernel_rfl) ?_
  refine wpL_take (i := 0) (v := (.pointer (some ⟨b, 5, none⟩))) (some 13) rfl rfl (by kernel_rfl) (by kernel_rfl) (by kernel_rfl) (by kernel_rfl) (by kernel_rfl) (by decide) (fun _ _ _ h => h) (Or.inl ⟨by rfl, fun w' hS => (by go_simp)⟩) s0 ?_
  try simp only [Go.Act.put, List.setIfInBounds_toArray, List.set_cons_zero, List.set_cons_succ]
  refine wpL_take (i := 1) (v := (.pointer (some ⟨b, 5, none⟩))) (some 14) rfl rfl (by kernel_rfl) (by kernel_rfl) (by kernel_rfl) (by kernel_rfl) (by kernel_rfl) (by decide) (fun _ _ _ h => h) (Or.inl ⟨by rfl, fun w' hS => (by go_simp)⟩) s0 ?_
  try simp only [Go.Act.put, List.setIfInBounds_toArray, List.set_cons_zero, List.set_cons_succ]
  refine wpL_take (i := 2) (v := (.pointer (some ⟨b, 6, none⟩))) (some 15) rfl rfl (by kernel_rfl) (by kernel_rfl) (by kernel_rfl) (by kernel_rfl) (by kernel_rfl) (by decide) (fun _ _ _ h => h) (Or.inl ⟨by rfl, fun w' hS => (by go_simp)⟩) s0 ?_
  try simp only [Go.Act.put, List.setIfInBounds_toArray, List.set_cons_zero, List.set_cons_succ]
  refine wpL_take (i := 3) (v := (.map (some d))) (some 16) rfl rfl (by kernel_rfl) (by kernel_rfl) (by kernel_rfl) (by kernel_rfl) (by kernel_rfl) (by decide) (fun _ _ _ h => h) (Or.inl ⟨by rfl, fun w' hS => (by have z0 := H6 _ hS; go_simp)⟩) s0 ?_
  try simp only [Go.Act.put, List.setIfInBounds_toArray, List.set_cons_zero, List.set_cons_succ]
  refine wpL_take (i := 4) (v := (.int .i64 x)) (some 17) rfl rfl (by kernel_rfl) (by kernel_rfl) (by kernel_rfl) (by kernel_rfl) (by kernel_rfl) (by decide) (fun _ _ _ h => h) (Or.inl ⟨by rfl, fun w' hS => (by go_simp)⟩) s0 ?_
  try simp only [Go.Act.put, List.setIfInBounds_toArray, List.set_cons_zero, List.set_cons_succ]
  refine wpL_take (i := 5) (v := (.pointer (some ⟨b, 5, none⟩))) (some 18) rfl rfl (by kernel_rfl) (by kernel_rfl) (by kernel_rfl) (by kernel_rfl) (by kernel_rfl) (by decide) (fun _ _ _ h => h) (Or.inl ⟨by rfl, fun w' hS => (by go_simp)⟩) s0 ?_
  try simp only [Go.Act.put, List.setIfInBounds_toArray, List.set_cons_zero, List.set_cons_succ]
  refine wpL_take (i := 6) (v := (.pointer (some ⟨b, 5, none⟩))) (some 19) rfl rfl (by kernel_rfl) (by kernel_rfl) (by kernel_rfl) (by kernel_rfl) (by kernel_rfl) (by decide) (fun _ _ _ h => h) (Or.inl ⟨by rfl, fun w' hS => (by go_simp)⟩) s0 ?_
  try simp only [Go.Act.put, List.setIfInBounds_toArray, List.set_cons_zero, List.set_cons_succ]
  refine wpL_take (i := 7) (v := (.pointer (some ⟨b, 5, none⟩))) (some 20) rfl rfl (by kernel_rfl) (by kernel_rfl) (by kernel_rfl) (by kernel_rfl) (by kernel_rfl) (by decide) (fun _ _ _ h => h) (Or.inl ⟨by rfl, fun w' hS => (by go_simp)⟩) s0 ?_
  try simp only [Go.Act.put, List.setIfInBounds_toArray, List.set_cons_zero, List.set_cons_succ]
  refine wpL_take (i := 8) (v := (.slice a cs.length cap)) (some 21) rfl rfl (by kernel_rfl) (by kernel_rfl) (by kernel_rfl) (by kernel_rfl) (by kernel_rfl) (by decide) (fun _ _ _ h => h) (Or.inl ⟨by rfl, fun w' hS => (by have z0 := H5 _ hS; go_simp)⟩) s0 ?_
  try simp only [Go.Act.put, List.setIfInBounds_toArray, List.set_cons_zero, List.set_cons_succ]
  refine wpL_take (i := 9) (v := (.int .i64 (cs.length : Nat))) (some 22) rfl rfl (by kernel_rfl) (by kernel_rfl) (by kernel_rfl) (by kernel_rfl) (by kernel_rfl) (by decide) (fun _ _ _ h => h) (Or.inl ⟨by rfl, fun w' hS => (by go_simp)⟩) s0 ?_
  try simp only [Go.Act.put, List.setIfInBounds_toArray, List.set_cons_zero, List.set_cons_succ]
  refine wpL_ready (rs := [10]) (by kernel_rfl) (by simp) (AllL.cons (o := { dst := none, op := Op.mapUpdate 97 (Operand.tmp 16) (Operand.tmp 17) (Operand.tmp 22), type := 0, pos := _, after := #[{ on := 3, ground := Ground.data }, { on := 4, ground := Ground.data }, { on := 9, ground := Ground.data }, { on := 0, ground := Ground.phase }, { on := 1, ground := Ground.phase }, { on := 2, ground := Ground.phase }, { on := 3, ground := Ground.phase }, { on := 4, ground := Ground.phase }, { on := 5, ground := Ground.phase }, { on := 6, ground := Ground.phase }, { on := 7, ground := Ground.phase }, { on := 8, ground := Ground.phase }, { on := 9, ground := Ground.phase }], guard := none }) rfl (fun K' hK => ?_) AllL.nil)
  rw [if_pos (by rfl)]
  go_simp
  obtain ⟨ob, hrun, hM⟩ := HMP.out.set (t := 97) Tryz.underlying97 HNM.out hx (.int .i64 (cs.length : Nat))
  simp only [hrun]
  refine hK.out _ _ (fun h => absurd h (by decide)) ?_
  clear hK
  try simp only [Go.Act.put, List.setIfInBounds_toArray, List.set_cons_zero, List.set_cons_succ]
  refine wpL_done (by kernel_rfl) ?_ _
  obtain ⟨W2, hW2⟩ : ∃ W2, W2 = setBlock W1.drew d ob := ⟨_, rfl⟩
  have T2 : Touch [d] W1 W2 := by rw [hW2]; exact touch_setBlock (Touch.refl _ _).drew (by simp) ob
  have HD : Hid (MapAt W2 d ((wl cs).length + 1) (plv (cs ++ [x])) ∧ W2.ownsRow 0 3 1 (.slice a cs.length cap) cs.length (ints cs) ∧ Rc W2 b R (.slice a cs.length cap) (.map (some d)) k c e o) := by
    have h := HH.out
    have hr := h.ln.row
    have hrc := h.rc
    refine ⟨?_, own_touch hr T2 (fun q hq e' => ?_), hrc.keep T2 (fun e' => ?_)⟩
    · rw [← hW2] at hM
      rw [plv_none hn] at hM
      refine (show MapAt W2 d ((wl cs).length + 1) _ from hM).congr (fun q _ => ?_)
      exact plv_put h0 hn q
    · simp only [List.mem_singleton] at e'
      exact row_map h.ln.row h.ln.mp hq rfl e'
    · simp only [List.mem_singleton] at e'
      exact map_ne h.rc h.ln.mp rfl e'.symm
  clear hrun hM
  rw [← hW2]
  clear hW2 ob s0 H5 H6 HMP HNM q63
  have T2' := hid T2
  clear T2
  have c5 := HD.out.2.2.cs.c5
  have hbl := HD.out.2.2.lt
  have hne : b ≠ W2.heap.size := by omega
  have HO : Hid (∀ ob, (W2.alloc ob).ownsRow 0 3 1 (.slice a cs.length cap) cs.length (ints cs)) := fun ob => by
    exact own_touch HD.out.2.1 ((Touch.refl [] _).alloc _) (fun _ _ e => by cases e)
  have HX : Hid (∀ g5 c5 w5, w5.ownsRow 0 3 1 (.slice (some ⟨g5, 0, none⟩) (cs.length + 1) c5) (cs.length + 1) (ints (cs ++ [x])) → (W2.alloc (.cells #[.int .i64 x] 3)).grownBy w5 (Value.slice a cs.length cap).ownBlock → ((Value.slice a cs.length cap).ownBlock = some g5 ∨ g5 = (W2.alloc (.cells #[.int .i64 x] 3)).heap.size) →
      (w5.cell? ⟨b, 5, none⟩ = some (.slice a cs.length cap) ∧ w5.frozen? ⟨b, 5, none⟩ = false ∧ b < w5.heap.size) ∧ LnE W1 (w5.setCell ⟨b, 5, none⟩ (.slice (some ⟨g5, 0, none⟩) (cs.length + 1) c5)) b R k c e o (fpR b (.slice a cs.length cap) (some d)) (cs ++ [x])) := fun g5 c5 w5 o5 r5 p5 => by
    obtain ⟨hm, hr, hrc⟩ := HD.out
    have tA : Touch ((Value.slice a cs.length cap).ownBlock.toList) W2 w5 := ((Touch.refl _ _).alloc _).grown r5 (fun q hq => Or.inl (by rw [hq]; simp))
    have hrc5 : Rc w5 b R (.slice a cs.length cap) (.map (some d)) k c e o := hrc.keep tA (fun e' => by
      simp only [Option.mem_toList] at e'
      exact row_ne hrc hr e' rfl)
    refine ⟨⟨hrc5.cs.c5, hrc5.fz 5, hrc5.lt⟩, ?_⟩
    have tB : Touch [b] w5 (w5.setCell ⟨b, 5, none⟩ (.slice (some ⟨g5, 0, none⟩) (cs.length + 1) c5)) := (Touch.refl _ _).setCell (Or.inl (by simp)) _
    have hm2 : Mp W2 (some d) (cs ++ [x]) := Or.inr ⟨d, rfl, by rw [wl_app, wl_one h0]; simpa using hm⟩
    have hm5 : Mp w5 (some d) (cs ++ [x]) := hm2.keep tA (fun q hq e' => by
      simp only [Option.mem_toList] at e'
      exact row_map hr hm2 e' hq rfl)
    refine ⟨_, some d, ⟨hrc5.set5 _, ⟨?_, hm5.keep tB (fun q hq e' => ?_), HH.out.ln.ok.put hx h0 hn⟩⟩, ?_, fun q hq => ?_⟩
    · rw [show (cs ++ [x]).length = cs.length + 1 by simp]
      refine own_touch o5 tB (fun q hq e' => ?_)
      simp only [List.mem_singleton] at e'
      exact row_ne hrc5 o5 hq e'
    · simp only [List.mem_singleton] at e'
      exact map_ne hrc5 hm5 hq e'
    · refine (((T2'.out.mono (fun q hq => ?_)).trans tA (fun q hq => ?_)).trans tB (fun q hq => ?_))
      · simp only [List.mem_singleton] at hq; exact mem_fpR.2 (Or.inr (Or.inr (by rw [hq])))
      · simp only [Option.mem_toList] at hq; exact Or.inl (mem_fpR.2 (Or.inr (Or.inl hq)))
      · simp only [List.mem_singleton] at hq; exact Or.inl (mem_fpR.2 (Or.inl hq))
    · rcases mem_fpR.1 hq with e' | e' | e'
      · exact Or.inl (mem_fpR.2 (Or.inl e'))
      · simp only [Value.ownBlock, Option.some.injEq] at e'
        subst e'
        rcases p5 with p | p
        · exact Or.inl (mem_fpR.2 (Or.inr (Or.inl p)))
        · refine Or.inr ?_
          have := T2'.out.size
          rw [p]; simp; omega
      · exact Or.inl (mem_fpR.2 (Or.inr (Or.inr e')))
  clear HD HH hx h0 hn T2'
  go_wp2_with (at_builtin; refine wpList_append_int rfl _ _ rfl 0 (.slice a cs.length cap) cs rfl (HO.out _) W2.heap.size x rfl (by simp) HLE.out (Nat.zero_le _) ?_; intro g5 c5' w5 o5 r5 p5; obtain ⟨⟨y1, y2, y3⟩, y4⟩ := HX.out _ _ _ o5 r5 p5; have Y4 := hid y4; clear o5 r5 p5 y4)
  go_end0
  exact ⟨rfl, HFIN.out _ Y4.out⟩
theorem add21 (h : Rl w b R k c e o sl m cs) (x : Int) (hx : W64 x) (h0 : x ≠ 0) (hn : ¬ x ∈ wl cs) (hle : cs.length ≤ 3000000000000) : Calls Tryz.prog 178 #[PL b, .int .i64 x] w fun e' w' => e' = .returned (.tuple #[]) ∧ LnE w w' b R k c e o (fpR b sl m) (cs ++ [x]) := by
  cases m with
  | none => exact add21_none w b R sl cs k c e o h x hx h0 hn hle
  | some d => exact add21_some w b R sl cs k c e o d h x hx h0 hn hle
end
end Go.Proofs.YtllchnancjgijaaGreat.Ta
/- A record as a plain state; the contracts of what only reads one. -/
namespace Go.Proofs.YtllchnancjgijaaGreat.Ta
open Go.RowKit Go.Maps Go.ChangeMaps
set_option maxRecDepth 100000
set_option linter.unusedVariables false
set_option linter.unusedSimpArgs false
def Rq (w : World) (b : Nat) (F : List Nat) (R : Rn) (S : St) (N : Nat) : Prop := ∃ sl m cs, F = fpR b sl m ∧ Rl w b R (S.kept && !S.ended) S.canc S.ended S.out sl m cs ∧ wl cs = S.who ∧ cs.length ≤ N ∧ Iv S
def RqE (w w' : World) (b : Nat) (F : List Nat) (R : Rn) (S : St) (N : Nat) : Prop := ∃ F', Rq w' b F' R S N ∧ Touch F w w' ∧ Nf w F F'
section
variable {w w' : World} {b N M : Nat} {F G : List Nat} {R : Rn} {S : St}
theorem Rq.lt (h : Rq w b F R S N) : ∀ d, d ∈ F → d < w.heap.size := by
  obtain ⟨sl, m, cs, rfl, h, _⟩ := h
  exact h.lt
theorem Rq.keep (h : Rq w b F R S N) (T : Touch G w w') (hG : ∀ d, d ∈ F → ¬ d ∈ G) : Rq w' b F R S N := by
  obtain ⟨sl, m, cs, rfl, h, r⟩ := h
  exact ⟨sl, m, cs, rfl, h.keep T hG, r⟩
theorem Rq.mono (h : Rq w b F R S N) (hN : N ≤ M) : Rq w b F R S M := by
  obtain ⟨sl, m, cs, rfl, h, h1, h2, h3⟩ := h
  exact ⟨sl, m, cs, rfl, h, h1, Nat.le_trans h2 hN, h3⟩
theorem Rq.iv (h : Rq w b F R S N) : Iv S := by
  obtain ⟨sl, m, cs, rfl, h, h1, h2, h3⟩ := h
  exact h3
theorem RqE.same (h : Rq w b F R S N) (hN : N ≤ M) : RqE w w b F R S M := ⟨F, h.mono hN, Touch.refl _ _, Nf.refl _ _⟩
theorem Rq.cs (h : Rq w b F R S N) : ∃ sl mp, Rcs w b R sl mp (S.kept && !S.ended) S.canc S.ended S.out ∧ ∀ i, w.frozen? ⟨b, i, none⟩ = false := by
  obtain ⟨sl, m, cs, rfl, h, _⟩ := h
  exact ⟨sl, .map m, h.rc.cs, h.rc.fz⟩
end
section
variable (w : World) (b N : Nat) (F : List Nat) (R : Rn) (S : St)
end
end Go.Proofs.YtllchnancjgijaaGreat.Ta
/- The contracts of Join, Leave and Release. -/
namespace Go.Proofs.YtllchnancjgijaaGreat.Ta
open Go.RowKit Go.Maps Go.ChangeMaps
set_option maxRecDepth 100000
set_option linter.unusedVariables false
set_option linter.unusedSimpArgs false
section
variable (w : World) (b N : Nat) (F : List Nat) (R : Rn) (S : St)
set_option maxHeartbeats 2000000 in
theorem join13 (h : Rq w b F R S N) (hN : N ≤ 3000000000000) (x : Int) (hx : W64 x) : Calls Tryz.prog 133 #[PT b, .int .i64 x] w fun e w' => e = .returned (.int .i64 (joinE S x)) ∧ RqE w w' b F R (joinS S x) (N + 1) := by
  have HS := hid (RqE.same h (Nat.le_succ N))
  obtain ⟨sl', mp', ⟨c0, c1, c2, c3, c4, c5, c6, c7, c8, c9, c10, c11, c12, c13⟩, f8⟩ := h.cs
  clear c0 c1 c2 c3 c4 c5 c6 c7 c10 c11 c12 c13 f8
  by_cases h1 : x < 1
  · have e1 : joinE S x = 1 := by simp [joinE, h1]
    have e2 : joinS S x = S := by unfold joinS; rw [e1]; simp
    rw [e1, e2]
    clear h e1 e2 c8 c9
    unfold PT
    go_enter Tryz.func133, Tryz.ntmps133
    go_wp2
    go_ret
    exact ⟨rfl, HS.out⟩
  · cases hE : S.ended with
    | true =>
      have e1 : joinE S x = 110 := by simp [joinE, h1, hE]
      have e2 : joinS S x = S := by unfold joinS; rw [e1]; simp
      rw [e1, e2]
      rw [hE] at c9
      clear h e1 e2 c8 hE
      unfold PT
      go_enter Tryz.func133, Tryz.ntmps133
      go_wp2
      go_ret
      exact ⟨rfl, HS.out⟩
    | false =>
      cases hC : S.canc with
      | true =>
        have e1 : joinE S x = 113 := by simp [joinE, h1, hE, hC]
        have e2 : joinS S x = S := by unfold joinS; rw [e1]; simp
        rw [e1, e2]
        rw [hE] at c9
        rw [hC] at c8
        clear h e1 e2 hE hC
        unfold PT
        go_enter Tryz.func133, Tryz.ntmps133
        go_wp2
        go_ret
        exact ⟨rfl, HS.out⟩
      | false =>
        rw [hE] at c9
        rw [hC] at c8
        obtain ⟨sl, m, cs, rfl, hr, hw, hl, hv⟩ := h
        have HH := hid (has29 hr x hx)
        rw [hw] at HH
        by_cases hm : x ∈ S.who
        · have e1 : joinE S x = 111 := by simp [joinE, h1, hE, hC, hm]
          have e2 : joinS S x = S := by unfold joinS; rw [e1]; simp
          rw [e1, e2]
          rw [show decide (x ∈ S.who) = true by simp [hm]] at HH
          clear hr e1 e2 hE hC hm hw hl hv
          unfold PT
          unfold PL at HH
          go_enter Tryz.func133, Tryz.ntmps133
          go_wp2_with (go_at_call 177; refine HH.out.mono ?_; rintro e w ⟨rfl, rfl⟩)
          go_ret
          exact ⟨rfl, HS.out⟩
        · have e1 : joinE S x = 0 := by simp [joinE, h1, hE, hC, hm]
          have e2 : joinS S x = { S with who := S.who ++ [x] } := by unfold joinS; rw [e1]; simp
          have hv2 := hv.join hx
          rw [e2] at hv2
          rw [e1, e2]
          rw [show decide (x ∈ S.who) = false by simp [hm]] at HH
          have HA := hid (add21 w b R sl m cs _ _ _ _ hr x hx (by omega) (by rw [hw]; exact hm) (by omega))
          have HX : Hid (∀ w', LnE w w' b R (S.kept && !S.ended) S.canc S.ended S.out (fpR b sl m) (cs ++ [x]) → RqE w w' b (fpR b sl m) R { S with who := S.who ++ [x] } (N + 1)) := fun w' ⟨sl', m', q1, q2, q3⟩ =>
            ⟨_, ⟨sl', m', cs ++ [x], rfl, q1, by rw [wl_app, wl_one (by omega), hw], by simp; exact hl, hv2⟩, q2, q3⟩
          clear hr e1 e2 hE hC hm hw hl hv hv2 HS
          unfold PT
          unfold PL at HH HA
          go_enter Tryz.func133, Tryz.ntmps133
          go_wp2_with (first | (go_at_call 177; refine HH.out.mono ?_; rintro e w ⟨rfl, rfl⟩) | (go_at_call 178; refine HA.out.mono ?_; rintro e w2 ⟨rfl, r⟩; have RR := hid (HX.out _ r); clear r))
          go_ret
          exact ⟨rfl, RR.out⟩
end
end Go.Proofs.YtllchnancjgijaaGreat.Ta
/- The contracts of New and of Clone. -/
namespace Go.Proofs.YtllchnancjgijaaGreat.Ta
open Go.RowKit Go.Maps Go.ChangeMaps
set_option maxRecDepth 100000
set_option linter.unusedVariables false
set_option linter.unusedSimpArgs false
def mayN (R : Rn) (x : Int) : Bool := decide (1 ≤ R.run) && decide (0 ≤ R.gen) && (if R.rf then decide (x = 0) else decide (1 ≤ x))
def S0 (R : Rn) (x : Int) : St := ⟨if R.rf then [] else [x], R.rf, false, false, oz⟩
theorem iv_S0 {R : Rn} {x : Int} (hx : W64 x) (h : mayN R x = true) : Iv (S0 R x) := by
  refine ⟨fun e => (by cases e), fun _ => rfl, fun _ e => (by cases e), fun y hy => ?_, ?_⟩
  · unfold S0 at hy
    unfold mayN at h
    cases hr : R.rf
    · rw [hr] at hy h
      simp at hy h
      subst hy
      exact ⟨hx, h.2⟩
    · rw [hr] at hy; simp at hy
  · unfold S0
    cases hr : R.rf <;> simp
def NwE (e : Ending) (w w' : World) (R : Rn) (x : Int) : Prop := ∃ b F, e = .returned (.tuple #[PT b, .int .i64 0]) ∧ Rq w' b F R (S0 R x) 1 ∧ Touch [] w w' ∧ ∀ d, d ∈ F → w.heap.size ≤ d
section
variable (w : World) (R : Rn) (x : Int)
theorem rl_new (w : World) (o : Obj) (R : Rn) : Rl ((w.alloc o).alloc (.cells (rc R (.slice none 0 0) (.map none) R.rf false false oz) 274)) (w.heap.size + 1) R R.rf false false oz (.slice none 0 0) none [] := by
  refine ⟨⟨?_⟩, Ln.nil _⟩
  have := heap_alloc_new (w.alloc o) (.cells (rc R (.slice none 0 0) (.map none) R.rf false false oz) 274)
  rwa [World.size_alloc] at this
set_option maxHeartbeats 2000000 in
theorem new5_ok (hx : W64 x) (h : mayN R x = true) : Calls Tryz.prog 136 #[rv R, .int .i64 x] w fun e w' => NwE e w w' R x := by
  have hiv := iv_S0 hx h
  have HL := hid (rl_new w (.cells #[.int .i64 R.run, .int .u16 R.sp, .string R.nm, .int .i64 R.gen, .bool R.rf] 49) R)
  have ht : Touch [] w ((w.alloc (.cells #[.int .i64 R.run, .int .u16 R.sp, .string R.nm, .int .i64 R.gen, .bool R.rf] 49)).alloc (.cells (rc R (.slice none 0 0) (.map none) R.rf false false oz) 274)) := ((Touch.refl _ _).alloc _).alloc _
  have HT := hid ht
  clear ht
  unfold mayN at h
  cases hr : R.rf with
  | true =>
    rw [hr] at h HL HT
    simp only [if_true, Bool.and_eq_true, decide_eq_true_eq] at h
    obtain ⟨⟨h1, h2⟩, rfl⟩ := h
    have HX : Hid (NwE (.returned (.tuple #[PT (w.heap.size + 1), .int .i64 0])) w ((w.alloc (.cells #[.int .i64 R.run, .int .u16 R.sp, .string R.nm, .int .i64 R.gen, .bool true] 49)).alloc (.cells (rc R (.slice none 0 0) (.map none) true false false oz) 274)) R 0) := by
      refine ⟨w.heap.size + 1, fpR (w.heap.size + 1) (.slice none 0 0) none, rfl, ⟨.slice none 0 0, none, [], rfl, ?_, ?_, Nat.zero_le _, hiv⟩, HT.out, fun d hd => ?_⟩
      · unfold S0
        rw [hr]
        exact HL.out
      · unfold S0; rw [hr]; rfl
      · rcases mem_fpR.1 hd with q | q | q
        · omega
        · cases q
        · cases q
    clear HL HT hiv hx
    unfold PT rc oz at HX
    unfold rv
    rw [hr] at HX ⊢
    have g1 : (R.run < 1) = False := by simp; omega
    have g2 : (R.gen < 0) = False := by simp; omega
    go_enter Tryz.func136, Tryz.ntmps136
    go_wp2
    exact bodyPost_ret (v := .tuple #[.pointer (some ⟨w.heap.size + 1, 0, none⟩), .int .i64 0]) (by simp [results, Tryz.results136, go_sem]) rfl HX.out
  | false =>
    rw [hr] at h HL HT
    simp only [Bool.false_eq_true, if_false, Bool.and_eq_true, decide_eq_true_eq] at h
    obtain ⟨⟨h1, h2⟩, h3⟩ := h
    have HA := hid (add21 _ _ R _ none [] _ _ _ _ HL.out x hx (by omega) (by simp [wl]) (by simp))
    have HX : Hid (∀ w', LnE ((w.alloc (.cells #[.int .i64 R.run, .int .u16 R.sp, .string R.nm, .int .i64 R.gen, .bool false] 49)).alloc (.cells (rc R (.slice none 0 0) (.map none) false false false oz) 274)) w' (w.heap.size + 1) R false false false oz (fpR (w.heap.size + 1) (.slice none 0 0) none) ([] ++ [x]) → NwE (.returned (.tuple #[PT (w.heap.size + 1), .int .i64 0])) w w' R x) := fun w' ⟨sl, m, q1, q2, q3⟩ => by
      have hz := HT.out.size
      refine ⟨w.heap.size + 1, fpR (w.heap.size + 1) sl m, rfl, ⟨sl, m, [] ++ [x], rfl, ?_, ?_, by simp, hiv⟩, HT.out.trans q2 (fun d hd => Or.inr ?_), fun d hd => ?_⟩
      · unfold S0; rw [hr]; exact q1
      · unfold S0; rw [hr]; exact wl_one (by omega)
      · rcases mem_fpR.1 hd with q | q | q
        · omega
        · cases q
        · cases q
      · rcases q3 d hd with q | q
        · rcases mem_fpR.1 q with q | q | q
          · omega
          · cases q
          · cases q
        · omega
    clear HL HT hiv
    unfold PL rc oz at HA
    unfold PT rc oz at HX
    unfold rv
    rw [hr] at HX HA ⊢
    have g1 : (R.run < 1) = False := by simp; omega
    have g2 : (R.gen < 0) = False := by simp; omega
    have g3 : (x < 0) = False := by simp; omega
    have g4 : (x == 0) = false := by simp; omega
    go_enter Tryz.func136, Tryz.ntmps136
    go_wp2_with (go_at_call 178; refine HA.out.mono ?_; rintro e w2 ⟨rfl, r⟩; have RR := hid (HX.out _ r); clear r)
    exact bodyPost_ret (v := .tuple #[.pointer (some ⟨w.heap.size + 1, 0, none⟩), .int .i64 0]) (by simp [results, Tryz.results136, go_sem]) rfl RR.out
end
end Go.Proofs.YtllchnancjgijaaGreat.Ta
/- A table of runs as a plain state, and its steps; no program. -/
namespace Go.Proofs.YtllchnancjgijaaGreat.Ta
set_option linter.unusedVariables false
set_option maxRecDepth 100000
structure Tb where
  fl : Int
  bg : Int
  rs : List (Rn × St)
  gn : K → Int
def kOf (R : Rn) : K := (R.sp, R.nm)
def runOf (T : Tb) (n : Int) : Option (Rn × St) := T.rs.find? (fun p => decide (p.1.run = n))
def isCur (T : Tb) (R : Rn) : Bool := decide (R.gen = T.gn (kOf R))
def curL (T : Tb) (k : K) (l : List (Rn × St)) : Option (Rn × St) := l.find? (fun p => decide (kOf p.1 = k) && isCur T p.1)
def curOf (T : Tb) (k : K) : Option Rn := (curL T k T.rs).map (·.1)
def putS (n : Int) (S : St) (p : Rn × St) : Rn × St := if p.1.run = n then (p.1, S) else p
def setS (T : Tb) (n : Int) (S : St) : Tb := { T with rs := T.rs.map (putS n S) }
def tJoinE (T : Tb) (n x : Int) : Int := match runOf T n with | none => 122 | some p => joinE p.2 x
def tJoin (T : Tb) (n x : Int) : Tb := match runOf T n with | none => T | some p => setS T n (joinS p.2 x)
def mayK (k : K) : Bool := decide (k.2.size ≤ 64)
def tForE (k : K) : Int := if mayK k then 0 else 20
def badC (x : Int) (rf : Bool) : Bool := if rf then decide (x ≠ 0) else decide (x < 1)
def tBegE (T : Tb) (k : K) (x : Int) (rf : Bool) : Int := if !mayK k then 20 else if badC x rf then 1 else if (curOf T k).isSome then 121 else if T.fl ≤ T.rs.length then 120 else 0
def tBegR (T : Tb) (k : K) (rf : Bool) : Rn := ⟨T.bg + 1, k.1, k.2, T.gn k, rf⟩
def tBegN (T : Tb) (k : K) (x : Int) (rf : Bool) : Int := if tBegE T k x rf = 0 then T.bg + 1 else 0
def tBeg (T : Tb) (k : K) (x : Int) (rf : Bool) : Tb := if tBegE T k x rf = 0 then { T with bg := T.bg + 1, rs := T.rs ++ [(tBegR T k rf, S0 (tBegR T k rf) x)] } else T
structure Ti (T : Tb) (M : Nat) : Prop where
  ord : T.rs.Pairwise (fun p q => p.1.run < q.1.run)
  rng : ∀ p ∈ T.rs, 1 ≤ p.1.run ∧ p.1.run ≤ T.bg
  gen : ∀ p ∈ T.rs, 0 ≤ p.1.gen ∧ p.1.gen ≤ T.gn (kOf p.1)
  one : T.rs.Pairwise (fun p q => kOf p.1 = kOf q.1 → p.1.gen ≠ q.1.gen)
  live : ∀ p ∈ T.rs, Iv p.2
  ok : ∀ p ∈ T.rs, Ok (kOf p.1)
  len : (T.rs.length : Int) ≤ T.fl
  fl : 1 ≤ T.fl ∧ T.fl ≤ 4096
  bg : 0 ≤ T.bg ∧ T.bg ≤ M
  gn : ∀ k, 0 ≤ T.gn k ∧ T.gn k ≤ M
section
variable {T : Tb} {M N : Nat} {n : Int} {p : Rn × St}
theorem Ti.mono (h : Ti T M) (hm : M ≤ N) : Ti T N := ⟨h.ord, h.rng, h.gen, h.one, h.live, h.ok, h.len, h.fl, ⟨h.bg.1, by have := h.bg.2; omega⟩, fun k => ⟨(h.gn k).1, by have := (h.gn k).2; omega⟩⟩
theorem runOf_of_mem (h : Ti T M) (hp : p ∈ T.rs) : runOf T p.1.run = some p := by
  unfold runOf
  have ho := h.ord
  generalize T.rs = l at hp ho
  induction l with
  | nil => cases hp
  | cons a r ih =>
    obtain ⟨h1, h2⟩ := List.pairwise_cons.1 ho
    rcases List.mem_cons.1 hp with e | e
    · subst e; simp
    · have := h1 p e
      rw [List.find?_cons_of_neg (by simp; omega)]
      exact ih e h2
theorem runOf_none (h : runOf T n = none) : ∀ p ∈ T.rs, p.1.run ≠ n := fun p hp e => by
  have := List.find?_eq_none.1 h p hp
  simp [e] at this
theorem putS_fst (S : St) (p : Rn × St) : (putS n S p).1 = p.1 := by unfold putS; split <;> rfl
theorem rs_setS (S : St) : (setS T n S).rs.map (·.1) = T.rs.map (·.1) := by
  simp only [setS, List.map_map]
  exact List.map_congr_left (fun p _ => putS_fst S p)
theorem curOf_eq (T : Tb) (k : K) : curOf T k = (T.rs.map (·.1)).find? (fun R => decide (kOf R = k) && isCur T R) := by
  unfold curOf curL
  rw [List.find?_map]
  rfl
theorem curOf_setS (S : St) (k : K) : curOf (setS T n S) k = curOf T k := by
  rw [curOf_eq, curOf_eq, rs_setS]
  rfl
theorem curOf_some {k : K} {R : Rn} (h : curOf T k = some R) : (∃ S, (R, S) ∈ T.rs) ∧ kOf R = k ∧ R.gen = T.gn k := by
  unfold curOf at h
  obtain ⟨p, hp, rfl⟩ := Option.map_eq_some_iff.1 h
  have h1 := List.mem_of_find?_eq_some hp
  have h2 := List.find?_some hp
  simp only [Bool.and_eq_true, decide_eq_true_eq, isCur] at h2
  exact ⟨⟨p.2, h1⟩, h2.1, h2.1 ▸ h2.2⟩
theorem curOf_none {k : K} (h : curOf T k = none) : ∀ p ∈ T.rs, kOf p.1 = k → p.1.gen ≠ T.gn k := fun p hp hk e => by
  unfold curOf at h
  have := List.find?_eq_none.1 (Option.map_eq_none_iff.1 h) p hp
  simp [hk, isCur, e] at this
theorem curOf_app (T' : Tb) (R : Rn) (S : St) (hr : T'.rs = T.rs ++ [(R, S)]) (hg : T'.gn = T.gn) (hc : curOf T (kOf R) = none) (he : R.gen = T.gn (kOf R)) (j : K) : curOf T' j = if j = kOf R then some R else curOf T j := by
  rw [curOf_eq, curOf_eq, hr, List.map_append, List.find?_append]
  have hs : ∀ Q : Rn, isCur T' Q = isCur T Q := fun Q => by unfold isCur; rw [hg]
  simp only [hs]
  rw [← curOf_eq]
  split
  · rename_i e
    subst e
    rw [hc]
    simp [isCur, he]
  · rename_i e
    cases hq : curOf T j with
    | some Q => simp
    | none =>
      simp only [List.map_cons, List.map_nil, Option.none_or]
      rw [List.find?_cons_of_neg (by simp; intro e'; exact absurd e'.symm e)]
      rfl
theorem Ti.setS (h : Ti T M) {S : St} (hS : Iv S) : Ti (setS T n S) M := by
  have hmem : ∀ q ∈ (YtllchnancjgijaaGreat.Ta.setS T n S).rs, ∃ p ∈ T.rs, q.1 = p.1 ∧ (q.2 = p.2 ∨ q.2 = S) := fun q hq => by
    obtain ⟨p, hp, rfl⟩ := List.mem_map.1 hq
    refine ⟨p, hp, putS_fst S p, ?_⟩
    unfold putS
    split
    · exact Or.inr rfl
    · exact Or.inl rfl
  refine ⟨?_, fun q hq => ?_, fun q hq => ?_, ?_, fun q hq => ?_, fun q hq => ?_, ?_, h.fl, h.bg, h.gn⟩
  · refine List.pairwise_map.2 (h.ord.imp (fun {a b} hab => ?_))
    rw [putS_fst, putS_fst]; exact hab
  · obtain ⟨p, hp, e, _⟩ := hmem q hq; rw [e]; exact h.rng p hp
  · obtain ⟨p, hp, e, _⟩ := hmem q hq; rw [e]; exact h.gen p hp
  · refine List.pairwise_map.2 (h.one.imp (fun {a b} hab => ?_))
    rw [putS_fst, putS_fst]; exact hab
  · obtain ⟨p, hp, _, e | e⟩ := hmem q hq
    · rw [e]; exact h.live p hp
    · rw [e]; exact hS
  · obtain ⟨p, hp, e, _⟩ := hmem q hq; rw [e]; exact h.ok p hp
  · simp only [YtllchnancjgijaaGreat.Ta.setS, List.length_map]; exact h.len
theorem join_live {S : St} (hE : S.ended = false) (x : Int) : (joinS S x).ended = false := by unfold joinS; split <;> exact hE
theorem tBegE_zero {k : K} {x : Int} {rf : Bool} (h : tBegE T k x rf = 0) : k.2.size ≤ 64 ∧ badC x rf = false ∧ curOf T k = none ∧ ¬ T.fl ≤ T.rs.length := by
  unfold tBegE mayK at h
  split at h
  · omega
  · split at h
    · omega
    · split at h
      · omega
      · split at h
        · omega
        · rename_i h1 h2 h3 h4
          exact ⟨by simpa using h1, by simpa using h2, by simpa using h3, h4⟩
theorem begin_may {k : K} {x : Int} {rf : Bool} (h : Ti T M) (hb : badC x rf = false) : mayN (tBegR T k rf) x = true := by
  have h1 := h.bg.1
  have h2 := (h.gn k).1
  unfold mayN tBegR
  unfold badC at hb
  cases rf
  · simp at hb; simp; omega
  · simp at hb; simp; omega
theorem Ti.begin_ (h : Ti T M) {k : K} {x : Int} {rf : Bool} (hk : Ok k) (hx : W64 x) : Ti (tBeg T k x rf) (M + 1) := by
  unfold tBeg
  split
  · rename_i e
    obtain ⟨h1, h2, h3, h4⟩ := tBegE_zero e
    have hb := h.bg
    refine ⟨?_, fun p hp => ?_, fun p hp => ?_, ?_, fun p hp => ?_, fun p hp => ?_, ?_, h.fl, ⟨by simp only; omega, by simp only; omega⟩, fun j => ⟨(h.gn j).1, by have := (h.gn j).2; simp only; omega⟩⟩
    · refine List.pairwise_append.2 ⟨h.ord, by simp, fun a ha b hb' => ?_⟩
      simp only [List.mem_singleton] at hb'
      subst hb'
      have := (h.rng a ha).2
      simp only [tBegR]
      omega
    · rcases List.mem_append.1 hp with q | q
      · have := h.rng p q; simp only; omega
      · simp only [List.mem_singleton] at q; subst q; simp only [tBegR]; omega
    · rcases List.mem_append.1 hp with q | q
      · exact h.gen p q
      · simp only [List.mem_singleton] at q; subst q; simp only [tBegR, kOf]; exact ⟨(h.gn _).1, Int.le_refl _⟩
    · refine List.pairwise_append.2 ⟨h.one, by simp, fun a ha b hb' => ?_⟩
      simp only [List.mem_singleton] at hb'
      subst hb'
      simp only [tBegR, kOf]
      intro e2
      exact curOf_none h3 a ha e2
    · rcases List.mem_append.1 hp with q | q
      · exact h.live p q
      · simp only [List.mem_singleton] at q; subst q; exact iv_S0 hx (begin_may h h2)
    · rcases List.mem_append.1 hp with q | q
      · exact h.ok p q
      · simp only [List.mem_singleton] at q; subst q; exact hk
    · simp only [List.length_append, List.length_singleton]; omega
  · exact h.mono (Nat.le_succ _)
def Lv (T : Tb) : Prop := ∀ p ∈ T.rs, p.2.ended = false
theorem Lv.setS (h : Lv T) {S : St} (hE : S.ended = false) : Lv (setS T n S) := fun q hq => by
  obtain ⟨p, hp, rfl⟩ := List.mem_map.1 hq
  unfold putS
  split
  · exact hE
  · exact h p hp
theorem Lv.begin_ (h : Lv T) (k : K) (x : Int) (rf : Bool) : Lv (tBeg T k x rf) := by
  unfold tBeg
  split
  · intro p hp
    rcases List.mem_append.1 hp with q | q
    · exact h p q
    · simp only [List.mem_singleton] at q; subst q; rfl
  · exact h
theorem tv_new {f : Int} (h1 : 1 ≤ f) (h2 : f ≤ 4096) : Ti ⟨f, 0, [], fun _ => 0⟩ 0 :=
  ⟨List.Pairwise.nil, fun p hp => (by cases hp), fun p hp => (by cases hp), List.Pairwise.nil, fun p hp => (by cases hp), fun p hp => (by cases hp), by simp; omega, ⟨h1, h2⟩, ⟨by simp, by simp⟩, fun k => ⟨by simp, by simp⟩⟩
end
end Go.Proofs.YtllchnancjgijaaGreat.Ta
