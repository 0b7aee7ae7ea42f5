/- Contracts of what only reads a memo: its ticks, what it keeps, how an entry is at its time; no conditions but those that each states. -/
import Derived.Test.YtopepalpmkeffaaMem
namespace Go.Proofs.Ytopepalpmkeffaa
open Go.RowKit Go.Sort Go.Maps Go.ChangeMaps Go.WideMaps
set_option linter.unusedVariables false
set_option linter.unusedSimpArgs false
def tickE (now n : Int) : Int := if isT n then (if n < now then 101 else 0) else 10
theorem tick45 (w : World) (m : Nat) (c : Cf) (now n : Int) (b o : Nat) (h : Md w m c now b o) : Calls Try.prog 45 #[PT m, .int .i64 n] w fun e w' => e = .returned (.int .i64 (tickE now n)) ∧ w' = w := by
  have c7 := h.cs.c7
  have H := is39 n
  unfold tickE PT
  clear h
  generalize isT n = r at *
  cases r
  · go_enter Try.func45, Try.ntmps45
    go_wp2_with (go_at_call 39; refine (H _).mono ?_; rintro e w2 ⟨rfl, rfl⟩)
    go_ret
    exact ⟨rfl, rfl⟩
  · by_cases hb : n < now
    · go_enter Try.func45, Try.ntmps45
      go_wp2_with (go_at_call 39; refine (H _).mono ?_; rintro e w2 ⟨rfl, e2⟩; rw [e2]; clear e2 w2)
      go_ret
      simp [hb]
    · go_enter Try.func45, Try.ntmps45
      go_wp2_with (go_at_call 39; refine (H _).mono ?_; rintro e w2 ⟨rfl, e2⟩; rw [e2]; clear e2 w2)
      go_ret
      simp [hb]
theorem tick45_nil (w : World) (n : Int) : Calls Try.prog 45 #[.pointer none, .int .i64 n] w fun e w' => e = .returned (.int .i64 100) ∧ w' = w := by
  go_enter Try.func45, Try.ntmps45
  go_wp2
  go_ret
  exact ⟨rfl, rfl⟩
theorem now26 (w : World) (m : Nat) (c : Cf) (now : Int) (b o : Nat) (h : Md w m c now b o) : Calls Try.prog 26 #[PT m] w fun e w' => e = .returned (.int .i64 now) ∧ w' = w := by
  have c7 := h.cs.c7
  clear h
  unfold PT
  go_enter Try.func26, Try.ntmps26
  go_wp2
  go_ret
  exact ⟨rfl, rfl⟩
theorem config27 (w : World) (m : Nat) (c : Cf) (now : Int) (b o : Nat) (h : Md w m c now b o) : Calls Try.prog 27 #[PT m] w fun e w' => e = .returned (cv c) ∧ Touch [] w w' := by
  have hl := h.lt
  have hne : m ≠ w.heap.size := by omega
  obtain ⟨c0, c1, c2, c3, c4, c5, c6, c7, c8, c9, f7⟩ := h.cs
  clear h
  unfold PT cv
  go_enter Try.func27, Try.ntmps27
  go_wp2
  refine bodyPost_ret (v := .agg #[.int .i64 c.t, .int .i64 c.n, .int .i64 c.s, .int .i64 c.e, .int .i64 c.f, .int .i64 c.b, .int .i64 c.d]) (by simp [results, Try.results27, go_sem]) rfl ⟨rfl, ?_⟩
  repeat (first | exact Touch.refl _ _ | apply Touch.alloc | (refine Touch.setCell ?_ (Or.inr (by simp)) _))
theorem len19 (w : World) (m b o : Nat) (G : List Nat) (c : Cf) (now : Int) (xs : List En) (h : Mb w m b o G c now xs) : Calls Try.prog 19 #[PT m] w fun e w' => e = .returned (.int .i64 (xs.length : Int)) ∧ w' = w := by
  have c8 := h.md.cs.c8
  have hl := fun ty => h.mp.len (t := 91) Try.underlying91 ty
  clear h
  generalize (xs.length : Int) = n at *
  unfold PT
  go_enter Try.func19, Try.ntmps19
  go_wp2
  go_ret
  exact ⟨rfl, rfl⟩
set_option maxHeartbeats 1000000 in
theorem keeps47 (w : World) (m : Nat) (c : Cf) (now : Int) (b o : Nat) (h : Md w m c now b o) (x : O) : Calls Try.prog 47 #[PT m, ov x] w fun e w' => e = .returned (.bool (keepsC c x)) ∧ Touch [] w w' := by
  have hl := h.lt
  obtain ⟨c0, c1, c2, c3, c4, c5, c6, c7, c8, c9, f7⟩ := h.cs
  clear h c4 c5 c6 c7 c8 c9 f7 c2
  obtain ⟨v, a, y, z⟩ := x
  unfold PT ov keepsC
  simp only
  have hne : m ≠ w.heap.size := by omega
  by_cases h0 : c.e = 0
  · rw [if_pos h0]
    rw [h0] at c3
    go_enter Try.func47, Try.ntmps47
    go_wp2
    go_ret
    exact ⟨rfl, by repeat (first | exact Touch.refl _ _ | apply Touch.alloc)⟩
  rw [if_neg h0]
  have e0 : (c.e == 0) = false := by simp [h0]
  by_cases ha : a = 0
  · subst ha
    rw [if_pos rfl]
    go_enter Try.func47, Try.ntmps47
    go_wp2
    go_ret
    exact ⟨rfl, by repeat (first | exact Touch.refl _ _ | apply Touch.alloc)⟩
  have ea : (a == 0) = false := by simp [ha]
  rw [if_neg ha]
  by_cases h1 : a = 1
  · subst h1
    rw [if_pos rfl]
    go_enter Try.func47, Try.ntmps47
    go_wp2
    go_ret
    exact ⟨rfl, by repeat (first | exact Touch.refl _ _ | apply Touch.alloc)⟩
  rw [if_neg h1]
  have b1 : (a == 1) = false := by simp [h1]
  by_cases h2 : a = 2
  · subst h2
    rw [if_pos rfl]
    go_enter Try.func47, Try.ntmps47
    go_wp2
    go_ret
    exact ⟨rfl, by repeat (first | exact Touch.refl _ _ | apply Touch.alloc)⟩
  rw [if_neg h2]
  have b2 : (a == 2) = false := by simp [h2]
  go_enter Try.func47, Try.ntmps47
  go_wp2
  go_ret
  exact ⟨rfl, by repeat (first | exact Touch.refl _ _ | apply Touch.alloc)⟩
def pairE (k : K) (x : O) : Int := if 64 < k.2.size then 20 else if right x then 0 else 30
theorem pair46 (w : World) (k : K) (x : O) : Calls Try.prog 46 #[kv k, ov x] w fun e w' => e = .returned (.int .i64 (pairE k x)) ∧ Touch [] w w' := by
  obtain ⟨V, hV⟩ : ∃ V, V = (w.alloc (bx k)).alloc (.cells #[.int .i64 x.1, .int .i64 x.2.1, .int .i64 x.2.2.1, .int .i64 x.2.2.2] 43) := ⟨_, rfl⟩
  have TV : Hid (Touch [] w V) := by rw [hV]; exact ((Touch.refl _ _).alloc _).alloc _
  have HB : Hid (∀ w2, Touch [] V w2 → w2.cell? ⟨w.heap.size + 1, 0, none⟩ = some (.int .i64 x.1) ∧ w2.cell? ⟨w.heap.size + 1, 1, none⟩ = some (.int .i64 x.2.1) ∧ w2.cell? ⟨w.heap.size + 1, 2, none⟩ = some (.int .i64 x.2.2.1) ∧ w2.cell? ⟨w.heap.size + 1, 3, none⟩ = some (.int .i64 x.2.2.2)) := fun w2 t => by
    have b : V.heap[w.heap.size + 1]? = some (.cells #[.int .i64 x.1, .int .i64 x.2.1, .int .i64 x.2.2.1, .int .i64 x.2.2.2] 43 (0, 0)) := by
      rw [hV]
      have := heap_alloc_new (w.alloc (bx k)) (.cells #[.int .i64 x.1, .int .i64 x.2.1, .int .i64 x.2.2.1, .int .i64 x.2.2.2] 43)
      rwa [World.size_alloc] at this
    have := t.keep b (by simp)
    simp [World.cell?, this]
  unfold pairE
  by_cases hk : 64 < k.2.size
  · rw [if_pos hk]
    have HC := hid (fun w => check29_no w k hk)
    clear HB
    subst hV
    unfold kv ov bx at *
    go_enter Try.func46, Try.ntmps46
    go_wp2_with (go_at_call 49; refine (HC.out _).mono ?_; rintro e w2 ⟨rfl, t2⟩; have T2 := hid t2; clear t2)
    go_ret
    exact ⟨rfl, TV.out.trans' T2.out⟩
  · rw [if_neg hk]
    have HC := hid (fun w => check29_ok w k (by omega))
    have HR := hid (fun w => right62 w x)
    generalize right x = r at *
    subst hV
    unfold kv ov bx at *
    cases r
    · go_enter Try.func46, Try.ntmps46
      go_wp2_with (first
        | (go_at_call 49; refine (HC.out _).mono ?_; rintro e w2 ⟨rfl, t2⟩; have T2 := hid t2; obtain ⟨q0, q1, q2, q3⟩ := HB.out _ t2; clear t2)
        | (go_at_call 62; refine (HR.out _).mono ?_; rintro e w3 ⟨rfl, t3⟩; have T3 := hid t3; clear t3))
      go_ret
      exact ⟨rfl, TV.out.trans' (T2.out.trans' T3.out)⟩
    · go_enter Try.func46, Try.ntmps46
      go_wp2_with (first
        | (go_at_call 49; refine (HC.out _).mono ?_; rintro e w2 ⟨rfl, t2⟩; have T2 := hid t2; obtain ⟨q0, q1, q2, q3⟩ := HB.out _ t2; clear t2)
        | (go_at_call 62; refine (HR.out _).mono ?_; rintro e w3 ⟨rfl, t3⟩; have T3 := hid t3; clear t3))
      go_ret
      exact ⟨rfl, TV.out.trans' (T2.out.trans' T3.out)⟩
theorem within77 (w : World) (m : Nat) (c : Cf) (now : Int) (b o : Nat) (h : Md w m c now b o) (v : V) (bl len : Nat) (f S : Nat → Int) (ha0 : 0 ≤ v.2) (ha1 : v.2 ≤ now) (ha2 : now ≤ MT) (hlen : len ≤ 2)
    (hf : ∀ j, j < len → w.cell? ⟨bl, j, none⟩ = some (.int .i64 (f j)) ∧ 0 ≤ f j ∧ f j ≤ 9223372036854775807)
    (h0 : S 0 = 0) (hS : ∀ j, j < len → S (j + 1) = S j + f j) (hb : ∀ j, j ≤ len → 0 ≤ S j ∧ S j < 18446744073709551616) :
    Calls Try.prog 77 #[PT m, ev v, .slice (some ⟨bl, 0, none⟩) len len] w fun e w' => e = .returned (.bool (decide (now - v.2 < S len))) ∧ Touch [] w w' := by
  obtain ⟨V, hV⟩ : ∃ V, V = w.alloc (.cells #[.int .i64 v.1.1, .int .i64 v.1.2.1, .int .i64 v.1.2.2.1, .int .i64 v.1.2.2.2, .int .i64 v.2] 108) := ⟨_, rfl⟩
  have TV : Hid (Touch [] w V) := by rw [hV]; exact (Touch.refl _ _).alloc _
  have c7 : V.cell? ⟨m, 7, none⟩ = some (.int .i64 now) := (show Md V m c now b o from TV.out.keep h (by simp)).cs.c7
  have HW : Hid (∀ n, Calls Try.prog 80 #[.int .i64 now, .int .i64 v.2, .slice (some ⟨bl, 0, none⟩) len len] (V.drewN n) fun e w' => e = .returned (.tuple #[.bool (decide (now - v.2 < S len)), .int .i64 0]) ∧ w' = V.drewN n) := fun n =>
    within80 now v.2 bl len f S (V.drewN n) ha0 ha1 ha2 hlen (fun j hj => by
      obtain ⟨q1, q2⟩ := hf j hj
      refine ⟨?_, q2⟩
      have hbl : bl < w.heap.size := by
        unfold World.cell? at q1
        rcases Nat.lt_or_ge bl w.heap.size with e | e
        · exact e
        · simp [Array.getElem?_eq_none e] at q1
      rw [← q1]
      exact World.cell?_of_block (TV.out.block bl hbl (by simp))) h0 hS hb
  have hv : V.cell? ⟨w.heap.size, 4, none⟩ = some (.int .i64 v.2) := by rw [hV]; simp
  clear hf h0 hS hb h ha0 ha1 ha2 hlen
  generalize decide (now - v.2 < S len) = r at *
  unfold PT ev
  go_enter Try.func77, Try.ntmps77
  go_wp2
  rw [← hV]
  clear hV
  go_quiet ((go_at_call 80; exact Calls.quiet_of_same (HW.out _)))
  go_wp2
  go_ret
  exact ⟨rfl, TV.out.drewN _⟩
end Go.Proofs.Ytopepalpmkeffaa
