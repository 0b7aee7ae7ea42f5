/- The law RetryPlans, walked. -/
import Derived.Test.YtkodabhkhifggaaWpn
namespace Go.Proofs.Ytkodabhkhifggaa
open Go.RowKit Go.Maps Go.ChangeMaps Go.ChangeShapes Go.WideShapes Go.ChangeAt
set_option linter.unusedVariables false
set_option linter.unusedSimpArgs false
set_option maxHeartbeats 2000000 in
set_option maxRecDepth 100000 in
theorem plans_no (w : World) (r : Rt) (s : Nat) (hm : may r = false) : Calls Try.prog 4 #[.agg r.cs, .int .u64 s] w fun e w' => e = .returned (.bool true) ∧ Touch [] w w' := by
  have HW := hid (waits_no r hm s)
  have HH := hid (whole_no r hm)
  have HM := hid (may_ r)
  rw [hm] at HM
  have HP := hid (plan_ r)
  have HA := hid awake_
  obtain ⟨V, hV⟩ : ∃ V, V = w.alloc (.cells r.cs 23) := ⟨_, rfl⟩
  have TV : Hid (Touch [] w V) := by rw [hV]; exact (Touch.refl _ _).alloc _
  have hbx : V.heap[w.heap.size]? = some (.cells r.cs 23 (0, 0)) := by rw [hV]; exact heap_alloc_new w _
  have HQ : Hid (∀ w', Touch [] V w' → w'.heap[w.heap.size]? = some (.cells r.cs 23 (0, 0))) := hid (fun w' T => T.keep hbx (by simp))
  have c0 := cell_at (j := 0) (v := .int .i64 r.ba) hbx rfl
  have c1 := cell_at (j := 1) (v := .int .i64 r.mo) hbx rfl
  have c2 := cell_at (j := 2) (v := .int .i64 r.tr) hbx rfl
  have c3 := cell_at (j := 3) (v := .int .i64 r.sp) hbx rfl
  clear hbx
  clear hm
  unfold Rt.cs at *
  go_enter Try.func4, Try.ntmps4
  go_upto_region 1 with fail
  rw [← hV]
  clear hV
  have T0 : Hid (Touch [] V V) := hid (Touch.refl _ _)
  go_wp2_with (first
    | (go_at_call 13; refine (HW.out _).mono ?_; rintro e w9 ⟨rfl, t9⟩; have T1 := hid (T0.out.trans' t9); clear t9 T0 c0 c1 c2 c3; have hbx := HQ.out _ T1.out; have c0 := cell_at (j := 0) (v := .int .i64 r.ba) hbx rfl; have c1 := cell_at (j := 1) (v := .int .i64 r.mo) hbx rfl; have c2 := cell_at (j := 2) (v := .int .i64 r.tr) hbx rfl; have c3 := cell_at (j := 3) (v := .int .i64 r.sp) hbx rfl; clear hbx; have T0 := T1; clear T1)
    | (go_at_call 14; refine (HH.out _).mono ?_; rintro e w9 ⟨rfl, t9⟩; have T1 := hid (T0.out.trans' t9); clear t9 T0 c0 c1 c2 c3; have hbx := HQ.out _ T1.out; have c0 := cell_at (j := 0) (v := .int .i64 r.ba) hbx rfl; have c1 := cell_at (j := 1) (v := .int .i64 r.mo) hbx rfl; have c2 := cell_at (j := 2) (v := .int .i64 r.tr) hbx rfl; have c3 := cell_at (j := 3) (v := .int .i64 r.sp) hbx rfl; clear hbx; have T0 := T1; clear T1)
    | (go_at_call 11; refine (HA.out _).mono ?_; rintro e w9 ⟨rfl, t9⟩; have T1 := hid (T0.out.trans' t9); clear t9 T0 c0 c1 c2 c3; have hbx := HQ.out _ T1.out; have c0 := cell_at (j := 0) (v := .int .i64 r.ba) hbx rfl; have c1 := cell_at (j := 1) (v := .int .i64 r.mo) hbx rfl; have c2 := cell_at (j := 2) (v := .int .i64 r.tr) hbx rfl; have c3 := cell_at (j := 3) (v := .int .i64 r.sp) hbx rfl; clear hbx; have T0 := T1; clear T1)
    | (go_at_call 9; refine (HP.out _).mono ?_; rintro e w9 ⟨rfl, t9⟩; have T1 := hid (T0.out.trans' t9); clear t9 T0 c0 c1 c2 c3; have hbx := HQ.out _ T1.out; have c0 := cell_at (j := 0) (v := .int .i64 r.ba) hbx rfl; have c1 := cell_at (j := 1) (v := .int .i64 r.mo) hbx rfl; have c2 := cell_at (j := 2) (v := .int .i64 r.tr) hbx rfl; have c3 := cell_at (j := 3) (v := .int .i64 r.sp) hbx rfl; clear hbx; have T0 := T1; clear T1)
    | (go_at_call 10; refine (HM.out _).mono ?_; rintro e w9 ⟨rfl, t9⟩; have T1 := hid (T0.out.trans' t9); clear t9 T0 c0 c1 c2 c3; have hbx := HQ.out _ T1.out; have c0 := cell_at (j := 0) (v := .int .i64 r.ba) hbx rfl; have c1 := cell_at (j := 1) (v := .int .i64 r.mo) hbx rfl; have c2 := cell_at (j := 2) (v := .int .i64 r.tr) hbx rfl; have c3 := cell_at (j := 3) (v := .int .i64 r.sp) hbx rfl; clear hbx; have T0 := T1; clear T1))
  go_ret
  exact ⟨rfl, TV.out.trans' T0.out⟩
/-- What stands between two rounds: the slice of waits, the bare plan in its box, and the row of whole waits so far. -/
structure Lp (V wr : World) (q : Nat) (a a7 : Option Addr) (n c c7 k : Nat) (r : Rt) (s : Nat) : Prop where
  t : Touch [] V wr
  rs : Rs 2 1 wr (.slice a n c) n (ints (wts r s n))
  hq : wr.heap[q]? = some (.cells (bare r).cs 30 (0, 0))
  row : wr.ownsRow (q + 1) 2 1 (.slice a7 k c7) k (ints (wts (bare r) 0 k))
  gl : ∀ g off, a = some ⟨g, off, none⟩ → 0 < n → g < q
  ql : V.heap.size ≤ q
theorem Lp.keep {V wr w2 : World} {q : Nat} {a a7 : Option Addr} {n c c7 k : Nat} {r : Rt} {s : Nat} (h : Lp V wr q a a7 n c c7 k r s) (T : Touch [] wr w2) : Lp V w2 q a a7 n c c7 k r s :=
  ⟨h.t.trans' T, h.rs.keep0 T, T.keep h.hq (by simp), own_touch h.row T (fun _ _ e => by cases e), h.gl, h.ql⟩
theorem Lp.step {V wr w2 : World} {q : Nat} {a a7 a5 : Option Addr} {n c c7 c5 k : Nat} {r : Rt} {s : Nat} {X : Int} (h : Lp V wr q a a7 n c c7 k r s) (hX : X = wt (bare r) k 0) (o5 : w2.ownsRow (q + 1) 2 1 (.slice a5 (k + 1) c5) (k + 1) (ints (wts (bare r) 0 k) ++ [.int .i64 X])) (g5 : wr.grownBy w2 (Value.slice a7 k c7).ownBlock) : Lp V w2 q a a5 n c c5 (k + 1) r s := by
  have tg : Touch (Value.slice a7 k c7).ownBlock.toList wr w2 := (Touch.refl _ _).grown g5 (fun b hb => Or.inl (by simp [hb]))
  have hF : ∀ b, b ∈ (Value.slice a7 k c7).ownBlock.toList → q < b := fun b hb => by
    have := (h.row.lt b (Option.mem_toList.1 hb)).1
    omega
  refine ⟨h.t.trans tg (fun b hb => Or.inr (by have := hF b hb; have := h.ql; omega)), ?_, tg.keep h.hq (fun e => by have := hF q e; omega), ?_, h.gl, h.ql⟩
  · by_cases hn : 0 < n
    · refine h.rs.keep tg (fun g off n' c' e he => ?_)
      simp only [Value.slice.injEq] at e
      have h1 := h.gl g off e.1 hn
      have := hF g he
      omega
    · obtain ⟨h1, a', c', e, h2, h3, h4⟩ := h.rs
      exact ⟨h1, a', c', e, h2, h3, fun hp => absurd hp hn⟩
  · rw [wts_snoc, ← hX]
    unfold ints at o5 ⊢
    rw [List.map_append]
    exact o5
theorem rs_lt {t k n c g off : Nat} {W : World} {a : Option Addr} {vs : List Value} (h : Rs t k W (.slice a n c) n vs) (e : a = some ⟨g, off, none⟩) (hn : 0 < n) : g < W.heap.size := by
  obtain ⟨h1, a', c', e', h2, h3, h4⟩ := h
  obtain ⟨g', off', e2, cs, z, hb, _⟩ := h4 hn
  simp only [Value.slice.injEq] at e'
  rw [e] at e'
  rw [e2] at e'
  have := e'.1
  simp at this
  rw [this.1]
  exact block_lt hb
set_option maxHeartbeats 8000000 in
set_option maxRecDepth 100000 in
theorem plans_yes (w : World) (r : Rt) (hk : r.ok) (s : Nat) (hs : s < 18446744073709551616) (hm : may r = true) : Calls Try.prog 4 #[.agg r.cs, .int .u64 s] w fun e w' => e = .returned (.bool true) ∧ Touch [] w w' := by
  obtain ⟨m1, m2, m3, m4, m5, m6⟩ := (may_iff r).1 hm
  obtain ⟨n, hn⟩ : ∃ n : Nat, r.tr - 1 = (n : Int) := ⟨(r.tr - 1).toNat, by omega⟩
  have HW := hid (fun W => waits_yes r hm hk n hn s hs W)
  unfold WsE at HW
  have HH := hid (fun W => whole_yes r hm hk n hn W)
  have HM := hid (may_ r)
  rw [hm] at HM
  have HP := hid (plan_ r)
  have HA := hid awake_
  have HR : Hid (∀ k : Nat, k < n → ∀ W, Calls Try.prog 8 #[.agg r.cs, .int .i64 ((k : Int) + 1), .int .u64 s] W fun e w' => e = .returned (.tuple #[.int .i64 (wt r k s), .bool true, .int .i64 0]) ∧ Touch [] W w') := hid (fun k hkn W => by
    have := rWait_ r hk ((k : Int) + 1) s hs W
    obtain ⟨e1, e2, e3⟩ := w_yes (r := r) (n := (k : Int) + 1) ⟨hm, by omega, by omega⟩ s
    rw [e1, e2, e3, show ((k : Int) + 1 - 1).toNat = k by omega] at this
    exact this)
  have HB : Hid (∀ k : Nat, k < n → ∀ W, Calls Try.prog 8 #[.agg (bare r).cs, .int .i64 ((k : Int) + 1), .int .u64 s] W fun e w' => e = .returned (.tuple #[.int .i64 (wt (bare r) k 0), .bool true, .int .i64 0]) ∧ Touch [] W w') := hid (fun k hkn W => by
    have := rWait_ (bare r) (ok_bare hk) ((k : Int) + 1) s hs W
    obtain ⟨e1, e2, e3⟩ := w_yes (r := bare r) (n := (k : Int) + 1) ⟨may_bare hm, by omega, by show (k : Int) + 1 < r.tr; omega⟩ s
    rw [e1, e2, e3, show ((k : Int) + 1 - 1).toNat = k by omega, wt_bare r k s 0] at this
    exact this)
  have HS : Hid (∀ W a c, Rs 2 1 W (.slice a n c) n (ints (wts (bare r) 0 n)) → Calls Try.prog 15 #[.slice a n c] W fun e w' => e = .returned (.tuple #[.int .u64 (sumI (wts (bare r) 0 n) / 18446744073709551616), .int .u64 (sumI (wts (bare r) 0 n) % 18446744073709551616), .int .i64 0]) ∧ w' = W) := hid (fun W a c R => rsum_ W a n c _ R (wts_bounds (may_bare hm) (ok_bare hk) 0 n) (by omega))
  obtain ⟨V, hV⟩ : ∃ V, V = w.alloc (.cells r.cs 23) := ⟨_, rfl⟩
  have TV : Hid (Touch [] w V) := by rw [hV]; exact (Touch.refl _ _).alloc _
  have hbx : V.heap[w.heap.size]? = some (.cells r.cs 23 (0, 0)) := by rw [hV]; exact heap_alloc_new w _
  have HQ : Hid (∀ w', Touch [] V w' → w'.heap[w.heap.size]? = some (.cells r.cs 23 (0, 0))) := hid (fun w' T => T.keep hbx (by simp))
  have c0 := cell_at (j := 0) (v := .int .i64 r.ba) hbx rfl
  have c1 := cell_at (j := 1) (v := .int .i64 r.mo) hbx rfl
  have c2 := cell_at (j := 2) (v := .int .i64 r.tr) hbx rfl
  have c3 := cell_at (j := 3) (v := .int .i64 r.sp) hbx rfl
  clear hbx
  have htr : r.tr = (n : Int) + 1 := by omega
  have HTR := hid htr
  have hn63 : (n : Int) ≤ 63 := by omega
  have HL : Hid (∀ k, k < n → (wts r s n)[k]? = some (wt r k s)) := hid (fun k h => wts_at r s n k h)
  clear m1 m2 m3 m4 m5 m6 hm hk hs htr
  generalize sumI (wts (bare r) 0 n) / 18446744073709551616 = SH at *
  generalize sumI (wts (bare r) 0 n) % 18446744073709551616 = SL at *
  go_enter Try.func4, Try.ntmps4
  go_upto_region 1 with fail
  rw [← hV]
  clear hV
  have T0 : Hid (Touch [] V V) := hid (Touch.refl _ _)
  unfold Rt.cs at HW HH HM HP HQ
  go_upto_region 7 with (first
    | (go_at_call 13; refine (HW.out _).mono ?_; rintro e w9 ⟨a, cw, rfl, r9, t9⟩; have T1 := hid (T0.out.trans' t9); have HRS : Hid (∀ W, Touch [] w9 W → Rs 2 1 W (.slice a n cw) n (ints (wts r s n)) ∧ ∀ g off, a = some ⟨g, off, none⟩ → 0 < n → g < W.heap.size) := hid (fun W T => ⟨r9.keep0 T, fun g off e h => rs_lt (r9.keep0 T) e h⟩); have TW := hid (Touch.refl [] w9); clear t9 r9 T0 c0 c1 c2 c3; have hbx := HQ.out _ T1.out; have c0 := cell_at (j := 0) (v := .int .i64 r.ba) hbx rfl; have c1 := cell_at (j := 1) (v := .int .i64 r.mo) hbx rfl; have c2 := cell_at (j := 2) (v := .int .i64 r.tr) hbx rfl; have c3 := cell_at (j := 3) (v := .int .i64 r.sp) hbx rfl; clear hbx; have T0 := T1; clear T1)
    | (go_at_call 14; refine (HH.out _).mono ?_; rintro e w8 ⟨rfl, t8⟩; have T1 := hid (T0.out.trans' t8); have TX := hid (TW.out.trans' t8); clear t8 T0 TW c0 c1 c2 c3; have hbx := HQ.out _ T1.out; have c0 := cell_at (j := 0) (v := .int .i64 r.ba) hbx rfl; have c1 := cell_at (j := 1) (v := .int .i64 r.mo) hbx rfl; have c2 := cell_at (j := 2) (v := .int .i64 r.tr) hbx rfl; have c3 := cell_at (j := 3) (v := .int .i64 r.sp) hbx rfl; clear hbx; have T0 := T1; have TW := TX; clear T1 TX)
    | (go_at_call 11; refine (HA.out _).mono ?_; rintro e w8 ⟨rfl, t8⟩; have T1 := hid (T0.out.trans' t8); have TX := hid (TW.out.trans' t8); clear t8 T0 TW c0 c1 c2 c3; have hbx := HQ.out _ T1.out; have c0 := cell_at (j := 0) (v := .int .i64 r.ba) hbx rfl; have c1 := cell_at (j := 1) (v := .int .i64 r.mo) hbx rfl; have c2 := cell_at (j := 2) (v := .int .i64 r.tr) hbx rfl; have c3 := cell_at (j := 3) (v := .int .i64 r.sp) hbx rfl; clear hbx; have T0 := T1; have TW := TX; clear T1 TX)
    | (go_at_call 9; refine (HP.out _).mono ?_; rintro e w8 ⟨rfl, t8⟩; have T1 := hid (T0.out.trans' t8); have TX := hid (TW.out.trans' t8); clear t8 T0 TW c0 c1 c2 c3; have hbx := HQ.out _ T1.out; have c0 := cell_at (j := 0) (v := .int .i64 r.ba) hbx rfl; have c1 := cell_at (j := 1) (v := .int .i64 r.mo) hbx rfl; have c2 := cell_at (j := 2) (v := .int .i64 r.tr) hbx rfl; have c3 := cell_at (j := 3) (v := .int .i64 r.sp) hbx rfl; clear hbx; have T0 := T1; have TW := TX; clear T1 TX)
    | (go_at_call 10; refine (HM.out _).mono ?_; rintro e w8 ⟨rfl, t8⟩; have T1 := hid (T0.out.trans' t8); have TX := hid (TW.out.trans' t8); clear t8 T0 TW c0 c1 c2 c3; have hbx := HQ.out _ T1.out; have c0 := cell_at (j := 0) (v := .int .i64 r.ba) hbx rfl; have c1 := cell_at (j := 1) (v := .int .i64 r.mo) hbx rfl; have c2 := cell_at (j := 2) (v := .int .i64 r.tr) hbx rfl; have c3 := cell_at (j := 3) (v := .int .i64 r.sp) hbx rfl; clear hbx; have T0 := T1; have TW := TX; clear T1 TX))
  go_wp2_with (go_at_call 9; refine (HP.out _).mono ?_; rintro e w10 ⟨rfl, t8⟩; have T1 := hid (T0.out.trans' t8); have TX := hid (TW.out.trans' t8); clear t8 T0 TW c0 c1 c2 c3)
  obtain ⟨q, hq⟩ : ∃ q, q = w10.heap.size := ⟨_, rfl⟩
  obtain ⟨W3, hW3⟩ : ∃ W3, W3 = (w10.alloc (.cells #[.int .i64 r.ba, .int .i64 r.mo, .int .i64 r.tr, .int .i64 0] 30)).alloc (.cells #[] 2) := ⟨_, rfl⟩
  have L0 : Hid (Lp V W3 q a (some ⟨q + 1, 0, none⟩) n cw 0 0 r s) := hid (by
    have t3 : Touch [] w10 W3 := by rw [hW3]; exact ((Touch.refl _ _).alloc _).alloc _
    refine ⟨T1.out.trans' t3, (HRS.out _ (TX.out.trans' t3)).1, ?_, ?_, fun g off e h => by rw [hq]; exact (HRS.out _ TX.out).2 g off e h, by rw [hq]; exact T1.out.size⟩
    · rw [hW3, hq]
      exact ((Touch.refl [] _).alloc _).keep (heap_alloc_new w10 _) (by simp)
    · have := World.ownsRow_made (e := 2) (size := 1) (base := q + 1) (w10.alloc (.cells #[.int .i64 r.ba, .int .i64 r.mo, .int .i64 r.tr, .int .i64 0] 30)) #[] 0 (by rw [World.size_alloc]; omega) (by unfold maxLen; omega) rfl
      rw [World.size_alloc] at this
      rw [hW3]
      rw [← hq] at this
      exact this)
  rw [← hW3, ← hq]
  clear hW3 hq HRS T1 TX
  go_loopw [11, 12] (fun s11 s12 wr => ∃ (k : Nat) (a7 : Option Addr) (c7 : Nat), s11 = .slice a7 k c7 ∧ s12 = .int .i64 ((k : Int) + 1) ∧ k ≤ n ∧ Hid (Lp V wr q a a7 n cw c7 k r s)) (fun _ s12 _ => n + 1 - (intOf s12).toNat)
  case atStart => exact ⟨0, _, 0, rfl, rfl, Nat.zero_le _, L0⟩
  case round =>
    obtain ⟨k, a7, c7, rfl, rfl, hkn, HL0⟩ := hrel
    clear L0
    have hbx := HQ.out _ HL0.out.t
    have c0 := cell_at (j := 0) (v := .int .i64 r.ba) hbx rfl
    have c1 := cell_at (j := 1) (v := .int .i64 r.mo) hbx rfl
    have c2 := cell_at (j := 2) (v := .int .i64 r.tr) hbx rfl
    have c3 := cell_at (j := 3) (v := .int .i64 r.sp) hbx rfl
    clear hbx
    by_cases hlt : k < n
    · have zk : (k : Int) + 1 < r.tr := by have := HTR.out; omega
      have zk2 : (k : Int) < (n : Int) := by omega
      have ze : (k : Int) + 1 - 1 = (k : Int) := by omega
      have HRk := hid (HR.out k hlt)
      have HBk := hid (HB.out k hlt)
      obtain ⟨g, off, rfl, _⟩ := HL0.out.rs.cell (j := k) (u := .int .i64 (wt r k s)) (by simp [ints, HL.out k hlt]) (by omega)
      have HCL : Hid (∀ W, Touch [] wr W → W.cell? ⟨g, off + k, none⟩ = some (.int .i64 (wt r k s))) := hid (fun W T => by
        obtain ⟨g', off', e, hc⟩ := (HL0.out.rs.keep0 T).cell (j := k) (u := .int .i64 (wt r k s)) (by simp [ints, HL.out k hlt]) (by omega)
        cases e
        exact hc)
      have HBX : Hid (∀ W, Touch [] wr W → W.heap[q]? = some (.cells (bare r).cs 30 (0, 0))) := hid (fun W T => T.keep HL0.out.hq (by simp))
      obtain ⟨X1, HX1⟩ : ∃ X1, Hid (X1 = wt r k s) := ⟨_, rfl⟩
      obtain ⟨X2, HX2⟩ : ∃ X2, Hid (X2 = wt (bare r) k 0) := ⟨_, rfl⟩
      rw [← HX1.out] at HRk HCL
      rw [← HX2.out] at HBk
      unfold Rt.cs at HRk HBk HBX
      have T0 : Hid (Touch [] wr wr) := hid (Touch.refl _ _)
      go_upto_region 14 with (first
        | (go_at_call 9; refine (HP.out _).mono ?_; rintro e w5 ⟨rfl, t5⟩; have T1 := hid (T0.out.trans' t5); clear t5 T0; have T0 := T1; clear T1)
        | (go_at_call 8; refine (HRk.out _).mono ?_; rintro e w6 ⟨rfl, t6⟩; have T1 := hid (T0.out.trans' t6); clear t6 T0; have T0 := T1; clear T1))
      clear c0 c1 c2 c3
      have y0 := HCL.out _ T0.out
      have hbx := HBX.out _ T0.out
      have b0 := cell_at (j := 0) (v := .int .i64 (bare r).ba) hbx rfl
      have b1 := cell_at (j := 1) (v := .int .i64 (bare r).mo) hbx rfl
      have b2 := cell_at (j := 2) (v := .int .i64 (bare r).tr) hbx rfl
      have b3 := cell_at (j := 3) (v := .int .i64 (bare r).sp) hbx rfl
      clear hbx
      go_upto_region 17 with (go_at_call 8; refine (HBk.out _).mono ?_; rintro e w7 ⟨rfl, t7⟩; have T1 := hid (T0.out.trans' t7); clear t7 T0 y0 b0 b1 b2 b3; have T0 := T1; clear T1)
      have HL7 := hid (HL0.out.keep T0.out)
      have HROW : Hid ((w7.alloc (.cells #[.int .i64 X2] 2)).ownsRow (q + 1) 2 1 (.slice a7 k c7) k (ints (wts (bare r) 0 k))) := hid (own_touch HL7.out.row ((Touch.refl [] _).alloc _) (fun _ _ e => by cases e))
      have HRW : Hid (Rs 2 1 (w7.alloc (.cells #[.int .i64 X2] 2)) (.slice (some ⟨w7.heap.size, 0, none⟩) 1 1) 1 [.int .i64 X2]) := hid (Rs.new w7 #[.int .i64 X2] 2 1 rfl)
      have HT3 : Hid (q + 1 ≤ (w7.alloc (.cells #[.int .i64 X2] 2)).heap.size) := hid (by rw [World.size_alloc]; have := block_lt HL7.out.hq; omega)
      have HLL := hid (HL7.out.keep ((Touch.refl [] _).alloc (.cells #[.int .i64 X2] 2)))
      have H63 := hid hn63
      have HK := hid hlt
      clear HL0
      go_wp2_with (at_builtin; refine wpList_append_rs rfl _ _ 36 2 rfl (.int .i64 0) 1 8 info2 Try.underlying36 rfl (by decide) (q + 1) (.slice a7 k c7) k _ rfl HROW.out (.slice (some ⟨w7.heap.size, 0, none⟩) 1 1) 1 [.int .i64 X2] rfl HRW.out (fun y hy => by simp only [List.mem_singleton] at hy; subst hy; rfl) (by have := HK.out; have := H63.out; unfold maxLen; omega) (by have := HK.out; have := H63.out; omega) HT3.out ?_; intro v5 w8 o5 g5 p5; obtain ⟨a5, c5, e5⟩ := own_form o5; subst e5; have G5 := hid g5; have O5 := hid o5; clear o5 g5 p5)
      refine ⟨⟨k + 1, a5, c5, rfl, congrArg _ (by omega), by have := HK.out; omega, hid (HLL.out.step HX2.out O5.out G5.out)⟩, ?_⟩
      have := HK.out
      simp only [intOf]
      omega
    · have zk : ¬ (k : Int) + 1 < r.tr := by have := HTR.out; omega
      obtain rfl : k = n := by omega
      have HSk := hid (HS.out wr a7 c7 (Rs.of_own HL0.out.row))
      have TE := hid (TV.out.trans' HL0.out.t)
      clear HL0 hlt
      go_wp2_with (go_at_call 15; refine HSk.out.mono ?_; rintro e w7 ⟨rfl, e7⟩; rw [e7]; clear e7 w7)
      go_ret
      exact ⟨rfl, TE.out⟩
theorem lplans_ (w : World) (r : Rt) (s : Int) (hr : r.ok) (hs : (Lit.int .u64 s).wf = true) : Calls Try.prog 4 #[.agg r.cs, .int .u64 s] w fun e w' => e = .returned (.bool true) ∧ Touch [] w w' := by
  obtain ⟨s1, s2⟩ := u64_bounds hs
  obtain ⟨s, rfl⟩ := Int.eq_ofNat_of_zero_le s1
  cases hm : may r with
  | false => exact plans_no w r s hm
  | true => exact plans_yes w r hr s (by omega) hm
end Go.Proofs.Ytkodabhkhifggaa
