/- The contracts of Waits and Whole, and the law RetryPlans, walked. -/
import Derived.Test.YtkodabhkhifggaaWww
import Derived.Test.YtkodabhkhifggaaWsu
namespace Go.Proofs.Ytkodabhkhifggaa
open Go.RowKit Go.Maps Go.ChangeMaps Go.ChangeShapes Go.WideShapes Go.ChangeAt
set_option linter.unusedVariables false
set_option linter.unusedSimpArgs false
def wts (r : Rt) (s n : Nat) : List Int := (List.range n).map (fun m => wt r m s)
theorem wts_len (r : Rt) (s n : Nat) : (wts r s n).length = n := by simp [wts]
theorem wts_at (r : Rt) (s n j : Nat) (h : j < n) : (wts r s n)[j]? = some (wt r j s) := by simp [wts, h]
theorem wts_snoc (r : Rt) (s n : Nat) : wts r s (n + 1) = wts r s n ++ [wt r n s] := by simp [wts, List.range_succ]
theorem wts_eq {r : Rt} {s n : Nat} {Z : List Int} (hl : Z.length = n) (h : ∀ j, j < n → Z[j]? = some (wt r j s)) : Z = wts r s n := by
  refine List.ext_getElem? (fun j => ?_)
  by_cases hj : j < n
  · rw [h j hj, wts_at r s n j hj]
  · rw [List.getElem?_eq_none (by omega), List.getElem?_eq_none (by rw [wts_len]; omega)]
theorem wts_bounds {r : Rt} (hm : may r = true) (hk : r.ok) (s n : Nat) : ∀ z ∈ wts r s n, 0 ≤ z ∧ z ≤ 9223372036854775807 := by
  intro z hz
  simp only [wts, List.mem_map] at hz
  obtain ⟨m, _, rfl⟩ := hz
  have h1 := wt_bounds hm m s
  have h2 := hk.2.1.hi
  omega
/-- A plan without Spread. -/
def bare (r : Rt) : Rt := { r with sp := 0 }
theorem may_bare {r : Rt} (h : may r = true) : may (bare r) = true := by
  rw [may_iff] at h ⊢
  obtain ⟨h1, h2, h3, h4, h5, h6⟩ := h
  exact ⟨h1, h2, h3, h4, Int.le_refl 0, by show (0 : Int) ≤ 256; decide⟩
theorem ok_bare {r : Rt} (h : r.ok) : (bare r).ok := ⟨h.1, h.2.1, h.2.2.1, W64.mk (by show -9223372036854775808 ≤ (0 : Int); decide) (by show (0 : Int) ≤ 9223372036854775807; decide)⟩
theorem wt_bare (r : Rt) (m s t : Nat) : wt (bare r) m s = wt (bare r) m t := by
  have h : ∀ s, off (bare r) m s = 0 := fun s => by
    have : prt (bare r) m = 0 := by
      unfold prt
      rw [show (bare r).sp = 0 from rfl]
      simp
    unfold off
    rw [this, Nat.zero_mul]
  unfold wt
  rw [h s, h t]
theorem wts_bare (r : Rt) (s t n : Nat) : wts (bare r) s n = wts (bare r) t n := by
  unfold wts
  exact List.map_congr_left (fun m _ => wt_bare r m s t)
theorem wpList_make_full {P : Program} (w : World) {ops : Array Oper} {rest : List Oper} {o : Oper} {a : Act} {Q : Exit → Act → World → Prop}
    (hg : o.guard = none) (l c : Operand) (t : TypeId) (hop : o.op = Op.makeSlice t l c) (e : TypeId) (i : TypeInfo) (z : Value) (h1 : P.underlying t = some (.slice e)) (h2 : P.info? e = some i) (h3 : i.zero = some z) (n : Nat)
    (hl : a.eval l = .int .i64 (n : Int)) (hc : a.eval c = .int .i64 (n : Int)) (b2 : (i.bytes : Int) * n ≤ 281474976710656) (b3 : (n : Int) ≤ 9223372036854775807)
    (hK : wpList P ops Q rest (a.put o.dst (.slice (some ⟨w.heap.size, 0, none⟩) n n)) (w.alloc (.cells (madeCells z.cells (n * i.size)) e))) : wpList P ops Q (o :: rest) a w := by
  refine wpList_plain hg fun K' hK' => ?_
  have hr := run_make (P := P) w t e i z h1 h2 h3 .i64 .i64 (n : Int) (n : Int) (by omega) (Int.le_refl _) b2 b3
  rw [Int.toNat_natCast] at hr
  unfold Oper.wp
  simp [execOp, hop, hl, hc, hr, Result.andThen]
  exact hK' _ _ hK
theorem info2 : (Try.prog.info? 2).map (fun i => (i.zero, i.size, i.bytes)) = some (some (.int .i64 0), 1, 8) := by kernel_rfl
def WsE (e : Ending) (w w' : World) (r : Rt) (s n : Nat) : Prop := ∃ a c, e = .returned (.tuple #[.slice a n c, .int .i64 0]) ∧ Rs 2 1 w' (.slice a n c) n (ints (wts r s n)) ∧ Touch [] w w'
theorem waits_no (r : Rt) (hm : may r = false) (s : Nat) (w : World) : Calls Try.prog 13 #[.agg r.cs, .int .u64 s] w fun e w' => e = .returned (.tuple #[.slice none 0 0, .int .i64 170]) ∧ Touch [] w w' := by
  have HC := hid (check_ r)
  rw [show chk r = 170 by unfold chk; rw [hm]; rfl] at HC
  unfold Rt.cs at *
  go_enter Try.func13, Try.ntmps13
  go_wp2_with (go_at_call 12; refine (HC.out _).mono ?_; rintro e w2 ⟨rfl, t2⟩; have T2 := hid t2; clear t2)
  exact bodyPost_ret (v := .tuple #[.slice none 0 0, .int .i64 170]) (by simp [results, Try.results13, go_sem]) rfl ⟨rfl, ((Touch.refl _ _).alloc _).trans' T2.out⟩
/-- The row of waits, so far. -/
def Wz (V wr : World) (g n k : Nat) (r : Rt) (s : Nat) : Prop := Touch [] V wr ∧ ∃ Z : List Int, wr.ownsRow V.heap.size 2 1 (.slice (some ⟨g, 0, none⟩) n n) n (ints Z) ∧ Z.length = n ∧ ∀ j, j < k → Z[j]? = some (wt r j s)
theorem Wz.step {V wr w2 : World} {g n k : Nat} {r : Rt} {s : Nat} (h : Wz V wr g n k r s) (T : Touch [] wr w2) (hk : k < n) : (∃ z : Int, w2.cell? ⟨g, k, none⟩ = some (.int .i64 z)) ∧ w2.frozen? ⟨g, k, none⟩ = false ∧ Wz V (w2.setCell ⟨g, k, none⟩ (.int .i64 (wt r k s))) g n (k + 1) r s := by
  obtain ⟨h1, Z, h2, h3, h4⟩ := h
  have h5 := own_touch h2 T (fun _ _ e => by cases e)
  have hkl : k < Z.length := by omega
  refine ⟨⟨Z[k], own_cell h5 (by simp [ints, hkl])⟩, own_frozen h5 _, ?_, Z.set k (wt r k s), ?_, by simp [h3], fun j hj => ?_⟩
  · exact (h1.trans' T).setCell (Or.inr (h2.lt g rfl).1) _
  · have := own_set h5 k (.int .i64 (wt r k s))
    rw [show ints (Z.set k (wt r k s)) = (ints Z).set k (.int .i64 (wt r k s)) by simp [ints, List.map_set]]
    exact this
  · by_cases e : j = k
    · subst e; simp [hkl]
    · rw [List.getElem?_set_ne (by omega)]
      exact h4 j (by omega)
set_option maxHeartbeats 2000000 in
theorem waits_yes (r : Rt) (hm : may r = true) (hk : r.ok) (n : Nat) (hn : r.tr - 1 = (n : Int)) (s : Nat) (hs : s < 18446744073709551616) (w : World) : Calls Try.prog 13 #[.agg r.cs, .int .u64 s] w fun e w' => WsE e w w' r s n := by
  obtain ⟨m1, m2, m3, m4, m5, m6⟩ := (may_iff r).1 hm
  have HC := hid (check_ r)
  rw [show chk r = 0 by unfold chk; rw [hm]; rfl] at HC
  have HW : Hid (∀ (k : Nat), k < n → ∀ W, Calls Try.prog 25 #[.agg r.cs, .int .i64 ((k : Int) + 1), .int .u64 s] W fun e w' => e = .returned (.int .i64 (wt r k s)) ∧ Touch [] W w') := hid (fun k hkn W => wait_ r hm hk k ((k : Int) + 1) (by omega) (by omega) s hs W)
  obtain ⟨i2, hi, hz0, hz1, hz2⟩ := info_parts info2
  obtain ⟨V, hV⟩ : ∃ V, V = w.alloc (.cells r.cs 23) := ⟨_, rfl⟩
  have TV : Hid (Touch [] w V) := by rw [hV]; exact (Touch.refl _ _).alloc _
  have hbx : V.heap[w.heap.size]? = some (.cells r.cs 23 (0, 0)) := by rw [hV]; exact heap_alloc_new w _
  have HQ : Hid (∀ w', Touch [] V w' → w'.heap[w.heap.size]? = some (.cells r.cs 23 (0, 0))) := hid (fun w' T => T.keep hbx (by simp))
  have c0 := cell_at (j := 0) (v := .int .i64 r.ba) hbx rfl
  have c1 := cell_at (j := 1) (v := .int .i64 r.mo) hbx rfl
  have c2 := cell_at (j := 2) (v := .int .i64 r.tr) hbx rfl
  have c3 := cell_at (j := 3) (v := .int .i64 r.sp) hbx rfl
  have hn63 : (n : Int) ≤ 63 := by omega
  clear hbx m1 m2 m3 m4 m5 m6 hm hk hs
  unfold Rt.cs at *
  go_enter Try.func13, Try.ntmps13
  go_upto_region 1 with fail
  rw [← hV]
  clear hV
  go_wp2_with (first
    | (go_at_call 12; refine (HC.out _).mono ?_; rintro e w2 ⟨rfl, t2⟩; clear c0 c1 c2 c3; have hbx := HQ.out _ t2; have c0 := cell_at (j := 0) (v := .int .i64 r.ba) hbx rfl; have c1 := cell_at (j := 1) (v := .int .i64 r.mo) hbx rfl; have c2 := cell_at (j := 2) (v := .int .i64 r.tr) hbx rfl; have c3 := cell_at (j := 3) (v := .int .i64 r.sp) hbx rfl; clear hbx; have T2 := hid t2; clear t2)
    | (at_make; refine wpList_make_full _ rfl _ _ 36 rfl 2 i2 (.int .i64 0) Try.underlying36 hi hz0 n rfl rfl (by rw [hz2]; omega) (by omega) ?_))
  have W0 : Hid (Wz V (w2.alloc (.cells (madeCells #[Value.int .i64 0] n) 2)) w2.heap.size n 0 r s) := hid (by
    refine ⟨T2.out.alloc _, List.replicate n 0, own_of_cells (heap_alloc_new w2 _) T2.out.size (Nat.le_refl _) (by unfold maxLen; omega) (by simp [size_madeCells]) (by simp [ints]) (fun p v hv => ?_), by simp, fun j hj => absurd hj (Nat.not_lt_zero _)⟩
    simp only [ints, List.map_replicate, List.getElem?_replicate] at hv
    split at hv
    · rename_i hp
      cases hv
      refine cell_at (heap_alloc_new w2 _) ?_
      simp [madeCells, hp, Nat.mod_one]
    · cases hv)
  obtain ⟨W3, hW3⟩ : ∃ W3, W3 = w2.alloc (.cells (madeCells #[Value.int .i64 0] n) 2) := ⟨_, rfl⟩
  obtain ⟨g, hg⟩ : ∃ g, g = w2.heap.size := ⟨_, rfl⟩
  rw [← hW3, ← hg] at W0 ⊢
  clear hW3 hg T2 c0 c1 c2 c3 hi hz0 hz1 hz2 hn
  go_loopw [20] (fun s20 wr => ∃ k : Nat, s20 = .int .i64 (k : Int) ∧ k ≤ n ∧ Hid (Wz V wr g n k r s)) (fun s20 _ => n - (intOf s20).toNat)
  case atStart => exact ⟨0, rfl, Nat.zero_le _, W0⟩
  case round =>
    obtain ⟨k, rfl, hk, HZ⟩ := hrel
    clear W0
    by_cases hlt : k < n
    · have hbx := HQ.out _ HZ.out.1
      have c0 := cell_at (j := 0) (v := .int .i64 r.ba) hbx rfl
      have c1 := cell_at (j := 1) (v := .int .i64 r.mo) hbx rfl
      have c2 := cell_at (j := 2) (v := .int .i64 r.tr) hbx rfl
      have c3 := cell_at (j := 3) (v := .int .i64 r.sp) hbx rfl
      clear hbx
      have HWk := hid (HW.out k hlt)
      obtain ⟨V5, HV5⟩ : ∃ V5, Hid (V5 = wt r k s) := ⟨_, rfl⟩
      rw [← HV5.out] at HWk
      have zk : (k : Int) < (n : Int) := by omega
      go_wp2_with (go_at_call 25; refine (HWk.out _).mono ?_; rintro e w5 ⟨rfl, t5⟩; obtain ⟨⟨z5, d5⟩, f5, q5⟩ := HZ.out.step t5 hlt; rw [← HV5.out] at q5; have Q5 := hid q5; clear t5 q5)
      go_roundw
      case rel => exact ⟨k + 1, by go_num, by omega, Q5⟩
      case measure => simp [intOf]; omega
    · have zk : ¬ (k : Int) < (n : Int) := by omega
      go_wp2
      obtain ⟨q1, Z, q2, q3, q4⟩ := HZ.out
      refine bodyPost_ret (v := .tuple #[.slice (some ⟨g, 0, none⟩) n n, .int .i64 0]) (by simp [results, Try.results13, go_sem]) rfl ⟨_, n, rfl, ?_, TV.out.trans' q1⟩
      rw [← wts_eq q3 (fun j hj => q4 j (by omega))]
      exact Rs.of_own q2
theorem whole_no (r : Rt) (hm : may r = false) (w : World) : Calls Try.prog 14 #[.agg r.cs] w fun e w' => e = .returned (.tuple #[.int .u64 0, .int .u64 0, .int .i64 170]) ∧ Touch [] w w' := by
  have HC := hid (check_ r)
  rw [show chk r = 170 by unfold chk; rw [hm]; rfl] at HC
  unfold Rt.cs at *
  go_enter Try.func14, Try.ntmps14
  go_wp2_with (go_at_call 12; refine (HC.out _).mono ?_; rintro e w2 ⟨rfl, t2⟩; have T2 := hid t2; clear t2)
  exact bodyPost_ret (v := .tuple #[.int .u64 0, .int .u64 0, .int .i64 170]) (by simp [results, Try.results14, go_sem]) rfl ⟨rfl, ((Touch.refl _ _).alloc _).trans' T2.out⟩
theorem whole_yes (r : Rt) (hm : may r = true) (hk : r.ok) (n : Nat) (hn : r.tr - 1 = (n : Int)) (w : World) : Calls Try.prog 14 #[.agg r.cs] w fun e w' => e = .returned (.tuple #[.int .u64 (sumI (wts (bare r) 0 n) / 18446744073709551616), .int .u64 (sumI (wts (bare r) 0 n) % 18446744073709551616), .int .i64 0]) ∧ Touch [] w w' := by
  obtain ⟨m1, m2, m3, m4, m5, m6⟩ := (may_iff r).1 hm
  have HC := hid (check_ r)
  rw [show chk r = 0 by unfold chk; rw [hm]; rfl] at HC
  have HW := hid (fun W => waits_yes (bare r) (may_bare hm) (ok_bare hk) n hn 0 (by decide) W)
  have HS : Hid (∀ W a c, Rs 2 1 W (.slice a n c) n (ints (wts (bare r) 0 n)) → Calls Try.prog 29 #[.slice a n c] W fun e w' => e = .returned (.tuple #[.int .u64 (sumI (wts (bare r) 0 n) / 18446744073709551616), .int .u64 (sumI (wts (bare r) 0 n) % 18446744073709551616), .int .i64 0]) ∧ w' = W) := hid (fun W a c R => sum_ W a n c _ R (wts_bounds (may_bare hm) (ok_bare hk) 0 n) (by omega))
  obtain ⟨V, hV⟩ : ∃ V, V = w.alloc (.cells r.cs 23) := ⟨_, rfl⟩
  have TV : Hid (Touch [] w V) := by rw [hV]; exact (Touch.refl _ _).alloc _
  have hbx : V.heap[w.heap.size]? = some (.cells r.cs 23 (0, 0)) := by rw [hV]; exact heap_alloc_new w _
  have HQ : Hid (∀ w', Touch [] V w' → w'.heap[w.heap.size]? = some (.cells r.cs 23 (0, 0))) := hid (fun w' T => T.keep hbx (by simp))
  have c0 := cell_at (j := 0) (v := .int .i64 r.ba) hbx rfl
  have c1 := cell_at (j := 1) (v := .int .i64 r.mo) hbx rfl
  have c2 := cell_at (j := 2) (v := .int .i64 r.tr) hbx rfl
  have c3 := cell_at (j := 3) (v := .int .i64 r.sp) hbx rfl
  clear hbx m1 m2 m3 m4 m5 m6 hm hk hn
  generalize sumI (wts (bare r) 0 n) / 18446744073709551616 = H at *
  generalize sumI (wts (bare r) 0 n) % 18446744073709551616 = L at *
  unfold WsE at HW
  unfold Rt.cs at *
  unfold bare at HW HS
  dsimp only at HW
  go_enter Try.func14, Try.ntmps14
  go_upto_region 1 with fail
  rw [← hV]
  clear hV
  go_wp2_with (first
    | (go_at_call 12; refine (HC.out _).mono ?_; rintro e w2 ⟨rfl, t2⟩; clear c0 c1 c2 c3; have hbx := HQ.out _ t2; have c0 := cell_at (j := 0) (v := .int .i64 r.ba) hbx rfl; have c1 := cell_at (j := 1) (v := .int .i64 r.mo) hbx rfl; have c2 := cell_at (j := 2) (v := .int .i64 r.tr) hbx rfl; have c3 := cell_at (j := 3) (v := .int .i64 r.sp) hbx rfl; have cf := froz_at hbx; clear hbx; have T2 := hid t2; clear t2)
    | (go_at_call 13; refine (HW.out _).mono ?_; rintro e w3 ⟨a3, n3, rfl, r3, t3⟩; have R3 := hid r3; have T3 := hid t3; clear r3 t3)
    | (go_at_call 29; refine (HS.out _ _ _ R3.out).mono ?_; rintro e w7 ⟨rfl, e7⟩; rw [e7]; clear e7 w7))
  exact bodyPost_ret (v := .tuple #[.int .u64 H, .int .u64 L, .int .i64 0]) (by simp [results, Try.results14, go_sem]) rfl ⟨rfl, ((TV.out.trans' T2.out).setCell (Or.inr (Nat.le_refl _)) _).trans' T3.out⟩
end Go.Proofs.Ytkodabhkhifggaa
