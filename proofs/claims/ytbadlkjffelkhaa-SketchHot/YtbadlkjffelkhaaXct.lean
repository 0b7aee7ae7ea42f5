/- The contracts of least, Count, Total and Better; no conditions but those that each states. -/
import Derived.Test.YtbadlkjffelkhaaXsm
namespace Go.Proofs.Ytbadlkjffelkhaa.Sk
open Go.RowKit Go.Maps Go.ChangeMaps
set_option maxRecDepth 100000
set_option linter.unusedVariables false
set_option linter.unusedSimpArgs false
section
variable {w w' : World} {s g cap : Nat} {X : S}
theorem Kq.counter (h : Kq w s g cap X) (hv : Nat) {i : Nat} (hi : i < X.r) : Calls Try.prog 36 #[PT s, .int .u64 (hv : Nat), .int .i64 (i : Nat)] w fun e w' => e = .returned (.pointer (some ⟨g, i * 2 ^ X.b + plc X.b hv i, none⟩)) ∧ Touch [] w w' :=
  counter_at h.wf.b2 (fun w' t' => ⟨(h.keep0 t').c1, (h.keep0 t').c2⟩) hv i (by have := h.wf.r2; omega) (idx_lt hi (plc_lt _ _ _)) h.wf.n_le
theorem least_ (h : Kq w s g cap X) (hv : Nat) : Calls Try.prog 35 #[PT s, .int .u64 (hv : Nat)] w fun e w' => e = .returned (.int .u8 (cnt X hv : Nat)) ∧ Touch [] w w' := by
  have HK := hid (fun w1 (t1 : Touch [] w w1) => (h.keep0 t1).c0)
  have HC := hid (fun w1 (t1 : Touch [] w w1) i (hi : i < X.r) => (h.keep0 t1).counter hv hi)
  have HV := hid (fun w1 (t1 : Touch [] w w1) i (hi : i < X.r) => (h.keep0 t1).ctr hi hv)
  have r2 := h.wf.r2
  have k0 := HK.out w (Touch.refl _ _)
  have HE : Hid (cntG X hv X.r = cnt X hv) := rfl
  obtain ⟨r, hr⟩ : ∃ r, r = X.r := ⟨_, rfl⟩
  rw [← hr] at HK HC HV r2 k0 HE
  unfold PT at *
  clear h hr
  generalize cnt X hv = C at *
  go_enter Try.func35, Try.ntmps35
  go_wp2
  go_loopw [5, 11] (fun m i wr => ∃ k : Nat, k ≤ r ∧ i = .int .i64 k ∧ m = .int .u8 (cntG X hv k : Nat) ∧ Touch [] w wr) (fun _ i _ => r - (intOf i).toNat)
  case atStart => exact ⟨0, Nat.zero_le _, rfl, rfl, Touch.refl _ _⟩
  case round =>
    obtain ⟨k, hk, rfl, rfl, T⟩ := hrel
    by_cases hlt : k < r
    · have zi : (k : Int) < (r : Int) := by omega
      have H1 := hid (HC.out wr T k hlt)
      have V1 := hid (fun w1 (t1 : Touch [] wr w1) => HV.out w1 (T.trans' t1) k hlt)
      have HN : Hid (cntG X hv (k + 1) = min (cntG X hv k) (at_ X hv k)) := rfl
      generalize k * 2 ^ X.b + plc X.b hv k = p at *
      generalize at_ X hv k = a at *
      generalize cntG X hv k = m at *
      clear HC HV HK k0 HE
      go_wp2_with (go_at_call 36; refine H1.out.mono ?_; rintro e w1 ⟨rfl, t1⟩; have z1 := V1.out _ t1; have T1 := hid (T.trans' t1); clear t1)
      refine ⟨⟨k + 1, by omega, rfl, ?_, T1.out⟩, by simp [intOf]; omega⟩
      rw [HN.out]
      congr 1
      split <;> omega
    · obtain rfl : k = r := by omega
      have zi : ¬ (k : Int) < (k : Int) := by omega
      clear HC HV HK k0
      go_wp2
      go_ret
      exact ⟨by rw [HE.out]; rfl, T⟩
theorem check_ok {k : K} (h : k.2.size ≤ 64) (w : World) : Calls Try.prog 33 #[kv k] w fun e w' => e = .returned (.int .i64 0) ∧ Touch [] w w' := by
  unfold kv
  go_enter Try.func33, Try.ntmps33
  go_wp2
  go_ret
  exact ⟨rfl, (Touch.refl _ _).alloc _⟩
theorem check_no {k : K} (h : 64 < k.2.size) (w : World) : Calls Try.prog 33 #[kv k] w fun e w' => e = .returned (.int .i64 20) ∧ Touch [] w w' := by
  have h' : (64 : Int) < (k.2.size : Int) := by omega
  unfold kv
  go_enter Try.func33, Try.ntmps33
  go_wp2
  go_ret
  exact ⟨rfl, (Touch.refl _ _).alloc _⟩
/-- A key's hash. -/
def hK (k : K) : Nat := hashK k.1 k.2
theorem hK_lt (k : K) : hK k < 18446744073709551616 := hashK_lt _ _
theorem Ok.sp {k : K} (hk : Ok k) : 0 ≤ k.1 ∧ k.1 ≤ 65535 := by
  have := hk.1
  simp [Lit.wf] at this
  exact ⟨this.1, this.2⟩
theorem khash_ {k : K} (hk : Ok k) (w : World) : Calls Try.prog 34 #[kv k] w fun e w' => e = .returned (.int .u64 (hK k : Nat)) ∧ Touch [] w w' := by
  have hk2 : k.2.size ≤ 9223372036854775807 := by have := hk.2; unfold maxLen at this; omega
  refine (hash50 k.1 k.2 w (Ok.sp hk).1 (Ok.sp hk).2 hk2).mono ?_
  rintro e w' ⟨e1, o1, o2, o3, o4, g1⟩
  exact ⟨e1, by rw [g1]; exact ((((Touch.refl _ _).alloc _).alloc _).alloc _).alloc _⟩
/-- What a key counts: nothing where it may not be. -/
def cnK (X : S) (k : K) : Nat := if k.2.size ≤ 64 then cnt X (hK k) else 0
theorem cnK_le (X : S) (k : K) : cnK X k ≤ 255 := by
  have := cnt_le X (hK k)
  unfold cnK
  split <;> omega
set_option maxHeartbeats 1000000 in
theorem count_ (h : Kq w s g cap X) {k : K} (hk : Ok k) : Calls Try.prog 23 #[PT s, kv k] w fun e w' => e = .returned (.int .i64 (cnK X k : Nat)) ∧ Touch [] w w' := by
  obtain ⟨V, hV⟩ : ∃ V, V = w.alloc (.cells #[.int .u16 k.1, .string k.2] 43) := ⟨_, rfl⟩
  have TV : Touch [] w V := by rw [hV]; exact (Touch.refl _ _).alloc _
  have HB : Hid (∀ w1, Touch [] V w1 → w1.cell? ⟨w.heap.size, 0, none⟩ = some (.int .u16 k.1) ∧ w1.cell? ⟨w.heap.size, 1, none⟩ = some (.string k.2)) := hid (fun w1 t1 => by
    have hb : V.heap[w.heap.size]? = some (.cells #[.int .u16 k.1, .string k.2] 43) := by rw [hV]; exact heap_alloc_new w _
    have := t1.keep hb (by simp)
    exact ⟨cell_at this rfl, cell_at this rfl⟩)
  have z := HB.out V (Touch.refl _ _)
  obtain ⟨z0, z1⟩ := z
  by_cases h64 : k.2.size ≤ 64
  · have HC := hid (check_ok h64 V)
    have HH := hid (fun w1 => khash_ hk w1)
    have HL := hid (fun w1 (t1 : Touch [] V w1) => least_ (h.keep0 (TV.trans' t1)) (hK k))
    have e : cnK X k = cnt X (hK k) := by simp [cnK, h64]
    rw [e]
    have hc := cnt_le X (hK k)
    have hw : IntKind.i64.wrap ((cnt X (hK k) : Nat) : Int) = ((cnt X (hK k) : Nat) : Int) := by rw [IntKind.wrap_i64]; omega
    generalize cnt X (hK k) = C at *
    generalize hK k = hv at *
    clear h hk h64 hc e
    unfold kv PT at *
    go_enter Try.func23, Try.ntmps23
    go_upto_region 1 with fail
    rw [← hV]
    clear hV
    go_wp2_with (first
      | (go_at_call 33; refine HC.out.mono ?_; rintro e w1 ⟨rfl, t1⟩; obtain ⟨y0, y1⟩ := HB.out _ t1)
      | (go_at_call 34; refine (HH.out _).mono ?_; rintro e w2 ⟨rfl, t2⟩; have t12 := t1.trans' t2)
      | (go_at_call 35; refine (HL.out _ t12).mono ?_; rintro e w3 ⟨rfl, t3⟩))
    go_ret
    exact ⟨rfl, (TV.trans' t12).trans' t3⟩
  · have HC := hid (check_no (k := k) (by omega) V)
    have e : cnK X k = 0 := by simp [cnK, h64]
    rw [e]
    clear h hk h64 e
    unfold kv PT at *
    go_enter Try.func23, Try.ntmps23
    go_upto_region 1 with fail
    rw [← hV]
    clear hV
    go_wp2_with (first
      | (go_at_call 33; refine HC.out.mono ?_; rintro e w1 ⟨rfl, t1⟩; obtain ⟨y0, y1⟩ := HB.out _ t1))
    go_ret
    exact ⟨rfl, TV.trans' t1⟩
theorem total_ (h : Kq w s g cap X) : Calls Try.prog 25 #[PT s] w fun e w' => e = .returned (.int .u64 (X.t : Nat)) ∧ w' = w := by
  have c3 := h.c3
  unfold PT
  clear h
  go_enter Try.func25, Try.ntmps25
  go_wp2
  go_ret
  exact ⟨rfl, rfl⟩
end
end Go.Proofs.Ytbadlkjffelkhaa.Sk
