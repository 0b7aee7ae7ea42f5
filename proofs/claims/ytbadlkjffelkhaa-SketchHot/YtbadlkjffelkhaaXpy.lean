/- The law SketchPlays' walk; no conditions. -/
import Derived.Test.YtbadlkjffelkhaaXpl
namespace Go.Proofs.Ytbadlkjffelkhaa.Sk
open Go.RowKit Go.Maps Go.ChangeMaps
set_option maxRecDepth 100000
set_option linter.unusedVariables false
set_option linter.unusedSimpArgs false
theorem SlKyA.ks {w : World} {v : Value} {xs : List KyA} (h : SlKyA w v xs) (hx : ∀ x ∈ xs, x.ok) : ∃ a c, v = .slice a (xs.map KyA.key).length c ∧ KyS w a (xs.map KyA.key) := by
  obtain ⟨a, c, rfl⟩ := SlKyA.form h
  exact ⟨a, c, by simp, KyS.of_sl h hx⟩
set_option maxHeartbeats 4000000 in
theorem plays_ (w : World) (r b : Int) (xs : List ActX) (vl : Value) (ys : List KyA) (vk : Value) (hr : W64 r) (hb : W64 b) (hl : SlActX w vl xs) (hx : ∀ x ∈ xs, x.ok) (ll : xs.length ≤ 4398046510976) (hk : SlKyA w vk ys) (hy : ∀ x ∈ ys, x.ok) (lk : ys.length ≤ 5864062014635) : Calls Try.prog 3 #[.agg #[.int .i64 r, .int .i64 b], vl, vk] w fun e w' => e = .returned (.bool true) ∧ Touch [] w w' := by
  obtain ⟨a, c, rfl, hA⟩ := AcS.of_sl hl hx
  obtain ⟨a2, c2, rfl, hK⟩ := SlKyA.ks hk hy
  obtain ⟨ks, hks⟩ : ∃ ks, ks = ys.map KyA.key := ⟨_, rfl⟩
  have lk2 : ks.length ≤ 5864062014635 := by rw [hks]; simpa using lk
  rw [← hks] at hK ⊢
  obtain ⟨V, hV⟩ : ∃ V, V = w.alloc (.cells #[.int .i64 r, .int .i64 b] 22) := ⟨_, rfl⟩
  have TV : Touch [] w V := by rw [hV]; exact (Touch.refl _ _).alloc _
  have hbx : V.heap[w.heap.size]? = some (.cells #[.int .i64 r, .int .i64 b] 22 (0, 0)) := by rw [hV]; exact heap_alloc_new w _
  have y0 := cell_at (j := 0) (v := .int .i64 r) hbx rfl
  have y1 := cell_at (j := 1) (v := .int .i64 b) hbx rfl
  have HW := hid awake_
  have HT := hid TV
  by_cases h : mayZ r b = true
  · have HP : Hid (Calls Try.prog 8 #[.int .i64 r, .int .i64 b, .slice a xs.length c] V fun e w1 => ∃ s X G cp, e = .returned (.tuple #[.pointer (some ⟨s, 0, none⟩), .agg #[.int .i64 (X.b : Nat), .slice (some ⟨G, 0, none⟩) X.r cp, .int .u64 (X.t : Nat)], .bool true]) ∧ Touch [] V w1 ∧ ∀ w2, Touch [] w1 w2 → Calls Try.prog 10 #[PT s, dv (.slice (some ⟨G, 0, none⟩) X.r cp) X, .slice a2 ks.length c2] w2 fun e w' => e = .returned (.bool true) ∧ Touch [] w2 w') := hid (by
      refine (played_ok r b h (hA.keep TV) (by omega)).mono ?_
      rintro e w1 ⟨v, u, rfl, s, g, cap, X, G, cp, Q, Cp, rfl, rfl, k1, d1, e1, e2, l1, l2, t1⟩
      refine ⟨s, X, G, cp, rfl, t1, fun w2 t2 => ?_⟩
      exact says_ (k1.keep0 t2) (d1.keep0 t2) ((hK.keep TV).keep (t1.trans' t2)) (by omega))
    clear hA hK hl hx ll hk hy lk lk2 hr hb hks h TV hbx
    generalize ks.length = nk at *
    generalize xs.length = nx at *
    unfold dv PT at *
    go_enter Try.func3, Try.ntmps3
    go_upto_region 1 with fail
    rw [← hV]
    clear hV
    go_wp2_with (first
      | (go_at_call 8; refine HP.out.mono ?_; rintro e w1 ⟨s, X, G, cp, rfl, t1, h1⟩; have T1 := hid t1; have H1 := hid h1; clear t1 h1 HP)
      | (go_at_call 9; refine (HW.out _).mono ?_; rintro e w2 ⟨rfl, t2⟩; have T2 := hid (((Touch.refl [] w1).alloc _).trans' t2); have hq := t2.keep (heap_alloc_new w1 _) (by simp); have u0 := cell_at (j := 0) (v := .int .i64 (X.b : Nat)) hq rfl; have u1 := cell_at (j := 1) (v := .slice (some ⟨G, 0, none⟩) X.r cp) hq rfl; have u2 := cell_at (j := 2) (v := .int .u64 (X.t : Nat)) hq rfl; clear hq t2)
      | (go_at_call 10; refine (H1.out _ T2.out).mono ?_; rintro e w3 ⟨rfl, t3⟩; have T3 := hid t3; clear t3))
    go_ret
    exact ⟨rfl, ((HT.out.trans' T1.out).trans' T2.out).trans' T3.out⟩
  · have HP := hid (played_no (w := V) r b (by simpa using h) (.slice a xs.length c))
    clear hA hK hl hx ll hk hy lk lk2 hr hb hks h TV hbx
    generalize ks.length = nk at *
    generalize xs.length = nx at *
    unfold zd at *
    go_enter Try.func3, Try.ntmps3
    go_upto_region 1 with fail
    rw [← hV]
    clear hV
    go_wp2_with (first
      | (go_at_call 8; refine HP.out.mono ?_; rintro e w1 ⟨rfl, t1⟩; have T1 := hid t1; clear t1 HP)
      | (go_at_call 9; refine (HW.out _).mono ?_; rintro e w2 ⟨rfl, t2⟩; have T2 := hid (((Touch.refl [] w1).alloc _).trans' t2); clear t2))
    go_ret
    exact ⟨rfl, (HT.out.trans' T1.out).trans' T2.out⟩
end Go.Proofs.Ytbadlkjffelkhaa.Sk
