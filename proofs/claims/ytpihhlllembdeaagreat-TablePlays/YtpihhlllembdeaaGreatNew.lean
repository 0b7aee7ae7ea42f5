/- The contracts of New and of Clone. -/
import Derived.Test.YtpihhlllembdeaaGreatReb
namespace Go.Proofs.YtpihhlllembdeaaGreat
open Go.RowKit Go.Maps Go.ChangeMaps
set_option linter.unusedVariables false
set_option linter.unusedSimpArgs false
def mayN (R : Rn) (x : Int) : Bool := decide (1 ≤ R.run) && decide (0 ≤ R.gen) && (if R.rf then decide (x = 0) else decide (1 ≤ x))
def S0 (R : Rn) (x : Int) : St := ⟨if R.rf then [] else [x], R.rf, false, false, oz⟩
theorem iv_S0 {R : Rn} {x : Int} (hx : W64 x) (h : mayN R x = true) : Iv (S0 R x) := by
  refine ⟨fun e => (by cases e), fun _ => rfl, fun _ e => (by cases e), fun y hy => ?_, ?_⟩
  · unfold S0 at hy
    unfold mayN at h
    cases hr : R.rf
    · rw [hr] at hy h
      simp at hy h
      subst hy
      exact ⟨hx, h.2⟩
    · rw [hr] at hy; simp at hy
  · unfold S0
    cases hr : R.rf <;> simp
/-- What New leaves where it makes a record. -/
def NwE (e : Ending) (w w' : World) (R : Rn) (x : Int) : Prop := ∃ b F, e = .returned (.tuple #[PT b, .int .i64 0]) ∧ Rq w' b F R (S0 R x) 1 ∧ Touch [] w w' ∧ ∀ d, d ∈ F → w.heap.size ≤ d
section
variable (w : World) (R : Rn) (x : Int)
theorem new_no (h : mayN R x = false) : (1 ≤ R.run ∧ 0 ≤ R.gen ∧ 0 ≤ x) → R.rf = !(decide (x = 0)) := by
  rintro ⟨h1, h2, h3⟩
  unfold mayN at h
  cases hr : R.rf
  · rw [hr] at h; simp [h1, h2] at h; simp; omega
  · rw [hr] at h; simp [h1, h2] at h; simp [h]
set_option maxHeartbeats 2000000 in
theorem new5_no (h : mayN R x = false) : Calls Tryz.prog 39 #[rv R, .int .i64 x] w fun e w' => e = .returned (.tuple #[.pointer none, .int .i64 1]) ∧ Touch [] w w' := by
  have hh := new_no R x h
  obtain ⟨r, sp, nm, gn, rf⟩ := R
  simp only at hh
  clear h
  unfold rv
  by_cases h1 : r < 1
  · clear hh
    go_enter Tryz.func39, Tryz.ntmps39
    go_wp2
    refine bodyPost_ret (v := .tuple #[.pointer none, .int .i64 1]) (by simp [results, Tryz.results39, go_sem]) rfl ⟨rfl, ?_⟩
    exact (Touch.refl _ _).alloc _
  · by_cases h2 : gn < 0
    · clear hh
      go_enter Tryz.func39, Tryz.ntmps39
      go_wp2
      refine bodyPost_ret (v := .tuple #[.pointer none, .int .i64 1]) (by simp [results, Tryz.results39, go_sem]) rfl ⟨rfl, ?_⟩
      exact (Touch.refl _ _).alloc _
    · by_cases h3 : x < 0
      · clear hh
        go_enter Tryz.func39, Tryz.ntmps39
        go_wp2
        refine bodyPost_ret (v := .tuple #[.pointer none, .int .i64 1]) (by simp [results, Tryz.results39, go_sem]) rfl ⟨rfl, ?_⟩
        exact (Touch.refl _ _).alloc _
      · have h4 := hh ⟨by omega, by omega, by omega⟩
        clear hh
        subst h4
        by_cases h5 : x = 0
        · subst h5
          go_enter Tryz.func39, Tryz.ntmps39
          go_wp2
          refine bodyPost_ret (v := .tuple #[.pointer none, .int .i64 1]) (by simp [results, Tryz.results39, go_sem]) rfl ⟨rfl, ?_⟩
          exact (Touch.refl _ _).alloc _
        · rw [show (!decide (x = 0)) = true by simp [h5]]
          have h6 : (x == 0) = false := by simp [h5]
          clear h5
          go_enter Tryz.func39, Tryz.ntmps39
          go_wp2
          refine bodyPost_ret (v := .tuple #[.pointer none, .int .i64 1]) (by simp [results, Tryz.results39, go_sem]) rfl ⟨rfl, ?_⟩
          exact (Touch.refl _ _).alloc _
theorem rl_new (w : World) (o : Obj) (R : Rn) : Rl ((w.alloc o).alloc (.cells (rc R (.slice none 0 0) (.map none) R.rf false false oz) 135)) (w.heap.size + 1) R R.rf false false oz (.slice none 0 0) none [] := by
  refine ⟨⟨?_⟩, Ln.nil _⟩
  have := heap_alloc_new (w.alloc o) (.cells (rc R (.slice none 0 0) (.map none) R.rf false false oz) 135)
  rwa [World.size_alloc] at this
set_option maxHeartbeats 2000000 in
theorem new5_ok (hx : W64 x) (h : mayN R x = true) : Calls Tryz.prog 39 #[rv R, .int .i64 x] w fun e w' => NwE e w w' R x := by
  have hiv := iv_S0 hx h
  have HL := hid (rl_new w (.cells #[.int .i64 R.run, .int .u16 R.sp, .string R.nm, .int .i64 R.gen, .bool R.rf] 80) R)
  have ht : Touch [] w ((w.alloc (.cells #[.int .i64 R.run, .int .u16 R.sp, .string R.nm, .int .i64 R.gen, .bool R.rf] 80)).alloc (.cells (rc R (.slice none 0 0) (.map none) R.rf false false oz) 135)) := ((Touch.refl _ _).alloc _).alloc _
  have HT := hid ht
  clear ht
  unfold mayN at h
  cases hr : R.rf with
  | true =>
    rw [hr] at h HL HT
    simp only [if_true, Bool.and_eq_true, decide_eq_true_eq] at h
    obtain ⟨⟨h1, h2⟩, rfl⟩ := h
    have HX : Hid (NwE (.returned (.tuple #[PT (w.heap.size + 1), .int .i64 0])) w ((w.alloc (.cells #[.int .i64 R.run, .int .u16 R.sp, .string R.nm, .int .i64 R.gen, .bool true] 80)).alloc (.cells (rc R (.slice none 0 0) (.map none) true false false oz) 135)) R 0) := by
      refine ⟨w.heap.size + 1, fpR (w.heap.size + 1) (.slice none 0 0) none, rfl, ⟨.slice none 0 0, none, [], rfl, ?_, ?_, Nat.zero_le _, hiv⟩, HT.out, fun d hd => ?_⟩
      · unfold S0
        rw [hr]
        exact HL.out
      · unfold S0; rw [hr]; rfl
      · rcases mem_fpR.1 hd with q | q | q
        · omega
        · cases q
        · cases q
    clear HL HT hiv hx
    unfold PT rc oz at HX
    unfold rv
    rw [hr] at HX ⊢
    have g1 : (R.run < 1) = False := by simp; omega
    have g2 : (R.gen < 0) = False := by simp; omega
    go_enter Tryz.func39, Tryz.ntmps39
    go_wp2
    exact bodyPost_ret (v := .tuple #[.pointer (some ⟨w.heap.size + 1, 0, none⟩), .int .i64 0]) (by simp [results, Tryz.results39, go_sem]) rfl HX.out
  | false =>
    rw [hr] at h HL HT
    simp only [Bool.false_eq_true, if_false, Bool.and_eq_true, decide_eq_true_eq] at h
    obtain ⟨⟨h1, h2⟩, h3⟩ := h
    have HA := hid (add21 _ _ R _ none [] _ _ _ _ HL.out x hx (by omega) (by simp [wl]) (by simp))
    have HX : Hid (∀ w', LnE ((w.alloc (.cells #[.int .i64 R.run, .int .u16 R.sp, .string R.nm, .int .i64 R.gen, .bool false] 80)).alloc (.cells (rc R (.slice none 0 0) (.map none) false false false oz) 135)) w' (w.heap.size + 1) R false false false oz (fpR (w.heap.size + 1) (.slice none 0 0) none) ([] ++ [x]) → NwE (.returned (.tuple #[PT (w.heap.size + 1), .int .i64 0])) w w' R x) := fun w' ⟨sl, m, q1, q2, q3⟩ => by
      have hz := HT.out.size
      refine ⟨w.heap.size + 1, fpR (w.heap.size + 1) sl m, rfl, ⟨sl, m, [] ++ [x], rfl, ?_, ?_, by simp, hiv⟩, HT.out.trans q2 (fun d hd => Or.inr ?_), fun d hd => ?_⟩
      · unfold S0; rw [hr]; exact q1
      · unfold S0; rw [hr]; exact wl_one (by omega)
      · rcases mem_fpR.1 hd with q | q | q
        · omega
        · cases q
        · cases q
      · rcases q3 d hd with q | q
        · rcases mem_fpR.1 q with q | q | q
          · omega
          · cases q
          · cases q
        · omega
    clear HL HT hiv
    unfold PL rc oz at HA
    unfold PT rc oz at HX
    unfold rv
    rw [hr] at HX HA ⊢
    have g1 : (R.run < 1) = False := by simp; omega
    have g2 : (R.gen < 0) = False := by simp; omega
    have g3 : (x < 0) = False := by simp; omega
    have g4 : (x == 0) = false := by simp; omega
    go_enter Tryz.func39, Tryz.ntmps39
    go_wp2_with (go_at_call 65; refine HA.out.mono ?_; rintro e w2 ⟨rfl, r⟩; have RR := hid (HX.out _ r); clear r)
    exact bodyPost_ret (v := .tuple #[.pointer (some ⟨w.heap.size + 1, 0, none⟩), .int .i64 0]) (by simp [results, Tryz.results39, go_sem]) rfl RR.out
end
end Go.Proofs.YtpihhlllembdeaaGreat
