/- The law's look whether a clock says what it must, where timers are armed. -/
import Derived.Test.YtaioegefoiabhaaSay
import Derived.Test.YtaioegefoiabhaaRad
import Derived.Test.YtaioegefoiabhaaHlg
namespace Go.Proofs.Ytaioegefoiabhaa
open Go.RowKit Go.Maps Go.ChangeMaps
set_option linter.unusedVariables false
set_option linter.unusedSimpArgs false
theorem RR.one {e : TypeId} {w : World} {B g c N : Nat} {x : Tm} {l : List Tm} (h : RR e w B (.slice (some ⟨g, 0, none⟩) N c) (x :: l)) (hN : N = (x :: l).length) : RR e w B (.slice (some ⟨g, 0, none⟩) 1 c) [x] := by
  subst hN
  obtain ⟨cur, hc, hn, hm, hs, ht, hg, hl⟩ := own_block h
  refine own_of_cells hc hg (by simp at hn; omega) hm hs rfl (fun p v hp => ?_)
  refine own_cell h ?_
  rw [flatT_cons]
  match p, hp with
  | 0, hp => simpa [flatT, tmC] using hp
  | 1, hp => simpa [flatT, tmC] using hp
theorem RR.made (w : World) (x : Tm) : RR 45 (w.alloc (.cells #[.int .i64 x.it, .int .i64 x.at_] 45)) w.heap.size (.slice (some ⟨w.heap.size, 0, none⟩) 1 1) [x] := by
  refine own_of_cells (heap_alloc_new w _) (Nat.le_refl _) (Nat.le_refl _) (by unfold maxLen; omega) rfl rfl (fun p v hp => ?_)
  match p, hp with
  | 0, hp => simp [flatT, tmC] at hp; subst hp; simp
  | 1, hp => simp [flatT, tmC] at hp; subst hp; simp
set_option maxHeartbeats 2000000 in
set_option maxRecDepth 100000 in
theorem says_cons (w : World) (B c : Nat) (F : List Nat) (v : Value) (s : Cs) (k : Int) (hc : Ck w c F s) (hr : RR 93 w B v s.T) (hk : W64 k) {x : Tm} {l : List Tm} (hT : s.T = x :: l) :
    Calls Try.prog 13 #[PC c, .agg #[.int .i64 s.now, v, .int .i64 s.last], .int .i64 k] w fun e w' => e = .returned (.bool true) ∧ Touch [] w w' := by
  obtain ⟨a, m, rfl⟩ := hr.slice
  have ok := hc.ok
  obtain ⟨N, hN⟩ : ∃ N, N = s.T.length := ⟨_, rfl⟩
  rw [← hN] at hr ⊢
  have hb := BM.new w s.now (.slice a N m) s.last
  obtain ⟨V, hV⟩ : ∃ V, V = w.alloc (.cells #[.int .i64 s.now, .slice a N m, .int .i64 s.last] 28) := ⟨_, rfl⟩
  rw [← hV] at hb
  have TV : Hid (Touch [] w V) := by rw [hV]; exact (Touch.refl _ _).alloc _
  have HB := hid hb
  have HN : Hid (Calls Try.prog 17 #[.pointer (some ⟨c, 0, none⟩)] V fun e w' => e = .returned (.tuple #[.agg #[.int .i64 x.it, .int .i64 x.at_], .bool true]) ∧ Touch [] V w') := next17_cons V c F s (hc.keep0 TV.out) hT
  have HL : Hid (∀ w1, Touch [] V w1 → Calls Try.prog 19 #[.pointer (some ⟨c, 0, none⟩), .int .i64 k] w1 fun e w' => e = .returned (.tuple #[.int .i64 (leftN s k), .bool (leftB s k)]) ∧ w' = w1) := fun w1 t1 => left19 w1 c F s k (hc.keep0 (TV.out.trans' t1)) hk
  have HM : Hid (∀ w1, Touch [] V w1 → Calls Try.prog 34 #[.agg #[.int .i64 s.now, .slice a N m, .int .i64 s.last], .int .i64 k] w1 fun e w' => e = .returned (.tuple #[.int .i64 (leftN s k), .bool (leftB s k)]) ∧ Touch [] w1 w') := fun w1 t1 => rleft34 w1 B _ s k (hr.keep0 (TV.out.trans' t1)) ok
  have HO : Hid (∀ w1, Touch [] V w1 → Calls Try.prog 14 #[.pointer (some ⟨c, 0, none⟩)] w1 fun e w' => e = .returned (.int .i64 s.now) ∧ w' = w1) := fun w1 t1 => now14 w1 c F s (hc.keep0 (TV.out.trans' t1))
  have HA : Hid (∀ w1, Touch [] V w1 → Calls Try.prog 15 #[.pointer (some ⟨c, 0, none⟩)] w1 fun e w' => ArQ e w1 w' N s.T) := fun w1 t1 => armedQ w1 c F s N hN (hc.keep0 (TV.out.trans' t1))
  have HG : Hid (∀ w2 a5 m5 B5, Touch [] V w2 → RR 45 w2 B5 (.slice a5 N m5) s.T → Calls Try.prog 32 #[.slice a5 N m5, .slice a N m] w2 fun e w' => e = .returned (.bool true) ∧ Touch [] w2 w') := fun w2 a5 m5 B5 t2 h5 => rings32 w2 B5 B _ _ s.T h5 (hr.keep0 (TV.out.trans' t2)) ok.len
  have v0 := hb.c0
  have v1 := hb.c1
  have v2 := hb.c2
  have hN0 : 0 < N := by rw [hN, hT]; simp
  obtain ⟨g, eg, eN, ez0, ez1⟩ := hr.cells (k := 0) (by rw [← hN]; exact hN0)
  subst eg
  clear eN ez0 ez1
  have H1R : Hid (∀ w', Touch [] V w' → RR 93 w' B (.slice (some ⟨g, 0, none⟩) 1 m) [x]) := fun w' t => by
    have h := hr.keep0 (TV.out.trans' t)
    rw [hT] at h hN
    exact h.one hN
  have HG1 : Hid (∀ w2 a5 B5, Touch [] V w2 → RR 45 w2 B5 (.slice a5 1 1) [x] → Calls Try.prog 32 #[.slice a5 1 1, .slice (some ⟨g, 0, none⟩) 1 m] w2 fun e w' => e = .returned (.bool true) ∧ Touch [] w2 w') := fun w2 a5 B5 t2 h5 => rings32 w2 B5 B _ _ [x] h5 (H1R.out _ t2) (by simp)
  have hcap : N ≤ m ∧ m ≤ maxLen := by
    rcases RR.form hr with ⟨e, _⟩ | ⟨g', c', e, h1, h2⟩
    · cases e
    · injection e with e4 e5 e6
      subst e6
      exact ⟨by rw [hN]; exact h1, h2⟩
  have zN : (0 : Int) < (N : Int) := by omega
  have zNd : decide ((0 : Int) < (N : Int)) = true := decide_eq_true zN
  have zm1 : (1 : Int) ≤ (m : Int) := by omega
  have zm2 : (m : Int) ≤ 9223372036854775807 := by have := hcap.2; unfold maxLen at this; omega
  have hm0 : ¬ m = 0 := by omega
  have HMR := hid (RR.made)
  rw [hV] at HN
  clear hc hr hk ok hT hb hN hcap
  generalize leftN s k = ln at *
  generalize leftB s k = lb at *
  generalize s.T = T at *
  generalize s.now = now at *
  generalize s.last = last at *
  unfold PC
  go_enter Try.func13, Try.ntmps13
  go_wp2_with (first
    | (go_at_call 17; refine HN.out.mono ?_; rintro e w1 ⟨rfl, t1⟩; rw [← hV] at t1; have T1 := hid (t1.alloc (.cells #[.int .i64 x.it, .int .i64 x.at_] 45)); have HF := hid (FB.new w1 x.it x.at_); have f0 := HF.out.c0; have f1 := HF.out.c1; have x0 := T1.out.cell v0; have x1 := T1.out.cell v1; have x2 := T1.out.cell v2; clear t1)
    | (go_at_call 19; refine (HL.out _ T1.out).mono ?_; rintro e w2 ⟨rfl, rfl⟩)
    | (go_at_call 34; refine (HM.out _ T1.out).mono ?_; rintro e w3 ⟨rfl, t3⟩; have T3 := hid (T1.out.trans' t3); have T13 := hid t3; clear t3))
  have y0 : ∀ w', Touch [] w3 w' → w'.cell? ⟨w.heap.size, 0, none⟩ = some (.int .i64 now) := fun w' t => (T3.out.trans' t).cell v0
  have y1 : ∀ w', Touch [] w3 w' → w'.cell? ⟨w.heap.size, 1, none⟩ = some (.slice (some ⟨g, 0, none⟩) N m) := fun w' t => (T3.out.trans' t).cell v1
  go_region_held3 (fun w' => Touch [] w3 w') (first | assumption | exact (Touch.refl _ _).drew | exact Touch.refl _ _ | exact Touch.drew (by assumption))
    (first
      | (go_at_call 14; refine (HO.out _ (T3.out.trans' (by assumption))).mono ?_; rintro e w4 ⟨rfl, rfl⟩)
      | (go_at_call 15; refine (HA.out _ (T3.out.trans' (by assumption))).mono ?_; rintro e w5 ⟨a5, m5, rfl, r5, t5⟩; have T5 : Touch [] w3 w5 := Touch.trans' (by assumption) t5; have H5 := hid r5; clear r5 t5)
      | (go_at_call 32; refine (HG.out _ _ _ _ (T3.out.trans' T5) H5.out).mono ?_; rintro e w6 ⟨rfl, t6⟩; have T6 : Touch [] w3 w6 := T5.trans' t6; clear t6))
  all_goals
    have g0 := (T13.out.trans' T6).cell f0
    have g1 := (T13.out.trans' T6).cell f1
    have HT6 := hid (T3.out.trans' T6)
    have h1 := y1 w6 T6
    clear y0 y1 v0 v1 v2 x0 x1 x2 f0 f1
    go_wp2
    refine wp_region_L (S := (fun w' => w'.cell? ⟨w1.heap.size, 0, none⟩ = some (.int .i64 x.it) ∧ w'.cell? ⟨w1.heap.size, 1, none⟩ = some (.int .i64 x.at_) ∧ w'.cell? ⟨w.heap.size, 1, none⟩ = some (.slice (some ⟨g, 0, none⟩) N m))) (st := 18) (by kernel_rfl) ?_
    have hS0 := And.intro g0 (And.intro g1 h1)
    refine wpL_take (i := 0) (v := .bool true) (some 61) rfl rfl (by kernel_rfl) (by kernel_rfl) (by kernel_rfl) (by kernel_rfl) (by kernel_rfl) (by decide) (fun _ _ _ h => h) (Or.inl ⟨by rfl, fun w' hS => by obtain ⟨hs1, hs2, hs3⟩ := hS; go_simp⟩) hS0 ?_
    try simp only [Act.put, List.setIfInBounds_toArray, List.set_cons_zero, List.set_cons_succ]
    refine wpL_take (i := 1) (v := .bool false) (some 62) rfl rfl (by kernel_rfl) (by kernel_rfl) (by kernel_rfl) (by kernel_rfl) (by kernel_rfl) (by decide) (fun _ _ _ h => h) (Or.inl ⟨by rfl, fun w' hS => by obtain ⟨hs1, hs2, hs3⟩ := hS; go_simp⟩) hS0 ?_
    try simp only [Act.put, List.setIfInBounds_toArray, List.set_cons_zero, List.set_cons_succ]
    refine wpL_take (i := 2) (v := .bool false) (some 63) rfl rfl (by kernel_rfl) (by kernel_rfl) (by kernel_rfl) (by kernel_rfl) (by kernel_rfl) (by decide) (fun _ _ _ h => h) (Or.inl ⟨by rfl, fun w' hS => by obtain ⟨hs1, hs2, hs3⟩ := hS; go_simp⟩) hS0 ?_
    try simp only [Act.put, List.setIfInBounds_toArray, List.set_cons_zero, List.set_cons_succ]
    refine wpL_takeY (i := 3) (v := undef) (some 64) rfl rfl (by kernel_rfl) (by kernel_rfl) (by kernel_rfl) (by decide) (fun _ _ _ h => h) (Or.inr ⟨by rfl, rfl⟩) (fun _ => hS0) ?_
    try simp only [Act.put, List.setIfInBounds_toArray, List.set_cons_zero, List.set_cons_succ]
    refine wpL_takeY (i := 4) (v := undef) (some 65) rfl rfl (by kernel_rfl) (by kernel_rfl) (by kernel_rfl) (by decide) (fun _ _ _ h => h) (Or.inr ⟨by rfl, rfl⟩) (fun _ => hS0) ?_
    try simp only [Act.put, List.setIfInBounds_toArray, List.set_cons_zero, List.set_cons_succ]
    refine wpL_takeY (i := 5) (v := undef) (some 66) rfl rfl (by kernel_rfl) (by kernel_rfl) (by kernel_rfl) (by decide) (fun _ _ _ h => h) (Or.inr ⟨by rfl, rfl⟩) (fun _ => hS0) ?_
    try simp only [Act.put, List.setIfInBounds_toArray, List.set_cons_zero, List.set_cons_succ]
    refine wpL_take (i := 6) (v := .bool false) (some 67) rfl rfl (by kernel_rfl) (by kernel_rfl) (by kernel_rfl) (by kernel_rfl) (by kernel_rfl) (by decide) (fun _ _ _ h => h) (Or.inl ⟨by rfl, fun w' hS => by obtain ⟨hs1, hs2, hs3⟩ := hS; go_simp⟩) hS0 ?_
    try simp only [Act.put, List.setIfInBounds_toArray, List.set_cons_zero, List.set_cons_succ]
    refine wpL_take (i := 7) (v := .bool false) (some 68) rfl rfl (by kernel_rfl) (by kernel_rfl) (by kernel_rfl) (by kernel_rfl) (by kernel_rfl) (by decide) (fun _ _ _ h => h) (Or.inl ⟨by rfl, fun w' hS => by obtain ⟨hs1, hs2, hs3⟩ := hS; go_simp⟩) hS0 ?_
    try simp only [Act.put, List.setIfInBounds_toArray, List.set_cons_zero, List.set_cons_succ]
    refine wpL_take (i := 8) (v := .bool true) (some 69) rfl rfl (by kernel_rfl) (by kernel_rfl) (by kernel_rfl) (by kernel_rfl) (by kernel_rfl) (by decide) (fun _ _ _ h => h) (Or.inl ⟨by rfl, fun w' hS => by obtain ⟨hs1, hs2, hs3⟩ := hS; go_simp⟩) hS0 ?_
    try simp only [Act.put, List.setIfInBounds_toArray, List.set_cons_zero, List.set_cons_succ]
    refine wpL_take (i := 9) (v := .bool true) (some 70) rfl rfl (by kernel_rfl) (by kernel_rfl) (by kernel_rfl) (by kernel_rfl) (by kernel_rfl) (by decide) (fun _ _ _ h => h) (Or.inl ⟨by rfl, fun w' hS => by obtain ⟨hs1, hs2, hs3⟩ := hS; go_simp⟩) hS0 ?_
    try simp only [Act.put, List.setIfInBounds_toArray, List.set_cons_zero, List.set_cons_succ]
    refine wpL_take (i := 10) (v := .agg #[.int .i64 x.it, .int .i64 x.at_]) (some 71) rfl rfl (by kernel_rfl) (by kernel_rfl) (by kernel_rfl) (by kernel_rfl) (by kernel_rfl) (by decide) (fun _ _ _ h => h) (Or.inl ⟨by rfl, fun w' hS => by obtain ⟨hs1, hs2, hs3⟩ := hS; go_simp⟩) hS0 ?_
    try simp only [Act.put, List.setIfInBounds_toArray, List.set_cons_zero, List.set_cons_succ]
    refine wpL_take (i := 12) (v := .pointer (some ⟨w.heap.size, 1, none⟩)) (some 73) rfl rfl (by kernel_rfl) (by kernel_rfl) (by kernel_rfl) (by kernel_rfl) (by kernel_rfl) (by decide) (fun _ _ _ h => h) (Or.inl ⟨by rfl, fun w' hS => by obtain ⟨hs1, hs2, hs3⟩ := hS; go_simp⟩) hS0 ?_
    try simp only [Act.put, List.setIfInBounds_toArray, List.set_cons_zero, List.set_cons_succ]
    refine wpL_take (i := 13) (v := .slice (some ⟨g, 0, none⟩) N m) (some 74) rfl rfl (by kernel_rfl) (by kernel_rfl) (by kernel_rfl) (by kernel_rfl) (by kernel_rfl) (by decide) (fun _ _ _ h => h) (Or.inl ⟨by rfl, fun w' hS => by obtain ⟨hs1, hs2, hs3⟩ := hS; go_simp⟩) hS0 ?_
    try simp only [Act.put, List.setIfInBounds_toArray, List.set_cons_zero, List.set_cons_succ]
    refine wpL_take (i := 14) (v := .slice (some ⟨g, 0, none⟩) 1 m) (some 75) rfl rfl (by kernel_rfl) (by kernel_rfl) (by kernel_rfl) (by kernel_rfl) (by kernel_rfl) (by decide) (fun _ _ _ h => h) (Or.inl ⟨by rfl, fun w' hS => by obtain ⟨hs1, hs2, hs3⟩ := hS; go_simp⟩) hS0 ?_
    try simp only [Act.put, List.setIfInBounds_toArray, List.set_cons_zero, List.set_cons_succ]
    refine wpL_ready (rs := [11]) (by kernel_rfl) (by simp) (AllL.cons (o := { dst := some 72, op := Op.buildSlice 34 1 #[(0, Operand.tmp 71)], type := 34, pos := "law.go:70", after := #[{ on := 10, ground := Ground.data }, { on := 9, ground := Ground.guard }], guard := some (9, true) }) rfl (fun K' hK => ?_) AllL.nil)
    rw [if_pos (by rfl)]
    go_simp
    have T7 : Touch [] w6 (w6.alloc (.cells #[.int .i64 x.it, .int .i64 x.at_] 45)).drew := ((Touch.refl _ _).alloc _).drew
    have hS7 := And.intro (T7.cell g0) (And.intro (T7.cell g1) (T7.cell h1))
    refine hK.out _ _ (fun _ => hS7) ?_
    clear hK
    try simp only [Act.put, List.setIfInBounds_toArray, List.set_cons_zero, List.set_cons_succ]
    refine wpL_ready (rs := [15]) (by kernel_rfl) (by simp) (AllL.cons (o := { dst := some 76, op := Op.call { callee := Callee.value (Operand.func 32), args := #[Operand.tmp 72, Operand.tmp 75], argTypes := #[34, 26] }, type := 4, pos := "law.go:70", after := #[{ on := 11, ground := Ground.data }, { on := 14, ground := Ground.data }, { on := 9, ground := Ground.chain }, { on := 9, ground := Ground.guard }], guard := some (9, true) }) rfl (fun K' hK => ?_) AllL.nil)
    rw [if_pos (by rfl)]
    go_simp
    refine (HG1.out _ _ w6.heap.size (HT6.out.trans' T7) ((HMR.out w6 x).keep0 (Touch.refl _ _).drew)).mono ?_
    rintro e w8 ⟨rfl, t8⟩
    have T8 := hid (TV.out.trans' (HT6.out.trans' (T7.trans' t8)))
    have hS8 := And.intro (t8.cell hS7.1) (And.intro (t8.cell hS7.2.1) (t8.cell hS7.2.2))
    refine hK.out _ _ (fun _ => hS8) ?_
    clear hK
    try simp only [Act.put, List.setIfInBounds_toArray, List.set_cons_zero, List.set_cons_succ]
    refine wpL_take (i := 16) (v := .bool true) (some 77) rfl rfl (by kernel_rfl) (by kernel_rfl) (by kernel_rfl) (by kernel_rfl) (by kernel_rfl) (by decide) (fun _ _ _ h => h) (Or.inl ⟨by rfl, fun w' hS => by obtain ⟨hs1, hs2, hs3⟩ := hS; go_simp⟩) hS8 ?_
    try simp only [Act.put, List.setIfInBounds_toArray, List.set_cons_zero, List.set_cons_succ]
    refine wpL_take (i := 17) (v := .bool true) (some 78) rfl rfl (by kernel_rfl) (by kernel_rfl) (by kernel_rfl) (by kernel_rfl) (by kernel_rfl) (by decide) (fun _ _ _ h => h) (Or.inl ⟨by rfl, fun w' hS => by obtain ⟨hs1, hs2, hs3⟩ := hS; go_simp⟩) hS8 ?_
    try simp only [Act.put, List.setIfInBounds_toArray, List.set_cons_zero, List.set_cons_succ]
    refine wpL_ready (rs := [18]) (by kernel_rfl) (by simp) (AllL.cons (o := { dst := some 6, op := Op.assign (Operand.tmp 78), type := 4, pos := "law.go:70", after := #[{ on := 17, ground := Ground.data }, { on := 15, ground := Ground.chain }, { on := 0, ground := Ground.phase }, { on := 1, ground := Ground.phase }, { on := 2, ground := Ground.phase }, { on := 3, ground := Ground.phase }, { on := 4, ground := Ground.phase }, { on := 5, ground := Ground.phase }, { on := 6, ground := Ground.phase }, { on := 7, ground := Ground.phase }, { on := 8, ground := Ground.phase }, { on := 9, ground := Ground.phase }, { on := 10, ground := Ground.phase }, { on := 11, ground := Ground.phase }, { on := 12, ground := Ground.phase }, { on := 13, ground := Ground.phase }, { on := 14, ground := Ground.phase }, { on := 15, ground := Ground.phase }, { on := 16, ground := Ground.phase }, { on := 17, ground := Ground.phase }], guard := none }) rfl (fun K' hK => ?_) AllL.nil)
    rw [if_pos (by rfl)]
    go_simp
    refine hK.out _ _ (fun h => by cases (show true = false from h)) ?_
    clear hK
    try simp only [Act.put, List.setIfInBounds_toArray, List.set_cons_zero, List.set_cons_succ]
    refine wpL_done (by kernel_rfl) ?_ _
    go_wp2
    go_ret
    exact ⟨rfl, T8.out⟩
end Go.Proofs.Ytaioegefoiabhaa
