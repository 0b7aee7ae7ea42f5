/- The walk of the law ClockPlays: whatever is armed, stopped and waited for in whatever order; the list of acts is within the form's reach. -/
import Derived.Test.YtaioegefoiabhaaPly
import Derived.Test.YtaioegefoiabhaaOpn
namespace Go.Proofs.Ytaioegefoiabhaa
open Go.RowKit Go.Maps Go.ChangeMaps
set_option linter.unusedVariables false
set_option linter.unusedSimpArgs false
/-- The loop's claim: n acts are done. -/
def PlR (w wr : World) (c o bm n : Nat) : Prop := ∃ s a k m, Pl w wr c o bm s (.slice a k m) ∧ s.last ≤ (n : Int)
set_option maxHeartbeats 4000000 in
set_option maxRecDepth 100000 in
theorem law3 (w : World) (xs : List Act) (v : Value) (hv : SlA w v xs) (hw : ∀ x ∈ xs, WfA x) (hL : xs.length ≤ 5864062014635) : Calls Try.prog 3 #[v] w fun e w' => e = .returned (.bool true) ∧ Touch [] w w' := by
  obtain ⟨av, cv, rfl⟩ : ∃ av cv, v = .slice av xs.length cv := by
    rcases hv with ⟨rfl, a, c, rfl⟩ | ⟨b, off, cap, rfl, _⟩
    · exact ⟨a, c, rfl⟩
    · exact ⟨_, _, rfl⟩
  have HRow : Hid (xs.length = 0 ∨ ∃ b off, av = some ⟨b, off, none⟩ ∧ RowA w b off xs) := by
    rcases hv with ⟨rfl, _⟩ | ⟨b, off, cap, e, r⟩
    · exact Or.inl rfl
    · injection e with e1 e2 e3
      exact Or.inr ⟨b, off, e1, r⟩
  have HWf := hid hw
  have HN : Hid (∀ w1, Calls Try.prog 7 #[] w1 fun e w' => NwQ e w1 w' ⟨0, 0, []⟩) := fun w1 => new7 w1
  clear hv hw
  obtain ⟨A, hA⟩ : ∃ A, A = xs.length := ⟨_, rfl⟩
  have HAx := hid hA
  rw [← hA] at HRow hL ⊢
  clear hA
  have zA : (A : Int) ≤ 5864062014635 := by omega
  go_enter Try.func3, Try.ntmps3
  go_wp2_with (first
    | (go_at_call 7; refine (HN.out _).mono ?_; first | (rintro e w2 ⟨o, G, rfl, k2, t2, n2⟩; have H2 := hid (P2.make H1.out.1 H1.out.2.1 H1.out.2.2 k2 t2 n2); clear k2 t2 n2 H1) | (rintro e w1 ⟨c, F, rfl, k1, t1, n1⟩; have H1 := hid (And.intro k1 (And.intro t1 n1)); clear k1 t1 n1))
    | (go_at_call 8; refine (awake8 _).mono ?_; rintro e w3 ⟨rfl, t3⟩; have H3 := hid (Pl.make (H2.out.quiet t3)); clear t3 H2))
  obtain ⟨bm, hbm⟩ : ∃ bm, bm = w3.heap.size := ⟨_, rfl⟩
  rw [← hbm] at H3 ⊢
  clear hbm HN
  go_loopw [3, 6] (fun s3 s6 wr => ∃ (cc n : Nat), s3 = .pointer (some ⟨cc, 0, none⟩) ∧ s6 = .int .i64 (n : Int) ∧ n ≤ A ∧ Hid (PlR w wr cc o bm n)) (fun _ i _ => A - (intOf i).toNat)
  case atStart => exact ⟨c, 0, rfl, rfl, Nat.zero_le _, ⟨0, 0, []⟩, none, 0, 0, H3.out, by decide⟩
  case round =>
    clear H3
    obtain ⟨cc, n, rfl, rfl, hn, HR⟩ := hrel
    by_cases hlt : n < A
    · have zn : (n : Int) < (A : Int) := by omega
      obtain ⟨s, a, k, m, hp, hl⟩ := HR.out
      obtain ⟨b, off, rfl, hrow⟩ : ∃ b off, av = some ⟨b, off, none⟩ ∧ RowA w b off xs := by
        rcases HRow.out with e | e
        · omega
        · exact e
      have hnx : n < xs.length := by have := HAx.out; omega
      have HRw : Hid (∀ w', Touch [] w w' → w'.cell? ⟨b, off + n * 3, none⟩ = some (.int .i64 xs[n].kd) ∧ w'.cell? ⟨b, off + n * 3 + 1, none⟩ = some (.int .i64 xs[n].it) ∧ w'.cell? ⟨b, off + n * 3 + 2, none⟩ = some (.int .i64 xs[n].at_)) := fun w' t => ⟨(hrow.keep t).c0 n hnx, (hrow.keep t).c1 n hnx, (hrow.keep t).c2 n hnx⟩
      obtain ⟨wf0, wf1, wf2⟩ := HWf.out xs[n] (List.getElem_mem hnx)
      obtain ⟨r0, r1, r2⟩ := HRw.out wr hp.to
      have HP := hid hp
      have HB := hid hp.bm
      have HWx := hid (And.intro wf1 wf2)
      have hll : s.last < 4611686018427387904 := by omega
      have HLL := hid (And.intro hll hl)
      clear hp hrow wf0 wf1 wf2 hll hl HR
      generalize xs[n] = ac at *
      clear hnx
      by_cases h5 : ac.kd = 5
      · have b5 : (ac.kd == 5) = true := by simp [h5]
        have HC : Hid (Calls Try.prog 9 #[.pointer (some ⟨cc, 0, none⟩)] wr fun e w' => ClE e w w' cc o bm s (.slice a k m)) := HP.out.clone
        clear h5
        go_wp2_with (first
          | (go_at_call 9; refine HC.out.mono ?_; rintro e w4 ⟨d, rfl, p4⟩; have H4 := hid p4; clear p4)
          | (go_at_call 10; refine (H4.out.arm HLL.out.1 4611686018427387904).mono ?_; rintro e w5 ⟨⟨n5, m5, rfl⟩, p5⟩; have H5 := hid p5; clear p5)
          | (go_at_call 11; refine (H5.out.adv 1 (W64.mk (by decide) (by decide))).mono ?_; rintro e w6 ⟨⟨a6, n6, m6, x6, rfl⟩, p6⟩; have H6 := hid p6; clear p6))
        go_roundw
        case rel => exact ⟨d, n + 1, rfl, by go_num, by omega, s, a, k, m, H6.out, by have := HLL.out.2; omega⟩
        case measure => simp [intOf]; omega
      · have b5 : (ac.kd == 5) = false := by simp [h5]
        have HO : Hid (∀ w1, Pl w w1 cc o bm s (.slice a k m) → Calls Try.prog 12 #[.pointer (some ⟨cc, 0, none⟩), .agg #[.int .i64 s.now, .slice a k m, .int .i64 s.last], .agg #[.int .i64 ac.kd, .int .i64 ac.it, .int .i64 ac.at_]] w1 fun e w' => PoE e w w' cc o bm s (.slice a k m)) := fun w1 h1 => h1.one HLL.out.1 ac.kd ac.it ac.at_ HWx.out.1 HWx.out.2
        have m0 := HB.out.c0
        have m1 := HB.out.c1
        have m2 := HB.out.c2
        clear h5
        go_wp2
        refine wp_region_L (S := (fun w' => (w'.cell? ⟨bm, 0, none⟩ = some (.int .i64 s.now) ∧ w'.cell? ⟨bm, 1, none⟩ = some (.slice a k m) ∧ w'.cell? ⟨bm, 2, none⟩ = some (.int .i64 s.last)) ∧ w'.cell? ⟨b, off + n * 3, none⟩ = some (.int .i64 ac.kd) ∧ w'.cell? ⟨b, off + n * 3 + 1, none⟩ = some (.int .i64 ac.it) ∧ w'.cell? ⟨b, off + n * 3 + 2, none⟩ = some (.int .i64 ac.at_))) (st := 10) (by kernel_rfl) ?_
        have hS0 := And.intro (And.intro m0 (And.intro m1 m2)) (And.intro r0 (And.intro r1 r2))
        refine wpL_take (i := 0) (v := .pointer (some ⟨cc, 0, none⟩)) (some 44) rfl rfl (by kernel_rfl) (by kernel_rfl) (by kernel_rfl) (by kernel_rfl) (by kernel_rfl) (by decide) (fun _ _ _ h => h) (Or.inl ⟨by rfl, fun w' hS => by obtain ⟨⟨hs1, hs2, hs3⟩, hs4, hs5, hs6⟩ := hS; go_simp⟩) hS0 ?_
        try simp only [Go.Act.put, List.setIfInBounds_toArray, List.set_cons_zero, List.set_cons_succ]
        refine wpL_take (i := 1) (v := .agg #[.int .i64 s.now, .slice a k m, .int .i64 s.last]) (some 45) rfl rfl (by kernel_rfl) (by kernel_rfl) (by kernel_rfl) (by kernel_rfl) (by kernel_rfl) (by decide) (fun _ _ _ h => h) (Or.inl ⟨by rfl, fun w' hS => by obtain ⟨⟨hs1, hs2, hs3⟩, hs4, hs5, hs6⟩ := hS; go_simp⟩) hS0 ?_
        try simp only [Go.Act.put, List.setIfInBounds_toArray, List.set_cons_zero, List.set_cons_succ]
        refine wpL_take (i := 2) (v := .slice (some ⟨b, off, none⟩) A cv) (some 46) rfl rfl (by kernel_rfl) (by kernel_rfl) (by kernel_rfl) (by kernel_rfl) (by kernel_rfl) (by decide) (fun _ _ _ h => h) (Or.inl ⟨by rfl, fun w' hS => by obtain ⟨⟨hs1, hs2, hs3⟩, hs4, hs5, hs6⟩ := hS; go_simp⟩) hS0 ?_
        try simp only [Go.Act.put, List.setIfInBounds_toArray, List.set_cons_zero, List.set_cons_succ]
        refine wpL_take (i := 3) (v := .int .i64 (n : Int)) (some 47) rfl rfl (by kernel_rfl) (by kernel_rfl) (by kernel_rfl) (by kernel_rfl) (by kernel_rfl) (by decide) (fun _ _ _ h => h) (Or.inl ⟨by rfl, fun w' hS => by obtain ⟨⟨hs1, hs2, hs3⟩, hs4, hs5, hs6⟩ := hS; go_simp⟩) hS0 ?_
        try simp only [Go.Act.put, List.setIfInBounds_toArray, List.set_cons_zero, List.set_cons_succ]
        refine wpL_take (i := 4) (v := .pointer (some ⟨b, off + n * 3, none⟩)) (some 48) rfl rfl (by kernel_rfl) (by kernel_rfl) (by kernel_rfl) (by kernel_rfl) (by kernel_rfl) (by decide) (fun _ _ _ h => h) (Or.inl ⟨by rfl, fun w' hS => by obtain ⟨⟨hs1, hs2, hs3⟩, hs4, hs5, hs6⟩ := hS; go_simp⟩) hS0 ?_
        try simp only [Go.Act.put, List.setIfInBounds_toArray, List.set_cons_zero, List.set_cons_succ]
        refine wpL_take (i := 5) (v := .agg #[.int .i64 ac.kd, .int .i64 ac.it, .int .i64 ac.at_]) (some 49) rfl rfl (by kernel_rfl) (by kernel_rfl) (by kernel_rfl) (by kernel_rfl) (by kernel_rfl) (by decide) (fun _ _ _ h => h) (Or.inl ⟨by rfl, fun w' hS => by obtain ⟨⟨hs1, hs2, hs3⟩, hs4, hs5, hs6⟩ := hS; go_simp⟩) hS0 ?_
        try simp only [Go.Act.put, List.setIfInBounds_toArray, List.set_cons_zero, List.set_cons_succ]
        refine wpL_ready (rs := [6]) (by kernel_rfl) (by simp) (AllL.cons (o := { dst := some 50, op := Op.call { callee := Callee.value (Operand.func 12), args := #[Operand.tmp 44, Operand.tmp 45, Operand.tmp 49], argTypes := #[23, 28, 30] }, type := 37, pos := "law.go:92", after := #[{ on := 0, ground := Ground.data }, { on := 1, ground := Ground.data }, { on := 5, ground := Ground.data }], guard := none }) rfl (fun K' hK => ?_) AllL.nil)
        rw [if_pos (by rfl)]
        go_simp
        refine (HO.out _ (HP.out.quiet (Touch.refl _ _).drew)).mono ?_
        rintro e w4 ⟨s1, a1, k1, m1', rfl, b4, t4, l4, p4⟩
        have H4 := hid (And.intro l4 p4)
        have q0 := b4.c0
        have q1 := b4.c1
        have q2 := b4.c2
        have qf := b4.fr
        have hS4 := And.intro (And.intro q0 (And.intro q1 q2)) (HRw.out w4 t4)
        clear b4 t4 l4 p4
        refine hK.out _ _ (fun _ => hS4) ?_
        clear hK
        try simp only [Go.Act.put, List.setIfInBounds_toArray, List.set_cons_zero, List.set_cons_succ]
        refine wpL_take (i := 7) (v := .tuple #[.agg #[.int .i64 s1.now, .slice a1 k1 m1', .int .i64 s1.last], .bool true]) (some 43) rfl rfl (by kernel_rfl) (by kernel_rfl) (by kernel_rfl) (by kernel_rfl) (by kernel_rfl) (by decide) (fun _ _ _ h => h) (Or.inl ⟨by rfl, fun w' hS => by obtain ⟨⟨hs1, hs2, hs3⟩, hs4, hs5, hs6⟩ := hS; go_simp⟩) hS4 ?_
        try simp only [Go.Act.put, List.setIfInBounds_toArray, List.set_cons_zero, List.set_cons_succ]
        refine wpL_take (i := 8) (v := .agg #[.int .i64 s1.now, .slice a1 k1 m1', .int .i64 s1.last]) (some 51) rfl rfl (by kernel_rfl) (by kernel_rfl) (by kernel_rfl) (by kernel_rfl) (by kernel_rfl) (by decide) (fun _ _ _ h => h) (Or.inl ⟨by rfl, fun w' hS => by obtain ⟨⟨hs1, hs2, hs3⟩, hs4, hs5, hs6⟩ := hS; go_simp⟩) hS4 ?_
        try simp only [Go.Act.put, List.setIfInBounds_toArray, List.set_cons_zero, List.set_cons_succ]
        refine wpL_takeY (i := 9) (v := .bool true) (some 52) rfl rfl (by kernel_rfl) (by kernel_rfl) (by kernel_rfl) (by decide) (fun _ _ _ h => h) (Or.inl ⟨by rfl, fun w' _ => by go_simp⟩) (fun _ => hS4) ?_
        try simp only [Go.Act.put, List.setIfInBounds_toArray, List.set_cons_zero, List.set_cons_succ]
        refine wpL_ready (rs := [10]) (by kernel_rfl) (by simp) (AllL.cons (o := { dst := none, op := Op.store 28 (Operand.tmp 5) (Operand.tmp 51), type := 0, pos := "law.go:92", after := #[{ on := 8, ground := Ground.data }, { on := 6, ground := Ground.chain }, { on := 0, ground := Ground.phase }, { on := 1, ground := Ground.phase }, { on := 2, ground := Ground.phase }, { on := 3, ground := Ground.phase }, { on := 4, ground := Ground.phase }, { on := 5, ground := Ground.phase }, { on := 6, ground := Ground.phase }, { on := 7, ground := Ground.phase }, { on := 8, ground := Ground.phase }, { on := 9, ground := Ground.textOnly Departure.lateStores }], guard := none }) rfl (fun K' hK => ?_) AllL.nil)
        rw [if_pos (by rfl)]
        go_simp
        refine hK.out _ _ (fun h => by cases (show true = false from h)) ?_
        clear hK
        try simp only [Go.Act.put, List.setIfInBounds_toArray, List.set_cons_zero, List.set_cons_succ]
        refine wpL_takeY (i := 11) (v := .bool true) (some 8) rfl rfl (by kernel_rfl) (by kernel_rfl) (by kernel_rfl) (by decide) (fun _ _ _ h => h) (Or.inl ⟨by rfl, fun w' _ => by go_simp⟩) (fun h => by cases (show true = false from h)) ?_
        try simp only [Go.Act.put, List.setIfInBounds_toArray, List.set_cons_zero, List.set_cons_succ]
        refine wpL_done (by kernel_rfl) ?_ _
        clear m0 m1 m2 q0 q1 q2 qf hS0 hS4 HB HP HO r0 r1 r2
        obtain ⟨W, hW⟩ : ∃ W, W = ((w4.setCell ⟨bm, 0, none⟩ (.int .i64 s1.now)).setCell ⟨bm, 1, none⟩ (.slice a1 k1 m1')).setCell ⟨bm, 2, none⟩ (.int .i64 s1.last) := ⟨_, rfl⟩
        rw [← hW] at H4 ⊢
        clear hW
        have HB9 := hid H4.out.2.bm
        have n0 := HB9.out.c0
        have n1 := HB9.out.c1
        have n2 := HB9.out.c2
        have x1 := (HRw.out W H4.out.2.to).2.1
        have HSy : Hid (∀ w1, Touch [] W w1 → Calls Try.prog 13 #[.pointer (some ⟨cc, 0, none⟩), .agg #[.int .i64 s1.now, .slice a1 k1 m1', .int .i64 s1.last], .int .i64 ac.it] w1 fun e w' => e = .returned (.bool true) ∧ Touch [] w1 w') := fun w1 t1 => (H4.out.2.quiet t1).says ac.it HWx.out.1
        go_wp2
        have y0 : ∀ w', Touch [] W w' → w'.cell? ⟨bm, 0, none⟩ = some (.int .i64 s1.now) := fun w' t => t.cell n0
        have y1 : ∀ w', Touch [] W w' → w'.cell? ⟨bm, 1, none⟩ = some (.slice a1 k1 m1') := fun w' t => t.cell n1
        have y2 : ∀ w', Touch [] W w' → w'.cell? ⟨bm, 2, none⟩ = some (.int .i64 s1.last) := fun w' t => t.cell n2
        have y3 : ∀ w', Touch [] W w' → w'.cell? ⟨b, off + n * 3 + 1, none⟩ = some (.int .i64 ac.it) := fun w' t => t.cell x1
        go_region_held3 (fun w' => Touch [] W w') (first | assumption | exact (Touch.refl _ _).drew | exact Touch.refl _ _ | exact Touch.drew (by assumption))
          (first | (go_at_call 13; refine (HSy.out _ (by assumption)).mono ?_; rintro e w5 ⟨rfl, t5⟩; have T5 : Touch [] W w5 := Touch.trans' (by assumption) t5; have H5 := hid (H4.out.2.quiet T5); clear t5))
        all_goals
          clear y0 y1 y2 y3 n0 n1 n2 x1
          go_wp2
          go_roundw
          case rel => exact ⟨cc, n + 1, rfl, by go_num, by omega, s1, a1, k1, m1', H5.out, by have := HLL.out.2; have := H4.out.1; omega⟩
          case measure => simp [intOf]; omega
    · have zn : ¬ (n : Int) < (A : Int) := by omega
      obtain ⟨s, a, k, m, hp, hl⟩ := HR.out
      have HP := hid hp
      have m0 := hp.bm.c0
      have m1 := hp.bm.c1
      have m2 := hp.bm.c2
      have HSy : Hid (Calls Try.prog 13 #[.pointer (some ⟨cc, 0, none⟩), .agg #[.int .i64 s.now, .slice a k m, .int .i64 s.last], .int .i64 1] wr fun e w' => e = .returned (.bool true) ∧ Touch [] wr w') := hp.says 1 (W64.mk (by decide) (by decide))
      clear hp hl HR HRow
      go_wp2_with (first
        | (go_at_call 13; refine HSy.out.mono ?_; rintro e w5 ⟨rfl, t5⟩; have H5 := hid (HP.out.quiet t5); clear t5)
        | (go_at_call 14; refine (H5.out.other.1).mono ?_; rintro e w6 ⟨rfl, rfl⟩)
        | (go_at_call 15; refine (H5.out.other.2).mono ?_; rintro e w7 ⟨a7, m7, rfl, r7, t7⟩; have T7 := hid (H5.out.to.trans' t7); clear r7 t7))
      go_ret
      exact ⟨rfl, T7.out⟩
end Go.Proofs.Ytaioegefoiabhaa
