/- The contract of the document's text of a failure; the condition is that its numbers are of 64 bits. -/
import Derived.Test.YtifhfdndbnmhlaaDoorNum
import Derived.Deep.RegionWith
namespace Go.Proofs.YtifhfdndbnmhlaaDoor
open Go.RowKit Go.Sort
set_option linter.unusedVariables false
set_option linter.unusedSimpArgs false

theorem eql26 (k c r : Int) (w : World) : (binOp .eql 26 (fl k c r) (fl 0 0 0)).run Tryd.prog w = .ok (.bool (none3 k c r)) w := by
  by_cases h1 : k = 0
  · by_cases h2 : c = 0
    · by_cases h3 : r = 0
      · go_simp
        simp [none3, h1, h2, h3]
      · go_simp
        simp [none3, h3]
    · go_simp
      simp [none3, h2]
  · go_simp
    simp [none3, h1]
set_option maxRecDepth 100000 in
set_option maxHeartbeats 2000000 in
theorem rtext19_of (k c r : Int) (wd : ByteArray) (hwd : wd = wordB k) (hk : I64 k) (hc : I64 c) (hr : I64 r) (w : World) (hn : none3 k c r = false) (hcase : (k = 1 ∧ wd = wLoad) ∨ (k = 2 ∧ wd = wPanic) ∨ (k = 3 ∧ wd = wCancel) ∨ (k = 4 ∧ wd = wBusy) ∨ (k = 5 ∧ wd = wAbort) ∨ (k ≠ 1 ∧ k ≠ 2 ∧ k ≠ 3 ∧ k ≠ 4 ∧ k ≠ 5 ∧ wd = wKind ++ itoaB k)) :
    Calls Tryd.prog 19 #[fl k c r] w fun e w' => e = .returned (.string (wd ++ sp ++ itoaB c ++ sp ++ itoaB r)) ∧ Gr w w' := by
  have mixed := mixed
  have heq := eql26 k c r
  rw [hn] at heq
  have z0 := itoaB_size k hk
  have z1 : wd.size ≤ 25 := by rw [hwd]; exact wordB_size k hk
  have z2 := itoaB_size c hc
  have z3 := itoaB_size r hr
  have zs : sp.size = 1 := rfl
  have e0 : ∀ w, (Op.stringOp .add wKind (itoaB k)).run Tryd.prog w = .ok (.string (wKind ++ itoaB k)) w := fun w => run_string_add_sum w _ _ (by have : wKind.size = 4 := rfl; omega)
  have e1 : ∀ w, (Op.stringOp .add wd sp).run Tryd.prog w = .ok (.string (wd ++ sp)) w := fun w => run_string_add_sum w _ _ (by omega)
  have e2 : ∀ w, (Op.stringOp .add (wd ++ sp) (itoaB c)).run Tryd.prog w = .ok (.string (wd ++ sp ++ itoaB c)) w := fun w => run_string_add_sum w _ _ (by rw [ByteArray.size_append]; omega)
  have e3 : ∀ w, (Op.stringOp .add (wd ++ sp ++ itoaB c) sp).run Tryd.prog w = .ok (.string (wd ++ sp ++ itoaB c ++ sp)) w := fun w => run_string_add_sum w _ _ (by rw [ByteArray.size_append, ByteArray.size_append]; omega)
  have e4 : ∀ w, (Op.stringOp .add (wd ++ sp ++ itoaB c ++ sp) (itoaB r)).run Tryd.prog w = .ok (.string (wd ++ sp ++ itoaB c ++ sp ++ itoaB r)) w := fun w => run_string_add_sum w _ _ (by rw [ByteArray.size_append, ByteArray.size_append, ByteArray.size_append]; omega)
  have HK : Hid (I64 k) := hk
  have HC : Hid (I64 c) := hc
  have HR : Hid (I64 r) := hr
  have wk : IntKind.i64.wrap k = k := by have := hk.1; have := hk.2; rw [IntKind.wrap_i64]; omega
  have wc : IntKind.i64.wrap c = c := by have := hc.1; have := hc.2; rw [IntKind.wrap_i64]; omega
  have wr : IntKind.i64.wrap r = r := by have := hr.1; have := hr.2; rw [IntKind.wrap_i64]; omega
  clear hk hc hr z0 z1 z2 z3 zs hwd
  rcases hcase with ⟨rfl, rfl⟩ | ⟨rfl, rfl⟩ | ⟨rfl, rfl⟩ | ⟨rfl, rfl⟩ | ⟨rfl, rfl⟩ | ⟨h1, h2, h3, h4, h5, rfl⟩
  · go_enter Tryd.func19, Tryd.ntmps19
    go_wp2_with (go_at_call 36; refine (num36 1 _ HK.out).mono ?_; rintro e w1 ⟨rfl, hg⟩; have G : Hid (Gr w w1) := ((Gr.refl w).alloc _).trans hg; have c0 := hg.cell' (a := ⟨w.heap.size, 0, none⟩) (v := .int .i64 1) (by simp); have c1 := hg.cell' (a := ⟨w.heap.size, 1, none⟩) (v := .int .i64 c) (by simp); have c2 := hg.cell' (a := ⟨w.heap.size, 2, none⟩) (v := .int .i64 r) (by simp); clear hg)
    have k1 := cell_regrown c1
    have k2 := cell_regrown c2
    refine wp_region_quiet_below (by assumption) (by kernel_rfl) ?_
    repeat (quiet_step (first
      | (go_at_call_of 36 (Value.int IntKind.i64 c); exact Calls.regrown_of (num36 c _ HC.out))
      | (go_at_call 36; exact Calls.regrown_of (num36 r _ HR.out))))
    refine wpQuiet_nil ?_
    intro _ hw'
    obtain ⟨⟨dq, osq⟩, hw''⟩ := hw'
    subst hw''
    go_wp2
    go_ret
    exact ⟨rfl, G.out.re _ _⟩
  · go_enter Tryd.func19, Tryd.ntmps19
    go_wp2_with (go_at_call 36; refine (num36 2 _ HK.out).mono ?_; rintro e w1 ⟨rfl, hg⟩; have G : Hid (Gr w w1) := ((Gr.refl w).alloc _).trans hg; have c0 := hg.cell' (a := ⟨w.heap.size, 0, none⟩) (v := .int .i64 2) (by simp); have c1 := hg.cell' (a := ⟨w.heap.size, 1, none⟩) (v := .int .i64 c) (by simp); have c2 := hg.cell' (a := ⟨w.heap.size, 2, none⟩) (v := .int .i64 r) (by simp); clear hg)
    have k1 := cell_regrown c1
    have k2 := cell_regrown c2
    refine wp_region_quiet_below (by assumption) (by kernel_rfl) ?_
    repeat (quiet_step (first
      | (go_at_call_of 36 (Value.int IntKind.i64 c); exact Calls.regrown_of (num36 c _ HC.out))
      | (go_at_call 36; exact Calls.regrown_of (num36 r _ HR.out))))
    refine wpQuiet_nil ?_
    intro _ hw'
    obtain ⟨⟨dq, osq⟩, hw''⟩ := hw'
    subst hw''
    go_wp2
    go_ret
    exact ⟨rfl, G.out.re _ _⟩
  · go_enter Tryd.func19, Tryd.ntmps19
    go_wp2_with (go_at_call 36; refine (num36 3 _ HK.out).mono ?_; rintro e w1 ⟨rfl, hg⟩; have G : Hid (Gr w w1) := ((Gr.refl w).alloc _).trans hg; have c0 := hg.cell' (a := ⟨w.heap.size, 0, none⟩) (v := .int .i64 3) (by simp); have c1 := hg.cell' (a := ⟨w.heap.size, 1, none⟩) (v := .int .i64 c) (by simp); have c2 := hg.cell' (a := ⟨w.heap.size, 2, none⟩) (v := .int .i64 r) (by simp); clear hg)
    have k1 := cell_regrown c1
    have k2 := cell_regrown c2
    refine wp_region_quiet_below (by assumption) (by kernel_rfl) ?_
    repeat (quiet_step (first
      | (go_at_call_of 36 (Value.int IntKind.i64 c); exact Calls.regrown_of (num36 c _ HC.out))
      | (go_at_call 36; exact Calls.regrown_of (num36 r _ HR.out))))
    refine wpQuiet_nil ?_
    intro _ hw'
    obtain ⟨⟨dq, osq⟩, hw''⟩ := hw'
    subst hw''
    go_wp2
    go_ret
    exact ⟨rfl, G.out.re _ _⟩
  · go_enter Tryd.func19, Tryd.ntmps19
    go_wp2_with (go_at_call 36; refine (num36 4 _ HK.out).mono ?_; rintro e w1 ⟨rfl, hg⟩; have G : Hid (Gr w w1) := ((Gr.refl w).alloc _).trans hg; have c0 := hg.cell' (a := ⟨w.heap.size, 0, none⟩) (v := .int .i64 4) (by simp); have c1 := hg.cell' (a := ⟨w.heap.size, 1, none⟩) (v := .int .i64 c) (by simp); have c2 := hg.cell' (a := ⟨w.heap.size, 2, none⟩) (v := .int .i64 r) (by simp); clear hg)
    have k1 := cell_regrown c1
    have k2 := cell_regrown c2
    refine wp_region_quiet_below (by assumption) (by kernel_rfl) ?_
    repeat (quiet_step (first
      | (go_at_call_of 36 (Value.int IntKind.i64 c); exact Calls.regrown_of (num36 c _ HC.out))
      | (go_at_call 36; exact Calls.regrown_of (num36 r _ HR.out))))
    refine wpQuiet_nil ?_
    intro _ hw'
    obtain ⟨⟨dq, osq⟩, hw''⟩ := hw'
    subst hw''
    go_wp2
    go_ret
    exact ⟨rfl, G.out.re _ _⟩
  · go_enter Tryd.func19, Tryd.ntmps19
    go_wp2_with (go_at_call 36; refine (num36 5 _ HK.out).mono ?_; rintro e w1 ⟨rfl, hg⟩; have G : Hid (Gr w w1) := ((Gr.refl w).alloc _).trans hg; have c0 := hg.cell' (a := ⟨w.heap.size, 0, none⟩) (v := .int .i64 5) (by simp); have c1 := hg.cell' (a := ⟨w.heap.size, 1, none⟩) (v := .int .i64 c) (by simp); have c2 := hg.cell' (a := ⟨w.heap.size, 2, none⟩) (v := .int .i64 r) (by simp); clear hg)
    have k1 := cell_regrown c1
    have k2 := cell_regrown c2
    refine wp_region_quiet_below (by assumption) (by kernel_rfl) ?_
    repeat (quiet_step (first
      | (go_at_call_of 36 (Value.int IntKind.i64 c); exact Calls.regrown_of (num36 c _ HC.out))
      | (go_at_call 36; exact Calls.regrown_of (num36 r _ HR.out))))
    refine wpQuiet_nil ?_
    intro _ hw'
    obtain ⟨⟨dq, osq⟩, hw''⟩ := hw'
    subst hw''
    go_wp2
    go_ret
    exact ⟨rfl, G.out.re _ _⟩
  · go_enter Tryd.func19, Tryd.ntmps19
    go_wp2_with (go_at_call 36; refine (num36 k _ HK.out).mono ?_; rintro e w1 ⟨rfl, hg⟩; have G : Hid (Gr w w1) := ((Gr.refl w).alloc _).trans hg; have c0 := hg.cell' (a := ⟨w.heap.size, 0, none⟩) (v := .int .i64 k) (by simp); have c1 := hg.cell' (a := ⟨w.heap.size, 1, none⟩) (v := .int .i64 c) (by simp); have c2 := hg.cell' (a := ⟨w.heap.size, 2, none⟩) (v := .int .i64 r) (by simp); clear hg)
    have k1 := cell_regrown c1
    have k2 := cell_regrown c2
    refine wp_region_quiet_below (by assumption) (by kernel_rfl) ?_
    repeat (quiet_step (first
      | (go_at_call_of 36 (Value.int IntKind.i64 c); exact Calls.regrown_of (num36 c _ HC.out))
      | (go_at_call 36; exact Calls.regrown_of (num36 r _ HR.out))))
    refine wpQuiet_nil ?_
    intro _ hw'
    obtain ⟨⟨dq, osq⟩, hw''⟩ := hw'
    subst hw''
    go_wp2
    go_ret
    exact ⟨rfl, G.out.re _ _⟩
theorem rtext19 (k c r : Int) (hk : I64 k) (hc : I64 c) (hr : I64 r) (w : World) : Calls Tryd.prog 19 #[fl k c r] w fun e w' => e = .returned (.string (textB k c r)) ∧ Gr w w' := by
  cases hn : none3 k c r with
  | true =>
    have hv : textB k c r = wNone := by simp [textB, hn]
    have heq := eql26 k c r
    rw [hn] at heq
    rw [hv]
    go_enter Tryd.func19, Tryd.ntmps19
    go_wp2
    go_ret
    exact ⟨rfl, (Gr.refl w).alloc _⟩
  | false =>
    have hv : textB k c r = wordB k ++ sp ++ itoaB c ++ sp ++ itoaB r := by simp [textB, hn]
    rw [hv]
    refine rtext19_of k c r (wordB k) rfl hk hc hr w hn ?_
    by_cases h1 : k = 1
    · exact Or.inl ⟨h1, by simp [wordB, h1]⟩
    by_cases h2 : k = 2
    · exact Or.inr (Or.inl ⟨h2, by simp [wordB, h2]⟩)
    by_cases h3 : k = 3
    · exact Or.inr (Or.inr (Or.inl ⟨h3, by simp [wordB, h3]⟩))
    by_cases h4 : k = 4
    · exact Or.inr (Or.inr (Or.inr (Or.inl ⟨h4, by simp [wordB, h4]⟩)))
    by_cases h5 : k = 5
    · exact Or.inr (Or.inr (Or.inr (Or.inr (Or.inl ⟨h5, by simp [wordB, h5]⟩))))
    exact Or.inr (Or.inr (Or.inr (Or.inr (Or.inr ⟨h1, h2, h3, h4, h5, by simp [wordB, h1, h2, h3, h4, h5]⟩))))
end Go.Proofs.YtifhfdndbnmhlaaDoor
