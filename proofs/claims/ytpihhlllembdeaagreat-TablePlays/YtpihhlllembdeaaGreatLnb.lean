/- The contract of a line's add. -/
import Derived.Test.YtpihhlllembdeaaGreatLna
import Derived.Test.YtpihhlllembdeaaGreatHlg
namespace Go.Proofs.YtpihhlllembdeaaGreat
open Go.RowKit Go.Maps Go.ChangeMaps
set_option linter.unusedVariables false
set_option linter.unusedSimpArgs false
section
variable (w : World) (b : Nat) (R : Rn) (sl : Value) (m : Option Nat) (cs : List Int) (k c e : Bool) (o : O)
set_option maxHeartbeats 4000000 in
set_option maxRecDepth 100000 in
theorem add21_some (d : Nat) (h : Rl w b R k c e o sl (some d) cs) (x : Int) (hx : W64 x) (h0 : x ≠ 0) (hn : ¬ x ∈ wl cs) (hle : cs.length ≤ 3000000000000) : Calls Tryz.prog 65 #[PL b, .int .i64 x] w fun e' w' => e' = .returned (.tuple #[]) ∧ LnE w w' b R k c e o (fpR b sl (some d)) (cs ++ [x]) := by
  obtain ⟨a, cap, rfl⟩ := own_form h.ln.row
  have q63 := eq63
  have c6 := h.rc.cs.c6
  have H5 : ∀ w', Touch [] w w' → w'.cell? ⟨b, 5, none⟩ = some (.slice a cs.length cap) := fun w' T => (h.keep0 T).rc.cs.c5
  have H6 : ∀ w', Touch [] w w' → w'.cell? ⟨b, 6, none⟩ = some (.map (some d)) := fun w' T => (h.keep0 T).rc.cs.c6
  have HMP : Hid (MapAt w.drew d (wl cs).length (plv cs)) := by
    rcases h.ln.mp with ⟨q, _⟩ | ⟨d', q, hm⟩
    · cases q
    · cases q; exact hm.kept rfl
  have HNM : Hid ((wl cs).length < maxLen) := by have := wl_len cs; unfold maxLen; exact hid (by omega)
  unfold PL
  have HLE := hid hle
  have HH := hid h
  clear hle h
  go_enter Tryz.func65, Tryz.ntmps65
  go_upto_region 2 with fail
  have s0 : Touch [] w w.drew := (Touch.refl _ _).drew
  refine wp_region_L (S := fun w' => Touch [] w w') (st := 10) (by kernel_rfl) ?_
  refine wpL_take (i := 0) (v := (.pointer (some ⟨b, 5, none⟩))) (some 13) rfl rfl (by kernel_rfl) (by kernel_rfl) (by kernel_rfl) (by kernel_rfl) (by kernel_rfl) (by decide) (fun _ _ _ h => h) (Or.inl ⟨by rfl, fun w' hS => (by go_simp)⟩) s0 ?_
  try simp only [Go.Act.put, List.setIfInBounds_toArray, List.set_cons_zero, List.set_cons_succ]
  refine wpL_take (i := 1) (v := (.pointer (some ⟨b, 5, none⟩))) (some 14) rfl rfl (by kernel_rfl) (by kernel_rfl) (by kernel_rfl) (by kernel_rfl) (by kernel_rfl) (by decide) (fun _ _ _ h => h) (Or.inl ⟨by rfl, fun w' hS => (by go_simp)⟩) s0 ?_
  try simp only [Go.Act.put, List.setIfInBounds_toArray, List.set_cons_zero, List.set_cons_succ]
  refine wpL_take (i := 2) (v := (.pointer (some ⟨b, 6, none⟩))) (some 15) rfl rfl (by kernel_rfl) (by kernel_rfl) (by kernel_rfl) (by kernel_rfl) (by kernel_rfl) (by decide) (fun _ _ _ h => h) (Or.inl ⟨by rfl, fun w' hS => (by go_simp)⟩) s0 ?_
  try simp only [Go.Act.put, List.setIfInBounds_toArray, List.set_cons_zero, List.set_cons_succ]
  refine wpL_take (i := 3) (v := (.map (some d))) (some 16) rfl rfl (by kernel_rfl) (by kernel_rfl) (by kernel_rfl) (by kernel_rfl) (by kernel_rfl) (by decide) (fun _ _ _ h => h) (Or.inl ⟨by rfl, fun w' hS => (by have z0 := H6 _ hS; go_simp)⟩) s0 ?_
  try simp only [Go.Act.put, List.setIfInBounds_toArray, List.set_cons_zero, List.set_cons_succ]
  refine wpL_take (i := 4) (v := (.int .i64 x)) (some 17) rfl rfl (by kernel_rfl) (by kernel_rfl) (by kernel_rfl) (by kernel_rfl) (by kernel_rfl) (by decide) (fun _ _ _ h => h) (Or.inl ⟨by rfl, fun w' hS => (by go_simp)⟩) s0 ?_
  try simp only [Go.Act.put, List.setIfInBounds_toArray, List.set_cons_zero, List.set_cons_succ]
  refine wpL_take (i := 5) (v := (.pointer (some ⟨b, 5, none⟩))) (some 18) rfl rfl (by kernel_rfl) (by kernel_rfl) (by kernel_rfl) (by kernel_rfl) (by kernel_rfl) (by decide) (fun _ _ _ h => h) (Or.inl ⟨by rfl, fun w' hS => (by go_simp)⟩) s0 ?_
  try simp only [Go.Act.put, List.setIfInBounds_toArray, List.set_cons_zero, List.set_cons_succ]
  refine wpL_take (i := 6) (v := (.pointer (some ⟨b, 5, none⟩))) (some 19) rfl rfl (by kernel_rfl) (by kernel_rfl) (by kernel_rfl) (by kernel_rfl) (by kernel_rfl) (by decide) (fun _ _ _ h => h) (Or.inl ⟨by rfl, fun w' hS => (by go_simp)⟩) s0 ?_
  try simp only [Go.Act.put, List.setIfInBounds_toArray, List.set_cons_zero, List.set_cons_succ]
  refine wpL_take (i := 7) (v := (.pointer (some ⟨b, 5, none⟩))) (some 20) rfl rfl (by kernel_rfl) (by kernel_rfl) (by kernel_rfl) (by kernel_rfl) (by kernel_rfl) (by decide) (fun _ _ _ h => h) (Or.inl ⟨by rfl, fun w' hS => (by go_simp)⟩) s0 ?_
  try simp only [Go.Act.put, List.setIfInBounds_toArray, List.set_cons_zero, List.set_cons_succ]
  refine wpL_take (i := 8) (v := (.slice a cs.length cap)) (some 21) rfl rfl (by kernel_rfl) (by kernel_rfl) (by kernel_rfl) (by kernel_rfl) (by kernel_rfl) (by decide) (fun _ _ _ h => h) (Or.inl ⟨by rfl, fun w' hS => (by have z0 := H5 _ hS; go_simp)⟩) s0 ?_
  try simp only [Go.Act.put, List.setIfInBounds_toArray, List.set_cons_zero, List.set_cons_succ]
  refine wpL_take (i := 9) (v := (.int .i64 (cs.length : Nat))) (some 22) rfl rfl (by kernel_rfl) (by kernel_rfl) (by kernel_rfl) (by kernel_rfl) (by kernel_rfl) (by decide) (fun _ _ _ h => h) (Or.inl ⟨by rfl, fun w' hS => (by go_simp)⟩) s0 ?_
  try simp only [Go.Act.put, List.setIfInBounds_toArray, List.set_cons_zero, List.set_cons_succ]
  refine wpL_ready (rs := [10]) (by kernel_rfl) (by simp) (AllL.cons (o := { dst := none, op := Op.mapUpdate 131 (Operand.tmp 16) (Operand.tmp 17) (Operand.tmp 22), type := 0, pos := _, after := #[{ on := 3, ground := Ground.data }, { on := 4, ground := Ground.data }, { on := 9, ground := Ground.data }, { on := 0, ground := Ground.phase }, { on := 1, ground := Ground.phase }, { on := 2, ground := Ground.phase }, { on := 3, ground := Ground.phase }, { on := 4, ground := Ground.phase }, { on := 5, ground := Ground.phase }, { on := 6, ground := Ground.phase }, { on := 7, ground := Ground.phase }, { on := 8, ground := Ground.phase }, { on := 9, ground := Ground.phase }], guard := none }) rfl (fun K' hK => ?_) AllL.nil)
  rw [if_pos (by rfl)]
  go_simp
  obtain ⟨ob, hrun, hM⟩ := HMP.out.set (t := 131) Tryz.underlying131 HNM.out hx (.int .i64 (cs.length : Nat))
  simp only [hrun]
  refine hK.out _ _ (fun h => absurd h (by decide)) ?_
  clear hK
  try simp only [Go.Act.put, List.setIfInBounds_toArray, List.set_cons_zero, List.set_cons_succ]
  refine wpL_done (by kernel_rfl) ?_ _
  obtain ⟨W2, hW2⟩ : ∃ W2, W2 = setBlock w.drew d ob := ⟨_, rfl⟩
  have T2 : Touch [d] w W2 := by rw [hW2]; exact touch_setBlock (Touch.refl _ _).drew (by simp) ob
  have HD : Hid (MapAt W2 d ((wl cs).length + 1) (plv (cs ++ [x])) ∧ W2.ownsRow 0 3 1 (.slice a cs.length cap) cs.length (ints cs) ∧ Rc W2 b R (.slice a cs.length cap) (.map (some d)) k c e o) := by
    have h := HH.out
    have hr := h.ln.row
    have hrc := h.rc
    refine ⟨?_, own_touch hr T2 (fun q hq e' => ?_), hrc.keep T2 (fun e' => ?_)⟩
    · rw [← hW2] at hM
      rw [plv_none hn] at hM
      refine (show MapAt W2 d ((wl cs).length + 1) _ from hM).congr (fun q _ => ?_)
      exact plv_put h0 hn q
    · simp only [List.mem_singleton] at e'
      exact row_map h.ln.row h.ln.mp hq rfl e'
    · simp only [List.mem_singleton] at e'
      exact map_ne h.rc h.ln.mp rfl e'.symm
  clear hrun hM
  rw [← hW2]
  clear hW2 ob s0 H5 H6 c6 HMP HNM q63
  have T2' := hid T2
  clear T2
  have c5 := HD.out.2.2.cs.c5
  have hbl := HD.out.2.2.lt
  have hne : b ≠ W2.heap.size := by omega
  have HO : Hid (∀ ob, (W2.alloc ob).ownsRow 0 3 1 (.slice a cs.length cap) cs.length (ints cs)) := fun ob => by
    exact own_touch HD.out.2.1 ((Touch.refl [] _).alloc _) (fun _ _ e => by cases e)
  have HX : Hid (∀ g5 c5 w5, w5.ownsRow 0 3 1 (.slice (some ⟨g5, 0, none⟩) (cs.length + 1) c5) (cs.length + 1) (ints (cs ++ [x])) → (W2.alloc (.cells #[.int .i64 x] 3)).grownBy w5 (Value.slice a cs.length cap).ownBlock → ((Value.slice a cs.length cap).ownBlock = some g5 ∨ g5 = (W2.alloc (.cells #[.int .i64 x] 3)).heap.size) →
      (w5.cell? ⟨b, 5, none⟩ = some (.slice a cs.length cap) ∧ w5.frozen? ⟨b, 5, none⟩ = false ∧ b < w5.heap.size) ∧ LnE w (w5.setCell ⟨b, 5, none⟩ (.slice (some ⟨g5, 0, none⟩) (cs.length + 1) c5)) b R k c e o (fpR b (.slice a cs.length cap) (some d)) (cs ++ [x])) := fun g5 c5 w5 o5 r5 p5 => by
    obtain ⟨hm, hr, hrc⟩ := HD.out
    have tA : Touch ((Value.slice a cs.length cap).ownBlock.toList) W2 w5 := ((Touch.refl _ _).alloc _).grown r5 (fun q hq => Or.inl (by rw [hq]; simp))
    have hrc5 : Rc w5 b R (.slice a cs.length cap) (.map (some d)) k c e o := hrc.keep tA (fun e' => by
      simp only [Option.mem_toList] at e'
      exact row_ne hrc hr e' rfl)
    refine ⟨⟨hrc5.cs.c5, hrc5.fz 5, hrc5.lt⟩, ?_⟩
    have tB : Touch [b] w5 (w5.setCell ⟨b, 5, none⟩ (.slice (some ⟨g5, 0, none⟩) (cs.length + 1) c5)) := (Touch.refl _ _).setCell (Or.inl (by simp)) _
    have hm2 : Mp W2 (some d) (cs ++ [x]) := Or.inr ⟨d, rfl, by rw [wl_app, wl_one h0]; simpa using hm⟩
    have hm5 : Mp w5 (some d) (cs ++ [x]) := hm2.keep tA (fun q hq e' => by
      simp only [Option.mem_toList] at e'
      exact row_map hr hm2 e' hq rfl)
    refine ⟨_, some d, ⟨hrc5.set5 _, ⟨?_, hm5.keep tB (fun q hq e' => ?_), HH.out.ln.ok.put hx h0 hn⟩⟩, ?_, fun q hq => ?_⟩
    · rw [show (cs ++ [x]).length = cs.length + 1 by simp]
      refine own_touch o5 tB (fun q hq e' => ?_)
      simp only [List.mem_singleton] at e'
      exact row_ne hrc5 o5 hq e'
    · simp only [List.mem_singleton] at e'
      exact map_ne hrc5 hm5 hq e'
    · refine (((T2'.out.mono (fun q hq => ?_)).trans tA (fun q hq => ?_)).trans tB (fun q hq => ?_))
      · simp only [List.mem_singleton] at hq; exact mem_fpR.2 (Or.inr (Or.inr (by rw [hq])))
      · simp only [Option.mem_toList] at hq; exact Or.inl (mem_fpR.2 (Or.inr (Or.inl hq)))
      · simp only [List.mem_singleton] at hq; exact Or.inl (mem_fpR.2 (Or.inl hq))
    · rcases mem_fpR.1 hq with e' | e' | e'
      · exact Or.inl (mem_fpR.2 (Or.inl e'))
      · simp only [Value.ownBlock, Option.some.injEq] at e'
        subst e'
        rcases p5 with p | p
        · exact Or.inl (mem_fpR.2 (Or.inr (Or.inl p)))
        · refine Or.inr ?_
          have := T2'.out.size
          rw [p]; simp; omega
      · exact Or.inl (mem_fpR.2 (Or.inr (Or.inr e')))
  clear HD HH hx h0 hn T2'
  go_wp2_with (at_builtin; refine wpList_append_int rfl _ _ rfl 0 (.slice a cs.length cap) cs rfl (HO.out _) W2.heap.size x rfl (by simp) HLE.out (Nat.zero_le _) ?_; intro g5 c5' w5 o5 r5 p5; obtain ⟨⟨y1, y2, y3⟩, y4⟩ := HX.out _ _ _ o5 r5 p5; have Y4 := hid y4; clear o5 r5 p5 y4)
  go_end0
  exact ⟨rfl, Y4.out⟩
set_option maxHeartbeats 4000000 in
set_option maxRecDepth 100000 in
theorem add21_none (h : Rl w b R k c e o sl none cs) (x : Int) (hx : W64 x) (h0 : x ≠ 0) (hn : ¬ x ∈ wl cs) (hle : cs.length ≤ 3000000000000) : Calls Tryz.prog 65 #[PL b, .int .i64 x] w fun e' w' => e' = .returned (.tuple #[]) ∧ LnE w w' b R k c e o (fpR b sl none) (cs ++ [x]) := by
  obtain ⟨a, cap, rfl⟩ := own_form h.ln.row
  have hcs : cs = [] := by
    rcases h.ln.mp with ⟨_, q⟩ | ⟨d', q, hm⟩
    · exact q
    · cases q
  have q63 := eq63
  have hmm := @run_makeMap Tryz.prog
  have c6 := h.rc.cs.c6
  have f6 := h.rc.fz 6
  have hbl := h.rc.lt
  have hne : b ≠ w.heap.size := by omega
  obtain ⟨W1, hW1⟩ : ∃ W1, W1 = (w.setCell ⟨b, 6, none⟩ (.map (some w.heap.size))).alloc (.map #[] 0) := ⟨_, rfl⟩
  have T1 : Hid (Touch [b] w W1) := by rw [hW1]; exact ((Touch.refl _ _).setCell (Or.inl (by simp)) _).alloc _
  have HH : Hid (Rl W1 b R k c e o (.slice a cs.length cap) (some w.heap.size) cs) := by
    refine ⟨?_, own_touch h.ln.row T1.out (fun q hq e' => ?_), Or.inr ⟨_, rfl, ?_⟩, h.ln.ok⟩
    · rw [hW1]
      exact (h.rc.set6 _).keep ((Touch.refl [] _).alloc _) (by simp)
    · simp only [List.mem_singleton] at e'
      exact row_ne h.rc h.ln.row hq e'
    · rw [hW1, hcs]
      have := mapAt_made (w.setCell ⟨b, 6, none⟩ (.map (some w.heap.size)))
      have e1 : (w.setCell ⟨b, 6, none⟩ (.map (some w.heap.size))).heap.size = w.heap.size := by simp [World.setCell]
      rw [e1] at this
      exact this.congr (fun q _ => (plv_nil q).symm)
  have HSZ := hid h.rc.lt
  clear h hcs
  obtain ⟨d, hd⟩ : ∃ d, d = w.heap.size := ⟨_, rfl⟩
  have HDD := hid hd
  rw [← hd] at HH
  have HLE := hid hle
  clear hle
  unfold PL
  go_enter Tryz.func65, Tryz.ntmps65
  go_upto_region 2 with fail
  rw [← hW1, ← hd]
  clear hd hW1 c6 f6 hbl hne hmm
  have HFIN : Hid (∀ w', LnE W1 w' b R k c e o (fpR b (.slice a cs.length cap) (some d)) (cs ++ [x]) → LnE w w' b R k c e o (fpR b (.slice a cs.length cap) none) (cs ++ [x])) := fun w' ⟨sl', m', r1, r2, r3⟩ => by
    have hz := T1.out.size
    have aux : ∀ q, q ∈ fpR b (.slice a cs.length cap) (some d) → q ∈ fpR b (.slice a cs.length cap) none ∨ w.heap.size ≤ q := fun q hq => by
      rcases mem_fpR.1 hq with e' | e' | e'
      · exact Or.inl (mem_fpR.2 (Or.inl e'))
      · exact Or.inl (mem_fpR.2 (Or.inr (Or.inl e')))
      · refine Or.inr ?_
        cases e'
        rw [HDD.out]
        exact Nat.le_refl _
    refine ⟨sl', m', r1, (T1.out.mono (fun q hq => ?_)).trans r2 aux, fun q hq => ?_⟩
    · simp only [List.mem_singleton] at hq; exact mem_fpR.2 (Or.inl hq)
    · rcases r3 q hq with e' | e'
      · exact aux q e'
      · exact Or.inr (Nat.le_trans hz e')
  clear T1 HSZ HDD
  have H5 : ∀ w', Touch [] W1 w' → w'.cell? ⟨b, 5, none⟩ = some (.slice a cs.length cap) := fun w' T => (HH.out.keep0 T).rc.cs.c5
  have H6 : ∀ w', Touch [] W1 w' → w'.cell? ⟨b, 6, none⟩ = some (.map (some d)) := fun w' T => (HH.out.keep0 T).rc.cs.c6
  have HMP : Hid (MapAt W1.drew d (wl cs).length (plv cs)) := by
    rcases HH.out.ln.mp with ⟨q, _⟩ | ⟨d', q, hm⟩
    · cases q
    · cases q; exact hm.kept rfl
  have HNM : Hid ((wl cs).length < maxLen) := by have := wl_len cs; have := HLE.out; unfold maxLen; exact hid (by omega)
  have s0 : Touch [] W1 W1.drew := (Touch.refl _ _).drew
  refine wp_region_L (S := fun w' => Touch [] W1 w') (st := 10) (by kernel_rfl) ?_
  refine wpL_take (i := 0) (v := (.pointer (some ⟨b, 5, none⟩))) (some 13) rfl rfl (by kernel_rfl) (by kernel_rfl) (by kernel_rfl) (by kernel_rfl) (by kernel_rfl) (by decide) (fun _ _ _ h => h) (Or.inl ⟨by rfl, fun w' hS => (by go_simp)⟩) s0 ?_
  try simp only [Go.Act.put, List.setIfInBounds_toArray, List.set_cons_zero, List.set_cons_succ]
  refine wpL_take (i := 1) (v := (.pointer (some ⟨b, 5, none⟩))) (some 14) rfl rfl (by kernel_rfl) (by kernel_rfl) (by kernel_rfl) (by kernel_rfl) (by kernel_rfl) (by decide) (fun _ _ _ h => h) (Or.inl ⟨by rfl, fun w' hS => (by go_simp)⟩) s0 ?_
  try simp only [Go.Act.put, List.setIfInBounds_toArray, List.set_cons_zero, List.set_cons_succ]
  refine wpL_take (i := 2) (v := (.pointer (some ⟨b, 6, none⟩))) (some 15) rfl rfl (by kernel_rfl) (by kernel_rfl) (by kernel_rfl) (by kernel_rfl) (by kernel_rfl) (by decide) (fun _ _ _ h => h) (Or.inl ⟨by rfl, fun w' hS => (by go_simp)⟩) s0 ?_
  try simp only [Go.Act.put, List.setIfInBounds_toArray, List.set_cons_zero, List.set_cons_succ]
  refine wpL_take (i := 3) (v := (.map (some d))) (some 16) rfl rfl (by kernel_rfl) (by kernel_rfl) (by kernel_rfl) (by kernel_rfl) (by kernel_rfl) (by decide) (fun _ _ _ h => h) (Or.inl ⟨by rfl, fun w' hS => (by have z0 := H6 _ hS; go_simp)⟩) s0 ?_
  try simp only [Go.Act.put, List.setIfInBounds_toArray, List.set_cons_zero, List.set_cons_succ]
  refine wpL_take (i := 4) (v := (.int .i64 x)) (some 17) rfl rfl (by kernel_rfl) (by kernel_rfl) (by kernel_rfl) (by kernel_rfl) (by kernel_rfl) (by decide) (fun _ _ _ h => h) (Or.inl ⟨by rfl, fun w' hS => (by go_simp)⟩) s0 ?_
  try simp only [Go.Act.put, List.setIfInBounds_toArray, List.set_cons_zero, List.set_cons_succ]
  refine wpL_take (i := 5) (v := (.pointer (some ⟨b, 5, none⟩))) (some 18) rfl rfl (by kernel_rfl) (by kernel_rfl) (by kernel_rfl) (by kernel_rfl) (by kernel_rfl) (by decide) (fun _ _ _ h => h) (Or.inl ⟨by rfl, fun w' hS => (by go_simp)⟩) s0 ?_
  try simp only [Go.Act.put, List.setIfInBounds_toArray, List.set_cons_zero, List.set_cons_succ]
  refine wpL_take (i := 6) (v := (.pointer (some ⟨b, 5, none⟩))) (some 19) rfl rfl (by kernel_rfl) (by kernel_rfl) (by kernel_rfl) (by kernel_rfl) (by kernel_rfl) (by decide) (fun _ _ _ h => h) (Or.inl ⟨by rfl, fun w' hS => (by go_simp)⟩) s0 ?_
  try simp only [Go.Act.put, List.setIfInBounds_toArray, List.set_cons_zero, List.set_cons_succ]
  refine wpL_take (i := 7) (v := (.pointer (some ⟨b, 5, none⟩))) (some 20) rfl rfl (by kernel_rfl) (by kernel_rfl) (by kernel_rfl) (by kernel_rfl) (by kernel_rfl) (by decide) (fun _ _ _ h => h) (Or.inl ⟨by rfl, fun w' hS => (by go_simp)⟩) s0 ?_
  try simp only [Go.Act.put, List.setIfInBounds_toArray, List.set_cons_zero, List.set_cons_succ]
  refine wpL_take (i := 8) (v := (.slice a cs.length cap)) (some 21) rfl rfl (by kernel_rfl) (by kernel_rfl) (by kernel_rfl) (by kernel_rfl) (by kernel_rfl) (by decide) (fun _ _ _ h => h) (Or.inl ⟨by rfl, fun w' hS => (by have z0 := H5 _ hS; go_simp)⟩) s0 ?_
  try simp only [Go.Act.put, List.setIfInBounds_toArray, List.set_cons_zero, List.set_cons_succ]
  refine wpL_take (i := 9) (v := (.int .i64 (cs.length : Nat))) (some 22) rfl rfl (by kernel_rfl) (by kernel_rfl) (by kernel_rfl) (by kernel_rfl) (by kernel_rfl) (by decide) (fun _ _ _ h => h) (Or.inl ⟨by rfl, fun w' hS => (by go_simp)⟩) s0 ?_
  try simp only [Go.Act.put, List.setIfInBounds_toArray, List.set_cons_zero, List.set_cons_succ]
  refine wpL_ready (rs := [10]) (by kernel_rfl) (by simp) (AllL.cons (o := { dst := none, op := Op.mapUpdate 131 (Operand.tmp 16) (Operand.tmp 17) (Operand.tmp 22), type := 0, pos := _, after := #[{ on := 3, ground := Ground.data }, { on := 4, ground := Ground.data }, { on := 9, ground := Ground.data }, { on := 0, ground := Ground.phase }, { on := 1, ground := Ground.phase }, { on := 2, ground := Ground.phase }, { on := 3, ground := Ground.phase }, { on := 4, ground := Ground.phase }, { on := 5, ground := Ground.phase }, { on := 6, ground := Ground.phase }, { on := 7, ground := Ground.phase }, { on := 8, ground := Ground.phase }, { on := 9, ground := Ground.phase }], guard := none }) rfl (fun K' hK => ?_) AllL.nil)
  rw [if_pos (by rfl)]
  go_simp
  obtain ⟨ob, hrun, hM⟩ := HMP.out.set (t := 131) Tryz.underlying131 HNM.out hx (.int .i64 (cs.length : Nat))
  simp only [hrun]
  refine hK.out _ _ (fun h => absurd h (by decide)) ?_
  clear hK
  try simp only [Go.Act.put, List.setIfInBounds_toArray, List.set_cons_zero, List.set_cons_succ]
  refine wpL_done (by kernel_rfl) ?_ _
  obtain ⟨W2, hW2⟩ : ∃ W2, W2 = setBlock W1.drew d ob := ⟨_, rfl⟩
  have T2 : Touch [d] W1 W2 := by rw [hW2]; exact touch_setBlock (Touch.refl _ _).drew (by simp) ob
  have HD : Hid (MapAt W2 d ((wl cs).length + 1) (plv (cs ++ [x])) ∧ W2.ownsRow 0 3 1 (.slice a cs.length cap) cs.length (ints cs) ∧ Rc W2 b R (.slice a cs.length cap) (.map (some d)) k c e o) := by
    have h := HH.out
    have hr := h.ln.row
    have hrc := h.rc
    refine ⟨?_, own_touch hr T2 (fun q hq e' => ?_), hrc.keep T2 (fun e' => ?_)⟩
    · rw [← hW2] at hM
      rw [plv_none hn] at hM
      refine (show MapAt W2 d ((wl cs).length + 1) _ from hM).congr (fun q _ => ?_)
      exact plv_put h0 hn q
    · simp only [List.mem_singleton] at e'
      exact row_map h.ln.row h.ln.mp hq rfl e'
    · simp only [List.mem_singleton] at e'
      exact map_ne h.rc h.ln.mp rfl e'.symm
  clear hrun hM
  rw [← hW2]
  clear hW2 ob s0 H5 H6 HMP HNM q63
  have T2' := hid T2
  clear T2
  have c5 := HD.out.2.2.cs.c5
  have hbl := HD.out.2.2.lt
  have hne : b ≠ W2.heap.size := by omega
  have HO : Hid (∀ ob, (W2.alloc ob).ownsRow 0 3 1 (.slice a cs.length cap) cs.length (ints cs)) := fun ob => by
    exact own_touch HD.out.2.1 ((Touch.refl [] _).alloc _) (fun _ _ e => by cases e)
  have HX : Hid (∀ g5 c5 w5, w5.ownsRow 0 3 1 (.slice (some ⟨g5, 0, none⟩) (cs.length + 1) c5) (cs.length + 1) (ints (cs ++ [x])) → (W2.alloc (.cells #[.int .i64 x] 3)).grownBy w5 (Value.slice a cs.length cap).ownBlock → ((Value.slice a cs.length cap).ownBlock = some g5 ∨ g5 = (W2.alloc (.cells #[.int .i64 x] 3)).heap.size) →
      (w5.cell? ⟨b, 5, none⟩ = some (.slice a cs.length cap) ∧ w5.frozen? ⟨b, 5, none⟩ = false ∧ b < w5.heap.size) ∧ LnE W1 (w5.setCell ⟨b, 5, none⟩ (.slice (some ⟨g5, 0, none⟩) (cs.length + 1) c5)) b R k c e o (fpR b (.slice a cs.length cap) (some d)) (cs ++ [x])) := fun g5 c5 w5 o5 r5 p5 => by
    obtain ⟨hm, hr, hrc⟩ := HD.out
    have tA : Touch ((Value.slice a cs.length cap).ownBlock.toList) W2 w5 := ((Touch.refl _ _).alloc _).grown r5 (fun q hq => Or.inl (by rw [hq]; simp))
    have hrc5 : Rc w5 b R (.slice a cs.length cap) (.map (some d)) k c e o := hrc.keep tA (fun e' => by
      simp only [Option.mem_toList] at e'
      exact row_ne hrc hr e' rfl)
    refine ⟨⟨hrc5.cs.c5, hrc5.fz 5, hrc5.lt⟩, ?_⟩
    have tB : Touch [b] w5 (w5.setCell ⟨b, 5, none⟩ (.slice (some ⟨g5, 0, none⟩) (cs.length + 1) c5)) := (Touch.refl _ _).setCell (Or.inl (by simp)) _
    have hm2 : Mp W2 (some d) (cs ++ [x]) := Or.inr ⟨d, rfl, by rw [wl_app, wl_one h0]; simpa using hm⟩
    have hm5 : Mp w5 (some d) (cs ++ [x]) := hm2.keep tA (fun q hq e' => by
      simp only [Option.mem_toList] at e'
      exact row_map hr hm2 e' hq rfl)
    refine ⟨_, some d, ⟨hrc5.set5 _, ⟨?_, hm5.keep tB (fun q hq e' => ?_), HH.out.ln.ok.put hx h0 hn⟩⟩, ?_, fun q hq => ?_⟩
    · rw [show (cs ++ [x]).length = cs.length + 1 by simp]
      refine own_touch o5 tB (fun q hq e' => ?_)
      simp only [List.mem_singleton] at e'
      exact row_ne hrc5 o5 hq e'
    · simp only [List.mem_singleton] at e'
      exact map_ne hrc5 hm5 hq e'
    · refine (((T2'.out.mono (fun q hq => ?_)).trans tA (fun q hq => ?_)).trans tB (fun q hq => ?_))
      · simp only [List.mem_singleton] at hq; exact mem_fpR.2 (Or.inr (Or.inr (by rw [hq])))
      · simp only [Option.mem_toList] at hq; exact Or.inl (mem_fpR.2 (Or.inr (Or.inl hq)))
      · simp only [List.mem_singleton] at hq; exact Or.inl (mem_fpR.2 (Or.inl hq))
    · rcases mem_fpR.1 hq with e' | e' | e'
      · exact Or.inl (mem_fpR.2 (Or.inl e'))
      · simp only [Value.ownBlock, Option.some.injEq] at e'
        subst e'
        rcases p5 with p | p
        · exact Or.inl (mem_fpR.2 (Or.inr (Or.inl p)))
        · refine Or.inr ?_
          have := T2'.out.size
          rw [p]; simp; omega
      · exact Or.inl (mem_fpR.2 (Or.inr (Or.inr e')))
  clear HD HH hx h0 hn T2'
  go_wp2_with (at_builtin; refine wpList_append_int rfl _ _ rfl 0 (.slice a cs.length cap) cs rfl (HO.out _) W2.heap.size x rfl (by simp) HLE.out (Nat.zero_le _) ?_; intro g5 c5' w5 o5 r5 p5; obtain ⟨⟨y1, y2, y3⟩, y4⟩ := HX.out _ _ _ o5 r5 p5; have Y4 := hid y4; clear o5 r5 p5 y4)
  go_end0
  exact ⟨rfl, HFIN.out _ Y4.out⟩

theorem add21 (h : Rl w b R k c e o sl m cs) (x : Int) (hx : W64 x) (h0 : x ≠ 0) (hn : ¬ x ∈ wl cs) (hle : cs.length ≤ 3000000000000) : Calls Tryz.prog 65 #[PL b, .int .i64 x] w fun e' w' => e' = .returned (.tuple #[]) ∧ LnE w w' b R k c e o (fpR b sl m) (cs ++ [x]) := by
  cases m with
  | none => exact add21_none w b R sl cs k c e o h x hx h0 hn hle
  | some d => exact add21_some w b R sl cs k c e o d h x hx h0 hn hle
end
end Go.Proofs.YtpihhlllembdeaaGreat
