/- The law's look: the gates say what they must. -/
import Derived.Test.YtmbjjkdocmcpdaaOne
import Derived.Laws.MathBits
namespace Go.Proofs.Ytmbjjkdocmcpdaa
open Go.RowKit Go.Maps Go.ChangeMaps
set_option linter.unusedVariables false
set_option linter.unusedSimpArgs false
theorem and255_all : (List.range 256).all (fun m => bits .and .i64 (m : Int) 255 == (m : Int)) = true := by kernel_rfl
theorem and255 (n : Int) (h0 : 0 ≤ n) (h1 : n < 256) : bits .and .i64 n 255 = n := by
  have h := List.all_eq_true.1 and255_all n.toNat (by simp; omega)
  have e : ((n.toNat : Nat) : Int) = n := by omega
  rw [e] at h
  simpa using h
theorem waitW_rel {op : Nat → Bool} {W : Nat → List Int} {ps : List (Int × Int)} (iv : Iv op W ps) (n : Int) : waitW W n = wOf ps n := by
  unfold waitW
  split
  · rename_i hn
    obtain ⟨g1, g2⟩ := inG_nat hn
    rw [iv.rel _ g1, g2]
  · rename_i hn
    have : wOf ps n = [] := by
      unfold wOf
      rw [List.map_eq_nil_iff, List.filter_eq_nil_iff]
      intro p hp e
      have := iv.dk.ig p hp
      rw [show p.2 = n by simpa using e] at this
      exact hn this
    rw [this]
section
variable {w : World} {g : Nat} {F : List Nat} {c : Array Value} {op : Nat → Bool} {ps : List (Int × Int)} {A B : Value} {W : Nat → List Int}
set_option maxHeartbeats 8000000 in
set_option maxRecDepth 100000 in
theorem says11 (hg : Gs w g F op W) (h : Ds w c op ps A B) (iv : Iv op W ps) (kd n x k : Int) (hx : W64 x) (hl : ps.length ≤ 4398046511104) : Calls Try.prog 11 #[.pointer (some ⟨g, 0, none⟩), .agg c, .agg #[.int .i64 kd, .int .i64 n, .int .i64 x, .int .i64 k]] w fun e w' => e = .returned (.bool true) ∧ Touch [] w w' := by
  obtain ⟨W1, hW1⟩ : ∃ W1, W1 = (w.alloc (.cells c 29)).alloc (.cells #[.int .i64 kd, .int .i64 n, .int .i64 x, .int .i64 k] 31) := ⟨_, rfl⟩
  have t1 : Touch [] w W1 := by rw [hW1]; exact ((Touch.refl _ _).alloc _).alloc _
  have h1 : W1.heap[w.heap.size]? = some (.cells c 29 (0, 0)) := by rw [hW1]; exact made2 _ _ _
  have hA : W1.heap[w.heap.size + 1]? = some (.cells #[.int .i64 kd, .int .i64 n, .int .i64 x, .int .i64 k] 31 (0, 0)) := by rw [hW1]; exact made3 _ _ _
  have htot : tot W = ps.length := tot_rel iv.rel iv.dk
  have HWh := hid (where18 (hg.keep0 t1) x hx)
  have HPo := hid (where28 (h.keep0 t1) x hl)
  have HD := hid h.dg
  have HW := hid hW1
  obtain ⟨aA, cA, eA, _, _⟩ := h.who.form
  obtain ⟨aB, cB, eB, _, _⟩ := h.at_.form
  rw [List.length_map] at eA eB
  have HPL : Hid (((loc W x).isSome = false ∧ locI W x = 0 ∧ posI (ps.map (·.1)) x = -1) ∨ ∃ j : Nat, (loc W x).isSome = true ∧ posI (ps.map (·.1)) x = (j : Int) ∧ j < ps.length ∧ ∀ X, Touch [] W1 X → ∃ bb, aB = some ⟨bb, 0, none⟩ ∧ X.cell? ⟨bb, j, none⟩ = some (.int .i64 (locI W x))) := by
    rcases pos_loc hg.ok iv.rel iv.dk x with ⟨e1, e2⟩ | ⟨j, hj, e1, e2, e3, e4⟩
    · exact Or.inl ⟨by rw [e2]; rfl, by unfold locI; rw [e2], by unfold posI; rw [e1]⟩
    · refine Or.inr ⟨j, by rw [e3]; rfl, by unfold posI; rw [e1], hj, fun X T => ?_⟩
      have hr := h.at_.keep0 (t1.trans' T)
      rw [eB] at hr
      obtain ⟨bb, eb, hc⟩ := hr.cell (i := j) (by simpa using hj)
      refine ⟨bb, eb, ?_⟩
      rw [hc]
      unfold locI
      rw [e3]
      simp only [List.getElem_map]
      rw [(inG_nat e4).2]
  have HB1 : Hid (∀ X, Touch [] W1 X → X.heap[w.heap.size]? = some (.cells c 29 (0, 0))) := fun X T => T.keep h1 (by simp)
  have HA1 : Hid (∀ X, Touch [] W1 X → X.cell? ⟨w.heap.size + 1, 1, none⟩ = some (.int .i64 n)) := fun X T => cell_at (T.keep hA (by simp)) rfl
  have HC2 : Hid (∀ X, Touch [] W1 X → X.cell? ⟨w.heap.size, 256, none⟩ = some (.slice aA ps.length cA)) := fun X T => cell_at (T.keep h1 (by simp)) (by rw [← eA]; exact h.cells.1)
  have HC3 : Hid (∀ X, Touch [] W1 X → X.cell? ⟨w.heap.size, 257, none⟩ = some (.slice aB ps.length cB)) := fun X T => cell_at (T.keep h1 (by simp)) (by rw [← eB]; exact h.cells.2.1)
  have HC1 : Hid (inG n = true → ∀ X, Touch [] W1 X → X.cell? ⟨w.heap.size, n.toNat, none⟩ = some (.bool (op n.toNat))) := fun hn X T => cell_at (T.keep h1 (by simp)) (h.cells.2.2 _ (inG_nat hn).1)
  have HOp : Hid (∀ X, Touch [] W1 X → Calls Try.prog 20 #[.pointer (some ⟨g, 0, none⟩), .int .i64 n] X fun e w' => e = .returned (.bool (inG n && op n.toNat)) ∧ w' = X) := fun X T => isopen20 (hg.keep0 (t1.trans' T)) n
  have HIs : Hid (∀ X, Calls Try.prog 29 #[.int .i64 n] X fun e w' => e = .returned (.bool (inG n)) ∧ w' = X) := fun X => is29 X n
  have HWa : Hid (∀ X, Touch [] W1 X → Calls Try.prog 13 #[.pointer (some ⟨g, 0, none⟩), .int .i64 n] X fun e w' => ∃ v, e = .returned v ∧ Rd w' v (wOf ps n) ∧ Touch [] X w') := fun X T => by
    refine (waiting13 (hg.keep0 (t1.trans' T)) n (by omega)).mono ?_
    rintro e w' ⟨v, he, ow, t⟩
    rw [waitW_rel iv n] at ow
    exact ⟨v, he, Rd.of_own ow, t⟩
  have HWd : Hid (∀ X, Touch [] W1 X → Calls Try.prog 14 #[.agg c, .int .i64 n] X fun e w' => ∃ v, e = .returned v ∧ Rd w' v (wOf ps n) ∧ Touch [] X w') := fun X T => by
    refine (waiting14 (h.keep0 (t1.trans' T)) n hl).mono ?_
    rintro e w' ⟨v, he, ow, t⟩
    exact ⟨v, he, Rd.of_own ow, t⟩
  have HLw : Hid ((wOf ps n).length ≤ 4398046511104) := Nat.le_trans (wOf_len ps n) hl
  have HLn : Hid (∀ X, Touch [] W1 X → Calls Try.prog 15 #[.pointer (some ⟨g, 0, none⟩)] X fun e w' => e = .returned (.int .i64 ps.length) ∧ w' = X) := fun X T => by
    have := len15 (hg.keep0 (t1.trans' T))
    rw [htot] at this
    exact this
  have H1 := hid (And.intro h1 hA)
  have T1 := hid t1
  have zl : (ps.length : Int) ≤ 4398046511104 := by omega
  clear hg h iv hl t1 h1 hA hW1 htot eA eB
  generalize wOf ps n = wp at *
  generalize posI (ps.map (·.1)) x = zi at *
  generalize locI W x = zat at *
  generalize (loc W x).isSome = bok at *
  generalize ps.length = N at *
  go_enter Try.func11, Try.ntmps11
  go_upto_region 1 with fail
  rw [← HW.out]
  clear HW
  generalize w.heap.size = b1 at *
  generalize b1 + 1 = bA at *
  have y1 := cell_at H1.out.2 (j := 1) rfl
  have y2 := cell_at H1.out.2 (j := 2) rfl
  go_upto_region 3 with (first
    | (go_at_call 18; refine HWh.out.mono ?_; rintro e w2 ⟨rfl, rfl⟩)
    | (refine wpList_load29 rfl _ rfl b1 c 29 (0, 0) rfl H1.out.1 HD.out.size ?_)
    | (go_at_call 28; refine HPo.out.mono ?_; rintro e w3 ⟨rfl, t3⟩; have T3 := hid t3; clear t3)
    | fail)
  have y3 := HC3.out w3 T3.out
  have TW := hid T1.out
  clear HC3 y1 y2 HWh HPo H1 T1
  go_cut [44] from 21 to 44 (fun s wx => s = .bool false ∧ wx = w3)
  case first =>
    rcases HPL.out with ⟨rfl, rfl, rfl⟩ | ⟨j, rfl, rfl, hj, hcell⟩
    · go_wp2
      go_meet
      case rel => exact ⟨rfl, rfl⟩
    · obtain ⟨bb, rfl, yc⟩ := hcell w3 T3.out
      have zj : (j : Int) < (N : Int) := by omega
      have zb : (zat != zat) = false := by simp
      go_wp2
      go_meet
      case rel => exact ⟨rfl, rfl⟩
  case rest =>
    obtain ⟨rfl, rfl⟩ := hcut
    clear HPL y3
    go_upto_region 5 with fail
    have hS0 : Touch [] w2 wc.drew := T3.out.drew
    rcases Bool.eq_false_or_eq_true (inG n) with hn | hn
    · obtain ⟨hn0, hn1⟩ := inG_yes hn
      have ha := and255 n hn0 hn1
      rw [hn] at HOp HIs
      rw [Bool.true_and] at HOp
      have HC1 := hid (HC1.out hn)
      clear hn
      generalize op n.toNat = bo at *
      refine wp_region_L (S := (fun w' => Touch [] w2 w')) (st := 35) (by kernel_rfl) ?_
      refine wpL_takeY (i := 0) (v := .pointer (some ⟨g, 0, none⟩)) (some 45) rfl rfl (by kernel_rfl) (by kernel_rfl) (by kernel_rfl) (by decide) (fun _ _ _ h => h) (Or.inl ⟨by rfl, fun w' _ => by go_simp⟩) (fun _ => hS0) ?_
      try simp only [Go.Act.put, List.setIfInBounds_toArray, List.set_cons_zero, List.set_cons_succ]
      refine wpL_takeY (i := 1) (v := .pointer (some ⟨bA, 1, none⟩)) (some 46) rfl rfl (by kernel_rfl) (by kernel_rfl) (by kernel_rfl) (by decide) (fun _ _ _ h => h) (Or.inl ⟨by rfl, fun w' _ => by go_simp⟩) (fun _ => hS0) ?_
      try simp only [Go.Act.put, List.setIfInBounds_toArray, List.set_cons_zero, List.set_cons_succ]
      refine wpL_take (i := 2) (v := .int .i64 n) (some 47) rfl rfl (by kernel_rfl) (by kernel_rfl) (by kernel_rfl) (by kernel_rfl) (by kernel_rfl) (by decide) (fun _ _ _ h => h) (Or.inl ⟨by rfl, fun w' hS => (by have hc := HA1.out w' hS; go_simp)⟩) hS0 ?_
      try simp only [Go.Act.put, List.setIfInBounds_toArray, List.set_cons_zero, List.set_cons_succ]
      refine wpL_takeY (i := 4) (v := .pointer (some ⟨bA, 1, none⟩)) (some 49) rfl rfl (by kernel_rfl) (by kernel_rfl) (by kernel_rfl) (by decide) (fun _ _ _ h => h) (Or.inl ⟨by rfl, fun w' _ => by go_simp⟩) (fun _ => hS0) ?_
      try simp only [Go.Act.put, List.setIfInBounds_toArray, List.set_cons_zero, List.set_cons_succ]
      refine wpL_take (i := 5) (v := .int .i64 n) (some 50) rfl rfl (by kernel_rfl) (by kernel_rfl) (by kernel_rfl) (by kernel_rfl) (by kernel_rfl) (by decide) (fun _ _ _ h => h) (Or.inl ⟨by rfl, fun w' hS => (by have hc := HA1.out w' hS; go_simp)⟩) hS0 ?_
      try simp only [Go.Act.put, List.setIfInBounds_toArray, List.set_cons_zero, List.set_cons_succ]
      refine wpL_ready (rs := [3]) (by kernel_rfl) (by simp) (AllL.cons (o := { dst := some 48, op := Op.call { callee := Callee.value (Operand.func 20), args := #[Operand.tmp 45, Operand.tmp 47], argTypes := #[23, 3] }, type := 4, pos := _, after := #[{ on := 0, ground := Ground.data }, { on := 2, ground := Ground.data }], guard := none }) rfl (fun K' hK => ?_) AllL.nil)
      rw [if_pos (by rfl)]
      go_simp
      refine (HOp.out _ hS0).mono ?_
      rintro e w5 ⟨rfl, rfl⟩
      refine hK.out _ _ (fun _ => hS0) ?_
      clear hK
      try simp only [Go.Act.put, List.setIfInBounds_toArray, List.set_cons_zero, List.set_cons_succ]
      refine wpL_ready (rs := [6]) (by kernel_rfl) (by simp) (AllL.cons (o := { dst := some 51, op := Op.call { callee := Callee.value (Operand.func 29), args := #[Operand.tmp 50], argTypes := #[3] }, type := 4, pos := _, after := #[{ on := 5, ground := Ground.data }, { on := 3, ground := Ground.chain }], guard := none }) rfl (fun K' hK => ?_) AllL.nil)
      rw [if_pos (by rfl)]
      go_simp
      refine (HIs.out _).mono ?_
      rintro e w6 ⟨rfl, rfl⟩
      refine hK.out _ _ (fun _ => hS0) ?_
      clear hK
      try simp only [Go.Act.put, List.setIfInBounds_toArray, List.set_cons_zero, List.set_cons_succ]
      refine wpL_takeY (i := 7) (v := .bool true) (some 52) rfl rfl (by kernel_rfl) (by kernel_rfl) (by kernel_rfl) (by decide) (fun _ _ _ h => h) (Or.inl ⟨by rfl, fun w' _ => by go_simp⟩) (fun _ => hS0) ?_
      try simp only [Go.Act.put, List.setIfInBounds_toArray, List.set_cons_zero, List.set_cons_succ]
      refine wpL_takeY (i := 8) (v := .pointer (some ⟨bA, 1, none⟩)) (some 53) rfl rfl (by kernel_rfl) (by kernel_rfl) (by kernel_rfl) (by decide) (fun _ _ _ h => h) (Or.inl ⟨by rfl, fun w' _ => by go_simp⟩) (fun _ => hS0) ?_
      try simp only [Go.Act.put, List.setIfInBounds_toArray, List.set_cons_zero, List.set_cons_succ]
      refine wpL_take (i := 9) (v := .int .i64 n) (some 54) rfl rfl (by kernel_rfl) (by kernel_rfl) (by kernel_rfl) (by kernel_rfl) (by kernel_rfl) (by decide) (fun _ _ _ h => h) (Or.inl ⟨by rfl, fun w' hS => (by have hc := HA1.out w' hS; go_simp)⟩) hS0 ?_
      try simp only [Go.Act.put, List.setIfInBounds_toArray, List.set_cons_zero, List.set_cons_succ]
      refine wpL_takeY (i := 10) (v := .int .i64 n) (some 55) rfl rfl (by kernel_rfl) (by kernel_rfl) (by kernel_rfl) (by decide) (fun _ _ _ h => h) (Or.inl ⟨by rfl, fun w' _ => by go_simp⟩) (fun _ => hS0) ?_
      try simp only [Go.Act.put, List.setIfInBounds_toArray, List.set_cons_zero, List.set_cons_succ]
      refine wpL_takeY (i := 11) (v := .pointer (some ⟨b1, 0, none⟩)) (some 56) rfl rfl (by kernel_rfl) (by kernel_rfl) (by kernel_rfl) (by decide) (fun _ _ _ h => h) (Or.inl ⟨by rfl, fun w' _ => by go_simp⟩) (fun _ => hS0) ?_
      try simp only [Go.Act.put, List.setIfInBounds_toArray, List.set_cons_zero, List.set_cons_succ]
      refine wpL_takeY (i := 12) (v := .pointer (some ⟨b1, n.toNat, none⟩)) (some 57) rfl rfl (by kernel_rfl) (by kernel_rfl) (by kernel_rfl) (by decide) (fun _ _ _ h => h) (Or.inl ⟨by rfl, fun w' _ => by go_simp⟩) (fun _ => hS0) ?_
      try simp only [Go.Act.put, List.setIfInBounds_toArray, List.set_cons_zero, List.set_cons_succ]
      refine wpL_take (i := 13) (v := .bool bo) (some 58) rfl rfl (by kernel_rfl) (by kernel_rfl) (by kernel_rfl) (by kernel_rfl) (by kernel_rfl) (by decide) (fun _ _ _ h => h) (Or.inl ⟨by rfl, fun w' hS => (by have hc := HC1.out w' hS; go_simp)⟩) hS0 ?_
      try simp only [Go.Act.put, List.setIfInBounds_toArray, List.set_cons_zero, List.set_cons_succ]
      refine wpL_takeY (i := 14) (v := .bool bo) (some 59) rfl rfl (by kernel_rfl) (by kernel_rfl) (by kernel_rfl) (by decide) (fun _ _ _ h => h) (Or.inl ⟨by rfl, fun w' _ => by go_simp⟩) (fun _ => hS0) ?_
      try simp only [Go.Act.put, List.setIfInBounds_toArray, List.set_cons_zero, List.set_cons_succ]
      refine wpL_takeY (i := 15) (v := .bool true) (some 60) rfl rfl (by kernel_rfl) (by kernel_rfl) (by kernel_rfl) (by decide) (fun _ _ _ h => h) (Or.inl ⟨by rfl, fun w' _ => by go_simp⟩) (fun _ => hS0) ?_
      try simp only [Go.Act.put, List.setIfInBounds_toArray, List.set_cons_zero, List.set_cons_succ]
      refine wpL_takeY (i := 16) (v := .bool true) (some 61) rfl rfl (by kernel_rfl) (by kernel_rfl) (by kernel_rfl) (by decide) (fun _ _ _ h => h) (Or.inl ⟨by rfl, fun w' _ => by go_simp⟩) (fun _ => hS0) ?_
      try simp only [Go.Act.put, List.setIfInBounds_toArray, List.set_cons_zero, List.set_cons_succ]
      refine wpL_takeY (i := 17) (v := .pointer (some ⟨g, 0, none⟩)) (some 62) rfl rfl (by kernel_rfl) (by kernel_rfl) (by kernel_rfl) (by decide) (fun _ _ _ h => h) (Or.inl ⟨by rfl, fun w' _ => by go_simp⟩) (fun _ => hS0) ?_
      try simp only [Go.Act.put, List.setIfInBounds_toArray, List.set_cons_zero, List.set_cons_succ]
      refine wpL_takeY (i := 18) (v := .pointer (some ⟨bA, 1, none⟩)) (some 63) rfl rfl (by kernel_rfl) (by kernel_rfl) (by kernel_rfl) (by decide) (fun _ _ _ h => h) (Or.inl ⟨by rfl, fun w' _ => by go_simp⟩) (fun _ => hS0) ?_
      try simp only [Go.Act.put, List.setIfInBounds_toArray, List.set_cons_zero, List.set_cons_succ]
      refine wpL_take (i := 19) (v := .int .i64 n) (some 64) rfl rfl (by kernel_rfl) (by kernel_rfl) (by kernel_rfl) (by kernel_rfl) (by kernel_rfl) (by decide) (fun _ _ _ h => h) (Or.inl ⟨by rfl, fun w' hS => (by have hc := HA1.out w' hS; go_simp)⟩) hS0 ?_
      try simp only [Go.Act.put, List.setIfInBounds_toArray, List.set_cons_zero, List.set_cons_succ]
      refine wpL_take (i := 21) (v := .agg c) (some 66) rfl rfl (by kernel_rfl) (by kernel_rfl) (by kernel_rfl) (by kernel_rfl) (by kernel_rfl) (by decide) (fun _ _ _ h => h) (Or.inl ⟨by rfl, fun w' hS => exec_load29 _ rfl rfl (HB1.out w' hS) HD.out.size⟩) hS0 ?_
      try simp only [Go.Act.put, List.setIfInBounds_toArray, List.set_cons_zero, List.set_cons_succ]
      refine wpL_takeY (i := 22) (v := .pointer (some ⟨bA, 1, none⟩)) (some 67) rfl rfl (by kernel_rfl) (by kernel_rfl) (by kernel_rfl) (by decide) (fun _ _ _ h => h) (Or.inl ⟨by rfl, fun w' _ => by go_simp⟩) (fun _ => hS0) ?_
      try simp only [Go.Act.put, List.setIfInBounds_toArray, List.set_cons_zero, List.set_cons_succ]
      refine wpL_take (i := 23) (v := .int .i64 n) (some 68) rfl rfl (by kernel_rfl) (by kernel_rfl) (by kernel_rfl) (by kernel_rfl) (by kernel_rfl) (by decide) (fun _ _ _ h => h) (Or.inl ⟨by rfl, fun w' hS => (by have hc := HA1.out w' hS; go_simp)⟩) hS0 ?_
      try simp only [Go.Act.put, List.setIfInBounds_toArray, List.set_cons_zero, List.set_cons_succ]
      refine wpL_ready (rs := [20]) (by kernel_rfl) (by simp) (AllL.cons (o := { dst := some 65, op := Op.call { callee := Callee.value (Operand.func 13), args := #[Operand.tmp 62, Operand.tmp 64], argTypes := #[23, 3] }, type := 27, pos := _, after := #[{ on := 17, ground := Ground.data }, { on := 19, ground := Ground.data }, { on := 16, ground := Ground.chain }, { on := 16, ground := Ground.guard }], guard := some (16, true) }) rfl (fun K' hK => ?_) AllL.nil)
      rw [if_pos (by rfl)]
      go_simp
      refine (HWa.out _ hS0).mono ?_
      rintro e w7 ⟨v7, rfl, r7, t7⟩
      have hS7 := hS0.trans' t7
      have R7 := hid r7
      clear r7 t7
      refine hK.out _ _ (fun _ => hS7) ?_
      clear hK
      try simp only [Go.Act.put, List.setIfInBounds_toArray, List.set_cons_zero, List.set_cons_succ]
      refine wpL_ready (rs := [24]) (by kernel_rfl) (by simp) (AllL.cons (o := { dst := some 69, op := Op.call { callee := Callee.value (Operand.func 14), args := #[Operand.tmp 66, Operand.tmp 68], argTypes := #[29, 3] }, type := 27, pos := _, after := #[{ on := 21, ground := Ground.data }, { on := 23, ground := Ground.data }, { on := 20, ground := Ground.chain }, { on := 16, ground := Ground.guard }], guard := some (16, true) }) rfl (fun K' hK => ?_) AllL.nil)
      rw [if_pos (by rfl)]
      go_simp
      refine (HWd.out _ hS7).mono ?_
      rintro e w8 ⟨v8, rfl, r8, t8⟩
      have hS8 := hS7.trans' t8
      have R8 := hid (And.intro (R7.out.keep0 t8) r8)
      clear r8 t8
      refine hK.out _ _ (fun _ => hS8) ?_
      clear hK
      try simp only [Go.Act.put, List.setIfInBounds_toArray, List.set_cons_zero, List.set_cons_succ]
      refine wpL_ready (rs := [25]) (by kernel_rfl) (by simp) (AllL.cons (o := { dst := some 70, op := Op.call { callee := Callee.value (Operand.func 12), args := #[Operand.tmp 65, Operand.tmp 69], argTypes := #[27, 27] }, type := 4, pos := _, after := #[{ on := 20, ground := Ground.data }, { on := 24, ground := Ground.data }, { on := 24, ground := Ground.chain }, { on := 16, ground := Ground.guard }], guard := some (16, true) }) rfl (fun K' hK => ?_) AllL.nil)
      rw [if_pos (by rfl)]
      go_simp
      refine (ints12 _ v7 v8 _ R8.out.1 R8.out.2 HLw.out).mono ?_
      rintro e w9 ⟨rfl, t9⟩
      have hS9 := hS8.trans' t9
      clear t9
      refine hK.out _ _ (fun _ => hS9) ?_
      clear hK
      try simp only [Go.Act.put, List.setIfInBounds_toArray, List.set_cons_zero, List.set_cons_succ]
      refine wpL_takeY (i := 26) (v := .bool true) (some 71) rfl rfl (by kernel_rfl) (by kernel_rfl) (by kernel_rfl) (by decide) (fun _ _ _ h => h) (Or.inl ⟨by rfl, fun w' _ => by go_simp⟩) (fun _ => hS9) ?_
      try simp only [Go.Act.put, List.setIfInBounds_toArray, List.set_cons_zero, List.set_cons_succ]
      refine wpL_takeY (i := 27) (v := .bool true) (some 72) rfl rfl (by kernel_rfl) (by kernel_rfl) (by kernel_rfl) (by decide) (fun _ _ _ h => h) (Or.inl ⟨by rfl, fun w' _ => by go_simp⟩) (fun _ => hS9) ?_
      try simp only [Go.Act.put, List.setIfInBounds_toArray, List.set_cons_zero, List.set_cons_succ]
      refine wpL_takeY (i := 28) (v := .pointer (some ⟨g, 0, none⟩)) (some 73) rfl rfl (by kernel_rfl) (by kernel_rfl) (by kernel_rfl) (by decide) (fun _ _ _ h => h) (Or.inl ⟨by rfl, fun w' _ => by go_simp⟩) (fun _ => hS9) ?_
      try simp only [Go.Act.put, List.setIfInBounds_toArray, List.set_cons_zero, List.set_cons_succ]
      refine wpL_takeY (i := 30) (v := .pointer (some ⟨b1, 256, none⟩)) (some 75) rfl rfl (by kernel_rfl) (by kernel_rfl) (by kernel_rfl) (by decide) (fun _ _ _ h => h) (Or.inl ⟨by rfl, fun w' _ => by go_simp⟩) (fun _ => hS9) ?_
      try simp only [Go.Act.put, List.setIfInBounds_toArray, List.set_cons_zero, List.set_cons_succ]
      refine wpL_take (i := 31) (v := .slice aA N cA) (some 76) rfl rfl (by kernel_rfl) (by kernel_rfl) (by kernel_rfl) (by kernel_rfl) (by kernel_rfl) (by decide) (fun _ _ _ h => h) (Or.inl ⟨by rfl, fun w' hS => (by have hc := HC2.out w' hS; go_simp)⟩) hS9 ?_
      try simp only [Go.Act.put, List.setIfInBounds_toArray, List.set_cons_zero, List.set_cons_succ]
      refine wpL_takeY (i := 32) (v := .int .i64 (N : Int)) (some 77) rfl rfl (by kernel_rfl) (by kernel_rfl) (by kernel_rfl) (by decide) (fun _ _ _ h => h) (Or.inl ⟨by rfl, fun w' _ => by go_simp⟩) (fun _ => hS9) ?_
      try simp only [Go.Act.put, List.setIfInBounds_toArray, List.set_cons_zero, List.set_cons_succ]
      refine wpL_ready (rs := [29]) (by kernel_rfl) (by simp) (AllL.cons (o := { dst := some 74, op := Op.call { callee := Callee.value (Operand.func 15), args := #[Operand.tmp 73], argTypes := #[23] }, type := 3, pos := _, after := #[{ on := 28, ground := Ground.data }, { on := 27, ground := Ground.chain }, { on := 27, ground := Ground.guard }], guard := some (27, true) }) rfl (fun K' hK => ?_) AllL.nil)
      rw [if_pos (by rfl)]
      go_simp
      refine (HLn.out _ hS9).mono ?_
      rintro e w10 ⟨rfl, rfl⟩
      refine hK.out _ _ (fun _ => hS9) ?_
      clear hK
      try simp only [Go.Act.put, List.setIfInBounds_toArray, List.set_cons_zero, List.set_cons_succ]
      refine wpL_takeY (i := 33) (v := .bool true) (some 78) rfl rfl (by kernel_rfl) (by kernel_rfl) (by kernel_rfl) (by decide) (fun _ _ _ h => h) (Or.inl ⟨by rfl, fun w' _ => by go_simp⟩) (fun _ => hS9) ?_
      try simp only [Go.Act.put, List.setIfInBounds_toArray, List.set_cons_zero, List.set_cons_succ]
      refine wpL_takeY (i := 34) (v := .bool true) (some 79) rfl rfl (by kernel_rfl) (by kernel_rfl) (by kernel_rfl) (by decide) (fun _ _ _ h => h) (Or.inl ⟨by rfl, fun w' _ => by go_simp⟩) (fun _ => hS9) ?_
      try simp only [Go.Act.put, List.setIfInBounds_toArray, List.set_cons_zero, List.set_cons_succ]
      refine wpL_ready (rs := [35]) (by kernel_rfl) (by simp) (AllL.cons (o := { dst := some 6, op := Op.assign (Operand.tmp 79), type := 4, pos := _, after := #[{ on := 34, ground := Ground.data }, { on := 29, ground := Ground.chain }, { on := 0, ground := Ground.phase }, { on := 1, ground := Ground.phase }, { on := 2, ground := Ground.phase }, { on := 3, ground := Ground.phase }, { on := 4, ground := Ground.phase }, { on := 5, ground := Ground.phase }, { on := 6, ground := Ground.phase }, { on := 7, ground := Ground.phase }, { on := 8, ground := Ground.phase }, { on := 9, ground := Ground.phase }, { on := 10, ground := Ground.phase }, { on := 11, ground := Ground.phase }, { on := 12, ground := Ground.phase }, { on := 13, ground := Ground.phase }, { on := 14, ground := Ground.phase }, { on := 15, ground := Ground.phase }, { on := 16, ground := Ground.phase }, { on := 17, ground := Ground.phase }, { on := 18, ground := Ground.phase }, { on := 19, ground := Ground.phase }, { on := 20, ground := Ground.phase }, { on := 21, ground := Ground.phase }, { on := 22, ground := Ground.phase }, { on := 23, ground := Ground.phase }, { on := 24, ground := Ground.phase }, { on := 25, ground := Ground.phase }, { on := 26, ground := Ground.phase }, { on := 27, ground := Ground.phase }, { on := 28, ground := Ground.phase }, { on := 29, ground := Ground.phase }, { on := 30, ground := Ground.phase }, { on := 31, ground := Ground.phase }, { on := 32, ground := Ground.phase }, { on := 33, ground := Ground.phase }, { on := 34, ground := Ground.phase }], guard := none }) rfl (fun K' hK => ?_) AllL.nil)
      rw [if_pos (by rfl)]
      go_simp
      refine hK.out _ _ (fun _ => hS9) ?_
      have E9 := hid (TW.out.trans' hS9)
      clear hK
      try simp only [Go.Act.put, List.setIfInBounds_toArray, List.set_cons_zero, List.set_cons_succ]
      refine wpL_done (by kernel_rfl) ?_ _
      go_wp2_with fail
      go_ret
      exact ⟨rfl, E9.out⟩
    · rw [hn] at HOp HIs
      rw [Bool.false_and] at HOp
      clear HC1 hn
      refine wp_region_L (S := (fun w' => Touch [] w2 w')) (st := 35) (by kernel_rfl) ?_
      refine wpL_takeY (i := 0) (v := .pointer (some ⟨g, 0, none⟩)) (some 45) rfl rfl (by kernel_rfl) (by kernel_rfl) (by kernel_rfl) (by decide) (fun _ _ _ h => h) (Or.inl ⟨by rfl, fun w' _ => by go_simp⟩) (fun _ => hS0) ?_
      try simp only [Go.Act.put, List.setIfInBounds_toArray, List.set_cons_zero, List.set_cons_succ]
      refine wpL_takeY (i := 1) (v := .pointer (some ⟨bA, 1, none⟩)) (some 46) rfl rfl (by kernel_rfl) (by kernel_rfl) (by kernel_rfl) (by decide) (fun _ _ _ h => h) (Or.inl ⟨by rfl, fun w' _ => by go_simp⟩) (fun _ => hS0) ?_
      try simp only [Go.Act.put, List.setIfInBounds_toArray, List.set_cons_zero, List.set_cons_succ]
      refine wpL_take (i := 2) (v := .int .i64 n) (some 47) rfl rfl (by kernel_rfl) (by kernel_rfl) (by kernel_rfl) (by kernel_rfl) (by kernel_rfl) (by decide) (fun _ _ _ h => h) (Or.inl ⟨by rfl, fun w' hS => (by have hc := HA1.out w' hS; go_simp)⟩) hS0 ?_
      try simp only [Go.Act.put, List.setIfInBounds_toArray, List.set_cons_zero, List.set_cons_succ]
      refine wpL_takeY (i := 4) (v := .pointer (some ⟨bA, 1, none⟩)) (some 49) rfl rfl (by kernel_rfl) (by kernel_rfl) (by kernel_rfl) (by decide) (fun _ _ _ h => h) (Or.inl ⟨by rfl, fun w' _ => by go_simp⟩) (fun _ => hS0) ?_
      try simp only [Go.Act.put, List.setIfInBounds_toArray, List.set_cons_zero, List.set_cons_succ]
      refine wpL_take (i := 5) (v := .int .i64 n) (some 50) rfl rfl (by kernel_rfl) (by kernel_rfl) (by kernel_rfl) (by kernel_rfl) (by kernel_rfl) (by decide) (fun _ _ _ h => h) (Or.inl ⟨by rfl, fun w' hS => (by have hc := HA1.out w' hS; go_simp)⟩) hS0 ?_
      try simp only [Go.Act.put, List.setIfInBounds_toArray, List.set_cons_zero, List.set_cons_succ]
      refine wpL_ready (rs := [3]) (by kernel_rfl) (by simp) (AllL.cons (o := { dst := some 48, op := Op.call { callee := Callee.value (Operand.func 20), args := #[Operand.tmp 45, Operand.tmp 47], argTypes := #[23, 3] }, type := 4, pos := _, after := #[{ on := 0, ground := Ground.data }, { on := 2, ground := Ground.data }], guard := none }) rfl (fun K' hK => ?_) AllL.nil)
      rw [if_pos (by rfl)]
      go_simp
      refine (HOp.out _ hS0).mono ?_
      rintro e w5 ⟨rfl, rfl⟩
      refine hK.out _ _ (fun _ => hS0) ?_
      clear hK
      try simp only [Go.Act.put, List.setIfInBounds_toArray, List.set_cons_zero, List.set_cons_succ]
      refine wpL_ready (rs := [6]) (by kernel_rfl) (by simp) (AllL.cons (o := { dst := some 51, op := Op.call { callee := Callee.value (Operand.func 29), args := #[Operand.tmp 50], argTypes := #[3] }, type := 4, pos := _, after := #[{ on := 5, ground := Ground.data }, { on := 3, ground := Ground.chain }], guard := none }) rfl (fun K' hK => ?_) AllL.nil)
      rw [if_pos (by rfl)]
      go_simp
      refine (HIs.out _).mono ?_
      rintro e w6 ⟨rfl, rfl⟩
      refine hK.out _ _ (fun _ => hS0) ?_
      clear hK
      try simp only [Go.Act.put, List.setIfInBounds_toArray, List.set_cons_zero, List.set_cons_succ]
      refine wpL_takeY (i := 7) (v := .bool false) (some 52) rfl rfl (by kernel_rfl) (by kernel_rfl) (by kernel_rfl) (by decide) (fun _ _ _ h => h) (Or.inl ⟨by rfl, fun w' _ => by go_simp⟩) (fun _ => hS0) ?_
      try simp only [Go.Act.put, List.setIfInBounds_toArray, List.set_cons_zero, List.set_cons_succ]
      refine wpL_takeY (i := 8) (v := undef) (some 53) rfl rfl (by kernel_rfl) (by kernel_rfl) (by kernel_rfl) (by decide) (fun _ _ _ h => h) (Or.inr ⟨by rfl, rfl⟩) (fun _ => hS0) ?_
      try simp only [Go.Act.put, List.setIfInBounds_toArray, List.set_cons_zero, List.set_cons_succ]
      refine wpL_takeY (i := 9) (v := undef) (some 54) rfl rfl (by kernel_rfl) (by kernel_rfl) (by kernel_rfl) (by decide) (fun _ _ _ h => h) (Or.inr ⟨by rfl, rfl⟩) (fun _ => hS0) ?_
      try simp only [Go.Act.put, List.setIfInBounds_toArray, List.set_cons_zero, List.set_cons_succ]
      refine wpL_takeY (i := 10) (v := undef) (some 55) rfl rfl (by kernel_rfl) (by kernel_rfl) (by kernel_rfl) (by decide) (fun _ _ _ h => h) (Or.inr ⟨by rfl, rfl⟩) (fun _ => hS0) ?_
      try simp only [Go.Act.put, List.setIfInBounds_toArray, List.set_cons_zero, List.set_cons_succ]
      refine wpL_takeY (i := 11) (v := undef) (some 56) rfl rfl (by kernel_rfl) (by kernel_rfl) (by kernel_rfl) (by decide) (fun _ _ _ h => h) (Or.inr ⟨by rfl, rfl⟩) (fun _ => hS0) ?_
      try simp only [Go.Act.put, List.setIfInBounds_toArray, List.set_cons_zero, List.set_cons_succ]
      refine wpL_takeY (i := 12) (v := undef) (some 57) rfl rfl (by kernel_rfl) (by kernel_rfl) (by kernel_rfl) (by decide) (fun _ _ _ h => h) (Or.inr ⟨by rfl, rfl⟩) (fun _ => hS0) ?_
      try simp only [Go.Act.put, List.setIfInBounds_toArray, List.set_cons_zero, List.set_cons_succ]
      refine wpL_takeY (i := 13) (v := undef) (some 58) rfl rfl (by kernel_rfl) (by kernel_rfl) (by kernel_rfl) (by decide) (fun _ _ _ h => h) (Or.inr ⟨by rfl, rfl⟩) (fun _ => hS0) ?_
      try simp only [Go.Act.put, List.setIfInBounds_toArray, List.set_cons_zero, List.set_cons_succ]
      refine wpL_takeY (i := 14) (v := .bool false) (some 59) rfl rfl (by kernel_rfl) (by kernel_rfl) (by kernel_rfl) (by decide) (fun _ _ _ h => h) (Or.inl ⟨by rfl, fun w' _ => by go_simp⟩) (fun _ => hS0) ?_
      try simp only [Go.Act.put, List.setIfInBounds_toArray, List.set_cons_zero, List.set_cons_succ]
      refine wpL_takeY (i := 15) (v := .bool true) (some 60) rfl rfl (by kernel_rfl) (by kernel_rfl) (by kernel_rfl) (by decide) (fun _ _ _ h => h) (Or.inl ⟨by rfl, fun w' _ => by go_simp⟩) (fun _ => hS0) ?_
      try simp only [Go.Act.put, List.setIfInBounds_toArray, List.set_cons_zero, List.set_cons_succ]
      refine wpL_takeY (i := 16) (v := .bool true) (some 61) rfl rfl (by kernel_rfl) (by kernel_rfl) (by kernel_rfl) (by decide) (fun _ _ _ h => h) (Or.inl ⟨by rfl, fun w' _ => by go_simp⟩) (fun _ => hS0) ?_
      try simp only [Go.Act.put, List.setIfInBounds_toArray, List.set_cons_zero, List.set_cons_succ]
      refine wpL_takeY (i := 17) (v := .pointer (some ⟨g, 0, none⟩)) (some 62) rfl rfl (by kernel_rfl) (by kernel_rfl) (by kernel_rfl) (by decide) (fun _ _ _ h => h) (Or.inl ⟨by rfl, fun w' _ => by go_simp⟩) (fun _ => hS0) ?_
      try simp only [Go.Act.put, List.setIfInBounds_toArray, List.set_cons_zero, List.set_cons_succ]
      refine wpL_takeY (i := 18) (v := .pointer (some ⟨bA, 1, none⟩)) (some 63) rfl rfl (by kernel_rfl) (by kernel_rfl) (by kernel_rfl) (by decide) (fun _ _ _ h => h) (Or.inl ⟨by rfl, fun w' _ => by go_simp⟩) (fun _ => hS0) ?_
      try simp only [Go.Act.put, List.setIfInBounds_toArray, List.set_cons_zero, List.set_cons_succ]
      refine wpL_take (i := 19) (v := .int .i64 n) (some 64) rfl rfl (by kernel_rfl) (by kernel_rfl) (by kernel_rfl) (by kernel_rfl) (by kernel_rfl) (by decide) (fun _ _ _ h => h) (Or.inl ⟨by rfl, fun w' hS => (by have hc := HA1.out w' hS; go_simp)⟩) hS0 ?_
      try simp only [Go.Act.put, List.setIfInBounds_toArray, List.set_cons_zero, List.set_cons_succ]
      refine wpL_take (i := 21) (v := .agg c) (some 66) rfl rfl (by kernel_rfl) (by kernel_rfl) (by kernel_rfl) (by kernel_rfl) (by kernel_rfl) (by decide) (fun _ _ _ h => h) (Or.inl ⟨by rfl, fun w' hS => exec_load29 _ rfl rfl (HB1.out w' hS) HD.out.size⟩) hS0 ?_
      try simp only [Go.Act.put, List.setIfInBounds_toArray, List.set_cons_zero, List.set_cons_succ]
      refine wpL_takeY (i := 22) (v := .pointer (some ⟨bA, 1, none⟩)) (some 67) rfl rfl (by kernel_rfl) (by kernel_rfl) (by kernel_rfl) (by decide) (fun _ _ _ h => h) (Or.inl ⟨by rfl, fun w' _ => by go_simp⟩) (fun _ => hS0) ?_
      try simp only [Go.Act.put, List.setIfInBounds_toArray, List.set_cons_zero, List.set_cons_succ]
      refine wpL_take (i := 23) (v := .int .i64 n) (some 68) rfl rfl (by kernel_rfl) (by kernel_rfl) (by kernel_rfl) (by kernel_rfl) (by kernel_rfl) (by decide) (fun _ _ _ h => h) (Or.inl ⟨by rfl, fun w' hS => (by have hc := HA1.out w' hS; go_simp)⟩) hS0 ?_
      try simp only [Go.Act.put, List.setIfInBounds_toArray, List.set_cons_zero, List.set_cons_succ]
      refine wpL_ready (rs := [20]) (by kernel_rfl) (by simp) (AllL.cons (o := { dst := some 65, op := Op.call { callee := Callee.value (Operand.func 13), args := #[Operand.tmp 62, Operand.tmp 64], argTypes := #[23, 3] }, type := 27, pos := _, after := #[{ on := 17, ground := Ground.data }, { on := 19, ground := Ground.data }, { on := 16, ground := Ground.chain }, { on := 16, ground := Ground.guard }], guard := some (16, true) }) rfl (fun K' hK => ?_) AllL.nil)
      rw [if_pos (by rfl)]
      go_simp
      refine (HWa.out _ hS0).mono ?_
      rintro e w7 ⟨v7, rfl, r7, t7⟩
      have hS7 := hS0.trans' t7
      have R7 := hid r7
      clear r7 t7
      refine hK.out _ _ (fun _ => hS7) ?_
      clear hK
      try simp only [Go.Act.put, List.setIfInBounds_toArray, List.set_cons_zero, List.set_cons_succ]
      refine wpL_ready (rs := [24]) (by kernel_rfl) (by simp) (AllL.cons (o := { dst := some 69, op := Op.call { callee := Callee.value (Operand.func 14), args := #[Operand.tmp 66, Operand.tmp 68], argTypes := #[29, 3] }, type := 27, pos := _, after := #[{ on := 21, ground := Ground.data }, { on := 23, ground := Ground.data }, { on := 20, ground := Ground.chain }, { on := 16, ground := Ground.guard }], guard := some (16, true) }) rfl (fun K' hK => ?_) AllL.nil)
      rw [if_pos (by rfl)]
      go_simp
      refine (HWd.out _ hS7).mono ?_
      rintro e w8 ⟨v8, rfl, r8, t8⟩
      have hS8 := hS7.trans' t8
      have R8 := hid (And.intro (R7.out.keep0 t8) r8)
      clear r8 t8
      refine hK.out _ _ (fun _ => hS8) ?_
      clear hK
      try simp only [Go.Act.put, List.setIfInBounds_toArray, List.set_cons_zero, List.set_cons_succ]
      refine wpL_ready (rs := [25]) (by kernel_rfl) (by simp) (AllL.cons (o := { dst := some 70, op := Op.call { callee := Callee.value (Operand.func 12), args := #[Operand.tmp 65, Operand.tmp 69], argTypes := #[27, 27] }, type := 4, pos := _, after := #[{ on := 20, ground := Ground.data }, { on := 24, ground := Ground.data }, { on := 24, ground := Ground.chain }, { on := 16, ground := Ground.guard }], guard := some (16, true) }) rfl (fun K' hK => ?_) AllL.nil)
      rw [if_pos (by rfl)]
      go_simp
      refine (ints12 _ v7 v8 _ R8.out.1 R8.out.2 HLw.out).mono ?_
      rintro e w9 ⟨rfl, t9⟩
      have hS9 := hS8.trans' t9
      clear t9
      refine hK.out _ _ (fun _ => hS9) ?_
      clear hK
      try simp only [Go.Act.put, List.setIfInBounds_toArray, List.set_cons_zero, List.set_cons_succ]
      refine wpL_takeY (i := 26) (v := .bool true) (some 71) rfl rfl (by kernel_rfl) (by kernel_rfl) (by kernel_rfl) (by decide) (fun _ _ _ h => h) (Or.inl ⟨by rfl, fun w' _ => by go_simp⟩) (fun _ => hS9) ?_
      try simp only [Go.Act.put, List.setIfInBounds_toArray, List.set_cons_zero, List.set_cons_succ]
      refine wpL_takeY (i := 27) (v := .bool true) (some 72) rfl rfl (by kernel_rfl) (by kernel_rfl) (by kernel_rfl) (by decide) (fun _ _ _ h => h) (Or.inl ⟨by rfl, fun w' _ => by go_simp⟩) (fun _ => hS9) ?_
      try simp only [Go.Act.put, List.setIfInBounds_toArray, List.set_cons_zero, List.set_cons_succ]
      refine wpL_takeY (i := 28) (v := .pointer (some ⟨g, 0, none⟩)) (some 73) rfl rfl (by kernel_rfl) (by kernel_rfl) (by kernel_rfl) (by decide) (fun _ _ _ h => h) (Or.inl ⟨by rfl, fun w' _ => by go_simp⟩) (fun _ => hS9) ?_
      try simp only [Go.Act.put, List.setIfInBounds_toArray, List.set_cons_zero, List.set_cons_succ]
      refine wpL_takeY (i := 30) (v := .pointer (some ⟨b1, 256, none⟩)) (some 75) rfl rfl (by kernel_rfl) (by kernel_rfl) (by kernel_rfl) (by decide) (fun _ _ _ h => h) (Or.inl ⟨by rfl, fun w' _ => by go_simp⟩) (fun _ => hS9) ?_
      try simp only [Go.Act.put, List.setIfInBounds_toArray, List.set_cons_zero, List.set_cons_succ]
      refine wpL_take (i := 31) (v := .slice aA N cA) (some 76) rfl rfl (by kernel_rfl) (by kernel_rfl) (by kernel_rfl) (by kernel_rfl) (by kernel_rfl) (by decide) (fun _ _ _ h => h) (Or.inl ⟨by rfl, fun w' hS => (by have hc := HC2.out w' hS; go_simp)⟩) hS9 ?_
      try simp only [Go.Act.put, List.setIfInBounds_toArray, List.set_cons_zero, List.set_cons_succ]
      refine wpL_takeY (i := 32) (v := .int .i64 (N : Int)) (some 77) rfl rfl (by kernel_rfl) (by kernel_rfl) (by kernel_rfl) (by decide) (fun _ _ _ h => h) (Or.inl ⟨by rfl, fun w' _ => by go_simp⟩) (fun _ => hS9) ?_
      try simp only [Go.Act.put, List.setIfInBounds_toArray, List.set_cons_zero, List.set_cons_succ]
      refine wpL_ready (rs := [29]) (by kernel_rfl) (by simp) (AllL.cons (o := { dst := some 74, op := Op.call { callee := Callee.value (Operand.func 15), args := #[Operand.tmp 73], argTypes := #[23] }, type := 3, pos := _, after := #[{ on := 28, ground := Ground.data }, { on := 27, ground := Ground.chain }, { on := 27, ground := Ground.guard }], guard := some (27, true) }) rfl (fun K' hK => ?_) AllL.nil)
      rw [if_pos (by rfl)]
      go_simp
      refine (HLn.out _ hS9).mono ?_
      rintro e w10 ⟨rfl, rfl⟩
      refine hK.out _ _ (fun _ => hS9) ?_
      clear hK
      try simp only [Go.Act.put, List.setIfInBounds_toArray, List.set_cons_zero, List.set_cons_succ]
      refine wpL_takeY (i := 33) (v := .bool true) (some 78) rfl rfl (by kernel_rfl) (by kernel_rfl) (by kernel_rfl) (by decide) (fun _ _ _ h => h) (Or.inl ⟨by rfl, fun w' _ => by go_simp⟩) (fun _ => hS9) ?_
      try simp only [Go.Act.put, List.setIfInBounds_toArray, List.set_cons_zero, List.set_cons_succ]
      refine wpL_takeY (i := 34) (v := .bool true) (some 79) rfl rfl (by kernel_rfl) (by kernel_rfl) (by kernel_rfl) (by decide) (fun _ _ _ h => h) (Or.inl ⟨by rfl, fun w' _ => by go_simp⟩) (fun _ => hS9) ?_
      try simp only [Go.Act.put, List.setIfInBounds_toArray, List.set_cons_zero, List.set_cons_succ]
      refine wpL_ready (rs := [35]) (by kernel_rfl) (by simp) (AllL.cons (o := { dst := some 6, op := Op.assign (Operand.tmp 79), type := 4, pos := _, after := #[{ on := 34, ground := Ground.data }, { on := 29, ground := Ground.chain }, { on := 0, ground := Ground.phase }, { on := 1, ground := Ground.phase }, { on := 2, ground := Ground.phase }, { on := 3, ground := Ground.phase }, { on := 4, ground := Ground.phase }, { on := 5, ground := Ground.phase }, { on := 6, ground := Ground.phase }, { on := 7, ground := Ground.phase }, { on := 8, ground := Ground.phase }, { on := 9, ground := Ground.phase }, { on := 10, ground := Ground.phase }, { on := 11, ground := Ground.phase }, { on := 12, ground := Ground.phase }, { on := 13, ground := Ground.phase }, { on := 14, ground := Ground.phase }, { on := 15, ground := Ground.phase }, { on := 16, ground := Ground.phase }, { on := 17, ground := Ground.phase }, { on := 18, ground := Ground.phase }, { on := 19, ground := Ground.phase }, { on := 20, ground := Ground.phase }, { on := 21, ground := Ground.phase }, { on := 22, ground := Ground.phase }, { on := 23, ground := Ground.phase }, { on := 24, ground := Ground.phase }, { on := 25, ground := Ground.phase }, { on := 26, ground := Ground.phase }, { on := 27, ground := Ground.phase }, { on := 28, ground := Ground.phase }, { on := 29, ground := Ground.phase }, { on := 30, ground := Ground.phase }, { on := 31, ground := Ground.phase }, { on := 32, ground := Ground.phase }, { on := 33, ground := Ground.phase }, { on := 34, ground := Ground.phase }], guard := none }) rfl (fun K' hK => ?_) AllL.nil)
      rw [if_pos (by rfl)]
      go_simp
      refine hK.out _ _ (fun _ => hS9) ?_
      have E9 := hid (TW.out.trans' hS9)
      clear hK
      try simp only [Go.Act.put, List.setIfInBounds_toArray, List.set_cons_zero, List.set_cons_succ]
      refine wpL_done (by kernel_rfl) ?_ _
      go_wp2_with fail
      go_ret
      exact ⟨rfl, E9.out⟩
end
end Go.Proofs.Ytmbjjkdocmcpdaa
