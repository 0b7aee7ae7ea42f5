/- A load's Step, where it is not over and does not wait, and its token is not cancelled; the conditions are those that each states. -/
import Derived.Test.YtcbckehdlbbbbaaDoorMc10
import Derived.Test.YtcbckehdlbbbbaaDoorMcRdot
namespace Go.Proofs.YtcbckehdlbbbbaaDoor
open Go.RowKit Go.Maps Go.ChangeMaps
set_option linter.unusedVariables false
set_option linter.unusedSimpArgs false
section
variable {w : World} {b r : Nat} {S : Ld} {vr vl : Value}
theorem kb_ne {w : World} {x y : Nat} {a c : Array Value} (h : w.heap[x]? = some (.cells a 76 (0, 0))) (k : w.heap[y]? = some (.cells c 51 (0, 0))) : ¬ y = x := fun e => by
  rw [e, h] at k
  simp at k
theorem ob_ne {w : World} {x y : Nat} {a c : Array Value} (h : w.heap[x]? = some (.cells a 51 (0, 0))) (k : w.heap[y]? = some (.cells c 76 (0, 0))) : ¬ y = x := fun e => by
  rw [e, h] at k
  simp at k
set_option maxHeartbeats 8000000 in
set_option maxRecDepth 100000 in
theorem step_go (h : Lq w b r S vr vl) (hk : Rc.Kd w) (hi : Iv S) {q : Ip} {l : List Ip} (e : S.left = q :: l) (hwt : S.wt = 0) (vg vc vt : Value) (ht : Tk w vt) {k : Nat} {m wt on : Int} (hf : q.1.f S.p S.n = .go k m wt on) (P : World → World → Int → Int → Int → Int → Int → Prop) (hgo : ∀ w1, Touch [] w w1 → Calls Tryd.prog 33 #[.pointer (some ⟨b, 0, none⟩), .agg #[.int .i64 k, .int .i64 m, .int .i64 wt, .int .i64 on], vg, vc] w1 fun e w2 => ∃ (y0 y1 y2 y3 er : Int) (F : List Nat), e = .returned (.tuple #[.agg #[.int .i64 y0, .int .i64 y1, .int .i64 y2, .int .i64 y3], .int .i64 er]) ∧ Touch F w1 w2 ∧ ¬ w.heap.size ∈ F ∧ P w1 w2 y0 y1 y2 y3 er) : Calls Tryd.prog 12 #[.pointer (some ⟨b, 0, none⟩), vg, vc, vt] w fun e w' => ∃ (y0 y1 y2 y3 er : Int) (w1 w2 : World), e = .returned (.tuple #[.agg #[.int .i64 y0, .int .i64 y1, .int .i64 y2, .int .i64 y3], .int .i64 er]) ∧ Touch [] w w1 ∧ w.heap.size < w1.heap.size ∧ P w1 w2 y0 y1 y2 y3 er ∧ Touch [w.heap.size] w2 w' := by
  obtain ⟨al, cl, rfl, hcl⟩ := h.vform
  obtain ⟨g, off, rfl, hA⟩ := Its.item (i := 0) h.lf.its (by rw [e]; simp)
  have hq : S.left[0]'(by rw [e]; simp) = q := by simp [e]
  rw [hq] at hA
  simp only [Nat.zero_mul, Nat.add_zero] at hA
  have hqm : q ∈ S.left := by rw [e]; simp
  obtain ⟨ad, cd, e2, _⟩ := Rv.form (h.lf.its.sv q hqm)
  have hbw : b < w.heap.size := block_lt h.bl
  obtain ⟨V, hV⟩ : ∃ V, V = (w.alloc (.cells #[.int .i64 0, .int .i64 0, .int .i64 0, .int .i64 0] 43)).alloc (.cells #[.int .i64 q.1.run, .int .u16 q.1.sp, .string q.1.nm, .int .i64 q.1.tok, .slice ad q.1.L.length cd] 33) := ⟨_, rfl⟩
  have tv : Touch [] w V := by rw [hV]; exact ((Touch.refl _ _).alloc _).alloc _
  have hb0 : V.heap[w.heap.size]? = some (.cells #[.int .i64 0, .int .i64 0, .int .i64 0, .int .i64 0] 43 (0, 0)) := by rw [hV]; exact ((Touch.refl [] _).alloc _).keep (heap_alloc_new w _) (by simp)
  have hb1 : V.heap[w.heap.size + 1]? = some (.cells #[.int .i64 q.1.run, .int .u16 q.1.sp, .string q.1.nm, .int .i64 q.1.tok, .slice ad q.1.L.length cd] 33 (0, 0)) := by
    rw [hV]
    have := heap_alloc_new (w.alloc (.cells #[.int .i64 0, .int .i64 0, .int .i64 0, .int .i64 0] 43)) (.cells #[.int .i64 q.1.run, .int .u16 q.1.sp, .string q.1.nm, .int .i64 q.1.tok, .slice ad q.1.L.length cd] 33)
    rw [World.size_alloc] at this
    exact this
  have HTV := hid tv
  have HB := hid (And.intro hb0 hb1)
  have HL := hid h
  have HIS : Hid (∀ w', Touch [] V w' → Calls Tryd.prog 29 #[vt, .int .i64 q.1.tok] w' fun e w2 => e = .returned (.bool false) ∧ w2 = w') := hid (fun w' T => tis_ (ht.keep0 (tv.trans' T)) _)
  have HO : Hid (∀ w', Touch [] w w' → Calls Tryd.prog 11 #[.pointer (some ⟨b, 0, none⟩)] w' fun e w2 => e = .returned (.bool false) ∧ w2 = w') := hid (fun w' T => over_no (h.keep0 T) e)
  have HW : Hid (∀ w', Touch [] w w' → Calls Tryd.prog 14 #[.pointer (some ⟨b, 0, none⟩)] w' fun e w2 => e = .returned (.tuple #[.int .i64 0, .int .i64 0, .bool false]) ∧ w2 = w') := hid (fun w' T => waits_no (h.keep0 T) hwt)
  have y0 := hA.c0
  have y1 := hA.c1
  have y2 := hA.c2
  have y3 := hA.c3
  have y4 := hA.c4
  rw [e2] at y4
  have c2 : w.cell? ⟨b, 2, none⟩ = some (.slice (some ⟨g, off, none⟩) S.left.length cl) := cell_at h.bl rfl
  have hzl : (0 : Int) < (S.left.length : Int) := by rw [e]; simp
  have hgw : g < w.heap.size := cell_lt' y0
  have HWT := hid hwt
  have hok := hi.ok q hqm
  have HDO : Hid (∀ w', Touch [] w w' → Calls Tryd.prog 32 #[.slice ad q.1.L.length cd, .agg #[.int .i64 S.p, .int .i64 S.n, .int .i64 0, .int .i64 S.on], .agg #[.int .u16 q.1.sp, .string q.1.nm, .int .i64 q.1.run, .bool false]] w' fun e w2 => e = .returned (.tuple #[.agg #[.int .i64 k, .int .i64 m, .int .i64 wt, .int .i64 on], .agg #[.int .i64 0, .int .i64 0, .int .i64 0, .int .i64 0], .bool false, .int .i64 0]) ∧ Touch [] w' w2) := hid (fun w' T => by
    have hs := (h.lf.its.sv q hqm).keep0 T
    rw [e2] at hs
    refine (Rc.do12 q.1.L ad cd S.p S.n S.on q.1.ar w' (Kd.touch hk T) hs.sl.2 hok.good hok.wf.L hi.n (hi.p q (by rw [e]; simp)) hok.ar).mono ?_
    rintro e' w2 ⟨⟨R, rfl, hR⟩, g2⟩
    have hR' : R = Rc.Rs.go k m wt on := hR.trans hf
    subst hR'
    exact ⟨rfl, Gr.touch g2⟩)
  clear hok hk hi hwt hf e2
  clear h hA hcl hq hqm tv hb0 hb1 ht
  clear e
  go_enter Tryd.func12, Tryd.ntmps12
  go_upto_region 7 with (first
    | (go_at_call 11; refine (HO.out _ ((Touch.refl _ _).alloc _)).mono ?_; rintro e w2 ⟨rfl, rfl⟩)
    | (go_at_call 14; refine (HW.out _ ((Touch.refl _ _).alloc _)).mono ?_; rintro e w2 ⟨rfl, rfl⟩)
    | fail)
  rw [← hV]
  clear hV y0 y1 y2 y3 y4 c2 HO HW
  go_cut [14] from 36 to 44 (fun s14 wx => s14 = .pointer (some ⟨V.heap.size, 0, none⟩) ∧ Hid (Touch [] V wx ∧ wx.heap[V.heap.size]? = some (.cells #[.int .u16 q.1.sp, .string q.1.nm, .int .i64 q.1.run, .bool false] 71 (0, 0))))
  case first =>
   refine wp_region_H (S := fun w' => Touch [] V w') (by kernel_rfl) ?_
   have s0 : Touch [] V V.drew := (Touch.refl _ _).drew
   have y0 : ∀ w', Touch [] V w' → w'.cell? ⟨w.heap.size + 1, 0, none⟩ = some (.int .i64 q.1.run) := fun w' T => cell_at (T.keep HB.out.2 (by simp)) rfl
   have y1 : ∀ w', Touch [] V w' → w'.cell? ⟨w.heap.size + 1, 1, none⟩ = some (.int .u16 q.1.sp) := fun w' T => cell_at (T.keep HB.out.2 (by simp)) rfl
   have y2 : ∀ w', Touch [] V w' → w'.cell? ⟨w.heap.size + 1, 2, none⟩ = some (.string q.1.nm) := fun w' T => cell_at (T.keep HB.out.2 (by simp)) rfl
   have y3 : ∀ w', Touch [] V w' → w'.cell? ⟨w.heap.size + 1, 3, none⟩ = some (.int .i64 q.1.tok) := fun w' T => cell_at (T.keep HB.out.2 (by simp)) rfl
   have y4 : ∀ w', Touch [] V w' → w'.cell? ⟨w.heap.size + 1, 4, none⟩ = some (.slice ad q.1.L.length cd) := fun w' T => cell_at (T.keep HB.out.2 (by simp)) rfl
   refine wpH_take (i := 0) (v := (.pointer (some ⟨w.heap.size + 1, 1, none⟩))) (some 36) rfl rfl (by kernel_rfl) (by kernel_rfl) (by kernel_rfl) (fun _ _ _ h => h) (Or.inl ⟨by rfl, fun w' hS => (by go_simp)⟩) s0 ?_
   try simp only [Go.Act.put, List.setIfInBounds_toArray, List.set_cons_zero, List.set_cons_succ]
   refine wpH_take (i := 1) (v := (.agg #[.int .u16 q.1.sp, .string q.1.nm])) (some 37) rfl rfl (by kernel_rfl) (by kernel_rfl) (by kernel_rfl) (fun _ _ _ h => h) (Or.inl ⟨by rfl, fun w' hS => (by have z0 := y1 _ hS; have z1 := y2 _ hS; go_simp)⟩) s0 ?_
   try simp only [Go.Act.put, List.setIfInBounds_toArray, List.set_cons_zero, List.set_cons_succ]
   refine wpH_take (i := 2) (v := (.pointer (some ⟨w.heap.size + 1, 0, none⟩))) (some 38) rfl rfl (by kernel_rfl) (by kernel_rfl) (by kernel_rfl) (fun _ _ _ h => h) (Or.inl ⟨by rfl, fun w' hS => (by go_simp)⟩) s0 ?_
   try simp only [Go.Act.put, List.setIfInBounds_toArray, List.set_cons_zero, List.set_cons_succ]
   refine wpH_take (i := 3) (v := (.int .i64 q.1.run)) (some 39) rfl rfl (by kernel_rfl) (by kernel_rfl) (by kernel_rfl) (fun _ _ _ h => h) (Or.inl ⟨by rfl, fun w' hS => (by have z0 := y0 _ hS; go_simp)⟩) s0 ?_
   try simp only [Go.Act.put, List.setIfInBounds_toArray, List.set_cons_zero, List.set_cons_succ]
   refine wpH_take (i := 4) (v := (vt)) (some 40) rfl rfl (by kernel_rfl) (by kernel_rfl) (by kernel_rfl) (fun _ _ _ h => h) (Or.inl ⟨by rfl, fun w' hS => (by go_simp)⟩) s0 ?_
   try simp only [Go.Act.put, List.setIfInBounds_toArray, List.set_cons_zero, List.set_cons_succ]
   refine wpH_take (i := 5) (v := (.pointer (some ⟨w.heap.size + 1, 3, none⟩))) (some 41) rfl rfl (by kernel_rfl) (by kernel_rfl) (by kernel_rfl) (fun _ _ _ h => h) (Or.inl ⟨by rfl, fun w' hS => (by go_simp)⟩) s0 ?_
   try simp only [Go.Act.put, List.setIfInBounds_toArray, List.set_cons_zero, List.set_cons_succ]
   refine wpH_take (i := 6) (v := (.int .i64 q.1.tok)) (some 42) rfl rfl (by kernel_rfl) (by kernel_rfl) (by kernel_rfl) (fun _ _ _ h => h) (Or.inl ⟨by rfl, fun w' hS => (by have z0 := y3 _ hS; go_simp)⟩) s0 ?_
   try simp only [Go.Act.put, List.setIfInBounds_toArray, List.set_cons_zero, List.set_cons_succ]
   refine wpH_ready (rs := [7, 9]) (by kernel_rfl) (by simp) ?_
   refine AllH.cons (o := { dst := some 43, op := Op.call { callee := Callee.value (Operand.func 29), args := #[Operand.tmp 40, Operand.tmp 42], argTypes := #[40, 3] }, type := 4, pos := _, after := #[{ on := 4, ground := Ground.data }, { on := 6, ground := Ground.data }], guard := none }) rfl (fun K' hK => ?_) ?_
   · rw [if_pos (by rfl)]
     go_simp
     refine (HIS.out _ s0).mono ?_
     rintro e' Y' ⟨rfl, e0⟩
     rw [e0]
     clear e0 Y'
     refine hK.out _ _ s0 ?_
     clear hK
     try simp only [Go.Act.put, List.setIfInBounds_toArray, List.set_cons_zero, List.set_cons_succ]
     refine wpH_take (i := 8) (v := (.agg #[.int .u16 q.1.sp, .string q.1.nm, .int .i64 q.1.run, .bool false])) (some 44) rfl rfl (by kernel_rfl) (by kernel_rfl) (by kernel_rfl) (fun _ _ _ h => h) (Or.inl ⟨by rfl, fun w' hS => (by go_simp)⟩) s0 ?_
     try simp only [Go.Act.put, List.setIfInBounds_toArray, List.set_cons_zero, List.set_cons_succ]
     refine wpH_call (i := 9) (o := { dst := some 14, op := Op.alloc 71, type := 0, pos := _, after := #[], guard := none }) (by kernel_rfl) rfl (fun K' hK => ?_)
     rw [if_pos (by rfl)]
     go_simp
     refine hK.out _ _ (((Touch.refl [] V).alloc _).drew) ?_
     clear hK
     try simp only [Go.Act.put, List.setIfInBounds_toArray, List.set_cons_zero, List.set_cons_succ]
     refine wpH_call (i := 10) (o := { dst := none, op := Op.store 71 (Operand.tmp 14) (Operand.tmp 44), type := 0, pos := _, after := #[{ on := 9, ground := Ground.data }, { on := 8, ground := Ground.data }, { on := 7, ground := Ground.chain }, { on := 0, ground := Ground.phase }, { on := 1, ground := Ground.phase }, { on := 2, ground := Ground.phase }, { on := 3, ground := Ground.phase }, { on := 4, ground := Ground.phase }, { on := 5, ground := Ground.phase }, { on := 6, ground := Ground.phase }, { on := 7, ground := Ground.phase }, { on := 8, ground := Ground.phase }, { on := 9, ground := Ground.phase }], guard := none }) (by kernel_rfl) rfl (fun K' hK => ?_)
     rw [if_pos (by rfl)]
     go_simp
     refine hK.out _ _ (((Touch.refl [] V).alloc _).drew) ?_
     clear hK
     try simp only [Go.Act.put, List.setIfInBounds_toArray, List.set_cons_zero, List.set_cons_succ]
     refine wpAnyH_done (by kernel_rfl) ?_ _
     go_wp2_with fail
     go_meet
     case rel => exact ⟨rfl, hid ⟨((Touch.refl _ _).alloc _).drew, heap_alloc_new V _⟩⟩
   refine AllH.cons (o := { dst := some 14, op := Op.alloc 71, type := 0, pos := _, after := #[], guard := none }) rfl (fun K' hK => ?_) ?_
   · rw [if_pos (by rfl)]
     go_simp
     refine hK.out _ _ (((Touch.refl [] V).alloc _).drew) ?_
     clear hK
     try simp only [Go.Act.put, List.setIfInBounds_toArray, List.set_cons_zero, List.set_cons_succ]
     refine wpH_call (i := 7) (o := { dst := some 43, op := Op.call { callee := Callee.value (Operand.func 29), args := #[Operand.tmp 40, Operand.tmp 42], argTypes := #[40, 3] }, type := 4, pos := _, after := #[{ on := 4, ground := Ground.data }, { on := 6, ground := Ground.data }], guard := none }) (by kernel_rfl) rfl (fun K' hK => ?_)
     rw [if_pos (by rfl)]
     go_simp
     refine (HIS.out _ (((Touch.refl [] V).alloc _).drew)).mono ?_
     rintro e' Y' ⟨rfl, e0⟩
     rw [e0]
     clear e0 Y'
     refine hK.out _ _ (((Touch.refl [] V).alloc _).drew) ?_
     clear hK
     try simp only [Go.Act.put, List.setIfInBounds_toArray, List.set_cons_zero, List.set_cons_succ]
     refine wpH_take (i := 8) (v := (.agg #[.int .u16 q.1.sp, .string q.1.nm, .int .i64 q.1.run, .bool false])) (some 44) rfl rfl (by kernel_rfl) (by kernel_rfl) (by kernel_rfl) (fun _ _ _ h => h) (Or.inl ⟨by rfl, fun w' hS => (by go_simp)⟩) (((Touch.refl [] V).alloc _).drew) ?_
     try simp only [Go.Act.put, List.setIfInBounds_toArray, List.set_cons_zero, List.set_cons_succ]
     refine wpH_call (i := 10) (o := { dst := none, op := Op.store 71 (Operand.tmp 14) (Operand.tmp 44), type := 0, pos := _, after := #[{ on := 9, ground := Ground.data }, { on := 8, ground := Ground.data }, { on := 7, ground := Ground.chain }, { on := 0, ground := Ground.phase }, { on := 1, ground := Ground.phase }, { on := 2, ground := Ground.phase }, { on := 3, ground := Ground.phase }, { on := 4, ground := Ground.phase }, { on := 5, ground := Ground.phase }, { on := 6, ground := Ground.phase }, { on := 7, ground := Ground.phase }, { on := 8, ground := Ground.phase }, { on := 9, ground := Ground.phase }], guard := none }) (by kernel_rfl) rfl (fun K' hK => ?_)
     rw [if_pos (by rfl)]
     go_simp
     refine hK.out _ _ (((Touch.refl [] V).alloc _).drew) ?_
     clear hK
     try simp only [Go.Act.put, List.setIfInBounds_toArray, List.set_cons_zero, List.set_cons_succ]
     refine wpAnyH_done (by kernel_rfl) ?_ _
     go_wp2_with fail
     go_meet
     case rel => exact ⟨rfl, hid ⟨((Touch.refl _ _).alloc _).drew, heap_alloc_new V _⟩⟩
   exact AllH.nil
  case rest =>
   obtain ⟨rfl, HC7⟩ := hcut
   obtain ⟨W2, rfl⟩ : ∃ W2, W2 = wc := ⟨_, rfl⟩
   have HT2 := hid HC7.out.1
   have HB2 := hid HC7.out.2
   clear HC7 HIS
   have a2 := cell_at (j := 2) (v := .int .i64 q.1.run) HB2.out rfl
   have a3 := cell_at (j := 3) (v := .bool false) HB2.out rfl
   go_upto_region 10 with fail
   clear a2 a3
   have HB1 : Hid (∀ w', Touch [] W2 w' → w'.heap[w.heap.size]? = some (.cells #[.int .i64 0, .int .i64 0, .int .i64 0, .int .i64 0] 43 (0, 0)) ∧ w'.heap[w.heap.size + 1]? = some (.cells #[.int .i64 q.1.run, .int .u16 q.1.sp, .string q.1.nm, .int .i64 q.1.tok, .slice ad q.1.L.length cd] 33 (0, 0)) ∧ w'.heap[b]? = some (.cells (lc S vr (.slice (some ⟨g, off, none⟩) S.left.length cl)) 78 (0, 0)) ∧ w'.heap[V.heap.size]? = some (.cells #[.int .u16 q.1.sp, .string q.1.nm, .int .i64 q.1.run, .bool false] 71 (0, 0))) := hid (fun w' T => ⟨(HT2.out.trans' T).keep HB.out.1 (by simp), (HT2.out.trans' T).keep HB.out.2 (by simp), ((HTV.out.trans' HT2.out).trans' T).keep HL.out.bl (by simp), T.keep HB2.out (by simp)⟩)
   have HD : Hid (∀ w', Touch [] W2 w' → Calls Tryd.prog 32 #[.slice ad q.1.L.length cd, .agg #[.int .i64 S.p, .int .i64 S.n, .int .i64 0, .int .i64 S.on], .agg #[.int .u16 q.1.sp, .string q.1.nm, .int .i64 q.1.run, .bool false]] w' fun e w2 => e = .returned (.tuple #[.agg #[.int .i64 k, .int .i64 m, .int .i64 wt, .int .i64 on], .agg #[.int .i64 0, .int .i64 0, .int .i64 0, .int .i64 0], .bool false, .int .i64 0]) ∧ Touch [] W2 w2) := hid (fun w' T => (HDO.out w' ((HTV.out.trans' HT2.out).trans' T)).mono (by
     rintro e w2 ⟨rfl, t2⟩
     exact ⟨rfl, T.trans' t2⟩))
   have HD2 : Hid (∀ w', Touch [] W2 w' → Calls Tryd.prog 32 #[.slice ad q.1.L.length cd, .agg #[.int .i64 S.p, .int .i64 S.n, .int .i64 0, .int .i64 S.on], .agg #[.int .u16 q.1.sp, .string q.1.nm, .int .i64 q.1.run, .bool false]] w' fun e w2 => e = .returned (.tuple #[.agg #[.int .i64 k, .int .i64 m, .int .i64 wt, .int .i64 on], .agg #[.int .i64 0, .int .i64 0, .int .i64 0, .int .i64 0], .bool false, .int .i64 0]) ∧ Touch [] w' w2) := hid (fun w' T => HDO.out w' ((HTV.out.trans' HT2.out).trans' T))
   have HTW := hid (HTV.out.trans' HT2.out)
   have HVS : Hid (w.heap.size + 1 < W2.heap.size) := hid (Nat.lt_of_lt_of_le (block_lt HB.out.2) HT2.out.size)
   clear HDO HB2 HB HTV HT2
   have z4 : ∀ w', Touch [] W2 w' → w'.cell? ⟨w.heap.size + 1, 4, none⟩ = some (.slice ad q.1.L.length cd) := fun w' T => cell_at (HB1.out w' T).2.1 rfl
   have k3 : ∀ w', Touch [] W2 w' → w'.cell? ⟨b, 3, none⟩ = some (.int .i64 S.p) := fun w' T => cell_at (HB1.out w' T).2.2.1 rfl
   have k4 : ∀ w', Touch [] W2 w' → w'.cell? ⟨b, 4, none⟩ = some (.int .i64 S.n) := fun w' T => cell_at (HB1.out w' T).2.2.1 rfl
   have k5 : ∀ w', Touch [] W2 w' → w'.cell? ⟨b, 5, none⟩ = some (.int .i64 0) := fun w' T => by rw [← HWT.out]; exact cell_at (HB1.out w' T).2.2.1 rfl
   have k6 : ∀ w', Touch [] W2 w' → w'.cell? ⟨b, 6, none⟩ = some (.int .i64 S.on) := fun w' T => cell_at (HB1.out w' T).2.2.1 rfl
   have u0 : ∀ w', Touch [] W2 w' → w'.cell? ⟨V.heap.size, 0, none⟩ = some (.int .u16 q.1.sp) := fun w' T => cell_at (HB1.out w' T).2.2.2 rfl
   have u1 : ∀ w', Touch [] W2 w' → w'.cell? ⟨V.heap.size, 1, none⟩ = some (.string q.1.nm) := fun w' T => cell_at (HB1.out w' T).2.2.2 rfl
   have u2 : ∀ w', Touch [] W2 w' → w'.cell? ⟨V.heap.size, 2, none⟩ = some (.int .i64 q.1.run) := fun w' T => cell_at (HB1.out w' T).2.2.2 rfl
   have u3 : ∀ w', Touch [] W2 w' → w'.cell? ⟨V.heap.size, 3, none⟩ = some (.bool false) := fun w' T => cell_at (HB1.out w' T).2.2.2 rfl
   go_cut [15, 16, 17, 18] from 60 to 72 (fun s15 s16 s17 s18 wx => ∃ kb ob, s15 = .pointer (some ⟨kb, 0, none⟩) ∧ s16 = .pointer (some ⟨ob, 0, none⟩) ∧ s17 = .bool false ∧ s18 = .int .i64 0 ∧ Hid (W2.heap.size ≤ kb ∧ wx.heap[kb]? = some (.cells #[.int .i64 k, .int .i64 m, .int .i64 wt, .int .i64 on] 76 (0, 0)) ∧ wx.heap[ob]? = some (.cells #[.int .i64 0, .int .i64 0, .int .i64 0, .int .i64 0] 51 (0, 0)) ∧ Touch [] W2 wx))
   case first =>
    refine wp_region_H (S := fun w' => Touch [] W2 w') (by kernel_rfl) ?_
    obtain ⟨X0, hX0⟩ : ∃ X0, X0 = W2.drew := ⟨_, rfl⟩
    rw [← hX0]
    have s0 : Touch [] W2 X0 := by rw [hX0]; exact (Touch.refl _ _).drew
    clear hX0
    refine wpH_take (i := 0) (v := (.pointer (some ⟨w.heap.size + 1, 4, none⟩))) (some 61) rfl rfl (by kernel_rfl) (by kernel_rfl) (by kernel_rfl) (fun _ _ _ h => h) (Or.inl ⟨by rfl, fun w' hS => (by go_simp)⟩) s0 ?_
    try simp only [Go.Act.put, List.setIfInBounds_toArray, List.set_cons_zero, List.set_cons_succ]
    refine wpH_take (i := 1) (v := (.slice ad q.1.L.length cd)) (some 62) rfl rfl (by kernel_rfl) (by kernel_rfl) (by kernel_rfl) (fun _ _ _ h => h) (Or.inl ⟨by rfl, fun w' hS => (by have z0 := z4 _ hS; go_simp)⟩) s0 ?_
    try simp only [Go.Act.put, List.setIfInBounds_toArray, List.set_cons_zero, List.set_cons_succ]
    refine wpH_take (i := 2) (v := (.pointer (some ⟨b, 0, none⟩))) (some 63) rfl rfl (by kernel_rfl) (by kernel_rfl) (by kernel_rfl) (fun _ _ _ h => h) (Or.inl ⟨by rfl, fun w' hS => (by go_simp)⟩) s0 ?_
    try simp only [Go.Act.put, List.setIfInBounds_toArray, List.set_cons_zero, List.set_cons_succ]
    refine wpH_take (i := 3) (v := (.pointer (some ⟨b, 0, none⟩))) (some 64) rfl rfl (by kernel_rfl) (by kernel_rfl) (by kernel_rfl) (fun _ _ _ h => h) (Or.inl ⟨by rfl, fun w' hS => (by go_simp)⟩) s0 ?_
    try simp only [Go.Act.put, List.setIfInBounds_toArray, List.set_cons_zero, List.set_cons_succ]
    refine wpH_take (i := 4) (v := (.pointer (some ⟨b, 3, none⟩))) (some 65) rfl rfl (by kernel_rfl) (by kernel_rfl) (by kernel_rfl) (fun _ _ _ h => h) (Or.inl ⟨by rfl, fun w' hS => (by go_simp)⟩) s0 ?_
    try simp only [Go.Act.put, List.setIfInBounds_toArray, List.set_cons_zero, List.set_cons_succ]
    refine wpH_take (i := 5) (v := (.agg #[.int .i64 S.p, .int .i64 S.n, .int .i64 0, .int .i64 S.on])) (some 66) rfl rfl (by kernel_rfl) (by kernel_rfl) (by kernel_rfl) (fun _ _ _ h => h) (Or.inl ⟨by rfl, fun w' hS => (by have z0 := k3 _ hS; have z1 := k4 _ hS; have z2 := k5 _ hS; have z3 := k6 _ hS; go_simp)⟩) s0 ?_
    try simp only [Go.Act.put, List.setIfInBounds_toArray, List.set_cons_zero, List.set_cons_succ]
    refine wpH_take (i := 6) (v := (.agg #[.int .u16 q.1.sp, .string q.1.nm, .int .i64 q.1.run, .bool false])) (some 67) rfl rfl (by kernel_rfl) (by kernel_rfl) (by kernel_rfl) (fun _ _ _ h => h) (Or.inl ⟨by rfl, fun w' hS => (by have z0 := u0 _ hS; have z1 := u1 _ hS; have z2 := u2 _ hS; have z3 := u3 _ hS; go_simp)⟩) s0 ?_
    try simp only [Go.Act.put, List.setIfInBounds_toArray, List.set_cons_zero, List.set_cons_succ]
    refine wpH_ready (rs := [7, 13, 14]) (by kernel_rfl) (by simp) ?_
    refine AllH.cons (o := { dst := some 68, op := Op.call { callee := Callee.value (Operand.func 32), args := #[Operand.tmp 62, Operand.tmp 66, Operand.tmp 67], argTypes := #[31, 76, 71] }, type := 96, pos := _, after := #[{ on := 1, ground := Ground.data }, { on := 5, ground := Ground.data }, { on := 6, ground := Ground.data }], guard := none }) rfl (fun K' hK => ?_) ?_
    · rw [if_pos (by rfl)]
      go_simp
      have HDk := HD2.out _ s0
      refine HDk.mono ?_
      rintro e' Y1 ⟨rfl, gY1⟩
      have hY1 : Touch [] W2 Y1 := s0.trans' gY1
      refine hK.out _ _ hY1 ?_
      clear hK
      try simp only [Go.Act.put, List.setIfInBounds_toArray, List.set_cons_zero, List.set_cons_succ]
      refine wpH_take (i := 8) (v := (.tuple #[(.agg #[.int .i64 k, .int .i64 m, .int .i64 wt, .int .i64 on]), (.agg #[.int .i64 0, .int .i64 0, .int .i64 0, .int .i64 0]), (.bool false), (.int .i64 0)])) (some 60) rfl rfl (by kernel_rfl) (by kernel_rfl) (by kernel_rfl) (fun _ _ _ h => h) (Or.inl ⟨by rfl, fun w' hS => (by go_simp)⟩) hY1 ?_
      try simp only [Go.Act.put, List.setIfInBounds_toArray, List.set_cons_zero, List.set_cons_succ]
      refine wpH_take (i := 9) (v := (.agg #[.int .i64 k, .int .i64 m, .int .i64 wt, .int .i64 on])) (some 69) rfl rfl (by kernel_rfl) (by kernel_rfl) (by kernel_rfl) (fun _ _ _ h => h) (Or.inl ⟨by rfl, fun w' hS => (by go_simp)⟩) hY1 ?_
      try simp only [Go.Act.put, List.setIfInBounds_toArray, List.set_cons_zero, List.set_cons_succ]
      refine wpH_take (i := 10) (v := (.agg #[.int .i64 0, .int .i64 0, .int .i64 0, .int .i64 0])) (some 70) rfl rfl (by kernel_rfl) (by kernel_rfl) (by kernel_rfl) (fun _ _ _ h => h) (Or.inl ⟨by rfl, fun w' hS => (by go_simp)⟩) hY1 ?_
      try simp only [Go.Act.put, List.setIfInBounds_toArray, List.set_cons_zero, List.set_cons_succ]
      refine wpH_take (i := 11) (v := (.bool false)) (some 71) rfl rfl (by kernel_rfl) (by kernel_rfl) (by kernel_rfl) (fun _ _ _ h => h) (Or.inl ⟨by rfl, fun w' hS => (by go_simp)⟩) hY1 ?_
      try simp only [Go.Act.put, List.setIfInBounds_toArray, List.set_cons_zero, List.set_cons_succ]
      refine wpH_take (i := 12) (v := (.int .i64 0)) (some 72) rfl rfl (by kernel_rfl) (by kernel_rfl) (by kernel_rfl) (fun _ _ _ h => h) (Or.inl ⟨by rfl, fun w' hS => (by go_simp)⟩) hY1 ?_
      try simp only [Go.Act.put, List.setIfInBounds_toArray, List.set_cons_zero, List.set_cons_succ]
      refine wpH_ready (rs := [13, 14]) (by kernel_rfl) (by simp) ?_
      refine AllH.cons (o := { dst := some 15, op := Op.alloc 76, type := 0, pos := _, after := #[], guard := none }) rfl (fun K' hK => ?_) ?_
      · rw [if_pos (by rfl)]
        go_simp
        refine hK.out _ _ (hY1.alloc _) ?_
        clear hK
        try simp only [Go.Act.put, List.setIfInBounds_toArray, List.set_cons_zero, List.set_cons_succ]
        obtain ⟨Y2, eY2⟩ : ∃ Y, Y = Y1.alloc (.cells #[.int .i64 0, .int .i64 0, .int .i64 0, .int .i64 0] 76) := ⟨_, rfl⟩
        rw [← eY2]
        have hY2 : Touch [] W2 Y2 := by rw [eY2]; exact hY1.alloc _
        have gY2 : Touch [] Y1 Y2 := by rw [eY2]; exact (Touch.refl _ _).alloc _
        have Dkb2 : Y2.heap[Y1.heap.size]? = some (.cells #[.int .i64 0, .int .i64 0, .int .i64 0, .int .i64 0] 76 (0, 0)) := by rw [eY2]; exact heap_alloc_new _ _
        have Lkb2 : W2.heap.size ≤ Y1.heap.size := hY1.size
        clear eY2
        refine wpH_call (i := 14) (o := { dst := some 16, op := Op.alloc 51, type := 0, pos := _, after := #[], guard := none }) (by kernel_rfl) rfl (fun K' hK => ?_)
        rw [if_pos (by rfl)]
        go_simp
        refine hK.out _ _ (hY2.alloc _) ?_
        clear hK
        try simp only [Go.Act.put, List.setIfInBounds_toArray, List.set_cons_zero, List.set_cons_succ]
        obtain ⟨Y3, eY3⟩ : ∃ Y, Y = Y2.alloc (.cells #[.int .i64 0, .int .i64 0, .int .i64 0, .int .i64 0] 51) := ⟨_, rfl⟩
        rw [← eY3]
        have hY3 : Touch [] W2 Y3 := by rw [eY3]; exact hY2.alloc _
        have gY3 : Touch [] Y2 Y3 := by rw [eY3]; exact (Touch.refl _ _).alloc _
        have Ckb3 := gY3.keep Dkb2 (by simp)
        have Dob3 : Y3.heap[Y2.heap.size]? = some (.cells #[.int .i64 0, .int .i64 0, .int .i64 0, .int .i64 0] 51 (0, 0)) := by rw [eY3]; exact heap_alloc_new _ _
        have Lob3 : W2.heap.size ≤ Y2.heap.size := hY2.size
        clear eY3
        refine wpH_call (i := 15) (o := { dst := none, op := Op.store 76 (Operand.tmp 15) (Operand.tmp 69), type := 0, pos := _, after := #[{ on := 13, ground := Ground.data }, { on := 9, ground := Ground.data }, { on := 7, ground := Ground.chain }, { on := 0, ground := Ground.phase }, { on := 1, ground := Ground.phase }, { on := 2, ground := Ground.phase }, { on := 3, ground := Ground.phase }, { on := 4, ground := Ground.phase }, { on := 5, ground := Ground.phase }, { on := 6, ground := Ground.phase }, { on := 7, ground := Ground.phase }, { on := 8, ground := Ground.phase }, { on := 9, ground := Ground.phase }, { on := 10, ground := Ground.textOnly Departure.lateStores }, { on := 11, ground := Ground.textOnly Departure.lateStores }, { on := 12, ground := Ground.textOnly Departure.lateStores }, { on := 13, ground := Ground.phase }, { on := 14, ground := Ground.phase }], guard := none }) (by kernel_rfl) rfl (fun K' hK => ?_)
        rw [if_pos (by rfl)]
        have x0 := cell_at (j := 0) (v := .int .i64 0) Ckb3 rfl
        have x1 := cell_at (j := 1) (v := .int .i64 0) Ckb3 rfl
        have x2 := cell_at (j := 2) (v := .int .i64 0) Ckb3 rfl
        have x3 := cell_at (j := 3) (v := .int .i64 0) Ckb3 rfl
        have xf := froz_at Ckb3
        have xl := block_lt Ckb3
        go_simp
        refine hK.out _ _ ((((hY3.setCell (Or.inr Lkb2) _).setCell (Or.inr Lkb2) _).setCell (Or.inr Lkb2) _).setCell (Or.inr Lkb2) _) ?_
        clear hK
        try simp only [Go.Act.put, List.setIfInBounds_toArray, List.set_cons_zero, List.set_cons_succ]
        obtain ⟨Y4, eY4⟩ : ∃ Y, Y = ((((Y3.setCell ⟨Y1.heap.size, 0, none⟩ (.int .i64 k)).setCell ⟨Y1.heap.size, 1, none⟩ (.int .i64 m)).setCell ⟨Y1.heap.size, 2, none⟩ (.int .i64 wt)).setCell ⟨Y1.heap.size, 3, none⟩ (.int .i64 on)) := ⟨_, rfl⟩
        rw [← eY4]
        have hY4 : Touch [] W2 Y4 := by rw [eY4]; exact ((((hY3.setCell (Or.inr Lkb2) _).setCell (Or.inr Lkb2) _).setCell (Or.inr Lkb2) _).setCell (Or.inr Lkb2) _)
        have gY4 : Touch [Y1.heap.size] Y3 Y4 := by rw [eY4]; exact (((((Touch.refl _ _).setCell (Or.inl (by simp)) _).setCell (Or.inl (by simp)) _).setCell (Or.inl (by simp)) _).setCell (Or.inl (by simp)) _)
        have Ckb4 : Y4.heap[Y1.heap.size]? = some (.cells #[.int .i64 k, .int .i64 m, .int .i64 wt, .int .i64 on] 76 (0, 0)) := by rw [eY4]; have := (bset (i := 3) (bset (i := 2) (bset (i := 1) (bset (i := 0) Ckb3 (.int .i64 k)) (.int .i64 m)) (.int .i64 wt)) (.int .i64 on)); simpa using this
        have Cob4 := gY4.keep Dob3 (fun e => kb_ne Ckb3 Dob3 (by simpa using e))
        clear eY4 x0 x1 x2 x3 xf xl
        refine wpH_call (i := 16) (o := { dst := none, op := Op.store 51 (Operand.tmp 16) (Operand.tmp 70), type := 0, pos := _, after := #[{ on := 14, ground := Ground.data }, { on := 10, ground := Ground.data }, { on := 15, ground := Ground.chain }, { on := 0, ground := Ground.phase }, { on := 1, ground := Ground.phase }, { on := 2, ground := Ground.phase }, { on := 3, ground := Ground.phase }, { on := 4, ground := Ground.phase }, { on := 5, ground := Ground.phase }, { on := 6, ground := Ground.phase }, { on := 7, ground := Ground.phase }, { on := 8, ground := Ground.phase }, { on := 9, ground := Ground.phase }, { on := 10, ground := Ground.phase }, { on := 11, ground := Ground.textOnly Departure.lateStores }, { on := 12, ground := Ground.textOnly Departure.lateStores }, { on := 13, ground := Ground.phase }, { on := 14, ground := Ground.phase }, { on := 15, ground := Ground.phase }], guard := none }) (by kernel_rfl) rfl (fun K' hK => ?_)
        rw [if_pos (by rfl)]
        have x0 := cell_at (j := 0) (v := .int .i64 0) Cob4 rfl
        have x1 := cell_at (j := 1) (v := .int .i64 0) Cob4 rfl
        have x2 := cell_at (j := 2) (v := .int .i64 0) Cob4 rfl
        have x3 := cell_at (j := 3) (v := .int .i64 0) Cob4 rfl
        have xf := froz_at Cob4
        have xl := block_lt Cob4
        go_simp
        refine hK.out _ _ ((((hY4.setCell (Or.inr Lob3) _).setCell (Or.inr Lob3) _).setCell (Or.inr Lob3) _).setCell (Or.inr Lob3) _) ?_
        clear hK
        try simp only [Go.Act.put, List.setIfInBounds_toArray, List.set_cons_zero, List.set_cons_succ]
        obtain ⟨Y5, eY5⟩ : ∃ Y, Y = ((((Y4.setCell ⟨Y2.heap.size, 0, none⟩ (.int .i64 0)).setCell ⟨Y2.heap.size, 1, none⟩ (.int .i64 0)).setCell ⟨Y2.heap.size, 2, none⟩ (.int .i64 0)).setCell ⟨Y2.heap.size, 3, none⟩ (.int .i64 0)) := ⟨_, rfl⟩
        rw [← eY5]
        have hY5 : Touch [] W2 Y5 := by rw [eY5]; exact ((((hY4.setCell (Or.inr Lob3) _).setCell (Or.inr Lob3) _).setCell (Or.inr Lob3) _).setCell (Or.inr Lob3) _)
        have gY5 : Touch [Y2.heap.size] Y4 Y5 := by rw [eY5]; exact (((((Touch.refl _ _).setCell (Or.inl (by simp)) _).setCell (Or.inl (by simp)) _).setCell (Or.inl (by simp)) _).setCell (Or.inl (by simp)) _)
        have Cob5 : Y5.heap[Y2.heap.size]? = some (.cells #[.int .i64 0, .int .i64 0, .int .i64 0, .int .i64 0] 51 (0, 0)) := by rw [eY5]; have := (bset (i := 3) (bset (i := 2) (bset (i := 1) (bset (i := 0) Cob4 (.int .i64 0)) (.int .i64 0)) (.int .i64 0)) (.int .i64 0)); simpa using this
        have Ckb5 := gY5.keep Ckb4 (fun e => ob_ne Cob4 Ckb4 (by simpa using e))
        clear eY5 x0 x1 x2 x3 xf xl
        refine wpH_take (i := 17) (v := (.bool false)) (some 17) rfl rfl (by kernel_rfl) (by kernel_rfl) (by kernel_rfl) (fun _ _ _ h => h) (Or.inl ⟨by rfl, fun w' hS => (by go_simp)⟩) hY5 ?_
        try simp only [Go.Act.put, List.setIfInBounds_toArray, List.set_cons_zero, List.set_cons_succ]
        refine wpH_take (i := 18) (v := (.int .i64 0)) (some 18) rfl rfl (by kernel_rfl) (by kernel_rfl) (by kernel_rfl) (fun _ _ _ h => h) (Or.inl ⟨by rfl, fun w' hS => (by go_simp)⟩) hY5 ?_
        try simp only [Go.Act.put, List.setIfInBounds_toArray, List.set_cons_zero, List.set_cons_succ]
        refine wpAnyH_done (by kernel_rfl) ?_ _
        go_wp2_with fail
        go_meet
        case rel => exact ⟨_, _, rfl, rfl, rfl, rfl, hid ⟨Lkb2, Ckb5, Cob5, hY5⟩⟩
      refine AllH.cons (o := { dst := some 16, op := Op.alloc 51, type := 0, pos := _, after := #[], guard := none }) rfl (fun K' hK => ?_) ?_
      · rw [if_pos (by rfl)]
        go_simp
        refine hK.out _ _ (hY1.alloc _) ?_
        clear hK
        try simp only [Go.Act.put, List.setIfInBounds_toArray, List.set_cons_zero, List.set_cons_succ]
        obtain ⟨Y6, eY6⟩ : ∃ Y, Y = Y1.alloc (.cells #[.int .i64 0, .int .i64 0, .int .i64 0, .int .i64 0] 51) := ⟨_, rfl⟩
        rw [← eY6]
        have hY6 : Touch [] W2 Y6 := by rw [eY6]; exact hY1.alloc _
        have gY6 : Touch [] Y1 Y6 := by rw [eY6]; exact (Touch.refl _ _).alloc _
        have Dob6 : Y6.heap[Y1.heap.size]? = some (.cells #[.int .i64 0, .int .i64 0, .int .i64 0, .int .i64 0] 51 (0, 0)) := by rw [eY6]; exact heap_alloc_new _ _
        have Lob6 : W2.heap.size ≤ Y1.heap.size := hY1.size
        clear eY6
        refine wpH_call (i := 13) (o := { dst := some 15, op := Op.alloc 76, type := 0, pos := _, after := #[], guard := none }) (by kernel_rfl) rfl (fun K' hK => ?_)
        rw [if_pos (by rfl)]
        go_simp
        refine hK.out _ _ (hY6.alloc _) ?_
        clear hK
        try simp only [Go.Act.put, List.setIfInBounds_toArray, List.set_cons_zero, List.set_cons_succ]
        obtain ⟨Y7, eY7⟩ : ∃ Y, Y = Y6.alloc (.cells #[.int .i64 0, .int .i64 0, .int .i64 0, .int .i64 0] 76) := ⟨_, rfl⟩
        rw [← eY7]
        have hY7 : Touch [] W2 Y7 := by rw [eY7]; exact hY6.alloc _
        have gY7 : Touch [] Y6 Y7 := by rw [eY7]; exact (Touch.refl _ _).alloc _
        have Cob7 := gY7.keep Dob6 (by simp)
        have Dkb7 : Y7.heap[Y6.heap.size]? = some (.cells #[.int .i64 0, .int .i64 0, .int .i64 0, .int .i64 0] 76 (0, 0)) := by rw [eY7]; exact heap_alloc_new _ _
        have Lkb7 : W2.heap.size ≤ Y6.heap.size := hY6.size
        clear eY7
        refine wpH_call (i := 15) (o := { dst := none, op := Op.store 76 (Operand.tmp 15) (Operand.tmp 69), type := 0, pos := _, after := #[{ on := 13, ground := Ground.data }, { on := 9, ground := Ground.data }, { on := 7, ground := Ground.chain }, { on := 0, ground := Ground.phase }, { on := 1, ground := Ground.phase }, { on := 2, ground := Ground.phase }, { on := 3, ground := Ground.phase }, { on := 4, ground := Ground.phase }, { on := 5, ground := Ground.phase }, { on := 6, ground := Ground.phase }, { on := 7, ground := Ground.phase }, { on := 8, ground := Ground.phase }, { on := 9, ground := Ground.phase }, { on := 10, ground := Ground.textOnly Departure.lateStores }, { on := 11, ground := Ground.textOnly Departure.lateStores }, { on := 12, ground := Ground.textOnly Departure.lateStores }, { on := 13, ground := Ground.phase }, { on := 14, ground := Ground.phase }], guard := none }) (by kernel_rfl) rfl (fun K' hK => ?_)
        rw [if_pos (by rfl)]
        have x0 := cell_at (j := 0) (v := .int .i64 0) Dkb7 rfl
        have x1 := cell_at (j := 1) (v := .int .i64 0) Dkb7 rfl
        have x2 := cell_at (j := 2) (v := .int .i64 0) Dkb7 rfl
        have x3 := cell_at (j := 3) (v := .int .i64 0) Dkb7 rfl
        have xf := froz_at Dkb7
        have xl := block_lt Dkb7
        go_simp
        refine hK.out _ _ ((((hY7.setCell (Or.inr Lkb7) _).setCell (Or.inr Lkb7) _).setCell (Or.inr Lkb7) _).setCell (Or.inr Lkb7) _) ?_
        clear hK
        try simp only [Go.Act.put, List.setIfInBounds_toArray, List.set_cons_zero, List.set_cons_succ]
        obtain ⟨Y8, eY8⟩ : ∃ Y, Y = ((((Y7.setCell ⟨Y6.heap.size, 0, none⟩ (.int .i64 k)).setCell ⟨Y6.heap.size, 1, none⟩ (.int .i64 m)).setCell ⟨Y6.heap.size, 2, none⟩ (.int .i64 wt)).setCell ⟨Y6.heap.size, 3, none⟩ (.int .i64 on)) := ⟨_, rfl⟩
        rw [← eY8]
        have hY8 : Touch [] W2 Y8 := by rw [eY8]; exact ((((hY7.setCell (Or.inr Lkb7) _).setCell (Or.inr Lkb7) _).setCell (Or.inr Lkb7) _).setCell (Or.inr Lkb7) _)
        have gY8 : Touch [Y6.heap.size] Y7 Y8 := by rw [eY8]; exact (((((Touch.refl _ _).setCell (Or.inl (by simp)) _).setCell (Or.inl (by simp)) _).setCell (Or.inl (by simp)) _).setCell (Or.inl (by simp)) _)
        have Ckb8 : Y8.heap[Y6.heap.size]? = some (.cells #[.int .i64 k, .int .i64 m, .int .i64 wt, .int .i64 on] 76 (0, 0)) := by rw [eY8]; have := (bset (i := 3) (bset (i := 2) (bset (i := 1) (bset (i := 0) Dkb7 (.int .i64 k)) (.int .i64 m)) (.int .i64 wt)) (.int .i64 on)); simpa using this
        have Cob8 := gY8.keep Cob7 (fun e => kb_ne Dkb7 Cob7 (by simpa using e))
        clear eY8 x0 x1 x2 x3 xf xl
        refine wpH_call (i := 16) (o := { dst := none, op := Op.store 51 (Operand.tmp 16) (Operand.tmp 70), type := 0, pos := _, after := #[{ on := 14, ground := Ground.data }, { on := 10, ground := Ground.data }, { on := 15, ground := Ground.chain }, { on := 0, ground := Ground.phase }, { on := 1, ground := Ground.phase }, { on := 2, ground := Ground.phase }, { on := 3, ground := Ground.phase }, { on := 4, ground := Ground.phase }, { on := 5, ground := Ground.phase }, { on := 6, ground := Ground.phase }, { on := 7, ground := Ground.phase }, { on := 8, ground := Ground.phase }, { on := 9, ground := Ground.phase }, { on := 10, ground := Ground.phase }, { on := 11, ground := Ground.textOnly Departure.lateStores }, { on := 12, ground := Ground.textOnly Departure.lateStores }, { on := 13, ground := Ground.phase }, { on := 14, ground := Ground.phase }, { on := 15, ground := Ground.phase }], guard := none }) (by kernel_rfl) rfl (fun K' hK => ?_)
        rw [if_pos (by rfl)]
        have x0 := cell_at (j := 0) (v := .int .i64 0) Cob8 rfl
        have x1 := cell_at (j := 1) (v := .int .i64 0) Cob8 rfl
        have x2 := cell_at (j := 2) (v := .int .i64 0) Cob8 rfl
        have x3 := cell_at (j := 3) (v := .int .i64 0) Cob8 rfl
        have xf := froz_at Cob8
        have xl := block_lt Cob8
        go_simp
        refine hK.out _ _ ((((hY8.setCell (Or.inr Lob6) _).setCell (Or.inr Lob6) _).setCell (Or.inr Lob6) _).setCell (Or.inr Lob6) _) ?_
        clear hK
        try simp only [Go.Act.put, List.setIfInBounds_toArray, List.set_cons_zero, List.set_cons_succ]
        obtain ⟨Y9, eY9⟩ : ∃ Y, Y = ((((Y8.setCell ⟨Y1.heap.size, 0, none⟩ (.int .i64 0)).setCell ⟨Y1.heap.size, 1, none⟩ (.int .i64 0)).setCell ⟨Y1.heap.size, 2, none⟩ (.int .i64 0)).setCell ⟨Y1.heap.size, 3, none⟩ (.int .i64 0)) := ⟨_, rfl⟩
        rw [← eY9]
        have hY9 : Touch [] W2 Y9 := by rw [eY9]; exact ((((hY8.setCell (Or.inr Lob6) _).setCell (Or.inr Lob6) _).setCell (Or.inr Lob6) _).setCell (Or.inr Lob6) _)
        have gY9 : Touch [Y1.heap.size] Y8 Y9 := by rw [eY9]; exact (((((Touch.refl _ _).setCell (Or.inl (by simp)) _).setCell (Or.inl (by simp)) _).setCell (Or.inl (by simp)) _).setCell (Or.inl (by simp)) _)
        have Cob9 : Y9.heap[Y1.heap.size]? = some (.cells #[.int .i64 0, .int .i64 0, .int .i64 0, .int .i64 0] 51 (0, 0)) := by rw [eY9]; have := (bset (i := 3) (bset (i := 2) (bset (i := 1) (bset (i := 0) Cob8 (.int .i64 0)) (.int .i64 0)) (.int .i64 0)) (.int .i64 0)); simpa using this
        have Ckb9 := gY9.keep Ckb8 (fun e => ob_ne Cob8 Ckb8 (by simpa using e))
        clear eY9 x0 x1 x2 x3 xf xl
        refine wpH_take (i := 17) (v := (.bool false)) (some 17) rfl rfl (by kernel_rfl) (by kernel_rfl) (by kernel_rfl) (fun _ _ _ h => h) (Or.inl ⟨by rfl, fun w' hS => (by go_simp)⟩) hY9 ?_
        try simp only [Go.Act.put, List.setIfInBounds_toArray, List.set_cons_zero, List.set_cons_succ]
        refine wpH_take (i := 18) (v := (.int .i64 0)) (some 18) rfl rfl (by kernel_rfl) (by kernel_rfl) (by kernel_rfl) (fun _ _ _ h => h) (Or.inl ⟨by rfl, fun w' hS => (by go_simp)⟩) hY9 ?_
        try simp only [Go.Act.put, List.setIfInBounds_toArray, List.set_cons_zero, List.set_cons_succ]
        refine wpAnyH_done (by kernel_rfl) ?_ _
        go_wp2_with fail
        go_meet
        case rel => exact ⟨_, _, rfl, rfl, rfl, rfl, hid ⟨Lkb7, Ckb9, Cob9, hY9⟩⟩
      exact AllH.nil
    refine AllH.cons (o := { dst := some 15, op := Op.alloc 76, type := 0, pos := _, after := #[], guard := none }) rfl (fun K' hK => ?_) ?_
    · rw [if_pos (by rfl)]
      go_simp
      refine hK.out _ _ (s0.alloc _) ?_
      clear hK
      try simp only [Go.Act.put, List.setIfInBounds_toArray, List.set_cons_zero, List.set_cons_succ]
      obtain ⟨Y10, eY10⟩ : ∃ Y, Y = X0.alloc (.cells #[.int .i64 0, .int .i64 0, .int .i64 0, .int .i64 0] 76) := ⟨_, rfl⟩
      rw [← eY10]
      have hY10 : Touch [] W2 Y10 := by rw [eY10]; exact s0.alloc _
      have gY10 : Touch [] X0 Y10 := by rw [eY10]; exact (Touch.refl _ _).alloc _
      have Dkb10 : Y10.heap[X0.heap.size]? = some (.cells #[.int .i64 0, .int .i64 0, .int .i64 0, .int .i64 0] 76 (0, 0)) := by rw [eY10]; exact heap_alloc_new _ _
      have Lkb10 : W2.heap.size ≤ X0.heap.size := s0.size
      clear eY10
      refine wpH_ready (rs := [7, 14]) (by kernel_rfl) (by simp) ?_
      refine AllH.cons (o := { dst := some 68, op := Op.call { callee := Callee.value (Operand.func 32), args := #[Operand.tmp 62, Operand.tmp 66, Operand.tmp 67], argTypes := #[31, 76, 71] }, type := 96, pos := _, after := #[{ on := 1, ground := Ground.data }, { on := 5, ground := Ground.data }, { on := 6, ground := Ground.data }], guard := none }) rfl (fun K' hK => ?_) ?_
      · rw [if_pos (by rfl)]
        go_simp
        have HDk := HD2.out _ hY10
        refine HDk.mono ?_
        rintro e' Y11 ⟨rfl, gY11⟩
        have hY11 : Touch [] W2 Y11 := hY10.trans' gY11
        refine hK.out _ _ hY11 ?_
        clear hK
        try simp only [Go.Act.put, List.setIfInBounds_toArray, List.set_cons_zero, List.set_cons_succ]
        have Ckb11 := gY11.keep Dkb10 (by simp)
        refine wpH_take (i := 8) (v := (.tuple #[(.agg #[.int .i64 k, .int .i64 m, .int .i64 wt, .int .i64 on]), (.agg #[.int .i64 0, .int .i64 0, .int .i64 0, .int .i64 0]), (.bool false), (.int .i64 0)])) (some 60) rfl rfl (by kernel_rfl) (by kernel_rfl) (by kernel_rfl) (fun _ _ _ h => h) (Or.inl ⟨by rfl, fun w' hS => (by go_simp)⟩) hY11 ?_
        try simp only [Go.Act.put, List.setIfInBounds_toArray, List.set_cons_zero, List.set_cons_succ]
        refine wpH_take (i := 9) (v := (.agg #[.int .i64 k, .int .i64 m, .int .i64 wt, .int .i64 on])) (some 69) rfl rfl (by kernel_rfl) (by kernel_rfl) (by kernel_rfl) (fun _ _ _ h => h) (Or.inl ⟨by rfl, fun w' hS => (by go_simp)⟩) hY11 ?_
        try simp only [Go.Act.put, List.setIfInBounds_toArray, List.set_cons_zero, List.set_cons_succ]
        refine wpH_take (i := 10) (v := (.agg #[.int .i64 0, .int .i64 0, .int .i64 0, .int .i64 0])) (some 70) rfl rfl (by kernel_rfl) (by kernel_rfl) (by kernel_rfl) (fun _ _ _ h => h) (Or.inl ⟨by rfl, fun w' hS => (by go_simp)⟩) hY11 ?_
        try simp only [Go.Act.put, List.setIfInBounds_toArray, List.set_cons_zero, List.set_cons_succ]
        refine wpH_take (i := 11) (v := (.bool false)) (some 71) rfl rfl (by kernel_rfl) (by kernel_rfl) (by kernel_rfl) (fun _ _ _ h => h) (Or.inl ⟨by rfl, fun w' hS => (by go_simp)⟩) hY11 ?_
        try simp only [Go.Act.put, List.setIfInBounds_toArray, List.set_cons_zero, List.set_cons_succ]
        refine wpH_take (i := 12) (v := (.int .i64 0)) (some 72) rfl rfl (by kernel_rfl) (by kernel_rfl) (by kernel_rfl) (fun _ _ _ h => h) (Or.inl ⟨by rfl, fun w' hS => (by go_simp)⟩) hY11 ?_
        try simp only [Go.Act.put, List.setIfInBounds_toArray, List.set_cons_zero, List.set_cons_succ]
        refine wpH_call (i := 14) (o := { dst := some 16, op := Op.alloc 51, type := 0, pos := _, after := #[], guard := none }) (by kernel_rfl) rfl (fun K' hK => ?_)
        rw [if_pos (by rfl)]
        go_simp
        refine hK.out _ _ (hY11.alloc _) ?_
        clear hK
        try simp only [Go.Act.put, List.setIfInBounds_toArray, List.set_cons_zero, List.set_cons_succ]
        obtain ⟨Y12, eY12⟩ : ∃ Y, Y = Y11.alloc (.cells #[.int .i64 0, .int .i64 0, .int .i64 0, .int .i64 0] 51) := ⟨_, rfl⟩
        rw [← eY12]
        have hY12 : Touch [] W2 Y12 := by rw [eY12]; exact hY11.alloc _
        have gY12 : Touch [] Y11 Y12 := by rw [eY12]; exact (Touch.refl _ _).alloc _
        have Ckb12 := gY12.keep Ckb11 (by simp)
        have Dob12 : Y12.heap[Y11.heap.size]? = some (.cells #[.int .i64 0, .int .i64 0, .int .i64 0, .int .i64 0] 51 (0, 0)) := by rw [eY12]; exact heap_alloc_new _ _
        have Lob12 : W2.heap.size ≤ Y11.heap.size := hY11.size
        clear eY12
        refine wpH_call (i := 15) (o := { dst := none, op := Op.store 76 (Operand.tmp 15) (Operand.tmp 69), type := 0, pos := _, after := #[{ on := 13, ground := Ground.data }, { on := 9, ground := Ground.data }, { on := 7, ground := Ground.chain }, { on := 0, ground := Ground.phase }, { on := 1, ground := Ground.phase }, { on := 2, ground := Ground.phase }, { on := 3, ground := Ground.phase }, { on := 4, ground := Ground.phase }, { on := 5, ground := Ground.phase }, { on := 6, ground := Ground.phase }, { on := 7, ground := Ground.phase }, { on := 8, ground := Ground.phase }, { on := 9, ground := Ground.phase }, { on := 10, ground := Ground.textOnly Departure.lateStores }, { on := 11, ground := Ground.textOnly Departure.lateStores }, { on := 12, ground := Ground.textOnly Departure.lateStores }, { on := 13, ground := Ground.phase }, { on := 14, ground := Ground.phase }], guard := none }) (by kernel_rfl) rfl (fun K' hK => ?_)
        rw [if_pos (by rfl)]
        have x0 := cell_at (j := 0) (v := .int .i64 0) Ckb12 rfl
        have x1 := cell_at (j := 1) (v := .int .i64 0) Ckb12 rfl
        have x2 := cell_at (j := 2) (v := .int .i64 0) Ckb12 rfl
        have x3 := cell_at (j := 3) (v := .int .i64 0) Ckb12 rfl
        have xf := froz_at Ckb12
        have xl := block_lt Ckb12
        go_simp
        refine hK.out _ _ ((((hY12.setCell (Or.inr Lkb10) _).setCell (Or.inr Lkb10) _).setCell (Or.inr Lkb10) _).setCell (Or.inr Lkb10) _) ?_
        clear hK
        try simp only [Go.Act.put, List.setIfInBounds_toArray, List.set_cons_zero, List.set_cons_succ]
        obtain ⟨Y13, eY13⟩ : ∃ Y, Y = ((((Y12.setCell ⟨X0.heap.size, 0, none⟩ (.int .i64 k)).setCell ⟨X0.heap.size, 1, none⟩ (.int .i64 m)).setCell ⟨X0.heap.size, 2, none⟩ (.int .i64 wt)).setCell ⟨X0.heap.size, 3, none⟩ (.int .i64 on)) := ⟨_, rfl⟩
        rw [← eY13]
        have hY13 : Touch [] W2 Y13 := by rw [eY13]; exact ((((hY12.setCell (Or.inr Lkb10) _).setCell (Or.inr Lkb10) _).setCell (Or.inr Lkb10) _).setCell (Or.inr Lkb10) _)
        have gY13 : Touch [X0.heap.size] Y12 Y13 := by rw [eY13]; exact (((((Touch.refl _ _).setCell (Or.inl (by simp)) _).setCell (Or.inl (by simp)) _).setCell (Or.inl (by simp)) _).setCell (Or.inl (by simp)) _)
        have Ckb13 : Y13.heap[X0.heap.size]? = some (.cells #[.int .i64 k, .int .i64 m, .int .i64 wt, .int .i64 on] 76 (0, 0)) := by rw [eY13]; have := (bset (i := 3) (bset (i := 2) (bset (i := 1) (bset (i := 0) Ckb12 (.int .i64 k)) (.int .i64 m)) (.int .i64 wt)) (.int .i64 on)); simpa using this
        have Cob13 := gY13.keep Dob12 (fun e => kb_ne Ckb12 Dob12 (by simpa using e))
        clear eY13 x0 x1 x2 x3 xf xl
        refine wpH_call (i := 16) (o := { dst := none, op := Op.store 51 (Operand.tmp 16) (Operand.tmp 70), type := 0, pos := _, after := #[{ on := 14, ground := Ground.data }, { on := 10, ground := Ground.data }, { on := 15, ground := Ground.chain }, { on := 0, ground := Ground.phase }, { on := 1, ground := Ground.phase }, { on := 2, ground := Ground.phase }, { on := 3, ground := Ground.phase }, { on := 4, ground := Ground.phase }, { on := 5, ground := Ground.phase }, { on := 6, ground := Ground.phase }, { on := 7, ground := Ground.phase }, { on := 8, ground := Ground.phase }, { on := 9, ground := Ground.phase }, { on := 10, ground := Ground.phase }, { on := 11, ground := Ground.textOnly Departure.lateStores }, { on := 12, ground := Ground.textOnly Departure.lateStores }, { on := 13, ground := Ground.phase }, { on := 14, ground := Ground.phase }, { on := 15, ground := Ground.phase }], guard := none }) (by kernel_rfl) rfl (fun K' hK => ?_)
        rw [if_pos (by rfl)]
        have x0 := cell_at (j := 0) (v := .int .i64 0) Cob13 rfl
        have x1 := cell_at (j := 1) (v := .int .i64 0) Cob13 rfl
        have x2 := cell_at (j := 2) (v := .int .i64 0) Cob13 rfl
        have x3 := cell_at (j := 3) (v := .int .i64 0) Cob13 rfl
        have xf := froz_at Cob13
        have xl := block_lt Cob13
        go_simp
        refine hK.out _ _ ((((hY13.setCell (Or.inr Lob12) _).setCell (Or.inr Lob12) _).setCell (Or.inr Lob12) _).setCell (Or.inr Lob12) _) ?_
        clear hK
        try simp only [Go.Act.put, List.setIfInBounds_toArray, List.set_cons_zero, List.set_cons_succ]
        obtain ⟨Y14, eY14⟩ : ∃ Y, Y = ((((Y13.setCell ⟨Y11.heap.size, 0, none⟩ (.int .i64 0)).setCell ⟨Y11.heap.size, 1, none⟩ (.int .i64 0)).setCell ⟨Y11.heap.size, 2, none⟩ (.int .i64 0)).setCell ⟨Y11.heap.size, 3, none⟩ (.int .i64 0)) := ⟨_, rfl⟩
        rw [← eY14]
        have hY14 : Touch [] W2 Y14 := by rw [eY14]; exact ((((hY13.setCell (Or.inr Lob12) _).setCell (Or.inr Lob12) _).setCell (Or.inr Lob12) _).setCell (Or.inr Lob12) _)
        have gY14 : Touch [Y11.heap.size] Y13 Y14 := by rw [eY14]; exact (((((Touch.refl _ _).setCell (Or.inl (by simp)) _).setCell (Or.inl (by simp)) _).setCell (Or.inl (by simp)) _).setCell (Or.inl (by simp)) _)
        have Cob14 : Y14.heap[Y11.heap.size]? = some (.cells #[.int .i64 0, .int .i64 0, .int .i64 0, .int .i64 0] 51 (0, 0)) := by rw [eY14]; have := (bset (i := 3) (bset (i := 2) (bset (i := 1) (bset (i := 0) Cob13 (.int .i64 0)) (.int .i64 0)) (.int .i64 0)) (.int .i64 0)); simpa using this
        have Ckb14 := gY14.keep Ckb13 (fun e => ob_ne Cob13 Ckb13 (by simpa using e))
        clear eY14 x0 x1 x2 x3 xf xl
        refine wpH_take (i := 17) (v := (.bool false)) (some 17) rfl rfl (by kernel_rfl) (by kernel_rfl) (by kernel_rfl) (fun _ _ _ h => h) (Or.inl ⟨by rfl, fun w' hS => (by go_simp)⟩) hY14 ?_
        try simp only [Go.Act.put, List.setIfInBounds_toArray, List.set_cons_zero, List.set_cons_succ]
        refine wpH_take (i := 18) (v := (.int .i64 0)) (some 18) rfl rfl (by kernel_rfl) (by kernel_rfl) (by kernel_rfl) (fun _ _ _ h => h) (Or.inl ⟨by rfl, fun w' hS => (by go_simp)⟩) hY14 ?_
        try simp only [Go.Act.put, List.setIfInBounds_toArray, List.set_cons_zero, List.set_cons_succ]
        refine wpAnyH_done (by kernel_rfl) ?_ _
        go_wp2_with fail
        go_meet
        case rel => exact ⟨_, _, rfl, rfl, rfl, rfl, hid ⟨Lkb10, Ckb14, Cob14, hY14⟩⟩
      refine AllH.cons (o := { dst := some 16, op := Op.alloc 51, type := 0, pos := _, after := #[], guard := none }) rfl (fun K' hK => ?_) ?_
      · rw [if_pos (by rfl)]
        go_simp
        refine hK.out _ _ (hY10.alloc _) ?_
        clear hK
        try simp only [Go.Act.put, List.setIfInBounds_toArray, List.set_cons_zero, List.set_cons_succ]
        obtain ⟨Y15, eY15⟩ : ∃ Y, Y = Y10.alloc (.cells #[.int .i64 0, .int .i64 0, .int .i64 0, .int .i64 0] 51) := ⟨_, rfl⟩
        rw [← eY15]
        have hY15 : Touch [] W2 Y15 := by rw [eY15]; exact hY10.alloc _
        have gY15 : Touch [] Y10 Y15 := by rw [eY15]; exact (Touch.refl _ _).alloc _
        have Ckb15 := gY15.keep Dkb10 (by simp)
        have Dob15 : Y15.heap[Y10.heap.size]? = some (.cells #[.int .i64 0, .int .i64 0, .int .i64 0, .int .i64 0] 51 (0, 0)) := by rw [eY15]; exact heap_alloc_new _ _
        have Lob15 : W2.heap.size ≤ Y10.heap.size := hY10.size
        clear eY15
        refine wpH_call (i := 7) (o := { dst := some 68, op := Op.call { callee := Callee.value (Operand.func 32), args := #[Operand.tmp 62, Operand.tmp 66, Operand.tmp 67], argTypes := #[31, 76, 71] }, type := 96, pos := _, after := #[{ on := 1, ground := Ground.data }, { on := 5, ground := Ground.data }, { on := 6, ground := Ground.data }], guard := none }) (by kernel_rfl) rfl (fun K' hK => ?_)
        rw [if_pos (by rfl)]
        go_simp
        have HDk := HD2.out _ hY15
        refine HDk.mono ?_
        rintro e' Y16 ⟨rfl, gY16⟩
        have hY16 : Touch [] W2 Y16 := hY15.trans' gY16
        refine hK.out _ _ hY16 ?_
        clear hK
        try simp only [Go.Act.put, List.setIfInBounds_toArray, List.set_cons_zero, List.set_cons_succ]
        have Ckb16 := gY16.keep Ckb15 (by simp)
        have Cob16 := gY16.keep Dob15 (by simp)
        refine wpH_take (i := 8) (v := (.tuple #[(.agg #[.int .i64 k, .int .i64 m, .int .i64 wt, .int .i64 on]), (.agg #[.int .i64 0, .int .i64 0, .int .i64 0, .int .i64 0]), (.bool false), (.int .i64 0)])) (some 60) rfl rfl (by kernel_rfl) (by kernel_rfl) (by kernel_rfl) (fun _ _ _ h => h) (Or.inl ⟨by rfl, fun w' hS => (by go_simp)⟩) hY16 ?_
        try simp only [Go.Act.put, List.setIfInBounds_toArray, List.set_cons_zero, List.set_cons_succ]
        refine wpH_take (i := 9) (v := (.agg #[.int .i64 k, .int .i64 m, .int .i64 wt, .int .i64 on])) (some 69) rfl rfl (by kernel_rfl) (by kernel_rfl) (by kernel_rfl) (fun _ _ _ h => h) (Or.inl ⟨by rfl, fun w' hS => (by go_simp)⟩) hY16 ?_
        try simp only [Go.Act.put, List.setIfInBounds_toArray, List.set_cons_zero, List.set_cons_succ]
        refine wpH_take (i := 10) (v := (.agg #[.int .i64 0, .int .i64 0, .int .i64 0, .int .i64 0])) (some 70) rfl rfl (by kernel_rfl) (by kernel_rfl) (by kernel_rfl) (fun _ _ _ h => h) (Or.inl ⟨by rfl, fun w' hS => (by go_simp)⟩) hY16 ?_
        try simp only [Go.Act.put, List.setIfInBounds_toArray, List.set_cons_zero, List.set_cons_succ]
        refine wpH_take (i := 11) (v := (.bool false)) (some 71) rfl rfl (by kernel_rfl) (by kernel_rfl) (by kernel_rfl) (fun _ _ _ h => h) (Or.inl ⟨by rfl, fun w' hS => (by go_simp)⟩) hY16 ?_
        try simp only [Go.Act.put, List.setIfInBounds_toArray, List.set_cons_zero, List.set_cons_succ]
        refine wpH_take (i := 12) (v := (.int .i64 0)) (some 72) rfl rfl (by kernel_rfl) (by kernel_rfl) (by kernel_rfl) (fun _ _ _ h => h) (Or.inl ⟨by rfl, fun w' hS => (by go_simp)⟩) hY16 ?_
        try simp only [Go.Act.put, List.setIfInBounds_toArray, List.set_cons_zero, List.set_cons_succ]
        refine wpH_call (i := 15) (o := { dst := none, op := Op.store 76 (Operand.tmp 15) (Operand.tmp 69), type := 0, pos := _, after := #[{ on := 13, ground := Ground.data }, { on := 9, ground := Ground.data }, { on := 7, ground := Ground.chain }, { on := 0, ground := Ground.phase }, { on := 1, ground := Ground.phase }, { on := 2, ground := Ground.phase }, { on := 3, ground := Ground.phase }, { on := 4, ground := Ground.phase }, { on := 5, ground := Ground.phase }, { on := 6, ground := Ground.phase }, { on := 7, ground := Ground.phase }, { on := 8, ground := Ground.phase }, { on := 9, ground := Ground.phase }, { on := 10, ground := Ground.textOnly Departure.lateStores }, { on := 11, ground := Ground.textOnly Departure.lateStores }, { on := 12, ground := Ground.textOnly Departure.lateStores }, { on := 13, ground := Ground.phase }, { on := 14, ground := Ground.phase }], guard := none }) (by kernel_rfl) rfl (fun K' hK => ?_)
        rw [if_pos (by rfl)]
        have x0 := cell_at (j := 0) (v := .int .i64 0) Ckb16 rfl
        have x1 := cell_at (j := 1) (v := .int .i64 0) Ckb16 rfl
        have x2 := cell_at (j := 2) (v := .int .i64 0) Ckb16 rfl
        have x3 := cell_at (j := 3) (v := .int .i64 0) Ckb16 rfl
        have xf := froz_at Ckb16
        have xl := block_lt Ckb16
        go_simp
        refine hK.out _ _ ((((hY16.setCell (Or.inr Lkb10) _).setCell (Or.inr Lkb10) _).setCell (Or.inr Lkb10) _).setCell (Or.inr Lkb10) _) ?_
        clear hK
        try simp only [Go.Act.put, List.setIfInBounds_toArray, List.set_cons_zero, List.set_cons_succ]
        obtain ⟨Y17, eY17⟩ : ∃ Y, Y = ((((Y16.setCell ⟨X0.heap.size, 0, none⟩ (.int .i64 k)).setCell ⟨X0.heap.size, 1, none⟩ (.int .i64 m)).setCell ⟨X0.heap.size, 2, none⟩ (.int .i64 wt)).setCell ⟨X0.heap.size, 3, none⟩ (.int .i64 on)) := ⟨_, rfl⟩
        rw [← eY17]
        have hY17 : Touch [] W2 Y17 := by rw [eY17]; exact ((((hY16.setCell (Or.inr Lkb10) _).setCell (Or.inr Lkb10) _).setCell (Or.inr Lkb10) _).setCell (Or.inr Lkb10) _)
        have gY17 : Touch [X0.heap.size] Y16 Y17 := by rw [eY17]; exact (((((Touch.refl _ _).setCell (Or.inl (by simp)) _).setCell (Or.inl (by simp)) _).setCell (Or.inl (by simp)) _).setCell (Or.inl (by simp)) _)
        have Ckb17 : Y17.heap[X0.heap.size]? = some (.cells #[.int .i64 k, .int .i64 m, .int .i64 wt, .int .i64 on] 76 (0, 0)) := by rw [eY17]; have := (bset (i := 3) (bset (i := 2) (bset (i := 1) (bset (i := 0) Ckb16 (.int .i64 k)) (.int .i64 m)) (.int .i64 wt)) (.int .i64 on)); simpa using this
        have Cob17 := gY17.keep Cob16 (fun e => kb_ne Ckb16 Cob16 (by simpa using e))
        clear eY17 x0 x1 x2 x3 xf xl
        refine wpH_call (i := 16) (o := { dst := none, op := Op.store 51 (Operand.tmp 16) (Operand.tmp 70), type := 0, pos := _, after := #[{ on := 14, ground := Ground.data }, { on := 10, ground := Ground.data }, { on := 15, ground := Ground.chain }, { on := 0, ground := Ground.phase }, { on := 1, ground := Ground.phase }, { on := 2, ground := Ground.phase }, { on := 3, ground := Ground.phase }, { on := 4, ground := Ground.phase }, { on := 5, ground := Ground.phase }, { on := 6, ground := Ground.phase }, { on := 7, ground := Ground.phase }, { on := 8, ground := Ground.phase }, { on := 9, ground := Ground.phase }, { on := 10, ground := Ground.phase }, { on := 11, ground := Ground.textOnly Departure.lateStores }, { on := 12, ground := Ground.textOnly Departure.lateStores }, { on := 13, ground := Ground.phase }, { on := 14, ground := Ground.phase }, { on := 15, ground := Ground.phase }], guard := none }) (by kernel_rfl) rfl (fun K' hK => ?_)
        rw [if_pos (by rfl)]
        have x0 := cell_at (j := 0) (v := .int .i64 0) Cob17 rfl
        have x1 := cell_at (j := 1) (v := .int .i64 0) Cob17 rfl
        have x2 := cell_at (j := 2) (v := .int .i64 0) Cob17 rfl
        have x3 := cell_at (j := 3) (v := .int .i64 0) Cob17 rfl
        have xf := froz_at Cob17
        have xl := block_lt Cob17
        go_simp
        refine hK.out _ _ ((((hY17.setCell (Or.inr Lob15) _).setCell (Or.inr Lob15) _).setCell (Or.inr Lob15) _).setCell (Or.inr Lob15) _) ?_
        clear hK
        try simp only [Go.Act.put, List.setIfInBounds_toArray, List.set_cons_zero, List.set_cons_succ]
        obtain ⟨Y18, eY18⟩ : ∃ Y, Y = ((((Y17.setCell ⟨Y10.heap.size, 0, none⟩ (.int .i64 0)).setCell ⟨Y10.heap.size, 1, none⟩ (.int .i64 0)).setCell ⟨Y10.heap.size, 2, none⟩ (.int .i64 0)).setCell ⟨Y10.heap.size, 3, none⟩ (.int .i64 0)) := ⟨_, rfl⟩
        rw [← eY18]
        have hY18 : Touch [] W2 Y18 := by rw [eY18]; exact ((((hY17.setCell (Or.inr Lob15) _).setCell (Or.inr Lob15) _).setCell (Or.inr Lob15) _).setCell (Or.inr Lob15) _)
        have gY18 : Touch [Y10.heap.size] Y17 Y18 := by rw [eY18]; exact (((((Touch.refl _ _).setCell (Or.inl (by simp)) _).setCell (Or.inl (by simp)) _).setCell (Or.inl (by simp)) _).setCell (Or.inl (by simp)) _)
        have Cob18 : Y18.heap[Y10.heap.size]? = some (.cells #[.int .i64 0, .int .i64 0, .int .i64 0, .int .i64 0] 51 (0, 0)) := by rw [eY18]; have := (bset (i := 3) (bset (i := 2) (bset (i := 1) (bset (i := 0) Cob17 (.int .i64 0)) (.int .i64 0)) (.int .i64 0)) (.int .i64 0)); simpa using this
        have Ckb18 := gY18.keep Ckb17 (fun e => ob_ne Cob17 Ckb17 (by simpa using e))
        clear eY18 x0 x1 x2 x3 xf xl
        refine wpH_take (i := 17) (v := (.bool false)) (some 17) rfl rfl (by kernel_rfl) (by kernel_rfl) (by kernel_rfl) (fun _ _ _ h => h) (Or.inl ⟨by rfl, fun w' hS => (by go_simp)⟩) hY18 ?_
        try simp only [Go.Act.put, List.setIfInBounds_toArray, List.set_cons_zero, List.set_cons_succ]
        refine wpH_take (i := 18) (v := (.int .i64 0)) (some 18) rfl rfl (by kernel_rfl) (by kernel_rfl) (by kernel_rfl) (fun _ _ _ h => h) (Or.inl ⟨by rfl, fun w' hS => (by go_simp)⟩) hY18 ?_
        try simp only [Go.Act.put, List.setIfInBounds_toArray, List.set_cons_zero, List.set_cons_succ]
        refine wpAnyH_done (by kernel_rfl) ?_ _
        go_wp2_with fail
        go_meet
        case rel => exact ⟨_, _, rfl, rfl, rfl, rfl, hid ⟨Lkb10, Ckb18, Cob18, hY18⟩⟩
      exact AllH.nil
    refine AllH.cons (o := { dst := some 16, op := Op.alloc 51, type := 0, pos := _, after := #[], guard := none }) rfl (fun K' hK => ?_) ?_
    · rw [if_pos (by rfl)]
      go_simp
      refine hK.out _ _ (s0.alloc _) ?_
      clear hK
      try simp only [Go.Act.put, List.setIfInBounds_toArray, List.set_cons_zero, List.set_cons_succ]
      obtain ⟨Y19, eY19⟩ : ∃ Y, Y = X0.alloc (.cells #[.int .i64 0, .int .i64 0, .int .i64 0, .int .i64 0] 51) := ⟨_, rfl⟩
      rw [← eY19]
      have hY19 : Touch [] W2 Y19 := by rw [eY19]; exact s0.alloc _
      have gY19 : Touch [] X0 Y19 := by rw [eY19]; exact (Touch.refl _ _).alloc _
      have Dob19 : Y19.heap[X0.heap.size]? = some (.cells #[.int .i64 0, .int .i64 0, .int .i64 0, .int .i64 0] 51 (0, 0)) := by rw [eY19]; exact heap_alloc_new _ _
      have Lob19 : W2.heap.size ≤ X0.heap.size := s0.size
      clear eY19
      refine wpH_ready (rs := [7, 13]) (by kernel_rfl) (by simp) ?_
      refine AllH.cons (o := { dst := some 68, op := Op.call { callee := Callee.value (Operand.func 32), args := #[Operand.tmp 62, Operand.tmp 66, Operand.tmp 67], argTypes := #[31, 76, 71] }, type := 96, pos := _, after := #[{ on := 1, ground := Ground.data }, { on := 5, ground := Ground.data }, { on := 6, ground := Ground.data }], guard := none }) rfl (fun K' hK => ?_) ?_
      · rw [if_pos (by rfl)]
        go_simp
        have HDk := HD2.out _ hY19
        refine HDk.mono ?_
        rintro e' Y20 ⟨rfl, gY20⟩
        have hY20 : Touch [] W2 Y20 := hY19.trans' gY20
        refine hK.out _ _ hY20 ?_
        clear hK
        try simp only [Go.Act.put, List.setIfInBounds_toArray, List.set_cons_zero, List.set_cons_succ]
        have Cob20 := gY20.keep Dob19 (by simp)
        refine wpH_take (i := 8) (v := (.tuple #[(.agg #[.int .i64 k, .int .i64 m, .int .i64 wt, .int .i64 on]), (.agg #[.int .i64 0, .int .i64 0, .int .i64 0, .int .i64 0]), (.bool false), (.int .i64 0)])) (some 60) rfl rfl (by kernel_rfl) (by kernel_rfl) (by kernel_rfl) (fun _ _ _ h => h) (Or.inl ⟨by rfl, fun w' hS => (by go_simp)⟩) hY20 ?_
        try simp only [Go.Act.put, List.setIfInBounds_toArray, List.set_cons_zero, List.set_cons_succ]
        refine wpH_take (i := 9) (v := (.agg #[.int .i64 k, .int .i64 m, .int .i64 wt, .int .i64 on])) (some 69) rfl rfl (by kernel_rfl) (by kernel_rfl) (by kernel_rfl) (fun _ _ _ h => h) (Or.inl ⟨by rfl, fun w' hS => (by go_simp)⟩) hY20 ?_
        try simp only [Go.Act.put, List.setIfInBounds_toArray, List.set_cons_zero, List.set_cons_succ]
        refine wpH_take (i := 10) (v := (.agg #[.int .i64 0, .int .i64 0, .int .i64 0, .int .i64 0])) (some 70) rfl rfl (by kernel_rfl) (by kernel_rfl) (by kernel_rfl) (fun _ _ _ h => h) (Or.inl ⟨by rfl, fun w' hS => (by go_simp)⟩) hY20 ?_
        try simp only [Go.Act.put, List.setIfInBounds_toArray, List.set_cons_zero, List.set_cons_succ]
        refine wpH_take (i := 11) (v := (.bool false)) (some 71) rfl rfl (by kernel_rfl) (by kernel_rfl) (by kernel_rfl) (fun _ _ _ h => h) (Or.inl ⟨by rfl, fun w' hS => (by go_simp)⟩) hY20 ?_
        try simp only [Go.Act.put, List.setIfInBounds_toArray, List.set_cons_zero, List.set_cons_succ]
        refine wpH_take (i := 12) (v := (.int .i64 0)) (some 72) rfl rfl (by kernel_rfl) (by kernel_rfl) (by kernel_rfl) (fun _ _ _ h => h) (Or.inl ⟨by rfl, fun w' hS => (by go_simp)⟩) hY20 ?_
        try simp only [Go.Act.put, List.setIfInBounds_toArray, List.set_cons_zero, List.set_cons_succ]
        refine wpH_call (i := 13) (o := { dst := some 15, op := Op.alloc 76, type := 0, pos := _, after := #[], guard := none }) (by kernel_rfl) rfl (fun K' hK => ?_)
        rw [if_pos (by rfl)]
        go_simp
        refine hK.out _ _ (hY20.alloc _) ?_
        clear hK
        try simp only [Go.Act.put, List.setIfInBounds_toArray, List.set_cons_zero, List.set_cons_succ]
        obtain ⟨Y21, eY21⟩ : ∃ Y, Y = Y20.alloc (.cells #[.int .i64 0, .int .i64 0, .int .i64 0, .int .i64 0] 76) := ⟨_, rfl⟩
        rw [← eY21]
        have hY21 : Touch [] W2 Y21 := by rw [eY21]; exact hY20.alloc _
        have gY21 : Touch [] Y20 Y21 := by rw [eY21]; exact (Touch.refl _ _).alloc _
        have Cob21 := gY21.keep Cob20 (by simp)
        have Dkb21 : Y21.heap[Y20.heap.size]? = some (.cells #[.int .i64 0, .int .i64 0, .int .i64 0, .int .i64 0] 76 (0, 0)) := by rw [eY21]; exact heap_alloc_new _ _
        have Lkb21 : W2.heap.size ≤ Y20.heap.size := hY20.size
        clear eY21
        refine wpH_call (i := 15) (o := { dst := none, op := Op.store 76 (Operand.tmp 15) (Operand.tmp 69), type := 0, pos := _, after := #[{ on := 13, ground := Ground.data }, { on := 9, ground := Ground.data }, { on := 7, ground := Ground.chain }, { on := 0, ground := Ground.phase }, { on := 1, ground := Ground.phase }, { on := 2, ground := Ground.phase }, { on := 3, ground := Ground.phase }, { on := 4, ground := Ground.phase }, { on := 5, ground := Ground.phase }, { on := 6, ground := Ground.phase }, { on := 7, ground := Ground.phase }, { on := 8, ground := Ground.phase }, { on := 9, ground := Ground.phase }, { on := 10, ground := Ground.textOnly Departure.lateStores }, { on := 11, ground := Ground.textOnly Departure.lateStores }, { on := 12, ground := Ground.textOnly Departure.lateStores }, { on := 13, ground := Ground.phase }, { on := 14, ground := Ground.phase }], guard := none }) (by kernel_rfl) rfl (fun K' hK => ?_)
        rw [if_pos (by rfl)]
        have x0 := cell_at (j := 0) (v := .int .i64 0) Dkb21 rfl
        have x1 := cell_at (j := 1) (v := .int .i64 0) Dkb21 rfl
        have x2 := cell_at (j := 2) (v := .int .i64 0) Dkb21 rfl
        have x3 := cell_at (j := 3) (v := .int .i64 0) Dkb21 rfl
        have xf := froz_at Dkb21
        have xl := block_lt Dkb21
        go_simp
        refine hK.out _ _ ((((hY21.setCell (Or.inr Lkb21) _).setCell (Or.inr Lkb21) _).setCell (Or.inr Lkb21) _).setCell (Or.inr Lkb21) _) ?_
        clear hK
        try simp only [Go.Act.put, List.setIfInBounds_toArray, List.set_cons_zero, List.set_cons_succ]
        obtain ⟨Y22, eY22⟩ : ∃ Y, Y = ((((Y21.setCell ⟨Y20.heap.size, 0, none⟩ (.int .i64 k)).setCell ⟨Y20.heap.size, 1, none⟩ (.int .i64 m)).setCell ⟨Y20.heap.size, 2, none⟩ (.int .i64 wt)).setCell ⟨Y20.heap.size, 3, none⟩ (.int .i64 on)) := ⟨_, rfl⟩
        rw [← eY22]
        have hY22 : Touch [] W2 Y22 := by rw [eY22]; exact ((((hY21.setCell (Or.inr Lkb21) _).setCell (Or.inr Lkb21) _).setCell (Or.inr Lkb21) _).setCell (Or.inr Lkb21) _)
        have gY22 : Touch [Y20.heap.size] Y21 Y22 := by rw [eY22]; exact (((((Touch.refl _ _).setCell (Or.inl (by simp)) _).setCell (Or.inl (by simp)) _).setCell (Or.inl (by simp)) _).setCell (Or.inl (by simp)) _)
        have Ckb22 : Y22.heap[Y20.heap.size]? = some (.cells #[.int .i64 k, .int .i64 m, .int .i64 wt, .int .i64 on] 76 (0, 0)) := by rw [eY22]; have := (bset (i := 3) (bset (i := 2) (bset (i := 1) (bset (i := 0) Dkb21 (.int .i64 k)) (.int .i64 m)) (.int .i64 wt)) (.int .i64 on)); simpa using this
        have Cob22 := gY22.keep Cob21 (fun e => kb_ne Dkb21 Cob21 (by simpa using e))
        clear eY22 x0 x1 x2 x3 xf xl
        refine wpH_call (i := 16) (o := { dst := none, op := Op.store 51 (Operand.tmp 16) (Operand.tmp 70), type := 0, pos := _, after := #[{ on := 14, ground := Ground.data }, { on := 10, ground := Ground.data }, { on := 15, ground := Ground.chain }, { on := 0, ground := Ground.phase }, { on := 1, ground := Ground.phase }, { on := 2, ground := Ground.phase }, { on := 3, ground := Ground.phase }, { on := 4, ground := Ground.phase }, { on := 5, ground := Ground.phase }, { on := 6, ground := Ground.phase }, { on := 7, ground := Ground.phase }, { on := 8, ground := Ground.phase }, { on := 9, ground := Ground.phase }, { on := 10, ground := Ground.phase }, { on := 11, ground := Ground.textOnly Departure.lateStores }, { on := 12, ground := Ground.textOnly Departure.lateStores }, { on := 13, ground := Ground.phase }, { on := 14, ground := Ground.phase }, { on := 15, ground := Ground.phase }], guard := none }) (by kernel_rfl) rfl (fun K' hK => ?_)
        rw [if_pos (by rfl)]
        have x0 := cell_at (j := 0) (v := .int .i64 0) Cob22 rfl
        have x1 := cell_at (j := 1) (v := .int .i64 0) Cob22 rfl
        have x2 := cell_at (j := 2) (v := .int .i64 0) Cob22 rfl
        have x3 := cell_at (j := 3) (v := .int .i64 0) Cob22 rfl
        have xf := froz_at Cob22
        have xl := block_lt Cob22
        go_simp
        refine hK.out _ _ ((((hY22.setCell (Or.inr Lob19) _).setCell (Or.inr Lob19) _).setCell (Or.inr Lob19) _).setCell (Or.inr Lob19) _) ?_
        clear hK
        try simp only [Go.Act.put, List.setIfInBounds_toArray, List.set_cons_zero, List.set_cons_succ]
        obtain ⟨Y23, eY23⟩ : ∃ Y, Y = ((((Y22.setCell ⟨X0.heap.size, 0, none⟩ (.int .i64 0)).setCell ⟨X0.heap.size, 1, none⟩ (.int .i64 0)).setCell ⟨X0.heap.size, 2, none⟩ (.int .i64 0)).setCell ⟨X0.heap.size, 3, none⟩ (.int .i64 0)) := ⟨_, rfl⟩
        rw [← eY23]
        have hY23 : Touch [] W2 Y23 := by rw [eY23]; exact ((((hY22.setCell (Or.inr Lob19) _).setCell (Or.inr Lob19) _).setCell (Or.inr Lob19) _).setCell (Or.inr Lob19) _)
        have gY23 : Touch [X0.heap.size] Y22 Y23 := by rw [eY23]; exact (((((Touch.refl _ _).setCell (Or.inl (by simp)) _).setCell (Or.inl (by simp)) _).setCell (Or.inl (by simp)) _).setCell (Or.inl (by simp)) _)
        have Cob23 : Y23.heap[X0.heap.size]? = some (.cells #[.int .i64 0, .int .i64 0, .int .i64 0, .int .i64 0] 51 (0, 0)) := by rw [eY23]; have := (bset (i := 3) (bset (i := 2) (bset (i := 1) (bset (i := 0) Cob22 (.int .i64 0)) (.int .i64 0)) (.int .i64 0)) (.int .i64 0)); simpa using this
        have Ckb23 := gY23.keep Ckb22 (fun e => ob_ne Cob22 Ckb22 (by simpa using e))
        clear eY23 x0 x1 x2 x3 xf xl
        refine wpH_take (i := 17) (v := (.bool false)) (some 17) rfl rfl (by kernel_rfl) (by kernel_rfl) (by kernel_rfl) (fun _ _ _ h => h) (Or.inl ⟨by rfl, fun w' hS => (by go_simp)⟩) hY23 ?_
        try simp only [Go.Act.put, List.setIfInBounds_toArray, List.set_cons_zero, List.set_cons_succ]
        refine wpH_take (i := 18) (v := (.int .i64 0)) (some 18) rfl rfl (by kernel_rfl) (by kernel_rfl) (by kernel_rfl) (fun _ _ _ h => h) (Or.inl ⟨by rfl, fun w' hS => (by go_simp)⟩) hY23 ?_
        try simp only [Go.Act.put, List.setIfInBounds_toArray, List.set_cons_zero, List.set_cons_succ]
        refine wpAnyH_done (by kernel_rfl) ?_ _
        go_wp2_with fail
        go_meet
        case rel => exact ⟨_, _, rfl, rfl, rfl, rfl, hid ⟨Lkb21, Ckb23, Cob23, hY23⟩⟩
      refine AllH.cons (o := { dst := some 15, op := Op.alloc 76, type := 0, pos := _, after := #[], guard := none }) rfl (fun K' hK => ?_) ?_
      · rw [if_pos (by rfl)]
        go_simp
        refine hK.out _ _ (hY19.alloc _) ?_
        clear hK
        try simp only [Go.Act.put, List.setIfInBounds_toArray, List.set_cons_zero, List.set_cons_succ]
        obtain ⟨Y24, eY24⟩ : ∃ Y, Y = Y19.alloc (.cells #[.int .i64 0, .int .i64 0, .int .i64 0, .int .i64 0] 76) := ⟨_, rfl⟩
        rw [← eY24]
        have hY24 : Touch [] W2 Y24 := by rw [eY24]; exact hY19.alloc _
        have gY24 : Touch [] Y19 Y24 := by rw [eY24]; exact (Touch.refl _ _).alloc _
        have Cob24 := gY24.keep Dob19 (by simp)
        have Dkb24 : Y24.heap[Y19.heap.size]? = some (.cells #[.int .i64 0, .int .i64 0, .int .i64 0, .int .i64 0] 76 (0, 0)) := by rw [eY24]; exact heap_alloc_new _ _
        have Lkb24 : W2.heap.size ≤ Y19.heap.size := hY19.size
        clear eY24
        refine wpH_call (i := 7) (o := { dst := some 68, op := Op.call { callee := Callee.value (Operand.func 32), args := #[Operand.tmp 62, Operand.tmp 66, Operand.tmp 67], argTypes := #[31, 76, 71] }, type := 96, pos := _, after := #[{ on := 1, ground := Ground.data }, { on := 5, ground := Ground.data }, { on := 6, ground := Ground.data }], guard := none }) (by kernel_rfl) rfl (fun K' hK => ?_)
        rw [if_pos (by rfl)]
        go_simp
        have HDk := HD2.out _ hY24
        refine HDk.mono ?_
        rintro e' Y25 ⟨rfl, gY25⟩
        have hY25 : Touch [] W2 Y25 := hY24.trans' gY25
        refine hK.out _ _ hY25 ?_
        clear hK
        try simp only [Go.Act.put, List.setIfInBounds_toArray, List.set_cons_zero, List.set_cons_succ]
        have Ckb25 := gY25.keep Dkb24 (by simp)
        have Cob25 := gY25.keep Cob24 (by simp)
        refine wpH_take (i := 8) (v := (.tuple #[(.agg #[.int .i64 k, .int .i64 m, .int .i64 wt, .int .i64 on]), (.agg #[.int .i64 0, .int .i64 0, .int .i64 0, .int .i64 0]), (.bool false), (.int .i64 0)])) (some 60) rfl rfl (by kernel_rfl) (by kernel_rfl) (by kernel_rfl) (fun _ _ _ h => h) (Or.inl ⟨by rfl, fun w' hS => (by go_simp)⟩) hY25 ?_
        try simp only [Go.Act.put, List.setIfInBounds_toArray, List.set_cons_zero, List.set_cons_succ]
        refine wpH_take (i := 9) (v := (.agg #[.int .i64 k, .int .i64 m, .int .i64 wt, .int .i64 on])) (some 69) rfl rfl (by kernel_rfl) (by kernel_rfl) (by kernel_rfl) (fun _ _ _ h => h) (Or.inl ⟨by rfl, fun w' hS => (by go_simp)⟩) hY25 ?_
        try simp only [Go.Act.put, List.setIfInBounds_toArray, List.set_cons_zero, List.set_cons_succ]
        refine wpH_take (i := 10) (v := (.agg #[.int .i64 0, .int .i64 0, .int .i64 0, .int .i64 0])) (some 70) rfl rfl (by kernel_rfl) (by kernel_rfl) (by kernel_rfl) (fun _ _ _ h => h) (Or.inl ⟨by rfl, fun w' hS => (by go_simp)⟩) hY25 ?_
        try simp only [Go.Act.put, List.setIfInBounds_toArray, List.set_cons_zero, List.set_cons_succ]
        refine wpH_take (i := 11) (v := (.bool false)) (some 71) rfl rfl (by kernel_rfl) (by kernel_rfl) (by kernel_rfl) (fun _ _ _ h => h) (Or.inl ⟨by rfl, fun w' hS => (by go_simp)⟩) hY25 ?_
        try simp only [Go.Act.put, List.setIfInBounds_toArray, List.set_cons_zero, List.set_cons_succ]
        refine wpH_take (i := 12) (v := (.int .i64 0)) (some 72) rfl rfl (by kernel_rfl) (by kernel_rfl) (by kernel_rfl) (fun _ _ _ h => h) (Or.inl ⟨by rfl, fun w' hS => (by go_simp)⟩) hY25 ?_
        try simp only [Go.Act.put, List.setIfInBounds_toArray, List.set_cons_zero, List.set_cons_succ]
        refine wpH_call (i := 15) (o := { dst := none, op := Op.store 76 (Operand.tmp 15) (Operand.tmp 69), type := 0, pos := _, after := #[{ on := 13, ground := Ground.data }, { on := 9, ground := Ground.data }, { on := 7, ground := Ground.chain }, { on := 0, ground := Ground.phase }, { on := 1, ground := Ground.phase }, { on := 2, ground := Ground.phase }, { on := 3, ground := Ground.phase }, { on := 4, ground := Ground.phase }, { on := 5, ground := Ground.phase }, { on := 6, ground := Ground.phase }, { on := 7, ground := Ground.phase }, { on := 8, ground := Ground.phase }, { on := 9, ground := Ground.phase }, { on := 10, ground := Ground.textOnly Departure.lateStores }, { on := 11, ground := Ground.textOnly Departure.lateStores }, { on := 12, ground := Ground.textOnly Departure.lateStores }, { on := 13, ground := Ground.phase }, { on := 14, ground := Ground.phase }], guard := none }) (by kernel_rfl) rfl (fun K' hK => ?_)
        rw [if_pos (by rfl)]
        have x0 := cell_at (j := 0) (v := .int .i64 0) Ckb25 rfl
        have x1 := cell_at (j := 1) (v := .int .i64 0) Ckb25 rfl
        have x2 := cell_at (j := 2) (v := .int .i64 0) Ckb25 rfl
        have x3 := cell_at (j := 3) (v := .int .i64 0) Ckb25 rfl
        have xf := froz_at Ckb25
        have xl := block_lt Ckb25
        go_simp
        refine hK.out _ _ ((((hY25.setCell (Or.inr Lkb24) _).setCell (Or.inr Lkb24) _).setCell (Or.inr Lkb24) _).setCell (Or.inr Lkb24) _) ?_
        clear hK
        try simp only [Go.Act.put, List.setIfInBounds_toArray, List.set_cons_zero, List.set_cons_succ]
        obtain ⟨Y26, eY26⟩ : ∃ Y, Y = ((((Y25.setCell ⟨Y19.heap.size, 0, none⟩ (.int .i64 k)).setCell ⟨Y19.heap.size, 1, none⟩ (.int .i64 m)).setCell ⟨Y19.heap.size, 2, none⟩ (.int .i64 wt)).setCell ⟨Y19.heap.size, 3, none⟩ (.int .i64 on)) := ⟨_, rfl⟩
        rw [← eY26]
        have hY26 : Touch [] W2 Y26 := by rw [eY26]; exact ((((hY25.setCell (Or.inr Lkb24) _).setCell (Or.inr Lkb24) _).setCell (Or.inr Lkb24) _).setCell (Or.inr Lkb24) _)
        have gY26 : Touch [Y19.heap.size] Y25 Y26 := by rw [eY26]; exact (((((Touch.refl _ _).setCell (Or.inl (by simp)) _).setCell (Or.inl (by simp)) _).setCell (Or.inl (by simp)) _).setCell (Or.inl (by simp)) _)
        have Ckb26 : Y26.heap[Y19.heap.size]? = some (.cells #[.int .i64 k, .int .i64 m, .int .i64 wt, .int .i64 on] 76 (0, 0)) := by rw [eY26]; have := (bset (i := 3) (bset (i := 2) (bset (i := 1) (bset (i := 0) Ckb25 (.int .i64 k)) (.int .i64 m)) (.int .i64 wt)) (.int .i64 on)); simpa using this
        have Cob26 := gY26.keep Cob25 (fun e => kb_ne Ckb25 Cob25 (by simpa using e))
        clear eY26 x0 x1 x2 x3 xf xl
        refine wpH_call (i := 16) (o := { dst := none, op := Op.store 51 (Operand.tmp 16) (Operand.tmp 70), type := 0, pos := _, after := #[{ on := 14, ground := Ground.data }, { on := 10, ground := Ground.data }, { on := 15, ground := Ground.chain }, { on := 0, ground := Ground.phase }, { on := 1, ground := Ground.phase }, { on := 2, ground := Ground.phase }, { on := 3, ground := Ground.phase }, { on := 4, ground := Ground.phase }, { on := 5, ground := Ground.phase }, { on := 6, ground := Ground.phase }, { on := 7, ground := Ground.phase }, { on := 8, ground := Ground.phase }, { on := 9, ground := Ground.phase }, { on := 10, ground := Ground.phase }, { on := 11, ground := Ground.textOnly Departure.lateStores }, { on := 12, ground := Ground.textOnly Departure.lateStores }, { on := 13, ground := Ground.phase }, { on := 14, ground := Ground.phase }, { on := 15, ground := Ground.phase }], guard := none }) (by kernel_rfl) rfl (fun K' hK => ?_)
        rw [if_pos (by rfl)]
        have x0 := cell_at (j := 0) (v := .int .i64 0) Cob26 rfl
        have x1 := cell_at (j := 1) (v := .int .i64 0) Cob26 rfl
        have x2 := cell_at (j := 2) (v := .int .i64 0) Cob26 rfl
        have x3 := cell_at (j := 3) (v := .int .i64 0) Cob26 rfl
        have xf := froz_at Cob26
        have xl := block_lt Cob26
        go_simp
        refine hK.out _ _ ((((hY26.setCell (Or.inr Lob19) _).setCell (Or.inr Lob19) _).setCell (Or.inr Lob19) _).setCell (Or.inr Lob19) _) ?_
        clear hK
        try simp only [Go.Act.put, List.setIfInBounds_toArray, List.set_cons_zero, List.set_cons_succ]
        obtain ⟨Y27, eY27⟩ : ∃ Y, Y = ((((Y26.setCell ⟨X0.heap.size, 0, none⟩ (.int .i64 0)).setCell ⟨X0.heap.size, 1, none⟩ (.int .i64 0)).setCell ⟨X0.heap.size, 2, none⟩ (.int .i64 0)).setCell ⟨X0.heap.size, 3, none⟩ (.int .i64 0)) := ⟨_, rfl⟩
        rw [← eY27]
        have hY27 : Touch [] W2 Y27 := by rw [eY27]; exact ((((hY26.setCell (Or.inr Lob19) _).setCell (Or.inr Lob19) _).setCell (Or.inr Lob19) _).setCell (Or.inr Lob19) _)
        have gY27 : Touch [X0.heap.size] Y26 Y27 := by rw [eY27]; exact (((((Touch.refl _ _).setCell (Or.inl (by simp)) _).setCell (Or.inl (by simp)) _).setCell (Or.inl (by simp)) _).setCell (Or.inl (by simp)) _)
        have Cob27 : Y27.heap[X0.heap.size]? = some (.cells #[.int .i64 0, .int .i64 0, .int .i64 0, .int .i64 0] 51 (0, 0)) := by rw [eY27]; have := (bset (i := 3) (bset (i := 2) (bset (i := 1) (bset (i := 0) Cob26 (.int .i64 0)) (.int .i64 0)) (.int .i64 0)) (.int .i64 0)); simpa using this
        have Ckb27 := gY27.keep Ckb26 (fun e => ob_ne Cob26 Ckb26 (by simpa using e))
        clear eY27 x0 x1 x2 x3 xf xl
        refine wpH_take (i := 17) (v := (.bool false)) (some 17) rfl rfl (by kernel_rfl) (by kernel_rfl) (by kernel_rfl) (fun _ _ _ h => h) (Or.inl ⟨by rfl, fun w' hS => (by go_simp)⟩) hY27 ?_
        try simp only [Go.Act.put, List.setIfInBounds_toArray, List.set_cons_zero, List.set_cons_succ]
        refine wpH_take (i := 18) (v := (.int .i64 0)) (some 18) rfl rfl (by kernel_rfl) (by kernel_rfl) (by kernel_rfl) (fun _ _ _ h => h) (Or.inl ⟨by rfl, fun w' hS => (by go_simp)⟩) hY27 ?_
        try simp only [Go.Act.put, List.setIfInBounds_toArray, List.set_cons_zero, List.set_cons_succ]
        refine wpAnyH_done (by kernel_rfl) ?_ _
        go_wp2_with fail
        go_meet
        case rel => exact ⟨_, _, rfl, rfl, rfl, rfl, hid ⟨Lkb24, Ckb27, Cob27, hY27⟩⟩
      exact AllH.nil
    exact AllH.nil
   case rest =>
    obtain ⟨kb, ob, rfl, rfl, rfl, rfl, HC⟩ := hcut
    obtain ⟨X, rfl⟩ : ∃ X, X = wc := ⟨_, rfl⟩
    obtain ⟨b0, _, _, _⟩ := HB1.out X HC.out.2.2.2
    have x0 := cell_at (j := 0) (v := .int .i64 k) HC.out.2.1 rfl
    have x1 := cell_at (j := 1) (v := .int .i64 m) HC.out.2.1 rfl
    have x2 := cell_at (j := 2) (v := .int .i64 wt) HC.out.2.1 rfl
    have x3 := cell_at (j := 3) (v := .int .i64 on) HC.out.2.1 rfl
    have HGO := hid (hgo X (HTW.out.trans' HC.out.2.2.2))
    have HXT := hid (HTW.out.trans' HC.out.2.2.2)
    have HXS : Hid (w.heap.size < X.heap.size) := hid (block_lt b0)
    have HB0 : Hid (∀ Y F, Touch F X Y → ¬ w.heap.size ∈ F → Y.heap[w.heap.size]? = some (.cells #[.int .i64 0, .int .i64 0, .int .i64 0, .int .i64 0] 43 (0, 0))) := hid (fun Y F T hn => T.keep b0 hn)
    clear b0 hgo z4 k3 k4 k5 k6 u0 u1 u2 u3 HD HD2
    go_wp2_with (go_at_call 33; refine HGO.out.mono ?_; rintro e' Y ⟨y0, y1, y2, y3, er, F, rfl, t5, hF, p5⟩; have HP5 := hid p5; have c5 := HB0.out Y F t5 hF; have f0 := cell_at (j := 0) (v := .int .i64 0) c5 rfl; have f1 := cell_at (j := 1) (v := .int .i64 0) c5 rfl; have f2 := cell_at (j := 2) (v := .int .i64 0) c5 rfl; have f3 := cell_at (j := 3) (v := .int .i64 0) c5 rfl; have ff := froz_at c5; have fl := block_lt c5; clear p5 c5 t5 hF)
    refine bodyPost_ret (v := .tuple #[.agg #[.int .i64 y0, .int .i64 y1, .int .i64 y2, .int .i64 y3], .int .i64 er]) (by simp [results, Tryd.results12, go_sem, f0, f1, f2, f3]) rfl ?_
    refine ⟨y0, y1, y2, y3, er, X, Y, rfl, HXT.out, HXS.out, HP5.out, ?_⟩
    exact ((((Touch.refl _ _).setCell (Or.inl (by simp)) _).setCell (Or.inl (by simp)) _).setCell (Or.inl (by simp)) _).setCell (Or.inl (by simp)) _
set_option maxHeartbeats 8000000 in
set_option maxRecDepth 100000 in
theorem step_fin (h : Lq w b r S vr vl) (hk : Rc.Kd w) (hi : Iv S) {q : Ip} {l : List Ip} (e : S.left = q :: l) (hwt : S.wt = 0) (vg vc vt : Value) (ht : Tk w vt) {v kd cd0 u : Int} (hf : q.1.f S.p S.n = .fin v kd cd0 u) : Calls Tryd.prog 12 #[.pointer (some ⟨b, 0, none⟩), vg, vc, vt] w fun e w' => e = .returned (.tuple #[.agg #[.int .i64 (endW S 5 (v, kd, cd0, u)), .int .i64 q.1.run, .int .i64 0, .int .i64 0], .int .i64 0]) ∧ ∃ vl', Lq w' b r (endS S (v, kd, cd0, u)) vr vl' ∧ Touch [b, r] w w' := by
  obtain ⟨al, cl, rfl, hcl⟩ := h.vform
  obtain ⟨g, off, rfl, hA⟩ := Its.item (i := 0) h.lf.its (by rw [e]; simp)
  have hq : S.left[0]'(by rw [e]; simp) = q := by simp [e]
  rw [hq] at hA
  simp only [Nat.zero_mul, Nat.add_zero] at hA
  have hqm : q ∈ S.left := by rw [e]; simp
  obtain ⟨ad, cd, e2, _⟩ := Rv.form (h.lf.its.sv q hqm)
  have hbw : b < w.heap.size := block_lt h.bl
  obtain ⟨V, hV⟩ : ∃ V, V = (w.alloc (.cells #[.int .i64 0, .int .i64 0, .int .i64 0, .int .i64 0] 43)).alloc (.cells #[.int .i64 q.1.run, .int .u16 q.1.sp, .string q.1.nm, .int .i64 q.1.tok, .slice ad q.1.L.length cd] 33) := ⟨_, rfl⟩
  have tv : Touch [] w V := by rw [hV]; exact ((Touch.refl _ _).alloc _).alloc _
  have hb0 : V.heap[w.heap.size]? = some (.cells #[.int .i64 0, .int .i64 0, .int .i64 0, .int .i64 0] 43 (0, 0)) := by rw [hV]; exact ((Touch.refl [] _).alloc _).keep (heap_alloc_new w _) (by simp)
  have hb1 : V.heap[w.heap.size + 1]? = some (.cells #[.int .i64 q.1.run, .int .u16 q.1.sp, .string q.1.nm, .int .i64 q.1.tok, .slice ad q.1.L.length cd] 33 (0, 0)) := by
    rw [hV]
    have := heap_alloc_new (w.alloc (.cells #[.int .i64 0, .int .i64 0, .int .i64 0, .int .i64 0] 43)) (.cells #[.int .i64 q.1.run, .int .u16 q.1.sp, .string q.1.nm, .int .i64 q.1.tok, .slice ad q.1.L.length cd] 33)
    rw [World.size_alloc] at this
    exact this
  have HTV := hid tv
  have HB := hid (And.intro hb0 hb1)
  have HL := hid h
  have HIS : Hid (∀ w', Touch [] V w' → Calls Tryd.prog 29 #[vt, .int .i64 q.1.tok] w' fun e w2 => e = .returned (.bool false) ∧ w2 = w') := hid (fun w' T => tis_ (ht.keep0 (tv.trans' T)) _)
  have HO : Hid (∀ w', Touch [] w w' → Calls Tryd.prog 11 #[.pointer (some ⟨b, 0, none⟩)] w' fun e w2 => e = .returned (.bool false) ∧ w2 = w') := hid (fun w' T => over_no (h.keep0 T) e)
  have HW : Hid (∀ w', Touch [] w w' → Calls Tryd.prog 14 #[.pointer (some ⟨b, 0, none⟩)] w' fun e w2 => e = .returned (.tuple #[.int .i64 0, .int .i64 0, .bool false]) ∧ w2 = w') := hid (fun w' T => waits_no (h.keep0 T) hwt)
  have y0 := hA.c0
  have y1 := hA.c1
  have y2 := hA.c2
  have y3 := hA.c3
  have y4 := hA.c4
  rw [e2] at y4
  have c2 : w.cell? ⟨b, 2, none⟩ = some (.slice (some ⟨g, off, none⟩) S.left.length cl) := cell_at h.bl rfl
  have hzl : (0 : Int) < (S.left.length : Int) := by rw [e]; simp
  have hgw : g < w.heap.size := cell_lt' y0
  have HWT := hid hwt
  have hok := hi.ok q hqm
  have HDO : Hid (∀ w', Touch [] w w' → Calls Tryd.prog 32 #[.slice ad q.1.L.length cd, .agg #[.int .i64 S.p, .int .i64 S.n, .int .i64 0, .int .i64 S.on], .agg #[.int .u16 q.1.sp, .string q.1.nm, .int .i64 q.1.run, .bool false]] w' fun e w2 => e = .returned (.tuple #[.agg #[.int .i64 0, .int .i64 0, .int .i64 0, .int .i64 0], .agg #[.int .i64 v, .int .i64 kd, .int .i64 cd0, .int .i64 u], .bool true, .int .i64 0]) ∧ Touch [] w' w2) := hid (fun w' T => by
    have hs := (h.lf.its.sv q hqm).keep0 T
    rw [e2] at hs
    refine (Rc.do12 q.1.L ad cd S.p S.n S.on q.1.ar w' (Kd.touch hk T) hs.sl.2 hok.good hok.wf.L hi.n (hi.p q (by rw [e]; simp)) hok.ar).mono ?_
    rintro e' w2 ⟨⟨R, rfl, hR⟩, g2⟩
    have hR' : R = Rc.Rs.fin v kd cd0 u := hR.trans hf
    subst hR'
    exact ⟨rfl, Gr.touch g2⟩)
  have HIV := hid hi
  have HEQ := hid e
  clear hok hk hi hwt hf e2
  clear h hA hcl hq hqm tv hb0 hb1 ht
  clear e
  go_enter Tryd.func12, Tryd.ntmps12
  go_upto_region 7 with (first
    | (go_at_call 11; refine (HO.out _ ((Touch.refl _ _).alloc _)).mono ?_; rintro e w2 ⟨rfl, rfl⟩)
    | (go_at_call 14; refine (HW.out _ ((Touch.refl _ _).alloc _)).mono ?_; rintro e w2 ⟨rfl, rfl⟩)
    | fail)
  rw [← hV]
  clear hV y0 y1 y2 y3 y4 c2 HO HW
  go_cut [14] from 36 to 44 (fun s14 wx => s14 = .pointer (some ⟨V.heap.size, 0, none⟩) ∧ Hid (Touch [] V wx ∧ wx.heap[V.heap.size]? = some (.cells #[.int .u16 q.1.sp, .string q.1.nm, .int .i64 q.1.run, .bool false] 71 (0, 0))))
  case first =>
   refine wp_region_H (S := fun w' => Touch [] V w') (by kernel_rfl) ?_
   have s0 : Touch [] V V.drew := (Touch.refl _ _).drew
   have y0 : ∀ w', Touch [] V w' → w'.cell? ⟨w.heap.size + 1, 0, none⟩ = some (.int .i64 q.1.run) := fun w' T => cell_at (T.keep HB.out.2 (by simp)) rfl
   have y1 : ∀ w', Touch [] V w' → w'.cell? ⟨w.heap.size + 1, 1, none⟩ = some (.int .u16 q.1.sp) := fun w' T => cell_at (T.keep HB.out.2 (by simp)) rfl
   have y2 : ∀ w', Touch [] V w' → w'.cell? ⟨w.heap.size + 1, 2, none⟩ = some (.string q.1.nm) := fun w' T => cell_at (T.keep HB.out.2 (by simp)) rfl
   have y3 : ∀ w', Touch [] V w' → w'.cell? ⟨w.heap.size + 1, 3, none⟩ = some (.int .i64 q.1.tok) := fun w' T => cell_at (T.keep HB.out.2 (by simp)) rfl
   have y4 : ∀ w', Touch [] V w' → w'.cell? ⟨w.heap.size + 1, 4, none⟩ = some (.slice ad q.1.L.length cd) := fun w' T => cell_at (T.keep HB.out.2 (by simp)) rfl
   refine wpH_take (i := 0) (v := (.pointer (some ⟨w.heap.size + 1, 1, none⟩))) (some 36) rfl rfl (by kernel_rfl) (by kernel_rfl) (by kernel_rfl) (fun _ _ _ h => h) (Or.inl ⟨by rfl, fun w' hS => (by go_simp)⟩) s0 ?_
   try simp only [Go.Act.put, List.setIfInBounds_toArray, List.set_cons_zero, List.set_cons_succ]
   refine wpH_take (i := 1) (v := (.agg #[.int .u16 q.1.sp, .string q.1.nm])) (some 37) rfl rfl (by kernel_rfl) (by kernel_rfl) (by kernel_rfl) (fun _ _ _ h => h) (Or.inl ⟨by rfl, fun w' hS => (by have z0 := y1 _ hS; have z1 := y2 _ hS; go_simp)⟩) s0 ?_
   try simp only [Go.Act.put, List.setIfInBounds_toArray, List.set_cons_zero, List.set_cons_succ]
   refine wpH_take (i := 2) (v := (.pointer (some ⟨w.heap.size + 1, 0, none⟩))) (some 38) rfl rfl (by kernel_rfl) (by kernel_rfl) (by kernel_rfl) (fun _ _ _ h => h) (Or.inl ⟨by rfl, fun w' hS => (by go_simp)⟩) s0 ?_
   try simp only [Go.Act.put, List.setIfInBounds_toArray, List.set_cons_zero, List.set_cons_succ]
   refine wpH_take (i := 3) (v := (.int .i64 q.1.run)) (some 39) rfl rfl (by kernel_rfl) (by kernel_rfl) (by kernel_rfl) (fun _ _ _ h => h) (Or.inl ⟨by rfl, fun w' hS => (by have z0 := y0 _ hS; go_simp)⟩) s0 ?_
   try simp only [Go.Act.put, List.setIfInBounds_toArray, List.set_cons_zero, List.set_cons_succ]
   refine wpH_take (i := 4) (v := (vt)) (some 40) rfl rfl (by kernel_rfl) (by kernel_rfl) (by kernel_rfl) (fun _ _ _ h => h) (Or.inl ⟨by rfl, fun w' hS => (by go_simp)⟩) s0 ?_
   try simp only [Go.Act.put, List.setIfInBounds_toArray, List.set_cons_zero, List.set_cons_succ]
   refine wpH_take (i := 5) (v := (.pointer (some ⟨w.heap.size + 1, 3, none⟩))) (some 41) rfl rfl (by kernel_rfl) (by kernel_rfl) (by kernel_rfl) (fun _ _ _ h => h) (Or.inl ⟨by rfl, fun w' hS => (by go_simp)⟩) s0 ?_
   try simp only [Go.Act.put, List.setIfInBounds_toArray, List.set_cons_zero, List.set_cons_succ]
   refine wpH_take (i := 6) (v := (.int .i64 q.1.tok)) (some 42) rfl rfl (by kernel_rfl) (by kernel_rfl) (by kernel_rfl) (fun _ _ _ h => h) (Or.inl ⟨by rfl, fun w' hS => (by have z0 := y3 _ hS; go_simp)⟩) s0 ?_
   try simp only [Go.Act.put, List.setIfInBounds_toArray, List.set_cons_zero, List.set_cons_succ]
   refine wpH_ready (rs := [7, 9]) (by kernel_rfl) (by simp) ?_
   refine AllH.cons (o := { dst := some 43, op := Op.call { callee := Callee.value (Operand.func 29), args := #[Operand.tmp 40, Operand.tmp 42], argTypes := #[40, 3] }, type := 4, pos := _, after := #[{ on := 4, ground := Ground.data }, { on := 6, ground := Ground.data }], guard := none }) rfl (fun K' hK => ?_) ?_
   · rw [if_pos (by rfl)]
     go_simp
     refine (HIS.out _ s0).mono ?_
     rintro e' Y' ⟨rfl, e0⟩
     rw [e0]
     clear e0 Y'
     refine hK.out _ _ s0 ?_
     clear hK
     try simp only [Go.Act.put, List.setIfInBounds_toArray, List.set_cons_zero, List.set_cons_succ]
     refine wpH_take (i := 8) (v := (.agg #[.int .u16 q.1.sp, .string q.1.nm, .int .i64 q.1.run, .bool false])) (some 44) rfl rfl (by kernel_rfl) (by kernel_rfl) (by kernel_rfl) (fun _ _ _ h => h) (Or.inl ⟨by rfl, fun w' hS => (by go_simp)⟩) s0 ?_
     try simp only [Go.Act.put, List.setIfInBounds_toArray, List.set_cons_zero, List.set_cons_succ]
     refine wpH_call (i := 9) (o := { dst := some 14, op := Op.alloc 71, type := 0, pos := _, after := #[], guard := none }) (by kernel_rfl) rfl (fun K' hK => ?_)
     rw [if_pos (by rfl)]
     go_simp
     refine hK.out _ _ (((Touch.refl [] V).alloc _).drew) ?_
     clear hK
     try simp only [Go.Act.put, List.setIfInBounds_toArray, List.set_cons_zero, List.set_cons_succ]
     refine wpH_call (i := 10) (o := { dst := none, op := Op.store 71 (Operand.tmp 14) (Operand.tmp 44), type := 0, pos := _, after := #[{ on := 9, ground := Ground.data }, { on := 8, ground := Ground.data }, { on := 7, ground := Ground.chain }, { on := 0, ground := Ground.phase }, { on := 1, ground := Ground.phase }, { on := 2, ground := Ground.phase }, { on := 3, ground := Ground.phase }, { on := 4, ground := Ground.phase }, { on := 5, ground := Ground.phase }, { on := 6, ground := Ground.phase }, { on := 7, ground := Ground.phase }, { on := 8, ground := Ground.phase }, { on := 9, ground := Ground.phase }], guard := none }) (by kernel_rfl) rfl (fun K' hK => ?_)
     rw [if_pos (by rfl)]
     go_simp
     refine hK.out _ _ (((Touch.refl [] V).alloc _).drew) ?_
     clear hK
     try simp only [Go.Act.put, List.setIfInBounds_toArray, List.set_cons_zero, List.set_cons_succ]
     refine wpAnyH_done (by kernel_rfl) ?_ _
     go_wp2_with fail
     go_meet
     case rel => exact ⟨rfl, hid ⟨((Touch.refl _ _).alloc _).drew, heap_alloc_new V _⟩⟩
   refine AllH.cons (o := { dst := some 14, op := Op.alloc 71, type := 0, pos := _, after := #[], guard := none }) rfl (fun K' hK => ?_) ?_
   · rw [if_pos (by rfl)]
     go_simp
     refine hK.out _ _ (((Touch.refl [] V).alloc _).drew) ?_
     clear hK
     try simp only [Go.Act.put, List.setIfInBounds_toArray, List.set_cons_zero, List.set_cons_succ]
     refine wpH_call (i := 7) (o := { dst := some 43, op := Op.call { callee := Callee.value (Operand.func 29), args := #[Operand.tmp 40, Operand.tmp 42], argTypes := #[40, 3] }, type := 4, pos := _, after := #[{ on := 4, ground := Ground.data }, { on := 6, ground := Ground.data }], guard := none }) (by kernel_rfl) rfl (fun K' hK => ?_)
     rw [if_pos (by rfl)]
     go_simp
     refine (HIS.out _ (((Touch.refl [] V).alloc _).drew)).mono ?_
     rintro e' Y' ⟨rfl, e0⟩
     rw [e0]
     clear e0 Y'
     refine hK.out _ _ (((Touch.refl [] V).alloc _).drew) ?_
     clear hK
     try simp only [Go.Act.put, List.setIfInBounds_toArray, List.set_cons_zero, List.set_cons_succ]
     refine wpH_take (i := 8) (v := (.agg #[.int .u16 q.1.sp, .string q.1.nm, .int .i64 q.1.run, .bool false])) (some 44) rfl rfl (by kernel_rfl) (by kernel_rfl) (by kernel_rfl) (fun _ _ _ h => h) (Or.inl ⟨by rfl, fun w' hS => (by go_simp)⟩) (((Touch.refl [] V).alloc _).drew) ?_
     try simp only [Go.Act.put, List.setIfInBounds_toArray, List.set_cons_zero, List.set_cons_succ]
     refine wpH_call (i := 10) (o := { dst := none, op := Op.store 71 (Operand.tmp 14) (Operand.tmp 44), type := 0, pos := _, after := #[{ on := 9, ground := Ground.data }, { on := 8, ground := Ground.data }, { on := 7, ground := Ground.chain }, { on := 0, ground := Ground.phase }, { on := 1, ground := Ground.phase }, { on := 2, ground := Ground.phase }, { on := 3, ground := Ground.phase }, { on := 4, ground := Ground.phase }, { on := 5, ground := Ground.phase }, { on := 6, ground := Ground.phase }, { on := 7, ground := Ground.phase }, { on := 8, ground := Ground.phase }, { on := 9, ground := Ground.phase }], guard := none }) (by kernel_rfl) rfl (fun K' hK => ?_)
     rw [if_pos (by rfl)]
     go_simp
     refine hK.out _ _ (((Touch.refl [] V).alloc _).drew) ?_
     clear hK
     try simp only [Go.Act.put, List.setIfInBounds_toArray, List.set_cons_zero, List.set_cons_succ]
     refine wpAnyH_done (by kernel_rfl) ?_ _
     go_wp2_with fail
     go_meet
     case rel => exact ⟨rfl, hid ⟨((Touch.refl _ _).alloc _).drew, heap_alloc_new V _⟩⟩
   exact AllH.nil
  case rest =>
   obtain ⟨rfl, HC7⟩ := hcut
   obtain ⟨W2, rfl⟩ : ∃ W2, W2 = wc := ⟨_, rfl⟩
   have HT2 := hid HC7.out.1
   have HB2 := hid HC7.out.2
   clear HC7 HIS
   have a2 := cell_at (j := 2) (v := .int .i64 q.1.run) HB2.out rfl
   have a3 := cell_at (j := 3) (v := .bool false) HB2.out rfl
   go_upto_region 10 with fail
   clear a2 a3
   have HB1 : Hid (∀ w', Touch [] W2 w' → w'.heap[w.heap.size]? = some (.cells #[.int .i64 0, .int .i64 0, .int .i64 0, .int .i64 0] 43 (0, 0)) ∧ w'.heap[w.heap.size + 1]? = some (.cells #[.int .i64 q.1.run, .int .u16 q.1.sp, .string q.1.nm, .int .i64 q.1.tok, .slice ad q.1.L.length cd] 33 (0, 0)) ∧ w'.heap[b]? = some (.cells (lc S vr (.slice (some ⟨g, off, none⟩) S.left.length cl)) 78 (0, 0)) ∧ w'.heap[V.heap.size]? = some (.cells #[.int .u16 q.1.sp, .string q.1.nm, .int .i64 q.1.run, .bool false] 71 (0, 0))) := hid (fun w' T => ⟨(HT2.out.trans' T).keep HB.out.1 (by simp), (HT2.out.trans' T).keep HB.out.2 (by simp), ((HTV.out.trans' HT2.out).trans' T).keep HL.out.bl (by simp), T.keep HB2.out (by simp)⟩)
   have HD : Hid (∀ w', Touch [] W2 w' → Calls Tryd.prog 32 #[.slice ad q.1.L.length cd, .agg #[.int .i64 S.p, .int .i64 S.n, .int .i64 0, .int .i64 S.on], .agg #[.int .u16 q.1.sp, .string q.1.nm, .int .i64 q.1.run, .bool false]] w' fun e w2 => e = .returned (.tuple #[.agg #[.int .i64 0, .int .i64 0, .int .i64 0, .int .i64 0], .agg #[.int .i64 v, .int .i64 kd, .int .i64 cd0, .int .i64 u], .bool true, .int .i64 0]) ∧ Touch [] W2 w2) := hid (fun w' T => (HDO.out w' ((HTV.out.trans' HT2.out).trans' T)).mono (by
     rintro e w2 ⟨rfl, t2⟩
     exact ⟨rfl, T.trans' t2⟩))
   have HD2 : Hid (∀ w', Touch [] W2 w' → Calls Tryd.prog 32 #[.slice ad q.1.L.length cd, .agg #[.int .i64 S.p, .int .i64 S.n, .int .i64 0, .int .i64 S.on], .agg #[.int .u16 q.1.sp, .string q.1.nm, .int .i64 q.1.run, .bool false]] w' fun e w2 => e = .returned (.tuple #[.agg #[.int .i64 0, .int .i64 0, .int .i64 0, .int .i64 0], .agg #[.int .i64 v, .int .i64 kd, .int .i64 cd0, .int .i64 u], .bool true, .int .i64 0]) ∧ Touch [] w' w2) := hid (fun w' T => HDO.out w' ((HTV.out.trans' HT2.out).trans' T))
   have HTW := hid (HTV.out.trans' HT2.out)
   have HVS : Hid (w.heap.size + 1 < W2.heap.size) := hid (Nat.lt_of_lt_of_le (block_lt HB.out.2) HT2.out.size)
   clear HDO HB2 HB HTV HT2
   have z4 : ∀ w', Touch [] W2 w' → w'.cell? ⟨w.heap.size + 1, 4, none⟩ = some (.slice ad q.1.L.length cd) := fun w' T => cell_at (HB1.out w' T).2.1 rfl
   have k3 : ∀ w', Touch [] W2 w' → w'.cell? ⟨b, 3, none⟩ = some (.int .i64 S.p) := fun w' T => cell_at (HB1.out w' T).2.2.1 rfl
   have k4 : ∀ w', Touch [] W2 w' → w'.cell? ⟨b, 4, none⟩ = some (.int .i64 S.n) := fun w' T => cell_at (HB1.out w' T).2.2.1 rfl
   have k5 : ∀ w', Touch [] W2 w' → w'.cell? ⟨b, 5, none⟩ = some (.int .i64 0) := fun w' T => by rw [← HWT.out]; exact cell_at (HB1.out w' T).2.2.1 rfl
   have k6 : ∀ w', Touch [] W2 w' → w'.cell? ⟨b, 6, none⟩ = some (.int .i64 S.on) := fun w' T => cell_at (HB1.out w' T).2.2.1 rfl
   have u0 : ∀ w', Touch [] W2 w' → w'.cell? ⟨V.heap.size, 0, none⟩ = some (.int .u16 q.1.sp) := fun w' T => cell_at (HB1.out w' T).2.2.2 rfl
   have u1 : ∀ w', Touch [] W2 w' → w'.cell? ⟨V.heap.size, 1, none⟩ = some (.string q.1.nm) := fun w' T => cell_at (HB1.out w' T).2.2.2 rfl
   have u2 : ∀ w', Touch [] W2 w' → w'.cell? ⟨V.heap.size, 2, none⟩ = some (.int .i64 q.1.run) := fun w' T => cell_at (HB1.out w' T).2.2.2 rfl
   have u3 : ∀ w', Touch [] W2 w' → w'.cell? ⟨V.heap.size, 3, none⟩ = some (.bool false) := fun w' T => cell_at (HB1.out w' T).2.2.2 rfl
   go_cut [15, 16, 17, 18] from 60 to 72 (fun s15 s16 s17 s18 wx => ∃ kb ob, s15 = .pointer (some ⟨kb, 0, none⟩) ∧ s16 = .pointer (some ⟨ob, 0, none⟩) ∧ s17 = .bool true ∧ s18 = .int .i64 0 ∧ Hid (W2.heap.size ≤ kb ∧ wx.heap[kb]? = some (.cells #[.int .i64 0, .int .i64 0, .int .i64 0, .int .i64 0] 76 (0, 0)) ∧ wx.heap[ob]? = some (.cells #[.int .i64 v, .int .i64 kd, .int .i64 cd0, .int .i64 u] 51 (0, 0)) ∧ Touch [] W2 wx))
   case first =>
    refine wp_region_H (S := fun w' => Touch [] W2 w') (by kernel_rfl) ?_
    obtain ⟨X0, hX0⟩ : ∃ X0, X0 = W2.drew := ⟨_, rfl⟩
    rw [← hX0]
    have s0 : Touch [] W2 X0 := by rw [hX0]; exact (Touch.refl _ _).drew
    clear hX0
    refine wpH_take (i := 0) (v := (.pointer (some ⟨w.heap.size + 1, 4, none⟩))) (some 61) rfl rfl (by kernel_rfl) (by kernel_rfl) (by kernel_rfl) (fun _ _ _ h => h) (Or.inl ⟨by rfl, fun w' hS => (by go_simp)⟩) s0 ?_
    try simp only [Go.Act.put, List.setIfInBounds_toArray, List.set_cons_zero, List.set_cons_succ]
    refine wpH_take (i := 1) (v := (.slice ad q.1.L.length cd)) (some 62) rfl rfl (by kernel_rfl) (by kernel_rfl) (by kernel_rfl) (fun _ _ _ h => h) (Or.inl ⟨by rfl, fun w' hS => (by have z0 := z4 _ hS; go_simp)⟩) s0 ?_
    try simp only [Go.Act.put, List.setIfInBounds_toArray, List.set_cons_zero, List.set_cons_succ]
    refine wpH_take (i := 2) (v := (.pointer (some ⟨b, 0, none⟩))) (some 63) rfl rfl (by kernel_rfl) (by kernel_rfl) (by kernel_rfl) (fun _ _ _ h => h) (Or.inl ⟨by rfl, fun w' hS => (by go_simp)⟩) s0 ?_
    try simp only [Go.Act.put, List.setIfInBounds_toArray, List.set_cons_zero, List.set_cons_succ]
    refine wpH_take (i := 3) (v := (.pointer (some ⟨b, 0, none⟩))) (some 64) rfl rfl (by kernel_rfl) (by kernel_rfl) (by kernel_rfl) (fun _ _ _ h => h) (Or.inl ⟨by rfl, fun w' hS => (by go_simp)⟩) s0 ?_
    try simp only [Go.Act.put, List.setIfInBounds_toArray, List.set_cons_zero, List.set_cons_succ]
    refine wpH_take (i := 4) (v := (.pointer (some ⟨b, 3, none⟩))) (some 65) rfl rfl (by kernel_rfl) (by kernel_rfl) (by kernel_rfl) (fun _ _ _ h => h) (Or.inl ⟨by rfl, fun w' hS => (by go_simp)⟩) s0 ?_
    try simp only [Go.Act.put, List.setIfInBounds_toArray, List.set_cons_zero, List.set_cons_succ]
    refine wpH_take (i := 5) (v := (.agg #[.int .i64 S.p, .int .i64 S.n, .int .i64 0, .int .i64 S.on])) (some 66) rfl rfl (by kernel_rfl) (by kernel_rfl) (by kernel_rfl) (fun _ _ _ h => h) (Or.inl ⟨by rfl, fun w' hS => (by have z0 := k3 _ hS; have z1 := k4 _ hS; have z2 := k5 _ hS; have z3 := k6 _ hS; go_simp)⟩) s0 ?_
    try simp only [Go.Act.put, List.setIfInBounds_toArray, List.set_cons_zero, List.set_cons_succ]
    refine wpH_take (i := 6) (v := (.agg #[.int .u16 q.1.sp, .string q.1.nm, .int .i64 q.1.run, .bool false])) (some 67) rfl rfl (by kernel_rfl) (by kernel_rfl) (by kernel_rfl) (fun _ _ _ h => h) (Or.inl ⟨by rfl, fun w' hS => (by have z0 := u0 _ hS; have z1 := u1 _ hS; have z2 := u2 _ hS; have z3 := u3 _ hS; go_simp)⟩) s0 ?_
    try simp only [Go.Act.put, List.setIfInBounds_toArray, List.set_cons_zero, List.set_cons_succ]
    refine wpH_ready (rs := [7, 13, 14]) (by kernel_rfl) (by simp) ?_
    refine AllH.cons (o := { dst := some 68, op := Op.call { callee := Callee.value (Operand.func 32), args := #[Operand.tmp 62, Operand.tmp 66, Operand.tmp 67], argTypes := #[31, 76, 71] }, type := 96, pos := _, after := #[{ on := 1, ground := Ground.data }, { on := 5, ground := Ground.data }, { on := 6, ground := Ground.data }], guard := none }) rfl (fun K' hK => ?_) ?_
    · rw [if_pos (by rfl)]
      go_simp
      have HDk := HD2.out _ s0
      refine HDk.mono ?_
      rintro e' Y1 ⟨rfl, gY1⟩
      have hY1 : Touch [] W2 Y1 := s0.trans' gY1
      refine hK.out _ _ hY1 ?_
      clear hK
      try simp only [Go.Act.put, List.setIfInBounds_toArray, List.set_cons_zero, List.set_cons_succ]
      refine wpH_take (i := 8) (v := (.tuple #[(.agg #[.int .i64 0, .int .i64 0, .int .i64 0, .int .i64 0]), (.agg #[.int .i64 v, .int .i64 kd, .int .i64 cd0, .int .i64 u]), (.bool true), (.int .i64 0)])) (some 60) rfl rfl (by kernel_rfl) (by kernel_rfl) (by kernel_rfl) (fun _ _ _ h => h) (Or.inl ⟨by rfl, fun w' hS => (by go_simp)⟩) hY1 ?_
      try simp only [Go.Act.put, List.setIfInBounds_toArray, List.set_cons_zero, List.set_cons_succ]
      refine wpH_take (i := 9) (v := (.agg #[.int .i64 0, .int .i64 0, .int .i64 0, .int .i64 0])) (some 69) rfl rfl (by kernel_rfl) (by kernel_rfl) (by kernel_rfl) (fun _ _ _ h => h) (Or.inl ⟨by rfl, fun w' hS => (by go_simp)⟩) hY1 ?_
      try simp only [Go.Act.put, List.setIfInBounds_toArray, List.set_cons_zero, List.set_cons_succ]
      refine wpH_take (i := 10) (v := (.agg #[.int .i64 v, .int .i64 kd, .int .i64 cd0, .int .i64 u])) (some 70) rfl rfl (by kernel_rfl) (by kernel_rfl) (by kernel_rfl) (fun _ _ _ h => h) (Or.inl ⟨by rfl, fun w' hS => (by go_simp)⟩) hY1 ?_
      try simp only [Go.Act.put, List.setIfInBounds_toArray, List.set_cons_zero, List.set_cons_succ]
      refine wpH_take (i := 11) (v := (.bool true)) (some 71) rfl rfl (by kernel_rfl) (by kernel_rfl) (by kernel_rfl) (fun _ _ _ h => h) (Or.inl ⟨by rfl, fun w' hS => (by go_simp)⟩) hY1 ?_
      try simp only [Go.Act.put, List.setIfInBounds_toArray, List.set_cons_zero, List.set_cons_succ]
      refine wpH_take (i := 12) (v := (.int .i64 0)) (some 72) rfl rfl (by kernel_rfl) (by kernel_rfl) (by kernel_rfl) (fun _ _ _ h => h) (Or.inl ⟨by rfl, fun w' hS => (by go_simp)⟩) hY1 ?_
      try simp only [Go.Act.put, List.setIfInBounds_toArray, List.set_cons_zero, List.set_cons_succ]
      refine wpH_ready (rs := [13, 14]) (by kernel_rfl) (by simp) ?_
      refine AllH.cons (o := { dst := some 15, op := Op.alloc 76, type := 0, pos := _, after := #[], guard := none }) rfl (fun K' hK => ?_) ?_
      · rw [if_pos (by rfl)]
        go_simp
        refine hK.out _ _ (hY1.alloc _) ?_
        clear hK
        try simp only [Go.Act.put, List.setIfInBounds_toArray, List.set_cons_zero, List.set_cons_succ]
        obtain ⟨Y2, eY2⟩ : ∃ Y, Y = Y1.alloc (.cells #[.int .i64 0, .int .i64 0, .int .i64 0, .int .i64 0] 76) := ⟨_, rfl⟩
        rw [← eY2]
        have hY2 : Touch [] W2 Y2 := by rw [eY2]; exact hY1.alloc _
        have gY2 : Touch [] Y1 Y2 := by rw [eY2]; exact (Touch.refl _ _).alloc _
        have Dkb2 : Y2.heap[Y1.heap.size]? = some (.cells #[.int .i64 0, .int .i64 0, .int .i64 0, .int .i64 0] 76 (0, 0)) := by rw [eY2]; exact heap_alloc_new _ _
        have Lkb2 : W2.heap.size ≤ Y1.heap.size := hY1.size
        clear eY2
        refine wpH_call (i := 14) (o := { dst := some 16, op := Op.alloc 51, type := 0, pos := _, after := #[], guard := none }) (by kernel_rfl) rfl (fun K' hK => ?_)
        rw [if_pos (by rfl)]
        go_simp
        refine hK.out _ _ (hY2.alloc _) ?_
        clear hK
        try simp only [Go.Act.put, List.setIfInBounds_toArray, List.set_cons_zero, List.set_cons_succ]
        obtain ⟨Y3, eY3⟩ : ∃ Y, Y = Y2.alloc (.cells #[.int .i64 0, .int .i64 0, .int .i64 0, .int .i64 0] 51) := ⟨_, rfl⟩
        rw [← eY3]
        have hY3 : Touch [] W2 Y3 := by rw [eY3]; exact hY2.alloc _
        have gY3 : Touch [] Y2 Y3 := by rw [eY3]; exact (Touch.refl _ _).alloc _
        have Ckb3 := gY3.keep Dkb2 (by simp)
        have Dob3 : Y3.heap[Y2.heap.size]? = some (.cells #[.int .i64 0, .int .i64 0, .int .i64 0, .int .i64 0] 51 (0, 0)) := by rw [eY3]; exact heap_alloc_new _ _
        have Lob3 : W2.heap.size ≤ Y2.heap.size := hY2.size
        clear eY3
        refine wpH_call (i := 15) (o := { dst := none, op := Op.store 76 (Operand.tmp 15) (Operand.tmp 69), type := 0, pos := _, after := #[{ on := 13, ground := Ground.data }, { on := 9, ground := Ground.data }, { on := 7, ground := Ground.chain }, { on := 0, ground := Ground.phase }, { on := 1, ground := Ground.phase }, { on := 2, ground := Ground.phase }, { on := 3, ground := Ground.phase }, { on := 4, ground := Ground.phase }, { on := 5, ground := Ground.phase }, { on := 6, ground := Ground.phase }, { on := 7, ground := Ground.phase }, { on := 8, ground := Ground.phase }, { on := 9, ground := Ground.phase }, { on := 10, ground := Ground.textOnly Departure.lateStores }, { on := 11, ground := Ground.textOnly Departure.lateStores }, { on := 12, ground := Ground.textOnly Departure.lateStores }, { on := 13, ground := Ground.phase }, { on := 14, ground := Ground.phase }], guard := none }) (by kernel_rfl) rfl (fun K' hK => ?_)
        rw [if_pos (by rfl)]
        have x0 := cell_at (j := 0) (v := .int .i64 0) Ckb3 rfl
        have x1 := cell_at (j := 1) (v := .int .i64 0) Ckb3 rfl
        have x2 := cell_at (j := 2) (v := .int .i64 0) Ckb3 rfl
        have x3 := cell_at (j := 3) (v := .int .i64 0) Ckb3 rfl
        have xf := froz_at Ckb3
        have xl := block_lt Ckb3
        go_simp
        refine hK.out _ _ ((((hY3.setCell (Or.inr Lkb2) _).setCell (Or.inr Lkb2) _).setCell (Or.inr Lkb2) _).setCell (Or.inr Lkb2) _) ?_
        clear hK
        try simp only [Go.Act.put, List.setIfInBounds_toArray, List.set_cons_zero, List.set_cons_succ]
        obtain ⟨Y4, eY4⟩ : ∃ Y, Y = ((((Y3.setCell ⟨Y1.heap.size, 0, none⟩ (.int .i64 0)).setCell ⟨Y1.heap.size, 1, none⟩ (.int .i64 0)).setCell ⟨Y1.heap.size, 2, none⟩ (.int .i64 0)).setCell ⟨Y1.heap.size, 3, none⟩ (.int .i64 0)) := ⟨_, rfl⟩
        rw [← eY4]
        have hY4 : Touch [] W2 Y4 := by rw [eY4]; exact ((((hY3.setCell (Or.inr Lkb2) _).setCell (Or.inr Lkb2) _).setCell (Or.inr Lkb2) _).setCell (Or.inr Lkb2) _)
        have gY4 : Touch [Y1.heap.size] Y3 Y4 := by rw [eY4]; exact (((((Touch.refl _ _).setCell (Or.inl (by simp)) _).setCell (Or.inl (by simp)) _).setCell (Or.inl (by simp)) _).setCell (Or.inl (by simp)) _)
        have Ckb4 : Y4.heap[Y1.heap.size]? = some (.cells #[.int .i64 0, .int .i64 0, .int .i64 0, .int .i64 0] 76 (0, 0)) := by rw [eY4]; have := (bset (i := 3) (bset (i := 2) (bset (i := 1) (bset (i := 0) Ckb3 (.int .i64 0)) (.int .i64 0)) (.int .i64 0)) (.int .i64 0)); simpa using this
        have Cob4 := gY4.keep Dob3 (fun e => kb_ne Ckb3 Dob3 (by simpa using e))
        clear eY4 x0 x1 x2 x3 xf xl
        refine wpH_call (i := 16) (o := { dst := none, op := Op.store 51 (Operand.tmp 16) (Operand.tmp 70), type := 0, pos := _, after := #[{ on := 14, ground := Ground.data }, { on := 10, ground := Ground.data }, { on := 15, ground := Ground.chain }, { on := 0, ground := Ground.phase }, { on := 1, ground := Ground.phase }, { on := 2, ground := Ground.phase }, { on := 3, ground := Ground.phase }, { on := 4, ground := Ground.phase }, { on := 5, ground := Ground.phase }, { on := 6, ground := Ground.phase }, { on := 7, ground := Ground.phase }, { on := 8, ground := Ground.phase }, { on := 9, ground := Ground.phase }, { on := 10, ground := Ground.phase }, { on := 11, ground := Ground.textOnly Departure.lateStores }, { on := 12, ground := Ground.textOnly Departure.lateStores }, { on := 13, ground := Ground.phase }, { on := 14, ground := Ground.phase }, { on := 15, ground := Ground.phase }], guard := none }) (by kernel_rfl) rfl (fun K' hK => ?_)
        rw [if_pos (by rfl)]
        have x0 := cell_at (j := 0) (v := .int .i64 0) Cob4 rfl
        have x1 := cell_at (j := 1) (v := .int .i64 0) Cob4 rfl
        have x2 := cell_at (j := 2) (v := .int .i64 0) Cob4 rfl
        have x3 := cell_at (j := 3) (v := .int .i64 0) Cob4 rfl
        have xf := froz_at Cob4
        have xl := block_lt Cob4
        go_simp
        refine hK.out _ _ ((((hY4.setCell (Or.inr Lob3) _).setCell (Or.inr Lob3) _).setCell (Or.inr Lob3) _).setCell (Or.inr Lob3) _) ?_
        clear hK
        try simp only [Go.Act.put, List.setIfInBounds_toArray, List.set_cons_zero, List.set_cons_succ]
        obtain ⟨Y5, eY5⟩ : ∃ Y, Y = ((((Y4.setCell ⟨Y2.heap.size, 0, none⟩ (.int .i64 v)).setCell ⟨Y2.heap.size, 1, none⟩ (.int .i64 kd)).setCell ⟨Y2.heap.size, 2, none⟩ (.int .i64 cd0)).setCell ⟨Y2.heap.size, 3, none⟩ (.int .i64 u)) := ⟨_, rfl⟩
        rw [← eY5]
        have hY5 : Touch [] W2 Y5 := by rw [eY5]; exact ((((hY4.setCell (Or.inr Lob3) _).setCell (Or.inr Lob3) _).setCell (Or.inr Lob3) _).setCell (Or.inr Lob3) _)
        have gY5 : Touch [Y2.heap.size] Y4 Y5 := by rw [eY5]; exact (((((Touch.refl _ _).setCell (Or.inl (by simp)) _).setCell (Or.inl (by simp)) _).setCell (Or.inl (by simp)) _).setCell (Or.inl (by simp)) _)
        have Cob5 : Y5.heap[Y2.heap.size]? = some (.cells #[.int .i64 v, .int .i64 kd, .int .i64 cd0, .int .i64 u] 51 (0, 0)) := by rw [eY5]; have := (bset (i := 3) (bset (i := 2) (bset (i := 1) (bset (i := 0) Cob4 (.int .i64 v)) (.int .i64 kd)) (.int .i64 cd0)) (.int .i64 u)); simpa using this
        have Ckb5 := gY5.keep Ckb4 (fun e => ob_ne Cob4 Ckb4 (by simpa using e))
        clear eY5 x0 x1 x2 x3 xf xl
        refine wpH_take (i := 17) (v := (.bool true)) (some 17) rfl rfl (by kernel_rfl) (by kernel_rfl) (by kernel_rfl) (fun _ _ _ h => h) (Or.inl ⟨by rfl, fun w' hS => (by go_simp)⟩) hY5 ?_
        try simp only [Go.Act.put, List.setIfInBounds_toArray, List.set_cons_zero, List.set_cons_succ]
        refine wpH_take (i := 18) (v := (.int .i64 0)) (some 18) rfl rfl (by kernel_rfl) (by kernel_rfl) (by kernel_rfl) (fun _ _ _ h => h) (Or.inl ⟨by rfl, fun w' hS => (by go_simp)⟩) hY5 ?_
        try simp only [Go.Act.put, List.setIfInBounds_toArray, List.set_cons_zero, List.set_cons_succ]
        refine wpAnyH_done (by kernel_rfl) ?_ _
        go_wp2_with fail
        go_meet
        case rel => exact ⟨_, _, rfl, rfl, rfl, rfl, hid ⟨Lkb2, Ckb5, Cob5, hY5⟩⟩
      refine AllH.cons (o := { dst := some 16, op := Op.alloc 51, type := 0, pos := _, after := #[], guard := none }) rfl (fun K' hK => ?_) ?_
      · rw [if_pos (by rfl)]
        go_simp
        refine hK.out _ _ (hY1.alloc _) ?_
        clear hK
        try simp only [Go.Act.put, List.setIfInBounds_toArray, List.set_cons_zero, List.set_cons_succ]
        obtain ⟨Y6, eY6⟩ : ∃ Y, Y = Y1.alloc (.cells #[.int .i64 0, .int .i64 0, .int .i64 0, .int .i64 0] 51) := ⟨_, rfl⟩
        rw [← eY6]
        have hY6 : Touch [] W2 Y6 := by rw [eY6]; exact hY1.alloc _
        have gY6 : Touch [] Y1 Y6 := by rw [eY6]; exact (Touch.refl _ _).alloc _
        have Dob6 : Y6.heap[Y1.heap.size]? = some (.cells #[.int .i64 0, .int .i64 0, .int .i64 0, .int .i64 0] 51 (0, 0)) := by rw [eY6]; exact heap_alloc_new _ _
        have Lob6 : W2.heap.size ≤ Y1.heap.size := hY1.size
        clear eY6
        refine wpH_call (i := 13) (o := { dst := some 15, op := Op.alloc 76, type := 0, pos := _, after := #[], guard := none }) (by kernel_rfl) rfl (fun K' hK => ?_)
        rw [if_pos (by rfl)]
        go_simp
        refine hK.out _ _ (hY6.alloc _) ?_
        clear hK
        try simp only [Go.Act.put, List.setIfInBounds_toArray, List.set_cons_zero, List.set_cons_succ]
        obtain ⟨Y7, eY7⟩ : ∃ Y, Y = Y6.alloc (.cells #[.int .i64 0, .int .i64 0, .int .i64 0, .int .i64 0] 76) := ⟨_, rfl⟩
        rw [← eY7]
        have hY7 : Touch [] W2 Y7 := by rw [eY7]; exact hY6.alloc _
        have gY7 : Touch [] Y6 Y7 := by rw [eY7]; exact (Touch.refl _ _).alloc _
        have Cob7 := gY7.keep Dob6 (by simp)
        have Dkb7 : Y7.heap[Y6.heap.size]? = some (.cells #[.int .i64 0, .int .i64 0, .int .i64 0, .int .i64 0] 76 (0, 0)) := by rw [eY7]; exact heap_alloc_new _ _
        have Lkb7 : W2.heap.size ≤ Y6.heap.size := hY6.size
        clear eY7
        refine wpH_call (i := 15) (o := { dst := none, op := Op.store 76 (Operand.tmp 15) (Operand.tmp 69), type := 0, pos := _, after := #[{ on := 13, ground := Ground.data }, { on := 9, ground := Ground.data }, { on := 7, ground := Ground.chain }, { on := 0, ground := Ground.phase }, { on := 1, ground := Ground.phase }, { on := 2, ground := Ground.phase }, { on := 3, ground := Ground.phase }, { on := 4, ground := Ground.phase }, { on := 5, ground := Ground.phase }, { on := 6, ground := Ground.phase }, { on := 7, ground := Ground.phase }, { on := 8, ground := Ground.phase }, { on := 9, ground := Ground.phase }, { on := 10, ground := Ground.textOnly Departure.lateStores }, { on := 11, ground := Ground.textOnly Departure.lateStores }, { on := 12, ground := Ground.textOnly Departure.lateStores }, { on := 13, ground := Ground.phase }, { on := 14, ground := Ground.phase }], guard := none }) (by kernel_rfl) rfl (fun K' hK => ?_)
        rw [if_pos (by rfl)]
        have x0 := cell_at (j := 0) (v := .int .i64 0) Dkb7 rfl
        have x1 := cell_at (j := 1) (v := .int .i64 0) Dkb7 rfl
        have x2 := cell_at (j := 2) (v := .int .i64 0) Dkb7 rfl
        have x3 := cell_at (j := 3) (v := .int .i64 0) Dkb7 rfl
        have xf := froz_at Dkb7
        have xl := block_lt Dkb7
        go_simp
        refine hK.out _ _ ((((hY7.setCell (Or.inr Lkb7) _).setCell (Or.inr Lkb7) _).setCell (Or.inr Lkb7) _).setCell (Or.inr Lkb7) _) ?_
        clear hK
        try simp only [Go.Act.put, List.setIfInBounds_toArray, List.set_cons_zero, List.set_cons_succ]
        obtain ⟨Y8, eY8⟩ : ∃ Y, Y = ((((Y7.setCell ⟨Y6.heap.size, 0, none⟩ (.int .i64 0)).setCell ⟨Y6.heap.size, 1, none⟩ (.int .i64 0)).setCell ⟨Y6.heap.size, 2, none⟩ (.int .i64 0)).setCell ⟨Y6.heap.size, 3, none⟩ (.int .i64 0)) := ⟨_, rfl⟩
        rw [← eY8]
        have hY8 : Touch [] W2 Y8 := by rw [eY8]; exact ((((hY7.setCell (Or.inr Lkb7) _).setCell (Or.inr Lkb7) _).setCell (Or.inr Lkb7) _).setCell (Or.inr Lkb7) _)
        have gY8 : Touch [Y6.heap.size] Y7 Y8 := by rw [eY8]; exact (((((Touch.refl _ _).setCell (Or.inl (by simp)) _).setCell (Or.inl (by simp)) _).setCell (Or.inl (by simp)) _).setCell (Or.inl (by simp)) _)
        have Ckb8 : Y8.heap[Y6.heap.size]? = some (.cells #[.int .i64 0, .int .i64 0, .int .i64 0, .int .i64 0] 76 (0, 0)) := by rw [eY8]; have := (bset (i := 3) (bset (i := 2) (bset (i := 1) (bset (i := 0) Dkb7 (.int .i64 0)) (.int .i64 0)) (.int .i64 0)) (.int .i64 0)); simpa using this
        have Cob8 := gY8.keep Cob7 (fun e => kb_ne Dkb7 Cob7 (by simpa using e))
        clear eY8 x0 x1 x2 x3 xf xl
        refine wpH_call (i := 16) (o := { dst := none, op := Op.store 51 (Operand.tmp 16) (Operand.tmp 70), type := 0, pos := _, after := #[{ on := 14, ground := Ground.data }, { on := 10, ground := Ground.data }, { on := 15, ground := Ground.chain }, { on := 0, ground := Ground.phase }, { on := 1, ground := Ground.phase }, { on := 2, ground := Ground.phase }, { on := 3, ground := Ground.phase }, { on := 4, ground := Ground.phase }, { on := 5, ground := Ground.phase }, { on := 6, ground := Ground.phase }, { on := 7, ground := Ground.phase }, { on := 8, ground := Ground.phase }, { on := 9, ground := Ground.phase }, { on := 10, ground := Ground.phase }, { on := 11, ground := Ground.textOnly Departure.lateStores }, { on := 12, ground := Ground.textOnly Departure.lateStores }, { on := 13, ground := Ground.phase }, { on := 14, ground := Ground.phase }, { on := 15, ground := Ground.phase }], guard := none }) (by kernel_rfl) rfl (fun K' hK => ?_)
        rw [if_pos (by rfl)]
        have x0 := cell_at (j := 0) (v := .int .i64 0) Cob8 rfl
        have x1 := cell_at (j := 1) (v := .int .i64 0) Cob8 rfl
        have x2 := cell_at (j := 2) (v := .int .i64 0) Cob8 rfl
        have x3 := cell_at (j := 3) (v := .int .i64 0) Cob8 rfl
        have xf := froz_at Cob8
        have xl := block_lt Cob8
        go_simp
        refine hK.out _ _ ((((hY8.setCell (Or.inr Lob6) _).setCell (Or.inr Lob6) _).setCell (Or.inr Lob6) _).setCell (Or.inr Lob6) _) ?_
        clear hK
        try simp only [Go.Act.put, List.setIfInBounds_toArray, List.set_cons_zero, List.set_cons_succ]
        obtain ⟨Y9, eY9⟩ : ∃ Y, Y = ((((Y8.setCell ⟨Y1.heap.size, 0, none⟩ (.int .i64 v)).setCell ⟨Y1.heap.size, 1, none⟩ (.int .i64 kd)).setCell ⟨Y1.heap.size, 2, none⟩ (.int .i64 cd0)).setCell ⟨Y1.heap.size, 3, none⟩ (.int .i64 u)) := ⟨_, rfl⟩
        rw [← eY9]
        have hY9 : Touch [] W2 Y9 := by rw [eY9]; exact ((((hY8.setCell (Or.inr Lob6) _).setCell (Or.inr Lob6) _).setCell (Or.inr Lob6) _).setCell (Or.inr Lob6) _)
        have gY9 : Touch [Y1.heap.size] Y8 Y9 := by rw [eY9]; exact (((((Touch.refl _ _).setCell (Or.inl (by simp)) _).setCell (Or.inl (by simp)) _).setCell (Or.inl (by simp)) _).setCell (Or.inl (by simp)) _)
        have Cob9 : Y9.heap[Y1.heap.size]? = some (.cells #[.int .i64 v, .int .i64 kd, .int .i64 cd0, .int .i64 u] 51 (0, 0)) := by rw [eY9]; have := (bset (i := 3) (bset (i := 2) (bset (i := 1) (bset (i := 0) Cob8 (.int .i64 v)) (.int .i64 kd)) (.int .i64 cd0)) (.int .i64 u)); simpa using this
        have Ckb9 := gY9.keep Ckb8 (fun e => ob_ne Cob8 Ckb8 (by simpa using e))
        clear eY9 x0 x1 x2 x3 xf xl
        refine wpH_take (i := 17) (v := (.bool true)) (some 17) rfl rfl (by kernel_rfl) (by kernel_rfl) (by kernel_rfl) (fun _ _ _ h => h) (Or.inl ⟨by rfl, fun w' hS => (by go_simp)⟩) hY9 ?_
        try simp only [Go.Act.put, List.setIfInBounds_toArray, List.set_cons_zero, List.set_cons_succ]
        refine wpH_take (i := 18) (v := (.int .i64 0)) (some 18) rfl rfl (by kernel_rfl) (by kernel_rfl) (by kernel_rfl) (fun _ _ _ h => h) (Or.inl ⟨by rfl, fun w' hS => (by go_simp)⟩) hY9 ?_
        try simp only [Go.Act.put, List.setIfInBounds_toArray, List.set_cons_zero, List.set_cons_succ]
        refine wpAnyH_done (by kernel_rfl) ?_ _
        go_wp2_with fail
        go_meet
        case rel => exact ⟨_, _, rfl, rfl, rfl, rfl, hid ⟨Lkb7, Ckb9, Cob9, hY9⟩⟩
      exact AllH.nil
    refine AllH.cons (o := { dst := some 15, op := Op.alloc 76, type := 0, pos := _, after := #[], guard := none }) rfl (fun K' hK => ?_) ?_
    · rw [if_pos (by rfl)]
      go_simp
      refine hK.out _ _ (s0.alloc _) ?_
      clear hK
      try simp only [Go.Act.put, List.setIfInBounds_toArray, List.set_cons_zero, List.set_cons_succ]
      obtain ⟨Y10, eY10⟩ : ∃ Y, Y = X0.alloc (.cells #[.int .i64 0, .int .i64 0, .int .i64 0, .int .i64 0] 76) := ⟨_, rfl⟩
      rw [← eY10]
      have hY10 : Touch [] W2 Y10 := by rw [eY10]; exact s0.alloc _
      have gY10 : Touch [] X0 Y10 := by rw [eY10]; exact (Touch.refl _ _).alloc _
      have Dkb10 : Y10.heap[X0.heap.size]? = some (.cells #[.int .i64 0, .int .i64 0, .int .i64 0, .int .i64 0] 76 (0, 0)) := by rw [eY10]; exact heap_alloc_new _ _
      have Lkb10 : W2.heap.size ≤ X0.heap.size := s0.size
      clear eY10
      refine wpH_ready (rs := [7, 14]) (by kernel_rfl) (by simp) ?_
      refine AllH.cons (o := { dst := some 68, op := Op.call { callee := Callee.value (Operand.func 32), args := #[Operand.tmp 62, Operand.tmp 66, Operand.tmp 67], argTypes := #[31, 76, 71] }, type := 96, pos := _, after := #[{ on := 1, ground := Ground.data }, { on := 5, ground := Ground.data }, { on := 6, ground := Ground.data }], guard := none }) rfl (fun K' hK => ?_) ?_
      · rw [if_pos (by rfl)]
        go_simp
        have HDk := HD2.out _ hY10
        refine HDk.mono ?_
        rintro e' Y11 ⟨rfl, gY11⟩
        have hY11 : Touch [] W2 Y11 := hY10.trans' gY11
        refine hK.out _ _ hY11 ?_
        clear hK
        try simp only [Go.Act.put, List.setIfInBounds_toArray, List.set_cons_zero, List.set_cons_succ]
        have Ckb11 := gY11.keep Dkb10 (by simp)
        refine wpH_take (i := 8) (v := (.tuple #[(.agg #[.int .i64 0, .int .i64 0, .int .i64 0, .int .i64 0]), (.agg #[.int .i64 v, .int .i64 kd, .int .i64 cd0, .int .i64 u]), (.bool true), (.int .i64 0)])) (some 60) rfl rfl (by kernel_rfl) (by kernel_rfl) (by kernel_rfl) (fun _ _ _ h => h) (Or.inl ⟨by rfl, fun w' hS => (by go_simp)⟩) hY11 ?_
        try simp only [Go.Act.put, List.setIfInBounds_toArray, List.set_cons_zero, List.set_cons_succ]
        refine wpH_take (i := 9) (v := (.agg #[.int .i64 0, .int .i64 0, .int .i64 0, .int .i64 0])) (some 69) rfl rfl (by kernel_rfl) (by kernel_rfl) (by kernel_rfl) (fun _ _ _ h => h) (Or.inl ⟨by rfl, fun w' hS => (by go_simp)⟩) hY11 ?_
        try simp only [Go.Act.put, List.setIfInBounds_toArray, List.set_cons_zero, List.set_cons_succ]
        refine wpH_take (i := 10) (v := (.agg #[.int .i64 v, .int .i64 kd, .int .i64 cd0, .int .i64 u])) (some 70) rfl rfl (by kernel_rfl) (by kernel_rfl) (by kernel_rfl) (fun _ _ _ h => h) (Or.inl ⟨by rfl, fun w' hS => (by go_simp)⟩) hY11 ?_
        try simp only [Go.Act.put, List.setIfInBounds_toArray, List.set_cons_zero, List.set_cons_succ]
        refine wpH_take (i := 11) (v := (.bool true)) (some 71) rfl rfl (by kernel_rfl) (by kernel_rfl) (by kernel_rfl) (fun _ _ _ h => h) (Or.inl ⟨by rfl, fun w' hS => (by go_simp)⟩) hY11 ?_
        try simp only [Go.Act.put, List.setIfInBounds_toArray, List.set_cons_zero, List.set_cons_succ]
        refine wpH_take (i := 12) (v := (.int .i64 0)) (some 72) rfl rfl (by kernel_rfl) (by kernel_rfl) (by kernel_rfl) (fun _ _ _ h => h) (Or.inl ⟨by rfl, fun w' hS => (by go_simp)⟩) hY11 ?_
        try simp only [Go.Act.put, List.setIfInBounds_toArray, List.set_cons_zero, List.set_cons_succ]
        refine wpH_call (i := 14) (o := { dst := some 16, op := Op.alloc 51, type := 0, pos := _, after := #[], guard := none }) (by kernel_rfl) rfl (fun K' hK => ?_)
        rw [if_pos (by rfl)]
        go_simp
        refine hK.out _ _ (hY11.alloc _) ?_
        clear hK
        try simp only [Go.Act.put, List.setIfInBounds_toArray, List.set_cons_zero, List.set_cons_succ]
        obtain ⟨Y12, eY12⟩ : ∃ Y, Y = Y11.alloc (.cells #[.int .i64 0, .int .i64 0, .int .i64 0, .int .i64 0] 51) := ⟨_, rfl⟩
        rw [← eY12]
        have hY12 : Touch [] W2 Y12 := by rw [eY12]; exact hY11.alloc _
        have gY12 : Touch [] Y11 Y12 := by rw [eY12]; exact (Touch.refl _ _).alloc _
        have Ckb12 := gY12.keep Ckb11 (by simp)
        have Dob12 : Y12.heap[Y11.heap.size]? = some (.cells #[.int .i64 0, .int .i64 0, .int .i64 0, .int .i64 0] 51 (0, 0)) := by rw [eY12]; exact heap_alloc_new _ _
        have Lob12 : W2.heap.size ≤ Y11.heap.size := hY11.size
        clear eY12
        refine wpH_call (i := 15) (o := { dst := none, op := Op.store 76 (Operand.tmp 15) (Operand.tmp 69), type := 0, pos := _, after := #[{ on := 13, ground := Ground.data }, { on := 9, ground := Ground.data }, { on := 7, ground := Ground.chain }, { on := 0, ground := Ground.phase }, { on := 1, ground := Ground.phase }, { on := 2, ground := Ground.phase }, { on := 3, ground := Ground.phase }, { on := 4, ground := Ground.phase }, { on := 5, ground := Ground.phase }, { on := 6, ground := Ground.phase }, { on := 7, ground := Ground.phase }, { on := 8, ground := Ground.phase }, { on := 9, ground := Ground.phase }, { on := 10, ground := Ground.textOnly Departure.lateStores }, { on := 11, ground := Ground.textOnly Departure.lateStores }, { on := 12, ground := Ground.textOnly Departure.lateStores }, { on := 13, ground := Ground.phase }, { on := 14, ground := Ground.phase }], guard := none }) (by kernel_rfl) rfl (fun K' hK => ?_)
        rw [if_pos (by rfl)]
        have x0 := cell_at (j := 0) (v := .int .i64 0) Ckb12 rfl
        have x1 := cell_at (j := 1) (v := .int .i64 0) Ckb12 rfl
        have x2 := cell_at (j := 2) (v := .int .i64 0) Ckb12 rfl
        have x3 := cell_at (j := 3) (v := .int .i64 0) Ckb12 rfl
        have xf := froz_at Ckb12
        have xl := block_lt Ckb12
        go_simp
        refine hK.out _ _ ((((hY12.setCell (Or.inr Lkb10) _).setCell (Or.inr Lkb10) _).setCell (Or.inr Lkb10) _).setCell (Or.inr Lkb10) _) ?_
        clear hK
        try simp only [Go.Act.put, List.setIfInBounds_toArray, List.set_cons_zero, List.set_cons_succ]
        obtain ⟨Y13, eY13⟩ : ∃ Y, Y = ((((Y12.setCell ⟨X0.heap.size, 0, none⟩ (.int .i64 0)).setCell ⟨X0.heap.size, 1, none⟩ (.int .i64 0)).setCell ⟨X0.heap.size, 2, none⟩ (.int .i64 0)).setCell ⟨X0.heap.size, 3, none⟩ (.int .i64 0)) := ⟨_, rfl⟩
        rw [← eY13]
        have hY13 : Touch [] W2 Y13 := by rw [eY13]; exact ((((hY12.setCell (Or.inr Lkb10) _).setCell (Or.inr Lkb10) _).setCell (Or.inr Lkb10) _).setCell (Or.inr Lkb10) _)
        have gY13 : Touch [X0.heap.size] Y12 Y13 := by rw [eY13]; exact (((((Touch.refl _ _).setCell (Or.inl (by simp)) _).setCell (Or.inl (by simp)) _).setCell (Or.inl (by simp)) _).setCell (Or.inl (by simp)) _)
        have Ckb13 : Y13.heap[X0.heap.size]? = some (.cells #[.int .i64 0, .int .i64 0, .int .i64 0, .int .i64 0] 76 (0, 0)) := by rw [eY13]; have := (bset (i := 3) (bset (i := 2) (bset (i := 1) (bset (i := 0) Ckb12 (.int .i64 0)) (.int .i64 0)) (.int .i64 0)) (.int .i64 0)); simpa using this
        have Cob13 := gY13.keep Dob12 (fun e => kb_ne Ckb12 Dob12 (by simpa using e))
        clear eY13 x0 x1 x2 x3 xf xl
        refine wpH_call (i := 16) (o := { dst := none, op := Op.store 51 (Operand.tmp 16) (Operand.tmp 70), type := 0, pos := _, after := #[{ on := 14, ground := Ground.data }, { on := 10, ground := Ground.data }, { on := 15, ground := Ground.chain }, { on := 0, ground := Ground.phase }, { on := 1, ground := Ground.phase }, { on := 2, ground := Ground.phase }, { on := 3, ground := Ground.phase }, { on := 4, ground := Ground.phase }, { on := 5, ground := Ground.phase }, { on := 6, ground := Ground.phase }, { on := 7, ground := Ground.phase }, { on := 8, ground := Ground.phase }, { on := 9, ground := Ground.phase }, { on := 10, ground := Ground.phase }, { on := 11, ground := Ground.textOnly Departure.lateStores }, { on := 12, ground := Ground.textOnly Departure.lateStores }, { on := 13, ground := Ground.phase }, { on := 14, ground := Ground.phase }, { on := 15, ground := Ground.phase }], guard := none }) (by kernel_rfl) rfl (fun K' hK => ?_)
        rw [if_pos (by rfl)]
        have x0 := cell_at (j := 0) (v := .int .i64 0) Cob13 rfl
        have x1 := cell_at (j := 1) (v := .int .i64 0) Cob13 rfl
        have x2 := cell_at (j := 2) (v := .int .i64 0) Cob13 rfl
        have x3 := cell_at (j := 3) (v := .int .i64 0) Cob13 rfl
        have xf := froz_at Cob13
        have xl := block_lt Cob13
        go_simp
        refine hK.out _ _ ((((hY13.setCell (Or.inr Lob12) _).setCell (Or.inr Lob12) _).setCell (Or.inr Lob12) _).setCell (Or.inr Lob12) _) ?_
        clear hK
        try simp only [Go.Act.put, List.setIfInBounds_toArray, List.set_cons_zero, List.set_cons_succ]
        obtain ⟨Y14, eY14⟩ : ∃ Y, Y = ((((Y13.setCell ⟨Y11.heap.size, 0, none⟩ (.int .i64 v)).setCell ⟨Y11.heap.size, 1, none⟩ (.int .i64 kd)).setCell ⟨Y11.heap.size, 2, none⟩ (.int .i64 cd0)).setCell ⟨Y11.heap.size, 3, none⟩ (.int .i64 u)) := ⟨_, rfl⟩
        rw [← eY14]
        have hY14 : Touch [] W2 Y14 := by rw [eY14]; exact ((((hY13.setCell (Or.inr Lob12) _).setCell (Or.inr Lob12) _).setCell (Or.inr Lob12) _).setCell (Or.inr Lob12) _)
        have gY14 : Touch [Y11.heap.size] Y13 Y14 := by rw [eY14]; exact (((((Touch.refl _ _).setCell (Or.inl (by simp)) _).setCell (Or.inl (by simp)) _).setCell (Or.inl (by simp)) _).setCell (Or.inl (by simp)) _)
        have Cob14 : Y14.heap[Y11.heap.size]? = some (.cells #[.int .i64 v, .int .i64 kd, .int .i64 cd0, .int .i64 u] 51 (0, 0)) := by rw [eY14]; have := (bset (i := 3) (bset (i := 2) (bset (i := 1) (bset (i := 0) Cob13 (.int .i64 v)) (.int .i64 kd)) (.int .i64 cd0)) (.int .i64 u)); simpa using this
        have Ckb14 := gY14.keep Ckb13 (fun e => ob_ne Cob13 Ckb13 (by simpa using e))
        clear eY14 x0 x1 x2 x3 xf xl
        refine wpH_take (i := 17) (v := (.bool true)) (some 17) rfl rfl (by kernel_rfl) (by kernel_rfl) (by kernel_rfl) (fun _ _ _ h => h) (Or.inl ⟨by rfl, fun w' hS => (by go_simp)⟩) hY14 ?_
        try simp only [Go.Act.put, List.setIfInBounds_toArray, List.set_cons_zero, List.set_cons_succ]
        refine wpH_take (i := 18) (v := (.int .i64 0)) (some 18) rfl rfl (by kernel_rfl) (by kernel_rfl) (by kernel_rfl) (fun _ _ _ h => h) (Or.inl ⟨by rfl, fun w' hS => (by go_simp)⟩) hY14 ?_
        try simp only [Go.Act.put, List.setIfInBounds_toArray, List.set_cons_zero, List.set_cons_succ]
        refine wpAnyH_done (by kernel_rfl) ?_ _
        go_wp2_with fail
        go_meet
        case rel => exact ⟨_, _, rfl, rfl, rfl, rfl, hid ⟨Lkb10, Ckb14, Cob14, hY14⟩⟩
      refine AllH.cons (o := { dst := some 16, op := Op.alloc 51, type := 0, pos := _, after := #[], guard := none }) rfl (fun K' hK => ?_) ?_
      · rw [if_pos (by rfl)]
        go_simp
        refine hK.out _ _ (hY10.alloc _) ?_
        clear hK
        try simp only [Go.Act.put, List.setIfInBounds_toArray, List.set_cons_zero, List.set_cons_succ]
        obtain ⟨Y15, eY15⟩ : ∃ Y, Y = Y10.alloc (.cells #[.int .i64 0, .int .i64 0, .int .i64 0, .int .i64 0] 51) := ⟨_, rfl⟩
        rw [← eY15]
        have hY15 : Touch [] W2 Y15 := by rw [eY15]; exact hY10.alloc _
        have gY15 : Touch [] Y10 Y15 := by rw [eY15]; exact (Touch.refl _ _).alloc _
        have Ckb15 := gY15.keep Dkb10 (by simp)
        have Dob15 : Y15.heap[Y10.heap.size]? = some (.cells #[.int .i64 0, .int .i64 0, .int .i64 0, .int .i64 0] 51 (0, 0)) := by rw [eY15]; exact heap_alloc_new _ _
        have Lob15 : W2.heap.size ≤ Y10.heap.size := hY10.size
        clear eY15
        refine wpH_call (i := 7) (o := { dst := some 68, op := Op.call { callee := Callee.value (Operand.func 32), args := #[Operand.tmp 62, Operand.tmp 66, Operand.tmp 67], argTypes := #[31, 76, 71] }, type := 96, pos := _, after := #[{ on := 1, ground := Ground.data }, { on := 5, ground := Ground.data }, { on := 6, ground := Ground.data }], guard := none }) (by kernel_rfl) rfl (fun K' hK => ?_)
        rw [if_pos (by rfl)]
        go_simp
        have HDk := HD2.out _ hY15
        refine HDk.mono ?_
        rintro e' Y16 ⟨rfl, gY16⟩
        have hY16 : Touch [] W2 Y16 := hY15.trans' gY16
        refine hK.out _ _ hY16 ?_
        clear hK
        try simp only [Go.Act.put, List.setIfInBounds_toArray, List.set_cons_zero, List.set_cons_succ]
        have Ckb16 := gY16.keep Ckb15 (by simp)
        have Cob16 := gY16.keep Dob15 (by simp)
        refine wpH_take (i := 8) (v := (.tuple #[(.agg #[.int .i64 0, .int .i64 0, .int .i64 0, .int .i64 0]), (.agg #[.int .i64 v, .int .i64 kd, .int .i64 cd0, .int .i64 u]), (.bool true), (.int .i64 0)])) (some 60) rfl rfl (by kernel_rfl) (by kernel_rfl) (by kernel_rfl) (fun _ _ _ h => h) (Or.inl ⟨by rfl, fun w' hS => (by go_simp)⟩) hY16 ?_
        try simp only [Go.Act.put, List.setIfInBounds_toArray, List.set_cons_zero, List.set_cons_succ]
        refine wpH_take (i := 9) (v := (.agg #[.int .i64 0, .int .i64 0, .int .i64 0, .int .i64 0])) (some 69) rfl rfl (by kernel_rfl) (by kernel_rfl) (by kernel_rfl) (fun _ _ _ h => h) (Or.inl ⟨by rfl, fun w' hS => (by go_simp)⟩) hY16 ?_
        try simp only [Go.Act.put, List.setIfInBounds_toArray, List.set_cons_zero, List.set_cons_succ]
        refine wpH_take (i := 10) (v := (.agg #[.int .i64 v, .int .i64 kd, .int .i64 cd0, .int .i64 u])) (some 70) rfl rfl (by kernel_rfl) (by kernel_rfl) (by kernel_rfl) (fun _ _ _ h => h) (Or.inl ⟨by rfl, fun w' hS => (by go_simp)⟩) hY16 ?_
        try simp only [Go.Act.put, List.setIfInBounds_toArray, List.set_cons_zero, List.set_cons_succ]
        refine wpH_take (i := 11) (v := (.bool true)) (some 71) rfl rfl (by kernel_rfl) (by kernel_rfl) (by kernel_rfl) (fun _ _ _ h => h) (Or.inl ⟨by rfl, fun w' hS => (by go_simp)⟩) hY16 ?_
        try simp only [Go.Act.put, List.setIfInBounds_toArray, List.set_cons_zero, List.set_cons_succ]
        refine wpH_take (i := 12) (v := (.int .i64 0)) (some 72) rfl rfl (by kernel_rfl) (by kernel_rfl) (by kernel_rfl) (fun _ _ _ h => h) (Or.inl ⟨by rfl, fun w' hS => (by go_simp)⟩) hY16 ?_
        try simp only [Go.Act.put, List.setIfInBounds_toArray, List.set_cons_zero, List.set_cons_succ]
        refine wpH_call (i := 15) (o := { dst := none, op := Op.store 76 (Operand.tmp 15) (Operand.tmp 69), type := 0, pos := _, after := #[{ on := 13, ground := Ground.data }, { on := 9, ground := Ground.data }, { on := 7, ground := Ground.chain }, { on := 0, ground := Ground.phase }, { on := 1, ground := Ground.phase }, { on := 2, ground := Ground.phase }, { on := 3, ground := Ground.phase }, { on := 4, ground := Ground.phase }, { on := 5, ground := Ground.phase }, { on := 6, ground := Ground.phase }, { on := 7, ground := Ground.phase }, { on := 8, ground := Ground.phase }, { on := 9, ground := Ground.phase }, { on := 10, ground := Ground.textOnly Departure.lateStores }, { on := 11, ground := Ground.textOnly Departure.lateStores }, { on := 12, ground := Ground.textOnly Departure.lateStores }, { on := 13, ground := Ground.phase }, { on := 14, ground := Ground.phase }], guard := none }) (by kernel_rfl) rfl (fun K' hK => ?_)
        rw [if_pos (by rfl)]
        have x0 := cell_at (j := 0) (v := .int .i64 0) Ckb16 rfl
        have x1 := cell_at (j := 1) (v := .int .i64 0) Ckb16 rfl
        have x2 := cell_at (j := 2) (v := .int .i64 0) Ckb16 rfl
        have x3 := cell_at (j := 3) (v := .int .i64 0) Ckb16 rfl
        have xf := froz_at Ckb16
        have xl := block_lt Ckb16
        go_simp
        refine hK.out _ _ ((((hY16.setCell (Or.inr Lkb10) _).setCell (Or.inr Lkb10) _).setCell (Or.inr Lkb10) _).setCell (Or.inr Lkb10) _) ?_
        clear hK
        try simp only [Go.Act.put, List.setIfInBounds_toArray, List.set_cons_zero, List.set_cons_succ]
        obtain ⟨Y17, eY17⟩ : ∃ Y, Y = ((((Y16.setCell ⟨X0.heap.size, 0, none⟩ (.int .i64 0)).setCell ⟨X0.heap.size, 1, none⟩ (.int .i64 0)).setCell ⟨X0.heap.size, 2, none⟩ (.int .i64 0)).setCell ⟨X0.heap.size, 3, none⟩ (.int .i64 0)) := ⟨_, rfl⟩
        rw [← eY17]
        have hY17 : Touch [] W2 Y17 := by rw [eY17]; exact ((((hY16.setCell (Or.inr Lkb10) _).setCell (Or.inr Lkb10) _).setCell (Or.inr Lkb10) _).setCell (Or.inr Lkb10) _)
        have gY17 : Touch [X0.heap.size] Y16 Y17 := by rw [eY17]; exact (((((Touch.refl _ _).setCell (Or.inl (by simp)) _).setCell (Or.inl (by simp)) _).setCell (Or.inl (by simp)) _).setCell (Or.inl (by simp)) _)
        have Ckb17 : Y17.heap[X0.heap.size]? = some (.cells #[.int .i64 0, .int .i64 0, .int .i64 0, .int .i64 0] 76 (0, 0)) := by rw [eY17]; have := (bset (i := 3) (bset (i := 2) (bset (i := 1) (bset (i := 0) Ckb16 (.int .i64 0)) (.int .i64 0)) (.int .i64 0)) (.int .i64 0)); simpa using this
        have Cob17 := gY17.keep Cob16 (fun e => kb_ne Ckb16 Cob16 (by simpa using e))
        clear eY17 x0 x1 x2 x3 xf xl
        refine wpH_call (i := 16) (o := { dst := none, op := Op.store 51 (Operand.tmp 16) (Operand.tmp 70), type := 0, pos := _, after := #[{ on := 14, ground := Ground.data }, { on := 10, ground := Ground.data }, { on := 15, ground := Ground.chain }, { on := 0, ground := Ground.phase }, { on := 1, ground := Ground.phase }, { on := 2, ground := Ground.phase }, { on := 3, ground := Ground.phase }, { on := 4, ground := Ground.phase }, { on := 5, ground := Ground.phase }, { on := 6, ground := Ground.phase }, { on := 7, ground := Ground.phase }, { on := 8, ground := Ground.phase }, { on := 9, ground := Ground.phase }, { on := 10, ground := Ground.phase }, { on := 11, ground := Ground.textOnly Departure.lateStores }, { on := 12, ground := Ground.textOnly Departure.lateStores }, { on := 13, ground := Ground.phase }, { on := 14, ground := Ground.phase }, { on := 15, ground := Ground.phase }], guard := none }) (by kernel_rfl) rfl (fun K' hK => ?_)
        rw [if_pos (by rfl)]
        have x0 := cell_at (j := 0) (v := .int .i64 0) Cob17 rfl
        have x1 := cell_at (j := 1) (v := .int .i64 0) Cob17 rfl
        have x2 := cell_at (j := 2) (v := .int .i64 0) Cob17 rfl
        have x3 := cell_at (j := 3) (v := .int .i64 0) Cob17 rfl
        have xf := froz_at Cob17
        have xl := block_lt Cob17
        go_simp
        refine hK.out _ _ ((((hY17.setCell (Or.inr Lob15) _).setCell (Or.inr Lob15) _).setCell (Or.inr Lob15) _).setCell (Or.inr Lob15) _) ?_
        clear hK
        try simp only [Go.Act.put, List.setIfInBounds_toArray, List.set_cons_zero, List.set_cons_succ]
        obtain ⟨Y18, eY18⟩ : ∃ Y, Y = ((((Y17.setCell ⟨Y10.heap.size, 0, none⟩ (.int .i64 v)).setCell ⟨Y10.heap.size, 1, none⟩ (.int .i64 kd)).setCell ⟨Y10.heap.size, 2, none⟩ (.int .i64 cd0)).setCell ⟨Y10.heap.size, 3, none⟩ (.int .i64 u)) := ⟨_, rfl⟩
        rw [← eY18]
        have hY18 : Touch [] W2 Y18 := by rw [eY18]; exact ((((hY17.setCell (Or.inr Lob15) _).setCell (Or.inr Lob15) _).setCell (Or.inr Lob15) _).setCell (Or.inr Lob15) _)
        have gY18 : Touch [Y10.heap.size] Y17 Y18 := by rw [eY18]; exact (((((Touch.refl _ _).setCell (Or.inl (by simp)) _).setCell (Or.inl (by simp)) _).setCell (Or.inl (by simp)) _).setCell (Or.inl (by simp)) _)
        have Cob18 : Y18.heap[Y10.heap.size]? = some (.cells #[.int .i64 v, .int .i64 kd, .int .i64 cd0, .int .i64 u] 51 (0, 0)) := by rw [eY18]; have := (bset (i := 3) (bset (i := 2) (bset (i := 1) (bset (i := 0) Cob17 (.int .i64 v)) (.int .i64 kd)) (.int .i64 cd0)) (.int .i64 u)); simpa using this
        have Ckb18 := gY18.keep Ckb17 (fun e => ob_ne Cob17 Ckb17 (by simpa using e))
        clear eY18 x0 x1 x2 x3 xf xl
        refine wpH_take (i := 17) (v := (.bool true)) (some 17) rfl rfl (by kernel_rfl) (by kernel_rfl) (by kernel_rfl) (fun _ _ _ h => h) (Or.inl ⟨by rfl, fun w' hS => (by go_simp)⟩) hY18 ?_
        try simp only [Go.Act.put, List.setIfInBounds_toArray, List.set_cons_zero, List.set_cons_succ]
        refine wpH_take (i := 18) (v := (.int .i64 0)) (some 18) rfl rfl (by kernel_rfl) (by kernel_rfl) (by kernel_rfl) (fun _ _ _ h => h) (Or.inl ⟨by rfl, fun w' hS => (by go_simp)⟩) hY18 ?_
        try simp only [Go.Act.put, List.setIfInBounds_toArray, List.set_cons_zero, List.set_cons_succ]
        refine wpAnyH_done (by kernel_rfl) ?_ _
        go_wp2_with fail
        go_meet
        case rel => exact ⟨_, _, rfl, rfl, rfl, rfl, hid ⟨Lkb10, Ckb18, Cob18, hY18⟩⟩
      exact AllH.nil
    refine AllH.cons (o := { dst := some 16, op := Op.alloc 51, type := 0, pos := _, after := #[], guard := none }) rfl (fun K' hK => ?_) ?_
    · rw [if_pos (by rfl)]
      go_simp
      refine hK.out _ _ (s0.alloc _) ?_
      clear hK
      try simp only [Go.Act.put, List.setIfInBounds_toArray, List.set_cons_zero, List.set_cons_succ]
      obtain ⟨Y19, eY19⟩ : ∃ Y, Y = X0.alloc (.cells #[.int .i64 0, .int .i64 0, .int .i64 0, .int .i64 0] 51) := ⟨_, rfl⟩
      rw [← eY19]
      have hY19 : Touch [] W2 Y19 := by rw [eY19]; exact s0.alloc _
      have gY19 : Touch [] X0 Y19 := by rw [eY19]; exact (Touch.refl _ _).alloc _
      have Dob19 : Y19.heap[X0.heap.size]? = some (.cells #[.int .i64 0, .int .i64 0, .int .i64 0, .int .i64 0] 51 (0, 0)) := by rw [eY19]; exact heap_alloc_new _ _
      have Lob19 : W2.heap.size ≤ X0.heap.size := s0.size
      clear eY19
      refine wpH_ready (rs := [7, 13]) (by kernel_rfl) (by simp) ?_
      refine AllH.cons (o := { dst := some 68, op := Op.call { callee := Callee.value (Operand.func 32), args := #[Operand.tmp 62, Operand.tmp 66, Operand.tmp 67], argTypes := #[31, 76, 71] }, type := 96, pos := _, after := #[{ on := 1, ground := Ground.data }, { on := 5, ground := Ground.data }, { on := 6, ground := Ground.data }], guard := none }) rfl (fun K' hK => ?_) ?_
      · rw [if_pos (by rfl)]
        go_simp
        have HDk := HD2.out _ hY19
        refine HDk.mono ?_
        rintro e' Y20 ⟨rfl, gY20⟩
        have hY20 : Touch [] W2 Y20 := hY19.trans' gY20
        refine hK.out _ _ hY20 ?_
        clear hK
        try simp only [Go.Act.put, List.setIfInBounds_toArray, List.set_cons_zero, List.set_cons_succ]
        have Cob20 := gY20.keep Dob19 (by simp)
        refine wpH_take (i := 8) (v := (.tuple #[(.agg #[.int .i64 0, .int .i64 0, .int .i64 0, .int .i64 0]), (.agg #[.int .i64 v, .int .i64 kd, .int .i64 cd0, .int .i64 u]), (.bool true), (.int .i64 0)])) (some 60) rfl rfl (by kernel_rfl) (by kernel_rfl) (by kernel_rfl) (fun _ _ _ h => h) (Or.inl ⟨by rfl, fun w' hS => (by go_simp)⟩) hY20 ?_
        try simp only [Go.Act.put, List.setIfInBounds_toArray, List.set_cons_zero, List.set_cons_succ]
        refine wpH_take (i := 9) (v := (.agg #[.int .i64 0, .int .i64 0, .int .i64 0, .int .i64 0])) (some 69) rfl rfl (by kernel_rfl) (by kernel_rfl) (by kernel_rfl) (fun _ _ _ h => h) (Or.inl ⟨by rfl, fun w' hS => (by go_simp)⟩) hY20 ?_
        try simp only [Go.Act.put, List.setIfInBounds_toArray, List.set_cons_zero, List.set_cons_succ]
        refine wpH_take (i := 10) (v := (.agg #[.int .i64 v, .int .i64 kd, .int .i64 cd0, .int .i64 u])) (some 70) rfl rfl (by kernel_rfl) (by kernel_rfl) (by kernel_rfl) (fun _ _ _ h => h) (Or.inl ⟨by rfl, fun w' hS => (by go_simp)⟩) hY20 ?_
        try simp only [Go.Act.put, List.setIfInBounds_toArray, List.set_cons_zero, List.set_cons_succ]
        refine wpH_take (i := 11) (v := (.bool true)) (some 71) rfl rfl (by kernel_rfl) (by kernel_rfl) (by kernel_rfl) (fun _ _ _ h => h) (Or.inl ⟨by rfl, fun w' hS => (by go_simp)⟩) hY20 ?_
        try simp only [Go.Act.put, List.setIfInBounds_toArray, List.set_cons_zero, List.set_cons_succ]
        refine wpH_take (i := 12) (v := (.int .i64 0)) (some 72) rfl rfl (by kernel_rfl) (by kernel_rfl) (by kernel_rfl) (fun _ _ _ h => h) (Or.inl ⟨by rfl, fun w' hS => (by go_simp)⟩) hY20 ?_
        try simp only [Go.Act.put, List.setIfInBounds_toArray, List.set_cons_zero, List.set_cons_succ]
        refine wpH_call (i := 13) (o := { dst := some 15, op := Op.alloc 76, type := 0, pos := _, after := #[], guard := none }) (by kernel_rfl) rfl (fun K' hK => ?_)
        rw [if_pos (by rfl)]
        go_simp
        refine hK.out _ _ (hY20.alloc _) ?_
        clear hK
        try simp only [Go.Act.put, List.setIfInBounds_toArray, List.set_cons_zero, List.set_cons_succ]
        obtain ⟨Y21, eY21⟩ : ∃ Y, Y = Y20.alloc (.cells #[.int .i64 0, .int .i64 0, .int .i64 0, .int .i64 0] 76) := ⟨_, rfl⟩
        rw [← eY21]
        have hY21 : Touch [] W2 Y21 := by rw [eY21]; exact hY20.alloc _
        have gY21 : Touch [] Y20 Y21 := by rw [eY21]; exact (Touch.refl _ _).alloc _
        have Cob21 := gY21.keep Cob20 (by simp)
        have Dkb21 : Y21.heap[Y20.heap.size]? = some (.cells #[.int .i64 0, .int .i64 0, .int .i64 0, .int .i64 0] 76 (0, 0)) := by rw [eY21]; exact heap_alloc_new _ _
        have Lkb21 : W2.heap.size ≤ Y20.heap.size := hY20.size
        clear eY21
        refine wpH_call (i := 15) (o := { dst := none, op := Op.store 76 (Operand.tmp 15) (Operand.tmp 69), type := 0, pos := _, after := #[{ on := 13, ground := Ground.data }, { on := 9, ground := Ground.data }, { on := 7, ground := Ground.chain }, { on := 0, ground := Ground.phase }, { on := 1, ground := Ground.phase }, { on := 2, ground := Ground.phase }, { on := 3, ground := Ground.phase }, { on := 4, ground := Ground.phase }, { on := 5, ground := Ground.phase }, { on := 6, ground := Ground.phase }, { on := 7, ground := Ground.phase }, { on := 8, ground := Ground.phase }, { on := 9, ground := Ground.phase }, { on := 10, ground := Ground.textOnly Departure.lateStores }, { on := 11, ground := Ground.textOnly Departure.lateStores }, { on := 12, ground := Ground.textOnly Departure.lateStores }, { on := 13, ground := Ground.phase }, { on := 14, ground := Ground.phase }], guard := none }) (by kernel_rfl) rfl (fun K' hK => ?_)
        rw [if_pos (by rfl)]
        have x0 := cell_at (j := 0) (v := .int .i64 0) Dkb21 rfl
        have x1 := cell_at (j := 1) (v := .int .i64 0) Dkb21 rfl
        have x2 := cell_at (j := 2) (v := .int .i64 0) Dkb21 rfl
        have x3 := cell_at (j := 3) (v := .int .i64 0) Dkb21 rfl
        have xf := froz_at Dkb21
        have xl := block_lt Dkb21
        go_simp
        refine hK.out _ _ ((((hY21.setCell (Or.inr Lkb21) _).setCell (Or.inr Lkb21) _).setCell (Or.inr Lkb21) _).setCell (Or.inr Lkb21) _) ?_
        clear hK
        try simp only [Go.Act.put, List.setIfInBounds_toArray, List.set_cons_zero, List.set_cons_succ]
        obtain ⟨Y22, eY22⟩ : ∃ Y, Y = ((((Y21.setCell ⟨Y20.heap.size, 0, none⟩ (.int .i64 0)).setCell ⟨Y20.heap.size, 1, none⟩ (.int .i64 0)).setCell ⟨Y20.heap.size, 2, none⟩ (.int .i64 0)).setCell ⟨Y20.heap.size, 3, none⟩ (.int .i64 0)) := ⟨_, rfl⟩
        rw [← eY22]
        have hY22 : Touch [] W2 Y22 := by rw [eY22]; exact ((((hY21.setCell (Or.inr Lkb21) _).setCell (Or.inr Lkb21) _).setCell (Or.inr Lkb21) _).setCell (Or.inr Lkb21) _)
        have gY22 : Touch [Y20.heap.size] Y21 Y22 := by rw [eY22]; exact (((((Touch.refl _ _).setCell (Or.inl (by simp)) _).setCell (Or.inl (by simp)) _).setCell (Or.inl (by simp)) _).setCell (Or.inl (by simp)) _)
        have Ckb22 : Y22.heap[Y20.heap.size]? = some (.cells #[.int .i64 0, .int .i64 0, .int .i64 0, .int .i64 0] 76 (0, 0)) := by rw [eY22]; have := (bset (i := 3) (bset (i := 2) (bset (i := 1) (bset (i := 0) Dkb21 (.int .i64 0)) (.int .i64 0)) (.int .i64 0)) (.int .i64 0)); simpa using this
        have Cob22 := gY22.keep Cob21 (fun e => kb_ne Dkb21 Cob21 (by simpa using e))
        clear eY22 x0 x1 x2 x3 xf xl
        refine wpH_call (i := 16) (o := { dst := none, op := Op.store 51 (Operand.tmp 16) (Operand.tmp 70), type := 0, pos := _, after := #[{ on := 14, ground := Ground.data }, { on := 10, ground := Ground.data }, { on := 15, ground := Ground.chain }, { on := 0, ground := Ground.phase }, { on := 1, ground := Ground.phase }, { on := 2, ground := Ground.phase }, { on := 3, ground := Ground.phase }, { on := 4, ground := Ground.phase }, { on := 5, ground := Ground.phase }, { on := 6, ground := Ground.phase }, { on := 7, ground := Ground.phase }, { on := 8, ground := Ground.phase }, { on := 9, ground := Ground.phase }, { on := 10, ground := Ground.phase }, { on := 11, ground := Ground.textOnly Departure.lateStores }, { on := 12, ground := Ground.textOnly Departure.lateStores }, { on := 13, ground := Ground.phase }, { on := 14, ground := Ground.phase }, { on := 15, ground := Ground.phase }], guard := none }) (by kernel_rfl) rfl (fun K' hK => ?_)
        rw [if_pos (by rfl)]
        have x0 := cell_at (j := 0) (v := .int .i64 0) Cob22 rfl
        have x1 := cell_at (j := 1) (v := .int .i64 0) Cob22 rfl
        have x2 := cell_at (j := 2) (v := .int .i64 0) Cob22 rfl
        have x3 := cell_at (j := 3) (v := .int .i64 0) Cob22 rfl
        have xf := froz_at Cob22
        have xl := block_lt Cob22
        go_simp
        refine hK.out _ _ ((((hY22.setCell (Or.inr Lob19) _).setCell (Or.inr Lob19) _).setCell (Or.inr Lob19) _).setCell (Or.inr Lob19) _) ?_
        clear hK
        try simp only [Go.Act.put, List.setIfInBounds_toArray, List.set_cons_zero, List.set_cons_succ]
        obtain ⟨Y23, eY23⟩ : ∃ Y, Y = ((((Y22.setCell ⟨X0.heap.size, 0, none⟩ (.int .i64 v)).setCell ⟨X0.heap.size, 1, none⟩ (.int .i64 kd)).setCell ⟨X0.heap.size, 2, none⟩ (.int .i64 cd0)).setCell ⟨X0.heap.size, 3, none⟩ (.int .i64 u)) := ⟨_, rfl⟩
        rw [← eY23]
        have hY23 : Touch [] W2 Y23 := by rw [eY23]; exact ((((hY22.setCell (Or.inr Lob19) _).setCell (Or.inr Lob19) _).setCell (Or.inr Lob19) _).setCell (Or.inr Lob19) _)
        have gY23 : Touch [X0.heap.size] Y22 Y23 := by rw [eY23]; exact (((((Touch.refl _ _).setCell (Or.inl (by simp)) _).setCell (Or.inl (by simp)) _).setCell (Or.inl (by simp)) _).setCell (Or.inl (by simp)) _)
        have Cob23 : Y23.heap[X0.heap.size]? = some (.cells #[.int .i64 v, .int .i64 kd, .int .i64 cd0, .int .i64 u] 51 (0, 0)) := by rw [eY23]; have := (bset (i := 3) (bset (i := 2) (bset (i := 1) (bset (i := 0) Cob22 (.int .i64 v)) (.int .i64 kd)) (.int .i64 cd0)) (.int .i64 u)); simpa using this
        have Ckb23 := gY23.keep Ckb22 (fun e => ob_ne Cob22 Ckb22 (by simpa using e))
        clear eY23 x0 x1 x2 x3 xf xl
        refine wpH_take (i := 17) (v := (.bool true)) (some 17) rfl rfl (by kernel_rfl) (by kernel_rfl) (by kernel_rfl) (fun _ _ _ h => h) (Or.inl ⟨by rfl, fun w' hS => (by go_simp)⟩) hY23 ?_
        try simp only [Go.Act.put, List.setIfInBounds_toArray, List.set_cons_zero, List.set_cons_succ]
        refine wpH_take (i := 18) (v := (.int .i64 0)) (some 18) rfl rfl (by kernel_rfl) (by kernel_rfl) (by kernel_rfl) (fun _ _ _ h => h) (Or.inl ⟨by rfl, fun w' hS => (by go_simp)⟩) hY23 ?_
        try simp only [Go.Act.put, List.setIfInBounds_toArray, List.set_cons_zero, List.set_cons_succ]
        refine wpAnyH_done (by kernel_rfl) ?_ _
        go_wp2_with fail
        go_meet
        case rel => exact ⟨_, _, rfl, rfl, rfl, rfl, hid ⟨Lkb21, Ckb23, Cob23, hY23⟩⟩
      refine AllH.cons (o := { dst := some 15, op := Op.alloc 76, type := 0, pos := _, after := #[], guard := none }) rfl (fun K' hK => ?_) ?_
      · rw [if_pos (by rfl)]
        go_simp
        refine hK.out _ _ (hY19.alloc _) ?_
        clear hK
        try simp only [Go.Act.put, List.setIfInBounds_toArray, List.set_cons_zero, List.set_cons_succ]
        obtain ⟨Y24, eY24⟩ : ∃ Y, Y = Y19.alloc (.cells #[.int .i64 0, .int .i64 0, .int .i64 0, .int .i64 0] 76) := ⟨_, rfl⟩
        rw [← eY24]
        have hY24 : Touch [] W2 Y24 := by rw [eY24]; exact hY19.alloc _
        have gY24 : Touch [] Y19 Y24 := by rw [eY24]; exact (Touch.refl _ _).alloc _
        have Cob24 := gY24.keep Dob19 (by simp)
        have Dkb24 : Y24.heap[Y19.heap.size]? = some (.cells #[.int .i64 0, .int .i64 0, .int .i64 0, .int .i64 0] 76 (0, 0)) := by rw [eY24]; exact heap_alloc_new _ _
        have Lkb24 : W2.heap.size ≤ Y19.heap.size := hY19.size
        clear eY24
        refine wpH_call (i := 7) (o := { dst := some 68, op := Op.call { callee := Callee.value (Operand.func 32), args := #[Operand.tmp 62, Operand.tmp 66, Operand.tmp 67], argTypes := #[31, 76, 71] }, type := 96, pos := _, after := #[{ on := 1, ground := Ground.data }, { on := 5, ground := Ground.data }, { on := 6, ground := Ground.data }], guard := none }) (by kernel_rfl) rfl (fun K' hK => ?_)
        rw [if_pos (by rfl)]
        go_simp
        have HDk := HD2.out _ hY24
        refine HDk.mono ?_
        rintro e' Y25 ⟨rfl, gY25⟩
        have hY25 : Touch [] W2 Y25 := hY24.trans' gY25
        refine hK.out _ _ hY25 ?_
        clear hK
        try simp only [Go.Act.put, List.setIfInBounds_toArray, List.set_cons_zero, List.set_cons_succ]
        have Ckb25 := gY25.keep Dkb24 (by simp)
        have Cob25 := gY25.keep Cob24 (by simp)
        refine wpH_take (i := 8) (v := (.tuple #[(.agg #[.int .i64 0, .int .i64 0, .int .i64 0, .int .i64 0]), (.agg #[.int .i64 v, .int .i64 kd, .int .i64 cd0, .int .i64 u]), (.bool true), (.int .i64 0)])) (some 60) rfl rfl (by kernel_rfl) (by kernel_rfl) (by kernel_rfl) (fun _ _ _ h => h) (Or.inl ⟨by rfl, fun w' hS => (by go_simp)⟩) hY25 ?_
        try simp only [Go.Act.put, List.setIfInBounds_toArray, List.set_cons_zero, List.set_cons_succ]
        refine wpH_take (i := 9) (v := (.agg #[.int .i64 0, .int .i64 0, .int .i64 0, .int .i64 0])) (some 69) rfl rfl (by kernel_rfl) (by kernel_rfl) (by kernel_rfl) (fun _ _ _ h => h) (Or.inl ⟨by rfl, fun w' hS => (by go_simp)⟩) hY25 ?_
        try simp only [Go.Act.put, List.setIfInBounds_toArray, List.set_cons_zero, List.set_cons_succ]
        refine wpH_take (i := 10) (v := (.agg #[.int .i64 v, .int .i64 kd, .int .i64 cd0, .int .i64 u])) (some 70) rfl rfl (by kernel_rfl) (by kernel_rfl) (by kernel_rfl) (fun _ _ _ h => h) (Or.inl ⟨by rfl, fun w' hS => (by go_simp)⟩) hY25 ?_
        try simp only [Go.Act.put, List.setIfInBounds_toArray, List.set_cons_zero, List.set_cons_succ]
        refine wpH_take (i := 11) (v := (.bool true)) (some 71) rfl rfl (by kernel_rfl) (by kernel_rfl) (by kernel_rfl) (fun _ _ _ h => h) (Or.inl ⟨by rfl, fun w' hS => (by go_simp)⟩) hY25 ?_
        try simp only [Go.Act.put, List.setIfInBounds_toArray, List.set_cons_zero, List.set_cons_succ]
        refine wpH_take (i := 12) (v := (.int .i64 0)) (some 72) rfl rfl (by kernel_rfl) (by kernel_rfl) (by kernel_rfl) (fun _ _ _ h => h) (Or.inl ⟨by rfl, fun w' hS => (by go_simp)⟩) hY25 ?_
        try simp only [Go.Act.put, List.setIfInBounds_toArray, List.set_cons_zero, List.set_cons_succ]
        refine wpH_call (i := 15) (o := { dst := none, op := Op.store 76 (Operand.tmp 15) (Operand.tmp 69), type := 0, pos := _, after := #[{ on := 13, ground := Ground.data }, { on := 9, ground := Ground.data }, { on := 7, ground := Ground.chain }, { on := 0, ground := Ground.phase }, { on := 1, ground := Ground.phase }, { on := 2, ground := Ground.phase }, { on := 3, ground := Ground.phase }, { on := 4, ground := Ground.phase }, { on := 5, ground := Ground.phase }, { on := 6, ground := Ground.phase }, { on := 7, ground := Ground.phase }, { on := 8, ground := Ground.phase }, { on := 9, ground := Ground.phase }, { on := 10, ground := Ground.textOnly Departure.lateStores }, { on := 11, ground := Ground.textOnly Departure.lateStores }, { on := 12, ground := Ground.textOnly Departure.lateStores }, { on := 13, ground := Ground.phase }, { on := 14, ground := Ground.phase }], guard := none }) (by kernel_rfl) rfl (fun K' hK => ?_)
        rw [if_pos (by rfl)]
        have x0 := cell_at (j := 0) (v := .int .i64 0) Ckb25 rfl
        have x1 := cell_at (j := 1) (v := .int .i64 0) Ckb25 rfl
        have x2 := cell_at (j := 2) (v := .int .i64 0) Ckb25 rfl
        have x3 := cell_at (j := 3) (v := .int .i64 0) Ckb25 rfl
        have xf := froz_at Ckb25
        have xl := block_lt Ckb25
        go_simp
        refine hK.out _ _ ((((hY25.setCell (Or.inr Lkb24) _).setCell (Or.inr Lkb24) _).setCell (Or.inr Lkb24) _).setCell (Or.inr Lkb24) _) ?_
        clear hK
        try simp only [Go.Act.put, List.setIfInBounds_toArray, List.set_cons_zero, List.set_cons_succ]
        obtain ⟨Y26, eY26⟩ : ∃ Y, Y = ((((Y25.setCell ⟨Y19.heap.size, 0, none⟩ (.int .i64 0)).setCell ⟨Y19.heap.size, 1, none⟩ (.int .i64 0)).setCell ⟨Y19.heap.size, 2, none⟩ (.int .i64 0)).setCell ⟨Y19.heap.size, 3, none⟩ (.int .i64 0)) := ⟨_, rfl⟩
        rw [← eY26]
        have hY26 : Touch [] W2 Y26 := by rw [eY26]; exact ((((hY25.setCell (Or.inr Lkb24) _).setCell (Or.inr Lkb24) _).setCell (Or.inr Lkb24) _).setCell (Or.inr Lkb24) _)
        have gY26 : Touch [Y19.heap.size] Y25 Y26 := by rw [eY26]; exact (((((Touch.refl _ _).setCell (Or.inl (by simp)) _).setCell (Or.inl (by simp)) _).setCell (Or.inl (by simp)) _).setCell (Or.inl (by simp)) _)
        have Ckb26 : Y26.heap[Y19.heap.size]? = some (.cells #[.int .i64 0, .int .i64 0, .int .i64 0, .int .i64 0] 76 (0, 0)) := by rw [eY26]; have := (bset (i := 3) (bset (i := 2) (bset (i := 1) (bset (i := 0) Ckb25 (.int .i64 0)) (.int .i64 0)) (.int .i64 0)) (.int .i64 0)); simpa using this
        have Cob26 := gY26.keep Cob25 (fun e => kb_ne Ckb25 Cob25 (by simpa using e))
        clear eY26 x0 x1 x2 x3 xf xl
        refine wpH_call (i := 16) (o := { dst := none, op := Op.store 51 (Operand.tmp 16) (Operand.tmp 70), type := 0, pos := _, after := #[{ on := 14, ground := Ground.data }, { on := 10, ground := Ground.data }, { on := 15, ground := Ground.chain }, { on := 0, ground := Ground.phase }, { on := 1, ground := Ground.phase }, { on := 2, ground := Ground.phase }, { on := 3, ground := Ground.phase }, { on := 4, ground := Ground.phase }, { on := 5, ground := Ground.phase }, { on := 6, ground := Ground.phase }, { on := 7, ground := Ground.phase }, { on := 8, ground := Ground.phase }, { on := 9, ground := Ground.phase }, { on := 10, ground := Ground.phase }, { on := 11, ground := Ground.textOnly Departure.lateStores }, { on := 12, ground := Ground.textOnly Departure.lateStores }, { on := 13, ground := Ground.phase }, { on := 14, ground := Ground.phase }, { on := 15, ground := Ground.phase }], guard := none }) (by kernel_rfl) rfl (fun K' hK => ?_)
        rw [if_pos (by rfl)]
        have x0 := cell_at (j := 0) (v := .int .i64 0) Cob26 rfl
        have x1 := cell_at (j := 1) (v := .int .i64 0) Cob26 rfl
        have x2 := cell_at (j := 2) (v := .int .i64 0) Cob26 rfl
        have x3 := cell_at (j := 3) (v := .int .i64 0) Cob26 rfl
        have xf := froz_at Cob26
        have xl := block_lt Cob26
        go_simp
        refine hK.out _ _ ((((hY26.setCell (Or.inr Lob19) _).setCell (Or.inr Lob19) _).setCell (Or.inr Lob19) _).setCell (Or.inr Lob19) _) ?_
        clear hK
        try simp only [Go.Act.put, List.setIfInBounds_toArray, List.set_cons_zero, List.set_cons_succ]
        obtain ⟨Y27, eY27⟩ : ∃ Y, Y = ((((Y26.setCell ⟨X0.heap.size, 0, none⟩ (.int .i64 v)).setCell ⟨X0.heap.size, 1, none⟩ (.int .i64 kd)).setCell ⟨X0.heap.size, 2, none⟩ (.int .i64 cd0)).setCell ⟨X0.heap.size, 3, none⟩ (.int .i64 u)) := ⟨_, rfl⟩
        rw [← eY27]
        have hY27 : Touch [] W2 Y27 := by rw [eY27]; exact ((((hY26.setCell (Or.inr Lob19) _).setCell (Or.inr Lob19) _).setCell (Or.inr Lob19) _).setCell (Or.inr Lob19) _)
        have gY27 : Touch [X0.heap.size] Y26 Y27 := by rw [eY27]; exact (((((Touch.refl _ _).setCell (Or.inl (by simp)) _).setCell (Or.inl (by simp)) _).setCell (Or.inl (by simp)) _).setCell (Or.inl (by simp)) _)
        have Cob27 : Y27.heap[X0.heap.size]? = some (.cells #[.int .i64 v, .int .i64 kd, .int .i64 cd0, .int .i64 u] 51 (0, 0)) := by rw [eY27]; have := (bset (i := 3) (bset (i := 2) (bset (i := 1) (bset (i := 0) Cob26 (.int .i64 v)) (.int .i64 kd)) (.int .i64 cd0)) (.int .i64 u)); simpa using this
        have Ckb27 := gY27.keep Ckb26 (fun e => ob_ne Cob26 Ckb26 (by simpa using e))
        clear eY27 x0 x1 x2 x3 xf xl
        refine wpH_take (i := 17) (v := (.bool true)) (some 17) rfl rfl (by kernel_rfl) (by kernel_rfl) (by kernel_rfl) (fun _ _ _ h => h) (Or.inl ⟨by rfl, fun w' hS => (by go_simp)⟩) hY27 ?_
        try simp only [Go.Act.put, List.setIfInBounds_toArray, List.set_cons_zero, List.set_cons_succ]
        refine wpH_take (i := 18) (v := (.int .i64 0)) (some 18) rfl rfl (by kernel_rfl) (by kernel_rfl) (by kernel_rfl) (fun _ _ _ h => h) (Or.inl ⟨by rfl, fun w' hS => (by go_simp)⟩) hY27 ?_
        try simp only [Go.Act.put, List.setIfInBounds_toArray, List.set_cons_zero, List.set_cons_succ]
        refine wpAnyH_done (by kernel_rfl) ?_ _
        go_wp2_with fail
        go_meet
        case rel => exact ⟨_, _, rfl, rfl, rfl, rfl, hid ⟨Lkb24, Ckb27, Cob27, hY27⟩⟩
      exact AllH.nil
    exact AllH.nil
   case rest =>
    obtain ⟨kb, ob, rfl, rfl, rfl, rfl, HC⟩ := hcut
    obtain ⟨X, rfl⟩ : ∃ X, X = wc := ⟨_, rfl⟩
    obtain ⟨b0, _, _, _⟩ := HB1.out X HC.out.2.2.2
    have x0 := cell_at (j := 0) (v := .int .i64 v) HC.out.2.2.1 rfl
    have x1 := cell_at (j := 1) (v := .int .i64 kd) HC.out.2.2.1 rfl
    have x2 := cell_at (j := 2) (v := .int .i64 cd0) HC.out.2.2.1 rfl
    have x3 := cell_at (j := 3) (v := .int .i64 u) HC.out.2.2.1 rfl
    have HXT := hid (HTW.out.trans' HC.out.2.2.2)
    have HEN := hid (end_ (HL.out.keep0 HXT.out) HIV.out HEQ.out 5 (v, kd, cd0, u))
    have HB0 : Hid (∀ Y, Touch [b, r] X Y → Y.heap[w.heap.size]? = some (.cells #[.int .i64 0, .int .i64 0, .int .i64 0, .int .i64 0] 43 (0, 0))) := hid (fun Y T => T.keep b0 (by have := HL.out.rb; simp; omega))
    clear b0 z4 k3 k4 k5 k6 u0 u1 u2 u3 HD HD2
    go_wp2_with (go_at_call 30; refine HEN.out.mono ?_; rintro e' Y ⟨rfl, vl', q5, t5⟩; have HQ5 := hid q5; have HT5 := hid t5; have c5 := HB0.out Y t5; have f0 := cell_at (j := 0) (v := .int .i64 0) c5 rfl; have f1 := cell_at (j := 1) (v := .int .i64 0) c5 rfl; have f2 := cell_at (j := 2) (v := .int .i64 0) c5 rfl; have f3 := cell_at (j := 3) (v := .int .i64 0) c5 rfl; have ff := froz_at c5; have fl := block_lt c5; clear q5 t5 c5)
    have HT6 : Hid (Touch [w.heap.size] Y ((((Y.setCell ⟨w.heap.size, 0, none⟩ (.int .i64 (endW S 5 (v, kd, cd0, u)))).setCell ⟨w.heap.size, 1, none⟩ (.int .i64 q.1.run)).setCell ⟨w.heap.size, 2, none⟩ (.int .i64 0)).setCell ⟨w.heap.size, 3, none⟩ (.int .i64 0))) := hid (((((Touch.refl _ _).setCell (Or.inl (by simp)) _).setCell (Or.inl (by simp)) _).setCell (Or.inl (by simp)) _).setCell (Or.inl (by simp)) _)
    refine bodyPost_ret (v := .tuple #[.agg #[.int .i64 (endW S 5 (v, kd, cd0, u)), .int .i64 q.1.run, .int .i64 0, .int .i64 0], .int .i64 0]) (by simp [results, Tryd.results12, go_sem, f0, f1, f2, f3]) rfl ?_
    exact ⟨rfl, vl', HQ5.out.keep HT6.out (fun k hk => by simp at hk; omega), ((HXT.out.mono (fun _ e => by cases e)).trans' HT5.out).trans HT6.out (fun k hk => Or.inr (by simp at hk; omega))⟩
end
end Go.Proofs.YtcbckehdlbbbbaaDoor
