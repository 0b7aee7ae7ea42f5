/- The contract of the document's Leap; Advance as one. -/
import Derived.Test.YtaioegefoiabhaaRad
import Derived.Test.YtaioegefoiabhaaRax
import Derived.Test.YtaioegefoiabhaaPrt
import Derived.Deep.CutRange
import Derived.Test.YtaioegefoiabhaaHlg
namespace Go.Proofs.Ytaioegefoiabhaa
open Go.RowKit Go.Maps Go.ChangeMaps
set_option linter.unusedVariables false
set_option linter.unusedSimpArgs false
section
variable (w : World) (B : Nat) (v : Value) (s : Cs) (d : Int)
theorem radv31 (h : RR 93 w B v s.T) (ok : Ok s) (hB : B ≤ w.heap.size) (hd : W64 d) :
    Calls Try.prog 31 #[.agg #[.int .i64 s.now, v, .int .i64 s.last], .int .i64 d] w fun e w' => RaE e w w' B (advS s d) (advR s d) (.int .i64 (advE s d)) := by
  by_cases he : advE s d = 0
  · have e1 : advS s d = goS s (s.now + d) := by unfold advS; rw [if_pos he]
    have e2 : advR s d = goR s (s.now + d) := by unfold advR; rw [if_pos he]
    rw [he, e1, e2]
    exact radv_ok w B v s d h ok hB he
  · have e1 : advS s d = s := by unfold advS; rw [if_neg he]
    have e2 : advR s d = [] := by unfold advR; rw [if_neg he]
    rw [e1, e2]
    exact radv_err w B v s d h ok hd he
/-- Behind Advance: the clock's box bears what it told. -/
def LpX (w wx : World) (B : Nat) (s1 : Cs) (R : List Tm) (r : Value) : Prop := ∃ a n c, BM wx w.heap.size s1.now (.slice a n c) s1.last ∧ BM wx (w.heap.size + 1) 0 (.slice none 0 0) 0 ∧ RR 93 wx B (.slice a n c) s1.T ∧ RR 93 wx B r R ∧ Touch [] w wx
theorem LpX.of {w V w1 : World} {s s1 : Cs} {v : Value} {B : Nat} {R : List Tm} {a a2 : Option Addr} {n c n2 c2 : Nat} (hV : Bo w V s v) (t1 : Touch [] V w1) (h1 : RR 93 w1 B (.slice a n c) s1.T) (h2 : RR 93 w1 B (.slice a2 n2 c2) R) :
    LpX w (((w1.setCell ⟨w.heap.size, 0, none⟩ (.int .i64 s1.now)).setCell ⟨w.heap.size, 1, none⟩ (.slice a n c)).setCell ⟨w.heap.size, 2, none⟩ (.int .i64 s1.last)) B s1 R (.slice a2 n2 c2) := by
  have hb0 := hV.b0.keep0 t1
  have hb1 := hV.b1.keep0 t1
  have T : Touch [w.heap.size] w1 (((w1.setCell ⟨w.heap.size, 0, none⟩ (.int .i64 s1.now)).setCell ⟨w.heap.size, 1, none⟩ (.slice a n c)).setCell ⟨w.heap.size, 2, none⟩ (.int .i64 s1.last)) := (((Touch.refl _ _).setCell (p := ⟨w.heap.size, 0, none⟩) (Or.inl (by simp)) _).setCell (p := ⟨w.heap.size, 1, none⟩) (Or.inl (by simp)) _).setCell (p := ⟨w.heap.size, 2, none⟩) (Or.inl (by simp)) _
  have k : ∀ {a : Option Addr} {n c : Nat} {l : List Tm}, RR 93 w1 B (.slice a n c) l → ∀ b, (Value.slice a n c).ownBlock = some b → ¬ b ∈ [w.heap.size] := fun h b hb e => by
    simp at e
    subst e
    exact own_ne h hb0 (by decide) _ hb rfl
  have c0 : BM (w1.setCell ⟨w.heap.size, 0, none⟩ (.int .i64 s1.now)) w.heap.size s1.now v s.last := Joins.block_setCell hb0 _
  have c1 : BM ((w1.setCell ⟨w.heap.size, 0, none⟩ (.int .i64 s1.now)).setCell ⟨w.heap.size, 1, none⟩ (.slice a n c)) w.heap.size s1.now (.slice a n c) s.last := Joins.block_setCell c0 _
  exact ⟨a, n, c, Joins.block_setCell c1 _, hb1.keep T (by simp), h1.keep T (k h1), h2.keep T (k h2), (hV.tc.trans' t1).trans T (fun i hi => Or.inr (by simp at hi; omega))⟩
set_option maxHeartbeats 1000000 in
set_option maxRecDepth 100000 in
theorem rleap33 (h : RR 93 w B v s.T) (ok : Ok s) (hB : B ≤ w.heap.size) :
    Calls Try.prog 33 #[.agg #[.int .i64 s.now, v, .int .i64 s.last]] w fun e w' => RaE e w w' B (leapS s) (leapR s) (.bool (decide (s.T ≠ []))) := by
  obtain ⟨a, c, rfl⟩ := h.slice
  have n0 := ok.n0
  have n1 := ok.n1
  cases hT : s.T with
  | nil =>
    have e2 : leapS s = s := by unfold leapS; rw [hT]
    have e3 : leapR s = [] := by unfold leapR; rw [hT]
    rw [e2, e3, decide_eq_false (fun e => e rfl)]
    have HX : Hid (∀ w', Touch [] w w' → RaE (.returned (.tuple #[.agg #[.int .i64 s.now, .slice a 0 c, .int .i64 s.last], .slice none 0 0, .bool false])) w w' B s [] (.bool false)) := fun w' t => ⟨_, _, _, _, _, _, rfl, by have := h.keep0 t; rw [hT] at this ⊢; exact this, RR.nil _ _ _, t⟩
    rw [hT] at h
    simp only [List.length_nil]
    clear h e2 e3 ok hT
    generalize s.now = now at *
    generalize s.last = last at *
    go_enter Try.func33, Try.ntmps33
    go_wp2
    exact bodyPost_ret (v := .tuple #[.agg #[.int .i64 now, .slice a 0 c, .int .i64 last], .slice none 0 0, .bool false]) (by simp [results, Try.results33, go_sem]) rfl (HX.out _ (((Touch.refl _ _).alloc _).alloc _))
  | cons x l =>
    have e2 : leapS s = goS s x.at_ := by unfold leapS; rw [hT]
    have e3 : leapR s = goR s x.at_ := by unfold leapR; rw [hT]
    rw [e2, e3, decide_eq_true (show x :: l ≠ [] by simp), ← hT]
    have hx : x ∈ s.T := by rw [hT]; exact List.mem_cons_self
    have a0 := ok.at0 x hx
    have a1 := ok.at1 x hx
    obtain ⟨g, rfl, eN, yy0, yy1⟩ := h.cells (k := 0) (by rw [hT]; simp)
    rw [hT, gtT_cons_zero] at yy0 yy1
    clear eN
    obtain ⟨N, hN⟩ : ∃ N, N = s.T.length := ⟨_, rfl⟩
    have hN0 : 0 < N := by rw [hN, hT]; simp
    rw [← hN] at h ⊢
    have HV := hid (Bo.mk' w s (.slice (some ⟨g, 0, none⟩) N c))
    obtain ⟨V, hV⟩ : ∃ V, V = (w.alloc (.cells #[.int .i64 s.now, .slice (some ⟨g, 0, none⟩) N c, .int .i64 s.last] 28)).alloc (.cells #[.int .i64 0, .slice none 0 0, .int .i64 0] 28) := ⟨_, rfl⟩
    rw [← hV] at HV
    have HA : Hid (∀ w1, Touch [] V w1 → Calls Try.prog 31 #[.agg #[.int .i64 s.now, .slice (some ⟨g, 0, none⟩) N c, .int .i64 s.last], .int .i64 (x.at_ - s.now)] w1 fun e w' => RaE e w1 w' B (goS s x.at_) (goR s x.at_) (.int .i64 0)) := fun w1 t1 => by
      have he : advE s (x.at_ - s.now) = 0 := by unfold advE; rw [if_neg (by omega), if_neg (by omega)]
      have := radv_ok w1 B (.slice (some ⟨g, 0, none⟩) N c) s (x.at_ - s.now) (h.keep0 (HV.out.tc.trans' t1)) ok (by have := HV.out.tc.size; have := t1.size; omega) he
      rw [show s.now + (x.at_ - s.now) = x.at_ by omega] at this
      exact this
    have z0 : V.cell? ⟨g, 0, none⟩ = some (.int .i64 x.it) := by have := (h.keep0 HV.out.tc).cells (k := 0) (by omega); obtain ⟨g', eg, _, q, _⟩ := this; simp only [Option.some.injEq, Addr.mk.injEq, and_true] at eg; subst eg; rw [hT, gtT_cons_zero] at q; exact q
    have z1 : V.cell? ⟨g, 1, none⟩ = some (.int .i64 x.at_) := by have := (h.keep0 HV.out.tc).cells (k := 0) (by omega); obtain ⟨g', eg, _, _, q⟩ := this; simp only [Option.some.injEq, Addr.mk.injEq, and_true] at eg; subst eg; rw [hT, gtT_cons_zero] at q; exact q
    have v0 := HV.out.b0.c0
    have v1 := HV.out.b0.c1
    have v2 := HV.out.b0.c2
    have zN : (0 : Int) < (N : Int) := by omega
    have zNb : (N : Int) ≤ 65536 := by have := ok.len; omega
    have zN0 : ((N : Int) == 0) = false := by simp; omega
    clear h ok hx e2 e3 hT hN yy0 yy1
    generalize goS s x.at_ = s1 at *
    generalize goR s x.at_ = R at *
    generalize x.at_ = u at *
    generalize s.now = now at *
    generalize s.last = last at *
    have hw : IntKind.i64.wrap (u - now) = u - now := by rw [IntKind.wrap_i64]; omega
    go_enter Try.func33, Try.ntmps33
    go_upto_region 3 with fail
    rw [← hV]
    clear hV
    go_cut [5] from 12 to 25 (fun s5 wx => ∃ a2 n2 c2, s5 = .slice a2 n2 c2 ∧ LpX w wx B s1 R s5)
    case first =>
      refine wp_region_L (S := (fun w' => w'.cell? ⟨w.heap.size, 0, none⟩ = some (.int .i64 now) ∧ w'.cell? ⟨w.heap.size, 1, none⟩ = some (.slice (some ⟨g, 0, none⟩) N c) ∧ w'.cell? ⟨w.heap.size, 2, none⟩ = some (.int .i64 last) ∧ w'.cell? ⟨g, 1, none⟩ = some (.int .i64 u))) (st := 14) (by kernel_rfl) ?_
      have hS0 : V.drew.cell? ⟨w.heap.size, 0, none⟩ = some (.int .i64 now) ∧ V.drew.cell? ⟨w.heap.size, 1, none⟩ = some (.slice (some ⟨g, 0, none⟩) N c) ∧ V.drew.cell? ⟨w.heap.size, 2, none⟩ = some (.int .i64 last) ∧ V.drew.cell? ⟨g, 1, none⟩ = some (.int .i64 u) := ⟨v0, v1, v2, z1⟩
      refine wpL_take (i := 0) (v := .agg #[.int .i64 now, .slice (some ⟨g, 0, none⟩) N c, .int .i64 last]) (some 13) rfl rfl (by kernel_rfl) (by kernel_rfl) (by kernel_rfl) (by kernel_rfl) (by kernel_rfl) (by decide) (fun _ _ _ h => h) (Or.inl ⟨by rfl, fun w' hS => by obtain ⟨hs1, hs2, hs3, hs4⟩ := hS; go_simp⟩) hS0 ?_
      try simp only [Act.put, List.setIfInBounds_toArray, List.set_cons_zero, List.set_cons_succ]
      refine wpL_take (i := 1) (v := .pointer (some ⟨w.heap.size, 1, none⟩)) (some 14) rfl rfl (by kernel_rfl) (by kernel_rfl) (by kernel_rfl) (by kernel_rfl) (by kernel_rfl) (by decide) (fun _ _ _ h => h) (Or.inl ⟨by rfl, fun w' hS => by obtain ⟨hs1, hs2, hs3, hs4⟩ := hS; go_simp⟩) hS0 ?_
      try simp only [Act.put, List.setIfInBounds_toArray, List.set_cons_zero, List.set_cons_succ]
      refine wpL_take (i := 2) (v := .slice (some ⟨g, 0, none⟩) N c) (some 15) rfl rfl (by kernel_rfl) (by kernel_rfl) (by kernel_rfl) (by kernel_rfl) (by kernel_rfl) (by decide) (fun _ _ _ h => h) (Or.inl ⟨by rfl, fun w' hS => by obtain ⟨hs1, hs2, hs3, hs4⟩ := hS; go_simp⟩) hS0 ?_
      try simp only [Act.put, List.setIfInBounds_toArray, List.set_cons_zero, List.set_cons_succ]
      refine wpL_take (i := 3) (v := .pointer (some ⟨g, 0, none⟩)) (some 16) rfl rfl (by kernel_rfl) (by kernel_rfl) (by kernel_rfl) (by kernel_rfl) (by kernel_rfl) (by decide) (fun _ _ _ h => h) (Or.inl ⟨by rfl, fun w' hS => by obtain ⟨hs1, hs2, hs3, hs4⟩ := hS; go_simp⟩) hS0 ?_
      try simp only [Act.put, List.setIfInBounds_toArray, List.set_cons_zero, List.set_cons_succ]
      refine wpL_take (i := 4) (v := .pointer (some ⟨g, 1, none⟩)) (some 17) rfl rfl (by kernel_rfl) (by kernel_rfl) (by kernel_rfl) (by kernel_rfl) (by kernel_rfl) (by decide) (fun _ _ _ h => h) (Or.inl ⟨by rfl, fun w' hS => by obtain ⟨hs1, hs2, hs3, hs4⟩ := hS; go_simp⟩) hS0 ?_
      try simp only [Act.put, List.setIfInBounds_toArray, List.set_cons_zero, List.set_cons_succ]
      refine wpL_take (i := 5) (v := .int .i64 u) (some 18) rfl rfl (by kernel_rfl) (by kernel_rfl) (by kernel_rfl) (by kernel_rfl) (by kernel_rfl) (by decide) (fun _ _ _ h => h) (Or.inl ⟨by rfl, fun w' hS => by obtain ⟨hs1, hs2, hs3, hs4⟩ := hS; go_simp⟩) hS0 ?_
      try simp only [Act.put, List.setIfInBounds_toArray, List.set_cons_zero, List.set_cons_succ]
      refine wpL_take (i := 6) (v := .pointer (some ⟨w.heap.size, 0, none⟩)) (some 19) rfl rfl (by kernel_rfl) (by kernel_rfl) (by kernel_rfl) (by kernel_rfl) (by kernel_rfl) (by decide) (fun _ _ _ h => h) (Or.inl ⟨by rfl, fun w' hS => by obtain ⟨hs1, hs2, hs3, hs4⟩ := hS; go_simp⟩) hS0 ?_
      try simp only [Act.put, List.setIfInBounds_toArray, List.set_cons_zero, List.set_cons_succ]
      refine wpL_take (i := 7) (v := .int .i64 now) (some 20) rfl rfl (by kernel_rfl) (by kernel_rfl) (by kernel_rfl) (by kernel_rfl) (by kernel_rfl) (by decide) (fun _ _ _ h => h) (Or.inl ⟨by rfl, fun w' hS => by obtain ⟨hs1, hs2, hs3, hs4⟩ := hS; go_simp⟩) hS0 ?_
      try simp only [Act.put, List.setIfInBounds_toArray, List.set_cons_zero, List.set_cons_succ]
      refine wpL_take (i := 8) (v := .int .i64 (u - now)) (some 21) rfl rfl (by kernel_rfl) (by kernel_rfl) (by kernel_rfl) (by kernel_rfl) (by kernel_rfl) (by decide) (fun _ _ _ h => h) (Or.inl ⟨by rfl, fun w' hS => by obtain ⟨hs1, hs2, hs3, hs4⟩ := hS; go_simp⟩) hS0 ?_
      try simp only [Act.put, List.setIfInBounds_toArray, List.set_cons_zero, List.set_cons_succ]
      refine wpL_ready (rs := [9]) (by kernel_rfl) (by simp) (AllL.cons (o := { dst := some 22, op := Op.call { callee := Callee.value (Operand.func 31), args := #[Operand.tmp 13, Operand.tmp 21], argTypes := #[28, 2] }, type := 71, pos := "ref.go:105", after := #[{ on := 0, ground := Ground.data }, { on := 8, ground := Ground.data }], guard := none }) rfl (fun K' hK => ?_) AllL.nil)
      rw [if_pos (by rfl)]
      go_simp
      refine (HA.out _ (Touch.refl _ _).drew).mono ?_
      rintro e w1 ⟨a1, k1, c1, a2, n2, c2, rfl, r1, r2, t1⟩
      have T1 : Touch [] V w1 := (Touch.refl _ _).drew.trans' t1
      have HR1 := hid (And.intro r1 (And.intro r2 T1))
      have b0 := HV.out.b0.keep0 T1
      have q0 := T1.cell v0
      have q1 := T1.cell v1
      have q2 := T1.cell v2
      have qf := b0.fr
      have hS1 : w1.cell? ⟨w.heap.size, 0, none⟩ = some (.int .i64 now) ∧ w1.cell? ⟨w.heap.size, 1, none⟩ = some (.slice (some ⟨g, 0, none⟩) N c) ∧ w1.cell? ⟨w.heap.size, 2, none⟩ = some (.int .i64 last) ∧ w1.cell? ⟨g, 1, none⟩ = some (.int .i64 u) := ⟨q0, q1, q2, T1.cell z1⟩
      refine hK.out _ _ (fun _ => hS1) ?_
      clear hK r1 r2 t1 b0
      try simp only [Act.put, List.setIfInBounds_toArray, List.set_cons_zero, List.set_cons_succ]
      refine wpL_take (i := 10) (v := .tuple #[.agg #[.int .i64 s1.now, .slice a1 k1 c1, .int .i64 s1.last], .slice a2 n2 c2, .int .i64 0]) (some 12) rfl rfl (by kernel_rfl) (by kernel_rfl) (by kernel_rfl) (by kernel_rfl) (by kernel_rfl) (by decide) (fun _ _ _ h => h) (Or.inl ⟨by rfl, fun w' hS => by obtain ⟨hs1, hs2, hs3, hs4⟩ := hS; go_simp⟩) hS1 ?_
      try simp only [Act.put, List.setIfInBounds_toArray, List.set_cons_zero, List.set_cons_succ]
      refine wpL_take (i := 11) (v := .agg #[.int .i64 s1.now, .slice a1 k1 c1, .int .i64 s1.last]) (some 23) rfl rfl (by kernel_rfl) (by kernel_rfl) (by kernel_rfl) (by kernel_rfl) (by kernel_rfl) (by decide) (fun _ _ _ h => h) (Or.inl ⟨by rfl, fun w' hS => by obtain ⟨hs1, hs2, hs3, hs4⟩ := hS; go_simp⟩) hS1 ?_
      try simp only [Act.put, List.setIfInBounds_toArray, List.set_cons_zero, List.set_cons_succ]
      refine wpL_takeY (i := 12) (v := .slice a2 n2 c2) (some 24) rfl rfl (by kernel_rfl) (by kernel_rfl) (by kernel_rfl) (by decide) (fun _ _ _ h => h) (Or.inl ⟨by rfl, fun w' _ => by go_simp⟩) (fun _ => hS1) ?_
      try simp only [Act.put, List.setIfInBounds_toArray, List.set_cons_zero, List.set_cons_succ]
      refine wpL_takeY (i := 13) (v := .int .i64 0) (some 25) rfl rfl (by kernel_rfl) (by kernel_rfl) (by kernel_rfl) (by decide) (fun _ _ _ h => h) (Or.inl ⟨by rfl, fun w' _ => by go_simp⟩) (fun _ => hS1) ?_
      try simp only [Act.put, List.setIfInBounds_toArray, List.set_cons_zero, List.set_cons_succ]
      refine wpL_ready (rs := [14]) (by kernel_rfl) (by simp) (AllL.cons (o := { dst := none, op := Op.store 28 (Operand.tmp 1) (Operand.tmp 23), type := 0, pos := "ref.go:105", after := #[{ on := 11, ground := Ground.data }, { on := 9, ground := Ground.chain }, { on := 0, ground := Ground.phase }, { on := 1, ground := Ground.phase }, { on := 2, ground := Ground.phase }, { on := 3, ground := Ground.phase }, { on := 4, ground := Ground.phase }, { on := 5, ground := Ground.phase }, { on := 6, ground := Ground.phase }, { on := 7, ground := Ground.phase }, { on := 8, ground := Ground.phase }, { on := 9, ground := Ground.phase }, { on := 10, ground := Ground.phase }, { on := 11, ground := Ground.phase }, { on := 12, ground := Ground.textOnly Departure.lateStores }, { on := 13, ground := Ground.textOnly Departure.lateStores }], guard := none }) rfl (fun K' hK => ?_) AllL.nil)
      rw [if_pos (by rfl)]
      go_simp
      refine hK.out _ _ (fun h => by cases (show true = false from h)) ?_
      clear hK
      try simp only [Act.put, List.setIfInBounds_toArray, List.set_cons_zero, List.set_cons_succ]
      refine wpL_takeY (i := 15) (v := .slice a2 n2 c2) (some 5) rfl rfl (by kernel_rfl) (by kernel_rfl) (by kernel_rfl) (by decide) (fun _ _ _ h => h) (Or.inl ⟨by rfl, fun w' _ => by go_simp⟩) (fun h => by cases (show true = false from h)) ?_
      try simp only [Act.put, List.setIfInBounds_toArray, List.set_cons_zero, List.set_cons_succ]
      refine wpL_takeY (i := 16) (v := .int .i64 0) (some 6) rfl rfl (by kernel_rfl) (by kernel_rfl) (by kernel_rfl) (by decide) (fun _ _ _ h => h) (Or.inl ⟨by rfl, fun w' _ => by go_simp⟩) (fun h => by cases (show true = false from h)) ?_
      try simp only [Act.put, List.setIfInBounds_toArray, List.set_cons_zero, List.set_cons_succ]
      refine wpL_done (by kernel_rfl) ?_ _
      go_wp2_with fail
      go_meet
      exact ⟨_, _, _, rfl, LpX.of HV.out HR1.out.2.2 HR1.out.1 HR1.out.2.1⟩
    case rest =>
      clear HV HA v0 v1 v2 z0 z1
      obtain ⟨a2, n2, c2, rfl, hL⟩ := hcut
      obtain ⟨aw, nw, cw, wb0, wb1, wrr, wr2, wt⟩ := hL
      have HW := hid (And.intro wb0 (And.intro wb1 (And.intro wrr (And.intro wr2 wt))))
      have q0 := wb0.c0
      have q1 := wb0.c1
      have q2 := wb0.c2
      have r0 := wb1.c0
      have r1 := wb1.c1
      have r2 := wb1.c2
      have rf := wb1.fr
      clear wb0 wb1 wrr wr2 wt
      go_wp2
      have T : Touch [w.heap.size + 1] wc (((wc.setCell ⟨w.heap.size + 1, 0, none⟩ (.int .i64 s1.now)).setCell ⟨w.heap.size + 1, 1, none⟩ (.slice aw nw cw)).setCell ⟨w.heap.size + 1, 2, none⟩ (.int .i64 s1.last)) := (((Touch.refl _ _).setCell (p := ⟨w.heap.size + 1, 0, none⟩) (Or.inl (by simp)) _).setCell (p := ⟨w.heap.size + 1, 1, none⟩) (Or.inl (by simp)) _).setCell (p := ⟨w.heap.size + 1, 2, none⟩) (Or.inl (by simp)) _
      exact bodyPost_ret (v := .tuple #[.agg #[.int .i64 s1.now, .slice aw nw cw, .int .i64 s1.last], .slice a2 n2 c2, .bool true]) (by simp [results, Try.results33, go_sem, r0, r1, r2]) rfl ⟨aw, nw, cw, a2, n2, c2, rfl, HW.out.2.2.1.keep T (rax_row HW.out.1 HW.out.2.1 HW.out.2.2.1), HW.out.2.2.2.1.keep T (rax_row HW.out.1 HW.out.2.1 HW.out.2.2.2.1), HW.out.2.2.2.2.trans T (fun i hi => Or.inr (by simp at hi; omega))⟩
end
end Go.Proofs.Ytaioegefoiabhaa
