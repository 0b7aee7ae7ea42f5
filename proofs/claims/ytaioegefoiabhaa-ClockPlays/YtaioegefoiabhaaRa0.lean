/- The document's Arm where nothing is armed yet. -/
import Derived.Test.YtaioegefoiabhaaRax
import Derived.Test.YtaioegefoiabhaaHlt
import Derived.Deep.CutRange
namespace Go.Proofs.Ytaioegefoiabhaa
open Go.RowKit Go.Maps Go.ChangeMaps
set_option linter.unusedVariables false
set_option linter.unusedSimpArgs false
section
variable (w : World) (B : Nat) (v : Value) (s : Cs) (t : Int)
set_option maxHeartbeats 4000000 in
set_option maxRecDepth 100000 in
theorem rarm_nil (h : RR 93 w B (.slice none 0 0) s.T) (ok : Ok s) (hB : B ≤ w.heap.size) (hl : s.last < 4611686018427387904) (he : armE s t = 0) :
    Calls Try.prog 28 #[.agg #[.int .i64 s.now, .slice none 0 0, .int .i64 s.last], .int .i64 t] w fun e w' => RmE e w w' B (armS s t) (s.last + 1) 0 := by
  obtain ⟨i93, hi, hz0, hz1, hz2⟩ := info_parts info93
  obtain ⟨⟨t0, t1⟩, tn, hlen⟩ := armE_ok he
  have l0 := ok.l0
  have HB := hid hB
  obtain ⟨s1, hs1⟩ : ∃ s1 : Cs, s1 = ⟨s.now, s.last + 1, s.T⟩ := ⟨_, rfl⟩
  have e1 : s1.now = s.now := by rw [hs1]
  have e2 : s1.last = s.last + 1 := by rw [hs1]
  have e3 : s1.T = s.T := by rw [hs1]
  have HX : Hid (∀ a n c w' k, RR 93 w' B (.slice a n c) (insT s.T k ⟨t, s.last + 1⟩) → PosT s.T t k → Touch [] w w' → RmE (.returned (.tuple #[.agg #[.int .i64 s.now, .slice a n c, .int .i64 (s.last + 1)], .int .i64 (s.last + 1), .int .i64 0])) w w' B (armS s t) (s.last + 1) 0) := fun a n c w' k h1 h2 ht => by
    have := pos_eq h2
    subst this
    unfold armS
    rw [if_pos he]
    exact ⟨a, n, c, rfl, h1, ht⟩
  have hT : s.T = [] := by
    rcases h.form with ⟨_, hT⟩ | ⟨g, c, e, _⟩
    · exact hT
    · cases e
  · have HV := hid (Bo.mk' w s1 (.slice none 0 0))
    rw [e1, e2] at HV
    obtain ⟨V, hV⟩ : ∃ V, V = (w.alloc (.cells #[.int .i64 s.now, .slice none 0 0, .int .i64 (s.last + 1)] 28)).alloc (.cells #[.int .i64 0, .slice none 0 0, .int .i64 0] 28) := ⟨_, rfl⟩
    rw [← hV] at HV
    have HA := hid (AvS.start HV.out (B := B) (by rw [e3]; exact h))
    have HT := hid hT
    have HS := hid (And.intro e1 (And.intro e2 e3))
    clear h ok hB he hT hs1 e1 e2 e3 hlen
    go_enter Try.func28, Try.ntmps28
    go_wp2
    rw [← hV]
    clear hV
    generalize decide (t < 0) = bb1
    generalize decide (4611686018427387904 < t) = bb2
    generalize (bb1 || bb2) = bb3
    generalize decide (t < s.now) = bb4
    have v1 : V.cell? ⟨w.heap.size, 1, none⟩ = some (.slice none 0 0) := HA.out.b0.c1
    have v2 : V.cell? ⟨w.heap.size, 2, none⟩ = some (.int .i64 (s.last + 1)) := by rw [← HS.out.2.1]; exact HA.out.b0.c2
    have hl0 : w.heap.size < V.heap.size := by have := HA.out.sz; omega
    go_loop [7] (fun i => i = .int .i64 0) (fun i => 0)
    case atStart => rfl
    case round =>
      subst hrel
      have HPos : Hid (PosT s.T t 0) := by
        show PosT _ _ _
        rw [HT.out]
        exact ⟨Nat.le_refl _, fun j hj => by simp at hj, fun h => by omega⟩
      go_upto_region 11 with fail
      go_cut [] from 47 to 64 (fun wx => RaX w wx B s t (insT s.T 0 ⟨t, s.last + 1⟩))
      case first =>
        refine wp_region_G (S := (fun w' => w'.cell? ⟨w.heap.size, 1, none⟩ = some (.slice none 0 0) ∧ w'.cell? ⟨w.heap.size, 2, none⟩ = some (.int .i64 (s.last + 1)))) (st := 18) (by kernel_rfl) ?_
        have hS0 : V.drew.cell? ⟨w.heap.size, 1, none⟩ = some (.slice none 0 0) ∧ V.drew.cell? ⟨w.heap.size, 2, none⟩ = some (.int .i64 (s.last + 1)) := ⟨v1, v2⟩
        refine wpG_take (i := 1) (v := .pointer (some ⟨w.heap.size, 1, none⟩)) (some 48) rfl rfl (by kernel_rfl) (by kernel_rfl) (by kernel_rfl) (by kernel_rfl) (fun _ _ _ h => h) (Or.inl ⟨by rfl, fun w' hS => by obtain ⟨hs1, hs2⟩ := hS; go_simp⟩) hS0 ?_
        try simp only [Act.put, List.setIfInBounds_toArray, List.set_cons_zero, List.set_cons_succ]
        refine wpG_take (i := 2) (v := .slice none 0 0) (some 49) rfl rfl (by kernel_rfl) (by kernel_rfl) (by kernel_rfl) (by kernel_rfl) (fun _ _ _ h => h) (Or.inl ⟨by rfl, fun w' hS => by obtain ⟨hs1, hs2⟩ := hS; go_simp⟩) hS0 ?_
        try simp only [Act.put, List.setIfInBounds_toArray, List.set_cons_zero, List.set_cons_succ]
        refine wpG_take (i := 3) (v := .int .i64 0) (some 50) rfl rfl (by kernel_rfl) (by kernel_rfl) (by kernel_rfl) (by kernel_rfl) (fun _ _ _ h => h) (Or.inl ⟨by rfl, fun w' hS => by obtain ⟨hs1, hs2⟩ := hS; go_simp⟩) hS0 ?_
        try simp only [Act.put, List.setIfInBounds_toArray, List.set_cons_zero, List.set_cons_succ]
        refine wpG_take (i := 4) (v := .slice none 0 0) (some 51) rfl rfl (by kernel_rfl) (by kernel_rfl) (by kernel_rfl) (by kernel_rfl) (fun _ _ _ h => h) (Or.inl ⟨by rfl, fun w' hS => by obtain ⟨hs1, hs2⟩ := hS; go_simp⟩) hS0 ?_
        try simp only [Act.put, List.setIfInBounds_toArray, List.set_cons_zero, List.set_cons_succ]
        refine wpG_take (i := 6) (v := .pointer (some ⟨w.heap.size, 2, none⟩)) (some 53) rfl rfl (by kernel_rfl) (by kernel_rfl) (by kernel_rfl) (by kernel_rfl) (fun _ _ _ h => h) (Or.inl ⟨by rfl, fun w' hS => by obtain ⟨hs1, hs2⟩ := hS; go_simp⟩) hS0 ?_
        try simp only [Act.put, List.setIfInBounds_toArray, List.set_cons_zero, List.set_cons_succ]
        refine wpG_take (i := 7) (v := .int .i64 (s.last + 1)) (some 54) rfl rfl (by kernel_rfl) (by kernel_rfl) (by kernel_rfl) (by kernel_rfl) (fun _ _ _ h => h) (Or.inl ⟨by rfl, fun w' hS => by obtain ⟨hs1, hs2⟩ := hS; go_simp⟩) hS0 ?_
        try simp only [Act.put, List.setIfInBounds_toArray, List.set_cons_zero, List.set_cons_succ]
        refine wpG_take (i := 8) (v := .int .i64 t) (some 55) rfl rfl (by kernel_rfl) (by kernel_rfl) (by kernel_rfl) (by kernel_rfl) (fun _ _ _ h => h) (Or.inl ⟨by rfl, fun w' hS => by obtain ⟨hs1, hs2⟩ := hS; go_simp⟩) hS0 ?_
        try simp only [Act.put, List.setIfInBounds_toArray, List.set_cons_zero, List.set_cons_succ]
        refine wpG_take (i := 9) (v := .agg #[.int .i64 (s.last + 1), .int .i64 t]) (some 56) rfl rfl (by kernel_rfl) (by kernel_rfl) (by kernel_rfl) (by kernel_rfl) (fun _ _ _ h => h) (Or.inl ⟨by rfl, fun w' hS => by obtain ⟨hs1, hs2⟩ := hS; go_simp⟩) hS0 ?_
        try simp only [Act.put, List.setIfInBounds_toArray, List.set_cons_zero, List.set_cons_succ]
        refine wpG_take (i := 12) (v := .pointer (some ⟨w.heap.size, 1, none⟩)) (some 59) rfl rfl (by kernel_rfl) (by kernel_rfl) (by kernel_rfl) (by kernel_rfl) (fun _ _ _ h => h) (Or.inl ⟨by rfl, fun w' hS => by obtain ⟨hs1, hs2⟩ := hS; go_simp⟩) hS0 ?_
        try simp only [Act.put, List.setIfInBounds_toArray, List.set_cons_zero, List.set_cons_succ]
        refine wpG_take (i := 13) (v := .slice none 0 0) (some 60) rfl rfl (by kernel_rfl) (by kernel_rfl) (by kernel_rfl) (by kernel_rfl) (fun _ _ _ h => h) (Or.inl ⟨by rfl, fun w' hS => by obtain ⟨hs1, hs2⟩ := hS; go_simp⟩) hS0 ?_
        try simp only [Act.put, List.setIfInBounds_toArray, List.set_cons_zero, List.set_cons_succ]
        refine wpG_take (i := 14) (v := .int .i64 0) (some 61) rfl rfl (by kernel_rfl) (by kernel_rfl) (by kernel_rfl) (by kernel_rfl) (fun _ _ _ h => h) (Or.inl ⟨by rfl, fun w' hS => by obtain ⟨hs1, hs2⟩ := hS; go_simp⟩) hS0 ?_
        try simp only [Act.put, List.setIfInBounds_toArray, List.set_cons_zero, List.set_cons_succ]
        refine wpG_take (i := 15) (v := .slice none 0 0) (some 62) rfl rfl (by kernel_rfl) (by kernel_rfl) (by kernel_rfl) (by kernel_rfl) (fun _ _ _ h => h) (Or.inl ⟨by rfl, fun w' hS => by obtain ⟨hs1, hs2⟩ := hS; go_simp⟩) hS0 ?_
        try simp only [Act.put, List.setIfInBounds_toArray, List.set_cons_zero, List.set_cons_succ]
        have HB1 := hid (HA.out.quiet ((Touch.refl [] V).alloc (.cells #[] 93)).drew)
        have HB2 := hid (HA.out.quiet ((Touch.refl [] V).alloc (.cells #[.int .i64 (s.last + 1), .int .i64 t] 93)).drew)
        have HB3 := hid (HA.out.quiet (((Touch.refl [] V).alloc (.cells #[] 93)).alloc (.cells #[.int .i64 (s.last + 1), .int .i64 t] 93)).drew)
        have HB4 := hid (HA.out.quiet (((Touch.refl [] V).alloc (.cells #[.int .i64 (s.last + 1), .int .i64 t] 93)).alloc (.cells #[] 93)).drew)
        refine wpG_ready (rs := [0, 10]) (by kernel_rfl) (by simp) (AllG.cons (o := { dst := some 47, op := Op.buildSlice 26 0 #[], type := 26, pos := "ref.go:44", after := #[], guard := none }) rfl (fun K' hK => ?_) (AllG.cons (o := { dst := some 57, op := Op.buildSlice 26 1 #[(0, Operand.tmp 56)], type := 26, pos := "ref.go:44", after := #[{ on := 9, ground := Ground.data }], guard := none }) rfl (fun K' hK => ?_) AllG.nil))
        · rw [if_pos (by rfl)]
          go_simp
          refine hK.out _ _ (fun _ => ⟨HB1.out.b0.c1, HB1.out.b0.c2.trans (by rw [HS.out.2.1])⟩) ?_
          clear hK
          try simp only [Act.put, List.setIfInBounds_toArray, List.set_cons_zero, List.set_cons_succ]
          refine wpG_ready (rs := [5, 10]) (by kernel_rfl) (by simp) (AllG.cons rfl (fun K' hK => ?_) (AllG.cons (o := { dst := some 57, op := Op.buildSlice 26 1 #[(0, Operand.tmp 56)], type := 26, pos := "ref.go:44", after := #[{ on := 9, ground := Ground.data }], guard := none }) rfl (fun K' hK => ?_) AllG.nil))
          · refine step_append_none _ (some 52) rfl (by rfl) (.tmp 47) _ _ (by rfl) V.heap.size 93 i93 2 Try.underlying26 hi _ 0 [] (by rfl) (by rfl) (own_empty (heap_alloc_new V _) (Nat.le_refl _)) ?_
            refine hK.out _ _ (fun _ => ⟨HB1.out.b0.c1, HB1.out.b0.c2.trans (by rw [HS.out.2.1])⟩) ?_
            clear hK
            try simp only [Act.put, List.setIfInBounds_toArray, List.set_cons_zero, List.set_cons_succ]
            refine wpG_ready (rs := [10]) (by kernel_rfl) (by simp) (AllG.cons (o := { dst := some 57, op := Op.buildSlice 26 1 #[(0, Operand.tmp 56)], type := 26, pos := "ref.go:44", after := #[{ on := 9, ground := Ground.data }], guard := none }) rfl (fun K' hK => ?_) AllG.nil)
            rw [if_pos (by rfl)]
            go_simp
            refine hK.out _ _ (fun _ => ⟨HB3.out.b0.c1, HB3.out.b0.c2.trans (by rw [HS.out.2.1])⟩) ?_
            clear hK
            try simp only [Act.put, List.setIfInBounds_toArray, List.set_cons_zero, List.set_cons_succ]
            refine wpG_ready (rs := [11]) (by kernel_rfl) (by simp) (AllG.cons rfl (fun K' hK => ?_) AllG.nil)
            refine step_append_dst _ (some 58) rfl (by rfl) (.tmp 52) _ _ (by rfl) V.heap.size 93 i93 (.agg #[.int .i64 0, .int .i64 0]) 2 16 Try.underlying26 hi hz0 hz1 hz2 (by rfl) (by decide) _ 0 [] (by rfl) (own_empty (two_a V _ _).1 (Nat.le_refl _)) _ 1 1 [.int .i64 (s.last + 1), .int .i64 t] (by rfl) (by rfl) (cell_of_block (two_a V _ _).2) (by simp [Value.oneCell']) (by unfold maxLen; omega) (by omega) (by simp; omega) ?_
            intro v4 w4 hown4 hgrow4 hnil4
            clear hnil4
            simp only [Nat.zero_add, List.nil_append] at hown4
            obtain ⟨a4, c4, rfl⟩ := own_form hown4
            have T4 : Hid (Touch [] V w4) := ((((Touch.refl _ _).alloc _).alloc _).drew).grown hgrow4 (fun k hk => Or.inr (by have e : some V.heap.size = some k := hk; cases e; exact Nat.le_refl _))
            clear hgrow4
            have HA4 := hid (HA.out.quiet T4.out)
            refine hK.out _ _ (fun _ => ⟨HA4.out.b0.c1, HA4.out.b0.c2.trans (by rw [HS.out.2.1])⟩) ?_
            clear hK
            try simp only [Act.put, List.setIfInBounds_toArray, List.set_cons_zero, List.set_cons_succ]
            refine wpG_ready (rs := [16]) (by kernel_rfl) (by simp) (AllG.cons rfl (fun K' hK => ?_) AllG.nil)
            refine step_append_none _ (some 63) rfl (by rfl) (.tmp 58) _ _ (by rfl) V.heap.size 93 i93 2 Try.underlying26 hi _ _ _ (by rfl) (by rfl) hown4 ?_
            refine hK.out _ _ (fun _ => ⟨HA4.out.b0.c1, HA4.out.b0.c2.trans (by rw [HS.out.2.1])⟩) ?_
            clear hK
            try simp only [Act.put, List.setIfInBounds_toArray, List.set_cons_zero, List.set_cons_succ]
            refine wpG_take (i := 17) (v := .pointer (some ⟨w.heap.size, 1, none⟩)) (some 64) rfl rfl (by kernel_rfl) (by kernel_rfl) (by kernel_rfl) (by kernel_rfl) (fun _ _ _ h => h) (Or.inl ⟨by rfl, fun w' hS => by obtain ⟨hs1, hs2⟩ := hS; go_simp⟩) ⟨HA4.out.b0.c1, HA4.out.b0.c2.trans (by rw [HS.out.2.1])⟩ ?_
            try simp only [Act.put, List.setIfInBounds_toArray, List.set_cons_zero, List.set_cons_succ]
            refine wpG_ready (rs := [18]) (by kernel_rfl) (by simp) (AllG.cons (o := { dst := none, op := Op.store 26 (Operand.tmp 64) (Operand.tmp 63), type := 0, pos := "ref.go:44", after := #[{ on := 17, ground := Ground.data }, { on := 16, ground := Ground.data }, { on := 16, ground := Ground.chain }, { on := 0, ground := Ground.phase }, { on := 1, ground := Ground.phase }, { on := 2, ground := Ground.phase }, { on := 3, ground := Ground.phase }, { on := 4, ground := Ground.phase }, { on := 5, ground := Ground.phase }, { on := 6, ground := Ground.phase }, { on := 7, ground := Ground.phase }, { on := 8, ground := Ground.phase }, { on := 9, ground := Ground.phase }, { on := 10, ground := Ground.phase }, { on := 11, ground := Ground.phase }, { on := 12, ground := Ground.phase }, { on := 13, ground := Ground.phase }, { on := 14, ground := Ground.phase }, { on := 15, ground := Ground.phase }, { on := 16, ground := Ground.phase }], guard := none }) rfl (fun K' hK => ?_) AllG.nil)
            have k51 := HA4.out.b0.c1
            have k5f := HA4.out.b0.fr 1
            rw [if_pos (by rfl)]
            go_simp
            refine hK.out _ _ (fun h => absurd rfl h) ?_
            try simp only [Act.put, List.setIfInBounds_toArray, List.set_cons_zero, List.set_cons_succ]
            refine wpG_done (by kernel_rfl) ?_ _
            go_wp2_with fail
            go_meet
            refine RaX.of HA4.out HS.out.1 HS.out.2.1 HA.out.sz HB.out (by rw [flatT_ins, HT.out]; exact hown4) ?_
            rw [HT.out]; rfl
          · rw [if_pos (by rfl)]
            go_simp
            refine hK.out _ _ (fun _ => ⟨HB3.out.b0.c1, HB3.out.b0.c2.trans (by rw [HS.out.2.1])⟩) ?_
            clear hK
            try simp only [Act.put, List.setIfInBounds_toArray, List.set_cons_zero, List.set_cons_succ]
            refine wpG_ready (rs := [5]) (by kernel_rfl) (by simp) (AllG.cons rfl (fun K' hK => ?_) AllG.nil)
            refine step_append_none _ (some 52) rfl (by rfl) (.tmp 47) _ _ (by rfl) V.heap.size 93 i93 2 Try.underlying26 hi _ 0 [] (by rfl) (by rfl) (own_empty (two_a V _ _).1 (Nat.le_refl _)) ?_
            refine hK.out _ _ (fun _ => ⟨HB3.out.b0.c1, HB3.out.b0.c2.trans (by rw [HS.out.2.1])⟩) ?_
            clear hK
            try simp only [Act.put, List.setIfInBounds_toArray, List.set_cons_zero, List.set_cons_succ]
            refine wpG_ready (rs := [11]) (by kernel_rfl) (by simp) (AllG.cons rfl (fun K' hK => ?_) AllG.nil)
            refine step_append_dst _ (some 58) rfl (by rfl) (.tmp 52) _ _ (by rfl) V.heap.size 93 i93 (.agg #[.int .i64 0, .int .i64 0]) 2 16 Try.underlying26 hi hz0 hz1 hz2 (by rfl) (by decide) _ 0 [] (by rfl) (own_empty (two_a V _ _).1 (Nat.le_refl _)) _ 1 1 [.int .i64 (s.last + 1), .int .i64 t] (by rfl) (by rfl) (cell_of_block (two_a V _ _).2) (by simp [Value.oneCell']) (by unfold maxLen; omega) (by omega) (by simp; omega) ?_
            intro v4 w4 hown4 hgrow4 hnil4
            clear hnil4
            simp only [Nat.zero_add, List.nil_append] at hown4
            obtain ⟨a4, c4, rfl⟩ := own_form hown4
            have T4 : Hid (Touch [] V w4) := ((((Touch.refl _ _).alloc _).alloc _).drew).grown hgrow4 (fun k hk => Or.inr (by have e : some V.heap.size = some k := hk; cases e; exact Nat.le_refl _))
            clear hgrow4
            have HA4 := hid (HA.out.quiet T4.out)
            refine hK.out _ _ (fun _ => ⟨HA4.out.b0.c1, HA4.out.b0.c2.trans (by rw [HS.out.2.1])⟩) ?_
            clear hK
            try simp only [Act.put, List.setIfInBounds_toArray, List.set_cons_zero, List.set_cons_succ]
            refine wpG_ready (rs := [16]) (by kernel_rfl) (by simp) (AllG.cons rfl (fun K' hK => ?_) AllG.nil)
            refine step_append_none _ (some 63) rfl (by rfl) (.tmp 58) _ _ (by rfl) V.heap.size 93 i93 2 Try.underlying26 hi _ _ _ (by rfl) (by rfl) hown4 ?_
            refine hK.out _ _ (fun _ => ⟨HA4.out.b0.c1, HA4.out.b0.c2.trans (by rw [HS.out.2.1])⟩) ?_
            clear hK
            try simp only [Act.put, List.setIfInBounds_toArray, List.set_cons_zero, List.set_cons_succ]
            refine wpG_take (i := 17) (v := .pointer (some ⟨w.heap.size, 1, none⟩)) (some 64) rfl rfl (by kernel_rfl) (by kernel_rfl) (by kernel_rfl) (by kernel_rfl) (fun _ _ _ h => h) (Or.inl ⟨by rfl, fun w' hS => by obtain ⟨hs1, hs2⟩ := hS; go_simp⟩) ⟨HA4.out.b0.c1, HA4.out.b0.c2.trans (by rw [HS.out.2.1])⟩ ?_
            try simp only [Act.put, List.setIfInBounds_toArray, List.set_cons_zero, List.set_cons_succ]
            refine wpG_ready (rs := [18]) (by kernel_rfl) (by simp) (AllG.cons (o := { dst := none, op := Op.store 26 (Operand.tmp 64) (Operand.tmp 63), type := 0, pos := "ref.go:44", after := #[{ on := 17, ground := Ground.data }, { on := 16, ground := Ground.data }, { on := 16, ground := Ground.chain }, { on := 0, ground := Ground.phase }, { on := 1, ground := Ground.phase }, { on := 2, ground := Ground.phase }, { on := 3, ground := Ground.phase }, { on := 4, ground := Ground.phase }, { on := 5, ground := Ground.phase }, { on := 6, ground := Ground.phase }, { on := 7, ground := Ground.phase }, { on := 8, ground := Ground.phase }, { on := 9, ground := Ground.phase }, { on := 10, ground := Ground.phase }, { on := 11, ground := Ground.phase }, { on := 12, ground := Ground.phase }, { on := 13, ground := Ground.phase }, { on := 14, ground := Ground.phase }, { on := 15, ground := Ground.phase }, { on := 16, ground := Ground.phase }], guard := none }) rfl (fun K' hK => ?_) AllG.nil)
            have k51 := HA4.out.b0.c1
            have k5f := HA4.out.b0.fr 1
            rw [if_pos (by rfl)]
            go_simp
            refine hK.out _ _ (fun h => absurd rfl h) ?_
            try simp only [Act.put, List.setIfInBounds_toArray, List.set_cons_zero, List.set_cons_succ]
            refine wpG_done (by kernel_rfl) ?_ _
            go_wp2_with fail
            go_meet
            refine RaX.of HA4.out HS.out.1 HS.out.2.1 HA.out.sz HB.out (by rw [flatT_ins, HT.out]; exact hown4) ?_
            rw [HT.out]; rfl
        · rw [if_pos (by rfl)]
          go_simp
          refine hK.out _ _ (fun _ => ⟨HB2.out.b0.c1, HB2.out.b0.c2.trans (by rw [HS.out.2.1])⟩) ?_
          clear hK
          try simp only [Act.put, List.setIfInBounds_toArray, List.set_cons_zero, List.set_cons_succ]
          refine wpG_ready (rs := [0]) (by kernel_rfl) (by simp) (AllG.cons (o := { dst := some 47, op := Op.buildSlice 26 0 #[], type := 26, pos := "ref.go:44", after := #[], guard := none }) rfl (fun K' hK => ?_) AllG.nil)
          rw [if_pos (by rfl)]
          go_simp
          refine hK.out _ _ (fun _ => ⟨HB4.out.b0.c1, HB4.out.b0.c2.trans (by rw [HS.out.2.1])⟩) ?_
          clear hK
          try simp only [Act.put, List.setIfInBounds_toArray, List.set_cons_zero, List.set_cons_succ]
          refine wpG_ready (rs := [5]) (by kernel_rfl) (by simp) (AllG.cons rfl (fun K' hK => ?_) AllG.nil)
          refine step_append_none _ (some 52) rfl (by rfl) (.tmp 47) _ _ (by rfl) V.heap.size 93 i93 2 Try.underlying26 hi _ 0 [] (by rfl) (by rfl) (own_empty (two_a V _ _).2 (Nat.le_succ _)) ?_
          refine hK.out _ _ (fun _ => ⟨HB4.out.b0.c1, HB4.out.b0.c2.trans (by rw [HS.out.2.1])⟩) ?_
          clear hK
          try simp only [Act.put, List.setIfInBounds_toArray, List.set_cons_zero, List.set_cons_succ]
          refine wpG_ready (rs := [11]) (by kernel_rfl) (by simp) (AllG.cons rfl (fun K' hK => ?_) AllG.nil)
          refine step_append_dst _ (some 58) rfl (by rfl) (.tmp 52) _ _ (by rfl) V.heap.size 93 i93 (.agg #[.int .i64 0, .int .i64 0]) 2 16 Try.underlying26 hi hz0 hz1 hz2 (by rfl) (by decide) _ 0 [] (by rfl) (own_empty (two_a V _ _).2 (Nat.le_succ _)) _ 1 1 [.int .i64 (s.last + 1), .int .i64 t] (by rfl) (by rfl) (cell_of_block (two_a V _ _).1) (by simp [Value.oneCell']) (by unfold maxLen; omega) (by omega) (by simp; omega) ?_
          intro v4 w4 hown4 hgrow4 hnil4
          clear hnil4
          simp only [Nat.zero_add, List.nil_append] at hown4
          obtain ⟨a4, c4, rfl⟩ := own_form hown4
          have T4 : Hid (Touch [] V w4) := ((((Touch.refl _ _).alloc _).alloc _).drew).grown hgrow4 (fun k hk => Or.inr (by have e : some (V.heap.size + 1) = some k := hk; cases e; exact Nat.le_succ _))
          clear hgrow4
          have HA4 := hid (HA.out.quiet T4.out)
          refine hK.out _ _ (fun _ => ⟨HA4.out.b0.c1, HA4.out.b0.c2.trans (by rw [HS.out.2.1])⟩) ?_
          clear hK
          try simp only [Act.put, List.setIfInBounds_toArray, List.set_cons_zero, List.set_cons_succ]
          refine wpG_ready (rs := [16]) (by kernel_rfl) (by simp) (AllG.cons rfl (fun K' hK => ?_) AllG.nil)
          refine step_append_none _ (some 63) rfl (by rfl) (.tmp 58) _ _ (by rfl) V.heap.size 93 i93 2 Try.underlying26 hi _ _ _ (by rfl) (by rfl) hown4 ?_
          refine hK.out _ _ (fun _ => ⟨HA4.out.b0.c1, HA4.out.b0.c2.trans (by rw [HS.out.2.1])⟩) ?_
          clear hK
          try simp only [Act.put, List.setIfInBounds_toArray, List.set_cons_zero, List.set_cons_succ]
          refine wpG_take (i := 17) (v := .pointer (some ⟨w.heap.size, 1, none⟩)) (some 64) rfl rfl (by kernel_rfl) (by kernel_rfl) (by kernel_rfl) (by kernel_rfl) (fun _ _ _ h => h) (Or.inl ⟨by rfl, fun w' hS => by obtain ⟨hs1, hs2⟩ := hS; go_simp⟩) ⟨HA4.out.b0.c1, HA4.out.b0.c2.trans (by rw [HS.out.2.1])⟩ ?_
          try simp only [Act.put, List.setIfInBounds_toArray, List.set_cons_zero, List.set_cons_succ]
          refine wpG_ready (rs := [18]) (by kernel_rfl) (by simp) (AllG.cons (o := { dst := none, op := Op.store 26 (Operand.tmp 64) (Operand.tmp 63), type := 0, pos := "ref.go:44", after := #[{ on := 17, ground := Ground.data }, { on := 16, ground := Ground.data }, { on := 16, ground := Ground.chain }, { on := 0, ground := Ground.phase }, { on := 1, ground := Ground.phase }, { on := 2, ground := Ground.phase }, { on := 3, ground := Ground.phase }, { on := 4, ground := Ground.phase }, { on := 5, ground := Ground.phase }, { on := 6, ground := Ground.phase }, { on := 7, ground := Ground.phase }, { on := 8, ground := Ground.phase }, { on := 9, ground := Ground.phase }, { on := 10, ground := Ground.phase }, { on := 11, ground := Ground.phase }, { on := 12, ground := Ground.phase }, { on := 13, ground := Ground.phase }, { on := 14, ground := Ground.phase }, { on := 15, ground := Ground.phase }, { on := 16, ground := Ground.phase }], guard := none }) rfl (fun K' hK => ?_) AllG.nil)
          have k51 := HA4.out.b0.c1
          have k5f := HA4.out.b0.fr 1
          rw [if_pos (by rfl)]
          go_simp
          refine hK.out _ _ (fun h => absurd rfl h) ?_
          try simp only [Act.put, List.setIfInBounds_toArray, List.set_cons_zero, List.set_cons_succ]
          refine wpG_done (by kernel_rfl) ?_ _
          go_wp2_with fail
          go_meet
          refine RaX.of HA4.out HS.out.1 HS.out.2.1 HA.out.sz HB.out (by rw [flatT_ins, HT.out]; exact hown4) ?_
          rw [HT.out]; rfl
      case rest =>
        clear HA HV v1 v2
        obtain ⟨aw, nw, cw, wb0, wb1, wrr, wt⟩ := hcut
        have HW := hid (And.intro wb0 (And.intro wb1 (And.intro wrr wt)))
        have q0 := wb0.c0
        have q1 := wb0.c1
        have q2 := wb0.c2
        have r0 := wb1.c0
        have r1 := wb1.c1
        have r2 := wb1.c2
        have rf := wb1.fr
        clear wb0 wb1 wrr wt
        go_wp2
        go_region
        all_goals go_wp2
        all_goals
          refine bodyPost_ret (v := .tuple #[.agg #[.int .i64 s.now, .slice aw nw cw, .int .i64 (s.last + 1)], .int .i64 (s.last + 1), .int .i64 0]) (by simp [results, Try.results28, go_sem, r0, r1, r2]) rfl (HX.out _ _ _ _ 0 ?_ HPos.out ?_)
          · exact (HW.out.2.2.1.keep (rax_touch HW.out.2.2.2 _ _ _).1 (rax_row HW.out.1 HW.out.2.1 HW.out.2.2.1))
          · exact (rax_touch HW.out.2.2.2 _ _ _).2
end
end Go.Proofs.Ytaioegefoiabhaa
