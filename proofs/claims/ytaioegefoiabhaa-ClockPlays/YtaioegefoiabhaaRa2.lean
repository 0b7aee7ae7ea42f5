/- The document's Arm where timers are armed: the new one behind all, and no room left. -/
import Derived.Test.YtaioegefoiabhaaRax
import Derived.Test.YtaioegefoiabhaaHlt
import Derived.Deep.CutRange
import Derived.Deep.CutBlock
namespace Go.Proofs.Ytaioegefoiabhaa
open Go.RowKit Go.Maps Go.ChangeMaps
set_option linter.unusedVariables false
set_option linter.unusedSimpArgs false
section
variable (w : World) (B : Nat) (s : Cs) (t : Int) (g c : Nat)
set_option maxHeartbeats 4000000 in
set_option maxRecDepth 100000 in
theorem rarm_cap (n : Nat) (h : RR 93 w B (.slice (some ⟨g, 0, none⟩) s.T.length c) s.T) (hpos : PosT s.T t n) (hcn : n = c) (ok : Ok s) (hB : B ≤ w.heap.size) (hl : s.last < 4611686018427387904) (he : armE s t = 0) :
    Calls Try.prog 28 #[.agg #[.int .i64 s.now, .slice (some ⟨g, 0, none⟩) s.T.length c, .int .i64 s.last], .int .i64 t] w fun e w' => RmE e w w' B (armS s t) (s.last + 1) 0 := by
  obtain ⟨i93, hi, hz0, hz1, hz2⟩ := info_parts info93
  obtain ⟨⟨t0, t1⟩, tn, hlen⟩ := armE_ok he
  have l0 := ok.l0
  have HB := hid hB
  obtain ⟨s1, hs1⟩ : ∃ s1 : Cs, s1 = ⟨s.now, s.last + 1, s.T⟩ := ⟨_, rfl⟩
  have e1 : s1.now = s.now := by rw [hs1]
  have e2 : s1.last = s.last + 1 := by rw [hs1]
  have e3 : s1.T = s.T := by rw [hs1]
  have HX : Hid (∀ a n c w' k, RR 93 w' B (.slice a n c) (insT s.T k ⟨t, s.last + 1⟩) → PosT s.T t k → Touch [] w w' → RmE (.returned (.tuple #[.agg #[.int .i64 s.now, .slice a n c, .int .i64 (s.last + 1)], .int .i64 (s.last + 1), .int .i64 0])) w w' B (armS s t) (s.last + 1) 0) := fun a n c w' k h1 h2 ht => by
    have := pos_eq h2
    subst this
    unfold armS
    rw [if_pos he]
    exact ⟨a, n, c, rfl, h1, ht⟩
  obtain ⟨hc, hm⟩ : s.T.length ≤ c ∧ c ≤ maxLen := by
    rcases h.form with ⟨e, _⟩ | ⟨g', c', e, h1, h2⟩
    · cases e
    · injection e with e4 e5 e6
      subst e6
      exact ⟨h1, h2⟩
  have HR0 := hid h
  have HPos := hid hpos
  obtain ⟨N, hN⟩ : ∃ N, N = s.T.length := ⟨_, rfl⟩
  have HN := hid hN
  rw [← hN] at hc hlen HR0 ⊢
  have HV := hid (Bo.mk' w s1 (.slice (some ⟨g, 0, none⟩) N c))
  rw [e1, e2] at HV
  obtain ⟨V, hV⟩ : ∃ V, V = (w.alloc (.cells #[.int .i64 s.now, .slice (some ⟨g, 0, none⟩) N c, .int .i64 (s.last + 1)] 28)).alloc (.cells #[.int .i64 0, .slice none 0 0, .int .i64 0] 28) := ⟨_, rfl⟩
  rw [← hV] at HV
  have HA : Hid (AvS w V (.slice (some ⟨g, 0, none⟩) N c) s1 B) := AvS.start HV.out (by rw [e3]; exact HR0.out)
  have HS := hid (And.intro e1 (And.intro e2 e3))
  have HLe := hid hlen
  have hnN : n ≤ N := by rw [hN]; exact hpos.1
  have zl : (N : Int) < 65536 := by omega
  have zc : (N : Int) ≤ (c : Int) := by omega
  have zm : (c : Int) ≤ 9223372036854775807 := by unfold maxLen at hm; omega
  clear h ok hB he hs1 e1 e2 e3 hN HR0 hm hpos hlen
  generalize hNI : (N : Int) = NI at *
  have HCN := hid hcn
  clear hcn
  have v1 : V.cell? ⟨w.heap.size, 1, none⟩ = some (.slice (some ⟨g, 0, none⟩) N c) := HA.out.b0.c1
  have v2 : V.cell? ⟨w.heap.size, 2, none⟩ = some (.int .i64 (s.last + 1)) := by rw [← HS.out.2.1]; exact HA.out.b0.c2
  have hl0 : w.heap.size < V.heap.size := by have := HA.out.sz; omega
  have HRr : Hid (RR 93 V B (.slice (some ⟨g, 0, none⟩) N c) s.T) := by have := HA.out.rw_; rw [HS.out.2.2] at this; exact this
  go_enter Try.func28, Try.ntmps28
  go_upto_block 0 with fail
  rw [← hV]
  clear hV
  generalize decide (t < 0) = bb1
  generalize decide (4611686018427387904 < t) = bb2
  generalize (bb1 || bb2) = bb3
  generalize decide (t < s.now) = bb4
  generalize decide (65536 ≤ NI) = bb5
  go_cut [7] from 32 to 46 (fun s7 wx => s7 = .int .i64 (n : Int) ∧ wx = V)
  case first =>
    go_wp2_with fail
    go_loop [7] (fun i => ∃ k : Nat, i = .int .i64 k ∧ n ≤ k ∧ k ≤ N) (fun i => (intOf i).toNat)
    case atStart => exact ⟨N, by rw [hNI], hnN, Nat.le_refl _⟩
    case round =>
      obtain ⟨k, rfl, hk1, hk2⟩ := hrel
      by_cases hkn : n < k
      · obtain ⟨j, rfl⟩ : ∃ j, k = j + 1 := ⟨k - 1, by omega⟩
        have ej : ((j + 1 : Nat) : Int) - 1 = (j : Int) := by omega
        have zj : (j : Int) < NI := by omega
        have zp : (0 : Int) < ((j + 1 : Nat) : Int) := by omega
        obtain ⟨g', eg, eN, yy0, yy1⟩ := HRr.out.cells (k := j) (by have := HN.out; omega)
        simp only [Option.some.injEq, Addr.mk.injEq, and_true] at eg
        subst eg
        clear eN
        have hgt := HPos.out.2.1 j (by have := HN.out; omega) (by omega)
        generalize gtT s.T j = x at *
        go_wp2
        go_round
        case rel => exact ⟨j, rfl, by omega, by omega⟩
        case measure => simp [intOf]
      · have ek : k = n := by omega
        subst ek
        rcases Nat.eq_zero_or_pos k with rfl | hk0
        · go_wp2
          go_meet
          case rel => exact ⟨rfl, rfl⟩
        · obtain ⟨j, rfl⟩ : ∃ j, k = j + 1 := ⟨k - 1, by omega⟩
          have ej : ((j + 1 : Nat) : Int) - 1 = (j : Int) := by omega
          have zj : (j : Int) < NI := by omega
          have zp : (0 : Int) < ((j + 1 : Nat) : Int) := by omega
          obtain ⟨g', eg, eN, yy0, yy1⟩ := HRr.out.cells (k := j) (by have := HN.out; omega)
          simp only [Option.some.injEq, Addr.mk.injEq, and_true] at eg
          subst eg
          clear eN
          have hle := HPos.out.2.2 (by omega)
          rw [Nat.add_sub_cancel] at hle
          generalize gtT s.T j = x at *
          go_wp2
          go_meet
          case rel => exact ⟨rfl, rfl⟩
  case rest =>
    obtain ⟨rfl, rfl⟩ := hcut
    have zn1 : (n : Int) ≤ NI := by omega
    have zn2 : (n : Int) ≤ (c : Int) := by have := hc; omega
    have hcn := HCN.out
    have hNn : n = N := by omega
    have HDr : Hid (s.T.drop n = []) := List.drop_of_length_le (by have := HN.out; omega)
    subst hcn
    subst hNn
    subst hNI
    have HL1 : Hid ((flatT (s.T.take n)).length = n * 2) := by show _ = _; rw [flatT_len, List.length_take, Nat.min_eq_left (by have := HN.out; omega)]
    have HL2 : Hid ((flatT (s.T.drop n)).length = (n - n) * 2) := by show _ = _; rw [flatT_len, List.length_drop, ← HN.out]
    have HnN := hid hnN
    go_upto_region 11 with fail
    go_cut [] from 47 to 64 (fun wx => RaX w wx B s t (insT s.T n ⟨t, s.last + 1⟩))
    case first =>
      refine wp_region_G (S := (fun w' => w'.cell? ⟨w.heap.size, 1, none⟩ = some (.slice (some ⟨g, 0, none⟩) n n) ∧ w'.cell? ⟨w.heap.size, 2, none⟩ = some (.int .i64 (s.last + 1)))) (st := 18) (by kernel_rfl) ?_
      have hS0 : wc.drew.cell? ⟨w.heap.size, 1, none⟩ = some (.slice (some ⟨g, 0, none⟩) n n) ∧ wc.drew.cell? ⟨w.heap.size, 2, none⟩ = some (.int .i64 (s.last + 1)) := ⟨v1, v2⟩
      refine wpG_take (i := 1) (v := .pointer (some ⟨w.heap.size, 1, none⟩)) (some 48) rfl rfl (by kernel_rfl) (by kernel_rfl) (by kernel_rfl) (by kernel_rfl) (fun _ _ _ h => h) (Or.inl ⟨by rfl, fun w' hS => by obtain ⟨hs1, hs2⟩ := hS; go_simp⟩) hS0 ?_
      try simp only [Act.put, List.setIfInBounds_toArray, List.set_cons_zero, List.set_cons_succ]
      refine wpG_take (i := 2) (v := .slice (some ⟨g, 0, none⟩) n n) (some 49) rfl rfl (by kernel_rfl) (by kernel_rfl) (by kernel_rfl) (by kernel_rfl) (fun _ _ _ h => h) (Or.inl ⟨by rfl, fun w' hS => by obtain ⟨hs1, hs2⟩ := hS; go_simp⟩) hS0 ?_
      try simp only [Act.put, List.setIfInBounds_toArray, List.set_cons_zero, List.set_cons_succ]
      refine wpG_take (i := 3) (v := .int .i64 (n : Int)) (some 50) rfl rfl (by kernel_rfl) (by kernel_rfl) (by kernel_rfl) (by kernel_rfl) (fun _ _ _ h => h) (Or.inl ⟨by rfl, fun w' hS => by obtain ⟨hs1, hs2⟩ := hS; go_simp⟩) hS0 ?_
      try simp only [Act.put, List.setIfInBounds_toArray, List.set_cons_zero, List.set_cons_succ]
      refine wpG_take (i := 4) (v := .slice (some ⟨g, 0, none⟩) n n) (some 51) rfl rfl (by kernel_rfl) (by kernel_rfl) (by kernel_rfl) (by kernel_rfl) (fun _ _ _ h => h) (Or.inl ⟨by rfl, fun w' hS => by obtain ⟨hs1, hs2⟩ := hS; go_simp⟩) hS0 ?_
      try simp only [Act.put, List.setIfInBounds_toArray, List.set_cons_zero, List.set_cons_succ]
      refine wpG_take (i := 6) (v := .pointer (some ⟨w.heap.size, 2, none⟩)) (some 53) rfl rfl (by kernel_rfl) (by kernel_rfl) (by kernel_rfl) (by kernel_rfl) (fun _ _ _ h => h) (Or.inl ⟨by rfl, fun w' hS => by obtain ⟨hs1, hs2⟩ := hS; go_simp⟩) hS0 ?_
      try simp only [Act.put, List.setIfInBounds_toArray, List.set_cons_zero, List.set_cons_succ]
      refine wpG_take (i := 7) (v := .int .i64 (s.last + 1)) (some 54) rfl rfl (by kernel_rfl) (by kernel_rfl) (by kernel_rfl) (by kernel_rfl) (fun _ _ _ h => h) (Or.inl ⟨by rfl, fun w' hS => by obtain ⟨hs1, hs2⟩ := hS; go_simp⟩) hS0 ?_
      try simp only [Act.put, List.setIfInBounds_toArray, List.set_cons_zero, List.set_cons_succ]
      refine wpG_take (i := 8) (v := .int .i64 t) (some 55) rfl rfl (by kernel_rfl) (by kernel_rfl) (by kernel_rfl) (by kernel_rfl) (fun _ _ _ h => h) (Or.inl ⟨by rfl, fun w' hS => by obtain ⟨hs1, hs2⟩ := hS; go_simp⟩) hS0 ?_
      try simp only [Act.put, List.setIfInBounds_toArray, List.set_cons_zero, List.set_cons_succ]
      refine wpG_take (i := 9) (v := .agg #[.int .i64 (s.last + 1), .int .i64 t]) (some 56) rfl rfl (by kernel_rfl) (by kernel_rfl) (by kernel_rfl) (by kernel_rfl) (fun _ _ _ h => h) (Or.inl ⟨by rfl, fun w' hS => by obtain ⟨hs1, hs2⟩ := hS; go_simp⟩) hS0 ?_
      try simp only [Act.put, List.setIfInBounds_toArray, List.set_cons_zero, List.set_cons_succ]
      refine wpG_take (i := 12) (v := .pointer (some ⟨w.heap.size, 1, none⟩)) (some 59) rfl rfl (by kernel_rfl) (by kernel_rfl) (by kernel_rfl) (by kernel_rfl) (fun _ _ _ h => h) (Or.inl ⟨by rfl, fun w' hS => by obtain ⟨hs1, hs2⟩ := hS; go_simp⟩) hS0 ?_
      try simp only [Act.put, List.setIfInBounds_toArray, List.set_cons_zero, List.set_cons_succ]
      refine wpG_take (i := 13) (v := .slice (some ⟨g, 0, none⟩) n n) (some 60) rfl rfl (by kernel_rfl) (by kernel_rfl) (by kernel_rfl) (by kernel_rfl) (fun _ _ _ h => h) (Or.inl ⟨by rfl, fun w' hS => by obtain ⟨hs1, hs2⟩ := hS; go_simp⟩) hS0 ?_
      try simp only [Act.put, List.setIfInBounds_toArray, List.set_cons_zero, List.set_cons_succ]
      refine wpG_take (i := 14) (v := .int .i64 (n : Int)) (some 61) rfl rfl (by kernel_rfl) (by kernel_rfl) (by kernel_rfl) (by kernel_rfl) (fun _ _ _ h => h) (Or.inl ⟨by rfl, fun w' hS => by obtain ⟨hs1, hs2⟩ := hS; go_simp⟩) hS0 ?_
      try simp only [Act.put, List.setIfInBounds_toArray, List.set_cons_zero, List.set_cons_succ]
      refine wpG_take (i := 15) (v := .slice (some ⟨g, 0, none⟩) 0 0) (some 62) rfl rfl (by kernel_rfl) (by kernel_rfl) (by kernel_rfl) (by kernel_rfl) (fun _ _ _ h => h) (Or.inl ⟨by rfl, fun w' hS => by obtain ⟨hs1, hs2⟩ := hS; go_simp⟩) hS0 ?_
      try simp only [Act.put, List.setIfInBounds_toArray, List.set_cons_zero, List.set_cons_succ]
      have HB1 := hid (HA.out.quiet ((Touch.refl [] wc).alloc (.cells #[] 93)).drew)
      have HB2 := hid (HA.out.quiet ((Touch.refl [] wc).alloc (.cells #[.int .i64 (s.last + 1), .int .i64 t] 93)).drew)
      have HB3 := hid (HA.out.quiet (((Touch.refl [] wc).alloc (.cells #[] 93)).alloc (.cells #[.int .i64 (s.last + 1), .int .i64 t] 93)).drew)
      have HB4 := hid (HA.out.quiet (((Touch.refl [] wc).alloc (.cells #[.int .i64 (s.last + 1), .int .i64 t] 93)).alloc (.cells #[] 93)).drew)
      refine wpG_ready (rs := [0, 10]) (by kernel_rfl) (by simp) (AllG.cons (o := { dst := some 47, op := Op.buildSlice 26 0 #[], type := 26, pos := "ref.go:44", after := #[], guard := none }) rfl (fun K' hK => ?_) (AllG.cons (o := { dst := some 57, op := Op.buildSlice 26 1 #[(0, Operand.tmp 56)], type := 26, pos := "ref.go:44", after := #[{ on := 9, ground := Ground.data }], guard := none }) rfl (fun K' hK => ?_) AllG.nil))
      · rw [if_pos (by rfl)]
        go_simp
        refine hK.out _ _ (fun _ => ⟨HB1.out.b0.c1, HB1.out.b0.c2.trans (by rw [HS.out.2.1])⟩) ?_
        clear hK
        try simp only [Act.put, List.setIfInBounds_toArray, List.set_cons_zero, List.set_cons_succ]
        refine wpG_ready (rs := [5, 10]) (by kernel_rfl) (by simp) (AllG.cons rfl (fun K' hK => ?_) (AllG.cons (o := { dst := some 57, op := Op.buildSlice 26 1 #[(0, Operand.tmp 56)], type := 26, pos := "ref.go:44", after := #[{ on := 9, ground := Ground.data }], guard := none }) rfl (fun K' hK => ?_) AllG.nil))
        · refine step_append_dst _ (some 52) rfl (by rfl) (.tmp 47) _ _ (by rfl) wc.heap.size 93 i93 (.agg #[.int .i64 0, .int .i64 0]) 2 16 Try.underlying26 hi hz0 hz1 hz2 (by rfl) (by decide) _ 0 [] (by rfl) (own_empty (heap_alloc_new wc _) (Nat.le_refl _)) ⟨g, 0, none⟩ n n (flatT (s.T.take n)) (by rfl) HL1.out (HRr.out.newsT HN.out n _ ((Touch.refl _ _).alloc _).drew) (one_flatT _) (by have := HLe.out; have := HnN.out; unfold maxLen; omega) (by have := HLe.out; have := HnN.out; omega) (by simp) ?_
          intro v3 w3 hown3 hgrow3 hnil3
          clear hnil3
          simp only [Nat.zero_add, List.nil_append] at hown3
          obtain ⟨a3, c3, rfl⟩ := own_form hown3
          have T3 : Hid (Touch [] wc w3) := (((Touch.refl _ _).alloc _).drew).grown hgrow3 (fun k hk => Or.inr (by have e : some wc.heap.size = some k := hk; cases e; exact Nat.le_refl _))
          have HA3 := hid (HA.out.quiet T3.out)
          clear hgrow3
          refine hK.out _ _ (fun _ => ⟨HA3.out.b0.c1, HA3.out.b0.c2.trans (by rw [HS.out.2.1])⟩) ?_
          clear hK
          try simp only [Act.put, List.setIfInBounds_toArray, List.set_cons_zero, List.set_cons_succ]
          refine wpG_ready (rs := [10]) (by kernel_rfl) (by simp) (AllG.cons (o := { dst := some 57, op := Op.buildSlice 26 1 #[(0, Operand.tmp 56)], type := 26, pos := "ref.go:44", after := #[{ on := 9, ground := Ground.data }], guard := none }) rfl (fun K' hK => ?_) AllG.nil)
          have HB5 := hid (HA.out.quiet (T3.out.alloc (.cells #[.int .i64 (s.last + 1), .int .i64 t] 93)))
          rw [if_pos (by rfl)]
          go_simp
          refine hK.out _ _ (fun _ => ⟨HB5.out.b0.c1, HB5.out.b0.c2.trans (by rw [HS.out.2.1])⟩) ?_
          clear hK
          try simp only [Act.put, List.setIfInBounds_toArray, List.set_cons_zero, List.set_cons_succ]
          refine wpG_ready (rs := [11]) (by kernel_rfl) (by simp) (AllG.cons rfl (fun K' hK => ?_) AllG.nil)
          refine step_append_dst _ (some 58) rfl (by rfl) (.tmp 52) _ _ (by rfl) wc.heap.size 93 i93 (.agg #[.int .i64 0, .int .i64 0]) 2 16 Try.underlying26 hi hz0 hz1 hz2 (by rfl) (by decide) (.slice a3 n c3) n (flatT (s.T.take n)) (by rfl) (own_touch hown3 ((Touch.refl [] _).alloc _) (fun _ _ e => by cases e)) _ 1 1 [.int .i64 (s.last + 1), .int .i64 t] (by rfl) (by rfl) (cell_of_block (heap_alloc_new w3 _)) (by simp [Value.oneCell']) (by have := HLe.out; have := HnN.out; unfold maxLen; omega) (by have := HLe.out; have := HnN.out; omega) (by have := T3.out.size; simp; omega) ?_
          intro v4 w4 hown4 hgrow4 hnil4
          clear hnil4
          obtain ⟨a4, c4, rfl⟩ := own_form hown4
          have T4 : Hid (Touch [] wc w4) := T3.out.trans (((Touch.refl (Value.slice a3 n c3).ownBlock.toList _).alloc _).grown hgrow4 (fun k hk => Or.inl (by simp [hk]))) (fun k hk => Or.inr (hown3.lt k (Option.mem_toList.1 hk)).1)
          clear hgrow4
          have HA4 := hid (HA.out.quiet T4.out)
          refine hK.out _ _ (fun _ => ⟨HA4.out.b0.c1, HA4.out.b0.c2.trans (by rw [HS.out.2.1])⟩) ?_
          clear hK
          try simp only [Act.put, List.setIfInBounds_toArray, List.set_cons_zero, List.set_cons_succ]
          refine wpG_ready (rs := [16]) (by kernel_rfl) (by simp) (AllG.cons rfl (fun K' hK => ?_) AllG.nil)
          refine step_append_dst _ (some 63) rfl (by rfl) (.tmp 58) _ _ (by rfl) wc.heap.size 93 i93 (.agg #[.int .i64 0, .int .i64 0]) 2 16 Try.underlying26 hi hz0 hz1 hz2 (by rfl) (by decide) (.slice a4 (n + 1) c4) (n + 1) (flatT (s.T.take n) ++ [.int .i64 (s.last + 1), .int .i64 t]) (by rfl) hown4 _ 0 _ [] (by rfl) (by rfl) (fun j u hj => by simp at hj) (fun u hu => by simp at hu) (by have := HLe.out; have := HnN.out; unfold maxLen; omega) (by have := HLe.out; have := HnN.out; omega) T4.out.size ?_
          intro v5 w5 hown5 hgrow5 hnil5
          clear hnil5
          obtain ⟨a5, c5, rfl⟩ := own_form hown5
          have T5 : Hid (Touch [] wc w5) := T4.out.trans ((Touch.refl (Value.slice a4 (n + 1) c4).ownBlock.toList _).grown hgrow5 (fun k hk => Or.inl (by simp [hk]))) (fun k hk => Or.inr (hown4.lt k (Option.mem_toList.1 hk)).1)
          clear hgrow5
          have HA5 := hid (HA.out.quiet T5.out)
          refine hK.out _ _ (fun _ => ⟨HA5.out.b0.c1, HA5.out.b0.c2.trans (by rw [HS.out.2.1])⟩) ?_
          clear hK
          try simp only [Act.put, List.setIfInBounds_toArray, List.set_cons_zero, List.set_cons_succ]
          refine wpG_take (i := 17) (v := .pointer (some ⟨w.heap.size, 1, none⟩)) (some 64) rfl rfl (by kernel_rfl) (by kernel_rfl) (by kernel_rfl) (by kernel_rfl) (fun _ _ _ h => h) (Or.inl ⟨by rfl, fun w' hS => by obtain ⟨hs1, hs2⟩ := hS; go_simp⟩) ⟨HA5.out.b0.c1, HA5.out.b0.c2.trans (by rw [HS.out.2.1])⟩ ?_
          try simp only [Act.put, List.setIfInBounds_toArray, List.set_cons_zero, List.set_cons_succ]
          refine wpG_ready (rs := [18]) (by kernel_rfl) (by simp) (AllG.cons (o := { dst := none, op := Op.store 26 (Operand.tmp 64) (Operand.tmp 63), type := 0, pos := "ref.go:44", after := #[{ on := 17, ground := Ground.data }, { on := 16, ground := Ground.data }, { on := 16, ground := Ground.chain }, { on := 0, ground := Ground.phase }, { on := 1, ground := Ground.phase }, { on := 2, ground := Ground.phase }, { on := 3, ground := Ground.phase }, { on := 4, ground := Ground.phase }, { on := 5, ground := Ground.phase }, { on := 6, ground := Ground.phase }, { on := 7, ground := Ground.phase }, { on := 8, ground := Ground.phase }, { on := 9, ground := Ground.phase }, { on := 10, ground := Ground.phase }, { on := 11, ground := Ground.phase }, { on := 12, ground := Ground.phase }, { on := 13, ground := Ground.phase }, { on := 14, ground := Ground.phase }, { on := 15, ground := Ground.phase }, { on := 16, ground := Ground.phase }], guard := none }) rfl (fun K' hK => ?_) AllG.nil)
          have k51 := HA5.out.b0.c1
          have k5f := HA5.out.b0.fr 1
          rw [if_pos (by rfl)]
          go_simp
          refine hK.out _ _ (fun h => absurd rfl h) ?_
          try simp only [Act.put, List.setIfInBounds_toArray, List.set_cons_zero, List.set_cons_succ]
          refine wpG_done (by kernel_rfl) ?_ _
          go_wp2_with fail
          go_meet
          refine RaX.of HA5.out HS.out.1 HS.out.2.1 HA.out.sz HB.out (by rw [flatT_ins, HDr.out]; simpa [flatT] using hown5) ?_
          rw [insT_len _ (by have := HN.out; have := HnN.out; omega), ← HN.out]
        · rw [if_pos (by rfl)]
          go_simp
          refine hK.out _ _ (fun _ => ⟨HB3.out.b0.c1, HB3.out.b0.c2.trans (by rw [HS.out.2.1])⟩) ?_
          clear hK
          try simp only [Act.put, List.setIfInBounds_toArray, List.set_cons_zero, List.set_cons_succ]
          refine wpG_ready (rs := [5]) (by kernel_rfl) (by simp) (AllG.cons rfl (fun K' hK => ?_) AllG.nil)
          refine step_append_dst _ (some 52) rfl (by rfl) (.tmp 47) _ _ (by rfl) wc.heap.size 93 i93 (.agg #[.int .i64 0, .int .i64 0]) 2 16 Try.underlying26 hi hz0 hz1 hz2 (by rfl) (by decide) _ 0 [] (by rfl) (own_empty (two_a wc _ _).1 (Nat.le_refl _)) ⟨g, 0, none⟩ n n (flatT (s.T.take n)) (by rfl) HL1.out (HRr.out.newsT HN.out n _ (((Touch.refl _ _).alloc _).alloc _).drew) (one_flatT _) (by have := HLe.out; have := HnN.out; unfold maxLen; omega) (by have := HLe.out; have := HnN.out; omega) (by simp; omega) ?_
          intro v3 w3 hown3 hgrow3 hnil3
          clear hnil3
          simp only [Nat.zero_add, List.nil_append] at hown3
          obtain ⟨a3, c3, rfl⟩ := own_form hown3
          have T3 : Hid (Touch [] wc w3) := ((((Touch.refl _ _).alloc _).alloc _).drew).grown hgrow3 (fun k hk => Or.inr (by have e : some wc.heap.size = some k := hk; cases e; exact Nat.le_refl _))
          have HA3 := hid (HA.out.quiet T3.out)
          have hX3 : w3.heap[wc.heap.size + 1]? = some (.cells #[.int .i64 (s.last + 1), .int .i64 t] 93) := ((Touch.refl (Value.slice (some ⟨wc.heap.size, 0, none⟩) 0 0).ownBlock.toList _).grown hgrow3 (fun j hj => Or.inl (by simp [hj]))).keep (two_a wc _ _).2 (by simp [Value.ownBlock])
          clear hgrow3
          refine hK.out _ _ (fun _ => ⟨HA3.out.b0.c1, HA3.out.b0.c2.trans (by rw [HS.out.2.1])⟩) ?_
          clear hK
          try simp only [Act.put, List.setIfInBounds_toArray, List.set_cons_zero, List.set_cons_succ]
          refine wpG_ready (rs := [11]) (by kernel_rfl) (by simp) (AllG.cons rfl (fun K' hK => ?_) AllG.nil)
          refine step_append_dst _ (some 58) rfl (by rfl) (.tmp 52) _ _ (by rfl) wc.heap.size 93 i93 (.agg #[.int .i64 0, .int .i64 0]) 2 16 Try.underlying26 hi hz0 hz1 hz2 (by rfl) (by decide) (.slice a3 n c3) n (flatT (s.T.take n)) (by rfl) hown3 _ 1 1 [.int .i64 (s.last + 1), .int .i64 t] (by rfl) (by rfl) (cell_of_block hX3) (by simp [Value.oneCell']) (by have := HLe.out; have := HnN.out; unfold maxLen; omega) (by have := HLe.out; have := HnN.out; omega) T3.out.size ?_
          intro v4 w4 hown4 hgrow4 hnil4
          clear hnil4
          obtain ⟨a4, c4, rfl⟩ := own_form hown4
          have T4 : Hid (Touch [] wc w4) := T3.out.trans ((Touch.refl (Value.slice a3 n c3).ownBlock.toList _).grown hgrow4 (fun k hk => Or.inl (by simp [hk]))) (fun k hk => Or.inr (hown3.lt k (Option.mem_toList.1 hk)).1)
          clear hgrow4
          have HA4 := hid (HA.out.quiet T4.out)
          refine hK.out _ _ (fun _ => ⟨HA4.out.b0.c1, HA4.out.b0.c2.trans (by rw [HS.out.2.1])⟩) ?_
          clear hK
          try simp only [Act.put, List.setIfInBounds_toArray, List.set_cons_zero, List.set_cons_succ]
          refine wpG_ready (rs := [16]) (by kernel_rfl) (by simp) (AllG.cons rfl (fun K' hK => ?_) AllG.nil)
          refine step_append_dst _ (some 63) rfl (by rfl) (.tmp 58) _ _ (by rfl) wc.heap.size 93 i93 (.agg #[.int .i64 0, .int .i64 0]) 2 16 Try.underlying26 hi hz0 hz1 hz2 (by rfl) (by decide) (.slice a4 (n + 1) c4) (n + 1) (flatT (s.T.take n) ++ [.int .i64 (s.last + 1), .int .i64 t]) (by rfl) hown4 _ 0 _ [] (by rfl) (by rfl) (fun j u hj => by simp at hj) (fun u hu => by simp at hu) (by have := HLe.out; have := HnN.out; unfold maxLen; omega) (by have := HLe.out; have := HnN.out; omega) T4.out.size ?_
          intro v5 w5 hown5 hgrow5 hnil5
          clear hnil5
          obtain ⟨a5, c5, rfl⟩ := own_form hown5
          have T5 : Hid (Touch [] wc w5) := T4.out.trans ((Touch.refl (Value.slice a4 (n + 1) c4).ownBlock.toList _).grown hgrow5 (fun k hk => Or.inl (by simp [hk]))) (fun k hk => Or.inr (hown4.lt k (Option.mem_toList.1 hk)).1)
          clear hgrow5
          have HA5 := hid (HA.out.quiet T5.out)
          refine hK.out _ _ (fun _ => ⟨HA5.out.b0.c1, HA5.out.b0.c2.trans (by rw [HS.out.2.1])⟩) ?_
          clear hK
          try simp only [Act.put, List.setIfInBounds_toArray, List.set_cons_zero, List.set_cons_succ]
          refine wpG_take (i := 17) (v := .pointer (some ⟨w.heap.size, 1, none⟩)) (some 64) rfl rfl (by kernel_rfl) (by kernel_rfl) (by kernel_rfl) (by kernel_rfl) (fun _ _ _ h => h) (Or.inl ⟨by rfl, fun w' hS => by obtain ⟨hs1, hs2⟩ := hS; go_simp⟩) ⟨HA5.out.b0.c1, HA5.out.b0.c2.trans (by rw [HS.out.2.1])⟩ ?_
          try simp only [Act.put, List.setIfInBounds_toArray, List.set_cons_zero, List.set_cons_succ]
          refine wpG_ready (rs := [18]) (by kernel_rfl) (by simp) (AllG.cons (o := { dst := none, op := Op.store 26 (Operand.tmp 64) (Operand.tmp 63), type := 0, pos := "ref.go:44", after := #[{ on := 17, ground := Ground.data }, { on := 16, ground := Ground.data }, { on := 16, ground := Ground.chain }, { on := 0, ground := Ground.phase }, { on := 1, ground := Ground.phase }, { on := 2, ground := Ground.phase }, { on := 3, ground := Ground.phase }, { on := 4, ground := Ground.phase }, { on := 5, ground := Ground.phase }, { on := 6, ground := Ground.phase }, { on := 7, ground := Ground.phase }, { on := 8, ground := Ground.phase }, { on := 9, ground := Ground.phase }, { on := 10, ground := Ground.phase }, { on := 11, ground := Ground.phase }, { on := 12, ground := Ground.phase }, { on := 13, ground := Ground.phase }, { on := 14, ground := Ground.phase }, { on := 15, ground := Ground.phase }, { on := 16, ground := Ground.phase }], guard := none }) rfl (fun K' hK => ?_) AllG.nil)
          have k51 := HA5.out.b0.c1
          have k5f := HA5.out.b0.fr 1
          rw [if_pos (by rfl)]
          go_simp
          refine hK.out _ _ (fun h => absurd rfl h) ?_
          try simp only [Act.put, List.setIfInBounds_toArray, List.set_cons_zero, List.set_cons_succ]
          refine wpG_done (by kernel_rfl) ?_ _
          go_wp2_with fail
          go_meet
          refine RaX.of HA5.out HS.out.1 HS.out.2.1 HA.out.sz HB.out (by rw [flatT_ins, HDr.out]; simpa [flatT] using hown5) ?_
          rw [insT_len _ (by have := HN.out; have := HnN.out; omega), ← HN.out]
      · rw [if_pos (by rfl)]
        go_simp
        refine hK.out _ _ (fun _ => ⟨HB2.out.b0.c1, HB2.out.b0.c2.trans (by rw [HS.out.2.1])⟩) ?_
        clear hK
        try simp only [Act.put, List.setIfInBounds_toArray, List.set_cons_zero, List.set_cons_succ]
        refine wpG_ready (rs := [0]) (by kernel_rfl) (by simp) (AllG.cons (o := { dst := some 47, op := Op.buildSlice 26 0 #[], type := 26, pos := "ref.go:44", after := #[], guard := none }) rfl (fun K' hK => ?_) AllG.nil)
        rw [if_pos (by rfl)]
        go_simp
        refine hK.out _ _ (fun _ => ⟨HB4.out.b0.c1, HB4.out.b0.c2.trans (by rw [HS.out.2.1])⟩) ?_
        clear hK
        try simp only [Act.put, List.setIfInBounds_toArray, List.set_cons_zero, List.set_cons_succ]
        refine wpG_ready (rs := [5]) (by kernel_rfl) (by simp) (AllG.cons rfl (fun K' hK => ?_) AllG.nil)
        refine step_append_dst _ (some 52) rfl (by rfl) (.tmp 47) _ _ (by rfl) wc.heap.size 93 i93 (.agg #[.int .i64 0, .int .i64 0]) 2 16 Try.underlying26 hi hz0 hz1 hz2 (by rfl) (by decide) _ 0 [] (by rfl) (own_empty (two_a wc _ _).2 (Nat.le_succ _)) ⟨g, 0, none⟩ n n (flatT (s.T.take n)) (by rfl) HL1.out (HRr.out.newsT HN.out n _ (((Touch.refl _ _).alloc _).alloc _).drew) (one_flatT _) (by have := HLe.out; have := HnN.out; unfold maxLen; omega) (by have := HLe.out; have := HnN.out; omega) (by simp; omega) ?_
        intro v3 w3 hown3 hgrow3 hnil3
        clear hnil3
        simp only [Nat.zero_add, List.nil_append] at hown3
        obtain ⟨a3, c3, rfl⟩ := own_form hown3
        have T3 : Hid (Touch [] wc w3) := ((((Touch.refl _ _).alloc _).alloc _).drew).grown hgrow3 (fun k hk => Or.inr (by have e : some (wc.heap.size + 1) = some k := hk; cases e; exact Nat.le_succ _))
        have HA3 := hid (HA.out.quiet T3.out)
        have hX3 : w3.heap[wc.heap.size]? = some (.cells #[.int .i64 (s.last + 1), .int .i64 t] 93) := ((Touch.refl (Value.slice (some ⟨wc.heap.size + 1, 0, none⟩) 0 0).ownBlock.toList _).grown hgrow3 (fun j hj => Or.inl (by simp [hj]))).keep (two_a wc _ _).1 (by simp [Value.ownBlock])
        clear hgrow3
        refine hK.out _ _ (fun _ => ⟨HA3.out.b0.c1, HA3.out.b0.c2.trans (by rw [HS.out.2.1])⟩) ?_
        clear hK
        try simp only [Act.put, List.setIfInBounds_toArray, List.set_cons_zero, List.set_cons_succ]
        refine wpG_ready (rs := [11]) (by kernel_rfl) (by simp) (AllG.cons rfl (fun K' hK => ?_) AllG.nil)
        refine step_append_dst _ (some 58) rfl (by rfl) (.tmp 52) _ _ (by rfl) wc.heap.size 93 i93 (.agg #[.int .i64 0, .int .i64 0]) 2 16 Try.underlying26 hi hz0 hz1 hz2 (by rfl) (by decide) (.slice a3 n c3) n (flatT (s.T.take n)) (by rfl) hown3 _ 1 1 [.int .i64 (s.last + 1), .int .i64 t] (by rfl) (by rfl) (cell_of_block hX3) (by simp [Value.oneCell']) (by have := HLe.out; have := HnN.out; unfold maxLen; omega) (by have := HLe.out; have := HnN.out; omega) T3.out.size ?_
        intro v4 w4 hown4 hgrow4 hnil4
        clear hnil4
        obtain ⟨a4, c4, rfl⟩ := own_form hown4
        have T4 : Hid (Touch [] wc w4) := T3.out.trans ((Touch.refl (Value.slice a3 n c3).ownBlock.toList _).grown hgrow4 (fun k hk => Or.inl (by simp [hk]))) (fun k hk => Or.inr (hown3.lt k (Option.mem_toList.1 hk)).1)
        clear hgrow4
        have HA4 := hid (HA.out.quiet T4.out)
        refine hK.out _ _ (fun _ => ⟨HA4.out.b0.c1, HA4.out.b0.c2.trans (by rw [HS.out.2.1])⟩) ?_
        clear hK
        try simp only [Act.put, List.setIfInBounds_toArray, List.set_cons_zero, List.set_cons_succ]
        refine wpG_ready (rs := [16]) (by kernel_rfl) (by simp) (AllG.cons rfl (fun K' hK => ?_) AllG.nil)
        refine step_append_dst _ (some 63) rfl (by rfl) (.tmp 58) _ _ (by rfl) wc.heap.size 93 i93 (.agg #[.int .i64 0, .int .i64 0]) 2 16 Try.underlying26 hi hz0 hz1 hz2 (by rfl) (by decide) (.slice a4 (n + 1) c4) (n + 1) (flatT (s.T.take n) ++ [.int .i64 (s.last + 1), .int .i64 t]) (by rfl) hown4 _ 0 _ [] (by rfl) (by rfl) (fun j u hj => by simp at hj) (fun u hu => by simp at hu) (by have := HLe.out; have := HnN.out; unfold maxLen; omega) (by have := HLe.out; have := HnN.out; omega) T4.out.size ?_
        intro v5 w5 hown5 hgrow5 hnil5
        clear hnil5
        obtain ⟨a5, c5, rfl⟩ := own_form hown5
        have T5 : Hid (Touch [] wc w5) := T4.out.trans ((Touch.refl (Value.slice a4 (n + 1) c4).ownBlock.toList _).grown hgrow5 (fun k hk => Or.inl (by simp [hk]))) (fun k hk => Or.inr (hown4.lt k (Option.mem_toList.1 hk)).1)
        clear hgrow5
        have HA5 := hid (HA.out.quiet T5.out)
        refine hK.out _ _ (fun _ => ⟨HA5.out.b0.c1, HA5.out.b0.c2.trans (by rw [HS.out.2.1])⟩) ?_
        clear hK
        try simp only [Act.put, List.setIfInBounds_toArray, List.set_cons_zero, List.set_cons_succ]
        refine wpG_take (i := 17) (v := .pointer (some ⟨w.heap.size, 1, none⟩)) (some 64) rfl rfl (by kernel_rfl) (by kernel_rfl) (by kernel_rfl) (by kernel_rfl) (fun _ _ _ h => h) (Or.inl ⟨by rfl, fun w' hS => by obtain ⟨hs1, hs2⟩ := hS; go_simp⟩) ⟨HA5.out.b0.c1, HA5.out.b0.c2.trans (by rw [HS.out.2.1])⟩ ?_
        try simp only [Act.put, List.setIfInBounds_toArray, List.set_cons_zero, List.set_cons_succ]
        refine wpG_ready (rs := [18]) (by kernel_rfl) (by simp) (AllG.cons (o := { dst := none, op := Op.store 26 (Operand.tmp 64) (Operand.tmp 63), type := 0, pos := "ref.go:44", after := #[{ on := 17, ground := Ground.data }, { on := 16, ground := Ground.data }, { on := 16, ground := Ground.chain }, { on := 0, ground := Ground.phase }, { on := 1, ground := Ground.phase }, { on := 2, ground := Ground.phase }, { on := 3, ground := Ground.phase }, { on := 4, ground := Ground.phase }, { on := 5, ground := Ground.phase }, { on := 6, ground := Ground.phase }, { on := 7, ground := Ground.phase }, { on := 8, ground := Ground.phase }, { on := 9, ground := Ground.phase }, { on := 10, ground := Ground.phase }, { on := 11, ground := Ground.phase }, { on := 12, ground := Ground.phase }, { on := 13, ground := Ground.phase }, { on := 14, ground := Ground.phase }, { on := 15, ground := Ground.phase }, { on := 16, ground := Ground.phase }], guard := none }) rfl (fun K' hK => ?_) AllG.nil)
        have k51 := HA5.out.b0.c1
        have k5f := HA5.out.b0.fr 1
        rw [if_pos (by rfl)]
        go_simp
        refine hK.out _ _ (fun h => absurd rfl h) ?_
        try simp only [Act.put, List.setIfInBounds_toArray, List.set_cons_zero, List.set_cons_succ]
        refine wpG_done (by kernel_rfl) ?_ _
        go_wp2_with fail
        go_meet
        refine RaX.of HA5.out HS.out.1 HS.out.2.1 HA.out.sz HB.out (by rw [flatT_ins, HDr.out]; simpa [flatT] using hown5) ?_
        rw [insT_len _ (by have := HN.out; have := HnN.out; omega), ← HN.out]
    case rest =>
      clear HA HV v1 v2
      obtain ⟨aw, nw, cw, wb0, wb1, wrr, wt⟩ := hcut
      have HW := hid (And.intro wb0 (And.intro wb1 (And.intro wrr wt)))
      have q0 := wb0.c0
      have q1 := wb0.c1
      have q2 := wb0.c2
      have r0 := wb1.c0
      have r1 := wb1.c1
      have r2 := wb1.c2
      have rf := wb1.fr
      clear wb0 wb1 wrr wt
      go_wp2
      go_region
      all_goals go_wp2
      all_goals
        refine bodyPost_ret (v := .tuple #[.agg #[.int .i64 s.now, .slice aw nw cw, .int .i64 (s.last + 1)], .int .i64 (s.last + 1), .int .i64 0]) (by simp [results, Try.results28, go_sem, r0, r1, r2]) rfl (HX.out _ _ _ _ n ?_ HPos.out ?_)
        · exact (HW.out.2.2.1.keep (rax_touch HW.out.2.2.2 _ _ _).1 (rax_row HW.out.1 HW.out.2.1 HW.out.2.2.1))
        · exact (rax_touch HW.out.2.2.2 _ _ _).2
end
end Go.Proofs.Ytaioegefoiabhaa
