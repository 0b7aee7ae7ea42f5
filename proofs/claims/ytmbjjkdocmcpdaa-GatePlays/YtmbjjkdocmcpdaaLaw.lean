/- The walk of the law of gates. -/
import Derived.Test.YtmbjjkdocmcpdaaLws
import Derived.Test.YtmbjjkdocmcpdaaHlh
namespace Go.Proofs.Ytmbjjkdocmcpdaa
open Go.RowKit Go.Maps Go.ChangeMaps
set_option linter.unusedVariables false
set_option linter.unusedSimpArgs false
theorem lw_start {w w1 w2 w3 w4 : World} {d : Array Value} (hd : d = dc (fun _ => false) (.slice none 0 0) (.slice none 0 0)) (g1 : Gs w1 w.heap.size [w.heap.size] (fun _ => false) (fun _ => [])) (t1 : Touch [] w w1) (g2 : Gs w2 w1.heap.size [w1.heap.size] (fun _ => false) (fun _ => [])) (t2 : Touch [] w1 w2) (t3 : Touch [] w2 w3) (h4 : w4.heap[w3.heap.size]? = some (.cells d 29 (0, 0))) (t4 : Touch [w3.heap.size] (w3.alloc (.cells d 29)) w4) : Lw w w4 w.heap.size w1.heap.size w3.heap.size 0 := by
  have ta : Touch [] w3 (w3.alloc (.cells d 29)) := (Touch.refl _ _).alloc _
  have hz1 := t1.size
  have hz2 := t2.size
  have hz3 := t3.size
  have l1 := g1.lt w.heap.size (by simp)
  have l2 := g2.lt w1.heap.size (by simp)
  have ga := g1.keep0 ((t2.trans' t3).trans' ta)
  have oa := g2.keep0 (t3.trans' ta)
  refine ⟨[w.heap.size], d, _, _, fun _ => false, fun _ => [], [], ga.keep t4 (fun k hk e => by simp only [List.mem_singleton] at hk e; omega), fun k hk => by simp only [List.mem_singleton] at hk; omega, ((t1.trans' t2).trans' (t3.trans' ta)).trans t4 (fun i hi => Or.inr (by simp only [List.mem_singleton] at hi; omega)), h4, by omega, ⟨hd, Rd.nil _, Rd.nil _⟩, ⟨fun i hi => rfl, ⟨by simp, fun p hp => by simp at hp, fun p hp => by simp at hp⟩, fun i hi e => rfl⟩, oa.keep t4 (fun k hk e => by simp only [List.mem_singleton] at hk e; omega), hz1, fun e => by simp only [List.mem_singleton] at e; omega, Nat.zero_le _⟩
theorem SlA.at {w wr : World} {v : Value} {xs : List Act} (h : SlA w v xs) (T : Touch [] w wr) {n : Nat} (hn : n < xs.length) : ∃ b off cap, v = .slice (some ⟨b, off, none⟩) xs.length cap ∧ b < w.heap.size ∧ wr.cell? ⟨b, off + n * 4, none⟩ = some (.int .i64 xs[n].kd) ∧ wr.cell? ⟨b, off + n * 4 + 1, none⟩ = some (.int .i64 xs[n].gt) ∧ wr.cell? ⟨b, off + n * 4 + 2, none⟩ = some (.int .i64 xs[n].who) ∧ wr.cell? ⟨b, off + n * 4 + 3, none⟩ = some (.int .i64 xs[n].nn) := by
  rcases h with ⟨rfl, _⟩ | ⟨b, off, cap, hv, row⟩
  · simp at hn
  · have r := row.keep T
    exact ⟨b, off, cap, hv, row.lt, r.c0 n hn, r.c1 n hn, r.c2 n hn, r.c3 n hn⟩
theorem SlA.len {w : World} {v : Value} {xs : List Act} (h : SlA w v xs) : ∃ a cap, v = .slice a xs.length cap := by
  rcases h with ⟨rfl, a, c, rfl⟩ | ⟨b, off, cap, rfl, _⟩
  · exact ⟨a, c, rfl⟩
  · exact ⟨_, cap, rfl⟩
set_option maxHeartbeats 16000000 in
set_option maxRecDepth 100000 in
theorem law3 (w : World) (xs : List Act) (v : Value) (hv : SlA w v xs) (wf : ∀ x ∈ xs, WfA x) (hl : xs.length ≤ 4398046510976) : Calls Try.prog 3 #[v] w fun e w' => e = .returned (.bool true) ∧ Touch [] w w' := by
  have z29 := zero29
  have d0 := dc_size (fun _ => false) (.slice none 0 0) (.slice none 0 0)
  obtain ⟨d, hd⟩ : ∃ d, d = dc (fun _ => false) (.slice none 0 0) (.slice none 0 0) := ⟨_, rfl⟩
  rw [← hd] at z29 d0
  have HDs : Hid (Dg d) := by rw [hd]; exact dc_dg _ rfl rfl
  have HSt : Hid (∀ w1 w2 w3 w4, Gs w1 w.heap.size [w.heap.size] (fun _ => false) (fun _ => []) → Touch [] w w1 → Gs w2 w1.heap.size [w1.heap.size] (fun _ => false) (fun _ => []) → Touch [] w1 w2 → Touch [] w2 w3 → w4.heap[w3.heap.size]? = some (.cells d 29 (0, 0)) → Touch [w3.heap.size] (w3.alloc (.cells d 29)) w4 → Lw w w4 w.heap.size w1.heap.size w3.heap.size 0) := fun w1 w2 w3 w4 g1 t1 g2 t2 t3 h4 t4 => lw_start hd g1 t1 g2 t2 t3 h4 t4
  obtain ⟨av, cv, ev⟩ := hv.len
  have HV := hid hv
  have HV2 := hid ev
  have HWf := hid wf
  have HL := hid hl
  rw [ev]
  clear hd hv wf ev
  obtain ⟨N, hN⟩ : ∃ N, N = xs.length := ⟨_, rfl⟩
  rw [← hN] at hl ⊢
  have HN := hid hN
  have zN : (N : Int) ≤ 4398046510976 := by omega
  clear hN
  go_enter Try.func3, Try.ntmps3
  go_upto_region 5 with (first
    | (go_at_call 5; refine (new5 w).mono ?_; rintro e w1 ⟨rfl, g1, t1⟩; have G1 := hid (And.intro g1 t1); clear g1 t1; unfold PT)
    | (go_at_call 5; refine (new5 w1).mono ?_; rintro e w2 ⟨rfl, g2, t2⟩; have G2 := hid (And.intro g2 t2); clear g2 t2; unfold PT)
    | (go_at_call 6; refine (awake6 w2).mono ?_; rintro e w3 ⟨rfl, t3⟩; have T3 := hid t3; clear t3)
    | (refine wpList_store29 rfl _ _ rfl w3.heap.size d d 29 rfl rfl (heap_alloc_new w3 _) HDs.out.size HDs.out ?_; intro w4 h4 t4 s4; have L0 := hid (HSt.out w1 w2 w3 w4 G1.out.1 G1.out.2 G2.out.1 G2.out.2 T3.out h4 t4); clear h4 t4 s4)
    | fail)
  clear HSt G1 G2 T3
  generalize hgg : w.heap.size = g0 at *
  have HGG := hid hgg
  clear hgg
  generalize w1.heap.size = o at *
  generalize w3.heap.size = bm at *
  go_wp2_with fail
  go_loopw [3, 6] (fun v3 i wr => ∃ (g n : Nat), v3 = .pointer (some ⟨g, 0, none⟩) ∧ i = .int .i64 (n : Int) ∧ n ≤ N ∧ Hid (Lw w wr g o bm n)) (fun _ i _ => N - (intOf i).toNat)
  case atStart => exact ⟨g0, 0, rfl, rfl, Nat.zero_le _, L0.out⟩
  case round =>
    obtain ⟨g, n, rfl, rfl, hn, HP⟩ := hrel
    clear L0
    obtain ⟨F, c, A, B, op, W, ps, hz⟩ := HP.out
    by_cases hlt : n < N
    · have zn : (n : Int) < (N : Int) := by omega
      obtain ⟨b, off, cap, e1, hbw, y0, y1, y2, y3⟩ := HV.out.at hz.tc (n := n) (by have := HN.out; omega)
      have hav : av = some ⟨b, off, none⟩ ∧ cv = cap := by
        have := HV2.out
        rw [e1] at this
        simp only [Value.slice.injEq, true_and] at this
        exact ⟨this.1.symm, this.2.symm⟩
      obtain ⟨rfl, rfl⟩ := hav
      have hwfA : WfA (xs[n]'(by have := HN.out; omega)) := HWf.out _ (List.getElem_mem _)
      generalize xs[n]'(by have := HN.out; omega) = ac at *
      by_cases hk : ac.kd = 5
      · have zk : (ac.kd == 5) = true := by simp [hk]
        have HC := hid (copyA hz (by have := HL.out; have := HN.out; omega))
        clear hz HP hk
        go_wp2_with (first
          | (go_at_call 7; refine HC.out.mono ?_; rintro e w5 ⟨t5, rfl, c5⟩; have C5 := hid c5; clear c5)
          | (go_at_call 8; refine C5.out.mono ?_; rintro e w6 ⟨v6, rfl, c6⟩; have C6 := hid c6; clear c6)
          | (go_at_call 9; refine C6.out.mono ?_; rintro e w7 ⟨b7, e7, rfl, l7⟩; have L7 := hid l7; clear l7)
          | fail)
        go_roundw
        case rel => exact ⟨t5, n + 1, rfl, by go_num, hlt, L7.out⟩
        case measure => simp [intOf]; omega
      · have zk : (ac.kd == 5) = false := by simp [hk]
        have HO : Hid (∀ X, Touch [] wr X → Calls Try.prog 10 #[.pointer (some ⟨g, 0, none⟩), .agg c, .agg #[.int .i64 ac.kd, .int .i64 ac.gt, .int .i64 ac.who, .int .i64 ac.nn]] X fun e w' => Ro e X w' g F ps) := fun X T => one10 (hz.quiet T) ac hwfA (by have := HL.out; have := HN.out; omega)
        have HA16 : Hid (∀ X w4 w5 c' op' W' ps' A' B', Touch [] wr X → WaE X w4 g F op' W' → Ds w4 c' op' ps' A' B' → Iv op' W' ps' → ps'.length ≤ ps.length + 1 → w5.heap[bm]? = some (.cells c' 29 (0, 0)) → Touch [bm] w4 w5 → Lw w w5 g o bm (n + 1)) := fun X w4 w5 c' op' W' ps' A' B' T wa ds iv hl' h5 t5 => (hz.quiet T).act wa ds iv hl' h5 t5
        have HK16 : Hid (∀ X w4 op' W', Touch [] wr X → WaE X w4 g F op' W' → w4.heap[bm]? = some (.cells c 29 (0, 0)) ∧ w4.cell? ⟨b, off + n * 4, none⟩ = some (.int .i64 ac.kd) ∧ w4.cell? ⟨b, off + n * 4 + 1, none⟩ = some (.int .i64 ac.gt) ∧ w4.cell? ⟨b, off + n * 4 + 2, none⟩ = some (.int .i64 ac.who) ∧ w4.cell? ⟨b, off + n * 4 + 3, none⟩ = some (.int .i64 ac.nn)) := fun X w4 op' W' T wa => by
          obtain ⟨F', _, t4, _⟩ := wa
          have hX := hz.quiet T
          have hb := t4.block b (Nat.lt_of_lt_of_le hbw hX.tc.size) (fun e => by have := hz.fr b e; omega)
          have hbX := T.block b (Nat.lt_of_lt_of_le hbw hz.tc.size) (by simp)
          refine ⟨t4.keep hX.hb (hX.gs.away hX.hb (by decide)), ?_, ?_, ?_, ?_⟩
          · rw [World.cell?_of_block (hb.trans hbX)]; exact y0
          · rw [World.cell?_of_block (hb.trans hbX)]; exact y1
          · rw [World.cell?_of_block (hb.trans hbX)]; exact y2
          · rw [World.cell?_of_block (hb.trans hbX)]; exact y3
        have hsz := hz.ds.dg.size
        have hbm := hz.hb
        have HLt := hid hlt
        have HSA : Hid (∀ X F5 c5 A5 B5 op5 W5 ps5, Lz w X g o bm (n + 1) F5 c5 A5 B5 op5 W5 ps5 → ∀ Y, Touch [] X Y → (Y.heap[bm]? = some (.cells c5 29 (0, 0)) ∧ Y.cell? ⟨b, off + n * 4, none⟩ = some (.int .i64 ac.kd) ∧ Y.cell? ⟨b, off + n * 4 + 1, none⟩ = some (.int .i64 ac.gt) ∧ Y.cell? ⟨b, off + n * 4 + 2, none⟩ = some (.int .i64 ac.who) ∧ Y.cell? ⟨b, off + n * 4 + 3, none⟩ = some (.int .i64 ac.nn)) ∧ Calls Try.prog 11 #[.pointer (some ⟨g, 0, none⟩), .agg c5, .agg #[.int .i64 ac.kd, .int .i64 ac.gt, .int .i64 ac.who, .int .i64 ac.nn]] Y fun e w' => e = .returned (.bool true) ∧ Touch [] Y w') := fun X F5 c5 A5 B5 op5 W5 ps5 hz5 Y T => by
          have hY := hz5.quiet T
          have hb := hY.tc.block b hbw (by simp)
          have hb0 := hz.tc.block b hbw (by simp)
          have hbb := hb.trans hb0.symm
          refine ⟨⟨hY.hb, ?_, ?_, ?_, ?_⟩, saysA hY ac hwfA (by have := HL.out; have := HN.out; omega)⟩
          · rw [World.cell?_of_block hbb]; exact y0
          · rw [World.cell?_of_block hbb]; exact y1
          · rw [World.cell?_of_block hbb]; exact y2
          · rw [World.cell?_of_block hbb]; exact y3
        clear hz HP hk hwfA
        go_upto_region 16 with fail
        refine wp_region_L (S := (fun w' => w'.heap[bm]? = some (.cells c 29 (0, 0)) ∧ w'.cell? ⟨b, off + n * 4, none⟩ = some (.int .i64 ac.kd) ∧ w'.cell? ⟨b, off + n * 4 + 1, none⟩ = some (.int .i64 ac.gt) ∧ w'.cell? ⟨b, off + n * 4 + 2, none⟩ = some (.int .i64 ac.who) ∧ w'.cell? ⟨b, off + n * 4 + 3, none⟩ = some (.int .i64 ac.nn))) (st := 10) (by kernel_rfl) ?_
        have hS0 : wr.drew.heap[bm]? = some (.cells c 29 (0, 0)) ∧ wr.drew.cell? ⟨b, off + n * 4, none⟩ = some (.int .i64 ac.kd) ∧ wr.drew.cell? ⟨b, off + n * 4 + 1, none⟩ = some (.int .i64 ac.gt) ∧ wr.drew.cell? ⟨b, off + n * 4 + 2, none⟩ = some (.int .i64 ac.who) ∧ wr.drew.cell? ⟨b, off + n * 4 + 3, none⟩ = some (.int .i64 ac.nn) := ⟨hbm, y0, y1, y2, y3⟩
        refine wpL_takeY (i := 0) (v := .pointer (some ⟨g, 0, none⟩)) (some 45) rfl rfl (by kernel_rfl) (by kernel_rfl) (by kernel_rfl) (by decide) (fun _ _ _ h => h) (Or.inl ⟨by rfl, fun w' _ => by go_simp⟩) (fun _ => hS0) ?_
        try simp only [Go.Act.put, List.setIfInBounds_toArray, List.set_cons_zero, List.set_cons_succ]
        refine wpL_take (i := 1) (v := .agg c) (some 46) rfl rfl (by kernel_rfl) (by kernel_rfl) (by kernel_rfl) (by kernel_rfl) (by kernel_rfl) (by decide) (fun _ _ _ h => h) (Or.inl ⟨by rfl, fun w' hS => exec_load29 _ rfl rfl hS.1 hsz⟩) hS0 ?_
        try simp only [Go.Act.put, List.setIfInBounds_toArray, List.set_cons_zero, List.set_cons_succ]
        refine wpL_takeY (i := 2) (v := .slice (some ⟨b, off, none⟩) N cv) (some 47) rfl rfl (by kernel_rfl) (by kernel_rfl) (by kernel_rfl) (by decide) (fun _ _ _ h => h) (Or.inl ⟨by rfl, fun w' _ => by go_simp⟩) (fun _ => hS0) ?_
        try simp only [Go.Act.put, List.setIfInBounds_toArray, List.set_cons_zero, List.set_cons_succ]
        refine wpL_takeY (i := 3) (v := .int .i64 (n : Int)) (some 48) rfl rfl (by kernel_rfl) (by kernel_rfl) (by kernel_rfl) (by decide) (fun _ _ _ h => h) (Or.inl ⟨by rfl, fun w' _ => by go_simp⟩) (fun _ => hS0) ?_
        try simp only [Go.Act.put, List.setIfInBounds_toArray, List.set_cons_zero, List.set_cons_succ]
        refine wpL_takeY (i := 4) (v := .pointer (some ⟨b, off + n * 4, none⟩)) (some 49) rfl rfl (by kernel_rfl) (by kernel_rfl) (by kernel_rfl) (by decide) (fun _ _ _ h => h) (Or.inl ⟨by rfl, fun w' _ => by go_simp⟩) (fun _ => hS0) ?_
        try simp only [Go.Act.put, List.setIfInBounds_toArray, List.set_cons_zero, List.set_cons_succ]
        refine wpL_take (i := 5) (v := .agg #[.int .i64 ac.kd, .int .i64 ac.gt, .int .i64 ac.who, .int .i64 ac.nn]) (some 50) rfl rfl (by kernel_rfl) (by kernel_rfl) (by kernel_rfl) (by kernel_rfl) (by kernel_rfl) (by decide) (fun _ _ _ h => h) (Or.inl ⟨by rfl, fun w' hS => (by obtain ⟨hs0, hs1, hs2, hs3, hs4⟩ := hS; go_simp)⟩) hS0 ?_
        try simp only [Go.Act.put, List.setIfInBounds_toArray, List.set_cons_zero, List.set_cons_succ]
        refine wpL_ready (rs := [6]) (by kernel_rfl) (by simp) (AllL.cons (o := { dst := some 51, op := Op.call { callee := Callee.value (Operand.func 10), args := #[Operand.tmp 45, Operand.tmp 46, Operand.tmp 50], argTypes := #[23, 29, 31] }, type := 37, pos := _, after := #[{ on := 0, ground := Ground.data }, { on := 1, ground := Ground.data }, { on := 5, ground := Ground.data }], guard := none }) rfl (fun K' hK => ?_) AllL.nil)
        rw [if_pos (by rfl)]
        go_simp
        refine (HO.out _ ((Touch.refl _ _).drew)).mono ?_
        rintro e w4 ⟨c4, op4, W4, ps4, A4, B4, rfl, wa4, ds4, iv4, hl4⟩
        have hS4 := HK16.out _ w4 op4 W4 ((Touch.refl _ _).drew) wa4
        have H4 := hid (And.intro wa4 (And.intro ds4 (And.intro iv4 hl4)))
        have D4 := hid ds4.dg
        clear wa4 ds4 iv4 hl4
        refine hK.out _ _ (fun _ => hS4) ?_
        clear hK
        try simp only [Go.Act.put, List.setIfInBounds_toArray, List.set_cons_zero, List.set_cons_succ]
        refine wpL_take (i := 7) (v := .tuple #[.agg c4, .bool true]) (some 44) rfl rfl (by kernel_rfl) (by kernel_rfl) (by kernel_rfl) (by kernel_rfl) (by kernel_rfl) (by decide) (fun _ _ _ h => h) (Or.inl ⟨by rfl, fun w' hS => (by obtain ⟨hs0, hs1, hs2, hs3, hs4⟩ := hS; go_simp)⟩) hS4 ?_
        try simp only [Go.Act.put, List.setIfInBounds_toArray, List.set_cons_zero, List.set_cons_succ]
        refine wpL_take (i := 8) (v := .agg c4) (some 52) rfl rfl (by kernel_rfl) (by kernel_rfl) (by kernel_rfl) (by kernel_rfl) (by kernel_rfl) (by decide) (fun _ _ _ h => h) (Or.inl ⟨by rfl, fun w' hS => (by obtain ⟨hs0, hs1, hs2, hs3, hs4⟩ := hS; go_simp)⟩) hS4 ?_
        try simp only [Go.Act.put, List.setIfInBounds_toArray, List.set_cons_zero, List.set_cons_succ]
        refine wpL_takeY (i := 9) (v := .bool true) (some 53) rfl rfl (by kernel_rfl) (by kernel_rfl) (by kernel_rfl) (by decide) (fun _ _ _ h => h) (Or.inl ⟨by rfl, fun w' _ => by go_simp⟩) (fun _ => hS4) ?_
        try simp only [Go.Act.put, List.setIfInBounds_toArray, List.set_cons_zero, List.set_cons_succ]
        refine wpL_ready (rs := [10]) (by kernel_rfl) (by simp) (AllL.cons (o := { dst := none, op := Op.store 29 (Operand.tmp 5) (Operand.tmp 52), type := 0, pos := _, after := #[{ on := 8, ground := Ground.data }, { on := 6, ground := Ground.chain }, { on := 0, ground := Ground.phase }, { on := 1, ground := Ground.phase }, { on := 2, ground := Ground.phase }, { on := 3, ground := Ground.phase }, { on := 4, ground := Ground.phase }, { on := 5, ground := Ground.phase }, { on := 6, ground := Ground.phase }, { on := 7, ground := Ground.phase }, { on := 8, ground := Ground.phase }, { on := 9, ground := Ground.textOnly Departure.lateStores }], guard := none }) rfl (fun K' hK => ?_) AllL.nil)
        rw [if_pos (by rfl)]
        refine wp_store29 (Operand.tmp 5) (Operand.tmp 52) rfl bm c c4 29 rfl rfl hS4.1 hsz D4.out (fun w5 h5 t5 s5 => ?_)
        refine hK.out _ _ (fun h => by cases (show true = false from h)) ?_
        have L5 := hid (HA16.out _ w4 w5 c4 op4 W4 ps4 A4 B4 ((Touch.refl _ _).drew) H4.out.1 H4.out.2.1 H4.out.2.2.1 H4.out.2.2.2 h5 t5)
        clear hK h5 t5 s5 hS4 hS0 H4 D4 HO HA16 HK16 hbm hsz y0 y1 y2 y3
        try simp only [Go.Act.put, List.setIfInBounds_toArray, List.set_cons_zero, List.set_cons_succ]
        refine wpL_takeY (i := 11) (v := .bool true) (some 8) rfl rfl (by kernel_rfl) (by kernel_rfl) (by kernel_rfl) (by decide) (fun _ _ _ h => h) (Or.inl ⟨by rfl, fun w' _ => by go_simp⟩) (fun h => by cases (show true = false from h)) ?_
        try simp only [Go.Act.put, List.setIfInBounds_toArray, List.set_cons_zero, List.set_cons_succ]
        refine wpL_done (by kernel_rfl) ?_ _
        go_upto_region 17 with fail
        obtain ⟨F5, c5, A5, B5, op5, W5, ps5, hz5⟩ := L5.out
        have hsz5 := hz5.ds.dg.size
        have HS5 := hid (HSA.out w5 F5 c5 A5 B5 op5 W5 ps5 hz5)
        have HZ5 : Hid (∀ Y, Touch [] w5 Y → Lw w Y g o bm (n + 1)) := fun Y T => ⟨_, _, _, _, _, _, _, hz5.quiet T⟩
        clear hz5 L5 HSA
        refine wp_region_H (S := (fun w' => Touch [] w5 w')) (by kernel_rfl) ?_
        have hS0 : Touch [] w5 w5.drew := (Touch.refl _ _).drew
        refine wpH_take (i := 0) (v := .bool true) (some 54) rfl rfl (by kernel_rfl) (by kernel_rfl) (by kernel_rfl) (fun _ _ _ h => h) (Or.inl ⟨by rfl, fun w' hS => (by go_simp)⟩) hS0 ?_
        try simp only [Go.Act.put, List.setIfInBounds_toArray, List.set_cons_zero, List.set_cons_succ]
        refine wpH_take (i := 1) (v := .bool false) (some 55) rfl rfl (by kernel_rfl) (by kernel_rfl) (by kernel_rfl) (fun _ _ _ h => h) (Or.inl ⟨by rfl, fun w' hS => (by go_simp)⟩) hS0 ?_
        try simp only [Go.Act.put, List.setIfInBounds_toArray, List.set_cons_zero, List.set_cons_succ]
        refine wpH_take (i := 2) (v := .bool false) (some 56) rfl rfl (by kernel_rfl) (by kernel_rfl) (by kernel_rfl) (fun _ _ _ h => h) (Or.inl ⟨by rfl, fun w' hS => (by go_simp)⟩) hS0 ?_
        try simp only [Go.Act.put, List.setIfInBounds_toArray, List.set_cons_zero, List.set_cons_succ]
        refine wpH_take (i := 3) (v := .pointer (some ⟨g, 0, none⟩)) (some 57) rfl rfl (by kernel_rfl) (by kernel_rfl) (by kernel_rfl) (fun _ _ _ h => h) (Or.inl ⟨by rfl, fun w' hS => (by go_simp)⟩) hS0 ?_
        try simp only [Go.Act.put, List.setIfInBounds_toArray, List.set_cons_zero, List.set_cons_succ]
        refine wpH_take (i := 4) (v := .agg c5) (some 58) rfl rfl (by kernel_rfl) (by kernel_rfl) (by kernel_rfl) (fun _ _ _ h => h) (Or.inl ⟨by rfl, fun w' hS => exec_load29 _ rfl rfl (HS5.out w' hS).1.1 hsz5⟩) hS0 ?_
        try simp only [Go.Act.put, List.setIfInBounds_toArray, List.set_cons_zero, List.set_cons_succ]
        refine wpH_take (i := 5) (v := .slice (some ⟨b, off, none⟩) N cv) (some 59) rfl rfl (by kernel_rfl) (by kernel_rfl) (by kernel_rfl) (fun _ _ _ h => h) (Or.inl ⟨by rfl, fun w' hS => (by go_simp)⟩) hS0 ?_
        try simp only [Go.Act.put, List.setIfInBounds_toArray, List.set_cons_zero, List.set_cons_succ]
        refine wpH_take (i := 6) (v := .int .i64 (n : Int)) (some 60) rfl rfl (by kernel_rfl) (by kernel_rfl) (by kernel_rfl) (fun _ _ _ h => h) (Or.inl ⟨by rfl, fun w' hS => (by go_simp)⟩) hS0 ?_
        try simp only [Go.Act.put, List.setIfInBounds_toArray, List.set_cons_zero, List.set_cons_succ]
        refine wpH_take (i := 7) (v := .pointer (some ⟨b, off + n * 4, none⟩)) (some 61) rfl rfl (by kernel_rfl) (by kernel_rfl) (by kernel_rfl) (fun _ _ _ h => h) (Or.inl ⟨by rfl, fun w' hS => (by go_simp)⟩) hS0 ?_
        try simp only [Go.Act.put, List.setIfInBounds_toArray, List.set_cons_zero, List.set_cons_succ]
        refine wpH_take (i := 8) (v := .agg #[.int .i64 ac.kd, .int .i64 ac.gt, .int .i64 ac.who, .int .i64 ac.nn]) (some 62) rfl rfl (by kernel_rfl) (by kernel_rfl) (by kernel_rfl) (fun _ _ _ h => h) (Or.inl ⟨by rfl, fun w' hS => (by obtain ⟨hs0, hs1, hs2, hs3, hs4⟩ := (HS5.out w' hS).1; go_simp)⟩) hS0 ?_
        try simp only [Go.Act.put, List.setIfInBounds_toArray, List.set_cons_zero, List.set_cons_succ]
        refine wpH_call (i := 9) (o := { dst := some 63, op := Op.call { callee := Callee.value (Operand.func 11), args := #[Operand.tmp 57, Operand.tmp 58, Operand.tmp 62], argTypes := #[23, 29, 31] }, type := 4, pos := _, after := #[{ on := 3, ground := Ground.data }, { on := 4, ground := Ground.data }, { on := 8, ground := Ground.data }, { on := 2, ground := Ground.chain }, { on := 2, ground := Ground.guard }], guard := some (2, false) }) (by kernel_rfl) rfl (fun K' hK => ?_)
        rw [if_pos (by rfl)]
        go_simp
        refine ((HS5.out _ hS0).2).mono ?_
        rintro e w6 ⟨rfl, t6⟩
        have hS6 := hS0.trans' t6
        clear t6
        refine hK.out _ _ hS6 ?_
        clear hK
        try simp only [Go.Act.put, List.setIfInBounds_toArray, List.set_cons_zero, List.set_cons_succ]
        refine wpH_take (i := 10) (v := .bool false) (some 64) rfl rfl (by kernel_rfl) (by kernel_rfl) (by kernel_rfl) (fun _ _ _ h => h) (Or.inl ⟨by rfl, fun w' hS => (by go_simp)⟩) hS6 ?_
        try simp only [Go.Act.put, List.setIfInBounds_toArray, List.set_cons_zero, List.set_cons_succ]
        refine wpH_take (i := 11) (v := .bool false) (some 65) rfl rfl (by kernel_rfl) (by kernel_rfl) (by kernel_rfl) (fun _ _ _ h => h) (Or.inl ⟨by rfl, fun w' hS => (by go_simp)⟩) hS6 ?_
        try simp only [Go.Act.put, List.setIfInBounds_toArray, List.set_cons_zero, List.set_cons_succ]
        refine wpAnyH_done (by kernel_rfl) ?_ _
        have L6 := hid (HZ5.out w6 hS6)
        clear hS0 hS6 HS5 HZ5 hsz5
        go_wp2_with fail
        go_roundw
        case rel => exact ⟨g, n + 1, rfl, by go_num, HLt.out, L6.out⟩
        case measure => have := HLt.out; simp [intOf]; omega
    · have e : n = N := by omega
      subst e
      obtain ⟨w0, hw0⟩ : ∃ w0, w0 = wr := ⟨_, rfl⟩
      rw [← hw0] at hz
      have htot : tot W = ps.length := tot_rel hz.iv.rel hz.iv.dk
      have hleN : ps.length ≤ 4398046511104 := by have := hz.le; have := HL.out; have := HN.out; omega
      have hsz := hz.ds.dg.size
      have HB : Hid (∀ X, Touch [] w0 X → X.heap[bm]? = some (.cells c 29 (0, 0))) := fun X T => (hz.quiet T).hb
      have HLen : Hid (∀ X, Touch [] w0 X → Calls Try.prog 15 #[.pointer (some ⟨o, 0, none⟩)] X fun e w' => e = .returned (.int .i64 0) ∧ w' = X) := fun X T => by
        have := len15 (hz.go.keep0 T)
        rw [tot_none] at this
        exact this
      have HT0 := hid hz.tc
      have HWA : Hid (∀ ni : Int, inG ni = true → ∀ X, Touch [] w0 X → Calls Try.prog 13 #[.pointer (some ⟨g, 0, none⟩), .int .i64 ni] X fun e w' => ∃ a q, e = .returned (.slice a (wOf ps ni).length q) ∧ Rd w' (.slice a (wOf ps ni).length q) (wOf ps ni) ∧ Touch [] X w') := fun ni hni X T => by
        refine (waiting13 (hz.gs.keep0 T) ni (by omega)).mono ?_
        rintro e w' ⟨v, he, ow, t⟩
        rw [waitW_rel hz.iv ni] at ow
        obtain ⟨a, q, rfl⟩ := own_form ow
        exact ⟨a, q, he, Rd.of_own ow, t⟩
      have HWD : Hid (∀ ni : Int, ∀ X, Touch [] w0 X → Calls Try.prog 14 #[.agg c, .int .i64 ni] X fun e w' => ∃ a q, e = .returned (.slice a (wOf ps ni).length q) ∧ Rd w' (.slice a (wOf ps ni).length q) (wOf ps ni) ∧ Touch [] X w') := fun ni X T => by
        refine (waiting14 (hz.ds.keep0 T) ni hleN).mono ?_
        rintro e w' ⟨v, he, ow, t⟩
        obtain ⟨a, q, rfl⟩ := own_form ow
        exact ⟨a, q, he, Rd.of_own ow, t⟩
      have HLW : Hid (∀ ni : Int, (wOf ps ni).length ≤ 4398046511104) := fun ni => Nat.le_trans (wOf_len ps ni) hleN
      have HCC : Hid (∀ ni : Int, inG ni = true → ∀ X, Touch [] w0 X → X.cell? ⟨bm, ni.toNat, none⟩ = some (.bool (op ni.toNat))) := fun ni hni X T => cell_at (hz.quiet T).hb (hz.ds.cells.2.2 _ (inG_nat hni).1)
      have HSh : Hid (∀ ni : Int, inG ni = true → op ni.toNat = true → (wOf ps ni).length = 0) := fun ni hni ho => by
        have h1 := hz.iv.sh _ (inG_nat hni).1 ho
        rw [hz.iv.rel _ (inG_nat hni).1, (inG_nat hni).2] at h1
        rw [h1]
        rfl
      have HW0 : Hid (Touch [] w0 wr) := by rw [hw0]; exact Touch.refl _ _
      clear hz HP hw0 htot hleN
      go_wp2_with fail
      go_loopw [9] (fun i wq => ∃ ni : Int, i = .int .i64 ni ∧ 0 ≤ ni ∧ ni ≤ 256 ∧ Hid (Touch [] w0 wq)) (fun i _ => 256 - (intOf i).toNat)
      case atStart => exact ⟨0, rfl, by omega, by omega, HW0.out⟩
      case round =>
        obtain ⟨ni, rfl, hn0, hn1, HQ⟩ := hrel
        clear HW0
        by_cases hni : ni < 256
        · have hin : inG ni = true := by simp [inG, hn0, hni]
          have HWa := hid (HWA.out ni hin)
          have HWd := hid (HWD.out ni)
          have HLw := hid (HLW.out ni)
          have HC1 := hid (HCC.out ni hin)
          have HS1 := hid (HSh.out ni hin)
          have hS0 : Touch [] w0 wr.drew := HQ.out.drew
          clear HWA HWD HLW HCC HSh hin HQ
          go_upto_region 22 with fail
          rcases Bool.eq_false_or_eq_true (op ni.toNat) with ho | ho
          · have hz0 := HS1.out ho
            rw [ho] at HC1
            rw [hz0] at HWa HWd
            clear hz0 ho HS1
            generalize wOf ps ni = wp at *
            refine wp_region_H (S := (fun w' => Touch [] w0 w')) (by kernel_rfl) ?_
            refine wpH_take (i := 0) (v := .pointer (some ⟨g, 0, none⟩)) (some 70) rfl rfl (by kernel_rfl) (by kernel_rfl) (by kernel_rfl) (fun _ _ _ h => h) (Or.inl ⟨by rfl, fun w' hS => (by go_simp)⟩) hS0 ?_
            try simp only [Go.Act.put, List.setIfInBounds_toArray, List.set_cons_zero, List.set_cons_succ]
            refine wpH_take (i := 1) (v := .int .i64 ni) (some 71) rfl rfl (by kernel_rfl) (by kernel_rfl) (by kernel_rfl) (fun _ _ _ h => h) (Or.inl ⟨by rfl, fun w' hS => (by go_simp)⟩) hS0 ?_
            try simp only [Go.Act.put, List.setIfInBounds_toArray, List.set_cons_zero, List.set_cons_succ]
            refine wpH_take (i := 3) (v := .agg c) (some 73) rfl rfl (by kernel_rfl) (by kernel_rfl) (by kernel_rfl) (fun _ _ _ h => h) (Or.inl ⟨by rfl, fun w' hS => exec_load29 _ rfl rfl (HB.out w' hS) hsz⟩) hS0 ?_
            try simp only [Go.Act.put, List.setIfInBounds_toArray, List.set_cons_zero, List.set_cons_succ]
            refine wpH_take (i := 4) (v := .int .i64 ni) (some 74) rfl rfl (by kernel_rfl) (by kernel_rfl) (by kernel_rfl) (fun _ _ _ h => h) (Or.inl ⟨by rfl, fun w' hS => (by go_simp)⟩) hS0 ?_
            try simp only [Go.Act.put, List.setIfInBounds_toArray, List.set_cons_zero, List.set_cons_succ]
            refine wpH_call (i := 2) (o := { dst := some 72, op := Op.call { callee := Callee.value (Operand.func 13), args := #[Operand.tmp 70, Operand.tmp 71], argTypes := #[23, 3] }, type := 27, pos := _, after := #[{ on := 0, ground := Ground.data }, { on := 1, ground := Ground.data }], guard := none }) (by kernel_rfl) rfl (fun K' hK => ?_)
            rw [if_pos (by rfl)]
            go_simp
            refine (HWa.out _ hS0).mono ?_
            rintro e w7 ⟨a7, q7, rfl, r7, t7⟩
            have hS7 := hS0.trans' t7
            have R7 := hid r7
            clear r7 t7
            refine hK.out _ _ hS7 ?_
            clear hK
            try simp only [Go.Act.put, List.setIfInBounds_toArray, List.set_cons_zero, List.set_cons_succ]
            refine wpH_call (i := 5) (o := { dst := some 75, op := Op.call { callee := Callee.value (Operand.func 14), args := #[Operand.tmp 73, Operand.tmp 74], argTypes := #[29, 3] }, type := 27, pos := _, after := #[{ on := 3, ground := Ground.data }, { on := 4, ground := Ground.data }, { on := 2, ground := Ground.chain }], guard := none }) (by kernel_rfl) rfl (fun K' hK => ?_)
            rw [if_pos (by rfl)]
            go_simp
            refine (HWd.out _ hS7).mono ?_
            rintro e w8 ⟨a8, q8, rfl, r8, t8⟩
            have hS8 := hS7.trans' t8
            have R8 := hid (And.intro (R7.out.keep0 t8) r8)
            clear r8 t8
            refine hK.out _ _ hS8 ?_
            clear hK
            try simp only [Go.Act.put, List.setIfInBounds_toArray, List.set_cons_zero, List.set_cons_succ]
            refine wpH_call (i := 6) (o := { dst := some 76, op := Op.call { callee := Callee.value (Operand.func 12), args := #[Operand.tmp 72, Operand.tmp 75], argTypes := #[27, 27] }, type := 4, pos := _, after := #[{ on := 2, ground := Ground.data }, { on := 5, ground := Ground.data }, { on := 5, ground := Ground.chain }], guard := none }) (by kernel_rfl) rfl (fun K' hK => ?_)
            rw [if_pos (by rfl)]
            go_simp
            refine (ints12 _ _ _ _ R8.out.1 R8.out.2 HLw.out).mono ?_
            rintro e w9 ⟨rfl, t9⟩
            have hS9 := hS8.trans' t9
            clear t9
            refine hK.out _ _ hS9 ?_
            clear hK
            try simp only [Go.Act.put, List.setIfInBounds_toArray, List.set_cons_zero, List.set_cons_succ]
            refine wpH_take (i := 7) (v := .bool false) (some 77) rfl rfl (by kernel_rfl) (by kernel_rfl) (by kernel_rfl) (fun _ _ _ h => h) (Or.inl ⟨by rfl, fun w' hS => (by go_simp)⟩) hS9 ?_
            try simp only [Go.Act.put, List.setIfInBounds_toArray, List.set_cons_zero, List.set_cons_succ]
            refine wpH_take (i := 8) (v := .bool false) (some 78) rfl rfl (by kernel_rfl) (by kernel_rfl) (by kernel_rfl) (fun _ _ _ h => h) (Or.inl ⟨by rfl, fun w' hS => (by go_simp)⟩) hS9 ?_
            try simp only [Go.Act.put, List.setIfInBounds_toArray, List.set_cons_zero, List.set_cons_succ]
            refine wpH_take (i := 9) (v := .int .i64 ni) (some 79) rfl rfl (by kernel_rfl) (by kernel_rfl) (by kernel_rfl) (fun _ _ _ h => h) (Or.inl ⟨by rfl, fun w' hS => (by go_simp)⟩) hS9 ?_
            try simp only [Go.Act.put, List.setIfInBounds_toArray, List.set_cons_zero, List.set_cons_succ]
            refine wpH_take (i := 10) (v := .pointer (some ⟨bm, 0, none⟩)) (some 80) rfl rfl (by kernel_rfl) (by kernel_rfl) (by kernel_rfl) (fun _ _ _ h => h) (Or.inl ⟨by rfl, fun w' hS => (by go_simp)⟩) hS9 ?_
            try simp only [Go.Act.put, List.setIfInBounds_toArray, List.set_cons_zero, List.set_cons_succ]
            refine wpH_take (i := 11) (v := .pointer (some ⟨bm, ni.toNat, none⟩)) (some 81) rfl rfl (by kernel_rfl) (by kernel_rfl) (by kernel_rfl) (fun _ _ _ h => h) (Or.inl ⟨by rfl, fun w' hS => (by go_simp)⟩) hS9 ?_
            try simp only [Go.Act.put, List.setIfInBounds_toArray, List.set_cons_zero, List.set_cons_succ]
            refine wpH_take (i := 12) (v := .bool true) (some 82) rfl rfl (by kernel_rfl) (by kernel_rfl) (by kernel_rfl) (fun _ _ _ h => h) (Or.inl ⟨by rfl, fun w' hS => (by have hc := HC1.out w' hS; go_simp)⟩) hS9 ?_
            try simp only [Go.Act.put, List.setIfInBounds_toArray, List.set_cons_zero, List.set_cons_succ]
            refine wpH_take (i := 13) (v := .bool true) (some 83) rfl rfl (by kernel_rfl) (by kernel_rfl) (by kernel_rfl) (fun _ _ _ h => h) (Or.inl ⟨by rfl, fun w' hS => (by go_simp)⟩) hS9 ?_
            try simp only [Go.Act.put, List.setIfInBounds_toArray, List.set_cons_zero, List.set_cons_succ]
            refine wpH_take (i := 14) (v := .pointer (some ⟨g, 0, none⟩)) (some 84) rfl rfl (by kernel_rfl) (by kernel_rfl) (by kernel_rfl) (fun _ _ _ h => h) (Or.inl ⟨by rfl, fun w' hS => (by go_simp)⟩) hS9 ?_
            try simp only [Go.Act.put, List.setIfInBounds_toArray, List.set_cons_zero, List.set_cons_succ]
            refine wpH_take (i := 15) (v := .int .i64 ni) (some 85) rfl rfl (by kernel_rfl) (by kernel_rfl) (by kernel_rfl) (fun _ _ _ h => h) (Or.inl ⟨by rfl, fun w' hS => (by go_simp)⟩) hS9 ?_
            try simp only [Go.Act.put, List.setIfInBounds_toArray, List.set_cons_zero, List.set_cons_succ]
            refine wpH_call (i := 16) (o := { dst := some 86, op := Op.call { callee := Callee.value (Operand.func 13), args := #[Operand.tmp 84, Operand.tmp 85], argTypes := #[23, 3] }, type := 27, pos := _, after := #[{ on := 14, ground := Ground.data }, { on := 15, ground := Ground.data }, { on := 13, ground := Ground.chain }, { on := 13, ground := Ground.guard }], guard := some (13, true) }) (by kernel_rfl) rfl (fun K' hK => ?_)
            rw [if_pos (by rfl)]
            go_simp
            refine (HWa.out _ hS9).mono ?_
            rintro e w10 ⟨a10, q10, rfl, r10, t10⟩
            have hS10 := hS9.trans' t10
            clear r10 t10
            refine hK.out _ _ hS10 ?_
            clear hK
            try simp only [Go.Act.put, List.setIfInBounds_toArray, List.set_cons_zero, List.set_cons_succ]
            refine wpH_take (i := 17) (v := .int .i64 0) (some 87) rfl rfl (by kernel_rfl) (by kernel_rfl) (by kernel_rfl) (fun _ _ _ h => h) (Or.inl ⟨by rfl, fun w' hS => (by go_simp)⟩) hS10 ?_
            try simp only [Go.Act.put, List.setIfInBounds_toArray, List.set_cons_zero, List.set_cons_succ]
            refine wpH_take (i := 18) (v := .bool false) (some 88) rfl rfl (by kernel_rfl) (by kernel_rfl) (by kernel_rfl) (fun _ _ _ h => h) (Or.inl ⟨by rfl, fun w' hS => (by go_simp)⟩) hS10 ?_
            try simp only [Go.Act.put, List.setIfInBounds_toArray, List.set_cons_zero, List.set_cons_succ]
            refine wpH_take (i := 19) (v := .bool false) (some 89) rfl rfl (by kernel_rfl) (by kernel_rfl) (by kernel_rfl) (fun _ _ _ h => h) (Or.inl ⟨by rfl, fun w' hS => (by go_simp)⟩) hS10 ?_
            try simp only [Go.Act.put, List.setIfInBounds_toArray, List.set_cons_zero, List.set_cons_succ]
            refine wpH_take (i := 20) (v := .bool false) (some 90) rfl rfl (by kernel_rfl) (by kernel_rfl) (by kernel_rfl) (fun _ _ _ h => h) (Or.inl ⟨by rfl, fun w' hS => (by go_simp)⟩) hS10 ?_
            try simp only [Go.Act.put, List.setIfInBounds_toArray, List.set_cons_zero, List.set_cons_succ]
            refine wpAnyH_done (by kernel_rfl) ?_ _
            have E9 := hid hS10
            clear hS10 hS0
            go_wp2_with fail
            go_roundw
            case rel => exact ⟨ni + 1, by go_num, by omega, by omega, E9.out⟩
            case measure => simp [intOf]; omega
          · rw [ho] at HC1
            clear ho HS1
            generalize wOf ps ni = wp at *
            generalize wp.length = LW at HWa HWd
            refine wp_region_H (S := (fun w' => Touch [] w0 w')) (by kernel_rfl) ?_
            refine wpH_take (i := 0) (v := .pointer (some ⟨g, 0, none⟩)) (some 70) rfl rfl (by kernel_rfl) (by kernel_rfl) (by kernel_rfl) (fun _ _ _ h => h) (Or.inl ⟨by rfl, fun w' hS => (by go_simp)⟩) hS0 ?_
            try simp only [Go.Act.put, List.setIfInBounds_toArray, List.set_cons_zero, List.set_cons_succ]
            refine wpH_take (i := 1) (v := .int .i64 ni) (some 71) rfl rfl (by kernel_rfl) (by kernel_rfl) (by kernel_rfl) (fun _ _ _ h => h) (Or.inl ⟨by rfl, fun w' hS => (by go_simp)⟩) hS0 ?_
            try simp only [Go.Act.put, List.setIfInBounds_toArray, List.set_cons_zero, List.set_cons_succ]
            refine wpH_take (i := 3) (v := .agg c) (some 73) rfl rfl (by kernel_rfl) (by kernel_rfl) (by kernel_rfl) (fun _ _ _ h => h) (Or.inl ⟨by rfl, fun w' hS => exec_load29 _ rfl rfl (HB.out w' hS) hsz⟩) hS0 ?_
            try simp only [Go.Act.put, List.setIfInBounds_toArray, List.set_cons_zero, List.set_cons_succ]
            refine wpH_take (i := 4) (v := .int .i64 ni) (some 74) rfl rfl (by kernel_rfl) (by kernel_rfl) (by kernel_rfl) (fun _ _ _ h => h) (Or.inl ⟨by rfl, fun w' hS => (by go_simp)⟩) hS0 ?_
            try simp only [Go.Act.put, List.setIfInBounds_toArray, List.set_cons_zero, List.set_cons_succ]
            refine wpH_call (i := 2) (o := { dst := some 72, op := Op.call { callee := Callee.value (Operand.func 13), args := #[Operand.tmp 70, Operand.tmp 71], argTypes := #[23, 3] }, type := 27, pos := _, after := #[{ on := 0, ground := Ground.data }, { on := 1, ground := Ground.data }], guard := none }) (by kernel_rfl) rfl (fun K' hK => ?_)
            rw [if_pos (by rfl)]
            go_simp
            refine (HWa.out _ hS0).mono ?_
            rintro e w7 ⟨a7, q7, rfl, r7, t7⟩
            have hS7 := hS0.trans' t7
            have R7 := hid r7
            clear r7 t7
            refine hK.out _ _ hS7 ?_
            clear hK
            try simp only [Go.Act.put, List.setIfInBounds_toArray, List.set_cons_zero, List.set_cons_succ]
            refine wpH_call (i := 5) (o := { dst := some 75, op := Op.call { callee := Callee.value (Operand.func 14), args := #[Operand.tmp 73, Operand.tmp 74], argTypes := #[29, 3] }, type := 27, pos := _, after := #[{ on := 3, ground := Ground.data }, { on := 4, ground := Ground.data }, { on := 2, ground := Ground.chain }], guard := none }) (by kernel_rfl) rfl (fun K' hK => ?_)
            rw [if_pos (by rfl)]
            go_simp
            refine (HWd.out _ hS7).mono ?_
            rintro e w8 ⟨a8, q8, rfl, r8, t8⟩
            have hS8 := hS7.trans' t8
            have R8 := hid (And.intro (R7.out.keep0 t8) r8)
            clear r8 t8
            refine hK.out _ _ hS8 ?_
            clear hK
            try simp only [Go.Act.put, List.setIfInBounds_toArray, List.set_cons_zero, List.set_cons_succ]
            refine wpH_call (i := 6) (o := { dst := some 76, op := Op.call { callee := Callee.value (Operand.func 12), args := #[Operand.tmp 72, Operand.tmp 75], argTypes := #[27, 27] }, type := 4, pos := _, after := #[{ on := 2, ground := Ground.data }, { on := 5, ground := Ground.data }, { on := 5, ground := Ground.chain }], guard := none }) (by kernel_rfl) rfl (fun K' hK => ?_)
            rw [if_pos (by rfl)]
            go_simp
            refine (ints12 _ _ _ _ R8.out.1 R8.out.2 HLw.out).mono ?_
            rintro e w9 ⟨rfl, t9⟩
            have hS9 := hS8.trans' t9
            clear t9
            refine hK.out _ _ hS9 ?_
            clear hK
            try simp only [Go.Act.put, List.setIfInBounds_toArray, List.set_cons_zero, List.set_cons_succ]
            refine wpH_take (i := 7) (v := .bool false) (some 77) rfl rfl (by kernel_rfl) (by kernel_rfl) (by kernel_rfl) (fun _ _ _ h => h) (Or.inl ⟨by rfl, fun w' hS => (by go_simp)⟩) hS9 ?_
            try simp only [Go.Act.put, List.setIfInBounds_toArray, List.set_cons_zero, List.set_cons_succ]
            refine wpH_take (i := 8) (v := .bool false) (some 78) rfl rfl (by kernel_rfl) (by kernel_rfl) (by kernel_rfl) (fun _ _ _ h => h) (Or.inl ⟨by rfl, fun w' hS => (by go_simp)⟩) hS9 ?_
            try simp only [Go.Act.put, List.setIfInBounds_toArray, List.set_cons_zero, List.set_cons_succ]
            refine wpH_take (i := 9) (v := .int .i64 ni) (some 79) rfl rfl (by kernel_rfl) (by kernel_rfl) (by kernel_rfl) (fun _ _ _ h => h) (Or.inl ⟨by rfl, fun w' hS => (by go_simp)⟩) hS9 ?_
            try simp only [Go.Act.put, List.setIfInBounds_toArray, List.set_cons_zero, List.set_cons_succ]
            refine wpH_take (i := 10) (v := .pointer (some ⟨bm, 0, none⟩)) (some 80) rfl rfl (by kernel_rfl) (by kernel_rfl) (by kernel_rfl) (fun _ _ _ h => h) (Or.inl ⟨by rfl, fun w' hS => (by go_simp)⟩) hS9 ?_
            try simp only [Go.Act.put, List.setIfInBounds_toArray, List.set_cons_zero, List.set_cons_succ]
            refine wpH_take (i := 11) (v := .pointer (some ⟨bm, ni.toNat, none⟩)) (some 81) rfl rfl (by kernel_rfl) (by kernel_rfl) (by kernel_rfl) (fun _ _ _ h => h) (Or.inl ⟨by rfl, fun w' hS => (by go_simp)⟩) hS9 ?_
            try simp only [Go.Act.put, List.setIfInBounds_toArray, List.set_cons_zero, List.set_cons_succ]
            refine wpH_take (i := 12) (v := .bool false) (some 82) rfl rfl (by kernel_rfl) (by kernel_rfl) (by kernel_rfl) (fun _ _ _ h => h) (Or.inl ⟨by rfl, fun w' hS => (by have hc := HC1.out w' hS; go_simp)⟩) hS9 ?_
            try simp only [Go.Act.put, List.setIfInBounds_toArray, List.set_cons_zero, List.set_cons_succ]
            refine wpH_take (i := 13) (v := .bool false) (some 83) rfl rfl (by kernel_rfl) (by kernel_rfl) (by kernel_rfl) (fun _ _ _ h => h) (Or.inl ⟨by rfl, fun w' hS => (by go_simp)⟩) hS9 ?_
            try simp only [Go.Act.put, List.setIfInBounds_toArray, List.set_cons_zero, List.set_cons_succ]
            refine wpH_take (i := 14) (v := undef) (some 84) rfl rfl (by kernel_rfl) (by kernel_rfl) (by kernel_rfl) (fun _ _ _ h => h) (Or.inr ⟨by rfl, rfl⟩) hS9 ?_
            try simp only [Go.Act.put, List.setIfInBounds_toArray, List.set_cons_zero, List.set_cons_succ]
            refine wpH_take (i := 15) (v := undef) (some 85) rfl rfl (by kernel_rfl) (by kernel_rfl) (by kernel_rfl) (fun _ _ _ h => h) (Or.inr ⟨by rfl, rfl⟩) hS9 ?_
            try simp only [Go.Act.put, List.setIfInBounds_toArray, List.set_cons_zero, List.set_cons_succ]
            refine wpH_take (i := 16) (v := undef) (some 86) rfl rfl (by kernel_rfl) (by kernel_rfl) (by kernel_rfl) (fun _ _ _ h => h) (Or.inr ⟨by rfl, rfl⟩) hS9 ?_
            try simp only [Go.Act.put, List.setIfInBounds_toArray, List.set_cons_zero, List.set_cons_succ]
            refine wpH_take (i := 17) (v := undef) (some 87) rfl rfl (by kernel_rfl) (by kernel_rfl) (by kernel_rfl) (fun _ _ _ h => h) (Or.inr ⟨by rfl, rfl⟩) hS9 ?_
            try simp only [Go.Act.put, List.setIfInBounds_toArray, List.set_cons_zero, List.set_cons_succ]
            refine wpH_take (i := 18) (v := undef) (some 88) rfl rfl (by kernel_rfl) (by kernel_rfl) (by kernel_rfl) (fun _ _ _ h => h) (Or.inr ⟨by rfl, rfl⟩) hS9 ?_
            try simp only [Go.Act.put, List.setIfInBounds_toArray, List.set_cons_zero, List.set_cons_succ]
            refine wpH_take (i := 19) (v := .bool false) (some 89) rfl rfl (by kernel_rfl) (by kernel_rfl) (by kernel_rfl) (fun _ _ _ h => h) (Or.inl ⟨by rfl, fun w' hS => (by go_simp)⟩) hS9 ?_
            try simp only [Go.Act.put, List.setIfInBounds_toArray, List.set_cons_zero, List.set_cons_succ]
            refine wpH_take (i := 20) (v := .bool false) (some 90) rfl rfl (by kernel_rfl) (by kernel_rfl) (by kernel_rfl) (fun _ _ _ h => h) (Or.inl ⟨by rfl, fun w' hS => (by go_simp)⟩) hS9 ?_
            try simp only [Go.Act.put, List.setIfInBounds_toArray, List.set_cons_zero, List.set_cons_succ]
            refine wpAnyH_done (by kernel_rfl) ?_ _
            have E9 := hid hS9
            clear hS9 hS0
            go_wp2_with fail
            go_roundw
            case rel => exact ⟨ni + 1, by go_num, by omega, by omega, E9.out⟩
            case measure => simp [intOf]; omega
        · have e : ni = 256 := by omega
          subst e
          have HQ2 := hid HQ.out
          clear HWA HWD HLW HCC HSh
          go_wp2_with (go_at_call 15; refine (HLen.out _ HQ2.out).mono ?_; rintro e w8 ⟨rfl, rfl⟩)
          go_ret
          exact ⟨rfl, HT0.out.trans' HQ2.out⟩
end Go.Proofs.Ytmbjjkdocmcpdaa
