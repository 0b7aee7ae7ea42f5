/- A load's recipe goes on: the program's goOn, by what its next state waits for; the conditions are those that each states. -/
import Derived.Test.YtcbckehdlbbbbaaDoorMcLed
import Derived.Test.YtcbckehdlbbbbaaDoorMc07
import Derived.Test.YtcbckehdlbbbbaaDoorMc09
namespace Go.Proofs.YtcbckehdlbbbbaaDoor
open Go.RowKit Go.Maps Go.ChangeMaps
set_option linter.unusedVariables false
set_option linter.unusedSimpArgs false
section
variable {w : World} {b r : Nat} {S : Ld} {vr vl : Value}
/-- a load's state is laid -/
def wrS (w : World) (b : Nat) (q : Nat) (m wt on tm : Int) : World := ((((w.setCell ⟨b, 3, none⟩ (.int .i64 q)).setCell ⟨b, 4, none⟩ (.int .i64 m)).setCell ⟨b, 5, none⟩ (.int .i64 wt)).setCell ⟨b, 6, none⟩ (.int .i64 on)).setCell ⟨b, 7, none⟩ (.int .i64 tm)
theorem touch_wrS (w : World) (b q : Nat) (m wt on tm : Int) : Touch [b] w (wrS w b q m wt on tm) := by
  unfold wrS
  exact (((((Touch.refl _ _).setCell (Or.inl (by simp)) _).setCell (Or.inl (by simp)) _).setCell (Or.inl (by simp)) _).setCell (Or.inl (by simp)) _).setCell (Or.inl (by simp)) _
theorem Lq.state (h : Lq w b r S vr vl) (q : Nat) (m wt on tm : Int) : Lq (wrS w b q m wt on tm) b r (goS S q m wt on tm) vr vl := by
  have T := touch_wrS w b q m wt on tm
  refine ⟨?_, own_touch h.row T (fun q hq e' => ?_), h.vr, h.lf.keep T (fun k hk => Or.inr (by simp only [List.mem_singleton] at hk; omega)), h.rb⟩
  · have := bset (i := 7) (bset (i := 6) (bset (i := 5) (bset (i := 4) (bset (i := 3) h.bl (.int .i64 q)) (.int .i64 m)) (.int .i64 wt)) (.int .i64 on)) (.int .i64 tm)
    simpa [lc, goS, wrS] using this
  · obtain ⟨c, e⟩ := h.vr
    rw [e] at hq
    simp only [Value.ownBlock, Option.some.injEq] at hq
    subst hq
    have := h.rb
    simp at e'
    omega
/-- the boxes of goOn -/
structure Gb (w V : World) (q : Nat) (m wt on a0 run a2 a3 : Int) : Prop where
  z : w.heap.size + 1 + 1 < V.heap.size
  b0 : V.heap[w.heap.size]? = some (.cells #[.int .i64 q, .int .i64 m, .int .i64 wt, .int .i64 on] 76 (0, 0))
  b1 : V.heap[w.heap.size + 1]? = some (.cells #[.int .i64 0, .int .i64 0, .int .i64 0, .int .i64 0] 43 (0, 0))
  b2 : V.heap[w.heap.size + 1 + 1]? = some (.cells #[.int .i64 a0, .int .i64 run, .int .i64 a2, .int .i64 a3] 43 (0, 0))
theorem gb_start (w : World) (q : Nat) (m wt on run : Int) (V : World) (hV : V = ((w.alloc (.cells #[.int .i64 q, .int .i64 m, .int .i64 wt, .int .i64 on] 76)).alloc (.cells #[.int .i64 0, .int .i64 0, .int .i64 0, .int .i64 0] 43)).alloc (.cells #[.int .i64 1, .int .i64 run, .int .i64 0, .int .i64 0] 43)) : Touch [] w V ∧ Gb w V q m wt on 1 run 0 0 := by
  have hb2 : V.heap[w.heap.size + 1 + 1]? = some (.cells #[.int .i64 1, .int .i64 run, .int .i64 0, .int .i64 0] 43 (0, 0)) := by
    rw [hV]
    have := heap_alloc_new ((w.alloc (.cells #[.int .i64 q, .int .i64 m, .int .i64 wt, .int .i64 on] 76)).alloc (.cells #[.int .i64 0, .int .i64 0, .int .i64 0, .int .i64 0] 43)) (.cells #[.int .i64 1, .int .i64 run, .int .i64 0, .int .i64 0] 43)
    rw [World.size_alloc, World.size_alloc] at this
    exact this
  refine ⟨by rw [hV]; exact (((Touch.refl _ _).alloc _).alloc _).alloc _, block_lt hb2, ?_, ?_, hb2⟩
  · rw [hV]; exact (((Touch.refl [] _).alloc _).alloc _).keep (heap_alloc_new w _) (by simp)
  · rw [hV]
    have := heap_alloc_new (w.alloc (.cells #[.int .i64 q, .int .i64 m, .int .i64 wt, .int .i64 on] 76)) (.cells #[.int .i64 0, .int .i64 0, .int .i64 0, .int .i64 0] 43)
    rw [World.size_alloc] at this
    exact ((Touch.refl [] _).alloc _).keep this (by simp)
theorem Gb.keep {V V' : World} {q : Nat} {m wt on a0 run a2 a3 : Int} {F : List Nat} (h : Gb w V q m wt on a0 run a2 a3) (T : Touch F V V') (hF : ∀ k ∈ F, k < w.heap.size) : Gb w V' q m wt on a0 run a2 a3 :=
  ⟨Nat.lt_of_lt_of_le h.z T.size, T.keep h.b0 (fun e => by have := hF _ e; omega), T.keep h.b1 (fun e => by have := hF _ e; omega), T.keep h.b2 (fun e => by have := hF _ e; omega)⟩
def fin4g (w : World) (g : Nat) (x0 x1 x2 x3 : Int) : World := (((w.setCell ⟨g, 0, none⟩ (.int .i64 x0)).setCell ⟨g, 1, none⟩ (.int .i64 x1)).setCell ⟨g, 2, none⟩ (.int .i64 x2)).setCell ⟨g, 3, none⟩ (.int .i64 x3)
theorem touch_fin4g (w : World) (g : Nat) (x0 x1 x2 x3 : Int) : Touch [g] w (fin4g w g x0 x1 x2 x3) := by
  unfold fin4g
  exact ((((Touch.refl _ _).setCell (Or.inl (by simp)) _).setCell (Or.inl (by simp)) _).setCell (Or.inl (by simp)) _).setCell (Or.inl (by simp)) _
/-- what is read at the end of goOn -/
structure Gf (w W5 : World) (a0 run a2 a3 : Int) : Prop where
  d0 : W5.cell? ⟨w.heap.size + 1 + 1, 0, none⟩ = some (.int .i64 a0)
  d1 : W5.cell? ⟨w.heap.size + 1 + 1, 1, none⟩ = some (.int .i64 run)
  d2 : W5.cell? ⟨w.heap.size + 1 + 1, 2, none⟩ = some (.int .i64 a2)
  d3 : W5.cell? ⟨w.heap.size + 1 + 1, 3, none⟩ = some (.int .i64 a3)
  f0 : W5.cell? ⟨w.heap.size + 1, 0, none⟩ = some (.int .i64 0)
  f1 : W5.cell? ⟨w.heap.size + 1, 1, none⟩ = some (.int .i64 0)
  f2 : W5.cell? ⟨w.heap.size + 1, 2, none⟩ = some (.int .i64 0)
  f3 : W5.cell? ⟨w.heap.size + 1, 3, none⟩ = some (.int .i64 0)
  ff : ∀ i, W5.frozen? ⟨w.heap.size + 1, i, none⟩ = false
  z : w.heap.size + 1 + 1 < W5.heap.size
theorem Gb.gf {V : World} {q : Nat} {m wt on a0 run a2 a3 : Int} (h : Gb w V q m wt on a0 run a2 a3) : Gf w V a0 run a2 a3 :=
  ⟨cell_at h.b2 rfl, cell_at h.b2 rfl, cell_at h.b2 rfl, cell_at h.b2 rfl, cell_at h.b1 rfl, cell_at h.b1 rfl, cell_at h.b1 rfl, cell_at h.b1 rfl, froz_at h.b1, h.z⟩
theorem go_fin {W : World} {q : Nat} {m wt on a0 run a2 a3 : Int} {F : List Nat} (hg : Gb w W q m wt on a0 run a2 a3) (hq : Lq W b r S vr vl) (T : Touch F w W) (hF : b ∈ F) (hb : b < w.heap.size) (W5 : World) (h5 : W5 = (wrS W b q m wt on a3).drew) :
    Gf w W5 a0 run a2 a3 ∧ Lq (fin4g W5 (w.heap.size + 1) a0 run a2 a3) b r (goS S q m wt on a3) vr vl ∧ Touch F w (fin4g W5 (w.heap.size + 1) a0 run a2 a3) ∧ Touch [b, w.heap.size + 1] W (fin4g W5 (w.heap.size + 1) a0 run a2 a3) := by
  have T5 : Touch [b] W W5 := by rw [h5]; exact (touch_wrS W b q m wt on a3).drew
  have g5 := hg.keep T5 (fun k hk => by simp at hk; omega)
  have q5 : Lq W5 b r (goS S q m wt on a3) vr vl := by rw [h5]; exact (hq.state q m wt on a3).keep0 (Touch.refl _ _).drew
  have T6 := touch_fin4g W5 (w.heap.size + 1) a0 run a2 a3
  refine ⟨g5.gf, q5.keep T6 (fun k hk => by simp at hk; omega), (T.trans T5 (fun k hk => Or.inl (by simp at hk; rw [hk]; exact hF))).trans T6 (fun k hk => Or.inr (by simp at hk; omega)), ?_⟩
  exact (T5.mono (fun k hk => by simp at hk; simp [hk])).trans T6 (fun k hk => Or.inl (by simp at hk; simp [hk]))
/-- boxes that were written -/
theorem Gb.cook {V : World} {q : Nat} {m wt on a0 run a2 a3 : Int} (h : Gb w V q m wt on a0 run a2 a3) : Gb w ((V.setCell ⟨w.heap.size, 2, none⟩ (.int .i64 0)).setCell ⟨w.heap.size, 3, none⟩ (.int .i64 0)) q m 0 0 a0 run a2 a3 := by
  have T : Touch [w.heap.size] V ((V.setCell ⟨w.heap.size, 2, none⟩ (.int .i64 0)).setCell ⟨w.heap.size, 3, none⟩ (.int .i64 0)) := ((Touch.refl _ _).setCell (Or.inl (by simp)) _).setCell (Or.inl (by simp)) _
  refine ⟨Nat.lt_of_lt_of_le h.z T.size, ?_, T.keep h.b1 (by simp), T.keep h.b2 (by simp; omega)⟩
  have := bset (i := 3) (bset (i := 2) h.b0 (.int .i64 0)) (.int .i64 0)
  simpa using this
theorem Gb.done2 {V : World} {q : Nat} {m wt on a0 run a2 a3 : Int} (h : Gb w V q m wt on a0 run a2 a3) (x0 x2 : Int) : Gb w ((V.setCell ⟨w.heap.size + 1 + 1, 0, none⟩ (.int .i64 x0)).setCell ⟨w.heap.size + 1 + 1, 2, none⟩ (.int .i64 x2)) q m wt on x0 run x2 a3 := by
  have T : Touch [w.heap.size + 1 + 1] V ((V.setCell ⟨w.heap.size + 1 + 1, 0, none⟩ (.int .i64 x0)).setCell ⟨w.heap.size + 1 + 1, 2, none⟩ (.int .i64 x2)) := ((Touch.refl _ _).setCell (Or.inl (by simp)) _).setCell (Or.inl (by simp)) _
  refine ⟨Nat.lt_of_lt_of_le h.z T.size, T.keep h.b0 (by simp; omega), T.keep h.b1 (by simp), ?_⟩
  have := bset (i := 2) (bset (i := 0) h.b2 (.int .i64 x0)) (.int .i64 x2)
  simpa using this
theorem Gb.done3 {V : World} {q : Nat} {m wt on a0 run a2 a3 : Int} (h : Gb w V q m wt on a0 run a2 a3) (x0 x2 x3 : Int) : Gb w (((V.setCell ⟨w.heap.size + 1 + 1, 0, none⟩ (.int .i64 x0)).setCell ⟨w.heap.size + 1 + 1, 2, none⟩ (.int .i64 x2)).setCell ⟨w.heap.size + 1 + 1, 3, none⟩ (.int .i64 x3)) q m wt on x0 run x2 x3 := by
  have h2 := h.done2 x0 x2
  have T : Touch [w.heap.size + 1 + 1] ((V.setCell ⟨w.heap.size + 1 + 1, 0, none⟩ (.int .i64 x0)).setCell ⟨w.heap.size + 1 + 1, 2, none⟩ (.int .i64 x2)) (((V.setCell ⟨w.heap.size + 1 + 1, 0, none⟩ (.int .i64 x0)).setCell ⟨w.heap.size + 1 + 1, 2, none⟩ (.int .i64 x2)).setCell ⟨w.heap.size + 1 + 1, 3, none⟩ (.int .i64 x3)) := (Touch.refl _ _).setCell (Or.inl (by simp)) _
  refine ⟨Nat.lt_of_lt_of_le h2.z T.size, T.keep h2.b0 (by simp; omega), T.keep h2.b1 (by simp), ?_⟩
  have := bset (i := 3) h2.b2 (.int .i64 x3)
  simpa using this
set_option maxHeartbeats 8000000 in
set_option maxRecDepth 100000 in
theorem goOn_none (h : Lq w b r S vr vl) {q0 : Ip} {l0 : List Ip} (e : S.left = q0 :: l0) (q : Nat) (m on : Int) (vg vc : Value) : Calls Tryd.prog 33 #[.pointer (some ⟨b, 0, none⟩), .agg #[.int .i64 q, .int .i64 m, .int .i64 0, .int .i64 on], vg, vc] w fun e w' => e = .returned (.tuple #[.agg #[.int .i64 1, .int .i64 q0.1.run, .int .i64 0, .int .i64 0], .int .i64 0]) ∧ Lq w' b r (goS S q m 0 on 0) vr vl ∧ Touch [b] w w' := by
  obtain ⟨al, cl, rfl, hcl⟩ := h.vform
  obtain ⟨g, off, rfl, hA⟩ := Its.item (i := 0) h.lf.its (by rw [e]; simp)
  have hq : S.left[0]'(by rw [e]; simp) = q0 := by simp [e]
  rw [hq] at hA
  simp only [Nat.zero_mul, Nat.add_zero] at hA
  have hbw : b < w.heap.size := block_lt h.bl
  obtain ⟨V, hV⟩ : ∃ V, V = ((w.alloc (.cells #[.int .i64 q, .int .i64 m, .int .i64 0, .int .i64 on] 76)).alloc (.cells #[.int .i64 0, .int .i64 0, .int .i64 0, .int .i64 0] 43)).alloc (.cells #[.int .i64 1, .int .i64 q0.1.run, .int .i64 0, .int .i64 0] 43) := ⟨_, rfl⟩
  have HG := hid (gb_start w q m 0 on q0.1.run V hV)
  have HL := hid h
  have y0 := hA.c0
  have c2 : w.cell? ⟨b, 2, none⟩ = some (.slice (some ⟨g, off, none⟩) S.left.length cl) := cell_at h.bl rfl
  have hzl : (0 : Int) < (S.left.length : Int) := by rw [e]; simp
  have hgw : g < w.heap.size := cell_lt' y0
  clear h hA hcl hq e
  go_enter Tryd.func33, Tryd.ntmps33
  go_upto_region 2 with fail
  rw [← hV]
  clear hV y0 c2
  have HGW := hid HG.out.2
  have HQW := hid (HL.out.keep0 HG.out.1)
  have HTW : Hid (Touch [b] w V) := hid (HG.out.1.mono (fun _ e => by cases e))
  have x2 := cell_at (j := 2) (v := .int .i64 0) HGW.out.b0 rfl
  go_upto_region 15 with fail
  clear x2
  refine wp_region_H (S := fun w' => Touch [b] V w') (by kernel_rfl) ?_
  have s0 : Touch [b] V V.drew := (Touch.refl _ _).drew
  have x0 : ∀ w', Touch [b] V w' → w'.cell? ⟨w.heap.size, 0, none⟩ = some (.int .i64 (q : Nat)) := fun w' T => cell_at (T.keep HGW.out.b0 (by simp; omega)) rfl
  have x1 : ∀ w', Touch [b] V w' → w'.cell? ⟨w.heap.size, 1, none⟩ = some (.int .i64 m) := fun w' T => cell_at (T.keep HGW.out.b0 (by simp; omega)) rfl
  have x2 : ∀ w', Touch [b] V w' → w'.cell? ⟨w.heap.size, 2, none⟩ = some (.int .i64 0) := fun w' T => cell_at (T.keep HGW.out.b0 (by simp; omega)) rfl
  have x3 : ∀ w', Touch [b] V w' → w'.cell? ⟨w.heap.size, 3, none⟩ = some (.int .i64 on) := fun w' T => cell_at (T.keep HGW.out.b0 (by simp; omega)) rfl
  have d3 : ∀ w', Touch [b] V w' → w'.cell? ⟨w.heap.size + 1 + 1, 3, none⟩ = some (.int .i64 0) := fun w' T => cell_at (T.keep HGW.out.b2 (by simp; omega)) rfl
  have s3 := cell_at (j := 3) (v := .int .i64 S.p) HQW.out.bl rfl
  have s4 := cell_at (j := 4) (v := .int .i64 S.n) HQW.out.bl rfl
  have s5 := cell_at (j := 5) (v := .int .i64 S.wt) HQW.out.bl rfl
  have s6 := cell_at (j := 6) (v := .int .i64 S.on) HQW.out.bl rfl
  have s7 := cell_at (j := 7) (v := .int .i64 S.tm) HQW.out.bl rfl
  have sf := froz_at HQW.out.bl
  have sl := block_lt HQW.out.bl
  refine wpH_take (i := 0) (v := (.pointer (some ⟨b, 0, none⟩))) (some 68) rfl rfl (by kernel_rfl) (by kernel_rfl) (by kernel_rfl) (fun _ _ _ h => h) (Or.inl ⟨by rfl, fun w' hS => (by go_simp)⟩) s0 ?_
  try simp only [Go.Act.put, List.setIfInBounds_toArray, List.set_cons_zero, List.set_cons_succ]
  refine wpH_take (i := 1) (v := (.pointer (some ⟨b, 0, none⟩))) (some 69) rfl rfl (by kernel_rfl) (by kernel_rfl) (by kernel_rfl) (fun _ _ _ h => h) (Or.inl ⟨by rfl, fun w' hS => (by go_simp)⟩) s0 ?_
  try simp only [Go.Act.put, List.setIfInBounds_toArray, List.set_cons_zero, List.set_cons_succ]
  refine wpH_take (i := 2) (v := (.agg #[.int .i64 (q : Nat), .int .i64 m, .int .i64 0, .int .i64 on])) (some 70) rfl rfl (by kernel_rfl) (by kernel_rfl) (by kernel_rfl) (fun _ _ _ h => h) (Or.inl ⟨by rfl, fun w' hS => (by have z0 := x0 _ hS; have z1 := x1 _ hS; have z2 := x2 _ hS; have z3 := x3 _ hS; go_simp)⟩) s0 ?_
  try simp only [Go.Act.put, List.setIfInBounds_toArray, List.set_cons_zero, List.set_cons_succ]
  refine wpH_take (i := 3) (v := (.pointer (some ⟨w.heap.size + 1 + 1, 3, none⟩))) (some 71) rfl rfl (by kernel_rfl) (by kernel_rfl) (by kernel_rfl) (fun _ _ _ h => h) (Or.inl ⟨by rfl, fun w' hS => (by go_simp)⟩) s0 ?_
  try simp only [Go.Act.put, List.setIfInBounds_toArray, List.set_cons_zero, List.set_cons_succ]
  refine wpH_take (i := 4) (v := (.int .i64 0)) (some 72) rfl rfl (by kernel_rfl) (by kernel_rfl) (by kernel_rfl) (fun _ _ _ h => h) (Or.inl ⟨by rfl, fun w' hS => (by have z0 := d3 _ hS; go_simp)⟩) s0 ?_
  try simp only [Go.Act.put, List.setIfInBounds_toArray, List.set_cons_zero, List.set_cons_succ]
  refine wpH_take (i := 5) (v := (.pointer (some ⟨b, 0, none⟩))) (some 73) rfl rfl (by kernel_rfl) (by kernel_rfl) (by kernel_rfl) (fun _ _ _ h => h) (Or.inl ⟨by rfl, fun w' hS => (by go_simp)⟩) s0 ?_
  try simp only [Go.Act.put, List.setIfInBounds_toArray, List.set_cons_zero, List.set_cons_succ]
  refine wpH_take (i := 6) (v := (.pointer (some ⟨b, 3, none⟩))) (some 74) rfl rfl (by kernel_rfl) (by kernel_rfl) (by kernel_rfl) (fun _ _ _ h => h) (Or.inl ⟨by rfl, fun w' hS => (by go_simp)⟩) s0 ?_
  try simp only [Go.Act.put, List.setIfInBounds_toArray, List.set_cons_zero, List.set_cons_succ]
  refine wpH_call (i := 7) (o := { dst := none, op := Op.store 76 (Operand.tmp 74) (Operand.tmp 70), type := 0, pos := _, after := #[{ on := 6, ground := Ground.data }, { on := 2, ground := Ground.data }, { on := 0, ground := Ground.phase }, { on := 1, ground := Ground.textOnly Departure.lateStores }, { on := 2, ground := Ground.phase }, { on := 3, ground := Ground.textOnly Departure.lateStores }, { on := 4, ground := Ground.textOnly Departure.lateStores }], guard := none }) (by kernel_rfl) rfl (fun K' hK => ?_)
  rw [if_pos (by rfl)]
  go_simp
  refine hK.out _ _ ((((((Touch.refl _ _).setCell (Or.inl (by simp)) _).setCell (Or.inl (by simp)) _).setCell (Or.inl (by simp)) _).setCell (Or.inl (by simp)) _).drew) ?_
  clear hK
  try simp only [Go.Act.put, List.setIfInBounds_toArray, List.set_cons_zero, List.set_cons_succ]
  refine wpH_take (i := 8) (v := (.pointer (some ⟨b, 0, none⟩))) (some 75) rfl rfl (by kernel_rfl) (by kernel_rfl) (by kernel_rfl) (fun _ _ _ h => h) (Or.inl ⟨by rfl, fun w' hS => (by go_simp)⟩) ((((((Touch.refl _ _).setCell (Or.inl (by simp)) _).setCell (Or.inl (by simp)) _).setCell (Or.inl (by simp)) _).setCell (Or.inl (by simp)) _).drew) ?_
  try simp only [Go.Act.put, List.setIfInBounds_toArray, List.set_cons_zero, List.set_cons_succ]
  refine wpH_take (i := 9) (v := (.pointer (some ⟨b, 7, none⟩))) (some 76) rfl rfl (by kernel_rfl) (by kernel_rfl) (by kernel_rfl) (fun _ _ _ h => h) (Or.inl ⟨by rfl, fun w' hS => (by go_simp)⟩) ((((((Touch.refl _ _).setCell (Or.inl (by simp)) _).setCell (Or.inl (by simp)) _).setCell (Or.inl (by simp)) _).setCell (Or.inl (by simp)) _).drew) ?_
  try simp only [Go.Act.put, List.setIfInBounds_toArray, List.set_cons_zero, List.set_cons_succ]
  refine wpH_call (i := 10) (o := { dst := none, op := Op.store 3 (Operand.tmp 76) (Operand.tmp 72), type := 0, pos := _, after := #[{ on := 9, ground := Ground.data }, { on := 4, ground := Ground.data }, { on := 7, ground := Ground.chain }, { on := 0, ground := Ground.phase }, { on := 1, ground := Ground.phase }, { on := 2, ground := Ground.phase }, { on := 3, ground := Ground.phase }, { on := 4, ground := Ground.phase }, { on := 5, ground := Ground.phase }, { on := 6, ground := Ground.phase }, { on := 7, ground := Ground.phase }], guard := none }) (by kernel_rfl) rfl (fun K' hK => ?_)
  rw [if_pos (by rfl)]
  go_simp
  refine hK.out _ _ (((((((Touch.refl _ _).setCell (Or.inl (by simp)) _).setCell (Or.inl (by simp)) _).setCell (Or.inl (by simp)) _).setCell (Or.inl (by simp)) _).setCell (Or.inl (by simp)) _).drew) ?_
  clear hK
  try simp only [Go.Act.put, List.setIfInBounds_toArray, List.set_cons_zero, List.set_cons_succ]
  refine wpAnyH_done (by kernel_rfl) ?_ _
  obtain ⟨W5, hW5⟩ : ∃ W5, W5 = (((((V.setCell ⟨b, 3, none⟩ (.int .i64 (q : Nat))).setCell ⟨b, 4, none⟩ (.int .i64 m)).setCell ⟨b, 5, none⟩ (.int .i64 0)).setCell ⟨b, 6, none⟩ (.int .i64 on)).setCell ⟨b, 7, none⟩ (.int .i64 0)).drew := ⟨_, rfl⟩
  rw [← hW5]
  have HF := hid (go_fin HGW.out HQW.out HTW.out (by simp) hbw W5 hW5)
  clear hW5 s0 x0 x1 x2 x3 d3 s3 s4 s5 s6 s7 sf sl
  have d0 := HF.out.1.d0
  have d1 := HF.out.1.d1
  have d2 := HF.out.1.d2
  have d3 := HF.out.1.d3
  have f0 := HF.out.1.f0
  have f1 := HF.out.1.f1
  have f2 := HF.out.1.f2
  have f3 := HF.out.1.f3
  have ff := HF.out.1.ff
  have zz := HF.out.1.z
  have HR := hid HF.out.2
  unfold fin4g at HR
  clear HF
  go_wp2
  refine bodyPost_ret (v := .tuple #[.agg #[.int .i64 1, .int .i64 q0.1.run, .int .i64 0, .int .i64 0], .int .i64 0]) (by simp [results, Tryd.results33, go_sem, f0, f1, f2, f3, d0, d1, d2, d3]) rfl ?_
  exact ⟨rfl, HR.out.1, HR.out.2.1⟩
set_option maxHeartbeats 8000000 in
set_option maxRecDepth 100000 in
theorem goOn_open (h : Lq w b r S vr vl) {q0 : Ip} {l0 : List Ip} (e : S.left = q0 :: l0) (q : Nat) (m on : Int) (vg vc : Value) {FG : List Nat} (hFG : ∀ k ∈ FG, b < k ∧ k < w.heap.size) (hc : ∀ w1, Touch [] w w1 → Calls Tryd.prog 49 #[vg, .int .i64 on, .int .i64 S.num] w1 fun e w2 => e = .returned (.tuple #[.bool true, .int .i64 0]) ∧ Touch FG w1 w2) : Calls Tryd.prog 33 #[.pointer (some ⟨b, 0, none⟩), .agg #[.int .i64 q, .int .i64 m, .int .i64 1, .int .i64 on], vg, vc] w fun e w' => e = .returned (.tuple #[.agg #[.int .i64 1, .int .i64 q0.1.run, .int .i64 0, .int .i64 0], .int .i64 0]) ∧ Lq w' b r (goS S q m 0 0 0) vr vl ∧ Touch (b :: FG) w w' := by
  obtain ⟨al, cl, rfl, hcl⟩ := h.vform
  obtain ⟨g, off, rfl, hA⟩ := Its.item (i := 0) h.lf.its (by rw [e]; simp)
  have hq : S.left[0]'(by rw [e]; simp) = q0 := by simp [e]
  rw [hq] at hA
  simp only [Nat.zero_mul, Nat.add_zero] at hA
  have hbw : b < w.heap.size := block_lt h.bl
  obtain ⟨V, hV⟩ : ∃ V, V = ((w.alloc (.cells #[.int .i64 q, .int .i64 m, .int .i64 1, .int .i64 on] 76)).alloc (.cells #[.int .i64 0, .int .i64 0, .int .i64 0, .int .i64 0] 43)).alloc (.cells #[.int .i64 1, .int .i64 q0.1.run, .int .i64 0, .int .i64 0] 43) := ⟨_, rfl⟩
  have HG := hid (gb_start w q m 1 on q0.1.run V hV)
  have HL := hid h
  have y0 := hA.c0
  have c2 : w.cell? ⟨b, 2, none⟩ = some (.slice (some ⟨g, off, none⟩) S.left.length cl) := cell_at h.bl rfl
  have hzl : (0 : Int) < (S.left.length : Int) := by rw [e]; simp
  have hgw : g < w.heap.size := cell_lt' y0
  clear h hA hcl hq e
  go_enter Tryd.func33, Tryd.ntmps33
  go_upto_region 2 with fail
  rw [← hV]
  clear hV y0 c2
  have HC : Hid (Calls Tryd.prog 49 #[vg, .int .i64 on, .int .i64 S.num] V.drew fun e w2 => e = .returned (.tuple #[.bool true, .int .i64 0]) ∧ Touch FG V w2) := hid ((hc _ (HG.out.1.trans' (Touch.refl _ _).drew)).mono (by
    rintro e w2 ⟨rfl, g⟩
    exact ⟨rfl, ((Touch.refl FG V).drew).trans' g⟩))
  have x2 := cell_at (j := 2) (v := .int .i64 1) HG.out.2.b0 rfl
  go_upto_region 4 with fail
  clear x2
  refine wp_region_H (S := fun w' => Touch FG V w') (by kernel_rfl) ?_
  have s0 : Touch FG V V.drew := (Touch.refl _ _).drew
  have x3 : ∀ w', Touch FG V w' → w'.cell? ⟨w.heap.size, 3, none⟩ = some (.int .i64 on) := fun w' T => cell_at (T.keep HG.out.2.b0 (fun e => by have := hFG _ e; omega)) rfl
  have n0 : ∀ w', Touch FG V w' → w'.cell? ⟨b, 0, none⟩ = some (.int .i64 S.num) := fun w' T => cell_at (T.keep (HL.out.keep0 HG.out.1).bl (fun e => by have := hFG _ e; omega)) rfl
  refine wpH_take (i := 0) (v := (vg)) (some 28) rfl rfl (by kernel_rfl) (by kernel_rfl) (by kernel_rfl) (fun _ _ _ h => h) (Or.inl ⟨by rfl, fun w' hS => (by go_simp)⟩) s0 ?_
  try simp only [Go.Act.put, List.setIfInBounds_toArray, List.set_cons_zero, List.set_cons_succ]
  refine wpH_take (i := 1) (v := (.pointer (some ⟨w.heap.size, 3, none⟩))) (some 29) rfl rfl (by kernel_rfl) (by kernel_rfl) (by kernel_rfl) (fun _ _ _ h => h) (Or.inl ⟨by rfl, fun w' hS => (by go_simp)⟩) s0 ?_
  try simp only [Go.Act.put, List.setIfInBounds_toArray, List.set_cons_zero, List.set_cons_succ]
  refine wpH_take (i := 2) (v := (.int .i64 on)) (some 30) rfl rfl (by kernel_rfl) (by kernel_rfl) (by kernel_rfl) (fun _ _ _ h => h) (Or.inl ⟨by rfl, fun w' hS => (by have z0 := x3 _ hS; go_simp)⟩) s0 ?_
  try simp only [Go.Act.put, List.setIfInBounds_toArray, List.set_cons_zero, List.set_cons_succ]
  refine wpH_take (i := 3) (v := (.pointer (some ⟨b, 0, none⟩))) (some 31) rfl rfl (by kernel_rfl) (by kernel_rfl) (by kernel_rfl) (fun _ _ _ h => h) (Or.inl ⟨by rfl, fun w' hS => (by go_simp)⟩) s0 ?_
  try simp only [Go.Act.put, List.setIfInBounds_toArray, List.set_cons_zero, List.set_cons_succ]
  refine wpH_take (i := 4) (v := (.pointer (some ⟨b, 0, none⟩))) (some 32) rfl rfl (by kernel_rfl) (by kernel_rfl) (by kernel_rfl) (fun _ _ _ h => h) (Or.inl ⟨by rfl, fun w' hS => (by go_simp)⟩) s0 ?_
  try simp only [Go.Act.put, List.setIfInBounds_toArray, List.set_cons_zero, List.set_cons_succ]
  refine wpH_take (i := 5) (v := (.pointer (some ⟨b, 0, none⟩))) (some 33) rfl rfl (by kernel_rfl) (by kernel_rfl) (by kernel_rfl) (fun _ _ _ h => h) (Or.inl ⟨by rfl, fun w' hS => (by go_simp)⟩) s0 ?_
  try simp only [Go.Act.put, List.setIfInBounds_toArray, List.set_cons_zero, List.set_cons_succ]
  refine wpH_take (i := 6) (v := (.int .i64 S.num)) (some 34) rfl rfl (by kernel_rfl) (by kernel_rfl) (by kernel_rfl) (fun _ _ _ h => h) (Or.inl ⟨by rfl, fun w' hS => (by have z0 := n0 _ hS; go_simp)⟩) s0 ?_
  try simp only [Go.Act.put, List.setIfInBounds_toArray, List.set_cons_zero, List.set_cons_succ]
  refine wpH_call (i := 7) (o := { dst := some 35, op := Op.call { callee := Callee.value (Operand.func 49), args := #[Operand.tmp 28, Operand.tmp 30, Operand.tmp 34], argTypes := #[36, 3, 3] }, type := 123, pos := _, after := #[{ on := 0, ground := Ground.data }, { on := 2, ground := Ground.data }, { on := 6, ground := Ground.data }], guard := none }) (by kernel_rfl) rfl (fun K' hK => ?_)
  rw [if_pos (by rfl)]
  go_simp
  refine HC.out.mono ?_
  rintro e' Y ⟨rfl, gY⟩
  have hY : Touch FG V Y := gY
  refine hK.out _ _ hY ?_
  clear hK
  try simp only [Go.Act.put, List.setIfInBounds_toArray, List.set_cons_zero, List.set_cons_succ]
  refine wpH_take (i := 8) (v := (.tuple #[(.bool true), (.int .i64 0)])) (some 27) rfl rfl (by kernel_rfl) (by kernel_rfl) (by kernel_rfl) (fun _ _ _ h => h) (Or.inl ⟨by rfl, fun w' hS => (by go_simp)⟩) hY ?_
  try simp only [Go.Act.put, List.setIfInBounds_toArray, List.set_cons_zero, List.set_cons_succ]
  refine wpH_take (i := 9) (v := (.bool true)) (some 36) rfl rfl (by kernel_rfl) (by kernel_rfl) (by kernel_rfl) (fun _ _ _ h => h) (Or.inl ⟨by rfl, fun w' hS => (by go_simp)⟩) hY ?_
  try simp only [Go.Act.put, List.setIfInBounds_toArray, List.set_cons_zero, List.set_cons_succ]
  refine wpH_take (i := 10) (v := (.int .i64 0)) (some 37) rfl rfl (by kernel_rfl) (by kernel_rfl) (by kernel_rfl) (fun _ _ _ h => h) (Or.inl ⟨by rfl, fun w' hS => (by go_simp)⟩) hY ?_
  try simp only [Go.Act.put, List.setIfInBounds_toArray, List.set_cons_zero, List.set_cons_succ]
  refine wpH_take (i := 11) (v := (.bool true)) (some 11) rfl rfl (by kernel_rfl) (by kernel_rfl) (by kernel_rfl) (fun _ _ _ h => h) (Or.inl ⟨by rfl, fun w' hS => (by go_simp)⟩) hY ?_
  try simp only [Go.Act.put, List.setIfInBounds_toArray, List.set_cons_zero, List.set_cons_succ]
  refine wpH_take (i := 12) (v := (.int .i64 0)) (some 12) rfl rfl (by kernel_rfl) (by kernel_rfl) (by kernel_rfl) (fun _ _ _ h => h) (Or.inl ⟨by rfl, fun w' hS => (by go_simp)⟩) hY ?_
  try simp only [Go.Act.put, List.setIfInBounds_toArray, List.set_cons_zero, List.set_cons_succ]
  refine wpAnyH_done (by kernel_rfl) ?_ _
  have HY := hid hY
  clear s0 hY x3 n0 gY
  have HGY : Hid (Gb w Y q m 1 on 1 q0.1.run 0 0) := hid (HG.out.2.keep HY.out (fun k hk => (hFG k hk).2))
  have HQY := hid ((HL.out.keep0 HG.out.1).keep HY.out (fun k hk => (hFG k hk).1))
  have HTY : Hid (Touch FG w Y) := hid ((HG.out.1.mono (fun _ e => by cases e)).trans' HY.out)
  have x2 := cell_at (j := 2) (v := .int .i64 1) HGY.out.b0 rfl
  have x3 := cell_at (j := 3) (v := .int .i64 on) HGY.out.b0 rfl
  have xf := froz_at HGY.out.b0
  have xl := block_lt HGY.out.b0
  go_upto_region 15 with fail
  obtain ⟨W, hW⟩ : ∃ W, W = (Y.setCell ⟨w.heap.size, 2, none⟩ (.int .i64 0)).setCell ⟨w.heap.size, 3, none⟩ (.int .i64 0) := ⟨_, rfl⟩
  rw [← hW]
  have HT : Hid (Touch [w.heap.size] Y W) := hid (by rw [hW]; exact ((Touch.refl _ _).setCell (Or.inl (by simp)) _).setCell (Or.inl (by simp)) _)
  have HGW := hid HGY.out.cook
  rw [← hW] at HGW
  have HQW := hid (HQY.out.keep HT.out (fun k hk => by simp at hk; omega))
  have HTW : Hid (Touch (b :: FG) w W) := hid ((HTY.out.mono (fun k hk => List.mem_cons_of_mem _ hk)).trans HT.out (fun k hk => Or.inr (by simp at hk; omega)))
  clear hW x2 x3 xf xl
  refine wp_region_H (S := fun w' => Touch [b] W w') (by kernel_rfl) ?_
  have s0 : Touch [b] W W.drew := (Touch.refl _ _).drew
  have x0 : ∀ w', Touch [b] W w' → w'.cell? ⟨w.heap.size, 0, none⟩ = some (.int .i64 (q : Nat)) := fun w' T => cell_at (T.keep HGW.out.b0 (by simp; omega)) rfl
  have x1 : ∀ w', Touch [b] W w' → w'.cell? ⟨w.heap.size, 1, none⟩ = some (.int .i64 m) := fun w' T => cell_at (T.keep HGW.out.b0 (by simp; omega)) rfl
  have x2 : ∀ w', Touch [b] W w' → w'.cell? ⟨w.heap.size, 2, none⟩ = some (.int .i64 0) := fun w' T => cell_at (T.keep HGW.out.b0 (by simp; omega)) rfl
  have x3 : ∀ w', Touch [b] W w' → w'.cell? ⟨w.heap.size, 3, none⟩ = some (.int .i64 0) := fun w' T => cell_at (T.keep HGW.out.b0 (by simp; omega)) rfl
  have d3 : ∀ w', Touch [b] W w' → w'.cell? ⟨w.heap.size + 1 + 1, 3, none⟩ = some (.int .i64 0) := fun w' T => cell_at (T.keep HGW.out.b2 (by simp; omega)) rfl
  have s3 := cell_at (j := 3) (v := .int .i64 S.p) HQW.out.bl rfl
  have s4 := cell_at (j := 4) (v := .int .i64 S.n) HQW.out.bl rfl
  have s5 := cell_at (j := 5) (v := .int .i64 S.wt) HQW.out.bl rfl
  have s6 := cell_at (j := 6) (v := .int .i64 S.on) HQW.out.bl rfl
  have s7 := cell_at (j := 7) (v := .int .i64 S.tm) HQW.out.bl rfl
  have sf := froz_at HQW.out.bl
  have sl := block_lt HQW.out.bl
  refine wpH_take (i := 0) (v := (.pointer (some ⟨b, 0, none⟩))) (some 68) rfl rfl (by kernel_rfl) (by kernel_rfl) (by kernel_rfl) (fun _ _ _ h => h) (Or.inl ⟨by rfl, fun w' hS => (by go_simp)⟩) s0 ?_
  try simp only [Go.Act.put, List.setIfInBounds_toArray, List.set_cons_zero, List.set_cons_succ]
  refine wpH_take (i := 1) (v := (.pointer (some ⟨b, 0, none⟩))) (some 69) rfl rfl (by kernel_rfl) (by kernel_rfl) (by kernel_rfl) (fun _ _ _ h => h) (Or.inl ⟨by rfl, fun w' hS => (by go_simp)⟩) s0 ?_
  try simp only [Go.Act.put, List.setIfInBounds_toArray, List.set_cons_zero, List.set_cons_succ]
  refine wpH_take (i := 2) (v := (.agg #[.int .i64 (q : Nat), .int .i64 m, .int .i64 0, .int .i64 0])) (some 70) rfl rfl (by kernel_rfl) (by kernel_rfl) (by kernel_rfl) (fun _ _ _ h => h) (Or.inl ⟨by rfl, fun w' hS => (by have z0 := x0 _ hS; have z1 := x1 _ hS; have z2 := x2 _ hS; have z3 := x3 _ hS; go_simp)⟩) s0 ?_
  try simp only [Go.Act.put, List.setIfInBounds_toArray, List.set_cons_zero, List.set_cons_succ]
  refine wpH_take (i := 3) (v := (.pointer (some ⟨w.heap.size + 1 + 1, 3, none⟩))) (some 71) rfl rfl (by kernel_rfl) (by kernel_rfl) (by kernel_rfl) (fun _ _ _ h => h) (Or.inl ⟨by rfl, fun w' hS => (by go_simp)⟩) s0 ?_
  try simp only [Go.Act.put, List.setIfInBounds_toArray, List.set_cons_zero, List.set_cons_succ]
  refine wpH_take (i := 4) (v := (.int .i64 0)) (some 72) rfl rfl (by kernel_rfl) (by kernel_rfl) (by kernel_rfl) (fun _ _ _ h => h) (Or.inl ⟨by rfl, fun w' hS => (by have z0 := d3 _ hS; go_simp)⟩) s0 ?_
  try simp only [Go.Act.put, List.setIfInBounds_toArray, List.set_cons_zero, List.set_cons_succ]
  refine wpH_take (i := 5) (v := (.pointer (some ⟨b, 0, none⟩))) (some 73) rfl rfl (by kernel_rfl) (by kernel_rfl) (by kernel_rfl) (fun _ _ _ h => h) (Or.inl ⟨by rfl, fun w' hS => (by go_simp)⟩) s0 ?_
  try simp only [Go.Act.put, List.setIfInBounds_toArray, List.set_cons_zero, List.set_cons_succ]
  refine wpH_take (i := 6) (v := (.pointer (some ⟨b, 3, none⟩))) (some 74) rfl rfl (by kernel_rfl) (by kernel_rfl) (by kernel_rfl) (fun _ _ _ h => h) (Or.inl ⟨by rfl, fun w' hS => (by go_simp)⟩) s0 ?_
  try simp only [Go.Act.put, List.setIfInBounds_toArray, List.set_cons_zero, List.set_cons_succ]
  refine wpH_call (i := 7) (o := { dst := none, op := Op.store 76 (Operand.tmp 74) (Operand.tmp 70), type := 0, pos := _, after := #[{ on := 6, ground := Ground.data }, { on := 2, ground := Ground.data }, { on := 0, ground := Ground.phase }, { on := 1, ground := Ground.textOnly Departure.lateStores }, { on := 2, ground := Ground.phase }, { on := 3, ground := Ground.textOnly Departure.lateStores }, { on := 4, ground := Ground.textOnly Departure.lateStores }], guard := none }) (by kernel_rfl) rfl (fun K' hK => ?_)
  rw [if_pos (by rfl)]
  go_simp
  refine hK.out _ _ ((((((Touch.refl _ _).setCell (Or.inl (by simp)) _).setCell (Or.inl (by simp)) _).setCell (Or.inl (by simp)) _).setCell (Or.inl (by simp)) _).drew) ?_
  clear hK
  try simp only [Go.Act.put, List.setIfInBounds_toArray, List.set_cons_zero, List.set_cons_succ]
  refine wpH_take (i := 8) (v := (.pointer (some ⟨b, 0, none⟩))) (some 75) rfl rfl (by kernel_rfl) (by kernel_rfl) (by kernel_rfl) (fun _ _ _ h => h) (Or.inl ⟨by rfl, fun w' hS => (by go_simp)⟩) ((((((Touch.refl _ _).setCell (Or.inl (by simp)) _).setCell (Or.inl (by simp)) _).setCell (Or.inl (by simp)) _).setCell (Or.inl (by simp)) _).drew) ?_
  try simp only [Go.Act.put, List.setIfInBounds_toArray, List.set_cons_zero, List.set_cons_succ]
  refine wpH_take (i := 9) (v := (.pointer (some ⟨b, 7, none⟩))) (some 76) rfl rfl (by kernel_rfl) (by kernel_rfl) (by kernel_rfl) (fun _ _ _ h => h) (Or.inl ⟨by rfl, fun w' hS => (by go_simp)⟩) ((((((Touch.refl _ _).setCell (Or.inl (by simp)) _).setCell (Or.inl (by simp)) _).setCell (Or.inl (by simp)) _).setCell (Or.inl (by simp)) _).drew) ?_
  try simp only [Go.Act.put, List.setIfInBounds_toArray, List.set_cons_zero, List.set_cons_succ]
  refine wpH_call (i := 10) (o := { dst := none, op := Op.store 3 (Operand.tmp 76) (Operand.tmp 72), type := 0, pos := _, after := #[{ on := 9, ground := Ground.data }, { on := 4, ground := Ground.data }, { on := 7, ground := Ground.chain }, { on := 0, ground := Ground.phase }, { on := 1, ground := Ground.phase }, { on := 2, ground := Ground.phase }, { on := 3, ground := Ground.phase }, { on := 4, ground := Ground.phase }, { on := 5, ground := Ground.phase }, { on := 6, ground := Ground.phase }, { on := 7, ground := Ground.phase }], guard := none }) (by kernel_rfl) rfl (fun K' hK => ?_)
  rw [if_pos (by rfl)]
  go_simp
  refine hK.out _ _ (((((((Touch.refl _ _).setCell (Or.inl (by simp)) _).setCell (Or.inl (by simp)) _).setCell (Or.inl (by simp)) _).setCell (Or.inl (by simp)) _).setCell (Or.inl (by simp)) _).drew) ?_
  clear hK
  try simp only [Go.Act.put, List.setIfInBounds_toArray, List.set_cons_zero, List.set_cons_succ]
  refine wpAnyH_done (by kernel_rfl) ?_ _
  obtain ⟨W5, hW5⟩ : ∃ W5, W5 = (((((W.setCell ⟨b, 3, none⟩ (.int .i64 (q : Nat))).setCell ⟨b, 4, none⟩ (.int .i64 m)).setCell ⟨b, 5, none⟩ (.int .i64 0)).setCell ⟨b, 6, none⟩ (.int .i64 0)).setCell ⟨b, 7, none⟩ (.int .i64 0)).drew := ⟨_, rfl⟩
  rw [← hW5]
  have HF := hid (go_fin HGW.out HQW.out HTW.out (by simp) hbw W5 hW5)
  clear hW5 s0 x0 x1 x2 x3 d3 s3 s4 s5 s6 s7 sf sl
  have d0 := HF.out.1.d0
  have d1 := HF.out.1.d1
  have d2 := HF.out.1.d2
  have d3 := HF.out.1.d3
  have f0 := HF.out.1.f0
  have f1 := HF.out.1.f1
  have f2 := HF.out.1.f2
  have f3 := HF.out.1.f3
  have ff := HF.out.1.ff
  have zz := HF.out.1.z
  have HR := hid HF.out.2
  unfold fin4g at HR
  clear HF
  go_wp2
  refine bodyPost_ret (v := .tuple #[.agg #[.int .i64 1, .int .i64 q0.1.run, .int .i64 0, .int .i64 0], .int .i64 0]) (by simp [results, Tryd.results33, go_sem, f0, f1, f2, f3, d0, d1, d2, d3]) rfl ?_
  exact ⟨rfl, HR.out.1, HR.out.2.1⟩
end
end Go.Proofs.YtcbckehdlbbbbaaDoor
/- A load's recipe goes on: the program's goOn where it comes to a shut gate, to no gates, where it sleeps, and where no clock is; the conditions are those that each states. -/
namespace Go.Proofs.YtcbckehdlbbbbaaDoor
open Go.RowKit Go.Maps Go.ChangeMaps
set_option linter.unusedVariables false
set_option linter.unusedSimpArgs false
section
variable {w : World} {b r : Nat} {S : Ld} {vr vl : Value}
set_option maxHeartbeats 8000000 in
set_option maxRecDepth 100000 in
theorem goOn_shut (h : Lq w b r S vr vl) {q0 : Ip} {l0 : List Ip} (e : S.left = q0 :: l0) (q : Nat) (m on : Int) (vg vc : Value) {FG : List Nat} (hFG : ∀ k ∈ FG, b < k ∧ k < w.heap.size) (hc : ∀ w1, Touch [] w w1 → Calls Tryd.prog 49 #[vg, .int .i64 on, .int .i64 S.num] w1 fun e w2 => e = .returned (.tuple #[.bool false, .int .i64 0]) ∧ Touch FG w1 w2) : Calls Tryd.prog 33 #[.pointer (some ⟨b, 0, none⟩), .agg #[.int .i64 q, .int .i64 m, .int .i64 1, .int .i64 on], vg, vc] w fun e w' => e = .returned (.tuple #[.agg #[.int .i64 2, .int .i64 q0.1.run, .int .i64 on, .int .i64 0], .int .i64 0]) ∧ Lq w' b r (goS S q m 1 on 0) vr vl ∧ Touch (b :: FG) w w' := by
  obtain ⟨al, cl, rfl, hcl⟩ := h.vform
  obtain ⟨g, off, rfl, hA⟩ := Its.item (i := 0) h.lf.its (by rw [e]; simp)
  have hq : S.left[0]'(by rw [e]; simp) = q0 := by simp [e]
  rw [hq] at hA
  simp only [Nat.zero_mul, Nat.add_zero] at hA
  have hbw : b < w.heap.size := block_lt h.bl
  obtain ⟨V, hV⟩ : ∃ V, V = ((w.alloc (.cells #[.int .i64 q, .int .i64 m, .int .i64 1, .int .i64 on] 76)).alloc (.cells #[.int .i64 0, .int .i64 0, .int .i64 0, .int .i64 0] 43)).alloc (.cells #[.int .i64 1, .int .i64 q0.1.run, .int .i64 0, .int .i64 0] 43) := ⟨_, rfl⟩
  have HG := hid (gb_start w q m 1 on q0.1.run V hV)
  have HL := hid h
  have y0 := hA.c0
  have c2 : w.cell? ⟨b, 2, none⟩ = some (.slice (some ⟨g, off, none⟩) S.left.length cl) := cell_at h.bl rfl
  have hzl : (0 : Int) < (S.left.length : Int) := by rw [e]; simp
  have hgw : g < w.heap.size := cell_lt' y0
  clear h hA hcl hq e
  go_enter Tryd.func33, Tryd.ntmps33
  go_upto_region 2 with fail
  rw [← hV]
  clear hV y0 c2
  have HC : Hid (Calls Tryd.prog 49 #[vg, .int .i64 on, .int .i64 S.num] V.drew fun e w2 => e = .returned (.tuple #[.bool false, .int .i64 0]) ∧ Touch FG V w2) := hid ((hc _ (HG.out.1.trans' (Touch.refl _ _).drew)).mono (by
    rintro e w2 ⟨rfl, g⟩
    exact ⟨rfl, ((Touch.refl FG V).drew).trans' g⟩))
  have x2 := cell_at (j := 2) (v := .int .i64 1) HG.out.2.b0 rfl
  go_upto_region 4 with fail
  clear x2
  refine wp_region_H (S := fun w' => Touch FG V w') (by kernel_rfl) ?_
  have s0 : Touch FG V V.drew := (Touch.refl _ _).drew
  have x3 : ∀ w', Touch FG V w' → w'.cell? ⟨w.heap.size, 3, none⟩ = some (.int .i64 on) := fun w' T => cell_at (T.keep HG.out.2.b0 (fun e => by have := hFG _ e; omega)) rfl
  have n0 : ∀ w', Touch FG V w' → w'.cell? ⟨b, 0, none⟩ = some (.int .i64 S.num) := fun w' T => cell_at (T.keep (HL.out.keep0 HG.out.1).bl (fun e => by have := hFG _ e; omega)) rfl
  refine wpH_take (i := 0) (v := (vg)) (some 28) rfl rfl (by kernel_rfl) (by kernel_rfl) (by kernel_rfl) (fun _ _ _ h => h) (Or.inl ⟨by rfl, fun w' hS => (by go_simp)⟩) s0 ?_
  try simp only [Go.Act.put, List.setIfInBounds_toArray, List.set_cons_zero, List.set_cons_succ]
  refine wpH_take (i := 1) (v := (.pointer (some ⟨w.heap.size, 3, none⟩))) (some 29) rfl rfl (by kernel_rfl) (by kernel_rfl) (by kernel_rfl) (fun _ _ _ h => h) (Or.inl ⟨by rfl, fun w' hS => (by go_simp)⟩) s0 ?_
  try simp only [Go.Act.put, List.setIfInBounds_toArray, List.set_cons_zero, List.set_cons_succ]
  refine wpH_take (i := 2) (v := (.int .i64 on)) (some 30) rfl rfl (by kernel_rfl) (by kernel_rfl) (by kernel_rfl) (fun _ _ _ h => h) (Or.inl ⟨by rfl, fun w' hS => (by have z0 := x3 _ hS; go_simp)⟩) s0 ?_
  try simp only [Go.Act.put, List.setIfInBounds_toArray, List.set_cons_zero, List.set_cons_succ]
  refine wpH_take (i := 3) (v := (.pointer (some ⟨b, 0, none⟩))) (some 31) rfl rfl (by kernel_rfl) (by kernel_rfl) (by kernel_rfl) (fun _ _ _ h => h) (Or.inl ⟨by rfl, fun w' hS => (by go_simp)⟩) s0 ?_
  try simp only [Go.Act.put, List.setIfInBounds_toArray, List.set_cons_zero, List.set_cons_succ]
  refine wpH_take (i := 4) (v := (.pointer (some ⟨b, 0, none⟩))) (some 32) rfl rfl (by kernel_rfl) (by kernel_rfl) (by kernel_rfl) (fun _ _ _ h => h) (Or.inl ⟨by rfl, fun w' hS => (by go_simp)⟩) s0 ?_
  try simp only [Go.Act.put, List.setIfInBounds_toArray, List.set_cons_zero, List.set_cons_succ]
  refine wpH_take (i := 5) (v := (.pointer (some ⟨b, 0, none⟩))) (some 33) rfl rfl (by kernel_rfl) (by kernel_rfl) (by kernel_rfl) (fun _ _ _ h => h) (Or.inl ⟨by rfl, fun w' hS => (by go_simp)⟩) s0 ?_
  try simp only [Go.Act.put, List.setIfInBounds_toArray, List.set_cons_zero, List.set_cons_succ]
  refine wpH_take (i := 6) (v := (.int .i64 S.num)) (some 34) rfl rfl (by kernel_rfl) (by kernel_rfl) (by kernel_rfl) (fun _ _ _ h => h) (Or.inl ⟨by rfl, fun w' hS => (by have z0 := n0 _ hS; go_simp)⟩) s0 ?_
  try simp only [Go.Act.put, List.setIfInBounds_toArray, List.set_cons_zero, List.set_cons_succ]
  refine wpH_call (i := 7) (o := { dst := some 35, op := Op.call { callee := Callee.value (Operand.func 49), args := #[Operand.tmp 28, Operand.tmp 30, Operand.tmp 34], argTypes := #[36, 3, 3] }, type := 123, pos := _, after := #[{ on := 0, ground := Ground.data }, { on := 2, ground := Ground.data }, { on := 6, ground := Ground.data }], guard := none }) (by kernel_rfl) rfl (fun K' hK => ?_)
  rw [if_pos (by rfl)]
  go_simp
  refine HC.out.mono ?_
  rintro e' Y ⟨rfl, gY⟩
  have hY : Touch FG V Y := gY
  refine hK.out _ _ hY ?_
  clear hK
  try simp only [Go.Act.put, List.setIfInBounds_toArray, List.set_cons_zero, List.set_cons_succ]
  refine wpH_take (i := 8) (v := (.tuple #[(.bool false), (.int .i64 0)])) (some 27) rfl rfl (by kernel_rfl) (by kernel_rfl) (by kernel_rfl) (fun _ _ _ h => h) (Or.inl ⟨by rfl, fun w' hS => (by go_simp)⟩) hY ?_
  try simp only [Go.Act.put, List.setIfInBounds_toArray, List.set_cons_zero, List.set_cons_succ]
  refine wpH_take (i := 9) (v := (.bool false)) (some 36) rfl rfl (by kernel_rfl) (by kernel_rfl) (by kernel_rfl) (fun _ _ _ h => h) (Or.inl ⟨by rfl, fun w' hS => (by go_simp)⟩) hY ?_
  try simp only [Go.Act.put, List.setIfInBounds_toArray, List.set_cons_zero, List.set_cons_succ]
  refine wpH_take (i := 10) (v := (.int .i64 0)) (some 37) rfl rfl (by kernel_rfl) (by kernel_rfl) (by kernel_rfl) (fun _ _ _ h => h) (Or.inl ⟨by rfl, fun w' hS => (by go_simp)⟩) hY ?_
  try simp only [Go.Act.put, List.setIfInBounds_toArray, List.set_cons_zero, List.set_cons_succ]
  refine wpH_take (i := 11) (v := (.bool false)) (some 11) rfl rfl (by kernel_rfl) (by kernel_rfl) (by kernel_rfl) (fun _ _ _ h => h) (Or.inl ⟨by rfl, fun w' hS => (by go_simp)⟩) hY ?_
  try simp only [Go.Act.put, List.setIfInBounds_toArray, List.set_cons_zero, List.set_cons_succ]
  refine wpH_take (i := 12) (v := (.int .i64 0)) (some 12) rfl rfl (by kernel_rfl) (by kernel_rfl) (by kernel_rfl) (fun _ _ _ h => h) (Or.inl ⟨by rfl, fun w' hS => (by go_simp)⟩) hY ?_
  try simp only [Go.Act.put, List.setIfInBounds_toArray, List.set_cons_zero, List.set_cons_succ]
  refine wpAnyH_done (by kernel_rfl) ?_ _
  have HY := hid hY
  clear s0 hY x3 n0 gY
  have HGY : Hid (Gb w Y q m 1 on 1 q0.1.run 0 0) := hid (HG.out.2.keep HY.out (fun k hk => (hFG k hk).2))
  have HQY := hid ((HL.out.keep0 HG.out.1).keep HY.out (fun k hk => (hFG k hk).1))
  have HTY : Hid (Touch FG w Y) := hid ((HG.out.1.mono (fun _ e => by cases e)).trans' HY.out)
  go_upto_region 9 with fail
  refine wp_region_H (S := fun w' => Touch [w.heap.size + 1 + 1] Y w') (by kernel_rfl) ?_
  have s0 : Touch [w.heap.size + 1 + 1] Y Y.drew := (Touch.refl _ _).drew
  have x3 : ∀ w', Touch [w.heap.size + 1 + 1] Y w' → w'.cell? ⟨w.heap.size, 3, none⟩ = some (.int .i64 on) := fun w' T => cell_at (T.keep HGY.out.b0 (by simp; omega)) rfl
  have e0 := cell_at (j := 0) (v := .int .i64 1) HGY.out.b2 rfl
  have e2 := cell_at (j := 2) (v := .int .i64 0) HGY.out.b2 rfl
  have ef := froz_at HGY.out.b2
  have el := block_lt HGY.out.b2
  refine wpH_take (i := 0) (v := (.pointer (some ⟨w.heap.size, 3, none⟩))) (some 45) rfl rfl (by kernel_rfl) (by kernel_rfl) (by kernel_rfl) (fun _ _ _ h => h) (Or.inl ⟨by rfl, fun w' hS => (by go_simp)⟩) s0 ?_
  try simp only [Go.Act.put, List.setIfInBounds_toArray, List.set_cons_zero, List.set_cons_succ]
  refine wpH_take (i := 1) (v := (.int .i64 on)) (some 46) rfl rfl (by kernel_rfl) (by kernel_rfl) (by kernel_rfl) (fun _ _ _ h => h) (Or.inl ⟨by rfl, fun w' hS => (by have z0 := x3 _ hS; go_simp)⟩) s0 ?_
  try simp only [Go.Act.put, List.setIfInBounds_toArray, List.set_cons_zero, List.set_cons_succ]
  refine wpH_take (i := 2) (v := (.pointer (some ⟨w.heap.size + 1 + 1, 0, none⟩))) (some 47) rfl rfl (by kernel_rfl) (by kernel_rfl) (by kernel_rfl) (fun _ _ _ h => h) (Or.inl ⟨by rfl, fun w' hS => (by go_simp)⟩) s0 ?_
  try simp only [Go.Act.put, List.setIfInBounds_toArray, List.set_cons_zero, List.set_cons_succ]
  refine wpH_call (i := 3) (o := { dst := none, op := Op.store 3 (Operand.tmp 47) (Operand.const (Value.int IntKind.i64 2)), type := 0, pos := _, after := #[{ on := 2, ground := Ground.data }, { on := 0, ground := Ground.textOnly Departure.lateStores }, { on := 1, ground := Ground.textOnly Departure.lateStores }], guard := none }) (by kernel_rfl) rfl (fun K' hK => ?_)
  rw [if_pos (by rfl)]
  go_simp
  refine hK.out _ _ (((Touch.refl _ _).setCell (Or.inl (by simp)) _).drew) ?_
  clear hK
  try simp only [Go.Act.put, List.setIfInBounds_toArray, List.set_cons_zero, List.set_cons_succ]
  refine wpH_take (i := 4) (v := (.pointer (some ⟨w.heap.size + 1 + 1, 2, none⟩))) (some 48) rfl rfl (by kernel_rfl) (by kernel_rfl) (by kernel_rfl) (fun _ _ _ h => h) (Or.inl ⟨by rfl, fun w' hS => (by go_simp)⟩) (((Touch.refl _ _).setCell (Or.inl (by simp)) _).drew) ?_
  try simp only [Go.Act.put, List.setIfInBounds_toArray, List.set_cons_zero, List.set_cons_succ]
  refine wpH_call (i := 5) (o := { dst := none, op := Op.store 2 (Operand.tmp 48) (Operand.tmp 46), type := 0, pos := _, after := #[{ on := 4, ground := Ground.data }, { on := 1, ground := Ground.data }, { on := 3, ground := Ground.chain }, { on := 0, ground := Ground.phase }, { on := 1, ground := Ground.phase }, { on := 2, ground := Ground.phase }, { on := 3, ground := Ground.phase }], guard := none }) (by kernel_rfl) rfl (fun K' hK => ?_)
  rw [if_pos (by rfl)]
  go_simp
  refine hK.out _ _ ((((Touch.refl _ _).setCell (Or.inl (by simp)) _).setCell (Or.inl (by simp)) _).drew) ?_
  clear hK
  try simp only [Go.Act.put, List.setIfInBounds_toArray, List.set_cons_zero, List.set_cons_succ]
  refine wpAnyH_done (by kernel_rfl) ?_ _
  obtain ⟨W, hW⟩ : ∃ W, W = ((Y.setCell ⟨w.heap.size + 1 + 1, 0, none⟩ (.int .i64 2)).setCell ⟨w.heap.size + 1 + 1, 2, none⟩ (.int .i64 on)).drew := ⟨_, rfl⟩
  rw [← hW]
  have HT : Hid (Touch [w.heap.size + 1 + 1] Y W) := hid (by rw [hW]; exact (((Touch.refl _ _).setCell (Or.inl (by simp)) _).setCell (Or.inl (by simp)) _).drew)
  have HGW : Hid (Gb w W q m 1 on 2 q0.1.run on 0) := hid (by rw [hW]; exact (HGY.out.done2 2 on).keep (Touch.refl [] _).drew (fun _ e => by cases e))
  have HQW := hid (HQY.out.keep HT.out (fun k hk => by simp at hk; omega))
  have HTW : Hid (Touch (b :: FG) w W) := hid ((HTY.out.mono (fun k hk => List.mem_cons_of_mem _ hk)).trans HT.out (fun k hk => Or.inr (by simp at hk; omega)))
  clear hW s0 x3 e0 e2 ef el
  go_upto_region 15 with fail
  refine wp_region_H (S := fun w' => Touch [b] W w') (by kernel_rfl) ?_
  have s0 : Touch [b] W W.drew := (Touch.refl _ _).drew
  have x0 : ∀ w', Touch [b] W w' → w'.cell? ⟨w.heap.size, 0, none⟩ = some (.int .i64 (q : Nat)) := fun w' T => cell_at (T.keep HGW.out.b0 (by simp; omega)) rfl
  have x1 : ∀ w', Touch [b] W w' → w'.cell? ⟨w.heap.size, 1, none⟩ = some (.int .i64 m) := fun w' T => cell_at (T.keep HGW.out.b0 (by simp; omega)) rfl
  have x2 : ∀ w', Touch [b] W w' → w'.cell? ⟨w.heap.size, 2, none⟩ = some (.int .i64 1) := fun w' T => cell_at (T.keep HGW.out.b0 (by simp; omega)) rfl
  have x3 : ∀ w', Touch [b] W w' → w'.cell? ⟨w.heap.size, 3, none⟩ = some (.int .i64 on) := fun w' T => cell_at (T.keep HGW.out.b0 (by simp; omega)) rfl
  have d3 : ∀ w', Touch [b] W w' → w'.cell? ⟨w.heap.size + 1 + 1, 3, none⟩ = some (.int .i64 0) := fun w' T => cell_at (T.keep HGW.out.b2 (by simp; omega)) rfl
  have s3 := cell_at (j := 3) (v := .int .i64 S.p) HQW.out.bl rfl
  have s4 := cell_at (j := 4) (v := .int .i64 S.n) HQW.out.bl rfl
  have s5 := cell_at (j := 5) (v := .int .i64 S.wt) HQW.out.bl rfl
  have s6 := cell_at (j := 6) (v := .int .i64 S.on) HQW.out.bl rfl
  have s7 := cell_at (j := 7) (v := .int .i64 S.tm) HQW.out.bl rfl
  have sf := froz_at HQW.out.bl
  have sl := block_lt HQW.out.bl
  refine wpH_take (i := 0) (v := (.pointer (some ⟨b, 0, none⟩))) (some 68) rfl rfl (by kernel_rfl) (by kernel_rfl) (by kernel_rfl) (fun _ _ _ h => h) (Or.inl ⟨by rfl, fun w' hS => (by go_simp)⟩) s0 ?_
  try simp only [Go.Act.put, List.setIfInBounds_toArray, List.set_cons_zero, List.set_cons_succ]
  refine wpH_take (i := 1) (v := (.pointer (some ⟨b, 0, none⟩))) (some 69) rfl rfl (by kernel_rfl) (by kernel_rfl) (by kernel_rfl) (fun _ _ _ h => h) (Or.inl ⟨by rfl, fun w' hS => (by go_simp)⟩) s0 ?_
  try simp only [Go.Act.put, List.setIfInBounds_toArray, List.set_cons_zero, List.set_cons_succ]
  refine wpH_take (i := 2) (v := (.agg #[.int .i64 (q : Nat), .int .i64 m, .int .i64 1, .int .i64 on])) (some 70) rfl rfl (by kernel_rfl) (by kernel_rfl) (by kernel_rfl) (fun _ _ _ h => h) (Or.inl ⟨by rfl, fun w' hS => (by have z0 := x0 _ hS; have z1 := x1 _ hS; have z2 := x2 _ hS; have z3 := x3 _ hS; go_simp)⟩) s0 ?_
  try simp only [Go.Act.put, List.setIfInBounds_toArray, List.set_cons_zero, List.set_cons_succ]
  refine wpH_take (i := 3) (v := (.pointer (some ⟨w.heap.size + 1 + 1, 3, none⟩))) (some 71) rfl rfl (by kernel_rfl) (by kernel_rfl) (by kernel_rfl) (fun _ _ _ h => h) (Or.inl ⟨by rfl, fun w' hS => (by go_simp)⟩) s0 ?_
  try simp only [Go.Act.put, List.setIfInBounds_toArray, List.set_cons_zero, List.set_cons_succ]
  refine wpH_take (i := 4) (v := (.int .i64 0)) (some 72) rfl rfl (by kernel_rfl) (by kernel_rfl) (by kernel_rfl) (fun _ _ _ h => h) (Or.inl ⟨by rfl, fun w' hS => (by have z0 := d3 _ hS; go_simp)⟩) s0 ?_
  try simp only [Go.Act.put, List.setIfInBounds_toArray, List.set_cons_zero, List.set_cons_succ]
  refine wpH_take (i := 5) (v := (.pointer (some ⟨b, 0, none⟩))) (some 73) rfl rfl (by kernel_rfl) (by kernel_rfl) (by kernel_rfl) (fun _ _ _ h => h) (Or.inl ⟨by rfl, fun w' hS => (by go_simp)⟩) s0 ?_
  try simp only [Go.Act.put, List.setIfInBounds_toArray, List.set_cons_zero, List.set_cons_succ]
  refine wpH_take (i := 6) (v := (.pointer (some ⟨b, 3, none⟩))) (some 74) rfl rfl (by kernel_rfl) (by kernel_rfl) (by kernel_rfl) (fun _ _ _ h => h) (Or.inl ⟨by rfl, fun w' hS => (by go_simp)⟩) s0 ?_
  try simp only [Go.Act.put, List.setIfInBounds_toArray, List.set_cons_zero, List.set_cons_succ]
  refine wpH_call (i := 7) (o := { dst := none, op := Op.store 76 (Operand.tmp 74) (Operand.tmp 70), type := 0, pos := _, after := #[{ on := 6, ground := Ground.data }, { on := 2, ground := Ground.data }, { on := 0, ground := Ground.phase }, { on := 1, ground := Ground.textOnly Departure.lateStores }, { on := 2, ground := Ground.phase }, { on := 3, ground := Ground.textOnly Departure.lateStores }, { on := 4, ground := Ground.textOnly Departure.lateStores }], guard := none }) (by kernel_rfl) rfl (fun K' hK => ?_)
  rw [if_pos (by rfl)]
  go_simp
  refine hK.out _ _ ((((((Touch.refl _ _).setCell (Or.inl (by simp)) _).setCell (Or.inl (by simp)) _).setCell (Or.inl (by simp)) _).setCell (Or.inl (by simp)) _).drew) ?_
  clear hK
  try simp only [Go.Act.put, List.setIfInBounds_toArray, List.set_cons_zero, List.set_cons_succ]
  refine wpH_take (i := 8) (v := (.pointer (some ⟨b, 0, none⟩))) (some 75) rfl rfl (by kernel_rfl) (by kernel_rfl) (by kernel_rfl) (fun _ _ _ h => h) (Or.inl ⟨by rfl, fun w' hS => (by go_simp)⟩) ((((((Touch.refl _ _).setCell (Or.inl (by simp)) _).setCell (Or.inl (by simp)) _).setCell (Or.inl (by simp)) _).setCell (Or.inl (by simp)) _).drew) ?_
  try simp only [Go.Act.put, List.setIfInBounds_toArray, List.set_cons_zero, List.set_cons_succ]
  refine wpH_take (i := 9) (v := (.pointer (some ⟨b, 7, none⟩))) (some 76) rfl rfl (by kernel_rfl) (by kernel_rfl) (by kernel_rfl) (fun _ _ _ h => h) (Or.inl ⟨by rfl, fun w' hS => (by go_simp)⟩) ((((((Touch.refl _ _).setCell (Or.inl (by simp)) _).setCell (Or.inl (by simp)) _).setCell (Or.inl (by simp)) _).setCell (Or.inl (by simp)) _).drew) ?_
  try simp only [Go.Act.put, List.setIfInBounds_toArray, List.set_cons_zero, List.set_cons_succ]
  refine wpH_call (i := 10) (o := { dst := none, op := Op.store 3 (Operand.tmp 76) (Operand.tmp 72), type := 0, pos := _, after := #[{ on := 9, ground := Ground.data }, { on := 4, ground := Ground.data }, { on := 7, ground := Ground.chain }, { on := 0, ground := Ground.phase }, { on := 1, ground := Ground.phase }, { on := 2, ground := Ground.phase }, { on := 3, ground := Ground.phase }, { on := 4, ground := Ground.phase }, { on := 5, ground := Ground.phase }, { on := 6, ground := Ground.phase }, { on := 7, ground := Ground.phase }], guard := none }) (by kernel_rfl) rfl (fun K' hK => ?_)
  rw [if_pos (by rfl)]
  go_simp
  refine hK.out _ _ (((((((Touch.refl _ _).setCell (Or.inl (by simp)) _).setCell (Or.inl (by simp)) _).setCell (Or.inl (by simp)) _).setCell (Or.inl (by simp)) _).setCell (Or.inl (by simp)) _).drew) ?_
  clear hK
  try simp only [Go.Act.put, List.setIfInBounds_toArray, List.set_cons_zero, List.set_cons_succ]
  refine wpAnyH_done (by kernel_rfl) ?_ _
  obtain ⟨W5, hW5⟩ : ∃ W5, W5 = (((((W.setCell ⟨b, 3, none⟩ (.int .i64 (q : Nat))).setCell ⟨b, 4, none⟩ (.int .i64 m)).setCell ⟨b, 5, none⟩ (.int .i64 1)).setCell ⟨b, 6, none⟩ (.int .i64 on)).setCell ⟨b, 7, none⟩ (.int .i64 0)).drew := ⟨_, rfl⟩
  rw [← hW5]
  have HF := hid (go_fin HGW.out HQW.out HTW.out (by simp) hbw W5 hW5)
  clear hW5 s0 x0 x1 x2 x3 d3 s3 s4 s5 s6 s7 sf sl
  have d0 := HF.out.1.d0
  have d1 := HF.out.1.d1
  have d2 := HF.out.1.d2
  have d3 := HF.out.1.d3
  have f0 := HF.out.1.f0
  have f1 := HF.out.1.f1
  have f2 := HF.out.1.f2
  have f3 := HF.out.1.f3
  have ff := HF.out.1.ff
  have zz := HF.out.1.z
  have HR := hid HF.out.2
  unfold fin4g at HR
  clear HF
  go_wp2
  refine bodyPost_ret (v := .tuple #[.agg #[.int .i64 2, .int .i64 q0.1.run, .int .i64 on, .int .i64 0], .int .i64 0]) (by simp [results, Tryd.results33, go_sem, f0, f1, f2, f3, d0, d1, d2, d3]) rfl ?_
  exact ⟨rfl, HR.out.1, HR.out.2.1⟩
set_option maxHeartbeats 8000000 in
set_option maxRecDepth 100000 in
theorem goOn_gerr (h : Lq w b r S vr vl) {q0 : Ip} {l0 : List Ip} (e : S.left = q0 :: l0) (q : Nat) (m on : Int) (er : Int) (her : er ≠ 0) (vg vc : Value) {FG : List Nat} (hFG : ∀ k ∈ FG, b < k ∧ k < w.heap.size) (hc : ∀ w1, Touch [] w w1 → Calls Tryd.prog 49 #[vg, .int .i64 on, .int .i64 S.num] w1 fun e w2 => e = .returned (.tuple #[.bool false, .int .i64 er]) ∧ Touch FG w1 w2) : Calls Tryd.prog 33 #[.pointer (some ⟨b, 0, none⟩), .agg #[.int .i64 q, .int .i64 m, .int .i64 1, .int .i64 on], vg, vc] w fun e w' => e = .returned (.tuple #[.agg #[.int .i64 0, .int .i64 0, .int .i64 0, .int .i64 0], .int .i64 er]) ∧ Lq w' b r S vr vl ∧ Touch FG w w' := by
  obtain ⟨al, cl, rfl, hcl⟩ := h.vform
  obtain ⟨g, off, rfl, hA⟩ := Its.item (i := 0) h.lf.its (by rw [e]; simp)
  have hq : S.left[0]'(by rw [e]; simp) = q0 := by simp [e]
  rw [hq] at hA
  simp only [Nat.zero_mul, Nat.add_zero] at hA
  have hbw : b < w.heap.size := block_lt h.bl
  obtain ⟨V, hV⟩ : ∃ V, V = ((w.alloc (.cells #[.int .i64 q, .int .i64 m, .int .i64 1, .int .i64 on] 76)).alloc (.cells #[.int .i64 0, .int .i64 0, .int .i64 0, .int .i64 0] 43)).alloc (.cells #[.int .i64 1, .int .i64 q0.1.run, .int .i64 0, .int .i64 0] 43) := ⟨_, rfl⟩
  have HG := hid (gb_start w q m 1 on q0.1.run V hV)
  have HL := hid h
  have y0 := hA.c0
  have c2 : w.cell? ⟨b, 2, none⟩ = some (.slice (some ⟨g, off, none⟩) S.left.length cl) := cell_at h.bl rfl
  have hzl : (0 : Int) < (S.left.length : Int) := by rw [e]; simp
  have hgw : g < w.heap.size := cell_lt' y0
  clear h hA hcl hq e
  go_enter Tryd.func33, Tryd.ntmps33
  go_upto_region 2 with fail
  rw [← hV]
  clear hV y0 c2
  have her' : (er != 0) = true := by simpa using her
  clear her
  have HC : Hid (Calls Tryd.prog 49 #[vg, .int .i64 on, .int .i64 S.num] V.drew fun e w2 => e = .returned (.tuple #[.bool false, .int .i64 er]) ∧ Touch FG V w2) := hid ((hc _ (HG.out.1.trans' (Touch.refl _ _).drew)).mono (by
    rintro e w2 ⟨rfl, g⟩
    exact ⟨rfl, ((Touch.refl FG V).drew).trans' g⟩))
  have x2 := cell_at (j := 2) (v := .int .i64 1) HG.out.2.b0 rfl
  go_upto_region 4 with fail
  clear x2
  refine wp_region_H (S := fun w' => Touch FG V w') (by kernel_rfl) ?_
  have s0 : Touch FG V V.drew := (Touch.refl _ _).drew
  have x3 : ∀ w', Touch FG V w' → w'.cell? ⟨w.heap.size, 3, none⟩ = some (.int .i64 on) := fun w' T => cell_at (T.keep HG.out.2.b0 (fun e => by have := hFG _ e; omega)) rfl
  have n0 : ∀ w', Touch FG V w' → w'.cell? ⟨b, 0, none⟩ = some (.int .i64 S.num) := fun w' T => cell_at (T.keep (HL.out.keep0 HG.out.1).bl (fun e => by have := hFG _ e; omega)) rfl
  refine wpH_take (i := 0) (v := (vg)) (some 28) rfl rfl (by kernel_rfl) (by kernel_rfl) (by kernel_rfl) (fun _ _ _ h => h) (Or.inl ⟨by rfl, fun w' hS => (by go_simp)⟩) s0 ?_
  try simp only [Go.Act.put, List.setIfInBounds_toArray, List.set_cons_zero, List.set_cons_succ]
  refine wpH_take (i := 1) (v := (.pointer (some ⟨w.heap.size, 3, none⟩))) (some 29) rfl rfl (by kernel_rfl) (by kernel_rfl) (by kernel_rfl) (fun _ _ _ h => h) (Or.inl ⟨by rfl, fun w' hS => (by go_simp)⟩) s0 ?_
  try simp only [Go.Act.put, List.setIfInBounds_toArray, List.set_cons_zero, List.set_cons_succ]
  refine wpH_take (i := 2) (v := (.int .i64 on)) (some 30) rfl rfl (by kernel_rfl) (by kernel_rfl) (by kernel_rfl) (fun _ _ _ h => h) (Or.inl ⟨by rfl, fun w' hS => (by have z0 := x3 _ hS; go_simp)⟩) s0 ?_
  try simp only [Go.Act.put, List.setIfInBounds_toArray, List.set_cons_zero, List.set_cons_succ]
  refine wpH_take (i := 3) (v := (.pointer (some ⟨b, 0, none⟩))) (some 31) rfl rfl (by kernel_rfl) (by kernel_rfl) (by kernel_rfl) (fun _ _ _ h => h) (Or.inl ⟨by rfl, fun w' hS => (by go_simp)⟩) s0 ?_
  try simp only [Go.Act.put, List.setIfInBounds_toArray, List.set_cons_zero, List.set_cons_succ]
  refine wpH_take (i := 4) (v := (.pointer (some ⟨b, 0, none⟩))) (some 32) rfl rfl (by kernel_rfl) (by kernel_rfl) (by kernel_rfl) (fun _ _ _ h => h) (Or.inl ⟨by rfl, fun w' hS => (by go_simp)⟩) s0 ?_
  try simp only [Go.Act.put, List.setIfInBounds_toArray, List.set_cons_zero, List.set_cons_succ]
  refine wpH_take (i := 5) (v := (.pointer (some ⟨b, 0, none⟩))) (some 33) rfl rfl (by kernel_rfl) (by kernel_rfl) (by kernel_rfl) (fun _ _ _ h => h) (Or.inl ⟨by rfl, fun w' hS => (by go_simp)⟩) s0 ?_
  try simp only [Go.Act.put, List.setIfInBounds_toArray, List.set_cons_zero, List.set_cons_succ]
  refine wpH_take (i := 6) (v := (.int .i64 S.num)) (some 34) rfl rfl (by kernel_rfl) (by kernel_rfl) (by kernel_rfl) (fun _ _ _ h => h) (Or.inl ⟨by rfl, fun w' hS => (by have z0 := n0 _ hS; go_simp)⟩) s0 ?_
  try simp only [Go.Act.put, List.setIfInBounds_toArray, List.set_cons_zero, List.set_cons_succ]
  refine wpH_call (i := 7) (o := { dst := some 35, op := Op.call { callee := Callee.value (Operand.func 49), args := #[Operand.tmp 28, Operand.tmp 30, Operand.tmp 34], argTypes := #[36, 3, 3] }, type := 123, pos := _, after := #[{ on := 0, ground := Ground.data }, { on := 2, ground := Ground.data }, { on := 6, ground := Ground.data }], guard := none }) (by kernel_rfl) rfl (fun K' hK => ?_)
  rw [if_pos (by rfl)]
  go_simp
  refine HC.out.mono ?_
  rintro e' Y ⟨rfl, gY⟩
  have hY : Touch FG V Y := gY
  refine hK.out _ _ hY ?_
  clear hK
  try simp only [Go.Act.put, List.setIfInBounds_toArray, List.set_cons_zero, List.set_cons_succ]
  refine wpH_take (i := 8) (v := (.tuple #[(.bool false), (.int .i64 er)])) (some 27) rfl rfl (by kernel_rfl) (by kernel_rfl) (by kernel_rfl) (fun _ _ _ h => h) (Or.inl ⟨by rfl, fun w' hS => (by go_simp)⟩) hY ?_
  try simp only [Go.Act.put, List.setIfInBounds_toArray, List.set_cons_zero, List.set_cons_succ]
  refine wpH_take (i := 9) (v := (.bool false)) (some 36) rfl rfl (by kernel_rfl) (by kernel_rfl) (by kernel_rfl) (fun _ _ _ h => h) (Or.inl ⟨by rfl, fun w' hS => (by go_simp)⟩) hY ?_
  try simp only [Go.Act.put, List.setIfInBounds_toArray, List.set_cons_zero, List.set_cons_succ]
  refine wpH_take (i := 10) (v := (.int .i64 er)) (some 37) rfl rfl (by kernel_rfl) (by kernel_rfl) (by kernel_rfl) (fun _ _ _ h => h) (Or.inl ⟨by rfl, fun w' hS => (by go_simp)⟩) hY ?_
  try simp only [Go.Act.put, List.setIfInBounds_toArray, List.set_cons_zero, List.set_cons_succ]
  refine wpH_take (i := 11) (v := (.bool false)) (some 11) rfl rfl (by kernel_rfl) (by kernel_rfl) (by kernel_rfl) (fun _ _ _ h => h) (Or.inl ⟨by rfl, fun w' hS => (by go_simp)⟩) hY ?_
  try simp only [Go.Act.put, List.setIfInBounds_toArray, List.set_cons_zero, List.set_cons_succ]
  refine wpH_take (i := 12) (v := (.int .i64 er)) (some 12) rfl rfl (by kernel_rfl) (by kernel_rfl) (by kernel_rfl) (fun _ _ _ h => h) (Or.inl ⟨by rfl, fun w' hS => (by go_simp)⟩) hY ?_
  try simp only [Go.Act.put, List.setIfInBounds_toArray, List.set_cons_zero, List.set_cons_succ]
  refine wpAnyH_done (by kernel_rfl) ?_ _
  have HY := hid hY
  clear s0 hY x3 n0 gY
  have HGY : Hid (Gb w Y q m 1 on 1 q0.1.run 0 0) := hid (HG.out.2.keep HY.out (fun k hk => (hFG k hk).2))
  have HQY := hid ((HL.out.keep0 HG.out.1).keep HY.out (fun k hk => (hFG k hk).1))
  have HTY : Hid (Touch FG w Y) := hid ((HG.out.1.mono (fun _ e => by cases e)).trans' HY.out)
  have f0 := cell_at (j := 0) (v := .int .i64 0) HGY.out.b1 rfl
  have f1 := cell_at (j := 1) (v := .int .i64 0) HGY.out.b1 rfl
  have f2 := cell_at (j := 2) (v := .int .i64 0) HGY.out.b1 rfl
  have f3 := cell_at (j := 3) (v := .int .i64 0) HGY.out.b1 rfl
  have ff := froz_at HGY.out.b1
  have fl := block_lt HGY.out.b1
  have HX : Hid (Lq (fin4g Y (w.heap.size + 1) 0 0 0 0) b r S vr (.slice (some ⟨g, off, none⟩) S.left.length cl) ∧ Touch FG w (fin4g Y (w.heap.size + 1) 0 0 0 0)) := hid (by
    have T6 := touch_fin4g Y (w.heap.size + 1) 0 0 0 0
    exact ⟨HQY.out.keep T6 (fun k hk => by simp at hk; omega), HTY.out.trans T6 (fun k hk => Or.inr (by simp at hk; omega))⟩)
  unfold fin4g at HX
  go_wp2
  refine bodyPost_ret (v := .tuple #[.agg #[.int .i64 0, .int .i64 0, .int .i64 0, .int .i64 0], .int .i64 er]) (by simp [results, Tryd.results33, go_sem, f0, f1, f2, f3]) rfl ?_
  exact ⟨rfl, HX.out⟩
set_option maxHeartbeats 8000000 in
set_option maxRecDepth 100000 in
theorem goOn_serr (h : Lq w b r S vr vl) {q0 : Ip} {l0 : List Ip} (e : S.left = q0 :: l0) (q : Nat) (m on : Int) (er : Int) (her : er ≠ 0) (vg vc : Value) {FG : List Nat} (hFG : ∀ k ∈ FG, b < k ∧ k < w.heap.size) (hc : ∀ w1, Touch [] w w1 → Calls Tryd.prog 50 #[vc, .int .i64 on] w1 fun e w2 => e = .returned (.tuple #[.int .i64 0, .int .i64 er]) ∧ Touch FG w1 w2) : Calls Tryd.prog 33 #[.pointer (some ⟨b, 0, none⟩), .agg #[.int .i64 q, .int .i64 m, .int .i64 2, .int .i64 on], vg, vc] w fun e w' => e = .returned (.tuple #[.agg #[.int .i64 0, .int .i64 0, .int .i64 0, .int .i64 0], .int .i64 er]) ∧ Lq w' b r S vr vl ∧ Touch FG w w' := by
  obtain ⟨al, cl, rfl, hcl⟩ := h.vform
  obtain ⟨g, off, rfl, hA⟩ := Its.item (i := 0) h.lf.its (by rw [e]; simp)
  have hq : S.left[0]'(by rw [e]; simp) = q0 := by simp [e]
  rw [hq] at hA
  simp only [Nat.zero_mul, Nat.add_zero] at hA
  have hbw : b < w.heap.size := block_lt h.bl
  obtain ⟨V, hV⟩ : ∃ V, V = ((w.alloc (.cells #[.int .i64 q, .int .i64 m, .int .i64 2, .int .i64 on] 76)).alloc (.cells #[.int .i64 0, .int .i64 0, .int .i64 0, .int .i64 0] 43)).alloc (.cells #[.int .i64 1, .int .i64 q0.1.run, .int .i64 0, .int .i64 0] 43) := ⟨_, rfl⟩
  have HG := hid (gb_start w q m 2 on q0.1.run V hV)
  have HL := hid h
  have y0 := hA.c0
  have c2 : w.cell? ⟨b, 2, none⟩ = some (.slice (some ⟨g, off, none⟩) S.left.length cl) := cell_at h.bl rfl
  have hzl : (0 : Int) < (S.left.length : Int) := by rw [e]; simp
  have hgw : g < w.heap.size := cell_lt' y0
  clear h hA hcl hq e
  go_enter Tryd.func33, Tryd.ntmps33
  go_upto_region 2 with fail
  rw [← hV]
  clear hV y0 c2
  have her' : (er != 0) = true := by simpa using her
  clear her
  have HC : Hid (Calls Tryd.prog 50 #[vc, .int .i64 on] V fun e w2 => e = .returned (.tuple #[.int .i64 0, .int .i64 er]) ∧ Touch FG V w2) := hid (hc _ HG.out.1)
  have x2 := cell_at (j := 2) (v := .int .i64 2) HG.out.2.b0 rfl
  have x3 := cell_at (j := 3) (v := .int .i64 on) HG.out.2.b0 rfl
  go_upto_region 12 with (go_at_call 50; refine HC.out.mono ?_; rintro e Y ⟨rfl, gY⟩; have HY := hid gY; clear gY)
  clear x2 x3
  have HGY : Hid (Gb w Y q m 2 on 1 q0.1.run 0 0) := hid (HG.out.2.keep HY.out (fun k hk => (hFG k hk).2))
  have HQY := hid ((HL.out.keep0 HG.out.1).keep HY.out (fun k hk => (hFG k hk).1))
  have HTY : Hid (Touch FG w Y) := hid ((HG.out.1.mono (fun _ e => by cases e)).trans' HY.out)
  have f0 := cell_at (j := 0) (v := .int .i64 0) HGY.out.b1 rfl
  have f1 := cell_at (j := 1) (v := .int .i64 0) HGY.out.b1 rfl
  have f2 := cell_at (j := 2) (v := .int .i64 0) HGY.out.b1 rfl
  have f3 := cell_at (j := 3) (v := .int .i64 0) HGY.out.b1 rfl
  have ff := froz_at HGY.out.b1
  have fl := block_lt HGY.out.b1
  have HX : Hid (Lq (fin4g Y (w.heap.size + 1) 0 0 0 0) b r S vr (.slice (some ⟨g, off, none⟩) S.left.length cl) ∧ Touch FG w (fin4g Y (w.heap.size + 1) 0 0 0 0)) := hid (by
    have T6 := touch_fin4g Y (w.heap.size + 1) 0 0 0 0
    exact ⟨HQY.out.keep T6 (fun k hk => by simp at hk; omega), HTY.out.trans T6 (fun k hk => Or.inr (by simp at hk; omega))⟩)
  unfold fin4g at HX
  go_wp2
  refine bodyPost_ret (v := .tuple #[.agg #[.int .i64 0, .int .i64 0, .int .i64 0, .int .i64 0], .int .i64 er]) (by simp [results, Tryd.results33, go_sem, f0, f1, f2, f3]) rfl ?_
  exact ⟨rfl, HX.out⟩
set_option maxHeartbeats 8000000 in
set_option maxRecDepth 100000 in
theorem goOn_slp (h : Lq w b r S vr vl) {q0 : Ip} {l0 : List Ip} (e : S.left = q0 :: l0) (q : Nat) (m on : Int) (vg : Value) {vc : Value} {c : Nat} {F : List Nat} {s : Cl.Cs} (hvc : vc = .pointer (some ⟨c, 0, none⟩)) (hck : Cl.Ck w c F s) (hF : ∀ k ∈ F, b < k) (hl : s.last < 4611686018427387904) (hd : W64 on) (he : Cl.inE s on = 0) : Calls Tryd.prog 33 #[.pointer (some ⟨b, 0, none⟩), .agg #[.int .i64 q, .int .i64 m, .int .i64 2, .int .i64 on], vg, vc] w fun e w' => e = .returned (.tuple #[.agg #[.int .i64 3, .int .i64 q0.1.run, .int .i64 on, .int .i64 (Cl.inN s on)], .int .i64 0]) ∧ Lq w' b r (goS S q m 2 on (Cl.inN s on)) vr vl ∧ ∃ F', Cl.Ck w' c F' (Cl.inS s on) ∧ Nf w F F' ∧ Touch (b :: F) w w' := by
  obtain ⟨al, cl, rfl, hcl⟩ := h.vform
  obtain ⟨g, off, rfl, hA⟩ := Its.item (i := 0) h.lf.its (by rw [e]; simp)
  have hq : S.left[0]'(by rw [e]; simp) = q0 := by simp [e]
  rw [hq] at hA
  simp only [Nat.zero_mul, Nat.add_zero] at hA
  have hbw : b < w.heap.size := block_lt h.bl
  obtain ⟨V, hV⟩ : ∃ V, V = ((w.alloc (.cells #[.int .i64 q, .int .i64 m, .int .i64 2, .int .i64 on] 76)).alloc (.cells #[.int .i64 0, .int .i64 0, .int .i64 0, .int .i64 0] 43)).alloc (.cells #[.int .i64 1, .int .i64 q0.1.run, .int .i64 0, .int .i64 0] 43) := ⟨_, rfl⟩
  have HG := hid (gb_start w q m 2 on q0.1.run V hV)
  have HL := hid h
  have y0 := hA.c0
  have c2 : w.cell? ⟨b, 2, none⟩ = some (.slice (some ⟨g, off, none⟩) S.left.length cl) := cell_at h.bl rfl
  have hzl : (0 : Int) < (S.left.length : Int) := by rw [e]; simp
  have hgw : g < w.heap.size := cell_lt' y0
  clear h hA hcl hq e
  go_enter Tryd.func33, Tryd.ntmps33
  go_upto_region 2 with fail
  rw [← hV]
  clear hV y0 c2
  subst hvc
  have hlt := hck.lt
  have HC : Hid (Calls Tryd.prog 50 #[.pointer (some ⟨c, 0, none⟩), .int .i64 on] V fun e w2 => e = .returned (.tuple #[.int .i64 (Cl.inN s on), .int .i64 0]) ∧ Cl.Nx V w2 c F (Cl.inS s on)) := hid (by
    have := Cl.in16 V c F s on (hck.keep0 HG.out.1) hl hd
    rw [he] at this
    exact this)
  have x2 := cell_at (j := 2) (v := .int .i64 2) HG.out.2.b0 rfl
  have x3 := cell_at (j := 3) (v := .int .i64 on) HG.out.2.b0 rfl
  clear hck hl hd he
  go_upto_region 12 with (go_at_call 50; refine HC.out.mono ?_; rintro e Y ⟨rfl, gY⟩; obtain ⟨F', k1, k2, k3⟩ := gY; have HK := hid k1; have HY := hid k2; have HN := hid k3; clear k1 k2 k3)
  clear x2 x3
  have HGY : Hid (Gb w Y q m 2 on 1 q0.1.run 0 0) := hid (HG.out.2.keep HY.out (fun k hk => hlt k hk))
  have HQY := hid ((HL.out.keep0 HG.out.1).keep HY.out (fun k hk => hF k hk))
  have HTY : Hid (Touch F w Y) := hid ((HG.out.1.mono (fun _ e => by cases e)).trans' HY.out)
  have HFN : Hid (∀ k ∈ F', b < k ∧ k ≠ w.heap.size ∧ k ≠ w.heap.size + 1 ∧ k ≠ w.heap.size + 1 + 1) := hid (fun k hk => by
    have z := HG.out.2.z
    rcases HN.out k hk with e | e
    · have := hF k e
      have := hlt k e
      omega
    · omega)
  have HNF : Hid (Nf w F F') := hid (fun k hk => (HN.out k hk).elim Or.inl (fun e => Or.inr (Nat.le_trans HG.out.1.size e)))
  obtain ⟨tm, htm⟩ : ∃ tm, tm = Cl.inN s on := ⟨_, rfl⟩
  rw [← htm]
  have HTM := hid htm
  clear htm HC HN
  go_upto_region 14 with fail
  refine wp_region_H (S := fun w' => Touch [w.heap.size + 1 + 1] Y w') (by kernel_rfl) ?_
  have s0 : Touch [w.heap.size + 1 + 1] Y Y.drew := (Touch.refl _ _).drew
  have x3 : ∀ w', Touch [w.heap.size + 1 + 1] Y w' → w'.cell? ⟨w.heap.size, 3, none⟩ = some (.int .i64 on) := fun w' T => cell_at (T.keep HGY.out.b0 (by simp; omega)) rfl
  have e0 := cell_at (j := 0) (v := .int .i64 1) HGY.out.b2 rfl
  have e2 := cell_at (j := 2) (v := .int .i64 0) HGY.out.b2 rfl
  have e3 := cell_at (j := 3) (v := .int .i64 0) HGY.out.b2 rfl
  have ef := froz_at HGY.out.b2
  have el := block_lt HGY.out.b2
  refine wpH_take (i := 0) (v := (.pointer (some ⟨w.heap.size, 3, none⟩))) (some 62) rfl rfl (by kernel_rfl) (by kernel_rfl) (by kernel_rfl) (fun _ _ _ h => h) (Or.inl ⟨by rfl, fun w' hS => (by go_simp)⟩) s0 ?_
  try simp only [Go.Act.put, List.setIfInBounds_toArray, List.set_cons_zero, List.set_cons_succ]
  refine wpH_take (i := 1) (v := (.int .i64 on)) (some 63) rfl rfl (by kernel_rfl) (by kernel_rfl) (by kernel_rfl) (fun _ _ _ h => h) (Or.inl ⟨by rfl, fun w' hS => (by have z0 := x3 _ hS; go_simp)⟩) s0 ?_
  try simp only [Go.Act.put, List.setIfInBounds_toArray, List.set_cons_zero, List.set_cons_succ]
  refine wpH_take (i := 2) (v := (.int .i64 tm)) (some 64) rfl rfl (by kernel_rfl) (by kernel_rfl) (by kernel_rfl) (fun _ _ _ h => h) (Or.inl ⟨by rfl, fun w' hS => (by go_simp)⟩) s0 ?_
  try simp only [Go.Act.put, List.setIfInBounds_toArray, List.set_cons_zero, List.set_cons_succ]
  refine wpH_take (i := 3) (v := (.pointer (some ⟨w.heap.size + 1 + 1, 0, none⟩))) (some 65) rfl rfl (by kernel_rfl) (by kernel_rfl) (by kernel_rfl) (fun _ _ _ h => h) (Or.inl ⟨by rfl, fun w' hS => (by go_simp)⟩) s0 ?_
  try simp only [Go.Act.put, List.setIfInBounds_toArray, List.set_cons_zero, List.set_cons_succ]
  refine wpH_call (i := 4) (o := { dst := none, op := Op.store 3 (Operand.tmp 65) (Operand.const (Value.int IntKind.i64 3)), type := 0, pos := _, after := #[{ on := 3, ground := Ground.data }, { on := 0, ground := Ground.textOnly Departure.lateStores }, { on := 1, ground := Ground.textOnly Departure.lateStores }, { on := 2, ground := Ground.textOnly Departure.lateStores }], guard := none }) (by kernel_rfl) rfl (fun K' hK => ?_)
  rw [if_pos (by rfl)]
  go_simp
  refine hK.out _ _ (((Touch.refl _ _).setCell (Or.inl (by simp)) _).drew) ?_
  clear hK
  try simp only [Go.Act.put, List.setIfInBounds_toArray, List.set_cons_zero, List.set_cons_succ]
  refine wpH_take (i := 5) (v := (.pointer (some ⟨w.heap.size + 1 + 1, 2, none⟩))) (some 66) rfl rfl (by kernel_rfl) (by kernel_rfl) (by kernel_rfl) (fun _ _ _ h => h) (Or.inl ⟨by rfl, fun w' hS => (by go_simp)⟩) (((Touch.refl _ _).setCell (Or.inl (by simp)) _).drew) ?_
  try simp only [Go.Act.put, List.setIfInBounds_toArray, List.set_cons_zero, List.set_cons_succ]
  refine wpH_call (i := 6) (o := { dst := none, op := Op.store 2 (Operand.tmp 66) (Operand.tmp 63), type := 0, pos := _, after := #[{ on := 5, ground := Ground.data }, { on := 1, ground := Ground.data }, { on := 4, ground := Ground.chain }, { on := 0, ground := Ground.phase }, { on := 1, ground := Ground.phase }, { on := 2, ground := Ground.textOnly Departure.lateStores }, { on := 3, ground := Ground.phase }, { on := 4, ground := Ground.phase }], guard := none }) (by kernel_rfl) rfl (fun K' hK => ?_)
  rw [if_pos (by rfl)]
  go_simp
  refine hK.out _ _ ((((Touch.refl _ _).setCell (Or.inl (by simp)) _).setCell (Or.inl (by simp)) _).drew) ?_
  clear hK
  try simp only [Go.Act.put, List.setIfInBounds_toArray, List.set_cons_zero, List.set_cons_succ]
  refine wpH_take (i := 7) (v := (.pointer (some ⟨w.heap.size + 1 + 1, 3, none⟩))) (some 67) rfl rfl (by kernel_rfl) (by kernel_rfl) (by kernel_rfl) (fun _ _ _ h => h) (Or.inl ⟨by rfl, fun w' hS => (by go_simp)⟩) ((((Touch.refl _ _).setCell (Or.inl (by simp)) _).setCell (Or.inl (by simp)) _).drew) ?_
  try simp only [Go.Act.put, List.setIfInBounds_toArray, List.set_cons_zero, List.set_cons_succ]
  refine wpH_call (i := 8) (o := { dst := none, op := Op.store 3 (Operand.tmp 67) (Operand.tmp 64), type := 0, pos := _, after := #[{ on := 7, ground := Ground.data }, { on := 2, ground := Ground.data }, { on := 6, ground := Ground.chain }, { on := 0, ground := Ground.phase }, { on := 1, ground := Ground.phase }, { on := 2, ground := Ground.phase }, { on := 3, ground := Ground.phase }, { on := 4, ground := Ground.phase }, { on := 5, ground := Ground.phase }, { on := 6, ground := Ground.phase }], guard := none }) (by kernel_rfl) rfl (fun K' hK => ?_)
  rw [if_pos (by rfl)]
  go_simp
  refine hK.out _ _ (((((Touch.refl _ _).setCell (Or.inl (by simp)) _).setCell (Or.inl (by simp)) _).setCell (Or.inl (by simp)) _).drew) ?_
  clear hK
  try simp only [Go.Act.put, List.setIfInBounds_toArray, List.set_cons_zero, List.set_cons_succ]
  refine wpAnyH_done (by kernel_rfl) ?_ _
  obtain ⟨W, hW⟩ : ∃ W, W = (((Y.setCell ⟨w.heap.size + 1 + 1, 0, none⟩ (.int .i64 3)).setCell ⟨w.heap.size + 1 + 1, 2, none⟩ (.int .i64 on)).setCell ⟨w.heap.size + 1 + 1, 3, none⟩ (.int .i64 tm)).drew := ⟨_, rfl⟩
  rw [← hW]
  have HT : Hid (Touch [w.heap.size + 1 + 1] Y W) := hid (by rw [hW]; exact ((((Touch.refl _ _).setCell (Or.inl (by simp)) _).setCell (Or.inl (by simp)) _).setCell (Or.inl (by simp)) _).drew)
  have HGW : Hid (Gb w W q m 2 on 3 q0.1.run on tm) := hid (by rw [hW]; exact (HGY.out.done3 3 on tm).keep (Touch.refl [] _).drew (fun _ e => by cases e))
  have HQW := hid (HQY.out.keep HT.out (fun k hk => by simp at hk; omega))
  have HTW : Hid (Touch (b :: F) w W) := hid ((HTY.out.mono (fun k hk => List.mem_cons_of_mem _ hk)).trans HT.out (fun k hk => Or.inr (by simp at hk; omega)))
  have HKW := hid (HK.out.keep HT.out (fun k hk e => by simp at e; exact (HFN.out k hk).2.2.2 e))
  clear hW s0 x3 e0 e2 e3 ef el
  go_upto_region 15 with fail
  refine wp_region_H (S := fun w' => Touch [b] W w') (by kernel_rfl) ?_
  have s0 : Touch [b] W W.drew := (Touch.refl _ _).drew
  have x0 : ∀ w', Touch [b] W w' → w'.cell? ⟨w.heap.size, 0, none⟩ = some (.int .i64 (q : Nat)) := fun w' T => cell_at (T.keep HGW.out.b0 (by simp; omega)) rfl
  have x1 : ∀ w', Touch [b] W w' → w'.cell? ⟨w.heap.size, 1, none⟩ = some (.int .i64 m) := fun w' T => cell_at (T.keep HGW.out.b0 (by simp; omega)) rfl
  have x2 : ∀ w', Touch [b] W w' → w'.cell? ⟨w.heap.size, 2, none⟩ = some (.int .i64 2) := fun w' T => cell_at (T.keep HGW.out.b0 (by simp; omega)) rfl
  have x3 : ∀ w', Touch [b] W w' → w'.cell? ⟨w.heap.size, 3, none⟩ = some (.int .i64 on) := fun w' T => cell_at (T.keep HGW.out.b0 (by simp; omega)) rfl
  have d3 : ∀ w', Touch [b] W w' → w'.cell? ⟨w.heap.size + 1 + 1, 3, none⟩ = some (.int .i64 tm) := fun w' T => cell_at (T.keep HGW.out.b2 (by simp; omega)) rfl
  have s3 := cell_at (j := 3) (v := .int .i64 S.p) HQW.out.bl rfl
  have s4 := cell_at (j := 4) (v := .int .i64 S.n) HQW.out.bl rfl
  have s5 := cell_at (j := 5) (v := .int .i64 S.wt) HQW.out.bl rfl
  have s6 := cell_at (j := 6) (v := .int .i64 S.on) HQW.out.bl rfl
  have s7 := cell_at (j := 7) (v := .int .i64 S.tm) HQW.out.bl rfl
  have sf := froz_at HQW.out.bl
  have sl := block_lt HQW.out.bl
  refine wpH_take (i := 0) (v := (.pointer (some ⟨b, 0, none⟩))) (some 68) rfl rfl (by kernel_rfl) (by kernel_rfl) (by kernel_rfl) (fun _ _ _ h => h) (Or.inl ⟨by rfl, fun w' hS => (by go_simp)⟩) s0 ?_
  try simp only [Go.Act.put, List.setIfInBounds_toArray, List.set_cons_zero, List.set_cons_succ]
  refine wpH_take (i := 1) (v := (.pointer (some ⟨b, 0, none⟩))) (some 69) rfl rfl (by kernel_rfl) (by kernel_rfl) (by kernel_rfl) (fun _ _ _ h => h) (Or.inl ⟨by rfl, fun w' hS => (by go_simp)⟩) s0 ?_
  try simp only [Go.Act.put, List.setIfInBounds_toArray, List.set_cons_zero, List.set_cons_succ]
  refine wpH_take (i := 2) (v := (.agg #[.int .i64 (q : Nat), .int .i64 m, .int .i64 2, .int .i64 on])) (some 70) rfl rfl (by kernel_rfl) (by kernel_rfl) (by kernel_rfl) (fun _ _ _ h => h) (Or.inl ⟨by rfl, fun w' hS => (by have z0 := x0 _ hS; have z1 := x1 _ hS; have z2 := x2 _ hS; have z3 := x3 _ hS; go_simp)⟩) s0 ?_
  try simp only [Go.Act.put, List.setIfInBounds_toArray, List.set_cons_zero, List.set_cons_succ]
  refine wpH_take (i := 3) (v := (.pointer (some ⟨w.heap.size + 1 + 1, 3, none⟩))) (some 71) rfl rfl (by kernel_rfl) (by kernel_rfl) (by kernel_rfl) (fun _ _ _ h => h) (Or.inl ⟨by rfl, fun w' hS => (by go_simp)⟩) s0 ?_
  try simp only [Go.Act.put, List.setIfInBounds_toArray, List.set_cons_zero, List.set_cons_succ]
  refine wpH_take (i := 4) (v := (.int .i64 tm)) (some 72) rfl rfl (by kernel_rfl) (by kernel_rfl) (by kernel_rfl) (fun _ _ _ h => h) (Or.inl ⟨by rfl, fun w' hS => (by have z0 := d3 _ hS; go_simp)⟩) s0 ?_
  try simp only [Go.Act.put, List.setIfInBounds_toArray, List.set_cons_zero, List.set_cons_succ]
  refine wpH_take (i := 5) (v := (.pointer (some ⟨b, 0, none⟩))) (some 73) rfl rfl (by kernel_rfl) (by kernel_rfl) (by kernel_rfl) (fun _ _ _ h => h) (Or.inl ⟨by rfl, fun w' hS => (by go_simp)⟩) s0 ?_
  try simp only [Go.Act.put, List.setIfInBounds_toArray, List.set_cons_zero, List.set_cons_succ]
  refine wpH_take (i := 6) (v := (.pointer (some ⟨b, 3, none⟩))) (some 74) rfl rfl (by kernel_rfl) (by kernel_rfl) (by kernel_rfl) (fun _ _ _ h => h) (Or.inl ⟨by rfl, fun w' hS => (by go_simp)⟩) s0 ?_
  try simp only [Go.Act.put, List.setIfInBounds_toArray, List.set_cons_zero, List.set_cons_succ]
  refine wpH_call (i := 7) (o := { dst := none, op := Op.store 76 (Operand.tmp 74) (Operand.tmp 70), type := 0, pos := _, after := #[{ on := 6, ground := Ground.data }, { on := 2, ground := Ground.data }, { on := 0, ground := Ground.phase }, { on := 1, ground := Ground.textOnly Departure.lateStores }, { on := 2, ground := Ground.phase }, { on := 3, ground := Ground.textOnly Departure.lateStores }, { on := 4, ground := Ground.textOnly Departure.lateStores }], guard := none }) (by kernel_rfl) rfl (fun K' hK => ?_)
  rw [if_pos (by rfl)]
  go_simp
  refine hK.out _ _ ((((((Touch.refl _ _).setCell (Or.inl (by simp)) _).setCell (Or.inl (by simp)) _).setCell (Or.inl (by simp)) _).setCell (Or.inl (by simp)) _).drew) ?_
  clear hK
  try simp only [Go.Act.put, List.setIfInBounds_toArray, List.set_cons_zero, List.set_cons_succ]
  refine wpH_take (i := 8) (v := (.pointer (some ⟨b, 0, none⟩))) (some 75) rfl rfl (by kernel_rfl) (by kernel_rfl) (by kernel_rfl) (fun _ _ _ h => h) (Or.inl ⟨by rfl, fun w' hS => (by go_simp)⟩) ((((((Touch.refl _ _).setCell (Or.inl (by simp)) _).setCell (Or.inl (by simp)) _).setCell (Or.inl (by simp)) _).setCell (Or.inl (by simp)) _).drew) ?_
  try simp only [Go.Act.put, List.setIfInBounds_toArray, List.set_cons_zero, List.set_cons_succ]
  refine wpH_take (i := 9) (v := (.pointer (some ⟨b, 7, none⟩))) (some 76) rfl rfl (by kernel_rfl) (by kernel_rfl) (by kernel_rfl) (fun _ _ _ h => h) (Or.inl ⟨by rfl, fun w' hS => (by go_simp)⟩) ((((((Touch.refl _ _).setCell (Or.inl (by simp)) _).setCell (Or.inl (by simp)) _).setCell (Or.inl (by simp)) _).setCell (Or.inl (by simp)) _).drew) ?_
  try simp only [Go.Act.put, List.setIfInBounds_toArray, List.set_cons_zero, List.set_cons_succ]
  refine wpH_call (i := 10) (o := { dst := none, op := Op.store 3 (Operand.tmp 76) (Operand.tmp 72), type := 0, pos := _, after := #[{ on := 9, ground := Ground.data }, { on := 4, ground := Ground.data }, { on := 7, ground := Ground.chain }, { on := 0, ground := Ground.phase }, { on := 1, ground := Ground.phase }, { on := 2, ground := Ground.phase }, { on := 3, ground := Ground.phase }, { on := 4, ground := Ground.phase }, { on := 5, ground := Ground.phase }, { on := 6, ground := Ground.phase }, { on := 7, ground := Ground.phase }], guard := none }) (by kernel_rfl) rfl (fun K' hK => ?_)
  rw [if_pos (by rfl)]
  go_simp
  refine hK.out _ _ (((((((Touch.refl _ _).setCell (Or.inl (by simp)) _).setCell (Or.inl (by simp)) _).setCell (Or.inl (by simp)) _).setCell (Or.inl (by simp)) _).setCell (Or.inl (by simp)) _).drew) ?_
  clear hK
  try simp only [Go.Act.put, List.setIfInBounds_toArray, List.set_cons_zero, List.set_cons_succ]
  refine wpAnyH_done (by kernel_rfl) ?_ _
  obtain ⟨W5, hW5⟩ : ∃ W5, W5 = (((((W.setCell ⟨b, 3, none⟩ (.int .i64 (q : Nat))).setCell ⟨b, 4, none⟩ (.int .i64 m)).setCell ⟨b, 5, none⟩ (.int .i64 2)).setCell ⟨b, 6, none⟩ (.int .i64 on)).setCell ⟨b, 7, none⟩ (.int .i64 tm)).drew := ⟨_, rfl⟩
  rw [← hW5]
  have HF := hid (go_fin HGW.out HQW.out HTW.out (by simp) hbw W5 hW5)
  clear hW5 s0 x0 x1 x2 x3 d3 s3 s4 s5 s6 s7 sf sl
  have d0 := HF.out.1.d0
  have d1 := HF.out.1.d1
  have d2 := HF.out.1.d2
  have d3 := HF.out.1.d3
  have f0 := HF.out.1.f0
  have f1 := HF.out.1.f1
  have f2 := HF.out.1.f2
  have f3 := HF.out.1.f3
  have ff := HF.out.1.ff
  have zz := HF.out.1.z
  have HR := hid HF.out.2
  unfold fin4g at HR
  clear HF
  go_wp2
  refine bodyPost_ret (v := .tuple #[.agg #[.int .i64 3, .int .i64 q0.1.run, .int .i64 on, .int .i64 tm], .int .i64 0]) (by simp [results, Tryd.results33, go_sem, f0, f1, f2, f3, d0, d1, d2, d3]) rfl ?_
  exact ⟨by rw [HTM.out], by rw [← HTM.out]; exact HR.out.1, F', HKW.out.keep HR.out.2.2 (fun k hk e => by simp at e; have := HFN.out k hk; omega), HNF.out, HR.out.2.1⟩
end
end Go.Proofs.YtcbckehdlbbbbaaDoor
