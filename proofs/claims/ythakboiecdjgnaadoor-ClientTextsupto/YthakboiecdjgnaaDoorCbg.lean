/- A struct of many cells read and written whole, and a client's Clone; no conditions but those that each states. -/
import Derived.Test.YthakboiecdjgnaaDoorChd
import Derived.Deep.WholeRow
namespace Go.Proofs.YthakboiecdjgnaaDoor.Ci
open Go.RowKit Go.Maps Go.ChangeMaps
set_option linter.unusedVariables false
set_option linter.unusedSimpArgs false
theorem touch_setRow (w : World) (g : Nat) (c : Array Value) : Touch [g] w (w.setRow g c) := by
  refine ⟨rfl, rfl, rfl, by simp [World.setRow], fun k hk hn => ?_⟩
  simp only [World.setRow, Array.getElem?_modify]
  rw [if_neg (fun e => hn (by simp [e]))]
theorem all_of {c : Array Value} (h : ∀ j, j < c.size → ∃ v, c[j]? = some v ∧ v.oneCell' = true) : c.all (·.oneCell') = true := by
  rw [Array.all_eq_true]
  intro j hj
  obtain ⟨v, hv, h1⟩ := h j hj
  rw [Array.getElem?_eq_getElem hj] at hv
  cases hv
  exact h1
/-- A struct's type and its cells. -/
structure Big (t : TypeId) (n : Nat) : Prop where
  u : ∃ fs, Tryd.prog.underlying t = some (.struct fs)
  i : (Tryd.prog.info? t).map (·.size) = some n
section
variable {w : World} {t : TypeId} {n : Nat}
theorem at_loadT (B : Big t n) (w : World) {g : Nat} {c : Array Value} {ty : TypeId} {fr : Nat × Nat} (hb : w.heap[g]? = some (.cells c ty fr)) (hc : c.size = n) : (Instr.loadAt t (.pointer (some ⟨g, 0, none⟩))).run Tryd.prog w = .ok (.agg c) w := by
  obtain ⟨fs, hu⟩ := B.u
  simp only [Instr.loadAt, Instr.sureAddr, Sem.run_bind, Sem.run_pure, Result.andThen]
  exact run_loadVar_row w g ty t c fr _ hb hu rfl (by rw [B.i, hc])
theorem at_storeT (B : Big t n) (w : World) {g : Nat} {c c' : Array Value} {ty : TypeId} (hb : w.heap[g]? = some (.cells c ty (0, 0))) (hc : c.size = n) (hn : c'.size = n) (h1 : c'.all (·.oneCell') = true) : (Instr.storeAt t (.pointer (some ⟨g, 0, none⟩)) (.agg c')).run Tryd.prog w = .ok () (w.setRow g c') := by
  simp only [Instr.storeAt, Instr.sureAddr, Sem.run_bind, Sem.run_pure, Result.andThen]
  exact run_storeVar_row w g ty t c c' hb (by rw [B.i, hn]) (by rw [hc, hn]) h1
variable {ops : Array Oper} {rest : List Oper} {o : Oper} {a : Act} {K : Act → World → Prop} {Q : Exit → Act → World → Prop}
theorem exec_loadT (B : Big t n) (p : Operand) (hop : o.op = Op.load t p) {g : Nat} {c : Array Value} {ty : TypeId} {fr : Nat × Nat} (hp : a.eval p = .pointer (some ⟨g, 0, none⟩)) (hb : w.heap[g]? = some (.cells c ty fr)) (hc : c.size = n) : (execOp a.eval o).run Tryd.prog w = .ok (.value (.agg c)) w := by
  have hrun := at_loadT B w hb hc
  simp only [execOp, hop, hp, hrun, Sem.run_bind, Sem.run_pure, Result.andThen_ok]
theorem wpList_loadT (B : Big t n) (hg : o.guard = none) (p : Operand) (hop : o.op = Op.load t p) (g : Nat) (c : Array Value) (ty : TypeId) (fr : Nat × Nat) (hp : a.eval p = .pointer (some ⟨g, 0, none⟩)) (hb : w.heap[g]? = some (.cells c ty fr)) (hc : c.size = n)
    (hK : wpList Tryd.prog ops Q rest (a.put o.dst (.agg c)) w) : wpList Tryd.prog ops Q (o :: rest) a w := by
  refine wpList_plain hg fun K' hK' => ?_
  have hrun := at_loadT B w hb hc
  unfold Oper.wp
  simp only [execOp, hop, hp, hrun, Sem.run_bind, Sem.run_pure, Result.andThen_ok]
  exact hK' _ _ hK
theorem wp_storeT (B : Big t n) (p v : Operand) (hop : o.op = Op.store t p v) (g : Nat) (c c' : Array Value) (ty : TypeId) (hp : a.eval p = .pointer (some ⟨g, 0, none⟩)) (hv : a.eval v = .agg c') (hb : w.heap[g]? = some (.cells c ty (0, 0))) (hc : c.size = n) (hn : c'.size = n) (h1 : c'.all (·.oneCell') = true)
    (hK : ∀ w', w'.heap[g]? = some (.cells c' ty (0, 0)) → Touch [g] w w' → w'.heap.size = w.heap.size → K (a.put o.dst undef) w') : o.wp Tryd.prog a w K Q := by
  have hrun := at_storeT B w hb hc hn h1
  unfold Oper.wp
  simp only [execOp, hop, hp, hv, hrun, Sem.run_bind, Sem.run_pure, Result.andThen_ok]
  exact hK _ (setRow_heap w g c c' ty (0, 0) hb) (touch_setRow w g c') (by simp [World.setRow])
theorem wpList_storeT (B : Big t n) (hg : o.guard = none) (p v : Operand) (hop : o.op = Op.store t p v) (g : Nat) (c c' : Array Value) (ty : TypeId) (hp : a.eval p = .pointer (some ⟨g, 0, none⟩)) (hv : a.eval v = .agg c') (hb : w.heap[g]? = some (.cells c ty (0, 0))) (hc : c.size = n) (hn : c'.size = n) (h1 : c'.all (·.oneCell') = true)
    (hK : ∀ w', w'.heap[g]? = some (.cells c' ty (0, 0)) → Touch [g] w w' → w'.heap.size = w.heap.size → wpList Tryd.prog ops Q rest (a.put o.dst undef) w') : wpList Tryd.prog ops Q (o :: rest) a w := by
  refine wpList_plain hg fun K' hK' => ?_
  exact wp_storeT B p v hop g c c' ty hp hv hb hc hn h1 (fun w' q1 q2 q3 => hK' _ _ (hK w' q1 q2 q3))
end
theorem bigC : Big 115 148 := ⟨⟨_, Tryd.underlying115⟩, by kernel_rfl⟩
theorem Sz.one (s : Sz) {j : Nat} (hj : j < 9) : ∃ v, s.cells[j]? = some v ∧ v.oneCell' = true := by
  match j, hj with
  | 0, _ => exact ⟨_, rfl, rfl⟩
  | 1, _ => exact ⟨_, rfl, rfl⟩
  | 2, _ => exact ⟨_, rfl, rfl⟩
  | 3, _ => exact ⟨_, rfl, rfl⟩
  | 4, _ => exact ⟨_, rfl, rfl⟩
  | 5, _ => exact ⟨_, rfl, rfl⟩
  | 6, _ => exact ⟨_, rfl, rfl⟩
  | 7, _ => exact ⟨_, rfl, rfl⟩
  | 8, _ => exact ⟨_, rfl, rfl⟩
theorem zc_size : Tryd.zeroCells115.size = 148 := by simp [Tryd.zeroCells115]
/-- The cells of a client. -/
structure Cc (cs : Array Value) (pv lv : Value) (S : Cs) : Prop where
  n : cs.size = 148
  c0 : cs[0]? = some pv
  c1 : cs[1]? = some (.int .i64 (S.at_ : Nat))
  c2 : cs[2]? = some (.int .i64 S.tok)
  c3 : cs[3]? = some lv
  sl : ∀ i j, i < 16 → j < 9 → cs[4 + i * 9 + j]? = (S.sl i).cells[j]?
section
variable {w w' : World} {b : Nat} {pv lv : Value} {S : Cs} {cs : Array Value}
theorem Cq.cc (h : Cq w b pv lv S) : ∃ cs, w.heap[b]? = some (.cells cs 115 (0, 0)) ∧ Cc cs pv lv S := by
  obtain ⟨cs, h1, h2, h3, h4, h5, h6, h7⟩ := h.blk
  exact ⟨cs, h1, h2, h3, h4, h5, h6, h7⟩
theorem Cc.one (h : Cc cs pv lv S) (hp : pv.oneCell' = true) (hl : lv.oneCell' = true) : cs.all (·.oneCell') = true := all_of (fun j hj => by
  rw [h.n] at hj
  match j, hj with
  | 0, _ => exact ⟨_, h.c0, hp⟩
  | 1, _ => exact ⟨_, h.c1, rfl⟩
  | 2, _ => exact ⟨_, h.c2, rfl⟩
  | 3, _ => exact ⟨_, h.c3, hl⟩
  | k + 4, hj =>
    obtain ⟨v, h1, h2⟩ := (S.sl (k / 9)).one (j := k % 9) (by omega)
    exact ⟨v, by rw [← h1, ← h.sl (k / 9) (k % 9) (by omega) (by omega)]; congr 1; omega, h2⟩)
theorem Cc.set0 (h : Cc cs pv lv S) (v : Value) : Cc (cs.setIfInBounds 0 v) v lv S := by
  refine ⟨by simpa using h.n, ?_, ?_, ?_, ?_, ?_⟩
  · rw [Array.getElem?_setIfInBounds_self_of_lt (by have := h.n; omega)]
  · rw [Array.getElem?_setIfInBounds_ne (by decide)]; exact h.c1
  · rw [Array.getElem?_setIfInBounds_ne (by decide)]; exact h.c2
  · rw [Array.getElem?_setIfInBounds_ne (by decide)]; exact h.c3
  · intro i j hi hj
    rw [Array.getElem?_setIfInBounds_ne (by omega)]; exact h.sl i j hi hj
theorem Cc.set3 (h : Cc cs pv lv S) (v : Value) : Cc (cs.setIfInBounds 3 v) pv v S := by
  refine ⟨by simpa using h.n, ?_, ?_, ?_, ?_, ?_⟩
  · rw [Array.getElem?_setIfInBounds_ne (by decide)]; exact h.c0
  · rw [Array.getElem?_setIfInBounds_ne (by decide)]; exact h.c1
  · rw [Array.getElem?_setIfInBounds_ne (by decide)]; exact h.c2
  · rw [Array.getElem?_setIfInBounds_self_of_lt (by have := h.n; omega)]
  · intro i j hi hj
    rw [Array.getElem?_setIfInBounds_ne (by omega)]; exact h.sl i j hi hj
def ClE (e : Ending) (w w' : World) (S : Cs) : Prop := ∃ g pv' lv', e = .returned (.pointer (some ⟨g, 0, none⟩)) ∧ Cq w' g pv' lv' S ∧ Touch [] w w' ∧ w.heap.size ≤ g ∧ (∀ k, pv'.ownBlock = some k → w.heap.size ≤ k) ∧ ∀ k, lv'.ownBlock = some k → w.heap.size ≤ k
set_option maxHeartbeats 2000000 in
set_option maxRecDepth 20000 in
theorem clone_ (h : Cq w b pv lv S) (hl : S.log.length ≤ 2000000000000) : Calls Tryd.prog 28 #[.pointer (some ⟨b, 0, none⟩)] w fun e w' => ClE e w w' S := by
  obtain ⟨cs, hb, hc⟩ := h.cc
  obtain ⟨a, c, rfl⟩ := own_form h.pr
  obtain ⟨a', c', rfl⟩ := own_form h.lg
  have HO := hid (hc.one rfl rfl)
  have HN := hid hc.n
  have HC := hid hc
  have H := hid h
  have HB := hid hb
  have p0 := h.c0
  have hb' := h.lt
  have HL := hid hl
  clear h hb hc hl
  have H4 : Hid (∀ w4 : World, Touch [w.heap.size] (w.alloc (.cells Tryd.zeroCells115 115)) w4 → Touch [] w w4) := hid (fun w4 t => ((Touch.refl [] w).alloc _).trans t (fun k hk => Or.inr (by simp at hk; omega)))
  have HF : Hid (∀ (w4 w5 w7 : World) (v5 v7 : Value), w4.heap[w.heap.size]? = some (.cells cs 115 (0, 0)) → Touch [] w w4 → Touch [] w4 w5 → w5.ownsRow w4.heap.size 47 5 v5 S.L.length (cellsD S.L) → Touch [] (w5.setCell ⟨w.heap.size, 0, none⟩ v5) w7 → w7.ownsRow (w5.setCell ⟨w.heap.size, 0, none⟩ v5).heap.size 60 7 v7 S.log.length (cellsG S.log) → ClE (.returned (.pointer (some ⟨w.heap.size, 0, none⟩))) w (w7.setCell ⟨w.heap.size, 3, none⟩ v7) S) := hid (fun w4 w5 w7 v5 v7 h4 t4 t5 o5 t7 o7 => by
    have s4 := t4.size
    have g4 := block_lt h4
    have s5 := t5.size
    have s6 : (w5.setCell ⟨w.heap.size, 0, none⟩ v5).heap.size = w5.heap.size := by simp [World.setCell]
    have s7 := t7.size
    have h5 := t5.keep h4 (by simp)
    have h7 := t7.keep (bset h5 v5) (by simp)
    have k5 : ∀ k, v5.ownBlock = some k → w.heap.size < k := fun k hk => by have := (o5.lt k hk).1; omega
    have k7 : ∀ k, v7.ownBlock = some k → w.heap.size < k := fun k hk => by have := (o7.lt k hk).1; omega
    have z := (HC.out.set0 v5).set3 v7
    have t9 : Touch [] w (w7.setCell ⟨w.heap.size, 3, none⟩ v7) := (((t4.trans' t5).setCell (p := ⟨w.heap.size, 0, none⟩) (Or.inr (Nat.le_refl _)) v5).trans' t7).setCell (p := ⟨w.heap.size, 3, none⟩) (Or.inr (Nat.le_refl _)) v7
    refine ⟨w.heap.size, v5, v7, rfl, ⟨⟨_, bset h7 v7, z.n, z.c0, z.c1, z.c2, z.c3, z.sl⟩, ?_, ?_, H.out.le, H.out.len⟩, t9, Nat.le_refl _, fun k hk => Nat.le_of_lt (k5 k hk), fun k hk => Nat.le_of_lt (k7 k hk)⟩
    · have q := own_touch (own_keep (w' := w5.setCell ⟨w.heap.size, 0, none⟩ v5) o5 (fun k hk => heap_set_ne (by have := k5 k hk; show k ≠ w.heap.size; omega))) t7 (by simp)
      exact own_base (own_keep q (fun k hk => heap_set_ne (by have := k5 k hk; show k ≠ w.heap.size; omega))) (Nat.zero_le _)
    · exact own_base (own_keep o7 (fun k hk => heap_set_ne (by have := k7 k hk; show k ≠ w.heap.size; omega))) (Nat.zero_le _))
  have HG : Hid (∀ w6, Touch [] w w6 → Calls Tryd.prog 21 #[.pointer (some ⟨b, 0, none⟩)] w6 fun e w' => LgE e w6 w' S.log) := hid (fun w6 t => log_ (H.out.touch t) HL.out)
  have HP : Hid (∀ w4, Touch [] w w4 → w4.cell? ⟨b, 0, none⟩ = some (.slice a S.L.length c) ∧ Rs 47 5 w4 (.slice a S.L.length c) S.L.length (cellsD S.L) ∧ S.L.length ≤ 256) := hid (fun w4 t => ⟨(H.out.touch t).c0, Rs.of_own (H.out.touch t).pr, H.out.len⟩)
  have HZ : Hid (∀ (w' : World), w'.heap[w.heap.size]? = some (.cells cs 115 (0, 0)) → w'.cell? ⟨w.heap.size, 0, none⟩ = some (.slice a S.L.length c) ∧ ∀ j, w'.frozen? ⟨w.heap.size, j, none⟩ = false) := hid (fun w' h => ⟨cell_at h HC.out.c0, froz_at h⟩)
  have HZ3 : Hid (∀ (w' : World) v, w'.heap[w.heap.size]? = some (.cells (cs.setIfInBounds 0 v) 115 (0, 0)) → w'.cell? ⟨w.heap.size, 3, none⟩ = some (.slice a' S.log.length c') ∧ ∀ j, w'.frozen? ⟨w.heap.size, j, none⟩ = false) := hid (fun w' v h => ⟨cell_at h (HC.out.set0 v).c3, froz_at h⟩)
  clear H HC
  go_enter Tryd.func28, Tryd.ntmps28
  go_wp2_with (first
    | (refine wpList_loadT bigC rfl _ rfl b cs 115 (0, 0) rfl HB.out HN.out ?_)
    | (refine wpList_storeT bigC rfl _ _ rfl w.heap.size _ cs 115 rfl rfl (heap_alloc_new w _) zc_size HN.out HO.out ?_; intro w4 h4 t4 s4; have T4 := hid (H4.out _ t4); have B4 := hid h4; clear h4 t4 s4 p0; obtain ⟨p0, R4, l4⟩ := HP.out _ T4.out; have R4' := hid R4; have L4 := hid l4; clear R4 l4)
    | (at_builtin; refine wpList_append_rs rfl _ _ 22 47 rfl _ 5 48 infoD Tryd.underlying22 rfl (by decide) w4.heap.size (.slice none 0 0) 0 [] rfl (own_nil w4 w4.heap.size _ _) _ S.L.length (cellsD S.L) rfl R4'.out (cellsD_one _) (by have := L4.out; unfold maxLen; omega) (by have := L4.out; omega) (Nat.le_refl _) ?_; intro v5 w5 o5 g5 e5; rw [Nat.zero_add, List.nil_append] at o5; obtain ⟨a5, c5, e5⟩ := own_form o5; subst e5; have O5 := hid o5; have T5 := hid ((Touch.refl [] w4).grown g5 (fun k hk => by cases hk)); clear o5 g5 p0; have B5 := hid (T5.out.keep B4.out (by simp)); obtain ⟨y0, yf⟩ := HZ.out _ B5.out)
    | (go_at_call 21; clear y0 yf; refine (HG.out _ ((T4.out.trans' T5.out).setCell (p := ⟨w.heap.size, 0, none⟩) (Or.inr (Nat.le_refl _)) _)).mono ?_; rintro e7 w7 ⟨a7, c7, rfl, o7, t7⟩; have B7 := hid (t7.keep (bset B5.out _) (by simp)); have F7 := hid (HF.out _ _ _ _ _ B4.out T4.out T5.out O5.out t7 o7); clear o7 t7; obtain ⟨y3, yf⟩ := HZ3.out _ _ B7.out))
  go_ret
  exact F7.out
end
end Go.Proofs.YthakboiecdjgnaaDoor.Ci
