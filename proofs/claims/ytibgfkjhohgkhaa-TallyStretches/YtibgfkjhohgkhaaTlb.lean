/- Rows of ints as values, read and written whole or by the cell, compared, and arrays as arguments, opened; no conditions but those that each states. -/
import Derived.Test.YtibgfkjhohgkhaaTla
import Derived.Deep.WholeRow
import Derived.DeepKeys
import Derived.ChangeKeysEq
namespace Go.Proofs.Ytibgfkjhohgkhaa.Ty
open Go.ChangeShapes Go.WideShapes Go.ChangeAt Go.RowKit Go.Maps Go.ChangeMaps
set_option linter.unusedVariables false
set_option linter.unusedSimpArgs false
theorem int_at (w : World) (D d : Nat) (hD : D = d + 1) (z : Int) : (Op.equalIn D 3 (.int .i64 z) (.int .i64 z)).run Try.prog w = .ok true w := by
  subst hD
  rw [run_equalIn_int w d 3 .i64 .i64 z z Try.underlying3, beq_self_eq_true]
theorem struct_at {w : World} (D d : Nat) (hD : D = d + 1) (t : TypeId) (xs ys : Array Value) (ht : Try.prog.underlying t = some (.struct (Try.prog.fieldsOf t))) (hp : Try.prog.stoodInHeld t = false) :
    (Op.equalIn D t (.agg xs) (.agg ys)).run Try.prog w = (Op.eqFields d xs ys (Try.prog.fieldsOf t).toList).run Try.prog w := by
  subst hD
  exact run_equalIn_struct w d t xs ys ht hp
def ic (n : Nat) (f : Nat → Int) : Array Value := ((List.range n).map (fun j => Value.int .i64 (f j))).toArray
section
variable {n : Nat} {f g : Nat → Int} {i : Nat} {v : Int}
theorem ic_size (n : Nat) (f : Nat → Int) : (ic n f).size = n := by simp [ic]
theorem ic_get (h : i < n) : (ic n f)[i]? = some (.int .i64 (f i)) := by
  unfold ic
  rw [List.getElem?_toArray, List.getElem?_map, List.getElem?_range h]; rfl
theorem ic_congr (h : ∀ j, j < n → f j = g j) : ic n f = ic n g := by
  unfold ic
  congr 1
  refine List.map_congr_left fun j hj => ?_
  rw [h j (List.mem_range.1 hj)]
def fset (f : Nat → Int) (i : Nat) (v : Int) : Nat → Int := fun j => if j = i then v else f j
theorem fset_same : fset f i v i = v := by simp [fset]
theorem fset_ne {j : Nat} (h : j ≠ i) : fset f i v j = f j := by simp [fset, h]
theorem ic_set (h : i < n) : (ic n f).setIfInBounds i (.int .i64 v) = ic n (fset f i v) := by
  refine Array.ext_getElem? fun k => ?_
  rw [Array.getElem?_setIfInBounds]
  by_cases e : k < n
  · rw [ic_get e]
    by_cases e2 : i = k
    · subst e2
      rw [if_pos rfl, if_pos (by rw [ic_size]; exact h), ic_get h, fset_same]
    · rw [if_neg e2, ic_get e, fset_ne (fun x => e2 x.symm)]
  · rw [if_neg (by omega), Array.getElem?_eq_none (by rw [ic_size]; omega), Array.getElem?_eq_none (by rw [ic_size]; omega)]
theorem ic_one : (ic n f).all (·.oneCell') = true := by
  rw [Array.all_eq_true]
  intro j hj
  rw [ic_size] at hj
  have := ic_get (f := f) hj
  rw [Array.getElem?_eq_getElem (by rw [ic_size]; exact hj)] at this
  rw [Option.some.inj this]; rfl
theorem ic_extract {a b : Nat} (h : b ≤ n) : (ic n f).extract a b = ic (b - a) (fun j => f (a + j)) := by
  refine Array.ext_getElem? fun k => ?_
  rw [Array.getElem?_extract, ic_size]
  by_cases e : k < b - a
  · rw [if_pos (by omega), ic_get (by omega), ic_get e]
  · rw [if_neg (by omega), Array.getElem?_eq_none (by rw [ic_size]; omega)]
end
theorem touch_setRow (w : World) (g : Nat) (c : Array Value) : Touch [g] w (w.setRow g c) := by
  refine ⟨rfl, rfl, rfl, by simp [World.setRow], fun k hk hn => ?_⟩
  simp only [World.setRow, Array.getElem?_modify]
  rw [if_neg (fun e => hn (by simp [e]))]
/-- A type of many cells. -/
structure Big (t : TypeId) (n : Nat) : Prop where
  u : ∃ d, Try.prog.underlying t = some d ∧ (match d with | .struct _ | .array _ _ => true | _ => false) = true
  i : (Try.prog.info? t).map (·.size) = some n
section
variable {w : World} {t : TypeId} {n : Nat}
theorem at_loadT (B : Big t n) (w : World) {g : Nat} {c : Array Value} {ty : TypeId} {fr : Nat × Nat} (hb : w.heap[g]? = some (.cells c ty fr)) (hc : c.size = n) : (Instr.loadAt t (.pointer (some ⟨g, 0, none⟩))).run Try.prog w = .ok (.agg c) w := by
  obtain ⟨fs, hu, hd⟩ := B.u
  simp only [Instr.loadAt, Instr.sureAddr, Sem.run_bind, Sem.run_pure, Result.andThen]
  exact run_loadVar_row w g ty t c fr _ hb hu (by cases fs <;> simp_all) (by rw [B.i, hc])
theorem at_storeT (B : Big t n) (w : World) {g : Nat} {c c' : Array Value} {ty : TypeId} (hb : w.heap[g]? = some (.cells c ty (0, 0))) (hc : c.size = n) (hn : c'.size = n) (h1 : c'.all (·.oneCell') = true) : (Instr.storeAt t (.pointer (some ⟨g, 0, none⟩)) (.agg c')).run Try.prog w = .ok () (w.setRow g c') := by
  simp only [Instr.storeAt, Instr.sureAddr, Sem.run_bind, Sem.run_pure, Result.andThen]
  exact run_storeVar_row w g ty t c c' hb (by rw [B.i, hn]) (by rw [hc, hn]) h1
variable {ops : Array Oper} {rest : List Oper} {o : Oper} {a : Act} {K : Act → World → Prop} {Q : Exit → Act → World → Prop}
theorem exec_loadT (B : Big t n) (p : Operand) (hop : o.op = Op.load t p) {g : Nat} {c : Array Value} {ty : TypeId} {fr : Nat × Nat} (hp : a.eval p = .pointer (some ⟨g, 0, none⟩)) (hb : w.heap[g]? = some (.cells c ty fr)) (hc : c.size = n) : (execOp a.eval o).run Try.prog w = .ok (.value (.agg c)) w := by
  have hrun := at_loadT B w hb hc
  simp only [execOp, hop, hp, hrun, Sem.run_bind, Sem.run_pure, Result.andThen_ok]
theorem wpList_loadT (B : Big t n) (hg : o.guard = none) (p : Operand) (hop : o.op = Op.load t p) (g : Nat) (c : Array Value) (ty : TypeId) (fr : Nat × Nat) (hp : a.eval p = .pointer (some ⟨g, 0, none⟩)) (hb : w.heap[g]? = some (.cells c ty fr)) (hc : c.size = n)
    (hK : wpList Try.prog ops Q rest (a.put o.dst (.agg c)) w) : wpList Try.prog ops Q (o :: rest) a w := by
  refine wpList_plain hg fun K' hK' => ?_
  have hrun := at_loadT B w hb hc
  unfold Oper.wp
  simp only [execOp, hop, hp, hrun, Sem.run_bind, Sem.run_pure, Result.andThen_ok]
  exact hK' _ _ hK
theorem wp_storeT (B : Big t n) (p v : Operand) (hop : o.op = Op.store t p v) (g : Nat) (c c' : Array Value) (ty : TypeId) (hp : a.eval p = .pointer (some ⟨g, 0, none⟩)) (hv : a.eval v = .agg c') (hb : w.heap[g]? = some (.cells c ty (0, 0))) (hc : c.size = n) (hn : c'.size = n) (h1 : c'.all (·.oneCell') = true)
    (hK : ∀ w', w'.heap[g]? = some (.cells c' ty (0, 0)) → Touch [g] w w' → w'.heap.size = w.heap.size → K (a.put o.dst undef) w') : o.wp Try.prog a w K Q := by
  have hrun := at_storeT B w hb hc hn h1
  unfold Oper.wp
  simp only [execOp, hop, hp, hv, hrun, Sem.run_bind, Sem.run_pure, Result.andThen_ok]
  exact hK _ (setRow_heap w g c c' ty (0, 0) hb) (touch_setRow w g c') (by simp [World.setRow])
theorem wpList_storeT (B : Big t n) (hg : o.guard = none) (p v : Operand) (hop : o.op = Op.store t p v) (g : Nat) (c c' : Array Value) (ty : TypeId) (hp : a.eval p = .pointer (some ⟨g, 0, none⟩)) (hv : a.eval v = .agg c') (hb : w.heap[g]? = some (.cells c ty (0, 0))) (hc : c.size = n) (hn : c'.size = n) (h1 : c'.all (·.oneCell') = true)
    (hK : ∀ w', w'.heap[g]? = some (.cells c' ty (0, 0)) → Touch [g] w w' → w'.heap.size = w.heap.size → wpList Try.prog ops Q rest (a.put o.dst undef) w') : wpList Try.prog ops Q (o :: rest) a w := by
  refine wpList_plain hg fun K' hK' => ?_
  exact wp_storeT B p v hop g c c' ty hp hv hb hc hn h1 (fun w' q1 q2 q3 => hK' _ _ (hK w' q1 q2 q3))
end
theorem big64 : Big 37 64 := ⟨⟨_, Try.underlying37, rfl⟩, by kernel_rfl⟩
theorem big28 : Big 28 27 := ⟨⟨_, Try.underlying28, rfl⟩, by kernel_rfl⟩
theorem big30 : Big 30 27 := ⟨⟨_, Try.underlying30, rfl⟩, by kernel_rfl⟩
/-- What a call hands back that has its one result in a cell of its own. -/
theorem res_cell {fn : Func} {p : Tmp} {ty : TypeId} {n : Nat} (hr : fn.results = #[.cell p ty]) (B : Big ty n) {w : World} {g : Nat} {c : Array Value} {t : TypeId} {fr : Nat × Nat} (tmps : Array Value) (hp : tmps.getD p undef = .pointer (some ⟨g, 0, none⟩)) (hb : w.heap[g]? = some (.cells c t fr)) (hc : c.size = n) :
    (results fn tmps).run Try.prog w = .ok (.agg c) w := by
  obtain ⟨d, hu, hd⟩ := B.u
  have hl : (loadVar ty ⟨g, 0, none⟩).run Try.prog w = .ok (.agg c) w := run_loadVar_row w g t ty c fr _ hb hu (by cases d <;> simp_all) (by rw [B.i, hc])
  have hq : tmps[p]?.getD undef = .pointer (some ⟨g, 0, none⟩) := by rw [← hp]; simp [Array.getD_eq_getD_getElem?]
  simp only [results, hr]
  simp [hq, asAddr, hl]
/-! Equality -/
theorem part_int (w : World) {n i : Nat} {f : Nat → Int} (h : i < n) : (part 3 (ic n f) i).run Try.prog w = .ok (.int .i64 (f i)) w := by
  have ha : (isAgg 3).run Try.prog w = .ok false w := by kernel_rfl
  simp only [part, Sem.run_bind, ha, Result.andThen_ok, Bool.false_eq_true, if_false, ic_get h, Sem.run_pure]
theorem eq_items (w : World) (d n : Nat) (f : Nat → Int) : ∀ is : List Nat, (∀ i ∈ is, i < n) → (Op.eqItems (d + 1) 3 1 (ic n f) (ic n f) is).run Try.prog w = .ok true w
  | [], _ => by simp [Op.eqItems]
  | i :: is, h => by
    have h1 := part_int w (f := f) (h i (by simp))
    have h2 := eq_items w d n f is (fun j hj => h j (by simp [hj]))
    simp only [Op.eqItems, Nat.mul_one, Sem.run_bind, h1, Result.andThen_ok, run_equalIn_int w d 3 .i64 .i64 _ _ Try.underlying3, beq_self_eq_true, Bool.not_true, Bool.false_eq_true, if_false, h2]
theorem eq_arr (w : World) (D d n : Nat) (hD : D = d + 2) {t : TypeId} (hu : Try.prog.underlying t = some (.array n 3)) (f : Nat → Int) : (Op.equalIn D t (.agg (ic n f)) (.agg (ic n f))).run Try.prog w = .ok true w := by
  subst hD
  obtain ⟨i3, hi, _⟩ := info_parts info3
  have hc : Try.prog.cellsOf 3 = 1 := cl_3
  rw [run_equalIn_array w (d + 1) _ _ hu hi, hc]
  exact eq_items w d n f _ (fun i hi => List.mem_range.1 hi)
theorem eq64 (w : World) (f : Nat → Int) : (binOp .eql 37 (.agg (ic 64 f)) (.agg (ic 64 f))).run Try.prog w = .ok (.bool true) w := by
  rw [run_eql_struct, eq_arr w 10000 9998 64 (by decide) Try.underlying37]; rfl
theorem part_arr (w : World) {t : TypeId} {a m : Nat} (ha : (isAgg t).run Try.prog w = .ok true w) (hs : (sizeOf t).run Try.prog w = .ok m w) {n : Nat} {f : Nat → Int} (h : a + m ≤ n) : (part t (ic n f) a).run Try.prog w = .ok (.agg (ic m (fun j => f (a + j)))) w := by
  simp only [part, Sem.run_bind, ha, hs, Result.andThen_ok, if_true, Sem.run_pure, ic_extract h, Nat.add_sub_cancel_left]
theorem fields30 (w : World) (D : Nat) (hD : D = 9997 + 2) (f : Nat → Int) : (Op.eqFields D (ic 27 f) (ic 27 f) (Try.prog.fieldsOf 30).toList).run Try.prog w = .ok true w := by
  have p0 : (part 24 (ic 27 f) 0).run Try.prog w = .ok (.agg (ic 12 (fun j => f (0 + j)))) w := part_arr w (by kernel_rfl) (by kernel_rfl) (by omega)
  have p1 : (part 25 (ic 27 f) 12).run Try.prog w = .ok (.agg (ic 7 (fun j => f (12 + j)))) w := part_arr w (by kernel_rfl) (by kernel_rfl) (by omega)
  have p2 : (part 26 (ic 27 f) 19).run Try.prog w = .ok (.agg (ic 6 (fun j => f (19 + j)))) w := part_arr w (by kernel_rfl) (by kernel_rfl) (by omega)
  have p3 := part_int w (n := 27) (i := 25) (f := f) (by omega)
  have p4 := part_int w (n := 27) (i := 26) (f := f) (by omega)
  have e0 := eq_arr w D 9997 12 hD Try.underlying24 (fun j => f (0 + j))
  have e1 := eq_arr w D 9997 7 hD Try.underlying25 (fun j => f (12 + j))
  have e2 := eq_arr w D 9997 6 hD Try.underlying26 (fun j => f (19 + j))
  have e3 := int_at w D 9998 hD
  clear hD
  generalize ic 27 f = c at *
  generalize ic 12 (fun j => f (0 + j)) = c0 at *
  generalize ic 7 (fun j => f (12 + j)) = c1 at *
  generalize ic 6 (fun j => f (19 + j)) = c2 at *
  simp only [Program.fieldsOf, Try.underlying30]
  simp [Op.eqFields, Sem.run_bind, p0, p1, p2, p3, p4, e0, e1, e2, e3]
theorem ne30 (w : World) (f : Nat → Int) : (binOp .neq 30 (.agg (ic 27 f)) (.agg (ic 27 f))).run Try.prog w = .ok (.bool false) w := by
  rw [run_neq_struct, struct_at 10000 9999 (by decide) _ _ _ (by simp only [Program.fieldsOf, Try.underlying30]) (by kernel_rfl), fields30 w 9999 (by decide) f]; rfl
/-! An array as an argument -/
set_option maxRecDepth 100000 in
theorem open_arr {H : Type} {enc : TypeId × Value → H} {W : World} {b0 n : Nat} {t : TypeId} {v : Value} {d : DataW H} {p : List MemPlace} (hu : Try.prog.underlying t = some (.array n 3)) (hn : Try.prog.cellsOf t = n) (hv : Value.okWide Try.prog W .any b0 t v) (hag : ∃ cs, v = .agg cs) (h : DataW.Trod enc Try.prog W 0 (fun _ => true) true t v d p) :
    ∃ f : Nat → Int, v = .agg (ic n f) ∧ ∀ j, j < n → W64 (f j) := by
  obtain ⟨⟨cl⟩, rfl⟩ := hag
  obtain ⟨fuel, hf⟩ := h
  have hf' : DataW.trod enc Try.prog W 0 (fun _ => true) true fuel t cl = some (d, p) := by simpa [Value.cells] using hf
  obtain ⟨ys, k, hk, hxy, hl, hyl, hfe⟩ := DataW.trod_array hu hf'
  rw [hn] at hl
  have each : ∀ i, i < n → ∃ q : Int, cl[i]? = some (.int .i64 q) ∧ W64 q := fun i hi => by
    have g := hfe i hi
    rw [cl_3, List.getElem?_eq_getElem (by omega)] at g
    obtain ⟨q, e, _, w1⟩ := DataW.trod_int Try.underlying3 g
    refine ⟨q, ?_, w1⟩
    have e2 : ((cl.drop (i * 1)).take 1)[0]? = some (.int .i64 q) := by rw [e]; rfl
    rw [List.getElem?_take, if_pos (by omega), List.getElem?_drop] at e2
    simpa using e2
  haveI : Inhabited Int := ⟨0⟩
  obtain ⟨q, hq⟩ := Deep.choose_lt each
  refine ⟨q, ?_, fun j hj => (hq j hj).2⟩
  congr 1
  refine Array.ext_getElem? fun k => ?_
  by_cases e : k < n
  · rw [ic_get e, List.getElem?_toArray]; exact (hq k e).1
  · rw [Array.getElem?_eq_none (xs := ic n q) (by rw [ic_size]; omega), Array.getElem?_eq_none (by rw [List.size_toArray]; omega)]
set_option maxRecDepth 10000 in
theorem okWide_agg {W : World} {b0 n : Nat} {t : TypeId} {v : Value} (hu : Try.prog.underlying t = some (.array n 3)) (hv : Value.okWide Try.prog W .any b0 t v) : ∃ cs, v = .agg cs := by
  simp only [Value.okWide, hu] at hv
  obtain ⟨cs, h1, h2, _⟩ := hv
  exact ⟨cs, h1⟩
end Go.Proofs.Ytibgfkjhohgkhaa.Ty
