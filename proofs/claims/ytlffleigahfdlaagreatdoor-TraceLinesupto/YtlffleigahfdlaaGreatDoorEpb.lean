/- A replacer of single bytes that is built out of six texts; no conditions but those that each states. -/
import Derived.Test.YtlffleigahfdlaaGreatDoorEpa
import Derived.Test.YtlffleigahfdlaaGreatDoorRsl
import Derived.Deep.WholeRow
import Derived.Laws.Cover3
import Derived.Laws.IdiomStrings
namespace Go.Proofs.YtlffleigahfdlaaGreatDoor.Tr
open Go.RowKit Go.Shelf Go.Maps Go.ChangeMaps
set_option linter.unusedVariables false
set_option linter.unusedSimpArgs false
/-- The six texts: what is replaced, and by what. -/
def six : List Value := [.string ⟨#[10]⟩, .string ⟨#[37, 48, 97]⟩, .string ⟨#[13]⟩, .string ⟨#[37, 48, 100]⟩, .string ⟨#[37]⟩, .string ⟨#[37, 50, 53]⟩]
def Six (w : World) (g : Nat) : Prop := ∃ cs z, w.heap[g]? = some (.cells cs 9 z) ∧ ∀ (j : Nat) (u : Value), six[j]? = some u → cs[j]? = some u
theorem Six.cell {w : World} {g j : Nat} {u : Value} (h : Six w g) (hu : six[j]? = some u) : w.cell? ⟨g, j, none⟩ = some u := by
  obtain ⟨cs, z, h1, h2⟩ := h
  simp [World.cell?, h1, h2 j u hu]
theorem Six.keep {w w' : World} {g : Nat} {F : List Nat} (h : Six w g) (T : Touch F w w') (hF : ¬ g ∈ F) : Six w' g := by
  obtain ⟨cs, z, h1, h2⟩ := h
  exact ⟨cs, z, T.keep h1 hF, h2⟩
/-- The cells of such a replacer: what stands for each byte, and the list of what is replaced. -/
def bc (f : Nat → Value) (v : Value) : Array Value := ((List.range 257).map (fun j => if j = 256 then v else f j)).toArray
theorem bc_size (f : Nat → Value) (v : Value) : (bc f v).size = 257 := by simp [bc]
theorem bc_get (f : Nat → Value) (v : Value) {j : Nat} (h : j < 256) : (bc f v)[j]? = some (f j) := by
  unfold bc
  rw [List.getElem?_toArray, List.getElem?_map, List.getElem?_range (by omega)]
  simp only [Option.map_some]
  rw [if_neg (by omega)]
theorem bc_last (f : Nat → Value) (v : Value) : (bc f v)[256]? = some v := by
  unfold bc
  rw [List.getElem?_toArray, List.getElem?_map, List.getElem?_range (by omega)]
  rfl
theorem bc_set (f : Nat → Value) (v u : Value) {i : Nat} (h : i < 256) : (bc f v).setIfInBounds i u = bc (fun j => if j = i then u else f j) v := by
  refine Array.ext_getElem? fun k => ?_
  rw [Array.getElem?_setIfInBounds]
  by_cases e : k < 257
  · by_cases e2 : i = k
    · subst e2
      rw [if_pos rfl, if_pos (by rw [bc_size]; omega), bc_get _ _ h, if_pos rfl]
    · rw [if_neg e2]
      by_cases e3 : k = 256
      · subst e3
        rw [bc_last, bc_last]
      · rw [bc_get _ _ (by omega), bc_get _ _ (by omega), if_neg (fun x => e2 x.symm)]
  · rw [if_neg (by omega), Array.getElem?_eq_none (by rw [bc_size]; omega), Array.getElem?_eq_none (by rw [bc_size]; omega)]
theorem bc_setv (f : Nat → Value) (v u : Value) : (bc f v).setIfInBounds 256 u = bc f u := by
  refine Array.ext_getElem? fun k => ?_
  rw [Array.getElem?_setIfInBounds]
  by_cases e : k < 257
  · by_cases e3 : 256 = k
    · subst e3
      rw [if_pos rfl, if_pos (by rw [bc_size]; omega), bc_last]
    · rw [if_neg e3, bc_get _ _ (by omega), bc_get _ _ (by omega)]
  · rw [if_neg (by omega), Array.getElem?_eq_none (by rw [bc_size]; omega), Array.getElem?_eq_none (by rw [bc_size]; omega)]
theorem infoB : (Tryz.prog.info? 242).map (fun i => (i.zero, i.size)) = some (some (.agg (bc (fun _ => .slice none 0 0) (.slice none 0 0))), 257) := by kernel_rfl
theorem zeroB (w : World) : (zeroValue 242).run Tryz.prog w = .ok (.agg (bc (fun _ => .slice none 0 0) (.slice none 0 0))) w := (zero_of_info infoB).1 w
theorem builtB (a : Option Addr) (n c : Nat) (w : World) : (Instr.build 242 #[(1, .slice a n c)]).run Tryz.prog w = .ok (.agg (bc (fun _ => .slice none 0 0) (.slice a n c))) w := run_build w 242 _ _ (by kernel_rfl)
theorem touch_setRow (w : World) (g : Nat) (c : Array Value) : Touch [g] w (w.setRow g c) := by
  refine ⟨rfl, rfl, rfl, by simp [World.setRow], fun k hk hn => ?_⟩
  simp only [World.setRow, Array.getElem?_modify]
  rw [if_neg (fun e => hn (by simp [e]))]
theorem all_of {c : Array Value} (h : ∀ j, j < c.size → ∃ v, c[j]? = some v ∧ v.oneCell' = true) : c.all (·.oneCell') = true := by
  rw [Array.all_eq_true]
  intro j hj
  obtain ⟨v, hv, h1⟩ := h j hj
  rw [Array.getElem?_eq_getElem hj] at hv
  cases hv
  exact h1
/-- A struct's type and its cells. -/
structure Big (t : TypeId) (n : Nat) : Prop where
  u : ∃ fs, Tryz.prog.underlying t = some (.struct fs)
  i : (Tryz.prog.info? t).map (·.size) = some n
section
variable {w : World} {t : TypeId} {n : Nat}
theorem at_loadT (B : Big t n) (w : World) {g : Nat} {c : Array Value} {ty : TypeId} {fr : Nat × Nat} (hb : w.heap[g]? = some (.cells c ty fr)) (hc : c.size = n) : (Instr.loadAt t (.pointer (some ⟨g, 0, none⟩))).run Tryz.prog w = .ok (.agg c) w := by
  obtain ⟨fs, hu⟩ := B.u
  simp only [Instr.loadAt, Instr.sureAddr, Sem.run_bind, Sem.run_pure, Result.andThen]
  exact run_loadVar_row w g ty t c fr _ hb hu rfl (by rw [B.i, hc])
theorem at_storeT (B : Big t n) (w : World) {g : Nat} {c c' : Array Value} {ty : TypeId} (hb : w.heap[g]? = some (.cells c ty (0, 0))) (hc : c.size = n) (hn : c'.size = n) (h1 : c'.all (·.oneCell') = true) : (Instr.storeAt t (.pointer (some ⟨g, 0, none⟩)) (.agg c')).run Tryz.prog w = .ok () (w.setRow g c') := by
  simp only [Instr.storeAt, Instr.sureAddr, Sem.run_bind, Sem.run_pure, Result.andThen]
  exact run_storeVar_row w g ty t c c' hb (by rw [B.i, hn]) (by rw [hc, hn]) h1
variable {ops : Array Oper} {rest : List Oper} {o : Oper} {a : Act} {K : Act → World → Prop} {Q : Exit → Act → World → Prop}
theorem exec_loadT (B : Big t n) (p : Operand) (hop : o.op = Op.load t p) {g : Nat} {c : Array Value} {ty : TypeId} {fr : Nat × Nat} (hp : a.eval p = .pointer (some ⟨g, 0, none⟩)) (hb : w.heap[g]? = some (.cells c ty fr)) (hc : c.size = n) : (execOp a.eval o).run Tryz.prog w = .ok (.value (.agg c)) w := by
  have hrun := at_loadT B w hb hc
  simp only [execOp, hop, hp, hrun, Sem.run_bind, Sem.run_pure, Result.andThen_ok]
theorem wpList_loadT (B : Big t n) (hg : o.guard = none) (p : Operand) (hop : o.op = Op.load t p) (g : Nat) (c : Array Value) (ty : TypeId) (fr : Nat × Nat) (hp : a.eval p = .pointer (some ⟨g, 0, none⟩)) (hb : w.heap[g]? = some (.cells c ty fr)) (hc : c.size = n)
    (hK : wpList Tryz.prog ops Q rest (a.put o.dst (.agg c)) w) : wpList Tryz.prog ops Q (o :: rest) a w := by
  refine wpList_plain hg fun K' hK' => ?_
  have hrun := at_loadT B w hb hc
  unfold Oper.wp
  simp only [execOp, hop, hp, hrun, Sem.run_bind, Sem.run_pure, Result.andThen_ok]
  exact hK' _ _ hK
theorem wp_storeT (B : Big t n) (p v : Operand) (hop : o.op = Op.store t p v) (g : Nat) (c c' : Array Value) (ty : TypeId) (hp : a.eval p = .pointer (some ⟨g, 0, none⟩)) (hv : a.eval v = .agg c') (hb : w.heap[g]? = some (.cells c ty (0, 0))) (hc : c.size = n) (hn : c'.size = n) (h1 : c'.all (·.oneCell') = true)
    (hK : ∀ w', w'.heap[g]? = some (.cells c' ty (0, 0)) → Touch [g] w w' → w'.heap.size = w.heap.size → K (a.put o.dst undef) w') : o.wp Tryz.prog a w K Q := by
  have hrun := at_storeT B w hb hc hn h1
  unfold Oper.wp
  simp only [execOp, hop, hp, hv, hrun, Sem.run_bind, Sem.run_pure, Result.andThen_ok]
  exact hK _ (setRow_heap w g c c' ty (0, 0) hb) (touch_setRow w g c') (by simp [World.setRow])
theorem wpList_storeT (B : Big t n) (hg : o.guard = none) (p v : Operand) (hop : o.op = Op.store t p v) (g : Nat) (c c' : Array Value) (ty : TypeId) (hp : a.eval p = .pointer (some ⟨g, 0, none⟩)) (hv : a.eval v = .agg c') (hb : w.heap[g]? = some (.cells c ty (0, 0))) (hc : c.size = n) (hn : c'.size = n) (h1 : c'.all (·.oneCell') = true)
    (hK : ∀ w', w'.heap[g]? = some (.cells c' ty (0, 0)) → Touch [g] w w' → w'.heap.size = w.heap.size → wpList Tryz.prog ops Q rest (a.put o.dst undef) w') : wpList Tryz.prog ops Q (o :: rest) a w := by
  refine wpList_plain hg fun K' hK' => ?_
  exact wp_storeT B p v hop g c c' ty hp hv hb hc hn h1 (fun w' q1 q2 q3 => hK' _ _ (hK w' q1 q2 q3))
end
theorem wpList_bld {w : World} {ops : Array Oper} {rest : List Oper} {o : Oper} {a : Act} {Q : Exit → Act → World → Prop} (hg : o.guard = none) (x : Operand) (hop : o.op = Op.build 242 #[(1, x)]) (p : Option Addr) (n c : Nat) (hx : a.eval x = .slice p n c)
    (hK : wpList Tryz.prog ops Q rest (a.put o.dst (.agg (bc (fun _ => .slice none 0 0) (.slice p n c)))) w) : wpList Tryz.prog ops Q (o :: rest) a w := by
  refine wpList_plain hg fun K' hK' => ?_
  have hrun := builtB p n c w
  unfold Oper.wp
  simp only [execOp, hop, List.map_toArray, List.map_cons, List.map_nil, hx, hrun, Sem.run_bind, Sem.run_pure, Result.andThen_ok]
  exact hK' _ _ hK
theorem bigB : Big 242 257 := ⟨⟨_, Tryz.underlying242⟩, by kernel_rfl⟩
theorem bc_one {f : Nat → Value} {v : Value} (hf : ∀ j, (f j).oneCell' = true) (hv : v.oneCell' = true) : (bc f v).all (·.oneCell') = true := all_of (fun j hj => by
  rw [bc_size] at hj
  by_cases e : j = 256
  · subst e; exact ⟨v, bc_last f v, hv⟩
  · exact ⟨_, bc_get f v (by omega), hf j⟩)
end Go.Proofs.YtlffleigahfdlaaGreatDoor.Tr
