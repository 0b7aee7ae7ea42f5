/- What a call may touch, and maps keyed by whole numbers as plain functions; no conditions. -/
import Derived.Test.YtcbckehdlbbbbaaDoorProg
import Derived.WalkKit
import Derived.ProofKit
import Derived.BigQuiet
import Derived.BigRegion
import Derived.Maps.Own
import Derived.Maps.OwnOps
import Derived.Maps.OwnSet
import Derived.Maps.Views
import Derived.Carry
import Derived.WalkSpells
import Derived.Lib.SmallJoins
import Derived.Deep.AppendLies
import Derived.Deep.QuietTactic
import Derived.Deep.RegionHeld3
import Derived.Deep.RegionWith
import Derived.Lib.QuietBelow
import Derived.OwnWalk
import Derived.Laws.AppendOwnNone
import Derived.Deep.CutRange
import Derived.Deep.CutBlock
import Derived.Deep.RegionLaw
import Derived.Laws.ResultCell
import Derived.Maps.AppendAt
namespace Go.Proofs.YtcbckehdlbbbbaaDoor
open Go.RowKit Go.Maps Go.ChangeMaps
set_option linter.unusedVariables false

theorem hid {p : Prop} (h : p) : Hid p := h
structure Touch (F : List Nat) (w w' : World) : Prop where
  os : w'.os = w.os
  tape : w'.tape = w.tape
  output : w'.output = w.output
  size : w.heap.size ≤ w'.heap.size
  block : ∀ k, k < w.heap.size → ¬ k ∈ F → w'.heap[k]? = w.heap[k]?
theorem Touch.refl (F : List Nat) (w : World) : Touch F w w := ⟨rfl, rfl, rfl, Nat.le_refl _, fun _ _ _ => rfl⟩
theorem Touch.mono {F G : List Nat} {w w' : World} (h : Touch F w w') (hs : ∀ k, k ∈ F → k ∈ G) : Touch G w w' := ⟨h.os, h.tape, h.output, h.size, fun k hk hn => h.block k hk (fun e => hn (hs k e))⟩
/-- The later step may touch what the first one may, and what the first one laid. -/
theorem Touch.trans {F G : List Nat} {a b c : World} (h : Touch F a b) (k : Touch G b c) (hs : ∀ i, i ∈ G → i ∈ F ∨ a.heap.size ≤ i) : Touch F a c :=
  ⟨k.os.trans h.os, k.tape.trans h.tape, k.output.trans h.output, Nat.le_trans h.size k.size, fun i hi hn =>
    (k.block i (Nat.lt_of_lt_of_le hi h.size) (fun e => (hs i e).elim hn (fun e' => by omega))).trans (h.block i hi hn)⟩
theorem Touch.trans' {F : List Nat} {a b c : World} (h : Touch F a b) (k : Touch F b c) : Touch F a c := h.trans k (fun _ e => Or.inl e)
theorem Touch.alloc {F : List Nat} {a b : World} (h : Touch F a b) (o : Obj) : Touch F a (b.alloc o) :=
  h.trans' ⟨rfl, rfl, rfl, by simp, fun k hk _ => Below.heap_alloc _ _ _ hk⟩
theorem Touch.setCell {F : List Nat} {a b : World} (h : Touch F a b) {p : Addr} (hp : p.block ∈ F ∨ a.heap.size ≤ p.block) (v : Value) : Touch F a (b.setCell p v) :=
  h.trans (G := [p.block]) ⟨rfl, rfl, rfl, by simp [World.setCell], fun k hk hn => Below.heap_setCell _ _ _ _ (by simpa using hn)⟩ (fun i hi => by simp only [List.mem_singleton] at hi; subst hi; exact hp)
theorem Touch.grown {F : List Nat} {a b c : World} {row : Option Nat} (h : Touch F a b) (hg : b.grownBy c row) (hr : ∀ k, row = some k → k ∈ F ∨ a.heap.size ≤ k) : Touch F a c :=
  ⟨hg.os.trans h.os, hg.tape.trans h.tape, hg.output.trans h.output, Nat.le_trans h.size hg.size, fun i hi hn => (hg.block i (Nat.lt_of_lt_of_le hi h.size) (fun e => (hr i e.symm).elim hn (fun e' => by omega))).trans (h.block i hi hn)⟩
theorem Touch.drewN {F : List Nat} {a b : World} (h : Touch F a b) (n : Nat) : Touch F a (b.drewN n) := ⟨h.os, h.tape, h.output, h.size, h.block⟩
theorem Touch.drew {F : List Nat} {a b : World} (h : Touch F a b) : Touch F a b.drew := ⟨h.os, h.tape, h.output, h.size, h.block⟩
theorem Touch.below {a b : World} {B : Nat} {F : List Nat} (h : Touch F a b) (hF : ∀ k, k ∈ F → B ≤ k) (hB : B ≤ a.heap.size) : Below B a b :=
  ⟨h.os, h.tape, h.output, h.size, fun k hk => h.block k (by omega) (fun e => by have := hF k e; omega)⟩
theorem Touch.of_below {a b : World} (h : Below a.heap.size a b) : Touch [] a b := ⟨h.os, h.tape, h.output, h.size, fun k hk _ => h.block k hk⟩
theorem block_lt {w : World} {b : Nat} {o : Obj} (h : w.heap[b]? = some o) : b < w.heap.size := (Array.getElem?_eq_some_iff.1 h).1
theorem Touch.keep {F : List Nat} {a b : World} (h : Touch F a b) {k : Nat} {o : Obj} (hk : a.heap[k]? = some o) (hn : ¬ k ∈ F) : b.heap[k]? = some o := (h.block k (block_lt hk) hn).trans hk

def W64 (k : Int) : Prop := (Lit.int .i64 k).wf = true
theorem W64.lo {k : Int} (h : W64 k) : -9223372036854775808 ≤ k := by
  simp [W64, Lit.wf, IntKind.min, IntKind.max, IntKind.bits, IntKind.signed] at h; omega
theorem W64.hi {k : Int} (h : W64 k) : k ≤ 9223372036854775807 := by
  simp [W64, Lit.wf, IntKind.min, IntKind.max, IntKind.bits, IntKind.signed] at h; omega
theorem W64.mk {k : Int} (h : -9223372036854775808 ≤ k) (h' : k ≤ 9223372036854775807) : W64 k := by
  simp [W64, Lit.wf, IntKind.min, IntKind.max, IntKind.bits, IntKind.signed]; omega
theorem keyed3 : Keyed Tryd.prog 3 := int_keyed Tryd.underlying3
theorem key3 {k : Int} (h : W64 k) : keyOf Tryd.prog 3 (.int .i64 k) = some (.int .i64 k) := keyOf_int_mk Tryd.underlying3 h
def HR (v : Value) : Option (DataW Value × List MemPlace) := some (.held v, [])
def MapAt (w : World) (b n : Nat) (f : Int → Option Value) : Prop :=
  ∃ D : DataW Value, w.ownsMap Tryd.prog 3 HR b n D ∧ Maps.size D = n ∧ ∀ k, W64 k → Maps.has D (.int .i64 k) = (f k).isSome ∧ ∀ z, D.atKey (.int .i64 k) (.held z) = .held ((f k).getD z)
theorem MapAt.kept {w w' : World} {b n : Nat} {f : Int → Option Value} (h : MapAt w b n f) (hk : w'.heap[b]? = w.heap[b]?) : MapAt w' b n f := by
  obtain ⟨D, ⟨es, cl, hb, r⟩, h2, h3⟩ := h
  exact ⟨D, ⟨es, cl, hk.trans hb, r⟩, h2, h3⟩
theorem MapAt.lt {w : World} {b n : Nat} {f : Int → Option Value} (h : MapAt w b n f) : b < w.heap.size := by
  obtain ⟨D, h1, _⟩ := h
  exact h1.lt
theorem MapAt.congr {w : World} {b n : Nat} {f g : Int → Option Value} (h : MapAt w b n f) (hf : ∀ k, W64 k → f k = g k) : MapAt w b n g := by
  obtain ⟨D, h1, h2, h3⟩ := h
  exact ⟨D, h1, h2, fun k hk => by rw [← hf k hk]; exact h3 k hk⟩
theorem mapAt_made (w : World) : MapAt (w.alloc (.map #[] 0)) w.heap.size 0 (fun _ => none) :=
  ⟨.map [], World.ownsMap_made _ _ _ _, rfl, fun k hk => ⟨by simp [Maps.has_eq], fun z => by simp [DataW.atKey]⟩⟩
theorem lit_ne {a b : Int} (h : a ≠ b) : (Lit.int .i64 a) ≠ (Lit.int .i64 b) := fun e => h (by injection e)
theorem IsKey64 {k : Int} (h : W64 k) : WideAt.IsKeyLit (.int .i64 k) := keyed3.key (key3 h)
theorem zero3 (w : World) : (zeroValue 3).run Tryd.prog w = .ok (.int .i64 0) w := by kernel_rfl
section
variable {w : World} {b n : Nat} {f : Int → Option Value} {t e : TypeId}
theorem MapAt.look (h : MapAt w b n f) (ht : Tryd.prog.underlying t = some (.map 3 e)) {z : Value} (hz : (zeroValue e).run Tryd.prog w = .ok z w) {k : Int} (hk : W64 k) :
    (Instr.lookup t (.map (some b)) (.int .i64 k) false).run Tryd.prog w = .ok ((f k).getD z) w := by
  obtain ⟨D, h1, h2, h3⟩ := h
  obtain ⟨v, ps, hr, hv⟩ := h1.lookup keyed3 ht hz (zd := .held z) (zp := []) rfl (key3 hk)
  rw [(h3 k hk).2 z] at hv
  simp only [HR, Option.some.injEq, Prod.mk.injEq, DataW.held.injEq] at hv
  rw [hr, hv.1]
theorem MapAt.lookOk (h : MapAt w b n f) (ht : Tryd.prog.underlying t = some (.map 3 e)) {z : Value} (hz : (zeroValue e).run Tryd.prog w = .ok z w) {k : Int} (hk : W64 k) :
    (Instr.lookup t (.map (some b)) (.int .i64 k) true).run Tryd.prog w = .ok (.tuple #[(f k).getD z, .bool (f k).isSome]) w := by
  obtain ⟨D, h1, h2, h3⟩ := h
  obtain ⟨v, ps, hr, hv⟩ := h1.look_ok keyed3 ht hz (zd := .held z) (zp := []) rfl (key3 hk)
  rw [(h3 k hk).2 z] at hv
  simp only [HR, Option.some.injEq, Prod.mk.injEq, DataW.held.injEq] at hv
  rw [hr, hv.1, (h3 k hk).1]
theorem MapAt.len (h : MapAt w b n f) (ht : Tryd.prog.underlying t = some (.map 3 e)) (ty : TypeId) : (Builtin.len_ #[t] ty #[.map (some b)]).run Tryd.prog w = .ok (.int .i64 n) w := by
  obtain ⟨D, h1, h2, h3⟩ := h
  rw [h1.len ht ty, h2]
def upd (f : Int → Option Value) (k : Int) (v : Value) : Int → Option Value := fun j => if j = k then some v else f j
def del (f : Int → Option Value) (k : Int) : Int → Option Value := fun j => if j = k then none else f j
theorem MapAt.set (h : MapAt w b n f) (ht : Tryd.prog.underlying t = some (.map 3 e)) (hn : n < maxLen) {k : Int} (hk : W64 k) (v : Value) :
    ∃ o, (Instr.mapUpdate t (.map (some b)) (.int .i64 k) v).run Tryd.prog w = .ok () (setBlock w b o) ∧ MapAt (setBlock w b o) b (if (f k).isSome then n else n + 1) (upd f k v) := by
  obtain ⟨D, h1, h2, h3⟩ := h
  obtain ⟨w', hr, h4, es, cl, es', cl', hb, rfl⟩ := h1.store keyed3 ht hn (key3 hk) (show HR v = some (.held v, []) from rfl)
  have hT := h1.tidy keyed3
  have hs : Maps.size (D.put (.int .i64 k) (.held v)) = if (f k).isSome then n else n + 1 := by
    rw [size_put hT, (h3 k hk).1, h2]
  refine ⟨_, hr, D.put (.int .i64 k) (.held v), ?_, hs, fun j hj => ?_⟩
  · obtain ⟨es1, cl1, hb1, F1, hs1, hD1⟩ := h4
    refine ⟨es1, cl1, hb1, F1, ?_, hD1⟩
    have e1 : Maps.size (DataW.map ((es1.toList.map (WideElems.rg Tryd.prog 3 HR)).foldr DataW.insert [])) = es1.size := by simp [Maps.size, length_sorted]
    rw [← hD1, hs] at e1
    omega
  · by_cases hjk : j = k
    · subst hjk
      refine ⟨by rw [has_put_same hT.isMap (IsKey64 hj)]; simp [upd], fun z => ?_⟩
      rw [atKey_put_same hT.isMap (IsKey64 hj)]
      simp [upd]
    · refine ⟨by rw [has_put_other (lit_ne hjk), (h3 j hj).1]; simp [upd, hjk], fun z => ?_⟩
      rw [atKey_put_other (lit_ne hjk), (h3 j hj).2]
      simp [upd, hjk]
theorem MapAt.del (h : MapAt w b n f) (ht : Tryd.prog.underlying t = some (.map 3 e)) {k : Int} (hk : W64 k) (ty : TypeId) :
    ∃ o, (Builtin.delete_ #[t, 3] ty #[.map (some b), .int .i64 k]).run Tryd.prog w = .ok (.tuple #[]) (setBlock w b o) ∧ MapAt (setBlock w b o) b (if (f k).isSome then n - 1 else n) (YtcbckehdlbbbbaaDoor.del f k) := by
  obtain ⟨D, h1, h2, h3⟩ := h
  obtain ⟨w', hr, h4, es, cl, es', cl', hb, rfl⟩ := h1.drop keyed3 ht (key3 hk) ty
  have hT := h1.tidy keyed3
  have hs : Maps.size (D.del (.int .i64 k)) = if (f k).isSome then n - 1 else n := by
    have := size_del hT (k := .int .i64 k)
    rw [(h3 k hk).1, h2] at this
    split at this <;> simp_all <;> omega
  refine ⟨_, hr, D.del (.int .i64 k), ?_, hs, fun j hj => ?_⟩
  · obtain ⟨es1, cl1, hb1, F1, hs1, hD1⟩ := h4
    refine ⟨es1, cl1, hb1, F1, ?_, hD1⟩
    have e1 : Maps.size (DataW.map ((es1.toList.map (WideElems.rg Tryd.prog 3 HR)).foldr DataW.insert [])) = es1.size := by simp [Maps.size, length_sorted]
    rw [← hD1, hs] at e1
    omega
  · by_cases hjk : j = k
    · subst hjk
      refine ⟨by rw [has_del_same]; simp [YtcbckehdlbbbbaaDoor.del], fun z => ?_⟩
      rw [atKey_del_same]
      simp [YtcbckehdlbbbbaaDoor.del]
    · refine ⟨by rw [has_del_other (lit_ne hjk), (h3 j hj).1]; simp [YtcbckehdlbbbbaaDoor.del, hjk], fun z => ?_⟩
      rw [atKey_del_other (lit_ne hjk), (h3 j hj).2]
      simp [YtcbckehdlbbbbaaDoor.del, hjk]
end
section
variable (w : World) {ops : Array Oper} {rest : List Oper} {o : Oper} {a : Act} {Q : Exit → Act → World → Prop}
theorem wpList_mlen (hg : o.guard = none) (m : Operand) (t : TypeId) (hop : o.op = Op.call { callee := Callee.builtin Builtin.len, args := #[m], argTypes := #[t] })
    (e : TypeId) (ht : Tryd.prog.underlying t = some (.map 3 e)) (b n : Nat) (f : Int → Option Value) (hm : a.eval m = .map (some b)) (hown : MapAt w b n f)
    (hK : wpList Tryd.prog ops Q rest (a.put o.dst (.int .i64 n)) w) : wpList Tryd.prog ops Q (o :: rest) a w := by
  obtain ⟨D, h1, h2, h3⟩ := hown
  refine wpList_len_own w hg m t hop 3 e ht HR b n D hm h1 ?_
  rw [h2]
  exact hK
theorem wpList_mlook (hg : o.guard = none) (m x : Operand) (t : TypeId) (hop : o.op = Op.lookup t m x false)
    (e : TypeId) (ht : Tryd.prog.underlying t = some (.map 3 e)) {z : Value} (hz : (zeroValue e).run Tryd.prog w = .ok z w) (b n : Nat) (f : Int → Option Value) (hm : a.eval m = .map (some b)) (hown : MapAt w b n f)
    (k : Int) (hx : a.eval x = .int .i64 k) (hk : W64 k) (v : Value) (hv : (f k).getD z = v)
    (hK : wpList Tryd.prog ops Q rest (a.put o.dst v) w) : wpList Tryd.prog ops Q (o :: rest) a w := by
  refine wpList_plain hg fun K' hK' => ?_
  have hrun := hown.look ht hz hk
  rw [hv] at hrun
  unfold Oper.wp
  simp [execOp, hop, hm, hx, hrun, Result.andThen]
  exact hK' _ _ hK
theorem wpList_mlookok (hg : o.guard = none) (m x : Operand) (t : TypeId) (hop : o.op = Op.lookup t m x true)
    (e : TypeId) (ht : Tryd.prog.underlying t = some (.map 3 e)) {z : Value} (hz : (zeroValue e).run Tryd.prog w = .ok z w) (b n : Nat) (f : Int → Option Value) (hm : a.eval m = .map (some b)) (hown : MapAt w b n f)
    (k : Int) (hx : a.eval x = .int .i64 k) (hk : W64 k) (v : Value) (hv : (f k).getD z = v) (B : Bool) (hB : (f k).isSome = B)
    (hK : wpList Tryd.prog ops Q rest (a.put o.dst (.tuple #[v, .bool B])) w) : wpList Tryd.prog ops Q (o :: rest) a w := by
  refine wpList_plain hg fun K' hK' => ?_
  have hrun := hown.lookOk ht hz hk
  rw [hv, hB] at hrun
  unfold Oper.wp
  simp [execOp, hop, hm, hx, hrun, Result.andThen]
  exact hK' _ _ hK
theorem wpList_mdel (hg : o.guard = none) (m x : Operand) (t : TypeId) (hop : o.op = Op.call { callee := Callee.builtin Builtin.delete, args := #[m, x], argTypes := #[t, 3] })
    (e : TypeId) (ht : Tryd.prog.underlying t = some (.map 3 e)) (b n : Nat) (f : Int → Option Value) (hm : a.eval m = .map (some b)) (hown : MapAt w b n f)
    (k : Int) (hx : a.eval x = .int .i64 k) (hk : W64 k)
    (hK : ∀ ob, MapAt (setBlock w b ob) b (if (f k).isSome then n - 1 else n) (YtcbckehdlbbbbaaDoor.del f k) → wpList Tryd.prog ops Q rest (a.put o.dst (.tuple #[])) (setBlock w b ob)) : wpList Tryd.prog ops Q (o :: rest) a w := by
  refine wpList_plain hg fun K' hK' => ?_
  obtain ⟨ob, hrun, h2⟩ := hown.del ht hk o.type
  unfold Oper.wp
  simp [execOp, hop, resolve, invoke, builtin, hm, hx, hrun, Result.andThen]
  exact hK' _ _ (hK ob h2)
theorem wpList_mset (hg : o.guard = none) (m x y : Operand) (t : TypeId) (hop : o.op = Op.mapUpdate t m x y)
    (e : TypeId) (ht : Tryd.prog.underlying t = some (.map 3 e)) (b n : Nat) (f : Int → Option Value) (hm : a.eval m = .map (some b)) (hown : MapAt w b n f) (hn : n < maxLen)
    (k : Int) (hx : a.eval x = .int .i64 k) (hk : W64 k) (v : Value) (hy : a.eval y = v)
    (hK : ∀ ob, MapAt (setBlock w b ob) b (if (f k).isSome then n else n + 1) (upd f k v) → wpList Tryd.prog ops Q rest (a.put o.dst undef) (setBlock w b ob)) : wpList Tryd.prog ops Q (o :: rest) a w := by
  refine wpList_plain hg fun K' hK' => ?_
  obtain ⟨ob, hrun, h2⟩ := hown.set ht hn hk v
  unfold Oper.wp
  simp [execOp, hop, hm, hx, hy, hrun, Result.andThen]
  exact hK' _ _ (hK ob h2)
end
theorem setBlock_other (w : World) (b : Nat) (o : Obj) {k : Nat} (h : k ≠ b) : (setBlock w b o).heap[k]? = w.heap[k]? := by
  simp only [setBlock, Array.getElem?_setIfInBounds]
  rw [if_neg (fun e => h e.symm)]
theorem touch_setBlock {F : List Nat} {a w : World} (h : Touch F a w) {b : Nat} (hb : b ∈ F ∨ a.heap.size ≤ b) (o : Obj) : Touch F a (setBlock w b o) :=
  h.trans (G := [b]) ⟨rfl, rfl, rfl, by simp [setBlock], fun k hk hn => setBlock_other _ _ _ (by simpa using hn)⟩ (fun i hi => by simp only [List.mem_singleton] at hi; subst hi; exact hb)
theorem setBlock_drewN (w : World) (b : Nat) (o : Obj) (n : Nat) : setBlock (w.drewN n) b o = (setBlock w b o).drewN n := rfl
theorem cell_setBlock {w : World} {b : Nat} (o : Obj) {a : Addr} (h : a.block ≠ b) : (setBlock w b o).cell? a = w.cell? a := by simp [World.cell?, setBlock_other w b o h]
theorem frozen_setBlock {w : World} {b : Nat} (o : Obj) {a : Addr} (h : a.block ≠ b) : (setBlock w b o).frozen? a = w.frozen? a := by simp [World.frozen?, setBlock_other w b o h]
end Go.Proofs.YtcbckehdlbbbbaaDoor
/- Rows that a call owns: reading and writing a cell; what a step may add to a footprint. -/
namespace Go.Proofs.YtcbckehdlbbbbaaDoor
open Go.RowKit Go.Maps Go.ChangeMaps
set_option linter.unusedVariables false
theorem own_block {w : World} {base e g c n k : Nat} {xs : List Value} (h : w.ownsRow base e k (.slice (some ⟨g, 0, none⟩) n c) n xs) :
    ∃ cur, w.heap[g]? = some (.cells cur e (0, 0)) ∧ n ≤ c ∧ c ≤ maxLen ∧ cur.size = c * k ∧ cur.toList.take (n * k) = xs ∧ base ≤ g ∧ xs.length = n * k := by
  obtain ⟨h1, h2 | ⟨g', cap', cur, hv, hg, hc, hn, hm, hs, ht⟩⟩ := h
  · cases h2.1
  · simp only [Value.slice.injEq, Option.some.injEq, Addr.mk.injEq, and_true, true_and] at hv
    obtain ⟨rfl, rfl⟩ := hv
    exact ⟨cur, hc, hn, hm, hs, ht, hg, h1⟩
theorem own_cell {w : World} {base e g c n k : Nat} {xs : List Value} (h : w.ownsRow base e k (.slice (some ⟨g, 0, none⟩) n c) n xs) {p : Nat} {v : Value} (hp : xs[p]? = some v) :
    w.cell? ⟨g, p, none⟩ = some v := by
  obtain ⟨cur, hc, hn, hm, hs, ht, hg, hl⟩ := own_block h
  have hp' : p < xs.length := (List.getElem?_eq_some_iff.1 hp).1
  have : cur[p]? = some v := by
    rw [← Array.getElem?_toList, ← hp, ← ht, List.getElem?_take, if_pos (by omega)]
  simp [World.cell?, hc, this]
theorem own_frozen {w : World} {base e g c n k : Nat} {xs : List Value} (h : w.ownsRow base e k (.slice (some ⟨g, 0, none⟩) n c) n xs) (p : Nat) : w.frozen? ⟨g, p, none⟩ = false := by
  obtain ⟨cur, hc, _⟩ := own_block h
  exact Joins.unfrozen_of_block hc _
theorem own_set {w : World} {base e g c n k : Nat} {xs : List Value} (h : w.ownsRow base e k (.slice (some ⟨g, 0, none⟩) n c) n xs) (p : Nat) (v : Value) :
    (w.setCell ⟨g, p, none⟩ v).ownsRow base e k (.slice (some ⟨g, 0, none⟩) n c) n (xs.set p v) := by
  obtain ⟨cur, hc, hn, hm, hs, ht, hg, hl⟩ := own_block h
  refine ⟨by rw [List.length_set]; exact hl, Or.inr ⟨g, c, cur.setIfInBounds p v, rfl, hg, Joins.block_setCell hc _, hn, hm, by simp [hs], ?_⟩⟩
  rw [Array.toList_setIfInBounds, List.take_set, ht]
theorem own_keep {w w' : World} {base e n k : Nat} {v : Value} {xs : List Value} (h : w.ownsRow base e k v n xs) (hk : ∀ b, v.ownBlock = some b → w'.heap[b]? = w.heap[b]?) : w'.ownsRow base e k v n xs := by
  obtain ⟨h1, h2 | ⟨g, cap, cur, rfl, hg, hc, r⟩⟩ := h
  · exact ⟨h1, Or.inl h2⟩
  · exact ⟨h1, Or.inr ⟨g, cap, cur, rfl, hg, (hk g rfl).trans hc, r⟩⟩
theorem own_touch {F : List Nat} {w w' : World} {base e n k : Nat} {v : Value} {xs : List Value} (h : w.ownsRow base e k v n xs) (ht : Touch F w w') (hk : ∀ b, v.ownBlock = some b → ¬ b ∈ F) : w'.ownsRow base e k v n xs :=
  own_keep h (fun b hb => ht.block b (h.lt b hb).2 (hk b hb))
theorem own_form {w : World} {base e n k : Nat} {v : Value} {xs : List Value} (h : w.ownsRow base e k v n xs) : ∃ p c, v = .slice p n c := by
  rcases h.2 with ⟨rfl, rfl⟩ | ⟨g, cap, cur, rfl, _⟩
  · exact ⟨_, _, rfl⟩
  · exact ⟨_, _, rfl⟩

def PT (q : Nat) : Value := .pointer (some ⟨q, 0, none⟩)
def Nf (w : World) (F G : List Nat) : Prop := ∀ k, k ∈ G → k ∈ F ∨ w.heap.size ≤ k
theorem Nf.refl (w : World) (F : List Nat) : Nf w F F := fun _ h => Or.inl h
theorem Nf.trans {w w1 : World} {F G H : List Nat} (h : Nf w F G) (k : Nf w1 G H) (hz : w.heap.size ≤ w1.heap.size) : Nf w F H := fun i hi => by
  rcases k i hi with e | e
  · exact h i e
  · exact Or.inr (Nat.le_trans hz e)
theorem info3 : (Tryd.prog.info? 3).map (fun i => (i.zero, i.size, i.bytes)) = some (some (.int .i64 0), 1, 8) := by kernel_rfl
theorem cell_one_new (w : World) (x : Value) (t : TypeId) : ∀ j u, [x][j]? = some u → (w.alloc (.cells #[x] t)).cell? ((⟨w.heap.size, 0, none⟩ : Addr).add j) = some u := by
  intro j u hj
  match j, hj with
  | 0, hj => simp at hj; subst hj; simp [Addr.add]

theorem own_of_cells {w : World} {base e g c n k : Nat} {cur : Array Value} {xs : List Value} (hc : w.heap[g]? = some (.cells cur e (0, 0))) (hg : base ≤ g) (hn : n ≤ c) (hm : c ≤ maxLen) (hs : cur.size = c * k) (hl : xs.length = n * k)
    (h : ∀ p v, xs[p]? = some v → w.cell? ⟨g, p, none⟩ = some v) : w.ownsRow base e k (.slice (some ⟨g, 0, none⟩) n c) n xs := by
  refine ⟨hl, Or.inr ⟨g, c, cur, rfl, hg, hc, hn, hm, hs, ?_⟩⟩
  have hle : n * k ≤ c * k := Nat.mul_le_mul_right k hn
  refine List.ext_getElem (by rw [List.length_take, Array.length_toList]; omega) (fun p h1 h2 => ?_)
  have := h p xs[p] (List.getElem?_eq_getElem h2)
  have e2 : cur[p]? = some xs[p] := by simpa [World.cell?, hc] using this
  have h3 : p < cur.size := by omega
  rw [Array.getElem?_eq_getElem h3] at e2
  rw [List.getElem_take, Array.getElem_toList]
  exact Option.some.inj e2
def ints (xs : List Int) : List Value := xs.map (Value.int .i64)
theorem own_base {w : World} {B B' e k n : Nat} {v : Value} {xs : List Value} (h : w.ownsRow B e k v n xs) (hb : B' ≤ B) : w.ownsRow B' e k v n xs := by
  obtain ⟨h1, h2 | ⟨g', c', cur, e', hg, r⟩⟩ := h
  · exact ⟨h1, Or.inl h2⟩
  · exact ⟨h1, Or.inr ⟨g', c', cur, e', Nat.le_trans hb hg, r⟩⟩
theorem own_some {w : World} {base e n k : Nat} {v : Value} {xs : List Value} (h : w.ownsRow base e k v n xs) (hn : 0 < n) : ∃ b c, v = .slice (some ⟨b, 0, none⟩) n c ∧ base ≤ b ∧ b < w.heap.size := by
  rcases h.2 with ⟨_, e0⟩ | ⟨g, cap, cur, rfl, hg, hc, _⟩
  · omega
  · exact ⟨g, cap, rfl, hg, block_lt hc⟩
theorem bset {w : World} {g i : Nat} {cs : Array Value} {t : TypeId} {fr : Nat × Nat} (h : w.heap[g]? = some (.cells cs t fr)) (v : Value) : (w.setCell ⟨g, i, none⟩ v).heap[g]? = some (.cells (cs.setIfInBounds i v) t fr) := by
  simp [World.setCell, Array.getElem?_modify, h]
theorem nd_snoc {xs : List Int} {x : Int} (h : xs.Nodup) (hx : ¬ x ∈ xs) : (xs ++ [x]).Nodup := by
  rw [List.nodup_append]
  exact ⟨h, by simp, fun a ha b hb => by simp only [List.mem_singleton] at hb; subst hb; exact fun e => hx (e ▸ ha)⟩

theorem cell_at {w : World} {g j : Nat} {c : Array Value} {t : TypeId} {fr : Nat × Nat} {v : Value} (hb : w.heap[g]? = some (.cells c t fr)) (h : c[j]? = some v) : w.cell? ⟨g, j, none⟩ = some v := by simp [World.cell?, hb, h]
theorem froz_at {w : World} {g : Nat} {c : Array Value} {t : TypeId} (hb : w.heap[g]? = some (.cells c t (0, 0))) (j : Nat) : w.frozen? ⟨g, j, none⟩ = false := by simp [World.frozen?, hb]
/-- A slice that tells whole numbers. -/
def Rd (w : World) (v : Value) (xs : List Int) : Prop := ∃ a c, v = .slice a xs.length c ∧ xs.length ≤ c ∧ c ≤ maxLen ∧ (a = none → c = 0) ∧ (xs = [] ∨ ∃ (b : Nat) (cur : Array Value) (e : Nat) (z : Nat × Nat), a = some ⟨b, 0, none⟩ ∧ w.heap[b]? = some (.cells cur 3 z) ∧ ∀ i (h : i < xs.length), cur[i]? = some (.int .i64 xs[i]))
section
variable {w w' : World} {v : Value} {xs : List Int} {B : Nat}
theorem Rd.of_own (h : w.ownsRow B 3 1 v xs.length (ints xs)) : Rd w v xs := by
  rcases h.2 with ⟨e1, e2⟩ | ⟨g, cap, cur, rfl, hg, hc, hn, hm, hs, ht⟩
  · have : xs = [] := List.length_eq_zero_iff.1 e2
    subst this
    subst e1
    exact ⟨none, 0, rfl, Nat.le_refl _, Nat.zero_le _, fun _ => rfl, Or.inl rfl⟩
  · refine ⟨_, cap, rfl, hn, hm, fun e => (by cases e), Or.inr ⟨g, cur, 3, _, rfl, hc, fun i hi => ?_⟩⟩
    have := own_cell h (p := i) (v := .int .i64 xs[i]) (by simp [ints, hi])
    simpa [World.cell?, hc] using this
theorem Rd.keep {F : List Nat} (h : Rd w v xs) (T : Touch F w w') (hF : ∀ b, v.ownBlock = some b → ¬ b ∈ F) : Rd w' v xs := by
  obtain ⟨a, c, rfl, h1, h2, h0, h3⟩ := h
  refine ⟨a, c, rfl, h1, h2, h0, ?_⟩
  rcases h3 with e | ⟨b, cur, e, z, rfl, hb, hc⟩
  · exact Or.inl e
  · exact Or.inr ⟨b, cur, e, z, rfl, T.keep hb (hF b rfl), hc⟩
theorem Rd.keep0 (h : Rd w v xs) (T : Touch [] w w') : Rd w' v xs := h.keep T (fun _ _ e => by cases e)
theorem Rd.nil (w : World) : Rd w (.slice none 0 0) [] := ⟨none, 0, rfl, Nat.le_refl _, Nat.zero_le _, fun _ => rfl, Or.inl rfl⟩
theorem Rd.form (h : Rd w v xs) : ∃ a c, v = .slice a xs.length c ∧ xs.length ≤ c ∧ c ≤ maxLen := by
  obtain ⟨a, c, e, h1, h2, _⟩ := h
  exact ⟨a, c, e, h1, h2⟩
theorem Rd.one (h : Rd w v xs) : v.oneCell' = true := by
  obtain ⟨a, c, rfl, _⟩ := h
  rfl
theorem Rd.cell {a : Option Addr} {n c i : Nat} (h : Rd w (.slice a n c) xs) (hi : i < xs.length) : ∃ b, a = some ⟨b, 0, none⟩ ∧ w.cell? ⟨b, i, none⟩ = some (.int .i64 xs[i]) := by
  obtain ⟨a', c', e, _, _, _, h3⟩ := h
  simp only [Value.slice.injEq] at e
  obtain ⟨rfl, _, _⟩ := e
  rcases h3 with e | ⟨b, cur, e, z, rfl, hb, hc⟩
  · subst e; simp at hi
  · exact ⟨b, rfl, by simp [World.cell?, hb, hc i hi]⟩
theorem Rd.lt {b : Nat} {n c : Nat} (h : Rd w (.slice (some ⟨b, 0, none⟩) n c) xs) (hi : 0 < xs.length) : b < w.heap.size := by
  obtain ⟨a', c', e, _, _, _, h3⟩ := h
  simp only [Value.slice.injEq] at e
  obtain ⟨rfl, _, _⟩ := e
  rcases h3 with e | ⟨b', cur, e, z, he, hb, hc⟩
  · subst e; simp at hi
  · cases he; exact block_lt hb
end
/-- A slice that tells whole numbers, laid behind a row that a call owns. -/
theorem wpList_append_rd {w : World} {ops : Array Oper} {rest : List Oper} {o : Oper} {a : Act} {Q : Exit → Act → World → Prop} (hgd : o.guard = none) (s x : Operand) (ho : o.op = .call { callee := .builtin .append, args := #[s, x], argTypes := #[59, 59] })
    (base b0 n c0 : Nat) (xs : List Value) (hs : a.eval s = .slice (some ⟨b0, 0, none⟩) n c0) (hown : w.ownsRow base 3 1 (.slice (some ⟨b0, 0, none⟩) n c0) n xs) (sx : Value) (ys : List Int) (hx : a.eval x = sx) (hr : Rd w sx ys) (hb : n + ys.length ≤ 8796093022208) (hbase : base ≤ w.heap.size)
    (h : ∀ b cap w', w'.ownsRow base 3 1 (.slice (some ⟨b, 0, none⟩) (n + ys.length) cap) (n + ys.length) (xs ++ ints ys) → w.grownBy w' (some b0) → wpList Tryd.prog ops Q rest (a.put o.dst (.slice (some ⟨b, 0, none⟩) (n + ys.length) cap)) w') : wpList Tryd.prog ops Q (o :: rest) a w := by
  obtain ⟨i3, hi3, hz0, hz1, hz2⟩ := info_parts info3
  obtain ⟨ad, c, rfl, h1, h2, h0, h3⟩ := hr
  cases ad with
  | none =>
    have e0 := h0 rfl
    subst e0
    have e1 : ys = [] := List.length_eq_zero_iff.1 (by omega)
    subst e1
    refine wpList_append_own_none hgd s x 59 ho base 3 i3 1 Tryd.underlying59 hi3 _ n xs hs hown hx ?_
    have := h b0 c0 w (by simpa [ints] using hown) ⟨rfl, rfl, rfl, Nat.le_refl _, fun _ _ _ => rfl⟩
    simpa using this
  | some ad =>
    refine wpList_append_own w hgd s x 59 ho base 3 i3 (.int .i64 0) 1 8 Tryd.underlying59 hi3 hz0 hz1 hz2 rfl (by decide) _ n xs hs hown ad ys.length c (ints ys) hx (by simp [ints]) (fun j u hu => ?_) (fun u hu => ?_) (by unfold maxLen; omega) (by omega) hbase (fun v' w' r gr nn => ?_)
    · rcases h3 with e | ⟨b, cur, e, z, he, hb, hc⟩
      · subst e; simp [ints] at hu
      · cases he
        have hj : j < ys.length := by
          have := (List.getElem?_eq_some_iff.1 hu).1
          simpa [ints] using this
        have e2 : (⟨b, 0, none⟩ : Addr).add j = ⟨b, j, none⟩ := by unfold Addr.add; split <;> simp_all
        rw [e2]
        simp [ints, hj] at hu
        rw [← hu]
        simp [World.cell?, hb, hc j hj]
    · simp only [ints, List.mem_map] at hu
      obtain ⟨y, _, rfl⟩ := hu
      rfl
    · rcases r.2 with ⟨e, _⟩ | ⟨g, cap, cur, rfl, _⟩
      · have := (nn.1 e).1
        cases this
      · exact h g cap w' r gr
theorem own_kind {w : World} {base e n k : Nat} {v : Value} {xs : List Value} (h : w.ownsRow base e k v n xs) {b : Nat} (hb : v.ownBlock = some b) : ∃ cs, w.heap[b]? = some (.cells cs e (0, 0)) := by
  obtain ⟨h1, h2 | ⟨g, cap, cur, rfl, hg, hc, hn, r⟩⟩ := h
  · rw [h2.1] at hb
    cases hb
  · simp only [Value.ownBlock, Option.some.injEq] at hb
    subst hb
    exact ⟨cur, hc⟩
end Go.Proofs.YtcbckehdlbbbbaaDoor
/- Rows of structs that a call owns, as flat lists of cells; slices laid behind them; no conditions. -/
namespace Go.Proofs.YtcbckehdlbbbbaaDoor
open Go.RowKit Go.Maps Go.ChangeMaps
set_option linter.unusedVariables false
set_option linter.unusedSimpArgs false
section
variable {X : Type} {f : X → List Value} {k : Nat}
theorem flat_len (hf : ∀ x, (f x).length = k) (xs : List X) : (xs.flatMap f).length = xs.length * k := by
  induction xs with
  | nil => simp
  | cons a r ih => rw [List.flatMap_cons, List.length_append, ih, hf, List.length_cons, Nat.succ_mul, Nat.add_comm]
theorem flat_at (hf : ∀ x, (f x).length = k) : ∀ (xs : List X) (i j : Nat) (x : X), xs[i]? = some x → j < k → (xs.flatMap f)[i * k + j]? = (f x)[j]?
  | [], i, j, x, h, hj => by simp at h
  | a :: r, 0, j, x, h, hj => by
    simp at h
    subst h
    rw [List.flatMap_cons, List.getElem?_append_left (by rw [hf]; omega)]
    simp
  | a :: r, i + 1, j, x, h, hj => by
    simp at h
    rw [List.flatMap_cons, List.getElem?_append_right (by rw [hf, Nat.succ_mul]; omega), hf]
    rw [show (i + 1) * k + j - k = i * k + j by rw [Nat.succ_mul]; omega]
    exact flat_at hf r i j x h hj
theorem flat_set (hf : ∀ x, (f x).length = k) (xs : List X) {i j : Nat} {x : X} {v : Value} (h : xs[i]? = some x) (hj : j < k) {y : X} (hy : f y = (f x).set j v) : (xs.flatMap f).set (i * k + j) v = (xs.set i y).flatMap f := by
  induction xs generalizing i with
  | nil => simp at h
  | cons a r ih =>
    cases i with
    | zero =>
      simp at h
      subst h
      simp only [Nat.zero_mul, Nat.zero_add, List.flatMap_cons, List.set_cons_zero]
      rw [List.set_append_left _ _ (by rw [hf]; omega), hy]
    | succ i =>
      simp at h
      simp only [List.flatMap_cons, List.set_cons_succ]
      rw [List.set_append_right _ _ (by rw [hf, Nat.succ_mul]; omega), hf, show (i + 1) * k + j - k = i * k + j by rw [Nat.succ_mul]; omega, ih h]
end
/-- A slice that can be read: n elements of k cells of type t. -/
def Rs (t k : Nat) (w : World) (v : Value) (n : Nat) (vs : List Value) : Prop := vs.length = n * k ∧ ∃ a c, v = .slice a n c ∧ n ≤ c ∧ (a = none → c = 0) ∧ (0 < n → ∃ g off, a = some ⟨g, off, none⟩ ∧ ∃ cs z, w.heap[g]? = some (.cells cs t z) ∧ ∀ j u, vs[j]? = some u → cs[off + j]? = some u)
section
variable {t k n : Nat} {w w' : World} {v : Value} {vs : List Value} {B : Nat}
theorem Rs.of_own (h : w.ownsRow B t k v n vs) : Rs t k w v n vs := by
  rcases h with ⟨h1, ⟨e1, e2⟩ | ⟨g, cap, cur, rfl, hg, hc, hn, hm, hs, ht⟩⟩
  · subst e2
    exact ⟨h1, none, 0, e1, Nat.le_refl _, fun _ => rfl, fun h => absurd h (Nat.lt_irrefl 0)⟩
  · refine ⟨h1, _, cap, rfl, hn, fun e => (by cases e), fun _ => ⟨g, 0, rfl, cur, _, hc, fun j u hu => ?_⟩⟩
    have hj := (List.getElem?_eq_some_iff.1 hu).1
    rw [Nat.zero_add, ← Array.getElem?_toList, ← hu, ← ht, List.getElem?_take, if_pos (by omega)]
theorem Rs.keep {F : List Nat} (h : Rs t k w v n vs) (T : Touch F w w') (hF : ∀ g off n c, v = .slice (some ⟨g, off, none⟩) n c → ¬ g ∈ F) : Rs t k w' v n vs := by
  obtain ⟨h1, a, c, rfl, h2, h3, h4⟩ := h
  refine ⟨h1, a, c, rfl, h2, h3, fun hp => ?_⟩
  obtain ⟨g, off, rfl, cs, z, h5, h6⟩ := h4 hp
  exact ⟨g, off, rfl, cs, z, T.keep h5 (hF g off n c rfl), h6⟩
theorem Rs.keep0 (h : Rs t k w v n vs) (T : Touch [] w w') : Rs t k w' v n vs := h.keep T (fun _ _ _ _ _ e => by cases e)
theorem Rs.form (h : Rs t k w v n vs) : ∃ a c, v = .slice a n c ∧ n ≤ c := by
  obtain ⟨h1, a, c, e, h2, _⟩ := h
  exact ⟨a, c, e, h2⟩
theorem Rs.cell {a : Option Addr} {c j : Nat} {u : Value} (h : Rs t k w (.slice a n c) n vs) (hu : vs[j]? = some u) (hn : 0 < n) : ∃ g off, a = some ⟨g, off, none⟩ ∧ w.cell? ⟨g, off + j, none⟩ = some u := by
  obtain ⟨h1, a', c', e, h2, h3, h4⟩ := h
  cases e
  obtain ⟨g, off, rfl, cs, z, h5, h6⟩ := h4 hn
  exact ⟨g, off, rfl, by simp [World.cell?, h5, h6 j u hu]⟩
end
section
variable {w : World} {ops : Array Oper} {rest : List Oper} {o : Oper} {a : Act} {Q : Exit → Act → World → Prop}
/-- A slice that can be read, laid behind a row that a call owns. -/
theorem wpList_append_rs (hgd : o.guard = none) (s x : Operand) (st et : TypeId) (ho : o.op = .call { callee := .builtin .append, args := #[s, x], argTypes := #[st, st] })
    (z : Value) (k bytes : Nat) (hinfo : (Tryd.prog.info? et).map (fun i => (i.zero, i.size, i.bytes)) = some (some z, k, bytes)) (ht : Tryd.prog.underlying st = some (.slice et)) (hzs : z.cells.size = k) (hk : 0 < k)
    (base : Nat) (v : Value) (n : Nat) (xs : List Value) (hs : a.eval s = v) (hown : w.ownsRow base et k v n xs)
    (u : Value) (m : Nat) (vs : List Value) (hx : a.eval x = u) (hu : Rs et k w u m vs) (h1 : ∀ y ∈ vs, y.oneCell' = true) (h63 : n + m ≤ maxLen) (hbytes : (n + m) * bytes ≤ 140737488355328) (hbase : base ≤ w.heap.size)
    (h : ∀ v' w', w'.ownsRow base et k v' (n + m) (xs ++ vs) → w.grownBy w' v.ownBlock → (v'.ownBlock = v.ownBlock ∨ v'.ownBlock = some w.heap.size) → wpList Tryd.prog ops Q rest (a.put o.dst v') w') : wpList Tryd.prog ops Q (o :: rest) a w := by
  obtain ⟨i3, hf, hz0, hz1, hz2⟩ := info_parts hinfo
  obtain ⟨hl, ad, c, rfl, hc, hn0, hr⟩ := hu
  cases ad with
  | none =>
    have e0 := hn0 rfl
    subst e0
    have em : m = 0 := by omega
    subst em
    have ev : vs = [] := List.length_eq_zero_iff.1 (by omega)
    subst ev
    refine wpList_append_own_none hgd s x st ho base et i3 k ht hf v n xs hs hown hx ?_
    exact h v w (by simpa using hown) (World.grownBy.refl _ _) (Or.inl rfl)
  | some ad =>
    refine wpList_append_own_at w hgd s x st ho base et i3 z k bytes ht hf hz0 hz1 hz2 hzs hk v n xs hs hown ad m c vs hx hl (fun j y hy => ?_) h1 h63 hbytes hbase (fun v' w' q1 q2 q3 q4 => h v' w' q1 q2 q4)
    have hm : 0 < m := by
      rcases Nat.eq_zero_or_pos m with e | e
      · subst e
        have : vs = [] := List.length_eq_zero_iff.1 (by omega)
        subst this
        simp at hy
      · exact e
    obtain ⟨g, off, e, cs, zz, h5, h6⟩ := hr hm
    cases e
    rw [show (⟨g, off, none⟩ : Addr).add j = ⟨g, off + j, none⟩ by simp [Addr.add]]
    simp [World.cell?, h5, h6 j y hy]
end
/-- What an append onto an owned row may touch. -/
theorem touch_grown {w0 w w' : World} {v : Value} {B e k n : Nat} {xs : List Value} (t : Touch [] w0 w) (g : w.grownBy w' v.ownBlock) (h : w.ownsRow B e k v n xs) (hB : w0.heap.size ≤ B) : Touch [] w0 w' :=
  t.trans ((Touch.refl v.ownBlock.toList w).grown g (fun q hq => Or.inl (by simp [hq]))) (fun q hq => Or.inr (Nat.le_trans hB (h.lt q (by simpa using hq)).1))
end Go.Proofs.YtcbckehdlbbbbaaDoor
