/- What a call may touch, and maps keyed by whole numbers as plain functions; no conditions. -/
import Derived.Test.YtibgfkjhohgkhaaProg
import Derived.WalkKit
import Derived.ProofKit
import Derived.BigQuiet
import Derived.BigRegion
import Derived.Maps.Own
import Derived.Maps.OwnOps
import Derived.Maps.OwnSet
import Derived.Maps.Views
import Derived.Carry
import Derived.WalkSpells
namespace Go.Proofs.Ytibgfkjhohgkhaa
open Go.RowKit Go.Maps Go.ChangeMaps
set_option linter.unusedVariables false

theorem hid {p : Prop} (h : p) : Hid p := h
structure Touch (F : List Nat) (w w' : World) : Prop where
  os : w'.os = w.os
  tape : w'.tape = w.tape
  output : w'.output = w.output
  size : w.heap.size ≤ w'.heap.size
  block : ∀ k, k < w.heap.size → ¬ k ∈ F → w'.heap[k]? = w.heap[k]?
theorem Touch.refl (F : List Nat) (w : World) : Touch F w w := ⟨rfl, rfl, rfl, Nat.le_refl _, fun _ _ _ => rfl⟩
theorem Touch.mono {F G : List Nat} {w w' : World} (h : Touch F w w') (hs : ∀ k, k ∈ F → k ∈ G) : Touch G w w' := ⟨h.os, h.tape, h.output, h.size, fun k hk hn => h.block k hk (fun e => hn (hs k e))⟩
/-- The later step may touch what the first one may, and what the first one laid. -/
theorem Touch.trans {F G : List Nat} {a b c : World} (h : Touch F a b) (k : Touch G b c) (hs : ∀ i, i ∈ G → i ∈ F ∨ a.heap.size ≤ i) : Touch F a c :=
  ⟨k.os.trans h.os, k.tape.trans h.tape, k.output.trans h.output, Nat.le_trans h.size k.size, fun i hi hn =>
    (k.block i (Nat.lt_of_lt_of_le hi h.size) (fun e => (hs i e).elim hn (fun e' => by omega))).trans (h.block i hi hn)⟩
theorem Touch.trans' {F : List Nat} {a b c : World} (h : Touch F a b) (k : Touch F b c) : Touch F a c := h.trans k (fun _ e => Or.inl e)
theorem Touch.alloc {F : List Nat} {a b : World} (h : Touch F a b) (o : Obj) : Touch F a (b.alloc o) :=
  h.trans' ⟨rfl, rfl, rfl, by simp, fun k hk _ => Below.heap_alloc _ _ _ hk⟩
theorem Touch.setCell {F : List Nat} {a b : World} (h : Touch F a b) {p : Addr} (hp : p.block ∈ F ∨ a.heap.size ≤ p.block) (v : Value) : Touch F a (b.setCell p v) :=
  h.trans (G := [p.block]) ⟨rfl, rfl, rfl, by simp [World.setCell], fun k hk hn => Below.heap_setCell _ _ _ _ (by simpa using hn)⟩ (fun i hi => by simp only [List.mem_singleton] at hi; subst hi; exact hp)
theorem Touch.grown {F : List Nat} {a b c : World} {row : Option Nat} (h : Touch F a b) (hg : b.grownBy c row) (hr : ∀ k, row = some k → k ∈ F ∨ a.heap.size ≤ k) : Touch F a c :=
  ⟨hg.os.trans h.os, hg.tape.trans h.tape, hg.output.trans h.output, Nat.le_trans h.size hg.size, fun i hi hn => (hg.block i (Nat.lt_of_lt_of_le hi h.size) (fun e => (hr i e.symm).elim hn (fun e' => by omega))).trans (h.block i hi hn)⟩
theorem Touch.drewN {F : List Nat} {a b : World} (h : Touch F a b) (n : Nat) : Touch F a (b.drewN n) := ⟨h.os, h.tape, h.output, h.size, h.block⟩
theorem Touch.drew {F : List Nat} {a b : World} (h : Touch F a b) : Touch F a b.drew := ⟨h.os, h.tape, h.output, h.size, h.block⟩
theorem Touch.below {a b : World} {B : Nat} {F : List Nat} (h : Touch F a b) (hF : ∀ k, k ∈ F → B ≤ k) (hB : B ≤ a.heap.size) : Below B a b :=
  ⟨h.os, h.tape, h.output, h.size, fun k hk => h.block k (by omega) (fun e => by have := hF k e; omega)⟩
theorem Touch.of_below {a b : World} (h : Below a.heap.size a b) : Touch [] a b := ⟨h.os, h.tape, h.output, h.size, fun k hk _ => h.block k hk⟩
theorem block_lt {w : World} {b : Nat} {o : Obj} (h : w.heap[b]? = some o) : b < w.heap.size := (Array.getElem?_eq_some_iff.1 h).1
theorem Touch.keep {F : List Nat} {a b : World} (h : Touch F a b) {k : Nat} {o : Obj} (hk : a.heap[k]? = some o) (hn : ¬ k ∈ F) : b.heap[k]? = some o := (h.block k (block_lt hk) hn).trans hk

def W64 (k : Int) : Prop := (Lit.int .i64 k).wf = true
theorem W64.lo {k : Int} (h : W64 k) : -9223372036854775808 ≤ k := by
  simp [W64, Lit.wf, IntKind.min, IntKind.max, IntKind.bits, IntKind.signed] at h; omega
theorem W64.hi {k : Int} (h : W64 k) : k ≤ 9223372036854775807 := by
  simp [W64, Lit.wf, IntKind.min, IntKind.max, IntKind.bits, IntKind.signed] at h; omega
theorem W64.mk {k : Int} (h : -9223372036854775808 ≤ k) (h' : k ≤ 9223372036854775807) : W64 k := by
  simp [W64, Lit.wf, IntKind.min, IntKind.max, IntKind.bits, IntKind.signed]; omega
theorem keyed3 : Keyed Try.prog 3 := int_keyed Try.underlying3
theorem key3 {k : Int} (h : W64 k) : keyOf Try.prog 3 (.int .i64 k) = some (.int .i64 k) := keyOf_int_mk Try.underlying3 h
def HR (v : Value) : Option (DataW Value × List MemPlace) := some (.held v, [])
def MapAt (w : World) (b n : Nat) (f : Int → Option Value) : Prop :=
  ∃ D : DataW Value, w.ownsMap Try.prog 3 HR b n D ∧ Maps.size D = n ∧ ∀ k, W64 k → Maps.has D (.int .i64 k) = (f k).isSome ∧ ∀ z, D.atKey (.int .i64 k) (.held z) = .held ((f k).getD z)
theorem MapAt.kept {w w' : World} {b n : Nat} {f : Int → Option Value} (h : MapAt w b n f) (hk : w'.heap[b]? = w.heap[b]?) : MapAt w' b n f := by
  obtain ⟨D, ⟨es, cl, hb, r⟩, h2, h3⟩ := h
  exact ⟨D, ⟨es, cl, hk.trans hb, r⟩, h2, h3⟩
theorem MapAt.lt {w : World} {b n : Nat} {f : Int → Option Value} (h : MapAt w b n f) : b < w.heap.size := by
  obtain ⟨D, h1, _⟩ := h
  exact h1.lt
theorem MapAt.congr {w : World} {b n : Nat} {f g : Int → Option Value} (h : MapAt w b n f) (hf : ∀ k, W64 k → f k = g k) : MapAt w b n g := by
  obtain ⟨D, h1, h2, h3⟩ := h
  exact ⟨D, h1, h2, fun k hk => by rw [← hf k hk]; exact h3 k hk⟩
theorem mapAt_made (w : World) : MapAt (w.alloc (.map #[] 0)) w.heap.size 0 (fun _ => none) :=
  ⟨.map [], World.ownsMap_made _ _ _ _, rfl, fun k hk => ⟨by simp [Maps.has_eq], fun z => by simp [DataW.atKey]⟩⟩
theorem lit_ne {a b : Int} (h : a ≠ b) : (Lit.int .i64 a) ≠ (Lit.int .i64 b) := fun e => h (by injection e)
theorem IsKey64 {k : Int} (h : W64 k) : WideAt.IsKeyLit (.int .i64 k) := keyed3.key (key3 h)
theorem zero3 (w : World) : (zeroValue 3).run Try.prog w = .ok (.int .i64 0) w := by kernel_rfl
section
variable {w : World} {b n : Nat} {f : Int → Option Value} {t e : TypeId}
theorem MapAt.look (h : MapAt w b n f) (ht : Try.prog.underlying t = some (.map 3 e)) {z : Value} (hz : (zeroValue e).run Try.prog w = .ok z w) {k : Int} (hk : W64 k) :
    (Instr.lookup t (.map (some b)) (.int .i64 k) false).run Try.prog w = .ok ((f k).getD z) w := by
  obtain ⟨D, h1, h2, h3⟩ := h
  obtain ⟨v, ps, hr, hv⟩ := h1.lookup keyed3 ht hz (zd := .held z) (zp := []) rfl (key3 hk)
  rw [(h3 k hk).2 z] at hv
  simp only [HR, Option.some.injEq, Prod.mk.injEq, DataW.held.injEq] at hv
  rw [hr, hv.1]
theorem MapAt.lookOk (h : MapAt w b n f) (ht : Try.prog.underlying t = some (.map 3 e)) {z : Value} (hz : (zeroValue e).run Try.prog w = .ok z w) {k : Int} (hk : W64 k) :
    (Instr.lookup t (.map (some b)) (.int .i64 k) true).run Try.prog w = .ok (.tuple #[(f k).getD z, .bool (f k).isSome]) w := by
  obtain ⟨D, h1, h2, h3⟩ := h
  obtain ⟨v, ps, hr, hv⟩ := h1.look_ok keyed3 ht hz (zd := .held z) (zp := []) rfl (key3 hk)
  rw [(h3 k hk).2 z] at hv
  simp only [HR, Option.some.injEq, Prod.mk.injEq, DataW.held.injEq] at hv
  rw [hr, hv.1, (h3 k hk).1]
theorem MapAt.len (h : MapAt w b n f) (ht : Try.prog.underlying t = some (.map 3 e)) (ty : TypeId) : (Builtin.len_ #[t] ty #[.map (some b)]).run Try.prog w = .ok (.int .i64 n) w := by
  obtain ⟨D, h1, h2, h3⟩ := h
  rw [h1.len ht ty, h2]
def upd (f : Int → Option Value) (k : Int) (v : Value) : Int → Option Value := fun j => if j = k then some v else f j
def del (f : Int → Option Value) (k : Int) : Int → Option Value := fun j => if j = k then none else f j
theorem MapAt.set (h : MapAt w b n f) (ht : Try.prog.underlying t = some (.map 3 e)) (hn : n < maxLen) {k : Int} (hk : W64 k) (v : Value) :
    ∃ o, (Instr.mapUpdate t (.map (some b)) (.int .i64 k) v).run Try.prog w = .ok () (setBlock w b o) ∧ MapAt (setBlock w b o) b (if (f k).isSome then n else n + 1) (upd f k v) := by
  obtain ⟨D, h1, h2, h3⟩ := h
  obtain ⟨w', hr, h4, es, cl, es', cl', hb, rfl⟩ := h1.store keyed3 ht hn (key3 hk) (show HR v = some (.held v, []) from rfl)
  have hT := h1.tidy keyed3
  have hs : Maps.size (D.put (.int .i64 k) (.held v)) = if (f k).isSome then n else n + 1 := by
    rw [size_put hT, (h3 k hk).1, h2]
  refine ⟨_, hr, D.put (.int .i64 k) (.held v), ?_, hs, fun j hj => ?_⟩
  · obtain ⟨es1, cl1, hb1, F1, hs1, hD1⟩ := h4
    refine ⟨es1, cl1, hb1, F1, ?_, hD1⟩
    have e1 : Maps.size (DataW.map ((es1.toList.map (WideElems.rg Try.prog 3 HR)).foldr DataW.insert [])) = es1.size := by simp [Maps.size, length_sorted]
    rw [← hD1, hs] at e1
    omega
  · by_cases hjk : j = k
    · subst hjk
      refine ⟨by rw [has_put_same hT.isMap (IsKey64 hj)]; simp [upd], fun z => ?_⟩
      rw [atKey_put_same hT.isMap (IsKey64 hj)]
      simp [upd]
    · refine ⟨by rw [has_put_other (lit_ne hjk), (h3 j hj).1]; simp [upd, hjk], fun z => ?_⟩
      rw [atKey_put_other (lit_ne hjk), (h3 j hj).2]
      simp [upd, hjk]
theorem MapAt.del (h : MapAt w b n f) (ht : Try.prog.underlying t = some (.map 3 e)) {k : Int} (hk : W64 k) (ty : TypeId) :
    ∃ o, (Builtin.delete_ #[t, 3] ty #[.map (some b), .int .i64 k]).run Try.prog w = .ok (.tuple #[]) (setBlock w b o) ∧ MapAt (setBlock w b o) b (if (f k).isSome then n - 1 else n) (Ytibgfkjhohgkhaa.del f k) := by
  obtain ⟨D, h1, h2, h3⟩ := h
  obtain ⟨w', hr, h4, es, cl, es', cl', hb, rfl⟩ := h1.drop keyed3 ht (key3 hk) ty
  have hT := h1.tidy keyed3
  have hs : Maps.size (D.del (.int .i64 k)) = if (f k).isSome then n - 1 else n := by
    have := size_del hT (k := .int .i64 k)
    rw [(h3 k hk).1, h2] at this
    split at this <;> simp_all <;> omega
  refine ⟨_, hr, D.del (.int .i64 k), ?_, hs, fun j hj => ?_⟩
  · obtain ⟨es1, cl1, hb1, F1, hs1, hD1⟩ := h4
    refine ⟨es1, cl1, hb1, F1, ?_, hD1⟩
    have e1 : Maps.size (DataW.map ((es1.toList.map (WideElems.rg Try.prog 3 HR)).foldr DataW.insert [])) = es1.size := by simp [Maps.size, length_sorted]
    rw [← hD1, hs] at e1
    omega
  · by_cases hjk : j = k
    · subst hjk
      refine ⟨by rw [has_del_same]; simp [Ytibgfkjhohgkhaa.del], fun z => ?_⟩
      rw [atKey_del_same]
      simp [Ytibgfkjhohgkhaa.del]
    · refine ⟨by rw [has_del_other (lit_ne hjk), (h3 j hj).1]; simp [Ytibgfkjhohgkhaa.del, hjk], fun z => ?_⟩
      rw [atKey_del_other (lit_ne hjk), (h3 j hj).2]
      simp [Ytibgfkjhohgkhaa.del, hjk]
end
section
variable (w : World) {ops : Array Oper} {rest : List Oper} {o : Oper} {a : Act} {Q : Exit → Act → World → Prop}
theorem wpList_mlen (hg : o.guard = none) (m : Operand) (t : TypeId) (hop : o.op = Op.call { callee := Callee.builtin Builtin.len, args := #[m], argTypes := #[t] })
    (e : TypeId) (ht : Try.prog.underlying t = some (.map 3 e)) (b n : Nat) (f : Int → Option Value) (hm : a.eval m = .map (some b)) (hown : MapAt w b n f)
    (hK : wpList Try.prog ops Q rest (a.put o.dst (.int .i64 n)) w) : wpList Try.prog ops Q (o :: rest) a w := by
  obtain ⟨D, h1, h2, h3⟩ := hown
  refine wpList_len_own w hg m t hop 3 e ht HR b n D hm h1 ?_
  rw [h2]
  exact hK
theorem wpList_mlook (hg : o.guard = none) (m x : Operand) (t : TypeId) (hop : o.op = Op.lookup t m x false)
    (e : TypeId) (ht : Try.prog.underlying t = some (.map 3 e)) {z : Value} (hz : (zeroValue e).run Try.prog w = .ok z w) (b n : Nat) (f : Int → Option Value) (hm : a.eval m = .map (some b)) (hown : MapAt w b n f)
    (k : Int) (hx : a.eval x = .int .i64 k) (hk : W64 k) (v : Value) (hv : (f k).getD z = v)
    (hK : wpList Try.prog ops Q rest (a.put o.dst v) w) : wpList Try.prog ops Q (o :: rest) a w := by
  refine wpList_plain hg fun K' hK' => ?_
  have hrun := hown.look ht hz hk
  rw [hv] at hrun
  unfold Oper.wp
  simp [execOp, hop, hm, hx, hrun, Result.andThen]
  exact hK' _ _ hK
theorem wpList_mlookok (hg : o.guard = none) (m x : Operand) (t : TypeId) (hop : o.op = Op.lookup t m x true)
    (e : TypeId) (ht : Try.prog.underlying t = some (.map 3 e)) {z : Value} (hz : (zeroValue e).run Try.prog w = .ok z w) (b n : Nat) (f : Int → Option Value) (hm : a.eval m = .map (some b)) (hown : MapAt w b n f)
    (k : Int) (hx : a.eval x = .int .i64 k) (hk : W64 k) (v : Value) (hv : (f k).getD z = v) (B : Bool) (hB : (f k).isSome = B)
    (hK : wpList Try.prog ops Q rest (a.put o.dst (.tuple #[v, .bool B])) w) : wpList Try.prog ops Q (o :: rest) a w := by
  refine wpList_plain hg fun K' hK' => ?_
  have hrun := hown.lookOk ht hz hk
  rw [hv, hB] at hrun
  unfold Oper.wp
  simp [execOp, hop, hm, hx, hrun, Result.andThen]
  exact hK' _ _ hK
theorem wpList_mdel (hg : o.guard = none) (m x : Operand) (t : TypeId) (hop : o.op = Op.call { callee := Callee.builtin Builtin.delete, args := #[m, x], argTypes := #[t, 3] })
    (e : TypeId) (ht : Try.prog.underlying t = some (.map 3 e)) (b n : Nat) (f : Int → Option Value) (hm : a.eval m = .map (some b)) (hown : MapAt w b n f)
    (k : Int) (hx : a.eval x = .int .i64 k) (hk : W64 k)
    (hK : ∀ ob, MapAt (setBlock w b ob) b (if (f k).isSome then n - 1 else n) (Ytibgfkjhohgkhaa.del f k) → wpList Try.prog ops Q rest (a.put o.dst (.tuple #[])) (setBlock w b ob)) : wpList Try.prog ops Q (o :: rest) a w := by
  refine wpList_plain hg fun K' hK' => ?_
  obtain ⟨ob, hrun, h2⟩ := hown.del ht hk o.type
  unfold Oper.wp
  simp [execOp, hop, resolve, invoke, builtin, hm, hx, hrun, Result.andThen]
  exact hK' _ _ (hK ob h2)
theorem wpList_mset (hg : o.guard = none) (m x y : Operand) (t : TypeId) (hop : o.op = Op.mapUpdate t m x y)
    (e : TypeId) (ht : Try.prog.underlying t = some (.map 3 e)) (b n : Nat) (f : Int → Option Value) (hm : a.eval m = .map (some b)) (hown : MapAt w b n f) (hn : n < maxLen)
    (k : Int) (hx : a.eval x = .int .i64 k) (hk : W64 k) (v : Value) (hy : a.eval y = v)
    (hK : ∀ ob, MapAt (setBlock w b ob) b (if (f k).isSome then n else n + 1) (upd f k v) → wpList Try.prog ops Q rest (a.put o.dst undef) (setBlock w b ob)) : wpList Try.prog ops Q (o :: rest) a w := by
  refine wpList_plain hg fun K' hK' => ?_
  obtain ⟨ob, hrun, h2⟩ := hown.set ht hn hk v
  unfold Oper.wp
  simp [execOp, hop, hm, hx, hy, hrun, Result.andThen]
  exact hK' _ _ (hK ob h2)
end
theorem setBlock_other (w : World) (b : Nat) (o : Obj) {k : Nat} (h : k ≠ b) : (setBlock w b o).heap[k]? = w.heap[k]? := by
  simp only [setBlock, Array.getElem?_setIfInBounds]
  rw [if_neg (fun e => h e.symm)]
theorem touch_setBlock {F : List Nat} {a w : World} (h : Touch F a w) {b : Nat} (hb : b ∈ F ∨ a.heap.size ≤ b) (o : Obj) : Touch F a (setBlock w b o) :=
  h.trans (G := [b]) ⟨rfl, rfl, rfl, by simp [setBlock], fun k hk hn => setBlock_other _ _ _ (by simpa using hn)⟩ (fun i hi => by simp only [List.mem_singleton] at hi; subst hi; exact hb)
theorem setBlock_drewN (w : World) (b : Nat) (o : Obj) (n : Nat) : setBlock (w.drewN n) b o = (setBlock w b o).drewN n := rfl
theorem cell_setBlock {w : World} {b : Nat} (o : Obj) {a : Addr} (h : a.block ≠ b) : (setBlock w b o).cell? a = w.cell? a := by simp [World.cell?, setBlock_other w b o h]
theorem frozen_setBlock {w : World} {b : Nat} (o : Obj) {a : Addr} (h : a.block ≠ b) : (setBlock w b o).frozen? a = w.frozen? a := by simp [World.frozen?, setBlock_other w b o h]
end Go.Proofs.Ytibgfkjhohgkhaa
