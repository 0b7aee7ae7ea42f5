/- What a call may touch, and maps keyed by whole numbers as plain functions; no conditions. -/
import Derived.Test.YtllchnancjgijaaGreatProg
import Derived.WalkKit
import Derived.ProofKit
import Derived.BigQuiet
import Derived.BigRegion
import Derived.Maps.Own
import Derived.Maps.OwnOps
import Derived.Maps.OwnSet
import Derived.Maps.Views
import Derived.Carry
import Derived.WalkSpells
import Derived.Lib.SmallJoins
import Derived.Deep.AppendLies
import Derived.Deep.QuietTactic
import Derived.Deep.RegionHeld3
import Derived.Deep.RegionWith
import Derived.Lib.QuietBelow
import Derived.OwnWalk
import Derived.Laws.AppendOwnNone
import Derived.Deep.CutRange
import Derived.Deep.CutBlock
import Derived.Deep.RegionLaw
import Derived.Laws.ResultCell
import Derived.Maps.AppendAt
import Derived.DeepKeys4
import Derived.MapViews
import Derived.Maps.Range
import Derived.WideKeyEntry
import Derived.OpenShut
import Derived.ShutString
import Derived.OrdersHeld
import Derived.StillTail
import Derived.Deep.RegionHeld
namespace Go.Proofs.YtllchnancjgijaaGreat
theorem Zx {α : Type} (l : List α) (i : Nat) (a : α) : l.toArray.setIfInBounds i a = (l.set i a).toArray := List.setIfInBounds_toArray ..
theorem Zy {α : Type} (x : α) (l : List α) (a : α) : (x :: l).set 0 a = a :: l := rfl
theorem Zz {α : Type} (x : α) (l : List α) (i : Nat) (a : α) : (x :: l).set (i + 1) a = x :: l.set i a := rfl
end Go.Proofs.YtllchnancjgijaaGreat
set_option linter.unusedVariables false
set_option linter.unusedSimpArgs false
set_option maxRecDepth 100000
namespace Go.Proofs.YtllchnancjgijaaGreat
open Go.RowKit Go.Maps Go.ChangeMaps
theorem hid {p : Prop} (h : p) : Hid p := h
structure Touch (F : List Nat) (w w' : World) : Prop where
 os : w'.os = w.os
 tape : w'.tape = w.tape
 output : w'.output = w.output
 size : w.heap.size ≤ w'.heap.size
 block : ∀ k, k < w.heap.size → ¬ k ∈ F → w'.heap[k]? = w.heap[k]?
theorem Touch.refl (F : List Nat) (w : World) : Touch F w w := ⟨rfl, rfl, rfl, Nat.le_refl _, fun _ _ _ => rfl⟩
theorem Touch.mono {F G : List Nat} {w w' : World} (h : Touch F w w') (hs : ∀ k, k ∈ F → k ∈ G) : Touch G w w' := ⟨h.os, h.tape, h.output, h.size, fun k hk hn => h.block k hk (fun e => hn (hs k e))⟩
theorem Touch.trans {F G : List Nat} {a b c : World} (h : Touch F a b) (k : Touch G b c) (hs : ∀ i, i ∈ G → i ∈ F ∨ a.heap.size ≤ i) : Touch F a c :=
 ⟨k.os.trans h.os, k.tape.trans h.tape, k.output.trans h.output, Nat.le_trans h.size k.size, fun i hi hn =>
  (k.block i (Nat.lt_of_lt_of_le hi h.size) (fun e => (hs i e).elim hn (fun e' => by omega))).trans (h.block i hi hn)⟩
theorem Touch.trans' {F : List Nat} {a b c : World} (h : Touch F a b) (k : Touch F b c) : Touch F a c := h.trans k (fun _ e => Or.inl e)
theorem Touch.alloc {F : List Nat} {a b : World} (h : Touch F a b) (o : Obj) : Touch F a (b.alloc o) :=
 h.trans' ⟨rfl, rfl, rfl, by simp, fun k hk _ => Below.heap_alloc _ _ _ hk⟩
theorem Touch.setCell {F : List Nat} {a b : World} (h : Touch F a b) {p : Addr} (hp : p.block ∈ F ∨ a.heap.size ≤ p.block) (v : Value) : Touch F a (b.setCell p v) :=
 h.trans (G := [p.block]) ⟨rfl, rfl, rfl, by simp [World.setCell], fun k hk hn => Below.heap_setCell _ _ _ _ (by simpa using hn)⟩ (fun i hi => by simp only [List.mem_singleton] at hi; subst hi; exact hp)
theorem Touch.grown {F : List Nat} {a b c : World} {row : Option Nat} (h : Touch F a b) (hg : b.grownBy c row) (hr : ∀ k, row = some k → k ∈ F ∨ a.heap.size ≤ k) : Touch F a c :=
 ⟨hg.os.trans h.os, hg.tape.trans h.tape, hg.output.trans h.output, Nat.le_trans h.size hg.size, fun i hi hn => (hg.block i (Nat.lt_of_lt_of_le hi h.size) (fun e => (hr i e.symm).elim hn (fun e' => by omega))).trans (h.block i hi hn)⟩
theorem Touch.drewN {F : List Nat} {a b : World} (h : Touch F a b) (n : Nat) : Touch F a (b.drewN n) := ⟨h.os, h.tape, h.output, h.size, h.block⟩
theorem Touch.drew {F : List Nat} {a b : World} (h : Touch F a b) : Touch F a b.drew := ⟨h.os, h.tape, h.output, h.size, h.block⟩
theorem Touch.below {a b : World} {B : Nat} {F : List Nat} (h : Touch F a b) (hF : ∀ k, k ∈ F → B ≤ k) (hB : B ≤ a.heap.size) : Below B a b :=
 ⟨h.os, h.tape, h.output, h.size, fun k hk => h.block k (by omega) (fun e => by have := hF k e; omega)⟩
theorem block_lt {w : World} {b : Nat} {o : Obj} (h : w.heap[b]? = some o) : b < w.heap.size := (Array.getElem?_eq_some_iff.1 h).1
theorem Touch.keep {F : List Nat} {a b : World} (h : Touch F a b) {k : Nat} {o : Obj} (hk : a.heap[k]? = some o) (hn : ¬ k ∈ F) : b.heap[k]? = some o := (h.block k (block_lt hk) hn).trans hk
def W64 (k : Int) : Prop := (Lit.int .i64 k).wf = true
theorem W64.hi {k : Int} (h : W64 k) : k ≤ 9223372036854775807 := by
 simp [W64, Lit.wf, IntKind.min, IntKind.max, IntKind.bits, IntKind.signed] at h; omega
theorem W64.mk {k : Int} (h : -9223372036854775808 ≤ k) (h' : k ≤ 9223372036854775807) : W64 k := by
 simp [W64, Lit.wf, IntKind.min, IntKind.max, IntKind.bits, IntKind.signed]; omega
theorem keyed3 : Keyed Tryz.prog 3 := int_keyed Tryz.underlying3
theorem key3 {k : Int} (h : W64 k) : keyOf Tryz.prog 3 (.int .i64 k) = some (.int .i64 k) := keyOf_int_mk Tryz.underlying3 h
def HR (v : Value) : Option (DataW Value × List MemPlace) := some (.held v, [])
def MapAt (w : World) (b n : Nat) (f : Int → Option Value) : Prop :=
 ∃ D : DataW Value, w.ownsMap Tryz.prog 3 HR b n D ∧ Maps.size D = n ∧ ∀ k, W64 k → Maps.has D (.int .i64 k) = (f k).isSome ∧ ∀ z, D.atKey (.int .i64 k) (.held z) = .held ((f k).getD z)
theorem MapAt.kept {w w' : World} {b n : Nat} {f : Int → Option Value} (h : MapAt w b n f) (hk : w'.heap[b]? = w.heap[b]?) : MapAt w' b n f := by
 obtain ⟨D, ⟨es, cl, hb, r⟩, h2, h3⟩ := h
 exact ⟨D, ⟨es, cl, hk.trans hb, r⟩, h2, h3⟩
theorem MapAt.lt {w : World} {b n : Nat} {f : Int → Option Value} (h : MapAt w b n f) : b < w.heap.size := by
 obtain ⟨D, h1, _⟩ := h
 exact h1.lt
theorem MapAt.congr {w : World} {b n : Nat} {f g : Int → Option Value} (h : MapAt w b n f) (hf : ∀ k, W64 k → f k = g k) : MapAt w b n g := by
 obtain ⟨D, h1, h2, h3⟩ := h
 exact ⟨D, h1, h2, fun k hk => by rw [← hf k hk]; exact h3 k hk⟩
theorem mapAt_made (w : World) : MapAt (w.alloc (.map #[] 0)) w.heap.size 0 (fun _ => none) :=
 ⟨.map [], World.ownsMap_made _ _ _ _, rfl, fun k hk => ⟨by simp [Maps.has_eq], fun z => by simp [DataW.atKey]⟩⟩
theorem lit_ne {a b : Int} (h : a ≠ b) : (Lit.int .i64 a) ≠ (Lit.int .i64 b) := fun e => h (by injection e)
theorem IsKey64 {k : Int} (h : W64 k) : WideAt.IsKeyLit (.int .i64 k) := keyed3.key (key3 h)
theorem zero3 (w : World) : (zeroValue 3).run Tryz.prog w = .ok (.int .i64 0) w := by kernel_rfl
section
variable {w : World} {b n : Nat} {f : Int → Option Value} {t e : TypeId}
theorem MapAt.lookOk (h : MapAt w b n f) (ht : Tryz.prog.underlying t = some (.map 3 e)) {z : Value} (hz : (zeroValue e).run Tryz.prog w = .ok z w) {k : Int} (hk : W64 k) :
  (Instr.lookup t (.map (some b)) (.int .i64 k) true).run Tryz.prog w = .ok (.tuple #[(f k).getD z, .bool (f k).isSome]) w := by
 obtain ⟨D, h1, h2, h3⟩ := h
 obtain ⟨v, ps, hr, hv⟩ := h1.look_ok keyed3 ht hz (zd := .held z) (zp := []) rfl (key3 hk)
 rw [(h3 k hk).2 z] at hv
 simp only [HR, Option.some.injEq, Prod.mk.injEq, DataW.held.injEq] at hv
 rw [hr, hv.1, (h3 k hk).1]
theorem MapAt.len (h : MapAt w b n f) (ht : Tryz.prog.underlying t = some (.map 3 e)) (ty : TypeId) : (Builtin.len_ #[t] ty #[.map (some b)]).run Tryz.prog w = .ok (.int .i64 n) w := by
 obtain ⟨D, h1, h2, h3⟩ := h
 rw [h1.len ht ty, h2]
def upd (f : Int → Option Value) (k : Int) (v : Value) : Int → Option Value := fun j => if j = k then some v else f j
theorem MapAt.set (h : MapAt w b n f) (ht : Tryz.prog.underlying t = some (.map 3 e)) (hn : n < maxLen) {k : Int} (hk : W64 k) (v : Value) :
  ∃ o, (Instr.mapUpdate t (.map (some b)) (.int .i64 k) v).run Tryz.prog w = .ok () (setBlock w b o) ∧ MapAt (setBlock w b o) b (if (f k).isSome then n else n + 1) (upd f k v) := by
 obtain ⟨D, h1, h2, h3⟩ := h
 obtain ⟨w', hr, h4, es, cl, es', cl', hb, rfl⟩ := h1.store keyed3 ht hn (key3 hk) (show HR v = some (.held v, []) from rfl)
 have hT := h1.tidy keyed3
 have hs : Maps.size (D.put (.int .i64 k) (.held v)) = if (f k).isSome then n else n + 1 := by
  rw [size_put hT, (h3 k hk).1, h2]
 refine ⟨_, hr, D.put (.int .i64 k) (.held v), ?_, hs, fun j hj => ?_⟩
 ·obtain ⟨es1, cl1, hb1, F1, hs1, hD1⟩ := h4
  refine ⟨es1, cl1, hb1, F1, ?_, hD1⟩
  have e1 : Maps.size (DataW.map ((es1.toList.map (WideElems.rg Tryz.prog 3 HR)).foldr DataW.insert [])) = es1.size := by simp [Maps.size, length_sorted]
  rw [← hD1, hs] at e1
  omega
 ·by_cases hjk : j = k
  ·subst hjk
   refine ⟨by rw [has_put_same hT.isMap (IsKey64 hj)]; simp [upd], fun z => ?_⟩
   rw [atKey_put_same hT.isMap (IsKey64 hj)]
   simp [upd]
  ·refine ⟨by rw [has_put_other (lit_ne hjk), (h3 j hj).1]; simp [upd, hjk], fun z => ?_⟩
   rw [atKey_put_other (lit_ne hjk), (h3 j hj).2]
   simp [upd, hjk]
end
section
variable (w : World) {ops : Array Oper} {rest : List Oper} {o : Oper} {a : Act} {Q : Exit → Act → World → Prop}
end
theorem setBlock_other (w : World) (b : Nat) (o : Obj) {k : Nat} (h : k ≠ b) : (setBlock w b o).heap[k]? = w.heap[k]? := by
 simp only [setBlock, Array.getElem?_setIfInBounds]
 rw [if_neg (fun e => h e.symm)]
theorem touch_setBlock {F : List Nat} {a w : World} (h : Touch F a w) {b : Nat} (hb : b ∈ F ∨ a.heap.size ≤ b) (o : Obj) : Touch F a (setBlock w b o) :=
 h.trans (G := [b]) ⟨rfl, rfl, rfl, by simp [setBlock], fun k hk hn => setBlock_other _ _ _ (by simpa using hn)⟩ (fun i hi => by simp only [List.mem_singleton] at hi; subst hi; exact hb)
theorem cell_setBlock {w : World} {b : Nat} (o : Obj) {a : Addr} (h : a.block ≠ b) : (setBlock w b o).cell? a = w.cell? a := by simp [World.cell?, setBlock_other w b o h]
end Go.Proofs.YtllchnancjgijaaGreat
/- Rows that a call owns: reading and writing a cell; what a step may add to a footprint. -/
namespace Go.Proofs.YtllchnancjgijaaGreat
open Go.RowKit Go.Maps Go.ChangeMaps
theorem own_block {w : World} {base e g c n k : Nat} {xs : List Value} (h : w.ownsRow base e k (.slice (some ⟨g, 0, none⟩) n c) n xs) :
  ∃ cur, w.heap[g]? = some (.cells cur e (0, 0)) ∧ n ≤ c ∧ c ≤ maxLen ∧ cur.size = c * k ∧ cur.toList.take (n * k) = xs ∧ base ≤ g ∧ xs.length = n * k := by
 obtain ⟨h1, h2 | ⟨g', cap', cur, hv, hg, hc, hn, hm, hs, ht⟩⟩ := h
 ·cases h2.1
 ·simp only [Value.slice.injEq, Option.some.injEq, Addr.mk.injEq, and_true, true_and] at hv
  obtain ⟨rfl, rfl⟩ := hv
  exact ⟨cur, hc, hn, hm, hs, ht, hg, h1⟩
theorem own_cell {w : World} {base e g c n k : Nat} {xs : List Value} (h : w.ownsRow base e k (.slice (some ⟨g, 0, none⟩) n c) n xs) {p : Nat} {v : Value} (hp : xs[p]? = some v) :
  w.cell? ⟨g, p, none⟩ = some v := by
 obtain ⟨cur, hc, hn, hm, hs, ht, hg, hl⟩ := own_block h
 have hp' : p < xs.length := (List.getElem?_eq_some_iff.1 hp).1
 have : cur[p]? = some v := by
  rw [← Array.getElem?_toList, ← hp, ← ht, List.getElem?_take, if_pos (by omega)]
 simp [World.cell?, hc, this]
theorem own_keep {w w' : World} {base e n k : Nat} {v : Value} {xs : List Value} (h : w.ownsRow base e k v n xs) (hk : ∀ b, v.ownBlock = some b → w'.heap[b]? = w.heap[b]?) : w'.ownsRow base e k v n xs := by
 obtain ⟨h1, h2 | ⟨g, cap, cur, rfl, hg, hc, r⟩⟩ := h
 ·exact ⟨h1, Or.inl h2⟩
 ·exact ⟨h1, Or.inr ⟨g, cap, cur, rfl, hg, (hk g rfl).trans hc, r⟩⟩
theorem own_touch {F : List Nat} {w w' : World} {base e n k : Nat} {v : Value} {xs : List Value} (h : w.ownsRow base e k v n xs) (ht : Touch F w w') (hk : ∀ b, v.ownBlock = some b → ¬ b ∈ F) : w'.ownsRow base e k v n xs :=
 own_keep h (fun b hb => ht.block b (h.lt b hb).2 (hk b hb))
theorem own_form {w : World} {base e n k : Nat} {v : Value} {xs : List Value} (h : w.ownsRow base e k v n xs) : ∃ p c, v = .slice p n c := by
 rcases h.2 with ⟨rfl, rfl⟩ | ⟨g, cap, cur, rfl, _⟩
 ·exact ⟨_, _, rfl⟩
 ·exact ⟨_, _, rfl⟩
def PT (q : Nat) : Value := .pointer (some ⟨q, 0, none⟩)
def Nf (w : World) (F G : List Nat) : Prop := ∀ k, k ∈ G → k ∈ F ∨ w.heap.size ≤ k
theorem Nf.refl (w : World) (F : List Nat) : Nf w F F := fun _ h => Or.inl h
theorem Nf.trans {w w1 : World} {F G H : List Nat} (h : Nf w F G) (k : Nf w1 G H) (hz : w.heap.size ≤ w1.heap.size) : Nf w F H := fun i hi => by
 rcases k i hi with e | e
 ·exact h i e
 ·exact Or.inr (Nat.le_trans hz e)
theorem info3 : (Tryz.prog.info? 3).map (fun i => (i.zero, i.size, i.bytes)) = some (some (.int .i64 0), 1, 8) := by kernel_rfl
def ints (xs : List Int) : List Value := xs.map (Value.int .i64)
theorem own_base {w : World} {B B' e k n : Nat} {v : Value} {xs : List Value} (h : w.ownsRow B e k v n xs) (hb : B' ≤ B) : w.ownsRow B' e k v n xs := by
 obtain ⟨h1, h2 | ⟨g', c', cur, e', hg, r⟩⟩ := h
 ·exact ⟨h1, Or.inl h2⟩
 ·exact ⟨h1, Or.inr ⟨g', c', cur, e', Nat.le_trans hb hg, r⟩⟩
theorem own_some {w : World} {base e n k : Nat} {v : Value} {xs : List Value} (h : w.ownsRow base e k v n xs) (hn : 0 < n) : ∃ b c, v = .slice (some ⟨b, 0, none⟩) n c ∧ base ≤ b ∧ b < w.heap.size := by
 rcases h.2 with ⟨_, e0⟩ | ⟨g, cap, cur, rfl, hg, hc, _⟩
 ·omega
 ·exact ⟨g, cap, rfl, hg, block_lt hc⟩
theorem bset {w : World} {g i : Nat} {cs : Array Value} {t : TypeId} {fr : Nat × Nat} (h : w.heap[g]? = some (.cells cs t fr)) (v : Value) : (w.setCell ⟨g, i, none⟩ v).heap[g]? = some (.cells (cs.setIfInBounds i v) t fr) := by
 simp [World.setCell, Array.getElem?_modify, h]
theorem nd_snoc {xs : List Int} {x : Int} (h : xs.Nodup) (hx : ¬ x ∈ xs) : (xs ++ [x]).Nodup := by
 rw [List.nodup_append]
 exact ⟨h, by simp, fun a ha b hb => by simp only [List.mem_singleton] at hb; subst hb; exact fun e => hx (e ▸ ha)⟩
theorem cell_at {w : World} {g j : Nat} {c : Array Value} {t : TypeId} {fr : Nat × Nat} {v : Value} (hb : w.heap[g]? = some (.cells c t fr)) (h : c[j]? = some v) : w.cell? ⟨g, j, none⟩ = some v := by simp [World.cell?, hb, h]
theorem froz_at {w : World} {g : Nat} {c : Array Value} {t : TypeId} (hb : w.heap[g]? = some (.cells c t (0, 0))) (j : Nat) : w.frozen? ⟨g, j, none⟩ = false := by simp [World.frozen?, hb]
def Rd (w : World) (v : Value) (xs : List Int) : Prop := ∃ a c, v = .slice a xs.length c ∧ xs.length ≤ c ∧ c ≤ maxLen ∧ (a = none → c = 0) ∧ (xs = [] ∨ ∃ (b : Nat) (cur : Array Value) (e : Nat) (z : Nat × Nat), a = some ⟨b, 0, none⟩ ∧ w.heap[b]? = some (.cells cur 3 z) ∧ ∀ i (h : i < xs.length), cur[i]? = some (.int .i64 xs[i]))
section
variable {w w' : World} {v : Value} {xs : List Int} {B : Nat}
theorem Rd.of_own (h : w.ownsRow B 3 1 v xs.length (ints xs)) : Rd w v xs := by
 rcases h.2 with ⟨e1, e2⟩ | ⟨g, cap, cur, rfl, hg, hc, hn, hm, hs, ht⟩
 ·have : xs = [] := List.length_eq_zero_iff.1 e2
  subst this
  subst e1
  exact ⟨none, 0, rfl, Nat.le_refl _, Nat.zero_le _, fun _ => rfl, Or.inl rfl⟩
 ·refine ⟨_, cap, rfl, hn, hm, fun e => (by cases e), Or.inr ⟨g, cur, 3, _, rfl, hc, fun i hi => ?_⟩⟩
  have := own_cell h (p := i) (v := .int .i64 xs[i]) (by simp [ints, hi])
  simpa [World.cell?, hc] using this
theorem Rd.keep {F : List Nat} (h : Rd w v xs) (T : Touch F w w') (hF : ∀ b, v.ownBlock = some b → ¬ b ∈ F) : Rd w' v xs := by
 obtain ⟨a, c, rfl, h1, h2, h0, h3⟩ := h
 refine ⟨a, c, rfl, h1, h2, h0, ?_⟩
 rcases h3 with e | ⟨b, cur, e, z, rfl, hb, hc⟩
 ·exact Or.inl e
 ·exact Or.inr ⟨b, cur, e, z, rfl, T.keep hb (hF b rfl), hc⟩
theorem Rd.keep0 (h : Rd w v xs) (T : Touch [] w w') : Rd w' v xs := h.keep T (fun _ _ e => by cases e)
theorem Rd.nil (w : World) : Rd w (.slice none 0 0) [] := ⟨none, 0, rfl, Nat.le_refl _, Nat.zero_le _, fun _ => rfl, Or.inl rfl⟩
theorem Rd.form (h : Rd w v xs) : ∃ a c, v = .slice a xs.length c ∧ xs.length ≤ c ∧ c ≤ maxLen := by
 obtain ⟨a, c, e, h1, h2, _⟩ := h
 exact ⟨a, c, e, h1, h2⟩
theorem Rd.cell {a : Option Addr} {n c i : Nat} (h : Rd w (.slice a n c) xs) (hi : i < xs.length) : ∃ b, a = some ⟨b, 0, none⟩ ∧ w.cell? ⟨b, i, none⟩ = some (.int .i64 xs[i]) := by
 obtain ⟨a', c', e, _, _, _, h3⟩ := h
 simp only [Value.slice.injEq] at e
 obtain ⟨rfl, _, _⟩ := e
 rcases h3 with e | ⟨b, cur, e, z, rfl, hb, hc⟩
 ·subst e; simp at hi
 ·exact ⟨b, rfl, by simp [World.cell?, hb, hc i hi]⟩
end
theorem own_kind {w : World} {base e n k : Nat} {v : Value} {xs : List Value} (h : w.ownsRow base e k v n xs) {b : Nat} (hb : v.ownBlock = some b) : ∃ cs, w.heap[b]? = some (.cells cs e (0, 0)) := by
 obtain ⟨h1, h2 | ⟨g, cap, cur, rfl, hg, hc, hn, r⟩⟩ := h
 ·rw [h2.1] at hb
  cases hb
 ·simp only [Value.ownBlock, Option.some.injEq] at hb
  subst hb
  exact ⟨cur, hc⟩
end Go.Proofs.YtllchnancjgijaaGreat
/- Maps keyed by whatever a program may key them by, as plain functions: what lookups, stores, deletes and the two steps of a compound assignment do; no conditions. -/
namespace Go.Proofs.YtllchnancjgijaaGreat
open Go.RowKit Go.Maps Go.ChangeMaps Go.WideMaps
structure KK (P : Program) (kt : TypeId) (K : Type) where
 ok : K → Prop
 kv : K → Value
 lit : K → Lit
 keyed : Keyed P kt
 key : ∀ {x}, ok x → keyOf P kt (kv x) = some (lit x)
 inj : ∀ {x y}, ok x → ok y → lit x = lit y → x = y
section
variable {P : Program} {kt : TypeId} {K : Type} (c : KK P kt K)
structure Dm (D : DataW Value) (f : K → Option Value) : Prop where
 at_ : ∀ k, c.ok k → Maps.has D (c.lit k) = (f k).isSome ∧ ∀ z, D.atKey (c.lit k) (.held z) = .held ((f k).getD z)
 dom : ∀ l, Maps.has D l = true → ∃ k, c.ok k ∧ l = c.lit k
def MapK (w : World) (b n : Nat) (f : K → Option Value) : Prop := ∃ D : DataW Value, w.ownsMap P kt HR b n D ∧ Maps.size D = n ∧ Dm c D f
def kupd [DecidableEq K] (f : K → Option Value) (k : K) (v : Value) : K → Option Value := fun j => if j = k then some v else f j
def kdel [DecidableEq K] (f : K → Option Value) (k : K) : K → Option Value := fun j => if j = k then none else f j
theorem KK.isKey {x : K} (h : c.ok x) : WideAt.IsKeyLit (c.lit x) := c.keyed.key (c.key h)
theorem KK.ne {x y : K} (hx : c.ok x) (hy : c.ok y) (h : x ≠ y) : c.lit x ≠ c.lit y := fun e => h (c.inj hx hy e)
variable {c} {w w' : World} {b n : Nat} {f g : K → Option Value} {t e : TypeId}
theorem MapK.kept (h : MapK c w b n f) (hk : w'.heap[b]? = w.heap[b]?) : MapK c w' b n f := by
 obtain ⟨D, ⟨es, cl, hb, r⟩, h2, h3⟩ := h
 exact ⟨D, ⟨es, cl, hk.trans hb, r⟩, h2, h3⟩
theorem MapK.kind (h : MapK c w b n f) : ∃ es cl, w.heap[b]? = some (.map es cl) := by
 obtain ⟨D, ⟨es, cl, hb, _⟩, _⟩ := h
 exact ⟨es, cl, hb⟩
theorem MapK.lt (h : MapK c w b n f) : b < w.heap.size := by
 obtain ⟨es, cl, hb⟩ := h.kind
 exact block_lt hb
theorem MapK.keep {F : List Nat} (h : MapK c w b n f) (T : Touch F w w') (hb : ¬ b ∈ F) : MapK c w' b n f := h.kept (T.block b h.lt hb)
theorem MapK.congr (h : MapK c w b n f) (hf : ∀ k, c.ok k → f k = g k) : MapK c w b n g := by
 obtain ⟨D, h1, h2, h3⟩ := h
 exact ⟨D, h1, h2, fun k hk => by rw [← hf k hk]; exact h3.at_ k hk, h3.dom⟩
theorem mapK_made (c : KK P kt K) (w : World) : MapK c (w.alloc (.map #[] 0)) w.heap.size 0 (fun _ => none) :=
 ⟨.map [], World.ownsMap_made _ _ _ _, rfl, fun k hk => ⟨by simp [Maps.has_eq], fun z => by simp [DataW.atKey]⟩, fun l hl => by simp [Maps.has_eq] at hl⟩
theorem MapK.look (h : MapK c w b n f) (ht : P.underlying t = some (.map kt e)) {z : Value} (hz : (zeroValue e).run P w = .ok z w) {k : K} (hk : c.ok k) :
  (Instr.lookup t (.map (some b)) (c.kv k) false).run P w = .ok ((f k).getD z) w := by
 obtain ⟨D, h1, h2, h3⟩ := h
 obtain ⟨v, ps, hr, hv⟩ := h1.lookup c.keyed ht hz (zd := .held z) (zp := []) rfl (c.key hk)
 rw [(h3.at_ k hk).2 z] at hv
 simp only [HR, Option.some.injEq, Prod.mk.injEq, DataW.held.injEq] at hv
 rw [hr, hv.1]
theorem MapK.lookOk (h : MapK c w b n f) (ht : P.underlying t = some (.map kt e)) {z : Value} (hz : (zeroValue e).run P w = .ok z w) {k : K} (hk : c.ok k) :
  (Instr.lookup t (.map (some b)) (c.kv k) true).run P w = .ok (.tuple #[(f k).getD z, .bool (f k).isSome]) w := by
 obtain ⟨D, h1, h2, h3⟩ := h
 obtain ⟨v, ps, hr, hv⟩ := h1.look_ok c.keyed ht hz (zd := .held z) (zp := []) rfl (c.key hk)
 rw [(h3.at_ k hk).2 z] at hv
 simp only [HR, Option.some.injEq, Prod.mk.injEq, DataW.held.injEq] at hv
 rw [hr, hv.1, (h3.at_ k hk).1]
theorem MapK.len (h : MapK c w b n f) (ht : P.underlying t = some (.map kt e)) (ty : TypeId) : (Builtin.len_ #[t] ty #[.map (some b)]).run P w = .ok (.int .i64 n) w := by
 obtain ⟨D, h1, h2, h3⟩ := h
 rw [h1.len ht ty, h2]
theorem look_nil (c : KK P kt K) (ht : P.underlying t = some (.map kt e)) {z : Value} (hz : (zeroValue e).run P w = .ok z w) {k : K} (hk : c.ok k) :
  (Instr.lookup t (.map none) (c.kv k) false).run P w = .ok z w := Maps.look_nil false c.keyed ht hz (c.key hk)
theorem own_tight {D : DataW Value} {m : Nat} (h : w.ownsMap P kt HR b m D) : w.ownsMap P kt HR b (Maps.size D) D := by
 obtain ⟨es1, cl1, hb1, F1, hs1, hD1⟩ := h
 refine ⟨es1, cl1, hb1, F1, ?_, hD1⟩
 have e1 : Maps.size (DataW.map ((es1.toList.map (WideElems.rg P kt HR)).foldr DataW.insert [])) = es1.size := by simp [Maps.size, length_sorted]
 rw [← hD1] at e1
 omega
theorem Dm.put [DecidableEq K] {D : DataW Value} (h : Dm c D f) (hT : Tidy D) {k : K} (hk : c.ok k) (v : Value) : Dm c (D.put (c.lit k) (.held v)) (kupd f k v) := by
 refine ⟨fun j hj => ?_, fun l hl => ?_⟩
 ·by_cases hjk : j = k
  ·subst hjk
   refine ⟨by rw [has_put_same hT.isMap (c.isKey hj)]; simp [kupd], fun z => ?_⟩
   rw [atKey_put_same hT.isMap (c.isKey hj)]
   simp [kupd]
  ·refine ⟨by rw [has_put_other (c.ne hj hk hjk), (h.at_ j hj).1]; simp [kupd, hjk], fun z => ?_⟩
   rw [atKey_put_other (c.ne hj hk hjk), (h.at_ j hj).2]
   simp [kupd, hjk]
 ·by_cases e : l = c.lit k
  ·exact ⟨k, hk, e⟩
  ·rw [has_put_other e] at hl
   exact h.dom l hl
theorem Dm.del [DecidableEq K] {D : DataW Value} (h : Dm c D f) {k : K} (hk : c.ok k) : Dm c (D.del (c.lit k)) (kdel f k) := by
 refine ⟨fun j hj => ?_, fun l hl => ?_⟩
 ·by_cases hjk : j = k
  ·subst hjk
   refine ⟨by rw [has_del_same]; simp [kdel], fun z => ?_⟩
   rw [atKey_del_same]
   simp [kdel]
  ·refine ⟨by rw [has_del_other (c.ne hj hk hjk), (h.at_ j hj).1]; simp [kdel, hjk], fun z => ?_⟩
   rw [atKey_del_other (c.ne hj hk hjk), (h.at_ j hj).2]
   simp [kdel, hjk]
 ·by_cases e : l = c.lit k
  ·rw [e, has_del_same] at hl; cases hl
  ·rw [has_del_other e] at hl
   exact h.dom l hl
theorem MapK.set [DecidableEq K] (h : MapK c w b n f) (ht : P.underlying t = some (.map kt e)) (hn : n < maxLen) {k : K} (hk : c.ok k) (v : Value) :
  ∃ o, (Instr.mapUpdate t (.map (some b)) (c.kv k) v).run P w = .ok () (setBlock w b o) ∧ MapK c (setBlock w b o) b (if (f k).isSome then n else n + 1) (kupd f k v) := by
 obtain ⟨D, h1, h2, h3⟩ := h
 obtain ⟨w', hr, h4, es, cl, es', cl', hb, rfl⟩ := h1.store c.keyed ht hn (c.key hk) (show HR v = some (.held v, []) from rfl)
 have hT := h1.tidy c.keyed
 have hs : Maps.size (D.put (c.lit k) (.held v)) = if (f k).isSome then n else n + 1 := by
  rw [size_put hT, (h3.at_ k hk).1, h2]
 exact ⟨_, hr, D.put (c.lit k) (.held v), hs ▸ own_tight h4, hs, h3.put hT hk v⟩
theorem MapK.del [DecidableEq K] (h : MapK c w b n f) (ht : P.underlying t = some (.map kt e)) {k : K} (hk : c.ok k) (ty : TypeId) :
  ∃ o, (Builtin.delete_ #[t, kt] ty #[.map (some b), c.kv k]).run P w = .ok (.tuple #[]) (setBlock w b o) ∧ MapK c (setBlock w b o) b (if (f k).isSome then n - 1 else n) (kdel f k) := by
 obtain ⟨D, h1, h2, h3⟩ := h
 obtain ⟨w', hr, h4, es, cl, es', cl', hb, rfl⟩ := h1.drop c.keyed ht (c.key hk) ty
 have hT := h1.tidy c.keyed
 have hs : Maps.size (D.del (c.lit k)) = if (f k).isSome then n - 1 else n := by
  have := size_del hT (k := c.lit k)
  rw [(h3.at_ k hk).1, h2] at this
  split at this <;> simp_all <;> omega
 exact ⟨_, hr, D.del (c.lit k), hs ▸ own_tight h4, hs, h3.del hk⟩
theorem idx_born {l : List MapEntry} : ∀ {j : Nat} {x : MapEntry}, (l.map (·.born)).Nodup → l[j]? = some x → l.findIdx? (fun e => ((e.born : Nat) : Int) == ((x.born : Nat) : Int)) = some j := by
 intro j x hn h
 exact WideElems.findIdx_born hn h
theorem MapK.entry [DecidableEq K] (h : MapK c w b n f) (ht : P.underlying t = some (.map kt e)) (hn : n < maxLen) {z : Value} (hz : ∀ u : World, (zeroValue e).run P u = .ok z u) {k : K} (hk : c.ok k) :
  ∃ (st : Nat) (o : Obj), (Instr.mapEntry t (.map (some b)) (c.kv k)).run P w = .ok (.tuple #[(f k).getD z, .int .i64 (st : Nat)]) (setBlock w b o) ∧ MapK c (setBlock w b o) b (if (f k).isSome then n else n + 1) (kupd f k ((f k).getD z)) ∧
   ∀ (w2 : World) (v : Value), w2.heap[b]? = some o → ∃ o2, (Instr.entryStore t (.map (some b)) (.int .i64 (st : Nat)) v).run P w2 = .ok () (setBlock w2 b o2) ∧ MapK c (setBlock w2 b o2) b (if (f k).isSome then n else n + 1) (kupd f k v) := by
 have hset := fun v => h.set ht hn hk v
 have hlook := h.look ht (hz w) hk
 obtain ⟨D, ⟨es, cl, hb, F, hs, hD⟩, h2, h3⟩ := h
 have hlt := block_lt hb
 obtain ⟨s1, s2, _⟩ := F.stamped
 have fin : ∀ (w2 : World) (v : Value) (es' : Array MapEntry) (cl' : Nat), b < w2.heap.size → (Instr.mapUpdate t (.map (some b)) (c.kv k) v).run P w = .ok () (setBlock w b (.map es' cl')) → MapK c (setBlock w2 b (.map es' cl')) b (if (f k).isSome then n else n + 1) (kupd f k v) := fun w2 v es' cl' hlt2 hr => by
  obtain ⟨o, hr', hm⟩ := hset v
  rw [hr] at hr'
  simp only [Result.ok.injEq, true_and] at hr'
  rw [← hr'] at hm
  refine hm.kept ?_
  simp only [setBlock, Array.getElem?_setIfInBounds, if_true, hlt, hlt2]
 rcases c.keyed.find w (c.key hk) es.toList F.keys with ⟨q1, q2⟩ | ⟨j, x, q1, q2, q3⟩
 ·have hup : ∀ v, (Instr.mapUpdate t (.map (some b)) (c.kv k) v).run P w = .ok () (setBlock w b (.map (es.push ⟨c.kv k, v, cl⟩) (cl + 1))) := fun v => by
   simp [Instr.mapUpdate, run_underlying ht, MapKept.run_getObj_map hb, c.keyed.check w false (c.key hk), q1, MapKept.run_setObj_map _ hb, Result.andThen, setBlock]
  have ez : (f k).getD z = z := by
   have hl : (Instr.lookup t (.map (some b)) (c.kv k) false).run P w = .ok z w := by
    simp [Instr.lookup, run_underlying ht, MapKept.run_getObj_map hb, c.keyed.check w _ (c.key hk), q1, hz, Result.andThen]
   rw [hl] at hlook
   simp only [Result.ok.injEq, and_true] at hlook
   exact hlook.symm
  rw [ez]
  refine ⟨cl, .map (es.push ⟨c.kv k, z, cl⟩) (cl + 1), by simp [Instr.mapEntry, run_underlying ht, MapKept.run_getObj_map hb, c.keyed.check w false (c.key hk), q1, hz, MapKept.run_setObj_map _ hb, Result.andThen, setBlock, goInt], fin w z _ _ hlt (hup z), fun w2 v hw2 => ⟨.map (es.push ⟨c.kv k, v, cl⟩) (cl + 1), ?_, fin w2 v _ _ (block_lt hw2) (hup v)⟩⟩
  have hi : (es.push ⟨c.kv k, z, cl⟩).findIdx? (fun e => ((e.born : Nat) : Int) == ((cl : Nat) : Int)) = some es.size := by
   rw [WideElems.findIdx_arr]
   refine idx_born (x := ⟨c.kv k, z, cl⟩) ?_ (by simp)
   simp only [Array.toList_push, List.map_append, List.map_cons, List.map_nil]
   refine List.nodup_append.2 ⟨s2, by simp, fun a ha d hd e1 => ?_⟩
   simp only [List.mem_singleton] at hd
   obtain ⟨y, hy, rfl⟩ := List.mem_map.1 ha
   have := s1 y hy
   omega
  have hm : (es.push ⟨c.kv k, z, cl⟩).modify es.size (fun e => { e with val := v }) = es.push ⟨c.kv k, v, cl⟩ := by
   apply Array.ext'
   rw [Array.toList_modify, Array.toList_push, Array.toList_push, ← Array.length_toList, WideElems.modify_last]
  simp [Instr.entryStore, MapKept.run_getObj_map hw2, asInt, asIntOf, goInt, hi, hm, MapKept.run_setObj_map _ hw2, Result.andThen, setBlock]
 ·have hj : es[j]? = some x := by simpa using q2
  have hsame : es.modify j (fun e => { e with key := c.kv k }) = es := by
   apply Array.ext'
   rw [Array.toList_modify, ChangeMaps.modify_eq_set _ _ _ _ q2, show ({ x with key := c.kv k } : MapEntry) = x by rw [← q3]]
   exact WideElems.set_self _ _ _ q2
  have hup : ∀ v, (Instr.mapUpdate t (.map (some b)) (c.kv k) v).run P w = .ok () (setBlock w b (.map (es.modify j (fun e' => { e' with key := c.kv k, val := v })) cl)) := fun v => by
   simp [Instr.mapUpdate, run_underlying ht, MapKept.run_getObj_map hb, c.keyed.check w false (c.key hk), q1, hj, q3, c.keyed.stays w (c.key hk), MapKept.run_setObj_map _ hb, Result.andThen, setBlock]
  have hself : es.modify j (fun e' => { e' with key := c.kv k, val := x.val }) = es := by
   apply Array.ext'
   rw [Array.toList_modify, ChangeMaps.modify_eq_set _ _ _ _ q2, show ({ x with key := c.kv k, val := x.val } : MapEntry) = x by rw [← q3]]
   exact WideElems.set_self _ _ _ q2
  have ez : (f k).getD z = x.val := by
   have hl : (Instr.lookup t (.map (some b)) (c.kv k) false).run P w = .ok x.val w := by
    simp [Instr.lookup, run_underlying ht, MapKept.run_getObj_map hb, c.keyed.check w _ (c.key hk), q1, hz, Result.andThen]
   rw [hl] at hlook
   simp only [Result.ok.injEq, and_true] at hlook
   exact hlook.symm
  rw [ez]
  have hfs := fin w x.val _ _ hlt (hup x.val)
  rw [hself] at hfs
  refine ⟨x.born, .map es cl, ?_, hfs, fun w2 v hw2 => ⟨.map (es.modify j (fun e' => { e' with key := c.kv k, val := v })) cl, ?_, fin w2 v _ _ (block_lt hw2) (hup v)⟩⟩
  ·simp [Instr.mapEntry, run_underlying ht, MapKept.run_getObj_map hb, c.keyed.check w false (c.key hk), q1, hj, q3, c.keyed.stays w (c.key hk), hsame, MapKept.run_setObj_map _ hb, Result.andThen, setBlock, goInt]
  ·have hi : es.findIdx? (fun e => ((e.born : Nat) : Int) == ((x.born : Nat) : Int)) = some j := by
    rw [WideElems.findIdx_arr]
    exact idx_born s2 q2
   have hm : es.modify j (fun e => { e with val := v }) = es.modify j (fun e' => { e' with key := c.kv k, val := v }) := by
    apply Array.ext'
    rw [Array.toList_modify, Array.toList_modify, ChangeMaps.modify_eq_set _ _ _ _ q2, ChangeMaps.modify_eq_set _ _ _ _ q2, ← q3]
   simp [Instr.entryStore, MapKept.run_getObj_map hw2, asInt, asIntOf, goInt, hi, hm, MapKept.run_setObj_map _ hw2, Result.andThen, setBlock]
end
section
variable {kt : TypeId} {K : Type} {c : KK Tryz.prog kt K} (w : World) {ops : Array Oper} {rest : List Oper} {o : Oper} {a : Act} {Q : Exit → Act → World → Prop}
theorem wpList_kset [DecidableEq K] (hg : o.guard = none) (m x y : Operand) (t : TypeId) (hop : o.op = Op.mapUpdate t m x y)
  (e : TypeId) (ht : Tryz.prog.underlying t = some (.map kt e)) (b n : Nat) (f : K → Option Value) (hm : a.eval m = .map (some b)) (hown : MapK c w b n f) (hn : n < maxLen)
  (k : K) (hx : a.eval x = c.kv k) (hk : c.ok k) (v : Value) (hy : a.eval y = v)
  (hK : ∀ ob, MapK c (setBlock w b ob) b (if (f k).isSome then n else n + 1) (kupd f k v) → wpList Tryz.prog ops Q rest (a.put o.dst undef) (setBlock w b ob)) : wpList Tryz.prog ops Q (o :: rest) a w := by
 refine wpList_plain hg fun K' hK' => ?_
 obtain ⟨ob, hrun, h2⟩ := hown.set ht hn hk v
 unfold Oper.wp
 simp [execOp, hop, hm, hx, hy, hrun, Result.andThen]
 exact hK' _ _ (hK ob h2)
end
def KI : KK Tryz.prog 3 Int := ⟨W64, fun k => .int .i64 k, fun k => .int .i64 k, keyed3, key3, fun _ _ e => by injection e⟩
abbrev K := Int × ByteArray
def Ok (x : K) : Prop := (Lit.int .u16 x.1).wf = true ∧ x.2.size ≤ maxLen
def kv (x : K) : Value := .agg #[.int .u16 x.1, .string x.2]
def datK (x : K) : DataW Unit := .agg [.lit (.int .u16 x.1), .lit (.string x.2.data.toList)]
def klit (x : K) : Lit := (datK x).asKey
theorem cellsK : Tryz.prog.cellsOf 35 = 2 := by kernel_rfl
theorem shut_key {H : Type} {enc : TypeId × Value → H} {W : World} {base : Nat} {sp : Nat → Bool} {held : Bool} {a : Int} {s : ByteArray} (wa : (Lit.int .u16 a).wf = true) (ws : s.size ≤ maxLen) :
  DataW.Trod enc Tryz.prog W base sp held 35 (.agg #[.int .u16 a, .string s]) (.agg [.lit (.int .u16 a), .lit (.string s.data.toList)]) [] :=
 Joins.shut_agg2 (y0 := (.lit (.int .u16 a), [])) (y1 := (.lit (.string s.data.toList), [])) Tryz.underlying35 (by kernel_rfl) cellsK ⟨1, by simp [DataW.trod, Tryz.underlying33, wa]⟩ ⟨1, by simp [DataW.trod, Tryz.underlying9, ws]⟩
theorem wideK : (match Tryz.prog.underlying 35 with | some (.array _ _) | some (.struct _) => true | _ => false) = true := by kernel_rfl
theorem deepK : Tryz.prog.keyTypeAt (Tryz.prog.types.size + 1) 35 = true := by kernel_rfl
theorem formedK (a : Int) (s : ByteArray) : (Value.agg #[.int .u16 a, .string s]).formed Tryz.prog 35 = true := by
 simp [Value.formed, Tryz.underlying35, cellsK]
set_option maxRecDepth 100000 in
theorem lawK : KeyLaw Tryz.prog 35 := deep_law_laid (by kernel_rfl) (m := 2) (by omega) (of_decide_eq_true (by kernel_rfl)) (by kernel_rfl) wideK
theorem keyedK : Keyed Tryz.prog 35 := Keyed.of_law lawK
set_option maxRecDepth 100000 in
theorem keyK {x : K} (h : Ok x) : keyOf Tryz.prog 35 (kv x) = some (klit x) :=
 (keyOf_asKey (enc := fun _ => ()) (w := default) (base := 0) (sp := fun _ => true) (held := true) deepK wideK (formedK _ _) (shut_key h.1 h.2)).1
theorem klit_inj {x y : K} (hx : Ok x) (hy : Ok y) (e : klit x = klit y) : x = y := by
 have h1 := keyK hx
 have h2 := keyK hy
 rw [← e] at h2
 have h3 := lawK.inj h1 h2
 simp only [kv, Value.agg.injEq, Array.mk.injEq, List.cons.injEq, Value.int.injEq, Value.string.injEq, and_true, true_and] at h3
 exact Prod.ext h3.1 h3.2
def KC : KK Tryz.prog 35 K := ⟨Ok, kv, klit, keyedK, keyK, klit_inj⟩
end Go.Proofs.YtllchnancjgijaaGreat
/- A region that draws its order and stores nothing: what is read may be taken first, under a condition on the world that every call keeps. No conditions. -/
namespace Go.Proofs.YtllchnancjgijaaGreat
section
variable {P : Program} {ops : Array Oper} {Q : Exit → Act → World → Prop} {md : Region.Mode} {S : World → Prop}
theorem wpH_take {i : Nat} {oi : Oper} {v : Value} {fuel : Nat} {listed : Array Bool} {a : Act} {w : World} (d : Option Tmp) (hi : ops[i]? = some oi) (hd : oi.dst = d)
  (hs : Region.noSelect ops = true) (hf : Region.free md ops listed i = true) (hr : (Region.ready md ops listed).contains i = true)
  (hQ : ∀ c a w, Q (.panic c) (a.put oi.dst v) w → Q (.panic c) a w) (hy : YieldsIf P ops S oi v a) (hS : S w)
  (h : wpAnyH P md ops Q S fuel (listed.setIfInBounds i true) (a.put d v) w) : wpAnyH P md ops Q S (fuel + 1) listed a w :=
 wpAnyH_take hi hs hf hr hQ hy hS (by rw [hd]; exact h)
theorem wpH_call {i : Nat} {o : Oper} {fuel : Nat} {listed : Array Bool} {a : Act} {w : World} (hr : Region.ready md ops listed = [i]) (ho : ops[i]? = some o)
  (h : ∀ K' : Act → World → Prop, Shut (∀ a w, S w → wpAnyH P md ops Q S fuel (listed.setIfInBounds i true) a w → K' a w) → if Region.wanted o (yielded ops a.tmps) = true then Oper.wp P o a w K' Q else K' (a.put o.dst undef) w) : wpAnyH P md ops Q S (fuel + 1) listed a w :=
 wpAnyH_all hr (by simp) (fun j hj => by
  simp only [List.mem_singleton] at hj
  subst hj
  exact wpOp_step ho (fun K' hK => h K' (fun a w hS hW => hK a w ⟨hS, hW⟩)))
theorem wp_region_H {id : Nat} {a : Act} {w : World} (hm : P.follows .mixedOrders = true)
  (h : wpAnyH P .any ops Q S ops.size (Array.replicate ops.size false) a w.drew) : (Code.region id ops true).wp P Q a w := wp_region_held hm h
end
end Go.Proofs.YtllchnancjgijaaGreat
/- A drawn region whose effects may come in several orders: each order that is ready. -/
namespace Go.Proofs.YtllchnancjgijaaGreat
open Go.RowKit Go.Maps Go.ChangeMaps
section
variable {P : Program} {ops : Array Oper} {Q : Exit → Go.Act → World → Prop} {md : Region.Mode} {S : World → Prop}
def AllH (P : Program) (md : Region.Mode) (ops : Array Oper) (Q : Exit → Go.Act → World → Prop) (S : World → Prop) (fuel : Nat) (listed : Array Bool) (a : Go.Act) (w : World) (rs : List Nat) : Prop :=
 ∀ i ∈ rs, wpOp P ops Q i (fun a' w' => S w' ∧ wpAnyH P md ops Q S fuel (listed.setIfInBounds i true) a' w') a w
theorem AllH.nil {fuel : Nat} {listed : Array Bool} {a : Go.Act} {w : World} : AllH P md ops Q S fuel listed a w [] := fun _ h => by cases h
theorem AllH.cons {fuel : Nat} {listed : Array Bool} {a : Go.Act} {w : World} {i : Nat} {o : Oper} {rs : List Nat} (ho : ops[i]? = some o)
  (h : ∀ K' : Go.Act → World → Prop, Shut (∀ a w, S w → wpAnyH P md ops Q S fuel (listed.setIfInBounds i true) a w → K' a w) → if Region.wanted o (yielded ops a.tmps) = true then Oper.wp P o a w K' Q else K' (a.put o.dst undef) w)
  (hs : AllH P md ops Q S fuel listed a w rs) : AllH P md ops Q S fuel listed a w (i :: rs) := fun j hj => by
 rcases List.mem_cons.1 hj with rfl | hj
 ·exact wpOp_step ho (fun K' hK => h K' (fun a w hS hW => hK a w ⟨hS, hW⟩))
 ·exact hs j hj
theorem wpH_ready {rs : List Nat} {fuel : Nat} {listed : Array Bool} {a : Go.Act} {w : World} (hr : Region.ready md ops listed = rs) (hne : rs ≠ [])
  (h : AllH P md ops Q S fuel listed a w rs) : wpAnyH P md ops Q S (fuel + 1) listed a w := wpAnyH_all hr hne h
end
end Go.Proofs.YtllchnancjgijaaGreat
/- Rows of structs that a call owns, as flat lists of cells; slices laid behind them; no conditions. -/
namespace Go.Proofs.YtllchnancjgijaaGreat
open Go.RowKit Go.Maps Go.ChangeMaps
section
variable {X : Type} {f : X → List Value} {k : Nat}
theorem flat_at (hf : ∀ x, (f x).length = k) : ∀ (xs : List X) (i j : Nat) (x : X), xs[i]? = some x → j < k → (xs.flatMap f)[i * k + j]? = (f x)[j]?
 | [], i, j, x, h, hj => by simp at h
 | a :: r, 0, j, x, h, hj => by
  simp at h
  subst h
  rw [List.flatMap_cons, List.getElem?_append_left (by rw [hf]; omega)]
  simp
 | a :: r, i + 1, j, x, h, hj => by
  simp at h
  rw [List.flatMap_cons, List.getElem?_append_right (by rw [hf, Nat.succ_mul]; omega), hf]
  rw [show (i + 1) * k + j - k = i * k + j by rw [Nat.succ_mul]; omega]
  exact flat_at hf r i j x h hj
end
def Rs (t k : Nat) (w : World) (v : Value) (n : Nat) (vs : List Value) : Prop := vs.length = n * k ∧ ∃ a c, v = .slice a n c ∧ n ≤ c ∧ (a = none → c = 0) ∧ (0 < n → ∃ g off, a = some ⟨g, off, none⟩ ∧ ∃ cs z, w.heap[g]? = some (.cells cs t z) ∧ ∀ j u, vs[j]? = some u → cs[off + j]? = some u)
section
variable {t k n : Nat} {w w' : World} {v : Value} {vs : List Value} {B : Nat}
theorem Rs.of_own (h : w.ownsRow B t k v n vs) : Rs t k w v n vs := by
 rcases h with ⟨h1, ⟨e1, e2⟩ | ⟨g, cap, cur, rfl, hg, hc, hn, hm, hs, ht⟩⟩
 ·subst e2
  exact ⟨h1, none, 0, e1, Nat.le_refl _, fun _ => rfl, fun h => absurd h (Nat.lt_irrefl 0)⟩
 ·refine ⟨h1, _, cap, rfl, hn, fun e => (by cases e), fun _ => ⟨g, 0, rfl, cur, _, hc, fun j u hu => ?_⟩⟩
  have hj := (List.getElem?_eq_some_iff.1 hu).1
  rw [Nat.zero_add, ← Array.getElem?_toList, ← hu, ← ht, List.getElem?_take, if_pos (by omega)]
theorem Rs.keep {F : List Nat} (h : Rs t k w v n vs) (T : Touch F w w') (hF : ∀ g off n c, v = .slice (some ⟨g, off, none⟩) n c → ¬ g ∈ F) : Rs t k w' v n vs := by
 obtain ⟨h1, a, c, rfl, h2, h3, h4⟩ := h
 refine ⟨h1, a, c, rfl, h2, h3, fun hp => ?_⟩
 obtain ⟨g, off, rfl, cs, z, h5, h6⟩ := h4 hp
 exact ⟨g, off, rfl, cs, z, T.keep h5 (hF g off n c rfl), h6⟩
theorem Rs.keep0 (h : Rs t k w v n vs) (T : Touch [] w w') : Rs t k w' v n vs := h.keep T (fun _ _ _ _ _ e => by cases e)
theorem Rs.form (h : Rs t k w v n vs) : ∃ a c, v = .slice a n c ∧ n ≤ c := by
 obtain ⟨h1, a, c, e, h2, _⟩ := h
 exact ⟨a, c, e, h2⟩
theorem Rs.cell {a : Option Addr} {c j : Nat} {u : Value} (h : Rs t k w (.slice a n c) n vs) (hu : vs[j]? = some u) (hn : 0 < n) : ∃ g off, a = some ⟨g, off, none⟩ ∧ w.cell? ⟨g, off + j, none⟩ = some u := by
 obtain ⟨h1, a', c', e, h2, h3, h4⟩ := h
 cases e
 obtain ⟨g, off, rfl, cs, z, h5, h6⟩ := h4 hn
 exact ⟨g, off, rfl, by simp [World.cell?, h5, h6 j u hu]⟩
end
section
variable {w : World} {ops : Array Oper} {rest : List Oper} {o : Oper} {a : Act} {Q : Exit → Act → World → Prop}
theorem wpList_append_rs (hgd : o.guard = none) (s x : Operand) (st et : TypeId) (ho : o.op = .call { callee := .builtin .append, args := #[s, x], argTypes := #[st, st] })
  (z : Value) (k bytes : Nat) (hinfo : (Tryz.prog.info? et).map (fun i => (i.zero, i.size, i.bytes)) = some (some z, k, bytes)) (ht : Tryz.prog.underlying st = some (.slice et)) (hzs : z.cells.size = k) (hk : 0 < k)
  (base : Nat) (v : Value) (n : Nat) (xs : List Value) (hs : a.eval s = v) (hown : w.ownsRow base et k v n xs)
  (u : Value) (m : Nat) (vs : List Value) (hx : a.eval x = u) (hu : Rs et k w u m vs) (h1 : ∀ y ∈ vs, y.oneCell' = true) (h63 : n + m ≤ maxLen) (hbytes : (n + m) * bytes ≤ 140737488355328) (hbase : base ≤ w.heap.size)
  (h : ∀ v' w', w'.ownsRow base et k v' (n + m) (xs ++ vs) → w.grownBy w' v.ownBlock → (v'.ownBlock = v.ownBlock ∨ v'.ownBlock = some w.heap.size) → wpList Tryz.prog ops Q rest (a.put o.dst v') w') : wpList Tryz.prog ops Q (o :: rest) a w := by
 obtain ⟨i3, hf, hz0, hz1, hz2⟩ := info_parts hinfo
 obtain ⟨hl, ad, c, rfl, hc, hn0, hr⟩ := hu
 cases ad with
 | none =>
  have e0 := hn0 rfl
  subst e0
  have em : m = 0 := by omega
  subst em
  have ev : vs = [] := List.length_eq_zero_iff.1 (by omega)
  subst ev
  refine wpList_append_own_none hgd s x st ho base et i3 k ht hf v n xs hs hown hx ?_
  exact h v w (by simpa using hown) (World.grownBy.refl _ _) (Or.inl rfl)
 | some ad =>
  refine wpList_append_own_at w hgd s x st ho base et i3 z k bytes ht hf hz0 hz1 hz2 hzs hk v n xs hs hown ad m c vs hx hl (fun j y hy => ?_) h1 h63 hbytes hbase (fun v' w' q1 q2 q3 q4 => h v' w' q1 q2 q4)
  have hm : 0 < m := by
   rcases Nat.eq_zero_or_pos m with e | e
   ·subst e
    have : vs = [] := List.length_eq_zero_iff.1 (by omega)
    subst this
    simp at hy
   ·exact e
  obtain ⟨g, off, e, cs, zz, h5, h6⟩ := hr hm
  cases e
  rw [show (⟨g, off, none⟩ : Addr).add j = ⟨g, off + j, none⟩ by simp [Addr.add]]
  simp [World.cell?, h5, h6 j y hy]
end
theorem touch_grown {w0 w w' : World} {v : Value} {B e k n : Nat} {xs : List Value} (t : Touch [] w0 w) (g : w.grownBy w' v.ownBlock) (h : w.ownsRow B e k v n xs) (hB : w0.heap.size ≤ B) : Touch [] w0 w' :=
 t.trans ((Touch.refl v.ownBlock.toList w).grown g (fun q hq => Or.inl (by simp [hq]))) (fun q hq => Or.inr (Nat.le_trans hB (h.lt q (by simpa using hq)).1))
theorem Rs.new (w : World) (cs : Array Value) (t k : Nat) (hs : cs.size = k) : Rs t k (w.alloc (.cells cs t)) (.slice (some ⟨w.heap.size, 0, none⟩) 1 1) 1 cs.toList := by
 refine ⟨by simp [hs], _, _, rfl, Nat.le_refl _, fun e => (by cases e), fun _ => ⟨_, 0, rfl, cs, _, heap_alloc_new w _, fun j u hu => ?_⟩⟩
 rw [Nat.zero_add, ← Array.getElem?_toList]
 exact hu
end Go.Proofs.YtllchnancjgijaaGreat
/- What a call may touch, and maps keyed by keys as plain functions; no conditions. -/
namespace Go.Proofs.YtllchnancjgijaaGreat.Me
open Go.RowKit Go.Sort Go.Maps Go.ChangeMaps Go.WideMaps
theorem cells36 : Tryz.prog.cellsOf 35 = 2 := by kernel_rfl
theorem shut_key {H : Type} {enc : TypeId × Value → H} {W : World} {base : Nat} {sp : Nat → Bool} {held : Bool} {a : Int} {s : ByteArray} (wa : (Lit.int .u16 a).wf = true) (ws : s.size ≤ maxLen) :
  DataW.Trod enc Tryz.prog W base sp held 35 (.agg #[.int .u16 a, .string s]) (.agg [.lit (.int .u16 a), .lit (.string s.data.toList)]) [] :=
 Joins.shut_agg2 (y0 := (.lit (.int .u16 a), [])) (y1 := (.lit (.string s.data.toList), [])) Tryz.underlying35 (by kernel_rfl) cells36 ⟨1, by simp [DataW.trod, Tryz.underlying33, wa]⟩ ⟨1, by simp [DataW.trod, Tryz.underlying9, ws]⟩
theorem wide36 : (match Tryz.prog.underlying 35 with | some (.array _ _) | some (.struct _) => true | _ => false) = true := by kernel_rfl
theorem deep36 : Tryz.prog.keyTypeAt (Tryz.prog.types.size + 1) 35 = true := by kernel_rfl
theorem formed36 (a : Int) (s : ByteArray) : (Value.agg #[.int .u16 a, .string s]).formed Tryz.prog 35 = true := by
 simp [Value.formed, Tryz.underlying35, cells36]
set_option maxRecDepth 100000 in
theorem law36 : KeyLaw Tryz.prog 35 := deep_law_laid (by kernel_rfl) (m := 2) (by omega) (of_decide_eq_true (by kernel_rfl)) (by kernel_rfl) wide36
theorem keyed36 : Keyed Tryz.prog 35 := Keyed.of_law law36
set_option maxRecDepth 100000 in
theorem key36 {x : K} (h : Ok x) : keyOf Tryz.prog 35 (kv x) = some (klit x) :=
 (keyOf_asKey (enc := fun _ => ()) (w := default) (base := 0) (sp := fun _ => true) (held := true) deep36 wide36 (formed36 _ _) (shut_key h.1 h.2)).1
theorem klit_ne {x y : K} (hx : Ok x) (hy : Ok y) (h : x ≠ y) : klit x ≠ klit y := fun e => by
 have h1 := key36 hx
 have h2 := key36 hy
 rw [← e] at h2
 have h3 := law36.inj h1 h2
 simp only [kv, Value.agg.injEq, Array.mk.injEq, List.cons.injEq, Value.int.injEq, Value.string.injEq, and_true, true_and] at h3
 exact h (Prod.ext h3.1 h3.2)
theorem klit_key {x : K} (h : Ok x) : WideAt.IsKeyLit (klit x) := keyed36.key (key36 h)
def MapAt (w : World) (b n : Nat) (f : K → Option Value) : Prop :=
 ∃ D : DataW Value, w.ownsMap Tryz.prog 35 HR b n D ∧ Maps.size D = n ∧ ∀ k, Ok k → Maps.has D (klit k) = (f k).isSome ∧ ∀ z, D.atKey (klit k) (.held z) = .held ((f k).getD z)
theorem MapAt.kept {w w' : World} {b n : Nat} {f : K → Option Value} (h : MapAt w b n f) (hk : w'.heap[b]? = w.heap[b]?) : MapAt w' b n f := by
 obtain ⟨D, ⟨es, cl, hb, r⟩, h2, h3⟩ := h
 exact ⟨D, ⟨es, cl, hk.trans hb, r⟩, h2, h3⟩
theorem MapAt.lt {w : World} {b n : Nat} {f : K → Option Value} (h : MapAt w b n f) : b < w.heap.size := by
 obtain ⟨D, h1, _⟩ := h
 exact h1.lt
theorem MapAt.congr {w : World} {b n : Nat} {f g : K → Option Value} (h : MapAt w b n f) (hf : ∀ k, Ok k → f k = g k) : MapAt w b n g := by
 obtain ⟨D, h1, h2, h3⟩ := h
 exact ⟨D, h1, h2, fun k hk => by rw [← hf k hk]; exact h3 k hk⟩
theorem mapAt_made (w : World) : MapAt (w.alloc (.map #[] 0)) w.heap.size 0 (fun _ => none) :=
 ⟨.map [], World.ownsMap_made _ _ _ _, rfl, fun k hk => ⟨by simp [Maps.has_eq], fun z => by simp [DataW.atKey]⟩⟩
section
variable {w : World} {b n : Nat} {f : K → Option Value} {t e : TypeId}
theorem MapAt.look (h : MapAt w b n f) (ht : Tryz.prog.underlying t = some (.map 35 e)) {z : Value} (hz : (zeroValue e).run Tryz.prog w = .ok z w) {k : K} (hk : Ok k) :
  (Instr.lookup t (.map (some b)) (kv k) false).run Tryz.prog w = .ok ((f k).getD z) w := by
 obtain ⟨D, h1, h2, h3⟩ := h
 obtain ⟨v, ps, hr, hv⟩ := h1.lookup keyed36 ht hz (zd := .held z) (zp := []) rfl (key36 hk)
 rw [(h3 k hk).2 z] at hv
 simp only [HR, Option.some.injEq, Prod.mk.injEq, DataW.held.injEq] at hv
 rw [hr, hv.1]
theorem MapAt.lookOk (h : MapAt w b n f) (ht : Tryz.prog.underlying t = some (.map 35 e)) {z : Value} (hz : (zeroValue e).run Tryz.prog w = .ok z w) {k : K} (hk : Ok k) :
  (Instr.lookup t (.map (some b)) (kv k) true).run Tryz.prog w = .ok (.tuple #[(f k).getD z, .bool (f k).isSome]) w := by
 obtain ⟨D, h1, h2, h3⟩ := h
 obtain ⟨v, ps, hr, hv⟩ := h1.look_ok keyed36 ht hz (zd := .held z) (zp := []) rfl (key36 hk)
 rw [(h3 k hk).2 z] at hv
 simp only [HR, Option.some.injEq, Prod.mk.injEq, DataW.held.injEq] at hv
 rw [hr, hv.1, (h3 k hk).1]
theorem MapAt.len (h : MapAt w b n f) (ht : Tryz.prog.underlying t = some (.map 35 e)) (ty : TypeId) : (Builtin.len_ #[t] ty #[.map (some b)]).run Tryz.prog w = .ok (.int .i64 n) w := by
 obtain ⟨D, h1, h2, h3⟩ := h
 rw [h1.len ht ty, h2]
def upd (f : K → Option Value) (k : K) (v : Value) : K → Option Value := fun j => if j = k then some v else f j
def del (f : K → Option Value) (k : K) : K → Option Value := fun j => if j = k then none else f j
theorem MapAt.set (h : MapAt w b n f) (ht : Tryz.prog.underlying t = some (.map 35 e)) (hn : n < maxLen) {k : K} (hk : Ok k) (v : Value) :
  ∃ o, (Instr.mapUpdate t (.map (some b)) (kv k) v).run Tryz.prog w = .ok () (setBlock w b o) ∧ MapAt (setBlock w b o) b (if (f k).isSome then n else n + 1) (upd f k v) := by
 obtain ⟨D, h1, h2, h3⟩ := h
 obtain ⟨w', hr, h4, es, cl, es', cl', hb, rfl⟩ := h1.store keyed36 ht hn (key36 hk) (show HR v = some (.held v, []) from rfl)
 have hT := h1.tidy keyed36
 have hs : Maps.size (D.put (klit k) (.held v)) = if (f k).isSome then n else n + 1 := by
  rw [size_put hT, (h3 k hk).1, h2]
 refine ⟨_, hr, D.put (klit k) (.held v), ?_, hs, fun j hj => ?_⟩
 ·obtain ⟨es1, cl1, hb1, F1, hs1, hD1⟩ := h4
  refine ⟨es1, cl1, hb1, F1, ?_, hD1⟩
  have e1 : Maps.size (DataW.map ((es1.toList.map (WideElems.rg Tryz.prog 35 HR)).foldr DataW.insert [])) = es1.size := by simp [Maps.size, length_sorted]
  rw [← hD1, hs] at e1
  omega
 ·by_cases hjk : j = k
  ·subst hjk
   refine ⟨by rw [has_put_same hT.isMap (klit_key hj)]; simp [upd], fun z => ?_⟩
   rw [atKey_put_same hT.isMap (klit_key hj)]
   simp [upd]
  ·refine ⟨by rw [has_put_other (klit_ne hj hk hjk), (h3 j hj).1]; simp [upd, hjk], fun z => ?_⟩
   rw [atKey_put_other (klit_ne hj hk hjk), (h3 j hj).2]
   simp [upd, hjk]
theorem MapAt.del (h : MapAt w b n f) (ht : Tryz.prog.underlying t = some (.map 35 e)) {k : K} (hk : Ok k) (ty : TypeId) :
  ∃ o, (Builtin.delete_ #[t, 35] ty #[.map (some b), kv k]).run Tryz.prog w = .ok (.tuple #[]) (setBlock w b o) ∧ MapAt (setBlock w b o) b (if (f k).isSome then n - 1 else n) (YtllchnancjgijaaGreat.Me.del f k) := by
 obtain ⟨D, h1, h2, h3⟩ := h
 obtain ⟨w', hr, h4, es, cl, es', cl', hb, rfl⟩ := h1.drop keyed36 ht (key36 hk) ty
 have hT := h1.tidy keyed36
 have hs : Maps.size (D.del (klit k)) = if (f k).isSome then n - 1 else n := by
  have := size_del hT (k := klit k)
  rw [(h3 k hk).1, h2] at this
  split at this <;> simp_all <;> omega
 refine ⟨_, hr, D.del (klit k), ?_, hs, fun j hj => ?_⟩
 ·obtain ⟨es1, cl1, hb1, F1, hs1, hD1⟩ := h4
  refine ⟨es1, cl1, hb1, F1, ?_, hD1⟩
  have e1 : Maps.size (DataW.map ((es1.toList.map (WideElems.rg Tryz.prog 35 HR)).foldr DataW.insert [])) = es1.size := by simp [Maps.size, length_sorted]
  rw [← hD1, hs] at e1
  omega
 ·by_cases hjk : j = k
  ·subst hjk
   refine ⟨by rw [has_del_same]; simp [YtllchnancjgijaaGreat.Me.del], fun z => ?_⟩
   rw [atKey_del_same]
   simp [YtllchnancjgijaaGreat.Me.del]
  ·refine ⟨by rw [has_del_other (klit_ne hj hk hjk), (h3 j hj).1]; simp [YtllchnancjgijaaGreat.Me.del, hjk], fun z => ?_⟩
   rw [atKey_del_other (klit_ne hj hk hjk), (h3 j hj).2]
   simp [YtllchnancjgijaaGreat.Me.del, hjk]
end
theorem zero61 (w : World) : (zeroValue 227).run Tryz.prog w = .ok (.pointer none) w := by kernel_rfl
theorem eq60 (w : World) (r : Option Nat) : (binOp .eql 226 (.map r) (.map none)).run Tryz.prog w = .ok (.bool r.isNone) w := run_eql_map_nil w _ _ _ r Tryz.underlying226
section
variable (w : World) {ops : Array Oper} {rest : List Oper} {o : Oper} {a : Act} {Q : Exit → Act → World → Prop}
end
end Go.Proofs.YtllchnancjgijaaGreat.Me
/- A line of places in memory as a plain list: what lies where, a place put behind all others, a place taken out; no conditions but those that each states. -/
namespace Go.Proofs.YtllchnancjgijaaGreat.Me
open Go.RowKit Go.Sort Go.Maps Go.ChangeMaps Go.WideMaps
def PP (p : Option Nat) : Value := .pointer (p.map fun q => ⟨q, 0, none⟩)
def LP (o : Nat) : Value := .pointer (some ⟨o, 2, none⟩)
def Nd (w : World) (p : Nat) (k : K) (a z : Option Nat) : Prop := w.heap[p]? = some (.cells #[.int .u16 k.1, .string k.2, PP a, PP z] 299 (0, 0))
section
variable {w : World} {p : Nat} {k : K} {a z : Option Nat}
theorem Nd.c0 (h : Nd w p k a z) : w.cell? ⟨p, 0, none⟩ = some (.int .u16 k.1) := by unfold Nd at h; simp [World.cell?, h]
theorem Nd.c1 (h : Nd w p k a z) : w.cell? ⟨p, 1, none⟩ = some (.string k.2) := by unfold Nd at h; simp [World.cell?, h]
theorem Nd.c2 (h : Nd w p k a z) : w.cell? ⟨p, 2, none⟩ = some (PP a) := by unfold Nd at h; simp [World.cell?, h]
theorem Nd.c3 (h : Nd w p k a z) : w.cell? ⟨p, 3, none⟩ = some (PP z) := by unfold Nd at h; simp [World.cell?, h]
theorem Nd.fr (h : Nd w p k a z) (i : Nat) : w.frozen? ⟨p, i, none⟩ = false := by unfold Nd at h; simp [World.frozen?, h]
theorem Nd.lt (h : Nd w p k a z) : p < w.heap.size := block_lt h
theorem Nd.set2 (h : Nd w p k a z) (x : Option Nat) : Nd (w.setCell ⟨p, 2, none⟩ (PP x)) p k x z := bset h _
theorem Nd.set3 (h : Nd w p k a z) (x : Option Nat) : Nd (w.setCell ⟨p, 3, none⟩ (PP x)) p k a x := bset h _
theorem Nd.keep {w' : World} (h : Nd w p k a z) (hk : w'.heap[p]? = w.heap[p]?) : Nd w' p k a z := hk.trans h
end
abbrev E := K × Nat
def hd : List E → Option Nat → Option Nat
 | [], z => z
 | e :: _, _ => some e.2
def lst : List E → Option Nat → Option Nat
 | [], a => a
 | e :: l, _ => lst l (some e.2)
def Seg (w : World) : Option Nat → List E → Option Nat → Prop
 | _, [], _ => True
 | a, e :: l, z => Nd w e.2 e.1 a (hd l z) ∧ Seg w (some e.2) l z
theorem hd_append (A B : List E) (z : Option Nat) : hd (A ++ B) z = hd A (hd B z) := by cases A <;> rfl
theorem lst_append : ∀ (A B : List E) (a : Option Nat), lst (A ++ B) a = lst B (lst A a)
 | [], B, a => rfl
 | e :: A, B, a => by simp only [List.cons_append, lst]; exact lst_append A B _
theorem lst_snoc (A : List E) (e : E) (a : Option Nat) : lst (A ++ [e]) a = some e.2 := by rw [lst_append]; rfl
theorem seg_append {w : World} : ∀ (A B : List E) (a z : Option Nat), Seg w a (A ++ B) z ↔ Seg w a A (hd B z) ∧ Seg w (lst A a) B z
 | [], B, a, z => by simp [Seg, lst]
 | e :: A, B, a, z => by
  simp only [List.cons_append, Seg, lst, hd_append]
  rw [seg_append A B (some e.2) z]
  exact ⟨fun h => ⟨⟨h.1, h.2.1⟩, h.2.2⟩, fun h => ⟨h.1.1, h.1.2, h.2⟩⟩
theorem Seg.keep {w w' : World} : ∀ {L : List E} {a z : Option Nat}, Seg w a L z → (∀ e ∈ L, w'.heap[e.2]? = w.heap[e.2]?) → Seg w' a L z
 | [], _, _, _, _ => trivial
 | e :: l, a, z, h, hk => ⟨h.1.keep (hk e (by simp)), Seg.keep h.2 (fun e' he => hk e' (by simp [he]))⟩
theorem Seg.mem {w : World} : ∀ {L : List E} {a z : Option Nat}, Seg w a L z → ∀ e ∈ L, ∃ x y, Nd w e.2 e.1 x y
 | [], _, _, _, e, he => by cases he
 | e :: l, a, z, h, e', he => by
  rcases List.mem_cons.1 he with rfl | he
  ·exact ⟨_, _, h.1⟩
  ·exact Seg.mem h.2 e' he
theorem Seg.next {w : World} {A : List E} {e : E} {a z : Option Nat} (h : Seg w a (A ++ [e]) z) (hn : ∀ e' ∈ A, e'.2 ≠ e.2) (x : Option Nat) : Seg (w.setCell ⟨e.2, 3, none⟩ (PP x)) a (A ++ [e]) x := by
 rw [seg_append] at h ⊢
 exact ⟨Seg.keep h.1 (fun e' he => Below.heap_setCell _ _ _ _ (hn e' he)), h.2.1.set3 x, trivial⟩
theorem Seg.prev {w : World} {B : List E} {e : E} {a z : Option Nat} (h : Seg w a (e :: B) z) (hn : ∀ e' ∈ B, e'.2 ≠ e.2) (x : Option Nat) : Seg (w.setCell ⟨e.2, 2, none⟩ (PP x)) x (e :: B) z :=
 ⟨h.1.set2 x, Seg.keep h.2 (fun e' he => Below.heap_setCell _ _ _ _ (hn e' he))⟩
def OC (w : World) (o : Nat) (most : Int) (m : Option Nat) (f l : Option Nat) : Prop := w.heap[o]? = some (.cells #[.int .i64 most, .map m, PP f, PP l] 231 (0, 0))
section
variable {w : World} {o : Nat} {most : Int} {m f l : Option Nat}
theorem OC.c0 (h : OC w o most m f l) : w.cell? ⟨o, 0, none⟩ = some (.int .i64 most) := by unfold OC at h; simp [World.cell?, h]
theorem OC.c1 (h : OC w o most m f l) : w.cell? ⟨o, 1, none⟩ = some (.map m) := by unfold OC at h; simp [World.cell?, h]
theorem OC.c2 (h : OC w o most m f l) : w.cell? ⟨o, 2, none⟩ = some (PP f) := by unfold OC at h; simp [World.cell?, h]
theorem OC.c3 (h : OC w o most m f l) : w.cell? ⟨o, 3, none⟩ = some (PP l) := by unfold OC at h; simp [World.cell?, h]
theorem OC.fr (h : OC w o most m f l) (i : Nat) : w.frozen? ⟨o, i, none⟩ = false := by unfold OC at h; simp [World.frozen?, h]
theorem OC.lt (h : OC w o most m f l) : o < w.heap.size := block_lt h
theorem OC.set1 (h : OC w o most m f l) (x : Option Nat) : OC (w.setCell ⟨o, 1, none⟩ (.map x)) o most x f l := bset h _
theorem OC.set2 (h : OC w o most m f l) (x : Option Nat) : OC (w.setCell ⟨o, 2, none⟩ (PP x)) o most m x l := bset h _
theorem OC.set3 (h : OC w o most m f l) (x : Option Nat) : OC (w.setCell ⟨o, 3, none⟩ (PP x)) o most m f x := bset h _
theorem OC.keep {w' : World} (h : OC w o most m f l) (hk : w'.heap[o]? = w.heap[o]?) : OC w' o most m f l := hk.trans h
theorem OC.ne {p : Nat} {k : K} {a z : Option Nat} (h : OC w o most m f l) (h' : Nd w p k a z) : o ≠ p := fun e => by
 unfold OC at h; unfold Nd at h'
 rw [e, h'] at h
 simp at h
end
structure Ln (w : World) (o : Nat) (most : Int) (m : Option Nat) (L : List E) : Prop where
 oc : OC w o most m (hd L none) (lst L none)
 sg : Seg w none L none
 nb : (L.map Prod.snd).Nodup
def fpL (o : Nat) (L : List E) : List Nat := o :: L.map Prod.snd
theorem Ln.keep {G : List Nat} {w w' : World} {o : Nat} {most : Int} {m : Option Nat} {L : List E} (h : Ln w o most m L) (ht : Touch G w w') (hn : ∀ k, k ∈ fpL o L → ¬ k ∈ G) : Ln w' o most m L :=
 ⟨h.oc.keep (ht.block o h.oc.lt (hn o (by simp [fpL]))), h.sg.keep (fun e he => by
  obtain ⟨x, y, hx⟩ := h.sg.mem e he
  exact ht.block _ hx.lt (hn _ (by simp only [fpL, List.mem_cons, List.mem_map]; exact Or.inr ⟨e, he, rfl⟩))), h.nb⟩
theorem Ln.heap {w w' : World} {o : Nat} {most : Int} {m : Option Nat} {L : List E} (h : Ln w o most m L) (he : w'.heap = w.heap) : Ln w' o most m L :=
 ⟨h.oc.keep (by rw [he]), h.sg.keep (fun e _ => by rw [he]), h.nb⟩
theorem nb_ne {A B : List E} {e : E} (h : ((A ++ e :: B).map Prod.snd).Nodup) : (∀ e' ∈ A, e'.2 ≠ e.2) ∧ (∀ e' ∈ B, e'.2 ≠ e.2) ∧ (∀ x ∈ A, ∀ y ∈ B, x.2 ≠ y.2) ∧ (A.map Prod.snd).Nodup ∧ (B.map Prod.snd).Nodup := by
 simp only [List.map_append, List.map_cons, List.nodup_append, List.nodup_cons, List.mem_map, List.mem_cons] at h
 obtain ⟨h1, ⟨h2, h3⟩, h4⟩ := h
 refine ⟨fun e' he => h4 _ ⟨e', he, rfl⟩ _ (Or.inl rfl), fun e' he h => h2 ⟨e', he, h⟩, fun x hx y hy => h4 _ ⟨x, hx, rfl⟩ _ (Or.inr ⟨y, hy, rfl⟩), h1, h3⟩
set_option maxHeartbeats 2000000 in
theorem add35_nil (w : World) (o : Nat) (most : Int) (m : Option Nat) (e : E) (a z : Option Nat) (h : Ln w o most m []) (hn : Nd w e.2 e.1 a z) :
  Calls Tryz.prog 176 #[LP o, PT e.2] w fun x w' => x = .returned (.tuple #[]) ∧ Ln w' o most m [e] ∧ Touch (e.2 :: fpL o []) w w' := by
 have hoc : OC w o most m none none := h.oc
 have ne := hoc.ne hn
 have ne' := Ne.symm ne
 have c3 := hoc.c3
 have f2 := hoc.fr 2
 have f3 := hoc.fr 3
 have g2 := hn.fr 2
 have g3 := hn.fr 3
 have n2 := hn.c2
 have n3 := hn.c3
 have c2 := hoc.c2
 have H : Hid (Ln ((((w.setCell ⟨e.2, 2, none⟩ (PP none)).setCell ⟨e.2, 3, none⟩ (PP none)).setCell ⟨o, 2, none⟩ (PP (some e.2))).setCell ⟨o, 3, none⟩ (PP (some e.2))) o most m [e] ∧ Touch (e.2 :: fpL o []) w ((((w.setCell ⟨e.2, 2, none⟩ (PP none)).setCell ⟨e.2, 3, none⟩ (PP none)).setCell ⟨o, 2, none⟩ (PP (some e.2))).setCell ⟨o, 3, none⟩ (PP (some e.2)))) := by
  have h1 := (hn.set2 none).set3 none
  have h2 : OC ((w.setCell ⟨e.2, 2, none⟩ (PP none)).setCell ⟨e.2, 3, none⟩ (PP none)) o most m none none := hoc.keep ((Below.heap_setCell _ _ _ _ ne).trans (Below.heap_setCell _ _ _ _ ne))
  refine ⟨⟨(h2.set2 (some e.2)).set3 (some e.2), ⟨(h1.keep (Below.heap_setCell _ _ _ _ ne')).keep (Below.heap_setCell _ _ _ _ ne'), trivial⟩, by simp⟩, ?_⟩
  exact ((((Touch.refl _ _).setCell (by simp) _).setCell (by simp) _).setCell (by simp [fpL]) _).setCell (by simp [fpL]) _
 clear h hoc hn
 unfold LP PT
 unfold PP at c2 c3 n2 n3 H
 simp only [Option.map_none, Option.map_some] at c2 c3 H
 go_enter Tryz.func176, Tryz.ntmps176
 go_wp2
 go_end0
 exact ⟨rfl, H.out⟩
set_option maxHeartbeats 2000000 in
theorem add35_more (w : World) (o : Nat) (most : Int) (m : Option Nat) (A : List E) (l e : E) (a z : Option Nat) (h : Ln w o most m (A ++ [l])) (hn : Nd w e.2 e.1 a z) (hf : ∀ e' ∈ A ++ [l], e'.2 ≠ e.2) :
  Calls Tryz.prog 176 #[LP o, PT e.2] w fun x w' => x = .returned (.tuple #[]) ∧ Ln w' o most m (A ++ [l] ++ [e]) ∧ Touch (e.2 :: fpL o (A ++ [l])) w w' := by
 have hoc := h.oc
 rw [lst_snoc] at hoc
 have ne := hoc.ne hn
 have ne' := Ne.symm ne
 have hl := ((seg_append _ _ _ _).1 h.sg).2.1
 have nl := hoc.ne hl
 have nl' := Ne.symm nl
 have el : l.2 ≠ e.2 := hf l (by simp)
 have el' := Ne.symm el
 have c3 := hoc.c3
 have f3 := hoc.fr 3
 have g2 := hn.fr 2
 have g3 := hn.fr 3
 have n2 := hn.c2
 have n3 := hn.c3
 have l3 := hl.c3
 have lf3 := hl.fr 3
 have H : Hid (Ln ((((w.setCell ⟨e.2, 2, none⟩ (PP (some l.2))).setCell ⟨e.2, 3, none⟩ (PP none)).setCell ⟨l.2, 3, none⟩ (PP (some e.2))).setCell ⟨o, 3, none⟩ (PP (some e.2))) o most m (A ++ [l] ++ [e]) ∧ Touch (e.2 :: fpL o (A ++ [l])) w ((((w.setCell ⟨e.2, 2, none⟩ (PP (some l.2))).setCell ⟨e.2, 3, none⟩ (PP none)).setCell ⟨l.2, 3, none⟩ (PP (some e.2))).setCell ⟨o, 3, none⟩ (PP (some e.2)))) := by
  have h1 := (hn.set2 (some l.2)).set3 none
  have h2 : OC ((w.setCell ⟨e.2, 2, none⟩ (PP (some l.2))).setCell ⟨e.2, 3, none⟩ (PP none)) o most m (hd (A ++ [l]) none) (some l.2) := hoc.keep ((Below.heap_setCell _ _ _ _ ne).trans (Below.heap_setCell _ _ _ _ ne))
  have s1 : Seg ((w.setCell ⟨e.2, 2, none⟩ (PP (some l.2))).setCell ⟨e.2, 3, none⟩ (PP none)) none (A ++ [l]) none := h.sg.keep (fun e' he => (Below.heap_setCell _ _ _ _ (hf e' he)).trans (Below.heap_setCell _ _ _ _ (hf e' he)))
  have s2 := s1.next (nb_ne (B := []) h.nb).1 (some e.2)
  refine ⟨⟨?_, ?_, ?_⟩, ?_⟩
  ·have e1 : hd (A ++ [l] ++ [e]) none = hd (A ++ [l]) none := by rw [hd_append]; cases A <;> rfl
   rw [e1, lst_snoc]
   exact (h2.keep (Below.heap_setCell _ _ _ _ nl)).set3 (some e.2)
  ·rw [seg_append, lst_snoc]
   have hno : ∀ e' ∈ A ++ [l], e'.2 ≠ o := fun e' he hh => by
    obtain ⟨x, y, hx⟩ := h.sg.mem e' he
    exact hoc.ne hx hh.symm
   exact ⟨s2.keep (fun e' he => Below.heap_setCell _ _ _ _ (hno e' he)), (h1.keep (Below.heap_setCell _ _ _ _ el')).keep (Below.heap_setCell _ _ _ _ ne'), trivial⟩
  ·rw [List.map_append, List.nodup_append]
   refine ⟨h.nb, by simp, fun x hx y hy => ?_⟩
   simp only [List.map_cons, List.map_nil, List.mem_singleton] at hy
   subst hy
   obtain ⟨e', he, rfl⟩ := List.mem_map.1 hx
   exact hf e' he
  ·exact ((((Touch.refl _ _).setCell (by simp) _).setCell (by simp) _).setCell (by simp [fpL]) _).setCell (by simp [fpL]) _
 clear h hoc hn hl hf
 unfold LP PT
 unfold PP at c3 n2 n3 H l3
 simp only [Option.map_none, Option.map_some] at c3 H l3
 go_enter Tryz.func176, Tryz.ntmps176
 go_wp2
 go_end0
 exact ⟨rfl, H.out⟩
theorem snoc_or (L : List E) : L = [] ∨ ∃ A l, L = A ++ [l] := by
 rcases List.eq_nil_or_concat L with h | ⟨A, l, h⟩
 ·exact Or.inl h
 ·exact Or.inr ⟨A, l, by rw [h, List.concat_eq_append]⟩
theorem add35 (w : World) (o : Nat) (most : Int) (m : Option Nat) (L : List E) (e : E) (a z : Option Nat) (h : Ln w o most m L) (hn : Nd w e.2 e.1 a z) (hf : ∀ e' ∈ L, e'.2 ≠ e.2) :
  Calls Tryz.prog 176 #[LP o, PT e.2] w fun x w' => x = .returned (.tuple #[]) ∧ Ln w' o most m (L ++ [e]) ∧ Touch (e.2 :: fpL o L) w w' := by
 rcases snoc_or L with rfl | ⟨A, l, rfl⟩
 ·exact add35_nil w o most m e a z h hn
 ·exact add35_more w o most m A l e a z h hn hf
set_option maxHeartbeats 4000000 in
theorem remove34_nn (w : World) (o : Nat) (most : Int) (m : Option Nat) (A : List E) (p : E) (n : E) (B : List E) (e : E) (h : Ln w o most m ((A ++ [p]) ++ e :: (n :: B))) :
  Calls Tryz.prog 164 #[LP o, PT e.2] w fun x w' => x = .returned (.tuple #[]) ∧ Ln w' o most m ((A ++ [p]) ++ (n :: B)) ∧ Touch (fpL o ((A ++ [p]) ++ e :: (n :: B))) w w' ∧ w'.heap[e.2]? = w.heap[e.2]? := by
 have hoc := h.oc
 obtain ⟨q1, q2, q3, q4, q5⟩ := nb_ne h.nb
 have sg := (seg_append _ _ _ _).1 h.sg
 have he : Nd w e.2 e.1 (some p.2) (some n.2) := by
  have := sg.2.1
  rw [lst_snoc] at this
  exact this
 have ne := hoc.ne he
 have ne' := Ne.symm ne
 have e2 := he.c2
 have e3 := he.c3
 have hno : ∀ e' ∈ (A ++ [p]) ++ e :: (n :: B), e'.2 ≠ o := fun e' he hh => by
  obtain ⟨x, y, hx⟩ := h.sg.mem e' he
  exact hoc.ne hx hh.symm
 have hp := ((seg_append _ _ _ _).1 sg.1).2.1
 have np := hoc.ne hp
 have np' := Ne.symm np
 have pe : p.2 ≠ e.2 := q1 p (by simp)
 have pe' := Ne.symm pe
 have p3 := hp.c3
 have pf3 := hp.fr 3
 have hn := sg.2.2.1
 have nn := hoc.ne hn
 have nn' := Ne.symm nn
 have en : n.2 ≠ e.2 := q2 n (by simp)
 have en' := Ne.symm en
 have n2 := hn.c2
 have nf2 := hn.fr 2
 have pn : p.2 ≠ n.2 := q3 p (by simp) n (by simp)
 have pn' := Ne.symm pn
 have H : Hid (Ln ((w.setCell ⟨p.2, 3, none⟩ (PP (some n.2))).setCell ⟨n.2, 2, none⟩ (PP (some p.2))) o most m ((A ++ [p]) ++ (n :: B)) ∧ Touch (fpL o ((A ++ [p]) ++ e :: (n :: B))) w ((w.setCell ⟨p.2, 3, none⟩ (PP (some n.2))).setCell ⟨n.2, 2, none⟩ (PP (some p.2))) ∧ ((w.setCell ⟨p.2, 3, none⟩ (PP (some n.2))).setCell ⟨n.2, 2, none⟩ (PP (some p.2))).heap[e.2]? = w.heap[e.2]?) := by
  have a1 := Seg.next (x := (some n.2)) sg.1 (nb_ne (B := []) (by simpa using q4)).1
  have a2 : Seg ((w.setCell ⟨p.2, 3, none⟩ (PP (some n.2))).setCell ⟨n.2, 2, none⟩ (PP (some p.2))) none (A ++ [p]) (some n.2) := a1.keep (fun e' he => Below.heap_setCell _ _ _ _ (q3 e' he n (by simp)))
  have b1 : Seg (w.setCell ⟨p.2, 3, none⟩ (PP (some n.2))) (some e.2) (n :: B) none := sg.2.2.keep (fun e' he => Below.heap_setCell _ _ _ _ (Ne.symm (q3 p (by simp) e' he)))
  have b2 := Seg.prev (x := (some p.2)) b1 (nb_ne (A := []) q5).2.1
  have o2 : OC ((w.setCell ⟨p.2, 3, none⟩ (PP (some n.2))).setCell ⟨n.2, 2, none⟩ (PP (some p.2))) o most m (hd ((A ++ [p]) ++ e :: (n :: B)) none) (lst ((A ++ [p]) ++ e :: (n :: B)) none) := hoc.keep ((Below.heap_setCell _ _ _ _ nn).trans (Below.heap_setCell _ _ _ _ np))
  refine ⟨⟨?_, ?_, ?_⟩, ?_, ?_⟩
  ·have x1 : hd ((A ++ [p]) ++ e :: (n :: B)) none = hd ((A ++ [p]) ++ (n :: B)) none := by simp only [hd_append]; cases A <;> rfl
   have x2 : lst ((A ++ [p]) ++ e :: (n :: B)) none = lst ((A ++ [p]) ++ (n :: B)) none := by simp only [lst_append]; rfl
   rw [x1, x2] at o2
   exact o2
  ·rw [seg_append, lst_snoc]
   exact ⟨a2, b2⟩
  ·rw [List.map_append, List.nodup_append]
   refine ⟨q4, q5, fun x hx y hy => ?_⟩
   obtain ⟨e', he, rfl⟩ := List.mem_map.1 hx
   obtain ⟨e'', he', rfl⟩ := List.mem_map.1 hy
   exact q3 e' he e'' he'
  ·exact (((Touch.refl _ _).setCell (by simp [fpL]) _).setCell (by simp [fpL]) _)
  ·exact (Below.heap_setCell _ _ _ _ en').trans (Below.heap_setCell _ _ _ _ pe')
 clear h hoc he q1 q2 q3 q4 q5 sg hno hp hn
 unfold LP PT
 unfold PP at *
 simp only [Option.map_none, Option.map_some] at *
 go_enter Tryz.func164, Tryz.ntmps164
 go_wp2
 go_region
 go_wp2
 go_region
 go_wp2
 go_end0
 exact ⟨rfl, H.out.1.heap rfl, ⟨H.out.2.1.os, H.out.2.1.tape, H.out.2.1.output, H.out.2.1.size, H.out.2.1.block⟩, H.out.2.2⟩
set_option maxHeartbeats 4000000 in
theorem remove34_nb (w : World) (o : Nat) (most : Int) (m : Option Nat) (n : E) (B : List E) (e : E) (h : Ln w o most m (([]) ++ e :: (n :: B))) :
  Calls Tryz.prog 164 #[LP o, PT e.2] w fun x w' => x = .returned (.tuple #[]) ∧ Ln w' o most m (([]) ++ (n :: B)) ∧ Touch (fpL o (([]) ++ e :: (n :: B))) w w' ∧ w'.heap[e.2]? = w.heap[e.2]? := by
 have hoc := h.oc
 obtain ⟨q1, q2, q3, q4, q5⟩ := nb_ne h.nb
 have sg := (seg_append _ _ _ _).1 h.sg
 have he : Nd w e.2 e.1 none (some n.2) := by
  have := sg.2.1
  skip
  exact this
 have ne := hoc.ne he
 have ne' := Ne.symm ne
 have e2 := he.c2
 have e3 := he.c3
 have hno : ∀ e' ∈ ([]) ++ e :: (n :: B), e'.2 ≠ o := fun e' he hh => by
  obtain ⟨x, y, hx⟩ := h.sg.mem e' he
  exact hoc.ne hx hh.symm
 have c2 := hoc.c2
 have f2 := hoc.fr 2
 have hn := sg.2.2.1
 have nn := hoc.ne hn
 have nn' := Ne.symm nn
 have en : n.2 ≠ e.2 := q2 n (by simp)
 have en' := Ne.symm en
 have n2 := hn.c2
 have nf2 := hn.fr 2
 have H : Hid (Ln ((w.setCell ⟨o, 2, none⟩ (PP (some n.2))).setCell ⟨n.2, 2, none⟩ (PP none)) o most m (([]) ++ (n :: B)) ∧ Touch (fpL o (([]) ++ e :: (n :: B))) w ((w.setCell ⟨o, 2, none⟩ (PP (some n.2))).setCell ⟨n.2, 2, none⟩ (PP none)) ∧ ((w.setCell ⟨o, 2, none⟩ (PP (some n.2))).setCell ⟨n.2, 2, none⟩ (PP none)).heap[e.2]? = w.heap[e.2]?) := by
  have b1 : Seg (w.setCell ⟨o, 2, none⟩ (PP (some n.2))) (some e.2) (n :: B) none := sg.2.2.keep (fun e' he => Below.heap_setCell _ _ _ _ (hno e' (by simp only [List.mem_append, List.mem_cons] at he ⊢; exact Or.inr (Or.inr he))))
  have b2 := Seg.prev (x := none) b1 (nb_ne (A := []) q5).2.1
  have o2 : OC ((w.setCell ⟨o, 2, none⟩ (PP (some n.2))).setCell ⟨n.2, 2, none⟩ (PP none)) o most m (some n.2) (lst (([]) ++ e :: (n :: B)) none) := (hoc.set2 _).keep (Below.heap_setCell _ _ _ _ nn)
  refine ⟨⟨?_, ?_, ?_⟩, ?_, ?_⟩
  ·exact o2
  ·exact b2
  ·rw [List.map_append, List.nodup_append]
   refine ⟨q4, q5, fun x hx y hy => ?_⟩
   obtain ⟨e', he, rfl⟩ := List.mem_map.1 hx
   obtain ⟨e'', he', rfl⟩ := List.mem_map.1 hy
   exact q3 e' he e'' he'
  ·exact (((Touch.refl _ _).setCell (by simp [fpL]) _).setCell (by simp [fpL]) _)
  ·exact (Below.heap_setCell _ _ _ _ en').trans (Below.heap_setCell _ _ _ _ ne')
 clear h hoc he q1 q2 q3 q4 q5 sg hno hn
 unfold LP PT
 unfold PP at *
 simp only [Option.map_none, Option.map_some] at *
 go_enter Tryz.func164, Tryz.ntmps164
 go_wp2
 go_region
 go_wp2
 go_end0
 exact ⟨rfl, H.out.1.heap rfl, ⟨H.out.2.1.os, H.out.2.1.tape, H.out.2.1.output, H.out.2.1.size, H.out.2.1.block⟩, H.out.2.2⟩
set_option maxHeartbeats 4000000 in
theorem remove34_an (w : World) (o : Nat) (most : Int) (m : Option Nat) (A : List E) (p : E) (e : E) (h : Ln w o most m ((A ++ [p]) ++ e :: ([]))) :
  Calls Tryz.prog 164 #[LP o, PT e.2] w fun x w' => x = .returned (.tuple #[]) ∧ Ln w' o most m ((A ++ [p]) ++ ([])) ∧ Touch (fpL o ((A ++ [p]) ++ e :: ([]))) w w' ∧ w'.heap[e.2]? = w.heap[e.2]? := by
 have hoc := h.oc
 obtain ⟨q1, q2, q3, q4, q5⟩ := nb_ne h.nb
 have sg := (seg_append _ _ _ _).1 h.sg
 have he : Nd w e.2 e.1 (some p.2) none := by
  have := sg.2.1
  rw [lst_snoc] at this
  exact this
 have ne := hoc.ne he
 have ne' := Ne.symm ne
 have e2 := he.c2
 have e3 := he.c3
 have hno : ∀ e' ∈ (A ++ [p]) ++ e :: ([]), e'.2 ≠ o := fun e' he hh => by
  obtain ⟨x, y, hx⟩ := h.sg.mem e' he
  exact hoc.ne hx hh.symm
 have hp := ((seg_append _ _ _ _).1 sg.1).2.1
 have np := hoc.ne hp
 have np' := Ne.symm np
 have pe : p.2 ≠ e.2 := q1 p (by simp)
 have pe' := Ne.symm pe
 have p3 := hp.c3
 have pf3 := hp.fr 3
 have c3 := hoc.c3
 have f3 := hoc.fr 3
 have H : Hid (Ln ((w.setCell ⟨p.2, 3, none⟩ (PP none)).setCell ⟨o, 3, none⟩ (PP (some p.2))) o most m ((A ++ [p]) ++ ([])) ∧ Touch (fpL o ((A ++ [p]) ++ e :: ([]))) w ((w.setCell ⟨p.2, 3, none⟩ (PP none)).setCell ⟨o, 3, none⟩ (PP (some p.2))) ∧ ((w.setCell ⟨p.2, 3, none⟩ (PP none)).setCell ⟨o, 3, none⟩ (PP (some p.2))).heap[e.2]? = w.heap[e.2]?) := by
  have a1 := Seg.next (x := none) sg.1 (nb_ne (B := []) (by simpa using q4)).1
  have a2 : Seg ((w.setCell ⟨p.2, 3, none⟩ (PP none)).setCell ⟨o, 3, none⟩ (PP (some p.2))) none (A ++ [p]) none := a1.keep (fun e' he => Below.heap_setCell _ _ _ _ (hno e' (by simp only [List.mem_append] at he ⊢; exact Or.inl he)))
  have o2 : OC ((w.setCell ⟨p.2, 3, none⟩ (PP none)).setCell ⟨o, 3, none⟩ (PP (some p.2))) o most m (hd ((A ++ [p]) ++ e :: ([])) none) (some p.2) := (hoc.keep (Below.heap_setCell _ _ _ _ np)).set3 _
  refine ⟨⟨?_, ?_, ?_⟩, ?_, ?_⟩
  ·have x1 : hd ((A ++ [p]) ++ e :: ([])) none = hd ((A ++ [p]) ++ ([])) none := by simp only [hd_append]; cases A <;> rfl
   have x2 : lst ((A ++ [p]) ++ ([])) none = some p.2 := by rw [List.append_nil]; exact lst_snoc _ _ _
   rw [x2, ← x1]
   exact o2
  ·rw [List.append_nil]
   exact a2
  ·rw [List.map_append, List.nodup_append]
   refine ⟨q4, q5, fun x hx y hy => ?_⟩
   obtain ⟨e', he, rfl⟩ := List.mem_map.1 hx
   obtain ⟨e'', he', rfl⟩ := List.mem_map.1 hy
   exact q3 e' he e'' he'
  ·exact (((Touch.refl _ _).setCell (by simp [fpL]) _).setCell (by simp [fpL]) _)
  ·exact (Below.heap_setCell _ _ _ _ ne').trans (Below.heap_setCell _ _ _ _ pe')
 clear h hoc he q1 q2 q3 q4 q5 sg hno hp
 unfold LP PT
 unfold PP at *
 simp only [Option.map_none, Option.map_some] at *
 go_enter Tryz.func164, Tryz.ntmps164
 go_wp2
 go_region
 go_wp2
 go_end0
 exact ⟨rfl, H.out.1.heap rfl, ⟨H.out.2.1.os, H.out.2.1.tape, H.out.2.1.output, H.out.2.1.size, H.out.2.1.block⟩, H.out.2.2⟩
set_option maxHeartbeats 4000000 in
theorem remove34_oo (w : World) (o : Nat) (most : Int) (m : Option Nat)  (e : E) (h : Ln w o most m (([]) ++ e :: ([]))) :
  Calls Tryz.prog 164 #[LP o, PT e.2] w fun x w' => x = .returned (.tuple #[]) ∧ Ln w' o most m (([]) ++ ([])) ∧ Touch (fpL o (([]) ++ e :: ([]))) w w' ∧ w'.heap[e.2]? = w.heap[e.2]? := by
 have hoc := h.oc
 obtain ⟨q1, q2, q3, q4, q5⟩ := nb_ne h.nb
 have sg := (seg_append _ _ _ _).1 h.sg
 have he : Nd w e.2 e.1 none none := by
  have := sg.2.1
  skip
  exact this
 have ne := hoc.ne he
 have ne' := Ne.symm ne
 have e2 := he.c2
 have e3 := he.c3
 have hno : ∀ e' ∈ ([]) ++ e :: ([]), e'.2 ≠ o := fun e' he hh => by
  obtain ⟨x, y, hx⟩ := h.sg.mem e' he
  exact hoc.ne hx hh.symm
 have c2 := hoc.c2
 have f2 := hoc.fr 2
 have c3 := hoc.c3
 have f3 := hoc.fr 3
 have H : Hid (Ln ((w.setCell ⟨o, 2, none⟩ (PP none)).setCell ⟨o, 3, none⟩ (PP none)) o most m (([]) ++ ([])) ∧ Touch (fpL o (([]) ++ e :: ([]))) w ((w.setCell ⟨o, 2, none⟩ (PP none)).setCell ⟨o, 3, none⟩ (PP none)) ∧ ((w.setCell ⟨o, 2, none⟩ (PP none)).setCell ⟨o, 3, none⟩ (PP none)).heap[e.2]? = w.heap[e.2]?) := by
  have o2 : OC ((w.setCell ⟨o, 2, none⟩ (PP none)).setCell ⟨o, 3, none⟩ (PP none)) o most m none none := (hoc.set2 _).set3 _
  refine ⟨⟨?_, ?_, ?_⟩, ?_, ?_⟩
  ·exact o2
  ·trivial
  ·rw [List.map_append, List.nodup_append]
   refine ⟨q4, q5, fun x hx y hy => ?_⟩
   obtain ⟨e', he, rfl⟩ := List.mem_map.1 hx
   obtain ⟨e'', he', rfl⟩ := List.mem_map.1 hy
   exact q3 e' he e'' he'
  ·exact (((Touch.refl _ _).setCell (by simp [fpL]) _).setCell (by simp [fpL]) _)
  ·exact (Below.heap_setCell _ _ _ _ ne').trans (Below.heap_setCell _ _ _ _ ne')
 clear h hoc he q1 q2 q3 q4 q5 sg hno
 unfold LP PT
 unfold PP at *
 simp only [Option.map_none, Option.map_some] at *
 go_enter Tryz.func164, Tryz.ntmps164
 go_wp2
 go_end0
 exact ⟨rfl, H.out⟩
theorem remove34 (w : World) (o : Nat) (most : Int) (m : Option Nat) (A B : List E) (e : E) (h : Ln w o most m (A ++ e :: B)) :
  Calls Tryz.prog 164 #[LP o, PT e.2] w fun x w' => x = .returned (.tuple #[]) ∧ Ln w' o most m (A ++ B) ∧ Touch (fpL o (A ++ e :: B)) w w' ∧ w'.heap[e.2]? = w.heap[e.2]? := by
 rcases snoc_or A with rfl | ⟨A, p, rfl⟩
 ·cases B with
  | nil => exact remove34_oo w o most m e h
  | cons n B => exact remove34_nb w o most m n B e h
 ·cases B with
  | nil => exact remove34_an w o most m A p e h
  | cons n B => exact remove34_nn w o most m A p n B e h
end Go.Proofs.YtllchnancjgijaaGreat.Me
/- An order in memory as a plain list of keys, the oldest first; the contracts of what only reads it, and of its maker; no conditions but those that each states. -/
namespace Go.Proofs.YtllchnancjgijaaGreat.Me
open Go.RowKit Go.Sort Go.Maps Go.ChangeMaps Go.WideMaps
def Mf (f : K → Option Value) (L : List E) : Prop := (∀ e ∈ L, f e.1 = some (PT e.2)) ∧ ∀ k, ¬ k ∈ L.map Prod.fst → f k = none
structure Od (w : World) (o : Nat) (m : Option Nat) (most : Int) (L : List E) : Prop where
 ln : Ln w o most m L
 nd : (L.map Prod.fst).Nodup
 ok : ∀ e ∈ L, Ok e.1
 mp : (m = none ∧ L = []) ∨ ∃ b f, m = some b ∧ MapAt w b L.length f ∧ Mf f L
def fp (o : Nat) (m : Option Nat) (L : List E) : List Nat := o :: (m.toList ++ L.map Prod.snd)
theorem fpL_fp {o : Nat} {m : Option Nat} {L : List E} {k : Nat} (h : k ∈ fpL o L) : k ∈ fp o m L := by
 simp only [fpL, fp, List.mem_cons, List.mem_append] at h ⊢
 rcases h with h | h
 ·exact Or.inl h
 ·exact Or.inr (Or.inr h)
theorem Od.keep {G : List Nat} {w w' : World} {o : Nat} {m : Option Nat} {most : Int} {L : List E} (h : Od w o m most L) (ht : Touch G w w') (hn : ∀ k, k ∈ fp o m L → ¬ k ∈ G) : Od w' o m most L := by
 refine ⟨h.ln.keep ht (fun k hk => hn k (fpL_fp hk)), h.nd, h.ok, ?_⟩
 rcases h.mp with h1 | ⟨b, f, rfl, hm, hf⟩
 ·exact Or.inl h1
 ·exact Or.inr ⟨b, f, rfl, hm.kept (ht.block b hm.lt (hn b (by simp [fp]))), hf⟩
theorem Od.keep0 {w w' : World} {o : Nat} {m : Option Nat} {most : Int} {L : List E} (h : Od w o m most L) (ht : Touch [] w w') : Od w' o m most L := h.keep ht (fun _ _ h => by cases h)
theorem Od.lt {w : World} {o : Nat} {m : Option Nat} {most : Int} {L : List E} (h : Od w o m most L) : ∀ k, k ∈ fp o m L → k < w.heap.size := fun k hk => by
 simp only [fp, List.mem_cons, List.mem_append] at hk
 rcases hk with rfl | hk | hk
 ·exact h.ln.oc.lt
 ·rcases h.mp with ⟨rfl, _⟩ | ⟨b, f, rfl, hm, hf⟩
  ·simp at hk
  ·simp at hk; subst hk; exact hm.lt
 ·obtain ⟨e, he, rfl⟩ := List.mem_map.1 hk
  obtain ⟨x, y, hx⟩ := h.ln.sg.mem e he
  exact hx.lt
section
variable {w : World} {o : Nat} {m : Option Nat} {most : Int} {L : List E}
theorem Od.look_yes (h : Od w o m most L) {e : E} (he : e ∈ L) : (Instr.lookup 226 (.map m) (kv e.1) false).run Tryz.prog w = .ok (PT e.2) w := by
 rcases h.mp with ⟨_, rfl⟩ | ⟨b, f, rfl, hm, hf⟩
 ·cases he
 ·have := hm.look (t := 226) Tryz.underlying226 (zero61 w) (h.ok e he)
  rw [hf.1 e he] at this
  exact this
theorem Od.look_no (h : Od w o m most L) {k : K} (hk : Ok k) (hn : ¬ k ∈ L.map Prod.fst) : (Instr.lookup 226 (.map m) (kv k) false).run Tryz.prog w = .ok (.pointer none) w := by
 rcases h.mp with ⟨rfl, rfl⟩ | ⟨b, f, rfl, hm, hf⟩
 ·have := Maps.look_nil (P := Tryz.prog) (w := w) false keyed36 Tryz.underlying226 (zero61 w) (key36 hk)
  simpa using this
 ·have := hm.look (t := 226) Tryz.underlying226 (zero61 w) hk
  rw [hf.2 k hn] at this
  exact this
theorem Od.len (h : Od w o m most L) (ty : TypeId) : (Builtin.len_ #[226] ty #[.map m]).run Tryz.prog w = .ok (.int .i64 L.length) w := by
 rcases h.mp with ⟨rfl, rfl⟩ | ⟨b, f, rfl, hm, hf⟩
 ·exact Maps.len_nil (P := Tryz.prog) (w := w) Tryz.underlying226 ty
 ·exact hm.len (t := 226) Tryz.underlying226 ty
end
theorem mayBe23 (w : World) (n : Int) : Calls Tryz.prog 127 #[.int .i64 n] w fun e w' => e = .returned (.bool (decide (0 ≤ n) && decide (n ≤ 65536))) ∧ w' = w := by
 by_cases h : 0 ≤ n
 ·go_enter Tryz.func127, Tryz.ntmps127
  go_wp2
  go_ret
  simp [h]
 ·go_enter Tryz.func127, Tryz.ntmps127
  go_wp2
  go_ret
  have h2 : decide (0 ≤ n) = false := decide_eq_false (by omega)
  simp [h2]
theorem check29_ok (w : World) (k : K) (h : k.2.size ≤ 64) : Calls Tryz.prog 85 #[kv k] w fun e w' => e = .returned (.int .i64 0) ∧ Touch [] w w' := by
 unfold kv
 go_enter Tryz.func85, Tryz.ntmps85
 go_wp2
 go_ret
 exact ⟨rfl, (Touch.refl _ _).alloc _⟩
theorem check29_no (w : World) (k : K) (h : 64 < k.2.size) : Calls Tryz.prog 85 #[kv k] w fun e w' => e = .returned (.int .i64 20) ∧ Touch [] w w' := by
 have h' : (64 : Int) < (k.2.size : Int) := by omega
 unfold kv
 go_enter Tryz.func85, Tryz.ntmps85
 go_wp2
 go_ret
 exact ⟨rfl, (Touch.refl _ _).alloc _⟩
theorem new6_ok (w : World) (n : Int) (h : 0 ≤ n) (h2 : n ≤ 65536) : Calls Tryz.prog 78 #[.int .i64 n] w fun e w' => e = .returned (.tuple #[PT w.heap.size, .int .i64 0]) ∧ Od w' w.heap.size none n [] ∧ Touch [] w w' := by
 have HM := mayBe23 w n
 rw [decide_eq_true h, decide_eq_true h2] at HM
 simp only [Bool.and_self] at HM
 go_enter Tryz.func78, Tryz.ntmps78
 go_wp2_with (go_at_call 127; refine HM.mono ?_; rintro e w2 ⟨rfl, rfl⟩)
 exact bodyPost_ret (v := .tuple #[PT w2.heap.size, .int .i64 0]) (by simp [results, Tryz.results78, go_sem, PT]) rfl ⟨rfl, ⟨⟨heap_alloc_new w2 _, trivial, by simp⟩, by simp, fun e he => by (cases he), Or.inl ⟨rfl, rfl⟩⟩, (Touch.refl _ _).alloc _⟩
theorem len20 (w : World) (o : Nat) (m : Option Nat) (most : Int) (L : List E) (h : Od w o m most L) : Calls Tryz.prog 196 #[PT o] w fun e w' => e = .returned (.int .i64 L.length) ∧ w' = w := by
 have c1 := h.ln.oc.c1
 have hl := h.len
 clear h
 generalize (L.length : Int) = n at *
 unfold PT
 go_enter Tryz.func196, Tryz.ntmps196
 go_wp2
 go_ret
 exact ⟨rfl, rfl⟩
theorem oldest16_cons (w : World) (o : Nat) (m : Option Nat) (most : Int) (x : E) (L : List E) (hl : L.length < 100000) (h : Od w o m most (x :: L)) : Calls Tryz.prog 205 #[PT o] w fun e w' => e = .returned (.tuple #[kv x.1, .bool true]) ∧ Touch [] w w' := by
 have HL : Hid (∀ w', Touch [] w w' → Calls Tryz.prog 196 #[.pointer (some ⟨o, 0, none⟩)] w' fun e w'' => e = .returned (.int .i64 (x :: L).length) ∧ w'' = w') := fun w' t => len20 w' o m most (x :: L) (h.keep0 t)
 have hne : (((x :: L).length : Int) == 0) = false := by simp; omega
 have ho := h.ln.oc.lt
 have c2 := h.ln.oc.c2
 have hn := h.ln.sg.1
 have hx := hn.lt
 have n0 := hn.c0
 have n1 := hn.c1
 unfold PP at c2
 simp only [hd, Option.map_some] at c2
 clear h hn
 generalize ((x :: L).length : Int) = n at *
 unfold PT kv
 go_enter Tryz.func205, Tryz.ntmps205
 go_wp2_with (go_at_call 196; refine (HL.out _ ((Touch.refl _ _).alloc _)).mono ?_; rintro e w2 ⟨rfl, rfl⟩)
 refine bodyPost_ret (v := .tuple #[.agg #[.int .u16 x.1.1, .string x.1.2], .bool true]) (by simp [results, Tryz.results205, go_sem]) rfl ⟨rfl, ?_⟩
 exact (Touch.refl _ _).alloc _
theorem has19_yes (w : World) (o : Nat) (m : Option Nat) (most : Int) (L : List E) (e : E) (he : e ∈ L) (h : Od w o m most L) : Calls Tryz.prog 163 #[PT o, kv e.1] w fun x w' => x = .returned (.bool true) ∧ Touch [] w w' := by
 have hl : ∀ n, (Instr.lookup 226 (.map m) (kv e.1) false).run Tryz.prog ((w.alloc (.cells #[.int .u16 e.1.1, .string e.1.2] 35)).drewN n) = .ok (PT e.2) ((w.alloc (.cells #[.int .u16 e.1.1, .string e.1.2] 35)).drewN n) := fun n => (h.keep0 (((Touch.refl _ _).alloc _).drewN n)).look_yes he
 have c1 := (h.keep0 ((Touch.refl _ _).alloc (.cells #[.int .u16 e.1.1, .string e.1.2] 35))).ln.oc.c1
 unfold PT kv at *
 clear h
 go_enter Tryz.func163, Tryz.ntmps163
 go_wp2
 go_quiet (fail)
 go_wp2
 go_ret
 exact ⟨rfl, ((Touch.refl _ _).alloc _).drewN _⟩
theorem has19_no (w : World) (o : Nat) (m : Option Nat) (most : Int) (L : List E) (k : K) (hk : Ok k) (hn : ¬ k ∈ L.map Prod.fst) (h : Od w o m most L) : Calls Tryz.prog 163 #[PT o, kv k] w fun x w' => x = .returned (.bool false) ∧ Touch [] w w' := by
 have hl : ∀ n, (Instr.lookup 226 (.map m) (kv k) false).run Tryz.prog ((w.alloc (.cells #[.int .u16 k.1, .string k.2] 35)).drewN n) = .ok (.pointer none) ((w.alloc (.cells #[.int .u16 k.1, .string k.2] 35)).drewN n) := fun n => (h.keep0 (((Touch.refl _ _).alloc _).drewN n)).look_no hk hn
 have c1 := (h.keep0 ((Touch.refl _ _).alloc (.cells #[.int .u16 k.1, .string k.2] 35))).ln.oc.c1
 unfold PT kv at *
 clear h
 go_enter Tryz.func163, Tryz.ntmps163
 go_wp2
 go_quiet (fail)
 go_wp2
 go_ret
 exact ⟨rfl, ((Touch.refl _ _).alloc _).drewN _⟩
end Go.Proofs.YtllchnancjgijaaGreat.Me
/- The contract of enter: a key that is not there is the one that was used last behind it; there are fewer than a hundred thousand. -/
namespace Go.Proofs.YtllchnancjgijaaGreat.Me
open Go.RowKit Go.Sort Go.Maps Go.ChangeMaps Go.WideMaps
theorem maxLen_big {n : Nat} (h : n ≤ 100000) : n < maxLen := by unfold maxLen; omega
theorem MapAt.ne_block {w : World} {b n : Nat} {g : K → Option Value} (hm : MapAt w b n g) {q : Nat} {cs : Array Value} {t : TypeId} {fr : Nat × Nat} (h : w.heap[q]? = some (.cells cs t fr)) : b ≠ q := fun e => by
 obtain ⟨D, ⟨es, cl, hb, _⟩, _⟩ := hm
 rw [← e, hb] at h
 simp at h
theorem Mf.push {f : K → Option Value} {L : List E} (h : Mf f L) {k : K} {p : Nat} (hn : ¬ k ∈ L.map Prod.fst) : Mf (upd f k (PT p)) (L ++ [(k, p)]) := by
 refine ⟨fun e he => ?_, fun j hj => ?_⟩
 ·simp only [List.mem_append, List.mem_singleton] at he
  rcases he with he | rfl
  ·unfold upd
   rw [if_neg (fun e' => hn (by rw [← e']; exact List.mem_map.2 ⟨e, he, rfl⟩))]
   exact h.1 e he
  ·simp [upd]
 ·simp only [List.map_append, List.mem_append, List.map_cons, List.map_nil, List.mem_singleton, not_or] at hj
  unfold upd
  rw [if_neg hj.2]
  exact h.2 j hj.1
theorem Ln.setMap {w : World} {o b : Nat} {most : Int} {m : Option Nat} {L : List E} (h : Ln w o most m L) (hb : ∀ k ∈ fpL o L, k ≠ b) (ob : Obj) : Ln (setBlock w b ob) o most m L :=
 ⟨h.oc.keep (setBlock_other _ _ _ (hb o (by simp [fpL]))), h.sg.keep (fun e he => setBlock_other _ _ _ (hb _ (by simp only [fpL, List.mem_cons, List.mem_map]; exact Or.inr ⟨e, he, rfl⟩))), h.nb⟩
theorem Ln.cells {w : World} {o : Nat} {most : Int} {m : Option Nat} {L : List E} (h : Ln w o most m L) : ∀ k ∈ fpL o L, ∃ cs t fr, w.heap[k]? = some (.cells cs t fr) := fun k hk => by
 simp only [fpL, List.mem_cons, List.mem_map] at hk
 rcases hk with rfl | ⟨e, he, rfl⟩
 ·exact ⟨_, _, _, h.oc⟩
 ·obtain ⟨x, y, hx⟩ := h.sg.mem e he
  exact ⟨_, _, _, hx⟩
def EnQ (w : World) (o : Nat) (m : Option Nat) (most : Int) (L : List E) (k : K) (w' : World) : Prop :=
 ∃ m' p, Od w' o m' most (L ++ [(k, p)]) ∧ Touch (fp o m L) w w' ∧ Nf w (fp o m L) (fp o m' (L ++ [(k, p)]))
theorem enter_end {w V : World} {o b : Nat} {m : Option Nat} {most : Int} {L : List E} {k : K} {p n : Nat} {f : K → Option Value} (hL : Ln V o most (some b) L) (hn : Nd V p k none none) (hb : MapAt V b n f) (hk : Ok k) (hN : n = L.length) (hf : Mf f L) (hnk : ¬ k ∈ L.map Prod.fst) (hnd : (L.map Prod.fst).Nodup) (hok : ∀ e ∈ L, Ok e.1) (hp : w.heap.size ≤ p) (hpf : ∀ e ∈ L, e.2 ≠ p) (hbn : m = some b ∨ w.heap.size ≤ b) (ht : Touch (fp o m L) w V)
  {ob : Obj} (hs : MapAt (setBlock V.drew b ob) b (if (f k).isSome then n else n + 1) (upd f k (PT p))) :
  Calls Tryz.prog 176 #[LP o, PT p] (setBlock V.drew b ob) fun x w' => x = .returned (.tuple #[]) ∧ EnQ w o m most L k w' := by
 have hbl : ∀ q ∈ fpL o L, q ≠ b := fun q hq => by
  obtain ⟨cs, t, fr, hc⟩ := hL.cells q hq
  exact Ne.symm (hb.ne_block hc)
 have hbp : p ≠ b := Ne.symm (hb.ne_block hn)
 have L2 : Ln (setBlock V.drew b ob) o most (some b) L := Ln.setMap (w := V.drew) (hL.heap rfl) hbl ob
 have N2 : Nd (setBlock V.drew b ob) p k none none := Nd.keep (w := V) hn (setBlock_other _ _ _ hbp)
 refine (add35 _ o most (some b) L (k, p) none none L2 N2 hpf).mono ?_
 rintro x w' ⟨rfl, hL', ht'⟩
 refine ⟨rfl, some b, p, ⟨hL', ?_, ?_, Or.inr ⟨b, upd f k (PT p), rfl, ?_, hf.push hnk⟩⟩, ?_, ?_⟩
 ·rw [List.map_append, List.nodup_append]
  refine ⟨hnd, by simp, fun x hx y hy => ?_⟩
  simp only [List.map_cons, List.map_nil, List.mem_singleton] at hy
  subst hy
  exact fun e => hnk (e ▸ hx)
 ·intro e he
  simp only [List.mem_append, List.mem_singleton] at he
  rcases he with he | rfl
  ·exact hok e he
  ·exact hk
 ·have : (L ++ [(k, p)]).length = if (f k).isSome then n else n + 1 := by
   rw [hf.2 k hnk]; simp [hN]
  rw [this]
  refine hs.kept (ht'.block b hs.lt ?_)
  simp only [List.mem_cons, not_or]
  exact ⟨Ne.symm hbp, fun h => hbl b h rfl⟩
 ·have h1 : Touch (fp o m L) w (setBlock V.drew b ob) := touch_setBlock ht.drew (hbn.elim (fun e => Or.inl (by simp [fp, e])) Or.inr) ob
  refine h1.trans ht' (fun i hi => ?_)
  simp only [List.mem_cons] at hi
  rcases hi with rfl | hi
  ·exact Or.inr hp
  ·exact Or.inl (fpL_fp hi)
 ·intro i hi
  simp only [fp, List.map_append, List.mem_cons, List.mem_append, Option.toList_some, List.map_cons, List.map_nil, List.mem_singleton, List.not_mem_nil, or_false] at hi ⊢
  rcases hi with hi | hi | hi
  ·exact Or.inl (Or.inl hi)
  ·rw [hi]
   rcases hbn with rfl | e
   ·exact Or.inl (Or.inr (Or.inl (by simp)))
   ·exact Or.inr e
  ·rcases hi with hi | hi
   ·exact Or.inl (Or.inr (Or.inr hi))
   ·rw [hi]
    exact Or.inr hp
set_option maxHeartbeats 2000000 in
theorem enter30_some (w : World) (o b : Nat) (most : Int) (L : List E) (k : K) (hk : Ok k) (hnk : ¬ k ∈ L.map Prod.fst) (hlen : L.length < 100000) (h : Od w o (some b) most L) :
  Calls Tryz.prog 181 #[PT o, kv k] w fun x w' => x = .returned (.tuple #[]) ∧ EnQ w o (some b) most L k w' := by
 obtain ⟨b', f, hbb, hm, hf⟩ : ∃ b' f, some b = some b' ∧ MapAt w b' L.length f ∧ Mf f L := by
  rcases h.mp with ⟨e, _⟩ | e
  ·cases e
  ·exact e
 cases hbb
 have c1 := h.ln.oc.c1
 have ho := h.ln.oc.lt
 obtain ⟨V, hV⟩ : ∃ V, V = (w.alloc (.cells #[.int .u16 k.1, .string k.2] 35)).alloc (.cells #[.int .u16 k.1, .string k.2, .pointer none, .pointer none] 299) := ⟨_, rfl⟩
 have TV : Touch [] w V := by rw [hV]; exact ((Touch.refl _ _).alloc _).alloc _
 have hmV : MapAt V b L.length f := hm.kept (TV.block b hm.lt (by simp))
 have hN : Nd V (w.heap.size + 1) k none none := by
  rw [hV]
  have := heap_alloc_new (w.alloc (.cells #[.int .u16 k.1, .string k.2] 35)) (.cells #[.int .u16 k.1, .string k.2, .pointer none, .pointer none] 299)
  rwa [World.size_alloc] at this
 have hV0 : V.cell? ⟨w.heap.size, 0, none⟩ = some (.int .u16 k.1) := by rw [hV]; simp
 have hV1 : V.cell? ⟨w.heap.size, 1, none⟩ = some (.string k.2) := by rw [hV]; simp
 have cV := (h.keep0 TV).ln.oc.c1
 obtain ⟨ob, hu, hm2⟩ := (show MapAt V.drew b L.length f from hmV.kept rfl).set (t := 226) Tryz.underlying226 (maxLen_big (by omega)) hk (PT (w.heap.size + 1))
 have HA := hid (enter_end (w := w) (m := some b) (h.ln.keep TV (fun _ _ e => by cases e)) hN hmV hk rfl hf hnk h.nd h.ok (Nat.le_succ _) (fun e he hh => by
  obtain ⟨x, y, hx⟩ := h.ln.sg.mem e he
  have := hx.lt
  omega) (Or.inl rfl) (TV.mono (fun _ e => by cases e)) hm2)
 have q60 := eq60
 clear h hm hf hmV hm2 hN TV hnk hk
 unfold PT kv at *
 unfold LP at HA
 go_enter Tryz.func181, Tryz.ntmps181
 go_wp2
 rw [← hV]
 clear hV
 generalize setBlock V.drew b ob = W2 at *
 go_region
 go_wp2_with (go_at_call 176; refine HA.out.mono ?_; rintro e w3 ⟨rfl, r⟩; have R := hid r; clear r)
 go_end0
 exact ⟨rfl, R.out⟩
set_option maxHeartbeats 2000000 in
theorem enter30_none (w : World) (o : Nat) (most : Int) (k : K) (hk : Ok k) (h : Od w o none most []) :
  Calls Tryz.prog 181 #[PT o, kv k] w fun x w' => x = .returned (.tuple #[]) ∧ EnQ w o none most [] k w' := by
 have c1 := h.ln.oc.c1
 have f1 := h.ln.oc.fr 1
 have ho := h.ln.oc.lt
 have hmm := @run_makeMap Tryz.prog
 have q60 := eq60
 have H := hid h
 clear h
 unfold PT kv
 go_enter Tryz.func181, Tryz.ntmps181
 go_wp2
 have h := H.out
 obtain ⟨V, hV⟩ : ∃ V, V = (((w.setCell ⟨o, 1, none⟩ (.map (some (w.heap.size + 1)))).alloc (.cells #[.int .u16 k.1, .string k.2] 35)).alloc (Obj.map #[] 0)).alloc (.cells #[.int .u16 k.1, .string k.2, .pointer none, .pointer none] 299) := ⟨_, rfl⟩
 have TV : Touch (fp o none []) w V := by rw [hV]; exact ((((Touch.refl _ _).setCell (by simp [fp]) _).alloc _).alloc _).alloc _
 have z1 : ((w.setCell ⟨o, 1, none⟩ (.map (some (w.heap.size + 1)))).alloc (.cells #[.int .u16 k.1, .string k.2] 35)).heap.size = w.heap.size + 1 := by simp [World.setCell]
 have hmV : MapAt V (w.heap.size + 1) 0 (fun _ => none) := by
  have := mapAt_made ((w.setCell ⟨o, 1, none⟩ (.map (some (w.heap.size + 1)))).alloc (.cells #[.int .u16 k.1, .string k.2] 35))
  rw [z1] at this
  rw [hV]
  exact this.kept (Below.heap_alloc _ _ _ this.lt)
 have hN : Nd V (w.heap.size + 1 + 1) k none none := by
  rw [hV]
  have := heap_alloc_new (((w.setCell ⟨o, 1, none⟩ (.map (some (w.heap.size + 1)))).alloc (.cells #[.int .u16 k.1, .string k.2] 35)).alloc (Obj.map #[] 0)) (.cells #[.int .u16 k.1, .string k.2, .pointer none, .pointer none] 299)
  rwa [World.size_alloc, z1] at this
 have hL : Ln V o most (some (w.heap.size + 1)) [] := by
  refine ⟨?_, trivial, by simp⟩
  rw [hV]
  exact (Below.heap_alloc _ _ _ (by simp [World.setCell]; omega)).trans ((Below.heap_alloc _ _ _ (by simp [World.setCell]; omega)).trans ((Below.heap_alloc _ _ _ (by simp [World.setCell]; omega)).trans (h.ln.oc.set1 _)))
 have hB : V.heap[w.heap.size]? = some (.cells #[.int .u16 k.1, .string k.2] 35 (0, 0)) := by
  rw [hV]
  have z0 : (w.setCell ⟨o, 1, none⟩ (.map (some (w.heap.size + 1)))).heap.size = w.heap.size := by simp [World.setCell]
  have := heap_alloc_new (w.setCell ⟨o, 1, none⟩ (.map (some (w.heap.size + 1)))) (.cells #[.int .u16 k.1, .string k.2] 35)
  rw [z0] at this
  exact (Below.heap_alloc _ _ _ (by rw [World.size_alloc, z1]; omega)).trans ((Below.heap_alloc _ _ _ (by rw [z1]; omega)).trans this)
 have hV0 : V.cell? ⟨w.heap.size, 0, none⟩ = some (.int .u16 k.1) := by simp [World.cell?, hB]
 have hV1 : V.cell? ⟨w.heap.size, 1, none⟩ = some (.string k.2) := by simp [World.cell?, hB]
 clear hB
 have cV := hL.oc.c1
 obtain ⟨ob, hu, hm2⟩ := (show MapAt V.drew (w.heap.size + 1) 0 (fun _ => none) from hmV.kept rfl).set (t := 226) Tryz.underlying226 (maxLen_big (by omega)) hk (PT (w.heap.size + 1 + 1))
 have HA := hid (enter_end (w := w) (m := none) hL hN hmV hk rfl ⟨fun e he => (by cases he), fun _ _ => rfl⟩ (by simp) (by simp) (fun e he => (by cases he)) (by omega) (fun e he => (by cases he)) (Or.inr (by omega)) TV hm2)
 rw [← hV]
 clear hV hL hN hmV hm2 TV H c1 f1 h hmm q60 z1 hk
 unfold PT at *
 unfold kv at *
 unfold LP at HA
 generalize setBlock V.drew (w.heap.size + 1) ob = W2 at *
 go_region
 go_wp2_with (go_at_call 176; refine HA.out.mono ?_; rintro e w3 ⟨rfl, r⟩; have R := hid r; clear r)
 go_end0
 exact ⟨rfl, R.out⟩
theorem enter30 (w : World) (o : Nat) (m : Option Nat) (most : Int) (L : List E) (k : K) (hk : Ok k) (hnk : ¬ k ∈ L.map Prod.fst) (hlen : L.length < 100000) (h : Od w o m most L) :
  Calls Tryz.prog 181 #[PT o, kv k] w fun x w' => x = .returned (.tuple #[]) ∧ EnQ w o m most L k w' := by
 cases m with
 | some b => exact enter30_some w o b most L k hk hnk hlen h
 | none =>
  obtain rfl : L = [] := by
   rcases h.mp with ⟨_, e⟩ | ⟨b, f, e, _⟩
   ·exact e
   ·cases e
  exact enter30_none w o most k hk h
end Go.Proofs.YtllchnancjgijaaGreat.Me
/- A region that draws its order and stores into what it reads: what is read may be taken first, under a condition on the world that holds till that store has come up. No conditions. -/
namespace Go.Proofs.YtllchnancjgijaaGreat
section
variable {P : Program} {ops : Array Oper} {Q : Exit → Act → World → Prop} {md : Region.Mode} {S : World → Prop} {st : Nat}
def wpL (P : Program) (md : Region.Mode) (ops : Array Oper) (Q : Exit → Act → World → Prop) (S : World → Prop) (st : Nat) : Nat → Array Bool → Act → World → Prop
 | 0, listed, a, w => Region.ready md ops listed = [] ∧ Q .normal a w
 | fuel + 1, listed, a, w =>
  (Region.ready md ops listed = [] → Q .normal a w) ∧
  ∀ i ∈ Region.ready md ops listed, wpOp P ops Q i (fun a' w' => ((listed.setIfInBounds i true).getD st true = false → S w') ∧ wpL P md ops Q S st fuel (listed.setIfInBounds i true) a' w') a w
theorem wpAny_of_wpL : ∀ (fuel : Nat) (listed : Array Bool) (a : Act) (w : World), wpL P md ops Q S st fuel listed a w → wpAny P md ops Q fuel listed a w
 | 0, _, _, _, h => h
 | fuel + 1, _, _, _, h => ⟨h.1, fun i hi => wpOp_mono (fun a' w' h' => wpAny_of_wpL fuel _ a' w' h'.2) (h.2 i hi)⟩
theorem getD_set_st {listed : Array Bool} {i st : Nat} (h : i ≠ st) : (listed.setIfInBounds i true).getD st true = listed.getD st true := getD_set_ne true h
theorem wpL_first {i : Nat} {oi : Oper} {v : Value} (hi : ops[i]? = some oi) (hsel : ∀ (j : Nat) (o : Oper) cs b, ops[j]? = some o → o.op ≠ .select cs b)
  (hQ : ∀ c a w, Q (.panic c) (a.put oi.dst v) w → Q (.panic c) a w) (hst : Region.waitsFor md ops st i = true) (hne : i ≠ st) :
  ∀ (fuel : Nat) (listed : Array Bool) (a : Act) (w : World), listed.getD st true = false →
   (∀ j oj, ops[j]? = some oj → j ≠ i → listed.getD j true = false → (∀ e ∈ oj.after, Region.binds md e = true → e.on ≠ i) → oi.apart ops oj = true) →
   i ∈ Region.ready md ops listed → YieldsIf P ops S oi v a → S w →
   wpL P md ops Q S st fuel (listed.setIfInBounds i true) (a.put oi.dst v) w → wpL P md ops Q S st (fuel + 1) listed a w := by
 intro fuel
 induction fuel with
 | zero =>
  intro listed a w _ _ hr hy hS H
  refine ⟨fun h => (by rw [h] at hr; cases hr), fun j hj => ?_⟩
  by_cases hji : j = i
  ·subst hji; exact hy.wpOp hi hS ⟨fun _ => hS, H⟩
  ·have := ready_mono hj hji
   rw [H.1] at this
   cases this
 | succ fuel ih =>
  intro listed a w hl hfree hr hy hS H
  refine ⟨fun h => (by rw [h] at hr; cases hr), fun j hj => ?_⟩
  by_cases hji : j = i
  ·subst hji; exact hy.wpOp hi hS ⟨fun _ => hS, H⟩
  ·have h1 := H.2 j (ready_mono hj hji)
   obtain ⟨hjun, oj, hoj, hall⟩ := mem_ready.1 hj
   have hnot : ∀ e ∈ oj.after, Region.binds md e = true → e.on ≠ i := fun e he hb heq => by
    have h1 := hall e he hb
    have h0 := (mem_ready.1 hr).1
    rw [heq] at h1
    rcases Nat.lt_or_ge i listed.size with h' | h'
    ·simp [h'] at h0 h1; rw [h0] at h1; cases h1
    ·simp [Array.getElem?_eq_none h'] at h1
   have hjst : j ≠ st := fun e => by
    obtain ⟨os, hos, e', he', hb', hon⟩ := Region.waitsFor_spec hst
    rw [← e, hoj] at hos
    cases hos
    exact hnot e' he' hb' hon
   have h2 := wpOp_putIf hoj (hfree j oj hoj hji hjun hnot) (fun cs b => hsel i oi cs b hi) (fun cs b => hsel j oj cs b hoj) hQ hy h1
   have hfree' : ∀ k ok, ops[k]? = some ok → k ≠ i → (listed.setIfInBounds j true).getD k true = false →
     (∀ e ∈ ok.after, Region.binds md e = true → e.on ≠ i) → oi.apart ops ok = true := fun k ok hk hki hun hno => by
    refine hfree k ok hk hki ?_ hno
    by_cases hjk : j = k
    ·subst hjk; exact hjun
    ·rw [getD_set_ne true hjk] at hun; exact hun
   have hl' : (listed.setIfInBounds j true).getD st true = false := by rw [getD_set_st hjst]; exact hl
   have hl2 : ((listed.setIfInBounds i true).setIfInBounds j true).getD st true = false := by rw [getD_set_st hjst, getD_set_st hne]; exact hl
   refine wpOp_mono (fun a' w' h3 => ⟨fun _ => h3.2.1 hl2, ih (listed.setIfInBounds j true) a' w' hl' hfree' (ready_mono hr (Ne.symm hji)) h3.1 (h3.2.1 hl2) ?_⟩) h2
   rw [Array.setIfInBounds_comm _ _ hji]
   exact h3.2.2
theorem wpL_any {i : Nat} {oi : Oper} {v : Value} (hi : ops[i]? = some oi) (hsel : ∀ (j : Nat) (o : Oper) cs b, ops[j]? = some o → o.op ≠ .select cs b)
  (hQ : ∀ c a w, Q (.panic c) (a.put oi.dst v) w → Q (.panic c) a w) (hne : i ≠ st) :
  ∀ (fuel : Nat) (listed : Array Bool) (a : Act) (w : World),
   (∀ j oj, ops[j]? = some oj → j ≠ i → listed.getD j true = false → (∀ e ∈ oj.after, Region.binds md e = true → e.on ≠ i) → oi.apart ops oj = true) →
   i ∈ Region.ready md ops listed → YieldsIf P ops (fun _ => True) oi v a → (listed.getD st true = false → S w) →
   wpL P md ops Q S st fuel (listed.setIfInBounds i true) (a.put oi.dst v) w → wpL P md ops Q S st (fuel + 1) listed a w := by
 intro fuel
 induction fuel with
 | zero =>
  intro listed a w _ hr hy hS H
  refine ⟨fun h => (by rw [h] at hr; cases hr), fun j hj => ?_⟩
  by_cases hji : j = i
  ·subst hji; exact hy.wpOp hi trivial ⟨fun h => hS (by rw [← getD_set_st hne]; exact h), H⟩
  ·have := ready_mono hj hji
   rw [H.1] at this
   cases this
 | succ fuel ih =>
  intro listed a w hfree hr hy hS H
  refine ⟨fun h => (by rw [h] at hr; cases hr), fun j hj => ?_⟩
  by_cases hji : j = i
  ·subst hji; exact hy.wpOp hi trivial ⟨fun h => hS (by rw [← getD_set_st hne]; exact h), H⟩
  ·have h1 := H.2 j (ready_mono hj hji)
   obtain ⟨hjun, oj, hoj, hall⟩ := mem_ready.1 hj
   have hnot : ∀ e ∈ oj.after, Region.binds md e = true → e.on ≠ i := fun e he hb heq => by
    have h1 := hall e he hb
    have h0 := (mem_ready.1 hr).1
    rw [heq] at h1
    rcases Nat.lt_or_ge i listed.size with h' | h'
    ·simp [h'] at h0 h1; rw [h0] at h1; cases h1
    ·simp [Array.getElem?_eq_none h'] at h1
   have h2 := wpOp_putIf hoj (hfree j oj hoj hji hjun hnot) (fun cs b => hsel i oi cs b hi) (fun cs b => hsel j oj cs b hoj) hQ hy h1
   have hfree' : ∀ k ok, ops[k]? = some ok → k ≠ i → (listed.setIfInBounds j true).getD k true = false →
     (∀ e ∈ ok.after, Region.binds md e = true → e.on ≠ i) → oi.apart ops ok = true := fun k ok hk hki hun hno => by
    refine hfree k ok hk hki ?_ hno
    by_cases hjk : j = k
    ·subst hjk; exact hjun
    ·rw [getD_set_ne true hjk] at hun; exact hun
   have hS' : ∀ {w' : World}, (((listed.setIfInBounds i true).setIfInBounds j true).getD st true = false → S w') → (listed.setIfInBounds j true).getD st true = false → S w' := fun {w'} h hh => h (by
    rw [Array.setIfInBounds_comm _ _ (Ne.symm hji), getD_set_st hne]
    exact hh)
   refine wpOp_mono (fun a' w' h3 => ⟨hS' h3.2.1, ih (listed.setIfInBounds j true) a' w' hfree' (ready_mono hr (Ne.symm hji)) h3.1 (hS' h3.2.1) ?_⟩) h2
   rw [Array.setIfInBounds_comm _ _ hji]
   exact h3.2.2
theorem wpL_take {i : Nat} {oi : Oper} {v : Value} {fuel : Nat} {listed : Array Bool} {a : Act} {w : World} (d : Option Tmp) (hi : ops[i]? = some oi) (hd : oi.dst = d)
  (hs : Region.noSelect ops = true) (hf : Region.free md ops listed i = true) (hr : (Region.ready md ops listed).contains i = true) (hst : Region.waitsFor md ops st i = true) (hl : listed.getD st true = false) (hne : i ≠ st)
  (hQ : ∀ c a w, Q (.panic c) (a.put oi.dst v) w → Q (.panic c) a w) (hy : YieldsIf P ops S oi v a) (hS : S w)
  (h : wpL P md ops Q S st fuel (listed.setIfInBounds i true) (a.put d v) w) : wpL P md ops Q S st (fuel + 1) listed a w :=
 wpL_first hi (Region.noSelect_spec hs) hQ hst hne fuel listed a w hl (Region.free_spec hi hf) (by simpa using hr) hy hS (by rw [hd]; exact h)
theorem wpL_takeY {i : Nat} {oi : Oper} {v : Value} {fuel : Nat} {listed : Array Bool} {a : Act} {w : World} (d : Option Tmp) (hi : ops[i]? = some oi) (hd : oi.dst = d)
  (hs : Region.noSelect ops = true) (hf : Region.free md ops listed i = true) (hr : (Region.ready md ops listed).contains i = true) (hne : i ≠ st)
  (hQ : ∀ c a w, Q (.panic c) (a.put oi.dst v) w → Q (.panic c) a w) (hy : YieldsIf P ops (fun _ => True) oi v a) (hS : listed.getD st true = false → S w)
  (h : wpL P md ops Q S st fuel (listed.setIfInBounds i true) (a.put d v) w) : wpL P md ops Q S st (fuel + 1) listed a w :=
 wpL_any hi (Region.noSelect_spec hs) hQ hne fuel listed a w (Region.free_spec hi hf) (by simpa using hr) hy hS (by rw [hd]; exact h)
def AllL (P : Program) (md : Region.Mode) (ops : Array Oper) (Q : Exit → Act → World → Prop) (S : World → Prop) (st fuel : Nat) (listed : Array Bool) (a : Act) (w : World) (rs : List Nat) : Prop :=
 ∀ i ∈ rs, wpOp P ops Q i (fun a' w' => ((listed.setIfInBounds i true).getD st true = false → S w') ∧ wpL P md ops Q S st fuel (listed.setIfInBounds i true) a' w') a w
theorem AllL.nil {fuel : Nat} {listed : Array Bool} {a : Act} {w : World} : AllL P md ops Q S st fuel listed a w [] := fun _ h => by cases h
theorem AllL.cons {fuel : Nat} {listed : Array Bool} {a : Act} {w : World} {i : Nat} {o : Oper} {rs : List Nat} (ho : ops[i]? = some o)
  (h : ∀ K' : Act → World → Prop, Shut (∀ a w, ((listed.setIfInBounds i true).getD st true = false → S w) → wpL P md ops Q S st fuel (listed.setIfInBounds i true) a w → K' a w) → if Region.wanted o (yielded ops a.tmps) = true then Oper.wp P o a w K' Q else K' (a.put o.dst undef) w)
  (hs : AllL P md ops Q S st fuel listed a w rs) : AllL P md ops Q S st fuel listed a w (i :: rs) := fun j hj => by
 rcases List.mem_cons.1 hj with rfl | hj
 ·exact wpOp_step ho (fun K' hK => h K' (fun a w hS hW => hK a w ⟨hS, hW⟩))
 ·exact hs j hj
theorem wpL_ready {rs : List Nat} {fuel : Nat} {listed : Array Bool} {a : Act} {w : World} (hr : Region.ready md ops listed = rs) (hne : rs ≠ [])
  (h : AllL P md ops Q S st fuel listed a w rs) : wpL P md ops Q S st (fuel + 1) listed a w := ⟨fun h0 => absurd (hr ▸ h0) hne, hr ▸ h⟩
theorem wpL_done {listed : Array Bool} {a : Act} {w : World} (hr : Region.ready md ops listed = []) (h : Q .normal a w) : ∀ fuel, wpL P md ops Q S st fuel listed a w
 | 0 => ⟨hr, h⟩
 | _ + 1 => ⟨fun _ => h, by rw [hr]; simp⟩
theorem wp_region_L {id : Nat} {a : Act} {w : World} (hm : P.follows .mixedOrders = true)
  (h : wpL P .any ops Q S st ops.size (Array.replicate ops.size false) a w.drew) : (Code.region id ops true).wp P Q a w :=
 wp_region_any hm (wpAny_of_wpL _ _ _ _ h)
end
end Go.Proofs.YtllchnancjgijaaGreat
/- The contracts of Touch and Drop; no conditions but those that each states. -/
namespace Go.Proofs.YtllchnancjgijaaGreat.Me
open Go.RowKit Go.Sort Go.Maps Go.ChangeMaps Go.WideMaps
def bx (k : K) : Obj := .cells #[.int .u16 k.1, .string k.2] 35
theorem box_cells (w : World) (k : K) : ∀ w2, Touch [] (w.alloc (bx k)) w2 → w2.cell? ⟨w.heap.size, 0, none⟩ = some (.int .u16 k.1) ∧ w2.cell? ⟨w.heap.size, 1, none⟩ = some (.string k.2) := fun w2 t => by
 have h := t.keep (k := w.heap.size) (heap_alloc_new w (bx k)) (by simp)
 unfold bx at h
 simp [World.cell?, h]
theorem find_key {L : List E} {k : K} (h : k ∈ L.map Prod.fst) : ∃ A e B, L = A ++ e :: B ∧ e.1 = k := by
 obtain ⟨e, he, rfl⟩ := List.mem_map.1 h
 obtain ⟨A, B, rfl⟩ := List.append_of_mem he
 exact ⟨A, e, B, rfl, rfl⟩
theorem mapAt_away {w : World} {o : Nat} {m : Option Nat} {most : Int} {L : List E} (h : Od w o m most L) {b n : Nat} {f : K → Option Value} (hm : MapAt w b n f) : ¬ b ∈ fpL o L := fun hb => by
 obtain ⟨cs, t, fr, hc⟩ := h.ln.cells b hb
 exact hm.ne_block hc rfl
theorem nd_mid {A B : List E} {e : E} (h : ((A ++ e :: B).map Prod.fst).Nodup) : (∀ e' ∈ A, e'.1 ≠ e.1) ∧ (∀ e' ∈ B, e'.1 ≠ e.1) ∧ ((A ++ B).map Prod.fst).Nodup ∧ ((A ++ B ++ [e]).map Prod.fst).Nodup := by
 simp only [List.map_append, List.map_cons, List.nodup_append, List.nodup_cons, List.mem_map, List.mem_cons, List.map_nil, List.not_mem_nil, List.nodup_nil, List.mem_append] at h ⊢
 obtain ⟨h1, ⟨h2, h3⟩, h4⟩ := h
 have a1 : ∀ e' ∈ A, e'.1 ≠ e.1 := fun e' he => h4 _ ⟨e', he, rfl⟩ _ (Or.inl rfl)
 have a2 : ∀ e' ∈ B, e'.1 ≠ e.1 := fun e' he h => h2 ⟨e', he, h⟩
 have a3 : ∀ (a : K), (∃ a_1, a_1 ∈ A ∧ a_1.fst = a) → ∀ (b : K), (∃ a, a ∈ B ∧ a.fst = b) → a ≠ b := fun a ha b hb => h4 a ha b (Or.inr hb)
 refine ⟨a1, a2, ⟨h1, h3, a3⟩, ⟨h1, h3, a3⟩, ⟨not_false, trivial⟩, ?_⟩
 rintro a ha b (rfl | hb)
 ·rcases ha with ⟨x, hx, rfl⟩ | ⟨x, hx, rfl⟩
  ·exact a1 x hx
  ·exact a2 x hx
 ·exact hb.elim
def RmS (w : World) (o : Nat) (m : Option Nat) (most : Int) (A B : List E) (e : E) (w3 : World) : Prop :=
 Ln w3 o most m (A ++ B) ∧ Touch (fpL o (A ++ e :: B)) w w3 ∧ ∃ a z, Nd w3 e.2 e.1 a z
theorem rm (w w2 : World) (o : Nat) (m : Option Nat) (most : Int) (A B : List E) (e : E) (h : Od w o m most (A ++ e :: B)) (t : Touch [] w w2) :
  Calls Tryz.prog 164 #[LP o, PT e.2] w2 fun x w' => x = .returned (.tuple #[]) ∧ RmS w o m most A B e w' := by
 have h2 := h.keep0 t
 refine (remove34 w2 o most m A B e h2.ln).mono ?_
 rintro x w' ⟨rfl, h3, t3, hk⟩
 obtain ⟨a, z, hn⟩ := h2.ln.sg.mem e (by simp)
 exact ⟨rfl, h3, (t.mono (fun _ e => by cases e)).trans' t3, a, z, hn.keep hk⟩
def TcQ (w : World) (o : Nat) (m : Option Nat) (most : Int) (A B : List E) (e : E) (w' : World) : Prop :=
 Od w' o m most (A ++ B ++ [e]) ∧ Touch (fp o m (A ++ e :: B)) w w'
theorem touch_end (w w3 : World) (o : Nat) (m : Option Nat) (most : Int) (A B : List E) (e : E) (h : Od w o m most (A ++ e :: B)) (t : RmS w o m most A B e w3) :
  Calls Tryz.prog 176 #[LP o, PT e.2] w3 fun x w' => x = .returned (.tuple #[]) ∧ TcQ w o m most A B e w' := by
 obtain ⟨h3, t3, a, z, hn⟩ := t
 obtain ⟨q1, q2, q3, q4, q5⟩ := nb_ne h.ln.nb
 refine (add35 w3 o most m (A ++ B) e a z h3 hn (fun e' he => (List.mem_append.1 he).elim (q1 e') (q2 e'))).mono ?_
 rintro x w' ⟨rfl, h4, t4⟩
 have hsub : ∀ i, i ∈ e.2 :: fpL o (A ++ B) → i ∈ fpL o (A ++ e :: B) := fun i hi => by
  simp only [fpL, List.mem_cons, List.map_append, List.mem_append, List.map_cons] at hi ⊢
  rcases hi with hi | hi | hi | hi
  ·exact Or.inr (Or.inr (Or.inl hi))
  ·exact Or.inl hi
  ·exact Or.inr (Or.inl hi)
  ·exact Or.inr (Or.inr (Or.inr hi))
 have tt : Touch (fpL o (A ++ e :: B)) w w' := t3.trans' (t4.mono hsub)
 refine ⟨rfl, ⟨h4, (nd_mid h.nd).2.2.2, fun e' he => h.ok e' ?_, ?_⟩, tt.mono (fun i hi => fpL_fp hi)⟩
 ·simp only [List.mem_append, List.mem_cons, List.not_mem_nil, or_false] at he ⊢
  rcases he with (he | he) | he
  ·exact Or.inl he
  ·exact Or.inr (Or.inr he)
  ·exact Or.inr (Or.inl he)
 ·rcases h.mp with ⟨_, e0⟩ | ⟨b, f, rfl, hm, hf⟩
  ·simp at e0
  ·refine Or.inr ⟨b, f, rfl, ?_, fun e' he => hf.1 e' ?_, fun k hk => hf.2 k (fun h => hk ?_)⟩
   ·have : (A ++ B ++ [e]).length = (A ++ e :: B).length := by simp only [List.length_append, List.length_cons, List.length_nil]; omega
    rw [this]
    exact hm.kept (tt.block b hm.lt (mapAt_away h hm))
   ·simp only [List.mem_append, List.mem_cons, List.not_mem_nil, or_false] at he ⊢
    rcases he with (he | he) | he
    ·exact Or.inl he
    ·exact Or.inr (Or.inr he)
    ·exact Or.inr (Or.inl he)
   ·simp only [List.map_append, List.map_cons, List.map_nil, List.mem_append, List.mem_cons, List.not_mem_nil, or_false] at h ⊢
    rcases h with h | h | h
    ·exact Or.inl (Or.inl h)
    ·exact Or.inr h
    ·exact Or.inl (Or.inr h)
theorem touch17_no (w : World) (o : Nat) (m : Option Nat) (most : Int) (L : List E) (k : K) (hk : Ok k) (hn : ¬ k ∈ L.map Prod.fst) (h : Od w o m most L) : Calls Tryz.prog 132 #[PT o, kv k] w fun x w' => x = .returned (.bool false) ∧ Touch [] w w' := by
 have HH := hid (has19_no (w.alloc (bx k)) o m most L k hk hn (h.keep0 ((Touch.refl _ _).alloc _)))
 clear h
 unfold PT kv bx at *
 go_enter Tryz.func132, Tryz.ntmps132
 go_wp2_with (go_at_call 163; refine HH.out.mono ?_; rintro x w2 ⟨rfl, t2⟩)
 go_ret
 exact ⟨rfl, ((Touch.refl _ _).alloc _).trans' t2⟩
set_option maxHeartbeats 2000000 in
theorem touch17_yes (w : World) (o : Nat) (m : Option Nat) (most : Int) (A B : List E) (e : E) (h : Od w o m most (A ++ e :: B)) : Calls Tryz.prog 132 #[PT o, kv e.1] w fun x w' => x = .returned (.bool true) ∧ TcQ w o m most A B e w' := by
 have T0 : Touch [] w (w.alloc (bx e.1)) := (Touch.refl _ _).alloc _
 have HH := hid (has19_yes (w.alloc (bx e.1)) o m most _ e (by simp) (h.keep0 T0))
 have HR := hid (fun w2 t => rm w w2 o m most A B e h t)
 have HA := hid (fun w3 t => touch_end w w3 o m most A B e h t)
 have HC : Hid (∀ w2, Touch [] w w2 → w2.cell? ⟨o, 1, none⟩ = some (.map m) ∧ (Instr.lookup 226 (.map m) (kv e.1) false).run Tryz.prog w2 = .ok (PT e.2) w2) := fun w2 t => ⟨(h.keep0 t).ln.oc.c1, (h.keep0 t).look_yes (by simp)⟩
 have HB := hid (box_cells w e.1)
 clear h
 unfold PT kv LP bx at *
 go_enter Tryz.func132, Tryz.ntmps132
 go_wp2_with (go_at_call 163; refine HH.out.mono ?_; rintro x w2 ⟨rfl, t2⟩; have T2 := T0.trans' t2; have c1 := (HC.out w2 T2).1; have hl := fun n => (HC.out (w2.drewN n) (T2.drewN n)).2; obtain ⟨b0, b1⟩ := HB.out w2 t2; clear t2)
 go_quiet (fail)
 go_wp2_with (first
  | (go_at_call 164; refine (HR.out _ (T2.drewN _)).mono ?_; rintro x w3 ⟨rfl, r3⟩; have R3 := hid r3; clear r3)
  | (go_at_call 176; refine (HA.out _ R3.out).mono ?_; rintro x w4 ⟨rfl, r4⟩; have R4 := hid r4; clear r4))
 go_ret
 exact ⟨rfl, R4.out⟩
end Go.Proofs.YtllchnancjgijaaGreat.Me
