/- The library's builder, laid at this program: writing a string, and what it holds; one application of a theorem of the library each. -/
import Derived.Test.YthakboiecdjgnaaDoorCth
import Derived.Shelf.Strings.BuilderK
import Derived.Deep.RegionWith
namespace Go.Proofs.YthakboiecdjgnaaDoor.Ci
open Go.RowKit Go.Sort Go.Shelf
set_option linter.unusedVariables false
def bren : Go.Shelf.Ren := ⟨fun | 166 => 32 | 169 => 34 | 240 => 49 | 276 => 70 | n => n, fun | 37 => 87 | 70 => 86 | 72 => 89 | 75 => 92 | 164 => 150 | 127 => 128 | 80 => 96 | n => n, fun | n => n⟩
theorem blays : Go.Proofs.Lays.n166 Tryd.prog bren := {
  mixed := by kernel_rfl
  f166 := Tryd.func32.trans (congrArg some (by kernel_rfl))
  f240 := Tryd.func49.trans (congrArg some (by kernel_rfl))
  f276 := Tryd.func70.trans (congrArg some (by kernel_rfl))
  t0 := Tryd.underlying0
  a0 := Tryd.isAgg0
  z0 := Tryd.sizeOf0
  v0 := Tryd.zeroValue0
  t3 := Tryd.underlying3
  a3 := Tryd.isAgg3
  z3 := Tryd.sizeOf3
  v3 := Tryd.zeroValue3
  t4 := Tryd.underlying4
  a4 := Tryd.isAgg4
  z4 := Tryd.sizeOf4
  v4 := Tryd.zeroValue4
  t9 := Tryd.underlying9
  a9 := Tryd.isAgg9
  z9 := Tryd.sizeOf9
  v9 := Tryd.zeroValue9
  t20 := Tryd.underlying20
  a20 := Tryd.isAgg20
  z20 := Tryd.sizeOf20
  v20 := Tryd.zeroValue20
  t37 := Tryd.underlying87
  a37 := Tryd.isAgg87
  z37 := Tryd.sizeOf87
  v37 := Tryd.zeroValue87
  t70 := Tryd.underlying86
  a70 := Tryd.isAgg86
  z70 := Tryd.sizeOf86
  v70 := Tryd.zeroValue86
  t72 := Tryd.underlying89
  a72 := Tryd.isAgg89
  z72 := Tryd.sizeOf89
  v72 := Tryd.zeroValue89
  t75 := Tryd.underlying92
  a75 := Tryd.isAgg92
  z75 := Tryd.sizeOf92
  v75 := Tryd.zeroValue92
  t164 := Tryd.underlying150
  a164 := Tryd.isAgg150
  z164 := Tryd.sizeOf150
  v164 := Tryd.zeroValue150 }
theorem blayt : Go.Proofs.Lays.n169 Tryd.prog bren := {
  mixed := by kernel_rfl
  f169 := Tryd.func34.trans (congrArg some (by kernel_rfl))
  t0 := Tryd.underlying0
  a0 := Tryd.isAgg0
  z0 := Tryd.sizeOf0
  v0 := Tryd.zeroValue0
  t3 := Tryd.underlying3
  a3 := Tryd.isAgg3
  z3 := Tryd.sizeOf3
  v3 := Tryd.zeroValue3
  t9 := Tryd.underlying9
  a9 := Tryd.isAgg9
  z9 := Tryd.sizeOf9
  v9 := Tryd.zeroValue9
  t37 := Tryd.underlying87
  a37 := Tryd.isAgg87
  z37 := Tryd.sizeOf87
  v37 := Tryd.zeroValue87
  t70 := Tryd.underlying86
  a70 := Tryd.isAgg86
  z70 := Tryd.sizeOf86
  v70 := Tryd.zeroValue86
  t72 := Tryd.underlying89
  a72 := Tryd.isAgg89
  z72 := Tryd.sizeOf89
  v72 := Tryd.zeroValue89
  t127 := Tryd.underlying128
  a127 := Tryd.isAgg128
  z127 := Tryd.sizeOf128
  v127 := Tryd.zeroValue128 }
theorem bextra : Go.Proofs.Builder.Extra Tryd.prog bren where
  sizeBuilder := by kernel_rfl
  liesBuilder := by kernel_rfl
  t5 := Tryd.underlying5
  a5 := Tryd.isAgg5
  z5 := Tryd.sizeOf5
  v5 := Tryd.zeroValue5
  infoByte := by kernel_rfl
  cellsByte := by kernel_rfl
  sizeByte := by kernel_rfl
  neB5 := by decide
/-- A builder that holds bytes. -/
def Bd (B b : Nat) (l : List UInt8) (w : World) : Prop := Lib.IsBuilderF 89 5 B b (Lib.byteCells l) w ∧ B ≤ w.heap.size ∧ b < w.heap.size
/-- What writing into a builder leaves alone. -/
structure Wr (B b : Nat) (w w' : World) : Prop where
  below : Below B w w'
  keep : ∀ k o, w.heap[k]? = some o → k ≠ b → (∀ c fz, o ≠ .cells c 5 fz) → w'.heap[k]? = some o
theorem Wr.refl (B b : Nat) (w : World) : Wr B b w w := ⟨Below.refl _ _, fun _ _ h _ _ => h⟩
theorem Wr.trans {B b : Nat} {w w1 w2 : World} (h : Wr B b w w1) (k : Wr B b w1 w2) : Wr B b w w2 := ⟨h.below.trans k.below, fun i o hi hb ho => k.keep i o (h.keep i o hi hb ho) hb ho⟩
theorem Wr.touch {B b : Nat} {w w1 w2 : World} (h : Wr B b w w1) (t : Touch [] w1 w2) (hB : B ≤ w.heap.size) : Wr B b w w2 :=
  ⟨h.below.trans (t.below (fun _ e => by cases e) (Nat.le_trans hB h.below.size)), fun i o hi hb ho => t.keep (h.keep i o hi hb ho) (by simp)⟩
theorem Wr.size {B b : Nat} {w w1 : World} (h : Wr B b w w1) : w.heap.size ≤ w1.heap.size := h.below.size
theorem Bd.touch {B b : Nat} {l : List UInt8} {w w' : World} (h : Bd B b l w) (t : Touch [] w w') : Bd B b l w' := by
  obtain ⟨h1, h2, h3⟩ := h
  have key : ∀ p, Lib.BuilderAtF 89 5 B b p (Lib.byteCells l) w → Lib.BuilderAtF 89 5 B b p (Lib.byteCells l) w' := fun p h => by
    have hlt := h.lt
    obtain ⟨hB, v, hb, hown, hne⟩ := h
    exact ⟨hB, v, (t.block b hlt (by simp)).trans hb, hown.kept (row := none) ⟨t.os, t.tape, t.output, t.size, fun k hk _ => t.block k hk (by simp)⟩ (by cases hv : v.ownBlock <;> simp), hne⟩
  exact ⟨h1.imp (key _) (key _), Nat.le_trans h2 t.size, Nat.lt_of_lt_of_le h3 t.size⟩
theorem Bd.new (w : World) : Bd w.heap.size w.heap.size [] (w.alloc (.cells #[.pointer none, .slice none 0 0] 89)) :=
  ⟨Lib.IsBuilderF.of (Lib.fresh_isBuilder 89 5 w), by simp, by simp⟩
theorem write_ {B b : Nat} {l : List UInt8} {w : World} (h : Bd B b l w) (s : ByteArray) (hl : l.length + s.size ≤ 140737488355328) :
    Calls Tryd.prog 32 #[PT b, .string s] w fun e w' => e = .returned (.tuple #[.int .i64 s.size, .nilIface]) ∧ Bd B b (l ++ s.data.toList) w' ∧ Wr B b w w' :=
  (Any.Builder_WriteString_k blays bextra B b (Lib.byteCells l) s w h.1 (by rw [Lib.byteCells_length]; exact hl) h.2.1).mono fun e w' ⟨he, h1, h2, h3⟩ => ⟨he, ⟨Or.inr (by rw [Lib.byteCells_append]; exact h1), Nat.le_trans h.2.1 h2.size, Nat.lt_of_lt_of_le h.2.2 h2.size⟩, h2, fun k o hk hb ho => h3 k o hk (fun e => hb (Option.some.inj e)) ho⟩
theorem string_ {B b : Nat} {l : List UInt8} {w : World} (h : Bd B b l w) (h0 : l ≠ []) :
    Calls Tryd.prog 34 #[PT b] w fun e w' => e = .returned (.string ⟨l.toArray⟩) ∧ Wr B b w w' :=
  (Any.Builder_String_k blayt bextra B b l w h.1 h0).mono fun e w' ⟨he, h1, h2, h3⟩ => ⟨he, h2, fun k o hk hb ho => h3 k o hk (fun e => hb (Option.some.inj e)) ho⟩
end Go.Proofs.YthakboiecdjgnaaDoor.Ci
