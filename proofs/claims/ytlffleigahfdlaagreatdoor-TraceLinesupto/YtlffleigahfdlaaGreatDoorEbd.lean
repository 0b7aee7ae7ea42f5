/- The library's builder, laid at this program: writing a string, and what it holds; one application of a theorem of the library each. -/
import Derived.Test.YtlffleigahfdlaaGreatDoorEva
import Derived.Lib.IndexAny
import Derived.Shelf.Strings.BuilderK
import Derived.Deep.RegionWith
namespace Go.Proofs.YtlffleigahfdlaaGreatDoor.Tr
open Go.RowKit Go.Sort Go.Shelf
set_option linter.unusedVariables false
def bren : Go.Shelf.Ren := ⟨fun | 166 => 57 | 167 => 101 | 169 => 58 | 240 => 91 | 276 => 114 | n => n, fun | 37 => 96 | 70 => 101 | 72 => 103 | 75 => 105 | 164 => 157 | 127 => 137 | 80 => 62 | n => n, fun | n => n⟩
theorem blays : Go.Proofs.Lays.n166 Tryz.prog bren := {
  mixed := by kernel_rfl
  f166 := Tryz.func57.trans (congrArg some (by kernel_rfl))
  f240 := Tryz.func91.trans (congrArg some (by kernel_rfl))
  f276 := Tryz.func114.trans (congrArg some (by kernel_rfl))
  t0 := Tryz.underlying0
  a0 := Tryz.isAgg0
  z0 := Tryz.sizeOf0
  v0 := Tryz.zeroValue0
  t3 := Tryz.underlying3
  a3 := Tryz.isAgg3
  z3 := Tryz.sizeOf3
  v3 := Tryz.zeroValue3
  t4 := Tryz.underlying4
  a4 := Tryz.isAgg4
  z4 := Tryz.sizeOf4
  v4 := Tryz.zeroValue4
  t9 := Tryz.underlying9
  a9 := Tryz.isAgg9
  z9 := Tryz.sizeOf9
  v9 := Tryz.zeroValue9
  t20 := Tryz.underlying20
  a20 := Tryz.isAgg20
  z20 := Tryz.sizeOf20
  v20 := Tryz.zeroValue20
  t37 := Tryz.underlying96
  a37 := Tryz.isAgg96
  z37 := Tryz.sizeOf96
  v37 := Tryz.zeroValue96
  t70 := Tryz.underlying101
  a70 := Tryz.isAgg101
  z70 := Tryz.sizeOf101
  v70 := Tryz.zeroValue101
  t72 := Tryz.underlying103
  a72 := Tryz.isAgg103
  z72 := Tryz.sizeOf103
  v72 := Tryz.zeroValue103
  t75 := Tryz.underlying105
  a75 := Tryz.isAgg105
  z75 := Tryz.sizeOf105
  v75 := Tryz.zeroValue105
  t164 := Tryz.underlying157
  a164 := Tryz.isAgg157
  z164 := Tryz.sizeOf157
  v164 := Tryz.zeroValue157 }
theorem blayb : Go.Proofs.Lays.n167 Tryz.prog bren := {
  mixed := by kernel_rfl
  f167 := Tryz.func101.trans (congrArg some (by kernel_rfl))
  f240 := Tryz.func91.trans (congrArg some (by kernel_rfl))
  f276 := Tryz.func114.trans (congrArg some (by kernel_rfl))
  t0 := Tryz.underlying0
  a0 := Tryz.isAgg0
  z0 := Tryz.sizeOf0
  v0 := Tryz.zeroValue0
  t5 := Tryz.underlying5
  a5 := Tryz.isAgg5
  z5 := Tryz.sizeOf5
  v5 := Tryz.zeroValue5
  t4 := Tryz.underlying4
  a4 := Tryz.isAgg4
  z4 := Tryz.sizeOf4
  v4 := Tryz.zeroValue4
  t9 := Tryz.underlying9
  a9 := Tryz.isAgg9
  z9 := Tryz.sizeOf9
  v9 := Tryz.zeroValue9
  t20 := Tryz.underlying20
  a20 := Tryz.isAgg20
  z20 := Tryz.sizeOf20
  v20 := Tryz.zeroValue20
  t37 := Tryz.underlying96
  a37 := Tryz.isAgg96
  z37 := Tryz.sizeOf96
  v37 := Tryz.zeroValue96
  t70 := Tryz.underlying101
  a70 := Tryz.isAgg101
  z70 := Tryz.sizeOf101
  v70 := Tryz.zeroValue101
  t72 := Tryz.underlying103
  a72 := Tryz.isAgg103
  z72 := Tryz.sizeOf103
  v72 := Tryz.zeroValue103
  t75 := Tryz.underlying105
  a75 := Tryz.isAgg105
  z75 := Tryz.sizeOf105
  v75 := Tryz.zeroValue105
  t164 := Tryz.underlying157
  a164 := Tryz.isAgg157
  z164 := Tryz.sizeOf157
  v164 := Tryz.zeroValue157 }
theorem blayt : Go.Proofs.Lays.n169 Tryz.prog bren := {
  mixed := by kernel_rfl
  f169 := Tryz.func58.trans (congrArg some (by kernel_rfl))
  t0 := Tryz.underlying0
  a0 := Tryz.isAgg0
  z0 := Tryz.sizeOf0
  v0 := Tryz.zeroValue0
  t3 := Tryz.underlying3
  a3 := Tryz.isAgg3
  z3 := Tryz.sizeOf3
  v3 := Tryz.zeroValue3
  t9 := Tryz.underlying9
  a9 := Tryz.isAgg9
  z9 := Tryz.sizeOf9
  v9 := Tryz.zeroValue9
  t37 := Tryz.underlying96
  a37 := Tryz.isAgg96
  z37 := Tryz.sizeOf96
  v37 := Tryz.zeroValue96
  t70 := Tryz.underlying101
  a70 := Tryz.isAgg101
  z70 := Tryz.sizeOf101
  v70 := Tryz.zeroValue101
  t72 := Tryz.underlying103
  a72 := Tryz.isAgg103
  z72 := Tryz.sizeOf103
  v72 := Tryz.zeroValue103
  t127 := Tryz.underlying137
  a127 := Tryz.isAgg137
  z127 := Tryz.sizeOf137
  v127 := Tryz.zeroValue137 }
theorem bextra : Go.Proofs.Builder.Extra Tryz.prog bren where
  sizeBuilder := by kernel_rfl
  liesBuilder := by kernel_rfl
  t5 := Tryz.underlying5
  a5 := Tryz.isAgg5
  z5 := Tryz.sizeOf5
  v5 := Tryz.zeroValue5
  infoByte := by kernel_rfl
  cellsByte := by kernel_rfl
  sizeByte := by kernel_rfl
  neB5 := by decide
/-- A builder that holds bytes. -/
def Bd (B b : Nat) (l : List UInt8) (w : World) : Prop := Lib.IsBuilderF 103 5 B b (Lib.byteCells l) w ∧ B ≤ w.heap.size ∧ b < w.heap.size
/-- What writing into a builder leaves alone. -/
structure Wr (B b : Nat) (w w' : World) : Prop where
  below : Below B w w'
  keep : ∀ k o, w.heap[k]? = some o → k ≠ b → (∀ c fz, o ≠ .cells c 5 fz) → w'.heap[k]? = some o
theorem Wr.refl (B b : Nat) (w : World) : Wr B b w w := ⟨Below.refl _ _, fun _ _ h _ _ => h⟩
theorem Wr.trans {B b : Nat} {w w1 w2 : World} (h : Wr B b w w1) (k : Wr B b w1 w2) : Wr B b w w2 := ⟨h.below.trans k.below, fun i o hi hb ho => k.keep i o (h.keep i o hi hb ho) hb ho⟩
theorem Wr.touch {B b : Nat} {w w1 w2 : World} (h : Wr B b w w1) (t : Touch [] w1 w2) (hB : B ≤ w.heap.size) : Wr B b w w2 :=
  ⟨h.below.trans (t.below (fun _ e => by cases e) (Nat.le_trans hB h.below.size)), fun i o hi hb ho => t.keep (h.keep i o hi hb ho) (by simp)⟩
theorem Wr.size {B b : Nat} {w w1 : World} (h : Wr B b w w1) : w.heap.size ≤ w1.heap.size := h.below.size
theorem Bd.touch {B b : Nat} {l : List UInt8} {w w' : World} (h : Bd B b l w) (t : Touch [] w w') : Bd B b l w' := by
  obtain ⟨h1, h2, h3⟩ := h
  have key : ∀ p, Lib.BuilderAtF 103 5 B b p (Lib.byteCells l) w → Lib.BuilderAtF 103 5 B b p (Lib.byteCells l) w' := fun p h => by
    have hlt := h.lt
    obtain ⟨hB, v, hb, hown, hne⟩ := h
    exact ⟨hB, v, (t.block b hlt (by simp)).trans hb, hown.kept (row := none) ⟨t.os, t.tape, t.output, t.size, fun k hk _ => t.block k hk (by simp)⟩ (by cases hv : v.ownBlock <;> simp), hne⟩
  exact ⟨h1.imp (key _) (key _), Nat.le_trans h2 t.size, Nat.lt_of_lt_of_le h3 t.size⟩
theorem Bd.new (w : World) : Bd w.heap.size w.heap.size [] (w.alloc (.cells #[.pointer none, .slice none 0 0] 103)) :=
  ⟨Lib.IsBuilderF.of (Lib.fresh_isBuilder 103 5 w), by simp, by simp⟩
theorem write_ {B b : Nat} {l : List UInt8} {w : World} (h : Bd B b l w) (s : ByteArray) (hl : l.length + s.size ≤ 140737488355328) :
    Calls Tryz.prog 57 #[PT b, .string s] w fun e w' => e = .returned (.tuple #[.int .i64 s.size, .nilIface]) ∧ Bd B b (l ++ s.data.toList) w' ∧ Wr B b w w' :=
  (Any.Builder_WriteString_k blays bextra B b (Lib.byteCells l) s w h.1 (by rw [Lib.byteCells_length]; exact hl) h.2.1).mono fun e w' ⟨he, h1, h2, h3⟩ => ⟨he, ⟨Or.inr (by rw [Lib.byteCells_append]; exact h1), Nat.le_trans h.2.1 h2.size, Nat.lt_of_lt_of_le h.2.2 h2.size⟩, h2, fun k o hk hb ho => h3 k o hk (fun e => hb (Option.some.inj e)) ho⟩
theorem writeB_ {B b : Nat} {l : List UInt8} {w : World} (h : Bd B b l w) (c : UInt8) (hl : l.length + 1 ≤ 140737488355328) :
    Calls Tryz.prog 101 #[PT b, .int .u8 c.toNat] w fun e w' => e = .returned .nilIface ∧ Bd B b (l ++ [c]) w' ∧ Wr B b w w' :=
  (Any.Builder_WriteByte_k blayb bextra B b (Lib.byteCells l) c.toNat w h.1 (by rw [Lib.byteCells_length]; exact hl) h.2.1).mono fun e w' ⟨he, h1, h2, h3⟩ => ⟨he, ⟨Or.inr (by rw [show Lib.byteCells (l ++ [c]) = Lib.byteCells l ++ [.int .u8 c.toNat] by simp [Lib.byteCells]]; exact h1), Nat.le_trans h.2.1 h2.size, Nat.lt_of_lt_of_le h.2.2 h2.size⟩, h2, fun k o hk hb ho => h3 k o hk (fun e => hb (Option.some.inj e)) ho⟩
theorem string_ {B b : Nat} {l : List UInt8} {w : World} (h : Bd B b l w) (h0 : l ≠ []) :
    Calls Tryz.prog 58 #[PT b] w fun e w' => e = .returned (.string ⟨l.toArray⟩) ∧ Wr B b w w' :=
  (Any.Builder_String_k blayt bextra B b l w h.1 h0).mono fun e w' ⟨he, h1, h2, h3⟩ => ⟨he, h2, fun k o hk hb ho => h3 k o hk (fun e => hb (Option.some.inj e)) ho⟩
end Go.Proofs.YtlffleigahfdlaaGreatDoor.Tr
