/- The variables that reading and writing texts lean on, and what a call on a reader may touch; no conditions. -/
import Derived.Test.YtgjojdlbighoaaaDoorTxy
import Derived.Test.YtgjojdlbighoaaaDoorDos
import Derived.Deep.RegionHeld3
import Derived.Lib.AtoiErrMem
namespace Go.Proofs.YtgjojdlbighoaaaDoor
open Go.RowKit Go.Sort
set_option linter.unusedVariables false

def Tab (w : World) : Prop := Lib.TabIs Tryd.prog w "internal/strconv.uint64pow10" .u64 Lib.pow10Tab
theorem var_below {B : Nat} {w w' : World} {name : String} {cs : Array Value} {g : Nat} (hg : Tryd.prog.globalNamed name = some g) (h : Below B w w') (hB : g < B) (hv : w.var? Tryd.prog name = some cs) : w'.var? Tryd.prog name = some cs := by
  unfold World.var? at *
  rw [hg] at hv ⊢
  simp only [Option.bind_some] at hv ⊢
  rw [h.block g hB]
  exact hv
theorem var_lt {w : World} {name : String} {cs : Array Value} {g : Nat} (hg : Tryd.prog.globalNamed name = some g) (hv : w.var? Tryd.prog name = some cs) : g < w.heap.size := by
  unfold World.var? at hv
  rw [hg] at hv
  simp only [Option.bind_some] at hv
  by_cases h : g < w.heap.size
  · exact h
  · rw [Array.getElem?_eq_none (by omega)] at hv
    cases hv
theorem gTab : Tryd.prog.globalNamed "internal/strconv.uint64pow10" = some 1 := by kernel_rfl
theorem Tab.gr {w w' : World} (h : Tab w) (hg : Gr w w') : Tab w' := var_below gTab hg.below (var_lt gTab h) h
theorem gSyn : Tryd.prog.globalNamed "strconv.ErrSyntax" = some 3 := by kernel_rfl
/-- the variables that texts lean on -/
structure Sy (w : World) : Prop where
  kd : Kd w
  tab : Tab w
  es : ∃ te pe, w.var? Tryd.prog "strconv.ErrSyntax" = some #[.iface te pe]
  er : ∃ te pe, w.cell? ⟨4, 0, none⟩ = some (.iface te pe)
  ml : ∃ m, w.cell? ⟨2, 0, none⟩ = some (.int .i64 m)
theorem Sy.gr {w w' : World} (h : Sy w) (hg : Gr w w') : Sy w' := by
  obtain ⟨h0, h1, ⟨a, b, h2⟩, ⟨c, d, h3⟩, ⟨m, h4⟩⟩ := h
  exact ⟨h0.gr hg, h1.gr hg, ⟨a, b, var_below gSyn hg.below (var_lt gSyn h2) h2⟩, ⟨c, d, hg.cell' h3⟩, ⟨m, hg.cell' h4⟩⟩
theorem gr_grow (w : World) (n : Nat) (os : Array Obj) : Gr w (grow (w.drewN n) os) :=
  ⟨rfl, rfl, rfl, by rw [size_grow]; exact Nat.le_add_right _ _, fun k hk => heap_grow_old _ _ hk⟩
theorem format58 (n : Int) (h : I64 n) (w : World) (ht : Tab w) : Calls Tryd.prog 58 #[.int .i64 n, .int .i64 10] w fun e w' => e = .returned (.string (itoaB n)) ∧ Gr w w' :=
  Calls.mono (Tryd.strconv_FormatInt_10 n h.1 h.2 w ht) fun e w' ⟨he, k, os, hw⟩ => ⟨he, by rw [hw]; exact gr_grow w k os⟩
theorem cut80 (s : ByteArray) (w : World) (hS : Sy w) (hs : s.size ≤ 4194304) :
    Calls Tryd.prog 80 #[.string s, .string ⟨#[32]⟩] w fun e w' => e = .returned (.tuple #[.string ⟨(Lib.cut s.data.toList [32]).1.toArray⟩, .string ⟨(Lib.cut s.data.toList [32]).2.1.toArray⟩, .bool (Lib.cut s.data.toList [32]).2.2]) ∧ Gr w w' := by
  obtain ⟨m, hm⟩ := hS.ml
  exact (Tryd.strings_Cut s ⟨#[32]⟩ m w (by omega) hm).mono fun e w' ⟨he, n, hn⟩ => ⟨he, by rw [hn]; exact (Gr.refl w).drewN n⟩
/-- what the library's ParseInt answers -/
def PiE (s : ByteArray) (e : Ending) : Prop := ∃ n ev, e = .returned (.tuple #[.int .i64 n, ev]) ∧ I64 n ∧ ((ev = .nilIface ∧ Lib.atoiAll s.data.toList = .ok n) ∨ ((∃ t v, ev = .iface t v) ∧ ∀ v, Lib.atoiAll s.data.toList ≠ .ok v))
theorem parseInt81 (s : ByteArray) (w : World) (hS : Sy w) (hs : s.size ≤ 4194304) :
    Calls Tryd.prog 81 #[.string s, .int .i64 10, .int .i64 64] w fun e w' => PiE s e ∧ Gr w w' := by
  obtain ⟨te, pe, h3⟩ := hS.es
  obtain ⟨te', pe', h4⟩ := hS.er
  cases h : Lib.atoiAll s.data.toList with
  | ok v =>
    have hb := Lib.parseIntB_bounds (B := 64) (by rw [Lib.parseIntB_64]; exact h)
    refine (Tryd.strconv_ParseInt_10_at64_ok s (by omega) v (by rw [Lib.parseIntB_64]; exact h) w).mono fun e w' ⟨he, hw⟩ => ⟨⟨v, _, he, by unfold I64; omega, Or.inl ⟨rfl, h⟩⟩, ?_⟩
    rcases hw with rfl | ⟨t, rfl⟩
    · exact Gr.refl _
    · exact Lib.bytesWorld_below w 5 t
  | range =>
    refine (Tryd.strconv_ParseInt_10_at64_range s (by omega) (by rw [Lib.parseIntB_64]; exact h) _ w h4 (Or.inr ⟨_, _, rfl⟩)).mono fun e w' ⟨N, he, _, _, hb⟩ => ⟨⟨_, _, he, ?_, Or.inr ⟨⟨_, _, rfl⟩, fun v hv => by rw [h] at hv; cases hv⟩⟩, hb⟩
    unfold Lib.intSat I64
    split <;> decide
  | _ => exact Calls.mono (P := Tryd.prog) (f := 81) (Any.strconv_ParseInt_10_at64_syntax_var Tryd.laysC174 s (by omega) (by rw [Lib.parseIntB_64]; exact h) te pe w h3) fun e w' ⟨N, he, _, _, hb⟩ => ⟨⟨0, _, he, ⟨by decide, by decide⟩, Or.inr ⟨⟨_, _, rfl⟩, fun v hv => by rw [h] at hv; cases hv⟩⟩, hb⟩
/-- a call on a reader touches it alone -/
structure Gt (b : Nat) (w w' : World) : Prop where
  os : w'.os = w.os
  tape : w'.tape = w.tape
  output : w'.output = w.output
  size : w.heap.size ≤ w'.heap.size
  block : ∀ k, k < w.heap.size → k ≠ b → w'.heap[k]? = w.heap[k]?
theorem Gt.of_gr {b : Nat} {w w' : World} (h : Gr w w') : Gt b w w' := ⟨h.below.os, h.below.tape, h.below.output, h.size, fun k hk _ => h.below.block k hk⟩
theorem Gt.refl (b : Nat) (w : World) : Gt b w w := Gt.of_gr (Gr.refl w)
theorem Gt.trans {b : Nat} {w1 w2 w3 : World} (h : Gt b w1 w2) (k : Gt b w2 w3) : Gt b w1 w3 :=
  ⟨k.os.trans h.os, k.tape.trans h.tape, k.output.trans h.output, Nat.le_trans h.size k.size, fun i hi hn => (k.block i (Nat.lt_of_lt_of_le hi h.size) hn).trans (h.block i hi hn)⟩
theorem Gt.set {b : Nat} {w w' : World} (h : Gt b w w') (o : Nat) (v : Value) : Gt b w (w'.setCell ⟨b, o, none⟩ v) :=
  h.trans ⟨rfl, rfl, rfl, by simp [World.setCell], fun k hk hn => Below.heap_setCell _ _ _ _ hn⟩
theorem Gt.gr {b : Nat} {w0 w w' : World} (h : Gt b w w') (hg : Gr w0 w) (hb : w0.heap.size ≤ b) : Gr w0 w' :=
  ⟨h.os.trans hg.below.os, h.tape.trans hg.below.tape, h.output.trans hg.below.output, Nat.le_trans hg.size h.size, fun k hk => (h.block k (Nat.lt_of_lt_of_le hk hg.size) (by omega)).trans (hg.below.block k hk)⟩
theorem Gt.cell {b : Nat} {w w' : World} (h : Gt b w w') {a : Addr} {v : Value} (hc : w.cell? a = some v) (hn : a.block ≠ b) : w'.cell? a = some v := by
  rw [World.cell?_of_block (h.block a.block (cell_lt hc) hn)]; exact hc
theorem Gt.fz {b : Nat} {w w' : World} (h : Gt b w w') {a : Addr} (hc : w.frozen? a = false) (hl : a.block < w.heap.size) (hn : a.block ≠ b) : w'.frozen? a = false := by
  rw [World.frozen?_of_block (h.block a.block hl hn)]; exact hc
end Go.Proofs.YtgjojdlbighoaaaDoor
