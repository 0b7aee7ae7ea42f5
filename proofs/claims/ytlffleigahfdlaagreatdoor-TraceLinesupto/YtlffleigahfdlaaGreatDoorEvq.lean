/- What every law of this program's layer 24 takes in: the table of the kinds, a world that holds it, a slice's length; no conditions. -/
import Derived.Test.YtlffleigahfdlaaGreatDoorCards
import Derived.Test.YtlffleigahfdlaaGreatDoorTie
import Derived.Test.YtlffleigahfdlaaGreatDoorEvb
import Derived.Test.YtlffleigahfdlaaGreatDoorEvo
import Derived.OpenShut
import Derived.ShutString
import Derived.LaidMore
import Derived.Stop.LaidErr
import Derived.Deep.DeepHandedRow
import Derived.Deep.Slices
import Derived.Lib.LaidTab
import Derived.Lib.SmallJoins
import Derived.SizedLaws
namespace Go.Proofs.YtlffleigahfdlaaGreatDoor.Tr
open Go.ChangeShapes Go.WideShapes Go.ChangeAt Go.RowKit
set_option linter.unusedVariables false
theorem own : ownKnob Tryz.prog.godebug = none := by kernel_rfl
theorem cells9 : Tryz.prog.cellsOf 9 = 1 := by kernel_rfl
theorem cellsKd : Tryz.prog.cellsOf 120 = 2 := by kernel_rfl
theorem gKinds : Tryz.prog.globalNamed "convoy/trace.kinds" = some 0 := by kernel_rfl
theorem gKindsType : (Tryz.prog.globals[0]?).map (·.type) = some 121 := by kernel_rfl
section
variable {H : Type} {enc : TypeId × Value → H} {w : World} {base : Nat} {sp : Nat → Bool} {held : Bool} {fuel : Nat}
def kD (z y : List UInt8) : DataW H := .agg [.lit (.string z), .lit (.string y)]
set_option maxRecDepth 100000 in
theorem kind_of {cs : List Value} {z y : List UInt8} {p : List MemPlace} (h : DataW.trod enc Tryz.prog w base sp held fuel 120 cs = some (kD z y, p)) : cs = [.string ⟨z.toArray⟩, .string ⟨y.toArray⟩] := by
  obtain ⟨xs, n, _, hx, hl, hlen, hf⟩ := DataW.trod_struct Tryz.underlying120 h
  rw [cellsKd] at hl
  match xs, hlen with
  | [y0, y1], _ =>
    have g0 := hf 0 _ rfl
    have g1 := hf 1 _ rfl
    match cs, hl with
    | [v0, v1], _ =>
      simp [cells9] at g0 g1
      obtain ⟨d0, p0⟩ := y0
      obtain ⟨d1, p1⟩ := y1
      simp [kD] at hx
      obtain ⟨⟨rfl, rfl⟩, _⟩ := hx
      obtain ⟨s, s1, s2, _⟩ := DataW.trod_string Tryz.underlying9 g0
      obtain ⟨t, t1, t2, _⟩ := DataW.trod_string Tryz.underlying9 g1
      simp at s1 s2 t1 t2
      subst s1 t1
      obtain ⟨rfl, _⟩ := s2
      obtain ⟨rfl, _⟩ := t2
      rfl
end
theorem kinds_eq {H : Type} : (Rows.laid_convoy_trace_kinds : DataW H) = .agg ((List.range 12).map fun k => kD (wdS k).data.toList (nmS k).data.toList) := rfl
set_option maxRecDepth 100000 in
theorem tk_of {W : World} {rest : List (String × DataW Unit)} (h : laidMet Tryz.prog (("convoy/trace.kinds", Rows.laid_convoy_trace_kinds) :: rest) W) : Tk W := by
  obtain ⟨ps, ⟨g', t', cs, fuel, p, q, hg', ht', hvar, hd, _, _⟩, _⟩ := h
  obtain rfl := Option.some.inj (gKinds.symm.trans hg')
  obtain rfl := Option.some.inj (gKindsType.symm.trans ht')
  rw [kinds_eq] at hd
  obtain ⟨xs, n, _, hx, hl, hlen, hf⟩ := DataW.trod_array Tryz.underlying121 hd
  have each : ∀ k, k < 12 → (cs.toList.drop (k * 2)).take 2 = [.string (wdS k), .string (nmS k)] := fun k hk => by
    have h1 := hf k hk
    rw [cellsKd] at h1
    have h2 : xs[k]? = some (kD (wdS k).data.toList (nmS k).data.toList, (xs[k]'(by omega)).2) := by
      rw [List.getElem?_eq_getElem (by omega)]
      have h3 : (xs.map (·.1))[k]? = some (kD (wdS k).data.toList (nmS k).data.toList) := by
        have h4 := congrArg Prod.fst hx
        simp only [DataW.agg.injEq] at h4
        rw [← h4, List.getElem?_map, List.getElem?_range hk]
        rfl
      rw [List.getElem?_map, List.getElem?_eq_getElem (by omega)] at h3
      simp only [Option.map_some, Option.some.injEq] at h3
      rw [← h3]
    rw [h2] at h1
    have := kind_of h1
    rw [this]
  have cell : ∀ k, k < 12 → ∀ j, j < 2 → W.cell? ⟨0, k * 2 + j, none⟩ = ([.string (wdS k), .string (nmS k)] : List Value)[j]? := fun k hk j hj => by
    rw [World.var?_cell gKinds hvar (k * 2 + j), ← each k hk, List.getElem?_take, if_pos hj, List.getElem?_drop]
    simp
  exact ⟨fun k hk => cell k hk 0 (by decide), fun k hk => cell k hk 1 (by decide)⟩
theorem door_met (os : Os) (args : Array Value) : laidMetH Tryz.prog Rows.traceNilRow.laid ((World.doorLaid Tryz.prog 100 os).forCall (fun _ _ => 0) ⟨#[], args, []⟩).memory := by
  rw [MakeChecks.laidMetH_plain _ _ _ (by kernel_rfl)]
  exact laidMet_of_run' 8 (by kernel_rfl) (by kernel_rfl)
theorem tk_row {W : World} (h : laidMetH Tryz.prog Rows.traceNilRow.laid W) : Tk W := by
  rw [MakeChecks.laidMetH_plain _ _ _ (by kernel_rfl)] at h
  have h' : laidMet Tryz.prog [("math/bits.deBruijn32tab", Rows.laid_math_bits_deBruijn32tab), ("math/bits.deBruijn64tab", Rows.laid_math_bits_deBruijn64tab), ("internal/strconv.uint64pow10", Rows.laid_internal_strconv_uint64pow10), ("convoy/trace.kinds", Rows.laid_convoy_trace_kinds)] W := h
  exact tk_of h'.tail.tail.tail
theorem len_of {H : Type} {ts : List TypeId} {ds : List (DataW H)} {n m bs : Nat} {st et : TypeId} {d : DataW H} (h : (DataW.weightsEach Tryz.prog ts ds).all (· ≤ reachBytes) = true) {j : Nat} (ht : ts[j]? = some st) (hd : ds[j]? = some d) (hu : Tryz.prog.underlying st = some (.slice et)) (hb : Tryz.prog.bytesOf et = bs) (hm : 140737488351232 < (m + 1) * bs) (hL : n = 0 ∨ ∃ elems spare, d = .slice elems spare ∧ elems.length = n) : n ≤ m := by
  rcases hL with rfl | ⟨es, sp, rfl, he⟩
  · simp
  · have hz : (es.length + sp.length) * Tryz.prog.bytesOf et ≤ reachBytes := sized_slice h (j := j) (t := st) (e := et) (elems := es) (spare := sp) ht hd hu
    rw [hb] at hz
    have h3 : reachBytes = 140737488351232 := rfl
    rw [h3] at hz
    rcases Nat.lt_or_ge m n with h4 | h4
    · have h5 : (m + 1) * bs ≤ (es.length + sp.length) * bs := Nat.mul_le_mul_right bs (by omega)
      omega
    · exact h4
end Go.Proofs.YtlffleigahfdlaaGreatDoor.Tr
