/- What FailTexts takes in: the listed variables with the library's two errors, and a world that holds them; no conditions. -/
import Derived.Test.YtifhfdndbnmhlaaDoorLaid
import Derived.Test.YtifhfdndbnmhlaaDoorPar
namespace Go.Proofs.YtifhfdndbnmhlaaDoor
open Go.ChangeShapes Go.WideShapes Go.ChangeAt Go.RowKit
set_option linter.unusedVariables false
theorem gSyn : Tryd.prog.globalNamed "strconv.ErrSyntax" = some 3 := by kernel_rfl
theorem gRan : Tryd.prog.globalNamed "strconv.ErrRange" = some 4 := by kernel_rfl
theorem gSynT : (Tryd.prog.globals[3]?).map (·.type) = some 47 := by kernel_rfl
theorem gRanT : (Tryd.prog.globals[4]?).map (·.type) = some 47 := by kernel_rfl
theorem name150 : Tryd.prog.typeName? 3 150 = some "*errors.errorString" := by kernel_rfl
theorem starE : "*" ++ "errors.errorString" = "*errors.errorString" := by decide
theorem row150 (u : TypeId) (h : Tryd.prog.typeName? 3 u = some "*errors.errorString") : u = 150 :=
  typeName_ptr_named (nm := "errors.errorString") (by rw [starE]; kernel_rfl) (by kernel_rfl) (by decide) u (by rw [starE]; exact h)
theorem cells152 : Tryd.prog.cellsOf 152 = 1 := by kernel_rfl
theorem iface_of {n : String} {text : List UInt8} {r : List (String × DataW Unit)} {W : World} {g : Nat} (h : laidMet Tryd.prog ((n, .iface "*errors.errorString" (.ptr (.agg [.lit (.string text)]))) :: r) W) (hg : Tryd.prog.globalNamed n = some g) (ht : (Tryd.prog.globals[g]?).map (·.type) = some 47) :
    ∃ te pe, W.cell? ⟨g, 0, none⟩ = some (.iface te pe) := by
  obtain ⟨a, s, hv, _, _, _⟩ := laid_sentinel h hg ht Tryd.underlying47 row150 Tryd.underlying150 Tryd.underlying152 rfl rfl Tryd.underlying9 cells152 cells9
  have hc := World.var?_cell hg hv 0
  exact ⟨_, _, by simpa using hc⟩
abbrev laid7 : List (String × DataW Unit) := Rows.failTextsRow.laid
theorem sp_of {W : World} (h : laidMetH Tryd.prog laid7 W) (hSh : W.ShapedOpen Tryd.prog) : Sp W := by
  have h' : laidMet Tryd.prog [("math/bits.deBruijn32tab", Rows.laid_math_bits_deBruijn32tab), ("math/bits.deBruijn64tab", Rows.laid_math_bits_deBruijn64tab), ("internal/strconv.uint64pow10", Rows.laid_internal_strconv_uint64pow10), ("strconv.ErrRange", Rows.laid_strconv_ErrRange), ("strconv.ErrSyntax", Rows.laid_strconv_ErrSyntax), ("convoy/fail.words", Rows.laid_convoy_fail_words)] W ∧ handlesMet Tryd.prog [("errors.errorType", Rows.laid_errors_errorType)] W := h
  exact ⟨⟨et_of h'.2 (List.mem_singleton.2 rfl), Lib.tabIs_of_head gTab gTabType Tryd.underlying128 Tryd.underlying102 cells102 cells128 h'.1.tail.tail, wo_of h'.1.tail.tail.tail.tail.tail⟩, iface_of h'.1.tail.tail.tail.tail gSyn gSynT, iface_of h'.1.tail.tail.tail gRan gRanT, Tryd.laysM145.s1_3 W hSh⟩
theorem door_met7 (os : Os) (args : Array Value) : laidMetH Tryd.prog laid7 ((World.doorLaid Tryd.prog 74 os).forCall (fun _ _ => 0) ⟨#[], args, []⟩).memory :=
  laidMetH_of_parts (laidMet_of_run' 8 (by kernel_rfl) (by kernel_rfl)) (by kernel_rfl)
end Go.Proofs.YtifhfdndbnmhlaaDoor
