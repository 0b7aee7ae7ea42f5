/- What RecipeBack and RecipeTexts take in: the listed variables with the library's two errors, and a world that holds them; no conditions. -/
import Derived.Test.YtgjojdlbighoaaaDoorLaid
import Derived.Test.YtgjojdlbighoaaaDoorSys
import Derived.Shelf.Strings.Shaped
namespace Go.Proofs.YtgjojdlbighoaaaDoor
open Go.ChangeShapes Go.WideShapes Go.ChangeAt Go.RowKit
set_option linter.unusedVariables false
theorem gRan : Tryd.prog.globalNamed "strconv.ErrRange" = some 4 := by kernel_rfl
theorem gSynT : (Tryd.prog.globals[3]?).map (·.type) = some 128 := by kernel_rfl
theorem gRanT : (Tryd.prog.globals[4]?).map (·.type) = some 128 := by kernel_rfl
theorem gTabType : (Tryd.prog.globals[1]?).map (·.type) = some 176 := by kernel_rfl
theorem cells176 : Tryd.prog.cellsOf 176 = 20 := by kernel_rfl
theorem cells86 : Tryd.prog.cellsOf 86 = 1 := by kernel_rfl
theorem cells198 : Tryd.prog.cellsOf 198 = 1 := by kernel_rfl
theorem name196 : Tryd.prog.typeName? 3 196 = some "*errors.errorString" := by kernel_rfl
theorem starE : "*" ++ "errors.errorString" = "*errors.errorString" := by decide
theorem row196 (u : TypeId) (h : Tryd.prog.typeName? 3 u = some "*errors.errorString") : u = 196 :=
  typeName_ptr_named (nm := "errors.errorString") (by rw [starE]; kernel_rfl) (by kernel_rfl) (by decide) u (by rw [starE]; exact h)
theorem iface_of {n : String} {text : List UInt8} {r : List (String × DataW Unit)} {W : World} {g : Nat} (h : laidMet Tryd.prog ((n, .iface "*errors.errorString" (.ptr (.agg [.lit (.string text)]))) :: r) W) (hg : Tryd.prog.globalNamed n = some g) (ht : (Tryd.prog.globals[g]?).map (·.type) = some 128) :
    ∃ te pe, W.cell? ⟨g, 0, none⟩ = some (.iface te pe) := by
  obtain ⟨a, s, hv, _, _, _⟩ := laid_sentinel h hg ht Tryd.underlying128 row196 Tryd.underlying196 Tryd.underlying198 rfl rfl Tryd.underlying9 cells198 cells9
  have hc := World.var?_cell hg hv 0
  exact ⟨_, _, by simpa using hc⟩
theorem var_of {n : String} {text : List UInt8} {r : List (String × DataW Unit)} {W : World} {g : Nat} (h : laidMet Tryd.prog ((n, .iface "*errors.errorString" (.ptr (.agg [.lit (.string text)]))) :: r) W) (hg : Tryd.prog.globalNamed n = some g) (ht : (Tryd.prog.globals[g]?).map (·.type) = some 128) :
    ∃ te pe, W.var? Tryd.prog n = some #[.iface te pe] := by
  obtain ⟨a, s, hv, _, _, _⟩ := laid_sentinel h hg ht Tryd.underlying128 row196 Tryd.underlying196 Tryd.underlying198 rfl rfl Tryd.underlying9 cells198 cells9
  exact ⟨_, _, hv⟩
abbrev laid6 : List (String × DataW Unit) := Rows.recipeBackRow.laid
theorem sy_of {W : World} (h : laidMetH Tryd.prog laid6 W) (hSh : W.ShapedOpen Tryd.prog) : Sy W := by
  rw [MakeChecks.laidMetH_plain _ _ _ (by kernel_rfl)] at h
  have h' : laidMet Tryd.prog [("math/bits.deBruijn32tab", Rows.laid_math_bits_deBruijn32tab), ("math/bits.deBruijn64tab", Rows.laid_math_bits_deBruijn64tab), ("internal/strconv.uint64pow10", Rows.laid_internal_strconv_uint64pow10), ("strconv.ErrRange", Rows.laid_strconv_ErrRange), ("strconv.ErrSyntax", Rows.laid_strconv_ErrSyntax), ("convoy/recipe.kinds", Rows.laid_convoy_recipe_kinds)] W := h
  exact ⟨kd_of h'.tail.tail.tail.tail.tail, Lib.tabIs_of_head gTab gTabType Tryd.underlying176 Tryd.underlying86 cells86 cells176 h'.tail.tail, var_of h'.tail.tail.tail.tail gSyn gSynT, iface_of h'.tail.tail.tail gRan gRanT,
    cell_of_shapedOpen_int (zero := #[.int .i64 0]) (t := 3) hSh (of_decide_eq_true (by kernel_rfl)) (by kernel_rfl) rfl (by kernel_rfl) (by kernel_rfl) Tryd.underlying3⟩
theorem door_met6 (os : Os) (args : Array Value) : laidMetH Tryd.prog laid6 ((World.doorLaid Tryd.prog 100 os).forCall (fun _ _ => 0) ⟨#[], args, []⟩).memory := by
  rw [MakeChecks.laidMetH_plain _ _ _ (by kernel_rfl)]
  exact laidMet_of_run' 8 (by kernel_rfl) (by kernel_rfl)
end Go.Proofs.YtgjojdlbighoaaaDoor
