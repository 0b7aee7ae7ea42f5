/- What ClientTexts takes in: the listed variables with the library's two errors, and a world that holds them; no conditions. -/
import Derived.Test.YthakboiecdjgnaaDoorKtq
import Derived.Test.YthakboiecdjgnaaDoorCld
import Derived.Shelf.Strings.Shaped
namespace Go.Proofs.YthakboiecdjgnaaDoor.Kt
open Go.ChangeShapes Go.WideShapes Go.ChangeAt Go.RowKit
open Go.Proofs.YthakboiecdjgnaaDoor.Ci
set_option linter.unusedVariables false
theorem gSynT : (Tryd.prog.globals[3]?).map (·.type) = some 92 := by kernel_rfl
theorem gRanT : (Tryd.prog.globals[4]?).map (·.type) = some 92 := by kernel_rfl
theorem gTabType : (Tryd.prog.globals[2]?).map (·.type) = some 180 := by kernel_rfl
theorem cellsTab : Tryd.prog.cellsOf 180 = 20 := by kernel_rfl
theorem cellsU64 : Tryd.prog.cellsOf 164 = 1 := by kernel_rfl
theorem cellsEs : Tryd.prog.cellsOf 191 = 1 := by kernel_rfl
theorem nameEs : Tryd.prog.typeName? 3 189 = some "*errors.errorString" := by kernel_rfl
theorem starE : "*" ++ "errors.errorString" = "*errors.errorString" := by decide
theorem rowEs (u : TypeId) (h : Tryd.prog.typeName? 3 u = some "*errors.errorString") : u = 189 :=
  typeName_ptr_named (nm := "errors.errorString") (by rw [starE]; kernel_rfl) (by kernel_rfl) (by decide) u (by rw [starE]; exact h)
theorem var_of {n : String} {text : List UInt8} {r : List (String × DataW Unit)} {W : World} {g : Nat} (h : laidMet Tryd.prog ((n, .iface "*errors.errorString" (.ptr (.agg [.lit (.string text)]))) :: r) W) (hg : Tryd.prog.globalNamed n = some g) (ht : (Tryd.prog.globals[g]?).map (·.type) = some 92) :
    ∃ te pe, W.var? Tryd.prog n = some #[.iface te pe] := by
  obtain ⟨a, s, hv, _, _, _⟩ := laid_sentinel h hg ht Tryd.underlying92 rowEs Tryd.underlying189 Tryd.underlying191 rfl rfl Tryd.underlying9 cellsEs cells9
  exact ⟨_, _, hv⟩
abbrev laid6 : List (String × DataW Unit) := Rows.clientTextsUptoRow.laid
theorem sy_of {W : World} (h : laidMetH Tryd.prog laid6 W) (hSh : W.ShapedOpen Tryd.prog) : Sy W := by
  rw [MakeChecks.laidMetH_plain _ _ _ (by kernel_rfl)] at h
  have h' : laidMet Tryd.prog [("math/bits.deBruijn32tab", Rows.laid_math_bits_deBruijn32tab), ("math/bits.deBruijn64tab", Rows.laid_math_bits_deBruijn64tab), ("internal/strconv.uint64pow10", Rows.laid_internal_strconv_uint64pow10), ("strconv.ErrRange", Rows.laid_strconv_ErrRange), ("strconv.ErrSyntax", Rows.laid_strconv_ErrSyntax), ("convoy/client.kinds", Rows.laid_convoy_client_kinds)] W := h
  exact ⟨kd_of h'.tail.tail.tail.tail.tail, Lib.tabIs_of_head gTab gTabType Tryd.underlying180 Tryd.underlying164 cellsU64 cellsTab h'.tail.tail, var_of h'.tail.tail.tail.tail gSyn gSynT, var_of h'.tail.tail.tail gRan gRanT,
    cell_of_shapedOpen_int (zero := #[.int .i64 0]) (t := 3) hSh (of_decide_eq_true (by kernel_rfl)) (by kernel_rfl) rfl (by kernel_rfl) (by kernel_rfl) Tryd.underlying3⟩
theorem door_met6 (os : Os) (args : Array Value) : laidMetH Tryd.prog laid6 ((World.doorLaid Tryd.prog 100 os).forCall (fun _ _ => 0) ⟨#[], args, []⟩).memory := by
  rw [MakeChecks.laidMetH_plain _ _ _ (by kernel_rfl)]
  exact laidMet_of_run' 8 (by kernel_rfl) (by kernel_rfl)
end Go.Proofs.YthakboiecdjgnaaDoor.Kt
