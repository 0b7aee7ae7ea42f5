/- What TraceLines takes in: the listed variables with the library's two errors, and a world that holds them; no conditions. -/
import Derived.Test.YtlffleigahfdlaaGreatDoorMa8
import Derived.Test.YtlffleigahfdlaaGreatDoorEvq
import Derived.Shelf.Strings.Shaped
namespace Go.Proofs.YtlffleigahfdlaaGreatDoor.Tr
open Go.ChangeShapes Go.WideShapes Go.ChangeAt Go.RowKit
set_option linter.unusedVariables false
theorem gSynT : (Tryz.prog.globals[3]?).map (·.type) = some 105 := by kernel_rfl
theorem gRanT : (Tryz.prog.globals[4]?).map (·.type) = some 105 := by kernel_rfl
theorem gTabType : (Tryz.prog.globals[2]?).map (·.type) = some 206 := by kernel_rfl
theorem cellsTab : Tryz.prog.cellsOf 206 = 20 := by kernel_rfl
theorem cellsU64 : Tryz.prog.cellsOf 63 = 1 := by kernel_rfl
theorem cellsEs : Tryz.prog.cellsOf 266 = 1 := by kernel_rfl
theorem nameEs : Tryz.prog.typeName? 3 264 = some "*errors.errorString" := by kernel_rfl
theorem starE : "*" ++ "errors.errorString" = "*errors.errorString" := by decide
theorem rowEs (u : TypeId) (h : Tryz.prog.typeName? 3 u = some "*errors.errorString") : u = 264 :=
  typeName_ptr_named (nm := "errors.errorString") (by rw [starE]; kernel_rfl) (by kernel_rfl) (by decide) u (by rw [starE]; exact h)
theorem var_of {n : String} {text : List UInt8} {r : List (String × DataW Unit)} {W : World} {g : Nat} (h : laidMet Tryz.prog ((n, .iface "*errors.errorString" (.ptr (.agg [.lit (.string text)]))) :: r) W) (hg : Tryz.prog.globalNamed n = some g) (ht : (Tryz.prog.globals[g]?).map (·.type) = some 105) :
    ∃ te pe, W.var? Tryz.prog n = some #[.iface te pe] := by
  obtain ⟨a, s, hv, _, _, _⟩ := laid_sentinel h hg ht Tryz.underlying105 rowEs Tryz.underlying264 Tryz.underlying266 rfl rfl Tryz.underlying9 cellsEs cells9
  exact ⟨_, _, hv⟩
abbrev laid6 : List (String × DataW Unit) := Rows.traceLinesUptoRow.laid
theorem sy_of {W : World} (h : laidMetH Tryz.prog laid6 W) (hSh : W.ShapedOpen Tryz.prog) : Sy W := by
  rw [MakeChecks.laidMetH_plain _ _ _ (by kernel_rfl)] at h
  have h' : laidMet Tryz.prog [("math/bits.deBruijn32tab", Rows.laid_math_bits_deBruijn32tab), ("math/bits.deBruijn64tab", Rows.laid_math_bits_deBruijn64tab), ("internal/strconv.uint64pow10", Rows.laid_internal_strconv_uint64pow10), ("strconv.ErrRange", Rows.laid_strconv_ErrRange), ("strconv.ErrSyntax", Rows.laid_strconv_ErrSyntax), ("convoy/trace.kinds", Rows.laid_convoy_trace_kinds)] W := h
  exact ⟨tk_of h'.tail.tail.tail.tail.tail, Lib.tabIs_of_head gTab gTabType Tryz.underlying206 Tryz.underlying63 cellsU64 cellsTab h'.tail.tail, var_of h'.tail.tail.tail.tail gSyn gSynT, var_of h'.tail.tail.tail gRan gRanT,
    cell_of_shapedOpen_int (zero := #[.int .i64 0]) (t := 3) hSh (of_decide_eq_true (by kernel_rfl)) (by kernel_rfl) rfl (by kernel_rfl) (by kernel_rfl) Tryz.underlying3⟩
theorem door_met6 (os : Os) (args : Array Value) : laidMetH Tryz.prog laid6 ((World.doorLaid Tryz.prog 100 os).forCall (fun _ _ => 0) ⟨#[], args, []⟩).memory := by
  rw [MakeChecks.laidMetH_plain _ _ _ (by kernel_rfl)]
  exact laidMet_of_run' 8 (by kernel_rfl) (by kernel_rfl)
theorem b64_of {n : Int} (h : W64 n) : B64 n := ⟨h.lo, h.hi⟩
theorem ok64_of {a : EvA} (h : a.ok) : Ok64 a.z := by
  obtain ⟨h1, h2, h3, h4, h5, h6, h7, hk, hv, hf1, hf2, hf3⟩ := h
  exact ⟨b64_of h1, b64_of h3, b64_of h4, b64_of h5, b64_of h6, b64_of h7, b64_of hv, b64_of hf1, b64_of hf2, b64_of hf3⟩
theorem sp_of {a : EvA} (h : a.ok) : 0 ≤ a.z.sp ∧ a.z.sp ≤ 65535 := by
  obtain ⟨h1, h2, h3, h4, h5, h6, h7, hk, ho⟩ := h
  have h := hk.1
  simp [Lit.wf, IntKind.min, IntKind.max, IntKind.bits, IntKind.signed] at h
  exact ⟨by show 0 ≤ a.k.sp; omega, by show a.k.sp ≤ 65535; omega⟩
theorem nm_of {a : EvA} (h : a.ok) : a.z.nm.size ≤ maxLen := h.2.2.2.2.2.2.2.1.2
end Go.Proofs.YtlffleigahfdlaaGreatDoor.Tr
