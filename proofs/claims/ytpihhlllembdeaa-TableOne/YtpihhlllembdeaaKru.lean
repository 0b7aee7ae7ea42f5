/- A run without its number as a key of a map: its key and its generation; no conditions. -/
import Derived.Test.YtpihhlllembdeaaMpk
namespace Go.Proofs.Ytpihhlllembdeaa
open Go.RowKit Go.Maps Go.ChangeMaps Go.WideMaps
set_option linter.unusedVariables false
set_option linter.unusedSimpArgs false
abbrev KG := K × Int
def OkG (x : KG) : Prop := Ok x.1 ∧ W64 x.2
def gv (x : KG) : Value := .agg #[.int .i64 0, .int .u16 x.1.1, .string x.1.2, .int .i64 x.2, .bool false]
def datG (x : KG) : DataW Unit := .agg [.lit (.int .i64 0), .agg [.lit (.int .u16 x.1.1), .lit (.string x.1.2.data.toList)], .lit (.int .i64 x.2), .lit (.bool false)]
def glit (x : KG) : Lit := (datG x).asKey
theorem cellsG : Try.prog.cellsOf 58 = 5 := by kernel_rfl
theorem cells3' : Try.prog.cellsOf 3 = 1 := by kernel_rfl
theorem cells4' : Try.prog.cellsOf 4 = 1 := by kernel_rfl
set_option maxRecDepth 100000 in
theorem shut_run {H : Type} {enc : TypeId × Value → H} {W : World} {base : Nat} {sp : Nat → Bool} {held : Bool} {a g : Int} {s : ByteArray} (wa : (Lit.int .u16 a).wf = true) (ws : s.size ≤ maxLen) (wg : (Lit.int .i64 g).wf = true) :
    DataW.Trod enc Try.prog W base sp held 58 (.agg #[.int .i64 0, .int .u16 a, .string s, .int .i64 g, .bool false]) (.agg [.lit (.int .i64 0), .agg [.lit (.int .u16 a), .lit (.string s.data.toList)], .lit (.int .i64 g), .lit (.bool false)]) [] := by
  obtain ⟨n, hk⟩ := shut_key (enc := enc) (W := W) (base := base) (sp := sp) (held := held) wa ws
  have w0 : (Lit.int .i64 0).wf = true := rfl
  have h0 : DataW.trod enc Try.prog W base sp held (n + 1) 3 [.int .i64 0] = some (.lit (.int .i64 0), []) := by simp [DataW.trod, Try.underlying3, w0]
  have h1 : DataW.trod enc Try.prog W base sp held (n + 1) 31 [.int .u16 a, .string s] = some (.agg [.lit (.int .u16 a), .lit (.string s.data.toList)], []) := DataW.trod_le (Nat.le_succ n) (by simpa [Value.cells] using hk)
  have h2 : DataW.trod enc Try.prog W base sp held (n + 1) 3 [.int .i64 g] = some (.lit (.int .i64 g), []) := by simp [DataW.trod, Try.underlying3, wg]
  have h3 : DataW.trod enc Try.prog W base sp held (n + 1) 4 [.bool false] = some (.lit (.bool false), []) := by simp [DataW.trod, Try.underlying4]
  have ts := Joins.trod_struct4_mk (enc := enc) (w := W) (base := base) (spare := sp) (held := held) (n := n + 1) (cs := [.int .i64 0, .int .u16 a, .string s, .int .i64 g, .bool false]) Try.underlying58 (by simp [cellsG])
    (by simpa [cells3'] using h0) (by simpa [cellsK] using h1) (by simpa [cells3'] using h2) (by simpa [cells4'] using h3)
  exact ⟨_, by simpa [Value.cells] using ts⟩
theorem wideG : (match Try.prog.underlying 58 with | some (.array _ _) | some (.struct _) => true | _ => false) = true := by kernel_rfl
theorem deepG : Try.prog.keyTypeAt (Try.prog.types.size + 1) 58 = true := by kernel_rfl
theorem formedG (x : KG) : (gv x).formed Try.prog 58 = true := by
  simp [gv, Value.formed, Try.underlying58, cellsG]
set_option maxRecDepth 100000 in
theorem lawG : KeyLaw Try.prog 58 := deep_law_laid (by kernel_rfl) (m := 3) (by omega) (of_decide_eq_true (by kernel_rfl)) (by kernel_rfl) wideG
theorem keyedG : Keyed Try.prog 58 := Keyed.of_law lawG
set_option maxRecDepth 100000 in
theorem keyG {x : KG} (h : OkG x) : keyOf Try.prog 58 (gv x) = some (glit x) :=
  (keyOf_asKey (enc := fun _ => ()) (w := default) (base := 0) (sp := fun _ => true) (held := true) deepG wideG (formedG _) (shut_run h.1.1 h.1.2 h.2)).1
theorem glit_inj {x y : KG} (hx : OkG x) (hy : OkG y) (e : glit x = glit y) : x = y := by
  have h1 := keyG hx
  have h2 := keyG hy
  rw [← e] at h2
  have h3 := lawG.inj h1 h2
  simp only [gv, Value.agg.injEq, Array.mk.injEq, List.cons.injEq, Value.int.injEq, Value.string.injEq, and_true, true_and] at h3
  exact Prod.ext (Prod.ext h3.1 h3.2.1) h3.2.2
def KGc : KK Try.prog 58 KG := ⟨OkG, gv, glit, keyedG, keyG, glit_inj⟩
theorem zero4 (w : World) : (zeroValue 4).run Try.prog w = .ok (.bool false) w := by kernel_rfl
end Go.Proofs.Ytpihhlllembdeaa
