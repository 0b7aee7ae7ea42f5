/- Keys, outcomes and configurations as arguments, opened; no conditions. -/
import Derived.Test.YtopepalpmkeffaaRows
import Derived.Test.YtopepalpmkeffaaThy
import Derived.WalkKit
import Derived.ProofKit
import Derived.OpenShut
import Derived.ShutString
import Derived.Deep.Slices
namespace Go.Proofs.Ytopepalpmkeffaa
open Go.ChangeShapes Go.WideShapes Go.ChangeAt Go.RowKit
set_option linter.unusedVariables false
theorem cells2 : Try.prog.cellsOf 2 = 1 := by kernel_rfl
theorem cells3 : Try.prog.cellsOf 3 = 1 := by kernel_rfl
theorem cells9 : Try.prog.cellsOf 9 = 1 := by kernel_rfl
theorem cells37 : Try.prog.cellsOf 37 = 1 := by kernel_rfl
theorem cells41 : Try.prog.cellsOf 41 = 3 := by kernel_rfl
theorem cells43 : Try.prog.cellsOf 43 = 4 := by kernel_rfl
theorem cells23 : Try.prog.cellsOf 23 = 7 := by kernel_rfl
set_option maxRecDepth 100000 in
theorem open_key {H : Type} {enc : TypeId × Value → H} {W : World} {b0 base : Nat} {sp : Nat → Bool} {held : Bool} {v : Value} {d : DataW H} {p : List MemPlace} (hv : Value.okWide Try.prog W .any b0 39 v) (h : DataW.Trod enc Try.prog W base sp held 39 v d p) :
    ∃ k : K, v = kv k ∧ d = .agg [.lit (.int .u16 k.1), .lit (.string k.2.data.toList)] ∧ p = [] ∧ Ok k := by
  obtain ⟨c0, c1, y0, y1, m, rfl, rfl, rfl, hy0, hy1⟩ := Joins.open_agg2 Try.underlying39 (by kernel_rfl) cells36 hv h
  obtain ⟨a, e0, rfl, wa⟩ := DataW.trod_int Try.underlying37 hy0
  obtain ⟨s, e1, rfl, ws⟩ := DataW.trod_string Try.underlying9 hy1
  simp only [List.cons.injEq, and_true] at e0 e1
  subst e0 e1
  exact ⟨(a, s), rfl, rfl, rfl, wa, ws⟩
def Wo (x : O) : Prop := W64 x.1 ∧ W64 x.2.1 ∧ W64 x.2.2.1 ∧ W64 x.2.2.2
def Wc (c : Cf) : Prop := W64 c.t ∧ W64 c.n ∧ W64 c.s ∧ W64 c.e ∧ W64 c.f ∧ W64 c.b ∧ W64 c.d
set_option maxRecDepth 100000 in
/-- Four cells that read as an outcome. -/
theorem fields43 {H : Type} {enc : TypeId × Value → H} {W : World} {base fuel : Nat} {spare : Nat → Bool} {held : Bool} {cs : List Value} {x : DataW H × List MemPlace} (h : DataW.trod enc Try.prog W base spare held fuel 43 cs = some x) (hl : cs.length = 4) : ∃ o : O, cs = [.int .i64 o.1, .int .i64 o.2.1, .int .i64 o.2.2.1, .int .i64 o.2.2.2] ∧ Wo o := by
  obtain ⟨ys, k, hk, hxy, _, hyl, hfe⟩ := DataW.trod_struct Try.underlying43 h
  match cs, hl with
  | [v0, v1, v2, v3], _ =>
    have hy : ys.length = 2 := hyl
    match ys, hy with
    | [y0, y1], _ =>
      have g0 := hfe 0 _ rfl
      have g1 := hfe 1 _ rfl
      simp [cells2, cells41] at g0 g1
      obtain ⟨A, a1, _, wa⟩ := DataW.trod_int Try.underlying2 g0
      obtain ⟨zs, k2, hk2, _, _, hzl, hfz⟩ := DataW.trod_struct Try.underlying41 g1
      have hz : zs.length = 3 := hzl
      match zs, hz with
      | [z0, z1, z2], _ =>
        have f0 := hfz 0 _ rfl
        have f1 := hfz 1 _ rfl
        have f2 := hfz 2 _ rfl
        simp [cells3] at f0 f1 f2
        obtain ⟨B, b1, _, wb⟩ := DataW.trod_int Try.underlying3 f0
        obtain ⟨C, c1, _, wc⟩ := DataW.trod_int Try.underlying3 f1
        obtain ⟨D, d1, _, wd⟩ := DataW.trod_int Try.underlying3 f2
        simp only [List.cons.injEq, and_true] at a1 b1 c1 d1
        subst a1 b1 c1 d1
        exact ⟨(A, B, C, D), rfl, wa, wb, wc, wd⟩
set_option maxRecDepth 100000 in
theorem open_out {H : Type} {enc : TypeId × Value → H} {W : World} {b0 : Nat} {v : Value} {d : DataW H} {p : List MemPlace} (hv : Value.okWide Try.prog W .any b0 43 v) (h : DataW.Trod enc Try.prog W 0 (fun _ => true) true 43 v d p) :
    ∃ o : O, v = ov o ∧ Wo o := by
  obtain ⟨cs, rfl, hs⟩ := okWide_struct Try.underlying43 hv
  obtain ⟨fuel, hf⟩ := h
  rw [cells43] at hs
  obtain ⟨cl⟩ := cs
  have hs' : cl.length = 4 := by simpa using hs
  obtain ⟨o, e, wo⟩ := fields43 (cs := cl) (by simpa [Value.cells] using hf) hs'
  subst e
  exact ⟨o, rfl, wo⟩
set_option maxRecDepth 100000 in
theorem open_cfg {H : Type} {enc : TypeId × Value → H} {W : World} {b0 : Nat} {v : Value} {d : DataW H} {p : List MemPlace} (hv : Value.okWide Try.prog W .any b0 23 v) (h : DataW.Trod enc Try.prog W 0 (fun _ => true) true 23 v d p) :
    ∃ c : Cf, v = cv c ∧ Wc c := by
  obtain ⟨cs, rfl, hs⟩ := okWide_struct Try.underlying23 hv
  obtain ⟨fuel, hf⟩ := h
  rw [cells23] at hs
  obtain ⟨ys, k, hk, hxy, _, hyl, hfe⟩ := DataW.trod_struct Try.underlying23 hf
  obtain ⟨cl⟩ := cs
  have hs' : cl.length = 7 := by simpa using hs
  match cl, hs' with
  | [v0, v1, v2, v3, v4, v5, v6], _ =>
    have hy : ys.length = 7 := hyl
    match ys, hy with
    | [y0, y1, y2, y3, y4, y5, y6], _ =>
      have g0 := hfe 0 _ rfl
      have g1 := hfe 1 _ rfl
      have g2 := hfe 2 _ rfl
      have g3 := hfe 3 _ rfl
      have g4 := hfe 4 _ rfl
      have g5 := hfe 5 _ rfl
      have g6 := hfe 6 _ rfl
      simp [Value.cells, cells2, cells3] at g0 g1 g2 g3 g4 g5 g6
      obtain ⟨A, a1, _, wa⟩ := DataW.trod_int Try.underlying2 g0
      obtain ⟨B, b1, _, wb⟩ := DataW.trod_int Try.underlying2 g1
      obtain ⟨C, c1, _, wc⟩ := DataW.trod_int Try.underlying2 g2
      obtain ⟨D, d1, _, wd⟩ := DataW.trod_int Try.underlying3 g3
      obtain ⟨E, e1, _, we⟩ := DataW.trod_int Try.underlying3 g4
      obtain ⟨F, f1, _, wf⟩ := DataW.trod_int Try.underlying3 g5
      obtain ⟨G, h1, _, wg⟩ := DataW.trod_int Try.underlying2 g6
      simp only [List.cons.injEq, and_true] at a1 b1 c1 d1 e1 f1 h1
      subst a1 b1 c1 d1 e1 f1 h1
      exact ⟨⟨A, B, C, D, E, F, G⟩, rfl, wa, wb, wc, wd, we, wf, wg⟩
theorem laidOut : laidOutB Try.prog = true := by kernel_rfl
end Go.Proofs.Ytopepalpmkeffaa
