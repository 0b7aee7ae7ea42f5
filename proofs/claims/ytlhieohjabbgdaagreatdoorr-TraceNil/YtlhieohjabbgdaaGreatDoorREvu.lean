/- The law of a trace that is nil, at its arguments as they come; the condition is that the table holds what the start lays. -/
import Derived.Test.YtlhieohjabbgdaaGreatDoorREvo
import Derived.Test.YtlhieohjabbgdaaGreatDoorREvt
namespace Go.Proofs.YtlhieohjabbgdaaGreatDoorR.Tr
open Go.RowKit Go.Maps Go.ChangeMaps
set_option linter.unusedVariables false
theorem Ra.krow {w : World} {a : Option Addr} {n c : Nat} {xs : List Int} (h : Ra w (.slice a n c) xs) : KRow w a xs := fun i hi => by
  obtain ⟨a', c', e, _, h3⟩ := h
  simp only [Value.slice.injEq] at e
  obtain ⟨rfl, _, _⟩ := e
  obtain ⟨b, off, rfl, _, h4⟩ := h3 (by omega)
  exact ⟨b, off, rfl, h4 i _ (List.getElem?_eq_getElem hi)⟩
theorem nilL_ (x : EvA) (y : AskA) (w : World) (hk : Tk w) (hx : x.ok) (hr : Ra w y.u y.xs) (hl : y.xs.length ≤ 17592186043904) :
    Calls Tryz.prog 7 #[.agg x.cs, .agg y.cs] w fun r w' => r = .returned (.bool true) ∧ Touch [] w w' := by
  obtain ⟨a, c, hu, hc, h3⟩ := hr
  have h4 : KRow w a y.xs := Ra.krow (n := y.xs.length) (c := c) ⟨a, c, rfl, hc, h3⟩
  have h5 := nilLaw_ x.z a c y.xs y.run y.cl y.k.sp y.k.nm y.ff y.tt w hk (z_ok hx).nm h4 (by omega)
  rw [z_val] at h5
  rw [show y.cs = #[.slice a y.xs.length c, .int .i64 y.run, .int .i64 y.cl, .int .u16 y.k.sp, .string y.k.nm, .int .i64 y.ff, .int .i64 y.tt] by unfold AskA.cs; rw [hu]]
  exact h5
end Go.Proofs.YtlhieohjabbgdaaGreatDoorR.Tr
