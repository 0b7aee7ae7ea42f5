/- The law TraceAdds at its arguments as they come; the condition is that the table holds what the start lays. -/
import Derived.Test.YtlhieohjabbgdaaGreatDoorREvo
import Derived.Test.YtlhieohjabbgdaaGreatDoorREwd
namespace Go.Proofs.YtlhieohjabbgdaaGreatDoorR.Tr
open Go.RowKit Go.Maps Go.ChangeMaps
set_option linter.unusedVariables false
theorem sl_rows {w : World} {v : Value} {xs : List EvA} (h : SlEvA w v xs) : ∃ a m, v = .slice a (xs.map EvA.z).length m ∧ ∀ i e, (xs.map EvA.z)[i]? = some e → ∃ g off, a = some ⟨g, off, none⟩ ∧ Rc w g (off + i * 13) e := by
  rcases h with ⟨rfl, a, c, rfl⟩ | ⟨b, off, cap, rfl, hr⟩
  · exact ⟨a, c, rfl, fun i e he => by simp at he⟩
  · refine ⟨_, cap, by rw [List.length_map], fun i e he => ⟨b, off, rfl, ?_⟩⟩
    rw [List.getElem?_map] at he
    obtain ⟨x, hx, rfl⟩ := Option.map_eq_some_iff.1 he
    obtain ⟨hi, rfl⟩ := List.getElem?_eq_some_iff.1 hx
    exact ⟨hr.c0 i hi, hr.c1 i hi, hr.c2 i hi, hr.c3 i hi, hr.c4 i hi, hr.c5 i hi, hr.c6 i hi, hr.c7 i hi, hr.c8 i hi, hr.c9 i hi, hr.c10 i hi, hr.c11 i hi, hr.c12 i hi⟩
theorem zs_nm {xs : List EvA} (h : ∀ x ∈ xs, x.ok) : ∀ e ∈ xs.map EvA.z, e.nm.size ≤ maxLen := fun e he => by
  obtain ⟨x, hx, rfl⟩ := List.mem_map.1 he
  exact (z_ok (h x hx)).nm
theorem addsL_ (xs : List EvA) (v : Value) (K : Int) (w : World) (hk : Tk w) (hs : SlEvA w v xs) (hok : ∀ x ∈ xs, x.ok) (hl : xs.length ≤ 1256584717421) :
    Calls Tryz.prog 4 #[v, .int .i64 K] w fun r w' => r = .returned (.bool true) ∧ Touch [] w w' := by
  obtain ⟨a, m, rfl, hx⟩ := sl_rows hs
  exact adds_ w a m (xs.map EvA.z) K hx (zs_nm hok) (by rw [List.length_map]; omega) hk
end Go.Proofs.YtlhieohjabbgdaaGreatDoorR.Tr
