/- The law's own first look: a loader that adds, and answers; the condition is that the table holds what the start lays. -/
import Derived.Test.YtgjojdlbighoaaaDoorAln
namespace Go.Proofs.YtgjojdlbighoaaaDoor
open Go.RowKit Go.Sort
set_option linter.unusedVariables false

def awL : List Sp := [(1, 5, 0), (2, 1, 0), (10, 0, 0)]
def awX : Ar := ⟨0, ⟨#[]⟩, 1, false⟩
theorem aw_good : Good awL := by
  refine ⟨by decide, fun x hx => ?_⟩
  simp only [awL, List.mem_cons, List.not_mem_nil, or_false] at hx
  rcases hx with rfl | rfl | rfl
  · show may3 1 5 0
    unfold may3
    omega
  · show may3 2 1 0
    unfold may3
    omega
  · show may3 10 0 0
    unfold may3
    omega
theorem aw_wf : WfS awL := fun x hx => by
  simp only [awL, List.mem_cons, List.not_mem_nil, or_false] at hx
  rcases hx with rfl | rfl | rfl <;> exact ⟨⟨by decide, by decide⟩, ⟨by decide, by decide⟩, ⟨by decide, by decide⟩⟩
theorem aw_on : On (awX.f awL) 0 0 (.fin 10 0 0 0) := by
  have s0 : awX.f awL 0 0 = .go 1 5 0 0 := by
    unfold Ar.f
    rw [stepS_at (show awL[0]? = some (1, 5, 0) from rfl), stepO_1, IntKind.wrap_i64]
    rfl
  have s1 : awX.f awL 1 5 = .go 2 10 0 0 := by
    unfold Ar.f
    rw [stepS_at (show awL[1]? = some (2, 1, 0) from rfl), stepO_2]
    have : shiftI 5 1 = 10 := by unfold shiftI shl; rw [if_neg (by decide), IntKind.wrap_i64]; rfl
    rw [this]
  have s2 : awX.f awL 2 10 = .fin 10 0 0 0 := by
    unfold Ar.f
    rw [stepS_at (show awL[2]? = some (10, 0, 0) from rfl), stepO_10]
  exact .step s0 (.step s1 (.fin s2))
theorem aw_ok : awX.ok := ⟨by decide, by decide, by decide, by unfold I64; decide⟩
theorem aw_sl (w : World) (b : Nat) (c0 : w.cell? ⟨b, 0, none⟩ = some (.int .i64 1)) (c1 : w.cell? ⟨b, 1, none⟩ = some (.int .i64 5)) (c2 : w.cell? ⟨b, 2, none⟩ = some (.int .i64 0)) (c3 : w.cell? ⟨b, 3, none⟩ = some (.int .i64 2)) (c4 : w.cell? ⟨b, 4, none⟩ = some (.int .i64 1)) (c5 : w.cell? ⟨b, 5, none⟩ = some (.int .i64 0)) (c6 : w.cell? ⟨b, 6, none⟩ = some (.int .i64 10)) (c7 : w.cell? ⟨b, 7, none⟩ = some (.int .i64 0)) (c8 : w.cell? ⟨b, 8, none⟩ = some (.int .i64 0)) : Sl w (some ⟨b, 0, none⟩) awL := fun i hi => by
  refine ⟨b, 0, rfl, ?_⟩
  have hi' : i < 3 := hi
  rcases (by omega : i = 0 ∨ i = 1 ∨ i = 2) with rfl | rfl | rfl
  · exact ⟨c0, c1, c2⟩
  · exact ⟨c3, c4, c5⟩
  · exact ⟨c6, c7, c8⟩
theorem awake11 (w : World) (hk : Kd w) : Calls Tryd.prog 11 #[] w fun e w' => e = .returned (.bool true) ∧ Gr w w' := by
  have HC : Hid (∀ w', Gr w w' → Sl w' (some ⟨w.heap.size, 0, none⟩) awL → Calls Tryd.prog 20 #[.slice (some ⟨w.heap.size, 0, none⟩) 3 3, .agg #[.int .u16 0, .string ⟨#[]⟩, .int .i64 1, .bool false]] w' fun e w'' => e = .returned (.tuple #[.agg #[.int .i64 10, .int .i64 0, .int .i64 0, .int .i64 0], .int .i64 0, .int .i64 0]) ∧ Gr w' w'') := fun w' hg hs =>
    Calls.mono (alone20_ok awL _ 3 awX w' (hk.gr hg) hs aw_wf aw_good aw_ok) fun e w'' ⟨⟨v, k, c, r, s, he, ha, _⟩, hg'⟩ => by
      have := ha.eq (.fin aw_on)
      cases this
      exact ⟨he, hg'⟩
  clear hk
  go_enter Tryd.func11, Tryd.ntmps11
  go_wp2_with fail
  refine Calls.mono (HC.out _ ((Gr.refl _).alloc _) (aw_sl _ _ (by simp) (by simp) (by simp) (by simp) (by simp) (by simp) (by simp) (by simp) (by simp))) ?_
  rintro e w1 ⟨rfl, hg⟩
  have G : Hid (Gr w w1) := ((Gr.refl _).alloc _).trans hg
  clear hg
  go_wp2_with fail
  go_ret
  exact ⟨rfl, G.out.alloc _⟩
end Go.Proofs.YtgjojdlbighoaaaDoor
