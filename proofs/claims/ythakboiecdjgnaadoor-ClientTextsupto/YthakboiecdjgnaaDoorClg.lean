/- Contracts of a client's Log, Had and Clone; no conditions but those that each states. -/
import Derived.Test.YthakboiecdjgnaaDoorCmh
namespace Go.Proofs.YthakboiecdjgnaaDoor.Ci
open Go.RowKit Go.Maps Go.ChangeMaps
set_option linter.unusedVariables false
set_option linter.unusedSimpArgs false
theorem infoG : (Tryd.prog.info? 60).map (fun i => (i.zero, i.size, i.bytes)) = some (some (.agg #[.int .i64 0, .int .i64 0, .int .i64 0, .int .i64 0, .int .i64 0, .int .i64 0, .int .i64 0]), 7, 56) := by kernel_rfl
section
variable {w w' : World} {b : Nat} {pv lv : Value} {S : Cs}
def LgE (e : Ending) (w w' : World) (L : List Gz) : Prop := ∃ a c, e = .returned (.slice a L.length c) ∧ w'.ownsRow w.heap.size 60 7 (.slice a L.length c) L.length (cellsG L) ∧ Touch [] w w'
theorem log_ (h : Cq w b pv lv S) (hl : S.log.length ≤ 2000000000000) : Calls Tryd.prog 21 #[.pointer (some ⟨b, 0, none⟩)] w fun e w' => LgE e w w' S.log := by
  have HR := hid (Rs.of_own h.lg)
  have q3 := h.c3
  obtain ⟨a, c, rfl⟩ := own_form h.lg
  have HL := hid hl
  have HE : Hid (∀ v' w', w'.ownsRow w.heap.size 60 7 v' (0 + S.log.length) ([] ++ cellsG S.log) → w.grownBy w' (Value.slice none 0 0).ownBlock → ∃ a c, v' = .slice a S.log.length c ∧ LgE (.returned (.slice a S.log.length c)) w w' S.log) := fun v' w' q1 q2 => by
    rw [Nat.zero_add, List.nil_append] at q1
    obtain ⟨a, c, rfl⟩ := own_form q1
    exact ⟨a, c, rfl, a, c, rfl, q1, (Touch.refl [] w).grown q2 (fun k hk => by cases hk)⟩
  clear h hl
  go_enter Tryd.func21, Tryd.ntmps21
  go_wp2_with (at_builtin; refine wpList_append_rs rfl _ _ _ 60 rfl _ 7 56 infoG Tryd.underlying53 rfl (by decide) w.heap.size (.slice none 0 0) 0 [] rfl (own_nil w w.heap.size _ _) _ S.log.length (cellsG S.log) rfl HR.out (cellsG_one _) (by have := HL.out; unfold maxLen; omega) (by have := HL.out; omega) (Nat.le_refl _) ?_; intro v5 w5 o5 g5 e5; obtain ⟨a5, c5, rfl, q5⟩ := HE.out _ _ o5 g5; have Q5 := hid q5; clear o5 g5 e5 q5)
  go_ret
  exact Q5.out
end
end Go.Proofs.YthakboiecdjgnaaDoor.Ci
