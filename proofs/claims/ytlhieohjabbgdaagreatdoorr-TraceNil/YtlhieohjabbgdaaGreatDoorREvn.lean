/- The texts and lists of a trace that is nil, further; no conditions but those that each states. -/
import Derived.Test.YtlhieohjabbgdaaGreatDoorREvm
import Derived.Test.YtlhieohjabbgdaaGreatDoorREvs
namespace Go.Proofs.YtlhieohjabbgdaaGreatDoorR.Tr
open Go.RowKit Go.Sort Go.Shelf Go.Maps Go.ChangeMaps
set_option linter.unusedVariables false
set_option linter.unusedSimpArgs false
theorem stringE_ {B b : Nat} {w : World} (h : Bd B b [] w) :
    Calls Tryz.prog 58 #[PT b] w fun e w' => e = .returned (.string ⟨#[]⟩) ∧ Wr B b w w' :=
  (Any.Builder_String_empty_k blayt bextra B b w h.1 h.2.1).mono fun e w' ⟨he, h1, h2, h3⟩ => ⟨he, h2, fun k o hk hb ho => h3 k o hk (fun e => hb (Option.some.inj e)) ho⟩
theorem text_nil (w : World) : Calls Tryz.prog 22 #[.pointer none] w fun r w' => r = .returned (.string ⟨#[]⟩) ∧ Touch [] w w' := by
  have hmf := makef Tryz.prog
  have HE : Hid _ := fun f w' => each_nil f w'
  have HS : Hid _ := stringE_ (Bd.new w)
  unfold PT at HS
  go_enter Tryz.func22, Tryz.ntmps22
  go_wp2_with fail
  refine (HE.out _ _).mono ?_
  rintro r w1 ⟨rfl, e1⟩
  rw [e1]
  clear e1 w1
  go_wp2_with fail
  refine Calls.mono HS.out ?_
  rintro r w2 ⟨rfl, g2⟩
  have G2 : Hid (Wr w.heap.size w.heap.size (w.alloc (.cells #[.pointer none, .slice none 0 0] 103)) w2) := g2
  clear g2
  go_wp2_with fail
  go_ret
  have TV : Touch [] w (w.alloc (.cells #[.pointer none, .slice none 0 0] 103)) := (Touch.refl [] w).alloc _
  exact ⟨rfl, G2.out.below.os.trans TV.os, G2.out.below.tape.trans TV.tape, G2.out.below.output.trans TV.output, Nat.le_trans TV.size G2.out.below.size, fun k hk _ => (G2.out.below.block k hk).trans (TV.block k hk (by simp))⟩
theorem sum_nil (w : World) : Calls Tryz.prog 23 #[.pointer none] w fun r w' => r = .returned (.int .u64 (sumL [] : Nat)) ∧ Touch [] w w' := by
  have HT : Hid _ := text_nil w
  have HH : Hid _ := fun w' => hash_ ⟨#[]⟩ (by decide) w'
  go_enter Tryz.func23, Tryz.ntmps23
  go_wp2_with fail
  refine Calls.mono HT.out ?_
  rintro r w1 ⟨rfl, t1⟩
  have T1 : Hid (Touch [] w w1) := t1
  clear t1
  go_wp2_with fail
  refine (HH.out _).mono ?_
  rintro r w2 ⟨rfl, e2⟩
  rw [e2]
  clear e2 w2
  go_wp2_with fail
  go_ret
  exact ⟨rfl, T1.out⟩
theorem len32_0 (w : World) : Calls Tryz.prog 96 #[.int .u64 0] w fun r w' => (∃ n, r = .returned (.int .i64 n)) ∧ Touch [] w w' := by
  go_enter Tryz.func96, Tryz.ntmps96
  go_wp2
  go_ret
  exact ⟨⟨_, rfl⟩, by repeat (first | exact Touch.refl _ _ | apply Touch.alloc)⟩
theorem ins_nil (w : World) : Calls Tryz.prog 116 #[.slice none 0 0, .int .i64 0, .int .i64 0] w fun r w' => r = .returned (.tuple #[]) ∧ w' = w := by
  go_enter Tryz.func116, Tryz.ntmps116
  go_wp2
  go_loopw [6] (fun x wr => x = .int .i64 1 ∧ wr = w) (fun _ _ => 0)
  case atStart => exact ⟨rfl, rfl⟩
  case round =>
    obtain ⟨rfl, rfl⟩ := hrel
    go_wp2
    go_end0
    exact ⟨rfl, rfl⟩
end Go.Proofs.YtlhieohjabbgdaaGreatDoorR.Tr
