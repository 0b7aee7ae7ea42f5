/- The law BatchNil, walked. -/
import Derived.Test.YtogojdeohohhhaaBse
import Derived.Test.YtogojdeohohhhaaBop
namespace Go.Proofs.Ytogojdeohohhhaa
open Go.RowKit Go.Maps Go.ChangeMaps
set_option linter.unusedVariables false
set_option linter.unusedSimpArgs false
theorem bnil_ (w : World) (x : ActB) (hx : x.ok) : Calls Try.prog 4 #[.agg x.cs] w fun e w' => e = .returned (.bool true) ∧ Touch [] w w' := by
  obtain ⟨V, hV⟩ : ∃ V, V = w.alloc (.cells x.cs 35) := ⟨_, rfl⟩
  have TV : Hid (Touch [] w V) := by rw [hV]; exact (Touch.refl _ _).alloc _
  have hbx : V.heap[w.heap.size]? = some (.cells x.cs 35 (0, 0)) := by rw [hV]; exact heap_alloc_new w _
  have HQ : Hid (∀ w', Touch [] V w' → w'.cell? ⟨w.heap.size, 1, none⟩ = some (.int .i64 x.rn)) := fun w' T => cell_at (T.keep hbx (by simp)) rfl
  have i1 := cell_at (j := 1) (v := .int .i64 x.rn) hbx rfl
  have i2 := cell_at (j := 2) (v := .int .i64 x.nw) hbx rfl
  clear hbx
  unfold ActB.cs at *
  go_enter Try.func4, Try.ntmps4
  go_upto_region 1 with fail
  rw [← hV]
  clear hV
  go_wp2_with (first
    | (go_at_call 16; refine (add_nil _ _ _).mono ?_; rintro e w7 ⟨rfl, e7⟩; rw [e7]; clear e7 w7)
    | (go_at_call 17; refine (send_nil _ _).mono ?_; rintro e w7 ⟨rfl, e7⟩; rw [e7]; clear e7 w7)
    | (go_at_call 9; refine (due_nil _).mono ?_; rintro e w7 ⟨rfl, e7⟩; rw [e7]; clear e7 w7)
    | (go_at_call 7; refine (awake_ _).mono ?_; rintro e w5 ⟨rfl, t5⟩; have y1 := HQ.out _ t5; have T5 := hid t5; clear t5)
    | (go_at_call 13; refine (has_nil _ _).mono ?_; rintro e w7 ⟨rfl, e7⟩; rw [e7]; clear e7 w7)
    | (go_at_call 18; refine (force_nil _).mono ?_; rintro e w7 ⟨rfl, e7⟩; rw [e7]; clear e7 w7)
    | (go_at_call 12; refine (runs_nil _).mono ?_; rintro e w7 ⟨rfl, e7⟩; rw [e7]; clear e7 w7)
    | (go_at_call 15; refine (sent_nil _).mono ?_; rintro e w7 ⟨rfl, e7⟩; rw [e7]; clear e7 w7)
    | (go_at_call 19; refine (clone_nil _).mono ?_; rintro e w7 ⟨rfl, e7⟩; rw [e7]; clear e7 w7))
  go_ret
  exact ⟨rfl, TV.out.trans' T5.out⟩
end Go.Proofs.Ytogojdeohohhhaa
