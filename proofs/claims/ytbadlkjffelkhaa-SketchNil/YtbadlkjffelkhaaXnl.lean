/- The law SketchNil's walk; no conditions. -/
import Derived.Test.YtbadlkjffelkhaaXaw
import Derived.Test.YtbadlkjffelkhaaXop
namespace Go.Proofs.Ytbadlkjffelkhaa.Sk
open Go.RowKit Go.Maps Go.ChangeMaps
set_option maxRecDepth 100000
set_option linter.unusedVariables false
set_option linter.unusedSimpArgs false
set_option maxHeartbeats 4000000 in
theorem nilLaw_ (w : World) (k : K) (hk : Ok k) : Calls Try.prog 7 #[kv k] w fun e w' => e = .returned (.bool true) ∧ Touch [] w w' := by
  obtain ⟨V, hV⟩ : ∃ V, V = w.alloc (.cells #[.int .u16 k.1, .string k.2] 43) := ⟨_, rfl⟩
  have TV : Touch [] w V := by rw [hV]; exact (Touch.refl _ _).alloc _
  have HB : Hid (∀ w1, Touch [] V w1 → w1.cell? ⟨w.heap.size, 0, none⟩ = some (.int .u16 k.1) ∧ w1.cell? ⟨w.heap.size, 1, none⟩ = some (.string k.2)) := hid (fun w1 t1 => by
    have hb : V.heap[w.heap.size]? = some (.cells #[.int .u16 k.1, .string k.2] 43) := by rw [hV]; exact heap_alloc_new w _
    have := t1.keep hb (by simp)
    exact ⟨cell_at this rfl, cell_at this rfl⟩)
  obtain ⟨z0, z1⟩ := HB.out V (Touch.refl _ _)
  have HT := hid TV
  have H1 := hid (fun w1 => add_nil w1 k)
  have H2 := hid merge_nil
  have H3 := hid hot_nil
  have H4 := hid halve_nil
  have H5 := hid awake_
  have H6 := hid (fun w1 => count_nil w1 k)
  have H7 := hid total_nil
  have H8 := hid (fun w1 => better_nil w1 k)
  have H9 := hid (fun w1 => places_nil w1 k)
  have H10 := hid clone_nil
  clear TV hk
  unfold kv at *
  go_enter Try.func7, Try.ntmps7
  go_upto_region 1 with fail
  rw [← hV]
  clear hV
  go_wp2_with (first
    | (go_at_call 13; refine (H1.out _).mono ?_; rintro e w1 ⟨rfl, t1⟩; obtain ⟨a0, a1⟩ := HB.out _ t1; have t1 := hid t1)
    | (go_at_call 11; refine (H2.out _).mono ?_; rintro e w2 ⟨rfl, t2⟩; have t2 := hid (t1.out.trans' t2); obtain ⟨b0, b1⟩ := HB.out _ t2.out)
    | (go_at_call 15; refine (H3.out _ _).mono ?_; rintro e w3 ⟨rfl, t3⟩; have t3 := hid ((t2.out.alloc _).trans' t3); obtain ⟨c0, c1⟩ := HB.out _ t3.out)
    | (go_at_call 24; refine (H4.out _).mono ?_; rintro e w4 ⟨rfl, t4⟩; have t4 := hid (t3.out.trans' t4))
    | (go_at_call 9; refine (H5.out _).mono ?_; rintro e w5 ⟨rfl, t5⟩; have t5 := hid (t4.out.trans' t5); obtain ⟨d0, d1⟩ := HB.out _ t5.out)
    | (go_at_call 23; refine (H6.out _).mono ?_; rintro e w6 ⟨rfl, t6⟩; have t6 := hid (t5.out.trans' t6))
    | (go_at_call 25; refine (H7.out _).mono ?_; rintro e w7 ⟨rfl, t7⟩; have t7 := hid (t6.out.trans' t7); obtain ⟨f0, f1⟩ := HB.out _ t7.out)
    | (go_at_call 20; refine (H8.out _).mono ?_; rintro e w8 ⟨rfl, t8⟩; have t8 := hid (t7.out.trans' t8); obtain ⟨g0, g1⟩ := HB.out _ t8.out)
    | (go_at_call 26; refine (H9.out _).mono ?_; rintro e w9 ⟨rfl, t9⟩; have t9 := hid (t8.out.trans' t9))
    | (go_at_call 27; refine (H10.out _).mono ?_; rintro e w10 ⟨rfl, t10⟩; have t10 := hid (t9.out.trans' t10)))
  go_ret
  exact ⟨rfl, HT.out.trans' t10.out⟩
theorem nilLaw (w : World) (x : KyA) (hx : x.ok) : Calls Try.prog 7 #[.agg x.cs] w fun e w' => e = .returned (.bool true) ∧ Touch [] w w' := nilLaw_ w x.key (KyA.okk hx)
end Go.Proofs.Ytbadlkjffelkhaa.Sk
