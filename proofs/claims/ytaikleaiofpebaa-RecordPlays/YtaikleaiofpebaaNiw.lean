/- The law RecordNil, walked. -/
import Derived.Test.YtaikleaiofpebaaNil
import Derived.Test.YtaikleaiofpebaaOpn
namespace Go.Proofs.Ytaikleaiofpebaa
open Go.RowKit Go.Maps Go.ChangeMaps
set_option linter.unusedVariables false
set_option linter.unusedSimpArgs false
def ca (a : ActR) : Array Value := #[.int .i64 a.kd, .int .i64 a.cl, .int .i64 a.o.1, .int .i64 a.o.2.1, .int .i64 a.o.2.2.1, .int .i64 a.o.2.2.2]
theorem eqrun0 (w : World) : (binOp .eql 26 (.agg #[.int .i64 0, .int .u16 0, .string ⟨#[]⟩, .int .i64 0, .bool false]) (.agg #[.int .i64 0, .int .u16 0, .string ⟨#[]⟩, .int .i64 0, .bool false])).run Try.prog w = .ok (.bool true) w := by go_simp
set_option maxHeartbeats 4000000 in
set_option maxRecDepth 100000 in
theorem law4 (w : World) (a : ActR) : Calls Try.prog 4 #[av a] w fun e w' => e = .returned (.bool true) ∧ Touch [] w w' := by
  obtain ⟨V, hV⟩ : ∃ V, V = w.alloc (.cells (ca a) 46) := ⟨_, rfl⟩
  have TV : Hid (Touch [] w V) := by rw [hV]; exact (Touch.refl _ _).alloc _
  have hbx : V.heap[w.heap.size]? = some (.cells (ca a) 46 (0, 0)) := by rw [hV]; exact heap_alloc_new w _
  have HQ : Hid (∀ w', Touch [] V w' → w'.cell? ⟨w.heap.size, 1, none⟩ = some (.int .i64 a.cl) ∧ w'.cell? ⟨w.heap.size, 2, none⟩ = some (.int .i64 a.o.1) ∧ w'.cell? ⟨w.heap.size, 3, none⟩ = some (.int .i64 a.o.2.1) ∧ w'.cell? ⟨w.heap.size, 4, none⟩ = some (.int .i64 a.o.2.2.1) ∧ w'.cell? ⟨w.heap.size, 5, none⟩ = some (.int .i64 a.o.2.2.2)) := fun w' T => by
    have := T.keep hbx (by simp)
    exact ⟨cell_at this rfl, cell_at this rfl, cell_at this rfl, cell_at this rfl, cell_at this rfl⟩
  obtain ⟨i1, i2, i3, i4, i5⟩ := HQ.out V (Touch.refl _ _)
  have H11 := hid (fun w => end11_nil w a.o)
  have H12 := hid (fun w => outcome12_nil w)
  have q26 := eqrun0
  clear hbx
  unfold ov oz at H12
  unfold ov at H11
  unfold ca at hV
  unfold av
  go_enter Try.func4, Try.ntmps4
  go_upto_region 1 with fail
  rw [← hV]
  clear hV
  go_upto_region 5 with (first
    | (go_at_call 10; refine (leave10_nil _ _).mono ?_; rintro e w1 ⟨rfl, rfl⟩)
    | (go_at_call 11; refine (H11.out _).mono ?_; rintro e w2 ⟨rfl, t2⟩; have T2 := hid t2; clear t2)
    | (go_at_call 12; refine (H12.out _).mono ?_; rintro e w3 ⟨rfl, t3⟩; have T3 := hid t3; clear t3))
  obtain ⟨W4, hW4⟩ : ∃ W4, W4 = w3.alloc (.cells #[.int .i64 0, .int .i64 0, .int .i64 0, .int .i64 0] 44) := ⟨_, rfl⟩
  have T4 : Hid (Touch [] w1 W4) := by rw [hW4]; exact (T2.out.trans' T3.out).alloc _
  rw [← hW4]
  clear hW4 i1 i2 i3 i4 i5 T2 T3 H11 H12
  go_wp2_with (first
    | (go_at_call 6; refine (awake6 _).mono ?_; rintro e w5 ⟨rfl, t5⟩; have T5 := hid (T4.out.trans' t5); clear t5)
    | (go_at_call 8; refine (run8_nil _).mono ?_; rintro e w6 ⟨rfl, t6⟩; obtain ⟨y1, y2, y3, y4, y5⟩ := HQ.out _ (T5.out.trans' t6); have T6 := hid (T5.out.trans' t6); clear t6)
    | (go_at_call 13; refine (join13_nil _ _).mono ?_; rintro e w7 ⟨rfl, e7⟩; rw [e7]; clear e7 w7)
    | (go_at_call 14; refine (release14_nil _).mono ?_; rintro e w7 ⟨rfl, e7⟩; rw [e7]; clear e7 w7)
    | (go_at_call 15; refine (waits15_nil _ _).mono ?_; rintro e w7 ⟨rfl, e7⟩; rw [e7]; clear e7 w7)
    | (go_at_call 16; refine (cancelled16_nil _).mono ?_; rintro e w7 ⟨rfl, e7⟩; rw [e7]; clear e7 w7)
    | (go_at_call 17; refine (ended17_nil _).mono ?_; rintro e w7 ⟨rfl, e7⟩; rw [e7]; clear e7 w7)
    | (go_at_call 18; refine (waiters18_nil _).mono ?_; rintro e w7 ⟨rfl, e7⟩; rw [e7]; clear e7 w7)
    | (go_at_call 19; refine (interest19_nil _).mono ?_; rintro e w7 ⟨rfl, e7⟩; rw [e7]; clear e7 w7)
    | (go_at_call 20; refine (clone20_nil _).mono ?_; rintro e w7 ⟨rfl, e7⟩; rw [e7]; clear e7 w7))
  go_ret
  exact ⟨rfl, TV.out.trans' T6.out⟩
end Go.Proofs.Ytaikleaiofpebaa
