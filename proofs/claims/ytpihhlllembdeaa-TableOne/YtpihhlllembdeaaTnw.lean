/- The law TableNil, walked. -/
import Derived.Test.YtpihhlllembdeaaTbn
import Derived.Test.YtpihhlllembdeaaOpt
namespace Go.Proofs.Ytpihhlllembdeaa
open Go.RowKit Go.Maps Go.ChangeMaps
set_option linter.unusedVariables false
set_option linter.unusedSimpArgs false
def ca (a : ActT) : Array Value := #[.int .i64 a.kd, .int .i64 a.rn, .int .i64 a.cl, .bool a.rf, .int .u16 a.k.1, .string a.k.2, .int .i64 a.o.1, .int .i64 a.o.2.1, .int .i64 a.o.2.2.1, .int .i64 a.o.2.2.2]
theorem neqRun0 (w : World) : (binOp .neq 58 (.agg #[.int .i64 0, .int .u16 0, .string ⟨#[]⟩, .int .i64 0, .bool false]) (.agg #[.int .i64 0, .int .u16 0, .string ⟨#[]⟩, .int .i64 0, .bool false])).run Try.prog w = .ok (.bool false) w := by go_simp
theorem neqGone0 (w : World) : (binOp .neq 43 (.agg #[.bool false, .bool false]) (.agg #[.bool false, .bool false])).run Try.prog w = .ok (.bool false) w := by go_simp
/-- The cells of an act that lies in a box. -/
structure Acs (w : World) (B : Nat) (a : ActT) : Prop where
  i0 : w.cell? ⟨B, 0, none⟩ = some (.int .i64 a.kd)
  i1 : w.cell? ⟨B, 1, none⟩ = some (.int .i64 a.rn)
  i2 : w.cell? ⟨B, 2, none⟩ = some (.int .i64 a.cl)
  i3 : w.cell? ⟨B, 3, none⟩ = some (.bool a.rf)
  i4 : w.cell? ⟨B, 4, none⟩ = some (.int .u16 a.k.1)
  i5 : w.cell? ⟨B, 5, none⟩ = some (.string a.k.2)
  i6 : w.cell? ⟨B, 6, none⟩ = some (.int .i64 a.o.1)
  i7 : w.cell? ⟨B, 7, none⟩ = some (.int .i64 a.o.2.1)
  i8 : w.cell? ⟨B, 8, none⟩ = some (.int .i64 a.o.2.2.1)
  i9 : w.cell? ⟨B, 9, none⟩ = some (.int .i64 a.o.2.2.2)
theorem acs_at {w : World} {B : Nat} {a : ActT} (h : w.heap[B]? = some (.cells (ca a) 37 (0, 0))) : Acs w B a := ⟨cell_at h rfl, cell_at h rfl, cell_at h rfl, cell_at h rfl, cell_at h rfl, cell_at h rfl, cell_at h rfl, cell_at h rfl, cell_at h rfl, cell_at h rfl⟩
set_option maxHeartbeats 8000000 in
set_option maxRecDepth 100000 in
theorem lawNil (w : World) (a : ActT) : Calls Try.prog 4 #[av a] w fun e w' => e = .returned (.bool true) ∧ Touch [] w w' := by
  obtain ⟨V, hV⟩ : ∃ V, V = w.alloc (.cells (ca a) 37) := ⟨_, rfl⟩
  have TV : Hid (Touch [] w V) := by rw [hV]; exact (Touch.refl _ _).alloc _
  have hbx : V.heap[w.heap.size]? = some (.cells (ca a) 37 (0, 0)) := by rw [hV]; exact heap_alloc_new w _
  have HQ : Hid (∀ w', Touch [] V w' → Acs w' w.heap.size a) := fun w' T => acs_at (T.keep hbx (by simp))
  obtain ⟨i0, i1, i2, i3, i4, i5, i6, i7, i8, i9⟩ := HQ.out V (Touch.refl _ _)
  have HB := hid (fun w => begin_nilT w a.k a.cl a.rf)
  have HF := hid (fun w => forget_nilT w a.k)
  have HC := hid (fun w => current_nilT w a.k)
  have HG := hid (fun w => genn_nilT w a.k)
  have HE := hid (fun w => end_nilT w a.rn a.o)
  have q58 := neqRun0
  have q43 := neqGone0
  clear hbx
  unfold kv at HB HF HC HG
  unfold ov at HE
  unfold ca at hV
  unfold av
  have TVV : Hid (Touch [] V V) := Touch.refl _ _
  go_enter Try.func4, Try.ntmps4
  go_upto_region 1 with fail
  rw [← hV]
  clear hV
  go_upto_region 3 with (go_at_call 15; refine (HB.out _).mono ?_; rintro e w1 ⟨rfl, t1⟩; have T1 := hid t1; clear i0 i1 i2 i3 i4 i5 i6 i7 i8 i9; obtain ⟨i0, i1, i2, i3, i4, i5, i6, i7, i8, i9⟩ := HQ.out _ t1; clear t1)
  go_upto_region 4 with (go_at_call 11; refine (leave_nilT _ _ _).mono ?_; rintro e w2 ⟨rfl, t2⟩; have T2 := hid (T1.out.trans' t2); clear i0 i1 i2 i3 i4 i5 i6 i7 i8 i9 t2)
  obtain ⟨W2, hW2⟩ : ∃ W2, W2 = w2.alloc (.cells #[.bool false, .bool false] 43) := ⟨_, rfl⟩
  have U2 : Hid (Touch [] V W2) := by rw [hW2]; exact T2.out.alloc _
  have G2 : W2.heap[w2.heap.size]? = some (.cells #[.bool false, .bool false] 43 (0, 0)) := by rw [hW2]; exact heap_alloc_new w2 _
  have HG2 : Hid (∀ w', Touch [] W2 w' → w'.cell? ⟨w2.heap.size, 0, none⟩ = some (.bool false) ∧ w'.cell? ⟨w2.heap.size, 1, none⟩ = some (.bool false)) := fun w' T => ⟨cell_at (T.keep G2 (by simp)) rfl, cell_at (T.keep G2 (by simp)) rfl⟩
  rw [← hW2]
  clear hW2 G2
  generalize w2.heap.size = B2 at *
  obtain ⟨i0, i1, i2, i3, i4, i5, i6, i7, i8, i9⟩ := HQ.out _ U2.out
  go_upto_region 5 with (go_at_call 12; refine (rel_nilT _ _).mono ?_; rintro e w3 ⟨rfl, t3⟩; have T3 := hid t3; clear i0 i1 i2 i3 i4 i5 i6 i7 i8 i9 t3)
  obtain ⟨W3, hW3⟩ : ∃ W3, W3 = w3.alloc (.cells #[.bool false, .bool false] 43) := ⟨_, rfl⟩
  have U3 : Hid (Touch [] W2 W3) := by rw [hW3]; exact T3.out.alloc _
  have G3 : W3.heap[w3.heap.size]? = some (.cells #[.bool false, .bool false] 43 (0, 0)) := by rw [hW3]; exact heap_alloc_new w3 _
  have HG3 : Hid (∀ w', Touch [] W3 w' → w'.cell? ⟨w3.heap.size, 0, none⟩ = some (.bool false) ∧ w'.cell? ⟨w3.heap.size, 1, none⟩ = some (.bool false)) := fun w' T => ⟨cell_at (T.keep G3 (by simp)) rfl, cell_at (T.keep G3 (by simp)) rfl⟩
  rw [← hW3]
  clear hW3 G3
  generalize w3.heap.size = B3 at *
  obtain ⟨i0, i1, i2, i3, i4, i5, i6, i7, i8, i9⟩ := HQ.out _ (U2.out.trans' U3.out)
  go_upto_region 6 with (go_at_call 13; refine (HF.out _).mono ?_; rintro e w4 ⟨rfl, t4⟩; have T4 := hid t4; clear i0 i1 i2 i3 i4 i5 i6 i7 i8 i9; obtain ⟨i0, i1, i2, i3, i4, i5, i6, i7, i8, i9⟩ := HQ.out _ ((U2.out.trans' U3.out).trans' t4); clear t4)
  go_upto_region 7 with (go_at_call 14; refine (HE.out _).mono ?_; rintro e w5 ⟨rfl, t5⟩; have T5 := hid (T4.out.trans' t5); clear i0 i1 i2 i3 i4 i5 i6 i7 i8 i9; obtain ⟨i0, i1, i2, i3, i4, i5, i6, i7, i8, i9⟩ := HQ.out _ ((U2.out.trans' U3.out).trans' T5.out); clear t5 T4)
  go_upto_region 8 with (go_at_call 19; refine (HC.out _).mono ?_; rintro e w6 ⟨rfl, t6⟩; have T6 := hid (T5.out.trans' t6); clear i0 i1 i2 i3 i4 i5 i6 i7 i8 i9; obtain ⟨i0, i1, i2, i3, i4, i5, i6, i7, i8, i9⟩ := HQ.out _ ((U2.out.trans' U3.out).trans' T6.out); clear t6 T5)
  go_upto_region 9 with (go_at_call 17; refine (run_nilT _ _).mono ?_; rintro e w7 ⟨rfl, t7⟩; have T7 := hid (T6.out.trans' t7); clear i0 i1 i2 i3 i4 i5 i6 i7 i8 i9 t7 T6)
  obtain ⟨W7, hW7⟩ : ∃ W7, W7 = w7.alloc (.cells #[.int .i64 0, .int .u16 0, .string ⟨#[]⟩, .int .i64 0, .bool false] 58) := ⟨_, rfl⟩
  have U7 : Hid (Touch [] W3 W7) := by rw [hW7]; exact T7.out.alloc _
  have G7 : W7.heap[w7.heap.size]? = some (.cells #[.int .i64 0, .int .u16 0, .string ⟨#[]⟩, .int .i64 0, .bool false] 58 (0, 0)) := by rw [hW7]; exact heap_alloc_new w7 _
  obtain ⟨r0, r1, r2, r3, r4⟩ : W7.cell? ⟨w7.heap.size, 0, none⟩ = some (.int .i64 0) ∧ W7.cell? ⟨w7.heap.size, 1, none⟩ = some (.int .u16 0) ∧ W7.cell? ⟨w7.heap.size, 2, none⟩ = some (.string ⟨#[]⟩) ∧ W7.cell? ⟨w7.heap.size, 3, none⟩ = some (.int .i64 0) ∧ W7.cell? ⟨w7.heap.size, 4, none⟩ = some (.bool false) := ⟨cell_at G7 rfl, cell_at G7 rfl, cell_at G7 rfl, cell_at G7 rfl, cell_at G7 rfl⟩
  rw [← hW7]
  clear hW7 G7
  generalize w7.heap.size = B7 at *
  obtain ⟨g0, g1⟩ := HG2.out _ (U3.out.trans' U7.out)
  obtain ⟨g2, g3⟩ := HG3.out _ U7.out
  have Z7 : Hid (Touch [] V W7) := (U2.out.trans' U3.out).trans' U7.out
  clear HB HF HC HE T1 T2 T3 T7 U2 U3 U7 HG2 HG3
  go_upto_region 11 with fail
  clear r0 r1 r2 r3 r4 g0 g1 g2 g3
  go_wp2_with (first
    | (go_at_call 6; refine (awakeT _).mono ?_; rintro e x1 ⟨rfl, t1⟩; have Z1 := hid (Z7.out.trans' t1); clear t1; obtain ⟨i0, i1, i2, i3, i4, i5, i6, i7, i8, i9⟩ := HQ.out _ Z1.out)
    | (go_at_call 10; refine (join_nilT _ _ _).mono ?_; rintro e w7 ⟨rfl, e7⟩; rw [e7]; clear e7 w7)
    | (go_at_call 9; refine (HG.out _).mono ?_; rintro e x2 ⟨rfl, t2⟩; have Z2 := hid (Z1.out.trans' t2); clear t2; clear i0 i1 i2 i3 i4 i5 i6 i7 i8 i9; obtain ⟨i0, i1, i2, i3, i4, i5, i6, i7, i8, i9⟩ := HQ.out _ Z2.out)
    | (go_at_call 18; refine (waiters_nilT _ _).mono ?_; rintro e w7 ⟨rfl, e7⟩; rw [e7]; clear e7 w7)
    | (go_at_call 7; refine (canc_nilT _ _).mono ?_; rintro e w7 ⟨rfl, e7⟩; rw [e7]; clear e7 w7)
    | (go_at_call 20; refine (isCur_nilT _ _).mono ?_; rintro e x3 ⟨rfl, t3⟩; have Z3 := hid (Z2.out.trans' t3); clear t3)
    | (go_at_call 16; refine (prog_nilT _).mono ?_; rintro e w7 ⟨rfl, e7⟩; rw [e7]; clear e7 w7)
    | (go_at_call 21; refine (currents_nilT _).mono ?_; rintro e w7 ⟨rfl, e7⟩; rw [e7]; clear e7 w7)
    | (go_at_call 8; refine (begun_nilT _).mono ?_; rintro e w7 ⟨rfl, e7⟩; rw [e7]; clear e7 w7)
    | (go_at_call 22; refine (clone_nilT _).mono ?_; rintro e w7 ⟨rfl, e7⟩; rw [e7]; clear e7 w7))
  go_ret
  exact ⟨rfl, TV.out.trans' Z3.out⟩
end Go.Proofs.Ytpihhlllembdeaa
