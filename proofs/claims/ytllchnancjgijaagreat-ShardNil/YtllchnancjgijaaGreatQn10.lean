/- The law of nil shards; no conditions but that the act is one of numbers and texts that fit. -/
import Derived.Test.YtllchnancjgijaaGreatQn09
namespace Go.Proofs.YtllchnancjgijaaGreat
open Go.RowKit Go.Maps Go.ChangeMaps
set_option maxRecDepth 100000
set_option linter.unusedVariables false
set_option linter.unusedSimpArgs false
theorem eqz (w : World) : (binOp .neq 58 (.agg #[.int .i64 0, .int .i64 0, .bool false, .bool false, .int .i64 0, .int .i64 0, .int .i64 0, .int .i64 0]) (.agg #[.int .i64 0, .int .i64 0, .bool false, .bool false, .int .i64 0, .int .i64 0, .int .i64 0, .int .i64 0])).run Tryz.prog w = .ok (.bool false) w ∧ (binOp .neq 65 (.agg #[.bool false, .int .i64 0, .int .i64 0, .bool false]) (.agg #[.bool false, .int .i64 0, .int .i64 0, .bool false])).run Tryz.prog w = .ok (.bool false) w ∧ (binOp .neq 49 (.agg #[.int .i64 0, .int .u16 0, .string ⟨#[]⟩, .int .i64 0, .bool false]) (.agg #[.int .i64 0, .int .u16 0, .string ⟨#[]⟩, .int .i64 0, .bool false])).run Tryz.prog w = .ok (.bool false) w := ⟨by kernel_rfl, by kernel_rfl, by kernel_rfl⟩
set_option maxHeartbeats 16000000 in
theorem nil_law (w : World) (n : Int) (x : ActG) (z : Int) : Calls Tryz.prog 4 #[.int .i64 n, .agg x.cs, .int .i64 z] w fun e w' => e = .returned (.bool true) ∧ Touch [] w w' := by
  obtain ⟨V, hV⟩ : ∃ V, V = w.alloc (.cells x.cs 41) := ⟨_, rfl⟩
  have tv : Touch [] w V := by rw [hV]; exact (Touch.refl _ _).alloc _
  have hb : V.heap[w.heap.size]? = some (.cells x.cs 41 (0, 0)) := by rw [hV]; exact heap_alloc_new w _
  have HAw := hid (fun w => sawake_ w)
  have HTV := hid tv
  have FA := hid hb
  clear tv hb
  unfold ActG.cs at *
  have HJoin : Hid (∀ w, Calls Tryz.prog 10 #[.pointer none, .int .i64 n, .agg #[.int .u16 x.k.sp, .string x.k.nm], .int .i64 x.cl, .int .i64 x.tk] w fun e w' => e = .returned (.tuple #[.agg #[.int .i64 0, .int .i64 0, .bool false, .int .i64 0, .int .i64 0, .int .i64 0, .int .i64 0, .slice none 0 0], .int .i64 100]) ∧ Touch [] w w') := hid (fun w => sjoin_nil w n x.k.key x.cl x.tk)
  have HLeave : Hid (∀ w, Calls Tryz.prog 13 #[.pointer none, .int .i64 n, .int .i64 x.cl] w fun e w' => e = .returned (.tuple #[.agg #[.int .i64 0, .int .i64 0, .bool false, .bool false, .int .i64 0, .int .i64 0, .int .i64 0, .int .i64 0], .int .i64 100]) ∧ Touch [] w w') := hid (fun w => sleave_nil w n x.cl)
  have HCancel : Hid (∀ w, Calls Tryz.prog 14 #[.pointer none, .int .i64 n, .int .i64 x.tk] w fun e w' => e = .returned (.tuple #[.slice none 0 0, .int .i64 100]) ∧ Touch [] w w') := hid (fun w => scancel_nil w n x.tk)
  have HForget : Hid (∀ w, Calls Tryz.prog 15 #[.pointer none, .int .i64 n, .agg #[.int .u16 x.k.sp, .string x.k.nm]] w fun e w' => e = .returned (.tuple #[.agg #[.bool false, .int .i64 0, .int .i64 0, .bool false], .int .i64 100]) ∧ Touch [] w w') := hid (fun w => sforget_nil w n x.k.key)
  have HEnd : Hid (∀ w, Calls Tryz.prog 12 #[.pointer none, .int .i64 n, .int .i64 x.rn, .agg #[.int .i64 x.o.va, .int .i64 x.o.fl.kd, .int .i64 x.o.fl.cd, .int .i64 x.o.fl.rn]] w fun e w' => e = .returned (.tuple #[.agg #[.int .i64 0, .int .u16 0, .string ⟨#[]⟩, .int .i64 0, .bool false, .slice none 0 0, .bool false, .bool false, .slice none 0 0, .slice none 0 0], .int .i64 100]) ∧ Touch [] w w') := hid (fun w => send_nil' w n x.rn x.o.out)
  have HSend : Hid (∀ w, Calls Tryz.prog 16 #[.pointer none, .int .i64 n] w fun e w' => e = .returned (.tuple #[.slice none 0 0, .int .i64 100]) ∧ Touch [] w w') := hid (fun w => ssend_nil w n)
  have HResize : Hid (∀ w, Calls Tryz.prog 17 #[.pointer none, .int .i64 n, .int .i64 z] w fun e w' => e = .returned (.tuple #[.pointer none, .slice none 0 0, .int .i64 100]) ∧ Touch [] w w') := hid (fun w => sresize_nil w n z)
  have HNext : Hid (∀ w, Calls Tryz.prog 18 #[.pointer none] w fun e w' => e = .returned (.tuple #[.int .i64 0, .bool false]) ∧ Touch [] w w') := hid (fun w => snext_nil w)
  have HPlace : Hid (∀ w, Calls Tryz.prog 9 #[.pointer none, .agg #[.int .u16 x.k.sp, .string x.k.nm]] w fun e w' => e = .returned (.int .i64 0) ∧ Touch [] w w') := hid (fun w => splace_nil w x.k.key)
  have HGroup : Hid (∀ w, Calls Tryz.prog 19 #[.pointer none, .int .i64 z] w fun e w' => e = .returned (.pointer none) ∧ Touch [] w w') := hid (fun w => sgroup_nil w z)
  have HProgress : Hid (∀ w, Calls Tryz.prog 20 #[.pointer none] w fun e w' => e = .returned (.slice none 0 0) ∧ Touch [] w w') := hid (fun w => sprog_nil w)
  have HEntries : Hid (∀ w, Calls Tryz.prog 21 #[.pointer none] w fun e w' => e = .returned (.int .i64 0) ∧ Touch [] w w') := hid (fun w => sentries_nil w)
  have HLen : Hid (∀ w, Calls Tryz.prog 23 #[.pointer none] w fun e w' => e = .returned (.int .i64 0) ∧ Touch [] w w') := hid (fun w => (slen_nil w).mono (fun e w2 hh => ⟨hh.1, by rw [hh.2]; exact Touch.refl _ _⟩))
  have HClone : Hid (∀ w, Calls Tryz.prog 24 #[.pointer none] w fun e w' => e = .returned (.pointer none) ∧ Touch [] w w') := hid (fun w => sclone_nil w)
  have HLoads : Hid (∀ w, Calls Tryz.prog 22 #[.pointer none] w fun e w' => (∃ a, e = .returned (.slice a 0 0)) ∧ Touch [] w w') := hid (fun w => (sloads_nil w).mono (fun e w2 hh => ⟨⟨_, hh.1⟩, hh.2⟩))
  go_enter Tryz.func4, Tryz.ntmps4
  go_upto_region 1 with fail
  rw [← hV]
  clear hV
  go_upto_region 2 with fail
  have FAc0 := cell_at (j := 0) (v := .int .i64 x.kd) FA.out rfl
  have FAc1 := cell_at (j := 1) (v := .int .i64 x.cl) FA.out rfl
  have FAc2 := cell_at (j := 2) (v := .int .i64 x.tk) FA.out rfl
  have FAc3 := cell_at (j := 3) (v := .int .i64 x.rn) FA.out rfl
  have FAc4 := cell_at (j := 4) (v := .int .i64 x.st) FA.out rfl
  have FAc5 := cell_at (j := 5) (v := .int .i64 x.od) FA.out rfl
  have FAc6 := cell_at (j := 6) (v := .int .u16 x.k.sp) FA.out rfl
  have FAc7 := cell_at (j := 7) (v := .string x.k.nm) FA.out rfl
  have FAc8 := cell_at (j := 8) (v := .int .i64 x.o.va) FA.out rfl
  have FAc9 := cell_at (j := 9) (v := .int .i64 x.o.fl.kd) FA.out rfl
  have FAc10 := cell_at (j := 10) (v := .int .i64 x.o.fl.cd) FA.out rfl
  have FAc11 := cell_at (j := 11) (v := .int .i64 x.o.fl.rn) FA.out rfl
  go_upto_region 3 with (go_at_call 10; refine (HJoin.out _).mono ?_; rintro e w1 ⟨rfl, t1⟩; have T1 := hid t1; clear t1; clear FAc0 FAc1 FAc2 FAc3 FAc4 FAc5 FAc6 FAc7 FAc8 FAc9 FAc10 FAc11)
  obtain ⟨W1, hW1⟩ : ∃ W, W = w1.alloc (.cells #[.int .i64 0, .int .i64 0, .bool false, .int .i64 0, .int .i64 0, .int .i64 0, .int .i64 0, .slice none 0 0] 45) := ⟨_, rfl⟩
  have u1 : Touch [] w1 W1 := by rw [hW1]; exact (Touch.refl _ _).alloc _
  have hb1 := heap_alloc_new w1 (.cells #[.int .i64 0, .int .i64 0, .bool false, .int .i64 0, .int .i64 0, .int .i64 0, .int .i64 0, .slice none 0 0] 45)
  rw [← hW1] at hb1 ⊢
  have S1 := hid (T1.out.trans' u1)
  have FA := hid (S1.out.keep FA.out (by simp))
  have FJoin := hid hb1
  clear hW1 u1 hb1
  have HTV := hid (HTV.out.trans' S1.out)
  have FAc0 := cell_at (j := 0) (v := .int .i64 x.kd) FA.out rfl
  have FAc1 := cell_at (j := 1) (v := .int .i64 x.cl) FA.out rfl
  have FAc2 := cell_at (j := 2) (v := .int .i64 x.tk) FA.out rfl
  have FAc3 := cell_at (j := 3) (v := .int .i64 x.rn) FA.out rfl
  have FAc4 := cell_at (j := 4) (v := .int .i64 x.st) FA.out rfl
  have FAc5 := cell_at (j := 5) (v := .int .i64 x.od) FA.out rfl
  have FAc6 := cell_at (j := 6) (v := .int .u16 x.k.sp) FA.out rfl
  have FAc7 := cell_at (j := 7) (v := .string x.k.nm) FA.out rfl
  have FAc8 := cell_at (j := 8) (v := .int .i64 x.o.va) FA.out rfl
  have FAc9 := cell_at (j := 9) (v := .int .i64 x.o.fl.kd) FA.out rfl
  have FAc10 := cell_at (j := 10) (v := .int .i64 x.o.fl.cd) FA.out rfl
  have FAc11 := cell_at (j := 11) (v := .int .i64 x.o.fl.rn) FA.out rfl
  go_upto_region 4 with (go_at_call 13; refine (HLeave.out _).mono ?_; rintro e w2 ⟨rfl, t2⟩; have T2 := hid t2; clear t2; clear FAc0 FAc1 FAc2 FAc3 FAc4 FAc5 FAc6 FAc7 FAc8 FAc9 FAc10 FAc11)
  obtain ⟨W2, hW2⟩ : ∃ W, W = w2.alloc (.cells #[.int .i64 0, .int .i64 0, .bool false, .bool false, .int .i64 0, .int .i64 0, .int .i64 0, .int .i64 0] 58) := ⟨_, rfl⟩
  have u2 : Touch [] w2 W2 := by rw [hW2]; exact (Touch.refl _ _).alloc _
  have hb2 := heap_alloc_new w2 (.cells #[.int .i64 0, .int .i64 0, .bool false, .bool false, .int .i64 0, .int .i64 0, .int .i64 0, .int .i64 0] 58)
  rw [← hW2] at hb2 ⊢
  have S2 := hid (T2.out.trans' u2)
  have FA := hid (S2.out.keep FA.out (by simp))
  have FJoin := hid (S2.out.keep FJoin.out (by simp))
  have FLeave := hid hb2
  clear hW2 u2 hb2
  have HTV := hid (HTV.out.trans' S2.out)
  have FAc0 := cell_at (j := 0) (v := .int .i64 x.kd) FA.out rfl
  have FAc1 := cell_at (j := 1) (v := .int .i64 x.cl) FA.out rfl
  have FAc2 := cell_at (j := 2) (v := .int .i64 x.tk) FA.out rfl
  have FAc3 := cell_at (j := 3) (v := .int .i64 x.rn) FA.out rfl
  have FAc4 := cell_at (j := 4) (v := .int .i64 x.st) FA.out rfl
  have FAc5 := cell_at (j := 5) (v := .int .i64 x.od) FA.out rfl
  have FAc6 := cell_at (j := 6) (v := .int .u16 x.k.sp) FA.out rfl
  have FAc7 := cell_at (j := 7) (v := .string x.k.nm) FA.out rfl
  have FAc8 := cell_at (j := 8) (v := .int .i64 x.o.va) FA.out rfl
  have FAc9 := cell_at (j := 9) (v := .int .i64 x.o.fl.kd) FA.out rfl
  have FAc10 := cell_at (j := 10) (v := .int .i64 x.o.fl.cd) FA.out rfl
  have FAc11 := cell_at (j := 11) (v := .int .i64 x.o.fl.rn) FA.out rfl
  go_upto_region 5 with (go_at_call 14; refine (HCancel.out _).mono ?_; rintro e w3 ⟨rfl, t3⟩; have T3 := hid t3; clear t3; clear FAc0 FAc1 FAc2 FAc3 FAc4 FAc5 FAc6 FAc7 FAc8 FAc9 FAc10 FAc11)
  have S3 := T3
  have FA := hid (S3.out.keep FA.out (by simp))
  have FJoin := hid (S3.out.keep FJoin.out (by simp))
  have FLeave := hid (S3.out.keep FLeave.out (by simp))
  have HTV := hid (HTV.out.trans' S3.out)
  have FAc0 := cell_at (j := 0) (v := .int .i64 x.kd) FA.out rfl
  have FAc1 := cell_at (j := 1) (v := .int .i64 x.cl) FA.out rfl
  have FAc2 := cell_at (j := 2) (v := .int .i64 x.tk) FA.out rfl
  have FAc3 := cell_at (j := 3) (v := .int .i64 x.rn) FA.out rfl
  have FAc4 := cell_at (j := 4) (v := .int .i64 x.st) FA.out rfl
  have FAc5 := cell_at (j := 5) (v := .int .i64 x.od) FA.out rfl
  have FAc6 := cell_at (j := 6) (v := .int .u16 x.k.sp) FA.out rfl
  have FAc7 := cell_at (j := 7) (v := .string x.k.nm) FA.out rfl
  have FAc8 := cell_at (j := 8) (v := .int .i64 x.o.va) FA.out rfl
  have FAc9 := cell_at (j := 9) (v := .int .i64 x.o.fl.kd) FA.out rfl
  have FAc10 := cell_at (j := 10) (v := .int .i64 x.o.fl.cd) FA.out rfl
  have FAc11 := cell_at (j := 11) (v := .int .i64 x.o.fl.rn) FA.out rfl
  go_upto_region 6 with (go_at_call 15; refine (HForget.out _).mono ?_; rintro e w4 ⟨rfl, t4⟩; have T4 := hid t4; clear t4; clear FAc0 FAc1 FAc2 FAc3 FAc4 FAc5 FAc6 FAc7 FAc8 FAc9 FAc10 FAc11)
  obtain ⟨W4, hW4⟩ : ∃ W, W = w4.alloc (.cells #[.bool false, .int .i64 0, .int .i64 0, .bool false] 65) := ⟨_, rfl⟩
  have u4 : Touch [] w4 W4 := by rw [hW4]; exact (Touch.refl _ _).alloc _
  have hb4 := heap_alloc_new w4 (.cells #[.bool false, .int .i64 0, .int .i64 0, .bool false] 65)
  rw [← hW4] at hb4 ⊢
  have S4 := hid (T4.out.trans' u4)
  have FA := hid (S4.out.keep FA.out (by simp))
  have FJoin := hid (S4.out.keep FJoin.out (by simp))
  have FLeave := hid (S4.out.keep FLeave.out (by simp))
  have FForget := hid hb4
  clear hW4 u4 hb4
  have HTV := hid (HTV.out.trans' S4.out)
  have FAc0 := cell_at (j := 0) (v := .int .i64 x.kd) FA.out rfl
  have FAc1 := cell_at (j := 1) (v := .int .i64 x.cl) FA.out rfl
  have FAc2 := cell_at (j := 2) (v := .int .i64 x.tk) FA.out rfl
  have FAc3 := cell_at (j := 3) (v := .int .i64 x.rn) FA.out rfl
  have FAc4 := cell_at (j := 4) (v := .int .i64 x.st) FA.out rfl
  have FAc5 := cell_at (j := 5) (v := .int .i64 x.od) FA.out rfl
  have FAc6 := cell_at (j := 6) (v := .int .u16 x.k.sp) FA.out rfl
  have FAc7 := cell_at (j := 7) (v := .string x.k.nm) FA.out rfl
  have FAc8 := cell_at (j := 8) (v := .int .i64 x.o.va) FA.out rfl
  have FAc9 := cell_at (j := 9) (v := .int .i64 x.o.fl.kd) FA.out rfl
  have FAc10 := cell_at (j := 10) (v := .int .i64 x.o.fl.cd) FA.out rfl
  have FAc11 := cell_at (j := 11) (v := .int .i64 x.o.fl.rn) FA.out rfl
  go_upto_region 7 with (go_at_call 12; refine (HEnd.out _).mono ?_; rintro e w5 ⟨rfl, t5⟩; have T5 := hid t5; clear t5; clear FAc0 FAc1 FAc2 FAc3 FAc4 FAc5 FAc6 FAc7 FAc8 FAc9 FAc10 FAc11)
  obtain ⟨W5, hW5⟩ : ∃ W, W = w5.alloc (.cells #[.int .i64 0, .int .u16 0, .string ⟨#[]⟩, .int .i64 0, .bool false, .slice none 0 0, .bool false, .bool false, .slice none 0 0, .slice none 0 0] 53) := ⟨_, rfl⟩
  have u5 : Touch [] w5 W5 := by rw [hW5]; exact (Touch.refl _ _).alloc _
  have hb5 := heap_alloc_new w5 (.cells #[.int .i64 0, .int .u16 0, .string ⟨#[]⟩, .int .i64 0, .bool false, .slice none 0 0, .bool false, .bool false, .slice none 0 0, .slice none 0 0] 53)
  rw [← hW5] at hb5 ⊢
  have S5 := hid (T5.out.trans' u5)
  have FA := hid (S5.out.keep FA.out (by simp))
  have FJoin := hid (S5.out.keep FJoin.out (by simp))
  have FLeave := hid (S5.out.keep FLeave.out (by simp))
  have FForget := hid (S5.out.keep FForget.out (by simp))
  have FEnd := hid hb5
  clear hW5 u5 hb5
  have HTV := hid (HTV.out.trans' S5.out)
  have FAc0 := cell_at (j := 0) (v := .int .i64 x.kd) FA.out rfl
  have FAc1 := cell_at (j := 1) (v := .int .i64 x.cl) FA.out rfl
  have FAc2 := cell_at (j := 2) (v := .int .i64 x.tk) FA.out rfl
  have FAc3 := cell_at (j := 3) (v := .int .i64 x.rn) FA.out rfl
  have FAc4 := cell_at (j := 4) (v := .int .i64 x.st) FA.out rfl
  have FAc5 := cell_at (j := 5) (v := .int .i64 x.od) FA.out rfl
  have FAc6 := cell_at (j := 6) (v := .int .u16 x.k.sp) FA.out rfl
  have FAc7 := cell_at (j := 7) (v := .string x.k.nm) FA.out rfl
  have FAc8 := cell_at (j := 8) (v := .int .i64 x.o.va) FA.out rfl
  have FAc9 := cell_at (j := 9) (v := .int .i64 x.o.fl.kd) FA.out rfl
  have FAc10 := cell_at (j := 10) (v := .int .i64 x.o.fl.cd) FA.out rfl
  have FAc11 := cell_at (j := 11) (v := .int .i64 x.o.fl.rn) FA.out rfl
  go_upto_region 8 with (go_at_call 16; refine (HSend.out _).mono ?_; rintro e w6 ⟨rfl, t6⟩; have T6 := hid t6; clear t6; clear FAc0 FAc1 FAc2 FAc3 FAc4 FAc5 FAc6 FAc7 FAc8 FAc9 FAc10 FAc11)
  have S6 := T6
  have FA := hid (S6.out.keep FA.out (by simp))
  have FJoin := hid (S6.out.keep FJoin.out (by simp))
  have FLeave := hid (S6.out.keep FLeave.out (by simp))
  have FForget := hid (S6.out.keep FForget.out (by simp))
  have FEnd := hid (S6.out.keep FEnd.out (by simp))
  have HTV := hid (HTV.out.trans' S6.out)
  have FAc0 := cell_at (j := 0) (v := .int .i64 x.kd) FA.out rfl
  have FAc1 := cell_at (j := 1) (v := .int .i64 x.cl) FA.out rfl
  have FAc2 := cell_at (j := 2) (v := .int .i64 x.tk) FA.out rfl
  have FAc3 := cell_at (j := 3) (v := .int .i64 x.rn) FA.out rfl
  have FAc4 := cell_at (j := 4) (v := .int .i64 x.st) FA.out rfl
  have FAc5 := cell_at (j := 5) (v := .int .i64 x.od) FA.out rfl
  have FAc6 := cell_at (j := 6) (v := .int .u16 x.k.sp) FA.out rfl
  have FAc7 := cell_at (j := 7) (v := .string x.k.nm) FA.out rfl
  have FAc8 := cell_at (j := 8) (v := .int .i64 x.o.va) FA.out rfl
  have FAc9 := cell_at (j := 9) (v := .int .i64 x.o.fl.kd) FA.out rfl
  have FAc10 := cell_at (j := 10) (v := .int .i64 x.o.fl.cd) FA.out rfl
  have FAc11 := cell_at (j := 11) (v := .int .i64 x.o.fl.rn) FA.out rfl
  go_upto_region 9 with (go_at_call 17; refine (HResize.out _).mono ?_; rintro e w7 ⟨rfl, t7⟩; have T7 := hid t7; clear t7; clear FAc0 FAc1 FAc2 FAc3 FAc4 FAc5 FAc6 FAc7 FAc8 FAc9 FAc10 FAc11)
  have S7 := T7
  have FA := hid (S7.out.keep FA.out (by simp))
  have FJoin := hid (S7.out.keep FJoin.out (by simp))
  have FLeave := hid (S7.out.keep FLeave.out (by simp))
  have FForget := hid (S7.out.keep FForget.out (by simp))
  have FEnd := hid (S7.out.keep FEnd.out (by simp))
  have HTV := hid (HTV.out.trans' S7.out)
  have FAc0 := cell_at (j := 0) (v := .int .i64 x.kd) FA.out rfl
  have FAc1 := cell_at (j := 1) (v := .int .i64 x.cl) FA.out rfl
  have FAc2 := cell_at (j := 2) (v := .int .i64 x.tk) FA.out rfl
  have FAc3 := cell_at (j := 3) (v := .int .i64 x.rn) FA.out rfl
  have FAc4 := cell_at (j := 4) (v := .int .i64 x.st) FA.out rfl
  have FAc5 := cell_at (j := 5) (v := .int .i64 x.od) FA.out rfl
  have FAc6 := cell_at (j := 6) (v := .int .u16 x.k.sp) FA.out rfl
  have FAc7 := cell_at (j := 7) (v := .string x.k.nm) FA.out rfl
  have FAc8 := cell_at (j := 8) (v := .int .i64 x.o.va) FA.out rfl
  have FAc9 := cell_at (j := 9) (v := .int .i64 x.o.fl.kd) FA.out rfl
  have FAc10 := cell_at (j := 10) (v := .int .i64 x.o.fl.cd) FA.out rfl
  have FAc11 := cell_at (j := 11) (v := .int .i64 x.o.fl.rn) FA.out rfl
  go_upto_region 10 with (go_at_call 18; refine (HNext.out _).mono ?_; rintro e w8 ⟨rfl, t8⟩; have T8 := hid t8; clear t8; clear FAc0 FAc1 FAc2 FAc3 FAc4 FAc5 FAc6 FAc7 FAc8 FAc9 FAc10 FAc11)
  have S8 := T8
  have FA := hid (S8.out.keep FA.out (by simp))
  have FJoin := hid (S8.out.keep FJoin.out (by simp))
  have FLeave := hid (S8.out.keep FLeave.out (by simp))
  have FForget := hid (S8.out.keep FForget.out (by simp))
  have FEnd := hid (S8.out.keep FEnd.out (by simp))
  have HTV := hid (HTV.out.trans' S8.out)
  go_upto_region 12 with fail
  have FJoinc0 := cell_at (j := 0) (v := .int .i64 0) FJoin.out rfl
  have FJoinc1 := cell_at (j := 1) (v := .int .i64 0) FJoin.out rfl
  have FJoinc2 := cell_at (j := 2) (v := .bool false) FJoin.out rfl
  have FJoinc3 := cell_at (j := 3) (v := .int .i64 0) FJoin.out rfl
  have FJoinc4 := cell_at (j := 4) (v := .int .i64 0) FJoin.out rfl
  have FJoinc5 := cell_at (j := 5) (v := .int .i64 0) FJoin.out rfl
  have FJoinc6 := cell_at (j := 6) (v := .int .i64 0) FJoin.out rfl
  have FJoinc7 := cell_at (j := 7) (v := .slice none 0 0) FJoin.out rfl
  have FLeavec0 := cell_at (j := 0) (v := .int .i64 0) FLeave.out rfl
  have FLeavec1 := cell_at (j := 1) (v := .int .i64 0) FLeave.out rfl
  have FLeavec2 := cell_at (j := 2) (v := .bool false) FLeave.out rfl
  have FLeavec3 := cell_at (j := 3) (v := .bool false) FLeave.out rfl
  have FLeavec4 := cell_at (j := 4) (v := .int .i64 0) FLeave.out rfl
  have FLeavec5 := cell_at (j := 5) (v := .int .i64 0) FLeave.out rfl
  have FLeavec6 := cell_at (j := 6) (v := .int .i64 0) FLeave.out rfl
  have FLeavec7 := cell_at (j := 7) (v := .int .i64 0) FLeave.out rfl
  have FForgetc0 := cell_at (j := 0) (v := .bool false) FForget.out rfl
  have FForgetc1 := cell_at (j := 1) (v := .int .i64 0) FForget.out rfl
  have FForgetc2 := cell_at (j := 2) (v := .int .i64 0) FForget.out rfl
  have FForgetc3 := cell_at (j := 3) (v := .bool false) FForget.out rfl
  have FEndc0 := cell_at (j := 0) (v := .int .i64 0) FEnd.out rfl
  have FEndc1 := cell_at (j := 1) (v := .int .u16 0) FEnd.out rfl
  have FEndc2 := cell_at (j := 2) (v := .string ⟨#[]⟩) FEnd.out rfl
  have FEndc3 := cell_at (j := 3) (v := .int .i64 0) FEnd.out rfl
  have FEndc4 := cell_at (j := 4) (v := .bool false) FEnd.out rfl
  have FEndc5 := cell_at (j := 5) (v := .slice none 0 0) FEnd.out rfl
  have FEndc6 := cell_at (j := 6) (v := .bool false) FEnd.out rfl
  have FEndc7 := cell_at (j := 7) (v := .bool false) FEnd.out rfl
  have FEndc8 := cell_at (j := 8) (v := .slice none 0 0) FEnd.out rfl
  have FEndc9 := cell_at (j := 9) (v := .slice none 0 0) FEnd.out rfl
  obtain ⟨z1, z2, z3⟩ := eqz w8
  go_upto_region 14 with fail
  clear FJoinc0 FJoinc1 FJoinc2 FJoinc3 FJoinc4 FJoinc5 FJoinc6 FJoinc7
  clear FLeavec0 FLeavec1 FLeavec2 FLeavec3 FLeavec4 FLeavec5 FLeavec6 FLeavec7
  clear FForgetc0 FForgetc1 FForgetc2 FForgetc3
  clear FEndc0 FEndc1 FEndc2 FEndc3 FEndc4 FEndc5 FEndc6 FEndc7 FEndc8 FEndc9
  clear z1 z2 z3
  have FAc0 := cell_at (j := 0) (v := .int .i64 x.kd) FA.out rfl
  have FAc1 := cell_at (j := 1) (v := .int .i64 x.cl) FA.out rfl
  have FAc2 := cell_at (j := 2) (v := .int .i64 x.tk) FA.out rfl
  have FAc3 := cell_at (j := 3) (v := .int .i64 x.rn) FA.out rfl
  have FAc4 := cell_at (j := 4) (v := .int .i64 x.st) FA.out rfl
  have FAc5 := cell_at (j := 5) (v := .int .i64 x.od) FA.out rfl
  have FAc6 := cell_at (j := 6) (v := .int .u16 x.k.sp) FA.out rfl
  have FAc7 := cell_at (j := 7) (v := .string x.k.nm) FA.out rfl
  have FAc8 := cell_at (j := 8) (v := .int .i64 x.o.va) FA.out rfl
  have FAc9 := cell_at (j := 9) (v := .int .i64 x.o.fl.kd) FA.out rfl
  have FAc10 := cell_at (j := 10) (v := .int .i64 x.o.fl.cd) FA.out rfl
  have FAc11 := cell_at (j := 11) (v := .int .i64 x.o.fl.rn) FA.out rfl
  have HCC := hid (fun (w2 : World) (T : Touch [] w8 w2) => T.keep FA.out (by simp))
  have U0 : Hid (Touch [] w8 w8) := hid (Touch.refl _ _)
  go_wp2_with (first
    | (go_at_call 8; refine (HAw.out _).mono ?_; rintro e y0 ⟨rfl, t9⟩; have U1 := hid (U0.out.trans' t9); clear t9; clear FAc0 FAc1 FAc2 FAc3 FAc4 FAc5 FAc6 FAc7 FAc8 FAc9 FAc10 FAc11; have FAc0 := cell_at (j := 0) (v := .int .i64 x.kd) (HCC.out _ U1.out) rfl; have FAc1 := cell_at (j := 1) (v := .int .i64 x.cl) (HCC.out _ U1.out) rfl; have FAc2 := cell_at (j := 2) (v := .int .i64 x.tk) (HCC.out _ U1.out) rfl; have FAc3 := cell_at (j := 3) (v := .int .i64 x.rn) (HCC.out _ U1.out) rfl; have FAc4 := cell_at (j := 4) (v := .int .i64 x.st) (HCC.out _ U1.out) rfl; have FAc5 := cell_at (j := 5) (v := .int .i64 x.od) (HCC.out _ U1.out) rfl; have FAc6 := cell_at (j := 6) (v := .int .u16 x.k.sp) (HCC.out _ U1.out) rfl; have FAc7 := cell_at (j := 7) (v := .string x.k.nm) (HCC.out _ U1.out) rfl; have FAc8 := cell_at (j := 8) (v := .int .i64 x.o.va) (HCC.out _ U1.out) rfl; have FAc9 := cell_at (j := 9) (v := .int .i64 x.o.fl.kd) (HCC.out _ U1.out) rfl; have FAc10 := cell_at (j := 10) (v := .int .i64 x.o.fl.cd) (HCC.out _ U1.out) rfl; have FAc11 := cell_at (j := 11) (v := .int .i64 x.o.fl.rn) (HCC.out _ U1.out) rfl)
    | (go_at_call 9; refine (HPlace.out _).mono ?_; rintro e y1 ⟨rfl, t9⟩; have U2 := hid (U1.out.trans' t9); clear t9; clear FAc0 FAc1 FAc2 FAc3 FAc4 FAc5 FAc6 FAc7 FAc8 FAc9 FAc10 FAc11; have FAc0 := cell_at (j := 0) (v := .int .i64 x.kd) (HCC.out _ U2.out) rfl; have FAc1 := cell_at (j := 1) (v := .int .i64 x.cl) (HCC.out _ U2.out) rfl; have FAc2 := cell_at (j := 2) (v := .int .i64 x.tk) (HCC.out _ U2.out) rfl; have FAc3 := cell_at (j := 3) (v := .int .i64 x.rn) (HCC.out _ U2.out) rfl; have FAc4 := cell_at (j := 4) (v := .int .i64 x.st) (HCC.out _ U2.out) rfl; have FAc5 := cell_at (j := 5) (v := .int .i64 x.od) (HCC.out _ U2.out) rfl; have FAc6 := cell_at (j := 6) (v := .int .u16 x.k.sp) (HCC.out _ U2.out) rfl; have FAc7 := cell_at (j := 7) (v := .string x.k.nm) (HCC.out _ U2.out) rfl; have FAc8 := cell_at (j := 8) (v := .int .i64 x.o.va) (HCC.out _ U2.out) rfl; have FAc9 := cell_at (j := 9) (v := .int .i64 x.o.fl.kd) (HCC.out _ U2.out) rfl; have FAc10 := cell_at (j := 10) (v := .int .i64 x.o.fl.cd) (HCC.out _ U2.out) rfl; have FAc11 := cell_at (j := 11) (v := .int .i64 x.o.fl.rn) (HCC.out _ U2.out) rfl)
    | (go_at_call 19; refine (HGroup.out _).mono ?_; rintro e y2 ⟨rfl, t9⟩; have U3 := hid (U2.out.trans' t9); clear t9; clear FAc0 FAc1 FAc2 FAc3 FAc4 FAc5 FAc6 FAc7 FAc8 FAc9 FAc10 FAc11; have FAc0 := cell_at (j := 0) (v := .int .i64 x.kd) (HCC.out _ U3.out) rfl; have FAc1 := cell_at (j := 1) (v := .int .i64 x.cl) (HCC.out _ U3.out) rfl; have FAc2 := cell_at (j := 2) (v := .int .i64 x.tk) (HCC.out _ U3.out) rfl; have FAc3 := cell_at (j := 3) (v := .int .i64 x.rn) (HCC.out _ U3.out) rfl; have FAc4 := cell_at (j := 4) (v := .int .i64 x.st) (HCC.out _ U3.out) rfl; have FAc5 := cell_at (j := 5) (v := .int .i64 x.od) (HCC.out _ U3.out) rfl; have FAc6 := cell_at (j := 6) (v := .int .u16 x.k.sp) (HCC.out _ U3.out) rfl; have FAc7 := cell_at (j := 7) (v := .string x.k.nm) (HCC.out _ U3.out) rfl; have FAc8 := cell_at (j := 8) (v := .int .i64 x.o.va) (HCC.out _ U3.out) rfl; have FAc9 := cell_at (j := 9) (v := .int .i64 x.o.fl.kd) (HCC.out _ U3.out) rfl; have FAc10 := cell_at (j := 10) (v := .int .i64 x.o.fl.cd) (HCC.out _ U3.out) rfl; have FAc11 := cell_at (j := 11) (v := .int .i64 x.o.fl.rn) (HCC.out _ U3.out) rfl)
    | (go_at_call 20; refine (HProgress.out _).mono ?_; rintro e y3 ⟨rfl, t9⟩; have U4 := hid (U3.out.trans' t9); clear t9; clear FAc0 FAc1 FAc2 FAc3 FAc4 FAc5 FAc6 FAc7 FAc8 FAc9 FAc10 FAc11; have FAc0 := cell_at (j := 0) (v := .int .i64 x.kd) (HCC.out _ U4.out) rfl; have FAc1 := cell_at (j := 1) (v := .int .i64 x.cl) (HCC.out _ U4.out) rfl; have FAc2 := cell_at (j := 2) (v := .int .i64 x.tk) (HCC.out _ U4.out) rfl; have FAc3 := cell_at (j := 3) (v := .int .i64 x.rn) (HCC.out _ U4.out) rfl; have FAc4 := cell_at (j := 4) (v := .int .i64 x.st) (HCC.out _ U4.out) rfl; have FAc5 := cell_at (j := 5) (v := .int .i64 x.od) (HCC.out _ U4.out) rfl; have FAc6 := cell_at (j := 6) (v := .int .u16 x.k.sp) (HCC.out _ U4.out) rfl; have FAc7 := cell_at (j := 7) (v := .string x.k.nm) (HCC.out _ U4.out) rfl; have FAc8 := cell_at (j := 8) (v := .int .i64 x.o.va) (HCC.out _ U4.out) rfl; have FAc9 := cell_at (j := 9) (v := .int .i64 x.o.fl.kd) (HCC.out _ U4.out) rfl; have FAc10 := cell_at (j := 10) (v := .int .i64 x.o.fl.cd) (HCC.out _ U4.out) rfl; have FAc11 := cell_at (j := 11) (v := .int .i64 x.o.fl.rn) (HCC.out _ U4.out) rfl)
    | (go_at_call 21; refine (HEntries.out _).mono ?_; rintro e y4 ⟨rfl, t9⟩; have U5 := hid (U4.out.trans' t9); clear t9; clear FAc0 FAc1 FAc2 FAc3 FAc4 FAc5 FAc6 FAc7 FAc8 FAc9 FAc10 FAc11; have FAc0 := cell_at (j := 0) (v := .int .i64 x.kd) (HCC.out _ U5.out) rfl; have FAc1 := cell_at (j := 1) (v := .int .i64 x.cl) (HCC.out _ U5.out) rfl; have FAc2 := cell_at (j := 2) (v := .int .i64 x.tk) (HCC.out _ U5.out) rfl; have FAc3 := cell_at (j := 3) (v := .int .i64 x.rn) (HCC.out _ U5.out) rfl; have FAc4 := cell_at (j := 4) (v := .int .i64 x.st) (HCC.out _ U5.out) rfl; have FAc5 := cell_at (j := 5) (v := .int .i64 x.od) (HCC.out _ U5.out) rfl; have FAc6 := cell_at (j := 6) (v := .int .u16 x.k.sp) (HCC.out _ U5.out) rfl; have FAc7 := cell_at (j := 7) (v := .string x.k.nm) (HCC.out _ U5.out) rfl; have FAc8 := cell_at (j := 8) (v := .int .i64 x.o.va) (HCC.out _ U5.out) rfl; have FAc9 := cell_at (j := 9) (v := .int .i64 x.o.fl.kd) (HCC.out _ U5.out) rfl; have FAc10 := cell_at (j := 10) (v := .int .i64 x.o.fl.cd) (HCC.out _ U5.out) rfl; have FAc11 := cell_at (j := 11) (v := .int .i64 x.o.fl.rn) (HCC.out _ U5.out) rfl)
    | (go_at_call 22; refine (HLoads.out _).mono ?_; rintro e y5 ⟨⟨al, rfl⟩, t9⟩; have U6 := hid (U5.out.trans' t9); clear t9; clear FAc0 FAc1 FAc2 FAc3 FAc4 FAc5 FAc6 FAc7 FAc8 FAc9 FAc10 FAc11; have FAc0 := cell_at (j := 0) (v := .int .i64 x.kd) (HCC.out _ U6.out) rfl; have FAc1 := cell_at (j := 1) (v := .int .i64 x.cl) (HCC.out _ U6.out) rfl; have FAc2 := cell_at (j := 2) (v := .int .i64 x.tk) (HCC.out _ U6.out) rfl; have FAc3 := cell_at (j := 3) (v := .int .i64 x.rn) (HCC.out _ U6.out) rfl; have FAc4 := cell_at (j := 4) (v := .int .i64 x.st) (HCC.out _ U6.out) rfl; have FAc5 := cell_at (j := 5) (v := .int .i64 x.od) (HCC.out _ U6.out) rfl; have FAc6 := cell_at (j := 6) (v := .int .u16 x.k.sp) (HCC.out _ U6.out) rfl; have FAc7 := cell_at (j := 7) (v := .string x.k.nm) (HCC.out _ U6.out) rfl; have FAc8 := cell_at (j := 8) (v := .int .i64 x.o.va) (HCC.out _ U6.out) rfl; have FAc9 := cell_at (j := 9) (v := .int .i64 x.o.fl.kd) (HCC.out _ U6.out) rfl; have FAc10 := cell_at (j := 10) (v := .int .i64 x.o.fl.cd) (HCC.out _ U6.out) rfl; have FAc11 := cell_at (j := 11) (v := .int .i64 x.o.fl.rn) (HCC.out _ U6.out) rfl)
    | (go_at_call 23; refine (HLen.out _).mono ?_; rintro e y6 ⟨rfl, t9⟩; have U7 := hid (U6.out.trans' t9); clear t9; clear FAc0 FAc1 FAc2 FAc3 FAc4 FAc5 FAc6 FAc7 FAc8 FAc9 FAc10 FAc11; have FAc0 := cell_at (j := 0) (v := .int .i64 x.kd) (HCC.out _ U7.out) rfl; have FAc1 := cell_at (j := 1) (v := .int .i64 x.cl) (HCC.out _ U7.out) rfl; have FAc2 := cell_at (j := 2) (v := .int .i64 x.tk) (HCC.out _ U7.out) rfl; have FAc3 := cell_at (j := 3) (v := .int .i64 x.rn) (HCC.out _ U7.out) rfl; have FAc4 := cell_at (j := 4) (v := .int .i64 x.st) (HCC.out _ U7.out) rfl; have FAc5 := cell_at (j := 5) (v := .int .i64 x.od) (HCC.out _ U7.out) rfl; have FAc6 := cell_at (j := 6) (v := .int .u16 x.k.sp) (HCC.out _ U7.out) rfl; have FAc7 := cell_at (j := 7) (v := .string x.k.nm) (HCC.out _ U7.out) rfl; have FAc8 := cell_at (j := 8) (v := .int .i64 x.o.va) (HCC.out _ U7.out) rfl; have FAc9 := cell_at (j := 9) (v := .int .i64 x.o.fl.kd) (HCC.out _ U7.out) rfl; have FAc10 := cell_at (j := 10) (v := .int .i64 x.o.fl.cd) (HCC.out _ U7.out) rfl; have FAc11 := cell_at (j := 11) (v := .int .i64 x.o.fl.rn) (HCC.out _ U7.out) rfl)
    | (go_at_call 24; refine (HClone.out _).mono ?_; rintro e y7 ⟨rfl, t9⟩; have U8 := hid (U7.out.trans' t9); clear t9; clear FAc0 FAc1 FAc2 FAc3 FAc4 FAc5 FAc6 FAc7 FAc8 FAc9 FAc10 FAc11; have FAc0 := cell_at (j := 0) (v := .int .i64 x.kd) (HCC.out _ U8.out) rfl; have FAc1 := cell_at (j := 1) (v := .int .i64 x.cl) (HCC.out _ U8.out) rfl; have FAc2 := cell_at (j := 2) (v := .int .i64 x.tk) (HCC.out _ U8.out) rfl; have FAc3 := cell_at (j := 3) (v := .int .i64 x.rn) (HCC.out _ U8.out) rfl; have FAc4 := cell_at (j := 4) (v := .int .i64 x.st) (HCC.out _ U8.out) rfl; have FAc5 := cell_at (j := 5) (v := .int .i64 x.od) (HCC.out _ U8.out) rfl; have FAc6 := cell_at (j := 6) (v := .int .u16 x.k.sp) (HCC.out _ U8.out) rfl; have FAc7 := cell_at (j := 7) (v := .string x.k.nm) (HCC.out _ U8.out) rfl; have FAc8 := cell_at (j := 8) (v := .int .i64 x.o.va) (HCC.out _ U8.out) rfl; have FAc9 := cell_at (j := 9) (v := .int .i64 x.o.fl.kd) (HCC.out _ U8.out) rfl; have FAc10 := cell_at (j := 10) (v := .int .i64 x.o.fl.cd) (HCC.out _ U8.out) rfl; have FAc11 := cell_at (j := 11) (v := .int .i64 x.o.fl.rn) (HCC.out _ U8.out) rfl))
  go_ret
  exact ⟨rfl, HTV.out.trans' U8.out⟩
end Go.Proofs.YtllchnancjgijaaGreat
