/- The contracts of a table's methods that only read, and of Join. -/
import Derived.Test.YtpihhlllembdeaaGreatTbm
import Derived.Test.YtpihhlllembdeaaGreatNil
namespace Go.Proofs.YtpihhlllembdeaaGreat
open Go.RowKit Go.Maps Go.ChangeMaps
set_option linter.unusedVariables false
set_option linter.unusedSimpArgs false
def bxK (k : K) : Obj := .cells #[.int .u16 k.1, .string k.2] 34
section
variable {w : World} {t p c : Nat} {g : Option Nat} {nc ng : Nat} {Ps : List Rb} {T : Tb} {N : Nat} {F : List Nat}
theorem tRecord (h : Tm w t p c g nc ng Ps T N) (n : Int) (hn : W64 n) : Calls Tryz.prog 42 #[PT t, .int .i64 n] w fun e w' => e = .returned ((ptr Ps n).getD (.pointer none)) ∧ w' = w := by
  have hl := h.lookP hn
  have c2 := h.cs.c2
  clear h
  generalize (ptr Ps n).getD (.pointer none) = v at *
  unfold PT
  go_enter Tryz.func42, Tryz.ntmps42
  go_wp2
  go_ret
  exact ⟨rfl, rfl⟩
theorem tBegun (h : Tm w t p c g nc ng Ps T N) : Calls Tryz.prog 37 #[PT t] w fun e w' => e = .returned (.int .i64 T.bg) ∧ w' = w := by
  have c1 := h.cs.c1
  clear h
  generalize T.bg = v at *
  unfold PT
  go_enter Tryz.func37, Tryz.ntmps37
  go_wp2
  go_ret
  exact ⟨rfl, rfl⟩
theorem tGenn (h : Tm w t p c g nc ng Ps T N) (k : K) (hk : Ok k) : Calls Tryz.prog 31 #[PT t, kv k] w fun e w' => e = .returned (.int .i64 (T.gn k)) ∧ Touch [] w w' := by
  have hl : ∀ n, (Instr.lookup 46 (.map g) (kv k) false).run Tryz.prog ((w.alloc (bxK k)).drewN n) = .ok (.int .i64 (T.gn k)) ((w.alloc (bxK k)).drewN n) := fun n => (h.keep0 (((Touch.refl _ _).alloc _).drewN n)).lookG hk
  have c4 := (h.keep0 ((Touch.refl _ _).alloc (bxK k))).cs.c4
  clear h
  generalize T.gn k = v at *
  unfold PT kv bxK at *
  go_enter Tryz.func31, Tryz.ntmps31
  go_wp2
  go_quiet (fail)
  go_wp2
  go_ret
  exact ⟨rfl, ((Touch.refl _ _).alloc _).drewN _⟩
theorem tCurrent (h : Tm w t p c g nc ng Ps T N) (k : K) (hk : Ok k) : Calls Tryz.prog 9 #[PT t, kv k] w fun e w' => e = .returned (.tuple #[.int .i64 (((curOf T k).map Rn.run).getD 0), .bool (curOf T k).isSome]) ∧ Touch [] w w' := by
  have hl : ∀ n, (Instr.lookup 46 (.map (some c)) (kv k) true).run Tryz.prog ((w.alloc (bxK k)).drewN n) = .ok (.tuple #[.int .i64 (((curOf T k).map Rn.run).getD 0), .bool (curOf T k).isSome]) ((w.alloc (bxK k)).drewN n) := fun n => (h.keep0 (((Touch.refl _ _).alloc _).drewN n)).lookCok hk
  have c3 := (h.keep0 ((Touch.refl _ _).alloc (bxK k))).cs.c3
  clear h
  generalize ((curOf T k).map Rn.run).getD 0 = v at *
  generalize (curOf T k).isSome = v2 at *
  unfold PT kv bxK at *
  go_enter Tryz.func9, Tryz.ntmps9
  go_wp2
  go_quiet (fail)
  go_wp2
  exact bodyPost_ret (v := .tuple #[.int .i64 v, .bool v2]) (by simp [results, Tryz.results9, go_sem]) rfl ⟨rfl, ((Touch.refl _ _).alloc _).drewN _⟩
theorem fCheck (w : World) (k : K) (hk : Ok k) : Calls Tryz.prog 49 #[kv k] w fun e w' => e = .returned (.int .i64 (tForE k)) ∧ Touch [] w w' := by
  have hl : (w.alloc (bxK k)).cell? ⟨w.heap.size, 1, none⟩ = some (.string k.2) := by simp [bxK]
  have hs : 0 ≤ ((k.2.size : Nat) : Int) := by omega
  unfold tForE mayK
  by_cases hc : k.2.size ≤ 64
  · rw [show decide (k.2.size ≤ 64) = true by simp [hc], if_pos rfl]
    have hq : ¬ (64 < ((k.2.size : Nat) : Int)) := by omega
    clear hc
    unfold kv bxK at *
    go_enter Tryz.func49, Tryz.ntmps49
    go_wp2
    go_ret
    exact ⟨rfl, (Touch.refl _ _).alloc _⟩
  · rw [show decide (k.2.size ≤ 64) = false by simp [hc], if_neg (by simp)]
    have hq : 64 < ((k.2.size : Nat) : Int) := by omega
    clear hc
    unfold kv bxK at *
    go_enter Tryz.func49, Tryz.ntmps49
    go_wp2
    go_ret
    exact ⟨rfl, (Touch.refl _ _).alloc _⟩
/-- Of a run that is not in progress. -/
theorem tCanc_no (h : Tm w t p c g nc ng Ps T N) (n : Int) (hn : W64 n) (hr : runOf T n = none) : Calls Tryz.prog 27 #[PT t, .int .i64 n] w fun e w' => e = .returned (.bool false) ∧ w' = w := by
  have HR := hid (tRecord h n hn)
  rw [h.notIn hr] at HR
  have HC := hid (fun w => cancelled16_nil w)
  simp only [Option.getD_none] at HR
  clear h
  unfold PT at *
  go_enter Tryz.func27, Tryz.ntmps27
  go_wp2_with (first | (go_at_call 42; refine HR.out.mono ?_; rintro e w2 ⟨rfl, rfl⟩) | (go_at_call 58; refine (HC.out _).mono ?_; rintro e w2 ⟨rfl, rfl⟩))
  go_ret
  exact ⟨rfl, rfl⟩
theorem tWaiters_no (h : Tm w t p c g nc ng Ps T N) (n : Int) (hn : W64 n) (hr : runOf T n = none) : Calls Tryz.prog 26 #[PT t, .int .i64 n] w fun e w' => e = .returned (.slice none 0 0) ∧ w' = w := by
  have HR := hid (tRecord h n hn)
  rw [h.notIn hr] at HR
  have HC := hid (fun w => waiters18_nil w)
  simp only [Option.getD_none] at HR
  clear h
  unfold PT at *
  go_enter Tryz.func26, Tryz.ntmps26
  go_wp2_with (first | (go_at_call 42; refine HR.out.mono ?_; rintro e w2 ⟨rfl, rfl⟩) | (go_at_call 57; refine (HC.out _).mono ?_; rintro e w2 ⟨rfl, rfl⟩))
  go_ret
  exact ⟨rfl, rfl⟩
theorem box_run (w w2 : World) (T' : Touch [] (w.alloc (.cells #[.int .i64 0, .int .u16 0, .string ⟨#[]⟩, .int .i64 0, .bool false] 80)) w2) : w2.cell? ⟨w.heap.size, 0, none⟩ = some (.int .i64 0) ∧ w2.cell? ⟨w.heap.size, 1, none⟩ = some (.int .u16 0) ∧ w2.cell? ⟨w.heap.size, 2, none⟩ = some (.string ⟨#[]⟩) ∧ w2.cell? ⟨w.heap.size, 3, none⟩ = some (.int .i64 0) ∧ w2.cell? ⟨w.heap.size, 4, none⟩ = some (.bool false) ∧ ∀ i, w2.frozen? ⟨w.heap.size, i, none⟩ = false := by
  have q := T'.keep (heap_alloc_new _ _) (by simp)
  exact ⟨cell_at q rfl, cell_at q rfl, cell_at q rfl, cell_at q rfl, cell_at q rfl, froz_at q⟩
theorem tRun_no (h : Tm w t p c g nc ng Ps T N) (n : Int) (hn : W64 n) (hr : runOf T n = none) : Calls Tryz.prog 23 #[PT t, .int .i64 n] w fun e w' => e = .returned (.tuple #[.agg #[.int .i64 0, .int .u16 0, .string ⟨#[]⟩, .int .i64 0, .bool false], .bool false]) ∧ Touch [] w w' := by
  have HR := hid (fun o => tRecord (h.keep0 ((Touch.refl _ _).alloc o)) n hn)
  rw [h.notIn hr] at HR
  have HC := hid (fun w => run8_nil w)
  simp only [Option.getD_none] at HR
  have hz : w.heap.size < (w.alloc (.cells #[.int .i64 0, .int .u16 0, .string ⟨#[]⟩, .int .i64 0, .bool false] 80)).heap.size := by simp
  clear h
  have HK : Hid (∀ w2, Touch [] (w.alloc (.cells #[.int .i64 0, .int .u16 0, .string ⟨#[]⟩, .int .i64 0, .bool false] 80)) w2 → w2.cell? ⟨w.heap.size, 0, none⟩ = some (.int .i64 0) ∧ w2.cell? ⟨w.heap.size, 1, none⟩ = some (.int .u16 0) ∧ w2.cell? ⟨w.heap.size, 2, none⟩ = some (.string ⟨#[]⟩) ∧ w2.cell? ⟨w.heap.size, 3, none⟩ = some (.int .i64 0) ∧ w2.cell? ⟨w.heap.size, 4, none⟩ = some (.bool false) ∧ ∀ i, w2.frozen? ⟨w.heap.size, i, none⟩ = false) := fun w2 T' => box_run w w2 T'
  unfold PT at *
  go_enter Tryz.func23, Tryz.ntmps23
  go_wp2_with (first | (go_at_call 42; refine (HR.out _).mono ?_; rintro e w2 ⟨rfl, rfl⟩) | (go_at_call 46; refine (HC.out _).mono ?_; rintro e w2 ⟨rfl, t2⟩; obtain ⟨q0, q1, q2, q3, q4, qf⟩ := HK.out _ t2; have T2 := hid (((Touch.refl [] w).alloc _).trans' t2); clear t2))
  refine bodyPost_ret (v := .tuple #[.agg #[.int .i64 0, .int .u16 0, .string ⟨#[]⟩, .int .i64 0, .bool false], .bool false]) (by simp [results, Tryz.results23, go_sem, q0, q1, q2, q3, q4]) rfl ⟨rfl, ?_⟩
  repeat (first | exact T2.out | (refine Touch.setCell ?_ (Or.inr (by simp)) _))
/-- Of a run in progress. -/
theorem Tm.memR {A B : List Rb} {q : Rb} (h : Tm w t p c g nc ng (A ++ q :: B) T N) : (q.R, q.S) ∈ T.rs := by rw [h.rs]; simp [rsOf]
theorem Tm.w64 {A B : List Rb} {q : Rb} (h : Tm w t p c g nc ng (A ++ q :: B) T N) (hN : N ≤ 3000000000000) : W64 q.R.run := by
  have h1 := h.iv.rng _ h.memR
  have h2 := h.iv.bg.2
  simp only at h1
  exact W64.mk (by omega) (by omega)
theorem tRecord_at {A B : List Rb} {q : Rb} (h : Tm w t p c g nc ng (A ++ q :: B) T N) (hN : N ≤ 3000000000000) : Calls Tryz.prog 42 #[PT t, .int .i64 q.R.run] w fun e w' => e = .returned (PT q.b) ∧ w' = w := by
  have := tRecord h q.R.run (h.w64 hN)
  rw [ptr_mid h.after.1] at this
  exact this
theorem tCanc_at {A B : List Rb} {q : Rb} (h : Tm w t p c g nc ng (A ++ q :: B) T N) (hN : N ≤ 3000000000000) : Calls Tryz.prog 27 #[PT t, .int .i64 q.R.run] w fun e w' => e = .returned (.bool q.S.canc) ∧ w' = w := by
  have HR := hid (tRecord_at h hN)
  have HC := hid (cancelled16 w q.b N q.F q.R q.S (h.recs q (by simp)))
  clear h
  unfold PT at *
  go_enter Tryz.func27, Tryz.ntmps27
  go_wp2_with (first | (go_at_call 42; refine HR.out.mono ?_; rintro e w ⟨rfl, rfl⟩) | (go_at_call 58; refine HC.out.mono ?_; rintro e w ⟨rfl, rfl⟩))
  go_ret
  exact ⟨rfl, rfl⟩
theorem tWaiters_at {A B : List Rb} {q : Rb} (h : Tm w t p c g nc ng (A ++ q :: B) T N) (hN : N ≤ 3000000000000) : Calls Tryz.prog 26 #[PT t, .int .i64 q.R.run] w fun e w' => AlE e w w' q.S.who := by
  have HR := hid (tRecord_at h hN)
  have HC := hid (waiters18 w q.b N q.F q.R q.S (h.recs q (by simp)) hN)
  clear h
  unfold AlE at *
  unfold PT at *
  go_enter Tryz.func26, Tryz.ntmps26
  go_wp2_with (first | (go_at_call 42; refine HR.out.mono ?_; rintro e w ⟨rfl, rfl⟩) | (go_at_call 57; refine HC.out.mono ?_; rintro e w2 ⟨g', cap, rfl, r⟩; have RR := hid r; clear r))
  go_ret
  exact ⟨g', cap, rfl, RR.out⟩
theorem tRun_at {A B : List Rb} {q : Rb} (h : Tm w t p c g nc ng (A ++ q :: B) T N) (hN : N ≤ 3000000000000) : Calls Tryz.prog 23 #[PT t, .int .i64 q.R.run] w fun e w' => e = .returned (.tuple #[rv q.R, .bool true]) ∧ Touch [] w w' := by
  have HR := hid (fun o => tRecord_at (h.keep0 ((Touch.refl _ _).alloc o)) hN)
  have HC := hid (fun o => run8 (w.alloc o) q.b N q.F q.R q.S ((h.recs q (by simp)).keep0 ((Touch.refl _ _).alloc o)))
  have hz : w.heap.size < (w.alloc (.cells #[.int .i64 0, .int .u16 0, .string ⟨#[]⟩, .int .i64 0, .bool false] 80)).heap.size := by simp
  clear h
  have HK : Hid (∀ w2, Touch [] (w.alloc (.cells #[.int .i64 0, .int .u16 0, .string ⟨#[]⟩, .int .i64 0, .bool false] 80)) w2 → w2.cell? ⟨w.heap.size, 0, none⟩ = some (.int .i64 0) ∧ w2.cell? ⟨w.heap.size, 1, none⟩ = some (.int .u16 0) ∧ w2.cell? ⟨w.heap.size, 2, none⟩ = some (.string ⟨#[]⟩) ∧ w2.cell? ⟨w.heap.size, 3, none⟩ = some (.int .i64 0) ∧ w2.cell? ⟨w.heap.size, 4, none⟩ = some (.bool false) ∧ ∀ i, w2.frozen? ⟨w.heap.size, i, none⟩ = false) := fun w2 T' => box_run w w2 T'
  unfold PT rv at *
  go_enter Tryz.func23, Tryz.ntmps23
  go_wp2_with (first | (go_at_call 42; refine (HR.out _).mono ?_; rintro e w2 ⟨rfl, rfl⟩) | (go_at_call 46; refine (HC.out _).mono ?_; rintro e w2 ⟨rfl, t2⟩; obtain ⟨q0, q1, q2, q3, q4, qf⟩ := HK.out _ t2; have T2 := hid (((Touch.refl [] w).alloc _).trans' t2); clear t2))
  refine bodyPost_ret (v := .tuple #[.agg #[.int .i64 q.R.run, .int .u16 q.R.sp, .string q.R.nm, .int .i64 q.R.gen, .bool q.R.rf], .bool true]) (by simp [results, Tryz.results23, go_sem, q0, q1, q2, q3, q4]) rfl ⟨rfl, ?_⟩
  repeat (first | exact T2.out | (refine Touch.setCell ?_ (Or.inr (by simp)) _))
theorem runKey (w : World) (a b d : Int) (s : ByteArray) (e : Bool) : (Instr.field 80 (.agg #[.int .i64 a, .int .u16 b, .string s, .int .i64 d, .bool e]) 1).run Tryz.prog w = .ok (.agg #[.int .u16 b, .string s]) w := by kernel_rfl
set_option maxRecDepth 100000 in
theorem tIsCur_no (h : Tm w t p c g nc ng Ps T N) (n : Int) (hn : W64 n) (hr : runOf T n = none) : Calls Tryz.prog 28 #[PT t, .int .i64 n] w fun e w' => e = .returned (.bool false) ∧ Touch [] w w' := by
  have HR := hid (tRecord h n hn)
  rw [h.notIn hr] at HR
  simp only [Option.getD_none] at HR
  clear h
  unfold PT at *
  go_enter Tryz.func28, Tryz.ntmps28
  go_wp2_with (go_at_call 42; refine HR.out.mono ?_; rintro e w ⟨rfl, rfl⟩)
  have k0 : Touch [] w w.drew := (Touch.refl _ _).drew
  refine wp_region_H (S := fun w' => Touch [] w w') (by kernel_rfl) ?_
  refine wpH_take (i := 0) (v := (.pointer none)) (some 9) rfl rfl (by kernel_rfl) (by kernel_rfl) (by kernel_rfl) (fun _ _ _ h => h) (Or.inl ⟨by rfl, fun w' hS => (by go_simp)⟩) k0 ?_
  try simp only [Go.Act.put, List.setIfInBounds_toArray, List.set_cons_zero, List.set_cons_succ]
  refine wpH_take (i := 1) (v := (.bool false)) (some 10) rfl rfl (by kernel_rfl) (by kernel_rfl) (by kernel_rfl) (fun _ _ _ h => h) (Or.inl ⟨by rfl, fun w' hS => (by go_simp)⟩) k0 ?_
  try simp only [Go.Act.put, List.setIfInBounds_toArray, List.set_cons_zero, List.set_cons_succ]
  refine wpH_take (i := 2) (v := (.bool false)) (some 11) rfl rfl (by kernel_rfl) (by kernel_rfl) (by kernel_rfl) (fun _ _ _ h => h) (Or.inl ⟨by rfl, fun w' hS => (by go_simp)⟩) k0 ?_
  try simp only [Go.Act.put, List.setIfInBounds_toArray, List.set_cons_zero, List.set_cons_succ]
  refine wpH_take (i := 3) (v := undef) (some 12) rfl rfl (by kernel_rfl) (by kernel_rfl) (by kernel_rfl) (fun _ _ _ h => h) (Or.inr ⟨by rfl, rfl⟩) k0 ?_
  try simp only [Go.Act.put, List.setIfInBounds_toArray, List.set_cons_zero, List.set_cons_succ]
  refine wpH_take (i := 4) (v := undef) (some 13) rfl rfl (by kernel_rfl) (by kernel_rfl) (by kernel_rfl) (fun _ _ _ h => h) (Or.inr ⟨by rfl, rfl⟩) k0 ?_
  try simp only [Go.Act.put, List.setIfInBounds_toArray, List.set_cons_zero, List.set_cons_succ]
  refine wpH_take (i := 5) (v := undef) (some 14) rfl rfl (by kernel_rfl) (by kernel_rfl) (by kernel_rfl) (fun _ _ _ h => h) (Or.inr ⟨by rfl, rfl⟩) k0 ?_
  try simp only [Go.Act.put, List.setIfInBounds_toArray, List.set_cons_zero, List.set_cons_succ]
  refine wpH_take (i := 6) (v := undef) (some 15) rfl rfl (by kernel_rfl) (by kernel_rfl) (by kernel_rfl) (fun _ _ _ h => h) (Or.inr ⟨by rfl, rfl⟩) k0 ?_
  try simp only [Go.Act.put, List.setIfInBounds_toArray, List.set_cons_zero, List.set_cons_succ]
  refine wpH_take (i := 7) (v := undef) (some 16) rfl rfl (by kernel_rfl) (by kernel_rfl) (by kernel_rfl) (fun _ _ _ h => h) (Or.inr ⟨by rfl, rfl⟩) k0 ?_
  try simp only [Go.Act.put, List.setIfInBounds_toArray, List.set_cons_zero, List.set_cons_succ]
  refine wpH_take (i := 8) (v := undef) (some 17) rfl rfl (by kernel_rfl) (by kernel_rfl) (by kernel_rfl) (fun _ _ _ h => h) (Or.inr ⟨by rfl, rfl⟩) k0 ?_
  try simp only [Go.Act.put, List.setIfInBounds_toArray, List.set_cons_zero, List.set_cons_succ]
  refine wpH_take (i := 9) (v := undef) (some 18) rfl rfl (by kernel_rfl) (by kernel_rfl) (by kernel_rfl) (fun _ _ _ h => h) (Or.inr ⟨by rfl, rfl⟩) k0 ?_
  try simp only [Go.Act.put, List.setIfInBounds_toArray, List.set_cons_zero, List.set_cons_succ]
  refine wpH_take (i := 10) (v := undef) (some 19) rfl rfl (by kernel_rfl) (by kernel_rfl) (by kernel_rfl) (fun _ _ _ h => h) (Or.inr ⟨by rfl, rfl⟩) k0 ?_
  try simp only [Go.Act.put, List.setIfInBounds_toArray, List.set_cons_zero, List.set_cons_succ]
  refine wpH_take (i := 11) (v := undef) (some 20) rfl rfl (by kernel_rfl) (by kernel_rfl) (by kernel_rfl) (fun _ _ _ h => h) (Or.inr ⟨by rfl, rfl⟩) k0 ?_
  try simp only [Go.Act.put, List.setIfInBounds_toArray, List.set_cons_zero, List.set_cons_succ]
  refine wpH_take (i := 12) (v := undef) (some 21) rfl rfl (by kernel_rfl) (by kernel_rfl) (by kernel_rfl) (fun _ _ _ h => h) (Or.inr ⟨by rfl, rfl⟩) k0 ?_
  try simp only [Go.Act.put, List.setIfInBounds_toArray, List.set_cons_zero, List.set_cons_succ]
  refine wpH_take (i := 13) (v := (.bool false)) (some 22) rfl rfl (by kernel_rfl) (by kernel_rfl) (by kernel_rfl) (fun _ _ _ h => h) (Or.inl ⟨by rfl, fun w' hS => (by go_simp)⟩) k0 ?_
  try simp only [Go.Act.put, List.setIfInBounds_toArray, List.set_cons_zero, List.set_cons_succ]
  refine wpH_take (i := 14) (v := (.bool false)) (some 4) rfl rfl (by kernel_rfl) (by kernel_rfl) (by kernel_rfl) (fun _ _ _ h => h) (Or.inl ⟨by rfl, fun w' hS => (by go_simp)⟩) k0 ?_
  try simp only [Go.Act.put, List.setIfInBounds_toArray, List.set_cons_zero, List.set_cons_succ]
  refine wpAnyH_done (by kernel_rfl) ?_ _
  go_wp2
  go_ret
  exact ⟨rfl, k0⟩
set_option maxHeartbeats 2000000 in
set_option maxRecDepth 100000 in
theorem tIsCur_at {A B : List Rb} {q : Rb} (h : Tm w t p c g nc ng (A ++ q :: B) T N) (hN : N ≤ 3000000000000) : Calls Tryz.prog 28 #[PT t, .int .i64 q.R.run] w fun e w' => e = .returned (.bool (isCur T q.R)) ∧ Touch [] w w' := by
  have HR := hid (tRecord_at h hN)
  have HC : Hid (∀ w', Touch [] w w' → Calls Tryz.prog 46 #[PT q.b] w' fun e w2 => e = .returned (rv q.R) ∧ Touch [] w w2) := fun w' T' => (run8 w' q.b N q.F q.R q.S ((h.recs q (by simp)).keep0 T')).mono (fun e w2 hh => ⟨hh.1, T'.trans' hh.2⟩)
  have C3 : ∀ w', Touch [] w w' → w'.cell? ⟨t, 3, none⟩ = some (.map (some c)) := fun w' T' => (h.keep0 T').cs.c3
  have L0 : ∀ w', Touch [] w w' → (Instr.lookup 46 (.map (some c)) (.agg #[.int .u16 q.R.sp, .string q.R.nm]) false).run Tryz.prog w' = .ok (.int .i64 (((curOf T (kOf q.R)).map Rn.run).getD 0)) w' := fun w' T' => (h.keep0 T').lookC (h.iv.ok _ h.memR)
  have hB := curN_of_mem h.iv h.memR
  simp only at hB
  clear h
  generalize ((curOf T (kOf q.R)).map Rn.run).getD 0 = v at *
  have hb : (v == q.R.run) = isCur T q.R := by rw [← hB]; exact Bool.beq_eq_decide_eq _ _
  clear hB
  generalize isCur T q.R = B at *
  unfold PT rv at *
  go_enter Tryz.func28, Tryz.ntmps28
  go_wp2_with (go_at_call 42; refine HR.out.mono ?_; rintro e w ⟨rfl, rfl⟩)
  have k0 : Touch [] w w.drew := (Touch.refl _ _).drew
  refine wp_region_H (S := fun w' => Touch [] w w') (by kernel_rfl) ?_
  refine wpH_take (i := 0) (v := (.pointer (some ⟨q.b, 0, none⟩))) (some 9) rfl rfl (by kernel_rfl) (by kernel_rfl) (by kernel_rfl) (fun _ _ _ h => h) (Or.inl ⟨by rfl, fun w' hS => (by go_simp)⟩) k0 ?_
  try simp only [Go.Act.put, List.setIfInBounds_toArray, List.set_cons_zero, List.set_cons_succ]
  refine wpH_take (i := 1) (v := (.bool true)) (some 10) rfl rfl (by kernel_rfl) (by kernel_rfl) (by kernel_rfl) (fun _ _ _ h => h) (Or.inl ⟨by rfl, fun w' hS => (by go_simp)⟩) k0 ?_
  try simp only [Go.Act.put, List.setIfInBounds_toArray, List.set_cons_zero, List.set_cons_succ]
  refine wpH_take (i := 2) (v := (.bool true)) (some 11) rfl rfl (by kernel_rfl) (by kernel_rfl) (by kernel_rfl) (fun _ _ _ h => h) (Or.inl ⟨by rfl, fun w' hS => (by go_simp)⟩) k0 ?_
  try simp only [Go.Act.put, List.setIfInBounds_toArray, List.set_cons_zero, List.set_cons_succ]
  refine wpH_take (i := 3) (v := (.pointer (some ⟨t, 0, none⟩))) (some 12) rfl rfl (by kernel_rfl) (by kernel_rfl) (by kernel_rfl) (fun _ _ _ h => h) (Or.inl ⟨by rfl, fun w' hS => (by go_simp)⟩) k0 ?_
  try simp only [Go.Act.put, List.setIfInBounds_toArray, List.set_cons_zero, List.set_cons_succ]
  refine wpH_take (i := 4) (v := (.pointer (some ⟨t, 0, none⟩))) (some 13) rfl rfl (by kernel_rfl) (by kernel_rfl) (by kernel_rfl) (fun _ _ _ h => h) (Or.inl ⟨by rfl, fun w' hS => (by go_simp)⟩) k0 ?_
  try simp only [Go.Act.put, List.setIfInBounds_toArray, List.set_cons_zero, List.set_cons_succ]
  refine wpH_take (i := 5) (v := (.pointer (some ⟨t, 3, none⟩))) (some 14) rfl rfl (by kernel_rfl) (by kernel_rfl) (by kernel_rfl) (fun _ _ _ h => h) (Or.inl ⟨by rfl, fun w' hS => (by go_simp)⟩) k0 ?_
  try simp only [Go.Act.put, List.setIfInBounds_toArray, List.set_cons_zero, List.set_cons_succ]
  refine wpH_take (i := 6) (v := (.map (some c))) (some 15) rfl rfl (by kernel_rfl) (by kernel_rfl) (by kernel_rfl) (fun _ _ _ h => h) (Or.inl ⟨by rfl, fun w' hS => (by have z0 := C3 _ hS; go_simp)⟩) k0 ?_
  try simp only [Go.Act.put, List.setIfInBounds_toArray, List.set_cons_zero, List.set_cons_succ]
  refine wpH_take (i := 7) (v := (.pointer (some ⟨q.b, 0, none⟩))) (some 16) rfl rfl (by kernel_rfl) (by kernel_rfl) (by kernel_rfl) (fun _ _ _ h => h) (Or.inl ⟨by rfl, fun w' hS => (by go_simp)⟩) k0 ?_
  try simp only [Go.Act.put, List.setIfInBounds_toArray, List.set_cons_zero, List.set_cons_succ]
  refine wpH_take (i := 11) (v := (.int .i64 q.R.run)) (some 20) rfl rfl (by kernel_rfl) (by kernel_rfl) (by kernel_rfl) (fun _ _ _ h => h) (Or.inl ⟨by rfl, fun w' hS => (by go_simp)⟩) k0 ?_
  try simp only [Go.Act.put, List.setIfInBounds_toArray, List.set_cons_zero, List.set_cons_succ]
  refine wpH_call (i := 8) (o := { dst := some 17, op := Op.call { callee := Callee.value (Operand.func 46), args := #[Operand.tmp 16], argTypes := #[97] }, type := 80, pos := _, after := #[{ on := 7, ground := Ground.data }, { on := 2, ground := Ground.chain }, { on := 2, ground := Ground.guard }], guard := some (2, true) }) (by kernel_rfl) rfl (fun K' hK => ?_)
  rw [if_pos (by rfl)]
  go_simp
  refine (HC.out _ k0).mono ?_
  rintro e' w2 ⟨rfl, s2⟩
  refine hK.out _ _ s2 ?_
  clear hK
  try simp only [Go.Act.put, List.setIfInBounds_toArray, List.set_cons_zero, List.set_cons_succ]
  refine wpH_take (i := 9) (v := (.agg #[.int .u16 q.R.sp, .string q.R.nm])) (some 18) rfl rfl (by kernel_rfl) (by kernel_rfl) (by kernel_rfl) (fun _ _ _ h => h) (Or.inl ⟨by rfl, fun w' hS => (by have z0 := runKey w' q.R.run q.R.sp q.R.gen q.R.nm q.R.rf; go_simp)⟩) s2 ?_
  try simp only [Go.Act.put, List.setIfInBounds_toArray, List.set_cons_zero, List.set_cons_succ]
  refine wpH_take (i := 10) (v := (.int .i64 v)) (some 19) rfl rfl (by kernel_rfl) (by kernel_rfl) (by kernel_rfl) (fun _ _ _ h => h) (Or.inl ⟨by rfl, fun w' hS => (by have z0 := L0 _ hS; go_simp)⟩) s2 ?_
  try simp only [Go.Act.put, List.setIfInBounds_toArray, List.set_cons_zero, List.set_cons_succ]
  refine wpH_take (i := 12) (v := (.bool B)) (some 21) rfl rfl (by kernel_rfl) (by kernel_rfl) (by kernel_rfl) (fun _ _ _ h => h) (Or.inl ⟨by rfl, fun w' hS => (by go_simp)⟩) s2 ?_
  try simp only [Go.Act.put, List.setIfInBounds_toArray, List.set_cons_zero, List.set_cons_succ]
  refine wpH_take (i := 13) (v := (.bool B)) (some 22) rfl rfl (by kernel_rfl) (by kernel_rfl) (by kernel_rfl) (fun _ _ _ h => h) (Or.inl ⟨by rfl, fun w' hS => (by go_simp)⟩) s2 ?_
  try simp only [Go.Act.put, List.setIfInBounds_toArray, List.set_cons_zero, List.set_cons_succ]
  refine wpH_take (i := 14) (v := (.bool B)) (some 4) rfl rfl (by kernel_rfl) (by kernel_rfl) (by kernel_rfl) (fun _ _ _ h => h) (Or.inl ⟨by rfl, fun w' hS => (by go_simp)⟩) s2 ?_
  try simp only [Go.Act.put, List.setIfInBounds_toArray, List.set_cons_zero, List.set_cons_succ]
  refine wpAnyH_done (by kernel_rfl) ?_ _
  go_wp2
  go_ret
  exact ⟨rfl, s2⟩
theorem tJoin_no (h : Tm w t p c g nc ng Ps T N) (n x : Int) (hn : W64 n) (hr : runOf T n = none) : Calls Tryz.prog 11 #[PT t, .int .i64 n, .int .i64 x] w fun e w' => e = .returned (.int .i64 122) ∧ w' = w := by
  have HR := hid (tRecord h n hn)
  rw [h.notIn hr] at HR
  simp only [Option.getD_none] at HR
  clear h
  unfold PT at *
  go_enter Tryz.func11, Tryz.ntmps11
  go_wp2_with (go_at_call 42; refine HR.out.mono ?_; rintro e w ⟨rfl, rfl⟩)
  go_ret
  exact ⟨rfl, rfl⟩
theorem tJoin_at {A B : List Rb} {q : Rb} (h : Tm w t p c g nc ng (A ++ q :: B) T N) (hN : N ≤ 3000000000000) (x : Int) (hx : W64 x) : Calls Tryz.prog 11 #[PT t, .int .i64 q.R.run, .int .i64 x] w fun e w' => e = .returned (.int .i64 (joinE q.S x)) ∧ RqE w w' q.b q.F q.R (joinS q.S x) (N + 1) := by
  have HR := hid (tRecord_at h hN)
  have HJ := hid (join13 w q.b N q.F q.R q.S (h.recs q (by simp)) hN x hx)
  clear h
  unfold PT at *
  go_enter Tryz.func11, Tryz.ntmps11
  go_wp2_with (first | (go_at_call 42; refine HR.out.mono ?_; rintro e w ⟨rfl, rfl⟩) | (go_at_call 43; refine HJ.out.mono ?_; rintro e w2 ⟨rfl, r⟩; have RR := hid r; clear r))
  go_ret
  exact ⟨rfl, RR.out⟩
end
section
variable (w : World) (t : Nat) (F : List Nat) (T : Tb) (N : Nat)
def whoOf (T : Tb) (n : Int) : List Int := match runOf T n with | none => [] | some p => p.2.who
def cancOf (T : Tb) (n : Int) : Bool := match runOf T n with | none => false | some p => p.2.canc
def rnOf (T : Tb) (n : Int) : Rn := match runOf T n with | none => ⟨0, 0, ⟨#[]⟩, 0, false⟩ | some p => p.1
def curBy (T : Tb) (n : Int) : Bool := match runOf T n with | none => false | some p => isCur T p.1
/-- A slice of numbers that is handed out. -/
def WtE (e : Ending) (w w' : World) (xs : List Int) : Prop := ∃ v, e = .returned v ∧ Rd w' v xs ∧ (∀ b, v.ownBlock = some b → w.heap.size ≤ b) ∧ Touch [] w w'
theorem begunT (h : Tq w t F T N) : Calls Tryz.prog 37 #[PT t] w fun e w' => e = .returned (.int .i64 T.bg) ∧ w' = w := by
  obtain ⟨p, c, g, nc, ng, Ps, rfl, h, hL⟩ := h
  exact tBegun h
theorem gennT (h : Tq w t F T N) (k : K) (hk : Ok k) : Calls Tryz.prog 31 #[PT t, kv k] w fun e w' => e = .returned (.int .i64 (T.gn k)) ∧ Touch [] w w' := by
  obtain ⟨p, c, g, nc, ng, Ps, rfl, h, hL⟩ := h
  exact tGenn h k hk
theorem currentT (h : Tq w t F T N) (k : K) (hk : Ok k) : Calls Tryz.prog 9 #[PT t, kv k] w fun e w' => e = .returned (.tuple #[.int .i64 (((curOf T k).map Rn.run).getD 0), .bool (curOf T k).isSome]) ∧ Touch [] w w' := by
  obtain ⟨p, c, g, nc, ng, Ps, rfl, h, hL⟩ := h
  exact tCurrent h k hk
theorem cancT (h : Tq w t F T N) (hN : N ≤ 3000000000000) (n : Int) (hn : W64 n) : Calls Tryz.prog 27 #[PT t, .int .i64 n] w fun e w' => e = .returned (.bool (cancOf T n)) ∧ w' = w := by
  obtain ⟨p, c, g, nc, ng, Ps, rfl, h, hL⟩ := h
  unfold cancOf
  cases hr : runOf T n with
  | none => exact tCanc_no h n hn hr
  | some r =>
    obtain ⟨A, q, B, rfl, rfl, rfl, _⟩ := h.found hr
    exact tCanc_at h hN
theorem waitersT (h : Tq w t F T N) (hN : N ≤ 3000000000000) (n : Int) (hn : W64 n) : Calls Tryz.prog 26 #[PT t, .int .i64 n] w fun e w' => WtE e w w' (whoOf T n) := by
  obtain ⟨p, c, g, nc, ng, Ps, rfl, h, hL⟩ := h
  unfold whoOf
  cases hr : runOf T n with
  | none =>
    refine (tWaiters_no h n hn hr).mono ?_
    rintro e w' ⟨rfl, rfl⟩
    exact ⟨_, rfl, Rd.nil _, fun b hb => (by cases hb), Touch.refl _ _⟩
  | some r =>
    obtain ⟨A, q, B, rfl, rfl, rfl, _⟩ := h.found hr
    refine (tWaiters_at h hN).mono ?_
    rintro e w' ⟨g', cap, rfl, r1, r2⟩
    exact ⟨_, rfl, Rd.of_own r1, fun b hb => (r1.lt b hb).1, r2⟩
theorem runT (h : Tq w t F T N) (hN : N ≤ 3000000000000) (n : Int) (hn : W64 n) : Calls Tryz.prog 23 #[PT t, .int .i64 n] w fun e w' => e = .returned (.tuple #[rv (rnOf T n), .bool (runOf T n).isSome]) ∧ Touch [] w w' := by
  obtain ⟨p, c, g, nc, ng, Ps, rfl, h, hL⟩ := h
  unfold rnOf
  cases hr : runOf T n with
  | none => exact tRun_no h n hn hr
  | some r =>
    obtain ⟨A, q, B, rfl, rfl, rfl, _⟩ := h.found hr
    exact tRun_at h hN
theorem isCurT (h : Tq w t F T N) (hN : N ≤ 3000000000000) (n : Int) (hn : W64 n) : Calls Tryz.prog 28 #[PT t, .int .i64 n] w fun e w' => e = .returned (.bool (curBy T n)) ∧ Touch [] w w' := by
  obtain ⟨p, c, g, nc, ng, Ps, rfl, h, hL⟩ := h
  unfold curBy
  cases hr : runOf T n with
  | none => exact tIsCur_no h n hn hr
  | some r =>
    obtain ⟨A, q, B, rfl, rfl, rfl, _⟩ := h.found hr
    exact tIsCur_at h hN
theorem joinT (h : Tq w t F T N) (hN : N ≤ 3000000000000) (n x : Int) (hn : W64 n) (hx : W64 x) : Calls Tryz.prog 11 #[PT t, .int .i64 n, .int .i64 x] w fun e w' => e = .returned (.int .i64 (tJoinE T n x)) ∧ TqE w w' t F (tJoin T n x) (N + 1) := by
  unfold tJoinE tJoin
  cases hr : runOf T n with
  | none =>
    have hs := TqE.same h (Nat.le_succ N)
    obtain ⟨p, c, g, nc, ng, Ps, rfl, h, hL⟩ := h
    refine (tJoin_no h n x hn hr).mono ?_
    rintro e w' ⟨rfl, rfl⟩
    exact ⟨rfl, hs⟩
  | some r =>
    obtain ⟨p, c, g, nc, ng, Ps, rfl, h, hL⟩ := h
    obtain ⟨A, q, B, rfl, rfl, rfl, _⟩ := h.found hr
    refine (tJoin_at h hN x hx).mono ?_
    rintro e w' ⟨rfl, r⟩
    exact ⟨rfl, h.stepE r (Nat.le_succ N) hL (join_live (hL _ h.memR) x)⟩
end
end Go.Proofs.YtpihhlllembdeaaGreat
