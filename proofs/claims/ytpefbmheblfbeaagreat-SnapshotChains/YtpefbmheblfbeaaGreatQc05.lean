/- What Of asks of one entry more, and what it answers, as plain functions; the contract of checkNext; no conditions but those that each states. -/
import Derived.Test.YtpefbmheblfbeaaGreatQc04
import Derived.Test.YtpefbmheblfbeaaGreatQc03
import Derived.Test.YtpefbmheblfbeaaGreatRows
import Derived.Test.YtpefbmheblfbeaaGreatQc02
import Derived.WalkKit
import Derived.ProofKit
import Derived.OpenShut
import Derived.ShutString
import Derived.Deep.Slices
namespace Go.Proofs.YtpefbmheblfbeaaGreat.Me
open Go.RowKit Go.Sort Go.Maps Go.ChangeMaps Go.WideMaps
set_option maxRecDepth 100000
set_option linter.unusedVariables false
set_option linter.unusedSimpArgs false
def nxE (c : Cf) (now : Int) (xs : List En) (x : En) : Int := if pairE x.1 x.2.1 ≠ 0 then pairE x.1 x.2.1 else if ((fnd xs x.1).isSome || !keepsC c x.2.1 || decide (x.2.2 < 0) || decide (now < x.2.2)) = true then 1 else 0
def ofL (c : Cf) (now : Int) : List En → List En → Int → Int × Int
  | _, [], _ => (0, 0)
  | done, x :: rest, i => if nxE c now done x ≠ 0 then (i, nxE c now done x) else ofL c now (done ++ [x]) rest (i + 1)
def ofP (c : Cf) (now : Int) (xs : List En) : Int × Int := if okC c = false then (0, 100) else if isT now = false then (0, 10) else if c.e < (xs.length : Int) then (0, 3) else ofL c now [] xs 0
set_option maxHeartbeats 4000000 in
set_option maxRecDepth 100000 in
theorem next40_pair (w : World) (m b o : Nat) (G : List Nat) (c : Cf) (now : Int) (xs : List En) (h : Mb w m b o G c now xs) (x : En) (hk : Ok x.1) (hp : pairE x.1 x.2.1 ≠ 0) : Calls Tryz.prog 85 #[PT m, nv x] w fun e w' => e = .returned (.int .i64 (pairE x.1 x.2.1)) ∧ Touch [] w w' := by
  obtain ⟨V, hV⟩ : ∃ V, V = w.alloc (.cells #[.int .u16 x.1.1, .string x.1.2, .int .i64 x.2.1.1, .int .i64 x.2.1.2.1, .int .i64 x.2.1.2.2.1, .int .i64 x.2.1.2.2.2, .int .i64 x.2.2] 60) := ⟨_, rfl⟩
  have TV : Hid (Touch [] w V) := hid (by rw [hV]; exact (Touch.refl _ _).alloc _)
  have HX : Hid (∀ w', Touch [] V w' → w'.cell? ⟨w.heap.size, 0, none⟩ = some (.int .u16 x.1.1) ∧ w'.cell? ⟨w.heap.size, 1, none⟩ = some (.string x.1.2) ∧ w'.cell? ⟨w.heap.size, 2, none⟩ = some (.int .i64 x.2.1.1) ∧ w'.cell? ⟨w.heap.size, 3, none⟩ = some (.int .i64 x.2.1.2.1) ∧ w'.cell? ⟨w.heap.size, 4, none⟩ = some (.int .i64 x.2.1.2.2.1) ∧ w'.cell? ⟨w.heap.size, 5, none⟩ = some (.int .i64 x.2.1.2.2.2) ∧ w'.cell? ⟨w.heap.size, 6, none⟩ = some (.int .i64 x.2.2)) := hid (fun w' t => by
    have := t.keep (k := w.heap.size) (by rw [hV]; exact heap_alloc_new w _) (by simp)
    simp [World.cell?, this])
  obtain ⟨x0, x1, x2, x3, x4, x5, x6⟩ := HX.out V (Touch.refl _ _)
  have HP := hid (pair46 V x.1 x.2.1)
  unfold kv ov at HP
  generalize pairE x.1 x.2.1 = pe at *
  clear h
  unfold PT nv
  go_enter Tryz.func85, Tryz.ntmps85
  go_upto_region 1 with fail
  rw [← hV]
  clear hV
  go_wp2_with (go_at_call 74; refine HP.out.mono ?_; rintro e w2 ⟨rfl, t2⟩; have T2 := hid (TV.out.trans' t2); clear t2)
  go_ret
  exact ⟨rfl, T2.out⟩
set_option maxHeartbeats 4000000 in
set_option maxRecDepth 100000 in
theorem next40_some (w : World) (m b o : Nat) (G : List Nat) (c : Cf) (now : Int) (xs : List En) (h : Mb w m b o G c now xs) (x : En) (hk : Ok x.1) (hp : pairE x.1 x.2.1 = 0) (v : V) (hf : fnd xs x.1 = some v) : Calls Tryz.prog 85 #[PT m, nv x] w fun e w' => e = .returned (.int .i64 1) ∧ Touch [] w w' := by
  obtain ⟨V, hV⟩ : ∃ V, V = w.alloc (.cells #[.int .u16 x.1.1, .string x.1.2, .int .i64 x.2.1.1, .int .i64 x.2.1.2.1, .int .i64 x.2.1.2.2.1, .int .i64 x.2.1.2.2.2, .int .i64 x.2.2] 60) := ⟨_, rfl⟩
  have TV : Hid (Touch [] w V) := hid (by rw [hV]; exact (Touch.refl _ _).alloc _)
  have HX : Hid (∀ w', Touch [] V w' → w'.cell? ⟨w.heap.size, 0, none⟩ = some (.int .u16 x.1.1) ∧ w'.cell? ⟨w.heap.size, 1, none⟩ = some (.string x.1.2) ∧ w'.cell? ⟨w.heap.size, 2, none⟩ = some (.int .i64 x.2.1.1) ∧ w'.cell? ⟨w.heap.size, 3, none⟩ = some (.int .i64 x.2.1.2.1) ∧ w'.cell? ⟨w.heap.size, 4, none⟩ = some (.int .i64 x.2.1.2.2.1) ∧ w'.cell? ⟨w.heap.size, 5, none⟩ = some (.int .i64 x.2.1.2.2.2) ∧ w'.cell? ⟨w.heap.size, 6, none⟩ = some (.int .i64 x.2.2)) := hid (fun w' t => by
    have := t.keep (k := w.heap.size) (by rw [hV]; exact heap_alloc_new w _) (by simp)
    simp [World.cell?, this])
  obtain ⟨x0, x1, x2, x3, x4, x5, x6⟩ := HX.out V (Touch.refl _ _)
  have HP := hid (pair46 V x.1 x.2.1)
  unfold kv ov at HP
  rw [hp] at HP
  clear hp
  unfold PT nv
  go_enter Tryz.func85, Tryz.ntmps85
  go_upto_region 1 with fail
  rw [← hV]
  clear hV
  go_upto_region 4 with (go_at_call 74; refine HP.out.mono ?_; rintro e w2 ⟨rfl, t2⟩; have T2 := hid (TV.out.trans' t2); have T2v := hid t2; clear t2)
  clear x0 x1 x2 x3 x4 x5 x6
  have sA : ∀ w', Touch [] w2 w' → w'.cell? ⟨m, 8, none⟩ = some (.map (some b)) := fun w' t => (h.keep0 (T2.out.trans' t)).md.cs.c8
  have sB : ∀ w', Touch [] w2 w' → w'.cell? ⟨w.heap.size, 0, none⟩ = some (.int .u16 x.1.1) := fun w' t => (HX.out w' (T2v.out.trans' t)).1
  have sC : ∀ w', Touch [] w2 w' → w'.cell? ⟨w.heap.size, 1, none⟩ = some (.string x.1.2) := fun w' t => (HX.out w' (T2v.out.trans' t)).2.1
  have sL : ∀ w', Touch [] w2 w' → (Instr.lookup 141 (.map (some b)) (.agg #[.int .u16 x.1.1, .string x.1.2]) true).run Tryz.prog w' = .ok (.tuple #[.agg #[.int .i64 v.1.1, .int .i64 v.1.2.1, .int .i64 v.1.2.2.1, .int .i64 v.1.2.2.2, .int .i64 v.2], .bool true]) w' := fun w' t => by
    have := (h.keep0 (T2.out.trans' t)).look hk
    rw [hf] at this
    exact this
  obtain ⟨U, hU⟩ : ∃ U, U = (w2.alloc (.cells #[.int .i64 v.1.1, .int .i64 v.1.2.1, .int .i64 v.1.2.2.1, .int .i64 v.1.2.2.2, .int .i64 v.2] 147)).drew := ⟨_, rfl⟩
  have TU2 : Touch [] w2 U := by rw [hU]; exact ((Touch.refl _ _).alloc _).drew
  have TU : Hid (Touch [] w U) := hid (T2.out.trans' TU2)
  have HM := hid (h.keep0 TU.out)
  have HXU := hid (fun w' (t : Touch [] U w') => HX.out w' ((T2v.out.trans' TU2).trans' t))
  have t0 : Touch [] w2 w2.drew := (Touch.refl _ _).drew
  go_region_held3 (fun w' => Touch [] w2 w') (repeat (first | assumption | exact Touch.refl _ _ | apply Touch.alloc | apply Touch.drew | (refine Touch.setCell ?_ (Or.inr (by simp)) _))) (fail)
  all_goals
    clear sA sB sC sL t0
    rw [← hU]
    clear hU TU2
    go_upto_region 5 with fail
    have sM7 : ∀ w', Touch [] U w' → w'.cell? ⟨m, 7, none⟩ = some (.int .i64 now) := fun w' t => (HM.out.keep0 t).md.cs.c7
    have sX0 : ∀ w', Touch [] U w' → w'.cell? ⟨w.heap.size, 0, none⟩ = some (.int .u16 x.1.1) := fun w' t => (HXU.out w' t).1
    have sX1 : ∀ w', Touch [] U w' → w'.cell? ⟨w.heap.size, 1, none⟩ = some (.string x.1.2) := fun w' t => (HXU.out w' t).2.1
    have sX2 : ∀ w', Touch [] U w' → w'.cell? ⟨w.heap.size, 2, none⟩ = some (.int .i64 x.2.1.1) := fun w' t => (HXU.out w' t).2.2.1
    have sX3 : ∀ w', Touch [] U w' → w'.cell? ⟨w.heap.size, 3, none⟩ = some (.int .i64 x.2.1.2.1) := fun w' t => (HXU.out w' t).2.2.2.1
    have sX4 : ∀ w', Touch [] U w' → w'.cell? ⟨w.heap.size, 4, none⟩ = some (.int .i64 x.2.1.2.2.1) := fun w' t => (HXU.out w' t).2.2.2.2.1
    have sX5 : ∀ w', Touch [] U w' → w'.cell? ⟨w.heap.size, 5, none⟩ = some (.int .i64 x.2.1.2.2.2) := fun w' t => (HXU.out w' t).2.2.2.2.2.1
    have sX6 : ∀ w', Touch [] U w' → w'.cell? ⟨w.heap.size, 6, none⟩ = some (.int .i64 x.2.2) := fun w' t => (HXU.out w' t).2.2.2.2.2.2
    have s0 : Touch [] U U.drew := (Touch.refl _ _).drew
    refine wp_region_H (S := fun w' => Touch [] U w') (by kernel_rfl) ?_
    refine wpH_take (i := 0) (v := (.bool true)) (some 26) rfl rfl (by kernel_rfl) (by kernel_rfl) (by kernel_rfl) (fun _ _ _ h => h) (Or.inl ⟨by rfl, fun w' hS => (by go_simp)⟩) s0 ?_
    try simp only [Go.Act.put, List.setIfInBounds_toArray, List.set_cons_zero, List.set_cons_succ]
    refine wpH_take (i := 1) (v := (.bool true)) (some 27) rfl rfl (by kernel_rfl) (by kernel_rfl) (by kernel_rfl) (fun _ _ _ h => h) (Or.inl ⟨by rfl, fun w' hS => (by go_simp)⟩) s0 ?_
    try simp only [Go.Act.put, List.setIfInBounds_toArray, List.set_cons_zero, List.set_cons_succ]
    refine wpH_take (i := 2) (v := undef) (some 28) rfl rfl (by kernel_rfl) (by kernel_rfl) (by kernel_rfl) (fun _ _ _ h => h) (Or.inr ⟨by rfl, rfl⟩) s0 ?_
    try simp only [Go.Act.put, List.setIfInBounds_toArray, List.set_cons_zero, List.set_cons_succ]
    refine wpH_take (i := 3) (v := undef) (some 29) rfl rfl (by kernel_rfl) (by kernel_rfl) (by kernel_rfl) (fun _ _ _ h => h) (Or.inr ⟨by rfl, rfl⟩) s0 ?_
    try simp only [Go.Act.put, List.setIfInBounds_toArray, List.set_cons_zero, List.set_cons_succ]
    refine wpH_take (i := 4) (v := undef) (some 30) rfl rfl (by kernel_rfl) (by kernel_rfl) (by kernel_rfl) (fun _ _ _ h => h) (Or.inr ⟨by rfl, rfl⟩) s0 ?_
    try simp only [Go.Act.put, List.setIfInBounds_toArray, List.set_cons_zero, List.set_cons_succ]
    refine wpH_take (i := 5) (v := undef) (some 31) rfl rfl (by kernel_rfl) (by kernel_rfl) (by kernel_rfl) (fun _ _ _ h => h) (Or.inr ⟨by rfl, rfl⟩) s0 ?_
    try simp only [Go.Act.put, List.setIfInBounds_toArray, List.set_cons_zero, List.set_cons_succ]
    refine wpH_take (i := 6) (v := undef) (some 32) rfl rfl (by kernel_rfl) (by kernel_rfl) (by kernel_rfl) (fun _ _ _ h => h) (Or.inr ⟨by rfl, rfl⟩) s0 ?_
    try simp only [Go.Act.put, List.setIfInBounds_toArray, List.set_cons_zero, List.set_cons_succ]
    refine wpH_take (i := 7) (v := (.bool true)) (some 33) rfl rfl (by kernel_rfl) (by kernel_rfl) (by kernel_rfl) (fun _ _ _ h => h) (Or.inl ⟨by rfl, fun w' hS => (by go_simp)⟩) s0 ?_
    try simp only [Go.Act.put, List.setIfInBounds_toArray, List.set_cons_zero, List.set_cons_succ]
    refine wpH_take (i := 8) (v := (.bool true)) (some 34) rfl rfl (by kernel_rfl) (by kernel_rfl) (by kernel_rfl) (fun _ _ _ h => h) (Or.inl ⟨by rfl, fun w' hS => (by go_simp)⟩) s0 ?_
    try simp only [Go.Act.put, List.setIfInBounds_toArray, List.set_cons_zero, List.set_cons_succ]
    refine wpH_take (i := 9) (v := undef) (some 35) rfl rfl (by kernel_rfl) (by kernel_rfl) (by kernel_rfl) (fun _ _ _ h => h) (Or.inr ⟨by rfl, rfl⟩) s0 ?_
    try simp only [Go.Act.put, List.setIfInBounds_toArray, List.set_cons_zero, List.set_cons_succ]
    refine wpH_take (i := 10) (v := undef) (some 36) rfl rfl (by kernel_rfl) (by kernel_rfl) (by kernel_rfl) (fun _ _ _ h => h) (Or.inr ⟨by rfl, rfl⟩) s0 ?_
    try simp only [Go.Act.put, List.setIfInBounds_toArray, List.set_cons_zero, List.set_cons_succ]
    refine wpH_take (i := 11) (v := undef) (some 37) rfl rfl (by kernel_rfl) (by kernel_rfl) (by kernel_rfl) (fun _ _ _ h => h) (Or.inr ⟨by rfl, rfl⟩) s0 ?_
    try simp only [Go.Act.put, List.setIfInBounds_toArray, List.set_cons_zero, List.set_cons_succ]
    refine wpH_take (i := 12) (v := (.bool true)) (some 38) rfl rfl (by kernel_rfl) (by kernel_rfl) (by kernel_rfl) (fun _ _ _ h => h) (Or.inl ⟨by rfl, fun w' hS => (by go_simp)⟩) s0 ?_
    try simp only [Go.Act.put, List.setIfInBounds_toArray, List.set_cons_zero, List.set_cons_succ]
    refine wpH_take (i := 13) (v := (.bool true)) (some 39) rfl rfl (by kernel_rfl) (by kernel_rfl) (by kernel_rfl) (fun _ _ _ h => h) (Or.inl ⟨by rfl, fun w' hS => (by go_simp)⟩) s0 ?_
    try simp only [Go.Act.put, List.setIfInBounds_toArray, List.set_cons_zero, List.set_cons_succ]
    refine wpH_take (i := 14) (v := undef) (some 40) rfl rfl (by kernel_rfl) (by kernel_rfl) (by kernel_rfl) (fun _ _ _ h => h) (Or.inr ⟨by rfl, rfl⟩) s0 ?_
    try simp only [Go.Act.put, List.setIfInBounds_toArray, List.set_cons_zero, List.set_cons_succ]
    refine wpH_take (i := 15) (v := undef) (some 41) rfl rfl (by kernel_rfl) (by kernel_rfl) (by kernel_rfl) (fun _ _ _ h => h) (Or.inr ⟨by rfl, rfl⟩) s0 ?_
    try simp only [Go.Act.put, List.setIfInBounds_toArray, List.set_cons_zero, List.set_cons_succ]
    refine wpH_take (i := 16) (v := undef) (some 42) rfl rfl (by kernel_rfl) (by kernel_rfl) (by kernel_rfl) (fun _ _ _ h => h) (Or.inr ⟨by rfl, rfl⟩) s0 ?_
    try simp only [Go.Act.put, List.setIfInBounds_toArray, List.set_cons_zero, List.set_cons_succ]
    refine wpH_take (i := 17) (v := undef) (some 43) rfl rfl (by kernel_rfl) (by kernel_rfl) (by kernel_rfl) (fun _ _ _ h => h) (Or.inr ⟨by rfl, rfl⟩) s0 ?_
    try simp only [Go.Act.put, List.setIfInBounds_toArray, List.set_cons_zero, List.set_cons_succ]
    refine wpH_take (i := 18) (v := undef) (some 44) rfl rfl (by kernel_rfl) (by kernel_rfl) (by kernel_rfl) (fun _ _ _ h => h) (Or.inr ⟨by rfl, rfl⟩) s0 ?_
    try simp only [Go.Act.put, List.setIfInBounds_toArray, List.set_cons_zero, List.set_cons_succ]
    refine wpH_take (i := 19) (v := undef) (some 45) rfl rfl (by kernel_rfl) (by kernel_rfl) (by kernel_rfl) (fun _ _ _ h => h) (Or.inr ⟨by rfl, rfl⟩) s0 ?_
    try simp only [Go.Act.put, List.setIfInBounds_toArray, List.set_cons_zero, List.set_cons_succ]
    refine wpH_take (i := 20) (v := undef) (some 46) rfl rfl (by kernel_rfl) (by kernel_rfl) (by kernel_rfl) (fun _ _ _ h => h) (Or.inr ⟨by rfl, rfl⟩) s0 ?_
    try simp only [Go.Act.put, List.setIfInBounds_toArray, List.set_cons_zero, List.set_cons_succ]
    refine wpH_take (i := 21) (v := (.bool true)) (some 47) rfl rfl (by kernel_rfl) (by kernel_rfl) (by kernel_rfl) (fun _ _ _ h => h) (Or.inl ⟨by rfl, fun w' hS => (by go_simp)⟩) s0 ?_
    try simp only [Go.Act.put, List.setIfInBounds_toArray, List.set_cons_zero, List.set_cons_succ]
    refine wpAnyH_done (by kernel_rfl) ?_ _
    have SE := hid s0
    clear sX0 sX1 sX2 sX3 sX4 sX5 sX6 sM7 s0
    go_wp2
    go_ret
    exact ⟨rfl, TU.out.trans' SE.out⟩
set_option maxHeartbeats 4000000 in
set_option maxRecDepth 100000 in
theorem next40_B (w : World) (m b o : Nat) (G : List Nat) (c : Cf) (now : Int) (xs : List En) (h : Mb w m b o G c now xs) (x : En) (hk : Ok x.1) (hp : pairE x.1 x.2.1 = 0) (hf : fnd xs x.1 = none) (hkc : keepsC c x.2.1 = false) : Calls Tryz.prog 85 #[PT m, nv x] w fun e w' => e = .returned (.int .i64 1) ∧ Touch [] w w' := by
  obtain ⟨V, hV⟩ : ∃ V, V = w.alloc (.cells #[.int .u16 x.1.1, .string x.1.2, .int .i64 x.2.1.1, .int .i64 x.2.1.2.1, .int .i64 x.2.1.2.2.1, .int .i64 x.2.1.2.2.2, .int .i64 x.2.2] 60) := ⟨_, rfl⟩
  have TV : Hid (Touch [] w V) := hid (by rw [hV]; exact (Touch.refl _ _).alloc _)
  have HX : Hid (∀ w', Touch [] V w' → w'.cell? ⟨w.heap.size, 0, none⟩ = some (.int .u16 x.1.1) ∧ w'.cell? ⟨w.heap.size, 1, none⟩ = some (.string x.1.2) ∧ w'.cell? ⟨w.heap.size, 2, none⟩ = some (.int .i64 x.2.1.1) ∧ w'.cell? ⟨w.heap.size, 3, none⟩ = some (.int .i64 x.2.1.2.1) ∧ w'.cell? ⟨w.heap.size, 4, none⟩ = some (.int .i64 x.2.1.2.2.1) ∧ w'.cell? ⟨w.heap.size, 5, none⟩ = some (.int .i64 x.2.1.2.2.2) ∧ w'.cell? ⟨w.heap.size, 6, none⟩ = some (.int .i64 x.2.2)) := hid (fun w' t => by
    have := t.keep (k := w.heap.size) (by rw [hV]; exact heap_alloc_new w _) (by simp)
    simp [World.cell?, this])
  obtain ⟨x0, x1, x2, x3, x4, x5, x6⟩ := HX.out V (Touch.refl _ _)
  have HP := hid (pair46 V x.1 x.2.1)
  unfold kv ov at HP
  rw [hp] at HP
  clear hp
  have HKq : Hid (∀ wu w' : World, Mb wu m b o G c now xs → Touch [] wu w' → Calls Tryz.prog 75 #[.pointer (some ⟨m, 0, none⟩), .agg #[.int .i64 x.2.1.1, .int .i64 x.2.1.2.1, .int .i64 x.2.1.2.2.1, .int .i64 x.2.1.2.2.2]] w' fun e w'' => e = .returned (.bool (keepsC c x.2.1)) ∧ Touch [] wu w'') := hid (fun wu w' hu t => (keeps47 w' m c now b o (hu.keep0 t).md x.2.1).mono (by
    rintro e w'' ⟨rfl, t2⟩
    exact ⟨rfl, t.trans' t2⟩))
  rw [hkc] at HKq
  clear hkc
  unfold PT nv
  go_enter Tryz.func85, Tryz.ntmps85
  go_upto_region 1 with fail
  rw [← hV]
  clear hV
  go_upto_region 4 with (go_at_call 74; refine HP.out.mono ?_; rintro e w2 ⟨rfl, t2⟩; have T2 := hid (TV.out.trans' t2); have T2v := hid t2; clear t2)
  clear x0 x1 x2 x3 x4 x5 x6
  have sA : ∀ w', Touch [] w2 w' → w'.cell? ⟨m, 8, none⟩ = some (.map (some b)) := fun w' t => (h.keep0 (T2.out.trans' t)).md.cs.c8
  have sB : ∀ w', Touch [] w2 w' → w'.cell? ⟨w.heap.size, 0, none⟩ = some (.int .u16 x.1.1) := fun w' t => (HX.out w' (T2v.out.trans' t)).1
  have sC : ∀ w', Touch [] w2 w' → w'.cell? ⟨w.heap.size, 1, none⟩ = some (.string x.1.2) := fun w' t => (HX.out w' (T2v.out.trans' t)).2.1
  have sL : ∀ w', Touch [] w2 w' → (Instr.lookup 141 (.map (some b)) (.agg #[.int .u16 x.1.1, .string x.1.2]) true).run Tryz.prog w' = .ok (.tuple #[.agg #[.int .i64 0, .int .i64 0, .int .i64 0, .int .i64 0, .int .i64 0], .bool false]) w' := fun w' t => by
    have := (h.keep0 (T2.out.trans' t)).look hk
    rw [hf] at this
    exact this
  obtain ⟨U, hU⟩ : ∃ U, U = (w2.alloc (.cells #[.int .i64 0, .int .i64 0, .int .i64 0, .int .i64 0, .int .i64 0] 147)).drew := ⟨_, rfl⟩
  have TU2 : Touch [] w2 U := by rw [hU]; exact ((Touch.refl _ _).alloc _).drew
  have TU : Hid (Touch [] w U) := hid (T2.out.trans' TU2)
  have HM := hid (h.keep0 TU.out)
  have HXU := hid (fun w' (t : Touch [] U w') => HX.out w' ((T2v.out.trans' TU2).trans' t))
  have t0 : Touch [] w2 w2.drew := (Touch.refl _ _).drew
  go_region_held3 (fun w' => Touch [] w2 w') (repeat (first | assumption | exact Touch.refl _ _ | apply Touch.alloc | apply Touch.drew | (refine Touch.setCell ?_ (Or.inr (by simp)) _))) (fail)
  all_goals
    clear sA sB sC sL t0
    rw [← hU]
    clear hU TU2
    go_upto_region 5 with fail
    have sM7 : ∀ w', Touch [] U w' → w'.cell? ⟨m, 7, none⟩ = some (.int .i64 now) := fun w' t => (HM.out.keep0 t).md.cs.c7
    have sX0 : ∀ w', Touch [] U w' → w'.cell? ⟨w.heap.size, 0, none⟩ = some (.int .u16 x.1.1) := fun w' t => (HXU.out w' t).1
    have sX1 : ∀ w', Touch [] U w' → w'.cell? ⟨w.heap.size, 1, none⟩ = some (.string x.1.2) := fun w' t => (HXU.out w' t).2.1
    have sX2 : ∀ w', Touch [] U w' → w'.cell? ⟨w.heap.size, 2, none⟩ = some (.int .i64 x.2.1.1) := fun w' t => (HXU.out w' t).2.2.1
    have sX3 : ∀ w', Touch [] U w' → w'.cell? ⟨w.heap.size, 3, none⟩ = some (.int .i64 x.2.1.2.1) := fun w' t => (HXU.out w' t).2.2.2.1
    have sX4 : ∀ w', Touch [] U w' → w'.cell? ⟨w.heap.size, 4, none⟩ = some (.int .i64 x.2.1.2.2.1) := fun w' t => (HXU.out w' t).2.2.2.2.1
    have sX5 : ∀ w', Touch [] U w' → w'.cell? ⟨w.heap.size, 5, none⟩ = some (.int .i64 x.2.1.2.2.2) := fun w' t => (HXU.out w' t).2.2.2.2.2.1
    have sX6 : ∀ w', Touch [] U w' → w'.cell? ⟨w.heap.size, 6, none⟩ = some (.int .i64 x.2.2) := fun w' t => (HXU.out w' t).2.2.2.2.2.2
    have HKp := hid (fun w' t => HKq.out U w' HM.out t)
    have s0 : Touch [] U U.drew := (Touch.refl _ _).drew
    refine wp_region_H (S := fun w' => Touch [] U w') (by kernel_rfl) ?_
    refine wpH_take (i := 0) (v := (.bool false)) (some 26) rfl rfl (by kernel_rfl) (by kernel_rfl) (by kernel_rfl) (fun _ _ _ h => h) (Or.inl ⟨by rfl, fun w' hS => (by go_simp)⟩) s0 ?_
    try simp only [Go.Act.put, List.setIfInBounds_toArray, List.set_cons_zero, List.set_cons_succ]
    refine wpH_take (i := 1) (v := (.bool false)) (some 27) rfl rfl (by kernel_rfl) (by kernel_rfl) (by kernel_rfl) (fun _ _ _ h => h) (Or.inl ⟨by rfl, fun w' hS => (by go_simp)⟩) s0 ?_
    try simp only [Go.Act.put, List.setIfInBounds_toArray, List.set_cons_zero, List.set_cons_succ]
    refine wpH_take (i := 2) (v := (.pointer (some ⟨m, 0, none⟩))) (some 28) rfl rfl (by kernel_rfl) (by kernel_rfl) (by kernel_rfl) (fun _ _ _ h => h) (Or.inl ⟨by rfl, fun w' hS => (by go_simp)⟩) s0 ?_
    try simp only [Go.Act.put, List.setIfInBounds_toArray, List.set_cons_zero, List.set_cons_succ]
    refine wpH_take (i := 3) (v := (.pointer (some ⟨w.heap.size, 2, none⟩))) (some 29) rfl rfl (by kernel_rfl) (by kernel_rfl) (by kernel_rfl) (fun _ _ _ h => h) (Or.inl ⟨by rfl, fun w' hS => (by go_simp)⟩) s0 ?_
    try simp only [Go.Act.put, List.setIfInBounds_toArray, List.set_cons_zero, List.set_cons_succ]
    refine wpH_take (i := 4) (v := (.agg #[.int .i64 x.2.1.1, .int .i64 x.2.1.2.1, .int .i64 x.2.1.2.2.1, .int .i64 x.2.1.2.2.2])) (some 30) rfl rfl (by kernel_rfl) (by kernel_rfl) (by kernel_rfl) (fun _ _ _ h => h) (Or.inl ⟨by rfl, fun w' hS => (by have z0 := sX2 _ hS; have z1 := sX3 _ hS; have z2 := sX4 _ hS; have z3 := sX5 _ hS; go_simp)⟩) s0 ?_
    try simp only [Go.Act.put, List.setIfInBounds_toArray, List.set_cons_zero, List.set_cons_succ]
    refine wpH_call (i := 5) (o := { dst := some 31, op := Op.call { callee := Callee.value (Operand.func 75), args := #[Operand.tmp 28, Operand.tmp 30], argTypes := #[28, 58] }, type := 4, pos := _, after := #[{ on := 2, ground := Ground.data }, { on := 4, ground := Ground.data }, { on := 1, ground := Ground.chain }, { on := 1, ground := Ground.guard }], guard := some (1, false) }) (by kernel_rfl) rfl (fun K' hK => ?_)
    rw [if_pos (by rfl)]
    go_simp
    refine (HKp.out _ s0).mono ?_
    rintro e w6 ⟨rfl, s1⟩
    refine hK.out _ _ s1 ?_
    clear hK
    try simp only [Go.Act.put, List.setIfInBounds_toArray, List.set_cons_zero, List.set_cons_succ]
    refine wpH_take (i := 6) (v := (.bool true)) (some 32) rfl rfl (by kernel_rfl) (by kernel_rfl) (by kernel_rfl) (fun _ _ _ h => h) (Or.inl ⟨by rfl, fun w' hS => (by go_simp)⟩) s1 ?_
    try simp only [Go.Act.put, List.setIfInBounds_toArray, List.set_cons_zero, List.set_cons_succ]
    refine wpH_take (i := 7) (v := (.bool true)) (some 33) rfl rfl (by kernel_rfl) (by kernel_rfl) (by kernel_rfl) (fun _ _ _ h => h) (Or.inl ⟨by rfl, fun w' hS => (by go_simp)⟩) s1 ?_
    try simp only [Go.Act.put, List.setIfInBounds_toArray, List.set_cons_zero, List.set_cons_succ]
    refine wpH_take (i := 8) (v := (.bool true)) (some 34) rfl rfl (by kernel_rfl) (by kernel_rfl) (by kernel_rfl) (fun _ _ _ h => h) (Or.inl ⟨by rfl, fun w' hS => (by go_simp)⟩) s1 ?_
    try simp only [Go.Act.put, List.setIfInBounds_toArray, List.set_cons_zero, List.set_cons_succ]
    refine wpH_take (i := 9) (v := undef) (some 35) rfl rfl (by kernel_rfl) (by kernel_rfl) (by kernel_rfl) (fun _ _ _ h => h) (Or.inr ⟨by rfl, rfl⟩) s1 ?_
    try simp only [Go.Act.put, List.setIfInBounds_toArray, List.set_cons_zero, List.set_cons_succ]
    refine wpH_take (i := 10) (v := undef) (some 36) rfl rfl (by kernel_rfl) (by kernel_rfl) (by kernel_rfl) (fun _ _ _ h => h) (Or.inr ⟨by rfl, rfl⟩) s1 ?_
    try simp only [Go.Act.put, List.setIfInBounds_toArray, List.set_cons_zero, List.set_cons_succ]
    refine wpH_take (i := 11) (v := undef) (some 37) rfl rfl (by kernel_rfl) (by kernel_rfl) (by kernel_rfl) (fun _ _ _ h => h) (Or.inr ⟨by rfl, rfl⟩) s1 ?_
    try simp only [Go.Act.put, List.setIfInBounds_toArray, List.set_cons_zero, List.set_cons_succ]
    refine wpH_take (i := 12) (v := (.bool true)) (some 38) rfl rfl (by kernel_rfl) (by kernel_rfl) (by kernel_rfl) (fun _ _ _ h => h) (Or.inl ⟨by rfl, fun w' hS => (by go_simp)⟩) s1 ?_
    try simp only [Go.Act.put, List.setIfInBounds_toArray, List.set_cons_zero, List.set_cons_succ]
    refine wpH_take (i := 13) (v := (.bool true)) (some 39) rfl rfl (by kernel_rfl) (by kernel_rfl) (by kernel_rfl) (fun _ _ _ h => h) (Or.inl ⟨by rfl, fun w' hS => (by go_simp)⟩) s1 ?_
    try simp only [Go.Act.put, List.setIfInBounds_toArray, List.set_cons_zero, List.set_cons_succ]
    refine wpH_take (i := 14) (v := undef) (some 40) rfl rfl (by kernel_rfl) (by kernel_rfl) (by kernel_rfl) (fun _ _ _ h => h) (Or.inr ⟨by rfl, rfl⟩) s1 ?_
    try simp only [Go.Act.put, List.setIfInBounds_toArray, List.set_cons_zero, List.set_cons_succ]
    refine wpH_take (i := 15) (v := undef) (some 41) rfl rfl (by kernel_rfl) (by kernel_rfl) (by kernel_rfl) (fun _ _ _ h => h) (Or.inr ⟨by rfl, rfl⟩) s1 ?_
    try simp only [Go.Act.put, List.setIfInBounds_toArray, List.set_cons_zero, List.set_cons_succ]
    refine wpH_take (i := 16) (v := undef) (some 42) rfl rfl (by kernel_rfl) (by kernel_rfl) (by kernel_rfl) (fun _ _ _ h => h) (Or.inr ⟨by rfl, rfl⟩) s1 ?_
    try simp only [Go.Act.put, List.setIfInBounds_toArray, List.set_cons_zero, List.set_cons_succ]
    refine wpH_take (i := 17) (v := undef) (some 43) rfl rfl (by kernel_rfl) (by kernel_rfl) (by kernel_rfl) (fun _ _ _ h => h) (Or.inr ⟨by rfl, rfl⟩) s1 ?_
    try simp only [Go.Act.put, List.setIfInBounds_toArray, List.set_cons_zero, List.set_cons_succ]
    refine wpH_take (i := 18) (v := undef) (some 44) rfl rfl (by kernel_rfl) (by kernel_rfl) (by kernel_rfl) (fun _ _ _ h => h) (Or.inr ⟨by rfl, rfl⟩) s1 ?_
    try simp only [Go.Act.put, List.setIfInBounds_toArray, List.set_cons_zero, List.set_cons_succ]
    refine wpH_take (i := 19) (v := undef) (some 45) rfl rfl (by kernel_rfl) (by kernel_rfl) (by kernel_rfl) (fun _ _ _ h => h) (Or.inr ⟨by rfl, rfl⟩) s1 ?_
    try simp only [Go.Act.put, List.setIfInBounds_toArray, List.set_cons_zero, List.set_cons_succ]
    refine wpH_take (i := 20) (v := undef) (some 46) rfl rfl (by kernel_rfl) (by kernel_rfl) (by kernel_rfl) (fun _ _ _ h => h) (Or.inr ⟨by rfl, rfl⟩) s1 ?_
    try simp only [Go.Act.put, List.setIfInBounds_toArray, List.set_cons_zero, List.set_cons_succ]
    refine wpH_take (i := 21) (v := (.bool true)) (some 47) rfl rfl (by kernel_rfl) (by kernel_rfl) (by kernel_rfl) (fun _ _ _ h => h) (Or.inl ⟨by rfl, fun w' hS => (by go_simp)⟩) s1 ?_
    try simp only [Go.Act.put, List.setIfInBounds_toArray, List.set_cons_zero, List.set_cons_succ]
    refine wpAnyH_done (by kernel_rfl) ?_ _
    have SE := hid s1
    clear sX0 sX1 sX2 sX3 sX4 sX5 sX6 sM7 s0 s1
    go_wp2
    go_ret
    exact ⟨rfl, TU.out.trans' SE.out⟩
set_option maxHeartbeats 4000000 in
set_option maxRecDepth 100000 in
theorem next40_C (w : World) (m b o : Nat) (G : List Nat) (c : Cf) (now : Int) (xs : List En) (h : Mb w m b o G c now xs) (x : En) (hk : Ok x.1) (hp : pairE x.1 x.2.1 = 0) (hf : fnd xs x.1 = none) (hkc : keepsC c x.2.1 = true) (ha : x.2.2 < 0) : Calls Tryz.prog 85 #[PT m, nv x] w fun e w' => e = .returned (.int .i64 1) ∧ Touch [] w w' := by
  obtain ⟨V, hV⟩ : ∃ V, V = w.alloc (.cells #[.int .u16 x.1.1, .string x.1.2, .int .i64 x.2.1.1, .int .i64 x.2.1.2.1, .int .i64 x.2.1.2.2.1, .int .i64 x.2.1.2.2.2, .int .i64 x.2.2] 60) := ⟨_, rfl⟩
  have TV : Hid (Touch [] w V) := hid (by rw [hV]; exact (Touch.refl _ _).alloc _)
  have HX : Hid (∀ w', Touch [] V w' → w'.cell? ⟨w.heap.size, 0, none⟩ = some (.int .u16 x.1.1) ∧ w'.cell? ⟨w.heap.size, 1, none⟩ = some (.string x.1.2) ∧ w'.cell? ⟨w.heap.size, 2, none⟩ = some (.int .i64 x.2.1.1) ∧ w'.cell? ⟨w.heap.size, 3, none⟩ = some (.int .i64 x.2.1.2.1) ∧ w'.cell? ⟨w.heap.size, 4, none⟩ = some (.int .i64 x.2.1.2.2.1) ∧ w'.cell? ⟨w.heap.size, 5, none⟩ = some (.int .i64 x.2.1.2.2.2) ∧ w'.cell? ⟨w.heap.size, 6, none⟩ = some (.int .i64 x.2.2)) := hid (fun w' t => by
    have := t.keep (k := w.heap.size) (by rw [hV]; exact heap_alloc_new w _) (by simp)
    simp [World.cell?, this])
  obtain ⟨x0, x1, x2, x3, x4, x5, x6⟩ := HX.out V (Touch.refl _ _)
  have HP := hid (pair46 V x.1 x.2.1)
  unfold kv ov at HP
  rw [hp] at HP
  clear hp
  have HKq : Hid (∀ wu w' : World, Mb wu m b o G c now xs → Touch [] wu w' → Calls Tryz.prog 75 #[.pointer (some ⟨m, 0, none⟩), .agg #[.int .i64 x.2.1.1, .int .i64 x.2.1.2.1, .int .i64 x.2.1.2.2.1, .int .i64 x.2.1.2.2.2]] w' fun e w'' => e = .returned (.bool (keepsC c x.2.1)) ∧ Touch [] wu w'') := hid (fun wu w' hu t => (keeps47 w' m c now b o (hu.keep0 t).md x.2.1).mono (by
    rintro e w'' ⟨rfl, t2⟩
    exact ⟨rfl, t.trans' t2⟩))
  rw [hkc] at HKq
  clear hkc
  unfold PT nv
  go_enter Tryz.func85, Tryz.ntmps85
  go_upto_region 1 with fail
  rw [← hV]
  clear hV
  go_upto_region 4 with (go_at_call 74; refine HP.out.mono ?_; rintro e w2 ⟨rfl, t2⟩; have T2 := hid (TV.out.trans' t2); have T2v := hid t2; clear t2)
  clear x0 x1 x2 x3 x4 x5 x6
  have sA : ∀ w', Touch [] w2 w' → w'.cell? ⟨m, 8, none⟩ = some (.map (some b)) := fun w' t => (h.keep0 (T2.out.trans' t)).md.cs.c8
  have sB : ∀ w', Touch [] w2 w' → w'.cell? ⟨w.heap.size, 0, none⟩ = some (.int .u16 x.1.1) := fun w' t => (HX.out w' (T2v.out.trans' t)).1
  have sC : ∀ w', Touch [] w2 w' → w'.cell? ⟨w.heap.size, 1, none⟩ = some (.string x.1.2) := fun w' t => (HX.out w' (T2v.out.trans' t)).2.1
  have sL : ∀ w', Touch [] w2 w' → (Instr.lookup 141 (.map (some b)) (.agg #[.int .u16 x.1.1, .string x.1.2]) true).run Tryz.prog w' = .ok (.tuple #[.agg #[.int .i64 0, .int .i64 0, .int .i64 0, .int .i64 0, .int .i64 0], .bool false]) w' := fun w' t => by
    have := (h.keep0 (T2.out.trans' t)).look hk
    rw [hf] at this
    exact this
  obtain ⟨U, hU⟩ : ∃ U, U = (w2.alloc (.cells #[.int .i64 0, .int .i64 0, .int .i64 0, .int .i64 0, .int .i64 0] 147)).drew := ⟨_, rfl⟩
  have TU2 : Touch [] w2 U := by rw [hU]; exact ((Touch.refl _ _).alloc _).drew
  have TU : Hid (Touch [] w U) := hid (T2.out.trans' TU2)
  have HM := hid (h.keep0 TU.out)
  have HXU := hid (fun w' (t : Touch [] U w') => HX.out w' ((T2v.out.trans' TU2).trans' t))
  have t0 : Touch [] w2 w2.drew := (Touch.refl _ _).drew
  go_region_held3 (fun w' => Touch [] w2 w') (repeat (first | assumption | exact Touch.refl _ _ | apply Touch.alloc | apply Touch.drew | (refine Touch.setCell ?_ (Or.inr (by simp)) _))) (fail)
  all_goals
    clear sA sB sC sL t0
    rw [← hU]
    clear hU TU2
    go_upto_region 5 with fail
    have sM7 : ∀ w', Touch [] U w' → w'.cell? ⟨m, 7, none⟩ = some (.int .i64 now) := fun w' t => (HM.out.keep0 t).md.cs.c7
    have sX0 : ∀ w', Touch [] U w' → w'.cell? ⟨w.heap.size, 0, none⟩ = some (.int .u16 x.1.1) := fun w' t => (HXU.out w' t).1
    have sX1 : ∀ w', Touch [] U w' → w'.cell? ⟨w.heap.size, 1, none⟩ = some (.string x.1.2) := fun w' t => (HXU.out w' t).2.1
    have sX2 : ∀ w', Touch [] U w' → w'.cell? ⟨w.heap.size, 2, none⟩ = some (.int .i64 x.2.1.1) := fun w' t => (HXU.out w' t).2.2.1
    have sX3 : ∀ w', Touch [] U w' → w'.cell? ⟨w.heap.size, 3, none⟩ = some (.int .i64 x.2.1.2.1) := fun w' t => (HXU.out w' t).2.2.2.1
    have sX4 : ∀ w', Touch [] U w' → w'.cell? ⟨w.heap.size, 4, none⟩ = some (.int .i64 x.2.1.2.2.1) := fun w' t => (HXU.out w' t).2.2.2.2.1
    have sX5 : ∀ w', Touch [] U w' → w'.cell? ⟨w.heap.size, 5, none⟩ = some (.int .i64 x.2.1.2.2.2) := fun w' t => (HXU.out w' t).2.2.2.2.2.1
    have sX6 : ∀ w', Touch [] U w' → w'.cell? ⟨w.heap.size, 6, none⟩ = some (.int .i64 x.2.2) := fun w' t => (HXU.out w' t).2.2.2.2.2.2
    have HKp := hid (fun w' t => HKq.out U w' HM.out t)
    have s0 : Touch [] U U.drew := (Touch.refl _ _).drew
    refine wp_region_H (S := fun w' => Touch [] U w') (by kernel_rfl) ?_
    refine wpH_take (i := 0) (v := (.bool false)) (some 26) rfl rfl (by kernel_rfl) (by kernel_rfl) (by kernel_rfl) (fun _ _ _ h => h) (Or.inl ⟨by rfl, fun w' hS => (by go_simp)⟩) s0 ?_
    try simp only [Go.Act.put, List.setIfInBounds_toArray, List.set_cons_zero, List.set_cons_succ]
    refine wpH_take (i := 1) (v := (.bool false)) (some 27) rfl rfl (by kernel_rfl) (by kernel_rfl) (by kernel_rfl) (fun _ _ _ h => h) (Or.inl ⟨by rfl, fun w' hS => (by go_simp)⟩) s0 ?_
    try simp only [Go.Act.put, List.setIfInBounds_toArray, List.set_cons_zero, List.set_cons_succ]
    refine wpH_take (i := 2) (v := (.pointer (some ⟨m, 0, none⟩))) (some 28) rfl rfl (by kernel_rfl) (by kernel_rfl) (by kernel_rfl) (fun _ _ _ h => h) (Or.inl ⟨by rfl, fun w' hS => (by go_simp)⟩) s0 ?_
    try simp only [Go.Act.put, List.setIfInBounds_toArray, List.set_cons_zero, List.set_cons_succ]
    refine wpH_take (i := 3) (v := (.pointer (some ⟨w.heap.size, 2, none⟩))) (some 29) rfl rfl (by kernel_rfl) (by kernel_rfl) (by kernel_rfl) (fun _ _ _ h => h) (Or.inl ⟨by rfl, fun w' hS => (by go_simp)⟩) s0 ?_
    try simp only [Go.Act.put, List.setIfInBounds_toArray, List.set_cons_zero, List.set_cons_succ]
    refine wpH_take (i := 4) (v := (.agg #[.int .i64 x.2.1.1, .int .i64 x.2.1.2.1, .int .i64 x.2.1.2.2.1, .int .i64 x.2.1.2.2.2])) (some 30) rfl rfl (by kernel_rfl) (by kernel_rfl) (by kernel_rfl) (fun _ _ _ h => h) (Or.inl ⟨by rfl, fun w' hS => (by have z0 := sX2 _ hS; have z1 := sX3 _ hS; have z2 := sX4 _ hS; have z3 := sX5 _ hS; go_simp)⟩) s0 ?_
    try simp only [Go.Act.put, List.setIfInBounds_toArray, List.set_cons_zero, List.set_cons_succ]
    refine wpH_call (i := 5) (o := { dst := some 31, op := Op.call { callee := Callee.value (Operand.func 75), args := #[Operand.tmp 28, Operand.tmp 30], argTypes := #[28, 58] }, type := 4, pos := _, after := #[{ on := 2, ground := Ground.data }, { on := 4, ground := Ground.data }, { on := 1, ground := Ground.chain }, { on := 1, ground := Ground.guard }], guard := some (1, false) }) (by kernel_rfl) rfl (fun K' hK => ?_)
    rw [if_pos (by rfl)]
    go_simp
    refine (HKp.out _ s0).mono ?_
    rintro e w6 ⟨rfl, s1⟩
    refine hK.out _ _ s1 ?_
    clear hK
    try simp only [Go.Act.put, List.setIfInBounds_toArray, List.set_cons_zero, List.set_cons_succ]
    refine wpH_take (i := 6) (v := (.bool false)) (some 32) rfl rfl (by kernel_rfl) (by kernel_rfl) (by kernel_rfl) (fun _ _ _ h => h) (Or.inl ⟨by rfl, fun w' hS => (by go_simp)⟩) s1 ?_
    try simp only [Go.Act.put, List.setIfInBounds_toArray, List.set_cons_zero, List.set_cons_succ]
    refine wpH_take (i := 7) (v := (.bool false)) (some 33) rfl rfl (by kernel_rfl) (by kernel_rfl) (by kernel_rfl) (fun _ _ _ h => h) (Or.inl ⟨by rfl, fun w' hS => (by go_simp)⟩) s1 ?_
    try simp only [Go.Act.put, List.setIfInBounds_toArray, List.set_cons_zero, List.set_cons_succ]
    refine wpH_take (i := 8) (v := (.bool false)) (some 34) rfl rfl (by kernel_rfl) (by kernel_rfl) (by kernel_rfl) (fun _ _ _ h => h) (Or.inl ⟨by rfl, fun w' hS => (by go_simp)⟩) s1 ?_
    try simp only [Go.Act.put, List.setIfInBounds_toArray, List.set_cons_zero, List.set_cons_succ]
    refine wpH_take (i := 9) (v := (.pointer (some ⟨w.heap.size, 6, none⟩))) (some 35) rfl rfl (by kernel_rfl) (by kernel_rfl) (by kernel_rfl) (fun _ _ _ h => h) (Or.inl ⟨by rfl, fun w' hS => (by go_simp)⟩) s1 ?_
    try simp only [Go.Act.put, List.setIfInBounds_toArray, List.set_cons_zero, List.set_cons_succ]
    refine wpH_take (i := 10) (v := (.int .i64 x.2.2)) (some 36) rfl rfl (by kernel_rfl) (by kernel_rfl) (by kernel_rfl) (fun _ _ _ h => h) (Or.inl ⟨by rfl, fun w' hS => (by have z0 := sX6 _ hS; go_simp)⟩) s1 ?_
    try simp only [Go.Act.put, List.setIfInBounds_toArray, List.set_cons_zero, List.set_cons_succ]
    refine wpH_take (i := 11) (v := (.bool true)) (some 37) rfl rfl (by kernel_rfl) (by kernel_rfl) (by kernel_rfl) (fun _ _ _ h => h) (Or.inl ⟨by rfl, fun w' hS => (by go_simp)⟩) s1 ?_
    try simp only [Go.Act.put, List.setIfInBounds_toArray, List.set_cons_zero, List.set_cons_succ]
    refine wpH_take (i := 12) (v := (.bool true)) (some 38) rfl rfl (by kernel_rfl) (by kernel_rfl) (by kernel_rfl) (fun _ _ _ h => h) (Or.inl ⟨by rfl, fun w' hS => (by go_simp)⟩) s1 ?_
    try simp only [Go.Act.put, List.setIfInBounds_toArray, List.set_cons_zero, List.set_cons_succ]
    refine wpH_take (i := 13) (v := (.bool true)) (some 39) rfl rfl (by kernel_rfl) (by kernel_rfl) (by kernel_rfl) (fun _ _ _ h => h) (Or.inl ⟨by rfl, fun w' hS => (by go_simp)⟩) s1 ?_
    try simp only [Go.Act.put, List.setIfInBounds_toArray, List.set_cons_zero, List.set_cons_succ]
    refine wpH_take (i := 14) (v := undef) (some 40) rfl rfl (by kernel_rfl) (by kernel_rfl) (by kernel_rfl) (fun _ _ _ h => h) (Or.inr ⟨by rfl, rfl⟩) s1 ?_
    try simp only [Go.Act.put, List.setIfInBounds_toArray, List.set_cons_zero, List.set_cons_succ]
    refine wpH_take (i := 15) (v := undef) (some 41) rfl rfl (by kernel_rfl) (by kernel_rfl) (by kernel_rfl) (fun _ _ _ h => h) (Or.inr ⟨by rfl, rfl⟩) s1 ?_
    try simp only [Go.Act.put, List.setIfInBounds_toArray, List.set_cons_zero, List.set_cons_succ]
    refine wpH_take (i := 16) (v := undef) (some 42) rfl rfl (by kernel_rfl) (by kernel_rfl) (by kernel_rfl) (fun _ _ _ h => h) (Or.inr ⟨by rfl, rfl⟩) s1 ?_
    try simp only [Go.Act.put, List.setIfInBounds_toArray, List.set_cons_zero, List.set_cons_succ]
    refine wpH_take (i := 17) (v := undef) (some 43) rfl rfl (by kernel_rfl) (by kernel_rfl) (by kernel_rfl) (fun _ _ _ h => h) (Or.inr ⟨by rfl, rfl⟩) s1 ?_
    try simp only [Go.Act.put, List.setIfInBounds_toArray, List.set_cons_zero, List.set_cons_succ]
    refine wpH_take (i := 18) (v := undef) (some 44) rfl rfl (by kernel_rfl) (by kernel_rfl) (by kernel_rfl) (fun _ _ _ h => h) (Or.inr ⟨by rfl, rfl⟩) s1 ?_
    try simp only [Go.Act.put, List.setIfInBounds_toArray, List.set_cons_zero, List.set_cons_succ]
    refine wpH_take (i := 19) (v := undef) (some 45) rfl rfl (by kernel_rfl) (by kernel_rfl) (by kernel_rfl) (fun _ _ _ h => h) (Or.inr ⟨by rfl, rfl⟩) s1 ?_
    try simp only [Go.Act.put, List.setIfInBounds_toArray, List.set_cons_zero, List.set_cons_succ]
    refine wpH_take (i := 20) (v := undef) (some 46) rfl rfl (by kernel_rfl) (by kernel_rfl) (by kernel_rfl) (fun _ _ _ h => h) (Or.inr ⟨by rfl, rfl⟩) s1 ?_
    try simp only [Go.Act.put, List.setIfInBounds_toArray, List.set_cons_zero, List.set_cons_succ]
    refine wpH_take (i := 21) (v := (.bool true)) (some 47) rfl rfl (by kernel_rfl) (by kernel_rfl) (by kernel_rfl) (fun _ _ _ h => h) (Or.inl ⟨by rfl, fun w' hS => (by go_simp)⟩) s1 ?_
    try simp only [Go.Act.put, List.setIfInBounds_toArray, List.set_cons_zero, List.set_cons_succ]
    refine wpAnyH_done (by kernel_rfl) ?_ _
    have SE := hid s1
    clear sX0 sX1 sX2 sX3 sX4 sX5 sX6 sM7 s0 s1
    go_wp2
    go_ret
    exact ⟨rfl, TU.out.trans' SE.out⟩
set_option maxHeartbeats 4000000 in
set_option maxRecDepth 100000 in
theorem next40_D (w : World) (m b o : Nat) (G : List Nat) (c : Cf) (now : Int) (xs : List En) (h : Mb w m b o G c now xs) (x : En) (hk : Ok x.1) (hp : pairE x.1 x.2.1 = 0) (hf : fnd xs x.1 = none) (hkc : keepsC c x.2.1 = true) (ha : ¬ x.2.2 < 0) (hb : now < x.2.2) : Calls Tryz.prog 85 #[PT m, nv x] w fun e w' => e = .returned (.int .i64 1) ∧ Touch [] w w' := by
  obtain ⟨V, hV⟩ : ∃ V, V = w.alloc (.cells #[.int .u16 x.1.1, .string x.1.2, .int .i64 x.2.1.1, .int .i64 x.2.1.2.1, .int .i64 x.2.1.2.2.1, .int .i64 x.2.1.2.2.2, .int .i64 x.2.2] 60) := ⟨_, rfl⟩
  have TV : Hid (Touch [] w V) := hid (by rw [hV]; exact (Touch.refl _ _).alloc _)
  have HX : Hid (∀ w', Touch [] V w' → w'.cell? ⟨w.heap.size, 0, none⟩ = some (.int .u16 x.1.1) ∧ w'.cell? ⟨w.heap.size, 1, none⟩ = some (.string x.1.2) ∧ w'.cell? ⟨w.heap.size, 2, none⟩ = some (.int .i64 x.2.1.1) ∧ w'.cell? ⟨w.heap.size, 3, none⟩ = some (.int .i64 x.2.1.2.1) ∧ w'.cell? ⟨w.heap.size, 4, none⟩ = some (.int .i64 x.2.1.2.2.1) ∧ w'.cell? ⟨w.heap.size, 5, none⟩ = some (.int .i64 x.2.1.2.2.2) ∧ w'.cell? ⟨w.heap.size, 6, none⟩ = some (.int .i64 x.2.2)) := hid (fun w' t => by
    have := t.keep (k := w.heap.size) (by rw [hV]; exact heap_alloc_new w _) (by simp)
    simp [World.cell?, this])
  obtain ⟨x0, x1, x2, x3, x4, x5, x6⟩ := HX.out V (Touch.refl _ _)
  have HP := hid (pair46 V x.1 x.2.1)
  unfold kv ov at HP
  rw [hp] at HP
  clear hp
  have HKq : Hid (∀ wu w' : World, Mb wu m b o G c now xs → Touch [] wu w' → Calls Tryz.prog 75 #[.pointer (some ⟨m, 0, none⟩), .agg #[.int .i64 x.2.1.1, .int .i64 x.2.1.2.1, .int .i64 x.2.1.2.2.1, .int .i64 x.2.1.2.2.2]] w' fun e w'' => e = .returned (.bool (keepsC c x.2.1)) ∧ Touch [] wu w'') := hid (fun wu w' hu t => (keeps47 w' m c now b o (hu.keep0 t).md x.2.1).mono (by
    rintro e w'' ⟨rfl, t2⟩
    exact ⟨rfl, t.trans' t2⟩))
  rw [hkc] at HKq
  clear hkc
  unfold PT nv
  go_enter Tryz.func85, Tryz.ntmps85
  go_upto_region 1 with fail
  rw [← hV]
  clear hV
  go_upto_region 4 with (go_at_call 74; refine HP.out.mono ?_; rintro e w2 ⟨rfl, t2⟩; have T2 := hid (TV.out.trans' t2); have T2v := hid t2; clear t2)
  clear x0 x1 x2 x3 x4 x5 x6
  have sA : ∀ w', Touch [] w2 w' → w'.cell? ⟨m, 8, none⟩ = some (.map (some b)) := fun w' t => (h.keep0 (T2.out.trans' t)).md.cs.c8
  have sB : ∀ w', Touch [] w2 w' → w'.cell? ⟨w.heap.size, 0, none⟩ = some (.int .u16 x.1.1) := fun w' t => (HX.out w' (T2v.out.trans' t)).1
  have sC : ∀ w', Touch [] w2 w' → w'.cell? ⟨w.heap.size, 1, none⟩ = some (.string x.1.2) := fun w' t => (HX.out w' (T2v.out.trans' t)).2.1
  have sL : ∀ w', Touch [] w2 w' → (Instr.lookup 141 (.map (some b)) (.agg #[.int .u16 x.1.1, .string x.1.2]) true).run Tryz.prog w' = .ok (.tuple #[.agg #[.int .i64 0, .int .i64 0, .int .i64 0, .int .i64 0, .int .i64 0], .bool false]) w' := fun w' t => by
    have := (h.keep0 (T2.out.trans' t)).look hk
    rw [hf] at this
    exact this
  obtain ⟨U, hU⟩ : ∃ U, U = (w2.alloc (.cells #[.int .i64 0, .int .i64 0, .int .i64 0, .int .i64 0, .int .i64 0] 147)).drew := ⟨_, rfl⟩
  have TU2 : Touch [] w2 U := by rw [hU]; exact ((Touch.refl _ _).alloc _).drew
  have TU : Hid (Touch [] w U) := hid (T2.out.trans' TU2)
  have HM := hid (h.keep0 TU.out)
  have HXU := hid (fun w' (t : Touch [] U w') => HX.out w' ((T2v.out.trans' TU2).trans' t))
  have t0 : Touch [] w2 w2.drew := (Touch.refl _ _).drew
  go_region_held3 (fun w' => Touch [] w2 w') (repeat (first | assumption | exact Touch.refl _ _ | apply Touch.alloc | apply Touch.drew | (refine Touch.setCell ?_ (Or.inr (by simp)) _))) (fail)
  all_goals
    clear sA sB sC sL t0
    rw [← hU]
    clear hU TU2
    go_upto_region 5 with fail
    have sM7 : ∀ w', Touch [] U w' → w'.cell? ⟨m, 7, none⟩ = some (.int .i64 now) := fun w' t => (HM.out.keep0 t).md.cs.c7
    have sX0 : ∀ w', Touch [] U w' → w'.cell? ⟨w.heap.size, 0, none⟩ = some (.int .u16 x.1.1) := fun w' t => (HXU.out w' t).1
    have sX1 : ∀ w', Touch [] U w' → w'.cell? ⟨w.heap.size, 1, none⟩ = some (.string x.1.2) := fun w' t => (HXU.out w' t).2.1
    have sX2 : ∀ w', Touch [] U w' → w'.cell? ⟨w.heap.size, 2, none⟩ = some (.int .i64 x.2.1.1) := fun w' t => (HXU.out w' t).2.2.1
    have sX3 : ∀ w', Touch [] U w' → w'.cell? ⟨w.heap.size, 3, none⟩ = some (.int .i64 x.2.1.2.1) := fun w' t => (HXU.out w' t).2.2.2.1
    have sX4 : ∀ w', Touch [] U w' → w'.cell? ⟨w.heap.size, 4, none⟩ = some (.int .i64 x.2.1.2.2.1) := fun w' t => (HXU.out w' t).2.2.2.2.1
    have sX5 : ∀ w', Touch [] U w' → w'.cell? ⟨w.heap.size, 5, none⟩ = some (.int .i64 x.2.1.2.2.2) := fun w' t => (HXU.out w' t).2.2.2.2.2.1
    have sX6 : ∀ w', Touch [] U w' → w'.cell? ⟨w.heap.size, 6, none⟩ = some (.int .i64 x.2.2) := fun w' t => (HXU.out w' t).2.2.2.2.2.2
    have HKp := hid (fun w' t => HKq.out U w' HM.out t)
    have s0 : Touch [] U U.drew := (Touch.refl _ _).drew
    refine wp_region_H (S := fun w' => Touch [] U w') (by kernel_rfl) ?_
    refine wpH_take (i := 0) (v := (.bool false)) (some 26) rfl rfl (by kernel_rfl) (by kernel_rfl) (by kernel_rfl) (fun _ _ _ h => h) (Or.inl ⟨by rfl, fun w' hS => (by go_simp)⟩) s0 ?_
    try simp only [Go.Act.put, List.setIfInBounds_toArray, List.set_cons_zero, List.set_cons_succ]
    refine wpH_take (i := 1) (v := (.bool false)) (some 27) rfl rfl (by kernel_rfl) (by kernel_rfl) (by kernel_rfl) (fun _ _ _ h => h) (Or.inl ⟨by rfl, fun w' hS => (by go_simp)⟩) s0 ?_
    try simp only [Go.Act.put, List.setIfInBounds_toArray, List.set_cons_zero, List.set_cons_succ]
    refine wpH_take (i := 2) (v := (.pointer (some ⟨m, 0, none⟩))) (some 28) rfl rfl (by kernel_rfl) (by kernel_rfl) (by kernel_rfl) (fun _ _ _ h => h) (Or.inl ⟨by rfl, fun w' hS => (by go_simp)⟩) s0 ?_
    try simp only [Go.Act.put, List.setIfInBounds_toArray, List.set_cons_zero, List.set_cons_succ]
    refine wpH_take (i := 3) (v := (.pointer (some ⟨w.heap.size, 2, none⟩))) (some 29) rfl rfl (by kernel_rfl) (by kernel_rfl) (by kernel_rfl) (fun _ _ _ h => h) (Or.inl ⟨by rfl, fun w' hS => (by go_simp)⟩) s0 ?_
    try simp only [Go.Act.put, List.setIfInBounds_toArray, List.set_cons_zero, List.set_cons_succ]
    refine wpH_take (i := 4) (v := (.agg #[.int .i64 x.2.1.1, .int .i64 x.2.1.2.1, .int .i64 x.2.1.2.2.1, .int .i64 x.2.1.2.2.2])) (some 30) rfl rfl (by kernel_rfl) (by kernel_rfl) (by kernel_rfl) (fun _ _ _ h => h) (Or.inl ⟨by rfl, fun w' hS => (by have z0 := sX2 _ hS; have z1 := sX3 _ hS; have z2 := sX4 _ hS; have z3 := sX5 _ hS; go_simp)⟩) s0 ?_
    try simp only [Go.Act.put, List.setIfInBounds_toArray, List.set_cons_zero, List.set_cons_succ]
    refine wpH_call (i := 5) (o := { dst := some 31, op := Op.call { callee := Callee.value (Operand.func 75), args := #[Operand.tmp 28, Operand.tmp 30], argTypes := #[28, 58] }, type := 4, pos := _, after := #[{ on := 2, ground := Ground.data }, { on := 4, ground := Ground.data }, { on := 1, ground := Ground.chain }, { on := 1, ground := Ground.guard }], guard := some (1, false) }) (by kernel_rfl) rfl (fun K' hK => ?_)
    rw [if_pos (by rfl)]
    go_simp
    refine (HKp.out _ s0).mono ?_
    rintro e w6 ⟨rfl, s1⟩
    refine hK.out _ _ s1 ?_
    clear hK
    try simp only [Go.Act.put, List.setIfInBounds_toArray, List.set_cons_zero, List.set_cons_succ]
    refine wpH_take (i := 6) (v := (.bool false)) (some 32) rfl rfl (by kernel_rfl) (by kernel_rfl) (by kernel_rfl) (fun _ _ _ h => h) (Or.inl ⟨by rfl, fun w' hS => (by go_simp)⟩) s1 ?_
    try simp only [Go.Act.put, List.setIfInBounds_toArray, List.set_cons_zero, List.set_cons_succ]
    refine wpH_take (i := 7) (v := (.bool false)) (some 33) rfl rfl (by kernel_rfl) (by kernel_rfl) (by kernel_rfl) (fun _ _ _ h => h) (Or.inl ⟨by rfl, fun w' hS => (by go_simp)⟩) s1 ?_
    try simp only [Go.Act.put, List.setIfInBounds_toArray, List.set_cons_zero, List.set_cons_succ]
    refine wpH_take (i := 8) (v := (.bool false)) (some 34) rfl rfl (by kernel_rfl) (by kernel_rfl) (by kernel_rfl) (fun _ _ _ h => h) (Or.inl ⟨by rfl, fun w' hS => (by go_simp)⟩) s1 ?_
    try simp only [Go.Act.put, List.setIfInBounds_toArray, List.set_cons_zero, List.set_cons_succ]
    refine wpH_take (i := 9) (v := (.pointer (some ⟨w.heap.size, 6, none⟩))) (some 35) rfl rfl (by kernel_rfl) (by kernel_rfl) (by kernel_rfl) (fun _ _ _ h => h) (Or.inl ⟨by rfl, fun w' hS => (by go_simp)⟩) s1 ?_
    try simp only [Go.Act.put, List.setIfInBounds_toArray, List.set_cons_zero, List.set_cons_succ]
    refine wpH_take (i := 10) (v := (.int .i64 x.2.2)) (some 36) rfl rfl (by kernel_rfl) (by kernel_rfl) (by kernel_rfl) (fun _ _ _ h => h) (Or.inl ⟨by rfl, fun w' hS => (by have z0 := sX6 _ hS; go_simp)⟩) s1 ?_
    try simp only [Go.Act.put, List.setIfInBounds_toArray, List.set_cons_zero, List.set_cons_succ]
    refine wpH_take (i := 11) (v := (.bool false)) (some 37) rfl rfl (by kernel_rfl) (by kernel_rfl) (by kernel_rfl) (fun _ _ _ h => h) (Or.inl ⟨by rfl, fun w' hS => (by go_simp)⟩) s1 ?_
    try simp only [Go.Act.put, List.setIfInBounds_toArray, List.set_cons_zero, List.set_cons_succ]
    refine wpH_take (i := 12) (v := (.bool false)) (some 38) rfl rfl (by kernel_rfl) (by kernel_rfl) (by kernel_rfl) (fun _ _ _ h => h) (Or.inl ⟨by rfl, fun w' hS => (by go_simp)⟩) s1 ?_
    try simp only [Go.Act.put, List.setIfInBounds_toArray, List.set_cons_zero, List.set_cons_succ]
    refine wpH_take (i := 13) (v := (.bool false)) (some 39) rfl rfl (by kernel_rfl) (by kernel_rfl) (by kernel_rfl) (fun _ _ _ h => h) (Or.inl ⟨by rfl, fun w' hS => (by go_simp)⟩) s1 ?_
    try simp only [Go.Act.put, List.setIfInBounds_toArray, List.set_cons_zero, List.set_cons_succ]
    refine wpH_take (i := 14) (v := (.pointer (some ⟨w.heap.size, 6, none⟩))) (some 40) rfl rfl (by kernel_rfl) (by kernel_rfl) (by kernel_rfl) (fun _ _ _ h => h) (Or.inl ⟨by rfl, fun w' hS => (by go_simp)⟩) s1 ?_
    try simp only [Go.Act.put, List.setIfInBounds_toArray, List.set_cons_zero, List.set_cons_succ]
    refine wpH_take (i := 15) (v := (.int .i64 x.2.2)) (some 41) rfl rfl (by kernel_rfl) (by kernel_rfl) (by kernel_rfl) (fun _ _ _ h => h) (Or.inl ⟨by rfl, fun w' hS => (by have z0 := sX6 _ hS; go_simp)⟩) s1 ?_
    try simp only [Go.Act.put, List.setIfInBounds_toArray, List.set_cons_zero, List.set_cons_succ]
    refine wpH_take (i := 16) (v := (.pointer (some ⟨m, 0, none⟩))) (some 42) rfl rfl (by kernel_rfl) (by kernel_rfl) (by kernel_rfl) (fun _ _ _ h => h) (Or.inl ⟨by rfl, fun w' hS => (by go_simp)⟩) s1 ?_
    try simp only [Go.Act.put, List.setIfInBounds_toArray, List.set_cons_zero, List.set_cons_succ]
    refine wpH_take (i := 17) (v := (.pointer (some ⟨m, 0, none⟩))) (some 43) rfl rfl (by kernel_rfl) (by kernel_rfl) (by kernel_rfl) (fun _ _ _ h => h) (Or.inl ⟨by rfl, fun w' hS => (by go_simp)⟩) s1 ?_
    try simp only [Go.Act.put, List.setIfInBounds_toArray, List.set_cons_zero, List.set_cons_succ]
    refine wpH_take (i := 18) (v := (.pointer (some ⟨m, 7, none⟩))) (some 44) rfl rfl (by kernel_rfl) (by kernel_rfl) (by kernel_rfl) (fun _ _ _ h => h) (Or.inl ⟨by rfl, fun w' hS => (by go_simp)⟩) s1 ?_
    try simp only [Go.Act.put, List.setIfInBounds_toArray, List.set_cons_zero, List.set_cons_succ]
    refine wpH_take (i := 19) (v := (.int .i64 now)) (some 45) rfl rfl (by kernel_rfl) (by kernel_rfl) (by kernel_rfl) (fun _ _ _ h => h) (Or.inl ⟨by rfl, fun w' hS => (by have z0 := sM7 _ hS; go_simp)⟩) s1 ?_
    try simp only [Go.Act.put, List.setIfInBounds_toArray, List.set_cons_zero, List.set_cons_succ]
    refine wpH_take (i := 20) (v := (.bool true)) (some 46) rfl rfl (by kernel_rfl) (by kernel_rfl) (by kernel_rfl) (fun _ _ _ h => h) (Or.inl ⟨by rfl, fun w' hS => (by go_simp)⟩) s1 ?_
    try simp only [Go.Act.put, List.setIfInBounds_toArray, List.set_cons_zero, List.set_cons_succ]
    refine wpH_take (i := 21) (v := (.bool true)) (some 47) rfl rfl (by kernel_rfl) (by kernel_rfl) (by kernel_rfl) (fun _ _ _ h => h) (Or.inl ⟨by rfl, fun w' hS => (by go_simp)⟩) s1 ?_
    try simp only [Go.Act.put, List.setIfInBounds_toArray, List.set_cons_zero, List.set_cons_succ]
    refine wpAnyH_done (by kernel_rfl) ?_ _
    have SE := hid s1
    clear sX0 sX1 sX2 sX3 sX4 sX5 sX6 sM7 s0 s1
    go_wp2
    go_ret
    exact ⟨rfl, TU.out.trans' SE.out⟩
set_option maxHeartbeats 4000000 in
set_option maxRecDepth 100000 in
theorem next40_E (w : World) (m b o : Nat) (G : List Nat) (c : Cf) (now : Int) (xs : List En) (h : Mb w m b o G c now xs) (x : En) (hk : Ok x.1) (hp : pairE x.1 x.2.1 = 0) (hf : fnd xs x.1 = none) (hkc : keepsC c x.2.1 = true) (ha : ¬ x.2.2 < 0) (hb : ¬ now < x.2.2) : Calls Tryz.prog 85 #[PT m, nv x] w fun e w' => e = .returned (.int .i64 0) ∧ Touch [] w w' := by
  obtain ⟨V, hV⟩ : ∃ V, V = w.alloc (.cells #[.int .u16 x.1.1, .string x.1.2, .int .i64 x.2.1.1, .int .i64 x.2.1.2.1, .int .i64 x.2.1.2.2.1, .int .i64 x.2.1.2.2.2, .int .i64 x.2.2] 60) := ⟨_, rfl⟩
  have TV : Hid (Touch [] w V) := hid (by rw [hV]; exact (Touch.refl _ _).alloc _)
  have HX : Hid (∀ w', Touch [] V w' → w'.cell? ⟨w.heap.size, 0, none⟩ = some (.int .u16 x.1.1) ∧ w'.cell? ⟨w.heap.size, 1, none⟩ = some (.string x.1.2) ∧ w'.cell? ⟨w.heap.size, 2, none⟩ = some (.int .i64 x.2.1.1) ∧ w'.cell? ⟨w.heap.size, 3, none⟩ = some (.int .i64 x.2.1.2.1) ∧ w'.cell? ⟨w.heap.size, 4, none⟩ = some (.int .i64 x.2.1.2.2.1) ∧ w'.cell? ⟨w.heap.size, 5, none⟩ = some (.int .i64 x.2.1.2.2.2) ∧ w'.cell? ⟨w.heap.size, 6, none⟩ = some (.int .i64 x.2.2)) := hid (fun w' t => by
    have := t.keep (k := w.heap.size) (by rw [hV]; exact heap_alloc_new w _) (by simp)
    simp [World.cell?, this])
  obtain ⟨x0, x1, x2, x3, x4, x5, x6⟩ := HX.out V (Touch.refl _ _)
  have HP := hid (pair46 V x.1 x.2.1)
  unfold kv ov at HP
  rw [hp] at HP
  clear hp
  have HKq : Hid (∀ wu w' : World, Mb wu m b o G c now xs → Touch [] wu w' → Calls Tryz.prog 75 #[.pointer (some ⟨m, 0, none⟩), .agg #[.int .i64 x.2.1.1, .int .i64 x.2.1.2.1, .int .i64 x.2.1.2.2.1, .int .i64 x.2.1.2.2.2]] w' fun e w'' => e = .returned (.bool (keepsC c x.2.1)) ∧ Touch [] wu w'') := hid (fun wu w' hu t => (keeps47 w' m c now b o (hu.keep0 t).md x.2.1).mono (by
    rintro e w'' ⟨rfl, t2⟩
    exact ⟨rfl, t.trans' t2⟩))
  rw [hkc] at HKq
  clear hkc
  unfold PT nv
  go_enter Tryz.func85, Tryz.ntmps85
  go_upto_region 1 with fail
  rw [← hV]
  clear hV
  go_upto_region 4 with (go_at_call 74; refine HP.out.mono ?_; rintro e w2 ⟨rfl, t2⟩; have T2 := hid (TV.out.trans' t2); have T2v := hid t2; clear t2)
  clear x0 x1 x2 x3 x4 x5 x6
  have sA : ∀ w', Touch [] w2 w' → w'.cell? ⟨m, 8, none⟩ = some (.map (some b)) := fun w' t => (h.keep0 (T2.out.trans' t)).md.cs.c8
  have sB : ∀ w', Touch [] w2 w' → w'.cell? ⟨w.heap.size, 0, none⟩ = some (.int .u16 x.1.1) := fun w' t => (HX.out w' (T2v.out.trans' t)).1
  have sC : ∀ w', Touch [] w2 w' → w'.cell? ⟨w.heap.size, 1, none⟩ = some (.string x.1.2) := fun w' t => (HX.out w' (T2v.out.trans' t)).2.1
  have sL : ∀ w', Touch [] w2 w' → (Instr.lookup 141 (.map (some b)) (.agg #[.int .u16 x.1.1, .string x.1.2]) true).run Tryz.prog w' = .ok (.tuple #[.agg #[.int .i64 0, .int .i64 0, .int .i64 0, .int .i64 0, .int .i64 0], .bool false]) w' := fun w' t => by
    have := (h.keep0 (T2.out.trans' t)).look hk
    rw [hf] at this
    exact this
  obtain ⟨U, hU⟩ : ∃ U, U = (w2.alloc (.cells #[.int .i64 0, .int .i64 0, .int .i64 0, .int .i64 0, .int .i64 0] 147)).drew := ⟨_, rfl⟩
  have TU2 : Touch [] w2 U := by rw [hU]; exact ((Touch.refl _ _).alloc _).drew
  have TU : Hid (Touch [] w U) := hid (T2.out.trans' TU2)
  have HM := hid (h.keep0 TU.out)
  have HXU := hid (fun w' (t : Touch [] U w') => HX.out w' ((T2v.out.trans' TU2).trans' t))
  have t0 : Touch [] w2 w2.drew := (Touch.refl _ _).drew
  go_region_held3 (fun w' => Touch [] w2 w') (repeat (first | assumption | exact Touch.refl _ _ | apply Touch.alloc | apply Touch.drew | (refine Touch.setCell ?_ (Or.inr (by simp)) _))) (fail)
  all_goals
    clear sA sB sC sL t0
    rw [← hU]
    clear hU TU2
    go_upto_region 5 with fail
    have sM7 : ∀ w', Touch [] U w' → w'.cell? ⟨m, 7, none⟩ = some (.int .i64 now) := fun w' t => (HM.out.keep0 t).md.cs.c7
    have sX0 : ∀ w', Touch [] U w' → w'.cell? ⟨w.heap.size, 0, none⟩ = some (.int .u16 x.1.1) := fun w' t => (HXU.out w' t).1
    have sX1 : ∀ w', Touch [] U w' → w'.cell? ⟨w.heap.size, 1, none⟩ = some (.string x.1.2) := fun w' t => (HXU.out w' t).2.1
    have sX2 : ∀ w', Touch [] U w' → w'.cell? ⟨w.heap.size, 2, none⟩ = some (.int .i64 x.2.1.1) := fun w' t => (HXU.out w' t).2.2.1
    have sX3 : ∀ w', Touch [] U w' → w'.cell? ⟨w.heap.size, 3, none⟩ = some (.int .i64 x.2.1.2.1) := fun w' t => (HXU.out w' t).2.2.2.1
    have sX4 : ∀ w', Touch [] U w' → w'.cell? ⟨w.heap.size, 4, none⟩ = some (.int .i64 x.2.1.2.2.1) := fun w' t => (HXU.out w' t).2.2.2.2.1
    have sX5 : ∀ w', Touch [] U w' → w'.cell? ⟨w.heap.size, 5, none⟩ = some (.int .i64 x.2.1.2.2.2) := fun w' t => (HXU.out w' t).2.2.2.2.2.1
    have sX6 : ∀ w', Touch [] U w' → w'.cell? ⟨w.heap.size, 6, none⟩ = some (.int .i64 x.2.2) := fun w' t => (HXU.out w' t).2.2.2.2.2.2
    have HKp := hid (fun w' t => HKq.out U w' HM.out t)
    have s0 : Touch [] U U.drew := (Touch.refl _ _).drew
    refine wp_region_H (S := fun w' => Touch [] U w') (by kernel_rfl) ?_
    refine wpH_take (i := 0) (v := (.bool false)) (some 26) rfl rfl (by kernel_rfl) (by kernel_rfl) (by kernel_rfl) (fun _ _ _ h => h) (Or.inl ⟨by rfl, fun w' hS => (by go_simp)⟩) s0 ?_
    try simp only [Go.Act.put, List.setIfInBounds_toArray, List.set_cons_zero, List.set_cons_succ]
    refine wpH_take (i := 1) (v := (.bool false)) (some 27) rfl rfl (by kernel_rfl) (by kernel_rfl) (by kernel_rfl) (fun _ _ _ h => h) (Or.inl ⟨by rfl, fun w' hS => (by go_simp)⟩) s0 ?_
    try simp only [Go.Act.put, List.setIfInBounds_toArray, List.set_cons_zero, List.set_cons_succ]
    refine wpH_take (i := 2) (v := (.pointer (some ⟨m, 0, none⟩))) (some 28) rfl rfl (by kernel_rfl) (by kernel_rfl) (by kernel_rfl) (fun _ _ _ h => h) (Or.inl ⟨by rfl, fun w' hS => (by go_simp)⟩) s0 ?_
    try simp only [Go.Act.put, List.setIfInBounds_toArray, List.set_cons_zero, List.set_cons_succ]
    refine wpH_take (i := 3) (v := (.pointer (some ⟨w.heap.size, 2, none⟩))) (some 29) rfl rfl (by kernel_rfl) (by kernel_rfl) (by kernel_rfl) (fun _ _ _ h => h) (Or.inl ⟨by rfl, fun w' hS => (by go_simp)⟩) s0 ?_
    try simp only [Go.Act.put, List.setIfInBounds_toArray, List.set_cons_zero, List.set_cons_succ]
    refine wpH_take (i := 4) (v := (.agg #[.int .i64 x.2.1.1, .int .i64 x.2.1.2.1, .int .i64 x.2.1.2.2.1, .int .i64 x.2.1.2.2.2])) (some 30) rfl rfl (by kernel_rfl) (by kernel_rfl) (by kernel_rfl) (fun _ _ _ h => h) (Or.inl ⟨by rfl, fun w' hS => (by have z0 := sX2 _ hS; have z1 := sX3 _ hS; have z2 := sX4 _ hS; have z3 := sX5 _ hS; go_simp)⟩) s0 ?_
    try simp only [Go.Act.put, List.setIfInBounds_toArray, List.set_cons_zero, List.set_cons_succ]
    refine wpH_call (i := 5) (o := { dst := some 31, op := Op.call { callee := Callee.value (Operand.func 75), args := #[Operand.tmp 28, Operand.tmp 30], argTypes := #[28, 58] }, type := 4, pos := _, after := #[{ on := 2, ground := Ground.data }, { on := 4, ground := Ground.data }, { on := 1, ground := Ground.chain }, { on := 1, ground := Ground.guard }], guard := some (1, false) }) (by kernel_rfl) rfl (fun K' hK => ?_)
    rw [if_pos (by rfl)]
    go_simp
    refine (HKp.out _ s0).mono ?_
    rintro e w6 ⟨rfl, s1⟩
    refine hK.out _ _ s1 ?_
    clear hK
    try simp only [Go.Act.put, List.setIfInBounds_toArray, List.set_cons_zero, List.set_cons_succ]
    refine wpH_take (i := 6) (v := (.bool false)) (some 32) rfl rfl (by kernel_rfl) (by kernel_rfl) (by kernel_rfl) (fun _ _ _ h => h) (Or.inl ⟨by rfl, fun w' hS => (by go_simp)⟩) s1 ?_
    try simp only [Go.Act.put, List.setIfInBounds_toArray, List.set_cons_zero, List.set_cons_succ]
    refine wpH_take (i := 7) (v := (.bool false)) (some 33) rfl rfl (by kernel_rfl) (by kernel_rfl) (by kernel_rfl) (fun _ _ _ h => h) (Or.inl ⟨by rfl, fun w' hS => (by go_simp)⟩) s1 ?_
    try simp only [Go.Act.put, List.setIfInBounds_toArray, List.set_cons_zero, List.set_cons_succ]
    refine wpH_take (i := 8) (v := (.bool false)) (some 34) rfl rfl (by kernel_rfl) (by kernel_rfl) (by kernel_rfl) (fun _ _ _ h => h) (Or.inl ⟨by rfl, fun w' hS => (by go_simp)⟩) s1 ?_
    try simp only [Go.Act.put, List.setIfInBounds_toArray, List.set_cons_zero, List.set_cons_succ]
    refine wpH_take (i := 9) (v := (.pointer (some ⟨w.heap.size, 6, none⟩))) (some 35) rfl rfl (by kernel_rfl) (by kernel_rfl) (by kernel_rfl) (fun _ _ _ h => h) (Or.inl ⟨by rfl, fun w' hS => (by go_simp)⟩) s1 ?_
    try simp only [Go.Act.put, List.setIfInBounds_toArray, List.set_cons_zero, List.set_cons_succ]
    refine wpH_take (i := 10) (v := (.int .i64 x.2.2)) (some 36) rfl rfl (by kernel_rfl) (by kernel_rfl) (by kernel_rfl) (fun _ _ _ h => h) (Or.inl ⟨by rfl, fun w' hS => (by have z0 := sX6 _ hS; go_simp)⟩) s1 ?_
    try simp only [Go.Act.put, List.setIfInBounds_toArray, List.set_cons_zero, List.set_cons_succ]
    refine wpH_take (i := 11) (v := (.bool false)) (some 37) rfl rfl (by kernel_rfl) (by kernel_rfl) (by kernel_rfl) (fun _ _ _ h => h) (Or.inl ⟨by rfl, fun w' hS => (by go_simp)⟩) s1 ?_
    try simp only [Go.Act.put, List.setIfInBounds_toArray, List.set_cons_zero, List.set_cons_succ]
    refine wpH_take (i := 12) (v := (.bool false)) (some 38) rfl rfl (by kernel_rfl) (by kernel_rfl) (by kernel_rfl) (fun _ _ _ h => h) (Or.inl ⟨by rfl, fun w' hS => (by go_simp)⟩) s1 ?_
    try simp only [Go.Act.put, List.setIfInBounds_toArray, List.set_cons_zero, List.set_cons_succ]
    refine wpH_take (i := 13) (v := (.bool false)) (some 39) rfl rfl (by kernel_rfl) (by kernel_rfl) (by kernel_rfl) (fun _ _ _ h => h) (Or.inl ⟨by rfl, fun w' hS => (by go_simp)⟩) s1 ?_
    try simp only [Go.Act.put, List.setIfInBounds_toArray, List.set_cons_zero, List.set_cons_succ]
    refine wpH_take (i := 14) (v := (.pointer (some ⟨w.heap.size, 6, none⟩))) (some 40) rfl rfl (by kernel_rfl) (by kernel_rfl) (by kernel_rfl) (fun _ _ _ h => h) (Or.inl ⟨by rfl, fun w' hS => (by go_simp)⟩) s1 ?_
    try simp only [Go.Act.put, List.setIfInBounds_toArray, List.set_cons_zero, List.set_cons_succ]
    refine wpH_take (i := 15) (v := (.int .i64 x.2.2)) (some 41) rfl rfl (by kernel_rfl) (by kernel_rfl) (by kernel_rfl) (fun _ _ _ h => h) (Or.inl ⟨by rfl, fun w' hS => (by have z0 := sX6 _ hS; go_simp)⟩) s1 ?_
    try simp only [Go.Act.put, List.setIfInBounds_toArray, List.set_cons_zero, List.set_cons_succ]
    refine wpH_take (i := 16) (v := (.pointer (some ⟨m, 0, none⟩))) (some 42) rfl rfl (by kernel_rfl) (by kernel_rfl) (by kernel_rfl) (fun _ _ _ h => h) (Or.inl ⟨by rfl, fun w' hS => (by go_simp)⟩) s1 ?_
    try simp only [Go.Act.put, List.setIfInBounds_toArray, List.set_cons_zero, List.set_cons_succ]
    refine wpH_take (i := 17) (v := (.pointer (some ⟨m, 0, none⟩))) (some 43) rfl rfl (by kernel_rfl) (by kernel_rfl) (by kernel_rfl) (fun _ _ _ h => h) (Or.inl ⟨by rfl, fun w' hS => (by go_simp)⟩) s1 ?_
    try simp only [Go.Act.put, List.setIfInBounds_toArray, List.set_cons_zero, List.set_cons_succ]
    refine wpH_take (i := 18) (v := (.pointer (some ⟨m, 7, none⟩))) (some 44) rfl rfl (by kernel_rfl) (by kernel_rfl) (by kernel_rfl) (fun _ _ _ h => h) (Or.inl ⟨by rfl, fun w' hS => (by go_simp)⟩) s1 ?_
    try simp only [Go.Act.put, List.setIfInBounds_toArray, List.set_cons_zero, List.set_cons_succ]
    refine wpH_take (i := 19) (v := (.int .i64 now)) (some 45) rfl rfl (by kernel_rfl) (by kernel_rfl) (by kernel_rfl) (fun _ _ _ h => h) (Or.inl ⟨by rfl, fun w' hS => (by have z0 := sM7 _ hS; go_simp)⟩) s1 ?_
    try simp only [Go.Act.put, List.setIfInBounds_toArray, List.set_cons_zero, List.set_cons_succ]
    refine wpH_take (i := 20) (v := (.bool false)) (some 46) rfl rfl (by kernel_rfl) (by kernel_rfl) (by kernel_rfl) (fun _ _ _ h => h) (Or.inl ⟨by rfl, fun w' hS => (by go_simp)⟩) s1 ?_
    try simp only [Go.Act.put, List.setIfInBounds_toArray, List.set_cons_zero, List.set_cons_succ]
    refine wpH_take (i := 21) (v := (.bool false)) (some 47) rfl rfl (by kernel_rfl) (by kernel_rfl) (by kernel_rfl) (fun _ _ _ h => h) (Or.inl ⟨by rfl, fun w' hS => (by go_simp)⟩) s1 ?_
    try simp only [Go.Act.put, List.setIfInBounds_toArray, List.set_cons_zero, List.set_cons_succ]
    refine wpAnyH_done (by kernel_rfl) ?_ _
    have SE := hid s1
    clear sX0 sX1 sX2 sX3 sX4 sX5 sX6 sM7 s0 s1
    go_wp2
    go_ret
    exact ⟨rfl, TU.out.trans' SE.out⟩
theorem next40 (w : World) (m : Nat) (F : List Nat) (c : Cf) (now : Int) (xs : List En) (h : Mq w m F c now xs) (x : En) (hk : Ok x.1) : Calls Tryz.prog 85 #[PT m, nv x] w fun e w' => e = .returned (.int .i64 (nxE c now xs x)) ∧ Touch [] w w' := by
  obtain ⟨b, o, G, rfl, h⟩ := h
  unfold nxE
  by_cases hp : pairE x.1 x.2.1 = 0
  · rw [if_neg (by simp [hp])]
    cases hf : fnd xs x.1 with
    | some v => rw [if_pos (by simp)]; exact next40_some w m b o G c now xs h x hk hp v hf
    | none =>
      cases hkc : keepsC c x.2.1 with
      | false => rw [if_pos (by simp)]; exact next40_B w m b o G c now xs h x hk hp hf hkc
      | true =>
        by_cases ha : x.2.2 < 0
        · rw [if_pos (by simp [ha])]; exact next40_C w m b o G c now xs h x hk hp hf hkc ha
        · by_cases hb : now < x.2.2
          · rw [if_pos (by simp [hb])]; exact next40_D w m b o G c now xs h x hk hp hf hkc ha hb
          · rw [if_neg (by simp; omega)]; exact next40_E w m b o G c now xs h x hk hp hf hkc ha hb
  · rw [if_pos hp]; exact next40_pair w m b o G c now xs h x hk hp
end Go.Proofs.YtpefbmheblfbeaaGreat.Me
/- Contracts of Check and the document's Check; no conditions. -/
namespace Go.Proofs.YtpefbmheblfbeaaGreat.Me
open Go.RowKit Go.Sort Go.Maps Go.ChangeMaps Go.WideMaps
set_option maxRecDepth 100000
set_option linter.unusedVariables false
set_option linter.unusedSimpArgs false
set_option maxHeartbeats 4000000 in
theorem check12 (w : World) (c : Cf) : Calls Tryz.prog 121 #[cv c] w fun e w' => e = .returned (.int .i64 (if okC c then 0 else 100)) ∧ Touch [] w w' := by
  obtain ⟨t, n, s, e, f, b, d⟩ := c
  unfold cv okC
  simp only
  have mn : ∀ (w : World) (ts : Array TypeId) (ty : TypeId), (Builtin.min_ ts ty #[.int .i64 t, .int .i64 n, .int .i64 s, .int .i64 d]).run Tryz.prog w = .ok (.int .i64 (if d < (if s < (if n < t then n else t) then s else (if n < t then n else t)) then d else (if s < (if n < t then n else t) then s else (if n < t then n else t)))) w := fun w ts ty => by simp [Builtin.min_, Builtin.min2]
  have HM : Hid (0 ≤ (if d < (if s < (if n < t then n else t) then s else (if n < t then n else t)) then d else (if s < (if n < t then n else t) then s else (if n < t then n else t))) ↔ 0 ≤ t ∧ 0 ≤ n ∧ 0 ≤ s ∧ 0 ≤ d) := by
    show _ ↔ _
    repeat' split
    all_goals omega
  generalize (if d < (if s < (if n < t then n else t) then s else (if n < t then n else t)) then d else (if s < (if n < t then n else t) then s else (if n < t then n else t))) = M at *
  by_cases h0 : 0 ≤ M
  rotate_left
  · rw [decide_eq_false (by have := HM.out; omega)]
    go_enter Tryz.func121, Tryz.ntmps121
    go_wp2
    go_ret
    exact ⟨rfl, by repeat (first | exact Touch.refl _ _ | apply Touch.alloc)⟩
  by_cases h1 : 0 ≤ e
  rotate_left
  · rw [decide_eq_false (by have := HM.out; omega)]
    go_enter Tryz.func121, Tryz.ntmps121
    go_wp2
    go_ret
    exact ⟨rfl, by repeat (first | exact Touch.refl _ _ | apply Touch.alloc)⟩
  by_cases h2 : e ≤ 65536
  rotate_left
  · rw [decide_eq_false (by have := HM.out; omega)]
    go_enter Tryz.func121, Tryz.ntmps121
    go_wp2
    go_ret
    exact ⟨rfl, by repeat (first | exact Touch.refl _ _ | apply Touch.alloc)⟩
  by_cases h3 : 1 ≤ f
  rotate_left
  · rw [decide_eq_false (by have := HM.out; omega)]
    go_enter Tryz.func121, Tryz.ntmps121
    go_wp2
    go_ret
    exact ⟨rfl, by repeat (first | exact Touch.refl _ _ | apply Touch.alloc)⟩
  by_cases h4 : f ≤ 4096
  rotate_left
  · rw [decide_eq_false (by have := HM.out; omega)]
    go_enter Tryz.func121, Tryz.ntmps121
    go_wp2
    go_ret
    exact ⟨rfl, by repeat (first | exact Touch.refl _ _ | apply Touch.alloc)⟩
  by_cases h5 : 1 ≤ b
  rotate_left
  · rw [decide_eq_false (by have := HM.out; omega)]
    go_enter Tryz.func121, Tryz.ntmps121
    go_wp2
    go_ret
    exact ⟨rfl, by repeat (first | exact Touch.refl _ _ | apply Touch.alloc)⟩
  by_cases h6 : b ≤ 1024
  rotate_left
  · rw [decide_eq_false (by have := HM.out; omega)]
    go_enter Tryz.func121, Tryz.ntmps121
    go_wp2
    go_ret
    exact ⟨rfl, by repeat (first | exact Touch.refl _ _ | apply Touch.alloc)⟩
  rw [decide_eq_true (by have := HM.out; omega)]
  go_enter Tryz.func121, Tryz.ntmps121
  go_wp2
  go_ret
  exact ⟨rfl, by repeat (first | exact Touch.refl _ _ | apply Touch.alloc)⟩
end Go.Proofs.YtpefbmheblfbeaaGreat.Me
/- Contracts of New and of awake, and of what a nil memo answers; no conditions but those that each states. -/
namespace Go.Proofs.YtpefbmheblfbeaaGreat.Me
open Go.RowKit Go.Sort Go.Maps Go.ChangeMaps Go.WideMaps
set_option maxRecDepth 100000
set_option linter.unusedVariables false
set_option linter.unusedSimpArgs false
def cbx (c : Cf) (t : Nat) : Obj := .cells #[.int .i64 c.t, .int .i64 c.n, .int .i64 c.s, .int .i64 c.e, .int .i64 c.f, .int .i64 c.b, .int .i64 c.d] t
structure C7 (w : World) (r : Nat) (c : Cf) : Prop where
  c0 : w.cell? ⟨r, 0, none⟩ = some (.int .i64 c.t)
  c1 : w.cell? ⟨r, 1, none⟩ = some (.int .i64 c.n)
  c2 : w.cell? ⟨r, 2, none⟩ = some (.int .i64 c.s)
  c3 : w.cell? ⟨r, 3, none⟩ = some (.int .i64 c.e)
  c4 : w.cell? ⟨r, 4, none⟩ = some (.int .i64 c.f)
  c5 : w.cell? ⟨r, 5, none⟩ = some (.int .i64 c.b)
  c6 : w.cell? ⟨r, 6, none⟩ = some (.int .i64 c.d)
theorem C7.mk' {w : World} {r t : Nat} {c : Cf} (h : w.heap[r]? = some (cbx c t)) : C7 w r c := by
  unfold cbx at h
  constructor <;> simp [World.cell?, h]
theorem new9_no (w : World) (c : Cf) (hc : okC c = false) : Calls Tryz.prog 83 #[cv c] w fun e w' => e = .returned (.tuple #[.pointer none, .int .i64 100]) ∧ Touch [] w w' := by
  have HC := hid (fun w => check12 w c)
  rw [hc] at HC
  unfold cv at *
  simp only [Bool.false_eq_true, if_false] at HC
  go_enter Tryz.func83, Tryz.ntmps83
  go_wp2_with (go_at_call 121; refine (HC.out _).mono ?_; rintro e w2 ⟨rfl, t2⟩; have T2 := hid t2; clear t2)
  exact bodyPost_ret (v := .tuple #[.pointer none, .int .i64 100]) (by simp [results, Tryz.results83, go_sem]) rfl ⟨rfl, ((Touch.refl _ _).alloc _).trans' T2.out⟩
def NwQ (w : World) (c : Cf) (m : Nat) (w' : World) : Prop := ∃ F, Mq w' m F c 0 [] ∧ (∀ k ∈ F, w.heap.size ≤ k) ∧ Touch [] w w'
set_option maxHeartbeats 1000000 in
theorem new9_ok (w : World) (c : Cf) (hc : okC c = true) (wc : c.t ≤ 9223372036854775807 ∧ c.n ≤ 9223372036854775807 ∧ c.s ≤ 9223372036854775807) :
    Calls Tryz.prog 83 #[cv c] w fun e w' => ∃ m, e = .returned (.tuple #[PT m, .int .i64 0]) ∧ NwQ w c m w' := by
  have HC := hid (fun w => check12 w c)
  rw [hc] at HC
  simp only [if_true] at HC
  obtain ⟨e0, e1⟩ := okC_e hc
  have HO := hid (fun w => new6_ok w c.e e0 e1)
  have TB : Touch [] w (w.alloc (cbx c 23)) := (Touch.refl _ _).alloc _
  have HB : Hid (∀ w2, Touch [] (w.alloc (cbx c 23)) w2 → C7 w2 w.heap.size c) := fun w2 t => C7.mk' (t.keep (heap_alloc_new w (cbx c 23)) (by simp))
  have HE : Hid (∀ w2 w3, Touch [] (w.alloc (cbx c 23)) w2 → Od w3 w2.heap.size none c.e [] → Touch [] w2 w3 → NwQ w c (w3.heap.size + 1) ((w3.alloc (.map #[] 0)).alloc (.cells (mcs c 0 w3.heap.size w2.heap.size) 144))) := fun w2 w3 t2 o3 t3 => by
    have hz2 := t2.size
    have hz3 := t3.size
    rw [World.size_alloc] at hz2
    have t4 : Touch [] w3 ((w3.alloc (.map #[] 0)).alloc (.cells (mcs c 0 w3.heap.size w2.heap.size) 144)) := ((Touch.refl _ _).alloc _).alloc _
    have oq3 : Oq w3 w2.heap.size [w2.heap.size] c.e [] := ⟨none, [], rfl, rfl, o3⟩
    have olt := oq3.lt w2.heap.size (by simp)
    refine ⟨[w3.heap.size + 1, w3.heap.size, w2.heap.size], ⟨w3.heap.size, w2.heap.size, [w2.heap.size], rfl, ?_, ?_, oq3.keep0 t4, ⟨hc, wc, Int.le_refl _, by show (0 : Int) ≤ MT; unfold MT; decide, fun x hx => (by cases hx), by simpa using e0⟩, by simp; omega⟩, fun k hk => ?_, ((TB.trans' t2).trans' t3).trans' t4⟩
    · have := heap_alloc_new (w3.alloc (.map #[] 0)) (.cells (mcs c 0 w3.heap.size w2.heap.size) 144)
      rw [World.size_alloc] at this
      exact this
    · refine MapAt.kept (w := w3.alloc (.map #[] 0)) ?_ (Below.heap_alloc _ _ _ (by simp))
      exact (mapAt_made w3).congr (fun _ _ => rfl)
    · simp only [List.mem_cons, List.not_mem_nil, or_false] at hk
      omega
  have hmm := @run_makeMap Tryz.prog
  clear hc wc e0 e1 TB
  unfold mcs cbx PT at *
  unfold cv at *
  go_enter Tryz.func83, Tryz.ntmps83
  go_wp2_with (first
    | (go_at_call 121; refine (HC.out _).mono ?_; rintro e w2 ⟨rfl, t2⟩; have T2 := hid t2; obtain ⟨c0, c1, c2, c3, c4, c5, c6⟩ := HB.out _ t2; clear t2)
    | (go_at_call 122; refine (HO.out _).mono ?_; rintro e w3 ⟨rfl, o3, t3⟩; have O3 := hid o3; have T3 := hid t3; clear c0 c1 c2 c3 c4 c5 c6; obtain ⟨c0, c1, c2, c3, c4, c5, c6⟩ := HB.out _ (T2.out.trans' t3); clear o3 t3))
  exact bodyPost_ret (v := .tuple #[.pointer (some ⟨w3.heap.size + 1, 0, none⟩), .int .i64 0]) (by simp [results, Tryz.results83, go_sem]) rfl ⟨_, rfl, HE.out _ _ T2.out O3.out T3.out⟩
end Go.Proofs.YtpefbmheblfbeaaGreat.Me
/- A slice of the document's entries as a plain list; the contracts of its Find, below and How; no conditions but those that each states. -/
namespace Go.Proofs.YtpefbmheblfbeaaGreat.Me
open Go.RowKit Go.Sort Go.Maps Go.ChangeMaps Go.WideMaps
set_option maxRecDepth 100000
set_option linter.unusedVariables false
set_option linter.unusedSimpArgs false
def At7 (w : World) (t g off : Nat) (xs : List En) : Prop := ∃ cs, w.heap[g]? = some (.cells cs t (0, 0)) ∧ ∀ i (h : i < xs.length) j, j < 7 → cs[off + (i * 7 + j)]? = (nl xs[i])[j]?
def RN (t : Nat) (w : World) (v : Value) (xs : List En) : Prop := ∃ a c, v = .slice a xs.length c ∧ xs.length ≤ c ∧ (0 < xs.length → ∃ g off, a = some ⟨g, off, none⟩ ∧ At7 w t g off xs)
section
variable {t : Nat} {w w' : World} {g off : Nat} {v : Value} {xs : List En}
theorem At7.cell (h : At7 w t g off xs) (i j : Nat) (hi : i < xs.length) (hj : j < 7) {u : Value} (hu : (nl xs[i])[j]? = some u) : w.cell? ⟨g, off + (i * 7 + j), none⟩ = some u := by
  obtain ⟨cs, h1, h2⟩ := h
  have h3 := h2 i hi j hj
  rw [hu] at h3
  simp [World.cell?, h1, h3]
theorem RN.keepK (h : RN t w v xs) (hk : ∀ (r : Nat) (cs : Array Value), w.heap[r]? = some (.cells cs t (0, 0)) → w'.heap[r]? = some (.cells cs t (0, 0))) : RN t w' v xs := by
  obtain ⟨a, c, h1, h2, h3⟩ := h
  refine ⟨a, c, h1, h2, fun hp => ?_⟩
  obtain ⟨g, off, h4, cs, h5, h6⟩ := h3 hp
  exact ⟨g, off, h4, cs, hk g cs h5, h6⟩
theorem RN.keep (h : RN t w v xs) (ht : Touch [] w w') : RN t w' v xs := h.keepK (fun r cs hr => ht.keep hr (by simp))
theorem RN.own {base : Nat} (h : w.ownsRow base t 7 v xs.length (cellsN xs)) : RN t w v xs := by
  have h' := h
  obtain ⟨h1, h2 | ⟨g, cap, cur, rfl, hg, hc, hn, hm, hs, ht⟩⟩ := h
  · obtain ⟨h2, h3⟩ := h2
    exact ⟨none, 0, by rw [h3]; exact h2, by omega, fun h => by omega⟩
  · refine ⟨_, cap, rfl, hn, fun hp => ⟨g, 0, rfl, cur, hc, fun i hi j hj => ?_⟩⟩
    have hl : (cellsN xs).length = xs.length * 7 := h1
    have e : ∀ q, q < xs.length * 7 → cur[q]? = (cellsN xs)[q]? := fun q hq => by
      rw [← ht, List.getElem?_take, if_pos hq, Array.getElem?_toList]
    rw [Nat.zero_add, e _ (by omega), cellsN_at xs i j hi hj]
end
end Go.Proofs.YtpefbmheblfbeaaGreat.Me
/- The contracts of the document's How and Find; there are at most seventy thousand entries. -/
namespace Go.Proofs.YtpefbmheblfbeaaGreat.Me
open Go.RowKit Go.Sort Go.Maps Go.ChangeMaps Go.WideMaps
set_option maxRecDepth 100000
set_option linter.unusedVariables false
set_option linter.unusedSimpArgs false
def pos : List En → K → Int
  | [], _ => -1
  | x :: l, k => if x.1 = k then 0 else if pos l k < 0 then -1 else pos l k + 1
theorem pos_at {xs : List En} {k : K} {i : Nat} (hi : i < xs.length) (he : xs[i].1 = k) (hb : ∀ j (h : j < i), xs[j].1 ≠ k) : pos xs k = (i : Int) := by
  induction xs generalizing i with
  | nil => simp at hi
  | cons x l ih =>
    unfold pos
    cases i with
    | zero =>
      rw [if_pos (by simpa using he)]
      rfl
    | succ i =>
      have h0 := hb 0 (by omega)
      rw [if_neg (by simpa using h0)]
      have hp := ih (i := i) (by simpa using hi) (by simpa using he) (fun j hj => by have := hb (j + 1) (by omega); simpa using this)
      rw [hp, if_neg (by omega)]
      rfl
theorem pos_yes {xs : List En} {k : K} (h : k ∈ keysL xs) : ∃ i, ∃ hi : i < xs.length, xs[i].1 = k ∧ (∀ j (hj : j < i), xs[j].1 ≠ k) ∧ pos xs k = (i : Int) := by
  induction xs with
  | nil => simp [keysL] at h
  | cons x l ih =>
    by_cases e : x.1 = k
    · exact ⟨0, by simp, by simpa using e, fun j hj => by omega, by unfold pos; rw [if_pos e]; rfl⟩
    · simp only [keysL, List.map_cons, List.mem_cons] at h
      rcases h with h | h
      · exact absurd h.symm e
      · obtain ⟨i, hi, h1, h2, h3⟩ := ih h
        have hb : ∀ j (hj : j < i + 1), ((x :: l)[j]'(by simp only [List.length_cons]; omega)).1 ≠ k := fun j hj => by
          cases j with
          | zero => simpa using e
          | succ j => simpa using h2 j (by omega)
        exact ⟨i + 1, by simpa using hi, by simpa using h1, hb, pos_at (by simpa using hi) (by simpa using h1) hb⟩
end Go.Proofs.YtpefbmheblfbeaaGreat.Me
/- Keys, outcomes and configurations as arguments, opened; no conditions. -/
namespace Go.Proofs.YtpefbmheblfbeaaGreat.Me
open Go.ChangeShapes Go.WideShapes Go.ChangeAt Go.RowKit
set_option maxRecDepth 100000
set_option linter.unusedVariables false
theorem cells2 : Tryz.prog.cellsOf 2 = 1 := by kernel_rfl
theorem cells3 : Tryz.prog.cellsOf 3 = 1 := by kernel_rfl
theorem cells9 : Tryz.prog.cellsOf 9 = 1 := by kernel_rfl
theorem cells37 : Tryz.prog.cellsOf 52 = 1 := by kernel_rfl
theorem cells41 : Tryz.prog.cellsOf 56 = 3 := by kernel_rfl
theorem cells43 : Tryz.prog.cellsOf 58 = 4 := by kernel_rfl
theorem cells23 : Tryz.prog.cellsOf 23 = 7 := by kernel_rfl
def Wo (x : O) : Prop := W64 x.1 ∧ W64 x.2.1 ∧ W64 x.2.2.1 ∧ W64 x.2.2.2
def Wc (c : Cf) : Prop := W64 c.t ∧ W64 c.n ∧ W64 c.s ∧ W64 c.e ∧ W64 c.f ∧ W64 c.b ∧ W64 c.d
set_option maxRecDepth 100000 in
theorem fields43 {H : Type} {enc : TypeId × Value → H} {W : World} {base fuel : Nat} {spare : Nat → Bool} {held : Bool} {cs : List Value} {x : DataW H × List MemPlace} (h : DataW.trod enc Tryz.prog W base spare held fuel 58 cs = some x) (hl : cs.length = 4) : ∃ o : O, cs = [.int .i64 o.1, .int .i64 o.2.1, .int .i64 o.2.2.1, .int .i64 o.2.2.2] ∧ Wo o := by
  obtain ⟨ys, k, hk, hxy, _, hyl, hfe⟩ := DataW.trod_struct Tryz.underlying58 h
  match cs, hl with
  | [v0, v1, v2, v3], _ =>
    have hy : ys.length = 2 := hyl
    match ys, hy with
    | [y0, y1], _ =>
      have g0 := hfe 0 _ rfl
      have g1 := hfe 1 _ rfl
      simp [cells2, cells41] at g0 g1
      obtain ⟨A, a1, _, wa⟩ := DataW.trod_int Tryz.underlying2 g0
      obtain ⟨zs, k2, hk2, _, _, hzl, hfz⟩ := DataW.trod_struct Tryz.underlying56 g1
      have hz : zs.length = 3 := hzl
      match zs, hz with
      | [z0, z1, z2], _ =>
        have f0 := hfz 0 _ rfl
        have f1 := hfz 1 _ rfl
        have f2 := hfz 2 _ rfl
        simp [cells3] at f0 f1 f2
        obtain ⟨B, b1, _, wb⟩ := DataW.trod_int Tryz.underlying3 f0
        obtain ⟨C, c1, _, wc⟩ := DataW.trod_int Tryz.underlying3 f1
        obtain ⟨D, d1, _, wd⟩ := DataW.trod_int Tryz.underlying3 f2
        simp only [List.cons.injEq, and_true] at a1 b1 c1 d1
        subst a1 b1 c1 d1
        exact ⟨(A, B, C, D), rfl, wa, wb, wc, wd⟩
theorem laidOut : laidOutB Tryz.prog = true := by kernel_rfl
end Go.Proofs.YtpefbmheblfbeaaGreat.Me
/- The contract of Of; the entries lie in a slice of its own. -/
namespace Go.Proofs.YtpefbmheblfbeaaGreat.Me
open Go.RowKit Go.Sort Go.Maps Go.ChangeMaps Go.WideMaps
set_option maxRecDepth 100000
set_option linter.unusedVariables false
set_option linter.unusedSimpArgs false
theorem drx_out {xs : List En} {k : K} (h : ¬ k ∈ keysL xs) : drx xs k = xs := by
  unfold drx
  refine List.filter_eq_self.2 (fun x hx => ?_)
  simp only [decide_eq_true_eq]
  exact fun e => h (by unfold keysL; exact List.mem_map.2 ⟨x, hx, e⟩)
theorem fnd_out {xs : List En} {k : K} (hd : (keysL xs).Nodup) (h : fnd xs k = none) : ¬ k ∈ keysL xs := fun hk => by
  obtain ⟨i, hi, h1, _⟩ := pos_yes hk
  have := fnd_of_mem hd (List.getElem_mem hi)
  rw [h1, h] at this
  cases this
theorem putL_new {e : Int} {xs : List En} {x : En} (h : ¬ x.1 ∈ keysL xs) (hl : (xs.length : Int) + 1 ≤ e) : putL e xs x.1 x.2 = xs ++ [x] := by
  unfold putL
  rw [if_neg]
  · unfold putY; rw [drx_out h]
  · unfold useB useY
    rw [dr_no h, List.length_append, keysL_len]
    simp only [decide_eq_true_eq, List.length_singleton]
    omega
theorem nxE_ok {c : Cf} {now : Int} {xs : List En} {x : En} (h : nxE c now xs x = 0) : x.1.2.size ≤ 64 ∧ (right x.2.1 = true ∧ 0 ≤ x.2.2 ∧ x.2.2 ≤ now) ∧ fnd xs x.1 = none := by
  unfold nxE at h
  by_cases hp : pairE x.1 x.2.1 = 0
  · rw [if_neg (by simp [hp])] at h
    obtain ⟨h1, h2⟩ := pairE_ok hp
    split at h
    · cases h
    · rename_i hh
      simp only [Bool.or_eq_true, decide_eq_true_eq, not_or] at hh
      refine ⟨h1, ⟨h2, by omega, by omega⟩, ?_⟩
      cases hf : fnd xs x.1 with
      | none => rfl
      | some v => exfalso; apply hh.1.1.1; rw [hf]; rfl
  · rw [if_pos hp] at h; exact absurd h hp
theorem RN.mqt {t : Nat} {w w' : World} {m : Nat} {F : List Nat} {c : Cf} {now : Int} {xs ys : List En} {v : Value} (hr : RN t w v ys) (h1 : t ≠ 197) (h2 : t ≠ 220) (h3 : t ≠ 144) (h : Mq w m F c now xs) (tt : Touch F w w') : RN t w' v ys := hr.keepK (fun r cs hc => tt.keep hc (h.away hc h1 h2 h3))
theorem RN.at1 {t : Nat} {w : World} {g off n c : Nat} {xs : List En} (h : RN t w (.slice (some ⟨g, off, none⟩) n c) xs) (hp : 0 < xs.length) : At7 w t g off xs := by
  obtain ⟨a', c', e1, _, e3⟩ := h
  obtain ⟨g', off', e4, hat⟩ := e3 hp
  injection e1 with e1 _ _
  rw [e4] at e1
  injection e1 with e1
  injection e1 with e5 e6
  rw [e5, e6]
  exact hat
structure OfS (w : World) (c : Cf) (now : Int) (xs : List En) (v : Value) (m k : Nat) (wr : World) : Prop where
  mq : ∃ F, Mq wr m F c now (xs.take k) ∧ ∀ i ∈ F, w.heap.size ≤ i
  rn : RN 60 wr v xs
  t : Touch [] w wr
  eq : ofL c now [] xs 0 = ofL c now (xs.take k) (xs.drop k) (k : Int)
section
variable {w wr wr' : World} {c : Cf} {now : Int} {xs : List En} {v : Value} {m k : Nat}
theorem OfS.keep0 (h : OfS w c now xs v m k wr) (t : Touch [] wr wr') : OfS w c now xs v m k wr' := by
  obtain ⟨F, q, hF⟩ := h.mq
  exact ⟨⟨F, q.keep0 t, hF⟩, h.rn.keep t, h.t.trans' t, h.eq⟩
theorem OfS.next (h : OfS w c now xs v m k wr) (x : En) (hk : Ok x.1) : Calls Tryz.prog 85 #[PT m, nv x] wr fun e w' => e = .returned (.int .i64 (nxE c now (xs.take k) x)) ∧ Touch [] wr w' := by
  obtain ⟨F, q, hF⟩ := h.mq
  exact next40 wr m F c now _ q x hk
theorem OfS.bad (h : OfS w c now xs v m k wr) (hk : k < xs.length) (h0 : nxE c now (xs.take k) xs[k] ≠ 0) : ofL c now [] xs 0 = ((k : Int), nxE c now (xs.take k) xs[k]) := by
  rw [h.eq, List.drop_eq_getElem_cons hk]
  unfold ofL
  rw [if_pos h0]
theorem OfS.fin (h : OfS w c now xs v m k wr) (hk : xs.length ≤ k) : ofL c now [] xs 0 = (0, 0) ∧ ∃ F, Mq wr m F c now xs ∧ (∀ i ∈ F, w.heap.size ≤ i) := by
  obtain ⟨F, q, hF⟩ := h.mq
  rw [List.take_of_length_le hk] at q
  refine ⟨?_, F, q, hF⟩
  rw [h.eq, List.drop_of_length_le hk]
  rfl
theorem OfS.put (h : OfS w c now xs v m k wr) (hk : k < xs.length) (hl : (xs.length : Int) ≤ c.e) (h0 : nxE c now (xs.take k) xs[k] = 0) (ok : Ok xs[k].1) : Calls Tryz.prog 76 #[PT m, kv xs[k].1, ev xs[k].2] wr fun e w' => ∃ u, e = .returned u ∧ OfS w c now xs v m (k + 1) w' := by
  obtain ⟨F, q, hF⟩ := h.mq
  obtain ⟨g1, g2, g3⟩ := nxE_ok h0
  have hn := fnd_out q.nd g3
  have hp : putL c.e (xs.take k) xs[k].1 xs[k].2 = xs.take (k + 1) := by
    rw [putL_new hn (by rw [List.length_take]; omega), List.take_add_one, List.getElem?_eq_getElem hk]
    rfl
  refine (putM wr m F c now _ q xs[k].1 ok g1 xs[k].2 g2).mono ?_
  rintro e w' ⟨u, rfl, _, F2, q2, t2, f2⟩
  rw [hp] at q2
  refine ⟨u, rfl, ⟨F2, q2, fun i hi => ?_⟩, h.rn.mqt (by decide) (by decide) (by decide) q t2, h.t.trans t2 (fun i hi => Or.inr (hF i hi)), ?_⟩
  · rcases f2 i hi with h1 | h1
    · exact hF i h1
    · exact Nat.le_trans h.t.size h1
  · rw [h.eq, List.drop_eq_getElem_cons hk, ofL, if_neg (by rw [h0]; simp), List.take_add_one, List.getElem?_eq_getElem hk]
    rfl
end
def OfA (w : World) (c : Cf) (now : Int) (xs : List En) (pm : Value) (w' : World) : Prop := ((ofP c now xs).2 ≠ 0 ∧ pm = .pointer none ∧ Touch [] w w') ∨ ((ofP c now xs).2 = 0 ∧ (ofP c now xs).1 = 0 ∧ ∃ m F, pm = PT m ∧ Mq w' m F c now xs ∧ (∀ i ∈ F, w.heap.size ≤ i) ∧ Touch [] w w')
set_option maxHeartbeats 1000000 in
theorem of15_cfg (w : World) (c : Cf) (now : Int) (a1 : Option Addr) (n1 c1 : Nat) (hc : okC c = false) : Calls Tryz.prog 31 #[cv c, .int .i64 now, .slice a1 n1 c1] w fun e w' => e = .returned (.tuple #[.pointer none, .int .i64 0, .int .i64 100]) ∧ Touch [] w w' := by
  have HN := hid (fun w2 => new9_no w2 c hc)
  unfold cv at HN
  unfold cv
  go_enter Tryz.func31, Tryz.ntmps31
  go_wp2_with (go_at_call 83; refine (HN.out _).mono ?_; rintro x w3 ⟨rfl, t3⟩; have T3 := hid (((Touch.refl [] w).alloc _).trans' t3); clear t3)
  exact bodyPost_ret (v := .tuple #[.pointer none, .int .i64 0, .int .i64 100]) (by simp [results, Tryz.results31, go_sem]) rfl ⟨rfl, T3.out⟩
set_option maxHeartbeats 1000000 in
theorem of15_tick (w : World) (c : Cf) (now : Int) (a1 : Option Addr) (n1 c1 : Nat) (wc : Wc c) (hc : okC c = true) (ht : isT now = false) : Calls Tryz.prog 31 #[cv c, .int .i64 now, .slice a1 n1 c1] w fun e w' => e = .returned (.tuple #[.pointer none, .int .i64 0, .int .i64 10]) ∧ Touch [] w w' := by
  have HN : Hid (∀ w2, Calls Tryz.prog 83 #[cv c] w2 fun x w' => ∃ m, x = .returned (.tuple #[PT m, .int .i64 0]) ∧ NwQ w2 c m w') := hid (fun w2 => new9_ok w2 c hc ⟨wc.1.hi, wc.2.1.hi, wc.2.2.1.hi⟩)
  have HT := hid (fun w => is39 now w)
  rw [ht] at HT
  unfold cv PT at HN
  unfold cv
  go_enter Tryz.func31, Tryz.ntmps31
  go_wp2_with (first
    | (go_at_call 83; refine (HN.out _).mono ?_; rintro x w3 ⟨m, rfl, F, q3, f3, t3⟩; have T3 := hid (((Touch.refl [] w).alloc _).trans' t3); clear t3 q3 f3)
    | (go_at_call 84; refine (HT.out _).mono ?_; rintro x w4 ⟨rfl, e4⟩; rw [e4]; clear e4 w4))
  exact bodyPost_ret (v := .tuple #[.pointer none, .int .i64 0, .int .i64 10]) (by simp [results, Tryz.results31, go_sem]) rfl ⟨rfl, T3.out⟩
set_option maxHeartbeats 1000000 in
theorem of15_many (w : World) (c : Cf) (now : Int) (a1 : Option Addr) (n1 c1 : Nat) (wc : Wc c) (hc : okC c = true) (ht : isT now = true) (hm : c.e < (n1 : Int)) (hl : (n1 : Int) ≤ 9223372036854775807) : Calls Tryz.prog 31 #[cv c, .int .i64 now, .slice a1 n1 c1] w fun e w' => e = .returned (.tuple #[.pointer none, .int .i64 0, .int .i64 3]) ∧ Touch [] w w' := by
  obtain ⟨V, hV⟩ : ∃ V, V = w.alloc (cbx c 23) := ⟨_, rfl⟩
  have TV : Hid (Touch [] w V) := hid (by rw [hV]; exact (Touch.refl _ _).alloc _)
  have HC : Hid (∀ w', Touch [] V w' → C7 w' w.heap.size c) := hid (fun w' t => C7.mk' (t.keep (by rw [hV]; exact heap_alloc_new w (cbx c 23)) (by simp)))
  obtain ⟨c0, c1', c2, c3, c4, c5, c6⟩ := HC.out V (Touch.refl _ _)
  have HN : Hid (∀ w2, Calls Tryz.prog 83 #[cv c] w2 fun x w' => ∃ m, x = .returned (.tuple #[PT m, .int .i64 0]) ∧ NwQ w2 c m w') := hid (fun w2 => new9_ok w2 c hc ⟨wc.1.hi, wc.2.1.hi, wc.2.2.1.hi⟩)
  have HT := hid (fun w => is39 now w)
  rw [ht] at HT
  unfold cv PT at HN
  unfold cv
  unfold cbx at hV
  clear wc
  go_enter Tryz.func31, Tryz.ntmps31
  go_upto_region 1 with fail
  rw [← hV]
  clear hV
  go_upto_region 4 with (go_at_call 83; refine (HN.out _).mono ?_; rintro x w3 ⟨m, rfl, F, q3, f3, t3⟩; have T3 := hid t3; clear t3 q3 f3)
  clear c0 c1' c2 c3 c4 c5 c6
  obtain ⟨c0, c1', c2, c3, c4, c5, c6⟩ := HC.out w3 T3.out
  go_wp2_with (go_at_call 84; refine (HT.out _).mono ?_; rintro x w4 ⟨rfl, e4⟩; rw [e4]; clear e4 w4)
  exact bodyPost_ret (v := .tuple #[.pointer none, .int .i64 0, .int .i64 3]) (by simp [results, Tryz.results31, go_sem]) rfl ⟨rfl, TV.out.trans' T3.out⟩
set_option maxHeartbeats 8000000 in
set_option maxRecDepth 100000 in
theorem of15_go (w : World) (c : Cf) (now : Int) (xs : List En) (v : Value) (wc : Wc c) (hc : okC c = true) (ht : isT now = true) (hm : ¬ c.e < (xs.length : Int)) (hv : RN 60 w v xs) (hok : ∀ x ∈ xs, Ok x.1) : Calls Tryz.prog 31 #[cv c, .int .i64 now, v] w fun e w' => ∃ pm, e = .returned (.tuple #[pm, .int .i64 (ofL c now [] xs 0).1, .int .i64 (ofL c now [] xs 0).2]) ∧ (((ofL c now [] xs 0).2 ≠ 0 ∧ pm = .pointer none ∧ Touch [] w w') ∨ ((ofL c now [] xs 0).2 = 0 ∧ (ofL c now [] xs 0).1 = 0 ∧ ∃ m F, pm = PT m ∧ Mq w' m F c now xs ∧ (∀ i ∈ F, w.heap.size ≤ i) ∧ Touch [] w w')) := by
  obtain ⟨a1, c1, rfl, hcp, hg⟩ := hv
  have HR0 : Hid (RN 60 w (.slice a1 xs.length c1) xs) := hid ⟨a1, c1, rfl, hcp, hg⟩
  obtain ⟨V, hV⟩ : ∃ V, V = w.alloc (cbx c 23) := ⟨_, rfl⟩
  have TV : Hid (Touch [] w V) := hid (by rw [hV]; exact (Touch.refl _ _).alloc _)
  have HC : Hid (∀ w', Touch [] V w' → C7 w' w.heap.size c) := hid (fun w' t => C7.mk' (t.keep (by rw [hV]; exact heap_alloc_new w (cbx c 23)) (by simp)))
  obtain ⟨c0, c1', c2, c3, c4, c5, c6⟩ := HC.out V (Touch.refl _ _)
  have HN : Hid (∀ w2, Calls Tryz.prog 83 #[cv c] w2 fun x w' => ∃ m, x = .returned (.tuple #[PT m, .int .i64 0]) ∧ NwQ w2 c m w') := hid (fun w2 => new9_ok w2 c hc ⟨wc.1.hi, wc.2.1.hi, wc.2.2.1.hi⟩)
  have HT := hid (fun w => is39 now w)
  rw [ht] at HT
  have HNow : Hid (0 ≤ now ∧ now ≤ MT) := hid (by unfold isT at ht; simp only [Bool.and_eq_true, decide_eq_true_eq] at ht; unfold MT; exact ht)
  have HOK := hid hok
  have hle := (okC_e hc).2
  obtain ⟨n, hn⟩ : ∃ n, n = xs.length := ⟨_, rfl⟩
  have HNx := hid hn
  have HG : Hid (0 < n → ∃ g off, a1 = some ⟨g, off, none⟩) := hid (fun hp => by obtain ⟨g, off, h1, _⟩ := hg (by omega); exact ⟨g, off, h1⟩)
  rw [← hn] at HR0 hm ⊢
  have zl : (n : Int) ≤ c.e := by omega
  have zn : (n : Int) ≤ 65536 := by omega
  have HLe := hid zl
  obtain ⟨rp, hrp⟩ : ∃ rp, rp = ofL c now [] xs 0 := ⟨_, rfl⟩
  rw [← hrp]
  have HRp := hid hrp
  unfold cv PT at HN
  unfold cv
  unfold cbx at hV
  clear wc hc ht hm hcp hg hok hn hle hrp
  go_enter Tryz.func31, Tryz.ntmps31
  go_upto_region 1 with fail
  rw [← hV]
  clear hV
  go_upto_region 4 with (go_at_call 83; refine (HN.out _).mono ?_; rintro x w3 ⟨m, rfl, F, q3, f3, t3⟩; have T3 := hid t3; have Q3 := hid q3; have F3 := hid f3; clear t3 q3 f3)
  clear c0 c1' c2 c3 c4 c5 c6
  obtain ⟨c0, c1', c2, c3, c4, c5, c6⟩ := HC.out w3 T3.out
  obtain ⟨k7, kf⟩ : w3.cell? ⟨m, 7, none⟩ = some (.int .i64 0) ∧ w3.frozen? ⟨m, 7, none⟩ = false := by
    obtain ⟨b, o, G, _, q⟩ := Q3.out
    exact ⟨q.md.cs.c7, q.md.cs.f7⟩
  go_upto_region 9 with (go_at_call 84; refine (HT.out _).mono ?_; rintro x w4 ⟨rfl, e4⟩; rw [e4]; clear e4 w4)
  clear c0 c1' c2 c3 c4 c5 c6 k7 kf
  obtain ⟨W3, hW3⟩ : ∃ W3, W3 = w3.setCell ⟨m, 7, none⟩ (.int .i64 now) := ⟨_, rfl⟩
  have HI0 : Hid (OfS w c now xs (.slice a1 n c1) m 0 W3) := hid (by
    obtain ⟨F2, q2, t2, f2⟩ := Q3.out.time HNow.out.1 HNow.out.2
    rw [← hW3] at q2 t2
    have hz := TV.out.size
    refine ⟨⟨F2, q2, fun i hi => ?_⟩, (HR0.out.keep (TV.out.trans' T3.out)).mqt (by decide) (by decide) (by decide) Q3.out t2, (TV.out.trans' T3.out).trans t2 (fun i hi => Or.inr (by have := F3.out i hi; omega)), rfl⟩
    rcases f2 i hi with h1 | h1
    · have := F3.out i h1; omega
    · have := (TV.out.trans' T3.out).size; omega)
  rw [← hW3]
  clear hW3 T3 Q3 F3 HN HT HC TV HR0 HNow
  go_wp2_with fail
  go_loopw [36] (fun s36 wr => ∃ k : Nat, s36 = .int .i64 (k : Int) ∧ k ≤ n ∧ Hid (OfS w c now xs (.slice a1 n c1) m k wr)) (fun i _ => n - (intOf i).toNat)
  case atStart => exact ⟨0, rfl, Nat.zero_le _, HI0⟩
  case round =>
    clear HI0
    obtain ⟨k, rfl, hk, HS⟩ := hrel
    by_cases hlt : k < n
    · have zk : (k : Int) < (n : Int) := by omega
      have hix : k < xs.length := by have := HNx.out; omega
      obtain ⟨g, off, rfl⟩ := HG.out (by omega)
      have hat := HS.out.rn.at1 (by omega)
      have r0 := hat.cell k 0 hix (by omega) rfl
      have r1 := hat.cell k 1 hix (by omega) rfl
      have r2 := hat.cell k 2 hix (by omega) rfl
      have r3 := hat.cell k 3 hix (by omega) rfl
      have r4 := hat.cell k 4 hix (by omega) rfl
      have r5 := hat.cell k 5 hix (by omega) rfl
      have r6 := hat.cell k 6 hix (by omega) rfl
      rw [Nat.add_zero] at r0
      simp only [← Nat.add_assoc] at r1 r2 r3 r4 r5 r6
      have HB := hid (fun h0 => HS.out.bad hix h0)
      have hokx := HOK.out xs[k] (List.getElem_mem hix)
      have HP : Hid (∀ w', Touch [] wr w' → nxE c now (xs.take k) xs[k] = 0 → Calls Tryz.prog 76 #[PT m, kv xs[k].1, ev xs[k].2] w' fun e w'' => ∃ u, e = .returned u ∧ OfS w c now xs (.slice (some ⟨g, off, none⟩) n c1) m (k + 1) w'') := hid (fun w' t h0 => (HS.out.keep0 t).put hix (by have := HLe.out; have := HNx.out; omega) h0 hokx)
      have HNk := hid (And.intro hk hlt)
      clear hat hk hlt
      generalize xs[k] = x at *
      clear hix
      obtain ⟨W1, hW1⟩ : ∃ W1, W1 = wr.alloc (.cells #[.int .u16 x.1.1, .string x.1.2, .int .i64 x.2.1.1, .int .i64 x.2.1.2.1, .int .i64 x.2.1.2.2.1, .int .i64 x.2.1.2.2.2, .int .i64 x.2.2] 60) := ⟨_, rfl⟩
      have HT1 : Hid (Touch [] wr W1) := hid (by rw [hW1]; exact (Touch.refl _ _).alloc _)
      have HX : Hid (∀ w', Touch [] W1 w' → w'.cell? ⟨wr.heap.size, 0, none⟩ = some (.int .u16 x.1.1) ∧ w'.cell? ⟨wr.heap.size, 1, none⟩ = some (.string x.1.2) ∧ w'.cell? ⟨wr.heap.size, 2, none⟩ = some (.int .i64 x.2.1.1) ∧ w'.cell? ⟨wr.heap.size, 3, none⟩ = some (.int .i64 x.2.1.2.1) ∧ w'.cell? ⟨wr.heap.size, 4, none⟩ = some (.int .i64 x.2.1.2.2.1) ∧ w'.cell? ⟨wr.heap.size, 5, none⟩ = some (.int .i64 x.2.1.2.2.2) ∧ w'.cell? ⟨wr.heap.size, 6, none⟩ = some (.int .i64 x.2.2)) := hid (fun w' t => by
        have := t.keep (k := wr.heap.size) (by rw [hW1]; exact heap_alloc_new wr _) (by simp)
        simp [World.cell?, this])
      have HNe := hid ((HS.out.keep0 HT1.out).next x hokx)
      obtain ⟨er, her⟩ : ∃ er, er = nxE c now (xs.take k) x := ⟨_, rfl⟩
      rw [← her] at HNe HB HP
      clear hokx her
      unfold PT nv at HNe
      unfold PT kv ev at HP
      obtain ⟨p0, p1, p2, p3, p4, p5, p6⟩ := HX.out W1 (Touch.refl _ _)
      go_upto_region 12 with fail
      rw [← hW1]
      clear hW1 r0 r1 r2 r3 r4 r5 r6
      go_upto_region 13 with (go_at_call 85; refine HNe.out.mono ?_; rintro z w2 ⟨rfl, t2⟩; have T2 := hid t2; clear t2)
      clear p0 p1 p2 p3 p4 p5 p6
      by_cases he : er ≠ 0
      · have HE := hid (HB.out he)
        clear HP HB
        go_wp2_with fail
        refine bodyPost_ret (v := .tuple #[.pointer none, .int .i64 (k : Int), .int .i64 er]) (by simp [results, Tryz.results31, go_sem]) rfl ?_
        have e1 : rp = ((k : Int), er) := HRp.out.trans HE.out
        rw [e1]
        exact ⟨_, rfl, Or.inl ⟨he, rfl, (HS.out.t.trans' HT1.out).trans' T2.out⟩⟩
      · obtain rfl : er = 0 := Classical.not_not.1 he
        have HP2 := hid (HP.out w2 (HT1.out.trans' T2.out) rfl)
        obtain ⟨p0, p1, p2, p3, p4, p5, p6⟩ := HX.out w2 T2.out
        clear HP HB he
        go_wp2_with (go_at_call 76; refine HP2.out.mono ?_; rintro z w5 ⟨u5, rfl, l5⟩; have L5 := hid l5; clear l5)
        go_roundw
        case rel => exact ⟨k + 1, by go_num, by have := HNk.out; omega, L5⟩
        case measure => simp [intOf]; have := HNk.out; omega
    · have zk : (n : Int) ≤ (k : Int) := by omega
      have HE := hid (HS.out.fin (by have := HNx.out; omega))
      go_wp2_with fail
      refine bodyPost_ret (v := .tuple #[.pointer (some ⟨m, 0, none⟩), .int .i64 0, .int .i64 0]) (by simp [results, Tryz.results31, go_sem]) rfl ?_
      obtain ⟨e1, F, q, hF⟩ := HE.out
      rw [HRp.out, e1]
      exact ⟨_, rfl, Or.inr ⟨rfl, rfl, m, F, rfl, q, hF, HS.out.t⟩⟩
theorem of15 (w : World) (c : Cf) (now : Int) (xs : List En) (v : Value) (wc : Wc c) (hl : (xs.length : Int) ≤ 9223372036854775807) (hv : RN 60 w v xs) (hok : ∀ x ∈ xs, Ok x.1) : Calls Tryz.prog 31 #[cv c, .int .i64 now, v] w fun e w' => ∃ pm, e = .returned (.tuple #[pm, .int .i64 (ofP c now xs).1, .int .i64 (ofP c now xs).2]) ∧ OfA w c now xs pm w' := by
  unfold OfA
  unfold ofP
  cases hc : okC c with
  | false =>
    rw [if_pos rfl]
    obtain ⟨a1, c1, rfl, _⟩ := hv
    refine (of15_cfg w c now a1 _ c1 hc).mono ?_
    rintro e w' ⟨rfl, t⟩
    exact ⟨_, rfl, Or.inl ⟨by decide, rfl, t⟩⟩
  | true =>
    rw [if_neg (by simp)]
    cases ht : isT now with
    | false =>
      rw [if_pos rfl]
      obtain ⟨a1, c1, rfl, _⟩ := hv
      refine (of15_tick w c now a1 _ c1 wc hc ht).mono ?_
      rintro e w' ⟨rfl, t⟩
      exact ⟨_, rfl, Or.inl ⟨by decide, rfl, t⟩⟩
    | true =>
      rw [if_neg (by simp)]
      by_cases hm : c.e < (xs.length : Int)
      · rw [if_pos hm]
        obtain ⟨a1, c1, rfl, _⟩ := hv
        refine (of15_many w c now a1 _ c1 wc hc ht hm hl).mono ?_
        rintro e w' ⟨rfl, t⟩
        exact ⟨_, rfl, Or.inl ⟨by decide, rfl, t⟩⟩
      · rw [if_neg hm]
        exact of15_go w c now xs v wc hc ht hm hv hok
end Go.Proofs.YtpefbmheblfbeaaGreat.Me
/- The contracts of the program's telling of outcomes, configurations and lists into a builder; the conditions are those that each states. -/
namespace Go.Proofs.YtpefbmheblfbeaaGreat.Sn
open Go.RowKit Go.Sort Go.Shelf Me
set_option linter.unusedVariables false
theorem Bd.at {B b : Nat} {l : List UInt8} {w : World} (h : Bd B b l w) : ∃ cs, w.heap[b]? = some (.cells cs 93 (0, 0)) := by
  rcases h.1 with ⟨_, v, q, _⟩ | ⟨_, v, q, _⟩
  · exact ⟨_, q⟩
  · exact ⟨_, q⟩
theorem cell_of {w : World} {g n : Nat} {cs : Array Value} {t : Nat} {fr : Nat × Nat} {v : Value} (h : w.heap[g]? = some (.cells cs t fr)) (hv : cs[n]? = some v) : w.cell? ⟨g, n, none⟩ = some v := by simp [World.cell?, h, hv]
theorem Wr.box {B b : Nat} {w w' : World} {cs : Array Value} {t : Nat} (h : Wr B b (w.alloc (.cells cs t)) w') (hb : b < w.heap.size) (ht : t ≠ 5) : w'.heap[w.heap.size]? = some (.cells cs t (0, 0)) :=
  h.keep _ _ (heap_alloc_new w _) (by omega) (fun c fz e => by injection e with _ e2 _; exact ht e2)
theorem Wr.from {B b : Nat} {w w1 w2 : World} (t : Touch [] w w1) (h : Wr B b w1 w2) (hB : B ≤ w.heap.size) : Wr B b w w2 :=
  ⟨(t.below (fun _ e => by cases e) hB).trans h.below, fun k o hk hb ho => h.keep k o (t.keep hk (by simp)) hb ho⟩
section
variable {B b : Nat} {l : List UInt8} {w : World}
set_option maxHeartbeats 1000000 in
theorem tellOutcome_ (h : Bd B b l w) (x : En) (hx : EnOk x) (hl : l.length ≤ 35184372088832) : Calls Tryz.prog 88 #[PT b, ov x.2.1] w fun e w' => e = .returned (.tuple #[]) ∧ Bd B b (l ++ outB x.2.1) w' ∧ Wr B b w w' := by
  obtain ⟨V, hV⟩ : ∃ V, V = w.alloc (.cells #[.int .i64 x.2.1.1, .int .i64 x.2.1.2.1, .int .i64 x.2.1.2.2.1, .int .i64 x.2.1.2.2.2] 58) := ⟨_, rfl⟩
  have tV : Touch [] w V := by rw [hV]; exact (Touch.refl _ _).alloc _
  have ck : ((UInt8.ofNat x.2.1.2.1.toNat).toNat : Int) = x.2.1.2.1 := by have := hx.k; rw [UInt8.toNat_ofNat']; omega
  have H1 := hid (writeB_ (h.touch tV) (UInt8.ofNat x.2.1.2.1.toNat) (by omega))
  rw [ck] at H1
  have HX : Hid (∀ w', Wr B b V w' → w'.heap[w.heap.size]? = some (.cells #[.int .i64 x.2.1.1, .int .i64 x.2.1.2.1, .int .i64 x.2.1.2.2.1, .int .i64 x.2.1.2.2.2] 58 (0, 0))) := hid (fun w' hw => by rw [hV] at hw; exact hw.box h.2.2 (by decide))
  have HF := hid (fun w' (hw : Wr B b V w') => Wr.from tV hw h.2.1)
  have H2 := hid (fun w' (h' : Bd B b (l ++ [UInt8.ofNat x.2.1.2.1.toNat]) w') => tellSigned_ h' x.2.1.1 hx.v.1 hx.v.2 (by rw [List.length_append]; simp; omega))
  have H3 := hid (fun w' (h' : Bd B b (l ++ [UInt8.ofNat x.2.1.2.1.toNat]) w') => tellSigned_ h' x.2.1.2.2.1 hx.c.1 hx.c.2 (by rw [List.length_append]; simp; omega))
  have H4 := hid (fun w' (h' : Bd B b (l ++ [UInt8.ofNat x.2.1.2.1.toNat] ++ sgB x.2.1.2.2.1) w') => tellNumber_ h' x.2.1.2.2.2 hx.r.1 hx.r.2 (by
    have := nB_len (sgn_b hx.c.1 hx.c.2).2
    rw [List.length_append, List.length_append]; unfold sgB; simp; omega))
  have w8 : x.2.1.2.1 % 256 = x.2.1.2.1 := by have := hx.k; omega
  have hk0 := hx.k.1
  by_cases hk : x.2.1.2.1 = 0
  · have ho : outB x.2.1 = [UInt8.ofNat x.2.1.2.1.toNat] ++ sgB x.2.1.1 := by unfold outB; rw [if_pos hk, hk]; rfl
    rw [ho]
    unfold PT ov at *
    generalize UInt8.ofNat x.2.1.2.1.toNat = cb at *
    obtain ⟨⟨sp, nm⟩, ⟨v, kd, cd, rn⟩, tk⟩ := x
    simp only at *
    subst hk
    clear h hx hl ho ck H3 H4 tV w8 hk0
    go_enter Tryz.func88, Tryz.ntmps88
    go_wp2_with (first
      | (rw [← hV]; go_at_call 125; refine H1.out.mono ?_; rintro e w1 ⟨rfl, b1, r1⟩; have hb1 := HX.out _ r1; have c0 := cell_of (n := 0) hb1 rfl; have c1 := cell_of (n := 1) hb1 rfl; clear hb1)
      | (go_at_call 126; refine (H2.out _ b1).mono ?_; rintro e w2 ⟨rfl, b2, r2⟩))
    exact bodyPost_ret (v := .tuple #[]) (by simp [results, Tryz.results88, go_sem]) rfl ⟨rfl, by simpa using b2, HF.out _ (r1.trans r2)⟩
  · have ho : outB x.2.1 = [UInt8.ofNat x.2.1.2.1.toNat] ++ (sgB x.2.1.2.2.1 ++ nB x.2.1.2.2.2) := by unfold outB; rw [if_neg hk]
    rw [ho]
    unfold PT ov at *
    generalize UInt8.ofNat x.2.1.2.1.toNat = cb at *
    obtain ⟨⟨sp, nm⟩, ⟨v, kd, cd, rn⟩, tk⟩ := x
    simp only at *
    clear h hx hl ho ck H2 tV
    go_enter Tryz.func88, Tryz.ntmps88
    go_wp2_with (first
      | (rw [← hV]; go_at_call 125; refine H1.out.mono ?_; rintro e w1 ⟨rfl, b1, r1⟩; have hb1 := HX.out _ r1; have c2 := cell_of (n := 2) hb1 rfl; have c1 := cell_of (n := 1) hb1 rfl; clear hb1)
      | (go_at_call 126; refine (H3.out _ b1).mono ?_; rintro e w2 ⟨rfl, b2, r2⟩; have c3 := cell_of (n := 3) (HX.out _ (r1.trans r2)) rfl; clear c2 c1)
      | (go_at_call 36; refine (H4.out _ b2).mono ?_; rintro e w3 ⟨rfl, b3, r3⟩))
    go_end0
    exact ⟨rfl, by rw [List.append_assoc, List.append_assoc] at b3; exact b3, HF.out _ ((r1.trans r2).trans r3)⟩
structure CfOk (c : Cf) : Prop where
  t : 0 ≤ c.t ∧ c.t ≤ 9223372036854775807
  n : 0 ≤ c.n ∧ c.n ≤ 9223372036854775807
  s : 0 ≤ c.s ∧ c.s ≤ 9223372036854775807
  e : 0 ≤ c.e ∧ c.e ≤ 9223372036854775807
  f : 0 ≤ c.f ∧ c.f ≤ 9223372036854775807
  b : 0 ≤ c.b ∧ c.b ≤ 9223372036854775807
  d : 0 ≤ c.d ∧ c.d ≤ 9223372036854775807
set_option maxHeartbeats 2000000 in
theorem tellConfig_ (h : Bd B b l w) (c : Cf) (hc : CfOk c) (hl : l.length ≤ 35184372088832) : Calls Tryz.prog 34 #[PT b, cv c] w fun e w' => e = .returned (.tuple #[]) ∧ Bd B b (l ++ cfgB c) w' ∧ Wr B b w w' := by
  obtain ⟨V, hV⟩ : ∃ V, V = w.alloc (.cells #[.int .i64 c.t, .int .i64 c.n, .int .i64 c.s, .int .i64 c.e, .int .i64 c.f, .int .i64 c.b, .int .i64 c.d] 23) := ⟨_, rfl⟩
  have tV : Touch [] w V := by rw [hV]; exact (Touch.refl _ _).alloc _
  have b0 := h.touch tV
  have HX : Hid (∀ w', Wr B b V w' → w'.heap[w.heap.size]? = some (.cells #[.int .i64 c.t, .int .i64 c.n, .int .i64 c.s, .int .i64 c.e, .int .i64 c.f, .int .i64 c.b, .int .i64 c.d] 23 (0, 0))) := hid (fun w' hw => by rw [hV] at hw; exact hw.box h.2.2 (by decide))
  have HF := hid (fun w' (hw : Wr B b V w') => Wr.from tV hw h.2.1)
  have H0 := hid (fun w' (h' : Bd B b l w') => tellNumber_ h' c.t hc.t.1 hc.t.2 (by omega))
  have H1 := hid (fun w' (h' : Bd B b (l ++ nB c.t) w') => tellNumber_ h' c.n hc.n.1 hc.n.2 (by have := nB_len (n := c.t) (by have := hc.t.2; omega); simp only [List.length_append]; omega))
  have H2 := hid (fun w' (h' : Bd B b ((l ++ nB c.t) ++ nB c.n) w') => tellNumber_ h' c.s hc.s.1 hc.s.2 (by have := nB_len (n := c.t) (by have := hc.t.2; omega); have := nB_len (n := c.n) (by have := hc.n.2; omega); simp only [List.length_append]; omega))
  have H3 := hid (fun w' (h' : Bd B b (((l ++ nB c.t) ++ nB c.n) ++ nB c.s) w') => tellNumber_ h' c.e hc.e.1 hc.e.2 (by have := nB_len (n := c.t) (by have := hc.t.2; omega); have := nB_len (n := c.n) (by have := hc.n.2; omega); have := nB_len (n := c.s) (by have := hc.s.2; omega); simp only [List.length_append]; omega))
  have H4 := hid (fun w' (h' : Bd B b ((((l ++ nB c.t) ++ nB c.n) ++ nB c.s) ++ nB c.e) w') => tellNumber_ h' c.f hc.f.1 hc.f.2 (by have := nB_len (n := c.t) (by have := hc.t.2; omega); have := nB_len (n := c.n) (by have := hc.n.2; omega); have := nB_len (n := c.s) (by have := hc.s.2; omega); have := nB_len (n := c.e) (by have := hc.e.2; omega); simp only [List.length_append]; omega))
  have H5 := hid (fun w' (h' : Bd B b (((((l ++ nB c.t) ++ nB c.n) ++ nB c.s) ++ nB c.e) ++ nB c.f) w') => tellNumber_ h' c.b hc.b.1 hc.b.2 (by have := nB_len (n := c.t) (by have := hc.t.2; omega); have := nB_len (n := c.n) (by have := hc.n.2; omega); have := nB_len (n := c.s) (by have := hc.s.2; omega); have := nB_len (n := c.e) (by have := hc.e.2; omega); have := nB_len (n := c.f) (by have := hc.f.2; omega); simp only [List.length_append]; omega))
  have H6 := hid (fun w' (h' : Bd B b ((((((l ++ nB c.t) ++ nB c.n) ++ nB c.s) ++ nB c.e) ++ nB c.f) ++ nB c.b) w') => tellNumber_ h' c.d hc.d.1 hc.d.2 (by have := nB_len (n := c.t) (by have := hc.t.2; omega); have := nB_len (n := c.n) (by have := hc.n.2; omega); have := nB_len (n := c.s) (by have := hc.s.2; omega); have := nB_len (n := c.e) (by have := hc.e.2; omega); have := nB_len (n := c.f) (by have := hc.f.2; omega); have := nB_len (n := c.b) (by have := hc.b.2; omega); simp only [List.length_append]; omega))
  have HE : Hid ((((((((l ++ nB c.t) ++ nB c.n) ++ nB c.s) ++ nB c.e) ++ nB c.f) ++ nB c.b) ++ nB c.d) = l ++ cfgB c) := hid (by unfold cfgB; simp only [List.append_assoc])
  have hbx := HX.out V (Wr.refl _ _ _)
  have c0 := cell_of (n := 0) hbx rfl
  have r0 := Wr.refl B b V
  clear hbx
  unfold PT cv at *
  clear h hc hl tV
  go_enter Tryz.func34, Tryz.ntmps34
  go_upto_region 1 with fail
  rw [← hV]
  clear hV
  go_upto_region 2 with (go_at_call 36; refine (H0.out _ b0).mono ?_; rintro e w1 ⟨rfl, b1, q1⟩; have r1 := r0.trans q1; have c1 := cell_of (n := 1) (HX.out _ r1) rfl; clear c0 H0 b0 r0 q1)
  go_upto_region 3 with (go_at_call 36; refine (H1.out _ b1).mono ?_; rintro e w2 ⟨rfl, b2, q2⟩; have r2 := r1.trans q2; have c2 := cell_of (n := 2) (HX.out _ r2) rfl; clear c1 H1 b1 r1 q2)
  go_upto_region 4 with (go_at_call 36; refine (H2.out _ b2).mono ?_; rintro e w3 ⟨rfl, b3, q3⟩; have r3 := r2.trans q3; have c3 := cell_of (n := 3) (HX.out _ r3) rfl; clear c2 H2 b2 r2 q3)
  go_upto_region 5 with (go_at_call 36; refine (H3.out _ b3).mono ?_; rintro e w4 ⟨rfl, b4, q4⟩; have r4 := r3.trans q4; have c4 := cell_of (n := 4) (HX.out _ r4) rfl; clear c3 H3 b3 r3 q4)
  go_upto_region 6 with (go_at_call 36; refine (H4.out _ b4).mono ?_; rintro e w5 ⟨rfl, b5, q5⟩; have r5 := r4.trans q5; have c5 := cell_of (n := 5) (HX.out _ r5) rfl; clear c4 H4 b4 r4 q5)
  go_upto_region 7 with (go_at_call 36; refine (H5.out _ b5).mono ?_; rintro e w6 ⟨rfl, b6, q6⟩; have r6 := r5.trans q6; have c6 := cell_of (n := 6) (HX.out _ r6) rfl; clear c5 H5 b5 r5 q6)
  go_wp2_with (go_at_call 36; refine (H6.out _ b6).mono ?_; rintro e w7 ⟨rfl, b7, q7⟩; have r7 := r6.trans q7; clear c6 H6 b6 r6 q7)
  go_end0
  exact ⟨rfl, by rw [← HE.out]; exact b7, HF.out _ r7⟩
theorem RN.wr {t : Nat} {w w' : World} {v : Value} {xs : List En} {B b : Nat} {l : List UInt8} (h : RN t w v xs) (hb : Bd B b l w) (hw : Wr B b w w') (h1 : t ≠ 5) (h2 : t ≠ 93) : RN t w' v xs :=
  h.keepK (fun r cs hc => hw.keep r _ hc (fun e => by
    obtain ⟨cs', hb'⟩ := hb.at
    rw [e, hb'] at hc
    injection hc with hc
    injection hc with _ e2 _
    exact h2 e2.symm) (fun c fz e => by injection e with _ e2 _; exact h1 e2))
set_option maxHeartbeats 2000000 in
theorem tellEntries_ (h : Bd B b l w) (xs : List En) (v : Value) (hv : RN 60 w v xs) (hx : ∀ x ∈ xs, EnOk x) (hl : l.length ≤ 1000000000) (hn : xs.length ≤ 70000) : Calls Tryz.prog 37 #[PT b, v] w fun e w' => e = .returned (.tuple #[]) ∧ Bd B b (l ++ entsB xs) w' ∧ Wr B b w w' := by
  obtain ⟨a, c, rfl, hnc, hat⟩ := id hv
  have H1 := hid (tellNumber_ h (xs.length : Int) (by omega) (by omega) (by omega))
  obtain ⟨n, hn'⟩ : ∃ n, n = xs.length := ⟨_, rfl⟩
  rw [← hn'] at H1 hv ⊢
  have HN := hid hn'
  have HL : Hid (∀ i, (l ++ nB (n : Int) ++ (xs.take i).flatMap entB).length ≤ 2000000000) := hid (fun i => by
    have q1 := nB_len (n := (n : Int)) (by omega)
    have q2 := flat_le (xs := xs.take i) (fun x hx' => hx x (List.mem_of_mem_take hx'))
    rw [List.length_take] at q2
    simp only [List.length_append]
    omega)
  have HR := hid (fun w' (hw : Wr B b w w') => RN.wr hv h hw (by decide) (by decide))
  have HX := hid hx
  have HB := hid h.2
  have HN7 : Hid (n ≤ 70000) := hid (by omega)
  have HG : Hid (0 < n → ∃ g off, a = some ⟨g, off, none⟩) := hid (fun hp => by obtain ⟨g, off, e, _⟩ := hat (by omega); exact ⟨g, off, e⟩)
  have HE : Hid (l ++ entsB xs = l ++ nB (n : Int) ++ xs.flatMap entB) := hid (by unfold entsB; rw [hn', List.append_assoc])
  unfold PT at *
  clear h hx hl hn hn' hv hat hnc
  go_enter Tryz.func37, Tryz.ntmps37
  go_wp2_with (go_at_call 36; refine H1.out.mono ?_; rintro e w1 ⟨rfl, b1, q1⟩)
  have HI0 : Hid (Bd B b (l ++ nB (n : Int) ++ (xs.take 0).flatMap entB) w1 ∧ Wr B b w w1) := hid ⟨by simpa using b1, q1⟩
  clear b1 q1 H1
  go_loopw [5, 12] (fun _ i wr => ∃ p : Nat, i = .int .i64 p ∧ p ≤ n ∧ Hid (Bd B b (l ++ nB (n : Int) ++ (xs.take p).flatMap entB) wr ∧ Wr B b w wr)) (fun _ i _ => n - (intOf i).toNat)
  case atStart => exact ⟨0, rfl, Nat.zero_le _, HI0⟩
  case round =>
    clear HI0
    obtain ⟨p, rfl, hp, HI⟩ := hrel
    by_cases hlt : p < n
    · have zp : (p : Int) < (n : Int) := by omega
      have hix : p < xs.length := by have := HN.out; omega
      obtain ⟨g, off, rfl⟩ := HG.out (by omega)
      have hat := (HR.out _ HI.out.2).at1 (by omega)
      have r0 := hat.cell p 0 hix (by omega) rfl
      have r1 := hat.cell p 1 hix (by omega) rfl
      have r2 := hat.cell p 2 hix (by omega) rfl
      have r3 := hat.cell p 3 hix (by omega) rfl
      have r4 := hat.cell p 4 hix (by omega) rfl
      have r5 := hat.cell p 5 hix (by omega) rfl
      have r6 := hat.cell p 6 hix (by omega) rfl
      rw [Nat.add_zero] at r0
      simp only [← Nat.add_assoc] at r1 r2 r3 r4 r5 r6
      have hok := HX.out xs[p] (List.getElem_mem hix)
      have HT : Hid (l ++ nB (n : Int) ++ (xs.take (p + 1)).flatMap entB = l ++ nB (n : Int) ++ (xs.take p).flatMap entB ++ keyB xs[p].1 ++ nB xs[p].2.2 ++ outB xs[p].2.1) := hid (by
        rw [List.take_succ_eq_append_getElem hix, List.flatMap_append]
        simp [entB, List.append_assoc])
      have hL := HL.out p
      have wp1 : IntKind.i64.wrap ((p : Int) + 1) = (p : Int) + 1 := by rw [IntKind.wrap_i64]; have := HN7.out; omega
      have HNk := hid (And.intro hp hlt)
      generalize xs[p] = x at *
      generalize l ++ nB (n : Int) ++ (xs.take p).flatMap entB = L at *
      have nk := nB_len (n := x.2.2) (by have := hok.t1; omega)
      have kl := keyB_len x.1
      have hnm := hok.nm
      obtain ⟨W1, hW1⟩ : ∃ W1, W1 = wr.alloc (.cells #[.int .u16 x.1.1, .string x.1.2, .int .i64 x.2.1.1, .int .i64 x.2.1.2.1, .int .i64 x.2.1.2.2.1, .int .i64 x.2.1.2.2.2, .int .i64 x.2.2] 60) := ⟨_, rfl⟩
      have tW : Touch [] wr W1 := by rw [hW1]; exact (Touch.refl _ _).alloc _
      have HX1 : Hid (∀ w', Wr B b W1 w' → w'.heap[wr.heap.size]? = some (.cells #[.int .u16 x.1.1, .string x.1.2, .int .i64 x.2.1.1, .int .i64 x.2.1.2.1, .int .i64 x.2.1.2.2.1, .int .i64 x.2.1.2.2.2, .int .i64 x.2.2] 60 (0, 0))) := hid (fun w' hw => by rw [hW1] at hw; exact hw.box HI.out.1.2.2 (by decide))
      have HF := hid (fun w' (hw : Wr B b W1 w') => HI.out.2.trans (Wr.from tW hw HI.out.1.2.1))
      have K1 := hid (tellKey_ (HI.out.1.touch tW) x.1 hok.s0 hok.s1 hok.nm (by omega))
      have K2 := hid (fun w' (h' : Bd B b (L ++ keyB x.1) w') => tellNumber_ h' x.2.2 hok.t0 hok.t1 (by rw [List.length_append]; omega))
      have K3 := hid (fun w' (h' : Bd B b (L ++ keyB x.1 ++ nB x.2.2) w') => tellOutcome_ h' x hok (by rw [List.length_append, List.length_append]; omega))
      have hbx := HX1.out W1 (Wr.refl _ _ _)
      have p0 := cell_of (n := 0) hbx rfl
      have p1 := cell_of (n := 1) hbx rfl
      have s0 := Wr.refl B b W1
      obtain ⟨⟨sp, nm⟩, ⟨vl, kd, cd, rn⟩, tk⟩ := x
      unfold PT kv ov at *
      simp only at *
      clear hat hbx hok hL nk kl hnm hp hlt tW hix
      go_upto_region 4 with fail
      rw [← hW1]
      clear hW1
      clear r0 r1 r2 r3 r4 r5 r6
      go_upto_region 5 with (go_at_call 87; refine K1.out.mono ?_; rintro e w2 ⟨rfl, b2, q2⟩; have p6 := cell_of (n := 6) (HX1.out _ q2) rfl; clear p0 p1 s0)
      go_upto_region 6 with (go_at_call 36; refine (K2.out _ b2).mono ?_; rintro e w3 ⟨rfl, b3, q3⟩; have s3 := q2.trans q3; have p2 := cell_of (n := 2) (HX1.out _ s3) rfl; have p3 := cell_of (n := 3) (HX1.out _ s3) rfl; have p4 := cell_of (n := 4) (HX1.out _ s3) rfl; have p5 := cell_of (n := 5) (HX1.out _ s3) rfl; clear p6 b2 q2 q3)
      go_wp2_with (go_at_call 88; refine (K3.out _ b3).mono ?_; rintro e w4 ⟨rfl, b4, q4⟩; have s4 := s3.trans q4; clear p2 p3 p4 p5 b3 s3 q4)
      go_roundw
      case rel => exact ⟨p + 1, by go_num, by have := HNk.out; omega, hid ⟨by rw [HT.out]; exact b4, HF.out _ s4⟩⟩
      case measure => simp [intOf]; have := HNk.out; omega
    · have zp : ¬ (p : Int) < (n : Int) := by omega
      have HZ : Hid (Bd B b (l ++ entsB xs) wr ∧ Wr B b w wr) := hid ⟨by
        have := HI.out.1
        rw [List.take_of_length_le (by have := HN.out; omega)] at this
        rw [HE.out]; exact this, HI.out.2⟩
      clear HI HL HR HX HE HN
      go_wp2
      go_end0
      exact ⟨rfl, HZ.out⟩
end
end Go.Proofs.YtpefbmheblfbeaaGreat.Sn
