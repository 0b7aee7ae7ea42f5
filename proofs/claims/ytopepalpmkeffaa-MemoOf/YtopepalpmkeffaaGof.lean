/- What Of asks of one entry more, and what it answers, as plain functions; the contract of checkNext; no conditions but those that each states. -/
import Derived.Test.YtopepalpmkeffaaKep
import Derived.Test.YtopepalpmkeffaaPuw
import Derived.Test.YtopepalpmkeffaaGet
import Derived.Test.YtopepalpmkeffaaNew
import Derived.Test.YtopepalpmkeffaaDfd
import Derived.Test.YtopepalpmkeffaaOpn
import Derived.Test.YtopepalpmkeffaaChk
import Derived.Test.YtopepalpmkeffaaSmr
import Derived.Test.YtopepalpmkeffaaOpa
import Derived.SizedLaws
namespace Go.Proofs.Ytopepalpmkeffaa
open Go.RowKit Go.Sort Go.Maps Go.ChangeMaps Go.WideMaps
set_option linter.unusedVariables false
set_option linter.unusedSimpArgs false
def nxE (c : Cf) (now : Int) (xs : List En) (x : En) : Int := if pairE x.1 x.2.1 ≠ 0 then pairE x.1 x.2.1 else if ((fnd xs x.1).isSome || !keepsC c x.2.1 || decide (x.2.2 < 0) || decide (now < x.2.2)) = true then 1 else 0
def ofL (c : Cf) (now : Int) : List En → List En → Int → Int × Int
  | _, [], _ => (0, 0)
  | done, x :: rest, i => if nxE c now done x ≠ 0 then (i, nxE c now done x) else ofL c now (done ++ [x]) rest (i + 1)
def ofP (c : Cf) (now : Int) (xs : List En) : Int × Int := if okC c = false then (0, 100) else if isT now = false then (0, 10) else if c.e < (xs.length : Int) then (0, 3) else ofL c now [] xs 0
set_option maxHeartbeats 4000000 in
set_option maxRecDepth 100000 in
theorem next40_pair (w : World) (m b o : Nat) (G : List Nat) (c : Cf) (now : Int) (xs : List En) (h : Mb w m b o G c now xs) (x : En) (hk : Ok x.1) (hp : pairE x.1 x.2.1 ≠ 0) : Calls Try.prog 40 #[PT m, nv x] w fun e w' => e = .returned (.int .i64 (pairE x.1 x.2.1)) ∧ Touch [] w w' := by
  obtain ⟨V, hV⟩ : ∃ V, V = w.alloc (.cells #[.int .u16 x.1.1, .string x.1.2, .int .i64 x.2.1.1, .int .i64 x.2.1.2.1, .int .i64 x.2.1.2.2.1, .int .i64 x.2.1.2.2.2, .int .i64 x.2.2] 56) := ⟨_, rfl⟩
  have TV : Hid (Touch [] w V) := hid (by rw [hV]; exact (Touch.refl _ _).alloc _)
  have HX : Hid (∀ w', Touch [] V w' → w'.cell? ⟨w.heap.size, 0, none⟩ = some (.int .u16 x.1.1) ∧ w'.cell? ⟨w.heap.size, 1, none⟩ = some (.string x.1.2) ∧ w'.cell? ⟨w.heap.size, 2, none⟩ = some (.int .i64 x.2.1.1) ∧ w'.cell? ⟨w.heap.size, 3, none⟩ = some (.int .i64 x.2.1.2.1) ∧ w'.cell? ⟨w.heap.size, 4, none⟩ = some (.int .i64 x.2.1.2.2.1) ∧ w'.cell? ⟨w.heap.size, 5, none⟩ = some (.int .i64 x.2.1.2.2.2) ∧ w'.cell? ⟨w.heap.size, 6, none⟩ = some (.int .i64 x.2.2)) := hid (fun w' t => by
    have := t.keep (k := w.heap.size) (by rw [hV]; exact heap_alloc_new w _) (by simp)
    simp [World.cell?, this])
  obtain ⟨x0, x1, x2, x3, x4, x5, x6⟩ := HX.out V (Touch.refl _ _)
  have HP := hid (pair46 V x.1 x.2.1)
  unfold kv ov at HP
  generalize pairE x.1 x.2.1 = pe at *
  clear h
  unfold PT nv
  go_enter Try.func40, Try.ntmps40
  go_upto_region 1 with fail
  rw [← hV]
  clear hV
  go_wp2_with (go_at_call 46; refine HP.out.mono ?_; rintro e w2 ⟨rfl, t2⟩; have T2 := hid (TV.out.trans' t2); clear t2)
  go_ret
  exact ⟨rfl, T2.out⟩
set_option maxHeartbeats 4000000 in
set_option maxRecDepth 100000 in
theorem next40_some (w : World) (m b o : Nat) (G : List Nat) (c : Cf) (now : Int) (xs : List En) (h : Mb w m b o G c now xs) (x : En) (hk : Ok x.1) (hp : pairE x.1 x.2.1 = 0) (v : V) (hf : fnd xs x.1 = some v) : Calls Try.prog 40 #[PT m, nv x] w fun e w' => e = .returned (.int .i64 1) ∧ Touch [] w w' := by
  obtain ⟨V, hV⟩ : ∃ V, V = w.alloc (.cells #[.int .u16 x.1.1, .string x.1.2, .int .i64 x.2.1.1, .int .i64 x.2.1.2.1, .int .i64 x.2.1.2.2.1, .int .i64 x.2.1.2.2.2, .int .i64 x.2.2] 56) := ⟨_, rfl⟩
  have TV : Hid (Touch [] w V) := hid (by rw [hV]; exact (Touch.refl _ _).alloc _)
  have HX : Hid (∀ w', Touch [] V w' → w'.cell? ⟨w.heap.size, 0, none⟩ = some (.int .u16 x.1.1) ∧ w'.cell? ⟨w.heap.size, 1, none⟩ = some (.string x.1.2) ∧ w'.cell? ⟨w.heap.size, 2, none⟩ = some (.int .i64 x.2.1.1) ∧ w'.cell? ⟨w.heap.size, 3, none⟩ = some (.int .i64 x.2.1.2.1) ∧ w'.cell? ⟨w.heap.size, 4, none⟩ = some (.int .i64 x.2.1.2.2.1) ∧ w'.cell? ⟨w.heap.size, 5, none⟩ = some (.int .i64 x.2.1.2.2.2) ∧ w'.cell? ⟨w.heap.size, 6, none⟩ = some (.int .i64 x.2.2)) := hid (fun w' t => by
    have := t.keep (k := w.heap.size) (by rw [hV]; exact heap_alloc_new w _) (by simp)
    simp [World.cell?, this])
  obtain ⟨x0, x1, x2, x3, x4, x5, x6⟩ := HX.out V (Touch.refl _ _)
  have HP := hid (pair46 V x.1 x.2.1)
  unfold kv ov at HP
  rw [hp] at HP
  clear hp
  unfold PT nv
  go_enter Try.func40, Try.ntmps40
  go_upto_region 1 with fail
  rw [← hV]
  clear hV
  go_upto_region 4 with (go_at_call 46; refine HP.out.mono ?_; rintro e w2 ⟨rfl, t2⟩; have T2 := hid (TV.out.trans' t2); have T2v := hid t2; clear t2)
  clear x0 x1 x2 x3 x4 x5 x6
  have sA : ∀ w', Touch [] w2 w' → w'.cell? ⟨m, 8, none⟩ = some (.map (some b)) := fun w' t => (h.keep0 (T2.out.trans' t)).md.cs.c8
  have sB : ∀ w', Touch [] w2 w' → w'.cell? ⟨w.heap.size, 0, none⟩ = some (.int .u16 x.1.1) := fun w' t => (HX.out w' (T2v.out.trans' t)).1
  have sC : ∀ w', Touch [] w2 w' → w'.cell? ⟨w.heap.size, 1, none⟩ = some (.string x.1.2) := fun w' t => (HX.out w' (T2v.out.trans' t)).2.1
  have sL : ∀ w', Touch [] w2 w' → (Instr.lookup 91 (.map (some b)) (.agg #[.int .u16 x.1.1, .string x.1.2]) true).run Try.prog w' = .ok (.tuple #[.agg #[.int .i64 v.1.1, .int .i64 v.1.2.1, .int .i64 v.1.2.2.1, .int .i64 v.1.2.2.2, .int .i64 v.2], .bool true]) w' := fun w' t => by
    have := (h.keep0 (T2.out.trans' t)).look hk
    rw [hf] at this
    exact this
  obtain ⟨U, hU⟩ : ∃ U, U = (w2.alloc (.cells #[.int .i64 v.1.1, .int .i64 v.1.2.1, .int .i64 v.1.2.2.1, .int .i64 v.1.2.2.2, .int .i64 v.2] 108)).drew := ⟨_, rfl⟩
  have TU2 : Touch [] w2 U := by rw [hU]; exact ((Touch.refl _ _).alloc _).drew
  have TU : Hid (Touch [] w U) := hid (T2.out.trans' TU2)
  have HM := hid (h.keep0 TU.out)
  have HXU := hid (fun w' (t : Touch [] U w') => HX.out w' ((T2v.out.trans' TU2).trans' t))
  have t0 : Touch [] w2 w2.drew := (Touch.refl _ _).drew
  go_region_held3 (fun w' => Touch [] w2 w') (repeat (first | assumption | exact Touch.refl _ _ | apply Touch.alloc | apply Touch.drew | (refine Touch.setCell ?_ (Or.inr (by simp)) _))) (fail)
  all_goals
    clear sA sB sC sL t0
    rw [← hU]
    clear hU TU2
    go_upto_region 5 with fail
    have sM7 : ∀ w', Touch [] U w' → w'.cell? ⟨m, 7, none⟩ = some (.int .i64 now) := fun w' t => (HM.out.keep0 t).md.cs.c7
    have sX0 : ∀ w', Touch [] U w' → w'.cell? ⟨w.heap.size, 0, none⟩ = some (.int .u16 x.1.1) := fun w' t => (HXU.out w' t).1
    have sX1 : ∀ w', Touch [] U w' → w'.cell? ⟨w.heap.size, 1, none⟩ = some (.string x.1.2) := fun w' t => (HXU.out w' t).2.1
    have sX2 : ∀ w', Touch [] U w' → w'.cell? ⟨w.heap.size, 2, none⟩ = some (.int .i64 x.2.1.1) := fun w' t => (HXU.out w' t).2.2.1
    have sX3 : ∀ w', Touch [] U w' → w'.cell? ⟨w.heap.size, 3, none⟩ = some (.int .i64 x.2.1.2.1) := fun w' t => (HXU.out w' t).2.2.2.1
    have sX4 : ∀ w', Touch [] U w' → w'.cell? ⟨w.heap.size, 4, none⟩ = some (.int .i64 x.2.1.2.2.1) := fun w' t => (HXU.out w' t).2.2.2.2.1
    have sX5 : ∀ w', Touch [] U w' → w'.cell? ⟨w.heap.size, 5, none⟩ = some (.int .i64 x.2.1.2.2.2) := fun w' t => (HXU.out w' t).2.2.2.2.2.1
    have sX6 : ∀ w', Touch [] U w' → w'.cell? ⟨w.heap.size, 6, none⟩ = some (.int .i64 x.2.2) := fun w' t => (HXU.out w' t).2.2.2.2.2.2
    have s0 : Touch [] U U.drew := (Touch.refl _ _).drew
    refine wp_region_H (S := fun w' => Touch [] U w') (by kernel_rfl) ?_
    refine wpH_take (i := 0) (v := (.bool true)) (some 26) rfl rfl (by kernel_rfl) (by kernel_rfl) (by kernel_rfl) (fun _ _ _ h => h) (Or.inl ⟨by rfl, fun w' hS => (by go_simp)⟩) s0 ?_
    try simp only [Go.Act.put, List.setIfInBounds_toArray, List.set_cons_zero, List.set_cons_succ]
    refine wpH_take (i := 1) (v := (.bool true)) (some 27) rfl rfl (by kernel_rfl) (by kernel_rfl) (by kernel_rfl) (fun _ _ _ h => h) (Or.inl ⟨by rfl, fun w' hS => (by go_simp)⟩) s0 ?_
    try simp only [Go.Act.put, List.setIfInBounds_toArray, List.set_cons_zero, List.set_cons_succ]
    refine wpH_take (i := 2) (v := undef) (some 28) rfl rfl (by kernel_rfl) (by kernel_rfl) (by kernel_rfl) (fun _ _ _ h => h) (Or.inr ⟨by rfl, rfl⟩) s0 ?_
    try simp only [Go.Act.put, List.setIfInBounds_toArray, List.set_cons_zero, List.set_cons_succ]
    refine wpH_take (i := 3) (v := undef) (some 29) rfl rfl (by kernel_rfl) (by kernel_rfl) (by kernel_rfl) (fun _ _ _ h => h) (Or.inr ⟨by rfl, rfl⟩) s0 ?_
    try simp only [Go.Act.put, List.setIfInBounds_toArray, List.set_cons_zero, List.set_cons_succ]
    refine wpH_take (i := 4) (v := undef) (some 30) rfl rfl (by kernel_rfl) (by kernel_rfl) (by kernel_rfl) (fun _ _ _ h => h) (Or.inr ⟨by rfl, rfl⟩) s0 ?_
    try simp only [Go.Act.put, List.setIfInBounds_toArray, List.set_cons_zero, List.set_cons_succ]
    refine wpH_take (i := 5) (v := undef) (some 31) rfl rfl (by kernel_rfl) (by kernel_rfl) (by kernel_rfl) (fun _ _ _ h => h) (Or.inr ⟨by rfl, rfl⟩) s0 ?_
    try simp only [Go.Act.put, List.setIfInBounds_toArray, List.set_cons_zero, List.set_cons_succ]
    refine wpH_take (i := 6) (v := undef) (some 32) rfl rfl (by kernel_rfl) (by kernel_rfl) (by kernel_rfl) (fun _ _ _ h => h) (Or.inr ⟨by rfl, rfl⟩) s0 ?_
    try simp only [Go.Act.put, List.setIfInBounds_toArray, List.set_cons_zero, List.set_cons_succ]
    refine wpH_take (i := 7) (v := (.bool true)) (some 33) rfl rfl (by kernel_rfl) (by kernel_rfl) (by kernel_rfl) (fun _ _ _ h => h) (Or.inl ⟨by rfl, fun w' hS => (by go_simp)⟩) s0 ?_
    try simp only [Go.Act.put, List.setIfInBounds_toArray, List.set_cons_zero, List.set_cons_succ]
    refine wpH_take (i := 8) (v := (.bool true)) (some 34) rfl rfl (by kernel_rfl) (by kernel_rfl) (by kernel_rfl) (fun _ _ _ h => h) (Or.inl ⟨by rfl, fun w' hS => (by go_simp)⟩) s0 ?_
    try simp only [Go.Act.put, List.setIfInBounds_toArray, List.set_cons_zero, List.set_cons_succ]
    refine wpH_take (i := 9) (v := undef) (some 35) rfl rfl (by kernel_rfl) (by kernel_rfl) (by kernel_rfl) (fun _ _ _ h => h) (Or.inr ⟨by rfl, rfl⟩) s0 ?_
    try simp only [Go.Act.put, List.setIfInBounds_toArray, List.set_cons_zero, List.set_cons_succ]
    refine wpH_take (i := 10) (v := undef) (some 36) rfl rfl (by kernel_rfl) (by kernel_rfl) (by kernel_rfl) (fun _ _ _ h => h) (Or.inr ⟨by rfl, rfl⟩) s0 ?_
    try simp only [Go.Act.put, List.setIfInBounds_toArray, List.set_cons_zero, List.set_cons_succ]
    refine wpH_take (i := 11) (v := undef) (some 37) rfl rfl (by kernel_rfl) (by kernel_rfl) (by kernel_rfl) (fun _ _ _ h => h) (Or.inr ⟨by rfl, rfl⟩) s0 ?_
    try simp only [Go.Act.put, List.setIfInBounds_toArray, List.set_cons_zero, List.set_cons_succ]
    refine wpH_take (i := 12) (v := (.bool true)) (some 38) rfl rfl (by kernel_rfl) (by kernel_rfl) (by kernel_rfl) (fun _ _ _ h => h) (Or.inl ⟨by rfl, fun w' hS => (by go_simp)⟩) s0 ?_
    try simp only [Go.Act.put, List.setIfInBounds_toArray, List.set_cons_zero, List.set_cons_succ]
    refine wpH_take (i := 13) (v := (.bool true)) (some 39) rfl rfl (by kernel_rfl) (by kernel_rfl) (by kernel_rfl) (fun _ _ _ h => h) (Or.inl ⟨by rfl, fun w' hS => (by go_simp)⟩) s0 ?_
    try simp only [Go.Act.put, List.setIfInBounds_toArray, List.set_cons_zero, List.set_cons_succ]
    refine wpH_take (i := 14) (v := undef) (some 40) rfl rfl (by kernel_rfl) (by kernel_rfl) (by kernel_rfl) (fun _ _ _ h => h) (Or.inr ⟨by rfl, rfl⟩) s0 ?_
    try simp only [Go.Act.put, List.setIfInBounds_toArray, List.set_cons_zero, List.set_cons_succ]
    refine wpH_take (i := 15) (v := undef) (some 41) rfl rfl (by kernel_rfl) (by kernel_rfl) (by kernel_rfl) (fun _ _ _ h => h) (Or.inr ⟨by rfl, rfl⟩) s0 ?_
    try simp only [Go.Act.put, List.setIfInBounds_toArray, List.set_cons_zero, List.set_cons_succ]
    refine wpH_take (i := 16) (v := undef) (some 42) rfl rfl (by kernel_rfl) (by kernel_rfl) (by kernel_rfl) (fun _ _ _ h => h) (Or.inr ⟨by rfl, rfl⟩) s0 ?_
    try simp only [Go.Act.put, List.setIfInBounds_toArray, List.set_cons_zero, List.set_cons_succ]
    refine wpH_take (i := 17) (v := undef) (some 43) rfl rfl (by kernel_rfl) (by kernel_rfl) (by kernel_rfl) (fun _ _ _ h => h) (Or.inr ⟨by rfl, rfl⟩) s0 ?_
    try simp only [Go.Act.put, List.setIfInBounds_toArray, List.set_cons_zero, List.set_cons_succ]
    refine wpH_take (i := 18) (v := undef) (some 44) rfl rfl (by kernel_rfl) (by kernel_rfl) (by kernel_rfl) (fun _ _ _ h => h) (Or.inr ⟨by rfl, rfl⟩) s0 ?_
    try simp only [Go.Act.put, List.setIfInBounds_toArray, List.set_cons_zero, List.set_cons_succ]
    refine wpH_take (i := 19) (v := undef) (some 45) rfl rfl (by kernel_rfl) (by kernel_rfl) (by kernel_rfl) (fun _ _ _ h => h) (Or.inr ⟨by rfl, rfl⟩) s0 ?_
    try simp only [Go.Act.put, List.setIfInBounds_toArray, List.set_cons_zero, List.set_cons_succ]
    refine wpH_take (i := 20) (v := undef) (some 46) rfl rfl (by kernel_rfl) (by kernel_rfl) (by kernel_rfl) (fun _ _ _ h => h) (Or.inr ⟨by rfl, rfl⟩) s0 ?_
    try simp only [Go.Act.put, List.setIfInBounds_toArray, List.set_cons_zero, List.set_cons_succ]
    refine wpH_take (i := 21) (v := (.bool true)) (some 47) rfl rfl (by kernel_rfl) (by kernel_rfl) (by kernel_rfl) (fun _ _ _ h => h) (Or.inl ⟨by rfl, fun w' hS => (by go_simp)⟩) s0 ?_
    try simp only [Go.Act.put, List.setIfInBounds_toArray, List.set_cons_zero, List.set_cons_succ]
    refine wpAnyH_done (by kernel_rfl) ?_ _
    have SE := hid s0
    clear sX0 sX1 sX2 sX3 sX4 sX5 sX6 sM7 s0
    go_wp2
    go_ret
    exact ⟨rfl, TU.out.trans' SE.out⟩
set_option maxHeartbeats 4000000 in
set_option maxRecDepth 100000 in
theorem next40_B (w : World) (m b o : Nat) (G : List Nat) (c : Cf) (now : Int) (xs : List En) (h : Mb w m b o G c now xs) (x : En) (hk : Ok x.1) (hp : pairE x.1 x.2.1 = 0) (hf : fnd xs x.1 = none) (hkc : keepsC c x.2.1 = false) : Calls Try.prog 40 #[PT m, nv x] w fun e w' => e = .returned (.int .i64 1) ∧ Touch [] w w' := by
  obtain ⟨V, hV⟩ : ∃ V, V = w.alloc (.cells #[.int .u16 x.1.1, .string x.1.2, .int .i64 x.2.1.1, .int .i64 x.2.1.2.1, .int .i64 x.2.1.2.2.1, .int .i64 x.2.1.2.2.2, .int .i64 x.2.2] 56) := ⟨_, rfl⟩
  have TV : Hid (Touch [] w V) := hid (by rw [hV]; exact (Touch.refl _ _).alloc _)
  have HX : Hid (∀ w', Touch [] V w' → w'.cell? ⟨w.heap.size, 0, none⟩ = some (.int .u16 x.1.1) ∧ w'.cell? ⟨w.heap.size, 1, none⟩ = some (.string x.1.2) ∧ w'.cell? ⟨w.heap.size, 2, none⟩ = some (.int .i64 x.2.1.1) ∧ w'.cell? ⟨w.heap.size, 3, none⟩ = some (.int .i64 x.2.1.2.1) ∧ w'.cell? ⟨w.heap.size, 4, none⟩ = some (.int .i64 x.2.1.2.2.1) ∧ w'.cell? ⟨w.heap.size, 5, none⟩ = some (.int .i64 x.2.1.2.2.2) ∧ w'.cell? ⟨w.heap.size, 6, none⟩ = some (.int .i64 x.2.2)) := hid (fun w' t => by
    have := t.keep (k := w.heap.size) (by rw [hV]; exact heap_alloc_new w _) (by simp)
    simp [World.cell?, this])
  obtain ⟨x0, x1, x2, x3, x4, x5, x6⟩ := HX.out V (Touch.refl _ _)
  have HP := hid (pair46 V x.1 x.2.1)
  unfold kv ov at HP
  rw [hp] at HP
  clear hp
  have HKq : Hid (∀ wu w' : World, Mb wu m b o G c now xs → Touch [] wu w' → Calls Try.prog 47 #[.pointer (some ⟨m, 0, none⟩), .agg #[.int .i64 x.2.1.1, .int .i64 x.2.1.2.1, .int .i64 x.2.1.2.2.1, .int .i64 x.2.1.2.2.2]] w' fun e w'' => e = .returned (.bool (keepsC c x.2.1)) ∧ Touch [] wu w'') := hid (fun wu w' hu t => (keeps47 w' m c now b o (hu.keep0 t).md x.2.1).mono (by
    rintro e w'' ⟨rfl, t2⟩
    exact ⟨rfl, t.trans' t2⟩))
  rw [hkc] at HKq
  clear hkc
  unfold PT nv
  go_enter Try.func40, Try.ntmps40
  go_upto_region 1 with fail
  rw [← hV]
  clear hV
  go_upto_region 4 with (go_at_call 46; refine HP.out.mono ?_; rintro e w2 ⟨rfl, t2⟩; have T2 := hid (TV.out.trans' t2); have T2v := hid t2; clear t2)
  clear x0 x1 x2 x3 x4 x5 x6
  have sA : ∀ w', Touch [] w2 w' → w'.cell? ⟨m, 8, none⟩ = some (.map (some b)) := fun w' t => (h.keep0 (T2.out.trans' t)).md.cs.c8
  have sB : ∀ w', Touch [] w2 w' → w'.cell? ⟨w.heap.size, 0, none⟩ = some (.int .u16 x.1.1) := fun w' t => (HX.out w' (T2v.out.trans' t)).1
  have sC : ∀ w', Touch [] w2 w' → w'.cell? ⟨w.heap.size, 1, none⟩ = some (.string x.1.2) := fun w' t => (HX.out w' (T2v.out.trans' t)).2.1
  have sL : ∀ w', Touch [] w2 w' → (Instr.lookup 91 (.map (some b)) (.agg #[.int .u16 x.1.1, .string x.1.2]) true).run Try.prog w' = .ok (.tuple #[.agg #[.int .i64 0, .int .i64 0, .int .i64 0, .int .i64 0, .int .i64 0], .bool false]) w' := fun w' t => by
    have := (h.keep0 (T2.out.trans' t)).look hk
    rw [hf] at this
    exact this
  obtain ⟨U, hU⟩ : ∃ U, U = (w2.alloc (.cells #[.int .i64 0, .int .i64 0, .int .i64 0, .int .i64 0, .int .i64 0] 108)).drew := ⟨_, rfl⟩
  have TU2 : Touch [] w2 U := by rw [hU]; exact ((Touch.refl _ _).alloc _).drew
  have TU : Hid (Touch [] w U) := hid (T2.out.trans' TU2)
  have HM := hid (h.keep0 TU.out)
  have HXU := hid (fun w' (t : Touch [] U w') => HX.out w' ((T2v.out.trans' TU2).trans' t))
  have t0 : Touch [] w2 w2.drew := (Touch.refl _ _).drew
  go_region_held3 (fun w' => Touch [] w2 w') (repeat (first | assumption | exact Touch.refl _ _ | apply Touch.alloc | apply Touch.drew | (refine Touch.setCell ?_ (Or.inr (by simp)) _))) (fail)
  all_goals
    clear sA sB sC sL t0
    rw [← hU]
    clear hU TU2
    go_upto_region 5 with fail
    have sM7 : ∀ w', Touch [] U w' → w'.cell? ⟨m, 7, none⟩ = some (.int .i64 now) := fun w' t => (HM.out.keep0 t).md.cs.c7
    have sX0 : ∀ w', Touch [] U w' → w'.cell? ⟨w.heap.size, 0, none⟩ = some (.int .u16 x.1.1) := fun w' t => (HXU.out w' t).1
    have sX1 : ∀ w', Touch [] U w' → w'.cell? ⟨w.heap.size, 1, none⟩ = some (.string x.1.2) := fun w' t => (HXU.out w' t).2.1
    have sX2 : ∀ w', Touch [] U w' → w'.cell? ⟨w.heap.size, 2, none⟩ = some (.int .i64 x.2.1.1) := fun w' t => (HXU.out w' t).2.2.1
    have sX3 : ∀ w', Touch [] U w' → w'.cell? ⟨w.heap.size, 3, none⟩ = some (.int .i64 x.2.1.2.1) := fun w' t => (HXU.out w' t).2.2.2.1
    have sX4 : ∀ w', Touch [] U w' → w'.cell? ⟨w.heap.size, 4, none⟩ = some (.int .i64 x.2.1.2.2.1) := fun w' t => (HXU.out w' t).2.2.2.2.1
    have sX5 : ∀ w', Touch [] U w' → w'.cell? ⟨w.heap.size, 5, none⟩ = some (.int .i64 x.2.1.2.2.2) := fun w' t => (HXU.out w' t).2.2.2.2.2.1
    have sX6 : ∀ w', Touch [] U w' → w'.cell? ⟨w.heap.size, 6, none⟩ = some (.int .i64 x.2.2) := fun w' t => (HXU.out w' t).2.2.2.2.2.2
    have HKp := hid (fun w' t => HKq.out U w' HM.out t)
    have s0 : Touch [] U U.drew := (Touch.refl _ _).drew
    refine wp_region_H (S := fun w' => Touch [] U w') (by kernel_rfl) ?_
    refine wpH_take (i := 0) (v := (.bool false)) (some 26) rfl rfl (by kernel_rfl) (by kernel_rfl) (by kernel_rfl) (fun _ _ _ h => h) (Or.inl ⟨by rfl, fun w' hS => (by go_simp)⟩) s0 ?_
    try simp only [Go.Act.put, List.setIfInBounds_toArray, List.set_cons_zero, List.set_cons_succ]
    refine wpH_take (i := 1) (v := (.bool false)) (some 27) rfl rfl (by kernel_rfl) (by kernel_rfl) (by kernel_rfl) (fun _ _ _ h => h) (Or.inl ⟨by rfl, fun w' hS => (by go_simp)⟩) s0 ?_
    try simp only [Go.Act.put, List.setIfInBounds_toArray, List.set_cons_zero, List.set_cons_succ]
    refine wpH_take (i := 2) (v := (.pointer (some ⟨m, 0, none⟩))) (some 28) rfl rfl (by kernel_rfl) (by kernel_rfl) (by kernel_rfl) (fun _ _ _ h => h) (Or.inl ⟨by rfl, fun w' hS => (by go_simp)⟩) s0 ?_
    try simp only [Go.Act.put, List.setIfInBounds_toArray, List.set_cons_zero, List.set_cons_succ]
    refine wpH_take (i := 3) (v := (.pointer (some ⟨w.heap.size, 2, none⟩))) (some 29) rfl rfl (by kernel_rfl) (by kernel_rfl) (by kernel_rfl) (fun _ _ _ h => h) (Or.inl ⟨by rfl, fun w' hS => (by go_simp)⟩) s0 ?_
    try simp only [Go.Act.put, List.setIfInBounds_toArray, List.set_cons_zero, List.set_cons_succ]
    refine wpH_take (i := 4) (v := (.agg #[.int .i64 x.2.1.1, .int .i64 x.2.1.2.1, .int .i64 x.2.1.2.2.1, .int .i64 x.2.1.2.2.2])) (some 30) rfl rfl (by kernel_rfl) (by kernel_rfl) (by kernel_rfl) (fun _ _ _ h => h) (Or.inl ⟨by rfl, fun w' hS => (by have z0 := sX2 _ hS; have z1 := sX3 _ hS; have z2 := sX4 _ hS; have z3 := sX5 _ hS; go_simp)⟩) s0 ?_
    try simp only [Go.Act.put, List.setIfInBounds_toArray, List.set_cons_zero, List.set_cons_succ]
    refine wpH_call (i := 5) (o := { dst := some 31, op := Op.call { callee := Callee.value (Operand.func 47), args := #[Operand.tmp 28, Operand.tmp 30], argTypes := #[26, 43] }, type := 4, pos := _, after := #[{ on := 2, ground := Ground.data }, { on := 4, ground := Ground.data }, { on := 1, ground := Ground.chain }, { on := 1, ground := Ground.guard }], guard := some (1, false) }) (by kernel_rfl) rfl (fun K' hK => ?_)
    rw [if_pos (by rfl)]
    go_simp
    refine (HKp.out _ s0).mono ?_
    rintro e w6 ⟨rfl, s1⟩
    refine hK.out _ _ s1 ?_
    clear hK
    try simp only [Go.Act.put, List.setIfInBounds_toArray, List.set_cons_zero, List.set_cons_succ]
    refine wpH_take (i := 6) (v := (.bool true)) (some 32) rfl rfl (by kernel_rfl) (by kernel_rfl) (by kernel_rfl) (fun _ _ _ h => h) (Or.inl ⟨by rfl, fun w' hS => (by go_simp)⟩) s1 ?_
    try simp only [Go.Act.put, List.setIfInBounds_toArray, List.set_cons_zero, List.set_cons_succ]
    refine wpH_take (i := 7) (v := (.bool true)) (some 33) rfl rfl (by kernel_rfl) (by kernel_rfl) (by kernel_rfl) (fun _ _ _ h => h) (Or.inl ⟨by rfl, fun w' hS => (by go_simp)⟩) s1 ?_
    try simp only [Go.Act.put, List.setIfInBounds_toArray, List.set_cons_zero, List.set_cons_succ]
    refine wpH_take (i := 8) (v := (.bool true)) (some 34) rfl rfl (by kernel_rfl) (by kernel_rfl) (by kernel_rfl) (fun _ _ _ h => h) (Or.inl ⟨by rfl, fun w' hS => (by go_simp)⟩) s1 ?_
    try simp only [Go.Act.put, List.setIfInBounds_toArray, List.set_cons_zero, List.set_cons_succ]
    refine wpH_take (i := 9) (v := undef) (some 35) rfl rfl (by kernel_rfl) (by kernel_rfl) (by kernel_rfl) (fun _ _ _ h => h) (Or.inr ⟨by rfl, rfl⟩) s1 ?_
    try simp only [Go.Act.put, List.setIfInBounds_toArray, List.set_cons_zero, List.set_cons_succ]
    refine wpH_take (i := 10) (v := undef) (some 36) rfl rfl (by kernel_rfl) (by kernel_rfl) (by kernel_rfl) (fun _ _ _ h => h) (Or.inr ⟨by rfl, rfl⟩) s1 ?_
    try simp only [Go.Act.put, List.setIfInBounds_toArray, List.set_cons_zero, List.set_cons_succ]
    refine wpH_take (i := 11) (v := undef) (some 37) rfl rfl (by kernel_rfl) (by kernel_rfl) (by kernel_rfl) (fun _ _ _ h => h) (Or.inr ⟨by rfl, rfl⟩) s1 ?_
    try simp only [Go.Act.put, List.setIfInBounds_toArray, List.set_cons_zero, List.set_cons_succ]
    refine wpH_take (i := 12) (v := (.bool true)) (some 38) rfl rfl (by kernel_rfl) (by kernel_rfl) (by kernel_rfl) (fun _ _ _ h => h) (Or.inl ⟨by rfl, fun w' hS => (by go_simp)⟩) s1 ?_
    try simp only [Go.Act.put, List.setIfInBounds_toArray, List.set_cons_zero, List.set_cons_succ]
    refine wpH_take (i := 13) (v := (.bool true)) (some 39) rfl rfl (by kernel_rfl) (by kernel_rfl) (by kernel_rfl) (fun _ _ _ h => h) (Or.inl ⟨by rfl, fun w' hS => (by go_simp)⟩) s1 ?_
    try simp only [Go.Act.put, List.setIfInBounds_toArray, List.set_cons_zero, List.set_cons_succ]
    refine wpH_take (i := 14) (v := undef) (some 40) rfl rfl (by kernel_rfl) (by kernel_rfl) (by kernel_rfl) (fun _ _ _ h => h) (Or.inr ⟨by rfl, rfl⟩) s1 ?_
    try simp only [Go.Act.put, List.setIfInBounds_toArray, List.set_cons_zero, List.set_cons_succ]
    refine wpH_take (i := 15) (v := undef) (some 41) rfl rfl (by kernel_rfl) (by kernel_rfl) (by kernel_rfl) (fun _ _ _ h => h) (Or.inr ⟨by rfl, rfl⟩) s1 ?_
    try simp only [Go.Act.put, List.setIfInBounds_toArray, List.set_cons_zero, List.set_cons_succ]
    refine wpH_take (i := 16) (v := undef) (some 42) rfl rfl (by kernel_rfl) (by kernel_rfl) (by kernel_rfl) (fun _ _ _ h => h) (Or.inr ⟨by rfl, rfl⟩) s1 ?_
    try simp only [Go.Act.put, List.setIfInBounds_toArray, List.set_cons_zero, List.set_cons_succ]
    refine wpH_take (i := 17) (v := undef) (some 43) rfl rfl (by kernel_rfl) (by kernel_rfl) (by kernel_rfl) (fun _ _ _ h => h) (Or.inr ⟨by rfl, rfl⟩) s1 ?_
    try simp only [Go.Act.put, List.setIfInBounds_toArray, List.set_cons_zero, List.set_cons_succ]
    refine wpH_take (i := 18) (v := undef) (some 44) rfl rfl (by kernel_rfl) (by kernel_rfl) (by kernel_rfl) (fun _ _ _ h => h) (Or.inr ⟨by rfl, rfl⟩) s1 ?_
    try simp only [Go.Act.put, List.setIfInBounds_toArray, List.set_cons_zero, List.set_cons_succ]
    refine wpH_take (i := 19) (v := undef) (some 45) rfl rfl (by kernel_rfl) (by kernel_rfl) (by kernel_rfl) (fun _ _ _ h => h) (Or.inr ⟨by rfl, rfl⟩) s1 ?_
    try simp only [Go.Act.put, List.setIfInBounds_toArray, List.set_cons_zero, List.set_cons_succ]
    refine wpH_take (i := 20) (v := undef) (some 46) rfl rfl (by kernel_rfl) (by kernel_rfl) (by kernel_rfl) (fun _ _ _ h => h) (Or.inr ⟨by rfl, rfl⟩) s1 ?_
    try simp only [Go.Act.put, List.setIfInBounds_toArray, List.set_cons_zero, List.set_cons_succ]
    refine wpH_take (i := 21) (v := (.bool true)) (some 47) rfl rfl (by kernel_rfl) (by kernel_rfl) (by kernel_rfl) (fun _ _ _ h => h) (Or.inl ⟨by rfl, fun w' hS => (by go_simp)⟩) s1 ?_
    try simp only [Go.Act.put, List.setIfInBounds_toArray, List.set_cons_zero, List.set_cons_succ]
    refine wpAnyH_done (by kernel_rfl) ?_ _
    have SE := hid s1
    clear sX0 sX1 sX2 sX3 sX4 sX5 sX6 sM7 s0 s1
    go_wp2
    go_ret
    exact ⟨rfl, TU.out.trans' SE.out⟩
set_option maxHeartbeats 4000000 in
set_option maxRecDepth 100000 in
theorem next40_C (w : World) (m b o : Nat) (G : List Nat) (c : Cf) (now : Int) (xs : List En) (h : Mb w m b o G c now xs) (x : En) (hk : Ok x.1) (hp : pairE x.1 x.2.1 = 0) (hf : fnd xs x.1 = none) (hkc : keepsC c x.2.1 = true) (ha : x.2.2 < 0) : Calls Try.prog 40 #[PT m, nv x] w fun e w' => e = .returned (.int .i64 1) ∧ Touch [] w w' := by
  obtain ⟨V, hV⟩ : ∃ V, V = w.alloc (.cells #[.int .u16 x.1.1, .string x.1.2, .int .i64 x.2.1.1, .int .i64 x.2.1.2.1, .int .i64 x.2.1.2.2.1, .int .i64 x.2.1.2.2.2, .int .i64 x.2.2] 56) := ⟨_, rfl⟩
  have TV : Hid (Touch [] w V) := hid (by rw [hV]; exact (Touch.refl _ _).alloc _)
  have HX : Hid (∀ w', Touch [] V w' → w'.cell? ⟨w.heap.size, 0, none⟩ = some (.int .u16 x.1.1) ∧ w'.cell? ⟨w.heap.size, 1, none⟩ = some (.string x.1.2) ∧ w'.cell? ⟨w.heap.size, 2, none⟩ = some (.int .i64 x.2.1.1) ∧ w'.cell? ⟨w.heap.size, 3, none⟩ = some (.int .i64 x.2.1.2.1) ∧ w'.cell? ⟨w.heap.size, 4, none⟩ = some (.int .i64 x.2.1.2.2.1) ∧ w'.cell? ⟨w.heap.size, 5, none⟩ = some (.int .i64 x.2.1.2.2.2) ∧ w'.cell? ⟨w.heap.size, 6, none⟩ = some (.int .i64 x.2.2)) := hid (fun w' t => by
    have := t.keep (k := w.heap.size) (by rw [hV]; exact heap_alloc_new w _) (by simp)
    simp [World.cell?, this])
  obtain ⟨x0, x1, x2, x3, x4, x5, x6⟩ := HX.out V (Touch.refl _ _)
  have HP := hid (pair46 V x.1 x.2.1)
  unfold kv ov at HP
  rw [hp] at HP
  clear hp
  have HKq : Hid (∀ wu w' : World, Mb wu m b o G c now xs → Touch [] wu w' → Calls Try.prog 47 #[.pointer (some ⟨m, 0, none⟩), .agg #[.int .i64 x.2.1.1, .int .i64 x.2.1.2.1, .int .i64 x.2.1.2.2.1, .int .i64 x.2.1.2.2.2]] w' fun e w'' => e = .returned (.bool (keepsC c x.2.1)) ∧ Touch [] wu w'') := hid (fun wu w' hu t => (keeps47 w' m c now b o (hu.keep0 t).md x.2.1).mono (by
    rintro e w'' ⟨rfl, t2⟩
    exact ⟨rfl, t.trans' t2⟩))
  rw [hkc] at HKq
  clear hkc
  unfold PT nv
  go_enter Try.func40, Try.ntmps40
  go_upto_region 1 with fail
  rw [← hV]
  clear hV
  go_upto_region 4 with (go_at_call 46; refine HP.out.mono ?_; rintro e w2 ⟨rfl, t2⟩; have T2 := hid (TV.out.trans' t2); have T2v := hid t2; clear t2)
  clear x0 x1 x2 x3 x4 x5 x6
  have sA : ∀ w', Touch [] w2 w' → w'.cell? ⟨m, 8, none⟩ = some (.map (some b)) := fun w' t => (h.keep0 (T2.out.trans' t)).md.cs.c8
  have sB : ∀ w', Touch [] w2 w' → w'.cell? ⟨w.heap.size, 0, none⟩ = some (.int .u16 x.1.1) := fun w' t => (HX.out w' (T2v.out.trans' t)).1
  have sC : ∀ w', Touch [] w2 w' → w'.cell? ⟨w.heap.size, 1, none⟩ = some (.string x.1.2) := fun w' t => (HX.out w' (T2v.out.trans' t)).2.1
  have sL : ∀ w', Touch [] w2 w' → (Instr.lookup 91 (.map (some b)) (.agg #[.int .u16 x.1.1, .string x.1.2]) true).run Try.prog w' = .ok (.tuple #[.agg #[.int .i64 0, .int .i64 0, .int .i64 0, .int .i64 0, .int .i64 0], .bool false]) w' := fun w' t => by
    have := (h.keep0 (T2.out.trans' t)).look hk
    rw [hf] at this
    exact this
  obtain ⟨U, hU⟩ : ∃ U, U = (w2.alloc (.cells #[.int .i64 0, .int .i64 0, .int .i64 0, .int .i64 0, .int .i64 0] 108)).drew := ⟨_, rfl⟩
  have TU2 : Touch [] w2 U := by rw [hU]; exact ((Touch.refl _ _).alloc _).drew
  have TU : Hid (Touch [] w U) := hid (T2.out.trans' TU2)
  have HM := hid (h.keep0 TU.out)
  have HXU := hid (fun w' (t : Touch [] U w') => HX.out w' ((T2v.out.trans' TU2).trans' t))
  have t0 : Touch [] w2 w2.drew := (Touch.refl _ _).drew
  go_region_held3 (fun w' => Touch [] w2 w') (repeat (first | assumption | exact Touch.refl _ _ | apply Touch.alloc | apply Touch.drew | (refine Touch.setCell ?_ (Or.inr (by simp)) _))) (fail)
  all_goals
    clear sA sB sC sL t0
    rw [← hU]
    clear hU TU2
    go_upto_region 5 with fail
    have sM7 : ∀ w', Touch [] U w' → w'.cell? ⟨m, 7, none⟩ = some (.int .i64 now) := fun w' t => (HM.out.keep0 t).md.cs.c7
    have sX0 : ∀ w', Touch [] U w' → w'.cell? ⟨w.heap.size, 0, none⟩ = some (.int .u16 x.1.1) := fun w' t => (HXU.out w' t).1
    have sX1 : ∀ w', Touch [] U w' → w'.cell? ⟨w.heap.size, 1, none⟩ = some (.string x.1.2) := fun w' t => (HXU.out w' t).2.1
    have sX2 : ∀ w', Touch [] U w' → w'.cell? ⟨w.heap.size, 2, none⟩ = some (.int .i64 x.2.1.1) := fun w' t => (HXU.out w' t).2.2.1
    have sX3 : ∀ w', Touch [] U w' → w'.cell? ⟨w.heap.size, 3, none⟩ = some (.int .i64 x.2.1.2.1) := fun w' t => (HXU.out w' t).2.2.2.1
    have sX4 : ∀ w', Touch [] U w' → w'.cell? ⟨w.heap.size, 4, none⟩ = some (.int .i64 x.2.1.2.2.1) := fun w' t => (HXU.out w' t).2.2.2.2.1
    have sX5 : ∀ w', Touch [] U w' → w'.cell? ⟨w.heap.size, 5, none⟩ = some (.int .i64 x.2.1.2.2.2) := fun w' t => (HXU.out w' t).2.2.2.2.2.1
    have sX6 : ∀ w', Touch [] U w' → w'.cell? ⟨w.heap.size, 6, none⟩ = some (.int .i64 x.2.2) := fun w' t => (HXU.out w' t).2.2.2.2.2.2
    have HKp := hid (fun w' t => HKq.out U w' HM.out t)
    have s0 : Touch [] U U.drew := (Touch.refl _ _).drew
    refine wp_region_H (S := fun w' => Touch [] U w') (by kernel_rfl) ?_
    refine wpH_take (i := 0) (v := (.bool false)) (some 26) rfl rfl (by kernel_rfl) (by kernel_rfl) (by kernel_rfl) (fun _ _ _ h => h) (Or.inl ⟨by rfl, fun w' hS => (by go_simp)⟩) s0 ?_
    try simp only [Go.Act.put, List.setIfInBounds_toArray, List.set_cons_zero, List.set_cons_succ]
    refine wpH_take (i := 1) (v := (.bool false)) (some 27) rfl rfl (by kernel_rfl) (by kernel_rfl) (by kernel_rfl) (fun _ _ _ h => h) (Or.inl ⟨by rfl, fun w' hS => (by go_simp)⟩) s0 ?_
    try simp only [Go.Act.put, List.setIfInBounds_toArray, List.set_cons_zero, List.set_cons_succ]
    refine wpH_take (i := 2) (v := (.pointer (some ⟨m, 0, none⟩))) (some 28) rfl rfl (by kernel_rfl) (by kernel_rfl) (by kernel_rfl) (fun _ _ _ h => h) (Or.inl ⟨by rfl, fun w' hS => (by go_simp)⟩) s0 ?_
    try simp only [Go.Act.put, List.setIfInBounds_toArray, List.set_cons_zero, List.set_cons_succ]
    refine wpH_take (i := 3) (v := (.pointer (some ⟨w.heap.size, 2, none⟩))) (some 29) rfl rfl (by kernel_rfl) (by kernel_rfl) (by kernel_rfl) (fun _ _ _ h => h) (Or.inl ⟨by rfl, fun w' hS => (by go_simp)⟩) s0 ?_
    try simp only [Go.Act.put, List.setIfInBounds_toArray, List.set_cons_zero, List.set_cons_succ]
    refine wpH_take (i := 4) (v := (.agg #[.int .i64 x.2.1.1, .int .i64 x.2.1.2.1, .int .i64 x.2.1.2.2.1, .int .i64 x.2.1.2.2.2])) (some 30) rfl rfl (by kernel_rfl) (by kernel_rfl) (by kernel_rfl) (fun _ _ _ h => h) (Or.inl ⟨by rfl, fun w' hS => (by have z0 := sX2 _ hS; have z1 := sX3 _ hS; have z2 := sX4 _ hS; have z3 := sX5 _ hS; go_simp)⟩) s0 ?_
    try simp only [Go.Act.put, List.setIfInBounds_toArray, List.set_cons_zero, List.set_cons_succ]
    refine wpH_call (i := 5) (o := { dst := some 31, op := Op.call { callee := Callee.value (Operand.func 47), args := #[Operand.tmp 28, Operand.tmp 30], argTypes := #[26, 43] }, type := 4, pos := _, after := #[{ on := 2, ground := Ground.data }, { on := 4, ground := Ground.data }, { on := 1, ground := Ground.chain }, { on := 1, ground := Ground.guard }], guard := some (1, false) }) (by kernel_rfl) rfl (fun K' hK => ?_)
    rw [if_pos (by rfl)]
    go_simp
    refine (HKp.out _ s0).mono ?_
    rintro e w6 ⟨rfl, s1⟩
    refine hK.out _ _ s1 ?_
    clear hK
    try simp only [Go.Act.put, List.setIfInBounds_toArray, List.set_cons_zero, List.set_cons_succ]
    refine wpH_take (i := 6) (v := (.bool false)) (some 32) rfl rfl (by kernel_rfl) (by kernel_rfl) (by kernel_rfl) (fun _ _ _ h => h) (Or.inl ⟨by rfl, fun w' hS => (by go_simp)⟩) s1 ?_
    try simp only [Go.Act.put, List.setIfInBounds_toArray, List.set_cons_zero, List.set_cons_succ]
    refine wpH_take (i := 7) (v := (.bool false)) (some 33) rfl rfl (by kernel_rfl) (by kernel_rfl) (by kernel_rfl) (fun _ _ _ h => h) (Or.inl ⟨by rfl, fun w' hS => (by go_simp)⟩) s1 ?_
    try simp only [Go.Act.put, List.setIfInBounds_toArray, List.set_cons_zero, List.set_cons_succ]
    refine wpH_take (i := 8) (v := (.bool false)) (some 34) rfl rfl (by kernel_rfl) (by kernel_rfl) (by kernel_rfl) (fun _ _ _ h => h) (Or.inl ⟨by rfl, fun w' hS => (by go_simp)⟩) s1 ?_
    try simp only [Go.Act.put, List.setIfInBounds_toArray, List.set_cons_zero, List.set_cons_succ]
    refine wpH_take (i := 9) (v := (.pointer (some ⟨w.heap.size, 6, none⟩))) (some 35) rfl rfl (by kernel_rfl) (by kernel_rfl) (by kernel_rfl) (fun _ _ _ h => h) (Or.inl ⟨by rfl, fun w' hS => (by go_simp)⟩) s1 ?_
    try simp only [Go.Act.put, List.setIfInBounds_toArray, List.set_cons_zero, List.set_cons_succ]
    refine wpH_take (i := 10) (v := (.int .i64 x.2.2)) (some 36) rfl rfl (by kernel_rfl) (by kernel_rfl) (by kernel_rfl) (fun _ _ _ h => h) (Or.inl ⟨by rfl, fun w' hS => (by have z0 := sX6 _ hS; go_simp)⟩) s1 ?_
    try simp only [Go.Act.put, List.setIfInBounds_toArray, List.set_cons_zero, List.set_cons_succ]
    refine wpH_take (i := 11) (v := (.bool true)) (some 37) rfl rfl (by kernel_rfl) (by kernel_rfl) (by kernel_rfl) (fun _ _ _ h => h) (Or.inl ⟨by rfl, fun w' hS => (by go_simp)⟩) s1 ?_
    try simp only [Go.Act.put, List.setIfInBounds_toArray, List.set_cons_zero, List.set_cons_succ]
    refine wpH_take (i := 12) (v := (.bool true)) (some 38) rfl rfl (by kernel_rfl) (by kernel_rfl) (by kernel_rfl) (fun _ _ _ h => h) (Or.inl ⟨by rfl, fun w' hS => (by go_simp)⟩) s1 ?_
    try simp only [Go.Act.put, List.setIfInBounds_toArray, List.set_cons_zero, List.set_cons_succ]
    refine wpH_take (i := 13) (v := (.bool true)) (some 39) rfl rfl (by kernel_rfl) (by kernel_rfl) (by kernel_rfl) (fun _ _ _ h => h) (Or.inl ⟨by rfl, fun w' hS => (by go_simp)⟩) s1 ?_
    try simp only [Go.Act.put, List.setIfInBounds_toArray, List.set_cons_zero, List.set_cons_succ]
    refine wpH_take (i := 14) (v := undef) (some 40) rfl rfl (by kernel_rfl) (by kernel_rfl) (by kernel_rfl) (fun _ _ _ h => h) (Or.inr ⟨by rfl, rfl⟩) s1 ?_
    try simp only [Go.Act.put, List.setIfInBounds_toArray, List.set_cons_zero, List.set_cons_succ]
    refine wpH_take (i := 15) (v := undef) (some 41) rfl rfl (by kernel_rfl) (by kernel_rfl) (by kernel_rfl) (fun _ _ _ h => h) (Or.inr ⟨by rfl, rfl⟩) s1 ?_
    try simp only [Go.Act.put, List.setIfInBounds_toArray, List.set_cons_zero, List.set_cons_succ]
    refine wpH_take (i := 16) (v := undef) (some 42) rfl rfl (by kernel_rfl) (by kernel_rfl) (by kernel_rfl) (fun _ _ _ h => h) (Or.inr ⟨by rfl, rfl⟩) s1 ?_
    try simp only [Go.Act.put, List.setIfInBounds_toArray, List.set_cons_zero, List.set_cons_succ]
    refine wpH_take (i := 17) (v := undef) (some 43) rfl rfl (by kernel_rfl) (by kernel_rfl) (by kernel_rfl) (fun _ _ _ h => h) (Or.inr ⟨by rfl, rfl⟩) s1 ?_
    try simp only [Go.Act.put, List.setIfInBounds_toArray, List.set_cons_zero, List.set_cons_succ]
    refine wpH_take (i := 18) (v := undef) (some 44) rfl rfl (by kernel_rfl) (by kernel_rfl) (by kernel_rfl) (fun _ _ _ h => h) (Or.inr ⟨by rfl, rfl⟩) s1 ?_
    try simp only [Go.Act.put, List.setIfInBounds_toArray, List.set_cons_zero, List.set_cons_succ]
    refine wpH_take (i := 19) (v := undef) (some 45) rfl rfl (by kernel_rfl) (by kernel_rfl) (by kernel_rfl) (fun _ _ _ h => h) (Or.inr ⟨by rfl, rfl⟩) s1 ?_
    try simp only [Go.Act.put, List.setIfInBounds_toArray, List.set_cons_zero, List.set_cons_succ]
    refine wpH_take (i := 20) (v := undef) (some 46) rfl rfl (by kernel_rfl) (by kernel_rfl) (by kernel_rfl) (fun _ _ _ h => h) (Or.inr ⟨by rfl, rfl⟩) s1 ?_
    try simp only [Go.Act.put, List.setIfInBounds_toArray, List.set_cons_zero, List.set_cons_succ]
    refine wpH_take (i := 21) (v := (.bool true)) (some 47) rfl rfl (by kernel_rfl) (by kernel_rfl) (by kernel_rfl) (fun _ _ _ h => h) (Or.inl ⟨by rfl, fun w' hS => (by go_simp)⟩) s1 ?_
    try simp only [Go.Act.put, List.setIfInBounds_toArray, List.set_cons_zero, List.set_cons_succ]
    refine wpAnyH_done (by kernel_rfl) ?_ _
    have SE := hid s1
    clear sX0 sX1 sX2 sX3 sX4 sX5 sX6 sM7 s0 s1
    go_wp2
    go_ret
    exact ⟨rfl, TU.out.trans' SE.out⟩
set_option maxHeartbeats 4000000 in
set_option maxRecDepth 100000 in
theorem next40_D (w : World) (m b o : Nat) (G : List Nat) (c : Cf) (now : Int) (xs : List En) (h : Mb w m b o G c now xs) (x : En) (hk : Ok x.1) (hp : pairE x.1 x.2.1 = 0) (hf : fnd xs x.1 = none) (hkc : keepsC c x.2.1 = true) (ha : ¬ x.2.2 < 0) (hb : now < x.2.2) : Calls Try.prog 40 #[PT m, nv x] w fun e w' => e = .returned (.int .i64 1) ∧ Touch [] w w' := by
  obtain ⟨V, hV⟩ : ∃ V, V = w.alloc (.cells #[.int .u16 x.1.1, .string x.1.2, .int .i64 x.2.1.1, .int .i64 x.2.1.2.1, .int .i64 x.2.1.2.2.1, .int .i64 x.2.1.2.2.2, .int .i64 x.2.2] 56) := ⟨_, rfl⟩
  have TV : Hid (Touch [] w V) := hid (by rw [hV]; exact (Touch.refl _ _).alloc _)
  have HX : Hid (∀ w', Touch [] V w' → w'.cell? ⟨w.heap.size, 0, none⟩ = some (.int .u16 x.1.1) ∧ w'.cell? ⟨w.heap.size, 1, none⟩ = some (.string x.1.2) ∧ w'.cell? ⟨w.heap.size, 2, none⟩ = some (.int .i64 x.2.1.1) ∧ w'.cell? ⟨w.heap.size, 3, none⟩ = some (.int .i64 x.2.1.2.1) ∧ w'.cell? ⟨w.heap.size, 4, none⟩ = some (.int .i64 x.2.1.2.2.1) ∧ w'.cell? ⟨w.heap.size, 5, none⟩ = some (.int .i64 x.2.1.2.2.2) ∧ w'.cell? ⟨w.heap.size, 6, none⟩ = some (.int .i64 x.2.2)) := hid (fun w' t => by
    have := t.keep (k := w.heap.size) (by rw [hV]; exact heap_alloc_new w _) (by simp)
    simp [World.cell?, this])
  obtain ⟨x0, x1, x2, x3, x4, x5, x6⟩ := HX.out V (Touch.refl _ _)
  have HP := hid (pair46 V x.1 x.2.1)
  unfold kv ov at HP
  rw [hp] at HP
  clear hp
  have HKq : Hid (∀ wu w' : World, Mb wu m b o G c now xs → Touch [] wu w' → Calls Try.prog 47 #[.pointer (some ⟨m, 0, none⟩), .agg #[.int .i64 x.2.1.1, .int .i64 x.2.1.2.1, .int .i64 x.2.1.2.2.1, .int .i64 x.2.1.2.2.2]] w' fun e w'' => e = .returned (.bool (keepsC c x.2.1)) ∧ Touch [] wu w'') := hid (fun wu w' hu t => (keeps47 w' m c now b o (hu.keep0 t).md x.2.1).mono (by
    rintro e w'' ⟨rfl, t2⟩
    exact ⟨rfl, t.trans' t2⟩))
  rw [hkc] at HKq
  clear hkc
  unfold PT nv
  go_enter Try.func40, Try.ntmps40
  go_upto_region 1 with fail
  rw [← hV]
  clear hV
  go_upto_region 4 with (go_at_call 46; refine HP.out.mono ?_; rintro e w2 ⟨rfl, t2⟩; have T2 := hid (TV.out.trans' t2); have T2v := hid t2; clear t2)
  clear x0 x1 x2 x3 x4 x5 x6
  have sA : ∀ w', Touch [] w2 w' → w'.cell? ⟨m, 8, none⟩ = some (.map (some b)) := fun w' t => (h.keep0 (T2.out.trans' t)).md.cs.c8
  have sB : ∀ w', Touch [] w2 w' → w'.cell? ⟨w.heap.size, 0, none⟩ = some (.int .u16 x.1.1) := fun w' t => (HX.out w' (T2v.out.trans' t)).1
  have sC : ∀ w', Touch [] w2 w' → w'.cell? ⟨w.heap.size, 1, none⟩ = some (.string x.1.2) := fun w' t => (HX.out w' (T2v.out.trans' t)).2.1
  have sL : ∀ w', Touch [] w2 w' → (Instr.lookup 91 (.map (some b)) (.agg #[.int .u16 x.1.1, .string x.1.2]) true).run Try.prog w' = .ok (.tuple #[.agg #[.int .i64 0, .int .i64 0, .int .i64 0, .int .i64 0, .int .i64 0], .bool false]) w' := fun w' t => by
    have := (h.keep0 (T2.out.trans' t)).look hk
    rw [hf] at this
    exact this
  obtain ⟨U, hU⟩ : ∃ U, U = (w2.alloc (.cells #[.int .i64 0, .int .i64 0, .int .i64 0, .int .i64 0, .int .i64 0] 108)).drew := ⟨_, rfl⟩
  have TU2 : Touch [] w2 U := by rw [hU]; exact ((Touch.refl _ _).alloc _).drew
  have TU : Hid (Touch [] w U) := hid (T2.out.trans' TU2)
  have HM := hid (h.keep0 TU.out)
  have HXU := hid (fun w' (t : Touch [] U w') => HX.out w' ((T2v.out.trans' TU2).trans' t))
  have t0 : Touch [] w2 w2.drew := (Touch.refl _ _).drew
  go_region_held3 (fun w' => Touch [] w2 w') (repeat (first | assumption | exact Touch.refl _ _ | apply Touch.alloc | apply Touch.drew | (refine Touch.setCell ?_ (Or.inr (by simp)) _))) (fail)
  all_goals
    clear sA sB sC sL t0
    rw [← hU]
    clear hU TU2
    go_upto_region 5 with fail
    have sM7 : ∀ w', Touch [] U w' → w'.cell? ⟨m, 7, none⟩ = some (.int .i64 now) := fun w' t => (HM.out.keep0 t).md.cs.c7
    have sX0 : ∀ w', Touch [] U w' → w'.cell? ⟨w.heap.size, 0, none⟩ = some (.int .u16 x.1.1) := fun w' t => (HXU.out w' t).1
    have sX1 : ∀ w', Touch [] U w' → w'.cell? ⟨w.heap.size, 1, none⟩ = some (.string x.1.2) := fun w' t => (HXU.out w' t).2.1
    have sX2 : ∀ w', Touch [] U w' → w'.cell? ⟨w.heap.size, 2, none⟩ = some (.int .i64 x.2.1.1) := fun w' t => (HXU.out w' t).2.2.1
    have sX3 : ∀ w', Touch [] U w' → w'.cell? ⟨w.heap.size, 3, none⟩ = some (.int .i64 x.2.1.2.1) := fun w' t => (HXU.out w' t).2.2.2.1
    have sX4 : ∀ w', Touch [] U w' → w'.cell? ⟨w.heap.size, 4, none⟩ = some (.int .i64 x.2.1.2.2.1) := fun w' t => (HXU.out w' t).2.2.2.2.1
    have sX5 : ∀ w', Touch [] U w' → w'.cell? ⟨w.heap.size, 5, none⟩ = some (.int .i64 x.2.1.2.2.2) := fun w' t => (HXU.out w' t).2.2.2.2.2.1
    have sX6 : ∀ w', Touch [] U w' → w'.cell? ⟨w.heap.size, 6, none⟩ = some (.int .i64 x.2.2) := fun w' t => (HXU.out w' t).2.2.2.2.2.2
    have HKp := hid (fun w' t => HKq.out U w' HM.out t)
    have s0 : Touch [] U U.drew := (Touch.refl _ _).drew
    refine wp_region_H (S := fun w' => Touch [] U w') (by kernel_rfl) ?_
    refine wpH_take (i := 0) (v := (.bool false)) (some 26) rfl rfl (by kernel_rfl) (by kernel_rfl) (by kernel_rfl) (fun _ _ _ h => h) (Or.inl ⟨by rfl, fun w' hS => (by go_simp)⟩) s0 ?_
    try simp only [Go.Act.put, List.setIfInBounds_toArray, List.set_cons_zero, List.set_cons_succ]
    refine wpH_take (i := 1) (v := (.bool false)) (some 27) rfl rfl (by kernel_rfl) (by kernel_rfl) (by kernel_rfl) (fun _ _ _ h => h) (Or.inl ⟨by rfl, fun w' hS => (by go_simp)⟩) s0 ?_
    try simp only [Go.Act.put, List.setIfInBounds_toArray, List.set_cons_zero, List.set_cons_succ]
    refine wpH_take (i := 2) (v := (.pointer (some ⟨m, 0, none⟩))) (some 28) rfl rfl (by kernel_rfl) (by kernel_rfl) (by kernel_rfl) (fun _ _ _ h => h) (Or.inl ⟨by rfl, fun w' hS => (by go_simp)⟩) s0 ?_
    try simp only [Go.Act.put, List.setIfInBounds_toArray, List.set_cons_zero, List.set_cons_succ]
    refine wpH_take (i := 3) (v := (.pointer (some ⟨w.heap.size, 2, none⟩))) (some 29) rfl rfl (by kernel_rfl) (by kernel_rfl) (by kernel_rfl) (fun _ _ _ h => h) (Or.inl ⟨by rfl, fun w' hS => (by go_simp)⟩) s0 ?_
    try simp only [Go.Act.put, List.setIfInBounds_toArray, List.set_cons_zero, List.set_cons_succ]
    refine wpH_take (i := 4) (v := (.agg #[.int .i64 x.2.1.1, .int .i64 x.2.1.2.1, .int .i64 x.2.1.2.2.1, .int .i64 x.2.1.2.2.2])) (some 30) rfl rfl (by kernel_rfl) (by kernel_rfl) (by kernel_rfl) (fun _ _ _ h => h) (Or.inl ⟨by rfl, fun w' hS => (by have z0 := sX2 _ hS; have z1 := sX3 _ hS; have z2 := sX4 _ hS; have z3 := sX5 _ hS; go_simp)⟩) s0 ?_
    try simp only [Go.Act.put, List.setIfInBounds_toArray, List.set_cons_zero, List.set_cons_succ]
    refine wpH_call (i := 5) (o := { dst := some 31, op := Op.call { callee := Callee.value (Operand.func 47), args := #[Operand.tmp 28, Operand.tmp 30], argTypes := #[26, 43] }, type := 4, pos := _, after := #[{ on := 2, ground := Ground.data }, { on := 4, ground := Ground.data }, { on := 1, ground := Ground.chain }, { on := 1, ground := Ground.guard }], guard := some (1, false) }) (by kernel_rfl) rfl (fun K' hK => ?_)
    rw [if_pos (by rfl)]
    go_simp
    refine (HKp.out _ s0).mono ?_
    rintro e w6 ⟨rfl, s1⟩
    refine hK.out _ _ s1 ?_
    clear hK
    try simp only [Go.Act.put, List.setIfInBounds_toArray, List.set_cons_zero, List.set_cons_succ]
    refine wpH_take (i := 6) (v := (.bool false)) (some 32) rfl rfl (by kernel_rfl) (by kernel_rfl) (by kernel_rfl) (fun _ _ _ h => h) (Or.inl ⟨by rfl, fun w' hS => (by go_simp)⟩) s1 ?_
    try simp only [Go.Act.put, List.setIfInBounds_toArray, List.set_cons_zero, List.set_cons_succ]
    refine wpH_take (i := 7) (v := (.bool false)) (some 33) rfl rfl (by kernel_rfl) (by kernel_rfl) (by kernel_rfl) (fun _ _ _ h => h) (Or.inl ⟨by rfl, fun w' hS => (by go_simp)⟩) s1 ?_
    try simp only [Go.Act.put, List.setIfInBounds_toArray, List.set_cons_zero, List.set_cons_succ]
    refine wpH_take (i := 8) (v := (.bool false)) (some 34) rfl rfl (by kernel_rfl) (by kernel_rfl) (by kernel_rfl) (fun _ _ _ h => h) (Or.inl ⟨by rfl, fun w' hS => (by go_simp)⟩) s1 ?_
    try simp only [Go.Act.put, List.setIfInBounds_toArray, List.set_cons_zero, List.set_cons_succ]
    refine wpH_take (i := 9) (v := (.pointer (some ⟨w.heap.size, 6, none⟩))) (some 35) rfl rfl (by kernel_rfl) (by kernel_rfl) (by kernel_rfl) (fun _ _ _ h => h) (Or.inl ⟨by rfl, fun w' hS => (by go_simp)⟩) s1 ?_
    try simp only [Go.Act.put, List.setIfInBounds_toArray, List.set_cons_zero, List.set_cons_succ]
    refine wpH_take (i := 10) (v := (.int .i64 x.2.2)) (some 36) rfl rfl (by kernel_rfl) (by kernel_rfl) (by kernel_rfl) (fun _ _ _ h => h) (Or.inl ⟨by rfl, fun w' hS => (by have z0 := sX6 _ hS; go_simp)⟩) s1 ?_
    try simp only [Go.Act.put, List.setIfInBounds_toArray, List.set_cons_zero, List.set_cons_succ]
    refine wpH_take (i := 11) (v := (.bool false)) (some 37) rfl rfl (by kernel_rfl) (by kernel_rfl) (by kernel_rfl) (fun _ _ _ h => h) (Or.inl ⟨by rfl, fun w' hS => (by go_simp)⟩) s1 ?_
    try simp only [Go.Act.put, List.setIfInBounds_toArray, List.set_cons_zero, List.set_cons_succ]
    refine wpH_take (i := 12) (v := (.bool false)) (some 38) rfl rfl (by kernel_rfl) (by kernel_rfl) (by kernel_rfl) (fun _ _ _ h => h) (Or.inl ⟨by rfl, fun w' hS => (by go_simp)⟩) s1 ?_
    try simp only [Go.Act.put, List.setIfInBounds_toArray, List.set_cons_zero, List.set_cons_succ]
    refine wpH_take (i := 13) (v := (.bool false)) (some 39) rfl rfl (by kernel_rfl) (by kernel_rfl) (by kernel_rfl) (fun _ _ _ h => h) (Or.inl ⟨by rfl, fun w' hS => (by go_simp)⟩) s1 ?_
    try simp only [Go.Act.put, List.setIfInBounds_toArray, List.set_cons_zero, List.set_cons_succ]
    refine wpH_take (i := 14) (v := (.pointer (some ⟨w.heap.size, 6, none⟩))) (some 40) rfl rfl (by kernel_rfl) (by kernel_rfl) (by kernel_rfl) (fun _ _ _ h => h) (Or.inl ⟨by rfl, fun w' hS => (by go_simp)⟩) s1 ?_
    try simp only [Go.Act.put, List.setIfInBounds_toArray, List.set_cons_zero, List.set_cons_succ]
    refine wpH_take (i := 15) (v := (.int .i64 x.2.2)) (some 41) rfl rfl (by kernel_rfl) (by kernel_rfl) (by kernel_rfl) (fun _ _ _ h => h) (Or.inl ⟨by rfl, fun w' hS => (by have z0 := sX6 _ hS; go_simp)⟩) s1 ?_
    try simp only [Go.Act.put, List.setIfInBounds_toArray, List.set_cons_zero, List.set_cons_succ]
    refine wpH_take (i := 16) (v := (.pointer (some ⟨m, 0, none⟩))) (some 42) rfl rfl (by kernel_rfl) (by kernel_rfl) (by kernel_rfl) (fun _ _ _ h => h) (Or.inl ⟨by rfl, fun w' hS => (by go_simp)⟩) s1 ?_
    try simp only [Go.Act.put, List.setIfInBounds_toArray, List.set_cons_zero, List.set_cons_succ]
    refine wpH_take (i := 17) (v := (.pointer (some ⟨m, 0, none⟩))) (some 43) rfl rfl (by kernel_rfl) (by kernel_rfl) (by kernel_rfl) (fun _ _ _ h => h) (Or.inl ⟨by rfl, fun w' hS => (by go_simp)⟩) s1 ?_
    try simp only [Go.Act.put, List.setIfInBounds_toArray, List.set_cons_zero, List.set_cons_succ]
    refine wpH_take (i := 18) (v := (.pointer (some ⟨m, 7, none⟩))) (some 44) rfl rfl (by kernel_rfl) (by kernel_rfl) (by kernel_rfl) (fun _ _ _ h => h) (Or.inl ⟨by rfl, fun w' hS => (by go_simp)⟩) s1 ?_
    try simp only [Go.Act.put, List.setIfInBounds_toArray, List.set_cons_zero, List.set_cons_succ]
    refine wpH_take (i := 19) (v := (.int .i64 now)) (some 45) rfl rfl (by kernel_rfl) (by kernel_rfl) (by kernel_rfl) (fun _ _ _ h => h) (Or.inl ⟨by rfl, fun w' hS => (by have z0 := sM7 _ hS; go_simp)⟩) s1 ?_
    try simp only [Go.Act.put, List.setIfInBounds_toArray, List.set_cons_zero, List.set_cons_succ]
    refine wpH_take (i := 20) (v := (.bool true)) (some 46) rfl rfl (by kernel_rfl) (by kernel_rfl) (by kernel_rfl) (fun _ _ _ h => h) (Or.inl ⟨by rfl, fun w' hS => (by go_simp)⟩) s1 ?_
    try simp only [Go.Act.put, List.setIfInBounds_toArray, List.set_cons_zero, List.set_cons_succ]
    refine wpH_take (i := 21) (v := (.bool true)) (some 47) rfl rfl (by kernel_rfl) (by kernel_rfl) (by kernel_rfl) (fun _ _ _ h => h) (Or.inl ⟨by rfl, fun w' hS => (by go_simp)⟩) s1 ?_
    try simp only [Go.Act.put, List.setIfInBounds_toArray, List.set_cons_zero, List.set_cons_succ]
    refine wpAnyH_done (by kernel_rfl) ?_ _
    have SE := hid s1
    clear sX0 sX1 sX2 sX3 sX4 sX5 sX6 sM7 s0 s1
    go_wp2
    go_ret
    exact ⟨rfl, TU.out.trans' SE.out⟩
set_option maxHeartbeats 4000000 in
set_option maxRecDepth 100000 in
theorem next40_E (w : World) (m b o : Nat) (G : List Nat) (c : Cf) (now : Int) (xs : List En) (h : Mb w m b o G c now xs) (x : En) (hk : Ok x.1) (hp : pairE x.1 x.2.1 = 0) (hf : fnd xs x.1 = none) (hkc : keepsC c x.2.1 = true) (ha : ¬ x.2.2 < 0) (hb : ¬ now < x.2.2) : Calls Try.prog 40 #[PT m, nv x] w fun e w' => e = .returned (.int .i64 0) ∧ Touch [] w w' := by
  obtain ⟨V, hV⟩ : ∃ V, V = w.alloc (.cells #[.int .u16 x.1.1, .string x.1.2, .int .i64 x.2.1.1, .int .i64 x.2.1.2.1, .int .i64 x.2.1.2.2.1, .int .i64 x.2.1.2.2.2, .int .i64 x.2.2] 56) := ⟨_, rfl⟩
  have TV : Hid (Touch [] w V) := hid (by rw [hV]; exact (Touch.refl _ _).alloc _)
  have HX : Hid (∀ w', Touch [] V w' → w'.cell? ⟨w.heap.size, 0, none⟩ = some (.int .u16 x.1.1) ∧ w'.cell? ⟨w.heap.size, 1, none⟩ = some (.string x.1.2) ∧ w'.cell? ⟨w.heap.size, 2, none⟩ = some (.int .i64 x.2.1.1) ∧ w'.cell? ⟨w.heap.size, 3, none⟩ = some (.int .i64 x.2.1.2.1) ∧ w'.cell? ⟨w.heap.size, 4, none⟩ = some (.int .i64 x.2.1.2.2.1) ∧ w'.cell? ⟨w.heap.size, 5, none⟩ = some (.int .i64 x.2.1.2.2.2) ∧ w'.cell? ⟨w.heap.size, 6, none⟩ = some (.int .i64 x.2.2)) := hid (fun w' t => by
    have := t.keep (k := w.heap.size) (by rw [hV]; exact heap_alloc_new w _) (by simp)
    simp [World.cell?, this])
  obtain ⟨x0, x1, x2, x3, x4, x5, x6⟩ := HX.out V (Touch.refl _ _)
  have HP := hid (pair46 V x.1 x.2.1)
  unfold kv ov at HP
  rw [hp] at HP
  clear hp
  have HKq : Hid (∀ wu w' : World, Mb wu m b o G c now xs → Touch [] wu w' → Calls Try.prog 47 #[.pointer (some ⟨m, 0, none⟩), .agg #[.int .i64 x.2.1.1, .int .i64 x.2.1.2.1, .int .i64 x.2.1.2.2.1, .int .i64 x.2.1.2.2.2]] w' fun e w'' => e = .returned (.bool (keepsC c x.2.1)) ∧ Touch [] wu w'') := hid (fun wu w' hu t => (keeps47 w' m c now b o (hu.keep0 t).md x.2.1).mono (by
    rintro e w'' ⟨rfl, t2⟩
    exact ⟨rfl, t.trans' t2⟩))
  rw [hkc] at HKq
  clear hkc
  unfold PT nv
  go_enter Try.func40, Try.ntmps40
  go_upto_region 1 with fail
  rw [← hV]
  clear hV
  go_upto_region 4 with (go_at_call 46; refine HP.out.mono ?_; rintro e w2 ⟨rfl, t2⟩; have T2 := hid (TV.out.trans' t2); have T2v := hid t2; clear t2)
  clear x0 x1 x2 x3 x4 x5 x6
  have sA : ∀ w', Touch [] w2 w' → w'.cell? ⟨m, 8, none⟩ = some (.map (some b)) := fun w' t => (h.keep0 (T2.out.trans' t)).md.cs.c8
  have sB : ∀ w', Touch [] w2 w' → w'.cell? ⟨w.heap.size, 0, none⟩ = some (.int .u16 x.1.1) := fun w' t => (HX.out w' (T2v.out.trans' t)).1
  have sC : ∀ w', Touch [] w2 w' → w'.cell? ⟨w.heap.size, 1, none⟩ = some (.string x.1.2) := fun w' t => (HX.out w' (T2v.out.trans' t)).2.1
  have sL : ∀ w', Touch [] w2 w' → (Instr.lookup 91 (.map (some b)) (.agg #[.int .u16 x.1.1, .string x.1.2]) true).run Try.prog w' = .ok (.tuple #[.agg #[.int .i64 0, .int .i64 0, .int .i64 0, .int .i64 0, .int .i64 0], .bool false]) w' := fun w' t => by
    have := (h.keep0 (T2.out.trans' t)).look hk
    rw [hf] at this
    exact this
  obtain ⟨U, hU⟩ : ∃ U, U = (w2.alloc (.cells #[.int .i64 0, .int .i64 0, .int .i64 0, .int .i64 0, .int .i64 0] 108)).drew := ⟨_, rfl⟩
  have TU2 : Touch [] w2 U := by rw [hU]; exact ((Touch.refl _ _).alloc _).drew
  have TU : Hid (Touch [] w U) := hid (T2.out.trans' TU2)
  have HM := hid (h.keep0 TU.out)
  have HXU := hid (fun w' (t : Touch [] U w') => HX.out w' ((T2v.out.trans' TU2).trans' t))
  have t0 : Touch [] w2 w2.drew := (Touch.refl _ _).drew
  go_region_held3 (fun w' => Touch [] w2 w') (repeat (first | assumption | exact Touch.refl _ _ | apply Touch.alloc | apply Touch.drew | (refine Touch.setCell ?_ (Or.inr (by simp)) _))) (fail)
  all_goals
    clear sA sB sC sL t0
    rw [← hU]
    clear hU TU2
    go_upto_region 5 with fail
    have sM7 : ∀ w', Touch [] U w' → w'.cell? ⟨m, 7, none⟩ = some (.int .i64 now) := fun w' t => (HM.out.keep0 t).md.cs.c7
    have sX0 : ∀ w', Touch [] U w' → w'.cell? ⟨w.heap.size, 0, none⟩ = some (.int .u16 x.1.1) := fun w' t => (HXU.out w' t).1
    have sX1 : ∀ w', Touch [] U w' → w'.cell? ⟨w.heap.size, 1, none⟩ = some (.string x.1.2) := fun w' t => (HXU.out w' t).2.1
    have sX2 : ∀ w', Touch [] U w' → w'.cell? ⟨w.heap.size, 2, none⟩ = some (.int .i64 x.2.1.1) := fun w' t => (HXU.out w' t).2.2.1
    have sX3 : ∀ w', Touch [] U w' → w'.cell? ⟨w.heap.size, 3, none⟩ = some (.int .i64 x.2.1.2.1) := fun w' t => (HXU.out w' t).2.2.2.1
    have sX4 : ∀ w', Touch [] U w' → w'.cell? ⟨w.heap.size, 4, none⟩ = some (.int .i64 x.2.1.2.2.1) := fun w' t => (HXU.out w' t).2.2.2.2.1
    have sX5 : ∀ w', Touch [] U w' → w'.cell? ⟨w.heap.size, 5, none⟩ = some (.int .i64 x.2.1.2.2.2) := fun w' t => (HXU.out w' t).2.2.2.2.2.1
    have sX6 : ∀ w', Touch [] U w' → w'.cell? ⟨w.heap.size, 6, none⟩ = some (.int .i64 x.2.2) := fun w' t => (HXU.out w' t).2.2.2.2.2.2
    have HKp := hid (fun w' t => HKq.out U w' HM.out t)
    have s0 : Touch [] U U.drew := (Touch.refl _ _).drew
    refine wp_region_H (S := fun w' => Touch [] U w') (by kernel_rfl) ?_
    refine wpH_take (i := 0) (v := (.bool false)) (some 26) rfl rfl (by kernel_rfl) (by kernel_rfl) (by kernel_rfl) (fun _ _ _ h => h) (Or.inl ⟨by rfl, fun w' hS => (by go_simp)⟩) s0 ?_
    try simp only [Go.Act.put, List.setIfInBounds_toArray, List.set_cons_zero, List.set_cons_succ]
    refine wpH_take (i := 1) (v := (.bool false)) (some 27) rfl rfl (by kernel_rfl) (by kernel_rfl) (by kernel_rfl) (fun _ _ _ h => h) (Or.inl ⟨by rfl, fun w' hS => (by go_simp)⟩) s0 ?_
    try simp only [Go.Act.put, List.setIfInBounds_toArray, List.set_cons_zero, List.set_cons_succ]
    refine wpH_take (i := 2) (v := (.pointer (some ⟨m, 0, none⟩))) (some 28) rfl rfl (by kernel_rfl) (by kernel_rfl) (by kernel_rfl) (fun _ _ _ h => h) (Or.inl ⟨by rfl, fun w' hS => (by go_simp)⟩) s0 ?_
    try simp only [Go.Act.put, List.setIfInBounds_toArray, List.set_cons_zero, List.set_cons_succ]
    refine wpH_take (i := 3) (v := (.pointer (some ⟨w.heap.size, 2, none⟩))) (some 29) rfl rfl (by kernel_rfl) (by kernel_rfl) (by kernel_rfl) (fun _ _ _ h => h) (Or.inl ⟨by rfl, fun w' hS => (by go_simp)⟩) s0 ?_
    try simp only [Go.Act.put, List.setIfInBounds_toArray, List.set_cons_zero, List.set_cons_succ]
    refine wpH_take (i := 4) (v := (.agg #[.int .i64 x.2.1.1, .int .i64 x.2.1.2.1, .int .i64 x.2.1.2.2.1, .int .i64 x.2.1.2.2.2])) (some 30) rfl rfl (by kernel_rfl) (by kernel_rfl) (by kernel_rfl) (fun _ _ _ h => h) (Or.inl ⟨by rfl, fun w' hS => (by have z0 := sX2 _ hS; have z1 := sX3 _ hS; have z2 := sX4 _ hS; have z3 := sX5 _ hS; go_simp)⟩) s0 ?_
    try simp only [Go.Act.put, List.setIfInBounds_toArray, List.set_cons_zero, List.set_cons_succ]
    refine wpH_call (i := 5) (o := { dst := some 31, op := Op.call { callee := Callee.value (Operand.func 47), args := #[Operand.tmp 28, Operand.tmp 30], argTypes := #[26, 43] }, type := 4, pos := _, after := #[{ on := 2, ground := Ground.data }, { on := 4, ground := Ground.data }, { on := 1, ground := Ground.chain }, { on := 1, ground := Ground.guard }], guard := some (1, false) }) (by kernel_rfl) rfl (fun K' hK => ?_)
    rw [if_pos (by rfl)]
    go_simp
    refine (HKp.out _ s0).mono ?_
    rintro e w6 ⟨rfl, s1⟩
    refine hK.out _ _ s1 ?_
    clear hK
    try simp only [Go.Act.put, List.setIfInBounds_toArray, List.set_cons_zero, List.set_cons_succ]
    refine wpH_take (i := 6) (v := (.bool false)) (some 32) rfl rfl (by kernel_rfl) (by kernel_rfl) (by kernel_rfl) (fun _ _ _ h => h) (Or.inl ⟨by rfl, fun w' hS => (by go_simp)⟩) s1 ?_
    try simp only [Go.Act.put, List.setIfInBounds_toArray, List.set_cons_zero, List.set_cons_succ]
    refine wpH_take (i := 7) (v := (.bool false)) (some 33) rfl rfl (by kernel_rfl) (by kernel_rfl) (by kernel_rfl) (fun _ _ _ h => h) (Or.inl ⟨by rfl, fun w' hS => (by go_simp)⟩) s1 ?_
    try simp only [Go.Act.put, List.setIfInBounds_toArray, List.set_cons_zero, List.set_cons_succ]
    refine wpH_take (i := 8) (v := (.bool false)) (some 34) rfl rfl (by kernel_rfl) (by kernel_rfl) (by kernel_rfl) (fun _ _ _ h => h) (Or.inl ⟨by rfl, fun w' hS => (by go_simp)⟩) s1 ?_
    try simp only [Go.Act.put, List.setIfInBounds_toArray, List.set_cons_zero, List.set_cons_succ]
    refine wpH_take (i := 9) (v := (.pointer (some ⟨w.heap.size, 6, none⟩))) (some 35) rfl rfl (by kernel_rfl) (by kernel_rfl) (by kernel_rfl) (fun _ _ _ h => h) (Or.inl ⟨by rfl, fun w' hS => (by go_simp)⟩) s1 ?_
    try simp only [Go.Act.put, List.setIfInBounds_toArray, List.set_cons_zero, List.set_cons_succ]
    refine wpH_take (i := 10) (v := (.int .i64 x.2.2)) (some 36) rfl rfl (by kernel_rfl) (by kernel_rfl) (by kernel_rfl) (fun _ _ _ h => h) (Or.inl ⟨by rfl, fun w' hS => (by have z0 := sX6 _ hS; go_simp)⟩) s1 ?_
    try simp only [Go.Act.put, List.setIfInBounds_toArray, List.set_cons_zero, List.set_cons_succ]
    refine wpH_take (i := 11) (v := (.bool false)) (some 37) rfl rfl (by kernel_rfl) (by kernel_rfl) (by kernel_rfl) (fun _ _ _ h => h) (Or.inl ⟨by rfl, fun w' hS => (by go_simp)⟩) s1 ?_
    try simp only [Go.Act.put, List.setIfInBounds_toArray, List.set_cons_zero, List.set_cons_succ]
    refine wpH_take (i := 12) (v := (.bool false)) (some 38) rfl rfl (by kernel_rfl) (by kernel_rfl) (by kernel_rfl) (fun _ _ _ h => h) (Or.inl ⟨by rfl, fun w' hS => (by go_simp)⟩) s1 ?_
    try simp only [Go.Act.put, List.setIfInBounds_toArray, List.set_cons_zero, List.set_cons_succ]
    refine wpH_take (i := 13) (v := (.bool false)) (some 39) rfl rfl (by kernel_rfl) (by kernel_rfl) (by kernel_rfl) (fun _ _ _ h => h) (Or.inl ⟨by rfl, fun w' hS => (by go_simp)⟩) s1 ?_
    try simp only [Go.Act.put, List.setIfInBounds_toArray, List.set_cons_zero, List.set_cons_succ]
    refine wpH_take (i := 14) (v := (.pointer (some ⟨w.heap.size, 6, none⟩))) (some 40) rfl rfl (by kernel_rfl) (by kernel_rfl) (by kernel_rfl) (fun _ _ _ h => h) (Or.inl ⟨by rfl, fun w' hS => (by go_simp)⟩) s1 ?_
    try simp only [Go.Act.put, List.setIfInBounds_toArray, List.set_cons_zero, List.set_cons_succ]
    refine wpH_take (i := 15) (v := (.int .i64 x.2.2)) (some 41) rfl rfl (by kernel_rfl) (by kernel_rfl) (by kernel_rfl) (fun _ _ _ h => h) (Or.inl ⟨by rfl, fun w' hS => (by have z0 := sX6 _ hS; go_simp)⟩) s1 ?_
    try simp only [Go.Act.put, List.setIfInBounds_toArray, List.set_cons_zero, List.set_cons_succ]
    refine wpH_take (i := 16) (v := (.pointer (some ⟨m, 0, none⟩))) (some 42) rfl rfl (by kernel_rfl) (by kernel_rfl) (by kernel_rfl) (fun _ _ _ h => h) (Or.inl ⟨by rfl, fun w' hS => (by go_simp)⟩) s1 ?_
    try simp only [Go.Act.put, List.setIfInBounds_toArray, List.set_cons_zero, List.set_cons_succ]
    refine wpH_take (i := 17) (v := (.pointer (some ⟨m, 0, none⟩))) (some 43) rfl rfl (by kernel_rfl) (by kernel_rfl) (by kernel_rfl) (fun _ _ _ h => h) (Or.inl ⟨by rfl, fun w' hS => (by go_simp)⟩) s1 ?_
    try simp only [Go.Act.put, List.setIfInBounds_toArray, List.set_cons_zero, List.set_cons_succ]
    refine wpH_take (i := 18) (v := (.pointer (some ⟨m, 7, none⟩))) (some 44) rfl rfl (by kernel_rfl) (by kernel_rfl) (by kernel_rfl) (fun _ _ _ h => h) (Or.inl ⟨by rfl, fun w' hS => (by go_simp)⟩) s1 ?_
    try simp only [Go.Act.put, List.setIfInBounds_toArray, List.set_cons_zero, List.set_cons_succ]
    refine wpH_take (i := 19) (v := (.int .i64 now)) (some 45) rfl rfl (by kernel_rfl) (by kernel_rfl) (by kernel_rfl) (fun _ _ _ h => h) (Or.inl ⟨by rfl, fun w' hS => (by have z0 := sM7 _ hS; go_simp)⟩) s1 ?_
    try simp only [Go.Act.put, List.setIfInBounds_toArray, List.set_cons_zero, List.set_cons_succ]
    refine wpH_take (i := 20) (v := (.bool false)) (some 46) rfl rfl (by kernel_rfl) (by kernel_rfl) (by kernel_rfl) (fun _ _ _ h => h) (Or.inl ⟨by rfl, fun w' hS => (by go_simp)⟩) s1 ?_
    try simp only [Go.Act.put, List.setIfInBounds_toArray, List.set_cons_zero, List.set_cons_succ]
    refine wpH_take (i := 21) (v := (.bool false)) (some 47) rfl rfl (by kernel_rfl) (by kernel_rfl) (by kernel_rfl) (fun _ _ _ h => h) (Or.inl ⟨by rfl, fun w' hS => (by go_simp)⟩) s1 ?_
    try simp only [Go.Act.put, List.setIfInBounds_toArray, List.set_cons_zero, List.set_cons_succ]
    refine wpAnyH_done (by kernel_rfl) ?_ _
    have SE := hid s1
    clear sX0 sX1 sX2 sX3 sX4 sX5 sX6 sM7 s0 s1
    go_wp2
    go_ret
    exact ⟨rfl, TU.out.trans' SE.out⟩
theorem next40 (w : World) (m : Nat) (F : List Nat) (c : Cf) (now : Int) (xs : List En) (h : Mq w m F c now xs) (x : En) (hk : Ok x.1) : Calls Try.prog 40 #[PT m, nv x] w fun e w' => e = .returned (.int .i64 (nxE c now xs x)) ∧ Touch [] w w' := by
  obtain ⟨b, o, G, rfl, h⟩ := h
  unfold nxE
  by_cases hp : pairE x.1 x.2.1 = 0
  · rw [if_neg (by simp [hp])]
    cases hf : fnd xs x.1 with
    | some v => rw [if_pos (by simp)]; exact next40_some w m b o G c now xs h x hk hp v hf
    | none =>
      cases hkc : keepsC c x.2.1 with
      | false => rw [if_pos (by simp)]; exact next40_B w m b o G c now xs h x hk hp hf hkc
      | true =>
        by_cases ha : x.2.2 < 0
        · rw [if_pos (by simp [ha])]; exact next40_C w m b o G c now xs h x hk hp hf hkc ha
        · by_cases hb : now < x.2.2
          · rw [if_pos (by simp [hb])]; exact next40_D w m b o G c now xs h x hk hp hf hkc ha hb
          · rw [if_neg (by simp; omega)]; exact next40_E w m b o G c now xs h x hk hp hf hkc ha hb
  · rw [if_pos hp]; exact next40_pair w m b o G c now xs h x hk hp
end Go.Proofs.Ytopepalpmkeffaa
/- The contract of Of; the entries lie in a slice of its own. -/
namespace Go.Proofs.Ytopepalpmkeffaa
open Go.RowKit Go.Sort Go.Maps Go.ChangeMaps Go.WideMaps
set_option linter.unusedVariables false
set_option linter.unusedSimpArgs false
theorem drx_out {xs : List En} {k : K} (h : ¬ k ∈ keysL xs) : drx xs k = xs := by
  unfold drx
  refine List.filter_eq_self.2 (fun x hx => ?_)
  simp only [decide_eq_true_eq]
  exact fun e => h (by unfold keysL; exact List.mem_map.2 ⟨x, hx, e⟩)
theorem fnd_out {xs : List En} {k : K} (hd : (keysL xs).Nodup) (h : fnd xs k = none) : ¬ k ∈ keysL xs := fun hk => by
  obtain ⟨i, hi, h1, _⟩ := pos_yes hk
  have := fnd_of_mem hd (List.getElem_mem hi)
  rw [h1, h] at this
  cases this
theorem putL_new {e : Int} {xs : List En} {x : En} (h : ¬ x.1 ∈ keysL xs) (hl : (xs.length : Int) + 1 ≤ e) : putL e xs x.1 x.2 = xs ++ [x] := by
  unfold putL
  rw [if_neg]
  · unfold putY; rw [drx_out h]
  · unfold useB useY
    rw [dr_no h, List.length_append, keysL_len]
    simp only [decide_eq_true_eq, List.length_singleton]
    omega
theorem nxE_ok {c : Cf} {now : Int} {xs : List En} {x : En} (h : nxE c now xs x = 0) : x.1.2.size ≤ 64 ∧ (right x.2.1 = true ∧ 0 ≤ x.2.2 ∧ x.2.2 ≤ now) ∧ fnd xs x.1 = none := by
  unfold nxE at h
  by_cases hp : pairE x.1 x.2.1 = 0
  · rw [if_neg (by simp [hp])] at h
    obtain ⟨h1, h2⟩ := pairE_ok hp
    split at h
    · cases h
    · rename_i hh
      simp only [Bool.or_eq_true, decide_eq_true_eq, not_or] at hh
      refine ⟨h1, ⟨h2, by omega, by omega⟩, ?_⟩
      cases hf : fnd xs x.1 with
      | none => rfl
      | some v => exfalso; apply hh.1.1.1; rw [hf]; rfl
  · rw [if_pos hp] at h; exact absurd h hp
theorem nxE_64 (c : Cf) (now : Int) (xs : List En) (x : En) : nxE c now xs x = 0 ∨ nxE c now xs x = 1 ∨ nxE c now xs x = 20 ∨ nxE c now xs x = 30 := by
  unfold nxE pairE
  repeat' split
  all_goals simp_all
theorem RN.mqt {t : Nat} {w w' : World} {m : Nat} {F : List Nat} {c : Cf} {now : Int} {xs ys : List En} {v : Value} (hr : RN t w v ys) (h1 : t ≠ 129) (h2 : t ≠ 146) (h3 : t ≠ 93) (h : Mq w m F c now xs) (tt : Touch F w w') : RN t w' v ys := hr.keepK (fun r cs hc => tt.keep hc (h.away hc h1 h2 h3))
theorem RN.at1 {t : Nat} {w : World} {g off n c : Nat} {xs : List En} (h : RN t w (.slice (some ⟨g, off, none⟩) n c) xs) (hp : 0 < xs.length) : At7 w t g off xs := by
  obtain ⟨a', c', e1, _, e3⟩ := h
  obtain ⟨g', off', e4, hat⟩ := e3 hp
  injection e1 with e1 _ _
  rw [e4] at e1
  injection e1 with e1
  injection e1 with e5 e6
  rw [e5, e6]
  exact hat
structure OfS (w : World) (c : Cf) (now : Int) (xs : List En) (v : Value) (m k : Nat) (wr : World) : Prop where
  mq : ∃ F, Mq wr m F c now (xs.take k) ∧ ∀ i ∈ F, w.heap.size ≤ i
  rn : RN 56 wr v xs
  t : Touch [] w wr
  eq : ofL c now [] xs 0 = ofL c now (xs.take k) (xs.drop k) (k : Int)
section
variable {w wr wr' : World} {c : Cf} {now : Int} {xs : List En} {v : Value} {m k : Nat}
theorem OfS.keep0 (h : OfS w c now xs v m k wr) (t : Touch [] wr wr') : OfS w c now xs v m k wr' := by
  obtain ⟨F, q, hF⟩ := h.mq
  exact ⟨⟨F, q.keep0 t, hF⟩, h.rn.keep t, h.t.trans' t, h.eq⟩
theorem OfS.next (h : OfS w c now xs v m k wr) (x : En) (hk : Ok x.1) : Calls Try.prog 40 #[PT m, nv x] wr fun e w' => e = .returned (.int .i64 (nxE c now (xs.take k) x)) ∧ Touch [] wr w' := by
  obtain ⟨F, q, hF⟩ := h.mq
  exact next40 wr m F c now _ q x hk
theorem OfS.bad (h : OfS w c now xs v m k wr) (hk : k < xs.length) (h0 : nxE c now (xs.take k) xs[k] ≠ 0) : ofL c now [] xs 0 = ((k : Int), nxE c now (xs.take k) xs[k]) := by
  rw [h.eq, List.drop_eq_getElem_cons hk]
  unfold ofL
  rw [if_pos h0]
theorem OfS.fin (h : OfS w c now xs v m k wr) (hk : xs.length ≤ k) : ofL c now [] xs 0 = (0, 0) ∧ ∃ F, Mq wr m F c now xs ∧ (∀ i ∈ F, w.heap.size ≤ i) := by
  obtain ⟨F, q, hF⟩ := h.mq
  rw [List.take_of_length_le hk] at q
  refine ⟨?_, F, q, hF⟩
  rw [h.eq, List.drop_of_length_le hk]
  rfl
theorem OfS.put (h : OfS w c now xs v m k wr) (hk : k < xs.length) (hl : (xs.length : Int) ≤ c.e) (h0 : nxE c now (xs.take k) xs[k] = 0) (ok : Ok xs[k].1) : Calls Try.prog 41 #[PT m, kv xs[k].1, ev xs[k].2] wr fun e w' => ∃ u, e = .returned u ∧ OfS w c now xs v m (k + 1) w' := by
  obtain ⟨F, q, hF⟩ := h.mq
  obtain ⟨g1, g2, g3⟩ := nxE_ok h0
  have hn := fnd_out q.nd g3
  have hp : putL c.e (xs.take k) xs[k].1 xs[k].2 = xs.take (k + 1) := by
    rw [putL_new hn (by rw [List.length_take]; omega), List.take_add_one, List.getElem?_eq_getElem hk]
    rfl
  refine (putM wr m F c now _ q xs[k].1 ok g1 xs[k].2 g2).mono ?_
  rintro e w' ⟨u, rfl, _, F2, q2, t2, f2⟩
  rw [hp] at q2
  refine ⟨u, rfl, ⟨F2, q2, fun i hi => ?_⟩, h.rn.mqt (by decide) (by decide) (by decide) q t2, h.t.trans t2 (fun i hi => Or.inr (hF i hi)), ?_⟩
  · rcases f2 i hi with h1 | h1
    · exact hF i h1
    · exact Nat.le_trans h.t.size h1
  · rw [h.eq, List.drop_eq_getElem_cons hk, ofL, if_neg (by rw [h0]; simp), List.take_add_one, List.getElem?_eq_getElem hk]
    rfl
end
def OfA (w : World) (c : Cf) (now : Int) (xs : List En) (pm : Value) (w' : World) : Prop := ((ofP c now xs).2 ≠ 0 ∧ pm = .pointer none ∧ Touch [] w w') ∨ ((ofP c now xs).2 = 0 ∧ (ofP c now xs).1 = 0 ∧ ∃ m F, pm = PT m ∧ Mq w' m F c now xs ∧ (∀ i ∈ F, w.heap.size ≤ i) ∧ Touch [] w w')
set_option maxHeartbeats 1000000 in
theorem of15_cfg (w : World) (c : Cf) (now : Int) (a1 : Option Addr) (n1 c1 : Nat) (hc : okC c = false) : Calls Try.prog 15 #[cv c, .int .i64 now, .slice a1 n1 c1] w fun e w' => e = .returned (.tuple #[.pointer none, .int .i64 0, .int .i64 100]) ∧ Touch [] w w' := by
  have HN := hid (fun w2 => new9_no w2 c hc)
  unfold cv at HN
  unfold cv
  go_enter Try.func15, Try.ntmps15
  go_wp2_with (go_at_call 9; refine (HN.out _).mono ?_; rintro x w3 ⟨rfl, t3⟩; have T3 := hid (((Touch.refl [] w).alloc _).trans' t3); clear t3)
  exact bodyPost_ret (v := .tuple #[.pointer none, .int .i64 0, .int .i64 100]) (by simp [results, Try.results15, go_sem]) rfl ⟨rfl, T3.out⟩
set_option maxHeartbeats 1000000 in
theorem of15_tick (w : World) (c : Cf) (now : Int) (a1 : Option Addr) (n1 c1 : Nat) (wc : Wc c) (hc : okC c = true) (ht : isT now = false) : Calls Try.prog 15 #[cv c, .int .i64 now, .slice a1 n1 c1] w fun e w' => e = .returned (.tuple #[.pointer none, .int .i64 0, .int .i64 10]) ∧ Touch [] w w' := by
  have HN : Hid (∀ w2, Calls Try.prog 9 #[cv c] w2 fun x w' => ∃ m, x = .returned (.tuple #[PT m, .int .i64 0]) ∧ NwQ w2 c m w') := hid (fun w2 => new9_ok w2 c hc ⟨wc.1.hi, wc.2.1.hi, wc.2.2.1.hi⟩)
  have HT := hid (fun w => is39 now w)
  rw [ht] at HT
  unfold cv PT at HN
  unfold cv
  go_enter Try.func15, Try.ntmps15
  go_wp2_with (first
    | (go_at_call 9; refine (HN.out _).mono ?_; rintro x w3 ⟨m, rfl, F, q3, f3, t3⟩; have T3 := hid (((Touch.refl [] w).alloc _).trans' t3); clear t3 q3 f3)
    | (go_at_call 39; refine (HT.out _).mono ?_; rintro x w4 ⟨rfl, e4⟩; rw [e4]; clear e4 w4))
  exact bodyPost_ret (v := .tuple #[.pointer none, .int .i64 0, .int .i64 10]) (by simp [results, Try.results15, go_sem]) rfl ⟨rfl, T3.out⟩
set_option maxHeartbeats 1000000 in
theorem of15_many (w : World) (c : Cf) (now : Int) (a1 : Option Addr) (n1 c1 : Nat) (wc : Wc c) (hc : okC c = true) (ht : isT now = true) (hm : c.e < (n1 : Int)) (hl : (n1 : Int) ≤ 9223372036854775807) : Calls Try.prog 15 #[cv c, .int .i64 now, .slice a1 n1 c1] w fun e w' => e = .returned (.tuple #[.pointer none, .int .i64 0, .int .i64 3]) ∧ Touch [] w w' := by
  obtain ⟨V, hV⟩ : ∃ V, V = w.alloc (cbx c 23) := ⟨_, rfl⟩
  have TV : Hid (Touch [] w V) := hid (by rw [hV]; exact (Touch.refl _ _).alloc _)
  have HC : Hid (∀ w', Touch [] V w' → C7 w' w.heap.size c) := hid (fun w' t => C7.mk' (t.keep (by rw [hV]; exact heap_alloc_new w (cbx c 23)) (by simp)))
  obtain ⟨c0, c1', c2, c3, c4, c5, c6⟩ := HC.out V (Touch.refl _ _)
  have HN : Hid (∀ w2, Calls Try.prog 9 #[cv c] w2 fun x w' => ∃ m, x = .returned (.tuple #[PT m, .int .i64 0]) ∧ NwQ w2 c m w') := hid (fun w2 => new9_ok w2 c hc ⟨wc.1.hi, wc.2.1.hi, wc.2.2.1.hi⟩)
  have HT := hid (fun w => is39 now w)
  rw [ht] at HT
  unfold cv PT at HN
  unfold cv
  unfold cbx at hV
  clear wc
  go_enter Try.func15, Try.ntmps15
  go_upto_region 1 with fail
  rw [← hV]
  clear hV
  go_upto_region 4 with (go_at_call 9; refine (HN.out _).mono ?_; rintro x w3 ⟨m, rfl, F, q3, f3, t3⟩; have T3 := hid t3; clear t3 q3 f3)
  clear c0 c1' c2 c3 c4 c5 c6
  obtain ⟨c0, c1', c2, c3, c4, c5, c6⟩ := HC.out w3 T3.out
  go_wp2_with (go_at_call 39; refine (HT.out _).mono ?_; rintro x w4 ⟨rfl, e4⟩; rw [e4]; clear e4 w4)
  exact bodyPost_ret (v := .tuple #[.pointer none, .int .i64 0, .int .i64 3]) (by simp [results, Try.results15, go_sem]) rfl ⟨rfl, TV.out.trans' T3.out⟩
set_option maxHeartbeats 8000000 in
set_option maxRecDepth 100000 in
theorem of15_go (w : World) (c : Cf) (now : Int) (xs : List En) (v : Value) (wc : Wc c) (hc : okC c = true) (ht : isT now = true) (hm : ¬ c.e < (xs.length : Int)) (hv : RN 56 w v xs) (hok : ∀ x ∈ xs, Ok x.1) : Calls Try.prog 15 #[cv c, .int .i64 now, v] w fun e w' => ∃ pm, e = .returned (.tuple #[pm, .int .i64 (ofL c now [] xs 0).1, .int .i64 (ofL c now [] xs 0).2]) ∧ (((ofL c now [] xs 0).2 ≠ 0 ∧ pm = .pointer none ∧ Touch [] w w') ∨ ((ofL c now [] xs 0).2 = 0 ∧ (ofL c now [] xs 0).1 = 0 ∧ ∃ m F, pm = PT m ∧ Mq w' m F c now xs ∧ (∀ i ∈ F, w.heap.size ≤ i) ∧ Touch [] w w')) := by
  obtain ⟨a1, c1, rfl, hcp, hg⟩ := hv
  have HR0 : Hid (RN 56 w (.slice a1 xs.length c1) xs) := hid ⟨a1, c1, rfl, hcp, hg⟩
  obtain ⟨V, hV⟩ : ∃ V, V = w.alloc (cbx c 23) := ⟨_, rfl⟩
  have TV : Hid (Touch [] w V) := hid (by rw [hV]; exact (Touch.refl _ _).alloc _)
  have HC : Hid (∀ w', Touch [] V w' → C7 w' w.heap.size c) := hid (fun w' t => C7.mk' (t.keep (by rw [hV]; exact heap_alloc_new w (cbx c 23)) (by simp)))
  obtain ⟨c0, c1', c2, c3, c4, c5, c6⟩ := HC.out V (Touch.refl _ _)
  have HN : Hid (∀ w2, Calls Try.prog 9 #[cv c] w2 fun x w' => ∃ m, x = .returned (.tuple #[PT m, .int .i64 0]) ∧ NwQ w2 c m w') := hid (fun w2 => new9_ok w2 c hc ⟨wc.1.hi, wc.2.1.hi, wc.2.2.1.hi⟩)
  have HT := hid (fun w => is39 now w)
  rw [ht] at HT
  have HNow : Hid (0 ≤ now ∧ now ≤ MT) := hid (by unfold isT at ht; simp only [Bool.and_eq_true, decide_eq_true_eq] at ht; unfold MT; exact ht)
  have HOK := hid hok
  have hle := (okC_e hc).2
  obtain ⟨n, hn⟩ : ∃ n, n = xs.length := ⟨_, rfl⟩
  have HNx := hid hn
  have HG : Hid (0 < n → ∃ g off, a1 = some ⟨g, off, none⟩) := hid (fun hp => by obtain ⟨g, off, h1, _⟩ := hg (by omega); exact ⟨g, off, h1⟩)
  rw [← hn] at HR0 hm ⊢
  have zl : (n : Int) ≤ c.e := by omega
  have zn : (n : Int) ≤ 65536 := by omega
  have HLe := hid zl
  obtain ⟨rp, hrp⟩ : ∃ rp, rp = ofL c now [] xs 0 := ⟨_, rfl⟩
  rw [← hrp]
  have HRp := hid hrp
  unfold cv PT at HN
  unfold cv
  unfold cbx at hV
  clear wc hc ht hm hcp hg hok hn hle hrp
  go_enter Try.func15, Try.ntmps15
  go_upto_region 1 with fail
  rw [← hV]
  clear hV
  go_upto_region 4 with (go_at_call 9; refine (HN.out _).mono ?_; rintro x w3 ⟨m, rfl, F, q3, f3, t3⟩; have T3 := hid t3; have Q3 := hid q3; have F3 := hid f3; clear t3 q3 f3)
  clear c0 c1' c2 c3 c4 c5 c6
  obtain ⟨c0, c1', c2, c3, c4, c5, c6⟩ := HC.out w3 T3.out
  obtain ⟨k7, kf⟩ : w3.cell? ⟨m, 7, none⟩ = some (.int .i64 0) ∧ w3.frozen? ⟨m, 7, none⟩ = false := by
    obtain ⟨b, o, G, _, q⟩ := Q3.out
    exact ⟨q.md.cs.c7, q.md.cs.f7⟩
  go_upto_region 9 with (go_at_call 39; refine (HT.out _).mono ?_; rintro x w4 ⟨rfl, e4⟩; rw [e4]; clear e4 w4)
  clear c0 c1' c2 c3 c4 c5 c6 k7 kf
  obtain ⟨W3, hW3⟩ : ∃ W3, W3 = w3.setCell ⟨m, 7, none⟩ (.int .i64 now) := ⟨_, rfl⟩
  have HI0 : Hid (OfS w c now xs (.slice a1 n c1) m 0 W3) := hid (by
    obtain ⟨F2, q2, t2, f2⟩ := Q3.out.time HNow.out.1 HNow.out.2
    rw [← hW3] at q2 t2
    have hz := TV.out.size
    refine ⟨⟨F2, q2, fun i hi => ?_⟩, (HR0.out.keep (TV.out.trans' T3.out)).mqt (by decide) (by decide) (by decide) Q3.out t2, (TV.out.trans' T3.out).trans t2 (fun i hi => Or.inr (by have := F3.out i hi; omega)), rfl⟩
    rcases f2 i hi with h1 | h1
    · have := F3.out i h1; omega
    · have := (TV.out.trans' T3.out).size; omega)
  rw [← hW3]
  clear hW3 T3 Q3 F3 HN HT HC TV HR0 HNow
  go_wp2_with fail
  go_loopw [36] (fun s36 wr => ∃ k : Nat, s36 = .int .i64 (k : Int) ∧ k ≤ n ∧ Hid (OfS w c now xs (.slice a1 n c1) m k wr)) (fun i _ => n - (intOf i).toNat)
  case atStart => exact ⟨0, rfl, Nat.zero_le _, HI0⟩
  case round =>
    clear HI0
    obtain ⟨k, rfl, hk, HS⟩ := hrel
    by_cases hlt : k < n
    · have zk : (k : Int) < (n : Int) := by omega
      have hix : k < xs.length := by have := HNx.out; omega
      obtain ⟨g, off, rfl⟩ := HG.out (by omega)
      have hat := HS.out.rn.at1 (by omega)
      have r0 := hat.cell k 0 hix (by omega) rfl
      have r1 := hat.cell k 1 hix (by omega) rfl
      have r2 := hat.cell k 2 hix (by omega) rfl
      have r3 := hat.cell k 3 hix (by omega) rfl
      have r4 := hat.cell k 4 hix (by omega) rfl
      have r5 := hat.cell k 5 hix (by omega) rfl
      have r6 := hat.cell k 6 hix (by omega) rfl
      rw [Nat.add_zero] at r0
      simp only [← Nat.add_assoc] at r1 r2 r3 r4 r5 r6
      have HB := hid (fun h0 => HS.out.bad hix h0)
      have hokx := HOK.out xs[k] (List.getElem_mem hix)
      have HP : Hid (∀ w', Touch [] wr w' → nxE c now (xs.take k) xs[k] = 0 → Calls Try.prog 41 #[PT m, kv xs[k].1, ev xs[k].2] w' fun e w'' => ∃ u, e = .returned u ∧ OfS w c now xs (.slice (some ⟨g, off, none⟩) n c1) m (k + 1) w'') := hid (fun w' t h0 => (HS.out.keep0 t).put hix (by have := HLe.out; have := HNx.out; omega) h0 hokx)
      have HNk := hid (And.intro hk hlt)
      clear hat hk hlt
      generalize xs[k] = x at *
      clear hix
      obtain ⟨W1, hW1⟩ : ∃ W1, W1 = wr.alloc (.cells #[.int .u16 x.1.1, .string x.1.2, .int .i64 x.2.1.1, .int .i64 x.2.1.2.1, .int .i64 x.2.1.2.2.1, .int .i64 x.2.1.2.2.2, .int .i64 x.2.2] 56) := ⟨_, rfl⟩
      have HT1 : Hid (Touch [] wr W1) := hid (by rw [hW1]; exact (Touch.refl _ _).alloc _)
      have HX : Hid (∀ w', Touch [] W1 w' → w'.cell? ⟨wr.heap.size, 0, none⟩ = some (.int .u16 x.1.1) ∧ w'.cell? ⟨wr.heap.size, 1, none⟩ = some (.string x.1.2) ∧ w'.cell? ⟨wr.heap.size, 2, none⟩ = some (.int .i64 x.2.1.1) ∧ w'.cell? ⟨wr.heap.size, 3, none⟩ = some (.int .i64 x.2.1.2.1) ∧ w'.cell? ⟨wr.heap.size, 4, none⟩ = some (.int .i64 x.2.1.2.2.1) ∧ w'.cell? ⟨wr.heap.size, 5, none⟩ = some (.int .i64 x.2.1.2.2.2) ∧ w'.cell? ⟨wr.heap.size, 6, none⟩ = some (.int .i64 x.2.2)) := hid (fun w' t => by
        have := t.keep (k := wr.heap.size) (by rw [hW1]; exact heap_alloc_new wr _) (by simp)
        simp [World.cell?, this])
      have HNe := hid ((HS.out.keep0 HT1.out).next x hokx)
      obtain ⟨er, her⟩ : ∃ er, er = nxE c now (xs.take k) x := ⟨_, rfl⟩
      rw [← her] at HNe HB HP
      clear hokx her
      unfold PT nv at HNe
      unfold PT kv ev at HP
      obtain ⟨p0, p1, p2, p3, p4, p5, p6⟩ := HX.out W1 (Touch.refl _ _)
      go_upto_region 12 with fail
      rw [← hW1]
      clear hW1 r0 r1 r2 r3 r4 r5 r6
      go_upto_region 13 with (go_at_call 40; refine HNe.out.mono ?_; rintro z w2 ⟨rfl, t2⟩; have T2 := hid t2; clear t2)
      clear p0 p1 p2 p3 p4 p5 p6
      by_cases he : er ≠ 0
      · have HE := hid (HB.out he)
        clear HP HB
        go_wp2_with fail
        refine bodyPost_ret (v := .tuple #[.pointer none, .int .i64 (k : Int), .int .i64 er]) (by simp [results, Try.results15, go_sem]) rfl ?_
        have e1 : rp = ((k : Int), er) := HRp.out.trans HE.out
        rw [e1]
        exact ⟨_, rfl, Or.inl ⟨he, rfl, (HS.out.t.trans' HT1.out).trans' T2.out⟩⟩
      · obtain rfl : er = 0 := Classical.not_not.1 he
        have HP2 := hid (HP.out w2 (HT1.out.trans' T2.out) rfl)
        obtain ⟨p0, p1, p2, p3, p4, p5, p6⟩ := HX.out w2 T2.out
        clear HP HB he
        go_wp2_with (go_at_call 41; refine HP2.out.mono ?_; rintro z w5 ⟨u5, rfl, l5⟩; have L5 := hid l5; clear l5)
        go_roundw
        case rel => exact ⟨k + 1, by go_num, by have := HNk.out; omega, L5⟩
        case measure => simp [intOf]; have := HNk.out; omega
    · have zk : (n : Int) ≤ (k : Int) := by omega
      have HE := hid (HS.out.fin (by have := HNx.out; omega))
      go_wp2_with fail
      refine bodyPost_ret (v := .tuple #[.pointer (some ⟨m, 0, none⟩), .int .i64 0, .int .i64 0]) (by simp [results, Try.results15, go_sem]) rfl ?_
      obtain ⟨e1, F, q, hF⟩ := HE.out
      rw [HRp.out, e1]
      exact ⟨_, rfl, Or.inr ⟨rfl, rfl, m, F, rfl, q, hF, HS.out.t⟩⟩
theorem of15 (w : World) (c : Cf) (now : Int) (xs : List En) (v : Value) (wc : Wc c) (hl : (xs.length : Int) ≤ 9223372036854775807) (hv : RN 56 w v xs) (hok : ∀ x ∈ xs, Ok x.1) : Calls Try.prog 15 #[cv c, .int .i64 now, v] w fun e w' => ∃ pm, e = .returned (.tuple #[pm, .int .i64 (ofP c now xs).1, .int .i64 (ofP c now xs).2]) ∧ OfA w c now xs pm w' := by
  unfold OfA
  unfold ofP
  cases hc : okC c with
  | false =>
    rw [if_pos rfl]
    obtain ⟨a1, c1, rfl, _⟩ := hv
    refine (of15_cfg w c now a1 _ c1 hc).mono ?_
    rintro e w' ⟨rfl, t⟩
    exact ⟨_, rfl, Or.inl ⟨by decide, rfl, t⟩⟩
  | true =>
    rw [if_neg (by simp)]
    cases ht : isT now with
    | false =>
      rw [if_pos rfl]
      obtain ⟨a1, c1, rfl, _⟩ := hv
      refine (of15_tick w c now a1 _ c1 wc hc ht).mono ?_
      rintro e w' ⟨rfl, t⟩
      exact ⟨_, rfl, Or.inl ⟨by decide, rfl, t⟩⟩
    | true =>
      rw [if_neg (by simp)]
      by_cases hm : c.e < (xs.length : Int)
      · rw [if_pos hm]
        obtain ⟨a1, c1, rfl, _⟩ := hv
        refine (of15_many w c now a1 _ c1 wc hc ht hm hl).mono ?_
        rintro e w' ⟨rfl, t⟩
        exact ⟨_, rfl, Or.inl ⟨by decide, rfl, t⟩⟩
      · rw [if_neg hm]
        exact of15_go w c now xs v wc hc ht hm hv hok
end Go.Proofs.Ytopepalpmkeffaa
/- The contract of the document's Of; no conditions but those that it states. -/
namespace Go.Proofs.Ytopepalpmkeffaa
open Go.RowKit Go.Sort Go.Maps Go.ChangeMaps Go.WideMaps
set_option linter.unusedVariables false
set_option linter.unusedSimpArgs false
theorem nxE_20 {c : Cf} {now : Int} {xs : List En} {x : En} (h : 64 < x.1.2.size) : nxE c now xs x = 20 := by
  unfold nxE pairE
  rw [if_pos h, if_pos (by decide)]
theorem nxE_30 {c : Cf} {now : Int} {xs : List En} {x : En} (h : ¬ 64 < x.1.2.size) (hr : right x.2.1 = false) : nxE c now xs x = 30 := by
  unfold nxE pairE
  rw [if_neg h, hr, if_pos (by decide)]
  rfl
theorem nxE_1 {c : Cf} {now : Int} {xs : List En} {x : En} (h : ¬ 64 < x.1.2.size) (hr : right x.2.1 = true) : nxE c now xs x = if ((fnd xs x.1).isSome || !keepsC c x.2.1 || decide (x.2.2 < 0) || decide (now < x.2.2)) = true then 1 else 0 := by
  unfold nxE pairE
  rw [if_neg h, hr, if_pos rfl, if_neg (by decide)]
theorem fnd_in {xs : List En} {k : K} (h : k ∈ keysL xs) : (fnd xs k).isSome = true := by
  induction xs with
  | nil => cases h
  | cons y ys ih =>
    unfold fnd
    by_cases e : y.1 = k
    · simp [e]
    · have : k ∈ keysL ys := by
        unfold keysL at h ⊢
        rw [List.map_cons, List.mem_cons] at h
        rcases h with h | h
        · exact absurd h.symm e
        · exact h
      simpa [e] using ih this
structure OgS (w : World) (c : Cf) (now : Int) (xs : List En) (v : Value) (k : Nat) (wr : World) : Prop where
  rn : RN 62 wr v xs
  t : Touch [] w wr
  eq : ofL c now [] xs 0 = ofL c now (xs.take k) (xs.drop k) (k : Int)
theorem ofL_bad {c : Cf} {now : Int} {xs : List En} {k : Nat} (h : ofL c now [] xs 0 = ofL c now (xs.take k) (xs.drop k) (k : Int)) (hk : k < xs.length) {e : Int} (h1 : nxE c now (xs.take k) xs[k] = e) (h0 : e ≠ 0) : ofL c now [] xs 0 = ((k : Int), e) := by
  rw [h, List.drop_eq_getElem_cons hk, ofL, if_pos (by rw [h1]; exact h0), h1]
theorem ofL_good {c : Cf} {now : Int} {xs : List En} {k : Nat} (h : ofL c now [] xs 0 = ofL c now (xs.take k) (xs.drop k) (k : Int)) (hk : k < xs.length) (h1 : nxE c now (xs.take k) xs[k] = 0) : ofL c now [] xs 0 = ofL c now (xs.take (k + 1)) (xs.drop (k + 1)) ((k + 1 : Nat) : Int) := by
  rw [h, List.drop_eq_getElem_cons hk, ofL, if_neg (by rw [h1]; simp), List.take_add_one, List.getElem?_eq_getElem hk]
  rfl
set_option maxHeartbeats 1000000 in
theorem rof17_cfg (w : World) (c : Cf) (now : Int) (a1 : Option Addr) (n1 c1 : Nat) (hc : okC c = false) : Calls Try.prog 17 #[cv c, .int .i64 now, .slice a1 n1 c1] w fun e w' => e = .returned (.tuple #[.int .i64 0, .int .i64 100]) ∧ Touch [] w w' := by
  have HRc := hid (fun w => rcheck10 w c)
  rw [hc] at HRc
  unfold cv at HRc
  unfold cv
  go_enter Try.func17, Try.ntmps17
  go_wp2_with (go_at_call 10; refine (HRc.out _).mono ?_; rintro x w3 ⟨rfl, t3⟩; have T3 := hid (((Touch.refl [] w).alloc _).trans' t3); clear t3)
  exact bodyPost_ret (v := .tuple #[.int .i64 0, .int .i64 100]) (by simp [results, Try.results17, go_sem]) rfl ⟨rfl, T3.out⟩
set_option maxHeartbeats 1000000 in
theorem rof17_tick (w : World) (c : Cf) (now : Int) (a1 : Option Addr) (n1 c1 : Nat) (hc : okC c = true) (ht : isT now = false) : Calls Try.prog 17 #[cv c, .int .i64 now, .slice a1 n1 c1] w fun e w' => e = .returned (.tuple #[.int .i64 0, .int .i64 10]) ∧ Touch [] w w' := by
  have HRc := hid (fun w => rcheck10 w c)
  rw [hc] at HRc
  unfold cv at HRc
  unfold cv
  by_cases h0 : now < 0
  · clear ht
    go_enter Try.func17, Try.ntmps17
    go_wp2_with (go_at_call 10; refine (HRc.out _).mono ?_; rintro x w3 ⟨rfl, t3⟩; have T3 := hid (((Touch.refl [] w).alloc _).trans' t3); clear t3)
    exact bodyPost_ret (v := .tuple #[.int .i64 0, .int .i64 10]) (by simp [results, Try.results17, go_sem]) rfl ⟨rfl, T3.out⟩
  · have h1 : (4611686018427387904 : Int) < now := by
      unfold isT at ht
      simp only [Bool.and_eq_false_iff, decide_eq_false_iff_not] at ht
      omega
    have h2 : (0 : Int) ≤ now := by omega
    clear ht h0
    go_enter Try.func17, Try.ntmps17
    go_wp2_with (go_at_call 10; refine (HRc.out _).mono ?_; rintro x w3 ⟨rfl, t3⟩; have T3 := hid (((Touch.refl [] w).alloc _).trans' t3); clear t3)
    exact bodyPost_ret (v := .tuple #[.int .i64 0, .int .i64 10]) (by simp [results, Try.results17, go_sem]) rfl ⟨rfl, T3.out⟩
set_option maxHeartbeats 1000000 in
theorem rof17_many (w : World) (c : Cf) (now : Int) (a1 : Option Addr) (n1 c1 : Nat) (hc : okC c = true) (ht : isT now = true) (hm : c.e < (n1 : Int)) : Calls Try.prog 17 #[cv c, .int .i64 now, .slice a1 n1 c1] w fun e w' => e = .returned (.tuple #[.int .i64 0, .int .i64 3]) ∧ Touch [] w w' := by
  have HRc := hid (fun w => rcheck10 w c)
  rw [hc] at HRc
  have hn0 : 0 ≤ now ∧ now ≤ 4611686018427387904 := by unfold isT at ht; simpa only [Bool.and_eq_true, decide_eq_true_eq] using ht
  obtain ⟨h0, h1⟩ := hn0
  obtain ⟨V, hV⟩ : ∃ V, V = w.alloc (cbx c 31) := ⟨_, rfl⟩
  have TV : Hid (Touch [] w V) := hid (by rw [hV]; exact (Touch.refl _ _).alloc _)
  have HC : Hid (∀ w', Touch [] V w' → C7 w' w.heap.size c) := hid (fun w' t => C7.mk' (t.keep (by rw [hV]; exact heap_alloc_new w (cbx c 31)) (by simp)))
  obtain ⟨c0, c1', c2, c3, c4, c5, c6⟩ := HC.out V (Touch.refl _ _)
  unfold cv at HRc
  unfold cv
  unfold cbx at hV
  clear ht
  go_enter Try.func17, Try.ntmps17
  go_upto_region 1 with fail
  rw [← hV]
  clear hV
  go_upto_region 3 with (go_at_call 10; refine (HRc.out _).mono ?_; rintro x w3 ⟨rfl, t3⟩; have T3 := hid t3; clear t3)
  clear c0 c1' c2 c3 c4 c5 c6
  obtain ⟨c0, c1', c2, c3, c4, c5, c6⟩ := HC.out w3 T3.out
  go_wp2_with fail
  exact bodyPost_ret (v := .tuple #[.int .i64 0, .int .i64 3]) (by simp [results, Try.results17, go_sem]) rfl ⟨rfl, TV.out.trans' T3.out⟩
set_option maxHeartbeats 8000000 in
set_option maxRecDepth 100000 in
theorem rof17_go (w : World) (c : Cf) (now : Int) (xs : List En) (v : Value) (hc : okC c = true) (ht : isT now = true) (hm : ¬ c.e < (xs.length : Int)) (hv : RN 62 w v xs) : Calls Try.prog 17 #[cv c, .int .i64 now, v] w fun e w' => e = .returned (.tuple #[.int .i64 (ofL c now [] xs 0).1, .int .i64 (ofL c now [] xs 0).2]) ∧ Touch [] w w' := by
  obtain ⟨a1, c1, rfl, hcp, hg⟩ := hv
  have HR0 : Hid (RN 62 w (.slice a1 xs.length c1) xs) := hid ⟨a1, c1, rfl, hcp, hg⟩
  have HRc := hid (fun w => rcheck10 w c)
  rw [hc] at HRc
  have hn0 : 0 ≤ now ∧ now ≤ 4611686018427387904 := by unfold isT at ht; simpa only [Bool.and_eq_true, decide_eq_true_eq] using ht
  obtain ⟨h0, h1⟩ := hn0
  obtain ⟨V, hV⟩ : ∃ V, V = w.alloc (cbx c 31) := ⟨_, rfl⟩
  have TV : Hid (Touch [] w V) := hid (by rw [hV]; exact (Touch.refl _ _).alloc _)
  have HC : Hid (∀ w', Touch [] V w' → C7 w' w.heap.size c) := hid (fun w' t => C7.mk' (t.keep (by rw [hV]; exact heap_alloc_new w (cbx c 31)) (by simp)))
  obtain ⟨c0, c1', c2, c3, c4, c5, c6⟩ := HC.out V (Touch.refl _ _)
  have hle := (okC_e hc).2
  obtain ⟨n, hn⟩ : ∃ n, n = xs.length := ⟨_, rfl⟩
  have HNx := hid hn
  have HG : Hid (0 < n → ∃ g off, a1 = some ⟨g, off, none⟩) := hid (fun hp => by obtain ⟨g, off, h1, _⟩ := hg (by omega); exact ⟨g, off, h1⟩)
  rw [← hn] at HR0 hm hcp ⊢
  have zl : (n : Int) ≤ c.e := by omega
  have zn : (n : Int) ≤ 65536 := by omega
  obtain ⟨rp, hrp⟩ : ∃ rp, rp = ofL c now [] xs 0 := ⟨_, rfl⟩
  rw [← hrp]
  have HRp := hid hrp
  unfold cv at HRc
  unfold cv
  unfold cbx at hV
  clear hc ht hm hg hn hle hrp
  go_enter Try.func17, Try.ntmps17
  go_upto_region 1 with fail
  rw [← hV]
  clear hV
  go_upto_region 3 with (go_at_call 10; refine (HRc.out _).mono ?_; rintro x w3 ⟨rfl, t3⟩; have T3 := hid t3; clear t3)
  clear c0 c1' c2 c3 c4 c5 c6
  obtain ⟨c0, c1', c2, c3, c4, c5, c6⟩ := HC.out w3 T3.out
  go_upto_region 7 with fail
  clear c0 c1' c2 c3 c4 c5 c6
  have HI0 : Hid (OgS V c now xs (.slice a1 n c1) 0 w3) := hid ⟨HR0.out.keep (TV.out.trans' T3.out), T3.out, rfl⟩
  clear HRc HR0 T3
  go_wp2_with fail
  go_loopw [29] (fun s29 wr => ∃ k : Nat, s29 = .int .i64 (k : Int) ∧ k ≤ n ∧ Hid (OgS V c now xs (.slice a1 n c1) k wr)) (fun i _ => n - (intOf i).toNat)
  case atStart => exact ⟨0, rfl, Nat.zero_le _, HI0⟩
  case round =>
    clear HI0
    obtain ⟨k, rfl, hk, HS⟩ := hrel
    by_cases hlt : k < n
    · have zk : (k : Int) < (n : Int) := by omega
      have hix : k < xs.length := by have := HNx.out; omega
      obtain ⟨g, off, rfl⟩ := HG.out (by omega)
      have hat := HS.out.rn.at1 (by omega)
      have r0 := hat.cell k 0 hix (by omega) rfl
      have r1 := hat.cell k 1 hix (by omega) rfl
      have r2 := hat.cell k 2 hix (by omega) rfl
      have r3 := hat.cell k 3 hix (by omega) rfl
      have r4 := hat.cell k 4 hix (by omega) rfl
      have r5 := hat.cell k 5 hix (by omega) rfl
      have r6 := hat.cell k 6 hix (by omega) rfl
      rw [Nat.add_zero] at r0
      simp only [← Nat.add_assoc] at r1 r2 r3 r4 r5 r6
      have HB := hid (fun (e : Int) h1 (h0 : e ≠ 0) => ofL_bad HS.out.eq hix (e := e) h1 h0)
      have HE := hid (fun h1 => ofL_good HS.out.eq hix h1)
      have HRt : Hid (∀ w', Touch [] wr w' → RN 62 w' (.slice (some ⟨g, off, none⟩) k c1) (xs.take k)) := hid (fun w' t => (HS.out.rn.keep t).take k (by omega))
      have HTl : Hid ((xs.take k).length ≤ 70000) := hid (by rw [List.length_take]; omega)
      have HNk := hid (And.intro hk hlt)
      have zkc : k ≤ c1 := by omega
      have zkn : (k : Int) ≤ 65536 := by omega
      clear hat hk hlt
      generalize xs[k] = x at *
      generalize xs.take k = ts at HB HRt HTl HE
      clear hix
      obtain ⟨W1, hW1⟩ : ∃ W1, W1 = wr.alloc (.cells #[.int .u16 x.1.1, .string x.1.2, .int .i64 x.2.1.1, .int .i64 x.2.1.2.1, .int .i64 x.2.1.2.2.1, .int .i64 x.2.1.2.2.2, .int .i64 x.2.2] 62) := ⟨_, rfl⟩
      have HT1 : Hid (Touch [] wr W1) := hid (by rw [hW1]; exact (Touch.refl _ _).alloc _)
      have HX : Hid (∀ w', Touch [] W1 w' → w'.cell? ⟨wr.heap.size, 0, none⟩ = some (.int .u16 x.1.1) ∧ w'.cell? ⟨wr.heap.size, 1, none⟩ = some (.string x.1.2) ∧ w'.cell? ⟨wr.heap.size, 2, none⟩ = some (.int .i64 x.2.1.1) ∧ w'.cell? ⟨wr.heap.size, 3, none⟩ = some (.int .i64 x.2.1.2.1) ∧ w'.cell? ⟨wr.heap.size, 4, none⟩ = some (.int .i64 x.2.1.2.2.1) ∧ w'.cell? ⟨wr.heap.size, 5, none⟩ = some (.int .i64 x.2.1.2.2.2) ∧ w'.cell? ⟨wr.heap.size, 6, none⟩ = some (.int .i64 x.2.2)) := hid (fun w' t => by
        have := t.keep (k := wr.heap.size) (by rw [hW1]; exact heap_alloc_new wr _) (by simp)
        simp [World.cell?, this])
      obtain ⟨bq, hbq⟩ : ∃ bq, bq = wr.heap.size := ⟨_, rfl⟩
      obtain ⟨p0, p1, p2, p3, p4, p5, p6⟩ := HX.out W1 (Touch.refl _ _)
      rw [← hbq] at HX p0 p1 p2 p3 p4 p5 p6
      go_upto_region 10 with fail
      rw [← hW1, ← hbq]
      clear hW1 hbq r0 r1 r2 r3 r4 r5 r6
      by_cases hs : 64 < x.1.2.size
      · have HE20 := hid (HB.out 20 (nxE_20 hs) (by decide))
        have zs : (64 : Int) < (x.1.2.size : Int) := by omega
        clear HB HE hs
        go_wp2_with fail
        refine bodyPost_ret (v := .tuple #[.int .i64 (k : Int), .int .i64 20]) (by simp [results, Try.results17, go_sem]) rfl ?_
        have e1 : rp = ((k : Int), 20) := HRp.out.trans HE20.out
        rw [e1]
        exact ⟨rfl, (TV.out.trans' HS.out.t).trans' HT1.out⟩
      · have zs : (x.1.2.size : Int) ≤ 64 := by omega
        have HSz := hid hs
        clear hs
        have HRi := hid (fun w => rright43 w x.2.1)
        unfold ov at HRi
        cases hr : right x.2.1 with
        | false =>
          have HE30 := hid (HB.out 30 (nxE_30 HSz.out hr) (by decide))
          rw [hr] at HRi
          clear HB HE hr
          go_wp2_with (go_at_call 43; refine (HRi.out _).mono ?_; rintro z w4 ⟨rfl, t4⟩; have T4 := hid t4; clear t4)
          refine bodyPost_ret (v := .tuple #[.int .i64 (k : Int), .int .i64 30]) (by simp [results, Try.results17, go_sem]) rfl ?_
          have e1 : rp = ((k : Int), 30) := HRp.out.trans HE30.out
          rw [e1]
          exact ⟨rfl, ((TV.out.trans' HS.out.t).trans' HT1.out).trans' T4.out⟩
        | true =>
          rw [hr] at HRi
          have HN1 : Hid (nxE c now ts x = if ((fnd ts x.1).isSome || !keepsC c x.2.1 || decide (x.2.2 < 0) || decide (now < x.2.2)) = true then 1 else 0) := hid (nxE_1 HSz.out hr)
          have HKq := hid (fun w => rkeeps44 w c x.2.1 hr)
          clear hr
          go_upto_region 14 with (go_at_call 43; refine (HRi.out _).mono ?_; rintro z W3 ⟨rfl, t4⟩; have T4 := hid t4; clear t4)
          clear p0 p1 p2 p3 p4 p5 p6
          have HT3 : Hid (Touch [] w W3) := hid (((TV.out.trans' HS.out.t).trans' HT1.out).trans' T4.out)
          have HTV3 : Hid (Touch [] V W3) := hid ((HS.out.t.trans' HT1.out).trans' T4.out)
          have HS3 : Hid (OgS V c now xs (.slice (some ⟨g, off, none⟩) n c1) k W3) := hid ⟨HS.out.rn.keep (HT1.out.trans' T4.out), HTV3.out, HS.out.eq⟩
          have HX3 := hid (fun w' (t : Touch [] W3 w') => HX.out w' (T4.out.trans' t))
          have HC3 := hid (fun w' (t : Touch [] W3 w') => HC.out w' (HTV3.out.trans' t))
          obtain ⟨ps, hps⟩ : ∃ ps, ps = pos ts x.1 := ⟨_, rfl⟩
          have HFd : Hid (∀ w', Touch [] W3 w' → Calls Try.prog 31 #[.slice (some ⟨g, off, none⟩) k c1, .agg #[.int .u16 x.1.1, .string x.1.2]] w' fun e w'' => e = .returned (.int .i64 ps) ∧ Touch [] W3 w'') := hid (fun w' t => (find31 w' _ ts x.1 HTl.out (HRt.out w' ((HT1.out.trans' T4.out).trans' t))).mono (by
            rintro e w'' ⟨rfl, t2⟩
            rw [hps]
            exact ⟨rfl, t.trans' t2⟩))
          have HKp : Hid (∀ w', Touch [] W3 w' → Calls Try.prog 44 #[.agg #[.int .i64 c.t, .int .i64 c.n, .int .i64 c.s, .int .i64 c.e, .int .i64 c.f, .int .i64 c.b, .int .i64 c.d], .agg #[.int .i64 x.2.1.1, .int .i64 x.2.1.2.1, .int .i64 x.2.1.2.2.1, .int .i64 x.2.1.2.2.2]] w' fun e w'' => e = .returned (.bool (keepsC c x.2.1)) ∧ Touch [] W3 w'') := hid (fun w' t => (HKq.out w').mono (by
            rintro e w'' ⟨rfl, t2⟩
            exact ⟨rfl, t.trans' t2⟩))
          have HPs := hid hps
          clear hps HRi HKq T4 HRt HX HTl HSz
          have sX0 : ∀ w', Touch [] W3 w' → w'.cell? ⟨bq, 0, none⟩ = some (.int .u16 x.1.1) := fun w' t => (HX3.out w' t).1
          have sX1 : ∀ w', Touch [] W3 w' → w'.cell? ⟨bq, 1, none⟩ = some (.string x.1.2) := fun w' t => (HX3.out w' t).2.1
          have sX2 : ∀ w', Touch [] W3 w' → w'.cell? ⟨bq, 2, none⟩ = some (.int .i64 x.2.1.1) := fun w' t => (HX3.out w' t).2.2.1
          have sX3 : ∀ w', Touch [] W3 w' → w'.cell? ⟨bq, 3, none⟩ = some (.int .i64 x.2.1.2.1) := fun w' t => (HX3.out w' t).2.2.2.1
          have sX4 : ∀ w', Touch [] W3 w' → w'.cell? ⟨bq, 4, none⟩ = some (.int .i64 x.2.1.2.2.1) := fun w' t => (HX3.out w' t).2.2.2.2.1
          have sX5 : ∀ w', Touch [] W3 w' → w'.cell? ⟨bq, 5, none⟩ = some (.int .i64 x.2.1.2.2.2) := fun w' t => (HX3.out w' t).2.2.2.2.2.1
          have sX6 : ∀ w', Touch [] W3 w' → w'.cell? ⟨bq, 6, none⟩ = some (.int .i64 x.2.2) := fun w' t => (HX3.out w' t).2.2.2.2.2.2
          have sC0 : ∀ w', Touch [] W3 w' → w'.cell? ⟨w.heap.size, 0, none⟩ = some (.int .i64 c.t) := fun w' t => (HC3.out w' t).c0
          have sC1 : ∀ w', Touch [] W3 w' → w'.cell? ⟨w.heap.size, 1, none⟩ = some (.int .i64 c.n) := fun w' t => (HC3.out w' t).c1
          have sC2 : ∀ w', Touch [] W3 w' → w'.cell? ⟨w.heap.size, 2, none⟩ = some (.int .i64 c.s) := fun w' t => (HC3.out w' t).c2
          have sC3 : ∀ w', Touch [] W3 w' → w'.cell? ⟨w.heap.size, 3, none⟩ = some (.int .i64 c.e) := fun w' t => (HC3.out w' t).c3
          have sC4 : ∀ w', Touch [] W3 w' → w'.cell? ⟨w.heap.size, 4, none⟩ = some (.int .i64 c.f) := fun w' t => (HC3.out w' t).c4
          have sC5 : ∀ w', Touch [] W3 w' → w'.cell? ⟨w.heap.size, 5, none⟩ = some (.int .i64 c.b) := fun w' t => (HC3.out w' t).c5
          have sC6 : ∀ w', Touch [] W3 w' → w'.cell? ⟨w.heap.size, 6, none⟩ = some (.int .i64 c.d) := fun w' t => (HC3.out w' t).c6
          by_cases hm : x.1 ∈ keysL ts
          · obtain ⟨i, hi, hx1, hx2, h3⟩ := pos_yes hm
            have zp : (0 : Int) ≤ ps := by rw [HPs.out, h3]; omega
            have HB1 := hid (HB.out 1 (by rw [HN1.out, if_pos (by rw [fnd_in hm]; rfl)]) (by decide))
            clear HB HE HN1 hx1 hx2 h3 hi hm HKp HPs
            have s0 : Touch [] W3 W3.drew := (Touch.refl _ _).drew
            refine wp_region_H (S := fun w' => Touch [] W3 w') (by kernel_rfl) ?_
            refine wpH_take (i := 0) (v := (.slice (some ⟨g, off, none⟩) n c1)) (some 48) rfl rfl (by kernel_rfl) (by kernel_rfl) (by kernel_rfl) (fun _ _ _ h => h) (Or.inl ⟨by rfl, fun w' hS => (by go_simp)⟩) s0 ?_
            try simp only [Go.Act.put, List.setIfInBounds_toArray, List.set_cons_zero, List.set_cons_succ]
            refine wpH_take (i := 1) (v := (.int .i64 (k : Int))) (some 49) rfl rfl (by kernel_rfl) (by kernel_rfl) (by kernel_rfl) (fun _ _ _ h => h) (Or.inl ⟨by rfl, fun w' hS => (by go_simp)⟩) s0 ?_
            try simp only [Go.Act.put, List.setIfInBounds_toArray, List.set_cons_zero, List.set_cons_succ]
            refine wpH_take (i := 2) (v := (.slice (some ⟨g, off, none⟩) k c1)) (some 50) rfl rfl (by kernel_rfl) (by kernel_rfl) (by kernel_rfl) (fun _ _ _ h => h) (Or.inl ⟨by rfl, fun w' hS => (by go_simp)⟩) s0 ?_
            try simp only [Go.Act.put, List.setIfInBounds_toArray, List.set_cons_zero, List.set_cons_succ]
            refine wpH_take (i := 3) (v := (.pointer (some ⟨bq, 0, none⟩))) (some 51) rfl rfl (by kernel_rfl) (by kernel_rfl) (by kernel_rfl) (fun _ _ _ h => h) (Or.inl ⟨by rfl, fun w' hS => (by go_simp)⟩) s0 ?_
            try simp only [Go.Act.put, List.setIfInBounds_toArray, List.set_cons_zero, List.set_cons_succ]
            refine wpH_take (i := 4) (v := (.agg #[.int .u16 x.1.1, .string x.1.2])) (some 52) rfl rfl (by kernel_rfl) (by kernel_rfl) (by kernel_rfl) (fun _ _ _ h => h) (Or.inl ⟨by rfl, fun w' hS => (by have z0 := sX0 _ hS; have z1 := sX1 _ hS; go_simp)⟩) s0 ?_
            try simp only [Go.Act.put, List.setIfInBounds_toArray, List.set_cons_zero, List.set_cons_succ]
            refine wpH_call (i := 5) (o := { dst := some 53, op := Op.call { callee := Callee.value (Operand.func 31), args := #[Operand.tmp 50, Operand.tmp 52], argTypes := #[34, 57] }, type := 3, pos := _, after := #[{ on := 2, ground := Ground.data }, { on := 4, ground := Ground.data }], guard := none }) (by kernel_rfl) rfl (fun K' hK => ?_)
            rw [if_pos (by rfl)]
            go_simp
            refine (HFd.out _ s0).mono ?_
            rintro e w6 ⟨rfl, s1⟩
            refine hK.out _ _ s1 ?_
            clear hK
            try simp only [Go.Act.put, List.setIfInBounds_toArray, List.set_cons_zero, List.set_cons_succ]
            refine wpH_take (i := 6) (v := (.bool true)) (some 54) rfl rfl (by kernel_rfl) (by kernel_rfl) (by kernel_rfl) (fun _ _ _ h => h) (Or.inl ⟨by rfl, fun w' hS => (by go_simp)⟩) s1 ?_
            try simp only [Go.Act.put, List.setIfInBounds_toArray, List.set_cons_zero, List.set_cons_succ]
            refine wpH_take (i := 7) (v := (.bool true)) (some 55) rfl rfl (by kernel_rfl) (by kernel_rfl) (by kernel_rfl) (fun _ _ _ h => h) (Or.inl ⟨by rfl, fun w' hS => (by go_simp)⟩) s1 ?_
            try simp only [Go.Act.put, List.setIfInBounds_toArray, List.set_cons_zero, List.set_cons_succ]
            refine wpH_take (i := 8) (v := undef) (some 56) rfl rfl (by kernel_rfl) (by kernel_rfl) (by kernel_rfl) (fun _ _ _ h => h) (Or.inr ⟨by rfl, rfl⟩) s1 ?_
            try simp only [Go.Act.put, List.setIfInBounds_toArray, List.set_cons_zero, List.set_cons_succ]
            refine wpH_take (i := 9) (v := undef) (some 57) rfl rfl (by kernel_rfl) (by kernel_rfl) (by kernel_rfl) (fun _ _ _ h => h) (Or.inr ⟨by rfl, rfl⟩) s1 ?_
            try simp only [Go.Act.put, List.setIfInBounds_toArray, List.set_cons_zero, List.set_cons_succ]
            refine wpH_take (i := 10) (v := undef) (some 58) rfl rfl (by kernel_rfl) (by kernel_rfl) (by kernel_rfl) (fun _ _ _ h => h) (Or.inr ⟨by rfl, rfl⟩) s1 ?_
            try simp only [Go.Act.put, List.setIfInBounds_toArray, List.set_cons_zero, List.set_cons_succ]
            refine wpH_take (i := 11) (v := undef) (some 59) rfl rfl (by kernel_rfl) (by kernel_rfl) (by kernel_rfl) (fun _ _ _ h => h) (Or.inr ⟨by rfl, rfl⟩) s1 ?_
            try simp only [Go.Act.put, List.setIfInBounds_toArray, List.set_cons_zero, List.set_cons_succ]
            refine wpH_take (i := 12) (v := undef) (some 60) rfl rfl (by kernel_rfl) (by kernel_rfl) (by kernel_rfl) (fun _ _ _ h => h) (Or.inr ⟨by rfl, rfl⟩) s1 ?_
            try simp only [Go.Act.put, List.setIfInBounds_toArray, List.set_cons_zero, List.set_cons_succ]
            refine wpH_take (i := 13) (v := (.bool true)) (some 61) rfl rfl (by kernel_rfl) (by kernel_rfl) (by kernel_rfl) (fun _ _ _ h => h) (Or.inl ⟨by rfl, fun w' hS => (by go_simp)⟩) s1 ?_
            try simp only [Go.Act.put, List.setIfInBounds_toArray, List.set_cons_zero, List.set_cons_succ]
            refine wpH_take (i := 14) (v := (.bool true)) (some 62) rfl rfl (by kernel_rfl) (by kernel_rfl) (by kernel_rfl) (fun _ _ _ h => h) (Or.inl ⟨by rfl, fun w' hS => (by go_simp)⟩) s1 ?_
            try simp only [Go.Act.put, List.setIfInBounds_toArray, List.set_cons_zero, List.set_cons_succ]
            refine wpH_take (i := 15) (v := undef) (some 63) rfl rfl (by kernel_rfl) (by kernel_rfl) (by kernel_rfl) (fun _ _ _ h => h) (Or.inr ⟨by rfl, rfl⟩) s1 ?_
            try simp only [Go.Act.put, List.setIfInBounds_toArray, List.set_cons_zero, List.set_cons_succ]
            refine wpH_take (i := 16) (v := undef) (some 64) rfl rfl (by kernel_rfl) (by kernel_rfl) (by kernel_rfl) (fun _ _ _ h => h) (Or.inr ⟨by rfl, rfl⟩) s1 ?_
            try simp only [Go.Act.put, List.setIfInBounds_toArray, List.set_cons_zero, List.set_cons_succ]
            refine wpH_take (i := 17) (v := undef) (some 65) rfl rfl (by kernel_rfl) (by kernel_rfl) (by kernel_rfl) (fun _ _ _ h => h) (Or.inr ⟨by rfl, rfl⟩) s1 ?_
            try simp only [Go.Act.put, List.setIfInBounds_toArray, List.set_cons_zero, List.set_cons_succ]
            refine wpH_take (i := 18) (v := (.bool true)) (some 66) rfl rfl (by kernel_rfl) (by kernel_rfl) (by kernel_rfl) (fun _ _ _ h => h) (Or.inl ⟨by rfl, fun w' hS => (by go_simp)⟩) s1 ?_
            try simp only [Go.Act.put, List.setIfInBounds_toArray, List.set_cons_zero, List.set_cons_succ]
            refine wpH_take (i := 19) (v := (.bool true)) (some 67) rfl rfl (by kernel_rfl) (by kernel_rfl) (by kernel_rfl) (fun _ _ _ h => h) (Or.inl ⟨by rfl, fun w' hS => (by go_simp)⟩) s1 ?_
            try simp only [Go.Act.put, List.setIfInBounds_toArray, List.set_cons_zero, List.set_cons_succ]
            refine wpH_take (i := 20) (v := undef) (some 68) rfl rfl (by kernel_rfl) (by kernel_rfl) (by kernel_rfl) (fun _ _ _ h => h) (Or.inr ⟨by rfl, rfl⟩) s1 ?_
            try simp only [Go.Act.put, List.setIfInBounds_toArray, List.set_cons_zero, List.set_cons_succ]
            refine wpH_take (i := 21) (v := undef) (some 69) rfl rfl (by kernel_rfl) (by kernel_rfl) (by kernel_rfl) (fun _ _ _ h => h) (Or.inr ⟨by rfl, rfl⟩) s1 ?_
            try simp only [Go.Act.put, List.setIfInBounds_toArray, List.set_cons_zero, List.set_cons_succ]
            refine wpH_take (i := 22) (v := undef) (some 70) rfl rfl (by kernel_rfl) (by kernel_rfl) (by kernel_rfl) (fun _ _ _ h => h) (Or.inr ⟨by rfl, rfl⟩) s1 ?_
            try simp only [Go.Act.put, List.setIfInBounds_toArray, List.set_cons_zero, List.set_cons_succ]
            refine wpH_take (i := 23) (v := undef) (some 71) rfl rfl (by kernel_rfl) (by kernel_rfl) (by kernel_rfl) (fun _ _ _ h => h) (Or.inr ⟨by rfl, rfl⟩) s1 ?_
            try simp only [Go.Act.put, List.setIfInBounds_toArray, List.set_cons_zero, List.set_cons_succ]
            refine wpH_take (i := 24) (v := (.bool true)) (some 72) rfl rfl (by kernel_rfl) (by kernel_rfl) (by kernel_rfl) (fun _ _ _ h => h) (Or.inl ⟨by rfl, fun w' hS => (by go_simp)⟩) s1 ?_
            try simp only [Go.Act.put, List.setIfInBounds_toArray, List.set_cons_zero, List.set_cons_succ]
            refine wpH_take (i := 25) (v := (.bool true)) (some 47) rfl rfl (by kernel_rfl) (by kernel_rfl) (by kernel_rfl) (fun _ _ _ h => h) (Or.inl ⟨by rfl, fun w' hS => (by go_simp)⟩) s1 ?_
            try simp only [Go.Act.put, List.setIfInBounds_toArray, List.set_cons_zero, List.set_cons_succ]
            refine wpAnyH_done (by kernel_rfl) ?_ _
            have SE := hid s1
            clear sX0 sX1 sX2 sX3 sX4 sX5 sX6 sC0 sC1 sC2 sC3 sC4 sC5 sC6 s0 s1
            go_wp2_with fail
            refine bodyPost_ret (v := .tuple #[.int .i64 (k : Int), .int .i64 1]) (by simp [results, Try.results17, go_sem]) rfl ?_
            have e1 : rp = ((k : Int), 1) := HRp.out.trans (HB1.out)
            rw [e1]
            exact ⟨rfl, HT3.out.trans' SE.out⟩
          · have zp : ps < 0 := by rw [HPs.out, pos_no hm]; decide
            have hfn := fnd_none hm
            rw [hfn] at HN1
            clear hm hfn HPs
            cases hkc : keepsC c x.2.1 with
            | false =>
              rw [hkc] at HKp HN1
              have HB1 := hid (HB.out 1 (by rw [HN1.out]; rfl) (by decide))
              clear HB HE HN1 hkc
              have s0 : Touch [] W3 W3.drew := (Touch.refl _ _).drew
              refine wp_region_H (S := fun w' => Touch [] W3 w') (by kernel_rfl) ?_
              refine wpH_take (i := 0) (v := (.slice (some ⟨g, off, none⟩) n c1)) (some 48) rfl rfl (by kernel_rfl) (by kernel_rfl) (by kernel_rfl) (fun _ _ _ h => h) (Or.inl ⟨by rfl, fun w' hS => (by go_simp)⟩) s0 ?_
              try simp only [Go.Act.put, List.setIfInBounds_toArray, List.set_cons_zero, List.set_cons_succ]
              refine wpH_take (i := 1) (v := (.int .i64 (k : Int))) (some 49) rfl rfl (by kernel_rfl) (by kernel_rfl) (by kernel_rfl) (fun _ _ _ h => h) (Or.inl ⟨by rfl, fun w' hS => (by go_simp)⟩) s0 ?_
              try simp only [Go.Act.put, List.setIfInBounds_toArray, List.set_cons_zero, List.set_cons_succ]
              refine wpH_take (i := 2) (v := (.slice (some ⟨g, off, none⟩) k c1)) (some 50) rfl rfl (by kernel_rfl) (by kernel_rfl) (by kernel_rfl) (fun _ _ _ h => h) (Or.inl ⟨by rfl, fun w' hS => (by go_simp)⟩) s0 ?_
              try simp only [Go.Act.put, List.setIfInBounds_toArray, List.set_cons_zero, List.set_cons_succ]
              refine wpH_take (i := 3) (v := (.pointer (some ⟨bq, 0, none⟩))) (some 51) rfl rfl (by kernel_rfl) (by kernel_rfl) (by kernel_rfl) (fun _ _ _ h => h) (Or.inl ⟨by rfl, fun w' hS => (by go_simp)⟩) s0 ?_
              try simp only [Go.Act.put, List.setIfInBounds_toArray, List.set_cons_zero, List.set_cons_succ]
              refine wpH_take (i := 4) (v := (.agg #[.int .u16 x.1.1, .string x.1.2])) (some 52) rfl rfl (by kernel_rfl) (by kernel_rfl) (by kernel_rfl) (fun _ _ _ h => h) (Or.inl ⟨by rfl, fun w' hS => (by have z0 := sX0 _ hS; have z1 := sX1 _ hS; go_simp)⟩) s0 ?_
              try simp only [Go.Act.put, List.setIfInBounds_toArray, List.set_cons_zero, List.set_cons_succ]
              refine wpH_call (i := 5) (o := { dst := some 53, op := Op.call { callee := Callee.value (Operand.func 31), args := #[Operand.tmp 50, Operand.tmp 52], argTypes := #[34, 57] }, type := 3, pos := _, after := #[{ on := 2, ground := Ground.data }, { on := 4, ground := Ground.data }], guard := none }) (by kernel_rfl) rfl (fun K' hK => ?_)
              rw [if_pos (by rfl)]
              go_simp
              refine (HFd.out _ s0).mono ?_
              rintro e w6 ⟨rfl, s1⟩
              refine hK.out _ _ s1 ?_
              clear hK
              try simp only [Go.Act.put, List.setIfInBounds_toArray, List.set_cons_zero, List.set_cons_succ]
              refine wpH_take (i := 6) (v := (.bool false)) (some 54) rfl rfl (by kernel_rfl) (by kernel_rfl) (by kernel_rfl) (fun _ _ _ h => h) (Or.inl ⟨by rfl, fun w' hS => (by go_simp)⟩) s1 ?_
              try simp only [Go.Act.put, List.setIfInBounds_toArray, List.set_cons_zero, List.set_cons_succ]
              refine wpH_take (i := 7) (v := (.bool false)) (some 55) rfl rfl (by kernel_rfl) (by kernel_rfl) (by kernel_rfl) (fun _ _ _ h => h) (Or.inl ⟨by rfl, fun w' hS => (by go_simp)⟩) s1 ?_
              try simp only [Go.Act.put, List.setIfInBounds_toArray, List.set_cons_zero, List.set_cons_succ]
              refine wpH_take (i := 8) (v := (.agg #[.int .i64 c.t, .int .i64 c.n, .int .i64 c.s, .int .i64 c.e, .int .i64 c.f, .int .i64 c.b, .int .i64 c.d])) (some 56) rfl rfl (by kernel_rfl) (by kernel_rfl) (by kernel_rfl) (fun _ _ _ h => h) (Or.inl ⟨by rfl, fun w' hS => (by have z0 := sC0 _ hS; have z1 := sC1 _ hS; have z2 := sC2 _ hS; have z3 := sC3 _ hS; have z4 := sC4 _ hS; have z5 := sC5 _ hS; have z6 := sC6 _ hS; go_simp)⟩) s1 ?_
              try simp only [Go.Act.put, List.setIfInBounds_toArray, List.set_cons_zero, List.set_cons_succ]
              refine wpH_take (i := 9) (v := (.pointer (some ⟨bq, 2, none⟩))) (some 57) rfl rfl (by kernel_rfl) (by kernel_rfl) (by kernel_rfl) (fun _ _ _ h => h) (Or.inl ⟨by rfl, fun w' hS => (by go_simp)⟩) s1 ?_
              try simp only [Go.Act.put, List.setIfInBounds_toArray, List.set_cons_zero, List.set_cons_succ]
              refine wpH_take (i := 10) (v := (.agg #[.int .i64 x.2.1.1, .int .i64 x.2.1.2.1, .int .i64 x.2.1.2.2.1, .int .i64 x.2.1.2.2.2])) (some 58) rfl rfl (by kernel_rfl) (by kernel_rfl) (by kernel_rfl) (fun _ _ _ h => h) (Or.inl ⟨by rfl, fun w' hS => (by have z0 := sX2 _ hS; have z1 := sX3 _ hS; have z2 := sX4 _ hS; have z3 := sX5 _ hS; go_simp)⟩) s1 ?_
              try simp only [Go.Act.put, List.setIfInBounds_toArray, List.set_cons_zero, List.set_cons_succ]
              refine wpH_call (i := 11) (o := { dst := some 59, op := Op.call { callee := Callee.value (Operand.func 44), args := #[Operand.tmp 56, Operand.tmp 58], argTypes := #[31, 60] }, type := 4, pos := _, after := #[{ on := 8, ground := Ground.data }, { on := 10, ground := Ground.data }, { on := 7, ground := Ground.chain }, { on := 7, ground := Ground.guard }], guard := some (7, false) }) (by kernel_rfl) rfl (fun K' hK => ?_)
              rw [if_pos (by rfl)]
              go_simp
              refine (HKp.out _ s1).mono ?_
              rintro e w7 ⟨rfl, s2⟩
              refine hK.out _ _ s2 ?_
              clear hK
              try simp only [Go.Act.put, List.setIfInBounds_toArray, List.set_cons_zero, List.set_cons_succ]
              refine wpH_take (i := 12) (v := (.bool true)) (some 60) rfl rfl (by kernel_rfl) (by kernel_rfl) (by kernel_rfl) (fun _ _ _ h => h) (Or.inl ⟨by rfl, fun w' hS => (by go_simp)⟩) s2 ?_
              try simp only [Go.Act.put, List.setIfInBounds_toArray, List.set_cons_zero, List.set_cons_succ]
              refine wpH_take (i := 13) (v := (.bool true)) (some 61) rfl rfl (by kernel_rfl) (by kernel_rfl) (by kernel_rfl) (fun _ _ _ h => h) (Or.inl ⟨by rfl, fun w' hS => (by go_simp)⟩) s2 ?_
              try simp only [Go.Act.put, List.setIfInBounds_toArray, List.set_cons_zero, List.set_cons_succ]
              refine wpH_take (i := 14) (v := (.bool true)) (some 62) rfl rfl (by kernel_rfl) (by kernel_rfl) (by kernel_rfl) (fun _ _ _ h => h) (Or.inl ⟨by rfl, fun w' hS => (by go_simp)⟩) s2 ?_
              try simp only [Go.Act.put, List.setIfInBounds_toArray, List.set_cons_zero, List.set_cons_succ]
              refine wpH_take (i := 15) (v := undef) (some 63) rfl rfl (by kernel_rfl) (by kernel_rfl) (by kernel_rfl) (fun _ _ _ h => h) (Or.inr ⟨by rfl, rfl⟩) s2 ?_
              try simp only [Go.Act.put, List.setIfInBounds_toArray, List.set_cons_zero, List.set_cons_succ]
              refine wpH_take (i := 16) (v := undef) (some 64) rfl rfl (by kernel_rfl) (by kernel_rfl) (by kernel_rfl) (fun _ _ _ h => h) (Or.inr ⟨by rfl, rfl⟩) s2 ?_
              try simp only [Go.Act.put, List.setIfInBounds_toArray, List.set_cons_zero, List.set_cons_succ]
              refine wpH_take (i := 17) (v := undef) (some 65) rfl rfl (by kernel_rfl) (by kernel_rfl) (by kernel_rfl) (fun _ _ _ h => h) (Or.inr ⟨by rfl, rfl⟩) s2 ?_
              try simp only [Go.Act.put, List.setIfInBounds_toArray, List.set_cons_zero, List.set_cons_succ]
              refine wpH_take (i := 18) (v := (.bool true)) (some 66) rfl rfl (by kernel_rfl) (by kernel_rfl) (by kernel_rfl) (fun _ _ _ h => h) (Or.inl ⟨by rfl, fun w' hS => (by go_simp)⟩) s2 ?_
              try simp only [Go.Act.put, List.setIfInBounds_toArray, List.set_cons_zero, List.set_cons_succ]
              refine wpH_take (i := 19) (v := (.bool true)) (some 67) rfl rfl (by kernel_rfl) (by kernel_rfl) (by kernel_rfl) (fun _ _ _ h => h) (Or.inl ⟨by rfl, fun w' hS => (by go_simp)⟩) s2 ?_
              try simp only [Go.Act.put, List.setIfInBounds_toArray, List.set_cons_zero, List.set_cons_succ]
              refine wpH_take (i := 20) (v := undef) (some 68) rfl rfl (by kernel_rfl) (by kernel_rfl) (by kernel_rfl) (fun _ _ _ h => h) (Or.inr ⟨by rfl, rfl⟩) s2 ?_
              try simp only [Go.Act.put, List.setIfInBounds_toArray, List.set_cons_zero, List.set_cons_succ]
              refine wpH_take (i := 21) (v := undef) (some 69) rfl rfl (by kernel_rfl) (by kernel_rfl) (by kernel_rfl) (fun _ _ _ h => h) (Or.inr ⟨by rfl, rfl⟩) s2 ?_
              try simp only [Go.Act.put, List.setIfInBounds_toArray, List.set_cons_zero, List.set_cons_succ]
              refine wpH_take (i := 22) (v := undef) (some 70) rfl rfl (by kernel_rfl) (by kernel_rfl) (by kernel_rfl) (fun _ _ _ h => h) (Or.inr ⟨by rfl, rfl⟩) s2 ?_
              try simp only [Go.Act.put, List.setIfInBounds_toArray, List.set_cons_zero, List.set_cons_succ]
              refine wpH_take (i := 23) (v := undef) (some 71) rfl rfl (by kernel_rfl) (by kernel_rfl) (by kernel_rfl) (fun _ _ _ h => h) (Or.inr ⟨by rfl, rfl⟩) s2 ?_
              try simp only [Go.Act.put, List.setIfInBounds_toArray, List.set_cons_zero, List.set_cons_succ]
              refine wpH_take (i := 24) (v := (.bool true)) (some 72) rfl rfl (by kernel_rfl) (by kernel_rfl) (by kernel_rfl) (fun _ _ _ h => h) (Or.inl ⟨by rfl, fun w' hS => (by go_simp)⟩) s2 ?_
              try simp only [Go.Act.put, List.setIfInBounds_toArray, List.set_cons_zero, List.set_cons_succ]
              refine wpH_take (i := 25) (v := (.bool true)) (some 47) rfl rfl (by kernel_rfl) (by kernel_rfl) (by kernel_rfl) (fun _ _ _ h => h) (Or.inl ⟨by rfl, fun w' hS => (by go_simp)⟩) s2 ?_
              try simp only [Go.Act.put, List.setIfInBounds_toArray, List.set_cons_zero, List.set_cons_succ]
              refine wpAnyH_done (by kernel_rfl) ?_ _
              have SE := hid s2
              clear sX0 sX1 sX2 sX3 sX4 sX5 sX6 sC0 sC1 sC2 sC3 sC4 sC5 sC6 s0 s1 s2
              go_wp2_with fail
              refine bodyPost_ret (v := .tuple #[.int .i64 (k : Int), .int .i64 1]) (by simp [results, Try.results17, go_sem]) rfl ?_
              have e1 : rp = ((k : Int), 1) := HRp.out.trans (HB1.out)
              rw [e1]
              exact ⟨rfl, HT3.out.trans' SE.out⟩
            | true =>
              rw [hkc] at HKp HN1
              clear hkc
              by_cases ha : x.2.2 < 0
              · have HB1 := hid (HB.out 1 (by rw [HN1.out, if_pos (by simp [ha])]) (by decide))
                clear HB HE HN1
                have s0 : Touch [] W3 W3.drew := (Touch.refl _ _).drew
                refine wp_region_H (S := fun w' => Touch [] W3 w') (by kernel_rfl) ?_
                refine wpH_take (i := 0) (v := (.slice (some ⟨g, off, none⟩) n c1)) (some 48) rfl rfl (by kernel_rfl) (by kernel_rfl) (by kernel_rfl) (fun _ _ _ h => h) (Or.inl ⟨by rfl, fun w' hS => (by go_simp)⟩) s0 ?_
                try simp only [Go.Act.put, List.setIfInBounds_toArray, List.set_cons_zero, List.set_cons_succ]
                refine wpH_take (i := 1) (v := (.int .i64 (k : Int))) (some 49) rfl rfl (by kernel_rfl) (by kernel_rfl) (by kernel_rfl) (fun _ _ _ h => h) (Or.inl ⟨by rfl, fun w' hS => (by go_simp)⟩) s0 ?_
                try simp only [Go.Act.put, List.setIfInBounds_toArray, List.set_cons_zero, List.set_cons_succ]
                refine wpH_take (i := 2) (v := (.slice (some ⟨g, off, none⟩) k c1)) (some 50) rfl rfl (by kernel_rfl) (by kernel_rfl) (by kernel_rfl) (fun _ _ _ h => h) (Or.inl ⟨by rfl, fun w' hS => (by go_simp)⟩) s0 ?_
                try simp only [Go.Act.put, List.setIfInBounds_toArray, List.set_cons_zero, List.set_cons_succ]
                refine wpH_take (i := 3) (v := (.pointer (some ⟨bq, 0, none⟩))) (some 51) rfl rfl (by kernel_rfl) (by kernel_rfl) (by kernel_rfl) (fun _ _ _ h => h) (Or.inl ⟨by rfl, fun w' hS => (by go_simp)⟩) s0 ?_
                try simp only [Go.Act.put, List.setIfInBounds_toArray, List.set_cons_zero, List.set_cons_succ]
                refine wpH_take (i := 4) (v := (.agg #[.int .u16 x.1.1, .string x.1.2])) (some 52) rfl rfl (by kernel_rfl) (by kernel_rfl) (by kernel_rfl) (fun _ _ _ h => h) (Or.inl ⟨by rfl, fun w' hS => (by have z0 := sX0 _ hS; have z1 := sX1 _ hS; go_simp)⟩) s0 ?_
                try simp only [Go.Act.put, List.setIfInBounds_toArray, List.set_cons_zero, List.set_cons_succ]
                refine wpH_call (i := 5) (o := { dst := some 53, op := Op.call { callee := Callee.value (Operand.func 31), args := #[Operand.tmp 50, Operand.tmp 52], argTypes := #[34, 57] }, type := 3, pos := _, after := #[{ on := 2, ground := Ground.data }, { on := 4, ground := Ground.data }], guard := none }) (by kernel_rfl) rfl (fun K' hK => ?_)
                rw [if_pos (by rfl)]
                go_simp
                refine (HFd.out _ s0).mono ?_
                rintro e w6 ⟨rfl, s1⟩
                refine hK.out _ _ s1 ?_
                clear hK
                try simp only [Go.Act.put, List.setIfInBounds_toArray, List.set_cons_zero, List.set_cons_succ]
                refine wpH_take (i := 6) (v := (.bool false)) (some 54) rfl rfl (by kernel_rfl) (by kernel_rfl) (by kernel_rfl) (fun _ _ _ h => h) (Or.inl ⟨by rfl, fun w' hS => (by go_simp)⟩) s1 ?_
                try simp only [Go.Act.put, List.setIfInBounds_toArray, List.set_cons_zero, List.set_cons_succ]
                refine wpH_take (i := 7) (v := (.bool false)) (some 55) rfl rfl (by kernel_rfl) (by kernel_rfl) (by kernel_rfl) (fun _ _ _ h => h) (Or.inl ⟨by rfl, fun w' hS => (by go_simp)⟩) s1 ?_
                try simp only [Go.Act.put, List.setIfInBounds_toArray, List.set_cons_zero, List.set_cons_succ]
                refine wpH_take (i := 8) (v := (.agg #[.int .i64 c.t, .int .i64 c.n, .int .i64 c.s, .int .i64 c.e, .int .i64 c.f, .int .i64 c.b, .int .i64 c.d])) (some 56) rfl rfl (by kernel_rfl) (by kernel_rfl) (by kernel_rfl) (fun _ _ _ h => h) (Or.inl ⟨by rfl, fun w' hS => (by have z0 := sC0 _ hS; have z1 := sC1 _ hS; have z2 := sC2 _ hS; have z3 := sC3 _ hS; have z4 := sC4 _ hS; have z5 := sC5 _ hS; have z6 := sC6 _ hS; go_simp)⟩) s1 ?_
                try simp only [Go.Act.put, List.setIfInBounds_toArray, List.set_cons_zero, List.set_cons_succ]
                refine wpH_take (i := 9) (v := (.pointer (some ⟨bq, 2, none⟩))) (some 57) rfl rfl (by kernel_rfl) (by kernel_rfl) (by kernel_rfl) (fun _ _ _ h => h) (Or.inl ⟨by rfl, fun w' hS => (by go_simp)⟩) s1 ?_
                try simp only [Go.Act.put, List.setIfInBounds_toArray, List.set_cons_zero, List.set_cons_succ]
                refine wpH_take (i := 10) (v := (.agg #[.int .i64 x.2.1.1, .int .i64 x.2.1.2.1, .int .i64 x.2.1.2.2.1, .int .i64 x.2.1.2.2.2])) (some 58) rfl rfl (by kernel_rfl) (by kernel_rfl) (by kernel_rfl) (fun _ _ _ h => h) (Or.inl ⟨by rfl, fun w' hS => (by have z0 := sX2 _ hS; have z1 := sX3 _ hS; have z2 := sX4 _ hS; have z3 := sX5 _ hS; go_simp)⟩) s1 ?_
                try simp only [Go.Act.put, List.setIfInBounds_toArray, List.set_cons_zero, List.set_cons_succ]
                refine wpH_call (i := 11) (o := { dst := some 59, op := Op.call { callee := Callee.value (Operand.func 44), args := #[Operand.tmp 56, Operand.tmp 58], argTypes := #[31, 60] }, type := 4, pos := _, after := #[{ on := 8, ground := Ground.data }, { on := 10, ground := Ground.data }, { on := 7, ground := Ground.chain }, { on := 7, ground := Ground.guard }], guard := some (7, false) }) (by kernel_rfl) rfl (fun K' hK => ?_)
                rw [if_pos (by rfl)]
                go_simp
                refine (HKp.out _ s1).mono ?_
                rintro e w7 ⟨rfl, s2⟩
                refine hK.out _ _ s2 ?_
                clear hK
                try simp only [Go.Act.put, List.setIfInBounds_toArray, List.set_cons_zero, List.set_cons_succ]
                refine wpH_take (i := 12) (v := (.bool false)) (some 60) rfl rfl (by kernel_rfl) (by kernel_rfl) (by kernel_rfl) (fun _ _ _ h => h) (Or.inl ⟨by rfl, fun w' hS => (by go_simp)⟩) s2 ?_
                try simp only [Go.Act.put, List.setIfInBounds_toArray, List.set_cons_zero, List.set_cons_succ]
                refine wpH_take (i := 13) (v := (.bool false)) (some 61) rfl rfl (by kernel_rfl) (by kernel_rfl) (by kernel_rfl) (fun _ _ _ h => h) (Or.inl ⟨by rfl, fun w' hS => (by go_simp)⟩) s2 ?_
                try simp only [Go.Act.put, List.setIfInBounds_toArray, List.set_cons_zero, List.set_cons_succ]
                refine wpH_take (i := 14) (v := (.bool false)) (some 62) rfl rfl (by kernel_rfl) (by kernel_rfl) (by kernel_rfl) (fun _ _ _ h => h) (Or.inl ⟨by rfl, fun w' hS => (by go_simp)⟩) s2 ?_
                try simp only [Go.Act.put, List.setIfInBounds_toArray, List.set_cons_zero, List.set_cons_succ]
                refine wpH_take (i := 15) (v := (.pointer (some ⟨bq, 6, none⟩))) (some 63) rfl rfl (by kernel_rfl) (by kernel_rfl) (by kernel_rfl) (fun _ _ _ h => h) (Or.inl ⟨by rfl, fun w' hS => (by go_simp)⟩) s2 ?_
                try simp only [Go.Act.put, List.setIfInBounds_toArray, List.set_cons_zero, List.set_cons_succ]
                refine wpH_take (i := 16) (v := (.int .i64 x.2.2)) (some 64) rfl rfl (by kernel_rfl) (by kernel_rfl) (by kernel_rfl) (fun _ _ _ h => h) (Or.inl ⟨by rfl, fun w' hS => (by have z0 := sX6 _ hS; go_simp)⟩) s2 ?_
                try simp only [Go.Act.put, List.setIfInBounds_toArray, List.set_cons_zero, List.set_cons_succ]
                refine wpH_take (i := 17) (v := (.bool true)) (some 65) rfl rfl (by kernel_rfl) (by kernel_rfl) (by kernel_rfl) (fun _ _ _ h => h) (Or.inl ⟨by rfl, fun w' hS => (by go_simp)⟩) s2 ?_
                try simp only [Go.Act.put, List.setIfInBounds_toArray, List.set_cons_zero, List.set_cons_succ]
                refine wpH_take (i := 18) (v := (.bool true)) (some 66) rfl rfl (by kernel_rfl) (by kernel_rfl) (by kernel_rfl) (fun _ _ _ h => h) (Or.inl ⟨by rfl, fun w' hS => (by go_simp)⟩) s2 ?_
                try simp only [Go.Act.put, List.setIfInBounds_toArray, List.set_cons_zero, List.set_cons_succ]
                refine wpH_take (i := 19) (v := (.bool true)) (some 67) rfl rfl (by kernel_rfl) (by kernel_rfl) (by kernel_rfl) (fun _ _ _ h => h) (Or.inl ⟨by rfl, fun w' hS => (by go_simp)⟩) s2 ?_
                try simp only [Go.Act.put, List.setIfInBounds_toArray, List.set_cons_zero, List.set_cons_succ]
                refine wpH_take (i := 20) (v := undef) (some 68) rfl rfl (by kernel_rfl) (by kernel_rfl) (by kernel_rfl) (fun _ _ _ h => h) (Or.inr ⟨by rfl, rfl⟩) s2 ?_
                try simp only [Go.Act.put, List.setIfInBounds_toArray, List.set_cons_zero, List.set_cons_succ]
                refine wpH_take (i := 21) (v := undef) (some 69) rfl rfl (by kernel_rfl) (by kernel_rfl) (by kernel_rfl) (fun _ _ _ h => h) (Or.inr ⟨by rfl, rfl⟩) s2 ?_
                try simp only [Go.Act.put, List.setIfInBounds_toArray, List.set_cons_zero, List.set_cons_succ]
                refine wpH_take (i := 22) (v := undef) (some 70) rfl rfl (by kernel_rfl) (by kernel_rfl) (by kernel_rfl) (fun _ _ _ h => h) (Or.inr ⟨by rfl, rfl⟩) s2 ?_
                try simp only [Go.Act.put, List.setIfInBounds_toArray, List.set_cons_zero, List.set_cons_succ]
                refine wpH_take (i := 23) (v := undef) (some 71) rfl rfl (by kernel_rfl) (by kernel_rfl) (by kernel_rfl) (fun _ _ _ h => h) (Or.inr ⟨by rfl, rfl⟩) s2 ?_
                try simp only [Go.Act.put, List.setIfInBounds_toArray, List.set_cons_zero, List.set_cons_succ]
                refine wpH_take (i := 24) (v := (.bool true)) (some 72) rfl rfl (by kernel_rfl) (by kernel_rfl) (by kernel_rfl) (fun _ _ _ h => h) (Or.inl ⟨by rfl, fun w' hS => (by go_simp)⟩) s2 ?_
                try simp only [Go.Act.put, List.setIfInBounds_toArray, List.set_cons_zero, List.set_cons_succ]
                refine wpH_take (i := 25) (v := (.bool true)) (some 47) rfl rfl (by kernel_rfl) (by kernel_rfl) (by kernel_rfl) (fun _ _ _ h => h) (Or.inl ⟨by rfl, fun w' hS => (by go_simp)⟩) s2 ?_
                try simp only [Go.Act.put, List.setIfInBounds_toArray, List.set_cons_zero, List.set_cons_succ]
                refine wpAnyH_done (by kernel_rfl) ?_ _
                have SE := hid s2
                clear sX0 sX1 sX2 sX3 sX4 sX5 sX6 sC0 sC1 sC2 sC3 sC4 sC5 sC6 s0 s1 s2
                go_wp2_with fail
                refine bodyPost_ret (v := .tuple #[.int .i64 (k : Int), .int .i64 1]) (by simp [results, Try.results17, go_sem]) rfl ?_
                have e1 : rp = ((k : Int), 1) := HRp.out.trans (HB1.out)
                rw [e1]
                exact ⟨rfl, HT3.out.trans' SE.out⟩
              · have za : (0 : Int) ≤ x.2.2 := by omega
                clear ha
                by_cases hb : now < x.2.2
                · have HB1 := hid (HB.out 1 (by rw [HN1.out, if_pos (by simp [hb])]) (by decide))
                  clear HB HE HN1
                  have s0 : Touch [] W3 W3.drew := (Touch.refl _ _).drew
                  refine wp_region_H (S := fun w' => Touch [] W3 w') (by kernel_rfl) ?_
                  refine wpH_take (i := 0) (v := (.slice (some ⟨g, off, none⟩) n c1)) (some 48) rfl rfl (by kernel_rfl) (by kernel_rfl) (by kernel_rfl) (fun _ _ _ h => h) (Or.inl ⟨by rfl, fun w' hS => (by go_simp)⟩) s0 ?_
                  try simp only [Go.Act.put, List.setIfInBounds_toArray, List.set_cons_zero, List.set_cons_succ]
                  refine wpH_take (i := 1) (v := (.int .i64 (k : Int))) (some 49) rfl rfl (by kernel_rfl) (by kernel_rfl) (by kernel_rfl) (fun _ _ _ h => h) (Or.inl ⟨by rfl, fun w' hS => (by go_simp)⟩) s0 ?_
                  try simp only [Go.Act.put, List.setIfInBounds_toArray, List.set_cons_zero, List.set_cons_succ]
                  refine wpH_take (i := 2) (v := (.slice (some ⟨g, off, none⟩) k c1)) (some 50) rfl rfl (by kernel_rfl) (by kernel_rfl) (by kernel_rfl) (fun _ _ _ h => h) (Or.inl ⟨by rfl, fun w' hS => (by go_simp)⟩) s0 ?_
                  try simp only [Go.Act.put, List.setIfInBounds_toArray, List.set_cons_zero, List.set_cons_succ]
                  refine wpH_take (i := 3) (v := (.pointer (some ⟨bq, 0, none⟩))) (some 51) rfl rfl (by kernel_rfl) (by kernel_rfl) (by kernel_rfl) (fun _ _ _ h => h) (Or.inl ⟨by rfl, fun w' hS => (by go_simp)⟩) s0 ?_
                  try simp only [Go.Act.put, List.setIfInBounds_toArray, List.set_cons_zero, List.set_cons_succ]
                  refine wpH_take (i := 4) (v := (.agg #[.int .u16 x.1.1, .string x.1.2])) (some 52) rfl rfl (by kernel_rfl) (by kernel_rfl) (by kernel_rfl) (fun _ _ _ h => h) (Or.inl ⟨by rfl, fun w' hS => (by have z0 := sX0 _ hS; have z1 := sX1 _ hS; go_simp)⟩) s0 ?_
                  try simp only [Go.Act.put, List.setIfInBounds_toArray, List.set_cons_zero, List.set_cons_succ]
                  refine wpH_call (i := 5) (o := { dst := some 53, op := Op.call { callee := Callee.value (Operand.func 31), args := #[Operand.tmp 50, Operand.tmp 52], argTypes := #[34, 57] }, type := 3, pos := _, after := #[{ on := 2, ground := Ground.data }, { on := 4, ground := Ground.data }], guard := none }) (by kernel_rfl) rfl (fun K' hK => ?_)
                  rw [if_pos (by rfl)]
                  go_simp
                  refine (HFd.out _ s0).mono ?_
                  rintro e w6 ⟨rfl, s1⟩
                  refine hK.out _ _ s1 ?_
                  clear hK
                  try simp only [Go.Act.put, List.setIfInBounds_toArray, List.set_cons_zero, List.set_cons_succ]
                  refine wpH_take (i := 6) (v := (.bool false)) (some 54) rfl rfl (by kernel_rfl) (by kernel_rfl) (by kernel_rfl) (fun _ _ _ h => h) (Or.inl ⟨by rfl, fun w' hS => (by go_simp)⟩) s1 ?_
                  try simp only [Go.Act.put, List.setIfInBounds_toArray, List.set_cons_zero, List.set_cons_succ]
                  refine wpH_take (i := 7) (v := (.bool false)) (some 55) rfl rfl (by kernel_rfl) (by kernel_rfl) (by kernel_rfl) (fun _ _ _ h => h) (Or.inl ⟨by rfl, fun w' hS => (by go_simp)⟩) s1 ?_
                  try simp only [Go.Act.put, List.setIfInBounds_toArray, List.set_cons_zero, List.set_cons_succ]
                  refine wpH_take (i := 8) (v := (.agg #[.int .i64 c.t, .int .i64 c.n, .int .i64 c.s, .int .i64 c.e, .int .i64 c.f, .int .i64 c.b, .int .i64 c.d])) (some 56) rfl rfl (by kernel_rfl) (by kernel_rfl) (by kernel_rfl) (fun _ _ _ h => h) (Or.inl ⟨by rfl, fun w' hS => (by have z0 := sC0 _ hS; have z1 := sC1 _ hS; have z2 := sC2 _ hS; have z3 := sC3 _ hS; have z4 := sC4 _ hS; have z5 := sC5 _ hS; have z6 := sC6 _ hS; go_simp)⟩) s1 ?_
                  try simp only [Go.Act.put, List.setIfInBounds_toArray, List.set_cons_zero, List.set_cons_succ]
                  refine wpH_take (i := 9) (v := (.pointer (some ⟨bq, 2, none⟩))) (some 57) rfl rfl (by kernel_rfl) (by kernel_rfl) (by kernel_rfl) (fun _ _ _ h => h) (Or.inl ⟨by rfl, fun w' hS => (by go_simp)⟩) s1 ?_
                  try simp only [Go.Act.put, List.setIfInBounds_toArray, List.set_cons_zero, List.set_cons_succ]
                  refine wpH_take (i := 10) (v := (.agg #[.int .i64 x.2.1.1, .int .i64 x.2.1.2.1, .int .i64 x.2.1.2.2.1, .int .i64 x.2.1.2.2.2])) (some 58) rfl rfl (by kernel_rfl) (by kernel_rfl) (by kernel_rfl) (fun _ _ _ h => h) (Or.inl ⟨by rfl, fun w' hS => (by have z0 := sX2 _ hS; have z1 := sX3 _ hS; have z2 := sX4 _ hS; have z3 := sX5 _ hS; go_simp)⟩) s1 ?_
                  try simp only [Go.Act.put, List.setIfInBounds_toArray, List.set_cons_zero, List.set_cons_succ]
                  refine wpH_call (i := 11) (o := { dst := some 59, op := Op.call { callee := Callee.value (Operand.func 44), args := #[Operand.tmp 56, Operand.tmp 58], argTypes := #[31, 60] }, type := 4, pos := _, after := #[{ on := 8, ground := Ground.data }, { on := 10, ground := Ground.data }, { on := 7, ground := Ground.chain }, { on := 7, ground := Ground.guard }], guard := some (7, false) }) (by kernel_rfl) rfl (fun K' hK => ?_)
                  rw [if_pos (by rfl)]
                  go_simp
                  refine (HKp.out _ s1).mono ?_
                  rintro e w7 ⟨rfl, s2⟩
                  refine hK.out _ _ s2 ?_
                  clear hK
                  try simp only [Go.Act.put, List.setIfInBounds_toArray, List.set_cons_zero, List.set_cons_succ]
                  refine wpH_take (i := 12) (v := (.bool false)) (some 60) rfl rfl (by kernel_rfl) (by kernel_rfl) (by kernel_rfl) (fun _ _ _ h => h) (Or.inl ⟨by rfl, fun w' hS => (by go_simp)⟩) s2 ?_
                  try simp only [Go.Act.put, List.setIfInBounds_toArray, List.set_cons_zero, List.set_cons_succ]
                  refine wpH_take (i := 13) (v := (.bool false)) (some 61) rfl rfl (by kernel_rfl) (by kernel_rfl) (by kernel_rfl) (fun _ _ _ h => h) (Or.inl ⟨by rfl, fun w' hS => (by go_simp)⟩) s2 ?_
                  try simp only [Go.Act.put, List.setIfInBounds_toArray, List.set_cons_zero, List.set_cons_succ]
                  refine wpH_take (i := 14) (v := (.bool false)) (some 62) rfl rfl (by kernel_rfl) (by kernel_rfl) (by kernel_rfl) (fun _ _ _ h => h) (Or.inl ⟨by rfl, fun w' hS => (by go_simp)⟩) s2 ?_
                  try simp only [Go.Act.put, List.setIfInBounds_toArray, List.set_cons_zero, List.set_cons_succ]
                  refine wpH_take (i := 15) (v := (.pointer (some ⟨bq, 6, none⟩))) (some 63) rfl rfl (by kernel_rfl) (by kernel_rfl) (by kernel_rfl) (fun _ _ _ h => h) (Or.inl ⟨by rfl, fun w' hS => (by go_simp)⟩) s2 ?_
                  try simp only [Go.Act.put, List.setIfInBounds_toArray, List.set_cons_zero, List.set_cons_succ]
                  refine wpH_take (i := 16) (v := (.int .i64 x.2.2)) (some 64) rfl rfl (by kernel_rfl) (by kernel_rfl) (by kernel_rfl) (fun _ _ _ h => h) (Or.inl ⟨by rfl, fun w' hS => (by have z0 := sX6 _ hS; go_simp)⟩) s2 ?_
                  try simp only [Go.Act.put, List.setIfInBounds_toArray, List.set_cons_zero, List.set_cons_succ]
                  refine wpH_take (i := 17) (v := (.bool false)) (some 65) rfl rfl (by kernel_rfl) (by kernel_rfl) (by kernel_rfl) (fun _ _ _ h => h) (Or.inl ⟨by rfl, fun w' hS => (by go_simp)⟩) s2 ?_
                  try simp only [Go.Act.put, List.setIfInBounds_toArray, List.set_cons_zero, List.set_cons_succ]
                  refine wpH_take (i := 18) (v := (.bool false)) (some 66) rfl rfl (by kernel_rfl) (by kernel_rfl) (by kernel_rfl) (fun _ _ _ h => h) (Or.inl ⟨by rfl, fun w' hS => (by go_simp)⟩) s2 ?_
                  try simp only [Go.Act.put, List.setIfInBounds_toArray, List.set_cons_zero, List.set_cons_succ]
                  refine wpH_take (i := 19) (v := (.bool false)) (some 67) rfl rfl (by kernel_rfl) (by kernel_rfl) (by kernel_rfl) (fun _ _ _ h => h) (Or.inl ⟨by rfl, fun w' hS => (by go_simp)⟩) s2 ?_
                  try simp only [Go.Act.put, List.setIfInBounds_toArray, List.set_cons_zero, List.set_cons_succ]
                  refine wpH_take (i := 20) (v := (.pointer (some ⟨bq, 6, none⟩))) (some 68) rfl rfl (by kernel_rfl) (by kernel_rfl) (by kernel_rfl) (fun _ _ _ h => h) (Or.inl ⟨by rfl, fun w' hS => (by go_simp)⟩) s2 ?_
                  try simp only [Go.Act.put, List.setIfInBounds_toArray, List.set_cons_zero, List.set_cons_succ]
                  refine wpH_take (i := 21) (v := (.int .i64 x.2.2)) (some 69) rfl rfl (by kernel_rfl) (by kernel_rfl) (by kernel_rfl) (fun _ _ _ h => h) (Or.inl ⟨by rfl, fun w' hS => (by have z0 := sX6 _ hS; go_simp)⟩) s2 ?_
                  try simp only [Go.Act.put, List.setIfInBounds_toArray, List.set_cons_zero, List.set_cons_succ]
                  refine wpH_take (i := 22) (v := (.int .i64 now)) (some 70) rfl rfl (by kernel_rfl) (by kernel_rfl) (by kernel_rfl) (fun _ _ _ h => h) (Or.inl ⟨by rfl, fun w' hS => (by go_simp)⟩) s2 ?_
                  try simp only [Go.Act.put, List.setIfInBounds_toArray, List.set_cons_zero, List.set_cons_succ]
                  refine wpH_take (i := 23) (v := (.bool true)) (some 71) rfl rfl (by kernel_rfl) (by kernel_rfl) (by kernel_rfl) (fun _ _ _ h => h) (Or.inl ⟨by rfl, fun w' hS => (by go_simp)⟩) s2 ?_
                  try simp only [Go.Act.put, List.setIfInBounds_toArray, List.set_cons_zero, List.set_cons_succ]
                  refine wpH_take (i := 24) (v := (.bool true)) (some 72) rfl rfl (by kernel_rfl) (by kernel_rfl) (by kernel_rfl) (fun _ _ _ h => h) (Or.inl ⟨by rfl, fun w' hS => (by go_simp)⟩) s2 ?_
                  try simp only [Go.Act.put, List.setIfInBounds_toArray, List.set_cons_zero, List.set_cons_succ]
                  refine wpH_take (i := 25) (v := (.bool true)) (some 47) rfl rfl (by kernel_rfl) (by kernel_rfl) (by kernel_rfl) (fun _ _ _ h => h) (Or.inl ⟨by rfl, fun w' hS => (by go_simp)⟩) s2 ?_
                  try simp only [Go.Act.put, List.setIfInBounds_toArray, List.set_cons_zero, List.set_cons_succ]
                  refine wpAnyH_done (by kernel_rfl) ?_ _
                  have SE := hid s2
                  clear sX0 sX1 sX2 sX3 sX4 sX5 sX6 sC0 sC1 sC2 sC3 sC4 sC5 sC6 s0 s1 s2
                  go_wp2_with fail
                  refine bodyPost_ret (v := .tuple #[.int .i64 (k : Int), .int .i64 1]) (by simp [results, Try.results17, go_sem]) rfl ?_
                  have e1 : rp = ((k : Int), 1) := HRp.out.trans (HB1.out)
                  rw [e1]
                  exact ⟨rfl, HT3.out.trans' SE.out⟩
                · have zb : x.2.2 ≤ now := by omega
                  have HE0 := hid (HE.out (by rw [HN1.out, if_neg (by simp; omega)]))
                  clear HB HE HN1 hb
                  have s0 : Touch [] W3 W3.drew := (Touch.refl _ _).drew
                  refine wp_region_H (S := fun w' => Touch [] W3 w') (by kernel_rfl) ?_
                  refine wpH_take (i := 0) (v := (.slice (some ⟨g, off, none⟩) n c1)) (some 48) rfl rfl (by kernel_rfl) (by kernel_rfl) (by kernel_rfl) (fun _ _ _ h => h) (Or.inl ⟨by rfl, fun w' hS => (by go_simp)⟩) s0 ?_
                  try simp only [Go.Act.put, List.setIfInBounds_toArray, List.set_cons_zero, List.set_cons_succ]
                  refine wpH_take (i := 1) (v := (.int .i64 (k : Int))) (some 49) rfl rfl (by kernel_rfl) (by kernel_rfl) (by kernel_rfl) (fun _ _ _ h => h) (Or.inl ⟨by rfl, fun w' hS => (by go_simp)⟩) s0 ?_
                  try simp only [Go.Act.put, List.setIfInBounds_toArray, List.set_cons_zero, List.set_cons_succ]
                  refine wpH_take (i := 2) (v := (.slice (some ⟨g, off, none⟩) k c1)) (some 50) rfl rfl (by kernel_rfl) (by kernel_rfl) (by kernel_rfl) (fun _ _ _ h => h) (Or.inl ⟨by rfl, fun w' hS => (by go_simp)⟩) s0 ?_
                  try simp only [Go.Act.put, List.setIfInBounds_toArray, List.set_cons_zero, List.set_cons_succ]
                  refine wpH_take (i := 3) (v := (.pointer (some ⟨bq, 0, none⟩))) (some 51) rfl rfl (by kernel_rfl) (by kernel_rfl) (by kernel_rfl) (fun _ _ _ h => h) (Or.inl ⟨by rfl, fun w' hS => (by go_simp)⟩) s0 ?_
                  try simp only [Go.Act.put, List.setIfInBounds_toArray, List.set_cons_zero, List.set_cons_succ]
                  refine wpH_take (i := 4) (v := (.agg #[.int .u16 x.1.1, .string x.1.2])) (some 52) rfl rfl (by kernel_rfl) (by kernel_rfl) (by kernel_rfl) (fun _ _ _ h => h) (Or.inl ⟨by rfl, fun w' hS => (by have z0 := sX0 _ hS; have z1 := sX1 _ hS; go_simp)⟩) s0 ?_
                  try simp only [Go.Act.put, List.setIfInBounds_toArray, List.set_cons_zero, List.set_cons_succ]
                  refine wpH_call (i := 5) (o := { dst := some 53, op := Op.call { callee := Callee.value (Operand.func 31), args := #[Operand.tmp 50, Operand.tmp 52], argTypes := #[34, 57] }, type := 3, pos := _, after := #[{ on := 2, ground := Ground.data }, { on := 4, ground := Ground.data }], guard := none }) (by kernel_rfl) rfl (fun K' hK => ?_)
                  rw [if_pos (by rfl)]
                  go_simp
                  refine (HFd.out _ s0).mono ?_
                  rintro e w6 ⟨rfl, s1⟩
                  refine hK.out _ _ s1 ?_
                  clear hK
                  try simp only [Go.Act.put, List.setIfInBounds_toArray, List.set_cons_zero, List.set_cons_succ]
                  refine wpH_take (i := 6) (v := (.bool false)) (some 54) rfl rfl (by kernel_rfl) (by kernel_rfl) (by kernel_rfl) (fun _ _ _ h => h) (Or.inl ⟨by rfl, fun w' hS => (by go_simp)⟩) s1 ?_
                  try simp only [Go.Act.put, List.setIfInBounds_toArray, List.set_cons_zero, List.set_cons_succ]
                  refine wpH_take (i := 7) (v := (.bool false)) (some 55) rfl rfl (by kernel_rfl) (by kernel_rfl) (by kernel_rfl) (fun _ _ _ h => h) (Or.inl ⟨by rfl, fun w' hS => (by go_simp)⟩) s1 ?_
                  try simp only [Go.Act.put, List.setIfInBounds_toArray, List.set_cons_zero, List.set_cons_succ]
                  refine wpH_take (i := 8) (v := (.agg #[.int .i64 c.t, .int .i64 c.n, .int .i64 c.s, .int .i64 c.e, .int .i64 c.f, .int .i64 c.b, .int .i64 c.d])) (some 56) rfl rfl (by kernel_rfl) (by kernel_rfl) (by kernel_rfl) (fun _ _ _ h => h) (Or.inl ⟨by rfl, fun w' hS => (by have z0 := sC0 _ hS; have z1 := sC1 _ hS; have z2 := sC2 _ hS; have z3 := sC3 _ hS; have z4 := sC4 _ hS; have z5 := sC5 _ hS; have z6 := sC6 _ hS; go_simp)⟩) s1 ?_
                  try simp only [Go.Act.put, List.setIfInBounds_toArray, List.set_cons_zero, List.set_cons_succ]
                  refine wpH_take (i := 9) (v := (.pointer (some ⟨bq, 2, none⟩))) (some 57) rfl rfl (by kernel_rfl) (by kernel_rfl) (by kernel_rfl) (fun _ _ _ h => h) (Or.inl ⟨by rfl, fun w' hS => (by go_simp)⟩) s1 ?_
                  try simp only [Go.Act.put, List.setIfInBounds_toArray, List.set_cons_zero, List.set_cons_succ]
                  refine wpH_take (i := 10) (v := (.agg #[.int .i64 x.2.1.1, .int .i64 x.2.1.2.1, .int .i64 x.2.1.2.2.1, .int .i64 x.2.1.2.2.2])) (some 58) rfl rfl (by kernel_rfl) (by kernel_rfl) (by kernel_rfl) (fun _ _ _ h => h) (Or.inl ⟨by rfl, fun w' hS => (by have z0 := sX2 _ hS; have z1 := sX3 _ hS; have z2 := sX4 _ hS; have z3 := sX5 _ hS; go_simp)⟩) s1 ?_
                  try simp only [Go.Act.put, List.setIfInBounds_toArray, List.set_cons_zero, List.set_cons_succ]
                  refine wpH_call (i := 11) (o := { dst := some 59, op := Op.call { callee := Callee.value (Operand.func 44), args := #[Operand.tmp 56, Operand.tmp 58], argTypes := #[31, 60] }, type := 4, pos := _, after := #[{ on := 8, ground := Ground.data }, { on := 10, ground := Ground.data }, { on := 7, ground := Ground.chain }, { on := 7, ground := Ground.guard }], guard := some (7, false) }) (by kernel_rfl) rfl (fun K' hK => ?_)
                  rw [if_pos (by rfl)]
                  go_simp
                  refine (HKp.out _ s1).mono ?_
                  rintro e w7 ⟨rfl, s2⟩
                  refine hK.out _ _ s2 ?_
                  clear hK
                  try simp only [Go.Act.put, List.setIfInBounds_toArray, List.set_cons_zero, List.set_cons_succ]
                  refine wpH_take (i := 12) (v := (.bool false)) (some 60) rfl rfl (by kernel_rfl) (by kernel_rfl) (by kernel_rfl) (fun _ _ _ h => h) (Or.inl ⟨by rfl, fun w' hS => (by go_simp)⟩) s2 ?_
                  try simp only [Go.Act.put, List.setIfInBounds_toArray, List.set_cons_zero, List.set_cons_succ]
                  refine wpH_take (i := 13) (v := (.bool false)) (some 61) rfl rfl (by kernel_rfl) (by kernel_rfl) (by kernel_rfl) (fun _ _ _ h => h) (Or.inl ⟨by rfl, fun w' hS => (by go_simp)⟩) s2 ?_
                  try simp only [Go.Act.put, List.setIfInBounds_toArray, List.set_cons_zero, List.set_cons_succ]
                  refine wpH_take (i := 14) (v := (.bool false)) (some 62) rfl rfl (by kernel_rfl) (by kernel_rfl) (by kernel_rfl) (fun _ _ _ h => h) (Or.inl ⟨by rfl, fun w' hS => (by go_simp)⟩) s2 ?_
                  try simp only [Go.Act.put, List.setIfInBounds_toArray, List.set_cons_zero, List.set_cons_succ]
                  refine wpH_take (i := 15) (v := (.pointer (some ⟨bq, 6, none⟩))) (some 63) rfl rfl (by kernel_rfl) (by kernel_rfl) (by kernel_rfl) (fun _ _ _ h => h) (Or.inl ⟨by rfl, fun w' hS => (by go_simp)⟩) s2 ?_
                  try simp only [Go.Act.put, List.setIfInBounds_toArray, List.set_cons_zero, List.set_cons_succ]
                  refine wpH_take (i := 16) (v := (.int .i64 x.2.2)) (some 64) rfl rfl (by kernel_rfl) (by kernel_rfl) (by kernel_rfl) (fun _ _ _ h => h) (Or.inl ⟨by rfl, fun w' hS => (by have z0 := sX6 _ hS; go_simp)⟩) s2 ?_
                  try simp only [Go.Act.put, List.setIfInBounds_toArray, List.set_cons_zero, List.set_cons_succ]
                  refine wpH_take (i := 17) (v := (.bool false)) (some 65) rfl rfl (by kernel_rfl) (by kernel_rfl) (by kernel_rfl) (fun _ _ _ h => h) (Or.inl ⟨by rfl, fun w' hS => (by go_simp)⟩) s2 ?_
                  try simp only [Go.Act.put, List.setIfInBounds_toArray, List.set_cons_zero, List.set_cons_succ]
                  refine wpH_take (i := 18) (v := (.bool false)) (some 66) rfl rfl (by kernel_rfl) (by kernel_rfl) (by kernel_rfl) (fun _ _ _ h => h) (Or.inl ⟨by rfl, fun w' hS => (by go_simp)⟩) s2 ?_
                  try simp only [Go.Act.put, List.setIfInBounds_toArray, List.set_cons_zero, List.set_cons_succ]
                  refine wpH_take (i := 19) (v := (.bool false)) (some 67) rfl rfl (by kernel_rfl) (by kernel_rfl) (by kernel_rfl) (fun _ _ _ h => h) (Or.inl ⟨by rfl, fun w' hS => (by go_simp)⟩) s2 ?_
                  try simp only [Go.Act.put, List.setIfInBounds_toArray, List.set_cons_zero, List.set_cons_succ]
                  refine wpH_take (i := 20) (v := (.pointer (some ⟨bq, 6, none⟩))) (some 68) rfl rfl (by kernel_rfl) (by kernel_rfl) (by kernel_rfl) (fun _ _ _ h => h) (Or.inl ⟨by rfl, fun w' hS => (by go_simp)⟩) s2 ?_
                  try simp only [Go.Act.put, List.setIfInBounds_toArray, List.set_cons_zero, List.set_cons_succ]
                  refine wpH_take (i := 21) (v := (.int .i64 x.2.2)) (some 69) rfl rfl (by kernel_rfl) (by kernel_rfl) (by kernel_rfl) (fun _ _ _ h => h) (Or.inl ⟨by rfl, fun w' hS => (by have z0 := sX6 _ hS; go_simp)⟩) s2 ?_
                  try simp only [Go.Act.put, List.setIfInBounds_toArray, List.set_cons_zero, List.set_cons_succ]
                  refine wpH_take (i := 22) (v := (.int .i64 now)) (some 70) rfl rfl (by kernel_rfl) (by kernel_rfl) (by kernel_rfl) (fun _ _ _ h => h) (Or.inl ⟨by rfl, fun w' hS => (by go_simp)⟩) s2 ?_
                  try simp only [Go.Act.put, List.setIfInBounds_toArray, List.set_cons_zero, List.set_cons_succ]
                  refine wpH_take (i := 23) (v := (.bool false)) (some 71) rfl rfl (by kernel_rfl) (by kernel_rfl) (by kernel_rfl) (fun _ _ _ h => h) (Or.inl ⟨by rfl, fun w' hS => (by go_simp)⟩) s2 ?_
                  try simp only [Go.Act.put, List.setIfInBounds_toArray, List.set_cons_zero, List.set_cons_succ]
                  refine wpH_take (i := 24) (v := (.bool false)) (some 72) rfl rfl (by kernel_rfl) (by kernel_rfl) (by kernel_rfl) (fun _ _ _ h => h) (Or.inl ⟨by rfl, fun w' hS => (by go_simp)⟩) s2 ?_
                  try simp only [Go.Act.put, List.setIfInBounds_toArray, List.set_cons_zero, List.set_cons_succ]
                  refine wpH_take (i := 25) (v := (.bool false)) (some 47) rfl rfl (by kernel_rfl) (by kernel_rfl) (by kernel_rfl) (fun _ _ _ h => h) (Or.inl ⟨by rfl, fun w' hS => (by go_simp)⟩) s2 ?_
                  try simp only [Go.Act.put, List.setIfInBounds_toArray, List.set_cons_zero, List.set_cons_succ]
                  refine wpAnyH_done (by kernel_rfl) ?_ _
                  have SE := hid s2
                  clear sX0 sX1 sX2 sX3 sX4 sX5 sX6 sC0 sC1 sC2 sC3 sC4 sC5 sC6 s0 s1 s2
                  go_wp2_with fail
                  go_roundw
                  case rel => exact ⟨k + 1, by go_num, by have := HNk.out; omega, hid ⟨HS3.out.rn.keep SE.out, HTV3.out.trans' SE.out, HE0.out⟩⟩
                  case measure => simp [intOf]; have := HNk.out; omega
    · have zk : (n : Int) ≤ (k : Int) := by omega
      have HE : Hid (ofL c now [] xs 0 = (0, 0)) := hid (by
        have hk2 : xs.length ≤ k := by have := HNx.out; omega
        rw [HS.out.eq, List.drop_of_length_le hk2]
        rfl)
      go_wp2_with fail
      refine bodyPost_ret (v := .tuple #[.int .i64 0, .int .i64 0]) (by simp [results, Try.results17, go_sem]) rfl ?_
      rw [HRp.out, HE.out]
      exact ⟨rfl, TV.out.trans' HS.out.t⟩
theorem rof17 (w : World) (c : Cf) (now : Int) (xs : List En) (v : Value) (hv : RN 62 w v xs) : Calls Try.prog 17 #[cv c, .int .i64 now, v] w fun e w' => e = .returned (.tuple #[.int .i64 (ofP c now xs).1, .int .i64 (ofP c now xs).2]) ∧ Touch [] w w' := by
  unfold ofP
  cases hc : okC c with
  | false =>
    rw [if_pos rfl]
    obtain ⟨a1, c1, rfl, _⟩ := hv
    exact rof17_cfg w c now a1 _ c1 hc
  | true =>
    rw [if_neg (by simp)]
    cases ht : isT now with
    | false =>
      rw [if_pos rfl]
      obtain ⟨a1, c1, rfl, _⟩ := hv
      exact rof17_tick w c now a1 _ c1 hc ht
    | true =>
      rw [if_neg (by simp)]
      by_cases hm : c.e < (xs.length : Int)
      · rw [if_pos hm]
        obtain ⟨a1, c1, rfl, _⟩ := hv
        exact rof17_many w c now a1 _ c1 hc ht hm
      · rw [if_neg hm]
        exact rof17_go w c now xs v hc ht hm hv
end Go.Proofs.Ytopepalpmkeffaa
/- A whole (a time and a slice of entries) as an argument, opened; no conditions. -/
namespace Go.Proofs.Ytopepalpmkeffaa
open Go.ChangeShapes Go.WideShapes Go.ChangeAt Go.RowKit
set_option linter.unusedVariables false
structure RowE (w : World) (b off : Nat) (xs : List En) : Prop where
  lt : b < w.heap.size
  c0 : ∀ i (h : i < xs.length), w.cell? ⟨b, off + i * 7, none⟩ = some (.int .u16 xs[i].1.1)
  c1 : ∀ i (h : i < xs.length), w.cell? ⟨b, off + i * 7 + 1, none⟩ = some (.string xs[i].1.2)
  c2 : ∀ i (h : i < xs.length), w.cell? ⟨b, off + i * 7 + 2, none⟩ = some (.int .i64 xs[i].2.1.1)
  c3 : ∀ i (h : i < xs.length), w.cell? ⟨b, off + i * 7 + 3, none⟩ = some (.int .i64 xs[i].2.1.2.1)
  c4 : ∀ i (h : i < xs.length), w.cell? ⟨b, off + i * 7 + 4, none⟩ = some (.int .i64 xs[i].2.1.2.2.1)
  c5 : ∀ i (h : i < xs.length), w.cell? ⟨b, off + i * 7 + 5, none⟩ = some (.int .i64 xs[i].2.1.2.2.2)
  c6 : ∀ i (h : i < xs.length), w.cell? ⟨b, off + i * 7 + 6, none⟩ = some (.int .i64 xs[i].2.2)
def SlE (w : World) (v : Value) (xs : List En) : Prop := (xs = [] ∧ (v = .slice none 0 0 ∨ ∃ a c, v = .slice (some a) 0 c)) ∨ ∃ b off cap, v = .slice (some ⟨b, off, none⟩) xs.length cap ∧ RowE w b off xs
theorem RowE.keep {w w' : World} {b off : Nat} {xs : List En} (h : RowE w b off xs) (ht : Touch [] w w') : RowE w' b off xs := by
  have e : w'.heap[b]? = w.heap[b]? := ht.block b h.lt (by simp)
  refine ⟨Nat.lt_of_lt_of_le h.lt ht.size, fun i hi => ?_, fun i hi => ?_, fun i hi => ?_, fun i hi => ?_, fun i hi => ?_, fun i hi => ?_, fun i hi => ?_⟩
  · rw [World.cell?_of_block (by exact e)]; exact h.c0 i hi
  · rw [World.cell?_of_block (by exact e)]; exact h.c1 i hi
  · rw [World.cell?_of_block (by exact e)]; exact h.c2 i hi
  · rw [World.cell?_of_block (by exact e)]; exact h.c3 i hi
  · rw [World.cell?_of_block (by exact e)]; exact h.c4 i hi
  · rw [World.cell?_of_block (by exact e)]; exact h.c5 i hi
  · rw [World.cell?_of_block (by exact e)]; exact h.c6 i hi
theorem cells56 : Try.prog.cellsOf 56 = 7 := by kernel_rfl
theorem cells52 : Try.prog.cellsOf 52 = 2 := by kernel_rfl
theorem cells50 : Try.prog.cellsOf 50 = 1 := by kernel_rfl
set_option maxRecDepth 100000 in
theorem fields56 {H : Type} {enc : TypeId × Value → H} {W : World} {base fuel : Nat} {spare : Nat → Bool} {held : Bool} {cs : List Value} {x : DataW H × List MemPlace} (h : DataW.trod enc Try.prog W base spare held fuel 56 cs = some x) (hl : cs.length = 7) :
    ∃ q : En, cs = [.int .u16 q.1.1, .string q.1.2, .int .i64 q.2.1.1, .int .i64 q.2.1.2.1, .int .i64 q.2.1.2.2.1, .int .i64 q.2.1.2.2.2, .int .i64 q.2.2] ∧ Ok q.1 := by
  obtain ⟨ys, k, hk, hxy, _, hyl, hfe⟩ := DataW.trod_struct Try.underlying56 h
  match cs, hl with
  | [v0, v1, v2, v3, v4, v5, v6], _ =>
    have hy : ys.length = 3 := hyl
    match ys, hy with
    | [y0, y1, y2], _ =>
      have g0 := hfe 0 _ rfl
      have g1 := hfe 1 _ rfl
      have g2 := hfe 2 _ rfl
      simp [cells2, cells39, cells43] at g0 g1 g2
      obtain ⟨zs, k2, hk2, _, _, hzl, hfz⟩ := DataW.trod_struct Try.underlying39 g0
      have hz : zs.length = 2 := hzl
      match zs, hz with
      | [z0, z1], _ =>
        have f0 := hfz 0 _ rfl
        have f1 := hfz 1 _ rfl
        simp [cells37, cells9] at f0 f1
        obtain ⟨D, d1, _, wd⟩ := DataW.trod_int Try.underlying37 f0
        obtain ⟨s, e1, _, ws⟩ := DataW.trod_string Try.underlying9 f1
        obtain ⟨o, o1, wo⟩ := fields43 g1 rfl
        obtain ⟨A, a1, _, wa⟩ := DataW.trod_int Try.underlying2 g2
        simp only [List.cons.injEq, and_true] at a1 d1 e1 o1
        obtain ⟨o1, o2, o3, o4⟩ := o1
        subst a1 d1 e1 o1 o2 o3 o4
        exact ⟨((D, s), o, A), rfl, ⟨wd, ws⟩⟩
set_option maxRecDepth 100000 in
theorem open_ents {H : Type} {enc : TypeId × Value → H} {W : World} {fuel : Nat} {v : Value} {y : DataW H × List MemPlace} (hf : DataW.trod enc Try.prog W 0 (fun _ => true) true fuel 50 [v] = some y) :
    ∃ xs : List En, SlE W v xs ∧ (∀ x ∈ xs, Ok x.1) ∧ (xs = [] ∨ ∃ elems spare, y.1 = .slice elems spare ∧ elems.length = xs.length) := by
  rcases Deep.open_slice Try.underlying50 hf with ⟨hcs, _⟩ | ⟨x, len, c, m, n, D, Pl, hcs, _, hl, hm, hmm, hx, hall⟩
  · simp only [List.cons.injEq, and_true] at hcs
    subst hcs
    exact ⟨[], Or.inl ⟨rfl, Or.inl rfl⟩, fun x hx => by simp at hx, Or.inl rfl⟩
  · simp only [List.cons.injEq, and_true] at hcs
    subst hcs
    simp only [if_true] at hmm
    subst hmm
    subst hx
    rw [cells56] at hall
    have each : ∀ i, i < m → ∃ q : En, W.cell? (x.add (i * 7)) = some (.int .u16 q.1.1) ∧ W.cell? (x.add (i * 7 + 1)) = some (.string q.1.2) ∧ W.cell? (x.add (i * 7 + 2)) = some (.int .i64 q.2.1.1) ∧ W.cell? (x.add (i * 7 + 3)) = some (.int .i64 q.2.1.2.1) ∧ W.cell? (x.add (i * 7 + 4)) = some (.int .i64 q.2.1.2.2.1) ∧ W.cell? (x.add (i * 7 + 5)) = some (.int .i64 q.2.1.2.2.2) ∧ W.cell? (x.add (i * 7 + 6)) = some (.int .i64 q.2.2) ∧ Ok q.1 := fun i hi => by
      obtain ⟨cs', h1, h2⟩ := hall i hi
      obtain ⟨_, hlen, hcell⟩ := World.cells?_some h1
      obtain ⟨q, rfl, wq⟩ := fields56 h2 hlen
      have e0 := hcell 0 (by omega)
      have e1 := hcell 1 (by omega)
      have e2 := hcell 2 (by omega)
      have e3 := hcell 3 (by omega)
      have e4 := hcell 4 (by omega)
      have e5 := hcell 5 (by omega)
      have e6 := hcell 6 (by omega)
      rw [Deep.add_add] at e0 e1 e2 e3 e4 e5 e6
      exact ⟨q, by simpa using e0, by simpa using e1, by simpa using e2, by simpa using e3, by simpa using e4, by simpa using e5, by simpa using e6, wq⟩
    haveI : Inhabited En := ⟨((0, ⟨#[]⟩), oz, 0)⟩
    obtain ⟨q, hq⟩ := Deep.choose_lt each
    rcases Nat.eq_zero_or_pos len with e | e
    · subst e
      exact ⟨[], Or.inl ⟨rfl, Or.inr ⟨_, _, rfl⟩⟩, fun x hx => by simp at hx, Or.inl rfl⟩
    · have hsp : x.spot = none := by
        have h0 := (hq 0 (by omega)).1
        rw [show x.add (0 * 7) = x by simp [Addr.add]] at h0
        unfold World.cell? at h0
        split at h0
        · split at h0
          · cases h0
          · rename_i hs
            cases hh : x.spot with
            | none => rfl
            | some z => rw [hh] at hs; exact absurd rfl hs
        · cases h0
      obtain ⟨b, off, r⟩ := x
      obtain rfl : r = none := hsp
      have hlen : ((List.range len).map q).length = len := by simp
      refine ⟨(List.range len).map q, Or.inr ⟨b, off, m, by rw [hlen], ?_, fun i hi => ?_, fun i hi => ?_, fun i hi => ?_, fun i hi => ?_, fun i hi => ?_, fun i hi => ?_, fun i hi => ?_⟩, fun y hy => ?_, Or.inr ⟨_, _, rfl, by simp⟩⟩
      · rcases Nat.lt_or_ge b W.heap.size with h | h
        · exact h
        · have h0 := (hq 0 (by omega)).1
          simp [World.cell?, add_plainA, Array.getElem?_eq_none h] at h0
      · rw [hlen] at hi
        have h0 := (hq i (by omega)).1
        simpa [add_plainA, Nat.add_assoc] using h0
      · rw [hlen] at hi
        have h0 := (hq i (by omega)).2.1
        simpa [add_plainA, Nat.add_assoc] using h0
      · rw [hlen] at hi
        have h0 := (hq i (by omega)).2.2.1
        simpa [add_plainA, Nat.add_assoc] using h0
      · rw [hlen] at hi
        have h0 := (hq i (by omega)).2.2.2.1
        simpa [add_plainA, Nat.add_assoc] using h0
      · rw [hlen] at hi
        have h0 := (hq i (by omega)).2.2.2.2.1
        simpa [add_plainA, Nat.add_assoc] using h0
      · rw [hlen] at hi
        have h0 := (hq i (by omega)).2.2.2.2.2.1
        simpa [add_plainA, Nat.add_assoc] using h0
      · rw [hlen] at hi
        have h0 := (hq i (by omega)).2.2.2.2.2.2.1
        simpa [add_plainA, Nat.add_assoc] using h0
      · simp only [List.mem_map, List.mem_range] at hy
        obtain ⟨i, hi, rfl⟩ := hy
        exact (hq i (by omega)).2.2.2.2.2.2.2
set_option maxRecDepth 100000 in
theorem open_whole {H : Type} {enc : TypeId × Value → H} {W : World} {b0 : Nat} {v : Value} {d : DataW H} {p : List MemPlace} (hv : Value.okWide Try.prog W .any b0 52 v) (h : DataW.Trod enc Try.prog W 0 (fun _ => true) true 52 v d p) :
    ∃ (now : Int) (u : Value) (xs : List En), v = .agg #[.int .i64 now, u] ∧ W64 now ∧ SlE W u xs ∧ (∀ x ∈ xs, Ok x.1) ∧ (xs = [] ∨ ∃ l elems spare, d = .agg [l, .slice elems spare] ∧ elems.length = xs.length) := by
  obtain ⟨cs, rfl, hs⟩ := okWide_struct Try.underlying52 hv
  obtain ⟨fuel, hf⟩ := h
  rw [cells52] at hs
  obtain ⟨ys, k, hk, hxy, _, hyl, hfe⟩ := DataW.trod_struct Try.underlying52 hf
  obtain ⟨cl⟩ := cs
  have hs' : cl.length = 2 := by simpa using hs
  match cl, hs' with
  | [v0, v1], _ =>
    have hy : ys.length = 2 := hyl
    match ys, hy with
    | [y0, y1], _ =>
      have g0 := hfe 0 _ rfl
      have g1 := hfe 1 _ rfl
      simp [Value.cells, cells2, cells50] at g0 g1
      obtain ⟨A, a1, _, wa⟩ := DataW.trod_int Try.underlying2 g0
      simp only [List.cons.injEq, and_true] at a1
      subst a1
      obtain ⟨xs, s1, s2, s3⟩ := open_ents g1
      refine ⟨A, v1, xs, rfl, wa, s1, s2, ?_⟩
      rcases s3 with s3 | ⟨es, sp, e1, e2⟩
      · exact Or.inl s3
      · refine Or.inr ⟨y0.1, es, sp, ?_, e2⟩
        have := congrArg Prod.fst hxy
        simp [e1] at this
        exact this
theorem sized_whole {H : Type} {ts : List TypeId} {ds : List (DataW H)} (h : (DataW.weightsEach Try.prog ts ds).all (· ≤ reachBytes) = true) {j : Nat} {l : DataW H} {es sp : List (DataW H)} (ht : ts[j]? = some 52) (hd : ds[j]? = some (.agg [l, .slice es sp])) : es.length ≤ 2199023255488 := by
  have hb : Try.prog.bytesOf 56 = 64 := by kernel_rfl
  have h1 := List.all_eq_true.1 h _ (DataW.weights_mem_each ht hd ((es.length + sp.length) * Try.prog.bytesOf 56) (by simp [DataW.weights, DataW.weightsEach, Try.underlying52, Try.underlying50]))
  rw [hb] at h1
  have h3 : reachBytes = 140737488351232 := rfl
  simp only [decide_eq_true_eq] at h1
  omega
end Go.Proofs.Ytopepalpmkeffaa
