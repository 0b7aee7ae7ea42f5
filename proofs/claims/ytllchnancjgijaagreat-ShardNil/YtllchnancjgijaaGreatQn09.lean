/- The contracts of the library's Keys, Sorted and Sort, laid at this program: facts of the program alone; no conditions. -/
import Derived.Test.YtllchnancjgijaaGreatProg
import Derived.Shelf.SlIterI.Nil
import Derived.Shelf.SortM.Plain
import Derived.Shelf.SortM.SortNone
import Derived.Test.YtllchnancjgijaaGreatQn08
import Derived.Test.YtllchnancjgijaaGreatRows
import Derived.WalkKit
import Derived.ProofKit
import Derived.OpenShut
import Derived.ShutString
import Derived.Deep.Slices
namespace Go.Proofs
open Go.Shelf
def Tryz.sortA_ren : Go.Shelf.Ren := ⟨fun | 5 => 56 | 8 => 104 | 7 => 103 | 19 => 156 | 20 => 157 | 10 => 147 | 11 => 148 | 12 => 149 | 13 => 150 | 14 => 151 | 15 => 152 | 16 => 153 | 17 => 154 | 18 => 155 | 30 => 184 | 31 => 185 | 32 => 186 | 33 => 187 | 34 => 188 | 35 => 189 | 40 => 202 | n => n, fun | 23 => 43 | 25 => 3 | 3 => 3 | 32 => 191 | 22 => 43 | 0 => 0 | 44 => 262 | 46 => 233 | 4 => 4 | 36 => 255 | 35 => 254 | 41 => 118 | 5 => 5 | 9 => 9 | 53 => 290 | 57 => 294 | 63 => 305 | 64 => 114 | n => n, fun | n => n⟩
theorem Tryz.sortA : Go.Proofs.SlLaysM.n5 Tryz.prog Tryz.sortA_ren := {
  mixed := by kernel_rfl
  f5 := ⟨Tryz.f56.name, by decide, Tryz.func56.trans (congrArg some (by kernel_rfl))⟩
  f7 := ⟨Tryz.f103.name, by decide, Tryz.func103.trans (congrArg some (by kernel_rfl))⟩
  f8 := Tryz.func104.trans (congrArg some (by kernel_rfl))
  f10 := ⟨Tryz.f147.name, by decide, Tryz.func147.trans (congrArg some (by kernel_rfl))⟩
  f11 := ⟨Tryz.f148.name, by decide, Tryz.func148.trans (congrArg some (by kernel_rfl))⟩
  f12 := ⟨Tryz.f149.name, by decide, Tryz.func149.trans (congrArg some (by kernel_rfl))⟩
  f13 := ⟨Tryz.f150.name, by decide, Tryz.func150.trans (congrArg some (by kernel_rfl))⟩
  f14 := ⟨Tryz.f151.name, by decide, Tryz.func151.trans (congrArg some (by kernel_rfl))⟩
  f15 := ⟨Tryz.f152.name, by decide, Tryz.func152.trans (congrArg some (by kernel_rfl))⟩
  f16 := ⟨Tryz.f153.name, by decide, Tryz.func153.trans (congrArg some (by kernel_rfl))⟩
  f17 := ⟨Tryz.f154.name, by decide, Tryz.func154.trans (congrArg some (by kernel_rfl))⟩
  f18 := ⟨Tryz.f155.name, by decide, Tryz.func155.trans (congrArg some (by kernel_rfl))⟩
  f19 := Tryz.func156.trans (congrArg some (by kernel_rfl))
  f20 := Tryz.func157.trans (congrArg some (by kernel_rfl))
  f30 := ⟨Tryz.f184.name, by decide, Tryz.func184.trans (congrArg some (by kernel_rfl))⟩
  f31 := Tryz.func185.trans (congrArg some (by kernel_rfl))
  f32 := Tryz.func186.trans (congrArg some (by kernel_rfl))
  f33 := ⟨Tryz.f187.name, by decide, Tryz.func187.trans (congrArg some (by kernel_rfl))⟩
  f34 := ⟨Tryz.f188.name, by decide, Tryz.func188.trans (congrArg some (by kernel_rfl))⟩
  f35 := ⟨Tryz.f189.name, by decide, Tryz.func189.trans (congrArg some (by kernel_rfl))⟩
  f40 := ⟨Tryz.f202.name, by decide, Tryz.func202.trans (congrArg some (by kernel_rfl))⟩
  t0 := Tryz.underlying0
  a0 := Tryz.isAgg0
  z0 := Tryz.sizeOf0
  v0 := Tryz.zeroValue0
  t3 := Tryz.underlying3
  a3 := Tryz.isAgg3
  z3 := Tryz.sizeOf3
  v3 := Tryz.zeroValue3
  t4 := Tryz.underlying4
  a4 := Tryz.isAgg4
  z4 := Tryz.sizeOf4
  v4 := Tryz.zeroValue4
  t5 := Tryz.underlying5
  a5 := Tryz.isAgg5
  z5 := Tryz.sizeOf5
  v5 := Tryz.zeroValue5
  t9 := Tryz.underlying9
  a9 := Tryz.isAgg9
  z9 := Tryz.sizeOf9
  v9 := Tryz.zeroValue9
  t22 := Tryz.underlying43
  a22 := Tryz.isAgg43
  z22 := Tryz.sizeOf43
  v22 := Tryz.zeroValue43
  t23 := Tryz.underlying43
  a23 := Tryz.isAgg43
  z23 := Tryz.sizeOf43
  v23 := Tryz.zeroValue43
  t25 := Tryz.underlying3
  a25 := Tryz.isAgg3
  z25 := Tryz.sizeOf3
  v25 := Tryz.zeroValue3
  t32 := Tryz.underlying191
  a32 := Tryz.isAgg191
  z32 := Tryz.sizeOf191
  v32 := Tryz.zeroValue191
  t35 := Tryz.underlying254
  a35 := Tryz.isAgg254
  z35 := Tryz.sizeOf254
  v35 := Tryz.zeroValue254
  t36 := Tryz.underlying255
  a36 := Tryz.isAgg255
  z36 := Tryz.sizeOf255
  v36 := Tryz.zeroValue255
  t41 := Tryz.underlying118
  a41 := Tryz.isAgg118
  z41 := Tryz.sizeOf118
  v41 := Tryz.zeroValue118
  t44 := Tryz.underlying262
  a44 := Tryz.isAgg262
  z44 := Tryz.sizeOf262
  v44 := Tryz.zeroValue262
  t46 := Tryz.underlying233
  a46 := Tryz.isAgg233
  z46 := Tryz.sizeOf233
  v46 := Tryz.zeroValue233
  t53 := Tryz.underlying290
  a53 := Tryz.isAgg290
  z53 := Tryz.sizeOf290
  v53 := Tryz.zeroValue290
  t57 := Tryz.underlying294
  a57 := Tryz.isAgg294
  z57 := Tryz.sizeOf294
  v57 := Tryz.zeroValue294
  t63 := Tryz.underlying305
  a63 := Tryz.isAgg305
  z63 := Tryz.sizeOf305
  v63 := Tryz.zeroValue305
  t64 := Tryz.underlying114
  a64 := Tryz.isAgg114
  z64 := Tryz.sizeOf114
  v64 := Tryz.zeroValue114 }
end Go.Proofs
/- Every call on nil shards; no conditions. -/
namespace Go.Proofs.YtllchnancjgijaaGreat
open Go.RowKit Go.Maps Go.ChangeMaps
set_option maxRecDepth 100000
set_option linter.unusedVariables false
set_option linter.unusedSimpArgs false
variable (w : World)
theorem smay_nil (n : Int) (k : K) (x t : Int) : Calls Tryz.prog 41 #[.pointer none, .int .i64 n, kv k, .int .i64 x, .int .i64 t] w fun e w' => e = .returned (.int .i64 100) ∧ Touch [] w w' := by
  have H := hid (fun w => scheck_nil w n)
  unfold kv
  go_enter Tryz.func41, Tryz.ntmps41
  go_wp2_with (go_at_call 47; refine (H.out _).mono ?_; rintro e w1 ⟨rfl, rfl⟩)
  go_ret
  exact ⟨rfl, (Touch.refl _ _).alloc _⟩
theorem sjoin_nil (n : Int) (k : K) (x t : Int) : Calls Tryz.prog 10 #[.pointer none, .int .i64 n, kv k, .int .i64 x, .int .i64 t] w fun e w' => e = .returned (.tuple #[.agg #[.int .i64 0, .int .i64 0, .bool false, .int .i64 0, .int .i64 0, .int .i64 0, .int .i64 0, .slice none 0 0], .int .i64 100]) ∧ Touch [] w w' := by
  have H := hid (fun w => smay_nil w n k x t)
  obtain ⟨V, hV⟩ : ∃ V, V = (w.alloc (.cells #[.int .u16 k.1, .string k.2] 35)).alloc (.cells #[.int .i64 0, .int .i64 0, .bool false, .int .i64 0, .int .i64 0, .int .i64 0, .int .i64 0, .slice none 0 0] 45) := ⟨_, rfl⟩
  have TV : Hid (Touch [] w V) := hid (by rw [hV]; exact ((Touch.refl _ _).alloc _).alloc _)
  have HB : Hid (∀ w1, Touch [] V w1 → w1.heap[w.heap.size + 1]? = some (.cells #[.int .i64 0, .int .i64 0, .bool false, .int .i64 0, .int .i64 0, .int .i64 0, .int .i64 0, .slice none 0 0] 45 (0, 0))) := hid (fun w1 T => T.keep (by
    rw [hV]
    have := heap_alloc_new (w.alloc (.cells #[.int .u16 k.1, .string k.2] 35)) (.cells #[.int .i64 0, .int .i64 0, .bool false, .int .i64 0, .int .i64 0, .int .i64 0, .int .i64 0, .slice none 0 0] 45)
    rwa [World.size_alloc] at this) (by simp))
  have hk : V.heap[w.heap.size]? = some (.cells #[.int .u16 k.1, .string k.2] 35 (0, 0)) := by rw [hV]; exact ((Touch.refl [] _).alloc _).keep (heap_alloc_new w _) (by simp)
  have b0 := cell_at (j := 0) hk rfl
  have b1 := cell_at (j := 1) hk rfl
  clear hk
  unfold kv at *
  go_enter Tryz.func10, Tryz.ntmps10
  go_upto_region 1 with fail
  rw [← hV]
  clear hV
  go_wp2_with (go_at_call 41; refine (H.out _).mono ?_; rintro e w1 ⟨rfl, t1⟩; have T1 := hid t1; have hbj := HB.out _ t1; clear t1 b0 b1; have d0 := cell_at (j := 0) hbj rfl; have d1 := cell_at (j := 1) hbj rfl; have d2 := cell_at (j := 2) hbj rfl; have d3 := cell_at (j := 3) hbj rfl; have d4 := cell_at (j := 4) hbj rfl; have d5 := cell_at (j := 5) hbj rfl; have d6 := cell_at (j := 6) hbj rfl; have d7 := cell_at (j := 7) hbj rfl; have df := froz_at hbj; clear hbj)
  exact bodyPost_ret (v := .tuple #[.agg #[.int .i64 0, .int .i64 0, .bool false, .int .i64 0, .int .i64 0, .int .i64 0, .int .i64 0, .slice none 0 0], .int .i64 100]) (by simp [results, Tryz.results10, go_sem, d0, d1, d2, d3, d4, d5, d6, d7]) rfl ⟨rfl, (TV.out.trans' T1.out).trans (G := [w.heap.size + 1]) ((((((((((Touch.refl _ _).setCell (Or.inl (by simp)) _).setCell (Or.inl (by simp)) _).setCell (Or.inl (by simp)) _).setCell (Or.inl (by simp)) _).setCell (Or.inl (by simp)) _).setCell (Or.inl (by simp)) _).setCell (Or.inl (by simp)) _).setCell (Or.inl (by simp)) _)) (fun i hi => Or.inr (by simp at hi; omega))⟩
theorem sleave_nil (n x : Int) : Calls Tryz.prog 13 #[.pointer none, .int .i64 n, .int .i64 x] w fun e w' => e = .returned (.tuple #[.agg #[.int .i64 0, .int .i64 0, .bool false, .bool false, .int .i64 0, .int .i64 0, .int .i64 0, .int .i64 0], .int .i64 100]) ∧ Touch [] w w' := by
  have H := hid (fun w => scheck_nil w n)
  go_enter Tryz.func13, Tryz.ntmps13
  go_wp2_with (go_at_call 47; refine (H.out _).mono ?_; rintro e w1 ⟨rfl, e1⟩; rw [e1]; clear e1 w1)
  exact bodyPost_ret (v := .tuple #[.agg #[.int .i64 0, .int .i64 0, .bool false, .bool false, .int .i64 0, .int .i64 0, .int .i64 0, .int .i64 0], .int .i64 100]) (by simp [results, Tryz.results13, go_sem]) rfl ⟨rfl, by repeat (first | exact (Touch.refl _ _).alloc _ | refine Touch.setCell ?_ (Or.inr (by simp)) _)⟩
theorem scancel_nil (n x : Int) : Calls Tryz.prog 14 #[.pointer none, .int .i64 n, .int .i64 x] w fun e w' => e = .returned (.tuple #[.slice none 0 0, .int .i64 100]) ∧ Touch [] w w' := by
  have H := hid (fun w => scheck_nil w n)
  go_enter Tryz.func14, Tryz.ntmps14
  go_wp2_with (go_at_call 47; refine (H.out _).mono ?_; rintro e w1 ⟨rfl, e1⟩; rw [e1]; clear e1 w1)
  go_ret2
  exact ⟨rfl, Touch.refl _ _⟩
theorem sforget_nil (n : Int) (k : K) : Calls Tryz.prog 15 #[.pointer none, .int .i64 n, kv k] w fun e w' => e = .returned (.tuple #[.agg #[.bool false, .int .i64 0, .int .i64 0, .bool false], .int .i64 100]) ∧ Touch [] w w' := by
  have H := hid (fun w => scheck_nil w n)
  unfold kv
  go_enter Tryz.func15, Tryz.ntmps15
  go_wp2_with (go_at_call 47; refine (H.out _).mono ?_; rintro e w1 ⟨rfl, e1⟩; rw [e1]; clear e1 w1)
  exact bodyPost_ret (v := .tuple #[.agg #[.bool false, .int .i64 0, .int .i64 0, .bool false], .int .i64 100]) (by simp [results, Tryz.results15, go_sem]) rfl ⟨rfl, by repeat (first | exact ((Touch.refl _ _).alloc _).alloc _ | refine Touch.setCell ?_ (Or.inr (by simp)) _)⟩
theorem send_nil' (n r : Int) (o : O) : Calls Tryz.prog 12 #[.pointer none, .int .i64 n, .int .i64 r, Me.ov o] w fun e w' => e = .returned (.tuple #[.agg dnz, .int .i64 100]) ∧ Touch [] w w' := by
  have H := hid (fun w => scheck_nil w n)
  unfold Me.ov dnz
  go_enter Tryz.func12, Tryz.ntmps12
  go_wp2_with (go_at_call 47; refine (H.out _).mono ?_; rintro e w1 ⟨rfl, e1⟩; rw [e1]; clear e1 w1)
  exact bodyPost_ret (v := .tuple #[.agg #[.int .i64 0, .int .u16 0, .string ⟨#[]⟩, .int .i64 0, .bool false, .slice none 0 0, .bool false, .bool false, .slice none 0 0, .slice none 0 0], .int .i64 100]) (by simp [results, Tryz.results12, go_sem]) rfl ⟨rfl, by repeat (first | exact ((Touch.refl _ _).alloc _).alloc _ | refine Touch.setCell ?_ (Or.inr (by simp)) _)⟩
theorem ssend_nil (n : Int) : Calls Tryz.prog 16 #[.pointer none, .int .i64 n] w fun e w' => e = .returned (.tuple #[.slice none 0 0, .int .i64 100]) ∧ Touch [] w w' := by
  have H := hid (fun w => scheck_nil w n)
  go_enter Tryz.func16, Tryz.ntmps16
  go_wp2_with (go_at_call 47; refine (H.out _).mono ?_; rintro e w1 ⟨rfl, e1⟩; rw [e1]; clear e1 w1)
  go_ret2
  exact ⟨rfl, Touch.refl _ _⟩
theorem sresize_nil (n k : Int) : Calls Tryz.prog 17 #[.pointer none, .int .i64 n, .int .i64 k] w fun e w' => e = .returned (.tuple #[.pointer none, .slice none 0 0, .int .i64 100]) ∧ Touch [] w w' := by
  have H := hid (fun w => scheck_nil w n)
  have HR : Hid (Calls Tryz.prog 50 #[.pointer none, .int .i64 n, .int .i64 k] w fun e w' => e = .returned (.int .i64 100) ∧ w' = w) := hid (by
    go_enter Tryz.func50, Tryz.ntmps50
    go_wp2_with (go_at_call 47; refine (H.out _).mono ?_; rintro e w1 ⟨rfl, e1⟩; rw [e1]; clear e1 w1)
    go_ret
    exact ⟨rfl, rfl⟩)
  go_enter Tryz.func17, Tryz.ntmps17
  go_wp2_with (go_at_call 50; refine HR.out.mono ?_; rintro e w1 ⟨rfl, e1⟩; rw [e1]; clear e1 w1)
  exact bodyPost_ret (v := .tuple #[.pointer none, .slice none 0 0, .int .i64 100]) (by simp [results, Tryz.results17, go_sem]) rfl ⟨rfl, Touch.refl _ _⟩
theorem snext_nil : Calls Tryz.prog 18 #[.pointer none] w fun e w' => e = .returned (.tuple #[.int .i64 0, .bool false]) ∧ Touch [] w w' := by
  have H := hid (fun w => sown_nil w)
  go_enter Tryz.func18, Tryz.ntmps18
  go_wp2_with (go_at_call 54; refine (H.out _).mono ?_; rintro e w1 ⟨rfl, e1⟩; rw [e1]; clear e1 w1)
  go_loopw [4, 5, 13] (fun s4 s5 s13 wr => s4 = .int .i64 0 ∧ s5 = .bool false ∧ s13 = .int .i64 0 ∧ wr = w) (fun _ _ _ _ => 0)
  case atStart => exact ⟨rfl, rfl, rfl, rfl⟩
  case round =>
    obtain ⟨rfl, rfl, rfl, e1⟩ := hrel
    rw [e1]
    clear e1
    go_wp2
    go_ret2
    exact ⟨rfl, Touch.refl _ _⟩
theorem sentries_nil : Calls Tryz.prog 21 #[.pointer none] w fun e w' => e = .returned (.int .i64 0) ∧ Touch [] w w' := by
  have H := hid (fun w => sown_nil w)
  go_enter Tryz.func21, Tryz.ntmps21
  go_wp2_with (go_at_call 54; refine (H.out _).mono ?_; rintro e w1 ⟨rfl, e1⟩; rw [e1]; clear e1 w1)
  go_loopw [3, 9] (fun s3 s9 wr => s3 = .int .i64 0 ∧ s9 = .int .i64 0 ∧ wr = w) (fun _ _ _ => 0)
  case atStart => exact ⟨rfl, rfl, rfl⟩
  case round =>
    obtain ⟨rfl, rfl, e1⟩ := hrel
    rw [e1]
    clear e1
    go_wp2
    go_ret
    exact ⟨rfl, Touch.refl _ _⟩
theorem sprog_nil : Calls Tryz.prog 20 #[.pointer none] w fun e w' => e = .returned (.slice none 0 0) ∧ Touch [] w w' := by
  have H := hid (fun w => sown_nil w)
  have HS := hid (fun w => AnyM.slices_Sort_int_none Tryz.sortA none 0 w)
  go_enter Tryz.func20, Tryz.ntmps20
  go_wp2_with (go_at_call 54; refine (H.out _).mono ?_; rintro e w1 ⟨rfl, e1⟩; rw [e1]; clear e1 w1)
  go_loopw [3, 9] (fun s3 s9 wr => s3 = .slice none 0 0 ∧ s9 = .int .i64 0 ∧ wr = w) (fun _ _ _ => 0)
  case atStart => exact ⟨rfl, rfl, rfl⟩
  case round =>
    obtain ⟨rfl, rfl, e1⟩ := hrel
    rw [e1]
    clear e1
    go_wp2_with (go_at_call 56; refine (HS.out _).mono ?_; rintro e w1 ⟨rfl, e1⟩; rw [e1]; clear e1 w1)
    go_ret
    exact ⟨rfl, Touch.refl _ _⟩
theorem splace_nil (k : K) : Calls Tryz.prog 9 #[.pointer none, kv k] w fun e w' => e = .returned (.int .i64 0) ∧ Touch [] w w' := by
  obtain ⟨V, hV⟩ : ∃ V, V = w.alloc (.cells #[.int .u16 k.1, .string k.2] 35) := ⟨_, rfl⟩
  have tv : Touch [] w V := by rw [hV]; exact (Touch.refl _ _).alloc _
  have hb : V.heap[w.heap.size]? = some (.cells #[.int .u16 k.1, .string k.2] 35 (0, 0)) := by rw [hV]; exact heap_alloc_new w _
  have HL := hid (slen_nil V.drew)
  have HP := hid (among_nil k V.drew)
  have TV := hid tv.drew
  have s0 : Bk1 w V.drew k := ⟨hb⟩
  have K0 : ∀ w', Bk1 w w' k → w'.cell? ⟨w.heap.size, 0, none⟩ = some (.int .u16 k.1) := fun w' h => cell_at h.k rfl
  have K1 : ∀ w', Bk1 w w' k → w'.cell? ⟨w.heap.size, 1, none⟩ = some (.string k.2) := fun w' h => cell_at h.k rfl
  have HB : Hid (∀ w2, Touch [] V.drew w2 → Bk1 w w2 k) := hid (fun w2 T => ⟨T.keep hb (by simp)⟩)
  clear tv hb
  unfold kv at *
  go_enter Tryz.func9, Tryz.ntmps9
  go_upto_region 1 with fail
  rw [← hV]
  clear hV
  refine wp_region_H (S := fun w' => Bk1 w w' k) (by kernel_rfl) ?_
  refine wpH_take (i := 0) (v := (.pointer none)) (some 5) rfl rfl (by kernel_rfl) (by kernel_rfl) (by kernel_rfl) (fun _ _ _ h => h) (Or.inl ⟨by rfl, fun w' hS => (by go_simp)⟩) s0 ?_
  try simp only [Go.Act.put, List.setIfInBounds_toArray, List.set_cons_zero, List.set_cons_succ]
  refine wpH_take (i := 2) (v := (.agg #[.int .u16 k.1, .string k.2])) (some 7) rfl rfl (by kernel_rfl) (by kernel_rfl) (by kernel_rfl) (fun _ _ _ h => h) (Or.inl ⟨by rfl, fun w' hS => (by have z0 := K0 _ hS; have z1 := K1 _ hS; go_simp)⟩) s0 ?_
  try simp only [Go.Act.put, List.setIfInBounds_toArray, List.set_cons_zero, List.set_cons_succ]
  refine wpH_call (i := 1) (o := { dst := some 6, op := Op.call { callee := Callee.value (Operand.func 23), args := #[Operand.tmp 5], argTypes := #[25] }, type := 3, pos := _, after := #[{ on := 0, ground := Ground.data }], guard := none }) (by kernel_rfl) rfl (fun K' hK => ?_)
  rw [if_pos (by rfl)]
  go_simp
  refine HL.out.mono ?_
  rintro e w2 ⟨rfl, e2⟩
  rw [e2]
  clear e2 w2
  refine hK.out _ _ s0 ?_
  clear hK
  try simp only [Go.Act.put, List.setIfInBounds_toArray, List.set_cons_zero, List.set_cons_succ]
  refine wpH_call (i := 3) (o := { dst := some 8, op := Op.call { callee := Callee.value (Operand.func 40), args := #[Operand.tmp 6, Operand.tmp 7], argTypes := #[3, 35] }, type := 3, pos := _, after := #[{ on := 1, ground := Ground.data }, { on := 2, ground := Ground.data }, { on := 1, ground := Ground.chain }], guard := none }) (by kernel_rfl) rfl (fun K' hK => ?_)
  rw [if_pos (by rfl)]
  go_simp
  refine HP.out.mono ?_
  rintro e w3 ⟨rfl, t3⟩
  have T3 := hid t3
  have s3 := HB.out _ t3
  clear t3
  refine hK.out _ _ s3 ?_
  clear hK
  try simp only [Go.Act.put, List.setIfInBounds_toArray, List.set_cons_zero, List.set_cons_succ]
  refine wpH_take (i := 4) (v := (.int .i64 0)) (some 4) rfl rfl (by kernel_rfl) (by kernel_rfl) (by kernel_rfl) (fun _ _ _ h => h) (Or.inl ⟨by rfl, fun w' hS => (by go_simp)⟩) s3 ?_
  try simp only [Go.Act.put, List.setIfInBounds_toArray, List.set_cons_zero, List.set_cons_succ]
  refine wpAnyH_done (by kernel_rfl) ?_ _
  go_wp2
  go_ret
  exact ⟨rfl, TV.out.trans' T3.out⟩
theorem sgroup_nil (n : Int) : Calls Tryz.prog 19 #[.pointer none, .int .i64 n] w fun e w' => e = .returned (.pointer none) ∧ Touch [] w w' := by
  have H := hid (fun w => slen_nil w)
  by_cases h0 : n < 0
  · go_enter Tryz.func19, Tryz.ntmps19
    go_wp2
    go_ret
    exact ⟨rfl, Touch.refl _ _⟩
  · have h1 : (0 : Int) ≤ n := by omega
    go_enter Tryz.func19, Tryz.ntmps19
    go_wp2_with (go_at_call 23; refine (H.out _).mono ?_; rintro e w1 ⟨rfl, e1⟩; rw [e1]; clear e1 w1)
    go_ret
    exact ⟨rfl, Touch.refl _ _⟩
theorem mkInts (w : World) (n : Nat) (h : n ≤ 64) : (Instr.makeSlice 43 (.int .i64 (n : Int)) (.int .i64 (n : Int))).run Tryz.prog w = .ok (.slice (some ⟨w.heap.size, 0, none⟩) n n) (w.alloc (.cells (madeCells #[.int .i64 0] n) 3)) := by
  obtain ⟨i3, hi3, hz0, hz1, hz2⟩ := info_parts infoI
  have := run_make (P := Tryz.prog) w 43 3 i3 _ Tryz.underlying43 hi3 hz0 .i64 .i64 (n : Int) (n : Int) (by omega) (by omega) (by rw [hz2]; omega) (by omega)
  rw [hz1] at this
  simpa [Value.cells] using this
theorem sloads_nil : Calls Tryz.prog 22 #[.pointer none] w fun e w' => e = .returned (.slice (some ⟨w.heap.size, 0, none⟩) 0 0) ∧ Touch [] w w' := by
  have H := hid (fun w => slen_nil w)
  have HO := hid (fun w => sown_nil w)
  have hmk : ∀ w : World, (Instr.makeSlice 43 (.int .i64 0) (.int .i64 0)).run Tryz.prog w = .ok (.slice (some ⟨w.heap.size, 0, none⟩) 0 0) (w.alloc (.cells (madeCells #[.int .i64 0] 0) 3)) := fun w => mkInts w 0 (by omega)
  have T := hid ((Touch.refl [] w).alloc (.cells (madeCells #[.int .i64 0] 0) 3))
  go_enter Tryz.func22, Tryz.ntmps22
  go_wp2_with (first
    | (go_at_call 23; refine (H.out _).mono ?_; rintro e w1 ⟨rfl, e1⟩; rw [e1]; clear e1 w1)
    | (go_at_call 54; refine (HO.out _).mono ?_; rintro e w1 ⟨rfl, e1⟩; rw [e1]; clear e1 w1))
  go_loopw [12] (fun s12 wr => s12 = .int .i64 0 ∧ wr = w.alloc (.cells (madeCells #[.int .i64 0] 0) 3)) (fun _ _ => 0)
  case atStart => exact ⟨rfl, rfl⟩
  case round =>
    obtain ⟨rfl, e1⟩ := hrel
    rw [e1]
    clear e1
    go_wp2
    go_ret
    exact ⟨rfl, T.out⟩
theorem sclone_nil : Calls Tryz.prog 24 #[.pointer none] w fun e w' => e = .returned (.pointer none) ∧ Touch [] w w' := by
  go_enter Tryz.func24, Tryz.ntmps24
  go_wp2
  go_ret
  exact ⟨rfl, Touch.refl _ _⟩
end Go.Proofs.YtllchnancjgijaaGreat
/- What a group's steps leave of its time, its tokens and its configuration; the shards' steps in plain words, and that what holds of shards is kept by them; no program. -/
namespace Go.Proofs.YtllchnancjgijaaGreat
set_option maxRecDepth 100000
set_option linter.unusedVariables false
set_option linter.unusedSimpArgs false
structure Ngc (X Y : Gp) (n : Int) : Prop where
  n : Y.now = n
  g : Y.G = X.G
  c : Y.c = X.c
theorem mee_gc (Y : Gp) (k : K) (z : Int) : (meeX Y k z).G = Y.G ∧ (meeX Y k z).c = Y.c := by
  unfold meeX
  split
  · unfold renX
    split
    · exact ⟨rfl, rfl⟩
    · split <;> exact ⟨rfl, rfl⟩
  · exact ⟨rfl, rfl⟩
theorem tel_gc (Y : Gp) (k : K) : (telX Y k).G = Y.G ∧ (telX Y k).c = Y.c := by
  unfold telX
  split <;> exact mee_gc Y k _
theorem wai_gc (Y : Gp) (k : K) (x t : Int) : (waiX Y k x t).G = Y.G ∧ (waiX Y k x t).c = Y.c := by
  unfold waiX
  split
  · exact ⟨rfl, rfl⟩
  · split <;> exact ⟨rfl, rfl⟩
section
variable {X : Gp} {n : Int}
theorem jo_ngc {k : K} {x t : Int} (h : mayE X n k x t = 0) : Ngc X (joX X n k x t) n := by
  unfold joX
  rw [if_neg (by simp [h])]
  obtain ⟨a, b⟩ := telX_now { X with now := n } k
  obtain ⟨g, c⟩ := tel_gc { X with now := n } k
  split
  · exact ⟨a, g, c⟩
  · obtain ⟨c1, d⟩ := waiX_now (telX { X with now := n } k) k x t
    obtain ⟨g2, c2⟩ := wai_gc (telX { X with now := n } k) k x t
    exact ⟨c1.trans a, g2.trans g, c2.trans c⟩
theorem tk_of {now : Int} (h : Me.tickE now n = 0) (hX : X.now ≤ now) : tkE X n = 0 := by
  unfold tkE
  unfold Me.tickE at *
  split at h
  · rename_i e
    rw [if_pos e]
    split at h
    · cases h
    · rw [if_neg (by omega)]
  · cases h
theorem tick_le {now : Int} (h : Me.tickE now n = 0) : now ≤ n ∧ n ≤ 4611686018427387904 := by
  unfold Me.tickE at h
  split at h
  · rename_i e
    unfold Me.isT at e
    simp only [Bool.and_eq_true, decide_eq_true_eq] at e
    split at h
    · cases h
    · exact ⟨by omega, e.2⟩
  · cases h
end
section
variable {l : List Gp} {now : Int} {G : List Int} {X : Gp} {p : Nat} {n : Int} {k : K} {x t : Int}
theorem sj0 (h : sjE l now G n k x t = 0) : Me.tickE now n = 0 ∧ k.2.size ≤ 64 ∧ 1 ≤ x ∧ 0 ≤ t ∧ ¬ t ∈ G ∧ ∀ Z ∈ l, ¬ Sit Z x := by
  unfold sjE at h
  split at h
  · rename_i e; exact absurd h e
  rename_i e0
  split at h
  · cases h
  split at h
  · cases h
  split at h
  · cases h
  split at h
  · cases h
  rename_i e1 e2 e3 e4
  exact ⟨by simpa using e0, by omega, by omega, by omega, e3, wpos_none.1 (by simpa using e4)⟩
theorem sj_may (hs : Si l now G) (h : sjE l now G n k x t = 0) (hp : l[p]? = some X) : mayE X n k x t = 0 := by
  obtain ⟨h1, h2, h3, h4, h5, h6⟩ := sj0 h
  have hX := List.mem_of_getElem? hp
  unfold mayE
  rw [if_neg (by simp [tk_of h1 (hs.nw X hX)]), if_neg (by omega), if_neg (by omega), if_neg (by omega), if_neg (by rw [hs.gg X hX]; exact h5), if_neg (by rw [whr_sit]; exact h6 X hX)]
theorem sit_snoc {Y : Gp} {r : Int} (h : Y.L = X.L ++ [(x, r, t)]) (c : Int) : Sit Y c ↔ Sit X c ∨ c = x := by
  unfold Sit
  rw [h]
  constructor
  · rintro ⟨y, hy, e⟩
    rcases List.mem_append.1 hy with q | q
    · exact Or.inl ⟨y, q, e⟩
    · simp only [List.mem_singleton] at q
      subst q
      exact Or.inr e.symm
  · rintro (⟨y, hy, e⟩ | e)
    · exact ⟨y, List.mem_append_left _ hy, e⟩
    · exact ⟨(x, r, t), by simp, e.symm⟩
def sjF (l : List Gp) (J : Jd) (x : Int) (p : Nat) : Int → Option Value := if J.how = 3 ∨ J.how = 5 then kupd (wmap l) x (.int .i64 (p : Int)) else wmap l
theorem sj_si (hs : Si l now G) (h : sjE l now G n k x t = 0) (hp : l[p]? = some X) {M : Nat} (hT : Ta.Ti X.T M) : Si (l.set p (joX X n k x t)) n G ∧ wmap (l.set p (joX X n k x t)) = sjF l (joJ X n k x t) x p := by
  have hm := sj_may hs h hp
  obtain ⟨h1, h2, h3, h4, h5, h6⟩ := sj0 h
  obtain ⟨t1, t2⟩ := tick_le h1
  have q := jo_ngc hm
  have hX := List.mem_of_getElem? hp
  have key : Un (l.set p (joX X n k x t)) ∧ wmap (l.set p (joX X n k x t)) = sjF l (joJ X n k x t) x p := by
    unfold sjF
    rcases jo_seat hT n k x t with ⟨c1, c2⟩ | ⟨c1, c2, c3, _⟩
    · rw [if_neg c1]
      have e : ∀ c, Sit (joX X n k x t) c ↔ Sit X c := fun c => by unfold Sit; rw [c2]
      exact ⟨hs.un.set hp (fun c h => Or.inl ((e c).1 h)), wmap_keep hs.un hp e⟩
    · rw [if_pos c1]
      exact wmap_add hs.un hp h6 (sit_snoc c3)
  exact ⟨hs.set hp t1 t2 (by rw [q.n]; exact Int.le_refl _) (by rw [q.g]; exact hs.gg X hX) q.c key.1, key.2⟩
end
end Go.Proofs.YtllchnancjgijaaGreat
/- The contract of Join; no conditions but those that it states. -/
namespace Go.Proofs.YtllchnancjgijaaGreat
open Go.RowKit Go.Maps Go.ChangeMaps
set_option maxRecDepth 100000
set_option linter.unusedVariables false
set_option linter.unusedSimpArgs false
def sjJ (n p : Nat) (J : Jd) : Jd := { J with run := numW n (p : Int) J.run, sent := J.sent.map (numW n (p : Int)) }
theorem addL_len {S : Ba.Bs} (h : S.run.length < 1024) (n x : Int) : (Ba.addL S n x).length ≤ 1024 := by
  unfold Ba.addL
  split
  · simp
  · split
    · simp; omega
    · simp
theorem mee_sent {X : Gp} (h : X.B.run.length < 1024) (k : K) (z : Int) : (meeJ X k z).sent.length ≤ 1024 := by
  unfold meeJ
  split
  · simp
  · split
    · unfold renJ
      split
      · simp
      · split
        · exact addL_len h _ _
        · simp [Jd.z]
    · simp [Jd.z]
theorem tel_sent {X : Gp} (h : X.B.run.length < 1024) (k : K) : (telJ X k).sent.length ≤ 1024 := by
  unfold telJ
  split
  · exact mee_sent h k _
  · simp [Jd.z]
theorem wai_sent {X : Gp} (h : X.B.run.length < 1024) (k : K) (x : Int) : (waiJ X k x).sent.length ≤ 1024 := by
  unfold waiJ
  split
  · simp
  · split
    · exact addL_len h _ _
    · simp
theorem jo_sent {X : Gp} (h : X.B.run.length < 1024) (n : Int) (k : K) (x t : Int) : (joJ X n k x t).sent.length ≤ 1024 := by
  unfold joJ
  split
  · simp [Jd.z]
  · split
    · exact tel_sent (X := { X with now := n }) h k
    · rename_i hb
      have q := (tel_no (X := { X with now := n }) (k := k) (by simpa using hb)).2.2.2.2.2.2
      exact wai_sent (by rw [q]; exact h) k x
theorem Rd.keepK {w w' : World} {v : Value} {xs : List Int} (h : Rd w v xs) (hk : ∀ (g : Nat) (cs : Array Value) (z : Nat × Nat), w.heap[g]? = some (.cells cs 3 z) → w'.heap[g]? = some (.cells cs 3 z)) : Rd w' v xs := by
  obtain ⟨a, c, e, h1, h2, h3, h4 | ⟨b, cur, e', z, h5, h6, h7⟩⟩ := h
  · exact ⟨a, c, e, h1, h2, h3, Or.inl h4⟩
  · exact ⟨a, c, e, h1, h2, h3, Or.inr ⟨b, cur, e', z, h5, hk _ _ _ h6, h7⟩⟩
theorem Rd.kbox {w w' : World} {v : Value} {xs : List Int} {b : Nat} {cs : Array Value} {t : TypeId} {z : Nat × Nat} (h : Rd w v xs) (T : Touch [b] w w') (hb : w.heap[b]? = some (.cells cs t z)) (ht : t ≠ 3) : Rd w' v xs := h.keepK (fun g cs' z' hg => T.keep hg (fun e => by
  simp only [List.mem_singleton] at e
  rw [e, hb] at hg
  simp only [Option.some.injEq, Obj.cells.injEq] at hg
  exact ht hg.2.1))
theorem Rd.kmap {w w' : World} {v : Value} {xs : List Int} {b n : Nat} {f : Int → Option Value} (h : Rd w v xs) (T : Touch [b] w w') (hb : MapK KI w b n f) : Rd w' v xs := h.keepK (fun g cs' z' hg => T.keep hg (fun e => by
  simp only [List.mem_singleton] at e
  obtain ⟨es, cl, hk⟩ := hb.kind
  rw [e, hk] at hg
  cases hg))
structure Sg (w : World) (s : Nat) (gv : Value) (r q g b : Nat) (k : K) : Prop where
  c0 : w.cell? ⟨s, 0, none⟩ = some gv
  cp : w.cell? ⟨r, q, none⟩ = some (.pointer (some ⟨g, 0, none⟩))
  k0 : w.cell? ⟨b, 0, none⟩ = some (.int .u16 k.1)
  k1 : w.cell? ⟨b, 1, none⟩ = some (.string k.2)
theorem Gq.blen {w : World} {g : Nat} {P : Pt} {F : List Nat} {X : Gp} {N : Cn} (q : Gq w g P F X N) : X.B.run.length < 1024 := q.iv.2.2.2.2.len
theorem st8j {w : World} {b : Nat} {t : TypeId} {z0 z1 z2 z3 z4 z5 z6 z7 : Value} (h : w.heap[b]? = some (.cells #[z0, z1, z2, z3, z4, z5, z6, z7] t (0, 0))) (v0 v1 v2 v3 v4 v5 v6 v7 : Value) :
    ((((((((w.setCell ⟨b, 0, none⟩ v0).setCell ⟨b, 1, none⟩ v1).setCell ⟨b, 2, none⟩ v2).setCell ⟨b, 3, none⟩ v3).setCell ⟨b, 4, none⟩ v4).setCell ⟨b, 5, none⟩ v5).setCell ⟨b, 6, none⟩ v6).setCell ⟨b, 7, none⟩ v7).heap[b]? = some (.cells #[v0, v1, v2, v3, v4, v5, v6, v7] t (0, 0)) ∧ Touch [b] w ((((((((w.setCell ⟨b, 0, none⟩ v0).setCell ⟨b, 1, none⟩ v1).setCell ⟨b, 2, none⟩ v2).setCell ⟨b, 3, none⟩ v3).setCell ⟨b, 4, none⟩ v4).setCell ⟨b, 5, none⟩ v5).setCell ⟨b, 6, none⟩ v6).setCell ⟨b, 7, none⟩ v7) := by
  refine ⟨by simp [World.setCell, Array.getElem?_modify, h], ?_⟩
  have hm : b ∈ [b] := by simp
  exact ((((((((Touch.refl _ _).setCell (Or.inl hm) _).setCell (Or.inl hm) _).setCell (Or.inl hm) _).setCell (Or.inl hm) _).setCell (Or.inl hm) _).setCell (Or.inl hm) _).setCell (Or.inl hm) _).setCell (Or.inl hm) _
def kbx (k : K) : Array Value := #[.int .u16 k.1, .string k.2]
section
variable {w : World} {s : Nat} {F : List Nat} {l : List Gp} {now : Int} {G : List Int} {M : Nat} {X : Gp}
set_option maxHeartbeats 16000000 in
theorem sjoin_ (h : Hq w s F l now G M) (hM : M ≤ 1400000000000) (n : Int) (k : K) (hk : Ok k) {x t : Int} (hx : W64 x) (ht : W64 t) (h0 : sjE l now G n k x t = 0) (hp : l[Ky.plc k l.length]? = some X) : Calls Tryz.prog 10 #[PT s, .int .i64 n, kv k, .int .i64 x, .int .i64 t] w fun e w' => ∃ v, e = .returned (.tuple #[jv (sjJ l.length (Ky.plc k l.length) (joJ X n k x t)) v, .int .i64 0]) ∧ Snt w' v (sjJ l.length (Ky.plc k l.length) (joJ X n k x t)).sent ∧ HqE w w' s F (l.set (Ky.plc k l.length) (joX X n k x t)) n G (M + 1) := by
  obtain ⟨gv, mw, mc, U, rfl, hl, hx1, hs⟩ := h
  obtain ⟨A, u, B, rfl, hA, rfl, hset⟩ := split_at hl hp
  have hm := sj_may hs h0 hp
  have hgk := hx1.gk u (by simp)
  have hT := (hx1.gs u (by simp)).ivs.1
  obtain ⟨si, wm⟩ := sj_si hs h0 hp hT
  have hlen : (A ++ u :: B).length = l.length := by rw [← hl, List.length_map]
  obtain ⟨a, c, rfl⟩ := hx1.row
  rw [hlen] at hx1
  obtain ⟨N0, hN0⟩ : ∃ N0, N0 = l.length := ⟨_, rfl⟩
  have l1 := hs.l1
  have l2 := hs.l2
  rw [← hN0] at hx1 hp hA hset si wm l1 l2 ⊢
  obtain ⟨p, hpp⟩ : ∃ p, p = Ky.plc k N0 := ⟨_, rfl⟩
  have hpl : p < N0 := by rw [hpp]; exact Ky.plc_lt k l1
  obtain ⟨V, hV⟩ : ∃ V, V = (w.alloc (.cells (kbx k) 35)).alloc (.cells jz 45) := ⟨_, rfl⟩
  have B0 : Hb w (fpH s mw mc (A ++ u :: B)) V s (.slice a N0 c) mw mc (A ++ u :: B) now (wmap l) G (M + 1) [(w.heap.size + 1, jz, 45), (w.heap.size, kbx k, 35)] := by
    have := (((Hb.start hx1).mono (Nat.le_succ M)).new (kbx k) 35 (by decide)).new jz 45 (by decide)
    rwa [World.size_alloc, ← hV] at this
  have HMY := hid (smay_ B0.r.x (by rw [hlen]; omega) n k hk hx ht)
  rw [h0] at HMY
  have hb := B0.at_ (k := w.heap.size) (cs := kbx k) (t := 35) (by simp)
  have b0 := cell_at (j := 0) (v := .int .u16 k.1) hb rfl
  have b1 := cell_at (j := 1) (v := .string k.2) hb rfl
  have HB0 := hid B0
  -- the time
  have HTK : Hid (∀ w1, Touch [] V w1 → w1.cell? ⟨s, 1, none⟩ = some (.int .i64 now) ∧ w1.frozen? ⟨s, 1, none⟩ = false ∧ Hb w (fpH s mw mc (A ++ u :: B)) (w1.setCell ⟨s, 1, none⟩ (.int .i64 n)) s (.slice a N0 c) mw mc (A ++ u :: B) n (wmap l) G (M + 1) [(w.heap.size + 1, jz, 45), (w.heap.size, kbx k, 35)]) := hid (fun w1 T => ⟨(HB0.out.keep0 T).cs.c1, (HB0.out.keep0 T).cs.f1, (HB0.out.keep0 T).tick n⟩)
  -- the place
  have HPL : Hid (∀ w1, Hb w (fpH s mw mc (A ++ u :: B)) w1 s (.slice a N0 c) mw mc (A ++ u :: B) n (wmap l) G (M + 1) [(w.heap.size + 1, jz, 45), (w.heap.size, kbx k, 35)] → Calls Tryz.prog 9 #[PT s, kv k] w1 fun e w' => e = .returned (.int .i64 (p : Int)) ∧ Hb w (fpH s mw mc (A ++ u :: B)) w'.drew s (.slice a N0 c) mw mc (A ++ u :: B) n (wmap l) G (M + 1) [(w.heap.size + 1, jz, 45), (w.heap.size, kbx k, 35)]) := hid (fun w1 q => by
    refine (place_ q.cs.c0 l1 l2 k hk).mono ?_
    rintro e w' ⟨e1, e2⟩
    exact ⟨by rw [hpp]; exact e1, (q.keep0 e2).drew⟩)
  have HPT : Hid (∀ (v : Gu) w1 f' now' Bs, v.g = u.g → Hb w (fpH s mw mc (A ++ u :: B)) w1 s (.slice a N0 c) mw mc (A ++ v :: B) now' f' G (M + 1) Bs → ∃ r off, a = some ⟨r, off, none⟩ ∧ w1.cell? ⟨r, off + p, none⟩ = some (PT u.g)) := hid (fun v w1 f' now' Bs ev q => by
    rw [← ev]
    exact q.r.x.ptr (by
    rw [List.getElem?_append_right (by rw [hA, hpp]; exact Nat.le_refl _), hA, ← hpp, Nat.sub_self]
    rfl))
  obtain ⟨r, off, rfl, -⟩ := HPT.out u _ _ _ _ rfl B0
  have HSV : Hid (∀ (v : Gu) w1 Bs, v.g = u.g → Hb w (fpH s mw mc (A ++ u :: B)) w1 s (.slice (some ⟨r, off, none⟩) N0 c) mw mc (A ++ v :: B) n (wmap l) G (M + 1) Bs → (w.heap.size, kbx k, 35) ∈ Bs → Sg w1 s (.slice (some ⟨r, off, none⟩) N0 c) r (off + p) u.g w.heap.size k) := hid (fun v w1 Bs ev q hb => by
    obtain ⟨r', off', e, h2⟩ := HPT.out v _ _ _ _ ev q
    cases e
    exact ⟨q.cs.c0, h2, cell_at (q.at_ hb) rfl, cell_at (q.at_ hb) rfl⟩)
  -- the group's own Join, with or without one box more
  have HJN : Hid (∀ w1 Bs, Hb w (fpH s mw mc (A ++ u :: B)) w1 s (.slice (some ⟨r, off, none⟩) N0 c) mw mc (A ++ u :: B) n (wmap l) G (M + 1) Bs → Calls Tryz.prog 11 #[PT u.g, .int .i64 n, kv k, .int .i64 x, .int .i64 t] w1 fun e w2 => ∃ a2 m2 c2, e = .returned (.tuple #[jv (joJ u.X n k x t) (.slice a2 m2 c2), .int .i64 0]) ∧ Rd w2 (.slice a2 m2 c2) (joJ u.X n k x t).sent ∧ ∃ U', U'.map Gu.X = l.set p (joX u.X n k x t) ∧ (∀ w3 Bs', Hb w (fpH s mw mc (A ++ u :: B)) w3 s (.slice (some ⟨r, off, none⟩) N0 c) mw mc U' n (wmap l) G (M + 1) Bs' → (w.heap.size, kbx k, 35) ∈ Bs' → Sg w3 s (.slice (some ⟨r, off, none⟩) N0 c) r (off + p) u.g w.heap.size k) ∧ Hb w (fpH s mw mc (A ++ u :: B)) w2 s (.slice (some ⟨r, off, none⟩) N0 c) mw mc U' n (wmap l) G (M + 1) Bs) := hid (fun w1 Bs q => by
    refine (q.join hgk (Nat.le_refl _) hM n k hk hx ht).mono ?_
    rintro e w2 ⟨v, e1, ⟨e2, a2, m2, c2, rfl⟩, u', g1, g2, g3, g4⟩
    rw [hm] at e1
    exact ⟨a2, m2, c2, e1, e2, A ++ u' :: B, by rw [hset, g2, hpp], fun w3 Bs' q' hb' => HSV.out u' _ _ g1 q' hb', g4⟩)
  have hbl := (hx1.gs u (by simp)).blen
  have HSN := hid (jo_sent hbl n k x t)
  -- who waits
  have HWM : Hid (wmap (l.set p (joX u.X n k x t)) = sjF l (joJ u.X n k x t) x p) := hid (by rw [hpp]; exact wm)
  have HFI : Hid (∀ U' w3, U'.map Gu.X = l.set p (joX u.X n k x t) → Hr w (fpH s mw mc (A ++ u :: B)) w3 s (.slice (some ⟨r, off, none⟩) N0 c) mw mc U' n (sjF l (joJ u.X n k x t) x p) G (M + 1) → HqE w w3 s (fpH s mw mc (A ++ u :: B)) (l.set p (joX u.X n k x t)) n G (M + 1)) := hid (fun U' w3 e q => by
    refine Hr.fin (gv := .slice (some ⟨r, off, none⟩) N0 c) (mw := mw) (mc := mc) (U := U') ?_ e (by rw [hpp]; exact si)
    rw [HWM.out]
    exact q)
  have HX := hid hx
  have HM0 := hid hx1.wm
  have HML : Hid (M + 1 < maxLen) := hid (by unfold maxLen; omega)
  have HP64 : Hid (p < N0 ∧ N0 ≤ 64) := hid ⟨hpl, l2⟩
  have HNR : Hid (∀ w1 U' f' Bs (v : Int), Hb w (fpH s mw mc (A ++ u :: B)) w1 s (.slice (some ⟨r, off, none⟩) N0 c) mw mc U' n f' G (M + 1) Bs → Calls Tryz.prog 42 #[PT s, .int .i64 (p : Int), .int .i64 v] w1 fun e w' => e = .returned (.int .i64 (numW N0 (p : Int) v)) ∧ w' = w1) := hid (fun w1 U' f' Bs v q => number_ q.cs.c0 _ _)
  have HNS : Hid (∀ w1 U' f' Bs (v : Value), Hb w (fpH s mw mc (A ++ u :: B)) w1 s (.slice (some ⟨r, off, none⟩) N0 c) mw mc U' n f' G (M + 1) Bs → Rd w1 v (joJ u.X n k x t).sent → Calls Tryz.prog 43 #[PT s, .int .i64 (p : Int), v] w1 fun e w' => ∃ a4 m4 c4, e = .returned (.slice a4 m4 c4) ∧ Rd w' (.slice a4 m4 c4) ((joJ u.X n k x t).sent.map (numW N0 (p : Int))) ∧ Hb w (fpH s mw mc (A ++ u :: B)) w' s (.slice (some ⟨r, off, none⟩) N0 c) mw mc U' n f' G (M + 1) Bs) := hid (fun w1 U' f' Bs v q hv => by
    refine (numbers_ q.cs.c0 _ hv (by have := HSN.out; omega)).mono ?_
    rintro e w' ⟨v', e1, ⟨e2, a4, m4, c4, rfl⟩, e3⟩
    exact ⟨a4, m4, c4, e1, e2, q.keep0 e3⟩)
  rw [← hpp]
  obtain ⟨F0, hF0⟩ : ∃ F0, F0 = fpH s mw mc (A ++ u :: B) := ⟨_, rfl⟩
  rw [← hF0] at HB0 HTK HPL HJN HPT HSV HFI HNR HNS ⊢
  clear hF0 HPT B0 hb hx1 hs hl hx ht hk h0 hp hA hset hm hgk hT si wm hlen hN0 l1 l2 hpl hbl hpp hM
  unfold sjJ sjF at *
  generalize l.set p (joX u.X n k x t) = L2 at *
  generalize joJ u.X n k x t = J at *
  unfold kbx jz at hV
  have HSG := hid (fun w1 Bs => HSV.out u w1 Bs rfl)
  clear HSV
  unfold kv PT jv jcs at *
  go_enter Tryz.func10, Tryz.ntmps10
  go_upto_region 1 with fail
  rw [← hV]
  clear hV
  go_upto_region 4 with (go_at_call 41; refine HMY.out.mono ?_; rintro e w1 ⟨rfl, t1⟩; obtain ⟨c1, f1, q1⟩ := HTK.out _ t1; clear t1 b0 b1)
  go_upto_region 5 with fail
  obtain ⟨W2, hW2⟩ : ∃ W2, W2 = w1.setCell ⟨s, 1, none⟩ (.int .i64 n) := ⟨_, rfl⟩
  rw [← hW2] at q1 ⊢
  have hb := q1.at_ (k := w.heap.size) (cs := kbx k) (t := 35) (by simp)
  have b0 := cell_at (j := 0) (v := .int .u16 k.1) hb rfl
  have b1 := cell_at (j := 1) (v := .string k.2) hb rfl
  have Q1 := hid q1
  clear hW2 q1 hb c1 f1 HMY HTK HB0
  go_upto_region 6 with (go_at_call 9; refine (HPL.out _ Q1.out).mono ?_; rintro e V3 ⟨rfl, q3⟩; have Q3 := hid q3; clear q3 b0 b1)
  clear Q1 HPL
  have zp1 : (p : Int) < (N0 : Int) := by have := HP64.out; omega
  have zp2 : (N0 : Int) ≤ 64 := by have := HP64.out; omega
  have S0 := HSG.out _ _ Q3.out (by simp)
  have C0 : ∀ w', Sg w' s (.slice (some ⟨r, off, none⟩) N0 c) r (off + p) u.g w.heap.size k → w'.cell? ⟨s, 0, none⟩ = some (.slice (some ⟨r, off, none⟩) N0 c) := fun w' h => h.c0
  have CP : ∀ w', Sg w' s (.slice (some ⟨r, off, none⟩) N0 c) r (off + p) u.g w.heap.size k → w'.cell? ⟨r, off + p, none⟩ = some (.pointer (some ⟨u.g, 0, none⟩)) := fun w' h => h.cp
  have K0 : ∀ w', Sg w' s (.slice (some ⟨r, off, none⟩) N0 c) r (off + p) u.g w.heap.size k → w'.cell? ⟨w.heap.size, 0, none⟩ = some (.int .u16 k.1) := fun w' h => h.k0
  have K1 : ∀ w', Sg w' s (.slice (some ⟨r, off, none⟩) N0 c) r (off + p) u.g w.heap.size k → w'.cell? ⟨w.heap.size, 1, none⟩ = some (.string k.2) := fun w' h => h.k1
  obtain ⟨jb, hjb⟩ : ∃ jb : Value → Array Value, jb = fun v => #[.int .i64 J.how, .int .i64 J.run, .bool J.bg, .int .i64 J.o.1, .int .i64 J.o.2.1, .int .i64 J.o.2.2.1, .int .i64 J.o.2.2.2, v] := ⟨_, rfl⟩
  have HJB := hid hjb
  clear hjb
  go_cut [14, 15] from 33 to 47 (fun s14 s15 wx => ∃ b6 : Nat, s14 = .pointer (some ⟨b6, 0, none⟩) ∧ s15 = .int .i64 0 ∧ Hid (∃ a2 m2 c2 U', Rd wx (.slice a2 m2 c2) J.sent ∧ U'.map Gu.X = L2 ∧ w.heap.size + 1 < b6 ∧ Hb w F0 wx s (.slice (some ⟨r, off, none⟩) N0 c) mw mc U' n (wmap l) G (M + 1) [(b6, jb (.slice a2 m2 c2), 45), (w.heap.size + 1, jz, 45), (w.heap.size, kbx k, 35)]))
  case first =>
    refine wp_region_L (S := fun w' => Sg w' s (.slice (some ⟨r, off, none⟩) N0 c) r (off + p) u.g w.heap.size k) (st := 16) (by kernel_rfl) ?_
    refine wpL_take (i := 0) (v := (.pointer (some ⟨s, 0, none⟩))) (some 34) rfl rfl (by kernel_rfl) (by kernel_rfl) (by kernel_rfl) (by kernel_rfl) (by kernel_rfl) (by decide) (fun _ _ _ h => h) (Or.inl ⟨by rfl, fun w' hS => (by go_simp)⟩) S0 ?_
    try simp only [Go.Act.put, List.setIfInBounds_toArray, List.set_cons_zero, List.set_cons_succ]
    refine wpL_take (i := 1) (v := (.pointer (some ⟨s, 0, none⟩))) (some 35) rfl rfl (by kernel_rfl) (by kernel_rfl) (by kernel_rfl) (by kernel_rfl) (by kernel_rfl) (by decide) (fun _ _ _ h => h) (Or.inl ⟨by rfl, fun w' hS => (by go_simp)⟩) S0 ?_
    try simp only [Go.Act.put, List.setIfInBounds_toArray, List.set_cons_zero, List.set_cons_succ]
    refine wpL_take (i := 2) (v := (.pointer (some ⟨s, 0, none⟩))) (some 36) rfl rfl (by kernel_rfl) (by kernel_rfl) (by kernel_rfl) (by kernel_rfl) (by kernel_rfl) (by decide) (fun _ _ _ h => h) (Or.inl ⟨by rfl, fun w' hS => (by go_simp)⟩) S0 ?_
    try simp only [Go.Act.put, List.setIfInBounds_toArray, List.set_cons_zero, List.set_cons_succ]
    refine wpL_take (i := 3) (v := (.slice (some ⟨r, off, none⟩) N0 c)) (some 37) rfl rfl (by kernel_rfl) (by kernel_rfl) (by kernel_rfl) (by kernel_rfl) (by kernel_rfl) (by decide) (fun _ _ _ h => h) (Or.inl ⟨by rfl, fun w' hS => (by have z0 := C0 _ hS; go_simp)⟩) S0 ?_
    try simp only [Go.Act.put, List.setIfInBounds_toArray, List.set_cons_zero, List.set_cons_succ]
    refine wpL_take (i := 4) (v := (.int .i64 (p : Int))) (some 38) rfl rfl (by kernel_rfl) (by kernel_rfl) (by kernel_rfl) (by kernel_rfl) (by kernel_rfl) (by decide) (fun _ _ _ h => h) (Or.inl ⟨by rfl, fun w' hS => (by go_simp)⟩) S0 ?_
    try simp only [Go.Act.put, List.setIfInBounds_toArray, List.set_cons_zero, List.set_cons_succ]
    refine wpL_take (i := 5) (v := (.pointer (some ⟨r, off + p, none⟩))) (some 39) rfl rfl (by kernel_rfl) (by kernel_rfl) (by kernel_rfl) (by kernel_rfl) (by kernel_rfl) (by decide) (fun _ _ _ h => h) (Or.inl ⟨by rfl, fun w' hS => (by go_simp)⟩) S0 ?_
    try simp only [Go.Act.put, List.setIfInBounds_toArray, List.set_cons_zero, List.set_cons_succ]
    refine wpL_take (i := 6) (v := (.pointer (some ⟨u.g, 0, none⟩))) (some 40) rfl rfl (by kernel_rfl) (by kernel_rfl) (by kernel_rfl) (by kernel_rfl) (by kernel_rfl) (by decide) (fun _ _ _ h => h) (Or.inl ⟨by rfl, fun w' hS => (by have z0 := CP _ hS; go_simp)⟩) S0 ?_
    try simp only [Go.Act.put, List.setIfInBounds_toArray, List.set_cons_zero, List.set_cons_succ]
    refine wpL_take (i := 7) (v := (.int .i64 n)) (some 41) rfl rfl (by kernel_rfl) (by kernel_rfl) (by kernel_rfl) (by kernel_rfl) (by kernel_rfl) (by decide) (fun _ _ _ h => h) (Or.inl ⟨by rfl, fun w' hS => (by go_simp)⟩) S0 ?_
    try simp only [Go.Act.put, List.setIfInBounds_toArray, List.set_cons_zero, List.set_cons_succ]
    refine wpL_take (i := 8) (v := (.agg #[.int .u16 k.1, .string k.2])) (some 42) rfl rfl (by kernel_rfl) (by kernel_rfl) (by kernel_rfl) (by kernel_rfl) (by kernel_rfl) (by decide) (fun _ _ _ h => h) (Or.inl ⟨by rfl, fun w' hS => (by have z0 := K0 _ hS; have z1 := K1 _ hS; go_simp)⟩) S0 ?_
    try simp only [Go.Act.put, List.setIfInBounds_toArray, List.set_cons_zero, List.set_cons_succ]
    refine wpL_take (i := 9) (v := (.int .i64 x)) (some 43) rfl rfl (by kernel_rfl) (by kernel_rfl) (by kernel_rfl) (by kernel_rfl) (by kernel_rfl) (by decide) (fun _ _ _ h => h) (Or.inl ⟨by rfl, fun w' hS => (by go_simp)⟩) S0 ?_
    try simp only [Go.Act.put, List.setIfInBounds_toArray, List.set_cons_zero, List.set_cons_succ]
    refine wpL_take (i := 10) (v := (.int .i64 t)) (some 44) rfl rfl (by kernel_rfl) (by kernel_rfl) (by kernel_rfl) (by kernel_rfl) (by kernel_rfl) (by decide) (fun _ _ _ h => h) (Or.inl ⟨by rfl, fun w' hS => (by go_simp)⟩) S0 ?_
    try simp only [Go.Act.put, List.setIfInBounds_toArray, List.set_cons_zero, List.set_cons_succ]
    refine wpL_ready (rs := [11, 15]) (by kernel_rfl) (by simp) ?_
    refine AllL.cons (o := { dst := some 45, op := Op.call { callee := Callee.value (Operand.func 11), args := #[Operand.tmp 40, Operand.tmp 41, Operand.tmp 42, Operand.tmp 43, Operand.tmp 44], argTypes := #[29, 2, 35, 3, 3] }, type := 46, pos := _, after := #[{ on := 6, ground := Ground.data }, { on := 7, ground := Ground.data }, { on := 8, ground := Ground.data }, { on := 9, ground := Ground.data }, { on := 10, ground := Ground.data }], guard := none }) rfl (fun K' hK => ?_) ?_
    · rw [if_pos (by rfl)]
      go_simp
      refine (HJN.out _ _ Q3.out).mono ?_
      rintro e w2 ⟨a2, m2, c2, rfl, rd2, U2, hU2, hs2, q2⟩
      have HS2 := hid hs2
      have S2 := hs2 _ _ q2 (by simp)
      clear hs2
      have RD := hid rd2
      have HU := hid hU2
      have Q2 := hid q2
      clear rd2 hU2 q2
      refine hK.out _ _ (fun _ => S2) ?_
      clear hK
      try simp only [Go.Act.put, List.setIfInBounds_toArray, List.set_cons_zero, List.set_cons_succ]
      refine wpL_take (i := 12) (v := (.tuple #[(.agg #[.int .i64 J.how, .int .i64 J.run, .bool J.bg, .int .i64 J.o.1, .int .i64 J.o.2.1, .int .i64 J.o.2.2.1, .int .i64 J.o.2.2.2, .slice a2 m2 c2]), (.int .i64 0)])) (some 33) rfl rfl (by kernel_rfl) (by kernel_rfl) (by kernel_rfl) (by kernel_rfl) (by kernel_rfl) (by decide) (fun _ _ _ h => h) (Or.inl ⟨by rfl, fun w' hS => (by go_simp)⟩) S2 ?_
      try simp only [Go.Act.put, List.setIfInBounds_toArray, List.set_cons_zero, List.set_cons_succ]
      refine wpL_take (i := 13) (v := (.agg #[.int .i64 J.how, .int .i64 J.run, .bool J.bg, .int .i64 J.o.1, .int .i64 J.o.2.1, .int .i64 J.o.2.2.1, .int .i64 J.o.2.2.2, .slice a2 m2 c2])) (some 46) rfl rfl (by kernel_rfl) (by kernel_rfl) (by kernel_rfl) (by kernel_rfl) (by kernel_rfl) (by decide) (fun _ _ _ h => h) (Or.inl ⟨by rfl, fun w' hS => (by go_simp)⟩) S2 ?_
      try simp only [Go.Act.put, List.setIfInBounds_toArray, List.set_cons_zero, List.set_cons_succ]
      refine wpL_takeY (i := 14) (v := (.int .i64 0)) (some 47) rfl rfl (by kernel_rfl) (by kernel_rfl) (by kernel_rfl) (by decide) (fun _ _ _ h => h) (Or.inl ⟨by rfl, fun w' hS => (by go_simp)⟩) (fun _ => S2) ?_
      try simp only [Go.Act.put, List.setIfInBounds_toArray, List.set_cons_zero, List.set_cons_succ]
      refine wpL_ready (rs := [15]) (by kernel_rfl) (by simp) (AllL.cons (o := { dst := some 14, op := Op.alloc 45, type := 0, pos := _, after := #[], guard := none }) rfl (fun K' hK => ?_) AllL.nil)
      rw [if_pos (by rfl)]
      go_simp
      refine hK.out _ _ (fun _ => (HS2.out _ _ (Q2.out.new jz 45 (by decide)) (by simp))) ?_
      clear hK
      try simp only [Go.Act.put, List.setIfInBounds_toArray, List.set_cons_zero, List.set_cons_succ]
      refine wpL_ready (rs := [16]) (by kernel_rfl) (by simp) (AllL.cons (o := { dst := none, op := Op.store 45 (Operand.tmp 14) (Operand.tmp 46), type := 0, pos := _, after := #[{ on := 15, ground := Ground.data }, { on := 13, ground := Ground.data }, { on := 11, ground := Ground.chain }, { on := 0, ground := Ground.phase }, { on := 1, ground := Ground.phase }, { on := 2, ground := Ground.phase }, { on := 3, ground := Ground.phase }, { on := 4, ground := Ground.phase }, { on := 5, ground := Ground.phase }, { on := 6, ground := Ground.phase }, { on := 7, ground := Ground.phase }, { on := 8, ground := Ground.phase }, { on := 9, ground := Ground.phase }, { on := 10, ground := Ground.phase }, { on := 11, ground := Ground.phase }, { on := 12, ground := Ground.phase }, { on := 13, ground := Ground.phase }, { on := 14, ground := Ground.textOnly Departure.lateStores }, { on := 15, ground := Ground.phase }], guard := none }) rfl (fun K' hK => ?_) AllL.nil)
      rw [if_pos (by rfl)]
      have hbj := heap_alloc_new w2 (.cells #[.int .i64 0, .int .i64 0, .bool false, .int .i64 0, .int .i64 0, .int .i64 0, .int .i64 0, .slice none 0 0] 45)
      have d0 := cell_at (j := 0) hbj rfl
      have d1 := cell_at (j := 1) hbj rfl
      have d2 := cell_at (j := 2) hbj rfl
      have d3 := cell_at (j := 3) hbj rfl
      have d4 := cell_at (j := 4) hbj rfl
      have d5 := cell_at (j := 5) hbj rfl
      have d6 := cell_at (j := 6) hbj rfl
      have d7 := cell_at (j := 7) hbj rfl
      have df := froz_at hbj
      go_simp
      obtain ⟨W3, hW3⟩ : ∃ W3, W3 = w2.alloc (.cells #[.int .i64 J.how, .int .i64 J.run, .bool J.bg, .int .i64 J.o.1, .int .i64 J.o.2.1, .int .i64 J.o.2.2.1, .int .i64 J.o.2.2.2, .slice a2 m2 c2] 45) := ⟨_, rfl⟩
      have q3 := Q2.out.new #[.int .i64 J.how, .int .i64 J.run, .bool J.bg, .int .i64 J.o.1, .int .i64 J.o.2.1, .int .i64 J.o.2.2.1, .int .i64 J.o.2.2.2, .slice a2 m2 c2] 45 (by decide)
      have rd3 := RD.out.keep0 ((Touch.refl [] w2).alloc (.cells #[.int .i64 J.how, .int .i64 J.run, .bool J.bg, .int .i64 J.o.1, .int .i64 J.o.2.1, .int .i64 J.o.2.2.1, .int .i64 J.o.2.2.2, .slice a2 m2 c2] 45))
      have hlt := block_lt (Q2.out.at_ (k := w.heap.size + 1) (cs := jz) (t := 45) (by simp))
      rw [← hW3] at q3 rd3 ⊢
      clear hW3
      refine hK.out _ _ (fun h => absurd h (by decide)) ?_
      clear hK
      try simp only [Go.Act.put, List.setIfInBounds_toArray, List.set_cons_zero, List.set_cons_succ]
      refine wpL_takeY (i := 17) (v := (.int .i64 0)) (some 15) rfl rfl (by kernel_rfl) (by kernel_rfl) (by kernel_rfl) (by decide) (fun _ _ _ h => h) (Or.inl ⟨by rfl, fun w' hS => (by go_simp)⟩) (fun h => absurd h (by decide)) ?_
      try simp only [Go.Act.put, List.setIfInBounds_toArray, List.set_cons_zero, List.set_cons_succ]
      refine wpL_done (by kernel_rfl) ?_ _
      go_wp2
      go_meet
      case rel => exact ⟨_, rfl, rfl, hid ⟨a2, m2, c2, U2, rd3, HU.out, (by simpa using hlt), (by rw [HJB.out]; exact q3)⟩⟩
    refine AllL.cons (o := { dst := some 14, op := Op.alloc 45, type := 0, pos := _, after := #[], guard := none }) rfl (fun K' hK => ?_) ?_
    · rw [if_pos (by rfl)]
      go_simp
      refine hK.out _ _ (fun _ => (HSG.out _ _ (Q3.out.new jz 45 (by decide)) (by simp))) ?_
      clear hK
      try simp only [Go.Act.put, List.setIfInBounds_toArray, List.set_cons_zero, List.set_cons_succ]
      refine wpL_ready (rs := [11]) (by kernel_rfl) (by simp) (AllL.cons (o := { dst := some 45, op := Op.call { callee := Callee.value (Operand.func 11), args := #[Operand.tmp 40, Operand.tmp 41, Operand.tmp 42, Operand.tmp 43, Operand.tmp 44], argTypes := #[29, 2, 35, 3, 3] }, type := 46, pos := _, after := #[{ on := 6, ground := Ground.data }, { on := 7, ground := Ground.data }, { on := 8, ground := Ground.data }, { on := 9, ground := Ground.data }, { on := 10, ground := Ground.data }], guard := none }) rfl (fun K' hK => ?_) AllL.nil)
      rw [if_pos (by rfl)]
      go_simp
      refine (HJN.out _ _ (Q3.out.new jz 45 (by decide))).mono ?_
      rintro e w2 ⟨a2, m2, c2, rfl, rd2, U2, hU2, hs2, q2⟩
      have HS2 := hid hs2
      have S2 := hs2 _ _ q2 (by simp)
      clear hs2
      have RD := hid rd2
      have HU := hid hU2
      have Q2 := hid q2
      clear rd2 hU2 q2
      have hbj := Q2.out.at_ (k := V3.heap.size) (cs := jz) (t := 45) (by simp)
      refine hK.out _ _ (fun _ => S2) ?_
      clear hK
      try simp only [Go.Act.put, List.setIfInBounds_toArray, List.set_cons_zero, List.set_cons_succ]
      refine wpL_take (i := 12) (v := (.tuple #[(.agg #[.int .i64 J.how, .int .i64 J.run, .bool J.bg, .int .i64 J.o.1, .int .i64 J.o.2.1, .int .i64 J.o.2.2.1, .int .i64 J.o.2.2.2, .slice a2 m2 c2]), (.int .i64 0)])) (some 33) rfl rfl (by kernel_rfl) (by kernel_rfl) (by kernel_rfl) (by kernel_rfl) (by kernel_rfl) (by decide) (fun _ _ _ h => h) (Or.inl ⟨by rfl, fun w' hS => (by go_simp)⟩) S2 ?_
      try simp only [Go.Act.put, List.setIfInBounds_toArray, List.set_cons_zero, List.set_cons_succ]
      refine wpL_take (i := 13) (v := (.agg #[.int .i64 J.how, .int .i64 J.run, .bool J.bg, .int .i64 J.o.1, .int .i64 J.o.2.1, .int .i64 J.o.2.2.1, .int .i64 J.o.2.2.2, .slice a2 m2 c2])) (some 46) rfl rfl (by kernel_rfl) (by kernel_rfl) (by kernel_rfl) (by kernel_rfl) (by kernel_rfl) (by decide) (fun _ _ _ h => h) (Or.inl ⟨by rfl, fun w' hS => (by go_simp)⟩) S2 ?_
      try simp only [Go.Act.put, List.setIfInBounds_toArray, List.set_cons_zero, List.set_cons_succ]
      refine wpL_takeY (i := 14) (v := (.int .i64 0)) (some 47) rfl rfl (by kernel_rfl) (by kernel_rfl) (by kernel_rfl) (by decide) (fun _ _ _ h => h) (Or.inl ⟨by rfl, fun w' hS => (by go_simp)⟩) (fun _ => S2) ?_
      try simp only [Go.Act.put, List.setIfInBounds_toArray, List.set_cons_zero, List.set_cons_succ]
      refine wpL_ready (rs := [16]) (by kernel_rfl) (by simp) (AllL.cons (o := { dst := none, op := Op.store 45 (Operand.tmp 14) (Operand.tmp 46), type := 0, pos := _, after := #[{ on := 15, ground := Ground.data }, { on := 13, ground := Ground.data }, { on := 11, ground := Ground.chain }, { on := 0, ground := Ground.phase }, { on := 1, ground := Ground.phase }, { on := 2, ground := Ground.phase }, { on := 3, ground := Ground.phase }, { on := 4, ground := Ground.phase }, { on := 5, ground := Ground.phase }, { on := 6, ground := Ground.phase }, { on := 7, ground := Ground.phase }, { on := 8, ground := Ground.phase }, { on := 9, ground := Ground.phase }, { on := 10, ground := Ground.phase }, { on := 11, ground := Ground.phase }, { on := 12, ground := Ground.phase }, { on := 13, ground := Ground.phase }, { on := 14, ground := Ground.textOnly Departure.lateStores }, { on := 15, ground := Ground.phase }], guard := none }) rfl (fun K' hK => ?_) AllL.nil)
      rw [if_pos (by rfl)]
      unfold jz at hbj
      have d0 := cell_at (j := 0) hbj rfl
      have d1 := cell_at (j := 1) hbj rfl
      have d2 := cell_at (j := 2) hbj rfl
      have d3 := cell_at (j := 3) hbj rfl
      have d4 := cell_at (j := 4) hbj rfl
      have d5 := cell_at (j := 5) hbj rfl
      have d6 := cell_at (j := 6) hbj rfl
      have d7 := cell_at (j := 7) hbj rfl
      have df := froz_at hbj
      go_simp
      obtain ⟨W3, hW3⟩ : ∃ W3, W3 = ((((((((w2.setCell ⟨V3.heap.size, 0, none⟩ (.int .i64 J.how)).setCell ⟨V3.heap.size, 1, none⟩ (.int .i64 J.run)).setCell ⟨V3.heap.size, 2, none⟩ (.bool J.bg)).setCell ⟨V3.heap.size, 3, none⟩ (.int .i64 J.o.1)).setCell ⟨V3.heap.size, 4, none⟩ (.int .i64 J.o.2.1)).setCell ⟨V3.heap.size, 5, none⟩ (.int .i64 J.o.2.2.1)).setCell ⟨V3.heap.size, 6, none⟩ (.int .i64 J.o.2.2.2)).setCell ⟨V3.heap.size, 7, none⟩ (.slice a2 m2 c2)) := ⟨_, rfl⟩
      obtain ⟨h6, t6⟩ := st8j hbj (.int .i64 J.how) (.int .i64 J.run) (.bool J.bg) (.int .i64 J.o.1) (.int .i64 J.o.2.1) (.int .i64 J.o.2.2.1) (.int .i64 J.o.2.2.2) (.slice a2 m2 c2)
      rw [← hW3] at h6 t6 ⊢
      have rd3 := RD.out.kbox t6 hbj (by decide)
      have hlt := block_lt (Q3.out.at_ (k := w.heap.size + 1) (cs := jz) (t := 45) (by simp))
      have q3 := Q2.out.set (by intro y hy; simp at hy; rcases hy with rfl | rfl <;> simp <;> (try simp at hlt) <;> omega) t6 h6
      clear hW3 h6 t6
      refine hK.out _ _ (fun h => absurd h (by decide)) ?_
      clear hK
      try simp only [Go.Act.put, List.setIfInBounds_toArray, List.set_cons_zero, List.set_cons_succ]
      refine wpL_takeY (i := 17) (v := (.int .i64 0)) (some 15) rfl rfl (by kernel_rfl) (by kernel_rfl) (by kernel_rfl) (by decide) (fun _ _ _ h => h) (Or.inl ⟨by rfl, fun w' hS => (by go_simp)⟩) (fun h => absurd h (by decide)) ?_
      try simp only [Go.Act.put, List.setIfInBounds_toArray, List.set_cons_zero, List.set_cons_succ]
      refine wpL_done (by kernel_rfl) ?_ _
      go_wp2
      go_meet
      case rel => exact ⟨_, rfl, rfl, hid ⟨a2, m2, c2, U2, rd3, HU.out, (by simpa using hlt), (by rw [HJB.out]; exact q3)⟩⟩
    exact AllL.nil
  case rest =>
    clear S0 C0 CP K0 K1 HJN HSG Q3
    obtain ⟨b6, rfl, rfl, HC⟩ := hcut
    obtain ⟨Wc, rfl⟩ : ∃ Wc, Wc = wc := ⟨_, rfl⟩
    obtain ⟨a2, m2, c2, U2, rd, hU2, hb6, q2⟩ := HC.out
    clear HC
    have HRD := hid rd
    have HU2 := hid hU2
    have Q2 := hid q2
    have H6 := hid hb6
    have hbj := Q2.out.at_ (k := b6) (cs := jb (.slice a2 m2 c2)) (t := 45) (by simp)
    have d0 : Wc.cell? ⟨b6, 0, none⟩ = some (.int .i64 J.how) := cell_at hbj (by rw [HJB.out]; rfl)
    have cw := Q2.out.cs.c2
    clear rd hU2 hb6 q2 hbj
    go_upto_region 7 with fail
    obtain ⟨bb, hbb⟩ : ∃ bb, bb = decide (J.how = 3 ∨ J.how = 5) := ⟨_, rfl⟩
    have HBB := hid hbb
    clear hbb
    go_cut [55] from 48 to 54 (fun s55 wx => wx = Wc ∧ s55 = .bool bb)
    case first =>
      by_cases h3 : J.how = 3
      · have h3' : (J.how == 3) = true := by simpa using h3
        have e : decide (J.how = 3 ∨ J.how = 5) = true := by simp [h3]
        have HE := hid (HBB.out.trans e)
        clear e h3
        go_wp2
        go_meet
        case rel => exact ⟨rfl, by rw [HE.out]⟩
      · have h3' : (J.how == 3) = false := by simpa using h3
        by_cases h5 : J.how = 5
        · have h5' : (J.how == 5) = true := by simpa using h5
          have e : decide (J.how = 3 ∨ J.how = 5) = true := by simp [h5]
          have HE := hid (HBB.out.trans e)
          clear e h3 h5
          go_wp2
          go_meet
          case rel => exact ⟨rfl, by rw [HE.out]⟩
        · have h5' : (J.how == 5) = false := by simpa using h5
          have e : decide (J.how = 3 ∨ J.how = 5) = false := by simp [h3, h5]
          have HE := hid (HBB.out.trans e)
          clear e h3 h5
          go_wp2
          go_meet
          case rel => exact ⟨rfl, by rw [HE.out]⟩
    case rest =>
      obtain ⟨ewc, rfl⟩ := hcut
      rw [ewc]
      clear ewc
      by_cases hh : J.how = 3 ∨ J.how = 5
      · have hbt : bb = true := HBB.out.trans (decide_eq_true hh)
        subst hbt
        clear HBB
        obtain ⟨m, hm, hmk⟩ := Q2.out.r.x.wm
        have hm' : m ≤ M := by
          obtain ⟨m0, h1, h2⟩ := HM0.out
          rw [hmk.sizeS h2 (fun _ _ => rfl)]
          exact h1
        have HMK := hid hmk
        have HFX : Hid (∀ U' w3, U'.map Gu.X = L2 → Hr w F0 w3 s (.slice (some ⟨r, off, none⟩) N0 c) mw mc U' n (kupd (wmap l) x (.int .i64 (p : Int))) G (M + 1) → HqE w w3 s F0 L2 n G (M + 1)) := hid (fun U' w3 e q => HFI.out U' w3 e (by rw [if_pos hh]; exact q))
        have HM2 := hid hm'
        clear hm hm' hmk hh HFI
        go_upto_region 9 with (at_mapUpdate; refine wpList_kset (c := KI) _ rfl _ _ _ 97 rfl 3 Tryz.underlying97 mw m (wmap l) rfl HMK.out (by have := HM2.out; have := HML.out; omega) x rfl HX.out (.int .i64 (p : Int)) rfl ?_; intro ob hM; have q3 := Q2.out.wput (by have := HM2.out; split <;> omega) hM; have rd3 := HRD.out.kmap (Q2.out.r.wput (by have := HM2.out; split <;> omega) hM).2.1 HMK.out; have Q3 := hid q3; have R3 := hid rd3; clear q3 rd3 hM cw d0)
        obtain ⟨W3, hW3⟩ : ∃ W3, W3 = setBlock Wc mw ob := ⟨_, rfl⟩
        rw [← hW3] at Q3 R3 ⊢
        clear hW3 Q2 HRD
        have q3 := Q3.out.drew
        have r3 := R3.out.keep0 (Touch.refl [] W3).drew
        rw [HJB.out] at q3
        have hbj := q3.at_ (k := b6) (cs := #[.int .i64 J.how, .int .i64 J.run, .bool J.bg, .int .i64 J.o.1, .int .i64 J.o.2.1, .int .i64 J.o.2.2.1, .int .i64 J.o.2.2.2, .slice a2 m2 c2]) (t := 45) (by simp)
        have S9 := And.intro (cell_at (j := 1) (v := .int .i64 J.run) hbj rfl) (cell_at (j := 7) (v := .slice a2 m2 c2) hbj rfl)
        have QD := hid q3
        have RD := hid r3
        clear q3 r3 hbj Q3 R3
        refine wp_region_L (S := fun w' => w'.cell? ⟨b6, 1, none⟩ = some (.int .i64 J.run) ∧ w'.cell? ⟨b6, 7, none⟩ = some (.slice a2 m2 c2)) (st := 11) (by kernel_rfl) ?_
        refine wpL_take (i := 0) (v := (.pointer (some ⟨s, 0, none⟩))) (some 62) rfl rfl (by kernel_rfl) (by kernel_rfl) (by kernel_rfl) (by kernel_rfl) (by kernel_rfl) (by decide) (fun _ _ _ h => h) (Or.inl ⟨by rfl, fun w' hS => (by go_simp)⟩) S9 ?_
        try simp only [Go.Act.put, List.setIfInBounds_toArray, List.set_cons_zero, List.set_cons_succ]
        refine wpL_take (i := 1) (v := (.int .i64 (p : Int))) (some 63) rfl rfl (by kernel_rfl) (by kernel_rfl) (by kernel_rfl) (by kernel_rfl) (by kernel_rfl) (by decide) (fun _ _ _ h => h) (Or.inl ⟨by rfl, fun w' hS => (by go_simp)⟩) S9 ?_
        try simp only [Go.Act.put, List.setIfInBounds_toArray, List.set_cons_zero, List.set_cons_succ]
        refine wpL_take (i := 2) (v := (.pointer (some ⟨b6, 1, none⟩))) (some 64) rfl rfl (by kernel_rfl) (by kernel_rfl) (by kernel_rfl) (by kernel_rfl) (by kernel_rfl) (by decide) (fun _ _ _ h => h) (Or.inl ⟨by rfl, fun w' hS => (by go_simp)⟩) S9 ?_
        try simp only [Go.Act.put, List.setIfInBounds_toArray, List.set_cons_zero, List.set_cons_succ]
        refine wpL_take (i := 3) (v := (.int .i64 J.run)) (some 65) rfl rfl (by kernel_rfl) (by kernel_rfl) (by kernel_rfl) (by kernel_rfl) (by kernel_rfl) (by decide) (fun _ _ _ h => h) (Or.inl ⟨by rfl, fun w' hS => (by have z0 := hS.1; go_simp)⟩) S9 ?_
        try simp only [Go.Act.put, List.setIfInBounds_toArray, List.set_cons_zero, List.set_cons_succ]
        refine wpL_takeY (i := 5) (v := (.pointer (some ⟨s, 0, none⟩))) (some 67) rfl rfl (by kernel_rfl) (by kernel_rfl) (by kernel_rfl) (by decide) (fun _ _ _ h => h) (Or.inl ⟨by rfl, fun w' hS => (by go_simp)⟩) (fun _ => S9) ?_
        try simp only [Go.Act.put, List.setIfInBounds_toArray, List.set_cons_zero, List.set_cons_succ]
        refine wpL_takeY (i := 6) (v := (.int .i64 (p : Int))) (some 68) rfl rfl (by kernel_rfl) (by kernel_rfl) (by kernel_rfl) (by decide) (fun _ _ _ h => h) (Or.inl ⟨by rfl, fun w' hS => (by go_simp)⟩) (fun _ => S9) ?_
        try simp only [Go.Act.put, List.setIfInBounds_toArray, List.set_cons_zero, List.set_cons_succ]
        refine wpL_take (i := 7) (v := (.pointer (some ⟨b6, 7, none⟩))) (some 69) rfl rfl (by kernel_rfl) (by kernel_rfl) (by kernel_rfl) (by kernel_rfl) (by kernel_rfl) (by decide) (fun _ _ _ h => h) (Or.inl ⟨by rfl, fun w' hS => (by go_simp)⟩) S9 ?_
        try simp only [Go.Act.put, List.setIfInBounds_toArray, List.set_cons_zero, List.set_cons_succ]
        refine wpL_take (i := 8) (v := (.slice a2 m2 c2)) (some 70) rfl rfl (by kernel_rfl) (by kernel_rfl) (by kernel_rfl) (by kernel_rfl) (by kernel_rfl) (by decide) (fun _ _ _ h => h) (Or.inl ⟨by rfl, fun w' hS => (by have z0 := hS.2; go_simp)⟩) S9 ?_
        try simp only [Go.Act.put, List.setIfInBounds_toArray, List.set_cons_zero, List.set_cons_succ]
        refine wpL_ready (rs := [4]) (by kernel_rfl) (by simp) (AllL.cons (o := { dst := some 66, op := Op.call { callee := Callee.value (Operand.func 42), args := #[Operand.tmp 62, Operand.tmp 63, Operand.tmp 65], argTypes := #[25, 3, 3] }, type := 3, pos := _, after := #[{ on := 0, ground := Ground.data }, { on := 1, ground := Ground.data }, { on := 3, ground := Ground.data }], guard := none }) rfl (fun K' hK => ?_) AllL.nil)
        rw [if_pos (by rfl)]
        go_simp
        refine (HNR.out _ _ _ _ _ QD.out).mono ?_
        rintro e w9 ⟨rfl, e9⟩
        rw [e9]
        clear e9 w9
        refine hK.out _ _ (fun _ => S9) ?_
        clear hK
        try simp only [Go.Act.put, List.setIfInBounds_toArray, List.set_cons_zero, List.set_cons_succ]
        refine wpL_take (i := 10) (v := (.pointer (some ⟨b6, 1, none⟩))) (some 72) rfl rfl (by kernel_rfl) (by kernel_rfl) (by kernel_rfl) (by kernel_rfl) (by kernel_rfl) (by decide) (fun _ _ _ h => h) (Or.inl ⟨by rfl, fun w' hS => (by go_simp)⟩) S9 ?_
        try simp only [Go.Act.put, List.setIfInBounds_toArray, List.set_cons_zero, List.set_cons_succ]
        refine wpL_ready (rs := [9]) (by kernel_rfl) (by simp) (AllL.cons (o := { dst := some 71, op := Op.call { callee := Callee.value (Operand.func 43), args := #[Operand.tmp 67, Operand.tmp 68, Operand.tmp 70], argTypes := #[25, 3, 43] }, type := 43, pos := _, after := #[{ on := 5, ground := Ground.data }, { on := 6, ground := Ground.data }, { on := 8, ground := Ground.data }, { on := 4, ground := Ground.chain }], guard := none }) rfl (fun K' hK => ?_) AllL.nil)
        rw [if_pos (by rfl)]
        go_simp
        refine (HNS.out _ _ _ _ _ QD.out RD.out).mono ?_
        rintro e w4 ⟨a4, m4, c4, rfl, rd4, q4⟩
        have hbj := q4.at_ (k := b6) (cs := #[.int .i64 J.how, .int .i64 J.run, .bool J.bg, .int .i64 J.o.1, .int .i64 J.o.2.1, .int .i64 J.o.2.2.1, .int .i64 J.o.2.2.2, .slice a2 m2 c2]) (t := 45) (by simp)
        have S4 := And.intro (cell_at (j := 1) (v := .int .i64 J.run) hbj rfl) (cell_at (j := 7) (v := .slice a2 m2 c2) hbj rfl)
        have RD4 := hid rd4
        have Q4 := hid q4
        clear rd4 q4
        refine hK.out _ _ (fun _ => S4) ?_
        clear hK
        try simp only [Go.Act.put, List.setIfInBounds_toArray, List.set_cons_zero, List.set_cons_succ]
        refine wpL_ready (rs := [11]) (by kernel_rfl) (by simp) (AllL.cons (o := { dst := none, op := Op.store 3 (Operand.tmp 72) (Operand.tmp 66), type := 0, pos := _, after := #[{ on := 10, ground := Ground.data }, { on := 4, ground := Ground.data }, { on := 9, ground := Ground.chain }, { on := 0, ground := Ground.phase }, { on := 1, ground := Ground.phase }, { on := 2, ground := Ground.phase }, { on := 3, ground := Ground.phase }, { on := 4, ground := Ground.phase }, { on := 5, ground := Ground.textOnly Departure.lateStores }, { on := 6, ground := Ground.textOnly Departure.lateStores }, { on := 7, ground := Ground.phase }, { on := 8, ground := Ground.phase }, { on := 9, ground := Ground.textOnly Departure.lateStoresUnsure }], guard := none }) rfl (fun K' hK => ?_) AllL.nil)
        rw [if_pos (by rfl)]
        have x1 := S4.1
        have xf := froz_at hbj
        go_simp
        obtain ⟨W5, hW5⟩ : ∃ W5, W5 = w4.setCell ⟨b6, 1, none⟩ (.int .i64 (numW N0 (p : Int) J.run)) := ⟨_, rfl⟩
        have h5 := bset hbj (i := 1) (.int .i64 (numW N0 (p : Int) J.run))
        have t5 : Touch [b6] w4 W5 := by rw [hW5]; exact (Touch.refl _ _).setCell (Or.inl (by simp)) _
        rw [← hW5] at h5 ⊢
        simp only [List.setIfInBounds_toArray, List.set_cons_succ, List.set_cons_zero] at h5
        have rd5 := RD4.out.kbox t5 hbj (by decide)
        have q5 := Q4.out.set (by intro y hy; simp at hy; have := H6.out; rcases hy with rfl | rfl <;> simp <;> omega) t5 h5
        have RD5 := hid rd5
        have Q5 := hid q5
        clear hW5 t5 x1 xf hbj rd5 q5
        refine hK.out _ _ (fun h => absurd h (by decide)) ?_
        clear hK
        try simp only [Go.Act.put, List.setIfInBounds_toArray, List.set_cons_zero, List.set_cons_succ]
        refine wpL_takeY (i := 12) (v := (.pointer (some ⟨b6, 7, none⟩))) (some 73) rfl rfl (by kernel_rfl) (by kernel_rfl) (by kernel_rfl) (by decide) (fun _ _ _ h => h) (Or.inl ⟨by rfl, fun w' hS => (by go_simp)⟩) (fun h => absurd h (by decide)) ?_
        try simp only [Go.Act.put, List.setIfInBounds_toArray, List.set_cons_zero, List.set_cons_succ]
        refine wpL_ready (rs := [13]) (by kernel_rfl) (by simp) (AllL.cons (o := { dst := none, op := Op.store 43 (Operand.tmp 73) (Operand.tmp 71), type := 0, pos := _, after := #[{ on := 12, ground := Ground.data }, { on := 9, ground := Ground.data }, { on := 11, ground := Ground.chain }, { on := 0, ground := Ground.phase }, { on := 1, ground := Ground.phase }, { on := 2, ground := Ground.phase }, { on := 3, ground := Ground.phase }, { on := 4, ground := Ground.phase }, { on := 5, ground := Ground.phase }, { on := 6, ground := Ground.phase }, { on := 7, ground := Ground.phase }, { on := 8, ground := Ground.phase }, { on := 9, ground := Ground.phase }, { on := 10, ground := Ground.phase }, { on := 11, ground := Ground.phase }], guard := none }) rfl (fun K' hK => ?_) AllL.nil)
        rw [if_pos (by rfl)]
        have x7 := cell_at (j := 7) h5 rfl
        have xf := froz_at h5
        go_simp
        obtain ⟨W6, hW6⟩ : ∃ W6, W6 = W5.setCell ⟨b6, 7, none⟩ (.slice a4 m4 c4) := ⟨_, rfl⟩
        have h6 := bset h5 (i := 7) (.slice a4 m4 c4)
        have t6 : Touch [b6] W5 W6 := by rw [hW6]; exact (Touch.refl _ _).setCell (Or.inl (by simp)) _
        rw [← hW6] at h6 ⊢
        simp only [List.setIfInBounds_toArray, List.set_cons_succ, List.set_cons_zero] at h6
        have rd6 := RD5.out.kbox t6 h5 (by decide)
        have q6 := Q5.out.set (by intro y hy; simp at hy; have := H6.out; rcases hy with rfl | rfl <;> simp <;> omega) t6 h6
        clear hW6 t6 x7 xf
        refine hK.out _ _ (fun h => absurd h (by decide)) ?_
        clear hK
        try simp only [Go.Act.put, List.setIfInBounds_toArray, List.set_cons_zero, List.set_cons_succ]
        refine wpL_done (by kernel_rfl) ?_ _
        have hbj := q6.at_ (k := w.heap.size + 1) (cs := jz) (t := 45) (by simp)
        have RD6 := hid rd6
        have Q6 := hid q6
        have e0 := cell_at (j := 0) h6 rfl
        have e1 := cell_at (j := 1) h6 rfl
        have e2 := cell_at (j := 2) h6 rfl
        have e3 := cell_at (j := 3) h6 rfl
        have e4 := cell_at (j := 4) h6 rfl
        have e5 := cell_at (j := 5) h6 rfl
        have e6 := cell_at (j := 6) h6 rfl
        have e7 := cell_at (j := 7) h6 rfl
        have HBJ := hid hbj
        clear rd6 q6 h6 h5 S9 S4
        unfold jz at hbj
        have d0 := cell_at (j := 0) hbj rfl
        have d1 := cell_at (j := 1) hbj rfl
        have d2 := cell_at (j := 2) hbj rfl
        have d3 := cell_at (j := 3) hbj rfl
        have d4 := cell_at (j := 4) hbj rfl
        have d5 := cell_at (j := 5) hbj rfl
        have d6 := cell_at (j := 6) hbj rfl
        have d7 := cell_at (j := 7) hbj rfl
        have df := froz_at hbj
        clear hbj
        go_wp2
        exact bodyPost_ret (v := .tuple #[.agg #[.int .i64 J.how, .int .i64 (numW N0 (p : Int) J.run), .bool J.bg, .int .i64 J.o.1, .int .i64 J.o.2.1, .int .i64 J.o.2.2.1, .int .i64 J.o.2.2.2, .slice a4 m4 c4], .int .i64 0]) (by simp [results, Tryz.results10, go_sem, d0, d1, d2, d3, d4, d5, d6, d7]) rfl ⟨_, rfl, ⟨RD6.out.kbox (((((((((Touch.refl _ _).setCell (Or.inl (by simp)) _).setCell (Or.inl (by simp)) _).setCell (Or.inl (by simp)) _).setCell (Or.inl (by simp)) _).setCell (Or.inl (by simp)) _).setCell (Or.inl (by simp)) _).setCell (Or.inl (by simp)) _).setCell (Or.inl (by simp)) _) HBJ.out (by decide), _, _, _, rfl⟩, HFX.out _ _ HU2.out (Q6.out.out (k := w.heap.size + 1) (cs := jz) (t := 45) (by simp) (((((((((Touch.refl _ _).setCell (Or.inl (by simp)) _).setCell (Or.inl (by simp)) _).setCell (Or.inl (by simp)) _).setCell (Or.inl (by simp)) _).setCell (Or.inl (by simp)) _).setCell (Or.inl (by simp)) _).setCell (Or.inl (by simp)) _).setCell (Or.inl (by simp)) _))⟩
      · have hbt : bb = false := HBB.out.trans (decide_eq_false hh)
        subst hbt
        clear HBB
        have HFX : Hid (∀ U' w3, U'.map Gu.X = L2 → Hr w F0 w3 s (.slice (some ⟨r, off, none⟩) N0 c) mw mc U' n (wmap l) G (M + 1) → HqE w w3 s F0 L2 n G (M + 1)) := hid (fun U' w3 e q => HFI.out U' w3 e (by rw [if_neg hh]; exact q))
        have Q3 := Q2
        have R3 := HRD
        obtain ⟨W3, hW3⟩ : ∃ W3, W3 = Wc := ⟨_, rfl⟩
        rw [← hW3] at Q3 R3 ⊢
        clear hW3 Q2 HRD hh HFI cw d0
        go_upto_region 9 with fail
        have q3 := Q3.out.drew
        have r3 := R3.out.keep0 (Touch.refl [] W3).drew
        rw [HJB.out] at q3
        have hbj := q3.at_ (k := b6) (cs := #[.int .i64 J.how, .int .i64 J.run, .bool J.bg, .int .i64 J.o.1, .int .i64 J.o.2.1, .int .i64 J.o.2.2.1, .int .i64 J.o.2.2.2, .slice a2 m2 c2]) (t := 45) (by simp)
        have S9 := And.intro (cell_at (j := 1) (v := .int .i64 J.run) hbj rfl) (cell_at (j := 7) (v := .slice a2 m2 c2) hbj rfl)
        have QD := hid q3
        have RD := hid r3
        clear q3 r3 hbj Q3 R3
        refine wp_region_L (S := fun w' => w'.cell? ⟨b6, 1, none⟩ = some (.int .i64 J.run) ∧ w'.cell? ⟨b6, 7, none⟩ = some (.slice a2 m2 c2)) (st := 11) (by kernel_rfl) ?_
        refine wpL_take (i := 0) (v := (.pointer (some ⟨s, 0, none⟩))) (some 62) rfl rfl (by kernel_rfl) (by kernel_rfl) (by kernel_rfl) (by kernel_rfl) (by kernel_rfl) (by decide) (fun _ _ _ h => h) (Or.inl ⟨by rfl, fun w' hS => (by go_simp)⟩) S9 ?_
        try simp only [Go.Act.put, List.setIfInBounds_toArray, List.set_cons_zero, List.set_cons_succ]
        refine wpL_take (i := 1) (v := (.int .i64 (p : Int))) (some 63) rfl rfl (by kernel_rfl) (by kernel_rfl) (by kernel_rfl) (by kernel_rfl) (by kernel_rfl) (by decide) (fun _ _ _ h => h) (Or.inl ⟨by rfl, fun w' hS => (by go_simp)⟩) S9 ?_
        try simp only [Go.Act.put, List.setIfInBounds_toArray, List.set_cons_zero, List.set_cons_succ]
        refine wpL_take (i := 2) (v := (.pointer (some ⟨b6, 1, none⟩))) (some 64) rfl rfl (by kernel_rfl) (by kernel_rfl) (by kernel_rfl) (by kernel_rfl) (by kernel_rfl) (by decide) (fun _ _ _ h => h) (Or.inl ⟨by rfl, fun w' hS => (by go_simp)⟩) S9 ?_
        try simp only [Go.Act.put, List.setIfInBounds_toArray, List.set_cons_zero, List.set_cons_succ]
        refine wpL_take (i := 3) (v := (.int .i64 J.run)) (some 65) rfl rfl (by kernel_rfl) (by kernel_rfl) (by kernel_rfl) (by kernel_rfl) (by kernel_rfl) (by decide) (fun _ _ _ h => h) (Or.inl ⟨by rfl, fun w' hS => (by have z0 := hS.1; go_simp)⟩) S9 ?_
        try simp only [Go.Act.put, List.setIfInBounds_toArray, List.set_cons_zero, List.set_cons_succ]
        refine wpL_takeY (i := 5) (v := (.pointer (some ⟨s, 0, none⟩))) (some 67) rfl rfl (by kernel_rfl) (by kernel_rfl) (by kernel_rfl) (by decide) (fun _ _ _ h => h) (Or.inl ⟨by rfl, fun w' hS => (by go_simp)⟩) (fun _ => S9) ?_
        try simp only [Go.Act.put, List.setIfInBounds_toArray, List.set_cons_zero, List.set_cons_succ]
        refine wpL_takeY (i := 6) (v := (.int .i64 (p : Int))) (some 68) rfl rfl (by kernel_rfl) (by kernel_rfl) (by kernel_rfl) (by decide) (fun _ _ _ h => h) (Or.inl ⟨by rfl, fun w' hS => (by go_simp)⟩) (fun _ => S9) ?_
        try simp only [Go.Act.put, List.setIfInBounds_toArray, List.set_cons_zero, List.set_cons_succ]
        refine wpL_take (i := 7) (v := (.pointer (some ⟨b6, 7, none⟩))) (some 69) rfl rfl (by kernel_rfl) (by kernel_rfl) (by kernel_rfl) (by kernel_rfl) (by kernel_rfl) (by decide) (fun _ _ _ h => h) (Or.inl ⟨by rfl, fun w' hS => (by go_simp)⟩) S9 ?_
        try simp only [Go.Act.put, List.setIfInBounds_toArray, List.set_cons_zero, List.set_cons_succ]
        refine wpL_take (i := 8) (v := (.slice a2 m2 c2)) (some 70) rfl rfl (by kernel_rfl) (by kernel_rfl) (by kernel_rfl) (by kernel_rfl) (by kernel_rfl) (by decide) (fun _ _ _ h => h) (Or.inl ⟨by rfl, fun w' hS => (by have z0 := hS.2; go_simp)⟩) S9 ?_
        try simp only [Go.Act.put, List.setIfInBounds_toArray, List.set_cons_zero, List.set_cons_succ]
        refine wpL_ready (rs := [4]) (by kernel_rfl) (by simp) (AllL.cons (o := { dst := some 66, op := Op.call { callee := Callee.value (Operand.func 42), args := #[Operand.tmp 62, Operand.tmp 63, Operand.tmp 65], argTypes := #[25, 3, 3] }, type := 3, pos := _, after := #[{ on := 0, ground := Ground.data }, { on := 1, ground := Ground.data }, { on := 3, ground := Ground.data }], guard := none }) rfl (fun K' hK => ?_) AllL.nil)
        rw [if_pos (by rfl)]
        go_simp
        refine (HNR.out _ _ _ _ _ QD.out).mono ?_
        rintro e w9 ⟨rfl, e9⟩
        rw [e9]
        clear e9 w9
        refine hK.out _ _ (fun _ => S9) ?_
        clear hK
        try simp only [Go.Act.put, List.setIfInBounds_toArray, List.set_cons_zero, List.set_cons_succ]
        refine wpL_take (i := 10) (v := (.pointer (some ⟨b6, 1, none⟩))) (some 72) rfl rfl (by kernel_rfl) (by kernel_rfl) (by kernel_rfl) (by kernel_rfl) (by kernel_rfl) (by decide) (fun _ _ _ h => h) (Or.inl ⟨by rfl, fun w' hS => (by go_simp)⟩) S9 ?_
        try simp only [Go.Act.put, List.setIfInBounds_toArray, List.set_cons_zero, List.set_cons_succ]
        refine wpL_ready (rs := [9]) (by kernel_rfl) (by simp) (AllL.cons (o := { dst := some 71, op := Op.call { callee := Callee.value (Operand.func 43), args := #[Operand.tmp 67, Operand.tmp 68, Operand.tmp 70], argTypes := #[25, 3, 43] }, type := 43, pos := _, after := #[{ on := 5, ground := Ground.data }, { on := 6, ground := Ground.data }, { on := 8, ground := Ground.data }, { on := 4, ground := Ground.chain }], guard := none }) rfl (fun K' hK => ?_) AllL.nil)
        rw [if_pos (by rfl)]
        go_simp
        refine (HNS.out _ _ _ _ _ QD.out RD.out).mono ?_
        rintro e w4 ⟨a4, m4, c4, rfl, rd4, q4⟩
        have hbj := q4.at_ (k := b6) (cs := #[.int .i64 J.how, .int .i64 J.run, .bool J.bg, .int .i64 J.o.1, .int .i64 J.o.2.1, .int .i64 J.o.2.2.1, .int .i64 J.o.2.2.2, .slice a2 m2 c2]) (t := 45) (by simp)
        have S4 := And.intro (cell_at (j := 1) (v := .int .i64 J.run) hbj rfl) (cell_at (j := 7) (v := .slice a2 m2 c2) hbj rfl)
        have RD4 := hid rd4
        have Q4 := hid q4
        clear rd4 q4
        refine hK.out _ _ (fun _ => S4) ?_
        clear hK
        try simp only [Go.Act.put, List.setIfInBounds_toArray, List.set_cons_zero, List.set_cons_succ]
        refine wpL_ready (rs := [11]) (by kernel_rfl) (by simp) (AllL.cons (o := { dst := none, op := Op.store 3 (Operand.tmp 72) (Operand.tmp 66), type := 0, pos := _, after := #[{ on := 10, ground := Ground.data }, { on := 4, ground := Ground.data }, { on := 9, ground := Ground.chain }, { on := 0, ground := Ground.phase }, { on := 1, ground := Ground.phase }, { on := 2, ground := Ground.phase }, { on := 3, ground := Ground.phase }, { on := 4, ground := Ground.phase }, { on := 5, ground := Ground.textOnly Departure.lateStores }, { on := 6, ground := Ground.textOnly Departure.lateStores }, { on := 7, ground := Ground.phase }, { on := 8, ground := Ground.phase }, { on := 9, ground := Ground.textOnly Departure.lateStoresUnsure }], guard := none }) rfl (fun K' hK => ?_) AllL.nil)
        rw [if_pos (by rfl)]
        have x1 := S4.1
        have xf := froz_at hbj
        go_simp
        obtain ⟨W5, hW5⟩ : ∃ W5, W5 = w4.setCell ⟨b6, 1, none⟩ (.int .i64 (numW N0 (p : Int) J.run)) := ⟨_, rfl⟩
        have h5 := bset hbj (i := 1) (.int .i64 (numW N0 (p : Int) J.run))
        have t5 : Touch [b6] w4 W5 := by rw [hW5]; exact (Touch.refl _ _).setCell (Or.inl (by simp)) _
        rw [← hW5] at h5 ⊢
        simp only [List.setIfInBounds_toArray, List.set_cons_succ, List.set_cons_zero] at h5
        have rd5 := RD4.out.kbox t5 hbj (by decide)
        have q5 := Q4.out.set (by intro y hy; simp at hy; have := H6.out; rcases hy with rfl | rfl <;> simp <;> omega) t5 h5
        have RD5 := hid rd5
        have Q5 := hid q5
        clear hW5 t5 x1 xf hbj rd5 q5
        refine hK.out _ _ (fun h => absurd h (by decide)) ?_
        clear hK
        try simp only [Go.Act.put, List.setIfInBounds_toArray, List.set_cons_zero, List.set_cons_succ]
        refine wpL_takeY (i := 12) (v := (.pointer (some ⟨b6, 7, none⟩))) (some 73) rfl rfl (by kernel_rfl) (by kernel_rfl) (by kernel_rfl) (by decide) (fun _ _ _ h => h) (Or.inl ⟨by rfl, fun w' hS => (by go_simp)⟩) (fun h => absurd h (by decide)) ?_
        try simp only [Go.Act.put, List.setIfInBounds_toArray, List.set_cons_zero, List.set_cons_succ]
        refine wpL_ready (rs := [13]) (by kernel_rfl) (by simp) (AllL.cons (o := { dst := none, op := Op.store 43 (Operand.tmp 73) (Operand.tmp 71), type := 0, pos := _, after := #[{ on := 12, ground := Ground.data }, { on := 9, ground := Ground.data }, { on := 11, ground := Ground.chain }, { on := 0, ground := Ground.phase }, { on := 1, ground := Ground.phase }, { on := 2, ground := Ground.phase }, { on := 3, ground := Ground.phase }, { on := 4, ground := Ground.phase }, { on := 5, ground := Ground.phase }, { on := 6, ground := Ground.phase }, { on := 7, ground := Ground.phase }, { on := 8, ground := Ground.phase }, { on := 9, ground := Ground.phase }, { on := 10, ground := Ground.phase }, { on := 11, ground := Ground.phase }], guard := none }) rfl (fun K' hK => ?_) AllL.nil)
        rw [if_pos (by rfl)]
        have x7 := cell_at (j := 7) h5 rfl
        have xf := froz_at h5
        go_simp
        obtain ⟨W6, hW6⟩ : ∃ W6, W6 = W5.setCell ⟨b6, 7, none⟩ (.slice a4 m4 c4) := ⟨_, rfl⟩
        have h6 := bset h5 (i := 7) (.slice a4 m4 c4)
        have t6 : Touch [b6] W5 W6 := by rw [hW6]; exact (Touch.refl _ _).setCell (Or.inl (by simp)) _
        rw [← hW6] at h6 ⊢
        simp only [List.setIfInBounds_toArray, List.set_cons_succ, List.set_cons_zero] at h6
        have rd6 := RD5.out.kbox t6 h5 (by decide)
        have q6 := Q5.out.set (by intro y hy; simp at hy; have := H6.out; rcases hy with rfl | rfl <;> simp <;> omega) t6 h6
        clear hW6 t6 x7 xf
        refine hK.out _ _ (fun h => absurd h (by decide)) ?_
        clear hK
        try simp only [Go.Act.put, List.setIfInBounds_toArray, List.set_cons_zero, List.set_cons_succ]
        refine wpL_done (by kernel_rfl) ?_ _
        have hbj := q6.at_ (k := w.heap.size + 1) (cs := jz) (t := 45) (by simp)
        have RD6 := hid rd6
        have Q6 := hid q6
        have e0 := cell_at (j := 0) h6 rfl
        have e1 := cell_at (j := 1) h6 rfl
        have e2 := cell_at (j := 2) h6 rfl
        have e3 := cell_at (j := 3) h6 rfl
        have e4 := cell_at (j := 4) h6 rfl
        have e5 := cell_at (j := 5) h6 rfl
        have e6 := cell_at (j := 6) h6 rfl
        have e7 := cell_at (j := 7) h6 rfl
        have HBJ := hid hbj
        clear rd6 q6 h6 h5 S9 S4
        unfold jz at hbj
        have d0 := cell_at (j := 0) hbj rfl
        have d1 := cell_at (j := 1) hbj rfl
        have d2 := cell_at (j := 2) hbj rfl
        have d3 := cell_at (j := 3) hbj rfl
        have d4 := cell_at (j := 4) hbj rfl
        have d5 := cell_at (j := 5) hbj rfl
        have d6 := cell_at (j := 6) hbj rfl
        have d7 := cell_at (j := 7) hbj rfl
        have df := froz_at hbj
        clear hbj
        go_wp2
        exact bodyPost_ret (v := .tuple #[.agg #[.int .i64 J.how, .int .i64 (numW N0 (p : Int) J.run), .bool J.bg, .int .i64 J.o.1, .int .i64 J.o.2.1, .int .i64 J.o.2.2.1, .int .i64 J.o.2.2.2, .slice a4 m4 c4], .int .i64 0]) (by simp [results, Tryz.results10, go_sem, d0, d1, d2, d3, d4, d5, d6, d7]) rfl ⟨_, rfl, ⟨RD6.out.kbox (((((((((Touch.refl _ _).setCell (Or.inl (by simp)) _).setCell (Or.inl (by simp)) _).setCell (Or.inl (by simp)) _).setCell (Or.inl (by simp)) _).setCell (Or.inl (by simp)) _).setCell (Or.inl (by simp)) _).setCell (Or.inl (by simp)) _).setCell (Or.inl (by simp)) _) HBJ.out (by decide), _, _, _, rfl⟩, HFX.out _ _ HU2.out (Q6.out.out (k := w.heap.size + 1) (cs := jz) (t := 45) (by simp) (((((((((Touch.refl _ _).setCell (Or.inl (by simp)) _).setCell (Or.inl (by simp)) _).setCell (Or.inl (by simp)) _).setCell (Or.inl (by simp)) _).setCell (Or.inl (by simp)) _).setCell (Or.inl (by simp)) _).setCell (Or.inl (by simp)) _).setCell (Or.inl (by simp)) _))⟩
end
end Go.Proofs.YtllchnancjgijaaGreat
/- The law's awake: a key of two shards leads; no conditions. -/
namespace Go.Proofs.YtllchnancjgijaaGreat
open Go.RowKit Go.Maps Go.ChangeMaps
set_option maxRecDepth 100000
set_option linter.unusedVariables false
set_option linter.unusedSimpArgs false
theorem okcA : Me.okC cA = true := by decide
theorem w7A : W7 cA := ⟨by decide, by decide, by decide, by decide⟩
theorem sjA (p : Nat) : sjE (List.replicate 2 (G0 cA 0 [])) 0 [] 0 kA 1 0 = 0 := by kernel_rfl
theorem numA {p : Nat} (hp : p < 2) : (numW 2 (p : Int) 1 == 1) = decide (p = 0) ∧ (numW 2 (p : Int) 1 == 2) = decide (p = 1) := by
  match p, hp with
  | 0, _ => exact ⟨by kernel_rfl, by kernel_rfl⟩
  | 1, _ => exact ⟨by kernel_rfl, by kernel_rfl⟩
set_option maxHeartbeats 4000000 in
theorem sawake_ (w : World) : Calls Tryz.prog 8 #[] w fun e w' => e = .returned (.bool true) ∧ Touch [] w w' := by
  have HN : Hid (Calls Tryz.prog 6 #[.int .i64 2, .agg #[.int .i64 5, .int .i64 0, .int .i64 0, .int .i64 2, .int .i64 2, .int .i64 1, .int .i64 0]] w fun e w' => ∃ s F, e = .returned (.tuple #[.pointer (some ⟨s, 0, none⟩), .int .i64 0]) ∧ Hq w' s F (List.replicate 2 (G0 cA 0 [])) 0 [] 0 ∧ Touch [] w w' ∧ ∀ k, k ∈ F → w.heap.size ≤ k) := hid (snew_ 2 cA w (by omega) (by omega) okcA w7A)
  obtain ⟨p, hp⟩ : ∃ p, p = Ky.plc kA 2 := ⟨_, rfl⟩
  have hp2 : p < 2 := by rw [hp]; exact Ky.plc_lt kA (by omega)
  have HJ : Hid (∀ w1 s F, Hq w1 s F (List.replicate 2 (G0 cA 0 [])) 0 [] 0 → Touch [] w w1 → (∀ k, k ∈ F → w.heap.size ≤ k) → Calls Tryz.prog 10 #[.pointer (some ⟨s, 0, none⟩), .int .i64 0, .agg #[.int .u16 0, .string ⟨#[97]⟩], .int .i64 1, .int .i64 0] w1 fun e w2 => ∃ bg o1 o2 o3 o4 a m c, e = .returned (.tuple #[.agg #[.int .i64 5, .int .i64 (numW 2 (p : Int) 1), .bool bg, .int .i64 o1, .int .i64 o2, .int .i64 o3, .int .i64 o4, .slice a m c], .int .i64 0]) ∧ Touch [] w w2 ∧ ∃ a c, w2.cell? ⟨s, 0, none⟩ = some (.slice a 2 c)) := hid (fun w1 s F h T hf => by
    have hl : (List.replicate 2 (G0 cA 0 [])).length = 2 := rfl
    have hX : (List.replicate 2 (G0 cA 0 []))[Ky.plc kA (List.replicate 2 (G0 cA 0 [])).length]? = some (G0 cA 0 []) := by
      rw [hl, ← hp]
      match p, hp2 with
      | 0, _ => rfl
      | 1, _ => rfl
    refine (sjoin_ h (by omega) 0 kA okA (by rfl) (by rfl) (sjA 0) hX).mono ?_
    rintro e w2 ⟨v, e1, ⟨e2, a, m, c, rfl⟩, F', q1, q2, q3⟩
    obtain ⟨h5, h1⟩ := awA2
    rw [hl, ← hp] at e1
    unfold jv jcs sjJ at e1
    rw [h5, h1] at e1
    refine ⟨_, _, _, _, _, a, m, c, e1, T.trans q2 (fun i hi => Or.inr (hf i hi)), ?_⟩
    · obtain ⟨gv, mw, mc, U, rfl, hU, hx, hs⟩ := q1
      obtain ⟨a', c', rfl⟩ := hx.row
      have hUl : U.length = 2 := by rw [← List.length_map (f := Gu.X), hU, List.length_set]; rfl
      have := hx.cs.c0
      rw [hUl] at this
      exact ⟨a', c', this⟩)
  have HL : Hid (∀ w2 s a c, w2.cell? ⟨s, 0, none⟩ = some (.slice a 2 c) → Calls Tryz.prog 23 #[.pointer (some ⟨s, 0, none⟩)] w2 fun e w' => e = .returned (.int .i64 2) ∧ w' = w2) := hid (fun w2 s a c h => slen_ h)
  obtain ⟨n1, n2⟩ := numA hp2
  clear hp
  generalize numW 2 (p : Int) 1 = q at *
  have hc : p = 0 ∨ p = 1 := by omega
  go_enter Tryz.func8, Tryz.ntmps8
  go_upto_region 5 with (first
    | (go_at_call 6; refine HN.out.mono ?_; rintro e w1 ⟨s, F, rfl, h1⟩; have H1 := hid h1; clear h1)
    | (go_at_call 10; refine (HJ.out _ _ _ H1.out.1 H1.out.2.1 H1.out.2.2).mono ?_; rintro e w2 ⟨bg, o1, o2, o3, o4, a, m, c, rfl, t2, a', c', h2⟩; have T2 := hid t2; clear t2))
  obtain ⟨W3, hW3⟩ : ∃ W3, W3 = w2.alloc (.cells #[.int .i64 5, .int .i64 q, .bool bg, .int .i64 o1, .int .i64 o2, .int .i64 o3, .int .i64 o4, .slice a m c] 45) := ⟨_, rfl⟩
  have hb := heap_alloc_new w2 (.cells #[.int .i64 5, .int .i64 q, .bool bg, .int .i64 o1, .int .i64 o2, .int .i64 o3, .int .i64 o4, .slice a m c] 45)
  have t3 : Touch [] w2 W3 := by rw [hW3]; exact (Touch.refl _ _).alloc _
  rw [← hW3] at hb ⊢
  have LN := hid (HL.out _ _ _ _ (cell_touch h2 t3))
  have T3 := hid (T2.out.trans' t3)
  have j0 := cell_at (j := 0) hb rfl
  have j1 := cell_at (j := 1) hb rfl
  clear hW3 hb t3 h2 H1 HN HJ HL hp2
  rcases hc with rfl | rfl
  · rw [decide_eq_true rfl] at n1
    clear n2
    go_wp2_with (go_at_call 23; refine LN.out.mono ?_; rintro e w4 ⟨rfl, e4⟩; rw [e4]; clear e4 w4)
    go_ret
    exact ⟨rfl, T3.out⟩
  · rw [decide_eq_false (by decide)] at n1
    rw [decide_eq_true rfl] at n2
    go_wp2_with (go_at_call 23; refine LN.out.mono ?_; rintro e w4 ⟨rfl, e4⟩; rw [e4]; clear e4 w4)
    go_ret
    exact ⟨rfl, T3.out⟩
end Go.Proofs.YtllchnancjgijaaGreat
/- An act, a slice of acts and a configuration as arguments, opened; no conditions. -/
namespace Go.Proofs.YtllchnancjgijaaGreat
open Go.ChangeShapes Go.WideShapes Go.ChangeAt Go.RowKit
set_option linter.unusedVariables false
theorem cl_yU16 : Tryz.prog.cellsOf 33 = 1 := by kernel_rfl
theorem cl_9 : Tryz.prog.cellsOf 9 = 1 := by kernel_rfl
theorem cl_3 : Tryz.prog.cellsOf 3 = 1 := by kernel_rfl
theorem cl_2 : Tryz.prog.cellsOf 2 = 1 := by kernel_rfl
theorem cl_KyA : Tryz.prog.cellsOf 35 = 2 := by kernel_rfl
structure KyA where
  sp : Int
  nm : ByteArray
def KyA.ok (a : KyA) : Prop := (Lit.int .u16 a.sp).wf = true ∧ a.nm.size ≤ maxLen
def KyA.cs (a : KyA) : Array Value := #[.int .u16 a.sp, .string a.nm]
set_option maxRecDepth 100000 in
theorem fields_KyA {H : Type} {enc : TypeId × Value → H} {W : World} {base fuel : Nat} {spare : Nat → Bool} {held : Bool} {cs : List Value} {x : DataW H × List MemPlace} (h : DataW.trod enc Tryz.prog W base spare held fuel 35 cs = some x) (hl : cs.length = 2) :
    ∃ a : KyA, cs = a.cs.toList ∧ a.ok := by
  obtain ⟨ys, k, hk, hxy, _, hyl, hfe⟩ := DataW.trod_struct Tryz.underlying35 h
  match cs, hl with
  | [v0, v1], _ =>
    have hy : ys.length = 2 := hyl
    match ys, hy with
    | [y0, y1], _ =>
      have g0 := hfe 0 _ rfl
      have g1 := hfe 1 _ rfl
      simp [cl_9, cl_yU16] at g0 g1
      obtain ⟨A0, e0, _, w0⟩ := DataW.trod_int Tryz.underlying33 g0
      obtain ⟨A1, e1, _, w1⟩ := DataW.trod_string Tryz.underlying9 g1
      simp only [List.cons.injEq, and_true] at e0 e1
      subst e0 e1
      exact ⟨⟨A0, A1⟩, rfl, w0, w1⟩
theorem cl_FaA : Tryz.prog.cellsOf 37 = 3 := by kernel_rfl
structure FaA where
  kd : Int
  cd : Int
  rn : Int
def FaA.ok (a : FaA) : Prop := W64 a.kd ∧ W64 a.cd ∧ W64 a.rn
def FaA.cs (a : FaA) : Array Value := #[.int .i64 a.kd, .int .i64 a.cd, .int .i64 a.rn]
set_option maxRecDepth 100000 in
theorem fields_FaA {H : Type} {enc : TypeId × Value → H} {W : World} {base fuel : Nat} {spare : Nat → Bool} {held : Bool} {cs : List Value} {x : DataW H × List MemPlace} (h : DataW.trod enc Tryz.prog W base spare held fuel 37 cs = some x) (hl : cs.length = 3) :
    ∃ a : FaA, cs = a.cs.toList ∧ a.ok := by
  obtain ⟨ys, k, hk, hxy, _, hyl, hfe⟩ := DataW.trod_struct Tryz.underlying37 h
  match cs, hl with
  | [v0, v1, v2], _ =>
    have hy : ys.length = 3 := hyl
    match ys, hy with
    | [y0, y1, y2], _ =>
      have g0 := hfe 0 _ rfl
      have g1 := hfe 1 _ rfl
      have g2 := hfe 2 _ rfl
      simp [cl_3] at g0 g1 g2
      obtain ⟨A0, e0, _, w0⟩ := DataW.trod_int Tryz.underlying3 g0
      obtain ⟨A1, e1, _, w1⟩ := DataW.trod_int Tryz.underlying3 g1
      obtain ⟨A2, e2, _, w2⟩ := DataW.trod_int Tryz.underlying3 g2
      simp only [List.cons.injEq, and_true] at e0 e1 e2
      subst e0 e1 e2
      exact ⟨⟨A0, A1, A2⟩, rfl, w0, w1, w2⟩
theorem cl_OuA : Tryz.prog.cellsOf 39 = 4 := by kernel_rfl
structure OuA where
  va : Int
  fl : FaA
def OuA.ok (a : OuA) : Prop := W64 a.va ∧ FaA.ok a.fl
def OuA.cs (a : OuA) : Array Value := #[.int .i64 a.va, .int .i64 a.fl.kd, .int .i64 a.fl.cd, .int .i64 a.fl.rn]
set_option maxRecDepth 100000 in
theorem fields_OuA {H : Type} {enc : TypeId × Value → H} {W : World} {base fuel : Nat} {spare : Nat → Bool} {held : Bool} {cs : List Value} {x : DataW H × List MemPlace} (h : DataW.trod enc Tryz.prog W base spare held fuel 39 cs = some x) (hl : cs.length = 4) :
    ∃ a : OuA, cs = a.cs.toList ∧ a.ok := by
  obtain ⟨ys, k, hk, hxy, _, hyl, hfe⟩ := DataW.trod_struct Tryz.underlying39 h
  match cs, hl with
  | [v0, v1, v2, v3], _ =>
    have hy : ys.length = 2 := hyl
    match ys, hy with
    | [y0, y1], _ =>
      have g0 := hfe 0 _ rfl
      have g1 := hfe 1 _ rfl
      simp [cl_2, cl_FaA] at g0 g1
      obtain ⟨A0, e0, _, w0⟩ := DataW.trod_int Tryz.underlying2 g0
      obtain ⟨A1, b1, w1⟩ := fields_FaA g1 rfl
      simp only [FaA.cs, List.cons.injEq, and_true] at b1
      obtain ⟨e1, e2, e3⟩ := b1
      simp only [List.cons.injEq, and_true] at e0
      subst e0 e1 e2 e3
      exact ⟨⟨A0, A1⟩, rfl, w0, w1⟩
theorem cl_ActG : Tryz.prog.cellsOf 41 = 12 := by kernel_rfl
structure ActG where
  kd : Int
  cl : Int
  tk : Int
  rn : Int
  st : Int
  od : Int
  k : KyA
  o : OuA
def ActG.ok (a : ActG) : Prop := W64 a.kd ∧ W64 a.cl ∧ W64 a.tk ∧ W64 a.rn ∧ W64 a.st ∧ W64 a.od ∧ KyA.ok a.k ∧ OuA.ok a.o
def ActG.cs (a : ActG) : Array Value := #[.int .i64 a.kd, .int .i64 a.cl, .int .i64 a.tk, .int .i64 a.rn, .int .i64 a.st, .int .i64 a.od, .int .u16 a.k.sp, .string a.k.nm, .int .i64 a.o.va, .int .i64 a.o.fl.kd, .int .i64 a.o.fl.cd, .int .i64 a.o.fl.rn]
set_option maxRecDepth 100000 in
theorem fields_ActG {H : Type} {enc : TypeId × Value → H} {W : World} {base fuel : Nat} {spare : Nat → Bool} {held : Bool} {cs : List Value} {x : DataW H × List MemPlace} (h : DataW.trod enc Tryz.prog W base spare held fuel 41 cs = some x) (hl : cs.length = 12) :
    ∃ a : ActG, cs = a.cs.toList ∧ a.ok := by
  obtain ⟨ys, k, hk, hxy, _, hyl, hfe⟩ := DataW.trod_struct Tryz.underlying41 h
  match cs, hl with
  | [v0, v1, v2, v3, v4, v5, v6, v7, v8, v9, v10, v11], _ =>
    have hy : ys.length = 8 := hyl
    match ys, hy with
    | [y0, y1, y2, y3, y4, y5, y6, y7], _ =>
      have g0 := hfe 0 _ rfl
      have g1 := hfe 1 _ rfl
      have g2 := hfe 2 _ rfl
      have g3 := hfe 3 _ rfl
      have g4 := hfe 4 _ rfl
      have g5 := hfe 5 _ rfl
      have g6 := hfe 6 _ rfl
      have g7 := hfe 7 _ rfl
      simp [cl_2, cl_3, cl_KyA, cl_OuA] at g0 g1 g2 g3 g4 g5 g6 g7
      obtain ⟨A0, e0, _, w0⟩ := DataW.trod_int Tryz.underlying3 g0
      obtain ⟨A1, e1, _, w1⟩ := DataW.trod_int Tryz.underlying3 g1
      obtain ⟨A2, e2, _, w2⟩ := DataW.trod_int Tryz.underlying3 g2
      obtain ⟨A3, e3, _, w3⟩ := DataW.trod_int Tryz.underlying3 g3
      obtain ⟨A4, e4, _, w4⟩ := DataW.trod_int Tryz.underlying2 g4
      obtain ⟨A5, e5, _, w5⟩ := DataW.trod_int Tryz.underlying2 g5
      obtain ⟨A6, b6, w6⟩ := fields_KyA g6 rfl
      simp only [KyA.cs, List.cons.injEq, and_true] at b6
      obtain ⟨e6, e7⟩ := b6
      obtain ⟨A7, b7, w7⟩ := fields_OuA g7 rfl
      simp only [OuA.cs, List.cons.injEq, and_true] at b7
      obtain ⟨e8, e9, e10, e11⟩ := b7
      simp only [List.cons.injEq, and_true] at e0 e1 e2 e3 e4 e5
      subst e0 e1 e2 e3 e4 e5 e6 e7 e8 e9 e10 e11
      exact ⟨⟨A0, A1, A2, A3, A4, A5, A6, A7⟩, rfl, w0, w1, w2, w3, w4, w5, w6, w7⟩
set_option maxRecDepth 100000 in
theorem open_ActG {H : Type} {enc : TypeId × Value → H} {W : World} {b0 : Nat} {v : Value} {d : DataW H} {p : List MemPlace} (hv : Value.okWide Tryz.prog W .any b0 41 v) (h : DataW.Trod enc Tryz.prog W 0 (fun _ => true) true 41 v d p) : ∃ a : ActG, v = .agg a.cs ∧ a.ok := by
  obtain ⟨cs, rfl, hs⟩ := okWide_struct Tryz.underlying41 hv
  obtain ⟨fuel, hf⟩ := h
  rw [cl_ActG] at hs
  obtain ⟨cl⟩ := cs
  have hs' : cl.length = 12 := by simpa using hs
  obtain ⟨a, e, wa⟩ := fields_ActG (cs := cl) (by simpa [Value.cells] using hf) hs'
  subst e
  exact ⟨a, rfl, wa⟩
set_option maxRecDepth 100000 in
theorem laidOut : laidOutB Tryz.prog = true := by kernel_rfl
def KyA.key (a : KyA) : K := (a.sp, a.nm)
def OuA.out (a : OuA) : O := (a.va, a.fl.kd, a.fl.cd, a.fl.rn)
end Go.Proofs.YtllchnancjgijaaGreat
