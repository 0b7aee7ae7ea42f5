/- Of every number, key and outcome a nil memo answers as the document says: the walk of the law; no conditions. -/
import Derived.Test.YtopepalpmkeffaaNew
namespace Go.Proofs.Ytopepalpmkeffaa
open Go.RowKit Go.Sort Go.Maps Go.ChangeMaps Go.WideMaps
set_option linter.unusedVariables false
set_option linter.unusedSimpArgs false
def z7x : Obj := .cells #[.int .u16 0, .string ⟨#[]⟩, .int .i64 0, .int .i64 0, .int .i64 0, .int .i64 0, .int .i64 0] 56
structure Z7 (w : World) (r : Nat) : Prop where
  z0 : w.cell? ⟨r, 0, none⟩ = some (.int .u16 0)
  z1 : w.cell? ⟨r, 1, none⟩ = some (.string ⟨#[]⟩)
  z2 : w.cell? ⟨r, 2, none⟩ = some (.int .i64 0)
  z3 : w.cell? ⟨r, 3, none⟩ = some (.int .i64 0)
  z4 : w.cell? ⟨r, 4, none⟩ = some (.int .i64 0)
  z5 : w.cell? ⟨r, 5, none⟩ = some (.int .i64 0)
  z6 : w.cell? ⟨r, 6, none⟩ = some (.int .i64 0)
theorem Z7.mk' {w : World} {r : Nat} (h : w.heap[r]? = some z7x) : Z7 w r := by
  unfold z7x at h
  constructor <;> simp [World.cell?, h]
theorem eq56z (w : World) : (binOp .eql 56 (.agg #[.int .u16 0, .string ⟨#[]⟩, .int .i64 0, .int .i64 0, .int .i64 0, .int .i64 0, .int .i64 0]) (.agg #[.int .u16 0, .string ⟨#[]⟩, .int .i64 0, .int .i64 0, .int .i64 0, .int .i64 0, .int .i64 0])).run Try.prog w = .ok (.bool true) w := by go_simp
theorem eq23z (w : World) : (binOp .eql 23 (.agg #[.int .i64 0, .int .i64 0, .int .i64 0, .int .i64 0, .int .i64 0, .int .i64 0, .int .i64 0]) (.agg #[.int .i64 0, .int .i64 0, .int .i64 0, .int .i64 0, .int .i64 0, .int .i64 0, .int .i64 0])).run Try.prog w = .ok (.bool true) w := by go_simp
set_option maxHeartbeats 4000000 in
theorem law6 (w : World) (n : Int) (k : K) (x : O) : Calls Try.prog 6 #[.int .i64 n, kv k, ov x] w fun e w' => e = .returned (.bool true) ∧ Touch [] w w' := by
  obtain ⟨V, hV⟩ : ∃ V, V = (w.alloc (bx k)).alloc (obx x) := ⟨_, rfl⟩
  have KV : KpV w k x V := by rw [hV]; exact KpV.mk' w k x
  have TV := hid KV.t
  have HK : Hid (∀ w2, Touch [] V w2 → (w2.cell? ⟨w.heap.size, 0, none⟩ = some (.int .u16 k.1) ∧ w2.cell? ⟨w.heap.size, 1, none⟩ = some (.string k.2)) ∧ w2.cell? ⟨w.heap.size + 1, 0, none⟩ = some (.int .i64 x.1) ∧ w2.cell? ⟨w.heap.size + 1, 1, none⟩ = some (.int .i64 x.2.1) ∧ w2.cell? ⟨w.heap.size + 1, 2, none⟩ = some (.int .i64 x.2.2.1) ∧ w2.cell? ⟨w.heap.size + 1, 3, none⟩ = some (.int .i64 x.2.2.2)) := fun w2 t => KV.cells t (fun _ e => by cases e)
  have HA : Hid (∀ w2 w' : World, Touch [] (w2.alloc zbx) w' → Z6 w' w2.heap.size) := fun w2 w' t => Z6.mk' (t.keep (heap_alloc_new w2 zbx) (by simp))
  have HB : Hid (∀ w2 w' : World, Touch [] (w2.alloc z7x) w' → Z7 w' w2.heap.size) := fun w2 w' t => Z7.mk' (t.keep (heap_alloc_new w2 z7x) (by simp))
  have H21 := hid (fun w => look21_nil w n k)
  have H22 := hid (fun w => tell22_nil w n k)
  have H18 := hid (fun w => keep18_nil w n k x)
  have H23 := hid (fun w => sweep23_nil w n)
  have H24 := hid (fun w => get24_nil w k)
  have H25 := hid (fun w => drop25_nil w k)
  have e75 := fun w => eqs w 0 0 0 0 0 0
  have e56 := eq56z
  have e23 := eq23z
  have h27 := hid config27_nil
  unfold cv cz at h27
  simp only at h27
  unfold sv oz at H21 H22
  unfold nvz at H24
  obtain ⟨⟨b0, b1⟩, o0, o1, o2, o3⟩ := HK.out V (Touch.refl _ _)
  clear KV
  unfold kv ov at *
  unfold zbx at HA
  unfold z7x at HB
  go_enter Try.func6, Try.ntmps6
  go_upto_region 2 with fail
  unfold bx obx at hV
  rw [← hV]
  clear hV
  go_wp2_with (first
    | (go_at_call 21; refine (H21.out _).mono ?_; rintro e w2 ⟨rfl, t2⟩; have T2 := hid t2; clear b0 b1 o0 o1 o2 o3; obtain ⟨⟨b0, b1⟩, o0, o1, o2, o3⟩ := HK.out (w2.alloc (.cells #[.int .i64 0, .int .i64 0, .int .i64 0, .int .i64 0, .int .i64 0, .int .i64 0] 75)) (t2.alloc _); clear t2)
    | (go_at_call 22; refine (H22.out _).mono ?_; rintro e w3 ⟨rfl, t3⟩; have T3 := hid t3; have S3 := hid ((T2.out.alloc _).trans' t3); clear b0 b1 o0 o1 o2 o3; obtain ⟨⟨b0, b1⟩, o0, o1, o2, o3⟩ := HK.out (w3.alloc (.cells #[.int .i64 0, .int .i64 0, .int .i64 0, .int .i64 0, .int .i64 0, .int .i64 0] 75)) (S3.out.alloc _); clear t3)
    | (go_at_call 18; refine (H18.out _).mono ?_; rintro e w4 ⟨rfl, t4⟩; have T4 := hid t4; have S4 := hid ((S3.out.alloc _).trans' t4); clear b0 b1 o0 o1 o2 o3; obtain ⟨⟨b0, b1⟩, o0, o1, o2, o3⟩ := HK.out w4 S4.out; clear t4)
    | (go_at_call 23; refine (H23.out _).mono ?_; rintro e w9 ⟨rfl, e9⟩; rw [e9]; clear e9 w9)
    | (go_at_call 24; refine (H24.out _).mono ?_; rintro e w5 ⟨rfl, t5⟩; have T5 := hid t5; have S5 := hid (S4.out.trans' t5); clear t5 b0 b1 o0 o1 o2 o3)
    | (go_at_call 8; refine (awake8 _).mono ?_; rintro e w6 ⟨rfl, t6⟩; have T6 := hid t6; have S6 := hid ((S5.out.alloc _).trans' t6); obtain ⟨⟨b0, b1⟩, o0, o1, o2, o3⟩ := HK.out w6 S6.out; clear o0 o1 o2 o3; obtain ⟨p0, p1, p2, p3, p4, p5, p6⟩ := HB.out _ _ t6; obtain ⟨q0, q1, q2, q3, q4, q5, _, _, _, _, _, _⟩ := HA.out _ _ (T3.out.trans' (((Touch.refl _ _).alloc _).trans' (T4.out.trans' (T5.out.trans' (((Touch.refl _ _).alloc _).trans' t6))))); obtain ⟨r0, r1, r2, r3, r4, r5, _, _, _, _, _, _⟩ := HA.out _ _ (T4.out.trans' (T5.out.trans' (((Touch.refl _ _).alloc _).trans' t6))); clear t6)
    | (go_at_call 25; refine (H25.out _).mono ?_; rintro e w7 ⟨rfl, t7⟩; have S7 := hid (S6.out.trans' t7); clear t7 b0 b1 p0 p1 p2 p3 p4 p5 p6 q0 q1 q2 q3 q4 q5 r0 r1 r2 r3 r4 r5)
    | (go_at_call 20; refine (all20_nil _).mono ?_; rintro e w8 ⟨rfl, t8⟩; have S8 := hid (S7.out.trans' t8); clear t8)
    | (go_at_call 19; refine (len19_nil _).mono ?_; rintro e w9 ⟨rfl, e9⟩; rw [e9]; clear e9 w9)
    | (go_at_call 26; refine (now26_nil _).mono ?_; rintro e w9 ⟨rfl, e9⟩; rw [e9]; clear e9 w9)
    | (go_at_call 27; refine (h27.out _).mono ?_; rintro e wa ⟨rfl, ta⟩; have SA := hid (S8.out.trans' ta); clear ta)
    | (go_at_call 28; refine (clone28_nil _).mono ?_; rintro e w9 ⟨rfl, e9⟩; rw [e9]; clear e9 w9))
  go_ret
  exact ⟨rfl, TV.out.trans' SA.out⟩
end Go.Proofs.Ytopepalpmkeffaa
