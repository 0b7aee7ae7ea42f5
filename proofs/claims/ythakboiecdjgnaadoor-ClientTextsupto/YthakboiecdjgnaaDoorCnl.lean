/- What each law asks first, and the calls of a nil client; the condition is that the table holds what the start lays. -/
import Derived.Test.YthakboiecdjgnaaDoorCne
namespace Go.Proofs.YthakboiecdjgnaaDoor.Ci
open Go.RowKit Go.Maps Go.ChangeMaps
set_option linter.unusedVariables false
def e1 : Dz := ⟨8, 0, ⟨#[]⟩, 5, 0⟩
theorem e1_ok : e1.ok := ⟨W64.mk (by decide) (by decide), by decide, by decide, W64.mk (by decide) (by decide), W64.mk (by decide) (by decide)⟩
theorem e1_good : Good [e1] := ⟨by decide, fun x hx => by rw [List.mem_singleton] at hx; subst hx; simp [mayZ, e1, keyB, kKey, kNl, kNh, kSh]⟩
theorem e1_sl (w : World) : Sl (w.alloc (.cells #[.int .i64 8, .int .u16 0, .string ⟨#[]⟩, .int .i64 5, .int .i64 0] 47)) (some ⟨w.heap.size, 0, none⟩) [e1] := fun i hi => by
  have : i = 0 := by simpa using hi
  subst this
  exact ⟨w.heap.size, 0, rfl, by simp [e1], by simp [e1], by simp [e1], by simp [e1], by simp [e1]⟩
theorem e1_txt : textZ (fun _ => ⟨#[115, 108, 101, 101, 112, 32, 53]⟩) [e1] = (⟨#[115, 108, 101, 101, 112, 32, 53, 10]⟩, 0, 0) := by
  rw [text_end (fun j hj => by have : j = 0 := by simpa using hj
                               subst this
                               rfl)]
  rfl
theorem awText_ (w : World) (hk : Kd w) (B : Nat) (hb : w.heap[B]? = some (.cells #[.int .i64 8, .int .u16 0, .string ⟨#[]⟩, .int .i64 5, .int .i64 0] 47 (0, 0))) :
    Calls Tryd.prog 10 #[.slice (some ⟨B, 0, none⟩) 1 1] w fun e w' => e = .returned (.tuple #[.string ⟨#[115, 108, 101, 101, 112, 32, 53, 10]⟩, .int .i64 0, .int .i64 0]) ∧ Touch [] w w' := by
  have hs : Sl w (some ⟨B, 0, none⟩) [e1] := fun i hi => by
    have : i = 0 := by simpa using hi
    subst this
    exact ⟨B, 0, rfl, cell_at hb rfl, cell_at hb rfl, cell_at hb rfl, cell_at hb rfl, cell_at hb rfl⟩
  have := text_ (fun _ => ⟨#[115, 108, 101, 101, 112, 32, 53]⟩) [e1] (some ⟨B, 0, none⟩) 1 w hk hs (fun x hx => by rw [List.mem_singleton] at hx; subst hx; exact e1_ok) e1_good (fun x _ => by show 7 ≤ 1000; omega) (fun x hx w' t => by
    rw [List.mem_singleton] at hx
    subst hx
    exact line8_ w' (hk.touch t))
  rw [e1_txt] at this
  exact this
theorem awNew_ (w : World) (hk : Kd w) (B : Nat) (hb : w.heap[B]? = some (.cells #[.int .i64 8, .int .u16 0, .string ⟨#[]⟩, .int .i64 5, .int .i64 0] 47 (0, 0))) :
    Calls Tryd.prog 17 #[.slice (some ⟨B, 0, none⟩) 1 1] w fun e w' => ∃ b pv, e = .returned (.tuple #[.pointer (some ⟨b, 0, none⟩), .int .i64 0, .int .i64 0]) ∧ Touch [] w w' ∧ Cq w' b pv (.slice none 0 0) (newS [e1]) := by
  have hs : Sl w (some ⟨B, 0, none⟩) [e1] := fun i hi => by
    have : i = 0 := by simpa using hi
    subst this
    exact ⟨B, 0, rfl, cell_at hb rfl, cell_at hb rfl, cell_at hb rfl, cell_at hb rfl, cell_at hb rfl⟩
  exact (new_ok [e1] (some ⟨B, 0, none⟩) 1 w hk hs (fun x hx => by rw [List.mem_singleton] at hx; subst hx; exact e1_ok) e1_good).mono fun e w' ⟨b, pv, he, t, _, _, q⟩ => ⟨b, pv, he, t, q⟩
theorem awNext_ (w : World) {b : Nat} {pv lv : Value} (h : Cq w b pv lv (newS [e1])) : Calls Tryd.prog 19 #[.pointer (some ⟨b, 0, none⟩)] w fun e w' => e = .returned (.tuple #[.agg #[.int .i64 8, .int .u16 0, .string ⟨#[]⟩, .int .i64 5, .int .i64 0], .int .i64 0, .bool true]) ∧ Touch [] w w' := next_ w h
set_option maxHeartbeats 1000000 in
theorem awake_ (w : World) (hk : Kd w) : Calls Tryd.prog 14 #[] w fun e w' => e = .returned (.bool true) ∧ Touch [] w w' := by
  have HK := hid (fun w' (t : Touch [] w w') => hk.touch t)
  clear hk
  go_enter Tryd.func14, Tryd.ntmps14
  go_wp2_with fail
  refine (awText_ _ (HK.out _ ((Touch.refl [] w).alloc _)) w.heap.size (heap_alloc_new w _)).mono ?_
  rintro e w1 ⟨rfl, t1⟩
  have T1 := hid (((Touch.refl [] w).alloc _).trans' t1)
  clear t1
  go_wp2_with fail
  refine (awNew_ _ (HK.out _ (T1.out.alloc _)) w1.heap.size (heap_alloc_new w1 _)).mono ?_
  rintro e w2 ⟨b, pv, rfl, t2, q⟩
  have T2 := hid ((T1.out.alloc _).trans' t2)
  have HQ := hid q
  clear t2 q
  go_wp2_with fail
  refine (awNext_ _ HQ.out).mono ?_
  rintro e w3 ⟨rfl, t3⟩
  have T3 := hid (T2.out.trans' t3)
  clear t3
  go_wp2_with fail
  go_ret
  exact ⟨rfl, T3.out.alloc _⟩
theorem go_nil (w : World) : Calls Tryd.prog 23 #[.pointer none] w fun e w' => e = .returned (.bool false) ∧ Touch [] w w' := by
  go_enter Tryd.func23, Tryd.ntmps23
  go_wp2_with fail
  refine (next_nil _).mono ?_
  rintro e w1 ⟨rfl, t1⟩
  go_wp2_with fail
  go_ret
  exact ⟨rfl, t1.alloc _⟩
theorem token_nil (w : World) : Calls Tryd.prog 20 #[.pointer none] w fun e w' => e = .returned (.int .i64 0) ∧ Touch [] w w' := by
  go_enter Tryd.func20, Tryd.ntmps20
  go_wp2
  go_ret
  exact ⟨rfl, Touch.refl [] _⟩
theorem use_nil (n : Int) (w : World) : Calls Tryd.prog 24 #[.pointer none, .int .i64 n] w fun e w' => e = .returned (.int .i64 1) ∧ Touch [] w w' := by
  go_enter Tryd.func24, Tryd.ntmps24
  go_wp2
  go_ret
  exact ⟨rfl, Touch.refl [] _⟩
theorem had_nil (v0 v1 v2 v3 v4 v5 v6 : Int) (w : World) : Calls Tryd.prog 25 #[.pointer none, .agg #[.int .i64 v0, .int .i64 v1, .int .i64 v2, .int .i64 v3, .int .i64 v4, .int .i64 v5, .int .i64 v6]] w fun e w' => e = .returned (.int .i64 1) ∧ Touch [] w w' := by
  go_enter Tryd.func25, Tryd.ntmps25
  go_wp2
  go_ret
  exact ⟨rfl, (Touch.refl [] _).alloc _⟩
theorem log_nil (w : World) : Calls Tryd.prog 21 #[.pointer none] w fun e w' => e = .returned (.slice none 0 0) ∧ Touch [] w w' := by
  go_enter Tryd.func21, Tryd.ntmps21
  go_wp2
  go_ret
  exact ⟨rfl, Touch.refl [] _⟩
theorem clone_nil (w : World) : Calls Tryd.prog 28 #[.pointer none] w fun e w' => e = .returned (.pointer none) ∧ Touch [] w w' := by
  go_enter Tryd.func28, Tryd.ntmps28
  go_wp2
  go_ret
  exact ⟨rfl, Touch.refl [] _⟩
theorem put_nil (n c : Int) (w : World) : Calls Tryd.prog 26 #[.pointer none, .int .i64 n, .int .i64 c] w fun e w' => e = .returned (.int .i64 1) ∧ Touch [] w w' := by
  go_enter Tryd.func26, Tryd.ntmps26
  go_wp2
  go_ret
  exact ⟨rfl, Touch.refl [] _⟩
theorem fill_nil (n c v0 v1 v2 v3 v4 v5 v6 : Int) (w : World) : Calls Tryd.prog 27 #[.pointer none, .int .i64 n, .int .i64 c, .agg #[.int .i64 v0, .int .i64 v1, .int .i64 v2, .int .i64 v3, .int .i64 v4, .int .i64 v5, .int .i64 v6]] w fun e w' => e = .returned (.bool false) ∧ Touch [] w w' := by
  go_enter Tryd.func27, Tryd.ntmps27
  go_wp2
  go_ret
  exact ⟨rfl, (Touch.refl [] _).alloc _⟩
theorem set7z {F : List Nat} {w V : World} (t : Touch F w V) {b : Nat} (hb : b ∈ F ∨ w.heap.size ≤ b) (v0 v1 v2 v3 v4 v5 v6 : Value) : Touch F w (((((((V.setCell ⟨b, 0, none⟩ v0).setCell ⟨b, 1, none⟩ v1).setCell ⟨b, 2, none⟩ v2).setCell ⟨b, 3, none⟩ v3).setCell ⟨b, 4, none⟩ v4).setCell ⟨b, 5, none⟩ v5).setCell ⟨b, 6, none⟩ v6) :=
  ((((((t.setCell hb _).setCell hb _).setCell hb _).setCell hb _).setCell hb _).setCell hb _).setCell hb _
theorem take_nil (n : Int) (w : World) : Calls Tryd.prog 22 #[.pointer none, .int .i64 n] w fun e w' => e = .returned (.tuple #[.agg #[.int .i64 0, .int .i64 0, .int .i64 0, .int .i64 0, .int .i64 0, .int .i64 0, .int .i64 0], .int .i64 0, .int .i64 1]) ∧ Touch [] w w' := by
  go_enter Tryd.func22, Tryd.ntmps22
  go_wp2
  exact bodyPost_ret (v := .tuple #[.agg #[.int .i64 0, .int .i64 0, .int .i64 0, .int .i64 0, .int .i64 0, .int .i64 0, .int .i64 0], .int .i64 0, .int .i64 1]) (by simp [results, Tryd.results22, go_sem]) rfl ⟨rfl, (Touch.refl [] w).alloc _⟩
set_option maxRecDepth 20000 in
set_option maxHeartbeats 2000000 in
theorem nil_ (kd n c v0 v1 v2 v3 v4 v5 v6 : Int) (w : World) (hk : Kd w) : Calls Tryd.prog 6 #[.agg #[.int .i64 kd, .int .i64 n, .int .i64 c, .int .i64 v0, .int .i64 v1, .int .i64 v2, .int .i64 v3, .int .i64 v4, .int .i64 v5, .int .i64 v6]] w fun e w' => e = .returned (.bool true) ∧ Touch [] w w' := by
  have HK := hid (fun w' (t : Touch [] w w') => awake_ w' (hk.touch t))
  have HN := hid next_nil
  have HT := hid take_nil
  have HG := hid go_nil
  have HO := hid token_nil
  have HU := hid use_nil
  have HH := hid had_nil
  have HP := hid put_nil
  have HF := hid fill_nil
  have HL := hid log_nil
  have HC := hid clone_nil
  clear hk
  have BX := hid (heap_alloc_new w (.cells #[.int .i64 kd, .int .i64 n, .int .i64 c, .int .i64 v0, .int .i64 v1, .int .i64 v2, .int .i64 v3, .int .i64 v4, .int .i64 v5, .int .i64 v6] 67))
  have T0 := hid ((Touch.refl [] w).alloc (.cells #[.int .i64 kd, .int .i64 n, .int .i64 c, .int .i64 v0, .int .i64 v1, .int .i64 v2, .int .i64 v3, .int .i64 v4, .int .i64 v5, .int .i64 v6] 67))
  go_enter Tryd.func6, Tryd.ntmps6
  go_wp2_with fail
  refine (HN.out _).mono ?_
  rintro e w1 ⟨rfl, t1⟩
  replace BX := hid (t1.keep BX.out (by simp))
  replace T0 := hid (T0.out.trans' t1)
  clear t1
  have q1 := cell_at (j := 1) ((((Touch.refl [] w1).alloc (.cells #[.int .i64 0, .int .u16 0, .string ⟨#[]⟩, .int .i64 0, .int .i64 0] 47))).keep BX.out (by simp)) rfl
  replace BX := hid ((((Touch.refl [] w1).alloc (.cells #[.int .i64 0, .int .u16 0, .string ⟨#[]⟩, .int .i64 0, .int .i64 0] 47))).keep BX.out (by simp))
  replace T0 := hid (T0.out.alloc (.cells #[.int .i64 0, .int .u16 0, .string ⟨#[]⟩, .int .i64 0, .int .i64 0] 47))
  go_wp2_with fail
  refine (HT.out _ _).mono ?_
  rintro e w2 ⟨rfl, t2⟩
  replace BX := hid ((((Touch.refl [] w2).alloc (.cells #[.int .i64 0, .int .i64 0, .int .i64 0, .int .i64 0, .int .i64 0, .int .i64 0, .int .i64 0] 60))).keep (t2.keep BX.out (by simp)) (by simp))
  replace T0 := hid ((T0.out.trans' t2).alloc (.cells #[.int .i64 0, .int .i64 0, .int .i64 0, .int .i64 0, .int .i64 0, .int .i64 0, .int .i64 0] 60))
  clear t2 q1
  go_wp2_with fail
  refine (HK.out _ T0.out).mono ?_
  rintro e w3 ⟨rfl, t3⟩
  replace BX := hid (t3.keep BX.out (by simp))
  replace T0 := hid (T0.out.trans' t3)
  clear t3
  go_wp2_with fail
  refine (HG.out _).mono ?_
  rintro e w4 ⟨rfl, t4⟩
  replace BX := hid (t4.keep BX.out (by simp))
  replace T0 := hid (T0.out.trans' t4)
  clear t4
  go_wp2_with fail
  refine (HO.out _).mono ?_
  rintro e w5 ⟨rfl, t5⟩
  replace BX := hid (t5.keep BX.out (by simp))
  replace T0 := hid (T0.out.trans' t5)
  clear t5
  have q1 := cell_at (j := 1) BX.out rfl
  go_wp2_with fail
  refine (HU.out _ _).mono ?_
  rintro e w6 ⟨rfl, t6⟩
  replace BX := hid (t6.keep BX.out (by simp))
  replace T0 := hid (T0.out.trans' t6)
  clear t6 q1
  have q3 := cell_at (j := 3) BX.out rfl
  have q4 := cell_at (j := 4) BX.out rfl
  have q5 := cell_at (j := 5) BX.out rfl
  have q6 := cell_at (j := 6) BX.out rfl
  have q7 := cell_at (j := 7) BX.out rfl
  have q8 := cell_at (j := 8) BX.out rfl
  have q9 := cell_at (j := 9) BX.out rfl
  go_wp2_with fail
  refine (HH.out _ _ _ _ _ _ _ _).mono ?_
  rintro e w7 ⟨rfl, t7⟩
  replace BX := hid (t7.keep BX.out (by simp))
  replace T0 := hid (T0.out.trans' t7)
  clear t7 q3 q4 q5 q6 q7 q8 q9
  have q1 := cell_at (j := 1) BX.out rfl
  have q2 := cell_at (j := 2) BX.out rfl
  go_wp2_with fail
  refine (HP.out _ _ _).mono ?_
  rintro e w8 ⟨rfl, t8⟩
  replace BX := hid (t8.keep BX.out (by simp))
  replace T0 := hid (T0.out.trans' t8)
  clear t8 q1 q2
  have q1 := cell_at (j := 1) BX.out rfl
  have q2 := cell_at (j := 2) BX.out rfl
  have q3 := cell_at (j := 3) BX.out rfl
  have q4 := cell_at (j := 4) BX.out rfl
  have q5 := cell_at (j := 5) BX.out rfl
  have q6 := cell_at (j := 6) BX.out rfl
  have q7 := cell_at (j := 7) BX.out rfl
  have q8 := cell_at (j := 8) BX.out rfl
  have q9 := cell_at (j := 9) BX.out rfl
  go_wp2_with fail
  refine (HF.out _ _ _ _ _ _ _ _ _ _).mono ?_
  rintro e w9 ⟨rfl, t9⟩
  replace T0 := hid (T0.out.trans' t9)
  clear t9 q1 q2 q3 q4 q5 q6 q7 q8 q9 BX
  go_wp2_with fail
  refine (HL.out _).mono ?_
  rintro e wa ⟨rfl, ta⟩
  replace T0 := hid (T0.out.trans' ta)
  clear ta
  go_wp2_with fail
  refine (HC.out _).mono ?_
  rintro e wb ⟨rfl, tb⟩
  replace T0 := hid (T0.out.trans' tb)
  clear tb
  go_wp2_with fail
  go_ret
  exact ⟨rfl, T0.out⟩
end Go.Proofs.YthakboiecdjgnaaDoor.Ci
