/- The contracts of around and New; no conditions but those that each states. -/
import Derived.Test.YtkfophlhpjbmgaaQd07
import Derived.Test.YtkfophlhpjbmgaaQd04
import Derived.Test.YtkfophlhpjbmgaaQd05
import Derived.Test.YtkfophlhpjbmgaaRows
import Derived.WalkKit
import Derived.ProofKit
import Derived.OpenShut
import Derived.ShutString
import Derived.Deep.Slices
import Derived.Test.YtkfophlhpjbmgaaQd03
import Derived.Test.YtkfophlhpjbmgaaQd02
namespace Go.Proofs.Ytkfophlhpjbmgaa
open Go.RowKit Go.Maps Go.ChangeMaps
set_option maxRecDepth 100000
set_option linter.unusedVariables false
set_option linter.unusedSimpArgs false
def G0 (c : Me.Cf) (now : Int) (xs : List Me.En) : Gp := ⟨c, now, xs, Ta.T0 c.f, Ba.S0 c.b c.d, [], [], now⟩
def C0 : Cn := ⟨0, 0, 0⟩
def NwE (w w' : World) (Fm : List Nat) (g : Nat) (c : Me.Cf) (now : Int) (xs : List Me.En) : Prop := ∃ P F, Gq w' g P F (G0 c now xs) C0 ∧ Touch [] w w' ∧ (∀ k, k ∈ F → k ∈ Fm ∨ w.heap.size ≤ k)
theorem okC_parts {c : Me.Cf} (h : Me.okC c = true) : (0 ≤ c.t ∧ 0 ≤ c.n ∧ 0 ≤ c.s ∧ 0 ≤ c.d ∧ 0 ≤ c.e ∧ c.e ≤ 65536 ∧ 1 ≤ c.f ∧ c.f ≤ 4096 ∧ 1 ≤ c.b ∧ c.b ≤ 1024) := by
  unfold Me.okC at h
  simpa using h
def cfc (c : Me.Cf) : Array Value := #[.int .i64 c.t, .int .i64 c.n, .int .i64 c.s, .int .i64 c.e, .int .i64 c.f, .int .i64 c.b, .int .i64 c.d]
set_option maxHeartbeats 8000000 in
theorem around_ (w : World) (m : Nat) (Fm : List Nat) (c : Me.Cf) (now : Int) (xs : List Me.En) (h : Me.Mq w m Fm c now xs) (hd : c.d ≤ 9223372036854775807) : Calls Try.prog 13 #[PT m] w fun e w' => ∃ g, e = .returned (PT g) ∧ NwE w w' Fm g c now xs := by
  have ho := okC_parts h.gd.oc
  have hm : Me.Mq w m Fm c now xs := h
  have HC : Hid (Calls Try.prog 24 #[PT m] w fun e w' => e = .returned (Me.cv c) ∧ Touch [] w w') := hid (by obtain ⟨b, o, G, rfl, h⟩ := h; exact Me.config27 w m c now b o h.md)
  have HT : Hid (∀ w1, Touch [] w w1 → Calls Try.prog 25 #[.int .i64 c.f] w1 fun e w' => ∃ t Ft, e = .returned (.tuple #[PT t, .int .i64 0]) ∧ Ta.Tq w' t Ft (Ta.T0 c.f) 0 ∧ Touch [] w1 w' ∧ ∀ d, d ∈ Ft → w1.heap.size ≤ d) := hid (fun w1 _ => Ta.newT_ok w1 c.f (by unfold Ta.mayF'; simp; omega))
  have hbm : Ba.mayB c.b c.d = true := by unfold Ba.mayB; simp; omega
  have HB : Hid (∀ w1, Calls Try.prog 26 #[.int .i64 c.b, .int .i64 c.d] w1 fun e w' => e = .returned (.tuple #[PT w1.heap.size, .int .i64 0]) ∧ Ba.Bm w' w1.heap.size (.slice none 0 0) 0 (Ba.S0 c.b c.d) ∧ Touch [] w1 w') := hid (fun w1 => Ba.new_yes w1 c.b c.d hbm)
  have HS : Hid (∀ w1, Calls Try.prog 27 #[] w1 fun e w' => e = .returned (PT w1.heap.size) ∧ Lv.Sq w' w1.heap.size [w1.heap.size] [] [] 0 ∧ Touch [] w1 w') := hid (fun w1 => Lv.new_ w1)
  have HW : Hid (∀ w1, Touch [] w w1 → Calls Try.prog 28 #[PT m] w1 fun e w' => e = .returned (.int .i64 now) ∧ w' = w1) := hid (fun w1 T => by obtain ⟨b, o, G, eF, h'⟩ := h.keep0 T; exact Me.now26 w1 m c now b o h'.md)
  have hbi : Ba.Iv (Ba.S0 c.b c.d) 0 := ⟨by simp [Ba.S0]; omega, by simp [Ba.S0]; omega, by simp [Ba.S0]; omega, by simp [Ba.S0]; omega, by simp [Ba.S0], by simp [Ba.S0], by simp [Ba.S0], by simp only [Ba.S0]; exact W64.mk (by omega) (by omega), by simp [Ba.S0], by simp [Ba.S0], by simp [Ba.S0], by simp [Ba.S0], by simp [Ba.S0], by simp [Ba.S0], by simp [Ba.S0]⟩
  have HF : Hid (∀ w2 t Ft w3 w4, Touch [] w w2 → Ta.Tq w2 t Ft (Ta.T0 c.f) 0 → (∀ d, d ∈ Ft → w.heap.size ≤ d) → Ba.Bm w3 w2.heap.size (.slice none 0 0) 0 (Ba.S0 c.b c.d) → Touch [] w2 w3 → Lv.Sq w4 w3.heap.size [w3.heap.size] [] [] 0 → Touch [] w3 w4 → NwE w (w4.alloc (.cells (gcs ⟨m, t, w2.heap.size, w3.heap.size⟩ now) 65)) Fm w4.heap.size c now xs) := hid (fun w2 t Ft w3 w4 t2 qt ft qb t3 qs t4 => by
    have t5 : Touch [] w4 (w4.alloc (.cells (gcs ⟨m, t, w2.heap.size, w3.heap.size⟩ now) 65)) := (Touch.refl _ _).alloc _
    have hmlt := h.lt
    have htlt := qt.lt
    have h3 : w2.heap.size < w3.heap.size := qb.lt
    have h4 : w3.heap.size < w4.heap.size := qs.slt
    have z2 := t2.size
    refine ⟨⟨m, t, w2.heap.size, w3.heap.size⟩, fpG w4.heap.size Fm Ft [w2.heap.size] [w3.heap.size], ⟨Fm, Ft, [w2.heap.size], [w3.heap.size], rfl, ?_⟩, ((t2.trans' t3).trans' t4).trans' t5, fun k hk => ?_⟩
    · refine ⟨heap_alloc_new w4 _, h.keep0 (((t2.trans' t3).trans' t4).trans' t5), qt.keep0 ((t3.trans' t4).trans' t5), ⟨.slice none 0 0, 0, rfl, qb.keep0 (t4.trans' t5), hbi⟩, qs.keep0 t5, ?_, ?_, ?_, ?_, ?_, ?_, ?_, ?_, ?_, ?_⟩
      all_goals (intro k hk e; (try simp only [List.mem_singleton] at hk); (try simp only [List.mem_singleton] at e))
      · have := hmlt k e; omega
      · have := htlt k e; omega
      · omega
      · omega
      · have := hmlt k hk; have := ft k e; omega
      · have := hmlt k hk; omega
      · have := hmlt k hk; omega
      · have := htlt k hk; omega
      · have := htlt k hk; omega
      · omega
    · rcases mem_fpG.1 hk with e | e | e | e | e
      · exact Or.inr (by omega)
      · exact Or.inl e
      · exact Or.inr (ft k e)
      · simp only [List.mem_singleton] at e; exact Or.inr (by omega)
      · simp only [List.mem_singleton] at e; exact Or.inr (by omega))
  clear h hm ho hbm hbi
  unfold gcs at HF
  unfold Me.cv at HC
  unfold PT at *
  go_enter Try.func13, Try.ntmps13
  go_upto_region 2 with (go_at_call 24; refine HC.out.mono ?_; rintro e w1 ⟨rfl, t1⟩; have T1 := hid t1; clear t1)
  obtain ⟨W1, hW1⟩ : ∃ W1, W1 = w1.alloc (.cells (cfc c) 23) := ⟨_, rfl⟩
  have t1 : Touch [] w W1 := by rw [hW1]; exact T1.out.alloc _
  have hb := heap_alloc_new w1 (.cells (cfc c) 23)
  rw [← hW1] at hb
  unfold cfc at hW1 hb
  rw [← hW1]
  clear hW1
  have HB1 := hid hb
  have TT1 := hid t1
  have b4 := cell_at (j := 4) hb rfl
  have b5 := cell_at (j := 5) hb rfl
  have b6 := cell_at (j := 6) hb rfl
  clear t1 hb
  go_upto_region 3 with (first
    | (go_at_call 25; refine (HT.out _ TT1.out).mono ?_; rintro e w2 ⟨t, Ft, rfl, q2, t2, f2⟩; have hb := t2.keep HB1.out (by simp); clear b4 b5 b6; have b5 := cell_at (j := 5) hb rfl; have b6 := cell_at (j := 6) hb rfl; have Q2 := hid q2; have T2 := hid t2; have F2 := hid f2; clear hb q2 t2 f2))
  go_upto_region 4 with (first
    | (go_at_call 26; refine (HB.out _).mono ?_; rintro e w3 ⟨rfl, q3, t3⟩; have Q3 := hid q3; have T3 := hid t3; clear q3 t3 b5 b6))
  go_wp2_with (first
    | (go_at_call 27; refine (HS.out _).mono ?_; rintro e w4 ⟨rfl, q4, t4⟩; have Q4 := hid q4; have T4 := hid t4; have T5 := hid (((TT1.out.trans' T2.out).trans' T3.out).trans' t4); clear q4 t4)
    | (go_at_call 28; refine (HW.out _ T5.out).mono ?_; rintro e w5 ⟨rfl, rfl⟩))
  go_ret
  exact ⟨_, rfl, HF.out _ _ _ _ _ (TT1.out.trans' T2.out) Q2.out (fun d hd => Nat.le_trans TT1.out.size (F2.out d hd)) Q3.out T3.out Q4.out T4.out⟩
theorem new_no (w : World) (c : Me.Cf) (hc : Me.okC c = false) : Calls Try.prog 4 #[Me.cv c] w fun e w' => e = .returned (.tuple #[.pointer none, .int .i64 100]) ∧ Touch [] w w' := by
  have HN := hid (fun w => Me.new9_no w c hc)
  clear hc
  unfold Me.cv at *
  go_enter Try.func4, Try.ntmps4
  go_wp2_with (go_at_call 12; refine (HN.out _).mono ?_; rintro e w2 ⟨rfl, t2⟩; have T2 := hid t2; clear t2)
  exact bodyPost_ret (v := .tuple #[.pointer none, .int .i64 100]) (by simp [results, Try.results4, go_sem]) rfl ⟨rfl, ((Touch.refl _ _).alloc _).trans' T2.out⟩
def W7 (c : Me.Cf) : Prop := c.t ≤ 9223372036854775807 ∧ c.n ≤ 9223372036854775807 ∧ c.s ≤ 9223372036854775807 ∧ c.d ≤ 9223372036854775807
theorem new_ (w : World) (c : Me.Cf) (hc : Me.okC c = true) (hw : W7 c) : Calls Try.prog 4 #[Me.cv c] w fun e w' => ∃ g, e = .returned (.tuple #[PT g, .int .i64 0]) ∧ NwE w w' [] g c 0 [] := by
  obtain ⟨w1, w2, w3, w4⟩ := hw
  have HN := hid (fun w => Me.new9_ok w c hc ⟨w1, w2, w3⟩)
  have HA : Hid (∀ V m W, Touch [] w V → Me.NwQ V c m W → Calls Try.prog 13 #[PT m] W fun e w' => ∃ g, e = .returned (PT g) ∧ NwE w w' [] g c 0 []) := hid (fun V m W tV h => by
    obtain ⟨F, q1, q2, q3⟩ := h
    refine (around_ W m F c 0 [] q1 w4).mono ?_
    rintro e w' ⟨g, rfl, P, F', r1, r2, r3⟩
    refine ⟨g, rfl, P, F', r1, (tV.trans' q3).trans' r2, fun k hk => Or.inr ?_⟩
    have z1 := tV.size
    have z2 := q3.size
    rcases r3 k hk with e | e
    · have := q2 k e; omega
    · omega)
  clear hc w1 w2 w3 w4
  unfold Me.cv at *
  unfold PT at *
  go_enter Try.func4, Try.ntmps4
  go_wp2_with (first
    | (go_at_call 12; refine (HN.out _).mono ?_; rintro e w2 ⟨m, rfl, q2⟩; have Q2 := hid q2; clear q2)
    | (go_at_call 13; refine (HA.out _ _ _ ((Touch.refl _ _).alloc _) Q2.out).mono ?_; rintro e w3 ⟨g, rfl, q3⟩; have Q3 := hid q3; clear q3))
  exact bodyPost_ret (v := .tuple #[.pointer (some ⟨g, 0, none⟩), .int .i64 0]) (by simp [results, Try.results4, go_sem]) rfl ⟨_, rfl, Q3.out⟩
end Go.Proofs.Ytkfophlhpjbmgaa
/- An act, a slice of acts and a configuration as arguments, opened; no conditions. -/
namespace Go.Proofs.Ytkfophlhpjbmgaa
open Go.ChangeShapes Go.WideShapes Go.ChangeAt Go.RowKit
set_option linter.unusedVariables false
theorem cl_yU16 : Try.prog.cellsOf 31 = 1 := by kernel_rfl
theorem cl_9 : Try.prog.cellsOf 9 = 1 := by kernel_rfl
theorem cl_3 : Try.prog.cellsOf 3 = 1 := by kernel_rfl
theorem cl_2 : Try.prog.cellsOf 2 = 1 := by kernel_rfl
theorem cl_KyA : Try.prog.cellsOf 33 = 2 := by kernel_rfl
structure KyA where
  sp : Int
  nm : ByteArray
def KyA.ok (a : KyA) : Prop := (Lit.int .u16 a.sp).wf = true ∧ a.nm.size ≤ maxLen
def KyA.cs (a : KyA) : Array Value := #[.int .u16 a.sp, .string a.nm]
set_option maxRecDepth 100000 in
theorem fields_KyA {H : Type} {enc : TypeId × Value → H} {W : World} {base fuel : Nat} {spare : Nat → Bool} {held : Bool} {cs : List Value} {x : DataW H × List MemPlace} (h : DataW.trod enc Try.prog W base spare held fuel 33 cs = some x) (hl : cs.length = 2) :
    ∃ a : KyA, cs = a.cs.toList ∧ a.ok := by
  obtain ⟨ys, k, hk, hxy, _, hyl, hfe⟩ := DataW.trod_struct Try.underlying33 h
  match cs, hl with
  | [v0, v1], _ =>
    have hy : ys.length = 2 := hyl
    match ys, hy with
    | [y0, y1], _ =>
      have g0 := hfe 0 _ rfl
      have g1 := hfe 1 _ rfl
      simp [cl_9, cl_yU16] at g0 g1
      obtain ⟨A0, e0, _, w0⟩ := DataW.trod_int Try.underlying31 g0
      obtain ⟨A1, e1, _, w1⟩ := DataW.trod_string Try.underlying9 g1
      simp only [List.cons.injEq, and_true] at e0 e1
      subst e0 e1
      exact ⟨⟨A0, A1⟩, rfl, w0, w1⟩
theorem cl_FaA : Try.prog.cellsOf 35 = 3 := by kernel_rfl
structure FaA where
  kd : Int
  cd : Int
  rn : Int
def FaA.ok (a : FaA) : Prop := W64 a.kd ∧ W64 a.cd ∧ W64 a.rn
def FaA.cs (a : FaA) : Array Value := #[.int .i64 a.kd, .int .i64 a.cd, .int .i64 a.rn]
set_option maxRecDepth 100000 in
theorem fields_FaA {H : Type} {enc : TypeId × Value → H} {W : World} {base fuel : Nat} {spare : Nat → Bool} {held : Bool} {cs : List Value} {x : DataW H × List MemPlace} (h : DataW.trod enc Try.prog W base spare held fuel 35 cs = some x) (hl : cs.length = 3) :
    ∃ a : FaA, cs = a.cs.toList ∧ a.ok := by
  obtain ⟨ys, k, hk, hxy, _, hyl, hfe⟩ := DataW.trod_struct Try.underlying35 h
  match cs, hl with
  | [v0, v1, v2], _ =>
    have hy : ys.length = 3 := hyl
    match ys, hy with
    | [y0, y1, y2], _ =>
      have g0 := hfe 0 _ rfl
      have g1 := hfe 1 _ rfl
      have g2 := hfe 2 _ rfl
      simp [cl_3] at g0 g1 g2
      obtain ⟨A0, e0, _, w0⟩ := DataW.trod_int Try.underlying3 g0
      obtain ⟨A1, e1, _, w1⟩ := DataW.trod_int Try.underlying3 g1
      obtain ⟨A2, e2, _, w2⟩ := DataW.trod_int Try.underlying3 g2
      simp only [List.cons.injEq, and_true] at e0 e1 e2
      subst e0 e1 e2
      exact ⟨⟨A0, A1, A2⟩, rfl, w0, w1, w2⟩
theorem cl_OuA : Try.prog.cellsOf 37 = 4 := by kernel_rfl
structure OuA where
  va : Int
  fl : FaA
def OuA.ok (a : OuA) : Prop := W64 a.va ∧ FaA.ok a.fl
def OuA.cs (a : OuA) : Array Value := #[.int .i64 a.va, .int .i64 a.fl.kd, .int .i64 a.fl.cd, .int .i64 a.fl.rn]
set_option maxRecDepth 100000 in
theorem fields_OuA {H : Type} {enc : TypeId × Value → H} {W : World} {base fuel : Nat} {spare : Nat → Bool} {held : Bool} {cs : List Value} {x : DataW H × List MemPlace} (h : DataW.trod enc Try.prog W base spare held fuel 37 cs = some x) (hl : cs.length = 4) :
    ∃ a : OuA, cs = a.cs.toList ∧ a.ok := by
  obtain ⟨ys, k, hk, hxy, _, hyl, hfe⟩ := DataW.trod_struct Try.underlying37 h
  match cs, hl with
  | [v0, v1, v2, v3], _ =>
    have hy : ys.length = 2 := hyl
    match ys, hy with
    | [y0, y1], _ =>
      have g0 := hfe 0 _ rfl
      have g1 := hfe 1 _ rfl
      simp [cl_2, cl_FaA] at g0 g1
      obtain ⟨A0, e0, _, w0⟩ := DataW.trod_int Try.underlying2 g0
      obtain ⟨A1, b1, w1⟩ := fields_FaA g1 rfl
      simp only [FaA.cs, List.cons.injEq, and_true] at b1
      obtain ⟨e1, e2, e3⟩ := b1
      simp only [List.cons.injEq, and_true] at e0
      subst e0 e1 e2 e3
      exact ⟨⟨A0, A1⟩, rfl, w0, w1⟩
theorem cl_ActG : Try.prog.cellsOf 39 = 12 := by kernel_rfl
structure ActG where
  kd : Int
  cl : Int
  tk : Int
  rn : Int
  st : Int
  od : Int
  k : KyA
  o : OuA
def ActG.ok (a : ActG) : Prop := W64 a.kd ∧ W64 a.cl ∧ W64 a.tk ∧ W64 a.rn ∧ W64 a.st ∧ W64 a.od ∧ KyA.ok a.k ∧ OuA.ok a.o
def ActG.cs (a : ActG) : Array Value := #[.int .i64 a.kd, .int .i64 a.cl, .int .i64 a.tk, .int .i64 a.rn, .int .i64 a.st, .int .i64 a.od, .int .u16 a.k.sp, .string a.k.nm, .int .i64 a.o.va, .int .i64 a.o.fl.kd, .int .i64 a.o.fl.cd, .int .i64 a.o.fl.rn]
set_option maxRecDepth 100000 in
theorem fields_ActG {H : Type} {enc : TypeId × Value → H} {W : World} {base fuel : Nat} {spare : Nat → Bool} {held : Bool} {cs : List Value} {x : DataW H × List MemPlace} (h : DataW.trod enc Try.prog W base spare held fuel 39 cs = some x) (hl : cs.length = 12) :
    ∃ a : ActG, cs = a.cs.toList ∧ a.ok := by
  obtain ⟨ys, k, hk, hxy, _, hyl, hfe⟩ := DataW.trod_struct Try.underlying39 h
  match cs, hl with
  | [v0, v1, v2, v3, v4, v5, v6, v7, v8, v9, v10, v11], _ =>
    have hy : ys.length = 8 := hyl
    match ys, hy with
    | [y0, y1, y2, y3, y4, y5, y6, y7], _ =>
      have g0 := hfe 0 _ rfl
      have g1 := hfe 1 _ rfl
      have g2 := hfe 2 _ rfl
      have g3 := hfe 3 _ rfl
      have g4 := hfe 4 _ rfl
      have g5 := hfe 5 _ rfl
      have g6 := hfe 6 _ rfl
      have g7 := hfe 7 _ rfl
      simp [cl_2, cl_3, cl_KyA, cl_OuA] at g0 g1 g2 g3 g4 g5 g6 g7
      obtain ⟨A0, e0, _, w0⟩ := DataW.trod_int Try.underlying3 g0
      obtain ⟨A1, e1, _, w1⟩ := DataW.trod_int Try.underlying3 g1
      obtain ⟨A2, e2, _, w2⟩ := DataW.trod_int Try.underlying3 g2
      obtain ⟨A3, e3, _, w3⟩ := DataW.trod_int Try.underlying3 g3
      obtain ⟨A4, e4, _, w4⟩ := DataW.trod_int Try.underlying2 g4
      obtain ⟨A5, e5, _, w5⟩ := DataW.trod_int Try.underlying2 g5
      obtain ⟨A6, b6, w6⟩ := fields_KyA g6 rfl
      simp only [KyA.cs, List.cons.injEq, and_true] at b6
      obtain ⟨e6, e7⟩ := b6
      obtain ⟨A7, b7, w7⟩ := fields_OuA g7 rfl
      simp only [OuA.cs, List.cons.injEq, and_true] at b7
      obtain ⟨e8, e9, e10, e11⟩ := b7
      simp only [List.cons.injEq, and_true] at e0 e1 e2 e3 e4 e5
      subst e0 e1 e2 e3 e4 e5 e6 e7 e8 e9 e10 e11
      exact ⟨⟨A0, A1, A2, A3, A4, A5, A6, A7⟩, rfl, w0, w1, w2, w3, w4, w5, w6, w7⟩
theorem cl_CfG : Try.prog.cellsOf 23 = 7 := by kernel_rfl
structure CfG where
  t : Int
  n : Int
  s : Int
  e : Int
  f : Int
  b : Int
  d : Int
def CfG.ok (a : CfG) : Prop := W64 a.t ∧ W64 a.n ∧ W64 a.s ∧ W64 a.e ∧ W64 a.f ∧ W64 a.b ∧ W64 a.d
def CfG.cs (a : CfG) : Array Value := #[.int .i64 a.t, .int .i64 a.n, .int .i64 a.s, .int .i64 a.e, .int .i64 a.f, .int .i64 a.b, .int .i64 a.d]
set_option maxRecDepth 100000 in
theorem fields_CfG {H : Type} {enc : TypeId × Value → H} {W : World} {base fuel : Nat} {spare : Nat → Bool} {held : Bool} {cs : List Value} {x : DataW H × List MemPlace} (h : DataW.trod enc Try.prog W base spare held fuel 23 cs = some x) (hl : cs.length = 7) :
    ∃ a : CfG, cs = a.cs.toList ∧ a.ok := by
  obtain ⟨ys, k, hk, hxy, _, hyl, hfe⟩ := DataW.trod_struct Try.underlying23 h
  match cs, hl with
  | [v0, v1, v2, v3, v4, v5, v6], _ =>
    have hy : ys.length = 7 := hyl
    match ys, hy with
    | [y0, y1, y2, y3, y4, y5, y6], _ =>
      have g0 := hfe 0 _ rfl
      have g1 := hfe 1 _ rfl
      have g2 := hfe 2 _ rfl
      have g3 := hfe 3 _ rfl
      have g4 := hfe 4 _ rfl
      have g5 := hfe 5 _ rfl
      have g6 := hfe 6 _ rfl
      simp [cl_2, cl_3] at g0 g1 g2 g3 g4 g5 g6
      obtain ⟨A0, e0, _, w0⟩ := DataW.trod_int Try.underlying2 g0
      obtain ⟨A1, e1, _, w1⟩ := DataW.trod_int Try.underlying2 g1
      obtain ⟨A2, e2, _, w2⟩ := DataW.trod_int Try.underlying2 g2
      obtain ⟨A3, e3, _, w3⟩ := DataW.trod_int Try.underlying3 g3
      obtain ⟨A4, e4, _, w4⟩ := DataW.trod_int Try.underlying3 g4
      obtain ⟨A5, e5, _, w5⟩ := DataW.trod_int Try.underlying3 g5
      obtain ⟨A6, e6, _, w6⟩ := DataW.trod_int Try.underlying2 g6
      simp only [List.cons.injEq, and_true] at e0 e1 e2 e3 e4 e5 e6
      subst e0 e1 e2 e3 e4 e5 e6
      exact ⟨⟨A0, A1, A2, A3, A4, A5, A6⟩, rfl, w0, w1, w2, w3, w4, w5, w6⟩
theorem add_plainA (b off j : Nat) : (⟨b, off, none⟩ : Addr).add j = ⟨b, off + j, none⟩ := by simp [Addr.add]
set_option maxRecDepth 100000 in
theorem open_CfG {H : Type} {enc : TypeId × Value → H} {W : World} {b0 : Nat} {v : Value} {d : DataW H} {p : List MemPlace} (hv : Value.okWide Try.prog W .any b0 23 v) (h : DataW.Trod enc Try.prog W 0 (fun _ => true) true 23 v d p) : ∃ a : CfG, v = .agg a.cs ∧ a.ok := by
  obtain ⟨cs, rfl, hs⟩ := okWide_struct Try.underlying23 hv
  obtain ⟨fuel, hf⟩ := h
  rw [cl_CfG] at hs
  obtain ⟨cl⟩ := cs
  have hs' : cl.length = 7 := by simpa using hs
  obtain ⟨a, e, wa⟩ := fields_CfG (cs := cl) (by simpa [Value.cells] using hf) hs'
  subst e
  exact ⟨a, rfl, wa⟩
structure RowActG (w : World) (b off : Nat) (xs : List ActG) : Prop where
  lt : b < w.heap.size
  c0 : ∀ i (h : i < xs.length), w.cell? ⟨b, off + i * 12, none⟩ = some (.int .i64 xs[i].kd)
  c1 : ∀ i (h : i < xs.length), w.cell? ⟨b, off + i * 12 + 1, none⟩ = some (.int .i64 xs[i].cl)
  c2 : ∀ i (h : i < xs.length), w.cell? ⟨b, off + i * 12 + 2, none⟩ = some (.int .i64 xs[i].tk)
  c3 : ∀ i (h : i < xs.length), w.cell? ⟨b, off + i * 12 + 3, none⟩ = some (.int .i64 xs[i].rn)
  c4 : ∀ i (h : i < xs.length), w.cell? ⟨b, off + i * 12 + 4, none⟩ = some (.int .i64 xs[i].st)
  c5 : ∀ i (h : i < xs.length), w.cell? ⟨b, off + i * 12 + 5, none⟩ = some (.int .i64 xs[i].od)
  c6 : ∀ i (h : i < xs.length), w.cell? ⟨b, off + i * 12 + 6, none⟩ = some (.int .u16 xs[i].k.sp)
  c7 : ∀ i (h : i < xs.length), w.cell? ⟨b, off + i * 12 + 7, none⟩ = some (.string xs[i].k.nm)
  c8 : ∀ i (h : i < xs.length), w.cell? ⟨b, off + i * 12 + 8, none⟩ = some (.int .i64 xs[i].o.va)
  c9 : ∀ i (h : i < xs.length), w.cell? ⟨b, off + i * 12 + 9, none⟩ = some (.int .i64 xs[i].o.fl.kd)
  c10 : ∀ i (h : i < xs.length), w.cell? ⟨b, off + i * 12 + 10, none⟩ = some (.int .i64 xs[i].o.fl.cd)
  c11 : ∀ i (h : i < xs.length), w.cell? ⟨b, off + i * 12 + 11, none⟩ = some (.int .i64 xs[i].o.fl.rn)
def SlActG (w : World) (v : Value) (xs : List ActG) : Prop := (xs = [] ∧ ∃ a c, v = .slice a 0 c) ∨ ∃ b off cap, v = .slice (some ⟨b, off, none⟩) xs.length cap ∧ RowActG w b off xs
theorem RowActG.keep {w w' : World} {b off : Nat} {xs : List ActG} (h : RowActG w b off xs) (ht : Touch [] w w') : RowActG w' b off xs := by
  have e : w'.heap[b]? = w.heap[b]? := ht.block b h.lt (by simp)
  refine ⟨Nat.lt_of_lt_of_le h.lt ht.size, fun i hi => ?_, fun i hi => ?_, fun i hi => ?_, fun i hi => ?_, fun i hi => ?_, fun i hi => ?_, fun i hi => ?_, fun i hi => ?_, fun i hi => ?_, fun i hi => ?_, fun i hi => ?_, fun i hi => ?_⟩
  · rw [World.cell?_of_block (by exact e)]; exact h.c0 i hi
  · rw [World.cell?_of_block (by exact e)]; exact h.c1 i hi
  · rw [World.cell?_of_block (by exact e)]; exact h.c2 i hi
  · rw [World.cell?_of_block (by exact e)]; exact h.c3 i hi
  · rw [World.cell?_of_block (by exact e)]; exact h.c4 i hi
  · rw [World.cell?_of_block (by exact e)]; exact h.c5 i hi
  · rw [World.cell?_of_block (by exact e)]; exact h.c6 i hi
  · rw [World.cell?_of_block (by exact e)]; exact h.c7 i hi
  · rw [World.cell?_of_block (by exact e)]; exact h.c8 i hi
  · rw [World.cell?_of_block (by exact e)]; exact h.c9 i hi
  · rw [World.cell?_of_block (by exact e)]; exact h.c10 i hi
  · rw [World.cell?_of_block (by exact e)]; exact h.c11 i hi
set_option maxRecDepth 100000 in
theorem open_ActGs {H : Type} {enc : TypeId × Value → H} {W : World} {b0 : Nat} {v : Value} {d : DataW H} {p : List MemPlace} (hv : Value.okWide Try.prog W .any b0 24 v) (h : DataW.Trod enc Try.prog W 0 (fun _ => true) true 24 v d p) :
    ∃ xs : List ActG, SlActG W v xs ∧ (∀ x ∈ xs, x.ok) ∧ (xs = [] ∨ ∃ elems spare, d = .slice elems spare ∧ elems.length = xs.length) := by
  obtain ⟨a, len, cap, rfl⟩ := okWide_slice Try.underlying24 hv
  obtain ⟨fuel, hf⟩ := h
  rcases Deep.open_slice Try.underlying24 hf with ⟨hcs, _⟩ | ⟨x, l, c, m, n, D, Pl, hcs, _, hl, hm, hmm, hx, hall⟩
  · simp [Value.cells] at hcs
    obtain ⟨rfl, rfl, rfl⟩ := hcs
    exact ⟨[], Or.inl ⟨rfl, _, _, rfl⟩, fun x hx => by simp at hx, Or.inl rfl⟩
  · simp [Value.cells] at hcs
    obtain ⟨rfl, rfl, rfl⟩ := hcs
    simp only [if_true] at hmm
    subst hmm
    simp only [Prod.mk.injEq] at hx
    obtain ⟨rfl, rfl⟩ := hx
    rw [cl_ActG] at hall
    have each : ∀ i, i < m → ∃ q : ActG, W.cell? (x.add (i * 12)) = some (.int .i64 q.kd) ∧ W.cell? (x.add (i * 12 + 1)) = some (.int .i64 q.cl) ∧ W.cell? (x.add (i * 12 + 2)) = some (.int .i64 q.tk) ∧ W.cell? (x.add (i * 12 + 3)) = some (.int .i64 q.rn) ∧ W.cell? (x.add (i * 12 + 4)) = some (.int .i64 q.st) ∧ W.cell? (x.add (i * 12 + 5)) = some (.int .i64 q.od) ∧ W.cell? (x.add (i * 12 + 6)) = some (.int .u16 q.k.sp) ∧ W.cell? (x.add (i * 12 + 7)) = some (.string q.k.nm) ∧ W.cell? (x.add (i * 12 + 8)) = some (.int .i64 q.o.va) ∧ W.cell? (x.add (i * 12 + 9)) = some (.int .i64 q.o.fl.kd) ∧ W.cell? (x.add (i * 12 + 10)) = some (.int .i64 q.o.fl.cd) ∧ W.cell? (x.add (i * 12 + 11)) = some (.int .i64 q.o.fl.rn) ∧ q.ok := fun i hi => by
      obtain ⟨cs', h1, h2⟩ := hall i hi
      obtain ⟨_, hlen, hcell⟩ := World.cells?_some h1
      obtain ⟨q, rfl, wq⟩ := fields_ActG h2 hlen
      have e0 := hcell 0 (by omega)
      have e1 := hcell 1 (by omega)
      have e2 := hcell 2 (by omega)
      have e3 := hcell 3 (by omega)
      have e4 := hcell 4 (by omega)
      have e5 := hcell 5 (by omega)
      have e6 := hcell 6 (by omega)
      have e7 := hcell 7 (by omega)
      have e8 := hcell 8 (by omega)
      have e9 := hcell 9 (by omega)
      have e10 := hcell 10 (by omega)
      have e11 := hcell 11 (by omega)
      rw [Deep.add_add] at e0 e1 e2 e3 e4 e5 e6 e7 e8 e9 e10 e11
      exact ⟨q, by simpa [ActG.cs] using e0, by simpa [ActG.cs] using e1, by simpa [ActG.cs] using e2, by simpa [ActG.cs] using e3, by simpa [ActG.cs] using e4, by simpa [ActG.cs] using e5, by simpa [ActG.cs] using e6, by simpa [ActG.cs] using e7, by simpa [ActG.cs] using e8, by simpa [ActG.cs] using e9, by simpa [ActG.cs] using e10, by simpa [ActG.cs] using e11, wq⟩
    haveI : Inhabited ActG := ⟨⟨0, 0, 0, 0, 0, 0, ⟨0, ⟨#[]⟩⟩, ⟨0, ⟨0, 0, 0⟩⟩⟩⟩
    obtain ⟨q, hq⟩ := Deep.choose_lt each
    rcases Nat.eq_zero_or_pos len with e | e
    · subst e
      exact ⟨[], Or.inl ⟨rfl, _, _, rfl⟩, fun x hx => by simp at hx, Or.inl rfl⟩
    · have hsp : x.spot = none := by
        have h0 := (hq 0 (by omega)).1
        rw [show x.add (0 * 12) = x by simp [Addr.add]] at h0
        unfold World.cell? at h0
        split at h0
        · split at h0
          · cases h0
          · rename_i hs
            cases hh : x.spot with
            | none => rfl
            | some z => rw [hh] at hs; exact absurd rfl hs
        · cases h0
      obtain ⟨b, off, r⟩ := x
      obtain rfl : r = none := hsp
      have hlen : ((List.range len).map q).length = len := by simp
      refine ⟨(List.range len).map q, Or.inr ⟨b, off, m, by rw [hlen], ?_, fun i hi => ?_, fun i hi => ?_, fun i hi => ?_, fun i hi => ?_, fun i hi => ?_, fun i hi => ?_, fun i hi => ?_, fun i hi => ?_, fun i hi => ?_, fun i hi => ?_, fun i hi => ?_, fun i hi => ?_⟩, fun y hy => ?_, Or.inr ⟨_, _, rfl, by simp⟩⟩
      · rcases Nat.lt_or_ge b W.heap.size with h | h
        · exact h
        · have h0 := (hq 0 (by omega)).1
          simp [World.cell?, add_plainA, Array.getElem?_eq_none h] at h0
      · rw [hlen] at hi
        have h0 := (hq i (by omega)).1
        simpa [add_plainA, Nat.add_assoc] using h0
      · rw [hlen] at hi
        have h0 := (hq i (by omega)).2.1
        simpa [add_plainA, Nat.add_assoc] using h0
      · rw [hlen] at hi
        have h0 := (hq i (by omega)).2.2.1
        simpa [add_plainA, Nat.add_assoc] using h0
      · rw [hlen] at hi
        have h0 := (hq i (by omega)).2.2.2.1
        simpa [add_plainA, Nat.add_assoc] using h0
      · rw [hlen] at hi
        have h0 := (hq i (by omega)).2.2.2.2.1
        simpa [add_plainA, Nat.add_assoc] using h0
      · rw [hlen] at hi
        have h0 := (hq i (by omega)).2.2.2.2.2.1
        simpa [add_plainA, Nat.add_assoc] using h0
      · rw [hlen] at hi
        have h0 := (hq i (by omega)).2.2.2.2.2.2.1
        simpa [add_plainA, Nat.add_assoc] using h0
      · rw [hlen] at hi
        have h0 := (hq i (by omega)).2.2.2.2.2.2.2.1
        simpa [add_plainA, Nat.add_assoc] using h0
      · rw [hlen] at hi
        have h0 := (hq i (by omega)).2.2.2.2.2.2.2.2.1
        simpa [add_plainA, Nat.add_assoc] using h0
      · rw [hlen] at hi
        have h0 := (hq i (by omega)).2.2.2.2.2.2.2.2.2.1
        simpa [add_plainA, Nat.add_assoc] using h0
      · rw [hlen] at hi
        have h0 := (hq i (by omega)).2.2.2.2.2.2.2.2.2.2.1
        simpa [add_plainA, Nat.add_assoc] using h0
      · rw [hlen] at hi
        have h0 := (hq i (by omega)).2.2.2.2.2.2.2.2.2.2.2.1
        simpa [add_plainA, Nat.add_assoc] using h0
      · simp only [List.mem_map, List.mem_range] at hy
        obtain ⟨i, hi, rfl⟩ := hy
        exact (hq i (by omega)).2.2.2.2.2.2.2.2.2.2.2.2
set_option maxRecDepth 100000 in
theorem laidOut : laidOutB Try.prog = true := by kernel_rfl
def KyA.key (a : KyA) : K := (a.sp, a.nm)
end Go.Proofs.Ytkfophlhpjbmgaa
/- The law's awake: one leads, another one joins; no conditions. -/
namespace Go.Proofs.Ytkfophlhpjbmgaa
open Go.RowKit Go.Maps Go.ChangeMaps
set_option maxRecDepth 100000
set_option linter.unusedVariables false
set_option linter.unusedSimpArgs false
def kA : K := (0, ⟨#[97]⟩)
theorem okA : Ok kA := ⟨rfl, by unfold maxLen; decide⟩
def cA : Me.Cf := ⟨5, 0, 0, 2, 2, 1, 0⟩
def XA : Gp := joX (G0 cA 0 []) 0 kA 1 0
theorem gt_G0 {c : Me.Cf} {now : Int} {xs : List Me.En} (h0 : 0 ≤ now) (h1 : now ≤ 4611686018427387904) : Gt (G0 c now xs) := ⟨Int.le_refl _, h0, h1⟩
theorem awA1 : mayE (G0 cA 0 []) 0 kA 1 0 = 0 := by kernel_rfl
theorem awA2 : (joJ (G0 cA 0 []) 0 kA 1 0).how = 5 ∧ (joJ (G0 cA 0 []) 0 kA 1 0).run = 1 := ⟨by kernel_rfl, by kernel_rfl⟩
theorem awA3 : mayE XA 0 kA 2 0 = 0 := by kernel_rfl
theorem awA4 : (joJ XA 0 kA 2 0).how = 3 ∧ (joJ XA 0 kA 2 0).run = 1 := ⟨by kernel_rfl, by kernel_rfl⟩
theorem awA5 : XA.mn = 0 ∧ XA.now = 0 := ⟨by kernel_rfl, by kernel_rfl⟩
theorem GqE.fresh {w w1 w2 : World} {g : Nat} {P : Pt} {F : List Nat} {X : Gp} {N : Cn} (T : Touch [] w w1) (hF : ∀ k, k ∈ F → w.heap.size ≤ k) (h : GqE w1 w2 g P F X N) : ∃ F', Gq w2 g P F' X N ∧ Touch [] w w2 ∧ ∀ k, k ∈ F' → w.heap.size ≤ k := by
  obtain ⟨F', q1, q2, q3⟩ := h
  exact ⟨F', q1, T.trans q2 (fun i hi => Or.inr (hF i hi)), fun k hk => (q3 k hk).elim (hF k) (fun e => Nat.le_trans T.size e)⟩
set_option maxHeartbeats 4000000 in
theorem awake_ (w : World) : Calls Try.prog 5 #[] w fun e w' => e = .returned (.bool true) ∧ Touch [] w w' := by
  have HN : Hid (Calls Try.prog 4 #[Me.cv cA] w fun e w1 => ∃ g P F, e = .returned (.tuple #[PT g, .int .i64 0]) ∧ Gq w1 g P F (G0 cA 0 []) C0 ∧ Touch [] w w1 ∧ ∀ k, k ∈ F → w.heap.size ≤ k) := hid (by
    refine (new_ w cA (by kernel_rfl) ⟨by decide, by decide, by decide, by decide⟩).mono ?_
    rintro e w1 ⟨g, rfl, P, F, q1, q2, q3⟩
    exact ⟨g, P, F, rfl, q1, q2, fun k hk => (q3 k hk).elim (fun e => by cases e) id⟩)
  have HJ1 : Hid (∀ w1 g P F, Gq w1 g P F (G0 cA 0 []) C0 → Touch [] w w1 → (∀ k, k ∈ F → w.heap.size ≤ k) → Calls Try.prog 10 #[PT g, .int .i64 0, kv kA, .int .i64 1, .int .i64 0] w1 fun e w2 => ∃ (J : Jd) (a : Option Addr) (n c : Nat) (F' : List Nat), e = .returned (.tuple #[.agg #[.int .i64 5, .int .i64 1, .bool J.bg, .int .i64 J.o.1, .int .i64 J.o.2.1, .int .i64 J.o.2.2.1, .int .i64 J.o.2.2.2, .slice a n c], .int .i64 0]) ∧ Gq w2 g P F' XA ⟨1, 1, 1⟩ ∧ Touch [] w w2 ∧ ∀ k, k ∈ F' → w.heap.size ≤ k) := hid (fun w1 g P F q t f => by
    refine (join_ q (gt_G0 (Int.le_refl _) (by decide)) 0 kA okA (W64.mk (by omega) (by omega)) (W64.mk (by omega) (by omega)) (by simp [C0]) (by simp [C0]) (by simp [C0])).mono ?_
    rintro e w2 ⟨v, rfl, n2, r2⟩
    obtain ⟨a, n, c, rfl⟩ := n2.2
    obtain ⟨F', s1, s2, s3⟩ := r2.fresh t f
    have hc : (joC (G0 cA 0 []) 0 kA 1 0 C0) = ⟨1, 1, 1⟩ := by kernel_rfl
    rw [hc] at s1
    refine ⟨joJ (G0 cA 0 []) 0 kA 1 0, a, n, c, F', ?_, s1, s2, s3⟩
    unfold jv jcs
    rw [awA1, awA2.1, awA2.2])
  have HJ2 : Hid (∀ w1 g P F, Gq w1 g P F XA ⟨1, 1, 1⟩ → Touch [] w w1 → (∀ k, k ∈ F → w.heap.size ≤ k) → Calls Try.prog 10 #[PT g, .int .i64 0, kv kA, .int .i64 2, .int .i64 0] w1 fun e w2 => ∃ (J : Jd) (a : Option Addr) (n c : Nat), e = .returned (.tuple #[.agg #[.int .i64 3, .int .i64 1, .bool J.bg, .int .i64 J.o.1, .int .i64 J.o.2.1, .int .i64 J.o.2.2.1, .int .i64 J.o.2.2.2, .slice a n c], .int .i64 0]) ∧ Touch [] w w2 ∧ Keeps w1 w2) := hid (fun w1 g P F q t f => by
    refine (join_ q ⟨by rw [awA5.1, awA5.2]; exact Int.le_refl _, by rw [awA5.2]; exact Int.le_refl _, by rw [awA5.2]; decide⟩ 0 kA okA (W64.mk (by omega) (by omega)) (W64.mk (by omega) (by omega)) (by simp) (by simp) (by simp)).mono ?_
    rintro e w2 ⟨v, rfl, n2, r2⟩
    obtain ⟨a, n, c, rfl⟩ := n2.2
    obtain ⟨F', s1, s2, s3⟩ := r2.fresh t f
    refine ⟨joJ XA 0 kA 2 0, a, n, c, ?_, s2, GqE.keeps q r2⟩
    unfold jv jcs
    rw [awA3, awA4.1, awA4.2])
  unfold Me.cv cA at HN
  unfold kA kv at HJ1 HJ2
  unfold PT at *
  go_enter Try.func5, Try.ntmps5
  go_upto_region 4 with (go_at_call 4; refine HN.out.mono ?_; rintro e w1 ⟨g, P, F, rfl, q1, t1, f1⟩; have HJ := hid (HJ1.out w1 g P F q1 t1 f1); clear q1 t1 f1)
  go_upto_region 5 with (go_at_call 10; refine HJ.out.mono ?_; rintro e w2 ⟨J, a, n, c, F', rfl, q2, t2, f2⟩; have Q2 := hid q2; have T2 := hid t2; have F2 := hid f2; clear q2 t2 f2)
  obtain ⟨W2, hW2⟩ : ∃ W2, W2 = w2.alloc (.cells #[.int .i64 5, .int .i64 1, .bool J.bg, .int .i64 J.o.1, .int .i64 J.o.2.1, .int .i64 J.o.2.2.1, .int .i64 J.o.2.2.2, .slice a n c] 48) := ⟨_, rfl⟩
  have h3 := heap_alloc_new w2 (.cells #[.int .i64 5, .int .i64 1, .bool J.bg, .int .i64 J.o.1, .int .i64 J.o.2.1, .int .i64 J.o.2.2.1, .int .i64 J.o.2.2.2, .slice a n c] 48)
  have t3 : Touch [] w2 W2 := by rw [hW2]; exact (Touch.refl _ _).alloc _
  rw [← hW2] at h3 ⊢
  have HJ3 := hid (HJ2.out W2 g P F' (Q2.out.keep0 t3) (T2.out.trans' t3) F2.out)
  have H3 := hid h3
  clear hW2 h3 t3 HJ HJ1 HJ2 HN
  go_upto_region 6 with (go_at_call 10; refine HJ3.out.mono ?_; rintro e w4 ⟨J', a', n', c', rfl, t4, k4⟩; have h4 := k4 _ _ _ _ (by decide) H3.out; have T4 := hid t4; clear t4 k4)
  have x0 := cell_at (j := 0) h4 rfl
  have x1 := cell_at (j := 1) h4 rfl
  have hlt : w2.heap.size < w4.heap.size := block_lt h4
  have hne : w2.heap.size ≠ w4.heap.size := by omega
  have hne' : w4.heap.size ≠ w2.heap.size := by omega
  clear h4
  go_wp2
  go_ret
  exact ⟨rfl, T4.out.alloc _⟩
end Go.Proofs.Ytkfophlhpjbmgaa
/- What a group answers without being changed, by what its parts answer, of a nil one, too; no conditions but those that each states. -/
namespace Go.Proofs.Ytkfophlhpjbmgaa
open Go.RowKit Go.Maps Go.ChangeMaps
set_option maxRecDepth 100000
set_option linter.unusedVariables false
set_option linter.unusedSimpArgs false
structure Ow (w : World) (ga ma ta ba sa : Option Addr) : Prop where
  o : ∀ w1, Touch [] w w1 → Calls Try.prog 14 #[.pointer ga] w1 fun e w2 => e = .returned (.agg #[.pointer ma, .pointer ta, .pointer ba, .pointer sa]) ∧ Touch [] w1 w2
def ad (g : Nat) : Option Addr := some ⟨g, 0, none⟩
theorem Ow.of {w : World} {g : Nat} {P : Pt} {F : List Nat} {X : Gp} {N : Cn} (h : Gq w g P F X N) : Ow w (ad g) (ad P.m) (ad P.t) (ad P.b) (ad P.s) := ⟨fun w1 T => own_ (h.keep0 T)⟩
theorem fldP (w : World) (a b c d : Option Addr) : (Instr.field 61 (.agg #[.pointer a, .pointer b, .pointer c, .pointer d]) 0).run Try.prog w = .ok (.pointer a) w ∧ (Instr.field 61 (.agg #[.pointer a, .pointer b, .pointer c, .pointer d]) 1).run Try.prog w = .ok (.pointer b) w ∧ (Instr.field 61 (.agg #[.pointer a, .pointer b, .pointer c, .pointer d]) 2).run Try.prog w = .ok (.pointer c) w ∧ (Instr.field 61 (.agg #[.pointer a, .pointer b, .pointer c, .pointer d]) 3).run Try.prog w = .ok (.pointer d) w := ⟨by kernel_rfl, by kernel_rfl, by kernel_rfl, by kernel_rfl⟩
section
variable {w : World} {ga ma ta ba sa : Option Addr}
theorem gath_any (O : Ow w ga ma ta ba sa) (R : Value → World → Prop) (H : ∀ w1, Touch [] w w1 → Calls Try.prog 21 #[.pointer ba] w1 fun e w2 => ∃ v, e = .returned v ∧ R v w2) : Calls Try.prog 11 #[.pointer ga] w fun e w2 => ∃ v, e = .returned v ∧ R v w2 := by
  have HO := hid O.o
  have HI := hid H
  clear O H
  go_enter Try.func11, Try.ntmps11
  go_wp2_with (first
    | (go_at_call 14; refine (HO.out _ (Touch.refl _ _)).mono ?_; rintro e w1 ⟨rfl, t1⟩; have T1 := hid t1; clear t1; obtain ⟨p0, p1, p2, p3⟩ := fldP w1 ma ta ba sa)
    | (go_at_call 21; refine (HI.out _ T1.out).mono ?_; rintro e w2 ⟨v, rfl, r2⟩; have R2 := hid r2; clear r2))
  go_ret
  exact ⟨_, rfl, R2.out⟩
theorem next_any (O : Ow w ga ma ta ba sa) (R : Int → Bool → World → Prop) (H : ∀ w1, Touch [] w w1 → Calls Try.prog 15 #[.pointer ba] w1 fun e w2 => ∃ a b, e = .returned (.tuple #[.int .i64 a, .bool b]) ∧ R a b w2) : Calls Try.prog 7 #[.pointer ga] w fun e w2 => ∃ a b, e = .returned (.tuple #[.int .i64 a, .bool b]) ∧ R a b w2 := by
  have HO := hid O.o
  have HI := hid H
  clear O H
  go_enter Try.func7, Try.ntmps7
  go_wp2_with (first
    | (go_at_call 14; refine (HO.out _ (Touch.refl _ _)).mono ?_; rintro e w1 ⟨rfl, t1⟩; have T1 := hid t1; clear t1; obtain ⟨p0, p1, p2, p3⟩ := fldP w1 ma ta ba sa)
    | (go_at_call 15; refine (HI.out _ T1.out).mono ?_; rintro e w2 ⟨a, b, rfl, r2⟩; have R2 := hid r2; clear r2))
  exact bodyPost_ret (v := .tuple #[.int .i64 a, .bool b]) (by simp [results, Try.results7, go_sem]) rfl ⟨_, _, rfl, R2.out⟩
end
end Go.Proofs.Ytkfophlhpjbmgaa
/- The contracts of a batch's Send and Force as steps, of a nil batch's methods, and of the law's awake; no conditions but those that each states. -/
namespace Go.Proofs.Ytkfophlhpjbmgaa.Ba
open Go.RowKit Go.Maps Go.ChangeMaps
set_option maxRecDepth 100000
set_option linter.unusedVariables false
set_option linter.unusedSimpArgs false
section
variable {w : World} {b N : Nat} {sl : Value} {d n x : Int} {S : Bs}
theorem send_mid (h : Bm w b sl d S) : Bm (w.setCell ⟨b, 2, none⟩ (.int .i64 n)) b sl d (sendM S n) ∧ Touch [b] w (w.setCell ⟨b, 2, none⟩ (.int .i64 n)) := by
  have TB : Touch [b] w (w.setCell ⟨b, 2, none⟩ (.int .i64 n)) := (Touch.refl _ _).setCell (Or.inl (by simp)) _
  refine ⟨⟨?_, own_touch h.row TB (fun q hq e => by simp only [List.mem_singleton] at e; exact h.ne hq e), h.du⟩, TB⟩
  have := bset (i := 2) h.hb (.int .i64 n)
  simpa [pc, sendM] using this
theorem force_step {w0 : World} {F : List Nat} (h : Bm w b sl d S) (hv : Iv S N) (hN : N ≤ 6000000000000) (ht : Touch F w0 w) (hf : Nf w0 F (fpB b sl)) : Calls Try.prog 31 #[PT b] w fun e w' => ∃ v, e = .returned v ∧ (∃ a n c, v = .slice a n c) ∧ BqE w0 w' b F (forceS S) (N + 1) S.run v := by
  have hs1 := hv.n1
  have hs2 := hv.n2
  refine (force_ h hs1 (by omega)).mono ?_
  rintro e w2 ⟨v, sl', rfl, hfo, q1, q2, q3, q4⟩
  refine ⟨v, rfl, hfo, ⟨fpB b sl', ⟨sl', d, rfl, q1, hv.force⟩, ht.trans q3 (fun q hq => hf q (by simp only [List.mem_singleton] at hq; exact mem_fpB.2 (Or.inl hq))), fun q hq => hf q ?_⟩, q4, hfo⟩
  rcases q2 with rfl | rfl
  · exact hq
  · rcases mem_fpB.1 hq with e | e
    · exact mem_fpB.2 (Or.inl e)
    · cases e
set_option maxHeartbeats 2000000 in
theorem send_ (h : Bm w b sl d S) (hv : Iv S N) (hN : N ≤ 6000000000000) : Calls Try.prog 17 #[PT b, .int .i64 n] w fun e w' => ∃ v, e = .returned (.tuple #[v, .int .i64 (wrongE S n)]) ∧ BqE w w' b (fpB b sl) (sendS S n) (N + 1) (sendL S n) v := by
  have HT := hid (tell_ h n)
  by_cases hw : wrongE S n ≠ 0
  · have HS := hid (bq_same h hv)
    have e1 : sendS S n = S := by unfold sendS; rw [if_pos hw]
    have e2 : sendL S n = [] := by unfold sendL; rw [if_pos hw]
    rw [e1, e2]
    have hk : (wrongE S n != 0) = true := by simpa using hw
    clear e1 e2 hw h hv
    generalize wrongE S n = k at *
    unfold PT at *
    go_enter Try.func17, Try.ntmps17
    go_wp2_with (go_at_call 30; refine (HT.out).mono ?_; rintro e w2 ⟨rfl, e2⟩; rw [e2]; clear e2 w2)
    exact bodyPost_ret (v := .tuple #[.slice none 0 0, .int .i64 k]) (by simp [results, Try.results17, go_sem]) rfl ⟨_, rfl, HS.out⟩
  · have hw0 : wrongE S n = 0 := Decidable.not_not.1 hw
    obtain ⟨g1, g2, g3⟩ := wrong0 hw
    have hm : Iv (sendM S n) N := { hv with t1 := g1, t2 := g2 }
    have e1 : sendS S n = if sendF S n then forceS (sendM S n) else sendM S n := by unfold sendS; rw [if_neg hw]
    have e2 : sendL S n = if sendF S n then S.run else [] := by unfold sendL; rw [if_neg hw]
    rw [hw0] at HT ⊢
    rw [e1, e2]
    have c2 := cell_at (j := 2) (v := .int .i64 S.tim) h.hb rfl
    have ff := froz_at h.hb
    obtain ⟨W1, hW1⟩ : ∃ W1, W1 = w.setCell ⟨b, 2, none⟩ (.int .i64 n) := ⟨_, rfl⟩
    obtain ⟨h1, t1⟩ := send_mid (n := n) h
    rw [← hW1] at h1 t1
    have ht : Touch (fpB b sl) w W1 := t1.mono (fun q hq => by simp only [List.mem_singleton] at hq; exact mem_fpB.2 (Or.inl hq))
    have HD := hid (due_ h1)
    have HF := hid (force_step h1 hm hN ht (Nf.refl _ _))
    have HN : Hid (BqE w W1 b (fpB b sl) (sendM S n) (N + 1) [] (.slice none 0 0)) := hid ⟨⟨fpB b sl, ⟨sl, d, rfl, h1, hm.mono (Nat.le_succ N)⟩, ht, Nf.refl _ _⟩, Rd.nil _, _, _, _, rfl⟩
    have er : (sendM S n).run = S.run := rfl
    have ed : dueV (sendM S n) = dueV S := rfl
    rw [er, ed] at HD
    rw [er] at HF
    clear e1 e2 hw0 hw h hv hm t1 ht h1 er ed g1 g2 g3
    unfold PT at *
    by_cases he : S.run = []
    · have hf : sendF S n = false := by simp [sendF, he]
      rw [hf]
      simp only [Bool.false_eq_true, if_false]
      rw [show decide (S.run ≠ []) = false by simp [he]] at HD
      clear HF hf he
      generalize dueV S = k at *
      go_enter Try.func17, Try.ntmps17
      go_upto_region 5 with (go_at_call 30; refine (HT.out).mono ?_; rintro e w2 ⟨rfl, e2⟩; rw [e2]; clear e2 w2)
      rw [← hW1]
      clear hW1 c2 ff
      go_wp2_with (go_at_call 15; refine (HD.out).mono ?_; rintro e w2 ⟨rfl, e2⟩; rw [e2]; clear e2 w2)
      exact bodyPost_ret (v := .tuple #[.slice none 0 0, .int .i64 0]) (by simp [results, Try.results17, go_sem]) rfl ⟨_, rfl, HN.out⟩
    · have hk : dueV S = dueS S := by unfold dueV; rw [if_neg he]
      rw [show decide (S.run ≠ []) = true by simp [he], hk] at HD
      by_cases hf : dueS S ≤ n
      · have hs : sendF S n = true := by simp [sendF, he, hf]
        rw [hs]
        simp only [if_true]
        clear HN hs he hk
        generalize dueS S = k at *
        have hg : ¬ n < k := by omega
        clear hf
        go_enter Try.func17, Try.ntmps17
        go_upto_region 5 with (go_at_call 30; refine (HT.out).mono ?_; rintro e w2 ⟨rfl, e2⟩; rw [e2]; clear e2 w2)
        rw [← hW1]
        clear hW1 c2 ff
        go_wp2_with (first | (go_at_call 15; refine (HD.out).mono ?_; rintro e w2 ⟨rfl, e2⟩; rw [e2]; clear e2 w2) | (go_at_call 31; refine (HF.out).mono ?_; rintro e w8 ⟨v8, rfl, ⟨a8, n8, c8, rfl⟩, q8⟩; have Q8 := hid q8; clear q8))
        exact bodyPost_ret (v := .tuple #[.slice a8 n8 c8, .int .i64 0]) (by simp [results, Try.results17, go_sem]) rfl ⟨_, rfl, Q8.out⟩
      · have hs : sendF S n = false := by simp [sendF, hf]
        rw [hs]
        simp only [Bool.false_eq_true, if_false]
        clear HF hs he hk
        generalize dueS S = k at *
        have hg : n < k := by omega
        clear hf
        go_enter Try.func17, Try.ntmps17
        go_upto_region 5 with (go_at_call 30; refine (HT.out).mono ?_; rintro e w2 ⟨rfl, e2⟩; rw [e2]; clear e2 w2)
        rw [← hW1]
        clear hW1 c2 ff
        go_wp2_with (go_at_call 15; refine (HD.out).mono ?_; rintro e w2 ⟨rfl, e2⟩; rw [e2]; clear e2 w2)
        exact bodyPost_ret (v := .tuple #[.slice none 0 0, .int .i64 0]) (by simp [results, Try.results17, go_sem]) rfl ⟨_, rfl, HN.out⟩
end
section
variable (w : World)
end
end Go.Proofs.Ytkfophlhpjbmgaa.Ba
/- What leaving, forgetting, ending and sending do, in plain words, and the parts' contracts for them as steps of the group; no conditions but those that each states. -/
namespace Go.Proofs.Ytkfophlhpjbmgaa
open Go.RowKit Go.Maps Go.ChangeMaps
set_option maxRecDepth 100000
set_option linter.unusedVariables false
set_option linter.unusedSimpArgs false
section
variable {w w1 : World} {g : Nat} {P : Pt} {F : List Nat} {X : Gp} {N : Cn}
theorem bsend_at (Q : GqE w w1 g P F X N) (hN : N.b ≤ 6000000000000) (n : Int) : Calls Try.prog 17 #[PT P.b, .int .i64 n] w1 fun e w2 => ∃ v, e = .returned (.tuple #[v, .int .i64 (Ba.wrongE X.B n)]) ∧ Snt w2 v (Ba.sendL X.B n) ∧ GqE w w2 g P F { X with B := Ba.sendS X.B n } { N with b := N.b + 1 } ∧ Keeps w1 w2 := by
  obtain ⟨Fb, ⟨sl, d, rfl, hm, hv⟩, hs⟩ := Q.bat
  refine (Ba.send_ hm hv hN).mono ?_
  rintro e w2 ⟨v, e1, e2, e3, e4⟩
  exact ⟨v, e1, ⟨e3, e4⟩, hs _ _ _ e2⟩
end
def sndX (X : Gp) (n : Int) : Gp := if tkE X n ≠ 0 then X else { X with now := n, B := Ba.sendS X.B n }
def sndL (X : Gp) (n : Int) : List Int := if tkE X n ≠ 0 then [] else Ba.sendL X.B n
def sndE (X : Gp) (n : Int) : Int := if tkE X n ≠ 0 then tkE X n else Ba.wrongE X.B n
section
variable {w : World} {g : Nat} {P : Pt} {F : List Nat} {X : Gp} {N : Cn}
set_option maxHeartbeats 4000000 in
theorem send_ (h : Gq w g P F X N) (n : Int) (hB : N.b ≤ 6000000000000) : Calls Try.prog 8 #[PT g, .int .i64 n] w fun e w' => ∃ v, e = .returned (.tuple #[v, .int .i64 (sndE X n)]) ∧ Snt w' v (sndL X n) ∧ GqE w w' g P F (sndX X n) (if tkE X n ≠ 0 then N else { N with b := N.b + 1 }) := by
  have HC := hid (check_ h n)
  have Q0 : GqE w w g P F X N := GqE.refl h
  have HW : Hid (GqE w (w.setCell ⟨g, 4, none⟩ (.int .i64 n)) g P F { X with now := n } N) := hid (Q0.setNow n).1
  have HB : Hid (∀ w1, GqE w w1 g P F { X with now := n } N → Calls Try.prog 17 #[PT P.b, .int .i64 n] w1 fun e w2 => ∃ a m c, e = .returned (.tuple #[.slice a m c, .int .i64 (Ba.wrongE X.B n)]) ∧ Snt w2 (.slice a m c) (Ba.sendL X.B n) ∧ GqE w w2 g P F { X with now := n, B := Ba.sendS X.B n } { N with b := N.b + 1 }) := hid (fun w1 Q => by
    refine (bsend_at Q hB n).mono ?_
    rintro e w2 ⟨v, e1, e2, e3, e4⟩
    obtain ⟨a, m, c, rfl⟩ := e2.2
    exact ⟨a, m, c, e1, e2, e3⟩)
  have HG : Hid (∀ w1, GqE w w1 g P F { X with now := n } N → GmC w1 g P n) := hid (fun w1 Q => Q.cs)
  have HQ := hid Q0
  have HN : Hid (∀ w2, Snt w2 (.slice none 0 0) []) := hid (fun w2 => Snt.nil w2)
  have f4 := h.cs.f4
  have c4 := h.cs.c4
  clear h Q0 hB
  unfold sndX sndL sndE
  generalize ({ X with now := n } : Gp) = X1 at *
  unfold PT at *
  by_cases hz : tkE X n ≠ 0
  · rw [if_pos hz, if_pos hz, if_pos hz, if_pos hz]
    have hz' : (tkE X n != 0) = true := by simp [hz]
    clear HB HW HG hz
    generalize tkE X n = E at *
    go_enter Try.func8, Try.ntmps8
    go_wp2_with (go_at_call 16; refine HC.out.mono ?_; rintro e w2 ⟨rfl, rfl⟩)
    exact bodyPost_ret (v := .tuple #[.slice none 0 0, .int .i64 E]) (by simp [results, Try.results8, go_sem]) rfl ⟨_, rfl, HN.out _, HQ.out⟩
  · rw [if_neg hz, if_neg hz, if_neg hz, if_neg hz]
    have hz0 : tkE X n = 0 := by simpa using hz
    rw [hz0] at HC
    clear hz hz0
    generalize Ba.wrongE X.B n = E at *
    go_enter Try.func8, Try.ntmps8
    go_upto_region 5 with (go_at_call 16; refine HC.out.mono ?_; rintro e w2 ⟨rfl, rfl⟩)
    have q1 := HW.out
    obtain ⟨W1, hW1⟩ : ∃ W1, W1 = w2.setCell ⟨g, 4, none⟩ (.int .i64 n) := ⟨_, rfl⟩
    rw [← hW1] at q1 ⊢
    have c2 := (HG.out _ q1).c2
    have Q1 := hid q1
    clear hW1 q1 c4 f4
    go_wp2_with (go_at_call 17; refine (HB.out _ Q1.out).mono ?_; rintro e w3 ⟨a, m, c, rfl, n3, q3⟩; have N3 := hid n3; have Q3 := hid q3; clear n3 q3)
    exact bodyPost_ret (v := .tuple #[.slice a m c, .int .i64 E]) (by simp [results, Try.results8, go_sem]) rfl ⟨_, rfl, N3.out, Q3.out⟩
end
end Go.Proofs.Ytkfophlhpjbmgaa
/- Loads of a group in plain words: the ones begun go out in their order, none too late; no program. -/
namespace Go.Proofs.Ytkfophlhpjbmgaa
set_option linter.unusedVariables false
set_option linter.unusedSimpArgs false
def nums (a : Int) (n : Nat) : List Int := (List.range n).map (fun i : Nat => a + 1 + (i : Int))
theorem nums_len (a : Int) (n : Nat) : (nums a n).length = n := by simp [nums]
theorem nums_succ (a : Int) (n : Nat) : nums a (n + 1) = nums a n ++ [a + 1 + (n : Int)] := by simp [nums, List.range_succ]
theorem nums_at {a : Int} {n i : Nat} (h : i < n) : (nums a n)[i]? = some (a + 1 + (i : Int)) := by simp [nums, h]
def updT (f : Int → Int) (k v : Int) : Int → Int := fun j => if j = k then v else f j
structure Bd (B : Ba.Bs) (c : Me.Cf) (now s b : Int) (f : Int → Int) : Prop where
  cnt : B.cnt = c.b
  win : B.win = c.d
  lst : B.lst = b
  tim : B.tim ≤ now
  run : B.run = nums s B.run.length
  len : (B.run.length : Int) = b - s
  sz : (B.run.length : Int) < c.b
  s0 : 0 ≤ s
  due : B.run ≠ [] → now ≤ Ba.dueS B
  sn : B.run ≠ [] → 0 ≤ B.snc ∧ B.snc ≤ now
  si : ∀ n ∈ B.run, B.snc ≤ f n ∧ f n ≤ now
  fz : ∀ n, 0 ≤ f n ∧ f n ≤ now
theorem aft_ge {n d : Int} (h : n ≤ 4611686018427387904) (hd : 0 ≤ d) : n ≤ Ba.aft n d := by unfold Ba.aft; split <;> omega
theorem aft_le {n d : Int} (hd : 0 ≤ d) : Ba.aft n d ≤ n + d ∧ Ba.aft n d ≤ 4611686018427387904 := by unfold Ba.aft; split <;> omega
theorem wrong_no {S : Ba.Bs} {n : Int} (h0 : 0 ≤ n) (h1 : n ≤ 4611686018427387904) (h2 : S.tim ≤ n) : Ba.wrongE S n = 0 := by
  unfold Ba.wrongE
  rw [if_neg (by omega), if_neg (by omega), if_neg (by omega)]
theorem force_run (S : Ba.Bs) : (Ba.forceS S).run = [] := by unfold Ba.forceS; split <;> simp_all
theorem force_keep (S : Ba.Bs) : (Ba.forceS S).cnt = S.cnt ∧ (Ba.forceS S).win = S.win ∧ (Ba.forceS S).lst = S.lst ∧ (Ba.forceS S).tim = S.tim := by unfold Ba.forceS; split <;> simp
theorem Bd.later {B : Ba.Bs} {c : Me.Cf} {now s b : Int} {f : Int → Int} (h : Bd B c now s b f) {tt : Int} (h1 : now ≤ tt) (h2 : B.run ≠ [] → tt ≤ Ba.dueS B) : Bd B c tt s b f :=
  ⟨h.cnt, h.win, h.lst, by have := h.tim; omega, h.run, h.len, h.sz, h.s0, h2, fun e => ⟨(h.sn e).1, by have := (h.sn e).2; omega⟩, fun n hn => ⟨(h.si n hn).1, by have := (h.si n hn).2; omega⟩, fun n => ⟨(h.fz n).1, by have := (h.fz n).2; omega⟩⟩
theorem Bd.add {B : Ba.Bs} {c : Me.Cf} {now s b : Int} {f : Int → Int} (h : Bd B c now s b f) (h0 : 0 ≤ now) (h1 : now ≤ 4611686018427387904) (hc : 1 ≤ c.b) (hd : 0 ≤ c.d) :
    ∃ m : Nat, Ba.addL B now (b + 1) = nums s m ∧ (m : Int) ≤ c.b ∧ Bd (Ba.addS B now (b + 1)) c now (s + m) (b + 1) (updT f (b + 1) now) := by
  have hs := h.s0
  have hl := h.len
  have e0 : Ba.addE B now (b + 1) = 0 := by
    unfold Ba.addE
    rw [wrong_no h0 h1 h.tim, h.lst]
    rw [if_neg (by simp), if_neg (by omega), if_neg (by omega)]
  have hr : B.run ++ [b + 1] = nums s (B.run.length + 1) := by
    rw [nums_succ, ← h.run]
    congr 2
    omega
  have fz : ∀ n, 0 ≤ updT f (b + 1) now n ∧ updT f (b + 1) now n ≤ now := fun n => by
    unfold updT
    split
    · omega
    · exact h.fz n
  unfold Ba.addL Ba.addS
  rw [e0]
  simp only [ne_eq, not_true_eq_false, if_false]
  by_cases hf : Ba.addF B = true
  · rw [if_pos hf, if_pos hf]
    refine ⟨B.run.length + 1, hr, by have := h.sz; omega, ?_⟩
    obtain ⟨k1, k2, k3, k4⟩ := force_keep (Ba.addM B now (b + 1))
    have k5 := force_run (Ba.addM B now (b + 1))
    exact ⟨by rw [k1]; exact h.cnt, by rw [k2]; exact h.win, by rw [k3]; rfl, by rw [k4]; exact Int.le_refl _, by rw [k5]; rfl, by rw [k5]; simp; omega, by rw [k5]; simp; omega, by omega, fun e => absurd k5 e, fun e => absurd k5 e, fun n hn => by rw [k5] at hn; simp at hn, fz⟩
  · rw [if_neg hf, if_neg hf]
    have hf2 : Ba.addF B = false := by simpa using hf
    unfold Ba.addF at hf2
    simp only [Bool.or_eq_false_iff, decide_eq_false_iff_not] at hf2
    rw [h.cnt, h.win] at hf2
    refine ⟨0, rfl, by omega, ?_⟩
    have hx : (Ba.addM B now (b + 1)).run = B.run ++ [b + 1] := rfl
    have hy : (Ba.addM B now (b + 1)).snc = if B.run = [] then now else B.snc := rfl
    have hz : (Ba.addM B now (b + 1)).win = c.d := h.win
    have hsn : 0 ≤ (Ba.addM B now (b + 1)).snc ∧ (Ba.addM B now (b + 1)).snc ≤ now := by
      rw [hy]
      split
      · omega
      · rename_i e; exact h.sn e
    refine ⟨h.cnt, h.win, rfl, Int.le_refl _, ?_, ?_, ?_, by simpa using hs, fun _ => ?_, fun _ => hsn, fun n hn => ?_, fz⟩
    · rw [hx, hr, nums_len]; simp
    · rw [hx]; simp; omega
    · rw [hx]; have := hf2.1; simp; omega
    · unfold Ba.dueS
      rw [hz, hy]
      split
      · exact aft_ge h1 hd
      · rename_i e
        have := h.due e
        unfold Ba.dueS at this
        rwa [h.win] at this
    · rw [hx] at hn
      unfold updT
      split
      · exact ⟨hsn.2, Int.le_refl _⟩
      · rename_i hne
        rcases List.mem_append.1 hn with q | q
        · have := h.si n q
          rw [hy, if_neg (fun e => by rw [e] at q; simp at q)]
          exact this
        · simp at q; exact absurd q hne
theorem Bd.send {B : Ba.Bs} {c : Me.Cf} {now s b : Int} {f : Int → Int} (h : Bd B c now s b f) (h0 : 0 ≤ now) (hd : 0 ≤ c.d) (hc : 1 ≤ c.b) (hr : B.run ≠ []) :
    now ≤ Ba.dueS B ∧ Ba.dueS B ≤ 4611686018427387904 ∧ Ba.wrongE B (Ba.dueS B) = 0 ∧ Ba.sendL B (Ba.dueS B) = B.run ∧ (∀ n ∈ B.run, 0 ≤ Ba.dueS B - f n ∧ Ba.dueS B - f n ≤ c.d) ∧ (Ba.sendS B (Ba.dueS B)).run = [] ∧ Bd (Ba.sendS B (Ba.dueS B)) c (Ba.dueS B) (s + B.run.length) b f := by
  have h1 := h.due hr
  have h2 : Ba.dueS B ≤ 4611686018427387904 ∧ Ba.dueS B ≤ B.snc + c.d := by
    unfold Ba.dueS
    rw [h.win]
    exact ⟨(aft_le hd).2, (aft_le hd).1⟩
  have h3 : Ba.wrongE B (Ba.dueS B) = 0 := wrong_no (by omega) h2.1 (by have := h.tim; omega)
  have h4 : Ba.sendF B (Ba.dueS B) = true := by unfold Ba.sendF; simp [hr]
  have h5 : Ba.sendS B (Ba.dueS B) = Ba.forceS (Ba.sendM B (Ba.dueS B)) := by unfold Ba.sendS; rw [h3]; simp [h4]
  obtain ⟨k1, k2, k3, k4⟩ := force_keep (Ba.sendM B (Ba.dueS B))
  have k5 := force_run (Ba.sendM B (Ba.dueS B))
  have hl := h.len
  have hs := h.s0
  refine ⟨h1, h2.1, h3, by unfold Ba.sendL; rw [h3]; simp [h4], fun n hn => ?_, by rw [h5]; exact k5, ?_⟩
  · have := h.si n hn; omega
  · rw [h5]
    exact ⟨by rw [k1]; exact h.cnt, by rw [k2]; exact h.win, by rw [k3]; exact h.lst, by rw [k4]; exact Int.le_refl _, by rw [k5]; rfl, by rw [k5]; simp; omega, by rw [k5]; simp; omega, by omega, fun e => absurd k5 e, fun e => absurd k5 e, fun n hn => by rw [k5] at hn; simp at hn, fun n => ⟨(h.fz n).1, by have := (h.fz n).2; omega⟩⟩
def Js (X Y : Gp) (J : Jd) : Prop := Y.G = X.G ∧ Y.now = X.now ∧ ((J.bg = false ∧ J.sent = [] ∧ Y.B = X.B ∧ Y.T.bg = X.T.bg) ∨ (J.bg = true ∧ J.run = X.T.bg + 1 ∧ Y.T.bg = X.T.bg + 1 ∧ Y.B = Ba.addS X.B X.now (X.T.bg + 1) ∧ J.sent = Ba.addL X.B X.now (X.T.bg + 1)))
theorem beg_bg {T : Ta.Tb} {k : K} {x : Int} {rf : Bool} (h : Ta.tBegE T k x rf = 0) : (Ta.tBeg T k x rf).bg = T.bg + 1 := by unfold Ta.tBeg; rw [if_pos h]
theorem js_ren (X : Gp) (k : K) : Js X (renX X k) (renJ X k) := by
  unfold renX renJ
  split
  · exact ⟨rfl, rfl, Or.inl ⟨rfl, rfl, rfl, rfl⟩⟩
  · by_cases h : Ta.tBegE X.T k 0 true = 0
    · rw [if_pos h, if_pos h]
      exact ⟨rfl, rfl, Or.inr ⟨rfl, rfl, beg_bg h, rfl, rfl⟩⟩
    · rw [if_neg h, if_neg h]
      exact ⟨rfl, rfl, Or.inl ⟨rfl, rfl, rfl, rfl⟩⟩
theorem js_mee (X : Gp) (k : K) (h : Int) : Js X (meeX X k h) (meeJ X k h) := by
  unfold meeX meeJ
  by_cases h2 : h = 2
  · rw [if_pos h2, if_neg (by omega), if_pos h2]
    exact js_ren X k
  · rw [if_neg h2]
    by_cases h1 : h = 1
    · rw [if_pos h1]
      exact ⟨rfl, rfl, Or.inl ⟨rfl, rfl, rfl, rfl⟩⟩
    · rw [if_neg h1, if_neg h2]
      exact ⟨rfl, rfl, Or.inl ⟨rfl, rfl, rfl, rfl⟩⟩
theorem mee_no {X : Gp} {k : K} {h : Int} (hb : meeB X k h = false) : meeX X k h = X := by
  unfold meeB at hb
  unfold meeX
  by_cases h2 : h = 2
  · rw [if_pos h2]
    rw [if_neg (by omega), if_pos h2] at hb
    unfold renB at hb
    simp only [Bool.or_eq_false_iff, decide_eq_false_iff_not] at hb
    unfold renX
    split
    · rfl
    · rw [if_neg hb.2]
  · rw [if_neg h2]
theorem js_wai (X : Gp) (k : K) (x t : Int) : Js X (waiX X k x t) (waiJ X k x) := by
  unfold waiX waiJ
  split
  · rename_i R _
    refine ⟨rfl, rfl, Or.inl ⟨rfl, rfl, rfl, ?_⟩⟩
    show (Ta.tJoin X.T R.run x).bg = X.T.bg
    unfold Ta.tJoin
    split
    · rfl
    · rfl
  · by_cases h : Ta.tBegE X.T k x false = 0
    · rw [if_pos h, if_pos h]
      exact ⟨rfl, rfl, Or.inr ⟨rfl, rfl, beg_bg h, rfl, rfl⟩⟩
    · rw [if_neg h, if_neg h]
      exact ⟨rfl, rfl, Or.inl ⟨rfl, rfl, rfl, rfl⟩⟩
theorem js_jo {X : Gp} {n : Int} {k : K} {x t : Int} (h : mayE X n k x t = 0) : Js { X with now := n } (joX X n k x t) (joJ X n k x t) := by
  unfold joX joJ
  rw [if_neg (show ¬ (mayE X n k x t ≠ 0) from fun e => e h), if_neg (show ¬ (mayE X n k x t ≠ 0) from fun e => e h)]
  by_cases hb : telB { X with now := n } k = true
  · rw [if_pos hb, if_pos hb]
    obtain ⟨a, b, c⟩ := js_mee { X with now := n } k (seenOf { X with now := n } k).1
    unfold telX telJ
    rw [if_pos hb, if_pos hb]
    exact ⟨a, b, c⟩
  · rw [if_neg hb, if_neg hb]
    have hb2 : telB { X with now := n } k = false := by simpa using hb
    have e : telX { X with now := n } k = { X with now := n, mn := n } := by
      unfold telX
      rw [if_neg hb, mee_no hb2]
    rw [e]
    exact js_wai _ k x t
theorem jo_mn {X : Gp} {n : Int} {k : K} {x t : Int} (h : mayE X n k x t = 0) : (joX X n k x t).mn = n := by
  unfold joX
  rw [if_neg (show ¬ (mayE X n k x t ≠ 0) from fun e => e h)]
  by_cases hb : telB { X with now := n } k = true
  · rw [if_pos hb]
    unfold telX
    rw [if_pos hb]
  · rw [if_neg hb]
    have e : (telX { X with now := n } k).mn = n := by unfold telX; rw [if_neg hb]
    unfold waiX
    split
    · exact e
    · split
      · exact e
      · exact e
structure Sd (X : Gp) (c : Me.Cf) (now s b : Int) (f : Int → Int) : Prop where
  mn : X.mn ≤ X.now
  z : 0 ≤ X.now
  n1 : X.now ≤ now
  n2 : now ≤ 4611686018427387904
  g : X.G = []
  bg : X.T.bg = b
  bd : Bd X.B c now s b f
variable {X : Gp} {c : Me.Cf} {now s b : Int} {f : Int → Int}
theorem Sd.gt (h : Sd X c now s b f) : Gt X := ⟨h.mn, h.z, by have := h.n1; have := h.n2; omega⟩
theorem sd_G0 {c : Me.Cf} (hc : 1 ≤ c.b) : Sd (G0 c 0 []) c 0 0 0 (fun _ => 0) :=
  ⟨Int.le_refl _, Int.le_refl _, Int.le_refl _, by omega, rfl, rfl, ⟨rfl, rfl, rfl, Int.le_refl _, rfl, rfl, by show (0 : Int) < c.b; omega, Int.le_refl _, fun e => absurd rfl e, fun e => absurd rfl e, fun n hn => by simp [G0, Ba.S0] at hn, fun _ => ⟨Int.le_refl _, Int.le_refl _⟩⟩⟩
theorem Sd.later (h : Sd X c now s b f) {tt : Int} (h1 : now ≤ tt) (h3 : tt ≤ 4611686018427387904) (h2 : X.B.run ≠ [] → tt ≤ Ba.dueS X.B) : Sd X c tt s b f :=
  ⟨h.mn, h.z, by have := h.n1; omega, h3, h.g, h.bg, h.bd.later h1 h2⟩
theorem tk_no {X : Gp} {n : Int} (h0 : 0 ≤ n) (h1 : n ≤ 4611686018427387904) (h2 : X.now ≤ n) : tkE X n = 0 := by
  unfold tkE Me.tickE Me.isT
  rw [if_pos (by simp; omega), if_neg (by omega)]
theorem Sd.send (h : Sd X c now s b f) (hd : 0 ≤ c.d) (hc : 1 ≤ c.b) (hr : X.B.run ≠ []) :
    now ≤ Ba.dueS X.B ∧ Ba.dueS X.B ≤ 4611686018427387904 ∧ sndE X (Ba.dueS X.B) = 0 ∧ tkE X (Ba.dueS X.B) = 0 ∧ sndL X (Ba.dueS X.B) = nums s X.B.run.length ∧ (X.B.run.length : Int) ≤ c.b ∧ (∀ n ∈ X.B.run, 0 ≤ Ba.dueS X.B - f n ∧ Ba.dueS X.B - f n ≤ c.d) ∧ (sndX X (Ba.dueS X.B)).B.run = [] ∧ Sd (sndX X (Ba.dueS X.B)) c (Ba.dueS X.B) (s + X.B.run.length) b f := by
  obtain ⟨q1, q2, q3, q4, q5, q6, q7⟩ := h.bd.send (by have := h.z; have := h.n1; omega) hd hc hr
  have t0 : tkE X (Ba.dueS X.B) = 0 := tk_no (by have := h.z; have := h.n1; omega) q2 (by have := h.n1; omega)
  have e : sndX X (Ba.dueS X.B) = { X with now := Ba.dueS X.B, B := Ba.sendS X.B (Ba.dueS X.B) } := by unfold sndX; rw [if_neg (by omega)]
  refine ⟨q1, q2, by unfold sndE; rw [if_neg (by omega)]; exact q3, t0, ?_, by have := h.bd.sz; omega, q5, by rw [e]; exact q6, ?_⟩
  · unfold sndL
    rw [if_neg (by omega), q4]
    exact h.bd.run
  · rw [e]
    exact ⟨by show X.mn ≤ Ba.dueS X.B; have := h.mn; have := h.n1; omega, by show 0 ≤ Ba.dueS X.B; have := h.z; have := h.n1; omega, Int.le_refl _, q2, h.g, h.bg, q7⟩
theorem Sd.join (h : Sd X c now s b f) (hd : 0 ≤ c.d) (hc : 1 ≤ c.b) (k : K) (x t : Int) :
    (mayE X now k x t = 0 ∨ mayE X now k x t = 20 ∨ mayE X now k x t = 1 ∨ mayE X now k x t = 160) ∧
    (((joJ X now k x t).bg = false ∧ (joJ X now k x t).sent = [] ∧ Sd (joX X now k x t) c now s b f) ∨
     ∃ m : Nat, (joJ X now k x t).bg = true ∧ (joJ X now k x t).run = b + 1 ∧ (joJ X now k x t).sent = nums s m ∧ (m : Int) ≤ c.b ∧ Sd (joX X now k x t) c now (s + m) (b + 1) (updT f (b + 1) now)) := by
  have z := h.z
  have n1 := h.n1
  have n2 := h.n2
  have t0 : tkE X now = 0 := tk_no (by omega) n2 n1
  have hm : mayE X now k x t = 0 ∨ mayE X now k x t = 20 ∨ mayE X now k x t = 1 ∨ mayE X now k x t = 160 := by
    unfold mayE
    rw [if_neg (by omega), h.g]
    split
    · exact Or.inr (Or.inl rfl)
    split
    · exact Or.inr (Or.inr (Or.inl rfl))
    split
    · exact Or.inr (Or.inr (Or.inl rfl))
    rw [if_neg (by simp)]
    split
    · exact Or.inr (Or.inr (Or.inr rfl))
    · exact Or.inl rfl
  refine ⟨hm, ?_⟩
  by_cases h0 : mayE X now k x t = 0
  · obtain ⟨g1, g2, g3⟩ := js_jo h0
    have g4 := jo_mn h0
    have g2' : (joX X now k x t).now = now := g2
    have g1' : (joX X now k x t).G = X.G := g1
    rcases g3 with ⟨a1, a2, a3, a4⟩ | ⟨a1, a2, a3, a4, a5⟩
    · left
      refine ⟨a1, a2, ⟨by rw [g4, g2']; exact Int.le_refl _, by rw [g2']; omega, by rw [g2']; exact Int.le_refl _, n2, by rw [g1']; exact h.g, ?_, ?_⟩⟩
      · rw [a4]; exact h.bg
      · rw [a3]; exact h.bd
    · right
      have hb : X.T.bg = b := h.bg
      have a2' : (joJ X now k x t).run = X.T.bg + 1 := a2
      have a3' : (joX X now k x t).T.bg = X.T.bg + 1 := a3
      have a4' : (joX X now k x t).B = Ba.addS X.B now (X.T.bg + 1) := a4
      have a5' : (joJ X now k x t).sent = Ba.addL X.B now (X.T.bg + 1) := a5
      rw [hb] at a2' a3' a4' a5'
      obtain ⟨m, b1, b2, b3⟩ := h.bd.add (by omega) n2 hc hd
      refine ⟨m, a1, a2', by rw [a5']; exact b1, b2, ⟨by rw [g4, g2']; exact Int.le_refl _, by rw [g2']; omega, by rw [g2']; exact Int.le_refl _, n2, by rw [g1']; exact h.g, a3', by rw [a4']; exact b3⟩⟩
  · left
    have e1 : joX X now k x t = X := by unfold joX; rw [if_pos h0]
    have e2 : joJ X now k x t = Jd.z := by unfold joJ; rw [if_pos h0]
    rw [e1, e2]
    exact ⟨rfl, rfl, h⟩
end Go.Proofs.Ytkfophlhpjbmgaa
/- Two helpers of the law of loads: the time of an act, and whether runs go out in order; no conditions but the sizes. -/
namespace Go.Proofs.Ytkfophlhpjbmgaa
open Go.RowKit Go.Maps Go.ChangeMaps
set_option maxRecDepth 100000
set_option linter.unusedVariables false
set_option linter.unusedSimpArgs false
def atT (now : Int) (a : ActG) : Int := if a.od = 0 then now + a.st.tmod 64 else a.od
set_option maxHeartbeats 1000000 in
theorem at_ (w : World) (now : Int) (a : ActG) (h0 : 0 ≤ now) (h1 : now ≤ 4611686018427387904) : Calls Try.prog 6 #[.int .i64 now, .agg a.cs] w fun e w' => e = .returned (.int .i64 (atT now a)) ∧ Touch [] w w' := by
  have hb := heap_alloc_new w (.cells a.cs 39)
  have c4 : (w.alloc (.cells a.cs 39)).cell? ⟨w.heap.size, 4, none⟩ = some (.int .i64 a.st) := cell_at hb rfl
  have c5 : (w.alloc (.cells a.cs 39)).cell? ⟨w.heap.size, 5, none⟩ = some (.int .i64 a.od) := cell_at hb rfl
  obtain ⟨V, hV⟩ : ∃ V, V = w.alloc (.cells a.cs 39) := ⟨_, rfl⟩
  have tv : Touch [] w V := by rw [hV]; exact (Touch.refl _ _).alloc _
  rw [← hV] at c4 c5
  have TV := hid tv
  clear hb tv
  unfold ActG.cs at hV
  unfold ActG.cs
  have h2 := Int.tmod_lt_of_pos a.st (show (0 : Int) < 64 by decide)
  have h3 := Int.lt_tmod_of_pos a.st (show (0 : Int) < 64 by decide)
  obtain ⟨r, hr⟩ : ∃ r, r = atT now a := ⟨_, rfl⟩
  rw [← hr]
  go_enter Try.func6, Try.ntmps6
  go_upto_region 1 with fail
  rw [← hV]
  clear hV
  by_cases hz : a.od = 0
  · have e : r = now + a.st.tmod 64 := by rw [hr]; unfold atT; rw [if_pos hz]
    clear hr
    subst e
    rw [hz] at c5
    go_wp2
    go_ret
    exact ⟨rfl, TV.out⟩
  · have e : r = a.od := by rw [hr]; unfold atT; rw [if_neg hz]
    clear hr
    subst e
    go_wp2
    go_ret
    exact ⟨rfl, TV.out⟩
set_option maxHeartbeats 1000000 in
theorem loaded_ (w : World) (u : Value) (s most : Int) (n : Nat) (hu : Rd w u (nums s n)) (h0 : 0 ≤ s) (h1 : s ≤ 4611686018427387904) (hn : n ≤ 1024) (hm : (n : Int) ≤ most) : Calls Try.prog 9 #[u, .int .i64 s, .int .i64 most] w fun e w' => e = .returned (.bool true) ∧ Touch [] w w' := by
  obtain ⟨a1, c1, rfl, _, _⟩ := hu.form
  have HB := hid hu
  clear hu
  rw [nums_len] at HB ⊢
  go_enter Try.func9, Try.ntmps9
  go_wp2
  go_loopw [11] (fun s11 wr => ∃ i : Nat, s11 = .int .i64 (i : Int) ∧ i ≤ n ∧ Hid (Touch [] w wr)) (fun i _ => n - (intOf i).toNat)
  case atStart => exact ⟨0, rfl, Nat.zero_le _, Touch.refl _ _⟩
  case round =>
    obtain ⟨i, rfl, hi, HT⟩ := hrel
    by_cases hlt : i < n
    · have zi : (i : Int) < (n : Int) := by omega
      obtain ⟨g1, rfl, y1⟩ := (HB.out.keep0 HT.out).cell (i := i) (by rw [nums_len]; exact hlt)
      have e : (nums s n)[i]'(by rw [nums_len]; exact hlt) = s + 1 + (i : Int) := by
        have := nums_at (a := s) hlt
        rw [List.getElem?_eq_getElem (by rw [nums_len]; exact hlt)] at this
        exact Option.some.inj this
      rw [e, show s + 1 + (i : Int) = s + (i : Int) + 1 by omega] at y1
      clear e
      go_wp2
      go_roundw
      case rel => exact ⟨i + 1, by go_num, by omega, HT⟩
      case measure => simp [intOf]; omega
    · have zi : ¬ (i : Int) < (n : Int) := by omega
      go_wp2
      go_ret
      exact ⟨rfl, HT.out⟩
section
variable {w : World} {g : Nat} {P : Pt} {F : List Nat} {X : Gp} {N : Cn}
theorem next_g (h : Gq w g P F X N) : Calls Try.prog 7 #[PT g] w fun e w' => e = .returned (.tuple #[.int .i64 (Ba.dueV X.B), .bool (decide (X.B.run ≠ []))]) ∧ Touch [] w w' := by
  refine (next_any (Ow.of h) (R := fun a b w' => a = Ba.dueV X.B ∧ b = decide (X.B.run ≠ []) ∧ Touch [] w w') (fun w1 T => ?_)).mono ?_
  · obtain ⟨_, _, Fb, _, _, q⟩ := h.keep0 T
    obtain ⟨sl, d, _, hb, _⟩ := q.bq
    refine (Ba.due_ hb).mono ?_
    rintro e w2 ⟨rfl, rfl⟩
    exact ⟨_, _, rfl, rfl, rfl, T⟩
  · rintro e w2 ⟨a, b, rfl, rfl, rfl, t⟩
    exact ⟨rfl, t⟩
theorem gath_g (h : Gq w g P F X N) : Calls Try.prog 11 #[PT g] w fun e w' => (∃ a c, e = .returned (.slice a X.B.run.length c)) ∧ Touch [] w w' := by
  refine (gath_any (Ow.of h) (R := fun v w' => Rd w' v X.B.run ∧ Touch [] w w') (fun w1 T => ?_)).mono ?_
  · obtain ⟨_, _, Fb, _, _, q⟩ := h.keep0 T
    obtain ⟨sl, d, _, hb, iv⟩ := q.bq
    refine (Ba.runs_ hb (by have := iv.len; omega)).mono ?_
    rintro e w2 ⟨a, n, c, e1, e2, e3⟩
    exact ⟨_, e1, Rd.of_own e2, T.trans' e3⟩
  · rintro e w2 ⟨v, rfl, r, t⟩
    obtain ⟨a, c, rfl, _⟩ := r.form
    exact ⟨⟨a, c, rfl⟩, t⟩
end
end Go.Proofs.Ytkfophlhpjbmgaa
/- A group of a law's own, and blocks beside it that its steps leave alone; no conditions. -/
namespace Go.Proofs.Ytkfophlhpjbmgaa
open Go.RowKit Go.Maps Go.ChangeMaps
set_option linter.unusedVariables false
def Sp (w wr : World) (g : Nat) (P : Pt) (Q : List Nat) (X : Gp) (N : Cn) : Prop := ∃ F, Gq wr g P F X N ∧ Touch [] w wr ∧ (∀ k, k ∈ F → w.heap.size ≤ k) ∧ ∀ k, k ∈ Q → k < wr.heap.size ∧ ¬ k ∈ F
section
variable {w wr w2 : World} {g : Nat} {P : Pt} {Q : List Nat} {X Y : Gp} {N M : Cn}
theorem Sp.tch (h : Sp w wr g P Q X N) : Touch [] w wr := by obtain ⟨_, _, t, _⟩ := h; exact t
theorem Sp.keep0 (h : Sp w wr g P Q X N) (T : Touch [] wr w2) : Sp w w2 g P Q X N ∧ ∀ k, k ∈ Q → w2.heap[k]? = wr.heap[k]? := by
  obtain ⟨F, q, t, fr, hq⟩ := h
  exact ⟨⟨F, q.keep0 T, t.trans' T, fr, fun k hk => ⟨Nat.lt_of_lt_of_le (hq k hk).1 T.size, (hq k hk).2⟩⟩, fun k hk => T.block k (hq k hk).1 (by simp)⟩
theorem Sp.alloc (h : Sp w wr g P Q X N) (ob : Obj) : Sp w (wr.alloc ob) g P (wr.heap.size :: Q) X N := by
  obtain ⟨F, q, t, fr, hq⟩ := h
  have T : Touch [] wr (wr.alloc ob) := (Touch.refl _ _).alloc ob
  refine ⟨F, q.keep0 T, t.trans' T, fr, fun k hk => ?_⟩
  rcases List.mem_cons.1 hk with e | e
  · subst e
    refine ⟨by rw [World.size_alloc]; omega, fun e => ?_⟩
    have := q.lt _ e
    omega
  · exact ⟨Nat.lt_of_lt_of_le (hq k e).1 T.size, (hq k e).2⟩
theorem Sp.set (h : Sp w wr g P Q X N) {b : Nat} (hb : b ∈ Q) (hw : w.heap.size ≤ b) (ob : Obj) : Sp w (setBlock wr b ob) g P Q X N := by
  obtain ⟨F, q, t, fr, hq⟩ := h
  have T : Touch [b] wr (setBlock wr b ob) := touch_setBlock (Touch.refl _ _) (Or.inl (by simp)) ob
  refine ⟨F, q.keep T (fun k hk e => ?_), t.trans T (fun i hi => Or.inr (by simp at hi; omega)), fr, fun k hk => ⟨Nat.lt_of_lt_of_le (hq k hk).1 T.size, (hq k hk).2⟩⟩
  simp only [List.mem_singleton] at e
  subst e
  exact (hq _ hb).2 hk
end
def cfO (c : CfG) : Me.Cf := ⟨c.t, c.n, c.s, c.e, c.f, c.b, c.d⟩
structure Lg (w wr : World) (g : Nat) (P : Pt) (bx mb : Nat) (Q : List Nat) (c : CfG) (X : Gp) (N : Cn) (now s b : Int) (f e : Int → Int) (m : Nat) (h : Int → Option Value) : Prop where
  sp : Sp w wr g P (bx :: mb :: Q) X N
  sd : Sd X (cfO c) now s b f
  hx : wr.heap[bx]? = some (.cells c.cs 23 (0, 0))
  mp : MapAt wr mb m h
  hf : ∀ k, (h k).getD (.int .i64 0) = .int .i64 (e k)
  bl : w.heap.size ≤ bx
  ml : w.heap.size ≤ mb
  c1 : 1 ≤ c.b
  c2 : c.b ≤ 1024
  c3 : 0 ≤ c.d
section
variable {w wr w2 : World} {g bx mb m : Nat} {P : Pt} {Q : List Nat} {c : CfG} {X Y : Gp} {N M : Cn} {now s b : Int} {f e : Int → Int} {h : Int → Option Value}
theorem Lg.keep0 (L : Lg w wr g P bx mb Q c X N now s b f e m h) (T : Touch [] wr w2) : Lg w w2 g P bx mb Q c X N now s b f e m h := by
  obtain ⟨q, k⟩ := L.sp.keep0 T
  exact ⟨q, L.sd, (k bx (by simp)).trans L.hx, L.mp.kept (k mb (by simp)), L.hf, L.bl, L.ml, L.c1, L.c2, L.c3⟩
theorem Lg.next (L : Lg w wr g P bx mb Q c X N now s b f e m h) : Calls Try.prog 7 #[PT g] wr fun r w2 => r = .returned (.tuple #[.int .i64 (Ba.dueV X.B), .bool (decide (X.B.run ≠ []))]) ∧ Touch [] wr w2 := by
  obtain ⟨F, q, _⟩ := L.sp
  exact next_g q
theorem Lg.gath (L : Lg w wr g P bx mb Q c X N now s b f e m h) : Calls Try.prog 11 #[PT g] wr fun r w2 => (∃ a k, r = .returned (.slice a X.B.run.length k)) ∧ Touch [] wr w2 := by
  obtain ⟨F, q, _⟩ := L.sp
  exact gath_g q
theorem Lg.send (L : Lg w wr g P bx mb Q c X N now s b f e m h) (hr : X.B.run ≠ []) (hN : N.b ≤ 6000000000000) : Calls Try.prog 8 #[PT g, .int .i64 (Ba.dueS X.B)] wr fun r w2 => ∃ a k, r = .returned (.tuple #[.slice a X.B.run.length k, .int .i64 0]) ∧ Rd w2 (.slice a X.B.run.length k) (nums s X.B.run.length) ∧ Lg w w2 g P bx mb Q c (sndX X (Ba.dueS X.B)) { N with b := N.b + 1 } (Ba.dueS X.B) (s + X.B.run.length) b f e m h ∧ ∀ j, j ∈ Q → w2.heap[j]? = wr.heap[j]? := by
  obtain ⟨d1, d2, d3, d4, d5, d6, d7, d8, d9⟩ := L.sd.send L.c3 L.c1 hr
  obtain ⟨F, q, t, fr, hq⟩ := L.sp
  refine (send_ q _ hN).mono ?_
  rw [d3, d5, if_neg (by omega)]
  rintro r w2 ⟨v, rfl, ⟨r1, _⟩, ge⟩
  obtain ⟨F', q', t', nf⟩ := ge
  have kq : ∀ k, k ∈ bx :: mb :: Q → w2.heap[k]? = wr.heap[k]? := fun k hk => t'.block k (hq k hk).1 (hq k hk).2
  obtain ⟨a, k, e1, _⟩ := r1.form
  rw [nums_len] at e1
  subst e1
  have sp2 : Sp w w2 g P (bx :: mb :: Q) (sndX X (Ba.dueS X.B)) { N with b := N.b + 1 } := by
    refine ⟨F', q', t.trans t' (fun i hi => Or.inr (fr i hi)), fun k hk => ?_, fun k hk => ⟨Nat.lt_of_lt_of_le (hq k hk).1 t'.size, fun e => ?_⟩⟩
    · rcases nf k hk with e | e
      · exact fr k e
      · exact Nat.le_trans t.size e
    · rcases nf k e with e | e
      · exact (hq k hk).2 e
      · have := (hq k hk).1; omega
  exact ⟨a, k, rfl, r1, ⟨sp2, d9, (kq bx (by simp)).trans L.hx, L.mp.kept (kq mb (by simp)), L.hf, L.bl, L.ml, L.c1, L.c2, L.c3⟩, fun j hj => kq j (by simp [hj])⟩
theorem Lg.later (L : Lg w wr g P bx mb Q c X N now s b f e m h) {tt : Int} (h1 : now ≤ tt) (h3 : tt ≤ 4611686018427387904) (h2 : X.B.run ≠ [] → tt ≤ Ba.dueS X.B) : Lg w wr g P bx mb Q c X N tt s b f e m h := { L with sd := L.sd.later h1 h3 h2 }
theorem joC_b (X : Gp) (n : Int) (k : K) (x t : Int) (N : Cn) : (joC X n k x t N).t ≤ N.t + 2 ∧ (joC X n k x t N).b ≤ N.b + 2 ∧ (joC X n k x t N).s ≤ N.s + 1 := by
  have a : ∀ (Y : Gp) (i : Int) (M : Cn), (meeC Y k i M).t ≤ M.t + 1 ∧ (meeC Y k i M).b ≤ M.b + 1 ∧ (meeC Y k i M).s = M.s := fun Y i M => by
    unfold meeC renC
    repeat' split
    all_goals simp
  have d : ∀ (Y : Gp) (M : Cn), (waiC Y k x M).t ≤ M.t + 1 ∧ (waiC Y k x M).b ≤ M.b + 1 ∧ (waiC Y k x M).s ≤ M.s + 1 := fun Y M => by
    unfold waiC
    repeat' split
    all_goals simp
  unfold joC
  split
  · omega
  split
  · have := a { X with now := n } (seenOf { X with now := n } k).1 N
    omega
  · have h1 := a { X with now := n } (seenOf { X with now := n } k).1 N
    have h2 := d (telX { X with now := n } k) (meeC { X with now := n } k (seenOf { X with now := n } k).1 N)
    omega
theorem Lg.join (L : Lg w wr g P bx mb Q c X N now s b f e m h) (k : K) (hk : Ok k) {x t : Int} (hx : W64 x) (ht : W64 t) (hN : N.t ≤ 2800000000000) (hB : N.b ≤ 5900000000000) (hS : N.s ≤ 4300000000000) : Calls Try.prog 10 #[PT g, .int .i64 now, kv k, .int .i64 x, .int .i64 t] wr fun r w2 => ∃ E a ln kc, ∃ J : Jd, r = .returned (.tuple #[.agg #[.int .i64 J.how, .int .i64 J.run, .bool J.bg, .int .i64 J.o.1, .int .i64 J.o.2.1, .int .i64 J.o.2.2.1, .int .i64 J.o.2.2.2, .slice a ln kc], .int .i64 E]) ∧ (E = 0 ∨ E = 20 ∨ E = 1 ∨ E = 160) ∧ (∀ j, j ∈ Q → w2.heap[j]? = wr.heap[j]?) ∧ ∃ Y M, (M.t ≤ N.t + 2 ∧ M.b ≤ N.b + 2 ∧ M.s ≤ N.s + 1) ∧ ((J.bg = false ∧ ln = 0 ∧ Rd w2 (.slice a ln kc) (nums s ln) ∧ Lg w w2 g P bx mb Q c Y M now s b f e m h) ∨ (J.bg = true ∧ J.run = b + 1 ∧ (ln : Int) ≤ c.b ∧ Rd w2 (.slice a ln kc) (nums s ln) ∧ Lg w w2 g P bx mb Q c Y M now (s + ln) (b + 1) (updT f (b + 1) now) e m h)) := by
  obtain ⟨d1, d2⟩ := L.sd.join L.c3 L.c1 k x t
  obtain ⟨F, q, tt, fr, hq⟩ := L.sp
  have L' := L
  refine (join_ q L.sd.gt now k hk hx ht hN hB hS).mono ?_
  rintro r w2 ⟨v, rfl, ⟨r1, _⟩, ge⟩
  obtain ⟨F', q', t', nf⟩ := ge
  have kq : ∀ k, k ∈ bx :: mb :: Q → w2.heap[k]? = wr.heap[k]? := fun k hk => t'.block k (hq k hk).1 (hq k hk).2
  have sp2 : Sp w w2 g P (bx :: mb :: Q) (joX X now k x t) (joC X now k x t N) := by
    refine ⟨F', q', tt.trans t' (fun i hi => Or.inr (fr i hi)), fun k hk => ?_, fun k hk => ⟨Nat.lt_of_lt_of_le (hq k hk).1 t'.size, fun e => ?_⟩⟩
    · rcases nf k hk with e | e
      · exact fr k e
      · exact Nat.le_trans tt.size e
    · rcases nf k e with e | e
      · exact (hq k hk).2 e
      · have := (hq k hk).1; omega
  obtain ⟨a, kc, e1, _⟩ := r1.form
  subst e1
  refine ⟨mayE X now k x t, a, _, kc, joJ X now k x t, rfl, d1, fun j hj => kq j (by simp [hj]), joX X now k x t, joC X now k x t N, joC_b X now k x t N, ?_⟩
  rcases d2 with ⟨b1, b2, b3⟩ | ⟨mm, b1, b2, b3, b4, b5⟩
  · left
    rw [b2] at r1 ⊢
    exact ⟨b1, rfl, by simpa [nums] using r1, ⟨sp2, b3, (kq bx (by simp)).trans L.hx, L.mp.kept (kq mb (by simp)), L.hf, L.bl, L.ml, L.c1, L.c2, L.c3⟩⟩
  · right
    rw [b3] at r1 ⊢
    rw [nums_len] at r1 ⊢
    exact ⟨b1, b2, b4, r1, ⟨sp2, b5, (kq bx (by simp)).trans L.hx, L.mp.kept (kq mb (by simp)), L.hf, L.bl, L.ml, L.c1, L.c2, L.c3⟩⟩
theorem Lg.alloc (L : Lg w wr g P bx mb Q c X N now s b f e m h) (ob : Obj) : Lg w (wr.alloc ob) g P bx mb (wr.heap.size :: Q) c X N now s b f e m h := by
  have T : Touch [] wr (wr.alloc ob) := (Touch.refl _ _).alloc ob
  have L2 := L.keep0 T
  obtain ⟨F, q, t, fr, hq⟩ := L.sp.alloc ob
  refine { L2 with sp := ⟨F, q, t, fr, fun k hk => hq k ?_⟩ }
  simp only [List.mem_cons] at hk ⊢
  rcases hk with e | e | e | e
  · exact Or.inr (Or.inl e)
  · exact Or.inr (Or.inr (Or.inl e))
  · exact Or.inl e
  · exact Or.inr (Or.inr (Or.inr e))
theorem Lg.less {q : Nat} (L : Lg w wr g P bx mb (q :: Q) c X N now s b f e m h) : Lg w wr g P bx mb Q c X N now s b f e m h := by
  obtain ⟨F, q, t, fr, hq⟩ := L.sp
  refine { L with sp := ⟨F, q, t, fr, fun k hk => hq k ?_⟩ }
  simp only [List.mem_cons] at hk ⊢
  rcases hk with e | e | e
  · exact Or.inl e
  · exact Or.inr (Or.inl e)
  · exact Or.inr (Or.inr (Or.inr e))
theorem Lg.start {V w1 w2 : World} (hV : V = w.alloc (.cells c.cs 23)) (hc : Me.okC (cfO c) = true) (hn : NwE V w1 [] g (cfO c) 0 []) (T : Touch [] w1 w2) : ∃ P, Lg w (w2.alloc (.map #[] 0)) g P w.heap.size w2.heap.size [] c (G0 (cfO c) 0 []) C0 0 0 0 (fun _ => 0) (fun _ => 0) 0 (fun _ => none) := by
  obtain ⟨P, F, q, t, fr⟩ := hn
  obtain ⟨o1, o2, o3, o4, o5, o6, o7, o8, o9, o10⟩ := okC_parts hc
  have tv : Touch [] w V := by rw [hV]; exact (Touch.refl _ _).alloc _
  have hb : V.heap[w.heap.size]? = some (.cells c.cs 23) := by rw [hV]; exact heap_alloc_new w _
  have hs : w.heap.size < V.heap.size := block_lt hb
  have t2 : Touch [] V w2 := t.trans' T
  have T3 : Touch [] w2 (w2.alloc (.map #[] 0)) := (Touch.refl _ _).alloc _
  have fr2 : ∀ k, k ∈ F → V.heap.size ≤ k := fun k hk => (fr k hk).elim (fun e => by cases e) id
  have q2 := q.keep0 T
  refine ⟨P, ⟨F, q2.keep0 T3, (tv.trans' t2).trans' T3, fun k hk => by have := fr2 k hk; omega, fun k hk => ?_⟩, sd_G0 o9, (t2.trans' T3).keep hb (by simp), mapAt_made w2, fun k => rfl, Nat.le_refl _, (tv.trans' t2).size, o9, o10, o4⟩
  simp only [List.mem_cons, List.not_mem_nil, or_false] at hk
  rcases hk with e | e
  · subst e
    exact ⟨Nat.lt_of_lt_of_le hs (t2.trans' T3).size, fun e => by have := fr2 _ e; omega⟩
  · subst e
    exact ⟨by rw [World.size_alloc]; omega, fun e => by have := q2.lt _ e; omega⟩
theorem Lg.set (L : Lg w wr g P bx mb Q c X N now s b f e m h) {k v : Int} {ob : Obj} {m' : Nat} (hM : MapAt (setBlock wr mb ob) mb m' (upd h k (.int .i64 v))) : Lg w (setBlock wr mb ob) g P bx mb Q c X N now s b f (updT e k v) m' (upd h k (.int .i64 v)) := by
  have hne : bx ≠ mb := fun q => by
    obtain ⟨D, ⟨es, cl, hb, r⟩, _⟩ := L.mp
    rw [← q, L.hx] at hb
    cases hb
  refine ⟨L.sp.set (by simp) L.ml ob, L.sd, (setBlock_other _ _ _ hne).trans L.hx, hM, fun j => ?_, L.bl, L.ml, L.c1, L.c2, L.c3⟩
  unfold upd updT
  split
  · rfl
  · exact L.hf j
end
end Go.Proofs.Ytkfophlhpjbmgaa
