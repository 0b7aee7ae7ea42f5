/- The contracts of around and New; no conditions but those that each states. -/
import Derived.Test.YtkfophlhpjbmgaaGreatQo10
import Derived.Test.YtkfophlhpjbmgaaGreatQo06
import Derived.Test.YtkfophlhpjbmgaaGreatQo08
import Derived.Test.YtkfophlhpjbmgaaGreatQo05
import Derived.Test.YtkfophlhpjbmgaaGreatQo07
import Derived.Test.YtkfophlhpjbmgaaGreatQo09
set_option linter.unusedVariables false
set_option linter.unusedSimpArgs false
set_option maxRecDepth 100000
namespace Go.Proofs.YtkfophlhpjbmgaaGreat
open Go.RowKit Go.Maps Go.ChangeMaps
def G0 (c : Me.Cf) (now : Int) (xs : List Me.En) : Gp := ⟨c, now, xs, Ta.T0 c.f, Ba.S0 c.b c.d, [], [], now⟩
def C0 : Cn := ⟨0, 0, 0⟩
def NwE (w w' : World) (Fm : List Nat) (g : Nat) (c : Me.Cf) (now : Int) (xs : List Me.En) : Prop := ∃ P F, Gq w' g P F (G0 c now xs) C0 ∧ Touch [] w w' ∧ (∀ k, k ∈ F → k ∈ Fm ∨ w.heap.size ≤ k)
theorem okC_parts {c : Me.Cf} (h : Me.okC c = true) : (0 ≤ c.t ∧ 0 ≤ c.n ∧ 0 ≤ c.s ∧ 0 ≤ c.d ∧ 0 ≤ c.e ∧ c.e ≤ 65536 ∧ 1 ≤ c.f ∧ c.f ≤ 4096 ∧ 1 ≤ c.b ∧ c.b ≤ 1024) := by
 unfold Me.okC at h
 simpa using h
def cfc (c : Me.Cf) : Array Value := #[.int .i64 c.t, .int .i64 c.n, .int .i64 c.s, .int .i64 c.e, .int .i64 c.f, .int .i64 c.b, .int .i64 c.d]
set_option maxHeartbeats 8000000 in
theorem around_ (w : World) (m : Nat) (Fm : List Nat) (c : Me.Cf) (now : Int) (xs : List Me.En) (h : Me.Mq w m Fm c now xs) (hd : c.d ≤ 9223372036854775807) : Calls Tryz.prog 37 #[PT m] w fun e w' => ∃ g, e = .returned (PT g) ∧ NwE w w' Fm g c now xs := by
 have ho := okC_parts h.gd.oc
 have hm : Me.Mq w m Fm c now xs := h
 have HC : Hid (Calls Tryz.prog 69 #[PT m] w fun e w' => e = .returned (Me.cv c) ∧ Touch [] w w') := hid (by obtain ⟨b, o, G, rfl, h⟩ := h; exact Me.config27 w m c now b o h.md)
 have HT : Hid (∀ w1, Touch [] w w1 → Calls Tryz.prog 76 #[.int .i64 c.f] w1 fun e w' => ∃ t Ft, e = .returned (.tuple #[PT t, .int .i64 0]) ∧ Ta.Tq w' t Ft (Ta.T0 c.f) 0 ∧ Touch [] w1 w' ∧ ∀ d, d ∈ Ft → w1.heap.size ≤ d) := hid (fun w1 _ => Ta.newT_ok w1 c.f (by unfold Ta.mayF'; simp; omega))
 have hbm : Ba.mayB c.b c.d = true := by unfold Ba.mayB; simp; omega
 have HB : Hid (∀ w1, Calls Tryz.prog 77 #[.int .i64 c.b, .int .i64 c.d] w1 fun e w' => e = .returned (.tuple #[PT w1.heap.size, .int .i64 0]) ∧ Ba.Bm w' w1.heap.size (.slice none 0 0) 0 (Ba.S0 c.b c.d) ∧ Touch [] w1 w') := hid (fun w1 => Ba.new_yes w1 c.b c.d hbm)
 have HS : Hid (∀ w1, Calls Tryz.prog 78 #[] w1 fun e w' => e = .returned (PT w1.heap.size) ∧ Lv.Sq w' w1.heap.size [w1.heap.size] [] [] 0 ∧ Touch [] w1 w') := hid (fun w1 => Lv.new_ w1)
 have HW : Hid (∀ w1, Touch [] w w1 → Calls Tryz.prog 79 #[PT m] w1 fun e w' => e = .returned (.int .i64 now) ∧ w' = w1) := hid (fun w1 T => by obtain ⟨b, o, G, eF, h'⟩ := h.keep0 T; exact Me.now26 w1 m c now b o h'.md)
 have hbi : Ba.Iv (Ba.S0 c.b c.d) 0 := ⟨by simp [Ba.S0]; omega, by simp [Ba.S0]; omega, by simp [Ba.S0]; omega, by simp [Ba.S0]; omega, by simp [Ba.S0], by simp [Ba.S0], by simp [Ba.S0], by simp only [Ba.S0]; exact W64.mk (by omega) (by omega), by simp [Ba.S0], by simp [Ba.S0], by simp [Ba.S0], by simp [Ba.S0], by simp [Ba.S0], by simp [Ba.S0], by simp [Ba.S0]⟩
 have HF : Hid (∀ w2 t Ft w3 w4, Touch [] w w2 → Ta.Tq w2 t Ft (Ta.T0 c.f) 0 → (∀ d, d ∈ Ft → w.heap.size ≤ d) → Ba.Bm w3 w2.heap.size (.slice none 0 0) 0 (Ba.S0 c.b c.d) → Touch [] w2 w3 → Lv.Sq w4 w3.heap.size [w3.heap.size] [] [] 0 → Touch [] w3 w4 → NwE w (w4.alloc (.cells (gcs ⟨m, t, w2.heap.size, w3.heap.size⟩ now) 119)) Fm w4.heap.size c now xs) := hid (fun w2 t Ft w3 w4 t2 qt ft qb t3 qs t4 => by
  have t5 : Touch [] w4 (w4.alloc (.cells (gcs ⟨m, t, w2.heap.size, w3.heap.size⟩ now) 119)) := (Touch.refl _ _).alloc _
  have hmlt := h.lt
  have htlt := qt.lt
  have h3 : w2.heap.size < w3.heap.size := qb.lt
  have h4 : w3.heap.size < w4.heap.size := qs.slt
  have z2 := t2.size
  refine ⟨⟨m, t, w2.heap.size, w3.heap.size⟩, fpG w4.heap.size Fm Ft [w2.heap.size] [w3.heap.size], ⟨Fm, Ft, [w2.heap.size], [w3.heap.size], rfl, ?_⟩, ((t2.trans' t3).trans' t4).trans' t5, fun k hk => ?_⟩
  ·refine ⟨heap_alloc_new w4 _, h.keep0 (((t2.trans' t3).trans' t4).trans' t5), qt.keep0 ((t3.trans' t4).trans' t5), ⟨.slice none 0 0, 0, rfl, qb.keep0 (t4.trans' t5), hbi⟩, qs.keep0 t5, ?_, ?_, ?_, ?_, ?_, ?_, ?_, ?_, ?_, ?_⟩
   all_goals (intro k hk e; (try simp only [List.mem_singleton] at hk); (try simp only [List.mem_singleton] at e))
   ·have := hmlt k e; omega
   ·have := htlt k e; omega
   ·omega
   ·omega
   ·have := hmlt k hk; have := ft k e; omega
   ·have := hmlt k hk; omega
   ·have := hmlt k hk; omega
   ·have := htlt k hk; omega
   ·have := htlt k hk; omega
   ·omega
  ·rcases mem_fpG.1 hk with e | e | e | e | e
   ·exact Or.inr (by omega)
   ·exact Or.inl e
   ·exact Or.inr (ft k e)
   ·simp only [List.mem_singleton] at e; exact Or.inr (by omega)
   ·simp only [List.mem_singleton] at e; exact Or.inr (by omega))
 clear h hm ho hbm hbi
 unfold gcs at HF
 unfold Me.cv at HC
 unfold PT at *
 go_enter Tryz.func37, Tryz.ntmps37
 go_upto_region 2 with (go_at_call 69; refine HC.out.mono ?_; rintro e w1 ⟨rfl, t1⟩; have T1 := hid t1; clear t1)
 obtain ⟨W1, hW1⟩ : ∃ W1, W1 = w1.alloc (.cells (cfc c) 23) := ⟨_, rfl⟩
 have t1 : Touch [] w W1 := by rw [hW1]; exact T1.out.alloc _
 have hb := heap_alloc_new w1 (.cells (cfc c) 23)
 rw [← hW1] at hb
 unfold cfc at hW1 hb
 rw [← hW1]
 clear hW1
 have HB1 := hid hb
 have TT1 := hid t1
 have b4 := cell_at (j := 4) hb rfl
 have b5 := cell_at (j := 5) hb rfl
 have b6 := cell_at (j := 6) hb rfl
 clear t1 hb
 go_upto_region 3 with (first
  | (go_at_call 76; refine (HT.out _ TT1.out).mono ?_; rintro e w2 ⟨t, Ft, rfl, q2, t2, f2⟩; have hb := t2.keep HB1.out (by simp); clear b4 b5 b6; have b5 := cell_at (j := 5) hb rfl; have b6 := cell_at (j := 6) hb rfl; have Q2 := hid q2; have T2 := hid t2; have F2 := hid f2; clear hb q2 t2 f2))
 go_upto_region 4 with (first
  | (go_at_call 77; refine (HB.out _).mono ?_; rintro e w3 ⟨rfl, q3, t3⟩; have Q3 := hid q3; have T3 := hid t3; clear q3 t3 b5 b6))
 go_wp2_with (first
  | (go_at_call 78; refine (HS.out _).mono ?_; rintro e w4 ⟨rfl, q4, t4⟩; have Q4 := hid q4; have T4 := hid t4; have T5 := hid (((TT1.out.trans' T2.out).trans' T3.out).trans' t4); clear q4 t4)
  | (go_at_call 79; refine (HW.out _ T5.out).mono ?_; rintro e w5 ⟨rfl, rfl⟩))
 go_ret
 exact ⟨_, rfl, HF.out _ _ _ _ _ (TT1.out.trans' T2.out) Q2.out (fun d hd => Nat.le_trans TT1.out.size (F2.out d hd)) Q3.out T3.out Q4.out T4.out⟩
theorem new_no (w : World) (c : Me.Cf) (hc : Me.okC c = false) : Calls Tryz.prog 8 #[Me.cv c] w fun e w' => e = .returned (.tuple #[.pointer none, .int .i64 100]) ∧ Touch [] w w' := by
 have HN := hid (fun w => Me.new9_no w c hc)
 clear hc
 unfold Me.cv at *
 go_enter Tryz.func8, Tryz.ntmps8
 go_wp2_with (go_at_call 36; refine (HN.out _).mono ?_; rintro e w2 ⟨rfl, t2⟩; have T2 := hid t2; clear t2)
 exact bodyPost_ret (v := .tuple #[.pointer none, .int .i64 100]) (by simp [results, Tryz.results8, go_sem]) rfl ⟨rfl, ((Touch.refl _ _).alloc _).trans' T2.out⟩
def W7 (c : Me.Cf) : Prop := c.t ≤ 9223372036854775807 ∧ c.n ≤ 9223372036854775807 ∧ c.s ≤ 9223372036854775807 ∧ c.d ≤ 9223372036854775807
theorem new_ (w : World) (c : Me.Cf) (hc : Me.okC c = true) (hw : W7 c) : Calls Tryz.prog 8 #[Me.cv c] w fun e w' => ∃ g, e = .returned (.tuple #[PT g, .int .i64 0]) ∧ NwE w w' [] g c 0 [] := by
 obtain ⟨w1, w2, w3, w4⟩ := hw
 have HN := hid (fun w => Me.new9_ok w c hc ⟨w1, w2, w3⟩)
 have HA : Hid (∀ V m W, Touch [] w V → Me.NwQ V c m W → Calls Tryz.prog 37 #[PT m] W fun e w' => ∃ g, e = .returned (PT g) ∧ NwE w w' [] g c 0 []) := hid (fun V m W tV h => by
  obtain ⟨F, q1, q2, q3⟩ := h
  refine (around_ W m F c 0 [] q1 w4).mono ?_
  rintro e w' ⟨g, rfl, P, F', r1, r2, r3⟩
  refine ⟨g, rfl, P, F', r1, (tV.trans' q3).trans' r2, fun k hk => Or.inr ?_⟩
  have z1 := tV.size
  have z2 := q3.size
  rcases r3 k hk with e | e
  ·have := q2 k e; omega
  ·omega)
 clear hc w1 w2 w3 w4
 unfold Me.cv at *
 unfold PT at *
 go_enter Tryz.func8, Tryz.ntmps8
 go_wp2_with (first
  | (go_at_call 36; refine (HN.out _).mono ?_; rintro e w2 ⟨m, rfl, q2⟩; have Q2 := hid q2; clear q2)
  | (go_at_call 37; refine (HA.out _ _ _ ((Touch.refl _ _).alloc _) Q2.out).mono ?_; rintro e w3 ⟨g, rfl, q3⟩; have Q3 := hid q3; clear q3))
 exact bodyPost_ret (v := .tuple #[.pointer (some ⟨g, 0, none⟩), .int .i64 0]) (by simp [results, Tryz.results8, go_sem]) rfl ⟨_, rfl, Q3.out⟩
end Go.Proofs.YtkfophlhpjbmgaaGreat
/- The law's awake: one leads, another one joins; no conditions. -/
namespace Go.Proofs.YtkfophlhpjbmgaaGreat
open Go.RowKit Go.Maps Go.ChangeMaps
def kA : K := (0, ⟨#[97]⟩)
theorem okA : Ok kA := ⟨rfl, by unfold maxLen; decide⟩
def cA : Me.Cf := ⟨5, 0, 0, 2, 2, 1, 0⟩
def XA : Gp := joX (G0 cA 0 []) 0 kA 1 0
theorem gt_G0 {c : Me.Cf} {now : Int} {xs : List Me.En} (h0 : 0 ≤ now) (h1 : now ≤ 4611686018427387904) : Gt (G0 c now xs) := ⟨Int.le_refl _, h0, h1⟩
theorem awA1 : mayE (G0 cA 0 []) 0 kA 1 0 = 0 := by kernel_rfl
theorem awA2 : (joJ (G0 cA 0 []) 0 kA 1 0).how = 5 ∧ (joJ (G0 cA 0 []) 0 kA 1 0).run = 1 := ⟨by kernel_rfl, by kernel_rfl⟩
theorem awA3 : mayE XA 0 kA 2 0 = 0 := by kernel_rfl
theorem awA4 : (joJ XA 0 kA 2 0).how = 3 ∧ (joJ XA 0 kA 2 0).run = 1 := ⟨by kernel_rfl, by kernel_rfl⟩
theorem awA5 : XA.mn = 0 ∧ XA.now = 0 := ⟨by kernel_rfl, by kernel_rfl⟩
theorem GqE.fresh {w w1 w2 : World} {g : Nat} {P : Pt} {F : List Nat} {X : Gp} {N : Cn} (T : Touch [] w w1) (hF : ∀ k, k ∈ F → w.heap.size ≤ k) (h : GqE w1 w2 g P F X N) : ∃ F', Gq w2 g P F' X N ∧ Touch [] w w2 ∧ ∀ k, k ∈ F' → w.heap.size ≤ k := by
 obtain ⟨F', q1, q2, q3⟩ := h
 exact ⟨F', q1, T.trans q2 (fun i hi => Or.inr (hF i hi)), fun k hk => (q3 k hk).elim (hF k) (fun e => Nat.le_trans T.size e)⟩
set_option maxHeartbeats 4000000 in
theorem awake_ (w : World) : Calls Tryz.prog 9 #[] w fun e w' => e = .returned (.bool true) ∧ Touch [] w w' := by
 have HN : Hid (Calls Tryz.prog 8 #[Me.cv cA] w fun e w1 => ∃ g P F, e = .returned (.tuple #[PT g, .int .i64 0]) ∧ Gq w1 g P F (G0 cA 0 []) C0 ∧ Touch [] w w1 ∧ ∀ k, k ∈ F → w.heap.size ≤ k) := hid (by
  refine (new_ w cA (by kernel_rfl) ⟨by decide, by decide, by decide, by decide⟩).mono ?_
  rintro e w1 ⟨g, rfl, P, F, q1, q2, q3⟩
  exact ⟨g, P, F, rfl, q1, q2, fun k hk => (q3 k hk).elim (fun e => by cases e) id⟩)
 have HJ1 : Hid (∀ w1 g P F, Gq w1 g P F (G0 cA 0 []) C0 → Touch [] w w1 → (∀ k, k ∈ F → w.heap.size ≤ k) → Calls Tryz.prog 12 #[PT g, .int .i64 0, kv kA, .int .i64 1, .int .i64 0] w1 fun e w2 => ∃ (J : Jd) (a : Option Addr) (n c : Nat) (F' : List Nat), e = .returned (.tuple #[.agg #[.int .i64 5, .int .i64 1, .bool J.bg, .int .i64 J.o.1, .int .i64 J.o.2.1, .int .i64 J.o.2.2.1, .int .i64 J.o.2.2.2, .slice a n c], .int .i64 0]) ∧ Gq w2 g P F' XA ⟨1, 1, 1⟩ ∧ Touch [] w w2 ∧ ∀ k, k ∈ F' → w.heap.size ≤ k) := hid (fun w1 g P F q t f => by
  refine (join_ q (gt_G0 (Int.le_refl _) (by decide)) 0 kA okA (W64.mk (by omega) (by omega)) (W64.mk (by omega) (by omega)) (by simp [C0]) (by simp [C0]) (by simp [C0])).mono ?_
  rintro e w2 ⟨v, rfl, n2, r2⟩
  obtain ⟨a, n, c, rfl⟩ := n2.2
  obtain ⟨F', s1, s2, s3⟩ := r2.fresh t f
  have hc : (joC (G0 cA 0 []) 0 kA 1 0 C0) = ⟨1, 1, 1⟩ := by kernel_rfl
  rw [hc] at s1
  refine ⟨joJ (G0 cA 0 []) 0 kA 1 0, a, n, c, F', ?_, s1, s2, s3⟩
  unfold jv jcs
  rw [awA1, awA2.1, awA2.2])
 have HJ2 : Hid (∀ w1 g P F, Gq w1 g P F XA ⟨1, 1, 1⟩ → Touch [] w w1 → (∀ k, k ∈ F → w.heap.size ≤ k) → Calls Tryz.prog 12 #[PT g, .int .i64 0, kv kA, .int .i64 2, .int .i64 0] w1 fun e w2 => ∃ (J : Jd) (a : Option Addr) (n c : Nat), e = .returned (.tuple #[.agg #[.int .i64 3, .int .i64 1, .bool J.bg, .int .i64 J.o.1, .int .i64 J.o.2.1, .int .i64 J.o.2.2.1, .int .i64 J.o.2.2.2, .slice a n c], .int .i64 0]) ∧ Touch [] w w2 ∧ Keeps w1 w2) := hid (fun w1 g P F q t f => by
  refine (join_ q ⟨by rw [awA5.1, awA5.2]; exact Int.le_refl _, by rw [awA5.2]; exact Int.le_refl _, by rw [awA5.2]; decide⟩ 0 kA okA (W64.mk (by omega) (by omega)) (W64.mk (by omega) (by omega)) (by simp) (by simp) (by simp)).mono ?_
  rintro e w2 ⟨v, rfl, n2, r2⟩
  obtain ⟨a, n, c, rfl⟩ := n2.2
  obtain ⟨F', s1, s2, s3⟩ := r2.fresh t f
  refine ⟨joJ XA 0 kA 2 0, a, n, c, ?_, s2, GqE.keeps q r2⟩
  unfold jv jcs
  rw [awA3, awA4.1, awA4.2])
 unfold Me.cv cA at HN
 unfold kA kv at HJ1 HJ2
 unfold PT at *
 go_enter Tryz.func9, Tryz.ntmps9
 go_upto_region 4 with (go_at_call 8; refine HN.out.mono ?_; rintro e w1 ⟨g, P, F, rfl, q1, t1, f1⟩; have HJ := hid (HJ1.out w1 g P F q1 t1 f1); clear q1 t1 f1)
 go_upto_region 5 with (go_at_call 12; refine HJ.out.mono ?_; rintro e w2 ⟨J, a, n, c, F', rfl, q2, t2, f2⟩; have Q2 := hid q2; have T2 := hid t2; have F2 := hid f2; clear q2 t2 f2)
 obtain ⟨W2, hW2⟩ : ∃ W2, W2 = w2.alloc (.cells #[.int .i64 5, .int .i64 1, .bool J.bg, .int .i64 J.o.1, .int .i64 J.o.2.1, .int .i64 J.o.2.2.1, .int .i64 J.o.2.2.2, .slice a n c] 49) := ⟨_, rfl⟩
 have h3 := heap_alloc_new w2 (.cells #[.int .i64 5, .int .i64 1, .bool J.bg, .int .i64 J.o.1, .int .i64 J.o.2.1, .int .i64 J.o.2.2.1, .int .i64 J.o.2.2.2, .slice a n c] 49)
 have t3 : Touch [] w2 W2 := by rw [hW2]; exact (Touch.refl _ _).alloc _
 rw [← hW2] at h3 ⊢
 have HJ3 := hid (HJ2.out W2 g P F' (Q2.out.keep0 t3) (T2.out.trans' t3) F2.out)
 have H3 := hid h3
 clear hW2 h3 t3 HJ HJ1 HJ2 HN
 go_upto_region 6 with (go_at_call 12; refine HJ3.out.mono ?_; rintro e w4 ⟨J', a', n', c', rfl, t4, k4⟩; have h4 := k4 _ _ _ _ (by decide) H3.out; have T4 := hid t4; clear t4 k4)
 have x0 := cell_at (j := 0) h4 rfl
 have x1 := cell_at (j := 1) h4 rfl
 have hlt : w2.heap.size < w4.heap.size := block_lt h4
 have hne : w2.heap.size ≠ w4.heap.size := by omega
 have hne' : w4.heap.size ≠ w2.heap.size := by omega
 clear h4
 go_wp2
 go_ret
 exact ⟨rfl, T4.out.alloc _⟩
end Go.Proofs.YtkfophlhpjbmgaaGreat
/- What a group answers without being changed, by what its parts answer, of a nil one, too; no conditions but those that each states. -/
namespace Go.Proofs.YtkfophlhpjbmgaaGreat
open Go.RowKit Go.Maps Go.ChangeMaps
structure Ow (w : World) (ga ma ta ba sa : Option Addr) : Prop where
 o : ∀ w1, Touch [] w w1 → Calls Tryz.prog 50 #[.pointer ga] w1 fun e w2 => e = .returned (.agg #[.pointer ma, .pointer ta, .pointer ba, .pointer sa]) ∧ Touch [] w1 w2
def ad (g : Nat) : Option Addr := some ⟨g, 0, none⟩
theorem Ow.of {w : World} {g : Nat} {P : Pt} {F : List Nat} {X : Gp} {N : Cn} (h : Gq w g P F X N) : Ow w (ad g) (ad P.m) (ad P.t) (ad P.b) (ad P.s) := ⟨fun w1 T => own_ (h.keep0 T)⟩
theorem fldP (w : World) (a b c d : Option Addr) : (Instr.field 117 (.agg #[.pointer a, .pointer b, .pointer c, .pointer d]) 0).run Tryz.prog w = .ok (.pointer a) w ∧ (Instr.field 117 (.agg #[.pointer a, .pointer b, .pointer c, .pointer d]) 1).run Tryz.prog w = .ok (.pointer b) w ∧ (Instr.field 117 (.agg #[.pointer a, .pointer b, .pointer c, .pointer d]) 2).run Tryz.prog w = .ok (.pointer c) w ∧ (Instr.field 117 (.agg #[.pointer a, .pointer b, .pointer c, .pointer d]) 3).run Tryz.prog w = .ok (.pointer d) w := ⟨by kernel_rfl, by kernel_rfl, by kernel_rfl, by kernel_rfl⟩
section
variable {w : World} {ga ma ta ba sa : Option Addr}
theorem waiters_any (O : Ow w ga ma ta ba sa) (n : Int) (R : Value → World → Prop) (H : ∀ w1, Touch [] w w1 → Calls Tryz.prog 51 #[.pointer ta, .int .i64 n] w1 fun e w2 => ∃ v, e = .returned v ∧ R v w2) : Calls Tryz.prog 14 #[.pointer ga, .int .i64 n] w fun e w2 => ∃ v, e = .returned v ∧ R v w2 := by
 have HO := hid O.o
 have HI := hid H
 clear O H
 go_enter Tryz.func14, Tryz.ntmps14
 go_wp2_with (first
  | (go_at_call 50; refine (HO.out _ (Touch.refl _ _)).mono ?_; rintro e w1 ⟨rfl, t1⟩; have T1 := hid t1; clear t1; obtain ⟨p0, p1, p2, p3⟩ := fldP w1 ma ta ba sa)
  | (go_at_call 51; refine (HI.out _ T1.out).mono ?_; rintro e w2 ⟨v, rfl, r2⟩; have R2 := hid r2; clear r2))
 go_ret
 exact ⟨_, rfl, R2.out⟩
end
end Go.Proofs.YtkfophlhpjbmgaaGreat
/- The contracts of Forget and End. -/
namespace Go.Proofs.YtkfophlhpjbmgaaGreat.Ta
open Go.RowKit Go.Maps Go.ChangeMaps
section
variable (w : World) (t : Nat) (F : List Nat) (T : Tb) (N : Nat)
set_option maxHeartbeats 4000000 in
set_option maxRecDepth 100000 in
theorem forgetT (h : Tq w t F T N) (hN : N ≤ 3000000000000) (k : K) (hk : Ok k) : Calls Tryz.prog 56 #[PT t, kv k] w fun e w' => e = .returned (.tuple #[.int .i64 (tForN T k), .int .i64 (tForR T k), .int .i64 (tForE k)]) ∧ TqE w w' t F (tFor T k) (N + 1) := by
 obtain ⟨W, hW⟩ : ∃ W, W = w.alloc (bxK k) := ⟨_, rfl⟩
 have t0 : Touch [] w W := by rw [hW]; exact (Touch.refl _ _).alloc _
 have hF := h.lt
 have h1 := h.keep0 t0
 have HC := hid (fCheck W k hk)
 have hb : W.heap[w.heap.size]? = some (.cells #[.int .u16 k.1, .string k.2] 38 (0, 0)) := by rw [hW]; exact heap_alloc_new w _
 have HB : Hid (∀ w2, Touch F W w2 → w2.cell? ⟨w.heap.size, 0, none⟩ = some (.int .u16 k.1) ∧ w2.cell? ⟨w.heap.size, 1, none⟩ = some (.string k.2)) := fun w2 T' => by
  have q := T'.keep hb (fun e => by have := hF _ e; omega)
  exact ⟨cell_at q rfl, cell_at q rfl⟩
 have HL : Hid (∀ w2, Touch [] W w2 → ∃ c, w2.cell? ⟨t, 3, none⟩ = some (.map (some c)) ∧ ∀ n, (Instr.lookup 177 (.map (some c)) (.agg #[.int .u16 k.1, .string k.2]) false).run Tryz.prog (w2.drewN n) = .ok (.int .i64 (((curOf T k).map Rn.run).getD 0)) (w2.drewN n)) := fun w2 T' => by
  obtain ⟨p, c, g, nc, ng, Ps, rfl, h, hL⟩ := h1.keep0 T'
  exact ⟨c, h.cs.c3, fun n => (h.keep0 ((Touch.refl _ _).drewN n)).lookC hk⟩
 have HO : Hid (∀ w2, Touch [] W w2 → Calls Tryz.prog 105 #[PT t, kv k] w2 fun e w' => e = .returned (.tuple #[]) ∧ TqE W w' t F (goOn T k) (N + 1)) := fun w2 T' => (goOnT (h1.keep0 T') hN hk).mono (fun e w' hh => ⟨hh.1, TqE.from0 T' hh.2⟩)
 have HG : Hid (∀ w2, TqE W w2 t F (goOn T k) (N + 1) → Touch F W w2 ∧ ∃ g, w2.cell? ⟨t, 4, none⟩ = some (.map g) ∧ ∀ n, (Instr.lookup 177 (.map g) (.agg #[.int .u16 k.1, .string k.2]) false).run Tryz.prog (w2.drewN n) = .ok (.int .i64 (T.gn k + 1)) (w2.drewN n)) := fun w2 q => by
  obtain ⟨F1, ⟨p, c, g, nc, ng, Ps, rfl, h, hL⟩, q2, q3⟩ := q
  refine ⟨q2, g, h.cs.c4, fun n => ?_⟩
  have := (h.keep0 ((Touch.refl _ _).drewN n)).lookG hk
  simp only [goOn, if_true] at this
  exact this
 have HS : Hid (∀ w2, Touch [] W w2 → TqE w w2 t F T (N + 1)) := fun w2 T' => TqE.touch h (t0.trans' T') (Nat.le_succ N)
 have HT : Hid (∀ w2 n, TqE W w2 t F (goOn T k) (N + 1) → TqE w (w2.drewN n) t F (goOn T k) (N + 1)) := fun w2 n q => TqE.from0 t0 (q.then0 ((Touch.refl _ _).drewN n))
 unfold tForN tForR tFor tForE at *
 clear h h1 hF hb
 unfold bxK at hW
 unfold kv at *
 cases hm : mayK k with
 | false =>
  rw [hm] at HC
  simp only [Bool.false_eq_true, if_false] at HC ⊢
  clear HL HO HG HT hm t0
  unfold PT at *
  obtain ⟨b0, b1⟩ := HB.out W (Touch.refl _ _)
  go_enter Tryz.func56, Tryz.ntmps56
  go_upto_region 1 with fail
  rw [← hW]
  clear hW
  go_wp2_with (go_at_call 80; refine HC.out.mono ?_; rintro e w2 ⟨rfl, t2⟩; have T2 := hid t2; clear t2)
  exact bodyPost_ret (v := .tuple #[.int .i64 0, .int .i64 0, .int .i64 20]) (by simp [results, Tryz.results56, go_sem]) rfl ⟨rfl, HS.out _ T2.out⟩
 | true =>
  rw [hm] at HC
  simp only [if_true] at HC ⊢
  clear HS hm
  generalize ((curOf T k).map Rn.run).getD 0 = v at *
  generalize T.gn k + 1 = v2 at *
  generalize goOn T k = T2 at *
  unfold PT at *
  obtain ⟨b0, b1⟩ := HB.out W (Touch.refl _ _)
  go_enter Tryz.func56, Tryz.ntmps56
  go_upto_region 1 with fail
  rw [← hW]
  clear hW
  go_wp2_with (go_at_call 80; refine HC.out.mono ?_; rintro e w2 ⟨rfl, t2⟩; clear b0 b1; obtain ⟨b0, b1⟩ := HB.out w2 (t2.mono (fun _ e => by cases e)); obtain ⟨c, c3, hl⟩ := HL.out w2 t2; have T2 := hid t2; clear t2)
  go_quiet (fail)
  go_wp2_with (go_at_call 105; refine (HO.out _ (T2.out.drewN _)).mono ?_; rintro e w3 ⟨rfl, r3⟩; clear b0 b1 c3 hl; obtain ⟨tf, g, c4, hl⟩ := HG.out w3 r3; obtain ⟨b0, b1⟩ := HB.out w3 tf; have R3 := hid r3; clear r3 tf)
  go_quiet (fail)
  go_wp2
  exact bodyPost_ret (v := .tuple #[.int .i64 v2, .int .i64 v, .int .i64 0]) (by simp [results, Tryz.results56, go_sem]) rfl ⟨rfl, HT.out _ _ R3.out⟩
end
section
variable {w w' : World} {t p c : Nat} {g : Option Nat} {nc ng : Nat} {T : Tb} {N : Nat} {A B : List Rb} {q : Rb}
theorem Tv.low {B B' : Nat} {w : World} {v : Value} {xs : List Int} {o : O} (h : Tv B w v xs o) (hb : B' ≤ B) : Tv B' w v xs o := by
 obtain ⟨a, c, e, h1 | ⟨t, cur, e1, h2, h3⟩⟩ := h
 ·exact ⟨a, c, e, Or.inl h1⟩
 ·exact ⟨a, c, e, Or.inr ⟨t, cur, e1, Nat.le_trans hb h2, h3⟩⟩
theorem Tm.self (h : Tm w t p c g nc ng (A ++ q :: B) T N) : setS T q.R.run q.S = T := by
 obtain ⟨h1, h2⟩ := h.after
 have := rs_set (S := q.S) (f := q.F) h1 h2
 unfold setS
 rw [h.rs, this, ← h.rs]
theorem rs_out (hA : ∀ a ∈ A, a.R.run ≠ q.R.run) (hB : ∀ b ∈ B, b.R.run ≠ q.R.run) : (rsOf (A ++ q :: B)).filter (fun r => decide (r.1.run ≠ q.R.run)) = rsOf (A ++ B) := by
 have h1 : ∀ L : List Rb, (∀ a ∈ L, a.R.run ≠ q.R.run) → (rsOf L).filter (fun r => decide (r.1.run ≠ q.R.run)) = rsOf L := fun L hL => by
  refine List.filter_eq_self.2 (fun r hr => ?_)
  obtain ⟨a, ha, rfl⟩ := List.mem_map.1 hr
  simp [hL a ha]
 have e1 : rsOf (A ++ q :: B) = rsOf A ++ (q.R, q.S) :: rsOf B := by simp [rsOf]
 have e2 : rsOf (A ++ B) = rsOf A ++ rsOf B := by simp [rsOf]
 rw [e1, e2, List.filter_append, List.filter_cons, h1 A hA, h1 B hB]
 simp
theorem outR_setS (T : Tb) (n : Int) (S : St) : outR (setS T n S) n = outR T n := by
 unfold outR setS
 congr 1
 induction T.rs with
 | nil => rfl
 | cons a r ih =>
  simp only [List.map_cons, List.filter_cons]
  rw [ih, putS_fst]
  by_cases e : a.1.run = n
  ·simp [e]
  ·simp [e, putS]
theorem ptr_out (hA : ∀ a ∈ A, a.R.run ≠ q.R.run) (hB : ∀ b ∈ B, b.R.run ≠ q.R.run) (n : Int) : kdel (ptr (A ++ q :: B)) q.R.run n = ptr (A ++ B) n := by
 unfold kdel
 split
 ·rename_i e
  rw [e, ptr_none]
  intro x hx
  rcases List.mem_append.1 hx with e | e
  ·exact hA x e
  ·exact hB x e
 ·rename_i e
  unfold ptr
  rw [List.find?_append, List.find?_append, List.find?_cons_of_neg (by simp; exact fun e' => e e'.symm)]
theorem Tm.gone {W4 W5 : World} {n4 nc5 : Nat} (h : Tm w t p c g nc ng (A ++ q :: B) T N) (T4 : Touch [p] w W4) (m4 : MapK KI W4 p n4 (kdel (ptr (A ++ q :: B)) q.R.run)) (h4 : n4 = (A ++ B).length) (T5 : Touch [c] W4 W5) (m5 : MapK KC W5 c nc5 (curV (outR T q.R.run))) (h5 : nc5 ≤ N) : Tm W5 t p c g nc5 ng (A ++ B) (outR T q.R.run) N ∧ Touch [p, c] w W5 := by
 obtain ⟨hA, hB⟩ := h.after
 obtain ⟨nt1, nt2, nt3⟩ := h.tne
 have TT : Touch [p, c] w W5 := (T4.mono (by simp)).trans (T5.mono (by simp)) (fun i hi => Or.inl hi)
 have hin : ∀ x, x ∈ A ++ B → x ∈ A ++ q :: B := fun x hx => by rcases List.mem_append.1 hx with e | e <;> simp [e]
 refine ⟨⟨?_, TT.keep h.bl (by simp [nt1, nt2]), ?_, m5, h.gm.keep TT (fun d hd e => ?_), h.pc, h.gp, h.gc, h5, h.lg, fun x hx => (h.recs x (hin x hx)).keep TT (fun d hd e => ?_), fun x hx => h.far x (hin x hx), ?_, h.iv.outR _⟩, TT⟩
 ·simp only [outR, h.rs]; exact rs_out hA hB
 ·rw [← h4]; exact (m4.keep T5 (by simp [h.pc])).congr (fun n _ => ptr_out hA hB n)
 ·simp only [List.mem_cons, List.not_mem_nil, or_false] at e
  rcases e with e | e
  ·exact h.gp (by rw [hd, e])
  ·exact h.gc (by rw [hd, e])
 ·have := h.far x (hin x hx) d hd
  simp only [List.mem_cons, List.not_mem_nil, or_false] at e
  rcases e with e | e
  ·exact this.2.1 e
  ·exact this.2.2.1 e
 ·obtain ⟨a1, a2, a3⟩ := List.pairwise_append.1 h.apart
  exact List.pairwise_append.2 ⟨a1, (List.pairwise_cons.1 a2).2, fun a ha b hb => a3 a ha b (by simp [hb])⟩
theorem Tm.delP (h : Tm w t p c g nc ng (A ++ q :: B) T N) (hN : N ≤ 3000000000000) (ty : TypeId) : ∃ o, (Builtin.delete_ #[176, 3] ty #[.map (some p), .int .i64 q.R.run]).run Tryz.prog w = .ok (.tuple #[]) (setBlock w p o) ∧ Touch [p] w (setBlock w p o) ∧ MapK KI (setBlock w p o) p (A ++ B).length (kdel (ptr (A ++ q :: B)) q.R.run) := by
 obtain ⟨o, q1, q2⟩ := h.pm.del (t := 176) Tryz.underlying176 (h.w64 hN) ty
 rw [ptr_mid h.after.1] at q2
 refine ⟨o, q1, touch_setBlock (Touch.refl _ _) (Or.inl (by simp)) o, ?_⟩
 have e : (A ++ q :: B).length - 1 = (A ++ B).length := by simp
 simp only [Option.isSome_some, if_true] at q2
 rw [e] at q2
 exact q2
end
section
variable (w : World) (t : Nat) (F : List Nat) (T : Tb) (N : Nat)
def TeE (e : Ending) (w w' : World) (t : Nat) (F : List Nat) (T : Tb) (n : Int) (o : O) (N : Nat) : Prop := ∃ v, e = .returned (.tuple #[v, .bool (tEndC T n o), .int .i64 (tEndE T n o)]) ∧ Tv w.heap.size w' v (tEndL T n o) o ∧ TqE w w' t F (tEnd T n o) N
set_option maxHeartbeats 2000000 in
theorem tEnd_no (h : Tq w t F T N) (n : Int) (o : O) (hn : W64 n) (hr : runOf T n = none) : Calls Tryz.prog 45 #[PT t, .int .i64 n, ov o] w fun e w' => e = .returned (.tuple #[.slice none 0 0, .bool false, .int .i64 122]) ∧ Touch [] w w' := by
 obtain ⟨p, c, g, nc, ng, Ps, rfl, h, hL⟩ := h
 have HR := hid (fun o => tRecord (h.keep0 ((Touch.refl _ _).alloc o)) n hn)
 rw [h.notIn hr] at HR
 simp only [Option.getD_none] at HR
 clear h
 unfold PT ov at *
 go_enter Tryz.func45, Tryz.ntmps45
 go_wp2_with (go_at_call 91; refine (HR.out _).mono ?_; rintro e w2 ⟨rfl, rfl⟩)
 refine bodyPost_ret (v := .tuple #[.slice none 0 0, .bool false, .int .i64 122]) (by simp [results, Tryz.results45, go_sem]) rfl ⟨rfl, ?_⟩
 repeat (first | exact Touch.refl _ _ | apply Touch.alloc | (refine Touch.setCell ?_ (Or.inr (by simp)) _))
set_option maxHeartbeats 4000000 in
set_option maxRecDepth 100000 in
theorem tEnd_at {p c : Nat} {g : Option Nat} {nc ng : Nat} {A B : List Rb} {q : Rb} (h : Tm w t p c g nc ng (A ++ q :: B) T N) (hN : N ≤ 3000000000000) (hL : Lv T) (o : O) :
  Calls Tryz.prog 45 #[PT t, .int .i64 q.R.run, ov o] w fun e w' => ∃ v, e = .returned (.tuple #[v, .bool (decide (endE q.S o = 0) && isCur T q.R), .int .i64 (endE q.S o)]) ∧ Tv w.heap.size w' v (endL q.S o) o ∧ TqE w w' t (fpT t p c g (A ++ q :: B)) (if endE q.S o = 0 then outR T q.R.run else T) N := by
 obtain ⟨F, hFe⟩ : ∃ F, F = fpT t p c g (A ++ q :: B) := ⟨_, rfl⟩
 obtain ⟨W, hW⟩ : ∃ W, W = w.alloc (.cells #[.int .i64 o.1, .int .i64 o.2.1, .int .i64 o.2.2.1, .int .i64 o.2.2.2] 42) := ⟨_, rfl⟩
 have t0 : Touch [] w W := by rw [hW]; exact (Touch.refl _ _).alloc _
 have hz0 := t0.size
 have hF : ∀ d, d ∈ F → d < w.heap.size := by rw [hFe]; exact h.lt
 have h1 := h.keep0 t0
 have HR := hid (tRecord_at h1 hN)
 have HE := hid (end11 W q.b N q.F q.R q.S (h1.recs q (by simp)) hN o)
 unfold EnE at HE
 have hb : W.heap[w.heap.size]? = some (.cells #[.int .i64 o.1, .int .i64 o.2.1, .int .i64 o.2.2.1, .int .i64 o.2.2.2] 42 (0, 0)) := by rw [hW]; exact heap_alloc_new w _
 obtain ⟨x0, x1, x2, x3⟩ : W.cell? ⟨w.heap.size, 0, none⟩ = some (.int .i64 o.1) ∧ W.cell? ⟨w.heap.size, 1, none⟩ = some (.int .i64 o.2.1) ∧ W.cell? ⟨w.heap.size, 2, none⟩ = some (.int .i64 o.2.2.1) ∧ W.cell? ⟨w.heap.size, 3, none⟩ = some (.int .i64 o.2.2.2) := ⟨cell_at hb rfl, cell_at hb rfl, cell_at hb rfl, cell_at hb rfl⟩
 have lp := h.pm.lt
 have lc := h.cm.lt
 rw [← hFe]
 by_cases hz : endE q.S o = 0
 ·have hcu : isCur (setS T q.R.run (endS q.S o)) q.R = isCur T q.R := rfl
  have HP : Hid (∀ w2, RqE W w2 q.b q.F q.R (endS q.S o) N → ∃ q', q'.R = q.R ∧ q'.b = q.b ∧ Tm w2 t p c g nc ng (A ++ q' :: B) (setS T q.R.run (endS q.S o)) N ∧ Touch F W w2) := fun w2 e => by
   obtain ⟨f, r1, r2, r3⟩ := h1.step e (Nat.le_refl N)
   exact ⟨⟨q.R, endS q.S o, q.b, f⟩, rfl, rfl, r1, by rw [hFe]; exact r2.mono fp_rec⟩
  have hfin : ∀ w2 q' w3 W4 W5 nc5, q'.R = q.R → Tm w2 t p c g nc ng (A ++ q' :: B) (setS T q.R.run (endS q.S o)) N → Touch F W w2 → Touch [] w2 w3 → Touch [p] w3 W4 → MapK KI W4 p (A ++ B).length (kdel (ptr (A ++ q' :: B)) q.R.run) → Touch [c] W4 W5 → MapK KC W5 c nc5 (curV (outR T q.R.run)) → nc5 ≤ N → TqE w W5 t F (outR T q.R.run) N := fun w2 q' w3 W4 W5 nc5 e1 m2 tf t3 t4 m4 t5 m5 h5 => by
   rw [← e1] at m2 m4 m5 ⊢
   rw [← outR_setS T q'.R.run (endS q.S o)] at m5 ⊢
   obtain ⟨g1, g2⟩ := (m2.keep0 t3).gone t4 m4 rfl t5 m5 h5
   refine TqE.from0 t0 ⟨_, ⟨p, c, g, nc5, ng, A ++ B, rfl, g1, ?_⟩, (tf.trans t3 (fun _ e => by cases e)).trans g2 (fun i hi => ?_), fun d hd => ?_⟩
   ·rw [outR_setS]; exact hL.outR
   ·rw [hFe]
    simp only [List.mem_cons, List.not_mem_nil, or_false] at hi
    rcases hi with e | e
    ·exact Or.inl (mem_fpT.2 (Or.inr (Or.inl e)))
    ·exact Or.inl (mem_fpT.2 (Or.inr (Or.inr (Or.inl e))))
   ·rw [hFe]
    rcases mem_fpT.1 hd with e | e | e | e | ⟨x, hx, e⟩
    ·exact Or.inl (mem_fpT.2 (Or.inl e))
    ·exact Or.inl (mem_fpT.2 (Or.inr (Or.inl e)))
    ·exact Or.inl (mem_fpT.2 (Or.inr (Or.inr (Or.inl e))))
    ·exact Or.inl (mem_fpT.2 (Or.inr (Or.inr (Or.inr (Or.inl e)))))
    ·refine Or.inl (mem_fpT.2 (Or.inr (Or.inr (Or.inr (Or.inr ⟨x, ?_, e⟩)))))
     rcases List.mem_append.1 hx with e' | e' <;> simp [e']
  have HX := hid hfin
  have hmem := h.memR
  have hiv := h.iv
  have hco := curOf_outR hiv hmem
  simp only at hco
  have HI : Hid (∀ w2 q', q'.R = q.R → q'.b = q.b → Tm w2 t p c g nc ng (A ++ q' :: B) (setS T q.R.run (endS q.S o)) N → Calls Tryz.prog 94 #[PT t, .int .i64 q.R.run] w2 fun e w' => e = .returned (.bool (isCur T q.R)) ∧ Touch [] w2 w') := fun w2 q' e1 e2 m2 => by
   have := tIsCur_at m2 hN
   rw [e1, hcu] at this
   exact this
  have HD : Hid (∀ w2 q' w3, q'.R = q.R → Tm w2 t p c g nc ng (A ++ q' :: B) (setS T q.R.run (endS q.S o)) N → Touch [] w2 w3 → w3.cell? ⟨t, 2, none⟩ = some (.map (some p)) ∧ ∃ ob, (∀ ty, (Builtin.delete_ #[176, 3] ty #[.map (some p), .int .i64 q.R.run]).run Tryz.prog w3 = .ok (.tuple #[]) (setBlock w3 p ob)) ∧ Touch [p] w3 (setBlock w3 p ob) ∧ MapK KI (setBlock w3 p ob) p (A ++ B).length (kdel (ptr (A ++ q' :: B)) q.R.run)) := fun w2 q' w3 e1 m2 t3 => by
   obtain ⟨ob, r1, r2, r3⟩ := (m2.keep0 t3).delP hN 0
   rw [e1] at r1 r3
   exact ⟨(m2.keep0 t3).cs.c2, ob, fun ty => r1, r2, r3⟩
  have HV : Hid (∀ w2 v w3 W4 W5, Tv W.heap.size w2 v (endL q.S o) o → Touch [] w2 w3 → Touch [p] w3 W4 → Touch [c] W4 W5 → Tv w.heap.size W5 v (endL q.S o) o) := fun w2 v w3 W4 W5 v2 t3 t4 t5 =>
   ((((v2.keep0 t3).keep t4 (fun k hk => Or.inl (by simp only [List.mem_singleton] at hk; omega))).keep t5 (fun k hk => Or.inl (by simp only [List.mem_singleton] at hk; omega)))).low hz0
  rw [hz] at HE
  rw [hz, if_pos rfl, show decide ((0 : Int) = 0) = true from rfl, Bool.true_and]
  have nt2 := h.tne.2.1
  have nt1 := h.tne.1
  have hpc := h.pc
  cases hc : isCur T q.R with
  | false =>
   rw [hc] at HI
   have HM : Hid (∀ w2 q' w3 W4, q'.R = q.R → Tm w2 t p c g nc ng (A ++ q' :: B) (setS T q.R.run (endS q.S o)) N → Touch [] w2 w3 → Touch [p] w3 W4 → MapK KC W4 c nc (curV (outR T q.R.run)) ∧ nc ≤ N) := fun w2 q' w3 W4 e1 m2 t3 t4 => by
    refine ⟨((m2.keep0 t3).cm.keep t4 (by simp; exact Ne.symm m2.pc)).congr (fun k _ => ?_), m2.lc⟩
    unfold curV
    rw [curOf_setS, hco k, hc, if_neg (by simp)]
   clear h h1 hF hb hfin hcu hco hmem hiv hc hz t0 hFe hL
   unfold PT ov at *
   go_enter Tryz.func45, Tryz.ntmps45
   go_upto_region 1 with fail
   rw [← hW]
   clear hW
   go_wp2_with (first
    | (go_at_call 91; refine HR.out.mono ?_; rintro e w2 ⟨rfl, rfl⟩)
    | (go_at_call 93; refine HE.out.mono ?_; rintro e w2 ⟨v, rfl, v2, r2⟩; obtain ⟨q', e1, e2, m2, tf⟩ := HP.out _ r2; have V2 := hid v2; have M2 := hid m2; have TF := hid tf; clear r2 v2 m2 tf x0 x1 x2 x3)
    | (go_at_call 94; refine (HI.out _ _ e1 e2 M2.out).mono ?_; rintro e w3 ⟨rfl, t3⟩; have T3 := hid t3; obtain ⟨c2, ob, dl, t4, m4⟩ := HD.out _ _ _ e1 M2.out t3; have T4 := hid t4; have M4 := hid m4; clear t3 t4 m4))
   obtain ⟨m5, h5⟩ := HM.out _ _ _ _ e1 M2.out T3.out T4.out
   exact bodyPost_ret (v := .tuple #[v, .bool false, .int .i64 0]) (by simp [results, Tryz.results45, go_sem]) rfl ⟨v, rfl, HV.out _ _ _ _ _ V2.out T3.out T4.out (Touch.refl _ _), HX.out _ _ _ _ _ _ e1 M2.out TF.out T3.out T4.out M4.out (Touch.refl _ _) m5 h5⟩
  | true =>
   rw [hc] at HI
   have hok := hiv.ok _ hmem
   have HM : Hid (∀ w2 q' w3 W4, q'.R = q.R → q'.b = q.b → Tm w2 t p c g nc ng (A ++ q' :: B) (setS T q.R.run (endS q.S o)) N → Touch [] w2 w3 → Touch [p] w3 W4 → ∀ w5, Touch [] W4 w5 → w5.cell? ⟨t, 3, none⟩ = some (.map (some c)) ∧ (Calls Tryz.prog 92 #[PT q.b] w5 fun e w' => e = .returned (rv q.R) ∧ Touch [] w5 w') ∧ ∃ ob, (∀ ty, (Builtin.delete_ #[177, 38] ty #[.map (some c), .agg #[.int .u16 q.R.sp, .string q.R.nm]]).run Tryz.prog w5 = .ok (.tuple #[]) (setBlock w5 c ob)) ∧ Touch [c] W4 (setBlock w5 c ob) ∧ ∃ nc5, nc5 ≤ N ∧ MapK KC (setBlock w5 c ob) c nc5 (curV (outR T q.R.run))) := fun w2 q' w3 W4 e1 e2 m2 t3 t4 w5 t5 => by
    have mm := m2.keep0 t3
    have tp : Touch [p] w3 w5 := t4.trans t5 (fun _ e => by cases e)
    refine ⟨cell_at (tp.keep mm.bl (by simp; exact nt1)) rfl, ?_, ?_⟩
    ·have := run8 w5 q'.b N q'.F q'.R q'.S ((mm.recs q' (by simp)).keep tp (fun d hd e => by simp only [List.mem_singleton] at e; exact (mm.far q' (by simp) d hd).2.1 e))
     rw [e1, e2] at this
     exact this
    ·obtain ⟨ob, r1, r2⟩ := (mm.cm.keep tp (by simp; exact Ne.symm hpc)).del (t := 177) Tryz.underlying177 hok 0
     refine ⟨ob, fun ty => r1, (t5.mono (fun _ e => by cases e)).trans (touch_setBlock (Touch.refl [c] _) (Or.inl (by simp)) ob) (fun i hi => Or.inl hi), _, ?_, r2.congr (fun k _ => ?_)⟩
     ·have := m2.lc
      split <;> omega
     ·unfold kdel curV
      rw [curOf_setS, hco k, hc]
      by_cases ek : k = kOf q.R
      ·rw [if_pos ek, if_pos ⟨rfl, ek⟩]; rfl
      ·rw [if_neg ek, if_neg (fun e => ek e.2)]
   clear h h1 hF hb hfin hcu hco hmem hiv hc hz t0 hFe hL hok
   unfold PT ov at *
   unfold rv at HM
   go_enter Tryz.func45, Tryz.ntmps45
   go_upto_region 1 with fail
   rw [← hW]
   clear hW
   go_wp2_with (first
    | (go_at_call 91; refine HR.out.mono ?_; rintro e w2 ⟨rfl, rfl⟩)
    | (go_at_call 93; refine HE.out.mono ?_; rintro e w2 ⟨v, rfl, v2, r2⟩; obtain ⟨q', e1, e2, m2, tf⟩ := HP.out _ r2; have V2 := hid v2; have M2 := hid m2; have TF := hid tf; clear r2 v2 m2 tf x0 x1 x2 x3)
    | (go_at_call 94; refine (HI.out _ _ e1 e2 M2.out).mono ?_; rintro e w3 ⟨rfl, t3⟩; have T3 := hid t3; obtain ⟨c2, ob, dl, t4, m4⟩ := HD.out _ _ _ e1 M2.out t3; have T4 := hid t4; have M4 := hid m4; clear t3 t4 m4))
   have HM2 := hid (HM.out _ _ _ _ e1 e2 M2.out T3.out T4.out)
   generalize hW4 : setBlock w3 p ob = W4 at *
   have C3 : ∀ w', Touch [] W4 w' → w'.cell? ⟨t, 3, none⟩ = some (.map (some c)) := fun w' T' => (HM2.out w' T').1
   have k0 : Touch [] W4 W4.drew := (Touch.refl _ _).drew
   refine wp_region_L (S := fun w' => Touch [] W4 w') (st := 7) (by kernel_rfl) ?_
   refine wpL_takeY (i := 0) (v := (.pointer (some ⟨t, 0, none⟩))) (some 36) rfl rfl (by kernel_rfl) (by kernel_rfl) (by kernel_rfl) (by decide) (fun _ _ _ h => h) (Or.inl ⟨by rfl, fun w' hS => (by go_simp)⟩) (fun _ => k0) ?_
   try simp only [Go.Act.put, Zx, Zy, Zz]
   refine wpL_takeY (i := 1) (v := (.pointer (some ⟨t, 0, none⟩))) (some 37) rfl rfl (by kernel_rfl) (by kernel_rfl) (by kernel_rfl) (by decide) (fun _ _ _ h => h) (Or.inl ⟨by rfl, fun w' hS => (by go_simp)⟩) (fun _ => k0) ?_
   try simp only [Go.Act.put, Zx, Zy, Zz]
   refine wpL_takeY (i := 2) (v := (.pointer (some ⟨t, 3, none⟩))) (some 38) rfl rfl (by kernel_rfl) (by kernel_rfl) (by kernel_rfl) (by decide) (fun _ _ _ h => h) (Or.inl ⟨by rfl, fun w' hS => (by go_simp)⟩) (fun _ => k0) ?_
   try simp only [Go.Act.put, Zx, Zy, Zz]
   refine wpL_take (i := 3) (v := (.map (some c))) (some 39) rfl rfl (by kernel_rfl) (by kernel_rfl) (by kernel_rfl) (by kernel_rfl) (by kernel_rfl) (by decide) (fun _ _ _ h => h) (Or.inl ⟨by rfl, fun w' hS => (by have z0 := C3 _ hS; go_simp)⟩) k0 ?_
   try simp only [Go.Act.put, Zx, Zy, Zz]
   refine wpL_takeY (i := 4) (v := (.pointer (some ⟨q.b, 0, none⟩))) (some 40) rfl rfl (by kernel_rfl) (by kernel_rfl) (by kernel_rfl) (by decide) (fun _ _ _ h => h) (Or.inl ⟨by rfl, fun w' hS => (by go_simp)⟩) (fun _ => k0) ?_
   try simp only [Go.Act.put, Zx, Zy, Zz]
   refine wpL_ready (rs := [5]) (by kernel_rfl) (by simp) (AllL.cons (o := { dst := some 41, op := Op.call { callee := Callee.value (Operand.func 92), args := #[Operand.tmp 40], argTypes := #[171] }, type := 53, pos := _, after := #[{ on := 4, ground := Ground.data }], guard := none }) rfl (fun K' hK => ?_) AllL.nil)
   rw [if_pos (by rfl)]
   go_simp
   refine (HM2.out _ k0).2.1.mono ?_
   rintro e' w5 ⟨rfl, s5⟩
   have k5 : Touch [] W4 w5 := k0.trans' s5
   refine hK.out _ _ (fun _ => k5) ?_
   clear hK
   try simp only [Go.Act.put, Zx, Zy, Zz]
   obtain ⟨-, -, ob5, dl5, t5, nc5, h5, m5⟩ := HM2.out _ k5
   have dl5' := dl5 0
   refine wpL_take (i := 6) (v := (.agg #[.int .u16 q.R.sp, .string q.R.nm])) (some 42) rfl rfl (by kernel_rfl) (by kernel_rfl) (by kernel_rfl) (by kernel_rfl) (by kernel_rfl) (by decide) (fun _ _ _ h => h) (Or.inl ⟨by rfl, fun w' hS => (by have z0 := runKey w' q.R.run q.R.sp q.R.gen q.R.nm q.R.rf; go_simp)⟩) k5 ?_
   try simp only [Go.Act.put, Zx, Zy, Zz]
   refine wpL_ready (rs := [7]) (by kernel_rfl) (by simp) (AllL.cons (o := { dst := none, op := Op.call { callee := Callee.builtin Builtin.delete, args := #[Operand.tmp 39, Operand.tmp 42], argTypes := #[177, 38] }, type := 0, pos := _, after := #[{ on := 3, ground := Ground.data }, { on := 6, ground := Ground.data }, { on := 5, ground := Ground.chain }], guard := none }) rfl (fun K' hK => ?_) AllL.nil)
   rw [if_pos (by rfl)]
   go_simp
   refine hK.out _ _ (fun h => absurd h (by decide)) ?_
   clear hK
   try simp only [Go.Act.put, Zx, Zy, Zz]
   refine wpL_done (by kernel_rfl) ?_ _
   go_wp2
   exact bodyPost_ret (v := .tuple #[v, .bool true, .int .i64 0]) (by simp [results, Tryz.results45, go_sem]) rfl ⟨v, rfl, HV.out _ _ _ _ _ V2.out T3.out T4.out t5, HX.out _ _ _ _ _ _ e1 M2.out TF.out T3.out T4.out M4.out t5 m5 h5⟩
 ·have es : endS q.S o = q.S := by unfold endS; rw [if_neg hz]
  have el : endL q.S o = [] := by unfold endL; rw [if_neg hz]
  have hz' : (endE q.S o != 0) = true := by simp [hz]
  rw [es] at HE
  rw [el, if_neg hz, show decide (endE q.S o = 0) = false by simp [hz], Bool.false_and]
  have HP : Hid (∀ w2, RqE W w2 q.b q.F q.R q.S N → TqE w w2 t F T N) := fun w2 e => by
   have := h1.stepE e (Nat.le_refl N) hL (hL _ h.memR)
   rw [h.self, ← hFe] at this
   exact TqE.from0 t0 this
  have HV := hid (fun w2 => Tv.nil w.heap.size w2 o)
  clear h h1 hF hb es el hz t0 hFe hL hz0 lp lc
  generalize endE q.S o = E at *
  generalize endL q.S o = L at *
  unfold PT ov at *
  go_enter Tryz.func45, Tryz.ntmps45
  go_upto_region 1 with fail
  rw [← hW]
  clear hW
  go_wp2_with (first
   | (go_at_call 91; refine HR.out.mono ?_; rintro e w2 ⟨rfl, rfl⟩)
   | (go_at_call 93; refine HE.out.mono ?_; rintro e w2 ⟨v, rfl, v2, r2⟩; have R2 := hid (HP.out _ r2); clear r2 v2 x0 x1 x2 x3))
  exact bodyPost_ret (v := .tuple #[.slice none 0 0, .bool false, .int .i64 E]) (by simp [results, Tryz.results45, go_sem]) rfl ⟨_, rfl, HV.out _, R2.out⟩
theorem endT (h : Tq w t F T N) (hN : N ≤ 3000000000000) (n : Int) (o : O) (hn : W64 n) : Calls Tryz.prog 45 #[PT t, .int .i64 n, ov o] w fun e w' => TeE e w w' t F T n o N := by
 unfold TeE tEndC tEndE tEndL tEnd
 cases hr : runOf T n with
 | none => exact (tEnd_no w t F T N h n o hn hr).mono (fun e w' hh => ⟨_, hh.1, Tv.nil _ _ _, TqE.touch h hh.2 (Nat.le_refl N)⟩)
 | some r =>
  obtain ⟨p, c, g, nc, ng, Ps, rfl, h, hL⟩ := h
  obtain ⟨A, q, B, rfl, rfl, rfl, _⟩ := h.found hr
  exact tEnd_at w t T N h hN hL o
end
end Go.Proofs.YtkfophlhpjbmgaaGreat.Ta
/- The contracts of a batch's Send and Force as steps, of a nil batch's methods, and of the law's awake; no conditions but those that each states. -/
namespace Go.Proofs.YtkfophlhpjbmgaaGreat.Ba
open Go.RowKit Go.Maps Go.ChangeMaps
section
variable {w : World} {b N : Nat} {sl : Value} {d n x : Int} {S : Bs}
theorem send_mid (h : Bm w b sl d S) : Bm (w.setCell ⟨b, 2, none⟩ (.int .i64 n)) b sl d (sendM S n) ∧ Touch [b] w (w.setCell ⟨b, 2, none⟩ (.int .i64 n)) := by
 have TB : Touch [b] w (w.setCell ⟨b, 2, none⟩ (.int .i64 n)) := (Touch.refl _ _).setCell (Or.inl (by simp)) _
 refine ⟨⟨?_, own_touch h.row TB (fun q hq e => by simp only [List.mem_singleton] at e; exact h.ne hq e), h.du⟩, TB⟩
 have := bset (i := 2) h.hb (.int .i64 n)
 simpa [pc, sendM] using this
theorem force_step {w0 : World} {F : List Nat} (h : Bm w b sl d S) (hv : Iv S N) (hN : N ≤ 6000000000000) (ht : Touch F w0 w) (hf : Nf w0 F (fpB b sl)) : Calls Tryz.prog 110 #[PT b] w fun e w' => ∃ v, e = .returned v ∧ (∃ a n c, v = .slice a n c) ∧ BqE w0 w' b F (forceS S) (N + 1) S.run v := by
 have hs1 := hv.n1
 have hs2 := hv.n2
 refine (force_ h hs1 (by omega)).mono ?_
 rintro e w2 ⟨v, sl', rfl, hfo, q1, q2, q3, q4⟩
 refine ⟨v, rfl, hfo, ⟨fpB b sl', ⟨sl', d, rfl, q1, hv.force⟩, ht.trans q3 (fun q hq => hf q (by simp only [List.mem_singleton] at hq; exact mem_fpB.2 (Or.inl hq))), fun q hq => hf q ?_⟩, q4, hfo⟩
 rcases q2 with rfl | rfl
 ·exact hq
 ·rcases mem_fpB.1 hq with e | e
  ·exact mem_fpB.2 (Or.inl e)
  ·cases e
set_option maxHeartbeats 2000000 in
theorem send_ (h : Bm w b sl d S) (hv : Iv S N) (hN : N ≤ 6000000000000) : Calls Tryz.prog 59 #[PT b, .int .i64 n] w fun e w' => ∃ v, e = .returned (.tuple #[v, .int .i64 (wrongE S n)]) ∧ BqE w w' b (fpB b sl) (sendS S n) (N + 1) (sendL S n) v := by
 have HT := hid (tell_ h n)
 by_cases hw : wrongE S n ≠ 0
 ·have HS := hid (bq_same h hv)
  have e1 : sendS S n = S := by unfold sendS; rw [if_pos hw]
  have e2 : sendL S n = [] := by unfold sendL; rw [if_pos hw]
  rw [e1, e2]
  have hk : (wrongE S n != 0) = true := by simpa using hw
  clear e1 e2 hw h hv
  generalize wrongE S n = k at *
  unfold PT at *
  go_enter Tryz.func59, Tryz.ntmps59
  go_wp2_with (go_at_call 109; refine (HT.out).mono ?_; rintro e w2 ⟨rfl, e2⟩; rw [e2]; clear e2 w2)
  exact bodyPost_ret (v := .tuple #[.slice none 0 0, .int .i64 k]) (by simp [results, Tryz.results59, go_sem]) rfl ⟨_, rfl, HS.out⟩
 ·have hw0 : wrongE S n = 0 := Decidable.not_not.1 hw
  obtain ⟨g1, g2, g3⟩ := wrong0 hw
  have hm : Iv (sendM S n) N := { hv with t1 := g1, t2 := g2 }
  have e1 : sendS S n = if sendF S n then forceS (sendM S n) else sendM S n := by unfold sendS; rw [if_neg hw]
  have e2 : sendL S n = if sendF S n then S.run else [] := by unfold sendL; rw [if_neg hw]
  rw [hw0] at HT ⊢
  rw [e1, e2]
  have c2 := cell_at (j := 2) (v := .int .i64 S.tim) h.hb rfl
  have ff := froz_at h.hb
  obtain ⟨W1, hW1⟩ : ∃ W1, W1 = w.setCell ⟨b, 2, none⟩ (.int .i64 n) := ⟨_, rfl⟩
  obtain ⟨h1, t1⟩ := send_mid (n := n) h
  rw [← hW1] at h1 t1
  have ht : Touch (fpB b sl) w W1 := t1.mono (fun q hq => by simp only [List.mem_singleton] at hq; exact mem_fpB.2 (Or.inl hq))
  have HD := hid (due_ h1)
  have HF := hid (force_step h1 hm hN ht (Nf.refl _ _))
  have HN : Hid (BqE w W1 b (fpB b sl) (sendM S n) (N + 1) [] (.slice none 0 0)) := hid ⟨⟨fpB b sl, ⟨sl, d, rfl, h1, hm.mono (Nat.le_succ N)⟩, ht, Nf.refl _ _⟩, Rd.nil _, _, _, _, rfl⟩
  have er : (sendM S n).run = S.run := rfl
  have ed : dueV (sendM S n) = dueV S := rfl
  rw [er, ed] at HD
  rw [er] at HF
  clear e1 e2 hw0 hw h hv hm t1 ht h1 er ed g1 g2 g3
  unfold PT at *
  by_cases he : S.run = []
  ·have hf : sendF S n = false := by simp [sendF, he]
   rw [hf]
   simp only [Bool.false_eq_true, if_false]
   rw [show decide (S.run ≠ []) = false by simp [he]] at HD
   clear HF hf he
   generalize dueV S = k at *
   go_enter Tryz.func59, Tryz.ntmps59
   go_upto_region 5 with (go_at_call 109; refine (HT.out).mono ?_; rintro e w2 ⟨rfl, e2⟩; rw [e2]; clear e2 w2)
   rw [← hW1]
   clear hW1 c2 ff
   go_wp2_with (go_at_call 60; refine (HD.out).mono ?_; rintro e w2 ⟨rfl, e2⟩; rw [e2]; clear e2 w2)
   exact bodyPost_ret (v := .tuple #[.slice none 0 0, .int .i64 0]) (by simp [results, Tryz.results59, go_sem]) rfl ⟨_, rfl, HN.out⟩
  ·have hk : dueV S = dueS S := by unfold dueV; rw [if_neg he]
   rw [show decide (S.run ≠ []) = true by simp [he], hk] at HD
   by_cases hf : dueS S ≤ n
   ·have hs : sendF S n = true := by simp [sendF, he, hf]
    rw [hs]
    simp only [if_true]
    clear HN hs he hk
    generalize dueS S = k at *
    have hg : ¬ n < k := by omega
    clear hf
    go_enter Tryz.func59, Tryz.ntmps59
    go_upto_region 5 with (go_at_call 109; refine (HT.out).mono ?_; rintro e w2 ⟨rfl, e2⟩; rw [e2]; clear e2 w2)
    rw [← hW1]
    clear hW1 c2 ff
    go_wp2_with (first | (go_at_call 60; refine (HD.out).mono ?_; rintro e w2 ⟨rfl, e2⟩; rw [e2]; clear e2 w2) | (go_at_call 110; refine (HF.out).mono ?_; rintro e w8 ⟨v8, rfl, ⟨a8, n8, c8, rfl⟩, q8⟩; have Q8 := hid q8; clear q8))
    exact bodyPost_ret (v := .tuple #[.slice a8 n8 c8, .int .i64 0]) (by simp [results, Tryz.results59, go_sem]) rfl ⟨_, rfl, Q8.out⟩
   ·have hs : sendF S n = false := by simp [sendF, hf]
    rw [hs]
    simp only [Bool.false_eq_true, if_false]
    clear HF hs he hk
    generalize dueS S = k at *
    have hg : n < k := by omega
    clear hf
    go_enter Tryz.func59, Tryz.ntmps59
    go_upto_region 5 with (go_at_call 109; refine (HT.out).mono ?_; rintro e w2 ⟨rfl, e2⟩; rw [e2]; clear e2 w2)
    rw [← hW1]
    clear hW1 c2 ff
    go_wp2_with (go_at_call 60; refine (HD.out).mono ?_; rintro e w2 ⟨rfl, e2⟩; rw [e2]; clear e2 w2)
    exact bodyPost_ret (v := .tuple #[.slice none 0 0, .int .i64 0]) (by simp [results, Tryz.results59, go_sem]) rfl ⟨_, rfl, HN.out⟩
end
section
variable (w : World)
end
end Go.Proofs.YtkfophlhpjbmgaaGreat.Ba
/- What leaving, forgetting, ending and sending do, in plain words, and the parts' contracts for them as steps of the group; no conditions but those that each states. -/
namespace Go.Proofs.YtkfophlhpjbmgaaGreat
open Go.RowKit Go.Maps Go.ChangeMaps
def lefX (X : Gp) (x : Lv.Se) : Gp := { X with T := Ta.tLeave X.T x.2.1 x.1 }
def lefV (T : Ta.Tb) (x : Lv.Se) : Array Value := #[.int .i64 x.1, .int .i64 x.2.1, .bool (Ta.tLeaveC T x.2.1 x.1), .bool (Ta.tLeaveA T x.2.1 x.1), .int .i64 0, .int .i64 3, .int .i64 0, .int .i64 0]
def lfz : Array Value := #[.int .i64 0, .int .i64 0, .bool false, .bool false, .int .i64 0, .int .i64 0, .int .i64 0, .int .i64 0]
section
variable {w w1 : World} {g : Nat} {P : Pt} {F : List Nat} {X : Gp} {N : Cn}
theorem tleave_at (Q : GqE w w1 g P F X N) (hN : N.t ≤ 3000000000000) {n x : Int} (hn : W64 n) (hx : W64 x) : Calls Tryz.prog 104 #[PT P.t, .int .i64 n, .int .i64 x] w1 fun e w2 => e = .returned (.tuple #[.agg #[.bool (Ta.tLeaveC X.T n x), .bool (Ta.tLeaveA X.T n x)], .int .i64 (Ta.tLeaveE X.T n x)]) ∧ GqE w w2 g P F { X with T := Ta.tLeave X.T n x } { N with t := N.t + 1 } ∧ Keeps w1 w2 := by
 obtain ⟨Ft, h, hs⟩ := Q.tab
 exact (Ta.leaveT w1 P.t Ft X.T N.t h hN n x hn hx).mono (fun e w2 hh => ⟨hh.1, hs _ _ _ hh.2⟩)
theorem trel_at (Q : GqE w w1 g P F X N) (hN : N.t ≤ 3000000000000) {n : Int} (hn : W64 n) : Calls Tryz.prog 57 #[PT P.t, .int .i64 n] w1 fun e w2 => e = .returned (.tuple #[.agg #[.bool (Ta.tRelC X.T n), .bool (Ta.tRelA X.T n)], .int .i64 (Ta.tRelE X.T n)]) ∧ GqE w w2 g P F { X with T := Ta.tRel X.T n } { N with t := N.t + 1 } ∧ Keeps w1 w2 := by
 obtain ⟨Ft, h, hs⟩ := Q.tab
 exact (Ta.relT w1 P.t Ft X.T N.t h hN n hn).mono (fun e w2 hh => ⟨hh.1, hs _ _ _ hh.2⟩)
theorem tfor_at (Q : GqE w w1 g P F X N) (hN : N.t ≤ 3000000000000) (k : K) (hk : Ok k) : Calls Tryz.prog 56 #[PT P.t, kv k] w1 fun e w2 => e = .returned (.tuple #[.int .i64 (Ta.tForN X.T k), .int .i64 (Ta.tForR X.T k), .int .i64 (Ta.tForE k)]) ∧ GqE w w2 g P F { X with T := Ta.tFor X.T k } { N with t := N.t + 1 } ∧ Keeps w1 w2 := by
 obtain ⟨Ft, h, hs⟩ := Q.tab
 exact (Ta.forgetT w1 P.t Ft X.T N.t h hN k hk).mono (fun e w2 hh => ⟨hh.1, hs _ _ _ hh.2⟩)
theorem tend_at (Q : GqE w w1 g P F X N) (hN : N.t ≤ 3000000000000) {n : Int} (o : O) (hn : W64 n) : Calls Tryz.prog 45 #[PT P.t, .int .i64 n, Me.ov o] w1 fun e w2 => ∃ v, e = .returned (.tuple #[v, .bool (Ta.tEndC X.T n o), .int .i64 (Ta.tEndE X.T n o)]) ∧ Ta.Tv w1.heap.size w2 v (Ta.tEndL X.T n o) o ∧ GqE w w2 g P F { X with T := Ta.tEnd X.T n o } N ∧ Keeps w1 w2 := by
 obtain ⟨Ft, h, hs⟩ := Q.tab
 refine (Ta.endT w1 P.t Ft X.T N.t h hN n o hn).mono ?_
 rintro e w2 ⟨v, e1, e2, e3⟩
 exact ⟨v, e1, e2, hs _ _ _ e3⟩
theorem trun_at (Q : GqE w w1 g P F X N) (hN : N.t ≤ 3000000000000) {n : Int} (hn : W64 n) : Calls Tryz.prog 44 #[PT P.t, .int .i64 n] w1 fun e w2 => e = .returned (.tuple #[Ta.rv (Ta.rnOf X.T n), .bool (Ta.runOf X.T n).isSome]) ∧ GqE w w2 g P F X N ∧ Keeps w1 w2 := by
 obtain ⟨Ft, h, hs⟩ := Q.tab
 exact (Ta.runT w1 P.t Ft X.T N.t h hN n hn).mono (fun e w2 hh => ⟨hh.1, Q.then0' hh.2⟩)
theorem stand_at (Q : GqE w w1 g P F X N) (hN : N.s ≤ 4400000000000) {c : Int} (hc : W64 c) : Calls Tryz.prog 53 #[PT P.s, .int .i64 c] w1 fun e w2 => e = .returned (.tuple #[Lv.sv ((Lv.whr X.L c).getD (0, 0, 0)), .bool (Lv.whr X.L c).isSome]) ∧ GqE w w2 g P F { X with L := Lv.outL 0 c X.L } N ∧ Keeps w1 w2 := by
 obtain ⟨Fs, h, hs⟩ := Q.sea
 exact (Lv.standQ h hc hN).mono (fun e w2 hh => ⟨hh.1, hs _ _ _ _ hh.2⟩)
theorem scancel_at (Q : GqE w w1 g P F X N) (hN : N.s ≤ 4400000000000) {t : Int} (ht : W64 t) : Calls Tryz.prog 55 #[PT P.s, .int .i64 t] w1 fun e w2 => ∃ a c, e = .returned (.slice a (Lv.canA X.L t).length c) ∧ w2.ownsRow w1.heap.size 134 3 (.slice a (Lv.canA X.L t).length c) (Lv.canA X.L t).length ((Lv.canA X.L t).flatMap Lv.sc) ∧ GqE w w2 g P F { X with L := Lv.canL X.L t, G := Lv.canG X.G t } { N with s := N.s + 1 } ∧ Keeps w1 w2 := by
 obtain ⟨Fs, h, hs⟩ := Q.sea
 refine (Lv.cancel_ h ht hN).mono ?_
 rintro e w2 ⟨a, c, e1, e2, e3⟩
 exact ⟨a, c, e1, e2, hs _ _ _ _ e3⟩
theorem send_at (Q : GqE w w1 g P F X N) (hN : N.s ≤ 4400000000000) {n : Int} (hn : W64 n) : Calls Tryz.prog 46 #[PT P.s, .int .i64 n] w1 fun e w2 => (∃ a m c, e = .returned (.slice a m c)) ∧ GqE w w2 g P F { X with L := Lv.outL 1 n X.L } N ∧ Keeps w1 w2 := by
 obtain ⟨Fs, h, hs⟩ := Q.sea
 refine (Lv.end_ h hn (by omega)).mono ?_
 rintro e w2 ⟨a, c, e1, e2, e3⟩
 exact ⟨⟨a, _, c, e1⟩, hs _ _ _ _ e3⟩
theorem drop_at (Q : GqE w w1 g P F X N) (k : K) (hk : Ok k) : Calls Tryz.prog 58 #[PT P.m, kv k] w1 fun e w2 => e = .returned (.bool (Me.hs (Me.keysL X.en) k)) ∧ GqE w w2 g P F { X with en := Me.drx X.en k } N ∧ Keeps w1 w2 := by
 obtain ⟨Fm, h, hs⟩ := Q.memo
 refine (Me.dropM w1 P.m Fm X.c X.mn X.en h k hk).mono ?_
 rintro e w2 ⟨e1, e2⟩
 have := hs _ _ _ e2
 exact ⟨e1, this.1, this.2.1⟩
theorem bsend_at (Q : GqE w w1 g P F X N) (hN : N.b ≤ 6000000000000) (n : Int) : Calls Tryz.prog 59 #[PT P.b, .int .i64 n] w1 fun e w2 => ∃ v, e = .returned (.tuple #[v, .int .i64 (Ba.wrongE X.B n)]) ∧ Snt w2 v (Ba.sendL X.B n) ∧ GqE w w2 g P F { X with B := Ba.sendS X.B n } { N with b := N.b + 1 } ∧ Keeps w1 w2 := by
 obtain ⟨Fb, ⟨sl, d, rfl, hm, hv⟩, hs⟩ := Q.bat
 refine (Ba.send_ hm hv hN).mono ?_
 rintro e w2 ⟨v, e1, e2, e3, e4⟩
 exact ⟨v, e1, ⟨e3, e4⟩, hs _ _ _ e2⟩
end
def sndX (X : Gp) (n : Int) : Gp := if tkE X n ≠ 0 then X else { X with now := n, B := Ba.sendS X.B n }
def sndL (X : Gp) (n : Int) : List Int := if tkE X n ≠ 0 then [] else Ba.sendL X.B n
def sndE (X : Gp) (n : Int) : Int := if tkE X n ≠ 0 then tkE X n else Ba.wrongE X.B n
section
variable {w : World} {g : Nat} {P : Pt} {F : List Nat} {X : Gp} {N : Cn}
set_option maxHeartbeats 4000000 in
theorem send_ (h : Gq w g P F X N) (n : Int) (hB : N.b ≤ 6000000000000) : Calls Tryz.prog 20 #[PT g, .int .i64 n] w fun e w' => ∃ v, e = .returned (.tuple #[v, .int .i64 (sndE X n)]) ∧ Snt w' v (sndL X n) ∧ GqE w w' g P F (sndX X n) (if tkE X n ≠ 0 then N else { N with b := N.b + 1 }) := by
 have HC := hid (check_ h n)
 have Q0 : GqE w w g P F X N := GqE.refl h
 have HW : Hid (GqE w (w.setCell ⟨g, 4, none⟩ (.int .i64 n)) g P F { X with now := n } N) := hid (Q0.setNow n).1
 have HB : Hid (∀ w1, GqE w w1 g P F { X with now := n } N → Calls Tryz.prog 59 #[PT P.b, .int .i64 n] w1 fun e w2 => ∃ a m c, e = .returned (.tuple #[.slice a m c, .int .i64 (Ba.wrongE X.B n)]) ∧ Snt w2 (.slice a m c) (Ba.sendL X.B n) ∧ GqE w w2 g P F { X with now := n, B := Ba.sendS X.B n } { N with b := N.b + 1 }) := hid (fun w1 Q => by
  refine (bsend_at Q hB n).mono ?_
  rintro e w2 ⟨v, e1, e2, e3, e4⟩
  obtain ⟨a, m, c, rfl⟩ := e2.2
  exact ⟨a, m, c, e1, e2, e3⟩)
 have HG : Hid (∀ w1, GqE w w1 g P F { X with now := n } N → GmC w1 g P n) := hid (fun w1 Q => Q.cs)
 have HQ := hid Q0
 have HN : Hid (∀ w2, Snt w2 (.slice none 0 0) []) := hid (fun w2 => Snt.nil w2)
 have f4 := h.cs.f4
 have c4 := h.cs.c4
 clear h Q0 hB
 unfold sndX sndL sndE
 generalize ({ X with now := n } : Gp) = X1 at *
 unfold PT at *
 by_cases hz : tkE X n ≠ 0
 ·rw [if_pos hz, if_pos hz, if_pos hz, if_pos hz]
  have hz' : (tkE X n != 0) = true := by simp [hz]
  clear HB HW HG hz
  generalize tkE X n = E at *
  go_enter Tryz.func20, Tryz.ntmps20
  go_wp2_with (go_at_call 43; refine HC.out.mono ?_; rintro e w2 ⟨rfl, rfl⟩)
  exact bodyPost_ret (v := .tuple #[.slice none 0 0, .int .i64 E]) (by simp [results, Tryz.results20, go_sem]) rfl ⟨_, rfl, HN.out _, HQ.out⟩
 ·rw [if_neg hz, if_neg hz, if_neg hz, if_neg hz]
  have hz0 : tkE X n = 0 := by simpa using hz
  rw [hz0] at HC
  clear hz hz0
  generalize Ba.wrongE X.B n = E at *
  go_enter Tryz.func20, Tryz.ntmps20
  go_upto_region 5 with (go_at_call 43; refine HC.out.mono ?_; rintro e w2 ⟨rfl, rfl⟩)
  have q1 := HW.out
  obtain ⟨W1, hW1⟩ : ∃ W1, W1 = w2.setCell ⟨g, 4, none⟩ (.int .i64 n) := ⟨_, rfl⟩
  rw [← hW1] at q1 ⊢
  have c2 := (HG.out _ q1).c2
  have Q1 := hid q1
  clear hW1 q1 c4 f4
  go_wp2_with (go_at_call 59; refine (HB.out _ Q1.out).mono ?_; rintro e w3 ⟨a, m, c, rfl, n3, q3⟩; have N3 := hid n3; have Q3 := hid q3; clear n3 q3)
  exact bodyPost_ret (v := .tuple #[.slice a m c, .int .i64 E]) (by simp [results, Tryz.results20, go_sem]) rfl ⟨_, rfl, N3.out, Q3.out⟩
end
end Go.Proofs.YtkfophlhpjbmgaaGreat
/- The contracts of left and of Leave; no conditions but those that each states. -/
namespace Go.Proofs.YtkfophlhpjbmgaaGreat
open Go.RowKit Go.Maps Go.ChangeMaps
structure Bsl (w w' : World) (x : Lv.Se) : Prop where
 s : w'.heap[w.heap.size]? = some (.cells #[.int .i64 x.1, .int .i64 x.2.1, .int .i64 x.2.2] 134 (0, 0))
 l : w'.heap[w.heap.size + 1]? = some (.cells lfz 67 (0, 0))
theorem Bsl.keep {w w1 w2 : World} {x : Lv.Se} (h : Bsl w w1 x) (hk : Keeps w1 w2) : Bsl w w2 x := ⟨hk _ _ _ _ (by decide) h.s, hk _ _ _ _ (by decide) h.l⟩
structure Ks (w' : World) (g : Nat) (P : Pt) (now : Int) (b : Nat) (x : Lv.Se) : Prop where
 gm : GmC w' g P now
 s0 : w'.cell? ⟨b, 0, none⟩ = some (.int .i64 x.1)
 s1 : w'.cell? ⟨b, 1, none⟩ = some (.int .i64 x.2.1)
theorem st2 {w : World} {b : Nat} {t : TypeId} {z0 z1 : Value} (h : w.heap[b]? = some (.cells #[z0, z1] t (0, 0))) (v0 v1 : Value) :
  ((w.setCell ⟨b, 0, none⟩ v0).setCell ⟨b, 1, none⟩ v1).heap[b]? = some (.cells #[v0, v1] t (0, 0)) ∧ Touch [b] w ((w.setCell ⟨b, 0, none⟩ v0).setCell ⟨b, 1, none⟩ v1) := by
 refine ⟨by simp [World.setCell, Array.getElem?_modify, h], ?_⟩
 have hm : b ∈ [b] := by simp
 exact ((Touch.refl _ _).setCell (Or.inl hm) _).setCell (Or.inl hm) _
section
variable {w : World} {g : Nat} {P : Pt} {F : List Nat} {X : Gp} {N : Cn}
set_option maxHeartbeats 8000000 in
theorem left_ (h : Gq w g P F X N) (x : Lv.Se) (hx : Lv.Wf x) (hN : N.t ≤ 3000000000000) : Calls Tryz.prog 54 #[PT g, Lv.sv x] w fun e w' => e = .returned (.agg (lefV X.T x)) ∧ GqE w w' g P F (lefX X x) { N with t := N.t + 1 } := by
 obtain ⟨V, hV⟩ : ∃ V, V = (w.alloc (.cells #[.int .i64 x.1, .int .i64 x.2.1, .int .i64 x.2.2] 134)).alloc (.cells lfz 67) := ⟨_, rfl⟩
 have tv : Touch [] w V := by rw [hV]; exact ((Touch.refl _ _).alloc _).alloc _
 have hb : Bsl w V x := by
  constructor
  ·rw [hV]; exact ((Touch.refl [] _).alloc _).keep (heap_alloc_new w _) (by simp)
  ·rw [hV]
   have := heap_alloc_new (w.alloc (.cells #[.int .i64 x.1, .int .i64 x.2.1, .int .i64 x.2.2] 134)) (.cells lfz 67)
   rwa [World.size_alloc] at this
 have Q0 : GqE w V.drew g P F X N := GqE.same h tv.drew
 have B0 : Bsl w V.drew x := hb.keep ((Touch.refl [] V).drew).keeps
 have HL : Hid (∀ w1, GqE w w1 g P F X N → Bsl w w1 x → Calls Tryz.prog 104 #[PT P.t, .int .i64 x.2.1, .int .i64 x.1] w1 fun e w2 => (∃ E : Int, e = .returned (.tuple #[.agg #[.bool (Ta.tLeaveC X.T x.2.1 x.1), .bool (Ta.tLeaveA X.T x.2.1 x.1)], .int .i64 E])) ∧ GqE w w2 g P F (lefX X x) { N with t := N.t + 1 } ∧ Bsl w w2 x ∧ Keeps w1 w2) := hid (fun w1 Q B => (tleave_at Q hN hx.2.1 hx.1).mono (fun e w2 hh => ⟨⟨_, hh.1⟩, hh.2.1, B.keep hh.2.2, hh.2.2⟩))
 have HK : Hid (∀ w2 Y M, GqE w w2 g P F Y M → Y.now = X.now → Bsl w w2 x → Ks w2 g P X.now w.heap.size x ∧ w2.heap[w.heap.size + 1]? = some (.cells lfz 67 (0, 0))) := hid (fun w2 Y M Q e B => ⟨⟨by have := Q.cs; rwa [e] at this, cell_at B.s rfl, cell_at B.s rfl⟩, B.l⟩)
 have HP : Hid (∀ b cs w2 w3 Y M, w.heap.size + 2 ≤ b → w2.heap[b]? = some (.cells cs 141 (0, 0)) → GqE w w2 g P F Y M → Bsl w w2 x → Touch [b] w2 w3 → GqE w w3 g P F Y M ∧ Bsl w w3 x) := hid (fun b cs w2 w3 Y M hz hb Q B T => ⟨Q.put hb (by decide) (by omega) T, ⟨T.keep B.s (by simp; omega), T.keep B.l (by simp; omega)⟩⟩)
 have HF : Hid (∀ w2 w3 Y M, GqE w w2 g P F Y M → Bsl w w2 x → Touch [w.heap.size + 1] w2 w3 → GqE w w3 g P F Y M) := hid (fun w2 w3 Y M Q B T => Q.put B.l (by decide) (by omega) T)
 have HQA : Hid (∀ w1 o, GqE w w1 g P F X N → GqE w (w1.alloc o) g P F X N) := hid (fun w1 o Q => Q.then0 ((Touch.refl _ _).alloc o))
 have HBA : Hid (∀ w1 o, Bsl w w1 x → Bsl w (w1.alloc o) x) := hid (fun w1 o B => B.keep ((Touch.refl [] _).alloc o).keeps)
 have HVS : Hid (w.heap.size + 2 ≤ V.heap.size) := hid (by have := block_lt hb.l; omega)
 have HQ0 := hid Q0
 have HB0 := hid B0
 have s0 : Ks V.drew g P X.now w.heap.size x := (HK.out _ _ _ Q0 rfl B0).1
 have C1 : ∀ w', Ks w' g P X.now w.heap.size x → w'.cell? ⟨g, 1, none⟩ = some (.pointer (some ⟨P.t, 0, none⟩)) := fun _ h => h.gm.c1
 have K0 : ∀ w', Ks w' g P X.now w.heap.size x → w'.cell? ⟨w.heap.size, 0, none⟩ = some (.int .i64 x.1) := fun _ h => h.s0
 have K1 : ∀ w', Ks w' g P X.now w.heap.size x → w'.cell? ⟨w.heap.size, 1, none⟩ = some (.int .i64 x.2.1) := fun _ h => h.s1
 clear h Q0 B0 tv hb hx hN
 unfold lefV
 have hY : (lefX X x).now = X.now := rfl
 generalize lefX X x = Y at *
 generalize Ta.tLeaveC X.T x.2.1 x.1 = C at *
 generalize Ta.tLeaveA X.T x.2.1 x.1 = D at *
 have HY := hid hY
 clear hY
 unfold lfz at hV HK
 unfold Lv.sv PT at *
 go_enter Tryz.func54, Tryz.ntmps54
 go_upto_region 1 with fail
 rw [← hV]
 clear hV
 refine wp_region_H (S := fun w' => Ks w' g P X.now w.heap.size x) (by kernel_rfl) ?_
 refine wpH_take (i := 0) (v := (.pointer (some ⟨g, 0, none⟩))) (some 8) rfl rfl (by kernel_rfl) (by kernel_rfl) (by kernel_rfl) (fun _ _ _ h => h) (Or.inl ⟨by rfl, fun w' hS => (by go_simp)⟩) s0 ?_
 try simp only [Go.Act.put, Zx, Zy, Zz]
 refine wpH_take (i := 1) (v := (.pointer (some ⟨g, 0, none⟩))) (some 9) rfl rfl (by kernel_rfl) (by kernel_rfl) (by kernel_rfl) (fun _ _ _ h => h) (Or.inl ⟨by rfl, fun w' hS => (by go_simp)⟩) s0 ?_
 try simp only [Go.Act.put, Zx, Zy, Zz]
 refine wpH_take (i := 2) (v := (.pointer (some ⟨g, 0, none⟩))) (some 10) rfl rfl (by kernel_rfl) (by kernel_rfl) (by kernel_rfl) (fun _ _ _ h => h) (Or.inl ⟨by rfl, fun w' hS => (by go_simp)⟩) s0 ?_
 try simp only [Go.Act.put, Zx, Zy, Zz]
 refine wpH_take (i := 3) (v := (.pointer (some ⟨g, 1, none⟩))) (some 11) rfl rfl (by kernel_rfl) (by kernel_rfl) (by kernel_rfl) (fun _ _ _ h => h) (Or.inl ⟨by rfl, fun w' hS => (by go_simp)⟩) s0 ?_
 try simp only [Go.Act.put, Zx, Zy, Zz]
 refine wpH_take (i := 4) (v := (.pointer (some ⟨P.t, 0, none⟩))) (some 12) rfl rfl (by kernel_rfl) (by kernel_rfl) (by kernel_rfl) (fun _ _ _ h => h) (Or.inl ⟨by rfl, fun w' hS => (by have z0 := C1 _ hS; go_simp)⟩) s0 ?_
 try simp only [Go.Act.put, Zx, Zy, Zz]
 refine wpH_take (i := 5) (v := (.pointer (some ⟨w.heap.size, 1, none⟩))) (some 13) rfl rfl (by kernel_rfl) (by kernel_rfl) (by kernel_rfl) (fun _ _ _ h => h) (Or.inl ⟨by rfl, fun w' hS => (by go_simp)⟩) s0 ?_
 try simp only [Go.Act.put, Zx, Zy, Zz]
 refine wpH_take (i := 6) (v := (.int .i64 x.2.1)) (some 14) rfl rfl (by kernel_rfl) (by kernel_rfl) (by kernel_rfl) (fun _ _ _ h => h) (Or.inl ⟨by rfl, fun w' hS => (by have z0 := K1 _ hS; go_simp)⟩) s0 ?_
 try simp only [Go.Act.put, Zx, Zy, Zz]
 refine wpH_take (i := 7) (v := (.pointer (some ⟨w.heap.size, 0, none⟩))) (some 15) rfl rfl (by kernel_rfl) (by kernel_rfl) (by kernel_rfl) (fun _ _ _ h => h) (Or.inl ⟨by rfl, fun w' hS => (by go_simp)⟩) s0 ?_
 try simp only [Go.Act.put, Zx, Zy, Zz]
 refine wpH_take (i := 8) (v := (.int .i64 x.1)) (some 16) rfl rfl (by kernel_rfl) (by kernel_rfl) (by kernel_rfl) (fun _ _ _ h => h) (Or.inl ⟨by rfl, fun w' hS => (by have z0 := K0 _ hS; go_simp)⟩) s0 ?_
 try simp only [Go.Act.put, Zx, Zy, Zz]
 refine wpH_ready (rs := [9, 13]) (by kernel_rfl) (by simp) ?_
 refine AllH.cons (o := { dst := some 17, op := Op.call { callee := Callee.value (Operand.func 104), args := #[Operand.tmp 12, Operand.tmp 14, Operand.tmp 16], argTypes := #[113, 3, 3] }, type := 142, pos := _, after := #[{ on := 4, ground := Ground.data }, { on := 6, ground := Ground.data }, { on := 8, ground := Ground.data }], guard := none }) rfl (fun K' hK => ?_) ?_
 ·rw [if_pos (by rfl)]
  go_simp
  refine (HL.out _ HQ0.out HB0.out).mono ?_
  rintro e w2 ⟨⟨E, rfl⟩, q2, b2, k2⟩
  obtain ⟨s2, -⟩ := HK.out _ _ _ q2 HY.out b2
  have Q2 := hid q2
  have B2 := hid b2
  clear q2 b2 k2
  refine hK.out _ _ s2 ?_
  clear hK
  try simp only [Go.Act.put, Zx, Zy, Zz]
  refine wpH_take (i := 10) (v := (.tuple #[(.agg #[.bool C, .bool D]), (.int .i64 E)])) (some 7) rfl rfl (by kernel_rfl) (by kernel_rfl) (by kernel_rfl) (fun _ _ _ h => h) (Or.inl ⟨by rfl, fun w' hS => (by go_simp)⟩) s2 ?_
  try simp only [Go.Act.put, Zx, Zy, Zz]
  refine wpH_take (i := 11) (v := (.agg #[.bool C, .bool D])) (some 18) rfl rfl (by kernel_rfl) (by kernel_rfl) (by kernel_rfl) (fun _ _ _ h => h) (Or.inl ⟨by rfl, fun w' hS => (by go_simp)⟩) s2 ?_
  try simp only [Go.Act.put, Zx, Zy, Zz]
  refine wpH_take (i := 12) (v := (.int .i64 E)) (some 19) rfl rfl (by kernel_rfl) (by kernel_rfl) (by kernel_rfl) (fun _ _ _ h => h) (Or.inl ⟨by rfl, fun w' hS => (by go_simp)⟩) s2 ?_
  try simp only [Go.Act.put, Zx, Zy, Zz]
  refine wpH_call (i := 13) (o := { dst := some 5, op := Op.alloc 141, type := 0, pos := _, after := #[], guard := none }) (by kernel_rfl) rfl (fun K' hK => ?_)
  rw [if_pos (by rfl)]
  go_simp
  refine hK.out _ _ (HK.out _ _ _ (Q2.out.then0 ((Touch.refl _ _).alloc _)) HY.out (B2.out.keep ((Touch.refl [] _).alloc _).keeps)).1 ?_
  clear hK
  try simp only [Go.Act.put, Zx, Zy, Zz]
  have hb6 := heap_alloc_new w2 (.cells #[.bool false, .bool false] 141)
  refine wpH_call (i := 14) (o := { dst := none, op := Op.store 141 (Operand.tmp 5) (Operand.tmp 18), type := 0, pos := _, after := #[{ on := 13, ground := Ground.data }, { on := 11, ground := Ground.data }, { on := 9, ground := Ground.chain }, { on := 0, ground := Ground.phase }, { on := 1, ground := Ground.phase }, { on := 2, ground := Ground.phase }, { on := 3, ground := Ground.phase }, { on := 4, ground := Ground.phase }, { on := 5, ground := Ground.phase }, { on := 6, ground := Ground.phase }, { on := 7, ground := Ground.phase }, { on := 8, ground := Ground.phase }, { on := 9, ground := Ground.phase }, { on := 10, ground := Ground.phase }, { on := 11, ground := Ground.phase }, { on := 12, ground := Ground.textOnly Departure.lateStores }, { on := 13, ground := Ground.phase }], guard := none }) (by kernel_rfl) rfl (fun K' hK => ?_)
  rw [if_pos (by rfl)]
  have x0 := cell_at (j := 0) hb6 rfl
  have x1 := cell_at (j := 1) hb6 rfl
  have xf := froz_at hb6
  go_simp
  obtain ⟨W3, hW3⟩ : ∃ W3, W3 = w2.alloc (.cells #[.bool C, .bool D] 141) := ⟨_, rfl⟩
  have t6 : Touch [] w2 W3 := by rw [hW3]; exact (Touch.refl _ _).alloc _
  have h6 := heap_alloc_new w2 (.cells #[.bool C, .bool D] 141)
  rw [← hW3] at h6 ⊢
  have q3 := Q2.out.then0 t6
  have b3 := B2.out.keep t6.keeps
  obtain ⟨s3, hbj⟩ := HK.out _ _ _ q3 HY.out b3
  have Q3 := hid q3
  have B3 := hid b3
  clear hW3 t6 q3 b3 hb6 x0 x1 xf
  refine hK.out _ _ s3 ?_
  clear hK
  try simp only [Go.Act.put, Zx, Zy, Zz]
  refine wpH_take (i := 15) (v := (.int .i64 E)) (some 6) rfl rfl (by kernel_rfl) (by kernel_rfl) (by kernel_rfl) (fun _ _ _ h => h) (Or.inl ⟨by rfl, fun w' hS => (by go_simp)⟩) s3 ?_
  try simp only [Go.Act.put, Zx, Zy, Zz]
  refine wpAnyH_done (by kernel_rfl) ?_ _
  generalize w2.heap.size = b6 at *
  have k0 := s3.s0
  have k1 := s3.s1
  have x0 := cell_at (j := 0) h6 rfl
  have x1 := cell_at (j := 1) h6 rfl
  clear h6 s3 s2 C1 K0 K1 s0
  have d0 := cell_at (j := 0) hbj rfl
  have d1 := cell_at (j := 1) hbj rfl
  have d2 := cell_at (j := 2) hbj rfl
  have d3 := cell_at (j := 3) hbj rfl
  have d4 := cell_at (j := 4) hbj rfl
  have d5 := cell_at (j := 5) hbj rfl
  have d6 := cell_at (j := 6) hbj rfl
  have d7 := cell_at (j := 7) hbj rfl
  have df := froz_at hbj
  clear hbj
  go_wp2
  exact bodyPost_ret (v := .agg #[.int .i64 x.1, .int .i64 x.2.1, .bool C, .bool D, .int .i64 0, .int .i64 3, .int .i64 0, .int .i64 0]) (by simp [results, Tryz.results54, go_sem, d0, d1, d2, d3, d4, d5, d6, d7]) rfl ⟨rfl, HF.out _ _ _ _ Q3.out B3.out (((((((((Touch.refl _ _).setCell (Or.inl (by simp)) _).setCell (Or.inl (by simp)) _).setCell (Or.inl (by simp)) _).setCell (Or.inl (by simp)) _).setCell (Or.inl (by simp)) _).setCell (Or.inl (by simp)) _).setCell (Or.inl (by simp)) _).setCell (Or.inl (by simp)) _)⟩
 refine AllH.cons (o := { dst := some 5, op := Op.alloc 141, type := 0, pos := _, after := #[], guard := none }) rfl (fun K' hK => ?_) ?_
 ·rw [if_pos (by rfl)]
  go_simp
  refine hK.out _ _ (HK.out _ _ _ (HQA.out _ _ HQ0.out) rfl (HBA.out _ _ HB0.out)).1 ?_
  clear hK
  try simp only [Go.Act.put, Zx, Zy, Zz]
  refine wpH_call (i := 9) (o := { dst := some 17, op := Op.call { callee := Callee.value (Operand.func 104), args := #[Operand.tmp 12, Operand.tmp 14, Operand.tmp 16], argTypes := #[113, 3, 3] }, type := 142, pos := _, after := #[{ on := 4, ground := Ground.data }, { on := 6, ground := Ground.data }, { on := 8, ground := Ground.data }], guard := none }) (by kernel_rfl) rfl (fun K' hK => ?_)
  rw [if_pos (by rfl)]
  go_simp
  refine (HL.out _ (HQA.out _ _ HQ0.out) (HBA.out _ _ HB0.out)).mono ?_
  rintro e w2 ⟨⟨E, rfl⟩, q2, b2, k2⟩
  have hb6 : w2.heap[V.heap.size]? = some (.cells #[.bool false, .bool false] 141 (0, 0)) := k2 _ _ _ _ (by decide) (heap_alloc_new V.drew _)
  obtain ⟨s2, -⟩ := HK.out _ _ _ q2 HY.out b2
  have Q2 := hid q2
  have B2 := hid b2
  clear q2 b2 k2
  refine hK.out _ _ s2 ?_
  clear hK
  try simp only [Go.Act.put, Zx, Zy, Zz]
  refine wpH_take (i := 10) (v := (.tuple #[(.agg #[.bool C, .bool D]), (.int .i64 E)])) (some 7) rfl rfl (by kernel_rfl) (by kernel_rfl) (by kernel_rfl) (fun _ _ _ h => h) (Or.inl ⟨by rfl, fun w' hS => (by go_simp)⟩) s2 ?_
  try simp only [Go.Act.put, Zx, Zy, Zz]
  refine wpH_take (i := 11) (v := (.agg #[.bool C, .bool D])) (some 18) rfl rfl (by kernel_rfl) (by kernel_rfl) (by kernel_rfl) (fun _ _ _ h => h) (Or.inl ⟨by rfl, fun w' hS => (by go_simp)⟩) s2 ?_
  try simp only [Go.Act.put, Zx, Zy, Zz]
  refine wpH_take (i := 12) (v := (.int .i64 E)) (some 19) rfl rfl (by kernel_rfl) (by kernel_rfl) (by kernel_rfl) (fun _ _ _ h => h) (Or.inl ⟨by rfl, fun w' hS => (by go_simp)⟩) s2 ?_
  try simp only [Go.Act.put, Zx, Zy, Zz]
  refine wpH_call (i := 14) (o := { dst := none, op := Op.store 141 (Operand.tmp 5) (Operand.tmp 18), type := 0, pos := _, after := #[{ on := 13, ground := Ground.data }, { on := 11, ground := Ground.data }, { on := 9, ground := Ground.chain }, { on := 0, ground := Ground.phase }, { on := 1, ground := Ground.phase }, { on := 2, ground := Ground.phase }, { on := 3, ground := Ground.phase }, { on := 4, ground := Ground.phase }, { on := 5, ground := Ground.phase }, { on := 6, ground := Ground.phase }, { on := 7, ground := Ground.phase }, { on := 8, ground := Ground.phase }, { on := 9, ground := Ground.phase }, { on := 10, ground := Ground.phase }, { on := 11, ground := Ground.phase }, { on := 12, ground := Ground.textOnly Departure.lateStores }, { on := 13, ground := Ground.phase }], guard := none }) (by kernel_rfl) rfl (fun K' hK => ?_)
  rw [if_pos (by rfl)]
  have x0 := cell_at (j := 0) hb6 rfl
  have x1 := cell_at (j := 1) hb6 rfl
  have xf := froz_at hb6
  go_simp
  obtain ⟨W3, hW3⟩ : ∃ W3, W3 = (w2.setCell ⟨V.heap.size, 0, none⟩ (.bool C)).setCell ⟨V.heap.size, 1, none⟩ (.bool D) := ⟨_, rfl⟩
  obtain ⟨h6, t6⟩ := st2 hb6 (.bool C) (.bool D)
  rw [← hW3] at h6 t6 ⊢
  obtain ⟨q3, b3⟩ := HP.out _ _ _ _ _ _ HVS.out hb6 Q2.out B2.out t6
  obtain ⟨s3, hbj⟩ := HK.out _ _ _ q3 HY.out b3
  have Q3 := hid q3
  have B3 := hid b3
  clear hW3 t6 q3 b3 hb6 x0 x1 xf
  refine hK.out _ _ s3 ?_
  clear hK
  try simp only [Go.Act.put, Zx, Zy, Zz]
  refine wpH_take (i := 15) (v := (.int .i64 E)) (some 6) rfl rfl (by kernel_rfl) (by kernel_rfl) (by kernel_rfl) (fun _ _ _ h => h) (Or.inl ⟨by rfl, fun w' hS => (by go_simp)⟩) s3 ?_
  try simp only [Go.Act.put, Zx, Zy, Zz]
  refine wpAnyH_done (by kernel_rfl) ?_ _
  generalize V.heap.size = b6 at *
  have k0 := s3.s0
  have k1 := s3.s1
  have x0 := cell_at (j := 0) h6 rfl
  have x1 := cell_at (j := 1) h6 rfl
  clear h6 s3 s2 C1 K0 K1 s0
  have d0 := cell_at (j := 0) hbj rfl
  have d1 := cell_at (j := 1) hbj rfl
  have d2 := cell_at (j := 2) hbj rfl
  have d3 := cell_at (j := 3) hbj rfl
  have d4 := cell_at (j := 4) hbj rfl
  have d5 := cell_at (j := 5) hbj rfl
  have d6 := cell_at (j := 6) hbj rfl
  have d7 := cell_at (j := 7) hbj rfl
  have df := froz_at hbj
  clear hbj
  go_wp2
  exact bodyPost_ret (v := .agg #[.int .i64 x.1, .int .i64 x.2.1, .bool C, .bool D, .int .i64 0, .int .i64 3, .int .i64 0, .int .i64 0]) (by simp [results, Tryz.results54, go_sem, d0, d1, d2, d3, d4, d5, d6, d7]) rfl ⟨rfl, HF.out _ _ _ _ Q3.out B3.out (((((((((Touch.refl _ _).setCell (Or.inl (by simp)) _).setCell (Or.inl (by simp)) _).setCell (Or.inl (by simp)) _).setCell (Or.inl (by simp)) _).setCell (Or.inl (by simp)) _).setCell (Or.inl (by simp)) _).setCell (Or.inl (by simp)) _).setCell (Or.inl (by simp)) _)⟩
 exact AllH.nil
def lvE (X : Gp) (n c : Int) : Int := if tkE X n ≠ 0 then tkE X n else if (Lv.whr X.L c).isSome then 0 else 2
def lvX (X : Gp) (n c : Int) : Gp := if lvE X n c ≠ 0 then X else lefX { X with L := Lv.outL 0 c X.L, now := n } ((Lv.whr X.L c).getD (0, 0, 0))
def lvV (X : Gp) (n c : Int) : Array Value := if lvE X n c ≠ 0 then lfz else lefV X.T ((Lv.whr X.L c).getD (0, 0, 0))
theorem outL_no {L : List Lv.Se} {c : Int} (h : Lv.whr L c = none) : Lv.outL 0 c L = L := by
 unfold Lv.outL
 refine List.filter_eq_self.2 (fun x hx => ?_)
 have := List.find?_eq_none.1 h x hx
 simpa [Lv.bn] using this
theorem whr_wf {L : List Lv.Se} {G : List Int} {M : Nat} (h : Lv.Iv L G M) {c : Int} {x : Lv.Se} (hx : Lv.whr L c = some x) : Lv.Wf x := (h.ok x (List.mem_of_find?_eq_some hx)).2
structure Bl (w w' : World) : Prop where
 l : w'.heap[w.heap.size]? = some (.cells lfz 67 (0, 0))
set_option maxHeartbeats 8000000 in
theorem leave_ (h : Gq w g P F X N) (n : Int) {c : Int} (hc : W64 c) (hN : N.t ≤ 3000000000000) (hS : N.s ≤ 4400000000000) : Calls Tryz.prog 17 #[PT g, .int .i64 n, .int .i64 c] w fun e w' => e = .returned (.tuple #[.agg (lvV X n c), .int .i64 (lvE X n c)]) ∧ GqE w w' g P F (lvX X n c) (if lvE X n c ≠ 0 then N else { N with t := N.t + 1 }) := by
 obtain ⟨V, hV⟩ : ∃ V, V = w.alloc (.cells lfz 67) := ⟨_, rfl⟩
 have tv : Touch [] w V := by rw [hV]; exact (Touch.refl _ _).alloc _
 have hb : Bl w V := ⟨by rw [hV]; exact heap_alloc_new w _⟩
 have Q0 : GqE w V g P F X N := GqE.same h tv
 have HC := hid (check_at Q0 n)
 have hiv := h.iv.2.2.2.1
 obtain ⟨y, hy⟩ : ∃ y, y = (Lv.whr X.L c).getD (0, 0, 0) := ⟨_, rfl⟩
 have HS : Hid (Calls Tryz.prog 53 #[PT P.s, .int .i64 c] V fun e w2 => e = .returned (.tuple #[Lv.sv y, .bool (Lv.whr X.L c).isSome]) ∧ GqE w w2 g P F { X with L := Lv.outL 0 c X.L } N ∧ Bl w w2) := hid (by
  rw [hy]
  exact (stand_at Q0 hS hc).mono (fun e w2 hh => ⟨hh.1, hh.2.1, ⟨hh.2.2 _ _ _ _ (by decide) hb.l⟩⟩))
 have HA : Hid (∀ w1 o, GqE w w1 g P F { X with L := Lv.outL 0 c X.L } N → Bl w w1 → GqE w (w1.alloc o) g P F { X with L := Lv.outL 0 c X.L } N ∧ Bl w (w1.alloc o)) := hid (fun w1 o Q B => ⟨Q.then0 ((Touch.refl _ _).alloc o), ⟨((Touch.refl [] _).alloc o).keeps _ _ _ _ (by decide) B.l⟩⟩)
 have HW : Hid (∀ w1, GqE w w1 g P F { X with L := Lv.outL 0 c X.L } N → Bl w w1 → GqE w (w1.setCell ⟨g, 4, none⟩ (.int .i64 n)) g P F { X with L := Lv.outL 0 c X.L, now := n } N ∧ Bl w (w1.setCell ⟨g, 4, none⟩ (.int .i64 n)) ∧ Keeps w1 (w1.setCell ⟨g, 4, none⟩ (.int .i64 n))) := hid (fun w1 Q B => ⟨(Q.setNow n).1, ⟨(Q.setNow n).2 _ _ _ _ (by decide) B.l⟩, (Q.setNow n).2⟩)
 have HL : Hid ((Lv.whr X.L c).isSome = true → ∀ w1, GqE w w1 g P F { X with L := Lv.outL 0 c X.L, now := n } N → Bl w w1 → Calls Tryz.prog 54 #[PT g, Lv.sv y] w1 fun e w2 => e = .returned (.agg (lefV X.T y)) ∧ GqE w w2 g P F (lefX { X with L := Lv.outL 0 c X.L, now := n } y) { N with t := N.t + 1 } ∧ Bl w w2) := hid (fun hs w1 Q B => by
  obtain ⟨F1, q1, q2⟩ := Q.go
  obtain ⟨z, hz⟩ := Option.isSome_iff_exists.1 hs
  have hyz : y = z := by rw [hy, hz]; rfl
  refine (left_ q1 y (by rw [hyz]; exact whr_wf hiv hz) hN).mono ?_
  rintro e w2 ⟨e1, e2⟩
  exact ⟨e1, (q2 _ _ _ e2).1, ⟨(q2 _ _ _ e2).2 _ _ _ _ (by decide) B.l⟩⟩)
 have HF : Hid (∀ w2 w3 Y M, GqE w w2 g P F Y M → Bl w w2 → Touch [w.heap.size] w2 w3 → GqE w w3 g P F Y M) := hid (fun w2 w3 Y M Q B T => Q.put B.l (by decide) (Nat.le_refl _) T)
 have HB : Hid (∀ w2, Bl w w2 → w2.heap[w.heap.size]? = some (.cells lfz 67 (0, 0))) := hid (fun w2 B => B.l)
 have HG : Hid (∀ w1 Y M, GqE w w1 g P F Y M → GmC w1 g P Y.now) := hid (fun w1 Y M Q => Q.cs)
 have HE : Hid (Lv.whr X.L c = none → ({ X with L := Lv.outL 0 c X.L } : Gp) = X) := hid (fun e => by rw [outL_no e])
 have HQ := hid Q0
 have HBV := hid hb
 clear h Q0 tv hb hc hN hS hiv
 unfold lvX lvV lvE
 rw [← hy]
 clear hy
 unfold lfz at hV HB
 have hlv : lefV X.T y = lefV ({ X with L := Lv.outL 0 c X.L, now := n } : Gp).T y := rfl
 unfold lefV at *
 generalize Ta.tLeaveC X.T y.2.1 y.1 = C at *
 generalize Ta.tLeaveA X.T y.2.1 y.1 = D at *
 clear hlv
 generalize hY3 : lefX ({ X with L := Lv.outL 0 c X.L, now := n } : Gp) y = Y3 at *
 clear hY3
 generalize hY2 : ({ X with L := Lv.outL 0 c X.L, now := n } : Gp) = Y2 at *
 clear hY2
 unfold lfz
 unfold Lv.sv PT at *
 by_cases hz : tkE X n ≠ 0
 ·rw [if_pos hz, if_pos hz, if_pos hz, if_pos hz]
  have hz' : (tkE X n != 0) = true := by simp [hz]
  clear HS HA HW HL HE hz
  generalize tkE X n = E at *
  have hbj := HB.out _ HBV.out
  have d0 := cell_at (j := 0) hbj rfl
  have d1 := cell_at (j := 1) hbj rfl
  have d2 := cell_at (j := 2) hbj rfl
  have d3 := cell_at (j := 3) hbj rfl
  have d4 := cell_at (j := 4) hbj rfl
  have d5 := cell_at (j := 5) hbj rfl
  have d6 := cell_at (j := 6) hbj rfl
  have d7 := cell_at (j := 7) hbj rfl
  have df := froz_at hbj
  clear hbj
  go_enter Tryz.func17, Tryz.ntmps17
  go_upto_region 1 with fail
  rw [← hV]
  clear hV
  go_wp2_with (go_at_call 43; refine HC.out.mono ?_; rintro e w1 ⟨rfl, rfl⟩)
  exact bodyPost_ret (v := .tuple #[.agg #[.int .i64 0, .int .i64 0, .bool false, .bool false, .int .i64 0, .int .i64 0, .int .i64 0, .int .i64 0], .int .i64 E]) (by simp [results, Tryz.results17, go_sem, d0, d1, d2, d3, d4, d5, d6, d7]) rfl ⟨rfl, HF.out _ _ _ _ HQ.out HBV.out (((((((((Touch.refl _ _).setCell (Or.inl (by simp)) _).setCell (Or.inl (by simp)) _).setCell (Or.inl (by simp)) _).setCell (Or.inl (by simp)) _).setCell (Or.inl (by simp)) _).setCell (Or.inl (by simp)) _).setCell (Or.inl (by simp)) _).setCell (Or.inl (by simp)) _)⟩
 ·rw [if_neg hz]
  have hz0 : tkE X n = 0 := by simpa using hz
  rw [hz0] at HC
  have c3 := (HG.out _ _ _ HQ.out).c3
  cases hw : (Lv.whr X.L c).isSome with
  | false =>
   rw [if_neg (by simp : ¬ (false = true))]
   rw [if_pos (by decide : (2 : Int) ≠ 0), if_pos (by decide : (2 : Int) ≠ 0), if_pos (by decide : (2 : Int) ≠ 0)]
   rw [hw] at HS
   have he := HE.out (by simpa using hw)
   rw [he] at HS HA
   clear HW HL HE hz hz0 hw he
   go_enter Tryz.func17, Tryz.ntmps17
   go_upto_region 1 with fail
   rw [← hV]
   clear hV
   go_upto_region 5 with (first
    | (go_at_call 43; refine HC.out.mono ?_; rintro e w1 ⟨rfl, rfl⟩)
    | (go_at_call 53; refine HS.out.mono ?_; rintro e w2 ⟨rfl, q2, b2⟩; have Q2 := hid q2; have B2 := hid b2; clear q2 b2 c3))
   obtain ⟨q3, b3⟩ := HA.out _ (.cells #[.int .i64 y.1, .int .i64 y.2.1, .int .i64 y.2.2] 134) Q2.out B2.out
   have hbj := HB.out _ b3
   have Q3 := hid q3
   have B3 := hid b3
   clear q3 b3
   have d0 := cell_at (j := 0) hbj rfl
   have d1 := cell_at (j := 1) hbj rfl
   have d2 := cell_at (j := 2) hbj rfl
   have d3 := cell_at (j := 3) hbj rfl
   have d4 := cell_at (j := 4) hbj rfl
   have d5 := cell_at (j := 5) hbj rfl
   have d6 := cell_at (j := 6) hbj rfl
   have d7 := cell_at (j := 7) hbj rfl
   have df := froz_at hbj
   clear hbj
   go_wp2
   exact bodyPost_ret (v := .tuple #[.agg #[.int .i64 0, .int .i64 0, .bool false, .bool false, .int .i64 0, .int .i64 0, .int .i64 0, .int .i64 0], .int .i64 2]) (by simp [results, Tryz.results17, go_sem, d0, d1, d2, d3, d4, d5, d6, d7]) rfl ⟨rfl, HF.out _ _ _ _ Q3.out B3.out (((((((((Touch.refl _ _).setCell (Or.inl (by simp)) _).setCell (Or.inl (by simp)) _).setCell (Or.inl (by simp)) _).setCell (Or.inl (by simp)) _).setCell (Or.inl (by simp)) _).setCell (Or.inl (by simp)) _).setCell (Or.inl (by simp)) _).setCell (Or.inl (by simp)) _)⟩
  | true =>
   rw [if_pos rfl]
   rw [if_neg (by simp : ¬ ((0 : Int) ≠ 0)), if_neg (by simp : ¬ ((0 : Int) ≠ 0)), if_neg (by simp : ¬ ((0 : Int) ≠ 0))]
   have HL2 := hid (HL.out hw)
   rw [hw] at HS
   clear HL HE hz hz0 hw
   go_enter Tryz.func17, Tryz.ntmps17
   go_upto_region 1 with fail
   rw [← hV]
   clear hV
   go_upto_region 5 with (first
    | (go_at_call 43; refine HC.out.mono ?_; rintro e w1 ⟨rfl, rfl⟩)
    | (go_at_call 53; refine HS.out.mono ?_; rintro e w2 ⟨rfl, q2, b2⟩; have Q2 := hid q2; have B2 := hid b2; clear q2 b2 c3))
   obtain ⟨W2, hW2⟩ : ∃ W2, W2 = w2.alloc (.cells #[.int .i64 y.1, .int .i64 y.2.1, .int .i64 y.2.2] 134) := ⟨_, rfl⟩
   have h3 := heap_alloc_new w2 (.cells #[.int .i64 y.1, .int .i64 y.2.1, .int .i64 y.2.2] 134)
   obtain ⟨q3, b3⟩ := HA.out _ (.cells #[.int .i64 y.1, .int .i64 y.2.1, .int .i64 y.2.2] 134) Q2.out B2.out
   rw [← hW2] at h3 q3 b3 ⊢
   have g4 := (HG.out _ _ _ q3).f4
   have c4 := (HG.out _ _ _ q3).c4
   obtain ⟨q4, b4, k4⟩ := HW.out _ q3 b3
   clear hW2
   go_upto_region 8 with fail
   obtain ⟨W3, hW3⟩ : ∃ W3, W3 = W2.setCell ⟨g, 4, none⟩ (.int .i64 n) := ⟨_, rfl⟩
   rw [← hW3] at q4 b4 k4 ⊢
   have h4 := k4 _ _ _ _ (by decide) h3
   have x0 := cell_at (j := 0) h4 rfl
   have x1 := cell_at (j := 1) h4 rfl
   have x2 := cell_at (j := 2) h4 rfl
   have Q4 := hid q4
   have B4 := hid b4
   clear hW3 q4 b4 k4 h4 h3 q3 b3 g4 c4
   go_wp2_with (go_at_call 54; refine (HL2.out _ Q4.out B4.out).mono ?_; rintro e w5 ⟨rfl, q5, b5⟩; have hbj := HB.out _ b5; have Q5 := hid q5; have B5 := hid b5; clear q5 b5; have d0 := cell_at (j := 0) hbj rfl; have d1 := cell_at (j := 1) hbj rfl; have d2 := cell_at (j := 2) hbj rfl; have d3 := cell_at (j := 3) hbj rfl; have d4 := cell_at (j := 4) hbj rfl; have d5 := cell_at (j := 5) hbj rfl; have d6 := cell_at (j := 6) hbj rfl; have d7 := cell_at (j := 7) hbj rfl; have df := froz_at hbj; clear hbj)
   exact bodyPost_ret (v := .tuple #[.agg #[.int .i64 y.1, .int .i64 y.2.1, .bool C, .bool D, .int .i64 0, .int .i64 3, .int .i64 0, .int .i64 0], .int .i64 0]) (by simp [results, Tryz.results17, go_sem, d0, d1, d2, d3, d4, d5, d6, d7]) rfl ⟨rfl, HF.out _ _ _ _ Q5.out B5.out (((((((((Touch.refl _ _).setCell (Or.inl (by simp)) _).setCell (Or.inl (by simp)) _).setCell (Or.inl (by simp)) _).setCell (Or.inl (by simp)) _).setCell (Or.inl (by simp)) _).setCell (Or.inl (by simp)) _).setCell (Or.inl (by simp)) _).setCell (Or.inl (by simp)) _)⟩
end
end Go.Proofs.YtkfophlhpjbmgaaGreat
/- The contract of Cancel; no conditions but those that it states. -/
namespace Go.Proofs.YtkfophlhpjbmgaaGreat
open Go.RowKit Go.Maps Go.ChangeMaps
def lefs (X : Gp) (xs : List Lv.Se) : Gp := xs.foldl lefX X
def lefT (T : Ta.Tb) (xs : List Lv.Se) : Ta.Tb := xs.foldl (fun T x => Ta.tLeave T x.2.1 x.1) T
def lefVs (T : Ta.Tb) : List Lv.Se → List (Array Value)
 | [] => []
 | x :: r => lefV T x :: lefVs (Ta.tLeave T x.2.1 x.1) r
theorem lefs_eq (X : Gp) (xs : List Lv.Se) : lefs X xs = { X with T := lefT X.T xs } := by
 induction xs generalizing X with
 | nil => rfl
 | cons x r ih =>
  have : lefs X (x :: r) = lefs (lefX X x) r := rfl
  rw [this, ih]
  rfl
theorem lefVs_snoc (T : Ta.Tb) (xs : List Lv.Se) (x : Lv.Se) : lefVs T (xs ++ [x]) = lefVs T xs ++ [lefV (lefT T xs) x] := by
 induction xs generalizing T with
 | nil => rfl
 | cons y r ih =>
  have : lefT T (y :: r) = lefT (Ta.tLeave T y.2.1 y.1) r := rfl
  simp only [List.cons_append, lefVs, ih, this]
theorem lefVs_len (T : Ta.Tb) (xs : List Lv.Se) : (lefVs T xs).length = xs.length := by
 induction xs generalizing T with
 | nil => rfl
 | cons y r ih => simp [lefVs, ih]
def flatL (vs : List (Array Value)) : List Value := vs.flatMap Array.toList
theorem flatL_len (T : Ta.Tb) (xs : List Lv.Se) : (flatL (lefVs T xs)).length = xs.length * 8 := by
 induction xs generalizing T with
 | nil => rfl
 | cons y r ih =>
  have := ih (Ta.tLeave T y.2.1 y.1)
  unfold flatL at *
  simp only [lefVs, List.flatMap_cons, List.length_append, this]
  have : (lefV T y).toList.length = 8 := rfl
  rw [this]
  simp only [List.length_cons]
  omega
theorem infoLeft : (Tryz.prog.info? 67).map (fun i => (i.zero, i.size, i.bytes)) = some (some (.agg #[.int .i64 0, .int .i64 0, .bool false, .bool false, .int .i64 0, .int .i64 0, .int .i64 0, .int .i64 0]), 8, 56) := by kernel_rfl
def cnE (X : Gp) (n t : Int) : Int := if tkE X n ≠ 0 then tkE X n else if t < 1 then 1 else 0
def cnX (X : Gp) (n t : Int) : Gp := if cnE X n t ≠ 0 then X else lefs { X with now := n, L := Lv.canL X.L t, G := Lv.canG X.G t } (Lv.canA X.L t)
def cnV (X : Gp) (n t : Int) : List (Array Value) := if cnE X n t ≠ 0 then [] else lefVs X.T (Lv.canA X.L t)
def cnC (X : Gp) (n t : Int) (N : Cn) : Cn := if cnE X n t ≠ 0 then N else ⟨N.t + (Lv.canA X.L t).length, N.b, N.s + 1⟩
def CnI (w1 wr : World) (g : Nat) (P : Pt) (F : List Nat) (Y : Gp) (M : Cn) (sv lv : Value) (m i : Nat) (ss ls : List Value) : Prop := ∃ F1, Gq wr g P F1 Y M ∧ Touch F w1 wr ∧ Nf w1 F F1 ∧ wr.ownsRow w1.heap.size 134 3 sv m ss ∧ wr.ownsRow w1.heap.size 67 8 lv i ls
theorem CnI.grow {w1 w3 w5 : World} {g : Nat} {P : Pt} {F : List Nat} {Y : Gp} {M : Cn} {sv lv lv' : Value} {m i j : Nat} {ss ls ls' : List Value} {ob : Obj} (h : CnI w1 w3 g P F Y M sv lv m i ss ls) (hg : (w3.alloc ob).grownBy w5 lv.ownBlock) (o5 : w5.ownsRow w1.heap.size 67 8 lv' j ls') : CnI w1 w5 g P F Y M sv lv' m j ss ls' := by
 obtain ⟨F1, q1, q2, q3, q4, q5⟩ := h
 have t4 : Touch [] w3 (w3.alloc ob) := (Touch.refl _ _).alloc ob
 have T : Touch lv.ownBlock.toList (w3.alloc ob) w5 := (Touch.refl _ _).grown hg (fun q hq => Or.inl (by simp [hq]))
 have hk : ∀ b, lv.ownBlock = some b → ∃ cs, (w3.alloc ob).heap[b]? = some (.cells cs 67 (0, 0)) := fun b hb => own_kind (own_touch q5 t4 (fun _ _ e => by cases e)) hb
 have q1' := q1.keep0 t4
 refine ⟨F1, q1'.keep T (fun k hk' e => ?_), (q2.trans t4 (fun _ e => by cases e)).trans T (fun k e => Or.inr ?_), q3, own_touch (own_touch q4 t4 (fun _ _ e => by cases e)) T (fun b hb e => ?_), o5⟩
 ·obtain ⟨cs, hc⟩ := hk k (by simpa using e)
  exact q1'.away hc (by decide) hk'
 ·exact (q5.lt k (by simpa using e)).1
 ·obtain ⟨cs, hc⟩ := hk b (by simpa using e)
  obtain ⟨cs', hc'⟩ := own_kind (own_touch q4 t4 (fun _ _ e => by cases e)) hb
  rw [hc] at hc'
  simp at hc'
section
variable {w : World} {g : Nat} {P : Pt} {F : List Nat} {X : Gp} {N : Cn}
set_option maxHeartbeats 16000000 in
theorem cancel_ (h : Gq w g P F X N) (n : Int) {t : Int} (ht : W64 t) (hN : N.t + X.L.length ≤ 3000000000000) (hS : N.s ≤ 2500000000000) : Calls Tryz.prog 18 #[PT g, .int .i64 n, .int .i64 t] w fun e w' => ∃ v, e = .returned (.tuple #[v, .int .i64 (cnE X n t)]) ∧ (∃ a m c, v = .slice a m c) ∧ Rs 67 8 w' v (cnV X n t).length (flatL (cnV X n t)) ∧ GqE w w' g P F (cnX X n t) (cnC X n t N) := by
 have HC := hid (check_ h n)
 have Q0 : GqE w w g P F X N := GqE.refl h
 have HQ := hid Q0
 have HW : Hid (GqE w (w.setCell ⟨g, 4, none⟩ (.int .i64 n)) g P F { X with now := n } N) := hid (Q0.setNow n).1
 obtain ⟨ys, hys⟩ : ∃ ys, ys = Lv.canA X.L t := ⟨_, rfl⟩
 have hyl : ys.length ≤ X.L.length := by
  rw [hys]
  unfold Lv.canA
  split
  ·simp
  ·exact List.length_filter_le _ _
 have hwf : ∀ y ∈ ys, Lv.Wf y := fun y hy => by
  rw [hys] at hy
  unfold Lv.canA at hy
  split at hy
  ·cases hy
  ·exact (h.iv.2.2.2.1.ok y (List.mem_filter.1 hy).1).2
 have HS : Hid (∀ w1, GqE w w1 g P F { X with now := n } N → Calls Tryz.prog 55 #[PT P.s, .int .i64 t] w1 fun e w2 => ∃ a c, e = .returned (.slice a ys.length c) ∧ w2.ownsRow w1.heap.size 134 3 (.slice a ys.length c) ys.length (ys.flatMap Lv.sc) ∧ GqE w w2 g P F { X with now := n, L := Lv.canL X.L t, G := Lv.canG X.G t } { N with s := N.s + 1 }) := hid (fun w1 Q => by
  rw [hys]
  refine (scancel_at Q (by omega) ht).mono ?_
  rintro e w2 ⟨a, c, e1, e2, e3, e4⟩
  exact ⟨a, c, e1, e2, e3⟩)
 have HG : Hid (∀ w1 Y M, GqE w w1 g P F Y M → GmC w1 g P Y.now) := hid (fun w1 Y M Q => Q.cs)
 have f4 := h.cs.f4
 have c4 := h.cs.c4
 have HN : Hid (N.t + ys.length ≤ 3000000000000 ∧ ys.length ≤ 2500000000000) := hid (by have := h.iv.2.2.2.1.ll; omega)
 unfold cnX cnV cnC
 rw [← hys]
 obtain ⟨X1, hX1⟩ : ∃ X1, X1 = ({ X with now := n, L := Lv.canL X.L t, G := Lv.canG X.G t } : Gp) := ⟨_, rfl⟩
 have hT1 : X1.T = X.T := by rw [hX1]
 rw [← hX1] at HS ⊢
 have HT1 := hid hT1
 have HXN : Hid (X1.now = n) := hid (by rw [hX1])
 have HWF := hid hwf
 clear h Q0 ht hS hN hyl hwf hys hX1 hT1
 generalize ({ X with now := n } : Gp) = X0 at *
 have hcn : cnE X n t = if tkE X n ≠ 0 then tkE X n else if t < 1 then 1 else 0 := rfl
 unfold PT at *
 by_cases hz : tkE X n ≠ 0
 ·rw [if_pos hz] at hcn
  rw [hcn, if_pos hz, if_pos hz, if_pos hz]
  have hz' : (tkE X n != 0) = true := by simp [hz]
  have HR : Hid (Rs 67 8 w (.slice none 0 0) 0 (flatL [])) := hid (Rs.of_own (World.ownsRow_nil w w.heap.size _ _))
  clear HS HW hz hcn
  generalize tkE X n = E at *
  go_enter Tryz.func18, Tryz.ntmps18
  go_wp2_with (go_at_call 43; refine HC.out.mono ?_; rintro e w1 ⟨rfl, e1⟩; subst e1)
  exact bodyPost_ret (v := .tuple #[.slice none 0 0, .int .i64 E]) (by simp [results, Tryz.results18, go_sem]) rfl ⟨_, rfl, ⟨_, _, _, rfl⟩, HR.out, HQ.out⟩
 ·rw [if_neg hz] at hcn
  have hz0 : tkE X n = 0 := by simpa using hz
  rw [hz0] at HC
  by_cases ht1 : t < 1
  ·rw [if_pos ht1] at hcn
   rw [hcn]
   rw [if_pos (by decide : (1 : Int) ≠ 0), if_pos (by decide : (1 : Int) ≠ 0), if_pos (by decide : (1 : Int) ≠ 0)]
   have HR : Hid (Rs 67 8 w (.slice none 0 0) 0 (flatL [])) := hid (Rs.of_own (World.ownsRow_nil w w.heap.size _ _))
   clear HS HW hz hz0 hcn
   go_enter Tryz.func18, Tryz.ntmps18
   go_wp2_with (go_at_call 43; refine HC.out.mono ?_; rintro e w1 ⟨rfl, e1⟩; subst e1)
   exact bodyPost_ret (v := .tuple #[.slice none 0 0, .int .i64 1]) (by simp [results, Tryz.results18, go_sem]) rfl ⟨_, rfl, ⟨_, _, _, rfl⟩, HR.out, HQ.out⟩
  ·rw [if_neg ht1] at hcn
   rw [hcn]
   rw [if_neg (by simp : ¬ ((0 : Int) ≠ 0)), if_neg (by simp : ¬ ((0 : Int) ≠ 0)), if_neg (by simp : ¬ ((0 : Int) ≠ 0))]
   clear hz hz0 hcn
   go_enter Tryz.func18, Tryz.ntmps18
   go_upto_region 8 with (go_at_call 43; refine HC.out.mono ?_; rintro e w1 ⟨rfl, e1⟩; subst e1)
   have q1 := HW.out
   obtain ⟨W1, hW1⟩ : ∃ W1, W1 = w1.setCell ⟨g, 4, none⟩ (.int .i64 n) := ⟨_, rfl⟩
   rw [← hW1] at q1 ⊢
   have c3 := (HG.out _ _ _ q1).c3
   have HSS := hid (HS.out _ q1)
   have TW := hid q1.tch.size
   clear hW1 q1 c4 f4 HS HW HC HQ
   go_upto_region 9 with (go_at_call 55; refine HSS.out.mono ?_; rintro e w2 ⟨a2, c2, rfl, r2, q2⟩; have RR := hid (And.intro r2 q2); clear r2 q2 c3)
   have H0 : Hid (CnI w1 w2 g P F (lefs X1 (ys.take 0)) ⟨N.t + 0, N.b, N.s + 1⟩ (.slice a2 ys.length c2) (.slice none 0 0) ys.length 0 (ys.flatMap Lv.sc) (flatL (lefVs X.T (ys.take 0)))) := hid (by
    obtain ⟨r, F1, q1, q2, q3⟩ := RR.out
    exact ⟨F1, q1, q2, q3, own_base r TW.out, World.ownsRow_nil _ _ _ _⟩)
   obtain ⟨m, hm⟩ : ∃ m, m = ys.length := ⟨_, rfl⟩
   have HM := hid hm
   rw [← hm] at H0 ⊢
   clear RR HSS hm
   go_wp2
   go_loopw [9, 32] (fun s9 s32 wr => ∃ i : Nat, s32 = .int .i64 (i : Int) ∧ i ≤ m ∧ ∃ a9 c9, s9 = .slice a9 i c9 ∧ Hid (CnI w1 wr g P F (lefs X1 (ys.take i)) ⟨N.t + i, N.b, N.s + 1⟩ (.slice a2 m c2) (.slice a9 i c9) m i (ys.flatMap Lv.sc) (flatL (lefVs X.T (ys.take i))))) (fun _ i _ => m - (intOf i).toNat)
   case atStart => exact ⟨0, rfl, Nat.zero_le _, none, 0, rfl, H0⟩
   case round =>
    clear H0
    obtain ⟨i, rfl, hi, a9, c9, rfl, HR⟩ := hrel
    by_cases hlt : i < m
    ·have zi : (i : Int) < (m : Int) := by omega
     have zL : (m : Int) < 9223372036854775807 := by have := HN.out; have := HM.out; omega
     obtain ⟨y, hy⟩ : ∃ y, ys[i]? = some y := ⟨_, List.getElem?_eq_getElem (by have := HM.out; omega)⟩
     obtain ⟨V1, hV1⟩ : ∃ V1, V1 = wr.alloc (.cells #[.int .i64 y.1, .int .i64 y.2.1, .int .i64 y.2.2] 134) := ⟨_, rfl⟩
     obtain ⟨gg, hg, e0, e1, e2⟩ : ∃ gg, a2 = some ⟨gg, 0, none⟩ ∧ wr.cell? ⟨gg, i * 3, none⟩ = some (.int .i64 y.1) ∧ wr.cell? ⟨gg, i * 3 + 1, none⟩ = some (.int .i64 y.2.1) ∧ wr.cell? ⟨gg, i * 3 + 2, none⟩ = some (.int .i64 y.2.2) := by
      obtain ⟨F', q1, q2, q3, q4, q5⟩ := HR.out
      obtain ⟨gg, c', e, _, _⟩ := own_some q4 (by omega)
      simp only [Value.slice.injEq, true_and] at e
      obtain ⟨rfl, rfl⟩ := e
      exact ⟨gg, rfl, Lv.seat_cells q4 hy⟩
     subst hg
     have tv1 : Touch [] wr V1 := by rw [hV1]; exact (Touch.refl _ _).alloc _
     have hb1 : V1.heap[wr.heap.size]? = some (.cells #[.int .i64 y.1, .int .i64 y.2.1, .int .i64 y.2.2] 134 (0, 0)) := by rw [hV1]; exact heap_alloc_new wr _
     have f0 := cell_at (j := 0) (v := .int .i64 y.1) hb1 rfl
     have f1 := cell_at (j := 1) (v := .int .i64 y.2.1) hb1 rfl
     have f2 := cell_at (j := 2) (v := .int .i64 y.2.2) hb1 rfl
     have HCL : Hid (Calls Tryz.prog 54 #[PT g, Lv.sv y] V1 fun e w' => e = .returned (.agg (lefV (lefT X.T (ys.take i)) y)) ∧ CnI w1 w' g P F (lefs X1 (ys.take (i + 1))) ⟨N.t + (i + 1), N.b, N.s + 1⟩ (.slice (some ⟨gg, 0, none⟩) m c2) (.slice a9 i c9) m i (ys.flatMap Lv.sc) (flatL (lefVs X.T (ys.take i)))) := hid (by
      obtain ⟨F1, q1, q2, q3, q4, q5⟩ := HR.out
      have q1' := q1.keep0 tv1
      refine (left_ q1' y (HWF.out y (List.mem_of_getElem? hy)) (by have := HN.out; have := HM.out; simp only; omega)).mono ?_
      rintro e w' ⟨rfl, F2, z1, z2, z3⟩
      have hs : lefs X1 (ys.take (i + 1)) = lefX (lefs X1 (ys.take i)) y := by rw [Lv.take_snoc hy]; unfold lefs; rw [List.foldl_append]; rfl
      have hT : (lefs X1 (ys.take i)).T = lefT X.T (ys.take i) := by rw [lefs_eq]; simp only; rw [HT1.out]
      have hk : Keeps wr w' := tv1.keeps.trans (GqE.keeps q1' ⟨F2, z1, z2, z3⟩)
      refine ⟨by rw [hT], F2, by rw [hs]; exact z1, (q2.trans tv1 (fun _ e => by cases e)).trans z2 q3, q3.trans (fun z hz => (z3 z hz).imp id (fun e => Nat.le_trans tv1.size e)) q2.size, own_keep q4 (fun b hb => ?_), own_keep q5 (fun b hb => ?_)⟩
      ·obtain ⟨cs, hc⟩ := own_kind q4 hb
       rw [hc]
       exact hk _ _ _ _ (by decide) hc
      ·obtain ⟨cs, hc⟩ := own_kind q5 hb
       rw [hc]
       exact hk _ _ _ _ (by decide) hc)
     have HAP : Hid (lefVs X.T (ys.take (i + 1)) = lefVs X.T (ys.take i) ++ [lefV (lefT X.T (ys.take i)) y]) := hid (by rw [Lv.take_snoc hy, lefVs_snoc])
     have HFL : Hid ((flatL (lefVs X.T (ys.take i))).length = i * 8) := hid (by rw [flatL_len, List.length_take, ← HM.out]; congr 1; omega)
     have HBS : Hid (∀ w3 : World, CnI w1 w3 g P F (lefs X1 (ys.take (i + 1))) ⟨N.t + (i + 1), N.b, N.s + 1⟩ (.slice (some ⟨gg, 0, none⟩) m c2) (.slice a9 i c9) m i (ys.flatMap Lv.sc) (flatL (lefVs X.T (ys.take i))) → ∀ ob, (w3.alloc ob).ownsRow w1.heap.size 67 8 (.slice a9 i c9) i (flatL (lefVs X.T (ys.take i))) ∧ w1.heap.size ≤ (w3.alloc ob).heap.size) := hid (fun w3 h ob => by
      obtain ⟨F1, q1, q2, q3, q4, q5⟩ := h
      exact ⟨own_touch q5 ((Touch.refl [] _).alloc ob) (fun _ _ e => by cases e), Nat.le_trans q2.size ((Touch.refl [] w3).alloc ob).size⟩)
     have HGR : Hid (∀ (w3 w5 : World) ob lv', CnI w1 w3 g P F (lefs X1 (ys.take (i + 1))) ⟨N.t + (i + 1), N.b, N.s + 1⟩ (.slice (some ⟨gg, 0, none⟩) m c2) (.slice a9 i c9) m i (ys.flatMap Lv.sc) (flatL (lefVs X.T (ys.take i))) → (w3.alloc ob).grownBy w5 (Value.slice a9 i c9).ownBlock → w5.ownsRow w1.heap.size 67 8 lv' (i + 1) (flatL (lefVs X.T (ys.take i)) ++ (lefV (lefT X.T (ys.take i)) y).toList) → CnI w1 w5 g P F (lefs X1 (ys.take (i + 1))) ⟨N.t + (i + 1), N.b, N.s + 1⟩ (.slice (some ⟨gg, 0, none⟩) m c2) lv' m (i + 1) (ys.flatMap Lv.sc) (flatL (lefVs X.T (ys.take (i + 1))))) := hid (fun w3 w5 ob lv' h hg o5 => by
      have := h.grow hg o5
      rw [HAP.out]
      unfold flatL at *
      rw [List.flatMap_append]
      simpa using this)
     unfold PT Lv.sv at HCL
     unfold lefV at HCL HGR
     generalize Ta.tLeaveC (lefT X.T (ys.take i)) y.2.1 y.1 = C at *
     generalize Ta.tLeaveA (lefT X.T (ys.take i)) y.2.1 y.1 = D at *
     clear hy HR tv1 hb1 hi HAP HFL
     generalize flatL (lefVs X.T (ys.take i)) = ls at *
     go_upto_region 11 with fail
     rw [← hV1]
     clear hV1 e0 e1 e2
     go_upto_region 12 with (first
      | (go_at_call 54; refine HCL.out.mono ?_; rintro e w3 ⟨rfl, q3⟩; have Q3 := hid q3; clear q3 f0 f1 f2)
      | (at_builtin; refine wpList_append_rs rfl _ _ 70 67 rfl (.agg #[.int .i64 0, .int .i64 0, .bool false, .bool false, .int .i64 0, .int .i64 0, .int .i64 0, .int .i64 0]) 8 56 infoLeft Tryz.underlying70 rfl (by decide) w1.heap.size (.slice a9 i c9) i ls rfl (HBS.out _ Q3.out _).1 (.slice (some ⟨w3.heap.size, 0, none⟩) 1 1) 1 _ rfl (Rs.new w3 #[.int .i64 y.1, .int .i64 y.2.1, .bool C, .bool D, .int .i64 0, .int .i64 3, .int .i64 0, .int .i64 0] 67 8 rfl) (by intro z hz; simp at hz; rcases hz with rfl | rfl | rfl | rfl | rfl | rfl | rfl | rfl <;> rfl) (by have := HN.out; have := HM.out; unfold maxLen; omega) (by have := HN.out; have := HM.out; omega) (HBS.out _ Q3.out _).2 ?_; intro v5 w5 o5 g5 p5; obtain ⟨a5, c5, e5⟩ := own_form o5; subst e5; have HX := hid (HGR.out _ _ _ _ Q3.out g5 o5); clear o5 g5 p5))
     go_wp2
     go_roundw
     case rel => exact ⟨i + 1, by go_num, by omega, a5, c5, rfl, HX⟩
     case measure => simp [intOf]; omega
    ·have HZ : Hid (Rs 67 8 wr (.slice a9 i c9) (lefVs X.T ys).length (flatL (lefVs X.T ys)) ∧ GqE w1 wr g P F (lefs X1 ys) ⟨N.t + ys.length, N.b, N.s + 1⟩) := hid (by
      have e1 := HM.out
      obtain rfl : i = m := by omega
      obtain ⟨F1, q1, q2, q3, q4, q5⟩ := HR.out
      rw [e1, List.take_length] at q1 q5
      rw [lefVs_len, e1]
      exact ⟨Rs.of_own q5, F1, q1, q2, q3⟩)
     have zi : (m : Int) ≤ (i : Int) := by omega
     clear HR hlt hi
     go_wp2
     exact bodyPost_ret (v := .tuple #[.slice a9 i c9, .int .i64 0]) (by simp [results, Tryz.results18, go_sem]) rfl ⟨_, rfl, ⟨_, _, _, rfl⟩, HZ.out.1, HZ.out.2⟩
end
end Go.Proofs.YtkfophlhpjbmgaaGreat
