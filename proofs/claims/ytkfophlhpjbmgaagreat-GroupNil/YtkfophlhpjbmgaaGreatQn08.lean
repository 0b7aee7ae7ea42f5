/- The contracts of around and New; no conditions but those that each states. -/
import Derived.Test.YtkfophlhpjbmgaaGreatQn07
import Derived.Test.YtkfophlhpjbmgaaGreatQn04
import Derived.Test.YtkfophlhpjbmgaaGreatQn05
import Derived.Test.YtkfophlhpjbmgaaGreatQn02
import Derived.Test.YtkfophlhpjbmgaaGreatRows
import Derived.WalkKit
import Derived.ProofKit
import Derived.OpenShut
import Derived.ShutString
import Derived.Deep.Slices
namespace Go.Proofs.YtkfophlhpjbmgaaGreat
open Go.RowKit Go.Maps Go.ChangeMaps
set_option maxRecDepth 100000
set_option linter.unusedVariables false
set_option linter.unusedSimpArgs false
def G0 (c : Me.Cf) (now : Int) (xs : List Me.En) : Gp := ⟨c, now, xs, Ta.T0 c.f, Ba.S0 c.b c.d, [], [], now⟩
def C0 : Cn := ⟨0, 0, 0⟩
def NwE (w w' : World) (Fm : List Nat) (g : Nat) (c : Me.Cf) (now : Int) (xs : List Me.En) : Prop := ∃ P F, Gq w' g P F (G0 c now xs) C0 ∧ Touch [] w w' ∧ (∀ k, k ∈ F → k ∈ Fm ∨ w.heap.size ≤ k)
theorem okC_parts {c : Me.Cf} (h : Me.okC c = true) : (0 ≤ c.t ∧ 0 ≤ c.n ∧ 0 ≤ c.s ∧ 0 ≤ c.d ∧ 0 ≤ c.e ∧ c.e ≤ 65536 ∧ 1 ≤ c.f ∧ c.f ≤ 4096 ∧ 1 ≤ c.b ∧ c.b ≤ 1024) := by
  unfold Me.okC at h
  simpa using h
def cfc (c : Me.Cf) : Array Value := #[.int .i64 c.t, .int .i64 c.n, .int .i64 c.s, .int .i64 c.e, .int .i64 c.f, .int .i64 c.b, .int .i64 c.d]
set_option maxHeartbeats 8000000 in
theorem around_ (w : World) (m : Nat) (Fm : List Nat) (c : Me.Cf) (now : Int) (xs : List Me.En) (h : Me.Mq w m Fm c now xs) (hd : c.d ≤ 9223372036854775807) : Calls Tryz.prog 37 #[PT m] w fun e w' => ∃ g, e = .returned (PT g) ∧ NwE w w' Fm g c now xs := by
  have ho := okC_parts h.gd.oc
  have hm : Me.Mq w m Fm c now xs := h
  have HC : Hid (Calls Tryz.prog 69 #[PT m] w fun e w' => e = .returned (Me.cv c) ∧ Touch [] w w') := hid (by obtain ⟨b, o, G, rfl, h⟩ := h; exact Me.config27 w m c now b o h.md)
  have HT : Hid (∀ w1, Touch [] w w1 → Calls Tryz.prog 76 #[.int .i64 c.f] w1 fun e w' => ∃ t Ft, e = .returned (.tuple #[PT t, .int .i64 0]) ∧ Ta.Tq w' t Ft (Ta.T0 c.f) 0 ∧ Touch [] w1 w' ∧ ∀ d, d ∈ Ft → w1.heap.size ≤ d) := hid (fun w1 _ => Ta.newT_ok w1 c.f (by unfold Ta.mayF'; simp; omega))
  have hbm : Ba.mayB c.b c.d = true := by unfold Ba.mayB; simp; omega
  have HB : Hid (∀ w1, Calls Tryz.prog 77 #[.int .i64 c.b, .int .i64 c.d] w1 fun e w' => e = .returned (.tuple #[PT w1.heap.size, .int .i64 0]) ∧ Ba.Bm w' w1.heap.size (.slice none 0 0) 0 (Ba.S0 c.b c.d) ∧ Touch [] w1 w') := hid (fun w1 => Ba.new_yes w1 c.b c.d hbm)
  have HS : Hid (∀ w1, Calls Tryz.prog 78 #[] w1 fun e w' => e = .returned (PT w1.heap.size) ∧ Lv.Sq w' w1.heap.size [w1.heap.size] [] [] 0 ∧ Touch [] w1 w') := hid (fun w1 => Lv.new_ w1)
  have HW : Hid (∀ w1, Touch [] w w1 → Calls Tryz.prog 79 #[PT m] w1 fun e w' => e = .returned (.int .i64 now) ∧ w' = w1) := hid (fun w1 T => by obtain ⟨b, o, G, eF, h'⟩ := h.keep0 T; exact Me.now26 w1 m c now b o h'.md)
  have hbi : Ba.Iv (Ba.S0 c.b c.d) 0 := ⟨by simp [Ba.S0]; omega, by simp [Ba.S0]; omega, by simp [Ba.S0]; omega, by simp [Ba.S0]; omega, by simp [Ba.S0], by simp [Ba.S0], by simp [Ba.S0], by simp only [Ba.S0]; exact W64.mk (by omega) (by omega), by simp [Ba.S0], by simp [Ba.S0], by simp [Ba.S0], by simp [Ba.S0], by simp [Ba.S0], by simp [Ba.S0], by simp [Ba.S0]⟩
  have HF : Hid (∀ w2 t Ft w3 w4, Touch [] w w2 → Ta.Tq w2 t Ft (Ta.T0 c.f) 0 → (∀ d, d ∈ Ft → w.heap.size ≤ d) → Ba.Bm w3 w2.heap.size (.slice none 0 0) 0 (Ba.S0 c.b c.d) → Touch [] w2 w3 → Lv.Sq w4 w3.heap.size [w3.heap.size] [] [] 0 → Touch [] w3 w4 → NwE w (w4.alloc (.cells (gcs ⟨m, t, w2.heap.size, w3.heap.size⟩ now) 119)) Fm w4.heap.size c now xs) := hid (fun w2 t Ft w3 w4 t2 qt ft qb t3 qs t4 => by
    have t5 : Touch [] w4 (w4.alloc (.cells (gcs ⟨m, t, w2.heap.size, w3.heap.size⟩ now) 119)) := (Touch.refl _ _).alloc _
    have hmlt := h.lt
    have htlt := qt.lt
    have h3 : w2.heap.size < w3.heap.size := qb.lt
    have h4 : w3.heap.size < w4.heap.size := qs.slt
    have z2 := t2.size
    refine ⟨⟨m, t, w2.heap.size, w3.heap.size⟩, fpG w4.heap.size Fm Ft [w2.heap.size] [w3.heap.size], ⟨Fm, Ft, [w2.heap.size], [w3.heap.size], rfl, ?_⟩, ((t2.trans' t3).trans' t4).trans' t5, fun k hk => ?_⟩
    · refine ⟨heap_alloc_new w4 _, h.keep0 (((t2.trans' t3).trans' t4).trans' t5), qt.keep0 ((t3.trans' t4).trans' t5), ⟨.slice none 0 0, 0, rfl, qb.keep0 (t4.trans' t5), hbi⟩, qs.keep0 t5, ?_, ?_, ?_, ?_, ?_, ?_, ?_, ?_, ?_, ?_⟩
      all_goals (intro k hk e; (try simp only [List.mem_singleton] at hk); (try simp only [List.mem_singleton] at e))
      · have := hmlt k e; omega
      · have := htlt k e; omega
      · omega
      · omega
      · have := hmlt k hk; have := ft k e; omega
      · have := hmlt k hk; omega
      · have := hmlt k hk; omega
      · have := htlt k hk; omega
      · have := htlt k hk; omega
      · omega
    · rcases mem_fpG.1 hk with e | e | e | e | e
      · exact Or.inr (by omega)
      · exact Or.inl e
      · exact Or.inr (ft k e)
      · simp only [List.mem_singleton] at e; exact Or.inr (by omega)
      · simp only [List.mem_singleton] at e; exact Or.inr (by omega))
  clear h hm ho hbm hbi
  unfold gcs at HF
  unfold Me.cv at HC
  unfold PT at *
  go_enter Tryz.func37, Tryz.ntmps37
  go_upto_region 2 with (go_at_call 69; refine HC.out.mono ?_; rintro e w1 ⟨rfl, t1⟩; have T1 := hid t1; clear t1)
  obtain ⟨W1, hW1⟩ : ∃ W1, W1 = w1.alloc (.cells (cfc c) 23) := ⟨_, rfl⟩
  have t1 : Touch [] w W1 := by rw [hW1]; exact T1.out.alloc _
  have hb := heap_alloc_new w1 (.cells (cfc c) 23)
  rw [← hW1] at hb
  unfold cfc at hW1 hb
  rw [← hW1]
  clear hW1
  have HB1 := hid hb
  have TT1 := hid t1
  have b4 := cell_at (j := 4) hb rfl
  have b5 := cell_at (j := 5) hb rfl
  have b6 := cell_at (j := 6) hb rfl
  clear t1 hb
  go_upto_region 3 with (first
    | (go_at_call 76; refine (HT.out _ TT1.out).mono ?_; rintro e w2 ⟨t, Ft, rfl, q2, t2, f2⟩; have hb := t2.keep HB1.out (by simp); clear b4 b5 b6; have b5 := cell_at (j := 5) hb rfl; have b6 := cell_at (j := 6) hb rfl; have Q2 := hid q2; have T2 := hid t2; have F2 := hid f2; clear hb q2 t2 f2))
  go_upto_region 4 with (first
    | (go_at_call 77; refine (HB.out _).mono ?_; rintro e w3 ⟨rfl, q3, t3⟩; have Q3 := hid q3; have T3 := hid t3; clear q3 t3 b5 b6))
  go_wp2_with (first
    | (go_at_call 78; refine (HS.out _).mono ?_; rintro e w4 ⟨rfl, q4, t4⟩; have Q4 := hid q4; have T4 := hid t4; have T5 := hid (((TT1.out.trans' T2.out).trans' T3.out).trans' t4); clear q4 t4)
    | (go_at_call 79; refine (HW.out _ T5.out).mono ?_; rintro e w5 ⟨rfl, rfl⟩))
  go_ret
  exact ⟨_, rfl, HF.out _ _ _ _ _ (TT1.out.trans' T2.out) Q2.out (fun d hd => Nat.le_trans TT1.out.size (F2.out d hd)) Q3.out T3.out Q4.out T4.out⟩
def W7 (c : Me.Cf) : Prop := c.t ≤ 9223372036854775807 ∧ c.n ≤ 9223372036854775807 ∧ c.s ≤ 9223372036854775807 ∧ c.d ≤ 9223372036854775807
theorem new_ (w : World) (c : Me.Cf) (hc : Me.okC c = true) (hw : W7 c) : Calls Tryz.prog 8 #[Me.cv c] w fun e w' => ∃ g, e = .returned (.tuple #[PT g, .int .i64 0]) ∧ NwE w w' [] g c 0 [] := by
  obtain ⟨w1, w2, w3, w4⟩ := hw
  have HN := hid (fun w => Me.new9_ok w c hc ⟨w1, w2, w3⟩)
  have HA : Hid (∀ V m W, Touch [] w V → Me.NwQ V c m W → Calls Tryz.prog 37 #[PT m] W fun e w' => ∃ g, e = .returned (PT g) ∧ NwE w w' [] g c 0 []) := hid (fun V m W tV h => by
    obtain ⟨F, q1, q2, q3⟩ := h
    refine (around_ W m F c 0 [] q1 w4).mono ?_
    rintro e w' ⟨g, rfl, P, F', r1, r2, r3⟩
    refine ⟨g, rfl, P, F', r1, (tV.trans' q3).trans' r2, fun k hk => Or.inr ?_⟩
    have z1 := tV.size
    have z2 := q3.size
    rcases r3 k hk with e | e
    · have := q2 k e; omega
    · omega)
  clear hc w1 w2 w3 w4
  unfold Me.cv at *
  unfold PT at *
  go_enter Tryz.func8, Tryz.ntmps8
  go_wp2_with (first
    | (go_at_call 36; refine (HN.out _).mono ?_; rintro e w2 ⟨m, rfl, q2⟩; have Q2 := hid q2; clear q2)
    | (go_at_call 37; refine (HA.out _ _ _ ((Touch.refl _ _).alloc _) Q2.out).mono ?_; rintro e w3 ⟨g, rfl, q3⟩; have Q3 := hid q3; clear q3))
  exact bodyPost_ret (v := .tuple #[.pointer (some ⟨g, 0, none⟩), .int .i64 0]) (by simp [results, Tryz.results8, go_sem]) rfl ⟨_, rfl, Q3.out⟩
end Go.Proofs.YtkfophlhpjbmgaaGreat
/- The law's awake: one leads, another one joins; no conditions. -/
namespace Go.Proofs.YtkfophlhpjbmgaaGreat
open Go.RowKit Go.Maps Go.ChangeMaps
set_option maxRecDepth 100000
set_option linter.unusedVariables false
set_option linter.unusedSimpArgs false
def kA : K := (0, ⟨#[97]⟩)
theorem okA : Ok kA := ⟨rfl, by unfold maxLen; decide⟩
def cA : Me.Cf := ⟨5, 0, 0, 2, 2, 1, 0⟩
def XA : Gp := joX (G0 cA 0 []) 0 kA 1 0
theorem gt_G0 {c : Me.Cf} {now : Int} {xs : List Me.En} (h0 : 0 ≤ now) (h1 : now ≤ 4611686018427387904) : Gt (G0 c now xs) := ⟨Int.le_refl _, h0, h1⟩
theorem awA1 : mayE (G0 cA 0 []) 0 kA 1 0 = 0 := by kernel_rfl
theorem awA2 : (joJ (G0 cA 0 []) 0 kA 1 0).how = 5 ∧ (joJ (G0 cA 0 []) 0 kA 1 0).run = 1 := ⟨by kernel_rfl, by kernel_rfl⟩
theorem awA3 : mayE XA 0 kA 2 0 = 0 := by kernel_rfl
theorem awA4 : (joJ XA 0 kA 2 0).how = 3 ∧ (joJ XA 0 kA 2 0).run = 1 := ⟨by kernel_rfl, by kernel_rfl⟩
theorem awA5 : XA.mn = 0 ∧ XA.now = 0 := ⟨by kernel_rfl, by kernel_rfl⟩
theorem GqE.fresh {w w1 w2 : World} {g : Nat} {P : Pt} {F : List Nat} {X : Gp} {N : Cn} (T : Touch [] w w1) (hF : ∀ k, k ∈ F → w.heap.size ≤ k) (h : GqE w1 w2 g P F X N) : ∃ F', Gq w2 g P F' X N ∧ Touch [] w w2 ∧ ∀ k, k ∈ F' → w.heap.size ≤ k := by
  obtain ⟨F', q1, q2, q3⟩ := h
  exact ⟨F', q1, T.trans q2 (fun i hi => Or.inr (hF i hi)), fun k hk => (q3 k hk).elim (hF k) (fun e => Nat.le_trans T.size e)⟩
set_option maxHeartbeats 4000000 in
theorem awake_ (w : World) : Calls Tryz.prog 9 #[] w fun e w' => e = .returned (.bool true) ∧ Touch [] w w' := by
  have HN : Hid (Calls Tryz.prog 8 #[Me.cv cA] w fun e w1 => ∃ g P F, e = .returned (.tuple #[PT g, .int .i64 0]) ∧ Gq w1 g P F (G0 cA 0 []) C0 ∧ Touch [] w w1 ∧ ∀ k, k ∈ F → w.heap.size ≤ k) := hid (by
    refine (new_ w cA (by kernel_rfl) ⟨by decide, by decide, by decide, by decide⟩).mono ?_
    rintro e w1 ⟨g, rfl, P, F, q1, q2, q3⟩
    exact ⟨g, P, F, rfl, q1, q2, fun k hk => (q3 k hk).elim (fun e => by cases e) id⟩)
  have HJ1 : Hid (∀ w1 g P F, Gq w1 g P F (G0 cA 0 []) C0 → Touch [] w w1 → (∀ k, k ∈ F → w.heap.size ≤ k) → Calls Tryz.prog 12 #[PT g, .int .i64 0, kv kA, .int .i64 1, .int .i64 0] w1 fun e w2 => ∃ (J : Jd) (a : Option Addr) (n c : Nat) (F' : List Nat), e = .returned (.tuple #[.agg #[.int .i64 5, .int .i64 1, .bool J.bg, .int .i64 J.o.1, .int .i64 J.o.2.1, .int .i64 J.o.2.2.1, .int .i64 J.o.2.2.2, .slice a n c], .int .i64 0]) ∧ Gq w2 g P F' XA ⟨1, 1, 1⟩ ∧ Touch [] w w2 ∧ ∀ k, k ∈ F' → w.heap.size ≤ k) := hid (fun w1 g P F q t f => by
    refine (join_ q (gt_G0 (Int.le_refl _) (by decide)) 0 kA okA (W64.mk (by omega) (by omega)) (W64.mk (by omega) (by omega)) (by simp [C0]) (by simp [C0]) (by simp [C0])).mono ?_
    rintro e w2 ⟨v, rfl, n2, r2⟩
    obtain ⟨a, n, c, rfl⟩ := n2.2
    obtain ⟨F', s1, s2, s3⟩ := r2.fresh t f
    have hc : (joC (G0 cA 0 []) 0 kA 1 0 C0) = ⟨1, 1, 1⟩ := by kernel_rfl
    rw [hc] at s1
    refine ⟨joJ (G0 cA 0 []) 0 kA 1 0, a, n, c, F', ?_, s1, s2, s3⟩
    unfold jv jcs
    rw [awA1, awA2.1, awA2.2])
  have HJ2 : Hid (∀ w1 g P F, Gq w1 g P F XA ⟨1, 1, 1⟩ → Touch [] w w1 → (∀ k, k ∈ F → w.heap.size ≤ k) → Calls Tryz.prog 12 #[PT g, .int .i64 0, kv kA, .int .i64 2, .int .i64 0] w1 fun e w2 => ∃ (J : Jd) (a : Option Addr) (n c : Nat), e = .returned (.tuple #[.agg #[.int .i64 3, .int .i64 1, .bool J.bg, .int .i64 J.o.1, .int .i64 J.o.2.1, .int .i64 J.o.2.2.1, .int .i64 J.o.2.2.2, .slice a n c], .int .i64 0]) ∧ Touch [] w w2 ∧ Keeps w1 w2) := hid (fun w1 g P F q t f => by
    refine (join_ q ⟨by rw [awA5.1, awA5.2]; exact Int.le_refl _, by rw [awA5.2]; exact Int.le_refl _, by rw [awA5.2]; decide⟩ 0 kA okA (W64.mk (by omega) (by omega)) (W64.mk (by omega) (by omega)) (by simp) (by simp) (by simp)).mono ?_
    rintro e w2 ⟨v, rfl, n2, r2⟩
    obtain ⟨a, n, c, rfl⟩ := n2.2
    obtain ⟨F', s1, s2, s3⟩ := r2.fresh t f
    refine ⟨joJ XA 0 kA 2 0, a, n, c, ?_, s2, GqE.keeps q r2⟩
    unfold jv jcs
    rw [awA3, awA4.1, awA4.2])
  unfold Me.cv cA at HN
  unfold kA kv at HJ1 HJ2
  unfold PT at *
  go_enter Tryz.func9, Tryz.ntmps9
  go_upto_region 4 with (go_at_call 8; refine HN.out.mono ?_; rintro e w1 ⟨g, P, F, rfl, q1, t1, f1⟩; have HJ := hid (HJ1.out w1 g P F q1 t1 f1); clear q1 t1 f1)
  go_upto_region 5 with (go_at_call 12; refine HJ.out.mono ?_; rintro e w2 ⟨J, a, n, c, F', rfl, q2, t2, f2⟩; have Q2 := hid q2; have T2 := hid t2; have F2 := hid f2; clear q2 t2 f2)
  obtain ⟨W2, hW2⟩ : ∃ W2, W2 = w2.alloc (.cells #[.int .i64 5, .int .i64 1, .bool J.bg, .int .i64 J.o.1, .int .i64 J.o.2.1, .int .i64 J.o.2.2.1, .int .i64 J.o.2.2.2, .slice a n c] 49) := ⟨_, rfl⟩
  have h3 := heap_alloc_new w2 (.cells #[.int .i64 5, .int .i64 1, .bool J.bg, .int .i64 J.o.1, .int .i64 J.o.2.1, .int .i64 J.o.2.2.1, .int .i64 J.o.2.2.2, .slice a n c] 49)
  have t3 : Touch [] w2 W2 := by rw [hW2]; exact (Touch.refl _ _).alloc _
  rw [← hW2] at h3 ⊢
  have HJ3 := hid (HJ2.out W2 g P F' (Q2.out.keep0 t3) (T2.out.trans' t3) F2.out)
  have H3 := hid h3
  clear hW2 h3 t3 HJ HJ1 HJ2 HN
  go_upto_region 6 with (go_at_call 12; refine HJ3.out.mono ?_; rintro e w4 ⟨J', a', n', c', rfl, t4, k4⟩; have h4 := k4 _ _ _ _ (by decide) H3.out; have T4 := hid t4; clear t4 k4)
  have x0 := cell_at (j := 0) h4 rfl
  have x1 := cell_at (j := 1) h4 rfl
  have hlt : w2.heap.size < w4.heap.size := block_lt h4
  have hne : w2.heap.size ≠ w4.heap.size := by omega
  have hne' : w4.heap.size ≠ w2.heap.size := by omega
  clear h4
  go_wp2
  go_ret
  exact ⟨rfl, T4.out.alloc _⟩
end Go.Proofs.YtkfophlhpjbmgaaGreat
/- What a group answers without being changed, by what its parts answer, of a nil one, too; no conditions but those that each states. -/
namespace Go.Proofs.YtkfophlhpjbmgaaGreat
open Go.RowKit Go.Maps Go.ChangeMaps
set_option maxRecDepth 100000
set_option linter.unusedVariables false
set_option linter.unusedSimpArgs false
structure Ow (w : World) (ga ma ta ba sa : Option Addr) : Prop where
  o : ∀ w1, Touch [] w w1 → Calls Tryz.prog 50 #[.pointer ga] w1 fun e w2 => e = .returned (.agg #[.pointer ma, .pointer ta, .pointer ba, .pointer sa]) ∧ Touch [] w1 w2
theorem Ow.nil (w : World) : Ow w none none none none none := ⟨fun w1 T => own_nil w1⟩
theorem Ow.to {w w1 : World} {ga ma ta ba sa : Option Addr} (h : Ow w ga ma ta ba sa) (T : Touch [] w w1) : Ow w1 ga ma ta ba sa := ⟨fun w2 T2 => h.o w2 (T.trans' T2)⟩
theorem fldP (w : World) (a b c d : Option Addr) : (Instr.field 117 (.agg #[.pointer a, .pointer b, .pointer c, .pointer d]) 0).run Tryz.prog w = .ok (.pointer a) w ∧ (Instr.field 117 (.agg #[.pointer a, .pointer b, .pointer c, .pointer d]) 1).run Tryz.prog w = .ok (.pointer b) w ∧ (Instr.field 117 (.agg #[.pointer a, .pointer b, .pointer c, .pointer d]) 2).run Tryz.prog w = .ok (.pointer c) w ∧ (Instr.field 117 (.agg #[.pointer a, .pointer b, .pointer c, .pointer d]) 3).run Tryz.prog w = .ok (.pointer d) w := ⟨by kernel_rfl, by kernel_rfl, by kernel_rfl, by kernel_rfl⟩
theorem st7 {w : World} {b : Nat} {t : TypeId} {z0 z1 z2 z3 z4 z5 z6 : Value} (h : w.heap[b]? = some (.cells #[z0, z1, z2, z3, z4, z5, z6] t (0, 0))) (v0 v1 v2 v3 v4 v5 v6 : Value) :
    (((((((w.setCell ⟨b, 0, none⟩ v0).setCell ⟨b, 1, none⟩ v1).setCell ⟨b, 2, none⟩ v2).setCell ⟨b, 3, none⟩ v3).setCell ⟨b, 4, none⟩ v4).setCell ⟨b, 5, none⟩ v5).setCell ⟨b, 6, none⟩ v6).heap[b]? = some (.cells #[v0, v1, v2, v3, v4, v5, v6] t (0, 0)) ∧ Touch [b] w (((((((w.setCell ⟨b, 0, none⟩ v0).setCell ⟨b, 1, none⟩ v1).setCell ⟨b, 2, none⟩ v2).setCell ⟨b, 3, none⟩ v3).setCell ⟨b, 4, none⟩ v4).setCell ⟨b, 5, none⟩ v5).setCell ⟨b, 6, none⟩ v6) := by
  refine ⟨by simp [World.setCell, Array.getElem?_modify, h], ?_⟩
  have hm : b ∈ [b] := by simp
  exact (((((((Touch.refl _ _).setCell (Or.inl hm) _).setCell (Or.inl hm) _).setCell (Or.inl hm) _).setCell (Or.inl hm) _).setCell (Or.inl hm) _).setCell (Or.inl hm) _).setCell (Or.inl hm) _
section
variable {w : World} {ga ma ta ba sa : Option Addr}
theorem waiters_any (O : Ow w ga ma ta ba sa) (n : Int) (R : Value → World → Prop) (H : ∀ w1, Touch [] w w1 → Calls Tryz.prog 51 #[.pointer ta, .int .i64 n] w1 fun e w2 => ∃ v, e = .returned v ∧ R v w2) : Calls Tryz.prog 14 #[.pointer ga, .int .i64 n] w fun e w2 => ∃ v, e = .returned v ∧ R v w2 := by
  have HO := hid O.o
  have HI := hid H
  clear O H
  go_enter Tryz.func14, Tryz.ntmps14
  go_wp2_with (first
    | (go_at_call 50; refine (HO.out _ (Touch.refl _ _)).mono ?_; rintro e w1 ⟨rfl, t1⟩; have T1 := hid t1; clear t1; obtain ⟨p0, p1, p2, p3⟩ := fldP w1 ma ta ba sa)
    | (go_at_call 51; refine (HI.out _ T1.out).mono ?_; rintro e w2 ⟨v, rfl, r2⟩; have R2 := hid r2; clear r2))
  go_ret
  exact ⟨_, rfl, R2.out⟩
theorem prog_any (O : Ow w ga ma ta ba sa) (R : Value → World → Prop) (H : ∀ w1, Touch [] w w1 → Calls Tryz.prog 52 #[.pointer ta] w1 fun e w2 => ∃ v, e = .returned v ∧ R v w2) : Calls Tryz.prog 16 #[.pointer ga] w fun e w2 => ∃ v, e = .returned v ∧ R v w2 := by
  have HO := hid O.o
  have HI := hid H
  clear O H
  go_enter Tryz.func16, Tryz.ntmps16
  go_wp2_with (first
    | (go_at_call 50; refine (HO.out _ (Touch.refl _ _)).mono ?_; rintro e w1 ⟨rfl, t1⟩; have T1 := hid t1; clear t1; obtain ⟨p0, p1, p2, p3⟩ := fldP w1 ma ta ba sa)
    | (go_at_call 52; refine (HI.out _ T1.out).mono ?_; rintro e w2 ⟨v, rfl, r2⟩; have R2 := hid r2; clear r2))
  go_ret
  exact ⟨_, rfl, R2.out⟩
theorem gath_any (O : Ow w ga ma ta ba sa) (R : Value → World → Prop) (H : ∀ w1, Touch [] w w1 → Calls Tryz.prog 63 #[.pointer ba] w1 fun e w2 => ∃ v, e = .returned v ∧ R v w2) : Calls Tryz.prog 25 #[.pointer ga] w fun e w2 => ∃ v, e = .returned v ∧ R v w2 := by
  have HO := hid O.o
  have HI := hid H
  clear O H
  go_enter Tryz.func25, Tryz.ntmps25
  go_wp2_with (first
    | (go_at_call 50; refine (HO.out _ (Touch.refl _ _)).mono ?_; rintro e w1 ⟨rfl, t1⟩; have T1 := hid t1; clear t1; obtain ⟨p0, p1, p2, p3⟩ := fldP w1 ma ta ba sa)
    | (go_at_call 63; refine (HI.out _ T1.out).mono ?_; rintro e w2 ⟨v, rfl, r2⟩; have R2 := hid r2; clear r2))
  go_ret
  exact ⟨_, rfl, R2.out⟩
theorem canc_any (O : Ow w ga ma ta ba sa) (n : Int) (R : Value → World → Prop) (H : ∀ w1, Touch [] w w1 → Calls Tryz.prog 65 #[.pointer ta, .int .i64 n] w1 fun e w2 => ∃ v, e = .returned v ∧ R v w2) : Calls Tryz.prog 27 #[.pointer ga, .int .i64 n] w fun e w2 => ∃ v, e = .returned v ∧ R v w2 := by
  have HO := hid O.o
  have HI := hid H
  clear O H
  go_enter Tryz.func27, Tryz.ntmps27
  go_wp2_with (first
    | (go_at_call 50; refine (HO.out _ (Touch.refl _ _)).mono ?_; rintro e w1 ⟨rfl, t1⟩; have T1 := hid t1; clear t1; obtain ⟨p0, p1, p2, p3⟩ := fldP w1 ma ta ba sa)
    | (go_at_call 65; refine (HI.out _ T1.out).mono ?_; rintro e w2 ⟨v, rfl, r2⟩; have R2 := hid r2; clear r2))
  go_ret
  exact ⟨_, rfl, R2.out⟩
theorem ents_any (O : Ow w ga ma ta ba sa) (R : Value → World → Prop) (H : ∀ w1, Touch [] w w1 → Calls Tryz.prog 68 #[.pointer ma] w1 fun e w2 => ∃ v, e = .returned v ∧ R v w2) : Calls Tryz.prog 30 #[.pointer ga] w fun e w2 => ∃ v, e = .returned v ∧ R v w2 := by
  have HO := hid O.o
  have HI := hid H
  clear O H
  go_enter Tryz.func30, Tryz.ntmps30
  go_wp2_with (first
    | (go_at_call 50; refine (HO.out _ (Touch.refl _ _)).mono ?_; rintro e w1 ⟨rfl, t1⟩; have T1 := hid t1; clear t1; obtain ⟨p0, p1, p2, p3⟩ := fldP w1 ma ta ba sa)
    | (go_at_call 68; refine (HI.out _ T1.out).mono ?_; rintro e w2 ⟨v, rfl, r2⟩; have R2 := hid r2; clear r2))
  go_ret
  exact ⟨_, rfl, R2.out⟩
theorem curs_any (O : Ow w ga ma ta ba sa) (R : Value → World → Prop) (H : ∀ w1, Touch [] w w1 → Calls Tryz.prog 67 #[.pointer ta] w1 fun e w2 => ∃ v, e = .returned v ∧ R v w2) : Calls Tryz.prog 29 #[.pointer ga] w fun e w2 => ∃ v, e = .returned v ∧ R v w2 := by
  have HO := hid O.o
  have HI := hid H
  clear O H
  go_enter Tryz.func29, Tryz.ntmps29
  go_wp2_with (first
    | (go_at_call 50; refine (HO.out _ (Touch.refl _ _)).mono ?_; rintro e w1 ⟨rfl, t1⟩; have T1 := hid t1; clear t1; obtain ⟨p0, p1, p2, p3⟩ := fldP w1 ma ta ba sa)
    | (go_at_call 67; refine (HI.out _ T1.out).mono ?_; rintro e w2 ⟨v, rfl, r2⟩; have R2 := hid r2; clear r2))
  go_ret
  exact ⟨_, rfl, R2.out⟩
theorem memo_any (O : Ow w ga ma ta ba sa) (R : Value → World → Prop) (H : ∀ w1, Touch [] w w1 → Calls Tryz.prog 70 #[.pointer ma] w1 fun e w2 => ∃ v, e = .returned v ∧ R v w2) : Calls Tryz.prog 34 #[.pointer ga] w fun e w2 => ∃ v, e = .returned v ∧ R v w2 := by
  have HO := hid O.o
  have HI := hid H
  clear O H
  go_enter Tryz.func34, Tryz.ntmps34
  go_wp2_with (first
    | (go_at_call 50; refine (HO.out _ (Touch.refl _ _)).mono ?_; rintro e w1 ⟨rfl, t1⟩; have T1 := hid t1; clear t1; obtain ⟨p0, p1, p2, p3⟩ := fldP w1 ma ta ba sa)
    | (go_at_call 70; refine (HI.out _ T1.out).mono ?_; rintro e w2 ⟨v, rfl, r2⟩; have R2 := hid r2; clear r2))
  go_ret
  exact ⟨_, rfl, R2.out⟩
theorem next_any (O : Ow w ga ma ta ba sa) (R : Int → Bool → World → Prop) (H : ∀ w1, Touch [] w w1 → Calls Tryz.prog 60 #[.pointer ba] w1 fun e w2 => ∃ a b, e = .returned (.tuple #[.int .i64 a, .bool b]) ∧ R a b w2) : Calls Tryz.prog 21 #[.pointer ga] w fun e w2 => ∃ a b, e = .returned (.tuple #[.int .i64 a, .bool b]) ∧ R a b w2 := by
  have HO := hid O.o
  have HI := hid H
  clear O H
  go_enter Tryz.func21, Tryz.ntmps21
  go_wp2_with (first
    | (go_at_call 50; refine (HO.out _ (Touch.refl _ _)).mono ?_; rintro e w1 ⟨rfl, t1⟩; have T1 := hid t1; clear t1; obtain ⟨p0, p1, p2, p3⟩ := fldP w1 ma ta ba sa)
    | (go_at_call 60; refine (HI.out _ T1.out).mono ?_; rintro e w2 ⟨a, b, rfl, r2⟩; have R2 := hid r2; clear r2))
  exact bodyPost_ret (v := .tuple #[.int .i64 a, .bool b]) (by simp [results, Tryz.results21, go_sem]) rfl ⟨_, _, rfl, R2.out⟩
set_option maxHeartbeats 2000000 in
theorem run_any (O : Ow w ga ma ta ba sa) (n : Int) (R : Ta.Rn) (B : Bool) (H : ∀ w1, Touch [] w w1 → Calls Tryz.prog 44 #[.pointer ta, .int .i64 n] w1 fun e w2 => e = .returned (.tuple #[Ta.rv R, .bool B]) ∧ Touch [] w1 w2) : Calls Tryz.prog 23 #[.pointer ga, .int .i64 n] w fun e w2 => e = .returned (.tuple #[Ta.rv R, .bool B]) ∧ Touch [] w w2 := by
  obtain ⟨V, hV⟩ : ∃ V, V = w.alloc (.cells #[.int .i64 0, .int .u16 0, .string ⟨#[]⟩, .int .i64 0, .bool false] 53) := ⟨_, rfl⟩
  have tv : Touch [] w V := by rw [hV]; exact (Touch.refl _ _).alloc _
  have hb : V.heap[w.heap.size]? = some (.cells #[.int .i64 0, .int .u16 0, .string ⟨#[]⟩, .int .i64 0, .bool false] 53 (0, 0)) := by rw [hV]; exact heap_alloc_new w _
  have HO := hid ((O.to tv).o V (Touch.refl _ _))
  have HI : Hid (∀ w1, Touch [] V w1 → Calls Tryz.prog 44 #[.pointer ta, .int .i64 n] w1 fun e w2 => e = .returned (.tuple #[Ta.rv R, .bool B]) ∧ Touch [] V w2) := hid (fun w1 T => (H w1 (tv.trans' T)).mono (fun e w2 hh => ⟨hh.1, T.trans' hh.2⟩))
  have HB : Hid (∀ w2, Touch [] V w2 → w2.heap[w.heap.size]? = some (.cells #[.int .i64 0, .int .u16 0, .string ⟨#[]⟩, .int .i64 0, .bool false] 53 (0, 0))) := hid (fun w2 T => T.keep hb (by simp))
  have HF : Hid (∀ w2 w3, Touch [] V w2 → Touch [w.heap.size] w2 w3 → Touch [] w w3) := hid (fun w2 w3 T T' => (tv.trans' T).trans T' (fun i hi => Or.inr (by simp only [List.mem_singleton] at hi; omega)))
  clear O H tv hb
  unfold Ta.rv at *
  go_enter Tryz.func23, Tryz.ntmps23
  go_upto_region 1 with fail
  rw [← hV]
  clear hV
  go_wp2_with (first
    | (go_at_call 50; refine HO.out.mono ?_; rintro e w1 ⟨rfl, t1⟩; have T1 := hid t1; clear t1; obtain ⟨p0, p1, p2, p3⟩ := fldP w1 ma ta ba sa)
    | (go_at_call 44; refine (HI.out _ T1.out).mono ?_; rintro e w2 ⟨rfl, t2⟩; have hbj := HB.out _ t2; have T2 := hid t2; clear t2; have d0 := cell_at (j := 0) hbj rfl; have d1 := cell_at (j := 1) hbj rfl; have d2 := cell_at (j := 2) hbj rfl; have d3 := cell_at (j := 3) hbj rfl; have d4 := cell_at (j := 4) hbj rfl; have df := froz_at hbj; clear hbj))
  exact bodyPost_ret (v := .tuple #[.agg #[.int .i64 R.run, .int .u16 R.sp, .string R.nm, .int .i64 R.gen, .bool R.rf], .bool B]) (by simp [results, Tryz.results23, go_sem, d0, d1, d2, d3, d4]) rfl ⟨rfl, HF.out _ _ T2.out ((((((Touch.refl _ _).setCell (Or.inl (by simp)) _).setCell (Or.inl (by simp)) _).setCell (Or.inl (by simp)) _).setCell (Or.inl (by simp)) _).setCell (Or.inl (by simp)) _)⟩
set_option maxHeartbeats 2000000 in
theorem conf_any (O : Ow w ga ma ta ba sa) (c : Me.Cf) (H : ∀ w1, Touch [] w w1 → Calls Tryz.prog 69 #[.pointer ma] w1 fun e w2 => e = .returned (Me.cv c) ∧ Touch [] w1 w2) : Calls Tryz.prog 31 #[.pointer ga] w fun e w2 => e = .returned (Me.cv c) ∧ Touch [] w w2 := by
  obtain ⟨V, hV⟩ : ∃ V, V = w.alloc (.cells #[.int .i64 0, .int .i64 0, .int .i64 0, .int .i64 0, .int .i64 0, .int .i64 0, .int .i64 0] 23) := ⟨_, rfl⟩
  have tv : Touch [] w V := by rw [hV]; exact (Touch.refl _ _).alloc _
  have hb : V.heap[w.heap.size]? = some (.cells #[.int .i64 0, .int .i64 0, .int .i64 0, .int .i64 0, .int .i64 0, .int .i64 0, .int .i64 0] 23 (0, 0)) := by rw [hV]; exact heap_alloc_new w _
  have HO := hid ((O.to tv).o V (Touch.refl _ _))
  have HI : Hid (∀ w1, Touch [] V w1 → Calls Tryz.prog 69 #[.pointer ma] w1 fun e w2 => e = .returned (Me.cv c) ∧ Touch [] V w2) := hid (fun w1 T => (H w1 (tv.trans' T)).mono (fun e w2 hh => ⟨hh.1, T.trans' hh.2⟩))
  have HB : Hid (∀ w2, Touch [] V w2 → w2.heap[w.heap.size]? = some (.cells #[.int .i64 0, .int .i64 0, .int .i64 0, .int .i64 0, .int .i64 0, .int .i64 0, .int .i64 0] 23 (0, 0))) := hid (fun w2 T => T.keep hb (by simp))
  have HF : Hid (∀ w2 w3, Touch [] V w2 → Touch [w.heap.size] w2 w3 → Touch [] w w3) := hid (fun w2 w3 T T' => (tv.trans' T).trans T' (fun i hi => Or.inr (by simp only [List.mem_singleton] at hi; omega)))
  clear O H tv hb
  unfold Me.cv at *
  go_enter Tryz.func31, Tryz.ntmps31
  go_upto_region 1 with fail
  rw [← hV]
  clear hV
  go_wp2_with (first
    | (go_at_call 50; refine HO.out.mono ?_; rintro e w1 ⟨rfl, t1⟩; have T1 := hid t1; clear t1; obtain ⟨p0, p1, p2, p3⟩ := fldP w1 ma ta ba sa)
    | (go_at_call 69; refine (HI.out _ T1.out).mono ?_; rintro e w2 ⟨rfl, t2⟩; have hbj := HB.out _ t2; have T2 := hid t2; clear t2; have d0 := cell_at (j := 0) hbj rfl; have d1 := cell_at (j := 1) hbj rfl; have d2 := cell_at (j := 2) hbj rfl; have d3 := cell_at (j := 3) hbj rfl; have d4 := cell_at (j := 4) hbj rfl; have d5 := cell_at (j := 5) hbj rfl; have d6 := cell_at (j := 6) hbj rfl; have df := froz_at hbj; clear hbj))
  exact bodyPost_ret (v := .agg #[.int .i64 c.t, .int .i64 c.n, .int .i64 c.s, .int .i64 c.e, .int .i64 c.f, .int .i64 c.b, .int .i64 c.d]) (by simp [results, Tryz.results31, go_sem, d0, d1, d2, d3, d4, d5, d6]) rfl ⟨rfl, HF.out _ _ T2.out ((((((((Touch.refl _ _).setCell (Or.inl (by simp)) _).setCell (Or.inl (by simp)) _).setCell (Or.inl (by simp)) _).setCell (Or.inl (by simp)) _).setCell (Or.inl (by simp)) _).setCell (Or.inl (by simp)) _).setCell (Or.inl (by simp)) _)⟩
set_option maxHeartbeats 4000000 in
theorem cur_any (O : Ow w ga ma ta ba sa) (k : K) (n : Int) (B : Bool) (H : ∀ w1, Touch [] w w1 → Calls Tryz.prog 61 #[.pointer ta, kv k] w1 fun e w2 => e = .returned (.tuple #[.int .i64 n, .bool B]) ∧ Touch [] w1 w2) : Calls Tryz.prog 22 #[.pointer ga, kv k] w fun e w2 => e = .returned (.tuple #[.int .i64 n, .bool B]) ∧ Touch [] w w2 := by
  obtain ⟨V, hV⟩ : ∃ V, V = w.alloc (Ta.bxK k) := ⟨_, rfl⟩
  have tv : Touch [] w V := by rw [hV]; exact (Touch.refl _ _).alloc _
  have hb : V.heap[w.heap.size]? = some (.cells #[.int .u16 k.1, .string k.2] 38 (0, 0)) := by rw [hV]; exact heap_alloc_new w _
  have HO := hid ((O.to tv).o V.drew ((Touch.refl _ _).drew))
  have HI : Hid (∀ w1, Touch [] V w1 → Calls Tryz.prog 61 #[.pointer ta, kv k] w1 fun e w2 => e = .returned (.tuple #[.int .i64 n, .bool B]) ∧ Touch [] V w2) := hid (fun w1 T => (H w1 (tv.trans' T)).mono (fun e w2 hh => ⟨hh.1, T.trans' hh.2⟩))
  have HK : Hid (∀ w2, Touch [] V w2 → w2.cell? ⟨w.heap.size, 0, none⟩ = some (.int .u16 k.1) ∧ w2.cell? ⟨w.heap.size, 1, none⟩ = some (.string k.2)) := hid (fun w2 T => ⟨cell_at (T.keep hb (by simp)) rfl, cell_at (T.keep hb (by simp)) rfl⟩)
  have HF : Hid (∀ w2 w3, Touch [] V w2 → Touch [w.heap.size + 1] w2 w3 → Touch [] w w3) := hid (fun w2 w3 T T' => (tv.trans' T).trans T' (fun i hi => Or.inr (by simp only [List.mem_singleton] at hi; omega)))
  have HK2 : Hid (∀ w2 w3, Touch [] V w2 → Touch [w.heap.size + 1] w2 w3 → w3.cell? ⟨w.heap.size, 0, none⟩ = some (.int .u16 k.1) ∧ w3.cell? ⟨w.heap.size, 1, none⟩ = some (.string k.2)) := hid (fun w2 w3 T T' => ⟨cell_at (T'.keep (T.keep hb (by simp)) (by simp)) rfl, cell_at (T'.keep (T.keep hb (by simp)) (by simp)) rfl⟩)
  have HTV := hid tv
  have s0 := HK.out V.drew ((Touch.refl _ _).drew)
  have K0 : ∀ w' : World, (w'.cell? ⟨w.heap.size, 0, none⟩ = some (.int .u16 k.1) ∧ w'.cell? ⟨w.heap.size, 1, none⟩ = some (.string k.2)) → w'.cell? ⟨w.heap.size, 0, none⟩ = some (.int .u16 k.1) := fun _ h => h.1
  have K1 : ∀ w' : World, (w'.cell? ⟨w.heap.size, 0, none⟩ = some (.int .u16 k.1) ∧ w'.cell? ⟨w.heap.size, 1, none⟩ = some (.string k.2)) → w'.cell? ⟨w.heap.size, 1, none⟩ = some (.string k.2) := fun _ h => h.2
  clear O H tv hb
  unfold Ta.bxK at hV
  unfold kv  at *
  go_enter Tryz.func22, Tryz.ntmps22
  go_upto_region 1 with fail
  rw [← hV]
  clear hV
  refine wp_region_H (S := fun w' : World => w'.cell? ⟨w.heap.size, 0, none⟩ = some (.int .u16 k.1) ∧ w'.cell? ⟨w.heap.size, 1, none⟩ = some (.string k.2)) (by kernel_rfl) ?_
  refine wpH_take (i := 0) (v := (.pointer ga)) (some 6) rfl rfl (by kernel_rfl) (by kernel_rfl) (by kernel_rfl) (fun _ _ _ h => h) (Or.inl ⟨by rfl, fun w' hS => (by go_simp)⟩) s0 ?_
  try simp only [Go.Act.put, List.setIfInBounds_toArray, List.set_cons_zero, List.set_cons_succ]
  refine wpH_take (i := 3) (v := (.agg #[.int .u16 k.1, .string k.2])) (some 9) rfl rfl (by kernel_rfl) (by kernel_rfl) (by kernel_rfl) (fun _ _ _ h => h) (Or.inl ⟨by rfl, fun w' hS => (by have z0 := K0 _ hS; have z1 := K1 _ hS; go_simp)⟩) s0 ?_
  try simp only [Go.Act.put, List.setIfInBounds_toArray, List.set_cons_zero, List.set_cons_succ]
  refine wpH_call (i := 1) (o := { dst := some 7, op := Op.call { callee := Callee.value (Operand.func 50), args := #[Operand.tmp 6], argTypes := #[25] }, type := 117, pos := _, after := #[{ on := 0, ground := Ground.data }], guard := none }) (by kernel_rfl) rfl (fun K' hK => ?_)
  rw [if_pos (by rfl)]
  go_simp
  refine HO.out.mono ?_
  rintro e w1 ⟨rfl, t1⟩
  have T1 : Hid (Touch [] V w1) := hid (((Touch.refl [] V).drew).trans' t1)
  have s1 := HK.out _ T1.out
  clear t1
  refine hK.out _ _ s1 ?_
  clear hK
  try simp only [Go.Act.put, List.setIfInBounds_toArray, List.set_cons_zero, List.set_cons_succ]
  refine wpH_take (i := 2) (v := (.pointer ta)) (some 8) rfl rfl (by kernel_rfl) (by kernel_rfl) (by kernel_rfl) (fun _ _ _ h => h) (Or.inl ⟨by rfl, fun w' hS => (by obtain ⟨z0, z1, z2, z3⟩ := fldP w' ma ta ba sa; go_simp)⟩) s1 ?_
  try simp only [Go.Act.put, List.setIfInBounds_toArray, List.set_cons_zero, List.set_cons_succ]
  refine wpH_call (i := 4) (o := { dst := some 10, op := Op.call { callee := Callee.value (Operand.func 61), args := #[Operand.tmp 8, Operand.tmp 9], argTypes := #[113, 38] }, type := 81, pos := _, after := #[{ on := 2, ground := Ground.data }, { on := 3, ground := Ground.data }, { on := 1, ground := Ground.chain }], guard := none }) (by kernel_rfl) rfl (fun K' hK => ?_)
  rw [if_pos (by rfl)]
  go_simp
  refine (HI.out _ T1.out).mono ?_
  rintro e w2 ⟨rfl, t2⟩
  have s2 := HK.out _ t2
  have T2 := hid t2
  clear t2
  refine hK.out _ _ s2 ?_
  clear hK
  try simp only [Go.Act.put, List.setIfInBounds_toArray, List.set_cons_zero, List.set_cons_succ]
  refine wpH_take (i := 5) (v := (.int .i64 n)) (some 11) rfl rfl (by kernel_rfl) (by kernel_rfl) (by kernel_rfl) (fun _ _ _ h => h) (Or.inl ⟨by rfl, fun w' hS => (by go_simp)⟩) s2 ?_
  try simp only [Go.Act.put, List.setIfInBounds_toArray, List.set_cons_zero, List.set_cons_succ]
  refine wpH_take (i := 6) (v := (.bool B)) (some 12) rfl rfl (by kernel_rfl) (by kernel_rfl) (by kernel_rfl) (fun _ _ _ h => h) (Or.inl ⟨by rfl, fun w' hS => (by go_simp)⟩) s2 ?_
  try simp only [Go.Act.put, List.setIfInBounds_toArray, List.set_cons_zero, List.set_cons_succ]
  refine wpH_take (i := 7) (v := (.int .i64 n)) (some 4) rfl rfl (by kernel_rfl) (by kernel_rfl) (by kernel_rfl) (fun _ _ _ h => h) (Or.inl ⟨by rfl, fun w' hS => (by go_simp)⟩) s2 ?_
  try simp only [Go.Act.put, List.setIfInBounds_toArray, List.set_cons_zero, List.set_cons_succ]
  refine wpH_take (i := 8) (v := (.bool B)) (some 5) rfl rfl (by kernel_rfl) (by kernel_rfl) (by kernel_rfl) (fun _ _ _ h => h) (Or.inl ⟨by rfl, fun w' hS => (by go_simp)⟩) s2 ?_
  try simp only [Go.Act.put, List.setIfInBounds_toArray, List.set_cons_zero, List.set_cons_succ]
  refine wpAnyH_done (by kernel_rfl) ?_ _
  go_wp2
  exact bodyPost_ret (v := .tuple #[(.int .i64 n), (.bool B)]) (by simp [results, Tryz.results22, go_sem]) rfl ⟨rfl, HTV.out.trans' T2.out⟩
set_option maxHeartbeats 4000000 in
theorem gen_any (O : Ow w ga ma ta ba sa) (k : K) (n : Int) (H : ∀ w1, Touch [] w w1 → Calls Tryz.prog 64 #[.pointer ta, kv k] w1 fun e w2 => e = .returned (.int .i64 n) ∧ Touch [] w1 w2) : Calls Tryz.prog 26 #[.pointer ga, kv k] w fun e w2 => e = .returned (.int .i64 n) ∧ Touch [] w w2 := by
  obtain ⟨V, hV⟩ : ∃ V, V = w.alloc (Ta.bxK k) := ⟨_, rfl⟩
  have tv : Touch [] w V := by rw [hV]; exact (Touch.refl _ _).alloc _
  have hb : V.heap[w.heap.size]? = some (.cells #[.int .u16 k.1, .string k.2] 38 (0, 0)) := by rw [hV]; exact heap_alloc_new w _
  have HO := hid ((O.to tv).o V.drew ((Touch.refl _ _).drew))
  have HI : Hid (∀ w1, Touch [] V w1 → Calls Tryz.prog 64 #[.pointer ta, kv k] w1 fun e w2 => e = .returned (.int .i64 n) ∧ Touch [] V w2) := hid (fun w1 T => (H w1 (tv.trans' T)).mono (fun e w2 hh => ⟨hh.1, T.trans' hh.2⟩))
  have HK : Hid (∀ w2, Touch [] V w2 → w2.cell? ⟨w.heap.size, 0, none⟩ = some (.int .u16 k.1) ∧ w2.cell? ⟨w.heap.size, 1, none⟩ = some (.string k.2)) := hid (fun w2 T => ⟨cell_at (T.keep hb (by simp)) rfl, cell_at (T.keep hb (by simp)) rfl⟩)
  have HF : Hid (∀ w2 w3, Touch [] V w2 → Touch [w.heap.size + 1] w2 w3 → Touch [] w w3) := hid (fun w2 w3 T T' => (tv.trans' T).trans T' (fun i hi => Or.inr (by simp only [List.mem_singleton] at hi; omega)))
  have HK2 : Hid (∀ w2 w3, Touch [] V w2 → Touch [w.heap.size + 1] w2 w3 → w3.cell? ⟨w.heap.size, 0, none⟩ = some (.int .u16 k.1) ∧ w3.cell? ⟨w.heap.size, 1, none⟩ = some (.string k.2)) := hid (fun w2 w3 T T' => ⟨cell_at (T'.keep (T.keep hb (by simp)) (by simp)) rfl, cell_at (T'.keep (T.keep hb (by simp)) (by simp)) rfl⟩)
  have HTV := hid tv
  have s0 := HK.out V.drew ((Touch.refl _ _).drew)
  have K0 : ∀ w' : World, (w'.cell? ⟨w.heap.size, 0, none⟩ = some (.int .u16 k.1) ∧ w'.cell? ⟨w.heap.size, 1, none⟩ = some (.string k.2)) → w'.cell? ⟨w.heap.size, 0, none⟩ = some (.int .u16 k.1) := fun _ h => h.1
  have K1 : ∀ w' : World, (w'.cell? ⟨w.heap.size, 0, none⟩ = some (.int .u16 k.1) ∧ w'.cell? ⟨w.heap.size, 1, none⟩ = some (.string k.2)) → w'.cell? ⟨w.heap.size, 1, none⟩ = some (.string k.2) := fun _ h => h.2
  clear O H tv hb
  unfold Ta.bxK at hV
  unfold kv  at *
  go_enter Tryz.func26, Tryz.ntmps26
  go_upto_region 1 with fail
  rw [← hV]
  clear hV
  refine wp_region_H (S := fun w' : World => w'.cell? ⟨w.heap.size, 0, none⟩ = some (.int .u16 k.1) ∧ w'.cell? ⟨w.heap.size, 1, none⟩ = some (.string k.2)) (by kernel_rfl) ?_
  refine wpH_take (i := 0) (v := (.pointer ga)) (some 5) rfl rfl (by kernel_rfl) (by kernel_rfl) (by kernel_rfl) (fun _ _ _ h => h) (Or.inl ⟨by rfl, fun w' hS => (by go_simp)⟩) s0 ?_
  try simp only [Go.Act.put, List.setIfInBounds_toArray, List.set_cons_zero, List.set_cons_succ]
  refine wpH_take (i := 3) (v := (.agg #[.int .u16 k.1, .string k.2])) (some 8) rfl rfl (by kernel_rfl) (by kernel_rfl) (by kernel_rfl) (fun _ _ _ h => h) (Or.inl ⟨by rfl, fun w' hS => (by have z0 := K0 _ hS; have z1 := K1 _ hS; go_simp)⟩) s0 ?_
  try simp only [Go.Act.put, List.setIfInBounds_toArray, List.set_cons_zero, List.set_cons_succ]
  refine wpH_call (i := 1) (o := { dst := some 6, op := Op.call { callee := Callee.value (Operand.func 50), args := #[Operand.tmp 5], argTypes := #[25] }, type := 117, pos := _, after := #[{ on := 0, ground := Ground.data }], guard := none }) (by kernel_rfl) rfl (fun K' hK => ?_)
  rw [if_pos (by rfl)]
  go_simp
  refine HO.out.mono ?_
  rintro e w1 ⟨rfl, t1⟩
  have T1 : Hid (Touch [] V w1) := hid (((Touch.refl [] V).drew).trans' t1)
  have s1 := HK.out _ T1.out
  clear t1
  refine hK.out _ _ s1 ?_
  clear hK
  try simp only [Go.Act.put, List.setIfInBounds_toArray, List.set_cons_zero, List.set_cons_succ]
  refine wpH_take (i := 2) (v := (.pointer ta)) (some 7) rfl rfl (by kernel_rfl) (by kernel_rfl) (by kernel_rfl) (fun _ _ _ h => h) (Or.inl ⟨by rfl, fun w' hS => (by obtain ⟨z0, z1, z2, z3⟩ := fldP w' ma ta ba sa; go_simp)⟩) s1 ?_
  try simp only [Go.Act.put, List.setIfInBounds_toArray, List.set_cons_zero, List.set_cons_succ]
  refine wpH_call (i := 4) (o := { dst := some 9, op := Op.call { callee := Callee.value (Operand.func 64), args := #[Operand.tmp 7, Operand.tmp 8], argTypes := #[113, 38] }, type := 3, pos := _, after := #[{ on := 2, ground := Ground.data }, { on := 3, ground := Ground.data }, { on := 1, ground := Ground.chain }], guard := none }) (by kernel_rfl) rfl (fun K' hK => ?_)
  rw [if_pos (by rfl)]
  go_simp
  refine (HI.out _ T1.out).mono ?_
  rintro e w2 ⟨rfl, t2⟩
  have s2 := HK.out _ t2
  have T2 := hid t2
  clear t2
  refine hK.out _ _ s2 ?_
  clear hK
  try simp only [Go.Act.put, List.setIfInBounds_toArray, List.set_cons_zero, List.set_cons_succ]
  refine wpH_take (i := 5) (v := (.int .i64 n)) (some 4) rfl rfl (by kernel_rfl) (by kernel_rfl) (by kernel_rfl) (fun _ _ _ h => h) (Or.inl ⟨by rfl, fun w' hS => (by go_simp)⟩) s2 ?_
  try simp only [Go.Act.put, List.setIfInBounds_toArray, List.set_cons_zero, List.set_cons_succ]
  refine wpAnyH_done (by kernel_rfl) ?_ _
  go_wp2
  go_ret
  exact ⟨rfl, HTV.out.trans' T2.out⟩
set_option maxHeartbeats 4000000 in
theorem entry_any (O : Ow w ga ma ta ba sa) (k : K) (x : Me.En) (B : Bool) (H : ∀ w1, Touch [] w w1 → Calls Tryz.prog 62 #[.pointer ma, kv k] w1 fun e w2 => e = .returned (.tuple #[Me.nv x, .bool B]) ∧ Touch [] w1 w2) : Calls Tryz.prog 24 #[.pointer ga, kv k] w fun e w2 => e = .returned (.tuple #[Me.nv x, .bool B]) ∧ Touch [] w w2 := by
  obtain ⟨V, hV⟩ : ∃ V, V = (w.alloc (Ta.bxK k)).alloc (.cells #[.int .u16 0, .string ⟨#[]⟩, .int .i64 0, .int .i64 0, .int .i64 0, .int .i64 0, .int .i64 0] 86) := ⟨_, rfl⟩
  have tv : Touch [] w V := by rw [hV]; exact ((Touch.refl _ _).alloc _).alloc _
  have hb : V.heap[w.heap.size]? = some (.cells #[.int .u16 k.1, .string k.2] 38 (0, 0)) := by rw [hV]; exact ((Touch.refl [] _).alloc _).keep (heap_alloc_new w _) (by simp)
  have hj : V.heap[w.heap.size + 1]? = some (.cells #[.int .u16 0, .string ⟨#[]⟩, .int .i64 0, .int .i64 0, .int .i64 0, .int .i64 0, .int .i64 0] 86 (0, 0)) := by
    rw [hV]
    have := heap_alloc_new (w.alloc (Ta.bxK k)) (.cells #[.int .u16 0, .string ⟨#[]⟩, .int .i64 0, .int .i64 0, .int .i64 0, .int .i64 0, .int .i64 0] 86)
    rwa [World.size_alloc] at this
  have HB : Hid (∀ w2, Touch [] V w2 → w2.heap[w.heap.size + 1]? = some (.cells #[.int .u16 0, .string ⟨#[]⟩, .int .i64 0, .int .i64 0, .int .i64 0, .int .i64 0, .int .i64 0] 86 (0, 0))) := hid (fun w2 T => T.keep hj (by simp))
  have HO := hid ((O.to tv).o V.drew ((Touch.refl _ _).drew))
  have HI : Hid (∀ w1, Touch [] V w1 → Calls Tryz.prog 62 #[.pointer ma, kv k] w1 fun e w2 => e = .returned (.tuple #[Me.nv x, .bool B]) ∧ Touch [] V w2) := hid (fun w1 T => (H w1 (tv.trans' T)).mono (fun e w2 hh => ⟨hh.1, T.trans' hh.2⟩))
  have HK : Hid (∀ w2, Touch [] V w2 → w2.cell? ⟨w.heap.size, 0, none⟩ = some (.int .u16 k.1) ∧ w2.cell? ⟨w.heap.size, 1, none⟩ = some (.string k.2)) := hid (fun w2 T => ⟨cell_at (T.keep hb (by simp)) rfl, cell_at (T.keep hb (by simp)) rfl⟩)
  have HF : Hid (∀ w2 w3, Touch [] V w2 → Touch [w.heap.size + 1] w2 w3 → Touch [] w w3) := hid (fun w2 w3 T T' => (tv.trans' T).trans T' (fun i hi => Or.inr (by simp only [List.mem_singleton] at hi; omega)))
  have HK2 : Hid (∀ w2 w3, Touch [] V w2 → Touch [w.heap.size + 1] w2 w3 → w3.cell? ⟨w.heap.size, 0, none⟩ = some (.int .u16 k.1) ∧ w3.cell? ⟨w.heap.size, 1, none⟩ = some (.string k.2)) := hid (fun w2 w3 T T' => ⟨cell_at (T'.keep (T.keep hb (by simp)) (by simp)) rfl, cell_at (T'.keep (T.keep hb (by simp)) (by simp)) rfl⟩)
  have HTV := hid tv
  have s0 := HK.out V.drew ((Touch.refl _ _).drew)
  have K0 : ∀ w' : World, (w'.cell? ⟨w.heap.size, 0, none⟩ = some (.int .u16 k.1) ∧ w'.cell? ⟨w.heap.size, 1, none⟩ = some (.string k.2)) → w'.cell? ⟨w.heap.size, 0, none⟩ = some (.int .u16 k.1) := fun _ h => h.1
  have K1 : ∀ w' : World, (w'.cell? ⟨w.heap.size, 0, none⟩ = some (.int .u16 k.1) ∧ w'.cell? ⟨w.heap.size, 1, none⟩ = some (.string k.2)) → w'.cell? ⟨w.heap.size, 1, none⟩ = some (.string k.2) := fun _ h => h.2
  clear O H tv hb hj
  unfold Ta.bxK at hV
  unfold kv Me.nv at *
  go_enter Tryz.func24, Tryz.ntmps24
  go_upto_region 1 with fail
  rw [← hV]
  clear hV
  refine wp_region_H (S := fun w' : World => w'.cell? ⟨w.heap.size, 0, none⟩ = some (.int .u16 k.1) ∧ w'.cell? ⟨w.heap.size, 1, none⟩ = some (.string k.2)) (by kernel_rfl) ?_
  refine wpH_take (i := 0) (v := (.pointer ga)) (some 6) rfl rfl (by kernel_rfl) (by kernel_rfl) (by kernel_rfl) (fun _ _ _ h => h) (Or.inl ⟨by rfl, fun w' hS => (by go_simp)⟩) s0 ?_
  try simp only [Go.Act.put, List.setIfInBounds_toArray, List.set_cons_zero, List.set_cons_succ]
  refine wpH_take (i := 3) (v := (.agg #[.int .u16 k.1, .string k.2])) (some 9) rfl rfl (by kernel_rfl) (by kernel_rfl) (by kernel_rfl) (fun _ _ _ h => h) (Or.inl ⟨by rfl, fun w' hS => (by have z0 := K0 _ hS; have z1 := K1 _ hS; go_simp)⟩) s0 ?_
  try simp only [Go.Act.put, List.setIfInBounds_toArray, List.set_cons_zero, List.set_cons_succ]
  refine wpH_call (i := 1) (o := { dst := some 7, op := Op.call { callee := Callee.value (Operand.func 50), args := #[Operand.tmp 6], argTypes := #[25] }, type := 117, pos := _, after := #[{ on := 0, ground := Ground.data }], guard := none }) (by kernel_rfl) rfl (fun K' hK => ?_)
  rw [if_pos (by rfl)]
  go_simp
  refine HO.out.mono ?_
  rintro e w1 ⟨rfl, t1⟩
  have T1 : Hid (Touch [] V w1) := hid (((Touch.refl [] V).drew).trans' t1)
  have s1 := HK.out _ T1.out
  clear t1
  refine hK.out _ _ s1 ?_
  clear hK
  try simp only [Go.Act.put, List.setIfInBounds_toArray, List.set_cons_zero, List.set_cons_succ]
  refine wpH_take (i := 2) (v := (.pointer ma)) (some 8) rfl rfl (by kernel_rfl) (by kernel_rfl) (by kernel_rfl) (fun _ _ _ h => h) (Or.inl ⟨by rfl, fun w' hS => (by obtain ⟨z0, z1, z2, z3⟩ := fldP w' ma ta ba sa; go_simp)⟩) s1 ?_
  try simp only [Go.Act.put, List.setIfInBounds_toArray, List.set_cons_zero, List.set_cons_succ]
  refine wpH_call (i := 4) (o := { dst := some 10, op := Op.call { callee := Callee.value (Operand.func 62), args := #[Operand.tmp 8, Operand.tmp 9], argTypes := #[99, 38] }, type := 87, pos := _, after := #[{ on := 2, ground := Ground.data }, { on := 3, ground := Ground.data }, { on := 1, ground := Ground.chain }], guard := none }) (by kernel_rfl) rfl (fun K' hK => ?_)
  rw [if_pos (by rfl)]
  go_simp
  refine (HI.out _ T1.out).mono ?_
  rintro e w2 ⟨rfl, t2⟩
  have s2 := HK.out _ t2
  have T2 := hid t2
  have hbj := HB.out _ t2
  clear t2
  refine hK.out _ _ s2 ?_
  clear hK
  try simp only [Go.Act.put, List.setIfInBounds_toArray, List.set_cons_zero, List.set_cons_succ]
  refine wpH_take (i := 5) (v := (.agg #[.int .u16 x.1.1, .string x.1.2, .int .i64 x.2.1.1, .int .i64 x.2.1.2.1, .int .i64 x.2.1.2.2.1, .int .i64 x.2.1.2.2.2, .int .i64 x.2.2])) (some 11) rfl rfl (by kernel_rfl) (by kernel_rfl) (by kernel_rfl) (fun _ _ _ h => h) (Or.inl ⟨by rfl, fun w' hS => (by go_simp)⟩) s2 ?_
  try simp only [Go.Act.put, List.setIfInBounds_toArray, List.set_cons_zero, List.set_cons_succ]
  refine wpH_take (i := 6) (v := (.bool B)) (some 12) rfl rfl (by kernel_rfl) (by kernel_rfl) (by kernel_rfl) (fun _ _ _ h => h) (Or.inl ⟨by rfl, fun w' hS => (by go_simp)⟩) s2 ?_
  try simp only [Go.Act.put, List.setIfInBounds_toArray, List.set_cons_zero, List.set_cons_succ]
  refine wpH_call (i := 7) (o := { dst := none, op := Op.store 86 (Operand.tmp 4) (Operand.tmp 11), type := 0, pos := _, after := #[{ on := 5, ground := Ground.data }, { on := 4, ground := Ground.chain }, { on := 0, ground := Ground.phase }, { on := 1, ground := Ground.phase }, { on := 2, ground := Ground.phase }, { on := 3, ground := Ground.phase }, { on := 4, ground := Ground.phase }, { on := 5, ground := Ground.phase }, { on := 6, ground := Ground.phase }], guard := none }) (by kernel_rfl) rfl (fun K' hK => ?_)
  rw [if_pos (by rfl)]
  have d0 := cell_at (j := 0) hbj rfl
  have d1 := cell_at (j := 1) hbj rfl
  have d2 := cell_at (j := 2) hbj rfl
  have d3 := cell_at (j := 3) hbj rfl
  have d4 := cell_at (j := 4) hbj rfl
  have d5 := cell_at (j := 5) hbj rfl
  have d6 := cell_at (j := 6) hbj rfl
  have df := froz_at hbj
  go_simp
  obtain ⟨W3, hW3⟩ : ∃ W3, W3 = (((((((w2.setCell ⟨w.heap.size + 1, 0, none⟩ (.int .u16 x.1.1)).setCell ⟨w.heap.size + 1, 1, none⟩ (.string x.1.2)).setCell ⟨w.heap.size + 1, 2, none⟩ (.int .i64 x.2.1.1)).setCell ⟨w.heap.size + 1, 3, none⟩ (.int .i64 x.2.1.2.1)).setCell ⟨w.heap.size + 1, 4, none⟩ (.int .i64 x.2.1.2.2.1)).setCell ⟨w.heap.size + 1, 5, none⟩ (.int .i64 x.2.1.2.2.2)).setCell ⟨w.heap.size + 1, 6, none⟩ (.int .i64 x.2.2)) := ⟨_, rfl⟩
  obtain ⟨h3, t3⟩ := st7 hbj (.int .u16 x.1.1) (.string x.1.2) (.int .i64 x.2.1.1) (.int .i64 x.2.1.2.1) (.int .i64 x.2.1.2.2.1) (.int .i64 x.2.1.2.2.2) (.int .i64 x.2.2)
  rw [← hW3] at h3 t3 ⊢
  have s3 := HK2.out _ _ T2.out t3
  have T3 := hid t3
  clear t3 hW3 hbj
  refine hK.out _ _ s3 ?_
  clear hK
  try simp only [Go.Act.put, List.setIfInBounds_toArray, List.set_cons_zero, List.set_cons_succ]
  refine wpH_take (i := 8) (v := (.bool B)) (some 5) rfl rfl (by kernel_rfl) (by kernel_rfl) (by kernel_rfl) (fun _ _ _ h => h) (Or.inl ⟨by rfl, fun w' hS => (by go_simp)⟩) s3 ?_
  try simp only [Go.Act.put, List.setIfInBounds_toArray, List.set_cons_zero, List.set_cons_succ]
  refine wpAnyH_done (by kernel_rfl) ?_ _
  have e0 := cell_at (j := 0) h3 rfl
  have e1 := cell_at (j := 1) h3 rfl
  have e2 := cell_at (j := 2) h3 rfl
  have e3 := cell_at (j := 3) h3 rfl
  have e4 := cell_at (j := 4) h3 rfl
  have e5 := cell_at (j := 5) h3 rfl
  have e6 := cell_at (j := 6) h3 rfl
  clear h3 d0 d1 d2 d3 d4 d5 d6 df
  go_wp2
  exact bodyPost_ret (v := .tuple #[(.agg #[.int .u16 x.1.1, .string x.1.2, .int .i64 x.2.1.1, .int .i64 x.2.1.2.1, .int .i64 x.2.1.2.2.1, .int .i64 x.2.1.2.2.2, .int .i64 x.2.2]), (.bool B)]) (by simp [results, Tryz.results24, go_sem, e0, e1, e2, e3, e4, e5, e6]) rfl ⟨rfl, HF.out _ _ T2.out T3.out⟩
end
end Go.Proofs.YtkfophlhpjbmgaaGreat
/- The contracts of a nil table's methods. -/
namespace Go.Proofs.YtkfophlhpjbmgaaGreat.Ta
open Go.RowKit Go.Maps Go.ChangeMaps
set_option maxRecDepth 100000
set_option linter.unusedVariables false
set_option linter.unusedSimpArgs false
section
variable (w : World)
theorem record_nilT (n : Int) : Calls Tryz.prog 91 #[.pointer none, .int .i64 n] w fun e w' => e = .returned (.pointer none) ∧ w' = w := by
  go_enter Tryz.func91, Tryz.ntmps91
  go_wp2
  go_ret
  exact ⟨rfl, rfl⟩
set_option maxHeartbeats 1000000 in
theorem current_nilT (k : K) : Calls Tryz.prog 61 #[.pointer none, kv k] w fun e w' => e = .returned (.tuple #[.int .i64 0, .bool false]) ∧ Touch [] w w' := by
  unfold kv
  go_enter Tryz.func61, Tryz.ntmps61
  go_wp2
  refine bodyPost_ret (v := .tuple #[.int .i64 0, .bool false]) (by simp [results, Tryz.results61, go_sem]) rfl ⟨rfl, ?_⟩
  repeat (first | exact Touch.refl _ _ | rfl | apply Touch.alloc | (refine Touch.setCell ?_ (Or.inr (by simp)) _))
set_option maxHeartbeats 1000000 in
theorem genn_nilT (k : K) : Calls Tryz.prog 64 #[.pointer none, kv k] w fun e w' => e = .returned (.int .i64 0) ∧ Touch [] w w' := by
  unfold kv
  go_enter Tryz.func64, Tryz.ntmps64
  go_wp2
  go_ret
  exact ⟨rfl, by repeat (first | exact Touch.refl _ _ | apply Touch.alloc)⟩
set_option maxHeartbeats 1000000 in
theorem waiters_nilT (n : Int) : Calls Tryz.prog 51 #[.pointer none, .int .i64 n] w fun e w' => e = .returned (.slice none 0 0) ∧ w' = w := by
  have HC0 := hid (fun w => record_nilT w n)
  have HC1 := hid (fun w => waiters18_nil w)
  go_enter Tryz.func51, Tryz.ntmps51
  go_wp2_with (first
    | (go_at_call 91; refine (HC0.out _).mono ?_; rintro e w2 ⟨rfl, e2⟩; rw [e2]; clear e2 w2)
    | (go_at_call 100; refine (HC1.out _).mono ?_; rintro e w2 ⟨rfl, e2⟩; rw [e2]; clear e2 w2)
    | fail)
  go_ret
  exact ⟨rfl, rfl⟩
set_option maxHeartbeats 1000000 in
theorem canc_nilT (n : Int) : Calls Tryz.prog 65 #[.pointer none, .int .i64 n] w fun e w' => e = .returned (.bool false) ∧ w' = w := by
  have HC0 := hid (fun w => record_nilT w n)
  have HC1 := hid (fun w => cancelled16_nil w)
  go_enter Tryz.func65, Tryz.ntmps65
  go_wp2_with (first
    | (go_at_call 91; refine (HC0.out _).mono ?_; rintro e w2 ⟨rfl, e2⟩; rw [e2]; clear e2 w2)
    | (go_at_call 112; refine (HC1.out _).mono ?_; rintro e w2 ⟨rfl, e2⟩; rw [e2]; clear e2 w2)
    | fail)
  go_ret
  exact ⟨rfl, rfl⟩
set_option maxHeartbeats 1000000 in
theorem prog_nilT : Calls Tryz.prog 52 #[.pointer none] w fun e w' => e = .returned (.slice none 0 0) ∧ w' = w := by
  go_enter Tryz.func52, Tryz.ntmps52
  go_wp2
  go_ret
  exact ⟨rfl, rfl⟩
set_option maxHeartbeats 1000000 in
theorem currents_nilT : Calls Tryz.prog 67 #[.pointer none] w fun e w' => e = .returned (.slice none 0 0) ∧ w' = w := by
  go_enter Tryz.func67, Tryz.ntmps67
  go_wp2
  go_ret
  exact ⟨rfl, rfl⟩
theorem run_nilT (n : Int) : Calls Tryz.prog 44 #[.pointer none, .int .i64 n] w fun e w' => e = .returned (.tuple #[.agg #[.int .i64 0, .int .u16 0, .string ⟨#[]⟩, .int .i64 0, .bool false], .bool false]) ∧ Touch [] w w' := by
  have HR := hid (fun w => record_nilT w n)
  have HC := hid (fun w => run8_nil w)
  have HK : Hid (∀ w2, Touch [] (w.alloc (.cells #[.int .i64 0, .int .u16 0, .string ⟨#[]⟩, .int .i64 0, .bool false] 53)) w2 → w2.cell? ⟨w.heap.size, 0, none⟩ = some (.int .i64 0) ∧ w2.cell? ⟨w.heap.size, 1, none⟩ = some (.int .u16 0) ∧ w2.cell? ⟨w.heap.size, 2, none⟩ = some (.string ⟨#[]⟩) ∧ w2.cell? ⟨w.heap.size, 3, none⟩ = some (.int .i64 0) ∧ w2.cell? ⟨w.heap.size, 4, none⟩ = some (.bool false) ∧ ∀ i, w2.frozen? ⟨w.heap.size, i, none⟩ = false) := fun w2 T' => box_run w w2 T'
  go_enter Tryz.func44, Tryz.ntmps44
  go_wp2_with (first | (go_at_call 91; refine (HR.out _).mono ?_; rintro e w2 ⟨rfl, rfl⟩) | (go_at_call 92; refine (HC.out _).mono ?_; rintro e w2 ⟨rfl, t2⟩; obtain ⟨q0, q1, q2, q3, q4, qf⟩ := HK.out _ t2; have T2 := hid (((Touch.refl [] w).alloc _).trans' t2); clear t2))
  refine bodyPost_ret (v := .tuple #[.agg #[.int .i64 0, .int .u16 0, .string ⟨#[]⟩, .int .i64 0, .bool false], .bool false]) (by simp [results, Tryz.results44, go_sem, q0, q1, q2, q3, q4]) rfl ⟨rfl, ?_⟩
  repeat (first | exact T2.out | (refine Touch.setCell ?_ (Or.inr (by simp)) _))
end
end Go.Proofs.YtkfophlhpjbmgaaGreat.Ta
/- The contracts of a batch's Send and Force as steps, of a nil batch's methods, and of the law's awake; no conditions but those that each states. -/
namespace Go.Proofs.YtkfophlhpjbmgaaGreat.Ba
open Go.RowKit Go.Maps Go.ChangeMaps
set_option maxRecDepth 100000
set_option linter.unusedVariables false
set_option linter.unusedSimpArgs false
section
variable {w : World} {b N : Nat} {sl : Value} {d n x : Int} {S : Bs}
end
section
variable (w : World)
theorem due_nil : Calls Tryz.prog 60 #[.pointer none] w fun e w' => e = .returned (.tuple #[.int .i64 0, .bool false]) ∧ w' = w := by
  go_enter Tryz.func60, Tryz.ntmps60
  go_wp2
  exact bodyPost_ret (v := .tuple #[.int .i64 0, .bool false]) (by simp [results, Tryz.results60, go_sem]) rfl ⟨rfl, rfl⟩
theorem runs_nil : Calls Tryz.prog 63 #[.pointer none] w fun e w' => e = .returned (.slice none 0 0) ∧ w' = w := by
  go_enter Tryz.func63, Tryz.ntmps63
  go_wp2
  go_ret
  exact ⟨rfl, rfl⟩
end
end Go.Proofs.YtkfophlhpjbmgaaGreat.Ba
/- A nil group's methods; no conditions. -/
namespace Go.Proofs.YtkfophlhpjbmgaaGreat
open Go.RowKit Go.Maps Go.ChangeMaps
set_option maxRecDepth 100000
set_option linter.unusedVariables false
set_option linter.unusedSimpArgs false
theorem may_nil (w : World) (n : Int) (k : K) (x t : Int) : Calls Tryz.prog 40 #[.pointer none, .int .i64 n, kv k, .int .i64 x, .int .i64 t] w fun e w' => e = .returned (.int .i64 100) ∧ Touch [] w w' := by
  have HC := hid (fun w => check_nil w n)
  unfold kv
  go_enter Tryz.func40, Tryz.ntmps40
  go_wp2_with (go_at_call 43; refine (HC.out _).mono ?_; rintro e w2 ⟨rfl, rfl⟩)
  go_ret
  exact ⟨rfl, (Touch.refl _ _).alloc _⟩
set_option maxHeartbeats 2000000 in
theorem leave_nil (w : World) (n x : Int) : Calls Tryz.prog 17 #[.pointer none, .int .i64 n, .int .i64 x] w fun e w' => e = .returned (.tuple #[.agg #[.int .i64 0, .int .i64 0, .bool false, .bool false, .int .i64 0, .int .i64 0, .int .i64 0, .int .i64 0], .int .i64 100]) ∧ Touch [] w w' := by
  have HC := hid (fun w => check_nil w n)
  skip
  go_enter Tryz.func17, Tryz.ntmps17
  go_wp2_with (go_at_call 43; refine (HC.out _).mono ?_; rintro e w2 ⟨rfl, rfl⟩)
  refine bodyPost_ret (v := .tuple #[.agg #[.int .i64 0, .int .i64 0, .bool false, .bool false, .int .i64 0, .int .i64 0, .int .i64 0, .int .i64 0], .int .i64 100]) (by simp [results, Tryz.results17, go_sem]) rfl ⟨rfl, ?_⟩
  repeat (first | apply Touch.alloc | (refine Touch.setCell ?_ (Or.inr (by simp)) _) | exact Touch.refl _ _)
set_option maxHeartbeats 2000000 in
theorem cancel_nil (w : World) (n x : Int) : Calls Tryz.prog 18 #[.pointer none, .int .i64 n, .int .i64 x] w fun e w' => e = .returned (.tuple #[.slice none 0 0, .int .i64 100]) ∧ Touch [] w w' := by
  have HC := hid (fun w => check_nil w n)
  skip
  go_enter Tryz.func18, Tryz.ntmps18
  go_wp2_with (go_at_call 43; refine (HC.out _).mono ?_; rintro e w2 ⟨rfl, rfl⟩)
  refine bodyPost_ret (v := .tuple #[.slice none 0 0, .int .i64 100]) (by simp [results, Tryz.results18, go_sem]) rfl ⟨rfl, ?_⟩
  repeat (first | apply Touch.alloc | (refine Touch.setCell ?_ (Or.inr (by simp)) _) | exact Touch.refl _ _)
set_option maxHeartbeats 2000000 in
theorem forget_nil (w : World) (n : Int) (k : K) : Calls Tryz.prog 19 #[.pointer none, .int .i64 n, kv k] w fun e w' => e = .returned (.tuple #[.agg #[.bool false, .int .i64 0, .int .i64 0, .bool false], .int .i64 100]) ∧ Touch [] w w' := by
  have HC := hid (fun w => check_nil w n)
  unfold kv
  go_enter Tryz.func19, Tryz.ntmps19
  go_wp2_with (go_at_call 43; refine (HC.out _).mono ?_; rintro e w2 ⟨rfl, rfl⟩)
  refine bodyPost_ret (v := .tuple #[.agg #[.bool false, .int .i64 0, .int .i64 0, .bool false], .int .i64 100]) (by simp [results, Tryz.results19, go_sem]) rfl ⟨rfl, ?_⟩
  repeat (first | apply Touch.alloc | (refine Touch.setCell ?_ (Or.inr (by simp)) _) | exact Touch.refl _ _)
set_option maxHeartbeats 2000000 in
theorem end_nil (w : World) (n r : Int) (x : O) : Calls Tryz.prog 13 #[.pointer none, .int .i64 n, .int .i64 r, Me.ov x] w fun e w' => e = .returned (.tuple #[.agg #[.int .i64 0, .int .u16 0, .string ⟨#[]⟩, .int .i64 0, .bool false, .slice none 0 0, .bool false, .bool false, .slice none 0 0, .slice none 0 0], .int .i64 100]) ∧ Touch [] w w' := by
  have HC := hid (fun w => check_nil w n)
  unfold Me.ov
  go_enter Tryz.func13, Tryz.ntmps13
  go_wp2_with (go_at_call 43; refine (HC.out _).mono ?_; rintro e w2 ⟨rfl, rfl⟩)
  refine bodyPost_ret (v := .tuple #[.agg #[.int .i64 0, .int .u16 0, .string ⟨#[]⟩, .int .i64 0, .bool false, .slice none 0 0, .bool false, .bool false, .slice none 0 0, .slice none 0 0], .int .i64 100]) (by simp [results, Tryz.results13, go_sem]) rfl ⟨rfl, ?_⟩
  repeat (first | apply Touch.alloc | (refine Touch.setCell ?_ (Or.inr (by simp)) _) | exact Touch.refl _ _)
set_option maxHeartbeats 2000000 in
theorem send_nil (w : World) (n : Int) : Calls Tryz.prog 20 #[.pointer none, .int .i64 n] w fun e w' => e = .returned (.tuple #[.slice none 0 0, .int .i64 100]) ∧ Touch [] w w' := by
  have HC := hid (fun w => check_nil w n)
  skip
  go_enter Tryz.func20, Tryz.ntmps20
  go_wp2_with (go_at_call 43; refine (HC.out _).mono ?_; rintro e w2 ⟨rfl, rfl⟩)
  refine bodyPost_ret (v := .tuple #[.slice none 0 0, .int .i64 100]) (by simp [results, Tryz.results20, go_sem]) rfl ⟨rfl, ?_⟩
  repeat (first | apply Touch.alloc | (refine Touch.setCell ?_ (Or.inr (by simp)) _) | exact Touch.refl _ _)
set_option maxHeartbeats 2000000 in
theorem join_nil (w : World) (n : Int) (k : K) (x t : Int) : Calls Tryz.prog 12 #[.pointer none, .int .i64 n, kv k, .int .i64 x, .int .i64 t] w fun e w' => e = .returned (.tuple #[.agg #[.int .i64 0, .int .i64 0, .bool false, .int .i64 0, .int .i64 0, .int .i64 0, .int .i64 0, .slice none 0 0], .int .i64 100]) ∧ Touch [] w w' := by
  obtain ⟨V, hV⟩ : ∃ V, V = (w.alloc (Ta.bxK k)).alloc (.cells jz 49) := ⟨_, rfl⟩
  obtain ⟨tv, hb⟩ := Bkj.new w V k hV
  have HC : Hid (Calls Tryz.prog 40 #[.pointer none, .int .i64 n, kv k, .int .i64 x, .int .i64 t] V fun e w' => e = .returned (.int .i64 100) ∧ Touch [] V w') := hid (may_nil V n k x t)
  have k0 := cell_at (j := 0) hb.k rfl
  have k1 := cell_at (j := 1) hb.k rfl
  have HB : Hid (∀ w2, Touch [] V w2 → w2.heap[w.heap.size + 1]? = some (.cells jz 49 (0, 0))) := hid (fun w2 T => T.keep hb.j (by simp))
  have HF : Hid (∀ w2 w3, Touch [] V w2 → Touch [w.heap.size + 1] w2 w3 → Touch [] w w3) := hid (fun w2 w3 T T' => (tv.trans' T).trans T' (fun i hi => Or.inr (by simp only [List.mem_singleton] at hi; omega)))
  clear tv hb
  unfold Ta.bxK jz at hV
  unfold jz at HB
  unfold kv at *
  go_enter Tryz.func12, Tryz.ntmps12
  go_upto_region 1 with fail
  rw [← hV]
  clear hV
  go_wp2_with (go_at_call 40; refine HC.out.mono ?_; rintro e w2 ⟨rfl, t2⟩; have hbj := HB.out _ t2; have T2 := hid t2; clear t2; have d0 := cell_at (j := 0) hbj rfl; have d1 := cell_at (j := 1) hbj rfl; have d2 := cell_at (j := 2) hbj rfl; have d3 := cell_at (j := 3) hbj rfl; have d4 := cell_at (j := 4) hbj rfl; have d5 := cell_at (j := 5) hbj rfl; have d6 := cell_at (j := 6) hbj rfl; have d7 := cell_at (j := 7) hbj rfl; have df := froz_at hbj; clear hbj)
  exact bodyPost_ret (v := .tuple #[.agg #[.int .i64 0, .int .i64 0, .bool false, .int .i64 0, .int .i64 0, .int .i64 0, .int .i64 0, .slice none 0 0], .int .i64 100]) (by simp [results, Tryz.results12, go_sem, d0, d1, d2, d3, d4, d5, d6, d7]) rfl ⟨rfl, HF.out _ _ T2.out (((((((((Touch.refl _ _).setCell (Or.inl (by simp)) _).setCell (Or.inl (by simp)) _).setCell (Or.inl (by simp)) _).setCell (Or.inl (by simp)) _).setCell (Or.inl (by simp)) _).setCell (Or.inl (by simp)) _).setCell (Or.inl (by simp)) _).setCell (Or.inl (by simp)) _)⟩
theorem clone_nil (w : World) : Calls Tryz.prog 33 #[.pointer none] w fun e w' => e = .returned (.pointer none) ∧ Touch [] w w' := by
  go_enter Tryz.func33, Tryz.ntmps33
  go_wp2
  go_ret
  exact ⟨rfl, Touch.refl _ _⟩
theorem now_nil (w : World) : Calls Tryz.prog 32 #[.pointer none] w fun e w' => e = .returned (.int .i64 0) ∧ Touch [] w w' := by
  go_enter Tryz.func32, Tryz.ntmps32
  go_wp2
  go_ret
  exact ⟨rfl, Touch.refl _ _⟩
theorem waiters_nil (w : World) (n : Int) : Calls Tryz.prog 14 #[.pointer none, .int .i64 n] w fun e w' => e = .returned (.slice none 0 0) ∧ Touch [] w w' := by
  refine (waiters_any (Ow.nil w) n (R := fun v w' => v = .slice none 0 0 ∧ Touch [] w w') (fun w1 T => (Ta.waiters_nilT w1 n).mono (fun e w2 h => ⟨_, h.1, rfl, (h.2 ▸ T)⟩))).mono ?_
  rintro e w2 ⟨v, rfl, rfl, t⟩
  exact ⟨rfl, t⟩
theorem prog_nil (w : World) : Calls Tryz.prog 16 #[.pointer none] w fun e w' => e = .returned (.slice none 0 0) ∧ Touch [] w w' := by
  refine (prog_any (Ow.nil w) (R := fun v w' => v = .slice none 0 0 ∧ Touch [] w w') (fun w1 T => (Ta.prog_nilT w1).mono (fun e w2 h => ⟨_, h.1, rfl, (h.2 ▸ T)⟩))).mono ?_
  rintro e w2 ⟨v, rfl, rfl, t⟩
  exact ⟨rfl, t⟩
theorem gath_nil (w : World) : Calls Tryz.prog 25 #[.pointer none] w fun e w' => e = .returned (.slice none 0 0) ∧ Touch [] w w' := by
  refine (gath_any (Ow.nil w) (R := fun v w' => v = .slice none 0 0 ∧ Touch [] w w') (fun w1 T => (Ba.runs_nil w1).mono (fun e w2 h => ⟨_, h.1, rfl, (h.2 ▸ T)⟩))).mono ?_
  rintro e w2 ⟨v, rfl, rfl, t⟩
  exact ⟨rfl, t⟩
theorem canc_nil (w : World) (n : Int) : Calls Tryz.prog 27 #[.pointer none, .int .i64 n] w fun e w' => e = .returned (.bool false) ∧ Touch [] w w' := by
  refine (canc_any (Ow.nil w) n (R := fun v w' => v = .bool false ∧ Touch [] w w') (fun w1 T => (Ta.canc_nilT w1 n).mono (fun e w2 h => ⟨_, h.1, rfl, (h.2 ▸ T)⟩))).mono ?_
  rintro e w2 ⟨v, rfl, rfl, t⟩
  exact ⟨rfl, t⟩
theorem ents_nil (w : World) : Calls Tryz.prog 30 #[.pointer none] w fun e w' => e = .returned (.slice none 0 0) ∧ Touch [] w w' := by
  refine (ents_any (Ow.nil w) (R := fun v w' => v = .slice none 0 0 ∧ Touch [] w w') (fun w1 T => (Me.all20_nil w1).mono (fun e w2 h => ⟨_, h.1, rfl, (T.trans' h.2)⟩))).mono ?_
  rintro e w2 ⟨v, rfl, rfl, t⟩
  exact ⟨rfl, t⟩
theorem curs_nil (w : World) : Calls Tryz.prog 29 #[.pointer none] w fun e w' => e = .returned (.slice none 0 0) ∧ Touch [] w w' := by
  refine (curs_any (Ow.nil w) (R := fun v w' => v = .slice none 0 0 ∧ Touch [] w w') (fun w1 T => (Ta.currents_nilT w1).mono (fun e w2 h => ⟨_, h.1, rfl, (h.2 ▸ T)⟩))).mono ?_
  rintro e w2 ⟨v, rfl, rfl, t⟩
  exact ⟨rfl, t⟩
theorem memo_nil (w : World) : Calls Tryz.prog 34 #[.pointer none] w fun e w' => e = .returned (.pointer none) ∧ Touch [] w w' := by
  refine (memo_any (Ow.nil w) (R := fun v w' => v = .pointer none ∧ Touch [] w w') (fun w1 T => (Me.clone28_nil w1).mono (fun e w2 h => ⟨_, h.1, rfl, (h.2 ▸ T)⟩))).mono ?_
  rintro e w2 ⟨v, rfl, rfl, t⟩
  exact ⟨rfl, t⟩
theorem next_nil (w : World) : Calls Tryz.prog 21 #[.pointer none] w fun e w' => e = .returned (.tuple #[.int .i64 0, .bool false]) ∧ Touch [] w w' := by
  refine (next_any (Ow.nil w) (fun a b w' => a = 0 ∧ b = false ∧ Touch [] w w') (fun w1 T => (Ba.due_nil w1).mono (fun e w2 h => ⟨_, _, h.1, rfl, rfl, h.2 ▸ T⟩))).mono ?_
  rintro e w2 ⟨a, b, rfl, rfl, rfl, t⟩
  exact ⟨rfl, t⟩
theorem cur_nil (w : World) (k : K) : Calls Tryz.prog 22 #[.pointer none, kv k] w fun e w' => e = .returned (.tuple #[.int .i64 0, .bool false]) ∧ Touch [] w w' := cur_any (Ow.nil w) k 0 false (fun w1 T => Ta.current_nilT w1 k)
theorem gen_nil (w : World) (k : K) : Calls Tryz.prog 26 #[.pointer none, kv k] w fun e w' => e = .returned (.int .i64 0) ∧ Touch [] w w' := gen_any (Ow.nil w) k 0 (fun w1 T => Ta.genn_nilT w1 k)
theorem run_nil (w : World) (n : Int) : Calls Tryz.prog 23 #[.pointer none, .int .i64 n] w fun e w' => e = .returned (.tuple #[.agg #[.int .i64 0, .int .u16 0, .string ⟨#[]⟩, .int .i64 0, .bool false], .bool false]) ∧ Touch [] w w' := run_any (Ow.nil w) n ⟨0, 0, ⟨#[]⟩, 0, false⟩ false (fun w1 T => Ta.run_nilT w1 n)
theorem entry_nil (w : World) (k : K) : Calls Tryz.prog 24 #[.pointer none, kv k] w fun e w' => e = .returned (.tuple #[.agg #[.int .u16 0, .string ⟨#[]⟩, .int .i64 0, .int .i64 0, .int .i64 0, .int .i64 0, .int .i64 0], .bool false]) ∧ Touch [] w w' := entry_any (Ow.nil w) k ((0, ⟨#[]⟩), ((0, 0, 0, 0), 0)) false (fun w1 T => Me.get24_nil w1 k)
theorem conf_nil (w : World) : Calls Tryz.prog 31 #[.pointer none] w fun e w' => e = .returned (.agg #[.int .i64 0, .int .i64 0, .int .i64 0, .int .i64 0, .int .i64 0, .int .i64 0, .int .i64 0]) ∧ Touch [] w w' := conf_any (Ow.nil w) Me.cz (fun w1 T => Me.config27_nil w1)
set_option maxHeartbeats 2000000 in
theorem counts_nil (w : World) (n : Int) : Calls Tryz.prog 66 #[.pointer none, .int .i64 n] w fun e w' => e = .returned (.bool false) ∧ Touch [] w w' := by
  have HC := hid (fun w => run_nil w n)
  go_enter Tryz.func66, Tryz.ntmps66
  go_wp2_with (go_at_call 23; refine (HC.out _).mono ?_; rintro e w2 ⟨rfl, t2⟩; have T2 := hid t2; clear t2)
  go_ret
  exact ⟨rfl, T2.out.alloc _⟩
theorem int_nil (w : World) (n : Int) : Calls Tryz.prog 28 #[.pointer none, .int .i64 n] w fun e w' => e = .returned (.int .i64 0) ∧ Touch [] w w' := by
  have HW := hid (fun w => waiters_nil w n)
  have HC := hid (fun w => counts_nil w n)
  go_enter Tryz.func28, Tryz.ntmps28
  go_wp2_with (first
    | (go_at_call 14; refine (HW.out _).mono ?_; rintro e w2 ⟨rfl, t2⟩; have T2 := hid t2; clear t2)
    | (go_at_call 66; refine (HC.out _).mono ?_; rintro e w3 ⟨rfl, t3⟩; have T3 := hid t3; clear t3))
  go_ret
  exact ⟨rfl, T2.out.trans' T3.out⟩
end Go.Proofs.YtkfophlhpjbmgaaGreat
/- An act, a slice of acts and a configuration as arguments, opened; no conditions. -/
namespace Go.Proofs.YtkfophlhpjbmgaaGreat
open Go.ChangeShapes Go.WideShapes Go.ChangeAt Go.RowKit
set_option linter.unusedVariables false
theorem cl_yU16 : Tryz.prog.cellsOf 36 = 1 := by kernel_rfl
theorem cl_9 : Tryz.prog.cellsOf 9 = 1 := by kernel_rfl
theorem cl_3 : Tryz.prog.cellsOf 3 = 1 := by kernel_rfl
theorem cl_2 : Tryz.prog.cellsOf 2 = 1 := by kernel_rfl
theorem cl_KyA : Tryz.prog.cellsOf 38 = 2 := by kernel_rfl
structure KyA where
  sp : Int
  nm : ByteArray
def KyA.ok (a : KyA) : Prop := (Lit.int .u16 a.sp).wf = true ∧ a.nm.size ≤ maxLen
def KyA.cs (a : KyA) : Array Value := #[.int .u16 a.sp, .string a.nm]
set_option maxRecDepth 100000 in
theorem fields_KyA {H : Type} {enc : TypeId × Value → H} {W : World} {base fuel : Nat} {spare : Nat → Bool} {held : Bool} {cs : List Value} {x : DataW H × List MemPlace} (h : DataW.trod enc Tryz.prog W base spare held fuel 38 cs = some x) (hl : cs.length = 2) :
    ∃ a : KyA, cs = a.cs.toList ∧ a.ok := by
  obtain ⟨ys, k, hk, hxy, _, hyl, hfe⟩ := DataW.trod_struct Tryz.underlying38 h
  match cs, hl with
  | [v0, v1], _ =>
    have hy : ys.length = 2 := hyl
    match ys, hy with
    | [y0, y1], _ =>
      have g0 := hfe 0 _ rfl
      have g1 := hfe 1 _ rfl
      simp [cl_9, cl_yU16] at g0 g1
      obtain ⟨A0, e0, _, w0⟩ := DataW.trod_int Tryz.underlying36 g0
      obtain ⟨A1, e1, _, w1⟩ := DataW.trod_string Tryz.underlying9 g1
      simp only [List.cons.injEq, and_true] at e0 e1
      subst e0 e1
      exact ⟨⟨A0, A1⟩, rfl, w0, w1⟩
theorem cl_FaA : Tryz.prog.cellsOf 40 = 3 := by kernel_rfl
structure FaA where
  kd : Int
  cd : Int
  rn : Int
def FaA.ok (a : FaA) : Prop := W64 a.kd ∧ W64 a.cd ∧ W64 a.rn
def FaA.cs (a : FaA) : Array Value := #[.int .i64 a.kd, .int .i64 a.cd, .int .i64 a.rn]
set_option maxRecDepth 100000 in
theorem fields_FaA {H : Type} {enc : TypeId × Value → H} {W : World} {base fuel : Nat} {spare : Nat → Bool} {held : Bool} {cs : List Value} {x : DataW H × List MemPlace} (h : DataW.trod enc Tryz.prog W base spare held fuel 40 cs = some x) (hl : cs.length = 3) :
    ∃ a : FaA, cs = a.cs.toList ∧ a.ok := by
  obtain ⟨ys, k, hk, hxy, _, hyl, hfe⟩ := DataW.trod_struct Tryz.underlying40 h
  match cs, hl with
  | [v0, v1, v2], _ =>
    have hy : ys.length = 3 := hyl
    match ys, hy with
    | [y0, y1, y2], _ =>
      have g0 := hfe 0 _ rfl
      have g1 := hfe 1 _ rfl
      have g2 := hfe 2 _ rfl
      simp [cl_3] at g0 g1 g2
      obtain ⟨A0, e0, _, w0⟩ := DataW.trod_int Tryz.underlying3 g0
      obtain ⟨A1, e1, _, w1⟩ := DataW.trod_int Tryz.underlying3 g1
      obtain ⟨A2, e2, _, w2⟩ := DataW.trod_int Tryz.underlying3 g2
      simp only [List.cons.injEq, and_true] at e0 e1 e2
      subst e0 e1 e2
      exact ⟨⟨A0, A1, A2⟩, rfl, w0, w1, w2⟩
theorem cl_OuA : Tryz.prog.cellsOf 42 = 4 := by kernel_rfl
structure OuA where
  va : Int
  fl : FaA
def OuA.ok (a : OuA) : Prop := W64 a.va ∧ FaA.ok a.fl
def OuA.cs (a : OuA) : Array Value := #[.int .i64 a.va, .int .i64 a.fl.kd, .int .i64 a.fl.cd, .int .i64 a.fl.rn]
set_option maxRecDepth 100000 in
theorem fields_OuA {H : Type} {enc : TypeId × Value → H} {W : World} {base fuel : Nat} {spare : Nat → Bool} {held : Bool} {cs : List Value} {x : DataW H × List MemPlace} (h : DataW.trod enc Tryz.prog W base spare held fuel 42 cs = some x) (hl : cs.length = 4) :
    ∃ a : OuA, cs = a.cs.toList ∧ a.ok := by
  obtain ⟨ys, k, hk, hxy, _, hyl, hfe⟩ := DataW.trod_struct Tryz.underlying42 h
  match cs, hl with
  | [v0, v1, v2, v3], _ =>
    have hy : ys.length = 2 := hyl
    match ys, hy with
    | [y0, y1], _ =>
      have g0 := hfe 0 _ rfl
      have g1 := hfe 1 _ rfl
      simp [cl_2, cl_FaA] at g0 g1
      obtain ⟨A0, e0, _, w0⟩ := DataW.trod_int Tryz.underlying2 g0
      obtain ⟨A1, b1, w1⟩ := fields_FaA g1 rfl
      simp only [FaA.cs, List.cons.injEq, and_true] at b1
      obtain ⟨e1, e2, e3⟩ := b1
      simp only [List.cons.injEq, and_true] at e0
      subst e0 e1 e2 e3
      exact ⟨⟨A0, A1⟩, rfl, w0, w1⟩
theorem cl_ActG : Tryz.prog.cellsOf 44 = 12 := by kernel_rfl
structure ActG where
  kd : Int
  cl : Int
  tk : Int
  rn : Int
  st : Int
  od : Int
  k : KyA
  o : OuA
def ActG.ok (a : ActG) : Prop := W64 a.kd ∧ W64 a.cl ∧ W64 a.tk ∧ W64 a.rn ∧ W64 a.st ∧ W64 a.od ∧ KyA.ok a.k ∧ OuA.ok a.o
def ActG.cs (a : ActG) : Array Value := #[.int .i64 a.kd, .int .i64 a.cl, .int .i64 a.tk, .int .i64 a.rn, .int .i64 a.st, .int .i64 a.od, .int .u16 a.k.sp, .string a.k.nm, .int .i64 a.o.va, .int .i64 a.o.fl.kd, .int .i64 a.o.fl.cd, .int .i64 a.o.fl.rn]
set_option maxRecDepth 100000 in
theorem fields_ActG {H : Type} {enc : TypeId × Value → H} {W : World} {base fuel : Nat} {spare : Nat → Bool} {held : Bool} {cs : List Value} {x : DataW H × List MemPlace} (h : DataW.trod enc Tryz.prog W base spare held fuel 44 cs = some x) (hl : cs.length = 12) :
    ∃ a : ActG, cs = a.cs.toList ∧ a.ok := by
  obtain ⟨ys, k, hk, hxy, _, hyl, hfe⟩ := DataW.trod_struct Tryz.underlying44 h
  match cs, hl with
  | [v0, v1, v2, v3, v4, v5, v6, v7, v8, v9, v10, v11], _ =>
    have hy : ys.length = 8 := hyl
    match ys, hy with
    | [y0, y1, y2, y3, y4, y5, y6, y7], _ =>
      have g0 := hfe 0 _ rfl
      have g1 := hfe 1 _ rfl
      have g2 := hfe 2 _ rfl
      have g3 := hfe 3 _ rfl
      have g4 := hfe 4 _ rfl
      have g5 := hfe 5 _ rfl
      have g6 := hfe 6 _ rfl
      have g7 := hfe 7 _ rfl
      simp [cl_2, cl_3, cl_KyA, cl_OuA] at g0 g1 g2 g3 g4 g5 g6 g7
      obtain ⟨A0, e0, _, w0⟩ := DataW.trod_int Tryz.underlying3 g0
      obtain ⟨A1, e1, _, w1⟩ := DataW.trod_int Tryz.underlying3 g1
      obtain ⟨A2, e2, _, w2⟩ := DataW.trod_int Tryz.underlying3 g2
      obtain ⟨A3, e3, _, w3⟩ := DataW.trod_int Tryz.underlying3 g3
      obtain ⟨A4, e4, _, w4⟩ := DataW.trod_int Tryz.underlying2 g4
      obtain ⟨A5, e5, _, w5⟩ := DataW.trod_int Tryz.underlying2 g5
      obtain ⟨A6, b6, w6⟩ := fields_KyA g6 rfl
      simp only [KyA.cs, List.cons.injEq, and_true] at b6
      obtain ⟨e6, e7⟩ := b6
      obtain ⟨A7, b7, w7⟩ := fields_OuA g7 rfl
      simp only [OuA.cs, List.cons.injEq, and_true] at b7
      obtain ⟨e8, e9, e10, e11⟩ := b7
      simp only [List.cons.injEq, and_true] at e0 e1 e2 e3 e4 e5
      subst e0 e1 e2 e3 e4 e5 e6 e7 e8 e9 e10 e11
      exact ⟨⟨A0, A1, A2, A3, A4, A5, A6, A7⟩, rfl, w0, w1, w2, w3, w4, w5, w6, w7⟩
set_option maxRecDepth 100000 in
theorem open_ActG {H : Type} {enc : TypeId × Value → H} {W : World} {b0 : Nat} {v : Value} {d : DataW H} {p : List MemPlace} (hv : Value.okWide Tryz.prog W .any b0 44 v) (h : DataW.Trod enc Tryz.prog W 0 (fun _ => true) true 44 v d p) : ∃ a : ActG, v = .agg a.cs ∧ a.ok := by
  obtain ⟨cs, rfl, hs⟩ := okWide_struct Tryz.underlying44 hv
  obtain ⟨fuel, hf⟩ := h
  rw [cl_ActG] at hs
  obtain ⟨cl⟩ := cs
  have hs' : cl.length = 12 := by simpa using hs
  obtain ⟨a, e, wa⟩ := fields_ActG (cs := cl) (by simpa [Value.cells] using hf) hs'
  subst e
  exact ⟨a, rfl, wa⟩
set_option maxRecDepth 100000 in
theorem laidOut : laidOutB Tryz.prog = true := by kernel_rfl
def KyA.key (a : KyA) : K := (a.sp, a.nm)
def OuA.out (a : OuA) : O := (a.va, a.fl.kd, a.fl.cd, a.fl.rn)
end Go.Proofs.YtkfophlhpjbmgaaGreat
/- The law of a nil group; no conditions but that the act is one of numbers and texts that fit. -/
namespace Go.Proofs.YtkfophlhpjbmgaaGreat
open Go.RowKit Go.Maps Go.ChangeMaps
set_option maxRecDepth 100000
set_option linter.unusedVariables false
set_option linter.unusedSimpArgs false
theorem eqz (w : World) : (binOp .neq 67 (.agg #[.int .i64 0, .int .i64 0, .bool false, .bool false, .int .i64 0, .int .i64 0, .int .i64 0, .int .i64 0]) (.agg #[.int .i64 0, .int .i64 0, .bool false, .bool false, .int .i64 0, .int .i64 0, .int .i64 0, .int .i64 0])).run Tryz.prog w = .ok (.bool false) w ∧ (binOp .neq 74 (.agg #[.bool false, .int .i64 0, .int .i64 0, .bool false]) (.agg #[.bool false, .int .i64 0, .int .i64 0, .bool false])).run Tryz.prog w = .ok (.bool false) w ∧ (binOp .neq 53 (.agg #[.int .i64 0, .int .u16 0, .string ⟨#[]⟩, .int .i64 0, .bool false]) (.agg #[.int .i64 0, .int .u16 0, .string ⟨#[]⟩, .int .i64 0, .bool false])).run Tryz.prog w = .ok (.bool false) w ∧ (binOp .neq 86 (.agg #[.int .u16 0, .string ⟨#[]⟩, .int .i64 0, .int .i64 0, .int .i64 0, .int .i64 0, .int .i64 0]) (.agg #[.int .u16 0, .string ⟨#[]⟩, .int .i64 0, .int .i64 0, .int .i64 0, .int .i64 0, .int .i64 0])).run Tryz.prog w = .ok (.bool false) w ∧ (binOp .eql 23 (.agg #[.int .i64 0, .int .i64 0, .int .i64 0, .int .i64 0, .int .i64 0, .int .i64 0, .int .i64 0]) (.agg #[.int .i64 0, .int .i64 0, .int .i64 0, .int .i64 0, .int .i64 0, .int .i64 0, .int .i64 0])).run Tryz.prog w = .ok (.bool true) w := ⟨by kernel_rfl, by kernel_rfl, by kernel_rfl, by kernel_rfl, by kernel_rfl⟩
set_option maxHeartbeats 16000000 in
theorem nil_law (w : World) (n : Int) (x : ActG) : Calls Tryz.prog 5 #[.int .i64 n, .agg x.cs] w fun e w' => e = .returned (.bool true) ∧ Touch [] w w' := by
  obtain ⟨V, hV⟩ : ∃ V, V = w.alloc (.cells x.cs 44) := ⟨_, rfl⟩
  have tv : Touch [] w V := by rw [hV]; exact (Touch.refl _ _).alloc _
  have hb : V.heap[w.heap.size]? = some (.cells x.cs 44 (0, 0)) := by rw [hV]; exact heap_alloc_new w _
  have HAw := hid (fun w => awake_ w)
  have HTV := hid tv
  have FA := hid hb
  clear tv hb
  unfold ActG.cs at *
  have HJoin : Hid (∀ w, Calls Tryz.prog 12 #[.pointer none, .int .i64 n, .agg #[.int .u16 x.k.sp, .string x.k.nm], .int .i64 x.cl, .int .i64 x.tk] w fun e w' => e = .returned (.tuple #[.agg #[.int .i64 0, .int .i64 0, .bool false, .int .i64 0, .int .i64 0, .int .i64 0, .int .i64 0, .slice none 0 0], .int .i64 100]) ∧ Touch [] w w') := hid (fun w => join_nil w n x.k.key x.cl x.tk)
  have HLeave : Hid (∀ w, Calls Tryz.prog 17 #[.pointer none, .int .i64 n, .int .i64 x.cl] w fun e w' => e = .returned (.tuple #[.agg #[.int .i64 0, .int .i64 0, .bool false, .bool false, .int .i64 0, .int .i64 0, .int .i64 0, .int .i64 0], .int .i64 100]) ∧ Touch [] w w') := hid (fun w => leave_nil w n x.cl)
  have HCancel : Hid (∀ w, Calls Tryz.prog 18 #[.pointer none, .int .i64 n, .int .i64 x.tk] w fun e w' => e = .returned (.tuple #[.slice none 0 0, .int .i64 100]) ∧ Touch [] w w') := hid (fun w => cancel_nil w n x.tk)
  have HForget : Hid (∀ w, Calls Tryz.prog 19 #[.pointer none, .int .i64 n, .agg #[.int .u16 x.k.sp, .string x.k.nm]] w fun e w' => e = .returned (.tuple #[.agg #[.bool false, .int .i64 0, .int .i64 0, .bool false], .int .i64 100]) ∧ Touch [] w w') := hid (fun w => forget_nil w n x.k.key)
  have HEnd : Hid (∀ w, Calls Tryz.prog 13 #[.pointer none, .int .i64 n, .int .i64 x.rn, .agg #[.int .i64 x.o.va, .int .i64 x.o.fl.kd, .int .i64 x.o.fl.cd, .int .i64 x.o.fl.rn]] w fun e w' => e = .returned (.tuple #[.agg #[.int .i64 0, .int .u16 0, .string ⟨#[]⟩, .int .i64 0, .bool false, .slice none 0 0, .bool false, .bool false, .slice none 0 0, .slice none 0 0], .int .i64 100]) ∧ Touch [] w w') := hid (fun w => end_nil w n x.rn x.o.out)
  have HSend : Hid (∀ w, Calls Tryz.prog 20 #[.pointer none, .int .i64 n] w fun e w' => e = .returned (.tuple #[.slice none 0 0, .int .i64 100]) ∧ Touch [] w w') := hid (fun w => send_nil w n)
  have HNext : Hid (∀ w, Calls Tryz.prog 21 #[.pointer none] w fun e w' => e = .returned (.tuple #[.int .i64 0, .bool false]) ∧ Touch [] w w') := hid (fun w => next_nil w)
  have HCurrent : Hid (∀ w, Calls Tryz.prog 22 #[.pointer none, .agg #[.int .u16 x.k.sp, .string x.k.nm]] w fun e w' => e = .returned (.tuple #[.int .i64 0, .bool false]) ∧ Touch [] w w') := hid (fun w => cur_nil w x.k.key)
  have HRun : Hid (∀ w, Calls Tryz.prog 23 #[.pointer none, .int .i64 x.rn] w fun e w' => e = .returned (.tuple #[.agg #[.int .i64 0, .int .u16 0, .string ⟨#[]⟩, .int .i64 0, .bool false], .bool false]) ∧ Touch [] w w') := hid (fun w => run_nil w x.rn)
  have HEntry : Hid (∀ w, Calls Tryz.prog 24 #[.pointer none, .agg #[.int .u16 x.k.sp, .string x.k.nm]] w fun e w' => e = .returned (.tuple #[.agg #[.int .u16 0, .string ⟨#[]⟩, .int .i64 0, .int .i64 0, .int .i64 0, .int .i64 0, .int .i64 0], .bool false]) ∧ Touch [] w w') := hid (fun w => entry_nil w x.k.key)
  have HGathers : Hid (∀ w, Calls Tryz.prog 25 #[.pointer none] w fun e w' => e = .returned (.slice none 0 0) ∧ Touch [] w w') := hid (fun w => gath_nil w)
  have HGeneration : Hid (∀ w, Calls Tryz.prog 26 #[.pointer none, .agg #[.int .u16 x.k.sp, .string x.k.nm]] w fun e w' => e = .returned (.int .i64 0) ∧ Touch [] w w') := hid (fun w => gen_nil w x.k.key)
  have HWaiters : Hid (∀ w, Calls Tryz.prog 14 #[.pointer none, .int .i64 x.rn] w fun e w' => e = .returned (.slice none 0 0) ∧ Touch [] w w') := hid (fun w => waiters_nil w x.rn)
  have HCancelled : Hid (∀ w, Calls Tryz.prog 27 #[.pointer none, .int .i64 x.rn] w fun e w' => e = .returned (.bool false) ∧ Touch [] w w') := hid (fun w => canc_nil w x.rn)
  have HInterest : Hid (∀ w, Calls Tryz.prog 28 #[.pointer none, .int .i64 x.rn] w fun e w' => e = .returned (.int .i64 0) ∧ Touch [] w w') := hid (fun w => int_nil w x.rn)
  have HProgress : Hid (∀ w, Calls Tryz.prog 16 #[.pointer none] w fun e w' => e = .returned (.slice none 0 0) ∧ Touch [] w w') := hid (fun w => prog_nil w)
  have HCurrents : Hid (∀ w, Calls Tryz.prog 29 #[.pointer none] w fun e w' => e = .returned (.slice none 0 0) ∧ Touch [] w w') := hid (fun w => curs_nil w)
  have HEntries : Hid (∀ w, Calls Tryz.prog 30 #[.pointer none] w fun e w' => e = .returned (.slice none 0 0) ∧ Touch [] w w') := hid (fun w => ents_nil w)
  have HConfig : Hid (∀ w, Calls Tryz.prog 31 #[.pointer none] w fun e w' => e = .returned (.agg #[.int .i64 0, .int .i64 0, .int .i64 0, .int .i64 0, .int .i64 0, .int .i64 0, .int .i64 0]) ∧ Touch [] w w') := hid (fun w => conf_nil w)
  have HNow : Hid (∀ w, Calls Tryz.prog 32 #[.pointer none] w fun e w' => e = .returned (.int .i64 0) ∧ Touch [] w w') := hid (fun w => now_nil w)
  have HClone : Hid (∀ w, Calls Tryz.prog 33 #[.pointer none] w fun e w' => e = .returned (.pointer none) ∧ Touch [] w w') := hid (fun w => clone_nil w)
  have HMemo : Hid (∀ w, Calls Tryz.prog 34 #[.pointer none] w fun e w' => e = .returned (.pointer none) ∧ Touch [] w w') := hid (fun w => memo_nil w)
  go_enter Tryz.func5, Tryz.ntmps5
  go_upto_region 1 with fail
  rw [← hV]
  clear hV
  go_upto_region 2 with fail
  have FAc0 := cell_at (j := 0) (v := .int .i64 x.kd) FA.out rfl
  have FAc1 := cell_at (j := 1) (v := .int .i64 x.cl) FA.out rfl
  have FAc2 := cell_at (j := 2) (v := .int .i64 x.tk) FA.out rfl
  have FAc3 := cell_at (j := 3) (v := .int .i64 x.rn) FA.out rfl
  have FAc4 := cell_at (j := 4) (v := .int .i64 x.st) FA.out rfl
  have FAc5 := cell_at (j := 5) (v := .int .i64 x.od) FA.out rfl
  have FAc6 := cell_at (j := 6) (v := .int .u16 x.k.sp) FA.out rfl
  have FAc7 := cell_at (j := 7) (v := .string x.k.nm) FA.out rfl
  have FAc8 := cell_at (j := 8) (v := .int .i64 x.o.va) FA.out rfl
  have FAc9 := cell_at (j := 9) (v := .int .i64 x.o.fl.kd) FA.out rfl
  have FAc10 := cell_at (j := 10) (v := .int .i64 x.o.fl.cd) FA.out rfl
  have FAc11 := cell_at (j := 11) (v := .int .i64 x.o.fl.rn) FA.out rfl
  go_upto_region 3 with (go_at_call 12; refine (HJoin.out _).mono ?_; rintro e w1 ⟨rfl, t1⟩; have T1 := hid t1; clear t1; clear FAc0 FAc1 FAc2 FAc3 FAc4 FAc5 FAc6 FAc7 FAc8 FAc9 FAc10 FAc11)
  obtain ⟨W1, hW1⟩ : ∃ W, W = w1.alloc (.cells #[.int .i64 0, .int .i64 0, .bool false, .int .i64 0, .int .i64 0, .int .i64 0, .int .i64 0, .slice none 0 0] 49) := ⟨_, rfl⟩
  have u1 : Touch [] w1 W1 := by rw [hW1]; exact (Touch.refl _ _).alloc _
  have hb1 := heap_alloc_new w1 (.cells #[.int .i64 0, .int .i64 0, .bool false, .int .i64 0, .int .i64 0, .int .i64 0, .int .i64 0, .slice none 0 0] 49)
  rw [← hW1] at hb1 ⊢
  have S1 := hid (T1.out.trans' u1)
  have FA := hid (S1.out.keep FA.out (by simp))
  have FJoin := hid hb1
  clear hW1 u1 hb1
  have HTV := hid (HTV.out.trans' S1.out)
  have FAc0 := cell_at (j := 0) (v := .int .i64 x.kd) FA.out rfl
  have FAc1 := cell_at (j := 1) (v := .int .i64 x.cl) FA.out rfl
  have FAc2 := cell_at (j := 2) (v := .int .i64 x.tk) FA.out rfl
  have FAc3 := cell_at (j := 3) (v := .int .i64 x.rn) FA.out rfl
  have FAc4 := cell_at (j := 4) (v := .int .i64 x.st) FA.out rfl
  have FAc5 := cell_at (j := 5) (v := .int .i64 x.od) FA.out rfl
  have FAc6 := cell_at (j := 6) (v := .int .u16 x.k.sp) FA.out rfl
  have FAc7 := cell_at (j := 7) (v := .string x.k.nm) FA.out rfl
  have FAc8 := cell_at (j := 8) (v := .int .i64 x.o.va) FA.out rfl
  have FAc9 := cell_at (j := 9) (v := .int .i64 x.o.fl.kd) FA.out rfl
  have FAc10 := cell_at (j := 10) (v := .int .i64 x.o.fl.cd) FA.out rfl
  have FAc11 := cell_at (j := 11) (v := .int .i64 x.o.fl.rn) FA.out rfl
  go_upto_region 4 with (go_at_call 17; refine (HLeave.out _).mono ?_; rintro e w2 ⟨rfl, t2⟩; have T2 := hid t2; clear t2; clear FAc0 FAc1 FAc2 FAc3 FAc4 FAc5 FAc6 FAc7 FAc8 FAc9 FAc10 FAc11)
  obtain ⟨W2, hW2⟩ : ∃ W, W = w2.alloc (.cells #[.int .i64 0, .int .i64 0, .bool false, .bool false, .int .i64 0, .int .i64 0, .int .i64 0, .int .i64 0] 67) := ⟨_, rfl⟩
  have u2 : Touch [] w2 W2 := by rw [hW2]; exact (Touch.refl _ _).alloc _
  have hb2 := heap_alloc_new w2 (.cells #[.int .i64 0, .int .i64 0, .bool false, .bool false, .int .i64 0, .int .i64 0, .int .i64 0, .int .i64 0] 67)
  rw [← hW2] at hb2 ⊢
  have S2 := hid (T2.out.trans' u2)
  have FA := hid (S2.out.keep FA.out (by simp))
  have FJoin := hid (S2.out.keep FJoin.out (by simp))
  have FLeave := hid hb2
  clear hW2 u2 hb2
  have HTV := hid (HTV.out.trans' S2.out)
  have FAc0 := cell_at (j := 0) (v := .int .i64 x.kd) FA.out rfl
  have FAc1 := cell_at (j := 1) (v := .int .i64 x.cl) FA.out rfl
  have FAc2 := cell_at (j := 2) (v := .int .i64 x.tk) FA.out rfl
  have FAc3 := cell_at (j := 3) (v := .int .i64 x.rn) FA.out rfl
  have FAc4 := cell_at (j := 4) (v := .int .i64 x.st) FA.out rfl
  have FAc5 := cell_at (j := 5) (v := .int .i64 x.od) FA.out rfl
  have FAc6 := cell_at (j := 6) (v := .int .u16 x.k.sp) FA.out rfl
  have FAc7 := cell_at (j := 7) (v := .string x.k.nm) FA.out rfl
  have FAc8 := cell_at (j := 8) (v := .int .i64 x.o.va) FA.out rfl
  have FAc9 := cell_at (j := 9) (v := .int .i64 x.o.fl.kd) FA.out rfl
  have FAc10 := cell_at (j := 10) (v := .int .i64 x.o.fl.cd) FA.out rfl
  have FAc11 := cell_at (j := 11) (v := .int .i64 x.o.fl.rn) FA.out rfl
  go_upto_region 5 with (go_at_call 18; refine (HCancel.out _).mono ?_; rintro e w3 ⟨rfl, t3⟩; have T3 := hid t3; clear t3; clear FAc0 FAc1 FAc2 FAc3 FAc4 FAc5 FAc6 FAc7 FAc8 FAc9 FAc10 FAc11)
  have S3 := T3
  have FA := hid (S3.out.keep FA.out (by simp))
  have FJoin := hid (S3.out.keep FJoin.out (by simp))
  have FLeave := hid (S3.out.keep FLeave.out (by simp))
  have HTV := hid (HTV.out.trans' S3.out)
  have FAc0 := cell_at (j := 0) (v := .int .i64 x.kd) FA.out rfl
  have FAc1 := cell_at (j := 1) (v := .int .i64 x.cl) FA.out rfl
  have FAc2 := cell_at (j := 2) (v := .int .i64 x.tk) FA.out rfl
  have FAc3 := cell_at (j := 3) (v := .int .i64 x.rn) FA.out rfl
  have FAc4 := cell_at (j := 4) (v := .int .i64 x.st) FA.out rfl
  have FAc5 := cell_at (j := 5) (v := .int .i64 x.od) FA.out rfl
  have FAc6 := cell_at (j := 6) (v := .int .u16 x.k.sp) FA.out rfl
  have FAc7 := cell_at (j := 7) (v := .string x.k.nm) FA.out rfl
  have FAc8 := cell_at (j := 8) (v := .int .i64 x.o.va) FA.out rfl
  have FAc9 := cell_at (j := 9) (v := .int .i64 x.o.fl.kd) FA.out rfl
  have FAc10 := cell_at (j := 10) (v := .int .i64 x.o.fl.cd) FA.out rfl
  have FAc11 := cell_at (j := 11) (v := .int .i64 x.o.fl.rn) FA.out rfl
  go_upto_region 6 with (go_at_call 19; refine (HForget.out _).mono ?_; rintro e w4 ⟨rfl, t4⟩; have T4 := hid t4; clear t4; clear FAc0 FAc1 FAc2 FAc3 FAc4 FAc5 FAc6 FAc7 FAc8 FAc9 FAc10 FAc11)
  obtain ⟨W4, hW4⟩ : ∃ W, W = w4.alloc (.cells #[.bool false, .int .i64 0, .int .i64 0, .bool false] 74) := ⟨_, rfl⟩
  have u4 : Touch [] w4 W4 := by rw [hW4]; exact (Touch.refl _ _).alloc _
  have hb4 := heap_alloc_new w4 (.cells #[.bool false, .int .i64 0, .int .i64 0, .bool false] 74)
  rw [← hW4] at hb4 ⊢
  have S4 := hid (T4.out.trans' u4)
  have FA := hid (S4.out.keep FA.out (by simp))
  have FJoin := hid (S4.out.keep FJoin.out (by simp))
  have FLeave := hid (S4.out.keep FLeave.out (by simp))
  have FForget := hid hb4
  clear hW4 u4 hb4
  have HTV := hid (HTV.out.trans' S4.out)
  have FAc0 := cell_at (j := 0) (v := .int .i64 x.kd) FA.out rfl
  have FAc1 := cell_at (j := 1) (v := .int .i64 x.cl) FA.out rfl
  have FAc2 := cell_at (j := 2) (v := .int .i64 x.tk) FA.out rfl
  have FAc3 := cell_at (j := 3) (v := .int .i64 x.rn) FA.out rfl
  have FAc4 := cell_at (j := 4) (v := .int .i64 x.st) FA.out rfl
  have FAc5 := cell_at (j := 5) (v := .int .i64 x.od) FA.out rfl
  have FAc6 := cell_at (j := 6) (v := .int .u16 x.k.sp) FA.out rfl
  have FAc7 := cell_at (j := 7) (v := .string x.k.nm) FA.out rfl
  have FAc8 := cell_at (j := 8) (v := .int .i64 x.o.va) FA.out rfl
  have FAc9 := cell_at (j := 9) (v := .int .i64 x.o.fl.kd) FA.out rfl
  have FAc10 := cell_at (j := 10) (v := .int .i64 x.o.fl.cd) FA.out rfl
  have FAc11 := cell_at (j := 11) (v := .int .i64 x.o.fl.rn) FA.out rfl
  go_upto_region 7 with (go_at_call 13; refine (HEnd.out _).mono ?_; rintro e w5 ⟨rfl, t5⟩; have T5 := hid t5; clear t5; clear FAc0 FAc1 FAc2 FAc3 FAc4 FAc5 FAc6 FAc7 FAc8 FAc9 FAc10 FAc11)
  obtain ⟨W5, hW5⟩ : ∃ W, W = w5.alloc (.cells #[.int .i64 0, .int .u16 0, .string ⟨#[]⟩, .int .i64 0, .bool false, .slice none 0 0, .bool false, .bool false, .slice none 0 0, .slice none 0 0] 57) := ⟨_, rfl⟩
  have u5 : Touch [] w5 W5 := by rw [hW5]; exact (Touch.refl _ _).alloc _
  have hb5 := heap_alloc_new w5 (.cells #[.int .i64 0, .int .u16 0, .string ⟨#[]⟩, .int .i64 0, .bool false, .slice none 0 0, .bool false, .bool false, .slice none 0 0, .slice none 0 0] 57)
  rw [← hW5] at hb5 ⊢
  have S5 := hid (T5.out.trans' u5)
  have FA := hid (S5.out.keep FA.out (by simp))
  have FJoin := hid (S5.out.keep FJoin.out (by simp))
  have FLeave := hid (S5.out.keep FLeave.out (by simp))
  have FForget := hid (S5.out.keep FForget.out (by simp))
  have FEnd := hid hb5
  clear hW5 u5 hb5
  have HTV := hid (HTV.out.trans' S5.out)
  have FAc0 := cell_at (j := 0) (v := .int .i64 x.kd) FA.out rfl
  have FAc1 := cell_at (j := 1) (v := .int .i64 x.cl) FA.out rfl
  have FAc2 := cell_at (j := 2) (v := .int .i64 x.tk) FA.out rfl
  have FAc3 := cell_at (j := 3) (v := .int .i64 x.rn) FA.out rfl
  have FAc4 := cell_at (j := 4) (v := .int .i64 x.st) FA.out rfl
  have FAc5 := cell_at (j := 5) (v := .int .i64 x.od) FA.out rfl
  have FAc6 := cell_at (j := 6) (v := .int .u16 x.k.sp) FA.out rfl
  have FAc7 := cell_at (j := 7) (v := .string x.k.nm) FA.out rfl
  have FAc8 := cell_at (j := 8) (v := .int .i64 x.o.va) FA.out rfl
  have FAc9 := cell_at (j := 9) (v := .int .i64 x.o.fl.kd) FA.out rfl
  have FAc10 := cell_at (j := 10) (v := .int .i64 x.o.fl.cd) FA.out rfl
  have FAc11 := cell_at (j := 11) (v := .int .i64 x.o.fl.rn) FA.out rfl
  go_upto_region 8 with (go_at_call 20; refine (HSend.out _).mono ?_; rintro e w6 ⟨rfl, t6⟩; have T6 := hid t6; clear t6; clear FAc0 FAc1 FAc2 FAc3 FAc4 FAc5 FAc6 FAc7 FAc8 FAc9 FAc10 FAc11)
  have S6 := T6
  have FA := hid (S6.out.keep FA.out (by simp))
  have FJoin := hid (S6.out.keep FJoin.out (by simp))
  have FLeave := hid (S6.out.keep FLeave.out (by simp))
  have FForget := hid (S6.out.keep FForget.out (by simp))
  have FEnd := hid (S6.out.keep FEnd.out (by simp))
  have HTV := hid (HTV.out.trans' S6.out)
  go_upto_region 10 with fail
  have FJoinc0 := cell_at (j := 0) (v := .int .i64 0) FJoin.out rfl
  have FJoinc1 := cell_at (j := 1) (v := .int .i64 0) FJoin.out rfl
  have FJoinc2 := cell_at (j := 2) (v := .bool false) FJoin.out rfl
  have FJoinc3 := cell_at (j := 3) (v := .int .i64 0) FJoin.out rfl
  have FJoinc4 := cell_at (j := 4) (v := .int .i64 0) FJoin.out rfl
  have FJoinc5 := cell_at (j := 5) (v := .int .i64 0) FJoin.out rfl
  have FJoinc6 := cell_at (j := 6) (v := .int .i64 0) FJoin.out rfl
  have FJoinc7 := cell_at (j := 7) (v := .slice none 0 0) FJoin.out rfl
  have FLeavec0 := cell_at (j := 0) (v := .int .i64 0) FLeave.out rfl
  have FLeavec1 := cell_at (j := 1) (v := .int .i64 0) FLeave.out rfl
  have FLeavec2 := cell_at (j := 2) (v := .bool false) FLeave.out rfl
  have FLeavec3 := cell_at (j := 3) (v := .bool false) FLeave.out rfl
  have FLeavec4 := cell_at (j := 4) (v := .int .i64 0) FLeave.out rfl
  have FLeavec5 := cell_at (j := 5) (v := .int .i64 0) FLeave.out rfl
  have FLeavec6 := cell_at (j := 6) (v := .int .i64 0) FLeave.out rfl
  have FLeavec7 := cell_at (j := 7) (v := .int .i64 0) FLeave.out rfl
  have FForgetc0 := cell_at (j := 0) (v := .bool false) FForget.out rfl
  have FForgetc1 := cell_at (j := 1) (v := .int .i64 0) FForget.out rfl
  have FForgetc2 := cell_at (j := 2) (v := .int .i64 0) FForget.out rfl
  have FForgetc3 := cell_at (j := 3) (v := .bool false) FForget.out rfl
  have FEndc0 := cell_at (j := 0) (v := .int .i64 0) FEnd.out rfl
  have FEndc1 := cell_at (j := 1) (v := .int .u16 0) FEnd.out rfl
  have FEndc2 := cell_at (j := 2) (v := .string ⟨#[]⟩) FEnd.out rfl
  have FEndc3 := cell_at (j := 3) (v := .int .i64 0) FEnd.out rfl
  have FEndc4 := cell_at (j := 4) (v := .bool false) FEnd.out rfl
  have FEndc5 := cell_at (j := 5) (v := .slice none 0 0) FEnd.out rfl
  have FEndc6 := cell_at (j := 6) (v := .bool false) FEnd.out rfl
  have FEndc7 := cell_at (j := 7) (v := .bool false) FEnd.out rfl
  have FEndc8 := cell_at (j := 8) (v := .slice none 0 0) FEnd.out rfl
  have FEndc9 := cell_at (j := 9) (v := .slice none 0 0) FEnd.out rfl
  obtain ⟨z1, z2, z3, z4, z5⟩ := eqz w6
  go_upto_region 12 with fail
  clear FJoinc0 FJoinc1 FJoinc2 FJoinc3 FJoinc4 FJoinc5 FJoinc6 FJoinc7
  clear FLeavec0 FLeavec1 FLeavec2 FLeavec3 FLeavec4 FLeavec5 FLeavec6 FLeavec7
  clear FForgetc0 FForgetc1 FForgetc2 FForgetc3
  clear FEndc0 FEndc1 FEndc2 FEndc3 FEndc4 FEndc5 FEndc6 FEndc7 FEndc8 FEndc9
  clear z1 z2 z3 z4 z5
  have FAc0 := cell_at (j := 0) (v := .int .i64 x.kd) FA.out rfl
  have FAc1 := cell_at (j := 1) (v := .int .i64 x.cl) FA.out rfl
  have FAc2 := cell_at (j := 2) (v := .int .i64 x.tk) FA.out rfl
  have FAc3 := cell_at (j := 3) (v := .int .i64 x.rn) FA.out rfl
  have FAc4 := cell_at (j := 4) (v := .int .i64 x.st) FA.out rfl
  have FAc5 := cell_at (j := 5) (v := .int .i64 x.od) FA.out rfl
  have FAc6 := cell_at (j := 6) (v := .int .u16 x.k.sp) FA.out rfl
  have FAc7 := cell_at (j := 7) (v := .string x.k.nm) FA.out rfl
  have FAc8 := cell_at (j := 8) (v := .int .i64 x.o.va) FA.out rfl
  have FAc9 := cell_at (j := 9) (v := .int .i64 x.o.fl.kd) FA.out rfl
  have FAc10 := cell_at (j := 10) (v := .int .i64 x.o.fl.cd) FA.out rfl
  have FAc11 := cell_at (j := 11) (v := .int .i64 x.o.fl.rn) FA.out rfl
  go_upto_region 13 with (go_at_call 21; refine (HNext.out _).mono ?_; rintro e w7 ⟨rfl, t7⟩; have T7 := hid t7; clear t7; clear FAc0 FAc1 FAc2 FAc3 FAc4 FAc5 FAc6 FAc7 FAc8 FAc9 FAc10 FAc11)
  have S7 := T7
  have FA := hid (S7.out.keep FA.out (by simp))
  have FJoin := hid (S7.out.keep FJoin.out (by simp))
  have FLeave := hid (S7.out.keep FLeave.out (by simp))
  have FForget := hid (S7.out.keep FForget.out (by simp))
  have FEnd := hid (S7.out.keep FEnd.out (by simp))
  have HTV := hid (HTV.out.trans' S7.out)
  have FAc0 := cell_at (j := 0) (v := .int .i64 x.kd) FA.out rfl
  have FAc1 := cell_at (j := 1) (v := .int .i64 x.cl) FA.out rfl
  have FAc2 := cell_at (j := 2) (v := .int .i64 x.tk) FA.out rfl
  have FAc3 := cell_at (j := 3) (v := .int .i64 x.rn) FA.out rfl
  have FAc4 := cell_at (j := 4) (v := .int .i64 x.st) FA.out rfl
  have FAc5 := cell_at (j := 5) (v := .int .i64 x.od) FA.out rfl
  have FAc6 := cell_at (j := 6) (v := .int .u16 x.k.sp) FA.out rfl
  have FAc7 := cell_at (j := 7) (v := .string x.k.nm) FA.out rfl
  have FAc8 := cell_at (j := 8) (v := .int .i64 x.o.va) FA.out rfl
  have FAc9 := cell_at (j := 9) (v := .int .i64 x.o.fl.kd) FA.out rfl
  have FAc10 := cell_at (j := 10) (v := .int .i64 x.o.fl.cd) FA.out rfl
  have FAc11 := cell_at (j := 11) (v := .int .i64 x.o.fl.rn) FA.out rfl
  go_upto_region 14 with (go_at_call 22; refine (HCurrent.out _).mono ?_; rintro e w8 ⟨rfl, t8⟩; have T8 := hid t8; clear t8; clear FAc0 FAc1 FAc2 FAc3 FAc4 FAc5 FAc6 FAc7 FAc8 FAc9 FAc10 FAc11)
  have S8 := T8
  have FA := hid (S8.out.keep FA.out (by simp))
  have FJoin := hid (S8.out.keep FJoin.out (by simp))
  have FLeave := hid (S8.out.keep FLeave.out (by simp))
  have FForget := hid (S8.out.keep FForget.out (by simp))
  have FEnd := hid (S8.out.keep FEnd.out (by simp))
  have HTV := hid (HTV.out.trans' S8.out)
  have FAc0 := cell_at (j := 0) (v := .int .i64 x.kd) FA.out rfl
  have FAc1 := cell_at (j := 1) (v := .int .i64 x.cl) FA.out rfl
  have FAc2 := cell_at (j := 2) (v := .int .i64 x.tk) FA.out rfl
  have FAc3 := cell_at (j := 3) (v := .int .i64 x.rn) FA.out rfl
  have FAc4 := cell_at (j := 4) (v := .int .i64 x.st) FA.out rfl
  have FAc5 := cell_at (j := 5) (v := .int .i64 x.od) FA.out rfl
  have FAc6 := cell_at (j := 6) (v := .int .u16 x.k.sp) FA.out rfl
  have FAc7 := cell_at (j := 7) (v := .string x.k.nm) FA.out rfl
  have FAc8 := cell_at (j := 8) (v := .int .i64 x.o.va) FA.out rfl
  have FAc9 := cell_at (j := 9) (v := .int .i64 x.o.fl.kd) FA.out rfl
  have FAc10 := cell_at (j := 10) (v := .int .i64 x.o.fl.cd) FA.out rfl
  have FAc11 := cell_at (j := 11) (v := .int .i64 x.o.fl.rn) FA.out rfl
  go_upto_region 15 with (go_at_call 23; refine (HRun.out _).mono ?_; rintro e w9 ⟨rfl, t9⟩; have T9 := hid t9; clear t9; clear FAc0 FAc1 FAc2 FAc3 FAc4 FAc5 FAc6 FAc7 FAc8 FAc9 FAc10 FAc11)
  obtain ⟨W9, hW9⟩ : ∃ W, W = w9.alloc (.cells #[.int .i64 0, .int .u16 0, .string ⟨#[]⟩, .int .i64 0, .bool false] 53) := ⟨_, rfl⟩
  have u9 : Touch [] w9 W9 := by rw [hW9]; exact (Touch.refl _ _).alloc _
  have hb9 := heap_alloc_new w9 (.cells #[.int .i64 0, .int .u16 0, .string ⟨#[]⟩, .int .i64 0, .bool false] 53)
  rw [← hW9] at hb9 ⊢
  have S9 := hid (T9.out.trans' u9)
  have FA := hid (S9.out.keep FA.out (by simp))
  have FJoin := hid (S9.out.keep FJoin.out (by simp))
  have FLeave := hid (S9.out.keep FLeave.out (by simp))
  have FForget := hid (S9.out.keep FForget.out (by simp))
  have FEnd := hid (S9.out.keep FEnd.out (by simp))
  have FRun := hid hb9
  clear hW9 u9 hb9
  have HTV := hid (HTV.out.trans' S9.out)
  have FAc0 := cell_at (j := 0) (v := .int .i64 x.kd) FA.out rfl
  have FAc1 := cell_at (j := 1) (v := .int .i64 x.cl) FA.out rfl
  have FAc2 := cell_at (j := 2) (v := .int .i64 x.tk) FA.out rfl
  have FAc3 := cell_at (j := 3) (v := .int .i64 x.rn) FA.out rfl
  have FAc4 := cell_at (j := 4) (v := .int .i64 x.st) FA.out rfl
  have FAc5 := cell_at (j := 5) (v := .int .i64 x.od) FA.out rfl
  have FAc6 := cell_at (j := 6) (v := .int .u16 x.k.sp) FA.out rfl
  have FAc7 := cell_at (j := 7) (v := .string x.k.nm) FA.out rfl
  have FAc8 := cell_at (j := 8) (v := .int .i64 x.o.va) FA.out rfl
  have FAc9 := cell_at (j := 9) (v := .int .i64 x.o.fl.kd) FA.out rfl
  have FAc10 := cell_at (j := 10) (v := .int .i64 x.o.fl.cd) FA.out rfl
  have FAc11 := cell_at (j := 11) (v := .int .i64 x.o.fl.rn) FA.out rfl
  go_upto_region 16 with (go_at_call 24; refine (HEntry.out _).mono ?_; rintro e w10 ⟨rfl, t10⟩; have T10 := hid t10; clear t10; clear FAc0 FAc1 FAc2 FAc3 FAc4 FAc5 FAc6 FAc7 FAc8 FAc9 FAc10 FAc11)
  obtain ⟨W10, hW10⟩ : ∃ W, W = w10.alloc (.cells #[.int .u16 0, .string ⟨#[]⟩, .int .i64 0, .int .i64 0, .int .i64 0, .int .i64 0, .int .i64 0] 86) := ⟨_, rfl⟩
  have u10 : Touch [] w10 W10 := by rw [hW10]; exact (Touch.refl _ _).alloc _
  have hb10 := heap_alloc_new w10 (.cells #[.int .u16 0, .string ⟨#[]⟩, .int .i64 0, .int .i64 0, .int .i64 0, .int .i64 0, .int .i64 0] 86)
  rw [← hW10] at hb10 ⊢
  have S10 := hid (T10.out.trans' u10)
  have FA := hid (S10.out.keep FA.out (by simp))
  have FJoin := hid (S10.out.keep FJoin.out (by simp))
  have FLeave := hid (S10.out.keep FLeave.out (by simp))
  have FForget := hid (S10.out.keep FForget.out (by simp))
  have FEnd := hid (S10.out.keep FEnd.out (by simp))
  have FRun := hid (S10.out.keep FRun.out (by simp))
  have FEntry := hid hb10
  clear hW10 u10 hb10
  have HTV := hid (HTV.out.trans' S10.out)
  have FRunc0 := cell_at (j := 0) (v := .int .i64 0) FRun.out rfl
  have FRunc1 := cell_at (j := 1) (v := .int .u16 0) FRun.out rfl
  have FRunc2 := cell_at (j := 2) (v := .string ⟨#[]⟩) FRun.out rfl
  have FRunc3 := cell_at (j := 3) (v := .int .i64 0) FRun.out rfl
  have FRunc4 := cell_at (j := 4) (v := .bool false) FRun.out rfl
  have FEntryc0 := cell_at (j := 0) (v := .int .u16 0) FEntry.out rfl
  have FEntryc1 := cell_at (j := 1) (v := .string ⟨#[]⟩) FEntry.out rfl
  have FEntryc2 := cell_at (j := 2) (v := .int .i64 0) FEntry.out rfl
  have FEntryc3 := cell_at (j := 3) (v := .int .i64 0) FEntry.out rfl
  have FEntryc4 := cell_at (j := 4) (v := .int .i64 0) FEntry.out rfl
  have FEntryc5 := cell_at (j := 5) (v := .int .i64 0) FEntry.out rfl
  have FEntryc6 := cell_at (j := 6) (v := .int .i64 0) FEntry.out rfl
  obtain ⟨z1, z2, z3, z4, z5⟩ := eqz W10
  go_upto_region 18 with fail
  clear FRunc0 FRunc1 FRunc2 FRunc3 FRunc4
  clear FEntryc0 FEntryc1 FEntryc2 FEntryc3 FEntryc4 FEntryc5 FEntryc6
  clear z1 z2 z3 z4 z5
  have FAc0 := cell_at (j := 0) (v := .int .i64 x.kd) FA.out rfl
  have FAc1 := cell_at (j := 1) (v := .int .i64 x.cl) FA.out rfl
  have FAc2 := cell_at (j := 2) (v := .int .i64 x.tk) FA.out rfl
  have FAc3 := cell_at (j := 3) (v := .int .i64 x.rn) FA.out rfl
  have FAc4 := cell_at (j := 4) (v := .int .i64 x.st) FA.out rfl
  have FAc5 := cell_at (j := 5) (v := .int .i64 x.od) FA.out rfl
  have FAc6 := cell_at (j := 6) (v := .int .u16 x.k.sp) FA.out rfl
  have FAc7 := cell_at (j := 7) (v := .string x.k.nm) FA.out rfl
  have FAc8 := cell_at (j := 8) (v := .int .i64 x.o.va) FA.out rfl
  have FAc9 := cell_at (j := 9) (v := .int .i64 x.o.fl.kd) FA.out rfl
  have FAc10 := cell_at (j := 10) (v := .int .i64 x.o.fl.cd) FA.out rfl
  have FAc11 := cell_at (j := 11) (v := .int .i64 x.o.fl.rn) FA.out rfl
  have HCC := hid (fun (w2 : World) (T : Touch [] W10 w2) => T.keep FA.out (by simp))
  have U0 : Hid (Touch [] W10 W10) := hid (Touch.refl _ _)
  go_wp2_with (first
    | (go_at_call 9; refine (HAw.out _).mono ?_; rintro e y0 ⟨rfl, t9⟩; have U1 := hid (U0.out.trans' t9); clear t9; clear FAc0 FAc1 FAc2 FAc3 FAc4 FAc5 FAc6 FAc7 FAc8 FAc9 FAc10 FAc11; have FAc0 := cell_at (j := 0) (v := .int .i64 x.kd) (HCC.out _ U1.out) rfl; have FAc1 := cell_at (j := 1) (v := .int .i64 x.cl) (HCC.out _ U1.out) rfl; have FAc2 := cell_at (j := 2) (v := .int .i64 x.tk) (HCC.out _ U1.out) rfl; have FAc3 := cell_at (j := 3) (v := .int .i64 x.rn) (HCC.out _ U1.out) rfl; have FAc4 := cell_at (j := 4) (v := .int .i64 x.st) (HCC.out _ U1.out) rfl; have FAc5 := cell_at (j := 5) (v := .int .i64 x.od) (HCC.out _ U1.out) rfl; have FAc6 := cell_at (j := 6) (v := .int .u16 x.k.sp) (HCC.out _ U1.out) rfl; have FAc7 := cell_at (j := 7) (v := .string x.k.nm) (HCC.out _ U1.out) rfl; have FAc8 := cell_at (j := 8) (v := .int .i64 x.o.va) (HCC.out _ U1.out) rfl; have FAc9 := cell_at (j := 9) (v := .int .i64 x.o.fl.kd) (HCC.out _ U1.out) rfl; have FAc10 := cell_at (j := 10) (v := .int .i64 x.o.fl.cd) (HCC.out _ U1.out) rfl; have FAc11 := cell_at (j := 11) (v := .int .i64 x.o.fl.rn) (HCC.out _ U1.out) rfl)
    | (go_at_call 25; refine (HGathers.out _).mono ?_; rintro e y1 ⟨rfl, t9⟩; have U2 := hid (U1.out.trans' t9); clear t9; clear FAc0 FAc1 FAc2 FAc3 FAc4 FAc5 FAc6 FAc7 FAc8 FAc9 FAc10 FAc11; have FAc0 := cell_at (j := 0) (v := .int .i64 x.kd) (HCC.out _ U2.out) rfl; have FAc1 := cell_at (j := 1) (v := .int .i64 x.cl) (HCC.out _ U2.out) rfl; have FAc2 := cell_at (j := 2) (v := .int .i64 x.tk) (HCC.out _ U2.out) rfl; have FAc3 := cell_at (j := 3) (v := .int .i64 x.rn) (HCC.out _ U2.out) rfl; have FAc4 := cell_at (j := 4) (v := .int .i64 x.st) (HCC.out _ U2.out) rfl; have FAc5 := cell_at (j := 5) (v := .int .i64 x.od) (HCC.out _ U2.out) rfl; have FAc6 := cell_at (j := 6) (v := .int .u16 x.k.sp) (HCC.out _ U2.out) rfl; have FAc7 := cell_at (j := 7) (v := .string x.k.nm) (HCC.out _ U2.out) rfl; have FAc8 := cell_at (j := 8) (v := .int .i64 x.o.va) (HCC.out _ U2.out) rfl; have FAc9 := cell_at (j := 9) (v := .int .i64 x.o.fl.kd) (HCC.out _ U2.out) rfl; have FAc10 := cell_at (j := 10) (v := .int .i64 x.o.fl.cd) (HCC.out _ U2.out) rfl; have FAc11 := cell_at (j := 11) (v := .int .i64 x.o.fl.rn) (HCC.out _ U2.out) rfl)
    | (go_at_call 26; refine (HGeneration.out _).mono ?_; rintro e y2 ⟨rfl, t9⟩; have U3 := hid (U2.out.trans' t9); clear t9; clear FAc0 FAc1 FAc2 FAc3 FAc4 FAc5 FAc6 FAc7 FAc8 FAc9 FAc10 FAc11; have FAc0 := cell_at (j := 0) (v := .int .i64 x.kd) (HCC.out _ U3.out) rfl; have FAc1 := cell_at (j := 1) (v := .int .i64 x.cl) (HCC.out _ U3.out) rfl; have FAc2 := cell_at (j := 2) (v := .int .i64 x.tk) (HCC.out _ U3.out) rfl; have FAc3 := cell_at (j := 3) (v := .int .i64 x.rn) (HCC.out _ U3.out) rfl; have FAc4 := cell_at (j := 4) (v := .int .i64 x.st) (HCC.out _ U3.out) rfl; have FAc5 := cell_at (j := 5) (v := .int .i64 x.od) (HCC.out _ U3.out) rfl; have FAc6 := cell_at (j := 6) (v := .int .u16 x.k.sp) (HCC.out _ U3.out) rfl; have FAc7 := cell_at (j := 7) (v := .string x.k.nm) (HCC.out _ U3.out) rfl; have FAc8 := cell_at (j := 8) (v := .int .i64 x.o.va) (HCC.out _ U3.out) rfl; have FAc9 := cell_at (j := 9) (v := .int .i64 x.o.fl.kd) (HCC.out _ U3.out) rfl; have FAc10 := cell_at (j := 10) (v := .int .i64 x.o.fl.cd) (HCC.out _ U3.out) rfl; have FAc11 := cell_at (j := 11) (v := .int .i64 x.o.fl.rn) (HCC.out _ U3.out) rfl)
    | (go_at_call 14; refine (HWaiters.out _).mono ?_; rintro e y3 ⟨rfl, t9⟩; have U4 := hid (U3.out.trans' t9); clear t9; clear FAc0 FAc1 FAc2 FAc3 FAc4 FAc5 FAc6 FAc7 FAc8 FAc9 FAc10 FAc11; have FAc0 := cell_at (j := 0) (v := .int .i64 x.kd) (HCC.out _ U4.out) rfl; have FAc1 := cell_at (j := 1) (v := .int .i64 x.cl) (HCC.out _ U4.out) rfl; have FAc2 := cell_at (j := 2) (v := .int .i64 x.tk) (HCC.out _ U4.out) rfl; have FAc3 := cell_at (j := 3) (v := .int .i64 x.rn) (HCC.out _ U4.out) rfl; have FAc4 := cell_at (j := 4) (v := .int .i64 x.st) (HCC.out _ U4.out) rfl; have FAc5 := cell_at (j := 5) (v := .int .i64 x.od) (HCC.out _ U4.out) rfl; have FAc6 := cell_at (j := 6) (v := .int .u16 x.k.sp) (HCC.out _ U4.out) rfl; have FAc7 := cell_at (j := 7) (v := .string x.k.nm) (HCC.out _ U4.out) rfl; have FAc8 := cell_at (j := 8) (v := .int .i64 x.o.va) (HCC.out _ U4.out) rfl; have FAc9 := cell_at (j := 9) (v := .int .i64 x.o.fl.kd) (HCC.out _ U4.out) rfl; have FAc10 := cell_at (j := 10) (v := .int .i64 x.o.fl.cd) (HCC.out _ U4.out) rfl; have FAc11 := cell_at (j := 11) (v := .int .i64 x.o.fl.rn) (HCC.out _ U4.out) rfl)
    | (go_at_call 27; refine (HCancelled.out _).mono ?_; rintro e y4 ⟨rfl, t9⟩; have U5 := hid (U4.out.trans' t9); clear t9; clear FAc0 FAc1 FAc2 FAc3 FAc4 FAc5 FAc6 FAc7 FAc8 FAc9 FAc10 FAc11; have FAc0 := cell_at (j := 0) (v := .int .i64 x.kd) (HCC.out _ U5.out) rfl; have FAc1 := cell_at (j := 1) (v := .int .i64 x.cl) (HCC.out _ U5.out) rfl; have FAc2 := cell_at (j := 2) (v := .int .i64 x.tk) (HCC.out _ U5.out) rfl; have FAc3 := cell_at (j := 3) (v := .int .i64 x.rn) (HCC.out _ U5.out) rfl; have FAc4 := cell_at (j := 4) (v := .int .i64 x.st) (HCC.out _ U5.out) rfl; have FAc5 := cell_at (j := 5) (v := .int .i64 x.od) (HCC.out _ U5.out) rfl; have FAc6 := cell_at (j := 6) (v := .int .u16 x.k.sp) (HCC.out _ U5.out) rfl; have FAc7 := cell_at (j := 7) (v := .string x.k.nm) (HCC.out _ U5.out) rfl; have FAc8 := cell_at (j := 8) (v := .int .i64 x.o.va) (HCC.out _ U5.out) rfl; have FAc9 := cell_at (j := 9) (v := .int .i64 x.o.fl.kd) (HCC.out _ U5.out) rfl; have FAc10 := cell_at (j := 10) (v := .int .i64 x.o.fl.cd) (HCC.out _ U5.out) rfl; have FAc11 := cell_at (j := 11) (v := .int .i64 x.o.fl.rn) (HCC.out _ U5.out) rfl)
    | (go_at_call 28; refine (HInterest.out _).mono ?_; rintro e y5 ⟨rfl, t9⟩; have U6 := hid (U5.out.trans' t9); clear t9; clear FAc0 FAc1 FAc2 FAc3 FAc4 FAc5 FAc6 FAc7 FAc8 FAc9 FAc10 FAc11; have FAc0 := cell_at (j := 0) (v := .int .i64 x.kd) (HCC.out _ U6.out) rfl; have FAc1 := cell_at (j := 1) (v := .int .i64 x.cl) (HCC.out _ U6.out) rfl; have FAc2 := cell_at (j := 2) (v := .int .i64 x.tk) (HCC.out _ U6.out) rfl; have FAc3 := cell_at (j := 3) (v := .int .i64 x.rn) (HCC.out _ U6.out) rfl; have FAc4 := cell_at (j := 4) (v := .int .i64 x.st) (HCC.out _ U6.out) rfl; have FAc5 := cell_at (j := 5) (v := .int .i64 x.od) (HCC.out _ U6.out) rfl; have FAc6 := cell_at (j := 6) (v := .int .u16 x.k.sp) (HCC.out _ U6.out) rfl; have FAc7 := cell_at (j := 7) (v := .string x.k.nm) (HCC.out _ U6.out) rfl; have FAc8 := cell_at (j := 8) (v := .int .i64 x.o.va) (HCC.out _ U6.out) rfl; have FAc9 := cell_at (j := 9) (v := .int .i64 x.o.fl.kd) (HCC.out _ U6.out) rfl; have FAc10 := cell_at (j := 10) (v := .int .i64 x.o.fl.cd) (HCC.out _ U6.out) rfl; have FAc11 := cell_at (j := 11) (v := .int .i64 x.o.fl.rn) (HCC.out _ U6.out) rfl)
    | (go_at_call 16; refine (HProgress.out _).mono ?_; rintro e y6 ⟨rfl, t9⟩; have U7 := hid (U6.out.trans' t9); clear t9; clear FAc0 FAc1 FAc2 FAc3 FAc4 FAc5 FAc6 FAc7 FAc8 FAc9 FAc10 FAc11; have FAc0 := cell_at (j := 0) (v := .int .i64 x.kd) (HCC.out _ U7.out) rfl; have FAc1 := cell_at (j := 1) (v := .int .i64 x.cl) (HCC.out _ U7.out) rfl; have FAc2 := cell_at (j := 2) (v := .int .i64 x.tk) (HCC.out _ U7.out) rfl; have FAc3 := cell_at (j := 3) (v := .int .i64 x.rn) (HCC.out _ U7.out) rfl; have FAc4 := cell_at (j := 4) (v := .int .i64 x.st) (HCC.out _ U7.out) rfl; have FAc5 := cell_at (j := 5) (v := .int .i64 x.od) (HCC.out _ U7.out) rfl; have FAc6 := cell_at (j := 6) (v := .int .u16 x.k.sp) (HCC.out _ U7.out) rfl; have FAc7 := cell_at (j := 7) (v := .string x.k.nm) (HCC.out _ U7.out) rfl; have FAc8 := cell_at (j := 8) (v := .int .i64 x.o.va) (HCC.out _ U7.out) rfl; have FAc9 := cell_at (j := 9) (v := .int .i64 x.o.fl.kd) (HCC.out _ U7.out) rfl; have FAc10 := cell_at (j := 10) (v := .int .i64 x.o.fl.cd) (HCC.out _ U7.out) rfl; have FAc11 := cell_at (j := 11) (v := .int .i64 x.o.fl.rn) (HCC.out _ U7.out) rfl)
    | (go_at_call 29; refine (HCurrents.out _).mono ?_; rintro e y7 ⟨rfl, t9⟩; have U8 := hid (U7.out.trans' t9); clear t9; clear FAc0 FAc1 FAc2 FAc3 FAc4 FAc5 FAc6 FAc7 FAc8 FAc9 FAc10 FAc11; have FAc0 := cell_at (j := 0) (v := .int .i64 x.kd) (HCC.out _ U8.out) rfl; have FAc1 := cell_at (j := 1) (v := .int .i64 x.cl) (HCC.out _ U8.out) rfl; have FAc2 := cell_at (j := 2) (v := .int .i64 x.tk) (HCC.out _ U8.out) rfl; have FAc3 := cell_at (j := 3) (v := .int .i64 x.rn) (HCC.out _ U8.out) rfl; have FAc4 := cell_at (j := 4) (v := .int .i64 x.st) (HCC.out _ U8.out) rfl; have FAc5 := cell_at (j := 5) (v := .int .i64 x.od) (HCC.out _ U8.out) rfl; have FAc6 := cell_at (j := 6) (v := .int .u16 x.k.sp) (HCC.out _ U8.out) rfl; have FAc7 := cell_at (j := 7) (v := .string x.k.nm) (HCC.out _ U8.out) rfl; have FAc8 := cell_at (j := 8) (v := .int .i64 x.o.va) (HCC.out _ U8.out) rfl; have FAc9 := cell_at (j := 9) (v := .int .i64 x.o.fl.kd) (HCC.out _ U8.out) rfl; have FAc10 := cell_at (j := 10) (v := .int .i64 x.o.fl.cd) (HCC.out _ U8.out) rfl; have FAc11 := cell_at (j := 11) (v := .int .i64 x.o.fl.rn) (HCC.out _ U8.out) rfl)
    | (go_at_call 30; refine (HEntries.out _).mono ?_; rintro e y8 ⟨rfl, t9⟩; have U9 := hid (U8.out.trans' t9); clear t9; clear FAc0 FAc1 FAc2 FAc3 FAc4 FAc5 FAc6 FAc7 FAc8 FAc9 FAc10 FAc11; have FAc0 := cell_at (j := 0) (v := .int .i64 x.kd) (HCC.out _ U9.out) rfl; have FAc1 := cell_at (j := 1) (v := .int .i64 x.cl) (HCC.out _ U9.out) rfl; have FAc2 := cell_at (j := 2) (v := .int .i64 x.tk) (HCC.out _ U9.out) rfl; have FAc3 := cell_at (j := 3) (v := .int .i64 x.rn) (HCC.out _ U9.out) rfl; have FAc4 := cell_at (j := 4) (v := .int .i64 x.st) (HCC.out _ U9.out) rfl; have FAc5 := cell_at (j := 5) (v := .int .i64 x.od) (HCC.out _ U9.out) rfl; have FAc6 := cell_at (j := 6) (v := .int .u16 x.k.sp) (HCC.out _ U9.out) rfl; have FAc7 := cell_at (j := 7) (v := .string x.k.nm) (HCC.out _ U9.out) rfl; have FAc8 := cell_at (j := 8) (v := .int .i64 x.o.va) (HCC.out _ U9.out) rfl; have FAc9 := cell_at (j := 9) (v := .int .i64 x.o.fl.kd) (HCC.out _ U9.out) rfl; have FAc10 := cell_at (j := 10) (v := .int .i64 x.o.fl.cd) (HCC.out _ U9.out) rfl; have FAc11 := cell_at (j := 11) (v := .int .i64 x.o.fl.rn) (HCC.out _ U9.out) rfl)
    | (go_at_call 31; refine (HConfig.out _).mono ?_; rintro e y9 ⟨rfl, t9⟩; have U10 := hid (U9.out.trans' t9); clear t9; clear FAc0 FAc1 FAc2 FAc3 FAc4 FAc5 FAc6 FAc7 FAc8 FAc9 FAc10 FAc11; have FAc0 := cell_at (j := 0) (v := .int .i64 x.kd) (HCC.out _ U10.out) rfl; have FAc1 := cell_at (j := 1) (v := .int .i64 x.cl) (HCC.out _ U10.out) rfl; have FAc2 := cell_at (j := 2) (v := .int .i64 x.tk) (HCC.out _ U10.out) rfl; have FAc3 := cell_at (j := 3) (v := .int .i64 x.rn) (HCC.out _ U10.out) rfl; have FAc4 := cell_at (j := 4) (v := .int .i64 x.st) (HCC.out _ U10.out) rfl; have FAc5 := cell_at (j := 5) (v := .int .i64 x.od) (HCC.out _ U10.out) rfl; have FAc6 := cell_at (j := 6) (v := .int .u16 x.k.sp) (HCC.out _ U10.out) rfl; have FAc7 := cell_at (j := 7) (v := .string x.k.nm) (HCC.out _ U10.out) rfl; have FAc8 := cell_at (j := 8) (v := .int .i64 x.o.va) (HCC.out _ U10.out) rfl; have FAc9 := cell_at (j := 9) (v := .int .i64 x.o.fl.kd) (HCC.out _ U10.out) rfl; have FAc10 := cell_at (j := 10) (v := .int .i64 x.o.fl.cd) (HCC.out _ U10.out) rfl; have FAc11 := cell_at (j := 11) (v := .int .i64 x.o.fl.rn) (HCC.out _ U10.out) rfl; obtain ⟨-, -, -, -, z5⟩ := eqz y9)
    | (go_at_call 32; refine (HNow.out _).mono ?_; rintro e y10 ⟨rfl, t9⟩; have U11 := hid (U10.out.trans' t9); clear t9; clear FAc0 FAc1 FAc2 FAc3 FAc4 FAc5 FAc6 FAc7 FAc8 FAc9 FAc10 FAc11; have FAc0 := cell_at (j := 0) (v := .int .i64 x.kd) (HCC.out _ U11.out) rfl; have FAc1 := cell_at (j := 1) (v := .int .i64 x.cl) (HCC.out _ U11.out) rfl; have FAc2 := cell_at (j := 2) (v := .int .i64 x.tk) (HCC.out _ U11.out) rfl; have FAc3 := cell_at (j := 3) (v := .int .i64 x.rn) (HCC.out _ U11.out) rfl; have FAc4 := cell_at (j := 4) (v := .int .i64 x.st) (HCC.out _ U11.out) rfl; have FAc5 := cell_at (j := 5) (v := .int .i64 x.od) (HCC.out _ U11.out) rfl; have FAc6 := cell_at (j := 6) (v := .int .u16 x.k.sp) (HCC.out _ U11.out) rfl; have FAc7 := cell_at (j := 7) (v := .string x.k.nm) (HCC.out _ U11.out) rfl; have FAc8 := cell_at (j := 8) (v := .int .i64 x.o.va) (HCC.out _ U11.out) rfl; have FAc9 := cell_at (j := 9) (v := .int .i64 x.o.fl.kd) (HCC.out _ U11.out) rfl; have FAc10 := cell_at (j := 10) (v := .int .i64 x.o.fl.cd) (HCC.out _ U11.out) rfl; have FAc11 := cell_at (j := 11) (v := .int .i64 x.o.fl.rn) (HCC.out _ U11.out) rfl)
    | (go_at_call 33; refine (HClone.out _).mono ?_; rintro e y11 ⟨rfl, t9⟩; have U12 := hid (U11.out.trans' t9); clear t9; clear FAc0 FAc1 FAc2 FAc3 FAc4 FAc5 FAc6 FAc7 FAc8 FAc9 FAc10 FAc11; have FAc0 := cell_at (j := 0) (v := .int .i64 x.kd) (HCC.out _ U12.out) rfl; have FAc1 := cell_at (j := 1) (v := .int .i64 x.cl) (HCC.out _ U12.out) rfl; have FAc2 := cell_at (j := 2) (v := .int .i64 x.tk) (HCC.out _ U12.out) rfl; have FAc3 := cell_at (j := 3) (v := .int .i64 x.rn) (HCC.out _ U12.out) rfl; have FAc4 := cell_at (j := 4) (v := .int .i64 x.st) (HCC.out _ U12.out) rfl; have FAc5 := cell_at (j := 5) (v := .int .i64 x.od) (HCC.out _ U12.out) rfl; have FAc6 := cell_at (j := 6) (v := .int .u16 x.k.sp) (HCC.out _ U12.out) rfl; have FAc7 := cell_at (j := 7) (v := .string x.k.nm) (HCC.out _ U12.out) rfl; have FAc8 := cell_at (j := 8) (v := .int .i64 x.o.va) (HCC.out _ U12.out) rfl; have FAc9 := cell_at (j := 9) (v := .int .i64 x.o.fl.kd) (HCC.out _ U12.out) rfl; have FAc10 := cell_at (j := 10) (v := .int .i64 x.o.fl.cd) (HCC.out _ U12.out) rfl; have FAc11 := cell_at (j := 11) (v := .int .i64 x.o.fl.rn) (HCC.out _ U12.out) rfl)
    | (go_at_call 34; refine (HMemo.out _).mono ?_; rintro e y12 ⟨rfl, t9⟩; have U13 := hid (U12.out.trans' t9); clear t9; clear FAc0 FAc1 FAc2 FAc3 FAc4 FAc5 FAc6 FAc7 FAc8 FAc9 FAc10 FAc11; have FAc0 := cell_at (j := 0) (v := .int .i64 x.kd) (HCC.out _ U13.out) rfl; have FAc1 := cell_at (j := 1) (v := .int .i64 x.cl) (HCC.out _ U13.out) rfl; have FAc2 := cell_at (j := 2) (v := .int .i64 x.tk) (HCC.out _ U13.out) rfl; have FAc3 := cell_at (j := 3) (v := .int .i64 x.rn) (HCC.out _ U13.out) rfl; have FAc4 := cell_at (j := 4) (v := .int .i64 x.st) (HCC.out _ U13.out) rfl; have FAc5 := cell_at (j := 5) (v := .int .i64 x.od) (HCC.out _ U13.out) rfl; have FAc6 := cell_at (j := 6) (v := .int .u16 x.k.sp) (HCC.out _ U13.out) rfl; have FAc7 := cell_at (j := 7) (v := .string x.k.nm) (HCC.out _ U13.out) rfl; have FAc8 := cell_at (j := 8) (v := .int .i64 x.o.va) (HCC.out _ U13.out) rfl; have FAc9 := cell_at (j := 9) (v := .int .i64 x.o.fl.kd) (HCC.out _ U13.out) rfl; have FAc10 := cell_at (j := 10) (v := .int .i64 x.o.fl.cd) (HCC.out _ U13.out) rfl; have FAc11 := cell_at (j := 11) (v := .int .i64 x.o.fl.rn) (HCC.out _ U13.out) rfl))
  go_ret
  exact ⟨rfl, HTV.out.trans' U13.out⟩
end Go.Proofs.YtkfophlhpjbmgaaGreat
