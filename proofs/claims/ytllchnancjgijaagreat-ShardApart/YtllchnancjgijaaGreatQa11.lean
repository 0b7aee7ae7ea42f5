/- The contracts of around and New; no conditions but those that each states. -/
import Derived.Test.YtllchnancjgijaaGreatQa10
import Derived.Test.YtllchnancjgijaaGreatQa06
import Derived.Test.YtllchnancjgijaaGreatQa08
import Derived.Test.YtllchnancjgijaaGreatQa05
set_option linter.unusedVariables false
set_option linter.unusedSimpArgs false
set_option maxRecDepth 100000
namespace Go.Proofs.YtllchnancjgijaaGreat
open Go.RowKit Go.Maps Go.ChangeMaps
def G0 (c : Me.Cf) (now : Int) (xs : List Me.En) : Gp := ⟨c, now, xs, Ta.T0 c.f, Ba.S0 c.b c.d, [], [], now⟩
def C0 : Cn := ⟨0, 0, 0⟩
def NwE (w w' : World) (Fm : List Nat) (g : Nat) (c : Me.Cf) (now : Int) (xs : List Me.En) : Prop := ∃ P F, Gq w' g P F (G0 c now xs) C0 ∧ Touch [] w w' ∧ (∀ k, k ∈ F → k ∈ Fm ∨ w.heap.size ≤ k)
theorem okC_parts {c : Me.Cf} (h : Me.okC c = true) : (0 ≤ c.t ∧ 0 ≤ c.n ∧ 0 ≤ c.s ∧ 0 ≤ c.d ∧ 0 ≤ c.e ∧ c.e ≤ 65536 ∧ 1 ≤ c.f ∧ c.f ≤ 4096 ∧ 1 ≤ c.b ∧ c.b ≤ 1024) := by
 unfold Me.okC at h
 simpa using h
def cfc (c : Me.Cf) : Array Value := #[.int .i64 c.t, .int .i64 c.n, .int .i64 c.s, .int .i64 c.e, .int .i64 c.f, .int .i64 c.b, .int .i64 c.d]
set_option maxHeartbeats 8000000 in
theorem around_ (w : World) (m : Nat) (Fm : List Nat) (c : Me.Cf) (now : Int) (xs : List Me.En) (h : Me.Mq w m Fm c now xs) (hd : c.d ≤ 9223372036854775807) : Calls Tryz.prog 39 #[PT m] w fun e w' => ∃ g, e = .returned (PT g) ∧ NwE w w' Fm g c now xs := by
 have ho := okC_parts h.gd.oc
 have hm : Me.Mq w m Fm c now xs := h
 have HC : Hid (Calls Tryz.prog 79 #[PT m] w fun e w' => e = .returned (Me.cv c) ∧ Touch [] w w') := hid (by obtain ⟨b, o, G, rfl, h⟩ := h; exact Me.config27 w m c now b o h.md)
 have HT : Hid (∀ w1, Touch [] w w1 → Calls Tryz.prog 80 #[.int .i64 c.f] w1 fun e w' => ∃ t Ft, e = .returned (.tuple #[PT t, .int .i64 0]) ∧ Ta.Tq w' t Ft (Ta.T0 c.f) 0 ∧ Touch [] w1 w' ∧ ∀ d, d ∈ Ft → w1.heap.size ≤ d) := hid (fun w1 _ => Ta.newT_ok w1 c.f (by unfold Ta.mayF'; simp; omega))
 have hbm : Ba.mayB c.b c.d = true := by unfold Ba.mayB; simp; omega
 have HB : Hid (∀ w1, Calls Tryz.prog 81 #[.int .i64 c.b, .int .i64 c.d] w1 fun e w' => e = .returned (.tuple #[PT w1.heap.size, .int .i64 0]) ∧ Ba.Bm w' w1.heap.size (.slice none 0 0) 0 (Ba.S0 c.b c.d) ∧ Touch [] w1 w') := hid (fun w1 => Ba.new_yes w1 c.b c.d hbm)
 have HS : Hid (∀ w1, Calls Tryz.prog 82 #[] w1 fun e w' => e = .returned (PT w1.heap.size) ∧ Lv.Sq w' w1.heap.size [w1.heap.size] [] [] 0 ∧ Touch [] w1 w') := hid (fun w1 => Lv.new_ w1)
 have HW : Hid (∀ w1, Touch [] w w1 → Calls Tryz.prog 83 #[PT m] w1 fun e w' => e = .returned (.int .i64 now) ∧ w' = w1) := hid (fun w1 T => by obtain ⟨b, o, G, eF, h'⟩ := h.keep0 T; exact Me.now26 w1 m c now b o h'.md)
 have hbi : Ba.Iv (Ba.S0 c.b c.d) 0 := ⟨by simp [Ba.S0]; omega, by simp [Ba.S0]; omega, by simp [Ba.S0]; omega, by simp [Ba.S0]; omega, by simp [Ba.S0], by simp [Ba.S0], by simp [Ba.S0], by simp only [Ba.S0]; exact W64.mk (by omega) (by omega), by simp [Ba.S0], by simp [Ba.S0], by simp [Ba.S0], by simp [Ba.S0], by simp [Ba.S0], by simp [Ba.S0], by simp [Ba.S0]⟩
 have HF : Hid (∀ w2 t Ft w3 w4, Touch [] w w2 → Ta.Tq w2 t Ft (Ta.T0 c.f) 0 → (∀ d, d ∈ Ft → w.heap.size ≤ d) → Ba.Bm w3 w2.heap.size (.slice none 0 0) 0 (Ba.S0 c.b c.d) → Touch [] w2 w3 → Lv.Sq w4 w3.heap.size [w3.heap.size] [] [] 0 → Touch [] w3 w4 → NwE w (w4.alloc (.cells (gcs ⟨m, t, w2.heap.size, w3.heap.size⟩ now) 109)) Fm w4.heap.size c now xs) := hid (fun w2 t Ft w3 w4 t2 qt ft qb t3 qs t4 => by
  have t5 : Touch [] w4 (w4.alloc (.cells (gcs ⟨m, t, w2.heap.size, w3.heap.size⟩ now) 109)) := (Touch.refl _ _).alloc _
  have hmlt := h.lt
  have htlt := qt.lt
  have h3 : w2.heap.size < w3.heap.size := qb.lt
  have h4 : w3.heap.size < w4.heap.size := qs.slt
  have z2 := t2.size
  refine ⟨⟨m, t, w2.heap.size, w3.heap.size⟩, fpG w4.heap.size Fm Ft [w2.heap.size] [w3.heap.size], ⟨Fm, Ft, [w2.heap.size], [w3.heap.size], rfl, ?_⟩, ((t2.trans' t3).trans' t4).trans' t5, fun k hk => ?_⟩
  ·refine ⟨heap_alloc_new w4 _, h.keep0 (((t2.trans' t3).trans' t4).trans' t5), qt.keep0 ((t3.trans' t4).trans' t5), ⟨.slice none 0 0, 0, rfl, qb.keep0 (t4.trans' t5), hbi⟩, qs.keep0 t5, ?_, ?_, ?_, ?_, ?_, ?_, ?_, ?_, ?_, ?_⟩
   all_goals (intro k hk e; (try simp only [List.mem_singleton] at hk); (try simp only [List.mem_singleton] at e))
   ·have := hmlt k e; omega
   ·have := htlt k e; omega
   ·omega
   ·omega
   ·have := hmlt k hk; have := ft k e; omega
   ·have := hmlt k hk; omega
   ·have := hmlt k hk; omega
   ·have := htlt k hk; omega
   ·have := htlt k hk; omega
   ·omega
  ·rcases mem_fpG.1 hk with e | e | e | e | e
   ·exact Or.inr (by omega)
   ·exact Or.inl e
   ·exact Or.inr (ft k e)
   ·simp only [List.mem_singleton] at e; exact Or.inr (by omega)
   ·simp only [List.mem_singleton] at e; exact Or.inr (by omega))
 clear h hm ho hbm hbi
 unfold gcs at HF
 unfold Me.cv at HC
 unfold PT at *
 go_enter Tryz.func39, Tryz.ntmps39
 go_upto_region 2 with (go_at_call 79; refine HC.out.mono ?_; rintro e w1 ⟨rfl, t1⟩; have T1 := hid t1; clear t1)
 obtain ⟨W1, hW1⟩ : ∃ W1, W1 = w1.alloc (.cells (cfc c) 23) := ⟨_, rfl⟩
 have t1 : Touch [] w W1 := by rw [hW1]; exact T1.out.alloc _
 have hb := heap_alloc_new w1 (.cells (cfc c) 23)
 rw [← hW1] at hb
 unfold cfc at hW1 hb
 rw [← hW1]
 clear hW1
 have HB1 := hid hb
 have TT1 := hid t1
 have b4 := cell_at (j := 4) hb rfl
 have b5 := cell_at (j := 5) hb rfl
 have b6 := cell_at (j := 6) hb rfl
 clear t1 hb
 go_upto_region 3 with (first
  | (go_at_call 80; refine (HT.out _ TT1.out).mono ?_; rintro e w2 ⟨t, Ft, rfl, q2, t2, f2⟩; have hb := t2.keep HB1.out (by simp); clear b4 b5 b6; have b5 := cell_at (j := 5) hb rfl; have b6 := cell_at (j := 6) hb rfl; have Q2 := hid q2; have T2 := hid t2; have F2 := hid f2; clear hb q2 t2 f2))
 go_upto_region 4 with (first
  | (go_at_call 81; refine (HB.out _).mono ?_; rintro e w3 ⟨rfl, q3, t3⟩; have Q3 := hid q3; have T3 := hid t3; clear q3 t3 b5 b6))
 go_wp2_with (first
  | (go_at_call 82; refine (HS.out _).mono ?_; rintro e w4 ⟨rfl, q4, t4⟩; have Q4 := hid q4; have T4 := hid t4; have T5 := hid (((TT1.out.trans' T2.out).trans' T3.out).trans' t4); clear q4 t4)
  | (go_at_call 83; refine (HW.out _ T5.out).mono ?_; rintro e w5 ⟨rfl, rfl⟩))
 go_ret
 exact ⟨_, rfl, HF.out _ _ _ _ _ (TT1.out.trans' T2.out) Q2.out (fun d hd => Nat.le_trans TT1.out.size (F2.out d hd)) Q3.out T3.out Q4.out T4.out⟩
theorem new_no (w : World) (c : Me.Cf) (hc : Me.okC c = false) : Calls Tryz.prog 7 #[Me.cv c] w fun e w' => e = .returned (.tuple #[.pointer none, .int .i64 100]) ∧ Touch [] w w' := by
 have HN := hid (fun w => Me.new9_no w c hc)
 clear hc
 unfold Me.cv at *
 go_enter Tryz.func7, Tryz.ntmps7
 go_wp2_with (go_at_call 38; refine (HN.out _).mono ?_; rintro e w2 ⟨rfl, t2⟩; have T2 := hid t2; clear t2)
 exact bodyPost_ret (v := .tuple #[.pointer none, .int .i64 100]) (by simp [results, Tryz.results7, go_sem]) rfl ⟨rfl, ((Touch.refl _ _).alloc _).trans' T2.out⟩
def W7 (c : Me.Cf) : Prop := c.t ≤ 9223372036854775807 ∧ c.n ≤ 9223372036854775807 ∧ c.s ≤ 9223372036854775807 ∧ c.d ≤ 9223372036854775807
theorem new_ (w : World) (c : Me.Cf) (hc : Me.okC c = true) (hw : W7 c) : Calls Tryz.prog 7 #[Me.cv c] w fun e w' => ∃ g, e = .returned (.tuple #[PT g, .int .i64 0]) ∧ NwE w w' [] g c 0 [] := by
 obtain ⟨w1, w2, w3, w4⟩ := hw
 have HN := hid (fun w => Me.new9_ok w c hc ⟨w1, w2, w3⟩)
 have HA : Hid (∀ V m W, Touch [] w V → Me.NwQ V c m W → Calls Tryz.prog 39 #[PT m] W fun e w' => ∃ g, e = .returned (PT g) ∧ NwE w w' [] g c 0 []) := hid (fun V m W tV h => by
  obtain ⟨F, q1, q2, q3⟩ := h
  refine (around_ W m F c 0 [] q1 w4).mono ?_
  rintro e w' ⟨g, rfl, P, F', r1, r2, r3⟩
  refine ⟨g, rfl, P, F', r1, (tV.trans' q3).trans' r2, fun k hk => Or.inr ?_⟩
  have z1 := tV.size
  have z2 := q3.size
  rcases r3 k hk with e | e
  ·have := q2 k e; omega
  ·omega)
 clear hc w1 w2 w3 w4
 unfold Me.cv at *
 unfold PT at *
 go_enter Tryz.func7, Tryz.ntmps7
 go_wp2_with (first
  | (go_at_call 38; refine (HN.out _).mono ?_; rintro e w2 ⟨m, rfl, q2⟩; have Q2 := hid q2; clear q2)
  | (go_at_call 39; refine (HA.out _ _ _ ((Touch.refl _ _).alloc _) Q2.out).mono ?_; rintro e w3 ⟨g, rfl, q3⟩; have Q3 := hid q3; clear q3))
 exact bodyPost_ret (v := .tuple #[.pointer (some ⟨g, 0, none⟩), .int .i64 0]) (by simp [results, Tryz.results7, go_sem]) rfl ⟨_, rfl, Q3.out⟩
end Go.Proofs.YtllchnancjgijaaGreat
/- The law's awake: one leads, another one joins; no conditions. -/
namespace Go.Proofs.YtllchnancjgijaaGreat
open Go.RowKit Go.Maps Go.ChangeMaps
def kA : K := (0, ⟨#[97]⟩)
theorem okA : Ok kA := ⟨rfl, by unfold maxLen; decide⟩
def cA : Me.Cf := ⟨5, 0, 0, 2, 2, 1, 0⟩
theorem awA2 : (joJ (G0 cA 0 []) 0 kA 1 0).how = 5 ∧ (joJ (G0 cA 0 []) 0 kA 1 0).run = 1 := ⟨by kernel_rfl, by kernel_rfl⟩
end Go.Proofs.YtllchnancjgijaaGreat
/- The contracts of Forget and End. -/
namespace Go.Proofs.YtllchnancjgijaaGreat.Ta
open Go.RowKit Go.Maps Go.ChangeMaps
section
variable (w : World) (t : Nat) (F : List Nat) (T : Tb) (N : Nat)
end
section
variable {w w' : World} {t p c : Nat} {g : Option Nat} {nc ng : Nat} {T : Tb} {N : Nat} {A B : List Rb} {q : Rb}
theorem Tv.low {B B' : Nat} {w : World} {v : Value} {xs : List Int} {o : O} (h : Tv B w v xs o) (hb : B' ≤ B) : Tv B' w v xs o := by
 obtain ⟨a, c, e, h1 | ⟨t, cur, e1, h2, h3⟩⟩ := h
 ·exact ⟨a, c, e, Or.inl h1⟩
 ·exact ⟨a, c, e, Or.inr ⟨t, cur, e1, Nat.le_trans hb h2, h3⟩⟩
theorem Tm.self (h : Tm w t p c g nc ng (A ++ q :: B) T N) : setS T q.R.run q.S = T := by
 obtain ⟨h1, h2⟩ := h.after
 have := rs_set (S := q.S) (f := q.F) h1 h2
 unfold setS
 rw [h.rs, this, ← h.rs]
theorem rs_out (hA : ∀ a ∈ A, a.R.run ≠ q.R.run) (hB : ∀ b ∈ B, b.R.run ≠ q.R.run) : (rsOf (A ++ q :: B)).filter (fun r => decide (r.1.run ≠ q.R.run)) = rsOf (A ++ B) := by
 have h1 : ∀ L : List Rb, (∀ a ∈ L, a.R.run ≠ q.R.run) → (rsOf L).filter (fun r => decide (r.1.run ≠ q.R.run)) = rsOf L := fun L hL => by
  refine List.filter_eq_self.2 (fun r hr => ?_)
  obtain ⟨a, ha, rfl⟩ := List.mem_map.1 hr
  simp [hL a ha]
 have e1 : rsOf (A ++ q :: B) = rsOf A ++ (q.R, q.S) :: rsOf B := by simp [rsOf]
 have e2 : rsOf (A ++ B) = rsOf A ++ rsOf B := by simp [rsOf]
 rw [e1, e2, List.filter_append, List.filter_cons, h1 A hA, h1 B hB]
 simp
theorem outR_setS (T : Tb) (n : Int) (S : St) : outR (setS T n S) n = outR T n := by
 unfold outR setS
 congr 1
 induction T.rs with
 | nil => rfl
 | cons a r ih =>
  simp only [List.map_cons, List.filter_cons]
  rw [ih, putS_fst]
  by_cases e : a.1.run = n
  ·simp [e]
  ·simp [e, putS]
theorem ptr_out (hA : ∀ a ∈ A, a.R.run ≠ q.R.run) (hB : ∀ b ∈ B, b.R.run ≠ q.R.run) (n : Int) : kdel (ptr (A ++ q :: B)) q.R.run n = ptr (A ++ B) n := by
 unfold kdel
 split
 ·rename_i e
  rw [e, ptr_none]
  intro x hx
  rcases List.mem_append.1 hx with e | e
  ·exact hA x e
  ·exact hB x e
 ·rename_i e
  unfold ptr
  rw [List.find?_append, List.find?_append, List.find?_cons_of_neg (by simp; exact fun e' => e e'.symm)]
theorem Tm.gone {W4 W5 : World} {n4 nc5 : Nat} (h : Tm w t p c g nc ng (A ++ q :: B) T N) (T4 : Touch [p] w W4) (m4 : MapK KI W4 p n4 (kdel (ptr (A ++ q :: B)) q.R.run)) (h4 : n4 = (A ++ B).length) (T5 : Touch [c] W4 W5) (m5 : MapK KC W5 c nc5 (curV (outR T q.R.run))) (h5 : nc5 ≤ N) : Tm W5 t p c g nc5 ng (A ++ B) (outR T q.R.run) N ∧ Touch [p, c] w W5 := by
 obtain ⟨hA, hB⟩ := h.after
 obtain ⟨nt1, nt2, nt3⟩ := h.tne
 have TT : Touch [p, c] w W5 := (T4.mono (by simp)).trans (T5.mono (by simp)) (fun i hi => Or.inl hi)
 have hin : ∀ x, x ∈ A ++ B → x ∈ A ++ q :: B := fun x hx => by rcases List.mem_append.1 hx with e | e <;> simp [e]
 refine ⟨⟨?_, TT.keep h.bl (by simp [nt1, nt2]), ?_, m5, h.gm.keep TT (fun d hd e => ?_), h.pc, h.gp, h.gc, h5, h.lg, fun x hx => (h.recs x (hin x hx)).keep TT (fun d hd e => ?_), fun x hx => h.far x (hin x hx), ?_, h.iv.outR _⟩, TT⟩
 ·simp only [outR, h.rs]; exact rs_out hA hB
 ·rw [← h4]; exact (m4.keep T5 (by simp [h.pc])).congr (fun n _ => ptr_out hA hB n)
 ·simp only [List.mem_cons, List.not_mem_nil, or_false] at e
  rcases e with e | e
  ·exact h.gp (by rw [hd, e])
  ·exact h.gc (by rw [hd, e])
 ·have := h.far x (hin x hx) d hd
  simp only [List.mem_cons, List.not_mem_nil, or_false] at e
  rcases e with e | e
  ·exact this.2.1 e
  ·exact this.2.2.1 e
 ·obtain ⟨a1, a2, a3⟩ := List.pairwise_append.1 h.apart
  exact List.pairwise_append.2 ⟨a1, (List.pairwise_cons.1 a2).2, fun a ha b hb => a3 a ha b (by simp [hb])⟩
theorem Tm.delP (h : Tm w t p c g nc ng (A ++ q :: B) T N) (hN : N ≤ 3000000000000) (ty : TypeId) : ∃ o, (Builtin.delete_ #[201, 3] ty #[.map (some p), .int .i64 q.R.run]).run Tryz.prog w = .ok (.tuple #[]) (setBlock w p o) ∧ Touch [p] w (setBlock w p o) ∧ MapK KI (setBlock w p o) p (A ++ B).length (kdel (ptr (A ++ q :: B)) q.R.run) := by
 obtain ⟨o, q1, q2⟩ := h.pm.del (t := 201) Tryz.underlying201 (h.w64 hN) ty
 rw [ptr_mid h.after.1] at q2
 refine ⟨o, q1, touch_setBlock (Touch.refl _ _) (Or.inl (by simp)) o, ?_⟩
 have e : (A ++ q :: B).length - 1 = (A ++ B).length := by simp
 simp only [Option.isSome_some, if_true] at q2
 rw [e] at q2
 exact q2
end
section
variable (w : World) (t : Nat) (F : List Nat) (T : Tb) (N : Nat)
def TeE (e : Ending) (w w' : World) (t : Nat) (F : List Nat) (T : Tb) (n : Int) (o : O) (N : Nat) : Prop := ∃ v, e = .returned (.tuple #[v, .bool (tEndC T n o), .int .i64 (tEndE T n o)]) ∧ Tv w.heap.size w' v (tEndL T n o) o ∧ TqE w w' t F (tEnd T n o) N
set_option maxHeartbeats 2000000 in
theorem tEnd_no (h : Tq w t F T N) (n : Int) (o : O) (hn : W64 n) (hr : runOf T n = none) : Calls Tryz.prog 67 #[PT t, .int .i64 n, ov o] w fun e w' => e = .returned (.tuple #[.slice none 0 0, .bool false, .int .i64 122]) ∧ Touch [] w w' := by
 obtain ⟨p, c, g, nc, ng, Ps, rfl, h, hL⟩ := h
 have HR := hid (fun o => tRecord (h.keep0 ((Touch.refl _ _).alloc o)) n hn)
 rw [h.notIn hr] at HR
 simp only [Option.getD_none] at HR
 clear h
 unfold PT ov at *
 go_enter Tryz.func67, Tryz.ntmps67
 go_wp2_with (go_at_call 109; refine (HR.out _).mono ?_; rintro e w2 ⟨rfl, rfl⟩)
 refine bodyPost_ret (v := .tuple #[.slice none 0 0, .bool false, .int .i64 122]) (by simp [results, Tryz.results67, go_sem]) rfl ⟨rfl, ?_⟩
 repeat (first | exact Touch.refl _ _ | apply Touch.alloc | (refine Touch.setCell ?_ (Or.inr (by simp)) _))
set_option maxHeartbeats 4000000 in
set_option maxRecDepth 100000 in
theorem tEnd_at {p c : Nat} {g : Option Nat} {nc ng : Nat} {A B : List Rb} {q : Rb} (h : Tm w t p c g nc ng (A ++ q :: B) T N) (hN : N ≤ 3000000000000) (hL : Lv T) (o : O) :
  Calls Tryz.prog 67 #[PT t, .int .i64 q.R.run, ov o] w fun e w' => ∃ v, e = .returned (.tuple #[v, .bool (decide (endE q.S o = 0) && isCur T q.R), .int .i64 (endE q.S o)]) ∧ Tv w.heap.size w' v (endL q.S o) o ∧ TqE w w' t (fpT t p c g (A ++ q :: B)) (if endE q.S o = 0 then outR T q.R.run else T) N := by
 obtain ⟨F, hFe⟩ : ∃ F, F = fpT t p c g (A ++ q :: B) := ⟨_, rfl⟩
 obtain ⟨W, hW⟩ : ∃ W, W = w.alloc (.cells #[.int .i64 o.1, .int .i64 o.2.1, .int .i64 o.2.2.1, .int .i64 o.2.2.2] 39) := ⟨_, rfl⟩
 have t0 : Touch [] w W := by rw [hW]; exact (Touch.refl _ _).alloc _
 have hz0 := t0.size
 have hF : ∀ d, d ∈ F → d < w.heap.size := by rw [hFe]; exact h.lt
 have h1 := h.keep0 t0
 have HR := hid (tRecord_at h1 hN)
 have HE := hid (end11 W q.b N q.F q.R q.S (h1.recs q (by simp)) hN o)
 unfold EnE at HE
 have hb : W.heap[w.heap.size]? = some (.cells #[.int .i64 o.1, .int .i64 o.2.1, .int .i64 o.2.2.1, .int .i64 o.2.2.2] 39 (0, 0)) := by rw [hW]; exact heap_alloc_new w _
 obtain ⟨x0, x1, x2, x3⟩ : W.cell? ⟨w.heap.size, 0, none⟩ = some (.int .i64 o.1) ∧ W.cell? ⟨w.heap.size, 1, none⟩ = some (.int .i64 o.2.1) ∧ W.cell? ⟨w.heap.size, 2, none⟩ = some (.int .i64 o.2.2.1) ∧ W.cell? ⟨w.heap.size, 3, none⟩ = some (.int .i64 o.2.2.2) := ⟨cell_at hb rfl, cell_at hb rfl, cell_at hb rfl, cell_at hb rfl⟩
 have lp := h.pm.lt
 have lc := h.cm.lt
 rw [← hFe]
 by_cases hz : endE q.S o = 0
 ·have hcu : isCur (setS T q.R.run (endS q.S o)) q.R = isCur T q.R := rfl
  have HP : Hid (∀ w2, RqE W w2 q.b q.F q.R (endS q.S o) N → ∃ q', q'.R = q.R ∧ q'.b = q.b ∧ Tm w2 t p c g nc ng (A ++ q' :: B) (setS T q.R.run (endS q.S o)) N ∧ Touch F W w2) := fun w2 e => by
   obtain ⟨f, r1, r2, r3⟩ := h1.step e (Nat.le_refl N)
   exact ⟨⟨q.R, endS q.S o, q.b, f⟩, rfl, rfl, r1, by rw [hFe]; exact r2.mono fp_rec⟩
  have hfin : ∀ w2 q' w3 W4 W5 nc5, q'.R = q.R → Tm w2 t p c g nc ng (A ++ q' :: B) (setS T q.R.run (endS q.S o)) N → Touch F W w2 → Touch [] w2 w3 → Touch [p] w3 W4 → MapK KI W4 p (A ++ B).length (kdel (ptr (A ++ q' :: B)) q.R.run) → Touch [c] W4 W5 → MapK KC W5 c nc5 (curV (outR T q.R.run)) → nc5 ≤ N → TqE w W5 t F (outR T q.R.run) N := fun w2 q' w3 W4 W5 nc5 e1 m2 tf t3 t4 m4 t5 m5 h5 => by
   rw [← e1] at m2 m4 m5 ⊢
   rw [← outR_setS T q'.R.run (endS q.S o)] at m5 ⊢
   obtain ⟨g1, g2⟩ := (m2.keep0 t3).gone t4 m4 rfl t5 m5 h5
   refine TqE.from0 t0 ⟨_, ⟨p, c, g, nc5, ng, A ++ B, rfl, g1, ?_⟩, (tf.trans t3 (fun _ e => by cases e)).trans g2 (fun i hi => ?_), fun d hd => ?_⟩
   ·rw [outR_setS]; exact hL.outR
   ·rw [hFe]
    simp only [List.mem_cons, List.not_mem_nil, or_false] at hi
    rcases hi with e | e
    ·exact Or.inl (mem_fpT.2 (Or.inr (Or.inl e)))
    ·exact Or.inl (mem_fpT.2 (Or.inr (Or.inr (Or.inl e))))
   ·rw [hFe]
    rcases mem_fpT.1 hd with e | e | e | e | ⟨x, hx, e⟩
    ·exact Or.inl (mem_fpT.2 (Or.inl e))
    ·exact Or.inl (mem_fpT.2 (Or.inr (Or.inl e)))
    ·exact Or.inl (mem_fpT.2 (Or.inr (Or.inr (Or.inl e))))
    ·exact Or.inl (mem_fpT.2 (Or.inr (Or.inr (Or.inr (Or.inl e)))))
    ·refine Or.inl (mem_fpT.2 (Or.inr (Or.inr (Or.inr (Or.inr ⟨x, ?_, e⟩)))))
     rcases List.mem_append.1 hx with e' | e' <;> simp [e']
  have HX := hid hfin
  have hmem := h.memR
  have hiv := h.iv
  have hco := curOf_outR hiv hmem
  simp only at hco
  have HI : Hid (∀ w2 q', q'.R = q.R → q'.b = q.b → Tm w2 t p c g nc ng (A ++ q' :: B) (setS T q.R.run (endS q.S o)) N → Calls Tryz.prog 115 #[PT t, .int .i64 q.R.run] w2 fun e w' => e = .returned (.bool (isCur T q.R)) ∧ Touch [] w2 w') := fun w2 q' e1 e2 m2 => by
   have := tIsCur_at m2 hN
   rw [e1, hcu] at this
   exact this
  have HD : Hid (∀ w2 q' w3, q'.R = q.R → Tm w2 t p c g nc ng (A ++ q' :: B) (setS T q.R.run (endS q.S o)) N → Touch [] w2 w3 → w3.cell? ⟨t, 2, none⟩ = some (.map (some p)) ∧ ∃ ob, (∀ ty, (Builtin.delete_ #[201, 3] ty #[.map (some p), .int .i64 q.R.run]).run Tryz.prog w3 = .ok (.tuple #[]) (setBlock w3 p ob)) ∧ Touch [p] w3 (setBlock w3 p ob) ∧ MapK KI (setBlock w3 p ob) p (A ++ B).length (kdel (ptr (A ++ q' :: B)) q.R.run)) := fun w2 q' w3 e1 m2 t3 => by
   obtain ⟨ob, r1, r2, r3⟩ := (m2.keep0 t3).delP hN 0
   rw [e1] at r1 r3
   exact ⟨(m2.keep0 t3).cs.c2, ob, fun ty => r1, r2, r3⟩
  have HV : Hid (∀ w2 v w3 W4 W5, Tv W.heap.size w2 v (endL q.S o) o → Touch [] w2 w3 → Touch [p] w3 W4 → Touch [c] W4 W5 → Tv w.heap.size W5 v (endL q.S o) o) := fun w2 v w3 W4 W5 v2 t3 t4 t5 =>
   ((((v2.keep0 t3).keep t4 (fun k hk => Or.inl (by simp only [List.mem_singleton] at hk; omega))).keep t5 (fun k hk => Or.inl (by simp only [List.mem_singleton] at hk; omega)))).low hz0
  rw [hz] at HE
  rw [hz, if_pos rfl, show decide ((0 : Int) = 0) = true from rfl, Bool.true_and]
  have nt2 := h.tne.2.1
  have nt1 := h.tne.1
  have hpc := h.pc
  cases hc : isCur T q.R with
  | false =>
   rw [hc] at HI
   have HM : Hid (∀ w2 q' w3 W4, q'.R = q.R → Tm w2 t p c g nc ng (A ++ q' :: B) (setS T q.R.run (endS q.S o)) N → Touch [] w2 w3 → Touch [p] w3 W4 → MapK KC W4 c nc (curV (outR T q.R.run)) ∧ nc ≤ N) := fun w2 q' w3 W4 e1 m2 t3 t4 => by
    refine ⟨((m2.keep0 t3).cm.keep t4 (by simp; exact Ne.symm m2.pc)).congr (fun k _ => ?_), m2.lc⟩
    unfold curV
    rw [curOf_setS, hco k, hc, if_neg (by simp)]
   clear h h1 hF hb hfin hcu hco hmem hiv hc hz t0 hFe hL
   unfold PT ov at *
   go_enter Tryz.func67, Tryz.ntmps67
   go_upto_region 1 with fail
   rw [← hW]
   clear hW
   go_wp2_with (first
    | (go_at_call 109; refine HR.out.mono ?_; rintro e w2 ⟨rfl, rfl⟩)
    | (go_at_call 114; refine HE.out.mono ?_; rintro e w2 ⟨v, rfl, v2, r2⟩; obtain ⟨q', e1, e2, m2, tf⟩ := HP.out _ r2; have V2 := hid v2; have M2 := hid m2; have TF := hid tf; clear r2 v2 m2 tf x0 x1 x2 x3)
    | (go_at_call 115; refine (HI.out _ _ e1 e2 M2.out).mono ?_; rintro e w3 ⟨rfl, t3⟩; have T3 := hid t3; obtain ⟨c2, ob, dl, t4, m4⟩ := HD.out _ _ _ e1 M2.out t3; have T4 := hid t4; have M4 := hid m4; clear t3 t4 m4))
   obtain ⟨m5, h5⟩ := HM.out _ _ _ _ e1 M2.out T3.out T4.out
   exact bodyPost_ret (v := .tuple #[v, .bool false, .int .i64 0]) (by simp [results, Tryz.results67, go_sem]) rfl ⟨v, rfl, HV.out _ _ _ _ _ V2.out T3.out T4.out (Touch.refl _ _), HX.out _ _ _ _ _ _ e1 M2.out TF.out T3.out T4.out M4.out (Touch.refl _ _) m5 h5⟩
  | true =>
   rw [hc] at HI
   have hok := hiv.ok _ hmem
   have HM : Hid (∀ w2 q' w3 W4, q'.R = q.R → q'.b = q.b → Tm w2 t p c g nc ng (A ++ q' :: B) (setS T q.R.run (endS q.S o)) N → Touch [] w2 w3 → Touch [p] w3 W4 → ∀ w5, Touch [] W4 w5 → w5.cell? ⟨t, 3, none⟩ = some (.map (some c)) ∧ (Calls Tryz.prog 111 #[PT q.b] w5 fun e w' => e = .returned (rv q.R) ∧ Touch [] w5 w') ∧ ∃ ob, (∀ ty, (Builtin.delete_ #[202, 35] ty #[.map (some c), .agg #[.int .u16 q.R.sp, .string q.R.nm]]).run Tryz.prog w5 = .ok (.tuple #[]) (setBlock w5 c ob)) ∧ Touch [c] W4 (setBlock w5 c ob) ∧ ∃ nc5, nc5 ≤ N ∧ MapK KC (setBlock w5 c ob) c nc5 (curV (outR T q.R.run))) := fun w2 q' w3 W4 e1 e2 m2 t3 t4 w5 t5 => by
    have mm := m2.keep0 t3
    have tp : Touch [p] w3 w5 := t4.trans t5 (fun _ e => by cases e)
    refine ⟨cell_at (tp.keep mm.bl (by simp; exact nt1)) rfl, ?_, ?_⟩
    ·have := run8 w5 q'.b N q'.F q'.R q'.S ((mm.recs q' (by simp)).keep tp (fun d hd e => by simp only [List.mem_singleton] at e; exact (mm.far q' (by simp) d hd).2.1 e))
     rw [e1, e2] at this
     exact this
    ·obtain ⟨ob, r1, r2⟩ := (mm.cm.keep tp (by simp; exact Ne.symm hpc)).del (t := 202) Tryz.underlying202 hok 0
     refine ⟨ob, fun ty => r1, (t5.mono (fun _ e => by cases e)).trans (touch_setBlock (Touch.refl [c] _) (Or.inl (by simp)) ob) (fun i hi => Or.inl hi), _, ?_, r2.congr (fun k _ => ?_)⟩
     ·have := m2.lc
      split <;> omega
     ·unfold kdel curV
      rw [curOf_setS, hco k, hc]
      by_cases ek : k = kOf q.R
      ·rw [if_pos ek, if_pos ⟨rfl, ek⟩]; rfl
      ·rw [if_neg ek, if_neg (fun e => ek e.2)]
   clear h h1 hF hb hfin hcu hco hmem hiv hc hz t0 hFe hL hok
   unfold PT ov at *
   unfold rv at HM
   go_enter Tryz.func67, Tryz.ntmps67
   go_upto_region 1 with fail
   rw [← hW]
   clear hW
   go_wp2_with (first
    | (go_at_call 109; refine HR.out.mono ?_; rintro e w2 ⟨rfl, rfl⟩)
    | (go_at_call 114; refine HE.out.mono ?_; rintro e w2 ⟨v, rfl, v2, r2⟩; obtain ⟨q', e1, e2, m2, tf⟩ := HP.out _ r2; have V2 := hid v2; have M2 := hid m2; have TF := hid tf; clear r2 v2 m2 tf x0 x1 x2 x3)
    | (go_at_call 115; refine (HI.out _ _ e1 e2 M2.out).mono ?_; rintro e w3 ⟨rfl, t3⟩; have T3 := hid t3; obtain ⟨c2, ob, dl, t4, m4⟩ := HD.out _ _ _ e1 M2.out t3; have T4 := hid t4; have M4 := hid m4; clear t3 t4 m4))
   have HM2 := hid (HM.out _ _ _ _ e1 e2 M2.out T3.out T4.out)
   generalize hW4 : setBlock w3 p ob = W4 at *
   have C3 : ∀ w', Touch [] W4 w' → w'.cell? ⟨t, 3, none⟩ = some (.map (some c)) := fun w' T' => (HM2.out w' T').1
   have k0 : Touch [] W4 W4.drew := (Touch.refl _ _).drew
   refine wp_region_L (S := fun w' => Touch [] W4 w') (st := 7) (by kernel_rfl) ?_
   refine wpL_takeY (i := 0) (v := (.pointer (some ⟨t, 0, none⟩))) (some 36) rfl rfl (by kernel_rfl) (by kernel_rfl) (by kernel_rfl) (by decide) (fun _ _ _ h => h) (Or.inl ⟨by rfl, fun w' hS => (by go_simp)⟩) (fun _ => k0) ?_
   try simp only [Go.Act.put, Zx, Zy, Zz]
   refine wpL_takeY (i := 1) (v := (.pointer (some ⟨t, 0, none⟩))) (some 37) rfl rfl (by kernel_rfl) (by kernel_rfl) (by kernel_rfl) (by decide) (fun _ _ _ h => h) (Or.inl ⟨by rfl, fun w' hS => (by go_simp)⟩) (fun _ => k0) ?_
   try simp only [Go.Act.put, Zx, Zy, Zz]
   refine wpL_takeY (i := 2) (v := (.pointer (some ⟨t, 3, none⟩))) (some 38) rfl rfl (by kernel_rfl) (by kernel_rfl) (by kernel_rfl) (by decide) (fun _ _ _ h => h) (Or.inl ⟨by rfl, fun w' hS => (by go_simp)⟩) (fun _ => k0) ?_
   try simp only [Go.Act.put, Zx, Zy, Zz]
   refine wpL_take (i := 3) (v := (.map (some c))) (some 39) rfl rfl (by kernel_rfl) (by kernel_rfl) (by kernel_rfl) (by kernel_rfl) (by kernel_rfl) (by decide) (fun _ _ _ h => h) (Or.inl ⟨by rfl, fun w' hS => (by have z0 := C3 _ hS; go_simp)⟩) k0 ?_
   try simp only [Go.Act.put, Zx, Zy, Zz]
   refine wpL_takeY (i := 4) (v := (.pointer (some ⟨q.b, 0, none⟩))) (some 40) rfl rfl (by kernel_rfl) (by kernel_rfl) (by kernel_rfl) (by decide) (fun _ _ _ h => h) (Or.inl ⟨by rfl, fun w' hS => (by go_simp)⟩) (fun _ => k0) ?_
   try simp only [Go.Act.put, Zx, Zy, Zz]
   refine wpL_ready (rs := [5]) (by kernel_rfl) (by simp) (AllL.cons (o := { dst := some 41, op := Op.call { callee := Callee.value (Operand.func 111), args := #[Operand.tmp 40], argTypes := #[206] }, type := 49, pos := _, after := #[{ on := 4, ground := Ground.data }], guard := none }) rfl (fun K' hK => ?_) AllL.nil)
   rw [if_pos (by rfl)]
   go_simp
   refine (HM2.out _ k0).2.1.mono ?_
   rintro e' w5 ⟨rfl, s5⟩
   have k5 : Touch [] W4 w5 := k0.trans' s5
   refine hK.out _ _ (fun _ => k5) ?_
   clear hK
   try simp only [Go.Act.put, Zx, Zy, Zz]
   obtain ⟨-, -, ob5, dl5, t5, nc5, h5, m5⟩ := HM2.out _ k5
   have dl5' := dl5 0
   refine wpL_take (i := 6) (v := (.agg #[.int .u16 q.R.sp, .string q.R.nm])) (some 42) rfl rfl (by kernel_rfl) (by kernel_rfl) (by kernel_rfl) (by kernel_rfl) (by kernel_rfl) (by decide) (fun _ _ _ h => h) (Or.inl ⟨by rfl, fun w' hS => (by have z0 := runKey w' q.R.run q.R.sp q.R.gen q.R.nm q.R.rf; go_simp)⟩) k5 ?_
   try simp only [Go.Act.put, Zx, Zy, Zz]
   refine wpL_ready (rs := [7]) (by kernel_rfl) (by simp) (AllL.cons (o := { dst := none, op := Op.call { callee := Callee.builtin Builtin.delete, args := #[Operand.tmp 39, Operand.tmp 42], argTypes := #[202, 35] }, type := 0, pos := _, after := #[{ on := 3, ground := Ground.data }, { on := 6, ground := Ground.data }, { on := 5, ground := Ground.chain }], guard := none }) rfl (fun K' hK => ?_) AllL.nil)
   rw [if_pos (by rfl)]
   go_simp
   refine hK.out _ _ (fun h => absurd h (by decide)) ?_
   clear hK
   try simp only [Go.Act.put, Zx, Zy, Zz]
   refine wpL_done (by kernel_rfl) ?_ _
   go_wp2
   exact bodyPost_ret (v := .tuple #[v, .bool true, .int .i64 0]) (by simp [results, Tryz.results67, go_sem]) rfl ⟨v, rfl, HV.out _ _ _ _ _ V2.out T3.out T4.out t5, HX.out _ _ _ _ _ _ e1 M2.out TF.out T3.out T4.out M4.out t5 m5 h5⟩
 ·have es : endS q.S o = q.S := by unfold endS; rw [if_neg hz]
  have el : endL q.S o = [] := by unfold endL; rw [if_neg hz]
  have hz' : (endE q.S o != 0) = true := by simp [hz]
  rw [es] at HE
  rw [el, if_neg hz, show decide (endE q.S o = 0) = false by simp [hz], Bool.false_and]
  have HP : Hid (∀ w2, RqE W w2 q.b q.F q.R q.S N → TqE w w2 t F T N) := fun w2 e => by
   have := h1.stepE e (Nat.le_refl N) hL (hL _ h.memR)
   rw [h.self, ← hFe] at this
   exact TqE.from0 t0 this
  have HV := hid (fun w2 => Tv.nil w.heap.size w2 o)
  clear h h1 hF hb es el hz t0 hFe hL hz0 lp lc
  generalize endE q.S o = E at *
  generalize endL q.S o = L at *
  unfold PT ov at *
  go_enter Tryz.func67, Tryz.ntmps67
  go_upto_region 1 with fail
  rw [← hW]
  clear hW
  go_wp2_with (first
   | (go_at_call 109; refine HR.out.mono ?_; rintro e w2 ⟨rfl, rfl⟩)
   | (go_at_call 114; refine HE.out.mono ?_; rintro e w2 ⟨v, rfl, v2, r2⟩; have R2 := hid (HP.out _ r2); clear r2 v2 x0 x1 x2 x3))
  exact bodyPost_ret (v := .tuple #[.slice none 0 0, .bool false, .int .i64 E]) (by simp [results, Tryz.results67, go_sem]) rfl ⟨_, rfl, HV.out _, R2.out⟩
theorem endT (h : Tq w t F T N) (hN : N ≤ 3000000000000) (n : Int) (o : O) (hn : W64 n) : Calls Tryz.prog 67 #[PT t, .int .i64 n, ov o] w fun e w' => TeE e w w' t F T n o N := by
 unfold TeE tEndC tEndE tEndL tEnd
 cases hr : runOf T n with
 | none => exact (tEnd_no w t F T N h n o hn hr).mono (fun e w' hh => ⟨_, hh.1, Tv.nil _ _ _, TqE.touch h hh.2 (Nat.le_refl N)⟩)
 | some r =>
  obtain ⟨p, c, g, nc, ng, Ps, rfl, h, hL⟩ := h
  obtain ⟨A, q, B, rfl, rfl, rfl, _⟩ := h.found hr
  exact tEnd_at w t T N h hN hL o
end
end Go.Proofs.YtllchnancjgijaaGreat.Ta
/- What leaving, forgetting, ending and sending do, in plain words, and the parts' contracts for them as steps of the group; no conditions but those that each states. -/
namespace Go.Proofs.YtllchnancjgijaaGreat
open Go.RowKit Go.Maps Go.ChangeMaps
section
variable {w w1 : World} {g : Nat} {P : Pt} {F : List Nat} {X : Gp} {N : Cn}
theorem trel_at (Q : GqE w w1 g P F X N) (hN : N.t ≤ 3000000000000) {n : Int} (hn : W64 n) : Calls Tryz.prog 64 #[PT P.t, .int .i64 n] w1 fun e w2 => e = .returned (.tuple #[.agg #[.bool (Ta.tRelC X.T n), .bool (Ta.tRelA X.T n)], .int .i64 (Ta.tRelE X.T n)]) ∧ GqE w w2 g P F { X with T := Ta.tRel X.T n } { N with t := N.t + 1 } ∧ Keeps w1 w2 := by
 obtain ⟨Ft, h, hs⟩ := Q.tab
 exact (Ta.relT w1 P.t Ft X.T N.t h hN n hn).mono (fun e w2 hh => ⟨hh.1, hs _ _ _ hh.2⟩)
theorem tend_at (Q : GqE w w1 g P F X N) (hN : N.t ≤ 3000000000000) {n : Int} (o : O) (hn : W64 n) : Calls Tryz.prog 67 #[PT P.t, .int .i64 n, Me.ov o] w1 fun e w2 => ∃ v, e = .returned (.tuple #[v, .bool (Ta.tEndC X.T n o), .int .i64 (Ta.tEndE X.T n o)]) ∧ Ta.Tv w1.heap.size w2 v (Ta.tEndL X.T n o) o ∧ GqE w w2 g P F { X with T := Ta.tEnd X.T n o } N ∧ Keeps w1 w2 := by
 obtain ⟨Ft, h, hs⟩ := Q.tab
 refine (Ta.endT w1 P.t Ft X.T N.t h hN n o hn).mono ?_
 rintro e w2 ⟨v, e1, e2, e3⟩
 exact ⟨v, e1, e2, hs _ _ _ e3⟩
theorem trun_at (Q : GqE w w1 g P F X N) (hN : N.t ≤ 3000000000000) {n : Int} (hn : W64 n) : Calls Tryz.prog 66 #[PT P.t, .int .i64 n] w1 fun e w2 => e = .returned (.tuple #[Ta.rv (Ta.rnOf X.T n), .bool (Ta.runOf X.T n).isSome]) ∧ GqE w w2 g P F X N ∧ Keeps w1 w2 := by
 obtain ⟨Ft, h, hs⟩ := Q.tab
 exact (Ta.runT w1 P.t Ft X.T N.t h hN n hn).mono (fun e w2 hh => ⟨hh.1, Q.then0' hh.2⟩)
theorem send_at (Q : GqE w w1 g P F X N) (hN : N.s ≤ 4400000000000) {n : Int} (hn : W64 n) : Calls Tryz.prog 68 #[PT P.s, .int .i64 n] w1 fun e w2 => (∃ a m c, e = .returned (.slice a m c)) ∧ GqE w w2 g P F { X with L := Lv.outL 1 n X.L } N ∧ Keeps w1 w2 := by
 obtain ⟨Fs, h, hs⟩ := Q.sea
 refine (Lv.end_ h hn (by omega)).mono ?_
 rintro e w2 ⟨a, c, e1, e2, e3⟩
 exact ⟨⟨a, _, c, e1⟩, hs _ _ _ _ e3⟩
end
section
variable {w : World} {g : Nat} {P : Pt} {F : List Nat} {X : Gp} {N : Cn}
end
end Go.Proofs.YtllchnancjgijaaGreat
/- The contract of release; no conditions but those that it states. -/
namespace Go.Proofs.YtllchnancjgijaaGreat
open Go.RowKit Go.Maps Go.ChangeMaps
def rlR (X : Gp) (k : K) : Int := ((Ta.curOf X.T k).map Ta.Rn.run).getD 0
def rlX (X : Gp) : List K → Gp
 | [] => X
 | k :: _ => { X with T := Ta.tRel X.T (rlR X k) }
def rlL (X : Gp) : List K → List Int
 | [] => []
 | k :: _ => if Ta.tRelC X.T (rlR X k) then [rlR X k] else []
theorem rlR_w {X : Gp} {M : Nat} (h : Ta.Ti X.T M) (hM : M ≤ 3000000000000) (k : K) : W64 (rlR X k) := by
 unfold rlR
 cases hc : Ta.curOf X.T k with
 | none => exact W64.mk (by simp) (by simp)
 | some R =>
  obtain ⟨⟨S, hm⟩, -, -⟩ := Ta.curOf_some hc
  have h1 := h.rng _ hm
  have h2 := h.bg
  simp only at h1
  exact W64.mk (by simp; omega) (by simp; omega)
theorem RT_keeps {w w' : World} {v : Value} {xs : List K} (h : Me.RT 35 w v xs) (hk : Keeps w w') : Me.RT 35 w' v xs := own_keep h (fun b hb => by
 obtain ⟨cs, hc⟩ := own_kind h hb
 rw [hc]
 exact hk _ _ _ _ (by decide) hc)
theorem info3z : (Tryz.prog.info? 3).map (fun i => (i.zero, i.size, i.bytes)) = some (some (.int .i64 0), 1, 8) := by kernel_rfl
def RlI (w wr : World) (g : Nat) (P : Pt) (F : List Nat) (X : Gp) (N : Cn) (v : Value) (gs : List K) (i : Nat) (lv : Value) : Prop := Me.RT 35 wr v gs ∧ ((i = 0 ∧ lv = .slice none 0 0 ∧ GqE w wr g P F X N) ∨ (i = gs.length ∧ 0 < i ∧ Snt wr lv (rlL X gs) ∧ GqE w wr g P F (rlX X gs) { N with t := N.t + 1 }))
section
variable {w : World} {g : Nat} {P : Pt} {F : List Nat} {X : Gp} {N : Cn}
set_option maxHeartbeats 16000000 in
theorem release_ (h : Gq w g P F X N) (v : Value) (gs : List K) (hv : Me.RT 35 w v gs) (hl : gs.length ≤ 1) (hok : ∀ k ∈ gs, Ok k) (hN : N.t ≤ 2900000000000) : Calls Tryz.prog 71 #[PT g, v] w fun e w' => ∃ v', e = .returned v' ∧ Snt w' v' (rlL X gs) ∧ GqE w w' g P F (rlX X gs) { N with t := N.t + gs.length } := by
 have H0 : Hid (RlI w w g P F X N v gs 0 (.slice none 0 0)) := hid ⟨hv, Or.inl ⟨rfl, rfl, GqE.refl h⟩⟩
 obtain ⟨av, cv, rfl⟩ : ∃ a c, v = .slice a gs.length c := by obtain ⟨a, c, e, _⟩ := hv.form; exact ⟨a, c, e⟩
 have hw := fun k => rlR_w h.iv.2.1 (by omega) k
 have HW := hid hw
 have HNN := hid hN
 have HOK := hid hok
 have HL := hid hl
 obtain ⟨m, hm⟩ : ∃ m, m = gs.length := ⟨_, rfl⟩
 have HM := hid hm
 rw [← hm] at H0 ⊢
 clear h hv hw hN hok hl hm
 unfold PT at *
 go_enter Tryz.func71, Tryz.ntmps71
 go_wp2
 go_loopw [5, 14] (fun s5 s14 wr => ∃ i : Nat, s14 = .int .i64 (i : Int) ∧ i ≤ m ∧ ∃ a5 n5 c5, s5 = .slice a5 n5 c5 ∧ Hid (RlI w wr g P F X N (.slice av m cv) gs i (.slice a5 n5 c5))) (fun _ i _ => m - (intOf i).toNat)
 case atStart => exact ⟨0, rfl, Nat.zero_le _, none, 0, 0, rfl, H0⟩
 case round =>
  clear H0
  obtain ⟨i, rfl, hi, a5, n5, c5, rfl, HR⟩ := hrel
  by_cases hlt : i < m
  ·have zi : (i : Int) < (m : Int) := by omega
   have zL : (m : Int) < 9223372036854775807 := by have := HL.out; have := HM.out; omega
   obtain ⟨k, hk⟩ : ∃ k, gs = [k] := by
    have h1 := HL.out
    have h2 := HM.out
    match gs, h1, h2 with
    | [], _, h2 => simp at h2; omega
    | [k], _, _ => exact ⟨k, rfl⟩
    | _ :: _ :: _, h1, _ => simp at h1
   subst hk
   have hm1 : m = 1 := by have := HM.out; simpa using this
   subst hm1
   have hi0 : i = 0 := by omega
   subst hi0
   obtain ⟨V1, hV1⟩ : ∃ V1, V1 = wr.alloc (.cells #[.int .u16 k.1, .string k.2] 35) := ⟨_, rfl⟩
   have hR := HR.out
   obtain ⟨rt, ⟨-, e5, Q⟩ | ⟨e, e0, _⟩⟩ := hR
   case inr => omega
   simp only [Value.slice.injEq] at e5
   obtain ⟨rfl, rfl, rfl⟩ := e5
   obtain ⟨gg, hg, e0, e1⟩ : ∃ gg, av = some ⟨gg, 0, none⟩ ∧ wr.cell? ⟨gg, 0, none⟩ = some (.int .u16 k.1) ∧ wr.cell? ⟨gg, 1, none⟩ = some (.string k.2) := by
    obtain ⟨a, c, e, hc⟩ := rt.form
    obtain ⟨gg, hgg⟩ := hc 0 (by simp)
    simp only [Value.slice.injEq] at e
    obtain ⟨rfl, -, rfl⟩ := e
    subst hgg
    have := rt.cells 0 (by simp)
    exact ⟨gg, rfl, by simpa using this.1, by simpa using this.2⟩
   subst hg
   have tv1 : Touch [] wr V1 := by rw [hV1]; exact (Touch.refl _ _).alloc _
   have hb1 : V1.heap[wr.heap.size]? = some (.cells #[.int .u16 k.1, .string k.2] 35 (0, 0)) := by rw [hV1]; exact heap_alloc_new wr _
   have Q1 : GqE w V1.drew g P F X N := (Q.then0 tv1).then0 (Touch.refl _ _).drew
   have R1 := RT_keeps (RT_keeps rt tv1.keeps) ((Touch.refl [] V1).drew).keeps
   have hb1' := ((Touch.refl [] V1).drew).keep hb1 (by simp)
   have hk : Ok k := HOK.out k (by simp)
   have HC : Hid (Calls Tryz.prog 91 #[PT P.t, kv k] V1.drew fun e w2 => e = .returned (.tuple #[.int .i64 (rlR X k), .bool (Ta.curOf X.T k).isSome]) ∧ GqE w w2 g P F X N ∧ Me.RT 35 w2 (.slice (some ⟨gg, 0, none⟩) 1 cv) [k] ∧ w2.heap[wr.heap.size]? = some (.cells #[.int .u16 k.1, .string k.2] 35 (0, 0))) := hid ((cur_at Q1 k hk).mono (fun e w2 hh => ⟨hh.1, hh.2.1, RT_keeps R1 hh.2.2, hh.2.2 _ _ _ _ (by decide) hb1'⟩))
   have HRe : Hid (∀ w1, GqE w w1 g P F X N → Me.RT 35 w1 (.slice (some ⟨gg, 0, none⟩) 1 cv) [k] → Calls Tryz.prog 64 #[PT P.t, .int .i64 (rlR X k)] w1 fun e w2 => (∃ D E, e = .returned (.tuple #[.agg #[.bool (Ta.tRelC X.T (rlR X k)), .bool D], .int .i64 E])) ∧ GqE w w2 g P F (rlX X [k]) { N with t := N.t + 1 } ∧ Me.RT 35 w2 (.slice (some ⟨gg, 0, none⟩) 1 cv) [k]) := hid (fun w1 Q R => (trel_at Q (by have := HNN.out; omega) (HW.out k)).mono (fun e w2 hh => ⟨⟨_, _, hh.1⟩, hh.2.1, RT_keeps R hh.2.2⟩))
   have HK : Hid (∀ w2, GqE w w2 g P F X N → w2.heap[wr.heap.size]? = some (.cells #[.int .u16 k.1, .string k.2] 35 (0, 0)) → Kg w2 g P X.now wr.heap.size k) := hid (fun w2 Q B => ⟨Q.cs, cell_at B rfl, cell_at B rfl⟩)
   have HE : Hid (∀ w1 o lv, GqE w w1 g P F (rlX X [k]) { N with t := N.t + 1 } → Me.RT 35 w1 (.slice (some ⟨gg, 0, none⟩) 1 cv) [k] → Snt (w1.alloc o) lv (rlL X [k]) → RlI w (w1.alloc o) g P F X N (.slice (some ⟨gg, 0, none⟩) 1 cv) [k] 1 lv) := hid (fun w1 o lv Q R s => ⟨RT_keeps R ((Touch.refl [] _).alloc o).keeps, Or.inr ⟨rfl, by omega, s, Q.then0 ((Touch.refl _ _).alloc o)⟩⟩)
   have HEG : Hid (∀ (w1 w3 : World) (o o2 : Obj) lv, GqE w w1 g P F (rlX X [k]) { N with t := N.t + 1 } → Me.RT 35 w1 (.slice (some ⟨gg, 0, none⟩) 1 cv) [k] → ((w1.alloc o).alloc o2).grownBy w3 none → w3.ownsRow w1.heap.size 3 1 lv 1 [.int .i64 (rlR X k)] → Ta.tRelC X.T (rlR X k) = true → RlI w w3 g P F X N (.slice (some ⟨gg, 0, none⟩) 1 cv) [k] 1 lv) := hid (fun w1 w3 o o2 lv Q R hg ho hc => by
    have t3 : Touch [] w1 w3 := (((Touch.refl [] w1).alloc o).alloc o2).grown hg (fun q hq => by cases hq)
    have e1 : rlL X [k] = [rlR X k] := by simp only [rlL, hc, if_true]
    refine ⟨RT_keeps R t3.keeps, Or.inr ⟨rfl, by omega, ?_, Q.then0 t3⟩⟩
    rw [e1]
    obtain ⟨a, c, e⟩ := own_form ho
    exact ⟨Rd.of_own (by simpa [ints] using ho), a, _, c, e⟩)
   have HS0 : Hid (Ta.tRelC X.T (rlR X k) = false → ∀ w2, Snt w2 (.slice none 0 0) (rlL X [k])) := hid (fun e w2 => by simp only [rlL, e, Bool.false_eq_true, if_false]; exact Snt.nil w2)
   have s0 : Kg V1.drew g P X.now wr.heap.size k := HK.out _ Q1 hb1'
   have C1 : ∀ w', Kg w' g P X.now wr.heap.size k → w'.cell? ⟨g, 1, none⟩ = some (.pointer (some ⟨P.t, 0, none⟩)) := fun _ h => h.gm.c1
   have K0 : ∀ w', Kg w' g P X.now wr.heap.size k → w'.cell? ⟨wr.heap.size, 0, none⟩ = some (.int .u16 k.1) := fun _ h => h.k0
   have K1 : ∀ w', Kg w' g P X.now wr.heap.size k → w'.cell? ⟨wr.heap.size, 1, none⟩ = some (.string k.2) := fun _ h => h.k1
   clear HR rt Q tv1 hb1 Q1 R1 hb1' hk hi hlt
   have HGM : Hid (∀ w2, GqE w w2 g P F X N → GmC w2 g P X.now) := hid (fun w2 Q => Q.cs)
   generalize Ta.tRelC X.T (rlR X k) = C at *
   generalize (Ta.curOf X.T k).isSome = B at *
   generalize rlR X k = r at *
   unfold kv PT at *
   go_upto_region 5 with fail
   rw [← hV1]
   clear hV1 e0 e1
   refine wp_region_H (S := fun w' => Kg w' g P X.now wr.heap.size k) (by kernel_rfl) ?_
   refine wpH_take (i := 0) (v := (.pointer (some ⟨g, 0, none⟩))) (some 19) rfl rfl (by kernel_rfl) (by kernel_rfl) (by kernel_rfl) (fun _ _ _ h => h) (Or.inl ⟨by rfl, fun w' hS => (by go_simp)⟩) s0 ?_
   try simp only [Go.Act.put, Zx, Zy, Zz]
   refine wpH_take (i := 1) (v := (.pointer (some ⟨g, 0, none⟩))) (some 20) rfl rfl (by kernel_rfl) (by kernel_rfl) (by kernel_rfl) (fun _ _ _ h => h) (Or.inl ⟨by rfl, fun w' hS => (by go_simp)⟩) s0 ?_
   try simp only [Go.Act.put, Zx, Zy, Zz]
   refine wpH_take (i := 2) (v := (.pointer (some ⟨g, 0, none⟩))) (some 21) rfl rfl (by kernel_rfl) (by kernel_rfl) (by kernel_rfl) (fun _ _ _ h => h) (Or.inl ⟨by rfl, fun w' hS => (by go_simp)⟩) s0 ?_
   try simp only [Go.Act.put, Zx, Zy, Zz]
   refine wpH_take (i := 3) (v := (.pointer (some ⟨g, 1, none⟩))) (some 22) rfl rfl (by kernel_rfl) (by kernel_rfl) (by kernel_rfl) (fun _ _ _ h => h) (Or.inl ⟨by rfl, fun w' hS => (by go_simp)⟩) s0 ?_
   try simp only [Go.Act.put, Zx, Zy, Zz]
   refine wpH_take (i := 4) (v := (.pointer (some ⟨P.t, 0, none⟩))) (some 23) rfl rfl (by kernel_rfl) (by kernel_rfl) (by kernel_rfl) (fun _ _ _ h => h) (Or.inl ⟨by rfl, fun w' hS => (by have z0 := C1 _ hS; go_simp)⟩) s0 ?_
   try simp only [Go.Act.put, Zx, Zy, Zz]
   refine wpH_take (i := 5) (v := (.agg #[.int .u16 k.1, .string k.2])) (some 24) rfl rfl (by kernel_rfl) (by kernel_rfl) (by kernel_rfl) (fun _ _ _ h => h) (Or.inl ⟨by rfl, fun w' hS => (by have z0 := K0 _ hS; have z1 := K1 _ hS; go_simp)⟩) s0 ?_
   try simp only [Go.Act.put, Zx, Zy, Zz]
   refine wpH_call (i := 6) (o := { dst := some 25, op := Op.call { callee := Callee.value (Operand.func 91), args := #[Operand.tmp 23, Operand.tmp 24], argTypes := #[103, 35] }, type := 118, pos := _, after := #[{ on := 4, ground := Ground.data }, { on := 5, ground := Ground.data }], guard := none }) (by kernel_rfl) rfl (fun K' hK => ?_)
   rw [if_pos (by rfl)]
   go_simp
   refine HC.out.mono ?_
   rintro e w2 ⟨rfl, q2, r2, b2⟩
   have s2 := HK.out _ q2 b2
   have Q2 := hid q2
   have R2 := hid r2
   clear q2 r2 b2
   refine hK.out _ _ s2 ?_
   clear hK
   try simp only [Go.Act.put, Zx, Zy, Zz]
   refine wpH_take (i := 7) (v := (.tuple #[(.int .i64 r), (.bool B)])) (some 18) rfl rfl (by kernel_rfl) (by kernel_rfl) (by kernel_rfl) (fun _ _ _ h => h) (Or.inl ⟨by rfl, fun w' hS => (by go_simp)⟩) s2 ?_
   try simp only [Go.Act.put, Zx, Zy, Zz]
   refine wpH_take (i := 8) (v := (.int .i64 r)) (some 26) rfl rfl (by kernel_rfl) (by kernel_rfl) (by kernel_rfl) (fun _ _ _ h => h) (Or.inl ⟨by rfl, fun w' hS => (by go_simp)⟩) s2 ?_
   try simp only [Go.Act.put, Zx, Zy, Zz]
   refine wpH_take (i := 9) (v := (.bool B)) (some 27) rfl rfl (by kernel_rfl) (by kernel_rfl) (by kernel_rfl) (fun _ _ _ h => h) (Or.inl ⟨by rfl, fun w' hS => (by go_simp)⟩) s2 ?_
   try simp only [Go.Act.put, Zx, Zy, Zz]
   refine wpH_take (i := 10) (v := (.int .i64 r)) (some 8) rfl rfl (by kernel_rfl) (by kernel_rfl) (by kernel_rfl) (fun _ _ _ h => h) (Or.inl ⟨by rfl, fun w' hS => (by go_simp)⟩) s2 ?_
   try simp only [Go.Act.put, Zx, Zy, Zz]
   refine wpH_take (i := 11) (v := (.bool B)) (some 9) rfl rfl (by kernel_rfl) (by kernel_rfl) (by kernel_rfl) (fun _ _ _ h => h) (Or.inl ⟨by rfl, fun w' hS => (by go_simp)⟩) s2 ?_
   try simp only [Go.Act.put, Zx, Zy, Zz]
   refine wpAnyH_done (by kernel_rfl) ?_ _
   have c1 := (HGM.out _ Q2.out).c1
   clear C1 K0 K1 s0 s2
   go_upto_region 7 with (go_at_call 64; refine (HRe.out _ Q2.out R2.out).mono ?_; rintro e w3 ⟨⟨D, E, rfl⟩, q3, r3⟩; have Q3 := hid q3; have R3 := hid r3; clear q3 r3 c1)
   cases C with
   | false =>
    have HX := hid (HE.out _ (.cells #[.bool false, .bool D] 143) _ Q3.out R3.out (HS0.out rfl _))
    go_wp2
    go_roundw
    case rel => exact ⟨_, _, _, _, _, _, .int .i64 ((1 : Nat) : Int), ⟨(1 : Nat), rfl, Nat.le_refl _, none, 0, 0, rfl, HX⟩, rfl, rfl, rfl, rfl, rfl, rfl, by go_num⟩
    case measure => simp [intOf]
   | true =>
    go_wp2_with (at_builtin; refine wpList_append_rs rfl _ _ 43 3 rfl (.int .i64 0) 1 8 info3z Tryz.underlying43 rfl (by decide) w3.heap.size (.slice none 0 0) 0 [] rfl (World.ownsRow_nil _ _ _ _) (.slice (some ⟨w3.heap.size + 1, 0, none⟩) 1 1) 1 [.int .i64 r] rfl (by have := Rs.new (w3.alloc (.cells #[.bool true, .bool D] 143)) #[.int .i64 r] 3 1 rfl; rwa [World.size_alloc] at this) (by intro z hz; simp at hz; subst hz; rfl) (by unfold maxLen; omega) (by omega) (by simp; omega) ?_; intro v5 w5 o5 g5 p5; obtain ⟨a5, c5, e5⟩ := own_form o5; subst e5; have HX := hid (HEG.out _ _ _ _ _ Q3.out R3.out g5 o5 rfl); clear o5 g5 p5)
    go_roundw
    case rel => exact ⟨_, _, _, _, _, _, .int .i64 ((1 : Nat) : Int), ⟨(1 : Nat), rfl, Nat.le_refl _, _, _, _, rfl, HX⟩, rfl, rfl, rfl, rfl, rfl, rfl, by go_num⟩
    case measure => simp [intOf]
  ·have HZ : Hid (Snt wr (.slice a5 n5 c5) (rlL X gs) ∧ GqE w wr g P F (rlX X gs) { N with t := N.t + m }) := hid (by
    have h1 := HL.out
    have h2 := HM.out
    obtain ⟨rt, ⟨e, e5, Q⟩ | ⟨e, e0, s, Q⟩⟩ := HR.out
    ·have hm0 : m = 0 := by omega
     rw [hm0] at h2
     have hg : gs = [] := List.length_eq_zero_iff.1 h2.symm
     rw [e5, hg, hm0]
     exact ⟨Snt.nil wr, Q⟩
    ·have hm1 : m = 1 := by omega
     rw [hm1]
     exact ⟨s, Q⟩)
   have zi : (m : Int) ≤ (i : Int) := by omega
   clear HR hlt hi
   go_wp2
   go_ret
   exact ⟨_, rfl, HZ.out.1, HZ.out.2⟩
end
end Go.Proofs.YtllchnancjgijaaGreat
