/- The walk of the law MemoPlays; no conditions but those that it states. -/
import Derived.Test.YtopepalpmkeffaaGac
import Derived.Test.YtopepalpmkeffaaChk
import Derived.Test.YtopepalpmkeffaaOpa
namespace Go.Proofs.Ytopepalpmkeffaa
open Go.RowKit Go.Sort Go.Maps Go.ChangeMaps Go.WideMaps
set_option linter.unusedVariables false
set_option linter.unusedSimpArgs false

set_option maxHeartbeats 8000000 in
set_option maxRecDepth 100000 in
theorem law3_ok (w : World) (c : Cf) (xs : List ActM) (v : Value) (wc : Wc c) (hv : SlM w v xs) (hw : ∀ x ∈ xs, WfM x) (hL : xs.length ≤ 1759218604390) (hc : okC c = true) :
    Calls Try.prog 3 #[cv c, v] w fun e w' => e = .returned (.bool true) ∧ Touch [] w w' := by
  obtain ⟨avx, cv', rfl⟩ : ∃ av cv, v = .slice av xs.length cv := by
    rcases hv with ⟨rfl, a, c, rfl⟩ | ⟨b, off, cap, rfl, _⟩
    · exact ⟨a, c, rfl⟩
    · exact ⟨_, _, rfl⟩
  have HRow : Hid (xs.length = 0 ∨ ∃ b off, avx = some ⟨b, off, none⟩ ∧ RowM w b off xs) := by
    rcases hv with ⟨rfl, _⟩ | ⟨b, off, cap, e, r⟩
    · exact Or.inl rfl
    · injection e with e1 e2 e3
      exact Or.inr ⟨b, off, e1, r⟩
  have HWf := hid hw
  clear hv hw
  obtain ⟨A, hA⟩ : ∃ A, A = xs.length := ⟨_, rfl⟩
  have HAx := hid hA
  rw [← hA] at HRow hL ⊢
  clear hA
  have zL : (A : Int) ≤ 1759218604390 := by omega
  obtain ⟨V, hV⟩ : ∃ V, V = w.alloc (cbx c 23) := ⟨_, rfl⟩
  have TV : Hid (Touch [] w V) := hid (by rw [hV]; exact (Touch.refl _ _).alloc _)
  have HC : Hid (∀ w', Touch [] V w' → C7 w' w.heap.size c) := hid (fun w' t => C7.mk' (t.keep (by rw [hV]; exact heap_alloc_new w (cbx c 23)) (by simp)))
  have HN : Hid (∀ w2, Calls Try.prog 9 #[cv c] w2 fun x w' => ∃ m, x = .returned (.tuple #[PT m, .int .i64 0]) ∧ NwQ w2 c m w') := hid (fun w2 => new9_ok w2 c hc ⟨wc.1.hi, wc.2.1.hi, wc.2.2.1.hi⟩)
  have HCf := hid (fun w => config11 w c)
  have HRc := hid (fun w => rcheck10 w c)
  have HCk := hid (fun w => check12 w c)
  rw [hc] at HRc HCk
  rw [if_pos rfl] at HCk
  clear hc wc
  unfold cv at HCf HRc HCk
  unfold cv PT at HN
  unfold cv
  unfold cbx at hV
  go_enter Try.func3, Try.ntmps3
  go_upto_region 1 with fail
  rw [← hV]
  clear hV
  go_upto_region 3 with (go_at_call 8; refine (awake8 _).mono ?_; rintro x w2 ⟨rfl, t2⟩; have T2 := hid t2; clear t2)
  obtain ⟨c0, c1, c2, c3, c4, c5, c6⟩ := HC.out w2 T2.out
  go_upto_region 5 with (go_at_call 9; refine (HN.out _).mono ?_; rintro x w3 ⟨m, rfl, F, q3, f3, t3⟩; have Q3 := hid q3; have F3 := hid f3; have T3 := hid (T2.out.trans' t3); clear q3 f3 t3)
  clear c0 c1 c2 c3 c4 c5 c6
  obtain ⟨c0, c1, c2, c3, c4, c5, c6⟩ := HC.out w3 T3.out
  go_upto_region 7 with (first
    | (go_at_call 11; refine (HCf.out _).mono ?_; rintro x w4 ⟨rfl, t4⟩; have T4 := hid t4; clear t4)
    | (go_at_call 10; refine (HRc.out _).mono ?_; rintro x w5 ⟨rfl, t5⟩; have T5 := hid (T4.out.trans' t5); clear t5))
  clear c0 c1 c2 c3 c4 c5 c6
  obtain ⟨c0, c1, c2, c3, c4, c5, c6⟩ := HC.out w5 (T3.out.trans' T5.out)
  go_upto_region 9 with (go_at_call 12; refine (HCk.out _).mono ?_; rintro x w6 ⟨rfl, t6⟩; have T6 := hid (T5.out.trans' t6); clear t6)
  clear c0 c1 c2 c3 c4 c5 c6
  obtain ⟨c0, c1, c2, c3, c4, c5, c6⟩ := HC.out w6 (T3.out.trans' T6.out)
  go_upto_region 12 with (go_at_call 11; refine (HCf.out _).mono ?_; rintro x w7 ⟨rfl, t7⟩; have T7 := hid (T6.out.trans' t7); clear t7)
  clear c0 c1 c2 c3 c4 c5 c6
  obtain ⟨x0, hx0⟩ : ∃ x0, x0 = w7.heap.size := ⟨_, rfl⟩
  obtain ⟨W8, hW8⟩ : ∃ W8, W8 = w7.alloc (mbx c (.slice none 0 0) 0) := ⟨_, rfl⟩
  have HI0 : Hid (LpS w m c x0 W8) := hid (by
    have t8 : Touch [] w3 W8 := by rw [hW8]; exact T7.out.alloc _
    have hz : w.heap.size ≤ w3.heap.size := (TV.out.trans' T3.out).size
    refine ⟨F, none, 0, 0, 0, [], Q3.out.keep0 t8, fun k hk => ?_, by rw [hx0, hW8]; exact heap_alloc_new _ _, RN.nil 62 W8, ?_, (TV.out.trans' T3.out).trans' t8⟩
    · have := F3.out k hk; have := (TV.out.trans' T2.out).size; omega
    · rw [hx0]; have := T7.out.size; omega)
  unfold mbx at hW8
  rw [← hW8, ← hx0]
  clear hW8 hx0 T2 T3 T4 T5 T6 T7 Q3 F3 HN HCf HRc HCk HC TV
  go_wp2_with fail
  go_loopw [46] (fun s46 wr => ∃ k : Nat, s46 = .int .i64 (k : Int) ∧ k ≤ A ∧ Hid (LpS w m c x0 wr)) (fun i _ => A - (intOf i).toNat)
  case atStart => exact ⟨0, rfl, Nat.zero_le _, HI0⟩
  case round =>
    clear HI0
    obtain ⟨k, rfl, hk, HR0⟩ := hrel
    by_cases hlt : k < A
    · have zk : (k : Int) < (A : Int) := by omega
      obtain ⟨ba, off, rfl, hrow⟩ : ∃ ba off, avx = some ⟨ba, off, none⟩ ∧ RowM w ba off xs := by
        rcases HRow.out with e | e
        · omega
        · exact e
      have hnx : k < xs.length := by have := HAx.out; omega
      have hr := hrow.keep HR0.out.t
      have q0 := hr.c0 k hnx
      have q1 := hr.c1 k hnx
      have q2 := hr.c2 k hnx
      have q3 := hr.c3 k hnx
      have q4 := hr.c4 k hnx
      have q5 := hr.c5 k hnx
      have q6 := hr.c6 k hnx
      have q7 := hr.c7 k hnx
      have q8 := hr.c8 k hnx
      have HWx := hid (HWf.out xs[k] (List.getElem_mem hnx)).2.2.2.1
      generalize xs[k] = ac at *
      obtain ⟨a1, n1, c1, now, zs, hx0, hla⟩ := HR0.out.start ac
      obtain ⟨W1, hW1⟩ : ∃ W1, W1 = wr.alloc (abx ac) := ⟨_, rfl⟩
      rw [← hW1] at hla
      have L1 := hid hla
      have HNk := hid (And.intro hk hlt)
      clear hrow hr hx0 hla hk hlt hnx
      unfold abx at hW1
      go_upto_region 15 with fail
      rw [← hW1]
      clear hW1 q0 q1 q2 q3 q4 q5 q6 q7 q8
      generalize wr.heap.size = bq at *
      have HAc := hid (L1.out.act HWx.out)
      unfold PT mvv avv at HAc
      obtain ⟨a0, a1', a2', a3', a4, a5, a6, a7, a8, fz⟩ := M9.mk' L1.out.hx
      obtain ⟨b0, b1, b2, b3, b4, b5, b6, b7, b8⟩ := B9.mk' L1.out.hb
      go_upto_region 16 with (go_at_call 13; refine HAc.out.mono ?_; rintro e w5 ⟨a2, n2, c2, now2, ys, rfl, l5⟩; have L5 := hid l5; clear l5; clear a0 a1' a2' a3' a4 a5 a6 a7 a8 fz; clear b0 b1 b2 b3 b4 b5 b6 b7 b8; obtain ⟨a0, a1', a2', a3', a4, a5, a6, a7, a8, fz⟩ := M9.mk' L5.out.hx)
      clear a0 a1' a2' a3' a4 a5 a6 a7 a8 fz
      have L6 := hid L5.out.set
      generalize hW6 : (((((((((w5.setCell ⟨x0, 0, none⟩ (.int .i64 c.t)).setCell ⟨x0, 1, none⟩ (.int .i64 c.n)).setCell ⟨x0, 2, none⟩ (.int .i64 c.s)).setCell ⟨x0, 3, none⟩ (.int .i64 c.e)).setCell ⟨x0, 4, none⟩ (.int .i64 c.f)).setCell ⟨x0, 5, none⟩ (.int .i64 c.b)).setCell ⟨x0, 6, none⟩ (.int .i64 c.d)).setCell ⟨x0, 7, none⟩ (.slice a2 n2 c2)).setCell ⟨x0, 8, none⟩ (.int .i64 now2)) = W6 at *
      clear hW6 L5 L1 HAc
      obtain ⟨a0, a1', a2', a3', a4, a5, a6, a7, a8, fz⟩ := M9.mk' L6.out.hx
      obtain ⟨b0, b1, b2, b3, b4, b5, b6, b7, b8⟩ := B9.mk' L6.out.hb
      have HSt := hid (L6.out.stands HWx.out)
      unfold PT mvv kv at HSt
      go_wp2_with (go_at_call 14; refine HSt.out.mono ?_; rintro e w7 ⟨rfl, l7⟩; have L7 := hid l7; clear l7)
      go_roundw
      case rel => exact ⟨k + 1, by go_num, by have := HNk.out; omega, L7.out.lp⟩
      case measure => simp [intOf]; have := HNk.out; omega
    · have zk : (A : Int) ≤ (k : Int) := by omega
      go_wp2_with fail
      go_ret
      exact ⟨rfl, HR0.out.t⟩
set_option maxHeartbeats 2000000 in
theorem law3_no (w : World) (c : Cf) (av : Option Addr) (nv cv' : Nat) (hc : okC c = false) :
    Calls Try.prog 3 #[cv c, .slice av nv cv'] w fun e w' => e = .returned (.bool true) ∧ Touch [] w w' := by
  obtain ⟨V, hV⟩ : ∃ V, V = w.alloc (cbx c 23) := ⟨_, rfl⟩
  have TV : Hid (Touch [] w V) := hid (by rw [hV]; exact (Touch.refl _ _).alloc _)
  have HC : Hid (∀ w', Touch [] V w' → C7 w' w.heap.size c) := hid (fun w' t => C7.mk' (t.keep (by rw [hV]; exact heap_alloc_new w (cbx c 23)) (by simp)))
  have HN := hid (fun w2 => new9_no w2 c hc)
  have HCf := hid (fun w => config11 w c)
  have HRc := hid (fun w => rcheck10 w c)
  have HCk := hid (fun w => check12 w c)
  rw [hc] at HRc HCk
  rw [if_neg (by simp)] at HCk
  clear hc
  unfold cv at HCf HRc HCk HN
  unfold cv
  unfold cbx at hV
  go_enter Try.func3, Try.ntmps3
  go_upto_region 1 with fail
  rw [← hV]
  clear hV
  go_upto_region 3 with (go_at_call 8; refine (awake8 _).mono ?_; rintro x w2 ⟨rfl, t2⟩; have T2 := hid t2; clear t2)
  obtain ⟨c0, c1, c2, c3, c4, c5, c6⟩ := HC.out w2 T2.out
  go_upto_region 5 with (go_at_call 9; refine (HN.out _).mono ?_; rintro x w3 ⟨rfl, t3⟩; have T3 := hid (T2.out.trans' t3); clear t3)
  clear c0 c1 c2 c3 c4 c5 c6
  obtain ⟨c0, c1, c2, c3, c4, c5, c6⟩ := HC.out w3 T3.out
  go_upto_region 7 with (first
    | (go_at_call 11; refine (HCf.out _).mono ?_; rintro x w4 ⟨rfl, t4⟩; have T4 := hid (T3.out.trans' t4); clear t4)
    | (go_at_call 10; refine (HRc.out _).mono ?_; rintro x w5 ⟨rfl, t5⟩; have T5 := hid (T4.out.trans' t5); clear t5))
  clear c0 c1 c2 c3 c4 c5 c6
  obtain ⟨c0, c1, c2, c3, c4, c5, c6⟩ := HC.out w5 T5.out
  go_wp2_with (go_at_call 12; refine (HCk.out _).mono ?_; rintro x w6 ⟨rfl, t6⟩; have T6 := hid (T5.out.trans' t6); clear t6)
  go_ret
  exact ⟨rfl, TV.out.trans' T6.out⟩
theorem law3 (w : World) (c : Cf) (xs : List ActM) (v : Value) (wc : Wc c) (hv : SlM w v xs) (hw : ∀ x ∈ xs, WfM x) (hL : xs.length ≤ 1759218604390) :
    Calls Try.prog 3 #[cv c, v] w fun e w' => e = .returned (.bool true) ∧ Touch [] w w' := by
  cases hc : okC c with
  | true => exact law3_ok w c xs v wc hv hw hL hc
  | false =>
    rcases hv with ⟨_, a, d, rfl⟩ | ⟨b, off, cap, rfl, _⟩
    · exact law3_no w c a 0 d hc
    · exact law3_no w c _ _ cap hc
end Go.Proofs.Ytopepalpmkeffaa
