/- The contracts of a batch's Add and Send; no conditions but those that each states. -/
import Derived.Test.YtkfophlhpjbmgaaGreatQo06
import Derived.Test.YtkfophlhpjbmgaaGreatQo01
import Derived.Test.YtkfophlhpjbmgaaGreatQo04
set_option linter.unusedVariables false
set_option linter.unusedSimpArgs false
set_option maxRecDepth 100000
namespace Go.Proofs.YtkfophlhpjbmgaaGreat.Ba
open Go.RowKit Go.Maps Go.ChangeMaps
theorem rs_new (w : World) (x : Int) : Rs 3 1 (w.alloc (.cells #[.int .i64 x] 3)) (.slice (some ⟨w.heap.size, 0, none⟩) 1 1) 1 [.int .i64 x] := by
 refine ⟨rfl, _, 1, rfl, Nat.le_refl _, fun e => (by cases e), fun _ => ⟨w.heap.size, 0, rfl, _, _, heap_alloc_new w _, fun j u hu => ?_⟩⟩
 match j, hu with
 | 0, hu => simpa using hu
section
variable {w W1 : World} {b N : Nat} {sl : Value} {d d1 n x : Int} {S : Bs}
theorem add_mid {ob : Obj} (h : Bm w b sl d S) (hb1 : W1.heap[b]? = some (.cells (pc S sl d1) 202 (0, 0))) (T1 : Touch [b] w W1) (hd1 : d1 = dueS (addM S n x)) (v5 : Value) (w5 : World)
  (o5 : w5.ownsRow 0 3 1 v5 (S.run.length + 1) (ints S.run ++ [.int .i64 x])) (g5 : (W1.alloc ob).grownBy w5 sl.ownBlock) (e5 : v5.ownBlock = sl.ownBlock ∨ v5.ownBlock = some (W1.alloc ob).heap.size) :
  w5.heap[b]? = some (.cells (pc S sl d1) 202 (0, 0)) ∧ Bm (((w5.setCell ⟨b, 2, none⟩ (.int .i64 n)).setCell ⟨b, 3, none⟩ (.int .i64 x)).setCell ⟨b, 4, none⟩ v5) b v5 d1 (addM S n x) ∧ Touch (fpB b sl) w (((w5.setCell ⟨b, 2, none⟩ (.int .i64 n)).setCell ⟨b, 3, none⟩ (.int .i64 x)).setCell ⟨b, 4, none⟩ v5) ∧ Nf w (fpB b sl) (fpB b v5) := by
 have hz : (W1.alloc ob).heap.size = W1.heap.size + 1 := by simp
 have hz1 := T1.size
 have hz2 : b < W1.heap.size := block_lt hb1
 have TA : Touch sl.ownBlock.toList (W1.alloc ob) w5 := (Touch.refl _ _).grown g5 (fun k hk => Or.inl (by simp [hk]))
 have hb5 : w5.heap[b]? = some (.cells (pc S sl d1) 202 (0, 0)) := TA.keep (((Touch.refl [] _).alloc _).keep hb1 (by simp)) (fun e => by simp at e; exact h.ne e rfl)
 have TB : Touch [b] w5 (((w5.setCell ⟨b, 2, none⟩ (.int .i64 n)).setCell ⟨b, 3, none⟩ (.int .i64 x)).setCell ⟨b, 4, none⟩ v5) := (((Touch.refl _ _).setCell (Or.inl (by simp)) _).setCell (Or.inl (by simp)) _).setCell (Or.inl (by simp)) _
 have hne : ∀ q, v5.ownBlock = some q → q ≠ b := fun q hq e => by
  rcases e5 with e5 | e5
  ·rw [e5] at hq; exact h.ne hq e
  ·rw [e5, hz] at hq; cases hq; omega
 refine ⟨hb5, ⟨?_, ?_, fun _ => hd1⟩, ?_, fun q hq => ?_⟩
 ·have := bset (i := 4) (bset (i := 3) (bset (i := 2) hb5 (.int .i64 n)) (.int .i64 x)) v5
  simpa [pc, addM] using this
 ·have := own_touch o5 TB (fun q hq e => by simp only [List.mem_singleton] at e; exact hne q hq e)
  have e1 : ints (addM S n x).run = ints S.run ++ [.int .i64 x] := by simp [ints, addM]
  have e2 : (addM S n x).run.length = S.run.length + 1 := by simp [addM]
  rw [e1, e2]
  exact this
 ·have x1 : Touch (fpB b sl) w (W1.alloc ob) := (T1.alloc ob).mono (fun q hq => by simp only [List.mem_singleton] at hq; exact mem_fpB.2 (Or.inl hq))
  have x2 : Touch (fpB b sl) w w5 := x1.trans TA (fun q hq => Or.inl (mem_fpB.2 (Or.inr (by simpa using hq))))
  exact x2.trans TB (fun q hq => Or.inl (by simp only [List.mem_singleton] at hq; exact mem_fpB.2 (Or.inl hq)))
 ·rcases mem_fpB.1 hq with e | e
  ·exact Or.inl (mem_fpB.2 (Or.inl e))
  ·rcases e5 with e5 | e5
   ·rw [e5] at e; exact Or.inl (mem_fpB.2 (Or.inr e))
   ·rw [e5, hz] at e; cases e; exact Or.inr (by omega)
theorem add_force {V w' : World} {F : List Nat} {v5 : Value} (hv : Iv S N) (hx : W64 x) (hN : N ≤ 6000000000000) (h0 : ¬ addE S n x ≠ 0) (hful : addF S = true) (hm : Bm V b v5 d1 (addM S n x)) (ht : Touch F w V) (hnf : Nf w F (fpB b v5)) (T : Touch [] V w') :
  Calls Tryz.prog 110 #[PT b] w' fun e w2 => ∃ v, e = .returned v ∧ (∃ a n c, v = .slice a n c) ∧ BqE w w2 b F (addS S n x) (N + 1) (addL S n x) v := by
 have e1 : addS S n x = forceS (addM S n x) := by unfold addS; rw [if_neg h0, if_pos hful]
 have e2 : addL S n x = S.run ++ [x] := by unfold addL; rw [if_neg h0, if_pos hful]
 rw [e1, e2]
 have hs1 := hv.n1
 have hs2 := hv.n2
 refine (force_ (hm.keep0 T) hs1 (by show S.snt < _; omega)).mono ?_
 rintro e w2 ⟨v, sl', rfl, hf, q1, q2, q3, q4⟩
 have hiv : Iv (forceS (addM S n x)) (N + 1) := by
  have := hv.add (n := n) hx
  rwa [e1] at this
 refine ⟨v, rfl, hf, ⟨fpB b sl', ⟨sl', d1, rfl, q1, hiv⟩, (ht.trans T (fun _ e => by cases e)).trans q3 (fun q hq => hnf q (by simp only [List.mem_singleton] at hq; exact mem_fpB.2 (Or.inl hq))), fun q hq => hnf q ?_⟩, q4, hf⟩
 rcases q2 with rfl | rfl
 ·exact hq
 ·rcases mem_fpB.1 hq with e | e
  ·exact mem_fpB.2 (Or.inl e)
  ·cases e
theorem add_wait {V w' : World} {F : List Nat} {v5 : Value} (hv : Iv S N) (hx : W64 x) (h0 : ¬ addE S n x ≠ 0) (hfl : addF S = false) (hm : Bm V b v5 d1 (addM S n x)) (ht : Touch F w V) (hnf : Nf w F (fpB b v5)) (T : Touch [] V w') :
  BqE w w' b F (addS S n x) (N + 1) (addL S n x) (.slice none 0 0) := by
 have e1 : addS S n x = addM S n x := by unfold addS; rw [if_neg h0, if_neg (by simp [hfl])]
 have e2 : addL S n x = [] := by unfold addL; rw [if_neg h0, if_neg (by simp [hfl])]
 rw [e1, e2]
 unfold addF at hfl
 simp only [Bool.or_eq_false_iff, decide_eq_false_iff_not] at hfl
 have := hv.c2
 exact ⟨⟨fpB b v5, ⟨v5, d1, rfl, hm.keep0 T, (hv.mid hx h0 (by omega)).mono (Nat.le_succ N)⟩, ht.trans T (fun _ e => by cases e), hnf⟩, Rd.nil _, _, _, _, rfl⟩
theorem bq_same (h : Bm w b sl d S) (hv : Iv S N) : BqE w w b (fpB b sl) S (N + 1) [] (.slice none 0 0) :=
 ⟨⟨fpB b sl, ⟨sl, d, rfl, h, hv.mono (Nat.le_succ N)⟩, Touch.refl _ _, Nf.refl _ _⟩, Rd.nil _, _, _, _, rfl⟩
set_option maxHeartbeats 4000000 in
theorem add_ (h : Bm w b sl d S) (hv : Iv S N) (hN : N ≤ 6000000000000) (hx : W64 x) : Calls Tryz.prog 133 #[PT b, .int .i64 n, .int .i64 x] w fun e w' => ∃ v, e = .returned (.tuple #[v, .int .i64 (addE S n x)]) ∧ BqE w w' b (fpB b sl) (addS S n x) (N + 1) (addL S n x) v := by
 have HT := hid (fun x => tell_ h x)
 have HS := hid (bq_same h hv)
 by_cases hw : wrongE S n ≠ 0
 ·have e0 : addE S n x = wrongE S n := by unfold addE; rw [if_pos hw]
  have e1 : addE S n x ≠ 0 := by rw [e0]; exact hw
  unfold addS addL
  rw [if_pos e1, if_pos e1, e0]
  have hk : (wrongE S n != 0) = true := by simpa using hw
  clear e0 e1 hw h hv
  have HT2 := hid (HT.out n)
  generalize wrongE S n = k at *
  unfold PT at *
  go_enter Tryz.func133, Tryz.ntmps133
  go_wp2_with (go_at_call 109; refine (HT2.out).mono ?_; rintro e w2 ⟨rfl, e2⟩; rw [e2]; clear e2 w2)
  exact bodyPost_ret (v := .tuple #[.slice none 0 0, .int .i64 k]) (by simp [results, Tryz.results133, go_sem]) rfl ⟨_, rfl, HS.out⟩
 ·have hw0 : wrongE S n = 0 := Decidable.not_not.1 hw
  have HT2 := hid (HT.out n)
  rw [hw0] at HT2
  by_cases h1 : x < 1
  ·have e0 : addE S n x = 1 := by unfold addE; rw [if_neg hw, if_pos h1]
   unfold addS addL
   rw [e0, if_pos (by decide), if_pos (by decide)]
   clear e0 hw hw0 h hv HT
   unfold PT at *
   go_enter Tryz.func133, Tryz.ntmps133
   go_wp2_with (go_at_call 109; refine (HT2.out).mono ?_; rintro e w2 ⟨rfl, e2⟩; rw [e2]; clear e2 w2)
   exact bodyPost_ret (v := .tuple #[.slice none 0 0, .int .i64 1]) (by simp [results, Tryz.results133, go_sem]) rfl ⟨_, rfl, HS.out⟩
  ·have c3 := cell_at (j := 3) (v := .int .i64 S.lst) h.hb rfl
   by_cases h2 : x ≤ S.lst
   ·have e0 : addE S n x = 130 := by unfold addE; rw [if_neg hw, if_neg h1, if_pos h2]
    unfold addS addL
    rw [e0, if_pos (by decide), if_pos (by decide)]
    clear e0 hw hw0 h hv HT
    unfold PT at *
    go_enter Tryz.func133, Tryz.ntmps133
    go_wp2_with (go_at_call 109; refine (HT2.out).mono ?_; rintro e w2 ⟨rfl, e2⟩; rw [e2]; clear e2 w2)
    exact bodyPost_ret (v := .tuple #[.slice none 0 0, .int .i64 130]) (by simp [results, Tryz.results133, go_sem]) rfl ⟨_, rfl, HS.out⟩
   ·have e0 : addE S n x = 0 := by unfold addE; rw [if_neg hw, if_neg h1, if_neg h2]
    have h0 : ¬ addE S n x ≠ 0 := by rw [e0]; simp
    obtain ⟨g1, g2, g3⟩ := wrong0 hw
    rw [e0]
    clear e0 hw hw0 HT HS
    obtain ⟨a, c, rfl⟩ := own_form h.row
    have c4 := cell_at (j := 4) (v := .slice a S.run.length c) h.hb rfl
    by_cases he : S.run = []
    ·have HA := hid (fun w => after_ n S.win w g1 g2 hv.w1 hv.w2)
     have c1 := cell_at (j := 1) (v := .int .i64 S.win) h.hb rfl
     have c5 := cell_at (j := 5) (v := .int .i64 d) h.hb rfl
     have ff := froz_at h.hb
     have hlt := h.lt
     obtain ⟨d1, hd⟩ : ∃ d1, d1 = aft n S.win := ⟨_, rfl⟩
     have HD1 : Hid (d1 = dueS (addM S n x)) := hid (by rw [due_mid, if_pos he]; exact hd)
     have HB := hid (bset (i := 5) h.hb (.int .i64 d1))
     rw [← hd] at HA
     clear hd g1 g2 g3
     have hz : ((S.run.length : Int) == 0) = true := by simp [he]
     unfold PT at HT2 ⊢
     go_enter Tryz.func133, Tryz.ntmps133
     go_upto_region 10 with (first | (go_at_call 109; refine (HT2.out).mono ?_; rintro e w2 ⟨rfl, e2⟩; rw [e2]; clear e2 w2) | (go_at_call 162; refine (HA.out _).mono ?_; rintro e w2 ⟨⟨k2, rfl⟩, e2⟩; rw [e2]; clear e2 w2))
     obtain ⟨W1, hW1⟩ : ∃ W1, W1 = w.setCell ⟨b, 5, none⟩ (.int .i64 d1) := ⟨_, rfl⟩
     rw [← hW1]
     have T1 : Touch [b] w W1 := by rw [hW1]; exact (Touch.refl _ _).setCell (Or.inl (by simp)) _
     have hb1 : W1.heap[b]? = some (.cells (pc S (.slice a S.run.length c) d1) 202 (0, 0)) := by rw [hW1]; simpa [pc] using HB.out
     have hd1 := HD1.out
     clear hW1 HB HA HT2 c1 c3 c4 c5 ff hz he hlt HD1
     have c4 := cell_at (j := 4) (v := .slice a S.run.length c) hb1 rfl
     have HRS : Hid (Rs 3 1 (W1.alloc (.cells #[.int .i64 x] 3)) (.slice (some ⟨W1.heap.size, 0, none⟩) 1 1) 1 [.int .i64 x]) := hid (rs_new W1 x)
     have HROW : Hid ((W1.alloc (.cells #[.int .i64 x] 3)).ownsRow 0 3 1 (.slice a S.run.length c) S.run.length (ints S.run)) := hid (own_touch (own_touch h.row T1 (fun q hq e => by simp only [List.mem_singleton] at e; exact h.ne hq e)) ((Touch.refl [] _).alloc _) (fun _ _ e => by cases e))
     have HMID : Hid (∀ v5 w5, w5.ownsRow 0 3 1 v5 (S.run.length + 1) (ints S.run ++ [.int .i64 x]) → (W1.alloc (.cells #[.int .i64 x] 3)).grownBy w5 (Value.slice a S.run.length c).ownBlock → (v5.ownBlock = (Value.slice a S.run.length c).ownBlock ∨ v5.ownBlock = some (W1.alloc (.cells #[.int .i64 x] 3)).heap.size) → w5.heap[b]? = some (.cells (pc S (.slice a S.run.length c) d1) 202 (0, 0)) ∧ Bm (((w5.setCell ⟨b, 2, none⟩ (.int .i64 n)).setCell ⟨b, 3, none⟩ (.int .i64 x)).setCell ⟨b, 4, none⟩ v5) b v5 d1 (addM S n x) ∧ Touch (fpB b (.slice a S.run.length c)) w (((w5.setCell ⟨b, 2, none⟩ (.int .i64 n)).setCell ⟨b, 3, none⟩ (.int .i64 x)).setCell ⟨b, 4, none⟩ v5) ∧ Nf w (fpB b (.slice a S.run.length c)) (fpB b v5)) := hid (fun v5 w5 o g e => add_mid h hb1 T1 hd1 v5 w5 o g e)
     have HLEN := hid hv.len
     clear h hb1 T1 hd1
     go_upto_region 11 with (at_builtin; refine wpList_append_rs rfl _ _ _ 3 rfl (.int .i64 0) 1 8 info3 Tryz.underlying47 rfl (by decide) 0 (.slice a S.run.length c) S.run.length (ints S.run) rfl HROW.out _ 1 [.int .i64 x] rfl HRS.out (fun y hy => by simp only [List.mem_singleton] at hy; subst hy; rfl) (by have := HLEN.out; unfold maxLen; omega) (by have := HLEN.out; omega) (by simp) ?_; intro v5 w5 o5 g5 e5; obtain ⟨z1, z2⟩ := HMID.out v5 w5 o5 g5 e5; obtain ⟨a5, c5, rfl⟩ := own_form o5; have y2 := cell_at (j := 2) (v := .int .i64 S.tim) z1 rfl; have y3 := cell_at (j := 3) (v := .int .i64 S.lst) z1 rfl; have y4 := cell_at (j := 4) (v := .slice a S.run.length c) z1 rfl; have yf := froz_at z1; have yl := block_lt z1; have HZ := hid z2; clear z1 z2 o5 g5 e5)
     obtain ⟨V, hV⟩ : ∃ V, V = ((w5.setCell ⟨b, 2, none⟩ (.int .i64 n)).setCell ⟨b, 3, none⟩ (.int .i64 x)).setCell ⟨b, 4, none⟩ (.slice a5 (S.run.length + 1) c5) := ⟨_, rfl⟩
     rw [← hV] at HZ ⊢
     clear hV y2 y3 y4 yf yl HRS HROW HMID
     have v0 := cell_at (j := 0) (v := .int .i64 S.cnt) HZ.out.1.hb rfl
     have v1 := cell_at (j := 1) (v := .int .i64 S.win) HZ.out.1.hb rfl
     have v4 := cell_at (j := 4) (v := .slice a5 (S.run.length + 1) c5) HZ.out.1.hb rfl
     have HF : Hid (∀ w', Touch [] V w' → addF S = true → Calls Tryz.prog 110 #[PT b] w' fun e w2 => ∃ v, e = .returned v ∧ (∃ a n c, v = .slice a n c) ∧ BqE w w2 b (fpB b (.slice a S.run.length c)) (addS S n x) (N + 1) (addL S n x) v) := hid (fun w' T hf => add_force hv hx hN h0 hf HZ.out.1 HZ.out.2.1 HZ.out.2.2 T)
     have HN : Hid (∀ w', Touch [] V w' → addF S = false → BqE w w' b (fpB b (.slice a S.run.length c)) (addS S n x) (N + 1) (addL S n x) (.slice none 0 0)) := hid (fun w' T hf => add_wait hv hx h0 hf HZ.out.1 HZ.out.2.1 HZ.out.2.2 T)
     clear hv hx HZ HLEN
     unfold PT at HF
     rcases (by cases addF S <;> simp : addF S = false ∨ addF S = true) with hf | hf
     ·have HN' := hid (fun w' T => HN.out w' T hf)
      unfold addF at hf
      simp only [Bool.or_eq_false_iff, decide_eq_false_iff_not] at hf
      obtain ⟨f1, f2⟩ := hf
      generalize S.run.length + 1 = m at *
      have f3 : (S.win == 0) = false := by simp [f2]
      have f4 : (m : Int) < S.cnt := by omega
      clear f1 f2 HF HN h0
      go_quiet (fail)
      go_wp2
      exact bodyPost_ret (v := .tuple #[.slice none 0 0, .int .i64 0]) (by simp [results, Tryz.results133, go_sem]) rfl ⟨_, rfl, HN'.out _ ((Touch.refl _ _).drewN _)⟩
     ·have HF' := hid (fun w' T => HF.out w' T hf)
      unfold addF at hf
      simp only [Bool.or_eq_true, decide_eq_true_eq] at hf
      generalize S.run.length + 1 = m at *
      have f5 : S.cnt ≤ (m : Int) ∨ (S.win == 0) = true := by rcases hf with e | e; exact Or.inl e; exact Or.inr (by simp [e])
      clear hf h0 HN HF
      by_cases f1 : S.cnt ≤ (m : Int)
      ·clear f5
       go_quiet (fail)
       go_wp2_with (go_at_call 110; refine (HF'.out _ ((Touch.refl _ _).drewN _)).mono ?_; rintro e w8 ⟨v8, rfl, ⟨a8, n8, c8, rfl⟩, q8⟩; have Q8 := hid q8; clear q8)
       exact bodyPost_ret (v := .tuple #[.slice a8 n8 c8, .int .i64 0]) (by simp [results, Tryz.results133, go_sem]) rfl ⟨_, rfl, Q8.out⟩
      ·have f2 : (S.win == 0) = true := by rcases f5 with e | e; exact absurd e f1; exact e
       clear f5
       go_quiet (fail)
       go_wp2_with (go_at_call 110; refine (HF'.out _ ((Touch.refl _ _).drewN _)).mono ?_; rintro e w8 ⟨v8, rfl, ⟨a8, n8, c8, rfl⟩, q8⟩; have Q8 := hid q8; clear q8)
       exact bodyPost_ret (v := .tuple #[.slice a8 n8 c8, .int .i64 0]) (by simp [results, Tryz.results133, go_sem]) rfl ⟨_, rfl, Q8.out⟩
    ·have hl : 0 < S.run.length := List.length_pos_iff.2 he
     have hz : ((S.run.length : Int) == 0) = false := by simp; omega
     have hd1 : d = dueS (addM S n x) := by rw [due_mid, if_neg he]; exact h.du he
     obtain ⟨d1, hd⟩ : ∃ d1, d1 = d := ⟨_, rfl⟩
     clear g1 g2 g3 hl
     unfold PT at HT2 ⊢
     go_enter Tryz.func133, Tryz.ntmps133
     go_upto_region 10 with (go_at_call 109; refine (HT2.out).mono ?_; rintro e w2 ⟨rfl, e2⟩; rw [e2]; clear e2 w2)
     obtain ⟨W1, hW1⟩ : ∃ W1, W1 = w := ⟨_, rfl⟩
     rw [← hW1] at c4 ⊢
     have T1 : Touch [b] w W1 := by rw [hW1]; exact Touch.refl _ _
     have hb1 : W1.heap[b]? = some (.cells (pc S (.slice a S.run.length c) d1) 202 (0, 0)) := by rw [hW1, hd]; exact h.hb
     rw [← hd] at hd1
     clear hW1 hd HT2 c3 hz he
     have HRS : Hid (Rs 3 1 (W1.alloc (.cells #[.int .i64 x] 3)) (.slice (some ⟨W1.heap.size, 0, none⟩) 1 1) 1 [.int .i64 x]) := hid (rs_new W1 x)
     have HROW : Hid ((W1.alloc (.cells #[.int .i64 x] 3)).ownsRow 0 3 1 (.slice a S.run.length c) S.run.length (ints S.run)) := hid (own_touch (own_touch h.row T1 (fun q hq e => by simp only [List.mem_singleton] at e; exact h.ne hq e)) ((Touch.refl [] _).alloc _) (fun _ _ e => by cases e))
     have HMID : Hid (∀ v5 w5, w5.ownsRow 0 3 1 v5 (S.run.length + 1) (ints S.run ++ [.int .i64 x]) → (W1.alloc (.cells #[.int .i64 x] 3)).grownBy w5 (Value.slice a S.run.length c).ownBlock → (v5.ownBlock = (Value.slice a S.run.length c).ownBlock ∨ v5.ownBlock = some (W1.alloc (.cells #[.int .i64 x] 3)).heap.size) → w5.heap[b]? = some (.cells (pc S (.slice a S.run.length c) d1) 202 (0, 0)) ∧ Bm (((w5.setCell ⟨b, 2, none⟩ (.int .i64 n)).setCell ⟨b, 3, none⟩ (.int .i64 x)).setCell ⟨b, 4, none⟩ v5) b v5 d1 (addM S n x) ∧ Touch (fpB b (.slice a S.run.length c)) w (((w5.setCell ⟨b, 2, none⟩ (.int .i64 n)).setCell ⟨b, 3, none⟩ (.int .i64 x)).setCell ⟨b, 4, none⟩ v5) ∧ Nf w (fpB b (.slice a S.run.length c)) (fpB b v5)) := hid (fun v5 w5 o g e => add_mid h hb1 T1 hd1 v5 w5 o g e)
     have HLEN := hid hv.len
     clear h hb1 T1 hd1
     go_upto_region 11 with (at_builtin; refine wpList_append_rs rfl _ _ _ 3 rfl (.int .i64 0) 1 8 info3 Tryz.underlying47 rfl (by decide) 0 (.slice a S.run.length c) S.run.length (ints S.run) rfl HROW.out _ 1 [.int .i64 x] rfl HRS.out (fun y hy => by simp only [List.mem_singleton] at hy; subst hy; rfl) (by have := HLEN.out; unfold maxLen; omega) (by have := HLEN.out; omega) (by simp) ?_; intro v5 w5 o5 g5 e5; obtain ⟨z1, z2⟩ := HMID.out v5 w5 o5 g5 e5; obtain ⟨a5, c5, rfl⟩ := own_form o5; have y2 := cell_at (j := 2) (v := .int .i64 S.tim) z1 rfl; have y3 := cell_at (j := 3) (v := .int .i64 S.lst) z1 rfl; have y4 := cell_at (j := 4) (v := .slice a S.run.length c) z1 rfl; have yf := froz_at z1; have yl := block_lt z1; have HZ := hid z2; clear z1 z2 o5 g5 e5)
     obtain ⟨V, hV⟩ : ∃ V, V = ((w5.setCell ⟨b, 2, none⟩ (.int .i64 n)).setCell ⟨b, 3, none⟩ (.int .i64 x)).setCell ⟨b, 4, none⟩ (.slice a5 (S.run.length + 1) c5) := ⟨_, rfl⟩
     rw [← hV] at HZ ⊢
     clear hV y2 y3 y4 yf yl HRS HROW HMID
     have v0 := cell_at (j := 0) (v := .int .i64 S.cnt) HZ.out.1.hb rfl
     have v1 := cell_at (j := 1) (v := .int .i64 S.win) HZ.out.1.hb rfl
     have v4 := cell_at (j := 4) (v := .slice a5 (S.run.length + 1) c5) HZ.out.1.hb rfl
     have HF : Hid (∀ w', Touch [] V w' → addF S = true → Calls Tryz.prog 110 #[PT b] w' fun e w2 => ∃ v, e = .returned v ∧ (∃ a n c, v = .slice a n c) ∧ BqE w w2 b (fpB b (.slice a S.run.length c)) (addS S n x) (N + 1) (addL S n x) v) := hid (fun w' T hf => add_force hv hx hN h0 hf HZ.out.1 HZ.out.2.1 HZ.out.2.2 T)
     have HN : Hid (∀ w', Touch [] V w' → addF S = false → BqE w w' b (fpB b (.slice a S.run.length c)) (addS S n x) (N + 1) (addL S n x) (.slice none 0 0)) := hid (fun w' T hf => add_wait hv hx h0 hf HZ.out.1 HZ.out.2.1 HZ.out.2.2 T)
     clear hv hx HZ HLEN
     unfold PT at HF
     rcases (by cases addF S <;> simp : addF S = false ∨ addF S = true) with hf | hf
     ·have HN' := hid (fun w' T => HN.out w' T hf)
      unfold addF at hf
      simp only [Bool.or_eq_false_iff, decide_eq_false_iff_not] at hf
      obtain ⟨f1, f2⟩ := hf
      generalize S.run.length + 1 = m at *
      have f3 : (S.win == 0) = false := by simp [f2]
      have f4 : (m : Int) < S.cnt := by omega
      clear f1 f2 HF HN h0
      go_quiet (fail)
      go_wp2
      exact bodyPost_ret (v := .tuple #[.slice none 0 0, .int .i64 0]) (by simp [results, Tryz.results133, go_sem]) rfl ⟨_, rfl, HN'.out _ ((Touch.refl _ _).drewN _)⟩
     ·have HF' := hid (fun w' T => HF.out w' T hf)
      unfold addF at hf
      simp only [Bool.or_eq_true, decide_eq_true_eq] at hf
      generalize S.run.length + 1 = m at *
      have f5 : S.cnt ≤ (m : Int) ∨ (S.win == 0) = true := by rcases hf with e | e; exact Or.inl e; exact Or.inr (by simp [e])
      clear hf h0 HN HF
      by_cases f1 : S.cnt ≤ (m : Int)
      ·clear f5
       go_quiet (fail)
       go_wp2_with (go_at_call 110; refine (HF'.out _ ((Touch.refl _ _).drewN _)).mono ?_; rintro e w8 ⟨v8, rfl, ⟨a8, n8, c8, rfl⟩, q8⟩; have Q8 := hid q8; clear q8)
       exact bodyPost_ret (v := .tuple #[.slice a8 n8 c8, .int .i64 0]) (by simp [results, Tryz.results133, go_sem]) rfl ⟨_, rfl, Q8.out⟩
      ·have f2 : (S.win == 0) = true := by rcases f5 with e | e; exact absurd e f1; exact e
       clear f5
       go_quiet (fail)
       go_wp2_with (go_at_call 110; refine (HF'.out _ ((Touch.refl _ _).drewN _)).mono ?_; rintro e w8 ⟨v8, rfl, ⟨a8, n8, c8, rfl⟩, q8⟩; have Q8 := hid q8; clear q8)
       exact bodyPost_ret (v := .tuple #[.slice a8 n8 c8, .int .i64 0]) (by simp [results, Tryz.results133, go_sem]) rfl ⟨_, rfl, Q8.out⟩
end
end Go.Proofs.YtkfophlhpjbmgaaGreat.Ba
/- The contracts of a row's add and remove: a chair is laid behind all others, a chair is taken out; no conditions but those that each states. -/
namespace Go.Proofs.YtkfophlhpjbmgaaGreat.Lv
open Go.RowKit Go.Maps Go.ChangeMaps
def isCh (w : World) (q : Nat) : Prop := ∃ x a b, w.heap[q]? = some (.cells (chc x a b) 227 (0, 0))
structure AdE (w w' : World) (k rb q : Nat) (f l : Option Nat) : Prop where
 row : w'.heap[rb]? = some (.cells #[pv (if l = none then some q else f), pv (some q)] 246 (0, 0))
 at_ : ∀ x a b, w.heap[q]? = some (.cells (chc x a b) 227 (0, 0)) → w'.heap[q]? = some (.cells (chc x (updN a k l) b) 227 (0, 0))
 be : ∀ p x a b, l = some p → w.heap[p]? = some (.cells (chc x a b) 227 (0, 0)) → w'.heap[p]? = some (.cells (chc x a (updN b k (some q))) 227 (0, 0))
 t : Touch (rb :: q :: l.toList) w w'
theorem _root_.Go.Proofs.YtkfophlhpjbmgaaGreat.Touch.set1 (w : World) (b j : Nat) (v : Value) : Touch [b] w (w.setCell ⟨b, j, none⟩ v) := (Touch.refl _ _).setCell (Or.inl (by simp)) _
theorem _root_.Go.Proofs.YtkfophlhpjbmgaaGreat.Touch.more {F G : List Nat} {a b c : World} (h : Touch F a b) (k : Touch G b c) (hs : ∀ i, i ∈ G → i ∈ F) : Touch F a c := h.trans k (fun i hi => Or.inl (hs i hi))
theorem ad_none {w : World} {k rb q : Nat} {f : Option Nat} (hk : k < 3) (hr : w.heap[rb]? = some (.cells #[pv f, pv none] 246 (0, 0))) (hq : isCh w q) :
  AdE w (((w.setCell ⟨q, 3 + k, none⟩ (.pointer none)).drew.setCell ⟨rb, 0, none⟩ (PT q)).setCell ⟨rb, 1, none⟩ (PT q)) k rb q f none := by
 have hne : q ≠ rb := fun e => by obtain ⟨x, a, b, h⟩ := hq; rw [e, hr] at h; simp at h
 have t1 : Touch [q] w (w.setCell ⟨q, 3 + k, none⟩ (.pointer none)).drew := (Touch.set1 w q _ _).drew
 have r1 := t1.keep hr (by simp; omega)
 have r2 := bset (i := 1) (bset (i := 0) r1 (PT q)) (PT q)
 have t2 : Touch [rb] (w.setCell ⟨q, 3 + k, none⟩ (.pointer none)).drew (((w.setCell ⟨q, 3 + k, none⟩ (.pointer none)).drew.setCell ⟨rb, 0, none⟩ (PT q)).setCell ⟨rb, 1, none⟩ (PT q)) := ((Touch.refl _ _).setCell (Or.inl (by simp)) _).setCell (Or.inl (by simp)) _
 refine ⟨by simpa [pv_some] using r2, fun x a b h => ?_, fun p x a b e => (by cases e), (t1.mono (fun i hi => by simp at hi; simp [hi])).more t2 (fun i hi => by simp at hi; simp [hi])⟩
 have h1 := bset (i := 3 + k) h (pv none)
 rw [chc_sa hk] at h1
 exact t2.keep h1 (by simp; exact hne)
theorem ad_some {w : World} {k rb q p : Nat} {f : Option Nat} (hk : k < 3) (hr : w.heap[rb]? = some (.cells #[pv f, pv (some p)] 246 (0, 0))) (hq : isCh w q) (hp : isCh w p) (hn : p ≠ q) :
  AdE w (((w.setCell ⟨q, 3 + k, none⟩ (PT p)).drew.setCell ⟨p, 6 + k, none⟩ (PT q)).setCell ⟨rb, 1, none⟩ (PT q)) k rb q f (some p) := by
 have hne : q ≠ rb := fun e => by obtain ⟨x, a, b, h⟩ := hq; rw [e, hr] at h; simp at h
 have hne2 : p ≠ rb := fun e => by obtain ⟨x, a, b, h⟩ := hp; rw [e, hr] at h; simp at h
 have t1 : Touch [q] w (w.setCell ⟨q, 3 + k, none⟩ (PT p)).drew := (Touch.set1 w q _ _).drew
 have t2 := Touch.set1 (w.setCell ⟨q, 3 + k, none⟩ (PT p)).drew p (6 + k) (PT q)
 have t3 := Touch.set1 ((w.setCell ⟨q, 3 + k, none⟩ (PT p)).drew.setCell ⟨p, 6 + k, none⟩ (PT q)) rb 1 (PT q)
 have r2 := bset (i := 1) (t2.keep (t1.keep hr (by simp; omega)) (by simp; omega)) (PT q)
 refine ⟨by simpa [pv_some] using r2, fun x a b h => ?_, fun p' x a b e h => ?_, ((t1.mono (fun i hi => by simp at hi; simp [hi])).more t2 (fun i hi => by simp at hi; simp [hi])).more t3 (fun i hi => by simp at hi; simp [hi])⟩
 ·have h1 := bset (i := 3 + k) h (pv (some p))
  rw [chc_sa hk] at h1
  exact t3.keep (t2.keep h1 (by simp; omega)) (by simp; exact hne)
 ·simp only [Option.some.injEq] at e
  subst e
  have h1 := bset (i := 6 + k) (t1.keep h (by simp; exact hn)) (pv (some q))
  rw [chc_sb hk] at h1
  exact t3.keep h1 (by simp; exact hne2)
structure RmE (w w' : World) (k rb q : Nat) (f l a b : Option Nat) : Prop where
 row : w'.heap[rb]? = some (.cells #[pv (if a = none then b else f), pv (if b = none then a else l)] 246 (0, 0))
 ah : ∀ p x a2 b2, a = some p → w.heap[p]? = some (.cells (chc x a2 b2) 227 (0, 0)) → w'.heap[p]? = some (.cells (chc x a2 (updN b2 k b)) 227 (0, 0))
 be : ∀ p x a2 b2, b = some p → w.heap[p]? = some (.cells (chc x a2 b2) 227 (0, 0)) → w'.heap[p]? = some (.cells (chc x (updN a2 k a) b2) 227 (0, 0))
 t : Touch (rb :: (a.toList ++ b.toList)) w w'
def rm1 (w : World) (k rb : Nat) (a b : Option Nat) : World := match a with | none => w.setCell ⟨rb, 0, none⟩ (pv b) | some p => w.setCell ⟨p, 6 + k, none⟩ (pv b)
def rm2 (w : World) (k rb : Nat) (a b : Option Nat) : World := match b with | none => w.setCell ⟨rb, 1, none⟩ (pv a) | some p => w.setCell ⟨p, 3 + k, none⟩ (pv a)
theorem rm_made {w w1 : World} {k rb q : Nat} {f l a b : Option Nat} (hk : k < 3) (t0 : Touch [] w w1) (hr : w.heap[rb]? = some (.cells #[pv f, pv l] 246 (0, 0))) (ha : ∀ p, a = some p → isCh w p) (hb : ∀ p, b = some p → isCh w p) (hab : ∀ p, a = some p → b ≠ some p) :
  RmE w (rm2 (rm1 w1 k rb a b) k rb a b) k rb q f l a b := by
 have hna : ∀ p, isCh w p → p ≠ rb := fun p hp e => by obtain ⟨x, a, b, h⟩ := hp; rw [e, hr] at h; simp at h
 have hr0 := t0.keep hr (by simp)
 have k0 : ∀ {p : Nat} {x : Se} {a b : Nat → Option Nat}, w.heap[p]? = some (.cells (chc x a b) 227 (0, 0)) → w1.heap[p]? = some (.cells (chc x a b) 227 (0, 0)) := fun h => t0.keep h (by simp)
 cases a with
 | none =>
  have t1 := Touch.set1 w1 rb 0 (pv b)
  have r1 := bset (i := 0) hr0 (pv b)
  cases b with
  | none =>
   have t2 := Touch.set1 (w1.setCell ⟨rb, 0, none⟩ (pv none)) rb 1 (pv none)
   refine ⟨by simpa [rm1, rm2] using bset (i := 1) r1 (pv none), fun p x a2 b2 e => (by cases e), fun p x a2 b2 e => (by cases e), ?_⟩
   exact ((t0.mono (fun _ e => by cases e)).more t1 (fun i hi => by simp at hi; simp [hi])).more t2 (fun i hi => by simp at hi; simp [hi])
  | some p =>
   have hp := hna p (hb p rfl)
   have t2 := Touch.set1 (w1.setCell ⟨rb, 0, none⟩ (pv (some p))) p (3 + k) (pv none)
   refine ⟨by simpa [rm1, rm2] using t2.keep r1 (by simp; omega), fun p x a2 b2 e => (by cases e), fun p' x a2 b2 e h => ?_, ?_⟩
   ·simp only [Option.some.injEq] at e
    subst e
    have h1 := bset (i := 3 + k) (t1.keep (k0 h) (by simp; exact hp)) (pv none)
    rw [chc_sa hk] at h1
    exact h1
   ·exact ((t0.mono (fun _ e => by cases e)).more t1 (fun i hi => by simp at hi; simp [hi])).more t2 (fun i hi => by simp at hi; simp [hi])
 | some p =>
  have hp := hna p (ha p rfl)
  have t1 := Touch.set1 w1 p (6 + k) (pv b)
  have r1 := t1.keep hr0 (by simp; omega)
  cases b with
  | none =>
   have t2 := Touch.set1 (w1.setCell ⟨p, 6 + k, none⟩ (pv none)) rb 1 (pv (some p))
   refine ⟨by simpa [rm1, rm2] using bset (i := 1) r1 (pv (some p)), fun p' x a2 b2 e h => ?_, fun p x a2 b2 e => (by cases e), ?_⟩
   ·simp only [Option.some.injEq] at e
    subst e
    have h1 := bset (i := 6 + k) (k0 h) (pv none)
    rw [chc_sb hk] at h1
    exact t2.keep h1 (by simp; exact hp)
   ·exact ((t0.mono (fun _ e => by cases e)).more t1 (fun i hi => by simp at hi; simp [hi])).more t2 (fun i hi => by simp at hi; simp [hi])
  | some r =>
   have hr' := hna r (hb r rfl)
   have hpr : p ≠ r := fun e => hab p rfl (by rw [e])
   have t2 := Touch.set1 (w1.setCell ⟨p, 6 + k, none⟩ (pv (some r))) r (3 + k) (pv (some p))
   refine ⟨by simpa [rm1, rm2] using t2.keep r1 (by simp; omega), fun p' x a2 b2 e h => ?_, fun p' x a2 b2 e h => ?_, ?_⟩
   ·simp only [Option.some.injEq] at e
    subst e
    have h1 := bset (i := 6 + k) (k0 h) (pv (some r))
    rw [chc_sb hk] at h1
    exact t2.keep h1 (by simp; exact hpr)
   ·simp only [Option.some.injEq] at e
    subst e
    have h1 := bset (i := 3 + k) (t1.keep (k0 h) (by simp; omega)) (pv (some p))
    rw [chc_sa hk] at h1
    exact h1
   ·exact ((t0.mono (fun _ e => by cases e)).more t1 (fun i hi => by simp at hi; simp [hi])).more t2 (fun i hi => by simp at hi; simp [hi])
section
variable (w : World) (rb q : Nat)
set_option maxHeartbeats 1000000 in
theorem add0n (f : Option Nat) (hr : w.heap[rb]? = some (.cells #[pv f, pv (none)] 246 (0, 0))) (hq : isCh w q) : Calls Tryz.prog 157 #[PT rb, .int .i64 0, PT q] w fun e w' => e = .returned (.tuple #[]) ∧ AdE w w' 0 rb q f (none) := by
 have HX := hid (ad_none (k := 0) (by omega) hr hq)
 have hne : q ≠ rb := fun e => by obtain ⟨x, a, b, h⟩ := hq; rw [e, hr] at h; simp at h
 have hql : q < w.heap.size := by obtain ⟨x, a, b, h⟩ := hq; exact block_lt h
 have hrl := block_lt hr
 have C1 : ∀ w', Touch [] w w' → w'.cell? ⟨rb, 1, none⟩ = some (.pointer none) := fun w' t => cell_at (t.keep hr (by simp)) rfl
 have fq : ∀ j, w.frozen? ⟨q, j, none⟩ = false := by obtain ⟨x, a, b, h⟩ := hq; exact froz_at h
 have fr : ∀ j, w.frozen? ⟨rb, j, none⟩ = false := froz_at hr
 have c1 := C1 w (Touch.refl _ _)
 have c0 := cell_at (j := 0) (v := pv f) hr rfl
 obtain ⟨vq, cq⟩ : ∃ v, w.cell? ⟨q, 3, none⟩ = some v := by obtain ⟨x, a, b, h⟩ := hq; exact ⟨_, cell_at h rfl⟩
 clear hr hq
 have k0 : Touch [] w w.drew := (Touch.refl _ _).drew
 unfold PT at *
 go_enter Tryz.func157, Tryz.ntmps157
 go_upto_region 0 with fail
 refine wp_region_L (S := fun w' => Touch [] w w') (st := 9) (by kernel_rfl) ?_
 refine wpL_take (i := 0) (v := (.pointer (some ⟨q, 0, none⟩))) (some 6) rfl rfl (by kernel_rfl) (by kernel_rfl) (by kernel_rfl) (by kernel_rfl) (by kernel_rfl) (by decide) (fun _ _ _ h => h) (Or.inl ⟨by rfl, fun w' hS => (by go_simp)⟩) k0 ?_
 try simp only [Go.Act.put, Zx, Zy, Zz]
 refine wpL_take (i := 1) (v := (.int .i64 0)) (some 7) rfl rfl (by kernel_rfl) (by kernel_rfl) (by kernel_rfl) (by kernel_rfl) (by kernel_rfl) (by decide) (fun _ _ _ h => h) (Or.inl ⟨by rfl, fun w' hS => (by go_simp)⟩) k0 ?_
 try simp only [Go.Act.put, Zx, Zy, Zz]
 refine wpL_take (i := 2) (v := (.pointer (some ⟨rb, 0, none⟩))) (some 8) rfl rfl (by kernel_rfl) (by kernel_rfl) (by kernel_rfl) (by kernel_rfl) (by kernel_rfl) (by decide) (fun _ _ _ h => h) (Or.inl ⟨by rfl, fun w' hS => (by go_simp)⟩) k0 ?_
 try simp only [Go.Act.put, Zx, Zy, Zz]
 refine wpL_take (i := 3) (v := (.pointer (some ⟨rb, 0, none⟩))) (some 9) rfl rfl (by kernel_rfl) (by kernel_rfl) (by kernel_rfl) (by kernel_rfl) (by kernel_rfl) (by decide) (fun _ _ _ h => h) (Or.inl ⟨by rfl, fun w' hS => (by go_simp)⟩) k0 ?_
 try simp only [Go.Act.put, Zx, Zy, Zz]
 refine wpL_take (i := 4) (v := (.pointer (some ⟨rb, 1, none⟩))) (some 10) rfl rfl (by kernel_rfl) (by kernel_rfl) (by kernel_rfl) (by kernel_rfl) (by kernel_rfl) (by decide) (fun _ _ _ h => h) (Or.inl ⟨by rfl, fun w' hS => (by go_simp)⟩) k0 ?_
 try simp only [Go.Act.put, Zx, Zy, Zz]
 refine wpL_take (i := 5) (v := (.pointer none)) (some 11) rfl rfl (by kernel_rfl) (by kernel_rfl) (by kernel_rfl) (by kernel_rfl) (by kernel_rfl) (by decide) (fun _ _ _ h => h) (Or.inl ⟨by rfl, fun w' hS => (by have z0 := C1 _ hS; go_simp)⟩) k0 ?_
 try simp only [Go.Act.put, Zx, Zy, Zz]
 refine wpL_takeY (i := 6) (v := (.pointer (some ⟨q, 0, none⟩))) (some 12) rfl rfl (by kernel_rfl) (by kernel_rfl) (by kernel_rfl) (by decide) (fun _ _ _ h => h) (Or.inl ⟨by rfl, fun w' hS => (by go_simp)⟩) (fun _ => k0) ?_
 try simp only [Go.Act.put, Zx, Zy, Zz]
 refine wpL_takeY (i := 7) (v := (.pointer (some ⟨q, 3, none⟩))) (some 13) rfl rfl (by kernel_rfl) (by kernel_rfl) (by kernel_rfl) (by decide) (fun _ _ _ h => h) (Or.inl ⟨by rfl, fun w' hS => (by go_simp)⟩) (fun _ => k0) ?_
 try simp only [Go.Act.put, Zx, Zy, Zz]
 refine wpL_take (i := 8) (v := (.pointer (some ⟨q, 3, none⟩))) (some 14) rfl rfl (by kernel_rfl) (by kernel_rfl) (by kernel_rfl) (by kernel_rfl) (by kernel_rfl) (by decide) (fun _ _ _ h => h) (Or.inl ⟨by rfl, fun w' hS => (by go_simp)⟩) k0 ?_
 try simp only [Go.Act.put, Zx, Zy, Zz]
 refine wpL_ready (rs := [9]) (by kernel_rfl) (by simp) (AllL.cons (o := { dst := none, op := Op.store 224 (Operand.tmp 14) (Operand.tmp 11), type := 0, pos := _, after := #[{ on := 8, ground := Ground.data }, { on := 5, ground := Ground.data }, { on := 0, ground := Ground.phase }, { on := 1, ground := Ground.phase }, { on := 2, ground := Ground.phase }, { on := 3, ground := Ground.phase }, { on := 4, ground := Ground.phase }, { on := 5, ground := Ground.phase }], guard := none }) rfl (fun K' hK => ?_) AllL.nil)
 rw [if_pos (by rfl)]
 go_simp
 refine hK.out _ _ (fun h => absurd h (by decide)) ?_
 clear hK
 try simp only [Go.Act.put, Zx, Zy, Zz]
 refine wpL_done (by kernel_rfl) ?_ _
 go_wp2
 go_end0
 exact ⟨rfl, HX.out⟩
set_option maxHeartbeats 1000000 in
theorem add0s (f : Option Nat) (p : Nat) (hr : w.heap[rb]? = some (.cells #[pv f, pv (some p)] 246 (0, 0))) (hq : isCh w q) (hp : isCh w p) (hn : p ≠ q) : Calls Tryz.prog 157 #[PT rb, .int .i64 0, PT q] w fun e w' => e = .returned (.tuple #[]) ∧ AdE w w' 0 rb q f (some p) := by
 have HX := hid (ad_some (k := 0) (by omega) hr hq hp hn)
 have hne : q ≠ rb := fun e => by obtain ⟨x, a, b, h⟩ := hq; rw [e, hr] at h; simp at h
 have hql : q < w.heap.size := by obtain ⟨x, a, b, h⟩ := hq; exact block_lt h
 have hrl := block_lt hr
 have C1 : ∀ w', Touch [] w w' → w'.cell? ⟨rb, 1, none⟩ = some (.pointer (some ⟨p, 0, none⟩)) := fun w' t => cell_at (t.keep hr (by simp)) rfl
 have fq : ∀ j, w.frozen? ⟨q, j, none⟩ = false := by obtain ⟨x, a, b, h⟩ := hq; exact froz_at h
 have fr : ∀ j, w.frozen? ⟨rb, j, none⟩ = false := froz_at hr
 have c1 := C1 w (Touch.refl _ _)
 have c0 := cell_at (j := 0) (v := pv f) hr rfl
 obtain ⟨vq, cq⟩ : ∃ v, w.cell? ⟨q, 3, none⟩ = some v := by obtain ⟨x, a, b, h⟩ := hq; exact ⟨_, cell_at h rfl⟩
 obtain ⟨vp, cp⟩ : ∃ v, w.cell? ⟨p, 6, none⟩ = some v := by obtain ⟨x, a, b, h⟩ := hp; exact ⟨_, cell_at h rfl⟩
 have fp : ∀ j, w.frozen? ⟨p, j, none⟩ = false := by obtain ⟨x, a, b, h⟩ := hp; exact froz_at h
 have hne2 : p ≠ rb := fun e => by obtain ⟨x, a, b, h⟩ := hp; rw [e, hr] at h; simp at h
 clear hp
 clear hr hq
 have k0 : Touch [] w w.drew := (Touch.refl _ _).drew
 unfold PT at *
 go_enter Tryz.func157, Tryz.ntmps157
 go_upto_region 0 with fail
 refine wp_region_L (S := fun w' => Touch [] w w') (st := 9) (by kernel_rfl) ?_
 refine wpL_take (i := 0) (v := (.pointer (some ⟨q, 0, none⟩))) (some 6) rfl rfl (by kernel_rfl) (by kernel_rfl) (by kernel_rfl) (by kernel_rfl) (by kernel_rfl) (by decide) (fun _ _ _ h => h) (Or.inl ⟨by rfl, fun w' hS => (by go_simp)⟩) k0 ?_
 try simp only [Go.Act.put, Zx, Zy, Zz]
 refine wpL_take (i := 1) (v := (.int .i64 0)) (some 7) rfl rfl (by kernel_rfl) (by kernel_rfl) (by kernel_rfl) (by kernel_rfl) (by kernel_rfl) (by decide) (fun _ _ _ h => h) (Or.inl ⟨by rfl, fun w' hS => (by go_simp)⟩) k0 ?_
 try simp only [Go.Act.put, Zx, Zy, Zz]
 refine wpL_take (i := 2) (v := (.pointer (some ⟨rb, 0, none⟩))) (some 8) rfl rfl (by kernel_rfl) (by kernel_rfl) (by kernel_rfl) (by kernel_rfl) (by kernel_rfl) (by decide) (fun _ _ _ h => h) (Or.inl ⟨by rfl, fun w' hS => (by go_simp)⟩) k0 ?_
 try simp only [Go.Act.put, Zx, Zy, Zz]
 refine wpL_take (i := 3) (v := (.pointer (some ⟨rb, 0, none⟩))) (some 9) rfl rfl (by kernel_rfl) (by kernel_rfl) (by kernel_rfl) (by kernel_rfl) (by kernel_rfl) (by decide) (fun _ _ _ h => h) (Or.inl ⟨by rfl, fun w' hS => (by go_simp)⟩) k0 ?_
 try simp only [Go.Act.put, Zx, Zy, Zz]
 refine wpL_take (i := 4) (v := (.pointer (some ⟨rb, 1, none⟩))) (some 10) rfl rfl (by kernel_rfl) (by kernel_rfl) (by kernel_rfl) (by kernel_rfl) (by kernel_rfl) (by decide) (fun _ _ _ h => h) (Or.inl ⟨by rfl, fun w' hS => (by go_simp)⟩) k0 ?_
 try simp only [Go.Act.put, Zx, Zy, Zz]
 refine wpL_take (i := 5) (v := (.pointer (some ⟨p, 0, none⟩))) (some 11) rfl rfl (by kernel_rfl) (by kernel_rfl) (by kernel_rfl) (by kernel_rfl) (by kernel_rfl) (by decide) (fun _ _ _ h => h) (Or.inl ⟨by rfl, fun w' hS => (by have z0 := C1 _ hS; go_simp)⟩) k0 ?_
 try simp only [Go.Act.put, Zx, Zy, Zz]
 refine wpL_takeY (i := 6) (v := (.pointer (some ⟨q, 0, none⟩))) (some 12) rfl rfl (by kernel_rfl) (by kernel_rfl) (by kernel_rfl) (by decide) (fun _ _ _ h => h) (Or.inl ⟨by rfl, fun w' hS => (by go_simp)⟩) (fun _ => k0) ?_
 try simp only [Go.Act.put, Zx, Zy, Zz]
 refine wpL_takeY (i := 7) (v := (.pointer (some ⟨q, 3, none⟩))) (some 13) rfl rfl (by kernel_rfl) (by kernel_rfl) (by kernel_rfl) (by decide) (fun _ _ _ h => h) (Or.inl ⟨by rfl, fun w' hS => (by go_simp)⟩) (fun _ => k0) ?_
 try simp only [Go.Act.put, Zx, Zy, Zz]
 refine wpL_take (i := 8) (v := (.pointer (some ⟨q, 3, none⟩))) (some 14) rfl rfl (by kernel_rfl) (by kernel_rfl) (by kernel_rfl) (by kernel_rfl) (by kernel_rfl) (by decide) (fun _ _ _ h => h) (Or.inl ⟨by rfl, fun w' hS => (by go_simp)⟩) k0 ?_
 try simp only [Go.Act.put, Zx, Zy, Zz]
 refine wpL_ready (rs := [9]) (by kernel_rfl) (by simp) (AllL.cons (o := { dst := none, op := Op.store 224 (Operand.tmp 14) (Operand.tmp 11), type := 0, pos := _, after := #[{ on := 8, ground := Ground.data }, { on := 5, ground := Ground.data }, { on := 0, ground := Ground.phase }, { on := 1, ground := Ground.phase }, { on := 2, ground := Ground.phase }, { on := 3, ground := Ground.phase }, { on := 4, ground := Ground.phase }, { on := 5, ground := Ground.phase }], guard := none }) rfl (fun K' hK => ?_) AllL.nil)
 rw [if_pos (by rfl)]
 go_simp
 refine hK.out _ _ (fun h => absurd h (by decide)) ?_
 clear hK
 try simp only [Go.Act.put, Zx, Zy, Zz]
 refine wpL_done (by kernel_rfl) ?_ _
 go_wp2
 go_end0
 exact ⟨rfl, HX.out⟩
set_option maxHeartbeats 1000000 in
theorem add1n (f : Option Nat) (hr : w.heap[rb]? = some (.cells #[pv f, pv (none)] 246 (0, 0))) (hq : isCh w q) : Calls Tryz.prog 157 #[PT rb, .int .i64 1, PT q] w fun e w' => e = .returned (.tuple #[]) ∧ AdE w w' 1 rb q f (none) := by
 have HX := hid (ad_none (k := 1) (by omega) hr hq)
 have hne : q ≠ rb := fun e => by obtain ⟨x, a, b, h⟩ := hq; rw [e, hr] at h; simp at h
 have hql : q < w.heap.size := by obtain ⟨x, a, b, h⟩ := hq; exact block_lt h
 have hrl := block_lt hr
 have C1 : ∀ w', Touch [] w w' → w'.cell? ⟨rb, 1, none⟩ = some (.pointer none) := fun w' t => cell_at (t.keep hr (by simp)) rfl
 have fq : ∀ j, w.frozen? ⟨q, j, none⟩ = false := by obtain ⟨x, a, b, h⟩ := hq; exact froz_at h
 have fr : ∀ j, w.frozen? ⟨rb, j, none⟩ = false := froz_at hr
 have c1 := C1 w (Touch.refl _ _)
 have c0 := cell_at (j := 0) (v := pv f) hr rfl
 obtain ⟨vq, cq⟩ : ∃ v, w.cell? ⟨q, 4, none⟩ = some v := by obtain ⟨x, a, b, h⟩ := hq; exact ⟨_, cell_at h rfl⟩
 clear hr hq
 have k0 : Touch [] w w.drew := (Touch.refl _ _).drew
 unfold PT at *
 go_enter Tryz.func157, Tryz.ntmps157
 go_upto_region 0 with fail
 refine wp_region_L (S := fun w' => Touch [] w w') (st := 9) (by kernel_rfl) ?_
 refine wpL_take (i := 0) (v := (.pointer (some ⟨q, 0, none⟩))) (some 6) rfl rfl (by kernel_rfl) (by kernel_rfl) (by kernel_rfl) (by kernel_rfl) (by kernel_rfl) (by decide) (fun _ _ _ h => h) (Or.inl ⟨by rfl, fun w' hS => (by go_simp)⟩) k0 ?_
 try simp only [Go.Act.put, Zx, Zy, Zz]
 refine wpL_take (i := 1) (v := (.int .i64 1)) (some 7) rfl rfl (by kernel_rfl) (by kernel_rfl) (by kernel_rfl) (by kernel_rfl) (by kernel_rfl) (by decide) (fun _ _ _ h => h) (Or.inl ⟨by rfl, fun w' hS => (by go_simp)⟩) k0 ?_
 try simp only [Go.Act.put, Zx, Zy, Zz]
 refine wpL_take (i := 2) (v := (.pointer (some ⟨rb, 0, none⟩))) (some 8) rfl rfl (by kernel_rfl) (by kernel_rfl) (by kernel_rfl) (by kernel_rfl) (by kernel_rfl) (by decide) (fun _ _ _ h => h) (Or.inl ⟨by rfl, fun w' hS => (by go_simp)⟩) k0 ?_
 try simp only [Go.Act.put, Zx, Zy, Zz]
 refine wpL_take (i := 3) (v := (.pointer (some ⟨rb, 0, none⟩))) (some 9) rfl rfl (by kernel_rfl) (by kernel_rfl) (by kernel_rfl) (by kernel_rfl) (by kernel_rfl) (by decide) (fun _ _ _ h => h) (Or.inl ⟨by rfl, fun w' hS => (by go_simp)⟩) k0 ?_
 try simp only [Go.Act.put, Zx, Zy, Zz]
 refine wpL_take (i := 4) (v := (.pointer (some ⟨rb, 1, none⟩))) (some 10) rfl rfl (by kernel_rfl) (by kernel_rfl) (by kernel_rfl) (by kernel_rfl) (by kernel_rfl) (by decide) (fun _ _ _ h => h) (Or.inl ⟨by rfl, fun w' hS => (by go_simp)⟩) k0 ?_
 try simp only [Go.Act.put, Zx, Zy, Zz]
 refine wpL_take (i := 5) (v := (.pointer none)) (some 11) rfl rfl (by kernel_rfl) (by kernel_rfl) (by kernel_rfl) (by kernel_rfl) (by kernel_rfl) (by decide) (fun _ _ _ h => h) (Or.inl ⟨by rfl, fun w' hS => (by have z0 := C1 _ hS; go_simp)⟩) k0 ?_
 try simp only [Go.Act.put, Zx, Zy, Zz]
 refine wpL_takeY (i := 6) (v := (.pointer (some ⟨q, 0, none⟩))) (some 12) rfl rfl (by kernel_rfl) (by kernel_rfl) (by kernel_rfl) (by decide) (fun _ _ _ h => h) (Or.inl ⟨by rfl, fun w' hS => (by go_simp)⟩) (fun _ => k0) ?_
 try simp only [Go.Act.put, Zx, Zy, Zz]
 refine wpL_takeY (i := 7) (v := (.pointer (some ⟨q, 3, none⟩))) (some 13) rfl rfl (by kernel_rfl) (by kernel_rfl) (by kernel_rfl) (by decide) (fun _ _ _ h => h) (Or.inl ⟨by rfl, fun w' hS => (by go_simp)⟩) (fun _ => k0) ?_
 try simp only [Go.Act.put, Zx, Zy, Zz]
 refine wpL_take (i := 8) (v := (.pointer (some ⟨q, 4, none⟩))) (some 14) rfl rfl (by kernel_rfl) (by kernel_rfl) (by kernel_rfl) (by kernel_rfl) (by kernel_rfl) (by decide) (fun _ _ _ h => h) (Or.inl ⟨by rfl, fun w' hS => (by go_simp)⟩) k0 ?_
 try simp only [Go.Act.put, Zx, Zy, Zz]
 refine wpL_ready (rs := [9]) (by kernel_rfl) (by simp) (AllL.cons (o := { dst := none, op := Op.store 224 (Operand.tmp 14) (Operand.tmp 11), type := 0, pos := _, after := #[{ on := 8, ground := Ground.data }, { on := 5, ground := Ground.data }, { on := 0, ground := Ground.phase }, { on := 1, ground := Ground.phase }, { on := 2, ground := Ground.phase }, { on := 3, ground := Ground.phase }, { on := 4, ground := Ground.phase }, { on := 5, ground := Ground.phase }], guard := none }) rfl (fun K' hK => ?_) AllL.nil)
 rw [if_pos (by rfl)]
 go_simp
 refine hK.out _ _ (fun h => absurd h (by decide)) ?_
 clear hK
 try simp only [Go.Act.put, Zx, Zy, Zz]
 refine wpL_done (by kernel_rfl) ?_ _
 go_wp2
 go_end0
 exact ⟨rfl, HX.out⟩
set_option maxHeartbeats 1000000 in
theorem add1s (f : Option Nat) (p : Nat) (hr : w.heap[rb]? = some (.cells #[pv f, pv (some p)] 246 (0, 0))) (hq : isCh w q) (hp : isCh w p) (hn : p ≠ q) : Calls Tryz.prog 157 #[PT rb, .int .i64 1, PT q] w fun e w' => e = .returned (.tuple #[]) ∧ AdE w w' 1 rb q f (some p) := by
 have HX := hid (ad_some (k := 1) (by omega) hr hq hp hn)
 have hne : q ≠ rb := fun e => by obtain ⟨x, a, b, h⟩ := hq; rw [e, hr] at h; simp at h
 have hql : q < w.heap.size := by obtain ⟨x, a, b, h⟩ := hq; exact block_lt h
 have hrl := block_lt hr
 have C1 : ∀ w', Touch [] w w' → w'.cell? ⟨rb, 1, none⟩ = some (.pointer (some ⟨p, 0, none⟩)) := fun w' t => cell_at (t.keep hr (by simp)) rfl
 have fq : ∀ j, w.frozen? ⟨q, j, none⟩ = false := by obtain ⟨x, a, b, h⟩ := hq; exact froz_at h
 have fr : ∀ j, w.frozen? ⟨rb, j, none⟩ = false := froz_at hr
 have c1 := C1 w (Touch.refl _ _)
 have c0 := cell_at (j := 0) (v := pv f) hr rfl
 obtain ⟨vq, cq⟩ : ∃ v, w.cell? ⟨q, 4, none⟩ = some v := by obtain ⟨x, a, b, h⟩ := hq; exact ⟨_, cell_at h rfl⟩
 obtain ⟨vp, cp⟩ : ∃ v, w.cell? ⟨p, 7, none⟩ = some v := by obtain ⟨x, a, b, h⟩ := hp; exact ⟨_, cell_at h rfl⟩
 have fp : ∀ j, w.frozen? ⟨p, j, none⟩ = false := by obtain ⟨x, a, b, h⟩ := hp; exact froz_at h
 have hne2 : p ≠ rb := fun e => by obtain ⟨x, a, b, h⟩ := hp; rw [e, hr] at h; simp at h
 clear hp
 clear hr hq
 have k0 : Touch [] w w.drew := (Touch.refl _ _).drew
 unfold PT at *
 go_enter Tryz.func157, Tryz.ntmps157
 go_upto_region 0 with fail
 refine wp_region_L (S := fun w' => Touch [] w w') (st := 9) (by kernel_rfl) ?_
 refine wpL_take (i := 0) (v := (.pointer (some ⟨q, 0, none⟩))) (some 6) rfl rfl (by kernel_rfl) (by kernel_rfl) (by kernel_rfl) (by kernel_rfl) (by kernel_rfl) (by decide) (fun _ _ _ h => h) (Or.inl ⟨by rfl, fun w' hS => (by go_simp)⟩) k0 ?_
 try simp only [Go.Act.put, Zx, Zy, Zz]
 refine wpL_take (i := 1) (v := (.int .i64 1)) (some 7) rfl rfl (by kernel_rfl) (by kernel_rfl) (by kernel_rfl) (by kernel_rfl) (by kernel_rfl) (by decide) (fun _ _ _ h => h) (Or.inl ⟨by rfl, fun w' hS => (by go_simp)⟩) k0 ?_
 try simp only [Go.Act.put, Zx, Zy, Zz]
 refine wpL_take (i := 2) (v := (.pointer (some ⟨rb, 0, none⟩))) (some 8) rfl rfl (by kernel_rfl) (by kernel_rfl) (by kernel_rfl) (by kernel_rfl) (by kernel_rfl) (by decide) (fun _ _ _ h => h) (Or.inl ⟨by rfl, fun w' hS => (by go_simp)⟩) k0 ?_
 try simp only [Go.Act.put, Zx, Zy, Zz]
 refine wpL_take (i := 3) (v := (.pointer (some ⟨rb, 0, none⟩))) (some 9) rfl rfl (by kernel_rfl) (by kernel_rfl) (by kernel_rfl) (by kernel_rfl) (by kernel_rfl) (by decide) (fun _ _ _ h => h) (Or.inl ⟨by rfl, fun w' hS => (by go_simp)⟩) k0 ?_
 try simp only [Go.Act.put, Zx, Zy, Zz]
 refine wpL_take (i := 4) (v := (.pointer (some ⟨rb, 1, none⟩))) (some 10) rfl rfl (by kernel_rfl) (by kernel_rfl) (by kernel_rfl) (by kernel_rfl) (by kernel_rfl) (by decide) (fun _ _ _ h => h) (Or.inl ⟨by rfl, fun w' hS => (by go_simp)⟩) k0 ?_
 try simp only [Go.Act.put, Zx, Zy, Zz]
 refine wpL_take (i := 5) (v := (.pointer (some ⟨p, 0, none⟩))) (some 11) rfl rfl (by kernel_rfl) (by kernel_rfl) (by kernel_rfl) (by kernel_rfl) (by kernel_rfl) (by decide) (fun _ _ _ h => h) (Or.inl ⟨by rfl, fun w' hS => (by have z0 := C1 _ hS; go_simp)⟩) k0 ?_
 try simp only [Go.Act.put, Zx, Zy, Zz]
 refine wpL_takeY (i := 6) (v := (.pointer (some ⟨q, 0, none⟩))) (some 12) rfl rfl (by kernel_rfl) (by kernel_rfl) (by kernel_rfl) (by decide) (fun _ _ _ h => h) (Or.inl ⟨by rfl, fun w' hS => (by go_simp)⟩) (fun _ => k0) ?_
 try simp only [Go.Act.put, Zx, Zy, Zz]
 refine wpL_takeY (i := 7) (v := (.pointer (some ⟨q, 3, none⟩))) (some 13) rfl rfl (by kernel_rfl) (by kernel_rfl) (by kernel_rfl) (by decide) (fun _ _ _ h => h) (Or.inl ⟨by rfl, fun w' hS => (by go_simp)⟩) (fun _ => k0) ?_
 try simp only [Go.Act.put, Zx, Zy, Zz]
 refine wpL_take (i := 8) (v := (.pointer (some ⟨q, 4, none⟩))) (some 14) rfl rfl (by kernel_rfl) (by kernel_rfl) (by kernel_rfl) (by kernel_rfl) (by kernel_rfl) (by decide) (fun _ _ _ h => h) (Or.inl ⟨by rfl, fun w' hS => (by go_simp)⟩) k0 ?_
 try simp only [Go.Act.put, Zx, Zy, Zz]
 refine wpL_ready (rs := [9]) (by kernel_rfl) (by simp) (AllL.cons (o := { dst := none, op := Op.store 224 (Operand.tmp 14) (Operand.tmp 11), type := 0, pos := _, after := #[{ on := 8, ground := Ground.data }, { on := 5, ground := Ground.data }, { on := 0, ground := Ground.phase }, { on := 1, ground := Ground.phase }, { on := 2, ground := Ground.phase }, { on := 3, ground := Ground.phase }, { on := 4, ground := Ground.phase }, { on := 5, ground := Ground.phase }], guard := none }) rfl (fun K' hK => ?_) AllL.nil)
 rw [if_pos (by rfl)]
 go_simp
 refine hK.out _ _ (fun h => absurd h (by decide)) ?_
 clear hK
 try simp only [Go.Act.put, Zx, Zy, Zz]
 refine wpL_done (by kernel_rfl) ?_ _
 go_wp2
 go_end0
 exact ⟨rfl, HX.out⟩
set_option maxHeartbeats 1000000 in
theorem add2n (f : Option Nat) (hr : w.heap[rb]? = some (.cells #[pv f, pv (none)] 246 (0, 0))) (hq : isCh w q) : Calls Tryz.prog 157 #[PT rb, .int .i64 2, PT q] w fun e w' => e = .returned (.tuple #[]) ∧ AdE w w' 2 rb q f (none) := by
 have HX := hid (ad_none (k := 2) (by omega) hr hq)
 have hne : q ≠ rb := fun e => by obtain ⟨x, a, b, h⟩ := hq; rw [e, hr] at h; simp at h
 have hql : q < w.heap.size := by obtain ⟨x, a, b, h⟩ := hq; exact block_lt h
 have hrl := block_lt hr
 have C1 : ∀ w', Touch [] w w' → w'.cell? ⟨rb, 1, none⟩ = some (.pointer none) := fun w' t => cell_at (t.keep hr (by simp)) rfl
 have fq : ∀ j, w.frozen? ⟨q, j, none⟩ = false := by obtain ⟨x, a, b, h⟩ := hq; exact froz_at h
 have fr : ∀ j, w.frozen? ⟨rb, j, none⟩ = false := froz_at hr
 have c1 := C1 w (Touch.refl _ _)
 have c0 := cell_at (j := 0) (v := pv f) hr rfl
 obtain ⟨vq, cq⟩ : ∃ v, w.cell? ⟨q, 5, none⟩ = some v := by obtain ⟨x, a, b, h⟩ := hq; exact ⟨_, cell_at h rfl⟩
 clear hr hq
 have k0 : Touch [] w w.drew := (Touch.refl _ _).drew
 unfold PT at *
 go_enter Tryz.func157, Tryz.ntmps157
 go_upto_region 0 with fail
 refine wp_region_L (S := fun w' => Touch [] w w') (st := 9) (by kernel_rfl) ?_
 refine wpL_take (i := 0) (v := (.pointer (some ⟨q, 0, none⟩))) (some 6) rfl rfl (by kernel_rfl) (by kernel_rfl) (by kernel_rfl) (by kernel_rfl) (by kernel_rfl) (by decide) (fun _ _ _ h => h) (Or.inl ⟨by rfl, fun w' hS => (by go_simp)⟩) k0 ?_
 try simp only [Go.Act.put, Zx, Zy, Zz]
 refine wpL_take (i := 1) (v := (.int .i64 2)) (some 7) rfl rfl (by kernel_rfl) (by kernel_rfl) (by kernel_rfl) (by kernel_rfl) (by kernel_rfl) (by decide) (fun _ _ _ h => h) (Or.inl ⟨by rfl, fun w' hS => (by go_simp)⟩) k0 ?_
 try simp only [Go.Act.put, Zx, Zy, Zz]
 refine wpL_take (i := 2) (v := (.pointer (some ⟨rb, 0, none⟩))) (some 8) rfl rfl (by kernel_rfl) (by kernel_rfl) (by kernel_rfl) (by kernel_rfl) (by kernel_rfl) (by decide) (fun _ _ _ h => h) (Or.inl ⟨by rfl, fun w' hS => (by go_simp)⟩) k0 ?_
 try simp only [Go.Act.put, Zx, Zy, Zz]
 refine wpL_take (i := 3) (v := (.pointer (some ⟨rb, 0, none⟩))) (some 9) rfl rfl (by kernel_rfl) (by kernel_rfl) (by kernel_rfl) (by kernel_rfl) (by kernel_rfl) (by decide) (fun _ _ _ h => h) (Or.inl ⟨by rfl, fun w' hS => (by go_simp)⟩) k0 ?_
 try simp only [Go.Act.put, Zx, Zy, Zz]
 refine wpL_take (i := 4) (v := (.pointer (some ⟨rb, 1, none⟩))) (some 10) rfl rfl (by kernel_rfl) (by kernel_rfl) (by kernel_rfl) (by kernel_rfl) (by kernel_rfl) (by decide) (fun _ _ _ h => h) (Or.inl ⟨by rfl, fun w' hS => (by go_simp)⟩) k0 ?_
 try simp only [Go.Act.put, Zx, Zy, Zz]
 refine wpL_take (i := 5) (v := (.pointer none)) (some 11) rfl rfl (by kernel_rfl) (by kernel_rfl) (by kernel_rfl) (by kernel_rfl) (by kernel_rfl) (by decide) (fun _ _ _ h => h) (Or.inl ⟨by rfl, fun w' hS => (by have z0 := C1 _ hS; go_simp)⟩) k0 ?_
 try simp only [Go.Act.put, Zx, Zy, Zz]
 refine wpL_takeY (i := 6) (v := (.pointer (some ⟨q, 0, none⟩))) (some 12) rfl rfl (by kernel_rfl) (by kernel_rfl) (by kernel_rfl) (by decide) (fun _ _ _ h => h) (Or.inl ⟨by rfl, fun w' hS => (by go_simp)⟩) (fun _ => k0) ?_
 try simp only [Go.Act.put, Zx, Zy, Zz]
 refine wpL_takeY (i := 7) (v := (.pointer (some ⟨q, 3, none⟩))) (some 13) rfl rfl (by kernel_rfl) (by kernel_rfl) (by kernel_rfl) (by decide) (fun _ _ _ h => h) (Or.inl ⟨by rfl, fun w' hS => (by go_simp)⟩) (fun _ => k0) ?_
 try simp only [Go.Act.put, Zx, Zy, Zz]
 refine wpL_take (i := 8) (v := (.pointer (some ⟨q, 5, none⟩))) (some 14) rfl rfl (by kernel_rfl) (by kernel_rfl) (by kernel_rfl) (by kernel_rfl) (by kernel_rfl) (by decide) (fun _ _ _ h => h) (Or.inl ⟨by rfl, fun w' hS => (by go_simp)⟩) k0 ?_
 try simp only [Go.Act.put, Zx, Zy, Zz]
 refine wpL_ready (rs := [9]) (by kernel_rfl) (by simp) (AllL.cons (o := { dst := none, op := Op.store 224 (Operand.tmp 14) (Operand.tmp 11), type := 0, pos := _, after := #[{ on := 8, ground := Ground.data }, { on := 5, ground := Ground.data }, { on := 0, ground := Ground.phase }, { on := 1, ground := Ground.phase }, { on := 2, ground := Ground.phase }, { on := 3, ground := Ground.phase }, { on := 4, ground := Ground.phase }, { on := 5, ground := Ground.phase }], guard := none }) rfl (fun K' hK => ?_) AllL.nil)
 rw [if_pos (by rfl)]
 go_simp
 refine hK.out _ _ (fun h => absurd h (by decide)) ?_
 clear hK
 try simp only [Go.Act.put, Zx, Zy, Zz]
 refine wpL_done (by kernel_rfl) ?_ _
 go_wp2
 go_end0
 exact ⟨rfl, HX.out⟩
set_option maxHeartbeats 1000000 in
theorem add2s (f : Option Nat) (p : Nat) (hr : w.heap[rb]? = some (.cells #[pv f, pv (some p)] 246 (0, 0))) (hq : isCh w q) (hp : isCh w p) (hn : p ≠ q) : Calls Tryz.prog 157 #[PT rb, .int .i64 2, PT q] w fun e w' => e = .returned (.tuple #[]) ∧ AdE w w' 2 rb q f (some p) := by
 have HX := hid (ad_some (k := 2) (by omega) hr hq hp hn)
 have hne : q ≠ rb := fun e => by obtain ⟨x, a, b, h⟩ := hq; rw [e, hr] at h; simp at h
 have hql : q < w.heap.size := by obtain ⟨x, a, b, h⟩ := hq; exact block_lt h
 have hrl := block_lt hr
 have C1 : ∀ w', Touch [] w w' → w'.cell? ⟨rb, 1, none⟩ = some (.pointer (some ⟨p, 0, none⟩)) := fun w' t => cell_at (t.keep hr (by simp)) rfl
 have fq : ∀ j, w.frozen? ⟨q, j, none⟩ = false := by obtain ⟨x, a, b, h⟩ := hq; exact froz_at h
 have fr : ∀ j, w.frozen? ⟨rb, j, none⟩ = false := froz_at hr
 have c1 := C1 w (Touch.refl _ _)
 have c0 := cell_at (j := 0) (v := pv f) hr rfl
 obtain ⟨vq, cq⟩ : ∃ v, w.cell? ⟨q, 5, none⟩ = some v := by obtain ⟨x, a, b, h⟩ := hq; exact ⟨_, cell_at h rfl⟩
 obtain ⟨vp, cp⟩ : ∃ v, w.cell? ⟨p, 8, none⟩ = some v := by obtain ⟨x, a, b, h⟩ := hp; exact ⟨_, cell_at h rfl⟩
 have fp : ∀ j, w.frozen? ⟨p, j, none⟩ = false := by obtain ⟨x, a, b, h⟩ := hp; exact froz_at h
 have hne2 : p ≠ rb := fun e => by obtain ⟨x, a, b, h⟩ := hp; rw [e, hr] at h; simp at h
 clear hp
 clear hr hq
 have k0 : Touch [] w w.drew := (Touch.refl _ _).drew
 unfold PT at *
 go_enter Tryz.func157, Tryz.ntmps157
 go_upto_region 0 with fail
 refine wp_region_L (S := fun w' => Touch [] w w') (st := 9) (by kernel_rfl) ?_
 refine wpL_take (i := 0) (v := (.pointer (some ⟨q, 0, none⟩))) (some 6) rfl rfl (by kernel_rfl) (by kernel_rfl) (by kernel_rfl) (by kernel_rfl) (by kernel_rfl) (by decide) (fun _ _ _ h => h) (Or.inl ⟨by rfl, fun w' hS => (by go_simp)⟩) k0 ?_
 try simp only [Go.Act.put, Zx, Zy, Zz]
 refine wpL_take (i := 1) (v := (.int .i64 2)) (some 7) rfl rfl (by kernel_rfl) (by kernel_rfl) (by kernel_rfl) (by kernel_rfl) (by kernel_rfl) (by decide) (fun _ _ _ h => h) (Or.inl ⟨by rfl, fun w' hS => (by go_simp)⟩) k0 ?_
 try simp only [Go.Act.put, Zx, Zy, Zz]
 refine wpL_take (i := 2) (v := (.pointer (some ⟨rb, 0, none⟩))) (some 8) rfl rfl (by kernel_rfl) (by kernel_rfl) (by kernel_rfl) (by kernel_rfl) (by kernel_rfl) (by decide) (fun _ _ _ h => h) (Or.inl ⟨by rfl, fun w' hS => (by go_simp)⟩) k0 ?_
 try simp only [Go.Act.put, Zx, Zy, Zz]
 refine wpL_take (i := 3) (v := (.pointer (some ⟨rb, 0, none⟩))) (some 9) rfl rfl (by kernel_rfl) (by kernel_rfl) (by kernel_rfl) (by kernel_rfl) (by kernel_rfl) (by decide) (fun _ _ _ h => h) (Or.inl ⟨by rfl, fun w' hS => (by go_simp)⟩) k0 ?_
 try simp only [Go.Act.put, Zx, Zy, Zz]
 refine wpL_take (i := 4) (v := (.pointer (some ⟨rb, 1, none⟩))) (some 10) rfl rfl (by kernel_rfl) (by kernel_rfl) (by kernel_rfl) (by kernel_rfl) (by kernel_rfl) (by decide) (fun _ _ _ h => h) (Or.inl ⟨by rfl, fun w' hS => (by go_simp)⟩) k0 ?_
 try simp only [Go.Act.put, Zx, Zy, Zz]
 refine wpL_take (i := 5) (v := (.pointer (some ⟨p, 0, none⟩))) (some 11) rfl rfl (by kernel_rfl) (by kernel_rfl) (by kernel_rfl) (by kernel_rfl) (by kernel_rfl) (by decide) (fun _ _ _ h => h) (Or.inl ⟨by rfl, fun w' hS => (by have z0 := C1 _ hS; go_simp)⟩) k0 ?_
 try simp only [Go.Act.put, Zx, Zy, Zz]
 refine wpL_takeY (i := 6) (v := (.pointer (some ⟨q, 0, none⟩))) (some 12) rfl rfl (by kernel_rfl) (by kernel_rfl) (by kernel_rfl) (by decide) (fun _ _ _ h => h) (Or.inl ⟨by rfl, fun w' hS => (by go_simp)⟩) (fun _ => k0) ?_
 try simp only [Go.Act.put, Zx, Zy, Zz]
 refine wpL_takeY (i := 7) (v := (.pointer (some ⟨q, 3, none⟩))) (some 13) rfl rfl (by kernel_rfl) (by kernel_rfl) (by kernel_rfl) (by decide) (fun _ _ _ h => h) (Or.inl ⟨by rfl, fun w' hS => (by go_simp)⟩) (fun _ => k0) ?_
 try simp only [Go.Act.put, Zx, Zy, Zz]
 refine wpL_take (i := 8) (v := (.pointer (some ⟨q, 5, none⟩))) (some 14) rfl rfl (by kernel_rfl) (by kernel_rfl) (by kernel_rfl) (by kernel_rfl) (by kernel_rfl) (by decide) (fun _ _ _ h => h) (Or.inl ⟨by rfl, fun w' hS => (by go_simp)⟩) k0 ?_
 try simp only [Go.Act.put, Zx, Zy, Zz]
 refine wpL_ready (rs := [9]) (by kernel_rfl) (by simp) (AllL.cons (o := { dst := none, op := Op.store 224 (Operand.tmp 14) (Operand.tmp 11), type := 0, pos := _, after := #[{ on := 8, ground := Ground.data }, { on := 5, ground := Ground.data }, { on := 0, ground := Ground.phase }, { on := 1, ground := Ground.phase }, { on := 2, ground := Ground.phase }, { on := 3, ground := Ground.phase }, { on := 4, ground := Ground.phase }, { on := 5, ground := Ground.phase }], guard := none }) rfl (fun K' hK => ?_) AllL.nil)
 rw [if_pos (by rfl)]
 go_simp
 refine hK.out _ _ (fun h => absurd h (by decide)) ?_
 clear hK
 try simp only [Go.Act.put, Zx, Zy, Zz]
 refine wpL_done (by kernel_rfl) ?_ _
 go_wp2
 go_end0
 exact ⟨rfl, HX.out⟩
theorem add_ (k : Nat) (hk : k < 3) (f l : Option Nat) (hr : w.heap[rb]? = some (.cells #[pv f, pv l] 246 (0, 0))) (hq : isCh w q) (hp : ∀ p, l = some p → isCh w p ∧ p ≠ q) : Calls Tryz.prog 157 #[PT rb, .int .i64 (k : Int), PT q] w fun e w' => e = .returned (.tuple #[]) ∧ AdE w w' k rb q f l := by
 cases l with
 | none =>
  match k, hk with
  | 0, _ => exact add0n w rb q f hr hq
  | 1, _ => exact add1n w rb q f hr hq
  | 2, _ => exact add2n w rb q f hr hq
 | some p =>
  obtain ⟨h1, h2⟩ := hp p rfl
  match k, hk with
  | 0, _ => exact add0s w rb q f p hr hq h1 h2
  | 1, _ => exact add1s w rb q f p hr hq h1 h2
  | 2, _ => exact add2s w rb q f p hr hq h1 h2
set_option maxHeartbeats 1000000 in
theorem rem0nn (f l : Option Nat) (x : Se) (A B : Nat → Option Nat) (hr : w.heap[rb]? = some (.cells #[pv f, pv l] 246 (0, 0))) (hq : w.heap[q]? = some (.cells (chc x A B) 227 (0, 0))) (eA : A 0 = none) (eB : B 0 = none) : Calls Tryz.prog 143 #[PT rb, .int .i64 0, PT q] w fun e w' => e = .returned (.tuple #[]) ∧ RmE w w' 0 rb q f l (none) (none) := by
 have HX : Hid (∀ n, RmE w (rm2 (rm1 (w.drewN n) 0 rb (none) (none)) 0 rb (none) (none)) 0 rb q f l (none) (none)) := hid (fun n => rm_made (by omega) ((Touch.refl _ _).drewN n) hr (fun z e => (by cases e)) (fun z e => (by cases e)) (fun z e e2 => (by cases e)))
 have c3 := cell_at (j := 3) (v := .pointer none) hq (by have := chc_a (x := x) (a := A) (b := B) (k := 0) (by omega); rw [eA] at this; exact this)
 have c6 := cell_at (j := 6) (v := .pointer none) hq (by have := chc_b (x := x) (a := A) (b := B) (k := 0) (by omega); rw [eB] at this; exact this)
 have fr : ∀ j, w.frozen? ⟨rb, j, none⟩ = false := froz_at hr
 have r0 := cell_at (j := 0) (v := pv f) hr rfl
 have r1 := cell_at (j := 1) (v := pv l) hr rfl
 clear hr hq eA eB
 unfold rm2 rm1 pv at HX
 simp only [Option.map_none, Option.map_some] at HX
 unfold PT at *
 go_enter Tryz.func143, Tryz.ntmps143
 go_upto_region 0 with fail
 go_quiet (fail)
 go_wp2
 go_end0
 exact ⟨rfl, HX.out _⟩
set_option maxHeartbeats 1000000 in
theorem rem0ns (f l : Option Nat) (r : Nat) (x : Se) (A B : Nat → Option Nat) (hr : w.heap[rb]? = some (.cells #[pv f, pv l] 246 (0, 0))) (hq : w.heap[q]? = some (.cells (chc x A B) 227 (0, 0))) (eA : A 0 = none) (eB : B 0 = some r) (hrr : isCh w r) : Calls Tryz.prog 143 #[PT rb, .int .i64 0, PT q] w fun e w' => e = .returned (.tuple #[]) ∧ RmE w w' 0 rb q f l (none) (some r) := by
 have HX : Hid (∀ n, RmE w (rm2 (rm1 (w.drewN n) 0 rb (none) (some r)) 0 rb (none) (some r)) 0 rb q f l (none) (some r)) := hid (fun n => rm_made (by omega) ((Touch.refl _ _).drewN n) hr (fun z e => (by cases e)) (fun z e => by cases e; exact hrr) (fun z e e2 => (by cases e)))
 have c3 := cell_at (j := 3) (v := .pointer none) hq (by have := chc_a (x := x) (a := A) (b := B) (k := 0) (by omega); rw [eA] at this; exact this)
 have c6 := cell_at (j := 6) (v := .pointer (some ⟨r, 0, none⟩)) hq (by have := chc_b (x := x) (a := A) (b := B) (k := 0) (by omega); rw [eB] at this; exact this)
 have fr : ∀ j, w.frozen? ⟨rb, j, none⟩ = false := froz_at hr
 have r0 := cell_at (j := 0) (v := pv f) hr rfl
 have r1 := cell_at (j := 1) (v := pv l) hr rfl
 have fr2 : ∀ j, w.frozen? ⟨r, j, none⟩ = false := by obtain ⟨x, a, b, h⟩ := hrr; exact froz_at h
 obtain ⟨vr, cr⟩ : ∃ v, w.cell? ⟨r, 3, none⟩ = some v := by obtain ⟨x, a, b, h⟩ := hrr; exact ⟨_, cell_at h rfl⟩
 clear hrr hr hq eA eB
 unfold rm2 rm1 pv at HX
 simp only [Option.map_none, Option.map_some] at HX
 unfold PT at *
 go_enter Tryz.func143, Tryz.ntmps143
 go_upto_region 0 with fail
 go_quiet (fail)
 go_wp2
 go_end0
 exact ⟨rfl, HX.out _⟩
set_option maxHeartbeats 1000000 in
theorem rem0sn (f l : Option Nat) (p : Nat) (x : Se) (A B : Nat → Option Nat) (hr : w.heap[rb]? = some (.cells #[pv f, pv l] 246 (0, 0))) (hq : w.heap[q]? = some (.cells (chc x A B) 227 (0, 0))) (eA : A 0 = some p) (eB : B 0 = none) (hp : isCh w p) : Calls Tryz.prog 143 #[PT rb, .int .i64 0, PT q] w fun e w' => e = .returned (.tuple #[]) ∧ RmE w w' 0 rb q f l (some p) (none) := by
 have HX : Hid (∀ n, RmE w (rm2 (rm1 (w.drewN n) 0 rb (some p) (none)) 0 rb (some p) (none)) 0 rb q f l (some p) (none)) := hid (fun n => rm_made (by omega) ((Touch.refl _ _).drewN n) hr (fun z e => by cases e; exact hp) (fun z e => (by cases e)) (fun z e e2 => (by cases e2)))
 have c3 := cell_at (j := 3) (v := .pointer (some ⟨p, 0, none⟩)) hq (by have := chc_a (x := x) (a := A) (b := B) (k := 0) (by omega); rw [eA] at this; exact this)
 have c6 := cell_at (j := 6) (v := .pointer none) hq (by have := chc_b (x := x) (a := A) (b := B) (k := 0) (by omega); rw [eB] at this; exact this)
 have fr : ∀ j, w.frozen? ⟨rb, j, none⟩ = false := froz_at hr
 have r0 := cell_at (j := 0) (v := pv f) hr rfl
 have r1 := cell_at (j := 1) (v := pv l) hr rfl
 have fp2 : ∀ j, w.frozen? ⟨p, j, none⟩ = false := by obtain ⟨x, a, b, h⟩ := hp; exact froz_at h
 obtain ⟨vp, cp⟩ : ∃ v, w.cell? ⟨p, 6, none⟩ = some v := by obtain ⟨x, a, b, h⟩ := hp; exact ⟨_, cell_at h rfl⟩
 clear hp hr hq eA eB
 unfold rm2 rm1 pv at HX
 simp only [Option.map_none, Option.map_some] at HX
 unfold PT at *
 go_enter Tryz.func143, Tryz.ntmps143
 go_upto_region 0 with fail
 go_quiet (fail)
 go_wp2
 go_end0
 exact ⟨rfl, HX.out _⟩
set_option maxHeartbeats 1000000 in
theorem rem0ss (f l : Option Nat) (p : Nat) (r : Nat) (x : Se) (A B : Nat → Option Nat) (hr : w.heap[rb]? = some (.cells #[pv f, pv l] 246 (0, 0))) (hq : w.heap[q]? = some (.cells (chc x A B) 227 (0, 0))) (eA : A 0 = some p) (eB : B 0 = some r) (hp : isCh w p) (hrr : isCh w r) (hpr : p ≠ r) : Calls Tryz.prog 143 #[PT rb, .int .i64 0, PT q] w fun e w' => e = .returned (.tuple #[]) ∧ RmE w w' 0 rb q f l (some p) (some r) := by
 have HX : Hid (∀ n, RmE w (rm2 (rm1 (w.drewN n) 0 rb (some p) (some r)) 0 rb (some p) (some r)) 0 rb q f l (some p) (some r)) := hid (fun n => rm_made (by omega) ((Touch.refl _ _).drewN n) hr (fun z e => by cases e; exact hp) (fun z e => by cases e; exact hrr) (fun z e e2 => by cases e; cases e2; exact hpr rfl))
 have c3 := cell_at (j := 3) (v := .pointer (some ⟨p, 0, none⟩)) hq (by have := chc_a (x := x) (a := A) (b := B) (k := 0) (by omega); rw [eA] at this; exact this)
 have c6 := cell_at (j := 6) (v := .pointer (some ⟨r, 0, none⟩)) hq (by have := chc_b (x := x) (a := A) (b := B) (k := 0) (by omega); rw [eB] at this; exact this)
 have fr : ∀ j, w.frozen? ⟨rb, j, none⟩ = false := froz_at hr
 have r0 := cell_at (j := 0) (v := pv f) hr rfl
 have r1 := cell_at (j := 1) (v := pv l) hr rfl
 have fp2 : ∀ j, w.frozen? ⟨p, j, none⟩ = false := by obtain ⟨x, a, b, h⟩ := hp; exact froz_at h
 obtain ⟨vp, cp⟩ : ∃ v, w.cell? ⟨p, 6, none⟩ = some v := by obtain ⟨x, a, b, h⟩ := hp; exact ⟨_, cell_at h rfl⟩
 have fr2 : ∀ j, w.frozen? ⟨r, j, none⟩ = false := by obtain ⟨x, a, b, h⟩ := hrr; exact froz_at h
 obtain ⟨vr, cr⟩ : ∃ v, w.cell? ⟨r, 3, none⟩ = some v := by obtain ⟨x, a, b, h⟩ := hrr; exact ⟨_, cell_at h rfl⟩
 clear hp hrr hr hq eA eB
 unfold rm2 rm1 pv at HX
 simp only [Option.map_none, Option.map_some] at HX
 unfold PT at *
 go_enter Tryz.func143, Tryz.ntmps143
 go_upto_region 0 with fail
 go_quiet (fail)
 go_wp2
 go_end0
 exact ⟨rfl, HX.out _⟩
set_option maxHeartbeats 1000000 in
theorem rem1nn (f l : Option Nat) (x : Se) (A B : Nat → Option Nat) (hr : w.heap[rb]? = some (.cells #[pv f, pv l] 246 (0, 0))) (hq : w.heap[q]? = some (.cells (chc x A B) 227 (0, 0))) (eA : A 1 = none) (eB : B 1 = none) : Calls Tryz.prog 143 #[PT rb, .int .i64 1, PT q] w fun e w' => e = .returned (.tuple #[]) ∧ RmE w w' 1 rb q f l (none) (none) := by
 have HX : Hid (∀ n, RmE w (rm2 (rm1 (w.drewN n) 1 rb (none) (none)) 1 rb (none) (none)) 1 rb q f l (none) (none)) := hid (fun n => rm_made (by omega) ((Touch.refl _ _).drewN n) hr (fun z e => (by cases e)) (fun z e => (by cases e)) (fun z e e2 => (by cases e)))
 have c3 := cell_at (j := 4) (v := .pointer none) hq (by have := chc_a (x := x) (a := A) (b := B) (k := 1) (by omega); rw [eA] at this; exact this)
 have c6 := cell_at (j := 7) (v := .pointer none) hq (by have := chc_b (x := x) (a := A) (b := B) (k := 1) (by omega); rw [eB] at this; exact this)
 have fr : ∀ j, w.frozen? ⟨rb, j, none⟩ = false := froz_at hr
 have r0 := cell_at (j := 0) (v := pv f) hr rfl
 have r1 := cell_at (j := 1) (v := pv l) hr rfl
 clear hr hq eA eB
 unfold rm2 rm1 pv at HX
 simp only [Option.map_none, Option.map_some] at HX
 unfold PT at *
 go_enter Tryz.func143, Tryz.ntmps143
 go_upto_region 0 with fail
 go_quiet (fail)
 go_wp2
 go_end0
 exact ⟨rfl, HX.out _⟩
set_option maxHeartbeats 1000000 in
theorem rem1ns (f l : Option Nat) (r : Nat) (x : Se) (A B : Nat → Option Nat) (hr : w.heap[rb]? = some (.cells #[pv f, pv l] 246 (0, 0))) (hq : w.heap[q]? = some (.cells (chc x A B) 227 (0, 0))) (eA : A 1 = none) (eB : B 1 = some r) (hrr : isCh w r) : Calls Tryz.prog 143 #[PT rb, .int .i64 1, PT q] w fun e w' => e = .returned (.tuple #[]) ∧ RmE w w' 1 rb q f l (none) (some r) := by
 have HX : Hid (∀ n, RmE w (rm2 (rm1 (w.drewN n) 1 rb (none) (some r)) 1 rb (none) (some r)) 1 rb q f l (none) (some r)) := hid (fun n => rm_made (by omega) ((Touch.refl _ _).drewN n) hr (fun z e => (by cases e)) (fun z e => by cases e; exact hrr) (fun z e e2 => (by cases e)))
 have c3 := cell_at (j := 4) (v := .pointer none) hq (by have := chc_a (x := x) (a := A) (b := B) (k := 1) (by omega); rw [eA] at this; exact this)
 have c6 := cell_at (j := 7) (v := .pointer (some ⟨r, 0, none⟩)) hq (by have := chc_b (x := x) (a := A) (b := B) (k := 1) (by omega); rw [eB] at this; exact this)
 have fr : ∀ j, w.frozen? ⟨rb, j, none⟩ = false := froz_at hr
 have r0 := cell_at (j := 0) (v := pv f) hr rfl
 have r1 := cell_at (j := 1) (v := pv l) hr rfl
 have fr2 : ∀ j, w.frozen? ⟨r, j, none⟩ = false := by obtain ⟨x, a, b, h⟩ := hrr; exact froz_at h
 obtain ⟨vr, cr⟩ : ∃ v, w.cell? ⟨r, 4, none⟩ = some v := by obtain ⟨x, a, b, h⟩ := hrr; exact ⟨_, cell_at h rfl⟩
 clear hrr hr hq eA eB
 unfold rm2 rm1 pv at HX
 simp only [Option.map_none, Option.map_some] at HX
 unfold PT at *
 go_enter Tryz.func143, Tryz.ntmps143
 go_upto_region 0 with fail
 go_quiet (fail)
 go_wp2
 go_end0
 exact ⟨rfl, HX.out _⟩
set_option maxHeartbeats 1000000 in
theorem rem1sn (f l : Option Nat) (p : Nat) (x : Se) (A B : Nat → Option Nat) (hr : w.heap[rb]? = some (.cells #[pv f, pv l] 246 (0, 0))) (hq : w.heap[q]? = some (.cells (chc x A B) 227 (0, 0))) (eA : A 1 = some p) (eB : B 1 = none) (hp : isCh w p) : Calls Tryz.prog 143 #[PT rb, .int .i64 1, PT q] w fun e w' => e = .returned (.tuple #[]) ∧ RmE w w' 1 rb q f l (some p) (none) := by
 have HX : Hid (∀ n, RmE w (rm2 (rm1 (w.drewN n) 1 rb (some p) (none)) 1 rb (some p) (none)) 1 rb q f l (some p) (none)) := hid (fun n => rm_made (by omega) ((Touch.refl _ _).drewN n) hr (fun z e => by cases e; exact hp) (fun z e => (by cases e)) (fun z e e2 => (by cases e2)))
 have c3 := cell_at (j := 4) (v := .pointer (some ⟨p, 0, none⟩)) hq (by have := chc_a (x := x) (a := A) (b := B) (k := 1) (by omega); rw [eA] at this; exact this)
 have c6 := cell_at (j := 7) (v := .pointer none) hq (by have := chc_b (x := x) (a := A) (b := B) (k := 1) (by omega); rw [eB] at this; exact this)
 have fr : ∀ j, w.frozen? ⟨rb, j, none⟩ = false := froz_at hr
 have r0 := cell_at (j := 0) (v := pv f) hr rfl
 have r1 := cell_at (j := 1) (v := pv l) hr rfl
 have fp2 : ∀ j, w.frozen? ⟨p, j, none⟩ = false := by obtain ⟨x, a, b, h⟩ := hp; exact froz_at h
 obtain ⟨vp, cp⟩ : ∃ v, w.cell? ⟨p, 7, none⟩ = some v := by obtain ⟨x, a, b, h⟩ := hp; exact ⟨_, cell_at h rfl⟩
 clear hp hr hq eA eB
 unfold rm2 rm1 pv at HX
 simp only [Option.map_none, Option.map_some] at HX
 unfold PT at *
 go_enter Tryz.func143, Tryz.ntmps143
 go_upto_region 0 with fail
 go_quiet (fail)
 go_wp2
 go_end0
 exact ⟨rfl, HX.out _⟩
set_option maxHeartbeats 1000000 in
theorem rem1ss (f l : Option Nat) (p : Nat) (r : Nat) (x : Se) (A B : Nat → Option Nat) (hr : w.heap[rb]? = some (.cells #[pv f, pv l] 246 (0, 0))) (hq : w.heap[q]? = some (.cells (chc x A B) 227 (0, 0))) (eA : A 1 = some p) (eB : B 1 = some r) (hp : isCh w p) (hrr : isCh w r) (hpr : p ≠ r) : Calls Tryz.prog 143 #[PT rb, .int .i64 1, PT q] w fun e w' => e = .returned (.tuple #[]) ∧ RmE w w' 1 rb q f l (some p) (some r) := by
 have HX : Hid (∀ n, RmE w (rm2 (rm1 (w.drewN n) 1 rb (some p) (some r)) 1 rb (some p) (some r)) 1 rb q f l (some p) (some r)) := hid (fun n => rm_made (by omega) ((Touch.refl _ _).drewN n) hr (fun z e => by cases e; exact hp) (fun z e => by cases e; exact hrr) (fun z e e2 => by cases e; cases e2; exact hpr rfl))
 have c3 := cell_at (j := 4) (v := .pointer (some ⟨p, 0, none⟩)) hq (by have := chc_a (x := x) (a := A) (b := B) (k := 1) (by omega); rw [eA] at this; exact this)
 have c6 := cell_at (j := 7) (v := .pointer (some ⟨r, 0, none⟩)) hq (by have := chc_b (x := x) (a := A) (b := B) (k := 1) (by omega); rw [eB] at this; exact this)
 have fr : ∀ j, w.frozen? ⟨rb, j, none⟩ = false := froz_at hr
 have r0 := cell_at (j := 0) (v := pv f) hr rfl
 have r1 := cell_at (j := 1) (v := pv l) hr rfl
 have fp2 : ∀ j, w.frozen? ⟨p, j, none⟩ = false := by obtain ⟨x, a, b, h⟩ := hp; exact froz_at h
 obtain ⟨vp, cp⟩ : ∃ v, w.cell? ⟨p, 7, none⟩ = some v := by obtain ⟨x, a, b, h⟩ := hp; exact ⟨_, cell_at h rfl⟩
 have fr2 : ∀ j, w.frozen? ⟨r, j, none⟩ = false := by obtain ⟨x, a, b, h⟩ := hrr; exact froz_at h
 obtain ⟨vr, cr⟩ : ∃ v, w.cell? ⟨r, 4, none⟩ = some v := by obtain ⟨x, a, b, h⟩ := hrr; exact ⟨_, cell_at h rfl⟩
 clear hp hrr hr hq eA eB
 unfold rm2 rm1 pv at HX
 simp only [Option.map_none, Option.map_some] at HX
 unfold PT at *
 go_enter Tryz.func143, Tryz.ntmps143
 go_upto_region 0 with fail
 go_quiet (fail)
 go_wp2
 go_end0
 exact ⟨rfl, HX.out _⟩
set_option maxHeartbeats 1000000 in
theorem rem2nn (f l : Option Nat) (x : Se) (A B : Nat → Option Nat) (hr : w.heap[rb]? = some (.cells #[pv f, pv l] 246 (0, 0))) (hq : w.heap[q]? = some (.cells (chc x A B) 227 (0, 0))) (eA : A 2 = none) (eB : B 2 = none) : Calls Tryz.prog 143 #[PT rb, .int .i64 2, PT q] w fun e w' => e = .returned (.tuple #[]) ∧ RmE w w' 2 rb q f l (none) (none) := by
 have HX : Hid (∀ n, RmE w (rm2 (rm1 (w.drewN n) 2 rb (none) (none)) 2 rb (none) (none)) 2 rb q f l (none) (none)) := hid (fun n => rm_made (by omega) ((Touch.refl _ _).drewN n) hr (fun z e => (by cases e)) (fun z e => (by cases e)) (fun z e e2 => (by cases e)))
 have c3 := cell_at (j := 5) (v := .pointer none) hq (by have := chc_a (x := x) (a := A) (b := B) (k := 2) (by omega); rw [eA] at this; exact this)
 have c6 := cell_at (j := 8) (v := .pointer none) hq (by have := chc_b (x := x) (a := A) (b := B) (k := 2) (by omega); rw [eB] at this; exact this)
 have fr : ∀ j, w.frozen? ⟨rb, j, none⟩ = false := froz_at hr
 have r0 := cell_at (j := 0) (v := pv f) hr rfl
 have r1 := cell_at (j := 1) (v := pv l) hr rfl
 clear hr hq eA eB
 unfold rm2 rm1 pv at HX
 simp only [Option.map_none, Option.map_some] at HX
 unfold PT at *
 go_enter Tryz.func143, Tryz.ntmps143
 go_upto_region 0 with fail
 go_quiet (fail)
 go_wp2
 go_end0
 exact ⟨rfl, HX.out _⟩
set_option maxHeartbeats 1000000 in
theorem rem2ns (f l : Option Nat) (r : Nat) (x : Se) (A B : Nat → Option Nat) (hr : w.heap[rb]? = some (.cells #[pv f, pv l] 246 (0, 0))) (hq : w.heap[q]? = some (.cells (chc x A B) 227 (0, 0))) (eA : A 2 = none) (eB : B 2 = some r) (hrr : isCh w r) : Calls Tryz.prog 143 #[PT rb, .int .i64 2, PT q] w fun e w' => e = .returned (.tuple #[]) ∧ RmE w w' 2 rb q f l (none) (some r) := by
 have HX : Hid (∀ n, RmE w (rm2 (rm1 (w.drewN n) 2 rb (none) (some r)) 2 rb (none) (some r)) 2 rb q f l (none) (some r)) := hid (fun n => rm_made (by omega) ((Touch.refl _ _).drewN n) hr (fun z e => (by cases e)) (fun z e => by cases e; exact hrr) (fun z e e2 => (by cases e)))
 have c3 := cell_at (j := 5) (v := .pointer none) hq (by have := chc_a (x := x) (a := A) (b := B) (k := 2) (by omega); rw [eA] at this; exact this)
 have c6 := cell_at (j := 8) (v := .pointer (some ⟨r, 0, none⟩)) hq (by have := chc_b (x := x) (a := A) (b := B) (k := 2) (by omega); rw [eB] at this; exact this)
 have fr : ∀ j, w.frozen? ⟨rb, j, none⟩ = false := froz_at hr
 have r0 := cell_at (j := 0) (v := pv f) hr rfl
 have r1 := cell_at (j := 1) (v := pv l) hr rfl
 have fr2 : ∀ j, w.frozen? ⟨r, j, none⟩ = false := by obtain ⟨x, a, b, h⟩ := hrr; exact froz_at h
 obtain ⟨vr, cr⟩ : ∃ v, w.cell? ⟨r, 5, none⟩ = some v := by obtain ⟨x, a, b, h⟩ := hrr; exact ⟨_, cell_at h rfl⟩
 clear hrr hr hq eA eB
 unfold rm2 rm1 pv at HX
 simp only [Option.map_none, Option.map_some] at HX
 unfold PT at *
 go_enter Tryz.func143, Tryz.ntmps143
 go_upto_region 0 with fail
 go_quiet (fail)
 go_wp2
 go_end0
 exact ⟨rfl, HX.out _⟩
set_option maxHeartbeats 1000000 in
theorem rem2sn (f l : Option Nat) (p : Nat) (x : Se) (A B : Nat → Option Nat) (hr : w.heap[rb]? = some (.cells #[pv f, pv l] 246 (0, 0))) (hq : w.heap[q]? = some (.cells (chc x A B) 227 (0, 0))) (eA : A 2 = some p) (eB : B 2 = none) (hp : isCh w p) : Calls Tryz.prog 143 #[PT rb, .int .i64 2, PT q] w fun e w' => e = .returned (.tuple #[]) ∧ RmE w w' 2 rb q f l (some p) (none) := by
 have HX : Hid (∀ n, RmE w (rm2 (rm1 (w.drewN n) 2 rb (some p) (none)) 2 rb (some p) (none)) 2 rb q f l (some p) (none)) := hid (fun n => rm_made (by omega) ((Touch.refl _ _).drewN n) hr (fun z e => by cases e; exact hp) (fun z e => (by cases e)) (fun z e e2 => (by cases e2)))
 have c3 := cell_at (j := 5) (v := .pointer (some ⟨p, 0, none⟩)) hq (by have := chc_a (x := x) (a := A) (b := B) (k := 2) (by omega); rw [eA] at this; exact this)
 have c6 := cell_at (j := 8) (v := .pointer none) hq (by have := chc_b (x := x) (a := A) (b := B) (k := 2) (by omega); rw [eB] at this; exact this)
 have fr : ∀ j, w.frozen? ⟨rb, j, none⟩ = false := froz_at hr
 have r0 := cell_at (j := 0) (v := pv f) hr rfl
 have r1 := cell_at (j := 1) (v := pv l) hr rfl
 have fp2 : ∀ j, w.frozen? ⟨p, j, none⟩ = false := by obtain ⟨x, a, b, h⟩ := hp; exact froz_at h
 obtain ⟨vp, cp⟩ : ∃ v, w.cell? ⟨p, 8, none⟩ = some v := by obtain ⟨x, a, b, h⟩ := hp; exact ⟨_, cell_at h rfl⟩
 clear hp hr hq eA eB
 unfold rm2 rm1 pv at HX
 simp only [Option.map_none, Option.map_some] at HX
 unfold PT at *
 go_enter Tryz.func143, Tryz.ntmps143
 go_upto_region 0 with fail
 go_quiet (fail)
 go_wp2
 go_end0
 exact ⟨rfl, HX.out _⟩
set_option maxHeartbeats 1000000 in
theorem rem2ss (f l : Option Nat) (p : Nat) (r : Nat) (x : Se) (A B : Nat → Option Nat) (hr : w.heap[rb]? = some (.cells #[pv f, pv l] 246 (0, 0))) (hq : w.heap[q]? = some (.cells (chc x A B) 227 (0, 0))) (eA : A 2 = some p) (eB : B 2 = some r) (hp : isCh w p) (hrr : isCh w r) (hpr : p ≠ r) : Calls Tryz.prog 143 #[PT rb, .int .i64 2, PT q] w fun e w' => e = .returned (.tuple #[]) ∧ RmE w w' 2 rb q f l (some p) (some r) := by
 have HX : Hid (∀ n, RmE w (rm2 (rm1 (w.drewN n) 2 rb (some p) (some r)) 2 rb (some p) (some r)) 2 rb q f l (some p) (some r)) := hid (fun n => rm_made (by omega) ((Touch.refl _ _).drewN n) hr (fun z e => by cases e; exact hp) (fun z e => by cases e; exact hrr) (fun z e e2 => by cases e; cases e2; exact hpr rfl))
 have c3 := cell_at (j := 5) (v := .pointer (some ⟨p, 0, none⟩)) hq (by have := chc_a (x := x) (a := A) (b := B) (k := 2) (by omega); rw [eA] at this; exact this)
 have c6 := cell_at (j := 8) (v := .pointer (some ⟨r, 0, none⟩)) hq (by have := chc_b (x := x) (a := A) (b := B) (k := 2) (by omega); rw [eB] at this; exact this)
 have fr : ∀ j, w.frozen? ⟨rb, j, none⟩ = false := froz_at hr
 have r0 := cell_at (j := 0) (v := pv f) hr rfl
 have r1 := cell_at (j := 1) (v := pv l) hr rfl
 have fp2 : ∀ j, w.frozen? ⟨p, j, none⟩ = false := by obtain ⟨x, a, b, h⟩ := hp; exact froz_at h
 obtain ⟨vp, cp⟩ : ∃ v, w.cell? ⟨p, 8, none⟩ = some v := by obtain ⟨x, a, b, h⟩ := hp; exact ⟨_, cell_at h rfl⟩
 have fr2 : ∀ j, w.frozen? ⟨r, j, none⟩ = false := by obtain ⟨x, a, b, h⟩ := hrr; exact froz_at h
 obtain ⟨vr, cr⟩ : ∃ v, w.cell? ⟨r, 5, none⟩ = some v := by obtain ⟨x, a, b, h⟩ := hrr; exact ⟨_, cell_at h rfl⟩
 clear hp hrr hr hq eA eB
 unfold rm2 rm1 pv at HX
 simp only [Option.map_none, Option.map_some] at HX
 unfold PT at *
 go_enter Tryz.func143, Tryz.ntmps143
 go_upto_region 0 with fail
 go_quiet (fail)
 go_wp2
 go_end0
 exact ⟨rfl, HX.out _⟩
theorem rem_ (k : Nat) (hk : k < 3) (f l : Option Nat) (x : Se) (A B : Nat → Option Nat) (hr : w.heap[rb]? = some (.cells #[pv f, pv l] 246 (0, 0))) (hq : w.heap[q]? = some (.cells (chc x A B) 227 (0, 0))) (hp : ∀ p, A k = some p → isCh w p) (hrr : ∀ p, B k = some p → isCh w p) (hpr : ∀ p, A k = some p → B k ≠ some p) : Calls Tryz.prog 143 #[PT rb, .int .i64 (k : Int), PT q] w fun e w' => e = .returned (.tuple #[]) ∧ RmE w w' k rb q f l (A k) (B k) := by
 cases eA : A k with
 | none =>
  cases eB : B k with
  | none =>
   match k, hk with
   | 0, _ => exact rem0nn w rb q f l x A B hr hq eA eB
   | 1, _ => exact rem1nn w rb q f l x A B hr hq eA eB
   | 2, _ => exact rem2nn w rb q f l x A B hr hq eA eB
  | some r =>
   match k, hk with
   | 0, _ => exact rem0ns w rb q f l r x A B hr hq eA eB (hrr r eB)
   | 1, _ => exact rem1ns w rb q f l r x A B hr hq eA eB (hrr r eB)
   | 2, _ => exact rem2ns w rb q f l r x A B hr hq eA eB (hrr r eB)
 | some p =>
  cases eB : B k with
  | none =>
   match k, hk with
   | 0, _ => exact rem0sn w rb q f l p x A B hr hq eA eB (hp p eA)
   | 1, _ => exact rem1sn w rb q f l p x A B hr hq eA eB (hp p eA)
   | 2, _ => exact rem2sn w rb q f l p x A B hr hq eA eB (hp p eA)
  | some r =>
   have hne : p ≠ r := fun e => hpr p eA (by rw [eB, e])
   match k, hk with
   | 0, _ => exact rem0ss w rb q f l p r x A B hr hq eA eB (hp p eA) (hrr r eB) hne
   | 1, _ => exact rem1ss w rb q f l p r x A B hr hq eA eB (hp p eA) (hrr r eB) hne
   | 2, _ => exact rem2ss w rb q f l p r x A B hr hq eA eB (hp p eA) (hrr r eB) hne
end
end Go.Proofs.YtkfophlhpjbmgaaGreat.Lv
/- The contracts of a row's seats, of Seats' seats and of callers; no conditions but those that each states. -/
namespace Go.Proofs.YtkfophlhpjbmgaaGreat.Lv
open Go.RowKit Go.Maps Go.ChangeMaps
def lenOf : Value → Nat
 | .slice _ n _ => n
 | _ => 0
theorem infoSeat : (Tryz.prog.info? 134).map (fun i => (i.zero, i.size, i.bytes)) = some (some (.agg #[.int .i64 0, .int .i64 0, .int .i64 0]), 3, 24) := by kernel_rfl
def SlE (e : Ending) (w w' : World) (ys : List Se) : Prop := ∃ a c, e = .returned (.slice a ys.length c) ∧ w'.ownsRow w.heap.size 134 3 (.slice a ys.length c) ys.length (ys.flatMap sc) ∧ Touch [] w w'
theorem take_snoc {X : Type} {l : List X} {i : Nat} {x : X} (h : l[i]? = some x) : l.take (i + 1) = l.take i ++ [x] := by
 rw [List.take_add_one, h]
 rfl
set_option maxHeartbeats 2000000 in
theorem rseats0 (w : World) (rb : Nat) (xs : List Nat) (ys : List Se) (hr : w.heap[rb]? = some (.cells (rowC xs) 246 (0, 0))) (hl : ys.length = xs.length) (hx : ∀ i q, xs[i]? = some q → ∃ y a b, ys[i]? = some y ∧ w.heap[q]? = some (.cells (chc y a b) 227 (0, 0)) ∧ b 0 = xs[i + 1]?) (hb : xs.length ≤ 5000000000000) :
  Calls Tryz.prog 166 #[PT rb, .int .i64 0] w fun e w' => SlE e w w' ys := by
 obtain ⟨n, hn⟩ : ∃ n, n = xs.length := ⟨_, rfl⟩
 obtain ⟨o0, ho0⟩ : ∃ o0, o0 = (xs[0]?).map (fun q => (⟨q, 0, none⟩ : Addr)) := ⟨_, rfl⟩
 have c0 := cell_at (j := 0) (v := .pointer o0) hr (by rw [ho0, ← List.head?_eq_getElem?]; rfl)
 have HO0 := hid ho0
 have HN := hid hn
 have HX := hid hx
 have HB := hid hb
 have HL := hid hl
 clear hr hx hb hl hn ho0
 unfold PT
 go_enter Tryz.func166, Tryz.ntmps166
 go_wp2
 go_loopw [5, 6] (fun s5 s6 wr => ∃ (i : Nat) (a : Option Addr) (c : Nat) (o : Option Addr), s5 = .slice a i c ∧ s6 = .pointer o ∧ Hid (i ≤ n ∧ o = (xs[i]?).map (fun q => (⟨q, 0, none⟩ : Addr)) ∧ Touch [] w wr ∧ wr.ownsRow w.heap.size 134 3 (.slice a i c) i ((ys.take i).flatMap sc))) (fun s5 _ _ => n - lenOf s5)
 case atStart => exact ⟨0, none, 0, o0, rfl, rfl, Nat.zero_le _, HO0.out, Touch.refl _ _, World.ownsRow_nil _ _ _ _⟩
 case round =>
  obtain ⟨i, a, c, o, rfl, rfl, HR⟩ := hrel
  clear c0 HO0
  cases hq : xs[i]? with
  | some q =>
   obtain ⟨y, A, B, hy, hc, hbk⟩ := HX.out i q hq
   have hlt : i < n := by rw [HN.out]; exact (List.getElem?_eq_some_iff.1 hq).1
   obtain rfl : o = some ⟨q, 0, none⟩ := by rw [HR.out.2.1, hq]; rfl
   obtain ⟨o2, ho2⟩ : ∃ o2, o2 = (xs[i + 1]?).map (fun q => (⟨q, 0, none⟩ : Addr)) := ⟨_, rfl⟩
   have HC : Hid (∀ w', Touch [] w w' → w'.heap[q]? = some (.cells (chc y A B) 227 (0, 0))) := hid (fun w' t => t.keep hc (by simp))
   have HC6 : Hid (∀ w', Touch [] w w' → w'.cell? ⟨q, 6, none⟩ = some (.pointer o2)) := hid (fun w' t => cell_at (HC.out w' t) (by have := chc_b (x := y) (a := A) (b := B) (k := 0) (by omega); rw [hbk] at this; rw [ho2]; exact this))
   have e0 := cell_at (j := 0) (v := .int .i64 y.1) (HC.out _ HR.out.2.2.1) rfl
   have e1 := cell_at (j := 1) (v := .int .i64 y.2.1) (HC.out _ HR.out.2.2.1) rfl
   have e2 := cell_at (j := 2) (v := .int .i64 y.2.2) (HC.out _ HR.out.2.2.1) rfl
   have HI := hid (And.intro hlt (And.intro hy ho2))
   have HTA : Hid (∀ ob, Touch [] w (wr.alloc ob) ∧ (wr.alloc ob).ownsRow w.heap.size 134 3 (.slice a i c) i ((ys.take i).flatMap sc)) := hid (fun ob => ⟨HR.out.2.2.1.alloc _, own_touch HR.out.2.2.2 ((Touch.refl [] _).alloc _) (fun _ _ e => by cases e)⟩)
   have HRS : Hid (Rs 134 3 (wr.alloc (.cells #[.int .i64 y.1, .int .i64 y.2.1, .int .i64 y.2.2] 134)) (.slice (some ⟨wr.heap.size, 0, none⟩) 1 1) 1 (sc y)) := hid (Rs.new wr #[.int .i64 y.1, .int .i64 y.2.1, .int .i64 y.2.2] 134 3 rfl)
   clear hq hy hc hbk hlt ho2
   go_wp2_with (at_builtin; refine wpList_append_rs rfl _ _ 126 134 rfl _ 3 24 infoSeat Tryz.underlying126 rfl (by decide) w.heap.size _ i _ rfl (HTA.out _).2 (.slice (some ⟨wr.heap.size, 0, none⟩) 1 1) 1 (sc y) rfl HRS.out (by simp [sc, Value.oneCell']) (by have := HI.out.1; have := HN.out; have := HB.out; unfold maxLen; omega) (by have := HI.out.1; have := HN.out; have := HB.out; omega) (HTA.out _).1.size ?_; intro v5 w5 o5 g5 _; have t5 := touch_grown (HTA.out _).1 g5 (HTA.out _).2 (Nat.le_refl _); have c6 := HC6.out _ t5; have T5 := hid t5; obtain ⟨a5, c5, e5⟩ := own_form o5; subst e5; have O5 := hid o5; clear o5 g5 t5 e0 e1 e2)
   go_roundw
   case rel => exact ⟨i + 1, a5, c5, o2, rfl, rfl, HI.out.1, HI.out.2.2, T5.out, by rw [take_snoc HI.out.2.1, List.flatMap_append]; simpa using O5.out⟩
   case measure => simp [lenOf]; have := HI.out.1; omega
  | none =>
   obtain rfl : o = none := by rw [HR.out.2.1, hq]; rfl
   have hge : xs.length ≤ i := List.getElem?_eq_none_iff.1 hq
   have HE : Hid (SlE (.returned (.slice a i c)) w wr ys) := hid (by
    have h1 := HR.out.1
    have h2 := HN.out
    have h3 := HL.out
    obtain ⟨e⟩ : i = ys.length := by omega
    have := HR.out.2.2.2
    rw [List.take_length] at this
    exact ⟨a, c, rfl, this, HR.out.2.2.1⟩)
   clear HR hq hge
   go_wp2
   go_ret
   exact HE.out
set_option maxHeartbeats 2000000 in
theorem rseats1 (w : World) (rb : Nat) (xs : List Nat) (ys : List Se) (hr : w.heap[rb]? = some (.cells (rowC xs) 246 (0, 0))) (hl : ys.length = xs.length) (hx : ∀ i q, xs[i]? = some q → ∃ y a b, ys[i]? = some y ∧ w.heap[q]? = some (.cells (chc y a b) 227 (0, 0)) ∧ b 1 = xs[i + 1]?) (hb : xs.length ≤ 5000000000000) :
  Calls Tryz.prog 166 #[PT rb, .int .i64 1] w fun e w' => SlE e w w' ys := by
 obtain ⟨n, hn⟩ : ∃ n, n = xs.length := ⟨_, rfl⟩
 obtain ⟨o0, ho0⟩ : ∃ o0, o0 = (xs[0]?).map (fun q => (⟨q, 0, none⟩ : Addr)) := ⟨_, rfl⟩
 have c0 := cell_at (j := 0) (v := .pointer o0) hr (by rw [ho0, ← List.head?_eq_getElem?]; rfl)
 have HO0 := hid ho0
 have HN := hid hn
 have HX := hid hx
 have HB := hid hb
 have HL := hid hl
 clear hr hx hb hl hn ho0
 unfold PT
 go_enter Tryz.func166, Tryz.ntmps166
 go_wp2
 go_loopw [5, 6] (fun s5 s6 wr => ∃ (i : Nat) (a : Option Addr) (c : Nat) (o : Option Addr), s5 = .slice a i c ∧ s6 = .pointer o ∧ Hid (i ≤ n ∧ o = (xs[i]?).map (fun q => (⟨q, 0, none⟩ : Addr)) ∧ Touch [] w wr ∧ wr.ownsRow w.heap.size 134 3 (.slice a i c) i ((ys.take i).flatMap sc))) (fun s5 _ _ => n - lenOf s5)
 case atStart => exact ⟨0, none, 0, o0, rfl, rfl, Nat.zero_le _, HO0.out, Touch.refl _ _, World.ownsRow_nil _ _ _ _⟩
 case round =>
  obtain ⟨i, a, c, o, rfl, rfl, HR⟩ := hrel
  clear c0 HO0
  cases hq : xs[i]? with
  | some q =>
   obtain ⟨y, A, B, hy, hc, hbk⟩ := HX.out i q hq
   have hlt : i < n := by rw [HN.out]; exact (List.getElem?_eq_some_iff.1 hq).1
   obtain rfl : o = some ⟨q, 0, none⟩ := by rw [HR.out.2.1, hq]; rfl
   obtain ⟨o2, ho2⟩ : ∃ o2, o2 = (xs[i + 1]?).map (fun q => (⟨q, 0, none⟩ : Addr)) := ⟨_, rfl⟩
   have HC : Hid (∀ w', Touch [] w w' → w'.heap[q]? = some (.cells (chc y A B) 227 (0, 0))) := hid (fun w' t => t.keep hc (by simp))
   have HC6 : Hid (∀ w', Touch [] w w' → w'.cell? ⟨q, 7, none⟩ = some (.pointer o2)) := hid (fun w' t => cell_at (HC.out w' t) (by have := chc_b (x := y) (a := A) (b := B) (k := 1) (by omega); rw [hbk] at this; rw [ho2]; exact this))
   have e0 := cell_at (j := 0) (v := .int .i64 y.1) (HC.out _ HR.out.2.2.1) rfl
   have e1 := cell_at (j := 1) (v := .int .i64 y.2.1) (HC.out _ HR.out.2.2.1) rfl
   have e2 := cell_at (j := 2) (v := .int .i64 y.2.2) (HC.out _ HR.out.2.2.1) rfl
   have HI := hid (And.intro hlt (And.intro hy ho2))
   have HTA : Hid (∀ ob, Touch [] w (wr.alloc ob) ∧ (wr.alloc ob).ownsRow w.heap.size 134 3 (.slice a i c) i ((ys.take i).flatMap sc)) := hid (fun ob => ⟨HR.out.2.2.1.alloc _, own_touch HR.out.2.2.2 ((Touch.refl [] _).alloc _) (fun _ _ e => by cases e)⟩)
   have HRS : Hid (Rs 134 3 (wr.alloc (.cells #[.int .i64 y.1, .int .i64 y.2.1, .int .i64 y.2.2] 134)) (.slice (some ⟨wr.heap.size, 0, none⟩) 1 1) 1 (sc y)) := hid (Rs.new wr #[.int .i64 y.1, .int .i64 y.2.1, .int .i64 y.2.2] 134 3 rfl)
   clear hq hy hc hbk hlt ho2
   go_wp2_with (at_builtin; refine wpList_append_rs rfl _ _ 126 134 rfl _ 3 24 infoSeat Tryz.underlying126 rfl (by decide) w.heap.size _ i _ rfl (HTA.out _).2 (.slice (some ⟨wr.heap.size, 0, none⟩) 1 1) 1 (sc y) rfl HRS.out (by simp [sc, Value.oneCell']) (by have := HI.out.1; have := HN.out; have := HB.out; unfold maxLen; omega) (by have := HI.out.1; have := HN.out; have := HB.out; omega) (HTA.out _).1.size ?_; intro v5 w5 o5 g5 _; have t5 := touch_grown (HTA.out _).1 g5 (HTA.out _).2 (Nat.le_refl _); have c6 := HC6.out _ t5; have T5 := hid t5; obtain ⟨a5, c5, e5⟩ := own_form o5; subst e5; have O5 := hid o5; clear o5 g5 t5 e0 e1 e2)
   go_roundw
   case rel => exact ⟨i + 1, a5, c5, o2, rfl, rfl, HI.out.1, HI.out.2.2, T5.out, by rw [take_snoc HI.out.2.1, List.flatMap_append]; simpa using O5.out⟩
   case measure => simp [lenOf]; have := HI.out.1; omega
  | none =>
   obtain rfl : o = none := by rw [HR.out.2.1, hq]; rfl
   have hge : xs.length ≤ i := List.getElem?_eq_none_iff.1 hq
   have HE : Hid (SlE (.returned (.slice a i c)) w wr ys) := hid (by
    have h1 := HR.out.1
    have h2 := HN.out
    have h3 := HL.out
    obtain ⟨e⟩ : i = ys.length := by omega
    have := HR.out.2.2.2
    rw [List.take_length] at this
    exact ⟨a, c, rfl, this, HR.out.2.2.1⟩)
   clear HR hq hge
   go_wp2
   go_ret
   exact HE.out
set_option maxHeartbeats 2000000 in
theorem rseats2 (w : World) (rb : Nat) (xs : List Nat) (ys : List Se) (hr : w.heap[rb]? = some (.cells (rowC xs) 246 (0, 0))) (hl : ys.length = xs.length) (hx : ∀ i q, xs[i]? = some q → ∃ y a b, ys[i]? = some y ∧ w.heap[q]? = some (.cells (chc y a b) 227 (0, 0)) ∧ b 2 = xs[i + 1]?) (hb : xs.length ≤ 5000000000000) :
  Calls Tryz.prog 166 #[PT rb, .int .i64 2] w fun e w' => SlE e w w' ys := by
 obtain ⟨n, hn⟩ : ∃ n, n = xs.length := ⟨_, rfl⟩
 obtain ⟨o0, ho0⟩ : ∃ o0, o0 = (xs[0]?).map (fun q => (⟨q, 0, none⟩ : Addr)) := ⟨_, rfl⟩
 have c0 := cell_at (j := 0) (v := .pointer o0) hr (by rw [ho0, ← List.head?_eq_getElem?]; rfl)
 have HO0 := hid ho0
 have HN := hid hn
 have HX := hid hx
 have HB := hid hb
 have HL := hid hl
 clear hr hx hb hl hn ho0
 unfold PT
 go_enter Tryz.func166, Tryz.ntmps166
 go_wp2
 go_loopw [5, 6] (fun s5 s6 wr => ∃ (i : Nat) (a : Option Addr) (c : Nat) (o : Option Addr), s5 = .slice a i c ∧ s6 = .pointer o ∧ Hid (i ≤ n ∧ o = (xs[i]?).map (fun q => (⟨q, 0, none⟩ : Addr)) ∧ Touch [] w wr ∧ wr.ownsRow w.heap.size 134 3 (.slice a i c) i ((ys.take i).flatMap sc))) (fun s5 _ _ => n - lenOf s5)
 case atStart => exact ⟨0, none, 0, o0, rfl, rfl, Nat.zero_le _, HO0.out, Touch.refl _ _, World.ownsRow_nil _ _ _ _⟩
 case round =>
  obtain ⟨i, a, c, o, rfl, rfl, HR⟩ := hrel
  clear c0 HO0
  cases hq : xs[i]? with
  | some q =>
   obtain ⟨y, A, B, hy, hc, hbk⟩ := HX.out i q hq
   have hlt : i < n := by rw [HN.out]; exact (List.getElem?_eq_some_iff.1 hq).1
   obtain rfl : o = some ⟨q, 0, none⟩ := by rw [HR.out.2.1, hq]; rfl
   obtain ⟨o2, ho2⟩ : ∃ o2, o2 = (xs[i + 1]?).map (fun q => (⟨q, 0, none⟩ : Addr)) := ⟨_, rfl⟩
   have HC : Hid (∀ w', Touch [] w w' → w'.heap[q]? = some (.cells (chc y A B) 227 (0, 0))) := hid (fun w' t => t.keep hc (by simp))
   have HC6 : Hid (∀ w', Touch [] w w' → w'.cell? ⟨q, 8, none⟩ = some (.pointer o2)) := hid (fun w' t => cell_at (HC.out w' t) (by have := chc_b (x := y) (a := A) (b := B) (k := 2) (by omega); rw [hbk] at this; rw [ho2]; exact this))
   have e0 := cell_at (j := 0) (v := .int .i64 y.1) (HC.out _ HR.out.2.2.1) rfl
   have e1 := cell_at (j := 1) (v := .int .i64 y.2.1) (HC.out _ HR.out.2.2.1) rfl
   have e2 := cell_at (j := 2) (v := .int .i64 y.2.2) (HC.out _ HR.out.2.2.1) rfl
   have HI := hid (And.intro hlt (And.intro hy ho2))
   have HTA : Hid (∀ ob, Touch [] w (wr.alloc ob) ∧ (wr.alloc ob).ownsRow w.heap.size 134 3 (.slice a i c) i ((ys.take i).flatMap sc)) := hid (fun ob => ⟨HR.out.2.2.1.alloc _, own_touch HR.out.2.2.2 ((Touch.refl [] _).alloc _) (fun _ _ e => by cases e)⟩)
   have HRS : Hid (Rs 134 3 (wr.alloc (.cells #[.int .i64 y.1, .int .i64 y.2.1, .int .i64 y.2.2] 134)) (.slice (some ⟨wr.heap.size, 0, none⟩) 1 1) 1 (sc y)) := hid (Rs.new wr #[.int .i64 y.1, .int .i64 y.2.1, .int .i64 y.2.2] 134 3 rfl)
   clear hq hy hc hbk hlt ho2
   go_wp2_with (at_builtin; refine wpList_append_rs rfl _ _ 126 134 rfl _ 3 24 infoSeat Tryz.underlying126 rfl (by decide) w.heap.size _ i _ rfl (HTA.out _).2 (.slice (some ⟨wr.heap.size, 0, none⟩) 1 1) 1 (sc y) rfl HRS.out (by simp [sc, Value.oneCell']) (by have := HI.out.1; have := HN.out; have := HB.out; unfold maxLen; omega) (by have := HI.out.1; have := HN.out; have := HB.out; omega) (HTA.out _).1.size ?_; intro v5 w5 o5 g5 _; have t5 := touch_grown (HTA.out _).1 g5 (HTA.out _).2 (Nat.le_refl _); have c6 := HC6.out _ t5; have T5 := hid t5; obtain ⟨a5, c5, e5⟩ := own_form o5; subst e5; have O5 := hid o5; clear o5 g5 t5 e0 e1 e2)
   go_roundw
   case rel => exact ⟨i + 1, a5, c5, o2, rfl, rfl, HI.out.1, HI.out.2.2, T5.out, by rw [take_snoc HI.out.2.1, List.flatMap_append]; simpa using O5.out⟩
   case measure => simp [lenOf]; have := HI.out.1; omega
  | none =>
   obtain rfl : o = none := by rw [HR.out.2.1, hq]; rfl
   have hge : xs.length ≤ i := List.getElem?_eq_none_iff.1 hq
   have HE : Hid (SlE (.returned (.slice a i c)) w wr ys) := hid (by
    have h1 := HR.out.1
    have h2 := HN.out
    have h3 := HL.out
    obtain ⟨e⟩ : i = ys.length := by omega
    have := HR.out.2.2.2
    rw [List.take_length] at this
    exact ⟨a, c, rfl, this, HR.out.2.2.1⟩)
   clear HR hq hge
   go_wp2
   go_ret
   exact HE.out
theorem rseats_ (w : World) (rb k : Nat) (hk : k < 3) (xs : List Nat) (ys : List Se) (hr : w.heap[rb]? = some (.cells (rowC xs) 246 (0, 0))) (hl : ys.length = xs.length) (hx : ∀ i q, xs[i]? = some q → ∃ y a b, ys[i]? = some y ∧ w.heap[q]? = some (.cells (chc y a b) 227 (0, 0)) ∧ b k = xs[i + 1]?) (hb : xs.length ≤ 5000000000000) :
  Calls Tryz.prog 166 #[PT rb, .int .i64 (k : Int)] w fun e w' => SlE e w w' ys := by
 match k, hk with
 | 0, _ => exact rseats0 w rb xs ys hr hl hx hb
 | 1, _ => exact rseats1 w rb xs ys hr hl hx hb
 | 2, _ => exact rseats2 w rb xs ys hr hl hx hb
end Go.Proofs.YtkfophlhpjbmgaaGreat.Lv
/- The contracts of Seats' seats and of callers; no conditions but those that each states. -/
namespace Go.Proofs.YtkfophlhpjbmgaaGreat.Lv
open Go.RowKit Go.Maps Go.ChangeMaps
def inK (k : Nat) (n : Int) (L : List Se) : List Se := L.filter (fun x => decide (num k x = n))
theorem zeroRow (w : World) : (zeroValue 246).run Tryz.prog w = .ok (rowV []) w := by kernel_rfl
theorem w64k {k : Nat} (h : k < 3) : W64 (k : Int) := W64.mk (by omega) (by omega)
section
variable {w : World} {s nr : Nat} {mc mr mk : Option Nat} {CH : List Chr} {G : List Int}
theorem rmap_get (CH : List Chr) {k : Nat} (hk : k < 3) (n : Int) : (rmap CH ((k : Int), n)).getD (rowV []) = rowV (rowOf k n CH) ∧ (rmap CH ((k : Int), n)).isSome = decide (rowOf k n CH ≠ []) := by
 unfold rmap
 simp only [Int.toNat_natCast]
 by_cases h : rowOf k n CH = []
 ·rw [if_neg (fun e => e.2.2 h), h]; simp
 ·rw [if_pos ⟨by omega, by omega, h⟩]; simp [h]
theorem Sm.lookR (h : Sm w s mc mr mk nr CH G) {k : Nat} (hk : k < 3) {n : Int} (hn : W64 n) : (Instr.lookup 194 (.map mr) (.agg #[.int .i64 (k : Int), .int .i64 n]) false).run Tryz.prog w = .ok (rowV (rowOf k n CH)) w := by
 have ok : KN.ok ((k : Int), n) := ⟨w64k hk, hn⟩
 rcases h.cm with ⟨_, h1, h2⟩ | ⟨b, d, h1, h2, _, _, h3⟩
 ·rw [h1, h2]
  exact look_nil KN Tryz.underlying194 (zeroRow w) ok
 ·rw [h2]
  have := h3.look (t := 194) Tryz.underlying194 (zeroRow w) ok
  rw [(rmap_get CH hk n).1] at this
  exact this
theorem Sm.cell (h : Sm w s mc mr mk nr CH G) : w.cell? ⟨s, 0, none⟩ = some (.map mc) ∧ w.cell? ⟨s, 1, none⟩ = some (.map mr) ∧ w.cell? ⟨s, 2, none⟩ = some (.map mk) ∧ ∀ j, w.frozen? ⟨s, j, none⟩ = false := ⟨cell_at h.hb rfl, cell_at h.hb rfl, cell_at h.hb rfl, froz_at h.hb⟩
theorem row_seats (CH : List Chr) (k : Nat) (n : Int) (i q : Nat) (hq : (rowOf k n CH)[i]? = some q) : ∃ p ∈ CH, p.1 = q ∧ (inK k n (CH.map Prod.snd))[i]? = some p.2 ∧ num k p.2 = n := by
 have e : inK k n (CH.map Prod.snd) = (CH.filter (fun p => decide (num k p.2 = n))).map Prod.snd := by
  unfold inK
  rw [List.filter_map]
  rfl
 unfold rowOf at hq
 rw [List.getElem?_map] at hq
 cases hp : (CH.filter (fun p => decide (num k p.2 = n)))[i]? with
 | none => rw [hp] at hq; cases hq
 | some p =>
  rw [hp] at hq
  simp only [Option.map_some, Option.some.injEq] at hq
  have hm := List.mem_filter.1 (List.mem_of_getElem? hp)
  exact ⟨p, hm.1, hq, by rw [e, List.getElem?_map, hp]; rfl, by simpa using hm.2⟩
theorem row_len (CH : List Chr) (k : Nat) (n : Int) : (inK k n (CH.map Prod.snd)).length = (rowOf k n CH).length := by
 have e : inK k n (CH.map Prod.snd) = (CH.filter (fun p => decide (num k p.2 = n))).map Prod.snd := by
  unfold inK
  rw [List.filter_map]
  rfl
 rw [e]
 unfold rowOf
 simp
theorem row_le (CH : List Chr) (k : Nat) (n : Int) : (rowOf k n CH).length ≤ CH.length := by
 unfold rowOf
 rw [List.length_map]
 exact List.length_filter_le _ _
def bxN (k : Nat) (n : Int) : Obj := .cells #[.int .i64 (k : Int), .int .i64 n] 182
set_option maxHeartbeats 2000000 in
theorem seats_ (h : Sm w s mc mr mk nr CH G) {k : Nat} (hk : k < 3) {n : Int} (hn : W64 n) (hb : CH.length ≤ 5000000000000) : Calls Tryz.prog 137 #[PT s, .agg #[.int .i64 (k : Int), .int .i64 n]] w fun e w' => SlE e w w' (inK k n (CH.map Prod.snd)) := by
 obtain ⟨V, hV⟩ : ∃ V, V = w.alloc (bxN k n) := ⟨_, rfl⟩
 have tv : Touch [] w V := by rw [hV]; exact (Touch.refl _ _).alloc _
 have hvb : V.heap[w.heap.size]? = some (.cells #[.int .i64 (k : Int), .int .i64 n] 182 (0, 0)) := by rw [hV]; exact heap_alloc_new w _
 have M1 : ∀ w', Touch [] V w' → w'.cell? ⟨s, 1, none⟩ = some (.map mr) := fun w' t => (h.keep0 (tv.trans' t)).cell.2.1
 have B0 : ∀ w', Touch [] V w' → w'.cell? ⟨w.heap.size, 0, none⟩ = some (.int .i64 (k : Int)) := fun w' t => cell_at (t.keep hvb (by simp)) rfl
 have B1 : ∀ w', Touch [] V w' → w'.cell? ⟨w.heap.size, 1, none⟩ = some (.int .i64 n) := fun w' t => cell_at (t.keep hvb (by simp)) rfl
 have L0 : ∀ w', Touch [] V w' → (Instr.lookup 194 (.map mr) (.agg #[.int .i64 (k : Int), .int .i64 n]) false).run Tryz.prog w' = .ok (.agg #[pv (rowOf k n CH).head?, pv (lastO none (rowOf k n CH))]) w' := fun w' t => (h.keep0 (tv.trans' t)).lookR hk hn
 obtain ⟨f, hf⟩ : ∃ f, pv (rowOf k n CH).head? = .pointer f := ⟨_, rfl⟩
 obtain ⟨l, hl'⟩ : ∃ l, pv (lastO none (rowOf k n CH)) = .pointer l := ⟨_, rfl⟩
 rw [hf, hl'] at L0
 have HC : Hid (∀ W, Touch [] V W → W.heap[V.heap.size]? = some (.cells #[.pointer f, .pointer l] 246 (0, 0)) → Calls Tryz.prog 166 #[PT V.heap.size, .int .i64 (k : Int)] W fun e w' => SlE e w w' (inK k n (CH.map Prod.snd))) := hid (fun W t hr => by
  have h2 := h.keep0 (tv.trans' t)
  obtain ⟨A, B, hc, hl⟩ := h2.lk
  refine (rseats_ W V.heap.size k hk (rowOf k n CH) (inK k n (CH.map Prod.snd)) (by rw [hr, rowC, hf, hl']) (row_len CH k n) (fun i q hq => ?_) (Nat.le_trans (row_le CH k n) hb)).mono ?_
  ·obtain ⟨p, hp, rfl, h3, h4⟩ := row_seats CH k n i q hq
   exact ⟨p.2, _, _, h3, hc p hp, (hl k hk n).next hq⟩
  ·rintro e w' ⟨a, c, rfl, r, t2⟩
   exact ⟨a, c, rfl, own_base r (tv.trans' t).size, (tv.trans' t).trans' t2⟩)
 have k0 : Touch [] V V.drew := (Touch.refl _ _).drew
 have HS : Hid (w.heap.size < V.heap.size) := hid (block_lt hvb)
 clear h tv hvb hn
 clear hf hl'
 unfold bxN at hV
 unfold PT at *
 go_enter Tryz.func137, Tryz.ntmps137
 go_upto_region 1 with fail
 rw [← hV]
 clear hV
 go_upto_region 3 with fail
 refine wp_region_L (S := fun w' => Touch [] V w') (st := 7) (by kernel_rfl) ?_
 refine wpL_take (i := 0) (v := (.pointer (some ⟨s, 0, none⟩))) (some 8) rfl rfl (by kernel_rfl) (by kernel_rfl) (by kernel_rfl) (by kernel_rfl) (by kernel_rfl) (by decide) (fun _ _ _ h => h) (Or.inl ⟨by rfl, fun w' hS => (by go_simp)⟩) k0 ?_
 try simp only [Go.Act.put, Zx, Zy, Zz]
 refine wpL_take (i := 1) (v := (.pointer (some ⟨s, 0, none⟩))) (some 9) rfl rfl (by kernel_rfl) (by kernel_rfl) (by kernel_rfl) (by kernel_rfl) (by kernel_rfl) (by decide) (fun _ _ _ h => h) (Or.inl ⟨by rfl, fun w' hS => (by go_simp)⟩) k0 ?_
 try simp only [Go.Act.put, Zx, Zy, Zz]
 refine wpL_take (i := 2) (v := (.pointer (some ⟨s, 1, none⟩))) (some 10) rfl rfl (by kernel_rfl) (by kernel_rfl) (by kernel_rfl) (by kernel_rfl) (by kernel_rfl) (by decide) (fun _ _ _ h => h) (Or.inl ⟨by rfl, fun w' hS => (by go_simp)⟩) k0 ?_
 try simp only [Go.Act.put, Zx, Zy, Zz]
 refine wpL_take (i := 3) (v := (.map mr)) (some 11) rfl rfl (by kernel_rfl) (by kernel_rfl) (by kernel_rfl) (by kernel_rfl) (by kernel_rfl) (by decide) (fun _ _ _ h => h) (Or.inl ⟨by rfl, fun w' hS => (by have z0 := M1 _ hS; go_simp)⟩) k0 ?_
 try simp only [Go.Act.put, Zx, Zy, Zz]
 refine wpL_take (i := 4) (v := (.agg #[.int .i64 (k : Int), .int .i64 n])) (some 12) rfl rfl (by kernel_rfl) (by kernel_rfl) (by kernel_rfl) (by kernel_rfl) (by kernel_rfl) (by decide) (fun _ _ _ h => h) (Or.inl ⟨by rfl, fun w' hS => (by have z0 := B0 _ hS; have z1 := B1 _ hS; go_simp)⟩) k0 ?_
 try simp only [Go.Act.put, Zx, Zy, Zz]
 refine wpL_take (i := 5) (v := (.agg #[.pointer f, .pointer l])) (some 13) rfl rfl (by kernel_rfl) (by kernel_rfl) (by kernel_rfl) (by kernel_rfl) (by kernel_rfl) (by decide) (fun _ _ _ h => h) (Or.inl ⟨by rfl, fun w' hS => (by have z0 := L0 _ hS; go_simp)⟩) k0 ?_
 try simp only [Go.Act.put, Zx, Zy, Zz]
 refine wpL_ready (rs := [6]) (by kernel_rfl) (by simp) (AllL.cons (o := { dst := some 5, op := Op.alloc 246, type := 0, pos := _, after := #[], guard := none }) rfl (fun K' hK => ?_) AllL.nil)
 rw [if_pos (by rfl)]
 go_simp
 refine hK.out _ _ (fun _ => ((Touch.refl _ _).alloc _).drew) ?_
 clear hK
 try simp only [Go.Act.put, Zx, Zy, Zz]
 refine wpL_ready (rs := [7]) (by kernel_rfl) (by simp) (AllL.cons (o := { dst := none, op := Op.store 246 (Operand.tmp 5) (Operand.tmp 13), type := 0, pos := _, after := #[{ on := 6, ground := Ground.data }, { on := 5, ground := Ground.data }, { on := 0, ground := Ground.phase }, { on := 1, ground := Ground.phase }, { on := 2, ground := Ground.phase }, { on := 3, ground := Ground.phase }, { on := 4, ground := Ground.phase }, { on := 5, ground := Ground.phase }, { on := 6, ground := Ground.phase }], guard := none }) rfl (fun K' hK => ?_) AllL.nil)
 rw [if_pos (by rfl)]
 go_simp
 refine hK.out _ _ (fun h => absurd h (by decide)) ?_
 clear hK
 try simp only [Go.Act.put, Zx, Zy, Zz]
 refine wpL_done (by kernel_rfl) ?_ _
 have k5 : Touch [] V (V.alloc (.cells #[.pointer f, .pointer l] 246)).drew := ((Touch.refl _ _).alloc _).drew
 have HK := hid (HC.out _ k5 (heap_alloc_new V _))
 have b0 := B0 _ k5
 clear M1 B0 B1 L0 k0 k5 HC
 generalize (V.alloc (.cells #[.pointer f, .pointer l] 246)).drew = W at *
 go_wp2_with (go_at_call 166; refine HK.out.mono ?_; rintro e w2 ⟨a2, c2, rfl, r2, t2⟩; have RR := hid (And.intro r2 t2); clear r2 t2)
 go_ret
 exact ⟨a2, c2, rfl, RR.out.1, RR.out.2⟩
end
theorem seat_cells {w : World} {B t g n c i : Nat} {ys : List Se} {y : Se} (h : w.ownsRow B t 3 (.slice (some ⟨g, 0, none⟩) n c) n (ys.flatMap sc)) (hy : ys[i]? = some y) : w.cell? ⟨g, i * 3, none⟩ = some (.int .i64 y.1) ∧ w.cell? ⟨g, i * 3 + 1, none⟩ = some (.int .i64 y.2.1) ∧ w.cell? ⟨g, i * 3 + 2, none⟩ = some (.int .i64 y.2.2) := by
 have q := fun j hj => flat_at (f := sc) (k := 3) sc_len ys i j y hy hj
 exact ⟨own_cell h (p := i * 3) (q 0 (by omega)), own_cell h (p := i * 3 + 1) (q 1 (by omega)), own_cell h (p := i * 3 + 2) (q 2 (by omega))⟩
end Go.Proofs.YtkfophlhpjbmgaaGreat.Lv
