/- The contracts of a batch's Add and Send; no conditions but those that each states. -/
import Derived.Test.YtogojdeohohhhaaBcl
import Derived.Test.YtogojdeohohhhaaRsl
namespace Go.Proofs.Ytogojdeohohhhaa
open Go.RowKit Go.Maps Go.ChangeMaps
set_option linter.unusedVariables false
set_option linter.unusedSimpArgs false
theorem rs_new (w : World) (x : Int) : Rs 3 1 (w.alloc (.cells #[.int .i64 x] 3)) (.slice (some ⟨w.heap.size, 0, none⟩) 1 1) 1 [.int .i64 x] := by
  refine ⟨rfl, _, 1, rfl, Nat.le_refl _, fun e => (by cases e), fun _ => ⟨w.heap.size, 0, rfl, _, _, heap_alloc_new w _, fun j u hu => ?_⟩⟩
  match j, hu with
  | 0, hu => simpa using hu
section
variable {w W1 : World} {b N : Nat} {sl : Value} {d d1 n x : Int} {S : Bs}
theorem add_mid {ob : Obj} (h : Bm w b sl d S) (hb1 : W1.heap[b]? = some (.cells (pc S sl d1) 50 (0, 0))) (T1 : Touch [b] w W1) (hd1 : d1 = dueS (addM S n x)) (v5 : Value) (w5 : World)
    (o5 : w5.ownsRow 0 3 1 v5 (S.run.length + 1) (ints S.run ++ [.int .i64 x])) (g5 : (W1.alloc ob).grownBy w5 sl.ownBlock) (e5 : v5.ownBlock = sl.ownBlock ∨ v5.ownBlock = some (W1.alloc ob).heap.size) :
    w5.heap[b]? = some (.cells (pc S sl d1) 50 (0, 0)) ∧ Bm (((w5.setCell ⟨b, 2, none⟩ (.int .i64 n)).setCell ⟨b, 3, none⟩ (.int .i64 x)).setCell ⟨b, 4, none⟩ v5) b v5 d1 (addM S n x) ∧ Touch (fpB b sl) w (((w5.setCell ⟨b, 2, none⟩ (.int .i64 n)).setCell ⟨b, 3, none⟩ (.int .i64 x)).setCell ⟨b, 4, none⟩ v5) ∧ Nf w (fpB b sl) (fpB b v5) := by
  have hz : (W1.alloc ob).heap.size = W1.heap.size + 1 := by simp
  have hz1 := T1.size
  have hz2 : b < W1.heap.size := block_lt hb1
  have TA : Touch sl.ownBlock.toList (W1.alloc ob) w5 := (Touch.refl _ _).grown g5 (fun k hk => Or.inl (by simp [hk]))
  have hb5 : w5.heap[b]? = some (.cells (pc S sl d1) 50 (0, 0)) := TA.keep (((Touch.refl [] _).alloc _).keep hb1 (by simp)) (fun e => by simp at e; exact h.ne e rfl)
  have TB : Touch [b] w5 (((w5.setCell ⟨b, 2, none⟩ (.int .i64 n)).setCell ⟨b, 3, none⟩ (.int .i64 x)).setCell ⟨b, 4, none⟩ v5) := (((Touch.refl _ _).setCell (Or.inl (by simp)) _).setCell (Or.inl (by simp)) _).setCell (Or.inl (by simp)) _
  have hne : ∀ q, v5.ownBlock = some q → q ≠ b := fun q hq e => by
    rcases e5 with e5 | e5
    · rw [e5] at hq; exact h.ne hq e
    · rw [e5, hz] at hq; cases hq; omega
  refine ⟨hb5, ⟨?_, ?_, fun _ => hd1⟩, ?_, fun q hq => ?_⟩
  · have := bset (i := 4) (bset (i := 3) (bset (i := 2) hb5 (.int .i64 n)) (.int .i64 x)) v5
    simpa [pc, addM] using this
  · have := own_touch o5 TB (fun q hq e => by simp only [List.mem_singleton] at e; exact hne q hq e)
    have e1 : ints (addM S n x).run = ints S.run ++ [.int .i64 x] := by simp [ints, addM]
    have e2 : (addM S n x).run.length = S.run.length + 1 := by simp [addM]
    rw [e1, e2]
    exact this
  · have x1 : Touch (fpB b sl) w (W1.alloc ob) := (T1.alloc ob).mono (fun q hq => by simp only [List.mem_singleton] at hq; exact mem_fpB.2 (Or.inl hq))
    have x2 : Touch (fpB b sl) w w5 := x1.trans TA (fun q hq => Or.inl (mem_fpB.2 (Or.inr (by simpa using hq))))
    exact x2.trans TB (fun q hq => Or.inl (by simp only [List.mem_singleton] at hq; exact mem_fpB.2 (Or.inl hq)))
  · rcases mem_fpB.1 hq with e | e
    · exact Or.inl (mem_fpB.2 (Or.inl e))
    · rcases e5 with e5 | e5
      · rw [e5] at e; exact Or.inl (mem_fpB.2 (Or.inr e))
      · rw [e5, hz] at e; cases e; exact Or.inr (by omega)
theorem add_force {V w' : World} {F : List Nat} {v5 : Value} (hv : Iv S N) (hx : W64 x) (hN : N ≤ 6000000000000) (h0 : ¬ addE S n x ≠ 0) (hful : addF S = true) (hm : Bm V b v5 d1 (addM S n x)) (ht : Touch F w V) (hnf : Nf w F (fpB b v5)) (T : Touch [] V w') :
    Calls Try.prog 18 #[PT b] w' fun e w2 => ∃ v, e = .returned v ∧ (∃ a n c, v = .slice a n c) ∧ BqE w w2 b F (addS S n x) (N + 1) (addL S n x) v := by
  have e1 : addS S n x = forceS (addM S n x) := by unfold addS; rw [if_neg h0, if_pos hful]
  have e2 : addL S n x = S.run ++ [x] := by unfold addL; rw [if_neg h0, if_pos hful]
  rw [e1, e2]
  have hs1 := hv.n1
  have hs2 := hv.n2
  refine (force_ (hm.keep0 T) hs1 (by show S.snt < _; omega)).mono ?_
  rintro e w2 ⟨v, sl', rfl, hf, q1, q2, q3, q4⟩
  have hiv : Iv (forceS (addM S n x)) (N + 1) := by
    have := hv.add (n := n) hx
    rwa [e1] at this
  refine ⟨v, rfl, hf, ⟨fpB b sl', ⟨sl', d1, rfl, q1, hiv⟩, (ht.trans T (fun _ e => by cases e)).trans q3 (fun q hq => hnf q (by simp only [List.mem_singleton] at hq; exact mem_fpB.2 (Or.inl hq))), fun q hq => hnf q ?_⟩, q4, hf⟩
  rcases q2 with rfl | rfl
  · exact hq
  · rcases mem_fpB.1 hq with e | e
    · exact mem_fpB.2 (Or.inl e)
    · cases e
theorem add_wait {V w' : World} {F : List Nat} {v5 : Value} (hv : Iv S N) (hx : W64 x) (h0 : ¬ addE S n x ≠ 0) (hfl : addF S = false) (hm : Bm V b v5 d1 (addM S n x)) (ht : Touch F w V) (hnf : Nf w F (fpB b v5)) (T : Touch [] V w') :
    BqE w w' b F (addS S n x) (N + 1) (addL S n x) (.slice none 0 0) := by
  have e1 : addS S n x = addM S n x := by unfold addS; rw [if_neg h0, if_neg (by simp [hfl])]
  have e2 : addL S n x = [] := by unfold addL; rw [if_neg h0, if_neg (by simp [hfl])]
  rw [e1, e2]
  unfold addF at hfl
  simp only [Bool.or_eq_false_iff, decide_eq_false_iff_not] at hfl
  have := hv.c2
  exact ⟨⟨fpB b v5, ⟨v5, d1, rfl, hm.keep0 T, (hv.mid hx h0 (by omega)).mono (Nat.le_succ N)⟩, ht.trans T (fun _ e => by cases e), hnf⟩, Rd.nil _, _, _, _, rfl⟩
theorem bq_same (h : Bm w b sl d S) (hv : Iv S N) : BqE w w b (fpB b sl) S (N + 1) [] (.slice none 0 0) :=
  ⟨⟨fpB b sl, ⟨sl, d, rfl, h, hv.mono (Nat.le_succ N)⟩, Touch.refl _ _, Nf.refl _ _⟩, Rd.nil _, _, _, _, rfl⟩
set_option maxHeartbeats 4000000 in
theorem add_ (h : Bm w b sl d S) (hv : Iv S N) (hN : N ≤ 6000000000000) (hx : W64 x) : Calls Try.prog 16 #[PT b, .int .i64 n, .int .i64 x] w fun e w' => ∃ v, e = .returned (.tuple #[v, .int .i64 (addE S n x)]) ∧ BqE w w' b (fpB b sl) (addS S n x) (N + 1) (addL S n x) v := by
  have HT := hid (fun x => tell_ h x)
  have HS := hid (bq_same h hv)
  by_cases hw : wrongE S n ≠ 0
  · have e0 : addE S n x = wrongE S n := by unfold addE; rw [if_pos hw]
    have e1 : addE S n x ≠ 0 := by rw [e0]; exact hw
    unfold addS addL
    rw [if_pos e1, if_pos e1, e0]
    have hk : (wrongE S n != 0) = true := by simpa using hw
    clear e0 e1 hw h hv
    have HT2 := hid (HT.out n)
    generalize wrongE S n = k at *
    unfold PT at *
    go_enter Try.func16, Try.ntmps16
    go_wp2_with (go_at_call 25; refine (HT2.out).mono ?_; rintro e w2 ⟨rfl, e2⟩; rw [e2]; clear e2 w2)
    exact bodyPost_ret (v := .tuple #[.slice none 0 0, .int .i64 k]) (by simp [results, Try.results16, go_sem]) rfl ⟨_, rfl, HS.out⟩
  · have hw0 : wrongE S n = 0 := Decidable.not_not.1 hw
    have HT2 := hid (HT.out n)
    rw [hw0] at HT2
    by_cases h1 : x < 1
    · have e0 : addE S n x = 1 := by unfold addE; rw [if_neg hw, if_pos h1]
      unfold addS addL
      rw [e0, if_pos (by decide), if_pos (by decide)]
      clear e0 hw hw0 h hv HT
      unfold PT at *
      go_enter Try.func16, Try.ntmps16
      go_wp2_with (go_at_call 25; refine (HT2.out).mono ?_; rintro e w2 ⟨rfl, e2⟩; rw [e2]; clear e2 w2)
      exact bodyPost_ret (v := .tuple #[.slice none 0 0, .int .i64 1]) (by simp [results, Try.results16, go_sem]) rfl ⟨_, rfl, HS.out⟩
    · have c3 := cell_at (j := 3) (v := .int .i64 S.lst) h.hb rfl
      by_cases h2 : x ≤ S.lst
      · have e0 : addE S n x = 130 := by unfold addE; rw [if_neg hw, if_neg h1, if_pos h2]
        unfold addS addL
        rw [e0, if_pos (by decide), if_pos (by decide)]
        clear e0 hw hw0 h hv HT
        unfold PT at *
        go_enter Try.func16, Try.ntmps16
        go_wp2_with (go_at_call 25; refine (HT2.out).mono ?_; rintro e w2 ⟨rfl, e2⟩; rw [e2]; clear e2 w2)
        exact bodyPost_ret (v := .tuple #[.slice none 0 0, .int .i64 130]) (by simp [results, Try.results16, go_sem]) rfl ⟨_, rfl, HS.out⟩
      · have e0 : addE S n x = 0 := by unfold addE; rw [if_neg hw, if_neg h1, if_neg h2]
        have h0 : ¬ addE S n x ≠ 0 := by rw [e0]; simp
        obtain ⟨g1, g2, g3⟩ := wrong0 hw
        rw [e0]
        clear e0 hw hw0 HT HS
        obtain ⟨a, c, rfl⟩ := own_form h.row
        have c4 := cell_at (j := 4) (v := .slice a S.run.length c) h.hb rfl
        by_cases he : S.run = []
        · have HA := hid (fun w => after_ n S.win w g1 g2 hv.w1 hv.w2)
          have c1 := cell_at (j := 1) (v := .int .i64 S.win) h.hb rfl
          have c5 := cell_at (j := 5) (v := .int .i64 d) h.hb rfl
          have ff := froz_at h.hb
          have hlt := h.lt
          obtain ⟨d1, hd⟩ : ∃ d1, d1 = aft n S.win := ⟨_, rfl⟩
          have HD1 : Hid (d1 = dueS (addM S n x)) := hid (by rw [due_mid, if_pos he]; exact hd)
          have HB := hid (bset (i := 5) h.hb (.int .i64 d1))
          rw [← hd] at HA
          clear hd g1 g2 g3
          have hz : ((S.run.length : Int) == 0) = true := by simp [he]
          unfold PT at HT2 ⊢
          go_enter Try.func16, Try.ntmps16
          go_upto_region 10 with (first | (go_at_call 25; refine (HT2.out).mono ?_; rintro e w2 ⟨rfl, e2⟩; rw [e2]; clear e2 w2) | (go_at_call 26; refine (HA.out _).mono ?_; rintro e w2 ⟨⟨k2, rfl⟩, e2⟩; rw [e2]; clear e2 w2))
          obtain ⟨W1, hW1⟩ : ∃ W1, W1 = w.setCell ⟨b, 5, none⟩ (.int .i64 d1) := ⟨_, rfl⟩
          rw [← hW1]
          have T1 : Touch [b] w W1 := by rw [hW1]; exact (Touch.refl _ _).setCell (Or.inl (by simp)) _
          have hb1 : W1.heap[b]? = some (.cells (pc S (.slice a S.run.length c) d1) 50 (0, 0)) := by rw [hW1]; simpa [pc] using HB.out
          have hd1 := HD1.out
          clear hW1 HB HA HT2 c1 c3 c4 c5 ff hz he hlt HD1
          have c4 := cell_at (j := 4) (v := .slice a S.run.length c) hb1 rfl
          have HRS : Hid (Rs 3 1 (W1.alloc (.cells #[.int .i64 x] 3)) (.slice (some ⟨W1.heap.size, 0, none⟩) 1 1) 1 [.int .i64 x]) := hid (rs_new W1 x)
          have HROW : Hid ((W1.alloc (.cells #[.int .i64 x] 3)).ownsRow 0 3 1 (.slice a S.run.length c) S.run.length (ints S.run)) := hid (own_touch (own_touch h.row T1 (fun q hq e => by simp only [List.mem_singleton] at e; exact h.ne hq e)) ((Touch.refl [] _).alloc _) (fun _ _ e => by cases e))
          have HMID : Hid (∀ v5 w5, w5.ownsRow 0 3 1 v5 (S.run.length + 1) (ints S.run ++ [.int .i64 x]) → (W1.alloc (.cells #[.int .i64 x] 3)).grownBy w5 (Value.slice a S.run.length c).ownBlock → (v5.ownBlock = (Value.slice a S.run.length c).ownBlock ∨ v5.ownBlock = some (W1.alloc (.cells #[.int .i64 x] 3)).heap.size) → w5.heap[b]? = some (.cells (pc S (.slice a S.run.length c) d1) 50 (0, 0)) ∧ Bm (((w5.setCell ⟨b, 2, none⟩ (.int .i64 n)).setCell ⟨b, 3, none⟩ (.int .i64 x)).setCell ⟨b, 4, none⟩ v5) b v5 d1 (addM S n x) ∧ Touch (fpB b (.slice a S.run.length c)) w (((w5.setCell ⟨b, 2, none⟩ (.int .i64 n)).setCell ⟨b, 3, none⟩ (.int .i64 x)).setCell ⟨b, 4, none⟩ v5) ∧ Nf w (fpB b (.slice a S.run.length c)) (fpB b v5)) := hid (fun v5 w5 o g e => add_mid h hb1 T1 hd1 v5 w5 o g e)
          have HLEN := hid hv.len
          clear h hb1 T1 hd1
          go_upto_region 11 with (at_builtin; refine wpList_append_rs rfl _ _ _ 3 rfl (.int .i64 0) 1 8 info3 Try.underlying29 rfl (by decide) 0 (.slice a S.run.length c) S.run.length (ints S.run) rfl HROW.out _ 1 [.int .i64 x] rfl HRS.out (fun y hy => by simp only [List.mem_singleton] at hy; subst hy; rfl) (by have := HLEN.out; unfold maxLen; omega) (by have := HLEN.out; omega) (by simp) ?_; intro v5 w5 o5 g5 e5; obtain ⟨z1, z2⟩ := HMID.out v5 w5 o5 g5 e5; obtain ⟨a5, c5, rfl⟩ := own_form o5; have y2 := cell_at (j := 2) (v := .int .i64 S.tim) z1 rfl; have y3 := cell_at (j := 3) (v := .int .i64 S.lst) z1 rfl; have y4 := cell_at (j := 4) (v := .slice a S.run.length c) z1 rfl; have yf := froz_at z1; have yl := block_lt z1; have HZ := hid z2; clear z1 z2 o5 g5 e5)
          obtain ⟨V, hV⟩ : ∃ V, V = ((w5.setCell ⟨b, 2, none⟩ (.int .i64 n)).setCell ⟨b, 3, none⟩ (.int .i64 x)).setCell ⟨b, 4, none⟩ (.slice a5 (S.run.length + 1) c5) := ⟨_, rfl⟩
          rw [← hV] at HZ ⊢
          clear hV y2 y3 y4 yf yl HRS HROW HMID
          have v0 := cell_at (j := 0) (v := .int .i64 S.cnt) HZ.out.1.hb rfl
          have v1 := cell_at (j := 1) (v := .int .i64 S.win) HZ.out.1.hb rfl
          have v4 := cell_at (j := 4) (v := .slice a5 (S.run.length + 1) c5) HZ.out.1.hb rfl
          have HF : Hid (∀ w', Touch [] V w' → addF S = true → Calls Try.prog 18 #[PT b] w' fun e w2 => ∃ v, e = .returned v ∧ (∃ a n c, v = .slice a n c) ∧ BqE w w2 b (fpB b (.slice a S.run.length c)) (addS S n x) (N + 1) (addL S n x) v) := hid (fun w' T hf => add_force hv hx hN h0 hf HZ.out.1 HZ.out.2.1 HZ.out.2.2 T)
          have HN : Hid (∀ w', Touch [] V w' → addF S = false → BqE w w' b (fpB b (.slice a S.run.length c)) (addS S n x) (N + 1) (addL S n x) (.slice none 0 0)) := hid (fun w' T hf => add_wait hv hx h0 hf HZ.out.1 HZ.out.2.1 HZ.out.2.2 T)
          clear hv hx HZ HLEN
          unfold PT at HF
          rcases (by cases addF S <;> simp : addF S = false ∨ addF S = true) with hf | hf
          · have HN' := hid (fun w' T => HN.out w' T hf)
            unfold addF at hf
            simp only [Bool.or_eq_false_iff, decide_eq_false_iff_not] at hf
            obtain ⟨f1, f2⟩ := hf
            generalize S.run.length + 1 = m at *
            have f3 : (S.win == 0) = false := by simp [f2]
            have f4 : (m : Int) < S.cnt := by omega
            clear f1 f2 HF HN h0
            go_quiet (fail)
            go_wp2
            exact bodyPost_ret (v := .tuple #[.slice none 0 0, .int .i64 0]) (by simp [results, Try.results16, go_sem]) rfl ⟨_, rfl, HN'.out _ ((Touch.refl _ _).drewN _)⟩
          · have HF' := hid (fun w' T => HF.out w' T hf)
            unfold addF at hf
            simp only [Bool.or_eq_true, decide_eq_true_eq] at hf
            generalize S.run.length + 1 = m at *
            have f5 : S.cnt ≤ (m : Int) ∨ (S.win == 0) = true := by rcases hf with e | e; exact Or.inl e; exact Or.inr (by simp [e])
            clear hf h0 HN HF
            by_cases f1 : S.cnt ≤ (m : Int)
            · clear f5
              go_quiet (fail)
              go_wp2_with (go_at_call 18; refine (HF'.out _ ((Touch.refl _ _).drewN _)).mono ?_; rintro e w8 ⟨v8, rfl, ⟨a8, n8, c8, rfl⟩, q8⟩; have Q8 := hid q8; clear q8)
              exact bodyPost_ret (v := .tuple #[.slice a8 n8 c8, .int .i64 0]) (by simp [results, Try.results16, go_sem]) rfl ⟨_, rfl, Q8.out⟩
            · have f2 : (S.win == 0) = true := by rcases f5 with e | e; exact absurd e f1; exact e
              clear f5
              go_quiet (fail)
              go_wp2_with (go_at_call 18; refine (HF'.out _ ((Touch.refl _ _).drewN _)).mono ?_; rintro e w8 ⟨v8, rfl, ⟨a8, n8, c8, rfl⟩, q8⟩; have Q8 := hid q8; clear q8)
              exact bodyPost_ret (v := .tuple #[.slice a8 n8 c8, .int .i64 0]) (by simp [results, Try.results16, go_sem]) rfl ⟨_, rfl, Q8.out⟩
        · have hl : 0 < S.run.length := List.length_pos_iff.2 he
          have hz : ((S.run.length : Int) == 0) = false := by simp; omega
          have hd1 : d = dueS (addM S n x) := by rw [due_mid, if_neg he]; exact h.du he
          obtain ⟨d1, hd⟩ : ∃ d1, d1 = d := ⟨_, rfl⟩
          clear g1 g2 g3 hl
          unfold PT at HT2 ⊢
          go_enter Try.func16, Try.ntmps16
          go_upto_region 10 with (go_at_call 25; refine (HT2.out).mono ?_; rintro e w2 ⟨rfl, e2⟩; rw [e2]; clear e2 w2)
          obtain ⟨W1, hW1⟩ : ∃ W1, W1 = w := ⟨_, rfl⟩
          rw [← hW1] at c4 ⊢
          have T1 : Touch [b] w W1 := by rw [hW1]; exact Touch.refl _ _
          have hb1 : W1.heap[b]? = some (.cells (pc S (.slice a S.run.length c) d1) 50 (0, 0)) := by rw [hW1, hd]; exact h.hb
          rw [← hd] at hd1
          clear hW1 hd HT2 c3 hz he
          have HRS : Hid (Rs 3 1 (W1.alloc (.cells #[.int .i64 x] 3)) (.slice (some ⟨W1.heap.size, 0, none⟩) 1 1) 1 [.int .i64 x]) := hid (rs_new W1 x)
          have HROW : Hid ((W1.alloc (.cells #[.int .i64 x] 3)).ownsRow 0 3 1 (.slice a S.run.length c) S.run.length (ints S.run)) := hid (own_touch (own_touch h.row T1 (fun q hq e => by simp only [List.mem_singleton] at e; exact h.ne hq e)) ((Touch.refl [] _).alloc _) (fun _ _ e => by cases e))
          have HMID : Hid (∀ v5 w5, w5.ownsRow 0 3 1 v5 (S.run.length + 1) (ints S.run ++ [.int .i64 x]) → (W1.alloc (.cells #[.int .i64 x] 3)).grownBy w5 (Value.slice a S.run.length c).ownBlock → (v5.ownBlock = (Value.slice a S.run.length c).ownBlock ∨ v5.ownBlock = some (W1.alloc (.cells #[.int .i64 x] 3)).heap.size) → w5.heap[b]? = some (.cells (pc S (.slice a S.run.length c) d1) 50 (0, 0)) ∧ Bm (((w5.setCell ⟨b, 2, none⟩ (.int .i64 n)).setCell ⟨b, 3, none⟩ (.int .i64 x)).setCell ⟨b, 4, none⟩ v5) b v5 d1 (addM S n x) ∧ Touch (fpB b (.slice a S.run.length c)) w (((w5.setCell ⟨b, 2, none⟩ (.int .i64 n)).setCell ⟨b, 3, none⟩ (.int .i64 x)).setCell ⟨b, 4, none⟩ v5) ∧ Nf w (fpB b (.slice a S.run.length c)) (fpB b v5)) := hid (fun v5 w5 o g e => add_mid h hb1 T1 hd1 v5 w5 o g e)
          have HLEN := hid hv.len
          clear h hb1 T1 hd1
          go_upto_region 11 with (at_builtin; refine wpList_append_rs rfl _ _ _ 3 rfl (.int .i64 0) 1 8 info3 Try.underlying29 rfl (by decide) 0 (.slice a S.run.length c) S.run.length (ints S.run) rfl HROW.out _ 1 [.int .i64 x] rfl HRS.out (fun y hy => by simp only [List.mem_singleton] at hy; subst hy; rfl) (by have := HLEN.out; unfold maxLen; omega) (by have := HLEN.out; omega) (by simp) ?_; intro v5 w5 o5 g5 e5; obtain ⟨z1, z2⟩ := HMID.out v5 w5 o5 g5 e5; obtain ⟨a5, c5, rfl⟩ := own_form o5; have y2 := cell_at (j := 2) (v := .int .i64 S.tim) z1 rfl; have y3 := cell_at (j := 3) (v := .int .i64 S.lst) z1 rfl; have y4 := cell_at (j := 4) (v := .slice a S.run.length c) z1 rfl; have yf := froz_at z1; have yl := block_lt z1; have HZ := hid z2; clear z1 z2 o5 g5 e5)
          obtain ⟨V, hV⟩ : ∃ V, V = ((w5.setCell ⟨b, 2, none⟩ (.int .i64 n)).setCell ⟨b, 3, none⟩ (.int .i64 x)).setCell ⟨b, 4, none⟩ (.slice a5 (S.run.length + 1) c5) := ⟨_, rfl⟩
          rw [← hV] at HZ ⊢
          clear hV y2 y3 y4 yf yl HRS HROW HMID
          have v0 := cell_at (j := 0) (v := .int .i64 S.cnt) HZ.out.1.hb rfl
          have v1 := cell_at (j := 1) (v := .int .i64 S.win) HZ.out.1.hb rfl
          have v4 := cell_at (j := 4) (v := .slice a5 (S.run.length + 1) c5) HZ.out.1.hb rfl
          have HF : Hid (∀ w', Touch [] V w' → addF S = true → Calls Try.prog 18 #[PT b] w' fun e w2 => ∃ v, e = .returned v ∧ (∃ a n c, v = .slice a n c) ∧ BqE w w2 b (fpB b (.slice a S.run.length c)) (addS S n x) (N + 1) (addL S n x) v) := hid (fun w' T hf => add_force hv hx hN h0 hf HZ.out.1 HZ.out.2.1 HZ.out.2.2 T)
          have HN : Hid (∀ w', Touch [] V w' → addF S = false → BqE w w' b (fpB b (.slice a S.run.length c)) (addS S n x) (N + 1) (addL S n x) (.slice none 0 0)) := hid (fun w' T hf => add_wait hv hx h0 hf HZ.out.1 HZ.out.2.1 HZ.out.2.2 T)
          clear hv hx HZ HLEN
          unfold PT at HF
          rcases (by cases addF S <;> simp : addF S = false ∨ addF S = true) with hf | hf
          · have HN' := hid (fun w' T => HN.out w' T hf)
            unfold addF at hf
            simp only [Bool.or_eq_false_iff, decide_eq_false_iff_not] at hf
            obtain ⟨f1, f2⟩ := hf
            generalize S.run.length + 1 = m at *
            have f3 : (S.win == 0) = false := by simp [f2]
            have f4 : (m : Int) < S.cnt := by omega
            clear f1 f2 HF HN h0
            go_quiet (fail)
            go_wp2
            exact bodyPost_ret (v := .tuple #[.slice none 0 0, .int .i64 0]) (by simp [results, Try.results16, go_sem]) rfl ⟨_, rfl, HN'.out _ ((Touch.refl _ _).drewN _)⟩
          · have HF' := hid (fun w' T => HF.out w' T hf)
            unfold addF at hf
            simp only [Bool.or_eq_true, decide_eq_true_eq] at hf
            generalize S.run.length + 1 = m at *
            have f5 : S.cnt ≤ (m : Int) ∨ (S.win == 0) = true := by rcases hf with e | e; exact Or.inl e; exact Or.inr (by simp [e])
            clear hf h0 HN HF
            by_cases f1 : S.cnt ≤ (m : Int)
            · clear f5
              go_quiet (fail)
              go_wp2_with (go_at_call 18; refine (HF'.out _ ((Touch.refl _ _).drewN _)).mono ?_; rintro e w8 ⟨v8, rfl, ⟨a8, n8, c8, rfl⟩, q8⟩; have Q8 := hid q8; clear q8)
              exact bodyPost_ret (v := .tuple #[.slice a8 n8 c8, .int .i64 0]) (by simp [results, Try.results16, go_sem]) rfl ⟨_, rfl, Q8.out⟩
            · have f2 : (S.win == 0) = true := by rcases f5 with e | e; exact absurd e f1; exact e
              clear f5
              go_quiet (fail)
              go_wp2_with (go_at_call 18; refine (HF'.out _ ((Touch.refl _ _).drewN _)).mono ?_; rintro e w8 ⟨v8, rfl, ⟨a8, n8, c8, rfl⟩, q8⟩; have Q8 := hid q8; clear q8)
              exact bodyPost_ret (v := .tuple #[.slice a8 n8 c8, .int .i64 0]) (by simp [results, Try.results16, go_sem]) rfl ⟨_, rfl, Q8.out⟩
end
end Go.Proofs.Ytogojdeohohhhaa
