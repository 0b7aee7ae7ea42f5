/- The contracts of Armed and Clone of a clock. -/
import Derived.Test.YtaioegefoiabhaaAwk
import Derived.Test.YtaioegefoiabhaaAla
namespace Go.Proofs.Ytaioegefoiabhaa
open Go.RowKit Go.Maps Go.ChangeMaps
set_option linter.unusedVariables false
theorem tms_take_snoc {S : List Slot} {k : Nat} (h : k < S.length) : flatT (tms (S.take (k + 1))) = flatT (tms (S.take k)) ++ [.int .i64 (gt S k).item, .int .i64 (gt S k).at_] := by
  obtain ⟨_, e, _, _⟩ := tms_snoc (List.drop_eq_getElem_cons h)
  rw [e, gt_eq h]
set_option maxHeartbeats 4000000 in
set_option maxRecDepth 100000 in
theorem armed15 (w : World) (c : Nat) (F : List Nat) (s : Cs) (h : Ck w c F s) : Calls Try.prog 15 #[PC c] w fun e w' => ∃ a n m, e = .returned (.slice a n m) ∧ RR 45 w' w.heap.size (.slice a n m) s.T ∧ Touch [] w w' := by
  obtain ⟨i45, hi, hz0, hz1, hz2⟩ := info_parts info45
  obtain ⟨q, G, p, S, rfl, k⟩ := h
  have c2 := k.cc.c2
  have HA := hid (all33 w q G p S k.tq)
  have HLe := hid k.tq.len
  have HE : Hid (∀ w' a n m, n = S.length → w'.ownsRow w.heap.size 45 2 (.slice a n m) n (flatT (tms S)) → RR 45 w' w.heap.size (.slice a n m) s.T) := fun w' a n m hn h => by
    unfold RR
    rw [k.eq, tms_len, ← hn]
    exact h
  clear k
  obtain ⟨N, hN⟩ : ∃ N, N = S.length := ⟨_, rfl⟩
  have HN := hid hN
  rw [← hN] at HA HLe HE
  clear hN
  unfold PT at HA
  unfold PC
  go_enter Try.func15, Try.ntmps15
  have zl : (N : Int) ≤ 65536 := by have := HLe.out; omega
  go_wp2_with (first
    | (go_at_call 22; refine HA.out.mono ?_; rintro e w1 ⟨v1, rfl, o1, t1⟩; obtain ⟨a1, m1, rfl⟩ := own_form o1; have O1 := hid o1; have T1 := hid t1; have hb1 := T1.out.size; clear o1 t1)
    | (at_make; refine wpList_make_own _ rfl _ _ 34 rfl w.heap.size 45 i45 (.agg #[.int .i64 0, .int .i64 0]) 2 Try.underlying34 hi hz0 hz1 .i64 .i64 _ N rfl rfl rfl (by rw [hz2]; have := HLe.out; omega) (by have := HLe.out; unfold maxLen; omega) hb1 ?_; intro w3 o3 g3))
  clear HA
  have O3 := hid o3
  have T3 : Hid (Touch [] w1 w3) := Touch.grown (Touch.refl _ _) g3 (fun k hk => by cases hk)
  clear o3 g3
  go_loopw [4, 19] (fun s4 i wr => ∃ a4 k c4, s4 = .slice a4 k c4 ∧ i = .int .i64 k ∧ k ≤ N ∧ Hid (wr.ownsRow w.heap.size 45 2 (.slice a4 k c4) k (flatT (tms (S.take k))) ∧ wr.ownsRow w.heap.size 62 2 (.slice a1 N m1) N (flat2 S) ∧ Touch [] w wr)) (fun _ i _ => N - (intOf i).toNat)
  case atStart => exact ⟨_, 0, _, rfl, rfl, Nat.zero_le _, O3.out, own_touch O1.out T3.out (fun _ _ e => by cases e), T1.out.trans' T3.out⟩
  case round =>
    obtain ⟨a4, k, c4, rfl, rfl, hk, HR⟩ := hrel
    by_cases hlt : k < N
    · have zk : (k : Int) < (N : Int) := by omega
      obtain ⟨g, c', hv⟩ : ∃ g c', Value.slice a1 N m1 = .slice (some ⟨g, 0, none⟩) N c' := by
        obtain ⟨g, c', h, _⟩ := HR.out.2.1.form (by omega)
        exact ⟨g, c', h⟩
      injection hv with hv1 hv2 hv3
      subst hv1 hv3
      have hkS : k < S.length := by have := HN.out; omega
      obtain ⟨x0, x1⟩ := flat2_at S k hkS
      have a0 := own_cell HR.out.2.1 x0
      have a1 := own_cell HR.out.2.1 x1
      have hbr := HR.out.2.2.size
      have HX := hid (tms_take_snoc hkS)
      clear x0 x1 O1 O3 T1 T3 hkS
      generalize gt S k = x at *
      go_wp2_with (at_builtin; refine wpList_append_lies _ rfl _ _ 34 rfl w.heap.size 45 i45 (.agg #[.int .i64 0, .int .i64 0]) 2 16 Try.underlying34 hi hz0 hz1 hz2 rfl (by decide) (.slice a4 k c4) k (flatT (tms (S.take k))) rfl ((HR.out.1.alloc _).alloc _) ⟨wr.heap.size + 1, 0, none⟩ 1 1 [.int .i64 x.item, .int .i64 x.at_] rfl rfl (cell_two_new' _ _ _ _ _) (by simp [Value.oneCell']) (by decide) (by have := HLe.out; unfold maxLen; omega) (by have := HLe.out; omega) (by simp; omega) _ rfl ?_; intro g1 c1 w5 hown5 hgrow hat hlt5)
      have T5 : Touch (Value.slice a4 k c4).ownBlock.toList wr w5 := (((Touch.refl _ _).alloc _).alloc _).grown hgrow (fun j hj => Or.inl (by simp [hj]))
      go_roundw
      case rel =>
        refine ⟨_, k + 1, c1, rfl, by go_num, by omega, by rw [HX.out]; exact hown5, own_touch HR.out.2.1 T5 (fun b hb e => ?_), HR.out.2.2.trans T5 (fun j hj => Or.inr (HR.out.1.lt j (by simpa using hj)).1)⟩
        exact row_row HR.out.2.1 HR.out.1 (by decide) b hb (by simpa using e)
      case measure => simp [intOf]; omega
    · have e : k = N := by omega
      subst e
      go_wp2
      go_ret
      refine ⟨_, _, _, rfl, HE.out _ _ _ _ rfl ?_, HR.out.2.2⟩
      have := HR.out.1
      rw [List.take_of_length_le (by have := HN.out; omega)] at this
      exact this
end Go.Proofs.Ytaioegefoiabhaa
