/- Of every list of numbers: who is ready by turn is picked behind those who were ready ahead: the walk of the law ReadyTurns; the list's length is within the form's reach. -/
import Derived.Test.YthpkkfmphoopnaaJld
namespace Go.Proofs.Ythpkkfmphoopnaa.Re
open Go.RowKit Go.Maps Go.ChangeMaps
set_option linter.unusedVariables false
set_option linter.unusedSimpArgs false
def St (I : List Int) (j : Nat) : Rz := ⟨0, 0, [], I.drop j, List.replicate j 0⟩
theorem st_place (I : List Int) (j : Nat) : placeS (St I j) = (0, 0) := by
  unfold placeS chooseN St
  simp
theorem st_pick {I : List Int} {j : Nat} (hj : j < I.length) : pickV (St I j) = I[j] ∧ someB (St I j) = true ∧ pickS (St I j) = St I (j + 1) := by
  have h0 : I.drop j = I[j] :: I.drop (j + 1) := List.drop_eq_getElem_cons hj
  have hne : (St I j).ln ≠ [] := by show I.drop j ≠ []; rw [h0]; exact List.cons_ne_nil _ _
  refine ⟨?_, some_yes hne, ?_⟩
  · unfold pickV
    rw [if_neg hne, st_place]
    show (I.drop j).getD 0 0 = _
    rw [h0]
    rfl
  · unfold pickS
    rw [if_neg hne, st_place]
    have e1 : (I.drop j).eraseIdx 0 = I.drop (j + 1) := by rw [h0]; rfl
    have e2 : List.replicate j (0 : Int) ++ [((0 : Nat) : Int)] = List.replicate (j + 1) 0 := by rw [List.replicate_succ']; rfl
    simp only [St, e1, e2]
theorem st_done {I : List Int} {j : Nat} (hj : I.length ≤ j) : pickV (St I j) = 0 ∧ someB (St I j) = false ∧ pickS (St I j) = St I j := by
  have e : (St I j).ln = [] := List.drop_of_length_le hj
  obtain ⟨h1, h2, h3⟩ := some_no e
  exact ⟨h2, h1, h3⟩
theorem st_wake_no {I : List Int} {x : Int} (h : wakeE (St I 0) x ≠ 0) : wakeS (St I 0) x = St I 0 := by
  unfold wakeS
  rw [if_neg h]
theorem st_wake {I : List Int} {x : Int} (h : wakeE (St I 0) x = 0) : wakeS (St I 0) x = St (I ++ [x]) 0 := by
  unfold wakeS
  rw [if_pos h]
  rfl
theorem st_gone {I : List Int} (hn : I.Nodup) {j : Nat} (hj : j < I.length) : ¬ I[j] ∈ (St I (j + 1)).ln := by
  intro e
  have e1 : (St I (j + 1)).ln = I.drop (j + 1) := rfl
  rw [e1, List.mem_iff_getElem] at e
  obtain ⟨k, hk, e2⟩ := e
  rw [List.getElem_drop] at e2
  have := (List.getElem_inj hn).1 e2
  omega
set_option maxHeartbeats 4000000 in
theorem turns_law (w : World) (xs : List Int) (v : Value) (hv : Ra w v xs) (hw : ∀ x ∈ xs, W64 x) (hL : xs.length ≤ 17592186043904) : Calls Try.prog 5 #[v] w fun e w' => e = .returned (.bool true) ∧ Touch [] w w' := by
  have HN : Hid (Calls Try.prog 7 #[.int .i64 0, .int .u64 0, .slice none 0 0] w fun e w' => NwE e w w' (St [] 0)) := hid (new_ok w 0 0 [] _ (Ra.nil w) (by omega) (fun x hx => by cases hx) (by decide))
  have HV := hid hv
  have HW := hid hw
  obtain ⟨av, cv, rfl, _⟩ := hv.form
  obtain ⟨A, hA⟩ : ∃ A, A = xs.length := ⟨_, rfl⟩
  have HAx := hid hA
  rw [← hA] at hL HV ⊢
  have HLe := hid hL
  clear hA hL hv hw
  unfold PT at *
  go_enter Try.func5, Try.ntmps5
  go_upto_region 4 with (first
    | (go_at_call 7; refine HN.out.mono ?_; intro e w1 q1; obtain ⟨b, rfl, r1⟩ := rf_new q1; have R1 := hid r1; unfold PT; clear q1 r1)
    | (go_at_call 9; refine (awake_ _).mono ?_; rintro e w2 ⟨rfl, t2⟩; have R2 := hid (R1.out.keep0 t2); clear t2))
  obtain ⟨W3, hW3⟩ : ∃ W3, W3 = w2.alloc (.cells #[] 3) := ⟨_, rfl⟩
  have HI : Hid (Ld w W3 b (St [] 0) 0 (.slice (some ⟨w2.heap.size, 0, none⟩) 0 0) []) := hid (by
    have ht : Touch [] w w2 := R2.out.choose_spec.2.1
    refine Ld.mk (ob := .cells #[] 3) R2.out (by rw [hW3]; exact (Touch.refl _ _).alloc _) (by rw [hW3]; exact ow_new w2 ht.size) (fun q hq => by cases hq; exact Nat.le_refl _))
  go_upto_region 5 with fail
  rw [← hW3]
  clear hW3 R1 R2 HN
  go_wp2_with fail
  go_loopw [5, 27] (fun s5 s27 wr => ∃ (k : Nat) (I : List Int) (a : Option Addr) (c : Nat), s5 = .slice a I.length c ∧ s27 = .int .i64 (k : Int) ∧ k ≤ A ∧ Hid (Ld w wr b (St I 0) 0 (.slice a I.length c) I)) (fun _ i _ => A - (intOf i).toNat)
  case atStart => exact ⟨0, [], _, 0, rfl, rfl, Nat.zero_le _, HI⟩
  case round =>
    clear HI
    obtain ⟨k, I, a, c, rfl, rfl, hk, HR⟩ := hrel
    by_cases hlt : k < A
    · have zk : (k : Int) < (A : Int) := by omega
      have zA : (A : Int) < 9223372036854775807 := by have := HLe.out; omega
      have hnx : k < xs.length := by have := HAx.out; omega
      obtain ⟨g, off, e1, _, y1⟩ := (HV.out.keep0 HR.out.t).cell hnx
      subst e1
      have HWk := hid (HR.out.wake xs[k] (HW.out _ (List.getElem_mem hnx)))
      generalize xs[k] = x at *
      clear hnx
      unfold PT at HWk
      by_cases h0 : wakeE (St I 0) x = 0
      · rw [h0, st_wake h0] at HWk
        have HIL : Hid (I.length + 1 ≤ 65536) := hid (by
          unfold wakeE at h0
          split at h0
          · simp at h0
          · split at h0
            · simp at h0
            · rename_i h1
              have e : (St I 0).ln = I := rfl
              rw [e] at h1
              omega)
        clear h0
        go_wp2_with (first
          | (go_at_call 18; refine HWk.out.mono ?_; rintro e w4 ⟨rfl, r4⟩; have R4 := hid r4; clear r4)
          | (at_builtin; refine wpList_append_ow rfl _ _ rfl w.heap.size _ I rfl ((R4.out.keep0 ((Touch.refl _ _).alloc _)).ow) _ [x] rfl (ra_new _ _) (by have := HIL.out; simp; omega) (by have := R4.out.t.size; simp; omega) ?_; intro v5 w5 o5 t5 e5; obtain ⟨a5, c5, e6, _⟩ := o5.form; subst e6; have R5 := hid (R4.out.app o5 t5 e5); clear o5 t5 e5))
        go_roundw
        case rel => exact ⟨k + 1, I ++ [x], a5, c5, (by rw [List.length_append]; rfl), by go_num, by omega, R5⟩
        case measure => simp [intOf]; omega
      · have hz : (wakeE (St I 0) x == 0) = false := by simp [h0]
        rw [st_wake_no h0] at HWk
        clear h0
        generalize wakeE (St I 0) x = ek at *
        go_wp2_with (go_at_call 18; refine HWk.out.mono ?_; rintro e w4 ⟨rfl, r4⟩; have R4 := hid r4; clear r4)
        go_roundw
        case rel => exact ⟨k + 1, I, a, c, rfl, by go_num, by omega, R4⟩
        case measure => simp [intOf]; omega
    · have zk : ¬ (k : Int) < (A : Int) := by omega
      have HND : Hid (I.Nodup) := hid HR.out.rf.iv.nd
      have HWI : Hid (∀ x ∈ I, W64 x) := hid HR.out.rf.iv.l2
      have hIl : I.length ≤ 65536 := HR.out.rf.iv.l1
      obtain ⟨M, hM⟩ : ∃ M, M = I.length := ⟨_, rfl⟩
      have HM := hid hM
      rw [← hM] at hIl HR ⊢
      have HIl := hid hIl
      have zM : (M : Int) < 9223372036854775807 := by omega
      clear HV HW HAx HLe hlt hM hIl
      go_wp2_with fail
      go_loopw [42] (fun s42 wx => ∃ j : Nat, s42 = .int .i64 (j : Int) ∧ j ≤ M ∧ Hid (Ld w wx b (St I j) j (.slice a M c) I)) (fun i _ => M - (intOf i).toNat)
      case atStart => exact ⟨0, rfl, Nat.zero_le _, HR⟩
      case round =>
        clear HR
        obtain ⟨j, rfl, hj, HR⟩ := hrel
        by_cases hlt : j < M
        · have zj : (j : Int) < (M : Int) := by omega
          have hnx : j < I.length := by have := HM.out; omega
          obtain ⟨g, off, e1, _, y1⟩ := HR.out.ow.ra.cell hnx
          subst e1
          obtain ⟨p1, p2, p3⟩ := st_pick hnx
          have HP := hid (HR.out.pick (by have := HIl.out; omega))
          rw [p1, p2, p3] at HP
          have HH : Hid (∀ w4, Ld w w4 b (St I (j + 1)) (j + 1) (.slice (some ⟨g, off, none⟩) M c) I → Calls Try.prog 24 #[PT b, .int .i64 I[j]] w4 fun e w5 => e = .returned (.bool false) ∧ Touch [] w4 w5) := hid (fun w4 q => by
            have := q.rf.has I[j] (HWI.out _ (List.getElem_mem hnx))
            rw [show decide (I[j] ∈ (St I (j + 1)).ln) = false by simpa using st_gone HND.out hnx] at this
            exact this)
          clear p1 p2 p3
          generalize I[j] = x at *
          clear hnx
          unfold PT at HP HH
          go_wp2_with (first
            | (go_at_call 11; refine HP.out.mono ?_; rintro e w4 ⟨rfl, r4⟩; have R4 := hid r4; clear r4)
            | (go_at_call 24; refine (HH.out _ R4.out).mono ?_; rintro e w5 ⟨rfl, t5⟩; have R5 := hid (R4.out.keep0 t5); clear t5))
          go_roundw
          case rel => exact ⟨j + 1, by go_num, by omega, R5⟩
          case measure => simp [intOf]; omega
        · have zj : ¬ (j : Int) < (M : Int) := by omega
          have ej : j = M := by omega
          obtain ⟨p1, p2, p3⟩ := st_done (I := I) (j := j) (by have := HM.out; omega)
          have HP := hid (HR.out.pick (by have := HIl.out; omega))
          rw [p1, p2, p3] at HP
          have HT : Hid (∀ w4, Ld w w4 b (St I j) (j + 1) (.slice a M c) I → Calls Try.prog 23 #[PT b] w4 fun e w5 => e = .returned (.int .i64 (M : Int)) ∧ w5 = w4) := hid (fun w4 q => by
            have := q.rf.turns
            rw [show (St I j).tl.length = M by simp [St, ej]] at this
            exact this)
          clear p1 p2 p3 ej hlt hj
          unfold PT at HP HT
          go_wp2_with (first
            | (go_at_call 11; refine HP.out.mono ?_; rintro e w4 ⟨rfl, r4⟩; have R4 := hid r4; clear r4)
            | (go_at_call 23; refine (HT.out _ R4.out).mono ?_; rintro e w5 ⟨rfl, e5⟩; rw [e5]; clear e5 w5))
          go_ret
          exact ⟨rfl, R4.out.t⟩
end Go.Proofs.Ythpkkfmphoopnaa.Re
