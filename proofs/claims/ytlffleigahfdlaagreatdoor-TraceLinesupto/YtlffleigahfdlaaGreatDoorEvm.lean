/- The lists of a trace that is nil; no conditions but those that each states. -/
import Derived.Test.YtlffleigahfdlaaGreatDoorEvl
namespace Go.Proofs.YtlffleigahfdlaaGreatDoor.Tr
open Go.RowKit Go.Sort Go.Shelf Go.Maps Go.ChangeMaps
set_option linter.unusedVariables false
set_option linter.unusedSimpArgs false
theorem ofRun_nil (n : Int) (w : World) : Calls Tryz.prog 32 #[.pointer none, .int .i64 n] w fun r w' => r = .returned (.slice none 0 0) ∧ Touch [] w w' := by
  have hmf := makef Tryz.prog
  have HE : Hid _ := fun fn fa fb w' => where_nil fn fa fb w'
  go_enter Tryz.func32, Tryz.ntmps32
  go_wp2_with fail
  refine (HE.out _ _ _ _).mono ?_
  rintro r w1 ⟨rfl, t1⟩
  go_wp2_with fail
  go_ret
  exact ⟨rfl, ((Touch.refl [] w).alloc _).trans' t1⟩
theorem ofCl_nil (n : Int) (w : World) : Calls Tryz.prog 34 #[.pointer none, .int .i64 n] w fun r w' => r = .returned (.slice none 0 0) ∧ Touch [] w w' := by
  have hmf := makef Tryz.prog
  have HE : Hid _ := fun fn fa fb w' => where_nil fn fa fb w'
  go_enter Tryz.func34, Tryz.ntmps34
  go_wp2_with fail
  refine (HE.out _ _ _ _).mono ?_
  rintro r w1 ⟨rfl, t1⟩
  go_wp2_with fail
  go_ret
  exact ⟨rfl, ((Touch.refl [] w).alloc _).trans' t1⟩
theorem ofKey_nil (sp : Int) (nm : ByteArray) (w : World) : Calls Tryz.prog 33 #[.pointer none, .agg #[.int .u16 sp, .string nm]] w fun r w' => r = .returned (.slice none 0 0) ∧ Touch [] w w' := by
  have hmf := makef Tryz.prog
  have HE : Hid _ := fun fn fa fb w' => where_nil fn fa fb w'
  go_enter Tryz.func33, Tryz.ntmps33
  go_wp2_with fail
  refine (HE.out _ _ _ _).mono ?_
  rintro r w1 ⟨rfl, t1⟩
  go_wp2_with fail
  go_ret
  exact ⟨rfl, ((Touch.refl [] w).alloc _).trans' t1⟩
theorem betw_nil (a b : Int) (w : World) : Calls Tryz.prog 35 #[.pointer none, .int .i64 a, .int .i64 b] w fun r w' => r = .returned (.slice none 0 0) ∧ Touch [] w w' := by
  have hmf := makef Tryz.prog
  have HE : Hid _ := fun fn fa fb w' => where_nil fn fa fb w'
  go_enter Tryz.func35, Tryz.ntmps35
  go_wp2_with fail
  refine (HE.out _ _ _ _).mono ?_
  rintro r w1 ⟨rfl, t1⟩
  go_wp2_with fail
  go_ret
  exact ⟨rfl, (((Touch.refl [] w).alloc _).alloc _).trans' t1⟩
/-- which kinds are wanted -/
def wantK (ks : List Int) (i : Nat) : Bool := isK i && ks.contains (i : Int)
def KRow (w : World) (a : Option Addr) (xs : List Int) : Prop := ∀ i (h : i < xs.length), ∃ b off, a = some ⟨b, off, none⟩ ∧ w.cell? ⟨b, off + i, none⟩ = some (.int .i64 xs[i])
def WBox (w : World) (b : Nat) (ks : List Int) : Prop := ∃ cs : Array Value, w.heap[b]? = some (.cells cs 112 (0, 0)) ∧ cs.size = 12 ∧ ∀ i, i < 12 → cs[i]? = some (.bool (wantK ks i))
theorem wantK_snoc (ks : List Int) (x : Int) (i : Nat) : wantK (ks ++ [x]) i = (wantK ks i || (isK i && decide ((i : Int) = x))) := by
  unfold wantK
  cases isK i
  · rfl
  · have h1 : (ks ++ [x]).contains (i : Int) = (ks.contains (i : Int) || decide ((i : Int) = x)) := by
      rw [Bool.eq_iff_iff]
      simp
    rw [h1]; rfl
theorem wantK_nil (i : Nat) : wantK [] i = false := by unfold wantK; cases isK i <;> rfl
set_option maxRecDepth 20000 in
set_option maxHeartbeats 1000000 in
theorem ofKind_ (tv : Value) (xs : List Int) (a : Option Addr) (c : Nat) (w : World) (hx : KRow w a xs) (hl : xs.length ≤ 1000000000000000) (P : Value → World → Prop)
    (hW : ∀ w' b, Touch [] w w' → WBox w' b xs → w.heap.size ≤ b → Calls Tryz.prog 62 #[tv, .func (.func 63) #[] #[PT b]] w' fun r w'' => ∃ v, r = .returned v ∧ P v w'') :
    Calls Tryz.prog 31 #[tv, .slice a xs.length c] w fun r w' => ∃ v, r = .returned v ∧ P v w' := by
  have hmf := makef Tryz.prog
  obtain ⟨w0, hw0⟩ : ∃ w0, w0 = w.alloc (.cells #[.bool false, .bool false, .bool false, .bool false, .bool false, .bool false, .bool false, .bool false, .bool false, .bool false, .bool false, .bool false] 112) := ⟨_, rfl⟩
  have HT : Hid (Touch [] w w0) := by show Touch [] w w0; rw [hw0]; exact (Touch.refl [] w).alloc _
  have HB : Hid (WBox w0 w.heap.size (xs.take 0)) := by
    refine ⟨_, by rw [hw0]; exact heap_alloc_new w _, rfl, fun i hi => ?_⟩
    rw [List.take_zero, wantK_nil]
    have : i = 0 ∨ i = 1 ∨ i = 2 ∨ i = 3 ∨ i = 4 ∨ i = 5 ∨ i = 6 ∨ i = 7 ∨ i = 8 ∨ i = 9 ∨ i = 10 ∨ i = 11 := by omega
    rcases this with rfl | rfl | rfl | rfl | rfl | rfl | rfl | rfl | rfl | rfl | rfl | rfl <;> rfl
  have HX : Hid (KRow w a xs) := hx
  have HW : Hid _ := hW
  unfold PT at HW
  have hle : (xs.length : Int) ≤ 1000000000000000 := by omega
  clear hx hW hl
  go_enter Tryz.func31, Tryz.ntmps31
  go_wp2_with fail
  rw [← hw0]
  clear hw0
  go_loopw [10] (fun i wr => ∃ j : Nat, i = .int .i64 j ∧ j ≤ xs.length ∧ Hid (Touch [] w wr ∧ WBox wr w.heap.size (xs.take j))) (fun i _ => xs.length - (intOf i).toNat)
  case atStart => exact ⟨0, rfl, Nat.zero_le _, HT.out, HB.out⟩
  case round =>
    obtain ⟨j, rfl, hj, HG⟩ := hrel
    by_cases hlt : j < xs.length
    · have hz : (j : Int) < (xs.length : Int) := by omega
      obtain ⟨b, off, rfl, c0⟩ := HX.out j hlt
      have hq : wr.cell? ⟨b, off + j, none⟩ = some (.int .i64 xs[j]) := tcell HG.out.1 c0
      have HS : Hid (xs.take (j + 1) = xs.take j ++ [xs[j]]) := by show _ = _; simp
      obtain ⟨k, hk⟩ : ∃ k, xs[j] = k := ⟨_, rfl⟩
      rw [hk] at hq HS
      clear hk c0
      have HI : Hid _ := fun w' => isK_ k w'
      cases hb : isK k with
      | false =>
        rw [hb] at HI
        have HB2 : Hid (WBox wr w.heap.size (xs.take (j + 1))) := by
          obtain ⟨cs, h1, h2, h3⟩ := HG.out.2
          refine ⟨cs, h1, h2, fun i hi => ?_⟩
          rw [HS.out, wantK_snoc, h3 i hi]
          by_cases e : (i : Int) = k
          · rw [e, hb]; simp
          · rw [decide_eq_false e]; simp
        clear hb
        go_wp2_with fail
        refine (HI.out _).mono ?_
        rintro r w1 ⟨rfl, e1⟩
        rw [e1]
        clear e1 w1
        go_wp2_with fail
        go_roundw
        case rel => exact ⟨j + 1, by go_num, by omega, HG.out.1, HB2.out⟩
        case measure => simp [intOf]; omega
      | true =>
        rw [hb] at HI
        obtain ⟨n, rfl⟩ : ∃ n : Nat, k = n := ⟨k.toNat, by have := of_decide_eq_true hb; omega⟩
        have hn : 1 ≤ (n : Int) ∧ (n : Int) ≤ 11 := of_decide_eq_true hb
        have h12 : (n : Int) < 12 := by omega
        obtain ⟨cs, h1, h2, h3⟩ := HG.out.2
        have hcell : wr.cell? ⟨w.heap.size, n, none⟩ = some (.bool (wantK (xs.take j) n)) := cell_at h1 (h3 n (by omega))
        have hfz : wr.frozen? ⟨w.heap.size, n, none⟩ = false := froz_at h1 n
        have HB2 : Hid (WBox (wr.setCell ⟨w.heap.size, n, none⟩ (.bool true)) w.heap.size (xs.take (j + 1))) := by
          refine ⟨_, bset h1 _, by simpa using h2, fun i hi => ?_⟩
          rw [HS.out, wantK_snoc, Array.getElem?_setIfInBounds]
          by_cases e : n = i
          · subst e
            rw [if_pos rfl, if_pos (by omega), hb]; simp
          · rw [if_neg e, h3 i hi, decide_eq_false (by omega)]; simp
        have HT2 : Hid (Touch [] w (wr.setCell ⟨w.heap.size, n, none⟩ (.bool true))) := HG.out.1.setCell (Or.inr (Nat.le_refl _)) _
        clear hb h1 h2 h3 hn
        go_wp2_with fail
        refine (HI.out _).mono ?_
        rintro r w1 ⟨rfl, e1⟩
        rw [e1]
        clear e1 w1
        go_wp2_with fail
        go_roundw
        case rel => exact ⟨j + 1, by go_num, by omega, HT2.out, HB2.out⟩
        case measure => simp [intOf]; omega
    · have hz : ¬ (j : Int) < (xs.length : Int) := by omega
      have HQ : Hid (WBox wr w.heap.size xs) := by
        have h := HG.out.2
        rw [List.take_of_length_le (by omega)] at h
        exact h
      go_wp2_with fail
      refine (HW.out _ _ HG.out.1 HQ.out (Nat.le_refl _)).mono ?_
      rintro r w2 ⟨v, rfl, hv⟩
      have HV : Hid (P v w2) := hv
      clear hv
      go_wp2_with fail
      go_ret
      exact ⟨_, rfl, HV.out⟩
end Go.Proofs.YtlffleigahfdlaaGreatDoor.Tr
