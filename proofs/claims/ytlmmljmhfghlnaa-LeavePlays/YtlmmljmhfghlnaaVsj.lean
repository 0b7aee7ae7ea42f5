/- The contract of Sit; no conditions but those that it states. -/
import Derived.Test.YtlmmljmhfghlnaaVsi
namespace Go.Proofs.Ytlmmljmhfghlnaa
open Go.RowKit Go.Maps Go.ChangeMaps
set_option linter.unusedVariables false
set_option linter.unusedSimpArgs false
section
variable {w : World} {s N : Nat} {F : List Nat} {L : List Se} {G : List Int}
set_option maxHeartbeats 4000000 in
set_option maxRecDepth 100000 in
theorem sit_ (h : Sq w s F L G N) {x : Se} (hx : Wf x) (hN : N ≤ 4400000000000) : Calls Try.prog 22 #[PT s, sv x] w fun e w' => e = .returned (.int .i64 (sitE L G x)) ∧ SqE w w' s F (sitL L G x) G (N + 1) := by
  obtain ⟨V, hV⟩ : ∃ V, V = w.alloc (.cells #[.int .i64 x.1, .int .i64 x.2.1, .int .i64 x.2.2] 33) := ⟨_, rfl⟩
  have tv : Touch [] w V := by rw [hV]; exact (Touch.refl _ _).alloc _
  have hvb : V.heap[w.heap.size]? = some (.cells #[.int .i64 x.1, .int .i64 x.2.1, .int .i64 x.2.2] 33 (0, 0)) := by rw [hV]; exact heap_alloc_new w _
  have h1 := h.keep0 tv
  have HB : Hid (∀ w', Touch [] V w' → w'.cell? ⟨w.heap.size, 0, none⟩ = some (.int .i64 x.1) ∧ w'.cell? ⟨w.heap.size, 1, none⟩ = some (.int .i64 x.2.1) ∧ w'.cell? ⟨w.heap.size, 2, none⟩ = some (.int .i64 x.2.2)) := hid (fun w' t => ⟨cell_at (t.keep hvb (by simp)) rfl, cell_at (t.keep hvb (by simp)) rfl, cell_at (t.keep hvb (by simp)) rfl⟩)
  obtain ⟨b0, b1, b2⟩ := HB.out V (Touch.refl _ _)
  have HSame : Hid (∀ w', Touch [] V w' → SqE w w' s F L G (N + 1)) := hid (fun w' t => SqE.same h (Nat.le_succ _) (tv.trans' t))
  have HC := hid (cancQ h1 hx.2.2)
  have HW : Hid (∀ w', Touch [] V w' → Calls Try.prog 8 #[PT s, .int .i64 x.1] w' fun e w2 => e = .returned (.tuple #[sv ((whr L x.1).getD zs), .bool (whr L x.1).isSome]) ∧ Touch [] w' w2) := hid (fun w' t => whereQ (h1.keep0 t) hx.1)
  have HPL : Hid (may x = true → (whr L x.1).isSome = false → ∀ w', Touch [] V w' → Calls Try.prog 35 #[PT s, sv x] w' fun e w2 => e = .returned (.tuple #[]) ∧ SqE w w2 s F (L ++ [x]) G (N + 1)) := hid (fun hm hw w' t => by
    refine (placeQ (h1.keep0 t) hx hm (whr_none.1 hw) (by omega)).mono ?_
    rintro e w2 ⟨rfl, q⟩
    exact ⟨rfl, SqE.from0 (tv.trans' t) q⟩)
  clear h h1 tv hvb
  unfold sitL
  cases hm : may x with
  | false =>
    have e0 : sitE L G x = 150 := by unfold sitE; rw [if_pos hm]
    rw [e0, if_neg (by decide)]
    unfold may at hm
    clear HC HW HPL
    unfold PT sv
    by_cases g0 : x.1 < 1
    · go_enter Try.func22, Try.ntmps22
      go_upto_region 1 with fail
      rw [← hV]
      clear hV
      go_wp2
      go_ret
      exact ⟨rfl, HSame.out _ (Touch.refl _ _)⟩
    · by_cases g1 : x.2.1 < 1
      · go_enter Try.func22, Try.ntmps22
        go_upto_region 1 with fail
        rw [← hV]
        clear hV
        go_wp2
        go_ret
        exact ⟨rfl, HSame.out _ (Touch.refl _ _)⟩
      · have g2 : x.2.2 < 0 := by
          simp only [Bool.and_eq_false_iff, decide_eq_false_iff_not] at hm
          omega
        clear hm
        go_enter Try.func22, Try.ntmps22
        go_upto_region 1 with fail
        rw [← hV]
        clear hV
        go_wp2
        go_ret
        exact ⟨rfl, HSame.out _ (Touch.refl _ _)⟩
  | true =>
    have HPL2 := hid (HPL.out hm)
    have hm2 := hm
    unfold may at hm2
    simp only [Bool.and_eq_true, decide_eq_true_eq] at hm2
    have g0 : ¬ x.1 < 1 := by omega
    have g1 : ¬ x.2.1 < 1 := by omega
    have g2 : ¬ x.2.2 < 0 := by omega
    clear HPL hm2
    by_cases hg : x.2.2 ∈ G
    · have e0 : sitE L G x = 152 := by unfold sitE; rw [if_neg (by rw [hm]; decide), if_pos hg]
      rw [e0, if_neg (by decide)]
      rw [decide_eq_true hg] at HC
      clear hm HW HPL2 e0
      unfold PT sv at *
      go_enter Try.func22, Try.ntmps22
      go_upto_region 1 with fail
      rw [← hV]
      clear hV
      go_wp2_with (go_at_call 14; refine HC.out.mono ?_; rintro e w2 ⟨rfl, t2⟩; have T2 := hid t2; clear t2)
      go_ret
      exact ⟨rfl, HSame.out _ T2.out⟩
    · rw [decide_eq_false hg] at HC
      cases hw : (whr L x.1).isSome with
      | true =>
        have e0 : sitE L G x = 151 := by unfold sitE; rw [if_neg (by rw [hm]; decide), if_neg hg, if_pos hw]
        rw [e0, if_neg (by decide)]
        rw [hw] at HW
        generalize (whr L x.1).getD zs = y at *
        clear hm HPL2 e0 hg hw
        unfold PT sv at *
        go_enter Try.func22, Try.ntmps22
        go_upto_region 1 with fail
        rw [← hV]
        clear hV
        go_wp2_with (first
          | (go_at_call 14; refine HC.out.mono ?_; rintro e w2 ⟨rfl, t2⟩; clear b0 b1 b2; obtain ⟨b0, b1, b2⟩ := HB.out _ t2; have HW2 := hid (HW.out _ t2); have T2 := hid t2; clear t2)
          | (go_at_call 8; refine HW2.out.mono ?_; rintro e w3 ⟨rfl, t3⟩; have T3 := hid (T2.out.trans' t3); clear t3))
        go_ret
        exact ⟨rfl, HSame.out _ (T3.out.alloc _)⟩
      | false =>
        have e0 : sitE L G x = 0 := by unfold sitE; rw [if_neg (by rw [hm]; decide), if_neg hg, if_neg (by rw [hw]; decide)]
        rw [e0, if_pos rfl]
        have HPL3 := hid (HPL2.out hw)
        rw [hw] at HW
        generalize (whr L x.1).getD zs = y at *
        clear hm HPL2 e0 hg hw
        unfold PT sv at *
        go_enter Try.func22, Try.ntmps22
        go_upto_region 1 with fail
        rw [← hV]
        clear hV
        go_upto_region 8 with (first
          | (go_at_call 14; refine HC.out.mono ?_; rintro e w2 ⟨rfl, t2⟩; clear b0 b1 b2; obtain ⟨b0, b1, b2⟩ := HB.out _ t2; have HW2 := hid (HW.out _ t2); have T2 := hid t2; clear t2)
          | (go_at_call 8; refine HW2.out.mono ?_; rintro e w3 ⟨rfl, t3⟩; have T3 := hid (T2.out.trans' t3); clear t3 b0 b1 b2))
        obtain ⟨V4, hV4⟩ : ∃ V4, V4 = w3.alloc (.cells #[.int .i64 y.1, .int .i64 y.2.1, .int .i64 y.2.2] 33) := ⟨_, rfl⟩
        have t4 : Touch [] V V4 := by rw [hV4]; exact T3.out.alloc _
        rw [← hV4]
        obtain ⟨b0, b1, b2⟩ := HB.out _ t4
        have HP4 := hid (HPL3.out _ t4)
        clear hV4 t4 HPL3 HW HC HW2 T2 T3 HB
        go_wp2_with (go_at_call 35; refine HP4.out.mono ?_; rintro e w5 ⟨rfl, q5⟩; have Q5 := hid q5; clear q5)
        go_ret
        exact ⟨rfl, Q5.out⟩
end
end Go.Proofs.Ytlmmljmhfghlnaa
