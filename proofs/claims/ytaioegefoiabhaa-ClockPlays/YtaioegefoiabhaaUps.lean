/- The contracts of container/heap's up and down at a queue by time. -/
import Derived.Test.YtaioegefoiabhaaLes
namespace Go.Proofs.Ytaioegefoiabhaa
open Go.RowKit Go.Maps Go.ChangeMaps
set_option linter.unusedVariables false
theorem mLess (q : Nat) (w : World) : Sem.run Try.prog (method 246 90 (.pointer (some ⟨q, 0, none⟩)) "Less") w = .ok (87, .pointer (some ⟨q, 0, none⟩)) w := by kernel_rfl
theorem mSwap (q : Nat) (w : World) : Sem.run Try.prog (method 246 90 (.pointer (some ⟨q, 0, none⟩)) "Swap") w = .ok (90, .pointer (some ⟨q, 0, none⟩)) w := by kernel_rfl
theorem mLen (q : Nat) (w : World) : Sem.run Try.prog (method 246 90 (.pointer (some ⟨q, 0, none⟩)) "Len") w = .ok (86, .pointer (some ⟨q, 0, none⟩)) w := by kernel_rfl
theorem mPush (q : Nat) (w : World) : Sem.run Try.prog (method 246 90 (.pointer (some ⟨q, 0, none⟩)) "Push") w = .ok (89, .pointer (some ⟨q, 0, none⟩)) w := by kernel_rfl
theorem mPop (q : Nat) (w : World) : Sem.run Try.prog (method 246 90 (.pointer (some ⟨q, 0, none⟩)) "Pop") w = .ok (88, .pointer (some ⟨q, 0, none⟩)) w := by kernel_rfl
theorem HQ.keep {F : List Nat} {w w' : World} {q : Nat} {sl : Value} {m : Option Nat} {p : Int} {s : List Slot} (h : HQ w q sl m p s) (ht : Touch F w w') (hn : ∀ k, k ∈ fq q sl m → ¬ k ∈ F) : HQ w' q sl m p s := by
  refine ⟨h.hc.keep (ht.block q (block_lt h.hc) (hn q (by simp [fq]))), own_touch h.row ht (fun b hb => hn b (by simp [fq, hb])), ?_, h.nd, h.wf, h.le⟩
  rcases h.mp with hm | ⟨b, rfl, hm⟩
  · exact Or.inl hm
  · exact Or.inr ⟨b, rfl, hm.kept (ht.block b hm.lt (hn b (by simp [fq])))⟩
theorem HQ.gw {w w' : World} {q : Nat} {sl : Value} {m : Option Nat} {p : Int} {s : List Slot} (h : HQ w q sl m p s) (hg : Gw w w') : HQ w' q sl m p s := h.keep hg.touch (fun _ _ e => by cases e)
theorem Gw.touch' {w w' : World} (hg : Gw w w') (F : List Nat) : Touch F w w' := hg.touch.mono (fun _ h => by cases h)
theorem ltB_true {x y : Slot} (h : ltB x y = true) : ltS x y := of_decide_eq_true h
theorem ltB_false {x y : Slot} (h : ltB x y = false) : ¬ ltS x y := of_decide_eq_false h
def UpR (w wr : World) (q b : Nat) (sl : Value) (p : Int) (s : List Slot) (n : Nat) (t : List Slot) (k : Nat) : Prop := t.Perm s ∧ (∀ k, n ≤ k → gt t k = gt s k) ∧ UpI n t k ∧ Touch (fq q sl (some b)) w wr ∧ HQ wr q sl (some b) p t
theorem UpR.step {w wr w1 w2 : World} {q b : Nat} {sl : Value} {p : Int} {s : List Slot} {n : Nat} {t : List Slot} {k : Nat} (h : UpR w wr q b sl p s n t k) (hn : n ≤ t.length) (hk : k < n) (h0 : 0 < k) (hl : ltB (gt t k) (gt t (par k)) = true) (hg : Gw wr w1)
    (ht : Touch (fq q sl (some b)) w1 w2) (hq : HQ w2 q sl (some b) p (swp t (par k) k)) : UpR w w2 q b sl p s n (swp t (par k) k) (par k) := by
  obtain ⟨r1, r2, r3, r4, r5⟩ := h
  have := par_lt h0
  refine ⟨(swp_perm (by omega) (by omega)).trans r1, fun i hi => ?_, up_step r3 hn hk h0 (ltB_true hl), (r4.trans' (hg.touch' _)).trans' ht, hq⟩
  rw [swp_gt (by omega) (by omega), if_neg (by omega), if_neg (by omega)]
  exact r2 i hi
def IF (q : Nat) : Value := .iface 90 (.pointer (some ⟨q, 0, none⟩))
set_option maxHeartbeats 1000000 in
set_option maxRecDepth 100000 in
theorem up45 (w : World) (q b : Nat) (sl : Value) (p : Int) (s : List Slot) (n j : Nat) (hj : j < n) (hn : n ≤ s.length) (h : HQ w q sl (some b) p s) (hu : UpI n s j) :
    Calls Try.prog 49 #[IF q, .int .i64 j] w fun e w' => e = .returned (.tuple #[]) ∧ ∃ s', s'.Perm s ∧ (∀ k, n ≤ k → gt s' k = gt s k) ∧ Heap n s' ∧ Touch (fq q sl (some b)) w w' ∧ HQ w' q sl (some b) p s' := by
  have HH := hid h
  have HU := hid hu
  have hle := h.le
  have mL := mLess q
  have mS := mSwap q
  clear h hu
  unfold IF
  go_enter Try.func49, Try.ntmps49
  go_wp2
  go_loopw [1] (fun i wr => ∃ (k : Nat) (t : List Slot), i = .int .i64 k ∧ k < n ∧ Hid (UpR w wr q b sl p s n t k)) (fun i _ => (intOf i).toNat)
  case atStart => exact ⟨j, s, rfl, hj, List.Perm.refl _, fun _ _ => rfl, HU.out, Touch.refl _ _, HH.out⟩
  case round =>
    obtain ⟨k, t, rfl, hk, HR⟩ := hrel
    have hkl : k < t.length := by have := HR.out.1.length_eq; omega
    have hnt : n ≤ t.length := by have := HR.out.1.length_eq; omega
    by_cases h0 : k = 0
    · subst h0
      go_wp2
      go_end0
      obtain ⟨r1, r2, r3, r4, r5⟩ := HR.out
      exact ⟨rfl, t, r1, r2, up_done r3 (Or.inl rfl), r4, r5⟩
    · have hpk : par k < k := par_lt (by omega)
      have e1 : ((k : Int) - 1) / 2 = ((par k : Nat) : Int) := by unfold par; omega
      have z1 : (k : Int) ≤ 65536 := by omega
      have z2 : (1 : Int) ≤ (k : Int) := by omega
      have z3 : (((par k : Nat) : Int) == (k : Int)) = false := by simp; omega
      have z4 : ((par k : Nat) : Int) < (k : Int) := by omega
      have HL := hid (less87 wr q sl (some b) p t k (par k) hkl (by omega) HR.out.2.2.2.2)
      cases hlt : ltB (gt t k) (gt t (par k)) with
      | false =>
        rw [hlt] at HL
        have HE : Hid (∀ w1, Gw wr w1 → ∃ s', s'.Perm s ∧ (∀ k, n ≤ k → gt s' k = gt s k) ∧ Heap n s' ∧ Touch (fq q sl (some b)) w w1 ∧ HQ w1 q sl (some b) p s') := fun w1 hg => by
          obtain ⟨r1, r2, r3, r4, r5⟩ := HR.out
          exact ⟨t, r1, r2, up_done r3 (Or.inr (ltB_false hlt)), r4.trans' (hg.touch' _), r5.gw hg⟩
        clear hlt
        generalize par k = pk at *
        go_wp2_with (go_at_call 87; refine HL.out.mono ?_; rintro e w1 ⟨rfl, hg⟩)
        go_end0
        exact ⟨rfl, HE.out w1 hg⟩
      | true =>
        rw [hlt] at HL
        have HE : Hid (∀ w1 w2, Gw wr w1 → Touch (fq q sl (some b)) w1 w2 → HQ w2 q sl (some b) p (swp t (par k) k) → UpR w w2 q b sl p s n (swp t (par k) k) (par k)) := fun w1 w2 hg ht hq => HR.out.step hnt hk (by omega) hlt hg ht hq
        have HS : Hid (∀ w1, Gw wr w1 → Calls Try.prog 90 #[.pointer (some ⟨q, 0, none⟩), .int .i64 ((par k : Nat) : Int), .int .i64 (k : Int)] w1 fun e w' => e = .returned (.tuple #[]) ∧ Touch (fq q sl (some b)) w1 w' ∧ HQ w' q sl (some b) p (swp t (par k) k)) := fun w1 hg =>
          swap90 w1 q b sl p t (par k) k (by omega) hkl (by omega) (HR.out.2.2.2.2.gw hg)
        clear hlt
        generalize par k = pk at *
        go_wp2_with (first | (go_at_call 87; refine HL.out.mono ?_; rintro e w1 ⟨rfl, hg⟩) | (go_at_call 90; refine (HS.out _ (by assumption)).mono ?_; rintro e w2 ⟨rfl, ht, hq⟩))
        go_roundw
        case rel => exact ⟨pk, swp t pk k, rfl, by omega, HE.out w1 w2 hg ht hq⟩
        case measure => simp [intOf]; omega
end Go.Proofs.Ytaioegefoiabhaa
