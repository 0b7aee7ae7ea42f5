/- The contract of container/heap's down at a queue by time. -/
import Derived.Test.YtaioegefoiabhaaUps
namespace Go.Proofs.Ytaioegefoiabhaa
open Go.RowKit Go.Maps Go.ChangeMaps
set_option linter.unusedVariables false
def DnR (w wr : World) (q b : Nat) (sl : Value) (p : Int) (s : List Slot) (n i0 : Nat) (t : List Slot) (k : Nat) : Prop :=
  t.Perm s ∧ (∀ k, n ≤ k → gt t k = gt s k) ∧ Hole n t k ∧ (k ≠ i0 → leS (gt t (par k)) (gt t k)) ∧ Touch (fq q sl (some b)) w wr ∧ HQ wr q sl (some b) p t
def DnP (w w' : World) (q b : Nat) (sl : Value) (p : Int) (s : List Slot) (n i0 : Nat) (B : Bool) : Prop :=
  ∃ s', s'.Perm s ∧ (∀ k, n ≤ k → gt s' k = gt s k) ∧ (B = true → Heap n s') ∧ (B = false → UpI n s' i0) ∧ Touch (fq q sl (some b)) w w' ∧ HQ w' q sl (some b) p s'
def DnQ (e : Ending) (w w' : World) (q b : Nat) (sl : Value) (p : Int) (s : List Slot) (n i0 : Nat) : Prop := ∃ B, e = .returned (.bool B) ∧ DnP w w' q b sl p s n i0 B
theorem DnR.end {w wr w1 : World} {q b : Nat} {sl : Value} {p : Int} {s : List Slot} {n i0 : Nat} {t : List Slot} {k : Nat} (h : DnR w wr q b sl p s n i0 t k) (hi : i0 ≤ k) (hg : Gw wr w1)
    (hc : ∀ c, 0 < c → c < n → par c = k → leS (gt t k) (gt t c)) : DnP w w1 q b sl p s n i0 (decide (i0 < k)) := by
  obtain ⟨r1, r2, r3, r4, r5, r6⟩ := h
  refine ⟨t, r1, r2, fun hb => ?_, fun hb => ?_, r5.trans' (hg.touch' _), r6.gw hg⟩
  · have := of_decide_eq_true hb
    exact hole_done r3 (fun _ => r4 (by omega)) hc
  · have := of_decide_eq_false hb
    have e : k = i0 := by omega
    rw [← e]
    exact hole_up r3 hc
theorem DnR.step {w wr w1 w2 : World} {q b : Nat} {sl : Value} {p : Int} {s : List Slot} {n i0 : Nat} {t : List Slot} {k j : Nat} (h : DnR w wr q b sl p s n i0 t k) (hn : n ≤ t.length) (hj : j < n) (h0 : 0 < j) (hp : par j = k) (hm : ∀ c, 0 < c → c < n → par c = k → leS (gt t j) (gt t c))
    (hl : ltB (gt t j) (gt t k) = true) (hg : Gw wr w1) (ht : Touch (fq q sl (some b)) w1 w2) (hq : HQ w2 q sl (some b) p (swp t k j)) : DnR w w2 q b sl p s n i0 (swp t k j) j := by
  obtain ⟨r1, r2, r3, r4, r5, r6⟩ := h
  have hlt := par_lt h0
  have H := hole_step r3 hn hj h0 hp hm (ltB_true hl)
  refine ⟨(swp_perm (by omega) (by omega)).trans r1, fun i hi => ?_, H.1, fun _ => H.2, (r5.trans' (hg.touch' _)).trans' ht, hq⟩
  rw [swp_gt (by omega) (by omega), if_neg (by omega), if_neg (by omega)]
  exact r2 i hi
theorem par_child {c k : Nat} (h0 : 0 < c) (h : par c = k) : c = 2 * k + 1 ∨ c = 2 * k + 2 := by unfold par at h; omega
theorem child1 {n k : Nat} {t : List Slot} (h2 : ¬ 2 * k + 2 < n) : ∀ c, 0 < c → c < n → par c = k → leS (gt t (2 * k + 1)) (gt t c) := fun c c0 cn cp => by
  rcases par_child c0 cp with rfl | rfl
  · exact leS.refl _
  · omega
theorem child2t {n k : Nat} {t : List Slot} (h : ltB (gt t (2 * k + 2)) (gt t (2 * k + 1)) = true) : ∀ c, 0 < c → c < n → par c = k → leS (gt t (2 * k + 2)) (gt t c) := fun c c0 cn cp => by
  rcases par_child c0 cp with rfl | rfl
  · exact (ltB_true h).le
  · exact leS.refl _
theorem child2f {n k : Nat} {t : List Slot} (h : ltB (gt t (2 * k + 2)) (gt t (2 * k + 1)) = false) : ∀ c, 0 < c → c < n → par c = k → leS (gt t (2 * k + 1)) (gt t c) := fun c c0 cn cp => by
  rcases par_child c0 cp with rfl | rfl
  · exact leS.refl _
  · exact not_lt.1 (ltB_false h)
set_option maxHeartbeats 2000000 in
set_option maxRecDepth 100000 in
theorem down51 (w : World) (q b : Nat) (sl : Value) (p : Int) (s : List Slot) (n i0 : Nat) (hi0 : i0 < n) (hn : n ≤ s.length) (h : HQ w q sl (some b) p s) (hu : Hole n s i0) :
    Calls Try.prog 63 #[IF q, .int .i64 i0, .int .i64 n] w fun e w' => DnQ e w w' q b sl p s n i0 := by
  have HH := hid h
  have HU := hid hu
  have hle := h.le
  have mL := mLess q
  have mS := mSwap q
  have zn : (n : Int) ≤ 65536 := by omega
  clear h hu
  unfold IF
  go_enter Try.func63, Try.ntmps63
  go_wp2
  go_loopw [7] (fun i wr => ∃ (k : Nat) (t : List Slot), i = .int .i64 k ∧ k < n ∧ i0 ≤ k ∧ Hid (DnR w wr q b sl p s n i0 t k)) (fun i _ => n - (intOf i).toNat)
  case atStart => exact ⟨i0, s, rfl, hi0, Nat.le_refl _, List.Perm.refl _, fun _ _ => rfl, HU.out, fun e => absurd rfl e, Touch.refl _ _, HH.out⟩
  case round =>
    obtain ⟨k, t, rfl, hk, hik, HR⟩ := hrel
    have hkl : k < t.length := by have := HR.out.1.length_eq; omega
    have hnt : n ≤ t.length := by have := HR.out.1.length_eq; omega
    have zk : (k : Int) < (n : Int) := by omega
    by_cases h1 : 2 * k + 1 < n
    · obtain ⟨c1, hc1⟩ : ∃ c1, c1 = 2 * k + 1 := ⟨_, rfl⟩
      obtain ⟨c2, hc2⟩ : ∃ c2, c2 = 2 * k + 2 := ⟨_, rfl⟩
      have e1 : 2 * (k : Int) + 1 = (c1 : Int) := by omega
      have e2 : (c1 : Int) + 1 = (c2 : Int) := by omega
      have z1 : (c1 : Int) < (n : Int) := by omega
      have l1 : c1 < n := by omega
      have l3 : k < c1 := by omega
      have l4 : k < c2 := by omega
      have p1 : par c1 = k := by unfold par; omega
      have p2 : par c2 = k := by unfold par; omega
      by_cases h2 : 2 * k + 2 < n
      · have z2 : (c2 : Int) < (n : Int) := by omega
        have l2 : c2 < n := by omega
        have HL := hid (less87 wr q sl (some b) p t c2 c1 (by omega) (by omega) HR.out.2.2.2.2.2)
        cases hb : ltB (gt t c2) (gt t c1) with
        | true =>
          rw [hb] at HL
          have hm : ∀ c, 0 < c → c < n → par c = k → leS (gt t c2) (gt t c) := by rw [hc2]; exact child2t (by rw [← hc1, ← hc2]; exact hb)
          have HL2 : Hid (∀ w1, Gw wr w1 → Calls Try.prog 87 #[.pointer (some ⟨q, 0, none⟩), .int .i64 (c2 : Int), .int .i64 (k : Int)] w1 fun e w' => e = .returned (.bool (ltB (gt t c2) (gt t k))) ∧ Gw w1 w') := fun w1 hg => less87 w1 q sl (some b) p t c2 k (by omega) (by omega) (HR.out.2.2.2.2.2.gw hg)
          cases hb2 : ltB (gt t c2) (gt t k) with
          | true =>
            rw [hb2] at HL2
            have HE : Hid (∀ w1 w2, Gw wr w1 → Touch (fq q sl (some b)) w1 w2 → HQ w2 q sl (some b) p (swp t k c2) → DnR w w2 q b sl p s n i0 (swp t k c2) c2) := fun w1 w2 hg ht hq => HR.out.step hnt l2 (by omega) p2 hm hb2 hg ht hq
            have HS : Hid (∀ w1, Gw wr w1 → Calls Try.prog 90 #[.pointer (some ⟨q, 0, none⟩), .int .i64 (k : Int), .int .i64 (c2 : Int)] w1 fun e w' => e = .returned (.tuple #[]) ∧ Touch (fq q sl (some b)) w1 w' ∧ HQ w' q sl (some b) p (swp t k c2)) := fun w1 hg =>
              swap90 w1 q b sl p t k c2 (by omega) (by omega) (by omega) (HR.out.2.2.2.2.2.gw hg)
            clear hb hb2 hm p1 p2 hc1 hc2
            go_wp2_with (first | (go_at_call_of 87 (#[.pointer (some ⟨q, 0, none⟩), .int .i64 (c2 : Int), .int .i64 (c1 : Int)] : Array Value); refine HL.out.mono ?_; rintro e w1 ⟨rfl, hg⟩) | (go_at_call 87; refine (HL2.out _ (by assumption)).mono ?_; rintro e w3 ⟨rfl, hg3⟩; have K3 := Gw.trans hg hg3; clear hg hg3) | (go_at_call 90; refine (HS.out _ (by assumption)).mono ?_; rintro e w2 ⟨rfl, ht, hq⟩))
            go_roundw
            case rel => exact ⟨c2, swp t k c2, rfl, by omega, by omega, HE.out w3 w2 K3 ht hq⟩
            case measure => simp [intOf]; omega
          | false =>
            rw [hb2] at HL2
            have HE : Hid (∀ w1, Gw wr w1 → DnP w w1 q b sl p s n i0 (decide (i0 < k))) := fun w1 hg => HR.out.end hik hg (fun c c0 cn cp => (not_lt.1 (ltB_false hb2)).trans (hm c c0 cn cp))
            clear hb hb2 hm p1 p2 hc1 hc2
            go_wp2_with (first | (go_at_call_of 87 (#[.pointer (some ⟨q, 0, none⟩), .int .i64 (c2 : Int), .int .i64 (c1 : Int)] : Array Value); refine HL.out.mono ?_; rintro e w1 ⟨rfl, hg⟩) | (go_at_call 87; refine (HL2.out _ (by assumption)).mono ?_; rintro e w3 ⟨rfl, hg3⟩; have K3 := Gw.trans hg hg3; clear hg hg3))
            go_ret
            exact ⟨_, rfl, HE.out w3 K3⟩
        | false =>
          rw [hb] at HL
          have hm : ∀ c, 0 < c → c < n → par c = k → leS (gt t c1) (gt t c) := by rw [hc1]; exact child2f (by rw [← hc1, ← hc2]; exact hb)
          have HL2 : Hid (∀ w1, Gw wr w1 → Calls Try.prog 87 #[.pointer (some ⟨q, 0, none⟩), .int .i64 (c1 : Int), .int .i64 (k : Int)] w1 fun e w' => e = .returned (.bool (ltB (gt t c1) (gt t k))) ∧ Gw w1 w') := fun w1 hg => less87 w1 q sl (some b) p t c1 k (by omega) (by omega) (HR.out.2.2.2.2.2.gw hg)
          cases hb2 : ltB (gt t c1) (gt t k) with
          | true =>
            rw [hb2] at HL2
            have HE : Hid (∀ w1 w2, Gw wr w1 → Touch (fq q sl (some b)) w1 w2 → HQ w2 q sl (some b) p (swp t k c1) → DnR w w2 q b sl p s n i0 (swp t k c1) c1) := fun w1 w2 hg ht hq => HR.out.step hnt l1 (by omega) p1 hm hb2 hg ht hq
            have HS : Hid (∀ w1, Gw wr w1 → Calls Try.prog 90 #[.pointer (some ⟨q, 0, none⟩), .int .i64 (k : Int), .int .i64 (c1 : Int)] w1 fun e w' => e = .returned (.tuple #[]) ∧ Touch (fq q sl (some b)) w1 w' ∧ HQ w' q sl (some b) p (swp t k c1)) := fun w1 hg =>
              swap90 w1 q b sl p t k c1 (by omega) (by omega) (by omega) (HR.out.2.2.2.2.2.gw hg)
            clear hb hb2 hm p1 p2 hc1 hc2
            go_wp2_with (first | (go_at_call_of 87 (#[.pointer (some ⟨q, 0, none⟩), .int .i64 (c2 : Int), .int .i64 (c1 : Int)] : Array Value); refine HL.out.mono ?_; rintro e w1 ⟨rfl, hg⟩) | (go_at_call 87; refine (HL2.out _ (by assumption)).mono ?_; rintro e w3 ⟨rfl, hg3⟩; have K3 := Gw.trans hg hg3; clear hg hg3) | (go_at_call 90; refine (HS.out _ (by assumption)).mono ?_; rintro e w2 ⟨rfl, ht, hq⟩))
            go_roundw
            case rel => exact ⟨c1, swp t k c1, rfl, by omega, by omega, HE.out w3 w2 K3 ht hq⟩
            case measure => simp [intOf]; omega
          | false =>
            rw [hb2] at HL2
            have HE : Hid (∀ w1, Gw wr w1 → DnP w w1 q b sl p s n i0 (decide (i0 < k))) := fun w1 hg => HR.out.end hik hg (fun c c0 cn cp => (not_lt.1 (ltB_false hb2)).trans (hm c c0 cn cp))
            clear hb hb2 hm p1 p2 hc1 hc2
            go_wp2_with (first | (go_at_call_of 87 (#[.pointer (some ⟨q, 0, none⟩), .int .i64 (c2 : Int), .int .i64 (c1 : Int)] : Array Value); refine HL.out.mono ?_; rintro e w1 ⟨rfl, hg⟩) | (go_at_call 87; refine (HL2.out _ (by assumption)).mono ?_; rintro e w3 ⟨rfl, hg3⟩; have K3 := Gw.trans hg hg3; clear hg hg3))
            go_ret
            exact ⟨_, rfl, HE.out w3 K3⟩
      · have z2 : ¬ (c2 : Int) < (n : Int) := by omega
        have hm : ∀ c, 0 < c → c < n → par c = k → leS (gt t c1) (gt t c) := by rw [hc1]; exact child1 h2
        have HL2 := hid (less87 wr q sl (some b) p t c1 k (by omega) (by omega) HR.out.2.2.2.2.2)
        cases hb : ltB (gt t c1) (gt t k) with
        | true =>
          rw [hb] at HL2
          have HE : Hid (∀ w1 w2, Gw wr w1 → Touch (fq q sl (some b)) w1 w2 → HQ w2 q sl (some b) p (swp t k c1) → DnR w w2 q b sl p s n i0 (swp t k c1) c1) := fun w1 w2 hg ht hq => HR.out.step hnt l1 (by omega) p1 hm hb hg ht hq
          have HS : Hid (∀ w1, Gw wr w1 → Calls Try.prog 90 #[.pointer (some ⟨q, 0, none⟩), .int .i64 (k : Int), .int .i64 (c1 : Int)] w1 fun e w' => e = .returned (.tuple #[]) ∧ Touch (fq q sl (some b)) w1 w' ∧ HQ w' q sl (some b) p (swp t k c1)) := fun w1 hg =>
            swap90 w1 q b sl p t k c1 (by omega) (by omega) (by omega) (HR.out.2.2.2.2.2.gw hg)
          clear hb hm p1 p2 hc1 hc2
          go_wp2_with (first | (go_at_call 87; refine HL2.out.mono ?_; rintro e w1 ⟨rfl, hg⟩) | (go_at_call 90; refine (HS.out _ (by assumption)).mono ?_; rintro e w2 ⟨rfl, ht, hq⟩))
          go_roundw
          case rel => exact ⟨c1, swp t k c1, rfl, by omega, by omega, HE.out w1 w2 hg ht hq⟩
          case measure => simp [intOf]; omega
        | false =>
          rw [hb] at HL2
          have HE : Hid (∀ w1, Gw wr w1 → DnP w w1 q b sl p s n i0 (decide (i0 < k))) := fun w1 hg => HR.out.end hik hg (fun c c0 cn cp => (not_lt.1 (ltB_false hb)).trans (hm c c0 cn cp))
          clear hb hm p1 p2 hc1 hc2
          go_wp2_with (go_at_call 87; refine HL2.out.mono ?_; rintro e w1 ⟨rfl, hg⟩)
          go_ret
          exact ⟨_, rfl, HE.out w1 hg⟩
    · have z1 : ¬ 2 * (k : Int) + 1 < (n : Int) := by omega
      have HE : Hid (DnP w wr q b sl p s n i0 (decide (i0 < k))) := HR.out.end hik (Gw.refl _) (fun c c0 cn cp => by rcases par_child c0 cp with rfl | rfl <;> omega)
      go_wp2
      go_ret
      exact ⟨_, rfl, HE.out⟩
end Go.Proofs.Ytaioegefoiabhaa
