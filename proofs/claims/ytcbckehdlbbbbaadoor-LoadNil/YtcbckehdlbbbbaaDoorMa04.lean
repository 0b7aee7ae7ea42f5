/- The contract of container/heap's down at a queue by time. -/
import Derived.Test.YtcbckehdlbbbbaaDoorMa03
import Derived.OwnWalk
namespace Go.Proofs.YtcbckehdlbbbbaaDoor.Cl
open Go.RowKit Go.Maps Go.ChangeMaps
set_option linter.unusedVariables false
def DnR (w wr : World) (q b : Nat) (sl : Value) (p : Int) (s : List Slot) (n i0 : Nat) (t : List Slot) (k : Nat) : Prop :=
  t.Perm s ∧ (∀ k, n ≤ k → gt t k = gt s k) ∧ Hole n t k ∧ (k ≠ i0 → leS (gt t (par k)) (gt t k)) ∧ Touch (fq q sl (some b)) w wr ∧ HQ wr q sl (some b) p t
def DnP (w w' : World) (q b : Nat) (sl : Value) (p : Int) (s : List Slot) (n i0 : Nat) (B : Bool) : Prop :=
  ∃ s', s'.Perm s ∧ (∀ k, n ≤ k → gt s' k = gt s k) ∧ (B = true → Heap n s') ∧ (B = false → UpI n s' i0) ∧ Touch (fq q sl (some b)) w w' ∧ HQ w' q sl (some b) p s'
def DnQ (e : Ending) (w w' : World) (q b : Nat) (sl : Value) (p : Int) (s : List Slot) (n i0 : Nat) : Prop := ∃ B, e = .returned (.bool B) ∧ DnP w w' q b sl p s n i0 B
theorem DnR.end {w wr w1 : World} {q b : Nat} {sl : Value} {p : Int} {s : List Slot} {n i0 : Nat} {t : List Slot} {k : Nat} (h : DnR w wr q b sl p s n i0 t k) (hi : i0 ≤ k) (hg : Gw wr w1)
    (hc : ∀ c, 0 < c → c < n → par c = k → leS (gt t k) (gt t c)) : DnP w w1 q b sl p s n i0 (decide (i0 < k)) := by
  obtain ⟨r1, r2, r3, r4, r5, r6⟩ := h
  refine ⟨t, r1, r2, fun hb => ?_, fun hb => ?_, r5.trans' (hg.touch' _), r6.gw hg⟩
  · have := of_decide_eq_true hb
    exact hole_done r3 (fun _ => r4 (by omega)) hc
  · have := of_decide_eq_false hb
    have e : k = i0 := by omega
    rw [← e]
    exact hole_up r3 hc
theorem DnR.step {w wr w1 w2 : World} {q b : Nat} {sl : Value} {p : Int} {s : List Slot} {n i0 : Nat} {t : List Slot} {k j : Nat} (h : DnR w wr q b sl p s n i0 t k) (hn : n ≤ t.length) (hj : j < n) (h0 : 0 < j) (hp : par j = k) (hm : ∀ c, 0 < c → c < n → par c = k → leS (gt t j) (gt t c))
    (hl : ltB (gt t j) (gt t k) = true) (hg : Gw wr w1) (ht : Touch (fq q sl (some b)) w1 w2) (hq : HQ w2 q sl (some b) p (swp t k j)) : DnR w w2 q b sl p s n i0 (swp t k j) j := by
  obtain ⟨r1, r2, r3, r4, r5, r6⟩ := h
  have hlt := par_lt h0
  have H := hole_step r3 hn hj h0 hp hm (ltB_true hl)
  refine ⟨(swp_perm (by omega) (by omega)).trans r1, fun i hi => ?_, H.1, fun _ => H.2, (r5.trans' (hg.touch' _)).trans' ht, hq⟩
  rw [swp_gt (by omega) (by omega), if_neg (by omega), if_neg (by omega)]
  exact r2 i hi
theorem par_child {c k : Nat} (h0 : 0 < c) (h : par c = k) : c = 2 * k + 1 ∨ c = 2 * k + 2 := by unfold par at h; omega
theorem child1 {n k : Nat} {t : List Slot} (h2 : ¬ 2 * k + 2 < n) : ∀ c, 0 < c → c < n → par c = k → leS (gt t (2 * k + 1)) (gt t c) := fun c c0 cn cp => by
  rcases par_child c0 cp with rfl | rfl
  · exact leS.refl _
  · omega
theorem child2t {n k : Nat} {t : List Slot} (h : ltB (gt t (2 * k + 2)) (gt t (2 * k + 1)) = true) : ∀ c, 0 < c → c < n → par c = k → leS (gt t (2 * k + 2)) (gt t c) := fun c c0 cn cp => by
  rcases par_child c0 cp with rfl | rfl
  · exact (ltB_true h).le
  · exact leS.refl _
theorem child2f {n k : Nat} {t : List Slot} (h : ltB (gt t (2 * k + 2)) (gt t (2 * k + 1)) = false) : ∀ c, 0 < c → c < n → par c = k → leS (gt t (2 * k + 1)) (gt t c) := fun c c0 cn cp => by
  rcases par_child c0 cp with rfl | rfl
  · exact leS.refl _
  · exact not_lt.1 (ltB_false h)
set_option maxHeartbeats 2000000 in
set_option maxRecDepth 100000 in
theorem down51 (w : World) (q b : Nat) (sl : Value) (p : Int) (s : List Slot) (n i0 : Nat) (hi0 : i0 < n) (hn : n ≤ s.length) (h : HQ w q sl (some b) p s) (hu : Hole n s i0) :
    Calls Tryd.prog 86 #[IF q, .int .i64 i0, .int .i64 n] w fun e w' => DnQ e w w' q b sl p s n i0 := by
  have HH := hid h
  have HU := hid hu
  have hle := h.le
  have mL := mLess q
  have mS := mSwap q
  have zn : (n : Int) ≤ 65536 := by omega
  clear h hu
  unfold IF
  go_enter Tryd.func86, Tryd.ntmps86
  go_wp2
  go_loopw [7] (fun i wr => ∃ (k : Nat) (t : List Slot), i = .int .i64 k ∧ k < n ∧ i0 ≤ k ∧ Hid (DnR w wr q b sl p s n i0 t k)) (fun i _ => n - (intOf i).toNat)
  case atStart => exact ⟨i0, s, rfl, hi0, Nat.le_refl _, List.Perm.refl _, fun _ _ => rfl, HU.out, fun e => absurd rfl e, Touch.refl _ _, HH.out⟩
  case round =>
    obtain ⟨k, t, rfl, hk, hik, HR⟩ := hrel
    have hkl : k < t.length := by have := HR.out.1.length_eq; omega
    have hnt : n ≤ t.length := by have := HR.out.1.length_eq; omega
    have zk : (k : Int) < (n : Int) := by omega
    by_cases h1 : 2 * k + 1 < n
    · obtain ⟨c1, hc1⟩ : ∃ c1, c1 = 2 * k + 1 := ⟨_, rfl⟩
      obtain ⟨c2, hc2⟩ : ∃ c2, c2 = 2 * k + 2 := ⟨_, rfl⟩
      have e1 : 2 * (k : Int) + 1 = (c1 : Int) := by omega
      have e2 : (c1 : Int) + 1 = (c2 : Int) := by omega
      have z1 : (c1 : Int) < (n : Int) := by omega
      have l1 : c1 < n := by omega
      have l3 : k < c1 := by omega
      have l4 : k < c2 := by omega
      have p1 : par c1 = k := by unfold par; omega
      have p2 : par c2 = k := by unfold par; omega
      by_cases h2 : 2 * k + 2 < n
      · have z2 : (c2 : Int) < (n : Int) := by omega
        have l2 : c2 < n := by omega
        have HL := hid (less87 wr q sl (some b) p t c2 c1 (by omega) (by omega) HR.out.2.2.2.2.2)
        cases hb : ltB (gt t c2) (gt t c1) with
        | true =>
          rw [hb] at HL
          have hm : ∀ c, 0 < c → c < n → par c = k → leS (gt t c2) (gt t c) := by rw [hc2]; exact child2t (by rw [← hc1, ← hc2]; exact hb)
          have HL2 : Hid (∀ w1, Gw wr w1 → Calls Tryd.prog 109 #[.pointer (some ⟨q, 0, none⟩), .int .i64 (c2 : Int), .int .i64 (k : Int)] w1 fun e w' => e = .returned (.bool (ltB (gt t c2) (gt t k))) ∧ Gw w1 w') := fun w1 hg => less87 w1 q sl (some b) p t c2 k (by omega) (by omega) (HR.out.2.2.2.2.2.gw hg)
          cases hb2 : ltB (gt t c2) (gt t k) with
          | true =>
            rw [hb2] at HL2
            have HE : Hid (∀ w1 w2, Gw wr w1 → Touch (fq q sl (some b)) w1 w2 → HQ w2 q sl (some b) p (swp t k c2) → DnR w w2 q b sl p s n i0 (swp t k c2) c2) := fun w1 w2 hg ht hq => HR.out.step hnt l2 (by omega) p2 hm hb2 hg ht hq
            have HS : Hid (∀ w1, Gw wr w1 → Calls Tryd.prog 112 #[.pointer (some ⟨q, 0, none⟩), .int .i64 (k : Int), .int .i64 (c2 : Int)] w1 fun e w' => e = .returned (.tuple #[]) ∧ Touch (fq q sl (some b)) w1 w' ∧ HQ w' q sl (some b) p (swp t k c2)) := fun w1 hg =>
              swap90 w1 q b sl p t k c2 (by omega) (by omega) (by omega) (HR.out.2.2.2.2.2.gw hg)
            clear hb hb2 hm p1 p2 hc1 hc2
            go_wp2_with (first | (go_at_call_of 109 (#[.pointer (some ⟨q, 0, none⟩), .int .i64 (c2 : Int), .int .i64 (c1 : Int)] : Array Value); refine HL.out.mono ?_; rintro e w1 ⟨rfl, hg⟩) | (go_at_call 109; refine (HL2.out _ (by assumption)).mono ?_; rintro e w3 ⟨rfl, hg3⟩; have K3 := Gw.trans hg hg3; clear hg hg3) | (go_at_call 112; refine (HS.out _ (by assumption)).mono ?_; rintro e w2 ⟨rfl, ht, hq⟩))
            go_roundw
            case rel => exact ⟨c2, swp t k c2, rfl, by omega, by omega, HE.out w3 w2 K3 ht hq⟩
            case measure => simp [intOf]; omega
          | false =>
            rw [hb2] at HL2
            have HE : Hid (∀ w1, Gw wr w1 → DnP w w1 q b sl p s n i0 (decide (i0 < k))) := fun w1 hg => HR.out.end hik hg (fun c c0 cn cp => (not_lt.1 (ltB_false hb2)).trans (hm c c0 cn cp))
            clear hb hb2 hm p1 p2 hc1 hc2
            go_wp2_with (first | (go_at_call_of 109 (#[.pointer (some ⟨q, 0, none⟩), .int .i64 (c2 : Int), .int .i64 (c1 : Int)] : Array Value); refine HL.out.mono ?_; rintro e w1 ⟨rfl, hg⟩) | (go_at_call 109; refine (HL2.out _ (by assumption)).mono ?_; rintro e w3 ⟨rfl, hg3⟩; have K3 := Gw.trans hg hg3; clear hg hg3))
            go_ret
            exact ⟨_, rfl, HE.out w3 K3⟩
        | false =>
          rw [hb] at HL
          have hm : ∀ c, 0 < c → c < n → par c = k → leS (gt t c1) (gt t c) := by rw [hc1]; exact child2f (by rw [← hc1, ← hc2]; exact hb)
          have HL2 : Hid (∀ w1, Gw wr w1 → Calls Tryd.prog 109 #[.pointer (some ⟨q, 0, none⟩), .int .i64 (c1 : Int), .int .i64 (k : Int)] w1 fun e w' => e = .returned (.bool (ltB (gt t c1) (gt t k))) ∧ Gw w1 w') := fun w1 hg => less87 w1 q sl (some b) p t c1 k (by omega) (by omega) (HR.out.2.2.2.2.2.gw hg)
          cases hb2 : ltB (gt t c1) (gt t k) with
          | true =>
            rw [hb2] at HL2
            have HE : Hid (∀ w1 w2, Gw wr w1 → Touch (fq q sl (some b)) w1 w2 → HQ w2 q sl (some b) p (swp t k c1) → DnR w w2 q b sl p s n i0 (swp t k c1) c1) := fun w1 w2 hg ht hq => HR.out.step hnt l1 (by omega) p1 hm hb2 hg ht hq
            have HS : Hid (∀ w1, Gw wr w1 → Calls Tryd.prog 112 #[.pointer (some ⟨q, 0, none⟩), .int .i64 (k : Int), .int .i64 (c1 : Int)] w1 fun e w' => e = .returned (.tuple #[]) ∧ Touch (fq q sl (some b)) w1 w' ∧ HQ w' q sl (some b) p (swp t k c1)) := fun w1 hg =>
              swap90 w1 q b sl p t k c1 (by omega) (by omega) (by omega) (HR.out.2.2.2.2.2.gw hg)
            clear hb hb2 hm p1 p2 hc1 hc2
            go_wp2_with (first | (go_at_call_of 109 (#[.pointer (some ⟨q, 0, none⟩), .int .i64 (c2 : Int), .int .i64 (c1 : Int)] : Array Value); refine HL.out.mono ?_; rintro e w1 ⟨rfl, hg⟩) | (go_at_call 109; refine (HL2.out _ (by assumption)).mono ?_; rintro e w3 ⟨rfl, hg3⟩; have K3 := Gw.trans hg hg3; clear hg hg3) | (go_at_call 112; refine (HS.out _ (by assumption)).mono ?_; rintro e w2 ⟨rfl, ht, hq⟩))
            go_roundw
            case rel => exact ⟨c1, swp t k c1, rfl, by omega, by omega, HE.out w3 w2 K3 ht hq⟩
            case measure => simp [intOf]; omega
          | false =>
            rw [hb2] at HL2
            have HE : Hid (∀ w1, Gw wr w1 → DnP w w1 q b sl p s n i0 (decide (i0 < k))) := fun w1 hg => HR.out.end hik hg (fun c c0 cn cp => (not_lt.1 (ltB_false hb2)).trans (hm c c0 cn cp))
            clear hb hb2 hm p1 p2 hc1 hc2
            go_wp2_with (first | (go_at_call_of 109 (#[.pointer (some ⟨q, 0, none⟩), .int .i64 (c2 : Int), .int .i64 (c1 : Int)] : Array Value); refine HL.out.mono ?_; rintro e w1 ⟨rfl, hg⟩) | (go_at_call 109; refine (HL2.out _ (by assumption)).mono ?_; rintro e w3 ⟨rfl, hg3⟩; have K3 := Gw.trans hg hg3; clear hg hg3))
            go_ret
            exact ⟨_, rfl, HE.out w3 K3⟩
      · have z2 : ¬ (c2 : Int) < (n : Int) := by omega
        have hm : ∀ c, 0 < c → c < n → par c = k → leS (gt t c1) (gt t c) := by rw [hc1]; exact child1 h2
        have HL2 := hid (less87 wr q sl (some b) p t c1 k (by omega) (by omega) HR.out.2.2.2.2.2)
        cases hb : ltB (gt t c1) (gt t k) with
        | true =>
          rw [hb] at HL2
          have HE : Hid (∀ w1 w2, Gw wr w1 → Touch (fq q sl (some b)) w1 w2 → HQ w2 q sl (some b) p (swp t k c1) → DnR w w2 q b sl p s n i0 (swp t k c1) c1) := fun w1 w2 hg ht hq => HR.out.step hnt l1 (by omega) p1 hm hb hg ht hq
          have HS : Hid (∀ w1, Gw wr w1 → Calls Tryd.prog 112 #[.pointer (some ⟨q, 0, none⟩), .int .i64 (k : Int), .int .i64 (c1 : Int)] w1 fun e w' => e = .returned (.tuple #[]) ∧ Touch (fq q sl (some b)) w1 w' ∧ HQ w' q sl (some b) p (swp t k c1)) := fun w1 hg =>
            swap90 w1 q b sl p t k c1 (by omega) (by omega) (by omega) (HR.out.2.2.2.2.2.gw hg)
          clear hb hm p1 p2 hc1 hc2
          go_wp2_with (first | (go_at_call 109; refine HL2.out.mono ?_; rintro e w1 ⟨rfl, hg⟩) | (go_at_call 112; refine (HS.out _ (by assumption)).mono ?_; rintro e w2 ⟨rfl, ht, hq⟩))
          go_roundw
          case rel => exact ⟨c1, swp t k c1, rfl, by omega, by omega, HE.out w1 w2 hg ht hq⟩
          case measure => simp [intOf]; omega
        | false =>
          rw [hb] at HL2
          have HE : Hid (∀ w1, Gw wr w1 → DnP w w1 q b sl p s n i0 (decide (i0 < k))) := fun w1 hg => HR.out.end hik hg (fun c c0 cn cp => (not_lt.1 (ltB_false hb)).trans (hm c c0 cn cp))
          clear hb hm p1 p2 hc1 hc2
          go_wp2_with (go_at_call 109; refine HL2.out.mono ?_; rintro e w1 ⟨rfl, hg⟩)
          go_ret
          exact ⟨_, rfl, HE.out w1 hg⟩
    · have z1 : ¬ 2 * (k : Int) + 1 < (n : Int) := by omega
      have HE : Hid (DnP w wr q b sl p s n i0 (decide (i0 < k))) := HR.out.end hik (Gw.refl _) (fun c c0 cn cp => by rcases par_child c0 cp with rfl | rfl <;> omega)
      go_wp2
      go_ret
      exact ⟨_, rfl, HE.out⟩
end Go.Proofs.YtcbckehdlbbbbaaDoor.Cl
/- The contracts of the heap's Push and Pop. -/
namespace Go.Proofs.YtcbckehdlbbbbaaDoor.Cl
open Go.RowKit Go.Maps Go.ChangeMaps
set_option linter.unusedVariables false
theorem info77 : (Tryd.prog.info? 152).map (fun i => (i.zero, i.size, i.bytes)) = some (some (.agg #[.int .i64 0, .int .i64 0, .int .i64 0]), 3, (24)) := by kernel_rfl
theorem cell_three_new (w : World) (x y z : Value) (t : TypeId) : ∀ j u, [x, y, z][j]? = some u → (w.alloc (.cells #[x, y, z] t)).cell? ((⟨w.heap.size, 0, none⟩ : Addr).add j) = some u := by
  intro j u hj
  match j, hj with
  | 0, hj => simp at hj; subst hj; simp [Addr.add]
  | 1, hj => simp at hj; subst hj; simp [Addr.add]
  | 2, hj => simp at hj; subst hj; simp [Addr.add]
/-- The places of a queue lie where they lay, or in new blocks. -/
def Nq (w : World) (q : Nat) (sl : Value) (m : Option Nat) (sl' : Value) (m' : Option Nat) : Prop := ∀ k, k ∈ fq q sl' m' → k ∈ fq q sl m ∨ w.heap.size ≤ k
theorem pmap_snoc {s : List Slot} {x : Slot} (hx : ∀ y ∈ s, y.item ≠ x.item) (k : Int) : upd (pmap s) x.item (.int .i64 s.length) k = pmap (s ++ [x]) k := by
  unfold upd pmap idx
  rw [List.findIdx?_append]
  by_cases e : k = x.item
  · rw [if_pos e, e]
    have : idx s x.item = none := idx_none.2 hx
    unfold idx at this
    rw [this]
    simp
  · rw [if_neg e]
    have : ¬ x.item = k := fun h => e h.symm
    cases h : List.findIdx? (fun x => x.item == k) s <;> simp [this]
theorem flat_one (x : Slot) : flat [x] = [.int .i64 x.at_, .int .i64 x.put, .int .i64 x.item] := rfl
theorem nd_snocS {s : List Slot} {x : Slot} (h : Nd s) (hx : ∀ y ∈ s, y.item ≠ x.item) : Nd (s ++ [x]) := by
  unfold Nd
  rw [List.map_append, List.nodup_append]
  refine ⟨h, by simp, fun a ha b hb => ?_⟩
  simp at hb ha
  obtain ⟨y, hy, rfl⟩ := ha
  subst hb
  exact hx y hy
theorem wf_snocS {s : List Slot} {x : Slot} (h : WfS s) (hx : W64 x.at_ ∧ W64 x.put ∧ W64 x.item) : WfS (s ++ [x]) := fun y hy => by
  simp at hy
  rcases hy with hy | rfl
  · exact h y hy
  · exact hx
theorem HC.set0 {w : World} {q : Nat} {sl : Value} {m : Option Nat} {p : Int} (h : HC w q sl m p) (v : Value) : HC (w.setCell ⟨q, 0, none⟩ v) q v m p := Joins.block_setCell h _
theorem HC.set1 {w : World} {q : Nat} {sl : Value} {m : Option Nat} {p : Int} (h : HC w q sl m p) (v : Option Nat) : HC (w.setCell ⟨q, 1, none⟩ (.map v)) q sl v p := Joins.block_setCell h _
theorem HC.set2 {w : World} {q : Nat} {sl : Value} {m : Option Nat} {p : Int} (h : HC w q sl m p) (v : Int) : HC (w.setCell ⟨q, 2, none⟩ (.int .i64 v)) q sl m v := Joins.block_setCell h _
/-- How the heap stands ahead of the append: the map has the item already. -/
structure Mid (w : World) (q : Nat) (sl : Value) (b : Nat) (p : Int) (s : List Slot) (x : Slot) : Prop where
  hc : HC w q sl (some b) p
  row : w.ownsRow 0 152 3 sl s.length (flat s)
  mp : MapAt w b (s.length + 1) (pmap (s ++ [x]))
theorem Mid.after {w w2 : World} {q b : Nat} {sl : Value} {p : Int} {s : List Slot} {x : Slot} (h : Mid w q sl b p s x) (hn : Nd s) (hw : WfS s) (hx : ∀ y ∈ s, y.item ≠ x.item) (hxw : W64 x.at_ ∧ W64 x.put ∧ W64 x.item) (hl : s.length < 65536)
    {g c : Nat} (hr : w2.ownsRow 0 152 3 (.slice (some ⟨g, 0, none⟩) (s.length + 1) c) (s.length + 1) (flat s ++ [.int .i64 x.at_, .int .i64 x.put, .int .i64 x.item])) (ht : Touch sl.ownBlock.toList w w2) (hg : sl.ownBlock = some g ∨ w.heap.size ≤ g) :
    HQ (w2.setCell ⟨q, 0, none⟩ (.slice (some ⟨g, 0, none⟩) (s.length + 1) c)) q (.slice (some ⟨g, 0, none⟩) (s.length + 1) c) (some b) p (s ++ [x]) ∧ Touch (fq q sl (some b)) w (w2.setCell ⟨q, 0, none⟩ (.slice (some ⟨g, 0, none⟩) (s.length + 1) c)) ∧ Nq w q sl (some b) (.slice (some ⟨g, 0, none⟩) (s.length + 1) c) (some b) := by
  have hbq := h.hc.map_ne h.mp
  have hsq : ¬ q ∈ sl.ownBlock.toList := fun e => by
    have e : sl.ownBlock = some q := by simpa using e
    exact row_ne h.hc h.row (by decide) q e rfl
  have hsb : ¬ b ∈ sl.ownBlock.toList := fun e => by
    have e : sl.ownBlock = some b := by simpa using e
    exact row_nm h.row h.mp b e rfl
  have C2 : HC w2 q sl (some b) p := h.hc.keep (ht.block q (block_lt h.hc) hsq)
  have M2 : MapAt w2 b (s.length + 1) (pmap (s ++ [x])) := h.mp.kept (ht.block b h.mp.lt hsb)
  have hgq : g ≠ q := row_ne C2 hr (by decide) g rfl
  have hlen : (s ++ [x]).length = s.length + 1 := by simp
  refine ⟨⟨C2.set0 _, ?_, Or.inr ⟨b, rfl, ?_⟩, nd_snocS hn hx, wf_snocS hw hxw, by rw [hlen]; omega⟩, ?_, ?_⟩
  · rw [hlen, flat_app, flat_one]
    exact own_keep hr (fun k hk => Below.heap_setCell _ _ _ _ (by simp [Value.ownBlock] at hk; rw [← hk]; exact hgq))
  · rw [hlen]
    exact M2.kept (Below.heap_setCell _ _ _ _ hbq)
  · exact (ht.mono (fun k hk => by simp [fq]; simp at hk; simp [hk])).setCell (by simp [fq]) _
  · intro k hk
    simp [fq, Value.ownBlock] at hk
    rcases hk with rfl | rfl | rfl
    · simp [fq]
    · rcases hg with hg | hg
      · left; simp [fq, hg]
      · exact Or.inr hg
    · simp [fq]
theorem assert77 (v : Value) (w : World) : (Instr.typeAssert (.iface 152 v) 20 152 false).run Tryd.prog w = .ok v w := by kernel_rfl
theorem Mid.make {w V : World} {q b : Nat} {sl : Value} {p : Int} {s : List Slot} {x : Slot} (h : HQ w q sl (some b) p s) (hx : ∀ y ∈ s, y.item ≠ x.item) (hxw : W64 x.item) (ht : Touch [] w V) :
    ∃ W, (Instr.mapUpdate 83 (.map (some b)) (.int .i64 x.item) (.int .i64 s.length)).run Tryd.prog V.drew = .ok () W ∧ Mid W q sl b p s x ∧ Touch [b] V W := by
  have h' := h.keep ht (fun _ _ e => by cases e)
  have hm := h'.map
  obtain ⟨o, hu, hm2⟩ := (show MapAt V.drew b s.length (pmap s) from hm.kept rfl).set (t := 83) Tryd.underlying83 (maxLen_big' h.le) hxw (.int .i64 s.length)
  have T : Touch [b] V (setBlock V.drew b o) := touch_setBlock (Touch.refl _ _).drew (by simp) o
  have hbq := h'.hc.map_ne hm
  refine ⟨_, hu, ⟨h'.hc.keep (T.block q (block_lt h'.hc) (by simpa using Ne.symm hbq)), own_touch h'.row T (fun k hk => by simpa using row_nm h'.row hm k hk), ?_⟩, T⟩
  have e : pmap s x.item = none := by unfold pmap; rw [idx_none.2 hx]; rfl
  exact (hm2.congr (fun k _ => pmap_snoc hx k)).same (by rw [e]; rfl)
set_option maxHeartbeats 2000000 in
set_option maxRecDepth 100000 in
theorem push89_some (w : World) (q b : Nat) (sl : Value) (p : Int) (s : List Slot) (x : Slot) (h : HQ w q sl (some b) p s) (hl : s.length < 65536) (hx : ∀ y ∈ s, y.item ≠ x.item) (hxw : W64 x.at_ ∧ W64 x.put ∧ W64 x.item) :
    Calls Tryd.prog 111 #[PT q, .iface 152 (sv x)] w fun e w' => e = .returned (.tuple #[]) ∧ ∃ sl', HQ w' q sl' (some b) p (s ++ [x]) ∧ Touch (fq q sl (some b)) w w' ∧ Nq w q sl (some b) sl' (some b) := by
  obtain ⟨i0, hi, hz0, hz1, hz2⟩ := info_parts info77
  obtain ⟨a0, c0', hsl⟩ := own_form h.row
  have hq := block_lt h.hc
  have q68 := eq68
  have c1 := h.hc.c1
  have c0 := h.hc.c0
  rw [hsl] at c0
  have h77 := assert77
  obtain ⟨V, hV⟩ : ∃ V, V = w.alloc (.cells #[.int .i64 x.at_, .int .i64 x.put, .int .i64 x.item] 152) := ⟨_, rfl⟩
  have TV : Touch [] w V := by rw [hV]; exact (Touch.refl _ _).alloc _
  obtain ⟨W, hu, M, TW⟩ := Mid.make (V := V) h hx hxw.2.2 TV

  have hne : w.heap.size ≠ b := by have := h.map.lt; omega
  have bxV : V.heap[w.heap.size]? = some (.cells #[.int .i64 x.at_, .int .i64 x.put, .int .i64 x.item] 152 (0, 0)) := by rw [hV]; exact heap_alloc_new w _
  have bxW : W.heap[w.heap.size]? = some (.cells #[.int .i64 x.at_, .int .i64 x.put, .int .i64 x.item] 152 (0, 0)) := TW.keep bxV (by simpa using hne)
  have v0 : V.cell? ⟨w.heap.size, 2, none⟩ = some (.int .i64 x.item) := by simp [World.cell?, bxV]
  have v1 : V.cell? ⟨q, 0, none⟩ = some (.slice a0 s.length c0') := by rw [← hsl]; exact (h.hc.keep (TV.block q hq (by simp))).c0
  have v2 : V.cell? ⟨q, 1, none⟩ = some (.map (some b)) := (h.hc.keep (TV.block q hq (by simp))).c1
  have hsn : ∀ k, k ∈ sl.ownBlock.toList → k ≠ w.heap.size := fun k hk => by
    have e : sl.ownBlock = some k := by simpa using hk
    have := (h.row.lt k e).2
    omega
  have hsq : ∀ k, k ∈ sl.ownBlock.toList → k ≠ q := fun k hk => by
    have e : sl.ownBlock = some k := by simpa using hk
    exact row_ne h.hc h.row (by decide) k e
  have z0 : ∀ w', Touch sl.ownBlock.toList W w' → w'.cell? ⟨q, 0, none⟩ = some sl := fun w' t => (M.hc.keep (t.block q (block_lt M.hc) (fun e => hsq q e rfl))).c0
  have zf : ∀ w', Touch sl.ownBlock.toList W w' → w'.frozen? ⟨q, 0, none⟩ = false := fun w' t => (M.hc.keep (t.block q (block_lt M.hc) (fun e => hsq q e rfl))).fr 0
  have kb : ∀ w', Touch sl.ownBlock.toList W w' → w'.heap[w.heap.size]? = some (.cells #[.int .i64 x.at_, .int .i64 x.put, .int .i64 x.item] 152 (0, 0)) := fun w' t => t.keep bxW (fun e => hsn _ e rfl)
  have z1 : ∀ w', Touch sl.ownBlock.toList W w' → w'.cell? ⟨w.heap.size, 0, none⟩ = some (.int .i64 x.at_) := fun w' t => by simp [World.cell?, kb w' t]
  have z2 : ∀ w', Touch sl.ownBlock.toList W w' → w'.cell? ⟨w.heap.size, 1, none⟩ = some (.int .i64 x.put) := fun w' t => by simp [World.cell?, kb w' t]
  have z3 : ∀ w', Touch sl.ownBlock.toList W w' → w'.cell? ⟨w.heap.size, 2, none⟩ = some (.int .i64 x.item) := fun w' t => by simp [World.cell?, kb w' t]
  have HO : Hid (∀ w', Touch [] W w' → w'.ownsRow 0 152 3 sl s.length (flat s)) := fun w' t => own_touch M.row t (fun _ _ e => by cases e)
  have hle : (s.length : Int) < 65536 := by omega
  have HTW : Hid (Touch (fq q sl (some b)) w W) := (TV.mono (fun _ e => by cases e)).trans' (TW.mono (by simp [fq]))
  have HW : Hid (W.heap.size ≤ W.heap.size ∧ w.heap.size ≤ W.heap.size) := ⟨Nat.le_refl _, HTW.out.size⟩
  have HA : Hid (∀ (w2 : World) (g c : Nat), w2.ownsRow 0 152 3 (.slice (some ⟨g, 0, none⟩) (s.length + 1) c) (s.length + 1) (flat s ++ [.int .i64 x.at_, .int .i64 x.put, .int .i64 x.item]) → Touch sl.ownBlock.toList W w2 → (sl.ownBlock = some g ∨ W.heap.size ≤ g) →
    ∃ sl', HQ (w2.setCell ⟨q, 0, none⟩ (.slice (some ⟨g, 0, none⟩) (s.length + 1) c)) q sl' (some b) p (s ++ [x]) ∧ Touch (fq q sl (some b)) w (w2.setCell ⟨q, 0, none⟩ (.slice (some ⟨g, 0, none⟩) (s.length + 1) c)) ∧ Nq w q sl (some b) sl' (some b)) := fun w2 g c hr ht hg => by
    obtain ⟨r1, r2, r3⟩ := M.after h.nd h.wf hx hxw hl hr ht hg
    refine ⟨_, r1, HTW.out.trans' r2, fun k hk => ?_⟩
    rcases r3 k hk with e | e
    · exact Or.inl e
    · exact Or.inr (Nat.le_trans HTW.out.size e)
  have HV := hid hV
  have HSl := hid hsl
  clear h hx hxw hsl M TV TW hV bxV bxW kb hsn hsq hne
  unfold PT sv
  go_enter Tryd.func111, Tryd.ntmps111
  go_wp2
  rw [← HV.out]
  go_region
  go_wp2
  have x0 := z0 W (Touch.refl _ _)
  have xa := z0 _ ((Touch.refl _ W).alloc (.cells #[.int .i64 x.at_, .int .i64 x.put, .int .i64 x.item] 152))
  have x1 := z1 W (Touch.refl _ _)
  have x2 := z2 W (Touch.refl _ _)
  have x3 := z3 W (Touch.refl _ _)
  have HZ := hid (And.intro z0 zf)
  clear z0 z1 z2 z3 zf v0 v1 v2 hu c0 c1 h77 q68
  go_region_law ((refine step_append_lies _ (by rfl) _ _ _ (by rfl) 0 152 i0 (.agg #[.int .i64 0, .int .i64 0, .int .i64 0]) 3 24 Tryd.underlying116 hi hz0 hz1 hz2 (by rfl) (by decide) sl s.length (flat s) (by rfl) (HO.out _ (by first | exact ((Touch.refl _ _).drew.alloc _) | exact ((Touch.refl _ _).alloc _).drew)) ⟨W.heap.size, 0, none⟩ 1 1 [.int .i64 x.at_, .int .i64 x.put, .int .i64 x.item] (by rfl) (by rfl) (cell_three_new _ _ _ _ _) (by simp [Value.oneCell']) (by decide) (by unfold maxLen; omega) (by omega) (by omega) _ rfl ?_; intro g c W2 hr hgrow hat hlt; have T2 : Touch sl.ownBlock.toList W W2 := (((Touch.refl _ W).alloc _).drew).grown hgrow (fun k hk => Or.inl (by simp [hk])); have HE := hid (HA.out W2 g c hr T2 (by rcases hat with e | e; exact Or.inl e; right; rw [e]; simp)); have y0 := HZ.out.1 W2 T2; have yf := HZ.out.2 W2 T2; clear hr hgrow hat hlt T2))
  all_goals
    go_end0
    exact ⟨rfl, HE.out⟩
theorem none_world (w : World) (q : Nat) (sl : Value) (p : Int) (o : Obj) (h : HQ w q sl none p []) :
    HQ (((w.setCell ⟨q, 1, none⟩ (.map (some (w.heap.size + 1)))).alloc o).alloc (.map #[] 0)) q sl (some (w.heap.size + 1)) p [] ∧ Touch [q] w (((w.setCell ⟨q, 1, none⟩ (.map (some (w.heap.size + 1)))).alloc o).alloc (.map #[] 0)) := by
  have hq := block_lt h.hc
  have C1 := h.hc.set1 (some (w.heap.size + 1))
  have s1 : (w.setCell ⟨q, 1, none⟩ (.map (some (w.heap.size + 1)))).heap.size = w.heap.size := by simp [World.setCell]
  have T : Touch [q] w (((w.setCell ⟨q, 1, none⟩ (.map (some (w.heap.size + 1)))).alloc o).alloc (.map #[] 0)) := (((Touch.refl _ _).setCell (by simp) _).alloc _).alloc _
  refine ⟨⟨?_, ?_, Or.inr ⟨_, rfl, ?_⟩, h.nd, h.wf, h.le⟩, T⟩
  · refine C1.keep ?_
    rw [Below.heap_alloc _ _ _ (by simp [World.setCell]; omega), Below.heap_alloc _ _ _ (by rw [s1]; exact hq)]
  · exact own_touch h.row T (fun k hk => by simpa using row_ne h.hc h.row (by decide) k hk)
  · have := mapAt_made ((w.setCell ⟨q, 1, none⟩ (.map (some (w.heap.size + 1)))).alloc o)
    have e : ((w.setCell ⟨q, 1, none⟩ (.map (some (w.heap.size + 1)))).alloc o).heap.size = w.heap.size + 1 := by simp [World.setCell]
    rw [e] at this
    exact this.congr (fun k _ => rfl)
set_option maxHeartbeats 2000000 in
set_option maxRecDepth 100000 in
theorem push89_none (w : World) (q : Nat) (sl : Value) (p : Int) (x : Slot) (h : HQ w q sl none p []) (hxw : W64 x.at_ ∧ W64 x.put ∧ W64 x.item) :
    Calls Tryd.prog 111 #[PT q, .iface 152 (sv x)] w fun e w' => e = .returned (.tuple #[]) ∧ ∃ sl' b', HQ w' q sl' (some b') p [x] ∧ Touch (fq q sl none) w w' ∧ Nq w q sl none sl' (some b') := by
  obtain ⟨i0, hi, hz0, hz1, hz2⟩ := info_parts info77
  obtain ⟨a0, c0', hsl⟩ := own_form h.row
  have hq := block_lt h.hc
  have q68 := eq68
  have c1 := h.hc.c1
  have f1 := h.hc.fr 1
  have hmm := @run_makeMap Tryd.prog
  have h77 := assert77
  obtain ⟨V, hV⟩ : ∃ V, V = ((w.setCell ⟨q, 1, none⟩ (.map (some (w.heap.size + 1)))).alloc (.cells #[.int .i64 x.at_, .int .i64 x.put, .int .i64 x.item] 152)).alloc (.map #[] 0) := ⟨_, rfl⟩
  obtain ⟨hN, TV⟩ := none_world w q sl p (.cells #[.int .i64 x.at_, .int .i64 x.put, .int .i64 x.item] 152) h
  rw [← hV] at hN TV
  have bxV : V.heap[w.heap.size]? = some (.cells #[.int .i64 x.at_, .int .i64 x.put, .int .i64 x.item] 152 (0, 0)) := by
    rw [hV]
    have s1 : (w.setCell ⟨q, 1, none⟩ (.map (some (w.heap.size + 1)))).heap.size = w.heap.size := by simp [World.setCell]
    rw [Below.heap_alloc _ _ _ (by simp [World.setCell])]
    have := heap_alloc_new (w.setCell ⟨q, 1, none⟩ (.map (some (w.heap.size + 1)))) (.cells #[.int .i64 x.at_, .int .i64 x.put, .int .i64 x.item] 152)
    rw [s1] at this
    exact this
  obtain ⟨b, hb⟩ : ∃ b, b = w.heap.size + 1 := ⟨_, rfl⟩
  rw [← hb] at hN
  obtain ⟨W, hu, M, TW⟩ := Mid.make (V := V) hN (x := x) (by simp) hxw.2.2 (Touch.refl _ _)
  have hne : w.heap.size ≠ b := by omega
  have bxW : W.heap[w.heap.size]? = some (.cells #[.int .i64 x.at_, .int .i64 x.put, .int .i64 x.item] 152 (0, 0)) := TW.keep bxV (by simpa using hne)
  have v0 : V.cell? ⟨w.heap.size, 2, none⟩ = some (.int .i64 x.item) := by simp [World.cell?, bxV]
  have v1 : V.cell? ⟨q, 0, none⟩ = some (.slice a0 0 c0') := by have := hN.hc.c0; rw [hsl] at this; exact this
  have v2 : V.cell? ⟨q, 1, none⟩ = some (.map (some b)) := hN.hc.c1
  have hsn : ∀ k, k ∈ sl.ownBlock.toList → k ≠ w.heap.size := fun k hk => by
    have e : sl.ownBlock = some k := by simpa using hk
    have := (h.row.lt k e).2
    omega
  have hsq : ∀ k, k ∈ sl.ownBlock.toList → k ≠ q := fun k hk => by
    have e : sl.ownBlock = some k := by simpa using hk
    exact row_ne h.hc h.row (by decide) k e
  have z0 : ∀ w', Touch sl.ownBlock.toList W w' → w'.cell? ⟨q, 0, none⟩ = some sl := fun w' t => (M.hc.keep (t.block q (block_lt M.hc) (fun e => hsq q e rfl))).c0
  have zf : ∀ w', Touch sl.ownBlock.toList W w' → w'.frozen? ⟨q, 0, none⟩ = false := fun w' t => (M.hc.keep (t.block q (block_lt M.hc) (fun e => hsq q e rfl))).fr 0
  have kb : ∀ w', Touch sl.ownBlock.toList W w' → w'.heap[w.heap.size]? = some (.cells #[.int .i64 x.at_, .int .i64 x.put, .int .i64 x.item] 152 (0, 0)) := fun w' t => t.keep bxW (fun e => hsn _ e rfl)
  have z1 : ∀ w', Touch sl.ownBlock.toList W w' → w'.cell? ⟨w.heap.size, 0, none⟩ = some (.int .i64 x.at_) := fun w' t => by simp [World.cell?, kb w' t]
  have z2 : ∀ w', Touch sl.ownBlock.toList W w' → w'.cell? ⟨w.heap.size, 1, none⟩ = some (.int .i64 x.put) := fun w' t => by simp [World.cell?, kb w' t]
  have z3 : ∀ w', Touch sl.ownBlock.toList W w' → w'.cell? ⟨w.heap.size, 2, none⟩ = some (.int .i64 x.item) := fun w' t => by simp [World.cell?, kb w' t]
  have HO : Hid (∀ w', Touch [] W w' → w'.ownsRow 0 152 3 sl 0 []) := fun w' t => own_touch M.row t (fun _ _ e => by cases e)
  have HTW : Hid (Touch (fq q sl none) w W) := (TV.mono (by simp [fq])).trans TW (fun i hi => by simp only [List.mem_singleton] at hi; subst hi; right; omega)
  have HA : Hid (∀ (w2 : World) (g c : Nat), w2.ownsRow 0 152 3 (.slice (some ⟨g, 0, none⟩) (0 + 1) c) (0 + 1) ([] ++ [.int .i64 x.at_, .int .i64 x.put, .int .i64 x.item]) → Touch sl.ownBlock.toList W w2 → (sl.ownBlock = some g ∨ W.heap.size ≤ g) →
    ∃ sl' b', HQ (w2.setCell ⟨q, 0, none⟩ (.slice (some ⟨g, 0, none⟩) 1 c)) q sl' (some b') p [x] ∧ Touch (fq q sl none) w (w2.setCell ⟨q, 0, none⟩ (.slice (some ⟨g, 0, none⟩) 1 c)) ∧ Nq w q sl none sl' (some b')) := fun w2 g c hr ht hg => by
    obtain ⟨r1, r2, r3⟩ := M.after h.nd h.wf (by simp) hxw (by simp) hr ht hg
    have hz := HTW.out.size
    refine ⟨_, b, r1, HTW.out.trans r2 (fun i hi => ?_), fun k hk => ?_⟩
    · simp [fq] at hi ⊢
      rcases hi with e | e | e
      · exact Or.inl (Or.inl e)
      · exact Or.inl (Or.inr e)
      · right; omega
    · rcases r3 k hk with e | e
      · simp [fq] at e ⊢
        rcases e with e | e | e
        · exact Or.inl (Or.inl e)
        · exact Or.inl (Or.inr e)
        · right; omega
      · exact Or.inr (Nat.le_trans hz e)
  have hu : (Instr.mapUpdate 83 (.map (some b)) (.int .i64 x.item) (.int .i64 0)).run Tryd.prog V.drew = .ok () W := hu
  have HV := hid hV
  have HB := hid hb
  clear h hxw M TV TW hV bxV bxW kb hsn hsq hne hN hb hsl
  unfold PT sv
  go_enter Tryd.func111, Tryd.ntmps111
  go_wp2
  rw [← HV.out, ← HB.out]
  go_region
  go_wp2
  have x0 := z0 W (Touch.refl _ _)
  have xa := z0 _ ((Touch.refl _ W).alloc (.cells #[.int .i64 x.at_, .int .i64 x.put, .int .i64 x.item] 152))
  have x1 := z1 W (Touch.refl _ _)
  have x2 := z2 W (Touch.refl _ _)
  have x3 := z3 W (Touch.refl _ _)
  have HZ := hid (And.intro z0 zf)
  clear z0 z1 z2 z3 zf v0 v1 v2 hu c1 h77 q68 f1 hmm
  go_region_law ((refine step_append_lies _ (by rfl) _ _ _ (by rfl) 0 152 i0 (.agg #[.int .i64 0, .int .i64 0, .int .i64 0]) 3 24 Tryd.underlying116 hi hz0 hz1 hz2 (by rfl) (by decide) sl 0 [] (by rfl) (HO.out _ (by first | exact ((Touch.refl _ _).drew.alloc _) | exact ((Touch.refl _ _).alloc _).drew)) ⟨W.heap.size, 0, none⟩ 1 1 [.int .i64 x.at_, .int .i64 x.put, .int .i64 x.item] (by rfl) (by rfl) (cell_three_new _ _ _ _ _) (by simp [Value.oneCell']) (by decide) (by unfold maxLen; omega) (by omega) (by omega) _ rfl ?_; intro g c W2 hr hgrow hat hlt; have T2 : Touch sl.ownBlock.toList W W2 := (((Touch.refl _ W).alloc _).drew).grown hgrow (fun k hk => Or.inl (by simp [hk])); have HE := hid (HA.out W2 g c hr T2 (by rcases hat with e | e; exact Or.inl e; right; rw [e]; simp)); have y0 := HZ.out.1 W2 T2; have yf := HZ.out.2 W2 T2; clear hr hgrow hat hlt T2))
  all_goals
    go_end0
    exact ⟨rfl, HE.out⟩
theorem pop_slice {w : World} {g c : Nat} {s : List Slot} {x : Slot} (h : w.ownsRow 0 152 3 (.slice (some ⟨g, 0, none⟩) (s ++ [x]).length c) (s ++ [x]).length (flat (s ++ [x]))) : w.ownsRow 0 152 3 (.slice (some ⟨g, 0, none⟩) s.length c) s.length (flat s) := by
  obtain ⟨cur, hc, hn, hm, hs, ht, hg, hl⟩ := own_block h
  refine ⟨flat_len s, Or.inr ⟨g, c, cur, rfl, hg, hc, by simp at hn; omega, hm, hs, ?_⟩⟩
  have : (cur.toList.take ((s ++ [x]).length * 3)).take (s.length * 3) = (flat (s ++ [x])).take (s.length * 3) := by rw [ht]
  rw [List.take_take, Nat.min_eq_left (by simp; omega)] at this
  rw [this, flat_app, List.take_append_of_le_length (by rw [flat_len]; exact Nat.le_refl _), List.take_of_length_le (by rw [flat_len]; exact Nat.le_refl _)]
structure Out (w : World) (q : Nat) (sl : Value) (b : Nat) (p : Int) (s : List Slot) (x : Slot) : Prop where
  hc : HC w q sl (some b) p
  row : w.ownsRow 0 152 3 sl s.length (flat s)
  mp : MapAt w b (s.length + 1) (pmap (s ++ [x]))
  nd : Nd (s ++ [x])
  wf : WfS (s ++ [x])
  le : s.length < 65536
set_option maxHeartbeats 2000000 in
set_option maxRecDepth 100000 in
theorem pop88 (w : World) (q b : Nat) (sl : Value) (p : Int) (s : List Slot) (x : Slot) (h : HQ w q sl (some b) p (s ++ [x])) :
    Calls Tryd.prog 110 #[PT q] w fun e w' => e = .returned (.iface 152 (sv x)) ∧ ∃ sl', Out w' q sl' b p s x ∧ Touch (fq q sl (some b)) w w' ∧ Nq w q sl (some b) sl' (some b) := by
  have hlen : (s ++ [x]).length = s.length + 1 := by simp
  obtain ⟨g, c, rfl⟩ := h.slice (by simp)
  have hle := h.le
  rw [hlen] at hle
  have hgx : gt (s ++ [x]) s.length = x := by rw [gt_eq (by simp)]; simp
  obtain ⟨x0, x1, x2⟩ := flat_at (s ++ [x]) s.length (by simp)
  rw [hgx] at x0 x1 x2
  have a0 := own_cell h.row x0
  have a1 := own_cell h.row x1
  have a2 := own_cell h.row x2
  have c0 := h.hc.c0
  have f0 := h.hc.fr 0
  have hgq : g ≠ q := row_ne h.hc h.row (by decide) g rfl
  have hbq := h.hc.map_ne h.map
  have hq := block_lt h.hc
  obtain ⟨cur, hcur, hnc, _⟩ := own_block h.row
  rw [hlen] at hnc c0
  have zc : ((s.length : Int) + 1) ≤ (c : Int) := by omega
  have zl : (s.length : Int) < 65536 := by omega
  have e1 : (((s.length + 1 : Nat) : Int)) = (s.length : Int) + 1 := by omega
  have HA : Hid (∀ w2, Touch [q] w w2 → HC w2 q (.slice (some ⟨g, 0, none⟩) s.length c) (some b) p → ∃ sl', Out w2 q sl' b p s x ∧ Touch (fq q (.slice (some ⟨g, 0, none⟩) (s ++ [x]).length c) (some b)) w w2 ∧ Nq w q (.slice (some ⟨g, 0, none⟩) (s ++ [x]).length c) (some b) sl' (some b)) := fun w2 t C2 => by
    refine ⟨_, ⟨C2, own_touch (pop_slice h.row) t (fun k hk => by simp [Value.ownBlock] at hk; subst hk; simpa using hgq), ?_, h.nd, h.wf, by omega⟩, t.mono (by simp [fq]), fun k hk => Or.inl (by simpa [fq, Value.ownBlock] using hk)⟩
    have := h.map
    rw [hlen] at this
    exact this.kept (t.block b this.lt (by simpa using hbq))
  have HC0 := hid h.hc
  have hne : w.heap.size ≠ q := by omega
  rw [hlen] at HA
  rw [hlen]
  clear h x0 x1 x2 hcur hlen hgx
  generalize s.length = n at *
  unfold PT sv
  go_enter Tryd.func110, Tryd.ntmps110
  go_wp2
  go_ret
  refine ⟨rfl, HA.out _ ?_ ?_⟩
  · first | exact ((Touch.refl _ _).setCell (by simp) _).alloc _ | exact ((Touch.refl _ _).alloc _).setCell (by simp) _
  · refine HC.keep (HC0.out.set0 _) ?_
    first | exact Below.heap_alloc _ _ _ (by simp [World.setCell]; omega) | skip
end Go.Proofs.YtcbckehdlbbbbaaDoor.Cl
/- The contracts of container/heap's Push and Remove at a queue by time, and of takeOut. -/
namespace Go.Proofs.YtcbckehdlbbbbaaDoor.Cl
open Go.RowKit Go.Maps Go.ChangeMaps
set_option linter.unusedVariables false
theorem push89 (w : World) (q : Nat) (sl : Value) (m : Option Nat) (p : Int) (s : List Slot) (x : Slot) (h : HQ w q sl m p s) (hl : s.length < 65536) (hx : ∀ y ∈ s, y.item ≠ x.item) (hxw : W64 x.at_ ∧ W64 x.put ∧ W64 x.item) :
    Calls Tryd.prog 111 #[PT q, .iface 152 (sv x)] w fun e w' => e = .returned (.tuple #[]) ∧ ∃ sl' b', HQ w' q sl' (some b') p (s ++ [x]) ∧ Touch (fq q sl m) w w' ∧ Nq w q sl m sl' (some b') := by
  rcases h.mp with ⟨rfl, rfl⟩ | ⟨b, rfl, _⟩
  · exact push89_none w q sl p x h hxw
  · refine (push89_some w q b sl p s x h hl hx hxw).mono ?_
    rintro e w' ⟨he, sl', h1, h2, h3⟩
    exact ⟨he, sl', b, h1, h2, h3⟩
theorem Nq.touch {w w1 w2 : World} {q : Nat} {sl sl' : Value} {m m' : Option Nat} (h : Nq w q sl m sl' m') (t1 : Touch (fq q sl m) w w1) (t2 : Touch (fq q sl' m') w1 w2) : Touch (fq q sl m) w w2 := t1.trans t2 h
theorem Nq.trans {w w1 : World} {q : Nat} {sl sl' sl'' : Value} {m m' m'' : Option Nat} (h : Nq w q sl m sl' m') (k : Nq w1 q sl' m' sl'' m'') (hz : w.heap.size ≤ w1.heap.size) : Nq w q sl m sl'' m'' := fun i hi => by
  rcases k i hi with e | e
  · exact h i e
  · exact Or.inr (Nat.le_trans hz e)
theorem Nq.refl (w : World) (q : Nat) (sl : Value) (m : Option Nat) : Nq w q sl m sl m := fun _ h => Or.inl h
set_option maxHeartbeats 2000000 in
set_option maxRecDepth 100000 in
theorem hpush38 (w : World) (q : Nat) (sl : Value) (m : Option Nat) (p : Int) (s : List Slot) (x : Slot) (h : HQ w q sl m p s) (hh : Heap s.length s) (hl : s.length < 65536) (hx : ∀ y ∈ s, y.item ≠ x.item) (hxw : W64 x.at_ ∧ W64 x.put ∧ W64 x.item) :
    Calls Tryd.prog 85 #[IF q, .iface 152 (sv x)] w fun e w' => e = .returned (.tuple #[]) ∧ ∃ sl' b' s', s'.Perm (s ++ [x]) ∧ Heap s'.length s' ∧ HQ w' q sl' (some b') p s' ∧ Touch (fq q sl m) w w' ∧ Nq w q sl m sl' (some b') := by
  have HP := hid (push89 w q sl m p s x h hl hx hxw)
  obtain ⟨n, hn⟩ : ∃ n, n = (s ++ [x]).length := ⟨_, rfl⟩
  have e1 : (n : Int) - 1 = (s.length : Int) := by rw [hn]; simp
  have z1 : (n : Int) ≤ 65536 := by rw [hn]; simp; omega
  have z2 : (1 : Int) ≤ (n : Int) := by rw [hn]; simp; omega
  have HL : Hid (∀ w1 sl1 b1, HQ w1 q sl1 (some b1) p (s ++ [x]) → Calls Tryd.prog 108 #[.pointer (some ⟨q, 0, none⟩)] w1 fun e w' => e = .returned (.int .i64 n) ∧ w' = w1) := fun w1 sl1 b1 k => by
    rw [hn]; exact len86 w1 q sl1 (some b1) p _ k
  have HU : Hid (∀ w1 sl1 b1, HQ w1 q sl1 (some b1) p (s ++ [x]) → Touch (fq q sl m) w w1 → Nq w q sl m sl1 (some b1) → Calls Tryd.prog 87 #[.iface 170 (.pointer (some ⟨q, 0, none⟩)), .int .i64 s.length] w1 fun e w' => e = .returned (.tuple #[]) ∧ ∃ sl' b' s', s'.Perm (s ++ [x]) ∧ Heap s'.length s' ∧ HQ w' q sl' (some b') p s' ∧ Touch (fq q sl m) w w' ∧ Nq w q sl m sl' (some b')) := fun w1 sl1 b1 k t1 n1 => by
    refine (up45 w1 q b1 sl1 p (s ++ [x]) (s ++ [x]).length s.length (by simp) (Nat.le_refl _) k (heap_snoc hh)).mono ?_
    rintro e w2 ⟨he, s', p1, _, p3, p4, p5⟩
    exact ⟨he, sl1, b1, s', p1, by rw [p1.length_eq]; exact p3, p5, n1.touch t1 p4, n1⟩
  have mL := mLen q
  have mP := mPush q
  clear h hh hx hxw hn
  generalize s ++ [x] = T at *
  generalize s.length = j at *
  unfold IF PT at *
  go_enter Tryd.func85, Tryd.ntmps85
  go_wp2_with (first
    | (go_at_call 111; refine HP.out.mono ?_; rintro e w1 ⟨rfl, sl1, b1, q1, t1, n1⟩; have Q1 := hid q1; have T1 := hid t1; have N1 := hid n1; clear q1 t1 n1)
    | (go_at_call 108; refine (HL.out _ _ _ Q1.out).mono ?_; rintro e w2 ⟨rfl, rfl⟩)
    | (go_at_call 87; refine (HU.out _ _ _ Q1.out T1.out N1.out).mono ?_; rintro e w3 ⟨rfl, r⟩; have R := hid r; clear r))
  go_end0
  exact ⟨rfl, R.out⟩
/-- What Remove leaves: the slot is out of the row, the map has it still. -/
def RmP (w w' : World) (q b : Nat) (sl : Value) (p : Int) (s : List Slot) (i : Nat) : Prop :=
  ∃ sl' s', (s' ++ [gt s i]).Perm s ∧ Heap s'.length s' ∧ Out w' q sl' b p s' (gt s i) ∧ Touch (fq q sl (some b)) w w' ∧ Nq w q sl (some b) sl' (some b)
theorem last_split {s : List Slot} {n : Nat} (h : s.length = n + 1) : s = s.dropLast ++ [gt s n] := by
  have hne : s ≠ [] := fun e => by rw [e] at h; simp at h
  have := (List.dropLast_concat_getLast hne).symm
  rw [List.getLast_eq_getElem] at this
  rw [gt_eq (by omega)]
  simpa [h] using this
theorem RmP.of_pop {w w1 : World} {q b : Nat} {sl : Value} {p : Int} {s t : List Slot} {i n : Nat} (hn : s.length = n + 1) (hi : i < s.length) (hp : t.Perm s) (hl : gt t n = gt s i) (hh : Heap n t) (ht : Touch (fq q sl (some b)) w w1) (hq : HQ w1 q sl (some b) p t) :
    Calls Tryd.prog 110 #[.pointer (some ⟨q, 0, none⟩)] w1 fun e w' => e = .returned (.iface 152 (sv (gt s i))) ∧ RmP w w' q b sl p s i := by
  have htl : t.length = n + 1 := by rw [hp.length_eq]; exact hn
  have hsp := last_split htl
  rw [hl] at hsp
  rw [hsp] at hq
  refine (pop88 w1 q b sl p _ _ hq).mono ?_
  rintro e w2 ⟨he, sl', o, t2, n2⟩
  refine ⟨he, sl', _, ?_, ?_, o, ht.trans' t2, fun k hk => ?_⟩
  · rw [← hsp]; exact hp
  · refine heap_dropLast ?_
    rw [htl]
    exact hh
  · rcases n2 k hk with e | e
    · exact Or.inl e
    · exact Or.inr (Nat.le_trans ht.size e)
set_option maxHeartbeats 2000000 in
set_option maxRecDepth 100000 in
theorem remove44_last (w : World) (q b : Nat) (sl : Value) (p : Int) (s : List Slot) (n : Nat) (hn : s.length = n + 1) (h : HQ w q sl (some b) p s) (hh : Heap s.length s) :
    Calls Tryd.prog 81 #[IF q, .int .i64 n] w fun e w' => e = .returned (.iface 152 (sv (gt s n))) ∧ RmP w w' q b sl p s n := by
  have HL : Hid (Calls Tryd.prog 108 #[.pointer (some ⟨q, 0, none⟩)] w fun e w' => e = .returned (.int .i64 ((n : Int) + 1)) ∧ w' = w) := by
    apply hid
    have := len86 w q sl (some b) p s h
    rw [hn] at this
    simpa [PT] using this
  have HP := hid (RmP.of_pop hn (i := n) (by omega) (List.Perm.refl s) rfl (heap_mono hh (by omega)) (Touch.refl _ w) h)
  have hle := h.le
  have zn : (n : Int) < 65536 := by omega
  have mL := mLen q
  have mP := mPop q
  clear h hh hn hle
  generalize gt s n = x at *
  unfold IF
  go_enter Tryd.func81, Tryd.ntmps81
  go_wp2_with (first
    | (go_at_call 108; refine HL.out.mono ?_; rintro e w2 ⟨rfl, rfl⟩)
    | (go_at_call 110; refine HP.out.mono ?_; rintro e w3 ⟨rfl, r⟩; have R := hid r; clear r))
  go_ret
  exact ⟨rfl, R.out⟩
set_option maxHeartbeats 2000000 in
set_option maxRecDepth 100000 in
theorem remove44_mid (w : World) (q b : Nat) (sl : Value) (p : Int) (s : List Slot) (n i : Nat) (hn : s.length = n + 1) (hi : i < n) (h : HQ w q sl (some b) p s) (hh : Heap s.length s) :
    Calls Tryd.prog 81 #[IF q, .int .i64 i] w fun e w' => e = .returned (.iface 152 (sv (gt s i))) ∧ RmP w w' q b sl p s i := by
  have HL : Hid (Calls Tryd.prog 108 #[.pointer (some ⟨q, 0, none⟩)] w fun e w' => e = .returned (.int .i64 ((n : Int) + 1)) ∧ w' = w) := by
    apply hid
    have := len86 w q sl (some b) p s h
    rw [hn] at this
    simpa [PT] using this
  have HS := hid (swap90 w q b sl p s i n (by omega) (by omega) (by omega) h)
  have hsl : gt (swp s i n) n = gt s i := by rw [swp_gt (by omega) (by omega), if_pos rfl]
  have HD : Hid (∀ w1, Touch (fq q sl (some b)) w w1 → HQ w1 q sl (some b) p (swp s i n) → Calls Tryd.prog 86 #[.iface 170 (.pointer (some ⟨q, 0, none⟩)), .int .i64 i, .int .i64 n] w1 fun e w' => DnQ e w1 w' q b sl p (swp s i n) n i) := fun w1 t1 k =>
    down51 w1 q b sl p (swp s i n) n i hi (by rw [swp_len]; omega) k (heap_hole (n := n) (by rw [hn] at hh; exact hh) (by omega) hi)
  have HU : Hid (∀ w1 w2, Touch (fq q sl (some b)) w w1 → DnP w1 w2 q b sl p (swp s i n) n i false → Calls Tryd.prog 87 #[.iface 170 (.pointer (some ⟨q, 0, none⟩)), .int .i64 i] w2 fun e w' => e = .returned (.tuple #[]) ∧ DnP w w' q b sl p (swp s i n) n i true) := fun w1 w2 t1 k => by
    obtain ⟨t, r1, r2, r3, r4, r5, r6⟩ := k
    refine (up45 w2 q b sl p t n i hi (by have := r1.length_eq; rw [swp_len] at this; omega) r6 (r4 rfl)).mono ?_
    rintro e w3 ⟨he, s', p1, p2, p3, p4, p5⟩
    exact ⟨he, s', p1.trans r1, fun k hk => (p2 k hk).trans (r2 k hk), fun _ => p3, fun e => (by cases e), (t1.trans' r5).trans' p4, p5⟩
  have HC : Hid (∀ w1 w2, Touch (fq q sl (some b)) w w1 → DnP w1 w2 q b sl p (swp s i n) n i true → DnP w w2 q b sl p (swp s i n) n i true) := fun w1 w2 t1 k => by
    obtain ⟨t, r1, r2, r3, r4, r5, r6⟩ := k
    exact ⟨t, r1, r2, r3, r4, t1.trans' r5, r6⟩
  have HP : Hid (∀ w1, DnP w w1 q b sl p (swp s i n) n i true → Calls Tryd.prog 110 #[.pointer (some ⟨q, 0, none⟩)] w1 fun e w' => e = .returned (.iface 152 (sv (gt s i))) ∧ RmP w w' q b sl p s i) := fun w1 k => by
    obtain ⟨t, r1, r2, r3, r4, r5, r6⟩ := k
    exact RmP.of_pop hn (by omega) (r1.trans (swp_perm (by omega) (by omega))) ((r2 n (Nat.le_refl _)).trans hsl) (r3 rfl) r5 r6
  have hle := h.le
  have zn : (n : Int) < 65536 := by omega
  have zi : (i : Int) < (n : Int) := by omega
  have zne : ((n : Int) != (i : Int)) = true := by simp; omega
  have mL := mLen q
  have mP := mPop q
  have mS := mSwap q
  clear h hh hn hle hsl
  generalize gt s i = x at *
  generalize swp s i n = S1 at *
  unfold IF
  unfold PT at HS
  go_enter Tryd.func81, Tryd.ntmps81
  go_wp2_with (first
    | (go_at_call 108; refine HL.out.mono ?_; rintro e w2 ⟨rfl, rfl⟩)
    | (go_at_call 112; refine HS.out.mono ?_; rintro e w3 ⟨rfl, t3, q3⟩; have T3 := hid t3; have Q3 := hid q3; clear t3 q3))
  refine (HD.out _ T3.out Q3.out).mono ?_
  rintro e w4 ⟨B, rfl, d⟩
  cases B with
  | true =>
    have D := hid (HC.out _ _ T3.out d)
    clear d
    go_wp2_with (go_at_call 110; refine (HP.out _ D.out).mono ?_; rintro e w5 ⟨rfl, r⟩; have R := hid r; clear r)
    go_ret
    exact ⟨rfl, R.out⟩
  | false =>
    have D := hid d
    clear d
    go_wp2_with (first
      | (go_at_call 87; refine (HU.out _ _ T3.out D.out).mono ?_; rintro e w5 ⟨rfl, d5⟩; have D5 := hid d5; clear d5)
      | (go_at_call 110; refine (HP.out _ D5.out).mono ?_; rintro e w6 ⟨rfl, r⟩; have R := hid r; clear r))
    go_ret
    exact ⟨rfl, R.out⟩
theorem remove44 (w : World) (q b : Nat) (sl : Value) (p : Int) (s : List Slot) (i : Nat) (hi : i < s.length) (h : HQ w q sl (some b) p s) (hh : Heap s.length s) :
    Calls Tryd.prog 81 #[IF q, .int .i64 i] w fun e w' => e = .returned (.iface 152 (sv (gt s i))) ∧ RmP w w' q b sl p s i := by
  obtain ⟨n, hn⟩ : ∃ n, s.length = n + 1 := ⟨s.length - 1, by omega⟩
  by_cases e : i = n
  · subst e
    exact remove44_last w q b sl p s i hn h hh
  · exact remove44_mid w q b sl p s n i hn (by omega) h hh
theorem pmap_del {s : List Slot} {x : Slot} (h : Nd (s ++ [x])) (k : Int) : del (pmap (s ++ [x])) x.item k = pmap s k := by
  have hx : ∀ y ∈ s, y.item ≠ x.item := fun y hy e => by
    unfold Nd at h
    rw [List.map_append, List.nodup_append] at h
    exact h.2.2 y.item (List.mem_map.2 ⟨y, hy, rfl⟩) x.item (by simp) e
  rw [show del (pmap (s ++ [x])) x.item k = if k = x.item then none else pmap (s ++ [x]) k from rfl, ← pmap_snoc hx]
  unfold upd
  by_cases e : k = x.item
  · rw [if_pos e, e]
    unfold pmap
    rw [idx_none.2 hx]
    rfl
  · rw [if_neg e, if_neg e]
theorem Out.done {w V : World} {q b : Nat} {sl : Value} {p : Int} {s : List Slot} {x : Slot} (h : Out w q sl b p s x) (ht : Touch [] w V) :
    ∃ W, (Builtin.delete_ #[83, 3] 0 #[.map (some b), .int .i64 x.item]).run Tryd.prog V.drew = .ok (.tuple #[]) W ∧ HQ W q sl (some b) p s ∧ Touch [b] V W := by
  have hm : MapAt V b (s.length + 1) (pmap (s ++ [x])) := h.mp.kept (ht.block b h.mp.lt (by simp))
  have hC : HC V q sl (some b) p := h.hc.keep (ht.block q (block_lt h.hc) (by simp))
  have hR : V.ownsRow 0 152 3 sl s.length (flat s) := own_touch h.row ht (fun _ _ e => by cases e)
  have hwx := (h.wf x (by simp)).2.2
  obtain ⟨o, hu, hm2⟩ := (show MapAt V.drew b (s.length + 1) (pmap (s ++ [x])) from hm.kept rfl).del (t := 83) Tryd.underlying83 hwx 0
  have T : Touch [b] V (setBlock V.drew b o) := touch_setBlock (Touch.refl _ _).drew (by simp) o
  have hbq := hC.map_ne hm
  have nd' : Nd s := by have := h.nd; unfold Nd at this ⊢; rw [List.map_append, List.nodup_append] at this; exact this.1
  refine ⟨_, hu, ⟨hC.keep (T.block q (block_lt hC) (by simpa using Ne.symm hbq)), own_touch hR T (fun k hk => by simpa using row_nm hR hm k hk), Or.inr ⟨b, rfl, ?_⟩, nd', fun y hy => h.wf y (by simp [hy]), Nat.le_of_lt h.le⟩, T⟩
  have e : (pmap (s ++ [x]) x.item).isSome = true := by
    have := pmap_at h.nd (i := s.length) (by simp)
    rw [gt_eq (by simp)] at this
    simp at this
    rw [this]; rfl
  exact (hm2.congr (fun k _ => pmap_del h.nd k)).same (by rw [e]; rfl)
set_option maxHeartbeats 2000000 in
set_option maxRecDepth 100000 in
theorem takeOut36 (w : World) (q b : Nat) (sl : Value) (p : Int) (s : List Slot) (i : Nat) (hi : i < s.length) (h : HQ w q sl (some b) p s) (hh : Heap s.length s) :
    Calls Tryd.prog 73 #[PT q, .int .i64 i] w fun e w' => e = .returned (.tuple #[]) ∧ ∃ sl' s', (s' ++ [gt s i]).Perm s ∧ Heap s'.length s' ∧ HQ w' q sl' (some b) p s' ∧ Touch (fq q sl (some b)) w w' ∧ Nq w q sl (some b) sl' (some b) := by
  have HR := hid (remove44 w q b sl p s i hi h hh)
  have h77 := assert77
  clear h hh hi
  obtain ⟨x, hx⟩ : ∃ x, x = gt s i := ⟨_, rfl⟩
  rw [← hx] at HR
  rw [← hx]
  have HX := hid hx
  clear hx
  unfold PT
  unfold IF sv at HR
  go_enter Tryd.func73, Tryd.ntmps73
  go_wp2_with (go_at_call 81; refine HR.out.mono ?_; rintro e w1 ⟨rfl, r⟩; have R := hid r; clear r)
  obtain ⟨sl', s', r1, r2, r3, r4, r5⟩ := R.out
  rw [← HX.out] at r1 r3
  obtain ⟨V, hV⟩ : ∃ V, V = w1.alloc (.cells #[.int .i64 x.at_, .int .i64 x.put, .int .i64 x.item] 152) := ⟨_, rfl⟩
  have TV : Touch [] w1 V := by rw [hV]; exact (Touch.refl _ _).alloc _
  obtain ⟨W, hu, HQW, TW⟩ := r3.done TV
  have v1 : V.cell? ⟨q, 1, none⟩ = some (.map (some b)) := (r3.hc.keep (TV.block q (block_lt r3.hc) (by simp))).c1
  have v2 : V.cell? ⟨w1.heap.size, 2, none⟩ = some (.int .i64 x.item) := by rw [hV]; simp
  have HE := hid (show ∃ sl' s', (s' ++ [x]).Perm s ∧ Heap s'.length s' ∧ HQ W q sl' (some b) p s' ∧ Touch (fq q sl (some b)) w W ∧ Nq w q sl (some b) sl' (some b) from
    ⟨sl', s', r1, r2, HQW, (r4.trans' (TV.mono (fun _ e => by cases e))).trans' (TW.mono (by simp [fq])), r5⟩)
  rw [← hV]
  clear hV r1 r2 r3 r4 r5 TV TW HQW R HR HX
  go_region
  go_end0
  exact ⟨rfl, HE.out⟩
end Go.Proofs.YtcbckehdlbbbbaaDoor.Cl
/- Plain mathematics of sorted lists of slots: no program. -/
namespace Go.Proofs.YtcbckehdlbbbbaaDoor.Cl
set_option linter.unusedVariables false
def Srt (S : List Slot) : Prop := S.Pairwise ltS
theorem srt_at {S : List Slot} (h : Srt S) {i j : Nat} (hij : i < j) (hj : j < S.length) : ltS (gt S i) (gt S j) := by
  rw [gt_eq (by omega), gt_eq hj]
  exact (List.pairwise_iff_getElem.1 h) i j (by omega) hj hij
theorem heap_head {s S : List Slot} (hp : s.Perm S) (hh : Heap s.length s) (hs : Srt S) (h0 : 0 < S.length) : gt s 0 = gt S 0 := by
  have hl := hp.length_eq
  have m1 : gt S 0 ∈ s := hp.mem_iff.2 (gt_mem h0)
  obtain ⟨k, hk, e⟩ := List.getElem_of_mem m1
  have l1 := heap_min hh k hk
  rw [gt_eq hk, e] at l1
  have m2 : gt s 0 ∈ S := hp.mem_iff.1 (gt_mem (by omega))
  obtain ⟨a, ha, e2⟩ := List.getElem_of_mem m2
  by_cases h : a = 0
  · subst h
    rw [← e2, gt_eq ha]
  · have := srt_at hs (i := 0) (j := a) (by omega) ha
    rw [gt_eq ha, e2] at this
    exact absurd l1 (not_le.2 this)
theorem srt_eraseIdx {S : List Slot} (h : Srt S) (i : Nat) : Srt (S.eraseIdx i) := List.Pairwise.sublist (List.eraseIdx_sublist _ _) h
theorem eraseIdx_perm {S : List Slot} {i : Nat} (h : i < S.length) : (S.eraseIdx i ++ [gt S i]).Perm S := by
  rw [List.eraseIdx_eq_take_drop_succ, gt_eq h]
  refine (List.perm_append_singleton _ _).trans ?_
  refine (List.perm_middle (l₁ := S.take i) (a := S[i]) (l₂ := S.drop (i + 1))).symm.trans ?_
  rw [← List.drop_eq_getElem_cons h, List.take_append_drop]
theorem perm_cancel {s t : List Slot} {x : Slot} (h : (s ++ [x]).Perm (t ++ [x])) : s.Perm t := (List.perm_append_right_iff [x]).1 h
def Pos (S : List Slot) (a : Int) (i : Nat) : Prop := i ≤ S.length ∧ (∀ j, j < S.length → i ≤ j → a < (gt S j).at_) ∧ (0 < i → (gt S (i - 1)).at_ ≤ a)
def ins (S : List Slot) (i : Nat) (x : Slot) : List Slot := S.take i ++ x :: S.drop i
theorem ins_perm (S : List Slot) (i : Nat) (x : Slot) : (ins S i x).Perm (S ++ [x]) := by
  refine (List.perm_middle).trans ?_
  rw [List.take_append_drop]
  exact (List.perm_append_singleton x S).symm
theorem srt_mono {S : List Slot} (h : Srt S) {i j : Nat} (hij : i ≤ j) (hj : j < S.length) : (gt S i).at_ ≤ (gt S j).at_ := by
  by_cases e : i = j
  · subst e; exact Int.le_refl _
  · have := srt_at h (by omega : i < j) hj
    unfold ltS at this
    omega
theorem ins_srt {S : List Slot} (h : Srt S) {i : Nat} {x : Slot} (hp : Pos S x.at_ i) (hx : ∀ y ∈ S, y.put < x.put) : Srt (ins S i x) := by
  obtain ⟨h1, h2, h3⟩ := hp
  unfold Srt ins
  have A : ∀ y ∈ S.take i, ltS y x := fun y hy => by
    obtain ⟨n, hn, rfl⟩ := List.getElem_of_mem hy
    rw [List.length_take] at hn
    rw [List.getElem_take]
    have b := h3 (by omega)
    have c := srt_mono h (i := n) (j := i - 1) (by omega) (by omega)
    have d := hx _ (List.getElem_mem (show n < S.length by omega))
    rw [gt_eq (by omega)] at c
    unfold ltS
    omega
  have B : ∀ y ∈ S.drop i, ltS x y := fun y hy => by
    obtain ⟨n, hn, rfl⟩ := List.getElem_of_mem hy
    rw [List.length_drop] at hn
    rw [List.getElem_drop]
    have b := h2 (i + n) (by omega) (by omega)
    rw [gt_eq (by omega)] at b
    unfold ltS
    omega
  rw [List.pairwise_append]
  refine ⟨List.Pairwise.sublist (List.take_sublist _ _) h, ?_, ?_⟩
  · rw [List.pairwise_cons]
    exact ⟨B, List.Pairwise.sublist (List.drop_sublist _ _) h⟩
  · intro a ha b hb
    rcases List.mem_cons.1 hb with rfl | hb
    · exact A a ha
    · exact (A a ha).trans (B b hb)
theorem pos_ex {S : List Slot} (h : Srt S) (a : Int) : ∃ i, Pos S a i := by
  suffices H : ∀ n, n ≤ S.length → (∀ j, j < S.length → n ≤ j → a < (gt S j).at_) → ∃ i, Pos S a i from H S.length (Nat.le_refl _) (fun j hj hn => by omega)
  intro n
  induction n with
  | zero => exact fun hn hj => ⟨0, hn, hj, fun h => by omega⟩
  | succ n ih =>
    intro hn hj
    by_cases e : (gt S n).at_ ≤ a
    · exact ⟨n + 1, hn, hj, fun _ => by simpa using e⟩
    · refine ih (by omega) (fun j h1 h2 => ?_)
      by_cases e' : j = n
      · subst e'; omega
      · exact hj j h1 (by omega)
theorem srt_unique {S T : List Slot} (hp : S.Perm T) (hs : Srt S) (ht : Srt T) : S = T :=
  List.Perm.eq_of_pairwise (fun a b _ _ h k => by unfold ltS at h k; omega) hs ht hp
/-- How many of the front are due. -/
def due (S : List Slot) (now : Int) : Nat := (S.takeWhile (fun x => decide (x.at_ ≤ now))).length
theorem gt_zero_cons (x : Slot) (S : List Slot) : gt (x :: S) 0 = x := rfl
theorem gt_succ_cons (x : Slot) (S : List Slot) (i : Nat) : gt (x :: S) (i + 1) = gt S i := rfl
end Go.Proofs.YtcbckehdlbbbbaaDoor.Cl
/- A queue by time as a sorted list: the contracts of Len, Next, At, Take, Drop and Put. -/
namespace Go.Proofs.YtcbckehdlbbbbaaDoor.Cl
open Go.RowKit Go.Maps Go.ChangeMaps
set_option linter.unusedVariables false
structure TM (w : World) (q : Nat) (sl : Value) (m : Option Nat) (p : Int) (S : List Slot) : Prop where
  ex : ∃ s, HQ w q sl m p s ∧ Heap s.length s ∧ s.Perm S
  srt : Srt S
  lo : ∀ x ∈ S, x.put < p
  p0 : 0 ≤ p
  tk : ∀ x ∈ S, 0 ≤ x.at_ ∧ x.at_ ≤ 4611686018427387904
/-- The blocks of a queue by time are F. -/
def Tq (w : World) (q : Nat) (F : List Nat) (p : Int) (S : List Slot) : Prop := ∃ sl m, F = fq q sl m ∧ TM w q sl m p S
def Nf (w : World) (F G : List Nat) : Prop := ∀ k, k ∈ G → k ∈ F ∨ w.heap.size ≤ k
theorem Nf.refl (w : World) (F : List Nat) : Nf w F F := fun _ h => Or.inl h
theorem Tq.len {w : World} {q : Nat} {F : List Nat} {p : Int} {S : List Slot} (h : Tq w q F p S) : S.length ≤ 65536 := by
  obtain ⟨sl, m, _, ⟨s, h1, h2, h3⟩, _⟩ := h
  rw [← h3.length_eq]; exact h1.le
theorem Tq.nd {w : World} {q : Nat} {F : List Nat} {p : Int} {S : List Slot} (h : Tq w q F p S) : Nd S := by
  obtain ⟨sl, m, _, ⟨s, h1, h2, h3⟩, _⟩ := h
  exact nd_perm h1.nd h3.symm
theorem Tq.wf {w : World} {q : Nat} {F : List Nat} {p : Int} {S : List Slot} (h : Tq w q F p S) : WfS S := by
  obtain ⟨sl, m, _, ⟨s, h1, h2, h3⟩, _⟩ := h
  exact wf_perm h1.wf h3.symm
theorem Tq.srt {w : World} {q : Nat} {F : List Nat} {p : Int} {S : List Slot} (h : Tq w q F p S) : Srt S := by
  obtain ⟨sl, m, _, t⟩ := h
  exact t.srt
theorem Tq.tk {w : World} {q : Nat} {F : List Nat} {p : Int} {S : List Slot} (h : Tq w q F p S) : ∀ x ∈ S, 0 ≤ x.at_ ∧ x.at_ ≤ 4611686018427387904 := by
  obtain ⟨sl, m, _, t⟩ := h
  exact t.tk
theorem Tq.keep {G : List Nat} {w w' : World} {q : Nat} {F : List Nat} {p : Int} {S : List Slot} (h : Tq w q F p S) (ht : Touch G w w') (hn : ∀ k, k ∈ F → ¬ k ∈ G) : Tq w' q F p S := by
  obtain ⟨sl, m, rfl, t⟩ := h
  obtain ⟨s, h1, h2, h3⟩ := t.ex
  exact ⟨sl, m, rfl, ⟨s, h1.keep ht hn, h2, h3⟩, t.srt, t.lo, t.p0, t.tk⟩
theorem Tq.keep0 {w w' : World} {q : Nat} {F : List Nat} {p : Int} {S : List Slot} (h : Tq w q F p S) (ht : Touch [] w w') : Tq w' q F p S := h.keep ht (fun _ _ e => by cases e)
theorem HQ.lt {w : World} {q : Nat} {sl : Value} {m : Option Nat} {p : Int} {s : List Slot} (h : HQ w q sl m p s) : ∀ k, k ∈ fq q sl m → k < w.heap.size := fun k hk => by
  simp [fq] at hk
  rcases hk with rfl | hk | hk
  · exact block_lt h.hc
  · exact (h.row.lt k hk).2
  · rcases h.mp with ⟨rfl, _⟩ | ⟨b, rfl, hm⟩
    · cases hk
    · cases hk; exact hm.lt
theorem Tq.lt {w : World} {q : Nat} {F : List Nat} {p : Int} {S : List Slot} (h : Tq w q F p S) : ∀ k, k ∈ F → k < w.heap.size := by
  obtain ⟨sl, m, rfl, ⟨s, h1, _⟩, _⟩ := h
  exact h1.lt
theorem slot_eq {S : List Slot} (h : Nd S) {x y : Slot} (hx : x ∈ S) (hy : y ∈ S) (e : x.item = y.item) : x = y := by
  obtain ⟨i, hi, rfl⟩ := List.getElem_of_mem hx
  obtain ⟨j, hj, rfl⟩ := List.getElem_of_mem hy
  have := nd_at h hi hj (by rw [gt_eq hi, gt_eq hj]; exact e)
  subst this; rfl
theorem idx_perm {s S : List Slot} (h : Nd S) (hp : s.Perm S) (k : Int) : (idx s k).isSome = (idx S k).isSome ∧ ∀ i a, idx s k = some i → idx S k = some a → gt s i = gt S a := by
  refine ⟨?_, fun i a hi ha => ?_⟩
  · cases e : idx s k with
    | none =>
      rw [idx_none] at e
      have : idx S k = none := idx_none.2 (fun x hx => e x (hp.mem_iff.2 hx))
      rw [this]
    | some i =>
      obtain ⟨h1, h2⟩ := idx_some e
      cases e2 : idx S k with
      | none =>
        rw [idx_none] at e2
        exact absurd h2 (e2 _ (hp.mem_iff.1 (gt_mem h1)))
      | some a => rfl
  · obtain ⟨h1, h2⟩ := idx_some hi
    obtain ⟨h3, h4⟩ := idx_some ha
    exact slot_eq h (hp.mem_iff.1 (gt_mem h1)) (gt_mem h3) (by rw [h2, h4])
theorem len26 (w : World) (q : Nat) (F : List Nat) (p : Int) (S : List Slot) (h : Tq w q F p S) :
    Calls Tryd.prog 72 #[PT q] w fun e w' => e = .returned (.int .i64 S.length) ∧ w' = w := by
  obtain ⟨sl, m, rfl, ⟨s, h1, h2, h3⟩, _⟩ := h
  rw [← h3.length_eq]
  have c0 := h1.hc.c0
  obtain ⟨a, c, rfl⟩ := own_form h1.row
  clear h1 h2 h3
  unfold PT
  go_enter Tryd.func72, Tryd.ntmps72
  go_wp2
  go_ret
  exact ⟨rfl, rfl⟩
theorem next27_nil (w : World) (q : Nat) (F : List Nat) (p : Int) (h : Tq w q F p []) :
    Calls Tryd.prog 54 #[PT q] w fun e w' => e = .returned (.tuple #[.int .i64 0, .int .i64 0, .bool false]) ∧ w' = w := by
  have HL := hid (len26 w q F p [] h)
  clear h
  unfold PT at *
  go_enter Tryd.func54, Tryd.ntmps54
  go_wp2_with (go_at_call 72; refine HL.out.mono ?_; rintro e w2 ⟨rfl, rfl⟩)
  exact bodyPost_ret (v := .tuple #[.int .i64 0, .int .i64 0, .bool false]) (by simp [results, Tryd.results54, go_sem]) rfl ⟨rfl, rfl⟩
set_option maxHeartbeats 1000000 in
theorem next27_cons (w : World) (q : Nat) (F : List Nat) (p : Int) (x : Slot) (S : List Slot) (h : Tq w q F p (x :: S)) :
    Calls Tryd.prog 54 #[PT q] w fun e w' => e = .returned (.tuple #[.int .i64 x.at_, .int .i64 x.item, .bool true]) ∧ Touch [] w w' := by
  have hle := h.len
  obtain ⟨n, hn⟩ : ∃ n, n = (x :: S).length := ⟨_, rfl⟩
  have HL := hid (len26 w q F p _ h)
  obtain ⟨sl, m, rfl, ⟨s, h1, h2, h3⟩, r⟩ := h
  have hl := h3.length_eq
  have hs0 : 0 < s.length := by rw [hl]; simp
  have hg := heap_head h3 h2 r (by simp)
  rw [gt_zero_cons] at hg
  obtain ⟨g, c, rfl⟩ := h1.slice hs0
  obtain ⟨x0, x1, x2⟩ := flat_at s 0 hs0
  rw [hg] at x0 x1 x2
  have a0 := own_cell h1.row x0
  have a1 := own_cell h1.row x1
  have a2 := own_cell h1.row x2
  have c0 := h1.hc.c0
  rw [hl, ← hn] at c0
  rw [← hn] at HL
  have hn0 : 0 < n := by rw [hn]; simp
  have zn : (0 : Int) < (n : Int) := by omega
  have zn2 : (n : Int) ≤ 65536 := by omega
  have zne : ((n : Int) == 0) = false := by simp; omega
  simp only [Nat.zero_mul, Nat.zero_add] at a0 a1 a2
  clear h1 h2 h3 r hn x0 x1 x2 hle hl hs0 hg hn0
  unfold PT at *
  go_enter Tryd.func54, Tryd.ntmps54
  go_wp2_with (go_at_call 72; refine HL.out.mono ?_; rintro e w2 ⟨rfl, rfl⟩)
  go_region
  go_wp2
  refine bodyPost_ret (v := .tuple #[.int .i64 x.at_, .int .i64 x.item, .bool true]) (by simp [results, Tryd.results54, go_sem]) rfl ⟨rfl, ?_⟩
  exact ((Touch.refl _ _).alloc _).drew
def isT (t : Int) : Bool := decide (0 ≤ t ∧ t ≤ 4611686018427387904)
theorem isT_yes {t : Int} (h : 0 ≤ t ∧ t ≤ 4611686018427387904) : isT t = true := decide_eq_true h
theorem isT_no {t : Int} (h : ¬ (0 ≤ t ∧ t ≤ 4611686018427387904)) : isT t = false := decide_eq_false h
theorem ret_bool {a b : Bool} (h : a = b) : Ending.returned (.bool a) = .returned (.bool b) := by rw [h]
theorem is37 (t : Int) (w : World) : Calls Tryd.prog 77 #[.int .i64 t] w fun e w' => e = .returned (.bool (isT t)) ∧ w' = w := by
  by_cases h : 0 ≤ t
  · by_cases h2 : t ≤ 4611686018427387904
    · have HI := hid (isT_yes ⟨h, h2⟩)
      go_enter Tryd.func77, Tryd.ntmps77
      go_wp2
      go_ret
      exact ⟨ret_bool HI.out.symm, rfl⟩
    · have HI := hid (isT_no (t := t) (by omega))
      go_enter Tryd.func77, Tryd.ntmps77
      go_wp2
      go_ret
      exact ⟨ret_bool HI.out.symm, rfl⟩
  · have HI := hid (isT_no (t := t) (by omega))
    go_enter Tryd.func77, Tryd.ntmps77
    go_wp2
    go_ret
    exact ⟨ret_bool HI.out.symm, rfl⟩
def atV (S : List Slot) (k : Int) : Value := match idx S k with
  | some a => .tuple #[.int .i64 (gt S a).at_, .bool true]
  | none => .tuple #[.int .i64 0, .bool false]
set_option maxHeartbeats 1000000 in
theorem at29_none (w : World) (q : Nat) (F : List Nat) (p : Int) (S : List Slot) (k : Int) (hk : W64 k) (h : Tq w q F p S) (hi : idx S k = none) :
    Calls Tryd.prog 84 #[PT q, .int .i64 k] w fun e w' => e = .returned (.tuple #[.int .i64 0, .bool false]) ∧ w' = w := by
  have nd := h.nd
  obtain ⟨sl, m, rfl, ⟨s, h1, h2, h3⟩, r⟩ := h
  have e1 := (idx_perm nd h3 k).1
  rw [hi] at e1
  have e2 : pmap s k = none := by
    unfold pmap
    cases h : idx s k with
    | none => rfl
    | some i => rw [h] at e1; cases e1
  have c1 := h1.hc.c1
  rcases h1.mp with ⟨rfl, rfl⟩ | ⟨b, rfl, hm⟩
  · have hl := Maps.look_nil (P := Tryd.prog) (w := w) true keyed3 Tryd.underlying83 (zero3 w) (key3 hk)
    simp only [if_true] at hl
    clear h1 h2 h3 r nd hi e1 e2
    unfold PT
    go_enter Tryd.func84, Tryd.ntmps84
    go_wp2
    exact bodyPost_ret (v := .tuple #[.int .i64 0, .bool false]) (by simp [results, Tryd.results84, go_sem]) rfl ⟨rfl, rfl⟩
  · have hl := hm.lookOk (t := 83) Tryd.underlying83 (zero3 w) hk
    rw [e2] at hl
    simp only [Option.getD_none, Option.isSome_none] at hl
    clear h1 h2 h3 r nd hi e1 e2 hm
    unfold PT
    go_enter Tryd.func84, Tryd.ntmps84
    go_wp2
    exact bodyPost_ret (v := .tuple #[.int .i64 0, .bool false]) (by simp [results, Tryd.results84, go_sem]) rfl ⟨rfl, rfl⟩
set_option maxHeartbeats 1000000 in
theorem at29_some (w : World) (q : Nat) (F : List Nat) (p : Int) (S : List Slot) (k : Int) (a : Nat) (hk : W64 k) (h : Tq w q F p S) (hi : idx S k = some a) :
    Calls Tryd.prog 84 #[PT q, .int .i64 k] w fun e w' => e = .returned (.tuple #[.int .i64 (gt S a).at_, .bool true]) ∧ w' = w := by
  have nd := h.nd
  obtain ⟨sl, m, rfl, ⟨s, h1, h2, h3⟩, r⟩ := h
  obtain ⟨e1, e2⟩ := idx_perm nd h3 k
  rw [hi] at e1
  obtain ⟨i, e3⟩ : ∃ i, idx s k = some i := by
    cases h : idx s k with
    | none => rw [h] at e1; cases e1
    | some i => exact ⟨i, rfl⟩
  have e4 := e2 i a e3 hi
  obtain ⟨il, _⟩ := idx_some e3
  have hle := h1.le
  have c1 := h1.hc.c1
  rcases h1.mp with ⟨rfl, rfl⟩ | ⟨b, rfl, hm⟩
  · simp at il
  · have hl := hm.lookOk (t := 83) Tryd.underlying83 (zero3 w) hk
    rw [show pmap s k = some (.int .i64 i) by simp [pmap, e3]] at hl
    simp only [Option.getD_some, Option.isSome_some] at hl
    obtain ⟨g, c, rfl⟩ := h1.slice (by omega)
    obtain ⟨x0, x1, x2⟩ := flat_at s i il
    rw [e4] at x0
    have a0 := own_cell h1.row x0
    have c0 := h1.hc.c0
    have zi : (i : Int) < (s.length : Int) := by omega
    have zl : (s.length : Int) ≤ 65536 := by omega
    clear h1 h2 h3 r nd hi e1 e2 hm x0 x1 x2 e3 e4
    generalize s.length = n at *
    generalize (gt S a).at_ = t at *
    unfold PT
    go_enter Tryd.func84, Tryd.ntmps84
    go_wp2
    exact bodyPost_ret (v := .tuple #[.int .i64 t, .bool true]) (by simp [results, Tryd.results84, go_sem]) rfl ⟨rfl, rfl⟩
/-- What a taking out leaves. -/
theorem Tq.out {w w' : World} {q : Nat} {sl : Value} {b : Nat} {p : Int} {s S : List Slot} {i a : Nat} (t : TM w q sl (some b) p S) (hp : s.Perm S) (ha : a < S.length) (hg : gt s i = gt S a)
    (h : ∃ sl' s', (s' ++ [gt s i]).Perm s ∧ Heap s'.length s' ∧ HQ w' q sl' (some b) p s' ∧ Touch (fq q sl (some b)) w w' ∧ Nq w q sl (some b) sl' (some b)) :
    ∃ F', Tq w' q F' p (S.eraseIdx a) ∧ Touch (fq q sl (some b)) w w' ∧ Nf w (fq q sl (some b)) F' := by
  obtain ⟨sl', s', h1, h2, h3, h4, h5⟩ := h
  rw [hg] at h1
  have : s'.Perm (S.eraseIdx a) := perm_cancel ((h1.trans hp).trans (eraseIdx_perm ha).symm)
  exact ⟨_, ⟨sl', some b, rfl, ⟨s', h3, h2, this⟩, srt_eraseIdx t.srt a, fun x hx => t.lo x (List.mem_of_mem_eraseIdx hx), t.p0, fun x hx => t.tk x (List.mem_of_mem_eraseIdx hx)⟩, h4, h5⟩
set_option maxHeartbeats 1000000 in
theorem take21_no (w : World) (q : Nat) (F : List Nat) (p : Int) (S : List Slot) (now : Int) (h : Tq w q F p S) (hn : S = [] ∨ now < (gt S 0).at_) :
    Calls Tryd.prog 55 #[PT q, .int .i64 now] w fun e w' => e = .returned (.tuple #[.int .i64 0, .bool false]) ∧ Touch [] w w' := by
  cases S with
  | nil =>
    have HN := hid (next27_nil w q F p h)
    clear h hn
    unfold PT at *
    go_enter Tryd.func55, Tryd.ntmps55
    go_wp2_with (go_at_call 54; refine HN.out.mono ?_; rintro e w2 ⟨rfl, rfl⟩)
    exact bodyPost_ret (v := .tuple #[.int .i64 0, .bool false]) (by simp [results, Tryd.results55, go_sem]) rfl ⟨rfl, Touch.refl _ _⟩
  | cons x S =>
    have HN := hid (next27_cons w q F p x S h)
    have hn : now < x.at_ := by
      rcases hn with h | h
      · cases h
      · exact h
    clear h
    generalize x.at_ = t at *
    generalize x.item = k at *
    unfold PT at *
    go_enter Tryd.func55, Tryd.ntmps55
    go_wp2_with (go_at_call 54; refine HN.out.mono ?_; rintro e w2 ⟨rfl, ht⟩)
    exact bodyPost_ret (v := .tuple #[.int .i64 0, .bool false]) (by simp [results, Tryd.results55, go_sem]) rfl ⟨rfl, ht⟩
set_option maxHeartbeats 1000000 in
theorem take21_yes (w : World) (q : Nat) (F : List Nat) (p : Int) (x : Slot) (S : List Slot) (now : Int) (h : Tq w q F p (x :: S)) (hn : x.at_ ≤ now) :
    Calls Tryd.prog 55 #[PT q, .int .i64 now] w fun e w' => e = .returned (.tuple #[.int .i64 x.item, .bool true]) ∧ ∃ F', Tq w' q F' p S ∧ Touch F w w' ∧ Nf w F F' := by
  have HN := hid (next27_cons w q F p x S h)
  have HT : Hid (∀ w1, Touch [] w w1 → Calls Tryd.prog 73 #[.pointer (some ⟨q, 0, none⟩), .int .i64 0] w1 fun e w' => e = .returned (.tuple #[]) ∧ ∃ F', Tq w' q F' p S ∧ Touch F w w' ∧ Nf w F F') := fun w1 t1 => by
    have h' := h.keep0 t1
    obtain ⟨sl, m, rfl, t⟩ := h'
    obtain ⟨s, h1, h2, h3⟩ := t.ex
    have hl := h3.length_eq
    have hs0 : 0 < s.length := by rw [hl]; simp
    rcases h1.mp with ⟨rfl, rfl⟩ | ⟨b, rfl, hm⟩
    · simp at hs0
    · refine (takeOut36 w1 q b sl p s 0 hs0 h1 h2).mono ?_
      rintro e w2 ⟨he, r⟩
      obtain ⟨F', r1, r2, r3⟩ := Tq.out t h3 (a := 0) (by simp) (heap_head h3 h2 t.srt (by simp)) r
      refine ⟨he, F', r1, (t1.mono (fun _ e => by cases e)).trans' r2, fun k hk => ?_⟩
      rcases r3 k hk with e | e
      · exact Or.inl e
      · exact Or.inr (Nat.le_trans t1.size e)
  clear h
  generalize x.at_ = t at *
  generalize x.item = k at *
  unfold PT at *
  go_enter Tryd.func55, Tryd.ntmps55
  go_wp2_with (first
    | (go_at_call 54; refine HN.out.mono ?_; rintro e w2 ⟨rfl, ht⟩)
    | (go_at_call 73; refine (HT.out _ ht).mono ?_; rintro e w3 ⟨rfl, r⟩; have R := hid r; clear r))
  exact bodyPost_ret (v := .tuple #[.int .i64 k, .bool true]) (by simp [results, Tryd.results55, go_sem]) rfl ⟨rfl, R.out⟩
end Go.Proofs.YtcbckehdlbbbbaaDoor.Cl
/- Take of a queue by time, both ways in one. -/
namespace Go.Proofs.YtcbckehdlbbbbaaDoor.Cl
open Go.RowKit Go.Maps Go.ChangeMaps
set_option linter.unusedVariables false
theorem Tq.apart {w : World} {q : Nat} {F : List Nat} {p : Int} {S : List Slot} (h : Tq w q F p S) {base e k n : Nat} {v : Value} {xs : List Value} (ho : w.ownsRow base e k v n xs) (e1 : e ≠ 120) (e2 : e ≠ 152) : ∀ b, v.ownBlock = some b → ¬ b ∈ F := by
  obtain ⟨sl, m, rfl, ⟨s, h1, _⟩, _⟩ := h
  intro b hb hF
  obtain ⟨_, h2 | ⟨g, cap, cur, rfl, hg, hcc, r⟩⟩ := ho
  · rw [h2.1] at hb; cases hb
  · simp [Value.ownBlock] at hb
    subst hb
    simp [fq] at hF
    rcases hF with rfl | hF | hF
    · have := h1.hc
      unfold HC at this
      rw [hcc] at this
      simp at this
      exact e1 this.2
    · obtain ⟨_, h3 | ⟨g', cap', cur', rfl, hg', hcc', r'⟩⟩ := h1.row
      · rw [h3.1] at hF; cases hF
      · simp [Value.ownBlock] at hF
        subst hF
        rw [hcc] at hcc'
        simp at hcc'
        exact e2 hcc'.2
    · rcases h1.mp with ⟨rfl, _⟩ | ⟨b, rfl, hm⟩
      · cases hF
      · cases hF
        obtain ⟨D, ⟨es, cl, hb, _⟩, _⟩ := hm
        rw [hb] at hcc
        simp at hcc
def TkP (w w' : World) (q : Nat) (F : List Nat) (p : Int) (T : List Slot) (now i : Int) (ok : Bool) : Prop :=
  (ok = true ∧ ∃ x R F', T = x :: R ∧ x.at_ ≤ now ∧ i = x.item ∧ Tq w' q F' p R ∧ Touch F w w' ∧ Nf w F F') ∨ (ok = false ∧ i = 0 ∧ (T = [] ∨ now < (gt T 0).at_) ∧ Touch [] w w' ∧ Tq w' q F p T)
def TkE (e : Ending) (w w' : World) (q : Nat) (F : List Nat) (p : Int) (T : List Slot) (now : Int) : Prop := ∃ i ok, e = .returned (.tuple #[.int .i64 i, .bool ok]) ∧ TkP w w' q F p T now i ok
theorem take21 (w : World) (q : Nat) (F : List Nat) (p : Int) (T : List Slot) (now : Int) (h : Tq w q F p T) : Calls Tryd.prog 55 #[PT q, .int .i64 now] w fun e w' => TkE e w w' q F p T now := by
  by_cases c : T = [] ∨ now < (gt T 0).at_
  · refine (take21_no w q F p T now h c).mono ?_
    rintro e w' ⟨rfl, ht⟩
    exact ⟨0, false, rfl, Or.inr ⟨rfl, rfl, c, ht, h.keep0 ht⟩⟩
  · cases T with
    | nil => exact absurd (Or.inl rfl) c
    | cons x R =>
      have hx : x.at_ ≤ now := by
        have : ¬ now < x.at_ := fun e => c (Or.inr e)
        omega
      refine (take21_yes w q F p x R now h hx).mono ?_
      rintro e w' ⟨rfl, F', h1, h2, h3⟩
      exact ⟨x.item, true, rfl, Or.inl ⟨rfl, x, R, F', rfl, hx, rfl, h1, h2, h3⟩⟩
def lenOf : Value → Nat
  | .slice _ n _ => n
  | _ => 0
theorem Nf.trans {w w1 : World} {F G H : List Nat} (h : Nf w F G) (k : Nf w1 G H) (hz : w.heap.size ≤ w1.heap.size) : Nf w F H := fun i hi => by
  rcases k i hi with e | e
  · exact h i e
  · exact Or.inr (Nat.le_trans hz e)
end Go.Proofs.YtcbckehdlbbbbaaDoor.Cl
/- The contract of Put of a queue by time. -/
namespace Go.Proofs.YtcbckehdlbbbbaaDoor.Cl
open Go.RowKit Go.Maps Go.ChangeMaps
set_option linter.unusedVariables false
theorem put24_arg (w : World) (q : Nat) (t k : Int) (ht : isT t = false) :
    Calls Tryd.prog 78 #[PT q, .int .i64 t, .int .i64 k] w fun e w' => e = .returned (.int .i64 1) ∧ w' = w := by
  have HI := hid (is37 t w)
  rw [ht] at HI
  clear ht
  unfold PT at *
  go_enter Tryd.func78, Tryd.ntmps78
  go_wp2_with (go_at_call 77; refine HI.out.mono ?_; rintro e w2 ⟨rfl, rfl⟩)
  go_ret
  exact ⟨rfl, rfl⟩
theorem put24_there (w : World) (q : Nat) (F : List Nat) (p : Int) (S : List Slot) (t k : Int) (a : Nat) (hk : W64 k) (h : Tq w q F p S) (ht : isT t = true) (hi : idx S k = some a) :
    Calls Tryd.prog 78 #[PT q, .int .i64 t, .int .i64 k] w fun e w' => e = .returned (.int .i64 40) ∧ w' = w := by
  have HI := hid (is37 t w)
  rw [ht] at HI
  have HA := hid (at29_some w q F p S k a hk h hi)
  clear ht h hi
  generalize (gt S a).at_ = u at *
  unfold PT at *
  go_enter Tryd.func78, Tryd.ntmps78
  go_wp2_with (first | (go_at_call 77; refine HI.out.mono ?_; rintro e w2 ⟨rfl, rfl⟩) | (go_at_call 84; refine HA.out.mono ?_; rintro e w2 ⟨rfl, rfl⟩))
  go_ret
  exact ⟨rfl, rfl⟩
theorem put24_many (w : World) (q : Nat) (F : List Nat) (p : Int) (S : List Slot) (t k : Int) (hk : W64 k) (h : Tq w q F p S) (ht : isT t = true) (hi : idx S k = none) (hl : 65536 ≤ S.length) :
    Calls Tryd.prog 78 #[PT q, .int .i64 t, .int .i64 k] w fun e w' => e = .returned (.int .i64 3) ∧ w' = w := by
  have HI := hid (is37 t w)
  rw [ht] at HI
  have HA := hid (at29_none w q F p S k hk h hi)
  have HL := hid (len26 w q F p S h)
  have zl : (65536 : Int) ≤ (S.length : Int) := by omega
  have zl2 := h.len
  clear ht h hi
  generalize S.length = n at *
  unfold PT at *
  go_enter Tryd.func78, Tryd.ntmps78
  go_wp2_with (first | (go_at_call 77; refine HI.out.mono ?_; rintro e w2 ⟨rfl, rfl⟩) | (go_at_call 84; refine HA.out.mono ?_; rintro e w2 ⟨rfl, rfl⟩) | (go_at_call 72; refine HL.out.mono ?_; rintro e w2 ⟨rfl, rfl⟩))
  go_ret
  exact ⟨rfl, rfl⟩
theorem Tq.put {w w1 : World} {q : Nat} {sl : Value} {m : Option Nat} {p : Int} {S s : List Slot} {t k : Int} {i : Nat} (h : TM w q sl m p S) (hp : s.Perm S) (ht : 0 ≤ t ∧ t ≤ 4611686018427387904) (hi : Pos S t i)
    {sl' : Value} {b' : Nat} {s' : List Slot} (r1 : s'.Perm (s ++ [⟨t, p, k⟩])) (r2 : Heap s'.length s') (r3 : HQ w1 q sl' (some b') p s') (r4 : Touch (fq q sl m) w w1) (r5 : Nq w q sl m sl' (some b')) :
    ∃ F', Tq (w1.setCell ⟨q, 2, none⟩ (.int .i64 (p + 1))) q F' (p + 1) (ins S i ⟨t, p, k⟩) ∧ Touch (fq q sl m) w (w1.setCell ⟨q, 2, none⟩ (.int .i64 (p + 1))) ∧ Nf w (fq q sl m) F' := by
  have hP : s'.Perm (ins S i ⟨t, p, k⟩) := (r1.trans (hp.append_right _)).trans (ins_perm S i _).symm
  have M : ∀ y ∈ ins S i ⟨t, p, k⟩, y ∈ S ∨ y = ⟨t, p, k⟩ := fun y hy => by
    have := (ins_perm S i _).mem_iff.1 hy
    simpa using this
  refine ⟨_, ⟨sl', some b', rfl, ⟨s', ?_, r2, hP⟩, ins_srt h.srt hi h.lo, fun y hy => ?_, by have := h.p0; omega, fun y hy => ?_⟩, r4.setCell (by simp [fq]) _, r5⟩
  · have hbq := r3.hc.map_ne r3.map
    refine ⟨r3.hc.set2 _, ?_, Or.inr ⟨b', rfl, r3.map.kept (Below.heap_setCell _ _ _ _ hbq)⟩, r3.nd, r3.wf, r3.le⟩
    exact own_keep r3.row (fun g hg => Below.heap_setCell _ _ _ _ (row_ne r3.hc r3.row (by decide) g hg))
  · rcases M y hy with e | e
    · have := h.lo y e; omega
    · rw [e]; show p < p + 1; omega
  · rcases M y hy with e | e
    · exact h.tk y e
    · rw [e]; exact ht
set_option maxHeartbeats 2000000 in
set_option maxRecDepth 100000 in
theorem put24_ok (w : World) (q : Nat) (F : List Nat) (p : Int) (S : List Slot) (t k : Int) (i : Nat) (hk : W64 k) (h : Tq w q F p S) (ht : isT t = true) (hi : idx S k = none) (hl : S.length < 65536) (hp : Pos S t i) (hpb : p < 4611686018427387904) :
    Calls Tryd.prog 78 #[PT q, .int .i64 t, .int .i64 k] w fun e w' => e = .returned (.int .i64 0) ∧ ∃ F', Tq w' q F' (p + 1) (ins S i ⟨t, p, k⟩) ∧ Touch F w w' ∧ Nf w F F' := by
  have HI := hid (is37 t w)
  rw [ht] at HI
  have HA := hid (at29_none w q F p S k hk h hi)
  have HL := hid (len26 w q F p S h)
  have zl : (S.length : Int) < 65536 := by omega
  have ht' : 0 ≤ t ∧ t ≤ 4611686018427387904 := of_decide_eq_true ht
  obtain ⟨sl, m, rfl, tm⟩ := h
  obtain ⟨s, h1, h2, h3⟩ := tm.ex
  have p0 := tm.p0
  have pb2 : p + 1 ≤ 4611686018427387904 := by omega
  have c2 := h1.hc.c2
  have hx : ∀ y ∈ s, y.item ≠ k := fun y hy => idx_none.1 hi y (h3.mem_iff.1 hy)
  have HP : Hid (∀ w1, Touch [] w w1 → Calls Tryd.prog 85 #[.iface 170 (.pointer (some ⟨q, 0, none⟩)), .iface 152 (.agg #[.int .i64 t, .int .i64 p, .int .i64 k])] w1 fun e w' => e = .returned (.tuple #[]) ∧ (w'.cell? ⟨q, 2, none⟩ = some (.int .i64 p) ∧ w'.frozen? ⟨q, 2, none⟩ = false) ∧ ∃ F', Tq (w'.setCell ⟨q, 2, none⟩ (.int .i64 (p + 1))) q F' (p + 1) (ins S i ⟨t, p, k⟩) ∧ Touch (fq q sl m) w (w'.setCell ⟨q, 2, none⟩ (.int .i64 (p + 1))) ∧ Nf w (fq q sl m) F') := fun w1 t1 => by
    refine (hpush38 w1 q sl m p s ⟨t, p, k⟩ (h1.keep t1 (fun _ _ e => by cases e)) h2 (by rw [h3.length_eq]; exact hl) hx ⟨W64.mk (by show _ ≤ t; omega) (by show t ≤ _; omega), W64.mk (by show _ ≤ p; omega) (by show p ≤ _; omega), hk⟩).mono ?_
    rintro e w2 ⟨he, sl', b', s', r1, r2, r3, r4, r5⟩
    refine ⟨he, ⟨r3.hc.c2, r3.hc.fr 2⟩, ?_⟩
    have t0 : Touch (fq q sl m) w w2 := (t1.mono (fun _ e => by cases e)).trans' r4
    exact Tq.put tm h3 ht' hp r1 r2 r3 t0 (fun k hk => by
      rcases r5 k hk with e | e
      · exact Or.inl e
      · exact Or.inr (Nat.le_trans t1.size e))
  clear ht hi tm h1 h2 h3 hx ht' hp hl
  generalize ins S i ⟨t, p, k⟩ = S' at *
  generalize (S.length : Int) = n at *
  unfold PT at HA HL ⊢
  have HPB := hid (And.intro hpb pb2)
  clear hpb pb2
  go_enter Tryd.func78, Tryd.ntmps78
  go_wp2_with (first | (go_at_call 77; refine HI.out.mono ?_; rintro e w2 ⟨rfl, rfl⟩) | (go_at_call 84; refine HA.out.mono ?_; rintro e w2 ⟨rfl, rfl⟩) | (go_at_call 72; refine HL.out.mono ?_; rintro e w2 ⟨rfl, rfl⟩))
  go_region_held3 (fun w' => w'.cell? ⟨q, 2, none⟩ = some (.int .i64 p)) (first | assumption | go_keep)
    (first | (go_at_call 85; refine (HP.out _ (Touch.refl _ _).drew).mono ?_; rintro e w1 ⟨rfl, ⟨y2, yf⟩, r⟩; have R := hid r; clear r))
  have pb1 : p < 9223372036854775807 := by have := HPB.out; omega
  go_wp2
  go_ret
  exact ⟨rfl, R.out⟩
end Go.Proofs.YtcbckehdlbbbbaaDoor.Cl
/- Timers as a plain list, rows of rings in memory, and the clock's answers as plain functions; no conditions. -/
namespace Go.Proofs.YtcbckehdlbbbbaaDoor.Cl
open Go.RowKit Go.Maps Go.ChangeMaps
set_option linter.unusedVariables false
/-- A timer: its tick and its number. -/
structure Tm where
  at_ : Int
  it : Int
def tmC (x : Tm) : List Value := [.int .i64 x.it, .int .i64 x.at_]
def flatT (s : List Tm) : List Value := s.flatMap tmC
def gtT (s : List Tm) (i : Nat) : Tm := s.getD i ⟨0, 0⟩
theorem gtT_eq {s : List Tm} {i : Nat} (h : i < s.length) : gtT s i = s[i] := by simp [gtT, List.getD_eq_getElem?_getD, List.getElem?_eq_getElem h]
theorem gtT_cons_succ (x : Tm) (s : List Tm) (i : Nat) : gtT (x :: s) (i + 1) = gtT s i := by simp [gtT]
theorem gtT_cons_zero (x : Tm) (s : List Tm) : gtT (x :: s) 0 = x := by simp [gtT]
theorem gtT_mem {s : List Tm} {i : Nat} (h : i < s.length) : gtT s i ∈ s := by rw [gtT_eq h]; exact List.getElem_mem h
theorem flatT_cons (x : Tm) (s : List Tm) : flatT (x :: s) = .int .i64 x.it :: .int .i64 x.at_ :: flatT s := by simp [flatT, tmC]
theorem flatT_len (s : List Tm) : (flatT s).length = s.length * 2 := by
  induction s with
  | nil => rfl
  | cons x s ih => rw [flatT_cons]; simp [ih]; omega
theorem flatT_app (s t : List Tm) : flatT (s ++ t) = flatT s ++ flatT t := by simp [flatT]
theorem flatT_at : ∀ (s : List Tm) (i : Nat), i < s.length → (flatT s)[i * 2]? = some (.int .i64 (gtT s i).it) ∧ (flatT s)[i * 2 + 1]? = some (.int .i64 (gtT s i).at_)
  | x :: s, 0, _ => by rw [flatT_cons]; simp [gtT]
  | x :: s, i + 1, h => by
    have ih := flatT_at s i (by simpa using h)
    rw [flatT_cons, show (i + 1) * 2 = i * 2 + 1 + 1 by omega, show i * 2 + 1 + 1 + 1 = (i * 2 + 1) + 1 + 1 by omega]
    simpa [gtT] using ih
theorem flatT_take (s : List Tm) (i : Nat) : (flatT s).take (i * 2) = flatT (s.take i) := by
  induction s generalizing i with
  | nil => simp [flatT]
  | cons x s ih =>
    cases i with
    | zero => simp [flatT]
    | succ i => rw [flatT_cons, show (i + 1) * 2 = i * 2 + 1 + 1 by omega, List.take_succ_cons, List.take_succ_cons, ih, List.take_succ_cons, flatT_cons]
theorem flatT_drop (s : List Tm) (i : Nat) : (flatT s).drop (i * 2) = flatT (s.drop i) := by
  induction s generalizing i with
  | nil => simp [flatT]
  | cons x s ih =>
    cases i with
    | zero => simp [flatT]
    | succ i => rw [flatT_cons, show (i + 1) * 2 = i * 2 + 1 + 1 by omega, List.drop_succ_cons, List.drop_succ_cons, ih, List.drop_succ_cons]
theorem one_flatT (l : List Tm) : ∀ u ∈ flatT l, u.oneCell' = true := fun u hu => by
  unfold flatT at hu
  rw [List.mem_flatMap] at hu
  obtain ⟨x, _, hx⟩ := hu
  simp [tmC] at hx
  rcases hx with rfl | rfl <;> rfl
/-- A row of rings of type e in memory. -/
def RR (e : TypeId) (w : World) (B : Nat) (v : Value) (l : List Tm) : Prop := w.ownsRow B e 2 v l.length (flatT l)
theorem RR.slice {e : TypeId} {w : World} {B : Nat} {v : Value} {l : List Tm} (h : RR e w B v l) : ∃ a c, v = .slice a l.length c := own_form h
theorem RR.keep {e : TypeId} {F : List Nat} {w w' : World} {B : Nat} {v : Value} {l : List Tm} (h : RR e w B v l) (ht : Touch F w w') (hn : ∀ b, v.ownBlock = some b → ¬ b ∈ F) : RR e w' B v l := own_touch h ht hn
theorem RR.keep0 {e : TypeId} {w w' : World} {B : Nat} {v : Value} {l : List Tm} (h : RR e w B v l) (ht : Touch [] w w') : RR e w' B v l := own_touch h ht (fun _ _ e => by cases e)
theorem RR.base {e : TypeId} {w : World} {B B' : Nat} {v : Value} {l : List Tm} (h : RR e w B v l) (hb : B' ≤ B) : RR e w B' v l := by
  obtain ⟨h1, h2 | ⟨g', c', cur, e', hg, r⟩⟩ := h
  · exact ⟨h1, Or.inl h2⟩
  · exact ⟨h1, Or.inr ⟨g', c', cur, e', Nat.le_trans hb hg, r⟩⟩
theorem RR.cells {e : TypeId} {w : World} {B : Nat} {a : Option Addr} {n c : Nat} {l : List Tm} (h : RR e w B (.slice a n c) l) {k : Nat} (hk : k < l.length) : ∃ g, a = some ⟨g, 0, none⟩ ∧ n = l.length ∧ w.cell? ⟨g, k * 2, none⟩ = some (.int .i64 (gtT l k).it) ∧ w.cell? ⟨g, k * 2 + 1, none⟩ = some (.int .i64 (gtT l k).at_) := by
  obtain ⟨g, c', e', _⟩ := World.ownsRow.form h (by omega)
  injection e' with e1 e2 e3
  subst e1 e2 e3
  obtain ⟨x0, x1⟩ := flatT_at l k hk
  exact ⟨g, rfl, rfl, own_cell h x0, own_cell h x1⟩
theorem RR.nil (e : TypeId) (w : World) (B : Nat) : RR e w B (.slice none 0 0) [] := World.ownsRow_nil _ _ _ _
theorem ret_int {a b : Int} (h : a = b) : Ending.returned (.int .i64 a) = .returned (.int .i64 b) := by rw [h]

/-- The place behind all that are not later. -/
def pos : List Tm → Int → Nat
  | [], _ => 0
  | x :: l, t => if pos l t = 0 ∧ t < x.at_ then 0 else pos l t + 1
def PosT (l : List Tm) (t : Int) (i : Nat) : Prop := i ≤ l.length ∧ (∀ j, j < l.length → i ≤ j → t < (gtT l j).at_) ∧ (0 < i → (gtT l (i - 1)).at_ ≤ t)
theorem posT_pos (l : List Tm) (t : Int) : PosT l t (pos l t) := by
  induction l with
  | nil => exact ⟨Nat.le_refl _, fun j hj => by simp at hj, fun h => by simp [pos] at h⟩
  | cons x l ih =>
    obtain ⟨h1, h2, h3⟩ := ih
    unfold pos
    split
    · rename_i h
      refine ⟨Nat.zero_le _, fun j hj _ => ?_, fun h => by omega⟩
      cases j with
      | zero => rw [gtT_cons_zero]; exact h.2
      | succ j => rw [gtT_cons_succ]; exact h2 j (by simpa using hj) (by omega)
    · rename_i h
      refine ⟨by simpa using h1, fun j hj hij => ?_, fun _ => ?_⟩
      · cases j with
        | zero => omega
        | succ j => rw [gtT_cons_succ]; exact h2 j (by simpa using hj) (by omega)
      · rw [Nat.add_sub_cancel]
        by_cases h0 : pos l t = 0
        · rw [h0, gtT_cons_zero]
          have : ¬ t < x.at_ := fun e => h ⟨h0, e⟩
          omega
        · obtain ⟨m, hm⟩ : ∃ m, pos l t = m + 1 := ⟨pos l t - 1, by omega⟩
          rw [hm, gtT_cons_succ]
          have := h3 (by omega)
          rw [hm, Nat.add_sub_cancel] at this
          exact this
theorem posT_unique {l : List Tm} {t : Int} {i j : Nat} (h : PosT l t i) (k : PosT l t j) : i = j := by
  obtain ⟨h1, h2, h3⟩ := h
  obtain ⟨k1, k2, k3⟩ := k
  rcases Nat.lt_trichotomy i j with e | e | e
  · have a := h2 (j - 1) (by omega) (by omega)
    have b := k3 (by omega)
    omega
  · exact e
  · have a := k2 (i - 1) (by omega) (by omega)
    have b := h3 (by omega)
    omega
theorem pos_eq {l : List Tm} {t : Int} {i : Nat} (h : PosT l t i) : i = pos l t := posT_unique h (posT_pos l t)
def insT (l : List Tm) (i : Nat) (x : Tm) : List Tm := l.take i ++ x :: l.drop i
theorem flatT_ins (l : List Tm) (i : Nat) (x : Tm) : flatT (insT l i x) = flatT (l.take i) ++ [.int .i64 x.it, .int .i64 x.at_] ++ flatT (l.drop i) := by
  unfold insT
  rw [flatT_app, flatT_cons]
  simp
theorem insT_len {l : List Tm} {i : Nat} (x : Tm) (h : i ≤ l.length) : (insT l i x).length = l.length + 1 := by
  unfold insT
  simp
  omega
theorem insT_mem {l : List Tm} {i : Nat} {x y : Tm} (h : y ∈ insT l i x) : y ∈ l ∨ y = x := by
  unfold insT at h
  rw [List.mem_append, List.mem_cons] at h
  rcases h with h | h | h
  · exact Or.inl (List.mem_of_mem_take h)
  · exact Or.inr h
  · exact Or.inl (List.mem_of_mem_drop h)
/-- How many are due. -/
def dueT (l : List Tm) (now : Int) : Nat := (l.takeWhile (fun x => decide (x.at_ ≤ now))).length
theorem dueT_of {l : List Tm} {now : Int} {n : Nat} (hn : n ≤ l.length) (h : ∀ j, j < n → (gtT l j).at_ ≤ now) (he : n = l.length ∨ now < (gtT l n).at_) : dueT l now = n := by
  induction l generalizing n with
  | nil => simp at hn; subst hn; rfl
  | cons x l ih =>
    cases n with
    | zero =>
      have : now < x.at_ := by
        rcases he with e | e
        · simp at e
        · exact e
      simp [dueT, show ¬ x.at_ ≤ now by omega]
    | succ n =>
      have h0 : x.at_ ≤ now := h 0 (by omega)
      have := ih (n := n) (by simpa using hn) (fun j hj => h (j + 1) (by omega)) (by
        rcases he with e | e
        · left; simpa using e
        · right; exact e)
      unfold dueT at this ⊢
      rw [List.takeWhile_cons, if_pos (by simpa using h0)]
      simp [this]
theorem dueT_le (l : List Tm) (now : Int) : dueT l now ≤ l.length := (List.takeWhile_sublist _).length_le
theorem dueT_all {l : List Tm} {now : Int} {j : Nat} (h : j < dueT l now) : (gtT l j).at_ ≤ now := by
  induction l generalizing j with
  | nil => simp [dueT] at h
  | cons x l ih =>
    unfold dueT at h
    rw [List.takeWhile_cons] at h
    split at h
    · rename_i hx
      cases j with
      | zero => rw [gtT_cons_zero]; simpa using hx
      | succ j => rw [gtT_cons_succ]; exact ih (by unfold dueT; simpa using h)
    · simp at h
theorem dueT_stop {l : List Tm} {now : Int} (h : dueT l now < l.length) : now < (gtT l (dueT l now)).at_ := by
  induction l with
  | nil => simp at h
  | cons x l ih =>
    unfold dueT at h ⊢
    rw [List.takeWhile_cons] at h ⊢
    split
    · rename_i hx
      rw [if_pos hx] at h
      simp only [List.length_cons] at h ⊢
      rw [gtT_cons_succ]
      exact ih (by unfold dueT; omega)
    · rename_i hx
      simp only [List.length_nil]
      rw [gtT_cons_zero]
      have : ¬ x.at_ ≤ now := fun e => hx (by simpa using e)
      omega

/-- How a clock stands. -/
structure Cs where
  now : Int
  last : Int
  T : List Tm
def MaxT : Int := 4611686018427387904
def armE (s : Cs) (t : Int) : Int := if isT t = false then 10 else if t < s.now then 50 else if 65536 ≤ s.T.length then 3 else 0
def armS (s : Cs) (t : Int) : Cs := if armE s t = 0 then ⟨s.now, s.last + 1, insT s.T (pos s.T t) ⟨t, s.last + 1⟩⟩ else s
def armN (s : Cs) (t : Int) : Int := if armE s t = 0 then s.last + 1 else 0
def inT (s : Cs) (d : Int) : Int := if 4611686018427387904 - s.now < d then 4611686018427387904 else s.now + d
def inE (s : Cs) (d : Int) : Int := if d < 0 then 11 else armE s (inT s d)
def inS (s : Cs) (d : Int) : Cs := if d < 0 then s else armS s (inT s d)
def inN (s : Cs) (d : Int) : Int := if d < 0 then 0 else armN s (inT s d)
def hasT (l : List Tm) (k : Int) : Bool := l.any (fun x => x.it == k)
def outT (l : List Tm) (k : Int) : List Tm := l.filter (fun x => x.it != k)
def stopS (s : Cs) (k : Int) : Cs := ⟨s.now, s.last, outT s.T k⟩
def goS (s : Cs) (to : Int) : Cs := ⟨to, s.last, s.T.drop (dueT s.T to)⟩
def goR (s : Cs) (to : Int) : List Tm := s.T.take (dueT s.T to)
def advE (s : Cs) (d : Int) : Int := if d < 0 then 11 else if 4611686018427387904 - s.now < d then 10 else 0
def advS (s : Cs) (d : Int) : Cs := if advE s d = 0 then goS s (s.now + d) else s
def advR (s : Cs) (d : Int) : List Tm := if advE s d = 0 then goR s (s.now + d) else []
def leapS (s : Cs) : Cs := match s.T with
  | [] => s
  | x :: _ => goS s x.at_
def leapR (s : Cs) : List Tm := match s.T with
  | [] => []
  | x :: _ => goR s x.at_
def fndT (l : List Tm) (k : Int) : Option Tm := l.find? (fun x => x.it == k)
def leftN (s : Cs) (k : Int) : Int := match fndT s.T k with
  | some x => x.at_ - s.now
  | none => 0
def leftB (s : Cs) (k : Int) : Bool := (fndT s.T k).isSome
/-- What holds of a clock at every point. -/
structure Ok (s : Cs) : Prop where
  n0 : 0 ≤ s.now
  n1 : s.now ≤ 4611686018427387904
  l0 : 0 ≤ s.last
  len : s.T.length ≤ 65536
  ll : (s.T.length : Int) ≤ s.last
  at0 : ∀ x ∈ s.T, s.now ≤ x.at_
  at1 : ∀ x ∈ s.T, x.at_ ≤ 4611686018427387904
  it0 : ∀ x ∈ s.T, 1 ≤ x.it
  it1 : ∀ x ∈ s.T, x.it ≤ s.last
  ord : s.T.Pairwise (fun x y => x.at_ < y.at_ ∨ x.at_ = y.at_ ∧ x.it < y.it)
theorem gtT_take {l : List Tm} {i j : Nat} (h : j < i) : gtT (l.take i) j = gtT l j := by simp [gtT, h]
theorem gtT_drop (l : List Tm) (i j : Nat) : gtT (l.drop i) j = gtT l (i + j) := by simp [gtT, List.getD_eq_getElem?_getD, List.getElem?_drop]
theorem ord_le {l : List Tm} (h : l.Pairwise (fun x y => x.at_ < y.at_ ∨ x.at_ = y.at_ ∧ x.it < y.it)) {i j : Nat} (hij : i ≤ j) (hj : j < l.length) : (gtT l i).at_ ≤ (gtT l j).at_ := by
  rcases Nat.lt_or_ge i j with e | e
  · have := List.pairwise_iff_getElem.1 h i j (by omega) hj e
    rw [gtT_eq hj, gtT_eq (by omega)]
    omega
  · have : i = j := by omega
    subst this
    exact Int.le_refl _
theorem ins_ord {l : List Tm} {t k : Int} (h : l.Pairwise (fun x y => x.at_ < y.at_ ∨ x.at_ = y.at_ ∧ x.it < y.it)) (hk : ∀ x ∈ l, x.it < k) {i : Nat} (hp : PosT l t i) : (insT l i ⟨t, k⟩).Pairwise (fun x y => x.at_ < y.at_ ∨ x.at_ = y.at_ ∧ x.it < y.it) := by
  obtain ⟨h1, h2, h3⟩ := hp
  unfold insT
  rw [List.pairwise_append]
  have ht : ∀ x ∈ l.take i, x.at_ ≤ t := fun x hx => by
    obtain ⟨j, hj, rfl⟩ := List.getElem_of_mem hx
    have hj' : j < i ∧ j < l.length := by rw [List.length_take] at hj; omega
    have e1 : (l.take i)[j] = gtT l j := by rw [← gtT_eq hj, gtT_take hj'.1]
    rw [e1]
    have := ord_le h (i := j) (j := i - 1) (by omega) (by omega)
    have := h3 (by omega)
    omega
  have hd : ∀ x ∈ l.drop i, t < x.at_ := fun x hx => by
    obtain ⟨j, hj, rfl⟩ := List.getElem_of_mem hx
    have hj' : j < l.length - i := by simpa using hj
    have e1 : (l.drop i)[j] = gtT l (i + j) := by rw [← gtT_eq hj, gtT_drop]
    rw [e1]
    exact h2 (i + j) (by omega) (by omega)
  refine ⟨h.sublist (List.take_sublist _ _), ?_, fun x hx y hy => ?_⟩
  · rw [List.pairwise_cons]
    exact ⟨fun y hy => Or.inl (hd y hy), h.sublist (List.drop_sublist _ _)⟩
  · rcases List.mem_cons.1 hy with rfl | hy
    · have a := ht x hx
      have b := hk x (List.mem_of_mem_take hx)
      show x.at_ < t ∨ x.at_ = t ∧ x.it < k
      omega
    · have a := ht x hx
      have b := hd y hy
      exact Or.inl (by omega)
theorem armE_ok {s : Cs} {t : Int} (h : armE s t = 0) : (0 ≤ t ∧ t ≤ 4611686018427387904) ∧ s.now ≤ t ∧ s.T.length < 65536 := by
  unfold armE at h
  split at h
  · omega
  · rename_i h1
    have h1' : isT t = true := by simpa using h1
    split at h
    · omega
    · split at h
      · omega
      · exact ⟨of_decide_eq_true h1', by omega, by omega⟩
theorem Ok.arm {s : Cs} (h : Ok s) (t : Int) : Ok (armS s t) := by
  unfold armS
  split
  · rename_i e
    obtain ⟨h1, h2, h3⟩ := armE_ok e
    have hp := posT_pos s.T t
    refine ⟨h.n0, h.n1, by have := h.l0; show 0 ≤ s.last + 1; omega, ?_, by show ((insT _ _ _).length : Int) ≤ s.last + 1; rw [insT_len _ hp.1]; have := h.ll; omega, fun x hx => ?_, fun x hx => ?_, fun x hx => ?_, fun x hx => ?_, ?_⟩
    · show (insT _ _ _).length ≤ _
      rw [insT_len _ hp.1]; omega
    · rcases insT_mem hx with e | rfl
      · exact h.at0 x e
      · exact h2
    · rcases insT_mem hx with e | rfl
      · exact h.at1 x e
      · exact h1.2
    · rcases insT_mem hx with e | rfl
      · exact h.it0 x e
      · have := h.l0; show 1 ≤ s.last + 1; omega
    · rcases insT_mem hx with e | rfl
      · have := h.it1 x e; show _ ≤ s.last + 1; omega
      · exact Int.le_refl _
    · exact ins_ord h.ord (fun x hx => by have := h.it1 x hx; omega) hp
  · exact h
theorem Ok.stop {s : Cs} (h : Ok s) (k : Int) : Ok (stopS s k) := by
  have hm : ∀ x ∈ outT s.T k, x ∈ s.T := fun x hx => (List.mem_filter.1 hx).1
  exact ⟨h.n0, h.n1, h.l0, Nat.le_trans (List.length_filter_le _ _) h.len, by have := h.ll; have := List.length_filter_le (fun x : Tm => x.it != k) s.T; show ((outT s.T k).length : Int) ≤ s.last; unfold outT; omega, fun x hx => h.at0 x (hm x hx), fun x hx => h.at1 x (hm x hx), fun x hx => h.it0 x (hm x hx), fun x hx => h.it1 x (hm x hx), h.ord.sublist List.filter_sublist⟩
theorem Ok.go {s : Cs} (h : Ok s) {to : Int} (h0 : s.now ≤ to) (h1 : to ≤ 4611686018427387904) : Ok (goS s to) := by
  have hm : ∀ x ∈ s.T.drop (dueT s.T to), x ∈ s.T := fun x hx => List.mem_of_mem_drop hx
  refine ⟨by have := h.n0; show 0 ≤ to; omega, h1, h.l0, ?_, by show ((s.T.drop _).length : Int) ≤ s.last; rw [List.length_drop]; have := h.ll; omega, fun x hx => ?_, fun x hx => h.at1 x (hm x hx), fun x hx => h.it0 x (hm x hx), fun x hx => h.it1 x (hm x hx), h.ord.sublist (List.drop_sublist _ _)⟩
  · show (s.T.drop _).length ≤ _
    rw [List.length_drop]; have := h.len; omega
  · obtain ⟨j, hj, rfl⟩ := List.getElem_of_mem hx
    have hj' : j < s.T.length - dueT s.T to := by simpa [goS] using hj
    have e1 : (s.T.drop (dueT s.T to))[j]'(by simpa using hj') = gtT s.T (dueT s.T to + j) := by rw [← gtT_eq, gtT_drop]
    show to ≤ ((s.T.drop (dueT s.T to))[j]'(by simpa using hj')).at_
    rw [e1]
    have a := dueT_stop (l := s.T) (now := to) (by omega)
    have b := ord_le h.ord (i := dueT s.T to) (j := dueT s.T to + j) (by omega) (by omega)
    omega
theorem Ok.adv {s : Cs} (h : Ok s) (d : Int) : Ok (advS s d) := by
  unfold advS
  split
  · rename_i e
    unfold advE at e
    split at e
    · omega
    · split at e
      · omega
      · have := h.n0
        exact h.go (by omega) (by omega)
  · exact h
theorem Ok.leap {s : Cs} (h : Ok s) : Ok (leapS s) := by
  unfold leapS
  split
  · exact h
  · rename_i x l e
    have hx : x ∈ s.T := by rw [e]; exact List.mem_cons_self
    exact h.go (h.at0 x hx) (h.at1 x hx)
theorem Ok.in_ {s : Cs} (h : Ok s) (d : Int) : Ok (inS s d) := by
  unfold inS
  split
  · exact h
  · exact h.arm _
theorem Ok.start : Ok ⟨0, 0, []⟩ := ⟨Int.le_refl _, by decide, Int.le_refl _, by simp, by simp, fun x hx => by simp at hx, fun x hx => by simp at hx, fun x hx => by simp at hx, fun x hx => by simp at hx, List.Pairwise.nil⟩
theorem armS_last {s : Cs} (t : Int) : s.last ≤ (armS s t).last ∧ (armS s t).last ≤ s.last + 1 := by
  unfold armS
  split
  · exact ⟨by show s.last ≤ s.last + 1; omega, by show s.last + 1 ≤ _; omega⟩
  · exact ⟨Int.le_refl _, by omega⟩
end Go.Proofs.YtcbckehdlbbbbaaDoor.Cl
/- A clock in memory; the contracts of New, Now, Arm, In, Stop, Left, Next. -/
namespace Go.Proofs.YtcbckehdlbbbbaaDoor.Cl
open Go.RowKit Go.Maps Go.ChangeMaps
set_option linter.unusedVariables false
def tmOf (x : Slot) : Tm := ⟨x.at_, x.item⟩
def tms (S : List Slot) : List Tm := S.map tmOf
theorem tms_len (S : List Slot) : (tms S).length = S.length := by simp [tms]
theorem gtT_tms {S : List Slot} {n : Nat} (h : n < S.length) : gtT (tms S) n = tmOf (gt S n) := by
  rw [gtT_eq (by rw [tms_len]; exact h), gt_eq h]
  simp [tms]
theorem tms_ins (S : List Slot) (i : Nat) (t p k : Int) : tms (ins S i ⟨t, p, k⟩) = insT (tms S) i ⟨t, k⟩ := by
  unfold tms ins insT
  simp [tmOf, List.map_take, List.map_drop]
theorem pos_tms {S : List Slot} {t : Int} {i : Nat} (h : PosT (tms S) t i) : Pos S t i := by
  obtain ⟨h1, h2, h3⟩ := h
  rw [tms_len] at h1 h2
  refine ⟨h1, fun j hj hij => ?_, fun h0 => ?_⟩
  · have := h2 j hj hij
    rw [gtT_tms hj] at this
    exact this
  · have := h3 h0
    rw [gtT_tms (by omega)] at this
    exact this
theorem mem_tms {S : List Slot} {x : Slot} (h : x ∈ S) : tmOf x ∈ tms S := List.mem_map_of_mem h
theorem tms_find (S : List Slot) (k : Int) : fndT (tms S) k = match idx S k with
    | some a => some (tmOf (gt S a))
    | none => none := by
  unfold fndT tms
  cases e : idx S k with
  | none =>
    rw [List.find?_eq_none]
    intro x hx
    obtain ⟨y, hy, rfl⟩ := List.mem_map.1 hx
    have := idx_none.1 e y hy
    simpa [tmOf] using this
  | some a =>
    obtain ⟨h1, h2⟩ := idx_some e
    unfold idx at e
    rw [List.findIdx?_eq_some_iff_getElem] at e
    obtain ⟨h3, h4, h5⟩ := e
    rw [List.find?_eq_some_iff_getElem]
    refine ⟨by simpa [tmOf] using h2, a, by simpa using h1, by simp [gt_eq h1], fun j hj => ?_⟩
    have := h5 j hj
    simpa [tmOf] using this
theorem tms_out {S : List Slot} (hd : Nd S) {k : Int} {a : Nat} (h : idx S k = some a) : outT (tms S) k = tms (S.eraseIdx a) := by
  obtain ⟨h1, h2⟩ := idx_some h
  have e1 : tms S = tms (S.take a) ++ tmOf S[a] :: tms (S.drop (a + 1)) := by
    unfold tms
    rw [← List.map_cons, ← List.map_append, ← List.drop_eq_getElem_cons h1, List.take_append_drop]
  have ne : ∀ j, j < S.length → j ≠ a → (gt S j).item ≠ k := fun j hj hn e => hn (nd_at hd hj h1 (by rw [e, h2]))
  have f1 : outT (tms (S.take a)) k = tms (S.take a) := by
    unfold outT
    rw [List.filter_eq_self]
    intro x hx
    obtain ⟨y, hy, rfl⟩ := List.mem_map.1 hx
    obtain ⟨j, hj, rfl⟩ := List.getElem_of_mem hy
    have hj' : j < a ∧ j < S.length := by rw [List.length_take] at hj; omega
    have := ne j hj'.2 (by omega)
    rw [gt_eq hj'.2] at this
    simpa [tmOf] using this
  have f2 : outT (tms (S.drop (a + 1))) k = tms (S.drop (a + 1)) := by
    unfold outT
    rw [List.filter_eq_self]
    intro x hx
    obtain ⟨y, hy, rfl⟩ := List.mem_map.1 hx
    obtain ⟨j, hj, rfl⟩ := List.getElem_of_mem hy
    have hj' : j < S.length - (a + 1) := by simpa using hj
    have := ne (a + 1 + j) (by omega) (by omega)
    rw [gt_eq (by omega)] at this
    simpa [tmOf] using this
  have f3 : (tmOf S[a]).it = k := by rw [gt_eq h1] at h2; exact h2
  have f4 : outT (tms S) k = outT (tms (S.take a)) k ++ outT (tms (S.drop (a + 1))) k := by
    rw [e1]
    unfold outT
    rw [List.filter_append, List.filter_cons, if_neg (by simp [f3])]
  rw [f4, f1, f2, List.eraseIdx_eq_take_drop_succ]
  unfold tms
  rw [List.map_append]
theorem tms_out_none {S : List Slot} {k : Int} (h : idx S k = none) : outT (tms S) k = tms S := by
  unfold outT
  rw [List.filter_eq_self]
  intro x hx
  obtain ⟨y, hy, rfl⟩ := List.mem_map.1 hx
  have := idx_none.1 h y hy
  simpa [tmOf] using this
theorem tms_has (S : List Slot) (k : Int) : hasT (tms S) k = (idx S k).isSome := by
  cases e : idx S k with
  | none =>
    unfold hasT
    rw [List.any_eq_false.2]
    · rfl
    · intro x hx
      obtain ⟨y, hy, rfl⟩ := List.mem_map.1 hx
      have := idx_none.1 e y hy
      simpa [tmOf] using this
  | some a =>
    obtain ⟨h1, h2⟩ := idx_some e
    unfold hasT
    rw [List.any_eq_true.2]
    · rfl
    · exact ⟨tmOf (gt S a), mem_tms (gt_mem h1), by simpa [tmOf] using h2⟩

def PC (c : Nat) : Value := .pointer (some ⟨c, 0, none⟩)
def CC (w : World) (c q : Nat) (now last : Int) : Prop := w.heap[c]? = some (.cells #[.int .i64 now, .int .i64 last, .pointer (some ⟨q, 0, none⟩)] 89 (0, 0))
section
variable {w w' : World} {c q : Nat} {now last : Int}
theorem CC.c0 (h : CC w c q now last) : w.cell? ⟨c, 0, none⟩ = some (.int .i64 now) := by unfold CC at h; simp [World.cell?, h]
theorem CC.c1 (h : CC w c q now last) : w.cell? ⟨c, 1, none⟩ = some (.int .i64 last) := by unfold CC at h; simp [World.cell?, h]
theorem CC.c2 (h : CC w c q now last) : w.cell? ⟨c, 2, none⟩ = some (.pointer (some ⟨q, 0, none⟩)) := by unfold CC at h; simp [World.cell?, h]
theorem CC.fr (h : CC w c q now last) (i : Nat) : w.frozen? ⟨c, i, none⟩ = false := by unfold CC at h; simp [World.frozen?, h]
theorem CC.set0 (h : CC w c q now last) (x : Int) : CC (w.setCell ⟨c, 0, none⟩ (.int .i64 x)) c q x last := Joins.block_setCell h _
theorem CC.set1 (h : CC w c q now last) (x : Int) : CC (w.setCell ⟨c, 1, none⟩ (.int .i64 x)) c q now x := Joins.block_setCell h _
theorem CC.keep {F : List Nat} (h : CC w c q now last) (ht : Touch F w w') (hn : ¬ c ∈ F) : CC w' c q now last := ht.keep h hn
end
structure CkS (w : World) (c q : Nat) (G : List Nat) (p : Int) (S : List Slot) (s : Cs) : Prop where
  cc : CC w c q s.now s.last
  tq : Tq w q G p S
  ap : ¬ c ∈ G
  pl : p ≤ s.last
  eq : s.T = tms S
  ok : Ok s
/-- A clock at block c, its blocks F, that stands as s. -/
def Ck (w : World) (c : Nat) (F : List Nat) (s : Cs) : Prop := ∃ q G p S, F = c :: G ∧ CkS w c q G p S s
theorem Ck.ok {w : World} {c : Nat} {F : List Nat} {s : Cs} (h : Ck w c F s) : Ok s := by
  obtain ⟨q, G, p, S, rfl, k⟩ := h
  exact k.ok
theorem Ck.keep {H : List Nat} {w w' : World} {c : Nat} {F : List Nat} {s : Cs} (h : Ck w c F s) (ht : Touch H w w') (hn : ∀ k, k ∈ F → ¬ k ∈ H) : Ck w' c F s := by
  obtain ⟨q, G, p, S, rfl, k⟩ := h
  exact ⟨q, G, p, S, rfl, k.cc.keep ht (hn c List.mem_cons_self), k.tq.keep ht (fun i hi => hn i (List.mem_cons_of_mem _ hi)), k.ap, k.pl, k.eq, k.ok⟩
theorem Ck.keep0 {w w' : World} {c : Nat} {F : List Nat} {s : Cs} (h : Ck w c F s) (ht : Touch [] w w') : Ck w' c F s := h.keep ht (fun _ _ e => by cases e)
theorem Ck.lt {w : World} {c : Nat} {F : List Nat} {s : Cs} (h : Ck w c F s) : ∀ k, k ∈ F → k < w.heap.size := by
  obtain ⟨q, G, p, S, rfl, k⟩ := h
  intro i hi
  rcases List.mem_cons.1 hi with rfl | hi
  · exact block_lt k.cc
  · exact k.tq.lt i hi
theorem CkS.nd {w : World} {c q : Nat} {G : List Nat} {p : Int} {S : List Slot} {s : Cs} (k : CkS w c q G p S s) : idx S (s.last + 1) = none := by
  rw [idx_none]
  intro x hx
  have := k.ok.it1 (tmOf x) (by rw [k.eq]; exact mem_tms hx)
  simp only [tmOf] at this
  omega
theorem Tq.p0 {w : World} {q : Nat} {F : List Nat} {p : Int} {S : List Slot} (h : Tq w q F p S) : 0 ≤ p := by
  obtain ⟨sl, m, _, t⟩ := h
  exact t.p0
theorem CkS.w64 {w : World} {c q : Nat} {G : List Nat} {p : Int} {S : List Slot} {s : Cs} (k : CkS w c q G p S s) : S.length = s.T.length := by rw [k.eq, tms_len]
/-- What a call leaves behind. -/
def Nx (w w' : World) (c : Nat) (F : List Nat) (s : Cs) : Prop := ∃ F', Ck w' c F' s ∧ Touch F w w' ∧ Nf w F F'
theorem now14 (w : World) (c : Nat) (F : List Nat) (s : Cs) (h : Ck w c F s) : Calls Tryd.prog 24 #[PC c] w fun e w' => e = .returned (.int .i64 s.now) ∧ w' = w := by
  obtain ⟨q, G, p, S, rfl, k⟩ := h
  have c0 := k.cc.c0
  clear k
  generalize s.now = n at *
  unfold PC
  go_enter Tryd.func24, Tryd.ntmps24
  go_wp2
  go_ret
  exact ⟨rfl, rfl⟩
theorem after26 (t d : Int) (w : World) (h0 : 0 ≤ t) (h1 : t ≤ 4611686018427387904) (hd : 0 ≤ d) (hw : d ≤ 9223372036854775807) :
    Calls Tryd.prog 66 #[.int .i64 t, .int .i64 d] w fun e w' => e = .returned (.tuple #[.int .i64 (if 4611686018427387904 - t < d then 4611686018427387904 else t + d), .bool (decide (d ≤ 4611686018427387904 - t))]) ∧ w' = w := by
  have HI := hid (is37 t w)
  rw [isT_yes ⟨h0, h1⟩] at HI
  by_cases hb : 4611686018427387904 - t < d
  · have hn : ¬ d ≤ 4611686018427387904 - t := by omega
    rw [if_pos hb, decide_eq_false hn]
    go_enter Tryd.func66, Tryd.ntmps66
    go_wp2_with (go_at_call 77; refine HI.out.mono ?_; rintro e w2 ⟨rfl, rfl⟩)
    exact bodyPost_ret (v := .tuple #[.int .i64 4611686018427387904, .bool false]) (by simp [results, Tryd.results66, go_sem]) rfl ⟨rfl, rfl⟩
  · have hn : d ≤ 4611686018427387904 - t := by omega
    rw [if_neg hb, decide_eq_true hn]
    go_enter Tryd.func66, Tryd.ntmps66
    go_wp2_with (go_at_call 77; refine HI.out.mono ?_; rintro e w2 ⟨rfl, rfl⟩)
    exact bodyPost_ret (v := .tuple #[.int .i64 (t + d), .bool true]) (by simp [results, Tryd.results66, go_sem]) rfl ⟨rfl, rfl⟩
end Go.Proofs.YtcbckehdlbbbbaaDoor.Cl
/- The contracts of New, Arm, In, Stop, Left and Next of a clock. -/
namespace Go.Proofs.YtcbckehdlbbbbaaDoor.Cl
open Go.RowKit Go.Maps Go.ChangeMaps
set_option linter.unusedVariables false
theorem CkS.keep0 {w w' : World} {c q : Nat} {G : List Nat} {p : Int} {S : List Slot} {s : Cs} (k : CkS w c q G p S s) (ht : Touch [] w w') : CkS w' c q G p S s := ⟨k.cc.keep ht (fun e => by cases e), k.tq.keep0 ht, k.ap, k.pl, k.eq, k.ok⟩
theorem Nx.pre {w w1 w' : World} {c : Nat} {F : List Nat} {s : Cs} (ht : Touch [] w w1) (h : Nx w1 w' c F s) : Nx w w' c F s := by
  obtain ⟨F', h1, h2, h3⟩ := h
  refine ⟨F', h1, (ht.mono (fun _ e => by cases e)).trans' h2, fun i hi => ?_⟩
  rcases h3 i hi with e | e
  · exact Or.inl e
  · exact Or.inr (Nat.le_trans ht.size e)
theorem Nx.post {w w1 w' : World} {c : Nat} {F : List Nat} {s : Cs} (h : Nx w w1 c F s) (ht : Touch [] w1 w') : Nx w w' c F s := by
  obtain ⟨F', h1, h2, h3⟩ := h
  exact ⟨F', h1.keep0 ht, h2.trans' (ht.mono (fun _ e => by cases e)), h3⟩
theorem Nx.same {w w' : World} {c : Nat} {F : List Nat} {s : Cs} (h : Ck w c F s) (ht : Touch [] w w') : Nx w w' c F s := ⟨F, h.keep0 ht, ht.mono (fun _ e => by cases e), Nf.refl _ _⟩
theorem newTimes21 (w : World) : Calls Tryd.prog 28 #[] w fun e w' => e = .returned (.pointer (some ⟨w.heap.size, 0, none⟩)) ∧ Tq w' w.heap.size [w.heap.size] 0 [] ∧ Touch [] w w' := by
  go_enter Tryd.func28, Tryd.ntmps28
  go_wp2
  go_ret
  refine ⟨rfl, ⟨.slice none 0 0, none, rfl, ⟨[], ⟨heap_alloc_new w _, World.ownsRow_nil _ _ _ _, Or.inl ⟨rfl, rfl⟩, List.nodup_nil, fun x hx => by simp at hx, by simp⟩, fun k _ h => by simp at h, List.Perm.refl _⟩, List.Pairwise.nil, fun x hx => by simp at hx, by decide, fun x hx => by simp at hx⟩, (Touch.refl _ _).alloc _⟩
def NwQ (e : Ending) (w w' : World) (s : Cs) : Prop := ∃ c F, e = .returned (.pointer (some ⟨c, 0, none⟩)) ∧ Ck w' c F s ∧ Touch [] w w' ∧ ∀ k, k ∈ F → w.heap.size ≤ k
theorem new7 (w : World) : Calls Tryd.prog 9 #[] w fun e w' => NwQ e w w' ⟨0, 0, []⟩ := by
  have HN := hid (newTimes21 w)
  go_enter Tryd.func9, Tryd.ntmps9
  go_wp2_with (go_at_call 28; refine HN.out.mono ?_; rintro e w1 ⟨rfl, hq, ht⟩; have Q := hid (And.intro hq ht); clear hq ht)
  go_ret
  have hlt := Q.out.1.lt w.heap.size (by simp)
  refine ⟨w1.heap.size, [w1.heap.size, w.heap.size], rfl, ⟨_, [w.heap.size], 0, [], rfl, heap_alloc_new _ _, Q.out.1.keep0 ((Touch.refl _ _).alloc _), by simp; omega, Int.le_refl _, rfl, Ok.start⟩, Q.out.2.alloc _, fun k hk => ?_⟩
  simp at hk
  omega
section
variable (w : World) (c : Nat) (F : List Nat) (s : Cs) (t : Int)
theorem arm10_tick (h : Ck w c F s) (ht : isT t = false) : Calls Tryd.prog 67 #[PC c, .int .i64 t] w fun e w' => e = .returned (.tuple #[.int .i64 0, .int .i64 10]) ∧ w' = w := by
  have HI := hid (is37 t w)
  rw [ht] at HI
  clear ht h
  unfold PC
  go_enter Tryd.func67, Tryd.ntmps67
  go_wp2_with (go_at_call 77; refine HI.out.mono ?_; rintro e w2 ⟨rfl, rfl⟩)
  exact bodyPost_ret (v := .tuple #[.int .i64 0, .int .i64 10]) (by simp [results, Tryd.results67, go_sem]) rfl ⟨rfl, rfl⟩
theorem arm10_past (h : Ck w c F s) (ht : isT t = true) (hn : t < s.now) : Calls Tryd.prog 67 #[PC c, .int .i64 t] w fun e w' => e = .returned (.tuple #[.int .i64 0, .int .i64 50]) ∧ w' = w := by
  have HI := hid (is37 t w)
  rw [ht] at HI
  obtain ⟨q, G, p, S, rfl, k⟩ := h
  have c0 := k.cc.c0
  clear ht k
  generalize s.now = n at *
  unfold PC
  go_enter Tryd.func67, Tryd.ntmps67
  go_wp2_with (go_at_call 77; refine HI.out.mono ?_; rintro e w2 ⟨rfl, rfl⟩)
  exact bodyPost_ret (v := .tuple #[.int .i64 0, .int .i64 50]) (by simp [results, Tryd.results67, go_sem]) rfl ⟨rfl, rfl⟩
theorem arm10_many (h : Ck w c F s) (ht : isT t = true) (hn : s.now ≤ t) (hm : 65536 ≤ s.T.length) : Calls Tryd.prog 67 #[PC c, .int .i64 t] w fun e w' => e = .returned (.tuple #[.int .i64 0, .int .i64 3]) ∧ w' = w := by
  have HI := hid (is37 t w)
  rw [ht] at HI
  obtain ⟨q, G, p, S, rfl, k⟩ := h
  have c0 := k.cc.c0
  have c2 := k.cc.c2
  have HL := hid (len26 w q G p S k.tq)
  have zl : (65536 : Int) ≤ (S.length : Int) := by rw [k.w64]; omega
  clear ht k hm
  generalize s.now = n at *
  generalize (S.length : Int) = N at *
  unfold PC
  unfold PT at HL
  go_enter Tryd.func67, Tryd.ntmps67
  go_wp2_with (first | (go_at_call 77; refine HI.out.mono ?_; rintro e w2 ⟨rfl, rfl⟩) | (go_at_call 72; refine HL.out.mono ?_; rintro e w2 ⟨rfl, rfl⟩))
  exact bodyPost_ret (v := .tuple #[.int .i64 0, .int .i64 3]) (by simp [results, Tryd.results67, go_sem]) rfl ⟨rfl, rfl⟩
theorem arm_end {w w1 : World} {c q : Nat} {G F' : List Nat} {p : Int} {S : List Slot} {s : Cs} {t : Int} (k : CkS w c q G p S s) (he : armE s t = 0)
    (h1 : Tq w1 q F' (p + 1) (ins S (pos s.T t) ⟨t, p, s.last + 1⟩)) (h2 : Touch G w w1) (h3 : Nf w G F') : CC w1 c q s.now s.last ∧ Nx w (w1.setCell ⟨c, 1, none⟩ (.int .i64 (s.last + 1))) c (c :: G) (armS s t) := by
  have hc := k.cc.keep h2 k.ap
  have hcF : ¬ c ∈ F' := fun e => by
    rcases h3 c e with e' | e'
    · exact k.ap e'
    · have := block_lt k.cc; omega
  have T1 : Touch [c] w1 (w1.setCell ⟨c, 1, none⟩ (.int .i64 (s.last + 1))) := (Touch.refl _ _).setCell (Or.inl (by simp)) _
  refine ⟨hc, c :: F', ⟨q, F', p + 1, ins S (pos s.T t) ⟨t, p, s.last + 1⟩, rfl, ?_, h1.keep T1 (fun i hi e => hcF (by rw [List.mem_singleton] at e; rw [← e]; exact hi)), hcF, ?_, ?_, k.ok.arm t⟩, ?_, fun i hi => ?_⟩
  · unfold armS
    rw [if_pos he]
    exact hc.set1 _
  · unfold armS
    rw [if_pos he]
    have := k.pl
    show p + 1 ≤ s.last + 1
    omega
  · unfold armS
    rw [if_pos he, tms_ins, ← k.eq]
  · exact (h2.mono (G := c :: G) (fun i hi => List.mem_cons_of_mem _ hi)).setCell (p := ⟨c, 1, none⟩) (Or.inl List.mem_cons_self) _
  · rcases List.mem_cons.1 hi with rfl | hi
    · exact Or.inl List.mem_cons_self
    · rcases h3 i hi with e | e
      · exact Or.inl (List.mem_cons_of_mem _ e)
      · exact Or.inr e
set_option maxHeartbeats 2000000 in
theorem arm10_ok (h : Ck w c F s) (he : armE s t = 0) (hl : s.last < 4611686018427387904) : Calls Tryd.prog 67 #[PC c, .int .i64 t] w fun e w' => e = .returned (.tuple #[.int .i64 (s.last + 1), .int .i64 0]) ∧ Nx w w' c F (armS s t) := by
  obtain ⟨q, G, p, S, rfl, k⟩ := h
  obtain ⟨h1, h2, h3⟩ := armE_ok he
  have HI := hid (is37 t w)
  rw [isT_yes h1] at HI
  have c0 := k.cc.c0
  have c1 := k.cc.c1
  have c2 := k.cc.c2
  have HL := hid (len26 w q G p S k.tq)
  have zl : (S.length : Int) < 65536 := by rw [k.w64]; omega
  have l0 := k.ok.l0
  have HP : Hid (∀ w1, Touch [] w w1 → Calls Tryd.prog 78 #[.pointer (some ⟨q, 0, none⟩), .int .i64 t, .int .i64 (s.last + 1)] w1 fun e w' => e = .returned (.int .i64 0) ∧ (w'.cell? ⟨c, 1, none⟩ = some (.int .i64 s.last) ∧ w'.cell? ⟨c, 2, none⟩ = some (.pointer (some ⟨q, 0, none⟩)) ∧ w'.frozen? ⟨c, 1, none⟩ = false) ∧ Nx w (w'.setCell ⟨c, 1, none⟩ (.int .i64 (s.last + 1))) c (c :: G) (armS s t)) := fun w1 t1 => by
    refine (put24_ok w1 q G p S t (s.last + 1) (pos s.T t) (W64.mk (by omega) (by omega)) (k.tq.keep0 t1) (isT_yes h1) k.nd (by rw [k.w64]; exact h3) (pos_tms (by rw [← k.eq]; exact posT_pos _ _)) (by have := k.pl; omega)).mono ?_
    rintro e w2 ⟨he1, F', r1, r2, r3⟩
    obtain ⟨r4, r5⟩ := arm_end (k.keep0 t1) he r1 r2 r3
    exact ⟨he1, ⟨r4.c1, r4.c2, r4.fr 1⟩, r5.pre t1⟩
  clear k he h3
  generalize armS s t = s' at *
  generalize s.now = n at *
  generalize s.last = l at *
  generalize (S.length : Int) = N at *
  have hw : IntKind.i64.wrap (l + 1) = l + 1 := by simp [IntKind.wrap, IntKind.bits, IntKind.signed]; omega
  have HB := hid (And.intro hl l0)
  clear h1 hl l0
  unfold PC
  unfold PT at HL
  go_enter Tryd.func67, Tryd.ntmps67
  go_wp2_with (first | (go_at_call 77; refine HI.out.mono ?_; rintro e w2 ⟨rfl, rfl⟩) | (go_at_call 72; refine HL.out.mono ?_; rintro e w2 ⟨rfl, rfl⟩))
  go_region_held3 (fun w' => w'.cell? ⟨c, 2, none⟩ = some (.pointer (some ⟨q, 0, none⟩)) ∧ w'.cell? ⟨c, 1, none⟩ = some (.int .i64 l)) (first | assumption | go_keep)
    (first | (go_at_call 78; refine (HP.out _ (Touch.refl _ _).drew).mono ?_; rintro e w1 ⟨rfl, ⟨y1, y2, yf⟩, r⟩; have R := hid r; clear r))
  go_wp2
  exact bodyPost_ret (v := .tuple #[.int .i64 (l + 1), .int .i64 0]) (by simp [results, Tryd.results67, go_sem]) rfl ⟨rfl, R.out⟩
end
end Go.Proofs.YtcbckehdlbbbbaaDoor.Cl
