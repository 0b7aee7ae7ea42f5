/- The contract of the document's Waiting. -/
import Derived.Test.YtmbjjkdocmcpdaaWrd
namespace Go.Proofs.Ytmbjjkdocmcpdaa
open Go.RowKit Go.Maps Go.ChangeMaps
set_option linter.unusedVariables false
theorem own_base {w : World} {B B' e k n : Nat} {v : Value} {xs : List Value} (h : w.ownsRow B e k v n xs) (hb : B' ≤ B) : w.ownsRow B' e k v n xs := by
  obtain ⟨h1, h2 | ⟨g', c', cur, e', hg, r⟩⟩ := h
  · exact ⟨h1, Or.inl h2⟩
  · exact ⟨h1, Or.inr ⟨g', c', cur, e', Nat.le_trans hb hg, r⟩⟩
/-- Who waits at a gate, by the document's list. -/
def wOf (ps : List (Int × Int)) (n : Int) : List Int := (ps.filter (fun p => p.2 == n)).map (·.1)
theorem wOf_snoc (ps : List (Int × Int)) (p : Int × Int) (n : Int) : wOf (ps ++ [p]) n = if p.2 = n then wOf ps n ++ [p.1] else wOf ps n := by
  unfold wOf
  rw [List.filter_append, List.map_append]
  by_cases h : p.2 = n
  · simp [h]
  · simp [h]
theorem wOf_len (ps : List (Int × Int)) (n : Int) : (wOf ps n).length ≤ ps.length := by
  unfold wOf
  rw [List.length_map]
  exact List.length_filter_le _ _
section
variable {w : World} {c : Array Value} {op : Nat → Bool} {ps : List (Int × Int)} {A B : Value}
set_option maxHeartbeats 4000000 in
set_option maxRecDepth 100000 in
theorem waiting14 (h : Ds w c op ps A B) (n : Int) (hl : ps.length ≤ 4398046511104) : Calls Try.prog 14 #[.agg c, .int .i64 n] w fun e w' => WtE e w w' (wOf ps n) := by
  obtain ⟨i3, hi3, hz0, hz1, hz2⟩ := info_parts info3
  obtain ⟨W1, hW1⟩ : ∃ W1, W1 = (w.alloc (.cells c 29)).alloc (.cells #[] 3) := ⟨_, rfl⟩
  have t1 : Touch [] w W1 := by rw [hW1]; exact ((Touch.refl _ _).alloc _).alloc _
  have b1 : W1.heap[w.heap.size]? = some (.cells c 29 (0, 0)) := by
    rw [hW1, Below.heap_alloc _ _ _ (by simp)]
    exact heap_alloc_new w _
  have hz1' : W1.heap.size = w.heap.size + 2 := by rw [hW1]; simp
  have o1 : W1.ownsRow (w.heap.size + 1) 3 1 (.slice (some ⟨w.heap.size + 1, 0, none⟩) 0 0) 0 (ints (wOf (ps.take 0) n)) := by
    have := World.ownsRow_made (e := 3) (size := 1) (base := w.heap.size + 1) (w.alloc (.cells c 29)) #[] 0 (by simp) (by unfold maxLen; omega) rfl
    rw [hW1]
    simpa [wOf, ints] using this
  obtain ⟨hcA, hcB, _⟩ := h.cells
  have HC : Hid (∀ W, Touch [w.heap.size + 1] W1 W → W.cell? ⟨w.heap.size, 256, none⟩ = some A ∧ W.cell? ⟨w.heap.size, 257, none⟩ = some B) := fun W T => ⟨cell_at (T.keep b1 (by simp)) hcA, cell_at (T.keep b1 (by simp)) hcB⟩
  have HZ : Hid (∀ W, Touch [w.heap.size + 1] W1 W → Touch [] w W) := fun W T => t1.trans T (fun i hi => Or.inr (by simp only [List.mem_singleton] at hi; omega))
  obtain ⟨a, ca, rfl, _, _⟩ := h.who.form
  obtain ⟨b, cb, rfl, _, _⟩ := h.at_.form
  simp only [List.length_map] at *
  have HR : Hid (∀ W, Touch [w.heap.size + 1] W1 W → ∀ k (hk : k < ps.length), ∃ ba bb, a = some ⟨ba, 0, none⟩ ∧ b = some ⟨bb, 0, none⟩ ∧ W.cell? ⟨ba, k, none⟩ = some (.int .i64 ps[k].1) ∧ W.cell? ⟨bb, k, none⟩ = some (.int .i64 ps[k].2)) := fun W T k hk => by
    obtain ⟨ba, ea, h1⟩ := (h.who.keep0 (HZ.out W T)).cell (i := k) (by simpa using hk)
    obtain ⟨bb, eb, h2⟩ := (h.at_.keep0 (HZ.out W T)).cell (i := k) (by simpa using hk)
    exact ⟨ba, bb, ea, eb, by simpa using h1, by simpa using h2⟩
  have O1 := hid o1
  have HT := hid t1
  have HW := hid hW1
  clear h t1 b1 hW1 o1 hcA hcB
  have zl : (ps.length : Int) ≤ 4398046511104 := by omega
  go_enter Try.func14, Try.ntmps14
  go_upto_region 2 with fail
  rw [← HW.out]
  clear HW
  have HE : Hid (∀ W v, W.ownsRow (w.heap.size + 1) 3 1 v (wOf ps n).length (ints (wOf ps n)) → Touch [w.heap.size + 1] W1 W → WtE (.returned v) w W (wOf ps n)) := fun W v o T => ⟨v, rfl, own_base o (by omega), HZ.out W T⟩
  clear HT HZ
  generalize hAD : w.heap.size + 1 = AD at *
  have HB : Hid (∀ j, AD ≤ j → j ∈ [AD] ∨ W1.heap.size ≤ j) := fun j hj => by
    by_cases e : j = AD
    · exact Or.inl (by simp [e])
    · exact Or.inr (by omega)
  have HZ1 : Hid (AD ≤ W1.heap.size) := by show _ ≤ _; omega
  clear hAD hz1'
  go_wp2
  go_loopw [5, 6] (fun v i wr => ∃ a2, ∃ k m c2 : Nat, v = .slice a2 m c2 ∧ i = .int .i64 (k : Int) ∧ k ≤ ps.length ∧ m ≤ k ∧ Hid (m = (wOf (ps.take k) n).length ∧ wr.ownsRow AD 3 1 (.slice a2 m c2) m (ints (wOf (ps.take k) n)) ∧ Touch [AD] W1 wr)) (fun _ i _ => ps.length - (intOf i).toNat)
  case atStart => exact ⟨_, 0, 0, 0, rfl, rfl, Nat.zero_le _, Nat.le_refl _, by simp [wOf], O1.out, Touch.refl _ _⟩
  case round =>
    obtain ⟨a2, k, m, c2, rfl, rfl, hk, hmk, HQ⟩ := hrel
    obtain ⟨cA, cB⟩ := HC.out wr HQ.out.2.2
    by_cases hlt : k < ps.length
    · have zk : (k : Int) < (ps.length : Int) := by omega
      obtain ⟨ba, bb, rfl, rfl, y1, y2⟩ := HR.out wr HQ.out.2.2 k hlt
      have hsn := wOf_snoc (ps.take k) ps[k] n
      rw [← List.take_succ_eq_append_getElem hlt] at hsn
      have hbr := HQ.out.2.2.size
      by_cases e : ps[k].2 = n
      · have ze : (ps[k].2 == n) = true := by simp [e]
        rw [if_pos e] at hsn
        have HS := hid hsn
        have zm : m < 4398046511104 := by omega
        have zB : AD ≤ wr.heap.size := Nat.le_trans HZ1.out hbr
        clear hsn e
        generalize ps[k].1 = yw at *
        generalize ps[k].2 = yn at *
        clear HR HE O1 HC
        go_wp2_with (at_builtin; refine wpList_append_lies _ rfl _ _ 27 rfl AD 3 i3 (.int .i64 0) 1 8 Try.underlying27 hi3 hz0 hz1 hz2 rfl (by decide) (.slice a2 m c2) m (ints (wOf (ps.take k) n)) rfl (HQ.out.2.1.alloc _) ⟨wr.heap.size, 0, none⟩ 1 1 [.int .i64 yw] rfl rfl (cell_one_new _ _ _) (by simp [Value.oneCell']) (by decide) (by unfold maxLen; omega) (by omega) (by simp; omega) _ rfl ?_; intro b5 c5 w5 ow5 gr5 hb5 hlt5; have E5 : Hid (w5.ownsRow AD 3 1 (.slice (some ⟨b5, 0, none⟩) (m + 1) c5) (m + 1) (ints (wOf (ps.take k) n) ++ [.int .i64 yw]) ∧ Touch [AD] W1 w5) := ⟨ow5, HQ.out.2.2.trans (((Touch.refl _ _).alloc _).grown gr5 (fun j hj => Or.inl (by rw [hj]; simp)) : Touch (Value.slice a2 m c2).ownBlock.toList wr w5) (fun j hj => HB.out j (HQ.out.2.1.lt j (by simpa using hj)).1)⟩; clear ow5 gr5 hb5 hlt5)
        go_roundw
        case rel => exact ⟨_, k + 1, m + 1, c5, rfl, by go_num, by omega, by omega, by rw [HS.out, List.length_append, HQ.out.1]; rfl, by rw [HS.out, ints_app]; exact E5.out.1, E5.out.2⟩
        case measure => simp [intOf]; omega
      · have ze : (ps[k].2 == n) = false := by simp [e]
        rw [if_neg e] at hsn
        have HS := hid hsn
        clear hsn e
        generalize ps[k].1 = yw at *
        generalize ps[k].2 = yn at *
        clear HR HE O1 HC
        go_wp2
        go_roundw
        case rel => exact ⟨_, k + 1, m, c2, rfl, by go_num, by omega, by omega, by rw [HS.out]; exact HQ.out⟩
        case measure => simp [intOf]; omega
    · have e : k = ps.length := by omega
      have H6 : Hid (WtE (.returned (.slice a2 m c2)) w wr (wOf ps n)) := by
        have h1 := HQ.out
        rw [e, List.take_length] at h1
        refine HE.out wr _ ?_ h1.2.2
        rw [← h1.1]
        exact h1.2.1
      clear HR HE O1 HC HQ
      subst e
      go_wp2
      go_ret
      exact H6.out
end
end Go.Proofs.Ytmbjjkdocmcpdaa
