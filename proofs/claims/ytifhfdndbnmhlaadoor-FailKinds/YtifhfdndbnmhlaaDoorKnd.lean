/- Lists of failures in memory, and the contract of counting their kinds; the condition is that the list is no longer than the form lets one be. -/
import Derived.Test.YtifhfdndbnmhlaaDoorAwk
namespace Go.Proofs.YtifhfdndbnmhlaaDoor
open Go.RowKit Go.Sort
set_option linter.unusedVariables false

abbrev F3 := Int × Int × Int
structure RowF (w : World) (b off : Nat) (xs : List F3) : Prop where
  lt : b < w.heap.size
  at0 : ∀ i (h : i < xs.length), w.cell? ⟨b, off + i * 3, none⟩ = some (.int .i64 xs[i].1)
  at1 : ∀ i (h : i < xs.length), w.cell? ⟨b, off + i * 3 + 1, none⟩ = some (.int .i64 xs[i].2.1)
  at2 : ∀ i (h : i < xs.length), w.cell? ⟨b, off + i * 3 + 2, none⟩ = some (.int .i64 xs[i].2.2)
theorem RowF.gr {w w' : World} {b off : Nat} {xs : List F3} (h : RowF w b off xs) (hg : Gr w w') : RowF w' b off xs :=
  ⟨Nat.lt_of_lt_of_le h.lt hg.size, fun i hi => hg.cell' (h.at0 i hi), fun i hi => hg.cell' (h.at1 i hi), fun i hi => hg.cell' (h.at2 i hi)⟩
def cnt (xs : List F3) (j : Int) : Nat := xs.countP fun x => x.1 == j
theorem cnt_le (xs : List F3) (j : Int) : cnt xs j ≤ xs.length := List.countP_le_length
theorem cnt_snoc (xs : List F3) (i : Nat) (h : i < xs.length) (j : Int) : cnt (xs.take (i + 1)) j = cnt (xs.take i) j + if xs[i].1 = j then 1 else 0 := by
  unfold cnt
  rw [List.take_succ_eq_append_getElem h, List.countP_append]
  by_cases e : xs[i].1 = j
  · simp [e]
  · simp [e]
/-- an array of six numbers -/
structure Six (w : World) (b : Nat) (xs : List F3) : Prop where
  c0 : w.cell? ⟨b, 0, none⟩ = some (.int .i64 (cnt xs 0))
  c1 : w.cell? ⟨b, 1, none⟩ = some (.int .i64 (cnt xs 1))
  c2 : w.cell? ⟨b, 2, none⟩ = some (.int .i64 (cnt xs 2))
  c3 : w.cell? ⟨b, 3, none⟩ = some (.int .i64 (cnt xs 3))
  c4 : w.cell? ⟨b, 4, none⟩ = some (.int .i64 (cnt xs 4))
  c5 : w.cell? ⟨b, 5, none⟩ = some (.int .i64 (cnt xs 5))
  z : ∀ i, w.frozen? ⟨b, i, none⟩ = false
theorem Six.gr {w w' : World} {b : Nat} {xs : List F3} (h : Six w b xs) (hg : Gr w w') : Six w' b xs := by
  have hl : b < w.heap.size := cell_lt h.c0
  exact ⟨hg.cell' h.c0, hg.cell' h.c1, hg.cell' h.c2, hg.cell' h.c3, hg.cell' h.c4, hg.cell' h.c5, fun i => by rw [hg.below.frozen (p := ⟨b, i, none⟩) hl]; exact h.z i⟩
theorem six_set (w : World) (b : Nat) (l l' : List F3) (m : Nat) (z : Nat) (h : Six w b l) (hz : cnt l' m = z) (ho : ∀ j : Int, j ≠ m → cnt l' j = cnt l j) : Six (w.setCell ⟨b, m, none⟩ (.int .i64 z)) b l' := by
  have key : ∀ i : Nat, w.cell? ⟨b, i, none⟩ = some (.int .i64 (cnt l i)) → (w.setCell ⟨b, m, none⟩ (.int .i64 z)).cell? ⟨b, i, none⟩ = some (.int .i64 (cnt l' i)) := fun i hi => by
    by_cases e : i = m
    · subst e
      rw [World.cell?_setCell_same _ _ _ hi, hz]
    · rw [World.cell?_setCell_other _ _ _ _ (fun e' => e (by cases e'; rfl)), hi, ho i (by omega)]
  exact ⟨key 0 h.c0, key 1 h.c1, key 2 h.c2, key 3 h.c3, key 4 h.c4, key 5 h.c5, fun i => by rw [World.frozen?_setCell]; exact h.z i⟩
theorem six_far (w : World) (b b' : Nat) (l : List F3) (m : Nat) (z : Value) (h : Six w b l) (hb : b ≠ b') : Six (w.setCell ⟨b', m, none⟩ z) b l := by
  have key : ∀ (i : Nat) (v : Value), w.cell? ⟨b, i, none⟩ = some v → (w.setCell ⟨b', m, none⟩ z).cell? ⟨b, i, none⟩ = some v := fun i v hi => by
    rw [World.cell?_setCell_other _ _ _ _ (fun e' => hb (by cases e'; rfl)), hi]
  exact ⟨key 0 _ h.c0, key 1 _ h.c1, key 2 _ h.c2, key 3 _ h.c3, key 4 _ h.c4, key 5 _ h.c5, fun i => by rw [World.frozen?_setCell]; exact h.z i⟩
theorem six_new1 (w : World) : Six ((w.alloc (.cells #[.int .i64 0, .int .i64 0, .int .i64 0, .int .i64 0, .int .i64 0, .int .i64 0] 57)).alloc (.cells #[.int .i64 0, .int .i64 0, .int .i64 0, .int .i64 0, .int .i64 0, .int .i64 0] 57)) w.heap.size [] := by
  have G := (Gr.refl (w.alloc (.cells #[.int .i64 0, .int .i64 0, .int .i64 0, .int .i64 0, .int .i64 0, .int .i64 0] 57))).alloc (.cells #[.int .i64 0, .int .i64 0, .int .i64 0, .int .i64 0, .int .i64 0, .int .i64 0] 57)
  exact ⟨G.cell' (by simp [cnt]), G.cell' (by simp [cnt]), G.cell' (by simp [cnt]), G.cell' (by simp [cnt]), G.cell' (by simp [cnt]), G.cell' (by simp [cnt]), fun i => by rw [G.below.frozen (by simp)]; simp⟩
theorem six_new2 (w : World) : Six ((w.alloc (.cells #[.int .i64 0, .int .i64 0, .int .i64 0, .int .i64 0, .int .i64 0, .int .i64 0] 57)).alloc (.cells #[.int .i64 0, .int .i64 0, .int .i64 0, .int .i64 0, .int .i64 0, .int .i64 0] 57)) (w.heap.size + 1) [] :=
  ⟨by simp [cnt], by simp [cnt], by simp [cnt], by simp [cnt], by simp [cnt], by simp [cnt], fun i => by simp⟩
set_option maxRecDepth 20000 in
set_option maxHeartbeats 2000000 in
theorem kinds26_row (xs : List F3) (b off cap : Nat) (w : World) (hl : xs.length ≤ 140737488351232) (R : RowF w b off xs) :
    Calls Tryd.prog 26 #[.slice (some ⟨b, off, none⟩) xs.length cap] w fun e w' => e = .returned (.agg #[.int .i64 (cnt xs 0), .int .i64 (cnt xs 1), .int .i64 (cnt xs 2), .int .i64 (cnt xs 3), .int .i64 (cnt xs 4), .int .i64 (cnt xs 5)]) ∧ Gr w w' := by
  have HR : Hid _ := R
  clear R
  go_enter Tryd.func26, Tryd.ntmps26
  go_wp2
  go_loopw [8] (fun i wr => ∃ j : Nat, i = .int .i64 j ∧ j ≤ xs.length ∧ Hid (Six wr (w.heap.size + 1) (xs.take j)) ∧ Hid (Six wr w.heap.size []) ∧ Hid (Gr w wr)) (fun i _ => xs.length - (intOf i).toNat)
  case atStart => exact ⟨0, rfl, Nat.zero_le _, six_new2 w, six_new1 w, ((Gr.refl w).alloc _).alloc _⟩
  case round =>
    obtain ⟨j, rfl, hj, H1, H0, HG⟩ := hrel
    by_cases hlt : j < xs.length
    · have hz : (j : Int) < (xs.length : Int) := by omega
      have hz0 : (0 : Int) ≤ (j : Int) := by omega
      have f0 := (HR.out.gr HG.out).at0 j hlt
      have f1 := (HR.out.gr HG.out).at1 j hlt
      have f2 := (HR.out.gr HG.out).at2 j hlt
      have HS : Hid (∀ m, cnt (xs.take (j + 1)) m = cnt (xs.take j) m + if xs[j].1 = m then 1 else 0) := cnt_snoc xs j hlt
      have HLe : Hid (∀ m, cnt (xs.take j) m ≤ 140737488351232) := fun m => Nat.le_trans (cnt_le _ _) (by rw [List.length_take]; omega)
      generalize xs[j].1 = kk at *
      generalize xs[j].2.1 = cc at *
      generalize xs[j].2.2 = rr at *
      by_cases h0 : kk = 0
      · subst h0
        have HN : Hid (cnt (xs.take (j + 1)) (0 : Nat) = cnt (xs.take j) 0 + 1) := by show _ = _; have := HS.out 0; simpa using this
        have HM : Hid (∀ q : Int, q ≠ (0 : Nat) → cnt (xs.take (j + 1)) q = cnt (xs.take j) q) := fun q hq => by have := HS.out q; rw [if_neg (fun e => hq (by rw [← e]; rfl))] at this; exact this
        have hw : IntKind.i64.wrap ((cnt (xs.take j) 0 : Int) + 1) = ((cnt (xs.take j) 0 + 1 : Nat) : Int) := by have := HLe.out 0; rw [IntKind.wrap_i64]; omega
        obtain ⟨c0, c1, c2, c3, c4, c5, z⟩ := H1.out.gr ((Gr.refl wr).alloc (.cells #[.int .i64 0, .int .i64 cc, .int .i64 rr] 23))
        go_wp2
        go_roundw
        case rel =>
          refine ⟨j + 1, by go_num, by omega, ?_, ?_, ?_⟩
          · exact six_set _ _ _ _ 0 _ (H1.out.gr ((Gr.refl wr).alloc _)) HN.out HM.out
          · exact six_far _ _ _ _ _ _ (H0.out.gr ((Gr.refl wr).alloc _)) (by omega)
          · exact (HG.out.alloc _).setCell (Nat.le_succ _) _
        case measure => simp [intOf]; omega
      by_cases h1 : kk = 1
      · subst h1
        have HN : Hid (cnt (xs.take (j + 1)) (1 : Nat) = cnt (xs.take j) 1 + 1) := by show _ = _; have := HS.out 1; simpa using this
        have HM : Hid (∀ q : Int, q ≠ (1 : Nat) → cnt (xs.take (j + 1)) q = cnt (xs.take j) q) := fun q hq => by have := HS.out q; rw [if_neg (fun e => hq (by rw [← e]; rfl))] at this; exact this
        have hw : IntKind.i64.wrap ((cnt (xs.take j) 1 : Int) + 1) = ((cnt (xs.take j) 1 + 1 : Nat) : Int) := by have := HLe.out 1; rw [IntKind.wrap_i64]; omega
        obtain ⟨c0, c1, c2, c3, c4, c5, z⟩ := H1.out.gr ((Gr.refl wr).alloc (.cells #[.int .i64 1, .int .i64 cc, .int .i64 rr] 23))
        go_wp2
        go_roundw
        case rel =>
          refine ⟨j + 1, by go_num, by omega, ?_, ?_, ?_⟩
          · exact six_set _ _ _ _ 1 _ (H1.out.gr ((Gr.refl wr).alloc _)) HN.out HM.out
          · exact six_far _ _ _ _ _ _ (H0.out.gr ((Gr.refl wr).alloc _)) (by omega)
          · exact (HG.out.alloc _).setCell (Nat.le_succ _) _
        case measure => simp [intOf]; omega
      by_cases h2 : kk = 2
      · subst h2
        have HN : Hid (cnt (xs.take (j + 1)) (2 : Nat) = cnt (xs.take j) 2 + 1) := by show _ = _; have := HS.out 2; simpa using this
        have HM : Hid (∀ q : Int, q ≠ (2 : Nat) → cnt (xs.take (j + 1)) q = cnt (xs.take j) q) := fun q hq => by have := HS.out q; rw [if_neg (fun e => hq (by rw [← e]; rfl))] at this; exact this
        have hw : IntKind.i64.wrap ((cnt (xs.take j) 2 : Int) + 1) = ((cnt (xs.take j) 2 + 1 : Nat) : Int) := by have := HLe.out 2; rw [IntKind.wrap_i64]; omega
        obtain ⟨c0, c1, c2, c3, c4, c5, z⟩ := H1.out.gr ((Gr.refl wr).alloc (.cells #[.int .i64 2, .int .i64 cc, .int .i64 rr] 23))
        go_wp2
        go_roundw
        case rel =>
          refine ⟨j + 1, by go_num, by omega, ?_, ?_, ?_⟩
          · exact six_set _ _ _ _ 2 _ (H1.out.gr ((Gr.refl wr).alloc _)) HN.out HM.out
          · exact six_far _ _ _ _ _ _ (H0.out.gr ((Gr.refl wr).alloc _)) (by omega)
          · exact (HG.out.alloc _).setCell (Nat.le_succ _) _
        case measure => simp [intOf]; omega
      by_cases h3 : kk = 3
      · subst h3
        have HN : Hid (cnt (xs.take (j + 1)) (3 : Nat) = cnt (xs.take j) 3 + 1) := by show _ = _; have := HS.out 3; simpa using this
        have HM : Hid (∀ q : Int, q ≠ (3 : Nat) → cnt (xs.take (j + 1)) q = cnt (xs.take j) q) := fun q hq => by have := HS.out q; rw [if_neg (fun e => hq (by rw [← e]; rfl))] at this; exact this
        have hw : IntKind.i64.wrap ((cnt (xs.take j) 3 : Int) + 1) = ((cnt (xs.take j) 3 + 1 : Nat) : Int) := by have := HLe.out 3; rw [IntKind.wrap_i64]; omega
        obtain ⟨c0, c1, c2, c3, c4, c5, z⟩ := H1.out.gr ((Gr.refl wr).alloc (.cells #[.int .i64 3, .int .i64 cc, .int .i64 rr] 23))
        go_wp2
        go_roundw
        case rel =>
          refine ⟨j + 1, by go_num, by omega, ?_, ?_, ?_⟩
          · exact six_set _ _ _ _ 3 _ (H1.out.gr ((Gr.refl wr).alloc _)) HN.out HM.out
          · exact six_far _ _ _ _ _ _ (H0.out.gr ((Gr.refl wr).alloc _)) (by omega)
          · exact (HG.out.alloc _).setCell (Nat.le_succ _) _
        case measure => simp [intOf]; omega
      by_cases h4 : kk = 4
      · subst h4
        have HN : Hid (cnt (xs.take (j + 1)) (4 : Nat) = cnt (xs.take j) 4 + 1) := by show _ = _; have := HS.out 4; simpa using this
        have HM : Hid (∀ q : Int, q ≠ (4 : Nat) → cnt (xs.take (j + 1)) q = cnt (xs.take j) q) := fun q hq => by have := HS.out q; rw [if_neg (fun e => hq (by rw [← e]; rfl))] at this; exact this
        have hw : IntKind.i64.wrap ((cnt (xs.take j) 4 : Int) + 1) = ((cnt (xs.take j) 4 + 1 : Nat) : Int) := by have := HLe.out 4; rw [IntKind.wrap_i64]; omega
        obtain ⟨c0, c1, c2, c3, c4, c5, z⟩ := H1.out.gr ((Gr.refl wr).alloc (.cells #[.int .i64 4, .int .i64 cc, .int .i64 rr] 23))
        go_wp2
        go_roundw
        case rel =>
          refine ⟨j + 1, by go_num, by omega, ?_, ?_, ?_⟩
          · exact six_set _ _ _ _ 4 _ (H1.out.gr ((Gr.refl wr).alloc _)) HN.out HM.out
          · exact six_far _ _ _ _ _ _ (H0.out.gr ((Gr.refl wr).alloc _)) (by omega)
          · exact (HG.out.alloc _).setCell (Nat.le_succ _) _
        case measure => simp [intOf]; omega
      by_cases h5 : kk = 5
      · subst h5
        have HN : Hid (cnt (xs.take (j + 1)) (5 : Nat) = cnt (xs.take j) 5 + 1) := by show _ = _; have := HS.out 5; simpa using this
        have HM : Hid (∀ q : Int, q ≠ (5 : Nat) → cnt (xs.take (j + 1)) q = cnt (xs.take j) q) := fun q hq => by have := HS.out q; rw [if_neg (fun e => hq (by rw [← e]; rfl))] at this; exact this
        have hw : IntKind.i64.wrap ((cnt (xs.take j) 5 : Int) + 1) = ((cnt (xs.take j) 5 + 1 : Nat) : Int) := by have := HLe.out 5; rw [IntKind.wrap_i64]; omega
        obtain ⟨c0, c1, c2, c3, c4, c5, z⟩ := H1.out.gr ((Gr.refl wr).alloc (.cells #[.int .i64 5, .int .i64 cc, .int .i64 rr] 23))
        go_wp2
        go_roundw
        case rel =>
          refine ⟨j + 1, by go_num, by omega, ?_, ?_, ?_⟩
          · exact six_set _ _ _ _ 5 _ (H1.out.gr ((Gr.refl wr).alloc _)) HN.out HM.out
          · exact six_far _ _ _ _ _ _ (H0.out.gr ((Gr.refl wr).alloc _)) (by omega)
          · exact (HG.out.alloc _).setCell (Nat.le_succ _) _
        case measure => simp [intOf]; omega
      have HM : Hid (∀ q : Nat, q ≤ 5 → cnt (xs.take (j + 1)) q = cnt (xs.take j) q) := fun q hq => by have := HS.out q; rw [if_neg (fun e => by omega)] at this; exact this
      have HX : Hid (Six (wr.alloc (.cells #[.int .i64 kk, .int .i64 cc, .int .i64 rr] 23)) (w.heap.size + 1) (xs.take (j + 1))) := by
        have h := H1.out.gr ((Gr.refl wr).alloc (.cells #[.int .i64 kk, .int .i64 cc, .int .i64 rr] 23))
        exact ⟨by have e := HM.out 0 (by omega); rw [show (0 : Int) = ((0 : Nat) : Int) from rfl, e]; exact h.c0, by have e := HM.out 1 (by omega); rw [show (1 : Int) = ((1 : Nat) : Int) from rfl, e]; exact h.c1, by have e := HM.out 2 (by omega); rw [show (2 : Int) = ((2 : Nat) : Int) from rfl, e]; exact h.c2, by have e := HM.out 3 (by omega); rw [show (3 : Int) = ((3 : Nat) : Int) from rfl, e]; exact h.c3, by have e := HM.out 4 (by omega); rw [show (4 : Int) = ((4 : Nat) : Int) from rfl, e]; exact h.c4, by have e := HM.out 5 (by omega); rw [show (5 : Int) = ((5 : Nat) : Int) from rfl, e]; exact h.c5, h.z⟩
      by_cases hk0 : 0 ≤ kk
      · have hk6 : ¬ kk < 6 := by omega
        go_wp2
        go_roundw
        case rel => exact ⟨j + 1, by go_num, by omega, HX.out, H0.out.gr ((Gr.refl wr).alloc _), HG.out.alloc _⟩
        case measure => simp [intOf]; omega
      · go_wp2
        go_roundw
        case rel => exact ⟨j + 1, by go_num, by omega, HX.out, H0.out.gr ((Gr.refl wr).alloc _), HG.out.alloc _⟩
        case measure => simp [intOf]; omega
    · have hz : ¬ (j : Int) < (xs.length : Int) := by omega
      obtain rfl : j = xs.length := by omega
      rw [List.take_length] at H1
      obtain ⟨c0, c1, c2, c3, c4, c5, z⟩ := H1.out
      obtain ⟨d0, d1, d2, d3, d4, d5, y⟩ := H0.out
      go_wp2
      refine bodyPost_ret (v := .agg #[.int .i64 (cnt xs 0), .int .i64 (cnt xs 1), .int .i64 (cnt xs 2), .int .i64 (cnt xs 3), .int .i64 (cnt xs 4), .int .i64 (cnt xs 5)]) ?_ rfl ⟨rfl, ?_⟩
      · simp [results, Tryd.results26, go_sem, d0, d1, d2, d3, d4, d5]
      · exact (((((HG.out.setCell (Nat.le_refl _) _).setCell (Nat.le_refl _) _).setCell (Nat.le_refl _) _).setCell (Nat.le_refl _) _).setCell (Nat.le_refl _) _).setCell (Nat.le_refl _) _
abbrev six (xs : List F3) : Value := .agg #[.int .i64 (cnt xs 0), .int .i64 (cnt xs 1), .int .i64 (cnt xs 2), .int .i64 (cnt xs 3), .int .i64 (cnt xs 4), .int .i64 (cnt xs 5)]
set_option maxRecDepth 20000 in
set_option maxHeartbeats 2000000 in
theorem kinds26_nil (a : Option Addr) (cap : Nat) (w : World) : Calls Tryd.prog 26 #[.slice a 0 cap] w fun e w' => e = .returned (six []) ∧ Gr w w' := by
  go_enter Tryd.func26, Tryd.ntmps26
  go_wp2
  go_loopw [8] (fun i wr => i = .int .i64 0 ∧ Hid (Six wr (w.heap.size + 1) []) ∧ Hid (Six wr w.heap.size []) ∧ Hid (Gr w wr)) (fun i _ => 0)
  case atStart => exact ⟨rfl, six_new2 w, six_new1 w, ((Gr.refl w).alloc _).alloc _⟩
  case round =>
    obtain ⟨rfl, H1, H0, HG⟩ := hrel
    obtain ⟨c0, c1, c2, c3, c4, c5, z⟩ := H1.out
    obtain ⟨d0, d1, d2, d3, d4, d5, y⟩ := H0.out
    go_wp2
    refine bodyPost_ret (v := six []) ?_ rfl ⟨rfl, ?_⟩
    · simp [results, Tryd.results26, go_sem, d0, d1, d2, d3, d4, d5]
    · exact (((((HG.out.setCell (Nat.le_refl _) _).setCell (Nat.le_refl _) _).setCell (Nat.le_refl _) _).setCell (Nat.le_refl _) _).setCell (Nat.le_refl _) _).setCell (Nat.le_refl _) _
/-- a slice of failures, as an argument -/
def SlF (w : World) (v : Value) (xs : List F3) : Prop := (xs = [] ∧ ∃ a cap, v = .slice a 0 cap) ∨ ∃ b off cap, v = .slice (some ⟨b, off, none⟩) xs.length cap ∧ RowF w b off xs
theorem SlF.gr {w w' : World} {v : Value} {xs : List F3} (h : SlF w v xs) (hg : Gr w w') : SlF w' v xs := by
  rcases h with h | ⟨b, off, cap, hv, hr⟩
  · exact Or.inl h
  · exact Or.inr ⟨b, off, cap, hv, hr.gr hg⟩
theorem kinds26 (xs : List F3) (v : Value) (w : World) (hl : xs.length ≤ 140737488351232) (R : SlF w v xs) : Calls Tryd.prog 26 #[v] w fun e w' => e = .returned (six xs) ∧ Gr w w' := by
  rcases R with ⟨rfl, a, cap, rfl⟩ | ⟨b, off, cap, rfl, R⟩
  · exact kinds26_nil a cap w
  · exact kinds26_row xs b off cap w hl R
end Go.Proofs.YtifhfdndbnmhlaaDoor
