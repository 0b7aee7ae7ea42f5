/- The contract of Clone: gates of their own that are the same. -/
import Derived.Test.YtmbjjkdocmcpdaaNil
import Derived.Deep.CutRange
import Derived.Deep.CutBlock
import Derived.Deep.RegionLaw
namespace Go.Proofs.Ytmbjjkdocmcpdaa
open Go.RowKit Go.Maps Go.ChangeMaps
set_option linter.unusedVariables false
def opT (op : Nat → Bool) (i : Nat) : Nat → Bool := fun j => if j < i then op j else false
def WT (W : Nat → List Int) (i : Nat) : Nat → List Int := fun j => if j < i then W j else []
def WK (W : Nat → List Int) (i k : Nat) : Nat → List Int := fup (WT W i) i ((W i).take k)
theorem opT_next (op : Nat → Bool) (i : Nat) : fup (opT op i) i (op i) = opT op (i + 1) := by
  funext j
  unfold fup opT
  by_cases h : j = i
  · subst h; simp
  · rw [if_neg h]
    by_cases h2 : j < i
    · rw [if_pos h2, if_pos (by omega)]
    · rw [if_neg h2, if_neg (by omega)]
theorem WK_zero (W : Nat → List Int) (i : Nat) : WK W i 0 = WT W i := by
  unfold WK
  have : WT W i i = [] := by simp [WT]
  rw [List.take_zero, ← this, fup_self]
theorem WK_full (W : Nat → List Int) (i : Nat) : WK W i (W i).length = WT W (i + 1) := by
  funext j
  unfold WK fup WT
  rw [List.take_length]
  by_cases h : j = i
  · subst h; simp
  · rw [if_neg h]
    by_cases h2 : j < i
    · rw [if_pos h2, if_pos (by omega)]
    · rw [if_neg h2, if_neg (by omega)]
theorem WK_next (W : Nat → List Int) (i : Nat) {k : Nat} (hk : k < (W i).length) : fup (WK W i k) i (WK W i k i ++ [(W i)[k]]) = WK W i (k + 1) := by
  unfold WK
  rw [fup_same, fup_twice, List.take_succ_eq_append_getElem hk]
theorem WK_mem {W : Nat → List Int} {i k j : Nat} {x : Int} (h : x ∈ WK W i k j) : x ∈ W j ∧ (j = i → x ∈ (W i).take k) := by
  unfold WK at h
  rw [fup_mem] at h
  rcases h with ⟨e, h⟩ | ⟨e, h⟩
  · subst e; exact ⟨List.mem_of_mem_take h, fun _ => h⟩
  · unfold WT at h
    split at h
    · exact ⟨h, fun e' => absurd e' e⟩
    · simp at h
theorem WK_loc {W : Nat → List Int} (ok : Ok W) {i k : Nat} (hi : i < 256) (hk : k < (W i).length) : loc (WK W i k) (W i)[k] = none := loc_none.2 (fun j hj hm => by
  obtain ⟨h1, h2⟩ := WK_mem hm
  have e := ok.dj j i _ hj hi h1 (List.getElem_mem hk)
  have h3 := h2 e
  obtain ⟨p, hp, hx⟩ := List.mem_take_iff_getElem.1 h3
  have := nd_inj (ok.nd i hi) (by omega) hk hx
  omega)
theorem sumN_mono {f g : Nat → Nat} : ∀ {n : Nat}, (∀ i, i < n → f i ≤ g i) → sumN f n ≤ sumN g n
  | 0, _ => Nat.le_refl _
  | n + 1, h => by
    simp only [sumN]
    have := sumN_mono (n := n) (fun i hi => h i (by omega))
    have := h n (by omega)
    omega
theorem WK_tot (W : Nat → List Int) (i k : Nat) : tot (WK W i k) ≤ tot W := sumN_mono (fun j hj => by
  show (WK W i k j).length ≤ (W j).length
  unfold WK
  by_cases h : j = i
  · subst h; rw [fup_same, List.length_take]; omega
  · rw [fup_other _ _ h]
    unfold WT
    split
    · exact Nat.le_refl _
    · simp)
/-- Between the rounds: the gates that are copied, untouched, and the copy so far. -/
structure Cl (w wr : World) (t : Nat) (F2 : List Nat) (op : Nat → Bool) (W : Nat → List Int) : Prop where
  gs : Gs wr t F2 op W
  fr : ∀ k, k ∈ F2 → w.heap.size ≤ k
  tc : Touch [] w wr
def ClE (w wr : World) (t : Nat) (op : Nat → Bool) (W : Nat → List Int) : Prop := ∃ F2, Cl w wr t F2 op W
theorem ClE.wa {w wr w' : World} {t : Nat} {F2 : List Nat} {op op' : Nat → Bool} {W W' : Nat → List Int} (h : Cl w wr t F2 op W) (a : WaE wr w' t F2 op' W') : ClE w w' t op' W' := by
  obtain ⟨F3, g3, t3, n3⟩ := a
  refine ⟨F3, g3, fun k hk => ?_, h.tc.trans t3 (fun i hi => Or.inr (h.fr i hi))⟩
  rcases n3 k hk with e | e
  · exact h.fr k e
  · exact Nat.le_trans h.tc.size e
/-- The same, and a slice that tells xs lies apart. -/
def In (w wr : World) (B t : Nat) (op : Nat → Bool) (W : Nat → List Int) (v : Value) (xs : List Int) : Prop := ∃ F3, Cl w wr t F3 op W ∧ wr.ownsRow B 3 1 v xs.length (ints xs) ∧ ∀ b, v.ownBlock = some b → ¬ b ∈ F3
theorem In.wa {w wr w' : World} {B t : Nat} {F3 : List Nat} {op op' : Nat → Bool} {W W' : Nat → List Int} {v : Value} {xs : List Int} (h : Cl w wr t F3 op W) (ho : wr.ownsRow B 3 1 v xs.length (ints xs)) (hb : ∀ b, v.ownBlock = some b → ¬ b ∈ F3) (a : WaE wr w' t F3 op' W') : In w w' B t op' W' v xs := by
  have a' := a
  obtain ⟨F4, g4, t4, n4⟩ := a
  refine ⟨F4, ⟨g4, fun k hk => ?_, h.tc.trans t4 (fun i hi => Or.inr (h.fr i hi))⟩, own_touch ho t4 hb, fun b hv e => ?_⟩
  · rcases n4 k hk with e | e
    · exact h.fr k e
    · exact Nat.le_trans h.tc.size e
  · rcases n4 b e with e1 | e1
    · exact hb b hv e1
    · have := (ho.lt b hv).2; omega
def CnE (e : Ending) (w w' : World) (op : Nat → Bool) (W : Nat → List Int) : Prop := ∃ t F2, e = .returned (.pointer (some ⟨t, 0, none⟩)) ∧ Cl w w' t F2 op W
section
variable {w : World} {g : Nat} {op : Nat → Bool} {W : Nat → List Int} {F : List Nat}
set_option maxHeartbeats 8000000 in
set_option maxRecDepth 100000 in
theorem clone7 (h : Gs w g F op W) (hT : tot W ≤ 4398046511103) : Calls Try.prog 7 #[.pointer (some ⟨g, 0, none⟩)] w fun e w' => CnE e w w' op W := by
  have HN := hid (new5 w)
  have HS : Hid (∀ w1, Gs w1 w.heap.size [w.heap.size] (fun _ => false) (fun _ => []) → Touch [] w w1 → ClE w w1 w.heap.size (opT op 0) (WT W 0)) := fun w1 g1 t1 => ⟨_, g1.congr (fun i hi => by simp [WT]) (fun i hi => by simp [opT]), fun k hk => by simp only [List.mem_singleton] at hk; omega, t1⟩
  have HG : Hid (∀ W', Touch [] w W' → Gs W' g F op W) := fun W' T => h.keep0 T
  have HE : Hid (∀ w' t, ClE w w' t (opT op 256) (WT W 256) → CnE (.returned (.pointer (some ⟨t, 0, none⟩))) w w' op W) := fun w' t ⟨F2, c⟩ => ⟨t, F2, rfl, c.gs.congr (fun i hi => by simp [WT, hi]) (fun i hi => by simp [opT, hi]), c.fr, c.tc⟩
  have HK := hid h.ok
  have HT := hid hT
  clear h hT
  unfold PT at HN
  go_enter Try.func7, Try.ntmps7
  go_wp2_with (go_at_call 5; refine HN.out.mono ?_; rintro e w1 ⟨rfl, g1, t1⟩; have H0 := hid (HS.out w1 g1 t1); clear g1 t1)
  clear HS HN
  generalize w.heap.size = t at *
  go_loopw [10] (fun i wr => ∃ ni : Int, i = .int .i64 ni ∧ 0 ≤ ni ∧ ni ≤ 256 ∧ Hid (ClE w wr t (opT op ni.toNat) (WT W ni.toNat))) (fun i _ => 256 - (intOf i).toNat)
  case atStart => exact ⟨0, rfl, by omega, by omega, H0.out⟩
  case round =>
    obtain ⟨ni, rfl, hn0, hn1, HR⟩ := hrel
    clear H0
    by_cases hlt : ni < 256
    · have hin : inG ni = true := by simp [inG, hn0, hlt]
      have hi := (inG_nat hin).1
      obtain ⟨F2, hc⟩ := HR.out
      obtain ⟨c1, f1⟩ := hc.gs.cell hi
      have HI : Hid (∀ V, Touch [] w V → Calls Try.prog 20 #[.pointer (some ⟨g, 0, none⟩), .int .i64 ni] V fun e w' => e = .returned (.bool (op ni.toNat)) ∧ w' = V) := fun V T => by
        have := isopen20 (HG.out V T) ni
        rw [hin, Bool.true_and] at this
        exact this
      have T0 := hid hc.tc
      go_upto_region 7 with fail
      go_region_with (go_at_call 20; refine (HI.out _ (T0.out.drewN _)).mono ?_; rintro e w2 ⟨rfl, rfl⟩)
      have HC : Hid (ClE w ((wr.drewN 1).setCell ⟨t, ni.toNat * 2, none⟩ (.bool (op ni.toNat))) t (opT op (ni.toNat + 1)) (WK W ni.toNat 0)) := by
        have hcd : Cl w (wr.drewN 1) t F2 (opT op ni.toNat) (WT W ni.toNat) := ⟨hc.gs.keep0 ((Touch.refl _ _).drewN 1), hc.fr, hc.tc.drewN 1⟩
        obtain ⟨r1, r2⟩ := hcd.gs.opens hi (op ni.toNat)
        rw [opT_next] at r1
        rw [← WK_zero] at r1
        exact ClE.wa hcd ⟨F2, r1, r2, Nf.refl _ _⟩
      clear hc HI T0 c1 f1 HR
      generalize (wr.drewN 1).setCell ⟨t, ni.toNat * 2, none⟩ (.bool (op ni.toNat)) = W2 at *
      obtain ⟨F3, hc3⟩ := HC.out
      have HW : Hid (Calls Try.prog 13 #[.pointer (some ⟨g, 0, none⟩), .int .i64 ni] W2 fun e w' => ∃ a c, e = .returned (.slice a (W ni.toNat).length c) ∧ In w w' W2.heap.size t (opT op (ni.toNat + 1)) (WK W ni.toNat 0) (.slice a (W ni.toNat).length c) (W ni.toNat)) := by
        have := waiting13 (HG.out W2 hc3.tc) ni (by have := HT.out; omega)
        refine this.mono ?_
        rintro e w' ⟨v, he, ow, t'⟩
        rw [show waitW W ni = W ni.toNat by simp [waitW, hin]] at ow
        obtain ⟨a, c, rfl⟩ := own_form ow
        refine ⟨a, c, he, F3, ⟨hc3.gs.keep0 t', hc3.fr, hc3.tc.trans' t'⟩, ow, fun b hb e => ?_⟩
        have h1 := (ow.lt b hb).1
        have h2 := hc3.gs.lt b e
        omega
      have HK2 : Hid (∀ wr k v (hk : k < (W ni.toNat).length), In w wr W2.heap.size t (opT op (ni.toNat + 1)) (WK W ni.toNat k) v (W ni.toNat) → Calls Try.prog 21 #[.pointer (some ⟨t, 0, none⟩), .int .i64 ni, .int .i64 (W ni.toNat)[k]] wr fun e w' => e = .returned (.tuple #[]) ∧ In w w' W2.heap.size t (opT op (ni.toNat + 1)) (WK W ni.toNat (k + 1)) v (W ni.toNat)) := fun wr k v hk ⟨F4, h4, o4, b4⟩ => by
        have hT := HT.out
        refine (wait21 h4.gs ni hin (W ni.toNat)[k] (HK.out.wf _ _ hi (List.getElem_mem hk)) (WK_loc HK.out hi hk) (Nat.le_trans (WK_tot W _ _) hT)).mono ?_
        rintro e w' ⟨he, a⟩
        rw [WK_next W ni.toNat hk] at a
        exact ⟨he, In.wa h4 o4 b4 a⟩
      have HKl : Hid ((W ni.toNat).length ≤ 4398046511104) := by
        have := tot_le W hi
        have hT := HT.out
        show _ ≤ _
        omega
      have HX : Hid (∀ wr v, In w wr W2.heap.size t (opT op (ni.toNat + 1)) (WK W ni.toNat (W ni.toNat).length) v (W ni.toNat) → ClE w wr t (opT op (ni + 1).toNat) (WT W (ni + 1).toNat)) := fun wr v ⟨F4, h4, _⟩ => by
        rw [WK_full] at h4
        rw [show (ni + 1).toNat = ni.toNat + 1 by omega]
        exact ⟨F4, h4⟩
      clear hc3 HC hin
      generalize hxs : W ni.toNat = xs at *
      clear hxs
      have zx : (xs.length : Int) ≤ 4398046511104 := by have := HKl.out; omega
      obtain ⟨wo, hwo⟩ : ∃ wo, wo = wr := ⟨_, rfl⟩
      clear hwo
      go_wp2_with (go_at_call 13; refine HW.out.mono ?_; rintro e w3 ⟨a3, c3, rfl, i3⟩; have I3 := hid i3; clear i3)
      go_loopw [6, 26] (fun v6 i wq => ∃ k : Nat, i = .int .i64 k ∧ k ≤ xs.length ∧ Hid (In w wq W2.heap.size t (opT op (ni.toNat + 1)) (WK W ni.toNat k) (.slice a3 xs.length c3) xs)) (fun _ i _ => xs.length - (intOf i).toNat)
      case atStart => exact ⟨0, rfl, Nat.zero_le _, I3.out⟩
      case round =>
        obtain ⟨k, rfl, hk, HQ⟩ := hrel
        by_cases hkl : k < xs.length
        · have zk : (k : Int) < (xs.length : Int) := by omega
          obtain ⟨b, hb, hcell⟩ : ∃ b, a3 = some ⟨b, 0, none⟩ ∧ wr.cell? ⟨b, k, none⟩ = some (.int .i64 xs[k]) := by
            obtain ⟨F4, h4, o4, b4⟩ := HQ.out
            obtain ⟨b, c, hv, _⟩ := own_some o4 (by omega)
            cases hv
            exact ⟨b, rfl, own_cell o4 (by simp [ints, hkl])⟩
          have HC := hid (HK2.out wr k _ hkl HQ.out)
          subst hb
          clear HQ HW HK2 I3 HX
          generalize xs[k] = y at *
          go_wp2_with (go_at_call 21; refine HC.out.mono ?_; rintro e w5 ⟨rfl, i5⟩; have I5 := hid i5; clear i5)
          go_roundw
          case rel => exact ⟨k + 1, by go_num, by omega, I5.out⟩
          case measure => simp [intOf]; omega
        · have e : k = xs.length := by omega
          subst e
          have H6 := hid (HX.out wr _ HQ.out)
          clear HQ HW HK2 I3 HX
          go_wp2
          go_roundw
          case rel => exact ⟨ni + 1, by go_num, by omega, by omega, H6.out⟩
          case measure => simp [intOf]; omega
    · have e : ni = 256 := by omega
      subst e
      have H6 := hid (HE.out wr t HR.out)
      go_wp2
      go_ret
      exact H6.out
end
end Go.Proofs.Ytmbjjkdocmcpdaa
