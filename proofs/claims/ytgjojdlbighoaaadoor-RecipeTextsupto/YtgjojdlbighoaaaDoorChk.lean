/- The program's look at a recipe, and whether it can go on from a state; the conditions: the table holds what the start lays, the list of steps lies in memory. -/
import Derived.Test.YtgjojdlbighoaaaDoorKds
namespace Go.Proofs.YtgjojdlbighoaaaDoor
open Go.RowKit Go.Sort
set_option linter.unusedVariables false

/-- a slice of steps in memory -/
def Sl (w : World) (a : Option Addr) (L : List Sp) : Prop := ∀ i, (h : i < L.length) → ∃ b off, a = some ⟨b, off, none⟩ ∧ w.cell? ⟨b, off + i * 3, none⟩ = some (.int .i64 L[i].1) ∧ w.cell? ⟨b, off + i * 3 + 1, none⟩ = some (.int .i64 L[i].2.1) ∧ w.cell? ⟨b, off + i * 3 + 2, none⟩ = some (.int .i64 L[i].2.2)
theorem Sl.gr {w w' : World} {a : Option Addr} {L : List Sp} (h : Sl w a L) (hg : Gr w w') : Sl w' a L := fun i hi => by
  obtain ⟨b, off, e, c0, c1, c2⟩ := h i hi
  exact ⟨b, off, e, hg.cell' c0, hg.cell' c1, hg.cell' c2⟩
def mayX (x : Sp) : Bool := mayD x.1 x.2.1 x.2.2
/-- what a look at a recipe tells -/
def chkS (L : List Sp) : Nat × Int := if 256 < L.length then (256, 3) else match L.findIdx? (fun x => !mayX x) with | some i => (i, 80) | none => (0, 0)
theorem chk_many {L : List Sp} (h : 256 < L.length) : chkS L = (256, 3) := by unfold chkS; rw [if_pos h]
theorem chk_at {L : List Sp} (h : L.length ≤ 256) (i : Nat) (hi : i < L.length) (hb : ∀ j, (hj : j < L.length) → j < i → mayX L[j] = true) (hn : mayX L[i] = false) : chkS L = (i, 80) := by
  unfold chkS
  rw [if_neg (by omega)]
  have : L.findIdx? (fun x => !mayX x) = some i := by
    rw [List.findIdx?_eq_some_iff_getElem]
    refine ⟨hi, by simp [hn], fun j hj => ?_⟩
    have := hb j (by omega) hj
    simp [this]
  rw [this]
theorem chk_end {L : List Sp} (h : L.length ≤ 256) (hb : ∀ j, (hj : j < L.length) → mayX L[j] = true) : chkS L = (0, 0) := by
  unfold chkS
  rw [if_neg (by omega)]
  have : L.findIdx? (fun x => !mayX x) = none := by
    rw [List.findIdx?_eq_none_iff]
    intro x hx
    obtain ⟨j, hj, rfl⟩ := List.getElem_of_mem hx
    simp [hb j hj]
  rw [this]
theorem chk_good {L : List Sp} : (chkS L).2 = 0 ↔ Good L := by
  unfold chkS
  split
  · rename_i h
    exact ⟨(fun h => by cases h), fun hg => (by have := hg.1; omega)⟩
  · rename_i h
    cases hf : L.findIdx? (fun x => !mayX x) with
    | none =>
      rw [List.findIdx?_eq_none_iff] at hf
      refine ⟨fun _ => ⟨by omega, fun x hx => ?_⟩, fun _ => rfl⟩
      have := hf x hx
      exact mayD_iff.1 (show mayX x = true by simpa using this)
    | some i =>
      refine ⟨(fun h => by cases h), fun hg => ?_⟩
      rw [List.findIdx?_eq_some_iff_getElem] at hf
      obtain ⟨hi, hn, _⟩ := hf
      have : mayX L[i] = true := mayD_true (hg.2 _ (List.getElem_mem hi))
      rw [this] at hn
      cases hn
theorem chk_fst {L : List Sp} (h : Good L) : chkS L = (0, 0) := by
  refine chk_end h.1 fun j hj => mayD_true (h.2 _ (List.getElem_mem hj))
theorem chk_snd (L : List Sp) : (chkS L).2 = 0 ∨ (chkS L).2 = 3 ∨ (chkS L).2 = 80 := by
  unfold chkS
  split
  · exact Or.inr (Or.inl rfl)
  · split
    · exact Or.inr (Or.inr rfl)
    · exact Or.inl rfl
theorem chk_le (L : List Sp) : (chkS L).1 ≤ 256 := by
  unfold chkS
  split
  · exact Nat.le_refl _
  · rename_i h
    cases hf : L.findIdx? (fun x => !mayX x) with
    | none => exact Nat.zero_le _
    | some i =>
      rw [List.findIdx?_eq_some_iff_getElem] at hf
      obtain ⟨hi, _⟩ := hf
      show i ≤ 256
      omega
set_option maxRecDepth 20000 in
set_option maxHeartbeats 1000000 in
theorem check8 (L : List Sp) (a : Option Addr) (c : Nat) (w : World) (hk : Kd w) (hs : Sl w a L) (hw : WfS L) (hl : L.length ≤ 1000000000000000) :
    Calls Tryd.prog 8 #[.slice a L.length c] w fun e w' => e = .returned (.tuple #[.int .i64 (chkS L).1, .int .i64 (chkS L).2]) ∧ Gr w w' := by
  by_cases hm : 256 < L.length
  · have hm' : (256 : Int) < (L.length : Int) := by omega
    rw [chk_many hm]
    clear hm
    go_enter Tryd.func8, Tryd.ntmps8
    go_wp2
    go_ret2
    exact ⟨rfl, Gr.refl _⟩
  · have HS : Hid (Kd w ∧ Sl w a L ∧ WfS L ∧ L.length ≤ 256) := ⟨hk, hs, hw, by omega⟩
    have hm' : ¬ (256 : Int) < (L.length : Int) := by omega
    have hle : (L.length : Int) ≤ 256 := by omega
    clear hm hk hs hw hl
    go_enter Tryd.func8, Tryd.ntmps8
    go_wp2
    go_loopw [11] (fun i wr => ∃ j : Nat, i = .int .i64 j ∧ j ≤ L.length ∧ Hid (∀ k, (hk : k < L.length) → k < j → mayX L[k] = true) ∧ Hid (Gr w wr)) (fun i _ => L.length - (intOf i).toNat)
    case atStart => exact ⟨0, rfl, Nat.zero_le _, fun k _ h => absurd h (Nat.not_lt_zero _), Gr.refl _⟩
    case round =>
      obtain ⟨j, rfl, hj, HB, HG⟩ := hrel
      by_cases hlt : j < L.length
      · have hz : (j : Int) < (L.length : Int) := by omega
        obtain ⟨b, off, rfl, c0, c1, c2⟩ := (HS.out.2.1.gr HG.out) j hlt
        have HC : Hid _ := fun w' (hg : Gr wr w') => mayBe28 L[j].1 L[j].2.1 L[j].2.2 w' (HS.out.1.gr (HG.out.trans hg)) (HS.out.2.2.1 _ (List.getElem_mem hlt)).2.1
        have HX : Hid (mayD L[j].1 L[j].2.1 L[j].2.2 = mayX L[j]) := rfl
        obtain ⟨x0, e0⟩ : ∃ x, L[j].1 = x := ⟨_, rfl⟩
        obtain ⟨x1, e1⟩ : ∃ x, L[j].2.1 = x := ⟨_, rfl⟩
        obtain ⟨x2, e2⟩ : ∃ x, L[j].2.2 = x := ⟨_, rfl⟩
        rw [e0, e1, e2] at HC HX
        rw [e0] at c0
        rw [e1] at c1
        rw [e2] at c2
        clear e0 e1 e2
        obtain ⟨vb, hvb⟩ : ∃ vb, mayD x0 x1 x2 = vb := ⟨_, rfl⟩
        rw [hvb] at HC HX
        clear hvb
        cases vb with
        | true =>
          go_wp2_with (go_at_call 28; refine (HC.out _ ((Gr.refl _).alloc _)).mono ?_; rintro e w1 ⟨rfl, hg⟩)
          go_roundw
          case rel => exact ⟨j + 1, by go_num, by omega, fun k hk h => by rcases (by omega : k < j ∨ k = j) with h' | rfl; exact HB.out k hk h'; exact HX.out.symm, (HG.out.alloc _).trans hg⟩
          case measure => simp [intOf]; omega
        | false =>
          have HE : Hid (chkS L = (j, 80)) := chk_at HS.out.2.2.2 j hlt (fun k hk h => HB.out k hk h) HX.out.symm
          go_wp2_with (go_at_call 28; refine (HC.out _ ((Gr.refl _).alloc _)).mono ?_; rintro e w1 ⟨rfl, hg⟩)
          go_ret2
          exact ⟨by rw [HE.out]; rfl, (HG.out.alloc _).trans hg⟩
      · have hz : ¬ (j : Int) < (L.length : Int) := by omega
        have HE : Hid (chkS L = (0, 0)) := chk_end HS.out.2.2.2 (fun k hk => HB.out k hk (by omega))
        go_wp2
        go_ret2
        exact ⟨by rw [HE.out]; rfl, HG.out⟩
/-- whether a recipe can go on from a state -/
theorem ready30_no (L : List Sp) (a : Option Addr) (c : Nat) (p n wt on : Int) (w : World) (hk : Kd w) (hs : Sl w a L) (hw : WfS L) (hl : L.length ≤ 1000000000000000) (hb : ¬ Good L) :
    Calls Tryd.prog 30 #[.slice a L.length c, .agg #[.int .i64 p, .int .i64 n, .int .i64 wt, .int .i64 on]] w fun e w' => e = .returned (.int .i64 80) ∧ Gr w w' := by
  have HC : Hid _ := fun w' (hg : Gr w w') => check8 L a c w' (hk.gr hg) (hs.gr hg) hw hl
  have h1 : ¬ (chkS L).2 = 0 := fun h => hb (chk_good.1 h)
  have hne : ((chkS L).2 == 0) = false := by simpa using h1
  generalize (chkS L).2 = v at *
  clear hk hs hw hl hb h1
  go_enter Tryd.func30, Tryd.ntmps30
  go_wp2_with (go_at_call 8; refine (HC.out _ ((Gr.refl _).alloc _)).mono ?_; rintro e w1 ⟨rfl, hg⟩)
  go_ret
  exact ⟨rfl, ((Gr.refl _).alloc _).trans hg⟩
theorem ready30_ok (L : List Sp) (a : Option Addr) (c : Nat) (p : Nat) (n on : Int) (w : World) (hk : Kd w) (hs : Sl w a L) (hw : WfS L) (hg : Good L) (hp : p ≤ L.length) :
    Calls Tryd.prog 30 #[.slice a L.length c, .agg #[.int .i64 p, .int .i64 n, .int .i64 0, .int .i64 on]] w fun e w' => e = .returned (.int .i64 0) ∧ Gr w w' := by
  have HC : Hid _ := fun w' (hg' : Gr w w') => check8 L a c w' (hk.gr hg') (hs.gr hg') hw (by have := hg.1; omega)
  rw [chk_fst hg] at HC
  have hp' : ¬ (L.length : Int) < (p : Int) := by omega
  clear hk hs hw hg hp
  go_enter Tryd.func30, Tryd.ntmps30
  go_wp2_with fail
  refine (HC.out _ ((Gr.refl _).alloc _)).mono ?_
  rintro e w1 ⟨rfl, hg⟩
  have c0 : w1.cell? ⟨w.heap.size, 0, none⟩ = some (.int .i64 p) := hg.cell' (by simp)
  have c2 : w1.cell? ⟨w.heap.size, 2, none⟩ = some (.int .i64 0) := hg.cell' (by simp)
  go_wp2_with fail
  go_ret
  exact ⟨rfl, ((Gr.refl _).alloc _).trans hg⟩
end Go.Proofs.YtgjojdlbighoaaaDoor
