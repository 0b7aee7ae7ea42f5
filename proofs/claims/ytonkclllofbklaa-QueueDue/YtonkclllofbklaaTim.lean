/- The contract of the law's look whether a queue by time stands as a list. -/
import Derived.Test.YtonkclllofbklaaTun
namespace Go.Proofs.Ytonkclllofbklaa
open Go.RowKit Go.Maps Go.ChangeMaps
set_option linter.unusedVariables false
def tmOf (x : Slot) : Tm := ⟨x.at_, x.item⟩
def tms (S : List Slot) : List Tm := S.map tmOf
theorem tms_len (S : List Slot) : (tms S).length = S.length := by simp [tms]
theorem gtT_tms {S : List Slot} {n : Nat} (h : n < S.length) : gtT (tms S) n = tmOf (gt S n) := by
  rw [gtT_eq (by rw [tms_len]; exact h), gt_eq h]
  simp [tms]
theorem fnd_idx (S : List Slot) (k : Int) : fnd (tms S) k = match idx S k with
    | some a => (a : Int)
    | none => -1 := by
  unfold fnd idx tms
  rw [List.findIdx?_map]
  rfl
/-- How all stands behind n rounds. -/
def AlT (w wr : World) (v : Value) (S : List Slot) (n : Nat) : Prop := ∃ Z : List Value, (∀ j, n ≤ j → j < S.length → Z[j * 2]? = some (.int .i64 (gt S j).at_) ∧ Z[j * 2 + 1]? = some (.int .i64 (gt S j).item)) ∧ wr.ownsRow w.heap.size 61 2 v S.length Z ∧ Touch [] w wr
theorem AlT.start {w wr : World} {v : Value} {S : List Slot} (h : wr.ownsRow w.heap.size 61 2 v S.length (flat2 S)) (ht : Touch [] w wr) : AlT w wr v S 0 := ⟨flat2 S, fun j _ hj => flat2_at S j hj, h, ht⟩
theorem AlT.step {w wr w1 : World} {g c N : Nat} {S : List Slot} {n : Nat} {y : Int} (hN : N = S.length) (h : AlT w wr (.slice (some ⟨g, 0, none⟩) N c) S n) (ht : Touch [] wr w1) : AlT w (w1.setCell ⟨g, n * 2 + 1, none⟩ (.int .i64 y)) (.slice (some ⟨g, 0, none⟩) N c) S (n + 1) := by
  subst hN
  obtain ⟨Z, h1, h2, h3⟩ := h
  have hg := (h2.lt g rfl).1
  refine ⟨Z.set (n * 2 + 1) (.int .i64 y), fun j hj hl => ?_, own_set (own_touch h2 ht (fun _ _ e => by cases e)) _ _, (h3.trans' ht).setCell (Or.inr hg) _⟩
  rw [List.getElem?_set_ne (by omega), List.getElem?_set_ne (by omega)]
  exact h1 j (by omega) hl
theorem AlT.cell {w wr : World} {v : Value} {S : List Slot} {n : Nat} (h : AlT w wr v S n) (hn : n < S.length) : ∃ g c, v = .slice (some ⟨g, 0, none⟩) S.length c ∧ wr.cell? ⟨g, n * 2, none⟩ = some (.int .i64 (gt S n).at_) ∧ wr.cell? ⟨g, n * 2 + 1, none⟩ = some (.int .i64 (gt S n).item) ∧ wr.frozen? ⟨g, n * 2 + 1, none⟩ = false ∧ g < wr.heap.size := by
  obtain ⟨Z, h1, h2, h3⟩ := h
  obtain ⟨g, c, rfl, _⟩ := h2.form (by omega)
  obtain ⟨a, b⟩ := h1 n (Nat.le_refl _) hn
  exact ⟨g, c, rfl, own_cell h2 a, own_cell h2 b, own_frozen h2 _, (h2.lt g rfl).2⟩
set_option maxHeartbeats 4000000 in
set_option maxRecDepth 100000 in
theorem times25 (w : World) (q : Nat) (F : List Nat) (p : Int) (S : List Slot) (k : Int) (B : Nat) (v : Value) (hu : Tq w q F p S) (hr : RN w B v (tms S)) (hk : W64 k) :
    Calls Try.prog 25 #[PT q, v, .int .i64 k] w fun e w' => e = .returned (.bool true) ∧ Touch [] w w' := by
  have hle := hu.len
  have HA := hid (all33 w q F p S hu)
  have HL : Hid (∀ w1, Touch [] w w1 → Calls Try.prog 26 #[.pointer (some ⟨q, 0, none⟩)] w1 fun e w' => e = .returned (.int .i64 S.length) ∧ w' = w1) := fun w1 t => len26 w1 q F p S (hu.keep0 t)
  have HF : Hid (∀ w1, Touch [] w w1 → Calls Try.prog 10 #[v, .int .i64 k] w1 fun e w' => e = .returned (.int .i64 (fnd (tms S) k)) ∧ Touch [] w1 w') := fun w1 t => find10 w1 B v (tms S) k (hr.keep0 t).rl (by rw [tms_len]; omega)
  have HU := hid hu
  have HK := hid hk
  obtain ⟨g, c, rfl, hrl⟩ := hr
  have HR := hid hrl
  rw [tms_len] at HF HR ⊢
  clear hrl hu hk
  obtain ⟨N, hN⟩ : ∃ N, N = S.length := ⟨_, rfl⟩
  have HN := hid hN
  rw [← hN] at HF HR HL hle ⊢
  rw [← hN] at HA
  clear hN
  unfold PT at HA ⊢
  go_enter Try.func25, Try.ntmps25
  go_wp2_with fail
  refine HA.out.mono ?_
  rintro e w1 ⟨va, rfl, oa, ta⟩
  obtain ⟨aa, ca, rfl⟩ := own_form oa
  have OA := hid (show AlT w w1 (.slice aa N ca) S 0 from AlT.start (by rw [← HN.out]; exact oa) ta)
  have TA := hid ta
  clear oa ta HA
  go_wp2_with (first
    | (go_at_call 26; refine (HL.out _ TA.out).mono ?_; rintro e w2 ⟨rfl, rfl⟩))
  have zN : (N : Int) ≤ 65536 := by omega
  clear TA HL
  go_loopw [30] (fun i wr => ∃ n : Nat, i = .int .i64 n ∧ n ≤ N ∧ Hid (AlT w wr (.slice aa N ca) S n)) (fun i _ => N - (intOf i).toNat)
  case atStart => exact ⟨0, rfl, Nat.zero_le _, OA⟩
  case round =>
    clear OA
    obtain ⟨n, rfl, hn, HI⟩ := hrel
    by_cases hlt : n < N
    · have zn : (n : Int) < (N : Int) := by omega
      have hlS : n < S.length := by have := HN.out; omega
      obtain ⟨g2, c2, e2, ac0, ac1, af, hgl⟩ := HI.out.cell hlS
      injection e2 with e3 e4 e5
      subst e3 e5
      clear e4
      have TW : Touch [] w wr := HI.out.choose_spec.2.2
      obtain ⟨g', eg, eN, b0, b1⟩ := (HR.out.keep0 TW).cells (k := n) (by rw [tms_len]; exact hlS)
      clear eN
      simp only [Option.some.injEq, Addr.mk.injEq, and_true] at eg
      subst eg
      rw [gtT_tms hlS] at b0 b1
      simp only [tmOf] at b0 b1
      clear TW
      generalize (gt S n).at_ = xa at *
      generalize (gt S n).item = xi at *
      go_wp2_with fail
      obtain ⟨W, hW⟩ : ∃ W, W = wr.alloc (.cells #[.int .i64 xa, .int .i64 xi] 34) := ⟨_, rfl⟩
      have TWW : Hid (Touch [] wr W) := by show Touch _ _ _; rw [hW]; exact (Touch.refl _ _).alloc _
      have f0 : W.cell? ⟨g2, n * 2, none⟩ = some (.int .i64 xa) := by
        rw [World.cell?_of_block (show W.heap[g2]? = wr.heap[g2]? from TWW.out.block g2 hgl (by simp))]; exact ac0
      have f1 : W.cell? ⟨g2, n * 2 + 1, none⟩ = some (.int .i64 xi) := by
        rw [World.cell?_of_block (show W.heap[g2]? = wr.heap[g2]? from TWW.out.block g2 hgl (by simp))]; exact ac1
      have f3 : W.frozen? ⟨g2, n * 2 + 1, none⟩ = false := by
        rw [World.frozen?_of_block (show W.heap[g2]? = wr.heap[g2]? from TWW.out.block g2 hgl (by simp))]; exact af
      have f4 : W.cell? ⟨wr.heap.size, 0, none⟩ = some (.int .i64 xa) := by rw [hW]; simp
      have f5 : W.cell? ⟨wr.heap.size, 1, none⟩ = some (.int .i64 xi) := by rw [hW]; simp
      rw [← hW]
      clear hW ac0 ac1 af b0 b1
      go_region
      go_wp2
      go_roundw
      case rel => exact ⟨n + 1, by go_num, by omega, HI.out.step HN.out TWW.out.drew⟩
      case measure => simp [intOf]; omega
    · have zn : ¬ (n : Int) < (N : Int) := by omega
      have TW : Hid (Touch [] w wr) := HI.out.choose_spec.2.2
      have HFw := hid (HF.out wr TW.out)
      have HUw := hid (HU.out.keep0 TW.out)
      clear HF HI
      have hNx : Hid (∀ w1, Touch [] wr w1 → (N = 0 ∧ Calls Try.prog 27 #[.pointer (some ⟨q, 0, none⟩)] w1 fun e w' => e = .returned (.tuple #[.int .i64 0, .int .i64 0, .bool false]) ∧ Touch [] w1 w') ∨ (0 < N ∧ Calls Try.prog 27 #[.pointer (some ⟨q, 0, none⟩)] w1 fun e w' => e = .returned (.tuple #[.int .i64 (gt S 0).at_, .int .i64 (gt S 0).item, .bool true]) ∧ Touch [] w1 w')) := fun w1 t => by
        have hu := HUw.out.keep0 t
        have hN := HN.out
        cases S with
        | nil =>
          left
          refine ⟨hN, (next27_nil w1 q F p hu).mono ?_⟩
          rintro e w' ⟨he, rfl⟩
          exact ⟨he, Touch.refl _ _⟩
        | cons x S =>
          right
          exact ⟨by simp at hN; omega, next27_cons w1 q F p x S hu⟩
      have HCell : Hid (∀ w1, Touch [] wr w1 → ∀ n, n < S.length → w1.cell? ⟨g, n * 2, none⟩ = some (.int .i64 (gt S n).at_) ∧ w1.cell? ⟨g, n * 2 + 1, none⟩ = some (.int .i64 (gt S n).item)) := fun w1 t n hn => by
        obtain ⟨g', eg, eN, b0, b1⟩ := (HR.out.keep0 (TW.out.trans' t)).cells (k := n) (by rw [tms_len]; exact hn)
        simp only [Option.some.injEq, Addr.mk.injEq, and_true] at eg
        subst eg
        rw [gtT_tms hn] at b0 b1
        exact ⟨b0, b1⟩
      cases hix : idx S k with
      | none =>
        have HAt := hid (at29_none wr q F p S k HK.out HUw.out hix)
        have e : fnd (tms S) k = -1 := by rw [fnd_idx, hix]
        rw [e] at HFw
        clear hix e
        by_cases h0 : N = 0
        · have HNx : Hid (∀ w1, Touch [] wr w1 → Calls Try.prog 27 #[.pointer (some ⟨q, 0, none⟩)] w1 fun e w' => e = .returned (.tuple #[.int .i64 0, .int .i64 0, .bool false]) ∧ Touch [] w1 w') := fun w1 t => by
            rcases hNx.out w1 t with ⟨_, h⟩ | ⟨h, _⟩
            · exact h
            · omega
          have z0 : ((N : Int) == 0) = true := by simp [h0]
          clear h0
          go_wp2_with (first
            | (go_at_call 29; refine HAt.out.mono ?_; rintro e w2 ⟨rfl, rfl⟩)
            | (go_at_call 10; refine HFw.out.mono ?_; rintro e w3 ⟨rfl, t3⟩; have T3 := hid t3; clear t3)
            | (go_at_call 27; refine (HNx.out _ T3.out).mono ?_; rintro e w4 ⟨rfl, t4⟩; have T4 := hid (T3.out.trans' t4); clear t4))
          go_ret
          exact ⟨rfl, TW.out.trans' T4.out⟩
        · have HNx : Hid (∀ w1, Touch [] wr w1 → Calls Try.prog 27 #[.pointer (some ⟨q, 0, none⟩)] w1 fun e w' => e = .returned (.tuple #[.int .i64 (gt S 0).at_, .int .i64 (gt S 0).item, .bool true]) ∧ Touch [] w1 w') := fun w1 t => by
            rcases hNx.out w1 t with ⟨h, _⟩ | ⟨_, h⟩
            · omega
            · exact h
          have z0 : ((N : Int) == 0) = false := by simpa using h0
          have zp : (0 : Int) < (N : Int) := by omega
          have HC0 : Hid (∀ w1, Touch [] wr w1 → w1.cell? ⟨g, 0, none⟩ = some (.int .i64 (gt S 0).at_) ∧ w1.cell? ⟨g, 1, none⟩ = some (.int .i64 (gt S 0).item)) := fun w1 t => by
            have := HCell.out w1 t 0 (by have := HN.out; omega)
            simpa using this
          clear h0
          generalize (gt S 0).at_ = ya at *
          generalize (gt S 0).item = yi at *
          go_wp2_with (first
            | (go_at_call 29; refine HAt.out.mono ?_; rintro e w2 ⟨rfl, rfl⟩)
            | (go_at_call 10; refine HFw.out.mono ?_; rintro e w3 ⟨rfl, t3⟩; have T3 := hid t3; clear t3)
            | (go_at_call 27; refine (HNx.out _ T3.out).mono ?_; rintro e w4 ⟨rfl, t4⟩; have T4 := hid (T3.out.trans' t4); obtain ⟨c40, c41⟩ := HC0.out w4 T4.out; clear t4))
          go_ret
          exact ⟨rfl, TW.out.trans' T4.out⟩
      | some a =>
        have HAt := hid (at29_some wr q F p S k a HK.out HUw.out hix)
        have e : fnd (tms S) k = (a : Int) := by rw [fnd_idx, hix]
        rw [e] at HFw
        obtain ⟨al, _⟩ := idx_some hix
        clear hix e
        have h0 : ¬ N = 0 := by have := HN.out; omega
        have HNx : Hid (∀ w1, Touch [] wr w1 → Calls Try.prog 27 #[.pointer (some ⟨q, 0, none⟩)] w1 fun e w' => e = .returned (.tuple #[.int .i64 (gt S 0).at_, .int .i64 (gt S 0).item, .bool true]) ∧ Touch [] w1 w') := fun w1 t => by
          rcases hNx.out w1 t with ⟨h, _⟩ | ⟨_, h⟩
          · omega
          · exact h
        have z0 : ((N : Int) == 0) = false := by simpa using h0
        have zp : (0 : Int) < (N : Int) := by omega
        have za : (a : Int) < (N : Int) := by have := HN.out; omega
        have zb : (0 : Int) ≤ (a : Int) := by omega
        have HC0 : Hid (∀ w1, Touch [] wr w1 → w1.cell? ⟨g, 0, none⟩ = some (.int .i64 (gt S 0).at_) ∧ w1.cell? ⟨g, 1, none⟩ = some (.int .i64 (gt S 0).item)) := fun w1 t => by
          have := HCell.out w1 t 0 (by have := HN.out; omega)
          simpa using this
        have HCa : Hid (∀ w1, Touch [] wr w1 → w1.cell? ⟨g, a * 2, none⟩ = some (.int .i64 (gt S a).at_)) := fun w1 t => (HCell.out w1 t a al).1
        clear h0 al HCell
        generalize (gt S 0).at_ = ya at *
        generalize (gt S 0).item = yi at *
        generalize (gt S a).at_ = xa at *
        go_wp2_with (first
          | (go_at_call 29; refine HAt.out.mono ?_; rintro e w2 ⟨rfl, rfl⟩)
          | (go_at_call 10; refine HFw.out.mono ?_; rintro e w3 ⟨rfl, t3⟩; have T3 := hid t3; have ca3 := HCa.out w3 t3; clear t3)
          | (go_at_call 27; refine (HNx.out _ T3.out).mono ?_; rintro e w4 ⟨rfl, t4⟩; have T4 := hid (T3.out.trans' t4); obtain ⟨c40, c41⟩ := HC0.out w4 T4.out; clear t4))
        go_ret
        exact ⟨rfl, TW.out.trans' T4.out⟩
end Go.Proofs.Ytonkclllofbklaa
