/- The document's record as a value; the contracts of its Waits, Interest and left. -/
import Derived.Test.YtaikleaiofpebaaRea
namespace Go.Proofs.Ytaikleaiofpebaa
open Go.RowKit Go.Maps Go.ChangeMaps
set_option linter.unusedVariables false
set_option linter.unusedSimpArgs false
def dc (u : Value) (S : St) : Array Value := #[u, .bool S.kept, .bool S.canc, .bool S.ended, .int .i64 S.out.1, .int .i64 S.out.2.1, .int .i64 S.out.2.2.1, .int .i64 S.out.2.2.2]
def dv (u : Value) (S : St) : Value := .agg (dc u S)
theorem Rd.at {w : World} {v : Value} {xs : List Int} (h : Rd w v xs) {a : Option Addr} {n c : Nat} (hv : v = .slice a n c) {i : Nat} {x : Int} (hx : xs[i]? = some x) : ∃ b, a = some ⟨b, 0, none⟩ ∧ w.cell? ⟨b, i, none⟩ = some (.int .i64 x) := by
  obtain ⟨hi, rfl⟩ := List.getElem?_eq_some_iff.1 hx
  subst hv
  exact h.cell hi
set_option maxHeartbeats 4000000 in
set_option maxRecDepth 100000 in
theorem rwaits27 (w : World) (u : Value) (S : St) (h : Rd w u S.who) (hle : S.who.length ≤ 3000000000000) (x : Int) : Calls Try.prog 27 #[dv u S, .int .i64 x] w fun e w' => e = .returned (.bool (decide (x ∈ S.who))) ∧ Touch [] w w' := by
  obtain ⟨a, c, rfl, _, _⟩ := h.form
  obtain ⟨V, hV⟩ : ∃ V, V = w.alloc (.cells (dc (.slice a S.who.length c) S) 39) := ⟨_, rfl⟩
  have TV : Hid (Touch [] w V) := by rw [hV]; exact (Touch.refl _ _).alloc _
  have c0 : V.cell? ⟨w.heap.size, 0, none⟩ = some (.slice a S.who.length c) := by rw [hV]; exact cell_at (heap_alloc_new w _) rfl
  have HR : Hid (∀ i y, S.who[i]? = some y → ∃ b, a = some ⟨b, 0, none⟩ ∧ V.cell? ⟨b, i, none⟩ = some (.int .i64 y)) := fun i y hy => (h.keep0 TV.out).at rfl hy
  have HX : Hid (∀ i, i < S.who.length → ∃ y, S.who[i]? = some y) := fun i hi => ⟨_, List.getElem?_eq_getElem hi⟩
  have HY : Hid (∀ i, S.who[i]? = some x → decide (x ∈ S.who) = true) := fun i hi => by simp; exact List.mem_of_getElem? hi
  have HN : Hid ((∀ i y, i < S.who.length → S.who[i]? = some y → y ≠ x) → decide (x ∈ S.who) = false) := fun hh => by
    simp
    intro hm
    obtain ⟨i, hi, e⟩ := List.getElem_of_mem hm
    exact hh i x hi (by rw [List.getElem?_eq_getElem hi, e]) rfl
  have HLE := hid hle
  clear h hle
  generalize decide (x ∈ S.who) = B at *
  unfold dv
  unfold dc at *
  go_enter Try.func27, Try.ntmps27
  go_upto_region 1 with fail
  rw [← hV]
  clear hV
  go_wp2
  go_loop [5] (fun i => ∃ j : Nat, i = .int .i64 (j : Nat) ∧ j ≤ S.who.length ∧ Hid (∀ q y, q < j → S.who[q]? = some y → y ≠ x)) (fun i => S.who.length - (intOf i).toNat)
  case atStart => exact ⟨0, rfl, Nat.zero_le _, fun q y hq => absurd hq (Nat.not_lt_zero _)⟩
  case round =>
    obtain ⟨j, rfl, hj, HP⟩ := hrel
    by_cases hlt : j < S.who.length
    · have zk : (j : Int) < (S.who.length : Int) := by omega
      have zL : (S.who.length : Int) < 9223372036854775807 := by have := HLE.out; omega
      obtain ⟨y, hy⟩ := HX.out j hlt
      obtain ⟨b, rfl, hc⟩ := HR.out j y hy
      by_cases he : y = x
      · subst he
        have hB := HY.out j hy
        clear HP hy HR HX HY HN
        subst hB
        go_wp2
        go_ret
        exact ⟨rfl, TV.out⟩
      · have HP2 : Hid (∀ q z, q < j + 1 → S.who[q]? = some z → z ≠ x) := fun q z hq hz => by
          by_cases e : q = j
          · subst e; rw [hy] at hz; cases hz; exact he
          · exact HP.out q z (by omega) hz
        have hne : (y == x) = false := by simp [he]
        clear he HP hy
        go_wp2
        go_round
        case rel => exact ⟨j + 1, by go_num, by omega, HP2⟩
        case measure => simp [intOf]; omega
    · have e' : j = S.who.length := by omega
      subst e'
      have hB := HN.out HP.out
      clear HP HR HX HY HN hlt hj
      subst hB
      go_wp2
      go_ret
      exact ⟨rfl, TV.out⟩
theorem rinter28 (w : World) (u : Value) (S : St) (h : Rd w u S.who) (hle : S.who.length ≤ 3000000000000) : Calls Try.prog 28 #[dv u S] w fun e w' => e = .returned (.int .i64 (inter S)) ∧ Touch [] w w' := by
  obtain ⟨a, c, rfl, _, _⟩ := h.form
  have hwr : IntKind.i64.wrap ((S.who.length : Int) + 1) = (S.who.length : Int) + 1 := by rw [IntKind.wrap_i64]; omega
  clear h hle
  unfold inter dv dc
  generalize (S.who.length : Nat) = n at *
  cases S.kept
  · go_enter Try.func28, Try.ntmps28
    go_wp2
    go_ret
    exact ⟨by simp, (Touch.refl _ _).alloc _⟩
  · cases S.ended
    · go_enter Try.func28, Try.ntmps28
      go_wp2
      go_ret
      exact ⟨by simp, (Touch.refl _ _).alloc _⟩
    · go_enter Try.func28, Try.ntmps28
      go_wp2
      go_ret
      exact ⟨by simp, (Touch.refl _ _).alloc _⟩
/-- The box of the document's record, and the one for the answer. -/
def z39 : Array Value := #[.slice none 0 0, .bool false, .bool false, .bool false, .int .i64 0, .int .i64 0, .int .i64 0, .int .i64 0]
structure Dcs (w : World) (b : Nat) (u : Value) (S : St) : Prop where
  c0 : w.cell? ⟨b, 0, none⟩ = some u
  c1 : w.cell? ⟨b, 1, none⟩ = some (.bool S.kept)
  c2 : w.cell? ⟨b, 2, none⟩ = some (.bool S.canc)
  c3 : w.cell? ⟨b, 3, none⟩ = some (.bool S.ended)
  c4 : w.cell? ⟨b, 4, none⟩ = some (.int .i64 S.out.1)
  c5 : w.cell? ⟨b, 5, none⟩ = some (.int .i64 S.out.2.1)
  c6 : w.cell? ⟨b, 6, none⟩ = some (.int .i64 S.out.2.2.1)
  c7 : w.cell? ⟨b, 7, none⟩ = some (.int .i64 S.out.2.2.2)
theorem dcs_at {w : World} {b : Nat} {u : Value} {S : St} (h : w.heap[b]? = some (.cells (dc u S) 39 (0, 0))) : Dcs w b u S :=
  ⟨cell_at h rfl, cell_at h rfl, cell_at h rfl, cell_at h rfl, cell_at h rfl, cell_at h rfl, cell_at h rfl, cell_at h rfl⟩
def Sz : St := ⟨[], false, false, false, oz⟩
theorem z39_eq : z39 = dc (.slice none 0 0) Sz := rfl
set_option maxHeartbeats 2000000 in
theorem rleft37 (w : World) (u : Value) (S : St) (h : Rd w u S.who) (hle : S.who.length ≤ 3000000000000) (hc : S.canc = false) : Calls Try.prog 37 #[dv u S] w fun e w' => e = .returned (.tuple #[dv u (leftS S), .bool (leftB S)]) ∧ Touch [] w w' := by
  obtain ⟨V, hV⟩ : ∃ V, V = (w.alloc (.cells (dc u S) 39)).alloc (.cells z39 39) := ⟨_, rfl⟩
  have TV : Hid (Touch [] w V) := by rw [hV]; exact ((Touch.refl _ _).alloc _).alloc _
  have hb0 : V.heap[w.heap.size]? = some (.cells (dc u S) 39 (0, 0)) := by rw [hV]; exact ((Touch.refl [] _).alloc _).keep (heap_alloc_new w _) (by simp)
  have hb1 : V.heap[w.heap.size + 1]? = some (.cells z39 39 (0, 0)) := by
    rw [hV]
    have := heap_alloc_new (w.alloc (.cells (dc u S) 39)) (.cells z39 39)
    rwa [World.size_alloc] at this
  have HI := hid (rinter28 V u S (h.keep0 TV.out) hle)
  have HQ : Hid (∀ w2, Touch [] V w2 → Dcs w2 w.heap.size u S ∧ (∀ i, w2.frozen? ⟨w.heap.size, i, none⟩ = false) ∧ Dcs w2 (w.heap.size + 1) (.slice none 0 0) Sz ∧ (∀ i, w2.frozen? ⟨w.heap.size + 1, i, none⟩ = false)) := fun w2 T => by
    have q0 := T.keep hb0 (by simp)
    have q1 := T.keep hb1 (by simp)
    exact ⟨dcs_at q0, froz_at q0, dcs_at q1, froz_at q1⟩
  obtain ⟨⟨i0, i1, i2, i3, i4, i5, i6, i7⟩, -⟩ := HQ.out V (Touch.refl _ _)
  obtain ⟨a, c, rfl, _, _⟩ := h.form
  have HB : Hid (leftB S = decide (inter S = 0)) := rfl
  have HP : Hid (0 ≤ inter S) := by unfold inter; exact hid (by split <;> omega)
  unfold dv at *
  unfold leftS
  rw [HB.out]
  unfold dc at *
  simp only
  have HCC := hid hc
  rw [hc] at i2 hV HI ⊢
  clear h hle hb0 hb1 HB hc
  generalize inter S = n at *
  obtain ⟨b0, hb0⟩ : ∃ b0, b0 = w.heap.size := ⟨_, rfl⟩
  unfold z39 at hV
  unfold Sz oz at HQ
  by_cases h0 : n = 0
  · subst h0
    simp only [decide_true]
    go_enter Try.func37, Try.ntmps37
    go_upto_region 1 with fail
    rw [← hV]
    clear hV
    go_wp2_with (go_at_call 28; refine HI.out.mono ?_; rintro e w2 ⟨rfl, t2⟩; have T2 := hid (TV.out.trans' t2); obtain ⟨⟨c0, c1, c2, c3, c4, c5, c6, c7⟩, ff, ⟨d0, d1, d2, d3, d4, d5, d6, d7⟩, gg⟩ := HQ.out w2 t2; rw [HCC.out] at c2; clear t2)
    refine bodyPost_ret (v := .tuple #[.agg #[.slice a S.who.length c, .bool S.kept, .bool true, .bool S.ended, .int .i64 S.out.1, .int .i64 S.out.2.1, .int .i64 S.out.2.2.1, .int .i64 S.out.2.2.2], .bool true]) (by simp [results, Try.results37, go_sem, d0, d1, d2, d3, d4, d5, d6, d7]) rfl ⟨rfl, ?_⟩
    iterate 9 (refine Touch.setCell ?_ (Or.inr (by simp)) _)
    exact T2.out
  · have hn : 0 < n := by have := HP.out; omega
    have e0 : decide (n = 0) = false := by simp [h0]
    rw [e0]
    clear h0 e0
    go_enter Try.func37, Try.ntmps37
    go_upto_region 1 with fail
    rw [← hV]
    clear hV
    go_wp2_with (go_at_call 28; refine HI.out.mono ?_; rintro e w2 ⟨rfl, t2⟩; have T2 := hid (TV.out.trans' t2); obtain ⟨⟨c0, c1, c2, c3, c4, c5, c6, c7⟩, ff, ⟨d0, d1, d2, d3, d4, d5, d6, d7⟩, gg⟩ := HQ.out w2 t2; rw [HCC.out] at c2; clear t2)
    refine bodyPost_ret (v := .tuple #[.agg #[.slice a S.who.length c, .bool S.kept, .bool false, .bool S.ended, .int .i64 S.out.1, .int .i64 S.out.2.1, .int .i64 S.out.2.2.1, .int .i64 S.out.2.2.2], .bool false]) (by simp [results, Try.results37, go_sem, d0, d1, d2, d3, d4, d5, d6, d7]) rfl ⟨rfl, ?_⟩
    iterate 8 (refine Touch.setCell ?_ (Or.inr (by simp)) _)
    exact T2.out
end Go.Proofs.Ytaikleaiofpebaa
