/- The document's batch as a value, and the contracts of its small functions: May, wrong, Due, Force; no conditions but those that each states. -/
import Derived.Test.YtogojdeohohhhaaBsm
namespace Go.Proofs.Ytogojdeohohhhaa
open Go.RowKit Go.Maps Go.ChangeMaps
set_option linter.unusedVariables false
set_option linter.unusedSimpArgs false
def dc (u : Value) (S : Bs) : Array Value := #[.int .i64 S.cnt, .int .i64 S.win, u, .int .i64 S.snc, .int .i64 S.tim, .int .i64 S.lst, .int .i64 S.snt]
def dv (u : Value) (S : Bs) : Value := .agg (dc u S)
def zd : Array Value := #[.int .i64 0, .int .i64 0, .slice none 0 0, .int .i64 0, .int .i64 0, .int .i64 0, .int .i64 0]
/-- The document's row is the one it was, or new. -/
def Un (w : World) (u u' : Value) : Prop := u' = u ∨ ∀ q, u'.ownBlock = some q → w.heap.size ≤ q
theorem Un.refl (w : World) (u : Value) : Un w u u := Or.inl rfl
structure Dcs (w : World) (b : Nat) (u : Value) (S : Bs) : Prop where
  c0 : w.cell? ⟨b, 0, none⟩ = some (.int .i64 S.cnt)
  c1 : w.cell? ⟨b, 1, none⟩ = some (.int .i64 S.win)
  c2 : w.cell? ⟨b, 2, none⟩ = some u
  c3 : w.cell? ⟨b, 3, none⟩ = some (.int .i64 S.snc)
  c4 : w.cell? ⟨b, 4, none⟩ = some (.int .i64 S.tim)
  c5 : w.cell? ⟨b, 5, none⟩ = some (.int .i64 S.lst)
  c6 : w.cell? ⟨b, 6, none⟩ = some (.int .i64 S.snt)
  ff : ∀ i, w.frozen? ⟨b, i, none⟩ = false
theorem dcs_at {w : World} {b : Nat} {u : Value} {S : Bs} (h : w.heap[b]? = some (.cells (dc u S) 31 (0, 0))) : Dcs w b u S :=
  ⟨cell_at h rfl, cell_at h rfl, cell_at h rfl, cell_at h rfl, cell_at h rfl, cell_at h rfl, cell_at h rfl, froz_at h⟩
def Sz : Bs := ⟨0, 0, 0, 0, [], 0, 0⟩
theorem box2 (w : World) (u : Value) (S : Bs) (V : World) (hV : V = (w.alloc (.cells (dc u S) 31)).alloc (.cells zd 31)) : Touch [] w V ∧ V.heap.size = w.heap.size + 2 ∧ V.heap[w.heap.size]? = some (.cells (dc u S) 31 (0, 0)) ∧ V.heap[w.heap.size + 1]? = some (.cells (dc (.slice none 0 0) Sz) 31 (0, 0)) := by
  refine ⟨by rw [hV]; exact ((Touch.refl _ _).alloc _).alloc _, by rw [hV, World.size_alloc, World.size_alloc], by rw [hV]; exact ((Touch.refl [] _).alloc _).keep (heap_alloc_new w _) (by simp), ?_⟩
  rw [hV]
  have := heap_alloc_new (w.alloc (.cells (dc u S) 31)) (.cells zd 31)
  rwa [World.size_alloc] at this
theorem may_ (w : World) (c k : Int) : Calls Try.prog 6 #[.int .i64 c, .int .i64 k] w fun e w' => e = .returned (.bool (decide (1 ≤ c) && decide (c ≤ 1024) && decide (0 ≤ k))) ∧ w' = w := by
  by_cases h1 : 1 ≤ c
  · by_cases h2 : c ≤ 1024
    · by_cases h3 : 0 ≤ k
      · go_enter Try.func6, Try.ntmps6
        go_wp2
        go_ret
        exact ⟨by simp [h1, h2, h3], rfl⟩
      · go_enter Try.func6, Try.ntmps6
        go_wp2
        go_ret
        exact ⟨by simp [h3], rfl⟩
    · go_enter Try.func6, Try.ntmps6
      go_wp2
      go_ret
      exact ⟨by simp; intros; omega, rfl⟩
  · go_enter Try.func6, Try.ntmps6
    go_wp2
    go_ret
    exact ⟨by simp; intros; omega, rfl⟩
section
variable (w : World) (u : Value) (S : Bs)
theorem rwrong_ (hu : ∃ a n c, u = .slice a n c) (x : Int) : Calls Try.prog 27 #[dv u S, .int .i64 x] w fun e w' => e = .returned (.int .i64 (wrongE S x)) ∧ Touch [] w w' := by
  obtain ⟨a, k, c, rfl⟩ := hu
  have HT : Hid (Touch [] w (w.alloc (.cells (dc (.slice a k c) S) 31))) := hid ((Touch.refl _ _).alloc _)
  unfold dc at HT
  unfold dv dc
  by_cases h0 : x < 0
  · rw [show wrongE S x = 10 by simp [wrongE, h0]]
    go_enter Try.func27, Try.ntmps27
    go_wp2
    go_ret
    exact ⟨rfl, HT.out⟩
  · by_cases h1 : 4611686018427387904 < x
    · rw [show wrongE S x = 10 by simp [wrongE, h1]]
      go_enter Try.func27, Try.ntmps27
      go_wp2
      go_ret
      exact ⟨rfl, HT.out⟩
    · by_cases h2 : x < S.tim
      · rw [show wrongE S x = 50 by simp [wrongE, h0, h1, h2]]
        go_enter Try.func27, Try.ntmps27
        go_wp2
        go_ret
        exact ⟨rfl, HT.out⟩
      · rw [show wrongE S x = 0 by simp [wrongE, h0, h1, h2]]
        go_enter Try.func27, Try.ntmps27
        go_wp2
        go_ret
        exact ⟨rfl, HT.out⟩
theorem rdue_ (h : Rd w u S.run) (h1 : 0 ≤ S.snc) (h2 : S.snc ≤ 4611686018427387904) (h3 : 0 ≤ S.win) (h4 : S.win ≤ 9223372036854775807) : Calls Try.prog 10 #[dv u S] w fun e w' => e = .returned (.tuple #[.int .i64 (dueV S), .bool (decide (S.run ≠ []))]) ∧ Touch [] w w' := by
  obtain ⟨a, c, rfl, _, _⟩ := h.form
  have HT : Hid (Touch [] w (w.alloc (.cells (dc (.slice a S.run.length c) S) 31))) := hid ((Touch.refl _ _).alloc _)
  have hw : IntKind.i64.wrap (4611686018427387904 - S.snc) = 4611686018427387904 - S.snc := by simp [IntKind.wrap, IntKind.bits, IntKind.signed, IntKind.min, IntKind.max]; omega
  clear h
  unfold dc at HT
  unfold dv dc
  by_cases he : S.run = []
  · rw [show dueV S = 0 by simp [dueV, he], show decide (S.run ≠ []) = false by simp [he]]
    rw [he] at HT ⊢
    go_enter Try.func10, Try.ntmps10
    go_wp2
    exact bodyPost_ret (v := .tuple #[.int .i64 0, .bool false]) (by simp [results, Try.results10, go_sem]) rfl ⟨rfl, HT.out⟩
  · rw [show decide (S.run ≠ []) = true by simp [he]]
    have hl : 0 < S.run.length := List.length_pos_iff.2 he
    have hd : dueV S = aft S.snc S.win := by unfold dueV; rw [if_neg he]; rfl
    rw [hd]
    generalize S.run.length = m at *
    have hz : ((m : Int) == 0) = false := by simp; omega
    clear hd he hl
    by_cases hs : 4611686018427387904 - S.snc < S.win
    · rw [show aft S.snc S.win = 4611686018427387904 by unfold aft; rw [if_pos hs]]
      go_enter Try.func10, Try.ntmps10
      go_wp2
      exact bodyPost_ret (v := .tuple #[.int .i64 4611686018427387904, .bool true]) (by simp [results, Try.results10, go_sem]) rfl ⟨rfl, HT.out⟩
    · rw [show aft S.snc S.win = S.snc + S.win by unfold aft; rw [if_neg hs]]
      have hv : IntKind.i64.wrap (S.snc + S.win) = S.snc + S.win := by simp [IntKind.wrap, IntKind.bits, IntKind.signed, IntKind.min, IntKind.max]; omega
      go_enter Try.func10, Try.ntmps10
      go_wp2
      exact bodyPost_ret (v := .tuple #[.int .i64 (S.snc + S.win), .bool true]) (by simp [results, Try.results10, go_sem]) rfl ⟨rfl, HT.out⟩
def RfE (e : Ending) (w w' : World) (u : Value) (S : Bs) : Prop := ∃ u', e = .returned (.tuple #[dv u' (forceS S), u]) ∧ (∃ a n c, u' = .slice a n c) ∧ Rd w' u' (forceS S).run ∧ (∀ q, u'.ownBlock = some q → w.heap.size ≤ q) ∧ Rd w' u S.run ∧ Touch [] w w'
theorem force_run (S : Bs) : (forceS S).run = [] := by
  unfold forceS
  split
  · rename_i h; exact h
  · rfl
theorem rd_none (w : World) (g : Nat) : Rd w (.slice (some ⟨g, 0, none⟩) 0 0) [] := ⟨_, 0, rfl, Nat.le_refl _, Nat.zero_le _, fun q => (by cases q), Or.inl rfl⟩
set_option maxHeartbeats 2000000 in
theorem rforce_ (h : Rd w u S.run) (hn : 0 ≤ S.snt) (hm : S.snt < 9000000000000000000) : Calls Try.prog 22 #[dv u S] w fun e w' => RfE e w w' u S := by
  obtain ⟨a, c, rfl, _, _⟩ := h.form
  obtain ⟨V, hV⟩ : ∃ V, V = (w.alloc (.cells (dc (.slice a S.run.length c) S) 31)).alloc (.cells zd 31) := ⟨_, rfl⟩
  obtain ⟨tv, hz, hb0, hb1⟩ := box2 w (.slice a S.run.length c) S V hV
  have HX : Hid (∀ S' w', S' = forceS S → Touch [] w w' → RfE (.returned (.tuple #[dv (.slice (some ⟨V.heap.size, 0, none⟩) 0 0) S', .slice a S.run.length c])) w w' (.slice a S.run.length c) S) := hid (fun S' w' e T => by
    subst e
    refine ⟨_, rfl, ⟨_, _, _, rfl⟩, ?_, fun q hq => ?_, h.keep0 T, T⟩
    · rw [force_run]; exact rd_none _ _
    · simp only [Value.ownBlock, Option.some.injEq] at hq; omega)
  have TV := hid tv
  obtain ⟨c0, c1, c2, c3, c4, c5, c6, ff⟩ := dcs_at hb0
  obtain ⟨d0, d1, d2, d3, d4, d5, d6, gg⟩ := dcs_at hb1
  have lt0 : w.heap.size < V.heap.size := by omega
  have lt1 : w.heap.size + 1 < V.heap.size := by omega
  have hw : IntKind.i64.wrap (S.snt + 1) = S.snt + 1 := by simp [IntKind.wrap, IntKind.bits, IntKind.signed, IntKind.min, IntKind.max]; omega
  clear h tv hz hb0 hb1 hn hm
  unfold dc zd at hV
  unfold dv dc at HX ⊢
  by_cases he : S.run = []
  · have e1 : S = forceS S := by unfold forceS; rw [if_pos he]
    have HX2 := hid (HX.out S · e1)
    simp only [he, List.length_nil] at c2 hV HX2 ⊢
    clear HX e1 he hw
    go_enter Try.func22, Try.ntmps22
    go_upto_region 1 with fail
    rw [← hV]
    clear hV
    go_wp2
    refine bodyPost_ret (v := .tuple #[.agg #[.int .i64 S.cnt, .int .i64 S.win, .slice (some ⟨V.heap.size, 0, none⟩) 0 0, .int .i64 S.snc, .int .i64 S.tim, .int .i64 S.lst, .int .i64 S.snt], .slice a 0 c]) (by simp [results, Try.results22, go_sem, d0, d1, d2, d3, d4, d5, d6, World.cell?_alloc_lt, lt1]) rfl (HX2.out _ ?_)
    refine Touch.alloc ?_ _
    iterate 8 (refine Touch.setCell ?_ (Or.inr (by simp)) _)
    exact TV.out
  · have e1 : { S with run := [], snt := S.snt + 1 } = forceS S := by unfold forceS; rw [if_neg he]
    have HX2 := hid (HX.out _ · e1)
    simp only at HX2
    have hl : 0 < S.run.length := List.length_pos_iff.2 he
    generalize S.run.length = m at *
    have hz : 0 < (m : Int) := by omega
    clear HX e1 he hl
    go_enter Try.func22, Try.ntmps22
    go_upto_region 1 with fail
    rw [← hV]
    clear hV
    go_wp2
    refine bodyPost_ret (v := .tuple #[.agg #[.int .i64 S.cnt, .int .i64 S.win, .slice (some ⟨V.heap.size, 0, none⟩) 0 0, .int .i64 S.snc, .int .i64 S.tim, .int .i64 S.lst, .int .i64 (S.snt + 1)], .slice a m c]) (by simp [results, Try.results22, go_sem, d0, d1, d2, d3, d4, d5, d6, World.cell?_alloc_lt, lt1]) rfl (HX2.out _ ?_)
    refine Touch.alloc ?_ _
    iterate 9 (refine Touch.setCell ?_ (Or.inr (by simp)) _)
    exact TV.out
end
end Go.Proofs.Ytogojdeohohhhaa
