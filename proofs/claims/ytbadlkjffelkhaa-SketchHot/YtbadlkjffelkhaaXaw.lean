/- What a nil sketch answers, that keys are counted, and the law SketchNil's walk; no conditions but those that each states. -/
import Derived.Test.YtbadlkjffelkhaaXmg
namespace Go.Proofs.Ytbadlkjffelkhaa.Sk
open Go.RowKit Go.Maps Go.ChangeMaps
set_option maxRecDepth 100000
set_option linter.unusedVariables false
set_option linter.unusedSimpArgs false
section
variable (w : World)
theorem add_nil (k : K) : Calls Try.prog 13 #[.pointer none, kv k] w fun e w' => e = .returned (.tuple #[.int .i64 0, .int .i64 1]) ∧ Touch [] w w' := by
  unfold kv
  go_enter Try.func13, Try.ntmps13
  go_wp2
  go_ret2
  exact ⟨rfl, (Touch.refl _ _).alloc _⟩
theorem merge_nil : Calls Try.prog 11 #[.pointer none, .pointer none] w fun e w' => e = .returned (.tuple #[.pointer none, .int .i64 1]) ∧ Touch [] w w' := by
  go_enter Try.func11, Try.ntmps11
  go_wp2
  go_ret2
  exact ⟨rfl, Touch.refl _ _⟩
theorem hot_nil (v : Value) : Calls Try.prog 15 #[.pointer none, .int .i64 1, v] w fun e w' => e = .returned (.tuple #[.slice none 0 0, .int .i64 1]) ∧ Touch [] w w' := by
  go_enter Try.func15, Try.ntmps15
  go_wp2
  go_ret2
  exact ⟨rfl, Touch.refl _ _⟩
theorem halve_nil : Calls Try.prog 24 #[.pointer none] w fun e w' => e = .returned (.tuple #[]) ∧ Touch [] w w' := by
  go_enter Try.func24, Try.ntmps24
  go_wp2
  exact bodyPost_ret (v := .tuple #[]) (by simp [results, Try.results24, go_sem]) rfl ⟨rfl, Touch.refl _ _⟩
theorem count_nil (k : K) : Calls Try.prog 23 #[.pointer none, kv k] w fun e w' => e = .returned (.int .i64 0) ∧ Touch [] w w' := by
  unfold kv
  go_enter Try.func23, Try.ntmps23
  go_wp2
  go_ret
  exact ⟨rfl, (Touch.refl _ _).alloc _⟩
theorem total_nil : Calls Try.prog 25 #[.pointer none] w fun e w' => e = .returned (.int .u64 0) ∧ Touch [] w w' := by
  go_enter Try.func25, Try.ntmps25
  go_wp2
  go_ret
  exact ⟨rfl, Touch.refl _ _⟩
theorem places_nil (k : K) : Calls Try.prog 26 #[.pointer none, kv k] w fun e w' => e = .returned (.slice none 0 0) ∧ Touch [] w w' := by
  unfold kv
  go_enter Try.func26, Try.ntmps26
  go_wp2
  go_ret
  exact ⟨rfl, (Touch.refl _ _).alloc _⟩
theorem clone_nil : Calls Try.prog 27 #[.pointer none] w fun e w' => e = .returned (.pointer none) ∧ Touch [] w w' := by
  go_enter Try.func27, Try.ntmps27
  go_wp2
  go_ret
  exact ⟨rfl, Touch.refl _ _⟩
set_option maxHeartbeats 1000000 in
theorem better_nil (k : K) : Calls Try.prog 20 #[.pointer none, kv k, kv k] w fun e w' => e = .returned (.bool false) ∧ Touch [] w w' := by
  obtain ⟨V, hV⟩ : ∃ V, V = (w.alloc (.cells #[.int .u16 k.1, .string k.2] 43)).alloc (.cells #[.int .u16 k.1, .string k.2] 43) := ⟨_, rfl⟩
  have TV : Touch [] w V := by rw [hV]; exact ((Touch.refl _ _).alloc _).alloc _
  have hb1 : V.heap[w.heap.size]? = some (.cells #[.int .u16 k.1, .string k.2] 43) := by rw [hV]; exact ((Touch.refl [] _).alloc _).keep (heap_alloc_new w _) (by simp)
  have hb2 : V.heap[w.heap.size + 1]? = some (.cells #[.int .u16 k.1, .string k.2] 43) := by
    have := heap_alloc_new (w.alloc (.cells #[.int .u16 k.1, .string k.2] 43)) (.cells #[.int .u16 k.1, .string k.2] 43)
    rw [World.size_alloc] at this
    rw [hV]; exact this
  have C0 : ∀ w1, Touch [] V w1 → w1.cell? ⟨w.heap.size, 0, none⟩ = some (.int .u16 k.1) := fun w1 t1 => cell_at (t1.keep hb1 (by simp)) rfl
  have C1 : ∀ w1, Touch [] V w1 → w1.cell? ⟨w.heap.size, 1, none⟩ = some (.string k.2) := fun w1 t1 => cell_at (t1.keep hb1 (by simp)) rfl
  have D0 : ∀ w1, Touch [] V w1 → w1.cell? ⟨w.heap.size + 1, 0, none⟩ = some (.int .u16 k.1) := fun w1 t1 => cell_at (t1.keep hb2 (by simp)) rfl
  have D1 : ∀ w1, Touch [] V w1 → w1.cell? ⟨w.heap.size + 1, 1, none⟩ = some (.string k.2) := fun w1 t1 => cell_at (t1.keep hb2 (by simp)) rfl
  have H1 := hid (fun w1 => count_nil w1 k)
  have zz : w.heap.size < V.heap.size := block_lt hb1
  have HT := hid TV
  clear hb1 hb2 TV
  unfold kv at *
  go_enter Try.func20, Try.ntmps20
  go_upto_region 1 with fail
  rw [← hV]
  clear hV
  go_region_held3 (fun w' => Touch [] V w') (first | assumption | exact (Touch.refl _ _).drew | exact Touch.refl _ _ | exact Touch.drew (by assumption))
    (first
      | (go_at_call 23; refine (H1.out _).mono ?_; rintro e w1 ⟨rfl, t1⟩; have T1 : Touch [] V w1 := Touch.trans' (by assumption) t1; clear t1))
  all_goals
    go_wp2
    go_ret
    exact ⟨rfl, HT.out.trans' (by assumption)⟩
theorem cnt_new {r b : Nat} (hr : 1 ≤ r) (h : Nat) : cnt (newS r b) h = 0 := by
  have := cntG_at (newS r b) h r 0 hr
  have e : at_ (newS r b) h 0 = 0 := rfl
  rw [e] at this
  exact Nat.le_zero.1 this
def kA : K := (0, ⟨#[97]⟩)
theorem kA_ok : Ok kA := ⟨by simp [kA, Lit.wf]; decide, by unfold maxLen; simp [kA, ByteArray.size]⟩
theorem kA_64 : kA.2.size ≤ 64 := by simp [kA, ByteArray.size]
set_option maxHeartbeats 1000000 in
theorem awake_ : Calls Try.prog 9 #[] w fun e w' => e = .returned (.bool true) ∧ Touch [] w w' := by
  have HN := hid (fun w => new_ok 2 4 (by omega) (by omega) (by omega) w)
  obtain ⟨h, hh⟩ : ∃ h, h = hK kA := ⟨_, rfl⟩
  have v1 : addV (newS 2 4) h = 1 := by unfold addV; rw [cnt_new (by omega)]; rfl
  have v2 : addV (addS (newS 2 4) h) h = 2 := by unfold addV; rw [cnt_addS, v1]; rfl
  have v3 : cnK (addS (addS (newS 2 4) h) h) kA = 2 := by unfold cnK; rw [if_pos kA_64, ← hh, cnt_addS, v2]
  have H1 : Hid (∀ w1 s g cap, Kq w1 s g cap (newS 2 4) → Calls Try.prog 13 #[PT s, kv kA] w1 fun e w' => e = .returned (.tuple #[.int .i64 1, .int .i64 0]) ∧ Touch [s, g] w1 w' ∧ Kq w' s g cap (addS (newS 2 4) h)) := hid (fun w1 s g cap k1 => by
    have := add_ok k1 kA_ok kA_64
    rw [← hh, v1] at this
    exact this)
  have H2 : Hid (∀ w1 s g cap, Kq w1 s g cap (addS (newS 2 4) h) → Calls Try.prog 13 #[PT s, kv kA] w1 fun e w' => e = .returned (.tuple #[.int .i64 2, .int .i64 0]) ∧ Touch [s, g] w1 w' ∧ Kq w' s g cap (addS (addS (newS 2 4) h) h)) := hid (fun w1 s g cap k1 => by
    have := add_ok k1 kA_ok kA_64
    rw [← hh, v2] at this
    exact this)
  have H3 : Hid (∀ w1 s g cap, Kq w1 s g cap (addS (addS (newS 2 4) h) h) → Calls Try.prog 23 #[PT s, kv kA] w1 fun e w' => e = .returned (.int .i64 2) ∧ Touch [] w1 w') := hid (fun w1 s g cap k1 => by
    have := count_ k1 kA_ok
    rw [v3] at this
    exact this)
  clear v1 v2 v3 hh
  have HN : Hid (∀ w, Calls Try.prog 22 #[.int .i64 2, .int .i64 4] w fun e w' => ∃ s g cap, e = .returned (.tuple #[.pointer (some ⟨s, 0, none⟩), .int .i64 0]) ∧ w.heap.size ≤ s ∧ w.heap.size ≤ g ∧ Kq w' s g cap (newS 2 4) ∧ Touch [] w w') := hid (fun w => by
    refine (HN.out w).mono ?_
    rintro e w' ⟨v, rfl, s, g, cap, rfl, q⟩
    exact ⟨s, g, cap, rfl, q⟩)
  generalize newS 2 4 = X0 at *
  unfold kv PT kA at *
  go_enter Try.func9, Try.ntmps9
  go_wp2_with (first
    | (go_at_call 22; refine (HN.out _).mono ?_; rintro e w1 ⟨s, g, cap, rfl, l1, l2, K1, T1⟩; have L := hid (And.intro l1 (And.intro l2 T1)); have K1 := hid K1; clear l1 l2 T1)
    | (go_at_call 13; refine (H2.out _ _ _ _ K2.out).mono ?_; rintro e w3 ⟨rfl, T3, K3⟩; have T3 := hid T3; have K3 := hid K3)
    | (go_at_call 13; refine (H1.out _ _ _ _ K1.out).mono ?_; rintro e w2 ⟨rfl, T2, K2⟩; have T2 := hid T2; have K2 := hid K2)
    | (go_at_call 23; refine (H3.out _ _ _ _ K3.out).mono ?_; rintro e w4 ⟨rfl, T4⟩; have T4 := hid T4))
  go_ret
  have hs : ∀ i, i ∈ [s, g] → i ∈ ([] : List Nat) ∨ w.heap.size ≤ i := fun i hi => by
    simp only [List.mem_cons, List.mem_nil_iff, or_false] at hi
    rcases hi with rfl | rfl
    · exact Or.inr L.out.1
    · exact Or.inr L.out.2.1
  exact ⟨rfl, ((L.out.2.2.trans T2.out hs).trans T3.out hs).trans' T4.out⟩
end
end Go.Proofs.Ytbadlkjffelkhaa.Sk
