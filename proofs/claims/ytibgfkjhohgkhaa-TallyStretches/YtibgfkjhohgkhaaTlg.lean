/- The law's look that the program is awake, and its few; no conditions but those that each states. -/
import Derived.Test.YtibgfkjhohgkhaaTlf
namespace Go.Proofs.Ytibgfkjhohgkhaa.Ty
open Go.RowKit Go.Maps Go.ChangeMaps
open Tr
set_option linter.unusedVariables false
set_option linter.unusedSimpArgs false
def eA : Ez := ⟨0, 1, 0, 0, 0, 0, 1, 0, ⟨#[]⟩, 0, 0, 0, 0⟩
theorem eA_ok : eA.ok := by
  refine ⟨?_, ?_, ?_, ?_, ?_, ?_, ?_, ?_, ?_, ?_, ?_, ?_, ?_⟩ <;> first | exact W64.mk (by decide) (by decide) | rfl | exact Nat.zero_le _
theorem ofA : ofL [eA] 1 = 1 ∧ ofL [eA] 13 = 1 ∧ ofL [eA] 25 = 1 := by
  refine ⟨?_, ?_, ?_⟩ <;> rfl
theorem ev_one {w' : World} {g : Nat} (e : Ez) (h : Ib w' g e) : Ev w' (.slice (some ⟨g, 0, none⟩) 1 1) [e] := by
  refine ⟨_, 1, rfl, Nat.le_refl _, fun _ => ⟨g, 0, rfl, cell_lt h.c0, fun i x hi => ?_⟩⟩
  match i, hi with
  | 0, hi =>
    simp at hi
    subst hi
    exact ⟨h.c0, h.c1, h.c2, h.c3, h.c4, h.c5, h.c6, h.c7, h.c8, h.c9, h.c10, h.c11, h.c12⟩
set_option maxRecDepth 20000 in
theorem awake_ (w : World) : Calls Try.prog 11 #[] w fun r w' => r = .returned (.bool true) ∧ Touch [] w w' := by
  have HV := hid (show ∀ w' : World, Ib (w'.alloc (.cells #[.int .i64 0, .int .i64 1, .int .i64 0, .int .i64 0, .int .i64 0, .int .i64 0, .int .i64 1, .int .u16 0, .string ⟨#[]⟩, .int .i64 0, .int .i64 0, .int .i64 0, .int .i64 0] 69)) w'.heap.size eA from fun w' => Ib.new w' eA _)
  have T0 := hid ((Touch.refl [] w).alloc (.cells #[.int .i64 0, .int .i64 1, .int .i64 0, .int .i64 0, .int .i64 0, .int .i64 0, .int .i64 1, .int .u16 0, .string ⟨#[]⟩, .int .i64 0, .int .i64 0, .int .i64 0, .int .i64 0] 69))
  have HA := hid ofA
  have HC := hid (of_ (L := [eA]) (ev_one eA (HV.out w)) (by simp) (fun e he => by simp at he; rw [he]; exact eA_ok))
  go_enter Try.func11, Try.ntmps11
  go_wp2_with (first | (go_at_call 8; refine HC.out.mono ?_; rintro r w1 ⟨rfl, t1⟩; have T1 := hid (T0.out.trans' t1); clear t1) | (refine wpList_storeT big28 rfl _ _ rfl w1.heap.size (ic 27 z0) (ic 27 (ofL [eA])) 28 rfl rfl (heap_alloc_new w1 _) (ic_size _ _) (ic_size _ _) ic_one ?_; intro w3 h3 t3 s3; have T3 := hid ((T1.out.alloc _).trans t3 (fun i hi => Or.inr (by simp at hi; have := T1.out.size; omega))); have R3 : Row w3 w1.heap.size 27 (ofL [eA]) 28 := h3; have q1 := R3.cell (i := 1) (by omega); have q2 := R3.cell (i := 13) (by omega); have q3 := R3.cell (i := 25) (by omega); rw [HA.out.1] at q1; rw [HA.out.2.1] at q2; rw [HA.out.2.2] at q3; clear h3 t3 s3 R3))
  go_ret
  exact ⟨rfl, T3.out⟩
/-- At most 2000 events. -/
theorem few_ {w : World} {v : Value} {L : List Ez} (h : Ev w v L) : ∃ v', Ev w v' (L.take 2000) ∧ Calls Try.prog 7 #[v] w fun r w' => r = .returned v' ∧ w' = w := by
  obtain ⟨a, c, rfl, hc, hrow⟩ := h
  obtain ⟨n, hn⟩ : ∃ n, L.length = n := ⟨_, rfl⟩
  by_cases hb : n ≤ 2000
  · refine ⟨.slice a L.length c, ⟨a, c, by rw [List.take_of_length_le (by omega)], by rw [List.take_of_length_le (by omega)]; exact hc, by rw [List.take_of_length_le (by omega)]; exact hrow⟩, ?_⟩
    rw [hn] at hc ⊢
    clear hrow hn
    go_enter Try.func7, Try.ntmps7
    go_wp2
    go_ret
    exact ⟨rfl, rfl⟩
  · obtain ⟨g, off, rfl, hg, hr⟩ := hrow (by omega)
    have hl : (L.take 2000).length = 2000 := by rw [List.length_take]; omega
    refine ⟨.slice (some ⟨g, off, none⟩) 2000 c, ⟨_, c, by rw [hl], by rw [hl]; omega, fun _ => ⟨g, off, rfl, hg, fun i e hi => hr i e ?_⟩⟩, ?_⟩
    · rw [List.getElem?_take] at hi
      split at hi
      · exact hi
      · cases hi
    · have hb' : (2000 : Int) < (n : Int) := by omega
      have hc' : (2000 : Int) ≤ (c : Int) := by omega
      rw [hn] at hc ⊢
      clear hr hn
      go_enter Try.func7, Try.ntmps7
      go_wp2
      go_ret
      exact ⟨rfl, rfl⟩
end Go.Proofs.Ytibgfkjhohgkhaa.Ty
