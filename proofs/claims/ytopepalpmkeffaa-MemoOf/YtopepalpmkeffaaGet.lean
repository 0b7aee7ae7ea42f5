/- Contracts of Get, Look and Tell; no conditions but those that each states. -/
import Derived.Test.YtopepalpmkeffaaLo2
namespace Go.Proofs.Ytopepalpmkeffaa
open Go.RowKit Go.Sort Go.Maps Go.ChangeMaps Go.WideMaps
set_option linter.unusedVariables false
set_option linter.unusedSimpArgs false
def nvz : Value := .agg #[.int .u16 0, .string ⟨#[]⟩, .int .i64 0, .int .i64 0, .int .i64 0, .int .i64 0, .int .i64 0]
def getS (xs : List En) (k : K) : Value × Bool := match fnd xs k with
  | none => (nvz, false)
  | some v => (nv (k, v), true)
set_option maxHeartbeats 2000000 in
theorem get24_no (w : World) (m b o : Nat) (G : List Nat) (c : Cf) (now : Int) (xs : List En) (h : Mb w m b o G c now xs) (k : K) (hk : Ok k) (hf : fnd xs k = none) :
    Calls Try.prog 24 #[PT m, kv k] w fun e w' => e = .returned (.tuple #[nvz, .bool false]) ∧ Touch [] w w' := by
  obtain ⟨V, hV⟩ : ∃ V, V = (w.alloc (bx k)).alloc (.cells #[.int .u16 0, .string ⟨#[]⟩, .int .i64 0, .int .i64 0, .int .i64 0, .int .i64 0, .int .i64 0] 56) := ⟨_, rfl⟩
  have TV : Hid (Touch [] w V) := by rw [hV]; exact ((Touch.refl _ _).alloc _).alloc _
  have hB : V.heap[w.heap.size]? = some (bx k) := by rw [hV]; exact (Below.heap_alloc _ _ _ (by simp)).trans (heap_alloc_new w _)
  have hZ : V.heap[w.heap.size + 1]? = some (.cells #[.int .u16 0, .string ⟨#[]⟩, .int .i64 0, .int .i64 0, .int .i64 0, .int .i64 0, .int .i64 0] 56 (0, 0)) := by
    rw [hV]
    have := heap_alloc_new (w.alloc (bx k)) (.cells #[.int .u16 0, .string ⟨#[]⟩, .int .i64 0, .int .i64 0, .int .i64 0, .int .i64 0, .int .i64 0] 56)
    rwa [World.size_alloc] at this
  have sA : ∀ w', Touch [] V w' → w'.cell? ⟨m, 8, none⟩ = some (.map (some b)) := fun w' t => (h.keep0 (TV.out.trans' t)).md.cs.c8
  have sB : ∀ w', Touch [] V w' → w'.cell? ⟨w.heap.size, 0, none⟩ = some (.int .u16 k.1) := fun w' t => by
    have := t.keep hB (by simp)
    unfold bx at this
    simp [World.cell?, this]
  have sC : ∀ w', Touch [] V w' → w'.cell? ⟨w.heap.size, 1, none⟩ = some (.string k.2) := fun w' t => by
    have := t.keep hB (by simp)
    unfold bx at this
    simp [World.cell?, this]
  have sL : ∀ w', Touch [] V w' → (Instr.lookup 91 (.map (some b)) (.agg #[.int .u16 k.1, .string k.2]) true).run Try.prog w' = .ok (.tuple #[.agg #[.int .i64 0, .int .i64 0, .int .i64 0, .int .i64 0, .int .i64 0], .bool false]) w' := fun w' t => by
    have := (h.keep0 (TV.out.trans' t)).look hk
    rw [hf] at this
    exact this
  obtain ⟨U, hU⟩ : ∃ U, U = (V.alloc (.cells #[.int .i64 0, .int .i64 0, .int .i64 0, .int .i64 0, .int .i64 0] 108)).drew := ⟨_, rfl⟩
  have TU : Touch [] V U := by rw [hU]; exact ((Touch.refl _ _).alloc _).drew
  have hE : U.heap[V.heap.size]? = some (.cells #[.int .i64 0, .int .i64 0, .int .i64 0, .int .i64 0, .int .i64 0] 108 (0, 0)) := by rw [hU]; exact heap_alloc_new V _
  have hZ' := TU.keep hZ (by simp)
  have hB' := TU.keep hB (by simp)
  unfold bx at hB'
  have z0 : U.cell? ⟨w.heap.size + 1, 0, none⟩ = some (.int .u16 0) := by simp [World.cell?, hZ']
  have z1 : U.cell? ⟨w.heap.size + 1, 1, none⟩ = some (.string ⟨#[]⟩) := by simp [World.cell?, hZ']
  have z2 : U.cell? ⟨w.heap.size + 1, 2, none⟩ = some (.int .i64 0) := by simp [World.cell?, hZ']
  have z3 : U.cell? ⟨w.heap.size + 1, 3, none⟩ = some (.int .i64 0) := by simp [World.cell?, hZ']
  have z4 : U.cell? ⟨w.heap.size + 1, 4, none⟩ = some (.int .i64 0) := by simp [World.cell?, hZ']
  have z5 : U.cell? ⟨w.heap.size + 1, 5, none⟩ = some (.int .i64 0) := by simp [World.cell?, hZ']
  have z6 : U.cell? ⟨w.heap.size + 1, 6, none⟩ = some (.int .i64 0) := by simp [World.cell?, hZ']
  have e0 : U.cell? ⟨V.heap.size, 0, none⟩ = some (.int .i64 0) := by simp [World.cell?, hE]
  have e1 : U.cell? ⟨V.heap.size, 1, none⟩ = some (.int .i64 0) := by simp [World.cell?, hE]
  have e2 : U.cell? ⟨V.heap.size, 2, none⟩ = some (.int .i64 0) := by simp [World.cell?, hE]
  have e3 : U.cell? ⟨V.heap.size, 3, none⟩ = some (.int .i64 0) := by simp [World.cell?, hE]
  have e4 : U.cell? ⟨V.heap.size, 4, none⟩ = some (.int .i64 0) := by simp [World.cell?, hE]
  have b0 : U.cell? ⟨w.heap.size, 0, none⟩ = some (.int .u16 k.1) := by simp [World.cell?, hB']
  have b1 : U.cell? ⟨w.heap.size, 1, none⟩ = some (.string k.2) := by simp [World.cell?, hB']
  have zf : ∀ i, U.frozen? ⟨w.heap.size + 1, i, none⟩ = false := fun i => by simp [World.frozen?, hZ']
  have TW := hid (TV.out.trans' TU)
  clear h hB hZ hZ' TU hE hB'
  unfold PT kv nvz
  go_enter Try.func24, Try.ntmps24
  go_wp2
  unfold bx at hV
  rw [← hV]
  clear hV hf hk
  have t0 : Touch [] V V.drew := (Touch.refl _ _).drew
  go_region_held3 (fun w' => Touch [] V w') (repeat (first | assumption | exact Touch.refl _ _ | apply Touch.alloc | apply Touch.drew | (refine Touch.setCell ?_ (Or.inr (by simp)) _))) (fail)
  all_goals
    clear sA sB sC sL t0
    rw [← hU]
    clear hU
    go_wp2
    refine bodyPost_ret (v := .tuple #[.agg #[.int .u16 0, .string ⟨#[]⟩, .int .i64 0, .int .i64 0, .int .i64 0, .int .i64 0, .int .i64 0], .bool false]) (by simp [results, Try.results24, go_sem, z0, z1, z2, z3, z4, z5, z6]) rfl ⟨rfl, ?_⟩
    refine TW.out.trans (G := [w.heap.size + 1]) ?_ (fun i hi => by simp only [List.mem_singleton] at hi; subst hi; exact Or.inr (Nat.le_succ _))
    exact tset7 _ _ _ _ _ _ _ _ _
set_option maxHeartbeats 2000000 in
theorem get24_yes (w : World) (m b o : Nat) (G : List Nat) (c : Cf) (now : Int) (xs : List En) (h : Mb w m b o G c now xs) (k : K) (hk : Ok k) (v : V) (hf : fnd xs k = some v) :
    Calls Try.prog 24 #[PT m, kv k] w fun e w' => e = .returned (.tuple #[nv (k, v), .bool true]) ∧ Touch [] w w' := by
  obtain ⟨V, hV⟩ : ∃ V, V = (w.alloc (bx k)).alloc (.cells #[.int .u16 0, .string ⟨#[]⟩, .int .i64 0, .int .i64 0, .int .i64 0, .int .i64 0, .int .i64 0] 56) := ⟨_, rfl⟩
  have TV : Hid (Touch [] w V) := by rw [hV]; exact ((Touch.refl _ _).alloc _).alloc _
  have hB : V.heap[w.heap.size]? = some (bx k) := by rw [hV]; exact (Below.heap_alloc _ _ _ (by simp)).trans (heap_alloc_new w _)
  have hZ : V.heap[w.heap.size + 1]? = some (.cells #[.int .u16 0, .string ⟨#[]⟩, .int .i64 0, .int .i64 0, .int .i64 0, .int .i64 0, .int .i64 0] 56 (0, 0)) := by
    rw [hV]
    have := heap_alloc_new (w.alloc (bx k)) (.cells #[.int .u16 0, .string ⟨#[]⟩, .int .i64 0, .int .i64 0, .int .i64 0, .int .i64 0, .int .i64 0] 56)
    rwa [World.size_alloc] at this
  have sA : ∀ w', Touch [] V w' → w'.cell? ⟨m, 8, none⟩ = some (.map (some b)) := fun w' t => (h.keep0 (TV.out.trans' t)).md.cs.c8
  have sB : ∀ w', Touch [] V w' → w'.cell? ⟨w.heap.size, 0, none⟩ = some (.int .u16 k.1) := fun w' t => by
    have := t.keep hB (by simp)
    unfold bx at this
    simp [World.cell?, this]
  have sC : ∀ w', Touch [] V w' → w'.cell? ⟨w.heap.size, 1, none⟩ = some (.string k.2) := fun w' t => by
    have := t.keep hB (by simp)
    unfold bx at this
    simp [World.cell?, this]
  have sL : ∀ w', Touch [] V w' → (Instr.lookup 91 (.map (some b)) (.agg #[.int .u16 k.1, .string k.2]) true).run Try.prog w' = .ok (.tuple #[.agg #[.int .i64 v.1.1, .int .i64 v.1.2.1, .int .i64 v.1.2.2.1, .int .i64 v.1.2.2.2, .int .i64 v.2], .bool true]) w' := fun w' t => by
    have := (h.keep0 (TV.out.trans' t)).look hk
    rw [hf] at this
    exact this
  obtain ⟨U, hU⟩ : ∃ U, U = (V.alloc (.cells #[.int .i64 v.1.1, .int .i64 v.1.2.1, .int .i64 v.1.2.2.1, .int .i64 v.1.2.2.2, .int .i64 v.2] 108)).drew := ⟨_, rfl⟩
  have TU : Touch [] V U := by rw [hU]; exact ((Touch.refl _ _).alloc _).drew
  have hE : U.heap[V.heap.size]? = some (.cells #[.int .i64 v.1.1, .int .i64 v.1.2.1, .int .i64 v.1.2.2.1, .int .i64 v.1.2.2.2, .int .i64 v.2] 108 (0, 0)) := by rw [hU]; exact heap_alloc_new V _
  have hZ' := TU.keep hZ (by simp)
  have hB' := TU.keep hB (by simp)
  unfold bx at hB'
  have z0 : U.cell? ⟨w.heap.size + 1, 0, none⟩ = some (.int .u16 0) := by simp [World.cell?, hZ']
  have z1 : U.cell? ⟨w.heap.size + 1, 1, none⟩ = some (.string ⟨#[]⟩) := by simp [World.cell?, hZ']
  have z2 : U.cell? ⟨w.heap.size + 1, 2, none⟩ = some (.int .i64 0) := by simp [World.cell?, hZ']
  have z3 : U.cell? ⟨w.heap.size + 1, 3, none⟩ = some (.int .i64 0) := by simp [World.cell?, hZ']
  have z4 : U.cell? ⟨w.heap.size + 1, 4, none⟩ = some (.int .i64 0) := by simp [World.cell?, hZ']
  have z5 : U.cell? ⟨w.heap.size + 1, 5, none⟩ = some (.int .i64 0) := by simp [World.cell?, hZ']
  have z6 : U.cell? ⟨w.heap.size + 1, 6, none⟩ = some (.int .i64 0) := by simp [World.cell?, hZ']
  have e0 : U.cell? ⟨V.heap.size, 0, none⟩ = some (.int .i64 v.1.1) := by simp [World.cell?, hE]
  have e1 : U.cell? ⟨V.heap.size, 1, none⟩ = some (.int .i64 v.1.2.1) := by simp [World.cell?, hE]
  have e2 : U.cell? ⟨V.heap.size, 2, none⟩ = some (.int .i64 v.1.2.2.1) := by simp [World.cell?, hE]
  have e3 : U.cell? ⟨V.heap.size, 3, none⟩ = some (.int .i64 v.1.2.2.2) := by simp [World.cell?, hE]
  have e4 : U.cell? ⟨V.heap.size, 4, none⟩ = some (.int .i64 v.2) := by simp [World.cell?, hE]
  have b0 : U.cell? ⟨w.heap.size, 0, none⟩ = some (.int .u16 k.1) := by simp [World.cell?, hB']
  have b1 : U.cell? ⟨w.heap.size, 1, none⟩ = some (.string k.2) := by simp [World.cell?, hB']
  have zf : ∀ i, U.frozen? ⟨w.heap.size + 1, i, none⟩ = false := fun i => by simp [World.frozen?, hZ']
  have TW := hid (TV.out.trans' TU)
  clear h hB hZ hZ' TU hE hB'
  unfold PT kv nv
  go_enter Try.func24, Try.ntmps24
  go_wp2
  unfold bx at hV
  rw [← hV]
  clear hV hf hk
  have t0 : Touch [] V V.drew := (Touch.refl _ _).drew
  go_region_held3 (fun w' => Touch [] V w') (repeat (first | assumption | exact Touch.refl _ _ | apply Touch.alloc | apply Touch.drew | (refine Touch.setCell ?_ (Or.inr (by simp)) _))) (fail)
  all_goals
    clear sA sB sC sL t0
    rw [← hU]
    clear hU
    go_wp2
    refine bodyPost_ret (v := .tuple #[.agg #[.int .u16 k.1, .string k.2, .int .i64 v.1.1, .int .i64 v.1.2.1, .int .i64 v.1.2.2.1, .int .i64 v.1.2.2.2, .int .i64 v.2], .bool true]) (by simp [results, Try.results24, go_sem, z0, z1, z2, z3, z4, z5, z6]) rfl ⟨rfl, ?_⟩
    refine TW.out.trans (G := [w.heap.size + 1]) ?_ (fun i hi => by simp only [List.mem_singleton] at hi; subst hi; exact Or.inr (Nat.le_succ _))
    exact tset7 _ _ _ _ _ _ _ _ _
theorem getM (w : World) (m : Nat) (F : List Nat) (c : Cf) (now : Int) (xs : List En) (h : Mq w m F c now xs) (k : K) (hk : Ok k) :
    Calls Try.prog 24 #[PT m, kv k] w fun e w' => e = .returned (.tuple #[(getS xs k).1, .bool (getS xs k).2]) ∧ Touch [] w w' := by
  obtain ⟨b, o, G, rfl, h⟩ := h
  unfold getS
  cases hf : fnd xs k with
  | none => exact get24_no w m b o G c now xs h k hk hf
  | some v => exact get24_yes w m b o G c now xs h k hk v hf
theorem seeM (w : World) (m : Nat) (F : List Nat) (c : Cf) (now : Int) (xs : List En) (h : Mq w m F c now xs) (k : K) (hk : Ok k) :
    Calls Try.prog 50 #[PT m, kv k] w fun e w' => e = .returned (lv (lookS c now xs k)) ∧ Touch [] w w' := by
  obtain ⟨b, o, G, rfl, h⟩ := h
  unfold lookS
  cases hf : fnd xs k with
  | none => exact see50_no w m b o G c now xs h k hk hf
  | some v => exact see50_yes w m b o G c now xs h k hk v hf
end Go.Proofs.Ytopepalpmkeffaa
