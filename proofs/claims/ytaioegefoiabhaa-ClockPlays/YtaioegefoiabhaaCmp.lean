/- The contracts of cmp.Compare, cmp.Or and of the order of slots; no conditions. -/
import Derived.Test.YtaioegefoiabhaaBas
import Derived.Test.YtaioegefoiabhaaThy
import Derived.Shelf.SlSortCmp.QuietGrown
import Derived.Lib.QuietBelow
import Derived.Deep.RegionWith
import Derived.Deep.RegionHeld3
namespace Go.Proofs.Ytaioegefoiabhaa
open Go.RowKit Go.Maps Go.ChangeMaps
set_option linter.unusedVariables false

def cmpI (a b : Int) : Int := if a < b then -1 else if b < a then 1 else 0
def orI (x y : Int) : Int := if x ≠ 0 then x else y
def cmpS (x y : Slot) : Int := orI (cmpI x.at_ y.at_) (cmpI x.put y.put)
theorem cmpI_bd (a b : Int) : -1 ≤ cmpI a b ∧ cmpI a b ≤ 1 := by unfold cmpI; split <;> (try split) <;> omega
theorem cmpS_neg (x y : Slot) : cmpS x y < 0 ↔ ltS x y := by
  unfold cmpS orI cmpI ltS
  rcases Int.lt_trichotomy x.at_ y.at_ with h | h | h
  · simp [h]
  · simp [h]
    split <;> (try split) <;> omega
  · have h' : ¬ x.at_ < y.at_ := by omega
    have h2 : ¬ x.at_ = y.at_ := by omega
    simp [h, h', h2]
theorem cmp49 (a b : Int) (w : World) : Calls Try.prog 47 #[.int .i64 a, .int .i64 b] w fun e w' => e = .returned (.int .i64 (cmpI a b)) ∧ w' = w := by
  rcases Int.lt_trichotomy a b with h | h | h
  · go_enter Try.func47, Try.ntmps47
    go_wp2
    go_ret
    exact ⟨by simp [cmpI, h], rfl⟩
  · subst h
    go_enter Try.func47, Try.ntmps47
    go_wp2
    go_ret
    exact ⟨by simp [cmpI], rfl⟩
  · have h' : ¬ a < b := by omega
    go_enter Try.func47, Try.ntmps47
    go_wp2
    go_ret
    exact ⟨by simp [cmpI, h, h'], rfl⟩
theorem cmp50 (a b : Int) (w : World) : Calls Try.prog 48 #[.int .i64 a, .int .i64 b] w fun e w' => e = .returned (.int .i64 (cmpI a b)) ∧ w' = w := by
  rcases Int.lt_trichotomy a b with h | h | h
  · go_enter Try.func48, Try.ntmps48
    go_wp2
    go_ret
    exact ⟨by simp [cmpI, h], rfl⟩
  · subst h
    go_enter Try.func48, Try.ntmps48
    go_wp2
    go_ret
    exact ⟨by simp [cmpI], rfl⟩
  · have h' : ¬ a < b := by omega
    go_enter Try.func48, Try.ntmps48
    go_wp2
    go_ret
    exact ⟨by simp [cmpI, h, h'], rfl⟩
theorem or48 (x y : Int) (b : Nat) (w : World) (h0 : w.cell? ⟨b, 0, none⟩ = some (.int .i64 x)) (h1 : w.cell? ⟨b, 1, none⟩ = some (.int .i64 y)) :
    Calls Try.prog 46 #[.slice (some ⟨b, 0, none⟩) 2 2] w fun e w' => e = .returned (.int .i64 (orI x y)) ∧ w' = w := by
  go_enter Try.func46, Try.ntmps46
  go_wp2
  go_loop [8] (fun i => ∃ k : Nat, k ≤ 2 ∧ i = .int .i64 k ∧ (0 < k → x = 0) ∧ (1 < k → y = 0)) (fun i => 2 - (intOf i).toNat)
  case atStart => exact ⟨0, by omega, rfl, by omega, by omega⟩
  case round =>
    obtain ⟨k, hk, rfl, hx, hy⟩ := hrel
    have HX := hid hx
    have HY := hid hy
    clear hx hy
    rcases (by omega : k = 0 ∨ k = 1 ∨ k = 2) with rfl | rfl | rfl
    · by_cases e : x = 0
      · have e' : (x != 0) = false := by simp [e]
        have E := hid e
        clear e
        go_wp2
        go_round
        case rel => exact ⟨1, by omega, rfl, fun _ => E.out, by omega⟩
        case measure => simp [intOf]
      · have e' : (x != 0) = true := by simp [e]
        have E := hid e
        clear e
        go_wp2
        go_ret
        exact ⟨by simp [orI, E.out], rfl⟩
    · have ex := HX.out (by omega)
      subst ex
      by_cases e : y = 0
      · have e' : (y != 0) = false := by simp [e]
        have E := hid e
        clear e
        go_wp2
        go_round
        case rel => exact ⟨2, by omega, rfl, by simp, fun _ => E.out⟩
        case measure => simp [intOf]
      · have e' : (y != 0) = true := by simp [e]
        clear e
        go_wp2
        go_ret
        exact ⟨by simp [orI], rfl⟩
    · have ex := HX.out (by omega)
      have ey := HY.out (by omega)
      subst ex ey
      go_wp2
      go_ret
      exact ⟨by simp [orI], rfl⟩
def sv (x : Slot) : Value := .agg #[.int .i64 x.at_, .int .i64 x.put, .int .i64 x.item]
/-- Draws, and blocks laid behind. -/
def Gw (w w' : World) : Prop := ∃ n os, w' = Go.Sort.grow (w.drewN n) os
theorem Gw.refl (w : World) : Gw w w := ⟨0, #[], by rw [Go.Sort.grow_empty]; rfl⟩
theorem Gw.trans {a b c : World} (h : Gw a b) (k : Gw b c) : Gw a c := by
  obtain ⟨n, os, rfl⟩ := h
  obtain ⟨m, ps, rfl⟩ := k
  exact ⟨n + m, os ++ ps, by show Go.Sort.grow (Go.Sort.grow ((a.drewN n).drewN m) os) ps = _; rw [Go.Sort.grow_grow, World.drewN_drewN]⟩
theorem Gw.drew {a b : World} (h : Gw a b) : Gw a b.drew := h.trans ⟨1, #[], by rw [Go.Sort.grow_empty]; rfl⟩
theorem Gw.alloc {a b : World} (h : Gw a b) (o : Obj) : Gw a (b.alloc o) := h.trans ⟨0, #[o], Go.Sort.alloc_eq_grow b o⟩
theorem Gw.touch {a b : World} (h : Gw a b) : Touch [] a b := by
  obtain ⟨n, os, rfl⟩ := h
  exact ⟨rfl, rfl, rfl, by simp [Go.Sort.grow], fun k hk _ => by simp [Go.Sort.grow, Array.getElem?_append, hk]⟩
theorem Gw.cell {a b : World} (h : Gw a b) {p : Addr} {v : Value} (hc : a.cell? p = some v) : b.cell? p = some v :=
  (World.cell?_of_block (h.touch.block p.block (World.block_lt_of_cell? a p hc) (by simp))).trans hc
theorem Gw.size {a b : World} (h : Gw a b) : a.heap.size ≤ b.heap.size := h.touch.size
set_option maxHeartbeats 1000000 in
theorem compare41 (x y : Slot) (w : World) : Calls Try.prog 40 #[sv x, sv y] w fun e w' => e = .returned (.int .i64 (cmpS x y)) ∧ Gw w w' := by
  unfold sv
  go_enter Try.func40, Try.ntmps40
  go_wp2
  obtain ⟨W, hW⟩ : ∃ W, W = (w.alloc (Obj.cells #[.int .i64 x.at_, .int .i64 x.put, .int .i64 x.item] 86)).alloc (Obj.cells #[.int .i64 y.at_, .int .i64 y.put, .int .i64 y.item] 86) := ⟨_, rfl⟩
  have HG : Hid (Gw w W) := by show Gw _ _; rw [hW]; exact ((Gw.refl _).alloc _).alloc _
  have f0 : ∀ w', Gw W w' → w'.cell? ⟨w.heap.size, 0, none⟩ = some (.int .i64 x.at_) := fun w' h => h.cell (by rw [hW]; simp)
  have f1 : ∀ w', Gw W w' → w'.cell? ⟨w.heap.size, 1, none⟩ = some (.int .i64 x.put) := fun w' h => h.cell (by rw [hW]; simp)
  have g0 : ∀ w', Gw W w' → w'.cell? ⟨w.heap.size + 1, 0, none⟩ = some (.int .i64 y.at_) := fun w' h => h.cell (by rw [hW]; simp)
  have g1 : ∀ w', Gw W w' → w'.cell? ⟨w.heap.size + 1, 1, none⟩ = some (.int .i64 y.put) := fun w' h => h.cell (by rw [hW]; simp)
  rw [← hW]
  clear hW
  generalize w.heap.size + 1 = gb at *
  generalize w.heap.size = fb at *
  go_region_held3 (fun w' => Gw W w') (first | assumption | exact (Gw.refl _).drew | exact Gw.refl _ | exact Gw.drew (by assumption) | exact Gw.alloc (by assumption) _)
    (first
      | (go_at_call 47; refine (cmp49 _ _ _).mono ?_; rintro e w1 ⟨rfl, rfl⟩)
      | (go_at_call 48; refine (cmp50 _ _ _).mono ?_; rintro e w1 ⟨rfl, rfl⟩)
      | (go_at_call 46; refine (or48 (cmpI x.at_ y.at_) (cmpI x.put y.put) _ _ (by simp) (by simp)).mono ?_; rintro e w1 ⟨rfl, rfl⟩))
  go_wp2
  go_ret
  exact ⟨rfl, HG.out.trans (by assumption)⟩
end Go.Proofs.Ytaioegefoiabhaa
