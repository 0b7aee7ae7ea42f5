/- Two small facts of this program's types, for the clock's texts; no conditions. -/
import Derived.Test.YtcbckehdlbbbbaaDoorMc03
import Derived.KernelRfl
import Derived.Shelf.SlSortCmp.QuietGrown
import Derived.Lib.QuietBelow
import Derived.Deep.RegionWith
import Derived.Deep.RegionHeld3
import Derived.Lib.SmallJoins
import Derived.Deep.QuietTactic
import Derived.Deep.AppendLies
import Derived.OwnWalk
namespace Go.Proofs.YtcbckehdlbbbbaaDoor.Cl
open Go.RowKit Go.Maps Go.ChangeMaps
theorem zero2 (w : World) : (zeroValue 2).run Tryd.prog w = .ok (.int .i64 0) w := by kernel_rfl
theorem eq68 (w : World) (r : Option Nat) : (binOp .eql 83 (.map r) (.map none)).run Tryd.prog w = .ok (.bool r.isNone) w := run_eql_map_nil w _ _ _ r Tryd.underlying83
end Go.Proofs.YtcbckehdlbbbbaaDoor.Cl
/- Plain mathematics of a heap of slots: no program. -/
namespace Go.Proofs.YtcbckehdlbbbbaaDoor.Cl
set_option linter.unusedVariables false
structure Slot where
  at_ : Int
  put : Int
  item : Int
abbrev leS (x y : Slot) : Prop := x.at_ < y.at_ ∨ x.at_ = y.at_ ∧ x.put ≤ y.put
abbrev ltS (x y : Slot) : Prop := x.at_ < y.at_ ∨ x.at_ = y.at_ ∧ x.put < y.put
theorem leS.trans {a b c : Slot} (h : leS a b) (k : leS b c) : leS a c := by unfold leS at *; omega
theorem leS.refl (a : Slot) : leS a a := by unfold leS; omega
theorem ltS.le {a b : Slot} (h : ltS a b) : leS a b := by unfold leS ltS at *; omega
theorem not_lt {a b : Slot} : ¬ ltS a b ↔ leS b a := by unfold leS ltS; omega
theorem not_le {a b : Slot} : ¬ leS a b ↔ ltS b a := by unfold leS ltS; omega
theorem ltS.trans {a b c : Slot} (h : ltS a b) (k : ltS b c) : ltS a c := by unfold ltS at *; omega
theorem lt_of_le_ne {a b : Slot} (h : leS a b) (k : a.put ≠ b.put) : ltS a b := by unfold leS ltS at *; omega

def gt (s : List Slot) (i : Nat) : Slot := s.getD i ⟨0, 0, 0⟩
theorem gt_eq {s : List Slot} {i : Nat} (h : i < s.length) : gt s i = s[i] := by simp [gt, List.getD_eq_getElem?_getD, List.getElem?_eq_getElem h]
theorem gt_mem {s : List Slot} {i : Nat} (h : i < s.length) : gt s i ∈ s := by rw [gt_eq h]; exact List.getElem_mem h
def swp (s : List Slot) (i j : Nat) : List Slot := (s.set i (gt s j)).set j (gt s i)
theorem swp_len (s : List Slot) (i j : Nat) : (swp s i j).length = s.length := by simp [swp]
theorem swp_gt {s : List Slot} {i j : Nat} (hi : i < s.length) (hj : j < s.length) (k : Nat) : gt (swp s i j) k = if k = j then gt s i else if k = i then gt s j else gt s k := by
  by_cases hk : k < s.length
  · rw [gt_eq (by rw [swp_len]; exact hk)]
    unfold swp
    rw [List.getElem_set]
    by_cases h : j = k
    · rw [if_pos h, if_pos h.symm]
    · rw [if_neg h, if_neg (fun e => h e.symm), List.getElem_set]
      by_cases h' : i = k
      · rw [if_pos h', if_pos h'.symm]
      · rw [if_neg h', if_neg (fun e => h' e.symm), gt_eq hk]
  · have h1 : k ≠ j := by omega
    have h2 : k ≠ i := by omega
    rw [if_neg h1, if_neg h2]
    simp [gt, List.getD_eq_getElem?_getD, List.getElem?_eq_none (Nat.le_of_not_lt hk), List.getElem?_eq_none (show (swp s i j).length ≤ k by rw [swp_len]; omega)]
theorem swp_perm {s : List Slot} {i j : Nat} (hi : i < s.length) (hj : j < s.length) : (swp s i j).Perm s := by
  unfold swp
  rw [gt_eq hi, gt_eq hj]
  by_cases e : i = j
  · subst e
    simp
  · exact List.set_set_perm hi hj

def par (k : Nat) : Nat := (k - 1) / 2
def Heap (n : Nat) (s : List Slot) : Prop := ∀ k, 0 < k → k < n → leS (gt s (par k)) (gt s k)
def UpI (n : Nat) (s : List Slot) (j : Nat) : Prop := (∀ k, 0 < k → k < n → k ≠ j → leS (gt s (par k)) (gt s k)) ∧ (∀ k, 0 < k → k < n → par k = j → 0 < j → leS (gt s (par j)) (gt s k))
def Hole (n : Nat) (s : List Slot) (i : Nat) : Prop := (∀ k, 0 < k → k < n → k ≠ i → par k ≠ i → leS (gt s (par k)) (gt s k)) ∧ (∀ k, 0 < k → k < n → par k = i → 0 < i → leS (gt s (par i)) (gt s k))
theorem par_lt {k : Nat} (h : 0 < k) : par k < k := by unfold par; omega
theorem up_done {n : Nat} {s : List Slot} {j : Nat} (h : UpI n s j) (hj : j = 0 ∨ ¬ ltS (gt s j) (gt s (par j))) : Heap n s := fun k h0 hn => by
  by_cases e : k = j
  · subst e
    rcases hj with rfl | hj
    · omega
    · exact not_lt.1 hj
  · exact h.1 k h0 hn e
theorem up_step {n : Nat} {s : List Slot} {j : Nat} (h : UpI n s j) (hn : n ≤ s.length) (hj : j < n) (h0 : 0 < j) (hl : ltS (gt s j) (gt s (par j))) : UpI n (swp s (par j) j) (par j) := by
  have hp := par_lt h0
  have G := swp_gt (s := s) (i := par j) (j := j) (by omega) (by omega)
  refine ⟨fun k k0 kn ke => ?_, fun k k0 kn ke p0 => ?_⟩
  · rw [G, G]
    by_cases e1 : k = j
    · subst e1
      rw [if_pos rfl, if_neg (by omega), if_pos rfl]
      exact hl.le
    · rw [if_neg e1, if_neg ke]
      by_cases e2 : par k = j
      · rw [if_pos e2]
        exact h.2 k k0 kn e2 h0
      · rw [if_neg e2]
        by_cases e3 : par k = par j
        · rw [if_pos e3]
          have := h.1 k k0 kn e1
          rw [e3] at this
          exact hl.le.trans this
        · rw [if_neg e3]
          exact h.1 k k0 kn e1
  · have hpp := par_lt p0
    rw [G, G, if_neg (by omega), if_neg (by omega)]
    have hi := h.1 (par j) p0 (by omega) (by omega)
    by_cases e1 : k = j
    · rw [if_pos e1]
      exact hi
    · have hk := par_lt k0
      rw [if_neg e1, if_neg (by omega)]
      have := h.1 k k0 kn e1
      rw [ke] at this
      exact hi.trans this
theorem hole_step {n : Nat} {s : List Slot} {i j : Nat} (h : Hole n s i) (hn : n ≤ s.length) (hj : j < n) (h0 : 0 < j) (hp : par j = i) (hm : ∀ k, 0 < k → k < n → par k = i → leS (gt s j) (gt s k)) (hl : ltS (gt s j) (gt s i)) : Hole n (swp s i j) j ∧ leS (gt (swp s i j) (par j)) (gt (swp s i j) j) := by
  have hij := par_lt h0
  have G := swp_gt (s := s) (i := i) (j := j) (by omega) (by omega)
  refine ⟨⟨fun k k0 kn ke kp => ?_, fun k k0 kn ke p0 => ?_⟩, ?_⟩
  · have hk := par_lt k0
    rw [G, G, if_neg kp, if_neg ke]
    by_cases e1 : k = i
    · rw [if_pos e1, if_neg (by omega), e1]
      exact h.2 j h0 hj hp (by omega)
    · rw [if_neg e1]
      by_cases e2 : par k = i
      · rw [if_pos e2]
        exact hm k k0 kn e2
      · rw [if_neg e2]
        exact h.1 k k0 kn e1 e2
  · have hk := par_lt k0
    rw [G, G, hp, if_neg (by omega), if_pos rfl, if_neg (by omega), if_neg (by omega)]
    have := h.1 k k0 kn (by omega) (by omega)
    rw [ke] at this
    exact this
  · rw [G, G, hp, if_neg (by omega), if_pos rfl, if_pos rfl]
    exact hl.le
theorem hole_done {n : Nat} {s : List Slot} {i : Nat} (h : Hole n s i) (hp : 0 < i → leS (gt s (par i)) (gt s i)) (hc : ∀ k, 0 < k → k < n → par k = i → leS (gt s i) (gt s k)) : Heap n s := fun k k0 kn => by
  by_cases e1 : k = i
  · subst e1
    exact hp k0
  · by_cases e2 : par k = i
    · rw [e2]
      exact hc k k0 kn e2
    · exact h.1 k k0 kn e1 e2
theorem hole_up {n : Nat} {s : List Slot} {i : Nat} (h : Hole n s i) (hc : ∀ k, 0 < k → k < n → par k = i → leS (gt s i) (gt s k)) : UpI n s i := ⟨fun k k0 kn ke => by
  by_cases e2 : par k = i
  · rw [e2]
    exact hc k k0 kn e2
  · exact h.1 k k0 kn ke e2, h.2⟩
theorem heap_hole {n : Nat} {s : List Slot} {i : Nat} (h : Heap (n + 1) s) (hn : n < s.length) (hi : i < n) : Hole n (swp s i n) i := by
  have G := swp_gt (s := s) (i := i) (j := n) (by omega) (by omega)
  refine ⟨fun k k0 kn ke kp => ?_, fun k k0 kn ke p0 => ?_⟩
  · have hk := par_lt k0
    rw [G, G, if_neg (by omega), if_neg kp, if_neg (by omega), if_neg ke]
    exact h k k0 (by omega)
  · have hk := par_lt k0
    have hi := par_lt p0
    rw [G, G, if_neg (by omega), if_neg (by omega), if_neg (by omega), if_neg (by omega)]
    have h1 := h i p0 (by omega)
    have h2 := h k k0 (by omega)
    rw [ke] at h2
    exact h1.trans h2
theorem heap_mono {n m : Nat} {s : List Slot} (h : Heap n s) (hm : m ≤ n) : Heap m s := fun k k0 km => h k k0 (by omega)
theorem heap_min {n : Nat} {s : List Slot} (h : Heap n s) : ∀ k, k < n → leS (gt s 0) (gt s k) := by
  intro k
  induction k using Nat.strongRecOn with
  | _ k ih =>
    intro hk
    by_cases e : k = 0
    · subst e
      exact leS.refl _
    · have := par_lt (by omega : 0 < k)
      exact (ih (par k) this (by omega)).trans (h k (by omega) hk)
theorem heap_snoc {s : List Slot} {x : Slot} (h : Heap s.length s) : UpI (s ++ [x]).length (s ++ [x]) s.length := by
  have G : ∀ k, k < s.length → gt (s ++ [x]) k = gt s k := fun k hk => by
    rw [gt_eq (by simp; omega), gt_eq hk, List.getElem_append_left]
  refine ⟨fun k k0 kn ke => ?_, fun k k0 kn ke p0 => ?_⟩
  · simp at kn
    have := par_lt k0
    rw [G _ (by omega), G _ (by omega)]
    exact h k k0 (by omega)
  · have := par_lt k0
    simp at kn
    omega
theorem heap_congr {n : Nat} {s t : List Slot} (h : Heap n s) (he : ∀ k, k < n → gt s k = gt t k) : Heap n t := fun k k0 kn => by
  have := par_lt k0
  rw [← he k kn, ← he (par k) (by omega)]
  exact h k k0 kn
theorem heap_dropLast {s : List Slot} (h : Heap (s.length - 1) s) : Heap s.dropLast.length s.dropLast := by
  rw [List.length_dropLast]
  refine heap_congr h (fun k hk => ?_)
  rw [gt_eq (by omega), gt_eq (by rw [List.length_dropLast]; omega), List.getElem_dropLast]
end Go.Proofs.YtcbckehdlbbbbaaDoor.Cl
/- The contracts of cmp.Compare, cmp.Or and of the order of slots; no conditions. -/
namespace Go.Proofs.YtcbckehdlbbbbaaDoor.Cl
open Go.RowKit Go.Maps Go.ChangeMaps
set_option linter.unusedVariables false

def cmpI (a b : Int) : Int := if a < b then -1 else if b < a then 1 else 0
def orI (x y : Int) : Int := if x ≠ 0 then x else y
def cmpS (x y : Slot) : Int := orI (cmpI x.at_ y.at_) (cmpI x.put y.put)
theorem cmpI_bd (a b : Int) : -1 ≤ cmpI a b ∧ cmpI a b ≤ 1 := by unfold cmpI; split <;> (try split) <;> omega
theorem cmpS_neg (x y : Slot) : cmpS x y < 0 ↔ ltS x y := by
  unfold cmpS orI cmpI ltS
  rcases Int.lt_trichotomy x.at_ y.at_ with h | h | h
  · simp [h]
  · simp [h]
    split <;> (try split) <;> omega
  · have h' : ¬ x.at_ < y.at_ := by omega
    have h2 : ¬ x.at_ = y.at_ := by omega
    simp [h, h', h2]
theorem cmp49 (a b : Int) (w : World) : Calls Tryd.prog 115 #[.int .i64 a, .int .i64 b] w fun e w' => e = .returned (.int .i64 (cmpI a b)) ∧ w' = w := by
  rcases Int.lt_trichotomy a b with h | h | h
  · go_enter Tryd.func115, Tryd.ntmps115
    go_wp2
    go_ret
    exact ⟨by simp [cmpI, h], rfl⟩
  · subst h
    go_enter Tryd.func115, Tryd.ntmps115
    go_wp2
    go_ret
    exact ⟨by simp [cmpI], rfl⟩
  · have h' : ¬ a < b := by omega
    go_enter Tryd.func115, Tryd.ntmps115
    go_wp2
    go_ret
    exact ⟨by simp [cmpI, h, h'], rfl⟩
theorem cmp50 (a b : Int) (w : World) : Calls Tryd.prog 116 #[.int .i64 a, .int .i64 b] w fun e w' => e = .returned (.int .i64 (cmpI a b)) ∧ w' = w := by
  rcases Int.lt_trichotomy a b with h | h | h
  · go_enter Tryd.func116, Tryd.ntmps116
    go_wp2
    go_ret
    exact ⟨by simp [cmpI, h], rfl⟩
  · subst h
    go_enter Tryd.func116, Tryd.ntmps116
    go_wp2
    go_ret
    exact ⟨by simp [cmpI], rfl⟩
  · have h' : ¬ a < b := by omega
    go_enter Tryd.func116, Tryd.ntmps116
    go_wp2
    go_ret
    exact ⟨by simp [cmpI, h, h'], rfl⟩
theorem or48 (x y : Int) (b : Nat) (w : World) (h0 : w.cell? ⟨b, 0, none⟩ = some (.int .i64 x)) (h1 : w.cell? ⟨b, 1, none⟩ = some (.int .i64 y)) :
    Calls Tryd.prog 114 #[.slice (some ⟨b, 0, none⟩) 2 2] w fun e w' => e = .returned (.int .i64 (orI x y)) ∧ w' = w := by
  go_enter Tryd.func114, Tryd.ntmps114
  go_wp2
  go_loop [8] (fun i => ∃ k : Nat, k ≤ 2 ∧ i = .int .i64 k ∧ (0 < k → x = 0) ∧ (1 < k → y = 0)) (fun i => 2 - (intOf i).toNat)
  case atStart => exact ⟨0, by omega, rfl, by omega, by omega⟩
  case round =>
    obtain ⟨k, hk, rfl, hx, hy⟩ := hrel
    have HX := hid hx
    have HY := hid hy
    clear hx hy
    rcases (by omega : k = 0 ∨ k = 1 ∨ k = 2) with rfl | rfl | rfl
    · by_cases e : x = 0
      · have e' : (x != 0) = false := by simp [e]
        have E := hid e
        clear e
        go_wp2
        go_round
        case rel => exact ⟨1, by omega, rfl, fun _ => E.out, by omega⟩
        case measure => simp [intOf]
      · have e' : (x != 0) = true := by simp [e]
        have E := hid e
        clear e
        go_wp2
        go_ret
        exact ⟨by simp [orI, E.out], rfl⟩
    · have ex := HX.out (by omega)
      subst ex
      by_cases e : y = 0
      · have e' : (y != 0) = false := by simp [e]
        have E := hid e
        clear e
        go_wp2
        go_round
        case rel => exact ⟨2, by omega, rfl, by simp, fun _ => E.out⟩
        case measure => simp [intOf]
      · have e' : (y != 0) = true := by simp [e]
        clear e
        go_wp2
        go_ret
        exact ⟨by simp [orI], rfl⟩
    · have ex := HX.out (by omega)
      have ey := HY.out (by omega)
      subst ex ey
      go_wp2
      go_ret
      exact ⟨by simp [orI], rfl⟩
def sv (x : Slot) : Value := .agg #[.int .i64 x.at_, .int .i64 x.put, .int .i64 x.item]
/-- Draws, and blocks laid behind. -/
def Gw (w w' : World) : Prop := ∃ n os, w' = Go.Sort.grow (w.drewN n) os
theorem Gw.refl (w : World) : Gw w w := ⟨0, #[], by rw [Go.Sort.grow_empty]; rfl⟩
theorem Gw.trans {a b c : World} (h : Gw a b) (k : Gw b c) : Gw a c := by
  obtain ⟨n, os, rfl⟩ := h
  obtain ⟨m, ps, rfl⟩ := k
  exact ⟨n + m, os ++ ps, by show Go.Sort.grow (Go.Sort.grow ((a.drewN n).drewN m) os) ps = _; rw [Go.Sort.grow_grow, World.drewN_drewN]⟩
theorem Gw.drew {a b : World} (h : Gw a b) : Gw a b.drew := h.trans ⟨1, #[], by rw [Go.Sort.grow_empty]; rfl⟩
theorem Gw.alloc {a b : World} (h : Gw a b) (o : Obj) : Gw a (b.alloc o) := h.trans ⟨0, #[o], Go.Sort.alloc_eq_grow b o⟩
theorem Gw.touch {a b : World} (h : Gw a b) : Touch [] a b := by
  obtain ⟨n, os, rfl⟩ := h
  exact ⟨rfl, rfl, rfl, by simp [Go.Sort.grow], fun k hk _ => by simp [Go.Sort.grow, Array.getElem?_append, hk]⟩
theorem Gw.cell {a b : World} (h : Gw a b) {p : Addr} {v : Value} (hc : a.cell? p = some v) : b.cell? p = some v :=
  (World.cell?_of_block (h.touch.block p.block (World.block_lt_of_cell? a p hc) (by simp))).trans hc
theorem Gw.size {a b : World} (h : Gw a b) : a.heap.size ≤ b.heap.size := h.touch.size
set_option maxHeartbeats 1000000 in
theorem compare41 (x y : Slot) (w : World) : Calls Tryd.prog 113 #[sv x, sv y] w fun e w' => e = .returned (.int .i64 (cmpS x y)) ∧ Gw w w' := by
  unfold sv
  go_enter Tryd.func113, Tryd.ntmps113
  go_wp2
  obtain ⟨W, hW⟩ : ∃ W, W = (w.alloc (Obj.cells #[.int .i64 x.at_, .int .i64 x.put, .int .i64 x.item] 152)).alloc (Obj.cells #[.int .i64 y.at_, .int .i64 y.put, .int .i64 y.item] 152) := ⟨_, rfl⟩
  have HG : Hid (Gw w W) := by show Gw _ _; rw [hW]; exact ((Gw.refl _).alloc _).alloc _
  have f0 : ∀ w', Gw W w' → w'.cell? ⟨w.heap.size, 0, none⟩ = some (.int .i64 x.at_) := fun w' h => h.cell (by rw [hW]; simp)
  have f1 : ∀ w', Gw W w' → w'.cell? ⟨w.heap.size, 1, none⟩ = some (.int .i64 x.put) := fun w' h => h.cell (by rw [hW]; simp)
  have g0 : ∀ w', Gw W w' → w'.cell? ⟨w.heap.size + 1, 0, none⟩ = some (.int .i64 y.at_) := fun w' h => h.cell (by rw [hW]; simp)
  have g1 : ∀ w', Gw W w' → w'.cell? ⟨w.heap.size + 1, 1, none⟩ = some (.int .i64 y.put) := fun w' h => h.cell (by rw [hW]; simp)
  rw [← hW]
  clear hW
  generalize w.heap.size + 1 = gb at *
  generalize w.heap.size = fb at *
  go_region_held3 (fun w' => Gw W w') (first | assumption | exact (Gw.refl _).drew | exact Gw.refl _ | exact Gw.drew (by assumption) | exact Gw.alloc (by assumption) _)
    (first
      | (go_at_call 115; refine (cmp49 _ _ _).mono ?_; rintro e w1 ⟨rfl, rfl⟩)
      | (go_at_call 116; refine (cmp50 _ _ _).mono ?_; rintro e w1 ⟨rfl, rfl⟩)
      | (go_at_call 114; refine (or48 (cmpI x.at_ y.at_) (cmpI x.put y.put) _ _ (by simp) (by simp)).mono ?_; rintro e w1 ⟨rfl, rfl⟩))
  go_wp2
  go_ret
  exact ⟨rfl, HG.out.trans (by assumption)⟩
end Go.Proofs.YtcbckehdlbbbbaaDoor.Cl
/- Rows of structs of whole numbers that a call owns: reading and writing a cell; and how a queue by time lies in memory. -/
namespace Go.Proofs.YtcbckehdlbbbbaaDoor.Cl
open Go.RowKit Go.Maps Go.ChangeMaps
set_option linter.unusedVariables false

theorem own_block {w : World} {base e g c n k : Nat} {xs : List Value} (h : w.ownsRow base e k (.slice (some ⟨g, 0, none⟩) n c) n xs) :
    ∃ cur, w.heap[g]? = some (.cells cur e (0, 0)) ∧ n ≤ c ∧ c ≤ maxLen ∧ cur.size = c * k ∧ cur.toList.take (n * k) = xs ∧ base ≤ g ∧ xs.length = n * k := by
  obtain ⟨h1, h2 | ⟨g', cap', cur, hv, hg, hc, hn, hm, hs, ht⟩⟩ := h
  · cases h2.1
  · simp only [Value.slice.injEq, Option.some.injEq, Addr.mk.injEq, and_true, true_and] at hv
    obtain ⟨rfl, rfl⟩ := hv
    exact ⟨cur, hc, hn, hm, hs, ht, hg, h1⟩
theorem own_cell {w : World} {base e g c n k : Nat} {xs : List Value} (h : w.ownsRow base e k (.slice (some ⟨g, 0, none⟩) n c) n xs) {p : Nat} {v : Value} (hp : xs[p]? = some v) :
    w.cell? ⟨g, p, none⟩ = some v := by
  obtain ⟨cur, hc, hn, hm, hs, ht, hg, hl⟩ := own_block h
  have hp' : p < xs.length := (List.getElem?_eq_some_iff.1 hp).1
  have : cur[p]? = some v := by
    rw [← Array.getElem?_toList, ← hp, ← ht, List.getElem?_take, if_pos (by omega)]
  simp [World.cell?, hc, this]
theorem own_frozen {w : World} {base e g c n k : Nat} {xs : List Value} (h : w.ownsRow base e k (.slice (some ⟨g, 0, none⟩) n c) n xs) (p : Nat) : w.frozen? ⟨g, p, none⟩ = false := by
  obtain ⟨cur, hc, _⟩ := own_block h
  exact Joins.unfrozen_of_block hc _
theorem own_set {w : World} {base e g c n k : Nat} {xs : List Value} (h : w.ownsRow base e k (.slice (some ⟨g, 0, none⟩) n c) n xs) (p : Nat) (v : Value) :
    (w.setCell ⟨g, p, none⟩ v).ownsRow base e k (.slice (some ⟨g, 0, none⟩) n c) n (xs.set p v) := by
  obtain ⟨cur, hc, hn, hm, hs, ht, hg, hl⟩ := own_block h
  refine ⟨by rw [List.length_set]; exact hl, Or.inr ⟨g, c, cur.setIfInBounds p v, rfl, hg, Joins.block_setCell hc _, hn, hm, by simp [hs], ?_⟩⟩
  rw [Array.toList_setIfInBounds, List.take_set, ht]
theorem own_keep {w w' : World} {base e n k : Nat} {v : Value} {xs : List Value} (h : w.ownsRow base e k v n xs) (hk : ∀ b, v.ownBlock = some b → w'.heap[b]? = w.heap[b]?) : w'.ownsRow base e k v n xs := by
  obtain ⟨h1, h2 | ⟨g, cap, cur, rfl, hg, hc, r⟩⟩ := h
  · exact ⟨h1, Or.inl h2⟩
  · exact ⟨h1, Or.inr ⟨g, cap, cur, rfl, hg, (hk g rfl).trans hc, r⟩⟩
theorem own_touch {F : List Nat} {w w' : World} {base e n k : Nat} {v : Value} {xs : List Value} (h : w.ownsRow base e k v n xs) (ht : Touch F w w') (hk : ∀ b, v.ownBlock = some b → ¬ b ∈ F) : w'.ownsRow base e k v n xs :=
  own_keep h (fun b hb => ht.block b (h.lt b hb).2 (hk b hb))
theorem own_form {w : World} {base e n k : Nat} {v : Value} {xs : List Value} (h : w.ownsRow base e k v n xs) : ∃ p c, v = .slice p n c := by
  rcases h.2 with ⟨rfl, rfl⟩ | ⟨g, cap, cur, rfl, _⟩
  · exact ⟨_, _, rfl⟩
  · exact ⟨_, _, rfl⟩

def iv (x : Int) : Value := .int .i64 x
def cells3 (x : Slot) : List Value := [.int .i64 x.at_, .int .i64 x.put, .int .i64 x.item]
def flat (s : List Slot) : List Value := s.flatMap cells3
theorem flat_cons (x : Slot) (s : List Slot) : flat (x :: s) = .int .i64 x.at_ :: .int .i64 x.put :: .int .i64 x.item :: flat s := by simp [flat, cells3]
theorem flat_app (s t : List Slot) : flat (s ++ t) = flat s ++ flat t := by simp [flat]
theorem flat_len (s : List Slot) : (flat s).length = s.length * 3 := by
  induction s with
  | nil => rfl
  | cons x s ih => rw [flat_cons]; simp [ih]; omega
theorem flat_at : ∀ (s : List Slot) (i : Nat), i < s.length → (flat s)[i * 3]? = some (.int .i64 (gt s i).at_) ∧ (flat s)[i * 3 + 1]? = some (.int .i64 (gt s i).put) ∧ (flat s)[i * 3 + 2]? = some (.int .i64 (gt s i).item)
  | x :: s, 0, _ => by rw [flat_cons]; simp [gt]
  | x :: s, i + 1, h => by
    have ih := flat_at s i (by simpa using h)
    rw [flat_cons, show (i + 1) * 3 = i * 3 + 1 + 1 + 1 by omega, show i * 3 + 1 + 1 + 1 + 1 = (i * 3 + 1) + 1 + 1 + 1 by omega, show i * 3 + 1 + 1 + 1 + 2 = (i * 3 + 2) + 1 + 1 + 1 by omega]
    simpa [gt] using ih
theorem flat_set : ∀ (s : List Slot) (i : Nat) (x : Slot), i < s.length → flat (s.set i x) = (((flat s).set (i * 3) (.int .i64 x.at_)).set (i * 3 + 1) (.int .i64 x.put)).set (i * 3 + 2) (.int .i64 x.item)
  | a :: s, 0, x, _ => by simp [flat_cons]
  | a :: s, i + 1, x, h => by
    have ih := flat_set s i x (by simpa using h)
    rw [List.set_cons_succ, flat_cons, flat_cons, ih, show (i + 1) * 3 = i * 3 + 1 + 1 + 1 by omega, show i * 3 + 1 + 1 + 1 + 1 = (i * 3 + 1) + 1 + 1 + 1 by omega, show i * 3 + 1 + 1 + 1 + 2 = (i * 3 + 2) + 1 + 1 + 1 by omega]
    rfl
def idx (s : List Slot) (k : Int) : Option Nat := s.findIdx? (fun x => x.item == k)
def pmap (s : List Slot) (k : Int) : Option Value := (idx s k).map (fun i : Nat => Value.int .i64 (i : Int))
def Nd (s : List Slot) : Prop := (s.map Slot.item).Nodup
theorem nd_at {s : List Slot} (h : Nd s) {i j : Nat} (hi : i < s.length) (hj : j < s.length) (e : (gt s i).item = (gt s j).item) : i = j := by
  have H : ∀ a b, a < b → b < s.length → (gt s a).item ≠ (gt s b).item := fun a b hab hb => by
    have := (List.pairwise_iff_getElem.1 h) a b (by simp; omega) (by simpa using hb) hab
    simpa [gt_eq hb, gt_eq (Nat.lt_trans hab hb)] using this
  rcases Nat.lt_trichotomy i j with h1 | h1 | h1
  · exact absurd e (H i j h1 hj)
  · exact h1
  · exact absurd e.symm (H j i h1 hi)
theorem idx_at {s : List Slot} (h : Nd s) {i : Nat} (hi : i < s.length) : idx s (gt s i).item = some i := by
  unfold idx
  rw [List.findIdx?_eq_some_iff_getElem]
  refine ⟨hi, by simp [gt_eq hi], fun j hj => ?_⟩
  simp
  intro e
  have := nd_at h (i := j) (j := i) (by omega) hi (by rw [gt_eq (by omega)]; exact e)
  omega
theorem idx_some {s : List Slot} {k : Int} {i : Nat} (h : idx s k = some i) : i < s.length ∧ (gt s i).item = k := by
  unfold idx at h
  rw [List.findIdx?_eq_some_iff_getElem] at h
  obtain ⟨h1, h2, _⟩ := h
  exact ⟨h1, by rw [gt_eq h1]; simpa using h2⟩
theorem idx_none {s : List Slot} {k : Int} : idx s k = none ↔ ∀ x ∈ s, x.item ≠ k := by
  unfold idx
  rw [List.findIdx?_eq_none_iff]
  simp
theorem nd_perm {s t : List Slot} (h : Nd s) (p : t.Perm s) : Nd t := (p.map Slot.item).nodup_iff.2 h
/-- The map behind an exchange of two places. -/
theorem pmap_swp {s : List Slot} (h : Nd s) {i j : Nat} (hi : i < s.length) (hj : j < s.length) (hij : i ≠ j) (k : Int) :
    upd (upd (pmap s) (gt s j).item (.int .i64 i)) (gt s i).item (.int .i64 j) k = pmap (swp s i j) k := by
  have h' := nd_perm h (swp_perm hi hj)
  have G := swp_gt hi hj
  simp only [upd]
  by_cases e1 : k = (gt s i).item
  · rw [if_pos e1, e1]
    have := idx_at h' (i := j) (by rw [swp_len]; exact hj)
    rw [G, if_pos rfl] at this
    simp [pmap, this]
  · rw [if_neg e1]
    by_cases e2 : k = (gt s j).item
    · rw [if_pos e2, e2]
      have := idx_at h' (i := i) (by rw [swp_len]; exact hi)
      rw [G, if_neg hij, if_pos rfl] at this
      simp [pmap, this]
    · rw [if_neg e2]
      unfold pmap
      congr 1
      cases hk : idx s k with
      | none =>
        symm
        rw [idx_none] at hk ⊢
        exact fun x hx => hk x ((swp_perm hi hj).mem_iff.1 hx)
      | some p =>
        obtain ⟨p1, p2⟩ := idx_some hk
        have n1 : p ≠ i := fun e => e1 (by rw [← p2, e])
        have n2 : p ≠ j := fun e => e2 (by rw [← p2, e])
        have := idx_at h' (i := p) (by rw [swp_len]; exact p1)
        rw [G, if_neg n2, if_neg n1, p2] at this
        exact this.symm

def HC (w : World) (q : Nat) (sl : Value) (m : Option Nat) (p : Int) : Prop := w.heap[q]? = some (.cells #[sl, .map m, .int .i64 p] 120 (0, 0))
theorem HC.c0 {w : World} {q : Nat} {sl : Value} {m : Option Nat} {p : Int} (h : HC w q sl m p) : w.cell? ⟨q, 0, none⟩ = some sl := by unfold HC at h; simp [World.cell?, h]
theorem HC.c1 {w : World} {q : Nat} {sl : Value} {m : Option Nat} {p : Int} (h : HC w q sl m p) : w.cell? ⟨q, 1, none⟩ = some (.map m) := by unfold HC at h; simp [World.cell?, h]
theorem HC.c2 {w : World} {q : Nat} {sl : Value} {m : Option Nat} {p : Int} (h : HC w q sl m p) : w.cell? ⟨q, 2, none⟩ = some (.int .i64 p) := by unfold HC at h; simp [World.cell?, h]
theorem HC.fr {w : World} {q : Nat} {sl : Value} {m : Option Nat} {p : Int} (h : HC w q sl m p) (i : Nat) : w.frozen? ⟨q, i, none⟩ = false := by unfold HC at h; simp [World.frozen?, h]
def WfS (s : List Slot) : Prop := ∀ x ∈ s, W64 x.at_ ∧ W64 x.put ∧ W64 x.item
structure HQ (w : World) (q : Nat) (sl : Value) (m : Option Nat) (p : Int) (s : List Slot) : Prop where
  hc : HC w q sl m p
  row : w.ownsRow 0 152 3 sl s.length (flat s)
  mp : (m = none ∧ s = []) ∨ ∃ b, m = some b ∧ MapAt w b s.length (pmap s)
  nd : Nd s
  wf : WfS s
  le : s.length ≤ 65536
def fq (q : Nat) (sl : Value) (m : Option Nat) : List Nat := q :: (sl.ownBlock.toList ++ m.toList)
theorem row_ne {w : World} {q n : Nat} {sl sl' : Value} {m : Option Nat} {p : Int} {xs : List Value} {e k : Nat} (hc : HC w q sl m p) (h : w.ownsRow 0 e k sl' n xs) (he : e ≠ 120) : ∀ b, sl'.ownBlock = some b → b ≠ q := by
  intro b hb e'
  obtain ⟨h1, h2 | ⟨g, cap, cur, rfl, hg, hcc, r⟩⟩ := h
  · rw [h2.1] at hb; cases hb
  · simp [Value.ownBlock] at hb
    subst hb e'
    unfold HC at hc
    rw [hcc] at hc
    simp at hc
    exact he hc.2
theorem row_nm {w : World} {n b k : Nat} {sl : Value} {xs : List Value} {e : Nat} {nn : Nat} {f : Int → Option Value} (h : w.ownsRow 0 e k sl n xs) (hm : MapAt w b nn f) : ∀ g, sl.ownBlock = some g → g ≠ b := by
  intro g hb e'
  obtain ⟨h1, h2 | ⟨g, cap, cur, rfl, hg, hcc, r⟩⟩ := h
  · rw [h2.1] at hb; cases hb
  · simp [Value.ownBlock] at hb
    subst hb e'
    obtain ⟨D, ⟨es, cl, hb, _⟩, _⟩ := hm
    rw [hb] at hcc
    simp at hcc
end Go.Proofs.YtcbckehdlbbbbaaDoor.Cl
/- The contracts of the heap's Len, Less and Swap. -/
namespace Go.Proofs.YtcbckehdlbbbbaaDoor.Cl
open Go.RowKit Go.Maps Go.ChangeMaps
set_option linter.unusedVariables false
def PT (q : Nat) : Value := .pointer (some ⟨q, 0, none⟩)
theorem len86 (w : World) (q : Nat) (sl : Value) (m : Option Nat) (p : Int) (s : List Slot) (h : HQ w q sl m p s) :
    Calls Tryd.prog 108 #[PT q] w fun e w' => e = .returned (.int .i64 s.length) ∧ w' = w := by
  have c0 := h.hc.c0
  obtain ⟨a, c, rfl⟩ := own_form h.row
  clear h
  unfold PT
  go_enter Tryd.func108, Tryd.ntmps108
  go_wp2
  go_ret
  exact ⟨rfl, rfl⟩
theorem HQ.slice {w : World} {q : Nat} {sl : Value} {m : Option Nat} {p : Int} {s : List Slot} (h : HQ w q sl m p s) (h0 : 0 < s.length) : ∃ g c, sl = .slice (some ⟨g, 0, none⟩) s.length c := by
  obtain ⟨g, c, h, _⟩ := h.row.form h0
  exact ⟨g, c, h⟩
def ltB (x y : Slot) : Bool := decide (ltS x y)
set_option maxHeartbeats 1000000 in
theorem less87 (w : World) (q : Nat) (sl : Value) (m : Option Nat) (p : Int) (s : List Slot) (i j : Nat) (hi : i < s.length) (hj : j < s.length) (h : HQ w q sl m p s) :
    Calls Tryd.prog 109 #[PT q, .int .i64 i, .int .i64 j] w fun e w' => e = .returned (.bool (ltB (gt s i) (gt s j))) ∧ Gw w w' := by
  obtain ⟨g, c, rfl⟩ := h.slice (by omega)
  have hle := h.le
  obtain ⟨x0, x1, x2⟩ := flat_at s i hi
  obtain ⟨y0, y1, y2⟩ := flat_at s j hj
  have a0 : ∀ w', Gw w w' → w'.cell? ⟨g, i * 3, none⟩ = some (.int .i64 (gt s i).at_) := fun w' k => k.cell (own_cell h.row x0)
  have a1 : ∀ w', Gw w w' → w'.cell? ⟨g, i * 3 + 1, none⟩ = some (.int .i64 (gt s i).put) := fun w' k => k.cell (own_cell h.row x1)
  have a2 : ∀ w', Gw w w' → w'.cell? ⟨g, i * 3 + 2, none⟩ = some (.int .i64 (gt s i).item) := fun w' k => k.cell (own_cell h.row x2)
  have b0 : ∀ w', Gw w w' → w'.cell? ⟨g, j * 3, none⟩ = some (.int .i64 (gt s j).at_) := fun w' k => k.cell (own_cell h.row y0)
  have b1 : ∀ w', Gw w w' → w'.cell? ⟨g, j * 3 + 1, none⟩ = some (.int .i64 (gt s j).put) := fun w' k => k.cell (own_cell h.row y1)
  have b2 : ∀ w', Gw w w' → w'.cell? ⟨g, j * 3 + 2, none⟩ = some (.int .i64 (gt s j).item) := fun w' k => k.cell (own_cell h.row y2)
  have c0 : ∀ w', Gw w w' → w'.cell? ⟨q, 0, none⟩ = some (.slice (some ⟨g, 0, none⟩) s.length c) := fun w' k => k.cell h.hc.c0
  have zi : (i : Int) < (s.length : Int) := by omega
  have zj : (j : Int) < (s.length : Int) := by omega
  have zl : (s.length : Int) ≤ 65536 := by omega
  have HD : Hid (decide (cmpS (gt s i) (gt s j) < 0) = ltB (gt s i) (gt s j)) := by
    show _ = _
    unfold ltB
    rw [decide_eq_decide]
    exact cmpS_neg _ _
  clear h x0 x1 x2 y0 y1 y2
  unfold PT
  generalize s.length = n at *
  generalize gt s i = x at *
  generalize gt s j = y at *
  go_enter Tryd.func109, Tryd.ntmps109
  go_wp2
  go_region_held3 (fun w' => Gw w w') (first | assumption | exact (Gw.refl _).drew | exact Gw.refl _ | exact Gw.drew (by assumption))
    (first | (go_at_call 113; refine (compare41 x y _).mono ?_; rintro e w1 ⟨rfl, hg1⟩; have K1 : Gw w w1 := Gw.trans (by assumption) hg1; clear hg1))
  go_wp2
  go_ret
  exact ⟨congrArg (fun b => Ending.returned (.bool b)) HD.out, by assumption⟩
theorem HC.keep {w w' : World} {q : Nat} {sl : Value} {m : Option Nat} {p : Int} (h : HC w q sl m p) (hk : w'.heap[q]? = w.heap[q]?) : HC w' q sl m p := hk.trans h
theorem _root_.Go.Proofs.YtcbckehdlbbbbaaDoor.MapAt.same {w : World} {b n k : Nat} {f : Int → Option Value} (h : MapAt w b n f) (e : n = k) : MapAt w b k f := e ▸ h
theorem maxLen_big' {n : Nat} (h : n ≤ 65536) : n < maxLen := by unfold maxLen; omega
theorem wf_perm {s t : List Slot} (h : WfS s) (p : t.Perm s) : WfS t := fun x hx => h x (p.mem_iff.1 hx)
theorem row_swp {w : World} {g c : Nat} {s : List Slot} (h : w.ownsRow 0 152 3 (.slice (some ⟨g, 0, none⟩) s.length c) s.length (flat s)) {i j : Nat} (hi : i < s.length) (hj : j < s.length) :
    ((((((w.setCell ⟨g, i * 3, none⟩ (.int .i64 (gt s j).at_)).setCell ⟨g, i * 3 + 1, none⟩ (.int .i64 (gt s j).put)).setCell ⟨g, i * 3 + 2, none⟩ (.int .i64 (gt s j).item)).setCell ⟨g, j * 3, none⟩ (.int .i64 (gt s i).at_)).setCell ⟨g, j * 3 + 1, none⟩ (.int .i64 (gt s i).put)).setCell ⟨g, j * 3 + 2, none⟩ (.int .i64 (gt s i).item)).ownsRow 0 152 3 (.slice (some ⟨g, 0, none⟩) s.length c) s.length (flat (swp s i j)) := by
  unfold swp
  rw [flat_set _ _ _ (by simpa using hj), flat_set _ _ _ hi]
  exact own_set (own_set (own_set (own_set (own_set (own_set h _ _) _ _) _ _) _ _) _ _) _ _
theorem pmap_at {s : List Slot} (h : Nd s) {i : Nat} (hi : i < s.length) : pmap s (gt s i).item = some (.int .i64 i) := by simp [pmap, idx_at h hi]
def swW (w : World) (g : Nat) (i j : Nat) (x y : Slot) : World := ((((((w.setCell ⟨g, i * 3, none⟩ (.int .i64 y.at_)).setCell ⟨g, i * 3 + 1, none⟩ (.int .i64 y.put)).setCell ⟨g, i * 3 + 2, none⟩ (.int .i64 y.item)).setCell ⟨g, j * 3, none⟩ (.int .i64 x.at_)).setCell ⟨g, j * 3 + 1, none⟩ (.int .i64 x.put)).setCell ⟨g, j * 3 + 2, none⟩ (.int .i64 x.item)).drew
theorem own_drew {w : World} {base e n k : Nat} {v : Value} {xs : List Value} (h : w.ownsRow base e k v n xs) : w.drew.ownsRow base e k v n xs := own_keep h (fun _ _ => rfl)
theorem swW_touch (w : World) (g i j : Nat) (x y : Slot) : Touch [g] w (swW w g i j x y) := by
  unfold swW
  refine Touch.drew ?_
  refine Touch.setCell ?_ (by simp) _
  refine Touch.setCell ?_ (by simp) _
  refine Touch.setCell ?_ (by simp) _
  refine Touch.setCell ?_ (by simp) _
  refine Touch.setCell ?_ (by simp) _
  refine Touch.setCell ?_ (by simp) _
  exact Touch.refl _ _
theorem swW_row {w : World} {g c : Nat} {s : List Slot} (h : w.ownsRow 0 152 3 (.slice (some ⟨g, 0, none⟩) s.length c) s.length (flat s)) {i j : Nat} (hi : i < s.length) (hj : j < s.length) :
    (swW w g i j (gt s i) (gt s j)).ownsRow 0 152 3 (.slice (some ⟨g, 0, none⟩) s.length c) s.length (flat (swp s i j)) := by
  have := row_swp h hi hj
  unfold swW
  exact own_drew this
theorem HQ.map {w : World} {q b : Nat} {sl : Value} {p : Int} {s : List Slot} (h : HQ w q sl (some b) p s) : MapAt w b s.length (pmap s) := by
  rcases h.mp with ⟨e, _⟩ | ⟨b', e, hm⟩
  · cases e
  · cases e; exact hm
theorem HC.map_ne {w : World} {q b n : Nat} {sl : Value} {m : Option Nat} {p : Int} {f : Int → Option Value} (h : HC w q sl m p) (hm : MapAt w b n f) : b ≠ q := fun e => by
  obtain ⟨D, ⟨es, cl, hb, _⟩, _⟩ := hm
  unfold HC at h
  rw [← e, hb] at h
  simp at h
theorem swap_world (w : World) (q b g c : Nat) (p : Int) (s : List Slot) (i j : Nat) (hi : i < s.length) (hj : j < s.length) (hij : i ≠ j) (h : HQ w q (.slice (some ⟨g, 0, none⟩) s.length c) (some b) p s) (V : World) (hV : V = swW w g i j (gt s i) (gt s j)) :
    ∃ W2 W3, (Instr.mapUpdate 83 (.map (some b)) (.int .i64 (gt s j).item) (.int .i64 i)).run Tryd.prog V.drew = .ok () W2 ∧ (Instr.mapUpdate 83 (.map (some b)) (.int .i64 (gt s i).item) (.int .i64 j)).run Tryd.prog W2.drew = .ok () W3 ∧
      V.cell? ⟨g, i * 3 + 2, none⟩ = some (.int .i64 (gt s j).item) ∧ W2.cell? ⟨g, j * 3 + 2, none⟩ = some (.int .i64 (gt s i).item) ∧
      HC V q (.slice (some ⟨g, 0, none⟩) s.length c) (some b) p ∧ HC W2 q (.slice (some ⟨g, 0, none⟩) s.length c) (some b) p ∧
      (Touch (fq q (.slice (some ⟨g, 0, none⟩) s.length c) (some b)) w W3 ∧ HQ W3 q (.slice (some ⟨g, 0, none⟩) s.length c) (some b) p (swp s i j)) := by
  have hle := h.le
  have hm := h.map
  have hgq : g ≠ q := row_ne h.hc h.row (by decide) g rfl
  have hgb : g ≠ b := row_nm h.row hm g rfl
  have hbq : b ≠ q := h.hc.map_ne hm
  have TV : Touch [g] w V := by rw [hV]; exact swW_touch _ _ _ _ _ _
  have RV : V.ownsRow 0 152 3 (.slice (some ⟨g, 0, none⟩) s.length c) s.length (flat (swp s i j)) := by rw [hV]; exact swW_row h.row hi hj
  clear hV
  have CV : HC V q (.slice (some ⟨g, 0, none⟩) s.length c) (some b) p := h.hc.keep (TV.block q (block_lt h.hc) (by simpa using Ne.symm hgq))
  have MV : MapAt V b s.length (pmap s) := hm.kept (TV.block b hm.lt (by simpa using Ne.symm hgb))
  obtain ⟨u0, u1, u2⟩ := flat_at (swp s i j) i (by rw [swp_len]; exact hi)
  obtain ⟨v0, v1, v2⟩ := flat_at (swp s i j) j (by rw [swp_len]; exact hj)
  rw [swp_gt hi hj, if_neg hij, if_pos rfl] at u2
  rw [swp_gt hi hj, if_pos rfl] at v2
  have wfj := (h.wf _ (gt_mem hj)).2.2
  have wfi := (h.wf _ (gt_mem hi)).2.2
  have nd := h.nd
  obtain ⟨o1, hu1, hm1⟩ := (show MapAt V.drew b s.length (pmap s) from MV.kept rfl).set (t := 83) Tryd.underlying83 (maxLen_big' hle) wfj (.int .i64 i)
  have T2 : Touch [b] V (setBlock V.drew b o1) := touch_setBlock (Touch.refl _ _).drew (by simp) o1
  generalize setBlock V.drew b o1 = W2 at *
  have M2 : MapAt W2 b s.length (upd (pmap s) (gt s j).item (.int .i64 i)) := hm1.same (by rw [pmap_at nd hj]; rfl)
  obtain ⟨o2, hu2, hm2⟩ := (show MapAt W2.drew b s.length (upd (pmap s) (gt s j).item (.int .i64 i)) from M2.kept rfl).set (t := 83) Tryd.underlying83 (maxLen_big' hle) wfi (.int .i64 j)
  have T3 : Touch [b] W2 (setBlock W2.drew b o2) := touch_setBlock (Touch.refl _ _).drew (by simp) o2
  generalize setBlock W2.drew b o2 = W3 at *
  have C2 : HC W2 q (.slice (some ⟨g, 0, none⟩) s.length c) (some b) p := CV.keep (T2.block q (block_lt CV) (by simpa using Ne.symm hbq))
  have T4 : Touch [b] V W3 := T2.trans' T3
  refine ⟨W2, W3, hu1, hu2, own_cell RV u2, own_cell (own_touch RV T2 (fun k hk => by simp [Value.ownBlock] at hk; subst hk; simpa using hgb)) v2, CV, C2, ?_, ?_⟩
  · exact ((TV.mono (by simp [fq, Value.ownBlock])).trans' (T2.mono (by simp [fq, Value.ownBlock]))).trans' (T3.mono (by simp [fq, Value.ownBlock]))
  · refine ⟨CV.keep (T4.block q (block_lt CV) (by simpa using Ne.symm hbq)), ?_, Or.inr ⟨b, rfl, ?_⟩, nd_perm nd (swp_perm hi hj), wf_perm h.wf (swp_perm hi hj), by rw [swp_len]; exact hle⟩
    · rw [swp_len]
      exact own_touch RV T4 (fun k hk => by simp [Value.ownBlock] at hk; subst hk; simpa using hgb)
    · rw [swp_len]
      refine (hm2.congr (fun k _ => pmap_swp nd hi hj hij k)).same ?_
      have : (upd (pmap s) (gt s j).item (.int .i64 i) (gt s i).item).isSome = true := by
        simp only [upd]
        split
        · rfl
        · rw [pmap_at nd hi]; rfl
      rw [this]; rfl
set_option maxHeartbeats 4000000 in
set_option maxRecDepth 100000 in
theorem swap90 (w : World) (q b : Nat) (sl : Value) (p : Int) (s : List Slot) (i j : Nat) (hi : i < s.length) (hj : j < s.length) (hij : i ≠ j) (h : HQ w q sl (some b) p s) :
    Calls Tryd.prog 112 #[PT q, .int .i64 i, .int .i64 j] w fun e w' => e = .returned (.tuple #[]) ∧ Touch (fq q sl (some b)) w w' ∧ HQ w' q sl (some b) p (swp s i j) := by
  obtain ⟨g, c, rfl⟩ := h.slice (by omega)
  have hle := h.le
  obtain ⟨x0, x1, x2⟩ := flat_at s i hi
  obtain ⟨y0, y1, y2⟩ := flat_at s j hj
  have hgq : g ≠ q := row_ne h.hc h.row (by decide) g rfl
  have a0 := own_cell h.row x0
  have a1 := own_cell h.row x1
  have a2 := own_cell h.row x2
  have b0 := own_cell h.row y0
  have b1 := own_cell h.row y1
  have b2 := own_cell h.row y2
  have fz : ∀ k, w.frozen? ⟨g, k, none⟩ = false := own_frozen h.row
  have c0 := h.hc.c0
  have zi : (i : Int) < (s.length : Int) := by omega
  have zj : (j : Int) < (s.length : Int) := by omega
  have zl : (s.length : Int) ≤ 65536 := by omega
  obtain ⟨V, hV⟩ : ∃ V, V = swW w g i j (gt s i) (gt s j) := ⟨_, rfl⟩
  obtain ⟨W2, W3, hu1, hu2, r1, r2, CV, C2, HF⟩ := swap_world w q b g c p s i j hi hj hij h V hV
  have d0 := CV.c0
  have d1 := CV.c1
  have e0 := C2.c0
  have e1 := C2.c1
  have HF := hid HF
  have HV := hid hV
  clear h x0 x1 x2 y0 y1 y2 CV C2 hV
  generalize swp s i j = S at *
  generalize gt s i = x at *
  generalize gt s j = y at *
  generalize s.length = n at *
  unfold PT
  go_enter Tryd.func112, Tryd.ntmps112
  go_wp2
  go_region
  go_wp2
  have hV := HV.out
  unfold swW at hV
  rw [← hV]
  clear hV a0 a1 a2 b0 b1 b2 fz c0
  go_region
  go_wp2
  go_region
  go_end0
  exact ⟨rfl, HF.out⟩
end Go.Proofs.YtcbckehdlbbbbaaDoor.Cl
/- The contracts of container/heap's up and down at a queue by time. -/
namespace Go.Proofs.YtcbckehdlbbbbaaDoor.Cl
open Go.RowKit Go.Maps Go.ChangeMaps
set_option linter.unusedVariables false
theorem mLess (q : Nat) (w : World) : Sem.run Tryd.prog (method 303 170 (.pointer (some ⟨q, 0, none⟩)) "Less") w = .ok (109, .pointer (some ⟨q, 0, none⟩)) w := by kernel_rfl
theorem mSwap (q : Nat) (w : World) : Sem.run Tryd.prog (method 303 170 (.pointer (some ⟨q, 0, none⟩)) "Swap") w = .ok (112, .pointer (some ⟨q, 0, none⟩)) w := by kernel_rfl
theorem mLen (q : Nat) (w : World) : Sem.run Tryd.prog (method 303 170 (.pointer (some ⟨q, 0, none⟩)) "Len") w = .ok (108, .pointer (some ⟨q, 0, none⟩)) w := by kernel_rfl
theorem mPush (q : Nat) (w : World) : Sem.run Tryd.prog (method 303 170 (.pointer (some ⟨q, 0, none⟩)) "Push") w = .ok (111, .pointer (some ⟨q, 0, none⟩)) w := by kernel_rfl
theorem mPop (q : Nat) (w : World) : Sem.run Tryd.prog (method 303 170 (.pointer (some ⟨q, 0, none⟩)) "Pop") w = .ok (110, .pointer (some ⟨q, 0, none⟩)) w := by kernel_rfl
theorem HQ.keep {F : List Nat} {w w' : World} {q : Nat} {sl : Value} {m : Option Nat} {p : Int} {s : List Slot} (h : HQ w q sl m p s) (ht : Touch F w w') (hn : ∀ k, k ∈ fq q sl m → ¬ k ∈ F) : HQ w' q sl m p s := by
  refine ⟨h.hc.keep (ht.block q (block_lt h.hc) (hn q (by simp [fq]))), own_touch h.row ht (fun b hb => hn b (by simp [fq, hb])), ?_, h.nd, h.wf, h.le⟩
  rcases h.mp with hm | ⟨b, rfl, hm⟩
  · exact Or.inl hm
  · exact Or.inr ⟨b, rfl, hm.kept (ht.block b hm.lt (hn b (by simp [fq])))⟩
theorem HQ.gw {w w' : World} {q : Nat} {sl : Value} {m : Option Nat} {p : Int} {s : List Slot} (h : HQ w q sl m p s) (hg : Gw w w') : HQ w' q sl m p s := h.keep hg.touch (fun _ _ e => by cases e)
theorem Gw.touch' {w w' : World} (hg : Gw w w') (F : List Nat) : Touch F w w' := hg.touch.mono (fun _ h => by cases h)
theorem ltB_true {x y : Slot} (h : ltB x y = true) : ltS x y := of_decide_eq_true h
theorem ltB_false {x y : Slot} (h : ltB x y = false) : ¬ ltS x y := of_decide_eq_false h
def UpR (w wr : World) (q b : Nat) (sl : Value) (p : Int) (s : List Slot) (n : Nat) (t : List Slot) (k : Nat) : Prop := t.Perm s ∧ (∀ k, n ≤ k → gt t k = gt s k) ∧ UpI n t k ∧ Touch (fq q sl (some b)) w wr ∧ HQ wr q sl (some b) p t
theorem UpR.step {w wr w1 w2 : World} {q b : Nat} {sl : Value} {p : Int} {s : List Slot} {n : Nat} {t : List Slot} {k : Nat} (h : UpR w wr q b sl p s n t k) (hn : n ≤ t.length) (hk : k < n) (h0 : 0 < k) (hl : ltB (gt t k) (gt t (par k)) = true) (hg : Gw wr w1)
    (ht : Touch (fq q sl (some b)) w1 w2) (hq : HQ w2 q sl (some b) p (swp t (par k) k)) : UpR w w2 q b sl p s n (swp t (par k) k) (par k) := by
  obtain ⟨r1, r2, r3, r4, r5⟩ := h
  have := par_lt h0
  refine ⟨(swp_perm (by omega) (by omega)).trans r1, fun i hi => ?_, up_step r3 hn hk h0 (ltB_true hl), (r4.trans' (hg.touch' _)).trans' ht, hq⟩
  rw [swp_gt (by omega) (by omega), if_neg (by omega), if_neg (by omega)]
  exact r2 i hi
def IF (q : Nat) : Value := .iface 170 (.pointer (some ⟨q, 0, none⟩))
set_option maxHeartbeats 1000000 in
set_option maxRecDepth 100000 in
theorem up45 (w : World) (q b : Nat) (sl : Value) (p : Int) (s : List Slot) (n j : Nat) (hj : j < n) (hn : n ≤ s.length) (h : HQ w q sl (some b) p s) (hu : UpI n s j) :
    Calls Tryd.prog 87 #[IF q, .int .i64 j] w fun e w' => e = .returned (.tuple #[]) ∧ ∃ s', s'.Perm s ∧ (∀ k, n ≤ k → gt s' k = gt s k) ∧ Heap n s' ∧ Touch (fq q sl (some b)) w w' ∧ HQ w' q sl (some b) p s' := by
  have HH := hid h
  have HU := hid hu
  have hle := h.le
  have mL := mLess q
  have mS := mSwap q
  clear h hu
  unfold IF
  go_enter Tryd.func87, Tryd.ntmps87
  go_wp2
  go_loopw [1] (fun i wr => ∃ (k : Nat) (t : List Slot), i = .int .i64 k ∧ k < n ∧ Hid (UpR w wr q b sl p s n t k)) (fun i _ => (intOf i).toNat)
  case atStart => exact ⟨j, s, rfl, hj, List.Perm.refl _, fun _ _ => rfl, HU.out, Touch.refl _ _, HH.out⟩
  case round =>
    obtain ⟨k, t, rfl, hk, HR⟩ := hrel
    have hkl : k < t.length := by have := HR.out.1.length_eq; omega
    have hnt : n ≤ t.length := by have := HR.out.1.length_eq; omega
    by_cases h0 : k = 0
    · subst h0
      go_wp2
      go_end0
      obtain ⟨r1, r2, r3, r4, r5⟩ := HR.out
      exact ⟨rfl, t, r1, r2, up_done r3 (Or.inl rfl), r4, r5⟩
    · have hpk : par k < k := par_lt (by omega)
      have e1 : ((k : Int) - 1) / 2 = ((par k : Nat) : Int) := by unfold par; omega
      have z1 : (k : Int) ≤ 65536 := by omega
      have z2 : (1 : Int) ≤ (k : Int) := by omega
      have z3 : (((par k : Nat) : Int) == (k : Int)) = false := by simp; omega
      have z4 : ((par k : Nat) : Int) < (k : Int) := by omega
      have HL := hid (less87 wr q sl (some b) p t k (par k) hkl (by omega) HR.out.2.2.2.2)
      cases hlt : ltB (gt t k) (gt t (par k)) with
      | false =>
        rw [hlt] at HL
        have HE : Hid (∀ w1, Gw wr w1 → ∃ s', s'.Perm s ∧ (∀ k, n ≤ k → gt s' k = gt s k) ∧ Heap n s' ∧ Touch (fq q sl (some b)) w w1 ∧ HQ w1 q sl (some b) p s') := fun w1 hg => by
          obtain ⟨r1, r2, r3, r4, r5⟩ := HR.out
          exact ⟨t, r1, r2, up_done r3 (Or.inr (ltB_false hlt)), r4.trans' (hg.touch' _), r5.gw hg⟩
        clear hlt
        generalize par k = pk at *
        go_wp2_with (go_at_call 109; refine HL.out.mono ?_; rintro e w1 ⟨rfl, hg⟩)
        go_end0
        exact ⟨rfl, HE.out w1 hg⟩
      | true =>
        rw [hlt] at HL
        have HE : Hid (∀ w1 w2, Gw wr w1 → Touch (fq q sl (some b)) w1 w2 → HQ w2 q sl (some b) p (swp t (par k) k) → UpR w w2 q b sl p s n (swp t (par k) k) (par k)) := fun w1 w2 hg ht hq => HR.out.step hnt hk (by omega) hlt hg ht hq
        have HS : Hid (∀ w1, Gw wr w1 → Calls Tryd.prog 112 #[.pointer (some ⟨q, 0, none⟩), .int .i64 ((par k : Nat) : Int), .int .i64 (k : Int)] w1 fun e w' => e = .returned (.tuple #[]) ∧ Touch (fq q sl (some b)) w1 w' ∧ HQ w' q sl (some b) p (swp t (par k) k)) := fun w1 hg =>
          swap90 w1 q b sl p t (par k) k (by omega) hkl (by omega) (HR.out.2.2.2.2.gw hg)
        clear hlt
        generalize par k = pk at *
        go_wp2_with (first | (go_at_call 109; refine HL.out.mono ?_; rintro e w1 ⟨rfl, hg⟩) | (go_at_call 112; refine (HS.out _ (by assumption)).mono ?_; rintro e w2 ⟨rfl, ht, hq⟩))
        go_roundw
        case rel => exact ⟨pk, swp t pk k, rfl, by omega, HE.out w1 w2 hg ht hq⟩
        case measure => simp [intOf]; omega
end Go.Proofs.YtcbckehdlbbbbaaDoor.Cl
/- The contract of container/heap's down at a queue by time. -/
namespace Go.Proofs.YtcbckehdlbbbbaaDoor.Cl
open Go.RowKit Go.Maps Go.ChangeMaps
set_option linter.unusedVariables false
def DnR (w wr : World) (q b : Nat) (sl : Value) (p : Int) (s : List Slot) (n i0 : Nat) (t : List Slot) (k : Nat) : Prop :=
  t.Perm s ∧ (∀ k, n ≤ k → gt t k = gt s k) ∧ Hole n t k ∧ (k ≠ i0 → leS (gt t (par k)) (gt t k)) ∧ Touch (fq q sl (some b)) w wr ∧ HQ wr q sl (some b) p t
def DnP (w w' : World) (q b : Nat) (sl : Value) (p : Int) (s : List Slot) (n i0 : Nat) (B : Bool) : Prop :=
  ∃ s', s'.Perm s ∧ (∀ k, n ≤ k → gt s' k = gt s k) ∧ (B = true → Heap n s') ∧ (B = false → UpI n s' i0) ∧ Touch (fq q sl (some b)) w w' ∧ HQ w' q sl (some b) p s'
def DnQ (e : Ending) (w w' : World) (q b : Nat) (sl : Value) (p : Int) (s : List Slot) (n i0 : Nat) : Prop := ∃ B, e = .returned (.bool B) ∧ DnP w w' q b sl p s n i0 B
theorem DnR.end {w wr w1 : World} {q b : Nat} {sl : Value} {p : Int} {s : List Slot} {n i0 : Nat} {t : List Slot} {k : Nat} (h : DnR w wr q b sl p s n i0 t k) (hi : i0 ≤ k) (hg : Gw wr w1)
    (hc : ∀ c, 0 < c → c < n → par c = k → leS (gt t k) (gt t c)) : DnP w w1 q b sl p s n i0 (decide (i0 < k)) := by
  obtain ⟨r1, r2, r3, r4, r5, r6⟩ := h
  refine ⟨t, r1, r2, fun hb => ?_, fun hb => ?_, r5.trans' (hg.touch' _), r6.gw hg⟩
  · have := of_decide_eq_true hb
    exact hole_done r3 (fun _ => r4 (by omega)) hc
  · have := of_decide_eq_false hb
    have e : k = i0 := by omega
    rw [← e]
    exact hole_up r3 hc
theorem DnR.step {w wr w1 w2 : World} {q b : Nat} {sl : Value} {p : Int} {s : List Slot} {n i0 : Nat} {t : List Slot} {k j : Nat} (h : DnR w wr q b sl p s n i0 t k) (hn : n ≤ t.length) (hj : j < n) (h0 : 0 < j) (hp : par j = k) (hm : ∀ c, 0 < c → c < n → par c = k → leS (gt t j) (gt t c))
    (hl : ltB (gt t j) (gt t k) = true) (hg : Gw wr w1) (ht : Touch (fq q sl (some b)) w1 w2) (hq : HQ w2 q sl (some b) p (swp t k j)) : DnR w w2 q b sl p s n i0 (swp t k j) j := by
  obtain ⟨r1, r2, r3, r4, r5, r6⟩ := h
  have hlt := par_lt h0
  have H := hole_step r3 hn hj h0 hp hm (ltB_true hl)
  refine ⟨(swp_perm (by omega) (by omega)).trans r1, fun i hi => ?_, H.1, fun _ => H.2, (r5.trans' (hg.touch' _)).trans' ht, hq⟩
  rw [swp_gt (by omega) (by omega), if_neg (by omega), if_neg (by omega)]
  exact r2 i hi
theorem par_child {c k : Nat} (h0 : 0 < c) (h : par c = k) : c = 2 * k + 1 ∨ c = 2 * k + 2 := by unfold par at h; omega
theorem child1 {n k : Nat} {t : List Slot} (h2 : ¬ 2 * k + 2 < n) : ∀ c, 0 < c → c < n → par c = k → leS (gt t (2 * k + 1)) (gt t c) := fun c c0 cn cp => by
  rcases par_child c0 cp with rfl | rfl
  · exact leS.refl _
  · omega
theorem child2t {n k : Nat} {t : List Slot} (h : ltB (gt t (2 * k + 2)) (gt t (2 * k + 1)) = true) : ∀ c, 0 < c → c < n → par c = k → leS (gt t (2 * k + 2)) (gt t c) := fun c c0 cn cp => by
  rcases par_child c0 cp with rfl | rfl
  · exact (ltB_true h).le
  · exact leS.refl _
theorem child2f {n k : Nat} {t : List Slot} (h : ltB (gt t (2 * k + 2)) (gt t (2 * k + 1)) = false) : ∀ c, 0 < c → c < n → par c = k → leS (gt t (2 * k + 1)) (gt t c) := fun c c0 cn cp => by
  rcases par_child c0 cp with rfl | rfl
  · exact leS.refl _
  · exact not_lt.1 (ltB_false h)
set_option maxHeartbeats 2000000 in
set_option maxRecDepth 100000 in
theorem down51 (w : World) (q b : Nat) (sl : Value) (p : Int) (s : List Slot) (n i0 : Nat) (hi0 : i0 < n) (hn : n ≤ s.length) (h : HQ w q sl (some b) p s) (hu : Hole n s i0) :
    Calls Tryd.prog 86 #[IF q, .int .i64 i0, .int .i64 n] w fun e w' => DnQ e w w' q b sl p s n i0 := by
  have HH := hid h
  have HU := hid hu
  have hle := h.le
  have mL := mLess q
  have mS := mSwap q
  have zn : (n : Int) ≤ 65536 := by omega
  clear h hu
  unfold IF
  go_enter Tryd.func86, Tryd.ntmps86
  go_wp2
  go_loopw [7] (fun i wr => ∃ (k : Nat) (t : List Slot), i = .int .i64 k ∧ k < n ∧ i0 ≤ k ∧ Hid (DnR w wr q b sl p s n i0 t k)) (fun i _ => n - (intOf i).toNat)
  case atStart => exact ⟨i0, s, rfl, hi0, Nat.le_refl _, List.Perm.refl _, fun _ _ => rfl, HU.out, fun e => absurd rfl e, Touch.refl _ _, HH.out⟩
  case round =>
    obtain ⟨k, t, rfl, hk, hik, HR⟩ := hrel
    have hkl : k < t.length := by have := HR.out.1.length_eq; omega
    have hnt : n ≤ t.length := by have := HR.out.1.length_eq; omega
    have zk : (k : Int) < (n : Int) := by omega
    by_cases h1 : 2 * k + 1 < n
    · obtain ⟨c1, hc1⟩ : ∃ c1, c1 = 2 * k + 1 := ⟨_, rfl⟩
      obtain ⟨c2, hc2⟩ : ∃ c2, c2 = 2 * k + 2 := ⟨_, rfl⟩
      have e1 : 2 * (k : Int) + 1 = (c1 : Int) := by omega
      have e2 : (c1 : Int) + 1 = (c2 : Int) := by omega
      have z1 : (c1 : Int) < (n : Int) := by omega
      have l1 : c1 < n := by omega
      have l3 : k < c1 := by omega
      have l4 : k < c2 := by omega
      have p1 : par c1 = k := by unfold par; omega
      have p2 : par c2 = k := by unfold par; omega
      by_cases h2 : 2 * k + 2 < n
      · have z2 : (c2 : Int) < (n : Int) := by omega
        have l2 : c2 < n := by omega
        have HL := hid (less87 wr q sl (some b) p t c2 c1 (by omega) (by omega) HR.out.2.2.2.2.2)
        cases hb : ltB (gt t c2) (gt t c1) with
        | true =>
          rw [hb] at HL
          have hm : ∀ c, 0 < c → c < n → par c = k → leS (gt t c2) (gt t c) := by rw [hc2]; exact child2t (by rw [← hc1, ← hc2]; exact hb)
          have HL2 : Hid (∀ w1, Gw wr w1 → Calls Tryd.prog 109 #[.pointer (some ⟨q, 0, none⟩), .int .i64 (c2 : Int), .int .i64 (k : Int)] w1 fun e w' => e = .returned (.bool (ltB (gt t c2) (gt t k))) ∧ Gw w1 w') := fun w1 hg => less87 w1 q sl (some b) p t c2 k (by omega) (by omega) (HR.out.2.2.2.2.2.gw hg)
          cases hb2 : ltB (gt t c2) (gt t k) with
          | true =>
            rw [hb2] at HL2
            have HE : Hid (∀ w1 w2, Gw wr w1 → Touch (fq q sl (some b)) w1 w2 → HQ w2 q sl (some b) p (swp t k c2) → DnR w w2 q b sl p s n i0 (swp t k c2) c2) := fun w1 w2 hg ht hq => HR.out.step hnt l2 (by omega) p2 hm hb2 hg ht hq
            have HS : Hid (∀ w1, Gw wr w1 → Calls Tryd.prog 112 #[.pointer (some ⟨q, 0, none⟩), .int .i64 (k : Int), .int .i64 (c2 : Int)] w1 fun e w' => e = .returned (.tuple #[]) ∧ Touch (fq q sl (some b)) w1 w' ∧ HQ w' q sl (some b) p (swp t k c2)) := fun w1 hg =>
              swap90 w1 q b sl p t k c2 (by omega) (by omega) (by omega) (HR.out.2.2.2.2.2.gw hg)
            clear hb hb2 hm p1 p2 hc1 hc2
            go_wp2_with (first | (go_at_call_of 109 (#[.pointer (some ⟨q, 0, none⟩), .int .i64 (c2 : Int), .int .i64 (c1 : Int)] : Array Value); refine HL.out.mono ?_; rintro e w1 ⟨rfl, hg⟩) | (go_at_call 109; refine (HL2.out _ (by assumption)).mono ?_; rintro e w3 ⟨rfl, hg3⟩; have K3 := Gw.trans hg hg3; clear hg hg3) | (go_at_call 112; refine (HS.out _ (by assumption)).mono ?_; rintro e w2 ⟨rfl, ht, hq⟩))
            go_roundw
            case rel => exact ⟨c2, swp t k c2, rfl, by omega, by omega, HE.out w3 w2 K3 ht hq⟩
            case measure => simp [intOf]; omega
          | false =>
            rw [hb2] at HL2
            have HE : Hid (∀ w1, Gw wr w1 → DnP w w1 q b sl p s n i0 (decide (i0 < k))) := fun w1 hg => HR.out.end hik hg (fun c c0 cn cp => (not_lt.1 (ltB_false hb2)).trans (hm c c0 cn cp))
            clear hb hb2 hm p1 p2 hc1 hc2
            go_wp2_with (first | (go_at_call_of 109 (#[.pointer (some ⟨q, 0, none⟩), .int .i64 (c2 : Int), .int .i64 (c1 : Int)] : Array Value); refine HL.out.mono ?_; rintro e w1 ⟨rfl, hg⟩) | (go_at_call 109; refine (HL2.out _ (by assumption)).mono ?_; rintro e w3 ⟨rfl, hg3⟩; have K3 := Gw.trans hg hg3; clear hg hg3))
            go_ret
            exact ⟨_, rfl, HE.out w3 K3⟩
        | false =>
          rw [hb] at HL
          have hm : ∀ c, 0 < c → c < n → par c = k → leS (gt t c1) (gt t c) := by rw [hc1]; exact child2f (by rw [← hc1, ← hc2]; exact hb)
          have HL2 : Hid (∀ w1, Gw wr w1 → Calls Tryd.prog 109 #[.pointer (some ⟨q, 0, none⟩), .int .i64 (c1 : Int), .int .i64 (k : Int)] w1 fun e w' => e = .returned (.bool (ltB (gt t c1) (gt t k))) ∧ Gw w1 w') := fun w1 hg => less87 w1 q sl (some b) p t c1 k (by omega) (by omega) (HR.out.2.2.2.2.2.gw hg)
          cases hb2 : ltB (gt t c1) (gt t k) with
          | true =>
            rw [hb2] at HL2
            have HE : Hid (∀ w1 w2, Gw wr w1 → Touch (fq q sl (some b)) w1 w2 → HQ w2 q sl (some b) p (swp t k c1) → DnR w w2 q b sl p s n i0 (swp t k c1) c1) := fun w1 w2 hg ht hq => HR.out.step hnt l1 (by omega) p1 hm hb2 hg ht hq
            have HS : Hid (∀ w1, Gw wr w1 → Calls Tryd.prog 112 #[.pointer (some ⟨q, 0, none⟩), .int .i64 (k : Int), .int .i64 (c1 : Int)] w1 fun e w' => e = .returned (.tuple #[]) ∧ Touch (fq q sl (some b)) w1 w' ∧ HQ w' q sl (some b) p (swp t k c1)) := fun w1 hg =>
              swap90 w1 q b sl p t k c1 (by omega) (by omega) (by omega) (HR.out.2.2.2.2.2.gw hg)
            clear hb hb2 hm p1 p2 hc1 hc2
            go_wp2_with (first | (go_at_call_of 109 (#[.pointer (some ⟨q, 0, none⟩), .int .i64 (c2 : Int), .int .i64 (c1 : Int)] : Array Value); refine HL.out.mono ?_; rintro e w1 ⟨rfl, hg⟩) | (go_at_call 109; refine (HL2.out _ (by assumption)).mono ?_; rintro e w3 ⟨rfl, hg3⟩; have K3 := Gw.trans hg hg3; clear hg hg3) | (go_at_call 112; refine (HS.out _ (by assumption)).mono ?_; rintro e w2 ⟨rfl, ht, hq⟩))
            go_roundw
            case rel => exact ⟨c1, swp t k c1, rfl, by omega, by omega, HE.out w3 w2 K3 ht hq⟩
            case measure => simp [intOf]; omega
          | false =>
            rw [hb2] at HL2
            have HE : Hid (∀ w1, Gw wr w1 → DnP w w1 q b sl p s n i0 (decide (i0 < k))) := fun w1 hg => HR.out.end hik hg (fun c c0 cn cp => (not_lt.1 (ltB_false hb2)).trans (hm c c0 cn cp))
            clear hb hb2 hm p1 p2 hc1 hc2
            go_wp2_with (first | (go_at_call_of 109 (#[.pointer (some ⟨q, 0, none⟩), .int .i64 (c2 : Int), .int .i64 (c1 : Int)] : Array Value); refine HL.out.mono ?_; rintro e w1 ⟨rfl, hg⟩) | (go_at_call 109; refine (HL2.out _ (by assumption)).mono ?_; rintro e w3 ⟨rfl, hg3⟩; have K3 := Gw.trans hg hg3; clear hg hg3))
            go_ret
            exact ⟨_, rfl, HE.out w3 K3⟩
      · have z2 : ¬ (c2 : Int) < (n : Int) := by omega
        have hm : ∀ c, 0 < c → c < n → par c = k → leS (gt t c1) (gt t c) := by rw [hc1]; exact child1 h2
        have HL2 := hid (less87 wr q sl (some b) p t c1 k (by omega) (by omega) HR.out.2.2.2.2.2)
        cases hb : ltB (gt t c1) (gt t k) with
        | true =>
          rw [hb] at HL2
          have HE : Hid (∀ w1 w2, Gw wr w1 → Touch (fq q sl (some b)) w1 w2 → HQ w2 q sl (some b) p (swp t k c1) → DnR w w2 q b sl p s n i0 (swp t k c1) c1) := fun w1 w2 hg ht hq => HR.out.step hnt l1 (by omega) p1 hm hb hg ht hq
          have HS : Hid (∀ w1, Gw wr w1 → Calls Tryd.prog 112 #[.pointer (some ⟨q, 0, none⟩), .int .i64 (k : Int), .int .i64 (c1 : Int)] w1 fun e w' => e = .returned (.tuple #[]) ∧ Touch (fq q sl (some b)) w1 w' ∧ HQ w' q sl (some b) p (swp t k c1)) := fun w1 hg =>
            swap90 w1 q b sl p t k c1 (by omega) (by omega) (by omega) (HR.out.2.2.2.2.2.gw hg)
          clear hb hm p1 p2 hc1 hc2
          go_wp2_with (first | (go_at_call 109; refine HL2.out.mono ?_; rintro e w1 ⟨rfl, hg⟩) | (go_at_call 112; refine (HS.out _ (by assumption)).mono ?_; rintro e w2 ⟨rfl, ht, hq⟩))
          go_roundw
          case rel => exact ⟨c1, swp t k c1, rfl, by omega, by omega, HE.out w1 w2 hg ht hq⟩
          case measure => simp [intOf]; omega
        | false =>
          rw [hb] at HL2
          have HE : Hid (∀ w1, Gw wr w1 → DnP w w1 q b sl p s n i0 (decide (i0 < k))) := fun w1 hg => HR.out.end hik hg (fun c c0 cn cp => (not_lt.1 (ltB_false hb)).trans (hm c c0 cn cp))
          clear hb hm p1 p2 hc1 hc2
          go_wp2_with (go_at_call 109; refine HL2.out.mono ?_; rintro e w1 ⟨rfl, hg⟩)
          go_ret
          exact ⟨_, rfl, HE.out w1 hg⟩
    · have z1 : ¬ 2 * (k : Int) + 1 < (n : Int) := by omega
      have HE : Hid (DnP w wr q b sl p s n i0 (decide (i0 < k))) := HR.out.end hik (Gw.refl _) (fun c c0 cn cp => by rcases par_child c0 cp with rfl | rfl <;> omega)
      go_wp2
      go_ret
      exact ⟨_, rfl, HE.out⟩
end Go.Proofs.YtcbckehdlbbbbaaDoor.Cl
/- The contracts of the heap's Push and Pop. -/
namespace Go.Proofs.YtcbckehdlbbbbaaDoor.Cl
open Go.RowKit Go.Maps Go.ChangeMaps
set_option linter.unusedVariables false
theorem info77 : (Tryd.prog.info? 152).map (fun i => (i.zero, i.size, i.bytes)) = some (some (.agg #[.int .i64 0, .int .i64 0, .int .i64 0]), 3, (24)) := by kernel_rfl
theorem cell_three_new (w : World) (x y z : Value) (t : TypeId) : ∀ j u, [x, y, z][j]? = some u → (w.alloc (.cells #[x, y, z] t)).cell? ((⟨w.heap.size, 0, none⟩ : Addr).add j) = some u := by
  intro j u hj
  match j, hj with
  | 0, hj => simp at hj; subst hj; simp [Addr.add]
  | 1, hj => simp at hj; subst hj; simp [Addr.add]
  | 2, hj => simp at hj; subst hj; simp [Addr.add]
/-- The places of a queue lie where they lay, or in new blocks. -/
def Nq (w : World) (q : Nat) (sl : Value) (m : Option Nat) (sl' : Value) (m' : Option Nat) : Prop := ∀ k, k ∈ fq q sl' m' → k ∈ fq q sl m ∨ w.heap.size ≤ k
theorem pmap_snoc {s : List Slot} {x : Slot} (hx : ∀ y ∈ s, y.item ≠ x.item) (k : Int) : upd (pmap s) x.item (.int .i64 s.length) k = pmap (s ++ [x]) k := by
  unfold upd pmap idx
  rw [List.findIdx?_append]
  by_cases e : k = x.item
  · rw [if_pos e, e]
    have : idx s x.item = none := idx_none.2 hx
    unfold idx at this
    rw [this]
    simp
  · rw [if_neg e]
    have : ¬ x.item = k := fun h => e h.symm
    cases h : List.findIdx? (fun x => x.item == k) s <;> simp [this]
theorem flat_one (x : Slot) : flat [x] = [.int .i64 x.at_, .int .i64 x.put, .int .i64 x.item] := rfl
theorem nd_snocS {s : List Slot} {x : Slot} (h : Nd s) (hx : ∀ y ∈ s, y.item ≠ x.item) : Nd (s ++ [x]) := by
  unfold Nd
  rw [List.map_append, List.nodup_append]
  refine ⟨h, by simp, fun a ha b hb => ?_⟩
  simp at hb ha
  obtain ⟨y, hy, rfl⟩ := ha
  subst hb
  exact hx y hy
theorem wf_snocS {s : List Slot} {x : Slot} (h : WfS s) (hx : W64 x.at_ ∧ W64 x.put ∧ W64 x.item) : WfS (s ++ [x]) := fun y hy => by
  simp at hy
  rcases hy with hy | rfl
  · exact h y hy
  · exact hx
theorem HC.set0 {w : World} {q : Nat} {sl : Value} {m : Option Nat} {p : Int} (h : HC w q sl m p) (v : Value) : HC (w.setCell ⟨q, 0, none⟩ v) q v m p := Joins.block_setCell h _
theorem HC.set1 {w : World} {q : Nat} {sl : Value} {m : Option Nat} {p : Int} (h : HC w q sl m p) (v : Option Nat) : HC (w.setCell ⟨q, 1, none⟩ (.map v)) q sl v p := Joins.block_setCell h _
theorem HC.set2 {w : World} {q : Nat} {sl : Value} {m : Option Nat} {p : Int} (h : HC w q sl m p) (v : Int) : HC (w.setCell ⟨q, 2, none⟩ (.int .i64 v)) q sl m v := Joins.block_setCell h _
/-- How the heap stands ahead of the append: the map has the item already. -/
structure Mid (w : World) (q : Nat) (sl : Value) (b : Nat) (p : Int) (s : List Slot) (x : Slot) : Prop where
  hc : HC w q sl (some b) p
  row : w.ownsRow 0 152 3 sl s.length (flat s)
  mp : MapAt w b (s.length + 1) (pmap (s ++ [x]))
theorem Mid.after {w w2 : World} {q b : Nat} {sl : Value} {p : Int} {s : List Slot} {x : Slot} (h : Mid w q sl b p s x) (hn : Nd s) (hw : WfS s) (hx : ∀ y ∈ s, y.item ≠ x.item) (hxw : W64 x.at_ ∧ W64 x.put ∧ W64 x.item) (hl : s.length < 65536)
    {g c : Nat} (hr : w2.ownsRow 0 152 3 (.slice (some ⟨g, 0, none⟩) (s.length + 1) c) (s.length + 1) (flat s ++ [.int .i64 x.at_, .int .i64 x.put, .int .i64 x.item])) (ht : Touch sl.ownBlock.toList w w2) (hg : sl.ownBlock = some g ∨ w.heap.size ≤ g) :
    HQ (w2.setCell ⟨q, 0, none⟩ (.slice (some ⟨g, 0, none⟩) (s.length + 1) c)) q (.slice (some ⟨g, 0, none⟩) (s.length + 1) c) (some b) p (s ++ [x]) ∧ Touch (fq q sl (some b)) w (w2.setCell ⟨q, 0, none⟩ (.slice (some ⟨g, 0, none⟩) (s.length + 1) c)) ∧ Nq w q sl (some b) (.slice (some ⟨g, 0, none⟩) (s.length + 1) c) (some b) := by
  have hbq := h.hc.map_ne h.mp
  have hsq : ¬ q ∈ sl.ownBlock.toList := fun e => by
    have e : sl.ownBlock = some q := by simpa using e
    exact row_ne h.hc h.row (by decide) q e rfl
  have hsb : ¬ b ∈ sl.ownBlock.toList := fun e => by
    have e : sl.ownBlock = some b := by simpa using e
    exact row_nm h.row h.mp b e rfl
  have C2 : HC w2 q sl (some b) p := h.hc.keep (ht.block q (block_lt h.hc) hsq)
  have M2 : MapAt w2 b (s.length + 1) (pmap (s ++ [x])) := h.mp.kept (ht.block b h.mp.lt hsb)
  have hgq : g ≠ q := row_ne C2 hr (by decide) g rfl
  have hlen : (s ++ [x]).length = s.length + 1 := by simp
  refine ⟨⟨C2.set0 _, ?_, Or.inr ⟨b, rfl, ?_⟩, nd_snocS hn hx, wf_snocS hw hxw, by rw [hlen]; omega⟩, ?_, ?_⟩
  · rw [hlen, flat_app, flat_one]
    exact own_keep hr (fun k hk => Below.heap_setCell _ _ _ _ (by simp [Value.ownBlock] at hk; rw [← hk]; exact hgq))
  · rw [hlen]
    exact M2.kept (Below.heap_setCell _ _ _ _ hbq)
  · exact (ht.mono (fun k hk => by simp [fq]; simp at hk; simp [hk])).setCell (by simp [fq]) _
  · intro k hk
    simp [fq, Value.ownBlock] at hk
    rcases hk with rfl | rfl | rfl
    · simp [fq]
    · rcases hg with hg | hg
      · left; simp [fq, hg]
      · exact Or.inr hg
    · simp [fq]
theorem assert77 (v : Value) (w : World) : (Instr.typeAssert (.iface 152 v) 20 152 false).run Tryd.prog w = .ok v w := by kernel_rfl
theorem Mid.make {w V : World} {q b : Nat} {sl : Value} {p : Int} {s : List Slot} {x : Slot} (h : HQ w q sl (some b) p s) (hx : ∀ y ∈ s, y.item ≠ x.item) (hxw : W64 x.item) (ht : Touch [] w V) :
    ∃ W, (Instr.mapUpdate 83 (.map (some b)) (.int .i64 x.item) (.int .i64 s.length)).run Tryd.prog V.drew = .ok () W ∧ Mid W q sl b p s x ∧ Touch [b] V W := by
  have h' := h.keep ht (fun _ _ e => by cases e)
  have hm := h'.map
  obtain ⟨o, hu, hm2⟩ := (show MapAt V.drew b s.length (pmap s) from hm.kept rfl).set (t := 83) Tryd.underlying83 (maxLen_big' h.le) hxw (.int .i64 s.length)
  have T : Touch [b] V (setBlock V.drew b o) := touch_setBlock (Touch.refl _ _).drew (by simp) o
  have hbq := h'.hc.map_ne hm
  refine ⟨_, hu, ⟨h'.hc.keep (T.block q (block_lt h'.hc) (by simpa using Ne.symm hbq)), own_touch h'.row T (fun k hk => by simpa using row_nm h'.row hm k hk), ?_⟩, T⟩
  have e : pmap s x.item = none := by unfold pmap; rw [idx_none.2 hx]; rfl
  exact (hm2.congr (fun k _ => pmap_snoc hx k)).same (by rw [e]; rfl)
set_option maxHeartbeats 2000000 in
set_option maxRecDepth 100000 in
theorem push89_some (w : World) (q b : Nat) (sl : Value) (p : Int) (s : List Slot) (x : Slot) (h : HQ w q sl (some b) p s) (hl : s.length < 65536) (hx : ∀ y ∈ s, y.item ≠ x.item) (hxw : W64 x.at_ ∧ W64 x.put ∧ W64 x.item) :
    Calls Tryd.prog 111 #[PT q, .iface 152 (sv x)] w fun e w' => e = .returned (.tuple #[]) ∧ ∃ sl', HQ w' q sl' (some b) p (s ++ [x]) ∧ Touch (fq q sl (some b)) w w' ∧ Nq w q sl (some b) sl' (some b) := by
  obtain ⟨i0, hi, hz0, hz1, hz2⟩ := info_parts info77
  obtain ⟨a0, c0', hsl⟩ := own_form h.row
  have hq := block_lt h.hc
  have q68 := eq68
  have c1 := h.hc.c1
  have c0 := h.hc.c0
  rw [hsl] at c0
  have h77 := assert77
  obtain ⟨V, hV⟩ : ∃ V, V = w.alloc (.cells #[.int .i64 x.at_, .int .i64 x.put, .int .i64 x.item] 152) := ⟨_, rfl⟩
  have TV : Touch [] w V := by rw [hV]; exact (Touch.refl _ _).alloc _
  obtain ⟨W, hu, M, TW⟩ := Mid.make (V := V) h hx hxw.2.2 TV

  have hne : w.heap.size ≠ b := by have := h.map.lt; omega
  have bxV : V.heap[w.heap.size]? = some (.cells #[.int .i64 x.at_, .int .i64 x.put, .int .i64 x.item] 152 (0, 0)) := by rw [hV]; exact heap_alloc_new w _
  have bxW : W.heap[w.heap.size]? = some (.cells #[.int .i64 x.at_, .int .i64 x.put, .int .i64 x.item] 152 (0, 0)) := TW.keep bxV (by simpa using hne)
  have v0 : V.cell? ⟨w.heap.size, 2, none⟩ = some (.int .i64 x.item) := by simp [World.cell?, bxV]
  have v1 : V.cell? ⟨q, 0, none⟩ = some (.slice a0 s.length c0') := by rw [← hsl]; exact (h.hc.keep (TV.block q hq (by simp))).c0
  have v2 : V.cell? ⟨q, 1, none⟩ = some (.map (some b)) := (h.hc.keep (TV.block q hq (by simp))).c1
  have hsn : ∀ k, k ∈ sl.ownBlock.toList → k ≠ w.heap.size := fun k hk => by
    have e : sl.ownBlock = some k := by simpa using hk
    have := (h.row.lt k e).2
    omega
  have hsq : ∀ k, k ∈ sl.ownBlock.toList → k ≠ q := fun k hk => by
    have e : sl.ownBlock = some k := by simpa using hk
    exact row_ne h.hc h.row (by decide) k e
  have z0 : ∀ w', Touch sl.ownBlock.toList W w' → w'.cell? ⟨q, 0, none⟩ = some sl := fun w' t => (M.hc.keep (t.block q (block_lt M.hc) (fun e => hsq q e rfl))).c0
  have zf : ∀ w', Touch sl.ownBlock.toList W w' → w'.frozen? ⟨q, 0, none⟩ = false := fun w' t => (M.hc.keep (t.block q (block_lt M.hc) (fun e => hsq q e rfl))).fr 0
  have kb : ∀ w', Touch sl.ownBlock.toList W w' → w'.heap[w.heap.size]? = some (.cells #[.int .i64 x.at_, .int .i64 x.put, .int .i64 x.item] 152 (0, 0)) := fun w' t => t.keep bxW (fun e => hsn _ e rfl)
  have z1 : ∀ w', Touch sl.ownBlock.toList W w' → w'.cell? ⟨w.heap.size, 0, none⟩ = some (.int .i64 x.at_) := fun w' t => by simp [World.cell?, kb w' t]
  have z2 : ∀ w', Touch sl.ownBlock.toList W w' → w'.cell? ⟨w.heap.size, 1, none⟩ = some (.int .i64 x.put) := fun w' t => by simp [World.cell?, kb w' t]
  have z3 : ∀ w', Touch sl.ownBlock.toList W w' → w'.cell? ⟨w.heap.size, 2, none⟩ = some (.int .i64 x.item) := fun w' t => by simp [World.cell?, kb w' t]
  have HO : Hid (∀ w', Touch [] W w' → w'.ownsRow 0 152 3 sl s.length (flat s)) := fun w' t => own_touch M.row t (fun _ _ e => by cases e)
  have hle : (s.length : Int) < 65536 := by omega
  have HTW : Hid (Touch (fq q sl (some b)) w W) := (TV.mono (fun _ e => by cases e)).trans' (TW.mono (by simp [fq]))
  have HW : Hid (W.heap.size ≤ W.heap.size ∧ w.heap.size ≤ W.heap.size) := ⟨Nat.le_refl _, HTW.out.size⟩
  have HA : Hid (∀ (w2 : World) (g c : Nat), w2.ownsRow 0 152 3 (.slice (some ⟨g, 0, none⟩) (s.length + 1) c) (s.length + 1) (flat s ++ [.int .i64 x.at_, .int .i64 x.put, .int .i64 x.item]) → Touch sl.ownBlock.toList W w2 → (sl.ownBlock = some g ∨ W.heap.size ≤ g) →
    ∃ sl', HQ (w2.setCell ⟨q, 0, none⟩ (.slice (some ⟨g, 0, none⟩) (s.length + 1) c)) q sl' (some b) p (s ++ [x]) ∧ Touch (fq q sl (some b)) w (w2.setCell ⟨q, 0, none⟩ (.slice (some ⟨g, 0, none⟩) (s.length + 1) c)) ∧ Nq w q sl (some b) sl' (some b)) := fun w2 g c hr ht hg => by
    obtain ⟨r1, r2, r3⟩ := M.after h.nd h.wf hx hxw hl hr ht hg
    refine ⟨_, r1, HTW.out.trans' r2, fun k hk => ?_⟩
    rcases r3 k hk with e | e
    · exact Or.inl e
    · exact Or.inr (Nat.le_trans HTW.out.size e)
  have HV := hid hV
  have HSl := hid hsl
  clear h hx hxw hsl M TV TW hV bxV bxW kb hsn hsq hne
  unfold PT sv
  go_enter Tryd.func111, Tryd.ntmps111
  go_wp2
  rw [← HV.out]
  go_region
  go_wp2
  have x0 := z0 W (Touch.refl _ _)
  have xa := z0 _ ((Touch.refl _ W).alloc (.cells #[.int .i64 x.at_, .int .i64 x.put, .int .i64 x.item] 152))
  have x1 := z1 W (Touch.refl _ _)
  have x2 := z2 W (Touch.refl _ _)
  have x3 := z3 W (Touch.refl _ _)
  have HZ := hid (And.intro z0 zf)
  clear z0 z1 z2 z3 zf v0 v1 v2 hu c0 c1 h77 q68
  go_region_law ((refine step_append_lies _ (by rfl) _ _ _ (by rfl) 0 152 i0 (.agg #[.int .i64 0, .int .i64 0, .int .i64 0]) 3 24 Tryd.underlying116 hi hz0 hz1 hz2 (by rfl) (by decide) sl s.length (flat s) (by rfl) (HO.out _ (by first | exact ((Touch.refl _ _).drew.alloc _) | exact ((Touch.refl _ _).alloc _).drew)) ⟨W.heap.size, 0, none⟩ 1 1 [.int .i64 x.at_, .int .i64 x.put, .int .i64 x.item] (by rfl) (by rfl) (cell_three_new _ _ _ _ _) (by simp [Value.oneCell']) (by decide) (by unfold maxLen; omega) (by omega) (by omega) _ rfl ?_; intro g c W2 hr hgrow hat hlt; have T2 : Touch sl.ownBlock.toList W W2 := (((Touch.refl _ W).alloc _).drew).grown hgrow (fun k hk => Or.inl (by simp [hk])); have HE := hid (HA.out W2 g c hr T2 (by rcases hat with e | e; exact Or.inl e; right; rw [e]; simp)); have y0 := HZ.out.1 W2 T2; have yf := HZ.out.2 W2 T2; clear hr hgrow hat hlt T2))
  all_goals
    go_end0
    exact ⟨rfl, HE.out⟩
theorem none_world (w : World) (q : Nat) (sl : Value) (p : Int) (o : Obj) (h : HQ w q sl none p []) :
    HQ (((w.setCell ⟨q, 1, none⟩ (.map (some (w.heap.size + 1)))).alloc o).alloc (.map #[] 0)) q sl (some (w.heap.size + 1)) p [] ∧ Touch [q] w (((w.setCell ⟨q, 1, none⟩ (.map (some (w.heap.size + 1)))).alloc o).alloc (.map #[] 0)) := by
  have hq := block_lt h.hc
  have C1 := h.hc.set1 (some (w.heap.size + 1))
  have s1 : (w.setCell ⟨q, 1, none⟩ (.map (some (w.heap.size + 1)))).heap.size = w.heap.size := by simp [World.setCell]
  have T : Touch [q] w (((w.setCell ⟨q, 1, none⟩ (.map (some (w.heap.size + 1)))).alloc o).alloc (.map #[] 0)) := (((Touch.refl _ _).setCell (by simp) _).alloc _).alloc _
  refine ⟨⟨?_, ?_, Or.inr ⟨_, rfl, ?_⟩, h.nd, h.wf, h.le⟩, T⟩
  · refine C1.keep ?_
    rw [Below.heap_alloc _ _ _ (by simp [World.setCell]; omega), Below.heap_alloc _ _ _ (by rw [s1]; exact hq)]
  · exact own_touch h.row T (fun k hk => by simpa using row_ne h.hc h.row (by decide) k hk)
  · have := mapAt_made ((w.setCell ⟨q, 1, none⟩ (.map (some (w.heap.size + 1)))).alloc o)
    have e : ((w.setCell ⟨q, 1, none⟩ (.map (some (w.heap.size + 1)))).alloc o).heap.size = w.heap.size + 1 := by simp [World.setCell]
    rw [e] at this
    exact this.congr (fun k _ => rfl)
set_option maxHeartbeats 2000000 in
set_option maxRecDepth 100000 in
theorem push89_none (w : World) (q : Nat) (sl : Value) (p : Int) (x : Slot) (h : HQ w q sl none p []) (hxw : W64 x.at_ ∧ W64 x.put ∧ W64 x.item) :
    Calls Tryd.prog 111 #[PT q, .iface 152 (sv x)] w fun e w' => e = .returned (.tuple #[]) ∧ ∃ sl' b', HQ w' q sl' (some b') p [x] ∧ Touch (fq q sl none) w w' ∧ Nq w q sl none sl' (some b') := by
  obtain ⟨i0, hi, hz0, hz1, hz2⟩ := info_parts info77
  obtain ⟨a0, c0', hsl⟩ := own_form h.row
  have hq := block_lt h.hc
  have q68 := eq68
  have c1 := h.hc.c1
  have f1 := h.hc.fr 1
  have hmm := @run_makeMap Tryd.prog
  have h77 := assert77
  obtain ⟨V, hV⟩ : ∃ V, V = ((w.setCell ⟨q, 1, none⟩ (.map (some (w.heap.size + 1)))).alloc (.cells #[.int .i64 x.at_, .int .i64 x.put, .int .i64 x.item] 152)).alloc (.map #[] 0) := ⟨_, rfl⟩
  obtain ⟨hN, TV⟩ := none_world w q sl p (.cells #[.int .i64 x.at_, .int .i64 x.put, .int .i64 x.item] 152) h
  rw [← hV] at hN TV
  have bxV : V.heap[w.heap.size]? = some (.cells #[.int .i64 x.at_, .int .i64 x.put, .int .i64 x.item] 152 (0, 0)) := by
    rw [hV]
    have s1 : (w.setCell ⟨q, 1, none⟩ (.map (some (w.heap.size + 1)))).heap.size = w.heap.size := by simp [World.setCell]
    rw [Below.heap_alloc _ _ _ (by simp [World.setCell])]
    have := heap_alloc_new (w.setCell ⟨q, 1, none⟩ (.map (some (w.heap.size + 1)))) (.cells #[.int .i64 x.at_, .int .i64 x.put, .int .i64 x.item] 152)
    rw [s1] at this
    exact this
  obtain ⟨b, hb⟩ : ∃ b, b = w.heap.size + 1 := ⟨_, rfl⟩
  rw [← hb] at hN
  obtain ⟨W, hu, M, TW⟩ := Mid.make (V := V) hN (x := x) (by simp) hxw.2.2 (Touch.refl _ _)
  have hne : w.heap.size ≠ b := by omega
  have bxW : W.heap[w.heap.size]? = some (.cells #[.int .i64 x.at_, .int .i64 x.put, .int .i64 x.item] 152 (0, 0)) := TW.keep bxV (by simpa using hne)
  have v0 : V.cell? ⟨w.heap.size, 2, none⟩ = some (.int .i64 x.item) := by simp [World.cell?, bxV]
  have v1 : V.cell? ⟨q, 0, none⟩ = some (.slice a0 0 c0') := by have := hN.hc.c0; rw [hsl] at this; exact this
  have v2 : V.cell? ⟨q, 1, none⟩ = some (.map (some b)) := hN.hc.c1
  have hsn : ∀ k, k ∈ sl.ownBlock.toList → k ≠ w.heap.size := fun k hk => by
    have e : sl.ownBlock = some k := by simpa using hk
    have := (h.row.lt k e).2
    omega
  have hsq : ∀ k, k ∈ sl.ownBlock.toList → k ≠ q := fun k hk => by
    have e : sl.ownBlock = some k := by simpa using hk
    exact row_ne h.hc h.row (by decide) k e
  have z0 : ∀ w', Touch sl.ownBlock.toList W w' → w'.cell? ⟨q, 0, none⟩ = some sl := fun w' t => (M.hc.keep (t.block q (block_lt M.hc) (fun e => hsq q e rfl))).c0
  have zf : ∀ w', Touch sl.ownBlock.toList W w' → w'.frozen? ⟨q, 0, none⟩ = false := fun w' t => (M.hc.keep (t.block q (block_lt M.hc) (fun e => hsq q e rfl))).fr 0
  have kb : ∀ w', Touch sl.ownBlock.toList W w' → w'.heap[w.heap.size]? = some (.cells #[.int .i64 x.at_, .int .i64 x.put, .int .i64 x.item] 152 (0, 0)) := fun w' t => t.keep bxW (fun e => hsn _ e rfl)
  have z1 : ∀ w', Touch sl.ownBlock.toList W w' → w'.cell? ⟨w.heap.size, 0, none⟩ = some (.int .i64 x.at_) := fun w' t => by simp [World.cell?, kb w' t]
  have z2 : ∀ w', Touch sl.ownBlock.toList W w' → w'.cell? ⟨w.heap.size, 1, none⟩ = some (.int .i64 x.put) := fun w' t => by simp [World.cell?, kb w' t]
  have z3 : ∀ w', Touch sl.ownBlock.toList W w' → w'.cell? ⟨w.heap.size, 2, none⟩ = some (.int .i64 x.item) := fun w' t => by simp [World.cell?, kb w' t]
  have HO : Hid (∀ w', Touch [] W w' → w'.ownsRow 0 152 3 sl 0 []) := fun w' t => own_touch M.row t (fun _ _ e => by cases e)
  have HTW : Hid (Touch (fq q sl none) w W) := (TV.mono (by simp [fq])).trans TW (fun i hi => by simp only [List.mem_singleton] at hi; subst hi; right; omega)
  have HA : Hid (∀ (w2 : World) (g c : Nat), w2.ownsRow 0 152 3 (.slice (some ⟨g, 0, none⟩) (0 + 1) c) (0 + 1) ([] ++ [.int .i64 x.at_, .int .i64 x.put, .int .i64 x.item]) → Touch sl.ownBlock.toList W w2 → (sl.ownBlock = some g ∨ W.heap.size ≤ g) →
    ∃ sl' b', HQ (w2.setCell ⟨q, 0, none⟩ (.slice (some ⟨g, 0, none⟩) 1 c)) q sl' (some b') p [x] ∧ Touch (fq q sl none) w (w2.setCell ⟨q, 0, none⟩ (.slice (some ⟨g, 0, none⟩) 1 c)) ∧ Nq w q sl none sl' (some b')) := fun w2 g c hr ht hg => by
    obtain ⟨r1, r2, r3⟩ := M.after h.nd h.wf (by simp) hxw (by simp) hr ht hg
    have hz := HTW.out.size
    refine ⟨_, b, r1, HTW.out.trans r2 (fun i hi => ?_), fun k hk => ?_⟩
    · simp [fq] at hi ⊢
      rcases hi with e | e | e
      · exact Or.inl (Or.inl e)
      · exact Or.inl (Or.inr e)
      · right; omega
    · rcases r3 k hk with e | e
      · simp [fq] at e ⊢
        rcases e with e | e | e
        · exact Or.inl (Or.inl e)
        · exact Or.inl (Or.inr e)
        · right; omega
      · exact Or.inr (Nat.le_trans hz e)
  have hu : (Instr.mapUpdate 83 (.map (some b)) (.int .i64 x.item) (.int .i64 0)).run Tryd.prog V.drew = .ok () W := hu
  have HV := hid hV
  have HB := hid hb
  clear h hxw M TV TW hV bxV bxW kb hsn hsq hne hN hb hsl
  unfold PT sv
  go_enter Tryd.func111, Tryd.ntmps111
  go_wp2
  rw [← HV.out, ← HB.out]
  go_region
  go_wp2
  have x0 := z0 W (Touch.refl _ _)
  have xa := z0 _ ((Touch.refl _ W).alloc (.cells #[.int .i64 x.at_, .int .i64 x.put, .int .i64 x.item] 152))
  have x1 := z1 W (Touch.refl _ _)
  have x2 := z2 W (Touch.refl _ _)
  have x3 := z3 W (Touch.refl _ _)
  have HZ := hid (And.intro z0 zf)
  clear z0 z1 z2 z3 zf v0 v1 v2 hu c1 h77 q68 f1 hmm
  go_region_law ((refine step_append_lies _ (by rfl) _ _ _ (by rfl) 0 152 i0 (.agg #[.int .i64 0, .int .i64 0, .int .i64 0]) 3 24 Tryd.underlying116 hi hz0 hz1 hz2 (by rfl) (by decide) sl 0 [] (by rfl) (HO.out _ (by first | exact ((Touch.refl _ _).drew.alloc _) | exact ((Touch.refl _ _).alloc _).drew)) ⟨W.heap.size, 0, none⟩ 1 1 [.int .i64 x.at_, .int .i64 x.put, .int .i64 x.item] (by rfl) (by rfl) (cell_three_new _ _ _ _ _) (by simp [Value.oneCell']) (by decide) (by unfold maxLen; omega) (by omega) (by omega) _ rfl ?_; intro g c W2 hr hgrow hat hlt; have T2 : Touch sl.ownBlock.toList W W2 := (((Touch.refl _ W).alloc _).drew).grown hgrow (fun k hk => Or.inl (by simp [hk])); have HE := hid (HA.out W2 g c hr T2 (by rcases hat with e | e; exact Or.inl e; right; rw [e]; simp)); have y0 := HZ.out.1 W2 T2; have yf := HZ.out.2 W2 T2; clear hr hgrow hat hlt T2))
  all_goals
    go_end0
    exact ⟨rfl, HE.out⟩
theorem pop_slice {w : World} {g c : Nat} {s : List Slot} {x : Slot} (h : w.ownsRow 0 152 3 (.slice (some ⟨g, 0, none⟩) (s ++ [x]).length c) (s ++ [x]).length (flat (s ++ [x]))) : w.ownsRow 0 152 3 (.slice (some ⟨g, 0, none⟩) s.length c) s.length (flat s) := by
  obtain ⟨cur, hc, hn, hm, hs, ht, hg, hl⟩ := own_block h
  refine ⟨flat_len s, Or.inr ⟨g, c, cur, rfl, hg, hc, by simp at hn; omega, hm, hs, ?_⟩⟩
  have : (cur.toList.take ((s ++ [x]).length * 3)).take (s.length * 3) = (flat (s ++ [x])).take (s.length * 3) := by rw [ht]
  rw [List.take_take, Nat.min_eq_left (by simp; omega)] at this
  rw [this, flat_app, List.take_append_of_le_length (by rw [flat_len]; exact Nat.le_refl _), List.take_of_length_le (by rw [flat_len]; exact Nat.le_refl _)]
structure Out (w : World) (q : Nat) (sl : Value) (b : Nat) (p : Int) (s : List Slot) (x : Slot) : Prop where
  hc : HC w q sl (some b) p
  row : w.ownsRow 0 152 3 sl s.length (flat s)
  mp : MapAt w b (s.length + 1) (pmap (s ++ [x]))
  nd : Nd (s ++ [x])
  wf : WfS (s ++ [x])
  le : s.length < 65536
set_option maxHeartbeats 2000000 in
set_option maxRecDepth 100000 in
theorem pop88 (w : World) (q b : Nat) (sl : Value) (p : Int) (s : List Slot) (x : Slot) (h : HQ w q sl (some b) p (s ++ [x])) :
    Calls Tryd.prog 110 #[PT q] w fun e w' => e = .returned (.iface 152 (sv x)) ∧ ∃ sl', Out w' q sl' b p s x ∧ Touch (fq q sl (some b)) w w' ∧ Nq w q sl (some b) sl' (some b) := by
  have hlen : (s ++ [x]).length = s.length + 1 := by simp
  obtain ⟨g, c, rfl⟩ := h.slice (by simp)
  have hle := h.le
  rw [hlen] at hle
  have hgx : gt (s ++ [x]) s.length = x := by rw [gt_eq (by simp)]; simp
  obtain ⟨x0, x1, x2⟩ := flat_at (s ++ [x]) s.length (by simp)
  rw [hgx] at x0 x1 x2
  have a0 := own_cell h.row x0
  have a1 := own_cell h.row x1
  have a2 := own_cell h.row x2
  have c0 := h.hc.c0
  have f0 := h.hc.fr 0
  have hgq : g ≠ q := row_ne h.hc h.row (by decide) g rfl
  have hbq := h.hc.map_ne h.map
  have hq := block_lt h.hc
  obtain ⟨cur, hcur, hnc, _⟩ := own_block h.row
  rw [hlen] at hnc c0
  have zc : ((s.length : Int) + 1) ≤ (c : Int) := by omega
  have zl : (s.length : Int) < 65536 := by omega
  have e1 : (((s.length + 1 : Nat) : Int)) = (s.length : Int) + 1 := by omega
  have HA : Hid (∀ w2, Touch [q] w w2 → HC w2 q (.slice (some ⟨g, 0, none⟩) s.length c) (some b) p → ∃ sl', Out w2 q sl' b p s x ∧ Touch (fq q (.slice (some ⟨g, 0, none⟩) (s ++ [x]).length c) (some b)) w w2 ∧ Nq w q (.slice (some ⟨g, 0, none⟩) (s ++ [x]).length c) (some b) sl' (some b)) := fun w2 t C2 => by
    refine ⟨_, ⟨C2, own_touch (pop_slice h.row) t (fun k hk => by simp [Value.ownBlock] at hk; subst hk; simpa using hgq), ?_, h.nd, h.wf, by omega⟩, t.mono (by simp [fq]), fun k hk => Or.inl (by simpa [fq, Value.ownBlock] using hk)⟩
    have := h.map
    rw [hlen] at this
    exact this.kept (t.block b this.lt (by simpa using hbq))
  have HC0 := hid h.hc
  have hne : w.heap.size ≠ q := by omega
  rw [hlen] at HA
  rw [hlen]
  clear h x0 x1 x2 hcur hlen hgx
  generalize s.length = n at *
  unfold PT sv
  go_enter Tryd.func110, Tryd.ntmps110
  go_wp2
  go_ret
  refine ⟨rfl, HA.out _ ?_ ?_⟩
  · first | exact ((Touch.refl _ _).setCell (by simp) _).alloc _ | exact ((Touch.refl _ _).alloc _).setCell (by simp) _
  · refine HC.keep (HC0.out.set0 _) ?_
    first | exact Below.heap_alloc _ _ _ (by simp [World.setCell]; omega) | skip
end Go.Proofs.YtcbckehdlbbbbaaDoor.Cl
/- The contracts of container/heap's Push and Remove at a queue by time, and of takeOut. -/
namespace Go.Proofs.YtcbckehdlbbbbaaDoor.Cl
open Go.RowKit Go.Maps Go.ChangeMaps
set_option linter.unusedVariables false
theorem push89 (w : World) (q : Nat) (sl : Value) (m : Option Nat) (p : Int) (s : List Slot) (x : Slot) (h : HQ w q sl m p s) (hl : s.length < 65536) (hx : ∀ y ∈ s, y.item ≠ x.item) (hxw : W64 x.at_ ∧ W64 x.put ∧ W64 x.item) :
    Calls Tryd.prog 111 #[PT q, .iface 152 (sv x)] w fun e w' => e = .returned (.tuple #[]) ∧ ∃ sl' b', HQ w' q sl' (some b') p (s ++ [x]) ∧ Touch (fq q sl m) w w' ∧ Nq w q sl m sl' (some b') := by
  rcases h.mp with ⟨rfl, rfl⟩ | ⟨b, rfl, _⟩
  · exact push89_none w q sl p x h hxw
  · refine (push89_some w q b sl p s x h hl hx hxw).mono ?_
    rintro e w' ⟨he, sl', h1, h2, h3⟩
    exact ⟨he, sl', b, h1, h2, h3⟩
theorem Nq.touch {w w1 w2 : World} {q : Nat} {sl sl' : Value} {m m' : Option Nat} (h : Nq w q sl m sl' m') (t1 : Touch (fq q sl m) w w1) (t2 : Touch (fq q sl' m') w1 w2) : Touch (fq q sl m) w w2 := t1.trans t2 h
theorem Nq.trans {w w1 : World} {q : Nat} {sl sl' sl'' : Value} {m m' m'' : Option Nat} (h : Nq w q sl m sl' m') (k : Nq w1 q sl' m' sl'' m'') (hz : w.heap.size ≤ w1.heap.size) : Nq w q sl m sl'' m'' := fun i hi => by
  rcases k i hi with e | e
  · exact h i e
  · exact Or.inr (Nat.le_trans hz e)
theorem Nq.refl (w : World) (q : Nat) (sl : Value) (m : Option Nat) : Nq w q sl m sl m := fun _ h => Or.inl h
set_option maxHeartbeats 2000000 in
set_option maxRecDepth 100000 in
theorem hpush38 (w : World) (q : Nat) (sl : Value) (m : Option Nat) (p : Int) (s : List Slot) (x : Slot) (h : HQ w q sl m p s) (hh : Heap s.length s) (hl : s.length < 65536) (hx : ∀ y ∈ s, y.item ≠ x.item) (hxw : W64 x.at_ ∧ W64 x.put ∧ W64 x.item) :
    Calls Tryd.prog 85 #[IF q, .iface 152 (sv x)] w fun e w' => e = .returned (.tuple #[]) ∧ ∃ sl' b' s', s'.Perm (s ++ [x]) ∧ Heap s'.length s' ∧ HQ w' q sl' (some b') p s' ∧ Touch (fq q sl m) w w' ∧ Nq w q sl m sl' (some b') := by
  have HP := hid (push89 w q sl m p s x h hl hx hxw)
  obtain ⟨n, hn⟩ : ∃ n, n = (s ++ [x]).length := ⟨_, rfl⟩
  have e1 : (n : Int) - 1 = (s.length : Int) := by rw [hn]; simp
  have z1 : (n : Int) ≤ 65536 := by rw [hn]; simp; omega
  have z2 : (1 : Int) ≤ (n : Int) := by rw [hn]; simp; omega
  have HL : Hid (∀ w1 sl1 b1, HQ w1 q sl1 (some b1) p (s ++ [x]) → Calls Tryd.prog 108 #[.pointer (some ⟨q, 0, none⟩)] w1 fun e w' => e = .returned (.int .i64 n) ∧ w' = w1) := fun w1 sl1 b1 k => by
    rw [hn]; exact len86 w1 q sl1 (some b1) p _ k
  have HU : Hid (∀ w1 sl1 b1, HQ w1 q sl1 (some b1) p (s ++ [x]) → Touch (fq q sl m) w w1 → Nq w q sl m sl1 (some b1) → Calls Tryd.prog 87 #[.iface 170 (.pointer (some ⟨q, 0, none⟩)), .int .i64 s.length] w1 fun e w' => e = .returned (.tuple #[]) ∧ ∃ sl' b' s', s'.Perm (s ++ [x]) ∧ Heap s'.length s' ∧ HQ w' q sl' (some b') p s' ∧ Touch (fq q sl m) w w' ∧ Nq w q sl m sl' (some b')) := fun w1 sl1 b1 k t1 n1 => by
    refine (up45 w1 q b1 sl1 p (s ++ [x]) (s ++ [x]).length s.length (by simp) (Nat.le_refl _) k (heap_snoc hh)).mono ?_
    rintro e w2 ⟨he, s', p1, _, p3, p4, p5⟩
    exact ⟨he, sl1, b1, s', p1, by rw [p1.length_eq]; exact p3, p5, n1.touch t1 p4, n1⟩
  have mL := mLen q
  have mP := mPush q
  clear h hh hx hxw hn
  generalize s ++ [x] = T at *
  generalize s.length = j at *
  unfold IF PT at *
  go_enter Tryd.func85, Tryd.ntmps85
  go_wp2_with (first
    | (go_at_call 111; refine HP.out.mono ?_; rintro e w1 ⟨rfl, sl1, b1, q1, t1, n1⟩; have Q1 := hid q1; have T1 := hid t1; have N1 := hid n1; clear q1 t1 n1)
    | (go_at_call 108; refine (HL.out _ _ _ Q1.out).mono ?_; rintro e w2 ⟨rfl, rfl⟩)
    | (go_at_call 87; refine (HU.out _ _ _ Q1.out T1.out N1.out).mono ?_; rintro e w3 ⟨rfl, r⟩; have R := hid r; clear r))
  go_end0
  exact ⟨rfl, R.out⟩
/-- What Remove leaves: the slot is out of the row, the map has it still. -/
def RmP (w w' : World) (q b : Nat) (sl : Value) (p : Int) (s : List Slot) (i : Nat) : Prop :=
  ∃ sl' s', (s' ++ [gt s i]).Perm s ∧ Heap s'.length s' ∧ Out w' q sl' b p s' (gt s i) ∧ Touch (fq q sl (some b)) w w' ∧ Nq w q sl (some b) sl' (some b)
theorem last_split {s : List Slot} {n : Nat} (h : s.length = n + 1) : s = s.dropLast ++ [gt s n] := by
  have hne : s ≠ [] := fun e => by rw [e] at h; simp at h
  have := (List.dropLast_concat_getLast hne).symm
  rw [List.getLast_eq_getElem] at this
  rw [gt_eq (by omega)]
  simpa [h] using this
theorem RmP.of_pop {w w1 : World} {q b : Nat} {sl : Value} {p : Int} {s t : List Slot} {i n : Nat} (hn : s.length = n + 1) (hi : i < s.length) (hp : t.Perm s) (hl : gt t n = gt s i) (hh : Heap n t) (ht : Touch (fq q sl (some b)) w w1) (hq : HQ w1 q sl (some b) p t) :
    Calls Tryd.prog 110 #[.pointer (some ⟨q, 0, none⟩)] w1 fun e w' => e = .returned (.iface 152 (sv (gt s i))) ∧ RmP w w' q b sl p s i := by
  have htl : t.length = n + 1 := by rw [hp.length_eq]; exact hn
  have hsp := last_split htl
  rw [hl] at hsp
  rw [hsp] at hq
  refine (pop88 w1 q b sl p _ _ hq).mono ?_
  rintro e w2 ⟨he, sl', o, t2, n2⟩
  refine ⟨he, sl', _, ?_, ?_, o, ht.trans' t2, fun k hk => ?_⟩
  · rw [← hsp]; exact hp
  · refine heap_dropLast ?_
    rw [htl]
    exact hh
  · rcases n2 k hk with e | e
    · exact Or.inl e
    · exact Or.inr (Nat.le_trans ht.size e)
set_option maxHeartbeats 2000000 in
set_option maxRecDepth 100000 in
theorem remove44_last (w : World) (q b : Nat) (sl : Value) (p : Int) (s : List Slot) (n : Nat) (hn : s.length = n + 1) (h : HQ w q sl (some b) p s) (hh : Heap s.length s) :
    Calls Tryd.prog 81 #[IF q, .int .i64 n] w fun e w' => e = .returned (.iface 152 (sv (gt s n))) ∧ RmP w w' q b sl p s n := by
  have HL : Hid (Calls Tryd.prog 108 #[.pointer (some ⟨q, 0, none⟩)] w fun e w' => e = .returned (.int .i64 ((n : Int) + 1)) ∧ w' = w) := by
    apply hid
    have := len86 w q sl (some b) p s h
    rw [hn] at this
    simpa [PT] using this
  have HP := hid (RmP.of_pop hn (i := n) (by omega) (List.Perm.refl s) rfl (heap_mono hh (by omega)) (Touch.refl _ w) h)
  have hle := h.le
  have zn : (n : Int) < 65536 := by omega
  have mL := mLen q
  have mP := mPop q
  clear h hh hn hle
  generalize gt s n = x at *
  unfold IF
  go_enter Tryd.func81, Tryd.ntmps81
  go_wp2_with (first
    | (go_at_call 108; refine HL.out.mono ?_; rintro e w2 ⟨rfl, rfl⟩)
    | (go_at_call 110; refine HP.out.mono ?_; rintro e w3 ⟨rfl, r⟩; have R := hid r; clear r))
  go_ret
  exact ⟨rfl, R.out⟩
set_option maxHeartbeats 2000000 in
set_option maxRecDepth 100000 in
theorem remove44_mid (w : World) (q b : Nat) (sl : Value) (p : Int) (s : List Slot) (n i : Nat) (hn : s.length = n + 1) (hi : i < n) (h : HQ w q sl (some b) p s) (hh : Heap s.length s) :
    Calls Tryd.prog 81 #[IF q, .int .i64 i] w fun e w' => e = .returned (.iface 152 (sv (gt s i))) ∧ RmP w w' q b sl p s i := by
  have HL : Hid (Calls Tryd.prog 108 #[.pointer (some ⟨q, 0, none⟩)] w fun e w' => e = .returned (.int .i64 ((n : Int) + 1)) ∧ w' = w) := by
    apply hid
    have := len86 w q sl (some b) p s h
    rw [hn] at this
    simpa [PT] using this
  have HS := hid (swap90 w q b sl p s i n (by omega) (by omega) (by omega) h)
  have hsl : gt (swp s i n) n = gt s i := by rw [swp_gt (by omega) (by omega), if_pos rfl]
  have HD : Hid (∀ w1, Touch (fq q sl (some b)) w w1 → HQ w1 q sl (some b) p (swp s i n) → Calls Tryd.prog 86 #[.iface 170 (.pointer (some ⟨q, 0, none⟩)), .int .i64 i, .int .i64 n] w1 fun e w' => DnQ e w1 w' q b sl p (swp s i n) n i) := fun w1 t1 k =>
    down51 w1 q b sl p (swp s i n) n i hi (by rw [swp_len]; omega) k (heap_hole (n := n) (by rw [hn] at hh; exact hh) (by omega) hi)
  have HU : Hid (∀ w1 w2, Touch (fq q sl (some b)) w w1 → DnP w1 w2 q b sl p (swp s i n) n i false → Calls Tryd.prog 87 #[.iface 170 (.pointer (some ⟨q, 0, none⟩)), .int .i64 i] w2 fun e w' => e = .returned (.tuple #[]) ∧ DnP w w' q b sl p (swp s i n) n i true) := fun w1 w2 t1 k => by
    obtain ⟨t, r1, r2, r3, r4, r5, r6⟩ := k
    refine (up45 w2 q b sl p t n i hi (by have := r1.length_eq; rw [swp_len] at this; omega) r6 (r4 rfl)).mono ?_
    rintro e w3 ⟨he, s', p1, p2, p3, p4, p5⟩
    exact ⟨he, s', p1.trans r1, fun k hk => (p2 k hk).trans (r2 k hk), fun _ => p3, fun e => (by cases e), (t1.trans' r5).trans' p4, p5⟩
  have HC : Hid (∀ w1 w2, Touch (fq q sl (some b)) w w1 → DnP w1 w2 q b sl p (swp s i n) n i true → DnP w w2 q b sl p (swp s i n) n i true) := fun w1 w2 t1 k => by
    obtain ⟨t, r1, r2, r3, r4, r5, r6⟩ := k
    exact ⟨t, r1, r2, r3, r4, t1.trans' r5, r6⟩
  have HP : Hid (∀ w1, DnP w w1 q b sl p (swp s i n) n i true → Calls Tryd.prog 110 #[.pointer (some ⟨q, 0, none⟩)] w1 fun e w' => e = .returned (.iface 152 (sv (gt s i))) ∧ RmP w w' q b sl p s i) := fun w1 k => by
    obtain ⟨t, r1, r2, r3, r4, r5, r6⟩ := k
    exact RmP.of_pop hn (by omega) (r1.trans (swp_perm (by omega) (by omega))) ((r2 n (Nat.le_refl _)).trans hsl) (r3 rfl) r5 r6
  have hle := h.le
  have zn : (n : Int) < 65536 := by omega
  have zi : (i : Int) < (n : Int) := by omega
  have zne : ((n : Int) != (i : Int)) = true := by simp; omega
  have mL := mLen q
  have mP := mPop q
  have mS := mSwap q
  clear h hh hn hle hsl
  generalize gt s i = x at *
  generalize swp s i n = S1 at *
  unfold IF
  unfold PT at HS
  go_enter Tryd.func81, Tryd.ntmps81
  go_wp2_with (first
    | (go_at_call 108; refine HL.out.mono ?_; rintro e w2 ⟨rfl, rfl⟩)
    | (go_at_call 112; refine HS.out.mono ?_; rintro e w3 ⟨rfl, t3, q3⟩; have T3 := hid t3; have Q3 := hid q3; clear t3 q3))
  refine (HD.out _ T3.out Q3.out).mono ?_
  rintro e w4 ⟨B, rfl, d⟩
  cases B with
  | true =>
    have D := hid (HC.out _ _ T3.out d)
    clear d
    go_wp2_with (go_at_call 110; refine (HP.out _ D.out).mono ?_; rintro e w5 ⟨rfl, r⟩; have R := hid r; clear r)
    go_ret
    exact ⟨rfl, R.out⟩
  | false =>
    have D := hid d
    clear d
    go_wp2_with (first
      | (go_at_call 87; refine (HU.out _ _ T3.out D.out).mono ?_; rintro e w5 ⟨rfl, d5⟩; have D5 := hid d5; clear d5)
      | (go_at_call 110; refine (HP.out _ D5.out).mono ?_; rintro e w6 ⟨rfl, r⟩; have R := hid r; clear r))
    go_ret
    exact ⟨rfl, R.out⟩
theorem remove44 (w : World) (q b : Nat) (sl : Value) (p : Int) (s : List Slot) (i : Nat) (hi : i < s.length) (h : HQ w q sl (some b) p s) (hh : Heap s.length s) :
    Calls Tryd.prog 81 #[IF q, .int .i64 i] w fun e w' => e = .returned (.iface 152 (sv (gt s i))) ∧ RmP w w' q b sl p s i := by
  obtain ⟨n, hn⟩ : ∃ n, s.length = n + 1 := ⟨s.length - 1, by omega⟩
  by_cases e : i = n
  · subst e
    exact remove44_last w q b sl p s i hn h hh
  · exact remove44_mid w q b sl p s n i hn (by omega) h hh
theorem pmap_del {s : List Slot} {x : Slot} (h : Nd (s ++ [x])) (k : Int) : del (pmap (s ++ [x])) x.item k = pmap s k := by
  have hx : ∀ y ∈ s, y.item ≠ x.item := fun y hy e => by
    unfold Nd at h
    rw [List.map_append, List.nodup_append] at h
    exact h.2.2 y.item (List.mem_map.2 ⟨y, hy, rfl⟩) x.item (by simp) e
  rw [show del (pmap (s ++ [x])) x.item k = if k = x.item then none else pmap (s ++ [x]) k from rfl, ← pmap_snoc hx]
  unfold upd
  by_cases e : k = x.item
  · rw [if_pos e, e]
    unfold pmap
    rw [idx_none.2 hx]
    rfl
  · rw [if_neg e, if_neg e]
theorem Out.done {w V : World} {q b : Nat} {sl : Value} {p : Int} {s : List Slot} {x : Slot} (h : Out w q sl b p s x) (ht : Touch [] w V) :
    ∃ W, (Builtin.delete_ #[83, 3] 0 #[.map (some b), .int .i64 x.item]).run Tryd.prog V.drew = .ok (.tuple #[]) W ∧ HQ W q sl (some b) p s ∧ Touch [b] V W := by
  have hm : MapAt V b (s.length + 1) (pmap (s ++ [x])) := h.mp.kept (ht.block b h.mp.lt (by simp))
  have hC : HC V q sl (some b) p := h.hc.keep (ht.block q (block_lt h.hc) (by simp))
  have hR : V.ownsRow 0 152 3 sl s.length (flat s) := own_touch h.row ht (fun _ _ e => by cases e)
  have hwx := (h.wf x (by simp)).2.2
  obtain ⟨o, hu, hm2⟩ := (show MapAt V.drew b (s.length + 1) (pmap (s ++ [x])) from hm.kept rfl).del (t := 83) Tryd.underlying83 hwx 0
  have T : Touch [b] V (setBlock V.drew b o) := touch_setBlock (Touch.refl _ _).drew (by simp) o
  have hbq := hC.map_ne hm
  have nd' : Nd s := by have := h.nd; unfold Nd at this ⊢; rw [List.map_append, List.nodup_append] at this; exact this.1
  refine ⟨_, hu, ⟨hC.keep (T.block q (block_lt hC) (by simpa using Ne.symm hbq)), own_touch hR T (fun k hk => by simpa using row_nm hR hm k hk), Or.inr ⟨b, rfl, ?_⟩, nd', fun y hy => h.wf y (by simp [hy]), Nat.le_of_lt h.le⟩, T⟩
  have e : (pmap (s ++ [x]) x.item).isSome = true := by
    have := pmap_at h.nd (i := s.length) (by simp)
    rw [gt_eq (by simp)] at this
    simp at this
    rw [this]; rfl
  exact (hm2.congr (fun k _ => pmap_del h.nd k)).same (by rw [e]; rfl)
set_option maxHeartbeats 2000000 in
set_option maxRecDepth 100000 in
theorem takeOut36 (w : World) (q b : Nat) (sl : Value) (p : Int) (s : List Slot) (i : Nat) (hi : i < s.length) (h : HQ w q sl (some b) p s) (hh : Heap s.length s) :
    Calls Tryd.prog 73 #[PT q, .int .i64 i] w fun e w' => e = .returned (.tuple #[]) ∧ ∃ sl' s', (s' ++ [gt s i]).Perm s ∧ Heap s'.length s' ∧ HQ w' q sl' (some b) p s' ∧ Touch (fq q sl (some b)) w w' ∧ Nq w q sl (some b) sl' (some b) := by
  have HR := hid (remove44 w q b sl p s i hi h hh)
  have h77 := assert77
  clear h hh hi
  obtain ⟨x, hx⟩ : ∃ x, x = gt s i := ⟨_, rfl⟩
  rw [← hx] at HR
  rw [← hx]
  have HX := hid hx
  clear hx
  unfold PT
  unfold IF sv at HR
  go_enter Tryd.func73, Tryd.ntmps73
  go_wp2_with (go_at_call 81; refine HR.out.mono ?_; rintro e w1 ⟨rfl, r⟩; have R := hid r; clear r)
  obtain ⟨sl', s', r1, r2, r3, r4, r5⟩ := R.out
  rw [← HX.out] at r1 r3
  obtain ⟨V, hV⟩ : ∃ V, V = w1.alloc (.cells #[.int .i64 x.at_, .int .i64 x.put, .int .i64 x.item] 152) := ⟨_, rfl⟩
  have TV : Touch [] w1 V := by rw [hV]; exact (Touch.refl _ _).alloc _
  obtain ⟨W, hu, HQW, TW⟩ := r3.done TV
  have v1 : V.cell? ⟨q, 1, none⟩ = some (.map (some b)) := (r3.hc.keep (TV.block q (block_lt r3.hc) (by simp))).c1
  have v2 : V.cell? ⟨w1.heap.size, 2, none⟩ = some (.int .i64 x.item) := by rw [hV]; simp
  have HE := hid (show ∃ sl' s', (s' ++ [x]).Perm s ∧ Heap s'.length s' ∧ HQ W q sl' (some b) p s' ∧ Touch (fq q sl (some b)) w W ∧ Nq w q sl (some b) sl' (some b) from
    ⟨sl', s', r1, r2, HQW, (r4.trans' (TV.mono (fun _ e => by cases e))).trans' (TW.mono (by simp [fq])), r5⟩)
  rw [← hV]
  clear hV r1 r2 r3 r4 r5 TV TW HQW R HR HX
  go_region
  go_end0
  exact ⟨rfl, HE.out⟩
end Go.Proofs.YtcbckehdlbbbbaaDoor.Cl
/- Plain mathematics of sorted lists of slots: no program. -/
namespace Go.Proofs.YtcbckehdlbbbbaaDoor.Cl
set_option linter.unusedVariables false
def Srt (S : List Slot) : Prop := S.Pairwise ltS
theorem srt_at {S : List Slot} (h : Srt S) {i j : Nat} (hij : i < j) (hj : j < S.length) : ltS (gt S i) (gt S j) := by
  rw [gt_eq (by omega), gt_eq hj]
  exact (List.pairwise_iff_getElem.1 h) i j (by omega) hj hij
theorem heap_head {s S : List Slot} (hp : s.Perm S) (hh : Heap s.length s) (hs : Srt S) (h0 : 0 < S.length) : gt s 0 = gt S 0 := by
  have hl := hp.length_eq
  have m1 : gt S 0 ∈ s := hp.mem_iff.2 (gt_mem h0)
  obtain ⟨k, hk, e⟩ := List.getElem_of_mem m1
  have l1 := heap_min hh k hk
  rw [gt_eq hk, e] at l1
  have m2 : gt s 0 ∈ S := hp.mem_iff.1 (gt_mem (by omega))
  obtain ⟨a, ha, e2⟩ := List.getElem_of_mem m2
  by_cases h : a = 0
  · subst h
    rw [← e2, gt_eq ha]
  · have := srt_at hs (i := 0) (j := a) (by omega) ha
    rw [gt_eq ha, e2] at this
    exact absurd l1 (not_le.2 this)
theorem srt_eraseIdx {S : List Slot} (h : Srt S) (i : Nat) : Srt (S.eraseIdx i) := List.Pairwise.sublist (List.eraseIdx_sublist _ _) h
theorem eraseIdx_perm {S : List Slot} {i : Nat} (h : i < S.length) : (S.eraseIdx i ++ [gt S i]).Perm S := by
  rw [List.eraseIdx_eq_take_drop_succ, gt_eq h]
  refine (List.perm_append_singleton _ _).trans ?_
  refine (List.perm_middle (l₁ := S.take i) (a := S[i]) (l₂ := S.drop (i + 1))).symm.trans ?_
  rw [← List.drop_eq_getElem_cons h, List.take_append_drop]
theorem perm_cancel {s t : List Slot} {x : Slot} (h : (s ++ [x]).Perm (t ++ [x])) : s.Perm t := (List.perm_append_right_iff [x]).1 h
def Pos (S : List Slot) (a : Int) (i : Nat) : Prop := i ≤ S.length ∧ (∀ j, j < S.length → i ≤ j → a < (gt S j).at_) ∧ (0 < i → (gt S (i - 1)).at_ ≤ a)
def ins (S : List Slot) (i : Nat) (x : Slot) : List Slot := S.take i ++ x :: S.drop i
theorem ins_perm (S : List Slot) (i : Nat) (x : Slot) : (ins S i x).Perm (S ++ [x]) := by
  refine (List.perm_middle).trans ?_
  rw [List.take_append_drop]
  exact (List.perm_append_singleton x S).symm
theorem srt_mono {S : List Slot} (h : Srt S) {i j : Nat} (hij : i ≤ j) (hj : j < S.length) : (gt S i).at_ ≤ (gt S j).at_ := by
  by_cases e : i = j
  · subst e; exact Int.le_refl _
  · have := srt_at h (by omega : i < j) hj
    unfold ltS at this
    omega
theorem ins_srt {S : List Slot} (h : Srt S) {i : Nat} {x : Slot} (hp : Pos S x.at_ i) (hx : ∀ y ∈ S, y.put < x.put) : Srt (ins S i x) := by
  obtain ⟨h1, h2, h3⟩ := hp
  unfold Srt ins
  have A : ∀ y ∈ S.take i, ltS y x := fun y hy => by
    obtain ⟨n, hn, rfl⟩ := List.getElem_of_mem hy
    rw [List.length_take] at hn
    rw [List.getElem_take]
    have b := h3 (by omega)
    have c := srt_mono h (i := n) (j := i - 1) (by omega) (by omega)
    have d := hx _ (List.getElem_mem (show n < S.length by omega))
    rw [gt_eq (by omega)] at c
    unfold ltS
    omega
  have B : ∀ y ∈ S.drop i, ltS x y := fun y hy => by
    obtain ⟨n, hn, rfl⟩ := List.getElem_of_mem hy
    rw [List.length_drop] at hn
    rw [List.getElem_drop]
    have b := h2 (i + n) (by omega) (by omega)
    rw [gt_eq (by omega)] at b
    unfold ltS
    omega
  rw [List.pairwise_append]
  refine ⟨List.Pairwise.sublist (List.take_sublist _ _) h, ?_, ?_⟩
  · rw [List.pairwise_cons]
    exact ⟨B, List.Pairwise.sublist (List.drop_sublist _ _) h⟩
  · intro a ha b hb
    rcases List.mem_cons.1 hb with rfl | hb
    · exact A a ha
    · exact (A a ha).trans (B b hb)
theorem pos_ex {S : List Slot} (h : Srt S) (a : Int) : ∃ i, Pos S a i := by
  suffices H : ∀ n, n ≤ S.length → (∀ j, j < S.length → n ≤ j → a < (gt S j).at_) → ∃ i, Pos S a i from H S.length (Nat.le_refl _) (fun j hj hn => by omega)
  intro n
  induction n with
  | zero => exact fun hn hj => ⟨0, hn, hj, fun h => by omega⟩
  | succ n ih =>
    intro hn hj
    by_cases e : (gt S n).at_ ≤ a
    · exact ⟨n + 1, hn, hj, fun _ => by simpa using e⟩
    · refine ih (by omega) (fun j h1 h2 => ?_)
      by_cases e' : j = n
      · subst e'; omega
      · exact hj j h1 (by omega)
theorem srt_unique {S T : List Slot} (hp : S.Perm T) (hs : Srt S) (ht : Srt T) : S = T :=
  List.Perm.eq_of_pairwise (fun a b _ _ h k => by unfold ltS at h k; omega) hs ht hp
/-- How many of the front are due. -/
def due (S : List Slot) (now : Int) : Nat := (S.takeWhile (fun x => decide (x.at_ ≤ now))).length
theorem gt_zero_cons (x : Slot) (S : List Slot) : gt (x :: S) 0 = x := rfl
theorem gt_succ_cons (x : Slot) (S : List Slot) (i : Nat) : gt (x :: S) (i + 1) = gt S i := rfl
end Go.Proofs.YtcbckehdlbbbbaaDoor.Cl
/- A queue by time as a sorted list: the contracts of Len, Next, At, Take, Drop and Put. -/
namespace Go.Proofs.YtcbckehdlbbbbaaDoor.Cl
open Go.RowKit Go.Maps Go.ChangeMaps
set_option linter.unusedVariables false
structure TM (w : World) (q : Nat) (sl : Value) (m : Option Nat) (p : Int) (S : List Slot) : Prop where
  ex : ∃ s, HQ w q sl m p s ∧ Heap s.length s ∧ s.Perm S
  srt : Srt S
  lo : ∀ x ∈ S, x.put < p
  p0 : 0 ≤ p
  tk : ∀ x ∈ S, 0 ≤ x.at_ ∧ x.at_ ≤ 4611686018427387904
/-- The blocks of a queue by time are F. -/
def Tq (w : World) (q : Nat) (F : List Nat) (p : Int) (S : List Slot) : Prop := ∃ sl m, F = fq q sl m ∧ TM w q sl m p S
def Nf (w : World) (F G : List Nat) : Prop := ∀ k, k ∈ G → k ∈ F ∨ w.heap.size ≤ k
theorem Nf.refl (w : World) (F : List Nat) : Nf w F F := fun _ h => Or.inl h
theorem Tq.len {w : World} {q : Nat} {F : List Nat} {p : Int} {S : List Slot} (h : Tq w q F p S) : S.length ≤ 65536 := by
  obtain ⟨sl, m, _, ⟨s, h1, h2, h3⟩, _⟩ := h
  rw [← h3.length_eq]; exact h1.le
theorem Tq.nd {w : World} {q : Nat} {F : List Nat} {p : Int} {S : List Slot} (h : Tq w q F p S) : Nd S := by
  obtain ⟨sl, m, _, ⟨s, h1, h2, h3⟩, _⟩ := h
  exact nd_perm h1.nd h3.symm
theorem Tq.wf {w : World} {q : Nat} {F : List Nat} {p : Int} {S : List Slot} (h : Tq w q F p S) : WfS S := by
  obtain ⟨sl, m, _, ⟨s, h1, h2, h3⟩, _⟩ := h
  exact wf_perm h1.wf h3.symm
theorem Tq.srt {w : World} {q : Nat} {F : List Nat} {p : Int} {S : List Slot} (h : Tq w q F p S) : Srt S := by
  obtain ⟨sl, m, _, t⟩ := h
  exact t.srt
theorem Tq.tk {w : World} {q : Nat} {F : List Nat} {p : Int} {S : List Slot} (h : Tq w q F p S) : ∀ x ∈ S, 0 ≤ x.at_ ∧ x.at_ ≤ 4611686018427387904 := by
  obtain ⟨sl, m, _, t⟩ := h
  exact t.tk
theorem Tq.keep {G : List Nat} {w w' : World} {q : Nat} {F : List Nat} {p : Int} {S : List Slot} (h : Tq w q F p S) (ht : Touch G w w') (hn : ∀ k, k ∈ F → ¬ k ∈ G) : Tq w' q F p S := by
  obtain ⟨sl, m, rfl, t⟩ := h
  obtain ⟨s, h1, h2, h3⟩ := t.ex
  exact ⟨sl, m, rfl, ⟨s, h1.keep ht hn, h2, h3⟩, t.srt, t.lo, t.p0, t.tk⟩
theorem Tq.keep0 {w w' : World} {q : Nat} {F : List Nat} {p : Int} {S : List Slot} (h : Tq w q F p S) (ht : Touch [] w w') : Tq w' q F p S := h.keep ht (fun _ _ e => by cases e)
theorem HQ.lt {w : World} {q : Nat} {sl : Value} {m : Option Nat} {p : Int} {s : List Slot} (h : HQ w q sl m p s) : ∀ k, k ∈ fq q sl m → k < w.heap.size := fun k hk => by
  simp [fq] at hk
  rcases hk with rfl | hk | hk
  · exact block_lt h.hc
  · exact (h.row.lt k hk).2
  · rcases h.mp with ⟨rfl, _⟩ | ⟨b, rfl, hm⟩
    · cases hk
    · cases hk; exact hm.lt
theorem Tq.lt {w : World} {q : Nat} {F : List Nat} {p : Int} {S : List Slot} (h : Tq w q F p S) : ∀ k, k ∈ F → k < w.heap.size := by
  obtain ⟨sl, m, rfl, ⟨s, h1, _⟩, _⟩ := h
  exact h1.lt
theorem slot_eq {S : List Slot} (h : Nd S) {x y : Slot} (hx : x ∈ S) (hy : y ∈ S) (e : x.item = y.item) : x = y := by
  obtain ⟨i, hi, rfl⟩ := List.getElem_of_mem hx
  obtain ⟨j, hj, rfl⟩ := List.getElem_of_mem hy
  have := nd_at h hi hj (by rw [gt_eq hi, gt_eq hj]; exact e)
  subst this; rfl
theorem idx_perm {s S : List Slot} (h : Nd S) (hp : s.Perm S) (k : Int) : (idx s k).isSome = (idx S k).isSome ∧ ∀ i a, idx s k = some i → idx S k = some a → gt s i = gt S a := by
  refine ⟨?_, fun i a hi ha => ?_⟩
  · cases e : idx s k with
    | none =>
      rw [idx_none] at e
      have : idx S k = none := idx_none.2 (fun x hx => e x (hp.mem_iff.2 hx))
      rw [this]
    | some i =>
      obtain ⟨h1, h2⟩ := idx_some e
      cases e2 : idx S k with
      | none =>
        rw [idx_none] at e2
        exact absurd h2 (e2 _ (hp.mem_iff.1 (gt_mem h1)))
      | some a => rfl
  · obtain ⟨h1, h2⟩ := idx_some hi
    obtain ⟨h3, h4⟩ := idx_some ha
    exact slot_eq h (hp.mem_iff.1 (gt_mem h1)) (gt_mem h3) (by rw [h2, h4])
theorem len26 (w : World) (q : Nat) (F : List Nat) (p : Int) (S : List Slot) (h : Tq w q F p S) :
    Calls Tryd.prog 72 #[PT q] w fun e w' => e = .returned (.int .i64 S.length) ∧ w' = w := by
  obtain ⟨sl, m, rfl, ⟨s, h1, h2, h3⟩, _⟩ := h
  rw [← h3.length_eq]
  have c0 := h1.hc.c0
  obtain ⟨a, c, rfl⟩ := own_form h1.row
  clear h1 h2 h3
  unfold PT
  go_enter Tryd.func72, Tryd.ntmps72
  go_wp2
  go_ret
  exact ⟨rfl, rfl⟩
theorem next27_nil (w : World) (q : Nat) (F : List Nat) (p : Int) (h : Tq w q F p []) :
    Calls Tryd.prog 54 #[PT q] w fun e w' => e = .returned (.tuple #[.int .i64 0, .int .i64 0, .bool false]) ∧ w' = w := by
  have HL := hid (len26 w q F p [] h)
  clear h
  unfold PT at *
  go_enter Tryd.func54, Tryd.ntmps54
  go_wp2_with (go_at_call 72; refine HL.out.mono ?_; rintro e w2 ⟨rfl, rfl⟩)
  exact bodyPost_ret (v := .tuple #[.int .i64 0, .int .i64 0, .bool false]) (by simp [results, Tryd.results54, go_sem]) rfl ⟨rfl, rfl⟩
set_option maxHeartbeats 1000000 in
theorem next27_cons (w : World) (q : Nat) (F : List Nat) (p : Int) (x : Slot) (S : List Slot) (h : Tq w q F p (x :: S)) :
    Calls Tryd.prog 54 #[PT q] w fun e w' => e = .returned (.tuple #[.int .i64 x.at_, .int .i64 x.item, .bool true]) ∧ Touch [] w w' := by
  have hle := h.len
  obtain ⟨n, hn⟩ : ∃ n, n = (x :: S).length := ⟨_, rfl⟩
  have HL := hid (len26 w q F p _ h)
  obtain ⟨sl, m, rfl, ⟨s, h1, h2, h3⟩, r⟩ := h
  have hl := h3.length_eq
  have hs0 : 0 < s.length := by rw [hl]; simp
  have hg := heap_head h3 h2 r (by simp)
  rw [gt_zero_cons] at hg
  obtain ⟨g, c, rfl⟩ := h1.slice hs0
  obtain ⟨x0, x1, x2⟩ := flat_at s 0 hs0
  rw [hg] at x0 x1 x2
  have a0 := own_cell h1.row x0
  have a1 := own_cell h1.row x1
  have a2 := own_cell h1.row x2
  have c0 := h1.hc.c0
  rw [hl, ← hn] at c0
  rw [← hn] at HL
  have hn0 : 0 < n := by rw [hn]; simp
  have zn : (0 : Int) < (n : Int) := by omega
  have zn2 : (n : Int) ≤ 65536 := by omega
  have zne : ((n : Int) == 0) = false := by simp; omega
  simp only [Nat.zero_mul, Nat.zero_add] at a0 a1 a2
  clear h1 h2 h3 r hn x0 x1 x2 hle hl hs0 hg hn0
  unfold PT at *
  go_enter Tryd.func54, Tryd.ntmps54
  go_wp2_with (go_at_call 72; refine HL.out.mono ?_; rintro e w2 ⟨rfl, rfl⟩)
  go_region
  go_wp2
  refine bodyPost_ret (v := .tuple #[.int .i64 x.at_, .int .i64 x.item, .bool true]) (by simp [results, Tryd.results54, go_sem]) rfl ⟨rfl, ?_⟩
  exact ((Touch.refl _ _).alloc _).drew
def isT (t : Int) : Bool := decide (0 ≤ t ∧ t ≤ 4611686018427387904)
theorem isT_yes {t : Int} (h : 0 ≤ t ∧ t ≤ 4611686018427387904) : isT t = true := decide_eq_true h
theorem isT_no {t : Int} (h : ¬ (0 ≤ t ∧ t ≤ 4611686018427387904)) : isT t = false := decide_eq_false h
theorem ret_bool {a b : Bool} (h : a = b) : Ending.returned (.bool a) = .returned (.bool b) := by rw [h]
theorem is37 (t : Int) (w : World) : Calls Tryd.prog 77 #[.int .i64 t] w fun e w' => e = .returned (.bool (isT t)) ∧ w' = w := by
  by_cases h : 0 ≤ t
  · by_cases h2 : t ≤ 4611686018427387904
    · have HI := hid (isT_yes ⟨h, h2⟩)
      go_enter Tryd.func77, Tryd.ntmps77
      go_wp2
      go_ret
      exact ⟨ret_bool HI.out.symm, rfl⟩
    · have HI := hid (isT_no (t := t) (by omega))
      go_enter Tryd.func77, Tryd.ntmps77
      go_wp2
      go_ret
      exact ⟨ret_bool HI.out.symm, rfl⟩
  · have HI := hid (isT_no (t := t) (by omega))
    go_enter Tryd.func77, Tryd.ntmps77
    go_wp2
    go_ret
    exact ⟨ret_bool HI.out.symm, rfl⟩
def atV (S : List Slot) (k : Int) : Value := match idx S k with
  | some a => .tuple #[.int .i64 (gt S a).at_, .bool true]
  | none => .tuple #[.int .i64 0, .bool false]
set_option maxHeartbeats 1000000 in
theorem at29_none (w : World) (q : Nat) (F : List Nat) (p : Int) (S : List Slot) (k : Int) (hk : W64 k) (h : Tq w q F p S) (hi : idx S k = none) :
    Calls Tryd.prog 84 #[PT q, .int .i64 k] w fun e w' => e = .returned (.tuple #[.int .i64 0, .bool false]) ∧ w' = w := by
  have nd := h.nd
  obtain ⟨sl, m, rfl, ⟨s, h1, h2, h3⟩, r⟩ := h
  have e1 := (idx_perm nd h3 k).1
  rw [hi] at e1
  have e2 : pmap s k = none := by
    unfold pmap
    cases h : idx s k with
    | none => rfl
    | some i => rw [h] at e1; cases e1
  have c1 := h1.hc.c1
  rcases h1.mp with ⟨rfl, rfl⟩ | ⟨b, rfl, hm⟩
  · have hl := Maps.look_nil (P := Tryd.prog) (w := w) true keyed3 Tryd.underlying83 (zero3 w) (key3 hk)
    simp only [if_true] at hl
    clear h1 h2 h3 r nd hi e1 e2
    unfold PT
    go_enter Tryd.func84, Tryd.ntmps84
    go_wp2
    exact bodyPost_ret (v := .tuple #[.int .i64 0, .bool false]) (by simp [results, Tryd.results84, go_sem]) rfl ⟨rfl, rfl⟩
  · have hl := hm.lookOk (t := 83) Tryd.underlying83 (zero3 w) hk
    rw [e2] at hl
    simp only [Option.getD_none, Option.isSome_none] at hl
    clear h1 h2 h3 r nd hi e1 e2 hm
    unfold PT
    go_enter Tryd.func84, Tryd.ntmps84
    go_wp2
    exact bodyPost_ret (v := .tuple #[.int .i64 0, .bool false]) (by simp [results, Tryd.results84, go_sem]) rfl ⟨rfl, rfl⟩
set_option maxHeartbeats 1000000 in
theorem at29_some (w : World) (q : Nat) (F : List Nat) (p : Int) (S : List Slot) (k : Int) (a : Nat) (hk : W64 k) (h : Tq w q F p S) (hi : idx S k = some a) :
    Calls Tryd.prog 84 #[PT q, .int .i64 k] w fun e w' => e = .returned (.tuple #[.int .i64 (gt S a).at_, .bool true]) ∧ w' = w := by
  have nd := h.nd
  obtain ⟨sl, m, rfl, ⟨s, h1, h2, h3⟩, r⟩ := h
  obtain ⟨e1, e2⟩ := idx_perm nd h3 k
  rw [hi] at e1
  obtain ⟨i, e3⟩ : ∃ i, idx s k = some i := by
    cases h : idx s k with
    | none => rw [h] at e1; cases e1
    | some i => exact ⟨i, rfl⟩
  have e4 := e2 i a e3 hi
  obtain ⟨il, _⟩ := idx_some e3
  have hle := h1.le
  have c1 := h1.hc.c1
  rcases h1.mp with ⟨rfl, rfl⟩ | ⟨b, rfl, hm⟩
  · simp at il
  · have hl := hm.lookOk (t := 83) Tryd.underlying83 (zero3 w) hk
    rw [show pmap s k = some (.int .i64 i) by simp [pmap, e3]] at hl
    simp only [Option.getD_some, Option.isSome_some] at hl
    obtain ⟨g, c, rfl⟩ := h1.slice (by omega)
    obtain ⟨x0, x1, x2⟩ := flat_at s i il
    rw [e4] at x0
    have a0 := own_cell h1.row x0
    have c0 := h1.hc.c0
    have zi : (i : Int) < (s.length : Int) := by omega
    have zl : (s.length : Int) ≤ 65536 := by omega
    clear h1 h2 h3 r nd hi e1 e2 hm x0 x1 x2 e3 e4
    generalize s.length = n at *
    generalize (gt S a).at_ = t at *
    unfold PT
    go_enter Tryd.func84, Tryd.ntmps84
    go_wp2
    exact bodyPost_ret (v := .tuple #[.int .i64 t, .bool true]) (by simp [results, Tryd.results84, go_sem]) rfl ⟨rfl, rfl⟩
/-- What a taking out leaves. -/
theorem Tq.out {w w' : World} {q : Nat} {sl : Value} {b : Nat} {p : Int} {s S : List Slot} {i a : Nat} (t : TM w q sl (some b) p S) (hp : s.Perm S) (ha : a < S.length) (hg : gt s i = gt S a)
    (h : ∃ sl' s', (s' ++ [gt s i]).Perm s ∧ Heap s'.length s' ∧ HQ w' q sl' (some b) p s' ∧ Touch (fq q sl (some b)) w w' ∧ Nq w q sl (some b) sl' (some b)) :
    ∃ F', Tq w' q F' p (S.eraseIdx a) ∧ Touch (fq q sl (some b)) w w' ∧ Nf w (fq q sl (some b)) F' := by
  obtain ⟨sl', s', h1, h2, h3, h4, h5⟩ := h
  rw [hg] at h1
  have : s'.Perm (S.eraseIdx a) := perm_cancel ((h1.trans hp).trans (eraseIdx_perm ha).symm)
  exact ⟨_, ⟨sl', some b, rfl, ⟨s', h3, h2, this⟩, srt_eraseIdx t.srt a, fun x hx => t.lo x (List.mem_of_mem_eraseIdx hx), t.p0, fun x hx => t.tk x (List.mem_of_mem_eraseIdx hx)⟩, h4, h5⟩
set_option maxHeartbeats 1000000 in
theorem take21_no (w : World) (q : Nat) (F : List Nat) (p : Int) (S : List Slot) (now : Int) (h : Tq w q F p S) (hn : S = [] ∨ now < (gt S 0).at_) :
    Calls Tryd.prog 55 #[PT q, .int .i64 now] w fun e w' => e = .returned (.tuple #[.int .i64 0, .bool false]) ∧ Touch [] w w' := by
  cases S with
  | nil =>
    have HN := hid (next27_nil w q F p h)
    clear h hn
    unfold PT at *
    go_enter Tryd.func55, Tryd.ntmps55
    go_wp2_with (go_at_call 54; refine HN.out.mono ?_; rintro e w2 ⟨rfl, rfl⟩)
    exact bodyPost_ret (v := .tuple #[.int .i64 0, .bool false]) (by simp [results, Tryd.results55, go_sem]) rfl ⟨rfl, Touch.refl _ _⟩
  | cons x S =>
    have HN := hid (next27_cons w q F p x S h)
    have hn : now < x.at_ := by
      rcases hn with h | h
      · cases h
      · exact h
    clear h
    generalize x.at_ = t at *
    generalize x.item = k at *
    unfold PT at *
    go_enter Tryd.func55, Tryd.ntmps55
    go_wp2_with (go_at_call 54; refine HN.out.mono ?_; rintro e w2 ⟨rfl, ht⟩)
    exact bodyPost_ret (v := .tuple #[.int .i64 0, .bool false]) (by simp [results, Tryd.results55, go_sem]) rfl ⟨rfl, ht⟩
set_option maxHeartbeats 1000000 in
theorem take21_yes (w : World) (q : Nat) (F : List Nat) (p : Int) (x : Slot) (S : List Slot) (now : Int) (h : Tq w q F p (x :: S)) (hn : x.at_ ≤ now) :
    Calls Tryd.prog 55 #[PT q, .int .i64 now] w fun e w' => e = .returned (.tuple #[.int .i64 x.item, .bool true]) ∧ ∃ F', Tq w' q F' p S ∧ Touch F w w' ∧ Nf w F F' := by
  have HN := hid (next27_cons w q F p x S h)
  have HT : Hid (∀ w1, Touch [] w w1 → Calls Tryd.prog 73 #[.pointer (some ⟨q, 0, none⟩), .int .i64 0] w1 fun e w' => e = .returned (.tuple #[]) ∧ ∃ F', Tq w' q F' p S ∧ Touch F w w' ∧ Nf w F F') := fun w1 t1 => by
    have h' := h.keep0 t1
    obtain ⟨sl, m, rfl, t⟩ := h'
    obtain ⟨s, h1, h2, h3⟩ := t.ex
    have hl := h3.length_eq
    have hs0 : 0 < s.length := by rw [hl]; simp
    rcases h1.mp with ⟨rfl, rfl⟩ | ⟨b, rfl, hm⟩
    · simp at hs0
    · refine (takeOut36 w1 q b sl p s 0 hs0 h1 h2).mono ?_
      rintro e w2 ⟨he, r⟩
      obtain ⟨F', r1, r2, r3⟩ := Tq.out t h3 (a := 0) (by simp) (heap_head h3 h2 t.srt (by simp)) r
      refine ⟨he, F', r1, (t1.mono (fun _ e => by cases e)).trans' r2, fun k hk => ?_⟩
      rcases r3 k hk with e | e
      · exact Or.inl e
      · exact Or.inr (Nat.le_trans t1.size e)
  clear h
  generalize x.at_ = t at *
  generalize x.item = k at *
  unfold PT at *
  go_enter Tryd.func55, Tryd.ntmps55
  go_wp2_with (first
    | (go_at_call 54; refine HN.out.mono ?_; rintro e w2 ⟨rfl, ht⟩)
    | (go_at_call 73; refine (HT.out _ ht).mono ?_; rintro e w3 ⟨rfl, r⟩; have R := hid r; clear r))
  exact bodyPost_ret (v := .tuple #[.int .i64 k, .bool true]) (by simp [results, Tryd.results55, go_sem]) rfl ⟨rfl, R.out⟩
end Go.Proofs.YtcbckehdlbbbbaaDoor.Cl
/- Take of a queue by time, both ways in one. -/
namespace Go.Proofs.YtcbckehdlbbbbaaDoor.Cl
open Go.RowKit Go.Maps Go.ChangeMaps
set_option linter.unusedVariables false
theorem Tq.apart {w : World} {q : Nat} {F : List Nat} {p : Int} {S : List Slot} (h : Tq w q F p S) {base e k n : Nat} {v : Value} {xs : List Value} (ho : w.ownsRow base e k v n xs) (e1 : e ≠ 120) (e2 : e ≠ 152) : ∀ b, v.ownBlock = some b → ¬ b ∈ F := by
  obtain ⟨sl, m, rfl, ⟨s, h1, _⟩, _⟩ := h
  intro b hb hF
  obtain ⟨_, h2 | ⟨g, cap, cur, rfl, hg, hcc, r⟩⟩ := ho
  · rw [h2.1] at hb; cases hb
  · simp [Value.ownBlock] at hb
    subst hb
    simp [fq] at hF
    rcases hF with rfl | hF | hF
    · have := h1.hc
      unfold HC at this
      rw [hcc] at this
      simp at this
      exact e1 this.2
    · obtain ⟨_, h3 | ⟨g', cap', cur', rfl, hg', hcc', r'⟩⟩ := h1.row
      · rw [h3.1] at hF; cases hF
      · simp [Value.ownBlock] at hF
        subst hF
        rw [hcc] at hcc'
        simp at hcc'
        exact e2 hcc'.2
    · rcases h1.mp with ⟨rfl, _⟩ | ⟨b, rfl, hm⟩
      · cases hF
      · cases hF
        obtain ⟨D, ⟨es, cl, hb, _⟩, _⟩ := hm
        rw [hb] at hcc
        simp at hcc
def TkP (w w' : World) (q : Nat) (F : List Nat) (p : Int) (T : List Slot) (now i : Int) (ok : Bool) : Prop :=
  (ok = true ∧ ∃ x R F', T = x :: R ∧ x.at_ ≤ now ∧ i = x.item ∧ Tq w' q F' p R ∧ Touch F w w' ∧ Nf w F F') ∨ (ok = false ∧ i = 0 ∧ (T = [] ∨ now < (gt T 0).at_) ∧ Touch [] w w' ∧ Tq w' q F p T)
def TkE (e : Ending) (w w' : World) (q : Nat) (F : List Nat) (p : Int) (T : List Slot) (now : Int) : Prop := ∃ i ok, e = .returned (.tuple #[.int .i64 i, .bool ok]) ∧ TkP w w' q F p T now i ok
theorem take21 (w : World) (q : Nat) (F : List Nat) (p : Int) (T : List Slot) (now : Int) (h : Tq w q F p T) : Calls Tryd.prog 55 #[PT q, .int .i64 now] w fun e w' => TkE e w w' q F p T now := by
  by_cases c : T = [] ∨ now < (gt T 0).at_
  · refine (take21_no w q F p T now h c).mono ?_
    rintro e w' ⟨rfl, ht⟩
    exact ⟨0, false, rfl, Or.inr ⟨rfl, rfl, c, ht, h.keep0 ht⟩⟩
  · cases T with
    | nil => exact absurd (Or.inl rfl) c
    | cons x R =>
      have hx : x.at_ ≤ now := by
        have : ¬ now < x.at_ := fun e => c (Or.inr e)
        omega
      refine (take21_yes w q F p x R now h hx).mono ?_
      rintro e w' ⟨rfl, F', h1, h2, h3⟩
      exact ⟨x.item, true, rfl, Or.inl ⟨rfl, x, R, F', rfl, hx, rfl, h1, h2, h3⟩⟩
def lenOf : Value → Nat
  | .slice _ n _ => n
  | _ => 0
theorem Nf.trans {w w1 : World} {F G H : List Nat} (h : Nf w F G) (k : Nf w1 G H) (hz : w.heap.size ≤ w1.heap.size) : Nf w F H := fun i hi => by
  rcases k i hi with e | e
  · exact h i e
  · exact Or.inr (Nat.le_trans hz e)
end Go.Proofs.YtcbckehdlbbbbaaDoor.Cl
