/- What All goes over: the contract of its inner function, for every loop body; there are fewer than a hundred thousand keys. -/
import Derived.Test.YtopepalpmkeffaaKys
import Derived.RangeFuncNested
import Derived.RangeFuncBound
import Derived.RangeFuncCalls
import Derived.RangeFuncLeaves
import Derived.Shelf.Abstract
import Derived.Shelf.RegionOpen
import Derived.OwnWalkIn
import Derived.TacticsInMore
import Derived.LoopNIn
import Derived.LoopIn
namespace Go.Proofs.Ytopepalpmkeffaa
open Go.RowKit Go.Sort Go.Maps Go.ChangeMaps Go.WideMaps Go.Shelf
set_option linter.unusedVariables false
set_option linter.unusedSimpArgs false
attribute [local go_sem] Oper.semAt_some
theorem keysO (w : World) (o : Nat) (F : List Nat) (most : Int) (xs : List K) (hl : xs.length < 100000) (h : Oq w o F most xs) :
    Calls Try.prog 64 #[PT o] w fun e w' => ∃ v, e = .returned v ∧ w'.ownsRow w.heap.size 39 2 v xs.length (cellsK xs) ∧ Touch [] w w' := by
  obtain ⟨m, L, rfl, rfl, t⟩ := h
  rw [List.length_map] at hl ⊢
  exact keys33 w o m most L hl t
/-- A slice's block, and that its cells tell the keys. -/
theorem row_form {w : World} {base : Nat} {v : Value} {xs : List K} (h : w.ownsRow base 39 2 v xs.length (cellsK xs)) : (v = .slice none 0 0 ∧ xs = []) ∨ ∃ g c cs, v = .slice (some ⟨g, 0, none⟩) xs.length c ∧ base ≤ g ∧ w.heap[g]? = some (.cells cs 39 (0, 0)) ∧ ∀ i (hi : i < xs.length), cs[i * 2]? = some (.int .u16 xs[i].1) ∧ cs[i * 2 + 1]? = some (.string xs[i].2) := by
  have h' := h
  obtain ⟨h1, h2 | ⟨g, cap, cur, rfl, hg, hc, hn, hm, hs, ht⟩⟩ := h
  · refine Or.inl ⟨h2.1, ?_⟩
    rw [cellsK_len] at h1
    cases xs with
    | nil => rfl
    | cons x xs => have := h2.2; simp at this
  · refine Or.inr ⟨g, cap, cur, rfl, hg, hc, fun i hi => ?_⟩
    have e : ∀ j, j < xs.length * 2 → cur[j]? = (cellsK xs)[j]? := fun j hj => by
      rw [← ht, List.getElem?_take, if_pos hj, Array.getElem?_toList]
    rw [e _ (by omega), e _ (by omega), cellsK_at0 xs i hi, cellsK_at1 xs i hi]
    exact ⟨rfl, rfl⟩
def ItQ (xs : List K) (J : Nat → List K → World → Prop) (Jx : World → Prop) (W' : World) : Prop := (∃ r, J r xs W') ∨ Jx W'
set_option maxRecDepth 100000 in
set_option maxHeartbeats 2000000 in
theorem all32_row (l Bo o : Nat) (F : List Nat) (most : Int) (xs : List K) (W : World) (hB : W.cell? ⟨Bo, 0, none⟩ = some (PT o)) (hO : Oq W o F most xs) (hl : xs.length < 100000) (J : Nat → List K → World → Prop) (Jx : World → Prop)
    (hJ0 : ∀ r W1, Touch [] W W1 → W.heap.size ≤ r → J r [] W1) (hJa : ∀ r pre W1 W2, J r pre W1 → Touch [] W1 W2 → J r pre W2)
    (hY : ∀ r pre x W1, J r pre W1 → r < W1.heap.size → (∃ post, xs = pre ++ x :: post) → YieldAt Fence.wide 0 Try.prog l #[kv x] W1 fun e W' => (e = .returned (.bool true) ∧ J r (pre ++ [x]) W' ∧ W'.heap[r]? = W1.heap[r]?) ∨ (e = .returned (.bool false) ∧ Jx W')) :
    CallsIn Fence.wide 0 Try.prog 63 #[.func (.yield l) #[] #[], .pointer (some ⟨Bo, 0, none⟩)] W fun e W' => (∃ v, e = .returned v) ∧ ItQ xs J Jx W' := by
  have HK := hid (keysO W o F most xs hl hO)
  have HY := hid hY
  have HJ0 := hid hJ0
  have HJa := hid hJa
  clear hY hJ0 hJa hO
  refine callsIn_of_wp Try.func63 rfl trivial ?_ rfl
  simp only [Try.ntmps63, List.size_toArray, List.length_cons, List.length_nil, Nat.reduceAdd, Nat.reduceSub, Array.replicate_succ, Array.replicate_zero, List.push_toArray, List.append_toArray, List.nil_append, List.cons_append]
  unfold PT at *
  gi_wp2
  refine ⟨trivial, rfl, ?_⟩
  refine (callsIn_wide.2 HK.out).mono ?_
  rintro e w1 ⟨v, rfl, hv, t1⟩
  have T1 := hid t1
  rcases row_form hv with ⟨rfl, rfl⟩ | ⟨g, c, cs, rfl, hg, hgc, hcs⟩
  · clear HK hv t1
    gi_wp2
    gi_loopw [8] (fun i wr => i = .int .i64 0 ∧ wr = w1) (fun _ _ => 0)
    case atStart => exact ⟨rfl, rfl⟩
    case round =>
      obtain ⟨rfl, rfl⟩ := hrel
      gi_wp2
      go_end0
      exact ⟨⟨_, rfl⟩, Or.inl ⟨W.heap.size, HJ0.out _ _ T1.out (Nat.le_refl _)⟩⟩
  · have HC := hid hcs
    have hglt : g < w1.heap.size := block_lt hgc
    have hgc' := hid hgc
    clear HK hv t1 hcs hgc
    gi_wp2
    gi_loopw [8] (fun i wr => ∃ k : Nat, k ≤ xs.length ∧ i = .int .i64 k ∧ Hid (J g (xs.take k) wr ∧ wr.heap[g]? = some (.cells cs 39 (0, 0)))) (fun i _ => xs.length - (intOf i).toNat)
    case atStart => exact ⟨0, Nat.zero_le _, rfl, HJ0.out _ _ T1.out hg, hgc'.out⟩
    case round =>
      obtain ⟨k, hk, rfl, HR⟩ := hrel
      by_cases hlt : k < xs.length
      · have zk : (k : Int) < (xs.length : Int) := by omega
        have f0 : wr.cell? ⟨g, k * 2, none⟩ = some (.int .u16 xs[k].1) := by simp [World.cell?, HR.out.2, (HC.out k hlt).1]
        have f1 : wr.cell? ⟨g, k * 2 + 1, none⟩ = some (.string xs[k].2) := by simp [World.cell?, HR.out.2, (HC.out k hlt).2]
        have hrg : g < wr.heap.size := block_lt HR.out.2
        obtain ⟨fn, tmps, assign, body, hy, hR⟩ := HY.out g (xs.take k) xs[k] (wr.alloc (.cells #[.int .u16 xs[k].1, .string xs[k].2] 39)) (HJa.out _ _ _ _ HR.out.1 ((Touch.refl _ _).alloc _)) (by simp; omega) ⟨xs.drop (k + 1), by simp⟩
        have HRR := hid hR
        clear hR
        unfold kv at hy
        generalize xs[k].1 = x at *
        generalize xs[k].2 = y at *
        gi_wp2
        refine ⟨rfl, HRR.out.mono ?_⟩
        rintro e W3 (⟨rfl, hJ3, hk3⟩ | ⟨rfl, hJx3⟩)
        · have HS : Hid (J g (xs.take (k + 1)) W3 ∧ W3.heap[g]? = some (.cells cs 39 (0, 0))) := by
            refine ⟨?_, hk3.trans ((Below.heap_alloc _ _ _ hrg).trans HR.out.2)⟩
            rw [List.take_succ_eq_append_getElem hlt]
            exact hJ3
          clear hJ3 hk3 HRR hy f0 f1 HR
          gi_wp2
          go_roundw
          case rel => exact ⟨k + 1, by omega, by go_num, HS⟩
          case measure => simp [intOf]; omega
        · have HS := hid hJx3
          clear hJx3 HRR hy f0 f1 HR
          gi_wp2
          refine bodyPost_ret (results_none rfl _ _ _) rfl ?_
          exact ⟨⟨_, rfl⟩, Or.inr HS.out⟩
      · obtain rfl : k = xs.length := by omega
        have HS := HR
        rw [List.take_length] at HS
        clear HR
        gi_wp2
        go_end0
        exact ⟨⟨_, rfl⟩, Or.inl ⟨g, HS.out.1⟩⟩
theorem all13 (w : World) (o : Nat) : Calls Try.prog 48 #[PT o] w fun e w' => e = .returned (.func (.func 63) #[] #[.pointer (some ⟨w.heap.size, 0, none⟩)]) ∧ w' = w.alloc (.cells #[PT o] 88) := by
  unfold PT
  go_enter Try.func48, Try.ntmps48
  go_wp2
  go_ret
  exact ⟨rfl, rfl⟩
end Go.Proofs.Ytopepalpmkeffaa
