/- A text with its masked bytes back in plain words; what a generic replacer looks like in memory; no conditions. -/
import Derived.Test.YtlffleigahfdlaaGreatDoorEpd
import Derived.Test.YtlffleigahfdlaaGreatDoorEpe
namespace Go.Proofs.YtlffleigahfdlaaGreatDoor.Tr
open Go.RowKit Go.Sort Go.Shelf Go.Maps Go.ChangeMaps
set_option linter.unusedVariables false
set_option linter.unusedSimpArgs false
def lk3 (a b c : UInt8) : Option UInt8 := if a = 37 ∧ b = 48 ∧ c = 97 then some 10 else if a = 37 ∧ b = 48 ∧ c = 100 then some 13 else if a = 37 ∧ b = 50 ∧ c = 53 then some 37 else none
def lkL : List UInt8 → Option UInt8
  | a :: b :: c :: _ => lk3 a b c
  | _ => none
def unF : List UInt8 → List UInt8
  | [] => []
  | [a] => [a]
  | [a, b] => [a, b]
  | a :: b :: c :: r => match lk3 a b c with | some x => x :: unF r | none => a :: unF (b :: c :: r)
theorem unF_hit {l : List UInt8} {x : UInt8} (h : lkL l = some x) : unF l = x :: unF (l.drop 3) ∧ 3 ≤ l.length := by
  match l, h with
  | a :: b :: c :: r, h =>
    have h : lk3 a b c = some x := h
    exact ⟨by rw [unF, h]; rfl, by simp only [List.length_cons]; omega⟩
theorem unF_no {a : UInt8} {l : List UInt8} (h : lkL (a :: l) = none) : unF (a :: l) = a :: unF l := by
  match l, h with
  | [], _ => rfl
  | [b], _ => rfl
  | b :: c :: r, h =>
    have h : lk3 a b c = none := h
    rw [unF, h]
theorem lk3_first {a b c : UInt8} (h : a ≠ 37) : lk3 a b c = none := by
  unfold lk3
  rw [if_neg (fun e => h e.1), if_neg (fun e => h e.1), if_neg (fun e => h e.1)]
theorem lkL_first {a : UInt8} {l : List UInt8} (h : a ≠ 37) : lkL (a :: l) = none := by
  match l with
  | [] => rfl
  | [b] => rfl
  | b :: c :: r => exact lk3_first h
def sq : List Nat := [37, 48, 97, 37, 48, 100, 37, 50, 53]
def mkN (n b : Nat) : Nat := if b ∈ sq.take n then 1 else 0
def cntM (i : Nat) : Nat := (List.range i).countP (fun b => b ∈ sq)
def mapB (b : Nat) : Nat := if b ∈ sq then cntM b else 6
theorem mkN_9 (b : Nat) : mkN 9 b = if b ∈ sq then 1 else 0 := rfl
theorem cntM_succ (i : Nat) : cntM (i + 1) = cntM i + mkN 9 i := by
  unfold cntM
  rw [List.range_succ, List.countP_append, mkN_9]
  by_cases h : i ∈ sq <;> simp [List.countP_cons, h]
theorem cntM_256 : cntM 256 = 6 := by decide +kernel
theorem cntM_le : ∀ i, i ≤ 256 → cntM i ≤ 6 := by
  intro i hi
  have h : ∀ j, cntM i ≤ cntM (i + j) := fun j => by
    induction j with
    | zero => exact Nat.le_refl _
    | succ j ih => rw [← Nat.add_assoc, cntM_succ]; omega
  have := h (256 - i)
  rw [show i + (256 - i) = 256 by omega, cntM_256] at this
  exact this
theorem mkN_succ (n b : Nat) {c : Nat} (h : sq[n]? = some c) : mkN (n + 1) b = if b = c then 1 else mkN n b := by
  unfold mkN
  rw [List.take_add_one, h]
  by_cases e : b = c
  · simp [e]
  · simp [e]
/-- A generic replacer's own block: the root's cells, the table's size, the bytes' numbers. -/
def Gn (w : World) (r : Nat) (rt : Nat → Value) (ts : Nat) (f : Nat → Nat) : Prop :=
  ∃ cs : Array Value, w.heap[r]? = some (.cells cs 262 (0, 0)) ∧ cs.size = 262 ∧ (∀ j, j < 5 → cs[j]? = some (rt j)) ∧ cs[5]? = some (.int .i64 (ts : Int)) ∧ ∀ b, b < 256 → cs[6 + b]? = some (.int .u8 (f b : Int))
theorem Gn.touch {w w' : World} {r ts : Nat} {rt : Nat → Value} {f : Nat → Nat} (h : Gn w r rt ts f) (t : Touch [] w w') : Gn w' r rt ts f := by
  obtain ⟨cs, h0, h1⟩ := h
  exact ⟨cs, t.keep h0 (by simp), h1⟩
theorem Gn.keep {w w' : World} {r ts : Nat} {rt : Nat → Value} {f : Nat → Nat} {F : List Nat} (h : Gn w r rt ts f) (t : Touch F w w') (hF : ¬ r ∈ F) : Gn w' r rt ts f := by
  obtain ⟨cs, h0, h1⟩ := h
  exact ⟨cs, t.keep h0 hF, h1⟩
theorem Gn.root {w : World} {r ts : Nat} {rt : Nat → Value} {f : Nat → Nat} (h : Gn w r rt ts f) {j : Nat} (hj : j < 5) : w.cell? ⟨r, j, none⟩ = some (rt j) := by
  obtain ⟨cs, h0, _, h2, _⟩ := h
  exact cell_at h0 (h2 j hj)
theorem Gn.size {w : World} {r ts : Nat} {rt : Nat → Value} {f : Nat → Nat} (h : Gn w r rt ts f) : w.cell? ⟨r, 5, none⟩ = some (.int .i64 (ts : Int)) := by
  obtain ⟨cs, h0, _, _, h3, _⟩ := h
  exact cell_at h0 h3
theorem Gn.num {w : World} {r ts : Nat} {rt : Nat → Value} {f : Nat → Nat} (h : Gn w r rt ts f) {b : Nat} (hb : b < 256) : w.cell? ⟨r, 6 + b, none⟩ = some (.int .u8 (f b : Int)) := by
  obtain ⟨cs, h0, _, _, _, h4⟩ := h
  exact cell_at h0 (h4 b hb)
theorem Gn.froz {w : World} {r ts : Nat} {rt : Nat → Value} {f : Nat → Nat} (h : Gn w r rt ts f) (o : Nat) : w.frozen? ⟨r, o, none⟩ = false := by
  obtain ⟨cs, h0, _⟩ := h
  exact froz_at h0 o
theorem Gn.lt {w : World} {r ts : Nat} {rt : Nat → Value} {f : Nat → Nat} (h : Gn w r rt ts f) : r < w.heap.size := by
  obtain ⟨cs, h0, _⟩ := h
  exact block_lt h0
theorem heap_set {w : World} {r i : Nat} {cs : Array Value} {t : TypeId} {z : Nat × Nat} (h : w.heap[r]? = some (.cells cs t z)) (v : Value) : (w.setCell ⟨r, i, none⟩ v).heap[r]? = some (.cells (cs.setIfInBounds i v) t z) := by
  simp [World.setCell, Array.getElem?_modify, h]
theorem Gn.setN {w : World} {r ts : Nat} {rt : Nat → Value} {f : Nat → Nat} (h : Gn w r rt ts f) {b : Nat} (hb : b < 256) (v : Nat) : Gn (w.setCell ⟨r, 6 + b, none⟩ (.int .u8 (v : Int))) r rt ts (fun j => if j = b then v else f j) := by
  obtain ⟨cs, h0, h1, h2, h3, h4⟩ := h
  refine ⟨_, heap_set h0 _, by simp [h1], fun j hj => ?_, ?_, fun j hj => ?_⟩
  · rw [Array.getElem?_setIfInBounds_ne (by omega)]; exact h2 j hj
  · rw [Array.getElem?_setIfInBounds_ne (by omega)]; exact h3
  · by_cases e : j = b
    · subst e
      rw [Array.getElem?_setIfInBounds_self_of_lt (by omega)]
      simp
    · rw [Array.getElem?_setIfInBounds_ne (by omega)]
      simp only [e, if_false]
      exact h4 j hj
theorem Gn.setS {w : World} {r ts : Nat} {rt : Nat → Value} {f : Nat → Nat} (h : Gn w r rt ts f) (v : Nat) : Gn (w.setCell ⟨r, 5, none⟩ (.int .i64 (v : Int))) r rt v f := by
  obtain ⟨cs, h0, h1, h2, h3, h4⟩ := h
  refine ⟨_, heap_set h0 _, by simp [h1], fun j hj => ?_, ?_, fun j hj => ?_⟩
  · rw [Array.getElem?_setIfInBounds_ne (by omega)]; exact h2 j hj
  · rw [Array.getElem?_setIfInBounds_self_of_lt (by omega)]
  · rw [Array.getElem?_setIfInBounds_ne (by omega)]; exact h4 j hj
theorem Gn.setR {w : World} {r ts : Nat} {rt : Nat → Value} {f : Nat → Nat} (h : Gn w r rt ts f) {k : Nat} (hk : k < 5) (v : Value) : Gn (w.setCell ⟨r, k, none⟩ v) r (fun j => if j = k then v else rt j) ts f := by
  obtain ⟨cs, h0, h1, h2, h3, h4⟩ := h
  refine ⟨_, heap_set h0 _, by simp [h1], fun j hj => ?_, ?_, fun j hj => ?_⟩
  · by_cases e : j = k
    · subst e
      rw [Array.getElem?_setIfInBounds_self_of_lt (by omega)]
      simp
    · rw [Array.getElem?_setIfInBounds_ne (by omega)]
      simp only [e, if_false]
      exact h2 j hj
  · rw [Array.getElem?_setIfInBounds_ne (by omega)]; exact h3
  · rw [Array.getElem?_setIfInBounds_ne (by omega)]; exact h4 j hj
/-- a node's five cells -/
def nd (v : ByteArray) (p : Int) (x : ByteArray) (n : Option Addr) (t : Value) : Array Value := #[.string v, .int .i64 p, .string x, .pointer n, t]
def nP (b : Nat) : Value := .pointer (some ⟨b, 0, none⟩)
def nA (b : Nat) : Option Addr := some ⟨b, 0, none⟩
def sN : Value := .slice none 0 0
def sT (b : Nat) : Value := .slice (some ⟨b, 0, none⟩) 6 6
def zN : Array Value := nd ⟨#[]⟩ 0 ⟨#[]⟩ none sN
end Go.Proofs.YtlffleigahfdlaaGreatDoor.Tr
