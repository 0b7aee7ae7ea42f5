/- Things to do in plain words: which may be, which programs may be; no conditions. -/
import Derived.Test.YthakboiecdjgnaaDoorMpk
namespace Go.Proofs.YthakboiecdjgnaaDoor.Ci
open Go.RowKit Go.Maps Go.ChangeMaps
set_option linter.unusedVariables false

theorem cell_lt {w : World} {a : Addr} {v : Value} (h : w.cell? a = some v) : a.block < w.heap.size := by
  rcases Nat.lt_or_ge a.block w.heap.size with h' | h'
  · exact h'
  · simp [World.cell?, Array.getElem?_eq_none h'] at h
theorem tcell {w w' : World} (t : Touch [] w w') {a : Addr} {v : Value} (h : w.cell? a = some v) : w'.cell? a = some v := by
  rw [World.cell?_of_block (t.block a.block (cell_lt h) (by simp))]; exact h
theorem tfz {w w' : World} (t : Touch [] w w') {a : Addr} (h : w.frozen? a = false) (hb : a.block < w.heap.size) : w'.frozen? a = false := by
  rw [World.frozen?_of_block (t.block a.block hb (by simp))]; exact h
theorem mixed : Tryd.prog.follows .mixedOrders = true := by kernel_rfl
def kWord : Nat → ByteArray
  | 1 => ⟨#[99, 97, 108, 108]⟩ | 2 => ⟨#[115, 116, 97, 114, 116]⟩ | 3 => ⟨#[97, 119, 97, 105, 116]⟩ | 4 => ⟨#[102, 111, 114, 103, 101, 116]⟩ | 5 => ⟨#[99, 97, 110, 99, 101, 108]⟩
  | 6 => ⟨#[111, 112, 101, 110]⟩ | 7 => ⟨#[115, 104, 117, 116]⟩ | 8 => ⟨#[115, 108, 101, 101, 112]⟩ | 9 => ⟨#[116, 111, 107, 101, 110]⟩ | _ => ⟨#[]⟩
def kKey : Nat → Bool
  | 1 => true | 2 => true | 4 => true | _ => false
def kNl : Nat → Int
  | 5 => 1 | _ => 0
def kNh : Nat → Int
  | 5 => 1024 | 6 => 255 | 7 => 255 | 8 => 4611686018427387904 | 9 => 1024 | _ => 0
def kSh : Nat → Int
  | 2 => 15 | 3 => 15 | _ => 0
/-- A thing to do. -/
structure Dz where
  op : Int
  sp : Int
  nm : ByteArray
  n : Int
  sl : Int
structure Dz.ok (d : Dz) : Prop where
  op : W64 d.op
  sp : (Lit.int .u16 d.sp).wf = true
  nm : d.nm.size ≤ maxLen
  n : W64 d.n
  sl : W64 d.sl
def Dz.cells (d : Dz) : List Value := [.int .i64 d.op, .int .u16 d.sp, .string d.nm, .int .i64 d.n, .int .i64 d.sl]
theorem Dz.cells_len (d : Dz) : d.cells.length = 5 := rfl
def d0 : Dz := ⟨0, 0, ⟨#[]⟩, 0, 0⟩
def keyB (b : Bool) (sp : Int) (nm : ByteArray) : Bool := if b then decide (nm.size ≤ 64) else decide (sp = 0) && decide (nm.toList = [])
def mayZ (d : Dz) : Bool := decide (1 ≤ d.op ∧ d.op ≤ 9) && (keyB (kKey d.op.toNat) d.sp d.nm && (decide (kNl d.op.toNat ≤ d.n ∧ d.n ≤ kNh d.op.toNat) && decide (0 ≤ d.sl ∧ d.sl ≤ kSh d.op.toNat)))
theorem mayZ_op {d : Dz} (h : ¬ (1 ≤ d.op ∧ d.op ≤ 9)) : mayZ d = false := by unfold mayZ; rw [decide_eq_false h]; rfl
def chkZ (L : List Dz) : Nat × Int := if 256 < L.length then (256, 3) else match L.findIdx? (fun x => !mayZ x) with | some i => (i, 210) | none => (0, 0)
theorem chk_many {L : List Dz} (h : 256 < L.length) : chkZ L = (256, 3) := by unfold chkZ; rw [if_pos h]
theorem chk_at {L : List Dz} (h : L.length ≤ 256) (i : Nat) (hi : i < L.length) (hb : ∀ j, (hj : j < L.length) → j < i → mayZ L[j] = true) (hn : mayZ L[i] = false) : chkZ L = (i, 210) := by
  unfold chkZ
  rw [if_neg (by omega)]
  have : L.findIdx? (fun x => !mayZ x) = some i := by
    rw [List.findIdx?_eq_some_iff_getElem]
    refine ⟨hi, by simp [hn], fun j hj => ?_⟩
    have := hb j (by omega) hj
    simp [this]
  rw [this]
theorem chk_end {L : List Dz} (h : L.length ≤ 256) (hb : ∀ j, (hj : j < L.length) → mayZ L[j] = true) : chkZ L = (0, 0) := by
  unfold chkZ
  rw [if_neg (by omega)]
  have : L.findIdx? (fun x => !mayZ x) = none := by
    rw [List.findIdx?_eq_none_iff]
    intro x hx
    obtain ⟨j, hj, rfl⟩ := List.getElem_of_mem hx
    simp [hb j hj]
  rw [this]
def Good (L : List Dz) : Prop := L.length ≤ 256 ∧ ∀ x ∈ L, mayZ x = true
theorem chk_good {L : List Dz} : (chkZ L).2 = 0 ↔ Good L := by
  unfold chkZ
  split
  · rename_i h
    exact ⟨(fun h => by cases h), fun hg => (by have := hg.1; omega)⟩
  · rename_i h
    cases hf : L.findIdx? (fun x => !mayZ x) with
    | none =>
      rw [List.findIdx?_eq_none_iff] at hf
      refine ⟨fun _ => ⟨by omega, fun x hx => ?_⟩, fun _ => rfl⟩
      simpa using hf x hx
    | some i =>
      refine ⟨(fun h => by cases h), fun hg => ?_⟩
      rw [List.findIdx?_eq_some_iff_getElem] at hf
      obtain ⟨hi, hn, _⟩ := hf
      rw [hg.2 _ (List.getElem_mem hi)] at hn
      cases hn
theorem chk_fst {L : List Dz} (h : Good L) : chkZ L = (0, 0) := chk_end h.1 fun j hj => h.2 _ (List.getElem_mem hj)
theorem chk_bad {L : List Dz} (h : ¬ Good L) : (chkZ L).2 = 3 ∨ (chkZ L).2 = 210 := by
  have h0 : (chkZ L).2 ≠ 0 := fun e => h (chk_good.1 e)
  unfold chkZ at h0 ⊢
  split
  · exact Or.inl rfl
  · rename_i hl
    rw [if_neg hl] at h0
    cases hf : L.findIdx? (fun x => !mayZ x) with
    | none => rw [hf] at h0; exact absurd rfl h0
    | some i => exact Or.inr rfl
theorem chk_le (L : List Dz) : (chkZ L).1 ≤ 256 := by
  unfold chkZ
  split
  · exact Nat.le_refl _
  · rename_i h
    cases hf : L.findIdx? (fun x => !mayZ x) with
    | none => exact Nat.zero_le _
    | some i =>
      rw [List.findIdx?_eq_some_iff_getElem] at hf
      obtain ⟨hi, _⟩ := hf
      show i ≤ 256
      omega
/-- A slice of things to do in memory. -/
def Sl (w : World) (a : Option Addr) (L : List Dz) : Prop := ∀ i, (h : i < L.length) → ∃ b off, a = some ⟨b, off, none⟩ ∧ w.cell? ⟨b, off + i * 5, none⟩ = some (.int .i64 L[i].op) ∧ w.cell? ⟨b, off + i * 5 + 1, none⟩ = some (.int .u16 L[i].sp)
  ∧ w.cell? ⟨b, off + i * 5 + 2, none⟩ = some (.string L[i].nm) ∧ w.cell? ⟨b, off + i * 5 + 3, none⟩ = some (.int .i64 L[i].n) ∧ w.cell? ⟨b, off + i * 5 + 4, none⟩ = some (.int .i64 L[i].sl)
theorem Sl.touch {w w' : World} {a : Option Addr} {L : List Dz} (h : Sl w a L) (t : Touch [] w w') : Sl w' a L := fun i hi => by
  obtain ⟨b, off, e, c0, c1, c2, c3, c4⟩ := h i hi
  exact ⟨b, off, e, tcell t c0, tcell t c1, tcell t c2, tcell t c3, tcell t c4⟩
def Oks (L : List Dz) : Prop := ∀ x ∈ L, x.ok
end Go.Proofs.YthakboiecdjgnaaDoor.Ci
