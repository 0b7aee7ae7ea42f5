/- A slice of notes as an argument, opened, with how much it holds; no conditions. -/
import Derived.Test.YtifhfdndbnmhlaaDoorLaid
import Derived.Test.YtifhfdndbnmhlaaDoorErr
import Derived.Deep.Slices
namespace Go.Proofs.YtifhfdndbnmhlaaDoor
open Go.ChangeShapes Go.WideShapes Go.ChangeAt Go.RowKit
set_option linter.unusedVariables false
theorem laidOutN : laidOutB Tryd.prog = true := by kernel_rfl
theorem add_plainN (b off j : Nat) : (⟨b, off, none⟩ : Addr).add j = ⟨b, off + j, none⟩ := by simp [Addr.add]
theorem said_one (xs : List ByteArray) (x : ByteArray) : (saidB (x :: xs).reverse).size = (saidB xs.reverse).size + x.size + 2 := by
  rw [List.reverse_cons, said_app, ByteArray.size_append]
  simp only [saidB, ByteArray.size_append]
  have : col.size = 2 := rfl
  have : (ByteArray.mk #[]).size = 0 := rfl
  omega
theorem bulk_notes {H : Type} (xs : List ByteArray) : (saidB xs.reverse).size ≤ 2 * Rows.uptoBulkAll (xs.map fun x => (DataW.lit (.string x.data.toList) : DataW H)) := by
  induction xs with
  | nil => exact Nat.zero_le _
  | cons x xs ih =>
    rw [said_one]
    simp only [List.map_cons, Rows.uptoBulkAll, Rows.uptoBulk]
    have : x.size = x.data.toList.length := rfl
    omega
set_option maxRecDepth 100000 in
theorem open_notes {H : Type} {enc : TypeId × Value → H} {W : World} {b0 : Nat} {v : Value} {d : DataW H} {p : List MemPlace} (hv : Value.okWide Tryd.prog W .any b0 45 v) (h : DataW.Trod enc Tryd.prog W 0 (fun _ => true) true 45 v d p) :
    ∃ xs : List ByteArray, (∃ A cap, v = .slice A xs.length cap ∧ xs.length ≤ cap ∧ Nts W A xs) ∧ (saidB xs.reverse).size ≤ 2 * Rows.uptoBulk d := by
  obtain ⟨a, len, cap, rfl⟩ := okWide_slice Tryd.underlying45 hv
  obtain ⟨fuel, hf⟩ := h
  rcases Deep.open_slice1 Tryd.underlying45 cells9 hf with ⟨hcs, _⟩ | ⟨x, l, c, m, n, V, D, Pl, hcs, _, hl, hm, hmm, hx, hall⟩
  · simp [Value.cells] at hcs
    obtain ⟨rfl, rfl, rfl⟩ := hcs
    exact ⟨[], ⟨_, _, rfl, Nat.zero_le _, fun h => absurd h (by simp)⟩, Nat.zero_le _⟩
  · simp [Value.cells] at hcs
    obtain ⟨rfl, rfl, rfl⟩ := hcs
    simp only [if_true] at hmm
    subst hmm
    simp only [Prod.mk.injEq] at hx
    obtain ⟨rfl, rfl⟩ := hx
    have each : ∀ i, i < m → ∃ q : ByteArray, V i = .string q ∧ D i = .lit (.string q.data.toList) := fun i hi => by
      obtain ⟨S, g1, g2, g3⟩ := DataW.trod_string Tryd.underlying9 (hall i hi).2
      simp only [List.cons.injEq, and_true] at g1
      have g4 : D i = .lit (.string S.data.toList) := by
        have := congrArg Prod.fst g2
        simpa using this
      exact ⟨S, g1, g4⟩
    obtain ⟨q, hq⟩ := Deep.choose_lt each
    have hlen : ((List.range len).map q).length = len := by simp
    have hD : (List.range len).map D = ((List.range len).map q).map fun x => (DataW.lit (.string x.data.toList) : DataW H) := by
      rw [List.map_map]
      refine List.map_congr_left fun i hi => ?_
      exact (hq i (by have := List.mem_range.1 hi; omega)).2
    refine ⟨(List.range len).map q, ⟨some x, m, by rw [hlen], by rw [hlen]; exact hl, fun h0 => ?_⟩, ?_⟩
    · rw [hlen] at h0
      have hsp : x.spot = none := by
        have h1 := (hall 0 (by omega)).1
        rw [show x.add 0 = x by simp [Addr.add]] at h1
        unfold World.cell? at h1
        split at h1
        · split at h1
          · cases h1
          · rename_i hs
            cases hh : x.spot with
            | none => rfl
            | some z => rw [hh] at hs; exact absurd rfl hs
        · cases h1
      obtain ⟨b, off, r⟩ := x
      obtain rfl : r = none := hsp
      refine ⟨b, off, rfl, fun i hi => ?_⟩
      rw [hlen] at hi
      have h1 := (hall i (by omega)).1
      rw [(hq i (by omega)).1] at h1
      rw [add_plainN] at h1
      simpa using h1
    · rw [hD]
      have := bulk_notes (H := H) ((List.range len).map q)
      simp only [Rows.uptoBulk]
      omega
end Go.Proofs.YtifhfdndbnmhlaaDoor
