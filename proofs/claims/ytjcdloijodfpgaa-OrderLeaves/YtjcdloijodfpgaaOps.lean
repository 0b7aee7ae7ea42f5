/- A slice of texts as an argument, opened; no conditions. -/
import Derived.Test.YtjcdloijodfpgaaRows
import Derived.Test.YtjcdloijodfpgaaLvw
import Derived.WalkKit
import Derived.ProofKit
import Derived.OpenShut
import Derived.ShutString
import Derived.Deep.Slices
namespace Go.Proofs.Ytjcdloijodfpgaa
open Go.ChangeShapes Go.WideShapes Go.ChangeAt Go.RowKit
set_option linter.unusedVariables false
theorem add_plain (b off j : Nat) : (⟨b, off, none⟩ : Addr).add j = ⟨b, off + j, none⟩ := by simp [Addr.add]
theorem cells9 : Try.prog.cellsOf 9 = 1 := by kernel_rfl
theorem spot_none {W : World} {x : Addr} {u : Value} (h0 : W.cell? x = some u) : x.spot = none := by
  unfold World.cell? at h0
  split at h0
  · split at h0
    · cases h0
    · rename_i hs
      cases hh : x.spot with
      | none => rfl
      | some z => rw [hh] at hs; exact absurd rfl hs
  · cases h0
theorem cell_lt {W : World} {b i : Nat} {u : Value} (h0 : W.cell? ⟨b, i, none⟩ = some u) : b < W.heap.size := by
  rcases Nat.lt_or_ge b W.heap.size with h | h
  · exact h
  · simp [World.cell?, Array.getElem?_eq_none h] at h0
set_option maxRecDepth 100000 in
theorem open_names {H : Type} {enc : TypeId × Value → H} {W : World} {b0 : Nat} {v : Value} {d : DataW H} {p : List MemPlace} (hv : Value.okWide Try.prog W .any b0 41 v) (h : DataW.Trod enc Try.prog W 0 (fun _ => true) true 41 v d p) :
    ∃ ns : List ByteArray, Sn W v ns ∧ ∀ s ∈ ns, s.size ≤ maxLen := by
  obtain ⟨a, len, cap, rfl⟩ := okWide_slice Try.underlying41 hv
  obtain ⟨fuel, hf⟩ := h
  rcases Deep.open_slice Try.underlying41 hf with ⟨hcs, _⟩ | ⟨x, l, c, m, n, D, Pl, hcs, _, hl, hm, hmm, hx, hall⟩
  · simp [Value.cells] at hcs
    obtain ⟨rfl, rfl, rfl⟩ := hcs
    exact ⟨[], ⟨none, 0, rfl, fun k hk => by simp at hk⟩, fun x hx => by simp at hx⟩
  · simp [Value.cells] at hcs
    obtain ⟨rfl, rfl, rfl⟩ := hcs
    simp only [if_true] at hmm
    subst hmm
    rw [cells9] at hall
    have each : ∀ i, i < m → ∃ q : ByteArray, W.cell? (x.add (i * 1)) = some (.string q) ∧ q.size ≤ maxLen := fun i hi => by
      obtain ⟨cs', h1, h2⟩ := hall i hi
      obtain ⟨_, hlen, hcell⟩ := World.cells?_some h1
      obtain ⟨q, e1, _, hw⟩ := DataW.trod_string Try.underlying9 h2
      subst e1
      have e0 := hcell 0 (by simp)
      rw [Deep.add_add] at e0
      exact ⟨q, by simpa using e0, hw⟩
    haveI : Inhabited ByteArray := ⟨⟨#[]⟩⟩
    obtain ⟨q, hq⟩ := Deep.choose_lt each
    rcases Nat.eq_zero_or_pos len with e | e
    · subst e
      exact ⟨[], ⟨_, _, rfl, fun k hk => by simp at hk⟩, fun x hx => by simp at hx⟩
    · have h0 := (hq 0 (by omega)).1
      rw [show x.add (0 * 1) = x by simp [Addr.add]] at h0
      have hsp := spot_none h0
      obtain ⟨b, off, r⟩ := x
      obtain rfl : r = none := hsp
      have hlen : ((List.range len).map q).length = len := by simp
      refine ⟨(List.range len).map q, ⟨_, _, by rw [hlen], fun k hk => ⟨b, off, rfl, cell_lt h0, ?_⟩⟩, fun s hs => ?_⟩
      · rw [hlen] at hk
        have h1 := (hq k (by omega)).1
        simpa [add_plain] using h1
      · simp only [List.mem_map, List.mem_range] at hs
        obtain ⟨i, hi, rfl⟩ := hs
        exact (hq i (by omega)).2
end Go.Proofs.Ytjcdloijodfpgaa
