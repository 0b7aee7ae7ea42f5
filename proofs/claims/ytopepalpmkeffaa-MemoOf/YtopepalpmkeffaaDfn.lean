/- A slice of the document's entries as a plain list; the contracts of its Find, below and How; no conditions but those that each states. -/
import Derived.Test.YtopepalpmkeffaaAlw
import Derived.Test.YtopepalpmkeffaaSmr
import Derived.Test.YtopepalpmkeffaaChk
namespace Go.Proofs.Ytopepalpmkeffaa
open Go.RowKit Go.Sort Go.Maps Go.ChangeMaps Go.WideMaps
set_option linter.unusedVariables false
set_option linter.unusedSimpArgs false
theorem same_bytes (s t : ByteArray) : (s.toList == t.toList) = decide (s = t) := by
  rw [ByteArray.toList_eq, ByteArray.toList_eq]
  by_cases h : s = t
  · subst h; simp
  · rw [decide_eq_false h]
    simp only [beq_eq_false_iff_ne, ne_eq]
    intro e
    apply h
    cases s; cases t
    simp only [Array.toList_inj] at e
    simp_all
theorem eqk57 (w : World) (x y : K) : (binOp .eql 57 (kv x) (kv y)).run Try.prog w = .ok (.bool (decide (x = y))) w := by
  unfold kv
  obtain ⟨a, s⟩ := x
  obtain ⟨b, t⟩ := y
  by_cases h1 : a = b
  · by_cases h2 : s = t
    · go_simp
    · have h3 : (s.toList == t.toList) = false := by rw [same_bytes]; exact decide_eq_false h2
      go_simp
  · go_simp
theorem neqk57 (w : World) (x y : K) : (binOp .neq 57 (kv x) (kv y)).run Try.prog w = .ok (.bool (decide (x ≠ y))) w := by
  unfold kv
  obtain ⟨a, s⟩ := x
  obtain ⟨b, t⟩ := y
  by_cases h1 : a = b
  · by_cases h2 : s = t
    · go_simp
    · have h3 : (s.toList == t.toList) = false := by rw [same_bytes]; exact decide_eq_false h2
      go_simp
  · go_simp
/-- Entries that lie in block g from off on. -/
def At7 (w : World) (t g off : Nat) (xs : List En) : Prop := ∃ cs, w.heap[g]? = some (.cells cs t (0, 0)) ∧ ∀ i (h : i < xs.length) j, j < 7 → cs[off + (i * 7 + j)]? = (nl xs[i])[j]?
/-- A slice of entries of type t that can be read. -/
def RN (t : Nat) (w : World) (v : Value) (xs : List En) : Prop := ∃ a c, v = .slice a xs.length c ∧ xs.length ≤ c ∧ (0 < xs.length → ∃ g off, a = some ⟨g, off, none⟩ ∧ At7 w t g off xs)
section
variable {t : Nat} {w w' : World} {g off : Nat} {v : Value} {xs : List En}
theorem At7.cell (h : At7 w t g off xs) (i j : Nat) (hi : i < xs.length) (hj : j < 7) {u : Value} (hu : (nl xs[i])[j]? = some u) : w.cell? ⟨g, off + (i * 7 + j), none⟩ = some u := by
  obtain ⟨cs, h1, h2⟩ := h
  have h3 := h2 i hi j hj
  rw [hu] at h3
  simp [World.cell?, h1, h3]
theorem At7.keep (h : At7 w t g off xs) (hk : w'.heap[g]? = w.heap[g]?) : At7 w' t g off xs := by
  obtain ⟨cs, h1, h2⟩ := h
  exact ⟨cs, hk.trans h1, h2⟩
theorem RN.keepK (h : RN t w v xs) (hk : ∀ (r : Nat) (cs : Array Value), w.heap[r]? = some (.cells cs t (0, 0)) → w'.heap[r]? = some (.cells cs t (0, 0))) : RN t w' v xs := by
  obtain ⟨a, c, h1, h2, h3⟩ := h
  refine ⟨a, c, h1, h2, fun hp => ?_⟩
  obtain ⟨g, off, h4, cs, h5, h6⟩ := h3 hp
  exact ⟨g, off, h4, cs, hk g cs h5, h6⟩
theorem RN.keep (h : RN t w v xs) (ht : Touch [] w w') : RN t w' v xs := h.keepK (fun r cs hr => ht.keep hr (by simp))
theorem RN.nil (t : Nat) (w : World) : RN t w (.slice none 0 0) [] := ⟨none, 0, rfl, Nat.le_refl _, fun h => by simp at h⟩
theorem RN.own {base : Nat} (h : w.ownsRow base t 7 v xs.length (cellsN xs)) : RN t w v xs := by
  have h' := h
  obtain ⟨h1, h2 | ⟨g, cap, cur, rfl, hg, hc, hn, hm, hs, ht⟩⟩ := h
  · obtain ⟨h2, h3⟩ := h2
    exact ⟨none, 0, by rw [h3]; exact h2, by omega, fun h => by omega⟩
  · refine ⟨_, cap, rfl, hn, fun hp => ⟨g, 0, rfl, cur, hc, fun i hi j hj => ?_⟩⟩
    have hl : (cellsN xs).length = xs.length * 7 := h1
    have e : ∀ q, q < xs.length * 7 → cur[q]? = (cellsN xs)[q]? := fun q hq => by
      rw [← ht, List.getElem?_take, if_pos hq, Array.getElem?_toList]
    rw [Nat.zero_add, e _ (by omega), cellsN_at xs i j hi hj]
/-- The first k entries of a slice. -/
theorem RN.take {a : Option Addr} {n c : Nat} (h : RN t w (.slice a n c) xs) (k : Nat) (hk : k ≤ xs.length) : RN t w (.slice a k c) (xs.take k) := by
  obtain ⟨a', c', h1, h2, h3⟩ := h
  injection h1 with e1 e2 e3
  subst e1 e2 e3
  have hl : (xs.take k).length = k := by rw [List.length_take]; omega
  refine ⟨a, c, by rw [hl], by omega, fun hp => ?_⟩
  obtain ⟨g, off, h4, cs, h5, h6⟩ := h3 (by omega)
  refine ⟨g, off, h4, cs, h5, fun i hi j hj => ?_⟩
  rw [hl] at hi
  rw [h6 i (by omega) j hj]
  simp
end
theorem below71 (w : World) (a b c : Int) (ha : 0 ≤ a) (ha2 : a ≤ 4611686018427387904) (hb : 0 ≤ b) (hb2 : b ≤ 9223372036854775807) : Calls Try.prog 71 #[.int .i64 a, .int .i64 b, .int .i64 c] w fun e w' => e = .returned (.bool (decide (a < b) || decide (a - b < c))) ∧ w' = w := by
  have hw : IntKind.i64.wrap (a - b) = a - b := by simp [IntKind.wrap, IntKind.bits, IntKind.signed, IntKind.min, IntKind.max]; omega
  by_cases h : a < b
  · go_enter Try.func71, Try.ntmps71
    go_wp2
    go_ret
    exact ⟨by simp [h], rfl⟩
  · go_enter Try.func71, Try.ntmps71
    go_wp2
    go_ret
    exact ⟨by simp; intro h2; omega, rfl⟩
end Go.Proofs.Ytopepalpmkeffaa
