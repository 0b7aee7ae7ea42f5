/- A loop over a map, by plain keys: no conditions. -/
import Derived.Test.YtibgfkjhohgkhaaMpk
import Derived.Maps.RangeWalk
namespace Go.Proofs.Ytibgfkjhohgkhaa
open Go.RowKit Go.Maps Go.ChangeMaps Go.WideMaps
set_option linter.unusedVariables false
section
variable {P : Program} {kt : TypeId} {K : Type} (c : KK P kt K)
/-- Under way: which keys are still to come, and how many. -/
def RgK (w : World) (b r n : Nat) (f : K → Option Value) (left : K → Prop) (cnt : Nat) : Prop :=
  ∃ (D : DataW Value) (lf : Lit → Bool), w.ranges P kt HR b r n D lf cnt ∧ Dm c D f ∧ (∀ k, left k → c.ok k) ∧ ∀ k, c.ok k → (left k ↔ lf (c.lit k) = true)
variable {c} {w w' : World} {b r n cnt : Nat} {f : K → Option Value} {left : K → Prop} {t e : TypeId} {F : List Nat}
theorem RgK.ne (h : RgK c w b r n f left cnt) : r ≠ b := by
  obtain ⟨D, lf, h1, _⟩ := h
  exact h1.ne
theorem RgK.lt (h : RgK c w b r n f left cnt) : r < w.heap.size := by
  obtain ⟨D, lf, h1, _⟩ := h
  exact h1.lt
theorem RgK.count (h : RgK c w b r n f left cnt) : w.rangeLeft b r = cnt := by
  obtain ⟨D, lf, h1, _⟩ := h
  exact h1.left_eq
theorem RgK.keep (h : RgK c w b r n f left cnt) (T : Touch F w w') (hb : ¬ b ∈ F) (hr : ¬ r ∈ F) : RgK c w' b r n f left cnt := by
  obtain ⟨D, lf, h1, h2⟩ := h
  refine ⟨D, lf, ?_, h2⟩
  have q1 := h1.owns.lt
  have q2 := h1.lt
  obtain ⟨es, clock, since, seen, c0, hb', Ft, hs, hD, hr', rest⟩ := h1
  exact ⟨es, clock, since, seen, c0, (T.block b q1 hb).trans hb', Ft, hs, hD, (T.block r q2 hr).trans hr', rest⟩
/-- The loop begins. -/
theorem MapK.range (h : MapK c w b n f) (ht : P.underlying t = some (.map kt e)) :
    ∃ w', (Instr.range t (.map (some b))).run P w = .ok (.pointer (some ⟨w.heap.size, 0, none⟩)) w' ∧ RgK c w' b w.heap.size n f (fun k => c.ok k ∧ (f k).isSome = true) n ∧ Touch [] w w' ∧ w'.heap.size = w.heap.size + 1 := by
  obtain ⟨D, h1, h2, h3⟩ := h
  obtain ⟨w', r1, r2, r3, r4⟩ := h1.range c.keyed ht
  rw [h2] at r2
  refine ⟨w', r1, ⟨D, _, r2, h3, fun k hk => hk.1, fun k hk => ?_⟩, ⟨r3.os, r3.tape, r3.output, r3.size, fun k hk _ => r3.block k hk (by simp)⟩, r4⟩
  rw [(h3.at_ k hk).1]
  exact ⟨fun q => q.2, fun q => ⟨hk, q⟩⟩
/-- The loop's step. -/
theorem RgK.next (h : RgK c w b r n f left cnt) (ty : TypeId) :
    (cnt = 0 ∧ (∀ k, ¬ left k) ∧ (Instr.next (.pointer (some ⟨r, 0, none⟩)) false ty).run P w = .ok (.tuple #[.bool false]) w) ∨
    ∃ k v w' cnt', c.ok k ∧ left k ∧ f k = some v ∧ (Instr.next (.pointer (some ⟨r, 0, none⟩)) false ty).run P w = .ok (.tuple #[.bool true, c.kv k, v]) w' ∧
      RgK c w' b r n f (fun j => left j ∧ j ≠ k) cnt' ∧ cnt' < cnt ∧ Touch [r] w w' ∧ w'.heap.size = w.heap.size ∧ (Instr.entry (.pointer (some ⟨r, 0, none⟩))).run P w' = .ok (.tuple #[c.kv k, v]) w' := by
  obtain ⟨D, lf, h1, h2, h3, h4⟩ := h
  rcases h1.next c.keyed ty with ⟨q1, q2, q3⟩ | ⟨key, v, kl, y, w', cnt', hkey, hlk, hv, hat, hrun, hrg, hlt, hgr, hsz, hen⟩
  · refine Or.inl ⟨q1, fun k hk => ?_, q3⟩
    have := (h4 k (h3 k hk)).1 hk
    rw [q2] at this
    cases this
  · have hhas : Maps.has D kl = true := by
      obtain ⟨es, clock, since, seen, c0, hb, Ft, hs, hD, hr, hold, hc, hl1, hl2, rest⟩ := h1
      obtain ⟨x, hx, hk⟩ := hl2 kl hlk
      rw [hD]
      obtain ⟨y', hy'⟩ := Ft.reads x hx
      exact List.any_eq_true.2 ⟨WideElems.rg P kt HR x, mem_sorted.2 (List.mem_map.2 ⟨x, hx, rfl⟩), by rw [hk]; exact WideAt.sameKey_self (c.keyed.key hkey)⟩
    obtain ⟨k, hk, rfl⟩ := h2.dom kl hhas
    have ekey : key = c.kv k := c.keyed.inj hkey (c.key hk)
    subst ekey
    have hv' : y.1 = .held v := by
      simp only [HR, Option.some.injEq] at hv
      rw [← hv]
    have hfk : f k = some v := by
      have a1 := (h2.at_ k hk).1
      rw [hhas] at a1
      obtain ⟨u, hu⟩ := Option.isSome_iff_exists.1 a1.symm
      have a2 := (h2.at_ k hk).2 v
      rw [hat, hv', hu] at a2
      simp only [Option.getD_some, DataW.held.injEq] at a2
      rw [hu, a2]
    refine Or.inr ⟨k, v, w', cnt', hk, (h4 k hk).2 hlk, hfk, hrun, ⟨D, _, hrg, h2, fun j hj => h3 j hj.1, fun j hj => ?_⟩, hlt, ⟨hgr.os, hgr.tape, hgr.output, hgr.size, fun i hi hn => hgr.block i hi (fun e => hn (by cases e; simp))⟩, hsz, hen⟩
    simp only [Bool.and_eq_true, Bool.not_eq_true']
    constructor
    · rintro ⟨g1, g2⟩
      exact ⟨(h4 j hj).1 g1, Maps.sameKey_ne (c.ne hj hk g2)⟩
    · rintro ⟨g1, g2⟩
      refine ⟨(h4 j hj).2 g1, fun e => ?_⟩
      subst e
      rw [WideAt.sameKey_self (c.isKey hj)] at g2
      cases g2
end
end Go.Proofs.Ytibgfkjhohgkhaa
