/- Entries appended to a slice of one's own; the contract of the document's Keep; there are at most seventy thousand entries. -/
import Derived.Test.YtopepalpmkeffaaDus
import Derived.Test.YtopepalpmkeffaaKep
import Derived.Test.YtopepalpmkeffaaNew
namespace Go.Proofs.Ytopepalpmkeffaa
open Go.RowKit Go.Sort Go.Maps Go.ChangeMaps Go.WideMaps
set_option linter.unusedVariables false
set_option linter.unusedSimpArgs false
theorem run_append_none {P : Program} {w : World} (base : Nat) (t ty e : TypeId) (i : TypeInfo) (size : Nat) (ht : P.underlying t = some (.slice e)) (hi : P.info? e = some i) (c : Nat)
    (v : Value) (n : Nat) (xs : List Value) (hown : w.ownsRow base e size v n xs) :
    (Builtin.append_ #[t, t] ty #[v, .slice none 0 c]).run P w = .ok v w := by
  rcases hown.2 with ⟨rfl, rfl⟩ | ⟨g, cap, cur, rfl, _, _, hnc, _⟩
  · simp [Builtin.append_, run_underlying ht, sizeOf, typeInfo, hi, Builtin.lenOf, Builtin.firstCells]
  · simp [Builtin.append_, run_underlying ht, sizeOf, typeInfo, hi, Builtin.lenOf, Builtin.firstCells, hnc, storeCells]
/-- append(s, l...) where s is one's own and l can be read. -/
theorem run_append_all {w : World} {base n : Nat} {v u : Value} {L : List Value} {xs : List En} (ty : TypeId) (ho : w.ownsRow base 62 7 v n L) (hr : RN 62 w u xs) (hb : base ≤ w.heap.size) (hn : n + xs.length ≤ 1000000) :
    ∃ v' w', (Builtin.append_ #[34, 34] ty #[v, u]).run Try.prog w = .ok v' w' ∧ w'.ownsRow base 62 7 v' (n + xs.length) (L ++ cellsN xs) ∧ Touch v.ownBlock.toList w w' ∧ (v'.ownBlock = v.ownBlock ∨ v'.ownBlock = some w.heap.size) := by
  obtain ⟨i3, hf, hz0, hz1, hz2⟩ := info_parts info62
  obtain ⟨a, c, rfl, hc, hg⟩ := hr
  cases a with
  | none =>
    have h0 : xs.length = 0 := by
      rcases Nat.eq_zero_or_pos xs.length with e | e
      · exact e
      · obtain ⟨g, off, h1, _⟩ := hg e
        cases h1
    have hx : xs = [] := List.eq_nil_of_length_eq_zero h0
    subst hx
    refine ⟨v, w, run_append_none base 34 ty 62 i3 7 Try.underlying34 hf c v n L ho, ?_, Touch.refl _ _, Or.inl rfl⟩
    simpa [cellsN] using ho
  | some ad =>
    have hnews : ∀ j y, (cellsN xs)[j]? = some y → w.cell? (ad.add j) = some y := fun j y hy => by
      rcases Nat.eq_zero_or_pos xs.length with e | e
      · have hx : xs = [] := List.eq_nil_of_length_eq_zero e
        subst hx
        simp [cellsN] at hy
      · obtain ⟨g, off, h1, h2⟩ := hg e
        cases h1
        exact h2.news j y hy
    obtain ⟨v', w', hrun, h2, h3, _, h5⟩ := run_append_own_at (P := Try.prog) w base 34 ty 62 i3 zk7 7 64 Try.underlying34 hf hz0 hz1 hz2 rfl (by decide) v n L ho ad xs.length c (cellsN xs) (cellsN_len xs) hnews (cellsN_one' xs) (by unfold maxLen; omega) (by omega) hb
    exact ⟨v', w', hrun, h2, (Touch.refl _ _).grown h3 (fun k hk => Or.inl (by simp [hk])), h5⟩
theorem step_append_all (w : World) {ops : Array Oper} {o : Oper} {a : Go.Act} {K : Go.Act → World → Prop} {Q : Exit → Go.Act → World → Prop} {E : Prop} (hgd : o.guard = none) (s x : Operand)
    (ho : o.op = .call { callee := .builtin .append, args := #[s, x], argTypes := #[34, 34] })
    (base : Nat) (v : Value) (n : Nat) (L : List Value) (hs : a.eval s = v) (hown : w.ownsRow base 62 7 v n L) (u : Value) (xs : List En) (hx : a.eval x = u) (hr : RN 62 w u xs) (hb : base ≤ w.heap.size) (hn : n + xs.length ≤ 1000000)
    (h : ∀ v' w', w'.ownsRow base 62 7 v' (n + xs.length) (L ++ cellsN xs) → Touch v.ownBlock.toList w w' → (v'.ownBlock = v.ownBlock ∨ v'.ownBlock = some w.heap.size) → K (a.put o.dst v') w') :
    if Region.wanted o (yielded ops a.tmps) = true then Oper.wp Try.prog o a w K Q else E := by
  have hw : Region.wanted o (yielded ops a.tmps) = true := by simp [Region.wanted, hgd]
  rw [if_pos hw]
  obtain ⟨v', w', hrun, h2, h3, h4⟩ := run_append_all o.type hown hr hb hn
  unfold Oper.wp execOp
  simp only [ho, resolve, invoke, builtin, Sem.run_bind, Sem.run_pure, Result.andThen_ok, List.map_toArray, List.map_cons, List.map_nil, hs, hx, hrun]
  exact h v' w' h2 h3 h4
end Go.Proofs.Ytopepalpmkeffaa
