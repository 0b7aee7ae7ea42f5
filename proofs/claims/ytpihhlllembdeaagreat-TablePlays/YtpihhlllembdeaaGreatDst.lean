/- Steps of the document's table on lists: a run as it is said, a run more, a run less; no program but its types. -/
import Derived.Test.YtpihhlllembdeaaGreatDle
namespace Go.Proofs.YtpihhlllembdeaaGreat
open Go.RowKit Go.Maps Go.ChangeMaps
set_option linter.unusedVariables false
set_option linter.unusedSimpArgs false
/-- What the document's functions want of a table. -/
structure Dg (w : World) (lv gv : Value) (ds : List De) (gs : List (K × Int)) (T : Tb) (M : Nat) : Prop where
  dt : Dt w lv gv ds gs T
  ti : Ti T M
  lv : Lv T
  who : ∀ p ∈ T.rs, p.2.who.length ≤ M
  gl : gs.length ≤ M
  hM : M ≤ 1700000000000
theorem ord_ne {l : List (Rn × St)} (ho : l.Pairwise (fun p q => p.1.run < q.1.run)) {i j : Nat} {p q : Rn × St} (hi : l[i]? = some p) (hj : l[j]? = some q) (hn : i ≠ j) : p.1.run ≠ q.1.run := by
  obtain ⟨i1, rfl⟩ := List.getElem?_eq_some_iff.1 hi
  obtain ⟨j1, rfl⟩ := List.getElem?_eq_some_iff.1 hj
  rw [List.pairwise_iff_getElem] at ho
  rcases Nat.lt_or_gt_of_ne hn with h | h
  · have := ho i j i1 j1 h; omega
  · have := ho j i j1 i1 h; omega
theorem set_putS {l : List (Rn × St)} (ho : l.Pairwise (fun p q => p.1.run < q.1.run)) {i : Nat} {p : Rn × St} (hi : l[i]? = some p) (S : St) : l.set i (p.1, S) = l.map (putS p.1.run S) := by
  refine List.ext_getElem? (fun j => ?_)
  rw [List.getElem?_set, List.getElem?_map]
  by_cases e : i = j
  · subst e
    rw [if_pos rfl, if_pos (List.getElem?_eq_some_iff.1 hi).1, hi]
    simp [putS]
  · rw [if_neg e]
    cases hj : l[j]? with
    | none => rfl
    | some q =>
      have := ord_ne ho hi hj e
      simp only [Option.map_some, putS]
      rw [if_neg (fun e' => this e'.symm)]
theorem cut_out {l : List (Rn × St)} (ho : l.Pairwise (fun p q => p.1.run < q.1.run)) {i : Nat} {p : Rn × St} (hi : l[i]? = some p) : l.filter (fun q => decide (q.1.run ≠ p.1.run)) = l.take i ++ l.drop (i + 1) := by
  obtain ⟨i1, e⟩ := List.getElem?_eq_some_iff.1 hi
  have h1 : ∀ q ∈ l.take i, q.1.run ≠ p.1.run := fun q hq => by
    obtain ⟨j, hj, e'⟩ := List.mem_iff_getElem.1 hq
    rw [List.length_take] at hj
    rw [List.getElem_take] at e'
    exact ord_ne ho (List.getElem?_eq_some_iff.2 ⟨by omega, e'⟩) hi (by omega)
  have h2 : ∀ q ∈ l.drop (i + 1), q.1.run ≠ p.1.run := fun q hq => by
    obtain ⟨j, hj, e'⟩ := List.mem_iff_getElem.1 hq
    rw [List.length_drop] at hj
    rw [List.getElem_drop] at e'
    exact ord_ne ho (List.getElem?_eq_some_iff.2 ⟨by omega, e'⟩) hi (by omega)
  conv => lhs; rw [← List.take_append_drop i l, ← List.getElem_cons_drop (h := i1), e]
  rw [List.filter_append, List.filter_cons_of_neg (by simp), List.filter_eq_self.2 (fun q hq => by simp [h1 q hq]), List.filter_eq_self.2 (fun q hq => by simp [h2 q hq])]
theorem desOf_set (ds : List De) (i : Nat) (d : De) : desOf (ds.set i d) = (desOf ds).set i (d.R, d.S) := by unfold desOf; rw [List.map_set]
theorem desOf_at {ds : List De} {i : Nat} {d : De} (h : ds[i]? = some d) : (desOf ds)[i]? = some (d.R, d.S) := by unfold desOf; rw [List.getElem?_map, h]; rfl
theorem desOf_at' {ds : List De} {i : Nat} {p : Rn × St} (h : (desOf ds)[i]? = some p) : ∃ d, ds[i]? = some d ∧ p = (d.R, d.S) := by
  unfold desOf at h
  rw [List.getElem?_map] at h
  obtain ⟨d, h1, h2⟩ := Option.map_eq_some_iff.1 h
  exact ⟨d, h1, h2.symm⟩
section
variable {w w' : World} {lv gv lv' gv' : Value} {ds : List De} {gs gs' : List (K × Int)} {T T' : Tb} {M i : Nat} {d : De}
theorem Dg.vs (h : Dg w lv gv ds gs T M) : ∀ d ∈ ds, ∃ a m c, d.v = .slice a m c := fun d hd => by
  obtain ⟨a, c, e⟩ := own_form (h.dt.wr d hd)
  exact ⟨a, _, c, e⟩
theorem Dg.len (h : Dg w lv gv ds gs T M) : ds.length ≤ 4096 := by have := h.dt.len; have := h.ti.len; have := h.ti.fl.2; omega
theorem Dg.mem (h : Dg w lv gv ds gs T M) (hd : d ∈ ds) : (d.R, d.S) ∈ T.rs := by rw [h.dt.rs]; exact List.mem_map.2 ⟨d, hd, rfl⟩
theorem Dg.run (h : Dg w lv gv ds gs T M) (n : Int) : (posN (desOf ds) n = -1 ∧ runOf T n = none) ∨ ∃ i d, posN (desOf ds) n = ((i : Nat) : Int) ∧ ds[i]? = some d ∧ d.R.run = n ∧ runOf T n = some (d.R, d.S) := by
  rcases posN_lt (l := desOf ds) (n := n) with e | ⟨i, p, h1, h2, h3, h4⟩
  · refine Or.inl ⟨e, ?_⟩
    cases hr : runOf T n with
    | none => rfl
    | some p =>
      exfalso
      obtain ⟨hm, e2⟩ := runOf_mem hr
      rw [h.dt.rs] at hm
      generalize desOf ds = l at *
      induction l with
      | nil => cases hm
      | cons a r ih =>
        unfold posN at e
        split at e
        · omega
        · rename_i ne
          split at e
          · rename_i hlt
            rcases List.mem_cons.1 hm with e3 | e3
            · subst e3; exact ne e2
            · have : posN r n = -1 := by
                rcases posN_lt (l := r) (n := n) with q | ⟨j, _, q, _⟩
                · exact q
                · omega
              exact ih this e3
          · omega
  · obtain ⟨d, hd, rfl⟩ := desOf_at' h2
    refine Or.inr ⟨i, d, h1, hd, h3, ?_⟩
    have := runOf_of_mem h.ti (h.mem (List.mem_of_getElem? hd))
    simp only at this h3
    rw [← h3]
    exact this
/-- A run stands otherwise. -/
theorem Dg.set (h : Dg w lv gv ds gs T M) (t : Touch [] w w') (hd : ds[i]? = some d) {S : St} {v : Value} (hl : w'.ownsRow w.heap.size 78 8 lv' ds.length ((ds.set i ⟨d.R, S, v⟩).flatMap row8)) (hw : Wv w' ⟨d.R, S, v⟩) (hvb : ∀ q, v.ownBlock = some q → d.v.ownBlock = some q ∨ w.heap.size ≤ q) (hg : w'.ownsRow 0 122 3 gv' gs'.length (gs'.flatMap row3)) (hgb : ∀ q, gv'.ownBlock = some q → gv.ownBlock = some q ∨ w.heap.size ≤ q)
    (hT : T'.rs = T.rs.map (putS d.R.run S)) (hgo : ∀ k, ofL gs' k = T'.gn k) : DtE w w' lv gv ds lv' gv' gs' T' := by
  have hdm := List.mem_of_getElem? hd
  refine ⟨ds.set i ⟨d.R, S, v⟩, ⟨?_, ?_, fun x hx => ?_, hg, hgo⟩, t, fun b hb => ?_⟩
  · rw [hT, desOf_set, h.dt.rs]
    have := set_putS (by have := h.ti.ord; rwa [h.dt.rs] at this) (desOf_at hd) S
    exact this.symm
  · rw [List.length_set]
    exact own_base hl (Nat.zero_le _)
  · rcases List.mem_or_eq_of_mem_set hx with e | e
    · exact (h.dt.wr x e).keep0 t
    · rw [e]; exact hw
  · rcases mem_fpD.1 hb with e | e | ⟨x, hx, e⟩
    · exact Or.inr (hl.lt b e).1
    · exact (hgb b e).imp (fun e => mem_fpD.2 (Or.inr (Or.inl e))) id
    · rcases List.mem_or_eq_of_mem_set hx with q | q
      · exact Or.inl (mem_fpD.2 (Or.inr (Or.inr ⟨x, q, e⟩)))
      · subst q
        exact (hvb b e).imp (fun e => mem_fpD.2 (Or.inr (Or.inr ⟨d, hdm, e⟩))) id
theorem Dg.stay (h : Dg w lv gv ds gs T M) (t : Touch [] w w') : DtE w w' lv gv ds lv gv gs T := ⟨ds, h.dt.keep0 t, t, fun b hb => Or.inl hb⟩
theorem Dg.isC (h : Dg w lv gv ds gs T M) (R : Rn) : isC gs R = isCur T R := by unfold Go.Proofs.YtpihhlllembdeaaGreat.isC isCur; rw [h.dt.go]
theorem Dg.onG (h : Dg w lv gv ds gs T M) (k : K) (b : Bool) (T' : Tb) (hT : T'.gn = T.gn) (j : K) : ofL (onG gs k b) j = (if b then goOn T' k else T').gn j := by
  cases b
  · simp only [Go.Proofs.YtpihhlllembdeaaGreat.onG, Bool.false_eq_true, if_false]
    rw [hT]
    exact h.dt.go j
  · simp only [Go.Proofs.YtpihhlllembdeaaGreat.onG, if_true, goOn]
    rw [ofL_on, hT, h.dt.go, h.dt.go]
    by_cases e : j = k
    · subst e; simp
    · rw [if_neg e, if_neg e]
theorem onG_len (gs : List (K × Int)) (k : K) (b : Bool) : (Go.Proofs.YtpihhlllembdeaaGreat.onG gs k b).length ≤ gs.length + 1 := by
  have := onP_len gs k (Nat.le_refl gs.length)
  rw [onP_all gs k rfl] at this
  cases b
  · simp [Go.Proofs.YtpihhlllembdeaaGreat.onG]
  · simpa [Go.Proofs.YtpihhlllembdeaaGreat.onG] using this
end
end Go.Proofs.YtpihhlllembdeaaGreat
