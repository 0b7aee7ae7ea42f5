/- What one act makes of a table, and what stands between the acts of the law TableOne; no program but its contracts. -/
import Derived.Test.YtpihhlllembdeaaTbe
import Derived.Test.YtpihhlllembdeaaTbw
import Derived.Test.YtpihhlllembdeaaTbp
import Derived.Test.YtpihhlllembdeaaKru
import Derived.Test.YtpihhlllembdeaaOpt
import Derived.Test.YtpihhlllembdeaaTnw
namespace Go.Proofs.Ytpihhlllembdeaa
open Go.RowKit Go.Maps Go.ChangeMaps
set_option linter.unusedVariables false
set_option linter.unusedSimpArgs false
def kq (a : ActT) : Int := (wrap64 (a.kd.tmod 9 + 9)).tmod 9
def actT (T : Tb) (a : ActT) : Tb :=
  if kq a = 2 then tJoin T a.rn a.cl else if kq a = 3 ∨ kq a = 4 then tLeave T a.rn a.cl else if kq a = 5 then tRel T a.rn else if kq a = 6 then tFor T a.k else if kq a = 7 then tEnd T a.rn a.o else tBeg T a.k a.cl a.rf
section
variable {T : Tb} {M N : Nat}
theorem gn_goOn (T : Tb) (k j : K) : T.gn j ≤ (goOn T k).gn j ∧ (goOn T k).gn j ≤ T.gn j + 1 := by
  unfold goOn
  simp only
  split <;> omega
theorem gn_goneT (T : Tb) (R : Rn) (c : Bool) (j : K) : T.gn j ≤ (goneT T R c).gn j ∧ (goneT T R c).gn j ≤ T.gn j + 1 := by
  unfold goneT
  split
  · exact gn_goOn T _ j
  · omega
theorem fl_goneT (T : Tb) (R : Rn) (c : Bool) : (goneT T R c).fl = T.fl := by unfold goneT; split <;> rfl
theorem gn_act (T : Tb) (a : ActT) (j : K) : T.gn j ≤ (actT T a).gn j ∧ (actT T a).gn j ≤ T.gn j + 1 := by
  unfold actT
  split
  · unfold tJoin; split
    · omega
    · show T.gn j ≤ T.gn j ∧ T.gn j ≤ T.gn j + 1; omega
  · split
    · unfold tLeave; split
      · omega
      · exact gn_goneT (setS T a.rn _) _ _ j
    · split
      · unfold tRel; split
        · omega
        · exact gn_goneT (setS T a.rn _) _ _ j
      · split
        · unfold tFor; split
          · exact gn_goOn T _ j
          · omega
        · split
          · unfold tEnd; split
            · omega
            · split
              · show T.gn j ≤ T.gn j ∧ T.gn j ≤ T.gn j + 1; omega
              · omega
          · unfold tBeg; split
            · show T.gn j ≤ T.gn j ∧ T.gn j ≤ T.gn j + 1; omega
            · omega
theorem fl_act (T : Tb) (a : ActT) : (actT T a).fl = T.fl := by
  unfold actT
  split
  · unfold tJoin; split <;> rfl
  · split
    · unfold tLeave; split
      · rfl
      · exact fl_goneT (setS T a.rn _) _ _
    · split
      · unfold tRel; split
        · rfl
        · exact fl_goneT (setS T a.rn _) _ _
      · split
        · unfold tFor; split <;> rfl
        · split
          · unfold tEnd; split
            · rfl
            · split <;> rfl
          · unfold tBeg; split <;> rfl
theorem gn_forget {a : ActT} (h : kq a = 6) (hk : mayK a.k = true) : (actT T a).gn a.k = T.gn a.k + 1 := by
  unfold actT
  rw [h]
  simp [tFor, hk, goOn]
/-- Nobody joins what is cancelled. -/
theorem join_canc {n x : Int} (h : tJoinE T n x = 0) : cancOf T n = false := by
  unfold tJoinE at h
  unfold cancOf
  cases hr : runOf T n with
  | none => rfl
  | some p =>
    rw [hr] at h
    simp only at h ⊢
    unfold joinE at h
    cases hc : p.2.canc
    · rfl
    · rw [hc] at h
      repeat' (split at h <;> first | omega | skip)
      simp_all
/-- In a cancelled run nobody waits. -/
theorem canc_who (h : Ti T N) (hL : Lv T) {p : Rn × St} (hp : p ∈ T.rs) (hc : p.2.canc = true) : p.2.who = [] := ((h.live p hp).ca (hL p hp) hc).1
/-- The runs that were seen. -/
def seenF (l : List (Rn × St)) (x : KG) : Option Value := if l.any (fun p => decide (kOf p.1 = x.1) && decide (p.1.gen = x.2)) then some (.bool true) else none
theorem seen_next {T : Tb} (h : Ti T N) {j : Nat} {p : Rn × St} (hp : T.rs[j]? = some p) : seenF (T.rs.take j) (kOf p.1, p.1.gen) = none := by
  unfold seenF
  rw [if_neg]
  simp only [List.any_eq_true, not_exists, not_and, Bool.and_eq_true, decide_eq_true_eq]
  intro q hq e1 e2
  obtain ⟨i, hi, hqi⟩ := List.mem_iff_getElem.1 hq
  have hj := (List.getElem?_eq_some_iff.1 hp)
  rw [List.getElem_take] at hqi
  simp only [List.length_take] at hi
  have := List.pairwise_iff_getElem.1 h.one i j (by omega) hj.1 (by omega)
  rw [hqi, hj.2] at this
  exact this e1 e2
theorem seen_put {l : List (Rn × St)} {p : Rn × St} (x : KG) : kupd (seenF l) (kOf p.1, p.1.gen) (.bool true) x = seenF (l ++ [p]) x := by
  unfold kupd seenF
  rw [List.any_append]
  by_cases e : x = (kOf p.1, p.1.gen)
  · rw [if_pos e]
    subst e
    simp
  · rw [if_neg e]
    have : ¬ (kOf p.1 = x.1 ∧ p.1.gen = x.2) := fun h => e (Prod.ext h.1.symm h.2.symm)
    have h2 : ([p].any fun p => decide (kOf p.1 = x.1) && decide (p.1.gen = x.2)) = false := by
      simp only [List.any_cons, List.any_nil, Bool.or_false, Bool.and_eq_false_iff, decide_eq_false_iff_not]
      by_cases h1 : kOf p.1 = x.1
      · exact Or.inr (fun h2 => this ⟨h1, h2⟩)
      · exact Or.inl h1
    rw [h2, Bool.or_false]
end
def gV (G : K → Option Int) (k : K) : Option Value := (G k).map (fun v => .int .i64 v)
/-- What stands between two acts. -/
structure Os (w : World) (f : Int) (t gb : Nat) (F : List Nat) (T : Tb) (G : K → Option Int) (ng N : Nat) (wx : World) : Prop where
  tq : Tq wx t F T N
  fl : T.fl = f
  gm : MapK KC wx gb ng (gV G)
  gl : ∀ k v, G k = some v → v ≤ T.gn k
  fr : ∀ d, d ∈ F → w.heap.size ≤ d ∧ d ≠ gb
  gb : w.heap.size ≤ gb
  tt : Touch [] w wx
def OsX (w : World) (f : Int) (t gb N : Nat) (wx : World) : Prop := ∃ F T G ng, ng ≤ 4096 * N ∧ Os w f t gb F T G ng N wx
section
variable {w wx w' : World} {f : Int} {t gb : Nat} {F : List Nat} {T T' : Tb} {G : K → Option Int} {ng N M : Nat}
theorem Os.keep (h : Os w f t gb F T G ng N wx) (X : Touch [] wx w') : Os w f t gb F T G ng N w' :=
  ⟨h.tq.keep0 X, h.fl, h.gm.keep X (by simp), h.gl, h.fr, h.gb, h.tt.trans' X⟩
theorem Os.step (h : Os w f t gb F T G ng N wx) (E : TqE wx w' t F T' M) (hf : T'.fl = T.fl) (hg : ∀ k, T.gn k ≤ T'.gn k) : ∃ F', Os w f t gb F' T' G ng M w' ∧ Touch F wx w' ∧ Nf wx F F' := by
  obtain ⟨F', q1, q2, q3⟩ := E
  have hgl := h.gm.lt
  have hz := h.tt.size
  refine ⟨F', ⟨q1, hf.trans h.fl, h.gm.keep q2 (fun e => (h.fr _ e).2 rfl), fun k v e => Int.le_trans (h.gl k v e) (hg k), fun d hd => ?_, h.gb, h.tt.trans q2 (fun i hi => Or.inr (h.fr i hi).1)⟩, q2, q3⟩
  rcases q3 d hd with e | e
  · exact h.fr d e
  · exact ⟨by omega, by omega⟩
end
end Go.Proofs.Ytpihhlllembdeaa
