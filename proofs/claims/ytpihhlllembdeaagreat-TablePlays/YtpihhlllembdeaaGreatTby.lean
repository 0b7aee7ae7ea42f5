/- A table of runs as a plain state, and its steps; no program. -/
import Derived.Test.YtpihhlllembdeaaGreatMpk
import Derived.Test.YtpihhlllembdeaaGreatNew
namespace Go.Proofs.YtpihhlllembdeaaGreat
set_option linter.unusedVariables false
structure Tb where
  fl : Int
  bg : Int
  rs : List (Rn × St)
  gn : K → Int
def kOf (R : Rn) : K := (R.sp, R.nm)
def runOf (T : Tb) (n : Int) : Option (Rn × St) := T.rs.find? (fun p => decide (p.1.run = n))
def isCur (T : Tb) (R : Rn) : Bool := decide (R.gen = T.gn (kOf R))
def curL (T : Tb) (k : K) (l : List (Rn × St)) : Option (Rn × St) := l.find? (fun p => decide (kOf p.1 = k) && isCur T p.1)
def curOf (T : Tb) (k : K) : Option Rn := (curL T k T.rs).map (·.1)
def putS (n : Int) (S : St) (p : Rn × St) : Rn × St := if p.1.run = n then (p.1, S) else p
def setS (T : Tb) (n : Int) (S : St) : Tb := { T with rs := T.rs.map (putS n S) }
def goOn (T : Tb) (k : K) : Tb := { T with gn := fun j => if j = k then T.gn j + 1 else T.gn j }
def outR (T : Tb) (n : Int) : Tb := { T with rs := T.rs.filter (fun p => decide (p.1.run ≠ n)) }
def goneB (T : Tb) (R : Rn) (c : Bool) : Bool := c && isCur T R
def goneT (T : Tb) (R : Rn) (c : Bool) : Tb := if goneB T R c then goOn T (kOf R) else T
def tJoinE (T : Tb) (n x : Int) : Int := match runOf T n with | none => 122 | some p => joinE p.2 x
def tJoin (T : Tb) (n x : Int) : Tb := match runOf T n with | none => T | some p => setS T n (joinS p.2 x)
def tLeaveE (T : Tb) (n x : Int) : Int := match runOf T n with | none => 122 | some p => leaveE p.2 x
def tLeaveC (T : Tb) (n x : Int) : Bool := match runOf T n with | none => false | some p => leaveB p.2 x
def tLeaveA (T : Tb) (n x : Int) : Bool := match runOf T n with | none => false | some p => goneB T p.1 (leaveB p.2 x)
def tLeave (T : Tb) (n x : Int) : Tb := match runOf T n with | none => T | some p => goneT (setS T n (leaveS p.2 x)) p.1 (leaveB p.2 x)
def tRelE (T : Tb) (n : Int) : Int := match runOf T n with | none => 122 | some _ => 0
def tRelC (T : Tb) (n : Int) : Bool := match runOf T n with | none => false | some p => relB p.2
def tRelA (T : Tb) (n : Int) : Bool := match runOf T n with | none => false | some p => goneB T p.1 (relB p.2)
def tRel (T : Tb) (n : Int) : Tb := match runOf T n with | none => T | some p => goneT (setS T n (relS p.2)) p.1 (relB p.2)
def mayK (k : K) : Bool := decide (k.2.size ≤ 64)
def tFor (T : Tb) (k : K) : Tb := if mayK k then goOn T k else T
def tForN (T : Tb) (k : K) : Int := if mayK k then T.gn k + 1 else 0
def tForR (T : Tb) (k : K) : Int := if mayK k then ((curOf T k).map Rn.run).getD 0 else 0
def tForE (k : K) : Int := if mayK k then 0 else 20
def tEndE (T : Tb) (n : Int) (o : O) : Int := match runOf T n with | none => 122 | some p => endE p.2 o
def tEndL (T : Tb) (n : Int) (o : O) : List Int := match runOf T n with | none => [] | some p => endL p.2 o
def tEndC (T : Tb) (n : Int) (o : O) : Bool := match runOf T n with | none => false | some p => decide (endE p.2 o = 0) && isCur T p.1
def tEnd (T : Tb) (n : Int) (o : O) : Tb := match runOf T n with | none => T | some p => if endE p.2 o = 0 then outR T n else T
def badC (x : Int) (rf : Bool) : Bool := if rf then decide (x ≠ 0) else decide (x < 1)
def tBegE (T : Tb) (k : K) (x : Int) (rf : Bool) : Int := if !mayK k then 20 else if badC x rf then 1 else if (curOf T k).isSome then 121 else if T.fl ≤ T.rs.length then 120 else 0
def tBegR (T : Tb) (k : K) (rf : Bool) : Rn := ⟨T.bg + 1, k.1, k.2, T.gn k, rf⟩
def tBegN (T : Tb) (k : K) (x : Int) (rf : Bool) : Int := if tBegE T k x rf = 0 then T.bg + 1 else 0
def tBeg (T : Tb) (k : K) (x : Int) (rf : Bool) : Tb := if tBegE T k x rf = 0 then { T with bg := T.bg + 1, rs := T.rs ++ [(tBegR T k rf, S0 (tBegR T k rf) x)] } else T
/-- What holds of every table that stands behind at most M steps. -/
structure Ti (T : Tb) (M : Nat) : Prop where
  ord : T.rs.Pairwise (fun p q => p.1.run < q.1.run)
  rng : ∀ p ∈ T.rs, 1 ≤ p.1.run ∧ p.1.run ≤ T.bg
  gen : ∀ p ∈ T.rs, 0 ≤ p.1.gen ∧ p.1.gen ≤ T.gn (kOf p.1)
  one : T.rs.Pairwise (fun p q => kOf p.1 = kOf q.1 → p.1.gen ≠ q.1.gen)
  live : ∀ p ∈ T.rs, Iv p.2
  ok : ∀ p ∈ T.rs, Ok (kOf p.1)
  len : (T.rs.length : Int) ≤ T.fl
  fl : 1 ≤ T.fl ∧ T.fl ≤ 4096
  bg : 0 ≤ T.bg ∧ T.bg ≤ M
  gn : ∀ k, 0 ≤ T.gn k ∧ T.gn k ≤ M
section
variable {T : Tb} {M N : Nat} {n : Int} {p : Rn × St}
theorem Ti.mono (h : Ti T M) (hm : M ≤ N) : Ti T N := ⟨h.ord, h.rng, h.gen, h.one, h.live, h.ok, h.len, h.fl, ⟨h.bg.1, by have := h.bg.2; omega⟩, fun k => ⟨(h.gn k).1, by have := (h.gn k).2; omega⟩⟩
theorem runOf_mem (h : runOf T n = some p) : p ∈ T.rs ∧ p.1.run = n := ⟨List.mem_of_find?_eq_some h, by have := List.find?_some h; simpa using this⟩
theorem runOf_of_mem (h : Ti T M) (hp : p ∈ T.rs) : runOf T p.1.run = some p := by
  unfold runOf
  have ho := h.ord
  generalize T.rs = l at hp ho
  induction l with
  | nil => cases hp
  | cons a r ih =>
    obtain ⟨h1, h2⟩ := List.pairwise_cons.1 ho
    rcases List.mem_cons.1 hp with e | e
    · subst e; simp
    · have := h1 p e
      rw [List.find?_cons_of_neg (by simp; omega)]
      exact ih e h2
theorem runOf_none (h : runOf T n = none) : ∀ p ∈ T.rs, p.1.run ≠ n := fun p hp e => by
  have := List.find?_eq_none.1 h p hp
  simp [e] at this
theorem putS_fst (S : St) (p : Rn × St) : (putS n S p).1 = p.1 := by unfold putS; split <;> rfl
theorem rs_setS (S : St) : (setS T n S).rs.map (·.1) = T.rs.map (·.1) := by
  simp only [setS, List.map_map]
  exact List.map_congr_left (fun p _ => putS_fst S p)
/-- A run's present is told by its key and generation alone. -/
theorem curOf_eq (T : Tb) (k : K) : curOf T k = (T.rs.map (·.1)).find? (fun R => decide (kOf R = k) && isCur T R) := by
  unfold curOf curL
  rw [List.find?_map]
  rfl
theorem curOf_setS (S : St) (k : K) : curOf (setS T n S) k = curOf T k := by
  rw [curOf_eq, curOf_eq, rs_setS]
  rfl
theorem isCur_setS (S : St) (R : Rn) : isCur (setS T n S) R = isCur T R := rfl
theorem curOf_some {k : K} {R : Rn} (h : curOf T k = some R) : (∃ S, (R, S) ∈ T.rs) ∧ kOf R = k ∧ R.gen = T.gn k := by
  unfold curOf at h
  obtain ⟨p, hp, rfl⟩ := Option.map_eq_some_iff.1 h
  have h1 := List.mem_of_find?_eq_some hp
  have h2 := List.find?_some hp
  simp only [Bool.and_eq_true, decide_eq_true_eq, isCur] at h2
  exact ⟨⟨p.2, h1⟩, h2.1, h2.1 ▸ h2.2⟩
theorem curOf_none {k : K} (h : curOf T k = none) : ∀ p ∈ T.rs, kOf p.1 = k → p.1.gen ≠ T.gn k := fun p hp hk e => by
  unfold curOf at h
  have := List.find?_eq_none.1 (Option.map_eq_none_iff.1 h) p hp
  simp [hk, isCur, e] at this
theorem curOf_of_mem (h : Ti T M) (hp : p ∈ T.rs) : curOf T (kOf p.1) = some p.1 ↔ isCur T p.1 = true := by
  constructor
  · intro e
    have := (curOf_some e).2.2
    simp [isCur, this]
  · intro e
    cases hc : curOf T (kOf p.1) with
    | none => exact absurd (of_decide_eq_true e) (curOf_none hc p hp rfl)
    | some R =>
      obtain ⟨⟨S, hm⟩, h1, h2⟩ := curOf_some hc
      have e' : p.1.gen = T.gn (kOf p.1) := of_decide_eq_true e
      by_cases he : (R, S) = p
      · rw [← he]
      · exfalso
        have ho := h.one
        generalize T.rs = l at hp hm ho
        induction l with
        | nil => cases hp
        | cons a r ih =>
          obtain ⟨q1, q2⟩ := List.pairwise_cons.1 ho
          rcases List.mem_cons.1 hp with e1 | e1 <;> rcases List.mem_cons.1 hm with e2 | e2
          · exact he (e2.trans e1.symm)
          · exact q1 _ e2 (by rw [← e1]; exact h1.symm) (by rw [← e1]; simp only; omega)
          · exact q1 _ e1 (by rw [← e2]; exact h1) (by rw [← e2]; simp only; omega)
          · exact ih e1 e2 q2
theorem curN_of_mem (h : Ti T M) (hp : p ∈ T.rs) : decide (((curOf T (kOf p.1)).map Rn.run).getD 0 = p.1.run) = isCur T p.1 := by
  cases hc : isCur T p.1
  · have hn : ¬ curOf T (kOf p.1) = some p.1 := fun e => by rw [(curOf_of_mem h hp).1 e] at hc; cases hc
    cases hq : curOf T (kOf p.1) with
    | none => simp; have := (h.rng p hp).1; omega
    | some R =>
      simp only [Option.map_some, Option.getD_some, decide_eq_false_iff_not]
      intro e
      obtain ⟨⟨S, hm⟩, h1, h2⟩ := curOf_some hq
      have r1 := runOf_of_mem h hm
      have r2 := runOf_of_mem h hp
      simp only at r1
      rw [e, r2] at r1
      cases r1
      exact hn hq
  · rw [(curOf_of_mem h hp).2 hc]
    simp
theorem curOf_goOn (h : Ti T M) (k j : K) : curOf (goOn T k) j = if j = k then none else curOf T j := by
  rw [curOf_eq, curOf_eq]
  split
  · rename_i e
    subst e
    refine List.find?_eq_none.2 (fun R hR => ?_)
    obtain ⟨p, hp, rfl⟩ := List.mem_map.1 hR
    simp only [Bool.and_eq_true, decide_eq_true_eq, isCur, goOn, not_and]
    intro e
    have := (h.gen p hp).2
    rw [e] at this ⊢
    simp
    omega
  · rename_i e
    have : ∀ R : Rn, (decide (kOf R = j) && isCur (goOn T k) R) = (decide (kOf R = j) && isCur T R) := fun R => by
      by_cases hk : kOf R = j
      · simp [hk, isCur, goOn, e]
      · simp [hk]
    simp only [this]
    rfl
theorem curOf_outR (h : Ti T M) (hp : p ∈ T.rs) (j : K) : curOf (outR T p.1.run) j = if isCur T p.1 = true ∧ j = kOf p.1 then none else curOf T j := by
  have hg : (outR T p.1.run).gn = T.gn := rfl
  split
  · rename_i e
    obtain ⟨e1, rfl⟩ := e
    have hc := (curOf_of_mem h hp).2 e1
    cases hq : curOf (outR T p.1.run) (kOf p.1) with
    | none => rfl
    | some R =>
      exfalso
      obtain ⟨⟨S, hm⟩, h1, h2⟩ := curOf_some hq
      have hm' := List.mem_filter.1 hm
      have h3 : isCur T R = true := by simp [isCur, h1, h2, hg]
      have h4 := (curOf_of_mem h hm'.1).2 h3
      simp only at h4
      rw [h1, hc] at h4
      have e4 := Option.some.inj h4
      have := hm'.2
      simp [← e4] at this
  · rename_i e
    cases hc : curOf T j with
    | none =>
      cases hq : curOf (outR T p.1.run) j with
      | none => rfl
      | some R =>
        exfalso
        obtain ⟨⟨S, hm⟩, h1, h2⟩ := curOf_some hq
        exact curOf_none hc _ (List.mem_filter.1 hm).1 h1 h2
    | some R =>
      obtain ⟨⟨S, hm⟩, h1, h2⟩ := curOf_some hc
      have hne : R.run ≠ p.1.run := fun e' => by
        have r1 := runOf_of_mem h hm
        have r2 := runOf_of_mem h hp
        simp only at r1
        rw [e', r2] at r1
        cases r1
        exact e ⟨by simp [isCur, h1, h2], h1.symm⟩
      cases hq : curOf (outR T p.1.run) j with
      | none => exact absurd h2 (curOf_none hq (R, S) (List.mem_filter.2 ⟨hm, by simp [hne]⟩) h1)
      | some R' =>
        obtain ⟨⟨S', hm'⟩, h1', h2'⟩ := curOf_some hq
        have hmm := (List.mem_filter.1 hm').1
        have g1 := (curOf_of_mem h hmm).2 (by simp [isCur, h1', h2', hg])
        simp only at g1
        rw [h1', hc] at g1
        exact g1.symm
theorem curOf_app (T' : Tb) (R : Rn) (S : St) (hr : T'.rs = T.rs ++ [(R, S)]) (hg : T'.gn = T.gn) (hc : curOf T (kOf R) = none) (he : R.gen = T.gn (kOf R)) (j : K) : curOf T' j = if j = kOf R then some R else curOf T j := by
  rw [curOf_eq, curOf_eq, hr, List.map_append, List.find?_append]
  have hs : ∀ Q : Rn, isCur T' Q = isCur T Q := fun Q => by unfold isCur; rw [hg]
  simp only [hs]
  rw [← curOf_eq]
  split
  · rename_i e
    subst e
    rw [hc]
    simp [isCur, he]
  · rename_i e
    cases hq : curOf T j with
    | some Q => simp
    | none =>
      simp only [List.map_cons, List.map_nil, Option.none_or]
      rw [List.find?_cons_of_neg (by simp; intro e'; exact absurd e'.symm e)]
      rfl
/-- One run's state is told anew. -/
theorem Ti.setS (h : Ti T M) {S : St} (hS : Iv S) : Ti (setS T n S) M := by
  have hmem : ∀ q ∈ (YtpihhlllembdeaaGreat.setS T n S).rs, ∃ p ∈ T.rs, q.1 = p.1 ∧ (q.2 = p.2 ∨ q.2 = S) := fun q hq => by
    obtain ⟨p, hp, rfl⟩ := List.mem_map.1 hq
    refine ⟨p, hp, putS_fst S p, ?_⟩
    unfold putS
    split
    · exact Or.inr rfl
    · exact Or.inl rfl
  refine ⟨?_, fun q hq => ?_, fun q hq => ?_, ?_, fun q hq => ?_, fun q hq => ?_, ?_, h.fl, h.bg, h.gn⟩
  · refine List.pairwise_map.2 (h.ord.imp (fun {a b} hab => ?_))
    rw [putS_fst, putS_fst]; exact hab
  · obtain ⟨p, hp, e, _⟩ := hmem q hq; rw [e]; exact h.rng p hp
  · obtain ⟨p, hp, e, _⟩ := hmem q hq; rw [e]; exact h.gen p hp
  · refine List.pairwise_map.2 (h.one.imp (fun {a b} hab => ?_))
    rw [putS_fst, putS_fst]; exact hab
  · obtain ⟨p, hp, _, e | e⟩ := hmem q hq
    · rw [e]; exact h.live p hp
    · rw [e]; exact hS
  · obtain ⟨p, hp, e, _⟩ := hmem q hq; rw [e]; exact h.ok p hp
  · simp only [YtpihhlllembdeaaGreat.setS, List.length_map]; exact h.len
theorem Ti.goOn (h : Ti T M) (k : K) : Ti (goOn T k) (M + 1) := by
  refine ⟨h.ord, h.rng, fun p hp => ⟨(h.gen p hp).1, ?_⟩, h.one, h.live, h.ok, h.len, h.fl, ⟨h.bg.1, by have := h.bg.2; show T.bg ≤ _; omega⟩, fun j => ?_⟩
  · have := (h.gen p hp).2
    simp only [YtpihhlllembdeaaGreat.goOn]
    split <;> omega
  · have := h.gn j
    simp only [YtpihhlllembdeaaGreat.goOn]
    split <;> omega
theorem Ti.outR (h : Ti T M) (n : Int) : Ti (outR T n) M := by
  refine ⟨h.ord.filter _, fun p hp => h.rng p (List.mem_filter.1 hp).1, fun p hp => h.gen p (List.mem_filter.1 hp).1, h.one.filter _, fun p hp => h.live p (List.mem_filter.1 hp).1, fun p hp => h.ok p (List.mem_filter.1 hp).1, ?_, h.fl, h.bg, h.gn⟩
  have := h.len
  have h2 := List.length_filter_le (fun p : Rn × St => decide (p.1.run ≠ n)) T.rs
  show (((T.rs.filter _).length : Nat) : Int) ≤ T.fl
  omega
theorem Ti.goneT (h : Ti T M) (R : Rn) (c : Bool) : Ti (goneT T R c) (M + 1) := by
  unfold YtpihhlllembdeaaGreat.goneT
  split
  · exact h.goOn _
  · exact h.mono (Nat.le_succ _)
theorem leave_live {S : St} (hE : S.ended = false) (x : Int) : (leaveS S x).ended = false := by unfold leaveS; split <;> exact hE
theorem join_live {S : St} (hE : S.ended = false) (x : Int) : (joinS S x).ended = false := by unfold joinS; split <;> exact hE
theorem rel_live {S : St} (hE : S.ended = false) : (relS S).ended = false := by unfold relS; split <;> exact hE
theorem Ti.join (h : Ti T M) (n : Int) {x : Int} (hx : W64 x) : Ti (tJoin T n x) M := by
  unfold tJoin
  split
  · exact h
  · rename_i p hp
    have := h.live p (runOf_mem hp).1
    exact h.setS (this.join hx)
theorem Ti.leave (h : Ti T M) (n x : Int) : Ti (tLeave T n x) (M + 1) := by
  unfold tLeave
  split
  · exact h.mono (Nat.le_succ _)
  · rename_i p hp
    have := h.live p (runOf_mem hp).1
    exact (h.setS (this.leave x)).goneT _ _
theorem Ti.rel (h : Ti T M) (n : Int) : Ti (tRel T n) (M + 1) := by
  unfold tRel
  split
  · exact h.mono (Nat.le_succ _)
  · rename_i p hp
    have := h.live p (runOf_mem hp).1
    exact (h.setS this.rel).goneT _ _
theorem Ti.forget (h : Ti T M) (k : K) : Ti (tFor T k) (M + 1) := by
  unfold tFor
  split
  · exact h.goOn _
  · exact h.mono (Nat.le_succ _)
theorem Ti.end_ (h : Ti T M) (n : Int) (o : O) : Ti (tEnd T n o) M := by
  unfold tEnd
  split
  · exact h
  · split
    · exact h.outR _
    · exact h
theorem tBegE_zero {k : K} {x : Int} {rf : Bool} (h : tBegE T k x rf = 0) : k.2.size ≤ 64 ∧ badC x rf = false ∧ curOf T k = none ∧ ¬ T.fl ≤ T.rs.length := by
  unfold tBegE mayK at h
  split at h
  · omega
  · split at h
    · omega
    · split at h
      · omega
      · split at h
        · omega
        · rename_i h1 h2 h3 h4
          exact ⟨by simpa using h1, by simpa using h2, by simpa using h3, h4⟩
theorem begin_may {k : K} {x : Int} {rf : Bool} (h : Ti T M) (hb : badC x rf = false) : mayN (tBegR T k rf) x = true := by
  have h1 := h.bg.1
  have h2 := (h.gn k).1
  unfold mayN tBegR
  unfold badC at hb
  cases rf
  · simp at hb; simp; omega
  · simp at hb; simp; omega
theorem Ti.begin_ (h : Ti T M) {k : K} {x : Int} {rf : Bool} (hk : Ok k) (hx : W64 x) : Ti (tBeg T k x rf) (M + 1) := by
  unfold tBeg
  split
  · rename_i e
    obtain ⟨h1, h2, h3, h4⟩ := tBegE_zero e
    have hb := h.bg
    refine ⟨?_, fun p hp => ?_, fun p hp => ?_, ?_, fun p hp => ?_, fun p hp => ?_, ?_, h.fl, ⟨by simp only; omega, by simp only; omega⟩, fun j => ⟨(h.gn j).1, by have := (h.gn j).2; simp only; omega⟩⟩
    · refine List.pairwise_append.2 ⟨h.ord, by simp, fun a ha b hb' => ?_⟩
      simp only [List.mem_singleton] at hb'
      subst hb'
      have := (h.rng a ha).2
      simp only [tBegR]
      omega
    · rcases List.mem_append.1 hp with q | q
      · have := h.rng p q; simp only; omega
      · simp only [List.mem_singleton] at q; subst q; simp only [tBegR]; omega
    · rcases List.mem_append.1 hp with q | q
      · exact h.gen p q
      · simp only [List.mem_singleton] at q; subst q; simp only [tBegR, kOf]; exact ⟨(h.gn _).1, Int.le_refl _⟩
    · refine List.pairwise_append.2 ⟨h.one, by simp, fun a ha b hb' => ?_⟩
      simp only [List.mem_singleton] at hb'
      subst hb'
      simp only [tBegR, kOf]
      intro e2
      exact curOf_none h3 a ha e2
    · rcases List.mem_append.1 hp with q | q
      · exact h.live p q
      · simp only [List.mem_singleton] at q; subst q; exact iv_S0 hx (begin_may h h2)
    · rcases List.mem_append.1 hp with q | q
      · exact h.ok p q
      · simp only [List.mem_singleton] at q; subst q; exact hk
    · simp only [List.length_append, List.length_singleton]; omega
  · exact h.mono (Nat.le_succ _)
/-- No run in progress has ended. -/
def Lv (T : Tb) : Prop := ∀ p ∈ T.rs, p.2.ended = false
theorem Lv.setS (h : Lv T) {S : St} (hE : S.ended = false) : Lv (setS T n S) := fun q hq => by
  obtain ⟨p, hp, rfl⟩ := List.mem_map.1 hq
  unfold putS
  split
  · exact hE
  · exact h p hp
theorem Lv.outR (h : Lv T) : Lv (outR T n) := fun q hq => h q (List.mem_filter.1 hq).1
theorem Lv.goneT (h : Lv T) (R : Rn) (c : Bool) : Lv (goneT T R c) := by
  unfold YtpihhlllembdeaaGreat.goneT
  split <;> exact h
theorem Lv.join (h : Lv T) (n x : Int) : Lv (tJoin T n x) := by
  unfold tJoin
  split
  · exact h
  · rename_i p hp; exact h.setS (join_live (h p (runOf_mem hp).1) x)
theorem Lv.leave (h : Lv T) (n x : Int) : Lv (tLeave T n x) := by
  unfold tLeave
  split
  · exact h
  · rename_i p hp; exact (h.setS (leave_live (h p (runOf_mem hp).1) x)).goneT _ _
theorem Lv.rel (h : Lv T) (n : Int) : Lv (tRel T n) := by
  unfold tRel
  split
  · exact h
  · rename_i p hp; exact (h.setS (rel_live (h p (runOf_mem hp).1))).goneT _ _
theorem Lv.end_ (h : Lv T) (n : Int) (o : O) : Lv (tEnd T n o) := by
  unfold tEnd
  split
  · exact h
  · split
    · exact h.outR
    · exact h
theorem Lv.begin_ (h : Lv T) (k : K) (x : Int) (rf : Bool) : Lv (tBeg T k x rf) := by
  unfold tBeg
  split
  · intro p hp
    rcases List.mem_append.1 hp with q | q
    · exact h p q
    · simp only [List.mem_singleton] at q; subst q; rfl
  · exact h
theorem tv_new {f : Int} (h1 : 1 ≤ f) (h2 : f ≤ 4096) : Ti ⟨f, 0, [], fun _ => 0⟩ 0 :=
  ⟨List.Pairwise.nil, fun p hp => (by cases hp), fun p hp => (by cases hp), List.Pairwise.nil, fun p hp => (by cases hp), fun p hp => (by cases hp), by simp; omega, ⟨h1, h2⟩, ⟨by simp, by simp⟩, fun k => ⟨by simp, by simp⟩⟩
end
end Go.Proofs.YtpihhlllembdeaaGreat
