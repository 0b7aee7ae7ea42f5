/- What links a group's seats, its runs and its entries, in plain words, and that every step keeps it; no program. -/
import Derived.Test.YtllchnancjgijaaGreatQa04
import Derived.Test.YtllchnancjgijaaGreatQa11
import Derived.Test.YtllchnancjgijaaGreatQa12
import Derived.Test.YtllchnancjgijaaGreatQa10
import Derived.Test.YtllchnancjgijaaGreatQa01
import Derived.Laws.Bits64b
import Derived.Laws.MathBits
import Derived.BigQuiet
import Derived.Deep.OwnRows
set_option linter.unusedVariables false
set_option linter.unusedSimpArgs false
set_option maxRecDepth 100000
namespace Go.Proofs.YtllchnancjgijaaGreat
def sO (L : List Lv.Se) (r : Int) : List Int := (Lv.inL 1 r L).map Prod.fst
theorem sO_mem {L : List Lv.Se} {r c : Int} : c ∈ sO L r ↔ ∃ t, (c, r, t) ∈ L := by
 unfold sO Lv.inL Lv.bn
 simp only [List.mem_map, List.mem_filter, decide_eq_true_eq]
 constructor
 ·rintro ⟨⟨a, b, t⟩, ⟨h1, h2⟩, h3⟩
  simp only at h2 h3
  subst h2 h3
  exact ⟨t, h1⟩
 ·rintro ⟨t, h⟩
  exact ⟨(c, r, t), ⟨h, rfl⟩, rfl⟩
theorem sO_snoc (L : List Lv.Se) (x : Lv.Se) (r : Int) : sO (L ++ [x]) r = if x.2.1 = r then sO L r ++ [x.1] else sO L r := by
 unfold sO Lv.inL Lv.bn
 rw [List.filter_append]
 by_cases h : x.2.1 = r <;> simp [h]
theorem sO_out1 {L : List Lv.Se} {r s : Int} : sO (Lv.outL 1 r L) s = if s = r then [] else sO L s := by
 unfold sO Lv.outL Lv.inL Lv.bn
 rw [List.filter_filter]
 by_cases h : s = r
 ·subst h
  rw [if_pos rfl, List.filter_eq_nil_iff.2]
  ·rfl
  ·intro x _
   simp
 ·rw [if_neg h]
  congr 1
  refine List.filter_congr (fun x _ => ?_)
  by_cases h1 : x.2.1 = s
  ·simp [h1, h]
  ·simp [h1]
def hE (en : List Me.En) (k : K) : Bool := Me.hs (Me.keysL en) k
structure Gi (X : Gp) : Prop where
 lv : ∀ p ∈ X.T.rs, p.2.ended = false
 ws : ∀ p ∈ X.T.rs, p.2.who = sO X.L p.1.run
 sr : ∀ x ∈ X.L, ∃ p ∈ X.T.rs, p.1.run = x.2.1
 ca : ∀ p ∈ X.T.rs, p.2.canc = decide (Ta.inter p.2 = 0)
 ke : ∀ p ∈ X.T.rs, p.2.kept = (p.1.rf && Ta.isCur X.T p.1 && hE X.en (Ta.kOf p.1))
 cc : ∀ p ∈ X.T.rs, Ta.isCur X.T p.1 = true → p.2.canc = false
section
variable {T : Ta.Tb} {M : Nat}
theorem uni (h : Ta.Ti T M) {p q : Ta.Rn × Ta.St} (hp : p ∈ T.rs) (hq : q ∈ T.rs) (e : p.1.run = q.1.run) : p = q := by
 have h1 := Ta.runOf_of_mem h hp
 rw [e, Ta.runOf_of_mem h hq] at h1
 exact (Option.some.inj h1).symm
theorem oneC (h : Ta.Ti T M) {p q : Ta.Rn × Ta.St} (hp : p ∈ T.rs) (hq : q ∈ T.rs) (e : Ta.kOf p.1 = Ta.kOf q.1) (cp : Ta.isCur T p.1 = true) (cq : Ta.isCur T q.1 = true) : p = q := by
 have h1 := (Ta.curOf_of_mem h hp).2 cp
 have h2 := (Ta.curOf_of_mem h hq).2 cq
 rw [e, h2] at h1
 exact uni h hp hq (by rw [Option.some.inj h1])
theorem isCur_gone (h : Ta.Ti T M) {q : Ta.Rn × Ta.St} (hq : q ∈ T.rs) (n : Int) (S : Ta.St) (R : Ta.Rn) (c : Bool) : Ta.isCur (Ta.goneT (Ta.setS T n S) R c) q.1 = (Ta.isCur T q.1 && !(Ta.goneB T R c && decide (Ta.kOf q.1 = Ta.kOf R))) := by
 unfold Ta.goneT
 have e : Ta.goneB (Ta.setS T n S) R c = Ta.goneB T R c := rfl
 rw [e]
 by_cases hg : Ta.goneB T R c = true
 ·rw [if_pos hg, hg]
  unfold Ta.goOn Ta.isCur
  have := (h.gen q hq).2
  by_cases hk : Ta.kOf q.1 = Ta.kOf R
  ·simp only [hk, if_true]
   rw [hk] at this
   simp only [decide_true, Bool.and_true, Bool.not_true, Bool.and_false, decide_eq_false_iff_not]
   show ¬ q.1.gen = T.gn (Ta.kOf R) + 1
   omega
  ·simp only [hk, if_false, decide_false, Bool.and_false, Bool.not_false, Bool.and_true]
   rfl
 ·have hg' : Ta.goneB T R c = false := by simpa using hg
  rw [if_neg hg, hg', Bool.false_and, Bool.not_false, Bool.and_true]
  rfl
theorem rs_gone (n : Int) (S : Ta.St) (R : Ta.Rn) (c : Bool) : (Ta.goneT (Ta.setS T n S) R c).rs = T.rs.map (Ta.putS n S) := by
 unfold Ta.goneT
 split <;> rfl
end
section
variable {X : Gp} {M N : Nat}
theorem Gi.congr {Y : Gp} (h : Gi X) (h1 : Y.T = X.T) (h2 : Y.L = X.L) (h3 : ∀ k, hE Y.en k = hE X.en k) : Gi Y := by
 obtain ⟨a, b, c, d, e, f⟩ := h
 rw [← h1] at a b c d e f
 rw [← h2] at b c
 exact ⟨a, b, c, d, fun q hq => by rw [h3]; exact e q hq, f⟩
theorem Gi.put0 (h : Gi X) (hT : Ta.Ti X.T M) {p : Ta.Rn × Ta.St} (hp : p ∈ X.T.rs) (S : Ta.St) (T' : Ta.Tb) (L' : List Lv.Se) (en' : List Me.En) (b : Bool) (hrs : T'.rs = X.T.rs.map (Ta.putS p.1.run S))
  (hpc : Ta.isCur T' p.1 = b) (hqc : ∀ q ∈ X.T.rs, q.1.run ≠ p.1.run → Ta.isCur T' q.1 = Ta.isCur X.T q.1)
  (hE1 : S.ended = false) (hw : S.who = sO L' p.1.run) (hca : S.canc = decide (Ta.inter S = 0))
  (hoth : ∀ q ∈ X.T.rs, q.1.run ≠ p.1.run → sO L' q.1.run = sO X.L q.1.run) (hsub : ∀ x ∈ L', ∃ q ∈ X.T.rs, q.1.run = x.2.1)
  (hen : ∀ q ∈ X.T.rs, q.1.run ≠ p.1.run → Ta.isCur X.T q.1 = true → hE en' (Ta.kOf q.1) = hE X.en (Ta.kOf q.1))
  (hkp : S.kept = (p.1.rf && b && hE en' (Ta.kOf p.1))) (hcb : b = true → S.canc = false) : Gi { X with T := T', L := L', en := en' } := by
 have split : ∀ q ∈ T'.rs, (q = (p.1, S)) ∨ (q ∈ X.T.rs ∧ q.1.run ≠ p.1.run) := fun q hq => by
  rw [hrs] at hq
  obtain ⟨q', hq', rfl⟩ := List.mem_map.1 hq
  unfold Ta.putS
  by_cases e : q'.1.run = p.1.run
  ·left
   rw [if_pos e, uni hT hq' hp e]
  ·right
   rw [if_neg e]
   exact ⟨hq', e⟩
 refine ⟨fun q hq => ?_, fun q hq => ?_, fun x hx => ?_, fun q hq => ?_, fun q hq => ?_, fun q hq hi => ?_⟩
 ·rcases split q hq with rfl | ⟨h1, _⟩
  ·exact hE1
  ·exact h.lv q h1
 ·rcases split q hq with rfl | ⟨h1, h2⟩
  ·exact hw
  ·rw [h.ws q h1]; exact (hoth q h1 h2).symm
 ·obtain ⟨q, hq, e⟩ := hsub x hx
  refine ⟨Ta.putS p.1.run S q, by show _ ∈ T'.rs; rw [hrs]; exact List.mem_map.2 ⟨q, hq, rfl⟩, ?_⟩
  rw [Ta.putS_fst]
  exact e
 ·rcases split q hq with rfl | ⟨h1, _⟩
  ·exact hca
  ·exact h.ca q h1
 ·rcases split q hq with rfl | ⟨h1, h2⟩
  ·show S.kept = (p.1.rf && Ta.isCur T' p.1 && hE en' (Ta.kOf p.1))
   rw [hpc]
   exact hkp
  ·show q.2.kept = (q.1.rf && Ta.isCur T' q.1 && hE en' (Ta.kOf q.1))
   rw [hqc q h1 h2, h.ke q h1]
   cases hi : Ta.isCur X.T q.1 with
   | false => simp
   | true => rw [hen q h1 h2 hi]
 ·rcases split q hq with rfl | ⟨h1, h2⟩
  ·have hi' : Ta.isCur T' p.1 = true := hi
   rw [hpc] at hi'
   exact hcb hi'
  ·have hi' : Ta.isCur T' q.1 = true := hi
   rw [hqc q h1 h2] at hi'
   exact h.cc q h1 hi'
theorem Gi.put (h : Gi X) (hT : Ta.Ti X.T M) {p : Ta.Rn × Ta.St} (hp : p ∈ X.T.rs) (S : Ta.St) (L' : List Lv.Se) (en' : List Me.En)
  (hE1 : S.ended = false) (hw : S.who = sO L' p.1.run) (hca : S.canc = decide (Ta.inter S = 0))
  (hoth : ∀ q ∈ X.T.rs, q.1.run ≠ p.1.run → sO L' q.1.run = sO X.L q.1.run) (hsub : ∀ x ∈ L', ∃ q ∈ X.T.rs, q.1.run = x.2.1)
  (hen : ∀ q ∈ X.T.rs, q.1.run ≠ p.1.run → Ta.isCur X.T q.1 = true → hE en' (Ta.kOf q.1) = hE X.en (Ta.kOf q.1))
  (hkp : S.kept = (p.1.rf && (Ta.isCur X.T p.1 && !S.canc) && hE en' (Ta.kOf p.1))) (c : Bool) (hc : c = true ↔ (S.canc = true ∧ p.2.canc = false)) : Gi { X with T := Ta.goneT (Ta.setS X.T p.1.run S) p.1 c, L := L', en := en' } := by
 refine h.put0 hT hp S _ L' en' (Ta.isCur X.T p.1 && !S.canc) (rs_gone _ _ _ _) ?_ (fun q hq hne => ?_) hE1 hw hca hoth hsub hen hkp (fun e => by simp only [Bool.and_eq_true, Bool.not_eq_true'] at e; exact e.2)
 ·rw [isCur_gone hT hp]
  unfold Ta.goneB
  cases hi : Ta.isCur X.T p.1 with
  | false => rfl
  | true =>
   have h0 := h.cc p hp hi
   have : c = S.canc := by
    cases hs : S.canc
    ·cases hcc : c
     ·rfl
     ·have := hc.1 hcc; rw [hs] at this; cases this.1
    ·exact hc.2 ⟨hs, h0⟩
   rw [this]
   simp
 ·rw [isCur_gone hT hq]
  cases hi : Ta.isCur X.T q.1 with
  | false => rfl
  | true =>
   have : (Ta.goneB X.T p.1 c && decide (Ta.kOf q.1 = Ta.kOf p.1)) = false := by
    unfold Ta.goneB
    by_cases hk : Ta.kOf q.1 = Ta.kOf p.1
    ·cases hip : Ta.isCur X.T p.1 with
     | false => simp
     | true => exact absurd (by rw [oneC hT hq hp hk hi hip]) hne
    ·simp [hk]
   rw [this]
   rfl
theorem inter0 {S : Ta.St} (he : S.ended = false) : Ta.inter S = 0 ↔ S.who = [] ∧ S.kept = false := by
 rw [Ta.inter_zero, he]
 simp
theorem run0 (hT : Ta.Ti X.T M) : Ta.runOf X.T 0 = none := by
 cases hr : Ta.runOf X.T 0 with
 | none => rfl
 | some p =>
  obtain ⟨h1, h2⟩ := Ta.runOf_mem hr
  have := (hT.rng p h1).1
  omega
theorem Gi.rel (h : Gi X) (hT : Ta.Ti X.T M) (en' : List Me.En) (k : K) (hk : hE en' k = false) (ho : ∀ j, j ≠ k → hE en' j = hE X.en j) : Gi { X with T := Ta.tRel X.T (rlR X k), en := en' } := by
 unfold rlR
 cases hc : Ta.curOf X.T k with
 | none =>
  have e : Ta.tRel X.T (Option.map Ta.Rn.run none |>.getD 0) = X.T := by
   show Ta.tRel X.T 0 = X.T
   unfold Ta.tRel
   rw [run0 hT]
  rw [e]
  refine ⟨h.lv, h.ws, h.sr, h.ca, fun q hq => ?_, h.cc⟩
  show q.2.kept = (q.1.rf && Ta.isCur X.T q.1 && hE en' (Ta.kOf q.1))
  rw [h.ke q hq]
  by_cases hq2 : Ta.kOf q.1 = k
  ·have : Ta.isCur X.T q.1 = false := by
    have := Ta.curOf_none hc q hq hq2
    unfold Ta.isCur
    rw [hq2]
    simpa using this
   rw [this]
   simp
  ·rw [ho _ hq2]
 | some R =>
  obtain ⟨⟨S0, hm⟩, hkR, hgR⟩ := Ta.curOf_some hc
  have hr := Ta.runOf_of_mem hT hm
  have hcu : Ta.isCur X.T R = true := by unfold Ta.isCur; rw [hkR]; simpa using hgR
  have hl := h.lv _ hm
  have hkn : ∀ q ∈ X.T.rs, q.1.run ≠ R.run → Ta.isCur X.T q.1 = true → hE en' (Ta.kOf q.1) = hE X.en (Ta.kOf q.1) := fun q hq hne hi => by
   refine ho _ (fun e => hne ?_)
   have := oneC hT hq hm (e.trans hkR.symm) hi hcu
   rw [this]
  have e1 : Ta.tRel X.T R.run = Ta.goneT (Ta.setS X.T R.run (Ta.relS S0)) R (Ta.relB S0) := by
   unfold Ta.tRel
   rw [hr]
  show Gi { X with T := Ta.tRel X.T R.run, en := en' }
  rw [e1]
  cases hkp : S0.kept with
  | true =>
   have hcond : (S0.kept && !S0.ended) = true := by rw [hkp]; have : S0.ended = false := hl; rw [this]; rfl
   have hS : Ta.relS S0 = Ta.leftS { S0 with kept := false } := by unfold Ta.relS; rw [if_pos hcond]
   have hB : Ta.relB S0 = Ta.leftB { S0 with kept := false } := by unfold Ta.relB; rw [if_pos hcond]
   have hpc : S0.canc = false := h.cc _ hm hcu
   rw [hS, hB]
   refine h.put hT hm (Ta.leftS { S0 with kept := false }) X.L en' hl (h.ws _ hm) rfl (fun _ _ _ => rfl) h.sr hkn ?_ _ ?_
   ·show false = _
    rw [show Ta.kOf (R, S0).1 = k from hkR, hk]
    simp
   ·show Ta.leftB _ = true ↔ (Ta.leftB _ = true ∧ S0.canc = false)
    simp [hpc]
  | false =>
   have hcond : (S0.kept && !S0.ended) = false := by rw [hkp]; rfl
   have hS : Ta.relS S0 = S0 := by unfold Ta.relS; rw [hcond]; rfl
   have hB : Ta.relB S0 = false := by unfold Ta.relB; rw [hcond]; rfl
   rw [hS, hB]
   refine h.put hT hm S0 X.L en' hl (h.ws _ hm) (h.ca _ hm) (fun _ _ _ => rfl) h.sr hkn ?_ false ?_
   ·rw [show Ta.kOf (R, S0).1 = k from hkR, hk, hkp]
    simp
   ·constructor
    ·intro e; cases e
    ·rintro ⟨a, b⟩
     rw [show (R, S0).2.canc = S0.canc from rfl, a] at b
     cases b
theorem Gi.ent (h : Gi X) (en' : List Me.En) (ho : ∀ q ∈ X.T.rs, Ta.isCur X.T q.1 = true → hE en' (Ta.kOf q.1) = hE X.en (Ta.kOf q.1)) : Gi { X with en := en' } := by
 refine ⟨h.lv, h.ws, h.sr, h.ca, fun q hq => ?_, h.cc⟩
 show q.2.kept = (q.1.rf && Ta.isCur X.T q.1 && hE en' (Ta.kOf q.1))
 rw [h.ke q hq]
 cases hi : Ta.isCur X.T q.1 with
 | false => simp
 | true => rw [ho q hq hi]
theorem hE_drx (en : List Me.En) (k j : K) : hE (Me.drx en k) j = (hE en j && !decide (j = k)) := by
 unfold hE Me.hs
 rw [Me.drx_keys]
 unfold Me.dr
 rw [List.any_filter]
 by_cases hj : j = k
 ·subst hj
  simp only [decide_true, Bool.not_true, Bool.and_false, List.any_eq_false]
  intro x _
  by_cases e : x = j <;> simp [e]
 ·simp only [hj, decide_false, Bool.not_false, Bool.and_true]
  congr 1
  funext x
  by_cases e : x = j
  ·subst e
   simp [hj]
  ·simp [e]
theorem Gi.gone (h : Gi X) (hT : Ta.Ti X.T M) (r : Int) : Gi { X with T := Ta.outR X.T r, L := Lv.outL 1 r X.L } := by
 have hm : ∀ q, q ∈ (Ta.outR X.T r).rs → q ∈ X.T.rs ∧ q.1.run ≠ r := fun q hq => by
  have := List.mem_filter.1 hq
  exact ⟨this.1, by simpa using this.2⟩
 refine ⟨fun q hq => h.lv q (hm q hq).1, fun q hq => ?_, fun x hx => ?_, fun q hq => h.ca q (hm q hq).1, fun q hq => h.ke q (hm q hq).1, fun q hq hi => h.cc q (hm q hq).1 hi⟩
 ·show q.2.who = sO (Lv.outL 1 r X.L) q.1.run
  rw [sO_out1, if_neg (hm q hq).2, h.ws q (hm q hq).1]
 ·obtain ⟨h1, h2⟩ := List.mem_filter.1 hx
  obtain ⟨q, hq, e⟩ := h.sr x h1
  have h3 : x.2.1 ≠ r := by simpa [Lv.bn] using h2
  exact ⟨q, List.mem_filter.2 ⟨hq, by simpa [e] using h3⟩, e⟩
theorem hE_putY (en : List Me.En) (k j : K) (v : Me.V) : hE (Me.putY en k v) j = (hE en j || decide (j = k)) := by
 have h1 : hE (Me.putY en k v) j = (hE (Me.drx en k) j || decide (k = j)) := by
  unfold hE Me.hs
  rw [Me.putY_keys]
  unfold Me.useY
  rw [List.any_append, Me.drx_keys]
  simp
 rw [h1, hE_drx]
 by_cases e : j = k
 ·subst e; simp
 ·have e' : ¬ k = j := fun q => e q.symm
  simp [e, e']
theorem hE_useX (en : List Me.En) (k j : K) : hE (Me.useX en k) j = hE en j := by
 unfold Me.useX
 cases hf : Me.fnd en k with
 | none => rfl
 | some v =>
  show hE (Me.putY en k v) j = _
  rw [hE_putY]
  by_cases e : j = k
  ·subst e
   have : hE en j = true := by unfold hE; rw [← Me.fnd_isSome, hf]; rfl
   simp [this]
  ·simp [e]
theorem useY_nd {ks : List K} (h : ks.Nodup) (k : K) : (Me.useY ks k).Nodup := by
 unfold Me.useY Me.dr
 rw [List.nodup_append]
 refine ⟨h.filter _, by simp, fun a ha b hb => ?_⟩
 have h1 := (List.mem_filter.1 ha).2
 simp only [List.mem_singleton] at hb
 subst hb
 simpa using h1
theorem hE_putL {en : List Me.En} (hn : (Me.keysL en).Nodup) (e : Int) (k : K) (v : Me.V) (hu : Me.useB e (Me.keysL en) k = true) : hE (Me.putL e en k v) (Me.useG e (Me.keysL en) k) = false ∧ ∀ j, j ≠ Me.useG e (Me.keysL en) k → hE (Me.putL e en k v) j = hE (Me.putY en k v) j := by
 have hk : Me.keysL (Me.putL e en k v) = (Me.useY (Me.keysL en) k).tail := by rw [Me.putL_keys]; unfold Me.useL; rw [if_pos hu]
 have hk2 : Me.keysL (Me.putY en k v) = Me.useY (Me.keysL en) k := Me.putY_keys en k v
 have hg : Me.useG e (Me.keysL en) k = (Me.useY (Me.keysL en) k).headD Me.kz := by unfold Me.useG; rw [if_pos hu]
 have nd := useY_nd hn k
 unfold hE
 rw [hg, hk, hk2]
 generalize Me.useY (Me.keysL en) k = ys at *
 cases ys with
 | nil => exact ⟨rfl, fun _ _ => rfl⟩
 | cons a r =>
  obtain ⟨h1, h2⟩ := List.nodup_cons.1 nd
  refine ⟨Me.hs_no h1, fun j hj => ?_⟩
  have hj : j ≠ a := hj
  show Me.hs r j = Me.hs (a :: r) j
  unfold Me.hs
  rw [List.any_cons]
  have : decide (a = j) = false := by simpa using fun q => hj q.symm
  rw [this, Bool.false_or]
theorem Gi.end_ (h : Gi X) (hT : Ta.Ti X.T M) (hn : (Me.keysL X.en).Nodup) (n r : Int) (o : O) : Gi (edX X n r o) := by
 unfold edX
 split
 ·exact h
 ·rename_i hE0
  have hE0 : edE X n r o = 0 := by simpa using hE0
  have hte : Ta.tEndE X.T r o = 0 := by
   unfold edE at hE0
   split at hE0
   ·contradiction
   ·exact hE0
  have hrun : ∃ p, Ta.runOf X.T r = some p ∧ Ta.endE p.2 o = 0 := by
   unfold Ta.tEndE at hte
   cases hr : Ta.runOf X.T r with
   | none => rw [hr] at hte; cases hte
   | some p => rw [hr] at hte; exact ⟨p, rfl, hte⟩
  obtain ⟨p, hr, he⟩ := hrun
  have hTe : Ta.tEnd X.T r o = Ta.outR X.T r := by unfold Ta.tEnd; rw [hr]; exact if_pos he
  have h1 : Gi (ed1 X n r o) := by
   unfold ed1
   rw [hTe]
   exact Gi.congr (h.gone hT r) rfl rfl (fun _ => rfl)
  have hT1 : Ta.Ti (ed1 X n r o).T M := by
   show Ta.Ti (Ta.tEnd X.T r o) M
   exact hT.end_ r o
  split
  ·rename_i hB
   have hcur : Ta.isCur X.T p.1 = true := by
    unfold edB Ta.tEndC at hB
    rw [hr] at hB
    simp only [Bool.and_eq_true] at hB
    exact hB.1.2
   obtain ⟨hp, hpr⟩ := Ta.runOf_mem hr
   have hk0 : edK X r = Ta.kOf p.1 := by
    unfold edK Ta.rnOf
    rw [hr]
   have hno : ∀ q ∈ (ed1 X n r o).T.rs, Ta.isCur (ed1 X n r o).T q.1 = true → Ta.kOf q.1 ≠ edK X r := fun q hq hi e => by
    have hq' : q ∈ (Ta.outR X.T r).rs := by rw [← hTe]; exact hq
    have hi' : Ta.isCur X.T q.1 = true := by
     have : Ta.isCur (Ta.tEnd X.T r o) q.1 = true := hi
     rw [hTe] at this
     exact this
    obtain ⟨h3, h4⟩ := List.mem_filter.1 hq'
    rw [hk0] at e
    have := oneC hT h3 hp e hi' hcur
    rw [this, hpr] at h4
    simp at h4
   unfold edG Me.kpG ed2 Me.kpX
   cases hkb : Me.kpB X.c X.mn n (edK X r) o with
   | false =>
    simp only [Bool.false_eq_true, if_false]
    exact Gi.congr h1 rfl rfl (fun _ => rfl)
   | true =>
    simp only [if_true]
    have h2 : Gi { ed1 X n r o with en := Me.putY X.en (edK X r) (o, n) } := h1.ent _ (fun q hq hi => by
     have := hno q hq hi
     rw [hE_putY]
     show (hE X.en (Ta.kOf q.1) || decide (Ta.kOf q.1 = edK X r)) = hE X.en (Ta.kOf q.1)
     simp [this])
    unfold Me.goneL
    cases hu : Me.useB X.c.e (Me.keysL X.en) (edK X r) with
    | false =>
     simp only [Bool.false_eq_true, if_false]
     refine Gi.congr h2 rfl rfl (fun j => ?_)
     show hE (Me.putL X.c.e X.en (edK X r) (o, n)) j = _
     unfold Me.putL
     rw [hu]
     rfl
    | true =>
     simp only [if_true]
     obtain ⟨a, b⟩ := hE_putL hn X.c.e (edK X r) (o, n) hu
     exact Gi.congr (h2.rel hT1 (Me.putL X.c.e X.en (edK X r) (o, n)) (Me.useG X.c.e (Me.keysL X.en) (edK X r)) a b) rfl rfl (fun _ => rfl)
  ·exact h1
theorem Gi.beg (h : Gi X) (hT : Ta.Ti X.T M) (k : K) (x t : Int) (rf : Bool) (h0 : Ta.tBegE X.T k x rf = 0) (he : rf = true → hE X.en k = true) : Gi { X with T := Ta.tBeg X.T k x rf, L := if rf then X.L else X.L ++ [(x, X.T.bg + 1, t)] } := by
 obtain ⟨b1, b2, b3, b4⟩ := Ta.tBegE_zero h0
 have hTb : Ta.tBeg X.T k x rf = { X.T with bg := X.T.bg + 1, rs := X.T.rs ++ [(Ta.tBegR X.T k rf, Ta.S0 (Ta.tBegR X.T k rf) x)] } := by unfold Ta.tBeg; rw [if_pos h0]
 rw [hTb]
 have hne : ∀ q ∈ X.T.rs, q.1.run ≠ X.T.bg + 1 := fun q hq => by have := (hT.rng q hq).2; omega
 have hso : ∀ q ∈ X.T.rs, sO (if rf then X.L else X.L ++ [(x, X.T.bg + 1, t)]) q.1.run = sO X.L q.1.run := fun q hq => by
  cases rf
  ·simp only [Bool.false_eq_true, if_false]
   rw [sO_snoc, if_neg (fun e => hne q hq e.symm)]
  ·rfl
 have hs0 : sO X.L (X.T.bg + 1) = [] := by
  cases hs : sO X.L (X.T.bg + 1) with
  | nil => rfl
  | cons a r =>
   have : a ∈ sO X.L (X.T.bg + 1) := by rw [hs]; simp
   obtain ⟨u, hu⟩ := sO_mem.1 this
   obtain ⟨q, hq, e⟩ := h.sr _ hu
   exact absurd e (hne q hq)
 have hic : ∀ R : Ta.Rn, Ta.isCur { X.T with bg := X.T.bg + 1, rs := X.T.rs ++ [(Ta.tBegR X.T k rf, Ta.S0 (Ta.tBegR X.T k rf) x)] } R = Ta.isCur X.T R := fun _ => rfl
 have split : ∀ q ∈ X.T.rs ++ [(Ta.tBegR X.T k rf, Ta.S0 (Ta.tBegR X.T k rf) x)], q ∈ X.T.rs ∨ q = (Ta.tBegR X.T k rf, Ta.S0 (Ta.tBegR X.T k rf) x) := fun q hq => by simpa using hq
 refine ⟨fun q hq => ?_, fun q hq => ?_, fun y hy => ?_, fun q hq => ?_, fun q hq => ?_, fun q hq hi => ?_⟩
 ·rcases split q hq with h1 | rfl
  ·exact h.lv q h1
  ·rfl
 ·rcases split q hq with h1 | rfl
  ·rw [h.ws q h1]; exact (hso q h1).symm
  ·show (if rf then [] else [x]) = sO (if rf then X.L else X.L ++ [(x, X.T.bg + 1, t)]) (X.T.bg + 1)
   cases rf
   ·simp only [Bool.false_eq_true, if_false]
    rw [sO_snoc, if_pos rfl, hs0]
    rfl
   ·simp only [if_true]
    exact hs0.symm
 ·have : y ∈ X.L ∨ (rf = false ∧ y = (x, X.T.bg + 1, t)) := by
   cases rf
   ·have hy' : y ∈ X.L ++ [(x, X.T.bg + 1, t)] := hy
    simpa using hy'
   ·exact Or.inl hy
  rcases this with h1 | ⟨_, rfl⟩
  ·obtain ⟨q, hq, e⟩ := h.sr y h1
   exact ⟨q, List.mem_append_left _ hq, e⟩
  ·exact ⟨_, List.mem_append_right _ (List.mem_singleton.2 rfl), rfl⟩
 ·rcases split q hq with h1 | rfl
  ·exact h.ca q h1
  ·show false = decide (Ta.inter (Ta.S0 (Ta.tBegR X.T k rf) x) = 0)
   cases rf <;> simp [Ta.inter, Ta.S0, Ta.tBegR]
 ·rcases split q hq with h1 | rfl
  ·exact h.ke q h1
  ·show rf = (rf && Ta.isCur X.T (Ta.tBegR X.T k rf) && hE X.en k)
   have : Ta.isCur X.T (Ta.tBegR X.T k rf) = true := by
    show decide (X.T.gn k = X.T.gn k) = true
    simp
   rw [this]
   cases rf
   ·rfl
   ·rw [he rfl]; rfl
 ·rcases split q hq with h1 | rfl
  ·exact h.cc q h1 hi
  ·rfl
theorem Gi.join (h : Gi X) (hT : Ta.Ti X.T M) {k : K} {R : Ta.Rn} (hc : Ta.curOf X.T k = some R) {x : Int} (hx : 1 ≤ x) (hn : ∀ y ∈ X.L, y.1 ≠ x) (t : Int) : Gi { X with T := Ta.tJoin X.T R.run x, L := X.L ++ [(x, R.run, t)] } := by
 obtain ⟨⟨S0, hm⟩, hkR, hgR⟩ := Ta.curOf_some hc
 have hr := Ta.runOf_of_mem hT hm
 have hcu : Ta.isCur X.T R = true := by unfold Ta.isCur; rw [hkR]; simpa using hgR
 have hl : S0.ended = false := h.lv _ hm
 have hca : S0.canc = false := h.cc _ hm hcu
 have hnw : ¬ x ∈ S0.who := fun e => by
  have : x ∈ sO X.L R.run := by rw [← h.ws _ hm]; exact e
  obtain ⟨u, hu⟩ := sO_mem.1 this
  exact hn _ hu rfl
 have hj : Ta.joinE S0 x = 0 := by
  unfold Ta.joinE
  rw [if_neg (by omega), hl, hca, if_neg (by simp), if_neg (by simp), if_neg hnw]
 have hS : Ta.joinS S0 x = { S0 with who := S0.who ++ [x] } := by unfold Ta.joinS; rw [if_pos hj]
 have hTj : Ta.tJoin X.T R.run x = Ta.setS X.T R.run { S0 with who := S0.who ++ [x] } := by
  unfold Ta.tJoin
  rw [hr, ← hS]
 rw [hTj]
 refine h.put0 hT hm { S0 with who := S0.who ++ [x] } _ _ X.en true rfl hcu (fun _ _ _ => rfl) hl ?_ ?_ (fun q hq hne => ?_) (fun y hy => ?_) (fun _ _ _ _ => rfl) ?_ (fun _ => hca)
 ·show S0.who ++ [x] = _
  rw [sO_snoc, if_pos rfl, ← h.ws _ hm]
 ·refine hca.trans ?_
  symm
  rw [decide_eq_false_iff_not, inter0 (S := { S0 with who := S0.who ++ [x] }) hl]
  simp
 ·rw [sO_snoc, if_neg (fun e => hne e.symm)]
 ·rcases List.mem_append.1 hy with e | e
  ·exact h.sr y e
  ·simp only [List.mem_singleton] at e
   subst e
   exact ⟨_, hm, rfl⟩
 ·show S0.kept = _
  rw [show S0.kept = (R, S0).2.kept from rfl, h.ke _ hm, hcu]
theorem may0 {n : Int} {k : K} {x t : Int} (h : mayE X n k x t = 0) : tkE X n = 0 ∧ k.2.size ≤ 64 ∧ 1 ≤ x ∧ 0 ≤ t ∧ ¬ t ∈ X.G ∧ ∀ y ∈ X.L, y.1 ≠ x := by
 unfold mayE at h
 split at h
 ·contradiction
 rename_i a0
 split at h
 ·cases h
 rename_i a1
 split at h
 ·cases h
 rename_i a2
 split at h
 ·cases h
 rename_i a3
 split at h
 ·cases h
 rename_i a4
 split at h
 ·cases h
 rename_i a5
 exact ⟨by simpa using a0, by omega, by omega, by omega, a4, Lv.whr_none.1 (by simpa using a5)⟩
theorem tel_no {k : K} (h : telB X k = false) : (telX X k).T = X.T ∧ (telX X k).L = X.L ∧ (telX X k).en = X.en ∧ (telX X k).G = X.G ∧ (telX X k).now = X.now ∧ (telX X k).c = X.c ∧ (telX X k).B = X.B := by
 have hm : meeX X k (seenOf X k).1 = X := by
  unfold telB meeB at h
  unfold meeX
  split
  ·rename_i h2
   rw [h2] at h
   have h : renB X k = false := h
   unfold renB at h
   simp only [Bool.or_eq_false_iff, decide_eq_false_iff_not] at h
   unfold renX
   cases hc : Ta.curOf X.T k with
   | some _ => rfl
   | none => exact if_neg h.2
  ·rfl
 unfold telX
 rw [h, hm]
 simp
theorem Gi.tel_ (h : Gi X) (hT : Ta.Ti X.T M) (k : K) : Gi (telX X k) := by
 have hm : Gi (meeX X k (seenOf X k).1) ∧ (meeX X k (seenOf X k).1).L = X.L := by
  unfold meeX
  split
  ·rename_i h2
   have hen : hE X.en k = true := by
    unfold hE
    rw [← Me.fnd_isSome]
    unfold seenOf Me.lookS at h2
    cases hf : Me.fnd X.en k with
    | none => rw [hf] at h2; cases h2
    | some v => rfl
   unfold renX
   cases hc : Ta.curOf X.T k with
   | some _ => exact ⟨h, rfl⟩
   | none =>
    show Gi (if Ta.tBegE X.T k 0 true = 0 then begX (runX X k 0 true) (X.T.bg + 1) else X) ∧ (if Ta.tBegE X.T k 0 true = 0 then begX (runX X k 0 true) (X.T.bg + 1) else X).L = X.L
    split
    ·rename_i h0
     exact ⟨Gi.congr (h.beg hT k 0 0 true h0 (fun _ => hen)) rfl rfl (fun _ => rfl), rfl⟩
    ·exact ⟨h, rfl⟩
  ·exact ⟨h, rfl⟩
 unfold telX
 split
 ·have he : (meeX X k (seenOf X k).1).en = X.en := by
   unfold meeX
   split
   ·unfold renX
    split
    ·rfl
    ·split <;> rfl
   ·rfl
  exact Gi.congr hm.1 rfl rfl (fun j => by
   show hE (Me.useX X.en k) j = _
   rw [hE_useX, he])
 ·exact Gi.congr hm.1 rfl rfl (fun _ => rfl)
theorem Gi.jo_ (h : Gi X) (hT : Ta.Ti X.T M) (n : Int) (k : K) (x t : Int) : Gi (joX X n k x t) := by
 unfold joX
 split
 ·exact h
 ·rename_i hm0
  have hm0 : mayE X n k x t = 0 := by simpa using hm0
  obtain ⟨m1, m2, m3, m4, m5, m6⟩ := may0 hm0
  have h' : Gi { X with now := n } := Gi.congr h rfl rfl (fun _ => rfl)
  split
  ·exact h'.tel_ hT k
  ·rename_i htb
   have htb : telB { X with now := n } k = false := by simpa using htb
   obtain ⟨t1, t2, t3, t4, _⟩ := tel_no htb
   have hg : Gi (telX { X with now := n } k) := h'.tel_ hT k
   generalize telX { X with now := n } k = Y at *
   have t1 : Y.T = X.T := t1
   have t2 : Y.L = X.L := t2
   have t4 : Y.G = X.G := t4
   have hTY : Ta.Ti Y.T M := by rw [t1]; exact hT
   have hsit : ∀ r, 1 ≤ r → Lv.sitL Y.L Y.G (x, r, t) = Y.L ++ [(x, r, t)] := fun r hr => by
    have a1 : Lv.may (x, r, t) = true := by simp [Lv.may, m3, hr, m4]
    have a2 : (Lv.whr Y.L x).isSome = false := Lv.whr_none.2 (by rw [t2]; exact m6)
    have a3 : ¬ t ∈ Y.G := by rw [t4]; exact m5
    have a4 : Lv.sitE Y.L Y.G (x, r, t) = 0 := by
     unfold Lv.sitE
     rw [if_neg (by rw [a1]; simp)]
     show (if t ∈ Y.G then (152 : Int) else if (Lv.whr Y.L x).isSome = true then 151 else 0) = 0
     rw [if_neg a3, if_neg (by rw [a2]; simp)]
    unfold Lv.sitL
    rw [if_pos a4]
   unfold waiX
   cases hc : Ta.curOf Y.T k with
   | some R =>
    obtain ⟨⟨S0, hmm⟩, _⟩ := Ta.curOf_some hc
    have hr := (hTY.rng _ hmm).1
    show Gi (sitX { Y with T := Ta.tJoin Y.T R.run x } x R.run t)
    refine Gi.congr (hg.join hTY hc m3 (by rw [t2]; exact m6) t) rfl ?_ (fun _ => rfl)
    exact hsit R.run hr
   | none =>
    show Gi (if Ta.tBegE Y.T k x false = 0 then begX (sitX (runX Y k x false) x (Y.T.bg + 1) t) (Y.T.bg + 1) else Y)
    split
    ·rename_i h0
     refine Gi.congr (hg.beg hTY k x t false h0 (fun e => by cases e)) rfl ?_ (fun _ => rfl)
     exact hsit (Y.T.bg + 1) (by have := hTY.bg.1; omega)
    ·exact hg
end
theorem Gi.zero (c : Me.Cf) (en : List Me.En) (now : Int) : Gi (G0 c now en) := by
 refine ⟨fun p hp => ?_, fun p hp => ?_, fun x hx => ?_, fun p hp => ?_, fun p hp => ?_, fun p hp => ?_⟩
 all_goals (first | (exact absurd hp (by simp [G0, Ta.T0])) | (exact absurd hx (by simp [G0])))
end Go.Proofs.YtllchnancjgijaaGreat
/- Who waits, as a map, a group's times and counts behind each act, in plain words; no program's walk. -/
namespace Go.Proofs.YtllchnancjgijaaGreat
open Go.RowKit Go.Maps Go.ChangeMaps
section
variable {X : Gp}
/-! ### Times -/
theorem Gt.at_ (h : Gt X) {n : Int} (hn : tkE X n = 0) {Y : Gp} (h1 : Y.now = n) (h2 : Y.mn ≤ n) : Gt Y := by
 obtain ⟨a, b, c⟩ := tk_ok hn
 exact ⟨by rw [h1]; exact h2, by rw [h1]; exact a, by rw [h1]; exact b⟩
theorem rlX_now (Y : Gp) (gs : List K) : (rlX Y gs).now = Y.now ∧ (rlX Y gs).mn = Y.mn ∧ (rlX Y gs).L = Y.L := by
 cases gs <;> exact ⟨rfl, rfl, rfl⟩
theorem Gt.ed_ (h : Gt X) (n r : Int) (o : O) : Gt (edX X n r o) := by
 unfold edX
 split
 ·exact h
 ·rename_i hE0
  have hk : tkE X n = 0 := by
   unfold edE at hE0
   split at hE0
   ·rename_i a; exact absurd a (by simpa using hE0)
   ·rename_i a; simpa using a
  have hm : X.mn ≤ n := by have := h.m; have := (tk_ok hk).2.2; omega
  split
  ·obtain ⟨e1, e2, _⟩ := rlX_now (ed2 X n r o) (edG X n r o)
   refine h.at_ hk (by rw [e1]; rfl) ?_
   rw [e2]
   show Me.kpN X.mn n (edK X r) o ≤ n
   unfold Me.kpN
   split <;> omega
  ·exact h.at_ hk rfl hm
theorem telX_now (Y : Gp) (k : K) : (telX Y k).now = Y.now ∧ (telX Y k).mn = Y.now := by
 have hm : (meeX Y k (seenOf Y k).1).now = Y.now := by
  unfold meeX
  split
  ·unfold renX
   split
   ·rfl
   ·split <;> rfl
  ·rfl
 unfold telX
 split
 ·exact ⟨hm, rfl⟩
 ·exact ⟨hm, rfl⟩
theorem waiX_now (Y : Gp) (k : K) (x t : Int) : (waiX Y k x t).now = Y.now ∧ (waiX Y k x t).mn = Y.mn := by
 unfold waiX
 split
 ·exact ⟨rfl, rfl⟩
 ·split <;> exact ⟨rfl, rfl⟩
theorem Gt.jo_ (h : Gt X) (n : Int) (k : K) (x t : Int) : Gt (joX X n k x t) := by
 unfold joX
 split
 ·exact h
 ·rename_i hm0
  have hk : tkE X n = 0 := (may0 (by simpa using hm0)).1
  obtain ⟨a, b⟩ := telX_now { X with now := n } k
  split
  ·exact h.at_ hk a (by rw [b]; exact Int.le_refl n)
  ·obtain ⟨c, d⟩ := waiX_now (telX { X with now := n } k) k x t
   exact h.at_ hk (c.trans a) (by rw [d, b]; exact Int.le_refl n)
/-! ### Seats -/
theorem telX_L (Y : Gp) (k : K) : (telX Y k).L = Y.L := by
 have hm : (meeX Y k (seenOf Y k).1).L = Y.L := by
  unfold meeX
  split
  ·unfold renX
   split
   ·rfl
   ·split <;> rfl
  ·rfl
 unfold telX
 split <;> exact hm
theorem telJ_how (Y : Gp) (k : K) : ¬ ((telJ Y k).how = 3 ∨ (telJ Y k).how = 5) := by
 have hz : ¬ (Jd.z.how = 3 ∨ Jd.z.how = 5) := by decide
 have hr : ¬ ((renJ Y k).how = 3 ∨ (renJ Y k).how = 5) := by
  unfold renJ
  split
  ·simp
  ·split
   ·simp [begJ]
   ·exact hz
 unfold telJ
 split
 ·show ¬ ((meeJ Y k (seenOf Y k).1).how = 3 ∨ (meeJ Y k (seenOf Y k).1).how = 5)
  unfold meeJ
  split
  ·simp
  ·split
   ·exact hr
   ·exact hz
 ·exact hz
theorem sit_L {Y : Gp} {x r t : Int} (h1 : 1 ≤ x) (h2 : 1 ≤ r) (h3 : 0 ≤ t) (h4 : ¬ t ∈ Y.G) (h5 : ∀ y ∈ Y.L, y.1 ≠ x) : (sitX Y x r t).L = Y.L ++ [(x, r, t)] := by
 have a1 : Lv.may (x, r, t) = true := by simp [Lv.may, h1, h2, h3]
 have a2 : (Lv.whr Y.L x).isSome = false := Lv.whr_none.2 h5
 have a4 : Lv.sitE Y.L Y.G (x, r, t) = 0 := by
  unfold Lv.sitE
  rw [if_neg (by rw [a1]; simp)]
  show (if t ∈ Y.G then (152 : Int) else if (Lv.whr Y.L x).isSome = true then 151 else 0) = 0
  rw [if_neg h4, if_neg (by rw [a2]; simp)]
 show Lv.sitL Y.L Y.G (x, r, t) = _
 unfold Lv.sitL
 rw [if_pos a4]
theorem jo_seat {M : Nat} (hT : Ta.Ti X.T M) (n : Int) (k : K) (x t : Int) :
  (¬ ((joJ X n k x t).how = 3 ∨ (joJ X n k x t).how = 5) ∧ (joX X n k x t).L = X.L) ∨
  (((joJ X n k x t).how = 3 ∨ (joJ X n k x t).how = 5) ∧ mayE X n k x t = 0 ∧ (joX X n k x t).L = X.L ++ [(x, (joJ X n k x t).run, t)] ∧ 1 ≤ (joJ X n k x t).run ∧ (joJ X n k x t).run ≤ M + 1 ∧ ∀ y ∈ X.L, y.1 ≠ x) := by
 by_cases h0 : mayE X n k x t = 0
 ·obtain ⟨m1, m2, m3, m4, m5, m6⟩ := may0 h0
  have e1 : joX X n k x t = if telB { X with now := n } k then telX { X with now := n } k else waiX (telX { X with now := n } k) k x t := by unfold joX; rw [if_neg (by simpa using h0)]
  have e2 : joJ X n k x t = if telB { X with now := n } k then telJ { X with now := n } k else waiJ (telX { X with now := n } k) k x := by unfold joJ; rw [if_neg (by simpa using h0)]
  rw [e1, e2]
  cases hb : telB { X with now := n } k with
  | true =>
   simp only [if_true]
   exact Or.inl ⟨telJ_how _ _, telX_L _ _⟩
  | false =>
   simp only [Bool.false_eq_true, if_false]
   obtain ⟨t1, t2, t3, t4, _⟩ := tel_no hb
   have t1 : (telX { X with now := n } k).T = X.T := t1
   have t2 : (telX { X with now := n } k).L = X.L := t2
   have t4 : (telX { X with now := n } k).G = X.G := t4
   generalize telX { X with now := n } k = Y at *
   have hTY : Ta.Ti Y.T M := by rw [t1]; exact hT
   have hbg := hTY.bg
   unfold waiX waiJ
   cases hc : Ta.curOf Y.T k with
   | some R =>
    obtain ⟨⟨S0, hm⟩, _⟩ := Ta.curOf_some hc
    have hr := hTY.rng _ hm
    have hr2 : R.run ≤ Y.T.bg := hr.2
    have hr1 : 1 ≤ R.run := hr.1
    refine Or.inr ⟨Or.inl rfl, h0, ?_, hr1, by show R.run ≤ _; omega, m6⟩
    show (sitX { Y with T := Ta.tJoin Y.T R.run x } x R.run t).L = _
    rw [sit_L (Y := { Y with T := Ta.tJoin Y.T R.run x }) m3 hr1 m4 (by show ¬ t ∈ Y.G; rw [t4]; exact m5) (by show ∀ y ∈ Y.L, y.1 ≠ x; rw [t2]; exact m6)]
    show Y.L ++ _ = _
    rw [t2]
   | none =>
    by_cases hz : Ta.tBegE Y.T k x false = 0
    ·simp only [hz, if_true]
     refine Or.inr ⟨Or.inr rfl, h0, ?_, by show 1 ≤ Y.T.bg + 1; omega, by show Y.T.bg + 1 ≤ _; omega, m6⟩
     show (sitX (runX Y k x false) x (Y.T.bg + 1) t).L = _
     rw [sit_L (Y := runX Y k x false) m3 (by omega) m4 (by show ¬ t ∈ Y.G; rw [t4]; exact m5) (by show ∀ y ∈ Y.L, y.1 ≠ x; rw [t2]; exact m6)]
     show Y.L ++ _ = _
     rw [t2]
     rfl
    ·simp only [hz, if_false]
     exact Or.inl ⟨by decide, t2⟩
 ·left
  have e1 : joX X n k x t = X := by unfold joX; rw [if_pos h0]
  have e2 : joJ X n k x t = Jd.z := by unfold joJ; rw [if_pos h0]
  rw [e1, e2]
  exact ⟨by decide, rfl⟩
/-! ### Counts -/
theorem joC_b (X : Gp) (n : Int) (k : K) (x t : Int) (N : Cn) : (joC X n k x t N).t ≤ N.t + 2 ∧ (joC X n k x t N).b ≤ N.b + 2 ∧ (joC X n k x t N).s ≤ N.s + 1 := by
 have a : ∀ (Y : Gp) (i : Int) (M : Cn), (meeC Y k i M).t ≤ M.t + 1 ∧ (meeC Y k i M).b ≤ M.b + 1 ∧ (meeC Y k i M).s = M.s := fun Y i M => by
  unfold meeC renC
  repeat' split
  all_goals simp
 have d : ∀ (Y : Gp) (M : Cn), (waiC Y k x M).t ≤ M.t + 1 ∧ (waiC Y k x M).b ≤ M.b + 1 ∧ (waiC Y k x M).s ≤ M.s + 1 := fun Y M => by
  unfold waiC
  repeat' split
  all_goals simp
 unfold joC
 split
 ·omega
 split
 ·have := a { X with now := n } (seenOf { X with now := n } k).1 N
  omega
 ·have h1 := a { X with now := n } (seenOf { X with now := n } k).1 N
  have h2 := d (telX { X with now := n } k) (meeC { X with now := n } k (seenOf { X with now := n } k).1 N)
  omega
theorem joC_l {M : Nat} (hT : Ta.Ti X.T M) (n : Int) (k : K) (x t : Int) (N : Cn) : (joC X n k x t N).t + (joX X n k x t).L.length ≤ N.t + X.L.length + 2 := by
 rcases jo_seat hT n k x t with ⟨_, e⟩ | ⟨hw, h0, e, _⟩
 ·rw [e]
  have := (joC_b X n k x t N).1
  omega
 ·rw [e, List.length_append, List.length_singleton]
  suffices (joC X n k x t N).t ≤ N.t + 1 by omega
  have e2 : joJ X n k x t = if telB { X with now := n } k then telJ { X with now := n } k else waiJ (telX { X with now := n } k) k x := by unfold joJ; rw [if_neg (by simpa using h0)]
  have e3 : joC X n k x t N = if telB { X with now := n } k then meeC { X with now := n } k (seenOf { X with now := n } k).1 N else waiC (telX { X with now := n } k) k x (meeC { X with now := n } k (seenOf { X with now := n } k).1 N) := by unfold joC; rw [if_neg (by simpa using h0)]
  rw [e2] at hw
  rw [e3]
  cases hb : telB { X with now := n } k with
  | true =>
   rw [hb] at hw
   exact absurd hw (telJ_how _ _)
  | false =>
   rw [hb] at hw
   simp only [Bool.false_eq_true, if_false] at hw ⊢
   obtain ⟨t1, _⟩ := tel_no hb
   have t1 : (telX { X with now := n } k).T = X.T := t1
   have hmee : meeC { X with now := n } k (seenOf { X with now := n } k).1 N = N := by
    unfold meeC
    split
    ·rename_i h2
     have hr : renB { X with now := n } k = false := by
      unfold telB meeB at hb
      rw [h2] at hb
      exact hb
     unfold renB at hr
     simp only [Bool.or_eq_false_iff, decide_eq_false_iff_not] at hr
     obtain ⟨r1, r2⟩ := hr
     have r1 : Ta.curOf X.T k = none := by
      cases hc : Ta.curOf X.T k with
      | none => rfl
      | some _ => rw [hc] at r1; cases r1
     exfalso
     unfold waiJ at hw
     rw [t1, r1] at hw
     simp only at hw
     by_cases hz : Ta.tBegE X.T k x false = 0
     ·obtain ⟨b1, _, _, b4⟩ := Ta.tBegE_zero hz
      apply r2
      show Ta.tBegE X.T k 0 true = 0
      unfold Ta.tBegE
      rw [if_neg (by simp [Ta.mayK, b1]), if_neg (by simp [Ta.badC]), r1, if_neg (by simp), if_neg b4]
     ·rw [if_neg hz] at hw
      simp at hw
    ·rfl
   rw [hmee]
   unfold waiC
   split
   ·simp
   ·split <;> simp
theorem ed_l (X : Gp) (n r : Int) (o : O) : (edX X n r o).L = if edE X n r o = 0 then Lv.outL 1 r X.L else X.L := by
 unfold edX
 by_cases h : edE X n r o = 0
 ·rw [if_neg (by simpa using h), if_pos h]
  split
  ·rw [(rlX_now _ _).2.2]; rfl
  ·rfl
 ·rw [if_pos h, if_neg h]
end
theorem gone_len (X : Gp) (n r : Int) (o : O) : (edG X n r o).length ≤ 1 := by
 unfold edG Me.kpG Me.goneL
 split
 ·split <;> simp
 ·simp
/-! ### Rows of those who leave or are told -/
theorem tv5 {B : Nat} {w : World} {a : Option Addr} {n c : Nat} {xs : List Int} {o : O} (h : Ta.Tv B w (.slice a n c) xs o) {j : Nat} (hj : j < xs.length) : ∃ t, a = some ⟨t, 0, none⟩ ∧ w.cell? ⟨t, j * 5, none⟩ = some (.int .i64 xs[j]) ∧ w.cell? ⟨t, j * 5 + 1, none⟩ = some (.int .i64 o.1) ∧ w.cell? ⟨t, j * 5 + 2, none⟩ = some (.int .i64 o.2.1) ∧ w.cell? ⟨t, j * 5 + 3, none⟩ = some (.int .i64 o.2.2.1) ∧ w.cell? ⟨t, j * 5 + 4, none⟩ = some (.int .i64 o.2.2.2) := by
 obtain ⟨a', c', e, h1 | ⟨t, cur, e1, h2, h3, h4⟩⟩ := h
 ·subst h1; simp at hj
 ·simp only [Value.slice.injEq] at e
  obtain ⟨p0, p1, p2, p3, p4⟩ := h4 j xs[j] (List.getElem?_eq_getElem hj)
  exact ⟨t, by rw [e.1]; exact e1, cell_at h3 p0, cell_at h3 p1, cell_at h3 p2, cell_at h3 p3, cell_at h3 p4⟩
theorem tv_len {B : Nat} {w : World} {v : Value} {xs : List Int} {o : O} (h : Ta.Tv B w v xs o) : ∃ a c, v = .slice a xs.length c := by
 obtain ⟨a, c, e, _⟩ := h
 exact ⟨a, c, e⟩
end Go.Proofs.YtllchnancjgijaaGreat
/- The contracts of the program's hash, part and place of a key, by plain numbers; a key's space is a number of 16 bits, a name's length fits. -/
namespace Go.Proofs.YtllchnancjgijaaGreat.Ky
open Go.RowKit Go.Sort
theorem take_snoc (s : ByteArray) (k : Nat) (h : k < s.size) : s.data.toList.take (k + 1) = s.data.toList.take k ++ [s[k]] := by
 rw [List.take_succ_eq_append_getElem (by simpa using h)]; rfl
def byt (x : Int) : UInt8 := UInt8.ofNat x.toNat
theorem byt_toNat (x : Int) (h0 : 0 ≤ x) (h1 : x ≤ 255) : ((byt x).toNat : Int) = x := by
 unfold byt
 rw [UInt8.toNat_ofNat']
 omega
def hd3 (a : Int) (s : ByteArray) : ByteArray := ⟨#[byt (a % 256), byt (a / 256), byt ((s.size : Int) % 256)]⟩
theorem head65 (a : Int) (s : ByteArray) (w : World) (h0 : 0 ≤ a) (h1 : a ≤ 65535) (hs : s.size ≤ 9223372036854775807) :
  Calls Tryz.prog 174 #[.agg #[.int .u16 a, .string s]] w fun e w' => e = .returned (.agg #[.int .u8 (a % 256), .int .u8 (a / 256), .int .u8 ((s.size : Int) % 256)]) ∧ ∃ o1 o2, w' = (w.alloc o1).alloc o2 := by
 go_enter Tryz.func174, Tryz.ntmps174
 go_wp2
 exact bodyPost_ret (v := .agg #[.int .u8 (a % 256), .int .u8 (a / 256), .int .u8 ((s.size : Int) % 256)]) (by simp [results, Tryz.results174, go_sem]) rfl ⟨rfl, _, _, rfl⟩
theorem ret_int {k : IntKind} {a b : Int} (h : a = b) : Ending.returned (.int k a) = .returned (.int k b) := by rw [h]
theorem mod_lt (a : Nat) : a % 18446744073709551616 < 18446744073709551616 := Nat.mod_lt _ (by omega)
def hStep (h : Nat) (c : UInt8) : Nat := (h ^^^ c.toNat) * 1099511628211 % 18446744073709551616
def hFold (a : Nat) (l : List UInt8) : Nat := l.foldl hStep a
theorem hFold_lt (a : Nat) (ha : a < 18446744073709551616) (l : List UInt8) : hFold a l < 18446744073709551616 := by
 unfold hFold
 induction l generalizing a with
 | nil => exact ha
 | cons c l ih => exact ih _ (mod_lt _)
theorem foldl_snoc (f : Nat → UInt8 → Nat) (a : Nat) (l : List UInt8) (c : UInt8) : (l ++ [c]).foldl f a = f (l.foldl f a) c := by simp
theorem foldl_app (f : Nat → UInt8 → Nat) (a : Nat) (l m : List UInt8) : (l ++ m).foldl f a = m.foldl f (l.foldl f a) := by simp
theorem hFold_snoc (a : Nat) (l : List UInt8) (c : UInt8) : hFold a (l ++ [c]) = hStep (hFold a l) c := foldl_snoc hStep a l c
theorem hFold_app (a : Nat) (l m : List UInt8) : hFold a (l ++ m) = hFold (hFold a l) m := foldl_app hStep a l m
theorem h_step (h : Nat) (c : UInt8) (hh : h < 18446744073709551616) (z : Int) (hz : IntKind.u64.wrap z = (c.toNat : Int)) : IntKind.u64.wrap (bits .xor .u64 (h : Int) (IntKind.u64.wrap z) * 1099511628211) = ((hStep h c : Nat) : Int) := by
 have hc : c.toNat < 256 := c.toNat_lt
 rw [hz]
 rw [bits_xor_u64_nat h c.toNat hh (by omega), IntKind.wrap_u64]
 unfold hStep
 rw [Int.natCast_emod, Int.natCast_mul]
 rfl
theorem fold3 (f : Nat → UInt8 → Nat) (a : Nat) (p q r : UInt8) : ∃ H : Nat → Nat, H 0 = a ∧ H 1 = f (H 0) p ∧ H 2 = f (H 1) q ∧ H 3 = f (H 2) r ∧ [p, q, r].foldl f a = H 3 :=
 ⟨fun k => ([p, q, r].take k).foldl f a, rfl, rfl, rfl, rfl, rfl⟩
theorem hStep_lt (h : Nat) (c : UInt8) : hStep h c < 18446744073709551616 := mod_lt _
theorem h_step' (h : Nat) (c : UInt8) (hh : h < 18446744073709551616) : IntKind.u64.wrap (bits .xor .u64 (h : Int) (c.toNat : Int) * 1099511628211) = ((hStep h c : Nat) : Int) := by
 have hc : c.toNat < 256 := c.toNat_lt
 rw [bits_xor_u64_nat h c.toNat hh (by omega), IntKind.wrap_u64]
 unfold hStep
 rw [Int.natCast_emod, Int.natCast_mul]
 rfl
def hMid (h : Nat) : Nat := (h ^^^ h / 4294967296) * 11400714819323198485 % 18446744073709551616
def hEnd (h : Nat) : Nat := h ^^^ h / 536870912
theorem hEnd_lt (h : Nat) (hh : h < 18446744073709551616) : hEnd h < 18446744073709551616 := by
 unfold hEnd
 exact Nat.xor_lt_two_pow (n := 64) (by omega) (by omega)
theorem h_mid (h : Nat) (hh : h < 18446744073709551616) : IntKind.u64.wrap (bits .xor .u64 (h : Int) ((h : Int) / 4294967296) * 11400714819323198485) = ((hMid h : Nat) : Int) := by
 rw [show (h : Int) / 4294967296 = ((h / 4294967296 : Nat) : Int) by omega, bits_xor_u64_nat h (h / 4294967296) hh (by omega), IntKind.wrap_u64]
 unfold hMid
 rw [Int.natCast_emod, Int.natCast_mul]
 rfl
theorem h_end (h : Nat) (hh : h < 18446744073709551616) : bits .xor .u64 (h : Int) ((h : Int) / 536870912) = ((hEnd h : Nat) : Int) := by
 rw [show (h : Int) / 536870912 = ((h / 536870912 : Nat) : Int) by omega, bits_xor_u64_nat h (h / 536870912) hh (by omega)]
 rfl
def hStart : Nat := 14695981039346656037
theorem hStart_lt : hStart < 18446744073709551616 := by unfold hStart; omega
def hashK (a : Int) (s : ByteArray) : Nat := hEnd (hMid (hFold hStart (hd3 a s ++ s).data.toList))
theorem hashK_lt (a : Int) (s : ByteArray) : hashK a s < 18446744073709551616 := hEnd_lt _ (mod_lt _)
set_option maxHeartbeats 1000000 in
theorem hash50 (a : Int) (s : ByteArray) (w : World) (h0 : 0 ≤ a) (h1 : a ≤ 65535) (hs : s.size ≤ 9223372036854775807) :
  Calls Tryz.prog 129 #[.agg #[.int .u16 a, .string s]] w fun e w' => e = .returned (.int .u64 (hashK a s : Nat)) ∧ ∃ o1 o2 o3 o4, w' = (((w.alloc o1).alloc o2).alloc o3).alloc o4 := by
 have R : Hid _ := fun w => head65 a s w h0 h1 (by omega)
 obtain ⟨p, hp⟩ : ∃ p, p = byt (a % 256) := ⟨_, rfl⟩
 obtain ⟨q, hq⟩ : ∃ q, q = byt (a / 256) := ⟨_, rfl⟩
 obtain ⟨r, hr⟩ : ∃ r, r = byt ((s.size : Int) % 256) := ⟨_, rfl⟩
 have hp' : a % 256 = (p.toNat : Int) := by rw [hp, byt_toNat _ (by omega) (by omega)]
 have hq' : a / 256 = (q.toNat : Int) := by rw [hq, byt_toNat _ (by omega) (by omega)]
 have hr' : (s.size : Int) % 256 = (r.toNat : Int) := by rw [hr, byt_toNat _ (by omega) (by omega)]
 have HD : hd3 a s = ⟨#[p, q, r]⟩ := by rw [hp, hq, hr]; rfl
 have HK : Hid (hashK a s = hEnd (hMid (hFold (hFold hStart [p, q, r]) s.data.toList))) := by
  show hEnd (hMid (hFold hStart (hd3 a s ++ s).data.toList)) = _
  rw [HD, ← hFold_app]
  have e : ((⟨#[p, q, r]⟩ : ByteArray) ++ s).data.toList = [p, q, r] ++ s.data.toList := by simp [ByteArray.data_append]
  rw [e]
 rw [hp', hq', hr'] at R
 generalize hashK a s = hk at *
 clear HD hp hq hr hp' hq' hr' h0 h1
 have P1 := p.toNat_lt
 have Q1 := q.toNat_lt
 have R1 := r.toNat_lt
 go_enter Tryz.func129, Tryz.ntmps129
 go_wp2_with fail
 refine (R.out _).mono ?_
 rintro e w1 ⟨rfl, o2, o3, g1'⟩
 have G : Hid (∃ o1 o2 o3, w1 = ((w.alloc o1).alloc o2).alloc o3) := ⟨_, o2, o3, g1'⟩
 have g1 : Touch [] (w.alloc (.cells #[.int .u16 a, .string s] 35)) w1 := by rw [g1']; exact ((Touch.refl _ _).alloc _).alloc _
 clear g1'
 have c1 : ∀ o, (w1.alloc o).cell? ⟨w.heap.size, 1, none⟩ = some (.string s) := fun o => cell_at ((g1.alloc o).keep (heap_alloc_new w _) (by simp)) rfl
 clear g1
 go_wp2_with fail
 obtain ⟨H, h_0, h_1, h_2, h_3, h_f⟩ := fold3 hStep hStart p q r
 have l0 : H 0 < 18446744073709551616 := by rw [h_0]; exact hStart_lt
 have l1 : H 1 < 18446744073709551616 := by rw [h_1]; exact hStep_lt _ _
 have l2 : H 2 < 18446744073709551616 := by rw [h_2]; exact hStep_lt _ _
 have l3 : H 3 < 18446744073709551616 := by rw [h_3]; exact hStep_lt _ _
 have H0 : Hid ((14695981039346656037 : Int) = ((H 0 : Nat) : Int)) := by rw [h_0]; show _ = _; unfold hStart; rfl
 have s0 : IntKind.u64.wrap (bits .xor .u64 ((H 0 : Nat) : Int) (p.toNat : Int) * 1099511628211) = ((H 1 : Nat) : Int) := by rw [h_step' _ _ l0, h_1]
 have s1 : IntKind.u64.wrap (bits .xor .u64 ((H 1 : Nat) : Int) (q.toNat : Int) * 1099511628211) = ((H 2 : Nat) : Int) := by rw [h_step' _ _ l1, h_2]
 have s2 : IntKind.u64.wrap (bits .xor .u64 ((H 2 : Nat) : Int) (r.toNat : Int) * 1099511628211) = ((H 3 : Nat) : Int) := by rw [h_step' _ _ l2, h_3]
 have HE : Hid (hFold hStart [p, q, r] = H 3) := h_f
 have HL : Hid (H 3 < 18446744073709551616) := l3
 clear h_0 h_1 h_2 h_3 h_f l0 l1 l2 l3
 go_loop [3, 9] (fun h i => ∃ k : Nat, k ≤ 3 ∧ i = .int .i64 k ∧ h = .int .u64 (H k : Nat)) (fun _ i => 3 - (intOf i).toNat)
 case atStart => exact ⟨0, Nat.zero_le _, rfl, by rw [← H0.out]⟩
 case round =>
  obtain ⟨k, hk', rfl, rfl⟩ := hrel
  by_cases hlt : k < 3
  ·have : k = 0 ∨ k = 1 ∨ k = 2 := by omega
   rcases this with rfl | rfl | rfl
   ·clear s1 s2
    go_wp2
    go_round
    case rel => exact ⟨1, by omega, rfl, rfl⟩
    case measure => simp [intOf]
   ·clear s0 s2
    go_wp2
    go_round
    case rel => exact ⟨2, by omega, rfl, rfl⟩
    case measure => simp [intOf]
   ·clear s0 s1
    go_wp2
    go_round
    case rel => exact ⟨3, by omega, rfl, rfl⟩
    case measure => simp [intOf]
  ·obtain rfl : k = 3 := by omega
   have h3 := HL.out
   rw [HE.out] at HK
   clear s0 s1 s2 HL HE H0
   generalize H 3 = B at *
   go_wp2
   go_loop [3, 23] (fun h i => ∃ k : Nat, k ≤ s.size ∧ i = .int .i64 k ∧ h = .int .u64 (hFold B (s.data.toList.take k) : Nat)) (fun _ i => s.size - (intOf i).toNat)
   case atStart => exact ⟨0, Nat.zero_le _, rfl, rfl⟩
   case round =>
    obtain ⟨k, hk', rfl, rfl⟩ := hrel
    have hlt0 := hFold_lt B h3 (s.data.toList.take k)
    by_cases hlt : k < s.size
    ·have hst := h_step (hFold B (s.data.toList.take k)) s[k] hlt0 (s[k].toNat : Int) (by have := s[k].toNat_lt; rw [IntKind.wrap_u64]; omega)
     rw [← hFold_snoc, ← take_snoc s k hlt] at hst
     clear hlt0
     go_wp2
     go_round
     case rel => exact ⟨k + 1, by omega, by go_num, rfl⟩
     case measure => simp [intOf]; omega
    ·have e : s.data.toList.take k = s.data.toList := List.take_of_length_le (by show s.size ≤ k; omega)
     rw [e] at hlt0 ⊢
     generalize hFold B s.data.toList = H at *
     have m1 := h_mid H hlt0
     have m2 := h_end (hMid H) (mod_lt _)
     have M1 : hMid H < 18446744073709551616 := mod_lt _
     go_wp2
     go_ret
     obtain ⟨o1, o2, o3, hw⟩ := G.out
     exact ⟨ret_int (by rw [HK.out]), o1, o2, o3, _, by rw [hw]⟩
def partN (h n : Nat) : Nat := h / 4294967296 * n / 4294967296
theorem partN_lt (h n : Nat) (hh : h < 18446744073709551616) (hn : 1 ≤ n) : partN h n < n := by
 unfold partN
 have h1 : h / 4294967296 ≤ 4294967295 := by omega
 have h2 : h / 4294967296 * n ≤ 4294967295 * n := Nat.mul_le_mul_right n h1
 omega
theorem partN_eq (h n : Nat) : h / 4294967296 * 4294967296 * n / 18446744073709551616 = partN h n := by
 unfold partN
 generalize h / 4294967296 = A
 rw [Nat.mul_right_comm]
 generalize A * n = B
 omega
theorem wrap_range (z : Int) : 0 ≤ IntKind.u64.wrap z ∧ IntKind.u64.wrap z < 18446744073709551616 := by rw [IntKind.wrap_u64]; omega
theorem mul_form (x y : Int) (hx0 : 0 ≤ x) (hx : x < 18446744073709551616) (hy0 : 0 ≤ y) (hy : y < 18446744073709551616) :
  IntKind.u64.wrap (IntKind.u64.wrap (IntKind.u64.wrap (x / 4294967296 * (y / 4294967296)) +
    IntKind.u64.wrap (IntKind.u64.wrap (x / 4294967296 * bits .and .u64 y 4294967295) + IntKind.u64.wrap (bits .and .u64 x 4294967295 * bits .and .u64 y 4294967295) / 4294967296) / 4294967296) +
   IntKind.u64.wrap (bits .and .u64 (IntKind.u64.wrap (IntKind.u64.wrap (x / 4294967296 * bits .and .u64 y 4294967295) + IntKind.u64.wrap (bits .and .u64 x 4294967295 * bits .and .u64 y 4294967295) / 4294967296)) 4294967295 +
    IntKind.u64.wrap (bits .and .u64 x 4294967295 * (y / 4294967296))) / 4294967296) = x * y / 18446744073709551616 := by
 rw [and_low32 x hx0 hx, and_low32 y hy0 hy, and_low32 (IntKind.u64.wrap _) (wrap_range _).1 (wrap_range _).2]
 simp only [IntKind.wrap_u64]
 exact mul64_arith x y hx0 hx hy0 hy
theorem ret2 {a b c d : Int} (h1 : a = b) (h2 : c = d) : Ending.returned (.tuple #[.int .u64 a, .int .u64 c]) = .returned (.tuple #[.int .u64 b, .int .u64 d]) := by rw [h1, h2]
set_option maxHeartbeats 1000000 in
theorem mul_ (x y : Int) (hx0 : 0 ≤ x) (hx : x < 18446744073709551616) (hy0 : 0 ≤ y) (hy : y < 18446744073709551616) (w : World) :
  Calls Tryz.prog 173 #[.int .u64 x, .int .u64 y] w fun e w' => e = .returned (.tuple #[.int .u64 (x * y / 18446744073709551616), .int .u64 (x * y % 18446744073709551616)]) ∧ w' = w := by
 have hf := mul_form x y hx0 hx hy0 hy
 have HF : Hid (_ = x * y / 18446744073709551616) := hf
 clear hf
 go_enter Tryz.func173, Tryz.ntmps173
 go_wp2
 go_ret2
 exact ⟨ret2 HF.out (IntKind.wrap_u64 _), rfl⟩
theorem tpart_ (x n : Nat) (hx : x < 18446744073709551616) (h1 : 1 ≤ n) (h2 : n ≤ 65536) (hq : x * n / 18446744073709551616 < 65536) (w : World) :
  Calls Tryz.prog 128 #[.int .u64 x, .int .i64 n] w fun e w' => e = .returned (.tuple #[.int .i64 ((x * n / 18446744073709551616 : Nat) : Int), .int .i64 0]) ∧ w' = w := by
 have M : Hid _ := hid (fun w => mul_ x n (by omega) (by omega) (by omega) (by omega) w)
 have e1 : ((x : Int) * n / 18446744073709551616) = ((x * n / 18446744073709551616 : Nat) : Int) := by simp
 have e2 : ((x : Int) * n % 18446744073709551616) = ((x * n % 18446744073709551616 : Nat) : Int) := by simp
 rw [e1, e2] at M
 have h1' : ¬ (n : Int) < 1 := by omega
 have wn : IntKind.u64.wrap (n : Int) = (n : Int) := by rw [IntKind.wrap_u64]; omega
 generalize x * n / 18446744073709551616 = Q at *
 generalize x * n % 18446744073709551616 = L at *
 have wq : IntKind.i64.wrap (Q : Int) = (Q : Int) := by rw [IntKind.wrap_i64]; omega
 have q1 : (Q : Int) < 65536 := by omega
 clear hx h1 h2 hq e1 e2
 go_enter Tryz.func128, Tryz.ntmps128
 go_wp2_with fail
 refine (M.out _).mono ?_
 rintro e w1 ⟨rfl, rfl⟩
 go_wp2_with fail
 go_ret2
 exact ⟨rfl, rfl⟩
def plc (k : K) (n : Nat) : Nat := partN (hashK k.1 k.2) n
theorem plc_lt (k : K) {n : Nat} (hn : 1 ≤ n) : plc k n < n := partN_lt _ _ (hashK_lt _ _) hn
set_option maxHeartbeats 1000000 in
theorem part_ok (k : K) (hk : Ok k) (n : Nat) (n1 : 1 ≤ n) (n2 : n ≤ 65536) (w : World) :
  Calls Tryz.prog 84 #[kv k, .int .i64 n] w fun e w' => e = .returned (.tuple #[.int .i64 (plc k n : Nat), .int .i64 0]) ∧ Touch [] w w' := by
 have hk1 : 0 ≤ k.1 ∧ k.1 ≤ 65535 := by
  have := hk.1
  simp [Lit.wf] at this
  exact ⟨this.1, this.2⟩
 have hk2 : k.2.size ≤ 9223372036854775807 := by have := hk.2; unfold maxLen at this; omega
 have A1 : Hid _ := hid (fun w => hash50 k.1 k.2 w hk1.1 hk1.2 hk2)
 have hl := hashK_lt k.1 k.2
 have hp := partN_lt (hashK k.1 k.2) n hl n1
 have he := partN_eq (hashK k.1 k.2) n
 have A2 : Hid _ := hid (fun w => tpart_ (hashK k.1 k.2 / 4294967296 * 4294967296) n (by omega) n1 n2 (by rw [he]; omega) w)
 rw [he] at A2
 unfold plc
 have hn1 : ¬ (n : Int) < 1 := by omega
 have hn2 : ¬ (65536 : Int) < (n : Int) := by omega
 generalize hashK k.1 k.2 = h at *
 have hsh : IntKind.u64.wrap ((h : Int) / 4294967296 * 4294967296) = ((h / 4294967296 * 4294967296 : Nat) : Int) := by rw [IntKind.wrap_u64]; omega
 generalize partN h n = Q at *
 clear he hp n1 n2 hk1 hk2 hk
 unfold kv
 go_enter Tryz.func84, Tryz.ntmps84
 go_wp2_with fail
 refine (A1.out _).mono ?_
 rintro e w1 ⟨rfl, o1, o2, o3, o4, g1⟩
 have G : Hid (Touch [] w w1) := hid (by rw [g1]; exact (((((Touch.refl _ _).alloc _).alloc _).alloc _).alloc _).alloc _)
 clear g1
 go_wp2_with fail
 refine (A2.out _).mono ?_
 rintro e w2 ⟨rfl, rfl⟩
 go_wp2_with fail
 go_ret2
 exact ⟨rfl, G.out⟩
end Go.Proofs.YtllchnancjgijaaGreat.Ky
/- Shards in memory: a row of groups side by side, the map of who waits where, the map of cancelled tokens; how a step of one group is a step of all; no conditions. -/
namespace Go.Proofs.YtllchnancjgijaaGreat
open Go.RowKit Go.Maps Go.ChangeMaps
section
variable {P : Program} {kt : TypeId} {K : Type} {c : KK P kt K} {w w' : World} {b b' n n' : Nat} {f f' : K → Option Value}
theorem MapK.keysS (h : MapK c w b n f) : ∃ ls : List Lit, ls.Nodup ∧ ls.length = n ∧ ∀ l, l ∈ ls ↔ ∃ k, c.ok k ∧ l = c.lit k ∧ (f k).isSome = true := by
 obtain ⟨D, h1, h2, h3⟩ := h
 obtain ⟨es, rfl, hp, hk⟩ := h1.entries c.keyed
 refine ⟨es.map (·.1), List.pairwise_map.2 hp, by rw [List.length_map, ← h2]; rfl, fun l => ?_⟩
 constructor
 ·intro hl
  obtain ⟨q, hq, rfl⟩ := List.mem_map.1 hl
  have hh : Maps.has (.map es) q.1 = true := by rw [Maps.has_eq]; exact List.any_eq_true.2 ⟨q, hq, WideAt.sameKey_self (hk q hq)⟩
  obtain ⟨k, hk', e⟩ := h3.dom _ hh
  refine ⟨k, hk', e, ?_⟩
  rw [← (h3.at_ k hk').1, ← e]
  exact hh
 ·rintro ⟨k, hk', rfl, hs⟩
  rw [← (h3.at_ k hk').1, Maps.has_eq] at hs
  obtain ⟨q, hq, e⟩ := List.any_eq_true.1 hs
  exact List.mem_map.2 ⟨q, hq, WideAt.sameKey_eq e⟩
theorem MapK.sizeS (h : MapK c w b n f) (h' : MapK c w' b' n' f') (hf : ∀ k, c.ok k → (f k).isSome = (f' k).isSome) : n = n' := by
 obtain ⟨ls, a1, rfl, a3⟩ := h.keysS
 obtain ⟨ms, b1, rfl, b3⟩ := h'.keysS
 refine ((List.perm_ext_iff_of_nodup a1 b1).2 (fun l => ?_)).length_eq
 rw [a3, b3]
 constructor
 ·rintro ⟨k, q1, q2, q3⟩
  exact ⟨k, q1, q2, by rw [← hf k q1]; exact q3⟩
 ·rintro ⟨k, q1, q2, q3⟩
  exact ⟨k, q1, q2, by rw [hf k q1]; exact q3⟩
end
structure Gu where
 g : Nat
 P : Pt
 F : List Nat
 X : Gp
 N : Cn
structure Gk (X : Gp) (N : Cn) (M : Nat) : Prop where
 gi : Gi X
 gt : Gt X
 nt : N.t + X.L.length ≤ M
 nb : N.b ≤ M
 ns : 2 * N.s ≤ M
theorem Gk.mono {X : Gp} {N : Cn} {M M' : Nat} (h : Gk X N M) (hm : M ≤ M') : Gk X N M' := ⟨h.gi, h.gt, by have := h.nt; omega, by have := h.nb; omega, by have := h.ns; omega⟩
def shc (gv : Value) (now : Int) (mw mc : Nat) : Array Value := #[gv, .int .i64 now, .map (some mw), .map (some mc)]
theorem Rs.keepK {t k n : Nat} {w w' : World} {v : Value} {vs : List Value} (h : Rs t k w v n vs) (hk : ∀ (g : Nat) (cs : Array Value) (z : Nat × Nat), w.heap[g]? = some (.cells cs t z) → w'.heap[g]? = some (.cells cs t z)) : Rs t k w' v n vs := by
 obtain ⟨h1, a, c, rfl, h2, h3, h4⟩ := h
 refine ⟨h1, a, c, rfl, h2, h3, fun hp => ?_⟩
 obtain ⟨g, off, rfl, cs, z, h5, h6⟩ := h4 hp
 exact ⟨g, off, rfl, cs, z, hk _ _ _ h5, h6⟩
structure Hx (w : World) (s : Nat) (gv : Value) (mw mc : Nat) (U : List Gu) (now : Int) (f : Int → Option Value) (G : List Int) (M : Nat) : Prop where
 bl : w.heap[s]? = some (.cells (shc gv now mw mc) 100 (0, 0))
 rs : Rs 29 1 w gv U.length (U.map (fun u => PT u.g))
 wm : ∃ n, n ≤ M ∧ MapK KI w mw n f
 cm : ∃ n, n ≤ M ∧ MapK KI w mc n (Lv.kmap G)
 gs : ∀ u ∈ U, Gq w u.g u.P u.F u.X u.N
 dj : U.Pairwise (fun u v => Dj u.F v.F)
 nm : mw ≠ mc
 ow : ∀ u ∈ U, ¬ mw ∈ u.F ∧ ¬ mc ∈ u.F
 gk : ∀ u ∈ U, Gk u.X u.N M
def fpH (s mw mc : Nat) (U : List Gu) : List Nat := s :: mw :: mc :: U.flatMap Gu.F
theorem mem_fpH {s mw mc k : Nat} {U : List Gu} : k ∈ fpH s mw mc U ↔ k = s ∨ k = mw ∨ k = mc ∨ ∃ u ∈ U, k ∈ u.F := by
 simp [fpH, List.mem_flatMap]
def boxS (t : Nat) : Bool := boxT t && !(t == 100) && !(t == 29)
theorem boxS_of {t : Nat} (h : boxS t = true) : boxT t = true ∧ t ≠ 100 ∧ t ≠ 29 := by
 unfold boxS at h
 simp only [Bool.and_eq_true, Bool.not_eq_true', beq_eq_false_iff_ne] at h
 exact ⟨h.1.1, h.1.2, h.2⟩
def KeepS (w w' : World) : Prop := ∀ (k : Nat) (cs : Array Value) (t : TypeId) (z : Nat × Nat), boxS t = true → w.heap[k]? = some (.cells cs t z) → w'.heap[k]? = some (.cells cs t z)
theorem Touch.keepS {w w' : World} (T : Touch [] w w') : KeepS w w' := fun k cs t z _ hk => T.keep hk (by simp)
section
variable {w w' : World} {s mw mc : Nat} {gv : Value} {U : List Gu} {now : Int} {f : Int → Option Value} {G : List Int} {M M' : Nat} {D : List Nat}
theorem Hx.mono (h : Hx w s gv mw mc U now f G M) (hm : M ≤ M') : Hx w s gv mw mc U now f G M' := by
 obtain ⟨n, hn, hw⟩ := h.wm
 obtain ⟨n2, hn2, hc⟩ := h.cm
 exact { h with wm := ⟨n, by omega, hw⟩, cm := ⟨n2, by omega, hc⟩, gk := fun u hu => (h.gk u hu).mono hm }
theorem Hx.lt (h : Hx w s gv mw mc U now f G M) : ∀ k, k ∈ fpH s mw mc U → k < w.heap.size := fun k hk => by
 obtain ⟨n, hn, hw⟩ := h.wm
 obtain ⟨n2, hn2, hc⟩ := h.cm
 rcases mem_fpH.1 hk with e | e | e | ⟨u, hu, e⟩
 ·subst e; exact block_lt h.bl
 ·subst e; exact hw.lt
 ·subst e; exact hc.lt
 ·exact (h.gs u hu).lt k e
theorem Hx.snot (h : Hx w s gv mw mc U now f G M) : ∀ u ∈ U, ¬ s ∈ u.F := fun u hu => (h.gs u hu).away h.bl (by decide)
theorem Hx.smaps (h : Hx w s gv mw mc U now f G M) : s ≠ mw ∧ s ≠ mc := by
 obtain ⟨n, hn, hw⟩ := h.wm
 obtain ⟨n2, hn2, hc⟩ := h.cm
 constructor
 ·intro e
  obtain ⟨es, cl, hb⟩ := hw.kind
  rw [← e, h.bl] at hb
  cases hb
 ·intro e
  obtain ⟨es, cl, hb⟩ := hc.kind
  rw [← e, h.bl] at hb
  cases hb
theorem Hx.keep (h : Hx w s gv mw mc U now f G M) (T : Touch D w w') (hD : ∀ k, k ∈ fpH s mw mc U → ¬ k ∈ D) (hr : ∀ (g : Nat) (cs : Array Value) (z : Nat × Nat), w.heap[g]? = some (.cells cs 29 z) → ¬ g ∈ D) : Hx w' s gv mw mc U now f G M := by
 obtain ⟨n, hn, hw⟩ := h.wm
 obtain ⟨n2, hn2, hc⟩ := h.cm
 exact { h with
  bl := T.keep h.bl (hD s (mem_fpH.2 (Or.inl rfl)))
  rs := h.rs.keepK (fun g cs z hg => T.keep hg (hr g cs z hg))
  wm := ⟨n, hn, hw.keep T (hD mw (mem_fpH.2 (Or.inr (Or.inl rfl))))⟩
  cm := ⟨n2, hn2, hc.keep T (hD mc (mem_fpH.2 (Or.inr (Or.inr (Or.inl rfl)))))⟩
  gs := fun u hu => (h.gs u hu).keep T (fun k hk => hD k (mem_fpH.2 (Or.inr (Or.inr (Or.inr ⟨u, hu, hk⟩))))) }
theorem Hx.keep0 (h : Hx w s gv mw mc U now f G M) (T : Touch [] w w') : Hx w' s gv mw mc U now f G M := h.keep T (fun _ _ e => by cases e) (fun _ _ _ _ e => by cases e)
theorem Hx.away (h : Hx w s gv mw mc U now f G M) {b : Nat} {cs : Array Value} {t : TypeId} {z : Nat × Nat} (hb : w.heap[b]? = some (.cells cs t z)) (ht : boxT t = true) (ht' : t ≠ 100) : ¬ b ∈ fpH s mw mc U := fun e => by
 obtain ⟨n, hn, hw⟩ := h.wm
 obtain ⟨n2, hn2, hc⟩ := h.cm
 rcases mem_fpH.1 e with e | e | e | ⟨u, hu, e⟩
 ·rw [e, h.bl] at hb
  simp only [Option.some.injEq, Obj.cells.injEq] at hb
  exact ht' hb.2.1.symm
 ·obtain ⟨es, cl, hm⟩ := hw.kind
  rw [e, hm] at hb; cases hb
 ·obtain ⟨es, cl, hm⟩ := hc.kind
  rw [e, hm] at hb; cases hb
 ·exact (h.gs u hu).away hb ht e
theorem Hx.box (h : Hx w s gv mw mc U now f G M) {b : Nat} {cs : Array Value} {t : TypeId} {z : Nat × Nat} (hb : w.heap[b]? = some (.cells cs t z)) (ht : boxS t = true) (T : Touch [b] w w') : Hx w' s gv mw mc U now f G M := by
 obtain ⟨h1, h2, h3⟩ := boxS_of ht
 refine h.keep T (fun k hk e => ?_) (fun g cs z hg e => ?_)
 ·simp only [List.mem_singleton] at e
  subst e
  exact h.away hb h1 h2 hk
 ·simp only [List.mem_singleton] at e
  subst e
  rw [hb] at hg
  simp only [Option.some.injEq, Obj.cells.injEq] at hg
  exact h3 hg.2.1
theorem Hx.tick (h : Hx w s gv mw mc U now f G M) (n : Int) : Hx (w.setCell ⟨s, 1, none⟩ (.int .i64 n)) s gv mw mc U n f G M := by
 have T : Touch [s] w (w.setCell ⟨s, 1, none⟩ (.int .i64 n)) := (Touch.refl _ _).setCell (Or.inl (by simp)) _
 obtain ⟨n1, hn, hw⟩ := h.wm
 obtain ⟨n2, hn2, hc⟩ := h.cm
 obtain ⟨e1, e2⟩ := h.smaps
 refine { h with bl := ?_, rs := ?_, wm := ⟨n1, hn, hw.keep T (by simpa using e1.symm)⟩, cm := ⟨n2, hn2, hc.keep T (by simpa using e2.symm)⟩, gs := fun u hu => (h.gs u hu).keep T (fun k hk e => ?_) }
 ·have := bset h.bl (i := 1) (.int .i64 n)
  unfold shc at this ⊢
  simpa using this
 ·refine h.rs.keepK (fun g cs z hg => T.keep hg (fun e => ?_))
  simp only [List.mem_singleton] at e
  rw [e, h.bl] at hg
  simp only [Option.some.injEq, Obj.cells.injEq] at hg
  exact absurd hg.2.1 (by decide)
 ·simp only [List.mem_singleton] at e
  rw [e] at hk
  exact h.snot u hu hk
theorem Hx.wput (h : Hx w s gv mw mc U now f G M) {ob : Obj} {n : Nat} {f' : Int → Option Value} (hn : n ≤ M) (hm : MapK KI (setBlock w mw ob) mw n f') : Hx (setBlock w mw ob) s gv mw mc U now f' G M := by
 have T : Touch [mw] w (setBlock w mw ob) := touch_setBlock (Touch.refl _ _) (Or.inl (by simp)) ob
 obtain ⟨n1, hn1, hw⟩ := h.wm
 obtain ⟨n2, hn2, hc⟩ := h.cm
 obtain ⟨e1, e2⟩ := h.smaps
 obtain ⟨es, cl, hk⟩ := hw.kind
 refine ⟨T.keep h.bl (by simpa using e1), h.rs.keepK (fun g cs z hg => T.keep hg (fun e => ?_)), ⟨n, hn, hm⟩, ⟨n2, hn2, hc.keep T (by simpa using h.nm.symm)⟩, fun u hu => (h.gs u hu).keep T (fun k hk e => ?_), h.dj, h.nm, h.ow, h.gk⟩
 ·simp only [List.mem_singleton] at e
  rw [e, hk] at hg; cases hg
 ·simp only [List.mem_singleton] at e
  rw [e] at hk
  exact (h.ow u hu).1 hk
theorem Hx.grp {A B : List Gu} {u : Gu} (h : Hx w s gv mw mc (A ++ u :: B) now f G M) {X' : Gp} {N' : Cn} (hE : GqE w w' u.g u.P u.F X' N') (hk : Gk X' N' M) : ∃ F', Hx w' s gv mw mc (A ++ ⟨u.g, u.P, F', X', N'⟩ :: B) now f G M ∧ Touch u.F w w' ∧ Nf w u.F F' := by
 obtain ⟨F', q, t, nf⟩ := hE
 obtain ⟨n1, hn1, hw⟩ := h.wm
 obtain ⟨n2, hn2, hc⟩ := h.cm
 have hu : u ∈ A ++ u :: B := by simp
 have hA : ∀ v ∈ A, v ∈ A ++ u :: B := fun v hv => List.mem_append_left _ hv
 have hB : ∀ v ∈ B, v ∈ A ++ u :: B := fun v hv => List.mem_append_right _ (List.mem_cons_of_mem _ hv)
 have hd := List.pairwise_append.1 h.dj
 have hd2 := List.pairwise_cons.1 hd.2.1
 have dA : ∀ v ∈ A, Dj u.F v.F := fun v hv => (hd.2.2 v hv u (by simp)).symm
 have dB : ∀ v ∈ B, Dj u.F v.F := hd2.1
 have hq := h.gs u hu
 refine ⟨F', ⟨t.keep h.bl (h.snot u hu), ?_, ⟨n1, hn1, hw.keep t (h.ow u hu).1⟩, ⟨n2, hn2, hc.keep t (h.ow u hu).2⟩, fun v hv => ?_, ?_, h.nm, fun v hv => ?_, fun v hv => ?_⟩, t, nf⟩
 ·have := h.rs.keepK (fun g cs z hg => t.keep hg (hq.away hg (by decide)))
  simpa using this
 ·rcases List.mem_append.1 hv with e | e
  ·exact (h.gs v (hA v e)).keep t (fun k hk => (dA v e).symm k hk)
  ·rcases List.mem_cons.1 e with e | e
   ·subst e; exact q
   ·exact (h.gs v (hB v e)).keep t (fun k hk => (dB v e).symm k hk)
 ·refine List.pairwise_append.2 ⟨hd.1, List.pairwise_cons.2 ⟨fun v hv => (dB v hv).grow nf (h.gs v (hB v hv)).lt, hd2.2⟩, fun a ha b hb => ?_⟩
  rcases List.mem_cons.1 hb with e | e
  ·subst e
   exact ((dA a ha).grow nf (h.gs a (hA a ha)).lt).symm
  ·exact hd.2.2 a ha b (List.mem_cons_of_mem _ e)
 ·rcases List.mem_append.1 hv with e | e
  ·exact h.ow v (hA v e)
  ·rcases List.mem_cons.1 e with e | e
   ·subst e
    exact ⟨nf.out hw.lt (h.ow u hu).1, nf.out hc.lt (h.ow u hu).2⟩
   ·exact h.ow v (hB v e)
 ·rcases List.mem_append.1 hv with e | e
  ·exact h.gk v (hA v e)
  ·rcases List.mem_cons.1 e with e | e
   ·subst e; exact hk
   ·exact h.gk v (hB v e)
end
structure Hr (w0 : World) (F : List Nat) (w : World) (s : Nat) (gv : Value) (mw mc : Nat) (U : List Gu) (now : Int) (f : Int → Option Value) (G : List Int) (M : Nat) : Prop where
 x : Hx w s gv mw mc U now f G M
 t : Touch F w0 w
 n : Nf w0 F (fpH s mw mc U)
section
variable {w0 w w' : World} {F : List Nat} {s mw mc : Nat} {gv : Value} {U : List Gu} {now : Int} {f : Int → Option Value} {G : List Int} {M M' : Nat} {D : List Nat}
theorem Hr.start (h : Hx w s gv mw mc U now f G M) : Hr w (fpH s mw mc U) w s gv mw mc U now f G M := ⟨h, Touch.refl _ _, Nf.refl _ _⟩
theorem Hr.mono (h : Hr w0 F w s gv mw mc U now f G M) (hm : M ≤ M') : Hr w0 F w s gv mw mc U now f G M' := ⟨h.x.mono hm, h.t, h.n⟩
theorem Hr.keep0 (h : Hr w0 F w s gv mw mc U now f G M) (T : Touch [] w w') : Hr w0 F w' s gv mw mc U now f G M := ⟨h.x.keep0 T, h.t.trans T (fun _ e => by cases e), h.n⟩
theorem Hr.put (h : Hr w0 F w s gv mw mc U now f G M) {b : Nat} {cs : Array Value} {t : TypeId} {z : Nat × Nat} (hb : w.heap[b]? = some (.cells cs t z)) (ht : boxS t = true) (h0 : w0.heap.size ≤ b) (T : Touch [b] w w') : Hr w0 F w' s gv mw mc U now f G M :=
 ⟨h.x.box hb ht T, h.t.trans T (fun i hi => Or.inr (by simp only [List.mem_singleton] at hi; omega)), h.n⟩
theorem keepS_one {b : Nat} (T : Touch [b] w w') (hb : ∀ cs t z, boxS t = true → ¬ w.heap[b]? = some (.cells cs t z)) : KeepS w w' := fun k cs t z ht hk => T.keep hk (fun e => by
 simp only [List.mem_singleton] at e
 subst e
 exact hb _ _ _ ht hk)
theorem Hr.tick (h : Hr w0 F w s gv mw mc U now f G M) (n : Int) : Hr w0 F (w.setCell ⟨s, 1, none⟩ (.int .i64 n)) s gv mw mc U n f G M ∧ KeepS w (w.setCell ⟨s, 1, none⟩ (.int .i64 n)) := by
 have T : Touch [s] w (w.setCell ⟨s, 1, none⟩ (.int .i64 n)) := (Touch.refl _ _).setCell (Or.inl (by simp)) _
 refine ⟨⟨h.x.tick n, h.t.trans T (fun i hi => ?_), h.n⟩, keepS_one T (fun cs t z ht e => ?_)⟩
 ·simp only [List.mem_singleton] at hi
  exact h.n i (by rw [hi]; exact mem_fpH.2 (Or.inl rfl))
 ·rw [h.x.bl] at e
  simp only [Option.some.injEq, Obj.cells.injEq] at e
  exact (boxS_of ht).2.1 e.2.1.symm
theorem Hr.wput (h : Hr w0 F w s gv mw mc U now f G M) {ob : Obj} {n : Nat} {f' : Int → Option Value} (hn : n ≤ M) (hm : MapK KI (setBlock w mw ob) mw n f') : Hr w0 F (setBlock w mw ob) s gv mw mc U now f' G M ∧ Touch [mw] w (setBlock w mw ob) ∧ KeepS w (setBlock w mw ob) := by
 have T : Touch [mw] w (setBlock w mw ob) := touch_setBlock (Touch.refl _ _) (Or.inl (by simp)) ob
 obtain ⟨n1, hn1, hw⟩ := h.x.wm
 obtain ⟨es, cl, hk⟩ := hw.kind
 refine ⟨⟨h.x.wput hn hm, h.t.trans T (fun i hi => ?_), h.n⟩, T, keepS_one T (fun cs t z ht e => ?_)⟩
 ·simp only [List.mem_singleton] at hi
  exact h.n i (by rw [hi]; exact mem_fpH.2 (Or.inr (Or.inl rfl)))
 ·rw [hk] at e; cases e
theorem Hr.grp {A B : List Gu} {u : Gu} (h : Hr w0 F w s gv mw mc (A ++ u :: B) now f G M) {X' : Gp} {N' : Cn} (hE : GqE w w' u.g u.P u.F X' N') (hk : Gk X' N' M) : ∃ F', Hr w0 F w' s gv mw mc (A ++ ⟨u.g, u.P, F', X', N'⟩ :: B) now f G M ∧ KeepS w w' := by
 have hu : u ∈ A ++ u :: B := by simp
 have ks := GqE.keeps (h.x.gs u hu) hE
 obtain ⟨F', hx, t, nf⟩ := h.x.grp hE hk
 have hin : ∀ i, i ∈ u.F → i ∈ F ∨ w0.heap.size ≤ i := fun i hi => h.n i (mem_fpH.2 (Or.inr (Or.inr (Or.inr ⟨u, hu, hi⟩))))
 refine ⟨F', ⟨hx, h.t.trans t hin, fun k hk => ?_⟩, fun k cs t z ht hk => ks k cs t z (boxS_of ht).1 hk⟩
 rcases mem_fpH.1 hk with e | e | e | ⟨v, hv, e⟩
 ·exact h.n k (mem_fpH.2 (Or.inl e))
 ·exact h.n k (mem_fpH.2 (Or.inr (Or.inl e)))
 ·exact h.n k (mem_fpH.2 (Or.inr (Or.inr (Or.inl e))))
 ·rcases List.mem_append.1 hv with q | q
  ·exact h.n k (mem_fpH.2 (Or.inr (Or.inr (Or.inr ⟨v, List.mem_append_left _ q, e⟩))))
  ·rcases List.mem_cons.1 q with q | q
   ·subst q
    rcases nf k e with r | r
    ·exact hin k r
    ·exact Or.inr (Nat.le_trans h.t.size r)
   ·exact h.n k (mem_fpH.2 (Or.inr (Or.inr (Or.inr ⟨v, List.mem_append_right _ (List.mem_cons_of_mem _ q), e⟩))))
end
end Go.Proofs.YtllchnancjgijaaGreat
/- Shards in plain words: who waits where, what holds of the groups together; shards in memory with that; no conditions. -/
namespace Go.Proofs.YtllchnancjgijaaGreat
open Go.RowKit Go.Maps Go.ChangeMaps
def Sit (X : Gp) (c : Int) : Prop := ∃ y ∈ X.L, y.1 = c
theorem whr_sit {X : Gp} {c : Int} : (Lv.whr X.L c).isSome = true ↔ Sit X c := by
 constructor
 ·intro h
  obtain ⟨x, hx⟩ := Option.isSome_iff_exists.1 h
  obtain ⟨h1, h2⟩ := Lv.whr_mem hx
  exact ⟨x, h1, h2⟩
 ·rintro ⟨y, hy, e⟩
  cases hw : Lv.whr X.L c with
  | some x => rfl
  | none => exact absurd e (Lv.whr_none.1 (by rw [hw]; rfl) y hy)
def wpos (l : List Gp) (c : Int) : Option Nat := l.findIdx? (fun X => (Lv.whr X.L c).isSome)
def wmap (l : List Gp) (c : Int) : Option Value := (wpos l c).map (fun p : Nat => Value.int .i64 (p : Int))
def Un (l : List Gp) : Prop := ∀ (i j : Nat) (X Z : Gp), l[i]? = some X → l[j]? = some Z → ∀ c, Sit X c → Sit Z c → i = j
section
variable {l : List Gp} {X X' : Gp} {p : Nat} {c : Int}
theorem wpos_none : wpos l c = none ↔ ∀ Z ∈ l, ¬ Sit Z c := by
 unfold wpos
 rw [List.findIdx?_eq_none_iff]
 refine ⟨fun h Z hZ e => ?_, fun h Z hZ => ?_⟩
 ·have := h Z hZ
  rw [whr_sit.2 e] at this
  cases this
 ·cases hw : (Lv.whr Z.L c).isSome with
  | false => rfl
  | true => exact absurd (whr_sit.1 hw) (h Z hZ)
theorem wpos_sit (h : wpos l c = some p) : ∃ X, l[p]? = some X ∧ Sit X c := by
 unfold wpos at h
 obtain ⟨hp, h1, h2⟩ := List.findIdx?_eq_some_iff_getElem.1 h
 exact ⟨l[p], List.getElem?_eq_getElem hp, whr_sit.1 (by simpa using h1)⟩
theorem wpos_of (hu : Un l) (hp : l[p]? = some X) (hs : Sit X c) : wpos l c = some p := by
 cases hw : wpos l c with
 | none => exact absurd hs (wpos_none.1 hw X (List.mem_of_getElem? hp))
 | some q =>
  obtain ⟨Z, hZ, sZ⟩ := wpos_sit hw
  rw [hu q p Z X hZ hp c sZ hs]
theorem set_at {q : Nat} {Z : Gp} (h : (l.set p X')[q]? = some Z) : (q = p ∧ Z = X') ∨ (q ≠ p ∧ l[q]? = some Z) := by
 rw [List.getElem?_set] at h
 split at h
 ·rename_i e
  split at h
  ·exact Or.inl ⟨e.symm, (Option.some.inj h).symm⟩
  ·cases h
 ·rename_i e
  exact Or.inr ⟨fun e' => e e'.symm, h⟩
theorem Un.set (hu : Un l) (hp : l[p]? = some X) (hX : ∀ c, Sit X' c → Sit X c ∨ ∀ Z ∈ l, ¬ Sit Z c) : Un (l.set p X') := by
 intro i j A B hA hB c sA sB
 rcases set_at hA with ⟨rfl, rfl⟩ | ⟨ni, hA'⟩
 ·rcases set_at hB with ⟨rfl, rfl⟩ | ⟨nj, hB⟩
  ·rfl
  ·rcases hX c sA with e | e
   ·exact hu _ _ _ _ hp hB c e sB
   ·exact absurd sB (e B (List.mem_of_getElem? hB))
 ·rcases set_at hB with ⟨rfl, rfl⟩ | ⟨nj, hB⟩
  ·rcases hX c sB with e | e
   ·exact hu _ _ _ _ hA' hp c sA e
   ·exact absurd sA (e A (List.mem_of_getElem? hA'))
  ·exact hu _ _ _ _ hA' hB c sA sB
theorem lt_of_at (hp : l[p]? = some X) : p < l.length := (List.getElem?_eq_some_iff.1 hp).1
theorem wm_in (hu : Un (l.set p X')) (hp : l[p]? = some X) (hs : Sit X' c) : wmap (l.set p X') c = some (.int .i64 (p : Int)) := by
 unfold wmap
 rw [wpos_of hu (X := X') (by rw [List.getElem?_set_self (lt_of_at hp)]) hs]
 rfl
theorem wm_out (hu : Un l) (hp : l[p]? = some X) (hs : ¬ Sit X' c) (h0 : Sit X c) : wmap (l.set p X') c = none := by
 unfold wmap
 rw [wpos_none.2 (fun Z hZ e => ?_)]
 ·rfl
 ·obtain ⟨q, hq⟩ := List.mem_iff_getElem?.1 hZ
  rcases set_at hq with ⟨rfl, rfl⟩ | ⟨nq, hq⟩
  ·exact hs e
  ·exact nq (hu _ _ _ _ hq hp c e h0)
theorem wm_same (hu : Un l) (hu' : Un (l.set p X')) (hp : l[p]? = some X) (hs : Sit X' c ↔ Sit X c) : wmap (l.set p X') c = wmap l c := by
 unfold wmap
 congr 1
 cases hw : wpos l c with
 | none =>
  refine wpos_none.2 (fun Z hZ e => ?_)
  obtain ⟨q, hq⟩ := List.mem_iff_getElem?.1 hZ
  rcases set_at hq with ⟨rfl, rfl⟩ | ⟨nq, hq⟩
  ·exact wpos_none.1 hw X (List.mem_of_getElem? hp) (hs.1 e)
  ·exact wpos_none.1 hw Z (List.mem_of_getElem? hq) e
 | some q =>
  obtain ⟨Z, hZ, sZ⟩ := wpos_sit hw
  by_cases e : q = p
  ·subst e
   rw [hp] at hZ
   cases hZ
   exact wpos_of hu' (X := X') (by rw [List.getElem?_set_self (lt_of_at hp)]) (hs.2 sZ)
  ·exact wpos_of hu' (X := Z) (by rw [List.getElem?_set_ne (fun h => e h.symm)]; exact hZ) sZ
theorem wmap_keep (hu : Un l) (hp : l[p]? = some X) (hs : ∀ c, Sit X' c ↔ Sit X c) : wmap (l.set p X') = wmap l :=
 funext fun c => wm_same hu (hu.set hp (fun c h => Or.inl ((hs c).1 h))) hp (hs c)
theorem wmap_add (hu : Un l) (hp : l[p]? = some X) {x : Int} (hx : ∀ Z ∈ l, ¬ Sit Z x) (hs : ∀ c, Sit X' c ↔ Sit X c ∨ c = x) : Un (l.set p X') ∧ wmap (l.set p X') = kupd (wmap l) x (.int .i64 (p : Int)) := by
 have hu' : Un (l.set p X') := hu.set hp (fun c h => ((hs c).1 h).imp id (fun e => by rw [e]; exact hx))
 refine ⟨hu', funext fun c => ?_⟩
 unfold kupd
 split
 ·rename_i e
  exact wm_in hu' hp ((hs c).2 (Or.inr e))
 ·rename_i e
  exact wm_same hu hu' hp ⟨fun h => ((hs c).1 h).resolve_right e, fun h => (hs c).2 (Or.inl h)⟩
def kdels (f : Int → Option Value) (xs : List Int) : Int → Option Value := xs.foldl kdel f
theorem kdels_at (xs : List Int) : ∀ (f : Int → Option Value) (c : Int), kdels f xs c = if c ∈ xs then none else f c := by
 unfold kdels
 induction xs with
 | nil => intro f c; simp
 | cons x r ih =>
  intro f c
  rw [List.foldl_cons, ih]
  unfold kdel
  by_cases h1 : c ∈ r
  ·simp [h1]
  ·by_cases h2 : c = x <;> simp [h1, h2]
theorem kdels_snoc (f : Int → Option Value) (xs : List Int) (x : Int) : kdels f (xs ++ [x]) = kdel (kdels f xs) x := by unfold kdels; rw [List.foldl_append]; rfl
theorem wmap_del (hu : Un l) (hp : l[p]? = some X) {xs : List Int} (hx : ∀ x ∈ xs, Sit X x) (hs : ∀ c, Sit X' c ↔ Sit X c ∧ ¬ c ∈ xs) : Un (l.set p X') ∧ wmap (l.set p X') = kdels (wmap l) xs := by
 have hu' : Un (l.set p X') := hu.set hp (fun c h => Or.inl ((hs c).1 h).1)
 refine ⟨hu', funext fun c => ?_⟩
 rw [kdels_at]
 split
 ·rename_i e
  exact wm_out hu hp (fun h => ((hs c).1 h).2 e) (hx c e)
 ·rename_i e
  exact wm_same hu hu' hp ⟨fun h => ((hs c).1 h).1, fun h => (hs c).2 ⟨h, e⟩⟩
end
structure Si (l : List Gp) (now : Int) (G : List Int) : Prop where
 l1 : 1 ≤ l.length
 l2 : l.length ≤ 64
 z : 0 ≤ now
 t : now ≤ 4611686018427387904
 nw : ∀ X ∈ l, X.now ≤ now
 gg : ∀ X ∈ l, X.G = G
 un : Un l
 cf : ∀ X ∈ l, ∀ Z ∈ l, X.c = Z.c
theorem Si.set {l : List Gp} {now : Int} {G : List Int} (h : Si l now G) {p : Nat} {X X' : Gp} (hp : l[p]? = some X) {n : Int} (h0 : now ≤ n) (h1 : n ≤ 4611686018427387904) (hn : X'.now ≤ n) (hG : X'.G = G) (hc : X'.c = X.c) (hu : Un (l.set p X')) : Si (l.set p X') n G := by
 have hm : ∀ Z ∈ l.set p X', Z = X' ∨ Z ∈ l := fun Z hZ => (List.mem_or_eq_of_mem_set hZ).symm
 have hX := List.mem_of_getElem? hp
 refine ⟨by rw [List.length_set]; exact h.l1, by rw [List.length_set]; exact h.l2, by have := h.z; omega, h1, fun Z hZ => ?_, fun Z hZ => ?_, hu, fun Z hZ V hV => ?_⟩
 ·rcases hm Z hZ with e | e
  ·rw [e]; exact hn
  ·have := h.nw Z e; omega
 ·rcases hm Z hZ with e | e
  ·rw [e]; exact hG
  ·exact h.gg Z e
 ·rcases hm Z hZ with e | e <;> rcases hm V hV with e' | e'
  ·rw [e, e']
  ·rw [e, hc]; exact h.cf _ hX _ e'
  ·rw [e', hc]; exact h.cf _ e _ hX
  ·exact h.cf _ e _ e'
def Hq (w : World) (s : Nat) (F : List Nat) (l : List Gp) (now : Int) (G : List Int) (M : Nat) : Prop := ∃ gv mw mc U, F = fpH s mw mc U ∧ U.map Gu.X = l ∧ Hx w s gv mw mc U now (wmap l) G M ∧ Si l now G
def HqE (w w' : World) (s : Nat) (F : List Nat) (l : List Gp) (now : Int) (G : List Int) (M : Nat) : Prop := ∃ F', Hq w' s F' l now G M ∧ Touch F w w' ∧ Nf w F F'
section
variable {w w' w2 : World} {s M M' : Nat} {F F1 D : List Nat} {l l' : List Gp} {now now' : Int} {G G' : List Int}
theorem Hq.lt (h : Hq w s F l now G M) : ∀ k, k ∈ F → k < w.heap.size := by
 obtain ⟨gv, mw, mc, U, rfl, hl, hx, hs⟩ := h
 exact hx.lt
theorem Hq.mono (h : Hq w s F l now G M) (hm : M ≤ M') : Hq w s F l now G M' := by
 obtain ⟨gv, mw, mc, U, rfl, hl, hx, hs⟩ := h
 exact ⟨gv, mw, mc, U, rfl, hl, hx.mono hm, hs⟩
theorem Hq.keep (h : Hq w s F l now G M) (T : Touch D w w') (hD : ∀ k, k ∈ F → ¬ k ∈ D) (hr : ∀ (g : Nat) (cs : Array Value) (z : Nat × Nat), w.heap[g]? = some (.cells cs 29 z) → ¬ g ∈ D) : Hq w' s F l now G M := by
 obtain ⟨gv, mw, mc, U, rfl, hl, hx, hs⟩ := h
 exact ⟨gv, mw, mc, U, rfl, hl, hx.keep T hD hr, hs⟩
theorem Hq.away (h : Hq w s F l now G M) {b : Nat} {cs : Array Value} {t : TypeId} {z : Nat × Nat} (hb : w.heap[b]? = some (.cells cs t z)) (ht : boxT t = true) (ht' : t ≠ 100) : ¬ b ∈ F := by
 obtain ⟨gv, mw, mc, U, rfl, hl, hx, hs⟩ := h
 exact hx.away hb ht ht'
end
section
variable {w0 w : World} {F : List Nat} {s mw mc : Nat} {gv : Value} {U : List Gu} {l : List Gp} {now : Int} {G : List Int} {M : Nat}
theorem Hr.fin (h : Hr w0 F w s gv mw mc U now (wmap l) G M) (hl : U.map Gu.X = l) (hs : Si l now G) : HqE w0 w s F l now G M := ⟨_, ⟨gv, mw, mc, U, rfl, hl, h.x, hs⟩, h.t, h.n⟩
theorem split_at (hl : U.map Gu.X = l) {p : Nat} {X : Gp} (hp : l[p]? = some X) : ∃ A u B, U = A ++ u :: B ∧ A.length = p ∧ u.X = X ∧ ∀ u' : Gu, (A ++ u' :: B).map Gu.X = l.set p u'.X := by
 subst hl
 rw [List.getElem?_map, Option.map_eq_some_iff] at hp
 obtain ⟨u, hu, rfl⟩ := hp
 obtain ⟨hlt, he⟩ := List.getElem?_eq_some_iff.1 hu
 refine ⟨U.take p, u, U.drop (p + 1), ?_, by rw [List.length_take]; omega, rfl, fun u' => ?_⟩
 ·rw [← he, List.getElem_cons_drop, List.take_append_drop]
 ·rw [List.set_eq_take_append_cons_drop, if_pos (by rw [List.length_map]; exact hlt)]
  simp [List.map_take, List.map_drop]
end
end Go.Proofs.YtllchnancjgijaaGreat
/- The contracts of the shards' small functions: own, Len, checkTick, number, numbers, find, placeAmong and Place; no conditions but those that each states. -/
namespace Go.Proofs.YtllchnancjgijaaGreat
open Go.RowKit Go.Maps Go.ChangeMaps
structure Hc (w : World) (s : Nat) (gv : Value) (now : Int) (mw mc : Nat) : Prop where
 c0 : w.cell? ⟨s, 0, none⟩ = some gv
 c1 : w.cell? ⟨s, 1, none⟩ = some (.int .i64 now)
 c2 : w.cell? ⟨s, 2, none⟩ = some (.map (some mw))
 c3 : w.cell? ⟨s, 3, none⟩ = some (.map (some mc))
 f1 : w.frozen? ⟨s, 1, none⟩ = false
theorem Hx.cs {w : World} {s : Nat} {gv : Value} {mw mc : Nat} {U : List Gu} {now : Int} {f : Int → Option Value} {G : List Int} {M : Nat} (h : Hx w s gv mw mc U now f G M) : Hc w s gv now mw mc := by
 have := h.bl
 unfold shc at this
 constructor <;> simp [World.cell?, World.frozen?, this]
theorem Hx.row {w : World} {s : Nat} {gv : Value} {mw mc : Nat} {U : List Gu} {now : Int} {f : Int → Option Value} {G : List Int} {M : Nat} (h : Hx w s gv mw mc U now f G M) : ∃ a c, gv = .slice a U.length c := by
 obtain ⟨a, c, e, _⟩ := h.rs.form
 exact ⟨a, c, e⟩
theorem Hx.ptr {w : World} {s : Nat} {a : Option Addr} {n c : Nat} {mw mc : Nat} {U : List Gu} {now : Int} {f : Int → Option Value} {G : List Int} {M : Nat} (h : Hx w s (.slice a n c) mw mc U now f G M) {p : Nat} {u : Gu} (hu : U[p]? = some u) : ∃ r off, a = some ⟨r, off, none⟩ ∧ w.cell? ⟨r, off + p, none⟩ = some (PT u.g) := by
 obtain ⟨a', c', e, _⟩ := h.rs.form
 cases e
 have hp := (List.getElem?_eq_some_iff.1 hu).1
 exact h.rs.cell (j := p) (by rw [List.getElem?_map, hu]; rfl) (by omega)
section
variable {w : World} {s n : Nat} {a : Option Addr} {c : Nat}
theorem sown_ (h : w.cell? ⟨s, 0, none⟩ = some (.slice a n c)) : Calls Tryz.prog 54 #[PT s] w fun e w' => e = .returned (.slice a n c) ∧ w' = w := by
 unfold PT
 go_enter Tryz.func54, Tryz.ntmps54
 go_wp2
 go_ret
 exact ⟨rfl, rfl⟩
theorem slen_ (h : w.cell? ⟨s, 0, none⟩ = some (.slice a n c)) : Calls Tryz.prog 23 #[PT s] w fun e w' => e = .returned (.int .i64 (n : Int)) ∧ w' = w := by
 have H := hid (sown_ h)
 clear h
 unfold PT at *
 go_enter Tryz.func23, Tryz.ntmps23
 go_wp2_with (go_at_call 54; refine H.out.mono ?_; rintro e w1 ⟨rfl, rfl⟩)
 go_ret
 exact ⟨rfl, rfl⟩
theorem scheck_ {now : Int} (h : w.cell? ⟨s, 0, none⟩ = some (.slice a n c)) (h1 : w.cell? ⟨s, 1, none⟩ = some (.int .i64 now)) (hn : 1 ≤ n) (x : Int) : Calls Tryz.prog 47 #[PT s, .int .i64 x] w fun e w' => e = .returned (.int .i64 (Me.tickE now x)) ∧ w' = w := by
 have H := hid (slen_ h)
 have HT := hid (Me.is39 x w)
 have hn' : ((n : Int) == 0) = false := by simp; omega
 clear h hn
 unfold PT at *
 cases hb : Me.isT x with
 | false =>
  rw [hb] at HT
  go_enter Tryz.func47, Tryz.ntmps47
  go_wp2_with (first
   | (go_at_call 23; refine H.out.mono ?_; rintro e w1 ⟨rfl, rfl⟩)
   | (go_at_call 96; refine HT.out.mono ?_; rintro e w1 ⟨rfl, rfl⟩))
  go_ret
  exact ⟨by simp [Me.tickE, hb], rfl⟩
 | true =>
  rw [hb] at HT
  by_cases hx : x < now
  ·go_enter Tryz.func47, Tryz.ntmps47
   go_wp2_with (first
    | (go_at_call 23; refine H.out.mono ?_; rintro e w1 ⟨rfl, rfl⟩)
    | (go_at_call 96; refine HT.out.mono ?_; rintro e w1 ⟨rfl, rfl⟩))
   go_ret
   exact ⟨by simp [Me.tickE, hb, hx], rfl⟩
  ·go_enter Tryz.func47, Tryz.ntmps47
   go_wp2_with (first
    | (go_at_call 23; refine H.out.mono ?_; rintro e w1 ⟨rfl, rfl⟩)
    | (go_at_call 96; refine HT.out.mono ?_; rintro e w1 ⟨rfl, rfl⟩))
   go_ret
   exact ⟨by simp [Me.tickE, hb, hx], rfl⟩
def numW (n : Nat) (p r : Int) : Int := if r = 0 then 0 else wrap64 (wrap64 (wrap64 (wrap64 (r - 1) * (n : Int)) + p) + 1)
theorem number_ (h : w.cell? ⟨s, 0, none⟩ = some (.slice a n c)) (p r : Int) : Calls Tryz.prog 42 #[PT s, .int .i64 p, .int .i64 r] w fun e w' => e = .returned (.int .i64 (numW n p r)) ∧ w' = w := by
 unfold numW PT
 by_cases hr : r = 0
 ·subst hr
  go_enter Tryz.func42, Tryz.ntmps42
  go_wp2
  go_ret
  exact ⟨rfl, rfl⟩
 ·rw [if_neg hr]
  have hr' : (r == 0) = false := by simpa using hr
  clear hr
  go_enter Tryz.func42, Tryz.ntmps42
  go_wp2
  go_ret
  exact ⟨rfl, rfl⟩
def NbI (w wr : World) (v : Value) (i : Nat) (xs : List Int) : Prop := Touch [] w wr ∧ wr.ownsRow w.heap.size 3 1 v i (ints xs)
theorem NbI.grow {w w1 w3 : World} {v v' : Value} {i j : Nat} {xs ys : List Int} {ob : Obj} (h : NbI w w1 v i xs) (hg : (w1.alloc ob).grownBy w3 v.ownBlock) (o5 : w3.ownsRow w.heap.size 3 1 v' j (ints ys)) : NbI w w3 v' j ys := by
 refine ⟨(h.1.alloc ob).trans ((Touch.refl v.ownBlock.toList _).grown hg (fun q hq => Or.inl (by simp [hq]))) (fun q hq => Or.inr ?_), o5⟩
 exact (h.2.lt q (by simpa using hq)).1
theorem infoI : (Tryz.prog.info? 3).map (fun i => (i.zero, i.size, i.bytes)) = some (some (.int .i64 0), 1, 8) := by kernel_rfl
set_option maxHeartbeats 4000000 in
theorem numbers_ (h : w.cell? ⟨s, 0, none⟩ = some (.slice a n c)) (p : Int) {v : Value} {rs : List Int} (hv : Rd w v rs) (hl : rs.length ≤ 10000000000000) : Calls Tryz.prog 43 #[PT s, .int .i64 p, v] w fun e w' => ∃ v', e = .returned v' ∧ Snt w' v' (rs.map (numW n p)) ∧ Touch [] w w' := by
 obtain ⟨a2, c2, rfl, hc2, hm2⟩ := hv.form
 have hs := w.heap.size
 have hlt : s < w.heap.size := by
  unfold World.cell? at h
  cases hb : w.heap[s]? with
  | none => rw [hb] at h; cases h
  | some o => exact block_lt hb
 have HN : Hid (∀ (wr : World) (r : Int), Touch [] w wr → Calls Tryz.prog 42 #[PT s, .int .i64 p, .int .i64 r] wr fun e w' => e = .returned (.int .i64 (numW n p r)) ∧ w' = wr) := hid (fun wr r T => by
  refine number_ (a := a) (c := c) ?_ p r
  rw [← h]
  unfold World.cell?
  rw [T.block s hlt (by simp)])
 have HV := hid hv
 have HL := hid hl
 obtain ⟨m, hm⟩ : ∃ m, m = rs.length := ⟨_, rfl⟩
 have HM := hid hm
 rw [← hm]
 have H0 : Hid (NbI w w (.slice none 0 0) 0 ((rs.take 0).map (numW n p))) := hid ⟨Touch.refl _ _, World.ownsRow_nil w w.heap.size 3 1⟩
 clear h hv hl hm hlt hs hc2 hm2
 unfold PT at *
 go_enter Tryz.func43, Tryz.ntmps43
 go_wp2
 go_loopw [7, 12] (fun s7 s12 wr => ∃ i : Nat, s12 = .int .i64 (i : Int) ∧ i ≤ m ∧ ∃ a7 c7, s7 = .slice a7 i c7 ∧ Hid (NbI w wr (.slice a7 i c7) i ((rs.take i).map (numW n p)))) (fun _ i _ => m - (intOf i).toNat)
 case atStart => exact ⟨0, rfl, Nat.zero_le _, none, 0, rfl, H0⟩
 case round =>
  clear H0
  obtain ⟨i, rfl, hi, a7, c7, rfl, HR⟩ := hrel
  by_cases hlt : i < m
  ·have zi : (i : Int) < (m : Int) := by omega
   have zL : (m : Int) < 9223372036854775807 := by have := HL.out; have := HM.out; omega
   have him : i < rs.length := by have := HM.out; omega
   obtain ⟨b2, e2, k2⟩ := (HV.out.keep0 HR.out.1).cell him
   subst e2
   have HT : Hid ((rs.take (i + 1)).map (numW n p) = (rs.take i).map (numW n p) ++ [numW n p rs[i]]) := hid (by rw [List.take_succ_eq_append_getElem him, List.map_append]; rfl)
   obtain ⟨r, hr⟩ : ∃ r, r = rs[i] := ⟨_, rfl⟩
   rw [← hr] at k2 HT
   have HC := hid (HN.out wr r HR.out.1)
   generalize numW n p r = q at *
   have HB : Hid ((ints ((rs.take i).map (numW n p))).length = i) := hid (by simp [ints]; omega)
   have HW : Hid (∀ ob, (wr.alloc ob).ownsRow w.heap.size 3 1 (.slice a7 i c7) i (ints ((rs.take i).map (numW n p))) ∧ w.heap.size ≤ (wr.alloc ob).heap.size) := hid (fun ob => ⟨own_touch HR.out.2 ((Touch.refl [] _).alloc ob) (fun _ _ e => by cases e), Nat.le_trans HR.out.1.size ((Touch.refl [] wr).alloc ob).size⟩)
   have HGR : Hid (∀ (w5 : World) ob v', (wr.alloc ob).grownBy w5 (Value.slice a7 i c7).ownBlock → w5.ownsRow w.heap.size 3 1 v' (i + 1) (ints ((rs.take i).map (numW n p)) ++ [.int .i64 q]) → NbI w w5 v' (i + 1) ((rs.take (i + 1)).map (numW n p))) := hid (fun w5 ob v' hg o5 => by
    refine HR.out.grow hg ?_
    rw [HT.out]
    simpa [ints] using o5)
   clear HR hi hr HT HN
   generalize ints ((rs.take i).map (numW n p)) = ls at *
   go_upto_region 6 with (first
    | (go_at_call 42; refine HC.out.mono ?_; rintro e w3 ⟨rfl, rfl⟩)
    | (at_builtin; refine wpList_append_rs rfl _ _ 43 3 rfl (.int .i64 0) 1 8 infoI Tryz.underlying43 rfl (by decide) w.heap.size (.slice a7 i c7) i ls rfl (HW.out _).1 (.slice (some ⟨w3.heap.size, 0, none⟩) 1 1) 1 _ rfl (Rs.new w3 #[.int .i64 q] 3 1 rfl) (by simp [Value.oneCell']) (by unfold maxLen; have := HL.out; have := HM.out; omega) (by have := HL.out; have := HM.out; omega) (HW.out _).2 ?_; intro v5 w5 o5 g5 _; obtain ⟨a5, c5, e5, _⟩ := (Rs.of_own o5).form; subst e5; have HX := hid (HGR.out w5 _ _ g5 (by simpa using o5)); clear o5 g5))
   go_wp2
   go_roundw
   case rel => exact ⟨i + 1, by go_num, by omega, a5, c5, rfl, HX⟩
   case measure => simp [intOf]; omega
  ·have HZ : Hid (Snt wr (.slice a7 i c7) (rs.map (numW n p)) ∧ Touch [] w wr) := hid (by
    have e1 := HM.out
    have e2 : i = rs.length := by omega
    have h := HR.out
    rw [List.take_of_length_le (by omega)] at h
    refine ⟨⟨Rd.of_own (B := w.heap.size) ?_, _, _, _, rfl⟩, h.1⟩
    rw [List.length_map, ← e2]
    exact h.2)
   have zi : ¬ (i : Int) < (m : Int) := by omega
   clear HR hi hlt
   go_wp2
   go_ret
   exact ⟨_, rfl, HZ.out.1, HZ.out.2⟩
theorem find_ (h : w.cell? ⟨s, 0, none⟩ = some (.slice a n c)) (hn : 1 ≤ n) (h64 : n ≤ 64) {r : Int} (h1 : 1 ≤ r) (h2 : r ≤ 9223372036854775807) : Calls Tryz.prog 48 #[PT s, .int .i64 r] w fun e w' => e = .returned (.tuple #[.int .i64 ((r - 1) % (n : Int)), .int .i64 ((r - 1) / (n : Int) + 1)]) ∧ Touch [] w w' := by
 have e1 : IntKind.i64.wrap (r - 1) = r - 1 := by rw [IntKind.wrap_i64]; omega
 obtain ⟨q, hq⟩ : ∃ q, q = r - 1 := ⟨_, rfl⟩
 rw [← hq] at e1 ⊢
 have q0 : 0 ≤ q := by omega
 have hd : q / (n : Int) ≤ q := Int.ediv_le_self _ q0
 have hd0 : 0 ≤ q / (n : Int) := Int.ediv_nonneg q0 (by omega)
 have hm0 : 0 ≤ q % (n : Int) := Int.emod_nonneg _ (by omega)
 have hm1 : q % (n : Int) < n := Int.emod_lt_of_pos _ (by omega)
 have e2 : q.tdiv (n : Int) = q / (n : Int) := Int.tdiv_eq_ediv_of_nonneg q0
 have e3 : q.tmod (n : Int) = q % (n : Int) := Int.tmod_eq_emod_of_nonneg q0
 have e4 : IntKind.i64.wrap (q / (n : Int)) = q / (n : Int) := by rw [IntKind.wrap_i64]; omega
 have e5 : IntKind.i64.wrap (q % (n : Int)) = q % (n : Int) := by rw [IntKind.wrap_i64]; omega
 have e6 : IntKind.i64.wrap (q / (n : Int) + 1) = q / (n : Int) + 1 := by rw [IntKind.wrap_i64]; omega
 have n0 : ¬ n = 0 := by omega
 have n1 : ¬ (n : Int) = 0 := by omega
 have e7 : r - 1 = q := hq.symm
 clear hq
 unfold PT
 generalize q / (n : Int) = A at *
 generalize q % (n : Int) = B at *
 have H1 := hid h1
 clear h1 h2 hn hd hm1
 go_enter Tryz.func48, Tryz.ntmps48
 go_wp2
 go_quiet (fail)
 go_wp2
 go_ret2
 exact ⟨rfl, (Touch.refl _ _).drewN _⟩
theorem among_ (k : K) (hk : Ok k) (n : Nat) (hn : 1 ≤ n) (h64 : n ≤ 64) (w : World) : Calls Tryz.prog 40 #[.int .i64 (n : Int), kv k] w fun e w' => e = .returned (.int .i64 (Ky.plc k n : Nat)) ∧ Touch [] w w' := by
 have H : Hid _ := hid (fun w => Ky.part_ok k hk n hn (by omega) w)
 generalize Ky.plc k n = p at *
 clear hn h64
 unfold kv at *
 go_enter Tryz.func40, Tryz.ntmps40
 go_wp2_with (go_at_call 84; refine (H.out _).mono ?_; rintro e w1 ⟨rfl, t1⟩; have T1 := hid (((Touch.refl [] w).alloc _).trans' t1); clear t1)
 go_ret
 exact ⟨rfl, T1.out⟩
end
end Go.Proofs.YtllchnancjgijaaGreat
/- In the midst of a call of the shards': the groups, and boxes of the call's own beside them; a group's calls as steps of the shards; no conditions but those that each states. -/
namespace Go.Proofs.YtllchnancjgijaaGreat
open Go.RowKit Go.Maps Go.ChangeMaps
abbrev Bx := Nat × Array Value × TypeId
structure Hb (w0 : World) (F : List Nat) (w : World) (s : Nat) (gv : Value) (mw mc : Nat) (U : List Gu) (now : Int) (f : Int → Option Value) (G : List Int) (M : Nat) (Bs : List Bx) : Prop where
 r : Hr w0 F w s gv mw mc U now f G M
 b : ∀ x ∈ Bs, w.heap[x.1]? = some (.cells x.2.1 x.2.2 (0, 0)) ∧ boxS x.2.2 = true ∧ w0.heap.size ≤ x.1
section
variable {w0 w w' : World} {F : List Nat} {s mw mc : Nat} {gv : Value} {U : List Gu} {now : Int} {f : Int → Option Value} {G : List Int} {M M' : Nat} {Bs : List Bx}
theorem Hb.keepB (h : Hb w0 F w s gv mw mc U now f G M Bs) (k : KeepS w w') : ∀ x ∈ Bs, w'.heap[x.1]? = some (.cells x.2.1 x.2.2 (0, 0)) ∧ boxS x.2.2 = true ∧ w0.heap.size ≤ x.1 := fun x hx => ⟨k _ _ _ _ (h.b x hx).2.1 (h.b x hx).1, (h.b x hx).2⟩
theorem Hb.start (h : Hx w s gv mw mc U now f G M) : Hb w (fpH s mw mc U) w s gv mw mc U now f G M [] := ⟨Hr.start h, fun x hx => by cases hx⟩
theorem Hb.mono (h : Hb w0 F w s gv mw mc U now f G M Bs) (hm : M ≤ M') : Hb w0 F w s gv mw mc U now f G M' Bs := ⟨h.r.mono hm, h.b⟩
theorem Hb.keep0 (h : Hb w0 F w s gv mw mc U now f G M Bs) (T : Touch [] w w') : Hb w0 F w' s gv mw mc U now f G M Bs := ⟨h.r.keep0 T, h.keepB T.keepS⟩
theorem Hb.drew (h : Hb w0 F w s gv mw mc U now f G M Bs) : Hb w0 F w.drew s gv mw mc U now f G M Bs := h.keep0 (Touch.refl _ _).drew
theorem Hb.new (h : Hb w0 F w s gv mw mc U now f G M Bs) (cs : Array Value) (t : TypeId) (ht : boxS t = true) : Hb w0 F (w.alloc (.cells cs t)) s gv mw mc U now f G M ((w.heap.size, cs, t) :: Bs) := by
 have h' := h.keep0 ((Touch.refl [] _).alloc (.cells cs t))
 refine ⟨h'.r, fun x hx => ?_⟩
 rcases List.mem_cons.1 hx with e | e
 ·subst e
  exact ⟨heap_alloc_new w _, ht, h.r.t.size⟩
 ·exact h'.b x e
theorem Hb.sub {Bs' : List Bx} (h : Hb w0 F w s gv mw mc U now f G M Bs) (hs : ∀ x ∈ Bs', x ∈ Bs) : Hb w0 F w s gv mw mc U now f G M Bs' := ⟨h.r, fun y hy => h.b y (hs y hy)⟩
theorem Hb.at_ {k : Nat} {cs : Array Value} {t : TypeId} (h : Hb w0 F w s gv mw mc U now f G M Bs) (hx : (k, cs, t) ∈ Bs) : w.heap[k]? = some (.cells cs t (0, 0)) := (h.b _ hx).1
theorem Hb.set {k : Nat} {cs cs' : Array Value} {t : TypeId} (h : Hb w0 F w s gv mw mc U now f G M ((k, cs, t) :: Bs)) (hn : ∀ x ∈ Bs, x.1 ≠ k) (T : Touch [k] w w') (hk : w'.heap[k]? = some (.cells cs' t (0, 0))) : Hb w0 F w' s gv mw mc U now f G M ((k, cs', t) :: Bs) := by
 have h0 := h.b _ (List.mem_cons_self ..)
 refine ⟨h.r.put h0.1 h0.2.1 h0.2.2 T, fun x hx => ?_⟩
 rcases List.mem_cons.1 hx with e | e
 ·subst e
  exact ⟨hk, h0.2⟩
 ·have hb := h.b x (List.mem_cons_of_mem _ e)
  exact ⟨T.keep hb.1 (by simpa using hn x e), hb.2⟩
theorem Hb.out {k : Nat} {cs : Array Value} {t : TypeId} (h : Hb w0 F w s gv mw mc U now f G M Bs) (hx : (k, cs, t) ∈ Bs) (T : Touch [k] w w') : Hr w0 F w' s gv mw mc U now f G M := h.r.put (h.b _ hx).1 (h.b _ hx).2.1 (h.b _ hx).2.2 T
theorem Hb.tick (h : Hb w0 F w s gv mw mc U now f G M Bs) (n : Int) : Hb w0 F (w.setCell ⟨s, 1, none⟩ (.int .i64 n)) s gv mw mc U n f G M Bs := ⟨(h.r.tick n).1, h.keepB (h.r.tick n).2⟩
theorem Hb.wput (h : Hb w0 F w s gv mw mc U now f G M Bs) {ob : Obj} {n : Nat} {f' : Int → Option Value} (hn : n ≤ M) (hm : MapK KI (setBlock w mw ob) mw n f') : Hb w0 F (setBlock w mw ob) s gv mw mc U now f' G M Bs := ⟨(h.r.wput hn hm).1, h.keepB (h.r.wput hn hm).2.2⟩
theorem Hb.cs (h : Hb w0 F w s gv mw mc U now f G M Bs) : Hc w s gv now mw mc := h.r.x.cs
theorem Hb.grp {A B : List Gu} {u : Gu} (h : Hb w0 F w s gv mw mc (A ++ u :: B) now f G M' Bs) {X' : Gp} {N' : Cn} (hE : GqE w w' u.g u.P u.F X' N') (hk : Gk X' N' M') : ∃ u', u'.g = u.g ∧ u'.X = X' ∧ Gk u'.X u'.N M' ∧ Hb w0 F w' s gv mw mc (A ++ u' :: B) now f G M' Bs := by
 obtain ⟨F', hr, ks⟩ := h.r.grp hE hk
 exact ⟨⟨u.g, u.P, F', X', N'⟩, rfl, rfl, hk, hr, h.keepB ks⟩
theorem Gq.ivs {w : World} {g : Nat} {P : Pt} {F : List Nat} {X : Gp} {N : Cn} (q : Gq w g P F X N) : Ta.Ti X.T N.t ∧ (X.L.map Prod.fst).Nodup ∧ (Me.keysL X.en).Nodup ∧ ∀ x ∈ X.L, W64 x.1 ∧ W64 x.2.1 := by
 obtain ⟨_, a, _, b, _⟩ := (GqE.refl q).iv
 refine ⟨a, b.nc, ?_, fun x hx => ⟨(b.ok x hx).2.1, (b.ok x hx).2.2.1⟩⟩
 obtain ⟨_, _, _, _, _, q'⟩ := q
 exact q'.mq.nd
section
variable {A B : List Gu} {u : Gu}
theorem Hb.gq (h : Hb w0 F w s gv mw mc (A ++ u :: B) now f G M' Bs) : Gq w u.g u.P u.F u.X u.N := h.r.x.gs u (by simp)
end
end
/-! ### What a group's steps cost -/
section
variable {X : Gp} {N : Cn} {M : Nat}
theorem Gk.join (hg : Gk X N M) (i1 : Ta.Ti X.T N.t) (n : Int) (k : K) (x t : Int) : Gk (joX X n k x t) (joC X n k x t N) (M + 2) := by
 have c1 := joC_b X n k x t N
 have c2 := joC_l i1 n k x t N
 have b1 := hg.nt
 have b2 := hg.nb
 have b3 := hg.ns
 exact ⟨hg.gi.jo_ i1 n k x t, hg.gt.jo_ n k x t, by omega, by omega, by omega⟩
theorem edC_b (X : Gp) (n r : Int) (o : O) (N : Cn) : (edC X n r o N).t ≤ N.t + 1 ∧ (edC X n r o N).b = N.b ∧ (edC X n r o N).s = N.s := by
 have := gone_len X n r o
 unfold edC
 split
 ·simp
 ·split
  ·exact ⟨by dsimp only; omega, rfl, rfl⟩
  ·simp
end
section
variable {w0 w w' : World} {F : List Nat} {s mw mc : Nat} {gv : Value} {now : Int} {f : Int → Option Value} {G : List Int} {M M' : Nat} {Bs : List Bx} {A B : List Gu} {u : Gu}
theorem Hb.join (h : Hb w0 F w s gv mw mc (A ++ u :: B) now f G M' Bs) (hg : Gk u.X u.N M) (hM : M ≤ 2800000000000) (n : Int) (k : K) (hk : Ok k) {x t : Int} (hx : W64 x) (ht : W64 t) (hc : Gk (joX u.X n k x t) (joC u.X n k x t u.N) M') : Calls Tryz.prog 11 #[PT u.g, .int .i64 n, kv k, .int .i64 x, .int .i64 t] w fun e w2 => ∃ v, e = .returned (.tuple #[jv (joJ u.X n k x t) v, .int .i64 (mayE u.X n k x t)]) ∧ Snt w2 v (joJ u.X n k x t).sent ∧ ∃ u', u'.g = u.g ∧ u'.X = joX u.X n k x t ∧ Gk u'.X u'.N M' ∧ Hb w0 F w2 s gv mw mc (A ++ u' :: B) now f G M' Bs := by
 have b1 := hg.nt
 have b2 := hg.nb
 have b3 := hg.ns
 refine (join_ h.gq hg.gt n k hk hx ht (by omega) (by omega) (by omega)).mono ?_
 rintro e w2 ⟨v, e1, e2, e3⟩
 exact ⟨v, e1, e2, h.grp e3 hc⟩
theorem Hb.end_ (h : Hb w0 F w s gv mw mc (A ++ u :: B) now f G M' Bs) (hg : Gk u.X u.N M) (hM : M ≤ 2800000000000) (n : Int) {r : Int} (hr : W64 r) (o : O) (hc : Gk (edX u.X n r o) (edC u.X n r o u.N) M') : Calls Tryz.prog 29 #[PT u.g, .int .i64 n, .int .i64 r, Me.ov o] w fun e w2 => ∃ tv gv' lv, e = .returned (.tuple #[.agg (dcs (edD u.X n r o) tv gv' lv), .int .i64 (edE u.X n r o)]) ∧ DnQ w2 (edD u.X n r o) o tv gv' lv ∧ ∃ u', u'.g = u.g ∧ u'.X = edX u.X n r o ∧ Gk u'.X u'.N M' ∧ Hb w0 F w2 s gv mw mc (A ++ u' :: B) now f G M' Bs := by
 have b1 := hg.nt
 have b2 := hg.nb
 have b3 := hg.ns
 refine (Go.Proofs.YtllchnancjgijaaGreat.end_ h.gq n hr o (by omega) (by omega)).mono ?_
 rintro e w2 ⟨tv, gv', lv, e1, e2, e3⟩
 exact ⟨tv, gv', lv, e1, e2, h.grp e3 hc⟩
end
end Go.Proofs.YtllchnancjgijaaGreat
/- The contracts of mayBe, around and New; no conditions but those that each states. -/
namespace Go.Proofs.YtllchnancjgijaaGreat
open Go.RowKit Go.Maps Go.ChangeMaps
theorem maybe_ (n : Int) (w : World) : Calls Tryz.prog 36 #[.int .i64 n] w fun e w' => e = .returned (.bool (decide (1 ≤ n ∧ n ≤ 64))) ∧ w' = w := by
 by_cases h1 : 1 ≤ n
 ·by_cases h2 : n ≤ 64
  ·go_enter Tryz.func36, Tryz.ntmps36
   go_wp2
   go_ret
   exact ⟨by simp [h1, h2], rfl⟩
  ·go_enter Tryz.func36, Tryz.ntmps36
   go_wp2
   go_ret
   exact ⟨by simp [h2], rfl⟩
 ·go_enter Tryz.func36, Tryz.ntmps36
  go_wp2
  go_ret
  exact ⟨by simp; omega, rfl⟩
theorem saround_ (w : World) (a : Option Addr) (n c : Nat) (now : Int) : Calls Tryz.prog 37 #[.slice a n c, .int .i64 now] w fun e w' => e = .returned (PT (w.heap.size + 2)) ∧ w' = ((w.alloc (.map #[] 0)).alloc (.map #[] 0)).alloc (.cells (shc (.slice a n c) now w.heap.size (w.heap.size + 1)) 100) := by
 have hmm := @run_makeMap Tryz.prog
 unfold shc PT
 go_enter Tryz.func37, Tryz.ntmps37
 go_wp2
 go_ret
 exact ⟨rfl, rfl⟩
theorem around_hq {w : World} {a : Option Addr} {c : Nat} {U : List Gu} {now : Int} (hr : Rs 29 1 w (.slice a U.length c) U.length (U.map (fun u => PT u.g))) (hg : ∀ u ∈ U, Gq w u.g u.P u.F u.X u.N) (hd : U.Pairwise (fun u v => Dj u.F v.F)) (hk : ∀ u ∈ U, Gk u.X u.N 0) (hL : ∀ u ∈ U, u.X.L = []) (hG : ∀ u ∈ U, u.X.G = []) (hn : ∀ u ∈ U, u.X.now ≤ now) (h0 : 0 ≤ now) (h1 : now ≤ 4611686018427387904) (l1 : 1 ≤ U.length) (l2 : U.length ≤ 64) (hc : ∀ u ∈ U, ∀ v ∈ U, u.X.c = v.X.c) :
  Hq (((w.alloc (.map #[] 0)).alloc (.map #[] 0)).alloc (.cells (shc (.slice a U.length c) now w.heap.size (w.heap.size + 1)) 100)) (w.heap.size + 2) (fpH (w.heap.size + 2) w.heap.size (w.heap.size + 1) U) (U.map Gu.X) now [] 0 := by
 have T : Touch [] w (((w.alloc (.map #[] 0)).alloc (.map #[] 0)).alloc (.cells (shc (.slice a U.length c) now w.heap.size (w.heap.size + 1)) 100)) := (((Touch.refl _ _).alloc _).alloc _).alloc _
 have T1 : Touch [] (w.alloc (.map #[] 0)) (((w.alloc (.map #[] 0)).alloc (.map #[] 0)).alloc (.cells (shc (.slice a U.length c) now w.heap.size (w.heap.size + 1)) 100)) := ((Touch.refl _ _).alloc _).alloc _
 have T2 : Touch [] ((w.alloc (.map #[] 0)).alloc (.map #[] 0)) (((w.alloc (.map #[] 0)).alloc (.map #[] 0)).alloc (.cells (shc (.slice a U.length c) now w.heap.size (w.heap.size + 1)) 100)) := (Touch.refl _ _).alloc _
 have ns : ∀ X ∈ U.map Gu.X, ∀ c, ¬ Sit X c := fun X hX c ⟨y, hy, _⟩ => by
  obtain ⟨u, hu, rfl⟩ := List.mem_map.1 hX
  rw [hL u hu] at hy
  cases hy
 have hw : wmap (U.map Gu.X) = fun _ => none := funext fun c => by
  unfold wmap
  rw [wpos_none.2 (fun Z hZ => ns Z hZ c)]
  rfl
 have hkm : Lv.kmap [] = fun _ => none := funext fun t => by unfold Lv.kmap; simp
 refine ⟨.slice a U.length c, w.heap.size, w.heap.size + 1, U, rfl, rfl, ?_, ?_⟩
 ·refine ⟨?_, hr.keep0 T, ⟨0, Nat.le_refl _, ?_⟩, ⟨0, Nat.le_refl _, ?_⟩, fun u hu => (hg u hu).keep0 T, hd, by omega, fun u hu => ⟨fun e => ?_, fun e => ?_⟩, hk⟩
  ·have := heap_alloc_new ((w.alloc (.map #[] 0)).alloc (.map #[] 0)) (.cells (shc (.slice a U.length c) now w.heap.size (w.heap.size + 1)) 100)
   rwa [World.size_alloc, World.size_alloc] at this
  ·rw [hw]
   exact (mapK_made KI w).keep T1 (by simp)
  ·rw [hkm]
   have := (mapK_made KI (w.alloc (.map #[] 0))).keep T2 (by simp)
   rwa [World.size_alloc] at this
  ·have := (hg u hu).lt _ e; omega
  ·have := (hg u hu).lt _ e; omega
 ·refine ⟨by rw [List.length_map]; exact l1, by rw [List.length_map]; exact l2, h0, h1, fun X hX => ?_, fun X hX => ?_, fun i j X Z hX hZ c s1 s2 => absurd s1 (ns X (List.mem_of_getElem? hX) c), fun X hX Z hZ => ?_⟩
  ·obtain ⟨u, hu, rfl⟩ := List.mem_map.1 hX
   exact hn u hu
  ·obtain ⟨u, hu, rfl⟩ := List.mem_map.1 hX
   exact hG u hu
  ·obtain ⟨u, hu, rfl⟩ := List.mem_map.1 hX
   obtain ⟨v, hv, rfl⟩ := List.mem_map.1 hZ
   exact hc u hu v hv
structure NwI (w wr : World) (r n : Nat) (c : Me.Cf) (U : List Gu) : Prop where
 t : Touch [] w wr
 rb : w.heap.size ≤ r
 row : wr.heap[r]? = some (.cells ((U.map (fun u : Gu => PT u.g)) ++ List.replicate (n - U.length) (Value.pointer none)).toArray 29 (0, 0))
 gs : ∀ u ∈ U, Gq wr u.g u.P u.F u.X u.N
 dj : U.Pairwise (fun u v => Dj u.F v.F)
 ex : ∀ u ∈ U, u.X = G0 c 0 [] ∧ u.N = C0
 fr : ∀ u ∈ U, ∀ k, k ∈ u.F → w.heap.size ≤ k
section
variable {w wr w2 : World} {r n : Nat} {c : Me.Cf} {U : List Gu}
theorem NwI.more (h : NwI w wr r n c U) {g : Nat} (hN : NwE wr w2 [] g c 0 []) : ∃ P F, Gq w2 g P F (G0 c 0 []) C0 ∧ (∀ k, k ∈ F → wr.heap.size ≤ k) ∧ NwI w w2 r n c U := by
 obtain ⟨P, F, q, t, hf⟩ := hN
 have hf' : ∀ k, k ∈ F → wr.heap.size ≤ k := fun k hk => (hf k hk).resolve_left (by simp)
 exact ⟨P, F, q, hf', ⟨h.t.trans' t, h.rb, t.keep h.row (by simp), fun u hu => (h.gs u hu).keep0 t, h.dj, h.ex, h.fr⟩⟩
theorem NwI.put {g : Nat} {P : Pt} {F : List Nat} (h : NwI w w2 r n c U) (hz : w.heap.size ≤ wr.heap.size) (hl : ∀ u ∈ U, ∀ k, k ∈ u.F → k < wr.heap.size) (q : Gq w2 g P F (G0 c 0 []) C0) (hf : ∀ k, k ∈ F → wr.heap.size ≤ k) (hn : U.length < n) : NwI w (w2.setCell ⟨r, U.length, none⟩ (PT g)) r n c (U ++ [⟨g, P, F, G0 c 0 [], C0⟩]) := by
 have T : Touch [r] w2 (w2.setCell ⟨r, U.length, none⟩ (PT g)) := (Touch.refl _ _).setCell (Or.inl (by simp)) _
 have hr : ∀ {F' : List Nat} {g' : Nat} {P' : Pt} {X' : Gp} {N' : Cn}, Gq w2 g' P' F' X' N' → ∀ k, k ∈ F' → ¬ k ∈ [r] := fun q' k hk e => by
  simp only [List.mem_singleton] at e
  subst e
  exact q'.away h.row (by decide) hk
 refine ⟨h.t.trans T (fun i hi => Or.inr (by simp only [List.mem_singleton] at hi; have := h.rb; omega)), h.rb, ?_, fun u hu => ?_, ?_, fun u hu => ?_, fun u hu k hk => ?_⟩
 ·have := bset h.row (i := U.length) (PT g)
  rw [this]
  congr 2
  apply Array.ext'
  rw [Array.toList_setIfInBounds]
  simp only [List.map_append, List.map_cons, List.map_nil, List.length_append, List.length_cons, List.length_nil]
  rw [List.set_append_right _ _ (by simp)]
  simp only [List.length_map, Nat.sub_self, List.append_assoc]
  congr 1
  rw [show n - U.length = (n - (U.length + 1)) + 1 by omega, List.replicate_succ]
  simp
 ·rcases List.mem_append.1 hu with e | e
  ·exact (h.gs u e).keep T (hr (h.gs u e))
  ·simp only [List.mem_singleton] at e
   subst e
   exact q.keep T (hr q)
 ·refine List.pairwise_append.2 ⟨h.dj, by simp, fun a ha b hb => ?_⟩
  simp only [List.mem_singleton] at hb
  subst hb
  intro k hk e
  have h1 := hl a ha k hk
  have h2 := hf k e
  omega
 ·rcases List.mem_append.1 hu with e | e
  ·exact h.ex u e
  ·simp only [List.mem_singleton] at e
   subst e
   exact ⟨rfl, rfl⟩
 ·rcases List.mem_append.1 hu with e | e
  ·exact h.fr u e k hk
  ·simp only [List.mem_singleton] at e
   subst e
   have := hf k hk
   omega
theorem NwI.fin (h : NwI w wr r n c U) (hn : U.length = n) (n1 : 1 ≤ n) (n2 : n ≤ 64) : ∃ F, Hq (((wr.alloc (.map #[] 0)).alloc (.map #[] 0)).alloc (.cells (shc (.slice (some ⟨r, 0, none⟩) n n) 0 wr.heap.size (wr.heap.size + 1)) 100)) (wr.heap.size + 2) F (List.replicate n (G0 c 0 [])) 0 [] 0 ∧ Touch [] w (((wr.alloc (.map #[] 0)).alloc (.map #[] 0)).alloc (.cells (shc (.slice (some ⟨r, 0, none⟩) n n) 0 wr.heap.size (wr.heap.size + 1)) 100)) ∧ ∀ k, k ∈ F → w.heap.size ≤ k := by
 subst hn
 have hl : U.map Gu.X = List.replicate U.length (G0 c 0 []) := List.eq_replicate_iff.2 ⟨by simp, fun X hX => by
  obtain ⟨u, hu, rfl⟩ := List.mem_map.1 hX
  exact (h.ex u hu).1⟩
 refine ⟨fpH (wr.heap.size + 2) wr.heap.size (wr.heap.size + 1) U, ?_, ((h.t.alloc _).alloc _).alloc _, fun k hk => ?_⟩
 ·rw [← hl]
  refine around_hq ?_ h.gs h.dj (fun u hu => ?_) (fun u hu => ?_) (fun u hu => ?_) (fun u hu => ?_) (Int.le_refl _) (by omega) n1 n2 (fun u hu v hv => ?_)
  ·refine ⟨by simp, _, _, rfl, Nat.le_refl _, fun e => (by cases e), fun _ => ⟨r, 0, rfl, _, _, h.row, fun j v hj => ?_⟩⟩
   rw [Nat.zero_add]
   simpa using hj
  ·rw [(h.ex u hu).1, (h.ex u hu).2]
   exact ⟨Gi.zero c [] 0, ⟨Int.le_refl _, Int.le_refl _, by show (0 : Int) ≤ _; omega⟩, by simp [C0, G0], by simp [C0], by simp [C0]⟩
  ·rw [(h.ex u hu).1]; rfl
  ·rw [(h.ex u hu).1]; rfl
  ·rw [(h.ex u hu).1]; exact Int.le_refl _
  ·rw [(h.ex u hu).1, (h.ex v hv).1]
 ·have hz := h.t.size
  rcases mem_fpH.1 hk with e | e | e | ⟨u, hu, e⟩
  ·omega
  ·omega
  ·omega
  ·exact h.fr u hu k e
end
theorem snew_arg (n : Int) (c : Me.Cf) (w : World) (hn : ¬ (1 ≤ n ∧ n ≤ 64)) : Calls Tryz.prog 6 #[.int .i64 n, Me.cv c] w fun e w' => e = .returned (.tuple #[.pointer none, .int .i64 1]) ∧ Touch [] w w' := by
 have HM := hid (fun w => maybe_ n w)
 have hd : decide (1 ≤ n ∧ n ≤ 64) = false := by simpa using hn
 rw [hd] at HM
 clear hd hn
 unfold Me.cv
 go_enter Tryz.func6, Tryz.ntmps6
 go_wp2_with (go_at_call 36; refine (HM.out _).mono ?_; rintro e w1 ⟨rfl, rfl⟩)
 go_ret2
 exact ⟨rfl, (Touch.refl _ _).alloc _⟩
theorem infoP : (Tryz.prog.info? 29).map (fun i => (i.zero, i.size, i.bytes)) = some (some (.pointer none), 1, 8) := by kernel_rfl
theorem mkP (w : World) (n : Nat) (h : n ≤ 64) : (Instr.makeSlice 89 (.int .i64 (n : Int)) (.int .i64 (n : Int))).run Tryz.prog w = .ok (.slice (some ⟨w.heap.size, 0, none⟩) n n) (w.alloc (.cells (madeCells #[.pointer none] n) 29)) := by
 obtain ⟨i3, hi, hz0, hz1, hz2⟩ := info_parts infoP
 have := run_make (P := Tryz.prog) w 89 29 i3 _ Tryz.underlying89 hi hz0 .i64 .i64 (n : Int) (n : Int) (by omega) (by omega) (by rw [hz2]; omega) (by omega)
 rw [hz1] at this
 simpa [Value.cells] using this
def cfb (c : Me.Cf) : Array Value := #[.int .i64 c.t, .int .i64 c.n, .int .i64 c.s, .int .i64 c.e, .int .i64 c.f, .int .i64 c.b, .int .i64 c.d]
set_option maxHeartbeats 4000000 in
theorem snew_cfg (n : Nat) (c : Me.Cf) (w : World) (n1 : 1 ≤ n) (n2 : n ≤ 64) (hc : Me.okC c = false) : Calls Tryz.prog 6 #[.int .i64 (n : Int), Me.cv c] w fun e w' => e = .returned (.tuple #[.pointer none, .int .i64 100]) ∧ Touch [] w w' := by
 have HM := hid (fun w => maybe_ n w)
 have hd : decide (1 ≤ (n : Int) ∧ (n : Int) ≤ 64) = true := by simp; omega
 rw [hd] at HM
 have HG := hid (fun w => new_no w c hc)
 have hmk : ∀ w : World, _ := fun w => mkP w n n2
 have z0 : (0 : Int) < (n : Int) := by omega
 obtain ⟨W, hW⟩ : ∃ W, W = (w.alloc (.cells (cfb c) 23)).alloc (.cells (madeCells #[.pointer none] n) 29) := ⟨_, rfl⟩
 have HT : Hid (Touch [] w W) := hid (by rw [hW]; exact ((Touch.refl _ _).alloc _).alloc _)
 have hb : W.heap[w.heap.size]? = some (.cells (cfb c) 23 (0, 0)) := by rw [hW]; exact ((Touch.refl [] _).alloc _).keep (heap_alloc_new w _) (by simp)
 unfold cfb at hb hW
 have k0 := cell_at (j := 0) hb rfl
 have k1 := cell_at (j := 1) hb rfl
 have k2 := cell_at (j := 2) hb rfl
 have k3 := cell_at (j := 3) hb rfl
 have k4 := cell_at (j := 4) hb rfl
 have k5 := cell_at (j := 5) hb rfl
 have k6 := cell_at (j := 6) hb rfl
 clear hd hc n1 n2 hb
 unfold Me.cv at *
 go_enter Tryz.func6, Tryz.ntmps6
 go_upto_region 4 with (go_at_call 36; refine (HM.out _).mono ?_; rintro e w1 ⟨rfl, e1⟩; rw [e1]; clear e1 w1)
 rw [← hW]
 clear hW hmk
 go_wp2
 go_loopw [17] (fun s17 wr => s17 = .int .i64 0 ∧ wr = W) (fun _ _ => 0)
 case atStart => exact ⟨rfl, rfl⟩
 case round =>
  obtain ⟨rfl, e1⟩ := hrel
  rw [e1]
  clear e1
  go_wp2_with (go_at_call 7; refine (HG.out _).mono ?_; rintro e w2 ⟨rfl, t2⟩; have T2 := hid t2; clear t2)
  go_ret2
  exact ⟨rfl, HT.out.trans' T2.out⟩
set_option maxHeartbeats 4000000 in
theorem snew_ (n : Nat) (c : Me.Cf) (w : World) (n1 : 1 ≤ n) (n2 : n ≤ 64) (hc : Me.okC c = true) (hw : W7 c) : Calls Tryz.prog 6 #[.int .i64 (n : Int), Me.cv c] w fun e w' => ∃ s F, e = .returned (.tuple #[PT s, .int .i64 0]) ∧ Hq w' s F (List.replicate n (G0 c 0 [])) 0 [] 0 ∧ Touch [] w w' ∧ ∀ k, k ∈ F → w.heap.size ≤ k := by
 have HM := hid (fun w => maybe_ n w)
 have hd : decide (1 ≤ (n : Int) ∧ (n : Int) ≤ 64) = true := by simp; omega
 rw [hd] at HM
 have HG := hid (fun w => new_ w c hc hw)
 have hmk : ∀ w : World, _ := fun w => mkP w n n2
 obtain ⟨W, hW⟩ : ∃ W, W = (w.alloc (.cells (cfb c) 23)).alloc (.cells (madeCells #[.pointer none] n) 29) := ⟨_, rfl⟩
 have hr : W.heap[w.heap.size + 1]? = some (.cells (madeCells #[.pointer none] n) 29 (0, 0)) := by
  rw [hW]
  have := heap_alloc_new (w.alloc (.cells (cfb c) 23)) (.cells (madeCells #[.pointer none] n) 29)
  rwa [World.size_alloc] at this
 have H0 : Hid (NwI w W (w.heap.size + 1) n c []) := hid ⟨by rw [hW]; exact ((Touch.refl _ _).alloc _).alloc _, by omega, by
  rw [hr]
  congr 2
  apply Array.ext'
  simp [toList_madeCells_one], by simp, List.Pairwise.nil, by simp, by simp⟩
 have hb : Hid (W.heap[w.heap.size]? = some (.cells (cfb c) 23 (0, 0))) := hid (by rw [hW]; exact ((Touch.refl [] _).alloc _).keep (heap_alloc_new w _) (by simp))
 have HN := hid (And.intro n1 n2)
 unfold cfb at hW hb
 have hz : (w.alloc (.cells #[.int .i64 c.t, .int .i64 c.n, .int .i64 c.s, .int .i64 c.e, .int .i64 c.f, .int .i64 c.b, .int .i64 c.d] 23)).heap.size = w.heap.size + 1 := World.size_alloc ..
 clear hd hc n1 n2 hr hw
 unfold Me.cv at *
 go_enter Tryz.func6, Tryz.ntmps6
 go_upto_region 4 with (go_at_call 36; refine (HM.out _).mono ?_; rintro e w1 ⟨rfl, e1⟩; rw [e1]; clear e1 w1)
 rw [← hW]
 clear hW hmk hz HM
 obtain ⟨r, hr⟩ : ∃ r, r = w.heap.size + 1 := ⟨_, rfl⟩
 rw [← hr] at H0 ⊢
 have HR := hid hr
 clear hr
 go_wp2
 go_loopw [17] (fun s17 wr => ∃ i : Nat, s17 = .int .i64 (i : Int) ∧ i ≤ n ∧ Hid (∃ U : List Gu, U.length = i ∧ NwI w wr r n c U ∧ wr.heap[w.heap.size]? = some (.cells #[.int .i64 c.t, .int .i64 c.n, .int .i64 c.s, .int .i64 c.e, .int .i64 c.f, .int .i64 c.b, .int .i64 c.d] 23 (0, 0)))) (fun i _ => n - (intOf i).toNat)
 case atStart => exact ⟨0, rfl, Nat.zero_le _, hid ⟨[], rfl, H0.out, hb.out⟩⟩
 case round =>
  clear H0 hb
  obtain ⟨i, rfl, hi, HU⟩ := hrel
  obtain ⟨U, hl, hu, hb⟩ := HU.out
  clear HU
  by_cases hlt : i < n
  ·have zi : (i : Int) < (n : Int) := by omega
   have zL : (n : Int) < 9223372036854775807 := by have := HN.out; omega
   have k0 := cell_at (j := 0) hb rfl
   have k1 := cell_at (j := 1) hb rfl
   have k2 := cell_at (j := 2) hb rfl
   have k3 := cell_at (j := 3) hb rfl
   have k4 := cell_at (j := 4) hb rfl
   have k5 := cell_at (j := 5) hb rfl
   have k6 := cell_at (j := 6) hb rfl
   have HC : Hid (Calls Tryz.prog 7 #[.agg #[.int .i64 c.t, .int .i64 c.n, .int .i64 c.s, .int .i64 c.e, .int .i64 c.f, .int .i64 c.b, .int .i64 c.d]] wr fun e w2 => ∃ g, e = .returned (.tuple #[.pointer (some ⟨g, 0, none⟩), .int .i64 0]) ∧ w2.cell? ⟨r, i, none⟩ = some (.pointer none) ∧ w2.frozen? ⟨r, i, none⟩ = false ∧ ∃ U : List Gu, U.length = i + 1 ∧ NwI w (w2.setCell ⟨r, i, none⟩ (.pointer (some ⟨g, 0, none⟩))) r n c U ∧ (w2.setCell ⟨r, i, none⟩ (.pointer (some ⟨g, 0, none⟩))).heap[w.heap.size]? = some (.cells #[.int .i64 c.t, .int .i64 c.n, .int .i64 c.s, .int .i64 c.e, .int .i64 c.f, .int .i64 c.b, .int .i64 c.d] 23 (0, 0))) := hid (by
    refine (HG.out wr).mono ?_
    rintro e w2 ⟨g, rfl, hN⟩
    have tt : Touch [] wr w2 := by obtain ⟨_, _, _, t, _⟩ := hN; exact t
    obtain ⟨P, F, q, hf, hu2⟩ := hu.more hN
    have hc : w2.cell? ⟨r, i, none⟩ = some (.pointer none) := by
     refine cell_at hu2.row ?_
     rw [List.getElem?_toArray, List.getElem?_append_right (by simp; omega), List.length_map, hl, Nat.sub_self, List.getElem?_replicate, if_pos (by omega)]
    refine ⟨g, rfl, hc, froz_at hu2.row i, U ++ [⟨g, P, F, G0 c 0 [], C0⟩], by simp [hl], (by rw [← hl]; exact hu2.put hu.t.size (fun u hu' k hk => (hu.gs u hu').lt k hk) q hf (by omega)), ?_⟩
    have T : Touch [r] w2 (w2.setCell ⟨r, i, none⟩ (.pointer (some ⟨g, 0, none⟩))) := (Touch.refl _ _).setCell (Or.inl (by simp)) _
    exact T.keep (tt.keep hb (by simp)) (by simp [HR.out]))
   clear hu hb hl hi HG U
   go_upto_region 11 with (go_at_call 7; refine HC.out.mono ?_; rintro e w2 ⟨g, rfl, kr, fr, hX⟩; have HX := hid hX; clear hX k0 k1 k2 k3 k4 k5 k6)
   go_wp2
   go_roundw
   case rel => exact ⟨i + 1, by go_num, by omega, HX⟩
   case measure => simp [intOf]; omega
  ·have zi : ¬ (i : Int) < (n : Int) := by omega
   have HC : Hid (Calls Tryz.prog 37 #[.slice (some ⟨r, 0, none⟩) n n, .int .i64 0] wr fun e w' => ∃ s F, e = .returned (.pointer (some ⟨s, 0, none⟩)) ∧ Hq w' s F (List.replicate n (G0 c 0 [])) 0 [] 0 ∧ Touch [] w w' ∧ ∀ k, k ∈ F → w.heap.size ≤ k) := hid (by
    refine (saround_ wr _ _ _ _).mono ?_
    rintro e w' ⟨rfl, rfl⟩
    obtain ⟨F, h1, h2, h3⟩ := hu.fin (by omega) HN.out.1 HN.out.2
    exact ⟨_, F, rfl, h1, h2, h3⟩)
   clear hu hb hl hi hlt HG U
   go_wp2_with (go_at_call 37; refine HC.out.mono ?_; rintro e w2 ⟨s, F, rfl, hX⟩; have HX := hid hX; clear hX)
   go_ret2
   exact ⟨s, F, rfl, HX.out⟩
end Go.Proofs.YtllchnancjgijaaGreat
