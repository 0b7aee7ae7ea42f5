/- What links a group's seats, its runs and its entries, in plain words, and that every step keeps it; no program. -/
import Derived.Test.YtkfophlhpjbmgaaGreatQo05
import Derived.Test.YtkfophlhpjbmgaaGreatQo11
import Derived.Test.YtkfophlhpjbmgaaGreatQo12
import Derived.Test.YtkfophlhpjbmgaaGreatQo13
import Derived.Test.YtkfophlhpjbmgaaGreatRows
import Derived.WalkKit
import Derived.ProofKit
import Derived.OpenShut
import Derived.ShutString
import Derived.Deep.Slices
import Derived.Test.YtkfophlhpjbmgaaGreatProg
import Derived.Shelf.SlIterI.Nil
import Derived.Shelf.SortM.Plain
import Derived.Shelf.SortM.SortNone
import Derived.Lib.SlKeysI
import Derived.Test.YtkfophlhpjbmgaaGreatQo03
import Derived.Test.YtkfophlhpjbmgaaGreatQo10
import Derived.Test.YtkfophlhpjbmgaaGreatQo01
import Derived.Maps.RangeWalk
set_option linter.unusedVariables false
set_option linter.unusedSimpArgs false
set_option maxRecDepth 100000
namespace Go.Proofs.YtkfophlhpjbmgaaGreat
def sO (L : List Lv.Se) (r : Int) : List Int := (Lv.inL 1 r L).map Prod.fst
theorem sO_mem {L : List Lv.Se} {r c : Int} : c ∈ sO L r ↔ ∃ t, (c, r, t) ∈ L := by
 unfold sO Lv.inL Lv.bn
 simp only [List.mem_map, List.mem_filter, decide_eq_true_eq]
 constructor
 ·rintro ⟨⟨a, b, t⟩, ⟨h1, h2⟩, h3⟩
  simp only at h2 h3
  subst h2 h3
  exact ⟨t, h1⟩
 ·rintro ⟨t, h⟩
  exact ⟨(c, r, t), ⟨h, rfl⟩, rfl⟩
theorem sO_snoc (L : List Lv.Se) (x : Lv.Se) (r : Int) : sO (L ++ [x]) r = if x.2.1 = r then sO L r ++ [x.1] else sO L r := by
 unfold sO Lv.inL Lv.bn
 rw [List.filter_append]
 by_cases h : x.2.1 = r <;> simp [h]
theorem sO_out0 {L : List Lv.Se} {c r : Int} : sO (Lv.outL 0 c L) r = (sO L r).filter (fun y => decide (y ≠ c)) := by
 unfold sO Lv.outL Lv.inL Lv.bn
 rw [List.filter_map, List.filter_filter, List.filter_filter]
 congr 1
 refine List.filter_congr (fun x _ => ?_)
 simp only [Function.comp]
 by_cases h1 : x.2.1 = r <;> by_cases h2 : x.1 = c <;> simp [h1, h2]
theorem sO_out1 {L : List Lv.Se} {r s : Int} : sO (Lv.outL 1 r L) s = if s = r then [] else sO L s := by
 unfold sO Lv.outL Lv.inL Lv.bn
 rw [List.filter_filter]
 by_cases h : s = r
 ·subst h
  rw [if_pos rfl, List.filter_eq_nil_iff.2]
  ·rfl
  ·intro x _
   simp
 ·rw [if_neg h]
  congr 1
  refine List.filter_congr (fun x _ => ?_)
  by_cases h1 : x.2.1 = s
  ·simp [h1, h]
  ·simp [h1]
theorem one_run {L : List Lv.Se} (h : (L.map Prod.fst).Nodup) {x y : Lv.Se} (hx : x ∈ L) (hy : y ∈ L) (e : x.1 = y.1) : x = y := by
 have h1 := Lv.in_caller h hx
 have : y ∈ Lv.inL 0 x.1 L := by
  unfold Lv.inL Lv.bn
  simp [hy, e]
 rw [h1] at this
 exact (List.mem_singleton.1 this).symm
def hE (en : List Me.En) (k : K) : Bool := Me.hs (Me.keysL en) k
structure Gi (X : Gp) : Prop where
 lv : ∀ p ∈ X.T.rs, p.2.ended = false
 ws : ∀ p ∈ X.T.rs, p.2.who = sO X.L p.1.run
 sr : ∀ x ∈ X.L, ∃ p ∈ X.T.rs, p.1.run = x.2.1
 ca : ∀ p ∈ X.T.rs, p.2.canc = decide (Ta.inter p.2 = 0)
 ke : ∀ p ∈ X.T.rs, p.2.kept = (p.1.rf && Ta.isCur X.T p.1 && hE X.en (Ta.kOf p.1))
 cc : ∀ p ∈ X.T.rs, Ta.isCur X.T p.1 = true → p.2.canc = false
section
variable {T : Ta.Tb} {M : Nat}
theorem uni (h : Ta.Ti T M) {p q : Ta.Rn × Ta.St} (hp : p ∈ T.rs) (hq : q ∈ T.rs) (e : p.1.run = q.1.run) : p = q := by
 have h1 := Ta.runOf_of_mem h hp
 rw [e, Ta.runOf_of_mem h hq] at h1
 exact (Option.some.inj h1).symm
theorem oneC (h : Ta.Ti T M) {p q : Ta.Rn × Ta.St} (hp : p ∈ T.rs) (hq : q ∈ T.rs) (e : Ta.kOf p.1 = Ta.kOf q.1) (cp : Ta.isCur T p.1 = true) (cq : Ta.isCur T q.1 = true) : p = q := by
 have h1 := (Ta.curOf_of_mem h hp).2 cp
 have h2 := (Ta.curOf_of_mem h hq).2 cq
 rw [e, h2] at h1
 exact uni h hp hq (by rw [Option.some.inj h1])
theorem isCur_gone (h : Ta.Ti T M) {q : Ta.Rn × Ta.St} (hq : q ∈ T.rs) (n : Int) (S : Ta.St) (R : Ta.Rn) (c : Bool) : Ta.isCur (Ta.goneT (Ta.setS T n S) R c) q.1 = (Ta.isCur T q.1 && !(Ta.goneB T R c && decide (Ta.kOf q.1 = Ta.kOf R))) := by
 unfold Ta.goneT
 have e : Ta.goneB (Ta.setS T n S) R c = Ta.goneB T R c := rfl
 rw [e]
 by_cases hg : Ta.goneB T R c = true
 ·rw [if_pos hg, hg]
  unfold Ta.goOn Ta.isCur
  have := (h.gen q hq).2
  by_cases hk : Ta.kOf q.1 = Ta.kOf R
  ·simp only [hk, if_true]
   rw [hk] at this
   simp only [decide_true, Bool.and_true, Bool.not_true, Bool.and_false, decide_eq_false_iff_not]
   show ¬ q.1.gen = T.gn (Ta.kOf R) + 1
   omega
  ·simp only [hk, if_false, decide_false, Bool.and_false, Bool.not_false, Bool.and_true]
   rfl
 ·have hg' : Ta.goneB T R c = false := by simpa using hg
  rw [if_neg hg, hg', Bool.false_and, Bool.not_false, Bool.and_true]
  rfl
theorem rs_gone (n : Int) (S : Ta.St) (R : Ta.Rn) (c : Bool) : (Ta.goneT (Ta.setS T n S) R c).rs = T.rs.map (Ta.putS n S) := by
 unfold Ta.goneT
 split <;> rfl
end
section
variable {X : Gp} {M N : Nat}
theorem Gi.congr {Y : Gp} (h : Gi X) (h1 : Y.T = X.T) (h2 : Y.L = X.L) (h3 : ∀ k, hE Y.en k = hE X.en k) : Gi Y := by
 obtain ⟨a, b, c, d, e, f⟩ := h
 rw [← h1] at a b c d e f
 rw [← h2] at b c
 exact ⟨a, b, c, d, fun q hq => by rw [h3]; exact e q hq, f⟩
theorem Gi.put0 (h : Gi X) (hT : Ta.Ti X.T M) {p : Ta.Rn × Ta.St} (hp : p ∈ X.T.rs) (S : Ta.St) (T' : Ta.Tb) (L' : List Lv.Se) (en' : List Me.En) (b : Bool) (hrs : T'.rs = X.T.rs.map (Ta.putS p.1.run S))
  (hpc : Ta.isCur T' p.1 = b) (hqc : ∀ q ∈ X.T.rs, q.1.run ≠ p.1.run → Ta.isCur T' q.1 = Ta.isCur X.T q.1)
  (hE1 : S.ended = false) (hw : S.who = sO L' p.1.run) (hca : S.canc = decide (Ta.inter S = 0))
  (hoth : ∀ q ∈ X.T.rs, q.1.run ≠ p.1.run → sO L' q.1.run = sO X.L q.1.run) (hsub : ∀ x ∈ L', ∃ q ∈ X.T.rs, q.1.run = x.2.1)
  (hen : ∀ q ∈ X.T.rs, q.1.run ≠ p.1.run → Ta.isCur X.T q.1 = true → hE en' (Ta.kOf q.1) = hE X.en (Ta.kOf q.1))
  (hkp : S.kept = (p.1.rf && b && hE en' (Ta.kOf p.1))) (hcb : b = true → S.canc = false) : Gi { X with T := T', L := L', en := en' } := by
 have split : ∀ q ∈ T'.rs, (q = (p.1, S)) ∨ (q ∈ X.T.rs ∧ q.1.run ≠ p.1.run) := fun q hq => by
  rw [hrs] at hq
  obtain ⟨q', hq', rfl⟩ := List.mem_map.1 hq
  unfold Ta.putS
  by_cases e : q'.1.run = p.1.run
  ·left
   rw [if_pos e, uni hT hq' hp e]
  ·right
   rw [if_neg e]
   exact ⟨hq', e⟩
 refine ⟨fun q hq => ?_, fun q hq => ?_, fun x hx => ?_, fun q hq => ?_, fun q hq => ?_, fun q hq hi => ?_⟩
 ·rcases split q hq with rfl | ⟨h1, _⟩
  ·exact hE1
  ·exact h.lv q h1
 ·rcases split q hq with rfl | ⟨h1, h2⟩
  ·exact hw
  ·rw [h.ws q h1]; exact (hoth q h1 h2).symm
 ·obtain ⟨q, hq, e⟩ := hsub x hx
  refine ⟨Ta.putS p.1.run S q, by show _ ∈ T'.rs; rw [hrs]; exact List.mem_map.2 ⟨q, hq, rfl⟩, ?_⟩
  rw [Ta.putS_fst]
  exact e
 ·rcases split q hq with rfl | ⟨h1, _⟩
  ·exact hca
  ·exact h.ca q h1
 ·rcases split q hq with rfl | ⟨h1, h2⟩
  ·show S.kept = (p.1.rf && Ta.isCur T' p.1 && hE en' (Ta.kOf p.1))
   rw [hpc]
   exact hkp
  ·show q.2.kept = (q.1.rf && Ta.isCur T' q.1 && hE en' (Ta.kOf q.1))
   rw [hqc q h1 h2, h.ke q h1]
   cases hi : Ta.isCur X.T q.1 with
   | false => simp
   | true => rw [hen q h1 h2 hi]
 ·rcases split q hq with rfl | ⟨h1, h2⟩
  ·have hi' : Ta.isCur T' p.1 = true := hi
   rw [hpc] at hi'
   exact hcb hi'
  ·have hi' : Ta.isCur T' q.1 = true := hi
   rw [hqc q h1 h2] at hi'
   exact h.cc q h1 hi'
theorem Gi.put (h : Gi X) (hT : Ta.Ti X.T M) {p : Ta.Rn × Ta.St} (hp : p ∈ X.T.rs) (S : Ta.St) (L' : List Lv.Se) (en' : List Me.En)
  (hE1 : S.ended = false) (hw : S.who = sO L' p.1.run) (hca : S.canc = decide (Ta.inter S = 0))
  (hoth : ∀ q ∈ X.T.rs, q.1.run ≠ p.1.run → sO L' q.1.run = sO X.L q.1.run) (hsub : ∀ x ∈ L', ∃ q ∈ X.T.rs, q.1.run = x.2.1)
  (hen : ∀ q ∈ X.T.rs, q.1.run ≠ p.1.run → Ta.isCur X.T q.1 = true → hE en' (Ta.kOf q.1) = hE X.en (Ta.kOf q.1))
  (hkp : S.kept = (p.1.rf && (Ta.isCur X.T p.1 && !S.canc) && hE en' (Ta.kOf p.1))) (c : Bool) (hc : c = true ↔ (S.canc = true ∧ p.2.canc = false)) : Gi { X with T := Ta.goneT (Ta.setS X.T p.1.run S) p.1 c, L := L', en := en' } := by
 refine h.put0 hT hp S _ L' en' (Ta.isCur X.T p.1 && !S.canc) (rs_gone _ _ _ _) ?_ (fun q hq hne => ?_) hE1 hw hca hoth hsub hen hkp (fun e => by simp only [Bool.and_eq_true, Bool.not_eq_true'] at e; exact e.2)
 ·rw [isCur_gone hT hp]
  unfold Ta.goneB
  cases hi : Ta.isCur X.T p.1 with
  | false => rfl
  | true =>
   have h0 := h.cc p hp hi
   have : c = S.canc := by
    cases hs : S.canc
    ·cases hcc : c
     ·rfl
     ·have := hc.1 hcc; rw [hs] at this; cases this.1
    ·exact hc.2 ⟨hs, h0⟩
   rw [this]
   simp
 ·rw [isCur_gone hT hq]
  cases hi : Ta.isCur X.T q.1 with
  | false => rfl
  | true =>
   have : (Ta.goneB X.T p.1 c && decide (Ta.kOf q.1 = Ta.kOf p.1)) = false := by
    unfold Ta.goneB
    by_cases hk : Ta.kOf q.1 = Ta.kOf p.1
    ·cases hip : Ta.isCur X.T p.1 with
     | false => simp
     | true => exact absurd (by rw [oneC hT hq hp hk hi hip]) hne
    ·simp [hk]
   rw [this]
   rfl
theorem inter0 {S : Ta.St} (he : S.ended = false) : Ta.inter S = 0 ↔ S.who = [] ∧ S.kept = false := by
 rw [Ta.inter_zero, he]
 simp
theorem Gi.leave (h : Gi X) (hT : Ta.Ti X.T M) (hL : (X.L.map Prod.fst).Nodup) {x : Lv.Se} (hx : x ∈ X.L) : Gi { X with T := Ta.tLeave X.T x.2.1 x.1, L := Lv.outL 0 x.1 X.L } ∧ Ta.tLeaveE X.T x.2.1 x.1 = 0 := by
 obtain ⟨p, hp, e⟩ := h.sr x hx
 have hr := Ta.runOf_of_mem hT hp
 rw [e] at hr
 have hin : x.1 ∈ p.2.who := by rw [h.ws p hp, e]; exact sO_mem.2 ⟨x.2.2, hx⟩
 have hl := h.lv p hp
 have hE0 : Ta.leaveE p.2 x.1 = 0 := by unfold Ta.leaveE; rw [hl, if_neg (by simp), if_pos hin]
 have hS : Ta.leaveS p.2 x.1 = Ta.leftS (Ta.lessS p.2 x.1) := by unfold Ta.leaveS; rw [if_pos hE0]
 have hB : Ta.leaveB p.2 x.1 = Ta.leftB (Ta.lessS p.2 x.1) := by unfold Ta.leaveB; rw [if_pos hE0]
 have hT1 : Ta.tLeave X.T x.2.1 x.1 = Ta.goneT (Ta.setS X.T p.1.run (Ta.leftS (Ta.lessS p.2 x.1))) p.1 (Ta.leftB (Ta.lessS p.2 x.1)) := by
  unfold Ta.tLeave
  rw [hr, ← hS, ← hB, e]
 have hpc : p.2.canc = false := by
  rw [h.ca p hp, decide_eq_false_iff_not, inter0 hl]
  intro hh
  rw [hh.1] at hin
  cases hin
 refine ⟨?_, by unfold Ta.tLeaveE; rw [hr]; exact hE0⟩
 rw [hT1]
 refine h.put hT hp (Ta.leftS (Ta.lessS p.2 x.1)) (Lv.outL 0 x.1 X.L) X.en hl ?_ rfl (fun q hq hne => ?_) (fun y hy => h.sr y (List.mem_filter.1 hy).1) (fun _ _ _ _ => rfl) ?_ _ ?_
 ·show p.2.who.filter _ = _
  rw [h.ws p hp, sO_out0]
 ·rw [sO_out0]
  refine List.filter_eq_self.2 (fun c hc => ?_)
  simp only [decide_eq_true_eq]
  intro ec
  subst ec
  obtain ⟨t, ht⟩ := sO_mem.1 hc
  have := one_run hL hx ht rfl
  rw [this] at e
  exact hne e.symm
 ·show p.2.kept = _
  rw [h.ke p hp]
  cases hcc : (Ta.leftS (Ta.lessS p.2 x.1)).canc with
  | false => simp
  | true =>
   have hz : Ta.inter (Ta.lessS p.2 x.1) = 0 := by
    have : Ta.leftB (Ta.lessS p.2 x.1) = true := hcc
    unfold Ta.leftB at this
    simpa using this
   have := ((inter0 (S := Ta.lessS p.2 x.1) hl).1 hz).2
   have hk : p.2.kept = false := this
   rw [h.ke p hp] at hk
   rw [hk]
   simp
 ·show Ta.leftB (Ta.lessS p.2 x.1) = true ↔ (Ta.leftB (Ta.lessS p.2 x.1) = true ∧ p.2.canc = false)
  simp [hpc]
theorem run0 (hT : Ta.Ti X.T M) : Ta.runOf X.T 0 = none := by
 cases hr : Ta.runOf X.T 0 with
 | none => rfl
 | some p =>
  obtain ⟨h1, h2⟩ := Ta.runOf_mem hr
  have := (hT.rng p h1).1
  omega
theorem Gi.rel (h : Gi X) (hT : Ta.Ti X.T M) (en' : List Me.En) (k : K) (hk : hE en' k = false) (ho : ∀ j, j ≠ k → hE en' j = hE X.en j) : Gi { X with T := Ta.tRel X.T (rlR X k), en := en' } := by
 unfold rlR
 cases hc : Ta.curOf X.T k with
 | none =>
  have e : Ta.tRel X.T (Option.map Ta.Rn.run none |>.getD 0) = X.T := by
   show Ta.tRel X.T 0 = X.T
   unfold Ta.tRel
   rw [run0 hT]
  rw [e]
  refine ⟨h.lv, h.ws, h.sr, h.ca, fun q hq => ?_, h.cc⟩
  show q.2.kept = (q.1.rf && Ta.isCur X.T q.1 && hE en' (Ta.kOf q.1))
  rw [h.ke q hq]
  by_cases hq2 : Ta.kOf q.1 = k
  ·have : Ta.isCur X.T q.1 = false := by
    have := Ta.curOf_none hc q hq hq2
    unfold Ta.isCur
    rw [hq2]
    simpa using this
   rw [this]
   simp
  ·rw [ho _ hq2]
 | some R =>
  obtain ⟨⟨S0, hm⟩, hkR, hgR⟩ := Ta.curOf_some hc
  have hr := Ta.runOf_of_mem hT hm
  have hcu : Ta.isCur X.T R = true := by unfold Ta.isCur; rw [hkR]; simpa using hgR
  have hl := h.lv _ hm
  have hkn : ∀ q ∈ X.T.rs, q.1.run ≠ R.run → Ta.isCur X.T q.1 = true → hE en' (Ta.kOf q.1) = hE X.en (Ta.kOf q.1) := fun q hq hne hi => by
   refine ho _ (fun e => hne ?_)
   have := oneC hT hq hm (e.trans hkR.symm) hi hcu
   rw [this]
  have e1 : Ta.tRel X.T R.run = Ta.goneT (Ta.setS X.T R.run (Ta.relS S0)) R (Ta.relB S0) := by
   unfold Ta.tRel
   rw [hr]
  show Gi { X with T := Ta.tRel X.T R.run, en := en' }
  rw [e1]
  cases hkp : S0.kept with
  | true =>
   have hcond : (S0.kept && !S0.ended) = true := by rw [hkp]; have : S0.ended = false := hl; rw [this]; rfl
   have hS : Ta.relS S0 = Ta.leftS { S0 with kept := false } := by unfold Ta.relS; rw [if_pos hcond]
   have hB : Ta.relB S0 = Ta.leftB { S0 with kept := false } := by unfold Ta.relB; rw [if_pos hcond]
   have hpc : S0.canc = false := h.cc _ hm hcu
   rw [hS, hB]
   refine h.put hT hm (Ta.leftS { S0 with kept := false }) X.L en' hl (h.ws _ hm) rfl (fun _ _ _ => rfl) h.sr hkn ?_ _ ?_
   ·show false = _
    rw [show Ta.kOf (R, S0).1 = k from hkR, hk]
    simp
   ·show Ta.leftB _ = true ↔ (Ta.leftB _ = true ∧ S0.canc = false)
    simp [hpc]
  | false =>
   have hcond : (S0.kept && !S0.ended) = false := by rw [hkp]; rfl
   have hS : Ta.relS S0 = S0 := by unfold Ta.relS; rw [hcond]; rfl
   have hB : Ta.relB S0 = false := by unfold Ta.relB; rw [hcond]; rfl
   rw [hS, hB]
   refine h.put hT hm S0 X.L en' hl (h.ws _ hm) (h.ca _ hm) (fun _ _ _ => rfl) h.sr hkn ?_ false ?_
   ·rw [show Ta.kOf (R, S0).1 = k from hkR, hk, hkp]
    simp
   ·constructor
    ·intro e; cases e
    ·rintro ⟨a, b⟩
     rw [show (R, S0).2.canc = S0.canc from rfl, a] at b
     cases b
theorem Gi.ent (h : Gi X) (en' : List Me.En) (ho : ∀ q ∈ X.T.rs, Ta.isCur X.T q.1 = true → hE en' (Ta.kOf q.1) = hE X.en (Ta.kOf q.1)) : Gi { X with en := en' } := by
 refine ⟨h.lv, h.ws, h.sr, h.ca, fun q hq => ?_, h.cc⟩
 show q.2.kept = (q.1.rf && Ta.isCur X.T q.1 && hE en' (Ta.kOf q.1))
 rw [h.ke q hq]
 cases hi : Ta.isCur X.T q.1 with
 | false => simp
 | true => rw [ho q hq hi]
theorem hE_drx (en : List Me.En) (k j : K) : hE (Me.drx en k) j = (hE en j && !decide (j = k)) := by
 unfold hE Me.hs
 rw [Me.drx_keys]
 unfold Me.dr
 rw [List.any_filter]
 by_cases hj : j = k
 ·subst hj
  simp only [decide_true, Bool.not_true, Bool.and_false, List.any_eq_false]
  intro x _
  by_cases e : x = j <;> simp [e]
 ·simp only [hj, decide_false, Bool.not_false, Bool.and_true]
  congr 1
  funext x
  by_cases e : x = j
  ·subst e
   simp [hj]
  ·simp [e]
theorem Gi.forget (h : Gi X) (hT : Ta.Ti X.T M) (n : Int) (k : K) : Gi (fgX X n k) := by
 unfold fgX
 split
 ·exact h
 ·rename_i hE0
  have hE0 : fgE X n k = 0 := by simpa using hE0
  have hm : Ta.mayK k = true := by
   unfold fgE Ta.tForE at hE0
   split at hE0
   ·contradiction
   ·split at hE0
    ·assumption
    ·cases hE0
  have hF : Ta.tFor X.T k = Ta.goOn X.T k := by unfold Ta.tFor; rw [if_pos hm]
  have hcur : ∀ q ∈ X.T.rs, Ta.isCur (Ta.goOn X.T k) q.1 = (Ta.isCur X.T q.1 && !decide (Ta.kOf q.1 = k)) := fun q hq => by
   unfold Ta.goOn Ta.isCur
   have := (hT.gen q hq).2
   by_cases hk : Ta.kOf q.1 = k
   ·simp only [hk, if_true]
    rw [hk] at this
    simp only [decide_true, Bool.not_true, Bool.and_false, decide_eq_false_iff_not]
    show ¬ q.1.gen = X.T.gn k + 1
    omega
   ·simp only [hk, if_false, decide_false, Bool.not_false, Bool.and_true]
  have hr0 : ∀ n, Ta.runOf (Ta.goOn X.T k) n = Ta.runOf X.T n := fun _ => rfl
  rw [hF]
  unfold Ta.tForR
  rw [if_pos hm]
  cases hc : Ta.curOf X.T k with
  | none =>
   have e : Ta.tRel (Ta.goOn X.T k) (Option.map Ta.Rn.run none |>.getD 0) = Ta.goOn X.T k := by
    show Ta.tRel (Ta.goOn X.T k) 0 = _
    unfold Ta.tRel
    rw [hr0, run0 hT]
   rw [e]
   have hno : ∀ q ∈ X.T.rs, Ta.kOf q.1 = k → Ta.isCur X.T q.1 = false := fun q hq hk => by
    have := Ta.curOf_none hc q hq hk
    unfold Ta.isCur
    rw [hk]
    simpa using this
   have hsame : ∀ q ∈ X.T.rs, Ta.isCur (Ta.goOn X.T k) q.1 = Ta.isCur X.T q.1 := fun q hq => by
    rw [hcur q hq]
    by_cases hk : Ta.kOf q.1 = k
    ·rw [hno q hq hk]; rfl
    ·simp [hk]
   refine ⟨h.lv, h.ws, h.sr, h.ca, fun q hq => ?_, fun q hq hi => ?_⟩
   ·show q.2.kept = (q.1.rf && Ta.isCur (Ta.goOn X.T k) q.1 && hE (Me.drx X.en k) (Ta.kOf q.1))
    rw [hsame q hq, h.ke q hq, hE_drx]
    by_cases hk : Ta.kOf q.1 = k
    ·rw [hno q hq hk]; simp
    ·simp [hk]
   ·have hi' : Ta.isCur (Ta.goOn X.T k) q.1 = true := hi
    rw [hsame q hq] at hi'
    exact h.cc q hq hi'
  | some R =>
   obtain ⟨⟨S0, hmm⟩, hkR, hgR⟩ := Ta.curOf_some hc
   have hr := Ta.runOf_of_mem hT hmm
   have hcu : Ta.isCur X.T R = true := by unfold Ta.isCur; rw [hkR]; simpa using hgR
   have hl := h.lv _ hmm
   have hgb : ∀ c, Ta.goneB (Ta.goOn X.T k) R c = false := fun c => by
    unfold Ta.goneB
    rw [hcur _ hmm]
    simp [hkR]
   have e1 : Ta.tRel (Ta.goOn X.T k) R.run = Ta.setS (Ta.goOn X.T k) R.run (Ta.relS S0) := by
    unfold Ta.tRel
    rw [hr0, hr]
    show Ta.goneT (Ta.setS (Ta.goOn X.T k) R.run (Ta.relS S0)) R (Ta.relB S0) = _
    unfold Ta.goneT
    have : Ta.goneB (Ta.setS (Ta.goOn X.T k) R.run (Ta.relS S0)) R (Ta.relB S0) = false := hgb _
    rw [this]
    rfl
   show Gi { X with now := n, T := Ta.tRel (Ta.goOn X.T k) R.run, en := Me.drx X.en k }
   rw [e1]
   have hk0 : (Ta.relS S0).kept = false := by
    unfold Ta.relS
    split
    ·rfl
    ·rename_i hh
     have : S0.ended = false := hl
     rw [this] at hh
     simpa using hh
   have hca : (Ta.relS S0).canc = decide (Ta.inter (Ta.relS S0) = 0) := by
    unfold Ta.relS
    split
    ·rfl
    ·exact h.ca _ hmm
   have hwh : (Ta.relS S0).who = S0.who := by unfold Ta.relS; split <;> rfl
   refine Gi.congr (h.put0 hT hmm (Ta.relS S0) (Ta.setS (Ta.goOn X.T k) R.run (Ta.relS S0)) X.L (Me.drx X.en k) false rfl ?_ (fun q hq hne => ?_) (Ta.rel_live hl) (hwh.trans (h.ws _ hmm)) hca (fun _ _ _ => rfl) h.sr (fun q hq hne hi => ?_) ?_ (fun e => by cases e)) rfl rfl (fun _ => rfl)
   ·show Ta.isCur (Ta.goOn X.T k) R = false
    rw [hcur _ hmm]
    simp [hkR]
   ·show Ta.isCur (Ta.goOn X.T k) q.1 = Ta.isCur X.T q.1
    rw [hcur q hq]
    cases hi : Ta.isCur X.T q.1 with
    | false => rfl
    | true =>
     have : Ta.kOf q.1 ≠ k := fun e => hne (by rw [oneC hT hq hmm (e.trans hkR.symm) hi hcu])
     simp [this]
   ·rw [hE_drx]
    have : Ta.kOf q.1 ≠ k := fun e => hne (by rw [oneC hT hq hmm (e.trans hkR.symm) hi hcu])
    simp [this]
   ·rw [hk0]
    simp
theorem Gi.gone (h : Gi X) (hT : Ta.Ti X.T M) (r : Int) : Gi { X with T := Ta.outR X.T r, L := Lv.outL 1 r X.L } := by
 have hm : ∀ q, q ∈ (Ta.outR X.T r).rs → q ∈ X.T.rs ∧ q.1.run ≠ r := fun q hq => by
  have := List.mem_filter.1 hq
  exact ⟨this.1, by simpa using this.2⟩
 refine ⟨fun q hq => h.lv q (hm q hq).1, fun q hq => ?_, fun x hx => ?_, fun q hq => h.ca q (hm q hq).1, fun q hq => h.ke q (hm q hq).1, fun q hq hi => h.cc q (hm q hq).1 hi⟩
 ·show q.2.who = sO (Lv.outL 1 r X.L) q.1.run
  rw [sO_out1, if_neg (hm q hq).2, h.ws q (hm q hq).1]
 ·obtain ⟨h1, h2⟩ := List.mem_filter.1 hx
  obtain ⟨q, hq, e⟩ := h.sr x h1
  have h3 : x.2.1 ≠ r := by simpa [Lv.bn] using h2
  exact ⟨q, List.mem_filter.2 ⟨hq, by simpa [e] using h3⟩, e⟩
theorem hE_putY (en : List Me.En) (k j : K) (v : Me.V) : hE (Me.putY en k v) j = (hE en j || decide (j = k)) := by
 have h1 : hE (Me.putY en k v) j = (hE (Me.drx en k) j || decide (k = j)) := by
  unfold hE Me.hs
  rw [Me.putY_keys]
  unfold Me.useY
  rw [List.any_append, Me.drx_keys]
  simp
 rw [h1, hE_drx]
 by_cases e : j = k
 ·subst e; simp
 ·have e' : ¬ k = j := fun q => e q.symm
  simp [e, e']
theorem hE_useX (en : List Me.En) (k j : K) : hE (Me.useX en k) j = hE en j := by
 unfold Me.useX
 cases hf : Me.fnd en k with
 | none => rfl
 | some v =>
  show hE (Me.putY en k v) j = _
  rw [hE_putY]
  by_cases e : j = k
  ·subst e
   have : hE en j = true := by unfold hE; rw [← Me.fnd_isSome, hf]; rfl
   simp [this]
  ·simp [e]
theorem useY_nd {ks : List K} (h : ks.Nodup) (k : K) : (Me.useY ks k).Nodup := by
 unfold Me.useY Me.dr
 rw [List.nodup_append]
 refine ⟨h.filter _, by simp, fun a ha b hb => ?_⟩
 have h1 := (List.mem_filter.1 ha).2
 simp only [List.mem_singleton] at hb
 subst hb
 simpa using h1
theorem hE_putL {en : List Me.En} (hn : (Me.keysL en).Nodup) (e : Int) (k : K) (v : Me.V) (hu : Me.useB e (Me.keysL en) k = true) : hE (Me.putL e en k v) (Me.useG e (Me.keysL en) k) = false ∧ ∀ j, j ≠ Me.useG e (Me.keysL en) k → hE (Me.putL e en k v) j = hE (Me.putY en k v) j := by
 have hk : Me.keysL (Me.putL e en k v) = (Me.useY (Me.keysL en) k).tail := by rw [Me.putL_keys]; unfold Me.useL; rw [if_pos hu]
 have hk2 : Me.keysL (Me.putY en k v) = Me.useY (Me.keysL en) k := Me.putY_keys en k v
 have hg : Me.useG e (Me.keysL en) k = (Me.useY (Me.keysL en) k).headD Me.kz := by unfold Me.useG; rw [if_pos hu]
 have nd := useY_nd hn k
 unfold hE
 rw [hg, hk, hk2]
 generalize Me.useY (Me.keysL en) k = ys at *
 cases ys with
 | nil => exact ⟨rfl, fun _ _ => rfl⟩
 | cons a r =>
  obtain ⟨h1, h2⟩ := List.nodup_cons.1 nd
  refine ⟨Me.hs_no h1, fun j hj => ?_⟩
  have hj : j ≠ a := hj
  show Me.hs r j = Me.hs (a :: r) j
  unfold Me.hs
  rw [List.any_cons]
  have : decide (a = j) = false := by simpa using fun q => hj q.symm
  rw [this, Bool.false_or]
theorem Gi.end_ (h : Gi X) (hT : Ta.Ti X.T M) (hn : (Me.keysL X.en).Nodup) (n r : Int) (o : O) : Gi (edX X n r o) := by
 unfold edX
 split
 ·exact h
 ·rename_i hE0
  have hE0 : edE X n r o = 0 := by simpa using hE0
  have hte : Ta.tEndE X.T r o = 0 := by
   unfold edE at hE0
   split at hE0
   ·contradiction
   ·exact hE0
  have hrun : ∃ p, Ta.runOf X.T r = some p ∧ Ta.endE p.2 o = 0 := by
   unfold Ta.tEndE at hte
   cases hr : Ta.runOf X.T r with
   | none => rw [hr] at hte; cases hte
   | some p => rw [hr] at hte; exact ⟨p, rfl, hte⟩
  obtain ⟨p, hr, he⟩ := hrun
  have hTe : Ta.tEnd X.T r o = Ta.outR X.T r := by unfold Ta.tEnd; rw [hr]; exact if_pos he
  have h1 : Gi (ed1 X n r o) := by
   unfold ed1
   rw [hTe]
   exact Gi.congr (h.gone hT r) rfl rfl (fun _ => rfl)
  have hT1 : Ta.Ti (ed1 X n r o).T M := by
   show Ta.Ti (Ta.tEnd X.T r o) M
   exact hT.end_ r o
  split
  ·rename_i hB
   have hcur : Ta.isCur X.T p.1 = true := by
    unfold edB Ta.tEndC at hB
    rw [hr] at hB
    simp only [Bool.and_eq_true] at hB
    exact hB.1.2
   obtain ⟨hp, hpr⟩ := Ta.runOf_mem hr
   have hk0 : edK X r = Ta.kOf p.1 := by
    unfold edK Ta.rnOf
    rw [hr]
   have hno : ∀ q ∈ (ed1 X n r o).T.rs, Ta.isCur (ed1 X n r o).T q.1 = true → Ta.kOf q.1 ≠ edK X r := fun q hq hi e => by
    have hq' : q ∈ (Ta.outR X.T r).rs := by rw [← hTe]; exact hq
    have hi' : Ta.isCur X.T q.1 = true := by
     have : Ta.isCur (Ta.tEnd X.T r o) q.1 = true := hi
     rw [hTe] at this
     exact this
    obtain ⟨h3, h4⟩ := List.mem_filter.1 hq'
    rw [hk0] at e
    have := oneC hT h3 hp e hi' hcur
    rw [this, hpr] at h4
    simp at h4
   unfold edG Me.kpG ed2 Me.kpX
   cases hkb : Me.kpB X.c X.mn n (edK X r) o with
   | false =>
    simp only [Bool.false_eq_true, if_false]
    exact Gi.congr h1 rfl rfl (fun _ => rfl)
   | true =>
    simp only [if_true]
    have h2 : Gi { ed1 X n r o with en := Me.putY X.en (edK X r) (o, n) } := h1.ent _ (fun q hq hi => by
     have := hno q hq hi
     rw [hE_putY]
     show (hE X.en (Ta.kOf q.1) || decide (Ta.kOf q.1 = edK X r)) = hE X.en (Ta.kOf q.1)
     simp [this])
    unfold Me.goneL
    cases hu : Me.useB X.c.e (Me.keysL X.en) (edK X r) with
    | false =>
     simp only [Bool.false_eq_true, if_false]
     refine Gi.congr h2 rfl rfl (fun j => ?_)
     show hE (Me.putL X.c.e X.en (edK X r) (o, n)) j = _
     unfold Me.putL
     rw [hu]
     rfl
    | true =>
     simp only [if_true]
     obtain ⟨a, b⟩ := hE_putL hn X.c.e (edK X r) (o, n) hu
     exact Gi.congr (h2.rel hT1 (Me.putL X.c.e X.en (edK X r) (o, n)) (Me.useG X.c.e (Me.keysL X.en) (edK X r)) a b) rfl rfl (fun _ => rfl)
  ·exact h1
theorem Gi.beg (h : Gi X) (hT : Ta.Ti X.T M) (k : K) (x t : Int) (rf : Bool) (h0 : Ta.tBegE X.T k x rf = 0) (he : rf = true → hE X.en k = true) : Gi { X with T := Ta.tBeg X.T k x rf, L := if rf then X.L else X.L ++ [(x, X.T.bg + 1, t)] } := by
 obtain ⟨b1, b2, b3, b4⟩ := Ta.tBegE_zero h0
 have hTb : Ta.tBeg X.T k x rf = { X.T with bg := X.T.bg + 1, rs := X.T.rs ++ [(Ta.tBegR X.T k rf, Ta.S0 (Ta.tBegR X.T k rf) x)] } := by unfold Ta.tBeg; rw [if_pos h0]
 rw [hTb]
 have hne : ∀ q ∈ X.T.rs, q.1.run ≠ X.T.bg + 1 := fun q hq => by have := (hT.rng q hq).2; omega
 have hso : ∀ q ∈ X.T.rs, sO (if rf then X.L else X.L ++ [(x, X.T.bg + 1, t)]) q.1.run = sO X.L q.1.run := fun q hq => by
  cases rf
  ·simp only [Bool.false_eq_true, if_false]
   rw [sO_snoc, if_neg (fun e => hne q hq e.symm)]
  ·rfl
 have hs0 : sO X.L (X.T.bg + 1) = [] := by
  cases hs : sO X.L (X.T.bg + 1) with
  | nil => rfl
  | cons a r =>
   have : a ∈ sO X.L (X.T.bg + 1) := by rw [hs]; simp
   obtain ⟨u, hu⟩ := sO_mem.1 this
   obtain ⟨q, hq, e⟩ := h.sr _ hu
   exact absurd e (hne q hq)
 have hic : ∀ R : Ta.Rn, Ta.isCur { X.T with bg := X.T.bg + 1, rs := X.T.rs ++ [(Ta.tBegR X.T k rf, Ta.S0 (Ta.tBegR X.T k rf) x)] } R = Ta.isCur X.T R := fun _ => rfl
 have split : ∀ q ∈ X.T.rs ++ [(Ta.tBegR X.T k rf, Ta.S0 (Ta.tBegR X.T k rf) x)], q ∈ X.T.rs ∨ q = (Ta.tBegR X.T k rf, Ta.S0 (Ta.tBegR X.T k rf) x) := fun q hq => by simpa using hq
 refine ⟨fun q hq => ?_, fun q hq => ?_, fun y hy => ?_, fun q hq => ?_, fun q hq => ?_, fun q hq hi => ?_⟩
 ·rcases split q hq with h1 | rfl
  ·exact h.lv q h1
  ·rfl
 ·rcases split q hq with h1 | rfl
  ·rw [h.ws q h1]; exact (hso q h1).symm
  ·show (if rf then [] else [x]) = sO (if rf then X.L else X.L ++ [(x, X.T.bg + 1, t)]) (X.T.bg + 1)
   cases rf
   ·simp only [Bool.false_eq_true, if_false]
    rw [sO_snoc, if_pos rfl, hs0]
    rfl
   ·simp only [if_true]
    exact hs0.symm
 ·have : y ∈ X.L ∨ (rf = false ∧ y = (x, X.T.bg + 1, t)) := by
   cases rf
   ·have hy' : y ∈ X.L ++ [(x, X.T.bg + 1, t)] := hy
    simpa using hy'
   ·exact Or.inl hy
  rcases this with h1 | ⟨_, rfl⟩
  ·obtain ⟨q, hq, e⟩ := h.sr y h1
   exact ⟨q, List.mem_append_left _ hq, e⟩
  ·exact ⟨_, List.mem_append_right _ (List.mem_singleton.2 rfl), rfl⟩
 ·rcases split q hq with h1 | rfl
  ·exact h.ca q h1
  ·show false = decide (Ta.inter (Ta.S0 (Ta.tBegR X.T k rf) x) = 0)
   cases rf <;> simp [Ta.inter, Ta.S0, Ta.tBegR]
 ·rcases split q hq with h1 | rfl
  ·exact h.ke q h1
  ·show rf = (rf && Ta.isCur X.T (Ta.tBegR X.T k rf) && hE X.en k)
   have : Ta.isCur X.T (Ta.tBegR X.T k rf) = true := by
    show decide (X.T.gn k = X.T.gn k) = true
    simp
   rw [this]
   cases rf
   ·rfl
   ·rw [he rfl]; rfl
 ·rcases split q hq with h1 | rfl
  ·exact h.cc q h1 hi
  ·rfl
theorem Gi.join (h : Gi X) (hT : Ta.Ti X.T M) {k : K} {R : Ta.Rn} (hc : Ta.curOf X.T k = some R) {x : Int} (hx : 1 ≤ x) (hn : ∀ y ∈ X.L, y.1 ≠ x) (t : Int) : Gi { X with T := Ta.tJoin X.T R.run x, L := X.L ++ [(x, R.run, t)] } := by
 obtain ⟨⟨S0, hm⟩, hkR, hgR⟩ := Ta.curOf_some hc
 have hr := Ta.runOf_of_mem hT hm
 have hcu : Ta.isCur X.T R = true := by unfold Ta.isCur; rw [hkR]; simpa using hgR
 have hl : S0.ended = false := h.lv _ hm
 have hca : S0.canc = false := h.cc _ hm hcu
 have hnw : ¬ x ∈ S0.who := fun e => by
  have : x ∈ sO X.L R.run := by rw [← h.ws _ hm]; exact e
  obtain ⟨u, hu⟩ := sO_mem.1 this
  exact hn _ hu rfl
 have hj : Ta.joinE S0 x = 0 := by
  unfold Ta.joinE
  rw [if_neg (by omega), hl, hca, if_neg (by simp), if_neg (by simp), if_neg hnw]
 have hS : Ta.joinS S0 x = { S0 with who := S0.who ++ [x] } := by unfold Ta.joinS; rw [if_pos hj]
 have hTj : Ta.tJoin X.T R.run x = Ta.setS X.T R.run { S0 with who := S0.who ++ [x] } := by
  unfold Ta.tJoin
  rw [hr, ← hS]
 rw [hTj]
 refine h.put0 hT hm { S0 with who := S0.who ++ [x] } _ _ X.en true rfl hcu (fun _ _ _ => rfl) hl ?_ ?_ (fun q hq hne => ?_) (fun y hy => ?_) (fun _ _ _ _ => rfl) ?_ (fun _ => hca)
 ·show S0.who ++ [x] = _
  rw [sO_snoc, if_pos rfl, ← h.ws _ hm]
 ·refine hca.trans ?_
  symm
  rw [decide_eq_false_iff_not, inter0 (S := { S0 with who := S0.who ++ [x] }) hl]
  simp
 ·rw [sO_snoc, if_neg (fun e => hne e.symm)]
 ·rcases List.mem_append.1 hy with e | e
  ·exact h.sr y e
  ·simp only [List.mem_singleton] at e
   subst e
   exact ⟨_, hm, rfl⟩
 ·show S0.kept = _
  rw [show S0.kept = (R, S0).2.kept from rfl, h.ke _ hm, hcu]
theorem Gi.lv_ (h : Gi X) (hT : Ta.Ti X.T M) (hL : (X.L.map Prod.fst).Nodup) (n c : Int) : Gi (lvX X n c) := by
 unfold lvX
 split
 ·exact h
 ·rename_i hE0
  have hE0 : lvE X n c = 0 := by simpa using hE0
  have hs : (Lv.whr X.L c).isSome = true := by
   unfold lvE at hE0
   split at hE0
   ·contradiction
   ·split at hE0
    ·assumption
    ·cases hE0
  obtain ⟨x, hx⟩ := Option.isSome_iff_exists.1 hs
  obtain ⟨h1, h2⟩ := Lv.whr_mem hx
  rw [hx, Option.getD_some]
  unfold lefX
  subst h2
  exact Gi.congr (h.leave hT hL h1).1 rfl rfl (fun _ => rfl)
theorem Gi.lefs_ : ∀ (xs : List Lv.Se) {X : Gp} {M : Nat}, Gi X → Ta.Ti X.T M → (X.L.map Prod.fst).Nodup → (∀ x ∈ xs, x ∈ X.L) → (xs.map Prod.fst).Nodup → Gi { X with T := lefT X.T xs, L := Lv.outs X.L xs }
 | [], X, M, h, _, _, _, _ => h
 | x :: r, X, M, h, hT, hL, hx, hn => by
  obtain ⟨n1, n2⟩ := List.nodup_cons.1 hn
  have h1 := (h.leave hT hL (hx x (by simp))).1
  have hT1 := hT.leave x.2.1 x.1
  have hL1 : ((Lv.outL 0 x.1 X.L).map Prod.fst).Nodup := hL.sublist (List.filter_sublist.map _)
  have := Gi.lefs_ r (X := { X with T := Ta.tLeave X.T x.2.1 x.1, L := Lv.outL 0 x.1 X.L }) h1 hT1 hL1 (fun y hy => by
   refine List.mem_filter.2 ⟨hx y (by simp [hy]), ?_⟩
   have : y.1 ≠ x.1 := fun e => n1 (by rw [← e]; exact List.mem_map.2 ⟨y, hy, rfl⟩)
   simpa [Lv.bn] using this) n2
  exact Gi.congr this rfl rfl (fun _ => rfl)
theorem Gi.cn_ (h : Gi X) (hT : Ta.Ti X.T M) (hL : (X.L.map Prod.fst).Nodup) (n t : Int) : Gi (cnX X n t) := by
 unfold cnX
 split
 ·exact h
 ·rename_i hE0
  have hE0 : cnE X n t = 0 := by simpa using hE0
  have ht : ¬ t < 1 := by
   unfold cnE at hE0
   split at hE0
   ·contradiction
   ·split at hE0
    ·cases hE0
    ·assumption
  rw [lefs_eq]
  have e1 : Lv.canA X.L t = Lv.inL 2 t X.L := by unfold Lv.canA; rw [if_neg ht]
  have e2 : Lv.canL X.L t = Lv.outs X.L (Lv.inL 2 t X.L) := by unfold Lv.canL; rw [if_neg ht, Lv.outs_in hL]
  rw [e1, e2]
  exact Gi.congr (Gi.lefs_ (Lv.inL 2 t X.L) h hT hL (fun x hx => (List.mem_filter.1 hx).1) (hL.sublist (List.filter_sublist.map _))) rfl rfl (fun _ => rfl)
theorem Gi.snd_ (h : Gi X) (n : Int) : Gi (sndX X n) := by
 unfold sndX
 split
 ·exact h
 ·exact Gi.congr h rfl rfl (fun _ => rfl)
theorem may0 {n : Int} {k : K} {x t : Int} (h : mayE X n k x t = 0) : tkE X n = 0 ∧ k.2.size ≤ 64 ∧ 1 ≤ x ∧ 0 ≤ t ∧ ¬ t ∈ X.G ∧ ∀ y ∈ X.L, y.1 ≠ x := by
 unfold mayE at h
 split at h
 ·contradiction
 rename_i a0
 split at h
 ·cases h
 rename_i a1
 split at h
 ·cases h
 rename_i a2
 split at h
 ·cases h
 rename_i a3
 split at h
 ·cases h
 rename_i a4
 split at h
 ·cases h
 rename_i a5
 exact ⟨by simpa using a0, by omega, by omega, by omega, a4, Lv.whr_none.1 (by simpa using a5)⟩
theorem tel_no {k : K} (h : telB X k = false) : (telX X k).T = X.T ∧ (telX X k).L = X.L ∧ (telX X k).en = X.en ∧ (telX X k).G = X.G ∧ (telX X k).now = X.now ∧ (telX X k).c = X.c ∧ (telX X k).B = X.B := by
 have hm : meeX X k (seenOf X k).1 = X := by
  unfold telB meeB at h
  unfold meeX
  split
  ·rename_i h2
   rw [h2] at h
   have h : renB X k = false := h
   unfold renB at h
   simp only [Bool.or_eq_false_iff, decide_eq_false_iff_not] at h
   unfold renX
   cases hc : Ta.curOf X.T k with
   | some _ => rfl
   | none => exact if_neg h.2
  ·rfl
 unfold telX
 rw [h, hm]
 simp
theorem Gi.tel_ (h : Gi X) (hT : Ta.Ti X.T M) (k : K) : Gi (telX X k) := by
 have hm : Gi (meeX X k (seenOf X k).1) ∧ (meeX X k (seenOf X k).1).L = X.L := by
  unfold meeX
  split
  ·rename_i h2
   have hen : hE X.en k = true := by
    unfold hE
    rw [← Me.fnd_isSome]
    unfold seenOf Me.lookS at h2
    cases hf : Me.fnd X.en k with
    | none => rw [hf] at h2; cases h2
    | some v => rfl
   unfold renX
   cases hc : Ta.curOf X.T k with
   | some _ => exact ⟨h, rfl⟩
   | none =>
    show Gi (if Ta.tBegE X.T k 0 true = 0 then begX (runX X k 0 true) (X.T.bg + 1) else X) ∧ (if Ta.tBegE X.T k 0 true = 0 then begX (runX X k 0 true) (X.T.bg + 1) else X).L = X.L
    split
    ·rename_i h0
     exact ⟨Gi.congr (h.beg hT k 0 0 true h0 (fun _ => hen)) rfl rfl (fun _ => rfl), rfl⟩
    ·exact ⟨h, rfl⟩
  ·exact ⟨h, rfl⟩
 unfold telX
 split
 ·have he : (meeX X k (seenOf X k).1).en = X.en := by
   unfold meeX
   split
   ·unfold renX
    split
    ·rfl
    ·split <;> rfl
   ·rfl
  exact Gi.congr hm.1 rfl rfl (fun j => by
   show hE (Me.useX X.en k) j = _
   rw [hE_useX, he])
 ·exact Gi.congr hm.1 rfl rfl (fun _ => rfl)
theorem Gi.jo_ (h : Gi X) (hT : Ta.Ti X.T M) (n : Int) (k : K) (x t : Int) : Gi (joX X n k x t) := by
 unfold joX
 split
 ·exact h
 ·rename_i hm0
  have hm0 : mayE X n k x t = 0 := by simpa using hm0
  obtain ⟨m1, m2, m3, m4, m5, m6⟩ := may0 hm0
  have h' : Gi { X with now := n } := Gi.congr h rfl rfl (fun _ => rfl)
  split
  ·exact h'.tel_ hT k
  ·rename_i htb
   have htb : telB { X with now := n } k = false := by simpa using htb
   obtain ⟨t1, t2, t3, t4, _⟩ := tel_no htb
   have hg : Gi (telX { X with now := n } k) := h'.tel_ hT k
   generalize telX { X with now := n } k = Y at *
   have t1 : Y.T = X.T := t1
   have t2 : Y.L = X.L := t2
   have t4 : Y.G = X.G := t4
   have hTY : Ta.Ti Y.T M := by rw [t1]; exact hT
   have hsit : ∀ r, 1 ≤ r → Lv.sitL Y.L Y.G (x, r, t) = Y.L ++ [(x, r, t)] := fun r hr => by
    have a1 : Lv.may (x, r, t) = true := by simp [Lv.may, m3, hr, m4]
    have a2 : (Lv.whr Y.L x).isSome = false := Lv.whr_none.2 (by rw [t2]; exact m6)
    have a3 : ¬ t ∈ Y.G := by rw [t4]; exact m5
    have a4 : Lv.sitE Y.L Y.G (x, r, t) = 0 := by
     unfold Lv.sitE
     rw [if_neg (by rw [a1]; simp)]
     show (if t ∈ Y.G then (152 : Int) else if (Lv.whr Y.L x).isSome = true then 151 else 0) = 0
     rw [if_neg a3, if_neg (by rw [a2]; simp)]
    unfold Lv.sitL
    rw [if_pos a4]
   unfold waiX
   cases hc : Ta.curOf Y.T k with
   | some R =>
    obtain ⟨⟨S0, hmm⟩, _⟩ := Ta.curOf_some hc
    have hr := (hTY.rng _ hmm).1
    show Gi (sitX { Y with T := Ta.tJoin Y.T R.run x } x R.run t)
    refine Gi.congr (hg.join hTY hc m3 (by rw [t2]; exact m6) t) rfl ?_ (fun _ => rfl)
    exact hsit R.run hr
   | none =>
    show Gi (if Ta.tBegE Y.T k x false = 0 then begX (sitX (runX Y k x false) x (Y.T.bg + 1) t) (Y.T.bg + 1) else Y)
    split
    ·rename_i h0
     refine Gi.congr (hg.beg hTY k x t false h0 (fun e => by cases e)) rfl ?_ (fun _ => rfl)
     exact hsit (Y.T.bg + 1) (by have := hTY.bg.1; omega)
    ·exact hg
end
theorem Gi.zero (c : Me.Cf) (en : List Me.En) (now : Int) : Gi (G0 c now en) := by
 refine ⟨fun p hp => ?_, fun p hp => ?_, fun x hx => ?_, fun p hp => ?_, fun p hp => ?_, fun p hp => ?_⟩
 all_goals (first | (exact absurd hp (by simp [G0, Ta.T0])) | (exact absurd hx (by simp [G0])))
end Go.Proofs.YtkfophlhpjbmgaaGreat
/- An act, a slice of acts and a configuration as arguments, opened; no conditions. -/
namespace Go.Proofs.YtkfophlhpjbmgaaGreat
open Go.ChangeShapes Go.WideShapes Go.ChangeAt Go.RowKit
theorem cl_yU16 : Tryz.prog.cellsOf 36 = 1 := by kernel_rfl
theorem cl_9 : Tryz.prog.cellsOf 9 = 1 := by kernel_rfl
theorem cl_3 : Tryz.prog.cellsOf 3 = 1 := by kernel_rfl
theorem cl_2 : Tryz.prog.cellsOf 2 = 1 := by kernel_rfl
theorem cl_KyA : Tryz.prog.cellsOf 38 = 2 := by kernel_rfl
structure KyA where
 sp : Int
 nm : ByteArray
def KyA.ok (a : KyA) : Prop := (Lit.int .u16 a.sp).wf = true ∧ a.nm.size ≤ maxLen
def KyA.cs (a : KyA) : Array Value := #[.int .u16 a.sp, .string a.nm]
set_option maxRecDepth 100000 in
theorem fields_KyA {H : Type} {enc : TypeId × Value → H} {W : World} {base fuel : Nat} {spare : Nat → Bool} {held : Bool} {cs : List Value} {x : DataW H × List MemPlace} (h : DataW.trod enc Tryz.prog W base spare held fuel 38 cs = some x) (hl : cs.length = 2) :
  ∃ a : KyA, cs = a.cs.toList ∧ a.ok := by
 obtain ⟨ys, k, hk, hxy, _, hyl, hfe⟩ := DataW.trod_struct Tryz.underlying38 h
 match cs, hl with
 | [v0, v1], _ =>
  have hy : ys.length = 2 := hyl
  match ys, hy with
  | [y0, y1], _ =>
   have g0 := hfe 0 _ rfl
   have g1 := hfe 1 _ rfl
   simp [cl_9, cl_yU16] at g0 g1
   obtain ⟨A0, e0, _, w0⟩ := DataW.trod_int Tryz.underlying36 g0
   obtain ⟨A1, e1, _, w1⟩ := DataW.trod_string Tryz.underlying9 g1
   simp only [List.cons.injEq, and_true] at e0 e1
   subst e0 e1
   exact ⟨⟨A0, A1⟩, rfl, w0, w1⟩
theorem cl_FaA : Tryz.prog.cellsOf 40 = 3 := by kernel_rfl
structure FaA where
 kd : Int
 cd : Int
 rn : Int
def FaA.ok (a : FaA) : Prop := W64 a.kd ∧ W64 a.cd ∧ W64 a.rn
def FaA.cs (a : FaA) : Array Value := #[.int .i64 a.kd, .int .i64 a.cd, .int .i64 a.rn]
set_option maxRecDepth 100000 in
theorem fields_FaA {H : Type} {enc : TypeId × Value → H} {W : World} {base fuel : Nat} {spare : Nat → Bool} {held : Bool} {cs : List Value} {x : DataW H × List MemPlace} (h : DataW.trod enc Tryz.prog W base spare held fuel 40 cs = some x) (hl : cs.length = 3) :
  ∃ a : FaA, cs = a.cs.toList ∧ a.ok := by
 obtain ⟨ys, k, hk, hxy, _, hyl, hfe⟩ := DataW.trod_struct Tryz.underlying40 h
 match cs, hl with
 | [v0, v1, v2], _ =>
  have hy : ys.length = 3 := hyl
  match ys, hy with
  | [y0, y1, y2], _ =>
   have g0 := hfe 0 _ rfl
   have g1 := hfe 1 _ rfl
   have g2 := hfe 2 _ rfl
   simp [cl_3] at g0 g1 g2
   obtain ⟨A0, e0, _, w0⟩ := DataW.trod_int Tryz.underlying3 g0
   obtain ⟨A1, e1, _, w1⟩ := DataW.trod_int Tryz.underlying3 g1
   obtain ⟨A2, e2, _, w2⟩ := DataW.trod_int Tryz.underlying3 g2
   simp only [List.cons.injEq, and_true] at e0 e1 e2
   subst e0 e1 e2
   exact ⟨⟨A0, A1, A2⟩, rfl, w0, w1, w2⟩
theorem cl_OuA : Tryz.prog.cellsOf 42 = 4 := by kernel_rfl
structure OuA where
 va : Int
 fl : FaA
def OuA.ok (a : OuA) : Prop := W64 a.va ∧ FaA.ok a.fl
def OuA.cs (a : OuA) : Array Value := #[.int .i64 a.va, .int .i64 a.fl.kd, .int .i64 a.fl.cd, .int .i64 a.fl.rn]
set_option maxRecDepth 100000 in
theorem fields_OuA {H : Type} {enc : TypeId × Value → H} {W : World} {base fuel : Nat} {spare : Nat → Bool} {held : Bool} {cs : List Value} {x : DataW H × List MemPlace} (h : DataW.trod enc Tryz.prog W base spare held fuel 42 cs = some x) (hl : cs.length = 4) :
  ∃ a : OuA, cs = a.cs.toList ∧ a.ok := by
 obtain ⟨ys, k, hk, hxy, _, hyl, hfe⟩ := DataW.trod_struct Tryz.underlying42 h
 match cs, hl with
 | [v0, v1, v2, v3], _ =>
  have hy : ys.length = 2 := hyl
  match ys, hy with
  | [y0, y1], _ =>
   have g0 := hfe 0 _ rfl
   have g1 := hfe 1 _ rfl
   simp [cl_2, cl_FaA] at g0 g1
   obtain ⟨A0, e0, _, w0⟩ := DataW.trod_int Tryz.underlying2 g0
   obtain ⟨A1, b1, w1⟩ := fields_FaA g1 rfl
   simp only [FaA.cs, List.cons.injEq, and_true] at b1
   obtain ⟨e1, e2, e3⟩ := b1
   simp only [List.cons.injEq, and_true] at e0
   subst e0 e1 e2 e3
   exact ⟨⟨A0, A1⟩, rfl, w0, w1⟩
theorem cl_ActG : Tryz.prog.cellsOf 44 = 12 := by kernel_rfl
structure ActG where
 kd : Int
 cl : Int
 tk : Int
 rn : Int
 st : Int
 od : Int
 k : KyA
 o : OuA
def ActG.ok (a : ActG) : Prop := W64 a.kd ∧ W64 a.cl ∧ W64 a.tk ∧ W64 a.rn ∧ W64 a.st ∧ W64 a.od ∧ KyA.ok a.k ∧ OuA.ok a.o
def ActG.cs (a : ActG) : Array Value := #[.int .i64 a.kd, .int .i64 a.cl, .int .i64 a.tk, .int .i64 a.rn, .int .i64 a.st, .int .i64 a.od, .int .u16 a.k.sp, .string a.k.nm, .int .i64 a.o.va, .int .i64 a.o.fl.kd, .int .i64 a.o.fl.cd, .int .i64 a.o.fl.rn]
set_option maxRecDepth 100000 in
theorem fields_ActG {H : Type} {enc : TypeId × Value → H} {W : World} {base fuel : Nat} {spare : Nat → Bool} {held : Bool} {cs : List Value} {x : DataW H × List MemPlace} (h : DataW.trod enc Tryz.prog W base spare held fuel 44 cs = some x) (hl : cs.length = 12) :
  ∃ a : ActG, cs = a.cs.toList ∧ a.ok := by
 obtain ⟨ys, k, hk, hxy, _, hyl, hfe⟩ := DataW.trod_struct Tryz.underlying44 h
 match cs, hl with
 | [v0, v1, v2, v3, v4, v5, v6, v7, v8, v9, v10, v11], _ =>
  have hy : ys.length = 8 := hyl
  match ys, hy with
  | [y0, y1, y2, y3, y4, y5, y6, y7], _ =>
   have g0 := hfe 0 _ rfl
   have g1 := hfe 1 _ rfl
   have g2 := hfe 2 _ rfl
   have g3 := hfe 3 _ rfl
   have g4 := hfe 4 _ rfl
   have g5 := hfe 5 _ rfl
   have g6 := hfe 6 _ rfl
   have g7 := hfe 7 _ rfl
   simp [cl_2, cl_3, cl_KyA, cl_OuA] at g0 g1 g2 g3 g4 g5 g6 g7
   obtain ⟨A0, e0, _, w0⟩ := DataW.trod_int Tryz.underlying3 g0
   obtain ⟨A1, e1, _, w1⟩ := DataW.trod_int Tryz.underlying3 g1
   obtain ⟨A2, e2, _, w2⟩ := DataW.trod_int Tryz.underlying3 g2
   obtain ⟨A3, e3, _, w3⟩ := DataW.trod_int Tryz.underlying3 g3
   obtain ⟨A4, e4, _, w4⟩ := DataW.trod_int Tryz.underlying2 g4
   obtain ⟨A5, e5, _, w5⟩ := DataW.trod_int Tryz.underlying2 g5
   obtain ⟨A6, b6, w6⟩ := fields_KyA g6 rfl
   simp only [KyA.cs, List.cons.injEq, and_true] at b6
   obtain ⟨e6, e7⟩ := b6
   obtain ⟨A7, b7, w7⟩ := fields_OuA g7 rfl
   simp only [OuA.cs, List.cons.injEq, and_true] at b7
   obtain ⟨e8, e9, e10, e11⟩ := b7
   simp only [List.cons.injEq, and_true] at e0 e1 e2 e3 e4 e5
   subst e0 e1 e2 e3 e4 e5 e6 e7 e8 e9 e10 e11
   exact ⟨⟨A0, A1, A2, A3, A4, A5, A6, A7⟩, rfl, w0, w1, w2, w3, w4, w5, w6, w7⟩
theorem cl_CfG : Tryz.prog.cellsOf 23 = 7 := by kernel_rfl
structure CfG where
 t : Int
 n : Int
 s : Int
 e : Int
 f : Int
 b : Int
 d : Int
def CfG.ok (a : CfG) : Prop := W64 a.t ∧ W64 a.n ∧ W64 a.s ∧ W64 a.e ∧ W64 a.f ∧ W64 a.b ∧ W64 a.d
def CfG.cs (a : CfG) : Array Value := #[.int .i64 a.t, .int .i64 a.n, .int .i64 a.s, .int .i64 a.e, .int .i64 a.f, .int .i64 a.b, .int .i64 a.d]
set_option maxRecDepth 100000 in
theorem fields_CfG {H : Type} {enc : TypeId × Value → H} {W : World} {base fuel : Nat} {spare : Nat → Bool} {held : Bool} {cs : List Value} {x : DataW H × List MemPlace} (h : DataW.trod enc Tryz.prog W base spare held fuel 23 cs = some x) (hl : cs.length = 7) :
  ∃ a : CfG, cs = a.cs.toList ∧ a.ok := by
 obtain ⟨ys, k, hk, hxy, _, hyl, hfe⟩ := DataW.trod_struct Tryz.underlying23 h
 match cs, hl with
 | [v0, v1, v2, v3, v4, v5, v6], _ =>
  have hy : ys.length = 7 := hyl
  match ys, hy with
  | [y0, y1, y2, y3, y4, y5, y6], _ =>
   have g0 := hfe 0 _ rfl
   have g1 := hfe 1 _ rfl
   have g2 := hfe 2 _ rfl
   have g3 := hfe 3 _ rfl
   have g4 := hfe 4 _ rfl
   have g5 := hfe 5 _ rfl
   have g6 := hfe 6 _ rfl
   simp [cl_2, cl_3] at g0 g1 g2 g3 g4 g5 g6
   obtain ⟨A0, e0, _, w0⟩ := DataW.trod_int Tryz.underlying2 g0
   obtain ⟨A1, e1, _, w1⟩ := DataW.trod_int Tryz.underlying2 g1
   obtain ⟨A2, e2, _, w2⟩ := DataW.trod_int Tryz.underlying2 g2
   obtain ⟨A3, e3, _, w3⟩ := DataW.trod_int Tryz.underlying3 g3
   obtain ⟨A4, e4, _, w4⟩ := DataW.trod_int Tryz.underlying3 g4
   obtain ⟨A5, e5, _, w5⟩ := DataW.trod_int Tryz.underlying3 g5
   obtain ⟨A6, e6, _, w6⟩ := DataW.trod_int Tryz.underlying2 g6
   simp only [List.cons.injEq, and_true] at e0 e1 e2 e3 e4 e5 e6
   subst e0 e1 e2 e3 e4 e5 e6
   exact ⟨⟨A0, A1, A2, A3, A4, A5, A6⟩, rfl, w0, w1, w2, w3, w4, w5, w6⟩
theorem add_plainA (b off j : Nat) : (⟨b, off, none⟩ : Addr).add j = ⟨b, off + j, none⟩ := by simp [Addr.add]
set_option maxRecDepth 100000 in
theorem open_CfG {H : Type} {enc : TypeId × Value → H} {W : World} {b0 : Nat} {v : Value} {d : DataW H} {p : List MemPlace} (hv : Value.okWide Tryz.prog W .any b0 23 v) (h : DataW.Trod enc Tryz.prog W 0 (fun _ => true) true 23 v d p) : ∃ a : CfG, v = .agg a.cs ∧ a.ok := by
 obtain ⟨cs, rfl, hs⟩ := okWide_struct Tryz.underlying23 hv
 obtain ⟨fuel, hf⟩ := h
 rw [cl_CfG] at hs
 obtain ⟨cl⟩ := cs
 have hs' : cl.length = 7 := by simpa using hs
 obtain ⟨a, e, wa⟩ := fields_CfG (cs := cl) (by simpa [Value.cells] using hf) hs'
 subst e
 exact ⟨a, rfl, wa⟩
structure RowActG (w : World) (b off : Nat) (xs : List ActG) : Prop where
 lt : b < w.heap.size
 c0 : ∀ i (h : i < xs.length), w.cell? ⟨b, off + i * 12, none⟩ = some (.int .i64 xs[i].kd)
 c1 : ∀ i (h : i < xs.length), w.cell? ⟨b, off + i * 12 + 1, none⟩ = some (.int .i64 xs[i].cl)
 c2 : ∀ i (h : i < xs.length), w.cell? ⟨b, off + i * 12 + 2, none⟩ = some (.int .i64 xs[i].tk)
 c3 : ∀ i (h : i < xs.length), w.cell? ⟨b, off + i * 12 + 3, none⟩ = some (.int .i64 xs[i].rn)
 c4 : ∀ i (h : i < xs.length), w.cell? ⟨b, off + i * 12 + 4, none⟩ = some (.int .i64 xs[i].st)
 c5 : ∀ i (h : i < xs.length), w.cell? ⟨b, off + i * 12 + 5, none⟩ = some (.int .i64 xs[i].od)
 c6 : ∀ i (h : i < xs.length), w.cell? ⟨b, off + i * 12 + 6, none⟩ = some (.int .u16 xs[i].k.sp)
 c7 : ∀ i (h : i < xs.length), w.cell? ⟨b, off + i * 12 + 7, none⟩ = some (.string xs[i].k.nm)
 c8 : ∀ i (h : i < xs.length), w.cell? ⟨b, off + i * 12 + 8, none⟩ = some (.int .i64 xs[i].o.va)
 c9 : ∀ i (h : i < xs.length), w.cell? ⟨b, off + i * 12 + 9, none⟩ = some (.int .i64 xs[i].o.fl.kd)
 c10 : ∀ i (h : i < xs.length), w.cell? ⟨b, off + i * 12 + 10, none⟩ = some (.int .i64 xs[i].o.fl.cd)
 c11 : ∀ i (h : i < xs.length), w.cell? ⟨b, off + i * 12 + 11, none⟩ = some (.int .i64 xs[i].o.fl.rn)
def SlActG (w : World) (v : Value) (xs : List ActG) : Prop := (xs = [] ∧ ∃ a c, v = .slice a 0 c) ∨ ∃ b off cap, v = .slice (some ⟨b, off, none⟩) xs.length cap ∧ RowActG w b off xs
theorem RowActG.keep {w w' : World} {b off : Nat} {xs : List ActG} (h : RowActG w b off xs) (ht : Touch [] w w') : RowActG w' b off xs := by
 have e : w'.heap[b]? = w.heap[b]? := ht.block b h.lt (by simp)
 refine ⟨Nat.lt_of_lt_of_le h.lt ht.size, fun i hi => ?_, fun i hi => ?_, fun i hi => ?_, fun i hi => ?_, fun i hi => ?_, fun i hi => ?_, fun i hi => ?_, fun i hi => ?_, fun i hi => ?_, fun i hi => ?_, fun i hi => ?_, fun i hi => ?_⟩
 ·rw [World.cell?_of_block (by exact e)]; exact h.c0 i hi
 ·rw [World.cell?_of_block (by exact e)]; exact h.c1 i hi
 ·rw [World.cell?_of_block (by exact e)]; exact h.c2 i hi
 ·rw [World.cell?_of_block (by exact e)]; exact h.c3 i hi
 ·rw [World.cell?_of_block (by exact e)]; exact h.c4 i hi
 ·rw [World.cell?_of_block (by exact e)]; exact h.c5 i hi
 ·rw [World.cell?_of_block (by exact e)]; exact h.c6 i hi
 ·rw [World.cell?_of_block (by exact e)]; exact h.c7 i hi
 ·rw [World.cell?_of_block (by exact e)]; exact h.c8 i hi
 ·rw [World.cell?_of_block (by exact e)]; exact h.c9 i hi
 ·rw [World.cell?_of_block (by exact e)]; exact h.c10 i hi
 ·rw [World.cell?_of_block (by exact e)]; exact h.c11 i hi
set_option maxRecDepth 100000 in
theorem open_ActGs {H : Type} {enc : TypeId × Value → H} {W : World} {b0 : Nat} {v : Value} {d : DataW H} {p : List MemPlace} (hv : Value.okWide Tryz.prog W .any b0 24 v) (h : DataW.Trod enc Tryz.prog W 0 (fun _ => true) true 24 v d p) :
  ∃ xs : List ActG, SlActG W v xs ∧ (∀ x ∈ xs, x.ok) ∧ (xs = [] ∨ ∃ elems spare, d = .slice elems spare ∧ elems.length = xs.length) := by
 obtain ⟨a, len, cap, rfl⟩ := okWide_slice Tryz.underlying24 hv
 obtain ⟨fuel, hf⟩ := h
 rcases Deep.open_slice Tryz.underlying24 hf with ⟨hcs, _⟩ | ⟨x, l, c, m, n, D, Pl, hcs, _, hl, hm, hmm, hx, hall⟩
 ·simp [Value.cells] at hcs
  obtain ⟨rfl, rfl, rfl⟩ := hcs
  exact ⟨[], Or.inl ⟨rfl, _, _, rfl⟩, fun x hx => by simp at hx, Or.inl rfl⟩
 ·simp [Value.cells] at hcs
  obtain ⟨rfl, rfl, rfl⟩ := hcs
  simp only [if_true] at hmm
  subst hmm
  simp only [Prod.mk.injEq] at hx
  obtain ⟨rfl, rfl⟩ := hx
  rw [cl_ActG] at hall
  have each : ∀ i, i < m → ∃ q : ActG, W.cell? (x.add (i * 12)) = some (.int .i64 q.kd) ∧ W.cell? (x.add (i * 12 + 1)) = some (.int .i64 q.cl) ∧ W.cell? (x.add (i * 12 + 2)) = some (.int .i64 q.tk) ∧ W.cell? (x.add (i * 12 + 3)) = some (.int .i64 q.rn) ∧ W.cell? (x.add (i * 12 + 4)) = some (.int .i64 q.st) ∧ W.cell? (x.add (i * 12 + 5)) = some (.int .i64 q.od) ∧ W.cell? (x.add (i * 12 + 6)) = some (.int .u16 q.k.sp) ∧ W.cell? (x.add (i * 12 + 7)) = some (.string q.k.nm) ∧ W.cell? (x.add (i * 12 + 8)) = some (.int .i64 q.o.va) ∧ W.cell? (x.add (i * 12 + 9)) = some (.int .i64 q.o.fl.kd) ∧ W.cell? (x.add (i * 12 + 10)) = some (.int .i64 q.o.fl.cd) ∧ W.cell? (x.add (i * 12 + 11)) = some (.int .i64 q.o.fl.rn) ∧ q.ok := fun i hi => by
   obtain ⟨cs', h1, h2⟩ := hall i hi
   obtain ⟨_, hlen, hcell⟩ := World.cells?_some h1
   obtain ⟨q, rfl, wq⟩ := fields_ActG h2 hlen
   have e0 := hcell 0 (by omega)
   have e1 := hcell 1 (by omega)
   have e2 := hcell 2 (by omega)
   have e3 := hcell 3 (by omega)
   have e4 := hcell 4 (by omega)
   have e5 := hcell 5 (by omega)
   have e6 := hcell 6 (by omega)
   have e7 := hcell 7 (by omega)
   have e8 := hcell 8 (by omega)
   have e9 := hcell 9 (by omega)
   have e10 := hcell 10 (by omega)
   have e11 := hcell 11 (by omega)
   rw [Deep.add_add] at e0 e1 e2 e3 e4 e5 e6 e7 e8 e9 e10 e11
   exact ⟨q, by simpa [ActG.cs] using e0, by simpa [ActG.cs] using e1, by simpa [ActG.cs] using e2, by simpa [ActG.cs] using e3, by simpa [ActG.cs] using e4, by simpa [ActG.cs] using e5, by simpa [ActG.cs] using e6, by simpa [ActG.cs] using e7, by simpa [ActG.cs] using e8, by simpa [ActG.cs] using e9, by simpa [ActG.cs] using e10, by simpa [ActG.cs] using e11, wq⟩
  haveI : Inhabited ActG := ⟨⟨0, 0, 0, 0, 0, 0, ⟨0, ⟨#[]⟩⟩, ⟨0, ⟨0, 0, 0⟩⟩⟩⟩
  obtain ⟨q, hq⟩ := Deep.choose_lt each
  rcases Nat.eq_zero_or_pos len with e | e
  ·subst e
   exact ⟨[], Or.inl ⟨rfl, _, _, rfl⟩, fun x hx => by simp at hx, Or.inl rfl⟩
  ·have hsp : x.spot = none := by
    have h0 := (hq 0 (by omega)).1
    rw [show x.add (0 * 12) = x by simp [Addr.add]] at h0
    unfold World.cell? at h0
    split at h0
    ·split at h0
     ·cases h0
     ·rename_i hs
      cases hh : x.spot with
      | none => rfl
      | some z => rw [hh] at hs; exact absurd rfl hs
    ·cases h0
   obtain ⟨b, off, r⟩ := x
   obtain rfl : r = none := hsp
   have hlen : ((List.range len).map q).length = len := by simp
   refine ⟨(List.range len).map q, Or.inr ⟨b, off, m, by rw [hlen], ?_, fun i hi => ?_, fun i hi => ?_, fun i hi => ?_, fun i hi => ?_, fun i hi => ?_, fun i hi => ?_, fun i hi => ?_, fun i hi => ?_, fun i hi => ?_, fun i hi => ?_, fun i hi => ?_, fun i hi => ?_⟩, fun y hy => ?_, Or.inr ⟨_, _, rfl, by simp⟩⟩
   ·rcases Nat.lt_or_ge b W.heap.size with h | h
    ·exact h
    ·have h0 := (hq 0 (by omega)).1
     simp [World.cell?, add_plainA, Array.getElem?_eq_none h] at h0
   ·rw [hlen] at hi
    have h0 := (hq i (by omega)).1
    simpa [add_plainA, Nat.add_assoc] using h0
   ·rw [hlen] at hi
    have h0 := (hq i (by omega)).2.1
    simpa [add_plainA, Nat.add_assoc] using h0
   ·rw [hlen] at hi
    have h0 := (hq i (by omega)).2.2.1
    simpa [add_plainA, Nat.add_assoc] using h0
   ·rw [hlen] at hi
    have h0 := (hq i (by omega)).2.2.2.1
    simpa [add_plainA, Nat.add_assoc] using h0
   ·rw [hlen] at hi
    have h0 := (hq i (by omega)).2.2.2.2.1
    simpa [add_plainA, Nat.add_assoc] using h0
   ·rw [hlen] at hi
    have h0 := (hq i (by omega)).2.2.2.2.2.1
    simpa [add_plainA, Nat.add_assoc] using h0
   ·rw [hlen] at hi
    have h0 := (hq i (by omega)).2.2.2.2.2.2.1
    simpa [add_plainA, Nat.add_assoc] using h0
   ·rw [hlen] at hi
    have h0 := (hq i (by omega)).2.2.2.2.2.2.2.1
    simpa [add_plainA, Nat.add_assoc] using h0
   ·rw [hlen] at hi
    have h0 := (hq i (by omega)).2.2.2.2.2.2.2.2.1
    simpa [add_plainA, Nat.add_assoc] using h0
   ·rw [hlen] at hi
    have h0 := (hq i (by omega)).2.2.2.2.2.2.2.2.2.1
    simpa [add_plainA, Nat.add_assoc] using h0
   ·rw [hlen] at hi
    have h0 := (hq i (by omega)).2.2.2.2.2.2.2.2.2.2.1
    simpa [add_plainA, Nat.add_assoc] using h0
   ·rw [hlen] at hi
    have h0 := (hq i (by omega)).2.2.2.2.2.2.2.2.2.2.2.1
    simpa [add_plainA, Nat.add_assoc] using h0
   ·simp only [List.mem_map, List.mem_range] at hy
    obtain ⟨i, hi, rfl⟩ := hy
    exact (hq i (by omega)).2.2.2.2.2.2.2.2.2.2.2.2
set_option maxRecDepth 100000 in
theorem laidOut : laidOutB Tryz.prog = true := by kernel_rfl
def KyA.key (a : KyA) : K := (a.sp, a.nm)
end Go.Proofs.YtkfophlhpjbmgaaGreat
/- A group of a law's own, and blocks beside it that its steps leave alone; no conditions. -/
namespace Go.Proofs.YtkfophlhpjbmgaaGreat
open Go.RowKit Go.Maps Go.ChangeMaps
def Sp (w wr : World) (g : Nat) (P : Pt) (Q : List Nat) (X : Gp) (N : Cn) : Prop := ∃ F, Gq wr g P F X N ∧ Touch [] w wr ∧ (∀ k, k ∈ F → w.heap.size ≤ k) ∧ ∀ k, k ∈ Q → k < wr.heap.size ∧ ¬ k ∈ F
section
variable {w wr w2 : World} {g : Nat} {P : Pt} {Q : List Nat} {X Y : Gp} {N M : Cn}
theorem Sp.tch (h : Sp w wr g P Q X N) : Touch [] w wr := by obtain ⟨_, _, t, _⟩ := h; exact t
theorem Sp.keep0 (h : Sp w wr g P Q X N) (T : Touch [] wr w2) : Sp w w2 g P Q X N ∧ ∀ k, k ∈ Q → w2.heap[k]? = wr.heap[k]? := by
 obtain ⟨F, q, t, fr, hq⟩ := h
 exact ⟨⟨F, q.keep0 T, t.trans' T, fr, fun k hk => ⟨Nat.lt_of_lt_of_le (hq k hk).1 T.size, (hq k hk).2⟩⟩, fun k hk => T.block k (hq k hk).1 (by simp)⟩
theorem Sp.alloc (h : Sp w wr g P Q X N) (ob : Obj) : Sp w (wr.alloc ob) g P (wr.heap.size :: Q) X N := by
 obtain ⟨F, q, t, fr, hq⟩ := h
 have T : Touch [] wr (wr.alloc ob) := (Touch.refl _ _).alloc ob
 refine ⟨F, q.keep0 T, t.trans' T, fr, fun k hk => ?_⟩
 rcases List.mem_cons.1 hk with e | e
 ·subst e
  refine ⟨by rw [World.size_alloc]; omega, fun e => ?_⟩
  have := q.lt _ e
  omega
 ·exact ⟨Nat.lt_of_lt_of_le (hq k e).1 T.size, (hq k e).2⟩
theorem Sp.set (h : Sp w wr g P Q X N) {b : Nat} (hb : b ∈ Q) (hw : w.heap.size ≤ b) (ob : Obj) : Sp w (setBlock wr b ob) g P Q X N := by
 obtain ⟨F, q, t, fr, hq⟩ := h
 have T : Touch [b] wr (setBlock wr b ob) := touch_setBlock (Touch.refl _ _) (Or.inl (by simp)) ob
 refine ⟨F, q.keep T (fun k hk e => ?_), t.trans T (fun i hi => Or.inr (by simp at hi; omega)), fr, fun k hk => ⟨Nat.lt_of_lt_of_le (hq k hk).1 T.size, (hq k hk).2⟩⟩
 simp only [List.mem_singleton] at e
 subst e
 exact (hq _ hb).2 hk
end
def cfO (c : CfG) : Me.Cf := ⟨c.t, c.n, c.s, c.e, c.f, c.b, c.d⟩
end Go.Proofs.YtkfophlhpjbmgaaGreat
/- What a group answers without being changed; no conditions but those that each states. -/
namespace Go.Proofs.YtkfophlhpjbmgaaGreat
open Go.RowKit Go.Maps Go.ChangeMaps
section
variable {w : World} {g : Nat} {P : Pt} {F : List Nat} {X : Gp} {N : Cn}
theorem waiters_q (h : Gq w g P F X N) (hN : N.t ≤ 3000000000000) {n : Int} (hn : W64 n) : Calls Tryz.prog 14 #[PT g, .int .i64 n] w fun e w' => ∃ a c, e = .returned (.slice a (Ta.whoOf X.T n).length c) ∧ Rd w' (.slice a (Ta.whoOf X.T n).length c) (Ta.whoOf X.T n) ∧ Touch [] w w' := by
 refine (waiters_any (Ow.of h) n (R := fun v w' => Rd w' v (Ta.whoOf X.T n) ∧ Touch [] w w') (fun w1 T => ?_)).mono ?_
 ·obtain ⟨Ft, ht, -, -⟩ := (h.keep0 T).tab
  refine (Ta.waitersT w1 P.t Ft X.T N.t ht hN n hn).mono ?_
  rintro e w2 ⟨v, e1, e2, e3, e4⟩
  exact ⟨v, e1, e2, T.trans' e4⟩
 ·rintro e w2 ⟨v, rfl, r, t⟩
  obtain ⟨a, c, rfl, _⟩ := r.form
  exact ⟨a, c, rfl, r, t⟩
end
end Go.Proofs.YtkfophlhpjbmgaaGreat
/- What the law of telling once stands on: who waits, as a map, the group's times and counts behind each act, and what stands between two acts; no program's walk. -/
namespace Go.Proofs.YtkfophlhpjbmgaaGreat
open Go.RowKit Go.Maps Go.ChangeMaps
def wlv (L : List Lv.Se) (c : Int) : Option Value := (Lv.whr L c).map (fun s => Value.int .i64 s.2.1)
theorem whr_of {L : List Lv.Se} (h : (L.map Prod.fst).Nodup) {x : Lv.Se} (hx : x ∈ L) : Lv.whr L x.1 = some x := by
 cases hw : Lv.whr L x.1 with
 | none => exact absurd rfl (Lv.whr_none.1 (by rw [hw]; rfl) x hx)
 | some y =>
  obtain ⟨h1, h2⟩ := Lv.whr_mem hw
  rw [one_run h h1 hx h2]
theorem wlv_of {L : List Lv.Se} (h : (L.map Prod.fst).Nodup) {x : Lv.Se} (hx : x ∈ L) : wlv L x.1 = some (.int .i64 x.2.1) := by unfold wlv; rw [whr_of h hx]; rfl
theorem wlv_no {L : List Lv.Se} {c : Int} (h : ∀ y ∈ L, y.1 ≠ c) : wlv L c = none := by
 unfold wlv
 have := Lv.whr_none.2 h
 cases hw : Lv.whr L c with
 | none => rfl
 | some _ => rw [hw] at this; cases this
theorem whr_out0 (L : List Lv.Se) (c j : Int) : Lv.whr (Lv.outL 0 c L) j = if j = c then none else Lv.whr L j := by
 unfold Lv.whr Lv.outL
 show (L.filter (fun x => !decide (x.1 = c))).find? (fun x => decide (x.1 = j)) = _
 induction L with
 | nil => simp
 | cons x r ih =>
  rw [List.filter_cons]
  by_cases hx : x.1 = c
  ·simp only [hx, decide_true, Bool.not_true, Bool.false_eq_true, if_false]
   rw [ih]
   by_cases hj : j = c
   ·rw [if_pos hj, if_pos hj]
   ·rw [if_neg hj, if_neg hj, List.find?_cons_of_neg (by simp [hx]; exact fun e => hj e.symm)]
  ·simp only [hx, decide_false, Bool.not_false, if_true]
   by_cases hxj : x.1 = j
   ·rw [List.find?_cons_of_pos (by simp [hxj]), List.find?_cons_of_pos (by simp [hxj]), if_neg (fun e => hx (hxj.trans e))]
   ·rw [List.find?_cons_of_neg (by simp [hxj]), List.find?_cons_of_neg (by simp [hxj]), ih]
theorem wlv_out0 (L : List Lv.Se) (c : Int) : wlv (Lv.outL 0 c L) = kdel (wlv L) c := by
 funext j
 unfold wlv kdel
 rw [whr_out0]
 split <;> rfl
theorem whr_snoc (L : List Lv.Se) (x : Lv.Se) (h : ∀ y ∈ L, y.1 ≠ x.1) (j : Int) : Lv.whr (L ++ [x]) j = if j = x.1 then some x else Lv.whr L j := by
 unfold Lv.whr
 rw [List.find?_append]
 by_cases hj : j = x.1
 ·subst hj
  have : L.find? (fun y => decide (y.1 = x.1)) = none := List.find?_eq_none.2 (fun y hy => by simpa using h y hy)
  rw [this, if_pos rfl]
  simp
 ·rw [if_neg hj]
  have : [x].find? (fun y => decide (y.1 = j)) = none := by simp; exact fun e => hj e.symm
  rw [this]
  simp
theorem wlv_snoc (L : List Lv.Se) (x : Lv.Se) (h : ∀ y ∈ L, y.1 ≠ x.1) : wlv (L ++ [x]) = kupd (wlv L) x.1 (.int .i64 x.2.1) := by
 funext j
 unfold wlv kupd
 rw [whr_snoc L x h]
 split <;> rfl
theorem wlv_mem {L : List Lv.Se} {c : Int} {v : Value} (h : wlv L c = some v) : ∃ r t, v = .int .i64 r ∧ (c, r, t) ∈ L := by
 unfold wlv at h
 cases hw : Lv.whr L c with
 | none => rw [hw] at h; cases h
 | some x =>
  rw [hw] at h
  obtain ⟨h1, h2⟩ := Lv.whr_mem hw
  obtain ⟨a, b, t⟩ := x
  simp only at h2
  subst h2
  exact ⟨b, t, (Option.some.inj h).symm, h1⟩
section
variable {X : Gp}
/-! ### Times -/
theorem Gt.at_ (h : Gt X) {n : Int} (hn : tkE X n = 0) {Y : Gp} (h1 : Y.now = n) (h2 : Y.mn ≤ n) : Gt Y := by
 obtain ⟨a, b, c⟩ := tk_ok hn
 exact ⟨by rw [h1]; exact h2, by rw [h1]; exact a, by rw [h1]; exact b⟩
theorem Gt.lv_ (h : Gt X) (n c : Int) : Gt (lvX X n c) := by
 unfold lvX
 split
 ·exact h
 ·rename_i hE0
  have hk : tkE X n = 0 := by
   unfold lvE at hE0
   split at hE0
   ·rename_i a; exact absurd a (by simpa using hE0)
   ·rename_i a; simpa using a
  exact h.at_ hk rfl (by have := h.m; have := (tk_ok hk).2.2; show X.mn ≤ n; omega)
theorem Gt.cn_ (h : Gt X) (n t : Int) : Gt (cnX X n t) := by
 unfold cnX
 split
 ·exact h
 ·rename_i hE0
  have hk : tkE X n = 0 := by
   unfold cnE at hE0
   split at hE0
   ·rename_i a; exact absurd a (by simpa using hE0)
   ·rename_i a; simpa using a
  rw [lefs_eq]
  exact h.at_ hk rfl (by have := h.m; have := (tk_ok hk).2.2; show X.mn ≤ n; omega)
theorem Gt.fg_ (h : Gt X) (n : Int) (k : K) : Gt (fgX X n k) := by
 unfold fgX
 split
 ·exact h
 ·rename_i hE0
  have hk : tkE X n = 0 := by
   unfold fgE at hE0
   split at hE0
   ·rename_i a; exact absurd a (by simpa using hE0)
   ·rename_i a; simpa using a
  exact h.at_ hk rfl (by have := h.m; have := (tk_ok hk).2.2; show X.mn ≤ n; omega)
theorem rlX_now (Y : Gp) (gs : List K) : (rlX Y gs).now = Y.now ∧ (rlX Y gs).mn = Y.mn ∧ (rlX Y gs).L = Y.L := by
 cases gs <;> exact ⟨rfl, rfl, rfl⟩
theorem Gt.ed_ (h : Gt X) (n r : Int) (o : O) : Gt (edX X n r o) := by
 unfold edX
 split
 ·exact h
 ·rename_i hE0
  have hk : tkE X n = 0 := by
   unfold edE at hE0
   split at hE0
   ·rename_i a; exact absurd a (by simpa using hE0)
   ·rename_i a; simpa using a
  have hm : X.mn ≤ n := by have := h.m; have := (tk_ok hk).2.2; omega
  split
  ·obtain ⟨e1, e2, _⟩ := rlX_now (ed2 X n r o) (edG X n r o)
   refine h.at_ hk (by rw [e1]; rfl) ?_
   rw [e2]
   show Me.kpN X.mn n (edK X r) o ≤ n
   unfold Me.kpN
   split <;> omega
  ·exact h.at_ hk rfl hm
theorem Gt.snd_ (h : Gt X) (n : Int) : Gt (sndX X n) := by
 unfold sndX
 split
 ·exact h
 ·rename_i hE0
  have hk : tkE X n = 0 := by simpa using hE0
  exact h.at_ hk rfl (by have := h.m; have := (tk_ok hk).2.2; show X.mn ≤ n; omega)
theorem telX_now (Y : Gp) (k : K) : (telX Y k).now = Y.now ∧ (telX Y k).mn = Y.now := by
 have hm : (meeX Y k (seenOf Y k).1).now = Y.now := by
  unfold meeX
  split
  ·unfold renX
   split
   ·rfl
   ·split <;> rfl
  ·rfl
 unfold telX
 split
 ·exact ⟨hm, rfl⟩
 ·exact ⟨hm, rfl⟩
theorem waiX_now (Y : Gp) (k : K) (x t : Int) : (waiX Y k x t).now = Y.now ∧ (waiX Y k x t).mn = Y.mn := by
 unfold waiX
 split
 ·exact ⟨rfl, rfl⟩
 ·split <;> exact ⟨rfl, rfl⟩
theorem Gt.jo_ (h : Gt X) (n : Int) (k : K) (x t : Int) : Gt (joX X n k x t) := by
 unfold joX
 split
 ·exact h
 ·rename_i hm0
  have hk : tkE X n = 0 := (may0 (by simpa using hm0)).1
  obtain ⟨a, b⟩ := telX_now { X with now := n } k
  split
  ·exact h.at_ hk a (by rw [b]; exact Int.le_refl n)
  ·obtain ⟨c, d⟩ := waiX_now (telX { X with now := n } k) k x t
   exact h.at_ hk (c.trans a) (by rw [d, b]; exact Int.le_refl n)
/-! ### Seats -/
theorem telX_L (Y : Gp) (k : K) : (telX Y k).L = Y.L := by
 have hm : (meeX Y k (seenOf Y k).1).L = Y.L := by
  unfold meeX
  split
  ·unfold renX
   split
   ·rfl
   ·split <;> rfl
  ·rfl
 unfold telX
 split <;> exact hm
theorem telJ_how (Y : Gp) (k : K) : ¬ ((telJ Y k).how = 3 ∨ (telJ Y k).how = 5) := by
 have hz : ¬ (Jd.z.how = 3 ∨ Jd.z.how = 5) := by decide
 have hr : ¬ ((renJ Y k).how = 3 ∨ (renJ Y k).how = 5) := by
  unfold renJ
  split
  ·simp
  ·split
   ·simp [begJ]
   ·exact hz
 unfold telJ
 split
 ·show ¬ ((meeJ Y k (seenOf Y k).1).how = 3 ∨ (meeJ Y k (seenOf Y k).1).how = 5)
  unfold meeJ
  split
  ·simp
  ·split
   ·exact hr
   ·exact hz
 ·exact hz
theorem sit_L {Y : Gp} {x r t : Int} (h1 : 1 ≤ x) (h2 : 1 ≤ r) (h3 : 0 ≤ t) (h4 : ¬ t ∈ Y.G) (h5 : ∀ y ∈ Y.L, y.1 ≠ x) : (sitX Y x r t).L = Y.L ++ [(x, r, t)] := by
 have a1 : Lv.may (x, r, t) = true := by simp [Lv.may, h1, h2, h3]
 have a2 : (Lv.whr Y.L x).isSome = false := Lv.whr_none.2 h5
 have a4 : Lv.sitE Y.L Y.G (x, r, t) = 0 := by
  unfold Lv.sitE
  rw [if_neg (by rw [a1]; simp)]
  show (if t ∈ Y.G then (152 : Int) else if (Lv.whr Y.L x).isSome = true then 151 else 0) = 0
  rw [if_neg h4, if_neg (by rw [a2]; simp)]
 show Lv.sitL Y.L Y.G (x, r, t) = _
 unfold Lv.sitL
 rw [if_pos a4]
theorem jo_seat {M : Nat} (hT : Ta.Ti X.T M) (n : Int) (k : K) (x t : Int) :
  (¬ ((joJ X n k x t).how = 3 ∨ (joJ X n k x t).how = 5) ∧ (joX X n k x t).L = X.L) ∨
  (((joJ X n k x t).how = 3 ∨ (joJ X n k x t).how = 5) ∧ mayE X n k x t = 0 ∧ (joX X n k x t).L = X.L ++ [(x, (joJ X n k x t).run, t)] ∧ 1 ≤ (joJ X n k x t).run ∧ (joJ X n k x t).run ≤ M + 1 ∧ ∀ y ∈ X.L, y.1 ≠ x) := by
 by_cases h0 : mayE X n k x t = 0
 ·obtain ⟨m1, m2, m3, m4, m5, m6⟩ := may0 h0
  have e1 : joX X n k x t = if telB { X with now := n } k then telX { X with now := n } k else waiX (telX { X with now := n } k) k x t := by unfold joX; rw [if_neg (by simpa using h0)]
  have e2 : joJ X n k x t = if telB { X with now := n } k then telJ { X with now := n } k else waiJ (telX { X with now := n } k) k x := by unfold joJ; rw [if_neg (by simpa using h0)]
  rw [e1, e2]
  cases hb : telB { X with now := n } k with
  | true =>
   simp only [if_true]
   exact Or.inl ⟨telJ_how _ _, telX_L _ _⟩
  | false =>
   simp only [Bool.false_eq_true, if_false]
   obtain ⟨t1, t2, t3, t4, _⟩ := tel_no hb
   have t1 : (telX { X with now := n } k).T = X.T := t1
   have t2 : (telX { X with now := n } k).L = X.L := t2
   have t4 : (telX { X with now := n } k).G = X.G := t4
   generalize telX { X with now := n } k = Y at *
   have hTY : Ta.Ti Y.T M := by rw [t1]; exact hT
   have hbg := hTY.bg
   unfold waiX waiJ
   cases hc : Ta.curOf Y.T k with
   | some R =>
    obtain ⟨⟨S0, hm⟩, _⟩ := Ta.curOf_some hc
    have hr := hTY.rng _ hm
    have hr2 : R.run ≤ Y.T.bg := hr.2
    have hr1 : 1 ≤ R.run := hr.1
    refine Or.inr ⟨Or.inl rfl, h0, ?_, hr1, by show R.run ≤ _; omega, m6⟩
    show (sitX { Y with T := Ta.tJoin Y.T R.run x } x R.run t).L = _
    rw [sit_L (Y := { Y with T := Ta.tJoin Y.T R.run x }) m3 hr1 m4 (by show ¬ t ∈ Y.G; rw [t4]; exact m5) (by show ∀ y ∈ Y.L, y.1 ≠ x; rw [t2]; exact m6)]
    show Y.L ++ _ = _
    rw [t2]
   | none =>
    by_cases hz : Ta.tBegE Y.T k x false = 0
    ·simp only [hz, if_true]
     refine Or.inr ⟨Or.inr rfl, h0, ?_, by show 1 ≤ Y.T.bg + 1; omega, by show Y.T.bg + 1 ≤ _; omega, m6⟩
     show (sitX (runX Y k x false) x (Y.T.bg + 1) t).L = _
     rw [sit_L (Y := runX Y k x false) m3 (by omega) m4 (by show ¬ t ∈ Y.G; rw [t4]; exact m5) (by show ∀ y ∈ Y.L, y.1 ≠ x; rw [t2]; exact m6)]
     show Y.L ++ _ = _
     rw [t2]
     rfl
    ·simp only [hz, if_false]
     exact Or.inl ⟨by decide, t2⟩
 ·left
  have e1 : joX X n k x t = X := by unfold joX; rw [if_pos h0]
  have e2 : joJ X n k x t = Jd.z := by unfold joJ; rw [if_pos h0]
  rw [e1, e2]
  exact ⟨by decide, rfl⟩
/-! ### Counts -/
theorem joC_b (X : Gp) (n : Int) (k : K) (x t : Int) (N : Cn) : (joC X n k x t N).t ≤ N.t + 2 ∧ (joC X n k x t N).b ≤ N.b + 2 ∧ (joC X n k x t N).s ≤ N.s + 1 := by
 have a : ∀ (Y : Gp) (i : Int) (M : Cn), (meeC Y k i M).t ≤ M.t + 1 ∧ (meeC Y k i M).b ≤ M.b + 1 ∧ (meeC Y k i M).s = M.s := fun Y i M => by
  unfold meeC renC
  repeat' split
  all_goals simp
 have d : ∀ (Y : Gp) (M : Cn), (waiC Y k x M).t ≤ M.t + 1 ∧ (waiC Y k x M).b ≤ M.b + 1 ∧ (waiC Y k x M).s ≤ M.s + 1 := fun Y M => by
  unfold waiC
  repeat' split
  all_goals simp
 unfold joC
 split
 ·omega
 split
 ·have := a { X with now := n } (seenOf { X with now := n } k).1 N
  omega
 ·have h1 := a { X with now := n } (seenOf { X with now := n } k).1 N
  have h2 := d (telX { X with now := n } k) (meeC { X with now := n } k (seenOf { X with now := n } k).1 N)
  omega
theorem joC_l {M : Nat} (hT : Ta.Ti X.T M) (n : Int) (k : K) (x t : Int) (N : Cn) : (joC X n k x t N).t + (joX X n k x t).L.length ≤ N.t + X.L.length + 2 := by
 rcases jo_seat hT n k x t with ⟨_, e⟩ | ⟨hw, h0, e, _⟩
 ·rw [e]
  have := (joC_b X n k x t N).1
  omega
 ·rw [e, List.length_append, List.length_singleton]
  suffices (joC X n k x t N).t ≤ N.t + 1 by omega
  have e2 : joJ X n k x t = if telB { X with now := n } k then telJ { X with now := n } k else waiJ (telX { X with now := n } k) k x := by unfold joJ; rw [if_neg (by simpa using h0)]
  have e3 : joC X n k x t N = if telB { X with now := n } k then meeC { X with now := n } k (seenOf { X with now := n } k).1 N else waiC (telX { X with now := n } k) k x (meeC { X with now := n } k (seenOf { X with now := n } k).1 N) := by unfold joC; rw [if_neg (by simpa using h0)]
  rw [e2] at hw
  rw [e3]
  cases hb : telB { X with now := n } k with
  | true =>
   rw [hb] at hw
   exact absurd hw (telJ_how _ _)
  | false =>
   rw [hb] at hw
   simp only [Bool.false_eq_true, if_false] at hw ⊢
   obtain ⟨t1, _⟩ := tel_no hb
   have t1 : (telX { X with now := n } k).T = X.T := t1
   have hmee : meeC { X with now := n } k (seenOf { X with now := n } k).1 N = N := by
    unfold meeC
    split
    ·rename_i h2
     have hr : renB { X with now := n } k = false := by
      unfold telB meeB at hb
      rw [h2] at hb
      exact hb
     unfold renB at hr
     simp only [Bool.or_eq_false_iff, decide_eq_false_iff_not] at hr
     obtain ⟨r1, r2⟩ := hr
     have r1 : Ta.curOf X.T k = none := by
      cases hc : Ta.curOf X.T k with
      | none => rfl
      | some _ => rw [hc] at r1; cases r1
     exfalso
     unfold waiJ at hw
     rw [t1, r1] at hw
     simp only at hw
     by_cases hz : Ta.tBegE X.T k x false = 0
     ·obtain ⟨b1, _, _, b4⟩ := Ta.tBegE_zero hz
      apply r2
      show Ta.tBegE X.T k 0 true = 0
      unfold Ta.tBegE
      rw [if_neg (by simp [Ta.mayK, b1]), if_neg (by simp [Ta.badC]), r1, if_neg (by simp), if_neg b4]
     ·rw [if_neg hz] at hw
      simp at hw
    ·rfl
   rw [hmee]
   unfold waiC
   split
   ·simp
   ·split <;> simp
theorem lv_l (X : Gp) (n c : Int) : (lvX X n c).L = if lvE X n c = 0 then Lv.outL 0 c X.L else X.L := by
 unfold lvX
 by_cases h : lvE X n c = 0
 ·rw [if_neg (by simpa using h), if_pos h]; rfl
 ·rw [if_pos h, if_neg h]
theorem lv0 {n c : Int} (h : lvE X n c = 0) : ∃ x ∈ X.L, x.1 = c ∧ (Lv.whr X.L c).getD (0, 0, 0) = x := by
 have hs : (Lv.whr X.L c).isSome = true := by
  unfold lvE at h
  split at h
  ·contradiction
  ·split at h
   ·assumption
   ·cases h
 obtain ⟨x, hx⟩ := Option.isSome_iff_exists.1 hs
 obtain ⟨h1, h2⟩ := Lv.whr_mem hx
 exact ⟨x, h1, h2, by rw [hx]; rfl⟩
theorem lvE_or (X : Gp) (n c : Int) : lvE X n c = 0 ∨ (lvE X n c = 2 ∧ ∀ y ∈ X.L, y.1 ≠ c) ∨ (lvE X n c ≠ 0 ∧ lvE X n c ≠ 2) := by
 unfold lvE
 split
 ·rename_i h
  right; right
  refine ⟨h, ?_⟩
  unfold tkE Me.tickE
  split
  ·split <;> decide
  ·decide
 ·by_cases hs : (Lv.whr X.L c).isSome = true
  ·left; rw [if_pos hs]
  ·right; left
   rw [if_neg hs]
   exact ⟨rfl, Lv.whr_none.1 (by simpa using hs)⟩
theorem fg_l (X : Gp) (n : Int) (k : K) : (fgX X n k).L = X.L := by unfold fgX; split <;> rfl
theorem snd_l (X : Gp) (n : Int) : (sndX X n).L = X.L := by unfold sndX; split <;> rfl
theorem ed_l (X : Gp) (n r : Int) (o : O) : (edX X n r o).L = if edE X n r o = 0 then Lv.outL 1 r X.L else X.L := by
 unfold edX
 by_cases h : edE X n r o = 0
 ·rw [if_neg (by simpa using h), if_pos h]
  split
  ·rw [(rlX_now _ _).2.2]; rfl
  ·rfl
 ·rw [if_pos h, if_neg h]
theorem cn_l (X : Gp) (n t : Int) : (cnX X n t).L = if cnE X n t = 0 then Lv.canL X.L t else X.L := by
 unfold cnX
 by_cases h : cnE X n t = 0
 ·rw [if_neg (by simpa using h), if_pos h, lefs_eq]
 ·rw [if_pos h, if_neg h]
theorem canL_len (L : List Lv.Se) (t : Int) : (Lv.canL L t).length + (Lv.canA L t).length = L.length := by
 unfold Lv.canL Lv.canA
 split
 ·simp
 ·unfold Lv.outL Lv.inL
  induction L with
  | nil => rfl
  | cons x r ih =>
   rw [List.filter_cons, List.filter_cons]
   by_cases h : Lv.bn 2 x = t <;> simp [h] <;> omega
theorem cn0 {n t : Int} (h : cnE X n t = 0) : ¬ t < 1 := by
 unfold cnE at h
 split at h
 ·contradiction
 ·split at h
  ·cases h
  ·assumption
end
structure On (w wr : World) (g : Nat) (P : Pt) (mb : Nat) (Q : List Nat) (X : Gp) (N : Cn) (i m : Nat) (f : Int → Option Value) : Prop where
 sp : Sp w wr g P (mb :: Q) X N
 gi : Gi X
 gt : Gt X
 mp : MapK KI wr mb m f
 ml : w.heap.size ≤ mb
 nt : N.t + X.L.length ≤ 2 * i
 nb : N.b ≤ 2 * i
 ns : N.s ≤ i
 nm : m ≤ i
section
variable {w wr w2 : World} {g mb i m : Nat} {P : Pt} {Q : List Nat} {X Y : Gp} {N M : Cn} {f : Int → Option Value}
theorem Sp.iv (h : Sp w wr g P Q X N) : Ta.Ti X.T N.t ∧ (X.L.map Prod.fst).Nodup ∧ (Me.keysL X.en).Nodup ∧ ∀ x ∈ X.L, W64 x.1 ∧ W64 x.2.1 := by
 obtain ⟨F, q, _⟩ := h
 obtain ⟨_, a, _, b, _⟩ := (GqE.refl q).iv
 refine ⟨a, b.nc, ?_, fun x hx => ⟨(b.ok x hx).2.1, (b.ok x hx).2.2.1⟩⟩
 obtain ⟨_, _, _, _, _, q'⟩ := q
 exact q'.mq.nd
theorem Sp.step' {F : List Nat} (q : Gq wr g P F X N) (t : Touch [] w wr) (fr : ∀ k, k ∈ F → w.heap.size ≤ k) (hq : ∀ k, k ∈ Q → k < wr.heap.size ∧ ¬ k ∈ F) (ge : GqE wr w2 g P F Y M) : Sp w w2 g P Q Y M ∧ ∀ k, k ∈ Q → w2.heap[k]? = wr.heap[k]? := by
 obtain ⟨F', q', t', nf⟩ := ge
 refine ⟨⟨F', q', t.trans t' (fun i hi => Or.inr (fr i hi)), fun k hk => ?_, fun k hk => ⟨Nat.lt_of_lt_of_le (hq k hk).1 t'.size, fun e => ?_⟩⟩, fun k hk => t'.block k (hq k hk).1 (hq k hk).2⟩
 ·rcases nf k hk with e | e
  ·exact fr k e
  ·exact Nat.le_trans t.size e
 ·rcases nf k e with e | e
  ·exact (hq k hk).2 e
  ·have := (hq k hk).1; omega
theorem On.keep0 (h : On w wr g P mb Q X N i m f) (T : Touch [] wr w2) : On w w2 g P mb Q X N i m f := by
 obtain ⟨q, k⟩ := h.sp.keep0 T
 exact { h with sp := q, mp := h.mp.kept (k mb (by simp)) }
theorem On.alloc (h : On w wr g P mb Q X N i m f) (ob : Obj) : On w (wr.alloc ob) g P mb (wr.heap.size :: Q) X N i m f := by
 have T : Touch [] wr (wr.alloc ob) := (Touch.refl _ _).alloc ob
 have h2 := h.keep0 T
 obtain ⟨F, q, t, fr, hq⟩ := h.sp.alloc ob
 refine { h2 with sp := ⟨F, q, t, fr, fun k hk => hq k ?_⟩ }
 simp only [List.mem_cons] at hk ⊢
 rcases hk with e | e | e
 ·exact Or.inr (Or.inl e)
 ·exact Or.inl e
 ·exact Or.inr (Or.inr e)
theorem On.less {q : Nat} (h : On w wr g P mb (q :: Q) X N i m f) : On w wr g P mb Q X N i m f := by
 obtain ⟨F, a, t, fr, hq⟩ := h.sp
 refine { h with sp := ⟨F, a, t, fr, fun k hk => hq k ?_⟩ }
 simp only [List.mem_cons] at hk ⊢
 rcases hk with e | e
 ·exact Or.inl e
 ·exact Or.inr (Or.inr e)
theorem On.set {m' : Nat} {f' : Int → Option Value} {ob : Obj} (h : On w wr g P mb Q X N i m f) (hM : MapK KI (setBlock wr mb ob) mb m' f') (hm : m' ≤ i) : On w (setBlock wr mb ob) g P mb Q X N i m' f' :=
 { h with sp := h.sp.set (by simp) h.ml ob, mp := hM, nm := hm }
theorem On.leave (h : On w wr g P mb Q X N i m f) (hi : i ≤ 1400000000000) (n : Int) {c : Int} (hc : W64 c) : Calls Tryz.prog 17 #[PT g, .int .i64 n, .int .i64 c] wr fun r w2 => r = .returned (.tuple #[.agg (lvV X n c), .int .i64 (lvE X n c)]) ∧ (∃ M, On w w2 g P mb Q (lvX X n c) M (i + 1) m f) ∧ ∀ k, k ∈ Q → w2.heap[k]? = wr.heap[k]? := by
 obtain ⟨a1, a2, a3, _⟩ := h.sp.iv
 obtain ⟨F, q, t, fr, hq⟩ := h.sp
 have b1 := h.nt
 have b2 := h.ns
 refine (leave_ q n hc (by omega) (by omega)).mono ?_
 rintro e w2 ⟨rfl, ge⟩
 have hl : (lvX X n c).L.length ≤ X.L.length := by
  rw [lv_l]
  split
  ·exact List.length_filter_le _ _
  ·exact Nat.le_refl _
 have sp2 := Sp.step' (Q := mb :: Q) q t fr hq ge
 refine ⟨rfl, ⟨_, ⟨sp2.1, h.gi.lv_ a1 a2 n c, h.gt.lv_ n c, h.mp.kept (sp2.2 mb (by simp)), h.ml, ?_, ?_, ?_, by have := h.nm; omega⟩⟩, fun k hk => sp2.2 k (by simp [hk])⟩
 ·split <;> (try dsimp only) <;> omega
 ·have := h.nb
  split <;> (try dsimp only) <;> omega
 ·split <;> (try dsimp only) <;> omega
theorem On.forget (h : On w wr g P mb Q X N i m f) (hi : i ≤ 1400000000000) (n : Int) (k : K) (hk : Ok k) : Calls Tryz.prog 19 #[PT g, .int .i64 n, kv k] wr fun r w2 => r = .returned (.tuple #[.agg (fgV X n k), .int .i64 (fgE X n k)]) ∧ (∃ M, On w w2 g P mb Q (fgX X n k) M (i + 1) m f) ∧ ∀ k, k ∈ Q → w2.heap[k]? = wr.heap[k]? := by
 obtain ⟨a1, a2, a3, _⟩ := h.sp.iv
 obtain ⟨F, q, t, fr, hq⟩ := h.sp
 have b1 := h.nt
 have b2 := h.ns
 have b3 := h.nb
 refine (forget_ q n k hk (by omega)).mono ?_
 rintro e w2 ⟨rfl, ge⟩
 have sp2 := Sp.step' (Q := mb :: Q) q t fr hq ge
 have hC : (fgC X n k N).t ≤ N.t + 2 ∧ (fgC X n k N).b = N.b ∧ (fgC X n k N).s = N.s := by
  unfold fgC
  split
  ·omega
  ·split <;> exact ⟨by dsimp only; omega, rfl, rfl⟩
 refine ⟨rfl, ⟨_, ⟨sp2.1, h.gi.forget a1 n k, h.gt.fg_ n k, h.mp.kept (sp2.2 mb (by simp)), h.ml, by rw [fg_l]; omega, by omega, by omega, by have := h.nm; omega⟩⟩, fun k hk => sp2.2 k (by simp [hk])⟩
theorem On.send (h : On w wr g P mb Q X N i m f) (hi : i ≤ 1400000000000) (n : Int) : Calls Tryz.prog 20 #[PT g, .int .i64 n] wr fun r w2 => (∃ a k c E, r = .returned (.tuple #[.slice a k c, .int .i64 E])) ∧ (∃ M, On w w2 g P mb Q (sndX X n) M (i + 1) m f) ∧ ∀ k, k ∈ Q → w2.heap[k]? = wr.heap[k]? := by
 obtain ⟨a1, a2, a3, _⟩ := h.sp.iv
 obtain ⟨F, q, t, fr, hq⟩ := h.sp
 have b1 := h.nt
 have b2 := h.ns
 have b3 := h.nb
 refine (send_ q n (by omega)).mono ?_
 rintro e w2 ⟨v, rfl, ⟨_, a, k, c, rfl⟩, ge⟩
 have sp2 := Sp.step' (Q := mb :: Q) q t fr hq ge
 refine ⟨⟨a, k, c, _, rfl⟩, ⟨_, ⟨sp2.1, h.gi.snd_ n, h.gt.snd_ n, h.mp.kept (sp2.2 mb (by simp)), h.ml, ?_, ?_, ?_, by have := h.nm; omega⟩⟩, fun k hk => sp2.2 k (by simp [hk])⟩
 ·rw [snd_l]
  split <;> (try dsimp only) <;> omega
 ·split <;> (try dsimp only) <;> omega
 ·split <;> (try dsimp only) <;> omega
theorem On.join (h : On w wr g P mb Q X N i m f) (hi : i ≤ 1400000000000) (n : Int) (k : K) (hk : Ok k) {x t : Int} (hx : W64 x) (ht : W64 t) : Calls Tryz.prog 12 #[PT g, .int .i64 n, kv k, .int .i64 x, .int .i64 t] wr fun r w2 => (∃ a ln c, r = .returned (.tuple #[.agg #[.int .i64 (joJ X n k x t).how, .int .i64 (joJ X n k x t).run, .bool (joJ X n k x t).bg, .int .i64 (joJ X n k x t).o.1, .int .i64 (joJ X n k x t).o.2.1, .int .i64 (joJ X n k x t).o.2.2.1, .int .i64 (joJ X n k x t).o.2.2.2, .slice a ln c], .int .i64 (mayE X n k x t)])) ∧ (∃ M, On w w2 g P mb Q (joX X n k x t) M (i + 1) m f) ∧ ∀ k, k ∈ Q → w2.heap[k]? = wr.heap[k]? := by
 obtain ⟨a1, a2, a3, _⟩ := h.sp.iv
 obtain ⟨F, q, tt, fr, hq⟩ := h.sp
 have b1 := h.nt
 have b2 := h.ns
 have b3 := h.nb
 have c1 := joC_l a1 n k x t N
 obtain ⟨_, c2, c3⟩ := joC_b X n k x t N
 refine (join_ q h.gt n k hk hx ht (by omega) (by omega) (by omega)).mono ?_
 rintro e w2 ⟨v, rfl, ⟨_, a, ln, c, rfl⟩, ge⟩
 have sp2 := Sp.step' (Q := mb :: Q) q tt fr hq ge
 exact ⟨⟨a, ln, c, rfl⟩, ⟨_, ⟨sp2.1, h.gi.jo_ a1 n k x t, h.gt.jo_ n k x t, h.mp.kept (sp2.2 mb (by simp)), h.ml, by omega, by omega, by omega, by have := h.nm; omega⟩⟩, fun k hk => sp2.2 k (by simp [hk])⟩
theorem On.cancel (h : On w wr g P mb Q X N i m f) (hi : i ≤ 1400000000000) (n : Int) {t : Int} (ht : W64 t) : Calls Tryz.prog 18 #[PT g, .int .i64 n, .int .i64 t] wr fun r w2 => (∃ a c, r = .returned (.tuple #[.slice a (cnV X n t).length c, .int .i64 (cnE X n t)]) ∧ Rs 67 8 w2 (.slice a (cnV X n t).length c) (cnV X n t).length (flatL (cnV X n t))) ∧ (∃ M, On w w2 g P mb Q (cnX X n t) M (i + 1) m f) ∧ ∀ k, k ∈ Q → w2.heap[k]? = wr.heap[k]? := by
 obtain ⟨a1, a2, a3, _⟩ := h.sp.iv
 obtain ⟨F, q, tt, fr, hq⟩ := h.sp
 have b1 := h.nt
 have b2 := h.ns
 have b3 := h.nb
 refine (cancel_ q n ht (by omega) (by omega)).mono ?_
 rintro e w2 ⟨v, rfl, _, rs, ge⟩
 obtain ⟨a, c, rfl, _⟩ := rs.form
 have sp2 := Sp.step' (Q := mb :: Q) q tt fr hq ge
 have hC : (cnC X n t N).t + (cnX X n t).L.length ≤ N.t + X.L.length ∧ (cnC X n t N).b = N.b ∧ (cnC X n t N).s ≤ N.s + 1 := by
  unfold cnC
  rw [cn_l]
  by_cases hE : cnE X n t = 0
  ·rw [if_neg (by simpa using hE), if_pos hE]
   have := canL_len X.L t
   exact ⟨by dsimp only; omega, rfl, by dsimp only; omega⟩
  ·rw [if_pos hE, if_neg hE]
   omega
 exact ⟨⟨a, c, rfl, rs⟩, ⟨_, ⟨sp2.1, h.gi.cn_ a1 a2 n t, h.gt.cn_ n t, h.mp.kept (sp2.2 mb (by simp)), h.ml, by omega, by omega, by omega, by have := h.nm; omega⟩⟩, fun k hk => sp2.2 k (by simp [hk])⟩
theorem gone_len (X : Gp) (n r : Int) (o : O) : (edG X n r o).length ≤ 1 := by
 unfold edG Me.kpG Me.goneL
 split
 ·split <;> simp
 ·simp
theorem On.end_ (h : On w wr g P mb Q X N i m f) (hi : i ≤ 1400000000000) (n : Int) {r : Int} (hr : W64 r) (o : O) : Calls Tryz.prog 13 #[PT g, .int .i64 n, .int .i64 r, Me.ov o] wr fun e w2 => (∃ tv gv lv, e = .returned (.tuple #[.agg (dcs (edD X n r o) tv gv lv), .int .i64 (edE X n r o)]) ∧ DnQ w2 (edD X n r o) o tv gv lv) ∧ (∃ M, On w w2 g P mb Q (edX X n r o) M (i + 1) m f) ∧ ∀ k, k ∈ Q → w2.heap[k]? = wr.heap[k]? := by
 obtain ⟨a1, a2, a3, _⟩ := h.sp.iv
 obtain ⟨F, q, tt, fr, hq⟩ := h.sp
 have b1 := h.nt
 have b2 := h.ns
 have b3 := h.nb
 refine (Go.Proofs.YtkfophlhpjbmgaaGreat.end_ q n hr o (by omega) (by omega)).mono ?_
 rintro e w2 ⟨tv, gv, lv, rfl, dq, ge⟩
 have sp2 := Sp.step' (Q := mb :: Q) q tt fr hq ge
 have hl : (edX X n r o).L.length ≤ X.L.length := by
  rw [ed_l]
  split
  ·exact List.length_filter_le _ _
  ·exact Nat.le_refl _
 have hC : (edC X n r o N).t ≤ N.t + 1 ∧ (edC X n r o N).b = N.b ∧ (edC X n r o N).s = N.s := by
  unfold edC
  have := gone_len X n r o
  split
  ·omega
  ·split
   ·exact ⟨by dsimp only; omega, rfl, rfl⟩
   ·omega
 exact ⟨⟨tv, gv, lv, rfl, dq⟩, ⟨_, ⟨sp2.1, h.gi.end_ a1 a3 n r o, h.gt.ed_ n r o, h.mp.kept (sp2.2 mb (by simp)), h.ml, by omega, by omega, by omega, by have := h.nm; omega⟩⟩, fun k hk => sp2.2 k (by simp [hk])⟩
theorem On.now (h : On w wr g P mb Q X N i m f) : Calls Tryz.prog 32 #[PT g] wr fun r w2 => r = .returned (.int .i64 X.now) ∧ w2 = wr := by
 obtain ⟨F, q, _⟩ := h.sp
 have c4 := q.cs.c4
 unfold PT
 clear h
 go_enter Tryz.func32, Tryz.ntmps32
 go_wp2
 go_ret
 exact ⟨rfl, rfl⟩
theorem On.waiters (h : On w wr g P mb Q X N i m f) (hi : i ≤ 1400000000000) {c r t : Int} (hc : (c, r, t) ∈ X.L) : Calls Tryz.prog 14 #[PT g, .int .i64 r] wr fun e w2 => ∃ a k, e = .returned (.slice a (Ta.whoOf X.T r).length k) ∧ Rd w2 (.slice a (Ta.whoOf X.T r).length k) (Ta.whoOf X.T r) ∧ c ∈ Ta.whoOf X.T r ∧ (Ta.whoOf X.T r).length ≤ 3000000000000 ∧ Touch [] wr w2 := by
 obtain ⟨a1, a2, a3, a4⟩ := h.sp.iv
 obtain ⟨p, hp, e⟩ := h.gi.sr _ hc
 have e : p.1.run = r := e
 have hr := Ta.runOf_of_mem a1 hp
 have hw : Ta.whoOf X.T r = sO X.L r := by
  unfold Ta.whoOf
  rw [← e, hr]
  exact h.gi.ws p hp
 have hl : (sO X.L r).length ≤ X.L.length := by
  unfold sO
  rw [List.length_map]
  exact List.length_filter_le _ _
 have b1 := h.nt
 obtain ⟨F, q, _⟩ := h.sp
 refine (waiters_q q (by omega) (a4 _ hc).2).mono ?_
 rintro e' w2 ⟨a, k, rfl, rd, T⟩
 exact ⟨a, k, rfl, rd, by rw [hw]; exact sO_mem.2 ⟨t, hc⟩, by rw [hw]; omega, T⟩
end
/-! ### Rows of those who leave or are told -/
theorem lefVs_at : ∀ (xs : List Lv.Se) (T : Ta.Tb) (j : Nat) (hj : j < xs.length), ∃ b1 b2 : Bool, ∀ i, i < 8 → (flatL (lefVs T xs))[j * 8 + i]? = ([.int .i64 xs[j].1, .int .i64 xs[j].2.1, .bool b1, .bool b2, .int .i64 0, .int .i64 3, .int .i64 0, .int .i64 0] : List Value)[i]?
 | [], _, j, hj => by simp at hj
 | x :: r, T, 0, hj => by
  refine ⟨Ta.tLeaveC T x.2.1 x.1, Ta.tLeaveA T x.2.1 x.1, fun i hi => ?_⟩
  show (flatL (lefV T x :: lefVs (Ta.tLeave T x.2.1 x.1) r))[0 * 8 + i]? = _
  unfold flatL
  rw [List.flatMap_cons, Nat.zero_mul, Nat.zero_add, List.getElem?_append_left (by show i < (lefV T x).toList.length; simp [lefV]; omega)]
  rfl
 | x :: r, T, j + 1, hj => by
  obtain ⟨b1, b2, h⟩ := lefVs_at r (Ta.tLeave T x.2.1 x.1) j (by simpa using hj)
  refine ⟨b1, b2, fun i hi => ?_⟩
  show (flatL (lefV T x :: lefVs (Ta.tLeave T x.2.1 x.1) r))[(j + 1) * 8 + i]? = _
  unfold flatL
  rw [List.flatMap_cons, List.getElem?_append_right (by simp [lefV]; omega)]
  have : (j + 1) * 8 + i - (lefV T x).toList.length = j * 8 + i := by simp [lefV]; omega
  rw [this]
  exact h i hi
theorem rs8 {t : Nat} {w : World} {a : Option Addr} {c : Nat} {T : Ta.Tb} {xs : List Lv.Se} (h : Rs t 8 w (.slice a xs.length c) xs.length (flatL (lefVs T xs))) {j : Nat} (hj : j < xs.length) : ∃ g off, ∃ b1 b2 : Bool, a = some ⟨g, off, none⟩ ∧ w.cell? ⟨g, off + j * 8, none⟩ = some (.int .i64 xs[j].1) ∧ w.cell? ⟨g, off + j * 8 + 1, none⟩ = some (.int .i64 xs[j].2.1) ∧ w.cell? ⟨g, off + j * 8 + 2, none⟩ = some (.bool b1) ∧ w.cell? ⟨g, off + j * 8 + 3, none⟩ = some (.bool b2) ∧ w.cell? ⟨g, off + j * 8 + 4, none⟩ = some (.int .i64 0) ∧ w.cell? ⟨g, off + j * 8 + 5, none⟩ = some (.int .i64 3) ∧ w.cell? ⟨g, off + j * 8 + 6, none⟩ = some (.int .i64 0) ∧ w.cell? ⟨g, off + j * 8 + 7, none⟩ = some (.int .i64 0) := by
 obtain ⟨b1, b2, hv⟩ := lefVs_at xs T j hj
 have hc : ∀ i u, i < 8 → (flatL (lefVs T xs))[j * 8 + i]? = some u → ∃ g off, a = some ⟨g, off, none⟩ ∧ w.cell? ⟨g, off + j * 8 + i, none⟩ = some u := fun i u hi hu => by
  obtain ⟨g, off, e, hc⟩ := h.cell (j := j * 8 + i) (u := u) hu (by omega)
  exact ⟨g, off, e, by rw [Nat.add_assoc]; exact hc⟩
 obtain ⟨g, off, rfl, c0⟩ := hc 0 _ (by omega) (hv 0 (by omega))
 have hc' : ∀ i u, i < 8 → (flatL (lefVs T xs))[j * 8 + i]? = some u → w.cell? ⟨g, off + j * 8 + i, none⟩ = some u := fun i u hi hu => by
  obtain ⟨g', off', e, q⟩ := hc i u hi hu
  cases e
  exact q
 exact ⟨g, off, b1, b2, rfl, c0, hc' 1 _ (by omega) (hv 1 (by omega)), hc' 2 _ (by omega) (hv 2 (by omega)), hc' 3 _ (by omega) (hv 3 (by omega)), hc' 4 _ (by omega) (hv 4 (by omega)), hc' 5 _ (by omega) (hv 5 (by omega)), hc' 6 _ (by omega) (hv 6 (by omega)), hc' 7 _ (by omega) (hv 7 (by omega))⟩
theorem tv5 {B : Nat} {w : World} {a : Option Addr} {n c : Nat} {xs : List Int} {o : O} (h : Ta.Tv B w (.slice a n c) xs o) {j : Nat} (hj : j < xs.length) : ∃ t, a = some ⟨t, 0, none⟩ ∧ w.cell? ⟨t, j * 5, none⟩ = some (.int .i64 xs[j]) ∧ w.cell? ⟨t, j * 5 + 1, none⟩ = some (.int .i64 o.1) ∧ w.cell? ⟨t, j * 5 + 2, none⟩ = some (.int .i64 o.2.1) ∧ w.cell? ⟨t, j * 5 + 3, none⟩ = some (.int .i64 o.2.2.1) ∧ w.cell? ⟨t, j * 5 + 4, none⟩ = some (.int .i64 o.2.2.2) := by
 obtain ⟨a', c', e, h1 | ⟨t, cur, e1, h2, h3, h4⟩⟩ := h
 ·subst h1; simp at hj
 ·simp only [Value.slice.injEq] at e
  obtain ⟨p0, p1, p2, p3, p4⟩ := h4 j xs[j] (List.getElem?_eq_getElem hj)
  exact ⟨t, by rw [e.1]; exact e1, cell_at h3 p0, cell_at h3 p1, cell_at h3 p2, cell_at h3 p3, cell_at h3 p4⟩
theorem tv_len {B : Nat} {w : World} {v : Value} {xs : List Int} {o : O} (h : Ta.Tv B w v xs o) : ∃ a c, v = .slice a xs.length c := by
 obtain ⟨a, c, e, _⟩ := h
 exact ⟨a, c, e⟩
theorem tv_map {w w2 : World} {v : Value} {xs : List Int} {o : O} {mb m : Nat} {f : Int → Option Value} (h : Ta.Tv 0 w v xs o) (hm : MapK KI w mb m f) (T : Touch [mb] w w2) : Ta.Tv 0 w2 v xs o := by
 refine h.keep T (fun k hk => Or.inr (fun cur e => ?_))
 simp only [List.mem_singleton] at hk
 subst hk
 obtain ⟨es, cl, hb⟩ := hm.kind
 rw [hb] at e
 cases e
theorem rs_map {t k n : Nat} {w w2 : World} {v : Value} {vs : List Value} {mb m : Nat} {f : Int → Option Value} (h : Rs t k w v n vs) (hm : MapK KI w mb m f) (T : Touch [mb] w w2) : Rs t k w2 v n vs := by
 obtain ⟨e1, a, c, rfl, e2, e3, e4⟩ := h
 refine ⟨e1, a, c, rfl, e2, e3, fun hp => ?_⟩
 obtain ⟨g, off, rfl, cs', z', e5, e6⟩ := e4 hp
 refine ⟨g, off, rfl, cs', z', T.keep e5 (fun e => ?_), e6⟩
 simp only [List.mem_singleton] at e
 subst e
 obtain ⟨es, cl, hb⟩ := hm.kind
 rw [hb] at e5
 cases e5
theorem outs_at {L xs : List Lv.Se} (hs : ∀ x ∈ xs, x ∈ L) (hx : (xs.map Prod.fst).Nodup) {k : Nat} (hk : k < xs.length) : xs[k] ∈ Lv.outs L (xs.take k) := by
 rw [Lv.outs_eq]
 refine List.mem_filter.2 ⟨hs _ (List.getElem_mem _), ?_⟩
 simp only [Bool.not_eq_true', decide_eq_false_iff_not, List.mem_map, not_exists, not_and]
 intro y hy e
 obtain ⟨i, hi, rfl⟩ := List.mem_iff_getElem.1 hy
 have hi' : i < k := by rw [List.length_take] at hi; omega
 rw [List.getElem_take] at e
 have := (List.nodup_iff_pairwise_ne.1 hx)
 have h2 := List.pairwise_iff_getElem.1 this i k (by rw [List.length_map]; omega) (by rw [List.length_map]; omega) hi'
 rw [List.getElem_map, List.getElem_map] at h2
 exact h2 e
theorem outs_nd {L : List Lv.Se} (h : (L.map Prod.fst).Nodup) (xs : List Lv.Se) : ((Lv.outs L xs).map Prod.fst).Nodup := by
 rw [Lv.outs_eq]
 exact h.sublist (List.filter_sublist.map _)
theorem outs_next (L xs : List Lv.Se) {k : Nat} (hk : k < xs.length) : Lv.outs L (xs.take (k + 1)) = Lv.outL 0 xs[k].1 (Lv.outs L (xs.take k)) := by
 rw [List.take_succ_eq_append_getElem hk, Lv.outs_snoc]
end Go.Proofs.YtkfophlhpjbmgaaGreat
/- A loop over a map, by plain keys: no conditions. -/
namespace Go.Proofs.YtkfophlhpjbmgaaGreat
open Go.RowKit Go.Maps Go.ChangeMaps Go.WideMaps
section
variable {P : Program} {kt : TypeId} {K : Type} (c : KK P kt K)
def RgK (w : World) (b r n : Nat) (f : K → Option Value) (left : K → Prop) (cnt : Nat) : Prop :=
 ∃ (D : DataW Value) (lf : Lit → Bool), w.ranges P kt HR b r n D lf cnt ∧ Dm c D f ∧ (∀ k, left k → c.ok k) ∧ ∀ k, c.ok k → (left k ↔ lf (c.lit k) = true)
variable {c} {w w' : World} {b r n cnt : Nat} {f : K → Option Value} {left : K → Prop} {t e : TypeId} {F : List Nat}
theorem RgK.ne (h : RgK c w b r n f left cnt) : r ≠ b := by
 obtain ⟨D, lf, h1, _⟩ := h
 exact h1.ne
theorem RgK.count (h : RgK c w b r n f left cnt) : w.rangeLeft b r = cnt := by
 obtain ⟨D, lf, h1, _⟩ := h
 exact h1.left_eq
theorem RgK.keep (h : RgK c w b r n f left cnt) (T : Touch F w w') (hb : ¬ b ∈ F) (hr : ¬ r ∈ F) : RgK c w' b r n f left cnt := by
 obtain ⟨D, lf, h1, h2⟩ := h
 refine ⟨D, lf, ?_, h2⟩
 have q1 := h1.owns.lt
 have q2 := h1.lt
 obtain ⟨es, clock, since, seen, c0, hb', Ft, hs, hD, hr', rest⟩ := h1
 exact ⟨es, clock, since, seen, c0, (T.block b q1 hb).trans hb', Ft, hs, hD, (T.block r q2 hr).trans hr', rest⟩
theorem MapK.range (h : MapK c w b n f) (ht : P.underlying t = some (.map kt e)) :
  ∃ w', (Instr.range t (.map (some b))).run P w = .ok (.pointer (some ⟨w.heap.size, 0, none⟩)) w' ∧ RgK c w' b w.heap.size n f (fun k => c.ok k ∧ (f k).isSome = true) n ∧ Touch [] w w' ∧ w'.heap.size = w.heap.size + 1 := by
 obtain ⟨D, h1, h2, h3⟩ := h
 obtain ⟨w', r1, r2, r3, r4⟩ := h1.range c.keyed ht
 rw [h2] at r2
 refine ⟨w', r1, ⟨D, _, r2, h3, fun k hk => hk.1, fun k hk => ?_⟩, ⟨r3.os, r3.tape, r3.output, r3.size, fun k hk _ => r3.block k hk (by simp)⟩, r4⟩
 rw [(h3.at_ k hk).1]
 exact ⟨fun q => q.2, fun q => ⟨hk, q⟩⟩
theorem RgK.next (h : RgK c w b r n f left cnt) (ty : TypeId) :
  (cnt = 0 ∧ (∀ k, ¬ left k) ∧ (Instr.next (.pointer (some ⟨r, 0, none⟩)) false ty).run P w = .ok (.tuple #[.bool false]) w) ∨
  ∃ k v w' cnt', c.ok k ∧ left k ∧ f k = some v ∧ (Instr.next (.pointer (some ⟨r, 0, none⟩)) false ty).run P w = .ok (.tuple #[.bool true, c.kv k, v]) w' ∧
   RgK c w' b r n f (fun j => left j ∧ j ≠ k) cnt' ∧ cnt' < cnt ∧ Touch [r] w w' ∧ w'.heap.size = w.heap.size ∧ (Instr.entry (.pointer (some ⟨r, 0, none⟩))).run P w' = .ok (.tuple #[c.kv k, v]) w' := by
 obtain ⟨D, lf, h1, h2, h3, h4⟩ := h
 rcases h1.next c.keyed ty with ⟨q1, q2, q3⟩ | ⟨key, v, kl, y, w', cnt', hkey, hlk, hv, hat, hrun, hrg, hlt, hgr, hsz, hen⟩
 ·refine Or.inl ⟨q1, fun k hk => ?_, q3⟩
  have := (h4 k (h3 k hk)).1 hk
  rw [q2] at this
  cases this
 ·have hhas : Maps.has D kl = true := by
   obtain ⟨es, clock, since, seen, c0, hb, Ft, hs, hD, hr, hold, hc, hl1, hl2, rest⟩ := h1
   obtain ⟨x, hx, hk⟩ := hl2 kl hlk
   rw [hD]
   obtain ⟨y', hy'⟩ := Ft.reads x hx
   exact List.any_eq_true.2 ⟨WideElems.rg P kt HR x, mem_sorted.2 (List.mem_map.2 ⟨x, hx, rfl⟩), by rw [hk]; exact WideAt.sameKey_self (c.keyed.key hkey)⟩
  obtain ⟨k, hk, rfl⟩ := h2.dom kl hhas
  have ekey : key = c.kv k := c.keyed.inj hkey (c.key hk)
  subst ekey
  have hv' : y.1 = .held v := by
   simp only [HR, Option.some.injEq] at hv
   rw [← hv]
  have hfk : f k = some v := by
   have a1 := (h2.at_ k hk).1
   rw [hhas] at a1
   obtain ⟨u, hu⟩ := Option.isSome_iff_exists.1 a1.symm
   have a2 := (h2.at_ k hk).2 v
   rw [hat, hv', hu] at a2
   simp only [Option.getD_some, DataW.held.injEq] at a2
   rw [hu, a2]
  refine Or.inr ⟨k, v, w', cnt', hk, (h4 k hk).2 hlk, hfk, hrun, ⟨D, _, hrg, h2, fun j hj => h3 j hj.1, fun j hj => ?_⟩, hlt, ⟨hgr.os, hgr.tape, hgr.output, hgr.size, fun i hi hn => hgr.block i hi (fun e => hn (by cases e; simp))⟩, hsz, hen⟩
  simp only [Bool.and_eq_true, Bool.not_eq_true']
  constructor
  ·rintro ⟨g1, g2⟩
   exact ⟨(h4 j hj).1 g1, Maps.sameKey_ne (c.ne hj hk g2)⟩
  ·rintro ⟨g1, g2⟩
   refine ⟨(h4 j hj).2 g1, fun e => ?_⟩
   subst e
   rw [WideAt.sameKey_self (c.isKey hj)] at g2
   cases g2
end
end Go.Proofs.YtkfophlhpjbmgaaGreat
