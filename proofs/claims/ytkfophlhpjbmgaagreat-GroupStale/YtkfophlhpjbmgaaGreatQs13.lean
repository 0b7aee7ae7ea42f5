/- One key that is kept, grows stale and is refreshed, in plain words; no program. -/
import Derived.Test.YtkfophlhpjbmgaaGreatQs12
import Derived.Test.YtkfophlhpjbmgaaGreatProg
import Derived.Shelf.SlIterI.Nil
import Derived.Shelf.SortM.Plain
import Derived.Shelf.SortM.SortNone
import Derived.Test.YtkfophlhpjbmgaaGreatQs05
import Derived.Lib.SlKeysI
import Derived.Test.YtkfophlhpjbmgaaGreatQs11
import Derived.Test.YtkfophlhpjbmgaaGreatQs03
import Derived.Test.YtkfophlhpjbmgaaGreatRows
import Derived.WalkKit
import Derived.ProofKit
import Derived.OpenShut
import Derived.ShutString
import Derived.Deep.Slices
namespace Go.Proofs.YtkfophlhpjbmgaaGreat
set_option linter.unusedVariables false
set_option linter.unusedSimpArgs false
def o5 : O := (5, 0, 0, 0)
def cS (t s : Int) : Me.Cf := ⟨t, 0, s, 1, 1, 1, 0⟩
def tN (bg : Int) (rs : List (Ta.Rn × Ta.St)) : Ta.Tb := ⟨1, bg, rs, fun _ => 0⟩
def rn (b : Int) (k : K) (rf : Bool) : Ta.Rn := ⟨b, k.1, k.2, 0, rf⟩
def sT (c : Me.Cf) (k : K) (v : O) (at' now : Int) (bg : Int) (rs : List (Ta.Rn × Ta.St)) (B : Ba.Bs) : Gp := ⟨c, now, [(k, (v, at'))], tN bg rs, B, [], [], now⟩
theorem kOf_rn (b : Int) (k : K) (rf : Bool) : Ta.kOf (rn b k rf) = k := rfl
theorem curN (bg : Int) (k : K) : Ta.curOf (tN bg []) k = none := rfl
theorem curS (bg b : Int) (k : K) (rf : Bool) (S : Ta.St) : Ta.curOf (tN bg [(rn b k rf, S)]) k = some (rn b k rf) := by
  have e1 : decide (Ta.kOf (rn b k rf) = k) = true := by rw [kOf_rn]; simp
  have e2 : Ta.isCur (tN bg [(rn b k rf, S)]) (rn b k rf) = true := by simp [Ta.isCur, tN, rn]
  unfold Ta.curOf Ta.curL
  have e3 : (tN bg [(rn b k rf, S)]).rs = [(rn b k rf, S)] := rfl
  rw [e3, List.find?_cons_of_pos (by simp only [e1, e2]; rfl)]
  rfl
theorem begN (bg : Int) (k : K) (x : Int) (rf : Bool) (h64 : k.2.size ≤ 64) (hx : Ta.badC x rf = false) : Ta.tBegE (tN bg []) k x rf = 0 := by
  unfold Ta.tBegE
  rw [curN, hx]
  simp [Ta.mayK, h64, tN]
theorem begT (bg : Int) (k : K) (x : Int) (rf : Bool) (h64 : k.2.size ≤ 64) (hx : Ta.badC x rf = false) : Ta.tBeg (tN bg []) k x rf = tN (bg + 1) [(rn (bg + 1) k rf, Ta.S0 (rn (bg + 1) k rf) x)] := by
  unfold Ta.tBeg
  rw [if_pos (begN bg k x rf h64 hx)]
  rfl
theorem mayO {X : Gp} {n : Int} {k : K} {x : Int} (h0 : 0 ≤ n) (h1 : n ≤ 4611686018427387904) (h2 : X.now ≤ n) (h64 : k.2.size ≤ 64) (hx : 1 ≤ x) (hG : X.G = []) (hL : X.L = []) : mayE X n k x 0 = 0 := by
  have ht : tkE X n = 0 := by
    unfold tkE Me.tickE
    rw [Me.isT_yes h0 h1, if_pos rfl, if_neg (by omega)]
  unfold mayE
  rw [ht, hG, hL]
  simp [Lv.whr]
  omega
theorem fndS (k : K) (v : Me.V) : Me.fnd [(k, v)] k = some v := by simp [Me.fnd]
theorem useS (k : K) (v : Me.V) : Me.useX [(k, v)] k = [(k, v)] := by
  unfold Me.useX
  rw [fndS]
  simp [Me.putY, Me.drx]
theorem seenS (c : Me.Cf) (k : K) (v : O) (at' now bg : Int) (rs : List (Ta.Rn × Ta.St)) (B : Ba.Bs) : seenOf (sT c k v at' now bg rs B) k = (Me.howC c v (now - at'), now - at', v) := by
  unfold seenOf sT Me.lookS
  rw [fndS]
def B1 (c : Me.Cf) : Ba.Bs := Ba.addS (Ba.S0 c.b c.d) 0 1
def s1 (c : Me.Cf) (k : K) : Gp := ⟨c, 0, [], tN 1 [(rn 1 k false, Ta.S0 (rn 1 k false) 1)], B1 c, [(1, 1, 0)], [], 0⟩
section
variable {t s : Int} {k : K}
theorem lead (h64 : k.2.size ≤ 64) : mayE (G0 (cS t s) 0 []) 0 k 1 0 = 0 ∧ (joJ (G0 (cS t s) 0 []) 0 k 1 0).how = 5 ∧ joX (G0 (cS t s) 0 []) 0 k 1 0 = s1 (cS t s) k := by
  have hm : mayE (G0 (cS t s) 0 []) 0 k 1 0 = 0 := mayO (by omega) (by omega) (Int.le_refl _) h64 (by omega) rfl rfl
  have e0 : ({ G0 (cS t s) 0 [] with now := 0 } : Gp) = G0 (cS t s) 0 [] := rfl
  have hs : seenOf (G0 (cS t s) 0 []) k = (0, 0, Me.oz) := rfl
  have hb : telB (G0 (cS t s) 0 []) k = false := by unfold telB; rw [hs]; rfl
  have hx : telX (G0 (cS t s) 0 []) k = G0 (cS t s) 0 [] := by unfold telX; rw [hb, hs]; rfl
  have hT : (G0 (cS t s) 0 []).T = tN 0 [] := rfl
  have hc : Ta.curOf (G0 (cS t s) 0 []).T k = none := rfl
  have hbg : Ta.tBegE (G0 (cS t s) 0 []).T k 1 false = 0 := begN 0 k 1 false h64 rfl
  refine ⟨hm, ?_, ?_⟩
  · unfold joJ
    rw [hm, e0, hb, hx]
    simp only [ne_eq, not_true_eq_false, if_false, Bool.false_eq_true]
    unfold waiJ
    rw [hc]
    simp only
    rw [if_pos hbg]
    rfl
  · unfold joX
    rw [hm, e0, hb, hx]
    simp only [ne_eq, not_true_eq_false, if_false, Bool.false_eq_true]
    unfold waiX
    rw [hc]
    simp only
    rw [if_pos hbg]
    unfold begX sitX runX
    rw [hT, begT 0 k 1 false h64 rfl]
    rfl
theorem right5 : Me.right o5 = true := by decide
theorem keeps5 {o : O} (ht : 1 ≤ t) (ho : o.2.1 = 0) : Me.keepsC (cS t s) o = true := by
  unfold Me.keepsC cS
  simp only
  rw [if_neg (by omega), if_pos ho]
  simp; omega
theorem tk0 {X : Gp} {n : Int} (h0 : 0 ≤ n) (h1 : n ≤ 4611686018427387904) (h2 : X.now ≤ n) : tkE X n = 0 := by
  unfold tkE Me.tickE
  rw [Me.isT_yes h0 h1, if_pos rfl, if_neg (by omega)]
theorem endT_ {bg b : Int} {rf : Bool} {S : Ta.St} (hS : S.ended = false) {o : O} (ho : Me.right o = true) : Ta.tEndE (tN bg [(rn b k rf, S)]) b o = 0 ∧ Ta.tEndC (tN bg [(rn b k rf, S)]) b o = true ∧ Ta.tEndL (tN bg [(rn b k rf, S)]) b o = S.who ∧ Ta.tEnd (tN bg [(rn b k rf, S)]) b o = tN bg [] ∧ Ta.rnOf (tN bg [(rn b k rf, S)]) b = rn b k rf := by
  have hr : Ta.runOf (tN bg [(rn b k rf, S)]) b = some (rn b k rf, S) := by simp [Ta.runOf, tN, rn]
  have hR : Ta.right o = true := ho
  have he : Ta.endE S o = 0 := by unfold Ta.endE; rw [hS, hR]; rfl
  refine ⟨?_, ?_, ?_, ?_, ?_⟩
  · unfold Ta.tEndE; rw [hr]; exact he
  · unfold Ta.tEndC; rw [hr]; simp [he, Ta.isCur, tN, rn]
  · unfold Ta.tEndL; rw [hr]; simp [Ta.endL, he]
  · unfold Ta.tEnd; rw [hr]; simp only; rw [if_pos he]; simp [Ta.outR, tN, rn]
  · unfold Ta.rnOf; rw [hr]
theorem endF_ {bg b : Int} {rf : Bool} {S : Ta.St} (hS : S.ended = false) {o : O} (ho : Me.right o = false) : Ta.tEndE (tN bg [(rn b k rf, S)]) b o = 30 := by
  have hr : Ta.runOf (tN bg [(rn b k rf, S)]) b = some (rn b k rf, S) := by simp [Ta.runOf, tN, rn]
  have hR : Ta.right o = false := ho
  unfold Ta.tEndE
  rw [hr]
  simp [Ta.endE, hS, hR]
theorem first (ht : 1 ≤ t) (h64 : k.2.size ≤ 64) : edE (s1 (cS t s) k) 0 1 o5 = 0 ∧ (edD (s1 (cS t s) k) 0 1 o5).kept = true ∧ edX (s1 (cS t s) k) 0 1 o5 = sT (cS t s) k o5 0 0 1 [] (B1 (cS t s)) := by
  obtain ⟨e1, e2, e3, e4, e5⟩ := endT_ (k := k) (bg := 1) (b := 1) (rf := false) (S := Ta.S0 (rn 1 k false) 1) rfl right5
  have hT : (s1 (cS t s) k).T = tN 1 [(rn 1 k false, Ta.S0 (rn 1 k false) 1)] := rfl
  have hE : edE (s1 (cS t s) k) 0 1 o5 = 0 := by
    unfold edE
    rw [tk0 (Int.le_refl _) (by omega) (Int.le_refl _), hT, e1]
    rfl
  have hK : edK (s1 (cS t s) k) 1 = k := by unfold edK; rw [hT, e5]; rfl
  have hB : edB (s1 (cS t s) k) 1 o5 = true := by unfold edB; rw [hT, e2, e5]; rfl
  have hp : Me.kpB (cS t s) 0 0 k o5 = true := by
    unfold Me.kpB Me.keepE Me.pairE
    rw [keeps5 ht rfl, if_pos (by decide : Me.tickE 0 0 = 0), if_neg (by omega), right5]
    rfl
  have hG : edG (s1 (cS t s) k) 0 1 o5 = [] := by
    unfold edG Me.kpG
    rw [hK]
    have : Me.kpB (s1 (cS t s) k).c (s1 (cS t s) k).mn 0 k o5 = true := hp
    rw [this]
    rfl
  refine ⟨hE, ?_, ?_⟩
  · unfold edD
    rw [hE, hB]
    simp only [ne_eq, not_true_eq_false, if_false, if_true]
    rw [hK]
    exact hp
  · unfold edX
    rw [hE, hB, hG]
    simp only [ne_eq, not_true_eq_false, if_false, if_true]
    unfold rlX ed2 ed1
    rw [hK, hT, e4]
    have h1 : Me.kpN (s1 (cS t s) k).mn 0 k o5 = 0 := by
      unfold Me.kpN
      split <;> rfl
    have h2 : Me.kpX (s1 (cS t s) k).c (s1 (cS t s) k).mn 0 (s1 (cS t s) k).en k o5 = [(k, (o5, 0))] := by
      unfold Me.kpX
      have : Me.kpB (s1 (cS t s) k).c (s1 (cS t s) k).mn 0 k o5 = true := hp
      rw [this]
      rfl
    rw [h1, h2]
    rfl
theorem hitJ {o : O} {at' now n bg x : Int} {rs : List (Ta.Rn × Ta.St)} {B : Ba.Bs} (h64 : k.2.size ≤ 64) (h0 : 0 ≤ now) (h1 : now ≤ n) (h2 : n ≤ 4611686018427387904) (hx : 1 ≤ x) (hw : Me.howC (cS t s) o (n - at') = 1) :
    mayE (sT (cS t s) k o at' now bg rs B) n k x 0 = 0 ∧ joJ (sT (cS t s) k o at' now bg rs B) n k x 0 = ⟨1, 0, false, o, []⟩ ∧ joX (sT (cS t s) k o at' now bg rs B) n k x 0 = sT (cS t s) k o at' n bg rs B ∧ ∀ N, joC (sT (cS t s) k o at' now bg rs B) n k x 0 N = N := by
  have hm : mayE (sT (cS t s) k o at' now bg rs B) n k x 0 = 0 := mayO (by omega) h2 h1 h64 hx rfl rfl
  obtain ⟨Y, hY⟩ : ∃ Y, Y = ({ sT (cS t s) k o at' now bg rs B with now := n } : Gp) := ⟨_, rfl⟩
  have hs : seenOf Y k = (1, n - at', o) := by
    rw [hY]
    have : seenOf ({ sT (cS t s) k o at' now bg rs B with now := n } : Gp) k = seenOf (sT (cS t s) k o at' n bg rs B) k := rfl
    rw [this, seenS, hw]
  have hb : telB Y k = true := by unfold telB; rw [hs]; rfl
  refine ⟨hm, ?_, ?_, fun N => ?_⟩
  · unfold joJ
    rw [hm, ← hY, hb]
    simp only [ne_eq, not_true_eq_false, if_false, if_true]
    unfold telJ
    rw [hb, hs]
    rfl
  · unfold joX
    rw [hm, ← hY, hb]
    simp only [ne_eq, not_true_eq_false, if_false, if_true]
    unfold telX
    rw [hb, hs]
    simp only [if_true]
    unfold meeX
    rw [if_neg (by decide), hY]
    simp only [sT, useS]
  · unfold joC
    rw [hm, ← hY, hb, hs]
    simp only [ne_eq, not_true_eq_false, if_false, if_true]
    unfold meeC
    rw [if_neg (by decide)]
theorem staleJ {o : O} {at' now n bg x : Int} {B : Ba.Bs} (h64 : k.2.size ≤ 64) (h0 : 0 ≤ now) (h1 : now ≤ n) (h2 : n ≤ 4611686018427387904) (hx : 1 ≤ x) (hw : Me.howC (cS t s) o (n - at') = 2) :
    mayE (sT (cS t s) k o at' now bg [] B) n k x 0 = 0 ∧ (∃ l, joJ (sT (cS t s) k o at' now bg [] B) n k x 0 = ⟨2, bg + 1, true, o, l⟩) ∧ (∃ B', joX (sT (cS t s) k o at' now bg [] B) n k x 0 = sT (cS t s) k o at' n (bg + 1) [(rn (bg + 1) k true, Ta.S0 (rn (bg + 1) k true) 0)] B') ∧ ∀ N, joC (sT (cS t s) k o at' now bg [] B) n k x 0 N = ⟨N.t + 1, N.b + 1, N.s⟩ := by
  have hm : mayE (sT (cS t s) k o at' now bg [] B) n k x 0 = 0 := mayO (by omega) h2 h1 h64 hx rfl rfl
  obtain ⟨Y, hY⟩ : ∃ Y, Y = ({ sT (cS t s) k o at' now bg [] B with now := n } : Gp) := ⟨_, rfl⟩
  have hs : seenOf Y k = (2, n - at', o) := by
    rw [hY]
    have : seenOf ({ sT (cS t s) k o at' now bg [] B with now := n } : Gp) k = seenOf (sT (cS t s) k o at' n bg [] B) k := rfl
    rw [this, seenS, hw]
  have hT : Y.T = tN bg [] := by rw [hY]; rfl
  have hc : Ta.curOf Y.T k = none := by rw [hT]; rfl
  have hbg : Ta.tBegE Y.T k 0 true = 0 := by rw [hT]; exact begN bg k 0 true h64 rfl
  have hb : telB Y k = true := by
    unfold telB; rw [hs]; unfold meeB renB
    rw [hbg]
    simp
  have hY1 : Y.T.bg = bg := by rw [hT]; rfl
  refine ⟨hm, ?_, ?_, fun N => ?_⟩
  · unfold joJ
    rw [hm, ← hY, hb]
    simp only [ne_eq, not_true_eq_false, if_false, if_true]
    unfold telJ
    rw [hb, hs]
    simp only [if_true]
    unfold meeJ renJ
    rw [if_neg (by decide), if_pos rfl, hc]
    simp only
    rw [if_pos hbg]
    unfold begJ
    rw [hY1]
    exact ⟨_, rfl⟩
  · unfold joX
    rw [hm, ← hY, hb]
    simp only [ne_eq, not_true_eq_false, if_false, if_true]
    unfold telX
    rw [hb, hs]
    simp only [if_true]
    unfold meeX renX
    rw [if_pos rfl, hc]
    simp only
    rw [if_pos hbg]
    unfold begX runX
    rw [hT, begT bg k 0 true h64 rfl, hY]
    simp only [sT, useS]
    exact ⟨_, rfl⟩
  · unfold joC
    rw [hm, ← hY, hb, hs]
    simp only [ne_eq, not_true_eq_false, if_false, if_true]
    unfold meeC renC
    rw [if_pos rfl, hc]
    simp only
    rw [if_pos hbg]
theorem staleK {o : O} {at' now n bg b x : Int} {B : Ba.Bs} {S : Ta.St} (h64 : k.2.size ≤ 64) (h0 : 0 ≤ now) (h1 : now ≤ n) (h2 : n ≤ 4611686018427387904) (hx : 1 ≤ x) (hw : Me.howC (cS t s) o (n - at') = 2) :
    mayE (sT (cS t s) k o at' now bg [(rn b k true, S)] B) n k x 0 = 0 ∧ joJ (sT (cS t s) k o at' now bg [(rn b k true, S)] B) n k x 0 = ⟨2, b, false, o, []⟩ ∧ joX (sT (cS t s) k o at' now bg [(rn b k true, S)] B) n k x 0 = sT (cS t s) k o at' n bg [(rn b k true, S)] B ∧ ∀ N, joC (sT (cS t s) k o at' now bg [(rn b k true, S)] B) n k x 0 N = N := by
  have hm : mayE (sT (cS t s) k o at' now bg [(rn b k true, S)] B) n k x 0 = 0 := mayO (by omega) h2 h1 h64 hx rfl rfl
  obtain ⟨Y, hY⟩ : ∃ Y, Y = ({ sT (cS t s) k o at' now bg [(rn b k true, S)] B with now := n } : Gp) := ⟨_, rfl⟩
  have hs : seenOf Y k = (2, n - at', o) := by
    rw [hY]
    have : seenOf ({ sT (cS t s) k o at' now bg [(rn b k true, S)] B with now := n } : Gp) k = seenOf (sT (cS t s) k o at' n bg [(rn b k true, S)] B) k := rfl
    rw [this, seenS, hw]
  have hT : Y.T = tN bg [(rn b k true, S)] := by rw [hY]; rfl
  have hc : Ta.curOf Y.T k = some (rn b k true) := by rw [hT]; exact curS bg b k true S
  have hb : telB Y k = true := by
    unfold telB; rw [hs]; unfold meeB renB
    rw [hc]
    simp
  refine ⟨hm, ?_, ?_, fun N => ?_⟩
  · unfold joJ
    rw [hm, ← hY, hb]
    simp only [ne_eq, not_true_eq_false, if_false, if_true]
    unfold telJ
    rw [hb, hs]
    simp only [if_true]
    unfold meeJ renJ
    rw [if_neg (by decide), if_pos rfl, hc]
    rfl
  · unfold joX
    rw [hm, ← hY, hb]
    simp only [ne_eq, not_true_eq_false, if_false, if_true]
    unfold telX
    rw [hb, hs]
    simp only [if_true]
    unfold meeX renX
    rw [if_pos rfl, hc, hY]
    simp only [sT, useS]
  · unfold joC
    rw [hm, ← hY, hb, hs]
    simp only [ne_eq, not_true_eq_false, if_false, if_true]
    unfold meeC renC
    rw [if_pos rfl, hc]
theorem endV {o o' : O} {now bg b : Int} {B : Ba.Bs} (ht : 1 ≤ t) (h64 : k.2.size ≤ 64) (h0 : 0 ≤ now) (h2 : now ≤ 4611686018427387904) (hr : Me.right o = true) (hk : o.2.1 = 0) :
    edE (sT (cS t s) k o' 0 now bg [(rn b k true, Ta.S0 (rn b k true) 0)] B) now b o = 0 ∧ edX (sT (cS t s) k o' 0 now bg [(rn b k true, Ta.S0 (rn b k true) 0)] B) now b o = sT (cS t s) k o now now bg [] B ∧ (edD (sT (cS t s) k o' 0 now bg [(rn b k true, Ta.S0 (rn b k true) 0)] B) now b o).told = [] ∧ (edD (sT (cS t s) k o' 0 now bg [(rn b k true, Ta.S0 (rn b k true) 0)] B) now b o).cur = true ∧ (edD (sT (cS t s) k o' 0 now bg [(rn b k true, Ta.S0 (rn b k true) 0)] B) now b o).kept = true := by
  obtain ⟨X, hX⟩ : ∃ X, X = sT (cS t s) k o' 0 now bg [(rn b k true, Ta.S0 (rn b k true) 0)] B := ⟨_, rfl⟩
  rw [← hX]
  obtain ⟨e1, e2, e3, e4, e5⟩ := endT_ (k := k) (bg := bg) (b := b) (rf := true) (S := Ta.S0 (rn b k true) 0) rfl hr
  have hT : X.T = tN bg [(rn b k true, Ta.S0 (rn b k true) 0)] := by rw [hX]; rfl
  have hn : X.now = now := by rw [hX]; rfl
  have hE : edE X now b o = 0 := by
    unfold edE
    rw [tk0 h0 h2 (by rw [hn]; exact Int.le_refl _), hT, e1]
    rfl
  have hK : edK X b = k := by unfold edK; rw [hT, e5]; rfl
  have hB : edB X b o = true := by unfold edB; rw [hT, e2, e5, hk]; rfl
  have hp : Me.kpB X.c X.mn now k o = true := by
    have e6 : X.c = cS t s := by rw [hX]; rfl
    have e7 : X.mn = now := by rw [hX]; rfl
    rw [e6, e7]
    unfold Me.kpB Me.keepE Me.pairE Me.tickE
    rw [keeps5 ht hk, Me.isT_yes h0 h2, if_pos rfl, if_neg (Int.lt_irrefl _), if_pos rfl, if_neg (by omega), hr]
    rfl
  have hkE : Me.keepE X.mn now k o = 0 := by
    unfold Me.kpB at hp
    simp only [Bool.and_eq_true, decide_eq_true_eq] at hp
    exact hp.1
  have hen : X.en = [(k, (o', 0))] := by rw [hX]; rfl
  have hce : X.c.e = 1 := by rw [hX]; rfl
  have hu : Me.useB 1 [k] k = false := by
    unfold Me.useB Me.useY Me.dr
    simp
  have hG : edG X now b o = [] := by
    unfold edG Me.kpG
    rw [hK, hp, hen, hce]
    simp only [if_true]
    unfold Me.goneL
    have : Me.keysL [(k, (o', 0))] = [k] := rfl
    rw [this, hu]
    rfl
  refine ⟨hE, ?_, ?_, ?_, ?_⟩
  · unfold edX
    rw [hE, hB, hG]
    simp only [ne_eq, not_true_eq_false, if_false, if_true]
    unfold rlX ed2 ed1
    rw [hK, hT, e4]
    have h1 : Me.kpN X.mn now k o = now := by unfold Me.kpN; rw [if_pos hkE]
    have h3 : Me.kpX X.c X.mn now X.en k o = [(k, (o, now))] := by
      unfold Me.kpX
      rw [hp, hen, hce]
      simp only [if_true]
      unfold Me.putL
      have : Me.keysL [(k, (o', 0))] = [k] := rfl
      rw [this, hu]
      simp [Me.putY, Me.drx]
    rw [h1, h3, hX]
    rfl
  · unfold edD
    rw [hE, hB]
    simp only [ne_eq, not_true_eq_false, if_false, if_true]
    rw [hT, e3]
    rfl
  · unfold edD
    rw [hE, hB]
    simp only [ne_eq, not_true_eq_false, if_false, if_true]
    rw [hT, e2]
  · unfold edD
    rw [hE, hB]
    simp only [ne_eq, not_true_eq_false, if_false, if_true]
    rw [hK]
    exact hp
theorem endW {o o' : O} {at' now bg b : Int} {B : Ba.Bs} (h0 : 0 ≤ now) (h2 : now ≤ 4611686018427387904) (hr : Me.right o = true) (hk : o.2.1 ≠ 0) :
    edE (sT (cS t s) k o' at' now bg [(rn b k true, Ta.S0 (rn b k true) 0)] B) now b o = 0 ∧ edX (sT (cS t s) k o' at' now bg [(rn b k true, Ta.S0 (rn b k true) 0)] B) now b o = sT (cS t s) k o' at' now bg [] B ∧ (edD (sT (cS t s) k o' at' now bg [(rn b k true, Ta.S0 (rn b k true) 0)] B) now b o).told = [] ∧ (edD (sT (cS t s) k o' at' now bg [(rn b k true, Ta.S0 (rn b k true) 0)] B) now b o).cur = true ∧ (edD (sT (cS t s) k o' at' now bg [(rn b k true, Ta.S0 (rn b k true) 0)] B) now b o).kept = false := by
  obtain ⟨X, hX⟩ : ∃ X, X = sT (cS t s) k o' at' now bg [(rn b k true, Ta.S0 (rn b k true) 0)] B := ⟨_, rfl⟩
  rw [← hX]
  obtain ⟨e1, e2, e3, e4, e5⟩ := endT_ (k := k) (bg := bg) (b := b) (rf := true) (S := Ta.S0 (rn b k true) 0) rfl hr
  have hT : X.T = tN bg [(rn b k true, Ta.S0 (rn b k true) 0)] := by rw [hX]; rfl
  have hn : X.now = now := by rw [hX]; rfl
  have hE : edE X now b o = 0 := by
    unfold edE
    rw [tk0 h0 h2 (by rw [hn]; exact Int.le_refl _), hT, e1]
    rfl
  have hB : edB X b o = false := by unfold edB; rw [hT, e2, e5, decide_eq_false hk]; rfl
  refine ⟨hE, ?_, ?_, ?_, ?_⟩
  · unfold edX
    rw [hE, hB]
    simp only [ne_eq, not_true_eq_false, if_false, Bool.false_eq_true]
    unfold ed1
    rw [hT, e4, hX]
    rfl
  · unfold edD
    rw [hE, hB]
    simp only [ne_eq, not_true_eq_false, if_false, Bool.false_eq_true]
    rw [hT, e3]
    rfl
  · unfold edD
    rw [hE, hB]
    simp only [ne_eq, not_true_eq_false, if_false, Bool.false_eq_true]
    rw [hT, e2]
  · unfold edD
    rw [hE, hB]
    simp only [ne_eq, not_true_eq_false, if_false, Bool.false_eq_true]
theorem endN {o o' : O} {at' now bg b : Int} {B : Ba.Bs} (h0 : 0 ≤ now) (h2 : now ≤ 4611686018427387904) (hr : Me.right o = false) : edE (sT (cS t s) k o' at' now bg [(rn b k true, Ta.S0 (rn b k true) 0)] B) now b o = 30 := by
  unfold edE
  have hT : (sT (cS t s) k o' at' now bg [(rn b k true, Ta.S0 (rn b k true) 0)] B).T = tN bg [(rn b k true, Ta.S0 (rn b k true) 0)] := rfl
  rw [tk0 h0 h2 (Int.le_refl _), hT, endF_ rfl hr]
  rfl
end
end Go.Proofs.YtkfophlhpjbmgaaGreat
/- The contracts of the library's Keys, Sorted and Sort, laid at this program: facts of the program alone; no conditions. -/
namespace Go.Proofs
open Go.Shelf
def Tryz.keysA_ren : Go.Shelf.Ren := ⟨fun | 7 => 102 | 10 => 141 | n => n, fun | 23 => 176 | 26 => 3 | 3 => 171 | 28 => 189 | 0 => 0 | 27 => 188 | 33 => 90 | 4 => 4 | n => n, fun | n => n⟩
theorem Tryz.keysA : Go.Proofs.SlLaysZI.n7 Tryz.prog Tryz.keysA_ren := {
  mixed := by kernel_rfl
  f7 := ⟨Tryz.f102.name, by decide, Tryz.func102.trans (congrArg some (by kernel_rfl))⟩
  f10 := ⟨Tryz.f141.name, by decide, Tryz.func141.trans (congrArg some (by kernel_rfl))⟩
  t0 := Tryz.underlying0
  a0 := Tryz.isAgg0
  z0 := Tryz.sizeOf0
  v0 := Tryz.zeroValue0
  t4 := Tryz.underlying4
  a4 := Tryz.isAgg4
  z4 := Tryz.sizeOf4
  v4 := Tryz.zeroValue4
  t23 := Tryz.underlying176
  a23 := Tryz.isAgg176
  z23 := Tryz.sizeOf176
  v23 := Tryz.zeroValue176
  t26 := Tryz.underlying3
  a26 := Tryz.isAgg3
  z26 := Tryz.sizeOf3
  v26 := Tryz.zeroValue3
  t27 := Tryz.underlying188
  a27 := Tryz.isAgg188
  z27 := Tryz.sizeOf188
  v27 := Tryz.zeroValue188
  t28 := Tryz.underlying189
  a28 := Tryz.isAgg189
  z28 := Tryz.sizeOf189
  v28 := Tryz.zeroValue189
  t33 := Tryz.underlying90
  a33 := Tryz.isAgg90
  z33 := Tryz.sizeOf90
  v33 := Tryz.zeroValue90 }
def Tryz.sortedA_ren : Go.Shelf.Ren := ⟨fun | 6 => 101 | 8 => 139 | 9 => 140 | 11 => 169 | 13 => 149 | 12 => 170 | 23 => 181 | 24 => 182 | 14 => 190 | 15 => 191 | 16 => 192 | 17 => 193 | 18 => 194 | 19 => 195 | 20 => 196 | 21 => 197 | 22 => 198 | 25 => 207 | 26 => 201 | 27 => 202 | 28 => 208 | 29 => 209 | 30 => 210 | 31 => 214 | n => n, fun | 26 => 3 | 28 => 189 | 24 => 47 | 0 => 0 | 3 => 3 | 37 => 253 | 48 => 279 | 50 => 281 | 4 => 4 | 40 => 273 | 39 => 272 | 45 => 81 | 5 => 5 | 9 => 9 | 51 => 294 | 55 => 298 | 57 => 303 | 58 => 304 | 33 => 90 | n => n, fun | n => n⟩
theorem Tryz.sortedA : Go.Proofs.SlLaysZI.n6 Tryz.prog Tryz.sortedA_ren := {
  mixed := by kernel_rfl
  f6 := ⟨Tryz.f101.name, by decide, Tryz.func101.trans (congrArg some (by kernel_rfl))⟩
  f8 := ⟨Tryz.f139.name, by decide, Tryz.func139.trans (congrArg some (by kernel_rfl))⟩
  f11 := ⟨Tryz.f169.name, by decide, Tryz.func169.trans (congrArg some (by kernel_rfl))⟩
  t0 := Tryz.underlying0
  a0 := Tryz.isAgg0
  z0 := Tryz.sizeOf0
  v0 := Tryz.zeroValue0
  t24 := Tryz.underlying47
  a24 := Tryz.isAgg47
  z24 := Tryz.sizeOf47
  v24 := Tryz.zeroValue47
  t26 := Tryz.underlying3
  a26 := Tryz.isAgg3
  z26 := Tryz.sizeOf3
  v26 := Tryz.zeroValue3
  t28 := Tryz.underlying189
  a28 := Tryz.isAgg189
  z28 := Tryz.sizeOf189
  v28 := Tryz.zeroValue189
  i26 := by kernel_rfl }
def Tryz.sortA_ren : Go.Shelf.Ren := ⟨fun | 5 => 140 | 8 => 149 | 7 => 170 | 19 => 181 | 20 => 182 | 10 => 190 | 11 => 191 | 12 => 192 | 13 => 193 | 14 => 194 | 15 => 195 | 16 => 196 | 17 => 197 | 18 => 198 | 30 => 207 | 31 => 201 | 32 => 202 | 33 => 208 | 34 => 209 | 35 => 210 | 40 => 214 | n => n, fun | 23 => 47 | 25 => 3 | 3 => 3 | 32 => 253 | 22 => 47 | 0 => 0 | 44 => 279 | 46 => 281 | 4 => 4 | 36 => 273 | 35 => 272 | 41 => 81 | 5 => 5 | 9 => 9 | 53 => 294 | 57 => 298 | 63 => 303 | 64 => 304 | n => n, fun | n => n⟩
theorem Tryz.sortA : Go.Proofs.SlLaysM.n5 Tryz.prog Tryz.sortA_ren := {
  mixed := by kernel_rfl
  f5 := ⟨Tryz.f140.name, by decide, Tryz.func140.trans (congrArg some (by kernel_rfl))⟩
  f7 := ⟨Tryz.f170.name, by decide, Tryz.func170.trans (congrArg some (by kernel_rfl))⟩
  f8 := Tryz.func149.trans (congrArg some (by kernel_rfl))
  f10 := ⟨Tryz.f190.name, by decide, Tryz.func190.trans (congrArg some (by kernel_rfl))⟩
  f11 := ⟨Tryz.f191.name, by decide, Tryz.func191.trans (congrArg some (by kernel_rfl))⟩
  f12 := ⟨Tryz.f192.name, by decide, Tryz.func192.trans (congrArg some (by kernel_rfl))⟩
  f13 := ⟨Tryz.f193.name, by decide, Tryz.func193.trans (congrArg some (by kernel_rfl))⟩
  f14 := ⟨Tryz.f194.name, by decide, Tryz.func194.trans (congrArg some (by kernel_rfl))⟩
  f15 := ⟨Tryz.f195.name, by decide, Tryz.func195.trans (congrArg some (by kernel_rfl))⟩
  f16 := ⟨Tryz.f196.name, by decide, Tryz.func196.trans (congrArg some (by kernel_rfl))⟩
  f17 := ⟨Tryz.f197.name, by decide, Tryz.func197.trans (congrArg some (by kernel_rfl))⟩
  f18 := ⟨Tryz.f198.name, by decide, Tryz.func198.trans (congrArg some (by kernel_rfl))⟩
  f19 := Tryz.func181.trans (congrArg some (by kernel_rfl))
  f20 := Tryz.func182.trans (congrArg some (by kernel_rfl))
  f30 := ⟨Tryz.f207.name, by decide, Tryz.func207.trans (congrArg some (by kernel_rfl))⟩
  f31 := Tryz.func201.trans (congrArg some (by kernel_rfl))
  f32 := Tryz.func202.trans (congrArg some (by kernel_rfl))
  f33 := ⟨Tryz.f208.name, by decide, Tryz.func208.trans (congrArg some (by kernel_rfl))⟩
  f34 := ⟨Tryz.f209.name, by decide, Tryz.func209.trans (congrArg some (by kernel_rfl))⟩
  f35 := ⟨Tryz.f210.name, by decide, Tryz.func210.trans (congrArg some (by kernel_rfl))⟩
  f40 := ⟨Tryz.f214.name, by decide, Tryz.func214.trans (congrArg some (by kernel_rfl))⟩
  t0 := Tryz.underlying0
  a0 := Tryz.isAgg0
  z0 := Tryz.sizeOf0
  v0 := Tryz.zeroValue0
  t3 := Tryz.underlying3
  a3 := Tryz.isAgg3
  z3 := Tryz.sizeOf3
  v3 := Tryz.zeroValue3
  t4 := Tryz.underlying4
  a4 := Tryz.isAgg4
  z4 := Tryz.sizeOf4
  v4 := Tryz.zeroValue4
  t5 := Tryz.underlying5
  a5 := Tryz.isAgg5
  z5 := Tryz.sizeOf5
  v5 := Tryz.zeroValue5
  t9 := Tryz.underlying9
  a9 := Tryz.isAgg9
  z9 := Tryz.sizeOf9
  v9 := Tryz.zeroValue9
  t22 := Tryz.underlying47
  a22 := Tryz.isAgg47
  z22 := Tryz.sizeOf47
  v22 := Tryz.zeroValue47
  t23 := Tryz.underlying47
  a23 := Tryz.isAgg47
  z23 := Tryz.sizeOf47
  v23 := Tryz.zeroValue47
  t25 := Tryz.underlying3
  a25 := Tryz.isAgg3
  z25 := Tryz.sizeOf3
  v25 := Tryz.zeroValue3
  t32 := Tryz.underlying253
  a32 := Tryz.isAgg253
  z32 := Tryz.sizeOf253
  v32 := Tryz.zeroValue253
  t35 := Tryz.underlying272
  a35 := Tryz.isAgg272
  z35 := Tryz.sizeOf272
  v35 := Tryz.zeroValue272
  t36 := Tryz.underlying273
  a36 := Tryz.isAgg273
  z36 := Tryz.sizeOf273
  v36 := Tryz.zeroValue273
  t41 := Tryz.underlying81
  a41 := Tryz.isAgg81
  z41 := Tryz.sizeOf81
  v41 := Tryz.zeroValue81
  t44 := Tryz.underlying279
  a44 := Tryz.isAgg279
  z44 := Tryz.sizeOf279
  v44 := Tryz.zeroValue279
  t46 := Tryz.underlying281
  a46 := Tryz.isAgg281
  z46 := Tryz.sizeOf281
  v46 := Tryz.zeroValue281
  t53 := Tryz.underlying294
  a53 := Tryz.isAgg294
  z53 := Tryz.sizeOf294
  v53 := Tryz.zeroValue294
  t57 := Tryz.underlying298
  a57 := Tryz.isAgg298
  z57 := Tryz.sizeOf298
  v57 := Tryz.zeroValue298
  t63 := Tryz.underlying303
  a63 := Tryz.isAgg303
  z63 := Tryz.sizeOf303
  v63 := Tryz.zeroValue303
  t64 := Tryz.underlying304
  a64 := Tryz.isAgg304
  z64 := Tryz.sizeOf304
  v64 := Tryz.zeroValue304 }
end Go.Proofs
/- The contract of Progress: all runs in progress, rising. -/
namespace Go.Proofs.YtkfophlhpjbmgaaGreat.Ta
open Go.RowKit Go.Maps Go.ChangeMaps Go.Sort Go.Shelf
set_option maxRecDepth 100000
set_option linter.unusedVariables false
set_option linter.unusedSimpArgs false
theorem sortsP (m : Nat) : AnyZI.SortsIn Tryz.prog Tryz.sortedA_ren Fence.wide m :=
  ⟨fun blk off cap ss W hH hblk hsz => callsIn_wide.2 (AnyM.slices_Sort_int Tryz.sortA blk off cap ss W hH hblk hsz),
   fun p cap W => callsIn_wide.2 (AnyM.slices_Sort_int_none Tryz.sortA p cap W)⟩
set_option maxHeartbeats 2000000 in
theorem progRaw (w : World) (t p nn : Nat) (D0 : DataW Value) (hown : w.ownsMap Tryz.prog 3 HR p nn D0) (c2 : w.cell? ⟨t, 2, none⟩ = some (.map (some p))) (hmax : Maps.size D0 ≤ maxLen) (hbytes : Maps.size D0 * 8 ≤ 140737488355328) :
    Calls Tryz.prog 52 #[.pointer (some ⟨t, 0, none⟩)] w fun e w' => ∃ (v : Value) (ss : List Int), e = .returned v ∧ ss.Perm (intKeys D0) ∧ w'.ownsRow w.heap.size 3 1 v ss.length ((ss.mergeSort (fun x y => decide (x ≤ y))).map encZ) ∧ Below w.heap.size w w' := by
  refine (callsIn_wide (n := 6)).1 ?_
  have hbl := hown.lt
  have hseq : SeqGives Fence.wide 2 Tryz.prog 141 #[.pointer (some ⟨w.heap.size, 0, none⟩)] encZ (fun ss => ss.Perm (intKeys D0)) (Maps.size D0) (w.alloc (.cells #[.map (some p)] 176)) :=
    AnyZI.keys_gives (ρ := Tryz.keysA_ren) { Tryz.keysA with } Fence.wide _ trivial rfl (by omega) w.heap.size p nn D0 _ (by simp) (by simp) (by
      obtain ⟨es, clock, hb, Ft, hs, hD⟩ := hown
      exact ⟨es, clock, (Below.heap_alloc _ _ p hbl).trans hb, Ft, hs, hD⟩)
  have cK : ∀ mb W, CallsIn Fence.wide 5 Tryz.prog 102 #[.map mb] W fun e w' => e = .returned (.func (.func 141) #[] #[.pointer (some ⟨W.heap.size, 0, none⟩)]) ∧ w' = W.alloc (.cells #[.map mb] 176) := fun mb W => AnyZI.keys_in Tryz.keysA Fence.wide 5 trivial rfl mb W
  have cS := AnyZI.sorted_in Tryz.sortedA Fence.wide 5 trivial trivial trivial trivial rfl (by omega) (sortsP _) (enters_of Tryz.func140 (by kernel_rfl) rfl) 141 #[.pointer (some ⟨w.heap.size, 0, none⟩)] trivial (enters_of Tryz.func141 (by kernel_rfl) rfl) _ _ hmax hbytes _ hseq
  change CallsIn _ _ Tryz.prog 101 _ _ _ at cS
  have hfK : Fence.wide.fn 102 := trivial
  have hfS : Fence.wide.fn 101 := trivial
  refine callsIn_of_wp Tryz.func52 rfl trivial ?_ rfl
  simp only [Tryz.ntmps52, List.size_toArray, List.length_cons, List.length_nil, Nat.reduceAdd, Nat.reduceSub, Array.replicate_succ, Array.replicate_zero, List.push_toArray, List.append_toArray, List.nil_append, List.cons_append]
  gi_wp2_with (first
    | (gi_at_call 102; refine (cK _ _).mono ?_; rintro e w' ⟨rfl, rfl⟩)
    | (gi_at_call 101; refine cS.mono ?_; rintro e w' ⟨v, ss, rfl, hS, hrow, hnil, hb⟩))
  go_ret
  exact ⟨v, ss, rfl, hS, ownsRow_base_a hrow (by simp), ((Below.refl _ w).alloc (Nat.le_refl _) _).trans (hb.mono (by simp))⟩
def runsOf (T : Tb) : List Int := T.rs.map (fun p => p.1.run)
theorem runs_sorted {T : Tb} {N : Nat} (h : Ti T N) : (runsOf T).Pairwise (fun a b => a < b) := List.pairwise_map.2 h.ord
section
variable {w : World} {t p c : Nat} {g : Option Nat} {nc ng : Nat} {Ps : List Rb} {T : Tb} {N : Nat}
theorem ptr_has (h : Tm w t p c g nc ng Ps T N) (n : Int) : (ptr Ps n).isSome = decide (n ∈ runsOf T) := by
  unfold runsOf
  rw [h.rs, rsOf, List.map_map]
  unfold ptr
  rw [Option.isSome_map, Bool.eq_iff_iff, List.find?_isSome]
  simp only [decide_eq_true_eq, List.mem_map, Function.comp]
theorem tProg (h : Tm w t p c g nc ng Ps T N) (hN : N ≤ 3000000000000) : Calls Tryz.prog 52 #[PT t] w fun e w' => WtE e w w' (runsOf T) := by
  have c2 := h.cs.c2
  have hh := ptr_has h
  have hR : (runsOf T).length ≤ 4096 := by
    have := h.iv.len
    have := h.iv.fl
    unfold runsOf
    rw [List.length_map]
    omega
  have hs := runs_sorted h.iv
  have hw : ∀ x ∈ runsOf T, W64 x := fun x hx => by
    obtain ⟨q, hq, rfl⟩ := List.mem_map.1 hx
    have h1 := h.iv.rng q hq
    have h2 := h.iv.bg.2
    exact W64.mk (by omega) (by omega)
  have hl : Ps.length = (runsOf T).length := by unfold runsOf; rw [h.rs]; simp [rsOf]
  obtain ⟨D, hown, hsz, hD⟩ := h.pm
  obtain ⟨es, hes, hp, hkl⟩ := hown.entries keyed3
  have hmem : ∀ q ∈ es, ∃ x, W64 x ∧ q.1 = .int .i64 x := fun q hq => by
    have hq' : Maps.has D q.1 = true := by
      rw [hes, Maps.has_eq]
      exact List.any_eq_true.2 ⟨q, hq, WideAt.sameKey_self (hkl q hq)⟩
    obtain ⟨k, hk, e⟩ := hD.dom _ hq'
    exact ⟨k, hk, e⟩
  have hhas : ∀ x, x ∈ runsOf T ↔ Maps.has D (.int .i64 x) = true := fun x => by
    constructor
    · intro hx
      have := (hD.at_ x (hw x hx)).1
      rw [show (KI : KK Tryz.prog 3 Int).lit x = .int .i64 x from rfl] at this
      rw [this, hh]
      simp [hx]
    · intro hx
      obtain ⟨k, hk, e⟩ := hD.dom _ hx
      have e' : x = k := by
        rw [show (KI : KK Tryz.prog 3 Int).lit k = .int .i64 k from rfl] at e
        injection e
      subst e'
      have := (hD.at_ x hk).1
      rw [show (KI : KK Tryz.prog 3 Int).lit x = .int .i64 x from rfl, hx, hh] at this
      simpa using this.symm
  have hperm : (runsOf T).Perm (intKeys D) := by
    rw [hes]
    exact perm_intKeys hp (fun q hq => by obtain ⟨x, _, e⟩ := hmem q hq; exact ⟨x, e⟩) (hs.imp (fun {a b} hab => by omega)) (fun x => by rw [← hes]; exact hhas x)
  refine (progRaw w t p _ D hown c2 (by rw [hsz, hl]; unfold maxLen; omega) (by rw [hsz, hl]; omega)).mono ?_
  rintro e w' ⟨v, ss, rfl, h1, h2, h3⟩
  have e1 : ss.mergeSort leI = (runsOf T).mergeSort leI := mergeSort_of_perm_i (h1.trans hperm.symm)
  have e2 : (runsOf T).mergeSort leI = runsOf T := List.mergeSort_of_pairwise (hs.imp (fun {a b} hab => by simp only [leI, decide_eq_true_eq]; omega))
  have e3 : ss.length = (runsOf T).length := (h1.trans hperm.symm).length_eq
  rw [show (fun x y : Int => decide (x ≤ y)) = leI from rfl, e1, e2, e3] at h2
  exact ⟨v, rfl, Rd.of_own (own_base h2 (Nat.zero_le _)), fun b hb => (h2.lt b hb).1, Touch.of_below h3⟩
end
theorem progT (w : World) (t : Nat) (F : List Nat) (T : Tb) (N : Nat) (h : Tq w t F T N) (hN : N ≤ 3000000000000) : Calls Tryz.prog 52 #[PT t] w fun e w' => WtE e w w' (runsOf T) := by
  obtain ⟨p, c, g, nc, ng, Ps, rfl, h, hL⟩ := h
  exact tProg h hN
end Go.Proofs.YtkfophlhpjbmgaaGreat.Ta
/- What a group answers without being changed; no conditions but those that each states. -/
namespace Go.Proofs.YtkfophlhpjbmgaaGreat
open Go.RowKit Go.Maps Go.ChangeMaps
set_option maxRecDepth 100000
set_option linter.unusedVariables false
set_option linter.unusedSimpArgs false
section
variable {w : World} {g : Nat} {P : Pt} {F : List Nat} {X : Gp} {N : Cn}
theorem canc_q (h : Gq w g P F X N) (hN : N.t ≤ 3000000000000) {n : Int} (hn : W64 n) : Calls Tryz.prog 27 #[PT g, .int .i64 n] w fun e w' => e = .returned (.bool (Ta.cancOf X.T n)) ∧ Touch [] w w' := by
  refine (canc_any (Ow.of h) n (R := fun v w' => v = .bool (Ta.cancOf X.T n) ∧ Touch [] w w') (fun w1 T => ?_)).mono ?_
  · obtain ⟨Ft, ht, -, -⟩ := (h.keep0 T).tab
    exact (Ta.cancT w1 P.t Ft X.T N.t ht hN n hn).mono (fun e w2 hh => ⟨_, hh.1, rfl, hh.2 ▸ T⟩)
  · rintro e w2 ⟨v, rfl, rfl, t⟩
    exact ⟨rfl, t⟩
theorem waiters_q (h : Gq w g P F X N) (hN : N.t ≤ 3000000000000) {n : Int} (hn : W64 n) : Calls Tryz.prog 14 #[PT g, .int .i64 n] w fun e w' => ∃ a c, e = .returned (.slice a (Ta.whoOf X.T n).length c) ∧ Rd w' (.slice a (Ta.whoOf X.T n).length c) (Ta.whoOf X.T n) ∧ Touch [] w w' := by
  refine (waiters_any (Ow.of h) n (R := fun v w' => Rd w' v (Ta.whoOf X.T n) ∧ Touch [] w w') (fun w1 T => ?_)).mono ?_
  · obtain ⟨Ft, ht, -, -⟩ := (h.keep0 T).tab
    refine (Ta.waitersT w1 P.t Ft X.T N.t ht hN n hn).mono ?_
    rintro e w2 ⟨v, e1, e2, e3, e4⟩
    exact ⟨v, e1, e2, T.trans' e4⟩
  · rintro e w2 ⟨v, rfl, r, t⟩
    obtain ⟨a, c, rfl, _⟩ := r.form
    exact ⟨a, c, rfl, r, t⟩
theorem prog_q (h : Gq w g P F X N) (hN : N.t ≤ 3000000000000) : Calls Tryz.prog 16 #[PT g] w fun e w' => ∃ a c, e = .returned (.slice a (Ta.runsOf X.T).length c) ∧ Rd w' (.slice a (Ta.runsOf X.T).length c) (Ta.runsOf X.T) ∧ Touch [] w w' := by
  refine (prog_any (Ow.of h) (R := fun v w' => Rd w' v (Ta.runsOf X.T) ∧ Touch [] w w') (fun w1 T => ?_)).mono ?_
  · obtain ⟨Ft, ht, -, -⟩ := (h.keep0 T).tab
    refine (Ta.progT w1 P.t Ft X.T N.t ht hN).mono ?_
    rintro e w2 ⟨v, e1, e2, e3, e4⟩
    exact ⟨v, e1, e2, T.trans' e4⟩
  · rintro e w2 ⟨v, rfl, r, t⟩
    obtain ⟨a, c, rfl, _⟩ := r.form
    exact ⟨a, c, rfl, r, t⟩
def entOf (X : Gp) (k : K) : Me.En := match Me.fnd X.en k with
  | none => ((0, ⟨#[]⟩), ((0, 0, 0, 0), 0))
  | some v => (k, v)
theorem entry_q (h : Gq w g P F X N) (k : K) (hk : Ok k) : Calls Tryz.prog 24 #[PT g, kv k] w fun e w' => e = .returned (.tuple #[Me.nv (entOf X k), .bool (Me.fnd X.en k).isSome]) ∧ Touch [] w w' := by
  refine entry_any (Ow.of h) k (entOf X k) (Me.fnd X.en k).isSome (fun w1 T => ?_)
  obtain ⟨Fm, hm, -, -⟩ := (h.keep0 T).memo
  refine (Me.getM w1 P.m Fm X.c X.mn X.en hm k hk).mono ?_
  rintro e w2 ⟨rfl, t⟩
  refine ⟨?_, t⟩
  unfold Me.getS entOf
  cases Me.fnd X.en k <;> rfl
theorem run_q (h : Gq w g P F X N) (hN : N.t ≤ 3000000000000) {n : Int} (hn : W64 n) : Calls Tryz.prog 23 #[PT g, .int .i64 n] w fun e w' => e = .returned (.tuple #[Ta.rv (Ta.rnOf X.T n), .bool (Ta.runOf X.T n).isSome]) ∧ Touch [] w w' := by
  refine run_any (Ow.of h) n (Ta.rnOf X.T n) (Ta.runOf X.T n).isSome (fun w1 T => ?_)
  obtain ⟨Ft, ht, -, -⟩ := (h.keep0 T).tab
  exact Ta.runT w1 P.t Ft X.T N.t ht hN n hn
def cntB (X : Gp) (n : Int) : Bool := (Ta.rnOf X.T n).rf && (Ta.curBy X.T n && (Me.fnd X.en (Ta.kOf (Ta.rnOf X.T n))).isSome)
set_option maxHeartbeats 4000000 in
theorem counts_q (h : Gq w g P F X N) (hN : N.t ≤ 3000000000000) {n : Int} (hn : W64 n) : Calls Tryz.prog 66 #[PT g, .int .i64 n] w fun e w' => e = .returned (.bool (cntB X n)) ∧ Touch [] w w' := by
  have hkR : Ok (Ta.kOf (Ta.rnOf X.T n)) := by
    unfold Ta.rnOf
    cases hc : Ta.runOf X.T n with
    | none => exact ⟨rfl, by unfold maxLen; decide⟩
    | some p => exact h.iv.2.1.ok p (Ta.runOf_mem hc).1
  have HR := hid (run_q h hN hn)
  have HO : Hid (∀ w1, Touch [] w w1 → Calls Tryz.prog 50 #[PT g] w1 fun e w2 => e = .returned (.agg #[.pointer (ad P.m), .pointer (ad P.t), .pointer (ad P.b), .pointer (ad P.s)]) ∧ Touch [] w w2) := hid (fun w1 T => ((Ow.of h).o w1 T).mono (fun e w2 hh => ⟨hh.1, T.trans' hh.2⟩))
  have HC : Hid (∀ w1, Touch [] w w1 → Calls Tryz.prog 94 #[.pointer (ad P.t), .int .i64 n] w1 fun e w2 => e = .returned (.bool (Ta.curBy X.T n)) ∧ Touch [] w w2 ∧ Touch [] w1 w2) := hid (fun w1 T => by
    obtain ⟨Ft, ht, -, -⟩ := (h.keep0 T).tab
    exact (Ta.isCurT w1 P.t Ft X.T N.t ht hN n hn).mono (fun e w2 hh => ⟨hh.1, T.trans' hh.2, hh.2⟩))
  have HE : Hid (∀ w1, Touch [] w w1 → Calls Tryz.prog 24 #[PT g, kv (Ta.kOf (Ta.rnOf X.T n))] w1 fun e w2 => (∃ x, e = .returned (.tuple #[Me.nv x, .bool (Me.fnd X.en (Ta.kOf (Ta.rnOf X.T n))).isSome])) ∧ Touch [] w w2) := hid (fun w1 T => (entry_q (h.keep0 T) _ hkR).mono (fun e w2 hh => ⟨⟨_, hh.1⟩, T.trans' hh.2⟩))
  have HOW : Hid (∀ w1, Touch [] w w1 → Calls Tryz.prog 50 #[PT g] w1 fun e w2 => e = .returned (.agg #[.pointer (ad P.m), .pointer (ad P.t), .pointer (ad P.b), .pointer (ad P.s)]) ∧ Touch [] w1 w2) := hid (fun w1 T => (Ow.of h).o w1 T)
  clear h hN hn hkR
  unfold cntB
  generalize (Me.fnd X.en (Ta.kOf (Ta.rnOf X.T n))).isSome = D at *
  generalize (Ta.runOf X.T n).isSome = B at *
  generalize Ta.curBy X.T n = C at *
  generalize Ta.rnOf X.T n = R at *
  obtain ⟨Ru, Rp, Rm, Rg, Rf⟩ := R
  have HB : Hid (∀ w2 w3 : World, Touch [] (w2.alloc (.cells #[.int .i64 Ru, .int .u16 Rp, .string Rm, .int .i64 Rg, .bool Rf] 53)) w3 → w3.cell? ⟨w2.heap.size, 1, none⟩ = some (.int .u16 Rp) ∧ w3.cell? ⟨w2.heap.size, 2, none⟩ = some (.string Rm)) := hid (fun w2 w3 T => by
    have := T.keep (heap_alloc_new w2 (.cells #[.int .i64 Ru, .int .u16 Rp, .string Rm, .int .i64 Rg, .bool Rf] 53)) (by simp)
    exact ⟨cell_at this rfl, cell_at this rfl⟩)
  unfold Ta.rv at HR
  unfold Ta.kOf kv at HE
  unfold Me.nv at HE
  simp only at HR HE ⊢
  unfold PT at *
  cases Rf with
  | false =>
    simp only [Bool.false_and]
    go_enter Tryz.func66, Tryz.ntmps66
    go_wp2_with (go_at_call 23; refine HR.out.mono ?_; rintro e w2 ⟨rfl, t2⟩; have T2 := hid t2; clear t2)
    go_ret
    exact ⟨rfl, T2.out.alloc _⟩
  | true =>
    simp only [Bool.true_and]
    cases C with
    | false =>
      simp only [Bool.false_and]
      go_enter Tryz.func66, Tryz.ntmps66
      go_wp2_with (first
        | (go_at_call 23; refine HR.out.mono ?_; rintro e w2 ⟨rfl, t2⟩; have T2 := hid t2; clear t2)
        | (go_at_call 50; refine (HO.out _ (T2.out.alloc _)).mono ?_; rintro e w3 ⟨rfl, t3⟩; have T3 := hid t3; clear t3; obtain ⟨p0, p1, p2, p3⟩ := fldP w3 (ad P.m) (ad P.t) (ad P.b) (ad P.s))
        | (go_at_call 94; refine (HC.out _ T3.out).mono ?_; rintro e w4 ⟨rfl, t4, -⟩; have T4 := hid t4; clear t4))
      go_ret
      exact ⟨rfl, T4.out⟩
    | true =>
      simp only [Bool.true_and]
      go_enter Tryz.func66, Tryz.ntmps66
      go_upto_region 2 with (go_at_call 23; refine HR.out.mono ?_; rintro e w2 ⟨rfl, t2⟩; have T2 := hid t2; clear t2)
      obtain ⟨W2, hW2⟩ : ∃ W, W = w2.alloc (.cells #[.int .i64 Ru, .int .u16 Rp, .string Rm, .int .i64 Rg, .bool true] 53) := ⟨_, rfl⟩
      have t2 : Touch [] w W2 := by rw [hW2]; exact T2.out.alloc _
      have hb := heap_alloc_new w2 (.cells #[.int .i64 Ru, .int .u16 Rp, .string Rm, .int .i64 Rg, .bool true] 53)
      rw [← hW2] at hb ⊢
      have b4 := cell_at (j := 4) hb rfl
      have HBx := hid hb
      have TW := hid t2
      have HO2 : Hid (Calls Tryz.prog 50 #[.pointer (some ⟨g, 0, none⟩)] W2 fun e w2 => e = .returned (.agg #[.pointer (ad P.m), .pointer (ad P.t), .pointer (ad P.b), .pointer (ad P.s)]) ∧ Touch [] W2 w2) := hid (HOW.out W2 t2)
      clear hW2 t2 hb
      go_upto_region 4 with (first
        | (go_at_call 50; refine HO2.out.mono ?_; rintro e w3 ⟨rfl, t3⟩; have T3 := hid t3; clear t3; obtain ⟨p0, p1, p2, p3⟩ := fldP w3 (ad P.m) (ad P.t) (ad P.b) (ad P.s))
        | (go_at_call 94; refine (HC.out _ (TW.out.trans' T3.out)).mono ?_; rintro e w4 ⟨rfl, t4, u4⟩; have T4 := hid t4; have hb := (T3.out.trans' u4).keep HBx.out (by simp); clear b4 t4 u4; have b1 := cell_at (j := 1) hb rfl; have b2 := cell_at (j := 2) hb rfl; clear hb))
      go_wp2_with (go_at_call 24; refine (HE.out _ T4.out).mono ?_; rintro e w5 ⟨⟨x, rfl⟩, t5⟩; have T5 := hid t5; clear t5)
      go_ret
      exact ⟨rfl, T5.out.alloc _⟩
theorem int_q (h : Gq w g P F X N) (hN : N.t ≤ 3000000000000) {n : Int} (hn : W64 n) (hl : (Ta.whoOf X.T n).length ≤ 9000000000000000000) : Calls Tryz.prog 28 #[PT g, .int .i64 n] w fun e w' => e = .returned (.int .i64 ((Ta.whoOf X.T n).length + (if cntB X n then 1 else 0))) ∧ Touch [] w w' := by
  have HW := hid (waiters_q h hN hn)
  have HC : Hid (∀ w1, Touch [] w w1 → Calls Tryz.prog 66 #[PT g, .int .i64 n] w1 fun e w2 => e = .returned (.bool (cntB X n)) ∧ Touch [] w w2) := hid (fun w1 T => (counts_q (h.keep0 T) hN hn).mono (fun e w2 hh => ⟨hh.1, T.trans' hh.2⟩))
  clear h hN hn
  generalize (Ta.whoOf X.T n).length = m at *
  have z1 : (m : Int) ≤ 9000000000000000000 := by omega
  have z0 : 0 ≤ (m : Int) := by omega
  unfold PT at *
  cases hc : cntB X n with
  | false =>
    rw [hc] at HC
    simp only [Bool.false_eq_true, if_false, Int.add_zero]
    go_enter Tryz.func28, Tryz.ntmps28
    go_wp2_with (first
      | (go_at_call 14; refine HW.out.mono ?_; rintro e w2 ⟨a, c, rfl, -, t2⟩; have T2 := hid t2; clear t2)
      | (go_at_call 66; refine (HC.out _ T2.out).mono ?_; rintro e w3 ⟨rfl, t3⟩; have T3 := hid t3; clear t3))
    go_ret
    exact ⟨rfl, T3.out⟩
  | true =>
    rw [hc] at HC
    simp only [if_true]
    go_enter Tryz.func28, Tryz.ntmps28
    go_wp2_with (first
      | (go_at_call 14; refine HW.out.mono ?_; rintro e w2 ⟨a, c, rfl, -, t2⟩; have T2 := hid t2; clear t2)
      | (go_at_call 66; refine (HC.out _ T2.out).mono ?_; rintro e w3 ⟨rfl, t3⟩; have T3 := hid t3; clear t3))
    go_ret
    exact ⟨by go_num, T3.out⟩
end
end Go.Proofs.YtkfophlhpjbmgaaGreat
/- An act, a slice of acts and a configuration as arguments, opened; no conditions. -/
namespace Go.Proofs.YtkfophlhpjbmgaaGreat
open Go.ChangeShapes Go.WideShapes Go.ChangeAt Go.RowKit
set_option linter.unusedVariables false
theorem cl_yU16 : Tryz.prog.cellsOf 36 = 1 := by kernel_rfl
theorem cl_9 : Tryz.prog.cellsOf 9 = 1 := by kernel_rfl
theorem cl_3 : Tryz.prog.cellsOf 3 = 1 := by kernel_rfl
theorem cl_2 : Tryz.prog.cellsOf 2 = 1 := by kernel_rfl
theorem cl_KyA : Tryz.prog.cellsOf 38 = 2 := by kernel_rfl
structure KyA where
  sp : Int
  nm : ByteArray
def KyA.ok (a : KyA) : Prop := (Lit.int .u16 a.sp).wf = true ∧ a.nm.size ≤ maxLen
def KyA.cs (a : KyA) : Array Value := #[.int .u16 a.sp, .string a.nm]
set_option maxRecDepth 100000 in
theorem fields_KyA {H : Type} {enc : TypeId × Value → H} {W : World} {base fuel : Nat} {spare : Nat → Bool} {held : Bool} {cs : List Value} {x : DataW H × List MemPlace} (h : DataW.trod enc Tryz.prog W base spare held fuel 38 cs = some x) (hl : cs.length = 2) :
    ∃ a : KyA, cs = a.cs.toList ∧ a.ok := by
  obtain ⟨ys, k, hk, hxy, _, hyl, hfe⟩ := DataW.trod_struct Tryz.underlying38 h
  match cs, hl with
  | [v0, v1], _ =>
    have hy : ys.length = 2 := hyl
    match ys, hy with
    | [y0, y1], _ =>
      have g0 := hfe 0 _ rfl
      have g1 := hfe 1 _ rfl
      simp [cl_9, cl_yU16] at g0 g1
      obtain ⟨A0, e0, _, w0⟩ := DataW.trod_int Tryz.underlying36 g0
      obtain ⟨A1, e1, _, w1⟩ := DataW.trod_string Tryz.underlying9 g1
      simp only [List.cons.injEq, and_true] at e0 e1
      subst e0 e1
      exact ⟨⟨A0, A1⟩, rfl, w0, w1⟩
theorem cl_FaA : Tryz.prog.cellsOf 40 = 3 := by kernel_rfl
structure FaA where
  kd : Int
  cd : Int
  rn : Int
def FaA.ok (a : FaA) : Prop := W64 a.kd ∧ W64 a.cd ∧ W64 a.rn
def FaA.cs (a : FaA) : Array Value := #[.int .i64 a.kd, .int .i64 a.cd, .int .i64 a.rn]
set_option maxRecDepth 100000 in
theorem fields_FaA {H : Type} {enc : TypeId × Value → H} {W : World} {base fuel : Nat} {spare : Nat → Bool} {held : Bool} {cs : List Value} {x : DataW H × List MemPlace} (h : DataW.trod enc Tryz.prog W base spare held fuel 40 cs = some x) (hl : cs.length = 3) :
    ∃ a : FaA, cs = a.cs.toList ∧ a.ok := by
  obtain ⟨ys, k, hk, hxy, _, hyl, hfe⟩ := DataW.trod_struct Tryz.underlying40 h
  match cs, hl with
  | [v0, v1, v2], _ =>
    have hy : ys.length = 3 := hyl
    match ys, hy with
    | [y0, y1, y2], _ =>
      have g0 := hfe 0 _ rfl
      have g1 := hfe 1 _ rfl
      have g2 := hfe 2 _ rfl
      simp [cl_3] at g0 g1 g2
      obtain ⟨A0, e0, _, w0⟩ := DataW.trod_int Tryz.underlying3 g0
      obtain ⟨A1, e1, _, w1⟩ := DataW.trod_int Tryz.underlying3 g1
      obtain ⟨A2, e2, _, w2⟩ := DataW.trod_int Tryz.underlying3 g2
      simp only [List.cons.injEq, and_true] at e0 e1 e2
      subst e0 e1 e2
      exact ⟨⟨A0, A1, A2⟩, rfl, w0, w1, w2⟩
theorem cl_OuA : Tryz.prog.cellsOf 42 = 4 := by kernel_rfl
structure OuA where
  va : Int
  fl : FaA
def OuA.ok (a : OuA) : Prop := W64 a.va ∧ FaA.ok a.fl
def OuA.cs (a : OuA) : Array Value := #[.int .i64 a.va, .int .i64 a.fl.kd, .int .i64 a.fl.cd, .int .i64 a.fl.rn]
set_option maxRecDepth 100000 in
theorem fields_OuA {H : Type} {enc : TypeId × Value → H} {W : World} {base fuel : Nat} {spare : Nat → Bool} {held : Bool} {cs : List Value} {x : DataW H × List MemPlace} (h : DataW.trod enc Tryz.prog W base spare held fuel 42 cs = some x) (hl : cs.length = 4) :
    ∃ a : OuA, cs = a.cs.toList ∧ a.ok := by
  obtain ⟨ys, k, hk, hxy, _, hyl, hfe⟩ := DataW.trod_struct Tryz.underlying42 h
  match cs, hl with
  | [v0, v1, v2, v3], _ =>
    have hy : ys.length = 2 := hyl
    match ys, hy with
    | [y0, y1], _ =>
      have g0 := hfe 0 _ rfl
      have g1 := hfe 1 _ rfl
      simp [cl_2, cl_FaA] at g0 g1
      obtain ⟨A0, e0, _, w0⟩ := DataW.trod_int Tryz.underlying2 g0
      obtain ⟨A1, b1, w1⟩ := fields_FaA g1 rfl
      simp only [FaA.cs, List.cons.injEq, and_true] at b1
      obtain ⟨e1, e2, e3⟩ := b1
      simp only [List.cons.injEq, and_true] at e0
      subst e0 e1 e2 e3
      exact ⟨⟨A0, A1⟩, rfl, w0, w1⟩
set_option maxRecDepth 100000 in
theorem open_KyA {H : Type} {enc : TypeId × Value → H} {W : World} {b0 : Nat} {v : Value} {d : DataW H} {p : List MemPlace} (hv : Value.okWide Tryz.prog W .any b0 38 v) (h : DataW.Trod enc Tryz.prog W 0 (fun _ => true) true 38 v d p) : ∃ a : KyA, v = .agg a.cs ∧ a.ok := by
  obtain ⟨cs, rfl, hs⟩ := okWide_struct Tryz.underlying38 hv
  obtain ⟨fuel, hf⟩ := h
  rw [cl_KyA] at hs
  obtain ⟨cl⟩ := cs
  have hs' : cl.length = 2 := by simpa using hs
  obtain ⟨a, e, wa⟩ := fields_KyA (cs := cl) (by simpa [Value.cells] using hf) hs'
  subst e
  exact ⟨a, rfl, wa⟩
set_option maxRecDepth 100000 in
theorem open_OuA {H : Type} {enc : TypeId × Value → H} {W : World} {b0 : Nat} {v : Value} {d : DataW H} {p : List MemPlace} (hv : Value.okWide Tryz.prog W .any b0 42 v) (h : DataW.Trod enc Tryz.prog W 0 (fun _ => true) true 42 v d p) : ∃ a : OuA, v = .agg a.cs ∧ a.ok := by
  obtain ⟨cs, rfl, hs⟩ := okWide_struct Tryz.underlying42 hv
  obtain ⟨fuel, hf⟩ := h
  rw [cl_OuA] at hs
  obtain ⟨cl⟩ := cs
  have hs' : cl.length = 4 := by simpa using hs
  obtain ⟨a, e, wa⟩ := fields_OuA (cs := cl) (by simpa [Value.cells] using hf) hs'
  subst e
  exact ⟨a, rfl, wa⟩
set_option maxRecDepth 100000 in
theorem laidOut : laidOutB Tryz.prog = true := by kernel_rfl
def KyA.key (a : KyA) : K := (a.sp, a.nm)
def OuA.out (a : OuA) : O := (a.va, a.fl.kd, a.fl.cd, a.fl.rn)
end Go.Proofs.YtkfophlhpjbmgaaGreat
/- Ages as an argument, opened: two times and a slice of times; no conditions. -/
namespace Go.Proofs.YtkfophlhpjbmgaaGreat
open Go.ChangeShapes Go.WideShapes Go.ChangeAt Go.RowKit
set_option linter.unusedVariables false
theorem cl_Ag : Tryz.prog.cellsOf 104 = 3 := by kernel_rfl
theorem cl_At : Tryz.prog.cellsOf 102 = 1 := by kernel_rfl
def Rj (W : World) (v : Value) (xs : List Int) : Prop := ∃ a c, v = .slice a xs.length c ∧ (0 < xs.length → ∃ g off, a = some ⟨g, off, none⟩ ∧ g < W.heap.size ∧ ∀ i r, xs[i]? = some r → W.cell? ⟨g, off + i, none⟩ = some (.int .i64 r))
set_option maxRecDepth 100000 in
theorem fields_at {H : Type} {enc : TypeId × Value → H} {W : World} {base fuel : Nat} {spare : Nat → Bool} {held : Bool} {v : Value} {x : DataW H × List MemPlace} (hf : DataW.trod enc Tryz.prog W base spare held fuel 102 [v] = some x) (hheld : held = true) (hsp : ∀ n, spare n = true) :
    ∃ xs : List Int, Rj W v xs ∧ (∀ x ∈ xs, W64 x) ∧ (xs = [] ∨ ∃ es sp, x.1 = .slice es sp ∧ es.length = xs.length) := by
  rcases Deep.open_slice Tryz.underlying102 hf with ⟨hcs, _⟩ | ⟨x, l, c, m, n, D, Pl, hcs, _, hl, hm, hmm, hxx, hall⟩
  · simp at hcs
    subst hcs
    exact ⟨[], ⟨_, _, rfl, fun h => absurd h (Nat.lt_irrefl 0)⟩, fun x hx => by simp at hx, Or.inl rfl⟩
  · simp only [List.cons.injEq, and_true] at hcs
    subst hcs
    have hlm : l ≤ m := by rw [hmm]; split <;> omega
    rw [cl_2] at hall
    have each : ∀ i, i < m → ∃ q : Int, W.cell? (x.add i) = some (.int .i64 q) ∧ W64 q := fun i hi => by
      obtain ⟨cs', h1, h2⟩ := hall i hi
      obtain ⟨_, hlen, hcell⟩ := World.cells?_some h1
      match cs', hlen with
      | [v0], _ =>
        obtain ⟨q, e, _, w1⟩ := DataW.trod_int Tryz.underlying2 h2
        simp only [List.cons.injEq, and_true] at e
        subst e
        have e0 := hcell 0 (by omega)
        rw [Deep.add_add] at e0
        exact ⟨q, by simpa using e0, w1⟩
    haveI : Inhabited Int := ⟨0⟩
    obtain ⟨q, hq⟩ := Deep.choose_lt each
    rcases Nat.eq_zero_or_pos l with e | e
    · subst e
      exact ⟨[], ⟨_, _, rfl, fun h => absurd h (Nat.lt_irrefl 0)⟩, fun x hx => by simp at hx, Or.inl rfl⟩
    · have hsp : x.spot = none := by
        have h0 := (hq 0 (by omega)).1
        rw [show x.add 0 = x by simp [Addr.add]] at h0
        unfold World.cell? at h0
        split at h0
        · split at h0
          · cases h0
          · rename_i hs
            cases hh : x.spot with
            | none => rfl
            | some z => rw [hh] at hs; exact absurd rfl hs
        · cases h0
      obtain ⟨b, off, r⟩ := x
      obtain rfl : r = none := hsp
      have hlen : ((List.range l).map q).length = l := by simp
      have hadd : ∀ i, ((⟨b, off, none⟩ : Addr).add i) = ⟨b, off + i, none⟩ := fun i => by simp [Addr.add]
      refine ⟨(List.range l).map q, ⟨some ⟨b, off, none⟩, c, by rw [hlen], fun _ => ⟨b, off, rfl, ?_, fun i r hi => ?_⟩⟩, fun y hy => ?_, Or.inr ⟨_, _, by rw [hxx], by simp⟩⟩
      · rcases Nat.lt_or_ge b W.heap.size with h | h
        · exact h
        · have h0 := (hq 0 (by omega)).1
          simp [World.cell?, hadd, Array.getElem?_eq_none h] at h0
      · have hi' := (List.getElem?_eq_some_iff.1 hi).1
        rw [hlen] at hi'
        have h0 := (hq i (by omega)).1
        simp [hi'] at hi
        subst hi
        rw [hadd] at h0
        exact h0
      · simp only [List.mem_map, List.mem_range] at hy
        obtain ⟨i, hi, rfl⟩ := hy
        exact (hq i (by omega)).2
structure AgA where
  t : Int
  s : Int
  u : Value
  xs : List Int
def AgA.cs (a : AgA) : Array Value := #[.int .i64 a.t, .int .i64 a.s, a.u]
set_option maxRecDepth 100000 in
theorem open_AgA {H : Type} {enc : TypeId × Value → H} {W : World} {b0 : Nat} {v : Value} {d : DataW H} {p : List MemPlace} (hv : Value.okWide Tryz.prog W .any b0 104 v) (h : DataW.Trod enc Tryz.prog W 0 (fun _ => true) true 104 v d p) : ∃ a : AgA, v = .agg a.cs ∧ Rj W a.u a.xs ∧ (a.xs = [] ∨ ∃ d0 d1 es sp, d = .agg [d0, d1, .slice es sp] ∧ es.length = a.xs.length) := by
  obtain ⟨cs, rfl, hs⟩ := okWide_struct Tryz.underlying104 hv
  obtain ⟨fuel, hf⟩ := h
  rw [cl_Ag] at hs
  obtain ⟨cl⟩ := cs
  have hs' : cl.length = 3 := by simpa using hs
  have hf' : DataW.trod enc Tryz.prog W 0 (fun _ => true) true fuel 104 cl = some (d, p) := by simpa [Value.cells] using hf
  obtain ⟨ys, k, hk, hxy, _, hyl, hfe⟩ := DataW.trod_struct Tryz.underlying104 hf'
  match cl, hs' with
  | [v0, v1, v2], _ =>
    have hy : ys.length = 3 := hyl
    match ys, hy with
    | [y0, y1, y2], _ =>
      have g0 := hfe 0 _ rfl
      have g1 := hfe 1 _ rfl
      have g2 := hfe 2 _ rfl
      simp [cl_2, cl_At] at g0 g1 g2
      obtain ⟨A0, e0, _, w0⟩ := DataW.trod_int Tryz.underlying2 g0
      obtain ⟨A1, e1, _, w1⟩ := DataW.trod_int Tryz.underlying2 g1
      simp only [List.cons.injEq, and_true] at e0 e1
      subst e0 e1
      obtain ⟨xs, r, wx, hl⟩ := fields_at g2 rfl (fun _ => rfl)
      refine ⟨⟨A0, A1, v2, xs⟩, rfl, r, ?_⟩
      rcases hl with hl | ⟨es, sp, e, e2⟩
      · exact Or.inl hl
      · refine Or.inr ⟨y0.1, y1.1, es, sp, ?_, e2⟩
        have := congrArg Prod.fst hxy
        simp only [List.map_cons, List.map_nil] at this
        rw [this, e]
end Go.Proofs.YtkfophlhpjbmgaaGreat
/- What the law of stale values calls, step by step; no conditions but those that each states. -/
namespace Go.Proofs.YtkfophlhpjbmgaaGreat
open Go.RowKit Go.Maps Go.ChangeMaps
set_option maxRecDepth 100000
set_option linter.unusedVariables false
set_option linter.unusedSimpArgs false
theorem band (x : Int) : 0 ≤ bits .and .i64 x 1023 ∧ bits .and .i64 x 1023 ≤ 1023 ∧ 0 ≤ bits .and .i64 x 255 ∧ bits .and .i64 x 255 ≤ 255 := by
  have h1 : (BitVec.ofInt 64 x &&& BitVec.ofInt 64 1023).toNat ≤ 1023 := by rw [BitVec.toNat_and]; exact Nat.le_trans Nat.and_le_right (by decide)
  have h2 : (BitVec.ofInt 64 x &&& BitVec.ofInt 64 255).toNat ≤ 255 := by rw [BitVec.toNat_and]; exact Nat.le_trans Nat.and_le_right (by decide)
  have e1 : bits .and .i64 x 1023 = IntKind.i64.wrap ((BitVec.ofInt 64 x &&& BitVec.ofInt 64 1023).toNat : Int) := rfl
  have e2 : bits .and .i64 x 255 = IntKind.i64.wrap ((BitVec.ofInt 64 x &&& BitVec.ofInt 64 255).toNat : Int) := rfl
  rw [e1, e2]
  generalize (BitVec.ofInt 64 x &&& BitVec.ofInt 64 1023).toNat = p at *
  generalize (BitVec.ofInt 64 x &&& BitVec.ofInt 64 255).toNat = q at *
  have f1 : IntKind.i64.wrap (p : Int) = p := by simp [IntKind.wrap, IntKind.bits, IntKind.signed, IntKind.min, IntKind.max]; omega
  have f2 : IntKind.i64.wrap (q : Int) = q := by simp [IntKind.wrap, IntKind.bits, IntKind.signed, IntKind.min, IntKind.max]; omega
  rw [f1, f2]
  omega
def Sg (w w1 : World) (g : Nat) (P : Pt) (X : Gp) (N : Cn) : Prop := ∃ F, Gq w1 g P F X N ∧ Touch [] w w1 ∧ ∀ k, k ∈ F → w.heap.size ≤ k
theorem Sg.go {w w1 : World} {g : Nat} {P : Pt} {X : Gp} {N : Cn} (h : Sg w w1 g P X N) : ∃ F, Gq w1 g P F X N ∧ ∀ w2 Y M, GqE w1 w2 g P F Y M → Sg w w2 g P Y M ∧ Keeps w1 w2 := by
  obtain ⟨F, q, t, f⟩ := h
  refine ⟨F, q, fun w2 Y M hE => ⟨?_, GqE.keeps q hE⟩⟩
  obtain ⟨F', a, b, c⟩ := hE.fresh t f
  exact ⟨F', a, b, c⟩
theorem Sg.keep0 {w w1 w2 : World} {g : Nat} {P : Pt} {X : Gp} {N : Cn} (h : Sg w w1 g P X N) (T : Touch [] w1 w2) : Sg w w2 g P X N := by
  obtain ⟨F, q, t, f⟩ := h
  exact ⟨F, q.keep0 T, t.trans' T, f⟩
theorem Sg.tch {w w1 : World} {g : Nat} {P : Pt} {X : Gp} {N : Cn} (h : Sg w w1 g P X N) : Touch [] w w1 := by
  obtain ⟨F, q, t, f⟩ := h
  exact t
def Cn.lt (N : Cn) (m : Nat) : Prop := N.t ≤ m ∧ N.b ≤ m ∧ N.s ≤ m
theorem joC_le (X : Gp) (n : Int) (k : K) (x t : Int) (N : Cn) {m : Nat} (h : N.lt m) : (joC X n k x t N).lt (m + 2) := by
  obtain ⟨h1, h2, h3⟩ := h
  have hm : ∀ (Y : Gp) (r : Int), (meeC Y k r N).t ≤ m + 1 ∧ (meeC Y k r N).b ≤ m + 1 ∧ (meeC Y k r N).s ≤ m := fun Y r => by
    unfold meeC renC
    split
    · split
      · exact ⟨by omega, by omega, by omega⟩
      · split <;> exact ⟨by simp only; omega, by simp only; omega, by simp only; omega⟩
    · exact ⟨by omega, by omega, by omega⟩
  unfold joC
  split
  · exact ⟨by omega, by omega, by omega⟩
  · split
    · obtain ⟨a, b, c⟩ := hm { X with now := n } (seenOf { X with now := n } k).1
      exact ⟨by omega, by omega, by omega⟩
    · obtain ⟨a, b, c⟩ := hm { X with now := n } (seenOf { X with now := n } k).1
      unfold waiC
      split
      · exact ⟨by simp only; omega, by simp only; omega, by simp only; omega⟩
      · split <;> exact ⟨by simp only; omega, by simp only; omega, by simp only; omega⟩
theorem edC_le (X : Gp) (n r : Int) (o : O) (N : Cn) {m : Nat} (h : N.lt m) : (edC X n r o N).lt (m + 1) := by
  obtain ⟨h1, h2, h3⟩ := h
  have := edG_len X n r o
  unfold edC
  split
  · exact ⟨by omega, by omega, by omega⟩
  · split <;> exact ⟨by (try simp only); omega, by (try simp only); omega, by (try simp only); omega⟩
structure Bst (w w' : World) (a : AgA) (k : KyA) (o : OuA) : Prop where
  a : w'.heap[w.heap.size]? = some (.cells a.cs 104 (0, 0))
  k : w'.heap[w.heap.size + 1]? = some (.cells k.cs 38 (0, 0))
  o : w'.heap[w.heap.size + 2]? = some (.cells o.cs 42 (0, 0))
theorem Bst.keep {w w1 w2 : World} {a : AgA} {k : KyA} {o : OuA} (h : Bst w w1 a k o) (hk : Keeps w1 w2) : Bst w w2 a k o := ⟨hk _ _ _ _ (by decide) h.a, hk _ _ _ _ (by decide) h.k, hk _ _ _ _ (by decide) h.o⟩
section
variable {w : World} {g : Nat} {P : Pt} {X : Gp} {N : Cn} {a : AgA} {ky : KyA} {ou : OuA}
theorem s_join {w1 : World} (h : Sg w w1 g P X N) (hg : Gt X) (n : Int) (k : K) (hk : Ok k) {x : Int} (hx : W64 x) (hN : N.lt 100) : Calls Tryz.prog 12 #[PT g, .int .i64 n, kv k, .int .i64 x, .int .i64 0] w1 fun e w2 => ∃ b m c, e = .returned (.tuple #[jv (joJ X n k x 0) (.slice b m c), .int .i64 (mayE X n k x 0)]) ∧ Sg w w2 g P (joX X n k x 0) (joC X n k x 0 N) ∧ Keeps w1 w2 := by
  obtain ⟨F, q, s⟩ := h.go
  obtain ⟨h1, h2, h3⟩ := hN
  refine (join_ q hg n k hk hx (W64.mk (by omega) (by omega)) (by omega) (by omega) (by omega)).mono ?_
  rintro e w2 ⟨v, e1, e2, e3⟩
  obtain ⟨b, m, c, rfl⟩ := e2.2
  exact ⟨b, m, c, e1, s _ _ _ e3⟩
theorem s_end {w1 : World} (h : Sg w w1 g P X N) (n : Int) {r : Int} (hr : W64 r) (o : O) (hN : N.lt 100) : Calls Tryz.prog 13 #[PT g, .int .i64 n, .int .i64 r, Me.ov o] w1 fun e w2 => ∃ ta tc ga gm gc la lm lc, e = .returned (.tuple #[.agg (dcs (edD X n r o) (.slice ta (edD X n r o).told.length tc) (.slice ga gm gc) (.slice la lm lc)), .int .i64 (edE X n r o)]) ∧ Sg w w2 g P (edX X n r o) (edC X n r o N) ∧ Keeps w1 w2 := by
  obtain ⟨F, q, s⟩ := h.go
  obtain ⟨h1, h2, h3⟩ := hN
  refine (end_ q n hr o (by omega) (by omega)).mono ?_
  rintro e w2 ⟨tv, gv, lv, e1, e2, e3⟩
  obtain ⟨ta, tc, rfl, _⟩ := e2.t
  obtain ⟨ga, gc, rfl, _⟩ := e2.g.form
  obtain ⟨la, lm, lc, rfl⟩ := e2.l.2
  exact ⟨ta, tc, ga, _, gc, la, lm, lc, e1, s _ _ _ e3⟩
end
theorem eq5 (w : World) : (binOp .neq 42 (.agg #[.int .i64 5, .int .i64 0, .int .i64 0, .int .i64 0]) (.agg #[.int .i64 5, .int .i64 0, .int .i64 0, .int .i64 0])).run Tryz.prog w = .ok (.bool false) w := by kernel_rfl
theorem eqOO (w : World) (p q r s : Int) : (binOp .eql 42 (.agg #[.int .i64 p, .int .i64 q, .int .i64 r, .int .i64 s]) (.agg #[.int .i64 p, .int .i64 q, .int .i64 r, .int .i64 s])).run Tryz.prog w = .ok (.bool true) w := by go_simp
end Go.Proofs.YtkfophlhpjbmgaaGreat
/- The law of stale values; no conditions but that the arguments are times, keys and outcomes. -/
namespace Go.Proofs.YtkfophlhpjbmgaaGreat
open Go.RowKit Go.Maps Go.ChangeMaps
set_option maxRecDepth 100000
set_option linter.unusedVariables false
set_option linter.unusedSimpArgs false
def Lst (w wr : World) (g : Nat) (P : Pt) (t s : Int) (k : K) (now rf : Int) : Prop := (rf = 0 ∧ ∃ B N, N.lt 20 ∧ Sg w wr g P (sT (cS t s) k o5 0 now 1 [] B) N) ∨ (rf = 2 ∧ t ≤ now ∧ ∃ B N, N.lt 22 ∧ Sg w wr g P (sT (cS t s) k o5 0 now 2 [(rn 2 k true, Ta.S0 (rn 2 k true) 0)] B) N)
theorem Lst.keep0 {w w1 w2 : World} {g : Nat} {P : Pt} {t s : Int} {k : K} {now rf : Int} (h : Lst w w1 g P t s k now rf) (T : Touch [] w1 w2) : Lst w w2 g P t s k now rf := by
  rcases h with ⟨e, B, N, hN, q⟩ | ⟨e, e2, B, N, hN, q⟩
  · exact Or.inl ⟨e, B, N, hN, q.keep0 T⟩
  · exact Or.inr ⟨e, e2, B, N, hN, q.keep0 T⟩
theorem how5 (t s n : Int) : Me.howC (cS t s) o5 n = if n < t then 1 else if n < t + s then 2 else 3 := by
  unfold Me.howC cS o5
  rfl
theorem lst_join {w w1 : World} {g : Nat} {P : Pt} {t s : Int} {k : K} {now rf n x : Int} (h : Lst w w1 g P t s k now rf) (hk : Ok k) (h64 : k.2.size ≤ 64) (h0 : 0 ≤ now) (h1 : now ≤ n) (h2 : n < t + s) (h3 : n ≤ 3000) (hx1 : 1 ≤ x) (hx : W64 x) :
    Calls Tryz.prog 12 #[PT g, .int .i64 n, kv k, .int .i64 x, .int .i64 0] w1 fun e w2 => ∃ how run bg b m c rf', e = .returned (.tuple #[.agg #[.int .i64 how, .int .i64 run, .bool bg, .int .i64 5, .int .i64 0, .int .i64 0, .int .i64 0, .slice b m c], .int .i64 0]) ∧ ((n < t ∧ how = 1 ∧ rf' = rf) ∨ (t ≤ n ∧ how = 2 ∧ run = 2 ∧ bg = decide (rf = 0) ∧ rf' = 2)) ∧ Lst w w2 g P t s k n rf' ∧ Keeps w1 w2 := by
  rcases h with ⟨e, B, N, hN, q⟩ | ⟨e, e2, B, N, hN, q⟩
  · have hg : Gt (sT (cS t s) k o5 0 now 1 [] B) := ⟨Int.le_refl _, h0, by simp only [sT]; omega⟩
    have hN' : N.lt 100 := ⟨by have := hN.1; omega, by have := hN.2.1; omega, by have := hN.2.2; omega⟩
    refine (s_join q hg n k hk hx hN').mono ?_
    rintro e' w2 ⟨b, m, c, rfl, q2, k2⟩
    by_cases ht : n < t
    · obtain ⟨m1, m2, m3, m4⟩ := hitJ (t := t) (s := s) (k := k) (o := o5) (at' := 0) (now := now) (n := n) (bg := 1) (x := x) (rs := []) (B := B) h64 h0 h1 (by omega) hx1 (by rw [how5, if_pos (by omega)])
      rw [m3, m4] at q2
      rw [m1, m2]
      exact ⟨1, 0, false, b, m, c, rf, rfl, Or.inl ⟨ht, rfl, rfl⟩, Or.inl ⟨e, B, N, hN, q2⟩, k2⟩
    · obtain ⟨m1, ⟨l, m2⟩, ⟨B', m3⟩, m4⟩ := staleJ (t := t) (s := s) (k := k) (o := o5) (at' := 0) (now := now) (n := n) (bg := 1) (x := x) (B := B) h64 h0 h1 (by omega) hx1 (by rw [how5, if_neg (by omega), if_pos (by omega)])
      rw [m3, m4] at q2
      rw [m1, m2]
      refine ⟨2, 2, true, b, m, c, 2, rfl, Or.inr ⟨by omega, rfl, rfl, by rw [e]; rfl, rfl⟩, Or.inr ⟨rfl, by omega, B', _, ⟨?_, ?_, ?_⟩, q2⟩, k2⟩
      · have := hN.1; simp only; omega
      · have := hN.2.1; simp only; omega
      · have := hN.2.2; simp only; omega
  · have hg : Gt (sT (cS t s) k o5 0 now 2 [(rn 2 k true, Ta.S0 (rn 2 k true) 0)] B) := ⟨Int.le_refl _, h0, by simp only [sT]; omega⟩
    have hN' : N.lt 100 := ⟨by have := hN.1; omega, by have := hN.2.1; omega, by have := hN.2.2; omega⟩
    refine (s_join q hg n k hk hx hN').mono ?_
    rintro e' w2 ⟨b, m, c, rfl, q2, k2⟩
    obtain ⟨m1, m2, m3, m4⟩ := staleK (t := t) (s := s) (k := k) (o := o5) (at' := 0) (now := now) (n := n) (bg := 2) (b := 2) (x := x) (B := B) (S := Ta.S0 (rn 2 k true) 0) h64 h0 h1 (by omega) hx1 (by rw [how5, if_neg (by omega), if_pos (by omega)])
    rw [m3, m4] at q2
    rw [m1, m2]
    exact ⟨2, 2, false, b, m, c, 2, rfl, Or.inr ⟨by omega, rfl, rfl, by rw [e]; rfl, rfl⟩, Or.inr ⟨rfl, by omega, B, N, hN, q2⟩, k2⟩
theorem runOf2 (k : K) (S : Ta.St) : Ta.runOf (tN 2 [(rn 2 k true, S)]) 2 = some (rn 2 k true, S) := by simp [Ta.runOf, tN, rn]
theorem lst_ask {w w1 : World} {g : Nat} {P : Pt} {t s : Int} {k : K} {now : Int} (h : Lst w w1 g P t s k now 2) : (Calls Tryz.prog 27 #[PT g, .int .i64 2] w1 fun e w2 => e = .returned (.bool false) ∧ Touch [] w1 w2) ∧ (Calls Tryz.prog 28 #[PT g, .int .i64 2] w1 fun e w2 => e = .returned (.int .i64 1) ∧ Touch [] w1 w2) ∧ (Calls Tryz.prog 14 #[PT g, .int .i64 2] w1 fun e w2 => (∃ a c, e = .returned (.slice a 0 c)) ∧ Touch [] w1 w2) := by
  rcases h with ⟨e, _⟩ | ⟨-, -, B, N, hN, F, q, -, -⟩
  · omega
  have hr := runOf2 k (Ta.S0 (rn 2 k true) 0)
  have hT : (sT (cS t s) k o5 0 now 2 [(rn 2 k true, Ta.S0 (rn 2 k true) 0)] B).T = tN 2 [(rn 2 k true, Ta.S0 (rn 2 k true) 0)] := rfl
  have hw : Ta.whoOf (tN 2 [(rn 2 k true, Ta.S0 (rn 2 k true) 0)]) 2 = [] := by unfold Ta.whoOf; rw [hr]; rfl
  have hc : Ta.cancOf (tN 2 [(rn 2 k true, Ta.S0 (rn 2 k true) 0)]) 2 = false := by unfold Ta.cancOf; rw [hr]; rfl
  have hn : cntB (sT (cS t s) k o5 0 now 2 [(rn 2 k true, Ta.S0 (rn 2 k true) 0)] B) 2 = true := by
    unfold cntB
    rw [hT]
    have h1 : Ta.rnOf (tN 2 [(rn 2 k true, Ta.S0 (rn 2 k true) 0)]) 2 = rn 2 k true := by unfold Ta.rnOf; rw [hr]
    have h2 : Ta.curBy (tN 2 [(rn 2 k true, Ta.S0 (rn 2 k true) 0)]) 2 = true := by unfold Ta.curBy; rw [hr]; simp [Ta.isCur, tN, rn]
    rw [h1, h2, kOf_rn]
    have h3 : Me.fnd (sT (cS t s) k o5 0 now 2 [(rn 2 k true, Ta.S0 (rn 2 k true) 0)] B).en k = some (o5, 0) := fndS k (o5, 0)
    rw [h3]
    rfl
  have hN' : N.t ≤ 3000000000000 := by have := hN.1; omega
  refine ⟨?_, ?_, ?_⟩
  · refine (canc_q q hN' (W64.mk (by omega) (by omega))).mono ?_
    rintro e w2 ⟨rfl, t2⟩
    rw [hT, hc]
    exact ⟨rfl, t2⟩
  · refine (int_q q hN' (W64.mk (by omega) (by omega)) (by rw [hT, hw]; simp)).mono ?_
    rintro e w2 ⟨rfl, t2⟩
    rw [hn, hT, hw]
    exact ⟨rfl, t2⟩
  · refine (waiters_q q hN' (W64.mk (by omega) (by omega))).mono ?_
    rintro e w2 ⟨a, c, rfl, -, t2⟩
    rw [hT, hw]
    exact ⟨⟨a, c, rfl⟩, t2⟩
theorem lst_prog {w w1 : World} {g : Nat} {P : Pt} {t s : Int} {k : K} {now : Int} (h : Lst w w1 g P t s k now 0) : Calls Tryz.prog 16 #[PT g] w1 fun e w2 => (∃ a c, e = .returned (.slice a 0 c)) ∧ Touch [] w w2 := by
  rcases h with ⟨-, B, N, hN, F, q, t1, f1⟩ | ⟨e, _⟩
  · refine (prog_q q (by have := hN.1; omega)).mono ?_
    rintro e w2 ⟨a, c, rfl, -, t2⟩
    exact ⟨⟨a, c, rfl⟩, t1.trans' t2⟩
  · omega
structure Ed2 (o : O) (E : Int) (cur kep : Bool) (tl : Nat) (how run : Int) (bg : Bool) (jo : O) : Prop where
  a : E = 0 ∨ E = 30
  b : E = 0 → cur = true ∧ tl = 0 ∧ ((Me.nonF o.2.1 o.2.2.1 o.2.2.2 = true ∧ kep = true ∧ how = 1 ∧ jo = o ∧ bg = false) ∨ (Me.nonF o.2.1 o.2.2.1 o.2.2.2 = false ∧ kep = false ∧ how = 2 ∧ jo = o5 ∧ bg = true ∧ run = 3))
theorem lst_end {w w1 : World} {g : Nat} {P : Pt} {t s : Int} {k : K} {now : Int} (h : Lst w w1 g P t s k now 2) (ht : 1 ≤ t) (hk : Ok k) (h64 : k.2.size ≤ 64) (h0 : 0 ≤ now) (h2 : now < t + s) (h3 : now ≤ 3000) (o : O) :
    Calls Tryz.prog 13 #[PT g, .int .i64 now, .int .i64 2, Me.ov o] w1 fun e w2 => ∃ (E : Int) (cur kep : Bool) (tl : Nat) (how run : Int) (bg : Bool) (jo : O), Ed2 o E cur kep tl how run bg jo ∧ (∃ R : Ta.Rn, ∃ ta tc ga gm gc la lm lc, e = .returned (.tuple #[.agg #[.int .i64 R.run, .int .u16 R.sp, .string R.nm, .int .i64 R.gen, .bool R.rf, .slice ta tl tc, .bool cur, .bool kep, .slice ga gm gc, .slice la lm lc], .int .i64 E])) ∧ Touch [] w w2 ∧ Keeps w1 w2 ∧ (E = 0 → ∀ w3 x, Touch [] w2 w3 → 1 ≤ x → W64 x → Calls Tryz.prog 12 #[PT g, .int .i64 now, kv k, .int .i64 x, .int .i64 0] w3 fun e w4 => (∃ b m c, e = .returned (.tuple #[.agg #[.int .i64 how, .int .i64 run, .bool bg, .int .i64 jo.1, .int .i64 jo.2.1, .int .i64 jo.2.2.1, .int .i64 jo.2.2.2, .slice b m c], .int .i64 0])) ∧ Touch [] w w4 ∧ Keeps w3 w4) := by
  rcases h with ⟨e, _⟩ | ⟨-, htn, B, N, hN, q⟩
  · omega
  have hN' : N.lt 100 := ⟨by have := hN.1; omega, by have := hN.2.1; omega, by have := hN.2.2; omega⟩
  have hM : (edC (sT (cS t s) k o5 0 now 2 [(rn 2 k true, Ta.S0 (rn 2 k true) 0)] B) now 2 o N).lt 100 := by
    have := edC_le (sT (cS t s) k o5 0 now 2 [(rn 2 k true, Ta.S0 (rn 2 k true) 0)] B) now 2 o N hN
    exact ⟨by have := this.1; omega, by have := this.2.1; omega, by have := this.2.2; omega⟩
  refine (s_end q now (W64.mk (by omega) (by omega)) o hN').mono ?_
  rintro e w2 ⟨ta, tc, ga, gm, gc, la, lm, lc, rfl, q2, k2⟩
  obtain ⟨D, hD⟩ : ∃ D, D = edD (sT (cS t s) k o5 0 now 2 [(rn 2 k true, Ta.S0 (rn 2 k true) 0)] B) now 2 o := ⟨_, rfl⟩
  rw [← hD]
  by_cases hr : Me.right o = true
  · by_cases hz : o.2.1 = 0
    · obtain ⟨e1, e2, e3, e4, e5⟩ := endV (t := t) (s := s) (k := k) (o := o) (o' := o5) (now := now) (bg := 2) (b := 2) (B := B) ht h64 h0 (by omega) hr hz
      rw [e2] at q2
      rw [← hD] at e3 e4 e5
      have hnf : Me.nonF o.2.1 o.2.2.1 o.2.2.2 = true := by
        have := (Me.right_none hr).1 hz
        simp only [Prod.mk.injEq] at this
        rw [this.1, this.2.1, this.2.2]
        rfl
      refine ⟨0, true, true, 0, 1, 0, false, o, ⟨Or.inl rfl, fun _ => ⟨rfl, rfl, Or.inl ⟨hnf, rfl, rfl, rfl, rfl⟩⟩⟩, ⟨D.R, ta, tc, ga, gm, gc, la, lm, lc, ?_⟩, q2.tch, k2, fun _ w3 x t3 hx1 hx => ?_⟩
      · unfold dcs
        rw [e1, e3, e4, e5]
        rfl
      · have hg : Gt (sT (cS t s) k o now now 2 [] B) := ⟨Int.le_refl _, h0, by simp only [sT]; omega⟩
        refine (s_join (q2.keep0 t3) hg now k hk hx hM).mono ?_
        rintro e w4 ⟨b, m, c, rfl, q4, k4⟩
        obtain ⟨m1, m2, m3, m4⟩ := hitJ (t := t) (s := s) (k := k) (o := o) (at' := now) (now := now) (n := now) (bg := 2) (x := x) (rs := []) (B := B) h64 h0 (Int.le_refl _) (by omega) hx1 (by
          unfold Me.howC cS
          simp only
          rw [if_pos hz, if_pos (by omega)])
        rw [m1, m2]
        exact ⟨⟨b, m, c, rfl⟩, q4.tch, k4⟩
    · obtain ⟨e1, e2, e3, e4, e5⟩ := endW (t := t) (s := s) (k := k) (o := o) (o' := o5) (at' := 0) (now := now) (bg := 2) (b := 2) (B := B) h0 (by omega) hr hz
      rw [e2] at q2
      rw [← hD] at e3 e4 e5
      have hnf : Me.nonF o.2.1 o.2.2.1 o.2.2.2 = false := by
        unfold Me.nonF
        rw [decide_eq_false hz]
        rfl
      refine ⟨0, true, false, 0, 2, 3, true, o5, ⟨Or.inl rfl, fun _ => ⟨rfl, rfl, Or.inr ⟨hnf, rfl, rfl, rfl, rfl, rfl⟩⟩⟩, ⟨D.R, ta, tc, ga, gm, gc, la, lm, lc, ?_⟩, q2.tch, k2, fun _ w3 x t3 hx1 hx => ?_⟩
      · unfold dcs
        rw [e1, e3, e4, e5]
        rfl
      · have hg : Gt (sT (cS t s) k o5 0 now 2 [] B) := ⟨Int.le_refl _, h0, by simp only [sT]; omega⟩
        refine (s_join (q2.keep0 t3) hg now k hk hx hM).mono ?_
        rintro e w4 ⟨b, m, c, rfl, q4, k4⟩
        obtain ⟨m1, ⟨l, m2⟩, -, -⟩ := staleJ (t := t) (s := s) (k := k) (o := o5) (at' := 0) (now := now) (n := now) (bg := 2) (x := x) (B := B) h64 h0 (Int.le_refl _) (by omega) hx1 (by rw [how5, if_neg (by omega), if_pos (by omega)])
        rw [m1, m2]
        exact ⟨⟨b, m, c, rfl⟩, q4.tch, k4⟩
  · have hr' : Me.right o = false := by simpa using hr
    have e1 := endN (t := t) (s := s) (k := k) (o := o) (o' := o5) (at' := 0) (now := now) (bg := 2) (b := 2) (B := B) h0 (by omega) hr'
    refine ⟨30, false, false, 0, 0, 0, false, o5, ⟨Or.inr rfl, fun e => by omega⟩, ⟨Rz, ta, tc, ga, gm, gc, la, lm, lc, ?_⟩, q2.tch, k2, fun e => by omega⟩
    have hd : edD (sT (cS t s) k o5 0 now 2 [(rn 2 k true, Ta.S0 (rn 2 k true) 0)] B) now 2 o = Dn.z := by unfold edD; rw [e1]; rfl
    rw [hD, hd, e1]
    rfl
end Go.Proofs.YtkfophlhpjbmgaaGreat
/- The law of stale values, walked; no conditions but that the arguments are times, keys and outcomes. -/
namespace Go.Proofs.YtkfophlhpjbmgaaGreat
open Go.RowKit Go.Maps Go.ChangeMaps
set_option maxRecDepth 100000
set_option linter.unusedVariables false
set_option linter.unusedSimpArgs false
theorem key_ok {k : KyA} (h : k.ok) : Ok k.key := h
theorem Rj.keep {W W' : World} {v : Value} {xs : List Int} (h : Rj W v xs) (T : Touch [] W W') : Rj W' v xs := by
  obtain ⟨a, c, e, h1⟩ := h
  refine ⟨a, c, e, fun hp => ?_⟩
  obtain ⟨g, off, e2, hg, hc⟩ := h1 hp
  refine ⟨g, off, e2, Nat.lt_of_lt_of_le hg T.size, fun i r hi => ?_⟩
  have := T.block g hg (by simp)
  have h2 := hc i r hi
  unfold World.cell? at *
  rw [this]
  exact h2
set_option maxHeartbeats 32000000 in
theorem stale_law (w : World) (a : AgA) (k : KyA) (ou : OuA) (hat : Rj w a.u a.xs) (hlen : a.xs.length ≤ 17592186043904) (hk : k.ok) : Calls Tryz.prog 6 #[.agg a.cs, .agg k.cs, .agg ou.cs] w fun e w' => e = .returned (.bool true) ∧ Touch [] w w' := by
  obtain ⟨V, hV⟩ : ∃ V, V = ((w.alloc (.cells a.cs 104)).alloc (.cells k.cs 38)).alloc (.cells ou.cs 42) := ⟨_, rfl⟩
  have tv : Touch [] w V := by rw [hV]; exact (((Touch.refl _ _).alloc _).alloc _).alloc _
  have hb : Bst w V a k ou := by
    constructor
    · rw [hV]; exact (((Touch.refl [] _).alloc _).alloc _).keep (heap_alloc_new w _) (by simp)
    · rw [hV]
      have := heap_alloc_new (w.alloc (.cells a.cs 104)) (.cells k.cs 38)
      rw [World.size_alloc] at this
      exact ((Touch.refl [] _).alloc _).keep this (by simp)
    · rw [hV]
      have := heap_alloc_new ((w.alloc (.cells a.cs 104)).alloc (.cells k.cs 38)) (.cells ou.cs 42)
      rwa [World.size_alloc, World.size_alloc] at this
  obtain ⟨b1, b2, -, -⟩ := band a.t
  obtain ⟨b3, b4, -, -⟩ := band a.s
  obtain ⟨bt, hbt⟩ : ∃ bt, bt = bits .and .i64 a.t 1023 := ⟨_, rfl⟩
  obtain ⟨s, hs⟩ : ∃ s, s = bits .and .i64 a.s 1023 := ⟨_, rfl⟩
  rw [← hbt] at b1 b2
  rw [← hs] at b3 b4
  obtain ⟨t, ht⟩ : ∃ t, t = 1 + bt := ⟨_, rfl⟩
  have ht1 : 1 ≤ t := by omega
  have ht2 : t ≤ 1024 := by omega
  have HB1 : Hid (t = 1 + bits .and .i64 a.t 1023 ∧ s = bits .and .i64 a.s 1023) := hid ⟨by rw [ht, hbt], hs⟩
  have hokc : Me.okC (cS t s) = true := by unfold Me.okC cS; simp; omega
  have HN : Hid (∀ w1, Touch [] w w1 → Bst w w1 a k ou → Calls Tryz.prog 8 #[Me.cv (cS t s)] w1 fun e w2 => ∃ g P, e = .returned (.tuple #[PT g, .int .i64 0]) ∧ Sg w w2 g P (G0 (cS t s) 0 []) C0 ∧ Bst w w2 a k ou) := hid (fun w1 T B => by
    refine (new_ w1 (cS t s) hokc ⟨by simp only [cS]; omega, by simp [cS], by simp only [cS]; omega, by simp [cS]⟩).mono ?_
    rintro e w2 ⟨g, rfl, P, F, q1, q2, q3⟩
    exact ⟨g, P, rfl, ⟨F, q1, T.trans' q2, fun k hk => (q3 k hk).elim (fun e => by cases e) (fun e => Nat.le_trans T.size e)⟩, B.keep q2.keeps⟩)
  have HAw : Hid (∀ w1 g P X N, Sg w w1 g P X N → Bst w w1 a k ou → Calls Tryz.prog 9 #[] w1 fun e w2 => e = .returned (.bool true) ∧ Sg w w2 g P X N ∧ Bst w w2 a k ou) := hid (fun w1 g P X N h B => (awake_ w1).mono (fun e w2 hh => ⟨hh.1, h.keep0 hh.2, B.keep hh.2.keeps⟩))
  have HJ1 : Hid (k.nm.size ≤ 64 → ∀ w1 g P, Sg w w1 g P (G0 (cS t s) 0 []) C0 → Bst w w1 a k ou → Calls Tryz.prog 12 #[PT g, .int .i64 0, kv k.key, .int .i64 1, .int .i64 0] w1 fun e w2 => ∃ J : Jd, ∃ b m c M, e = .returned (.tuple #[.agg #[.int .i64 5, .int .i64 J.run, .bool J.bg, .int .i64 J.o.1, .int .i64 J.o.2.1, .int .i64 J.o.2.2.1, .int .i64 J.o.2.2.2, .slice b m c], .int .i64 0]) ∧ Cn.lt M 10 ∧ Sg w w2 g P (s1 (cS t s) k.key) M ∧ Bst w w2 a k ou) := hid (fun h64 w1 g P h B => by
    obtain ⟨m1, m2, m3⟩ := lead (t := t) (s := s) (k := k.key) h64
    refine (s_join h (gt_G0 (Int.le_refl _) (by omega)) 0 k.key (key_ok hk) (W64.mk (by omega) (by omega)) ⟨by simp [C0], by simp [C0], by simp [C0]⟩).mono ?_
    rintro e w2 ⟨b, m, c, rfl, q2, k2⟩
    rw [m3] at q2
    refine ⟨joJ (G0 (cS t s) 0 []) 0 k.key 1 0, b, m, c, _, ?_, joC_le _ _ _ _ _ _ (m := 8) ⟨by simp [C0], by simp [C0], by simp [C0]⟩, q2, B.keep k2⟩
    unfold jv jcs
    rw [m1, m2])
  have HE1 : Hid (k.nm.size ≤ 64 → ∀ w1 g P M, Cn.lt M 10 → Sg w w1 g P (s1 (cS t s) k.key) M → Bst w w1 a k ou → Calls Tryz.prog 13 #[PT g, .int .i64 0, .int .i64 1, .agg #[.int .i64 5, .int .i64 0, .int .i64 0, .int .i64 0]] w1 fun e w2 => (∃ D : Dn, ∃ ta tm tc ga gm gc la lm lc, e = .returned (.tuple #[.agg #[.int .i64 D.R.run, .int .u16 D.R.sp, .string D.R.nm, .int .i64 D.R.gen, .bool D.R.rf, .slice ta tm tc, .bool D.cur, .bool true, .slice ga gm gc, .slice la lm lc], .int .i64 0])) ∧ Lst w w2 g P t s k.key 0 0 ∧ Bst w w2 a k ou) := hid (fun h64 w1 g P M hM h B => by
    obtain ⟨m1, m2, m3⟩ := first (t := t) (s := s) (k := k.key) ht1 h64
    refine (s_end h 0 (W64.mk (by omega) (by omega)) o5 ⟨by have := hM.1; omega, by have := hM.2.1; omega, by have := hM.2.2; omega⟩).mono ?_
    rintro e w2 ⟨ta, tc, ga, gm, gc, la, lm, lc, rfl, q2, k2⟩
    have hM2 := edC_le (s1 (cS t s) k.key) 0 1 o5 M hM
    rw [m3] at q2
    refine ⟨⟨edD (s1 (cS t s) k.key) 0 1 o5, ta, (edD (s1 (cS t s) k.key) 0 1 o5).told.length, tc, ga, gm, gc, la, lm, lc, ?_⟩, Or.inl ⟨rfl, B1 (cS t s), _, ⟨by have := hM2.1; omega, by have := hM2.2.1; omega, by have := hM2.2.2; omega⟩, q2⟩, B.keep k2⟩
    unfold dcs
    rw [m1, m2])
  have HJL : Hid (k.nm.size ≤ 64 → ∀ g P w1 now rf n x, Lst w w1 g P t s k.key now rf → Bst w w1 a k ou → 0 ≤ now → now ≤ n → n < t + s → 1 ≤ x → W64 x → Calls Tryz.prog 12 #[PT g, .int .i64 n, kv k.key, .int .i64 x, .int .i64 0] w1 fun e w2 => ∃ how run bg b m c rf', e = .returned (.tuple #[.agg #[.int .i64 how, .int .i64 run, .bool bg, .int .i64 5, .int .i64 0, .int .i64 0, .int .i64 0, .slice b m c], .int .i64 0]) ∧ ((n < t ∧ how = 1 ∧ rf' = rf) ∨ (t ≤ n ∧ how = 2 ∧ run = 2 ∧ bg = decide (rf = 0) ∧ rf' = 2)) ∧ Lst w w2 g P t s k.key n rf' ∧ Bst w w2 a k ou) := hid (fun h64 g P w1 now rf n x h B h0 h1 h2 hx1 hx => by
    refine (lst_join h (key_ok hk) h64 h0 h1 h2 (by omega) hx1 hx).mono ?_
    rintro e w2 ⟨how, run, bg, b, m, c, rf', e1, e2, e3, e4⟩
    exact ⟨how, run, bg, b, m, c, rf', e1, e2, e3, B.keep e4⟩)
  have HLK : Hid (∀ w1 w2 g P now rf, Lst w w1 g P t s k.key now rf → Bst w w1 a k ou → Touch [] w1 w2 → Lst w w2 g P t s k.key now rf ∧ Bst w w2 a k ou) := hid (fun w1 w2 g P now rf h B T => ⟨h.keep0 T, B.keep T.keeps⟩)
  have HAT : Hid (∀ w1, Touch [] w w1 → Rj w1 a.u a.xs) := hid (fun w1 T => hat.keep T)
  have HLT : Hid (∀ w1 g P now rf, Lst w w1 g P t s k.key now rf → Touch [] w w1) := hid (fun w1 g P now rf h => by
    rcases h with ⟨_, _, _, _, q⟩ | ⟨_, _, _, _, _, q⟩
    · exact q.tch
    · exact q.tch)
  have HEE : Hid (k.nm.size ≤ 64 → ∀ g P w1 now, Lst w w1 g P t s k.key now 2 → 0 ≤ now → now < t + s → Calls Tryz.prog 13 #[PT g, .int .i64 now, .int .i64 2, Me.ov ou.out] w1 fun e w2 => _) := hid (fun h64 g P w1 now h h0 h2 => lst_end h ht1 (key_ok hk) h64 h0 h2 (by omega) ou.out)
  have HBC : Hid (∀ w1, Bst w w1 a k ou → (w1.cell? ⟨w.heap.size, 0, none⟩ = some (.int .i64 a.t) ∧ w1.cell? ⟨w.heap.size, 1, none⟩ = some (.int .i64 a.s) ∧ w1.cell? ⟨w.heap.size, 2, none⟩ = some a.u) ∧ (w1.cell? ⟨w.heap.size + 1, 0, none⟩ = some (.int .u16 k.sp) ∧ w1.cell? ⟨w.heap.size + 1, 1, none⟩ = some (.string k.nm)) ∧ (w1.cell? ⟨w.heap.size + 2, 0, none⟩ = some (.int .i64 ou.va) ∧ w1.cell? ⟨w.heap.size + 2, 1, none⟩ = some (.int .i64 ou.fl.kd) ∧ w1.cell? ⟨w.heap.size + 2, 2, none⟩ = some (.int .i64 ou.fl.cd) ∧ w1.cell? ⟨w.heap.size + 2, 3, none⟩ = some (.int .i64 ou.fl.rn))) := hid (fun w1 B => ⟨⟨cell_at B.a rfl, cell_at B.a rfl, cell_at B.a rfl⟩, ⟨cell_at B.k rfl, cell_at B.k rfl⟩, ⟨cell_at B.o rfl, cell_at B.o rfl, cell_at B.o rfl, cell_at B.o rfl⟩⟩)
  have HS : Hid (1 ≤ t ∧ t ≤ 1024 ∧ 0 ≤ s ∧ s ≤ 1023) := hid ⟨ht1, ht2, b3, b4⟩
  have HTV := hid tv
  have HBV := hid (hb.keep ((Touch.refl [] V).drew).keeps)
  have HSA : Hid (∀ w1 g P X N ob, Sg w w1 g P X N → Bst w w1 a k ou → Sg w (w1.alloc ob) g P X N ∧ Bst w (w1.alloc ob) a k ou) := hid (fun w1 g P X N ob h B => ⟨h.keep0 ((Touch.refl _ _).alloc ob), B.keep ((Touch.refl [] _).alloc ob).keeps⟩)
  have HST : Hid (∀ w1 g P X N, Sg w w1 g P X N → Touch [] w w1) := hid (fun w1 g P X N h => h.tch)
  have hv1 : IntKind.i64.wrap (1 + bits .and .i64 a.t 1023) = t := by
    rw [← HB1.out.1]
    simp [IntKind.wrap, IntKind.bits, IntKind.signed, IntKind.min, IntKind.max]; omega
  have HV1 := hid hv1
  have A0 : ∀ w' : World, (w'.cell? ⟨w.heap.size, 0, none⟩ = some (.int .i64 a.t) ∧ w'.cell? ⟨w.heap.size, 1, none⟩ = some (.int .i64 a.s)) → w'.cell? ⟨w.heap.size, 0, none⟩ = some (.int .i64 a.t) := fun _ h => h.1
  have A1 : ∀ w' : World, (w'.cell? ⟨w.heap.size, 0, none⟩ = some (.int .i64 a.t) ∧ w'.cell? ⟨w.heap.size, 1, none⟩ = some (.int .i64 a.s)) → w'.cell? ⟨w.heap.size, 1, none⟩ = some (.int .i64 a.s) := fun _ h => h.2
  have s0 : V.drew.cell? ⟨w.heap.size, 0, none⟩ = some (.int .i64 a.t) ∧ V.drew.cell? ⟨w.heap.size, 1, none⟩ = some (.int .i64 a.s) := ⟨(HBC.out _ HBV.out).1.1, (HBC.out _ HBV.out).1.2.1⟩
  have HN0 := hid (HN.out V.drew (HTV.out.trans' (Touch.refl _ _).drew) HBV.out)
  clear hat hk tv hb b1 b2 b3 b4 hbt hs ht ht1 ht2 hokc hv1 HN
  unfold AgA.cs KyA.cs OuA.cs at hV
  unfold AgA.cs KyA.cs OuA.cs
  unfold Me.cv cS at HN0
  unfold Me.ov OuA.out at HEE
  unfold kv KyA.key at HJ1 HJL HEE
  unfold PT at *
  simp only at HN0 HJ1 HJL HEE
  go_enter Tryz.func6, Tryz.ntmps6
  go_upto_region 1 with fail
  rw [← hV]
  clear hV
  refine wp_region_H (S := fun w' : World => w'.cell? ⟨w.heap.size, 0, none⟩ = some (.int .i64 a.t) ∧ w'.cell? ⟨w.heap.size, 1, none⟩ = some (.int .i64 a.s)) (by kernel_rfl) ?_
  refine wpH_take (i := 0) (v := (.pointer (some ⟨w.heap.size, 0, none⟩))) (some 24) rfl rfl (by kernel_rfl) (by kernel_rfl) (by kernel_rfl) (fun _ _ _ h => h) (Or.inl ⟨by rfl, fun w' hS => (by go_simp)⟩) s0 ?_
  try simp only [Go.Act.put, List.setIfInBounds_toArray, List.set_cons_zero, List.set_cons_succ]
  refine wpH_take (i := 1) (v := (.int .i64 a.t)) (some 25) rfl rfl (by kernel_rfl) (by kernel_rfl) (by kernel_rfl) (fun _ _ _ h => h) (Or.inl ⟨by rfl, fun w' hS => (by have z0 := A0 _ hS; go_simp)⟩) s0 ?_
  try simp only [Go.Act.put, List.setIfInBounds_toArray, List.set_cons_zero, List.set_cons_succ]
  refine wpH_take (i := 2) (v := (.int .i64 (bits .and .i64 a.t 1023))) (some 26) rfl rfl (by kernel_rfl) (by kernel_rfl) (by kernel_rfl) (fun _ _ _ h => h) (Or.inl ⟨by rfl, fun w' hS => (by go_simp)⟩) s0 ?_
  try simp only [Go.Act.put, List.setIfInBounds_toArray, List.set_cons_zero, List.set_cons_succ]
  refine wpH_take (i := 3) (v := (.int .i64 t)) (some 27) rfl rfl (by kernel_rfl) (by kernel_rfl) (by kernel_rfl) (fun _ _ _ h => h) (Or.inl ⟨by rfl, fun w' hS => (by have z0 := HV1.out; go_simp)⟩) s0 ?_
  try simp only [Go.Act.put, List.setIfInBounds_toArray, List.set_cons_zero, List.set_cons_succ]
  refine wpH_take (i := 4) (v := (.pointer (some ⟨w.heap.size, 1, none⟩))) (some 28) rfl rfl (by kernel_rfl) (by kernel_rfl) (by kernel_rfl) (fun _ _ _ h => h) (Or.inl ⟨by rfl, fun w' hS => (by go_simp)⟩) s0 ?_
  try simp only [Go.Act.put, List.setIfInBounds_toArray, List.set_cons_zero, List.set_cons_succ]
  refine wpH_take (i := 5) (v := (.int .i64 a.s)) (some 29) rfl rfl (by kernel_rfl) (by kernel_rfl) (by kernel_rfl) (fun _ _ _ h => h) (Or.inl ⟨by rfl, fun w' hS => (by have z0 := A1 _ hS; go_simp)⟩) s0 ?_
  try simp only [Go.Act.put, List.setIfInBounds_toArray, List.set_cons_zero, List.set_cons_succ]
  refine wpH_take (i := 6) (v := (.int .i64 (bits .and .i64 a.s 1023))) (some 30) rfl rfl (by kernel_rfl) (by kernel_rfl) (by kernel_rfl) (fun _ _ _ h => h) (Or.inl ⟨by rfl, fun w' hS => (by go_simp)⟩) s0 ?_
  try simp only [Go.Act.put, List.setIfInBounds_toArray, List.set_cons_zero, List.set_cons_succ]
  refine wpH_take (i := 7) (v := (.int .i64 t)) (some 7) rfl rfl (by kernel_rfl) (by kernel_rfl) (by kernel_rfl) (fun _ _ _ h => h) (Or.inl ⟨by rfl, fun w' hS => (by go_simp)⟩) s0 ?_
  try simp only [Go.Act.put, List.setIfInBounds_toArray, List.set_cons_zero, List.set_cons_succ]
  refine wpH_take (i := 8) (v := (.int .i64 (bits .and .i64 a.s 1023))) (some 8) rfl rfl (by kernel_rfl) (by kernel_rfl) (by kernel_rfl) (fun _ _ _ h => h) (Or.inl ⟨by rfl, fun w' hS => (by go_simp)⟩) s0 ?_
  try simp only [Go.Act.put, List.setIfInBounds_toArray, List.set_cons_zero, List.set_cons_succ]
  refine wpAnyH_done (by kernel_rfl) ?_ _
  clear A0 A1 s0
  rw [← HB1.out.2]
  clear HB1 HV1
  go_upto_region 3 with (go_at_call 8; refine HN0.out.mono ?_; rintro e w2 ⟨g, P, rfl, q2, b2⟩; have Q2 := hid q2; have B2 := hid b2; clear q2 b2)
  obtain ⟨-, ⟨k0, k1⟩, -⟩ := HBC.out _ B2.out
  by_cases h64 : k.nm.size ≤ 64
  · have z64 : ¬ ((64 : Int) < (k.nm.size : Int)) := by omega
    have HJ := hid (HJ1.out h64)
    have HE := hid (HE1.out h64)
    have HL := hid (HJL.out h64)
    have HZ := hid (HEE.out h64)
    clear HJ1 HE1 HJL HEE
    go_upto_region 5 with (go_at_call 9; refine (HAw.out _ _ _ _ _ Q2.out B2.out).mono ?_; rintro e w3 ⟨rfl, q3, b3⟩; have Q3 := hid q3; have B3 := hid b3; clear k0 k1; obtain ⟨-, ⟨k0, k1⟩, -⟩ := HBC.out _ b3; clear q3 b3)
    go_upto_region 6 with (go_at_call 12; refine (HJ.out _ _ _ Q3.out B3.out).mono ?_; rintro e w4 ⟨J, jb, jm, jc, M, rfl, hM, q4, b4⟩; have HM := hid hM; have Q4 := hid q4; have B4 := hid b4; clear hM q4 b4 k0 k1)
    obtain ⟨W5, hW5⟩ : ∃ W, W = w4.alloc (.cells #[.int .i64 5, .int .i64 J.run, .bool J.bg, .int .i64 J.o.1, .int .i64 J.o.2.1, .int .i64 J.o.2.2.1, .int .i64 J.o.2.2.2, .slice jb jm jc] 49) := ⟨_, rfl⟩
    have h5 := heap_alloc_new w4 (.cells #[.int .i64 5, .int .i64 J.run, .bool J.bg, .int .i64 J.o.1, .int .i64 J.o.2.1, .int .i64 J.o.2.2.1, .int .i64 J.o.2.2.2, .slice jb jm jc] 49)
    obtain ⟨q5, b5⟩ := HSA.out _ _ _ _ _ (.cells #[.int .i64 5, .int .i64 J.run, .bool J.bg, .int .i64 J.o.1, .int .i64 J.o.2.1, .int .i64 J.o.2.2.1, .int .i64 J.o.2.2.2, .slice jb jm jc] 49) Q4.out B4.out
    rw [← hW5] at h5 q5 b5 ⊢
    have x0 := cell_at (j := 0) h5 rfl
    have Q5 := hid q5
    have B5 := hid b5
    clear hW5 q5 b5 h5
    go_upto_region 9 with (go_at_call 13; refine (HE.out _ _ _ _ HM.out Q5.out B5.out).mono ?_; rintro e w6 ⟨⟨D, ta, tm, tc, ga, gm, gc, la, lm, lc, rfl⟩, q6, b6⟩; have Q6 := hid q6; have B6 := hid b6; clear q6 b6 x0)
    obtain ⟨W7, hW7⟩ : ∃ W, W = w6.alloc (.cells #[.int .i64 D.R.run, .int .u16 D.R.sp, .string D.R.nm, .int .i64 D.R.gen, .bool D.R.rf, .slice ta tm tc, .bool D.cur, .bool true, .slice ga gm gc, .slice la lm lc] 57) := ⟨_, rfl⟩
    have h7 := heap_alloc_new w6 (.cells #[.int .i64 D.R.run, .int .u16 D.R.sp, .string D.R.nm, .int .i64 D.R.gen, .bool D.R.rf, .slice ta tm tc, .bool D.cur, .bool true, .slice ga gm gc, .slice la lm lc] 57)
    have t7 : Touch [] w6 W7 := by rw [hW7]; exact (Touch.refl _ _).alloc _
    rw [← hW7] at h7 ⊢
    obtain ⟨q7, b7⟩ := HLK.out _ _ _ _ _ _ Q6.out B6.out t7
    have x7 := cell_at (j := 7) h7 rfl
    obtain ⟨⟨-, -, a2⟩, -, -⟩ := HBC.out _ b7
    obtain ⟨ua, uc, hu⟩ : ∃ ua uc, a.u = .slice ua a.xs.length uc := by obtain ⟨x, y, e, _⟩ := HAT.out w (Touch.refl _ _); exact ⟨x, y, e⟩
    rw [hu] at a2
    have HU := hid hu
    obtain ⟨m, hm⟩ : ∃ m, m = a.xs.length := ⟨_, rfl⟩
    have HMM := hid hm
    rw [← hm] at a2
    have H0 : Hid (Lst w W7 g P t s k.key 0 0 ∧ Bst w W7 a k ou) := hid ⟨q7, b7⟩
    clear hW7 q7 b7 h7 t7 hu hm
    have HQ : Hid (∀ w1 now, Lst w w1 g P t s k.key now 2 → (Calls Tryz.prog 27 #[PT g, .int .i64 2] w1 fun e w2 => e = .returned (.bool false) ∧ Touch [] w1 w2) ∧ (Calls Tryz.prog 28 #[PT g, .int .i64 2] w1 fun e w2 => e = .returned (.int .i64 1) ∧ Touch [] w1 w2) ∧ (Calls Tryz.prog 14 #[PT g, .int .i64 2] w1 fun e w2 => (∃ a c, e = .returned (.slice a 0 c)) ∧ Touch [] w1 w2)) := hid (fun w1 now h => lst_ask h)
    have HP : Hid (∀ w1 now, Lst w w1 g P t s k.key now 0 → Calls Tryz.prog 16 #[PT g] w1 fun e w2 => (∃ a c, e = .returned (.slice a 0 c)) ∧ Touch [] w w2) := hid (fun w1 now h => lst_prog h)
    unfold PT at HQ HP
    go_wp2
    clear x7 a2 HJ HE HN0 HAw HBV Q2 B2 Q3 B3 Q4 B4 Q5 B5 Q6 B6 HM
    go_loopw [15, 16, 17, 84] (fun s15 s16 s17 s84 wr => ∃ i : Nat, s84 = .int .i64 (i : Int) ∧ i ≤ m ∧ ∃ now cl rf : Int, s15 = .int .i64 now ∧ s16 = .int .i64 cl ∧ s17 = .int .i64 rf ∧ Hid (0 ≤ now ∧ now < t + s ∧ 1 ≤ cl ∧ cl ≤ (i : Int) + 1 ∧ (rf = 0 ∨ rf = 2) ∧ Lst w wr g P t s k.key now rf ∧ Bst w wr a k ou)) (fun _ _ _ i _ => m - (intOf i).toNat)
    case atStart => exact ⟨0, rfl, Nat.zero_le _, 0, 1, 0, rfl, rfl, rfl, hid ⟨Int.le_refl _, by have := HS.out; omega, Int.le_refl _, by simp, Or.inl rfl, H0.out.1, H0.out.2⟩⟩
    case round =>
      clear H0
      obtain ⟨i, rfl, hi, now, cl, rf, rfl, rfl, rfl, HR⟩ := hrel
      obtain ⟨zt1, zt2, zs1, zs2⟩ := HS.out
      have zn0 : 0 ≤ now := HR.out.1
      have zn1 : now < t + s := HR.out.2.1
      have zc0 : 1 ≤ cl := HR.out.2.2.1
      have zml : (m : Int) ≤ 17592186043904 := by have := HMM.out; omega
      have zc1 : cl ≤ 17592186043905 := by have := HR.out.2.2.2.1; omega
      have zrf := HR.out.2.2.2.2.1
      have HLB := hid HR.out.2.2.2.2.2
      by_cases hlt : i < m
      · have zi : (i : Int) < (m : Int) := by omega
        obtain ⟨r, hr⟩ : ∃ r, a.xs[i]? = some r := ⟨_, List.getElem?_eq_getElem (by have := HMM.out; omega)⟩
        obtain ⟨gg, off, hg, e0⟩ : ∃ gg off, ua = some ⟨gg, off, none⟩ ∧ wr.cell? ⟨gg, off + i, none⟩ = some (.int .i64 r) := by
          obtain ⟨x, y, e, hc⟩ := HAT.out wr (HLT.out _ _ _ _ _ HLB.out.1)
          have hu := HU.out
          rw [hu] at e
          simp only [Value.slice.injEq] at e
          obtain ⟨rfl, -, -⟩ := e
          obtain ⟨gg, off, e2, -, h2⟩ := hc (by have := HMM.out; omega)
          exact ⟨gg, off, e2, h2 i r hr⟩
        subst hg
        obtain ⟨-, -, zb0, zb1⟩ := band r
        clear hr
        by_cases hbr : t + s ≤ now + bits .and .i64 r 255
        · have hbr2 : ¬ (now + bits .and .i64 r 255 < t + s) := by omega
          go_upto_region 28 with fail
          rcases zrf with rfl | rfl
          · go_wp2_with (go_at_call 16; refine (HP.out _ _ HLB.out.1).mono ?_; rintro e wz ⟨⟨za, zc, rfl⟩, tz⟩; have TZ := hid tz; clear tz)
            go_ret
            exact ⟨rfl, TZ.out⟩
          · obtain ⟨-, ⟨k0, k1⟩, ⟨o0, o1, o2, o3⟩⟩ := HBC.out _ HLB.out.2
            have HE2 := hid (HZ.out _ _ _ _ HLB.out.1 zn0 zn1)
            go_upto_region 31 with (go_at_call 13; refine HE2.out.mono ?_; rintro e w5 ⟨E, cur, kep, tl, how, run, bg, jo, hE, ⟨R, ta, tc, ga, gm, gc, la, lm, lc, rfl⟩, t5, k5, hj⟩; have HJ5 := hid hj; have HED := hid hE; have T5 := hid t5; have B5 := hid (HLB.out.2.keep k5); clear hj hE t5 k5 k0 k1 o0 o1 o2 o3)
            obtain ⟨W6, hW6⟩ : ∃ W, W = w5.alloc (.cells #[.int .i64 R.run, .int .u16 R.sp, .string R.nm, .int .i64 R.gen, .bool R.rf, .slice ta tl tc, .bool cur, .bool kep, .slice ga gm gc, .slice la lm lc] 57) := ⟨_, rfl⟩
            have h6 := heap_alloc_new w5 (.cells #[.int .i64 R.run, .int .u16 R.sp, .string R.nm, .int .i64 R.gen, .bool R.rf, .slice ta tl tc, .bool cur, .bool kep, .slice ga gm gc, .slice la lm lc] 57)
            have t6 : Touch [] w5 W6 := by rw [hW6]; exact (Touch.refl _ _).alloc _
            rw [← hW6] at h6 ⊢
            have B6 := hid (B5.out.keep t6.keeps)
            have H6 := hid h6
            have T6 := hid t6
            clear hW6 h6 t6
            rcases HED.out.a with rfl | rfl
            · obtain ⟨rfl, rfl, hcs⟩ := HED.out.b rfl
              obtain ⟨-, ⟨k0, k1⟩, -⟩ := HBC.out _ B6.out
              have HJ6 := hid (HJ5.out rfl W6 (cl + 1) T6.out (by omega) (W64.mk (by omega) (by omega)))
              go_upto_region 34 with (go_at_call 12; refine HJ6.out.mono ?_; rintro e w7 ⟨⟨b, m7, c7, rfl⟩, t7, k7⟩; have T7 := hid t7; have H7 := hid (k7 _ _ _ _ (by decide) H6.out); have B7 := hid (B6.out.keep k7); clear t7 k7 k0 k1)
              obtain ⟨W8, hW8⟩ : ∃ W, W = w7.alloc (.cells #[.int .i64 how, .int .i64 run, .bool bg, .int .i64 jo.1, .int .i64 jo.2.1, .int .i64 jo.2.2.1, .int .i64 jo.2.2.2, .slice b m7 c7] 49) := ⟨_, rfl⟩
              have h8 := heap_alloc_new w7 (.cells #[.int .i64 how, .int .i64 run, .bool bg, .int .i64 jo.1, .int .i64 jo.2.1, .int .i64 jo.2.2.1, .int .i64 jo.2.2.2, .slice b m7 c7] 49)
              have t8 : Touch [] w7 W8 := by rw [hW8]; exact (Touch.refl _ _).alloc _
              rw [← hW8] at h8 ⊢
              have h78 := t8.keep H7.out (by simp)
              have T8 := hid (T7.out.trans' t8)
              obtain ⟨-, -, ⟨o0, o1, o2, o3⟩⟩ := HBC.out _ (B7.out.keep t8.keeps)
              have x5 := cell_at (j := 5) h78 rfl
              have x6 := cell_at (j := 6) h78 rfl
              have x7 := cell_at (j := 7) h78 rfl
              have y0 := cell_at (j := 0) h8 rfl
              have y1 := cell_at (j := 1) h8 rfl
              have y2 := cell_at (j := 2) h8 rfl
              have y3 := cell_at (j := 3) h8 rfl
              have y4 := cell_at (j := 4) h8 rfl
              have y5 := cell_at (j := 5) h8 rfl
              have y6 := cell_at (j := 6) h8 rfl
              have ef := Me.eqf W8 ou.fl.kd ou.fl.cd ou.fl.rn
              have eo := eqOO W8 ou.va ou.fl.kd ou.fl.cd ou.fl.rn
              clear hW8 h8 t8 h78
              rcases hcs with ⟨hnf, rfl, rfl, rfl, rfl⟩ | ⟨hnf, rfl, rfl, rfl, rfl, rfl⟩
              · have hnf2 : Me.nonF ou.fl.kd ou.fl.cd ou.fl.rn = true := hnf
                have hz : ou.fl.kd = 0 ∧ ou.fl.cd = 0 ∧ ou.fl.rn = 0 := by simpa [Me.nonF, and_assoc] using hnf2
                rw [hnf2] at ef
                clear hnf hnf2
                simp only [OuA.out] at y3 y4 y5 y6
                go_wp2
                all_goals first
                  | (exfalso; omega)
                  | (go_ret; exact ⟨rfl, T8.out⟩)
              · have hnf2 : Me.nonF ou.fl.kd ou.fl.cd ou.fl.rn = false := hnf
                have hz : ¬ (ou.fl.kd = 0 ∧ ou.fl.cd = 0 ∧ ou.fl.rn = 0) := by intro hq; simp [Me.nonF, hq] at hnf2
                rw [hnf2] at ef
                clear hnf hnf2 eo
                simp only [o5] at y3 y4 y5 y6
                go_wp2
                all_goals first
                  | (exfalso; omega)
                  | (go_ret; exact ⟨rfl, T8.out⟩)
            · go_wp2
              go_ret
              exact ⟨rfl, T5.out.trans' T6.out⟩
        · have hbr2 : now + bits .and .i64 r 255 < t + s := by omega
          go_upto_region 18 with fail
          have zn2 : now ≤ now + bits .and .i64 r 255 := by omega
          clear e0
          generalize now + bits .and .i64 r 255 = n at *
          obtain ⟨-, ⟨k0, k1⟩, -⟩ := HBC.out _ HLB.out.2
          have HJN := hid (HL.out _ _ _ _ _ n (cl + 1) HLB.out.1 HLB.out.2 zn0 zn2 hbr2 (by omega) (W64.mk (by omega) (by omega)))
          go_upto_region 19 with (go_at_call 12; refine HJN.out.mono ?_; rintro e w8 ⟨how, run, bg, b, m8, c8, rf2, rfl, hc, q8, b8⟩; have Q8 := hid q8; have B8 := hid b8; clear q8 b8 k0 k1)
          obtain ⟨W9, hW9⟩ : ∃ W, W = w8.alloc (.cells #[.int .i64 how, .int .i64 run, .bool bg, .int .i64 5, .int .i64 0, .int .i64 0, .int .i64 0, .slice b m8 c8] 49) := ⟨_, rfl⟩
          have h9 := heap_alloc_new w8 (.cells #[.int .i64 how, .int .i64 run, .bool bg, .int .i64 5, .int .i64 0, .int .i64 0, .int .i64 0, .slice b m8 c8] 49)
          have t9 : Touch [] w8 W9 := by rw [hW9]; exact (Touch.refl _ _).alloc _
          rw [← hW9] at h9 ⊢
          obtain ⟨q9, b9⟩ := HLK.out _ _ _ _ _ _ Q8.out B8.out t9
          have y0 := cell_at (j := 0) h9 rfl
          have y1 := cell_at (j := 1) h9 rfl
          have y2 := cell_at (j := 2) h9 rfl
          have y3 := cell_at (j := 3) h9 rfl
          have y4 := cell_at (j := 4) h9 rfl
          have y5 := cell_at (j := 5) h9 rfl
          have y6 := cell_at (j := 6) h9 rfl
          have ee := eq5 W9
          have Q9 := hid q9
          have B9 := hid b9
          clear hW9 t9 h9 q9 b9 hbr HJN
          rcases hc with ⟨hn, rfl, rfl⟩ | ⟨hn, rfl, rfl, rfl, rfl⟩
          · go_wp2
            go_roundw
            case rel => exact ⟨i + 1, by go_num, by omega, n, cl + 1, rf2, rfl, rfl, rfl, hid ⟨by omega, hbr2, by omega, by have := HR.out.2.2.2.1; push_cast; omega, zrf, Q9.out, B9.out⟩⟩
            case measure => simp [intOf]; omega
          · have hn2 : ¬ n < t := by omega
            have HQ9 := hid (HQ.out _ _ Q9.out)
            rcases zrf with rfl | rfl
            · go_upto_region 25 with fail
              clear y0 y1 y2 y3 y4 y5 y6 ee
              go_wp2_with (first
              | (go_at_call 27; refine HQ9.out.1.mono ?_; rintro e wa ⟨rfl, ta⟩; obtain ⟨qa, ba⟩ := HLK.out _ _ _ _ _ _ Q9.out B9.out ta; have QA := hid qa; have BA := hid ba; clear ta qa ba)
              | (go_at_call 28; refine (HQ.out _ _ QA.out).2.1.mono ?_; rintro e wb ⟨rfl, tb⟩; obtain ⟨qb, bb⟩ := HLK.out _ _ _ _ _ _ QA.out BA.out tb; have QB := hid qb; have BB := hid bb; clear tb qb bb)
              | (go_at_call 14; refine (HQ.out _ _ QB.out).2.2.mono ?_; rintro e wc ⟨⟨xa, xc, rfl⟩, tc⟩; obtain ⟨qc, bc⟩ := HLK.out _ _ _ _ _ _ QB.out BB.out tc; have QC := hid qc; have BC := hid bc; clear tc qc bc))
              go_roundw
              case rel => exact ⟨i + 1, by go_num, by omega, n, cl + 1, 2, rfl, rfl, rfl, hid ⟨by omega, hbr2, by omega, by have := HR.out.2.2.2.1; push_cast; omega, Or.inr rfl, QC.out, BC.out⟩⟩
              case measure => simp [intOf]; omega
            · go_upto_region 25 with fail
              clear y0 y1 y2 y3 y4 y5 y6 ee
              go_wp2_with (first
              | (go_at_call 27; refine HQ9.out.1.mono ?_; rintro e wa ⟨rfl, ta⟩; obtain ⟨qa, ba⟩ := HLK.out _ _ _ _ _ _ Q9.out B9.out ta; have QA := hid qa; have BA := hid ba; clear ta qa ba)
              | (go_at_call 28; refine (HQ.out _ _ QA.out).2.1.mono ?_; rintro e wb ⟨rfl, tb⟩; obtain ⟨qb, bb⟩ := HLK.out _ _ _ _ _ _ QA.out BA.out tb; have QB := hid qb; have BB := hid bb; clear tb qb bb)
              | (go_at_call 14; refine (HQ.out _ _ QB.out).2.2.mono ?_; rintro e wc ⟨⟨xa, xc, rfl⟩, tc⟩; obtain ⟨qc, bc⟩ := HLK.out _ _ _ _ _ _ QB.out BB.out tc; have QC := hid qc; have BC := hid bc; clear tc qc bc))
              go_roundw
              case rel => exact ⟨i + 1, by go_num, by omega, n, cl + 1, 2, rfl, rfl, rfl, hid ⟨by omega, hbr2, by omega, by have := HR.out.2.2.2.1; push_cast; omega, Or.inr rfl, QC.out, BC.out⟩⟩
              case measure => simp [intOf]; omega
      · have zi : (m : Int) ≤ (i : Int) := by omega
        clear hlt hi
        go_upto_region 28 with fail
        rcases zrf with rfl | rfl
        · go_wp2_with (go_at_call 16; refine (HP.out _ _ HLB.out.1).mono ?_; rintro e wz ⟨⟨za, zc, rfl⟩, tz⟩; have TZ := hid tz; clear tz)
          go_ret
          exact ⟨rfl, TZ.out⟩
        · obtain ⟨-, ⟨k0, k1⟩, ⟨o0, o1, o2, o3⟩⟩ := HBC.out _ HLB.out.2
          have HE2 := hid (HZ.out _ _ _ _ HLB.out.1 zn0 zn1)
          go_upto_region 31 with (go_at_call 13; refine HE2.out.mono ?_; rintro e w5 ⟨E, cur, kep, tl, how, run, bg, jo, hE, ⟨R, ta, tc, ga, gm, gc, la, lm, lc, rfl⟩, t5, k5, hj⟩; have HJ5 := hid hj; have HED := hid hE; have T5 := hid t5; have B5 := hid (HLB.out.2.keep k5); clear hj hE t5 k5 k0 k1 o0 o1 o2 o3)
          obtain ⟨W6, hW6⟩ : ∃ W, W = w5.alloc (.cells #[.int .i64 R.run, .int .u16 R.sp, .string R.nm, .int .i64 R.gen, .bool R.rf, .slice ta tl tc, .bool cur, .bool kep, .slice ga gm gc, .slice la lm lc] 57) := ⟨_, rfl⟩
          have h6 := heap_alloc_new w5 (.cells #[.int .i64 R.run, .int .u16 R.sp, .string R.nm, .int .i64 R.gen, .bool R.rf, .slice ta tl tc, .bool cur, .bool kep, .slice ga gm gc, .slice la lm lc] 57)
          have t6 : Touch [] w5 W6 := by rw [hW6]; exact (Touch.refl _ _).alloc _
          rw [← hW6] at h6 ⊢
          have B6 := hid (B5.out.keep t6.keeps)
          have H6 := hid h6
          have T6 := hid t6
          clear hW6 h6 t6
          rcases HED.out.a with rfl | rfl
          · obtain ⟨rfl, rfl, hcs⟩ := HED.out.b rfl
            obtain ⟨-, ⟨k0, k1⟩, -⟩ := HBC.out _ B6.out
            have HJ6 := hid (HJ5.out rfl W6 (cl + 1) T6.out (by omega) (W64.mk (by omega) (by omega)))
            go_upto_region 34 with (go_at_call 12; refine HJ6.out.mono ?_; rintro e w7 ⟨⟨b, m7, c7, rfl⟩, t7, k7⟩; have T7 := hid t7; have H7 := hid (k7 _ _ _ _ (by decide) H6.out); have B7 := hid (B6.out.keep k7); clear t7 k7 k0 k1)
            obtain ⟨W8, hW8⟩ : ∃ W, W = w7.alloc (.cells #[.int .i64 how, .int .i64 run, .bool bg, .int .i64 jo.1, .int .i64 jo.2.1, .int .i64 jo.2.2.1, .int .i64 jo.2.2.2, .slice b m7 c7] 49) := ⟨_, rfl⟩
            have h8 := heap_alloc_new w7 (.cells #[.int .i64 how, .int .i64 run, .bool bg, .int .i64 jo.1, .int .i64 jo.2.1, .int .i64 jo.2.2.1, .int .i64 jo.2.2.2, .slice b m7 c7] 49)
            have t8 : Touch [] w7 W8 := by rw [hW8]; exact (Touch.refl _ _).alloc _
            rw [← hW8] at h8 ⊢
            have h78 := t8.keep H7.out (by simp)
            have T8 := hid (T7.out.trans' t8)
            obtain ⟨-, -, ⟨o0, o1, o2, o3⟩⟩ := HBC.out _ (B7.out.keep t8.keeps)
            have x5 := cell_at (j := 5) h78 rfl
            have x6 := cell_at (j := 6) h78 rfl
            have x7 := cell_at (j := 7) h78 rfl
            have y0 := cell_at (j := 0) h8 rfl
            have y1 := cell_at (j := 1) h8 rfl
            have y2 := cell_at (j := 2) h8 rfl
            have y3 := cell_at (j := 3) h8 rfl
            have y4 := cell_at (j := 4) h8 rfl
            have y5 := cell_at (j := 5) h8 rfl
            have y6 := cell_at (j := 6) h8 rfl
            have ef := Me.eqf W8 ou.fl.kd ou.fl.cd ou.fl.rn
            have eo := eqOO W8 ou.va ou.fl.kd ou.fl.cd ou.fl.rn
            clear hW8 h8 t8 h78
            rcases hcs with ⟨hnf, rfl, rfl, rfl, rfl⟩ | ⟨hnf, rfl, rfl, rfl, rfl, rfl⟩
            · have hnf2 : Me.nonF ou.fl.kd ou.fl.cd ou.fl.rn = true := hnf
              have hz : ou.fl.kd = 0 ∧ ou.fl.cd = 0 ∧ ou.fl.rn = 0 := by simpa [Me.nonF, and_assoc] using hnf2
              rw [hnf2] at ef
              clear hnf hnf2
              simp only [OuA.out] at y3 y4 y5 y6
              go_wp2
              all_goals first
                | (exfalso; omega)
                | (go_ret; exact ⟨rfl, T8.out⟩)
            · have hnf2 : Me.nonF ou.fl.kd ou.fl.cd ou.fl.rn = false := hnf
              have hz : ¬ (ou.fl.kd = 0 ∧ ou.fl.cd = 0 ∧ ou.fl.rn = 0) := by intro hq; simp [Me.nonF, hq] at hnf2
              rw [hnf2] at ef
              clear hnf hnf2 eo
              simp only [o5] at y3 y4 y5 y6
              go_wp2
              all_goals first
                | (exfalso; omega)
                | (go_ret; exact ⟨rfl, T8.out⟩)
          · go_wp2
            go_ret
            exact ⟨rfl, T5.out.trans' T6.out⟩
  · have z64 : (64 : Int) < (k.nm.size : Int) := by omega
    clear HJ1 HE1 HJL HEE HN0
    go_upto_region 4 with (go_at_call 9; refine (HAw.out _ _ _ _ _ Q2.out B2.out).mono ?_; rintro e w3 ⟨rfl, q3, b3⟩; have Q3 := hid q3; have B3 := hid b3; clear k0 k1; obtain ⟨-, ⟨k0, k1⟩, -⟩ := HBC.out _ b3; clear q3 b3)
    go_wp2_with (go_at_call 9; refine (HAw.out _ _ _ _ _ Q3.out B3.out).mono ?_; rintro e w4 ⟨rfl, q4, b4⟩; have Q4 := hid q4; clear q4 b4)
    go_ret
    exact ⟨rfl, HST.out _ _ _ _ _ Q4.out⟩
end Go.Proofs.YtkfophlhpjbmgaaGreat
