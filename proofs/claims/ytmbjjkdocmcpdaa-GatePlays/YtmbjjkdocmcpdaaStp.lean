/- Each act, whatever its numbers: what the program makes of it, and that the document makes the same. -/
import Derived.Test.YtmbjjkdocmcpdaaInt
import Derived.Test.YtmbjjkdocmcpdaaCln
namespace Go.Proofs.Ytmbjjkdocmcpdaa
open Go.RowKit Go.Maps Go.ChangeMaps
set_option linter.unusedVariables false
set_option linter.unusedSimpArgs false
/-- Both sides, and nobody waits at a gate that is open. -/
structure Iv (op : Nat → Bool) (W : Nat → List Int) (ps : List (Int × Int)) : Prop where
  rel : Rel W ps
  dk : Dk ps
  sh : ∀ i, i < 256 → op i = true → W i = []
def opO (op : Nat → Bool) (n : Int) (v : Bool) : Nat → Bool := if inG n = true then fup op n.toNat v else op
def WO (W : Nat → List Int) (n : Int) : Nat → List Int := if inG n = true then fup W n.toNat [] else W
def eG (n : Int) : Int := if inG n = true then 0 else 70
def okP (n k : Int) : Bool := inG n && !decide (k < 0)
def WP (W : Nat → List Int) (n k : Int) : Nat → List Int := if okP n k = true then fup W n.toNat ((W n.toNat).drop k.toNat) else W
def lP (W : Nat → List Int) (n k : Int) : List Int := if okP n k = true then (W n.toNat).take k.toNat else []
def eP (n k : Int) : Int := if inG n = true then (if k < 0 then 1 else 0) else 70
def WL (W : Nat → List Int) (x : Int) : Nat → List Int := match loc W x with | some i => fup W i (out (W i) x) | none => W
section
variable {w : World} {g : Nat} {F : List Nat} {op : Nat → Bool} {W : Nat → List Int}
theorem open8 (h : Gs w g F op W) (n : Int) (hT : tot W ≤ 4398046511104) : Calls Try.prog 8 #[.pointer (some ⟨g, 0, none⟩), .int .i64 n] w fun e w' => OutE e w w' g F (opO op n true) (WO W n) (waitW W n) (eG n) := by
  unfold opO WO waitW eG
  cases hn : inG n with
  | true => simp only [if_true]; exact open8_yes h n hn hT
  | false => simp only [Bool.false_eq_true, if_false]; exact open8_no h n hn
theorem shut19 (h : Gs w g F op W) (n : Int) : Calls Try.prog 19 #[.pointer (some ⟨g, 0, none⟩), .int .i64 n] w fun e w' => e = .returned (.int .i64 (eG n)) ∧ WaE w w' g F (opO op n false) W := by
  unfold opO eG
  cases hn : inG n with
  | true =>
    simp only [if_true]
    refine (shut19_yes h n hn).mono ?_
    rintro e w' ⟨he, h1, h2⟩
    exact ⟨he, F, h1, h2, Nf.refl _ _⟩
  | false =>
    simp only [Bool.false_eq_true, if_false]
    refine (shut19_no w g n hn).mono ?_
    rintro e w' ⟨he, rfl⟩
    exact ⟨he, WaE.same h⟩
theorem pass16 (h : Gs w g F op W) (n k : Int) (hT : tot W ≤ 4398046511104) : Calls Try.prog 16 #[.pointer (some ⟨g, 0, none⟩), .int .i64 n, .int .i64 k] w fun e w' => OutE e w w' g F op (WP W n k) (lP W n k) (eP n k) := by
  unfold WP lP eP okP
  cases hn : inG n with
  | false => simp only [Bool.false_and, Bool.false_eq_true, if_false]; exact pass16_no h n k hn
  | true =>
    by_cases hk : k < 0
    · simp only [hk, decide_true, Bool.not_true, Bool.and_false, Bool.false_eq_true, if_false, if_true]; exact pass16_neg h n k hn hk
    · simp only [hk, decide_false, Bool.not_false, Bool.and_true, if_true, if_false]; exact pass16_yes h n k hn hk hT
theorem leave17 (h : Gs w g F op W) (x : Int) (hx : W64 x) (hT : tot W ≤ 4398046511104) : Calls Try.prog 17 #[.pointer (some ⟨g, 0, none⟩), .int .i64 x] w fun e w' => e = .returned (.tuple #[.int .i64 (locI W x), .bool (loc W x).isSome]) ∧ WaE w w' g F op (WL W x) := by
  unfold WL locI
  cases hl : loc W x with
  | none =>
    refine (leave17_no h x hx hl).mono ?_
    rintro e w' ⟨he, rfl⟩
    exact ⟨he, WaE.same h⟩
  | some i => exact leave17_yes h x hx hl hT
end
section
variable {w : World} {c : Array Value} {op : Nat → Bool} {ps : List (Int × Int)} {A B : Value} {W : Nat → List Int}
def DcE (e : Ending) (w w' : World) (op : Nat → Bool) (W : Nat → List Int) (ps : List (Int × Int)) (v1 v2 : Value) : Prop := ∃ ps', RcE e w w' op ps' v1 v2 ∧ Iv op W ps' ∧ ps'.length ≤ ps.length + 1
theorem dcome (h : Ds w c op ps A B) (ok : Ok W) (iv : Iv op W ps) (n x : Int) (hx : W64 x) (hl : ps.length ≤ 4398046511103) : Calls Try.prog 24 #[.agg c, .int .i64 n, .int .i64 x] w fun e w' => DcE e w w' op (comeW op W n x) ps (.bool (comeB op W n x)) (.int .i64 (comeE W n x)) := by
  unfold comeW comeB comeE
  cases hn : inG n with
  | false =>
    simp only [Bool.false_and, Bool.false_eq_true, false_and, if_false]
    refine (come24_no h n x hn).mono ?_
    rintro e w' r
    exact ⟨ps, r, iv, by omega⟩
  | true =>
    rcases pos_loc ok iv.rel iv.dk x with ⟨e1, e2⟩ | ⟨k, hk, e1, e2, e3, e4⟩
    · have hp : posI (ps.map (·.1)) x = -1 := by unfold posI; rw [e1]
      cases ho : op n.toNat with
      | true =>
        simp only [e2, Option.isSome_none, Bool.not_false, Bool.and_true, Bool.true_and, Bool.false_eq_true, and_false, if_false, if_true, Bool.true_eq_false]
        refine (come24_open h n x hn (by omega) hp ho).mono ?_
        rintro e w' r
        exact ⟨ps, r, iv, by omega⟩
      | false =>
        simp only [e2, Option.isSome_none, Bool.not_false, Bool.and_true, Bool.and_false, Bool.true_and, Bool.false_eq_true, and_self, if_false, if_true]
        refine (come24_wait h n x hn hl hp ho).mono ?_
        rintro e w' r
        refine ⟨_, r, ⟨iv.rel.put hn, iv.dk.put hn hx e1, fun i hi hop => ?_⟩, by simp⟩
        have hne : i ≠ n.toNat := fun e => by rw [e, ho] at hop; cases hop
        rw [fup_other _ _ hne]
        exact iv.sh i hi hop
    · have hp : 0 ≤ posI (ps.map (·.1)) x := by unfold posI; rw [e1]; show (0 : Int) ≤ (k : Int); omega
      simp only [e3, Option.isSome_some, Bool.not_true, Bool.and_false, Bool.false_and, reduceCtorEq, false_and, and_false, if_false, if_true]
      refine (come24_twice h n x hn (by omega) hp).mono ?_
      rintro e w' r
      exact ⟨ps, r, iv, by omega⟩
def DpE (e : Ending) (w w' : World) (op : Nat → Bool) (W : Nat → List Int) (ps : List (Int × Int)) (L : List Int) (er : Int) : Prop := ∃ ps', RpE e w w' op ps' L er ∧ Iv op W ps' ∧ ps'.length ≤ ps.length
theorem dopen (h : Ds w c op ps A B) (ok : Ok W) (iv : Iv op W ps) (n : Int) (hl : ps.length ≤ 4398046511104) : Calls Try.prog 25 #[.agg c, .int .i64 n, .bool true] w fun e w' => DpE e w w' (opO op n true) (WO W n) ps (waitW W n) (eG n) := by
  unfold opO WO waitW eG
  cases hn : inG n with
  | false =>
    simp only [Bool.false_eq_true, if_false]
    refine (lay25_no h n true hn).mono ?_
    rintro e w' r
    exact ⟨ps, r, iv, Nat.le_refl _⟩
  | true =>
    simp only [if_true]
    obtain ⟨g1, g2⟩ := inG_nat hn
    refine (lay25_open h iv.dk n hn hl).mono ?_
    rintro e w' r
    have hWn : wOf ps n = W n.toNat := by rw [iv.rel _ g1, g2]
    refine ⟨_, by rw [← hWn]; exact r, ⟨?_, iv.dk.sub (lvs_sub _ _), fun i hi hop => ?_⟩, (lvs_sub _ _).length_le⟩
    · have := Rel.pass ok iv.rel g1 (W n.toNat).length
      rw [List.drop_length, g2, hWn, List.take_length] at this
      rw [hWn]
      exact this
    · by_cases e : i = n.toNat
      · rw [e, fup_same]
      · rw [fup_other _ _ e] at hop ⊢
        exact iv.sh i hi hop
theorem dshut (h : Ds w c op ps A B) (iv : Iv op W ps) (n : Int) : Calls Try.prog 25 #[.agg c, .int .i64 n, .bool false] w fun e w' => DpE e w w' (opO op n false) W ps [] (eG n) := by
  unfold opO eG
  cases hn : inG n with
  | false =>
    simp only [Bool.false_eq_true, if_false]
    refine (lay25_no h n false hn).mono ?_
    rintro e w' r
    exact ⟨ps, r, iv, Nat.le_refl _⟩
  | true =>
    simp only [if_true]
    refine (lay25_shut h n hn).mono ?_
    rintro e w' r
    refine ⟨ps, r, ⟨iv.rel, iv.dk, fun i hi hop => ?_⟩, Nat.le_refl _⟩
    by_cases e : i = n.toNat
    · rw [e, fup_same] at hop; cases hop
    · rw [fup_other _ _ e] at hop
      exact iv.sh i hi hop
theorem dpass (h : Ds w c op ps A B) (ok : Ok W) (iv : Iv op W ps) (n k : Int) (hl : ps.length ≤ 4398046511104) : Calls Try.prog 26 #[.agg c, .int .i64 n, .int .i64 k] w fun e w' => DpE e w w' op (WP W n k) ps (lP W n k) (eP n k) := by
  unfold WP lP eP okP
  cases hn : inG n with
  | false =>
    simp only [Bool.false_and, Bool.false_eq_true, if_false]
    refine (pass26_no h n k hn).mono ?_
    rintro e w' r
    exact ⟨ps, r, iv, Nat.le_refl _⟩
  | true =>
    by_cases hk : k < 0
    · simp only [hk, decide_true, Bool.not_true, Bool.and_false, Bool.false_eq_true, if_false, if_true]
      refine (pass26_neg h n k hn hk).mono ?_
      rintro e w' r
      exact ⟨ps, r, iv, Nat.le_refl _⟩
    · simp only [hk, decide_false, Bool.not_false, Bool.and_true, if_true, if_false]
      obtain ⟨g1, g2⟩ := inG_nat hn
      refine (pass26_yes h iv.dk n k hn hk hl).mono ?_
      rintro e w' r
      have hWn : wOf ps n = W n.toNat := by rw [iv.rel _ g1, g2]
      refine ⟨_, by rw [← hWn]; exact r, ⟨?_, iv.dk.sub (lvs_sub _ _), fun i hi hop => ?_⟩, (lvs_sub _ _).length_le⟩
      · have := Rel.pass ok iv.rel g1 k.toNat
        rw [g2] at this
        exact this
      · by_cases e : i = n.toNat
        · rw [e, fup_same, iv.sh _ g1 (by rw [← e]; exact hop)]
          simp
        · rw [fup_other _ _ e]
          exact iv.sh i hi hop
theorem dleave (h : Ds w c op ps A B) (ok : Ok W) (iv : Iv op W ps) (x : Int) (hl : ps.length ≤ 4398046511104) : Calls Try.prog 27 #[.agg c, .int .i64 x] w fun e w' => DcE e w w' op (WL W x) ps (.int .i64 (locI W x)) (.bool (loc W x).isSome) := by
  unfold WL locI
  rcases pos_loc ok iv.rel iv.dk x with ⟨e1, e2⟩ | ⟨k, hk, e1, e2, e3, e4⟩
  · rw [e2]
    refine (leave27_no h x hl (by unfold posI; rw [e1])).mono ?_
    rintro e w' r
    exact ⟨ps, r, iv, by omega⟩
  · rw [e3]
    obtain ⟨g1, g2⟩ := inG_nat e4
    refine (leave27_yes h x hl hk (by unfold posI; rw [e1])).mono ?_
    rintro e w' r
    have hm := ((loc_some ok).1 e3).2
    refine ⟨ps.eraseIdx k, ?_, ?_, by rw [List.length_eraseIdx_of_lt hk]; omega⟩
    · show RcE e w w' op (ps.eraseIdx k) (.int .i64 ((ps[k].2.toNat : Nat) : Int)) (.bool true)
      rw [g2]
      exact r
    · rw [lv_erase iv.dk.nd hk, e2]
      refine ⟨Rel.leave ok iv.rel g1 hm, iv.dk.sub (lv_sub _ _), fun i hi hop => ?_⟩
      by_cases e : i = ps[k].2.toNat
      · have hz := iv.sh _ g1 (by rw [← e]; exact hop)
        rw [hz] at hm
        simp at hm
      · show fup W ps[k].2.toNat (out (W ps[k].2.toNat) x) i = []
        rw [fup_other _ _ e]
        exact iv.sh i hi hop
end
end Go.Proofs.Ytmbjjkdocmcpdaa
