/- The document's table in memory: lists of runs, of who waits for each, and of generations; no program but its types. -/
import Derived.Test.YtpihhlllembdeaaGreatRsl
import Derived.Test.YtpihhlllembdeaaGreatTby
namespace Go.Proofs.YtpihhlllembdeaaGreat
open Go.RowKit Go.Maps Go.ChangeMaps
set_option linter.unusedVariables false
set_option linter.unusedSimpArgs false
/-- A run of the document's, with the slice of who waits. -/
structure De where
  R : Rn
  S : St
  v : Value
def row8 (d : De) : List Value := [.int .i64 d.R.run, .int .i64 d.R.gen, .int .u16 d.R.sp, .string d.R.nm, .bool d.R.rf, .bool d.S.kept, .bool d.S.canc, d.v]
def row3 (x : K × Int) : List Value := [.int .u16 x.1.1, .string x.1.2, .int .i64 x.2]
def row2 (x : K) : List Value := [.int .u16 x.1, .string x.2]
theorem row8_len (d : De) : (row8 d).length = 8 := rfl
theorem row3_len (x : K × Int) : (row3 x).length = 3 := rfl
theorem row2_len (x : K) : (row2 x).length = 2 := rfl
def dv8 (d : De) : Value := .agg #[.int .i64 d.R.run, .int .i64 d.R.gen, .int .u16 d.R.sp, .string d.R.nm, .bool d.R.rf, .bool d.S.kept, .bool d.S.canc, d.v]
def tv (T : Tb) (lv gv : Value) : Value := .agg #[.int .i64 T.fl, .int .i64 T.bg, lv, gv]
/-- A key's generation, by the list. -/
def ofL : List (K × Int) → K → Int
  | [], _ => 0
  | x :: l, k => if x.1 = k then x.2 else ofL l k
theorem ofL_cons (x : K × Int) (l : List (K × Int)) (k : K) : ofL (x :: l) k = if x.1 = k then x.2 else ofL l k := rfl
def onL (gs : List (K × Int)) (k : K) : List (K × Int) := (k, ofL gs k + 1) :: gs.filter (fun x => decide (x.1 ≠ k))
theorem ofL_filter (gs : List (K × Int)) {k j : K} (h : j ≠ k) : ofL (gs.filter (fun x => decide (x.1 ≠ k))) j = ofL gs j := by
  induction gs with
  | nil => rfl
  | cons x l ih =>
    rw [List.filter_cons]
    by_cases e : x.1 = k
    · simp only [e, ne_eq, not_true, decide_false, Bool.false_eq_true, if_false]
      rw [ih]
      unfold ofL
      rw [if_neg (fun e' => h (e'.symm.trans e))]
      cases l <;> rfl
    · rw [if_pos (by simp [e])]
      unfold ofL
      rw [ih]
theorem ofL_on (gs : List (K × Int)) (k j : K) : ofL (onL gs k) j = if j = k then ofL gs k + 1 else ofL gs j := by
  unfold onL
  rw [ofL_cons]
  by_cases e : j = k
  · subst e; simp
  · simp only
    rw [if_neg (fun e' => e e'.symm), if_neg e]
    exact ofL_filter gs e
def desOf (ds : List De) : List (Rn × St) := ds.map (fun d => (d.R, d.S))
/-- Who waits, as the document's slice tells it. -/
def Wv (w : World) (d : De) : Prop := w.ownsRow 0 3 1 d.v d.S.who.length (ints d.S.who)
structure Dt (w : World) (lv gv : Value) (ds : List De) (gs : List (K × Int)) (T : Tb) : Prop where
  rs : T.rs = desOf ds
  lr : w.ownsRow 0 78 8 lv ds.length (ds.flatMap row8)
  wr : ∀ d ∈ ds, Wv w d
  gr : w.ownsRow 0 122 3 gv gs.length (gs.flatMap row3)
  go : ∀ k, ofL gs k = T.gn k
/-- The blocks of the document's table. -/
def fpD (lv gv : Value) (ds : List De) : List Nat := lv.ownBlock.toList ++ (gv.ownBlock.toList ++ ds.flatMap (fun d => d.v.ownBlock.toList))
theorem mem_fpD {lv gv : Value} {ds : List De} {b : Nat} : b ∈ fpD lv gv ds ↔ lv.ownBlock = some b ∨ gv.ownBlock = some b ∨ ∃ d ∈ ds, d.v.ownBlock = some b := by
  simp [fpD]
section
variable {w w' : World} {lv gv : Value} {ds : List De} {gs : List (K × Int)} {T : Tb} {F : List Nat}
theorem Wv.keep {d : De} (h : Wv w d) (X : Touch F w w') (hF : ∀ b, d.v.ownBlock = some b → ¬ b ∈ F) : Wv w' d := own_touch h X hF
theorem Wv.keep0 {d : De} (h : Wv w d) (X : Touch [] w w') : Wv w' d := h.keep X (fun _ _ e => by cases e)
theorem Dt.keep (h : Dt w lv gv ds gs T) (X : Touch F w w') (hF : ∀ b, b ∈ fpD lv gv ds → ¬ b ∈ F) : Dt w' lv gv ds gs T :=
  ⟨h.rs, own_touch h.lr X (fun b hb => hF b (mem_fpD.2 (Or.inl hb))), fun d hd => (h.wr d hd).keep X (fun b hb => hF b (mem_fpD.2 (Or.inr (Or.inr ⟨d, hd, hb⟩)))), own_touch h.gr X (fun b hb => hF b (mem_fpD.2 (Or.inr (Or.inl hb)))), h.go⟩
theorem Dt.keep0 (h : Dt w lv gv ds gs T) (X : Touch [] w w') : Dt w' lv gv ds gs T := h.keep X (fun _ _ e => by cases e)
theorem Dt.lt (h : Dt w lv gv ds gs T) : ∀ b, b ∈ fpD lv gv ds → b < w.heap.size := fun b hb => by
  rcases mem_fpD.1 hb with e | e | ⟨d, hd, e⟩
  · exact (h.lr.lt b e).2
  · exact (h.gr.lt b e).2
  · exact ((h.wr d hd).lt b e).2
theorem Dt.len (h : Dt w lv gv ds gs T) : T.rs.length = ds.length := by rw [h.rs]; simp [desOf]
theorem Dt.form (h : Dt w lv gv ds gs T) : ∃ a c b e, lv = .slice a ds.length c ∧ gv = .slice b gs.length e := by
  obtain ⟨a, c, e1⟩ := own_form h.lr
  obtain ⟨b, e, e2⟩ := own_form h.gr
  exact ⟨a, c, b, e, e1, e2⟩
end
/-- Behind a step of the document's: a new table, in new memory where it is not the old. -/
def DtE (w w' : World) (lv gv : Value) (ds : List De) (lv' gv' : Value) (gs' : List (K × Int)) (T' : Tb) : Prop := ∃ ds', Dt w' lv' gv' ds' gs' T' ∧ Touch [] w w' ∧ ∀ b, b ∈ fpD lv' gv' ds' → b ∈ fpD lv gv ds ∨ w.heap.size ≤ b
/-- Where a run stands; -1: nowhere. -/
def posN : List (Rn × St) → Int → Int
  | [], _ => -1
  | x :: l, n => if x.1.run = n then 0 else if posN l n < 0 then -1 else posN l n + 1
theorem posN_neg {l : List (Rn × St)} {n : Int} (h : ∀ p ∈ l, p.1.run ≠ n) : posN l n = -1 := by
  induction l with
  | nil => rfl
  | cons x r ih =>
    unfold posN
    rw [if_neg (h x (by simp)), ih (fun p hp => h p (by simp [hp]))]
    rfl
theorem posN_at {l : List (Rn × St)} {n : Int} {i : Nat} {p : Rn × St} (hi : l[i]? = some p) (hp : p.1.run = n) (hb : ∀ j q, j < i → l[j]? = some q → q.1.run ≠ n) : posN l n = (i : Int) := by
  induction l generalizing i with
  | nil => simp at hi
  | cons x r ih =>
    unfold posN
    cases i with
    | zero => simp at hi; subst hi; simp [hp]
    | succ i =>
      simp at hi
      rw [if_neg (hb 0 x (by omega) rfl), ih hi (fun j q hj hq => hb (j + 1) q (by omega) (by simpa using hq)), if_neg (by omega)]
      omega
theorem posN_lt {l : List (Rn × St)} {n : Int} : posN l n = -1 ∨ ∃ i p, posN l n = ((i : Nat) : Int) ∧ l[i]? = some p ∧ p.1.run = n ∧ ∀ j q, j < i → l[j]? = some q → q.1.run ≠ n := by
  induction l with
  | nil => exact Or.inl rfl
  | cons x r ih =>
    unfold posN
    by_cases e : x.1.run = n
    · exact Or.inr ⟨0, x, by simp [e], rfl, e, fun j q hj => by omega⟩
    · rw [if_neg e]
      rcases ih with ih | ⟨i, p, h1, h2, h3, h4⟩
      · rw [ih]; exact Or.inl rfl
      · rw [h1, if_neg (by omega)]
        refine Or.inr ⟨i + 1, p, by omega, by simpa using h2, h3, fun j q hj hq => ?_⟩
        cases j with
        | zero => simp at hq; subst hq; exact e
        | succ j => exact h4 j q (by omega) (by simpa using hq)
/-- The first run of a key that is current; -1: none. -/
def posC (g : K → Int) : List (Rn × St) → K → Int
  | [], _ => -1
  | x :: l, k => if kOf x.1 = k ∧ x.1.gen = g k then 0 else if posC g l k < 0 then -1 else posC g l k + 1
theorem posC_lt {g : K → Int} {l : List (Rn × St)} {k : K} : (posC g l k = -1 ∧ ∀ p ∈ l, kOf p.1 = k → p.1.gen ≠ g k) ∨ ∃ i p, posC g l k = ((i : Nat) : Int) ∧ l[i]? = some p ∧ kOf p.1 = k ∧ p.1.gen = g k := by
  induction l with
  | nil => exact Or.inl ⟨rfl, fun p hp => by cases hp⟩
  | cons x r ih =>
    unfold posC
    by_cases e : kOf x.1 = k ∧ x.1.gen = g k
    · exact Or.inr ⟨0, x, by simp [e], rfl, e.1, e.2⟩
    · rw [if_neg e]
      rcases ih with ⟨ih, ih2⟩ | ⟨i, p, h1, h2, h3, h4⟩
      · rw [ih]
        refine Or.inl ⟨rfl, fun p hp hk hg => ?_⟩
        rcases List.mem_cons.1 hp with e' | e'
        · subst e'; exact e ⟨hk, hg⟩
        · exact ih2 p e' hk hg
      · rw [h1, if_neg (by omega)]
        exact Or.inr ⟨i + 1, p, by omega, by simpa using h2, h3, h4⟩
theorem posC_cur {T : Tb} (k : K) : (0 ≤ posC T.gn T.rs k) = ((curOf T k).isSome = true) := by
  rcases posC_lt (g := T.gn) (l := T.rs) (k := k) with ⟨h1, h2⟩ | ⟨i, p, h1, h2, h3, h4⟩
  · rw [h1]
    cases hc : curOf T k with
    | none => simp
    | some R =>
      obtain ⟨⟨S, hm⟩, e1, e2⟩ := curOf_some hc
      exact absurd e2 (h2 (R, S) hm e1)
  · rw [h1]
    cases hc : curOf T k with
    | none => exact absurd h4 (curOf_none hc p (List.mem_of_getElem? h2) h3)
    | some R => simp
end Go.Proofs.YtpihhlllembdeaaGreat
