/- What a memo keeps as plain lists and functions: which outcomes may be and are kept, how an entry is at an age, entries by their keys; no conditions. -/
import Derived.Test.YtopepalpmkeffaaAwk
namespace Go.Proofs.Ytopepalpmkeffaa
open Go.RowKit Go.Sort Go.Maps Go.ChangeMaps Go.WideMaps
set_option linter.unusedVariables false
/-- An outcome: its value, its failure's kind, code and run. -/
abbrev O := Int × Int × Int × Int
abbrev V := O × Int
abbrev En := K × V
def MT : Int := 4611686018427387904
structure Cf where
  t : Int
  n : Int
  s : Int
  e : Int
  f : Int
  b : Int
  d : Int
def ov (o : O) : Value := .agg #[.int .i64 o.1, .int .i64 o.2.1, .int .i64 o.2.2.1, .int .i64 o.2.2.2]
def fv (o : O) : Value := .agg #[.int .i64 o.2.1, .int .i64 o.2.2.1, .int .i64 o.2.2.2]
def ev (x : V) : Value := .agg #[.int .i64 x.1.1, .int .i64 x.1.2.1, .int .i64 x.1.2.2.1, .int .i64 x.1.2.2.2, .int .i64 x.2]
def nv (x : En) : Value := .agg #[.int .u16 x.1.1, .string x.1.2, .int .i64 x.2.1.1, .int .i64 x.2.1.2.1, .int .i64 x.2.1.2.2.1, .int .i64 x.2.1.2.2.2, .int .i64 x.2.2]
def cv (c : Cf) : Value := .agg #[.int .i64 c.t, .int .i64 c.n, .int .i64 c.s, .int .i64 c.e, .int .i64 c.f, .int .i64 c.b, .int .i64 c.d]
def sv (h a : Int) (o : O) : Value := .agg #[.int .i64 h, .int .i64 a, .int .i64 o.1, .int .i64 o.2.1, .int .i64 o.2.2.1, .int .i64 o.2.2.2]
def oz : O := (0, 0, 0, 0)
def mayF (kd cd rn : Int) : Bool :=
  if kd = 0 then decide (cd = 0) && decide (rn = 0) else if kd = 1 then decide (1 ≤ rn) else if kd = 2 then decide (1 ≤ rn)
  else if kd = 3 then decide (cd = 0) && decide (rn = 0) else if kd = 4 then decide (cd = 0) && decide (rn = 0)
  else if kd = 5 then decide (cd = 0) && decide (1 ≤ rn) else false
def nonF (kd cd rn : Int) : Bool := decide (kd = 0) && (decide (cd = 0) && decide (rn = 0))
def right (o : O) : Bool := mayF o.2.1 o.2.2.1 o.2.2.2 && (nonF o.2.1 o.2.2.1 o.2.2.2 || decide (o.1 = 0))
def okC (c : Cf) : Bool := decide (0 ≤ c.t ∧ 0 ≤ c.n ∧ 0 ≤ c.s ∧ 0 ≤ c.d ∧ 0 ≤ c.e ∧ c.e ≤ 65536 ∧ 1 ≤ c.f ∧ c.f ≤ 4096 ∧ 1 ≤ c.b ∧ c.b ≤ 1024)
def keepsC (c : Cf) (o : O) : Bool := if c.e = 0 then false else if o.2.1 = 0 then decide (0 < c.t) else if o.2.1 = 1 then decide (0 < c.n) else if o.2.1 = 2 then decide (0 < c.n) else false
def howC (c : Cf) (o : O) (age : Int) : Int :=
  if o.2.1 = 0 then (if age < c.t then 1 else if age < c.t + c.s then 2 else 3) else (if age < c.n then 1 else 3)
theorem right_none {o : O} (h : right o = true) : o.2.1 = 0 ↔ (o.2.1, o.2.2.1, o.2.2.2) = ((0, 0, 0) : Int × Int × Int) := by
  unfold right mayF at h
  constructor
  · intro e
    rw [if_pos e] at h
    simp only [Bool.and_eq_true, decide_eq_true_eq] at h
    obtain ⟨⟨h1, h2⟩, _⟩ := h
    rw [e, h1, h2]
  · intro e
    simp only [Prod.mk.injEq] at e
    exact e.1
def fnd : List En → K → Option V
  | [], _ => none
  | x :: l, k => if x.1 = k then some x.2 else fnd l k
def drx (xs : List En) (k : K) : List En := xs.filter (fun x => decide (x.1 ≠ k))
def keysL (xs : List En) : List K := xs.map Prod.fst
theorem drx_keys (xs : List En) (k : K) : keysL (drx xs k) = dr (keysL xs) k := by
  unfold keysL drx dr
  rw [List.filter_map]
  rfl
theorem fnd_none {xs : List En} {k : K} (h : ¬ k ∈ keysL xs) : fnd xs k = none := by
  induction xs with
  | nil => rfl
  | cons x l ih =>
    simp only [keysL, List.map_cons, List.mem_cons, not_or] at h
    simp only [fnd]
    rw [if_neg (fun e => h.1 e.symm)]
    exact ih h.2
theorem fnd_some {xs : List En} {k : K} (h : k ∈ keysL xs) : ∃ v, fnd xs k = some v ∧ (k, v) ∈ xs := by
  induction xs with
  | nil => simp [keysL] at h
  | cons x l ih =>
    simp only [fnd]
    by_cases e : x.1 = k
    · rw [if_pos e]
      exact ⟨x.2, rfl, by subst e; simp⟩
    · rw [if_neg e]
      simp only [keysL, List.map_cons, List.mem_cons] at h
      rcases h with h | h
      · exact absurd h.symm e
      · obtain ⟨v, h1, h2⟩ := ih h
        exact ⟨v, h1, List.mem_cons_of_mem _ h2⟩
theorem fnd_mem {xs : List En} {k : K} {v : V} (h : fnd xs k = some v) : (k, v) ∈ xs := by
  by_cases hk : k ∈ keysL xs
  · obtain ⟨v', h1, h2⟩ := fnd_some hk
    rw [h] at h1
    cases h1
    exact h2
  · rw [fnd_none hk] at h; cases h
theorem fnd_isSome (xs : List En) (k : K) : (fnd xs k).isSome = hs (keysL xs) k := by
  by_cases h : k ∈ keysL xs
  · obtain ⟨v, h1, _⟩ := fnd_some h
    rw [h1, hs_yes h]; rfl
  · rw [fnd_none h, hs_no h]; rfl
theorem fnd_of_mem {xs : List En} {x : En} (hn : (keysL xs).Nodup) (h : x ∈ xs) : fnd xs x.1 = some x.2 := by
  induction xs with
  | nil => cases h
  | cons y l ih =>
    simp only [keysL, List.map_cons, List.nodup_cons] at hn
    simp only [fnd]
    rcases List.mem_cons.1 h with e | e
    · subst e; rw [if_pos rfl]
    · rw [if_neg (fun e' => hn.1 (by rw [e']; exact List.mem_map_of_mem e))]
      exact ih hn.2 e
theorem fnd_drx_same (xs : List En) (k : K) : fnd (drx xs k) k = none := by
  apply fnd_none
  unfold keysL drx
  intro h
  obtain ⟨x, hx, rfl⟩ := List.mem_map.1 h
  have := (List.mem_filter.1 hx).2
  simp at this
theorem fnd_drx_other (xs : List En) {k j : K} (h : j ≠ k) : fnd (drx xs k) j = fnd xs j := by
  unfold drx
  induction xs with
  | nil => rfl
  | cons x l ih =>
    rw [List.filter_cons]
    by_cases e : x.1 = k
    · rw [if_neg (by simp [e])]
      rw [ih]
      simp only [fnd]
      rw [if_neg (fun e' => h (e'.symm.trans e))]
    · rw [if_pos (by simp [e])]
      simp only [fnd]
      rw [ih]
theorem fnd_snoc (xs : List En) (k : K) (v : V) (j : K) : fnd (xs ++ [(k, v)]) j = (fnd xs j).or (if k = j then some v else none) := by
  induction xs with
  | nil => simp [fnd]
  | cons x l ih =>
    simp only [List.cons_append, fnd]
    by_cases e : x.1 = j
    · simp [e]
    · simp [e, ih]
theorem fnd_tail {x : En} {l : List En} (hn : ¬ x.1 ∈ keysL l) (j : K) : fnd l j = if j = x.1 then none else fnd (x :: l) j := by
  by_cases e : j = x.1
  · rw [if_pos e, e]; exact fnd_none hn
  · rw [if_neg e]
    simp only [fnd]
    rw [if_neg (fun e' => e e'.symm)]
/-- Behind a Put: the entry is the last, the first goes if there are too many. -/
def putY (xs : List En) (k : K) (v : V) : List En := drx xs k ++ [(k, v)]
def putL (e : Int) (xs : List En) (k : K) (v : V) : List En := if useB e (keysL xs) k then (putY xs k v).tail else putY xs k v
theorem putY_keys (xs : List En) (k : K) (v : V) : keysL (putY xs k v) = useY (keysL xs) k := by
  unfold putY useY
  rw [← drx_keys]
  simp [keysL]
theorem putL_keys (e : Int) (xs : List En) (k : K) (v : V) : keysL (putL e xs k v) = useL e (keysL xs) k := by
  unfold putL useL
  split
  · rw [← putY_keys xs k v]; simp [keysL]
  · exact putY_keys xs k v
theorem fnd_putY (xs : List En) (k : K) (v : V) (j : K) : fnd (putY xs k v) j = if j = k then some v else fnd xs j := by
  unfold putY
  rw [fnd_snoc]
  by_cases e : j = k
  · subst e; rw [fnd_drx_same]; simp
  · rw [fnd_drx_other xs e, if_neg e, if_neg (fun h => e h.symm)]; simp
theorem keysL_len (xs : List En) : (keysL xs).length = xs.length := by simp [keysL]
/-- What may be in a memo. -/
structure Gd (c : Cf) (now : Int) (xs : List En) : Prop where
  oc : okC c = true
  wc : c.t ≤ 9223372036854775807 ∧ c.n ≤ 9223372036854775807 ∧ c.s ≤ 9223372036854775807
  n0 : 0 ≤ now
  n1 : now ≤ MT
  ok : ∀ x ∈ xs, right x.2.1 = true ∧ 0 ≤ x.2.2 ∧ x.2.2 ≤ now
  ln : (xs.length : Int) ≤ c.e
theorem okC_e {c : Cf} (h : okC c = true) : 0 ≤ c.e ∧ c.e ≤ 65536 := by
  unfold okC at h
  simp only [decide_eq_true_eq] at h
  omega
theorem okC_t {c : Cf} (h : okC c = true) : 0 ≤ c.t ∧ 0 ≤ c.n ∧ 0 ≤ c.s := by
  unfold okC at h
  simp only [decide_eq_true_eq] at h
  omega
theorem Gd.later {c : Cf} {now n2 : Int} {xs : List En} (h : Gd c now xs) (h1 : now ≤ n2) (h2 : n2 ≤ MT) : Gd c n2 xs :=
  ⟨h.oc, h.wc, by have := h.n0; omega, h2, fun x hx => by obtain ⟨a, b, d⟩ := h.ok x hx; exact ⟨a, b, by omega⟩, h.ln⟩
theorem Gd.sub {c : Cf} {now : Int} {xs ys : List En} (h : Gd c now xs) (hs : ∀ x ∈ ys, x ∈ xs) (hl : ys.length ≤ xs.length) : Gd c now ys :=
  ⟨h.oc, h.wc, h.n0, h.n1, fun x hx => h.ok x (hs x hx), by have := h.ln; omega⟩
theorem drx_le (xs : List En) (k : K) : (drx xs k).length ≤ xs.length := List.length_filter_le _ _
theorem Gd.drop {c : Cf} {now : Int} {xs : List En} (h : Gd c now xs) (k : K) : Gd c now (drx xs k) :=
  h.sub (fun x hx => (List.mem_filter.1 hx).1) (drx_le _ _)
theorem putL_len {c : Cf} {xs : List En} (h : (xs.length : Int) ≤ c.e) (h0 : 0 ≤ c.e) (k : K) (v : V) : ((putL c.e xs k v).length : Int) ≤ c.e := by
  have h1 : (putY xs k v).length ≤ xs.length + 1 := by
    unfold putY
    have := drx_le xs k
    simp only [List.length_append, List.length_singleton]
    omega
  have h2 : ((useY (keysL xs) k).length) = (putY xs k v).length := by rw [← putY_keys xs k v, keysL_len]
  unfold putL
  by_cases hb : useB c.e (keysL xs) k = true
  · rw [if_pos hb, List.length_tail]
    omega
  · rw [if_neg hb]
    unfold useB at hb
    simp only [decide_eq_true_eq] at hb
    omega
theorem mem_putY {xs : List En} {k : K} {v : V} {x : En} (h : x ∈ putY xs k v) : x ∈ xs ∨ x = (k, v) := by
  unfold putY at h
  rcases List.mem_append.1 h with h | h
  · exact Or.inl (List.mem_filter.1 h).1
  · exact Or.inr (by simpa using h)
theorem mem_putL {e : Int} {xs : List En} {k : K} {v : V} {x : En} (h : x ∈ putL e xs k v) : x ∈ xs ∨ x = (k, v) := by
  unfold putL at h
  split at h
  · exact mem_putY (List.mem_of_mem_tail h)
  · exact mem_putY h
theorem Gd.put {c : Cf} {now : Int} {xs : List En} (h : Gd c now xs) (k : K) (v : V) (hv : right v.1 = true ∧ 0 ≤ v.2 ∧ v.2 ≤ now) : Gd c now (putL c.e xs k v) :=
  ⟨h.oc, h.wc, h.n0, h.n1, fun x hx => by
    rcases mem_putL hx with e | e
    · exact h.ok x e
    · subst e; exact hv, putL_len h.ln (okC_e h.oc).1 k v⟩
end Go.Proofs.Ytopepalpmkeffaa
