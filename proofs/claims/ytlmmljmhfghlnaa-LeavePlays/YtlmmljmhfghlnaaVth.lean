/- What seats are, in plain words: a list, and the tokens that are cancelled; chains with both neighbours as plain functions; no conditions. -/
import Derived.Test.YtlmmljmhfghlnaaMpg
namespace Go.Proofs.Ytlmmljmhfghlnaa
open Go.RowKit Go.Maps Go.ChangeMaps
set_option linter.unusedVariables false
set_option linter.unusedSimpArgs false
/-- A seat: its caller, run and token. -/
abbrev Se := Int × Int × Int
/-- By what seats are meant: caller, run, token. -/
def bn (b : Nat) (x : Se) : Int := match b with | 0 => x.1 | 1 => x.2.1 | _ => x.2.2
def inL (b : Nat) (n : Int) (L : List Se) : List Se := L.filter (fun x => decide (bn b x = n))
def outL (b : Nat) (n : Int) (L : List Se) : List Se := L.filter (fun x => !decide (bn b x = n))
def whr (L : List Se) (c : Int) : Option Se := L.find? (fun x => decide (x.1 = c))
def may (x : Se) : Bool := decide (1 ≤ x.1) && decide (1 ≤ x.2.1) && decide (0 ≤ x.2.2)
def sitE (L : List Se) (G : List Int) (x : Se) : Int := if may x = false then 150 else if x.2.2 ∈ G then 152 else if (whr L x.1).isSome then 151 else 0
def sitL (L : List Se) (G : List Int) (x : Se) : List Se := if sitE L G x = 0 then L ++ [x] else L
def canG (G : List Int) (t : Int) : List Int := if t < 1 then G else if t ∈ G then G else G ++ [t]
def canL (L : List Se) (t : Int) : List Se := if t < 1 then L else outL 2 t L
def canA (L : List Se) (t : Int) : List Se := if t < 1 then [] else inL 2 t L
def emp (L : List Se) : List Int → List Int → List Int
  | acc, [] => acc
  | acc, r :: rs => if inL 1 r L = [] ∧ ¬ r ∈ acc then emp L (acc ++ [r]) rs else emp L acc rs
def Wf (x : Se) : Prop := W64 x.1 ∧ W64 x.2.1 ∧ W64 x.2.2
/-- What holds of seats between two calls. -/
structure Iv (L : List Se) (G : List Int) (N : Nat) : Prop where
  nc : (L.map Prod.fst).Nodup
  ok : ∀ x ∈ L, may x = true ∧ Wf x
  ng : G.Nodup
  wg : ∀ t ∈ G, 1 ≤ t ∧ W64 t
  ll : L.length ≤ N
  lg : G.length ≤ N
theorem Iv.mono {L : List Se} {G : List Int} {N M : Nat} (h : Iv L G N) (hm : N ≤ M) : Iv L G M := { h with ll := Nat.le_trans h.ll hm, lg := Nat.le_trans h.lg hm }
theorem Iv.sub {L M : List Se} {G : List Int} {N : Nat} (h : Iv L G N) (hs : M.Sublist L) : Iv M G N :=
  { h with nc := h.nc.sublist (hs.map _), ok := fun x hx => h.ok x (hs.subset hx), ll := Nat.le_trans hs.length_le h.ll }
theorem Iv.out {L : List Se} {G : List Int} {N : Nat} (h : Iv L G N) (b : Nat) (n : Int) : Iv (outL b n L) G N := h.sub List.filter_sublist
theorem Iv.canG {L : List Se} {G : List Int} {N : Nat} (h : Iv L G N) {t : Int} (ht : W64 t) : Iv L (canG G t) (N + 1) := by
  unfold Ytlmmljmhfghlnaa.canG
  split
  · exact h.mono (Nat.le_succ N)
  · split
    · exact h.mono (Nat.le_succ N)
    · rename_i h1 h2
      refine { h.mono (Nat.le_succ N) with ng := nd_snoc h.ng h2, wg := fun s hs => ?_, lg := by have := h.lg; simp; omega }
      rcases List.mem_append.1 hs with e | e
      · exact h.wg s e
      · simp only [List.mem_singleton] at e
        subst e
        exact ⟨by omega, ht⟩
theorem whr_none {L : List Se} {c : Int} : (whr L c).isSome = false ↔ ∀ x ∈ L, x.1 ≠ c := by
  unfold whr
  constructor
  · intro h x hx e
    have : (L.find? (fun x => decide (x.1 = c))).isSome = true := List.find?_isSome.2 ⟨x, hx, by simp [e]⟩
    rw [h] at this
    cases this
  · intro h
    rw [List.find?_eq_none.2 (fun x hx => by simp [h x hx])]
    rfl
theorem whr_mem {L : List Se} {c : Int} {x : Se} (h : whr L c = some x) : x ∈ L ∧ x.1 = c := by
  unfold whr at h
  exact ⟨List.mem_of_find?_eq_some h, by simpa using List.find?_some h⟩
theorem sit0 {L : List Se} {G : List Int} {x : Se} (h : sitE L G x = 0) : may x = true ∧ ¬ x.2.2 ∈ G ∧ ∀ y ∈ L, y.1 ≠ x.1 := by
  unfold sitE at h
  split at h
  · simp at h
  · rename_i h1
    split at h
    · simp at h
    · rename_i h2
      split at h
      · simp at h
      · rename_i h3
        exact ⟨by simpa using h1, h2, whr_none.1 (by simpa using h3)⟩
theorem Iv.snoc {L : List Se} {G : List Int} {N : Nat} (h : Iv L G N) {x : Se} (hx : Wf x) (hm : may x = true) (hn : ∀ y ∈ L, y.1 ≠ x.1) : Iv (L ++ [x]) G (N + 1) := by
  refine { h.mono (Nat.le_succ N) with nc := ?_, ok := fun y hy => ?_, ll := by have := h.ll; simp; omega }
  · rw [List.map_append, List.map_cons, List.map_nil]
    refine nd_snoc h.nc (fun e => ?_)
    obtain ⟨y, hy, e⟩ := List.mem_map.1 e
    exact hn y hy e
  · rcases List.mem_append.1 hy with e | e
    · exact h.ok y e
    · simp only [List.mem_singleton] at e
      subst e
      exact ⟨hm, hx⟩
theorem Iv.sit {L : List Se} {G : List Int} {N : Nat} (h : Iv L G N) {x : Se} (hx : Wf x) : Iv (sitL L G x) G (N + 1) := by
  unfold sitL
  split
  · rename_i h0
    obtain ⟨h1, h2, h3⟩ := sit0 h0
    exact h.snoc hx h1 h3
  · exact h.mono (Nat.le_succ N)
/-- Of callers that are unlike, a caller's seat is the only one. -/
theorem in_caller {L : List Se} (h : (L.map Prod.fst).Nodup) {x : Se} (hx : x ∈ L) : inL 0 x.1 L = [x] := by
  unfold inL
  induction L with
  | nil => cases hx
  | cons y r ih =>
    rw [List.map_cons, List.nodup_cons] at h
    rcases List.mem_cons.1 hx with e | e
    · subst e
      rw [List.filter_cons_of_pos (by simp [bn])]
      rw [List.filter_eq_nil_iff.2 (fun y hy => ?_)]
      simp only [bn, decide_eq_true_eq]
      exact fun e => h.1 (List.mem_map.2 ⟨y, hy, e⟩)
    · rw [List.filter_cons_of_neg ?_, ih h.2 e]
      simp only [bn, decide_eq_true_eq]
      exact fun e' => h.1 (List.mem_map.2 ⟨x, e, e'.symm⟩)
theorem out_none {L : List Se} {c : Int} (h : ∀ x ∈ L, x.1 ≠ c) : outL 0 c L = L := by
  unfold outL
  rw [List.filter_eq_self]
  intro x hx
  simp [bn, h x hx]
/-- Callers' seats taken away, one after another. -/
def outs (L : List Se) (xs : List Se) : List Se := xs.foldl (fun M x => outL 0 x.1 M) L
theorem outs_eq (L xs : List Se) : outs L xs = L.filter (fun y => !decide (y.1 ∈ xs.map Prod.fst)) := by
  induction xs generalizing L with
  | nil => exact (List.filter_eq_self.2 (fun _ _ => rfl)).symm
  | cons x r ih =>
    rw [outs, List.foldl_cons, ← outs, ih]
    unfold outL
    rw [List.filter_filter]
    refine List.filter_congr (fun y _ => ?_)
    simp only [bn, List.map_cons, List.mem_cons]
    by_cases h1 : y.1 = x.1 <;> by_cases h2 : y.1 ∈ r.map Prod.fst <;> simp [h1, h2]
theorem outs_in {L : List Se} (h : (L.map Prod.fst).Nodup) (b : Nat) (n : Int) : outs L (inL b n L) = outL b n L := by
  rw [outs_eq]
  unfold outL
  refine List.filter_congr (fun y hy => ?_)
  congr 1
  rw [decide_eq_decide]
  constructor
  · intro e
    obtain ⟨z, hz, e⟩ := List.mem_map.1 e
    have hz' := List.mem_filter.1 hz
    have : z = y := by
      have h1 := in_caller h hy
      have h2 : z ∈ inL 0 y.1 L := List.mem_filter.2 ⟨hz'.1, by simp [bn, e]⟩
      rw [h1] at h2
      simpa using h2
    subst this
    simpa using hz'.2
  · intro e
    exact List.mem_map.2 ⟨y, List.mem_filter.2 ⟨hy, by simp [e]⟩, rfl⟩
theorem outs_snoc (L xs : List Se) (x : Se) : outs L (xs ++ [x]) = outL 0 x.1 (outs L xs) := by simp [outs]
/-- A chain: each one's neighbours ahead and behind. -/
def Lk (f g : Nat → Option Nat) : Option Nat → List Nat → Prop
  | _, [] => True
  | p, q :: r => f q = p ∧ g q = r.head? ∧ Lk f g (some q) r
def lastO : Option Nat → List Nat → Option Nat
  | p, [] => p
  | _, q :: r => lastO (some q) r
def updO (f : Nat → Option Nat) (o : Option Nat) (v : Option Nat) : Nat → Option Nat := fun j => if o = some j then v else f j
theorem Lk.congr {f g f' g' : Nat → Option Nat} : ∀ {p : Option Nat} {xs : List Nat}, Lk f g p xs → (∀ q ∈ xs, f' q = f q ∧ g' q = g q) → Lk f' g' p xs
  | _, [], _, _ => trivial
  | p, q :: r, h, hc => ⟨(hc q (by simp)).1.trans h.1, (hc q (by simp)).2.trans h.2.1, Lk.congr h.2.2 (fun z hz => hc z (by simp [hz]))⟩
theorem lastO_mem : ∀ {xs : List Nat} {p : Option Nat} {z : Nat}, lastO p xs = some z → p = some z ∨ z ∈ xs
  | [], p, z, h => Or.inl h
  | q :: r, p, z, h => by
    rcases lastO_mem (xs := r) h with e | e
    · simp only [Option.some.injEq] at e
      exact Or.inr (by simp [e])
    · exact Or.inr (by simp [e])
theorem lastO_append (u v : List Nat) (p : Option Nat) : lastO p (u ++ v) = lastO (lastO p u) v := by
  induction u generalizing p with
  | nil => rfl
  | cons a r ih => exact ih (some a)
theorem lastO_none {xs : List Nat} (h : lastO none xs = none) : xs = [] := by
  cases xs with
  | nil => rfl
  | cons a r =>
    exfalso
    have : ∀ (r : List Nat) (a : Nat), lastO (some a) r ≠ none := fun r => by
      induction r with
      | nil => intro a; simp [lastO]
      | cons b s ih => intro a; exact ih b
    exact this r a h
theorem Lk.at {f g : Nat → Option Nat} {q : Nat} {v : List Nat} : ∀ {p : Option Nat} {u : List Nat}, Lk f g p (u ++ q :: v) → f q = lastO p u ∧ g q = v.head?
  | p, [], h => ⟨h.1, h.2.1⟩
  | p, a :: u, h => Lk.at (p := some a) (u := u) h.2.2
theorem Lk.next {f g : Nat → Option Nat} {p : Option Nat} {xs : List Nat} (h : Lk f g p xs) {i q : Nat} (hi : xs[i]? = some q) : g q = xs[i + 1]? := by
  induction xs generalizing p i with
  | nil => simp at hi
  | cons a r ih =>
    cases i with
    | zero =>
      simp at hi
      subst hi
      rw [h.2.1]
      simp [List.head?_eq_getElem?]
    | succ i => simpa using ih h.2.2 (by simpa using hi)
/-- One more, behind all others. -/
theorem Lk.snoc {f g : Nat → Option Nat} {q : Nat} : ∀ {p : Option Nat} {xs : List Nat}, Lk f g p xs → (xs ++ [q]).Nodup → g q = none → p ≠ some q →
    Lk (updO f (some q) (lastO p xs)) (updO g (lastO p xs) (some q)) p (xs ++ [q])
  | p, [], h, hn, hg, hp => by
    refine ⟨by simp [updO, lastO], ?_, trivial⟩
    simp [updO, lastO, hp, hg]
  | p, a :: r, h, hn, hg, hp => by
    have hn' : a ∉ r ++ [q] ∧ (r ++ [q]).Nodup := List.nodup_cons.1 hn
    have haq : a ≠ q := fun e => hn'.1 (by simp [e])
    have ih := Lk.snoc (p := some a) h.2.2 hn'.2 hg (by simpa using haq)
    refine ⟨?_, ?_, ih⟩
    · unfold updO
      rw [if_neg (by simp only [Option.some.injEq]; exact fun e => haq e.symm)]
      exact h.1
    · cases r with
      | nil => simp [updO, lastO]
      | cons b s =>
        have : lastO (some a) (b :: s) ≠ some a := fun e => by
          rcases lastO_mem (xs := s) (p := some b) e with e | e
          · simp only [Option.some.injEq] at e
            exact hn'.1 (by simp [e])
          · exact hn'.1 (by simp [e])
        show updO g (lastO (some a) (b :: s)) (some q) a = _
        unfold updO
        rw [if_neg this, h.2.1]
        rfl
/-- One is taken out. -/
theorem Lk.del {f g : Nat → Option Nat} {q : Nat} {v : List Nat} : ∀ {p : Option Nat} {u : List Nat}, Lk f g p (u ++ q :: v) → (u ++ q :: v).Nodup → (∀ z ∈ u ++ q :: v, p ≠ some z) →
    Lk (updO f (g q) (f q)) (updO g (f q) (g q)) p (u ++ v)
  | p, [], h, hn, hp => by
    obtain ⟨h1, h2, h3⟩ := h
    have hn' : q ∉ v ∧ v.Nodup := List.nodup_cons.1 hn
    show Lk _ _ p v
    rw [h1, h2]
    cases v with
    | nil => trivial
    | cons b s =>
      have hb : b ∉ s ∧ s.Nodup := List.nodup_cons.1 hn'.2
      refine ⟨by simp [updO], ?_, ?_⟩
      · unfold updO
        rw [if_neg (hp b (by simp))]
        exact h3.2.1
      · refine h3.2.2.congr (fun z hz => ⟨?_, ?_⟩)
        · unfold updO
          rw [if_neg]
          simp only [List.head?_cons, Option.some.injEq]
          exact fun e => hb.1 (e ▸ hz)
        · unfold updO
          rw [if_neg (hp z (by simp [hz]))]
  | p, a :: u, h, hn, hp => by
    have hn' : a ∉ u ++ q :: v ∧ (u ++ q :: v).Nodup := List.nodup_cons.1 hn
    have ih := Lk.del (p := some a) (u := u) h.2.2 hn'.2 (fun z hz e => by simp only [Option.some.injEq] at e; exact hn'.1 (e ▸ hz))
    obtain ⟨e1, e2⟩ := Lk.at (p := some a) (u := u) h.2.2
    refine ⟨?_, ?_, ih⟩
    · unfold updO
      rw [if_neg, h.1]
      rw [e2]
      intro e
      exact hn'.1 (by have := List.mem_of_mem_head? e; simp [this])
    · rw [e1, e2]
      have h2 := h.2.1
      cases u with
      | nil => simp [updO, lastO]
      | cons b s =>
        unfold updO
        rw [if_neg]
        · exact h2
        · intro e
          rcases lastO_mem (xs := s) (p := some b) e with e | e
          · simp only [Option.some.injEq] at e
            exact hn'.1 (by simp [e])
          · exact hn'.1 (by simp [e])
end Go.Proofs.Ytlmmljmhfghlnaa
