/- Tokens as a plain list: who hangs on whom, the linked lists of those that hang on one, the search down from a token; no program, no conditions. -/
namespace Go.Proofs.Ytbjnajiicljnbaa
set_option linter.unusedVariables false
structure Tk where
  par : Nat
  hol : Nat
  why : Nat
  ch : Nat
  el : Nat
def tk0 : Tk := ⟨0, 0, 0, 0, 0⟩
/-- The token of a number, from 1 on. -/
def tk (S : List Tk) (m : Nat) : Tk := S[m - 1]?.getD tk0
theorem tk_eq {S : List Tk} {m : Nat} (h : m - 1 < S.length) : tk S m = S[m - 1] := by unfold tk; rw [List.getElem?_eq_getElem h]; rfl
theorem tk_out {S : List Tk} {m : Nat} (h : S.length ≤ m - 1) : tk S m = tk0 := by unfold tk; rw [List.getElem?_eq_none h]; rfl
theorem tk_set {S : List Tk} {m j : Nat} {x : Tk} (h1 : 1 ≤ m) (h2 : m ≤ S.length) (hj : 1 ≤ j) : tk (S.set (m - 1) x) j = if j = m then x else tk S j := by
  unfold tk
  rw [List.getElem?_set]
  by_cases e : j = m
  · subst e
    rw [if_pos rfl, if_pos rfl, if_pos (by omega)]
    rfl
  · rw [if_neg (by omega), if_neg e]
theorem tk_app {S : List Tk} {m : Nat} {x : Tk} (h1 : 1 ≤ m) (h2 : m ≤ S.length) : tk (S ++ [x]) m = tk S m := by
  unfold tk
  rw [List.getElem?_append_left (by omega)]
theorem tk_new {S : List Tk} {x : Tk} : tk (S ++ [x]) (S.length + 1) = x := by
  unfold tk
  simp
def ups (S : List Tk) : Nat → Nat → Nat → Bool
  | 0, _, _ => false
  | f + 1, p, n => if p = 0 then false else if p = n then true else ups S f (tk S p).par n
/-- Does a token hang on another one, or on one that does? -/
def hg (S : List Tk) (m n : Nat) : Bool := ups S m (tk S m).par n
def ParLt (S : List Tk) : Prop := ∀ m, 1 ≤ m → m ≤ S.length → (tk S m).par < m
theorem ParLt.all {S : List Tk} (h : ParLt S) {m : Nat} (hm : 1 ≤ m) : (tk S m).par < m := by
  by_cases e : m ≤ S.length
  · exact h m hm e
  · rw [tk_out (by omega)]; exact hm
theorem ups_zero (S : List Tk) (f n : Nat) : ups S f 0 n = false := by cases f <;> simp [ups]
theorem ups_fuel {S : List Tk} (h : ParLt S) (n : Nat) : ∀ f g p, p ≤ f → p ≤ g → ups S f p n = ups S g p n
  | 0, g, p, hf, hg => by obtain rfl : p = 0 := by omega
                          rw [ups_zero, ups_zero]
  | f + 1, 0, p, hf, hg => by obtain rfl : p = 0 := by omega
                              rw [ups_zero, ups_zero]
  | f + 1, g + 1, p, hf, hg => by
    unfold ups
    by_cases e : p = 0
    · simp [e]
    · have := h.all (m := p) (by omega)
      rw [ups_fuel h n f g (tk S p).par (by omega) (by omega)]
theorem hg_eq {S : List Tk} (h : ParLt S) {m : Nat} (hm : 1 ≤ m) (n : Nat) : hg S m n = if (tk S m).par = 0 then false else if (tk S m).par = n then true else hg S (tk S m).par n := by
  have h1 := h.all hm
  obtain ⟨f, rfl⟩ : ∃ f, m = f + 1 := ⟨m - 1, by omega⟩
  unfold hg
  rw [ups]
  by_cases e : (tk S (f + 1)).par = 0
  · simp [e]
  · have h2 := h.all (m := (tk S (f + 1)).par) (by omega)
    rw [ups_fuel h n f (tk S (f + 1)).par _ (by omega) (by omega)]
theorem hg_iff {S : List Tk} (h : ParLt S) {m : Nat} (hm : 1 ≤ m) (n : Nat) : hg S m n = true ↔ (tk S m).par ≠ 0 ∧ ((tk S m).par = n ∨ hg S (tk S m).par n = true) := by
  rw [hg_eq h hm]
  by_cases e : (tk S m).par = 0
  · simp [e]
  · rw [if_neg e]
    by_cases e2 : (tk S m).par = n
    · simp [e2]
      rw [← e2]; exact e
    · rw [if_neg e2]
      simp [e, e2]
theorem hg_lt {S : List Tk} (h : ParLt S) (m n : Nat) (hm : 1 ≤ m) (hh : hg S m n = true) : n < m ∧ 1 ≤ n := by
  have key : ∀ b m, m ≤ b → 1 ≤ m → hg S m n = true → n < m ∧ 1 ≤ n := by
    intro b
    induction b with
    | zero => intro m hb h1; omega
    | succ b ih =>
      intro m hb h1 hh
      have h2 := h.all h1
      obtain ⟨h3, h4 | h4⟩ := (hg_iff h h1 n).1 hh
      · omega
      · have := ih (tk S m).par (by omega) (by omega) h4
        omega
  exact key m m (Nat.le_refl _) hm hh
/-- Those that hang on a token itself, the last one first. -/
def kids (S : List Tk) (n : Nat) : List Nat := ((List.range' 1 S.length).filter (fun m => (tk S m).par == n)).reverse
theorem mem_kids {S : List Tk} {n m : Nat} : m ∈ kids S n ↔ 1 ≤ m ∧ m ≤ S.length ∧ (tk S m).par = n := by
  unfold kids
  simp
  omega
theorem nodup_kids (S : List Tk) (n : Nat) : (kids S n).Nodup := by
  unfold kids
  unfold List.Nodup
  rw [List.pairwise_reverse]
  exact (List.Pairwise.filter _ (List.nodup_range' 1)).imp (fun h => Ne.symm h)
def Lk (S : List Tk) : Nat → List Nat → Prop
  | m, [] => m = 0
  | m, k :: ks => m = k ∧ Lk S (tk S k).el ks
theorem Lk.congr {S S' : List Tk} : ∀ {m : Nat} {ks : List Nat}, (∀ k, k ∈ ks → (tk S' k).el = (tk S k).el) → Lk S m ks → Lk S' m ks
  | m, [], _, h => h
  | m, k :: ks, he, h => ⟨h.1, by rw [he k List.mem_cons_self]; exact Lk.congr (fun j hj => he j (List.mem_cons_of_mem _ hj)) h.2⟩
structure Ok (S : List Tk) : Prop where
  par : ParLt S
  lk : ∀ n, 1 ≤ n → n ≤ S.length → Lk S (tk S n).ch (kids S n)
  dn : ∀ m, 1 ≤ m → m ≤ S.length → (tk S m).par ≠ 0 → (tk S (tk S m).par).why ≠ 0 → (tk S m).why ≠ 0
  wy : ∀ m, 1 ≤ m → m ≤ S.length → (tk S m).why ≠ 0 → ((tk S m).why = m ∨ hg S m (tk S m).why = true) ∧ (tk S (tk S m).why).why ≠ 0
/-- What of those that hang on a token is looked under. -/
def kd (S : List Tk) (q : Nat → Bool) (k : Nat) : List Nat := (kids S k).filter q
structure Bf (S : List Tk) (q : Nat → Bool) (n : Nat) (F : List Nat) (i : Nat) : Prop where
  le : i ≤ F.length
  eq : F = n :: (F.take i).flatMap (kd S q)
  nd : F.Nodup
  va : ∀ m, m ∈ F → n ≤ m ∧ m ≤ S.length
structure Bi (S : List Tk) (q : Nat → Bool) (n : Nat) (F : List Nat) (i k : Nat) (rest : List Nat) : Prop where
  lt : i < F.length
  at_ : F[i]? = some k
  nd : F.Nodup
  va : ∀ m, m ∈ F → n ≤ m ∧ m ≤ S.length
  eq : ∃ seen, kids S k = seen ++ rest ∧ F = n :: ((F.take i).flatMap (kd S q) ++ seen.filter q)
section
variable {S : List Tk} {q : Nat → Bool} {n i k m : Nat} {F rest : List Nat}
theorem Bf.start (hn : n ≤ S.length) : Bf S q n [n] 0 := ⟨by simp, by simp, by simp, fun m hm => by simp at hm; omega⟩
theorem Bf.inner (h : Bf S q n F i) (hi : i < F.length) (hk : F[i]? = some k) : Bi S q n F i k (kids S k) := ⟨hi, hk, h.nd, h.va, [], rfl, by simpa using h.eq⟩
theorem Bi.skip (h : Bi S q n F i k (m :: rest)) (hq : q m = false) : Bi S q n F i k rest := by
  obtain ⟨seen, e1, e2⟩ := h.eq
  exact ⟨h.lt, h.at_, h.nd, h.va, seen ++ [m], by simp [e1], by simpa [List.filter_append, hq] using e2⟩
theorem Bi.kid (h : Bi S q n F i k (m :: rest)) : m ∈ kids S k := by
  obtain ⟨seen, e1, e2⟩ := h.eq
  rw [e1]; simp
theorem Bi.add (hp : ParLt S) (hn : 1 ≤ n) (h : Bi S q n F i k (m :: rest)) (hq : q m = true) : Bi S q n (F ++ [m]) i k rest := by
  have hm := mem_kids.1 h.kid
  have hkF : k ∈ F := List.mem_of_getElem? h.at_
  have hkn := h.va k hkF
  have hlt := hp.all hm.1
  obtain ⟨seen, e1, e2⟩ := h.eq
  have ht : (F ++ [m]).take i = F.take i := List.take_append_of_le_length (Nat.le_of_lt h.lt)
  refine ⟨by have := h.lt; simp; omega, ?_, ?_, fun j hj => ?_, seen ++ [m], by simp [e1], ?_⟩
  · rw [List.getElem?_append_left h.lt]; exact h.at_
  · rw [List.nodup_append]
    refine ⟨h.nd, by simp, fun a ha b hb => ?_⟩
    simp at hb
    subst hb
    intro e
    subst e
    rw [e2] at ha
    rcases List.mem_cons.1 ha with ha | ha
    · omega
    · rcases List.mem_append.1 ha with ha | ha
      · obtain ⟨p, hp1, hp2⟩ := List.mem_flatMap.1 ha
        have hp3 := (mem_kids.1 (List.mem_filter.1 hp2).1).2.2
        have : p = k := by rw [← hp3, hm.2.2]
        subst this
        obtain ⟨j, hj, hje⟩ := List.mem_iff_getElem.1 hp1
        rw [List.length_take] at hj
        rw [List.getElem_take] at hje
        have hiF := h.at_
        rw [List.getElem?_eq_getElem h.lt] at hiF
        have := (List.pairwise_iff_getElem.1 h.nd) j i (by have := h.lt; omega) h.lt (by omega)
        injection hiF with hiF
        exact this (hje.trans hiF.symm)
      · have hnd := nodup_kids S k
        rw [e1, List.nodup_append] at hnd
        exact hnd.2.2 a (List.mem_filter.1 ha).1 a (by simp) rfl
  · rcases List.mem_append.1 hj with hj | hj
    · exact h.va j hj
    · simp at hj
      omega
  · rw [ht, List.filter_append]
    conv => lhs; rw [e2]
    simp [hq]
theorem Bi.done (h : Bi S q n F i k []) : Bf S q n F (i + 1) := by
  obtain ⟨seen, e1, e2⟩ := h.eq
  have hk := h.at_
  rw [List.getElem?_eq_getElem h.lt] at hk
  injection hk with hk
  refine ⟨h.lt, ?_, h.nd, h.va⟩
  rw [List.take_succ_eq_append_getElem h.lt, hk]
  simp at e1
  simpa [kd, e1] using e2
theorem Bf.length (h : Bf S q n F i) (hn : 1 ≤ n) : F.length ≤ S.length := by
  have := h.nd.length_le_of_subset (l₂ := List.range' 1 S.length) (fun m hm => by have := h.va m hm; simp; omega)
  simpa using this
theorem Bi.length (h : Bi S q n F i k rest) (hn : 1 ≤ n) : F.length ≤ S.length := by
  have := h.nd.length_le_of_subset (l₂ := List.range' 1 S.length) (fun m hm => by have := h.va m hm; simp; omega)
  simpa using this
/-- A token and those under it, rising, by q alone. -/
def brL (S : List Tk) (q : Nat → Bool) (n : Nat) : List Nat := (List.range' 1 S.length).filter (fun m => m == n || (hg S m n && q m))
theorem Bf.mem (hp : ParLt S) (hn : 1 ≤ n) (hnS : n ≤ S.length) (hq : ∀ m, 1 ≤ m → m ≤ S.length → hg S m n = true → q m = true → (tk S m).par = n ∨ q (tk S m).par = true) (h : Bf S q n F i) (hi : i = F.length) :
    ∀ m, m ∈ F ↔ m ∈ brL S q n := by
  have e := h.eq
  rw [hi, List.take_length] at e
  have hin : n ∈ F := by rw [e]; simp
  have key : ∀ m, m ∈ F ↔ m = n ∨ ∃ p, p ∈ F ∧ m ∈ kids S p ∧ q m = true := fun m => by
    conv => lhs; rw [e]
    simp [kd, List.mem_filter]
  have fwd : ∀ b m, m ≤ b → m ∈ F → m = n ∨ (hg S m n = true ∧ q m = true) := by
    intro b
    induction b with
    | zero => intro m hb hm; have := h.va m hm; omega
    | succ b ih =>
      intro m hb hm
      rcases (key m).1 hm with h1 | ⟨p, h1, h2, h3⟩
      · exact Or.inl h1
      · have h4 := mem_kids.1 h2
        have h5 := hp.all h4.1
        refine Or.inr ⟨(hg_iff hp h4.1 n).2 ⟨by have := h.va p h1; omega, ?_⟩, h3⟩
        rw [h4.2.2]
        rcases ih p (by omega) h1 with h6 | h6
        · exact Or.inl h6
        · exact Or.inr h6.1
  have bwd : ∀ b m, m ≤ b → 1 ≤ m → m ≤ S.length → hg S m n = true → q m = true → m ∈ F := by
    intro b
    induction b with
    | zero => intro m hb h1; omega
    | succ b ih =>
      intro m hb h1 h2 h3 h4
      have h5 := hp.all h1
      obtain ⟨h6, h7⟩ := (hg_iff hp h1 n).1 h3
      refine (key m).2 (Or.inr ⟨(tk S m).par, ?_, mem_kids.2 ⟨h1, h2, rfl⟩, h4⟩)
      rcases h7 with h7 | h7
      · rw [h7]; exact hin
      · rcases hq m h1 h2 h3 h4 with h8 | h8
        · rw [h8]; exact hin
        · exact ih _ (by omega) (by omega) (by omega) h7 h8
  intro m
  unfold brL
  rw [List.mem_filter]
  simp
  constructor
  · intro hm
    have := h.va m hm
    exact ⟨by omega, fwd m m (Nat.le_refl _) hm⟩
  · rintro ⟨h1, h2 | h2⟩
    · rw [h2]; exact hin
    · exact bwd m m (Nat.le_refl _) h1.1 (by omega) h2.1 h2.2
theorem brL_lt (S : List Tk) (q : Nat → Bool) (n : Nat) : (brL S q n).Pairwise (· < ·) := (List.pairwise_lt_range' 1).filter _
def toI (l : List Nat) : List Int := l.map (fun n : Nat => (n : Int))
theorem Bf.sorted (hp : ParLt S) (hn : 1 ≤ n) (hnS : n ≤ S.length) (hq : ∀ m, 1 ≤ m → m ≤ S.length → hg S m n = true → q m = true → (tk S m).par = n ∨ q (tk S m).par = true) (h : Bf S q n F i) (hi : i = F.length) :
    (toI F).mergeSort (fun x y => decide (x ≤ y)) = toI (brL S q n) := by
  have hm := h.mem hp hn hnS hq hi
  have p1 : F.Perm (brL S q n) := (List.perm_ext_iff_of_nodup h.nd ((brL_lt S q n).imp (fun h => Nat.ne_of_lt h))).2 hm
  have p2 : ((toI F).mergeSort (fun x y => decide (x ≤ y))).Perm (toI (brL S q n)) := (List.mergeSort_perm _ _).trans (p1.map _)
  refine List.Perm.eq_of_pairwise (le := fun x y : Int => x ≤ y) (fun a b _ _ h1 h2 => Int.le_antisymm h1 h2) ?_ ?_ p2
  · have := List.pairwise_mergeSort (le := fun x y : Int => decide (x ≤ y)) (fun a b c => by simp; omega) (fun a b => by simp; omega) (toI F)
    exact this.imp (fun h => by simpa using h)
  · unfold toI
    rw [List.pairwise_map]
    exact (brL_lt S q n).imp (fun h => by omega)
end
end Go.Proofs.Ytbjnajiicljnbaa
