/- Timers as a plain list, rows of rings in memory, and the clock's answers as plain functions; no conditions. -/
import Derived.Test.YtaioegefoiabhaaDue
import Derived.Test.YtaioegefoiabhaaPut
namespace Go.Proofs.Ytaioegefoiabhaa
open Go.RowKit Go.Maps Go.ChangeMaps
set_option linter.unusedVariables false
/-- A timer: its tick and its number. -/
structure Tm where
  at_ : Int
  it : Int
def tmC (x : Tm) : List Value := [.int .i64 x.it, .int .i64 x.at_]
def flatT (s : List Tm) : List Value := s.flatMap tmC
def gtT (s : List Tm) (i : Nat) : Tm := s.getD i ⟨0, 0⟩
theorem gtT_eq {s : List Tm} {i : Nat} (h : i < s.length) : gtT s i = s[i] := by simp [gtT, List.getD_eq_getElem?_getD, List.getElem?_eq_getElem h]
theorem gtT_cons_succ (x : Tm) (s : List Tm) (i : Nat) : gtT (x :: s) (i + 1) = gtT s i := by simp [gtT]
theorem gtT_cons_zero (x : Tm) (s : List Tm) : gtT (x :: s) 0 = x := by simp [gtT]
theorem gtT_mem {s : List Tm} {i : Nat} (h : i < s.length) : gtT s i ∈ s := by rw [gtT_eq h]; exact List.getElem_mem h
theorem flatT_cons (x : Tm) (s : List Tm) : flatT (x :: s) = .int .i64 x.it :: .int .i64 x.at_ :: flatT s := by simp [flatT, tmC]
theorem flatT_len (s : List Tm) : (flatT s).length = s.length * 2 := by
  induction s with
  | nil => rfl
  | cons x s ih => rw [flatT_cons]; simp [ih]; omega
theorem flatT_app (s t : List Tm) : flatT (s ++ t) = flatT s ++ flatT t := by simp [flatT]
theorem flatT_at : ∀ (s : List Tm) (i : Nat), i < s.length → (flatT s)[i * 2]? = some (.int .i64 (gtT s i).it) ∧ (flatT s)[i * 2 + 1]? = some (.int .i64 (gtT s i).at_)
  | x :: s, 0, _ => by rw [flatT_cons]; simp [gtT]
  | x :: s, i + 1, h => by
    have ih := flatT_at s i (by simpa using h)
    rw [flatT_cons, show (i + 1) * 2 = i * 2 + 1 + 1 by omega, show i * 2 + 1 + 1 + 1 = (i * 2 + 1) + 1 + 1 by omega]
    simpa [gtT] using ih
theorem flatT_take (s : List Tm) (i : Nat) : (flatT s).take (i * 2) = flatT (s.take i) := by
  induction s generalizing i with
  | nil => simp [flatT]
  | cons x s ih =>
    cases i with
    | zero => simp [flatT]
    | succ i => rw [flatT_cons, show (i + 1) * 2 = i * 2 + 1 + 1 by omega, List.take_succ_cons, List.take_succ_cons, ih, List.take_succ_cons, flatT_cons]
theorem flatT_drop (s : List Tm) (i : Nat) : (flatT s).drop (i * 2) = flatT (s.drop i) := by
  induction s generalizing i with
  | nil => simp [flatT]
  | cons x s ih =>
    cases i with
    | zero => simp [flatT]
    | succ i => rw [flatT_cons, show (i + 1) * 2 = i * 2 + 1 + 1 by omega, List.drop_succ_cons, List.drop_succ_cons, ih, List.drop_succ_cons]
theorem one_flatT (l : List Tm) : ∀ u ∈ flatT l, u.oneCell' = true := fun u hu => by
  unfold flatT at hu
  rw [List.mem_flatMap] at hu
  obtain ⟨x, _, hx⟩ := hu
  simp [tmC] at hx
  rcases hx with rfl | rfl <;> rfl
/-- A row of rings of type e in memory. -/
def RR (e : TypeId) (w : World) (B : Nat) (v : Value) (l : List Tm) : Prop := w.ownsRow B e 2 v l.length (flatT l)
theorem RR.slice {e : TypeId} {w : World} {B : Nat} {v : Value} {l : List Tm} (h : RR e w B v l) : ∃ a c, v = .slice a l.length c := own_form h
theorem RR.keep {e : TypeId} {F : List Nat} {w w' : World} {B : Nat} {v : Value} {l : List Tm} (h : RR e w B v l) (ht : Touch F w w') (hn : ∀ b, v.ownBlock = some b → ¬ b ∈ F) : RR e w' B v l := own_touch h ht hn
theorem RR.keep0 {e : TypeId} {w w' : World} {B : Nat} {v : Value} {l : List Tm} (h : RR e w B v l) (ht : Touch [] w w') : RR e w' B v l := own_touch h ht (fun _ _ e => by cases e)
theorem RR.base {e : TypeId} {w : World} {B B' : Nat} {v : Value} {l : List Tm} (h : RR e w B v l) (hb : B' ≤ B) : RR e w B' v l := by
  obtain ⟨h1, h2 | ⟨g', c', cur, e', hg, r⟩⟩ := h
  · exact ⟨h1, Or.inl h2⟩
  · exact ⟨h1, Or.inr ⟨g', c', cur, e', Nat.le_trans hb hg, r⟩⟩
theorem RR.cells {e : TypeId} {w : World} {B : Nat} {a : Option Addr} {n c : Nat} {l : List Tm} (h : RR e w B (.slice a n c) l) {k : Nat} (hk : k < l.length) : ∃ g, a = some ⟨g, 0, none⟩ ∧ n = l.length ∧ w.cell? ⟨g, k * 2, none⟩ = some (.int .i64 (gtT l k).it) ∧ w.cell? ⟨g, k * 2 + 1, none⟩ = some (.int .i64 (gtT l k).at_) := by
  obtain ⟨g, c', e', _⟩ := World.ownsRow.form h (by omega)
  injection e' with e1 e2 e3
  subst e1 e2 e3
  obtain ⟨x0, x1⟩ := flatT_at l k hk
  exact ⟨g, rfl, rfl, own_cell h x0, own_cell h x1⟩
theorem RR.nil (e : TypeId) (w : World) (B : Nat) : RR e w B (.slice none 0 0) [] := World.ownsRow_nil _ _ _ _
theorem ret_int {a b : Int} (h : a = b) : Ending.returned (.int .i64 a) = .returned (.int .i64 b) := by rw [h]

/-- The place behind all that are not later. -/
def pos : List Tm → Int → Nat
  | [], _ => 0
  | x :: l, t => if pos l t = 0 ∧ t < x.at_ then 0 else pos l t + 1
def PosT (l : List Tm) (t : Int) (i : Nat) : Prop := i ≤ l.length ∧ (∀ j, j < l.length → i ≤ j → t < (gtT l j).at_) ∧ (0 < i → (gtT l (i - 1)).at_ ≤ t)
theorem posT_pos (l : List Tm) (t : Int) : PosT l t (pos l t) := by
  induction l with
  | nil => exact ⟨Nat.le_refl _, fun j hj => by simp at hj, fun h => by simp [pos] at h⟩
  | cons x l ih =>
    obtain ⟨h1, h2, h3⟩ := ih
    unfold pos
    split
    · rename_i h
      refine ⟨Nat.zero_le _, fun j hj _ => ?_, fun h => by omega⟩
      cases j with
      | zero => rw [gtT_cons_zero]; exact h.2
      | succ j => rw [gtT_cons_succ]; exact h2 j (by simpa using hj) (by omega)
    · rename_i h
      refine ⟨by simpa using h1, fun j hj hij => ?_, fun _ => ?_⟩
      · cases j with
        | zero => omega
        | succ j => rw [gtT_cons_succ]; exact h2 j (by simpa using hj) (by omega)
      · rw [Nat.add_sub_cancel]
        by_cases h0 : pos l t = 0
        · rw [h0, gtT_cons_zero]
          have : ¬ t < x.at_ := fun e => h ⟨h0, e⟩
          omega
        · obtain ⟨m, hm⟩ : ∃ m, pos l t = m + 1 := ⟨pos l t - 1, by omega⟩
          rw [hm, gtT_cons_succ]
          have := h3 (by omega)
          rw [hm, Nat.add_sub_cancel] at this
          exact this
theorem posT_unique {l : List Tm} {t : Int} {i j : Nat} (h : PosT l t i) (k : PosT l t j) : i = j := by
  obtain ⟨h1, h2, h3⟩ := h
  obtain ⟨k1, k2, k3⟩ := k
  rcases Nat.lt_trichotomy i j with e | e | e
  · have a := h2 (j - 1) (by omega) (by omega)
    have b := k3 (by omega)
    omega
  · exact e
  · have a := k2 (i - 1) (by omega) (by omega)
    have b := h3 (by omega)
    omega
theorem pos_eq {l : List Tm} {t : Int} {i : Nat} (h : PosT l t i) : i = pos l t := posT_unique h (posT_pos l t)
def insT (l : List Tm) (i : Nat) (x : Tm) : List Tm := l.take i ++ x :: l.drop i
theorem flatT_ins (l : List Tm) (i : Nat) (x : Tm) : flatT (insT l i x) = flatT (l.take i) ++ [.int .i64 x.it, .int .i64 x.at_] ++ flatT (l.drop i) := by
  unfold insT
  rw [flatT_app, flatT_cons]
  simp
theorem insT_len {l : List Tm} {i : Nat} (x : Tm) (h : i ≤ l.length) : (insT l i x).length = l.length + 1 := by
  unfold insT
  simp
  omega
theorem insT_mem {l : List Tm} {i : Nat} {x y : Tm} (h : y ∈ insT l i x) : y ∈ l ∨ y = x := by
  unfold insT at h
  rw [List.mem_append, List.mem_cons] at h
  rcases h with h | h | h
  · exact Or.inl (List.mem_of_mem_take h)
  · exact Or.inr h
  · exact Or.inl (List.mem_of_mem_drop h)
/-- How many are due. -/
def dueT (l : List Tm) (now : Int) : Nat := (l.takeWhile (fun x => decide (x.at_ ≤ now))).length
theorem dueT_of {l : List Tm} {now : Int} {n : Nat} (hn : n ≤ l.length) (h : ∀ j, j < n → (gtT l j).at_ ≤ now) (he : n = l.length ∨ now < (gtT l n).at_) : dueT l now = n := by
  induction l generalizing n with
  | nil => simp at hn; subst hn; rfl
  | cons x l ih =>
    cases n with
    | zero =>
      have : now < x.at_ := by
        rcases he with e | e
        · simp at e
        · exact e
      simp [dueT, show ¬ x.at_ ≤ now by omega]
    | succ n =>
      have h0 : x.at_ ≤ now := h 0 (by omega)
      have := ih (n := n) (by simpa using hn) (fun j hj => h (j + 1) (by omega)) (by
        rcases he with e | e
        · left; simpa using e
        · right; exact e)
      unfold dueT at this ⊢
      rw [List.takeWhile_cons, if_pos (by simpa using h0)]
      simp [this]
theorem dueT_le (l : List Tm) (now : Int) : dueT l now ≤ l.length := (List.takeWhile_sublist _).length_le
theorem dueT_all {l : List Tm} {now : Int} {j : Nat} (h : j < dueT l now) : (gtT l j).at_ ≤ now := by
  induction l generalizing j with
  | nil => simp [dueT] at h
  | cons x l ih =>
    unfold dueT at h
    rw [List.takeWhile_cons] at h
    split at h
    · rename_i hx
      cases j with
      | zero => rw [gtT_cons_zero]; simpa using hx
      | succ j => rw [gtT_cons_succ]; exact ih (by unfold dueT; simpa using h)
    · simp at h
theorem dueT_stop {l : List Tm} {now : Int} (h : dueT l now < l.length) : now < (gtT l (dueT l now)).at_ := by
  induction l with
  | nil => simp at h
  | cons x l ih =>
    unfold dueT at h ⊢
    rw [List.takeWhile_cons] at h ⊢
    split
    · rename_i hx
      rw [if_pos hx] at h
      simp only [List.length_cons] at h ⊢
      rw [gtT_cons_succ]
      exact ih (by unfold dueT; omega)
    · rename_i hx
      simp only [List.length_nil]
      rw [gtT_cons_zero]
      have : ¬ x.at_ ≤ now := fun e => hx (by simpa using e)
      omega

/-- How a clock stands. -/
structure Cs where
  now : Int
  last : Int
  T : List Tm
def MaxT : Int := 4611686018427387904
def armE (s : Cs) (t : Int) : Int := if isT t = false then 10 else if t < s.now then 50 else if 65536 ≤ s.T.length then 3 else 0
def armS (s : Cs) (t : Int) : Cs := if armE s t = 0 then ⟨s.now, s.last + 1, insT s.T (pos s.T t) ⟨t, s.last + 1⟩⟩ else s
def armN (s : Cs) (t : Int) : Int := if armE s t = 0 then s.last + 1 else 0
def inT (s : Cs) (d : Int) : Int := if 4611686018427387904 - s.now < d then 4611686018427387904 else s.now + d
def inE (s : Cs) (d : Int) : Int := if d < 0 then 11 else armE s (inT s d)
def inS (s : Cs) (d : Int) : Cs := if d < 0 then s else armS s (inT s d)
def inN (s : Cs) (d : Int) : Int := if d < 0 then 0 else armN s (inT s d)
def hasT (l : List Tm) (k : Int) : Bool := l.any (fun x => x.it == k)
def outT (l : List Tm) (k : Int) : List Tm := l.filter (fun x => x.it != k)
def stopS (s : Cs) (k : Int) : Cs := ⟨s.now, s.last, outT s.T k⟩
def goS (s : Cs) (to : Int) : Cs := ⟨to, s.last, s.T.drop (dueT s.T to)⟩
def goR (s : Cs) (to : Int) : List Tm := s.T.take (dueT s.T to)
def advE (s : Cs) (d : Int) : Int := if d < 0 then 11 else if 4611686018427387904 - s.now < d then 10 else 0
def advS (s : Cs) (d : Int) : Cs := if advE s d = 0 then goS s (s.now + d) else s
def advR (s : Cs) (d : Int) : List Tm := if advE s d = 0 then goR s (s.now + d) else []
def leapS (s : Cs) : Cs := match s.T with
  | [] => s
  | x :: _ => goS s x.at_
def leapR (s : Cs) : List Tm := match s.T with
  | [] => []
  | x :: _ => goR s x.at_
def fndT (l : List Tm) (k : Int) : Option Tm := l.find? (fun x => x.it == k)
def leftN (s : Cs) (k : Int) : Int := match fndT s.T k with
  | some x => x.at_ - s.now
  | none => 0
def leftB (s : Cs) (k : Int) : Bool := (fndT s.T k).isSome
/-- What holds of a clock at every point. -/
structure Ok (s : Cs) : Prop where
  n0 : 0 ≤ s.now
  n1 : s.now ≤ 4611686018427387904
  l0 : 0 ≤ s.last
  len : s.T.length ≤ 65536
  ll : (s.T.length : Int) ≤ s.last
  at0 : ∀ x ∈ s.T, s.now ≤ x.at_
  at1 : ∀ x ∈ s.T, x.at_ ≤ 4611686018427387904
  it0 : ∀ x ∈ s.T, 1 ≤ x.it
  it1 : ∀ x ∈ s.T, x.it ≤ s.last
  ord : s.T.Pairwise (fun x y => x.at_ < y.at_ ∨ x.at_ = y.at_ ∧ x.it < y.it)
theorem gtT_take {l : List Tm} {i j : Nat} (h : j < i) : gtT (l.take i) j = gtT l j := by simp [gtT, h]
theorem gtT_drop (l : List Tm) (i j : Nat) : gtT (l.drop i) j = gtT l (i + j) := by simp [gtT, List.getD_eq_getElem?_getD, List.getElem?_drop]
theorem ord_le {l : List Tm} (h : l.Pairwise (fun x y => x.at_ < y.at_ ∨ x.at_ = y.at_ ∧ x.it < y.it)) {i j : Nat} (hij : i ≤ j) (hj : j < l.length) : (gtT l i).at_ ≤ (gtT l j).at_ := by
  rcases Nat.lt_or_ge i j with e | e
  · have := List.pairwise_iff_getElem.1 h i j (by omega) hj e
    rw [gtT_eq hj, gtT_eq (by omega)]
    omega
  · have : i = j := by omega
    subst this
    exact Int.le_refl _
theorem ins_ord {l : List Tm} {t k : Int} (h : l.Pairwise (fun x y => x.at_ < y.at_ ∨ x.at_ = y.at_ ∧ x.it < y.it)) (hk : ∀ x ∈ l, x.it < k) {i : Nat} (hp : PosT l t i) : (insT l i ⟨t, k⟩).Pairwise (fun x y => x.at_ < y.at_ ∨ x.at_ = y.at_ ∧ x.it < y.it) := by
  obtain ⟨h1, h2, h3⟩ := hp
  unfold insT
  rw [List.pairwise_append]
  have ht : ∀ x ∈ l.take i, x.at_ ≤ t := fun x hx => by
    obtain ⟨j, hj, rfl⟩ := List.getElem_of_mem hx
    have hj' : j < i ∧ j < l.length := by rw [List.length_take] at hj; omega
    have e1 : (l.take i)[j] = gtT l j := by rw [← gtT_eq hj, gtT_take hj'.1]
    rw [e1]
    have := ord_le h (i := j) (j := i - 1) (by omega) (by omega)
    have := h3 (by omega)
    omega
  have hd : ∀ x ∈ l.drop i, t < x.at_ := fun x hx => by
    obtain ⟨j, hj, rfl⟩ := List.getElem_of_mem hx
    have hj' : j < l.length - i := by simpa using hj
    have e1 : (l.drop i)[j] = gtT l (i + j) := by rw [← gtT_eq hj, gtT_drop]
    rw [e1]
    exact h2 (i + j) (by omega) (by omega)
  refine ⟨h.sublist (List.take_sublist _ _), ?_, fun x hx y hy => ?_⟩
  · rw [List.pairwise_cons]
    exact ⟨fun y hy => Or.inl (hd y hy), h.sublist (List.drop_sublist _ _)⟩
  · rcases List.mem_cons.1 hy with rfl | hy
    · have a := ht x hx
      have b := hk x (List.mem_of_mem_take hx)
      show x.at_ < t ∨ x.at_ = t ∧ x.it < k
      omega
    · have a := ht x hx
      have b := hd y hy
      exact Or.inl (by omega)
theorem armE_ok {s : Cs} {t : Int} (h : armE s t = 0) : (0 ≤ t ∧ t ≤ 4611686018427387904) ∧ s.now ≤ t ∧ s.T.length < 65536 := by
  unfold armE at h
  split at h
  · omega
  · rename_i h1
    have h1' : isT t = true := by simpa using h1
    split at h
    · omega
    · split at h
      · omega
      · exact ⟨of_decide_eq_true h1', by omega, by omega⟩
theorem Ok.arm {s : Cs} (h : Ok s) (t : Int) : Ok (armS s t) := by
  unfold armS
  split
  · rename_i e
    obtain ⟨h1, h2, h3⟩ := armE_ok e
    have hp := posT_pos s.T t
    refine ⟨h.n0, h.n1, by have := h.l0; show 0 ≤ s.last + 1; omega, ?_, by show ((insT _ _ _).length : Int) ≤ s.last + 1; rw [insT_len _ hp.1]; have := h.ll; omega, fun x hx => ?_, fun x hx => ?_, fun x hx => ?_, fun x hx => ?_, ?_⟩
    · show (insT _ _ _).length ≤ _
      rw [insT_len _ hp.1]; omega
    · rcases insT_mem hx with e | rfl
      · exact h.at0 x e
      · exact h2
    · rcases insT_mem hx with e | rfl
      · exact h.at1 x e
      · exact h1.2
    · rcases insT_mem hx with e | rfl
      · exact h.it0 x e
      · have := h.l0; show 1 ≤ s.last + 1; omega
    · rcases insT_mem hx with e | rfl
      · have := h.it1 x e; show _ ≤ s.last + 1; omega
      · exact Int.le_refl _
    · exact ins_ord h.ord (fun x hx => by have := h.it1 x hx; omega) hp
  · exact h
theorem Ok.stop {s : Cs} (h : Ok s) (k : Int) : Ok (stopS s k) := by
  have hm : ∀ x ∈ outT s.T k, x ∈ s.T := fun x hx => (List.mem_filter.1 hx).1
  exact ⟨h.n0, h.n1, h.l0, Nat.le_trans (List.length_filter_le _ _) h.len, by have := h.ll; have := List.length_filter_le (fun x : Tm => x.it != k) s.T; show ((outT s.T k).length : Int) ≤ s.last; unfold outT; omega, fun x hx => h.at0 x (hm x hx), fun x hx => h.at1 x (hm x hx), fun x hx => h.it0 x (hm x hx), fun x hx => h.it1 x (hm x hx), h.ord.sublist List.filter_sublist⟩
theorem Ok.go {s : Cs} (h : Ok s) {to : Int} (h0 : s.now ≤ to) (h1 : to ≤ 4611686018427387904) : Ok (goS s to) := by
  have hm : ∀ x ∈ s.T.drop (dueT s.T to), x ∈ s.T := fun x hx => List.mem_of_mem_drop hx
  refine ⟨by have := h.n0; show 0 ≤ to; omega, h1, h.l0, ?_, by show ((s.T.drop _).length : Int) ≤ s.last; rw [List.length_drop]; have := h.ll; omega, fun x hx => ?_, fun x hx => h.at1 x (hm x hx), fun x hx => h.it0 x (hm x hx), fun x hx => h.it1 x (hm x hx), h.ord.sublist (List.drop_sublist _ _)⟩
  · show (s.T.drop _).length ≤ _
    rw [List.length_drop]; have := h.len; omega
  · obtain ⟨j, hj, rfl⟩ := List.getElem_of_mem hx
    have hj' : j < s.T.length - dueT s.T to := by simpa [goS] using hj
    have e1 : (s.T.drop (dueT s.T to))[j]'(by simpa using hj') = gtT s.T (dueT s.T to + j) := by rw [← gtT_eq, gtT_drop]
    show to ≤ ((s.T.drop (dueT s.T to))[j]'(by simpa using hj')).at_
    rw [e1]
    have a := dueT_stop (l := s.T) (now := to) (by omega)
    have b := ord_le h.ord (i := dueT s.T to) (j := dueT s.T to + j) (by omega) (by omega)
    omega
theorem Ok.adv {s : Cs} (h : Ok s) (d : Int) : Ok (advS s d) := by
  unfold advS
  split
  · rename_i e
    unfold advE at e
    split at e
    · omega
    · split at e
      · omega
      · have := h.n0
        exact h.go (by omega) (by omega)
  · exact h
theorem Ok.leap {s : Cs} (h : Ok s) : Ok (leapS s) := by
  unfold leapS
  split
  · exact h
  · rename_i x l e
    have hx : x ∈ s.T := by rw [e]; exact List.mem_cons_self
    exact h.go (h.at0 x hx) (h.at1 x hx)
theorem Ok.in_ {s : Cs} (h : Ok s) (d : Int) : Ok (inS s d) := by
  unfold inS
  split
  · exact h
  · exact h.arm _
theorem Ok.start : Ok ⟨0, 0, []⟩ := ⟨Int.le_refl _, by decide, Int.le_refl _, by simp, by simp, fun x hx => by simp at hx, fun x hx => by simp at hx, fun x hx => by simp at hx, fun x hx => by simp at hx, List.Pairwise.nil⟩
theorem armS_last {s : Cs} (t : Int) : s.last ≤ (armS s t).last ∧ (armS s t).last ≤ s.last + 1 := by
  unfold armS
  split
  · exact ⟨by show s.last ≤ s.last + 1; omega, by show s.last + 1 ≤ _; omega⟩
  · exact ⟨Int.le_refl _, by omega⟩
end Go.Proofs.Ytaioegefoiabhaa
