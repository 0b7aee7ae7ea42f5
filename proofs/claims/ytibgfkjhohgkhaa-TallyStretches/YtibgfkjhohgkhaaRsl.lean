/- Rows of structs that a call owns, as flat lists of cells; slices laid behind them; no conditions. -/
import Derived.Test.YtibgfkjhohgkhaaOwn
import Derived.Maps.AppendAt
namespace Go.Proofs.Ytibgfkjhohgkhaa
open Go.RowKit Go.Maps Go.ChangeMaps
set_option linter.unusedVariables false
set_option linter.unusedSimpArgs false
section
variable {X : Type} {f : X → List Value} {k : Nat}
theorem flat_len (hf : ∀ x, (f x).length = k) (xs : List X) : (xs.flatMap f).length = xs.length * k := by
  induction xs with
  | nil => simp
  | cons a r ih => rw [List.flatMap_cons, List.length_append, ih, hf, List.length_cons, Nat.succ_mul, Nat.add_comm]
theorem flat_at (hf : ∀ x, (f x).length = k) : ∀ (xs : List X) (i j : Nat) (x : X), xs[i]? = some x → j < k → (xs.flatMap f)[i * k + j]? = (f x)[j]?
  | [], i, j, x, h, hj => by simp at h
  | a :: r, 0, j, x, h, hj => by
    simp at h
    subst h
    rw [List.flatMap_cons, List.getElem?_append_left (by rw [hf]; omega)]
    simp
  | a :: r, i + 1, j, x, h, hj => by
    simp at h
    rw [List.flatMap_cons, List.getElem?_append_right (by rw [hf, Nat.succ_mul]; omega), hf]
    rw [show (i + 1) * k + j - k = i * k + j by rw [Nat.succ_mul]; omega]
    exact flat_at hf r i j x h hj
theorem flat_set (hf : ∀ x, (f x).length = k) (xs : List X) {i j : Nat} {x : X} {v : Value} (h : xs[i]? = some x) (hj : j < k) {y : X} (hy : f y = (f x).set j v) : (xs.flatMap f).set (i * k + j) v = (xs.set i y).flatMap f := by
  induction xs generalizing i with
  | nil => simp at h
  | cons a r ih =>
    cases i with
    | zero =>
      simp at h
      subst h
      simp only [Nat.zero_mul, Nat.zero_add, List.flatMap_cons, List.set_cons_zero]
      rw [List.set_append_left _ _ (by rw [hf]; omega), hy]
    | succ i =>
      simp at h
      simp only [List.flatMap_cons, List.set_cons_succ]
      rw [List.set_append_right _ _ (by rw [hf, Nat.succ_mul]; omega), hf, show (i + 1) * k + j - k = i * k + j by rw [Nat.succ_mul]; omega, ih h]
end
/-- A slice that can be read: n elements of k cells of type t. -/
def Rs (t k : Nat) (w : World) (v : Value) (n : Nat) (vs : List Value) : Prop := vs.length = n * k ∧ ∃ a c, v = .slice a n c ∧ n ≤ c ∧ (a = none → c = 0) ∧ (0 < n → ∃ g off, a = some ⟨g, off, none⟩ ∧ ∃ cs z, w.heap[g]? = some (.cells cs t z) ∧ ∀ j u, vs[j]? = some u → cs[off + j]? = some u)
section
variable {t k n : Nat} {w w' : World} {v : Value} {vs : List Value} {B : Nat}
theorem Rs.of_own (h : w.ownsRow B t k v n vs) : Rs t k w v n vs := by
  rcases h with ⟨h1, ⟨e1, e2⟩ | ⟨g, cap, cur, rfl, hg, hc, hn, hm, hs, ht⟩⟩
  · subst e2
    exact ⟨h1, none, 0, e1, Nat.le_refl _, fun _ => rfl, fun h => absurd h (Nat.lt_irrefl 0)⟩
  · refine ⟨h1, _, cap, rfl, hn, fun e => (by cases e), fun _ => ⟨g, 0, rfl, cur, _, hc, fun j u hu => ?_⟩⟩
    have hj := (List.getElem?_eq_some_iff.1 hu).1
    rw [Nat.zero_add, ← Array.getElem?_toList, ← hu, ← ht, List.getElem?_take, if_pos (by omega)]
theorem Rs.keep {F : List Nat} (h : Rs t k w v n vs) (T : Touch F w w') (hF : ∀ g off n c, v = .slice (some ⟨g, off, none⟩) n c → ¬ g ∈ F) : Rs t k w' v n vs := by
  obtain ⟨h1, a, c, rfl, h2, h3, h4⟩ := h
  refine ⟨h1, a, c, rfl, h2, h3, fun hp => ?_⟩
  obtain ⟨g, off, rfl, cs, z, h5, h6⟩ := h4 hp
  exact ⟨g, off, rfl, cs, z, T.keep h5 (hF g off n c rfl), h6⟩
theorem Rs.keep0 (h : Rs t k w v n vs) (T : Touch [] w w') : Rs t k w' v n vs := h.keep T (fun _ _ _ _ _ e => by cases e)
theorem Rs.form (h : Rs t k w v n vs) : ∃ a c, v = .slice a n c ∧ n ≤ c := by
  obtain ⟨h1, a, c, e, h2, _⟩ := h
  exact ⟨a, c, e, h2⟩
theorem Rs.cell {a : Option Addr} {c j : Nat} {u : Value} (h : Rs t k w (.slice a n c) n vs) (hu : vs[j]? = some u) (hn : 0 < n) : ∃ g off, a = some ⟨g, off, none⟩ ∧ w.cell? ⟨g, off + j, none⟩ = some u := by
  obtain ⟨h1, a', c', e, h2, h3, h4⟩ := h
  cases e
  obtain ⟨g, off, rfl, cs, z, h5, h6⟩ := h4 hn
  exact ⟨g, off, rfl, by simp [World.cell?, h5, h6 j u hu]⟩
end
section
variable {w : World} {ops : Array Oper} {rest : List Oper} {o : Oper} {a : Act} {Q : Exit → Act → World → Prop}
/-- A slice that can be read, laid behind a row that a call owns. -/
theorem wpList_append_rs (hgd : o.guard = none) (s x : Operand) (st et : TypeId) (ho : o.op = .call { callee := .builtin .append, args := #[s, x], argTypes := #[st, st] })
    (z : Value) (k bytes : Nat) (hinfo : (Try.prog.info? et).map (fun i => (i.zero, i.size, i.bytes)) = some (some z, k, bytes)) (ht : Try.prog.underlying st = some (.slice et)) (hzs : z.cells.size = k) (hk : 0 < k)
    (base : Nat) (v : Value) (n : Nat) (xs : List Value) (hs : a.eval s = v) (hown : w.ownsRow base et k v n xs)
    (u : Value) (m : Nat) (vs : List Value) (hx : a.eval x = u) (hu : Rs et k w u m vs) (h1 : ∀ y ∈ vs, y.oneCell' = true) (h63 : n + m ≤ maxLen) (hbytes : (n + m) * bytes ≤ 140737488355328) (hbase : base ≤ w.heap.size)
    (h : ∀ v' w', w'.ownsRow base et k v' (n + m) (xs ++ vs) → w.grownBy w' v.ownBlock → (v'.ownBlock = v.ownBlock ∨ v'.ownBlock = some w.heap.size) → wpList Try.prog ops Q rest (a.put o.dst v') w') : wpList Try.prog ops Q (o :: rest) a w := by
  obtain ⟨i3, hf, hz0, hz1, hz2⟩ := info_parts hinfo
  obtain ⟨hl, ad, c, rfl, hc, hn0, hr⟩ := hu
  cases ad with
  | none =>
    have e0 := hn0 rfl
    subst e0
    have em : m = 0 := by omega
    subst em
    have ev : vs = [] := List.length_eq_zero_iff.1 (by omega)
    subst ev
    refine wpList_append_own_none hgd s x st ho base et i3 k ht hf v n xs hs hown hx ?_
    exact h v w (by simpa using hown) (World.grownBy.refl _ _) (Or.inl rfl)
  | some ad =>
    refine wpList_append_own_at w hgd s x st ho base et i3 z k bytes ht hf hz0 hz1 hz2 hzs hk v n xs hs hown ad m c vs hx hl (fun j y hy => ?_) h1 h63 hbytes hbase (fun v' w' q1 q2 q3 q4 => h v' w' q1 q2 q4)
    have hm : 0 < m := by
      rcases Nat.eq_zero_or_pos m with e | e
      · subst e
        have : vs = [] := List.length_eq_zero_iff.1 (by omega)
        subst this
        simp at hy
      · exact e
    obtain ⟨g, off, e, cs, zz, h5, h6⟩ := hr hm
    cases e
    rw [show (⟨g, off, none⟩ : Addr).add j = ⟨g, off + j, none⟩ by simp [Addr.add]]
    simp [World.cell?, h5, h6 j y hy]
end
/-- What an append onto an owned row may touch. -/
theorem touch_grown {w0 w w' : World} {v : Value} {B e k n : Nat} {xs : List Value} (t : Touch [] w0 w) (g : w.grownBy w' v.ownBlock) (h : w.ownsRow B e k v n xs) (hB : w0.heap.size ≤ B) : Touch [] w0 w' :=
  t.trans ((Touch.refl v.ownBlock.toList w).grown g (fun q hq => Or.inl (by simp [hq]))) (fun q hq => Or.inr (Nat.le_trans hB (h.lt q (by simpa using hq)).1))
theorem Rs.new (w : World) (cs : Array Value) (t k : Nat) (hs : cs.size = k) : Rs t k (w.alloc (.cells cs t)) (.slice (some ⟨w.heap.size, 0, none⟩) 1 1) 1 cs.toList := by
  refine ⟨by simp [hs], _, _, rfl, Nat.le_refl _, fun e => (by cases e), fun _ => ⟨_, 0, rfl, cs, _, heap_alloc_new w _, fun j u hu => ?_⟩⟩
  rw [Nat.zero_add, ← Array.getElem?_toList]
  exact hu
end Go.Proofs.Ytibgfkjhohgkhaa
