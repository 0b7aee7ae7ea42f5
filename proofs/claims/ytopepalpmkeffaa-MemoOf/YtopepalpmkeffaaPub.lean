/- An order as a plain list of keys: what Touch, Drop, Has, Len, Most, Oldest, enter and leave make of it; no conditions but those that each states. -/
import Derived.Test.YtopepalpmkeffaaDrp
namespace Go.Proofs.Ytopepalpmkeffaa
open Go.RowKit Go.Sort Go.Maps Go.ChangeMaps Go.WideMaps
set_option linter.unusedVariables false
set_option linter.unusedSimpArgs false
/-- The order at block o, whose blocks are F, is the list xs. -/
def Oq (w : World) (o : Nat) (F : List Nat) (most : Int) (xs : List K) : Prop := ∃ m L, F = fp o m L ∧ xs = L.map Prod.fst ∧ Od w o m most L
def dr (xs : List K) (k : K) : List K := xs.filter (fun x => decide (x ≠ k))
def hs (xs : List K) (k : K) : Bool := xs.any (fun x => decide (x = k))
theorem hs_yes {xs : List K} {k : K} (h : k ∈ xs) : hs xs k = true := by
  unfold hs
  rw [List.any_eq_true]
  exact ⟨k, h, decide_eq_true rfl⟩
theorem hs_no {xs : List K} {k : K} (h : ¬ k ∈ xs) : hs xs k = false := by
  unfold hs
  rw [List.any_eq_false]
  intro x hx
  simp only [decide_eq_true_eq]
  exact fun e => h (e ▸ hx)
theorem dr_no {xs : List K} {k : K} (h : ¬ k ∈ xs) : dr xs k = xs := by
  unfold dr
  rw [List.filter_eq_self]
  intro a ha
  exact decide_eq_true (fun e => h (e ▸ ha))
theorem dr_mid {A B : List K} {k : K} (ha : ∀ x ∈ A, x ≠ k) (hb : ∀ x ∈ B, x ≠ k) : dr (A ++ k :: B) k = A ++ B := by
  unfold dr
  rw [List.filter_append, List.filter_cons]
  simp only [ne_eq, not_true_eq_false, decide_false, Bool.false_eq_true, if_false]
  have h1 : List.filter (fun x => decide (¬ x = k)) A = A := List.filter_eq_self.2 (fun x hx => decide_eq_true (ha x hx))
  have h2 : List.filter (fun x => decide (¬ x = k)) B = B := List.filter_eq_self.2 (fun x hx => decide_eq_true (hb x hx))
  rw [h1, h2]
theorem dr_pairs {A B : List E} {e : E} (h : ((A ++ e :: B).map Prod.fst).Nodup) : dr ((A ++ e :: B).map Prod.fst) e.1 = (A ++ B).map Prod.fst := by
  obtain ⟨q1, q2, _, _⟩ := nd_mid h
  rw [List.map_append, List.map_cons, dr_mid, List.map_append]
  · intro x hx
    obtain ⟨e', he, rfl⟩ := List.mem_map.1 hx
    exact q1 e' he
  · intro x hx
    obtain ⟨e', he, rfl⟩ := List.mem_map.1 hx
    exact q2 e' he
section
variable {w w' : World} {o : Nat} {F G : List Nat} {most : Int} {xs : List K}
theorem Oq.keep (h : Oq w o F most xs) (ht : Touch G w w') (hn : ∀ k, k ∈ F → ¬ k ∈ G) : Oq w' o F most xs := by
  obtain ⟨m, L, rfl, rfl, t⟩ := h
  exact ⟨m, L, rfl, rfl, t.keep ht hn⟩
theorem Oq.keep0 (h : Oq w o F most xs) (ht : Touch [] w w') : Oq w' o F most xs := h.keep ht (fun _ _ e => by cases e)
theorem Oq.lt (h : Oq w o F most xs) : ∀ k, k ∈ F → k < w.heap.size := by
  obtain ⟨m, L, rfl, rfl, t⟩ := h
  exact t.lt
theorem Oq.nd (h : Oq w o F most xs) : xs.Nodup := by
  obtain ⟨m, L, rfl, rfl, t⟩ := h
  exact t.nd
theorem Oq.ok (h : Oq w o F most xs) : ∀ k ∈ xs, Ok k := by
  obtain ⟨m, L, rfl, rfl, t⟩ := h
  intro k hk
  obtain ⟨e, he, rfl⟩ := List.mem_map.1 hk
  exact t.ok e he
theorem Oq.mem (h : Oq w o F most xs) : o ∈ F := by
  obtain ⟨m, L, rfl, rfl, t⟩ := h
  simp [fp]
theorem Oq.c0 (h : Oq w o F most xs) : w.cell? ⟨o, 0, none⟩ = some (.int .i64 most) := by
  obtain ⟨m, L, rfl, rfl, t⟩ := h
  exact t.ln.oc.c0
end
/-- What a change leaves. -/
def Ch (w : World) (o : Nat) (F : List Nat) (most : Int) (ys : List K) (w' : World) : Prop := ∃ F', Oq w' o F' most ys ∧ Touch F w w' ∧ Nf w F F'
theorem Ch.from0 {w0 w w' : World} {o : Nat} {F : List Nat} {most : Int} {ys : List K} (h : Ch w o F most ys w') (t : Touch [] w0 w) : Ch w0 o F most ys w' := by
  obtain ⟨F', h1, h2, h3⟩ := h
  exact ⟨F', h1, (t.mono (fun _ e => by cases e)).trans' h2, fun k hk => (h3 k hk).elim Or.inl (fun e => Or.inr (Nat.le_trans t.size e))⟩
theorem Ch.trans {w w1 w2 : World} {o : Nat} {F : List Nat} {most most' : Int} {ys zs : List K} (h : Ch w o F most ys w1) (h' : ∀ F', Oq w1 o F' most ys → Ch w1 o F' most' zs w2) : Ch w o F most' zs w2 := by
  obtain ⟨F1, a1, a2, a3⟩ := h
  obtain ⟨F2, b1, b2, b3⟩ := h' F1 a1
  exact ⟨F2, b1, a2.trans b2 a3, a3.trans b3 a2.size⟩
theorem Ch.keep0 {w w1 w2 : World} {o : Nat} {F : List Nat} {most : Int} {ys : List K} (h : Ch w o F most ys w1) (t : Touch [] w1 w2) : Ch w o F most ys w2 := by
  obtain ⟨F', h1, h2, h3⟩ := h
  exact ⟨F', h1.keep0 t, h2.trans' (t.mono (fun _ e => by cases e)), h3⟩
/-- Blocks that lay ahead of the change and are none of the order's lie as they lay. -/
theorem Ch.block {w w1 : World} {o : Nat} {F : List Nat} {most : Int} {ys : List K} (h : Ch w o F most ys w1) {k : Nat} {ob : Obj} (hk : w.heap[k]? = some ob) (hn : ¬ k ∈ F) : w1.heap[k]? = some ob := by
  obtain ⟨F', h1, h2, h3⟩ := h
  exact h2.keep hk hn
/-- A block of one's own is written behind the change. -/
theorem Ch.own {w w1 w2 : World} {o : Nat} {F : List Nat} {most : Int} {ys : List K} (h : Ch w o F most ys w1) {r : Nat} (t : Touch [r] w1 w2) (w0 : World) (h0 : Touch [] w0 w) (hr : w0.heap.size ≤ r) (hr' : r < w.heap.size) (hF : ∀ k, k ∈ F → k < w0.heap.size) : Ch w0 o F most ys w2 := by
  obtain ⟨F', h1, h2, h3⟩ := h
  refine ⟨F', h1.keep t (fun k hk hh => ?_), ((h0.mono (fun _ e => by cases e)).trans' h2).trans t (fun i hi => by simp only [List.mem_singleton] at hi; subst hi; exact Or.inr hr), fun k hk => (h3 k hk).elim Or.inl (fun e => Or.inr (Nat.le_trans h0.size e))⟩
  simp only [List.mem_singleton] at hh
  subst hh
  rcases h3 k hk with e | e
  · have := hF k e; omega
  · omega
theorem hasO (w : World) (o : Nat) (F : List Nat) (most : Int) (xs : List K) (k : K) (hk : Ok k) (h : Oq w o F most xs) : Calls Try.prog 66 #[PT o, kv k] w fun x w' => x = .returned (.bool (hs xs k)) ∧ Touch [] w w' := by
  obtain ⟨m, L, rfl, rfl, t⟩ := h
  by_cases hm : k ∈ L.map Prod.fst
  · rw [hs_yes hm]
    obtain ⟨e, he, rfl⟩ := List.mem_map.1 hm
    exact has19_yes w o m most L e he t
  · rw [hs_no hm]
    exact has19_no w o m most L k hk hm t
theorem lenO (w : World) (o : Nat) (F : List Nat) (most : Int) (xs : List K) (h : Oq w o F most xs) : Calls Try.prog 72 #[PT o] w fun x w' => x = .returned (.int .i64 xs.length) ∧ w' = w := by
  obtain ⟨m, L, rfl, rfl, t⟩ := h
  rw [List.length_map]
  exact len20 w o m most L t
def kz : K := (0, ⟨#[]⟩)
theorem oldestO (w : World) (o : Nat) (F : List Nat) (most : Int) (xs : List K) (hl : xs.length < 100000) (h : Oq w o F most xs) : Calls Try.prog 78 #[PT o] w fun x w' => x = .returned (.tuple #[kv (xs.headD kz), .bool (decide (0 < xs.length))]) ∧ Touch [] w w' := by
  obtain ⟨m, L, rfl, rfl, t⟩ := h
  cases L with
  | nil => exact oldest16_nil w o m most t
  | cons x L =>
    have e1 : decide (0 < ((x :: L).map Prod.fst).length) = true := by simp
    rw [e1]
    exact oldest16_cons w o m most x L (by simp at hl; omega) t
theorem touchO_no (w : World) (o : Nat) (F : List Nat) (most : Int) (xs : List K) (k : K) (hk : Ok k) (hn : ¬ k ∈ xs) (h : Oq w o F most xs) : Calls Try.prog 51 #[PT o, kv k] w fun x w' => x = .returned (.bool false) ∧ Touch [] w w' := by
  obtain ⟨m, L, rfl, rfl, t⟩ := h
  exact touch17_no w o m most L k hk hn t
theorem touchO_yes (w : World) (o : Nat) (F : List Nat) (most : Int) (xs : List K) (k : K) (hn : k ∈ xs) (h : Oq w o F most xs) : Calls Try.prog 51 #[PT o, kv k] w fun x w' => x = .returned (.bool true) ∧ Ch w o F most (dr xs k ++ [k]) w' := by
  obtain ⟨m, L, rfl, rfl, t⟩ := h
  obtain ⟨A, e, B, rfl, rfl⟩ := find_key hn
  refine (touch17_yes w o m most A B e t).mono ?_
  rintro x w' ⟨rfl, h1, h2⟩
  refine ⟨rfl, _, ⟨m, _, rfl, ?_, h1⟩, h2, fun i hi => Or.inl ?_⟩
  · rw [dr_pairs t.nd]; simp
  · simp only [fp, List.map_append, List.map_cons, List.map_nil, List.mem_cons, List.mem_append, List.not_mem_nil, or_false] at hi ⊢
    rcases hi with hi | hi | (hi | hi) | hi
    · exact Or.inl hi
    · exact Or.inr (Or.inl hi)
    · exact Or.inr (Or.inr (Or.inl hi))
    · exact Or.inr (Or.inr (Or.inr (Or.inr hi)))
    · exact Or.inr (Or.inr (Or.inr (Or.inl hi)))
theorem dropO_no (w : World) (o : Nat) (F : List Nat) (most : Int) (xs : List K) (k : K) (hk : Ok k) (hn : ¬ k ∈ xs) (h : Oq w o F most xs) : Calls Try.prog 53 #[PT o, kv k] w fun x w' => x = .returned (.bool false) ∧ Touch [] w w' := by
  obtain ⟨m, L, rfl, rfl, t⟩ := h
  exact drop18_no w o m most L k hk hn t
theorem fp_sub {o : Nat} {m : Option Nat} {A B : List E} {e : E} {i : Nat} (hi : i ∈ fp o m (A ++ B)) : i ∈ fp o m (A ++ e :: B) := by
  simp only [fp, List.map_append, List.map_cons, List.mem_cons, List.mem_append] at hi ⊢
  rcases hi with hi | hi | hi | hi
  · exact Or.inl hi
  · exact Or.inr (Or.inl hi)
  · exact Or.inr (Or.inr (Or.inl hi))
  · exact Or.inr (Or.inr (Or.inr (Or.inr hi)))
theorem dropO_yes (w : World) (o : Nat) (F : List Nat) (most : Int) (xs : List K) (k : K) (hn : k ∈ xs) (h : Oq w o F most xs) : Calls Try.prog 53 #[PT o, kv k] w fun x w' => x = .returned (.bool true) ∧ Ch w o F most (dr xs k) w' := by
  obtain ⟨m, L, rfl, rfl, t⟩ := h
  obtain ⟨A, e, B, rfl, rfl⟩ := find_key hn
  refine (drop18_yes w o m most A B e t).mono ?_
  rintro x w' ⟨rfl, h1, h2⟩
  exact ⟨rfl, _, ⟨m, _, rfl, (dr_pairs t.nd), h1⟩, h2, fun i hi => Or.inl (fp_sub hi)⟩
theorem enterO (w : World) (o : Nat) (F : List Nat) (most : Int) (xs : List K) (k : K) (hk : Ok k) (hn : ¬ k ∈ xs) (hl : xs.length < 100000) (h : Oq w o F most xs) : Calls Try.prog 70 #[PT o, kv k] w fun x w' => x = .returned (.tuple #[]) ∧ Ch w o F most (xs ++ [k]) w' := by
  obtain ⟨m, L, rfl, rfl, t⟩ := h
  refine (enter30 w o m most L k hk hn (by simpa using hl) t).mono ?_
  rintro x w' ⟨rfl, m', p, h1, h2, h3⟩
  exact ⟨rfl, _, ⟨m', _, rfl, by simp, h1⟩, h2, h3⟩
theorem leaveO (w : World) (o : Nat) (F : List Nat) (most : Int) (k : K) (xs : List K) (hl : xs.length < 100000) (h : Oq w o F most (k :: xs)) : Calls Try.prog 73 #[PT o] w fun x w' => x = .returned (kv k) ∧ Ch w o F most xs w' := by
  obtain ⟨m, L, rfl, hx, t⟩ := h
  cases L with
  | nil => cases hx
  | cons e L =>
    simp only [List.map_cons, List.cons.injEq] at hx
    obtain ⟨rfl, rfl⟩ := hx
    refine (leave31 w o m most e L (by simpa using hl) t).mono ?_
    rintro x w' ⟨rfl, h1, h2⟩
    exact ⟨rfl, _, ⟨m, _, rfl, rfl, h1⟩, h2, fun i hi => Or.inl (fp_sub (A := []) hi)⟩
end Go.Proofs.Ytopepalpmkeffaa
