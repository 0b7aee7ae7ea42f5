/- Slices of events that can be read; the counts of events in plain words; no conditions but those that each states. -/
import Derived.Test.YtibgfkjhohgkhaaTld
namespace Go.Proofs.Ytibgfkjhohgkhaa.Ty
open Go.RowKit Go.Maps Go.ChangeMaps
open Tr
set_option linter.unusedVariables false
set_option linter.unusedSimpArgs false
/-- An event within a row. -/
structure Rc (w : World) (g p : Nat) (e : Ez) : Prop where
  c0 : w.cell? ⟨g, p, none⟩ = some (.int .i64 e.at_)
  c1 : w.cell? ⟨g, p + 1, none⟩ = some (.int .i64 e.kd)
  c2 : w.cell? ⟨g, p + 2, none⟩ = some (.int .i64 e.cl)
  c3 : w.cell? ⟨g, p + 3, none⟩ = some (.int .i64 e.ca)
  c4 : w.cell? ⟨g, p + 4, none⟩ = some (.int .i64 e.ru)
  c5 : w.cell? ⟨g, p + 5, none⟩ = some (.int .i64 e.ge)
  c6 : w.cell? ⟨g, p + 6, none⟩ = some (.int .i64 e.ho)
  c7 : w.cell? ⟨g, p + 7, none⟩ = some (.int .u16 e.sp)
  c8 : w.cell? ⟨g, p + 8, none⟩ = some (.string e.nm)
  c9 : w.cell? ⟨g, p + 9, none⟩ = some (.int .i64 e.va)
  c10 : w.cell? ⟨g, p + 10, none⟩ = some (.int .i64 e.fk)
  c11 : w.cell? ⟨g, p + 11, none⟩ = some (.int .i64 e.fc)
  c12 : w.cell? ⟨g, p + 12, none⟩ = some (.int .i64 e.fr)
theorem Rc.keep {w w' : World} {g p : Nat} {e : Ez} (h : Rc w g p e) (t : Touch [] w w') : Rc w' g p e :=
  ⟨tcell t h.c0, tcell t h.c1, tcell t h.c2, tcell t h.c3, tcell t h.c4, tcell t h.c5, tcell t h.c6, tcell t h.c7, tcell t h.c8, tcell t h.c9, tcell t h.c10, tcell t h.c11, tcell t h.c12⟩
/-- A slice of events that can be read. -/
def Ev (w : World) (v : Value) (L : List Ez) : Prop := ∃ a c, v = .slice a L.length c ∧ L.length ≤ c ∧ (0 < L.length → ∃ g off, a = some ⟨g, off, none⟩ ∧ g < w.heap.size ∧ ∀ i e, L[i]? = some e → Rc w g (off + i * 13) e)
theorem Ev.keep {w w' : World} {v : Value} {L : List Ez} (h : Ev w v L) (t : Touch [] w w') : Ev w' v L := by
  obtain ⟨a, c, e, h1, h2⟩ := h
  refine ⟨a, c, e, h1, fun hp => ?_⟩
  obtain ⟨g, off, e2, h3, h4⟩ := h2 hp
  exact ⟨g, off, e2, Nat.lt_of_lt_of_le h3 t.size, fun i e hi => (h4 i e hi).keep t⟩
theorem Ev.of_arg {w : World} {v : Value} {xs : List EvA} (h : SlEvA w v xs) (hc : ∀ a n c, v = .slice a n c → n ≤ c) : Ev w v (xs.map EvA.z) := by
  rcases h with ⟨rfl, a, c, rfl⟩ | ⟨b, off, cap, rfl, R⟩
  · exact ⟨a, c, rfl, Nat.zero_le _, fun h => absurd h (Nat.lt_irrefl 0)⟩
  · refine ⟨_, cap, by rw [List.length_map], by rw [List.length_map]; exact hc _ _ _ rfl, fun _ => ⟨b, off, rfl, R.lt, fun i e hi => ?_⟩⟩
    rw [List.getElem?_map] at hi
    obtain ⟨x, hx, rfl⟩ := Option.map_eq_some_iff.1 hi
    obtain ⟨hl, rfl⟩ := List.getElem?_eq_some_iff.1 hx
    exact ⟨R.c0 i hl, R.c1 i hl, R.c2 i hl, R.c3 i hl, R.c4 i hl, R.c5 i hl, R.c6 i hl, R.c7 i hl, R.c8 i hl, R.c9 i hl, R.c10 i hl, R.c11 i hl, R.c12 i hl⟩
/-! Counting, plain -/
def mem {α : Type} [DecidableEq α] (l : List α) : α → Option Value := fun x => if x ∈ l then some unit else none
def without {α : Type} [DecidableEq α] (l : List α) (x : α) : List α := l.filter (fun y => decide (y ≠ x))
def push {α : Type} [DecidableEq α] (l : List α) (x : α) : List α := if x ∈ l then l else l ++ [x]
section
variable {α : Type} [DecidableEq α] {l : List α} {x : α}
theorem mem_without (y : α) : y ∈ without l x ↔ y ∈ l ∧ y ≠ x := by simp [without]
theorem without_len (h : l.Nodup) : (without l x).length = if x ∈ l then l.length - 1 else l.length := by
  induction l with
  | nil => simp [without]
  | cons a r ih =>
    have ha : ¬ a ∈ r := (List.nodup_cons.1 h).1
    have ih := ih (List.nodup_cons.1 h).2
    unfold without at *
    by_cases e : a = x
    · subst e
      rw [List.filter_cons, if_neg (by simp), ih, if_neg ha, if_pos (by simp)]; simp
    · rw [List.filter_cons, if_pos (by simp [e]), List.length_cons, ih]
      by_cases hx : x ∈ r
      · rw [if_pos hx, if_pos (by simp [hx])]
        have := List.length_pos_of_mem hx
        simp; omega
      · rw [if_neg hx, if_neg (by simp [hx, Ne.symm e])]; simp
theorem kupd_push : kupd (mem l) x unit = mem (push l x) := by
  funext y
  unfold kupd mem push
  by_cases e : y = x
  · subst e
    rw [if_pos rfl]
    by_cases h : y ∈ l
    · rw [if_pos h, if_pos h]
    · rw [if_neg h, if_pos (by simp)]
  · rw [if_neg e]
    by_cases h : x ∈ l
    · rw [if_pos h]
    · rw [if_neg h]
      by_cases hy : y ∈ l
      · rw [if_pos hy, if_pos (by simp [hy])]
      · rw [if_neg hy, if_neg (by simp [hy, e])]
theorem kupd_back : kupd (mem l) x unit = mem (without l x ++ [x]) := by
  funext y
  unfold kupd mem
  by_cases e : y = x
  · subst e
    rw [if_pos rfl, if_pos (by simp)]
  · rw [if_neg e]
    by_cases hy : y ∈ l
    · rw [if_pos hy, if_pos (by simp [mem_without, hy, e])]
    · rw [if_neg hy, if_neg (by simp [mem_without, hy, e])]
theorem kdel_without : kdel (mem l) x = mem (without l x) := by
  funext y
  unfold kdel mem
  by_cases e : y = x
  · subst e
    rw [if_pos rfl, if_neg (by simp [mem_without])]
  · rw [if_neg e]
    by_cases hy : y ∈ l
    · rw [if_pos hy, if_pos (by simp [mem_without, hy, e])]
    · rw [if_neg hy, if_neg (by simp [mem_without, hy, e])]
theorem mem_some : (mem l x).isSome = decide (x ∈ l) := by unfold mem; by_cases h : x ∈ l <;> simp [h]
theorem push_len : (push l x).length = if (mem l x).isSome then l.length else l.length + 1 := by
  rw [mem_some]; unfold push; by_cases h : x ∈ l <;> simp [h]
theorem back_len (h : l.Nodup) : (without l x ++ [x]).length = if (mem l x).isSome then l.length else l.length + 1 := by
  rw [mem_some, List.length_append, without_len h]
  by_cases hx : x ∈ l
  · have := List.length_pos_of_mem hx
    simp [hx]; omega
  · simp [hx]
theorem del_len (h : l.Nodup) : (without l x).length = if (mem l x).isSome then l.length - 1 else l.length := by
  rw [mem_some, without_len h]; by_cases hx : x ∈ l <;> simp [hx]
theorem without_nd (h : l.Nodup) : (without l x).Nodup := h.filter _
theorem back_nd (h : l.Nodup) : (without l x ++ [x]).Nodup := by
  rw [List.nodup_append]
  refine ⟨without_nd h, by simp, fun a ha b hb => ?_⟩
  simp only [List.mem_singleton] at hb
  subst hb
  exact ((mem_without a).1 ha).2
end
/-- The counts, whose keys were seen, which runs are in progress. -/
structure Ta where
  f : Nat → Int
  K : List K
  R : List Int
def Ez.key (e : Ez) : K := (e.sp, e.nm)
def k1 (s : Ta) (e : Ez) : Nat → Int := fset s.f (kk e.kd) (s.f (kk e.kd) + 1)
def oS (s : Ta) (e : Ez) : Ta :=
  if e.kd = 1 then ⟨inc (k1 s e) 12 7 e.ho, push s.K (Ez.key e), s.R⟩
  else if e.kd = 2 then ⟨fset (k1 s e) 26 (max (s.f 26) ((without s.R e.ru ++ [e.ru]).length : Nat)), s.K, without s.R e.ru ++ [e.ru]⟩
  else if e.kd = 5 then ⟨inc (k1 s e) 19 6 e.fk, s.K, without s.R e.ru⟩
  else ⟨k1 s e, s.K, s.R⟩
def z0 : Nat → Int := fun _ => 0
def oL (L : List Ez) : Ta := L.foldl oS ⟨z0, [], []⟩
theorem oL_snoc (L : List Ez) (e : Ez) : oL (L ++ [e]) = oS (oL L) e := by simp [oL]
def ofL (L : List Ez) : Nat → Int := fset (oL L).f 25 ((oL L).K.length : Nat)
/-- What holds of the counts behind so many events. -/
structure Oi (s : Ta) (n : Nat) : Prop where
  lo : ∀ j, 0 ≤ s.f j
  hi : ∀ j, s.f j ≤ n
  nd : s.R.Nodup
  rl : s.R.length ≤ n
  kl : s.K.length ≤ n
  mo : (s.R.length : Int) ≤ s.f 26
  k0 : s.f 25 = 0
theorem inc_b {f : Nat → Int} {off m : Nat} {j : Int} {n : Int} (h : ∀ i, 0 ≤ f i ∧ f i ≤ n) (i : Nat) : 0 ≤ inc f off m j i ∧ inc f off m j i ≤ n + 1 := by
  have := h i
  unfold inc
  split
  · unfold fset
    have h2 := h (off + j.toNat)
    split <;> omega
  · omega
theorem inc_ne {f : Nat → Int} {off m : Nat} {j : Int} {i : Nat} (h : i < off ∨ off + m ≤ i) : inc f off m j i = f i := by
  unfold inc
  split
  · rename_i hj
    rw [fset_ne (by omega)]
  · rfl
theorem k1_b {s : Ta} {e : Ez} {n : Nat} (h : Oi s n) (i : Nat) : 0 ≤ k1 s e i ∧ k1 s e i ≤ n + 1 := by
  have h1 := h.lo i
  have h2 := h.hi i
  have h3 := h.lo (kk e.kd)
  have h4 := h.hi (kk e.kd)
  unfold k1 fset
  split <;> omega
theorem k1_ne {s : Ta} {e : Ez} {i : Nat} (h : 12 ≤ i) : k1 s e i = s.f i := by
  have := kk_lt e.kd
  unfold k1
  rw [fset_ne (by omega)]
theorem kk_in {k : Int} (h : 1 ≤ k) (h' : k ≤ 11) : kk k = k.toNat := by unfold kk; rw [if_pos ⟨h, h'⟩]
theorem without_le {α : Type} [DecidableEq α] (l : List α) (x : α) : (without l x).length ≤ l.length := List.length_filter_le _ _
theorem inc_k1 {s : Ta} {e : Ez} {n : Nat} (h : Oi s n) {off m : Nat} (ho : 12 ≤ off) (j : Int) (i : Nat) : 0 ≤ inc (k1 s e) off m j i ∧ inc (k1 s e) off m j i ≤ n + 1 := by
  by_cases hi : i < off ∨ off + m ≤ i
  · rw [inc_ne hi]; exact k1_b h i
  · unfold inc
    split
    · unfold fset
      split
      · rw [k1_ne (by omega)]
        have := h.lo (off + j.toNat)
        have := h.hi (off + j.toNat)
        omega
      · exact k1_b h i
    · exact k1_b h i
theorem Oi.step {s : Ta} {n : Nat} (h : Oi s n) (e : Ez) : Oi (oS s e) (n + 1) := by
  have hp : (push s.K (Ez.key e)).length ≤ s.K.length + 1 := by unfold push; split <;> simp
  have hw := without_le s.R e.ru
  have r1 := h.rl
  have r2 := h.kl
  have r3 := h.mo
  have r4 := h.k0
  unfold oS
  split
  · refine ⟨fun j => (inc_k1 h (by omega) _ j).1, fun j => (inc_k1 h (by omega) _ j).2, h.nd, by simp only; omega, by simp only; omega, ?_, ?_⟩
    · show (s.R.length : Int) ≤ inc (k1 s e) 12 7 e.ho 26; rw [inc_ne (by omega), k1_ne (by omega)]; exact r3
    · show inc (k1 s e) 12 7 e.ho 25 = 0; rw [inc_ne (by omega), k1_ne (by omega)]; exact r4
  split
  · have hl : (without s.R e.ru ++ [e.ru]).length ≤ n + 1 := by simp; omega
    have q1 := h.lo 26
    have q2 := h.hi 26
    refine ⟨fun j => ?_, fun j => ?_, back_nd h.nd, hl, by simp only; omega, ?_, ?_⟩
    · simp only [fset]; split
      · omega
      · exact (k1_b h j).1
    · simp only [fset]; split
      · omega
      · exact (k1_b h j).2
    · simp only [fset_same]; omega
    · simp only; rw [fset_ne (by omega), k1_ne (by omega)]; exact r4
  split
  · refine ⟨fun j => (inc_k1 h (by omega) _ j).1, fun j => (inc_k1 h (by omega) _ j).2, without_nd h.nd, by simp only; omega, by simp only; omega, ?_, ?_⟩
    · show ((without s.R e.ru).length : Int) ≤ inc (k1 s e) 19 6 e.fk 26; rw [inc_ne (by omega), k1_ne (by omega)]; omega
    · show inc (k1 s e) 19 6 e.fk 25 = 0; rw [inc_ne (by omega), k1_ne (by omega)]; exact r4
  · refine ⟨fun j => (k1_b h j).1, fun j => (k1_b h j).2, h.nd, by simp only; omega, by simp only; omega, ?_, ?_⟩
    · show (s.R.length : Int) ≤ k1 s e 26; rw [k1_ne (by omega)]; exact r3
    · show k1 s e 25 = 0; rw [k1_ne (by omega)]; exact r4
theorem Oi.more : ∀ (L : List Ez) (s : Ta) (n : Nat), Oi s n → Oi (L.foldl oS s) (n + L.length)
  | [], s, n, h => h
  | e :: L, s, n, h => by
    have := Oi.more L (oS s e) (n + 1) (h.step e)
    rw [List.length_cons, show n + (L.length + 1) = n + 1 + L.length by omega]
    exact this
theorem Oi.all (L : List Ez) : Oi (oL L) L.length := by
  have := Oi.more L ⟨z0, [], []⟩ 0 ⟨fun _ => Int.le_refl _, fun _ => Int.le_refl _, List.nodup_nil, Nat.le_refl _, Nat.le_refl _, Int.le_refl _, rfl⟩
  rw [Nat.zero_add] at this
  exact this
end Go.Proofs.Ytibgfkjhohgkhaa.Ty
