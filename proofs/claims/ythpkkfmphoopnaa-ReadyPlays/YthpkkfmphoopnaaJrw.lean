/- Rows of whole numbers: slices that can be read wherever they lie, rows that a call owns at whatever place of their block, and what is laid behind them; no conditions but those that each states. -/
import Derived.Test.YthpkkfmphoopnaaRsl
import Derived.Deep.AppendSrc
import Derived.Deep.Upon
namespace Go.Proofs.Ythpkkfmphoopnaa.Re
open Go.RowKit Go.Maps Go.ChangeMaps
set_option linter.unusedVariables false
set_option linter.unusedSimpArgs false
/-- A slice of whole numbers that can be read. -/
def Ra (w : World) (v : Value) (xs : List Int) : Prop := ∃ a c, v = .slice a xs.length c ∧ xs.length ≤ c ∧ (0 < xs.length → ∃ g off, a = some ⟨g, off, none⟩ ∧ g < w.heap.size ∧ ∀ i r, xs[i]? = some r → w.cell? ⟨g, off + i, none⟩ = some (.int .i64 r))
/-- A row of whole numbers that a call owns. -/
def Ow (w : World) (B : Nat) (v : Value) (xs : List Int) : Prop := (v = .slice none 0 0 ∧ xs = []) ∨ ∃ g off c cur, v = .slice (some ⟨g, off, none⟩) xs.length c ∧ B ≤ g ∧ w.heap[g]? = some (.cells cur 3 (0, 0)) ∧ xs.length ≤ c ∧ c ≤ maxLen ∧ off + c ≤ cur.size ∧ ∀ i r, xs[i]? = some r → w.cell? ⟨g, off + i, none⟩ = some (.int .i64 r)
section
variable {w w' : World} {v : Value} {xs ys : List Int} {B B' : Nat} {F : List Nat}
theorem cell_keep {g off : Nat} (h : w'.heap[g]? = w.heap[g]?) : w'.cell? ⟨g, off, none⟩ = w.cell? ⟨g, off, none⟩ := by simp [World.cell?, h]
theorem Ra.keep (h : Ra w v xs) (T : Touch F w w') (hF : 0 < xs.length → ∀ b, v.ownBlock = some b → ¬ b ∈ F) : Ra w' v xs := by
  obtain ⟨a, c, rfl, h1, h2⟩ := h
  refine ⟨a, c, rfl, h1, fun hp => ?_⟩
  obtain ⟨g, off, rfl, hg, hc⟩ := h2 hp
  exact ⟨g, off, rfl, Nat.lt_of_lt_of_le hg T.size, fun i r hi => by rw [cell_keep (T.block g hg (hF hp g rfl))]; exact hc i r hi⟩
theorem Ra.keep0 (h : Ra w v xs) (T : Touch [] w w') : Ra w' v xs := h.keep T (fun _ _ _ e => by cases e)
theorem Ra.form (h : Ra w v xs) : ∃ a c, v = .slice a xs.length c ∧ xs.length ≤ c := by
  obtain ⟨a, c, e, h1, _⟩ := h
  exact ⟨a, c, e, h1⟩
theorem Ra.blt (h : Ra w v xs) (hp : 0 < xs.length) {b : Nat} (hb : v.ownBlock = some b) : b < w.heap.size := by
  obtain ⟨a, c, rfl, h1, h2⟩ := h
  obtain ⟨g, off, rfl, hg, hc⟩ := h2 hp
  simp only [Value.ownBlock, Option.some.injEq] at hb
  subst hb
  exact hg
theorem Ra.nil (w : World) : Ra w (.slice none 0 0) [] := ⟨none, 0, rfl, Nat.le_refl _, fun h => absurd h (Nat.lt_irrefl 0)⟩
theorem Ra.cell {a : Option Addr} {n c i : Nat} (h : Ra w (.slice a n c) xs) (hi : i < xs.length) : ∃ g off, a = some ⟨g, off, none⟩ ∧ g < w.heap.size ∧ w.cell? ⟨g, off + i, none⟩ = some (.int .i64 xs[i]) := by
  obtain ⟨a', c', e, h1, h2⟩ := h
  simp only [Value.slice.injEq] at e
  obtain ⟨rfl, _, _⟩ := e
  obtain ⟨g, off, rfl, hg, hc⟩ := h2 (by omega)
  exact ⟨g, off, rfl, hg, hc i _ (List.getElem?_eq_getElem hi)⟩
theorem Ow.ra (h : Ow w B v xs) : Ra w v xs := by
  rcases h with ⟨rfl, rfl⟩ | ⟨g, off, c, cur, rfl, hB, hg, h1, h2, h3, h4⟩
  · exact Ra.nil w
  · exact ⟨_, c, rfl, h1, fun _ => ⟨g, off, rfl, block_lt hg, h4⟩⟩
theorem Ow.keep (h : Ow w B v xs) (T : Touch F w w') (hF : ∀ b, v.ownBlock = some b → ¬ b ∈ F) : Ow w' B v xs := by
  rcases h with h | ⟨g, off, c, cur, rfl, hB, hg, h1, h2, h3, h4⟩
  · exact Or.inl h
  · have e := T.block g (block_lt hg) (hF g rfl)
    exact Or.inr ⟨g, off, c, cur, rfl, hB, e.trans hg, h1, h2, h3, fun i r hi => by rw [cell_keep e]; exact h4 i r hi⟩
theorem Ow.keep0 (h : Ow w B v xs) (T : Touch [] w w') : Ow w' B v xs := h.keep T (fun _ _ e => by cases e)
theorem Ow.base (h : Ow w B v xs) (hb : B' ≤ B) : Ow w B' v xs := by
  rcases h with h | ⟨g, off, c, cur, rfl, hB, r⟩
  · exact Or.inl h
  · exact Or.inr ⟨g, off, c, cur, rfl, Nat.le_trans hb hB, r⟩
theorem Ow.nil (w : World) (B : Nat) : Ow w B (.slice none 0 0) [] := Or.inl ⟨rfl, rfl⟩
theorem Ow.form (h : Ow w B v xs) : ∃ a c, v = .slice a xs.length c ∧ xs.length ≤ c ∧ c ≤ maxLen := by
  rcases h with ⟨rfl, rfl⟩ | ⟨g, off, c, cur, rfl, hB, hg, h1, h2, h3, h4⟩
  · exact ⟨_, _, rfl, Nat.le_refl _, Nat.zero_le _⟩
  · exact ⟨_, _, rfl, h1, h2⟩
theorem Ow.lt (h : Ow w B v xs) {b : Nat} (hb : v.ownBlock = some b) : B ≤ b ∧ b < w.heap.size := by
  rcases h with ⟨rfl, rfl⟩ | ⟨g, off, c, cur, rfl, hB, hg, h1, h2, h3, h4⟩
  · cases hb
  · simp only [Value.ownBlock, Option.some.injEq] at hb
    subst hb
    exact ⟨hB, block_lt hg⟩
theorem Ow.kind (h : Ow w B v xs) {b : Nat} (hb : v.ownBlock = some b) : ∃ cs, w.heap[b]? = some (.cells cs 3 (0, 0)) := by
  rcases h with ⟨rfl, rfl⟩ | ⟨g, off, c, cur, rfl, hB, hg, h1, h2, h3, h4⟩
  · cases hb
  · simp only [Value.ownBlock, Option.some.injEq] at hb
    subst hb
    exact ⟨cur, hg⟩
theorem Ow.of_own (h : w.ownsRow B 3 1 v xs.length (ints xs)) : Ow w B v xs := by
  rcases h.2 with ⟨e1, e2⟩ | ⟨g, cap, cur, rfl, hg, hc, hn, hm, hs, ht⟩
  · exact Or.inl ⟨e1, List.length_eq_zero_iff.1 e2⟩
  · refine Or.inr ⟨g, 0, cap, cur, rfl, hg, hc, hn, hm, by omega, fun i r hi => ?_⟩
    rw [Nat.zero_add]
    exact own_cell h (by simp [ints, hi])
/-- A part of what can be read. -/
theorem Ra.one (h : Ra w v xs) : v.oneCell' = true := by
  obtain ⟨a, c, rfl, _⟩ := h
  rfl
end
theorem setCells_block (g : Nat) {e : TypeId} {fr : Nat × Nat} : ∀ (vs : List Value) (o : Nat) (w : World) (cur : Array Value), w.heap[g]? = some (.cells cur e fr) → ∃ cur', (w.setCells g o vs).heap[g]? = some (.cells cur' e fr) ∧ cur'.size = cur.size
  | [], o, w, cur, h => ⟨cur, h, rfl⟩
  | v :: r, o, w, cur, h => by
    obtain ⟨cur', h1, h2⟩ := setCells_block g r (o + 1) (w.setCell ⟨g, o, none⟩ v) _ (bset (i := o) h v)
    exact ⟨cur', h1, by rw [h2]; simp⟩
theorem setCells_touch (g : Nat) {F : List Nat} {a : World} (hg : g ∈ F ∨ a.heap.size ≤ g) : ∀ (vs : List Value) (o : Nat) (w : World), Touch F a w → Touch F a (w.setCells g o vs)
  | [], o, w, T => T
  | v :: r, o, w, T => setCells_touch g hg r (o + 1) _ (T.setCell hg v)
theorem ints_get {xs : List Int} {i : Nat} {u : Value} (h : (ints xs)[i]? = some u) : ∃ r, xs[i]? = some r ∧ u = .int .i64 r := by
  simp only [ints, List.getElem?_map, Option.map_eq_some_iff] at h
  obtain ⟨r, h1, h2⟩ := h
  exact ⟨r, h1, h2.symm⟩
theorem ints_one (xs : List Int) : ∀ u ∈ ints xs, u.oneCell' = true := fun u hu => by
  simp only [ints, List.mem_map] at hu
  obtain ⟨y, _, rfl⟩ := hu
  rfl
theorem ints_len (xs : List Int) : (ints xs).length = xs.length := by simp [ints]
section
variable {w : World} {v x : Value} {xs ys : List Int} {B : Nat}
theorem src_of {w : World} {i : TypeInfo} (hi : i.size = 1) (h : Ra w x ys) : Src Try.prog i.size 23 x ys.length (ints ys) w := by
  rw [hi]
  obtain ⟨a, c, rfl, h1, h2⟩ := h
  rcases Nat.eq_zero_or_pos ys.length with e | e
  · have e0 : ys = [] := List.length_eq_zero_iff.1 e
    subst e0
    cases a with
    | none => exact Src.ofNil w Try.underlying23 c
    | some a => exact Src.ofSlice w Try.underlying23 a 0 c [] rfl (fun j u hu => by simp at hu) (fun u hu => by cases hu)
  · obtain ⟨g, off, rfl, hg, hc⟩ := h2 e
    refine Src.ofSlice w Try.underlying23 _ _ c (ints ys) (by rw [ints_len, Nat.mul_one]) (fun j u hu => ?_) (ints_one ys)
    obtain ⟨r, hr, rfl⟩ := ints_get hu
    rw [show (⟨g, off, none⟩ : Addr).add j = ⟨g, off + j, none⟩ by simp [Addr.add]]
    exact hc j r hr
/-- What is read, laid behind a row that a call owns. -/
theorem run_append_ow (ty : TypeId) (hv : Ow w B v xs) (hx : Ra w x ys) (hb : xs.length + ys.length ≤ 17592186044416) (hB : B ≤ w.heap.size) :
    ∃ v' w', (Builtin.append_ #[23, 23] ty #[v, x]).run Try.prog w = .ok v' w' ∧ Ow w' B v' (xs ++ ys) ∧ Touch v.ownBlock.toList w w' ∧ (v'.ownBlock = v.ownBlock ∨ v'.ownBlock = some w.heap.size) := by
  obtain ⟨i3, hi3, hz0, hz1, hz2⟩ := info_parts info3
  have hsrc := src_of (i := i3) hz1 hx
  rcases Nat.eq_zero_or_pos ys.length with e0 | hp
  · have e1 : ys = [] := List.length_eq_zero_iff.1 e0
    subst e1
    obtain ⟨a, c, rfl, h1, h2⟩ := hv.form
    have hr := run_append_nothing (P := Try.prog) w 23 23 ty 3 i3 Try.underlying23 hi3 a xs.length c h1 x (by simpa [ints] using hsrc)
    exact ⟨_, _, hr, by simpa using hv, Touch.refl _ _, Or.inl rfl⟩
  have hfit : ∀ old, old < xs.length + ys.length → Builtin.nextslicecap (xs.length + ys.length) old * i3.bytes ≤ 281474976710656 := fun old ho => by
    rw [hz2]
    exact growslice_fits ho (by omega)
  have grown : ∀ base sCap, (Builtin.firstCells i3.size xs.length (.slice base xs.length sCap)).run Try.prog w.drew = .ok (ints xs).toArray w.drew → sCap < xs.length + ys.length →
      ∃ v' w', (Builtin.append_ #[23, 23] ty #[.slice base xs.length sCap, x]).run Try.prog w = .ok v' w' ∧ Ow w' B v' (xs ++ ys) ∧ Touch (Value.slice base xs.length sCap).ownBlock.toList w w' ∧ (v'.ownBlock = (Value.slice base xs.length sCap).ownBlock ∨ v'.ownBlock = some w.heap.size) := fun base sCap hold hg => by
    have hr := run_append_grow_src (P := Try.prog) w 23 23 ty 3 i3 (.int .i64 0) Try.underlying23 hi3 hz0 base xs.length sCap (ints xs) hold x ys.length (ints ys) hsrc hg (by omega) (hfit sCap hg)
    refine ⟨_, _, hr, Or.inr ⟨w.heap.size, 0, _, _, ?_, hB, heap_alloc_new w.drew _, ?_, grownCap_le_maxLen w (xs.length + ys.length) sCap 3 (by unfold maxLen; omega), ?_, fun i r hi => ?_⟩, ((Touch.refl _ _).drew).alloc _, Or.inr rfl⟩
    · rw [List.length_append]
    · rw [List.length_append]; exact grownCap_ge w _ _ _
    · have h2 := grownCap_ge w (xs.length + ys.length) sCap 3
      have h3 : (Value.int .i64 0).cells.size = 1 := rfl
      simp only [Array.size_append, List.size_toArray, List.length_append, ints_len, size_zeroCells, h3, Nat.mul_one]
      omega
    · refine cell_at (heap_alloc_new w.drew _) ?_
      have hi' := (List.getElem?_eq_some_iff.1 hi).1
      rw [Nat.zero_add, Array.getElem?_append_left (by simp [ints]; simpa using hi')]
      have : (ints (xs ++ ys))[i]? = some (.int .i64 r) := by
        unfold ints
        rw [List.getElem?_map, hi]
        rfl
      simpa [ints] using this
  rcases hv with ⟨rfl, rfl⟩ | ⟨g, off, c, cur, rfl, hBg, hg, h1, h2, h3, h4⟩
  · exact grown none 0 (run_firstCells_none w.drew _ 0 0 0) (by omega)
  · by_cases hroom : xs.length + ys.length ≤ c
    · have hcell : ∀ j, j < (ints ys).length → (w.cell? ⟨g, off + xs.length * i3.size + j, none⟩).isSome = true := fun j hj => by
        rw [ints_len] at hj
        rw [hz1, Nat.mul_one]
        simp [World.cell?, hg, show off + xs.length + j < cur.size by omega]
      have hr := run_append_room_src (P := Try.prog) w 23 23 ty 3 i3 Try.underlying23 hi3 g off xs.length c x ys.length (ints ys) hsrc hroom hcell (fun j hj => by simp [World.frozen?, hg])
      rw [hz1, Nat.mul_one] at hr hcell
      obtain ⟨cur', hb1, hb2⟩ := setCells_block g (ints ys) (off + xs.length) w cur hg
      refine ⟨_, _, hr, Or.inr ⟨g, off, c, cur', by rw [List.length_append], hBg, hb1, by rw [List.length_append]; exact hroom, h2, by omega, fun i r hi => ?_⟩, setCells_touch g (Or.inl (by simp [Value.ownBlock])) _ _ _ (Touch.refl _ _), Or.inl rfl⟩
      by_cases hlt : i < xs.length
      · rw [List.getElem?_append_left hlt] at hi
        rw [World.cell?_setCells_out g _ _ _ _ (fun _ _ => Or.inl (by simp; omega))]
        exact h4 i r hi
      · rw [List.getElem?_append_right (by omega)] at hi
        have hj := (List.getElem?_eq_some_iff.1 hi).1
        have := World.cell?_setCells_in g (ints ys) (off + xs.length) w hcell (i - xs.length) (by rw [ints_len]; exact hj)
        rw [show off + i = off + xs.length + (i - xs.length) by omega, this]
        have e2 := (List.getElem?_eq_some_iff.1 hi).2
        simp [ints, e2]
    · refine grown (some ⟨g, off, none⟩) c ?_ (by omega)
      rw [hz1]
      refine run_firstCells_some w.drew 1 xs.length ⟨g, off, none⟩ xs.length c (ints xs) (by rw [ints_len, Nat.mul_one]) (fun j u hu => ?_)
      obtain ⟨r, hr, rfl⟩ := ints_get hu
      rw [show (⟨g, off, none⟩ : Addr).add j = ⟨g, off + j, none⟩ by simp [Addr.add]]
      exact h4 j r hr
end
section
variable {w : World} {o : Oper} {a : Act} {K : Act → World → Prop} {Q : Exit → Act → World → Prop}
theorem wp_append_ow (s x : Operand) (ho : o.op = .call { callee := .builtin .append, args := #[s, x], argTypes := #[23, 23] })
    (B : Nat) (v : Value) (xs : List Int) (hs : a.eval s = v) (hown : Ow w B v xs) (u : Value) (ys : List Int) (hx : a.eval x = u) (hu : Ra w u ys) (hb : xs.length + ys.length ≤ 17592186044416) (hB : B ≤ w.heap.size)
    (h : ∀ v' w', Ow w' B v' (xs ++ ys) → Touch v.ownBlock.toList w w' → (v'.ownBlock = v.ownBlock ∨ v'.ownBlock = some w.heap.size) → K (a.put o.dst v') w') : o.wp Try.prog a w K Q := by
  obtain ⟨v', w', hrun, q1, q2, q4⟩ := run_append_ow (w := w) o.type hown hu hb hB
  unfold Oper.wp
  simp [execOp, ho, resolve, invoke, builtin, hs, hx, hrun, Result.andThen]
  exact h v' w' q1 q2 q4
theorem wpList_append_ow {ops : Array Oper} {rest : List Oper} (hgd : o.guard = none) (s x : Operand) (ho : o.op = .call { callee := .builtin .append, args := #[s, x], argTypes := #[23, 23] })
    (B : Nat) (v : Value) (xs : List Int) (hs : a.eval s = v) (hown : Ow w B v xs) (u : Value) (ys : List Int) (hx : a.eval x = u) (hu : Ra w u ys) (hb : xs.length + ys.length ≤ 17592186044416) (hB : B ≤ w.heap.size)
    (h : ∀ v' w', Ow w' B v' (xs ++ ys) → Touch v.ownBlock.toList w w' → (v'.ownBlock = v.ownBlock ∨ v'.ownBlock = some w.heap.size) → wpList Try.prog ops Q rest (a.put o.dst v') w') : wpList Try.prog ops Q (o :: rest) a w := by
  refine wpList_plain hgd fun K' hK' => ?_
  exact wp_append_ow s x ho B v xs hs hown u ys hx hu hb hB (fun v' w' q1 q2 q3 => hK' _ _ (h v' w' q1 q2 q3))
end
/-- A row of one number that was just made. -/
theorem ra_new (w : World) (x : Int) : Ra (w.alloc (.cells #[.int .i64 x] 3)) (.slice (some ⟨w.heap.size, 0, none⟩) 1 1) [x] := by
  refine ⟨_, 1, rfl, Nat.le_refl _, fun _ => ⟨w.heap.size, 0, rfl, by simp, fun i r hi => ?_⟩⟩
  match i, hi with
  | 0, hi => simp at hi; subst hi; exact cell_at (heap_alloc_new w _) rfl
/-- A row of nothing that was just made. -/
theorem ow_new (w : World) {B : Nat} (hB : B ≤ w.heap.size) : Ow (w.alloc (.cells #[] 3)) B (.slice (some ⟨w.heap.size, 0, none⟩) 0 0) [] :=
  Or.inr ⟨w.heap.size, 0, 0, #[], rfl, hB, heap_alloc_new w _, Nat.le_refl _, Nat.zero_le _, Nat.le_refl _, fun i r hi => by simp at hi⟩
end Go.Proofs.Ythpkkfmphoopnaa.Re
