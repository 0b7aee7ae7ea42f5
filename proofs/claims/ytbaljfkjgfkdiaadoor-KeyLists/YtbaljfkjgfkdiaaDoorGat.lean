/- The contract of the program's gathering of unlike keys and their counts; the list's bytes are within the form's reach. -/
import Derived.Test.YtbaljfkjgfkdiaaDoorMap
namespace Go.Proofs.YtbaljfkjgfkdiaaDoor
open Go.RowKit Go.Sort Go.Maps Go.WideMaps
set_option linter.unusedVariables false

def cellsI (C : List Int) : List Value := C.map (Value.int .i64)
theorem owns1_block {w : World} {base e g c n : Nat} {xs : List Value} (h : w.ownsRow base e 1 (.slice (some ⟨g, 0, none⟩) n c) n xs) :
    ∃ cur, w.heap[g]? = some (.cells cur e (0, 0)) ∧ n ≤ c ∧ c ≤ maxLen ∧ cur.size = c * 1 ∧ cur.toList.take (n * 1) = xs ∧ base ≤ g ∧ xs.length = n * 1 := by
  obtain ⟨h1, h2 | ⟨g', cap', cur, hv, hg, hc, hn, hm, hs, ht⟩⟩ := h
  · cases h2.1
  · simp only [Value.slice.injEq, Option.some.injEq, Addr.mk.injEq, and_true, true_and] at hv
    obtain ⟨rfl, rfl⟩ := hv
    exact ⟨cur, hc, hn, hm, hs, ht, hg, h1⟩
theorem owns1_at {w : World} {base e g c n : Nat} {C : List Int} (h : w.ownsRow base e 1 (.slice (some ⟨g, 0, none⟩) n c) n (cellsI C)) (i : Nat) (hi : i < C.length) :
    w.cell? ⟨g, i, none⟩ = some (.int .i64 C[i]) ∧ w.frozen? ⟨g, i, none⟩ = false := by
  obtain ⟨cur, hc, hn, hm, hs, ht, hg, hl⟩ := owns1_block h
  refine ⟨?_, Joins.unfrozen_of_block hc _⟩
  have hn' : C.length = n := by unfold cellsI at hl; simpa using hl
  rw [Joins.cell_of_block hc, ← Array.getElem?_toList, ← List.getElem?_take_of_lt (show i < n * 1 by omega), ht]
  unfold cellsI
  simp [hi]
theorem owns1_set {w : World} {base e g c n : Nat} {C : List Int} (h : w.ownsRow base e 1 (.slice (some ⟨g, 0, none⟩) n c) n (cellsI C)) (i : Nat) (z : Int) :
    (w.setCell ⟨g, i, none⟩ (.int .i64 z)).ownsRow base e 1 (.slice (some ⟨g, 0, none⟩) n c) n (cellsI (C.set i z)) := by
  obtain ⟨cur, hc, hn, hm, hs, ht, hg, hl⟩ := owns1_block h
  refine ⟨by unfold cellsI at *; simpa using hl, Or.inr ⟨g, c, cur.setIfInBounds i (.int .i64 z), rfl, hg, Joins.block_setCell hc _, hn, hm, by simp [hs], ?_⟩⟩
  rw [Array.toList_setIfInBounds, List.take_set, ht]
  unfold cellsI
  rw [List.map_set]

structure St (w wr : World) (U l : List K) (D : DataW Unit) (A4 A5 : Option Addr) (c4 c5 k : Nat) : Prop where
  o4 : wr.ownsRow (w.heap.size + 1) 24 2 (.slice A4 U.length c4) U.length (cellsK U)
  o5 : wr.ownsRow (w.heap.size + 1) 3 1 (.slice A5 U.length c5) U.length (cellsI (counts U l))
  om : wr.ownsMap Tryd.prog 24 (plainElem Tryd.prog 3) w.heap.size k D
  mo : MapOk D U
  bl : Below w.heap.size w wr
  sz : w.heap.size + 1 ≤ wr.heap.size
  ap : ∀ g g', A4 = some ⟨g, 0, none⟩ → A5 = some ⟨g', 0, none⟩ → g ≠ g'
theorem own_block_lt {w : World} {base e size n c : Nat} {A : Option Addr} {xs : List Value} (h : w.ownsRow base e size (.slice A n c) n xs) : ∀ g, (Value.slice A n c).ownBlock = some g → A = some ⟨g, 0, none⟩ ∧ base ≤ g ∧ g < w.heap.size := by
  intro g hg
  obtain ⟨h1, h2 | ⟨g', cap', cur, hv, hb, hc, hn, hm, hs, ht⟩⟩ := h
  · simp only [Value.slice.injEq] at h2
    rw [h2.1.1] at hg
    cases hg
  · simp only [Value.slice.injEq] at hv
    obtain ⟨rfl, _, _⟩ := hv
    have e : some g' = some g := hg
    cases e
    refine ⟨rfl, hb, ?_⟩
    rcases Nat.lt_or_ge g w.heap.size with h | h
    · exact h
    · rw [Array.getElem?_eq_none h] at hc; cases hc
theorem grown_set (w : World) (g i : Nat) (v : Value) : w.grownBy (w.setCell ⟨g, i, none⟩ v) (some g) :=
  ⟨rfl, rfl, rfl, by simp [World.setCell], fun k _ hk => Below.heap_setCell _ _ _ _ (fun e => hk (by rw [e]))⟩
theorem st_known {w wr : World} {U l : List K} {D : DataW Unit} {A4 : Option Addr} {g5 c4 c5 k : Nat} (h : St w wr U l D A4 (some ⟨g5, 0, none⟩) c4 c5 k) (hn : U.Nodup) (i : Nat) (hi : i < U.length) (o : Obj) :
    St w ((wr.setCell ⟨g5, i, none⟩ (.int .i64 ((counts U l)[i]'(by rw [counts_len]; exact hi) + 1))).alloc o) U (l ++ [U[i]]) D A4 (some ⟨g5, 0, none⟩) c4 c5 (k + 1) := by
  have b5 := own_block_lt h.o5 g5 rfl
  have gs := grown_set wr g5 i (.int .i64 ((counts U l)[i]'(by rw [counts_len]; exact hi) + 1))
  have z := h.sz
  refine ⟨(h.o4.kept gs ?_).alloc o, ?_, ((h.om.kept gs (fun e => ?_)).alloc o).mono (Nat.le_succ _), h.mo, ?_, ?_, h.ap⟩
  · cases hb : (Value.slice A4 U.length c4).ownBlock with
    | none => exact Or.inl rfl
    | some g => exact Or.inr (fun e => h.ap g g5 (own_block_lt h.o4 g hb).1 rfl (by cases e; rfl))
  · have := (owns1_set h.o5 i ((counts U l)[i]'(by rw [counts_len]; exact hi) + 1)).alloc o
    rw [← counts_in U l i hi hn] at this
    exact this
  · have e2 : some w.heap.size = some g5 := e
    cases e2
    omega
  · exact (h.bl.setCell (by show w.heap.size ≤ g5; omega) _).alloc (by simp [World.setCell]; omega) o
  · simp [World.setCell]
    omega
theorem st_new {w wr w1 w2 w3 : World} {U l : List K} {D : DataW Unit} {A4 A5 : Option Addr} {g4 g5 c4 c5 c4' c5' k : Nat} (h : St w wr U l D A4 A5 c4 c5 k) (hD : IsMap D) (hU : ∀ u ∈ U, Ok u) (x : K) (hx : Ok x) (hn : ¬ x ∈ U) (hl : ¬ x ∈ l) (o o1 o2 : Obj)
    (m1 : w1.ownsMap Tryd.prog 24 (plainElem Tryd.prog 3) w.heap.size (k + 1) (D.put (klit x) (.lit (.int .i64 U.length)))) (r1 : (wr.alloc o).grownBy w1 (some w.heap.size))
    (n4 : w2.ownsRow (w.heap.size + 1) 24 2 (.slice (some ⟨g4, 0, none⟩) (U.length + 1) c4') (U.length + 1) (cellsK U ++ [.int .u16 x.1, .string x.2])) (r2 : (w1.alloc o1).grownBy w2 (Value.slice A4 U.length c4).ownBlock)
    (a4 : (Value.slice A4 U.length c4).ownBlock = some g4 ∨ g4 = (w1.alloc o1).heap.size)
    (n5 : w3.ownsRow (w.heap.size + 1) 3 1 (.slice (some ⟨g5, 0, none⟩) (U.length + 1) c5') (U.length + 1) (cellsI (counts U l) ++ [.int .i64 0])) (r3 : (w2.alloc o2).grownBy w3 (Value.slice A5 U.length c5).ownBlock)
    (a5 : (Value.slice A5 U.length c5).ownBlock = some g5 ∨ g5 = (w2.alloc o2).heap.size) :
    St w (w3.setCell ⟨g5, U.length, none⟩ (.int .i64 1)) (U ++ [x]) (l ++ [x]) (D.put (klit x) (.lit (.int .i64 U.length))) (some ⟨g4, 0, none⟩) (some ⟨g5, 0, none⟩) c4' c5' (k + 1) := by
  have lt4 : g4 < w2.heap.size := (own_block_lt n4 g4 rfl).2.2
  have b4 : w.heap.size + 1 ≤ g4 := (own_block_lt n4 g4 rfl).2.1
  have b5 : w.heap.size + 1 ≤ g5 := (own_block_lt n5 g5 rfl).2.1
  have z1 := r1.size
  have z2 := r2.size
  have z3 := r3.size
  have z0 := h.sz
  simp only [World.alloc, Array.size_push] at z1 z2 z3
  have hne : g4 ≠ g5 := by
    rcases a5 with e | e
    · obtain ⟨e5, f5, l5⟩ := own_block_lt h.o5 g5 e
      rcases a4 with e' | e'
      · exact h.ap g4 g5 (own_block_lt h.o4 g4 e').1 e5
      · simp only [World.alloc, Array.size_push] at e'
        omega
    · simp only [World.alloc, Array.size_push] at e
      omega
  have gs := grown_set w3 g5 U.length (.int .i64 1)
  have k5 : ∀ g, (Value.slice A5 U.length c5).ownBlock = some g → g ≠ w.heap.size ∧ g ≠ g4 := fun g hg => by
    obtain ⟨e5, f5, l5⟩ := own_block_lt h.o5 g hg
    refine ⟨by omega, ?_⟩
    rcases a4 with e' | e'
    · exact fun e => h.ap g4 g (own_block_lt h.o4 g4 e').1 e5 e.symm
    · simp only [World.alloc, Array.size_push] at e'
      omega
  have k4 : ∀ g, (Value.slice A4 U.length c4).ownBlock = some g → g ≠ w.heap.size := fun g hg => by
    obtain ⟨e5, f5, l5⟩ := own_block_lt h.o4 g hg
    omega
  refine ⟨?_, ?_, ?_, h.mo.put hD hU x hx hn, ?_, ?_, ?_⟩
  · rw [List.length_append, List.length_singleton, cellsK_app, cellsK_one]
    refine ((n4.alloc o2).kept r3 (Or.inr fun e => ?_)).kept gs (Or.inr fun e => ?_)
    · exact (k5 g4 e.symm).2 rfl
    · have e2 : some g4 = some g5 := e
      cases e2
      exact hne rfl
  · rw [List.length_append, List.length_singleton, counts_new U l x hn hl]
    have hc : cellsI (counts U l) ++ [Value.int .i64 0] = cellsI (counts U l ++ [0]) := by unfold cellsI; simp
    rw [hc] at n5
    have := owns1_set n5 U.length 1
    have he : (counts U l ++ [0]).set U.length 1 = counts U l ++ [1] := by
      rw [List.set_append_right _ _ (by rw [counts_len]; exact Nat.le_refl _), counts_len, Nat.sub_self]
      rfl
    rw [he] at this
    exact this
  · refine ((((m1.alloc o1).kept r2 ?_).alloc o2).kept r3 ?_).kept gs ?_
    · exact fun e => k4 _ e.symm rfl
    · exact fun e => (k5 _ e.symm).1 rfl
    · exact fun e => by
        have e2 : some w.heap.size = some g5 := e
        cases e2
        omega
  · have s1 : Below w.heap.size w w1 := (h.bl.alloc (by omega) o).grown r1 (by simp only [World.alloc, Array.size_push]; omega) (fun k hk => by cases hk; exact Nat.le_refl _)
    have s2 : Below w.heap.size w w2 := (s1.alloc (by omega) o1).grown r2 (by simp only [World.alloc, Array.size_push]; omega) (fun k hk => by have := (own_block_lt h.o4 k hk).2.1; omega)
    have s3 : Below w.heap.size w w3 := (s2.alloc (by omega) o2).grown r3 (by simp only [World.alloc, Array.size_push]; omega) (fun k hk => by have := (own_block_lt h.o5 k hk).2.1; omega)
    exact s3.setCell (by show w.heap.size ≤ g5; omega) _
  · simp [World.setCell]
    omega
  · intro g g' e e'
    cases e
    cases e'
    exact hne
end Go.Proofs.YtbaljfkjgfkdiaaDoor
