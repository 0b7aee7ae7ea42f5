/- The contract of the program's gathering of unlike keys; the list's bytes are within the form's reach. -/
import Derived.Test.YtcdikdiopklcgaaGreatDoorXun
import Derived.Deep.AppendLies
import Derived.OwnWalk
import Derived.DeepKeys4
import Derived.MapViews
import Derived.Maps.Views
import Derived.Maps.OwnOps
import Derived.Maps.OwnSet
import Derived.Carry
namespace Go.Proofs.YtcdikdiopklcgaaGreatDoor.Un
open Go.RowKit Go.Sort Go.Maps Go.WideMaps
set_option linter.unusedVariables false
theorem keyed24 : Keyed Tryz.prog 26 := keyedK
theorem key24 (x : K) (h : Ok x) : keyOf Tryz.prog 26 (.agg #[.int .u16 x.1, .string x.2]) = some (klit x) := keyK h
theorem klit_ne (x y : K) (hx : Ok x) (hy : Ok y) (h : x ≠ y) : klit x ≠ klit y := fun e => h (klit_inj hx hy e)
theorem klit_key (x : K) (h : Ok x) : WideAt.IsKeyLit (klit x) := keyedK.key (keyK h)
structure MapOk (D : DataW Unit) (U : List K) : Prop where
  has : ∀ x, Ok x → (Maps.has D (klit x) = true ↔ x ∈ U)
  at_ : ∀ i (h : i < U.length), D.atKey (klit U[i]) (.lit (.int .i64 0)) = .lit (.int .i64 i)
theorem mapOk_nil : MapOk (.map []) [] := ⟨fun x _ => by simp [Maps.has_eq], fun i h => by cases h⟩
theorem MapOk.put {D : DataW Unit} {U : List K} (h : MapOk D U) (hD : IsMap D) (hU : ∀ u ∈ U, Ok u) (x : K) (hx : Ok x) (hn : ¬ x ∈ U) : MapOk (D.put (klit x) (.lit (.int .i64 U.length))) (U ++ [x]) := by
  refine ⟨fun y hy => ?_, fun i hi => ?_⟩
  · by_cases e : y = x
    · subst e
      rw [has_put_same hD (klit_key y hy)]
      simp
    · rw [has_put_other (klit_ne y x hy hx e), h.has y hy]
      simp [e]
  · rw [List.length_append, List.length_singleton] at hi
    by_cases e : i = U.length
    · subst e
      have : (U ++ [x])[U.length]'(by simp) = x := by simp
      rw [this, atKey_put_same hD (klit_key x hx)]
    · have hlt : i < U.length := by omega
      have : (U ++ [x])[i]'(by simp; omega) = U[i] := List.getElem_append_left hlt
      rw [this, atKey_put_other (klit_ne _ _ (hU _ (List.getElem_mem hlt)) hx (fun e => hn (e ▸ List.getElem_mem hlt)))]
      exact h.at_ i hlt

def cnt (u : K) : List K → Nat
  | [] => 0
  | y :: l => (if y = u then 1 else 0) + cnt u l
theorem cnt_app (u : K) : ∀ (l m : List K), cnt u (l ++ m) = cnt u l + cnt u m
  | [], m => by simp [cnt]
  | y :: l, m => by simp only [List.cons_append, cnt, cnt_app u l m]; omega
theorem cnt_one_same (u : K) : cnt u [u] = 1 := by simp [cnt]
theorem cnt_one_other (u y : K) (h : y ≠ u) : cnt u [y] = 0 := by simp [cnt, h]
theorem cnt_none (u : K) : ∀ (l : List K), ¬ u ∈ l → cnt u l = 0
  | [], _ => rfl
  | y :: l, h => by
    simp only [List.mem_cons, not_or] at h
    simp only [cnt]
    rw [if_neg (fun e => h.1 e.symm), cnt_none u l h.2]
theorem cnt_le (u : K) : ∀ (l : List K), cnt u l ≤ l.length
  | [] => Nat.le_refl _
  | y :: l => by
    have := cnt_le u l
    simp only [cnt, List.length_cons]
    split <;> omega
theorem unl_mem : ∀ (out l : List K) (x : K), x ∈ unl out l ↔ x ∈ out ∨ x ∈ l
  | out, [], x => by simp [unl]
  | out, y :: l, x => by
    simp only [unl]
    rw [unl_mem]
    by_cases h : y ∈ out
    · rw [if_pos (isIn_yes h)]
      simp only [List.mem_cons]
      constructor
      · rintro (h1 | h1)
        · exact Or.inl h1
        · exact Or.inr (Or.inr h1)
      · rintro (h1 | rfl | h1)
        · exact Or.inl h1
        · exact Or.inl h
        · exact Or.inr h1
    · rw [if_neg (isIn_no h)]
      simp only [List.mem_append, List.mem_cons, List.not_mem_nil, or_false]
      constructor
      · rintro ((h1 | h1) | h1)
        · exact Or.inl h1
        · exact Or.inr (Or.inl h1)
        · exact Or.inr (Or.inr h1)
      · rintro (h1 | h1 | h1)
        · exact Or.inl (Or.inl h1)
        · exact Or.inl (Or.inr h1)
        · exact Or.inr h1
theorem unl_nodup : ∀ (out l : List K), out.Nodup → (unl out l).Nodup
  | out, [], h => h
  | out, y :: l, h => by
    simp only [unl]
    by_cases hy : y ∈ out
    · rw [if_pos (isIn_yes hy)]; exact unl_nodup out l h
    · rw [if_neg (isIn_no hy)]
      refine unl_nodup _ l ?_
      rw [List.nodup_append]
      refine ⟨h, by simp, ?_⟩
      intro a ha b hb
      simp only [List.mem_singleton] at hb
      subst hb
      exact fun e => hy (e ▸ ha)
def counts (U l : List K) : List Int := U.map fun u => (cnt u l : Int)
theorem nodup_ne (U : List K) (hn : U.Nodup) (i j : Nat) (hi : i < U.length) (hj : j < U.length) (e : i ≠ j) : U[i] ≠ U[j] := by
  have := List.pairwise_iff_getElem.1 hn
  rcases Nat.lt_or_gt_of_ne e with h | h
  · exact this i j hi hj h
  · exact fun h' => this j i hj hi h h'.symm
theorem counts_in (U l : List K) (i : Nat) (h : i < U.length) (hn : U.Nodup) : counts U (l ++ [U[i]]) = (counts U l).set i ((counts U l)[i]'(by unfold counts; simpa using h) + 1) := by
  unfold counts
  apply List.ext_getElem
  · simp
  · intro j h1 h2
    simp only [List.length_map] at h1
    rw [List.getElem_set]
    by_cases e : i = j
    · subst e
      rw [if_pos rfl]
      simp only [List.getElem_map]
      rw [cnt_app, cnt_one_same]
      omega
    · rw [if_neg e]
      simp only [List.getElem_map]
      rw [cnt_app, cnt_one_other _ _ (nodup_ne U hn i j h h1 e)]
      omega
theorem counts_new (U l : List K) (x : K) (hx : ¬ x ∈ U) (hl : ¬ x ∈ l) : counts (U ++ [x]) (l ++ [x]) = counts U l ++ [1] := by
  unfold counts
  rw [List.map_append]
  congr 1
  · refine List.map_congr_left fun u hu => ?_
    rw [cnt_app, cnt_one_other _ _ (fun e => hx (by rw [e]; exact hu))]
    omega
  · simp only [List.map_cons, List.map_nil]
    rw [cnt_app, cnt_one_same, cnt_none x l hl]
    rfl
theorem counts_len (U l : List K) : (counts U l).length = U.length := by unfold counts; simp
def cellsI (C : List Int) : List Value := C.map (Value.int .i64)
theorem owns1_block {w : World} {base e g c n : Nat} {xs : List Value} (h : w.ownsRow base e 1 (.slice (some ⟨g, 0, none⟩) n c) n xs) :
    ∃ cur, w.heap[g]? = some (.cells cur e (0, 0)) ∧ n ≤ c ∧ c ≤ maxLen ∧ cur.size = c * 1 ∧ cur.toList.take (n * 1) = xs ∧ base ≤ g ∧ xs.length = n * 1 := by
  obtain ⟨h1, h2 | ⟨g', cap', cur, hv, hg, hc, hn, hm, hs, ht⟩⟩ := h
  · cases h2.1
  · simp only [Value.slice.injEq, Option.some.injEq, Addr.mk.injEq, and_true, true_and] at hv
    obtain ⟨rfl, rfl⟩ := hv
    exact ⟨cur, hc, hn, hm, hs, ht, hg, h1⟩
theorem owns1_at {w : World} {base e g c n : Nat} {C : List Int} (h : w.ownsRow base e 1 (.slice (some ⟨g, 0, none⟩) n c) n (cellsI C)) (i : Nat) (hi : i < C.length) :
    w.cell? ⟨g, i, none⟩ = some (.int .i64 C[i]) ∧ w.frozen? ⟨g, i, none⟩ = false := by
  obtain ⟨cur, hc, hn, hm, hs, ht, hg, hl⟩ := owns1_block h
  refine ⟨?_, Joins.unfrozen_of_block hc _⟩
  have hn' : C.length = n := by unfold cellsI at hl; simpa using hl
  rw [Joins.cell_of_block hc, ← Array.getElem?_toList, ← List.getElem?_take_of_lt (show i < n * 1 by omega), ht]
  unfold cellsI
  simp [hi]
theorem owns1_set {w : World} {base e g c n : Nat} {C : List Int} (h : w.ownsRow base e 1 (.slice (some ⟨g, 0, none⟩) n c) n (cellsI C)) (i : Nat) (z : Int) :
    (w.setCell ⟨g, i, none⟩ (.int .i64 z)).ownsRow base e 1 (.slice (some ⟨g, 0, none⟩) n c) n (cellsI (C.set i z)) := by
  obtain ⟨cur, hc, hn, hm, hs, ht, hg, hl⟩ := owns1_block h
  refine ⟨by unfold cellsI at *; simpa using hl, Or.inr ⟨g, c, cur.setIfInBounds i (.int .i64 z), rfl, hg, Joins.block_setCell hc _, hn, hm, by simp [hs], ?_⟩⟩
  rw [Array.toList_setIfInBounds, List.take_set, ht]
  unfold cellsI
  rw [List.map_set]

structure St (w wr : World) (U l : List K) (D : DataW Unit) (A4 A5 : Option Addr) (c4 c5 k : Nat) : Prop where
  o4 : wr.ownsRow (w.heap.size + 1) 26 2 (.slice A4 U.length c4) U.length (cellsK U)
  o5 : wr.ownsRow (w.heap.size + 1) 3 1 (.slice A5 U.length c5) U.length (cellsI (counts U l))
  om : wr.ownsMap Tryz.prog 26 (plainElem Tryz.prog 3) w.heap.size k D
  mo : MapOk D U
  bl : Below w.heap.size w wr
  sz : w.heap.size + 1 ≤ wr.heap.size
  ap : ∀ g g', A4 = some ⟨g, 0, none⟩ → A5 = some ⟨g', 0, none⟩ → g ≠ g'
theorem own_block_lt {w : World} {base e size n c : Nat} {A : Option Addr} {xs : List Value} (h : w.ownsRow base e size (.slice A n c) n xs) : ∀ g, (Value.slice A n c).ownBlock = some g → A = some ⟨g, 0, none⟩ ∧ base ≤ g ∧ g < w.heap.size := by
  intro g hg
  obtain ⟨h1, h2 | ⟨g', cap', cur, hv, hb, hc, hn, hm, hs, ht⟩⟩ := h
  · simp only [Value.slice.injEq] at h2
    rw [h2.1.1] at hg
    cases hg
  · simp only [Value.slice.injEq] at hv
    obtain ⟨rfl, _, _⟩ := hv
    have e : some g' = some g := hg
    cases e
    refine ⟨rfl, hb, ?_⟩
    rcases Nat.lt_or_ge g w.heap.size with h | h
    · exact h
    · rw [Array.getElem?_eq_none h] at hc; cases hc
theorem grown_set (w : World) (g i : Nat) (v : Value) : w.grownBy (w.setCell ⟨g, i, none⟩ v) (some g) :=
  ⟨rfl, rfl, rfl, by simp [World.setCell], fun k _ hk => Below.heap_setCell _ _ _ _ (fun e => hk (by rw [e]))⟩
theorem st_known {w wr : World} {U l : List K} {D : DataW Unit} {A4 : Option Addr} {g5 c4 c5 k : Nat} (h : St w wr U l D A4 (some ⟨g5, 0, none⟩) c4 c5 k) (hn : U.Nodup) (i : Nat) (hi : i < U.length) (o : Obj) :
    St w ((wr.setCell ⟨g5, i, none⟩ (.int .i64 ((counts U l)[i]'(by rw [counts_len]; exact hi) + 1))).alloc o) U (l ++ [U[i]]) D A4 (some ⟨g5, 0, none⟩) c4 c5 (k + 1) := by
  have b5 := own_block_lt h.o5 g5 rfl
  have gs := grown_set wr g5 i (.int .i64 ((counts U l)[i]'(by rw [counts_len]; exact hi) + 1))
  have z := h.sz
  refine ⟨(h.o4.kept gs ?_).alloc o, ?_, ((h.om.kept gs (fun e => ?_)).alloc o).mono (Nat.le_succ _), h.mo, ?_, ?_, h.ap⟩
  · cases hb : (Value.slice A4 U.length c4).ownBlock with
    | none => exact Or.inl rfl
    | some g => exact Or.inr (fun e => h.ap g g5 (own_block_lt h.o4 g hb).1 rfl (by cases e; rfl))
  · have := (owns1_set h.o5 i ((counts U l)[i]'(by rw [counts_len]; exact hi) + 1)).alloc o
    rw [← counts_in U l i hi hn] at this
    exact this
  · have e2 : some w.heap.size = some g5 := e
    cases e2
    omega
  · exact (h.bl.setCell (by show w.heap.size ≤ g5; omega) _).alloc (by simp [World.setCell]; omega) o
  · simp [World.setCell]
    omega
theorem st_new {w wr w1 w2 w3 : World} {U l : List K} {D : DataW Unit} {A4 A5 : Option Addr} {g4 g5 c4 c5 c4' c5' k : Nat} (h : St w wr U l D A4 A5 c4 c5 k) (hD : IsMap D) (hU : ∀ u ∈ U, Ok u) (x : K) (hx : Ok x) (hn : ¬ x ∈ U) (hl : ¬ x ∈ l) (o o1 o2 : Obj)
    (m1 : w1.ownsMap Tryz.prog 26 (plainElem Tryz.prog 3) w.heap.size (k + 1) (D.put (klit x) (.lit (.int .i64 U.length)))) (r1 : (wr.alloc o).grownBy w1 (some w.heap.size))
    (n4 : w2.ownsRow (w.heap.size + 1) 26 2 (.slice (some ⟨g4, 0, none⟩) (U.length + 1) c4') (U.length + 1) (cellsK U ++ [.int .u16 x.1, .string x.2])) (r2 : (w1.alloc o1).grownBy w2 (Value.slice A4 U.length c4).ownBlock)
    (a4 : (Value.slice A4 U.length c4).ownBlock = some g4 ∨ g4 = (w1.alloc o1).heap.size)
    (n5 : w3.ownsRow (w.heap.size + 1) 3 1 (.slice (some ⟨g5, 0, none⟩) (U.length + 1) c5') (U.length + 1) (cellsI (counts U l) ++ [.int .i64 0])) (r3 : (w2.alloc o2).grownBy w3 (Value.slice A5 U.length c5).ownBlock)
    (a5 : (Value.slice A5 U.length c5).ownBlock = some g5 ∨ g5 = (w2.alloc o2).heap.size) :
    St w (w3.setCell ⟨g5, U.length, none⟩ (.int .i64 1)) (U ++ [x]) (l ++ [x]) (D.put (klit x) (.lit (.int .i64 U.length))) (some ⟨g4, 0, none⟩) (some ⟨g5, 0, none⟩) c4' c5' (k + 1) := by
  have lt4 : g4 < w2.heap.size := (own_block_lt n4 g4 rfl).2.2
  have b4 : w.heap.size + 1 ≤ g4 := (own_block_lt n4 g4 rfl).2.1
  have b5 : w.heap.size + 1 ≤ g5 := (own_block_lt n5 g5 rfl).2.1
  have z1 := r1.size
  have z2 := r2.size
  have z3 := r3.size
  have z0 := h.sz
  simp only [World.alloc, Array.size_push] at z1 z2 z3
  have hne : g4 ≠ g5 := by
    rcases a5 with e | e
    · obtain ⟨e5, f5, l5⟩ := own_block_lt h.o5 g5 e
      rcases a4 with e' | e'
      · exact h.ap g4 g5 (own_block_lt h.o4 g4 e').1 e5
      · simp only [World.alloc, Array.size_push] at e'
        omega
    · simp only [World.alloc, Array.size_push] at e
      omega
  have gs := grown_set w3 g5 U.length (.int .i64 1)
  have k5 : ∀ g, (Value.slice A5 U.length c5).ownBlock = some g → g ≠ w.heap.size ∧ g ≠ g4 := fun g hg => by
    obtain ⟨e5, f5, l5⟩ := own_block_lt h.o5 g hg
    refine ⟨by omega, ?_⟩
    rcases a4 with e' | e'
    · exact fun e => h.ap g4 g (own_block_lt h.o4 g4 e').1 e5 e.symm
    · simp only [World.alloc, Array.size_push] at e'
      omega
  have k4 : ∀ g, (Value.slice A4 U.length c4).ownBlock = some g → g ≠ w.heap.size := fun g hg => by
    obtain ⟨e5, f5, l5⟩ := own_block_lt h.o4 g hg
    omega
  refine ⟨?_, ?_, ?_, h.mo.put hD hU x hx hn, ?_, ?_, ?_⟩
  · rw [List.length_append, List.length_singleton, cellsK_app, cellsK_one]
    refine ((n4.alloc o2).kept r3 (Or.inr fun e => ?_)).kept gs (Or.inr fun e => ?_)
    · exact (k5 g4 e.symm).2 rfl
    · have e2 : some g4 = some g5 := e
      cases e2
      exact hne rfl
  · rw [List.length_append, List.length_singleton, counts_new U l x hn hl]
    have hc : cellsI (counts U l) ++ [Value.int .i64 0] = cellsI (counts U l ++ [0]) := by unfold cellsI; simp
    rw [hc] at n5
    have := owns1_set n5 U.length 1
    have he : (counts U l ++ [0]).set U.length 1 = counts U l ++ [1] := by
      rw [List.set_append_right _ _ (by rw [counts_len]; exact Nat.le_refl _), counts_len, Nat.sub_self]
      rfl
    rw [he] at this
    exact this
  · refine ((((m1.alloc o1).kept r2 ?_).alloc o2).kept r3 ?_).kept gs ?_
    · exact fun e => k4 _ e.symm rfl
    · exact fun e => (k5 _ e.symm).1 rfl
    · exact fun e => by
        have e2 : some w.heap.size = some g5 := e
        cases e2
        omega
  · have s1 : Below w.heap.size w w1 := (h.bl.alloc (by omega) o).grown r1 (by simp only [World.alloc, Array.size_push]; omega) (fun k hk => by cases hk; exact Nat.le_refl _)
    have s2 : Below w.heap.size w w2 := (s1.alloc (by omega) o1).grown r2 (by simp only [World.alloc, Array.size_push]; omega) (fun k hk => by have := (own_block_lt h.o4 k hk).2.1; omega)
    have s3 : Below w.heap.size w w3 := (s2.alloc (by omega) o2).grown r3 (by simp only [World.alloc, Array.size_push]; omega) (fun k hk => by have := (own_block_lt h.o5 k hk).2.1; omega)
    exact s3.setCell (by show w.heap.size ≤ g5; omega) _
  · simp [World.setCell]
    omega
  · intro g g' e e'
    cases e
    cases e'
    exact hne
theorem counts_bound (U l : List K) (i : Nat) (h : i < (counts U l).length) : 0 ≤ (counts U l)[i] ∧ (counts U l)[i] ≤ (l.length : Int) := by
  have h' : i < U.length := by rw [counts_len] at h; exact h
  have e : (counts U l)[i] = (cnt U[i] l : Int) := by simp [counts]
  have := cnt_le U[i] l
  omega
theorem lit_inj {c i : Int} {d : DataW Unit} (h : d = .lit (.int .i64 c)) (h' : d = .lit (.int .i64 i)) : c = i := by
  rw [h] at h'
  simpa using h'
theorem last_cell {w : World} {base e g c n : Nat} {C : List Int} (h : w.ownsRow base e 1 (.slice (some ⟨g, 0, none⟩) (n + 1) c) (n + 1) (cellsI C ++ [.int .i64 0])) (hC : C.length = n) :
    w.cell? ⟨g, n, none⟩ = some (.int .i64 0) ∧ w.frozen? ⟨g, n, none⟩ = false := by
  have hc : cellsI C ++ [Value.int .i64 0] = cellsI (C ++ [0]) := by unfold cellsI; simp
  rw [hc] at h
  have := owns1_at h n (by simp; omega)
  have e : (C ++ [0])[n]'(by simp; omega) = 0 := by
    subst hC
    simp
  rw [e] at this
  exact this
theorem cell_one_int (w : World) (x : Value) (t : TypeId) : ∀ j u, [x][j]? = some u → (w.alloc (.cells #[x] t)).cell? ((⟨w.heap.size, 0, none⟩ : Addr).add j) = some u := by
  intro j u hj
  match j, hj with
  | 0, hj => simp at hj; subst hj; simp [Addr.add]
theorem ne_map {w wr : World} {e size n c : Nat} {A : Option Addr} {xs : List Value} (h : wr.ownsRow (w.heap.size + 1) e size (.slice A n c) n xs) : (Value.slice A n c).ownBlock = none ∨ (Value.slice A n c).ownBlock ≠ some w.heap.size := by
  cases hb : (Value.slice A n c).ownBlock with
  | none => exact Or.inl rfl
  | some g => exact Or.inr (fun e => by
      have := (own_block_lt h g hb).2.1
      cases e
      omega)
theorem ne_rows {w wr : World} {U l : List K} {D : DataW Unit} {A4 A5 : Option Addr} {c4 c5 k : Nat} (h : St w wr U l D A4 A5 c4 c5 k) : (Value.slice A5 U.length c5).ownBlock = none ∨ (Value.slice A5 U.length c5).ownBlock ≠ (Value.slice A4 U.length c4).ownBlock := by
  cases hb : (Value.slice A5 U.length c5).ownBlock with
  | none => exact Or.inl rfl
  | some g => exact Or.inr (fun e => h.ap g g (own_block_lt h.o4 g e.symm).1 (own_block_lt h.o5 g hb).1 rfl)
theorem box_kept {wr w1 : World} {x y : Value} {t b : Nat} (h : (wr.alloc (.cells #[x, y] t)).grownBy w1 (some b)) (hb : b < wr.heap.size) : w1.cell? ⟨wr.heap.size, 0, none⟩ = some x ∧ w1.cell? ⟨wr.heap.size, 1, none⟩ = some y := by
  have hk := h.block wr.heap.size (by simp only [World.alloc, Array.size_push]; omega) (fun e => by cases e; omega)
  exact ⟨by rw [World.cell?_of_block (a := ⟨wr.heap.size, 0, none⟩) hk]; simp, by rw [World.cell?_of_block (a := ⟨wr.heap.size, 1, none⟩) hk]; simp⟩
def Oks (xs : List K) : Prop := ∀ x ∈ xs, Ok x
set_option maxHeartbeats 4000000 in
theorem gather41_row (xs : List K) (b off cap : Nat) (w : World) (hl : xs.length * 24 ≤ 140737488351232) (hN : Oks xs) (R : Row w b off xs) :
    Calls Tryz.prog 50 #[.slice (some ⟨b, off, none⟩) xs.length cap] w fun e w' => ∃ A4 A5 c4 c5 D, e = .returned (.tuple #[.slice A4 (unl [] xs).length c4, .slice A5 (unl [] xs).length c5]) ∧ St w w' (unl [] xs) xs D A4 A5 c4 c5 xs.length := by
  obtain ⟨i4, hi4, hz40, hz41, hz42⟩ := info_parts info24
  obtain ⟨i5, hi5, hz50, hz51, hz52⟩ := info_parts info3
  have HR : Hid _ := R
  have HNm : Hid _ := hN
  clear R hN
  have hmm := @run_makeMap Tryz.prog
  go_enter Tryz.func50, Tryz.ntmps50
  go_wp2
  go_loopw [4, 5, 14] (fun t4 t5 i wr => ∃ (k c4 c5 : Nat) (U : List K) (D : DataW Unit) (A4 A5 : Option Addr), i = .int .i64 k ∧ k ≤ xs.length ∧ Hid (U = unl [] (xs.take k)) ∧ U.length ≤ k ∧ t4 = .slice A4 U.length c4 ∧ t5 = .slice A5 U.length c5 ∧ Hid (St w wr U (xs.take k) D A4 A5 c4 c5 k)) (fun _ _ i _ => xs.length - (intOf i).toNat)
  case atStart =>
    refine ⟨0, 0, 0, [], .map [], none, none, rfl, Nat.zero_le _, rfl, Nat.le_refl _, rfl, rfl, ?_⟩
    exact ⟨⟨rfl, Or.inl ⟨rfl, rfl⟩⟩, ⟨rfl, Or.inl ⟨rfl, rfl⟩⟩, World.ownsMap_made _ _ _ _, mapOk_nil, (Below.refl _ _).alloc (Nat.le_refl _) _, by simp, fun g g' h => by cases h⟩
  case round =>
    obtain ⟨k, c4, c5, U, D, A4, A5, rfl, hk, HU, hUl, rfl, rfl, HS⟩ := hrel
    by_cases hlt : k < xs.length
    · have hz : (k : Int) < (xs.length : Int) := by omega
      have hz' : (0 : Int) ≤ (k : Int) := by omega
      have f0 : wr.cell? ⟨b, off + k * 2, none⟩ = some (.int .u16 xs[k].1) := by rw [HS.out.bl.cell (by exact HR.out.lt)]; exact HR.out.at0 k hlt
      have f1 : wr.cell? ⟨b, off + k * 2 + 1, none⟩ = some (.string xs[k].2) := by rw [HS.out.bl.cell (by exact HR.out.lt)]; exact HR.out.at1 k hlt
      have HX : Hid (unl [] (xs.take (k + 1)) = unl U [(xs[k].1, xs[k].2)] ∧ xs.take (k + 1) = xs.take k ++ [(xs[k].1, xs[k].2)]) := ⟨by rw [unl_take xs k hlt, HU.out], take_snocK xs k hlt⟩
      have HOk : Hid (Ok (xs[k].1, xs[k].2)) := HNm.out _ (List.getElem_mem hlt)
      have HUO : Hid (∀ u ∈ U, Ok u) := fun u hu => by
        rw [HU.out, unl_mem] at hu
        rcases hu with h | h
        · cases h
        · exact HNm.out _ (List.mem_of_mem_take h)
      have HND : Hid U.Nodup := by show List.Nodup _; rw [HU.out]; exact unl_nodup [] _ List.nodup_nil
      have HM : Hid ((xs[k].1, xs[k].2) ∈ xs.take k → (xs[k].1, xs[k].2) ∈ U) := fun h => by rw [HU.out, unl_mem]; exact Or.inr h
      clear HU
      generalize xs[k].1 = x at *
      generalize xs[k].2 = y at *
      by_cases hin : (x, y) ∈ U
      · obtain ⟨i, hi, he⟩ := List.getElem_of_mem hin
        have hhas : Maps.has D (klit (x, y)) = true := (HS.out.mo.has _ HOk.out).2 hin
        have HE : Hid (unl [] (xs.take (k + 1)) = U) := by show _ = _; rw [HX.out.1, unl_one_in U _ hin]
        have HHE : Hid _ := he
        have HAT : Hid (D.atKey (klit (x, y)) (.lit (.int .i64 0)) = .lit (.int .i64 (i : Int))) := by have := HS.out.mo.at_ i hi; rw [he] at this; exact this
        obtain ⟨g5, cap5, hv5, hb5, hlt5⟩ := HS.out.o5.form (by omega)
        simp only [Value.slice.injEq] at hv5
        obtain ⟨rfl, _, rfl⟩ := hv5
        have hci : i < (counts U (xs.take k)).length := by rw [counts_len]; exact hi
        have hc := owns1_at (HS.out.o5.alloc (.cells #[.int .u16 x, .string y] 26)) i hci
        have HST : Hid _ := st_known HS.out HND.out i hi (.cells #[.int .u16 x, .string y] 26)
        obtain ⟨hcb0, hcb⟩ := counts_bound U (xs.take k) i hci
        rw [List.length_take] at hcb
        have hcb : (counts U (xs.take k))[i] ≤ (xs.length : Int) := by omega
        obtain ⟨hc0, hc1⟩ := hc
        clear he hin
        generalize (counts U (xs.take k))[i] = q at *
        have iz : (i : Int) < (U.length : Int) := by omega
        go_wp2_with (at_lookup; refine wpList_lookup_own_ok_int _ rfl _ _ 133 rfl 26 3 .i64 keyed24 Tryz.underlying133 Tryz.underlying3 (by kernel_rfl) w.heap.size k D rfl (HS.out.om.alloc _) _ _ rfl (key24 (x, y) HOk.out) ?_; intro c hat hwc; obtain rfl := lit_inj hat HAT.out; clear hat hwc)
        go_roundw
        case rel =>
          refine ⟨k + 1, c4, _, U, D, A4, _, by go_num, by omega, HE.out.symm, by omega, rfl, rfl, ?_⟩
          show St _ _ _ _ _ _ _ _ _ _
          rw [HX.out.2, ← HHE.out]
          exact HST.out
        case measure => simp [intOf]; omega
      · have hhas : Maps.has D (klit (x, y)) = false := by
          cases h : Maps.has D (klit (x, y)) with
          | false => rfl
          | true => exact absurd ((HS.out.mo.has _ HOk.out).1 h) hin
        have HNI : Hid (¬ (x, y) ∈ U ∧ ¬ (x, y) ∈ xs.take k) := ⟨hin, fun h => hin (HM.out h)⟩
        have HE : Hid (unl [] (xs.take (k + 1)) = U ++ [(x, y)]) := by show _ = _; rw [HX.out.1, unl_one_new U _ hin]
        have hsz := HS.out.sz
        have HN4 : Hid _ := ne_map HS.out.o4
        have HN5 : Hid _ := ne_map HS.out.o5
        have HNR : Hid _ := ne_rows HS.out
        have hwf : (Lit.int .i64 (U.length : Int)).wf = true := by
          simp [Lit.wf, IntKind.min, IntKind.max, IntKind.bits, IntKind.signed]
          omega
        have HD : Hid (IsMap D) := HS.out.om.isMap
        have uz : (U.length : Int) < (U.length : Int) + 1 := by omega
        clear hin
        go_wp2_with (first
          | (at_lookup; refine wpList_lookup_own_ok_int _ rfl _ _ 133 rfl 26 3 .i64 keyed24 Tryz.underlying133 Tryz.underlying3 (by kernel_rfl) w.heap.size k D rfl (HS.out.om.alloc _) _ _ rfl (key24 (x, y) HOk.out) ?_; intro c hat hwc; clear hat hwc)
          | (at_mapUpdate; refine wpList_mapUpdate_own _ rfl _ _ _ 133 rfl 26 3 keyed24 Tryz.underlying133 (plainElem Tryz.prog 3) w.heap.size k D rfl (HS.out.om.alloc _) (by unfold maxLen; omega) _ _ (klit (x, y)) rfl rfl (key24 (x, y) HOk.out) (.lit (.int .i64 U.length)) [] (plainElem_int Tryz.underlying3 hwf) ?_; intro w1 m1 r1; obtain ⟨e0, e1⟩ := box_kept r1 (by omega); have z1 := r1.size; simp only [World.alloc, Array.size_push] at z1)
          | (at_builtin; refine wpList_append_lies _ rfl _ _ 56 rfl (w.heap.size + 1) 26 i4 (.agg #[.int .u16 0, .string ⟨#[]⟩]) 2 24 Tryz.underlying56 hi4 hz40 hz41 hz42 rfl (by decide) _ _ _ rfl (((HS.out.o4.alloc _).kept r1 HN4.out).alloc _) ⟨w1.heap.size, 0, none⟩ 1 1 [.int .u16 x, .string y] rfl rfl (cell_two_new _ _ _ _) (by simp [Value.oneCell']) (by decide) (by unfold maxLen; omega) (by omega) (by simp only [World.alloc, Array.size_push]; omega) _ rfl ?_; intro g4 c4' w2 n4 r2 a4 l4; have z2 := r2.size; simp only [World.alloc, Array.size_push] at z2)
          | (at_builtin; refine wpList_append_lies _ rfl _ _ 23 rfl (w.heap.size + 1) 3 i5 (.int .i64 0) 1 8 Tryz.underlying23 hi5 hz50 hz51 hz52 rfl (by decide) _ _ _ rfl (((((HS.out.o5.alloc _).kept r1 HN5.out).alloc _).kept r2 HNR.out).alloc _) ⟨w2.heap.size, 0, none⟩ 1 1 [.int .i64 0] rfl rfl (cell_one_int _ _ _) (by simp [Value.oneCell']) (by decide) (by unfold maxLen; omega) (by omega) (by simp only [World.alloc, Array.size_push]; omega) _ rfl ?_; intro g5 c5' w3 n5 r3 a5 l5; obtain ⟨q0, q1⟩ := last_cell n5 (counts_len U _); have HST : Hid _ := st_new HS.out HD.out HUO.out (x, y) HOk.out HNI.out.1 HNI.out.2 _ _ _ m1 r1 n4 r2 a4 n5 r3 a5; clear a4 a5 n4 r2 n5 r3 m1 r1))
        go_roundw
        case rel =>
          have hlen : (U ++ [(x, y)]).length = U.length + 1 := by simp
          refine ⟨k + 1, c4', c5', U ++ [(x, y)], D.put (klit (x, y)) (.lit (.int .i64 U.length)), some ⟨g4, 0, none⟩, some ⟨g5, 0, none⟩, by go_num, by omega, HE.out.symm, by omega, by rw [hlen], by rw [hlen], ?_⟩
          show St _ _ _ _ _ _ _ _ _ _
          rw [HX.out.2]
          exact HST.out
        case measure => simp [intOf]; omega
    · have hz : ¬ (k : Int) < (xs.length : Int) := by omega
      obtain rfl : k = xs.length := by omega
      have hU := HU.out
      rw [List.take_length] at hU HS
      subst hU
      go_wp2
      go_ret2
      exact ⟨_, _, _, _, rfl, _, HS.out⟩
theorem gather41_nil (a : Option Addr) (cap : Nat) (w : World) :
    Calls Tryz.prog 50 #[.slice a 0 cap] w fun e w' => e = .returned (.tuple #[.slice none 0 0, .slice none 0 0]) ∧ Below w.heap.size w w' := by
  have hmm := @run_makeMap Tryz.prog
  go_enter Tryz.func50, Tryz.ntmps50
  go_wp2
  go_loop [4, 5, 14] (fun t t' i => t = .slice none 0 0 ∧ t' = .slice none 0 0 ∧ i = .int .i64 0) (fun _ _ _ => 0)
  case atStart => exact ⟨rfl, rfl, rfl⟩
  case round =>
    obtain ⟨rfl, rfl, rfl⟩ := hrel
    go_wp2
    go_ret2
    exact ⟨rfl, (Below.refl _ _).alloc (Nat.le_refl _) _⟩

def SlI (w : World) (v : Value) (C : List Int) : Prop := (C = [] ∧ ∃ a cap, v = .slice a 0 cap) ∨ ∃ b cap, v = .slice (some ⟨b, 0, none⟩) C.length cap ∧ b < w.heap.size ∧ ∀ i (h : i < C.length), w.cell? ⟨b, i, none⟩ = some (.int .i64 C[i])
theorem st_sl {w wr : World} {U l : List K} {D : DataW Unit} {A4 A5 : Option Addr} {c4 c5 k : Nat} (h : St w wr U l D A4 A5 c4 c5 k) : Sl wr (.slice A4 U.length c4) U ∧ SlI wr (.slice A5 U.length c5) (counts U l) := by
  constructor
  · cases hb : (Value.slice A4 U.length c4).ownBlock with
    | none =>
      obtain ⟨_, h2 | ⟨g, cap, cur, hv, _⟩⟩ := h.o4
      · exact Or.inl ⟨List.length_eq_zero_iff.1 h2.2, A4, c4, by rw [h2.2]⟩
      · rw [hv] at hb; cases hb
    | some g =>
      obtain ⟨rfl, _, _⟩ := own_block_lt h.o4 g hb
      exact Or.inr ⟨g, 0, c4, rfl, owns_row h.o4⟩
  · cases hb : (Value.slice A5 U.length c5).ownBlock with
    | none =>
      obtain ⟨_, h2 | ⟨g, cap, cur, hv, _⟩⟩ := h.o5
      · exact Or.inl ⟨List.length_eq_zero_iff.1 (by rw [counts_len]; exact h2.2), A5, c5, by rw [h2.2]⟩
      · rw [hv] at hb; cases hb
    | some g =>
      obtain ⟨rfl, _, hlt⟩ := own_block_lt h.o5 g hb
      exact Or.inr ⟨g, c5, by rw [counts_len], hlt, fun i hi => (owns1_at h.o5 i hi).1⟩
theorem gather41 (xs : List K) (v : Value) (w : World) (hl : xs.length * 24 ≤ 140737488351232) (hN : Oks xs) (R : Sl w v xs) :
    Calls Tryz.prog 50 #[v] w fun e w' => ∃ v4 v5, e = .returned (.tuple #[v4, v5]) ∧ Sl w' v4 (unl [] xs) ∧ SlI w' v5 (counts (unl [] xs) xs) ∧ Below w.heap.size w w' := by
  rcases R with ⟨rfl, a, cap, rfl⟩ | ⟨b, off, cap, rfl, R⟩
  · exact (gather41_nil a cap w).mono fun e w' ⟨he, hb⟩ => ⟨_, _, he, Or.inl ⟨rfl, _, _, rfl⟩, Or.inl ⟨rfl, _, _, rfl⟩, hb⟩
  · exact (gather41_row xs b off cap w hl hN R).mono fun e w' ⟨A4, A5, c4, c5, D, he, hS⟩ => ⟨_, _, he, (st_sl hS).1, (st_sl hS).2, hS.bl⟩
theorem unlike29 (xs : List K) (v : Value) (w : World) (hl : xs.length * 24 ≤ 140737488351232) (hN : Oks xs) (R : Sl w v xs) :
    Calls Tryz.prog 38 #[v] w fun e w' => ∃ v, e = .returned v ∧ Sl w' v (unl [] xs) ∧ Below w.heap.size w w' := by
  have A : Hid _ := gather41 xs v w hl hN R
  clear R hN hl
  go_enter Tryz.func38, Tryz.ntmps38
  go_wp2_with fail
  refine Calls.mono A.out ?_
  rintro e w1 ⟨v4, v5, rfl, h1, h2, h3⟩
  go_wp2_with fail
  go_ret
  exact ⟨_, rfl, h1, h3⟩
end Go.Proofs.YtcdikdiopklcgaaGreatDoor.Un
