/- Rows of keys that a call owns: reading and writing one key, in plain words; and sorted lists of keys; no conditions. -/
import Derived.Test.YtbaljfkjgfkdiaaDoorAll
import Derived.Test.YtbaljfkjgfkdiaaDoorOrd
import Derived.Lib.SmallJoins
namespace Go.Proofs.YtbaljfkjgfkdiaaDoor
open Go.RowKit Go.Sort
set_option linter.unusedVariables false

theorem cellsK_set : ∀ (L : List K) (i : Nat) (x : K), i < L.length → cellsK (L.set i x) = ((cellsK L).set (i * 2) (.int .u16 x.1)).set (i * 2 + 1) (.string x.2)
  | a :: L, 0, x, _ => rfl
  | a :: L, i + 1, x, h => by
    have ih := cellsK_set L i x (by simpa using h)
    rw [List.set_cons_succ, show a :: L.set i x = [a] ++ L.set i x from rfl, show a :: L = [a] ++ L from rfl, cellsK_app, cellsK_app, ih, cellsK_one]
    rw [show (i + 1) * 2 = i * 2 + 1 + 1 by omega, show i * 2 + 1 + 1 + 1 = (i * 2 + 1) + 1 + 1 by omega]
    rfl
theorem owns_block {w : World} {base e g c n : Nat} {xs : List Value} (h : w.ownsRow base e 2 (.slice (some ⟨g, 0, none⟩) n c) n xs) :
    ∃ cur, w.heap[g]? = some (.cells cur e (0, 0)) ∧ n ≤ c ∧ c ≤ maxLen ∧ cur.size = c * 2 ∧ cur.toList.take (n * 2) = xs ∧ base ≤ g ∧ xs.length = n * 2 := by
  obtain ⟨h1, h2 | ⟨g', cap', cur, hv, hg, hc, hn, hm, hs, ht⟩⟩ := h
  · cases h2.1
  · simp only [Value.slice.injEq, Option.some.injEq, Addr.mk.injEq, and_true, true_and] at hv
    obtain ⟨rfl, rfl⟩ := hv
    exact ⟨cur, hc, hn, hm, hs, ht, hg, h1⟩
theorem owns_at {w : World} {base e g c : Nat} {L : List K} (h : w.ownsRow base e 2 (.slice (some ⟨g, 0, none⟩) L.length c) L.length (cellsK L)) (i : Nat) (hi : i < L.length) :
    w.cell? ⟨g, i * 2, none⟩ = some (.int .u16 L[i].1) ∧ w.cell? ⟨g, i * 2 + 1, none⟩ = some (.string L[i].2) ∧ w.frozen? ⟨g, i * 2, none⟩ = false ∧ w.frozen? ⟨g, i * 2 + 1, none⟩ = false := by
  have R := owns_row h
  obtain ⟨cur, hc, _⟩ := owns_block h
  have r0 := R.at0 i hi
  have r1 := R.at1 i hi
  rw [Nat.zero_add] at r0 r1
  exact ⟨r0, r1, Joins.unfrozen_of_block hc _, Joins.unfrozen_of_block hc _⟩
theorem owns_set {w : World} {base e g c : Nat} {L : List K} (h : w.ownsRow base e 2 (.slice (some ⟨g, 0, none⟩) L.length c) L.length (cellsK L)) (i : Nat) (hi : i < L.length) (x : Int) (y : ByteArray) :
    ((w.setCell ⟨g, i * 2, none⟩ (.int .u16 x)).setCell ⟨g, i * 2 + 1, none⟩ (.string y)).ownsRow base e 2 (.slice (some ⟨g, 0, none⟩) (L.set i (x, y)).length c) (L.set i (x, y)).length (cellsK (L.set i (x, y))) := by
  obtain ⟨cur, hc, hn, hm, hs, ht, hg, hl⟩ := owns_block h
  rw [List.length_set]
  refine ⟨by rw [cellsK_len, List.length_set], Or.inr ⟨g, c, (cur.setIfInBounds (i * 2) (.int .u16 x)).setIfInBounds (i * 2 + 1) (.string y), rfl, hg, ?_, hn, hm, by simp [hs], ?_⟩⟩
  · exact Joins.block_setCell (Joins.block_setCell hc _) _
  · rw [Array.toList_setIfInBounds, Array.toList_setIfInBounds, List.take_set, List.take_set, ht, cellsK_set L i (x, y) hi]

theorem set_far (w : World) (p a : Addr) (v : Value) (h : p.block ≠ a.block) : (w.setCell p v).cell? a = w.cell? a := World.cell?_of_block (Below.heap_setCell w p v a.block (Ne.symm h))

def leK (a b : K) : Prop := cmpK a.1 a.2 b.1 b.2 ≤ 0
theorem leK_trans {a b c : K} (h : leK a b) (k : leK b c) : leK a c := cmpK_trans _ _ _ _ _ _ h k
theorem leK_of_not {a b : K} (h : ¬ cmpK a.1 a.2 b.1 b.2 < 0) : leK b a := by
  unfold leK
  rw [cmpK_neg]
  omega
theorem leK_of_lt {a b : K} (h : cmpK a.1 a.2 b.1 b.2 < 0) : leK a b := by
  unfold leK
  omega
theorem leK_antisymm {a b : K} (h : leK a b) (k : leK b a) : a = b := by
  unfold leK at *
  rw [cmpK_neg] at k
  obtain ⟨h1, h2⟩ := cmpK_zero a.1 b.1 a.2 b.2 (by omega)
  exact Prod.ext h1 h2
theorem leK_refl (a : K) : leK a a := by unfold leK; rw [cmpK_self]; omega
theorem leK_total (a b : K) : leK a b ∨ leK b a := by
  unfold leK
  rw [cmpK_neg a.1 b.1]
  omega
theorem sorted_unique : ∀ (l m : List K), l.Perm m → l.Pairwise leK → m.Pairwise leK → l = m := fun l m hp hl hm => List.Perm.eq_of_pairwise (fun a b _ _ h k => leK_antisymm h k) hl hm hp
theorem ins_perm (S : List K) (i : Nat) (x : K) : (S.take i ++ x :: S.drop i).Perm (S ++ [x]) := by
  refine (List.perm_middle).trans ?_
  rw [List.take_append_drop]
  exact (List.perm_append_singleton x S).symm
theorem ins_sorted (S : List K) (i : Nat) (x : K) (hi : i ≤ S.length) (hS : S.Pairwise leK) (h1 : ∀ j (h : j < S.length), i ≤ j → cmpK x.1 x.2 S[j].1 S[j].2 < 0) (h2 : ∀ (h : 0 < i), ¬ cmpK x.1 x.2 (S[i - 1]'(by omega)).1 (S[i - 1]'(by omega)).2 < 0) : (S.take i ++ x :: S.drop i).Pairwise leK := by
  have hp : ∀ a b (ha : a < S.length) (hb : b < S.length), a < b → leK S[a] S[b] := fun a b ha hb hab => (List.pairwise_iff_getElem.1 hS) a b ha hb hab
  have hx : ∀ a ∈ S.take i, leK a x := fun a ha => by
    obtain ⟨n, hn, rfl⟩ := List.getElem_of_mem ha
    rw [List.length_take] at hn
    rw [List.getElem_take]
    have h3 := leK_of_not (h2 (by omega))
    by_cases hni : n = i - 1
    · subst hni
      exact h3
    · exact leK_trans (hp n (i - 1) (by omega) (by omega) (by omega)) h3
  have hy : ∀ b ∈ S.drop i, leK x b := fun b hb => by
    obtain ⟨n, hn, rfl⟩ := List.getElem_of_mem hb
    rw [List.length_drop] at hn
    rw [List.getElem_drop]
    exact leK_of_lt (h1 _ (by omega) (by omega))
  rw [List.pairwise_append]
  refine ⟨hS.sublist (List.take_sublist _ _), ?_, ?_⟩
  · rw [List.pairwise_cons]
    exact ⟨hy, hS.sublist (List.drop_sublist _ _)⟩
  · intro a ha b hb
    rcases List.mem_cons.1 hb with rfl | hb
    · exact hx a ha
    · exact leK_trans (hx a ha) (hy b hb)
theorem gap_step (S : List K) (i : Nat) (z : K) (hi : i < S.length) : (S.take (i + 1) ++ z :: S.drop (i + 1)).set (i + 1) S[i] = S.take i ++ S[i] :: S.drop i := by
  have h1 : (S.take (i + 1)).length = i + 1 := by rw [List.length_take]; omega
  rw [List.set_append_right _ _ (by omega), h1, Nat.sub_self, List.set_cons_zero, List.take_succ_eq_append_getElem hi, List.append_assoc]
  congr 1
  rw [List.drop_eq_getElem_cons hi]
  rfl
theorem gap_end (S : List K) (i : Nat) (z x : K) (hi : i ≤ S.length) : (S.take i ++ z :: S.drop i).set i x = S.take i ++ x :: S.drop i := by
  have h1 : (S.take i).length = i := by rw [List.length_take]; omega
  rw [List.set_append_right _ _ (by omega), h1, Nat.sub_self, List.set_cons_zero]
theorem gap_len (S : List K) (i : Nat) (z : K) (hi : i ≤ S.length) : (S.take i ++ z :: S.drop i).length = S.length + 1 := by
  rw [List.length_append, List.length_cons, List.length_take, List.length_drop]
  omega
theorem gap_at (S : List K) (i : Nat) (z : K) (hi : i < S.length) (h : i < (S.take (i + 1) ++ z :: S.drop (i + 1)).length) : (S.take (i + 1) ++ z :: S.drop (i + 1))[i] = S[i] := by
  have h1 : (S.take (i + 1)).length = i + 1 := by rw [List.length_take]; omega
  rw [List.getElem_append_left (by omega), List.getElem_take]
end Go.Proofs.YtbaljfkjgfkdiaaDoor
