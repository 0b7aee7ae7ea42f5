/- Keys as keys of a map, and the plain counting of a list's keys; a key's space is a number of 16 bits, a name's length fits. -/
import Derived.Test.YtbaljfkjgfkdiaaDoorUnl
import Derived.Test.YtbaljfkjgfkdiaaDoorOwn
import Derived.Test.YtbaljfkjgfkdiaaDoorLaid
import Derived.DeepKeys4
import Derived.MapViews
import Derived.Maps.Views
import Derived.Maps.OwnOps
import Derived.Maps.OwnSet
namespace Go.Proofs.YtbaljfkjgfkdiaaDoor
open Go.RowKit Go.Sort Go.Maps Go.WideMaps
set_option linter.unusedVariables false

def Ok (x : K) : Prop := (Lit.int .u16 x.1).wf = true ∧ x.2.size ≤ maxLen
def datK (x : K) : DataW Unit := .agg [.lit (.int .u16 x.1), .lit (.string x.2.data.toList)]
def klit (x : K) : Lit := (datK x).asKey
theorem wide24 : (match Tryd.prog.underlying 24 with | some (.array _ _) | some (.struct _) => true | _ => false) = true := by kernel_rfl
theorem deep24 : Tryd.prog.keyTypeAt (Tryd.prog.types.size + 1) 24 = true := by kernel_rfl
theorem formed24 (a : Int) (s : ByteArray) : (Value.agg #[.int .u16 a, .string s]).formed Tryd.prog 24 = true := by
  simp [Value.formed, Tryd.underlying24, cells24]
theorem law24 : KeyLaw Tryd.prog 24 := deep_law_laid (by kernel_rfl) (m := 2) (by omega) (of_decide_eq_true (by kernel_rfl)) (by kernel_rfl) wide24
theorem keyed24 : Keyed Tryd.prog 24 := Keyed.of_law law24
theorem key24 (x : K) (h : Ok x) : keyOf Tryd.prog 24 (.agg #[.int .u16 x.1, .string x.2]) = some (klit x) :=
  (keyOf_asKey (enc := fun _ => ()) (w := default) (base := 0) (sp := fun _ => true) (held := true) deep24 wide24 (formed24 _ _) (shut_key h.1 h.2)).1
theorem klit_ne (x y : K) (hx : Ok x) (hy : Ok y) (h : x ≠ y) : klit x ≠ klit y := fun e => by
  have h1 := key24 x hx
  have h2 := key24 y hy
  rw [← e] at h2
  have h3 := law24.inj h1 h2
  simp only [Value.agg.injEq, Array.mk.injEq, List.cons.injEq, Value.int.injEq, Value.string.injEq, and_true, true_and] at h3
  exact h (Prod.ext h3.1 h3.2)
theorem klit_key (x : K) (h : Ok x) : WideAt.IsKeyLit (klit x) := keyed24.key (key24 x h)

structure MapOk (D : DataW Unit) (U : List K) : Prop where
  has : ∀ x, Ok x → (Maps.has D (klit x) = true ↔ x ∈ U)
  at_ : ∀ i (h : i < U.length), D.atKey (klit U[i]) (.lit (.int .i64 0)) = .lit (.int .i64 i)
theorem mapOk_nil : MapOk (.map []) [] := ⟨fun x _ => by simp [Maps.has_eq], fun i h => by cases h⟩
theorem MapOk.put {D : DataW Unit} {U : List K} (h : MapOk D U) (hD : IsMap D) (hU : ∀ u ∈ U, Ok u) (x : K) (hx : Ok x) (hn : ¬ x ∈ U) : MapOk (D.put (klit x) (.lit (.int .i64 U.length))) (U ++ [x]) := by
  refine ⟨fun y hy => ?_, fun i hi => ?_⟩
  · by_cases e : y = x
    · subst e
      rw [has_put_same hD (klit_key y hy)]
      simp
    · rw [has_put_other (klit_ne y x hy hx e), h.has y hy]
      simp [e]
  · rw [List.length_append, List.length_singleton] at hi
    by_cases e : i = U.length
    · subst e
      have : (U ++ [x])[U.length]'(by simp) = x := by simp
      rw [this, atKey_put_same hD (klit_key x hx)]
    · have hlt : i < U.length := by omega
      have : (U ++ [x])[i]'(by simp; omega) = U[i] := List.getElem_append_left hlt
      rw [this, atKey_put_other (klit_ne _ _ (hU _ (List.getElem_mem hlt)) hx (fun e => hn (e ▸ List.getElem_mem hlt)))]
      exact h.at_ i hlt

def cnt (u : K) : List K → Nat
  | [] => 0
  | y :: l => (if y = u then 1 else 0) + cnt u l
theorem cnt_app (u : K) : ∀ (l m : List K), cnt u (l ++ m) = cnt u l + cnt u m
  | [], m => by simp [cnt]
  | y :: l, m => by simp only [List.cons_append, cnt, cnt_app u l m]; omega
theorem cnt_one_same (u : K) : cnt u [u] = 1 := by simp [cnt]
theorem cnt_one_other (u y : K) (h : y ≠ u) : cnt u [y] = 0 := by simp [cnt, h]
theorem cnt_none (u : K) : ∀ (l : List K), ¬ u ∈ l → cnt u l = 0
  | [], _ => rfl
  | y :: l, h => by
    simp only [List.mem_cons, not_or] at h
    simp only [cnt]
    rw [if_neg (fun e => h.1 e.symm), cnt_none u l h.2]
theorem cnt_le (u : K) : ∀ (l : List K), cnt u l ≤ l.length
  | [] => Nat.le_refl _
  | y :: l => by
    have := cnt_le u l
    simp only [cnt, List.length_cons]
    split <;> omega
theorem unl_mem : ∀ (out l : List K) (x : K), x ∈ unl out l ↔ x ∈ out ∨ x ∈ l
  | out, [], x => by simp [unl]
  | out, y :: l, x => by
    simp only [unl]
    rw [unl_mem]
    by_cases h : y ∈ out
    · rw [if_pos (isIn_yes h)]
      simp only [List.mem_cons]
      constructor
      · rintro (h1 | h1)
        · exact Or.inl h1
        · exact Or.inr (Or.inr h1)
      · rintro (h1 | rfl | h1)
        · exact Or.inl h1
        · exact Or.inl h
        · exact Or.inr h1
    · rw [if_neg (isIn_no h)]
      simp only [List.mem_append, List.mem_cons, List.not_mem_nil, or_false]
      constructor
      · rintro ((h1 | h1) | h1)
        · exact Or.inl h1
        · exact Or.inr (Or.inl h1)
        · exact Or.inr (Or.inr h1)
      · rintro (h1 | h1 | h1)
        · exact Or.inl (Or.inl h1)
        · exact Or.inl (Or.inr h1)
        · exact Or.inr h1
theorem unl_nodup : ∀ (out l : List K), out.Nodup → (unl out l).Nodup
  | out, [], h => h
  | out, y :: l, h => by
    simp only [unl]
    by_cases hy : y ∈ out
    · rw [if_pos (isIn_yes hy)]; exact unl_nodup out l h
    · rw [if_neg (isIn_no hy)]
      refine unl_nodup _ l ?_
      rw [List.nodup_append]
      refine ⟨h, by simp, ?_⟩
      intro a ha b hb
      simp only [List.mem_singleton] at hb
      subst hb
      exact fun e => hy (e ▸ ha)
def counts (U l : List K) : List Int := U.map fun u => (cnt u l : Int)
theorem nodup_ne (U : List K) (hn : U.Nodup) (i j : Nat) (hi : i < U.length) (hj : j < U.length) (e : i ≠ j) : U[i] ≠ U[j] := by
  have := List.pairwise_iff_getElem.1 hn
  rcases Nat.lt_or_gt_of_ne e with h | h
  · exact this i j hi hj h
  · exact fun h' => this j i hj hi h h'.symm
theorem counts_in (U l : List K) (i : Nat) (h : i < U.length) (hn : U.Nodup) : counts U (l ++ [U[i]]) = (counts U l).set i ((counts U l)[i]'(by unfold counts; simpa using h) + 1) := by
  unfold counts
  apply List.ext_getElem
  · simp
  · intro j h1 h2
    simp only [List.length_map] at h1
    rw [List.getElem_set]
    by_cases e : i = j
    · subst e
      rw [if_pos rfl]
      simp only [List.getElem_map]
      rw [cnt_app, cnt_one_same]
      omega
    · rw [if_neg e]
      simp only [List.getElem_map]
      rw [cnt_app, cnt_one_other _ _ (nodup_ne U hn i j h h1 e)]
      omega
theorem counts_new (U l : List K) (x : K) (hx : ¬ x ∈ U) (hl : ¬ x ∈ l) : counts (U ++ [x]) (l ++ [x]) = counts U l ++ [1] := by
  unfold counts
  rw [List.map_append]
  congr 1
  · refine List.map_congr_left fun u hu => ?_
    rw [cnt_app, cnt_one_other _ _ (fun e => hx (by rw [e]; exact hu))]
    omega
  · simp only [List.map_cons, List.map_nil]
    rw [cnt_app, cnt_one_same, cnt_none x l hl]
    rfl
theorem counts_len (U l : List K) : (counts U l).length = U.length := by unfold counts; simp
end Go.Proofs.YtbaljfkjgfkdiaaDoor
