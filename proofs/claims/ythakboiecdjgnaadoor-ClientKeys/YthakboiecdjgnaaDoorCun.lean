/- Lists of keys in memory, and the contract of the document's gathering of unlike keys; the list's bytes are within the form's reach. -/
import Derived.Test.YthakboiecdjgnaaDoorMpk
import Derived.Deep.AppendLies
import Derived.OwnWalk
import Derived.DeepKeys4
import Derived.MapViews
import Derived.Maps.Views
import Derived.Maps.OwnOps
import Derived.Maps.OwnSet
import Derived.Carry
namespace Go.Proofs.YthakboiecdjgnaaDoor.Un
open Go.RowKit Go.Sort Go.Maps Go.WideMaps
set_option linter.unusedVariables false
def Gr (w w' : World) : Prop := ∃ q os, w' = grow (w.drewN q) os
theorem Gr.refl (w : World) : Gr w w := ⟨0, #[], by rw [grow_empty]; rfl⟩
theorem Gr.alloc {w w' : World} (h : Gr w w') (o : Obj) : Gr w (w'.alloc o) := by
  obtain ⟨q, os, rfl⟩ := h
  exact ⟨q, os ++ #[o], by rw [alloc_eq_grow, grow_grow]⟩
theorem Gr.grow {w w' : World} (h : Gr w w') (n : Nat) (os' : Array Obj) : Gr w (grow (w'.drewN n) os') := by
  obtain ⟨q, os, rfl⟩ := h
  exact ⟨q + n, os ++ os', by show Sort.grow (Sort.grow ((w.drewN q).drewN n) os) os' = _; rw [grow_grow, World.drewN_drewN]⟩
theorem Gr.drewN {w w' : World} (h : Gr w w') (n : Nat) : Gr w (w'.drewN n) := by
  have := h.grow n #[]
  rwa [grow_empty] at this
theorem Gr.drew {w w' : World} (h : Gr w w') : Gr w w'.drew := h.drewN 1
theorem Gr.trans {a b c : World} (h : Gr a b) (k : Gr b c) : Gr a c := by
  obtain ⟨q, os, rfl⟩ := k
  exact h.grow q os
theorem Gr.below {w w' : World} (h : Gr w w') : Below w.heap.size w w' := by
  obtain ⟨q, os, rfl⟩ := h
  exact ⟨rfl, rfl, rfl, by rw [size_grow]; exact Nat.le_add_right _ _, fun k hk => heap_grow_old _ _ hk⟩

theorem Gr.size {w w' : World} (hg : Gr w w') : w.heap.size ≤ w'.heap.size := hg.below.size
theorem Gr.cell {w w' : World} (hg : Gr w w') {a : Addr} {v : Value} (h : w.cell? a = some v) (hb : a.block < w.heap.size) : w'.cell? a = some v := by
  rw [hg.below.cell hb]; exact h
structure Row (w : World) (b off : Nat) (xs : List K) : Prop where
  lt : b < w.heap.size
  at0 : ∀ i (h : i < xs.length), w.cell? ⟨b, off + i * 2, none⟩ = some (.int .u16 xs[i].1)
  at1 : ∀ i (h : i < xs.length), w.cell? ⟨b, off + i * 2 + 1, none⟩ = some (.string xs[i].2)
theorem Row.below {w w' : World} {b off : Nat} {xs : List K} (h : Row w b off xs) (hb : Below w.heap.size w w') : Row w' b off xs :=
  ⟨Nat.lt_of_lt_of_le h.lt hb.size, fun i hi => by rw [hb.cell (by exact h.lt)]; exact h.at0 i hi, fun i hi => by rw [hb.cell (by exact h.lt)]; exact h.at1 i hi⟩
def Sl (w : World) (v : Value) (xs : List K) : Prop := (xs = [] ∧ ∃ a cap, v = .slice a 0 cap) ∨ ∃ b off cap, v = .slice (some ⟨b, off, none⟩) xs.length cap ∧ Row w b off xs
theorem Sl.below {w w' : World} {v : Value} {xs : List K} (h : Sl w v xs) (hb : Below w.heap.size w w') : Sl w' v xs := by
  rcases h with h | ⟨b, off, cap, hv, hr⟩
  · exact Or.inl h
  · exact Or.inr ⟨b, off, cap, hv, hr.below hb⟩
def cellsK (xs : List K) : List Value := xs.flatMap fun x => [.int .u16 x.1, .string x.2]
theorem cellsK_app (xs ys : List K) : cellsK (xs ++ ys) = cellsK xs ++ cellsK ys := by unfold cellsK; simp
theorem cellsK_one (x : K) : cellsK [x] = [.int .u16 x.1, .string x.2] := rfl
theorem cellsK_len (xs : List K) : (cellsK xs).length = xs.length * 2 := by
  induction xs with
  | nil => rfl
  | cons x xs ih => rw [show x :: xs = [x] ++ xs from rfl, cellsK_app, List.length_append, ih, cellsK_one]; simp; omega
theorem cellsK_at0 : ∀ (xs : List K) (i : Nat) (h : i < xs.length), (cellsK xs)[i * 2]? = some (.int .u16 xs[i].1)
  | x :: xs, 0, _ => rfl
  | x :: xs, i + 1, h => by
    rw [show (i + 1) * 2 = i * 2 + 1 + 1 by omega]
    exact cellsK_at0 xs i (by simpa using h)
theorem cellsK_at1 : ∀ (xs : List K) (i : Nat) (h : i < xs.length), (cellsK xs)[i * 2 + 1]? = some (.string xs[i].2)
  | x :: xs, 0, _ => rfl
  | x :: xs, i + 1, h => by
    rw [show (i + 1) * 2 + 1 = i * 2 + 1 + 1 + 1 by omega]
    exact cellsK_at1 xs i (by simpa using h)
theorem owns_below {w w' : World} {base e size n : Nat} {v : Value} {xs : List Value} (h : w.ownsRow base e size v n xs) (hb : Below w.heap.size w w') : w'.ownsRow base e size v n xs := by
  obtain ⟨h1, h2⟩ := h
  refine ⟨h1, ?_⟩
  rcases h2 with h2 | ⟨g, cap, cur, hv, hg, hc, r⟩
  · exact Or.inl h2
  · refine Or.inr ⟨g, cap, cur, hv, hg, ?_, r⟩
    rw [hb.block g (by
      rcases Nat.lt_or_ge g w.heap.size with h | h
      · exact h
      · rw [Array.getElem?_eq_none h] at hc; cases hc)]
    exact hc
theorem owns_row {w : World} {base e g cap : Nat} {xs : List K} (h : w.ownsRow base e 2 (.slice (some ⟨g, 0, none⟩) xs.length cap) xs.length (cellsK xs)) : Row w g 0 xs := by
  obtain ⟨h1, h2 | ⟨g', cap', cur, hv, hg, hc, hn, hm, hs, ht⟩⟩ := h
  · cases h2.1
  · simp only [Value.slice.injEq, Option.some.injEq, Addr.mk.injEq, and_true, true_and] at hv
    obtain ⟨rfl, rfl⟩ := hv
    have hlt : g < w.heap.size := by
      rcases Nat.lt_or_ge g w.heap.size with h | h
      · exact h
      · rw [Array.getElem?_eq_none h] at hc; cases hc
    have hcell : ∀ j, w.cell? ⟨g, j, none⟩ = cur[j]? := fun j => by simp [World.cell?, hc]
    have hj : ∀ j, j < xs.length * 2 → cur[j]? = (cellsK xs)[j]? := fun j hj => by
      rw [← ht, List.getElem?_take_of_lt hj, Array.getElem?_toList]
    refine ⟨hlt, fun i hi => ?_, fun i hi => ?_⟩
    · rw [hcell, Nat.zero_add, hj _ (by omega), cellsK_at0 xs i hi]
    · rw [hcell, Nat.zero_add, hj _ (by omega), cellsK_at1 xs i hi]
theorem owns_base {w : World} {base e size g k c n : Nat} {xs : List Value} (h : w.ownsRow base e size (.slice (some ⟨g, 0, none⟩) k c) n xs) : base ≤ g := by
  obtain ⟨_, h2 | ⟨g', _, _, hv, hg, _⟩⟩ := h
  · cases h2.1
  · simp only [Value.slice.injEq, Option.some.injEq, Addr.mk.injEq, and_true] at hv
    rw [hv.1]
    exact hg
theorem info31 : (Tryd.prog.info? 83).map (fun i => (i.zero, i.size, i.bytes)) = some (some (.agg #[.int .u16 0, .string ⟨#[]⟩]), 2, 24) := by kernel_rfl
theorem info24 : (Tryd.prog.info? 45).map (fun i => (i.zero, i.size, i.bytes)) = some (some (.agg #[.int .u16 0, .string ⟨#[]⟩]), 2, 24) := by kernel_rfl
theorem cell_two_new (w : World) (x y : Value) (t : TypeId) : ∀ j u, [x, y][j]? = some u → (w.alloc (.cells #[x, y] t)).cell? ((⟨w.heap.size, 0, none⟩ : Addr).add j) = some u := by
  intro j u hj
  match j, hj with
  | 0, hj => simp at hj; subst hj; simp [Addr.add]
  | 1, hj => simp at hj; subst hj; simp [Addr.add]

theorem take_snocK (xs : List K) (k : Nat) (h : k < xs.length) : xs.take (k + 1) = xs.take k ++ [xs[k]] := List.take_succ_eq_append_getElem h
theorem keq (x y : Int) (s t : ByteArray) : ((x, s) : K) = (y, t) ↔ x = y ∧ s.toList = t.toList := by
  constructor
  · intro h
    simp only [Prod.mk.injEq] at h
    exact ⟨h.1, by rw [h.2]⟩
  · intro ⟨h1, h2⟩
    rw [ByteArray.toList_eq, ByteArray.toList_eq] at h2
    rw [h1, show s = t from ByteArray.ext (Array.toList_inj.1 h2)]
def isIn (out : List K) (x : K) : Bool := out.any (fun y => decide (y = x))
theorem isIn_yes {out : List K} {x : K} (h : x ∈ out) : isIn out x = true := by
  unfold isIn
  rw [List.any_eq_true]
  exact ⟨x, h, by simp⟩
theorem isIn_no {out : List K} {x : K} (h : ¬ x ∈ out) : ¬ isIn out x = true := fun e => by
  unfold isIn at e
  rw [List.any_eq_true] at e
  obtain ⟨y, h1, h2⟩ := e
  simp only [decide_eq_true_eq] at h2
  exact h (h2 ▸ h1)
def unl : List K → List K → List K
  | out, [] => out
  | out, x :: r => unl (if isIn out x = true then out else out ++ [x]) r
theorem unl_app : ∀ (out l m : List K), unl out (l ++ m) = unl (unl out l) m
  | out, [], m => rfl
  | out, x :: l, m => by simp only [List.cons_append, unl]; exact unl_app _ l m
theorem unl_one_in (out : List K) (x : K) (h : x ∈ out) : unl out [x] = out := by simp [unl, isIn_yes h]
theorem unl_one_new (out : List K) (x : K) (h : ¬ x ∈ out) : unl out [x] = out ++ [x] := by simp [unl, isIn_no h]
theorem unl_len : ∀ (out l : List K), (unl out l).length ≤ out.length + l.length
  | out, [] => by simp [unl]
  | out, x :: l => by
    simp only [unl]
    by_cases h : x ∈ out
    · rw [if_pos (isIn_yes h)]
      have := unl_len out l
      simp only [List.length_cons]
      omega
    · rw [if_neg (isIn_no h)]
      have := unl_len (out ++ [x]) l
      simp only [List.length_cons, List.length_append, List.length_nil] at *
      omega
theorem unl_take (xs : List K) (k : Nat) (h : k < xs.length) : unl [] (xs.take (k + 1)) = unl (unl [] (xs.take k)) [xs[k]] := by rw [take_snocK xs k h, unl_app]

end Go.Proofs.YthakboiecdjgnaaDoor.Un
