/- Two great structs in memory: the program's gates (513 cells), the document's (258 cells); read and written whole or by the cell. -/
import Derived.Test.YtmbjjkdocmcpdaaTra
import Derived.Deep.WholeRow
namespace Go.Proofs.Ytmbjjkdocmcpdaa
open Go.RowKit Go.Maps Go.ChangeMaps
set_option linter.unusedVariables false
/-- The program's gates as cells. -/
def gcf (op : Nat → Bool) (sl : Nat → Value) (m : Option Nat) (j : Nat) : Value := if j = 512 then .map m else if j % 2 = 0 then .bool (op (j / 2)) else sl (j / 2)
def gc (op : Nat → Bool) (sl : Nat → Value) (m : Option Nat) : Array Value := ((List.range 513).map (gcf op sl m)).toArray
/-- The document's gates as cells. -/
def dcf (op : Nat → Bool) (a b : Value) (j : Nat) : Value := if j = 256 then a else if j = 257 then b else .bool (op j)
def dc (op : Nat → Bool) (a b : Value) : Array Value := ((List.range 258).map (dcf op a b)).toArray
def fup {α : Type} (f : Nat → α) (i : Nat) (v : α) : Nat → α := fun j => if j = i then v else f j
theorem fup_same {α : Type} (f : Nat → α) (i : Nat) (v : α) : fup f i v i = v := by simp [fup]
theorem fup_other {α : Type} (f : Nat → α) {i j : Nat} (v : α) (h : j ≠ i) : fup f i v j = f j := by simp [fup, h]
theorem fup_self {α : Type} (f : Nat → α) (i : Nat) : fup f i (f i) = f := by
  funext j
  by_cases h : j = i
  · subst h; simp [fup]
  · simp [fup, h]
theorem fup_twice {α : Type} (f : Nat → α) (i : Nat) (u v : α) : fup (fup f i u) i v = fup f i v := by
  funext j
  by_cases h : j = i
  · subst h; simp [fup]
  · simp [fup, h]
section
variable (op : Nat → Bool) (sl : Nat → Value) (m : Option Nat) (a b : Value)
theorem gc_size : (gc op sl m).size = 513 := by simp [gc]
theorem dc_size : (dc op a b).size = 258 := by simp [dc]
theorem gc_get {j : Nat} (h : j < 513) : (gc op sl m)[j]? = some (gcf op sl m j) := by
  unfold gc
  rw [List.getElem?_toArray, List.getElem?_map, List.getElem?_range h]
  rfl
theorem dc_get {j : Nat} (h : j < 258) : (dc op a b)[j]? = some (dcf op a b j) := by
  unfold dc
  rw [List.getElem?_toArray, List.getElem?_map, List.getElem?_range h]
  rfl
theorem gc_open {i : Nat} (h : i < 256) : (gc op sl m)[i * 2]? = some (.bool (op i)) := by
  rw [gc_get op sl m (by omega)]
  unfold gcf
  rw [if_neg (by omega), if_pos (by omega), show i * 2 / 2 = i by omega]
theorem gc_lines {i : Nat} (h : i < 256) : (gc op sl m)[i * 2 + 1]? = some (sl i) := by
  rw [gc_get op sl m (by omega)]
  unfold gcf
  rw [if_neg (by omega), if_neg (by omega), show (i * 2 + 1) / 2 = i by omega]
theorem gc_where : (gc op sl m)[512]? = some (.map m) := by
  rw [gc_get op sl m (by omega)]
  unfold gcf
  rw [if_pos rfl]
theorem dc_open {i : Nat} (h : i < 256) : (dc op a b)[i]? = some (.bool (op i)) := by
  rw [dc_get op a b (by omega)]
  unfold dcf
  rw [if_neg (by omega), if_neg (by omega)]
theorem dc_who : (dc op a b)[256]? = some a := by
  rw [dc_get op a b (by omega)]
  rfl
theorem dc_at : (dc op a b)[257]? = some b := by
  rw [dc_get op a b (by omega)]
  rfl
theorem gc_setf {op' : Nat → Bool} {sl' : Nat → Value} {m' : Option Nat} {j : Nat} {v : Value} (h : j < 513) (hv : gcf op' sl' m' j = v) (ho : ∀ k, k < 513 → k ≠ j → gcf op' sl' m' k = gcf op sl m k) : (gc op sl m).setIfInBounds j v = gc op' sl' m' := by
  apply Array.ext_getElem?
  intro k
  rw [Array.getElem?_setIfInBounds, gc_size]
  by_cases hk : k < 513
  · rw [gc_get op' sl' m' hk]
    by_cases e : j = k
    · subst e; rw [if_pos rfl, if_pos h, hv]
    · rw [if_neg e, gc_get op sl m hk, ho k hk (fun e' => e e'.symm)]
  · rw [if_neg (by omega), Array.getElem?_eq_none (by rw [gc_size]; omega), Array.getElem?_eq_none (by rw [gc_size]; omega)]
theorem dc_setf {op' : Nat → Bool} {a' b' : Value} {j : Nat} {v : Value} (h : j < 258) (hv : dcf op' a' b' j = v) (ho : ∀ k, k < 258 → k ≠ j → dcf op' a' b' k = dcf op a b k) : (dc op a b).setIfInBounds j v = dc op' a' b' := by
  apply Array.ext_getElem?
  intro k
  rw [Array.getElem?_setIfInBounds, dc_size]
  by_cases hk : k < 258
  · rw [dc_get op' a' b' hk]
    by_cases e : j = k
    · subst e; rw [if_pos rfl, if_pos h, hv]
    · rw [if_neg e, dc_get op a b hk, ho k hk (fun e' => e e'.symm)]
  · rw [if_neg (by omega), Array.getElem?_eq_none (by rw [dc_size]; omega), Array.getElem?_eq_none (by rw [dc_size]; omega)]
theorem gc_setopen {i : Nat} (h : i < 256) (v : Bool) : (gc op sl m).setIfInBounds (i * 2) (.bool v) = gc (fup op i v) sl m := by
  refine gc_setf op sl m (by omega) ?_ (fun k hk hn => ?_)
  · unfold gcf
    rw [if_neg (by omega), if_pos (by omega), show i * 2 / 2 = i by omega, fup_same]
  · unfold gcf
    split
    · rfl
    · split
      · rw [fup_other _ _ (by omega)]
      · rfl
theorem gc_setlines {i : Nat} (h : i < 256) (v : Value) : (gc op sl m).setIfInBounds (i * 2 + 1) v = gc op (fup sl i v) m := by
  refine gc_setf op sl m (by omega) ?_ (fun k hk hn => ?_)
  · unfold gcf
    rw [if_neg (by omega), if_neg (by omega), show (i * 2 + 1) / 2 = i by omega, fup_same]
  · unfold gcf
    split
    · rfl
    · split
      · rfl
      · rw [fup_other _ _ (by omega)]
theorem gc_setwhere (m' : Option Nat) : (gc op sl m).setIfInBounds 512 (.map m') = gc op sl m' := by
  refine gc_setf op sl m (by omega) ?_ (fun k hk hn => ?_)
  · unfold gcf
    rw [if_pos rfl]
  · unfold gcf
    rw [if_neg hn, if_neg hn]
theorem dc_setopen {i : Nat} (h : i < 256) (v : Bool) : (dc op a b).setIfInBounds i (.bool v) = dc (fup op i v) a b := by
  refine dc_setf op a b (by omega) ?_ (fun k hk hn => ?_)
  · unfold dcf
    rw [if_neg (by omega), if_neg (by omega), fup_same]
  · unfold dcf
    split
    · rfl
    · split
      · rfl
      · rw [fup_other _ _ hn]
theorem dc_setwho (v : Value) : (dc op a b).setIfInBounds 256 v = dc op v b := by
  refine dc_setf op a b (by omega) ?_ (fun k hk hn => ?_)
  · rfl
  · unfold dcf
    rw [if_neg hn, if_neg hn]
theorem dc_setat (v : Value) : (dc op a b).setIfInBounds 257 v = dc op a v := by
  refine dc_setf op a b (by omega) ?_ (fun k hk hn => ?_)
  · rfl
  · unfold dcf
    rw [if_neg hn, if_neg hn]
end
theorem info56 : (Try.prog.info? 56).map (fun i => (i.zero, i.size)) = some (some (.agg (gc (fun _ => false) (fun _ => .slice none 0 0) none)), 513) := by kernel_rfl
theorem info29 : (Try.prog.info? 29).map (fun i => (i.zero, i.size)) = some (some (.agg (dc (fun _ => false) (.slice none 0 0) (.slice none 0 0))), 258) := by kernel_rfl
theorem zero56 (w : World) : (zeroValue 56).run Try.prog w = .ok (.agg (gc (fun _ => false) (fun _ => .slice none 0 0) none)) w := (zero_of_info info56).1 w
theorem zero29 (w : World) : (zeroValue 29).run Try.prog w = .ok (.agg (dc (fun _ => false) (.slice none 0 0) (.slice none 0 0))) w := (zero_of_info info29).1 w
end Go.Proofs.Ytmbjjkdocmcpdaa
