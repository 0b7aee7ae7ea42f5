/- Tokens of which there are none, and gates at which nobody waits, in memory: New, Is, find, known, Where, Len, Open, and Come to an open gate; no conditions but those that each states. -/
import Derived.Test.YtcbckehdlbbbbaaDoorMc03
import Derived.Deep.WholeRow
namespace Go.Proofs.YtcbckehdlbbbbaaDoor
open Go.RowKit Go.Maps Go.ChangeMaps
set_option linter.unusedVariables false
/-- Tokens of which there are none, or no tokens. -/
def Tk (w : World) (v : Value) : Prop := v = .pointer none ∨ ∃ t, v = .pointer (some ⟨t, 0, none⟩) ∧ w.heap[t]? = some (.cells #[.slice none 0 0] 92 (0, 0))
theorem Tk.keep {w w' : World} {v : Value} {F : List Nat} (h : Tk w v) (ht : Touch F w w') (hn : ∀ t, v = .pointer (some ⟨t, 0, none⟩) → ¬ t ∈ F) : Tk w' v := by
  rcases h with h | ⟨t, rfl, h⟩
  · exact Or.inl h
  · exact Or.inr ⟨t, rfl, ht.keep h (hn t rfl)⟩
theorem Tk.keep0 {w w' : World} {v : Value} (h : Tk w v) (ht : Touch [] w w') : Tk w' v := h.keep ht (fun _ _ e => by cases e)
theorem tnew_ (w : World) : Calls Tryd.prog 10 #[] w fun e w' => e = .returned (PT w.heap.size) ∧ w'.heap[w.heap.size]? = some (.cells #[.slice none 0 0] 92 (0, 0)) ∧ Touch [] w w' := by
  unfold PT
  go_enter Tryd.func10, Tryd.ntmps10
  go_wp2
  go_ret
  exact ⟨rfl, heap_alloc_new w _, (Touch.refl _ _).alloc _⟩
theorem tfind_ {w : World} {v : Value} (h : Tk w v) (n : Int) : Calls Tryd.prog 57 #[v, .int .i64 n] w fun e w' => e = .returned (.pointer none) ∧ w' = w := by
  rcases h with rfl | ⟨t, rfl, h⟩
  · go_enter Tryd.func57, Tryd.ntmps57
    go_wp2
    go_ret
    exact ⟨rfl, rfl⟩
  · have c0 := cell_at (j := 0) (v := .slice none 0 0) h rfl
    clear h
    by_cases h1 : n < 1
    · go_enter Tryd.func57, Tryd.ntmps57
      go_wp2
      go_ret
      exact ⟨rfl, rfl⟩
    · have h2 : 0 < n := by omega
      go_enter Tryd.func57, Tryd.ntmps57
      go_wp2
      go_ret
      exact ⟨rfl, rfl⟩
theorem twhy_ {w : World} {v : Value} (h : Tk w v) (n : Int) : Calls Tryd.prog 46 #[v, .int .i64 n] w fun e w' => e = .returned (.int .i64 0) ∧ w' = w := by
  have HF := hid (tfind_ h n)
  clear h
  go_enter Tryd.func46, Tryd.ntmps46
  go_wp2_with (go_at_call 57; refine HF.out.mono ?_; rintro e w2 ⟨rfl, rfl⟩)
  go_ret
  exact ⟨rfl, rfl⟩
theorem tis_ {w : World} {v : Value} (h : Tk w v) (n : Int) : Calls Tryd.prog 29 #[v, .int .i64 n] w fun e w' => e = .returned (.bool false) ∧ w' = w := by
  have HF := hid (twhy_ h n)
  clear h
  go_enter Tryd.func29, Tryd.ntmps29
  go_wp2_with (go_at_call 46; refine HF.out.mono ?_; rintro e w2 ⟨rfl, rfl⟩)
  go_ret
  exact ⟨rfl, rfl⟩
/-- The gates as cells. -/
def gcf (op : Nat → Bool) (sl : Nat → Value) (m : Option Nat) (j : Nat) : Value := if j = 512 then .map m else if j % 2 = 0 then .bool (op (j / 2)) else sl (j / 2)
def gc (op : Nat → Bool) (sl : Nat → Value) (m : Option Nat) : Array Value := ((List.range 513).map (gcf op sl m)).toArray
def fup {α : Type} (f : Nat → α) (i : Nat) (v : α) : Nat → α := fun j => if j = i then v else f j
theorem fup_same {α : Type} (f : Nat → α) (i : Nat) (v : α) : fup f i v i = v := by simp [fup]
theorem fup_other {α : Type} (f : Nat → α) {i j : Nat} (v : α) (h : j ≠ i) : fup f i v j = f j := by simp [fup, h]
section
variable (op : Nat → Bool) (sl : Nat → Value) (m : Option Nat)
theorem gc_size : (gc op sl m).size = 513 := by simp [gc]
theorem gc_get {j : Nat} (h : j < 513) : (gc op sl m)[j]? = some (gcf op sl m j) := by
  unfold gc
  rw [List.getElem?_toArray, List.getElem?_map, List.getElem?_range h]
  rfl
theorem gc_open {i : Nat} (h : i < 256) : (gc op sl m)[i * 2]? = some (.bool (op i)) := by
  rw [gc_get op sl m (by omega)]
  unfold gcf
  rw [if_neg (by omega), if_pos (by omega), show i * 2 / 2 = i by omega]
theorem gc_lines {i : Nat} (h : i < 256) : (gc op sl m)[i * 2 + 1]? = some (sl i) := by
  rw [gc_get op sl m (by omega)]
  unfold gcf
  rw [if_neg (by omega), if_neg (by omega), show (i * 2 + 1) / 2 = i by omega]
theorem gc_where : (gc op sl m)[512]? = some (.map m) := by
  rw [gc_get op sl m (by omega)]
  unfold gcf
  rw [if_pos rfl]
theorem gc_setf {op' : Nat → Bool} {sl' : Nat → Value} {m' : Option Nat} {j : Nat} {v : Value} (h : j < 513) (hv : gcf op' sl' m' j = v) (ho : ∀ k, k < 513 → k ≠ j → gcf op' sl' m' k = gcf op sl m k) : (gc op sl m).setIfInBounds j v = gc op' sl' m' := by
  apply Array.ext_getElem?
  intro k
  rw [Array.getElem?_setIfInBounds, gc_size]
  by_cases hk : k < 513
  · rw [gc_get op' sl' m' hk]
    by_cases e : j = k
    · subst e; rw [if_pos rfl, if_pos h, hv]
    · rw [if_neg e, gc_get op sl m hk, ho k hk (fun e' => e e'.symm)]
  · rw [if_neg (by omega), Array.getElem?_eq_none (by rw [gc_size]; omega), Array.getElem?_eq_none (by rw [gc_size]; omega)]
theorem gc_setopen {i : Nat} (h : i < 256) (v : Bool) : (gc op sl m).setIfInBounds (i * 2) (.bool v) = gc (fup op i v) sl m := by
  refine gc_setf op sl m (by omega) ?_ (fun k hk hn => ?_)
  · unfold gcf
    rw [if_neg (by omega), if_pos (by omega), show i * 2 / 2 = i by omega, fup_same]
  · unfold gcf
    split
    · rfl
    · split
      · rw [fup_other _ _ (by omega)]
      · rfl
theorem gc_setlines {i : Nat} (h : i < 256) (v : Value) : (gc op sl m).setIfInBounds (i * 2 + 1) v = gc op (fup sl i v) m := by
  refine gc_setf op sl m (by omega) ?_ (fun k hk hn => ?_)
  · unfold gcf
    rw [if_neg (by omega), if_neg (by omega), show (i * 2 + 1) / 2 = i by omega, fup_same]
  · unfold gcf
    split
    · rfl
    · split
      · rfl
      · rw [fup_other _ _ (by omega)]
theorem gc_setwhere (m' : Option Nat) : (gc op sl m).setIfInBounds 512 (.map m') = gc op sl m' := by
  refine gc_setf op sl m (by omega) ?_ (fun k hk hn => ?_)
  · unfold gcf
    rw [if_pos rfl]
  · unfold gcf
    rw [if_neg hn, if_neg hn]
end
theorem infoG : (Tryd.prog.info? 85).map (fun i => (i.zero, i.size)) = some (some (.agg (gc (fun _ => false) (fun _ => .slice none 0 0) none)), 513) := by kernel_rfl
theorem zeroG (w : World) : (zeroValue 85).run Tryd.prog w = .ok (.agg (gc (fun _ => false) (fun _ => .slice none 0 0) none)) w := (zero_of_info infoG).1 w
/-- Gates at which nobody waits. -/
def Gn (w : World) (g : Nat) (op : Nat → Bool) : Prop := w.heap[g]? = some (.cells (gc op (fun _ => .slice none 0 0) none) 85 (0, 0))
theorem Gn.keep {w w' : World} {g : Nat} {op : Nat → Bool} {F : List Nat} (h : Gn w g op) (ht : Touch F w w') (hn : ¬ g ∈ F) : Gn w' g op := ht.keep h hn
theorem Gn.cell {w : World} {g : Nat} {op : Nat → Bool} (h : Gn w g op) {i : Nat} (hi : i < 256) : w.cell? ⟨g, i * 2, none⟩ = some (.bool (op i)) ∧ w.frozen? ⟨g, i * 2, none⟩ = false := ⟨cell_at h (gc_open _ _ _ hi), froz_at h _⟩
theorem Gn.where_ {w : World} {g : Nat} {op : Nat → Bool} (h : Gn w g op) : w.cell? ⟨g, 512, none⟩ = some (.map none) := cell_at h (gc_where _ _ _)
set_option maxHeartbeats 2000000 in
theorem gnew_ (w : World) : Calls Tryd.prog 8 #[] w fun e w' => e = .returned (PT w.heap.size) ∧ Gn w' w.heap.size (fun _ => false) ∧ Touch [] w w' := by
  have z56 := zeroG
  obtain ⟨d, hd⟩ : ∃ d, d = gc (fun _ => false) (fun _ => .slice none 0 0) none := ⟨_, rfl⟩
  rw [← hd] at z56
  have HD := hid hd
  clear hd
  unfold PT
  go_enter Tryd.func8, Tryd.ntmps8
  go_wp2
  go_ret
  refine ⟨rfl, ?_, (Touch.refl _ _).alloc _⟩
  unfold Gn
  rw [← HD.out]
  exact heap_alloc_new w _
section
variable (w : World) (g : Nat) (n : Int)
set_option maxHeartbeats 2000000 in
theorem gfind_ (h0 : 0 ≤ n) (h1 : n < 256) : Calls Tryd.prog 51 #[.pointer (some ⟨g, 0, none⟩), .int .i64 n] w fun e w' => e = .returned (.pointer (some ⟨g, n.toNat * 2, none⟩)) ∧ w' = w := by
  go_enter Tryd.func51, Tryd.ntmps51
  go_wp2
  go_ret
  exact ⟨rfl, rfl⟩
set_option maxHeartbeats 2000000 in
theorem gknown_ (h0 : 0 ≤ n) (h1 : n < 256) : Calls Tryd.prog 35 #[.pointer (some ⟨g, 0, none⟩), .int .i64 n] w fun e w' => e = .returned (.tuple #[.pointer (some ⟨g, n.toNat * 2, none⟩), .int .i64 0]) ∧ w' = w := by
  have HF := hid (gfind_ w g n h0 h1)
  clear h0 h1
  go_enter Tryd.func35, Tryd.ntmps35
  go_wp2_with (go_at_call 51; refine HF.out.mono ?_; rintro e w2 ⟨rfl, rfl⟩)
  exact bodyPost_ret (v := .tuple #[.pointer (some ⟨g, n.toNat * 2, none⟩), .int .i64 0]) (by simp [results, Tryd.results35, go_sem]) rfl ⟨rfl, rfl⟩
theorem gknown_nil : Calls Tryd.prog 35 #[.pointer none, .int .i64 n] w fun e w' => e = .returned (.tuple #[.pointer none, .int .i64 1]) ∧ w' = w := by
  go_enter Tryd.func35, Tryd.ntmps35
  go_wp2
  exact bodyPost_ret (v := .tuple #[.pointer none, .int .i64 1]) (by simp [results, Tryd.results35, go_sem]) rfl ⟨rfl, rfl⟩
end
section
variable {w : World} {g : Nat} {op : Nat → Bool}
set_option maxHeartbeats 2000000 in
theorem gwhere_ (h : Gn w g op) (x : Int) (hx : W64 x) : Calls Tryd.prog 64 #[.pointer (some ⟨g, 0, none⟩), .int .i64 x] w fun e w' => e = .returned (.tuple #[.int .i64 0, .bool false]) ∧ w' = w := by
  have c1 := h.where_
  have hl := Maps.look_nil (P := Tryd.prog) (w := w) true keyed3 Tryd.underlying83 (zero3 w) (key3 hx)
  simp only [if_true] at hl
  clear h
  go_enter Tryd.func64, Tryd.ntmps64
  go_wp2
  exact bodyPost_ret (v := .tuple #[.int .i64 0, .bool false]) (by simp [results, Tryd.results64, go_sem]) rfl ⟨rfl, rfl⟩
set_option maxHeartbeats 2000000 in
theorem glen_ (h : Gn w g op) : Calls Tryd.prog 37 #[.pointer (some ⟨g, 0, none⟩)] w fun e w' => e = .returned (.int .i64 0) ∧ w' = w := by
  have c1 := h.where_
  have hl := fun ty => Maps.len_nil (P := Tryd.prog) (w := w) Tryd.underlying83 ty
  clear h
  go_enter Tryd.func37, Tryd.ntmps37
  go_wp2
  go_ret
  exact ⟨rfl, rfl⟩
theorem gpass_ (v u : Value) : Calls Tryd.prog 36 #[v, u, .int .i64 0] w fun e w' => e = .returned (.slice none 0 0) ∧ w' = w := by
  go_enter Tryd.func36, Tryd.ntmps36
  go_wp2
  go_loopw [7] (fun x wr => x = .slice none 0 0 ∧ wr = w) (fun _ _ => 0)
  case atStart => exact ⟨rfl, rfl⟩
  case round =>
    obtain ⟨rfl, rfl⟩ := hrel
    go_wp2
    go_ret
    exact ⟨rfl, rfl⟩
theorem Gn.opens (h : Gn w g op) {i : Nat} (hi : i < 256) (v : Bool) : Gn (w.setCell ⟨g, i * 2, none⟩ (.bool v)) g (fup op i v) := by
  unfold Gn
  rw [← gc_setopen op _ _ hi v]
  exact bset h _
set_option maxHeartbeats 2000000 in
theorem gopen_ (h : Gn w g op) (n : Int) (h0 : 0 ≤ n) (h1 : n < 256) : Calls Tryd.prog 21 #[.pointer (some ⟨g, 0, none⟩), .int .i64 n] w fun e w' => e = .returned (.tuple #[.slice none 0 0, .int .i64 0]) ∧ Gn w' g (fup op n.toNat true) ∧ Touch [g] w w' := by
  have hi : n.toNat < 256 := by omega
  obtain ⟨c1, f1⟩ := h.cell hi
  have HK := hid (gknown_ w g n h0 h1)
  have HO := hid (h.opens hi true)
  have HL := hid (glen_ (h.opens hi true))
  have HT : Hid (Touch [g] w (w.setCell ⟨g, n.toNat * 2, none⟩ (.bool true))) := (Touch.refl _ _).setCell (by simp) _
  clear h hi h0 h1
  generalize fup op n.toNat true = op' at *
  generalize op n.toNat = B at *
  generalize n.toNat * 2 = o at *
  go_enter Tryd.func21, Tryd.ntmps21
  go_wp2_with (first
    | (go_at_call 35; refine HK.out.mono ?_; rintro e w2 ⟨rfl, rfl⟩)
    | (go_at_call 37; refine HL.out.mono ?_; rintro e w2 ⟨rfl, rfl⟩)
    | (go_at_call 36; refine (gpass_ _ _).mono ?_; rintro e w2 ⟨rfl, rfl⟩)
    | fail)
  exact bodyPost_ret (v := .tuple #[.slice none 0 0, .int .i64 0]) (by simp [results, Tryd.results21, go_sem]) rfl ⟨rfl, HO.out, HT.out⟩
set_option maxHeartbeats 2000000 in
theorem gcome_open (h : Gn w g op) (n x : Int) (hx : W64 x) (h0 : 0 ≤ n) (h1 : n < 256) (ho : op n.toNat = true) : Calls Tryd.prog 49 #[.pointer (some ⟨g, 0, none⟩), .int .i64 n, .int .i64 x] w fun e w' => e = .returned (.tuple #[.bool true, .int .i64 0]) ∧ w' = w := by
  have hi : n.toNat < 256 := by omega
  obtain ⟨c1, f1⟩ := h.cell hi
  rw [ho] at c1
  have HK := hid (gknown_ w g n h0 h1)
  have HW := hid (gwhere_ h x hx)
  clear h hi h0 h1 ho
  generalize n.toNat * 2 = o at *
  go_enter Tryd.func49, Tryd.ntmps49
  go_wp2_with (first
    | (go_at_call 35; refine HK.out.mono ?_; rintro e w2 ⟨rfl, rfl⟩)
    | (go_at_call 64; refine HW.out.mono ?_; rintro e w2 ⟨rfl, rfl⟩)
    | fail)
  exact bodyPost_ret (v := .tuple #[.bool true, .int .i64 0]) (by simp [results, Tryd.results49, go_sem]) rfl ⟨rfl, rfl⟩
theorem gcome_nil (w : World) (n x : Int) : Calls Tryd.prog 49 #[.pointer none, .int .i64 n, .int .i64 x] w fun e w' => e = .returned (.tuple #[.bool false, .int .i64 1]) ∧ w' = w := by
  have HK := hid (gknown_nil w n)
  go_enter Tryd.func49, Tryd.ntmps49
  go_wp2_with (go_at_call 35; refine HK.out.mono ?_; rintro e w2 ⟨rfl, rfl⟩)
  exact bodyPost_ret (v := .tuple #[.bool false, .int .i64 1]) (by simp [results, Tryd.results49, go_sem]) rfl ⟨rfl, rfl⟩
end
end Go.Proofs.YtcbckehdlbbbbaaDoor
/- Who comes to a shut gate at which nobody waits, where nobody waits at all, waits there; the conditions are those that each states. -/
namespace Go.Proofs.YtcbckehdlbbbbaaDoor
open Go.RowKit Go.Maps Go.ChangeMaps
set_option linter.unusedVariables false
set_option linter.unusedSimpArgs false
/-- An empty queue by turn. -/
def Qn (w : World) (q : Nat) : Prop := w.heap[q]? = some (.cells #[.int .i64 0, .int .i64 0, .map none] 166 (0, 0))
theorem zeroLk (w : World) : (zeroValue 168).run Tryd.prog w = .ok (.agg #[.int .i64 0, .int .i64 0]) w := by kernel_rfl
theorem eqTm (w : World) (r : Option Nat) : (binOp .eql 164 (.map r) (.map none)).run Tryd.prog w = .ok (.bool r.isNone) w := run_eql_map_nil w _ _ _ r Tryd.underlying164
theorem eqIm (w : World) (r : Option Nat) : (binOp .eql 83 (.map r) (.map none)).run Tryd.prog w = .ok (.bool r.isNone) w := run_eql_map_nil w _ _ _ r Tryd.underlying83
theorem qnew_ (w : World) : Calls Tryd.prog 83 #[] w fun e w' => e = .returned (.pointer (some ⟨w.heap.size, 0, none⟩)) ∧ Qn w' w.heap.size ∧ Touch [] w w' := by
  go_enter Tryd.func83, Tryd.ntmps83
  go_wp2
  go_ret
  exact ⟨rfl, heap_alloc_new w _, (Touch.refl _ _).alloc _⟩
section
variable {w : World} {q : Nat}
set_option maxHeartbeats 2000000 in
theorem qhas_ (h : Qn w q) (x : Int) (hx : W64 x) : Calls Tryd.prog 88 #[.pointer (some ⟨q, 0, none⟩), .int .i64 x] w fun e w' => e = .returned (.bool false) ∧ Touch [] w w' := by
  have c2 := cell_at (j := 2) (v := .map none) h rfl
  have hl := Maps.look_nil (P := Tryd.prog) (w := w) true keyed3 Tryd.underlying164 (zeroLk w) (key3 hx)
  simp only [if_true] at hl
  clear h
  go_enter Tryd.func88, Tryd.ntmps88
  go_wp2
  go_ret
  exact ⟨rfl, (Touch.refl _ _).alloc _⟩
set_option maxHeartbeats 2000000 in
theorem qlen_ (h : Qn w q) : Calls Tryd.prog 70 #[.pointer (some ⟨q, 0, none⟩)] w fun e w' => e = .returned (.int .i64 0) ∧ w' = w := by
  have c2 := cell_at (j := 2) (v := .map none) h rfl
  have hl := fun ty => Maps.len_nil (P := Tryd.prog) (w := w) Tryd.underlying164 ty
  clear h
  go_enter Tryd.func70, Tryd.ntmps70
  go_wp2
  go_ret
  exact ⟨rfl, rfl⟩
set_option maxHeartbeats 4000000 in
set_option maxRecDepth 100000 in
theorem qlast_ (h : Qn w q) (x : Int) (hx : W64 x) : Calls Tryd.prog 89 #[.pointer (some ⟨q, 0, none⟩), .int .i64 x] w fun e w' => e = .returned (.tuple #[]) ∧ Touch [q] w w' := by
  have c0 := cell_at (j := 0) (v := .int .i64 0) h rfl
  have c1 := cell_at (j := 1) (v := .int .i64 0) h rfl
  have c2 := cell_at (j := 2) (v := .map none) h rfl
  have hq := block_lt h
  have f0 := froz_at h 0
  have f1 := froz_at h 1
  have f2 := froz_at h 2
  have hmm := @run_makeMap Tryd.prog
  have hne : w.heap.size ≠ q := by omega
  have HMd : Hid (∀ V : World, V.heap.size = w.heap.size → MapAt (V.alloc (.map #[] 0)) w.heap.size 0 (fun _ => none)) := hid (fun V hV => by have := mapAt_made V; rw [hV] at this; exact this)
  have HC : Hid (Qn w q) := h
  have qTm := eqTm
  clear h
  go_enter Tryd.func89, Tryd.ntmps89
  go_wp2_with (at_len; refine wpList_mlen _ rfl _ 164 rfl 168 Tryd.underlying164 w.heap.size 0 _ rfl (HMd.out _ (by simp [World.setCell])) ?_)
  obtain ⟨V, hV⟩ : ∃ V, V = (((w.setCell ⟨q, 2, none⟩ (.map (some w.heap.size))).setCell ⟨q, 0, none⟩ (.int .i64 x)).alloc (Obj.map #[] 0)) := ⟨_, rfl⟩
  have hTV : V.heap[q]? = some (.cells #[.int .i64 x, .int .i64 0, .map (some w.heap.size)] 166 (0, 0)) := by
    rw [hV]
    refine (Below.heap_alloc _ _ _ (by simp [World.setCell]; exact hq)).trans ?_
    have := bset (i := 0) (bset (i := 2) HC.out (.map (some w.heap.size))) (.int .i64 x)
    simpa using this
  have hMV : MapAt V w.heap.size 0 (fun _ => none) := by
    rw [hV]
    exact HMd.out _ (by simp [World.setCell])
  have HT1 : Hid (Touch [q] w V) := by
    rw [hV]
    exact (((Touch.refl _ _).setCell (p := ⟨q, 2, none⟩) (by simp) _).setCell (p := ⟨q, 0, none⟩) (by simp) _).alloc _
  rw [← hV]
  clear hV HMd HC c2 f2 f1 f0 c0 c1 qTm
  obtain ⟨o, hu, hm2⟩ := (show MapAt (V).drew w.heap.size 0 (fun _ => none) from hMV.kept rfl).set (t := 164) Tryd.underlying164 (by unfold maxLen; omega) hx (.agg #[.int .i64 0, .int .i64 0])
  have hT2 : (setBlock (V).drew w.heap.size o).heap[q]? = some (.cells #[.int .i64 x, .int .i64 0, .map (some w.heap.size)] 166 (0, 0)) := (setBlock_other _ _ _ (Ne.symm hne)).trans hTV
  have HTo : Hid (Touch [w.heap.size] (V) (setBlock (V).drew w.heap.size o)) := touch_setBlock (Touch.refl _ _).drew (by simp) o
  have v1 := cell_at (j := 1) (v := .int .i64 0) hTV rfl
  have v2 := cell_at (j := 2) (v := .map (some w.heap.size)) hTV rfl
  have z1 := cell_at (j := 1) (v := .int .i64 0) hT2 rfl
  have z1f := froz_at hT2 1
  clear hm2 hT2 hTV hMV
  generalize setBlock (V).drew w.heap.size o = W2 at *
  go_region
  go_wp2
  go_end0
  exact ⟨rfl, (HT1.out.trans HTo.out (fun i hi => by simp only [List.mem_singleton] at hi; subst hi; exact Or.inr (Nat.le_refl _))).setCell (by simp) _⟩
set_option maxHeartbeats 4000000 in
theorem qput_ (h : Qn w q) (x : Int) (hx : W64 x) : Calls Tryd.prog 82 #[.pointer (some ⟨q, 0, none⟩), .int .i64 x] w fun e w' => e = .returned (.int .i64 0) ∧ Touch [q] w w' := by
  have HH := hid (qhas_ h x hx)
  have HL : Hid (∀ w', Touch [] w w' → Calls Tryd.prog 70 #[.pointer (some ⟨q, 0, none⟩)] w' fun e w2 => e = .returned (.int .i64 0) ∧ w2 = w') := hid (fun w' t => qlen_ (t.keep h (by simp)))
  have HP : Hid (∀ w', Touch [] w w' → Calls Tryd.prog 89 #[.pointer (some ⟨q, 0, none⟩), .int .i64 x] w' fun e w2 => e = .returned (.tuple #[]) ∧ Touch [q] w' w2) := hid (fun w' t => qlast_ (t.keep h (by simp)) x hx)
  clear h
  go_enter Tryd.func82, Tryd.ntmps82
  go_wp2_with (first
    | (go_at_call 88; refine HH.out.mono ?_; rintro e w2 ⟨rfl, t2⟩; have T2 := hid t2; clear t2)
    | (go_at_call 70; refine (HL.out _ T2.out).mono ?_; rintro e w3 ⟨rfl, rfl⟩)
    | (go_at_call 89; refine (HP.out _ T2.out).mono ?_; rintro e w4 ⟨rfl, t4⟩; have T4 := hid t4; clear t4)
    | fail)
  go_ret
  exact ⟨rfl, (T2.out.mono (fun _ e => by cases e)).trans' T4.out⟩
end
theorem infoPT : (Tryd.prog.info? 128).map (fun i => (i.zero, i.size, i.bytes)) = some (some (.pointer none), 1, 8) := by kernel_rfl
theorem rs_ptr (w : World) (x : Value) : Rs 128 1 (w.alloc (.cells #[x] 128)) (.slice (some ⟨w.heap.size, 0, none⟩) 1 1) 1 [x] := by
  refine ⟨rfl, _, 1, rfl, Nat.le_refl _, fun e => (by cases e), fun _ => ⟨w.heap.size, 0, rfl, _, _, heap_alloc_new w _, fun j u hu => ?_⟩⟩
  match j, hu with
  | 0, hu => simpa using hu
section
variable {w : World} {g : Nat} {op : Nat → Bool}
theorem Gn.lines (h : Gn w g op) {i : Nat} (hi : i < 256) : w.cell? ⟨g, i * 2 + 1, none⟩ = some (.slice none 0 0) ∧ w.frozen? ⟨g, i * 2 + 1, none⟩ = false := ⟨cell_at h (gc_lines _ _ _ hi), froz_at h _⟩
set_option maxHeartbeats 4000000 in
theorem gput_ (h : Gn w g op) {i : Nat} (hi : i < 256) (x : Int) (hx : W64 x) : Calls Tryd.prog 76 #[.pointer (some ⟨g, i * 2, none⟩), .int .i64 x] w fun e w' => e = .returned (.tuple #[]) ∧ Touch [g] w w' ∧ ∃ sl, w'.heap[g]? = some (.cells (gc op (fup (fun _ => .slice none 0 0) i sl) none) 85 (0, 0)) := by
  obtain ⟨c1, f1⟩ := h.lines hi
  have HN := hid (qnew_ w)
  have HP : Hid (∀ w' q, Qn w' q → Calls Tryd.prog 82 #[.pointer (some ⟨q, 0, none⟩), .int .i64 x] w' fun e w2 => e = .returned (.int .i64 0) ∧ Touch [q] w' w2) := hid (fun w' q hq => qput_ hq x hx)
  have hg : g < w.heap.size := block_lt h
  have HG : Hid (∀ w', Touch [w.heap.size] w w' → w'.cell? ⟨g, i * 2 + 1, none⟩ = some (.slice none 0 0) ∧ w'.frozen? ⟨g, i * 2 + 1, none⟩ = false ∧ g < w'.heap.size) := hid (fun w' t => by
    have k := h.keep t (by simp; omega)
    exact ⟨(k.lines hi).1, (k.lines hi).2, block_lt k⟩)
  have HE : Hid (∀ w1 w2 w3 (v5 : Value), Touch [] w w1 → Touch [w.heap.size] w1 w2 → (w2.alloc (.cells #[.pointer (some ⟨w.heap.size, 0, none⟩)] 128)).grownBy w3 none → Touch [g] w (w3.setCell ⟨g, i * 2 + 1, none⟩ v5) ∧ (w3.setCell ⟨g, i * 2 + 1, none⟩ v5).heap[g]? = some (.cells (gc op (fup (fun _ => .slice none 0 0) i v5) none) 85 (0, 0))) := hid (fun w1 w2 w3 v5 t1 t2 t3 => by
    have a1 : Touch [] w (w2.alloc (.cells #[.pointer (some ⟨w.heap.size, 0, none⟩)] 128)) := (t1.trans t2 (fun k hk => by simp only [List.mem_singleton] at hk; subst hk; exact Or.inr (Nat.le_refl _))).alloc _
    have a2 : Touch [] w w3 := a1.grown t3 (fun k hk => by cases hk)
    refine ⟨(a2.mono (fun _ e => by cases e)).setCell (by simp) _, ?_⟩
    have b := a2.keep h (by simp)
    have := bset (i := i * 2 + 1) b v5
    rw [gc_setlines op _ _ hi v5] at this
    exact this)
  clear h
  generalize i * 2 = o at *
  go_enter Tryd.func76, Tryd.ntmps76
  go_wp2_with (first
    | (go_at_call 83; refine HN.out.mono ?_; rintro e w1 ⟨rfl, q1, t1⟩; have Q1 := hid q1; have T1 := hid t1; clear q1 t1)
    | (go_at_call 82; refine (HP.out _ _ Q1.out).mono ?_; rintro e w2 ⟨rfl, t2⟩; have T2 := hid t2; obtain ⟨d1, d2, d3⟩ := HG.out w2 ((T1.out.mono (fun _ e => by cases e)).trans' t2); clear t2)
    | (at_builtin; refine wpList_append_rs rfl _ _ _ 128 rfl (.pointer none) 1 8 infoPT Tryd.underlying79 rfl (by decide) 0 (.slice none 0 0) 0 [] rfl (World.ownsRow_nil _ _ _ _) _ 1 [.pointer (some ⟨w.heap.size, 0, none⟩)] rfl (rs_ptr _ _) (fun y hy => by simp only [List.mem_singleton] at hy; subst hy; rfl) (by unfold maxLen; omega) (by omega) (by simp) ?_; intro v5 w5 o5 g5 e5; have G5 := hid (HE.out _ _ _ v5 T1.out T2.out g5); obtain ⟨a5, c5, rfl⟩ := own_form o5; have t5 : Touch [] w2 w5 := ((Touch.refl [] _).alloc _).grown g5 (fun k hk => by cases hk); obtain ⟨y1, y2, y3⟩ := HG.out w5 (((T1.out.mono (fun _ e => by cases e)).trans' T2.out).trans t5 (fun _ e => by cases e)); clear o5 g5 e5 t5)
    | fail)

  go_end0
  exact ⟨rfl, G5.out.1, _, G5.out.2⟩
set_option maxHeartbeats 4000000 in
set_option maxRecDepth 100000 in
theorem gwait_ (h : Gn w g op) (n x : Int) (hx : W64 x) (h0 : 0 ≤ n) (h1 : n < 256) : Calls Tryd.prog 65 #[.pointer (some ⟨g, 0, none⟩), .int .i64 n, .int .i64 x] w fun e w' => e = .returned (.tuple #[]) ∧ Touch [g] w w' := by
  have HP := hid (gput_ h (i := n.toNat) (by omega) x hx)
  have hg : g < w.heap.size := block_lt h
  have HE : Hid (∀ w2, Touch [g] w w2 → (∃ sl, w2.heap[g]? = some (.cells (gc op (fup (fun _ => .slice none 0 0) n.toNat sl) none) 85 (0, 0))) → (w2.cell? ⟨g, 512, none⟩ = some (.map none) ∧ w2.frozen? ⟨g, 512, none⟩ = false ∧ g < w2.heap.size) ∧ ∀ V, V = (w2.setCell ⟨g, 512, none⟩ (.map (some w2.heap.size))).alloc (.map #[] 0) → (V.cell? ⟨g, 512, none⟩ = some (.map (some w2.heap.size)) ∧ MapAt V w2.heap.size 0 (fun _ => none)) ∧ ∀ ob, Touch [g] w (setBlock V w2.heap.size ob)) := hid (fun w2 t2 ⟨sl, hb⟩ => by
    refine ⟨⟨cell_at hb (gc_where _ _ _), froz_at hb _, block_lt hb⟩, fun V hV => ?_⟩
    have t3 : Touch [g] w V := by
      rw [hV]
      exact (t2.setCell (p := ⟨g, 512, none⟩) (by simp) _).alloc _
    refine ⟨⟨?_, ?_⟩, fun ob => touch_setBlock t3 (Or.inr t2.size) ob⟩
    · have := bset (i := 512) hb (.map (some w2.heap.size))
      rw [gc_setwhere] at this
      rw [hV]
      exact cell_at ((Below.heap_alloc _ _ _ (by simp [World.setCell]; exact block_lt hb)).trans this) (gc_where _ _ _)
    · rw [hV]
      have := mapAt_made (w2.setCell ⟨g, 512, none⟩ (.map (some w2.heap.size)))
      simpa [World.setCell] using this)
  clear h
  have qIm := eqIm
  have hmm := @run_makeMap Tryd.prog
  go_enter Tryd.func65, Tryd.ntmps65
  go_wp2_with (first
    | (go_at_call 76; refine HP.out.mono ?_; rintro e w2 ⟨rfl, t2, s2⟩; obtain ⟨⟨c2, f2, g2⟩, R⟩ := HE.out w2 t2 s2; have RR := hid R; clear t2 s2 R)
    | (at_mapUpdate; refine wpList_mset _ rfl _ _ _ 83 rfl 3 Tryd.underlying83 w2.heap.size 0 (fun _ => none) rfl (RR.out _ rfl).1.2 (by unfold maxLen; omega) x rfl hx (.int .i64 n) rfl ?_; intro ob hM; have E := hid ((RR.out _ rfl).2 ob); clear hM)
    | fail)
  go_end0
  exact ⟨rfl, E.out⟩
set_option maxHeartbeats 4000000 in
theorem gcome_shut (h : Gn w g op) (n x : Int) (hx : W64 x) (h0 : 0 ≤ n) (h1 : n < 256) (ho : op n.toNat = false) : Calls Tryd.prog 49 #[.pointer (some ⟨g, 0, none⟩), .int .i64 n, .int .i64 x] w fun e w' => e = .returned (.tuple #[.bool false, .int .i64 0]) ∧ Touch [g] w w' := by
  have hi : n.toNat < 256 := by omega
  obtain ⟨c1, f1⟩ := h.cell hi
  rw [ho] at c1
  have HK := hid (gknown_ w g n h0 h1)
  have HW := hid (gwhere_ h x hx)
  have HA := hid (gwait_ h n x hx h0 h1)
  clear h hi h0 h1 ho
  generalize n.toNat * 2 = o at *
  go_enter Tryd.func49, Tryd.ntmps49
  go_wp2_with (first
    | (go_at_call 35; refine HK.out.mono ?_; rintro e w2 ⟨rfl, rfl⟩)
    | (go_at_call 64; refine HW.out.mono ?_; rintro e w2 ⟨rfl, rfl⟩)
    | (go_at_call 65; refine HA.out.mono ?_; rintro e w3 ⟨rfl, t3⟩; have T3 := hid t3; clear t3)
    | fail)
  exact bodyPost_ret (v := .tuple #[.bool false, .int .i64 0]) (by simp [results, Tryd.results49, go_sem]) rfl ⟨rfl, T3.out⟩
end
end Go.Proofs.YtcbckehdlbbbbaaDoor
