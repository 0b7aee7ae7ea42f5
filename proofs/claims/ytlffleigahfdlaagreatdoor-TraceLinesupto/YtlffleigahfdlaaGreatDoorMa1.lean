/- A text with its masked bytes back in plain words; what a generic replacer looks like in memory; no conditions. -/
import Derived.Test.YtlffleigahfdlaaGreatDoorEpd
import Derived.Test.YtlffleigahfdlaaGreatDoorEpe
import Derived.Test.YtlffleigahfdlaaGreatDoorHlh
import Derived.Test.YtlffleigahfdlaaGreatDoorAlh
import Derived.Deep.CutRange
import Derived.Deep.CutBlock
import Derived.BigQuiet
import Derived.Deep.QuietTactic
namespace Go.Proofs.YtlffleigahfdlaaGreatDoor.Tr
open Go.RowKit Go.Sort Go.Shelf Go.Maps Go.ChangeMaps
set_option linter.unusedVariables false
set_option linter.unusedSimpArgs false
def lk3 (a b c : UInt8) : Option UInt8 := if a = 37 ∧ b = 48 ∧ c = 97 then some 10 else if a = 37 ∧ b = 48 ∧ c = 100 then some 13 else if a = 37 ∧ b = 50 ∧ c = 53 then some 37 else none
def lkL : List UInt8 → Option UInt8
  | a :: b :: c :: _ => lk3 a b c
  | _ => none
def unF : List UInt8 → List UInt8
  | [] => []
  | [a] => [a]
  | [a, b] => [a, b]
  | a :: b :: c :: r => match lk3 a b c with | some x => x :: unF r | none => a :: unF (b :: c :: r)
theorem unF_hit {l : List UInt8} {x : UInt8} (h : lkL l = some x) : unF l = x :: unF (l.drop 3) ∧ 3 ≤ l.length := by
  match l, h with
  | a :: b :: c :: r, h =>
    have h : lk3 a b c = some x := h
    exact ⟨by rw [unF, h]; rfl, by simp only [List.length_cons]; omega⟩
theorem unF_no {a : UInt8} {l : List UInt8} (h : lkL (a :: l) = none) : unF (a :: l) = a :: unF l := by
  match l, h with
  | [], _ => rfl
  | [b], _ => rfl
  | b :: c :: r, h =>
    have h : lk3 a b c = none := h
    rw [unF, h]
theorem lk3_first {a b c : UInt8} (h : a ≠ 37) : lk3 a b c = none := by
  unfold lk3
  rw [if_neg (fun e => h e.1), if_neg (fun e => h e.1), if_neg (fun e => h e.1)]
theorem lkL_first {a : UInt8} {l : List UInt8} (h : a ≠ 37) : lkL (a :: l) = none := by
  match l with
  | [] => rfl
  | [b] => rfl
  | b :: c :: r => exact lk3_first h
def sq : List Nat := [37, 48, 97, 37, 48, 100, 37, 50, 53]
def mkN (n b : Nat) : Nat := if b ∈ sq.take n then 1 else 0
def cntM (i : Nat) : Nat := (List.range i).countP (fun b => b ∈ sq)
def mapB (b : Nat) : Nat := if b ∈ sq then cntM b else 6
theorem mkN_9 (b : Nat) : mkN 9 b = if b ∈ sq then 1 else 0 := rfl
theorem cntM_succ (i : Nat) : cntM (i + 1) = cntM i + mkN 9 i := by
  unfold cntM
  rw [List.range_succ, List.countP_append, mkN_9]
  by_cases h : i ∈ sq <;> simp [List.countP_cons, h]
theorem cntM_256 : cntM 256 = 6 := by decide +kernel
theorem cntM_le : ∀ i, i ≤ 256 → cntM i ≤ 6 := by
  intro i hi
  have h : ∀ j, cntM i ≤ cntM (i + j) := fun j => by
    induction j with
    | zero => exact Nat.le_refl _
    | succ j ih => rw [← Nat.add_assoc, cntM_succ]; omega
  have := h (256 - i)
  rw [show i + (256 - i) = 256 by omega, cntM_256] at this
  exact this
theorem mkN_succ (n b : Nat) {c : Nat} (h : sq[n]? = some c) : mkN (n + 1) b = if b = c then 1 else mkN n b := by
  unfold mkN
  rw [List.take_add_one, h]
  by_cases e : b = c
  · simp [e]
  · simp [e]
/-- A generic replacer's own block: the root's cells, the table's size, the bytes' numbers. -/
def Gn (w : World) (r : Nat) (rt : Nat → Value) (ts : Nat) (f : Nat → Nat) : Prop :=
  ∃ cs : Array Value, w.heap[r]? = some (.cells cs 262 (0, 0)) ∧ cs.size = 262 ∧ (∀ j, j < 5 → cs[j]? = some (rt j)) ∧ cs[5]? = some (.int .i64 (ts : Int)) ∧ ∀ b, b < 256 → cs[6 + b]? = some (.int .u8 (f b : Int))
theorem Gn.touch {w w' : World} {r ts : Nat} {rt : Nat → Value} {f : Nat → Nat} (h : Gn w r rt ts f) (t : Touch [] w w') : Gn w' r rt ts f := by
  obtain ⟨cs, h0, h1⟩ := h
  exact ⟨cs, t.keep h0 (by simp), h1⟩
theorem Gn.keep {w w' : World} {r ts : Nat} {rt : Nat → Value} {f : Nat → Nat} {F : List Nat} (h : Gn w r rt ts f) (t : Touch F w w') (hF : ¬ r ∈ F) : Gn w' r rt ts f := by
  obtain ⟨cs, h0, h1⟩ := h
  exact ⟨cs, t.keep h0 hF, h1⟩
theorem Gn.root {w : World} {r ts : Nat} {rt : Nat → Value} {f : Nat → Nat} (h : Gn w r rt ts f) {j : Nat} (hj : j < 5) : w.cell? ⟨r, j, none⟩ = some (rt j) := by
  obtain ⟨cs, h0, _, h2, _⟩ := h
  exact cell_at h0 (h2 j hj)
theorem Gn.size {w : World} {r ts : Nat} {rt : Nat → Value} {f : Nat → Nat} (h : Gn w r rt ts f) : w.cell? ⟨r, 5, none⟩ = some (.int .i64 (ts : Int)) := by
  obtain ⟨cs, h0, _, _, h3, _⟩ := h
  exact cell_at h0 h3
theorem Gn.num {w : World} {r ts : Nat} {rt : Nat → Value} {f : Nat → Nat} (h : Gn w r rt ts f) {b : Nat} (hb : b < 256) : w.cell? ⟨r, 6 + b, none⟩ = some (.int .u8 (f b : Int)) := by
  obtain ⟨cs, h0, _, _, _, h4⟩ := h
  exact cell_at h0 (h4 b hb)
theorem Gn.froz {w : World} {r ts : Nat} {rt : Nat → Value} {f : Nat → Nat} (h : Gn w r rt ts f) (o : Nat) : w.frozen? ⟨r, o, none⟩ = false := by
  obtain ⟨cs, h0, _⟩ := h
  exact froz_at h0 o
theorem Gn.lt {w : World} {r ts : Nat} {rt : Nat → Value} {f : Nat → Nat} (h : Gn w r rt ts f) : r < w.heap.size := by
  obtain ⟨cs, h0, _⟩ := h
  exact block_lt h0
theorem heap_set {w : World} {r i : Nat} {cs : Array Value} {t : TypeId} {z : Nat × Nat} (h : w.heap[r]? = some (.cells cs t z)) (v : Value) : (w.setCell ⟨r, i, none⟩ v).heap[r]? = some (.cells (cs.setIfInBounds i v) t z) := by
  simp [World.setCell, Array.getElem?_modify, h]
theorem Gn.setN {w : World} {r ts : Nat} {rt : Nat → Value} {f : Nat → Nat} (h : Gn w r rt ts f) {b : Nat} (hb : b < 256) (v : Nat) : Gn (w.setCell ⟨r, 6 + b, none⟩ (.int .u8 (v : Int))) r rt ts (fun j => if j = b then v else f j) := by
  obtain ⟨cs, h0, h1, h2, h3, h4⟩ := h
  refine ⟨_, heap_set h0 _, by simp [h1], fun j hj => ?_, ?_, fun j hj => ?_⟩
  · rw [Array.getElem?_setIfInBounds_ne (by omega)]; exact h2 j hj
  · rw [Array.getElem?_setIfInBounds_ne (by omega)]; exact h3
  · by_cases e : j = b
    · subst e
      rw [Array.getElem?_setIfInBounds_self_of_lt (by omega)]
      simp
    · rw [Array.getElem?_setIfInBounds_ne (by omega)]
      simp only [e, if_false]
      exact h4 j hj
theorem Gn.setS {w : World} {r ts : Nat} {rt : Nat → Value} {f : Nat → Nat} (h : Gn w r rt ts f) (v : Nat) : Gn (w.setCell ⟨r, 5, none⟩ (.int .i64 (v : Int))) r rt v f := by
  obtain ⟨cs, h0, h1, h2, h3, h4⟩ := h
  refine ⟨_, heap_set h0 _, by simp [h1], fun j hj => ?_, ?_, fun j hj => ?_⟩
  · rw [Array.getElem?_setIfInBounds_ne (by omega)]; exact h2 j hj
  · rw [Array.getElem?_setIfInBounds_self_of_lt (by omega)]
  · rw [Array.getElem?_setIfInBounds_ne (by omega)]; exact h4 j hj
theorem Gn.setR {w : World} {r ts : Nat} {rt : Nat → Value} {f : Nat → Nat} (h : Gn w r rt ts f) {k : Nat} (hk : k < 5) (v : Value) : Gn (w.setCell ⟨r, k, none⟩ v) r (fun j => if j = k then v else rt j) ts f := by
  obtain ⟨cs, h0, h1, h2, h3, h4⟩ := h
  refine ⟨_, heap_set h0 _, by simp [h1], fun j hj => ?_, ?_, fun j hj => ?_⟩
  · by_cases e : j = k
    · subst e
      rw [Array.getElem?_setIfInBounds_self_of_lt (by omega)]
      simp
    · rw [Array.getElem?_setIfInBounds_ne (by omega)]
      simp only [e, if_false]
      exact h2 j hj
  · rw [Array.getElem?_setIfInBounds_ne (by omega)]; exact h3
  · rw [Array.getElem?_setIfInBounds_ne (by omega)]; exact h4 j hj
/-- a node's five cells -/
def nd (v : ByteArray) (p : Int) (x : ByteArray) (n : Option Addr) (t : Value) : Array Value := #[.string v, .int .i64 p, .string x, .pointer n, t]
def nP (b : Nat) : Value := .pointer (some ⟨b, 0, none⟩)
def nA (b : Nat) : Option Addr := some ⟨b, 0, none⟩
def sN : Value := .slice none 0 0
def sT (b : Nat) : Value := .slice (some ⟨b, 0, none⟩) 6 6
def zN : Array Value := nd ⟨#[]⟩ 0 ⟨#[]⟩ none sN
end Go.Proofs.YtlffleigahfdlaaGreatDoor.Tr
/- Keys laid into a trie: at a node of its own, and at a fresh one; no conditions but those that each states. -/
namespace Go.Proofs.YtlffleigahfdlaaGreatDoor.Tr
open Go.RowKit Go.Sort Go.Shelf Go.Maps Go.ChangeMaps
set_option linter.unusedVariables false
set_option linter.unusedSimpArgs false
def At (w : World) (b : Nat) (c : Array Value) : Prop := w.heap[b]? = some (.cells c 260 (0, 0))
theorem At.keep {w w' : World} {b : Nat} {c : Array Value} {F : List Nat} (h : At w b c) (t : Touch F w w') (hF : ¬ b ∈ F) : At w' b c := t.keep h hF
theorem At.lt {w : World} {b : Nat} {c : Array Value} (h : At w b c) : b < w.heap.size := block_lt h
set_option maxRecDepth 40000 in
set_option maxHeartbeats 4000000 in
theorem add_e {w : World} {b : Nat} (h : At w b zN) (v : ByteArray) (p : Int) (R : Value) :
    Calls Tryz.prog 195 #[nP b, .string ⟨#[]⟩, .string v, .int .i64 p, R] w fun e w' => e = .returned (.tuple #[]) ∧ Touch [b] w w' ∧ At w' b (nd v p ⟨#[]⟩ none sN) := by
  have c0 := cell_at h (j := 0) (v := .string ⟨#[]⟩) rfl
  have c1 := cell_at h (j := 1) (v := .int .i64 0) rfl
  have f0 := froz_at h 0
  have f1 := froz_at h 1
  have HE : Hid (∀ v p, At ((w.setCell ⟨b, 0, none⟩ (.string v)).setCell ⟨b, 1, none⟩ (.int .i64 p)) b (nd v p ⟨#[]⟩ none sN)) := hid (fun v p => by
    have h1 := heap_set (i := 0) h (.string v)
    exact heap_set (i := 1) h1 (.int .i64 p))
  clear h
  unfold nP
  go_enter Tryz.func195, Tryz.ntmps195
  go_wp2_with fail
  refine bodyPost_ret (v := .tuple #[]) (by simp [results, Tryz.results195, go_sem]) rfl ⟨rfl, ((Touch.refl [b] w).setCell (p := ⟨b, 0, none⟩) (Or.inl (by simp)) _).setCell (p := ⟨b, 1, none⟩) (Or.inl (by simp)) _, HE.out v p⟩
set_option maxRecDepth 40000 in
set_option maxHeartbeats 4000000 in
theorem add_l {w : World} {b : Nat} (h : At w b zN) (k : ByteArray) (hk : k.toList.isEmpty = false) (v : ByteArray) (p : Int) (R : Value) :
    Calls Tryz.prog 195 #[nP b, .string k, .string v, .int .i64 p, R] w fun e w' => e = .returned (.tuple #[]) ∧ Touch [b] w w' ∧ ∃ q, w.heap.size ≤ q ∧ At w' b (nd ⟨#[]⟩ 0 k (nA q) sN) ∧ At w' q (nd v p ⟨#[]⟩ none sN) := by
  have c2 := cell_at h (j := 2) (v := .string ⟨#[]⟩) rfl
  have c3 := cell_at h (j := 3) (v := .pointer none) rfl
  have c4 := cell_at h (j := 4) (v := .slice none 0 0) rfl
  have f2 := froz_at h 2
  have f3 := froz_at h 3
  have hb := h.lt
  have HL : Hid (∀ W, W = (((w.setCell ⟨b, 2, none⟩ (.string k)).setCell ⟨b, 3, none⟩ (.pointer (some ⟨w.heap.size, 0, none⟩))).alloc (.cells #[.string ⟨#[]⟩, .int .i64 0, .string ⟨#[]⟩, .pointer none, .slice none 0 0] 260)) → At W b (nd ⟨#[]⟩ 0 k (nA w.heap.size) sN) ∧ At W w.heap.size zN ∧ Touch [b] w W) := hid (fun W hW => by
    subst hW
    have h1 := heap_set (i := 3) (heap_set (i := 2) h (.string k)) (.pointer (some ⟨w.heap.size, 0, none⟩))
    have hs : ((w.setCell ⟨b, 2, none⟩ (.string k)).setCell ⟨b, 3, none⟩ (.pointer (some ⟨w.heap.size, 0, none⟩))).heap.size = w.heap.size := by simp [World.setCell]
    have h2 := heap_alloc_new ((w.setCell ⟨b, 2, none⟩ (.string k)).setCell ⟨b, 3, none⟩ (.pointer (some ⟨w.heap.size, 0, none⟩))) (.cells #[.string ⟨#[]⟩, .int .i64 0, .string ⟨#[]⟩, .pointer none, .slice none 0 0] 260)
    rw [hs] at h2
    exact ⟨((Touch.refl [] _).alloc _).keep h1 (by simp), h2, (((Touch.refl [b] w).setCell (p := ⟨b, 2, none⟩) (Or.inl (by simp)) _).setCell (p := ⟨b, 3, none⟩) (Or.inl (by simp)) _).alloc _⟩)
  clear h
  have hk2 : (k.toList == (⟨#[]⟩ : ByteArray).toList) = false := by
    rw [show (⟨#[]⟩ : ByteArray).toList = [] by rw [ByteArray.toList_eq]]
    cases e : k.toList with
    | nil => rw [e] at hk; cases hk
    | cons a l => rfl
  unfold nP
  go_enter Tryz.func195, Tryz.ntmps195
  go_wp2_with fail
  obtain ⟨h1, h2, h3⟩ := HL.out _ rfl
  unfold zN nd sN at h2
  refine (add_e h2 v p R).mono ?_
  rintro e w2 ⟨rfl, t2, a2⟩
  have T2 := hid t2
  have A2 := hid a2
  have H1 := hid h1
  have H3 := hid h3
  clear t2 a2 h1 h2 h3
  go_wp2_with fail
  go_end0
  exact ⟨rfl, H3.out.trans T2.out (fun i hi => Or.inr (by simp only [List.mem_singleton] at hi; omega)), _, Nat.le_refl _, H1.out.keep T2.out (by simp only [List.mem_singleton]; omega), A2.out⟩
end Go.Proofs.YtlffleigahfdlaaGreatDoor.Tr
/- A key laid where a node's one byte is another: a table takes its place; no conditions but those that each states. -/
namespace Go.Proofs.YtlffleigahfdlaaGreatDoor.Tr
open Go.RowKit Go.Sort Go.Shelf Go.Maps Go.ChangeMaps
set_option linter.unusedVariables false
set_option linter.unusedSimpArgs false
def tab0 : Array Value := #[.pointer none, .pointer none, .pointer none, .pointer none, .pointer none, .pointer none]
theorem make6 (w : World) : (Instr.makeSlice 258 (.int .i64 6) (.int .i64 6)).run Tryz.prog w = .ok (.slice (some ⟨w.heap.size, 0, none⟩) 6 6) (w.alloc (.cells tab0 257)) := by
  kernel_rfl
theorem s0w {V W : World} {b q : Nat} {x : ByteArray} (h : At V b (nd ⟨#[]⟩ 0 x (nA q) sN)) (hW : W = ((V.setCell ⟨b, 4, none⟩ (sT (V.heap.size + 1))).alloc (.cells zN 260)).alloc (.cells tab0 257)) :
    At W b (nd ⟨#[]⟩ 0 x (nA q) (sT (V.heap.size + 1))) ∧ At W V.heap.size zN ∧ W.heap[V.heap.size + 1]? = some (.cells tab0 257 (0, 0)) ∧ Touch [b] V W := by
  subst hW
  have a0 := heap_set (i := 4) h (sT (V.heap.size + 1))
  have ts : Touch [b] V (V.setCell ⟨b, 4, none⟩ (sT (V.heap.size + 1))) := (Touch.refl [b] V).setCell (p := ⟨b, 4, none⟩) (Or.inl (by simp)) _
  have z0 : (V.setCell ⟨b, 4, none⟩ (sT (V.heap.size + 1))).heap.size = V.heap.size := by simp [World.setCell]
  generalize V.setCell ⟨b, 4, none⟩ (sT (V.heap.size + 1)) = V1 at *
  rw [← z0]
  have t1 : Touch [] V1 (V1.alloc (.cells zN 260)) := (Touch.refl [] V1).alloc _
  have t2 := t1.alloc (.cells tab0 257)
  have z1 : (V1.alloc (.cells zN 260)).heap.size = V1.heap.size + 1 := by simp
  have a1 := heap_alloc_new V1 (.cells zN 260)
  have a2 := heap_alloc_new (V1.alloc (.cells zN 260)) (.cells tab0 257)
  rw [z1] at a2
  exact ⟨by rw [z0]; exact t2.keep a0 (by simp), ((Touch.refl [] _).alloc (.cells tab0 257)).keep a1 (by simp), a2, ts.trans t2 (fun i hi => by cases hi)⟩
set_option maxRecDepth 40000 in
set_option maxHeartbeats 8000000 in
theorem add_sA {w : World} {b q r : Nat} {rt : Nat → Value} (h : At w b (nd ⟨#[]⟩ 0 ⟨#[97]⟩ (nA q) sN)) (G : Gn w r rt 6 mapB) (v : ByteArray) (p : Int) :
    Calls Tryz.prog 195 #[nP b, .string ⟨#[100]⟩, .string v, .int .i64 p, nP r] w fun e w' => e = .returned (.tuple #[]) ∧ Touch [b] w w' ∧ ∃ kn, w.heap.size ≤ kn ∧ At w' b (nd ⟨#[]⟩ 0 ⟨#[]⟩ none (sT (kn + 1))) ∧ w'.heap[kn + 1]? = some (.cells ((tab0.setIfInBounds 4 (nP q)).setIfInBounds 5 (nP kn)) 257 (0, 0)) ∧ At w' kn (nd v p ⟨#[]⟩ none sN) := by
  have c2 : w.cell? ⟨b, 2, none⟩ = some (.string ⟨#[97]⟩) := cell_at h (j := 2) rfl
  have c3 : w.cell? ⟨b, 3, none⟩ = some (.pointer (some ⟨q, 0, none⟩)) := cell_at h (j := 3) rfl
  have c4 : w.cell? ⟨b, 4, none⟩ = some (.slice none 0 0) := cell_at h (j := 4) rfl
  have f2 := froz_at h 2
  have f3 := froz_at h 3
  have f4 := froz_at h 4
  have g5 : w.cell? ⟨r, 5, none⟩ = some (.int .i64 6) := G.size
  have gx : w.cell? ⟨r, 103, none⟩ = some (.int .u8 4) := by
    have := G.num (b := 97) (by omega)
    rw [show mapB 97 = 4 by decide +kernel] at this
    exact this
  have gy : w.cell? ⟨r, 106, none⟩ = some (.int .u8 5) := by
    have := G.num (b := 100) (by omega)
    rw [show mapB 100 = 5 by decide +kernel] at this
    exact this
  have hb := h.lt
  have hr := G.lt
  have H := hid (And.intro h G)
  clear h G
  unfold nP
  go_enter Tryz.func195, Tryz.ntmps195
  go_wp2_with fail
  go_loopw [10] (fun i wr => i = .int .i64 0 ∧ wr = w) (fun _ _ => 0)
  case atStart => exact ⟨rfl, rfl⟩
  case round =>
    obtain ⟨rfl, rfl⟩ := hrel
    go_wp2_with fail
    go_quiet (fail)
    obtain ⟨V, hV⟩ : ∃ V, V = wr.drewN nq := ⟨_, rfl⟩
    rw [← hV]
    have K := hid (And.intro (show At V b (nd ⟨#[]⟩ 0 ⟨#[97]⟩ (nA q) sN) by rw [hV]; exact H.out.1) (show Gn V r rt 6 mapB by rw [hV]; exact H.out.2))
    have TV : Hid (Touch [] wr V) := hid (by rw [hV]; exact (Touch.refl [] wr).drewN _)
    clear c2 c3 c4 f2 f3 f4 g5 gx gy hb hr hV H
    have h := K.out.1
    have G := K.out.2
    have c2 : V.cell? ⟨b, 2, none⟩ = some (.string ⟨#[97]⟩) := cell_at h (j := 2) rfl
    have c3 : V.cell? ⟨b, 3, none⟩ = some (.pointer (some ⟨q, 0, none⟩)) := cell_at h (j := 3) rfl
    have c4 : V.cell? ⟨b, 4, none⟩ = some (.slice none 0 0) := cell_at h (j := 4) rfl
    have f2 := froz_at h 2
    have f3 := froz_at h 3
    have f4 := froz_at h 4
    have g5 : V.cell? ⟨r, 5, none⟩ = some (.int .i64 6) := G.size
    have gx : V.cell? ⟨r, 103, none⟩ = some (.int .u8 4) := by
      have := G.num (b := 97) (by omega)
      rw [show mapB 97 = 4 by decide +kernel] at this
      exact this
    have gy : V.cell? ⟨r, 106, none⟩ = some (.int .u8 5) := by
      have := G.num (b := 100) (by omega)
      rw [show mapB 100 = 5 by decide +kernel] at this
      exact this
    have hb := h.lt
    have hr := G.lt
    clear h G
    have HM := make6
    go_wp2_with fail
    obtain ⟨W2, hW2⟩ : ∃ W2, W2 = ((V.setCell ⟨b, 4, none⟩ (.slice (some ⟨V.heap.size + 1, 0, none⟩) 6 6)).alloc (.cells #[.string ⟨#[]⟩, .int .i64 0, .string ⟨#[]⟩, .pointer none, .slice none 0 0] 260)).alloc (.cells tab0 257) := ⟨_, rfl⟩
    rw [← hW2]
    obtain ⟨d1, d2, d3, d4⟩ := s0w K.out.1 hW2
    have hrb : ¬ r ∈ [b] := fun hm => by
      simp only [List.mem_singleton] at hm
      obtain ⟨cs, e0, _⟩ := K.out.2
      rw [hm, K.out.1] at e0
      simp at e0
    have G2 := K.out.2.keep d4 hrb
    obtain ⟨kn, hkn⟩ : ∃ kn, kn = V.heap.size := ⟨_, rfl⟩
    rw [← hkn] at d1 d2 d3 ⊢
    have hk0 := hid (show wr.heap.size ≤ kn by rw [hkn]; exact TV.out.size)
    have D := hid (And.intro d1 (And.intro d2 (And.intro d3 G2)))
    have hbk := hid (show b < kn by rw [hkn]; exact K.out.1.lt)
    have hrk := hid (show r < kn by rw [hkn]; exact K.out.2.lt)
    have T2 := hid ((TV.out.mono (by simp)).trans d4 (fun i hi => Or.inl hi))
    have HRB := hid hrb
    clear c2 c3 c4 f2 f3 f4 g5 gx gy hb hr HM hW2 d1 d2 d3 d4 G2 hkn TV K hrb
    have c2 : W2.cell? ⟨b, 2, none⟩ = some (.string ⟨#[97]⟩) := cell_at D.out.1 (j := 2) rfl
    have c4 : W2.cell? ⟨b, 4, none⟩ = some (.slice (some ⟨kn + 1, 0, none⟩) 6 6) := cell_at D.out.1 (j := 4) rfl
    have gx : W2.cell? ⟨r, 103, none⟩ = some (.int .u8 4) := by
      have := D.out.2.2.2.num (b := 97) (by omega)
      rw [show mapB 97 = 4 by decide +kernel] at this
      exact this
    have t0 : W2.cell? ⟨kn + 1, 4, none⟩ = some (.pointer none) := cell_at D.out.2.2.1 (j := 4) rfl
    have f0 := froz_at D.out.2.2.1 4
    have hx : (ByteArray.mk #[97])[0].toNat = 97 := rfl
    have hy : (ByteArray.mk #[100])[0].toNat = 100 := rfl
    go_region
    obtain ⟨W3, hW3⟩ : ∃ W3, W3 = (W2.setCell ⟨kn + 1, 4, none⟩ (.pointer (some ⟨q, 0, none⟩))).drew := ⟨_, rfl⟩
    rw [← hW3]
    have t3 : Touch [kn + 1] W2 W3 := by rw [hW3]; exact ((Touch.refl [kn + 1] W2).setCell (p := ⟨kn + 1, 4, none⟩) (Or.inl (by simp)) _).drew
    have E1 := hid (D.out.1.keep t3 (by have := hbk.out; simp only [List.mem_singleton]; omega))
    have E2 := hid (D.out.2.1.keep t3 (by simp))
    have E3 : Hid (W3.heap[kn + 1]? = some (.cells (tab0.setIfInBounds 4 (.pointer (some ⟨q, 0, none⟩))) 257 (0, 0))) := hid (by rw [hW3]; exact heap_set D.out.2.2.1 _)
    have E4 := hid (D.out.2.2.2.keep t3 (by have := hrk.out; simp only [List.mem_singleton]; omega))
    have T3 := hid (T2.out.trans t3 (fun i hi => Or.inr (by have := hk0.out; simp only [List.mem_singleton] at hi; omega)))
    clear c2 c4 gx t0 f0 hW3 t3 D T2
    have c4 : W3.cell? ⟨b, 4, none⟩ = some (.slice (some ⟨kn + 1, 0, none⟩) 6 6) := cell_at E1.out (j := 4) rfl
    have gy : W3.cell? ⟨r, 106, none⟩ = some (.int .u8 5) := by
      have := E4.out.num (b := 100) (by omega)
      rw [show mapB 100 = 5 by decide +kernel] at this
      exact this
    have t0 : W3.cell? ⟨kn + 1, 5, none⟩ = some (.pointer none) := cell_at E3.out (j := 5) rfl
    have f0 := froz_at E3.out 5
    go_wp2_with fail
    go_region
    obtain ⟨W4, hW4⟩ : ∃ W4, W4 = (W3.setCell ⟨kn + 1, 5, none⟩ (.pointer (some ⟨kn, 0, none⟩))).drew := ⟨_, rfl⟩
    rw [← hW4]
    have t4 : Touch [kn + 1] W3 W4 := by rw [hW4]; exact ((Touch.refl [kn + 1] W3).setCell (p := ⟨kn + 1, 5, none⟩) (Or.inl (by simp)) _).drew
    have F1 := hid (E1.out.keep t4 (by have := hbk.out; simp only [List.mem_singleton]; omega))
    have F2 := hid (E2.out.keep t4 (by simp))
    have F3 : Hid (W4.heap[kn + 1]? = some (.cells ((tab0.setIfInBounds 4 (.pointer (some ⟨q, 0, none⟩))).setIfInBounds 5 (.pointer (some ⟨kn, 0, none⟩))) 257 (0, 0))) := hid (by rw [hW4]; exact heap_set E3.out _)
    have T4 := hid (T3.out.trans t4 (fun i hi => Or.inr (by have := hk0.out; simp only [List.mem_singleton] at hi; omega)))
    clear c4 gy t0 f0 hW4 t4 E1 E2 E3 E4 T3
    have c2 : W4.cell? ⟨b, 2, none⟩ = some (.string ⟨#[97]⟩) := cell_at F1.out (j := 2) rfl
    have c3 : W4.cell? ⟨b, 3, none⟩ = some (.pointer (some ⟨q, 0, none⟩)) := cell_at F1.out (j := 3) rfl
    have f2 := froz_at F1.out 2
    have f3 := froz_at F1.out 3
    have hex : (ByteArray.mk #[100]).extract 1 1 = ⟨#[]⟩ := rfl
    go_wp2_with fail
    obtain ⟨Wc, hWc⟩ : ∃ Wc, Wc = (W4.setCell ⟨b, 2, none⟩ (.string ⟨#[]⟩)).setCell ⟨b, 3, none⟩ (.pointer none) := ⟨_, rfl⟩
    rw [← hWc]
    have t5 : Touch [b] W4 Wc := by rw [hWc]; exact ((Touch.refl [b] W4).setCell (p := ⟨b, 2, none⟩) (Or.inl (by simp)) _).setCell (p := ⟨b, 3, none⟩) (Or.inl (by simp)) _
    have hbk' := hbk.out
    have hk' := hk0.out
    have b1 : At Wc b (nd ⟨#[]⟩ 0 ⟨#[]⟩ none (sT (kn + 1))) := by rw [hWc]; exact heap_set (i := 3) (heap_set (i := 2) F1.out (.string ⟨#[]⟩)) (.pointer none)
    have b2 := F2.out.keep t5 (by simp only [List.mem_singleton]; omega)
    have b3 := t5.keep F3.out (by simp only [List.mem_singleton]; omega)
    have T5 := T4.out.trans t5 (fun i hi => Or.inl hi)
    have B := hid (And.intro b1 (And.intro b3 T5))
    clear c2 c3 f2 f3 hWc t5 b1 b3 T5 F1 F2 F3 T4 hbk' hk'
    refine (add_e b2 v p (.pointer (some ⟨r, 0, none⟩))).mono ?_
    rintro e w9 ⟨rfl, t9, a9⟩
    clear b2
    have hbk' := hbk.out
    have hk' := hk0.out
    have R9 := hid a9
    have T9 := hid t9
    clear t9 a9
    go_wp2_with fail
    go_end0
    exact ⟨rfl, B.out.2.2.trans T9.out (fun i hi => Or.inr (by simp only [List.mem_singleton] at hi; omega)), kn, hk', B.out.1.keep T9.out (by simp only [List.mem_singleton]; omega), T9.out.keep B.out.2.1 (by simp), R9.out⟩
set_option maxRecDepth 40000 in
set_option maxHeartbeats 8000000 in
theorem add_sB {w : World} {b q r : Nat} {rt : Nat → Value} (h : At w b (nd ⟨#[]⟩ 0 ⟨#[48]⟩ (nA q) sN)) (G : Gn w r rt 6 mapB) (v : ByteArray) (p : Int) :
    Calls Tryz.prog 195 #[nP b, .string ⟨#[50, 53]⟩, .string v, .int .i64 p, nP r] w fun e w' => e = .returned (.tuple #[]) ∧ Touch [b] w w' ∧ ∃ kn, w.heap.size ≤ kn ∧ At w' b (nd ⟨#[]⟩ 0 ⟨#[]⟩ none (sT (kn + 1))) ∧ w'.heap[kn + 1]? = some (.cells ((tab0.setIfInBounds 1 (nP q)).setIfInBounds 2 (nP kn)) 257 (0, 0)) ∧ ∃ q2, At w' kn (nd ⟨#[]⟩ 0 ⟨#[53]⟩ (nA q2) sN) ∧ At w' q2 (nd v p ⟨#[]⟩ none sN) := by
  have c2 : w.cell? ⟨b, 2, none⟩ = some (.string ⟨#[48]⟩) := cell_at h (j := 2) rfl
  have c3 : w.cell? ⟨b, 3, none⟩ = some (.pointer (some ⟨q, 0, none⟩)) := cell_at h (j := 3) rfl
  have c4 : w.cell? ⟨b, 4, none⟩ = some (.slice none 0 0) := cell_at h (j := 4) rfl
  have f2 := froz_at h 2
  have f3 := froz_at h 3
  have f4 := froz_at h 4
  have g5 : w.cell? ⟨r, 5, none⟩ = some (.int .i64 6) := G.size
  have gx : w.cell? ⟨r, 54, none⟩ = some (.int .u8 1) := by
    have := G.num (b := 48) (by omega)
    rw [show mapB 48 = 1 by decide +kernel] at this
    exact this
  have gy : w.cell? ⟨r, 56, none⟩ = some (.int .u8 2) := by
    have := G.num (b := 50) (by omega)
    rw [show mapB 50 = 2 by decide +kernel] at this
    exact this
  have hb := h.lt
  have hr := G.lt
  have H := hid (And.intro h G)
  clear h G
  unfold nP
  go_enter Tryz.func195, Tryz.ntmps195
  go_wp2_with fail
  go_loopw [10] (fun i wr => i = .int .i64 0 ∧ wr = w) (fun _ _ => 0)
  case atStart => exact ⟨rfl, rfl⟩
  case round =>
    obtain ⟨rfl, rfl⟩ := hrel
    go_wp2_with fail
    go_quiet (fail)
    obtain ⟨V, hV⟩ : ∃ V, V = wr.drewN nq := ⟨_, rfl⟩
    rw [← hV]
    have K := hid (And.intro (show At V b (nd ⟨#[]⟩ 0 ⟨#[48]⟩ (nA q) sN) by rw [hV]; exact H.out.1) (show Gn V r rt 6 mapB by rw [hV]; exact H.out.2))
    have TV : Hid (Touch [] wr V) := hid (by rw [hV]; exact (Touch.refl [] wr).drewN _)
    clear c2 c3 c4 f2 f3 f4 g5 gx gy hb hr hV H
    have h := K.out.1
    have G := K.out.2
    have c2 : V.cell? ⟨b, 2, none⟩ = some (.string ⟨#[48]⟩) := cell_at h (j := 2) rfl
    have c3 : V.cell? ⟨b, 3, none⟩ = some (.pointer (some ⟨q, 0, none⟩)) := cell_at h (j := 3) rfl
    have c4 : V.cell? ⟨b, 4, none⟩ = some (.slice none 0 0) := cell_at h (j := 4) rfl
    have f2 := froz_at h 2
    have f3 := froz_at h 3
    have f4 := froz_at h 4
    have g5 : V.cell? ⟨r, 5, none⟩ = some (.int .i64 6) := G.size
    have gx : V.cell? ⟨r, 54, none⟩ = some (.int .u8 1) := by
      have := G.num (b := 48) (by omega)
      rw [show mapB 48 = 1 by decide +kernel] at this
      exact this
    have gy : V.cell? ⟨r, 56, none⟩ = some (.int .u8 2) := by
      have := G.num (b := 50) (by omega)
      rw [show mapB 50 = 2 by decide +kernel] at this
      exact this
    have hb := h.lt
    have hr := G.lt
    clear h G
    have HM := make6
    go_wp2_with fail
    obtain ⟨W2, hW2⟩ : ∃ W2, W2 = ((V.setCell ⟨b, 4, none⟩ (.slice (some ⟨V.heap.size + 1, 0, none⟩) 6 6)).alloc (.cells #[.string ⟨#[]⟩, .int .i64 0, .string ⟨#[]⟩, .pointer none, .slice none 0 0] 260)).alloc (.cells tab0 257) := ⟨_, rfl⟩
    rw [← hW2]
    obtain ⟨d1, d2, d3, d4⟩ := s0w K.out.1 hW2
    have hrb : ¬ r ∈ [b] := fun hm => by
      simp only [List.mem_singleton] at hm
      obtain ⟨cs, e0, _⟩ := K.out.2
      rw [hm, K.out.1] at e0
      simp at e0
    have G2 := K.out.2.keep d4 hrb
    obtain ⟨kn, hkn⟩ : ∃ kn, kn = V.heap.size := ⟨_, rfl⟩
    rw [← hkn] at d1 d2 d3 ⊢
    have hk0 := hid (show wr.heap.size ≤ kn by rw [hkn]; exact TV.out.size)
    have D := hid (And.intro d1 (And.intro d2 (And.intro d3 G2)))
    have hbk := hid (show b < kn by rw [hkn]; exact K.out.1.lt)
    have hrk := hid (show r < kn by rw [hkn]; exact K.out.2.lt)
    have T2 := hid ((TV.out.mono (by simp)).trans d4 (fun i hi => Or.inl hi))
    have HRB := hid hrb
    clear c2 c3 c4 f2 f3 f4 g5 gx gy hb hr HM hW2 d1 d2 d3 d4 G2 hkn TV K hrb
    have c2 : W2.cell? ⟨b, 2, none⟩ = some (.string ⟨#[48]⟩) := cell_at D.out.1 (j := 2) rfl
    have c4 : W2.cell? ⟨b, 4, none⟩ = some (.slice (some ⟨kn + 1, 0, none⟩) 6 6) := cell_at D.out.1 (j := 4) rfl
    have gx : W2.cell? ⟨r, 54, none⟩ = some (.int .u8 1) := by
      have := D.out.2.2.2.num (b := 48) (by omega)
      rw [show mapB 48 = 1 by decide +kernel] at this
      exact this
    have t0 : W2.cell? ⟨kn + 1, 1, none⟩ = some (.pointer none) := cell_at D.out.2.2.1 (j := 1) rfl
    have f0 := froz_at D.out.2.2.1 1
    have hx : (ByteArray.mk #[48])[0].toNat = 48 := rfl
    have hy : (ByteArray.mk #[50, 53])[0].toNat = 50 := rfl
    go_region
    obtain ⟨W3, hW3⟩ : ∃ W3, W3 = (W2.setCell ⟨kn + 1, 1, none⟩ (.pointer (some ⟨q, 0, none⟩))).drew := ⟨_, rfl⟩
    rw [← hW3]
    have t3 : Touch [kn + 1] W2 W3 := by rw [hW3]; exact ((Touch.refl [kn + 1] W2).setCell (p := ⟨kn + 1, 1, none⟩) (Or.inl (by simp)) _).drew
    have E1 := hid (D.out.1.keep t3 (by have := hbk.out; simp only [List.mem_singleton]; omega))
    have E2 := hid (D.out.2.1.keep t3 (by simp))
    have E3 : Hid (W3.heap[kn + 1]? = some (.cells (tab0.setIfInBounds 1 (.pointer (some ⟨q, 0, none⟩))) 257 (0, 0))) := hid (by rw [hW3]; exact heap_set D.out.2.2.1 _)
    have E4 := hid (D.out.2.2.2.keep t3 (by have := hrk.out; simp only [List.mem_singleton]; omega))
    have T3 := hid (T2.out.trans t3 (fun i hi => Or.inr (by have := hk0.out; simp only [List.mem_singleton] at hi; omega)))
    clear c2 c4 gx t0 f0 hW3 t3 D T2
    have c4 : W3.cell? ⟨b, 4, none⟩ = some (.slice (some ⟨kn + 1, 0, none⟩) 6 6) := cell_at E1.out (j := 4) rfl
    have gy : W3.cell? ⟨r, 56, none⟩ = some (.int .u8 2) := by
      have := E4.out.num (b := 50) (by omega)
      rw [show mapB 50 = 2 by decide +kernel] at this
      exact this
    have t0 : W3.cell? ⟨kn + 1, 2, none⟩ = some (.pointer none) := cell_at E3.out (j := 2) rfl
    have f0 := froz_at E3.out 2
    go_wp2_with fail
    go_region
    obtain ⟨W4, hW4⟩ : ∃ W4, W4 = (W3.setCell ⟨kn + 1, 2, none⟩ (.pointer (some ⟨kn, 0, none⟩))).drew := ⟨_, rfl⟩
    rw [← hW4]
    have t4 : Touch [kn + 1] W3 W4 := by rw [hW4]; exact ((Touch.refl [kn + 1] W3).setCell (p := ⟨kn + 1, 2, none⟩) (Or.inl (by simp)) _).drew
    have F1 := hid (E1.out.keep t4 (by have := hbk.out; simp only [List.mem_singleton]; omega))
    have F2 := hid (E2.out.keep t4 (by simp))
    have F3 : Hid (W4.heap[kn + 1]? = some (.cells ((tab0.setIfInBounds 1 (.pointer (some ⟨q, 0, none⟩))).setIfInBounds 2 (.pointer (some ⟨kn, 0, none⟩))) 257 (0, 0))) := hid (by rw [hW4]; exact heap_set E3.out _)
    have T4 := hid (T3.out.trans t4 (fun i hi => Or.inr (by have := hk0.out; simp only [List.mem_singleton] at hi; omega)))
    clear c4 gy t0 f0 hW4 t4 E1 E2 E3 E4 T3
    have c2 : W4.cell? ⟨b, 2, none⟩ = some (.string ⟨#[48]⟩) := cell_at F1.out (j := 2) rfl
    have c3 : W4.cell? ⟨b, 3, none⟩ = some (.pointer (some ⟨q, 0, none⟩)) := cell_at F1.out (j := 3) rfl
    have f2 := froz_at F1.out 2
    have f3 := froz_at F1.out 3
    have hex : (ByteArray.mk #[50, 53]).extract 1 2 = ⟨#[53]⟩ := rfl
    go_wp2_with fail
    obtain ⟨Wc, hWc⟩ : ∃ Wc, Wc = (W4.setCell ⟨b, 2, none⟩ (.string ⟨#[]⟩)).setCell ⟨b, 3, none⟩ (.pointer none) := ⟨_, rfl⟩
    rw [← hWc]
    have t5 : Touch [b] W4 Wc := by rw [hWc]; exact ((Touch.refl [b] W4).setCell (p := ⟨b, 2, none⟩) (Or.inl (by simp)) _).setCell (p := ⟨b, 3, none⟩) (Or.inl (by simp)) _
    have hbk' := hbk.out
    have hk' := hk0.out
    have b1 : At Wc b (nd ⟨#[]⟩ 0 ⟨#[]⟩ none (sT (kn + 1))) := by rw [hWc]; exact heap_set (i := 3) (heap_set (i := 2) F1.out (.string ⟨#[]⟩)) (.pointer none)
    have b2 := F2.out.keep t5 (by simp only [List.mem_singleton]; omega)
    have b3 := t5.keep F3.out (by simp only [List.mem_singleton]; omega)
    have T5 := T4.out.trans t5 (fun i hi => Or.inl hi)
    have B := hid (And.intro b1 (And.intro b3 T5))
    clear c2 c3 f2 f3 hWc t5 b1 b3 T5 F1 F2 F3 T4 hbk' hk'
    refine (add_l b2 ⟨#[53]⟩ (by rw [ByteArray.toList_eq]; rfl) v p (.pointer (some ⟨r, 0, none⟩))).mono ?_
    rintro e w9 ⟨rfl, t9, q9, a8, a7, a6⟩
    have a9 := Exists.intro (p := fun q2 => At w9 kn (nd ⟨#[]⟩ 0 ⟨#[53]⟩ (nA q2) sN) ∧ At w9 q2 (nd v p ⟨#[]⟩ none sN)) q9 ⟨a7, a6⟩
    clear b2 a8 a7 a6
    have hbk' := hbk.out
    have hk' := hk0.out
    have R9 := hid a9
    have T9 := hid t9
    clear t9 a9
    go_wp2_with fail
    go_end0
    exact ⟨rfl, B.out.2.2.trans T9.out (fun i hi => Or.inr (by simp only [List.mem_singleton] at hi; omega)), kn, hk', B.out.1.keep T9.out (by simp only [List.mem_singleton]; omega), T9.out.keep B.out.2.1 (by simp), R9.out⟩
end Go.Proofs.YtlffleigahfdlaaGreatDoor.Tr
/- A key laid where a node's bytes begin alike; no conditions but those that each states. -/
namespace Go.Proofs.YtlffleigahfdlaaGreatDoor.Tr
open Go.RowKit Go.Sort Go.Shelf Go.Maps Go.ChangeMaps
set_option linter.unusedVariables false
set_option linter.unusedSimpArgs false
set_option maxRecDepth 40000 in
set_option maxHeartbeats 8000000 in
theorem add_s1 {w : World} {b q r : Nat} {rt : Nat → Value} (h : At w b (nd ⟨#[]⟩ 0 ⟨#[48, 97]⟩ (nA q) sN)) (G : Gn w r rt 6 mapB) (v : ByteArray) (p : Int) :
    Calls Tryz.prog 195 #[nP b, .string ⟨#[48, 100]⟩, .string v, .int .i64 p, nP r] w fun e w' => e = .returned (.tuple #[]) ∧ Touch [b] w w' ∧ ∃ m kn, w.heap.size ≤ m ∧ w.heap.size ≤ kn ∧ At w' b (nd ⟨#[]⟩ 0 ⟨#[48]⟩ (nA m) sN) ∧ At w' m (nd ⟨#[]⟩ 0 ⟨#[]⟩ none (sT (kn + 1))) ∧ w'.heap[kn + 1]? = some (.cells ((tab0.setIfInBounds 4 (nP q)).setIfInBounds 5 (nP kn)) 257 (0, 0)) ∧ At w' kn (nd v p ⟨#[]⟩ none sN) := by
  have c2 : w.cell? ⟨b, 2, none⟩ = some (.string ⟨#[48, 97]⟩) := cell_at h (j := 2) rfl
  have H := hid (And.intro h G)
  clear h G
  unfold nP
  go_enter Tryz.func195, Tryz.ntmps195
  go_wp2_with fail
  go_loopw [10] (fun i wr => ∃ j : Nat, i = .int .i64 j ∧ j ≤ 1 ∧ Hid (Touch [] w wr ∧ At wr b (nd ⟨#[]⟩ 0 ⟨#[48, 97]⟩ (nA q) sN) ∧ Gn wr r rt 6 mapB)) (fun i _ => 1 - (intOf i).toNat)
  case atStart => exact ⟨0, rfl, by omega, hid ⟨Touch.refl _ _, H.out⟩⟩
  case round =>
    obtain ⟨j, rfl, hj, HR⟩ := hrel
    clear c2
    have c2 : wr.cell? ⟨b, 2, none⟩ = some (.string ⟨#[48, 97]⟩) := cell_at HR.out.2.1 (j := 2) rfl
    have hx0 : (ByteArray.mk #[48, 97])[0].toNat = 48 := rfl
    have hx1 : (ByteArray.mk #[48, 97])[1].toNat = 97 := rfl
    have hy0 : (ByteArray.mk #[48, 100])[0].toNat = 48 := rfl
    have hy1 : (ByteArray.mk #[48, 100])[1].toNat = 100 := rfl
    rcases (by omega : j = 0 ∨ j = 1) with rfl | rfl
    · go_wp2_with fail
      go_quiet (fail)
      go_wp2_with fail
      go_roundw
      case rel => exact ⟨1, rfl, by omega, hid ⟨HR.out.1.drewN _, HR.out.2.1, HR.out.2.2⟩⟩
      case measure => simp [intOf]
    · go_wp2_with fail
      go_quiet (fail)
      go_wp2_with fail
      obtain ⟨V, hV⟩ : ∃ V, V = wr.drewN nq := ⟨_, rfl⟩
      rw [← hV]
      have K : Hid (Touch [] w V ∧ At V b (nd ⟨#[]⟩ 0 ⟨#[48, 97]⟩ (nA q) sN) ∧ Gn V r rt 6 mapB) := hid (by rw [hV]; exact ⟨HR.out.1.drewN _, HR.out.2.1, HR.out.2.2⟩)
      clear hV c2 hx0 hx1 hy0 hy1 HR
      have c2 : V.cell? ⟨b, 2, none⟩ = some (.string ⟨#[48, 97]⟩) := cell_at K.out.2.1 (j := 2) rfl
      have c3 : V.cell? ⟨b, 3, none⟩ = some (.pointer (some ⟨q, 0, none⟩)) := cell_at K.out.2.1 (j := 3) rfl
      have hb := K.out.2.1.lt
      have he1 : (ByteArray.mk #[48, 97]).extract 1 2 = ⟨#[97]⟩ := rfl
      have he2 : (ByteArray.mk #[48, 97]).extract 0 1 = ⟨#[48]⟩ := rfl
      have he3 : (ByteArray.mk #[48, 100]).extract 1 2 = ⟨#[100]⟩ := rfl
      go_region
      obtain ⟨W3, hW3⟩ : ∃ W3, W3 = (V.alloc (.cells #[.string ⟨#[]⟩, .int .i64 0, .string ⟨#[97]⟩, .pointer (some ⟨q, 0, none⟩), .slice none 0 0] 260)).drew := ⟨_, rfl⟩
      rw [← hW3]
      obtain ⟨m, hm⟩ : ∃ m, m = V.heap.size := ⟨_, rfl⟩
      rw [← hm]
      have t3 : Touch [] V W3 := by rw [hW3]; exact ((Touch.refl [] V).alloc _).drew
      have a3 : At W3 m (nd ⟨#[]⟩ 0 ⟨#[97]⟩ (nA q) sN) := by rw [hW3, hm]; exact heap_alloc_new V _
      have hmb : b < m := by rw [hm]; exact hb
      have hmw : w.heap.size ≤ m := by rw [hm]; exact K.out.1.size
      have E := hid (And.intro (K.out.1.trans' t3) (And.intro (K.out.2.1.keep t3 (by simp)) (And.intro (K.out.2.2.touch t3) (And.intro a3 (And.intro hmb hmw)))))
      clear c2 c3 hb hW3 hm t3 a3 hmb hmw K
      have c2 : W3.cell? ⟨b, 2, none⟩ = some (.string ⟨#[48, 97]⟩) := cell_at E.out.2.1 (j := 2) rfl
      have c3 : W3.cell? ⟨b, 3, none⟩ = some (.pointer (some ⟨q, 0, none⟩)) := cell_at E.out.2.1 (j := 3) rfl
      have f2 := froz_at E.out.2.1 2
      have f3 := froz_at E.out.2.1 3
      go_wp2_with fail
      obtain ⟨Wc, hWc⟩ : ∃ Wc, Wc = (W3.setCell ⟨b, 2, none⟩ (.string ⟨#[48]⟩)).setCell ⟨b, 3, none⟩ (.pointer (some ⟨m, 0, none⟩)) := ⟨_, rfl⟩
      rw [← hWc]
      have t5 : Touch [b] W3 Wc := by rw [hWc]; exact ((Touch.refl [b] W3).setCell (p := ⟨b, 2, none⟩) (Or.inl (by simp)) _).setCell (p := ⟨b, 3, none⟩) (Or.inl (by simp)) _
      have b1 : At Wc b (nd ⟨#[]⟩ 0 ⟨#[48]⟩ (nA m) sN) := by rw [hWc]; exact heap_set (i := 3) (heap_set (i := 2) E.out.2.1 (.string ⟨#[48]⟩)) (.pointer (some ⟨m, 0, none⟩))
      have hmb := E.out.2.2.2.2.1
      have b2 := E.out.2.2.2.1.keep t5 (by simp only [List.mem_singleton]; omega)
      have hrb : ¬ r ∈ [b] := fun hm => by
        simp only [List.mem_singleton] at hm
        obtain ⟨cs, e0, _⟩ := E.out.2.2.1
        rw [hm, E.out.2.1] at e0
        simp at e0
      have b3 := E.out.2.2.1.keep t5 hrb
      have T5 : Touch [b] w Wc := (E.out.1.mono (by simp)).trans t5 (fun i hi => Or.inl hi)
      have B := hid (And.intro b1 (And.intro T5 (And.intro hmb E.out.2.2.2.2.2)))
      clear c2 c3 f2 f3 hWc t5 b1 T5 hmb hrb E
      refine (add_sA b2 b3 v p).mono ?_
      rintro e w9 ⟨rfl, t9, kn, k1, k2, k3, k4⟩
      have R9 := hid (And.intro t9 (And.intro k1 (And.intro k2 (And.intro k3 k4))))
      clear b2 b3 t9 k1 k2 k3 k4
      go_wp2_with fail
      go_end0
      have hmb := B.out.2.2.1
      have hmw := B.out.2.2.2
      have hs := B.out.2.1.size
      exact ⟨rfl, B.out.2.1.trans R9.out.1 (fun i hi => Or.inr (by simp only [List.mem_singleton] at hi; omega)), m, kn, hmw, Nat.le_trans hs R9.out.2.1, B.out.1.keep R9.out.1 (by simp only [List.mem_singleton]; omega), R9.out.2.2⟩
end Go.Proofs.YtlffleigahfdlaaGreatDoor.Tr
