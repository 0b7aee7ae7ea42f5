/- Keys laid into a trie: at a node of its own, and at a fresh one; no conditions but those that each states. -/
import Derived.Test.YtlffleigahfdlaaGreatDoorFga
import Derived.Test.YtlffleigahfdlaaGreatDoorHlh
import Derived.Test.YtlffleigahfdlaaGreatDoorAlh
import Derived.Deep.CutRange
import Derived.Deep.CutBlock
namespace Go.Proofs.YtlffleigahfdlaaGreatDoor.Tr
open Go.RowKit Go.Sort Go.Shelf Go.Maps Go.ChangeMaps
set_option linter.unusedVariables false
set_option linter.unusedSimpArgs false
def At (w : World) (b : Nat) (c : Array Value) : Prop := w.heap[b]? = some (.cells c 260 (0, 0))
theorem At.keep {w w' : World} {b : Nat} {c : Array Value} {F : List Nat} (h : At w b c) (t : Touch F w w') (hF : ¬ b ∈ F) : At w' b c := t.keep h hF
theorem At.lt {w : World} {b : Nat} {c : Array Value} (h : At w b c) : b < w.heap.size := block_lt h
set_option maxRecDepth 40000 in
set_option maxHeartbeats 4000000 in
theorem add_e {w : World} {b : Nat} (h : At w b zN) (v : ByteArray) (p : Int) (R : Value) :
    Calls Tryz.prog 195 #[nP b, .string ⟨#[]⟩, .string v, .int .i64 p, R] w fun e w' => e = .returned (.tuple #[]) ∧ Touch [b] w w' ∧ At w' b (nd v p ⟨#[]⟩ none sN) := by
  have c0 := cell_at h (j := 0) (v := .string ⟨#[]⟩) rfl
  have c1 := cell_at h (j := 1) (v := .int .i64 0) rfl
  have f0 := froz_at h 0
  have f1 := froz_at h 1
  have HE : Hid (∀ v p, At ((w.setCell ⟨b, 0, none⟩ (.string v)).setCell ⟨b, 1, none⟩ (.int .i64 p)) b (nd v p ⟨#[]⟩ none sN)) := hid (fun v p => by
    have h1 := heap_set (i := 0) h (.string v)
    exact heap_set (i := 1) h1 (.int .i64 p))
  clear h
  unfold nP
  go_enter Tryz.func195, Tryz.ntmps195
  go_wp2_with fail
  refine bodyPost_ret (v := .tuple #[]) (by simp [results, Tryz.results195, go_sem]) rfl ⟨rfl, ((Touch.refl [b] w).setCell (p := ⟨b, 0, none⟩) (Or.inl (by simp)) _).setCell (p := ⟨b, 1, none⟩) (Or.inl (by simp)) _, HE.out v p⟩
set_option maxRecDepth 40000 in
set_option maxHeartbeats 4000000 in
theorem add_l {w : World} {b : Nat} (h : At w b zN) (k : ByteArray) (hk : k.toList.isEmpty = false) (v : ByteArray) (p : Int) (R : Value) :
    Calls Tryz.prog 195 #[nP b, .string k, .string v, .int .i64 p, R] w fun e w' => e = .returned (.tuple #[]) ∧ Touch [b] w w' ∧ ∃ q, w.heap.size ≤ q ∧ At w' b (nd ⟨#[]⟩ 0 k (nA q) sN) ∧ At w' q (nd v p ⟨#[]⟩ none sN) := by
  have c2 := cell_at h (j := 2) (v := .string ⟨#[]⟩) rfl
  have c3 := cell_at h (j := 3) (v := .pointer none) rfl
  have c4 := cell_at h (j := 4) (v := .slice none 0 0) rfl
  have f2 := froz_at h 2
  have f3 := froz_at h 3
  have hb := h.lt
  have HL : Hid (∀ W, W = (((w.setCell ⟨b, 2, none⟩ (.string k)).setCell ⟨b, 3, none⟩ (.pointer (some ⟨w.heap.size, 0, none⟩))).alloc (.cells #[.string ⟨#[]⟩, .int .i64 0, .string ⟨#[]⟩, .pointer none, .slice none 0 0] 260)) → At W b (nd ⟨#[]⟩ 0 k (nA w.heap.size) sN) ∧ At W w.heap.size zN ∧ Touch [b] w W) := hid (fun W hW => by
    subst hW
    have h1 := heap_set (i := 3) (heap_set (i := 2) h (.string k)) (.pointer (some ⟨w.heap.size, 0, none⟩))
    have hs : ((w.setCell ⟨b, 2, none⟩ (.string k)).setCell ⟨b, 3, none⟩ (.pointer (some ⟨w.heap.size, 0, none⟩))).heap.size = w.heap.size := by simp [World.setCell]
    have h2 := heap_alloc_new ((w.setCell ⟨b, 2, none⟩ (.string k)).setCell ⟨b, 3, none⟩ (.pointer (some ⟨w.heap.size, 0, none⟩))) (.cells #[.string ⟨#[]⟩, .int .i64 0, .string ⟨#[]⟩, .pointer none, .slice none 0 0] 260)
    rw [hs] at h2
    exact ⟨((Touch.refl [] _).alloc _).keep h1 (by simp), h2, (((Touch.refl [b] w).setCell (p := ⟨b, 2, none⟩) (Or.inl (by simp)) _).setCell (p := ⟨b, 3, none⟩) (Or.inl (by simp)) _).alloc _⟩)
  clear h
  have hk2 : (k.toList == (⟨#[]⟩ : ByteArray).toList) = false := by
    rw [show (⟨#[]⟩ : ByteArray).toList = [] by rw [ByteArray.toList_eq]]
    cases e : k.toList with
    | nil => rw [e] at hk; cases hk
    | cons a l => rfl
  unfold nP
  go_enter Tryz.func195, Tryz.ntmps195
  go_wp2_with fail
  obtain ⟨h1, h2, h3⟩ := HL.out _ rfl
  unfold zN nd sN at h2
  refine (add_e h2 v p R).mono ?_
  rintro e w2 ⟨rfl, t2, a2⟩
  have T2 := hid t2
  have A2 := hid a2
  have H1 := hid h1
  have H3 := hid h3
  clear t2 a2 h1 h2 h3
  go_wp2_with fail
  go_end0
  exact ⟨rfl, H3.out.trans T2.out (fun i hi => Or.inr (by simp only [List.mem_singleton] at hi; omega)), _, Nat.le_refl _, H1.out.keep T2.out (by simp only [List.mem_singleton]; omega), A2.out⟩
end Go.Proofs.YtlffleigahfdlaaGreatDoor.Tr
