/- The contract of the library's SortFunc at a row of slots. -/
import Derived.Test.YtaioegefoiabhaaTms
import Derived.Test.YtaioegefoiabhaaShf
namespace Go.Proofs.Ytaioegefoiabhaa
open Go.RowKit Go.Maps Go.ChangeMaps Go.Sort Go.Shelf
set_option linter.unusedVariables false
theorem ltOf_eq (x y : Slot) : ltOf cmpS x y = decide (ltS x y) := by
  unfold ltOf
  rw [decide_eq_decide]
  exact cmpS_neg x y
theorem swoS [Inhabited Slot] : SWO (ltOf cmpS) where
  irrefl x := by rw [ltOf_eq]; simp [ltS]
  trans x y z h1 h2 := by
    rw [ltOf_eq] at h1 h2 ⊢
    exact decide_eq_true ((of_decide_eq_true h1).trans (of_decide_eq_true h2))
  ntrans x y z h1 h2 := by
    rw [ltOf_eq] at h1 h2 ⊢
    exact decide_eq_false (not_lt.2 ((not_lt.1 (of_decide_eq_false h2)).trans (not_lt.1 (of_decide_eq_false h1))))
theorem flatK_flat [Inhabited Slot] (s : List Slot) : flatK cells3 3 s.toArray = (flat s).toArray := by
  refine ext_get! (by simp [flat_len]) (fun t ht => ?_)
  simp at ht
  rw [get_flatK _ _ _ _ (by simpa using ht)]
  have h1 : t / 3 < s.length := by omega
  obtain ⟨a0, a1, a2⟩ := flat_at s (t / 3) h1
  have e : s.toArray[t / 3]! = gt s (t / 3) := by rw [gt_eq h1]; simp [h1]
  rw [e]
  have hl : t < (flat s).length := by rw [flat_len]; exact ht
  have r : (flat s).toArray[t]! = (flat s)[t] := by simp [hl]
  rw [r]
  have k : (flat s)[t]? = some (flat s)[t] := List.getElem?_eq_getElem hl
  rcases (by omega : t % 3 = 0 ∨ t % 3 = 1 ∨ t % 3 = 2) with h | h | h
  · rw [show t / 3 * 3 = t by omega, k] at a0
    rw [h]; exact (Option.some.inj a0).symm
  · rw [show t / 3 * 3 + 1 = t by omega, k] at a1
    rw [h]; exact (Option.some.inj a1).symm
  · rw [show t / 3 * 3 + 2 = t by omega, k] at a2
    rw [h]; exact (Option.some.inj a2).symm
theorem own_of_cells {w : World} {base e g c n k : Nat} {cur : Array Value} {xs : List Value} (hc : w.heap[g]? = some (.cells cur e (0, 0))) (hg : base ≤ g) (hn : n ≤ c) (hm : c ≤ maxLen) (hs : cur.size = c * k) (hl : xs.length = n * k)
    (h : ∀ p v, xs[p]? = some v → w.cell? ⟨g, p, none⟩ = some v) : w.ownsRow base e k (.slice (some ⟨g, 0, none⟩) n c) n xs := by
  refine ⟨hl, Or.inr ⟨g, c, cur, rfl, hg, hc, hn, hm, hs, ?_⟩⟩
  have hle : n * k ≤ c * k := Nat.mul_le_mul_right k hn
  refine List.ext_getElem (by rw [List.length_take, Array.length_toList]; omega) (fun p h1 h2 => ?_)
  have := h p xs[p] (List.getElem?_eq_getElem h2)
  have e2 : cur[p]? = some xs[p] := by simpa [World.cell?, hc] using this
  have h3 : p < cur.size := by omega
  rw [Array.getElem?_eq_getElem h3] at e2
  rw [List.getElem_take, Array.getElem_toList]
  exact Option.some.inj e2
theorem heap_mapBlock (w : World) (g : Nat) (f : Array Value → Array Value) {cur : Array Value} {e : TypeId} (hc : w.heap[g]? = some (.cells cur e (0, 0))) : (mapBlock w g f).heap[g]? = some (.cells (f cur) e (0, 0)) := by
  simp [mapBlock, Array.getElem?_modify, hc, onCells]
theorem heap_mapBlock_other (w : World) (g k : Nat) (f : Array Value → Array Value) (h : k ≠ g) : (mapBlock w g f).heap[k]? = w.heap[k]? := by
  simp only [mapBlock, Array.getElem?_modify]
  rw [if_neg (fun e => h e.symm)]
theorem sort_own [Inhabited Slot] {w : World} {base g c n' : Nat} {s S : List Slot} (os : Array Obj) (h : w.ownsRow base 86 3 (.slice (some ⟨g, 0, none⟩) s.length c) s.length (flat s)) (hS : S.length = s.length) :
    (sortWorldK cells3 3 w g 0 n' S.toArray os).ownsRow base 86 3 (.slice (some ⟨g, 0, none⟩) S.length c) S.length (flat S) ∧ Touch [g] w (sortWorldK cells3 3 w g 0 n' S.toArray os) := by
  obtain ⟨cur, hc, hn, hm, hs, ht, hg, hl⟩ := own_block h
  have hH : HoldsK cells3 3 w g 0 s.toArray := by
    intro j hj
    rw [flatK_flat] at hj ⊢
    simp at hj
    refine ⟨?_, own_frozen h _⟩
    rw [Nat.zero_add]
    exact own_cell h (by simp [hj])
  have hH2 := holdsK_putRowK cells3 3 (Go.Sort.ahead w n') g 0 s.toArray S.toArray (holdsK_ahead cells3 3 w n' g 0 s.toArray hH) (by simp [hS])
  have hgs : g < (putRowK cells3 3 (Go.Sort.ahead w n') g 0 S.toArray).heap.size := by
    unfold putRowK putRow mapBlock Go.Sort.ahead
    simp
    exact block_lt hc
  have hH3 := holdsK_grow cells3 3 _ os g 0 S.toArray hgs hH2
  have hb : (sortWorldK cells3 3 w g 0 n' S.toArray os).heap[g]? = some (.cells (putCells id 0 (flatK cells3 3 S.toArray) cur) 86 (0, 0)) := by
    unfold sortWorldK
    rw [heap_grow_old _ _ hgs]
    exact heap_mapBlock (Go.Sort.ahead w n') g _ hc
  refine ⟨own_of_cells hb hg (by rw [hS]; exact hn) hm ?_ (flat_len S) (fun p v hp => ?_), ?_⟩
  · rw [← hs]
    simp [putCells]
  · have hp' : p < (flat S).length := (List.getElem?_eq_some_iff.1 hp).1
    have := (hH3 p (by rw [flatK_flat]; simpa using hp')).1
    rw [Nat.zero_add, flatK_flat] at this
    unfold sortWorldK
    rw [this]
    rw [List.getElem?_eq_getElem hp'] at hp
    simp [hp', Option.some.inj hp]
  · refine ⟨rfl, rfl, rfl, ?_, fun k hk hn => ?_⟩
    · unfold sortWorldK putRowK putRow mapBlock Go.Sort.ahead; simp
    · unfold sortWorldK
      rw [heap_grow_old _ _ (by unfold putRowK putRow mapBlock Go.Sort.ahead; simp; exact hk)]
      exact heap_mapBlock_other (Go.Sort.ahead w n') g k _ (by simpa using hn)
theorem cmpLays41 [Inhabited Slot] (blk off size : Nat) (w : World) : CmpLays Try.prog 40 #[] cells3 3 cmpS blk off size w := fun _ _ _ _ x y => compare41 x y _
theorem srt_le_unique {S T : List Slot} (hp : S.Perm T) (hs : S.Pairwise leS) (ht : Srt T) : S = T := by
  refine List.Perm.eq_of_pairwise (fun a b ha hb h k => ?_) hs (List.Pairwise.imp (fun h => h.le) ht) hp
  have ha' := hp.mem_iff.1 ha
  have hb' := hb
  obtain ⟨i, hi, rfl⟩ := List.getElem_of_mem ha'
  obtain ⟨j, hj, rfl⟩ := List.getElem_of_mem hb'
  rcases Nat.lt_trichotomy i j with e | e | e
  · have := srt_at ht e hj
    rw [gt_eq hi, gt_eq hj] at this
    exact absurd k (not_le.2 this)
  · subst e; rfl
  · have := srt_at ht e hi
    rw [gt_eq hi, gt_eq hj] at this
    exact absurd h (not_le.2 this)
theorem sort40 [Inhabited Slot] (w : World) (base g c : Nat) (s S : List Slot) (h : w.ownsRow base 86 3 (.slice (some ⟨g, 0, none⟩) s.length c) s.length (flat s)) (hl : s.length ≤ 65536) (hp : s.Perm S) (hS : Srt S) :
    Calls Try.prog 39 #[.slice (some ⟨g, 0, none⟩) s.length c, .func (.func 40) #[] #[]] w fun e w' => e = .returned (.tuple #[]) ∧ w'.ownsRow base 86 3 (.slice (some ⟨g, 0, none⟩) S.length c) S.length (flat S) ∧ Touch [g] w w' := by
  have eg : ∀ args w, (callFunc 40 args).run Try.prog w = .ok (.enter 40 args) w := enters_of Try.func40 (by kernel_rfl) rfl
  have hH : HoldsK cells3 3 w g 0 s.toArray := by
    intro j hj
    rw [flatK_flat] at hj ⊢
    simp at hj
    refine ⟨?_, own_frozen h _⟩
    rw [Nat.zero_add]
    exact own_cell h (by simp [hj])
  obtain ⟨cur, hc, _⟩ := own_block h
  have hcon := AnyQ.slices_SortFunc Try.sortS 3 Try.isAgg86 Try.sizeOf86 cells3 (fun _ => rfl) (fun x v hv => by simp [cells3] at hv; rcases hv with rfl | rfl | rfl <;> rfl) cmpS swoS 40 #[] g 0 c s.toArray w eg (cmpLays41 g 0 s.toArray.size w) hH (block_lt hc) (by simp; omega)
  change Calls Try.prog 39 _ _ _ at hcon
  simp only [List.size_toArray] at hcon
  refine hcon.mono ?_
  rintro e w' ⟨he, d', n, os, hP, hSo, rfl⟩
  have e1 : d'.size = s.length := by simpa using hP.1
  have e2 : d'.toList.Perm s := by
    have := hP.2.2
    rw [Array.extract_eq_self_of_le (by omega)] at this
    simpa using this
  have e3 : d'.toList.Pairwise leS := by
    rw [List.pairwise_iff_getElem]
    intro i j hi hj hij
    have := hSo i j (Nat.zero_le _) hij (by simpa [e1] using hj)
    rw [ltOf_eq] at this
    have h1 : i < d'.size := by simpa using hi
    have h2 : j < d'.size := by simpa using hj
    rw [getElem!_pos d' i h1, getElem!_pos d' j h2] at this
    simpa using not_lt.1 (of_decide_eq_false this)
  have e4 := srt_le_unique (e2.trans hp) e3 hS
  have e5 : d' = S.toArray := by rw [← e4]
  rw [e5]
  obtain ⟨r1, r2⟩ := sort_own (n' := n) os h hp.length_eq.symm
  exact ⟨he, r1, r2⟩
end Go.Proofs.Ytaioegefoiabhaa
