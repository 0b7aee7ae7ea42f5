/- The library's SortFunc at a row of hot keys; no conditions but those that it states. -/
import Derived.Test.YtbadlkjffelkhaaXho
import Derived.Test.YtbadlkjffelkhaaXsh
import Derived.Shelf.SlSortCmp.WholeK
namespace Go.Proofs.Ytbadlkjffelkhaa.Sk
open Go.RowKit Go.Maps Go.ChangeMaps Go.Sort Go.Shelf
set_option linter.unusedVariables false
theorem ltOf_cmpH (x y : Ht) : ltOf cmpH x y = decide (cmpH x y < 0) := rfl
theorem swoH [Inhabited Ht] : SWO (ltOf cmpH) where
  irrefl x := by rw [ltOf_cmpH]; simp [cmpH, cmpK_self]
  trans x y z h1 h2 := by
    rw [ltOf_cmpH] at h1 h2 ⊢
    have a1 := (cmpH_lt _ _).1 (of_decide_eq_true h1)
    have a2 := (cmpH_lt _ _).1 (of_decide_eq_true h2)
    refine decide_eq_true ((cmpH_lt _ _).2 ?_)
    rcases a1 with a1 | ⟨e1, a1⟩
    · rcases a2 with a2 | ⟨e2, a2⟩
      · exact Or.inl (by omega)
      · exact Or.inl (by omega)
    · rcases a2 with a2 | ⟨e2, a2⟩
      · exact Or.inl (by omega)
      · exact Or.inr ⟨by omega, cmpK_lt_trans a1 a2⟩
  ntrans x y z h1 h2 := by
    rw [ltOf_cmpH] at h1 h2 ⊢
    have a1 := fun h => of_decide_eq_false h1 ((cmpH_lt _ _).2 h)
    have a2 := fun h => of_decide_eq_false h2 ((cmpH_lt _ _).2 h)
    refine decide_eq_false (fun h => ?_)
    rcases (cmpH_lt _ _).1 h with h | ⟨e, h⟩
    · by_cases q : y.n < x.n
      · exact a1 (Or.inl q)
      · exact a2 (Or.inl (by omega))
    · have b1 : ¬ y.n < x.n := fun q => a1 (Or.inl q)
      have b2 : ¬ z.n < y.n := fun q => a2 (Or.inl q)
      have e1 : y.n = x.n := by omega
      have e2 : z.n = y.n := by omega
      exact cmpK_nlt_trans (fun q => a1 (Or.inr ⟨e1, q⟩)) (fun q => a2 (Or.inr ⟨e2, q⟩)) h
theorem flatK_rowH [Inhabited Ht] (s : List Ht) : flatK rowH 3 s.toArray = (s.flatMap rowH).toArray := by
  refine ext_get! (by simp [Go.Proofs.Ytbadlkjffelkhaa.flat_len rowH_len]) (fun t ht => ?_)
  simp at ht
  rw [get_flatK _ _ _ _ (by simpa using ht)]
  have h1 : t / 3 < s.length := by omega
  have h2 := Go.Proofs.Ytbadlkjffelkhaa.flat_at rowH_len s (t / 3) (t % 3) s[t / 3] (List.getElem?_eq_getElem h1) (by omega)
  rw [show t / 3 * 3 + t % 3 = t by omega] at h2
  have hl : t < (s.flatMap rowH).length := by rw [Go.Proofs.Ytbadlkjffelkhaa.flat_len rowH_len]; exact ht
  have e1 : s.toArray[t / 3]! = s[t / 3] := by simp [h1]
  have r : (s.flatMap rowH).toArray[t]! = (s.flatMap rowH)[t] := by rw [getElem!_pos _ t (by simpa using hl)]; simp
  rw [e1, r]
  rw [List.getElem?_eq_getElem hl, List.getElem?_eq_getElem (by rw [rowH_len]; omega)] at h2
  rw [Option.some.inj h2]
  exact getElem!_pos _ _ (by rw [rowH_len]; omega)
theorem heap_mapBlock (w : World) (g : Nat) (f : Array Value → Array Value) {cur : Array Value} {e : TypeId} (hc : w.heap[g]? = some (.cells cur e (0, 0))) : (mapBlock w g f).heap[g]? = some (.cells (f cur) e (0, 0)) := by
  simp [mapBlock, Array.getElem?_modify, hc, onCells]
theorem heap_mapBlock_other (w : World) (g k : Nat) (f : Array Value → Array Value) (h : k ≠ g) : (mapBlock w g f).heap[k]? = w.heap[k]? := by
  simp only [mapBlock, Array.getElem?_modify]
  rw [if_neg (fun e => h e.symm)]
theorem own_blk {w : World} {base e g c n k : Nat} {xs : List Value} (h : w.ownsRow base e k (.slice (some ⟨g, 0, none⟩) n c) n xs) :
    ∃ cur, w.heap[g]? = some (.cells cur e (0, 0)) ∧ n ≤ c ∧ c ≤ maxLen ∧ cur.size = c * k ∧ base ≤ g ∧ xs.length = n * k := by
  obtain ⟨h1, h2 | ⟨g', cap', cur, hv, hg, hc, hn, hm, hs, ht⟩⟩ := h
  · cases h2.1
  · simp only [Value.slice.injEq, Option.some.injEq, Addr.mk.injEq, and_true, true_and] at hv
    obtain ⟨rfl, rfl⟩ := hv
    exact ⟨cur, hc, hn, hm, hs, hg, h1⟩
theorem holds_rowH [Inhabited Ht] {w : World} {base g c : Nat} {s : List Ht} (h : w.ownsRow base 60 3 (.slice (some ⟨g, 0, none⟩) s.length c) s.length (s.flatMap rowH)) : HoldsK rowH 3 w g 0 s.toArray := by
  obtain ⟨cur, hc, _⟩ := own_blk h
  intro j hj
  rw [flatK_rowH] at hj ⊢
  simp only [List.size_toArray] at hj
  refine ⟨?_, froz_at hc _⟩
  rw [Nat.zero_add, getElem!_pos _ j (by simpa using hj)]
  exact own_cell h (by simp [List.getElem?_eq_getElem hj])
theorem sort_own [Inhabited Ht] {w : World} {base g c n' : Nat} {s S : List Ht} (os : Array Obj) (h : w.ownsRow base 60 3 (.slice (some ⟨g, 0, none⟩) s.length c) s.length (s.flatMap rowH)) (hS : S.length = s.length) :
    (sortWorldK rowH 3 w g 0 n' S.toArray os).ownsRow base 60 3 (.slice (some ⟨g, 0, none⟩) S.length c) S.length (S.flatMap rowH) ∧ Touch [g] w (sortWorldK rowH 3 w g 0 n' S.toArray os) := by
  obtain ⟨cur, hc, hn, hm, hs, hg, hl⟩ := own_blk h
  have hH := holds_rowH h
  have hH2 := holdsK_putRowK rowH 3 (Go.Sort.ahead w n') g 0 s.toArray S.toArray (holdsK_ahead rowH 3 w n' g 0 s.toArray hH) (by simp [hS])
  have hgs : g < (putRowK rowH 3 (Go.Sort.ahead w n') g 0 S.toArray).heap.size := by
    unfold putRowK putRow mapBlock Go.Sort.ahead
    simp
    exact block_lt hc
  have hH3 := holdsK_grow rowH 3 _ os g 0 S.toArray hgs hH2
  have hb : (sortWorldK rowH 3 w g 0 n' S.toArray os).heap[g]? = some (.cells (putCells id 0 (flatK rowH 3 S.toArray) cur) 60 (0, 0)) := by
    unfold sortWorldK
    rw [heap_grow_old _ _ hgs]
    exact heap_mapBlock (Go.Sort.ahead w n') g _ hc
  refine ⟨own_of_cells hb hg (by rw [hS]; exact hn) hm ?_ (Go.Proofs.Ytbadlkjffelkhaa.flat_len rowH_len S) (fun p v hp => ?_), ?_⟩
  · rw [← hs]
    simp [putCells]
  · have hp' : p < (S.flatMap rowH).length := (List.getElem?_eq_some_iff.1 hp).1
    have := (hH3 p (by rw [flatK_rowH]; simpa using hp')).1
    rw [Nat.zero_add, flatK_rowH] at this
    unfold sortWorldK
    rw [this]
    rw [List.getElem?_eq_getElem hp'] at hp
    rw [getElem!_pos _ p (by simpa using hp')]
    simp [Option.some.inj hp]
  · refine ⟨rfl, rfl, rfl, ?_, fun k hk hn => ?_⟩
    · unfold sortWorldK putRowK putRow mapBlock Go.Sort.ahead; simp
    · unfold sortWorldK
      rw [heap_grow_old _ _ (by unfold putRowK putRow mapBlock Go.Sort.ahead; simp; exact hk)]
      exact heap_mapBlock_other (Go.Sort.ahead w n') g k _ (by simpa using hn)
theorem cmpLaysH [Inhabited Ht] (blk off size : Nat) (w : World) : CmpLays Try.prog 39 #[] rowH 3 cmpH blk off size w := fun _ _ _ _ x y => hcmp_ x y _
theorem sortH [Inhabited Ht] (w : World) (base g c : Nat) (s : List Ht) (h : w.ownsRow base 60 3 (.slice (some ⟨g, 0, none⟩) s.length c) s.length (s.flatMap rowH)) (hl : s.length ≤ 5864062014635) :
    Calls Try.prog 38 #[.slice (some ⟨g, 0, none⟩) s.length c, .func (.func 39) #[] #[]] w fun e w' => ∃ S : List Ht, e = .returned (.tuple #[]) ∧ S.Perm s ∧ S.Pairwise leH ∧ w'.ownsRow base 60 3 (.slice (some ⟨g, 0, none⟩) S.length c) S.length (S.flatMap rowH) ∧ Touch [g] w w' := by
  have eg : ∀ args w, (callFunc 39 args).run Try.prog w = .ok (.enter 39 args) w := enters_of Try.func39 (by kernel_rfl) rfl
  have hH := holds_rowH h
  obtain ⟨cur, hc, _⟩ := own_blk h
  have hcon := AnyQ.slices_SortFunc Try.sortS 3 Try.isAgg60 Try.sizeOf60 rowH (fun _ => rfl) (fun x v hv => by simp [rowH] at hv; rcases hv with rfl | rfl | rfl <;> rfl) cmpH swoH 39 #[] g 0 c s.toArray w eg (cmpLaysH g 0 s.toArray.size w) hH (block_lt hc) (by simp; omega)
  change Calls Try.prog 38 _ _ _ at hcon
  simp only [List.size_toArray] at hcon
  refine hcon.mono ?_
  rintro e w' ⟨he, d', n, os, hP, hSo, rfl⟩
  have e1 : d'.size = s.length := by simpa using hP.1
  have e2 : d'.toList.Perm s := by
    have := hP.2.2
    rw [Array.extract_eq_self_of_le (by omega)] at this
    simpa using this
  have e3 : d'.toList.Pairwise leH := by
    rw [List.pairwise_iff_getElem]
    intro i j hi hj hij
    have := hSo i j (Nat.zero_le _) hij (by simpa [e1] using hj)
    rw [ltOf_cmpH] at this
    have h1 : i < d'.size := by simpa using hi
    have h2 : j < d'.size := by simpa using hj
    rw [getElem!_pos d' i h1, getElem!_pos d' j h2] at this
    have hq : leH d'[i] d'[j] := of_decide_eq_false this
    simpa using hq
  obtain ⟨r1, r2⟩ := sort_own (S := d'.toList) (n' := n) os h (by simpa using e1)
  exact ⟨d'.toList, he, e2, e3, r1, r2⟩
end Go.Proofs.Ytbadlkjffelkhaa.Sk
