/- Stretches as plain rows; their order; the contract of the library's SortFunc at them; no conditions but those that each states. -/
import Derived.Test.YtibgfkjhohgkhaaRsl
import Derived.Test.YtibgfkjhohgkhaaTwz
import Derived.Test.YtibgfkjhohgkhaaXun
import Derived.Shelf.SlSortCmp.WholeK
namespace Go.Proofs.Ytibgfkjhohgkhaa.Ty
open Go.RowKit Go.Maps Go.ChangeMaps Go.Sort Go.Shelf
set_option linter.unusedVariables false
set_option linter.unusedSimpArgs false
structure Q4 where
  fr : Int
  jo : Int
  be : Int
  en : Int
def row4 (q : Q4) : List Value := [.int .i64 q.fr, .int .i64 q.jo, .int .i64 q.be, .int .i64 q.en]
def q4v (q : Q4) : Value := .agg #[.int .i64 q.fr, .int .i64 q.jo, .int .i64 q.be, .int .i64 q.en]
theorem row4_len (q : Q4) : (row4 q).length = 4 := rfl
theorem row4_one (q : Q4) : ∀ y ∈ row4 q, y.oneCell' = true := fun y hy => by
  simp only [row4, List.mem_cons, List.not_mem_nil, or_false] at hy
  rcases hy with rfl | rfl | rfl | rfl <;> rfl
def cmpI (x y : Int) : Int := if x < y then -1 else if y < x then 1 else 0
def cmpQ (x y : Q4) : Int := cmpI x.fr y.fr
def leQ (x y : Q4) : Prop := x.fr ≤ y.fr
theorem cmpI_lt (x y : Int) : cmpI x y < 0 ↔ x < y := by
  unfold cmpI
  split
  · omega
  · split <;> omega
theorem ltOf_cmpQ (x y : Q4) : ltOf cmpQ x y = decide (x.fr < y.fr) := by
  show decide (cmpQ x y < 0) = _
  exact decide_eq_decide.2 (cmpI_lt _ _)
theorem swoQ [Inhabited Q4] : SWO (ltOf cmpQ) where
  irrefl x := by rw [ltOf_cmpQ]; simp
  trans x y z h1 h2 := by
    rw [ltOf_cmpQ] at h1 h2 ⊢
    have a1 := of_decide_eq_true h1
    have a2 := of_decide_eq_true h2
    exact decide_eq_true (by omega)
  ntrans x y z h1 h2 := by
    rw [ltOf_cmpQ] at h1 h2 ⊢
    have a1 := of_decide_eq_false h1
    have a2 := of_decide_eq_false h2
    exact decide_eq_false (by omega)
theorem nan49 (x : Int) (w : World) : Calls Try.prog 49 #[.int .i64 x] w fun e w' => e = .returned (.bool false) ∧ w' = w := by
  go_enter Try.func49, Try.ntmps49
  go_wp2
  go_ret
  exact ⟨rfl, rfl⟩
theorem cmp37 (x y : Int) (w : World) : Calls Try.prog 37 #[.int .i64 x, .int .i64 y] w fun e w' => e = .returned (.int .i64 (cmpI x y)) ∧ w' = w := by
  have HN := hid nan49
  have hc : (x < y ∧ cmpI x y = -1) ∨ (¬ x < y ∧ y < x ∧ cmpI x y = 1) ∨ (¬ x < y ∧ ¬ y < x ∧ cmpI x y = 0) := by
    unfold cmpI
    by_cases h : x < y
    · exact Or.inl ⟨h, if_pos h⟩
    · by_cases h2 : y < x
      · exact Or.inr (Or.inl ⟨h, h2, by rw [if_neg h, if_pos h2]⟩)
      · exact Or.inr (Or.inr ⟨h, h2, by rw [if_neg h, if_neg h2]⟩)
  rcases hc with ⟨h1, e⟩ | ⟨h1, h2, e⟩ | ⟨h1, h2, e⟩
  all_goals (
    rw [e]
    clear e
    go_enter Try.func37, Try.ntmps37
    go_wp2_with (go_at_call 49; refine (HN.out _ _).mono ?_; rintro e w' ⟨rfl, hw'⟩; subst w')
    go_ret
    exact ⟨rfl, rfl⟩)
theorem rcmpQ (x y : Q4) (w : World) : Calls Try.prog 36 #[q4v x, q4v y] w fun e w' => e = .returned (.int .i64 (cmpQ x y)) ∧ Un.Gr w w' := by
  unfold q4v cmpQ
  have HC := hid (fun w => cmp37 x.fr y.fr w)
  generalize cmpI x.fr y.fr = cv at *
  go_enter Try.func36, Try.ntmps36
  go_wp2_with (go_at_call 37; refine (HC.out _).mono ?_; rintro e w2 ⟨rfl, hw'⟩; subst w2)
  go_ret
  exact ⟨rfl, ((Un.Gr.refl _).alloc _).alloc _⟩
theorem flatK_row4 [Inhabited Q4] (s : List Q4) : flatK row4 4 s.toArray = (s.flatMap row4).toArray := by
  refine ext_get! (by simp [flat_len row4_len]) (fun t ht => ?_)
  simp at ht
  rw [get_flatK _ _ _ _ (by simpa using ht)]
  have h1 : t / 4 < s.length := by omega
  have h2 := flat_at row4_len s (t / 4) (t % 4) s[t / 4] (List.getElem?_eq_getElem h1) (by omega)
  rw [show t / 4 * 4 + t % 4 = t by omega] at h2
  have hl : t < (s.flatMap row4).length := by rw [flat_len row4_len]; exact ht
  have e1 : s.toArray[t / 4]! = s[t / 4] := by simp [h1]
  have r : (s.flatMap row4).toArray[t]! = (s.flatMap row4)[t] := by rw [getElem!_pos _ t (by simpa using hl)]; simp
  rw [e1, r]
  rw [List.getElem?_eq_getElem hl, List.getElem?_eq_getElem (by rw [row4_len]; omega)] at h2
  rw [Option.some.inj h2]
  exact getElem!_pos _ _ (by rw [row4_len]; omega)
theorem heap_mapBlock (w : World) (g : Nat) (f : Array Value → Array Value) {cur : Array Value} {e : TypeId} (hc : w.heap[g]? = some (.cells cur e (0, 0))) : (mapBlock w g f).heap[g]? = some (.cells (f cur) e (0, 0)) := by
  simp [mapBlock, Array.getElem?_modify, hc, onCells]
theorem heap_mapBlock_other (w : World) (g k : Nat) (f : Array Value → Array Value) (h : k ≠ g) : (mapBlock w g f).heap[k]? = w.heap[k]? := by
  simp only [mapBlock, Array.getElem?_modify]
  rw [if_neg (fun e => h e.symm)]
theorem own_blk {w : World} {base e g c n k : Nat} {xs : List Value} (h : w.ownsRow base e k (.slice (some ⟨g, 0, none⟩) n c) n xs) :
    ∃ cur, w.heap[g]? = some (.cells cur e (0, 0)) ∧ n ≤ c ∧ c ≤ maxLen ∧ cur.size = c * k ∧ base ≤ g ∧ xs.length = n * k := by
  obtain ⟨h1, h2 | ⟨g', cap', cur, hv, hg, hc, hn, hm, hs, ht⟩⟩ := h
  · cases h2.1
  · simp only [Value.slice.injEq, Option.some.injEq, Addr.mk.injEq, and_true, true_and] at hv
    obtain ⟨rfl, rfl⟩ := hv
    exact ⟨cur, hc, hn, hm, hs, hg, h1⟩
theorem holds_row4 [Inhabited Q4] {w : World} {base g c : Nat} {s : List Q4} (h : w.ownsRow base 50 4 (.slice (some ⟨g, 0, none⟩) s.length c) s.length (s.flatMap row4)) : HoldsK row4 4 w g 0 s.toArray := by
  obtain ⟨cur, hc, _⟩ := own_blk h
  intro j hj
  rw [flatK_row4] at hj ⊢
  simp only [List.size_toArray] at hj
  refine ⟨?_, froz_at hc _⟩
  rw [Nat.zero_add, getElem!_pos _ j (by simpa using hj)]
  exact own_cell h (by simp [List.getElem?_eq_getElem hj])
theorem sort_own [Inhabited Q4] {w : World} {base g c n' : Nat} {s S : List Q4} (os : Array Obj) (h : w.ownsRow base 50 4 (.slice (some ⟨g, 0, none⟩) s.length c) s.length (s.flatMap row4)) (hS : S.length = s.length) :
    (sortWorldK row4 4 w g 0 n' S.toArray os).ownsRow base 50 4 (.slice (some ⟨g, 0, none⟩) S.length c) S.length (S.flatMap row4) ∧ Touch [g] w (sortWorldK row4 4 w g 0 n' S.toArray os) := by
  obtain ⟨cur, hc, hn, hm, hs, hg, hl⟩ := own_blk h
  have hH := holds_row4 h
  have hH2 := holdsK_putRowK row4 4 (Go.Sort.ahead w n') g 0 s.toArray S.toArray (holdsK_ahead row4 4 w n' g 0 s.toArray hH) (by simp [hS])
  have hgs : g < (putRowK row4 4 (Go.Sort.ahead w n') g 0 S.toArray).heap.size := by
    unfold putRowK putRow mapBlock Go.Sort.ahead
    simp
    exact block_lt hc
  have hH3 := holdsK_grow row4 4 _ os g 0 S.toArray hgs hH2
  have hb : (sortWorldK row4 4 w g 0 n' S.toArray os).heap[g]? = some (.cells (putCells id 0 (flatK row4 4 S.toArray) cur) 50 (0, 0)) := by
    unfold sortWorldK
    rw [heap_grow_old _ _ hgs]
    exact heap_mapBlock (Go.Sort.ahead w n') g _ hc
  refine ⟨own_of_cells hb hg (by rw [hS]; exact hn) hm ?_ (flat_len row4_len S) (fun p v hp => ?_), ?_⟩
  · rw [← hs]
    simp [putCells]
  · have hp' : p < (S.flatMap row4).length := (List.getElem?_eq_some_iff.1 hp).1
    have := (hH3 p (by rw [flatK_row4]; simpa using hp')).1
    rw [Nat.zero_add, flatK_row4] at this
    unfold sortWorldK
    rw [this]
    rw [List.getElem?_eq_getElem hp'] at hp
    rw [getElem!_pos _ p (by simpa using hp')]
    simp [Option.some.inj hp]
  · refine ⟨rfl, rfl, rfl, ?_, fun k hk hn => ?_⟩
    · unfold sortWorldK putRowK putRow mapBlock Go.Sort.ahead; simp
    · unfold sortWorldK
      rw [heap_grow_old _ _ (by unfold putRowK putRow mapBlock Go.Sort.ahead; simp; exact hk)]
      exact heap_mapBlock_other (Go.Sort.ahead w n') g k _ (by simpa using hn)
theorem cmpLaysQ [Inhabited Q4] (blk off size : Nat) (w : World) : CmpLays Try.prog 36 #[] row4 4 cmpQ blk off size w := fun _ _ _ _ x y => rcmpQ x y _
theorem sortQ [Inhabited Q4] (w : World) (base g c : Nat) (s : List Q4) (h : w.ownsRow base 50 4 (.slice (some ⟨g, 0, none⟩) s.length c) s.length (s.flatMap row4)) (hl : s.length ≤ 3000000000000) :
    Calls Try.prog 35 #[.slice (some ⟨g, 0, none⟩) s.length c, .func (.func 36) #[] #[]] w fun e w' => ∃ S : List Q4, e = .returned (.tuple #[]) ∧ S.Perm s ∧ S.Pairwise leQ ∧ w'.ownsRow base 50 4 (.slice (some ⟨g, 0, none⟩) S.length c) S.length (S.flatMap row4) ∧ Touch [g] w w' := by
  have eg : ∀ args w, (callFunc 36 args).run Try.prog w = .ok (.enter 36 args) w := enters_of Try.func36 (by kernel_rfl) rfl
  have hH := holds_row4 h
  obtain ⟨cur, hc, _⟩ := own_blk h
  have hcon := AnyQ.slices_SortFunc Try.sortS 4 Try.isAgg50 Try.sizeOf50 row4 (fun _ => rfl) (fun x v hv => by simp [row4] at hv; rcases hv with rfl | rfl | rfl | rfl <;> rfl) cmpQ swoQ 36 #[] g 0 c s.toArray w eg (cmpLaysQ g 0 s.toArray.size w) hH (block_lt hc) (by simp; omega)
  change Calls Try.prog 35 _ _ _ at hcon
  simp only [List.size_toArray] at hcon
  refine hcon.mono ?_
  rintro e w' ⟨he, d', n, os, hP, hSo, rfl⟩
  have e1 : d'.size = s.length := by simpa using hP.1
  have e2 : d'.toList.Perm s := by
    have := hP.2.2
    rw [Array.extract_eq_self_of_le (by omega)] at this
    simpa using this
  have e3 : d'.toList.Pairwise leQ := by
    rw [List.pairwise_iff_getElem]
    intro i j hi hj hij
    have := hSo i j (Nat.zero_le _) hij (by simpa [e1] using hj)
    rw [ltOf_cmpQ] at this
    have h1 : i < d'.size := by simpa using hi
    have h2 : j < d'.size := by simpa using hj
    rw [getElem!_pos d' i h1, getElem!_pos d' j h2] at this
    have hq : leQ d'[i] d'[j] := Int.not_lt.1 (of_decide_eq_false this)
    simpa using hq
  obtain ⟨r1, r2⟩ := sort_own (S := d'.toList) (n' := n) os h (by simpa using e1)
  exact ⟨d'.toList, he, e2, e3, r1, r2⟩
end Go.Proofs.Ytibgfkjhohgkhaa.Ty
