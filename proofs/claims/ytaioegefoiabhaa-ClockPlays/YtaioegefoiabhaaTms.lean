/- A queue by time as a sorted list: the contracts of Len, Next, At, Take, Drop and Put. -/
import Derived.Test.YtaioegefoiabhaaHep
import Derived.Test.YtaioegefoiabhaaSrt
namespace Go.Proofs.Ytaioegefoiabhaa
open Go.RowKit Go.Maps Go.ChangeMaps
set_option linter.unusedVariables false
structure TM (w : World) (q : Nat) (sl : Value) (m : Option Nat) (p : Int) (S : List Slot) : Prop where
  ex : ∃ s, HQ w q sl m p s ∧ Heap s.length s ∧ s.Perm S
  srt : Srt S
  lo : ∀ x ∈ S, x.put < p
  p0 : 0 ≤ p
  tk : ∀ x ∈ S, 0 ≤ x.at_ ∧ x.at_ ≤ 4611686018427387904
/-- The blocks of a queue by time are F. -/
def Tq (w : World) (q : Nat) (F : List Nat) (p : Int) (S : List Slot) : Prop := ∃ sl m, F = fq q sl m ∧ TM w q sl m p S
def Nf (w : World) (F G : List Nat) : Prop := ∀ k, k ∈ G → k ∈ F ∨ w.heap.size ≤ k
theorem Nf.refl (w : World) (F : List Nat) : Nf w F F := fun _ h => Or.inl h
theorem Tq.len {w : World} {q : Nat} {F : List Nat} {p : Int} {S : List Slot} (h : Tq w q F p S) : S.length ≤ 65536 := by
  obtain ⟨sl, m, _, ⟨s, h1, h2, h3⟩, _⟩ := h
  rw [← h3.length_eq]; exact h1.le
theorem Tq.nd {w : World} {q : Nat} {F : List Nat} {p : Int} {S : List Slot} (h : Tq w q F p S) : Nd S := by
  obtain ⟨sl, m, _, ⟨s, h1, h2, h3⟩, _⟩ := h
  exact nd_perm h1.nd h3.symm
theorem Tq.wf {w : World} {q : Nat} {F : List Nat} {p : Int} {S : List Slot} (h : Tq w q F p S) : WfS S := by
  obtain ⟨sl, m, _, ⟨s, h1, h2, h3⟩, _⟩ := h
  exact wf_perm h1.wf h3.symm
theorem Tq.srt {w : World} {q : Nat} {F : List Nat} {p : Int} {S : List Slot} (h : Tq w q F p S) : Srt S := by
  obtain ⟨sl, m, _, t⟩ := h
  exact t.srt
theorem Tq.tk {w : World} {q : Nat} {F : List Nat} {p : Int} {S : List Slot} (h : Tq w q F p S) : ∀ x ∈ S, 0 ≤ x.at_ ∧ x.at_ ≤ 4611686018427387904 := by
  obtain ⟨sl, m, _, t⟩ := h
  exact t.tk
theorem Tq.keep {G : List Nat} {w w' : World} {q : Nat} {F : List Nat} {p : Int} {S : List Slot} (h : Tq w q F p S) (ht : Touch G w w') (hn : ∀ k, k ∈ F → ¬ k ∈ G) : Tq w' q F p S := by
  obtain ⟨sl, m, rfl, t⟩ := h
  obtain ⟨s, h1, h2, h3⟩ := t.ex
  exact ⟨sl, m, rfl, ⟨s, h1.keep ht hn, h2, h3⟩, t.srt, t.lo, t.p0, t.tk⟩
theorem Tq.keep0 {w w' : World} {q : Nat} {F : List Nat} {p : Int} {S : List Slot} (h : Tq w q F p S) (ht : Touch [] w w') : Tq w' q F p S := h.keep ht (fun _ _ e => by cases e)
theorem HQ.lt {w : World} {q : Nat} {sl : Value} {m : Option Nat} {p : Int} {s : List Slot} (h : HQ w q sl m p s) : ∀ k, k ∈ fq q sl m → k < w.heap.size := fun k hk => by
  simp [fq] at hk
  rcases hk with rfl | hk | hk
  · exact block_lt h.hc
  · exact (h.row.lt k hk).2
  · rcases h.mp with ⟨rfl, _⟩ | ⟨b, rfl, hm⟩
    · cases hk
    · cases hk; exact hm.lt
theorem Tq.lt {w : World} {q : Nat} {F : List Nat} {p : Int} {S : List Slot} (h : Tq w q F p S) : ∀ k, k ∈ F → k < w.heap.size := by
  obtain ⟨sl, m, rfl, ⟨s, h1, _⟩, _⟩ := h
  exact h1.lt
theorem slot_eq {S : List Slot} (h : Nd S) {x y : Slot} (hx : x ∈ S) (hy : y ∈ S) (e : x.item = y.item) : x = y := by
  obtain ⟨i, hi, rfl⟩ := List.getElem_of_mem hx
  obtain ⟨j, hj, rfl⟩ := List.getElem_of_mem hy
  have := nd_at h hi hj (by rw [gt_eq hi, gt_eq hj]; exact e)
  subst this; rfl
theorem idx_perm {s S : List Slot} (h : Nd S) (hp : s.Perm S) (k : Int) : (idx s k).isSome = (idx S k).isSome ∧ ∀ i a, idx s k = some i → idx S k = some a → gt s i = gt S a := by
  refine ⟨?_, fun i a hi ha => ?_⟩
  · cases e : idx s k with
    | none =>
      rw [idx_none] at e
      have : idx S k = none := idx_none.2 (fun x hx => e x (hp.mem_iff.2 hx))
      rw [this]
    | some i =>
      obtain ⟨h1, h2⟩ := idx_some e
      cases e2 : idx S k with
      | none =>
        rw [idx_none] at e2
        exact absurd h2 (e2 _ (hp.mem_iff.1 (gt_mem h1)))
      | some a => rfl
  · obtain ⟨h1, h2⟩ := idx_some hi
    obtain ⟨h3, h4⟩ := idx_some ha
    exact slot_eq h (hp.mem_iff.1 (gt_mem h1)) (gt_mem h3) (by rw [h2, h4])
theorem len26 (w : World) (q : Nat) (F : List Nat) (p : Int) (S : List Slot) (h : Tq w q F p S) :
    Calls Try.prog 25 #[PT q] w fun e w' => e = .returned (.int .i64 S.length) ∧ w' = w := by
  obtain ⟨sl, m, rfl, ⟨s, h1, h2, h3⟩, _⟩ := h
  rw [← h3.length_eq]
  have c0 := h1.hc.c0
  obtain ⟨a, c, rfl⟩ := own_form h1.row
  clear h1 h2 h3
  unfold PT
  go_enter Try.func25, Try.ntmps25
  go_wp2
  go_ret
  exact ⟨rfl, rfl⟩
theorem next27_nil (w : World) (q : Nat) (F : List Nat) (p : Int) (h : Tq w q F p []) :
    Calls Try.prog 35 #[PT q] w fun e w' => e = .returned (.tuple #[.int .i64 0, .int .i64 0, .bool false]) ∧ w' = w := by
  have HL := hid (len26 w q F p [] h)
  clear h
  unfold PT at *
  go_enter Try.func35, Try.ntmps35
  go_wp2_with (go_at_call 25; refine HL.out.mono ?_; rintro e w2 ⟨rfl, rfl⟩)
  exact bodyPost_ret (v := .tuple #[.int .i64 0, .int .i64 0, .bool false]) (by simp [results, Try.results35, go_sem]) rfl ⟨rfl, rfl⟩
set_option maxHeartbeats 1000000 in
theorem next27_cons (w : World) (q : Nat) (F : List Nat) (p : Int) (x : Slot) (S : List Slot) (h : Tq w q F p (x :: S)) :
    Calls Try.prog 35 #[PT q] w fun e w' => e = .returned (.tuple #[.int .i64 x.at_, .int .i64 x.item, .bool true]) ∧ Touch [] w w' := by
  have hle := h.len
  obtain ⟨n, hn⟩ : ∃ n, n = (x :: S).length := ⟨_, rfl⟩
  have HL := hid (len26 w q F p _ h)
  obtain ⟨sl, m, rfl, ⟨s, h1, h2, h3⟩, r⟩ := h
  have hl := h3.length_eq
  have hs0 : 0 < s.length := by rw [hl]; simp
  have hg := heap_head h3 h2 r (by simp)
  rw [gt_zero_cons] at hg
  obtain ⟨g, c, rfl⟩ := h1.slice hs0
  obtain ⟨x0, x1, x2⟩ := flat_at s 0 hs0
  rw [hg] at x0 x1 x2
  have a0 := own_cell h1.row x0
  have a1 := own_cell h1.row x1
  have a2 := own_cell h1.row x2
  have c0 := h1.hc.c0
  rw [hl, ← hn] at c0
  rw [← hn] at HL
  have hn0 : 0 < n := by rw [hn]; simp
  have zn : (0 : Int) < (n : Int) := by omega
  have zn2 : (n : Int) ≤ 65536 := by omega
  have zne : ((n : Int) == 0) = false := by simp; omega
  simp only [Nat.zero_mul, Nat.zero_add] at a0 a1 a2
  clear h1 h2 h3 r hn x0 x1 x2 hle hl hs0 hg hn0
  unfold PT at *
  go_enter Try.func35, Try.ntmps35
  go_wp2_with (go_at_call 25; refine HL.out.mono ?_; rintro e w2 ⟨rfl, rfl⟩)
  go_region
  go_wp2
  refine bodyPost_ret (v := .tuple #[.int .i64 x.at_, .int .i64 x.item, .bool true]) (by simp [results, Try.results35, go_sem]) rfl ⟨rfl, ?_⟩
  exact ((Touch.refl _ _).alloc _).drew
def isT (t : Int) : Bool := decide (0 ≤ t ∧ t ≤ 4611686018427387904)
theorem isT_yes {t : Int} (h : 0 ≤ t ∧ t ≤ 4611686018427387904) : isT t = true := decide_eq_true h
theorem isT_no {t : Int} (h : ¬ (0 ≤ t ∧ t ≤ 4611686018427387904)) : isT t = false := decide_eq_false h
theorem ret_bool {a b : Bool} (h : a = b) : Ending.returned (.bool a) = .returned (.bool b) := by rw [h]
theorem is37 (t : Int) (w : World) : Calls Try.prog 24 #[.int .i64 t] w fun e w' => e = .returned (.bool (isT t)) ∧ w' = w := by
  by_cases h : 0 ≤ t
  · by_cases h2 : t ≤ 4611686018427387904
    · have HI := hid (isT_yes ⟨h, h2⟩)
      go_enter Try.func24, Try.ntmps24
      go_wp2
      go_ret
      exact ⟨ret_bool HI.out.symm, rfl⟩
    · have HI := hid (isT_no (t := t) (by omega))
      go_enter Try.func24, Try.ntmps24
      go_wp2
      go_ret
      exact ⟨ret_bool HI.out.symm, rfl⟩
  · have HI := hid (isT_no (t := t) (by omega))
    go_enter Try.func24, Try.ntmps24
    go_wp2
    go_ret
    exact ⟨ret_bool HI.out.symm, rfl⟩
def atV (S : List Slot) (k : Int) : Value := match idx S k with
  | some a => .tuple #[.int .i64 (gt S a).at_, .bool true]
  | none => .tuple #[.int .i64 0, .bool false]
set_option maxHeartbeats 1000000 in
theorem at29_none (w : World) (q : Nat) (F : List Nat) (p : Int) (S : List Slot) (k : Int) (hk : W64 k) (h : Tq w q F p S) (hi : idx S k = none) :
    Calls Try.prog 36 #[PT q, .int .i64 k] w fun e w' => e = .returned (.tuple #[.int .i64 0, .bool false]) ∧ w' = w := by
  have nd := h.nd
  obtain ⟨sl, m, rfl, ⟨s, h1, h2, h3⟩, r⟩ := h
  have e1 := (idx_perm nd h3 k).1
  rw [hi] at e1
  have e2 : pmap s k = none := by
    unfold pmap
    cases h : idx s k with
    | none => rfl
    | some i => rw [h] at e1; cases e1
  have c1 := h1.hc.c1
  rcases h1.mp with ⟨rfl, rfl⟩ | ⟨b, rfl, hm⟩
  · have hl := Maps.look_nil (P := Try.prog) (w := w) true keyed3 Try.underlying79 (zero3 w) (key3 hk)
    simp only [if_true] at hl
    clear h1 h2 h3 r nd hi e1 e2
    unfold PT
    go_enter Try.func36, Try.ntmps36
    go_wp2
    exact bodyPost_ret (v := .tuple #[.int .i64 0, .bool false]) (by simp [results, Try.results36, go_sem]) rfl ⟨rfl, rfl⟩
  · have hl := hm.lookOk (t := 79) Try.underlying79 (zero3 w) hk
    rw [e2] at hl
    simp only [Option.getD_none, Option.isSome_none] at hl
    clear h1 h2 h3 r nd hi e1 e2 hm
    unfold PT
    go_enter Try.func36, Try.ntmps36
    go_wp2
    exact bodyPost_ret (v := .tuple #[.int .i64 0, .bool false]) (by simp [results, Try.results36, go_sem]) rfl ⟨rfl, rfl⟩
set_option maxHeartbeats 1000000 in
theorem at29_some (w : World) (q : Nat) (F : List Nat) (p : Int) (S : List Slot) (k : Int) (a : Nat) (hk : W64 k) (h : Tq w q F p S) (hi : idx S k = some a) :
    Calls Try.prog 36 #[PT q, .int .i64 k] w fun e w' => e = .returned (.tuple #[.int .i64 (gt S a).at_, .bool true]) ∧ w' = w := by
  have nd := h.nd
  obtain ⟨sl, m, rfl, ⟨s, h1, h2, h3⟩, r⟩ := h
  obtain ⟨e1, e2⟩ := idx_perm nd h3 k
  rw [hi] at e1
  obtain ⟨i, e3⟩ : ∃ i, idx s k = some i := by
    cases h : idx s k with
    | none => rw [h] at e1; cases e1
    | some i => exact ⟨i, rfl⟩
  have e4 := e2 i a e3 hi
  obtain ⟨il, _⟩ := idx_some e3
  have hle := h1.le
  have c1 := h1.hc.c1
  rcases h1.mp with ⟨rfl, rfl⟩ | ⟨b, rfl, hm⟩
  · simp at il
  · have hl := hm.lookOk (t := 79) Try.underlying79 (zero3 w) hk
    rw [show pmap s k = some (.int .i64 i) by simp [pmap, e3]] at hl
    simp only [Option.getD_some, Option.isSome_some] at hl
    obtain ⟨g, c, rfl⟩ := h1.slice (by omega)
    obtain ⟨x0, x1, x2⟩ := flat_at s i il
    rw [e4] at x0
    have a0 := own_cell h1.row x0
    have c0 := h1.hc.c0
    have zi : (i : Int) < (s.length : Int) := by omega
    have zl : (s.length : Int) ≤ 65536 := by omega
    clear h1 h2 h3 r nd hi e1 e2 hm x0 x1 x2 e3 e4
    generalize s.length = n at *
    generalize (gt S a).at_ = t at *
    unfold PT
    go_enter Try.func36, Try.ntmps36
    go_wp2
    exact bodyPost_ret (v := .tuple #[.int .i64 t, .bool true]) (by simp [results, Try.results36, go_sem]) rfl ⟨rfl, rfl⟩
/-- What a taking out leaves. -/
theorem Tq.out {w w' : World} {q : Nat} {sl : Value} {b : Nat} {p : Int} {s S : List Slot} {i a : Nat} (t : TM w q sl (some b) p S) (hp : s.Perm S) (ha : a < S.length) (hg : gt s i = gt S a)
    (h : ∃ sl' s', (s' ++ [gt s i]).Perm s ∧ Heap s'.length s' ∧ HQ w' q sl' (some b) p s' ∧ Touch (fq q sl (some b)) w w' ∧ Nq w q sl (some b) sl' (some b)) :
    ∃ F', Tq w' q F' p (S.eraseIdx a) ∧ Touch (fq q sl (some b)) w w' ∧ Nf w (fq q sl (some b)) F' := by
  obtain ⟨sl', s', h1, h2, h3, h4, h5⟩ := h
  rw [hg] at h1
  have : s'.Perm (S.eraseIdx a) := perm_cancel ((h1.trans hp).trans (eraseIdx_perm ha).symm)
  exact ⟨_, ⟨sl', some b, rfl, ⟨s', h3, h2, this⟩, srt_eraseIdx t.srt a, fun x hx => t.lo x (List.mem_of_mem_eraseIdx hx), t.p0, fun x hx => t.tk x (List.mem_of_mem_eraseIdx hx)⟩, h4, h5⟩
set_option maxHeartbeats 1000000 in
theorem take21_no (w : World) (q : Nat) (F : List Nat) (p : Int) (S : List Slot) (now : Int) (h : Tq w q F p S) (hn : S = [] ∨ now < (gt S 0).at_) :
    Calls Try.prog 42 #[PT q, .int .i64 now] w fun e w' => e = .returned (.tuple #[.int .i64 0, .bool false]) ∧ Touch [] w w' := by
  cases S with
  | nil =>
    have HN := hid (next27_nil w q F p h)
    clear h hn
    unfold PT at *
    go_enter Try.func42, Try.ntmps42
    go_wp2_with (go_at_call 35; refine HN.out.mono ?_; rintro e w2 ⟨rfl, rfl⟩)
    exact bodyPost_ret (v := .tuple #[.int .i64 0, .bool false]) (by simp [results, Try.results42, go_sem]) rfl ⟨rfl, Touch.refl _ _⟩
  | cons x S =>
    have HN := hid (next27_cons w q F p x S h)
    have hn : now < x.at_ := by
      rcases hn with h | h
      · cases h
      · exact h
    clear h
    generalize x.at_ = t at *
    generalize x.item = k at *
    unfold PT at *
    go_enter Try.func42, Try.ntmps42
    go_wp2_with (go_at_call 35; refine HN.out.mono ?_; rintro e w2 ⟨rfl, ht⟩)
    exact bodyPost_ret (v := .tuple #[.int .i64 0, .bool false]) (by simp [results, Try.results42, go_sem]) rfl ⟨rfl, ht⟩
set_option maxHeartbeats 1000000 in
theorem take21_yes (w : World) (q : Nat) (F : List Nat) (p : Int) (x : Slot) (S : List Slot) (now : Int) (h : Tq w q F p (x :: S)) (hn : x.at_ ≤ now) :
    Calls Try.prog 42 #[PT q, .int .i64 now] w fun e w' => e = .returned (.tuple #[.int .i64 x.item, .bool true]) ∧ ∃ F', Tq w' q F' p S ∧ Touch F w w' ∧ Nf w F F' := by
  have HN := hid (next27_cons w q F p x S h)
  have HT : Hid (∀ w1, Touch [] w w1 → Calls Try.prog 43 #[.pointer (some ⟨q, 0, none⟩), .int .i64 0] w1 fun e w' => e = .returned (.tuple #[]) ∧ ∃ F', Tq w' q F' p S ∧ Touch F w w' ∧ Nf w F F') := fun w1 t1 => by
    have h' := h.keep0 t1
    obtain ⟨sl, m, rfl, t⟩ := h'
    obtain ⟨s, h1, h2, h3⟩ := t.ex
    have hl := h3.length_eq
    have hs0 : 0 < s.length := by rw [hl]; simp
    rcases h1.mp with ⟨rfl, rfl⟩ | ⟨b, rfl, hm⟩
    · simp at hs0
    · refine (takeOut36 w1 q b sl p s 0 hs0 h1 h2).mono ?_
      rintro e w2 ⟨he, r⟩
      obtain ⟨F', r1, r2, r3⟩ := Tq.out t h3 (a := 0) (by simp) (heap_head h3 h2 t.srt (by simp)) r
      refine ⟨he, F', r1, (t1.mono (fun _ e => by cases e)).trans' r2, fun k hk => ?_⟩
      rcases r3 k hk with e | e
      · exact Or.inl e
      · exact Or.inr (Nat.le_trans t1.size e)
  clear h
  generalize x.at_ = t at *
  generalize x.item = k at *
  unfold PT at *
  go_enter Try.func42, Try.ntmps42
  go_wp2_with (first
    | (go_at_call 35; refine HN.out.mono ?_; rintro e w2 ⟨rfl, ht⟩)
    | (go_at_call 43; refine (HT.out _ ht).mono ?_; rintro e w3 ⟨rfl, r⟩; have R := hid r; clear r))
  exact bodyPost_ret (v := .tuple #[.int .i64 k, .bool true]) (by simp [results, Try.results42, go_sem]) rfl ⟨rfl, R.out⟩
set_option maxHeartbeats 1000000 in
theorem drop22_no (w : World) (q : Nat) (F : List Nat) (p : Int) (S : List Slot) (k : Int) (hk : W64 k) (h : Tq w q F p S) (hi : idx S k = none) :
    Calls Try.prog 37 #[PT q, .int .i64 k] w fun e w' => e = .returned (.bool false) ∧ w' = w := by
  have nd := h.nd
  obtain ⟨sl, m, rfl, ⟨s, h1, h2, h3⟩, r⟩ := h
  have e1 := (idx_perm nd h3 k).1
  rw [hi] at e1
  have e2 : pmap s k = none := by
    unfold pmap
    cases h : idx s k with
    | none => rfl
    | some i => rw [h] at e1; cases e1
  have c1 := h1.hc.c1
  rcases h1.mp with ⟨rfl, rfl⟩ | ⟨b, rfl, hm⟩
  · have hl := Maps.look_nil (P := Try.prog) (w := w) true keyed3 Try.underlying79 (zero3 w) (key3 hk)
    simp only [if_true] at hl
    clear h1 h2 h3 r nd hi e1 e2
    unfold PT
    go_enter Try.func37, Try.ntmps37
    go_wp2
    go_ret
    exact ⟨rfl, rfl⟩
  · have hl := hm.lookOk (t := 79) Try.underlying79 (zero3 w) hk
    rw [e2] at hl
    simp only [Option.getD_none, Option.isSome_none] at hl
    clear h1 h2 h3 r nd hi e1 e2 hm
    unfold PT
    go_enter Try.func37, Try.ntmps37
    go_wp2
    go_ret
    exact ⟨rfl, rfl⟩
set_option maxHeartbeats 1000000 in
theorem drop22_yes (w : World) (q : Nat) (F : List Nat) (p : Int) (S : List Slot) (k : Int) (a : Nat) (hk : W64 k) (h : Tq w q F p S) (hi : idx S k = some a) :
    Calls Try.prog 37 #[PT q, .int .i64 k] w fun e w' => e = .returned (.bool true) ∧ ∃ F', Tq w' q F' p (S.eraseIdx a) ∧ Touch F w w' ∧ Nf w F F' := by
  have nd := h.nd
  obtain ⟨sl, m, rfl, t⟩ := h
  obtain ⟨s, h1, h2, h3⟩ := t.ex
  obtain ⟨e1, e2⟩ := idx_perm nd h3 k
  rw [hi] at e1
  obtain ⟨i, e3⟩ : ∃ i, idx s k = some i := by
    cases h : idx s k with
    | none => rw [h] at e1; cases e1
    | some i => exact ⟨i, rfl⟩
  have e4 := e2 i a e3 hi
  obtain ⟨il, _⟩ := idx_some e3
  obtain ⟨al, _⟩ := idx_some hi
  have hle := h1.le
  have c1 := h1.hc.c1
  rcases h1.mp with ⟨rfl, rfl⟩ | ⟨b, rfl, hm⟩
  · simp at il
  · have hl := hm.lookOk (t := 79) Try.underlying79 (zero3 w) hk
    rw [show pmap s k = some (.int .i64 i) by simp [pmap, e3]] at hl
    simp only [Option.getD_some, Option.isSome_some] at hl
    have HT : Hid (Calls Try.prog 43 #[.pointer (some ⟨q, 0, none⟩), .int .i64 i] w fun e w' => e = .returned (.tuple #[]) ∧ ∃ F', Tq w' q F' p (S.eraseIdx a) ∧ Touch (fq q sl (some b)) w w' ∧ Nf w (fq q sl (some b)) F') := by
      refine (takeOut36 w q b sl p s i il h1 h2).mono ?_
      rintro e w2 ⟨he, r⟩
      exact ⟨he, Tq.out t h3 al e4 r⟩
    have zi : (i : Int) < 65536 := by omega
    clear h1 h2 h3 t nd hi e1 e2 hm e3 e4 al
    unfold PT
    go_enter Try.func37, Try.ntmps37
    go_wp2_with (go_at_call 43; refine HT.out.mono ?_; rintro e w3 ⟨rfl, r⟩; have R := hid r; clear r)
    go_ret
    exact ⟨rfl, R.out⟩
end Go.Proofs.Ytaioegefoiabhaa
