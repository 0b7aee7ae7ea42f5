/- The program's batch in memory, and the contracts of its small functions: ticks, Due, Sent, Force; no conditions but those that each states. -/
import Derived.Test.YtogojdeohohhhaaBth
namespace Go.Proofs.Ytogojdeohohhhaa
open Go.RowKit Go.Maps Go.ChangeMaps
set_option linter.unusedVariables false
set_option linter.unusedSimpArgs false
def isT (t : Int) : Bool := decide (0 ≤ t) && decide (t ≤ 4611686018427387904)
theorem is_ (t : Int) (w : World) : Calls Try.prog 30 #[.int .i64 t] w fun e w' => e = .returned (.bool (isT t)) ∧ w' = w := by
  by_cases h0 : 0 ≤ t
  · by_cases h1 : t ≤ 4611686018427387904
    · go_enter Try.func30, Try.ntmps30
      go_wp2
      go_ret
      exact ⟨by simp [isT, h0, h1], rfl⟩
    · go_enter Try.func30, Try.ntmps30
      go_wp2
      go_ret
      exact ⟨by simp [isT, h1], rfl⟩
  · have hn : isT t = false := by simp [isT]; omega
    rw [hn]
    go_enter Try.func30, Try.ntmps30
    go_wp2
    go_ret
    exact ⟨rfl, rfl⟩
theorem isT_yes {t : Int} (h : 0 ≤ t) (h2 : t ≤ 4611686018427387904) : isT t = true := by unfold isT; simp; omega
theorem after_ (n d : Int) (w : World) (h1 : 0 ≤ n) (h2 : n ≤ 4611686018427387904) (h3 : 0 ≤ d) (h4 : d ≤ 9223372036854775807) : Calls Try.prog 26 #[.int .i64 n, .int .i64 d] w fun e w' => (∃ k, e = .returned (.tuple #[.int .i64 (aft n d), .bool k])) ∧ w' = w := by
  have H1 := is_ n
  rw [isT_yes h1 h2] at H1
  have hw : IntKind.i64.wrap (4611686018427387904 - n) = 4611686018427387904 - n := by simp [IntKind.wrap, IntKind.bits, IntKind.signed, IntKind.min, IntKind.max]; omega
  by_cases hz : 4611686018427387904 - n < d
  · have e1 : aft n d = 4611686018427387904 := by unfold aft; rw [if_pos hz]
    rw [e1]
    clear e1
    go_enter Try.func26, Try.ntmps26
    go_wp2_with (go_at_call 30; refine (H1 _).mono ?_; rintro e w2 ⟨rfl, rfl⟩)
    exact bodyPost_ret (v := .tuple #[.int .i64 4611686018427387904, .bool false]) (by simp [results, Try.results26, go_sem]) rfl ⟨⟨_, rfl⟩, rfl⟩
  · have e1 : aft n d = n + d := by unfold aft; rw [if_neg hz]
    have hv : IntKind.i64.wrap (n + d) = n + d := by simp [IntKind.wrap, IntKind.bits, IntKind.signed, IntKind.min, IntKind.max]; omega
    rw [e1]
    clear e1
    go_enter Try.func26, Try.ntmps26
    go_wp2_with (go_at_call 30; refine (H1 _).mono ?_; rintro e w2 ⟨rfl, rfl⟩)
    exact bodyPost_ret (v := .tuple #[.int .i64 (n + d), .bool true]) (by simp [results, Try.results26, go_sem]) rfl ⟨⟨_, rfl⟩, rfl⟩
def pc (S : Bs) (sl : Value) (d : Int) : Array Value := #[.int .i64 S.cnt, .int .i64 S.win, .int .i64 S.tim, .int .i64 S.lst, sl, .int .i64 d, .int .i64 S.snt]
/-- A batch in memory, and its row of runs. -/
structure Bm (w : World) (b : Nat) (sl : Value) (d : Int) (S : Bs) : Prop where
  hb : w.heap[b]? = some (.cells (pc S sl d) 50 (0, 0))
  row : w.ownsRow 0 3 1 sl S.run.length (ints S.run)
  du : S.run ≠ [] → d = dueS S
def fpB (b : Nat) (sl : Value) : List Nat := b :: sl.ownBlock.toList
theorem mem_fpB {b : Nat} {sl : Value} {q : Nat} : q ∈ fpB b sl ↔ q = b ∨ sl.ownBlock = some q := by
  unfold fpB
  cases sl.ownBlock <;> simp [eq_comm]
def Bq (w : World) (b : Nat) (F : List Nat) (S : Bs) (N : Nat) : Prop := ∃ sl d, F = fpB b sl ∧ Bm w b sl d S ∧ Iv S N
section
variable {w w' : World} {b : Nat} {sl : Value} {d : Int} {S : Bs} {F G : List Nat} {N : Nat}
theorem Bm.lt (h : Bm w b sl d S) : b < w.heap.size := block_lt h.hb
theorem Bm.keep (h : Bm w b sl d S) (T : Touch G w w') (hn : ∀ q, q ∈ fpB b sl → ¬ q ∈ G) : Bm w' b sl d S :=
  ⟨T.keep h.hb (hn b (mem_fpB.2 (Or.inl rfl))), own_touch h.row T (fun q hq => hn q (mem_fpB.2 (Or.inr hq))), h.du⟩
theorem Bm.keep0 (h : Bm w b sl d S) (T : Touch [] w w') : Bm w' b sl d S := h.keep T (fun _ _ e => by cases e)
theorem Bm.ne (h : Bm w b sl d S) {q : Nat} (hq : sl.ownBlock = some q) : q ≠ b := fun e => by
  subst e
  obtain ⟨cs, hc⟩ := own_kind h.row hq
  rw [h.hb] at hc
  simp at hc
theorem Bm.all (h : Bm w b sl d S) : ∀ q, q ∈ fpB b sl → q < w.heap.size := fun q hq => by
  rcases mem_fpB.1 hq with e | e
  · rw [e]; exact h.lt
  · exact (h.row.lt q e).2
theorem Bq.keep (h : Bq w b F S N) (T : Touch G w w') (hn : ∀ q, q ∈ F → ¬ q ∈ G) : Bq w' b F S N := by
  obtain ⟨sl, d, rfl, h1, h2⟩ := h
  exact ⟨sl, d, rfl, h1.keep T hn, h2⟩
theorem Bq.keep0 (h : Bq w b F S N) (T : Touch [] w w') : Bq w' b F S N := h.keep T (fun _ _ e => by cases e)
theorem Bq.lt (h : Bq w b F S N) : ∀ q, q ∈ F → q < w.heap.size := by
  obtain ⟨sl, d, rfl, h1, h2⟩ := h
  exact h1.all
theorem Bq.mono (h : Bq w b F S N) {M : Nat} (hm : N ≤ M) : Bq w b F S M := by
  obtain ⟨sl, d, rfl, h1, h2⟩ := h
  exact ⟨sl, d, rfl, h1, h2.mono hm⟩
end
/-- What a step leaves: the batch, what it answered, and what it touched. -/
def BqE (w w' : World) (b : Nat) (F : List Nat) (S : Bs) (N : Nat) (ls : List Int) (v : Value) : Prop := (∃ F', Bq w' b F' S N ∧ Touch F w w' ∧ Nf w F F') ∧ Rd w' v ls ∧ ∃ a n c, v = .slice a n c
section
variable {w : World} {b : Nat} {sl : Value} {d : Int} {S : Bs}
theorem tell_ (h : Bm w b sl d S) (x : Int) : Calls Try.prog 25 #[PT b, .int .i64 x] w fun e w' => e = .returned (.int .i64 (wrongE S x)) ∧ w' = w := by
  have H1 := is_ x
  have c2 := cell_at (j := 2) (v := .int .i64 S.tim) h.hb rfl
  unfold PT
  by_cases h0 : x < 0
  · rw [show isT x = false by simp [isT]; omega] at H1
    rw [show wrongE S x = 10 by simp [wrongE, h0]]
    go_enter Try.func25, Try.ntmps25
    go_wp2_with (go_at_call 30; refine (H1 _).mono ?_; rintro e w2 ⟨rfl, rfl⟩)
    go_ret
    exact ⟨rfl, rfl⟩
  · by_cases h1 : 4611686018427387904 < x
    · rw [show isT x = false by simp [isT]; omega] at H1
      rw [show wrongE S x = 10 by simp [wrongE, h1]]
      go_enter Try.func25, Try.ntmps25
      go_wp2_with (go_at_call 30; refine (H1 _).mono ?_; rintro e w2 ⟨rfl, rfl⟩)
      go_ret
      exact ⟨rfl, rfl⟩
    · rw [isT_yes (by omega) (by omega)] at H1
      by_cases h2 : x < S.tim
      · rw [show wrongE S x = 50 by simp [wrongE, h0, h1, h2]]
        go_enter Try.func25, Try.ntmps25
        go_wp2_with (go_at_call 30; refine (H1 _).mono ?_; rintro e w2 ⟨rfl, rfl⟩)
        go_ret
        exact ⟨rfl, rfl⟩
      · rw [show wrongE S x = 0 by simp [wrongE, h0, h1, h2]]
        go_enter Try.func25, Try.ntmps25
        go_wp2_with (go_at_call 30; refine (H1 _).mono ?_; rintro e w2 ⟨rfl, rfl⟩)
        go_ret
        exact ⟨rfl, rfl⟩
theorem sent_ (h : Bm w b sl d S) : Calls Try.prog 15 #[PT b] w fun e w' => e = .returned (.int .i64 S.snt) ∧ w' = w := by
  have c6 := cell_at (j := 6) (v := .int .i64 S.snt) h.hb rfl
  unfold PT
  go_enter Try.func15, Try.ntmps15
  go_wp2
  go_ret
  exact ⟨rfl, rfl⟩
/-- The tick at which what waits is due. -/
def dueV (S : Bs) : Int := if S.run = [] then 0 else dueS S
theorem due_ (h : Bm w b sl d S) : Calls Try.prog 9 #[PT b] w fun e w' => e = .returned (.tuple #[.int .i64 (dueV S), .bool (decide (S.run ≠ []))]) ∧ w' = w := by
  obtain ⟨a, c, rfl⟩ := own_form h.row
  have c4 := cell_at (j := 4) (v := .slice a S.run.length c) h.hb rfl
  have c5 := cell_at (j := 5) (v := .int .i64 d) h.hb rfl
  have hd := h.du
  clear h
  unfold PT
  by_cases he : S.run = []
  · rw [he] at c4
    rw [show dueV S = 0 by simp [dueV, he], show decide (S.run ≠ []) = false by simp [he]]
    clear hd
    go_enter Try.func9, Try.ntmps9
    go_wp2
    exact bodyPost_ret (v := .tuple #[.int .i64 0, .bool false]) (by simp [results, Try.results9, go_sem]) rfl ⟨rfl, rfl⟩
  · rw [show dueV S = d by simp [dueV, he, hd he], show decide (S.run ≠ []) = true by simp [he]]
    have hl : 0 < S.run.length := List.length_pos_iff.2 he
    generalize S.run.length = n at *
    have hz : ((n : Int) == 0) = false := by simp; omega
    clear hd he hl
    go_enter Try.func9, Try.ntmps9
    go_wp2
    exact bodyPost_ret (v := .tuple #[.int .i64 d, .bool true]) (by simp [results, Try.results9, go_sem]) rfl ⟨rfl, rfl⟩
/-- Nothing waits: nothing is sent. -/
theorem force_no (h : Bm w b sl d S) (he : S.run = []) : Calls Try.prog 18 #[PT b] w fun e w' => e = .returned (.slice none 0 0) ∧ w' = w := by
  obtain ⟨a, c, rfl⟩ := own_form h.row
  have c4 := cell_at (j := 4) (v := .slice a S.run.length c) h.hb rfl
  rw [he] at c4
  clear h
  unfold PT
  go_enter Try.func18, Try.ntmps18
  go_wp2
  go_ret
  exact ⟨rfl, rfl⟩
theorem force_yes (h : Bm w b sl d S) (he : S.run ≠ []) (hn : 0 ≤ S.snt) (hm : S.snt < 9000000000000000000) : Calls Try.prog 18 #[PT b] w fun e w' => e = .returned sl ∧ w' = (w.setCell ⟨b, 4, none⟩ (.slice none 0 0)).setCell ⟨b, 6, none⟩ (.int .i64 (S.snt + 1)) := by
  obtain ⟨a, c, rfl⟩ := own_form h.row
  have c4 := cell_at (j := 4) (v := .slice a S.run.length c) h.hb rfl
  have c6 := cell_at (j := 6) (v := .int .i64 S.snt) h.hb rfl
  have ff := froz_at h.hb
  have hlt := h.lt
  have hw : IntKind.i64.wrap (S.snt + 1) = S.snt + 1 := by simp [IntKind.wrap, IntKind.bits, IntKind.signed, IntKind.min, IntKind.max]; omega
  have hl : 0 < S.run.length := List.length_pos_iff.2 he
  generalize S.run.length = n at *
  have hz : ((n : Int) == 0) = false := by simp; omega
  clear he hl h hn hm
  unfold PT
  go_enter Try.func18, Try.ntmps18
  go_wp2
  go_ret
  exact ⟨rfl, rfl⟩
theorem Bm.forced (h : Bm w b sl d S) (he : S.run ≠ []) : Bm ((w.setCell ⟨b, 4, none⟩ (.slice none 0 0)).setCell ⟨b, 6, none⟩ (.int .i64 (S.snt + 1))) b (.slice none 0 0) d (forceS S) := by
  have e : forceS S = { S with run := [], snt := S.snt + 1 } := by unfold forceS; rw [if_neg he]
  rw [e]
  refine ⟨?_, World.ownsRow_nil _ _ _ _, fun h => absurd rfl h⟩
  have := bset (i := 6) (bset (i := 4) h.hb (.slice none 0 0)) (.int .i64 (S.snt + 1))
  simpa [pc] using this
theorem forced_touch (w : World) (b : Nat) (n : Int) : Touch [b] w ((w.setCell ⟨b, 4, none⟩ (.slice none 0 0)).setCell ⟨b, 6, none⟩ (.int .i64 n)) := ((Touch.refl _ _).setCell (Or.inl (by simp)) _).setCell (Or.inl (by simp)) _
/-- All that wait are sent. -/
theorem force_ (h : Bm w b sl d S) (hn : 0 ≤ S.snt) (hm : S.snt < 9000000000000000000) : Calls Try.prog 18 #[PT b] w fun e w' => ∃ v sl', e = .returned v ∧ (∃ a n c, v = .slice a n c) ∧ Bm w' b sl' d (forceS S) ∧ (sl' = sl ∨ sl' = .slice none 0 0) ∧ Touch [b] w w' ∧ Rd w' v S.run := by
  by_cases he : S.run = []
  · refine (force_no h he).mono ?_
    rintro e w' ⟨rfl, rfl⟩
    have e2 : forceS S = S := by unfold forceS; rw [if_pos he]
    rw [e2, he]
    exact ⟨_, sl, rfl, ⟨_, _, _, rfl⟩, h, Or.inl rfl, Touch.refl _ _, Rd.nil _⟩
  · refine (force_yes h he hn hm).mono ?_
    rintro e w' ⟨rfl, rfl⟩
    obtain ⟨a, c, e1⟩ := own_form h.row
    refine ⟨sl, _, rfl, ⟨_, _, _, e1⟩, h.forced he, Or.inr rfl, forced_touch _ _ _, Rd.of_own (own_touch h.row (forced_touch _ _ _) (fun q hq e => ?_))⟩
    simp only [List.mem_singleton] at e
    exact h.ne hq e
end
end Go.Proofs.Ytogojdeohohhhaa
