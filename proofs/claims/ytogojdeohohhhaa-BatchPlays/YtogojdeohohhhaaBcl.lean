/- The contracts of a batch's Runs, Has, Clone and New; no conditions but those that each states. -/
import Derived.Test.YtogojdeohohhhaaBsm
import Derived.Test.YtogojdeohohhhaaShs
namespace Go.Proofs.Ytogojdeohohhhaa
open Go.RowKit Go.Maps Go.ChangeMaps
set_option linter.unusedVariables false
set_option linter.unusedSimpArgs false
theorem eqS (W : World) (a : Option Addr) (n c : Nat) : (binOp .eql 29 (.slice a n c) (.slice none 0 0)).run Try.prog W = .ok (.bool a.isNone) W := Lib.run_eql_slice_nil W _ _ a n c 0 0 Try.underlying29
def CsE (e : Ending) (w w' : World) (xs : List Int) : Prop := ∃ a n c, e = .returned (.slice a n c) ∧ w'.ownsRow w.heap.size 3 1 (.slice a n c) xs.length (ints xs) ∧ Touch [] w w'
set_option maxHeartbeats 1000000 in
theorem sclone_ (w : World) (v : Value) (xs : List Int) (h : w.ownsRow 0 3 1 v xs.length (ints xs)) (hle : xs.length ≤ 3000000000000) : Calls Try.prog 23 #[v] w fun e w' => CsE e w w' xs := by
  have q33 := eqS
  rcases h.2 with ⟨rfl, e0⟩ | ⟨g, cap, cur, rfl, _⟩
  · have e1 : xs = [] := List.length_eq_zero_iff.1 e0
    subst e1
    clear h
    go_enter Try.func23, Try.ntmps23
    go_wp2
    go_ret
    exact ⟨none, 0, 0, rfl, World.ownsRow_nil _ _ _ _, Touch.refl _ _⟩
  · have HR : Hid (∀ ob, Rd (w.alloc ob) (.slice (some ⟨g, 0, none⟩) xs.length cap) xs) := fun ob => (Rd.of_own h).keep0 ((Touch.refl [] _).alloc _)
    have HM : Hid ((w.alloc (.cells #[] 3)).ownsRow w.heap.size 3 1 (.slice (some ⟨w.heap.size, 0, none⟩) 0 0) 0 []) := World.ownsRow_made (e := 3) (size := 1) w #[] 0 (Nat.le_refl _) (by unfold maxLen; omega) rfl
    have HLE := hid hle
    have HE : Hid (∀ b c w', w'.ownsRow w.heap.size 3 1 (.slice (some ⟨b, 0, none⟩) (0 + xs.length) c) (0 + xs.length) ([] ++ ints xs) → (w.alloc (.cells #[] 3)).grownBy w' (some w.heap.size) → CsE (.returned (.slice (some ⟨b, 0, none⟩) (0 + xs.length) c)) w w' xs) := fun b c w' r gr => by
      rw [Nat.zero_add, List.nil_append] at r
      rw [Nat.zero_add]
      exact ⟨_, _, c, rfl, r, ((Touch.refl [] w).alloc _).grown gr (fun k hk => Or.inr (by cases hk; exact Nat.le_refl _))⟩
    clear h hle
    go_enter Try.func23, Try.ntmps23
    go_wp2_with (at_builtin; refine wpList_append_rd rfl _ _ rfl w.heap.size w.heap.size 0 0 [] rfl HM.out _ xs rfl (HR.out _) (by have := HLE.out; omega) (by simp) ?_; intro b5 c5 w5 o5 g5; have O5 := hid (HE.out _ _ _ o5 g5); clear o5 g5)
    rw [Nat.zero_add] at *
    go_ret
    exact O5.out
section
variable {w : World} {b : Nat} {sl : Value} {d : Int} {S : Bs}
theorem runs_ (h : Bm w b sl d S) (hl : S.run.length ≤ 1024) : Calls Try.prog 12 #[PT b] w fun e w' => CsE e w w' S.run := by
  have HC := hid (sclone_ w sl S.run h.row (by omega))
  obtain ⟨a, c, rfl⟩ := own_form h.row
  have c4 := cell_at (j := 4) (v := .slice a S.run.length c) h.hb rfl
  clear h hl
  unfold PT
  go_enter Try.func12, Try.ntmps12
  go_wp2_with (go_at_call 23; refine HC.out.mono ?_; rintro e w2 ⟨a2, n2, c2, rfl, q1, q2⟩; have Q := hid (And.intro q1 q2); clear q1 q2)
  go_ret
  exact ⟨_, _, _, rfl, Q.out.1, Q.out.2⟩
set_option maxHeartbeats 1000000 in
/-- The search of a row that rises. -/
theorem search_ (w : World) (v : Value) (xs : List Int) (x : Int) (h : w.ownsRow 0 3 1 v xs.length (ints xs)) (hs : xs.Pairwise (· < ·)) (hl : xs.length ≤ 1024) : Calls Try.prog 24 #[v, .int .i64 x] w fun e w' => (∃ k : Int, e = .returned (.tuple #[.int .i64 k, .bool (decide (x ∈ xs))])) ∧ Touch [] w w' := by
  rcases h.2 with ⟨rfl, e0⟩ | ⟨g, cap, cur, rfl, _⟩
  · have e1 : xs = [] := List.length_eq_zero_iff.1 e0
    subst e1
    clear h hs hl
    go_enter Try.func24, Try.ntmps24
    go_wp2
    go_loopw [7, 8] (fun i j wr => i = .int .i64 0 ∧ j = .int .i64 0 ∧ wr = w) (fun _ _ _ => 0)
    case atStart => exact ⟨rfl, rfl, rfl⟩
    case round =>
      obtain ⟨rfl, rfl, rfl⟩ := hrel
      go_wp2
      exact bodyPost_ret (v := .tuple #[.int .i64 0, .bool false]) (by simp [results, Try.results24, go_sem]) rfl ⟨⟨0, by simp⟩, Touch.refl _ _⟩
  · refine (AnyG.slices_BinarySearch_int Try.searchS g 0 xs.length cap xs x w (Nat.le_refl _) (by omega) (fun j hj => ?_) (by rw [List.take_length]; exact inc_le hs)).mono ?_
    · rw [Nat.zero_add]
      refine own_cell h (p := j) ?_
      simp [ints, hj, List.getD_eq_getElem?_getD]
    · rintro e w' ⟨rfl, q, rfl⟩
      rw [List.take_length]
      exact ⟨⟨((xs.countP (· < x) : Nat) : Int), by simp [List.contains_eq_mem]⟩, (Touch.refl _ _).drewN _⟩
theorem has_ (h : Bm w b sl d S) {N : Nat} (hv : Iv S N) (x : Int) : Calls Try.prog 13 #[PT b, .int .i64 x] w fun e w' => e = .returned (.bool (decide (x ∈ S.run))) ∧ Touch [] w w' := by
  have HC := hid (search_ w sl S.run x h.row hv.inc (by have := hv.len; omega))
  obtain ⟨a, c, rfl⟩ := own_form h.row
  have c4 := cell_at (j := 4) (v := .slice a S.run.length c) h.hb rfl
  clear h hv
  generalize decide (x ∈ S.run) = B at *
  unfold PT
  go_enter Try.func13, Try.ntmps13
  go_wp2_with (go_at_call 24; refine HC.out.mono ?_; rintro e w2 ⟨⟨k, rfl⟩, q2⟩; have Q := hid q2; clear q2)
  go_ret
  exact ⟨rfl, Q.out⟩
def CpE (e : Ending) (w w' : World) (S : Bs) (N : Nat) : Prop := ∃ b F, e = .returned (PT b) ∧ Bq w' b F S N ∧ Touch [] w w' ∧ ∀ q, q ∈ F → w.heap.size ≤ q
set_option maxHeartbeats 1000000 in
theorem clone_ (h : Bm w b sl d S) {N : Nat} (hv : Iv S N) : Calls Try.prog 19 #[PT b] w fun e w' => CpE e w w' S N := by
  have hbl := h.lt
  have hne : b ≠ w.heap.size := by omega
  obtain ⟨a, c, rfl⟩ := own_form h.row
  obtain ⟨W1, hW1⟩ : ∃ W1, W1 = w.alloc (.cells (pc S (.slice a S.run.length c) d) 50) := ⟨_, rfl⟩
  have hb1 : W1.heap[w.heap.size]? = some (.cells (pc S (.slice a S.run.length c) d) 50 (0, 0)) := by rw [hW1]; exact heap_alloc_new w _
  have t1 : Touch [] w W1 := by rw [hW1]; exact (Touch.refl _ _).alloc _
  have h1 := h.keep0 t1
  have HC := hid (sclone_ W1 _ S.run h1.row (by have := hv.len; omega))
  have HG : Hid (∀ w2, Touch [] W1 w2 → w2.cell? ⟨w.heap.size, 4, none⟩ = some (.slice a S.run.length c) ∧ ∀ i, w2.frozen? ⟨w.heap.size, i, none⟩ = false) := fun w2 T => by
    have := T.keep hb1 (by simp)
    exact ⟨cell_at this rfl, froz_at this⟩
  have HX : Hid (∀ w2 sl2, w2.ownsRow W1.heap.size 3 1 sl2 S.run.length (ints S.run) → Touch [] W1 w2 → CpE (.returned (PT w.heap.size)) w (w2.setCell ⟨w.heap.size, 4, none⟩ sl2) S N) := fun w2 sl2 r T => by
    have hs1 : w.heap.size < W1.heap.size := block_lt hb1
    have hb2 := T.keep hb1 (by simp)
    have TB : Touch [w.heap.size] w2 (w2.setCell ⟨w.heap.size, 4, none⟩ sl2) := (Touch.refl _ _).setCell (Or.inl (by simp)) _
    refine ⟨w.heap.size, fpB w.heap.size sl2, rfl, ⟨sl2, d, rfl, ⟨?_, own_base (own_touch r TB (fun q hq e => ?_)) (Nat.zero_le _), h.du⟩, hv⟩, (t1.trans' T).trans TB (fun i hi => Or.inr (by simp at hi; omega)), fun q hq => ?_⟩
    · have := bset (i := 4) hb2 sl2
      simpa [pc] using this
    · have := (r.lt q hq).1
      simp at e
      omega
    · rcases mem_fpB.1 hq with e | e
      · omega
      · have := (r.lt q e).1
        omega
  have c0 := cell_at (j := 0) (v := .int .i64 S.cnt) h.hb rfl
  have c1 := cell_at (j := 1) (v := .int .i64 S.win) h.hb rfl
  have c2 := cell_at (j := 2) (v := .int .i64 S.tim) h.hb rfl
  have c3 := cell_at (j := 3) (v := .int .i64 S.lst) h.hb rfl
  have c4 := cell_at (j := 4) (v := .slice a S.run.length c) h.hb rfl
  have c5 := cell_at (j := 5) (v := .int .i64 d) h.hb rfl
  have c6 := cell_at (j := 6) (v := .int .i64 S.snt) h.hb rfl
  have x4 := cell_at (j := 4) (v := .slice a S.run.length c) h1.hb rfl
  clear h h1 hv hb1 t1
  unfold PT at *
  unfold pc at hW1
  go_enter Try.func19, Try.ntmps19
  go_upto_region 4 with fail
  rw [← hW1]
  clear hW1 c0 c1 c2 c3 c4 c5 c6
  go_wp2_with (go_at_call 23; refine HC.out.mono ?_; rintro e w2 ⟨a2, n2, c2, rfl, q1, q3⟩; obtain ⟨y1, y3⟩ := HG.out w2 q3; have RR := hid (HX.out w2 _ q1 q3); clear q1 q3)
  go_ret
  exact RR.out
def mayB (c k : Int) : Bool := decide (1 ≤ c) && decide (c ≤ 1024) && decide (0 ≤ k)
def S0 (c k : Int) : Bs := ⟨c, k, 0, 0, [], 0, 0⟩
theorem iv0 {c k : Int} (h : mayB c k = true) (hk : W64 k) : Iv (S0 c k) 0 := by
  unfold mayB at h
  simp only [Bool.and_eq_true, decide_eq_true_eq] at h
  have hz : W64 0 := W64.mk (by omega) (by omega)
  exact ⟨h.1.1, h.1.2, h.2, hk.hi, Int.le_refl _, by show (0 : Int) ≤ _; decide, Int.le_refl _, hz, by show 0 < 1024; decide, List.Pairwise.nil, fun x hx => (by cases hx), Int.le_refl _, by show (0 : Int) ≤ _; decide, Int.le_refl _, Int.le_refl _⟩
theorem new_yes (w : World) (c k : Int) (h : mayB c k = true) : Calls Try.prog 5 #[.int .i64 c, .int .i64 k] w fun e w' => e = .returned (.tuple #[PT w.heap.size, .int .i64 0]) ∧ Bm w' w.heap.size (.slice none 0 0) 0 (S0 c k) ∧ Touch [] w w' := by
  have HX : Hid (Bm (w.alloc (.cells (pc (S0 c k) (.slice none 0 0) 0) 50)) w.heap.size (.slice none 0 0) 0 (S0 c k)) := ⟨heap_alloc_new w _, World.ownsRow_nil _ _ _ _, fun h => absurd rfl h⟩
  unfold mayB at h
  simp only [Bool.and_eq_true, decide_eq_true_eq] at h
  obtain ⟨⟨h1, h2⟩, h3⟩ := h
  unfold pc S0 at HX
  unfold S0 PT
  go_enter Try.func5, Try.ntmps5
  go_wp2
  exact bodyPost_ret (v := .tuple #[.pointer (some ⟨w.heap.size, 0, none⟩), .int .i64 0]) (by simp [results, Try.results5, go_sem]) rfl ⟨rfl, HX.out, (Touch.refl _ _).alloc _⟩
theorem new_no (w : World) (c k : Int) (h : mayB c k = false) : Calls Try.prog 5 #[.int .i64 c, .int .i64 k] w fun e w' => e = .returned (.tuple #[.pointer none, .int .i64 1]) ∧ w' = w := by
  by_cases h1 : c < 1
  · clear h
    go_enter Try.func5, Try.ntmps5
    go_wp2
    exact bodyPost_ret (v := .tuple #[.pointer none, .int .i64 1]) (by simp [results, Try.results5, go_sem]) rfl ⟨rfl, rfl⟩
  · by_cases h2 : 1024 < c
    · clear h
      go_enter Try.func5, Try.ntmps5
      go_wp2
      exact bodyPost_ret (v := .tuple #[.pointer none, .int .i64 1]) (by simp [results, Try.results5, go_sem]) rfl ⟨rfl, rfl⟩
    · have h3 : k < 0 := by
        unfold mayB at h
        simp at h
        have := h (by omega) (by omega)
        omega
      clear h
      go_enter Try.func5, Try.ntmps5
      go_wp2
      exact bodyPost_ret (v := .tuple #[.pointer none, .int .i64 1]) (by simp [results, Try.results5, go_sem]) rfl ⟨rfl, rfl⟩
end
end Go.Proofs.Ytogojdeohohhhaa
