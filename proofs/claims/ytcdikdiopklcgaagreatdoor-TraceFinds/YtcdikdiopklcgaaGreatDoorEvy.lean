/- The contract of the document's Add; no conditions but those that each states. -/
import Derived.Test.YtcdikdiopklcgaaGreatDoorEvx
import Derived.Test.YtcdikdiopklcgaaGreatDoorEvi
namespace Go.Proofs.YtcdikdiopklcgaaGreatDoor.Tr
open Go.RowKit Go.Sort Go.Shelf Go.Maps Go.ChangeMaps
set_option linter.unusedVariables false
set_option linter.unusedSimpArgs false
set_option maxHeartbeats 4000000 in
set_option maxRecDepth 20000 in
theorem radd_chk {w : World} {B : Nat} {u : Value} {L : List Ez} (h : w.ownsRow B 47 13 u L.length (evs L)) (hle : L.length ≤ 1048576) (e : Ez) (hs : e.nm.size ≤ maxLen) (h1 : chkE e = false) :
    Calls Tryz.prog 19 #[u, e.val] w fun r w' => r = .returned (.int .i64 240) ∧ Touch [] w w' := by
  have H1 : Hid (∀ w', Calls Tryz.prog 39 #[e.val] w' fun r w'' => r = .returned (.bool false) ∧ Touch [] w' w'') := fun w' => by
    have := rcheck_ e w' hs
    rw [h1] at this
    exact this
  have M1 : Hid (Touch [] w (w.alloc (.cells #[.int .i64 e.at_, .int .i64 e.kd, .int .i64 e.cl, .int .i64 e.ca, .int .i64 e.ru, .int .i64 e.ge, .int .i64 e.ho, .int .u16 e.sp, .string e.nm, .int .i64 e.va, .int .i64 e.fk, .int .i64 e.fc, .int .i64 e.fr] 47))) := (Touch.refl [] w).alloc _
  have b1 : (w.alloc (.cells #[.int .i64 e.at_, .int .i64 e.kd, .int .i64 e.cl, .int .i64 e.ca, .int .i64 e.ru, .int .i64 e.ge, .int .i64 e.ho, .int .u16 e.sp, .string e.nm, .int .i64 e.va, .int .i64 e.fk, .int .i64 e.fc, .int .i64 e.fr] 47)).heap[w.heap.size]? = some (.cells #[.int .i64 e.at_, .int .i64 e.kd, .int .i64 e.cl, .int .i64 e.ca, .int .i64 e.ru, .int .i64 e.ge, .int .i64 e.ho, .int .u16 e.sp, .string e.nm, .int .i64 e.va, .int .i64 e.fk, .int .i64 e.fc, .int .i64 e.fr] 47 (0, 0)) := heap_alloc_new w _
  have BB : Hid (∀ w', Touch [] (w.alloc (.cells #[.int .i64 e.at_, .int .i64 e.kd, .int .i64 e.cl, .int .i64 e.ca, .int .i64 e.ru, .int .i64 e.ge, .int .i64 e.ho, .int .u16 e.sp, .string e.nm, .int .i64 e.va, .int .i64 e.fk, .int .i64 e.fc, .int .i64 e.fr] 47)) w' → w'.cell? ⟨w.heap.size, 0, none⟩ = some (.int .i64 e.at_) ∧ w.heap.size < w'.heap.size) := hid (fun w' t => ⟨cell_at (t.keep b1 (by simp)) rfl, block_lt (t.keep b1 (by simp))⟩)
  obtain ⟨a, c, rfl⟩ := own_form h
  have HnL0 : ∃ n, L.length = n := ⟨_, rfl⟩
  obtain ⟨n, hn⟩ := HnL0
  rw [hn]
  obtain ⟨NI, hNI⟩ : ∃ NI : Int, (n : Int) = NI := ⟨_, rfl⟩
  clear h hle hs h1 b1 hn
  unfold Ez.val at *
  go_enter Tryz.func19, Tryz.ntmps19
  go_wp2_with fail
  refine (H1.out _).mono ?_
  rintro r w1 ⟨rfl, t1⟩
  have T1 : Hid (Touch [] w w1) := M1.out.trans' t1
  clear t1 M1 H1 BB
  go_wp2_with fail
  go_ret
  exact ⟨rfl, T1.out⟩
set_option maxHeartbeats 4000000 in
set_option maxRecDepth 20000 in
theorem radd_full {w : World} {B : Nat} {u : Value} {L : List Ez} (h : w.ownsRow B 47 13 u L.length (evs L)) (hle : L.length ≤ 1048576) (e : Ez) (hs : e.nm.size ≤ maxLen) (h1 : chkE e = true) (h2 : L.length = 1048576) :
    Calls Tryz.prog 19 #[u, e.val] w fun r w' => r = .returned (.int .i64 3) ∧ Touch [] w w' := by
  have H1 : Hid (∀ w', Calls Tryz.prog 39 #[e.val] w' fun r w'' => r = .returned (.bool true) ∧ Touch [] w' w'') := fun w' => by
    have := rcheck_ e w' hs
    rw [h1] at this
    exact this
  have M1 : Hid (Touch [] w (w.alloc (.cells #[.int .i64 e.at_, .int .i64 e.kd, .int .i64 e.cl, .int .i64 e.ca, .int .i64 e.ru, .int .i64 e.ge, .int .i64 e.ho, .int .u16 e.sp, .string e.nm, .int .i64 e.va, .int .i64 e.fk, .int .i64 e.fc, .int .i64 e.fr] 47))) := (Touch.refl [] w).alloc _
  have b1 : (w.alloc (.cells #[.int .i64 e.at_, .int .i64 e.kd, .int .i64 e.cl, .int .i64 e.ca, .int .i64 e.ru, .int .i64 e.ge, .int .i64 e.ho, .int .u16 e.sp, .string e.nm, .int .i64 e.va, .int .i64 e.fk, .int .i64 e.fc, .int .i64 e.fr] 47)).heap[w.heap.size]? = some (.cells #[.int .i64 e.at_, .int .i64 e.kd, .int .i64 e.cl, .int .i64 e.ca, .int .i64 e.ru, .int .i64 e.ge, .int .i64 e.ho, .int .u16 e.sp, .string e.nm, .int .i64 e.va, .int .i64 e.fk, .int .i64 e.fc, .int .i64 e.fr] 47 (0, 0)) := heap_alloc_new w _
  have BB : Hid (∀ w', Touch [] (w.alloc (.cells #[.int .i64 e.at_, .int .i64 e.kd, .int .i64 e.cl, .int .i64 e.ca, .int .i64 e.ru, .int .i64 e.ge, .int .i64 e.ho, .int .u16 e.sp, .string e.nm, .int .i64 e.va, .int .i64 e.fk, .int .i64 e.fc, .int .i64 e.fr] 47)) w' → w'.cell? ⟨w.heap.size, 0, none⟩ = some (.int .i64 e.at_) ∧ w.heap.size < w'.heap.size) := hid (fun w' t => ⟨cell_at (t.keep b1 (by simp)) rfl, block_lt (t.keep b1 (by simp))⟩)
  obtain ⟨a, c, rfl⟩ := own_form h
  have HnL0 : ∃ n, L.length = n := ⟨_, rfl⟩
  obtain ⟨n, hn⟩ := HnL0
  rw [hn]
  obtain ⟨NI, hNI⟩ : ∃ NI : Int, (n : Int) = NI := ⟨_, rfl⟩
  have hx : 1048576 ≤ NI := by omega
  clear h hle hs h1 b1 h2 hn
  unfold Ez.val at *
  go_enter Tryz.func19, Tryz.ntmps19
  go_wp2_with fail
  refine (H1.out _).mono ?_
  rintro r w1 ⟨rfl, t1⟩
  have T1 : Hid (Touch [] w w1) := M1.out.trans' t1
  clear t1 M1 H1 BB
  go_wp2_with fail
  go_ret
  exact ⟨rfl, T1.out⟩
set_option maxHeartbeats 4000000 in
set_option maxRecDepth 20000 in
theorem radd_nil {w : World} {B : Nat} {u : Value} {L : List Ez} (h : w.ownsRow B 47 13 u L.length (evs L)) (hle : L.length ≤ 1048576) (e : Ez) (hs : e.nm.size ≤ maxLen) (h1 : chkE e = true) (h2 : L.length = 0) :
    Calls Tryz.prog 19 #[u, e.val] w fun r w' => r = .returned (.int .i64 0) ∧ Touch [] w w' := by
  have H1 : Hid (∀ w', Calls Tryz.prog 39 #[e.val] w' fun r w'' => r = .returned (.bool true) ∧ Touch [] w' w'') := fun w' => by
    have := rcheck_ e w' hs
    rw [h1] at this
    exact this
  have M1 : Hid (Touch [] w (w.alloc (.cells #[.int .i64 e.at_, .int .i64 e.kd, .int .i64 e.cl, .int .i64 e.ca, .int .i64 e.ru, .int .i64 e.ge, .int .i64 e.ho, .int .u16 e.sp, .string e.nm, .int .i64 e.va, .int .i64 e.fk, .int .i64 e.fc, .int .i64 e.fr] 47))) := (Touch.refl [] w).alloc _
  have b1 : (w.alloc (.cells #[.int .i64 e.at_, .int .i64 e.kd, .int .i64 e.cl, .int .i64 e.ca, .int .i64 e.ru, .int .i64 e.ge, .int .i64 e.ho, .int .u16 e.sp, .string e.nm, .int .i64 e.va, .int .i64 e.fk, .int .i64 e.fc, .int .i64 e.fr] 47)).heap[w.heap.size]? = some (.cells #[.int .i64 e.at_, .int .i64 e.kd, .int .i64 e.cl, .int .i64 e.ca, .int .i64 e.ru, .int .i64 e.ge, .int .i64 e.ho, .int .u16 e.sp, .string e.nm, .int .i64 e.va, .int .i64 e.fk, .int .i64 e.fc, .int .i64 e.fr] 47 (0, 0)) := heap_alloc_new w _
  have BB : Hid (∀ w', Touch [] (w.alloc (.cells #[.int .i64 e.at_, .int .i64 e.kd, .int .i64 e.cl, .int .i64 e.ca, .int .i64 e.ru, .int .i64 e.ge, .int .i64 e.ho, .int .u16 e.sp, .string e.nm, .int .i64 e.va, .int .i64 e.fk, .int .i64 e.fc, .int .i64 e.fr] 47)) w' → w'.cell? ⟨w.heap.size, 0, none⟩ = some (.int .i64 e.at_) ∧ w.heap.size < w'.heap.size) := hid (fun w' t => ⟨cell_at (t.keep b1 (by simp)) rfl, block_lt (t.keep b1 (by simp))⟩)
  obtain ⟨a, c, rfl⟩ := own_form h
  have HnL0 : ∃ n, L.length = n := ⟨_, rfl⟩
  obtain ⟨n, hn⟩ := HnL0
  rw [hn]
  obtain rfl : n = 0 := by omega
  clear h hle hs h1 b1 h2 hn
  unfold Ez.val at *
  go_enter Tryz.func19, Tryz.ntmps19
  go_wp2_with fail
  refine (H1.out _).mono ?_
  rintro r w1 ⟨rfl, t1⟩
  have T1 : Hid (Touch [] w w1) := M1.out.trans' t1
  obtain ⟨cb, hbl⟩ := BB.out _ t1
  clear t1 M1 H1 BB
  go_wp2_with fail
  go_quiet (fail)
  go_wp2_with fail
  go_ret
  exact ⟨rfl, T1.out.drewN _⟩
set_option maxHeartbeats 4000000 in
set_option maxRecDepth 20000 in
theorem radd_back {w : World} {B : Nat} {u : Value} {L : List Ez} (h : w.ownsRow B 47 13 u L.length (evs L)) (hle : L.length ≤ 1048576) (e : Ez) (hs : e.nm.size ≤ maxLen) (h1 : chkE e = true) (h2 : L.length ≠ 1048576) (i : Nat) (x : Ez) (hi : L[i]? = some x) (hin : L.length = i + 1) (h3 : e.at_ < x.at_) :
    Calls Tryz.prog 19 #[u, e.val] w fun r w' => r = .returned (.int .i64 101) ∧ Touch [] w w' := by
  have H1 : Hid (∀ w', Calls Tryz.prog 39 #[e.val] w' fun r w'' => r = .returned (.bool true) ∧ Touch [] w' w'') := fun w' => by
    have := rcheck_ e w' hs
    rw [h1] at this
    exact this
  have M1 : Hid (Touch [] w (w.alloc (.cells #[.int .i64 e.at_, .int .i64 e.kd, .int .i64 e.cl, .int .i64 e.ca, .int .i64 e.ru, .int .i64 e.ge, .int .i64 e.ho, .int .u16 e.sp, .string e.nm, .int .i64 e.va, .int .i64 e.fk, .int .i64 e.fc, .int .i64 e.fr] 47))) := (Touch.refl [] w).alloc _
  have b1 : (w.alloc (.cells #[.int .i64 e.at_, .int .i64 e.kd, .int .i64 e.cl, .int .i64 e.ca, .int .i64 e.ru, .int .i64 e.ge, .int .i64 e.ho, .int .u16 e.sp, .string e.nm, .int .i64 e.va, .int .i64 e.fk, .int .i64 e.fc, .int .i64 e.fr] 47)).heap[w.heap.size]? = some (.cells #[.int .i64 e.at_, .int .i64 e.kd, .int .i64 e.cl, .int .i64 e.ca, .int .i64 e.ru, .int .i64 e.ge, .int .i64 e.ho, .int .u16 e.sp, .string e.nm, .int .i64 e.va, .int .i64 e.fk, .int .i64 e.fc, .int .i64 e.fr] 47 (0, 0)) := heap_alloc_new w _
  have BB : Hid (∀ w', Touch [] (w.alloc (.cells #[.int .i64 e.at_, .int .i64 e.kd, .int .i64 e.cl, .int .i64 e.ca, .int .i64 e.ru, .int .i64 e.ge, .int .i64 e.ho, .int .u16 e.sp, .string e.nm, .int .i64 e.va, .int .i64 e.fk, .int .i64 e.fc, .int .i64 e.fr] 47)) w' → w'.cell? ⟨w.heap.size, 0, none⟩ = some (.int .i64 e.at_) ∧ w.heap.size < w'.heap.size) := hid (fun w' t => ⟨cell_at (t.keep b1 (by simp)) rfl, block_lt (t.keep b1 (by simp))⟩)
  obtain ⟨g, c, e1, _, hg⟩ := own_some h (by omega)
  rw [e1] at h
  have r1 := (rc_own h hi).c0
  have CC : Hid (∀ w', Touch [] w w' → w'.cell? ⟨g, i * 13, none⟩ = some (.int .i64 x.at_)) := hid (fun w' t => tcell t r1)
  clear r1
  have HnL0 : ∃ n, L.length = n := ⟨_, rfl⟩
  obtain ⟨n, hn⟩ := HnL0
  rw [e1]
  clear e1
  rw [hn]
  obtain ⟨NI, hNI⟩ : ∃ NI : Int, (n : Int) = NI := ⟨_, rfl⟩
  have hx : NI < 1048576 := by omega
  have hy : 0 < NI := by omega
  have hz : NI - 1 = (i : Int) := by omega
  have h0 : (0 : Int) ≤ (i : Int) := by omega
  have hj : (i : Int) < NI := by omega
  have hw : IntKind.i64.wrap (NI - 1) = (i : Int) := by rw [hz, IntKind.wrap_i64]; omega
  clear h hle hs h1 b1 h2 hi hin hn
  unfold Ez.val at *
  go_enter Tryz.func19, Tryz.ntmps19
  go_wp2_with fail
  refine (H1.out _).mono ?_
  rintro r w1 ⟨rfl, t1⟩
  have T1 : Hid (Touch [] w w1) := M1.out.trans' t1
  obtain ⟨cb, hbl⟩ := BB.out _ t1
  have cc := CC.out _ T1.out
  clear t1 M1 H1 BB
  go_wp2_with fail
  go_region
  go_wp2_with fail
  go_ret
  exact ⟨rfl, T1.out.drew⟩
set_option maxHeartbeats 4000000 in
set_option maxRecDepth 20000 in
theorem radd_ok {w : World} {B : Nat} {u : Value} {L : List Ez} (h : w.ownsRow B 47 13 u L.length (evs L)) (hle : L.length ≤ 1048576) (e : Ez) (hs : e.nm.size ≤ maxLen) (h1 : chkE e = true) (h2 : L.length ≠ 1048576) (i : Nat) (x : Ez) (hi : L[i]? = some x) (hin : L.length = i + 1) (h3 : ¬ e.at_ < x.at_) :
    Calls Tryz.prog 19 #[u, e.val] w fun r w' => r = .returned (.int .i64 0) ∧ Touch [] w w' := by
  have H1 : Hid (∀ w', Calls Tryz.prog 39 #[e.val] w' fun r w'' => r = .returned (.bool true) ∧ Touch [] w' w'') := fun w' => by
    have := rcheck_ e w' hs
    rw [h1] at this
    exact this
  have M1 : Hid (Touch [] w (w.alloc (.cells #[.int .i64 e.at_, .int .i64 e.kd, .int .i64 e.cl, .int .i64 e.ca, .int .i64 e.ru, .int .i64 e.ge, .int .i64 e.ho, .int .u16 e.sp, .string e.nm, .int .i64 e.va, .int .i64 e.fk, .int .i64 e.fc, .int .i64 e.fr] 47))) := (Touch.refl [] w).alloc _
  have b1 : (w.alloc (.cells #[.int .i64 e.at_, .int .i64 e.kd, .int .i64 e.cl, .int .i64 e.ca, .int .i64 e.ru, .int .i64 e.ge, .int .i64 e.ho, .int .u16 e.sp, .string e.nm, .int .i64 e.va, .int .i64 e.fk, .int .i64 e.fc, .int .i64 e.fr] 47)).heap[w.heap.size]? = some (.cells #[.int .i64 e.at_, .int .i64 e.kd, .int .i64 e.cl, .int .i64 e.ca, .int .i64 e.ru, .int .i64 e.ge, .int .i64 e.ho, .int .u16 e.sp, .string e.nm, .int .i64 e.va, .int .i64 e.fk, .int .i64 e.fc, .int .i64 e.fr] 47 (0, 0)) := heap_alloc_new w _
  have BB : Hid (∀ w', Touch [] (w.alloc (.cells #[.int .i64 e.at_, .int .i64 e.kd, .int .i64 e.cl, .int .i64 e.ca, .int .i64 e.ru, .int .i64 e.ge, .int .i64 e.ho, .int .u16 e.sp, .string e.nm, .int .i64 e.va, .int .i64 e.fk, .int .i64 e.fc, .int .i64 e.fr] 47)) w' → w'.cell? ⟨w.heap.size, 0, none⟩ = some (.int .i64 e.at_) ∧ w.heap.size < w'.heap.size) := hid (fun w' t => ⟨cell_at (t.keep b1 (by simp)) rfl, block_lt (t.keep b1 (by simp))⟩)
  obtain ⟨g, c, e1, _, hg⟩ := own_some h (by omega)
  rw [e1] at h
  have r1 := (rc_own h hi).c0
  have CC : Hid (∀ w', Touch [] w w' → w'.cell? ⟨g, i * 13, none⟩ = some (.int .i64 x.at_)) := hid (fun w' t => tcell t r1)
  clear r1
  have HnL0 : ∃ n, L.length = n := ⟨_, rfl⟩
  obtain ⟨n, hn⟩ := HnL0
  rw [e1]
  clear e1
  rw [hn]
  obtain ⟨NI, hNI⟩ : ∃ NI : Int, (n : Int) = NI := ⟨_, rfl⟩
  have hx : NI < 1048576 := by omega
  have hy : 0 < NI := by omega
  have hz : NI - 1 = (i : Int) := by omega
  have h0 : (0 : Int) ≤ (i : Int) := by omega
  have hj : (i : Int) < NI := by omega
  have hw : IntKind.i64.wrap (NI - 1) = (i : Int) := by rw [hz, IntKind.wrap_i64]; omega
  clear h hle hs h1 b1 h2 hi hin hn
  unfold Ez.val at *
  go_enter Tryz.func19, Tryz.ntmps19
  go_wp2_with fail
  refine (H1.out _).mono ?_
  rintro r w1 ⟨rfl, t1⟩
  have T1 : Hid (Touch [] w w1) := M1.out.trans' t1
  obtain ⟨cb, hbl⟩ := BB.out _ t1
  have cc := CC.out _ T1.out
  clear t1 M1 H1 BB
  go_wp2_with fail
  go_region
  go_wp2_with fail
  go_ret
  exact ⟨rfl, T1.out.drew⟩
theorem radd_ {w : World} {B : Nat} {u : Value} {L : List Ez} (h : w.ownsRow B 47 13 u L.length (evs L)) (hle : L.length ≤ 1048576) (e : Ez) (hs : e.nm.size ≤ maxLen) :
    Calls Tryz.prog 19 #[u, e.val] w fun r w' => r = .returned (.int .i64 (addN L e)) ∧ Touch [] w w' := by
  unfold addN
  cases h1 : chkE e with
  | false => exact radd_chk h hle e hs h1
  | true =>
    rw [if_pos rfl]
    by_cases h2 : L.length = 1048576
    · rw [if_pos h2]; exact radd_full h hle e hs h1 h2
    · rw [if_neg h2]
      rcases List.eq_nil_or_concat L with hL | ⟨M, x, hL⟩
      · have h3 : lastB L e = false := by rw [hL]; rfl
        rw [h3]
        exact radd_nil h hle e hs h1 (by rw [hL]; rfl)
      · have h3 : lastB L e = decide (e.at_ < x.at_) := by rw [hL, List.concat_eq_append]; simp [lastB]
        have hi : L[M.length]? = some x := by rw [hL, List.concat_eq_append]; simp
        have hn : L.length = M.length + 1 := by rw [hL]; simp
        rw [h3]
        by_cases h4 : e.at_ < x.at_
        · rw [decide_eq_true h4]; exact radd_back h hle e hs h1 h2 _ x hi hn h4
        · rw [decide_eq_false h4]; exact radd_ok h hle e hs h1 h2 _ x hi hn h4
end Go.Proofs.YtcdikdiopklcgaaGreatDoor.Tr
