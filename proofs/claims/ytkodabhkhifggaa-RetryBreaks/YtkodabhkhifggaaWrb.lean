/- The contracts of the document's breaker and of its Is; their conditions: those of the invariant. -/
import Derived.Test.YtkodabhkhifggaaWbk
import Derived.Test.YtkodabhkhifggaaHlh
import Derived.Test.YtkodabhkhifggaaHlg
import Derived.Test.YtkodabhkhifggaaAlh
namespace Go.Proofs.Ytkodabhkhifggaa
open Go.RowKit Go.Maps Go.ChangeMaps Go.ChangeShapes Go.WideShapes Go.ChangeAt
set_option linter.unusedVariables false
set_option linter.unusedSimpArgs false
def rc (S : Br) : Array Value := #[.int .i64 S.fl, .int .i64 S.co, .int .i64 S.st, .int .i64 S.fd, .int .i64 S.un, .int .i64 S.tm]
theorem ris_ (t : Int) (w : World) : Calls Try.prog 22 #[.int .i64 t] w fun e w' => e = .returned (.bool (isT t)) ∧ w' = w := by
  by_cases h0 : 0 ≤ t
  · by_cases h1 : t ≤ 4611686018427387904
    · go_enter Try.func22, Try.ntmps22
      go_wp2
      go_ret
      exact ⟨by simp [isT, h0, h1], rfl⟩
    · go_enter Try.func22, Try.ntmps22
      go_wp2
      go_ret
      exact ⟨by simp [isT, h1], rfl⟩
  · have hn : isT t = false := by simp [isT]; omega
    rw [hn]
    go_enter Try.func22, Try.ntmps22
    go_wp2
    go_ret
    exact ⟨rfl, rfl⟩
theorem rwrong_ (w : World) (S : Br) (x : Int) : Calls Try.prog 31 #[.agg (rc S), .int .i64 x] w fun e w' => e = .returned (.int .i64 (wrE S x)) ∧ Touch [] w w' := by
  rcases wr_cases S x with ⟨g, e⟩ | ⟨g, g1, e⟩ | ⟨g, g1, e, g2, g3⟩ <;> rw [e]
  · by_cases h0 : x < 0
    · clear g e
      unfold rc
      go_enter Try.func31, Try.ntmps31
      go_wp2
      go_ret
      exact ⟨rfl, (Touch.refl _ _).alloc _⟩
    · have h1 : 4611686018427387904 < x := by unfold isT at g; simp at g; omega
      clear g e
      unfold rc
      go_enter Try.func31, Try.ntmps31
      go_wp2
      go_ret
      exact ⟨rfl, (Touch.refl _ _).alloc _⟩
  · obtain ⟨h0, h1⟩ : 0 ≤ x ∧ x ≤ 4611686018427387904 := by unfold isT at g; simpa using g
    clear g e
    unfold rc
    go_enter Try.func31, Try.ntmps31
    go_wp2
    go_ret
    exact ⟨rfl, (Touch.refl _ _).alloc _⟩
  · clear g e
    unfold rc
    go_enter Try.func31, Try.ntmps31
    go_wp2
    go_ret
    exact ⟨rfl, (Touch.refl _ _).alloc _⟩
def ag6 (a b c d e f : Int) : Value := .agg #[.int .i64 a, .int .i64 b, .int .i64 c, .int .i64 d, .int .i64 e, .int .i64 f]
theorem ropen_ (w : World) (S : Br) (x : Int) (hx1 : 0 ≤ x) (hx2 : x ≤ 4611686018427387904) (hc1 : 0 ≤ S.co) (hc2 : S.co ≤ 9223372036854775807) : Calls Try.prog 33 #[.agg (rc S), .int .i64 x] w fun e w' => e = .returned (.agg (rc (opS S x))) ∧ Touch [] w w' := by
  unfold rc opS aft
  by_cases k : 4611686018427387904 - x < S.co
  · rw [if_pos k]
    go_enter Try.func33, Try.ntmps33
    go_wp2
    exact bodyPost_ret (v := .agg #[.int .i64 S.fl, .int .i64 S.co, .int .i64 2, .int .i64 0, .int .i64 4611686018427387904, .int .i64 S.tm]) (by simp [results, Try.results33, go_sem]) rfl ⟨rfl, ((Touch.refl _ _).alloc _).alloc _⟩
  · rw [if_neg k]
    go_enter Try.func33, Try.ntmps33
    go_wp2
    exact bodyPost_ret (v := .agg #[.int .i64 S.fl, .int .i64 S.co, .int .i64 2, .int .i64 0, .int .i64 (x + S.co), .int .i64 S.tm]) (by simp [results, Try.results33, go_sem]) rfl ⟨rfl, ((Touch.refl _ _).alloc _).alloc _⟩
set_option maxHeartbeats 4000000 in
theorem rask_ (w : World) (S : Br) (x : Int) : Calls Try.prog 18 #[.agg (rc S), .int .i64 x] w fun e w' => e = .returned (.tuple #[.agg (rc (askS S x)), .bool (askB S x), .int .i64 (wrE S x)]) ∧ Touch [] w w' := by
  have HT := hid (fun W => rwrong_ W S x)
  obtain ⟨V, hV⟩ : ∃ V, V = (w.alloc (.cells (rc S) 49)).alloc (.cells #[.int .i64 0, .int .i64 0, .int .i64 0, .int .i64 0, .int .i64 0, .int .i64 0] 49) := ⟨_, rfl⟩
  have TV : Hid (Touch [] w V) := hid (by rw [hV]; exact ((Touch.refl _ _).alloc _).alloc _)
  have hb0 : V.heap[w.heap.size]? = some (.cells (rc S) 49 (0, 0)) := by rw [hV]; exact ((Touch.refl [] _).alloc _).keep (heap_alloc_new w _) (by simp)
  have hb1 : V.heap[w.heap.size + 1]? = some (.cells #[.int .i64 0, .int .i64 0, .int .i64 0, .int .i64 0, .int .i64 0, .int .i64 0] 49 (0, 0)) := by
    rw [hV]
    have := heap_alloc_new (w.alloc (.cells (rc S) 49)) (.cells #[.int .i64 0, .int .i64 0, .int .i64 0, .int .i64 0, .int .i64 0, .int .i64 0] 49)
    rwa [World.size_alloc] at this
  have HB : Hid (∀ W, Touch [] V W → (W.heap[w.heap.size]? = some (.cells (rc S) 49 (0, 0)) ∧ W.heap[w.heap.size + 1]? = some (.cells #[.int .i64 0, .int .i64 0, .int .i64 0, .int .i64 0, .int .i64 0, .int .i64 0] 49 (0, 0))) ∧ Touch [] w W) := hid (fun W T => ⟨⟨T.keep hb0 (by simp), T.keep hb1 (by simp)⟩, TV.out.trans' T⟩)
  have a0 := cell_at (j := 0) (v := .int .i64 S.fl) hb0 rfl
  have a1 := cell_at (j := 1) (v := .int .i64 S.co) hb0 rfl
  have a2 := cell_at (j := 2) (v := .int .i64 S.st) hb0 rfl
  have a3 := cell_at (j := 3) (v := .int .i64 S.fd) hb0 rfl
  have a4 := cell_at (j := 4) (v := .int .i64 S.un) hb0 rfl
  have a5 := cell_at (j := 5) (v := .int .i64 S.tm) hb0 rfl
  clear hb0 hb1
  by_cases e : wrE S x = 0
  · have e1 : askS S x = askM S x := if_pos e
    have e2 : askB S x = (decide (S.st = 2 ∧ S.un ≤ x) || decide (S.st = 1)) := by unfold askB; rw [decide_eq_true e, Bool.true_and]
    rw [e1, e2, e]
    rw [e] at HT
    clear e e1 e2
    unfold askM
    by_cases k1 : S.st = 2
    · by_cases k2 : S.un ≤ x
      · rw [if_pos ⟨k1, k2⟩, show (decide (S.st = 2 ∧ S.un ≤ x) || decide (S.st = 1)) = true by simp [k1, k2]]
        have k3 : (S.st == 2) = true := by simp [k1]
        clear k1
        unfold rc at *
        go_enter Try.func18, Try.ntmps18
        go_upto_region 1 with fail
        rw [← hV]
        clear hV
        go_wp2_with (go_at_call 31; refine (HT.out _).mono ?_; rintro e w2 ⟨rfl, t2⟩; clear a0 a1 a2 a3 a4 a5; have hq := HB.out _ t2; have a0 := cell_at (j := 0) (v := .int .i64 S.fl) hq.1.1 rfl; have a1 := cell_at (j := 1) (v := .int .i64 S.co) hq.1.1 rfl; have a2 := cell_at (j := 2) (v := .int .i64 S.st) hq.1.1 rfl; have a3 := cell_at (j := 3) (v := .int .i64 S.fd) hq.1.1 rfl; have a4 := cell_at (j := 4) (v := .int .i64 S.un) hq.1.1 rfl; have a5 := cell_at (j := 5) (v := .int .i64 S.tm) hq.1.1 rfl; have af := froz_at hq.1.1; have z0 := cell_at (j := 0) (v := .int .i64 0) hq.1.2 rfl; have z1 := cell_at (j := 1) (v := .int .i64 0) hq.1.2 rfl; have z2 := cell_at (j := 2) (v := .int .i64 0) hq.1.2 rfl; have z3 := cell_at (j := 3) (v := .int .i64 0) hq.1.2 rfl; have z4 := cell_at (j := 4) (v := .int .i64 0) hq.1.2 rfl; have z5 := cell_at (j := 5) (v := .int .i64 0) hq.1.2 rfl; have zf := froz_at hq.1.2; have T2 := hid hq.2; have H2 := hid hq.1; clear t2 hq)
        exact bodyPost_ret (v := .tuple #[.agg #[.int .i64 S.fl, .int .i64 S.co, .int .i64 3, .int .i64 S.fd, .int .i64 S.un, .int .i64 x], .bool true, .int .i64 0]) (by simp [results, Try.results18, go_sem, a0, a1, a2, a3, a4, a5, z0, z1, z2, z3, z4, z5]) rfl ⟨rfl, (Touch.setCell (Touch.setCell (Touch.setCell (Touch.setCell (Touch.setCell (Touch.setCell (Touch.setCell (Touch.setCell T2.out (Or.inr (Nat.le_refl _)) _) (Or.inr (Nat.le_refl _)) _) (Or.inr (Nat.le_succ _)) _) (Or.inr (Nat.le_succ _)) _) (Or.inr (Nat.le_succ _)) _) (Or.inr (Nat.le_succ _)) _) (Or.inr (Nat.le_succ _)) _) (Or.inr (Nat.le_succ _)) _)⟩
      · rw [if_neg (fun hh => k2 hh.2), show (decide (S.st = 2 ∧ S.un ≤ x) || decide (S.st = 1)) = (S.st == 1) by simp [k1, k2]]
        have k3 : (S.st == 2) = true := by simp [k1]
        clear k1
        unfold rc at *
        go_enter Try.func18, Try.ntmps18
        go_upto_region 1 with fail
        rw [← hV]
        clear hV
        go_upto_region 8 with (go_at_call 31; refine (HT.out _).mono ?_; rintro e w2 ⟨rfl, t2⟩; clear a0 a1 a2 a3 a4 a5; have hq := HB.out _ t2; have a0 := cell_at (j := 0) (v := .int .i64 S.fl) hq.1.1 rfl; have a1 := cell_at (j := 1) (v := .int .i64 S.co) hq.1.1 rfl; have a2 := cell_at (j := 2) (v := .int .i64 S.st) hq.1.1 rfl; have a3 := cell_at (j := 3) (v := .int .i64 S.fd) hq.1.1 rfl; have a4 := cell_at (j := 4) (v := .int .i64 S.un) hq.1.1 rfl; have a5 := cell_at (j := 5) (v := .int .i64 S.tm) hq.1.1 rfl; have af := froz_at hq.1.1; have z0 := cell_at (j := 0) (v := .int .i64 0) hq.1.2 rfl; have z1 := cell_at (j := 1) (v := .int .i64 0) hq.1.2 rfl; have z2 := cell_at (j := 2) (v := .int .i64 0) hq.1.2 rfl; have z3 := cell_at (j := 3) (v := .int .i64 0) hq.1.2 rfl; have z4 := cell_at (j := 4) (v := .int .i64 0) hq.1.2 rfl; have z5 := cell_at (j := 5) (v := .int .i64 0) hq.1.2 rfl; have zf := froz_at hq.1.2; have T2 := hid hq.2; have H2 := hid hq.1; clear t2 hq)
        have hb0 : (w2.setCell ⟨w.heap.size, 5, none⟩ (.int .i64 x)).heap[w.heap.size]? = some (.cells #[.int .i64 S.fl, .int .i64 S.co, .int .i64 S.st, .int .i64 S.fd, .int .i64 S.un, .int .i64 x] 49 (0, 0)) := bset (i := 5) H2.out.1 _
        have hb1 : (w2.setCell ⟨w.heap.size, 5, none⟩ (.int .i64 x)).heap[w.heap.size + 1]? = some (.cells #[.int .i64 0, .int .i64 0, .int .i64 0, .int .i64 0, .int .i64 0, .int .i64 0] 49 (0, 0)) := (Touch.setCell (F := [w.heap.size]) (Touch.refl _ _) (Or.inl (by simp)) _).keep H2.out.2 (by simp)
        have T3 := hid (Touch.setCell T2.out (p := ⟨w.heap.size, 5, none⟩) (Or.inr (Nat.le_refl _)) (.int .i64 x))
        clear a0 a1 a2 a3 a4 a5 af z0 z1 z2 z3 z4 z5 zf
        generalize w2.setCell ⟨w.heap.size, 5, none⟩ (.int .i64 x) = W3 at *
        have C0 : ∀ w', Touch [w.heap.size + 1] W3 w' → w'.cell? ⟨w.heap.size, 0, none⟩ = some (.int .i64 S.fl) := fun w' T => cell_at (T.keep hb0 (by simp)) rfl
        have C1 : ∀ w', Touch [w.heap.size + 1] W3 w' → w'.cell? ⟨w.heap.size, 1, none⟩ = some (.int .i64 S.co) := fun w' T => cell_at (T.keep hb0 (by simp)) rfl
        have C2 : ∀ w', Touch [w.heap.size + 1] W3 w' → w'.cell? ⟨w.heap.size, 2, none⟩ = some (.int .i64 S.st) := fun w' T => cell_at (T.keep hb0 (by simp)) rfl
        have C3 : ∀ w', Touch [w.heap.size + 1] W3 w' → w'.cell? ⟨w.heap.size, 3, none⟩ = some (.int .i64 S.fd) := fun w' T => cell_at (T.keep hb0 (by simp)) rfl
        have C4 : ∀ w', Touch [w.heap.size + 1] W3 w' → w'.cell? ⟨w.heap.size, 4, none⟩ = some (.int .i64 S.un) := fun w' T => cell_at (T.keep hb0 (by simp)) rfl
        have C5 : ∀ w', Touch [w.heap.size + 1] W3 w' → w'.cell? ⟨w.heap.size, 5, none⟩ = some (.int .i64 x) := fun w' T => cell_at (T.keep hb0 (by simp)) rfl
        have z0 := cell_at (j := 0) (v := .int .i64 0) hb1 rfl
        have z1 := cell_at (j := 1) (v := .int .i64 0) hb1 rfl
        have z2 := cell_at (j := 2) (v := .int .i64 0) hb1 rfl
        have z3 := cell_at (j := 3) (v := .int .i64 0) hb1 rfl
        have z4 := cell_at (j := 4) (v := .int .i64 0) hb1 rfl
        have z5 := cell_at (j := 5) (v := .int .i64 0) hb1 rfl
        have zf := froz_at hb1
        have s0 : Touch [w.heap.size + 1] W3 W3.drew := (Touch.refl _ _).drew
        clear hb0 hb1
        refine wp_region_H (S := fun w' => Touch [w.heap.size + 1] W3 w') (by kernel_rfl) ?_
        refine wpH_take (i := 0) (v := (.agg #[.int .i64 S.fl, .int .i64 S.co, .int .i64 S.st, .int .i64 S.fd, .int .i64 S.un, .int .i64 x])) (some 28) rfl rfl (by kernel_rfl) (by kernel_rfl) (by kernel_rfl) (fun _ _ _ h => h) (Or.inl ⟨by rfl, fun w' hS => (by have z0 := C0 _ hS; have z1 := C1 _ hS; have z2 := C2 _ hS; have z3 := C3 _ hS; have z4 := C4 _ hS; have z5 := C5 _ hS; go_simp)⟩) s0 ?_
        try simp only [Go.Act.put, List.setIfInBounds_toArray, List.set_cons_zero, List.set_cons_succ]
        refine wpH_take (i := 1) (v := (.pointer (some ⟨w.heap.size, 2, none⟩))) (some 29) rfl rfl (by kernel_rfl) (by kernel_rfl) (by kernel_rfl) (fun _ _ _ h => h) (Or.inl ⟨by rfl, fun w' hS => (by go_simp)⟩) s0 ?_
        try simp only [Go.Act.put, List.setIfInBounds_toArray, List.set_cons_zero, List.set_cons_succ]
        refine wpH_take (i := 2) (v := (.int .i64 S.st)) (some 30) rfl rfl (by kernel_rfl) (by kernel_rfl) (by kernel_rfl) (fun _ _ _ h => h) (Or.inl ⟨by rfl, fun w' hS => (by have z0 := C2 _ hS; go_simp)⟩) s0 ?_
        try simp only [Go.Act.put, List.setIfInBounds_toArray, List.set_cons_zero, List.set_cons_succ]
        refine wpH_take (i := 3) (v := (.bool (S.st == 1))) (some 31) rfl rfl (by kernel_rfl) (by kernel_rfl) (by kernel_rfl) (fun _ _ _ h => h) (Or.inl ⟨by rfl, fun w' hS => (by go_simp)⟩) s0 ?_
        try simp only [Go.Act.put, List.setIfInBounds_toArray, List.set_cons_zero, List.set_cons_succ]
        refine wpH_call (i := 4) (o := { dst := none, op := Op.store 49 (Operand.tmp 4) (Operand.tmp 28), type := 0, pos := _, after := #[{ on := 0, ground := Ground.data }, { on := 0, ground := Ground.phase }, { on := 1, ground := Ground.textOnly Departure.lateStores }, { on := 2, ground := Ground.textOnly Departure.lateStores }, { on := 3, ground := Ground.textOnly Departure.lateStores }], guard := none }) (by kernel_rfl) rfl (fun K' hK => ?_)
        rw [if_pos (by rfl)]
        go_simp
        refine hK.out _ _ (Touch.drew (Touch.setCell (Touch.setCell (Touch.setCell (Touch.setCell (Touch.setCell (Touch.setCell (Touch.refl _ _) (Or.inl (by simp)) _) (Or.inl (by simp)) _) (Or.inl (by simp)) _) (Or.inl (by simp)) _) (Or.inl (by simp)) _) (Or.inl (by simp)) _)) ?_
        clear hK
        try simp only [Go.Act.put, List.setIfInBounds_toArray, List.set_cons_zero, List.set_cons_succ]
        refine wpH_take (i := 5) (v := (.bool (S.st == 1))) (some 5) rfl rfl (by kernel_rfl) (by kernel_rfl) (by kernel_rfl) (fun _ _ _ h => h) (Or.inl ⟨by rfl, fun w' hS => (by go_simp)⟩) (Touch.drew (Touch.setCell (Touch.setCell (Touch.setCell (Touch.setCell (Touch.setCell (Touch.setCell (Touch.refl _ _) (Or.inl (by simp)) _) (Or.inl (by simp)) _) (Or.inl (by simp)) _) (Or.inl (by simp)) _) (Or.inl (by simp)) _) (Or.inl (by simp)) _)) ?_
        try simp only [Go.Act.put, List.setIfInBounds_toArray, List.set_cons_zero, List.set_cons_succ]
        refine wpH_take (i := 6) (v := (.int .i64 0)) (some 6) rfl rfl (by kernel_rfl) (by kernel_rfl) (by kernel_rfl) (fun _ _ _ h => h) (Or.inl ⟨by rfl, fun w' hS => (by go_simp)⟩) (Touch.drew (Touch.setCell (Touch.setCell (Touch.setCell (Touch.setCell (Touch.setCell (Touch.setCell (Touch.refl _ _) (Or.inl (by simp)) _) (Or.inl (by simp)) _) (Or.inl (by simp)) _) (Or.inl (by simp)) _) (Or.inl (by simp)) _) (Or.inl (by simp)) _)) ?_
        try simp only [Go.Act.put, List.setIfInBounds_toArray, List.set_cons_zero, List.set_cons_succ]
        refine wpAnyH_done (by kernel_rfl) ?_ _
        go_wp2
        exact bodyPost_ret (v := .tuple #[.agg #[.int .i64 S.fl, .int .i64 S.co, .int .i64 S.st, .int .i64 S.fd, .int .i64 S.un, .int .i64 x], .bool (S.st == 1), .int .i64 0]) (by simp [results, Try.results18, go_sem, z0, z1, z2, z3, z4, z5]) rfl ⟨rfl, (Touch.drew (Touch.setCell (Touch.setCell (Touch.setCell (Touch.setCell (Touch.setCell (Touch.setCell T3.out (Or.inr (Nat.le_succ _)) _) (Or.inr (Nat.le_succ _)) _) (Or.inr (Nat.le_succ _)) _) (Or.inr (Nat.le_succ _)) _) (Or.inr (Nat.le_succ _)) _) (Or.inr (Nat.le_succ _)) _))⟩
    · rw [if_neg (fun hh => k1 hh.1), show (decide (S.st = 2 ∧ S.un ≤ x) || decide (S.st = 1)) = (S.st == 1) by rw [Bool.eq_iff_iff]; simp [k1]]
      have k3 : (S.st == 2) = false := by simpa using k1
      clear k1
      unfold rc at *
      go_enter Try.func18, Try.ntmps18
      go_upto_region 1 with fail
      rw [← hV]
      clear hV
      go_upto_region 8 with (go_at_call 31; refine (HT.out _).mono ?_; rintro e w2 ⟨rfl, t2⟩; clear a0 a1 a2 a3 a4 a5; have hq := HB.out _ t2; have a0 := cell_at (j := 0) (v := .int .i64 S.fl) hq.1.1 rfl; have a1 := cell_at (j := 1) (v := .int .i64 S.co) hq.1.1 rfl; have a2 := cell_at (j := 2) (v := .int .i64 S.st) hq.1.1 rfl; have a3 := cell_at (j := 3) (v := .int .i64 S.fd) hq.1.1 rfl; have a4 := cell_at (j := 4) (v := .int .i64 S.un) hq.1.1 rfl; have a5 := cell_at (j := 5) (v := .int .i64 S.tm) hq.1.1 rfl; have af := froz_at hq.1.1; have z0 := cell_at (j := 0) (v := .int .i64 0) hq.1.2 rfl; have z1 := cell_at (j := 1) (v := .int .i64 0) hq.1.2 rfl; have z2 := cell_at (j := 2) (v := .int .i64 0) hq.1.2 rfl; have z3 := cell_at (j := 3) (v := .int .i64 0) hq.1.2 rfl; have z4 := cell_at (j := 4) (v := .int .i64 0) hq.1.2 rfl; have z5 := cell_at (j := 5) (v := .int .i64 0) hq.1.2 rfl; have zf := froz_at hq.1.2; have T2 := hid hq.2; have H2 := hid hq.1; clear t2 hq)
      have hb0 : (w2.setCell ⟨w.heap.size, 5, none⟩ (.int .i64 x)).heap[w.heap.size]? = some (.cells #[.int .i64 S.fl, .int .i64 S.co, .int .i64 S.st, .int .i64 S.fd, .int .i64 S.un, .int .i64 x] 49 (0, 0)) := bset (i := 5) H2.out.1 _
      have hb1 : (w2.setCell ⟨w.heap.size, 5, none⟩ (.int .i64 x)).heap[w.heap.size + 1]? = some (.cells #[.int .i64 0, .int .i64 0, .int .i64 0, .int .i64 0, .int .i64 0, .int .i64 0] 49 (0, 0)) := (Touch.setCell (F := [w.heap.size]) (Touch.refl _ _) (Or.inl (by simp)) _).keep H2.out.2 (by simp)
      have T3 := hid (Touch.setCell T2.out (p := ⟨w.heap.size, 5, none⟩) (Or.inr (Nat.le_refl _)) (.int .i64 x))
      clear a0 a1 a2 a3 a4 a5 af z0 z1 z2 z3 z4 z5 zf
      generalize w2.setCell ⟨w.heap.size, 5, none⟩ (.int .i64 x) = W3 at *
      have C0 : ∀ w', Touch [w.heap.size + 1] W3 w' → w'.cell? ⟨w.heap.size, 0, none⟩ = some (.int .i64 S.fl) := fun w' T => cell_at (T.keep hb0 (by simp)) rfl
      have C1 : ∀ w', Touch [w.heap.size + 1] W3 w' → w'.cell? ⟨w.heap.size, 1, none⟩ = some (.int .i64 S.co) := fun w' T => cell_at (T.keep hb0 (by simp)) rfl
      have C2 : ∀ w', Touch [w.heap.size + 1] W3 w' → w'.cell? ⟨w.heap.size, 2, none⟩ = some (.int .i64 S.st) := fun w' T => cell_at (T.keep hb0 (by simp)) rfl
      have C3 : ∀ w', Touch [w.heap.size + 1] W3 w' → w'.cell? ⟨w.heap.size, 3, none⟩ = some (.int .i64 S.fd) := fun w' T => cell_at (T.keep hb0 (by simp)) rfl
      have C4 : ∀ w', Touch [w.heap.size + 1] W3 w' → w'.cell? ⟨w.heap.size, 4, none⟩ = some (.int .i64 S.un) := fun w' T => cell_at (T.keep hb0 (by simp)) rfl
      have C5 : ∀ w', Touch [w.heap.size + 1] W3 w' → w'.cell? ⟨w.heap.size, 5, none⟩ = some (.int .i64 x) := fun w' T => cell_at (T.keep hb0 (by simp)) rfl
      have z0 := cell_at (j := 0) (v := .int .i64 0) hb1 rfl
      have z1 := cell_at (j := 1) (v := .int .i64 0) hb1 rfl
      have z2 := cell_at (j := 2) (v := .int .i64 0) hb1 rfl
      have z3 := cell_at (j := 3) (v := .int .i64 0) hb1 rfl
      have z4 := cell_at (j := 4) (v := .int .i64 0) hb1 rfl
      have z5 := cell_at (j := 5) (v := .int .i64 0) hb1 rfl
      have zf := froz_at hb1
      have s0 : Touch [w.heap.size + 1] W3 W3.drew := (Touch.refl _ _).drew
      clear hb0 hb1
      refine wp_region_H (S := fun w' => Touch [w.heap.size + 1] W3 w') (by kernel_rfl) ?_
      refine wpH_take (i := 0) (v := (.agg #[.int .i64 S.fl, .int .i64 S.co, .int .i64 S.st, .int .i64 S.fd, .int .i64 S.un, .int .i64 x])) (some 28) rfl rfl (by kernel_rfl) (by kernel_rfl) (by kernel_rfl) (fun _ _ _ h => h) (Or.inl ⟨by rfl, fun w' hS => (by have z0 := C0 _ hS; have z1 := C1 _ hS; have z2 := C2 _ hS; have z3 := C3 _ hS; have z4 := C4 _ hS; have z5 := C5 _ hS; go_simp)⟩) s0 ?_
      try simp only [Go.Act.put, List.setIfInBounds_toArray, List.set_cons_zero, List.set_cons_succ]
      refine wpH_take (i := 1) (v := (.pointer (some ⟨w.heap.size, 2, none⟩))) (some 29) rfl rfl (by kernel_rfl) (by kernel_rfl) (by kernel_rfl) (fun _ _ _ h => h) (Or.inl ⟨by rfl, fun w' hS => (by go_simp)⟩) s0 ?_
      try simp only [Go.Act.put, List.setIfInBounds_toArray, List.set_cons_zero, List.set_cons_succ]
      refine wpH_take (i := 2) (v := (.int .i64 S.st)) (some 30) rfl rfl (by kernel_rfl) (by kernel_rfl) (by kernel_rfl) (fun _ _ _ h => h) (Or.inl ⟨by rfl, fun w' hS => (by have z0 := C2 _ hS; go_simp)⟩) s0 ?_
      try simp only [Go.Act.put, List.setIfInBounds_toArray, List.set_cons_zero, List.set_cons_succ]
      refine wpH_take (i := 3) (v := (.bool (S.st == 1))) (some 31) rfl rfl (by kernel_rfl) (by kernel_rfl) (by kernel_rfl) (fun _ _ _ h => h) (Or.inl ⟨by rfl, fun w' hS => (by go_simp)⟩) s0 ?_
      try simp only [Go.Act.put, List.setIfInBounds_toArray, List.set_cons_zero, List.set_cons_succ]
      refine wpH_call (i := 4) (o := { dst := none, op := Op.store 49 (Operand.tmp 4) (Operand.tmp 28), type := 0, pos := _, after := #[{ on := 0, ground := Ground.data }, { on := 0, ground := Ground.phase }, { on := 1, ground := Ground.textOnly Departure.lateStores }, { on := 2, ground := Ground.textOnly Departure.lateStores }, { on := 3, ground := Ground.textOnly Departure.lateStores }], guard := none }) (by kernel_rfl) rfl (fun K' hK => ?_)
      rw [if_pos (by rfl)]
      go_simp
      refine hK.out _ _ (Touch.drew (Touch.setCell (Touch.setCell (Touch.setCell (Touch.setCell (Touch.setCell (Touch.setCell (Touch.refl _ _) (Or.inl (by simp)) _) (Or.inl (by simp)) _) (Or.inl (by simp)) _) (Or.inl (by simp)) _) (Or.inl (by simp)) _) (Or.inl (by simp)) _)) ?_
      clear hK
      try simp only [Go.Act.put, List.setIfInBounds_toArray, List.set_cons_zero, List.set_cons_succ]
      refine wpH_take (i := 5) (v := (.bool (S.st == 1))) (some 5) rfl rfl (by kernel_rfl) (by kernel_rfl) (by kernel_rfl) (fun _ _ _ h => h) (Or.inl ⟨by rfl, fun w' hS => (by go_simp)⟩) (Touch.drew (Touch.setCell (Touch.setCell (Touch.setCell (Touch.setCell (Touch.setCell (Touch.setCell (Touch.refl _ _) (Or.inl (by simp)) _) (Or.inl (by simp)) _) (Or.inl (by simp)) _) (Or.inl (by simp)) _) (Or.inl (by simp)) _) (Or.inl (by simp)) _)) ?_
      try simp only [Go.Act.put, List.setIfInBounds_toArray, List.set_cons_zero, List.set_cons_succ]
      refine wpH_take (i := 6) (v := (.int .i64 0)) (some 6) rfl rfl (by kernel_rfl) (by kernel_rfl) (by kernel_rfl) (fun _ _ _ h => h) (Or.inl ⟨by rfl, fun w' hS => (by go_simp)⟩) (Touch.drew (Touch.setCell (Touch.setCell (Touch.setCell (Touch.setCell (Touch.setCell (Touch.setCell (Touch.refl _ _) (Or.inl (by simp)) _) (Or.inl (by simp)) _) (Or.inl (by simp)) _) (Or.inl (by simp)) _) (Or.inl (by simp)) _) (Or.inl (by simp)) _)) ?_
      try simp only [Go.Act.put, List.setIfInBounds_toArray, List.set_cons_zero, List.set_cons_succ]
      refine wpAnyH_done (by kernel_rfl) ?_ _
      go_wp2
      exact bodyPost_ret (v := .tuple #[.agg #[.int .i64 S.fl, .int .i64 S.co, .int .i64 S.st, .int .i64 S.fd, .int .i64 S.un, .int .i64 x], .bool (S.st == 1), .int .i64 0]) (by simp [results, Try.results18, go_sem, z0, z1, z2, z3, z4, z5]) rfl ⟨rfl, (Touch.drew (Touch.setCell (Touch.setCell (Touch.setCell (Touch.setCell (Touch.setCell (Touch.setCell T3.out (Or.inr (Nat.le_succ _)) _) (Or.inr (Nat.le_succ _)) _) (Or.inr (Nat.le_succ _)) _) (Or.inr (Nat.le_succ _)) _) (Or.inr (Nat.le_succ _)) _) (Or.inr (Nat.le_succ _)) _))⟩
  · have e1 : askS S x = S := if_neg e
    have e2 : askB S x = false := by unfold askB; rw [decide_eq_false e, Bool.false_and]
    rw [e1, e2]
    have k : (wrE S x != 0) = true := by simpa using e
    clear e e1 e2
    generalize wrE S x = E at *
    unfold rc at *
    go_enter Try.func18, Try.ntmps18
    go_upto_region 1 with fail
    rw [← hV]
    clear hV
    go_wp2_with (go_at_call 31; refine (HT.out _).mono ?_; rintro e w2 ⟨rfl, t2⟩; clear a0 a1 a2 a3 a4 a5; have hq := HB.out _ t2; have a0 := cell_at (j := 0) (v := .int .i64 S.fl) hq.1.1 rfl; have a1 := cell_at (j := 1) (v := .int .i64 S.co) hq.1.1 rfl; have a2 := cell_at (j := 2) (v := .int .i64 S.st) hq.1.1 rfl; have a3 := cell_at (j := 3) (v := .int .i64 S.fd) hq.1.1 rfl; have a4 := cell_at (j := 4) (v := .int .i64 S.un) hq.1.1 rfl; have a5 := cell_at (j := 5) (v := .int .i64 S.tm) hq.1.1 rfl; have af := froz_at hq.1.1; have z0 := cell_at (j := 0) (v := .int .i64 0) hq.1.2 rfl; have z1 := cell_at (j := 1) (v := .int .i64 0) hq.1.2 rfl; have z2 := cell_at (j := 2) (v := .int .i64 0) hq.1.2 rfl; have z3 := cell_at (j := 3) (v := .int .i64 0) hq.1.2 rfl; have z4 := cell_at (j := 4) (v := .int .i64 0) hq.1.2 rfl; have z5 := cell_at (j := 5) (v := .int .i64 0) hq.1.2 rfl; have zf := froz_at hq.1.2; have T2 := hid hq.2; have H2 := hid hq.1; clear t2 hq)
    exact bodyPost_ret (v := .tuple #[.agg #[.int .i64 S.fl, .int .i64 S.co, .int .i64 S.st, .int .i64 S.fd, .int .i64 S.un, .int .i64 S.tm], .bool false, .int .i64 E]) (by simp [results, Try.results18, go_sem, a0, a1, a2, a3, a4, a5, z0, z1, z2, z3, z4, z5]) rfl ⟨rfl, (Touch.setCell (Touch.setCell (Touch.setCell (Touch.setCell (Touch.setCell (Touch.setCell T2.out (Or.inr (Nat.le_succ _)) _) (Or.inr (Nat.le_succ _)) _) (Or.inr (Nat.le_succ _)) _) (Or.inr (Nat.le_succ _)) _) (Or.inr (Nat.le_succ _)) _) (Or.inr (Nat.le_succ _)) _)⟩
set_option maxHeartbeats 4000000 in
theorem rdone_ (w : World) (S : Br) (hv : Iv S) (x : Int) (f : Bool) : Calls Try.prog 21 #[.agg (rc S), .int .i64 x, .bool f] w fun e w' => e = .returned (.tuple #[.agg (rc (donS S x f)), .int .i64 (wrE S x)]) ∧ Touch [] w w' := by
  have HT := hid (fun W => rwrong_ W S x)
  obtain ⟨V, hV⟩ : ∃ V, V = (w.alloc (.cells (rc S) 49)).alloc (.cells #[.int .i64 0, .int .i64 0, .int .i64 0, .int .i64 0, .int .i64 0, .int .i64 0] 49) := ⟨_, rfl⟩
  have TV : Hid (Touch [] w V) := hid (by rw [hV]; exact ((Touch.refl _ _).alloc _).alloc _)
  have hb0 : V.heap[w.heap.size]? = some (.cells (rc S) 49 (0, 0)) := by rw [hV]; exact ((Touch.refl [] _).alloc _).keep (heap_alloc_new w _) (by simp)
  have hb1 : V.heap[w.heap.size + 1]? = some (.cells #[.int .i64 0, .int .i64 0, .int .i64 0, .int .i64 0, .int .i64 0, .int .i64 0] 49 (0, 0)) := by
    rw [hV]
    have := heap_alloc_new (w.alloc (.cells (rc S) 49)) (.cells #[.int .i64 0, .int .i64 0, .int .i64 0, .int .i64 0, .int .i64 0, .int .i64 0] 49)
    rwa [World.size_alloc] at this
  have HB : Hid (∀ W, Touch [] V W → (W.heap[w.heap.size]? = some (.cells (rc S) 49 (0, 0)) ∧ W.heap[w.heap.size + 1]? = some (.cells #[.int .i64 0, .int .i64 0, .int .i64 0, .int .i64 0, .int .i64 0, .int .i64 0] 49 (0, 0))) ∧ Touch [] w W) := hid (fun W T => ⟨⟨T.keep hb0 (by simp), T.keep hb1 (by simp)⟩, TV.out.trans' T⟩)
  have a0 := cell_at (j := 0) (v := .int .i64 S.fl) hb0 rfl
  have a1 := cell_at (j := 1) (v := .int .i64 S.co) hb0 rfl
  have a2 := cell_at (j := 2) (v := .int .i64 S.st) hb0 rfl
  have a3 := cell_at (j := 3) (v := .int .i64 S.fd) hb0 rfl
  have a4 := cell_at (j := 4) (v := .int .i64 S.un) hb0 rfl
  have a5 := cell_at (j := 5) (v := .int .i64 S.tm) hb0 rfl
  clear hb0 hb1
  by_cases e : wrE S x = 0
  · obtain ⟨g2, g3⟩ : 0 ≤ x ∧ x ≤ 4611686018427387904 := by
      rcases wr_cases S x with ⟨_, e'⟩ | ⟨_, _, e'⟩ | ⟨_, _, _, g⟩
      · rw [e'] at e; cases e
      · rw [e'] at e; cases e
      · exact g
    have e1 : donS S x f = donM S x f := if_pos e
    rw [e1, e]
    rw [e] at HT
    clear e e1
    unfold donM
    have b1 := hv.d1
    have b2 := hv.d2
    have b3 := hv.f2
    have bw : wrap64 (S.fd + 1) = S.fd + 1 := by unfold wrap64; omega
    by_cases k1 : S.st = 2
    · rw [if_pos k1]
      have k3 : (S.st == 1) = false := by simp [k1]
      have k4 : (S.st == 3) = false := by simp [k1]
      clear k1 hv
      unfold rc at *
      go_enter Try.func21, Try.ntmps21
      go_upto_region 1 with fail
      rw [← hV]
      clear hV
      go_wp2_with (go_at_call 31; refine (HT.out _).mono ?_; rintro e w2 ⟨rfl, t2⟩; clear a0 a1 a2 a3 a4 a5; have hq := HB.out _ t2; have a0 := cell_at (j := 0) (v := .int .i64 S.fl) hq.1.1 rfl; have a1 := cell_at (j := 1) (v := .int .i64 S.co) hq.1.1 rfl; have a2 := cell_at (j := 2) (v := .int .i64 S.st) hq.1.1 rfl; have a3 := cell_at (j := 3) (v := .int .i64 S.fd) hq.1.1 rfl; have a4 := cell_at (j := 4) (v := .int .i64 S.un) hq.1.1 rfl; have a5 := cell_at (j := 5) (v := .int .i64 S.tm) hq.1.1 rfl; have af := froz_at hq.1.1; have z0 := cell_at (j := 0) (v := .int .i64 0) hq.1.2 rfl; have z1 := cell_at (j := 1) (v := .int .i64 0) hq.1.2 rfl; have z2 := cell_at (j := 2) (v := .int .i64 0) hq.1.2 rfl; have z3 := cell_at (j := 3) (v := .int .i64 0) hq.1.2 rfl; have z4 := cell_at (j := 4) (v := .int .i64 0) hq.1.2 rfl; have z5 := cell_at (j := 5) (v := .int .i64 0) hq.1.2 rfl; have zf := froz_at hq.1.2; have T2 := hid hq.2; have H2 := hid hq.1; clear t2 hq)
      exact bodyPost_ret (v := .tuple #[.agg #[.int .i64 S.fl, .int .i64 S.co, .int .i64 S.st, .int .i64 S.fd, .int .i64 S.un, .int .i64 x], .int .i64 0]) (by simp [results, Try.results21, go_sem, a0, a1, a2, a3, a4, a5, z0, z1, z2, z3, z4, z5]) rfl ⟨rfl, (Touch.setCell (Touch.setCell (Touch.setCell (Touch.setCell (Touch.setCell (Touch.setCell (Touch.setCell T2.out (Or.inr (Nat.le_refl _)) _) (Or.inr (Nat.le_succ _)) _) (Or.inr (Nat.le_succ _)) _) (Or.inr (Nat.le_succ _)) _) (Or.inr (Nat.le_succ _)) _) (Or.inr (Nat.le_succ _)) _) (Or.inr (Nat.le_succ _)) _)⟩
    · rw [if_neg k1]
      by_cases k5 : S.st = 3
      · have k3 : (S.st == 1) = false := by simp [k5]
        have k4 : (S.st == 3) = true := by simp [k5]
        cases f with
        | true =>
          rw [if_pos rfl]
          clear k1 k5 hv
          unfold rc at *
          go_enter Try.func21, Try.ntmps21
          go_upto_region 1 with fail
          rw [← hV]
          clear hV
          go_wp2_with (go_at_call 31; refine (HT.out _).mono ?_; rintro e w2 ⟨rfl, t2⟩; clear a0 a1 a2 a3 a4 a5; have hq := HB.out _ t2; have a0 := cell_at (j := 0) (v := .int .i64 S.fl) hq.1.1 rfl; have a1 := cell_at (j := 1) (v := .int .i64 S.co) hq.1.1 rfl; have a2 := cell_at (j := 2) (v := .int .i64 S.st) hq.1.1 rfl; have a3 := cell_at (j := 3) (v := .int .i64 S.fd) hq.1.1 rfl; have a4 := cell_at (j := 4) (v := .int .i64 S.un) hq.1.1 rfl; have a5 := cell_at (j := 5) (v := .int .i64 S.tm) hq.1.1 rfl; have af := froz_at hq.1.1; have z0 := cell_at (j := 0) (v := .int .i64 0) hq.1.2 rfl; have z1 := cell_at (j := 1) (v := .int .i64 0) hq.1.2 rfl; have z2 := cell_at (j := 2) (v := .int .i64 0) hq.1.2 rfl; have z3 := cell_at (j := 3) (v := .int .i64 0) hq.1.2 rfl; have z4 := cell_at (j := 4) (v := .int .i64 0) hq.1.2 rfl; have z5 := cell_at (j := 5) (v := .int .i64 0) hq.1.2 rfl; have zf := froz_at hq.1.2; have T2 := hid hq.2; have H2 := hid hq.1; clear t2 hq)
          exact bodyPost_ret (v := .tuple #[.agg #[.int .i64 S.fl, .int .i64 S.co, .int .i64 1, .int .i64 0, .int .i64 S.un, .int .i64 x], .int .i64 0]) (by simp [results, Try.results21, go_sem, a0, a1, a2, a3, a4, a5, z0, z1, z2, z3, z4, z5]) rfl ⟨rfl, (Touch.setCell (Touch.setCell (Touch.setCell (Touch.setCell (Touch.setCell (Touch.setCell (Touch.setCell (Touch.setCell (Touch.setCell T2.out (Or.inr (Nat.le_refl _)) _) (Or.inr (Nat.le_refl _)) _) (Or.inr (Nat.le_refl _)) _) (Or.inr (Nat.le_succ _)) _) (Or.inr (Nat.le_succ _)) _) (Or.inr (Nat.le_succ _)) _) (Or.inr (Nat.le_succ _)) _) (Or.inr (Nat.le_succ _)) _) (Or.inr (Nat.le_succ _)) _)⟩
        | false =>
          rw [if_neg (by simp), if_pos (Or.inl k5)]
          have HO := hid (fun W => ropen_ W { S with tm := x } x g2 g3 hv.c1 hv.c2)
          clear k1 k5 hv
          unfold opS at *
          dsimp only at *
          generalize aft x S.co = U at *
          unfold rc at *
          go_enter Try.func21, Try.ntmps21
          go_upto_region 1 with fail
          rw [← hV]
          clear hV
          dsimp only at HO
          go_upto_region 17 with (go_at_call 31; refine (HT.out _).mono ?_; rintro e w2 ⟨rfl, t2⟩; clear a0 a1 a2 a3 a4 a5; have hq := HB.out _ t2; have a0 := cell_at (j := 0) (v := .int .i64 S.fl) hq.1.1 rfl; have a1 := cell_at (j := 1) (v := .int .i64 S.co) hq.1.1 rfl; have a2 := cell_at (j := 2) (v := .int .i64 S.st) hq.1.1 rfl; have a3 := cell_at (j := 3) (v := .int .i64 S.fd) hq.1.1 rfl; have a4 := cell_at (j := 4) (v := .int .i64 S.un) hq.1.1 rfl; have a5 := cell_at (j := 5) (v := .int .i64 S.tm) hq.1.1 rfl; have af := froz_at hq.1.1; have z0 := cell_at (j := 0) (v := .int .i64 0) hq.1.2 rfl; have z1 := cell_at (j := 1) (v := .int .i64 0) hq.1.2 rfl; have z2 := cell_at (j := 2) (v := .int .i64 0) hq.1.2 rfl; have z3 := cell_at (j := 3) (v := .int .i64 0) hq.1.2 rfl; have z4 := cell_at (j := 4) (v := .int .i64 0) hq.1.2 rfl; have z5 := cell_at (j := 5) (v := .int .i64 0) hq.1.2 rfl; have zf := froz_at hq.1.2; have T2 := hid hq.2; have H2 := hid hq.1; clear t2 hq)
          have hb0 : (w2.setCell ⟨w.heap.size, 5, none⟩ (.int .i64 x)).heap[w.heap.size]? = some (.cells #[.int .i64 S.fl, .int .i64 S.co, .int .i64 S.st, .int .i64 S.fd, .int .i64 S.un, .int .i64 x] 49 (0, 0)) := (bset (i := 5) H2.out.1 (.int .i64 x))
          have hb1 : (w2.setCell ⟨w.heap.size, 5, none⟩ (.int .i64 x)).heap[w.heap.size + 1]? = some (.cells #[.int .i64 0, .int .i64 0, .int .i64 0, .int .i64 0, .int .i64 0, .int .i64 0] 49 (0, 0)) := (Touch.setCell (F := [w.heap.size]) (Touch.refl _ w2) (p := ⟨w.heap.size, 5, none⟩) (Or.inl (by simp)) (.int .i64 x)).keep H2.out.2 (by simp)
          have T3 := hid (Touch.setCell T2.out (p := ⟨w.heap.size, 5, none⟩) (Or.inr (Nat.le_refl _)) (.int .i64 x))
          clear a0 a1 a2 a3 a4 a5 af z0 z1 z2 z3 z4 z5 zf
          generalize (w2.setCell ⟨w.heap.size, 5, none⟩ (.int .i64 x)) = W3 at *
          have a0 := cell_at (j := 0) (v := .int .i64 S.fl) hb0 rfl
          have a1 := cell_at (j := 1) (v := .int .i64 S.co) hb0 rfl
          have a2 := cell_at (j := 2) (v := .int .i64 S.st) hb0 rfl
          have a3 := cell_at (j := 3) (v := .int .i64 S.fd) hb0 rfl
          have a4 := cell_at (j := 4) (v := .int .i64 S.un) hb0 rfl
          have a5 := cell_at (j := 5) (v := .int .i64 x) hb0 rfl
          have HB1 := hid hb1
          clear hb0 hb1
          go_wp2_with (go_at_call 33; refine (HO.out _).mono ?_; rintro e w3 ⟨rfl, t3⟩; have hb1 := t3.keep HB1.out (by simp); have z0 := cell_at (j := 0) (v := .int .i64 0) hb1 rfl; have z1 := cell_at (j := 1) (v := .int .i64 0) hb1 rfl; have z2 := cell_at (j := 2) (v := .int .i64 0) hb1 rfl; have z3 := cell_at (j := 3) (v := .int .i64 0) hb1 rfl; have z4 := cell_at (j := 4) (v := .int .i64 0) hb1 rfl; have z5 := cell_at (j := 5) (v := .int .i64 0) hb1 rfl; have zf := froz_at hb1; clear hb1; have T4 := hid (T3.out.trans' t3); clear t3)
          exact bodyPost_ret (v := .tuple #[.agg #[.int .i64 S.fl, .int .i64 S.co, .int .i64 2, .int .i64 0, .int .i64 U, .int .i64 x], .int .i64 0]) (by simp [results, Try.results21, go_sem, z0, z1, z2, z3, z4, z5]) rfl ⟨rfl, (Touch.setCell (Touch.setCell (Touch.setCell (Touch.setCell (Touch.setCell (Touch.setCell T4.out (Or.inr (Nat.le_succ _)) _) (Or.inr (Nat.le_succ _)) _) (Or.inr (Nat.le_succ _)) _) (Or.inr (Nat.le_succ _)) _) (Or.inr (Nat.le_succ _)) _) (Or.inr (Nat.le_succ _)) _)⟩
      · have k6 : S.st = 1 := by rcases hv.s with h | h | h; exact h; exact absurd h k1; exact absurd h k5
        have k3 : (S.st == 1) = true := by simp [k6]
        cases f with
        | true =>
          rw [if_pos rfl, ← k6]
          clear k1 k5 k6 hv
          unfold rc at *
          go_enter Try.func21, Try.ntmps21
          go_upto_region 1 with fail
          rw [← hV]
          clear hV
          go_wp2_with (go_at_call 31; refine (HT.out _).mono ?_; rintro e w2 ⟨rfl, t2⟩; clear a0 a1 a2 a3 a4 a5; have hq := HB.out _ t2; have a0 := cell_at (j := 0) (v := .int .i64 S.fl) hq.1.1 rfl; have a1 := cell_at (j := 1) (v := .int .i64 S.co) hq.1.1 rfl; have a2 := cell_at (j := 2) (v := .int .i64 S.st) hq.1.1 rfl; have a3 := cell_at (j := 3) (v := .int .i64 S.fd) hq.1.1 rfl; have a4 := cell_at (j := 4) (v := .int .i64 S.un) hq.1.1 rfl; have a5 := cell_at (j := 5) (v := .int .i64 S.tm) hq.1.1 rfl; have af := froz_at hq.1.1; have z0 := cell_at (j := 0) (v := .int .i64 0) hq.1.2 rfl; have z1 := cell_at (j := 1) (v := .int .i64 0) hq.1.2 rfl; have z2 := cell_at (j := 2) (v := .int .i64 0) hq.1.2 rfl; have z3 := cell_at (j := 3) (v := .int .i64 0) hq.1.2 rfl; have z4 := cell_at (j := 4) (v := .int .i64 0) hq.1.2 rfl; have z5 := cell_at (j := 5) (v := .int .i64 0) hq.1.2 rfl; have zf := froz_at hq.1.2; have T2 := hid hq.2; have H2 := hid hq.1; clear t2 hq)
          exact bodyPost_ret (v := .tuple #[.agg #[.int .i64 S.fl, .int .i64 S.co, .int .i64 S.st, .int .i64 0, .int .i64 S.un, .int .i64 x], .int .i64 0]) (by simp [results, Try.results21, go_sem, a0, a1, a2, a3, a4, a5, z0, z1, z2, z3, z4, z5]) rfl ⟨rfl, (Touch.setCell (Touch.setCell (Touch.setCell (Touch.setCell (Touch.setCell (Touch.setCell (Touch.setCell (Touch.setCell T2.out (Or.inr (Nat.le_refl _)) _) (Or.inr (Nat.le_refl _)) _) (Or.inr (Nat.le_succ _)) _) (Or.inr (Nat.le_succ _)) _) (Or.inr (Nat.le_succ _)) _) (Or.inr (Nat.le_succ _)) _) (Or.inr (Nat.le_succ _)) _) (Or.inr (Nat.le_succ _)) _)⟩
        | false =>
          rw [if_neg (by simp)]
          by_cases k7 : S.fl ≤ S.fd + 1
          · rw [if_pos (Or.inr k7)]
            have HO := hid (fun W => ropen_ W { S with tm := x, fd := S.fd + 1 } x g2 g3 hv.c1 hv.c2)
            clear k1 k5 k6 hv
            unfold opS at *
            dsimp only at *
            generalize aft x S.co = U at *
            unfold rc at *
            go_enter Try.func21, Try.ntmps21
            go_upto_region 1 with fail
            rw [← hV]
            clear hV
            dsimp only at HO
            go_upto_region 12 with (go_at_call 31; refine (HT.out _).mono ?_; rintro e w2 ⟨rfl, t2⟩; clear a0 a1 a2 a3 a4 a5; have hq := HB.out _ t2; have a0 := cell_at (j := 0) (v := .int .i64 S.fl) hq.1.1 rfl; have a1 := cell_at (j := 1) (v := .int .i64 S.co) hq.1.1 rfl; have a2 := cell_at (j := 2) (v := .int .i64 S.st) hq.1.1 rfl; have a3 := cell_at (j := 3) (v := .int .i64 S.fd) hq.1.1 rfl; have a4 := cell_at (j := 4) (v := .int .i64 S.un) hq.1.1 rfl; have a5 := cell_at (j := 5) (v := .int .i64 S.tm) hq.1.1 rfl; have af := froz_at hq.1.1; have z0 := cell_at (j := 0) (v := .int .i64 0) hq.1.2 rfl; have z1 := cell_at (j := 1) (v := .int .i64 0) hq.1.2 rfl; have z2 := cell_at (j := 2) (v := .int .i64 0) hq.1.2 rfl; have z3 := cell_at (j := 3) (v := .int .i64 0) hq.1.2 rfl; have z4 := cell_at (j := 4) (v := .int .i64 0) hq.1.2 rfl; have z5 := cell_at (j := 5) (v := .int .i64 0) hq.1.2 rfl; have zf := froz_at hq.1.2; have T2 := hid hq.2; have H2 := hid hq.1; clear t2 hq)
            have hb0 : ((w2.setCell ⟨w.heap.size, 5, none⟩ (.int .i64 x)).setCell ⟨w.heap.size, 3, none⟩ (.int .i64 (S.fd + 1))).heap[w.heap.size]? = some (.cells #[.int .i64 S.fl, .int .i64 S.co, .int .i64 S.st, .int .i64 (S.fd + 1), .int .i64 S.un, .int .i64 x] 49 (0, 0)) := (bset (i := 3) (bset (i := 5) H2.out.1 (.int .i64 x)) (.int .i64 (S.fd + 1)))
            have hb1 : ((w2.setCell ⟨w.heap.size, 5, none⟩ (.int .i64 x)).setCell ⟨w.heap.size, 3, none⟩ (.int .i64 (S.fd + 1))).heap[w.heap.size + 1]? = some (.cells #[.int .i64 0, .int .i64 0, .int .i64 0, .int .i64 0, .int .i64 0, .int .i64 0] 49 (0, 0)) := (Touch.setCell (Touch.setCell (F := [w.heap.size]) (Touch.refl _ w2) (p := ⟨w.heap.size, 5, none⟩) (Or.inl (by simp)) (.int .i64 x)) (p := ⟨w.heap.size, 3, none⟩) (Or.inl (by simp)) (.int .i64 (S.fd + 1))).keep H2.out.2 (by simp)
            have T3 := hid (Touch.setCell (Touch.setCell T2.out (p := ⟨w.heap.size, 5, none⟩) (Or.inr (Nat.le_refl _)) (.int .i64 x)) (p := ⟨w.heap.size, 3, none⟩) (Or.inr (Nat.le_refl _)) (.int .i64 (S.fd + 1)))
            clear a0 a1 a2 a3 a4 a5 af z0 z1 z2 z3 z4 z5 zf
            generalize ((w2.setCell ⟨w.heap.size, 5, none⟩ (.int .i64 x)).setCell ⟨w.heap.size, 3, none⟩ (.int .i64 (S.fd + 1))) = W3 at *
            have a0 := cell_at (j := 0) (v := .int .i64 S.fl) hb0 rfl
            have a1 := cell_at (j := 1) (v := .int .i64 S.co) hb0 rfl
            have a2 := cell_at (j := 2) (v := .int .i64 S.st) hb0 rfl
            have a3 := cell_at (j := 3) (v := .int .i64 (S.fd + 1)) hb0 rfl
            have a4 := cell_at (j := 4) (v := .int .i64 S.un) hb0 rfl
            have a5 := cell_at (j := 5) (v := .int .i64 x) hb0 rfl
            have HB1 := hid hb1
            clear hb0 hb1
            go_wp2_with (go_at_call 33; refine (HO.out _).mono ?_; rintro e w3 ⟨rfl, t3⟩; have hb1 := t3.keep HB1.out (by simp); have z0 := cell_at (j := 0) (v := .int .i64 0) hb1 rfl; have z1 := cell_at (j := 1) (v := .int .i64 0) hb1 rfl; have z2 := cell_at (j := 2) (v := .int .i64 0) hb1 rfl; have z3 := cell_at (j := 3) (v := .int .i64 0) hb1 rfl; have z4 := cell_at (j := 4) (v := .int .i64 0) hb1 rfl; have z5 := cell_at (j := 5) (v := .int .i64 0) hb1 rfl; have zf := froz_at hb1; clear hb1; have T4 := hid (T3.out.trans' t3); clear t3)
            exact bodyPost_ret (v := .tuple #[.agg #[.int .i64 S.fl, .int .i64 S.co, .int .i64 2, .int .i64 0, .int .i64 U, .int .i64 x], .int .i64 0]) (by simp [results, Try.results21, go_sem, z0, z1, z2, z3, z4, z5]) rfl ⟨rfl, (Touch.setCell (Touch.setCell (Touch.setCell (Touch.setCell (Touch.setCell (Touch.setCell T4.out (Or.inr (Nat.le_succ _)) _) (Or.inr (Nat.le_succ _)) _) (Or.inr (Nat.le_succ _)) _) (Or.inr (Nat.le_succ _)) _) (Or.inr (Nat.le_succ _)) _) (Or.inr (Nat.le_succ _)) _)⟩
          · rw [if_neg (by omega)]
            clear k1 k5 k6 hv
            unfold rc at *
            go_enter Try.func21, Try.ntmps21
            go_upto_region 1 with fail
            rw [← hV]
            clear hV
            go_wp2_with (go_at_call 31; refine (HT.out _).mono ?_; rintro e w2 ⟨rfl, t2⟩; clear a0 a1 a2 a3 a4 a5; have hq := HB.out _ t2; have a0 := cell_at (j := 0) (v := .int .i64 S.fl) hq.1.1 rfl; have a1 := cell_at (j := 1) (v := .int .i64 S.co) hq.1.1 rfl; have a2 := cell_at (j := 2) (v := .int .i64 S.st) hq.1.1 rfl; have a3 := cell_at (j := 3) (v := .int .i64 S.fd) hq.1.1 rfl; have a4 := cell_at (j := 4) (v := .int .i64 S.un) hq.1.1 rfl; have a5 := cell_at (j := 5) (v := .int .i64 S.tm) hq.1.1 rfl; have af := froz_at hq.1.1; have z0 := cell_at (j := 0) (v := .int .i64 0) hq.1.2 rfl; have z1 := cell_at (j := 1) (v := .int .i64 0) hq.1.2 rfl; have z2 := cell_at (j := 2) (v := .int .i64 0) hq.1.2 rfl; have z3 := cell_at (j := 3) (v := .int .i64 0) hq.1.2 rfl; have z4 := cell_at (j := 4) (v := .int .i64 0) hq.1.2 rfl; have z5 := cell_at (j := 5) (v := .int .i64 0) hq.1.2 rfl; have zf := froz_at hq.1.2; have T2 := hid hq.2; have H2 := hid hq.1; clear t2 hq)
            exact bodyPost_ret (v := .tuple #[.agg #[.int .i64 S.fl, .int .i64 S.co, .int .i64 S.st, .int .i64 (S.fd + 1), .int .i64 S.un, .int .i64 x], .int .i64 0]) (by simp [results, Try.results21, go_sem, a0, a1, a2, a3, a4, a5, z0, z1, z2, z3, z4, z5]) rfl ⟨rfl, (Touch.setCell (Touch.setCell (Touch.setCell (Touch.setCell (Touch.setCell (Touch.setCell (Touch.setCell (Touch.setCell T2.out (Or.inr (Nat.le_refl _)) _) (Or.inr (Nat.le_refl _)) _) (Or.inr (Nat.le_succ _)) _) (Or.inr (Nat.le_succ _)) _) (Or.inr (Nat.le_succ _)) _) (Or.inr (Nat.le_succ _)) _) (Or.inr (Nat.le_succ _)) _) (Or.inr (Nat.le_succ _)) _)⟩
  · have e1 : donS S x f = S := if_neg e
    rw [e1]
    have k : (wrE S x != 0) = true := by simpa using e
    clear e e1 hv
    generalize wrE S x = E at *
    unfold rc at *
    go_enter Try.func21, Try.ntmps21
    go_upto_region 1 with fail
    rw [← hV]
    clear hV
    go_wp2_with (go_at_call 31; refine (HT.out _).mono ?_; rintro e w2 ⟨rfl, t2⟩; clear a0 a1 a2 a3 a4 a5; have hq := HB.out _ t2; have a0 := cell_at (j := 0) (v := .int .i64 S.fl) hq.1.1 rfl; have a1 := cell_at (j := 1) (v := .int .i64 S.co) hq.1.1 rfl; have a2 := cell_at (j := 2) (v := .int .i64 S.st) hq.1.1 rfl; have a3 := cell_at (j := 3) (v := .int .i64 S.fd) hq.1.1 rfl; have a4 := cell_at (j := 4) (v := .int .i64 S.un) hq.1.1 rfl; have a5 := cell_at (j := 5) (v := .int .i64 S.tm) hq.1.1 rfl; have af := froz_at hq.1.1; have z0 := cell_at (j := 0) (v := .int .i64 0) hq.1.2 rfl; have z1 := cell_at (j := 1) (v := .int .i64 0) hq.1.2 rfl; have z2 := cell_at (j := 2) (v := .int .i64 0) hq.1.2 rfl; have z3 := cell_at (j := 3) (v := .int .i64 0) hq.1.2 rfl; have z4 := cell_at (j := 4) (v := .int .i64 0) hq.1.2 rfl; have z5 := cell_at (j := 5) (v := .int .i64 0) hq.1.2 rfl; have zf := froz_at hq.1.2; have T2 := hid hq.2; have H2 := hid hq.1; clear t2 hq)
    exact bodyPost_ret (v := .tuple #[.agg #[.int .i64 S.fl, .int .i64 S.co, .int .i64 S.st, .int .i64 S.fd, .int .i64 S.un, .int .i64 S.tm], .int .i64 E]) (by simp [results, Try.results21, go_sem, a0, a1, a2, a3, a4, a5, z0, z1, z2, z3, z4, z5]) rfl ⟨rfl, (Touch.setCell (Touch.setCell (Touch.setCell (Touch.setCell (Touch.setCell (Touch.setCell T2.out (Or.inr (Nat.le_succ _)) _) (Or.inr (Nat.le_succ _)) _) (Or.inr (Nat.le_succ _)) _) (Or.inr (Nat.le_succ _)) _) (Or.inr (Nat.le_succ _)) _) (Or.inr (Nat.le_succ _)) _)⟩
end Go.Proofs.Ytkodabhkhifggaa
