/- The contracts of a row's seats, of Seats' seats and of callers; no conditions but those that each states. -/
import Derived.Test.YtlmmljmhfghlnaaVms
import Derived.Test.YtlmmljmhfghlnaaHlg
namespace Go.Proofs.Ytlmmljmhfghlnaa
open Go.RowKit Go.Maps Go.ChangeMaps
set_option linter.unusedVariables false
set_option linter.unusedSimpArgs false
def lenOf : Value → Nat
  | .slice _ n _ => n
  | _ => 0
theorem infoSeat : (Try.prog.info? 33).map (fun i => (i.zero, i.size, i.bytes)) = some (some (.agg #[.int .i64 0, .int .i64 0, .int .i64 0]), 3, 24) := by kernel_rfl
theorem Rs.new (w : World) (cs : Array Value) (t k : Nat) (hs : cs.size = k) : Rs t k (w.alloc (.cells cs t)) (.slice (some ⟨w.heap.size, 0, none⟩) 1 1) 1 cs.toList := by
  refine ⟨by simp [hs], _, _, rfl, Nat.le_refl _, fun e => (by cases e), fun _ => ⟨_, 0, rfl, cs, _, heap_alloc_new w _, fun j u hu => ?_⟩⟩
  rw [Nat.zero_add, ← Array.getElem?_toList]
  exact hu
def SlE (e : Ending) (w w' : World) (ys : List Se) : Prop := ∃ a c, e = .returned (.slice a ys.length c) ∧ w'.ownsRow w.heap.size 33 3 (.slice a ys.length c) ys.length (ys.flatMap sc) ∧ Touch [] w w'
theorem take_snoc {X : Type} {l : List X} {i : Nat} {x : X} (h : l[i]? = some x) : l.take (i + 1) = l.take i ++ [x] := by
  rw [List.take_add_one, h]
  rfl
set_option maxHeartbeats 2000000 in
theorem rseats0 (w : World) (rb : Nat) (xs : List Nat) (ys : List Se) (hr : w.heap[rb]? = some (.cells (rowC xs) 82 (0, 0))) (hl : ys.length = xs.length) (hx : ∀ i q, xs[i]? = some q → ∃ y a b, ys[i]? = some y ∧ w.heap[q]? = some (.cells (chc y a b) 69 (0, 0)) ∧ b 0 = xs[i + 1]?) (hb : xs.length ≤ 5000000000000) :
    Calls Try.prog 38 #[PT rb, .int .i64 0] w fun e w' => SlE e w w' ys := by
  obtain ⟨n, hn⟩ : ∃ n, n = xs.length := ⟨_, rfl⟩
  obtain ⟨o0, ho0⟩ : ∃ o0, o0 = (xs[0]?).map (fun q => (⟨q, 0, none⟩ : Addr)) := ⟨_, rfl⟩
  have c0 := cell_at (j := 0) (v := .pointer o0) hr (by rw [ho0, ← List.head?_eq_getElem?]; rfl)
  have HO0 := hid ho0
  have HN := hid hn
  have HX := hid hx
  have HB := hid hb
  have HL := hid hl
  clear hr hx hb hl hn ho0
  unfold PT
  go_enter Try.func38, Try.ntmps38
  go_wp2
  go_loopw [5, 6] (fun s5 s6 wr => ∃ (i : Nat) (a : Option Addr) (c : Nat) (o : Option Addr), s5 = .slice a i c ∧ s6 = .pointer o ∧ Hid (i ≤ n ∧ o = (xs[i]?).map (fun q => (⟨q, 0, none⟩ : Addr)) ∧ Touch [] w wr ∧ wr.ownsRow w.heap.size 33 3 (.slice a i c) i ((ys.take i).flatMap sc))) (fun s5 _ _ => n - lenOf s5)
  case atStart => exact ⟨0, none, 0, o0, rfl, rfl, Nat.zero_le _, HO0.out, Touch.refl _ _, World.ownsRow_nil _ _ _ _⟩
  case round =>
    obtain ⟨i, a, c, o, rfl, rfl, HR⟩ := hrel
    clear c0 HO0
    cases hq : xs[i]? with
    | some q =>
      obtain ⟨y, A, B, hy, hc, hbk⟩ := HX.out i q hq
      have hlt : i < n := by rw [HN.out]; exact (List.getElem?_eq_some_iff.1 hq).1
      obtain rfl : o = some ⟨q, 0, none⟩ := by rw [HR.out.2.1, hq]; rfl
      obtain ⟨o2, ho2⟩ : ∃ o2, o2 = (xs[i + 1]?).map (fun q => (⟨q, 0, none⟩ : Addr)) := ⟨_, rfl⟩
      have HC : Hid (∀ w', Touch [] w w' → w'.heap[q]? = some (.cells (chc y A B) 69 (0, 0))) := hid (fun w' t => t.keep hc (by simp))
      have HC6 : Hid (∀ w', Touch [] w w' → w'.cell? ⟨q, 6, none⟩ = some (.pointer o2)) := hid (fun w' t => cell_at (HC.out w' t) (by have := chc_b (x := y) (a := A) (b := B) (k := 0) (by omega); rw [hbk] at this; rw [ho2]; exact this))
      have e0 := cell_at (j := 0) (v := .int .i64 y.1) (HC.out _ HR.out.2.2.1) rfl
      have e1 := cell_at (j := 1) (v := .int .i64 y.2.1) (HC.out _ HR.out.2.2.1) rfl
      have e2 := cell_at (j := 2) (v := .int .i64 y.2.2) (HC.out _ HR.out.2.2.1) rfl
      have HI := hid (And.intro hlt (And.intro hy ho2))
      have HTA : Hid (∀ ob, Touch [] w (wr.alloc ob) ∧ (wr.alloc ob).ownsRow w.heap.size 33 3 (.slice a i c) i ((ys.take i).flatMap sc)) := hid (fun ob => ⟨HR.out.2.2.1.alloc _, own_touch HR.out.2.2.2 ((Touch.refl [] _).alloc _) (fun _ _ e => by cases e)⟩)
      have HRS : Hid (Rs 33 3 (wr.alloc (.cells #[.int .i64 y.1, .int .i64 y.2.1, .int .i64 y.2.2] 33)) (.slice (some ⟨wr.heap.size, 0, none⟩) 1 1) 1 (sc y)) := hid (Rs.new wr #[.int .i64 y.1, .int .i64 y.2.1, .int .i64 y.2.2] 33 3 rfl)
      clear hq hy hc hbk hlt ho2
      go_wp2_with (at_builtin; refine wpList_append_rs rfl _ _ 47 33 rfl _ 3 24 infoSeat Try.underlying47 rfl (by decide) w.heap.size _ i _ rfl (HTA.out _).2 (.slice (some ⟨wr.heap.size, 0, none⟩) 1 1) 1 (sc y) rfl HRS.out (by simp [sc, Value.oneCell']) (by have := HI.out.1; have := HN.out; have := HB.out; unfold maxLen; omega) (by have := HI.out.1; have := HN.out; have := HB.out; omega) (HTA.out _).1.size ?_; intro v5 w5 o5 g5 _; have t5 := touch_grown (HTA.out _).1 g5 (HTA.out _).2 (Nat.le_refl _); have c6 := HC6.out _ t5; have T5 := hid t5; obtain ⟨a5, c5, e5⟩ := own_form o5; subst e5; have O5 := hid o5; clear o5 g5 t5 e0 e1 e2)
      go_roundw
      case rel => exact ⟨i + 1, a5, c5, o2, rfl, rfl, HI.out.1, HI.out.2.2, T5.out, by rw [take_snoc HI.out.2.1, List.flatMap_append]; simpa using O5.out⟩
      case measure => simp [lenOf]; have := HI.out.1; omega
    | none =>
      obtain rfl : o = none := by rw [HR.out.2.1, hq]; rfl
      have hge : xs.length ≤ i := List.getElem?_eq_none_iff.1 hq
      have HE : Hid (SlE (.returned (.slice a i c)) w wr ys) := hid (by
        have h1 := HR.out.1
        have h2 := HN.out
        have h3 := HL.out
        obtain ⟨e⟩ : i = ys.length := by omega
        have := HR.out.2.2.2
        rw [List.take_length] at this
        exact ⟨a, c, rfl, this, HR.out.2.2.1⟩)
      clear HR hq hge
      go_wp2
      go_ret
      exact HE.out
set_option maxHeartbeats 2000000 in
theorem rseats1 (w : World) (rb : Nat) (xs : List Nat) (ys : List Se) (hr : w.heap[rb]? = some (.cells (rowC xs) 82 (0, 0))) (hl : ys.length = xs.length) (hx : ∀ i q, xs[i]? = some q → ∃ y a b, ys[i]? = some y ∧ w.heap[q]? = some (.cells (chc y a b) 69 (0, 0)) ∧ b 1 = xs[i + 1]?) (hb : xs.length ≤ 5000000000000) :
    Calls Try.prog 38 #[PT rb, .int .i64 1] w fun e w' => SlE e w w' ys := by
  obtain ⟨n, hn⟩ : ∃ n, n = xs.length := ⟨_, rfl⟩
  obtain ⟨o0, ho0⟩ : ∃ o0, o0 = (xs[0]?).map (fun q => (⟨q, 0, none⟩ : Addr)) := ⟨_, rfl⟩
  have c0 := cell_at (j := 0) (v := .pointer o0) hr (by rw [ho0, ← List.head?_eq_getElem?]; rfl)
  have HO0 := hid ho0
  have HN := hid hn
  have HX := hid hx
  have HB := hid hb
  have HL := hid hl
  clear hr hx hb hl hn ho0
  unfold PT
  go_enter Try.func38, Try.ntmps38
  go_wp2
  go_loopw [5, 6] (fun s5 s6 wr => ∃ (i : Nat) (a : Option Addr) (c : Nat) (o : Option Addr), s5 = .slice a i c ∧ s6 = .pointer o ∧ Hid (i ≤ n ∧ o = (xs[i]?).map (fun q => (⟨q, 0, none⟩ : Addr)) ∧ Touch [] w wr ∧ wr.ownsRow w.heap.size 33 3 (.slice a i c) i ((ys.take i).flatMap sc))) (fun s5 _ _ => n - lenOf s5)
  case atStart => exact ⟨0, none, 0, o0, rfl, rfl, Nat.zero_le _, HO0.out, Touch.refl _ _, World.ownsRow_nil _ _ _ _⟩
  case round =>
    obtain ⟨i, a, c, o, rfl, rfl, HR⟩ := hrel
    clear c0 HO0
    cases hq : xs[i]? with
    | some q =>
      obtain ⟨y, A, B, hy, hc, hbk⟩ := HX.out i q hq
      have hlt : i < n := by rw [HN.out]; exact (List.getElem?_eq_some_iff.1 hq).1
      obtain rfl : o = some ⟨q, 0, none⟩ := by rw [HR.out.2.1, hq]; rfl
      obtain ⟨o2, ho2⟩ : ∃ o2, o2 = (xs[i + 1]?).map (fun q => (⟨q, 0, none⟩ : Addr)) := ⟨_, rfl⟩
      have HC : Hid (∀ w', Touch [] w w' → w'.heap[q]? = some (.cells (chc y A B) 69 (0, 0))) := hid (fun w' t => t.keep hc (by simp))
      have HC6 : Hid (∀ w', Touch [] w w' → w'.cell? ⟨q, 7, none⟩ = some (.pointer o2)) := hid (fun w' t => cell_at (HC.out w' t) (by have := chc_b (x := y) (a := A) (b := B) (k := 1) (by omega); rw [hbk] at this; rw [ho2]; exact this))
      have e0 := cell_at (j := 0) (v := .int .i64 y.1) (HC.out _ HR.out.2.2.1) rfl
      have e1 := cell_at (j := 1) (v := .int .i64 y.2.1) (HC.out _ HR.out.2.2.1) rfl
      have e2 := cell_at (j := 2) (v := .int .i64 y.2.2) (HC.out _ HR.out.2.2.1) rfl
      have HI := hid (And.intro hlt (And.intro hy ho2))
      have HTA : Hid (∀ ob, Touch [] w (wr.alloc ob) ∧ (wr.alloc ob).ownsRow w.heap.size 33 3 (.slice a i c) i ((ys.take i).flatMap sc)) := hid (fun ob => ⟨HR.out.2.2.1.alloc _, own_touch HR.out.2.2.2 ((Touch.refl [] _).alloc _) (fun _ _ e => by cases e)⟩)
      have HRS : Hid (Rs 33 3 (wr.alloc (.cells #[.int .i64 y.1, .int .i64 y.2.1, .int .i64 y.2.2] 33)) (.slice (some ⟨wr.heap.size, 0, none⟩) 1 1) 1 (sc y)) := hid (Rs.new wr #[.int .i64 y.1, .int .i64 y.2.1, .int .i64 y.2.2] 33 3 rfl)
      clear hq hy hc hbk hlt ho2
      go_wp2_with (at_builtin; refine wpList_append_rs rfl _ _ 47 33 rfl _ 3 24 infoSeat Try.underlying47 rfl (by decide) w.heap.size _ i _ rfl (HTA.out _).2 (.slice (some ⟨wr.heap.size, 0, none⟩) 1 1) 1 (sc y) rfl HRS.out (by simp [sc, Value.oneCell']) (by have := HI.out.1; have := HN.out; have := HB.out; unfold maxLen; omega) (by have := HI.out.1; have := HN.out; have := HB.out; omega) (HTA.out _).1.size ?_; intro v5 w5 o5 g5 _; have t5 := touch_grown (HTA.out _).1 g5 (HTA.out _).2 (Nat.le_refl _); have c6 := HC6.out _ t5; have T5 := hid t5; obtain ⟨a5, c5, e5⟩ := own_form o5; subst e5; have O5 := hid o5; clear o5 g5 t5 e0 e1 e2)
      go_roundw
      case rel => exact ⟨i + 1, a5, c5, o2, rfl, rfl, HI.out.1, HI.out.2.2, T5.out, by rw [take_snoc HI.out.2.1, List.flatMap_append]; simpa using O5.out⟩
      case measure => simp [lenOf]; have := HI.out.1; omega
    | none =>
      obtain rfl : o = none := by rw [HR.out.2.1, hq]; rfl
      have hge : xs.length ≤ i := List.getElem?_eq_none_iff.1 hq
      have HE : Hid (SlE (.returned (.slice a i c)) w wr ys) := hid (by
        have h1 := HR.out.1
        have h2 := HN.out
        have h3 := HL.out
        obtain ⟨e⟩ : i = ys.length := by omega
        have := HR.out.2.2.2
        rw [List.take_length] at this
        exact ⟨a, c, rfl, this, HR.out.2.2.1⟩)
      clear HR hq hge
      go_wp2
      go_ret
      exact HE.out
set_option maxHeartbeats 2000000 in
theorem rseats2 (w : World) (rb : Nat) (xs : List Nat) (ys : List Se) (hr : w.heap[rb]? = some (.cells (rowC xs) 82 (0, 0))) (hl : ys.length = xs.length) (hx : ∀ i q, xs[i]? = some q → ∃ y a b, ys[i]? = some y ∧ w.heap[q]? = some (.cells (chc y a b) 69 (0, 0)) ∧ b 2 = xs[i + 1]?) (hb : xs.length ≤ 5000000000000) :
    Calls Try.prog 38 #[PT rb, .int .i64 2] w fun e w' => SlE e w w' ys := by
  obtain ⟨n, hn⟩ : ∃ n, n = xs.length := ⟨_, rfl⟩
  obtain ⟨o0, ho0⟩ : ∃ o0, o0 = (xs[0]?).map (fun q => (⟨q, 0, none⟩ : Addr)) := ⟨_, rfl⟩
  have c0 := cell_at (j := 0) (v := .pointer o0) hr (by rw [ho0, ← List.head?_eq_getElem?]; rfl)
  have HO0 := hid ho0
  have HN := hid hn
  have HX := hid hx
  have HB := hid hb
  have HL := hid hl
  clear hr hx hb hl hn ho0
  unfold PT
  go_enter Try.func38, Try.ntmps38
  go_wp2
  go_loopw [5, 6] (fun s5 s6 wr => ∃ (i : Nat) (a : Option Addr) (c : Nat) (o : Option Addr), s5 = .slice a i c ∧ s6 = .pointer o ∧ Hid (i ≤ n ∧ o = (xs[i]?).map (fun q => (⟨q, 0, none⟩ : Addr)) ∧ Touch [] w wr ∧ wr.ownsRow w.heap.size 33 3 (.slice a i c) i ((ys.take i).flatMap sc))) (fun s5 _ _ => n - lenOf s5)
  case atStart => exact ⟨0, none, 0, o0, rfl, rfl, Nat.zero_le _, HO0.out, Touch.refl _ _, World.ownsRow_nil _ _ _ _⟩
  case round =>
    obtain ⟨i, a, c, o, rfl, rfl, HR⟩ := hrel
    clear c0 HO0
    cases hq : xs[i]? with
    | some q =>
      obtain ⟨y, A, B, hy, hc, hbk⟩ := HX.out i q hq
      have hlt : i < n := by rw [HN.out]; exact (List.getElem?_eq_some_iff.1 hq).1
      obtain rfl : o = some ⟨q, 0, none⟩ := by rw [HR.out.2.1, hq]; rfl
      obtain ⟨o2, ho2⟩ : ∃ o2, o2 = (xs[i + 1]?).map (fun q => (⟨q, 0, none⟩ : Addr)) := ⟨_, rfl⟩
      have HC : Hid (∀ w', Touch [] w w' → w'.heap[q]? = some (.cells (chc y A B) 69 (0, 0))) := hid (fun w' t => t.keep hc (by simp))
      have HC6 : Hid (∀ w', Touch [] w w' → w'.cell? ⟨q, 8, none⟩ = some (.pointer o2)) := hid (fun w' t => cell_at (HC.out w' t) (by have := chc_b (x := y) (a := A) (b := B) (k := 2) (by omega); rw [hbk] at this; rw [ho2]; exact this))
      have e0 := cell_at (j := 0) (v := .int .i64 y.1) (HC.out _ HR.out.2.2.1) rfl
      have e1 := cell_at (j := 1) (v := .int .i64 y.2.1) (HC.out _ HR.out.2.2.1) rfl
      have e2 := cell_at (j := 2) (v := .int .i64 y.2.2) (HC.out _ HR.out.2.2.1) rfl
      have HI := hid (And.intro hlt (And.intro hy ho2))
      have HTA : Hid (∀ ob, Touch [] w (wr.alloc ob) ∧ (wr.alloc ob).ownsRow w.heap.size 33 3 (.slice a i c) i ((ys.take i).flatMap sc)) := hid (fun ob => ⟨HR.out.2.2.1.alloc _, own_touch HR.out.2.2.2 ((Touch.refl [] _).alloc _) (fun _ _ e => by cases e)⟩)
      have HRS : Hid (Rs 33 3 (wr.alloc (.cells #[.int .i64 y.1, .int .i64 y.2.1, .int .i64 y.2.2] 33)) (.slice (some ⟨wr.heap.size, 0, none⟩) 1 1) 1 (sc y)) := hid (Rs.new wr #[.int .i64 y.1, .int .i64 y.2.1, .int .i64 y.2.2] 33 3 rfl)
      clear hq hy hc hbk hlt ho2
      go_wp2_with (at_builtin; refine wpList_append_rs rfl _ _ 47 33 rfl _ 3 24 infoSeat Try.underlying47 rfl (by decide) w.heap.size _ i _ rfl (HTA.out _).2 (.slice (some ⟨wr.heap.size, 0, none⟩) 1 1) 1 (sc y) rfl HRS.out (by simp [sc, Value.oneCell']) (by have := HI.out.1; have := HN.out; have := HB.out; unfold maxLen; omega) (by have := HI.out.1; have := HN.out; have := HB.out; omega) (HTA.out _).1.size ?_; intro v5 w5 o5 g5 _; have t5 := touch_grown (HTA.out _).1 g5 (HTA.out _).2 (Nat.le_refl _); have c6 := HC6.out _ t5; have T5 := hid t5; obtain ⟨a5, c5, e5⟩ := own_form o5; subst e5; have O5 := hid o5; clear o5 g5 t5 e0 e1 e2)
      go_roundw
      case rel => exact ⟨i + 1, a5, c5, o2, rfl, rfl, HI.out.1, HI.out.2.2, T5.out, by rw [take_snoc HI.out.2.1, List.flatMap_append]; simpa using O5.out⟩
      case measure => simp [lenOf]; have := HI.out.1; omega
    | none =>
      obtain rfl : o = none := by rw [HR.out.2.1, hq]; rfl
      have hge : xs.length ≤ i := List.getElem?_eq_none_iff.1 hq
      have HE : Hid (SlE (.returned (.slice a i c)) w wr ys) := hid (by
        have h1 := HR.out.1
        have h2 := HN.out
        have h3 := HL.out
        obtain ⟨e⟩ : i = ys.length := by omega
        have := HR.out.2.2.2
        rw [List.take_length] at this
        exact ⟨a, c, rfl, this, HR.out.2.2.1⟩)
      clear HR hq hge
      go_wp2
      go_ret
      exact HE.out
theorem rseats_ (w : World) (rb k : Nat) (hk : k < 3) (xs : List Nat) (ys : List Se) (hr : w.heap[rb]? = some (.cells (rowC xs) 82 (0, 0))) (hl : ys.length = xs.length) (hx : ∀ i q, xs[i]? = some q → ∃ y a b, ys[i]? = some y ∧ w.heap[q]? = some (.cells (chc y a b) 69 (0, 0)) ∧ b k = xs[i + 1]?) (hb : xs.length ≤ 5000000000000) :
    Calls Try.prog 38 #[PT rb, .int .i64 (k : Int)] w fun e w' => SlE e w w' ys := by
  match k, hk with
  | 0, _ => exact rseats0 w rb xs ys hr hl hx hb
  | 1, _ => exact rseats1 w rb xs ys hr hl hx hb
  | 2, _ => exact rseats2 w rb xs ys hr hl hx hb
end Go.Proofs.Ytlmmljmhfghlnaa
