/- The library's SortFunc at no hot keys at all, and its Clone at hot keys; no conditions but those that each states. -/
import Derived.Test.YtbadlkjffelkhaaXhq
import Derived.Test.YtbadlkjffelkhaaXco
namespace Go.Proofs.Ytbadlkjffelkhaa.Sk
open Go.RowKit Go.Maps Go.ChangeMaps
set_option maxRecDepth 100000
set_option linter.unusedVariables false
set_option linter.unusedSimpArgs false
theorem len64_0 (w : World) : Calls Try.prog 68 #[.int .u64 0] w fun e w' => e = .returned (.int .i64 0) ∧ w' = w := by
  have hl : Lib.len8 0 = 0 := by decide
  go_enter Try.func68, Try.ntmps68
  go_wp2
  exact bodyPost_ret (v := .int .i64 0) (by simp [results, Try.results68, go_sem, hl]) rfl ⟨rfl, rfl⟩
theorem len_0 (w : World) : Calls Try.prog 51 #[.int .u64 0] w fun e w' => e = .returned (.int .i64 0) ∧ w' = w := by
  have H := hid len64_0
  go_enter Try.func51, Try.ntmps51
  go_wp2_with (go_at_call 68; refine (H.out _).mono ?_; rintro e w2 ⟨rfl, rfl⟩)
  go_ret
  exact ⟨rfl, rfl⟩
theorem ins_0 (f : Value) (w : World) : Calls Try.prog 59 #[.slice none 0 0, .int .i64 0, .int .i64 0, f] w fun e w' => e = .returned (.tuple #[]) ∧ Touch [] w w' := by
  go_enter Try.func59, Try.ntmps59
  go_wp2
  go_loopw [8] (fun s8 wr => s8 = .int .i64 1 ∧ Touch [] w wr) (fun _ _ => 0)
  case atStart => exact ⟨rfl, Touch.refl _ _⟩
  case round =>
    obtain ⟨rfl, T⟩ := hrel
    go_wp2
    go_end0
    exact ⟨rfl, T⟩
theorem pdq_0 (f : Value) (w : World) : Calls Try.prog 50 #[.slice none 0 0, .int .i64 0, .int .i64 0, .int .i64 0, f] w fun e w' => e = .returned (.tuple #[]) ∧ Touch [] w w' := by
  have H := hid ins_0
  go_enter Try.func50, Try.ntmps50
  go_wp2
  go_loopw [1, 2, 3] (fun s1 s2 s3 wr => s1 = .int .i64 0 ∧ s2 = .int .i64 0 ∧ Touch [] w wr) (fun _ _ _ _ => 0)
  case atStart => exact ⟨rfl, rfl, Touch.refl _ _⟩
  case round =>
    obtain ⟨rfl, rfl, T⟩ := hrel
    go_wp2_with (go_at_call 59; refine (H.out _ _).mono ?_; rintro e w2 ⟨rfl, t2⟩)
    exact bodyPost_ret (v := .tuple #[]) (by simp [results, Try.results50, go_sem]) rfl ⟨rfl, T.trans' t2⟩
theorem sort_0 (f : Value) (w : World) : Calls Try.prog 38 #[.slice none 0 0, f] w fun e w' => e = .returned (.tuple #[]) ∧ Touch [] w w' := by
  have H := hid pdq_0
  have HL := hid len_0
  go_enter Try.func38, Try.ntmps38
  go_wp2_with (first | (go_at_call 51; refine (HL.out _).mono ?_; rintro e w2 ⟨rfl, rfl⟩) | (go_at_call 50; refine (H.out _ _).mono ?_; rintro e w2 ⟨rfl, t2⟩))
  go_end0
  exact ⟨rfl, t2⟩
theorem eqH (W : World) (a : Option Addr) (n c : Nat) : (binOp .eql 52 (.slice a n c) (.slice none 0 0)).run Try.prog W = .ok (.bool a.isNone) W := Lib.run_eql_slice_nil W _ _ a n c 0 0 Try.underlying52
theorem rowH_one (L : List Ht) : ∀ y ∈ L.flatMap rowH, y.oneCell' = true := fun y hy => by
  obtain ⟨x, _, hx⟩ := List.mem_flatMap.1 hy
  simp only [rowH, List.mem_cons, List.not_mem_nil, or_false] at hx
  rcases hx with rfl | rfl | rfl <;> rfl
theorem next_any {L cap : Nat} (h : cap < L) : Builtin.nextslicecap L cap ≤ L + L / 4 + 512 := by
  unfold Builtin.nextslicecap
  split
  · omega
  · split
    · omega
    · rw [growBy_four]
      repeat' split
      all_goals omega
set_option maxHeartbeats 1000000 in
theorem cloneH_ {w : World} {a : Option Addr} {m c : Nat} {L : List Ht} (h : Rs 60 3 w (.slice a m c) m (L.flatMap rowH)) (hl : m ≤ 5864062014635) : Calls Try.prog 40 #[.slice a m c] w fun e w' => ∃ a' c', e = .returned (.slice a' m c') ∧ Rs 60 3 w' (.slice a' m c') m (L.flatMap rowH) ∧ Touch [] w w' := by
  have q33 := eqH
  cases a with
  | none =>
    have em : c = 0 ∧ m = 0 := by
      obtain ⟨_, a', c', e, h1, h2, _⟩ := h
      cases e
      exact ⟨h2 rfl, by have := h2 rfl; omega⟩
    obtain ⟨rfl, rfl⟩ := em
    have HR := hid h
    clear h
    go_enter Try.func40, Try.ntmps40
    go_wp2
    go_ret
    exact ⟨none, 0, rfl, HR.out, Touch.refl _ _⟩
  | some ad =>
    have HR : Hid (∀ ob, Rs 60 3 (w.alloc ob) (.slice (some ad) m c) m (L.flatMap rowH)) := hid (fun ob => h.keep0 ((Touch.refl [] _).alloc _))
    have HM : Hid ((w.alloc (.cells #[] 60)).ownsRow w.heap.size 60 3 (.slice (some ⟨w.heap.size, 0, none⟩) 0 0) 0 []) := World.ownsRow_made (e := 60) (size := 3) w #[] 0 (Nat.le_refl _) (by unfold maxLen; omega) rfl
    have HO := hid (rowH_one L)
    have HE : Hid (∀ v' w', w'.ownsRow w.heap.size 60 3 v' (0 + m) ([] ++ L.flatMap rowH) → (w.alloc (.cells #[] 60)).grownBy w' (some w.heap.size) → ∃ a' c', v' = .slice a' m c' ∧ Rs 60 3 w' v' m (L.flatMap rowH) ∧ Touch [] w w') := hid (fun v' w' r gr => by
      rw [Nat.zero_add, List.nil_append] at r
      obtain ⟨a', c', e1⟩ := own_form r
      exact ⟨a', c', e1, Rs.of_own r, ((Touch.refl [] w).alloc _).grown gr (fun k hk => Or.inr (by cases hk; exact Nat.le_refl _))⟩)
    clear h
    generalize L.flatMap rowH = vs at *
    by_cases hm : 0 < m
    · go_enter Try.func40, Try.ntmps40
      go_wp2_with (at_builtin; refine wpList_append_big rfl _ _ 52 60 rfl _ 3 32 infoH Try.underlying52 rfl (by decide) w.heap.size _ 0 [] rfl HM.out _ m vs rfl (HR.out _) hm HO.out (by unfold maxLen; omega) (fun cap q1 q2 => by have := next_any q2; omega) (by simp) ?_; intro v5 w5 o5 g5 _; obtain ⟨a', c', e1, e2⟩ := HE.out _ _ o5 g5; subst e1; have O5 := hid e2; clear o5 g5 e2)
      go_ret
      exact ⟨a', c', rfl, O5.out.1, O5.out.2⟩
    · have em : m = 0 := by omega
      subst em
      clear hm
      go_enter Try.func40, Try.ntmps40
      go_wp2_with (at_builtin; refine wpList_append_rs rfl _ _ 52 60 rfl _ 3 32 infoH Try.underlying52 rfl (by decide) w.heap.size _ 0 [] rfl HM.out _ 0 vs rfl (HR.out _) HO.out (by unfold maxLen; omega) (by omega) (by simp) ?_; intro v5 w5 o5 g5 _; obtain ⟨a', c', e1, e2⟩ := HE.out _ _ o5 g5; subst e1; have O5 := hid e2; clear o5 g5 e2)
      go_ret
      exact ⟨a', c', rfl, O5.out.1, O5.out.2⟩
end Go.Proofs.Ytbadlkjffelkhaa.Sk
