/- The law's look whether the program is awake; nil tokens, and the walk of the law of them. -/
import Derived.Test.YtbjnajiicljnbaaCln
namespace Go.Proofs.Ytbjnajiicljnbaa
open Go.RowKit Go.Maps Go.ChangeMaps
set_option linter.unusedVariables false
set_option maxHeartbeats 1000000 in
theorem awake7 (w : World) : Calls Try.prog 7 #[] w fun e w' => e = .returned (.bool true) ∧ Touch [] w w' := by
  have HN := hid (new6 w)
  have ok1 : Ok (makeS [] 0) := Ok.start.make (Nat.le_refl _)
  have ok2 : Ok (makeS (makeS [] 0) 1) := ok1.make (by decide)
  have hg : gnL (makeS (makeS [] 0) 1) 1 = [1, 2] := by decide
  have HM1 : Hid (∀ w1, Tn w1 w.heap.size (.slice none 0 0) [] → Touch [] w w1 → Calls Try.prog 17 #[PT w.heap.size, .int .i64 0] w1 fun e w' => e = .returned (.tuple #[.int .i64 1, .int .i64 0]) ∧ ∃ sl, Tn w' w.heap.size sl (makeS [] 0) ∧ Touch [] w w' ∧ ∀ k, k ∈ ft w.heap.size sl → w.heap.size ≤ k) := fun w1 h T => by
    refine (make17_top w1 _ _ _ h (by simp)).mono ?_
    rintro e w' ⟨he, sl', r1, r2, r3⟩
    refine ⟨he, sl', r1, T.trans r2 (fun i hi => Or.inr (by simp [ft, Value.ownBlock] at hi; omega)), fun k hk => ?_⟩
    rcases r3 k hk with e | e
    · simp [ft, Value.ownBlock] at e; omega
    · exact Nat.le_trans T.size e
  have HM2 : Hid (∀ w1 sl, Tn w1 w.heap.size sl (makeS [] 0) → Touch [] w w1 → (∀ k, k ∈ ft w.heap.size sl → w.heap.size ≤ k) → Calls Try.prog 17 #[PT w.heap.size, .int .i64 1] w1 fun e w' => e = .returned (.tuple #[.int .i64 2, .int .i64 0]) ∧ ∃ sl, Tn w' w.heap.size sl (makeS (makeS [] 0) 1) ∧ Touch [] w w' ∧ ∀ k, k ∈ ft w.heap.size sl → w.heap.size ≤ k) := fun w1 sl h T hF => by
    refine (make17_ok w1 _ _ _ 1 h (by decide) (by decide) (by decide)).mono ?_
    rintro e w' ⟨he, sl', r1, r2, r3⟩
    refine ⟨he, sl', r1, T.trans r2 (fun i hi => Or.inr (hF i hi)), fun k hk => ?_⟩
    rcases r3 k hk with e | e
    · exact hF k e
    · exact Nat.le_trans T.size e
  have HC : Hid (∀ w1 sl, Tn w1 w.heap.size sl (makeS (makeS [] 0) 1) → Touch [] w w1 → (∀ k, k ∈ ft w.heap.size sl → w.heap.size ≤ k) → Calls Try.prog 8 #[PT w.heap.size, .int .i64 1] w1 fun e w' => (∃ a c, e = .returned (.tuple #[.slice a 2 c, .int .i64 0])) ∧ Touch [] w w' ∧ Calls Try.prog 22 #[PT w.heap.size, .int .i64 2] w' fun e w'' => e = .returned (.bool true) ∧ w'' = w') := fun w1 sl h T hF => by
    refine (Cancel8 w1 _ _ _ 1 h ok2 (by decide) (by decide)).mono ?_
    rintro e w' ⟨a, c, he, r1, r2, r3⟩
    rw [hg] at he
    refine ⟨⟨a, c, he⟩, T.trans r3 (fun i hi => Or.inr (hF i hi)), (is22 w' _ _ _ 2 r2).mono ?_⟩
    rintro e w'' ⟨rfl, rfl⟩
    have : fI Tk.why (canS (makeS (makeS [] 0) 1) 1) 2 = 1 := by decide
    rw [this]
    exact ⟨rfl, rfl⟩
  clear ok1 ok2 hg
  unfold PT at *
  generalize hb : w.heap.size = b at *
  have Hb := hid hb
  clear hb
  go_enter Try.func7, Try.ntmps7
  go_wp2_with (first
    | (go_at_call 6; refine HN.out.mono ?_; rintro e w1 ⟨rfl, q1, t1⟩; have Q1 := hid (And.intro q1 t1); clear q1 t1)
    | (go_at_call_of 17 (#[.pointer (some ⟨b, 0, none⟩), .int .i64 0] : Array Value); refine (HM1.out _ Q1.out.1 Q1.out.2).mono ?_; rintro e w2 ⟨rfl, sl2, q2, t2, f2⟩; have Q2 := hid (And.intro q2 (And.intro t2 f2)); clear q2 t2 f2)
    | (go_at_call_of 17 (#[.pointer (some ⟨b, 0, none⟩), .int .i64 1] : Array Value); refine (HM2.out _ _ Q2.out.1 Q2.out.2.1 Q2.out.2.2).mono ?_; rintro e w3 ⟨rfl, sl3, q3, t3, f3⟩; have Q3 := hid (And.intro q3 (And.intro t3 f3)); clear q3 t3 f3)
    | (go_at_call 8; refine (HC.out _ _ Q3.out.1 Q3.out.2.1 Q3.out.2.2).mono ?_; rintro e w4 ⟨⟨a4, c4, rfl⟩, t4, i4⟩; have T4 := hid t4; have I4 := hid i4; clear t4 i4)
    | (go_at_call 22; refine I4.out.mono ?_; rintro e w5 ⟨rfl, rfl⟩))
  go_ret
  exact ⟨rfl, T4.out⟩
section
variable (w : World) (n : Int)
theorem make17_nil0 : Calls Try.prog 17 #[.pointer none, .int .i64 0] w fun e w' => e = .returned (.tuple #[.int .i64 0, .int .i64 3]) ∧ w' = w := by
  have HF := hid (find26_nil w 0)
  go_enter Try.func17, Try.ntmps17
  go_wp2_with (go_at_call 26; refine HF.out.mono ?_; rintro e w ⟨rfl, rfl⟩)
  exact bodyPost_ret (v := .tuple #[.int .i64 0, .int .i64 3]) (by simp [results, Try.results17, go_sem]) rfl ⟨rfl, rfl⟩
theorem make17_nil (h : n ≠ 0) : Calls Try.prog 17 #[.pointer none, .int .i64 n] w fun e w' => e = .returned (.tuple #[.int .i64 0, .int .i64 60]) ∧ w' = w := by
  have HF := hid (find26_nil w n)
  go_enter Try.func17, Try.ntmps17
  go_wp2_with (go_at_call 26; refine HF.out.mono ?_; rintro e w ⟨rfl, rfl⟩)
  exact bodyPost_ret (v := .tuple #[.int .i64 0, .int .i64 60]) (by simp [results, Try.results17, go_sem]) rfl ⟨rfl, rfl⟩
theorem cancel8_nil : Calls Try.prog 8 #[.pointer none, .int .i64 n] w fun e w' => e = .returned (.tuple #[.slice none 0 0, .int .i64 60]) ∧ w' = w := by
  have HF := hid (find26_nil w n)
  go_enter Try.func8, Try.ntmps8
  go_wp2_with (go_at_call 26; refine HF.out.mono ?_; rintro e w ⟨rfl, rfl⟩)
  exact bodyPost_ret (v := .tuple #[.slice none 0 0, .int .i64 60]) (by simp [results, Try.results8, go_sem]) rfl ⟨rfl, rfl⟩
theorem let13_nil : Calls Try.prog 13 #[.pointer none, .int .i64 n] w fun e w' => e = .returned (.tuple #[.slice none 0 0, .int .i64 60]) ∧ w' = w := by
  have HF := hid (find26_nil w n)
  go_enter Try.func13, Try.ntmps13
  go_wp2_with (go_at_call 26; refine HF.out.mono ?_; rintro e w ⟨rfl, rfl⟩)
  exact bodyPost_ret (v := .tuple #[.slice none 0 0, .int .i64 60]) (by simp [results, Try.results13, go_sem]) rfl ⟨rfl, rfl⟩
theorem hold12_nil : Calls Try.prog 12 #[.pointer none, .int .i64 n] w fun e w' => e = .returned (.int .i64 60) ∧ w' = w := by
  have HF := hid (find26_nil w n)
  go_enter Try.func12, Try.ntmps12
  go_wp2_with (go_at_call 26; refine HF.out.mono ?_; rintro e w ⟨rfl, rfl⟩)
  go_ret
  exact ⟨rfl, rfl⟩
theorem why21_nil : Calls Try.prog 21 #[.pointer none, .int .i64 n] w fun e w' => e = .returned (.int .i64 0) ∧ w' = w := by
  have HF := hid (find26_nil w n)
  go_enter Try.func21, Try.ntmps21
  go_wp2_with (go_at_call 26; refine HF.out.mono ?_; rintro e w ⟨rfl, rfl⟩)
  go_ret
  exact ⟨rfl, rfl⟩
theorem holders24_nil : Calls Try.prog 24 #[.pointer none, .int .i64 n] w fun e w' => e = .returned (.int .i64 0) ∧ w' = w := by
  have HF := hid (find26_nil w n)
  go_enter Try.func24, Try.ntmps24
  go_wp2_with (go_at_call 26; refine HF.out.mono ?_; rintro e w ⟨rfl, rfl⟩)
  go_ret
  exact ⟨rfl, rfl⟩
theorem parent20_nil : Calls Try.prog 20 #[.pointer none, .int .i64 n] w fun e w' => e = .returned (.int .i64 0) ∧ w' = w := by
  have HF := hid (find26_nil w n)
  go_enter Try.func20, Try.ntmps20
  go_wp2_with (go_at_call 26; refine HF.out.mono ?_; rintro e w ⟨rfl, rfl⟩)
  go_ret
  exact ⟨rfl, rfl⟩
theorem is22_nil : Calls Try.prog 22 #[.pointer none, .int .i64 n] w fun e w' => e = .returned (.bool false) ∧ w' = w := by
  have HF := hid (why21_nil w n)
  go_enter Try.func22, Try.ntmps22
  go_wp2_with (go_at_call 21; refine HF.out.mono ?_; rintro e w ⟨rfl, rfl⟩)
  go_ret
  exact ⟨rfl, rfl⟩
theorem under25_nil : Calls Try.prog 25 #[.pointer none, .int .i64 n] w fun e w' => e = .returned (.slice none 0 0) ∧ w' = w := by
  have HF := hid (find26_nil w n)
  go_enter Try.func25, Try.ntmps25
  go_wp2_with (go_at_call 26; refine HF.out.mono ?_; rintro e w ⟨rfl, rfl⟩)
  go_ret
  exact ⟨rfl, rfl⟩
theorem len19_nil : Calls Try.prog 19 #[.pointer none] w fun e w' => e = .returned (.int .i64 0) ∧ w' = w := by
  go_enter Try.func19, Try.ntmps19
  go_wp2
  go_ret
  exact ⟨rfl, rfl⟩
theorem live23_nil : Calls Try.prog 23 #[.pointer none] w fun e w' => e = .returned (.slice none 0 0) ∧ w' = w := by
  have HF := hid (len19_nil w)
  go_enter Try.func23, Try.ntmps23
  go_wp2
  refine wp_loop_rounds 1 ?_
  rw [rounds_succ]
  go_wp2_with (go_at_call 19; refine HF.out.mono ?_; rintro e w ⟨rfl, rfl⟩)
  go_ret
  exact ⟨rfl, rfl⟩
theorem clone15_nil : Calls Try.prog 15 #[.pointer none] w fun e w' => e = .returned (.pointer none) ∧ w' = w := by
  go_enter Try.func15, Try.ntmps15
  go_wp2
  go_ret
  exact ⟨rfl, rfl⟩
end
end Go.Proofs.Ytbjnajiicljnbaa
