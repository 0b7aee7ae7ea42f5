/- The contracts of every call of nobody, and of the law's awake; the law ReadyNil, walked. -/
import Derived.Test.YthpkkfmphoopnaaJcl
namespace Go.Proofs.Ythpkkfmphoopnaa.Re
open Go.RowKit Go.Maps Go.ChangeMaps
set_option linter.unusedVariables false
set_option linter.unusedSimpArgs false
section
variable (w : World)
theorem len_nil : Calls Try.prog 26 #[.pointer none] w fun e w' => e = .returned (.int .i64 0) ∧ w' = w := by
  go_enter Try.func26, Try.ntmps26
  go_wp2
  go_ret
  exact ⟨rfl, rfl⟩
theorem turns_nil : Calls Try.prog 23 #[.pointer none] w fun e w' => e = .returned (.int .i64 0) ∧ w' = w := by
  go_enter Try.func23, Try.ntmps23
  go_wp2
  go_ret
  exact ⟨rfl, rfl⟩
theorem all_nil : Calls Try.prog 22 #[.pointer none] w fun e w' => e = .returned (.slice none 0 0) ∧ w' = w := by
  go_enter Try.func22, Try.ntmps22
  go_wp2
  go_ret
  exact ⟨rfl, rfl⟩
theorem told_nil : Calls Try.prog 21 #[.pointer none] w fun e w' => e = .returned (.slice none 0 0) ∧ w' = w := by
  go_enter Try.func21, Try.ntmps21
  go_wp2
  go_ret
  exact ⟨rfl, rfl⟩
theorem clone_nil : Calls Try.prog 16 #[.pointer none] w fun e w' => e = .returned (.pointer none) ∧ w' = w := by
  go_enter Try.func16, Try.ntmps16
  go_wp2
  go_ret
  exact ⟨rfl, rfl⟩
theorem has_nil (x : Int) : Calls Try.prog 24 #[.pointer none, .int .i64 x] w fun e w' => e = .returned (.bool false) ∧ w' = w := by
  go_enter Try.func24, Try.ntmps24
  go_wp2
  go_ret
  exact ⟨rfl, rfl⟩
theorem pick_nil : Calls Try.prog 11 #[.pointer none] w fun e w' => e = .returned (.tuple #[.int .i64 0, .bool false]) ∧ w' = w := by
  go_enter Try.func11, Try.ntmps11
  go_wp2_with (go_at_call 26; refine (len_nil _).mono ?_; rintro e w1 ⟨rfl, e1⟩; rw [e1]; clear e1 w1)
  exact bodyPost_ret (v := .tuple #[.int .i64 0, .bool false]) (by simp [results, Try.results11, go_sem]) rfl ⟨rfl, rfl⟩
theorem peek_nil : Calls Try.prog 25 #[.pointer none] w fun e w' => e = .returned (.tuple #[.int .i64 0, .bool false]) ∧ w' = w := by
  go_enter Try.func25, Try.ntmps25
  go_wp2_with (go_at_call 26; refine (len_nil _).mono ?_; rintro e w1 ⟨rfl, e1⟩; rw [e1]; clear e1 w1)
  exact bodyPost_ret (v := .tuple #[.int .i64 0, .bool false]) (by simp [results, Try.results25, go_sem]) rfl ⟨rfl, rfl⟩
theorem rest_nil (x : Int) : Calls Try.prog 14 #[.pointer none, .int .i64 x] w fun e w' => e = .returned (.bool false) ∧ w' = w := by
  go_enter Try.func14, Try.ntmps14
  go_wp2_with (go_at_call 24; refine (has_nil _ _).mono ?_; rintro e w1 ⟨rfl, e1⟩; rw [e1]; clear e1 w1)
  go_ret
  exact ⟨rfl, rfl⟩
theorem wake_nil (x : Int) : Calls Try.prog 18 #[.pointer none, .int .i64 x] w fun e w' => e = .returned (.int .i64 3) ∧ w' = w := by
  go_enter Try.func18, Try.ntmps18
  go_wp2_with (go_at_call 24; refine (has_nil _ _).mono ?_; rintro e w1 ⟨rfl, e1⟩; rw [e1]; clear e1 w1)
  go_ret
  exact ⟨rfl, rfl⟩
end
/-- Ready ones that were made behind a world, and all that they own. -/
def Rf (w w' : World) (b : Nat) (S : Rz) (N : Nat) : Prop := ∃ F, Rq w' b F S N ∧ Touch [] w w' ∧ ∀ q, q ∈ F → w.heap.size ≤ q
section
variable {w w1 w2 : World} {b N M : Nat} {S T : Rz} {F : List Nat}
theorem Rf.step (h : Rf w w1 b S N) (hE : ∀ F, Rq w1 b F S N → RqE w1 w2 b F T M) : Rf w w2 b T M := by
  obtain ⟨F, h1, h2, h3⟩ := h
  obtain ⟨F', q1, q2, q3⟩ := hE F h1
  refine ⟨F', q1, h2.trans q2 (fun q hq => Or.inr (h3 q hq)), fun q hq => ?_⟩
  have := h2.size
  rcases q3 q hq with e | e
  · exact h3 q e
  · omega
theorem Rf.keep0 (h : Rf w w1 b S N) (X : Touch [] w1 w2) : Rf w w2 b S N := by
  obtain ⟨F, h1, h2, h3⟩ := h
  exact ⟨F, h1.keep0 X, h2.trans' X, h3⟩
theorem Rf.iv (h : Rf w w1 b S N) : Iv S N := by
  obtain ⟨F, h1, h2, h3⟩ := h
  exact h1.iv
theorem Rf.wake (h : Rf w w1 b S N) (x : Int) (hx : W64 x) : Calls Try.prog 18 #[PT b, .int .i64 x] w1 fun e w2 => e = .returned (.int .i64 (wakeE S x)) ∧ Rf w w2 b (wakeS S x) N := by
  obtain ⟨F, h1, h2, h3⟩ := h
  refine (wake_ h1 x hx).mono ?_
  rintro e w2 ⟨rfl, q⟩
  refine ⟨rfl, ?_⟩
  obtain ⟨F', q1, q2, q3⟩ := q
  refine ⟨F', q1, h2.trans q2 (fun q hq => Or.inr (h3 q hq)), fun q hq => ?_⟩
  have := h2.size
  rcases q3 q hq with e | e
  · exact h3 q e
  · omega
theorem Rf.pick (h : Rf w w1 b S N) (hN : N ≤ 8796093022208) : Calls Try.prog 11 #[PT b] w1 fun e w2 => e = .returned (.tuple #[.int .i64 (pickV S), .bool (someB S)]) ∧ Rf w w2 b (pickS S) (N + 1) := by
  obtain ⟨F, h1, h2, h3⟩ := h
  refine (pick_ h1 hN).mono ?_
  rintro e w2 ⟨rfl, q⟩
  refine ⟨rfl, ?_⟩
  obtain ⟨F', q1, q2, q3⟩ := q
  refine ⟨F', q1, h2.trans q2 (fun q hq => Or.inr (h3 q hq)), fun q hq => ?_⟩
  have := h2.size
  rcases q3 q hq with e | e
  · exact h3 q e
  · omega
theorem Rf.rest (h : Rf w w1 b S N) (x : Int) (hx : W64 x) : Calls Try.prog 14 #[PT b, .int .i64 x] w1 fun e w2 => e = .returned (.bool (decide (x ∈ S.ln))) ∧ Rf w w2 b (restS S x) N := by
  obtain ⟨F, h1, h2, h3⟩ := h
  refine (rest_ h1 x hx).mono ?_
  rintro e w2 ⟨rfl, q⟩
  refine ⟨rfl, ?_⟩
  obtain ⟨F', q1, q2, q3⟩ := q
  refine ⟨F', q1, h2.trans q2 (fun q hq => Or.inr (h3 q hq)), fun q hq => ?_⟩
  have := h2.size
  rcases q3 q hq with e | e
  · exact h3 q e
  · omega
theorem Rf.has (h : Rf w w1 b S N) (x : Int) (hx : W64 x) : Calls Try.prog 24 #[PT b, .int .i64 x] w1 fun e w2 => e = .returned (.bool (decide (x ∈ S.ln))) ∧ Touch [] w1 w2 := by
  obtain ⟨F, ⟨v, u, m, t, rfl, h1, hv⟩, h2, h3⟩ := h
  exact has_ h1 x hx
theorem Rf.turns (h : Rf w w1 b S N) : Calls Try.prog 23 #[PT b] w1 fun e w2 => e = .returned (.int .i64 (S.tl.length : Int)) ∧ w2 = w1 := by
  obtain ⟨F, ⟨v, u, m, t, rfl, h1, hv⟩, h2, h3⟩ := h
  exact turns_ h1
theorem Rf.len (h : Rf w w1 b S N) : Calls Try.prog 26 #[PT b] w1 fun e w2 => e = .returned (.int .i64 (S.ln.length : Int)) ∧ w2 = w1 := by
  obtain ⟨F, ⟨v, u, m, t, rfl, h1, hv⟩, h2, h3⟩ := h
  exact len_ h1
theorem Rf.all (h : Rf w w1 b S N) : Calls Try.prog 22 #[PT b] w1 fun e w2 => CpE e w1 w2 S.ln := by
  obtain ⟨F, ⟨v, u, m, t, rfl, h1, hv⟩, h2, h3⟩ := h
  exact all_ h1 hv
theorem Rf.told (h : Rf w w1 b S N) (hN : N ≤ 17592186044416) : Calls Try.prog 21 #[PT b] w1 fun e w2 => CpE e w1 w2 S.tl := by
  obtain ⟨F, ⟨v, u, m, t, rfl, h1, hv⟩, h2, h3⟩ := h
  exact told_ h1 hv hN
theorem Rf.peek (h : Rf w w1 b S N) (hN : N ≤ 17592186044416) : Calls Try.prog 25 #[PT b] w1 fun e w2 => e = .returned (.tuple #[.int .i64 (pickV S), .bool (someB S)]) ∧ Touch [] w1 w2 := by
  obtain ⟨F, ⟨v, u, m, t, rfl, h1, hv⟩, h2, h3⟩ := h
  exact peek_ h1 hv hN
theorem Rf.clone (h : Rf w w1 b S N) (hN : N ≤ 8796093022208) : Calls Try.prog 16 #[PT b] w1 fun e w2 => ClE e w1 w2 S N := by
  obtain ⟨F, ⟨v, u, m, t, rfl, h1, hv⟩, h2, h3⟩ := h
  exact clone_ h1 hv hN
end
theorem rf_new {e : Ending} {w w' : World} {S : Rz} (h : NwE e w w' S) : ∃ b, e = .returned (.tuple #[PT b, .int .i64 0]) ∧ Rf w w' b S 0 := by
  obtain ⟨b, F, e1, h1, h2, h3⟩ := h
  exact ⟨b, e1, F, h1, h2, h3⟩
set_option maxHeartbeats 1000000 in
/-- The first one is picked. -/
theorem awake_ (w : World) : Calls Try.prog 9 #[] w fun e w' => e = .returned (.bool true) ∧ Touch [] w w' := by
  have h5 : W64 5 := W64.mk (by omega) (by omega)
  have h6 : W64 6 := W64.mk (by omega) (by omega)
  have HN : Hid (Calls Try.prog 7 #[.int .i64 0, .int .u64 0, .slice none 0 0] w fun e w' => NwE e w w' (S0 0 0 [])) := hid (new_ok w 0 0 [] _ (Ra.nil w) (by omega) (fun x hx => by cases hx) (by decide))
  have HW5 := hid (fun w1 b (h : Rf w w1 b (S0 0 0 []) 0) => h.wake 5 h5)
  have HW6 := hid (fun w1 b (h : Rf w w1 b (wakeS (S0 0 0 []) 5) 0) => h.wake 6 h6)
  have HP := hid (fun w1 b (h : Rf w w1 b (wakeS (wakeS (S0 0 0 []) 5) 6) 0) => h.pick (by omega))
  have HH := hid (fun w1 b (h : Rf w w1 b (pickS (wakeS (wakeS (S0 0 0 []) 5) 6)) 1) => h.has 6 h6)
  have e1 : wakeE (S0 0 0 []) 5 = 0 := by decide
  have e2 : wakeE (wakeS (S0 0 0 []) 5) 6 = 0 := by decide
  have e3 : pickV (wakeS (wakeS (S0 0 0 []) 5) 6) = 5 := by decide
  have e4 : someB (wakeS (wakeS (S0 0 0 []) 5) 6) = true := by decide
  have e5 : decide ((6 : Int) ∈ (pickS (wakeS (wakeS (S0 0 0 []) 5) 6)).ln) = true := by decide
  rw [e1] at HW5
  rw [e2] at HW6
  rw [e3, e4] at HP
  rw [e5] at HH
  clear e1 e2 e3 e4 e5 h5 h6
  have HT : Hid (∀ w1 b S N, Rf w w1 b S N → Touch [] w w1) := hid (fun w1 b S N h => h.choose_spec.2.1)
  generalize pickS (wakeS (wakeS (S0 0 0 []) 5) 6) = S3 at *
  generalize wakeS (wakeS (S0 0 0 []) 5) 6 = S2 at *
  generalize wakeS (S0 0 0 []) 5 = S1 at *
  unfold PT at *
  go_enter Try.func9, Try.ntmps9
  go_upto_region 2 with (go_at_call 7; refine HN.out.mono ?_; intro e w1 q1; obtain ⟨b, rfl, r1⟩ := rf_new q1; have R1 := hid r1; clear q1 r1)
  unfold PT
  go_upto_region 4 with (first
    | (go_at_call_of 18 (#[.pointer (some ⟨b, 0, none⟩), .int .i64 5] : Array Value); refine (HW5.out _ _ R1.out).mono ?_; rintro e w2 ⟨rfl, r2⟩; have R2 := hid r2; clear r2)
    | (go_at_call_of 18 (#[.pointer (some ⟨b, 0, none⟩), .int .i64 6] : Array Value); refine (HW6.out _ _ R2.out).mono ?_; rintro e w3 ⟨rfl, r3⟩; have R3 := hid r3; clear r3))
  go_wp2_with (first
    | (go_at_call 11; refine (HP.out _ _ R3.out).mono ?_; rintro e w4 ⟨rfl, r4⟩; have R4 := hid r4; clear r4)
    | (go_at_call 24; refine (HH.out _ _ R4.out).mono ?_; rintro e w5 ⟨rfl, t5⟩; have T5 := hid t5; clear t5))
  go_ret
  exact ⟨rfl, (HT.out _ _ _ _ R4.out).trans' T5.out⟩
set_option maxHeartbeats 1000000 in
theorem rnil_ (w : World) (n : Int) (hn : W64 n) : Calls Try.prog 6 #[.int .i64 n] w fun e w' => e = .returned (.bool true) ∧ Touch [] w w' := by
  go_enter Try.func6, Try.ntmps6
  go_wp2_with (first
    | (go_at_call 11; refine (pick_nil _).mono ?_; rintro e w7 ⟨rfl, e7⟩; rw [e7]; clear e7 w7)
    | (go_at_call 25; refine (peek_nil _).mono ?_; rintro e w7 ⟨rfl, e7⟩; rw [e7]; clear e7 w7)
    | (go_at_call 18; refine (wake_nil _ _).mono ?_; rintro e w7 ⟨rfl, e7⟩; rw [e7]; clear e7 w7)
    | (go_at_call 14; refine (rest_nil _ _).mono ?_; rintro e w7 ⟨rfl, e7⟩; rw [e7]; clear e7 w7)
    | (go_at_call 24; refine (has_nil _ _).mono ?_; rintro e w7 ⟨rfl, e7⟩; rw [e7]; clear e7 w7)
    | (go_at_call 22; refine (all_nil _).mono ?_; rintro e w7 ⟨rfl, e7⟩; rw [e7]; clear e7 w7)
    | (go_at_call 26; refine (len_nil _).mono ?_; rintro e w7 ⟨rfl, e7⟩; rw [e7]; clear e7 w7)
    | (go_at_call 23; refine (turns_nil _).mono ?_; rintro e w7 ⟨rfl, e7⟩; rw [e7]; clear e7 w7)
    | (go_at_call 21; refine (told_nil _).mono ?_; rintro e w7 ⟨rfl, e7⟩; rw [e7]; clear e7 w7)
    | (go_at_call 16; refine (clone_nil _).mono ?_; rintro e w7 ⟨rfl, e7⟩; rw [e7]; clear e7 w7)
    | (go_at_call 9; refine (awake_ _).mono ?_; rintro e w5 ⟨rfl, t5⟩; have T5 := hid t5; clear t5))
  go_ret
  exact ⟨rfl, T5.out⟩
end Go.Proofs.Ythpkkfmphoopnaa.Re
