/- The contracts of a queue by turn: Has, Len, Front, Take, Drop, Back, Put, All. -/
import Derived.Test.YtmbjjkdocmcpdaaUnl
namespace Go.Proofs.Ytmbjjkdocmcpdaa
open Go.RowKit Go.Maps Go.ChangeMaps
set_option linter.unusedVariables false
/-- The blocks of a queue by turn are F. -/
def Uq (w : World) (q : Nat) (F : List Nat) (xs : List Int) : Prop := ∃ m, F = fp q m ∧ TQ w q m xs
theorem Uq.keep {G : List Nat} {w w' : World} {q : Nat} {F : List Nat} {xs : List Int} (h : Uq w q F xs) (ht : Touch G w w') (hn : ∀ k, k ∈ F → ¬ k ∈ G) : Uq w' q F xs := by
  obtain ⟨m, rfl, t⟩ := h
  exact ⟨m, rfl, t.keep ht hn⟩
theorem Uq.keep0 {w w' : World} {q : Nat} {F : List Nat} {xs : List Int} (h : Uq w q F xs) (ht : Touch [] w w') : Uq w' q F xs := h.keep ht (fun _ _ e => by cases e)
theorem Uq.lt {w : World} {q : Nat} {F : List Nat} {xs : List Int} (h : Uq w q F xs) : ∀ k, k ∈ F → k < w.heap.size := by
  obtain ⟨m, rfl, t⟩ := h
  exact t.lt
theorem Uq.len {w : World} {q : Nat} {F : List Nat} {xs : List Int} (h : Uq w q F xs) : xs.length ≤ 65536 := by
  obtain ⟨m, rfl, t⟩ := h
  exact t.le
theorem Uq.nd {w : World} {q : Nat} {F : List Nat} {xs : List Int} (h : Uq w q F xs) : xs.Nodup := by
  obtain ⟨m, rfl, t⟩ := h
  exact t.nd
theorem Uq.wf {w : World} {q : Nat} {F : List Nat} {xs : List Int} (h : Uq w q F xs) : ∀ x ∈ xs, W64 x := by
  obtain ⟨m, rfl, t⟩ := h
  exact t.wf
theorem Nx.nf {w : World} {q : Nat} {m m' : Option Nat} (h : Nx w m m') : Nf w (fp q m) (fp q m') := fun k hk => by
  simp [fp] at hk ⊢
  rcases hk with rfl | hk
  · exact Or.inl (Or.inl rfl)
  · rcases h k hk with e | e
    · exact Or.inl (Or.inr e)
    · exact Or.inr e
theorem uhas (w : World) (q : Nat) (F : List Nat) (xs : List Int) (k : Int) (hk : W64 k) (h : Uq w q F xs) : Calls Try.prog 43 #[PT q, .int .i64 k] w fun e w' => e = .returned (.bool (decide (k ∈ xs))) ∧ Touch [] w w' := by
  obtain ⟨m, rfl, t⟩ := h
  exact has30 w q m xs k hk t
theorem ulen (w : World) (q : Nat) (F : List Nat) (xs : List Int) (h : Uq w q F xs) : Calls Try.prog 36 #[PT q] w fun e w' => e = .returned (.int .i64 xs.length) ∧ w' = w := by
  obtain ⟨m, rfl, t⟩ := h
  exact len31 w q m xs t
theorem ufront (w : World) (q : Nat) (F : List Nat) (xs : List Int) (h : Uq w q F xs) : Calls Try.prog 37 #[PT q] w fun e w' => e = .returned (.tuple #[.int .i64 (xs.headD 0), .bool (decide (0 < xs.length))]) ∧ w' = w := by
  obtain ⟨m, rfl, t⟩ := h
  exact front28 w q m xs t
theorem uunlink (w : World) (q : Nat) (F : List Nat) (xs : List Int) (p : Nat) (hp : p < xs.length) (h : Uq w q F xs) : Calls Try.prog 41 #[PT q, .int .i64 xs[p]] w fun e w' => e = .returned (.tuple #[]) ∧ Uq w' q F (xs.eraseIdx p) ∧ Touch F w w' := by
  obtain ⟨m, rfl, t⟩ := h
  refine (unlink34 w q m xs p hp t).mono ?_
  rintro e w' ⟨he, h1, h2⟩
  exact ⟨he, ⟨m, rfl, h2⟩, h1⟩
theorem uputLast (w : World) (q : Nat) (F : List Nat) (xs : List Int) (x : Int) (hx : W64 x) (hnx : ¬ x ∈ xs) (hlt : xs.length < 65536) (h : Uq w q F xs) : Calls Try.prog 44 #[PT q, .int .i64 x] w fun e w' => e = .returned (.tuple #[]) ∧ ∃ F', Uq w' q F' (xs ++ [x]) ∧ Touch F w w' ∧ Nf w F F' := by
  obtain ⟨m, rfl, t⟩ := h
  refine (putLast35 w q m x xs hx hnx hlt t).mono ?_
  rintro e w' ⟨he, m', h1, h2, h3⟩
  exact ⟨he, _, ⟨m', rfl, h3⟩, h2, h1.nf⟩
set_option maxHeartbeats 1000000 in
theorem utake_nil (w : World) (q : Nat) (F : List Nat) (h : Uq w q F []) : Calls Try.prog 34 #[PT q] w fun e w' => e = .returned (.tuple #[.int .i64 0, .bool false]) ∧ w' = w := by
  have HF := hid (ufront w q F [] h)
  clear h
  simp only [List.headD_nil, List.length_nil, Nat.lt_irrefl, decide_false] at HF
  unfold PT at *
  go_enter Try.func34, Try.ntmps34
  go_wp2_with (go_at_call 37; refine HF.out.mono ?_; rintro e w2 ⟨rfl, rfl⟩)
  exact bodyPost_ret (v := .tuple #[.int .i64 0, .bool false]) (by simp [results, Try.results34, go_sem]) rfl ⟨rfl, rfl⟩
set_option maxHeartbeats 1000000 in
theorem utake_cons (w : World) (q : Nat) (F : List Nat) (x : Int) (xs : List Int) (h : Uq w q F (x :: xs)) : Calls Try.prog 34 #[PT q] w fun e w' => e = .returned (.tuple #[.int .i64 x, .bool true]) ∧ Uq w' q F xs ∧ Touch F w w' := by
  have HF := hid (ufront w q F (x :: xs) h)
  have HU := hid (uunlink w q F (x :: xs) 0 (by simp) h)
  have e1 : decide (0 < (x :: xs).length) = true := by simp
  rw [e1] at HF
  simp only [List.headD_cons] at HF
  simp only [List.getElem_cons_zero, List.eraseIdx_zero, List.tail_cons] at HU
  clear h e1
  unfold PT at *
  go_enter Try.func34, Try.ntmps34
  go_wp2_with (first | (go_at_call 37; refine HF.out.mono ?_; rintro e w2 ⟨rfl, rfl⟩) | (go_at_call 41; refine HU.out.mono ?_; rintro e w3 ⟨rfl, u, t⟩; have U := hid u; have T := hid t; clear u t))
  exact bodyPost_ret (v := .tuple #[.int .i64 x, .bool true]) (by simp [results, Try.results34, go_sem]) rfl ⟨rfl, U.out, T.out⟩
set_option maxHeartbeats 1000000 in
theorem udrop_no (w : World) (q : Nat) (F : List Nat) (xs : List Int) (k : Int) (hk : W64 k) (h : Uq w q F xs) (hn : ¬ k ∈ xs) : Calls Try.prog 38 #[PT q, .int .i64 k] w fun e w' => e = .returned (.bool false) ∧ Touch [] w w' := by
  have HH := hid (uhas w q F xs k hk h)
  rw [decide_eq_false hn] at HH
  clear h hn
  unfold PT at *
  go_enter Try.func38, Try.ntmps38
  go_wp2_with (go_at_call 43; refine HH.out.mono ?_; rintro e w2 ⟨rfl, t⟩)
  go_ret
  exact ⟨rfl, t⟩
set_option maxHeartbeats 1000000 in
theorem udrop_yes (w : World) (q : Nat) (F : List Nat) (xs : List Int) (k : Int) (hk : W64 k) (h : Uq w q F xs) (p : Nat) (hp : p < xs.length) (he : xs[p] = k) : Calls Try.prog 38 #[PT q, .int .i64 k] w fun e w' => e = .returned (.bool true) ∧ Uq w' q F (xs.eraseIdx p) ∧ Touch F w w' := by
  have HH := hid (uhas w q F xs k hk h)
  rw [decide_eq_true (show k ∈ xs by rw [← he]; exact List.getElem_mem hp)] at HH
  have HU : Hid (∀ w1, Touch [] w w1 → Calls Try.prog 41 #[.pointer (some ⟨q, 0, none⟩), .int .i64 k] w1 fun e w' => e = .returned (.tuple #[]) ∧ Uq w' q F (xs.eraseIdx p) ∧ Touch F w1 w') := fun w1 t => by
    rw [← he]
    exact uunlink w1 q F xs p hp (h.keep0 t)
  clear h he hp
  generalize xs.eraseIdx p = ys at *
  unfold PT at *
  go_enter Try.func38, Try.ntmps38
  go_wp2_with (first | (go_at_call 43; refine HH.out.mono ?_; rintro e w2 ⟨rfl, t⟩) | (go_at_call 41; refine (HU.out _ t).mono ?_; rintro e w3 ⟨rfl, u, t3⟩))
  go_ret
  exact ⟨rfl, u, (t.mono (fun _ e => by cases e)).trans' t3⟩
set_option maxHeartbeats 1000000 in
theorem uput_there (w : World) (q : Nat) (F : List Nat) (xs : List Int) (k : Int) (hk : W64 k) (h : Uq w q F xs) (hn : k ∈ xs) : Calls Try.prog 39 #[PT q, .int .i64 k] w fun e w' => e = .returned (.int .i64 40) ∧ Touch [] w w' := by
  have HH := hid (uhas w q F xs k hk h)
  rw [decide_eq_true hn] at HH
  clear h hn
  unfold PT at *
  go_enter Try.func39, Try.ntmps39
  go_wp2_with (go_at_call 43; refine HH.out.mono ?_; rintro e w2 ⟨rfl, t⟩)
  go_ret
  exact ⟨rfl, t⟩
set_option maxHeartbeats 1000000 in
theorem uput_many (w : World) (q : Nat) (F : List Nat) (xs : List Int) (k : Int) (hk : W64 k) (h : Uq w q F xs) (hn : ¬ k ∈ xs) (hl : 65536 ≤ xs.length) : Calls Try.prog 39 #[PT q, .int .i64 k] w fun e w' => e = .returned (.int .i64 3) ∧ Touch [] w w' := by
  have HH := hid (uhas w q F xs k hk h)
  rw [decide_eq_false hn] at HH
  have HL : Hid (∀ w1, Touch [] w w1 → Calls Try.prog 36 #[.pointer (some ⟨q, 0, none⟩)] w1 fun e w' => e = .returned (.int .i64 xs.length) ∧ w' = w1) := fun w1 t => ulen w1 q F xs (h.keep0 t)
  have zl : (65536 : Int) ≤ (xs.length : Int) := by omega
  clear h hn
  generalize (xs.length : Int) = n at *
  unfold PT at *
  go_enter Try.func39, Try.ntmps39
  go_wp2_with (first | (go_at_call 43; refine HH.out.mono ?_; rintro e w2 ⟨rfl, t⟩) | (go_at_call 36; refine (HL.out _ t).mono ?_; rintro e w3 ⟨rfl, rfl⟩))
  go_ret
  exact ⟨rfl, t⟩
set_option maxHeartbeats 1000000 in
theorem uput_ok (w : World) (q : Nat) (F : List Nat) (xs : List Int) (k : Int) (hk : W64 k) (h : Uq w q F xs) (hn : ¬ k ∈ xs) (hl : xs.length < 65536) : Calls Try.prog 39 #[PT q, .int .i64 k] w fun e w' => e = .returned (.int .i64 0) ∧ ∃ F', Uq w' q F' (xs ++ [k]) ∧ Touch F w w' ∧ Nf w F F' := by
  have HH := hid (uhas w q F xs k hk h)
  rw [decide_eq_false hn] at HH
  have HL : Hid (∀ w1, Touch [] w w1 → Calls Try.prog 36 #[.pointer (some ⟨q, 0, none⟩)] w1 fun e w' => e = .returned (.int .i64 xs.length) ∧ w' = w1) := fun w1 t => ulen w1 q F xs (h.keep0 t)
  have HU : Hid (∀ w1, Touch [] w w1 → Calls Try.prog 44 #[.pointer (some ⟨q, 0, none⟩), .int .i64 k] w1 fun e w' => e = .returned (.tuple #[]) ∧ ∃ F', Uq w' q F' (xs ++ [k]) ∧ Touch F w w' ∧ Nf w F F') := fun w1 t => by
    refine (uputLast w1 q F _ k hk hn hl (h.keep0 t)).mono ?_
    rintro e w2 ⟨he, F', h1, h2, h3⟩
    refine ⟨he, F', h1, (t.mono (fun _ e => by cases e)).trans' h2, fun i hi => ?_⟩
    rcases h3 i hi with e | e
    · exact Or.inl e
    · exact Or.inr (Nat.le_trans t.size e)
  have zl : (xs.length : Int) < 65536 := by omega
  clear h hn hl
  generalize xs ++ [k] = ys at *
  generalize (xs.length : Int) = n at *
  unfold PT at *
  go_enter Try.func39, Try.ntmps39
  go_wp2_with (first | (go_at_call 43; refine HH.out.mono ?_; rintro e w2 ⟨rfl, t⟩) | (go_at_call 36; refine (HL.out _ t).mono ?_; rintro e w3 ⟨rfl, rfl⟩) | (go_at_call 44; refine (HU.out _ t).mono ?_; rintro e w4 ⟨rfl, r⟩; have R := hid r; clear r))
  go_ret
  exact ⟨rfl, R.out⟩
end Go.Proofs.Ytmbjjkdocmcpdaa
