/- The contracts of Arm as one, and of In, Stop, Left and Next of a clock. -/
import Derived.Test.YtaioegefoiabhaaArm
namespace Go.Proofs.Ytaioegefoiabhaa
open Go.RowKit Go.Maps Go.ChangeMaps
set_option linter.unusedVariables false
section
variable (w : World) (c : Nat) (F : List Nat) (s : Cs) (t : Int)
theorem arm10 (h : Ck w c F s) (hl : s.last < 4611686018427387904) : Calls Try.prog 10 #[PC c, .int .i64 t] w fun e w' => e = .returned (.tuple #[.int .i64 (armN s t), .int .i64 (armE s t)]) ∧ Nx w w' c F (armS s t) := by
  by_cases he : armE s t = 0
  · have hn : armN s t = s.last + 1 := by unfold armN; rw [if_pos he]
    rw [he, hn]
    exact arm10_ok w c F s t h he hl
  · have hn : armN s t = 0 := by unfold armN; rw [if_neg he]
    have hs : armS s t = s := by unfold armS; rw [if_neg he]
    rw [hn, hs]
    have R : ∀ {P : Int}, armE s t = P → (Calls Try.prog 10 #[PC c, .int .i64 t] w fun e w' => e = .returned (.tuple #[.int .i64 0, .int .i64 P]) ∧ w' = w) → Calls Try.prog 10 #[PC c, .int .i64 t] w fun e w' => e = .returned (.tuple #[.int .i64 0, .int .i64 (armE s t)]) ∧ Nx w w' c F s := fun {P} e k => by
      refine k.mono ?_
      rintro e1 w' ⟨rfl, rfl⟩
      exact ⟨by rw [e], Nx.same h (Touch.refl _ _)⟩
    by_cases h1 : isT t = false
    · exact R (by unfold armE; rw [if_pos h1]) (arm10_tick w c F s t h h1)
    · have h1' : isT t = true := by simpa using h1
      by_cases h2 : t < s.now
      · exact R (by unfold armE; rw [if_neg h1, if_pos h2]) (arm10_past w c F s t h h1' h2)
      · by_cases h3 : 65536 ≤ s.T.length
        · exact R (by unfold armE; rw [if_neg h1, if_neg h2, if_pos h3]) (arm10_many w c F s t h h1' (by omega) h3)
        · exact absurd (by unfold armE; rw [if_neg h1, if_neg h2, if_neg h3]) he
variable (d : Int)
theorem in16 (h : Ck w c F s) (hl : s.last < 4611686018427387904) (hd : W64 d) : Calls Try.prog 16 #[PC c, .int .i64 d] w fun e w' => e = .returned (.tuple #[.int .i64 (inN s d), .int .i64 (inE s d)]) ∧ Nx w w' c F (inS s d) := by
  have ok := h.ok
  by_cases h0 : d < 0
  · have e1 : inN s d = 0 := by unfold inN; rw [if_pos h0]
    have e2 : inE s d = 11 := by unfold inE; rw [if_pos h0]
    have e3 : inS s d = s := by unfold inS; rw [if_pos h0]
    rw [e1, e2, e3]
    have HN : Hid (Nx w w c F s) := Nx.same h (Touch.refl _ _)
    clear h e1 e2 e3 ok
    unfold PC
    go_enter Try.func16, Try.ntmps16
    go_wp2
    exact bodyPost_ret (v := .tuple #[.int .i64 0, .int .i64 11]) (by simp [results, Try.results16, go_sem]) rfl ⟨rfl, HN.out⟩
  · have e1 : inN s d = armN s (inT s d) := by unfold inN; rw [if_neg h0]
    have e2 : inE s d = armE s (inT s d) := by unfold inE; rw [if_neg h0]
    have e3 : inS s d = armS s (inT s d) := by unfold inS; rw [if_neg h0]
    rw [e1, e2, e3]
    have HA := hid (arm10 w c F s (inT s d) h hl)
    have HF := hid (after26 s.now d w ok.n0 ok.n1 (by omega) hd.hi)
    rw [show (if 4611686018427387904 - s.now < d then 4611686018427387904 else s.now + d) = inT s d from rfl] at HF
    obtain ⟨q, G, p, S, rfl, k⟩ := h
    have c0 := k.cc.c0
    clear k e1 e2 e3 ok hd hl
    generalize armS s (inT s d) = s1 at *
    generalize armN s (inT s d) = n1 at *
    generalize armE s (inT s d) = m1 at *
    generalize inT s d = t at *
    generalize decide (d ≤ 4611686018427387904 - s.now) = b at *
    generalize s.now = n at *
    unfold PC at *
    go_enter Try.func16, Try.ntmps16
    go_wp2_with (first | (go_at_call 26; refine HF.out.mono ?_; rintro e w2 ⟨rfl, rfl⟩) | (go_at_call 10; refine HA.out.mono ?_; rintro e w3 ⟨rfl, r⟩; have R := hid r; clear r))
    exact bodyPost_ret (v := .tuple #[.int .i64 n1, .int .i64 m1]) (by simp [results, Try.results16, go_sem]) rfl ⟨rfl, R.out⟩
variable (m : Int)
theorem stop_end {w w1 : World} {c q : Nat} {G F' : List Nat} {p : Int} {S : List Slot} {s : Cs} {m : Int} {a : Nat} (k : CkS w c q G p S s) (hi : idx S m = some a)
    (h1 : Tq w1 q F' p (S.eraseIdx a)) (h2 : Touch G w w1) (h3 : Nf w G F') : Nx w w1 c (c :: G) (stopS s m) := by
  have hc := k.cc.keep h2 k.ap
  have hcF : ¬ c ∈ F' := fun e => by
    rcases h3 c e with e' | e'
    · exact k.ap e'
    · have := block_lt k.cc; omega
  refine ⟨c :: F', ⟨q, F', p, S.eraseIdx a, rfl, hc, h1, hcF, k.pl, ?_, k.ok.stop m⟩, h2.mono (fun i hi => List.mem_cons_of_mem _ hi), fun i hi => ?_⟩
  · show outT s.T m = _
    rw [k.eq]
    exact tms_out k.tq.nd hi
  · rcases List.mem_cons.1 hi with rfl | hi
    · exact Or.inl List.mem_cons_self
    · rcases h3 i hi with e | e
      · exact Or.inl (List.mem_cons_of_mem _ e)
      · exact Or.inr e
theorem stop20 (h : Ck w c F s) (hm : W64 m) : Calls Try.prog 20 #[PC c, .int .i64 m] w fun e w' => e = .returned (.bool (hasT s.T m)) ∧ Nx w w' c F (stopS s m) := by
  have h0 := h
  obtain ⟨q, G, p, S, rfl, k⟩ := h
  have c2 := k.cc.c2
  have HD : Hid (Calls Try.prog 37 #[.pointer (some ⟨q, 0, none⟩), .int .i64 m] w fun e w' => e = .returned (.bool (hasT s.T m)) ∧ Nx w w' c (c :: G) (stopS s m)) := by
    show Calls _ _ _ _ _
    rw [k.eq, tms_has]
    cases hi : idx S m with
    | none =>
      refine (drop22_no w q G p S m hm k.tq hi).mono ?_
      rintro e w' ⟨rfl, rfl⟩
      have e : stopS s m = s := by
        unfold stopS
        rw [k.eq, tms_out_none hi, ← k.eq]
      rw [e]
      exact ⟨rfl, Nx.same h0 (Touch.refl _ _)⟩
    | some a =>
      refine (drop22_yes w q G p S m a hm k.tq hi).mono ?_
      rintro e w' ⟨rfl, F', r1, r2, r3⟩
      exact ⟨rfl, stop_end k hi r1 r2 r3⟩
  clear k h0
  generalize hasT s.T m = b at *
  generalize stopS s m = s1 at *
  unfold PC
  go_enter Try.func20, Try.ntmps20
  go_wp2_with (go_at_call 37; refine HD.out.mono ?_; rintro e w3 ⟨rfl, r⟩; have R := hid r; clear r)
  go_ret
  exact ⟨rfl, R.out⟩
theorem left19 (h : Ck w c F s) (hm : W64 m) : Calls Try.prog 19 #[PC c, .int .i64 m] w fun e w' => e = .returned (.tuple #[.int .i64 (leftN s m), .bool (leftB s m)]) ∧ w' = w := by
  obtain ⟨q, G, p, S, rfl, k⟩ := h
  have c2 := k.cc.c2
  have c0 := k.cc.c0
  have hf := tms_find S m
  rw [← k.eq] at hf
  cases hi : idx S m with
  | none =>
    rw [hi] at hf
    have e1 : leftN s m = 0 := by unfold leftN; rw [hf]
    have e2 : leftB s m = false := by unfold leftB; rw [hf]; rfl
    rw [e1, e2]
    have HD := hid (at29_none w q G p S m hm k.tq hi)
    clear k hf e1 e2 hi
    unfold PC
    unfold PT at HD
    go_enter Try.func19, Try.ntmps19
    go_wp2_with (go_at_call 36; refine HD.out.mono ?_; rintro e w3 ⟨rfl, rfl⟩)
    exact bodyPost_ret (v := .tuple #[.int .i64 0, .bool false]) (by simp [results, Try.results19, go_sem]) rfl ⟨rfl, rfl⟩
  | some a =>
    rw [hi] at hf
    have e1 : leftN s m = (gt S a).at_ - s.now := by unfold leftN; rw [hf]; rfl
    have e2 : leftB s m = true := by unfold leftB; rw [hf]; rfl
    rw [e1, e2]
    have HD := hid (at29_some w q G p S m a hm k.tq hi)
    have hx := k.tq.tk (gt S a) (gt_mem (idx_some hi).1)
    have n0 := k.ok.n0
    have n1 := k.ok.n1
    obtain ⟨x0, x1⟩ := hx
    clear k hf e1 e2 hi
    generalize (gt S a).at_ = u at *
    generalize s.now = n at *
    unfold PC
    unfold PT at HD
    go_enter Try.func19, Try.ntmps19
    go_wp2_with (go_at_call 36; refine HD.out.mono ?_; rintro e w3 ⟨rfl, rfl⟩)
    exact bodyPost_ret (v := .tuple #[.int .i64 (u - n), .bool true]) (by simp [results, Try.results19, go_sem]) rfl ⟨rfl, rfl⟩
theorem tms_nil {S : List Slot} (h : tms S = []) : S = [] := by
  cases S with
  | nil => rfl
  | cons x S => simp [tms] at h
theorem tms_cons {S : List Slot} {x : Tm} {l : List Tm} (h : tms S = x :: l) : ∃ y R, S = y :: R ∧ x = tmOf y ∧ l = tms R := by
  cases S with
  | nil => simp [tms] at h
  | cons y S =>
    simp only [tms, List.map_cons, List.cons.injEq] at h
    exact ⟨y, S, rfl, h.1.symm, h.2.symm⟩
theorem next17_nil0 {q : Nat} {G : List Nat} {p now last : Int} (hc : CC w c q now last) (hq : Tq w q G p []) : Calls Try.prog 17 #[PC c] w fun e w' => e = .returned (.tuple #[.agg #[.int .i64 0, .int .i64 0], .bool false]) ∧ Touch [] w w' := by
  have c2 := hc.c2
  have HD : Hid (∀ w1, Touch [] w w1 → Calls Try.prog 35 #[.pointer (some ⟨q, 0, none⟩)] w1 fun e w' => e = .returned (.tuple #[.int .i64 0, .int .i64 0, .bool false]) ∧ w' = w1) := fun w1 t1 => next27_nil w1 q G p (hq.keep0 t1)
  have hb : c < w.heap.size := block_lt hc
  clear hc hq
  unfold PC
  go_enter Try.func17, Try.ntmps17
  go_wp2_with (go_at_call 35; refine (HD.out _ ((Touch.refl _ _).alloc _)).mono ?_; rintro e w3 ⟨rfl, rfl⟩)
  exact bodyPost_ret (v := .tuple #[.agg #[.int .i64 0, .int .i64 0], .bool false]) (by simp [results, Try.results17, go_sem]) rfl ⟨rfl, (Touch.refl _ _).alloc _⟩
theorem next17_cons0 {q : Nat} {G : List Nat} {p now last : Int} {y : Slot} {R : List Slot} (hc : CC w c q now last) (hq : Tq w q G p (y :: R)) : Calls Try.prog 17 #[PC c] w fun e w' => e = .returned (.tuple #[.agg #[.int .i64 y.item, .int .i64 y.at_], .bool true]) ∧ Touch [] w w' := by
  have c2 := hc.c2
  have HD : Hid (∀ w1, Touch [] w w1 → Calls Try.prog 35 #[.pointer (some ⟨q, 0, none⟩)] w1 fun e w' => e = .returned (.tuple #[.int .i64 y.at_, .int .i64 y.item, .bool true]) ∧ Touch [] w1 w') := fun w1 t1 => next27_cons w1 q G p y R (hq.keep0 t1)
  have hb : c < w.heap.size := block_lt hc
  clear hc hq
  generalize y.at_ = u at *
  generalize y.item = v at *
  unfold PC
  go_enter Try.func17, Try.ntmps17
  go_wp2_with (go_at_call 35; refine (HD.out _ ((Touch.refl _ _).alloc _)).mono ?_; rintro e w3 ⟨rfl, t3⟩; have B3 := hid (t3.keep (heap_alloc_new w _) (by simp)); have T3 := hid t3; clear t3; have b0 : w3.cell? ⟨w.heap.size, 0, none⟩ = some (.int .i64 0) := (by simp [World.cell?, B3.out]); have b1 : w3.cell? ⟨w.heap.size, 1, none⟩ = some (.int .i64 0) := (by simp [World.cell?, B3.out]); have bf0 : w3.frozen? ⟨w.heap.size, 0, none⟩ = false := (by simp [World.frozen?, B3.out]); have bf1 : w3.frozen? ⟨w.heap.size, 1, none⟩ = false := (by simp [World.frozen?, B3.out]))
  exact bodyPost_ret (v := .tuple #[.agg #[.int .i64 v, .int .i64 u], .bool true]) (by simp [results, Try.results17, go_sem, b0, b1]) rfl ⟨rfl, ((((Touch.refl _ _).alloc _).trans' T3.out).setCell (Or.inr (Nat.le_refl _)) _).setCell (Or.inr (Nat.le_refl _)) _⟩
theorem next17_nil (h : Ck w c F s) (hT : s.T = []) : Calls Try.prog 17 #[PC c] w fun e w' => e = .returned (.tuple #[.agg #[.int .i64 0, .int .i64 0], .bool false]) ∧ Touch [] w w' := by
  obtain ⟨q, G, p, S, rfl, k⟩ := h
  have hS : S = [] := tms_nil (by rw [← k.eq]; exact hT)
  subst hS
  exact next17_nil0 w c k.cc k.tq
theorem next17_cons (h : Ck w c F s) {x : Tm} {l : List Tm} (hT : s.T = x :: l) : Calls Try.prog 17 #[PC c] w fun e w' => e = .returned (.tuple #[.agg #[.int .i64 x.it, .int .i64 x.at_], .bool true]) ∧ Touch [] w w' := by
  obtain ⟨q, G, p, S, rfl, k⟩ := h
  obtain ⟨y, R, rfl, rfl, rfl⟩ := tms_cons (by rw [← k.eq]; exact hT)
  exact next17_cons0 w c k.cc k.tq
end
end Go.Proofs.Ytaioegefoiabhaa
