/- The walk of the law ClockFull. -/
import Derived.Test.YtaioegefoiabhaaAwk
namespace Go.Proofs.Ytaioegefoiabhaa
open Go.RowKit Go.Maps Go.ChangeMaps
set_option linter.unusedVariables false
/-- z timers were armed, all are. -/
structure Fu (s : Cs) (z : Int) : Prop where
  now : s.now = 0
  last : s.last = z
  len : (s.T.length : Int) = z
  has : 3 ≤ z → ∃ x ∈ s.T, x.it = 3
theorem Fu.start : Fu ⟨0, 0, []⟩ 0 := ⟨rfl, rfl, rfl, fun h => by omega⟩
theorem inT_small {s : Cs} {d : Int} (h : s.now = 0) (h1 : d ≤ 6) : inT s d = d := by
  unfold inT
  rw [h, if_neg (by omega)]
  omega
theorem inE_ok {s : Cs} {d : Int} (h : s.now = 0) (h0 : 0 ≤ d) (h1 : d ≤ 6) (hl : s.T.length < 65536) : armE s d = 0 := by
  unfold armE
  rw [isT_yes ⟨h0, by omega⟩, if_neg (by simp), if_neg (by omega), if_neg (by omega)]
theorem Fu.step {s : Cs} {z d : Int} (h : Fu s z) (hz : z < 65536) (h0 : 0 ≤ d) (h1 : d ≤ 6) : inN s d = z + 1 ∧ inE s d = 0 ∧ Fu (inS s d) (z + 1) := by
  have e1 := inT_small h.now h1
  have e2 := inE_ok h.now h0 h1 (by have := h.len; omega)
  have e3 : inS s d = ⟨s.now, s.last + 1, insT s.T (pos s.T d) ⟨d, s.last + 1⟩⟩ := by
    unfold inS armS
    rw [if_neg (by omega), e1, if_pos e2]
  refine ⟨?_, ?_, ?_⟩
  · unfold inN armN
    rw [if_neg (by omega), e1, if_pos e2, h.last]
  · unfold inE
    rw [if_neg (by omega), e1, e2]
  · rw [e3]
    refine ⟨h.now, by rw [h.last], ?_, fun h3 => ?_⟩
    · show ((insT _ _ _).length : Int) = _
      rw [insT_len _ (posT_pos _ _).1]
      have := h.len
      omega
    · by_cases hz2 : z = 2
      · exact ⟨⟨d, s.last + 1⟩, by unfold insT; simp, by show s.last + 1 = 3; rw [h.last]; omega⟩
      · obtain ⟨x, hx, e⟩ := h.has (by omega)
        refine ⟨x, ?_, e⟩
        show x ∈ insT _ _ _
        unfold insT
        rw [List.mem_append, List.mem_cons]
        have : x ∈ s.T.take (pos s.T d) ++ s.T.drop (pos s.T d) := by rw [List.take_append_drop]; exact hx
        rcases List.mem_append.1 this with e | e
        · exact Or.inl e
        · exact Or.inr (Or.inr e)
theorem Fu.full {s : Cs} (h : Fu s 65536) : inE s 1 = 3 ∧ inS s 1 = s ∧ hasT s.T 3 = true ∧ inN (stopS s 3) 1 = 65537 ∧ inE (stopS s 3) 1 = 0 := by
  have e1 := inT_small (d := 1) h.now (by omega)
  have hl : 65536 ≤ s.T.length := by have := h.len; omega
  have e2 : armE s 1 = 3 := by
    unfold armE
    rw [isT_yes (by decide), if_neg (by simp), if_neg (by have := h.now; omega), if_pos hl]
  obtain ⟨x, hx, hx3⟩ := h.has (by omega)
  have f1 : inT (stopS s 3) 1 = 1 := inT_small h.now (by omega)
  have f2 : (outT s.T 3).length < s.T.length := by
    unfold outT
    rw [List.length_filter_lt_length_iff_exists]
    exact ⟨x, hx, by simp [hx3]⟩
  have f3 : armE (stopS s 3) 1 = 0 := inE_ok h.now (by omega) (by omega) (by have := h.len; show (outT s.T 3).length < _; omega)
  refine ⟨?_, ?_, ?_, ?_, ?_⟩
  · unfold inE
    rw [if_neg (by omega), e1, e2]
  · unfold inS armS
    rw [if_neg (by omega), e1, e2, if_neg (by decide)]
  · unfold hasT
    rw [List.any_eq_true]
    exact ⟨x, hx, by simp [hx3]⟩
  · unfold inN armN
    rw [if_neg (by omega), f1, if_pos f3]
    show s.last + 1 = 65537
    rw [h.last]
    decide
  · unfold inE
    rw [if_neg (by omega), f1, f3]
/-- A clock that was made since w. -/
def Mk (w wr : World) (c : Nat) (s : Cs) : Prop := ∃ F, Ck wr c F s ∧ Touch [] w wr ∧ ∀ k, k ∈ F → w.heap.size ≤ k
theorem Mk.step {w wr w' : World} {c : Nat} {s s' : Cs} {F : List Nat} (h1 : Touch [] w wr) (h2 : ∀ k, k ∈ F → w.heap.size ≤ k) (h : Nx wr w' c F s') : Mk w w' c s' := h.fresh h2 h1
theorem Mk.quiet {w wr w' : World} {c : Nat} {s : Cs} (h : Mk w wr c s) (ht : Touch [] wr w') : Mk w w' c s := by
  obtain ⟨F, h1, h2, h3⟩ := h
  exact ⟨F, h1.keep0 ht, h2.trans' ht, h3⟩
def FuR (w wr : World) (c : Nat) (z : Int) : Prop := ∃ s, Fu s z ∧ Mk w wr c s
theorem tmod_small {z : Int} (h : 0 ≤ z) : 0 ≤ z % 7 ∧ z % 7 ≤ 6 := by
  omega
def FiE (e : Ending) (w w' : World) (c : Nat) (z : Int) : Prop := e = .returned (.tuple #[.int .i64 (z + 1), .int .i64 0]) ∧ FuR w w' c (z + 1)
set_option maxHeartbeats 2000000 in
set_option maxRecDepth 100000 in
theorem law6 (w : World) (m : Int) (hm : W64 m) : Calls Try.prog 6 #[.int .i64 m] w fun e w' => e = .returned (.bool true) ∧ Touch [] w w' := by
  have HN := hid (new7 w)
  have HI : Hid (∀ w1 c z, FuR w w1 c z → 0 ≤ z → z < 65536 → Calls Try.prog 16 #[.pointer (some ⟨c, 0, none⟩), .int .i64 (z % 7)] w1 fun e w' => FiE e w w' c z) := fun w1 c z h h0 hz => by
    obtain ⟨s, h1, F, h2, h3, h4⟩ := h
    obtain ⟨d0, d1⟩ := tmod_small h0
    obtain ⟨e1, e2, e3⟩ := h1.step hz d0 d1
    refine (in16 w1 c F s (z % 7) h2 (by have := h1.last; omega) (W64.mk (by omega) (by omega))).mono ?_
    rintro e w' ⟨he, r⟩
    rw [e1, e2] at he
    exact ⟨he, _, e3, r.fresh h4 h3⟩
  have HF : Hid (∀ w1 c, FuR w w1 c 65536 → Calls Try.prog 16 #[.pointer (some ⟨c, 0, none⟩), .int .i64 1] w1 fun e w' => (∃ n, e = .returned (.tuple #[.int .i64 n, .int .i64 3])) ∧ FuR w w' c 65536) := fun w1 c h => by
    obtain ⟨s, h1, F, h2, h3, h4⟩ := h
    obtain ⟨e1, e2, e3, e4, e5⟩ := h1.full
    refine (in16 w1 c F s 1 h2 (by have := h1.last; omega) (W64.mk (by omega) (by omega))).mono ?_
    rintro e w' ⟨he, r⟩
    rw [e1] at he
    rw [e2] at r
    exact ⟨⟨_, he⟩, s, h1, r.fresh h4 h3⟩
  have HS : Hid (∀ w1 c, FuR w w1 c 65536 → Calls Try.prog 20 #[.pointer (some ⟨c, 0, none⟩), .int .i64 3] w1 fun e w' => e = .returned (.bool true) ∧ ∃ s, Fu s 65536 ∧ Mk w w' c (stopS s 3)) := fun w1 c h => by
    obtain ⟨s, h1, F, h2, h3, h4⟩ := h
    obtain ⟨e1, e2, e3, e4, e5⟩ := h1.full
    refine (stop20 w1 c F s 3 h2 (W64.mk (by omega) (by omega))).mono ?_
    rintro e w' ⟨he, r⟩
    rw [e3] at he
    exact ⟨he, s, h1, r.fresh h4 h3⟩
  have HL : Hid (∀ w1 c, (∃ s, Fu s 65536 ∧ Mk w w1 c (stopS s 3)) → Calls Try.prog 16 #[.pointer (some ⟨c, 0, none⟩), .int .i64 1] w1 fun e w' => e = .returned (.tuple #[.int .i64 65537, .int .i64 0]) ∧ Touch [] w w') := fun w1 c h => by
    obtain ⟨s, h1, F, h2, h3, h4⟩ := h
    obtain ⟨e1, e2, e3, e4, e5⟩ := h1.full
    refine (in16 w1 c F (stopS s 3) 1 h2 (by have := h1.last; show s.last < _; omega) (W64.mk (by omega) (by omega))).mono ?_
    rintro e w' ⟨he, r⟩
    rw [e4, e5] at he
    obtain ⟨F', _, r2, _⟩ := r.fresh h4 h3
    exact ⟨he, r2⟩
  by_cases h5 : m.tmod 64 = 5
  · have b5 : (m.tmod 64 != 5) = false := by simp [h5]
    clear h5
    go_enter Try.func6, Try.ntmps6
    go_wp2_with (first
      | (go_at_call 7; refine HN.out.mono ?_; rintro e w1 ⟨c, F, rfl, k1, t1, n1⟩; have H1 := hid (show Mk w w1 c ⟨0, 0, []⟩ from ⟨F, k1, t1, n1⟩); clear k1 t1 n1)
      | (go_at_call 8; refine (awake8 _).mono ?_; rintro e w2 ⟨rfl, t2⟩; have H2 := hid (H1.out.quiet t2); clear t2))
    clear HN
    clear b5
    go_loopw [4] (fun i wr => ∃ z : Int, i = .int .i64 z ∧ 0 ≤ z ∧ z ≤ 65536 ∧ Hid (FuR w wr c z)) (fun i _ => 65536 - (intOf i).toNat)
    case atStart => exact ⟨0, rfl, by omega, by omega, _, Fu.start, H2.out⟩
    case round =>
      clear H1 H2
      obtain ⟨z, rfl, z0, z1, HR⟩ := hrel
      by_cases hz : z < 65536
      · have bz : (z + 1 == z + 1) = true := by simp
        go_wp2_with (first
          | (go_at_call 16; refine (HI.out _ _ _ HR.out z0 hz).mono ?_; rintro e w3 ⟨rfl, r3⟩; have H3 := hid r3; clear r3))
        go_roundw
        case rel => exact ⟨z + 1, rfl, by omega, by omega, H3⟩
        case measure => simp [intOf]; omega
      · have ez : z = 65536 := by omega
        subst ez
        clear z0 z1 hz
        go_wp2_with (first
          | (go_at_call 16; refine (HL.out _ _ H4.out).mono ?_; rintro e w5 ⟨rfl, t5⟩)
          | (go_at_call 20; refine (HS.out _ _ H3.out).mono ?_; rintro e w4 ⟨rfl, r4⟩; have H4 := hid r4; clear r4)
          | (go_at_call 16; refine (HF.out _ _ HR.out).mono ?_; rintro e w3 ⟨⟨n3, rfl⟩, r3⟩; have H3 := hid r3; clear r3))
        go_ret
        exact ⟨rfl, t5⟩
  · have b5 : (m.tmod 64 == 5) = false := by simp [h5]
    go_enter Try.func6, Try.ntmps6
    go_wp2_with (first
      | (go_at_call 7; refine HN.out.mono ?_; rintro e w1 ⟨c, F, rfl, k1, t1, n1⟩; have H1 := hid (And.intro k1 (And.intro t1 n1)); clear k1 t1 n1)
      | (go_at_call 8; refine (awake8 _).mono ?_; rintro e w2 ⟨rfl, t2⟩))
    go_ret
    exact ⟨rfl, H1.out.2.1.trans' t2⟩
end Go.Proofs.Ytaioegefoiabhaa
