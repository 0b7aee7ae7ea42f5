/- The walk of the law ClockParts. -/
import Derived.Test.YtaioegefoiabhaaPrt
import Derived.Laws.AppendOwnNone
import Derived.Deep.QuietTactic
import Derived.BigQuiet
namespace Go.Proofs.Ytaioegefoiabhaa
open Go.RowKit Go.Maps Go.ChangeMaps
set_option linter.unusedVariables false
/-- Numbers that came in, as they stand in every world since. -/
def InR (w : World) (v : Value) (n : Nat) (z : Nat → Int) : Prop := ∃ a c, v = .slice a n c ∧ (n = 0 ∨ ∃ x, a = some x ∧ ∀ w', Touch [] w w' → ∀ i, i < n → w'.cell? (x.add i) = some (.int .i64 (z i)))
/-- append of a whole row of rings, nil or not. -/
theorem wpList_append_rr {w : World} {ops : Array Oper} {rest : List Oper} {o : Oper} {a : Act} {Q : Exit → Act → World → Prop} (hgd : o.guard = none) (s x : Operand)
    (ho : o.op = .call { callee := .builtin .append, args := #[s, x], argTypes := #[34, 34] }) (base B : Nat) (v y : Value) (l1 l2 : List Tm) (hs : a.eval s = v) (hv : RR 45 w base v l1) (hx : a.eval x = y) (hy : RR 45 w B y l2) (hl : l1.length + l2.length ≤ 131072) (hb : base ≤ w.heap.size)
    (h : ∀ v' w', RR 45 w' base v' (l1 ++ l2) → Touch v.ownBlock.toList w w' → wpList Try.prog ops Q rest (a.put o.dst v') w') : wpList Try.prog ops Q (o :: rest) a w := by
  obtain ⟨i45, hi, hz0, hz1, hz2⟩ := info_parts info45
  rcases hy.2 with ⟨e, h0⟩ | ⟨g, c, cur, e, _⟩
  · have hl2 : l2 = [] := List.length_eq_zero_iff.1 h0
    subst hl2 e
    refine wpList_append_own_none hgd s x 34 ho base 45 i45 2 Try.underlying34 hi v l1.length (flatT l1) hs hv hx ?_
    exact h v w (by rw [List.append_nil]; exact hv) (Touch.refl _ _)
  · subst e
    refine wpList_append_own w hgd s x 34 ho base 45 i45 (.agg #[.int .i64 0, .int .i64 0]) 2 16 Try.underlying34 hi hz0 hz1 hz2 rfl (by decide) v l1.length (flatT l1) hs hv ⟨g, 0, none⟩ l2.length c (flatT l2) hx (flatT_len l2) (fun j u hj => ?_) (one_flatT _) (by unfold maxLen; omega) (by omega) hb ?_
    · have := own_cell hy hj
      rw [show (⟨g, 0, none⟩ : Addr).add j = ⟨g, j, none⟩ by cases j <;> simp [Addr.add]]
      exact this
    · intro v' w' h1 h2 _
      refine h v' w' ?_ ((Touch.refl _ _).grown h2 (fun k hk => Or.inl (by simp [hk])))
      unfold RR
      rw [List.length_append, flatT_app]
      exact h1
def AdQ (e : Ending) (w w1 w' : World) (c o : Nat) (s s' : Cs) (R : List Tm) : Prop := ∃ a m, e = .returned (.tuple #[.slice a R.length m, .int .i64 0]) ∧ RR 45 w' w1.heap.size (.slice a R.length m) R ∧ P2 w w' c o s s' ∧ Kp w1 w'
theorem AdQ.of {e : Ending} {w w1 w' : World} {c o : Nat} {s s' : Cs} {R : List Tm} {k : Int} (h : AdP e w w1 w' c o s s' R (.int .i64 k)) (hk : k = 0) : AdQ e w w1 w' c o s s' R := by
  obtain ⟨a, n, m, he, h1, h2, h3⟩ := h
  obtain ⟨a', m', e⟩ := h1.slice
  injection e with e1 e2 e3
  subst e1 e2 e3
  exact ⟨a, m, by rw [he, hk], h1, h2, h3⟩
/-- Both clocks stand alike, at 0; n timers were tried. -/
def PaR (w wr : World) (c o : Nat) (n : Nat) : Prop := ∃ s, P2 w wr c o s s ∧ s.now = 0 ∧ s.last ≤ (n : Int)
theorem PaR.arm {w w1 : World} {c o n : Nat} {s : Cs} (h : P2 w w1 c o s s) (h0 : s.now = 0) (h1 : s.last ≤ (n : Int)) (t : Int) (hn : n ≤ 50) :
    (Calls Try.prog 10 #[.pointer (some ⟨c, 0, none⟩), .int .i64 t] w1 fun e w' => e = .returned (.tuple #[.int .i64 (armN s t), .int .i64 (armE s t)]) ∧ P2 w w' c o (armS s t) s) ∧
    ∀ w2, P2 w w2 c o (armS s t) s → Calls Try.prog 10 #[.pointer (some ⟨o, 0, none⟩), .int .i64 t] w2 fun e w' => e = .returned (.tuple #[.int .i64 (armN s t), .int .i64 (armE s t)]) ∧ PaR w w' c o (n + 1) := by
  refine ⟨(P2.arm w1 h t (by omega)).mono ?_, fun w2 h2 => (P2.arm w2 h2.swap t (by omega)).mono ?_⟩
  · rintro e w' ⟨he, r, _⟩
    exact ⟨he, r⟩
  · rintro e w' ⟨he, r, _⟩
    refine ⟨he, armS s t, r.swap, ?_, ?_⟩
    · unfold armS
      split
      · exact h0
      · exact h0
    · have := (armS_last (s := s) t).2
      omega
set_option maxHeartbeats 4000000 in
set_option maxRecDepth 100000 in
theorem law4 (w : World) (v : Value) (L : Nat) (z : Nat → Int) (a b : Int) (hv : InR w v L z) (hL : L ≤ maxLen) (ha : W64 a) (hb : W64 b) : Calls Try.prog 4 #[v, .int .i64 a, .int .i64 b] w fun e w' => e = .returned (.bool true) ∧ Touch [] w w' := by
  obtain ⟨av, cv, rfl, hin⟩ := hv
  have HN : Hid (∀ w1, Calls Try.prog 7 #[] w1 fun e w' => NwQ e w1 w' ⟨0, 0, []⟩) := fun w1 => new7 w1
  by_cases hg : 0 ≤ a ∧ 0 ≤ b ∧ a ≤ 1152921504606846976 ∧ b ≤ 1152921504606846976
  · obtain ⟨g1, g2, g3, g4⟩ := hg
    have zL : (L : Int) ≤ 9223372036854775807 := by unfold maxLen at hL; omega
    have HI : Hid (L = 0 ∨ ∃ x, av = some x ∧ ∀ w', Touch [] w w' → ∀ i, i < L → w'.cell? (x.add i) = some (.int .i64 (z i))) := hin
    have HW := hid (And.intro ha hb)
    clear hin ha hb hL
    go_enter Try.func4, Try.ntmps4
    go_wp2_with (first
      | (go_at_call 7; refine (HN.out _).mono ?_; first | (rintro e w2 ⟨o, G, rfl, k2, t2, n2⟩; have H2 := hid (P2.make H1.out.1 H1.out.2.1 H1.out.2.2 k2 t2 n2); clear k2 t2 n2 H1) | (rintro e w1 ⟨c, F, rfl, k1, t1, n1⟩; have H1 := hid (And.intro k1 (And.intro t1 n1)); clear k1 t1 n1))
      | (go_at_call 8; refine (awake8 _).mono ?_; rintro e w3 ⟨rfl, t3⟩; have H3 := hid (H2.out.quiet t3); clear t3 H2))
    generalize decide (a < 0) = bb1
    generalize decide (b < 0) = bb2
    generalize decide (1152921504606846976 < a) = bb3
    generalize decide (1152921504606846976 < b) = bb4
    generalize (bb1 || bb2) = bb5
    generalize (bb5 || bb3) = bb6
    generalize (bb6 || bb4) = bb7
    go_loopw [9] (fun i wr => ∃ n : Nat, i = .int .i64 n ∧ n ≤ L ∧ n ≤ 50 ∧ Hid (PaR w wr c o n)) (fun i _ => L - (intOf i).toNat)
    case atStart => exact ⟨0, rfl, Nat.zero_le _, by omega, ⟨0, 0, []⟩, H3.out, rfl, by decide⟩
    case round =>
      clear H3
      obtain ⟨n, rfl, hn, hn50, HR⟩ := hrel
      by_cases hlt : n < L ∧ n < 50
      · obtain ⟨hl1, hl2⟩ := hlt
        have zn1 : (n : Int) < (L : Int) := by omega
        have zn2 : (n : Int) < 50 := by omega
        obtain ⟨s, p2, s0, s1⟩ := HR.out
        obtain ⟨x, rfl, hx⟩ : ∃ x, av = some x ∧ ∀ w', Touch [] w w' → ∀ i, i < L → w'.cell? (x.add i) = some (.int .i64 (z i)) := by
          rcases HI.out with e | e
          · omega
          · exact e
        have HX := hid hx
        have c1 := hx wr p2.to n hl1
        obtain ⟨A1, A2⟩ := PaR.arm p2 s0 s1 (z n) hn50
        have HA1 := hid A1
        have HA2 := hid A2
        clear A1 A2 s0 s1 p2 hx HR
        generalize armN s (z n) = an at *
        generalize armE s (z n) = ae at *
        go_wp2_with (first
          | (go_at_call_of 10 (#[.pointer (some ⟨c, 0, none⟩), .int .i64 (z n)] : Array Value); refine HA1.out.mono ?_; rintro e w4 ⟨rfl, p4⟩; have H4 := hid p4; have c4 := HX.out w4 p4.to n hl1; clear p4)
          | (go_at_call_of 10 (#[.pointer (some ⟨o, 0, none⟩), .int .i64 (z n)] : Array Value); refine (HA2.out _ H4.out).mono ?_; rintro e w5 ⟨rfl, p5⟩; have H5 := hid p5; clear p5))
        go_roundw
        case rel => exact ⟨n + 1, by go_num, by omega, by omega, H5⟩
        case measure => simp [intOf]; omega
      · have hn2 : n = L ∨ (n < L ∧ n = 50) := by omega
        clear hlt
        obtain ⟨s, p2, s0, s1⟩ := HR.out
        have ok : Ok s := by obtain ⟨F, G, k1, _⟩ := p2; exact k1.ok
        obtain ⟨q1, q2, q3, q4, q5, q6, q7⟩ := parts ok s0 g1 g3 g2 g4
        have HV1 : Hid (Calls Try.prog 11 #[.pointer (some ⟨c, 0, none⟩), .int .i64 a] wr fun e w' => AdQ e w wr w' c o (advS s a) s (advR s a)) := (P2.adv wr p2 a HW.out.1).mono (fun e w' h => AdQ.of h q1)
        have HV2 : Hid (∀ w2, P2 w w2 c o (advS s a) s → Calls Try.prog 11 #[.pointer (some ⟨c, 0, none⟩), .int .i64 b] w2 fun e w' => AdQ e w w2 w' c o (advS (advS s a) b) s (advR (advS s a) b)) := fun w2 h2 => (P2.adv w2 h2 b HW.out.2).mono (fun e w' h => AdQ.of h q2)
        have HV3 : Hid (∀ w3, P2 w w3 c o (advS (advS s a) b) s → Calls Try.prog 11 #[.pointer (some ⟨o, 0, none⟩), .int .i64 (a + b)] w3 fun e w' => AdQ e w w3 w' o c (advS s (a + b)) (advS (advS s a) b) (advR s (a + b))) := fun w3 h3 => (P2.adv w3 h3.swap (a + b) (W64.mk (by omega) (by omega))).mono (fun e w' h => AdQ.of h q3)
        have HO1 : Hid (∀ w4, P2 w w4 o c (advS s (a + b)) (advS (advS s a) b) → Calls Try.prog 14 #[.pointer (some ⟨c, 0, none⟩)] w4 fun e w' => e = .returned (.int .i64 (a + b)) ∧ w' = w4) := fun w4 h4 => by
          have := P2.now w4 h4.swap
          rw [q5] at this
          exact this
        have HO2 : Hid (∀ w4, P2 w w4 o c (advS s (a + b)) (advS (advS s a) b) → Calls Try.prog 14 #[.pointer (some ⟨o, 0, none⟩)] w4 fun e w' => e = .returned (.int .i64 (a + b)) ∧ w' = w4) := fun w4 h4 => by
          have := P2.now w4 h4
          rw [q6] at this
          exact this
        have HQ4 := hid q4
        have HP : Hid (w.heap.size ≤ wr.heap.size) := p2.to.size
        have HOrd : Hid (∀ k, k + 1 < (advR s (a + b)).length → (gtT (advR s (a + b)) k).at_ < (gtT (advR s (a + b)) (k + 1)).at_ ∨ (gtT (advR s (a + b)) k).at_ = (gtT (advR s (a + b)) (k + 1)).at_ ∧ (gtT (advR s (a + b)) k).it < (gtT (advR s (a + b)) (k + 1)).it) := fun k hk => by
          rw [q7] at hk ⊢
          exact tail_ord ok.ord hk
        have HLn : Hid ((advR s (a + b)).length ≤ 65536) := by
          show _ ≤ _
          rw [q7, List.length_take]
          have := ok.len
          omega
        have eL : (advR s a).length + (advR (advS s a) b).length = (advR s (a + b)).length := by rw [← q4, List.length_append]
        have HEL := hid eL
        clear eL q1 q2 q3 q4 q5 q6 q7 ok s0 s1 p2 HR HI
        generalize advS (advS s a) b = s2 at *
        generalize advR (advS s a) b = l2 at *
        generalize advS s (a + b) = s3 at *
        generalize advR s (a + b) = l3 at *
        generalize advS s a = sa at *
        generalize advR s a = l1 at *
        rcases hn2 with hn2 | ⟨hn2, hn3⟩
        · have zn : ¬ (n : Int) < (L : Int) := by omega
          clear hn2
          go_wp2_with (first
            | (at_builtin; (refine wpList_append_rr rfl _ _ rfl wr.heap.size _ _ _ l1 l2 rfl (H6.out.2.2.1) rfl (H6.out.2.2.2) (by have := HEL.out; have := HLn.out; omega) (by have := H6.out.2.1; omega) ?_; intro v7 w7 r7 t7; rw [HQ4.out] at r7; obtain ⟨a7, m7, rfl⟩ := r7.slice; have H7 := hid (And.intro r7 (And.intro (H6.out.1.1.row H6.out.2.2.1 HP.out t7) (H6.out.1.2.keep t7 (fun bb hbb e => by have e1 := (H6.out.1.2.lt bb hbb).1; have e2 := (H5.out.2.2.lt bb (Option.mem_toList.1 e)).2; omega)))); clear r7 t7))
            | (go_at_call_of 14 (#[.pointer (some ⟨c, 0, none⟩)] : Array Value); refine (HO1.out _ H7.out.2.1).mono ?_; rintro e w8 ⟨rfl, rfl⟩)
            | (go_at_call_of 14 (#[.pointer (some ⟨o, 0, none⟩)] : Array Value); refine (HO2.out _ H7.out.2.1).mono ?_; rintro e w9 ⟨rfl, rfl⟩)
            | (go_at_call_of 11 (#[.pointer (some ⟨c, 0, none⟩), .int .i64 a] : Array Value); refine HV1.out.mono ?_; rintro e w4 ⟨a4, m4, rfl, r4, p4, k4⟩; have H4 := hid (And.intro p4 r4); have HZ4 := hid k4.1; clear p4 r4 k4)
            | (go_at_call_of 11 (#[.pointer (some ⟨c, 0, none⟩), .int .i64 b] : Array Value); refine (HV2.out _ H4.out.1).mono ?_; rintro e w5 ⟨a5, m5, rfl, r5, p5, k5⟩; have H5 := hid (And.intro p5 (And.intro r5 (k5.2 _ _ _ H4.out.2))); have HZ5 := hid (Nat.le_trans HZ4.out k5.1); clear p5 r5 k5)
            | (go_at_call_of 11 (#[.pointer (some ⟨o, 0, none⟩), .int .i64 (a + b)] : Array Value); refine (HV3.out _ H5.out.1).mono ?_; rintro e w6 ⟨a6, m6, rfl, r6, p6, k6⟩; have H6 := hid (And.intro (And.intro p6 r6) (And.intro (Nat.le_trans HZ5.out k6.1) (And.intro (k6.2 _ _ _ H5.out.2.2) (k6.2 _ _ _ H5.out.2.1)))); clear p6 r6 k6))
          obtain ⟨N, hN⟩ : ∃ N, N = l3.length := ⟨_, rfl⟩
          have HNN := hid hN
          have HT7 := hid H7.out.2.1.to
          have HX7 := hid H7.out.1
          have HZ7 := hid H7.out.2.2
          rw [← hN] at HX7 HZ7 HLn ⊢
          clear hN H7 H6 H5 H4 HZ5 HZ4 HV1 HV2 HV3 HO1 HO2 HQ4 HEL
          have zN : (N : Int) ≤ 65536 := by have := HLn.out; omega
          go_loopw [20] (fun i wr => ∃ k : Nat, i = .int .i64 k ∧ k ≤ N ∧ Hid (Touch [] w9 wr)) (fun i _ => N - (intOf i).toNat)
          case atStart => exact ⟨0, rfl, Nat.zero_le _, Touch.refl _ _⟩
          case round =>
            obtain ⟨k, rfl, hk, HTr⟩ := hrel
            by_cases hkl : k < N
            · have zk : (k : Int) < (N : Int) := by omega
              obtain ⟨gx, rfl, eN, yy0, yy1⟩ := (HX7.out.keep0 HTr.out).cells (k := k) (by have := HNN.out; omega)
              obtain ⟨gz, rfl, eN2, zz0, zz1⟩ := (HZ7.out.keep0 HTr.out).cells (k := k) (by have := HNN.out; omega)
              clear eN eN2
              rcases Nat.eq_zero_or_pos k with rfl | hk0
              · have b0 : decide ((0 : Int) < ((0 : Nat) : Int)) = false := by simp
                generalize gtT l3 0 = x at *
                go_wp2
                go_quiet (fail)
                go_wp2
                go_roundw
                case rel => exact ⟨1, by go_num, by omega, HTr.out.drewN _⟩
                case measure => simp [intOf]; omega
              · obtain ⟨j, rfl⟩ : ∃ j, k = j + 1 := ⟨k - 1, by omega⟩
                obtain ⟨gx', ex, eN3, xx0, xx1⟩ := (HX7.out.keep0 HTr.out).cells (k := j) (by have := HNN.out; omega)
                simp only [Option.some.injEq, Addr.mk.injEq, and_true] at ex
                subst ex
                clear eN3
                have ej : ((j + 1 : Nat) : Int) - 1 = (j : Int) := by omega
                have zj : (j : Int) < (N : Int) := by omega
                have zp : (0 : Int) < ((j + 1 : Nat) : Int) := by omega
                have hord := HOrd.out j (by have := HNN.out; omega)
                generalize gtT l3 (j + 1) = x at *
                generalize gtT l3 j = y at *
                rcases hord with h1 | ⟨h1, h2⟩
                · have d1 : decide (x.at_ < y.at_) = false := by simp; omega
                  have d2 : (x.at_ == y.at_) = false := by simp; omega
                  go_wp2
                  go_quiet (fail)
                  go_wp2
                  go_roundw
                  case rel => exact ⟨j + 1 + 1, by go_num, by omega, HTr.out.drewN _⟩
                  case measure => simp [intOf]; omega
                · have d1 : decide (x.at_ < y.at_) = false := by simp; omega
                  have d2 : (x.at_ == y.at_) = true := by simp; omega
                  have d3 : decide (x.it ≤ y.it) = false := by simp; omega
                  go_wp2
                  go_quiet (fail)
                  go_wp2
                  go_roundw
                  case rel => exact ⟨j + 1 + 1, by go_num, by omega, HTr.out.drewN _⟩
                  case measure => simp [intOf]; omega
            · have zk : ¬ (k : Int) < (N : Int) := by omega
              go_wp2
              go_ret
              exact ⟨rfl, HT7.out.trans' HTr.out⟩
        · have zn : (n : Int) < (L : Int) := by omega
          have zn3 : ¬ (n : Int) < 50 := by omega
          clear hn2 hn3
          go_wp2_with (first
            | (at_builtin; (refine wpList_append_rr rfl _ _ rfl wr.heap.size _ _ _ l1 l2 rfl (H6.out.2.2.1) rfl (H6.out.2.2.2) (by have := HEL.out; have := HLn.out; omega) (by have := H6.out.2.1; omega) ?_; intro v7 w7 r7 t7; rw [HQ4.out] at r7; obtain ⟨a7, m7, rfl⟩ := r7.slice; have H7 := hid (And.intro r7 (And.intro (H6.out.1.1.row H6.out.2.2.1 HP.out t7) (H6.out.1.2.keep t7 (fun bb hbb e => by have e1 := (H6.out.1.2.lt bb hbb).1; have e2 := (H5.out.2.2.lt bb (Option.mem_toList.1 e)).2; omega)))); clear r7 t7))
            | (go_at_call_of 14 (#[.pointer (some ⟨c, 0, none⟩)] : Array Value); refine (HO1.out _ H7.out.2.1).mono ?_; rintro e w8 ⟨rfl, rfl⟩)
            | (go_at_call_of 14 (#[.pointer (some ⟨o, 0, none⟩)] : Array Value); refine (HO2.out _ H7.out.2.1).mono ?_; rintro e w9 ⟨rfl, rfl⟩)
            | (go_at_call_of 11 (#[.pointer (some ⟨c, 0, none⟩), .int .i64 a] : Array Value); refine HV1.out.mono ?_; rintro e w4 ⟨a4, m4, rfl, r4, p4, k4⟩; have H4 := hid (And.intro p4 r4); have HZ4 := hid k4.1; clear p4 r4 k4)
            | (go_at_call_of 11 (#[.pointer (some ⟨c, 0, none⟩), .int .i64 b] : Array Value); refine (HV2.out _ H4.out.1).mono ?_; rintro e w5 ⟨a5, m5, rfl, r5, p5, k5⟩; have H5 := hid (And.intro p5 (And.intro r5 (k5.2 _ _ _ H4.out.2))); have HZ5 := hid (Nat.le_trans HZ4.out k5.1); clear p5 r5 k5)
            | (go_at_call_of 11 (#[.pointer (some ⟨o, 0, none⟩), .int .i64 (a + b)] : Array Value); refine (HV3.out _ H5.out.1).mono ?_; rintro e w6 ⟨a6, m6, rfl, r6, p6, k6⟩; have H6 := hid (And.intro (And.intro p6 r6) (And.intro (Nat.le_trans HZ5.out k6.1) (And.intro (k6.2 _ _ _ H5.out.2.2) (k6.2 _ _ _ H5.out.2.1)))); clear p6 r6 k6))
          obtain ⟨N, hN⟩ : ∃ N, N = l3.length := ⟨_, rfl⟩
          have HNN := hid hN
          have HT7 := hid H7.out.2.1.to
          have HX7 := hid H7.out.1
          have HZ7 := hid H7.out.2.2
          rw [← hN] at HX7 HZ7 HLn ⊢
          clear hN H7 H6 H5 H4 HZ5 HZ4 HV1 HV2 HV3 HO1 HO2 HQ4 HEL
          have zN : (N : Int) ≤ 65536 := by have := HLn.out; omega
          go_loopw [20] (fun i wr => ∃ k : Nat, i = .int .i64 k ∧ k ≤ N ∧ Hid (Touch [] w9 wr)) (fun i _ => N - (intOf i).toNat)
          case atStart => exact ⟨0, rfl, Nat.zero_le _, Touch.refl _ _⟩
          case round =>
            obtain ⟨k, rfl, hk, HTr⟩ := hrel
            by_cases hkl : k < N
            · have zk : (k : Int) < (N : Int) := by omega
              obtain ⟨gx, rfl, eN, yy0, yy1⟩ := (HX7.out.keep0 HTr.out).cells (k := k) (by have := HNN.out; omega)
              obtain ⟨gz, rfl, eN2, zz0, zz1⟩ := (HZ7.out.keep0 HTr.out).cells (k := k) (by have := HNN.out; omega)
              clear eN eN2
              rcases Nat.eq_zero_or_pos k with rfl | hk0
              · have b0 : decide ((0 : Int) < ((0 : Nat) : Int)) = false := by simp
                generalize gtT l3 0 = x at *
                go_wp2
                go_quiet (fail)
                go_wp2
                go_roundw
                case rel => exact ⟨1, by go_num, by omega, HTr.out.drewN _⟩
                case measure => simp [intOf]; omega
              · obtain ⟨j, rfl⟩ : ∃ j, k = j + 1 := ⟨k - 1, by omega⟩
                obtain ⟨gx', ex, eN3, xx0, xx1⟩ := (HX7.out.keep0 HTr.out).cells (k := j) (by have := HNN.out; omega)
                simp only [Option.some.injEq, Addr.mk.injEq, and_true] at ex
                subst ex
                clear eN3
                have ej : ((j + 1 : Nat) : Int) - 1 = (j : Int) := by omega
                have zj : (j : Int) < (N : Int) := by omega
                have zp : (0 : Int) < ((j + 1 : Nat) : Int) := by omega
                have hord := HOrd.out j (by have := HNN.out; omega)
                generalize gtT l3 (j + 1) = x at *
                generalize gtT l3 j = y at *
                rcases hord with h1 | ⟨h1, h2⟩
                · have d1 : decide (x.at_ < y.at_) = false := by simp; omega
                  have d2 : (x.at_ == y.at_) = false := by simp; omega
                  go_wp2
                  go_quiet (fail)
                  go_wp2
                  go_roundw
                  case rel => exact ⟨j + 1 + 1, by go_num, by omega, HTr.out.drewN _⟩
                  case measure => simp [intOf]; omega
                · have d1 : decide (x.at_ < y.at_) = false := by simp; omega
                  have d2 : (x.at_ == y.at_) = true := by simp; omega
                  have d3 : decide (x.it ≤ y.it) = false := by simp; omega
                  go_wp2
                  go_quiet (fail)
                  go_wp2
                  go_roundw
                  case rel => exact ⟨j + 1 + 1, by go_num, by omega, HTr.out.drewN _⟩
                  case measure => simp [intOf]; omega
            · have zk : ¬ (k : Int) < (N : Int) := by omega
              go_wp2
              go_ret
              exact ⟨rfl, HT7.out.trans' HTr.out⟩
  · have hc : (a < 0) ∨ (0 ≤ a ∧ b < 0) ∨ (0 ≤ a ∧ 0 ≤ b ∧ 1152921504606846976 < a) ∨ (0 ≤ a ∧ 0 ≤ b ∧ a ≤ 1152921504606846976 ∧ 1152921504606846976 < b) := by omega
    clear hg hin ha hb
    rcases hc with g1 | ⟨g1, g2⟩ | ⟨g1, g2, g3⟩ | ⟨g1, g2, g3, g4⟩
    all_goals
      go_enter Try.func4, Try.ntmps4
      go_wp2_with (first
        | (go_at_call 7; refine (HN.out _).mono ?_; rintro e w1 ⟨c, F, rfl, k1, t1, n1⟩; clear k1 n1; first | (have T2 : Touch [] w w1 := T1.trans' t1) | (have T1 := t1); clear t1)
        | (go_at_call 8; refine (awake8 _).mono ?_; rintro e w2 ⟨rfl, t2⟩; first | (have T4 : Touch [] w w2 := T3.trans' t2) | (have T3 : Touch [] w w2 := T2.trans' t2); clear t2))
      go_ret
      exact ⟨rfl, T4⟩
end Go.Proofs.Ytaioegefoiabhaa
