/- The walk of the law TokenPlays: tokens that are made, held, let go and cancelled in any order. -/
import Derived.Test.YtbjnajiicljnbaaPly
import Derived.Test.YtbjnajiicljnbaaOpn
import Derived.Deep.CutRange
import Derived.Deep.CutBlock
namespace Go.Proofs.Ytbjnajiicljnbaa
open Go.RowKit Go.Maps Go.ChangeMaps
set_option linter.unusedVariables false
set_option linter.unusedSimpArgs false
theorem caS_len (S : List Tk) (i : Int) : (caS S i).length = S.length := by
  unfold caS
  split
  · rw [canS_len]
  · rfl
/-- The loop's claim: n acts are done. -/
def PlR (w wr : World) (t g c L n : Nat) : Prop := ∃ S, L = S.length ∧ Pq w wr t g c S n
/-- What the act's own way leaves. -/
def PlX (w wx : World) (t g c L b n : Nat) (kd nn : Int) : Prop := ∃ S, L = S.length ∧ Pl w wx t g c b S (n + 1) kd nn
set_option maxHeartbeats 4000000 in
set_option maxRecDepth 100000 in
theorem law3 (w : World) (xs : List Act) (v : Value) (hv : SlA w v xs) (hw : ∀ x ∈ xs, WfA x) (hL : xs.length ≤ 8796093021952) : Calls Try.prog 3 #[v] w fun e w' => e = .returned (.bool true) ∧ Touch [] w w' := by
  obtain ⟨i0, hi0, hz0, hz1, hz2⟩ := info_parts info39
  obtain ⟨av, cv, rfl⟩ : ∃ av cv, v = .slice av xs.length cv := by
    rcases hv with ⟨rfl, a, c, rfl⟩ | ⟨b, off, cap, rfl, _⟩
    · exact ⟨a, c, rfl⟩
    · exact ⟨_, _, rfl⟩
  have HRow : Hid (xs.length = 0 ∨ ∃ b off, av = some ⟨b, off, none⟩ ∧ RowA w b off xs) := by
    rcases hv with ⟨rfl, _⟩ | ⟨b, off, cap, e, r⟩
    · exact Or.inl rfl
    · injection e with e1 e2 e3
      exact Or.inr ⟨b, off, e1, r⟩
  have HWf := hid hw
  clear hv hw
  obtain ⟨A, hA⟩ : ∃ A, A = xs.length := ⟨_, rfl⟩
  have HAx := hid hA
  rw [← hA] at HRow hL ⊢
  clear hA
  by_cases hbig : 3000 < A
  · generalize hAI : (A : Int) = AI at *
    have zA : 3000 < AI := by omega
    clear hbig hL
    go_enter Try.func3, Try.ntmps3
    go_wp2_with (first
      | (go_at_call 6; refine (new6 _).mono ?_; rintro e w1 ⟨rfl, k1, t1⟩; have H1 := hid t1; clear k1 t1; unfold PT)
      | (go_at_call 7; refine (awake7 _).mono ?_; first | (rintro e w3 ⟨rfl, t3⟩; have H3 := hid (H2.out.trans' t3); clear t3) | (rintro e w2 ⟨rfl, t2⟩; have H2 := hid (H1.out.trans' t2); clear t2)))
    go_ret
    exact ⟨rfl, H3.out⟩
  · have HAle : Hid (A ≤ 3000) := by show _ ≤ _; omega
    generalize hAI : (A : Int) = AI at *
    have zA : AI ≤ 3000 := by omega
    have zA0 : 0 ≤ AI := by omega
    clear hbig hL
    go_enter Try.func3, Try.ntmps3
    go_wp2_with (first
      | (go_at_call 6; refine (new6 _).mono ?_; rintro e w1 ⟨rfl, k1, t1⟩; have H1 := hid (St.start k1 (Nat.le_refl _) t1); clear k1 t1; unfold PT)
      | (go_at_call 7; refine (awake7 _).mono ?_; rintro e w2 ⟨rfl, t2⟩; have H2 := hid (H1.out.quiet t2); clear t2))
    have H0 : Hid (PlR w (w2.alloc (.cells #[] 39)) w.heap.size w2.heap.size 0 0 0) := by
      have T : Touch [] w2 (w2.alloc (.cells #[] 39)) := (Touch.refl _ _).alloc _
      refine ⟨[], rfl, H2.out.add T (Nat.le_refl _) (by simp), ?_⟩
      exact own_of_cells (heap_alloc_new _ _) H2.out.tc.size (Nat.le_refl _) (by unfold maxLen; omega) rfl rfl (fun p v hp => by simp [flat3] at hp)
    generalize w2.heap.size = g0 at *
    generalize w.heap.size = t at *
    clear H1 H2
    go_loopw [4, 34] (fun s4 s34 wr => ∃ g c L n, s4 = .slice (some ⟨g, 0, none⟩) L c ∧ s34 = .int .i64 (n : Nat) ∧ n ≤ A ∧ Hid (PlR w wr t g c L n)) (fun _ i _ => A - (intOf i).toNat)
    case atStart => exact ⟨_, _, _, 0, rfl, rfl, Nat.zero_le _, H0⟩
    case round =>
      clear H0
      obtain ⟨g, c, L, n, rfl, rfl, hn, HR⟩ := hrel
      by_cases hlt : n < A
      · have zn : (n : Int) < AI := by omega
        obtain ⟨S, hLS, hs⟩ := HR.out
        obtain ⟨ba, off, rfl, hrow⟩ : ∃ ba off, av = some ⟨ba, off, none⟩ ∧ RowA w ba off xs := by
          rcases HRow.out with e | e
          · omega
          · exact e
        have hnx : n < xs.length := by have := HAx.out; omega
        have r0 := (hrow.keep hs.1.tc).c0 n hnx
        have r1 := (hrow.keep hs.1.tc).c1 n hnx
        have HWx := hid (HWf.out xs[n] (List.getElem_mem hnx))
        clear HR hrow
        generalize xs[n] = ac at *
        clear hnx
        obtain ⟨kd, nn⟩ := ac
        have zk1 := HWx.out.1.lo
        have zk2 := HWx.out.1.hi
        simp only at r0 r1 zk1 zk2
        have HH := hid (hs.box kd nn)
        have HLS := hid hLS
        have HNn := hid (And.intro hn hlt)
        clear hs hn hlt hLS
        go_upto_block 2 with fail
        generalize (wrap64 (kd.tmod 8 + 8)).tmod 8 = K
        obtain ⟨V, hV⟩ : ∃ V, V = wr.alloc (.cells #[.int .i64 kd, .int .i64 nn] 28) := ⟨_, rfl⟩
        rw [← hV] at HH ⊢
        clear hV r0 r1 zk1 zk2
        generalize wr.heap.size = bx at *
        generalize Value.agg #[Value.int IntKind.i64 kd, Value.int IntKind.i64 nn] = d37
        generalize wrap64 (kd.tmod 8 + 8) = d41
        generalize kd.tmod 8 = d40
        go_cut [4] from 43 to 187 (fun s4 wx => ∃ g c L, s4 = .slice (some ⟨g, 0, none⟩) L c ∧ PlX w wx t g c L bx n kd nn)
        case first =>
          have hb1 := HH.out.cell
          have hn3 : n < 65536 := by have := HAle.out; have := HNn.out; omega
          have hn4 : n + 4 < 65536 := by have := HAle.out; have := HNn.out; omega
          by_cases e2 : (K == 2) = true
          · clear hn4 hn3
            by_cases hv : vaB S nn = true
            · have HC := hid (HH.out.cancel hv)
              have HI : Hid (∀ w', Calls Try.prog 9 #[.slice (some ⟨g, 0, none⟩) L c, .int .i64 nn] w' fun e w'' => e = .returned (.bool true) ∧ w'' = w') := fun w' => by rw [HLS.out, ← hv]; exact ris9 w' g c S nn
              have HLc : Hid (L = (caS S nn).length) := by show _ = _; rw [HLS.out, caS_len]
              rw [← HLS.out] at HC
              unfold PT at HC
              clear HH hv
              go_wp2_with (first
                | (go_at_call 8; refine HC.out.mono ?_; rintro e w5 ⟨a5, m5, k5, rfl, x5, h5⟩; have H5 := hid h5; clear h5)
                | (go_at_call 9; refine (HI.out _).mono ?_; rintro e w6 ⟨rfl, rfl⟩)
                | (go_at_call 10; refine H5.out.mono ?_; rintro e w7 ⟨g7, c7, a7, k7, rfl, h7⟩; have H7 := hid h7; clear h7)
                | (go_at_call 11; refine H7.out.mono ?_; rintro e w8 ⟨rfl, r8⟩; have R := hid r8; clear r8))
              go_meet
              case rel => exact ⟨g7, c7, L, rfl, _, HLc.out, R.out⟩
            · have hv : vaB S nn = false := by simpa using hv
              have HC := hid (HH.out.cancel_no hv)
              have HI : Hid (∀ w', Calls Try.prog 9 #[.slice (some ⟨g, 0, none⟩) L c, .int .i64 nn] w' fun e w'' => e = .returned (.bool false) ∧ w'' = w') := fun w' => by rw [HLS.out, ← hv]; exact ris9 w' g c S nn
              unfold PT at HC
              clear HH hv
              go_wp2_with (first
                | (go_at_call 8; refine HC.out.mono ?_; rintro e w5 ⟨a5, k5, rfl, h5⟩; have R := hid h5; have x5 := R.out.cell; clear h5)
                | (go_at_call 9; refine (HI.out _).mono ?_; rintro e w6 ⟨rfl, rfl⟩))
              go_meet
              case rel => exact ⟨g, c, L, rfl, S, HLS.out, R.out⟩
          · have e2 : (K == 2) = false := by simpa using e2
            by_cases e3 : (K == 3) = true
            · clear hn4
              by_cases hv : vaB S nn = true
              · obtain ⟨m, hm, m1, m2⟩ := va_yes hv
                have HC := hid (HH.out.hold hn3 m (by rw [← hm]; exact hv) hm)
                have HI : Hid (∀ w', Calls Try.prog 9 #[.slice (some ⟨g, 0, none⟩) L c, .int .i64 nn] w' fun e w'' => e = .returned (.bool true) ∧ w'' = w') := fun w' => by rw [HLS.out, ← hv]; exact ris9 w' g c S nn
                have HLc : Hid (L = (holdS S m).length) := by show _ = _; rw [HLS.out, holdS_len]
                have HB : Hid (1 ≤ L ∧ L ≤ 65536) := ⟨by rw [HLS.out]; omega, by rw [HLS.out]; exact HH.out.st.le2⟩
                have HB2 : Hid ((tk S m).hol ≤ n) := HH.out.st.ho m
                have HF : Hid ((flat3 S).length = L * 3) := by show _ = _; rw [HLS.out]; exact flat3_len S
                have HX : Hid (∀ w5 w6 g1 c1, Pm w w5 t g c bx S (holdS S m) (n + 1) kd nn → w6.ownsRow w5.heap.size 39 3 (.slice (some ⟨g1, 0, none⟩) L c1) L (flat3 S) → Touch [] w5 w6 → w6.cell? ⟨g1, (m - 1) * 3 + 1, none⟩ = some (.int .i64 ((tk S m).hol : Int)) ∧ w6.frozen? ⟨g1, (m - 1) * 3 + 1, none⟩ = false ∧ w6.cell? ⟨bx, 1, none⟩ = some (.int .i64 nn) ∧ Pl w (w6.setCell ⟨g1, (m - 1) * 3 + 1, none⟩ (.int .i64 (((tk S m).hol : Int) + 1))) t g1 c1 bx (holdS S m) (n + 1) kd nn) := fun w5 w6 g1 c1 pm r T => pm.held m1 m2 (by unfold RR; rw [← HLS.out]; exact r) T
                obtain ⟨i, hin⟩ : ∃ i, m = i + 1 := ⟨m - 1, by omega⟩
                have ei : m - 1 = i := by omega
                have z1 : nn - 1 = (i : Int) := by omega
                have z2 : (i : Int) < (L : Int) := by rw [HLS.out]; omega
                have z3 : (L : Int) ≤ 70000 := by have := HB.out; omega
                have zh : ((tk S m).hol : Int) ≤ 70000 := by have := HB2.out; omega
                have zh0 : 0 ≤ ((tk S m).hol : Int) := by omega
                rw [ei] at HX
                unfold PT at HC
                clear HH hv hm m1 m2 hin ei hn3
                generalize ((tk S m).hol : Int) = yh at *
                have zw : IntKind.i64.wrap (yh + 1) = yh + 1 := by simp [IntKind.wrap, IntKind.bits, IntKind.signed]; omega
                go_upto_region 30 with (first
                  | (go_at_call 12; refine HC.out.mono ?_; rintro e w5 ⟨rfl, h5⟩; have x5 := h5.cell; obtain ⟨q1, q2, q3⟩ := copy_ahead h5.rr; have Q1 := hid q1; have Q2 := hid q2; have P5 := hid h5; clear h5 q1 q2 q3)
                  | (go_at_call 9; refine (HI.out _).mono ?_; rintro e w5 ⟨rfl, rfl⟩)
                  | (at_builtin; refine wpList_append_lies _ rfl _ _ 26 rfl w5.heap.size 39 i0 (.agg #[.int .i64 0, .int .i64 0, .int .i64 0]) 3 24 Try.underlying26 hi0 hz0 hz1 hz2 rfl (by decide) (.slice (some ⟨w5.heap.size, 0, none⟩) 0 0) 0 [] rfl Q1.out ⟨g, 0, none⟩ L c (flat3 S) rfl HF.out Q2.out flat3_one (by have := HB.out; omega) (by have := HB.out; unfold maxLen; omega) (by have := HB.out; omega) (by simp) _ rfl ?_; intro g1 c1 w6 hown6 hgrow hat hlt6))
                have R6 : Hid (w6.ownsRow w5.heap.size 39 3 (.slice (some ⟨g1, 0, none⟩) L c1) L (flat3 S) ∧ Touch [] w5 w6) := by
                  rw [Nat.zero_add, List.nil_append] at hown6
                  refine ⟨hown6, ((Touch.refl [] w5).alloc _).grown hgrow (fun k hk => Or.inr ?_)⟩
                  simp [Value.ownBlock] at hk
                  omega
                clear hown6 hgrow hat hlt6
                obtain ⟨y1, y2, y3, y4⟩ := HX.out w5 w6 g1 c1 P5.out R6.out.1 R6.out.2
                have R := hid y4
                try simp only [Nat.zero_add]
                clear y4 R6 HX P5 Q1 Q2 HI HC
                go_wp2
                go_meet
                case rel => exact ⟨g1, c1, L, rfl, _, HLc.out, R.out⟩
              · have hv : vaB S nn = false := by simpa using hv
                have HC := hid (HH.out.hold_no hn3 hv)
                have HI : Hid (∀ w', Calls Try.prog 9 #[.slice (some ⟨g, 0, none⟩) L c, .int .i64 nn] w' fun e w'' => e = .returned (.bool false) ∧ w'' = w') := fun w' => by rw [HLS.out, ← hv]; exact ris9 w' g c S nn
                unfold PT at HC
                clear HH hv hn3
                go_wp2_with (first
                  | (go_at_call 12; refine HC.out.mono ?_; rintro e w5 ⟨rfl, h5⟩; have R := hid h5; have x5 := R.out.cell; clear h5)
                  | (go_at_call 9; refine (HI.out _).mono ?_; rintro e w6 ⟨rfl, rfl⟩))
                go_meet
                case rel => exact ⟨g, c, L, rfl, S, HLS.out, R.out⟩
            · have e3 : (K == 3) = false := by simpa using e3
              by_cases e4 : (K == 4) = true
              · clear hn4
                by_cases hv : vaB S nn = true
                · obtain ⟨m, hm, m1, m2⟩ := va_yes hv
                  have HC := hid (HH.out.hold hn3 m (by rw [← hm]; exact hv) hm)
                  have HI : Hid (∀ w', Calls Try.prog 9 #[.slice (some ⟨g, 0, none⟩) L c, .int .i64 nn] w' fun e w'' => e = .returned (.bool true) ∧ w'' = w') := fun w' => by rw [HLS.out, ← hv]; exact ris9 w' g c S nn
                  have HLc : Hid (L = (holdS S m).length) := by show _ = _; rw [HLS.out, holdS_len]
                  have HB : Hid (1 ≤ L ∧ L ≤ 65536) := ⟨by rw [HLS.out]; omega, by rw [HLS.out]; exact HH.out.st.le2⟩
                  have HB2 : Hid ((tk S m).hol ≤ n) := HH.out.st.ho m
                  have HF : Hid ((flat3 S).length = L * 3) := by show _ = _; rw [HLS.out]; exact flat3_len S
                  have HX : Hid (∀ w5 w6 g1 c1, Pm w w5 t g c bx S (holdS S m) (n + 1) kd nn → w6.ownsRow w5.heap.size 39 3 (.slice (some ⟨g1, 0, none⟩) L c1) L (flat3 S) → Touch [] w5 w6 → w6.cell? ⟨g1, (m - 1) * 3 + 1, none⟩ = some (.int .i64 ((tk S m).hol : Int)) ∧ w6.frozen? ⟨g1, (m - 1) * 3 + 1, none⟩ = false ∧ w6.cell? ⟨bx, 1, none⟩ = some (.int .i64 nn) ∧ Pl w (w6.setCell ⟨g1, (m - 1) * 3 + 1, none⟩ (.int .i64 (((tk S m).hol : Int) + 1))) t g1 c1 bx (holdS S m) (n + 1) kd nn) := fun w5 w6 g1 c1 pm r T => pm.held m1 m2 (by unfold RR; rw [← HLS.out]; exact r) T
                  obtain ⟨i, hin⟩ : ∃ i, m = i + 1 := ⟨m - 1, by omega⟩
                  have ei : m - 1 = i := by omega
                  have z1 : nn - 1 = (i : Int) := by omega
                  have z2 : (i : Int) < (L : Int) := by rw [HLS.out]; omega
                  have z3 : (L : Int) ≤ 70000 := by have := HB.out; omega
                  have zh : ((tk S m).hol : Int) ≤ 70000 := by have := HB2.out; omega
                  have zh0 : 0 ≤ ((tk S m).hol : Int) := by omega
                  rw [ei] at HX
                  unfold PT at HC
                  clear HH hv hm m1 m2 hin ei hn3
                  generalize ((tk S m).hol : Int) = yh at *
                  have zw : IntKind.i64.wrap (yh + 1) = yh + 1 := by simp [IntKind.wrap, IntKind.bits, IntKind.signed]; omega
                  go_upto_region 30 with (first
                    | (go_at_call 12; refine HC.out.mono ?_; rintro e w5 ⟨rfl, h5⟩; have x5 := h5.cell; obtain ⟨q1, q2, q3⟩ := copy_ahead h5.rr; have Q1 := hid q1; have Q2 := hid q2; have P5 := hid h5; clear h5 q1 q2 q3)
                    | (go_at_call 9; refine (HI.out _).mono ?_; rintro e w5 ⟨rfl, rfl⟩)
                    | (at_builtin; refine wpList_append_lies _ rfl _ _ 26 rfl w5.heap.size 39 i0 (.agg #[.int .i64 0, .int .i64 0, .int .i64 0]) 3 24 Try.underlying26 hi0 hz0 hz1 hz2 rfl (by decide) (.slice (some ⟨w5.heap.size, 0, none⟩) 0 0) 0 [] rfl Q1.out ⟨g, 0, none⟩ L c (flat3 S) rfl HF.out Q2.out flat3_one (by have := HB.out; omega) (by have := HB.out; unfold maxLen; omega) (by have := HB.out; omega) (by simp) _ rfl ?_; intro g1 c1 w6 hown6 hgrow hat hlt6))
                  have R6 : Hid (w6.ownsRow w5.heap.size 39 3 (.slice (some ⟨g1, 0, none⟩) L c1) L (flat3 S) ∧ Touch [] w5 w6) := by
                    rw [Nat.zero_add, List.nil_append] at hown6
                    refine ⟨hown6, ((Touch.refl [] w5).alloc _).grown hgrow (fun k hk => Or.inr ?_)⟩
                    simp [Value.ownBlock] at hk
                    omega
                  clear hown6 hgrow hat hlt6
                  obtain ⟨y1, y2, y3, y4⟩ := HX.out w5 w6 g1 c1 P5.out R6.out.1 R6.out.2
                  have R := hid y4
                  try simp only [Nat.zero_add]
                  clear y4 R6 HX P5 Q1 Q2 HI HC
                  go_wp2
                  go_meet
                  case rel => exact ⟨g1, c1, L, rfl, _, HLc.out, R.out⟩
                · have hv : vaB S nn = false := by simpa using hv
                  have HC := hid (HH.out.hold_no hn3 hv)
                  have HI : Hid (∀ w', Calls Try.prog 9 #[.slice (some ⟨g, 0, none⟩) L c, .int .i64 nn] w' fun e w'' => e = .returned (.bool false) ∧ w'' = w') := fun w' => by rw [HLS.out, ← hv]; exact ris9 w' g c S nn
                  unfold PT at HC
                  clear HH hv hn3
                  go_wp2_with (first
                    | (go_at_call 12; refine HC.out.mono ?_; rintro e w5 ⟨rfl, h5⟩; have R := hid h5; have x5 := R.out.cell; clear h5)
                    | (go_at_call 9; refine (HI.out _).mono ?_; rintro e w6 ⟨rfl, rfl⟩))
                  go_meet
                  case rel => exact ⟨g, c, L, rfl, S, HLS.out, R.out⟩
              · have e4 : (K == 4) = false := by simpa using e4
                by_cases e5 : (K == 5) = true
                · clear hn4
                  have HC := hid (HH.out.let_ hn3)
                  have HLc : Hid (L = (leS S nn).length) := by show _ = _; rw [HLS.out, leS_len]
                  rw [← HLS.out] at HC
                  unfold PT at HC
                  clear HH hn3
                  go_wp2_with (first
                    | (go_at_call 13; refine HC.out.mono ?_; rintro e w5 ⟨a5, m5, k5, y5, rfl, x5, h5⟩; have H5 := hid h5; clear h5)
                    | (go_at_call 14; refine H5.out.mono ?_; rintro e w7 ⟨g7, c7, a7, k7, rfl, h7⟩; have H7 := hid h7; clear h7)
                    | (go_at_call 11; refine H7.out.mono ?_; rintro e w8 ⟨rfl, r8⟩; have R := hid r8; clear r8))
                  go_meet
                  case rel => exact ⟨g7, c7, L, rfl, _, HLc.out, R.out⟩
                · have e5 : (K == 5) = false := by simpa using e5
                  by_cases e6 : (K == 6) = true
                  · clear hn4
                    have HC := hid (HH.out.let_ hn3)
                    have HLc : Hid (L = (leS S nn).length) := by show _ = _; rw [HLS.out, leS_len]
                    rw [← HLS.out] at HC
                    unfold PT at HC
                    clear HH hn3
                    go_wp2_with (first
                      | (go_at_call 13; refine HC.out.mono ?_; rintro e w5 ⟨a5, m5, k5, y5, rfl, x5, h5⟩; have H5 := hid h5; clear h5)
                      | (go_at_call 14; refine H5.out.mono ?_; rintro e w7 ⟨g7, c7, a7, k7, rfl, h7⟩; have H7 := hid h7; clear h7)
                      | (go_at_call 11; refine H7.out.mono ?_; rintro e w8 ⟨rfl, r8⟩; have R := hid r8; clear r8))
                    go_meet
                    case rel => exact ⟨g7, c7, L, rfl, _, HLc.out, R.out⟩
                  · have e6 : (K == 6) = false := by simpa using e6
                    by_cases e7 : (K == 7) = true
                    · have HC := hid (HH.out.clone hn4)
                      rw [← HLS.out] at HC
                      unfold PT at HC
                      clear HH hn3 hn4
                      go_wp2_with (first
                        | (go_at_call 15; refine HC.out.mono ?_; rintro e w5 ⟨d5, rfl, x5, h5⟩; have H5 := hid h5; clear h5)
                        | (go_at_call 16; refine H5.out.mono ?_; rintro e w6 ⟨rfl, h6⟩; have H6 := hid h6; clear h6)
                        | (go_at_call 17; refine H6.out.mono ?_; rintro e w7 ⟨⟨v7, rfl⟩, h7⟩; have H7 := hid h7; clear h7)
                        | (go_at_call 8; refine H7.out.mono ?_; rintro e w8 ⟨⟨v8, rfl⟩, h8⟩; have H8 := hid h8; clear h8)
                        | (go_at_call 12; refine H8.out.mono ?_; rintro e w9 ⟨⟨v9, rfl⟩, h9⟩; have R := hid h9; clear h9))
                      go_meet
                      case rel => exact ⟨g, c, L, rfl, S, HLS.out, R.out⟩
                    · have e7 : (K == 7) = false := by simpa using e7
                      clear hn4
                      have HC := hid (HH.out.make hn3)
                      rw [← HLS.out] at HC
                      unfold PT at HC
                      clear HH hn3
                      go_wp2_with (first
                        | (go_at_call 17; refine HC.out.mono ?_; rintro e w5 ⟨p5, q5, rfl, x5, h5⟩; have H5 := hid h5; clear h5)
                        | (go_at_call 18; refine H5.out.mono ?_; rintro e w7 ⟨g7, c7, rfl, h7⟩; have R := hid h7; clear h7))
                      go_meet
                      case rel => exact ⟨g7, c7, _, rfl, mkS S nn, rfl, R.out⟩
        case rest =>
          obtain ⟨g', c', L', rfl, S', hL', hp⟩ := hcut
          have HP := hid hp.stands
          rw [← hL'] at HP
          unfold PT at HP
          have y1 := hp.cell
          have HLp := hid hL'
          clear hp hL' HH HLS HWx HRow
          go_wp2_with (go_at_call 16; refine HP.out.mono ?_; rintro e w9 ⟨rfl, h9⟩; have H9 := hid h9; clear h9)
          go_roundw
          case rel => exact ⟨g', c', L', n + 1, rfl, by go_num, by have := HNn.out; omega, S', HLp.out, H9.out.over⟩
          case measure => have := HNn.out; simp [intOf]; omega
      · have zn : ¬ (n : Int) < AI := by omega
        obtain ⟨S, hLS, hs⟩ := HR.out
        have HT := hid hs.1.tc
        clear HR hs hLS HRow
        go_wp2
        go_ret
        exact ⟨rfl, HT.out⟩
end Go.Proofs.Ytbjnajiicljnbaa
