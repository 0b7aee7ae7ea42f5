/- Of every run, caller and list of acts: a record is what the document's is: the walk of the law; the list's length is within the form's reach. -/
import Derived.Test.YtaikleaiofpebaaLps
import Derived.Test.YtaikleaiofpebaaSay
import Derived.Test.YtaikleaiofpebaaNil
import Derived.Test.YtaikleaiofpebaaOpn
import Derived.Deep.CutRange
import Derived.Deep.CutBlock
namespace Go.Proofs.Ytaikleaiofpebaa
open Go.RowKit Go.Maps Go.ChangeMaps
set_option linter.unusedVariables false
set_option linter.unusedSimpArgs false
attribute [local go_sem] Oper.semAt_some
set_option maxHeartbeats 4000000 in
set_option maxRecDepth 100000 in
theorem law3_no (w : World) (R : Rn) (x : Int) (v : Value) (a : Option Addr) (A c : Nat) (hv : v = .slice a A c) (hg : mayN R x = false) : Calls Try.prog 3 #[rv R, .int .i64 x, v] w fun e w' => e = .returned (.bool true) ∧ Touch [] w w' := by
  subst hv
  have HN := hid (fun w => new5_no w R x hg)
  have HG := hid hg
  clear hg
  unfold rv at *
  obtain ⟨W1, hW1⟩ : ∃ W1, W1 = w.alloc (.cells (rcl R) 26) := ⟨_, rfl⟩
  have HT : Hid (Touch [] w W1 ∧ W1.heap[w.heap.size]? = some (.cells (rcl R) 26 (0, 0))) := hid ⟨by rw [hW1]; exact (Touch.refl _ _).alloc _, by rw [hW1]; exact heap_alloc_new w _⟩
  unfold rcl at hW1
  have y := HT.out.2
  have g0 := cell_at (j := 0) (v := .int .i64 R.run) y rfl
  have g1 := cell_at (j := 1) (v := .int .u16 R.sp) y rfl
  have g2 := cell_at (j := 2) (v := .string R.nm) y rfl
  have g3 := cell_at (j := 3) (v := .int .i64 R.gen) y rfl
  have g4 := cell_at (j := 4) (v := .bool R.rf) y rfl
  clear y
  go_enter Try.func3, Try.ntmps3
  go_upto_region 1 with fail
  rw [← hW1]
  clear hW1
  go_upto_region 2 with (go_at_call 5; refine (HN.out _).mono ?_; rintro e w1 ⟨rfl, t1⟩; have T1 := hid t1; clear t1)
  have y := T1.out.keep HT.out.2 (by simp)
  clear g0 g1 g2 g3 g4
  have g0 := cell_at (j := 0) (v := .int .i64 R.run) y rfl
  have g3 := cell_at (j := 3) (v := .int .i64 R.gen) y rfl
  have g4 := cell_at (j := 4) (v := .bool R.rf) y rfl
  clear y
  go_cut [9] from 19 to 43 (fun s9 wx => s9 = .bool false ∧ wx = w1)
  case first =>
    have hg := HG.out
    unfold mayN at hg
    by_cases h1 : 1 ≤ R.run
    · by_cases h2 : 0 ≤ R.gen
      · rcases (by cases R.rf <;> simp : R.rf = false ∨ R.rf = true) with hr | hr
        · rw [hr] at g4 hg
          clear hr
          simp [h1, h2] at hg
          have h3 : ¬ 1 ≤ x := by omega
          clear hg
          go_wp2_with fail
          go_meet
          case rel => exact ⟨rfl, rfl⟩
        · rw [hr] at g4 hg
          clear hr
          simp [h1, h2] at hg
          have h3 : (x == 0) = false := by simp [hg]
          clear hg
          go_wp2_with fail
          go_meet
          case rel => exact ⟨rfl, rfl⟩
      · clear hg
        go_wp2_with fail
        go_meet
        case rel => exact ⟨rfl, rfl⟩
    · clear hg
      go_wp2_with fail
      go_meet
      case rel => exact ⟨rfl, rfl⟩
  case rest =>
    obtain ⟨rfl, rfl⟩ := hcut
    clear g0 g3 g4
    go_wp2_with (go_at_call 6; refine (awake6 _).mono ?_; rintro e w2 ⟨rfl, t2⟩; have T2 := hid t2; clear t2)
    go_ret
    exact ⟨rfl, (HT.out.1.trans' T1.out).trans' T2.out⟩
set_option maxHeartbeats 4000000 in
set_option maxRecDepth 100000 in
/-- From the loop over the acts on. -/
theorem law3_ok (w : World) (R : Rn) (x : Int) (xs : List ActR) (v : Value) (hR : WfR R) (hx : W64 x) (hv : SlM w v xs) (hw : ∀ a ∈ xs, WfA a) (hL : xs.length ≤ 2932031007400) (hg : mayN R x = true) : Calls Try.prog 3 #[rv R, .int .i64 x, v] w fun e w' => e = .returned (.bool true) ∧ Touch [] w w' := by
  obtain ⟨avv, cv, rfl⟩ : ∃ av cv, v = .slice av xs.length cv := by
    rcases hv with ⟨rfl, a, c, rfl⟩ | ⟨b, off, cap, rfl, _⟩
    · exact ⟨a, c, rfl⟩
    · exact ⟨_, _, rfl⟩
  have HRow : Hid (xs.length = 0 ∨ ∃ b off, avv = some ⟨b, off, none⟩ ∧ RowM w b off xs) := by
    rcases hv with ⟨rfl, _⟩ | ⟨b, off, cap, e, r⟩
    · exact Or.inl rfl
    · simp only [Value.slice.injEq] at e
      exact Or.inr ⟨b, off, e.1, r⟩
  obtain ⟨A, hA⟩ : ∃ A, A = xs.length := ⟨_, rfl⟩
  have HAx := hid hA
  have HWf := hid hw
  have HX := hid hx
  rw [← hA] at HRow hL ⊢
  have HLe := hid hL
  have HN := hid (fun w => new5_ok w R x hx hg)
  unfold NwE at HN
  obtain ⟨W1, hW1⟩ : ∃ W1, W1 = w.alloc (.cells (rcl R) 26) := ⟨_, rfl⟩
  have HT : Hid (Touch [] w W1 ∧ W1.heap[w.heap.size]? = some (.cells (rcl R) 26 (0, 0))) := hid ⟨by rw [hW1]; exact (Touch.refl _ _).alloc _, by rw [hW1]; exact heap_alloc_new w _⟩
  unfold rcl at hW1
  have y := HT.out.2
  have g0 := cell_at (j := 0) (v := .int .i64 R.run) y rfl
  have g1 := cell_at (j := 1) (v := .int .u16 R.sp) y rfl
  have g2 := cell_at (j := 2) (v := .string R.nm) y rfl
  have g3 := cell_at (j := 3) (v := .int .i64 R.gen) y rfl
  have g4 := cell_at (j := 4) (v := .bool R.rf) y rfl
  clear y hA hw hx hL hv hR
  have h1 : 1 ≤ R.run := by unfold mayN at hg; simp at hg; exact hg.1.1
  have h2 : 0 ≤ R.gen := by unfold mayN at hg; simp at hg; exact hg.1.2
  have h3 : if R.rf then x = 0 else 1 ≤ x := by unfold mayN at hg; cases hr : R.rf <;> (rw [hr] at hg; simp at hg; simp [hg.2])
  clear hg
  unfold rv at HN ⊢
  unfold PT at HN
  go_enter Try.func3, Try.ntmps3
  go_upto_region 1 with fail
  rw [← hW1]
  clear hW1
  go_upto_region 2 with (go_at_call 5; refine (HN.out _).mono ?_; rintro e w1 ⟨b1, F1, rfl, q1, q2, q3⟩; have Q1 := hid (And.intro q1 (And.intro q2 q3)); clear q1 q2 q3)
  have HY := hid (Q1.out.2.1.keep HT.out.2 (by simp))
  have y := HY.out
  clear g0 g1 g2 g3 g4
  have g0 := cell_at (j := 0) (v := .int .i64 R.run) y rfl
  have g3 := cell_at (j := 3) (v := .int .i64 R.gen) y rfl
  have g4 := cell_at (j := 4) (v := .bool R.rf) y rfl
  clear y
  go_cut [9] from 19 to 43 (fun s9 wx => s9 = .bool true ∧ wx = w1)
  case first =>
    rcases (by cases R.rf <;> simp : R.rf = false ∨ R.rf = true) with hr | hr
    · rw [hr] at g4 h3
      clear hr
      simp only [Bool.false_eq_true, if_false] at h3
      go_wp2_with fail
      go_meet
      case rel => exact ⟨rfl, rfl⟩
    · rw [hr] at g4 h3
      clear hr
      simp only [if_true] at h3
      have h4 : (x == 0) = true := by simp [h3]
      clear h3
      go_wp2_with fail
      go_meet
      case rel => exact ⟨rfl, rfl⟩
  case rest =>
    obtain ⟨rfl, rfl⟩ := hcut
    clear h1 h2 h3 g0 g3 g4 HN
    go_upto_region 7 with (go_at_call 6; refine (awake6 _).mono ?_; rintro e w2 ⟨rfl, t2⟩; have T2 := hid t2; clear t2)
    have g4 := cell_at (j := 4) (v := .bool R.rf) (T2.out.keep HY.out (by simp)) rfl
    have hlt : w.heap.size < w2.heap.size := by have := block_lt HT.out.2; have := (Q1.out.2.1.trans' T2.out).size; omega
    go_upto_region 8 with fail
    obtain ⟨V2, hV2⟩ : ∃ V2, V2 = (w2.alloc (.cells #[] 3)).alloc (.cells #[.slice (some ⟨w2.heap.size, 0, none⟩) 0 0, .bool R.rf, .bool false, .bool false, .int .i64 0, .int .i64 0, .int .i64 0, .int .i64 0] 39) := ⟨_, rfl⟩
    have tv : Touch [] w2 V2 := by rw [hV2]; exact ((Touch.refl _ _).alloc _).alloc _
    have hm0 : V2.heap[w2.heap.size + 1]? = some (.cells (dc (.slice (some ⟨w2.heap.size, 0, none⟩) 0 0) ⟨[], R.rf, false, false, oz⟩) 39 (0, 0)) := by
      rw [hV2]
      have := heap_alloc_new (w2.alloc (.cells #[] 3)) (.cells #[.slice (some ⟨w2.heap.size, 0, none⟩) 0 0, .bool R.rf, .bool false, .bool false, .int .i64 0, .int .i64 0, .int .i64 0, .int .i64 0] 39)
      rwa [World.size_alloc] at this
    rw [← hV2]
    clear hV2
    have hz2 := block_lt hm0
    clear g4
    have g4 := cell_at (j := 4) (v := .bool R.rf) ((T2.out.trans' tv).keep HY.out (by simp)) rfl
    have m0 := cell_at (j := 0) (v := .slice (some ⟨w2.heap.size, 0, none⟩) 0 0) hm0 rfl
    have mf := froz_at hm0
    obtain ⟨M, hM⟩ : ∃ M, M = w2.heap.size + 1 := ⟨_, rfl⟩
    rw [← hM] at hm0 hz2 m0 mf ⊢
    have HM0 := hid hm0
    have HTV := hid tv
    have HMM := hid hM
    have HST : Hid (∀ wx a n c, Touch [] w2 wx → wx.heap[M]? = some (.cells (dc (.slice a n c) (S0 R x)) 39 (0, 0)) → Rd wx (.slice a n c) (S0 R x).who → (∀ q, (Value.slice a n c).ownBlock = some q → w2.heap.size ≤ q) → LsX w R M b1 1 wx) := hid (fun wx a n c x1 x3 x4 x5 => ⟨F1, _, a, n, c, ls_start HT.out.1 (block_lt HT.out.2) HT.out.2 Q1.out.1 Q1.out.2.1 Q1.out.2.2 T2.out x1 (by omega) x3 x4 x5⟩)
    clear tv hm0 hM
    go_upto_if 74 with fail
    go_cut [] from 72 to 77 (fun wx => Hid (LsX w R M b1 1 wx))
    case first =>
      go_wp2_with fail
      · rename_i hn
        have HNN := hid hn
        clear hn
        go_meet
        case rel =>
          have hr : R.rf = false := by have := HNN.out; simpa using this
          have hs : S0 R x = ⟨[x], false, false, false, oz⟩ := by unfold S0; rw [hr]; rfl
          have hz := HTV.out.size
          have hmm := HMM.out
          refine hid (HST.out _ (some ⟨V2.heap.size, 0, none⟩) 1 1 ((HTV.out.setCell (Or.inr (by show w2.heap.size ≤ M; omega)) _).alloc _) ?_ ?_ ?_)
          · rw [hs]
            refine ((Touch.refl [] _).alloc _).keep ?_ (by simp)
            have := bset (i := 0) HM0.out (.slice (some ⟨V2.heap.size, 0, none⟩) 1 1)
            rw [hr] at this
            simpa [dc] using this
          · rw [hs]
            refine ⟨some ⟨V2.heap.size, 0, none⟩, 1, rfl, Nat.le_refl _, by unfold maxLen; omega, fun q => (by cases q), Or.inr ⟨V2.heap.size, #[.int .i64 x], 0, (0, 0), rfl, ?_, fun i h => ?_⟩⟩
            · have := heap_alloc_new (V2.setCell ⟨M, 0, none⟩ (.slice (some ⟨V2.heap.size, 0, none⟩) 1 1)) (.cells #[.int .i64 x] 3)
              simpa using this
            · have : i = 0 := by simp at h; omega
              subst this
              rfl
          · intro q hq; simp only [Value.ownBlock, Option.some.injEq] at hq; omega
      · rename_i hn
        have HNN := hid hn
        clear hn
        go_meet
        case rel =>
          have hr : R.rf = true := by have := HNN.out; simpa using this
          have hs : S0 R x = ⟨[], true, false, false, oz⟩ := by unfold S0; rw [hr]; rfl
          refine hid (HST.out _ (some ⟨w2.heap.size, 0, none⟩) 0 0 HTV.out ?_ ?_ ?_)
          · rw [hs, ← hr]; exact HM0.out
          · rw [hs]; exact ⟨_, 0, rfl, Nat.le_refl _, Nat.zero_le _, fun q => (by cases q), Or.inl rfl⟩
          · intro q hq; simp only [Value.ownBlock, Option.some.injEq] at hq; omega
    case rest =>
      have HI := hcut
      clear hcut g4 hlt HY Q1 T2 HST HTV HM0 hz2 m0 mf HMM
      go_upto_block 0 with fail
      go_cut [7, 11] from 12 to 113 (fun s7 s11 wx => ∃ b2, s7 = .pointer (some ⟨b2, 0, none⟩) ∧ Hid (LsX w R M b2 (A + 1) wx))
      case first =>
        go_wp2_with fail
        go_loopw [7, 11] (fun s7 s11 wr => ∃ (b2 m : Nat), s7 = .pointer (some ⟨b2, 0, none⟩) ∧ s11 = .int .i64 (m : Int) ∧ m ≤ A ∧ Hid (LsX w R M b2 (m + 1) wr)) (fun _ i _ => A - (intOf i).toNat)
        case atStart => exact ⟨b1, 0, rfl, rfl, Nat.zero_le _, HI⟩
        case round =>
          clear HI
          obtain ⟨b2, m, rfl, rfl, hm, HR⟩ := hrel
          by_cases hlt : m < A
          · have zk : (m : Int) < (A : Int) := by omega
            have zA : (A : Int) ≤ 2932031007400 := by have := HLe.out; omega
            obtain ⟨ba, off, rfl, hrow⟩ : ∃ ba off, avv = some ⟨ba, off, none⟩ ∧ RowM w ba off xs := by
              rcases HRow.out with e | e
              · omega
              · exact e
            have hnx : m < xs.length := by have := HAx.out; omega
            have HRw : Hid (∀ w', Touch [] w w' → w'.cell? ⟨ba, off + m * 6, none⟩ = some (.int .i64 xs[m].kd) ∧ w'.cell? ⟨ba, off + m * 6 + 1, none⟩ = some (.int .i64 xs[m].cl) ∧ w'.cell? ⟨ba, off + m * 6 + 2, none⟩ = some (.int .i64 xs[m].o.1) ∧ w'.cell? ⟨ba, off + m * 6 + 3, none⟩ = some (.int .i64 xs[m].o.2.1) ∧ w'.cell? ⟨ba, off + m * 6 + 4, none⟩ = some (.int .i64 xs[m].o.2.2.1) ∧ w'.cell? ⟨ba, off + m * 6 + 5, none⟩ = some (.int .i64 xs[m].o.2.2.2)) := fun w' t => ⟨(hrow.keep t).c0 m hnx, (hrow.keep t).c1 m hnx, (hrow.keep t).c2 m hnx, (hrow.keep t).c3 m hnx, (hrow.keep t).c4 m hnx, (hrow.keep t).c5 m hnx⟩
            have HWx := hid (HWf.out xs[m] (List.getElem_mem hnx))
            clear hrow
            generalize xs[m] = ac at *
            clear hnx
            have HNn := hid (And.intro hm hlt)
            clear hm hlt
            go_upto_block 1 with fail
            go_upto_region 14 with fail
            obtain ⟨F, S, a, n, c, hp⟩ := HR.out
            clear HR
            obtain ⟨p0, p1, p2, p3, p4, p5, p6, p7⟩ := dcs_at hp.hm
            obtain ⟨q0, q1, q2, q3, q4, q5⟩ := HRw.out _ hp.t
            have HO : Hid (∀ w', Touch [] wr w' → Calls Try.prog 7 #[PT b2, dv (.slice a n c) S, av ac] w' fun e w4 => ∃ b4 u4 T, e = .returned (.tuple #[PT b4, dv u4 T, .bool true]) ∧ (∃ p n c, u4 = .slice p n c) ∧ w4.heap[M]? = some (.cells (dc (.slice a n c) S) 39 (0, 0)) ∧ ∃ F', Ls w R M b4 (m + 1 + 1) F' T u4 (st8 w4 M u4 T)) := hid (fun w' X => by
              have h2 := hp.keep X
              refine (one7 w' b2 (m + 1) F R S _ ac h2.rq h2.rd h2.ap (by have := HNn.out; omega) HWx.out).mono ?_
              rintro e w4 ⟨b4, u4, rfl, hq⟩
              have hs := h2.step hq
              obtain ⟨F', hs'⟩ := hs
              exact ⟨b4, u4, _, rfl, rd_form hs'.rd, h2.box hq, F', hs'⟩)
            unfold PT dv dc av at HO
            clear hp
            go_cut [7, 12] from 84 to 94 (fun s7 s12 wx => ∃ b2, s7 = .pointer (some ⟨b2, 0, none⟩) ∧ s12 = .bool true ∧ Hid (LsX w R M b2 (m + 1 + 1) wx))
            case first =>
              have t3 : Touch [] wr wr.drew := (Touch.refl _ _).drew
              go_region_with (go_at_call 7; refine (HO.out _ t3).mono ?_; rintro e w4 ⟨b4, u4, T, rfl, ⟨a4, n4, c4, rfl⟩, hb4, F4, h4⟩; have x0 := cell_at (j := 0) hb4 rfl; have x1 := cell_at (j := 1) hb4 rfl; have x2 := cell_at (j := 2) hb4 rfl; have x3 := cell_at (j := 3) hb4 rfl; have x4 := cell_at (j := 4) hb4 rfl; have x5 := cell_at (j := 5) hb4 rfl; have x6 := cell_at (j := 6) hb4 rfl; have x7 := cell_at (j := 7) hb4 rfl; have xf := froz_at hb4; unfold st8 at h4; have H4 := hid h4; clear h4 hb4)
              all_goals
                go_wp2_with fail
                go_meet
                case rel => exact ⟨b4, rfl, rfl, hid ⟨F4, T, a4, n4, c4, H4.out⟩⟩
            case rest =>
              clear p0 p1 p2 p3 p4 p5 p6 p7 q0 q1 q2 q3 q4 q5 HO
              obtain ⟨b2, rfl, rfl, HR⟩ := hcut
              obtain ⟨F, S, a, n, c, hp⟩ := HR.out
              have hp' := hid hp
              have hM : ∀ w', Touch [] wc w' → Dcs w' M (.slice a n c) S := fun w' X => dcs_at (X.keep hp'.out.hm (by simp))
              have hB : ∀ w', Touch [] wc w' → w'.heap[w.heap.size]? = some (.cells (rcl R) 26 (0, 0)) := fun w' X => X.keep hp'.out.hb (by simp)
              have s0 := fun w' X => (hM w' X).c0
              have s1 := fun w' X => (hM w' X).c1
              have s2 := fun w' X => (hM w' X).c2
              have s3 := fun w' X => (hM w' X).c3
              have s4 := fun w' X => (hM w' X).c4
              have s5 := fun w' X => (hM w' X).c5
              have s6 := fun w' X => (hM w' X).c6
              have s7 := fun w' X => (hM w' X).c7
              have g0 := fun w' X => cell_at (j := 0) (v := .int .i64 R.run) (hB w' X) rfl
              have g1 := fun w' X => cell_at (j := 1) (v := .int .u16 R.sp) (hB w' X) rfl
              have g2 := fun w' X => cell_at (j := 2) (v := .string R.nm) (hB w' X) rfl
              have g3 := fun w' X => cell_at (j := 3) (v := .int .i64 R.gen) (hB w' X) rfl
              have g4 := fun w' X => cell_at (j := 4) (v := .bool R.rf) (hB w' X) rfl
              have rc1 : ∀ w', Touch [] wc w' → w'.cell? ⟨ba, off + m * 6 + 1, none⟩ = some (.int .i64 ac.cl) := fun w' t => (HRw.out w' (hp'.out.t.trans' t)).2.1
              have H8 := hid (fun w' (t : Touch [] wc w') => run8 w' b2 (m + 1 + 1) F R S (hp'.out.rq.keep0 t))
              have H9 := hid (fun w' (t : Touch [] wc w') => says9 w' b2 (m + 1 + 1) F R S _ ac.cl (hp'.out.rq.keep0 t) (hp'.out.rd.keep0 t) (by have := HNn.out; have := HLe.out; omega) HWx.out.2.1)
              unfold PT rv at H8
              unfold PT dv dc at H9
              clear hp hM hB HR
              go_upto_region 15 with fail
              refine wp_region_H (S := fun w' => Touch [] wc w') (by kernel_rfl) ?_
              have hS0 : Touch [] wc wc.drew := (Touch.refl _ _).drew
              refine wpH_take (i := 0) (v := (.bool true)) (some 95) rfl rfl (by kernel_rfl) (by kernel_rfl) (by kernel_rfl) (fun _ _ _ h => h) (Or.inl ⟨by rfl, fun w' hS => (by go_simp)⟩) hS0 ?_
              try simp only [Go.Act.put, List.setIfInBounds_toArray, List.set_cons_zero, List.set_cons_succ]
              refine wpH_take (i := 1) (v := (.bool false)) (some 96) rfl rfl (by kernel_rfl) (by kernel_rfl) (by kernel_rfl) (fun _ _ _ h => h) (Or.inl ⟨by rfl, fun w' hS => (by go_simp)⟩) hS0 ?_
              try simp only [Go.Act.put, List.setIfInBounds_toArray, List.set_cons_zero, List.set_cons_succ]
              refine wpH_take (i := 2) (v := (.bool false)) (some 97) rfl rfl (by kernel_rfl) (by kernel_rfl) (by kernel_rfl) (fun _ _ _ h => h) (Or.inl ⟨by rfl, fun w' hS => (by go_simp)⟩) hS0 ?_
              try simp only [Go.Act.put, List.setIfInBounds_toArray, List.set_cons_zero, List.set_cons_succ]
              refine wpH_take (i := 3) (v := (.pointer (some ⟨b2, 0, none⟩))) (some 98) rfl rfl (by kernel_rfl) (by kernel_rfl) (by kernel_rfl) (fun _ _ _ h => h) (Or.inl ⟨by rfl, fun w' hS => (by go_simp)⟩) hS0 ?_
              try simp only [Go.Act.put, List.setIfInBounds_toArray, List.set_cons_zero, List.set_cons_succ]
              refine wpH_take (i := 5) (v := (.agg #[.int .i64 R.run, .int .u16 R.sp, .string R.nm, .int .i64 R.gen, .bool R.rf])) (some 100) rfl rfl (by kernel_rfl) (by kernel_rfl) (by kernel_rfl) (fun _ _ _ h => h) (Or.inl ⟨by rfl, fun w' hS => (by have z0 := g0 _ hS; have z1 := g1 _ hS; have z2 := g2 _ hS; have z3 := g3 _ hS; have z4 := g4 _ hS; go_simp)⟩) hS0 ?_
              try simp only [Go.Act.put, List.setIfInBounds_toArray, List.set_cons_zero, List.set_cons_succ]
              refine wpH_call (i := 4) (o := { dst := some 99, op := Op.call { callee := Callee.value (Operand.func 8), args := #[Operand.tmp 98], argTypes := #[28] }, type := 26, pos := _, after := #[{ on := 3, ground := Ground.data }, { on := 2, ground := Ground.chain }, { on := 2, ground := Ground.guard }], guard := some (2, false) }) (by kernel_rfl) rfl (fun K' hK => ?_)
              rw [if_pos (by rfl)]
              go_simp
              refine (H8.out _ hS0).mono ?_
              rintro e' Y1 ⟨rfl, gY1⟩
              have hY1 := hS0.trans' gY1
              refine hK.out _ _ hY1 ?_
              clear hK
              try simp only [Go.Act.put, List.setIfInBounds_toArray, List.set_cons_zero, List.set_cons_succ]
              refine wpH_take (i := 6) (v := (.bool false)) (some 101) rfl rfl (by kernel_rfl) (by kernel_rfl) (by kernel_rfl) (fun _ _ _ h => h) (Or.inl ⟨by rfl, fun w' hS => (by go_simp)⟩) hY1 ?_
              try simp only [Go.Act.put, List.setIfInBounds_toArray, List.set_cons_zero, List.set_cons_succ]
              refine wpH_take (i := 7) (v := (.bool false)) (some 102) rfl rfl (by kernel_rfl) (by kernel_rfl) (by kernel_rfl) (fun _ _ _ h => h) (Or.inl ⟨by rfl, fun w' hS => (by go_simp)⟩) hY1 ?_
              try simp only [Go.Act.put, List.setIfInBounds_toArray, List.set_cons_zero, List.set_cons_succ]
              refine wpH_take (i := 8) (v := (.bool false)) (some 103) rfl rfl (by kernel_rfl) (by kernel_rfl) (by kernel_rfl) (fun _ _ _ h => h) (Or.inl ⟨by rfl, fun w' hS => (by go_simp)⟩) hY1 ?_
              try simp only [Go.Act.put, List.setIfInBounds_toArray, List.set_cons_zero, List.set_cons_succ]
              refine wpH_take (i := 9) (v := (.pointer (some ⟨b2, 0, none⟩))) (some 104) rfl rfl (by kernel_rfl) (by kernel_rfl) (by kernel_rfl) (fun _ _ _ h => h) (Or.inl ⟨by rfl, fun w' hS => (by go_simp)⟩) hY1 ?_
              try simp only [Go.Act.put, List.setIfInBounds_toArray, List.set_cons_zero, List.set_cons_succ]
              refine wpH_take (i := 10) (v := (.agg #[.slice a n c, .bool S.kept, .bool S.canc, .bool S.ended, .int .i64 S.out.1, .int .i64 S.out.2.1, .int .i64 S.out.2.2.1, .int .i64 S.out.2.2.2])) (some 105) rfl rfl (by kernel_rfl) (by kernel_rfl) (by kernel_rfl) (fun _ _ _ h => h) (Or.inl ⟨by rfl, fun w' hS => (by have z0 := s0 _ hS; have z1 := s1 _ hS; have z2 := s2 _ hS; have z3 := s3 _ hS; have z4 := s4 _ hS; have z5 := s5 _ hS; have z6 := s6 _ hS; have z7 := s7 _ hS; go_simp)⟩) hY1 ?_
              try simp only [Go.Act.put, List.setIfInBounds_toArray, List.set_cons_zero, List.set_cons_succ]
              refine wpH_take (i := 11) (v := (.slice (some ⟨ba, off, none⟩) A cv)) (some 106) rfl rfl (by kernel_rfl) (by kernel_rfl) (by kernel_rfl) (fun _ _ _ h => h) (Or.inl ⟨by rfl, fun w' hS => (by go_simp)⟩) hY1 ?_
              try simp only [Go.Act.put, List.setIfInBounds_toArray, List.set_cons_zero, List.set_cons_succ]
              refine wpH_take (i := 12) (v := (.int .i64 (m : Nat))) (some 107) rfl rfl (by kernel_rfl) (by kernel_rfl) (by kernel_rfl) (fun _ _ _ h => h) (Or.inl ⟨by rfl, fun w' hS => (by go_simp)⟩) hY1 ?_
              try simp only [Go.Act.put, List.setIfInBounds_toArray, List.set_cons_zero, List.set_cons_succ]
              refine wpH_take (i := 13) (v := (.pointer (some ⟨ba, off + m * 6, none⟩))) (some 108) rfl rfl (by kernel_rfl) (by kernel_rfl) (by kernel_rfl) (fun _ _ _ h => h) (Or.inl ⟨by rfl, fun w' hS => (by go_simp)⟩) hY1 ?_
              try simp only [Go.Act.put, List.setIfInBounds_toArray, List.set_cons_zero, List.set_cons_succ]
              refine wpH_take (i := 14) (v := (.pointer (some ⟨ba, off + m * 6 + 1, none⟩))) (some 109) rfl rfl (by kernel_rfl) (by kernel_rfl) (by kernel_rfl) (fun _ _ _ h => h) (Or.inl ⟨by rfl, fun w' hS => (by go_simp)⟩) hY1 ?_
              try simp only [Go.Act.put, List.setIfInBounds_toArray, List.set_cons_zero, List.set_cons_succ]
              refine wpH_take (i := 15) (v := (.int .i64 ac.cl)) (some 110) rfl rfl (by kernel_rfl) (by kernel_rfl) (by kernel_rfl) (fun _ _ _ h => h) (Or.inl ⟨by rfl, fun w' hS => (by have z0 := rc1 _ hS; go_simp)⟩) hY1 ?_
              try simp only [Go.Act.put, List.setIfInBounds_toArray, List.set_cons_zero, List.set_cons_succ]
              refine wpH_call (i := 16) (o := { dst := some 111, op := Op.call { callee := Callee.value (Operand.func 9), args := #[Operand.tmp 104, Operand.tmp 105, Operand.tmp 110], argTypes := #[28, 39, 3] }, type := 4, pos := _, after := #[{ on := 9, ground := Ground.data }, { on := 10, ground := Ground.data }, { on := 15, ground := Ground.data }, { on := 8, ground := Ground.chain }, { on := 8, ground := Ground.guard }], guard := some (8, false) }) (by kernel_rfl) rfl (fun K' hK => ?_)
              rw [if_pos (by rfl)]
              go_simp
              refine (H9.out _ hY1).mono ?_
              rintro e' Y2 ⟨rfl, gY2⟩
              have hY2 := hY1.trans' gY2
              refine hK.out _ _ hY2 ?_
              clear hK
              try simp only [Go.Act.put, List.setIfInBounds_toArray, List.set_cons_zero, List.set_cons_succ]
              refine wpH_take (i := 17) (v := (.bool false)) (some 112) rfl rfl (by kernel_rfl) (by kernel_rfl) (by kernel_rfl) (fun _ _ _ h => h) (Or.inl ⟨by rfl, fun w' hS => (by go_simp)⟩) hY2 ?_
              try simp only [Go.Act.put, List.setIfInBounds_toArray, List.set_cons_zero, List.set_cons_succ]
              refine wpH_take (i := 18) (v := (.bool false)) (some 113) rfl rfl (by kernel_rfl) (by kernel_rfl) (by kernel_rfl) (fun _ _ _ h => h) (Or.inl ⟨by rfl, fun w' hS => (by go_simp)⟩) hY2 ?_
              try simp only [Go.Act.put, List.setIfInBounds_toArray, List.set_cons_zero, List.set_cons_succ]
              refine wpAnyH_done (by kernel_rfl) ?_ _
              have hE := hid hY2
              have HE : Hid (LsX w R M b2 (m + 1 + 1) Y2) := hid ⟨F, S, a, n, c, hp'.out.keep hE.out⟩
              clear s0 s1 s2 s3 s4 s5 s6 s7 g0 g1 g2 g3 g4 rc1 H8 H9 hS0 hp' hY1 hY2
              go_wp2_with fail
              go_roundw
              case rel => exact ⟨b2, m + 1, rfl, by go_num, by have := HNn.out; omega, HE⟩
              case measure => simp [intOf]; have := HNn.out; omega
          · have zk : (A : Int) ≤ (m : Int) := by omega
            have e : m = A := by omega
            subst e
            go_wp2_with fail
            go_meet
            case rel => exact ⟨b2, rfl, HR⟩
      case rest =>
        clear HI
        obtain ⟨b2, rfl, HR⟩ := hcut
        obtain ⟨F, S, a, n, c, hp⟩ := HR.out
        have HP := hid hp
        obtain ⟨p0, p1, p2, p3, p4, p5, p6, p7⟩ := dcs_at hp.hm
        have H9 := hid (says9 wc b2 (A + 1) F R S _ x hp.rq hp.rd (by have := HLe.out; omega) HX.out)
        unfold PT dv dc at H9
        clear hp HR
        go_wp2_with (go_at_call 9; refine H9.out.mono ?_; rintro e w8 ⟨rfl, t8⟩; have T8 := hid t8; clear t8)
        go_ret
        exact ⟨rfl, HP.out.t.trans' T8.out⟩
theorem law3 (w : World) (R : Rn) (x : Int) (xs : List ActR) (v : Value) (hR : WfR R) (hx : W64 x) (hv : SlM w v xs) (hw : ∀ a ∈ xs, WfA a) (hL : xs.length ≤ 2932031007400) : Calls Try.prog 3 #[rv R, .int .i64 x, v] w fun e w' => e = .returned (.bool true) ∧ Touch [] w w' := by
  cases hg : mayN R x
  · rcases hv with ⟨_, a, c, e⟩ | ⟨b, off, cap, e, _⟩
    · exact law3_no w R x v a 0 c e hg
    · exact law3_no w R x v _ _ cap e hg
  · exact law3_ok w R x xs v hR hx hv hw hL hg
end Go.Proofs.Ytaikleaiofpebaa
