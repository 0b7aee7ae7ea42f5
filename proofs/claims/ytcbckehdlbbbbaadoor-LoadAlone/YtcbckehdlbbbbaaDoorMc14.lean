/- A load without gates and sleeps ends: the walk of the law LoadEnds; the conditions are those that it states. -/
import Derived.Test.YtcbckehdlbbbbaaDoorMc13
namespace Go.Proofs.YtcbckehdlbbbbaaDoor
open Go.RowKit Go.Maps Go.ChangeMaps
set_option linter.unusedVariables false
set_option linter.unusedSimpArgs false
theorem results_ok {w : World} {b r : Nat} {S : Ld} {vr vl : Value} (h : Lq w b r S vr vl) (hi : Iv S) (e : S.left = []) : Calls Tryd.prog 13 #[.pointer (some ⟨b, 0, none⟩)] w fun e w' => CpE e w w' 53 5 S.res.length (S.res.flatMap rzc) := by
  have HO := hid (over_yes h e)
  obtain ⟨c, rfl⟩ := h.vr
  have c1 := cell_at (j := 1) (v := .slice (some ⟨r, 0, none⟩) S.res.length c) h.bl rfl
  have HC := hid (clone_res w _ S.res.length (S.res.flatMap rzc) (Rv.of_own h.row) (one_rzc _) hi.big)
  clear h hi e
  go_enter Tryd.func13, Tryd.ntmps13
  go_wp2_with (first
    | (go_at_call 11; refine HO.out.mono ?_; rintro e w2 ⟨rfl, rfl⟩)
    | (go_at_call 34; refine HC.out.mono ?_; rintro e w3 ⟨a3, c3, rfl, o3, t3⟩; have O3 := hid (And.intro o3 t3); clear o3 t3)
    | fail)
  go_ret
  exact ⟨a3, c3, rfl, O3.out.1, O3.out.2⟩
/-- what stands while a load without gates and sleeps goes on -/
structure Eb (w wr : World) (ps : List Ip) (b r : Nat) (vr : Value) (S : Ld) (vl : Value) (vt : Value) (N : Nat) : Prop where
  q : Lq wr b r S vr vl
  e : En ps S
  n : S.res.length = N
  t : Tk wr vt
  tb : ∀ t, vt = .pointer (some ⟨t, 0, none⟩) → b < t
  c : Touch [] w wr
  r : w.heap.size ≤ r
set_option maxHeartbeats 16000000 in
set_option maxRecDepth 100000 in
theorem ends_ (w : World) (v : Value) (ps : List Ip) (hk : Rc.Kd w) (h : Its w v ps) (hw : ∀ q ∈ ps, q.1.wf) : Calls Tryd.prog 3 #[v] w fun e w' => e = .returned (.bool true) ∧ Touch [] w w' := by
  obtain ⟨a0, c0, rfl, hc0⟩ := h.form
  have HAW : Hid (∀ w1, Touch [] w w1 → Calls Tryd.prog 7 #[] w1 fun e w' => e = .returned (.bool true) ∧ Touch [] w1 w') := hid (fun w1 T => awake_ w1 (Kd.touch hk T))
  have HK : Hid (∀ w', Touch [] w w' → Rc.Kd w') := hid (fun w' T => Kd.touch hk T)
  have HIT : Hid (∀ wr j, Touch [] w wr → (hj : j < ps.length) → ∃ g off q ad cd, a0 = some ⟨g, off, none⟩ ∧ ps[j]? = some q ∧ q.2 = .slice ad q.1.L.length cd ∧ ItAt wr g (off + j * 5) q ∧ Rc.Sl wr ad q.1.L) := hid (fun wr j T hj => by
    obtain ⟨g, off, rfl, hA⟩ := Its.item (h.keep0 T) hj
    obtain ⟨ad, cd, e2, _⟩ := Rv.form (h.sv _ (List.getElem_mem hj))
    have hs := (h.sv _ (List.getElem_mem hj)).keep0 T
    rw [e2] at hs
    exact ⟨g, off, ps[j], ad, cd, rfl, List.getElem?_eq_getElem hj, e2, hA, hs.sl.2⟩)
  have HWF := hid hw
  have HN := new_ w 1 _ ps hk h hw
  clear h hw hk
  by_cases hok : NewOk 1 ps
  rotate_left
  · have HX : Hid (Calls Tryd.prog 6 #[.int .i64 1, .slice a0 ps.length c0] w fun e w' => ∃ k er : Int, (er != 0) = true ∧ e = .returned (.tuple #[.pointer none, .int .i64 k, .int .i64 er]) ∧ Touch [] w w') := hid (HN.mono (by
      rintro e w' (⟨k, er, x1, x2, x3, _⟩ | ⟨_, _, _, _, _, _, _, _, x, _⟩)
      · exact ⟨k, er, by simpa using x1, x2, x3⟩
      · exact absurd x hok))
    clear HN hok HIT HK HWF
    go_enter Tryd.func3, Tryd.ntmps3
    go_upto_region 2 with (go_at_call 6; refine HX.out.mono ?_; rintro e w1 ⟨k, er, her, rfl, t1⟩; have T1 := hid t1; clear t1)
    go_upto_region 3 with (go_at_call 7; refine (HAW.out _ T1.out).mono ?_; rintro e w2 ⟨rfl, t2⟩; have T2 := hid (T1.out.trans' t2); clear t2)
    go_wp2_with (go_at_call 7; refine (HAW.out _ T2.out).mono ?_; rintro e w3 ⟨rfl, t3⟩; have T3 := hid (T2.out.trans' t3); clear t3)
    go_ret
    exact ⟨rfl, T3.out⟩
  · have HX : Hid (Calls Tryd.prog 6 #[.int .i64 1, .slice a0 ps.length c0] w fun e w' => ∃ b r vr vl ps', e = .returned (.tuple #[.pointer (some ⟨b, 0, none⟩), .int .i64 0, .int .i64 0]) ∧ Lq w' b r (newS 1 ps ps') vr vl ∧ ps'.map (·.1) = ps.map (·.1) ∧ w.heap.size ≤ r ∧ Touch [] w w') := hid (HN.mono (by
      rintro e w' (⟨k, er, x1, x2, x3, x4⟩ | ⟨b, r, vr, vl, ps', rfl, x1, x2, x3, x4, x5, _⟩)
      · exact absurd hok x4
      · exact ⟨b, r, vr, vl, ps', rfl, x1, x2, x4, x5⟩))
    have HOK := hid hok
    have HL : Hid (∀ q ∈ ps, q.1.L.length ≤ 256) := hid (fun q hq => (hok.ok HWF.out q hq).good.1)
    have hle : (ps.length : Int) ≤ 1024 := by have := hok.most; omega
    have HLe := hid hok.most
    clear HN hok
    go_enter Tryd.func3, Tryd.ntmps3
    go_upto_region 2 with (go_at_call 6; refine HX.out.mono ?_; rintro e w1 ⟨b, r, vr, vl, ps', rfl, q1, q2, q3, t1⟩; have Q1 := hid (And.intro q1 (And.intro q2 q3)); have T1 := hid t1; clear q1 q2 q3 t1)
    go_wp2_with (go_at_call 7; refine (HAW.out _ T1.out).mono ?_; rintro e w2 ⟨rfl, t2⟩; have T2 := hid t2; have T20 := hid (T1.out.trans' t2); clear t2)
    clear HX HAW
    have HS0 := hid (sumI_zero ps)
    go_loopw [6, 42] (fun m i wr => ∃ j : Nat, m = .int .i64 (sumI ps j : Nat) ∧ i = .int .i64 j ∧ j ≤ ps.length ∧ Hid (Touch [] w2 wr ∧ ∀ i q, i < j → ps[i]? = some q → Nw q.1.L)) (fun _ i _ => ps.length - (intOf i).toNat)
    case atStart => exact ⟨0, by rw [HS0.out], rfl, Nat.zero_le _, Touch.refl _ _, fun i q hi => absurd hi (by omega)⟩
    case round =>
      obtain ⟨j, rfl, rfl, hj, HR⟩ := hrel
      by_cases hlt : j < ps.length
      · have zj : (j : Int) < (ps.length : Int) := by omega
        obtain ⟨g, off, q, ad, cd, rfl, hq, e2, hA, hsl⟩ := HIT.out wr j (T20.out.trans' HR.out.1) hlt
        have y0 := hA.c0
        have y1 := hA.c1
        have y2 := hA.c2
        have y3 := hA.c3
        have y4 := hA.c4
        rw [e2] at y4
        have HSL := hid hsl
        have HQ := hid hq
        have HSM : Hid (sumI ps (j + 1) = sumI ps j + q.1.L.length) := hid (sumI_step hq)
        have hw1 : IntKind.i64.wrap ((sumI ps j : Int) + (q.1.L.length : Int)) = ((sumI ps (j + 1) : Nat) : Int) := by
          have h1 := sumI_le HL.out (j + 1) (by omega)
          have h2 := HLe.out
          rw [HSM.out] at h1
          rw [IntKind.wrap_i64, HSM.out]
          omega
        have hql : (q.1.L.length : Int) ≤ 256 := by have := HL.out q (List.mem_of_getElem? hq); omega
        clear hA e2 hsl hq
        obtain ⟨wo, rfl⟩ : ∃ wo, wo = wr := ⟨_, rfl⟩
        obtain ⟨V, hV⟩ : ∃ V, V = wo.alloc (.cells #[.int .i64 q.1.run, .int .u16 q.1.sp, .string q.1.nm, .int .i64 q.1.tok, .slice ad q.1.L.length cd] 33) := ⟨_, rfl⟩
        have TV : Hid (Touch [] wo V) := hid (by rw [hV]; exact (Touch.refl _ _).alloc _)
        have v4 : V.cell? ⟨wo.heap.size, 4, none⟩ = some (.slice ad q.1.L.length cd) := cell_at (j := 4) (by rw [hV]; exact heap_alloc_new wo _) rfl
        generalize hS1 : sumI ps (j + 1) = s1 at *
        have HS1 := hid hS1
        clear hS1 HSM
        generalize sumI ps j = s0 at *
        go_upto_region 8 with fail
        rw [← hV]
        clear hV y0 y1 y2 y3 y4
        go_upto_region 10 with fail
        go_loopw [54] (fun i wr => ∃ k : Nat, i = .int .i64 k ∧ k ≤ q.1.L.length ∧ Hid (Touch [] V wr ∧ ∀ i x, i < k → q.1.L[i]? = some x → x.1 ≠ 6 ∧ x.1 ≠ 7)) (fun i _ => q.1.L.length - (intOf i).toNat)
        case atStart => exact ⟨0, rfl, Nat.zero_le _, Touch.refl _ _, fun i q hi => absurd hi (by omega)⟩
        case round =>
          obtain ⟨k, rfl, hk, HK2⟩ := hrel
          by_cases hkl : k < q.1.L.length
          · have zk : (k : Int) < (q.1.L.length : Int) := by omega
            obtain ⟨gs, os, rfl, z0, z1, z2⟩ := HSL.out k hkl
            have z0 := cell_touch (TV.out.trans' HK2.out.1) z0 (by simp)
            have z1 := cell_touch (TV.out.trans' HK2.out.1) z1 (by simp)
            have z2 := cell_touch (TV.out.trans' HK2.out.1) z2 (by simp)
            have HNX : Hid (q.1.L[k].1 ≠ 6 → q.1.L[k].1 ≠ 7 → ∀ i x, i < k + 1 → q.1.L[i]? = some x → x.1 ≠ 6 ∧ x.1 ≠ 7) := hid (fun h6 h7 i x hi hx => by
              rcases (by omega : i < k ∨ i = k) with e | rfl
              · exact HK2.out.2 i x e hx
              · rw [List.getElem?_eq_getElem hkl] at hx
                cases hx
                exact ⟨h6, h7⟩)
            generalize q.1.L[k].1 = o0 at *
            generalize q.1.L[k].2.1 = o1 at *
            generalize q.1.L[k].2.2 = o2 at *
            have HTr : Hid (Touch [] w wr) := hid (((T20.out.trans' HR.out.1).trans' TV.out).trans' HK2.out.1)
            by_cases h6 : o0 = 6
            · subst h6
              go_wp2
              go_ret
              exact ⟨rfl, HTr.out.alloc _⟩
            · by_cases h7 : o0 = 7
              · subst h7
                go_wp2
                go_ret
                exact ⟨rfl, HTr.out.alloc _⟩
              · have HN2 := hid (HNX.out h6 h7)
                have e6 : (o0 == 6) = false := by simpa using h6
                have e7 : (o0 == 7) = false := by simpa using h7
                clear h6 h7 HNX
                go_wp2
                go_roundw
                case rel => exact ⟨k + 1, by go_num, by omega, HK2.out.1.alloc _, HN2.out⟩
                case measure => simp [intOf]; omega
          · have zk : ¬ (k : Int) < (q.1.L.length : Int) := by omega
            have HNQ : Hid (Nw q.1.L) := hid (fun x hx => by
              obtain ⟨i, hi, rfl⟩ := List.getElem_of_mem hx
              exact HK2.out.2 i _ (by omega) (List.getElem?_eq_getElem hi))
            go_wp2
            go_roundw
            case rel =>
              refine ⟨j + 1, by rw [HS1.out], by go_num, by omega, (HR.out.1.trans' TV.out).trans' HK2.out.1, fun i z hi hz => ?_⟩
              rcases (by omega : i < j ∨ i = j) with e | rfl
              · exact HR.out.2 i z e hz
              · have := HQ.out
                rw [hz] at this
                cases this
                exact HNQ.out
            case measure => simp [intOf]; omega
      · have zj : ¬ (j : Int) < (ps.length : Int) := by omega
        have HMO : Hid (sumI ps j = remL ps) := hid ((congrArg (sumI ps) (by omega : j = ps.length)).trans (sumI_all ps))
        have HNW : Hid (∀ q ∈ ps, Nw q.1.L) := hid (fun q hq => by
          obtain ⟨i, hi, rfl⟩ := List.getElem_of_mem hq
          exact HR.out.2 i _ (by omega) (List.getElem?_eq_getElem hi))
        have HT3 : Hid (Touch [] w1 wr) := hid (T2.out.trans' HR.out.1)
        have HT3w : Hid (Touch [] w wr) := hid (T1.out.trans' HT3.out)
        have HSMB : Hid (sumI ps j ≤ 300000) := hid (by have := sumI_le HL.out j (by omega); have := HLe.out; omega)
        generalize sumI ps j = mo at *
        go_upto_region 17 with (first
          | (go_at_call 8; refine (gnew' _).mono ?_; rintro e v1 ⟨g1, rfl, _, _, t1⟩; have U1 := hid t1; clear t1)
          | (go_at_call 9; refine (cnew' _).mono ?_; rintro e v2 ⟨c1, F1, rfl, _, _, t2⟩; have U2 := hid (U1.out.trans' t2); clear t2)
          | (go_at_call 10; refine (tnew_ _).mono ?_; rintro e v3 ⟨rfl, tk3, t3⟩; have U3 := hid (U2.out.trans' t3); have TK := hid tk3; clear t3 tk3)
          | fail)
        have HEB : Hid (Eb w v3 ps b r vr (newS 1 ps ps') vl (.pointer (some ⟨v2.heap.size, 0, none⟩)) ps.length) := hid ⟨Q1.out.1.keep0 (HT3.out.trans' U3.out), En.start HOK.out HWF.out Q1.out.2.1 HNW.out, by simp [newS], Or.inr ⟨_, rfl, TK.out⟩, fun t ht => by
          have h1 := block_lt Q1.out.1.bl
          have h2 := HT3.out.size
          have h3 := U2.out.size
          simp at ht
          omega, HT3w.out.trans' U3.out, Q1.out.2.2⟩
        have HREM : Hid (rem (newS 1 ps ps') ≤ mo) := hid (by
          unfold rem
          show remL ps' - 0 ≤ mo
          rw [remL_map Q1.out.2.1, HMO.out]
          omega)
        go_wp2
        go_loopw [14] (fun n wr => ∃ (k : Nat) (S : Ld) (vl : Value), n = .int .i64 k ∧ Hid (Eb w wr ps b r vr S vl (.pointer (some ⟨v2.heap.size, 0, none⟩)) ps.length ∧ k + rem S ≤ mo)) (fun n _ => mo + 1 - (intOf n).toNat)
        case atStart => exact ⟨0, _, _, rfl, HEB.out, by have := HREM.out; omega⟩
        case round =>
          obtain ⟨k, S, vl2, rfl, HR2⟩ := hrel
          clear HEB HREM TK U1 U2 U3 HR Q1 HT3 HT3w HNW HMO
          rcases hleft : S.left with _ | ⟨q, l⟩
          rotate_left
          · have HO := hid (over_no HR2.out.1.q hleft)
            have HSE := hid (step_ends (vg := .pointer (some ⟨g1, 0, none⟩)) (vc := .pointer (some ⟨c1, 0, none⟩)) HR2.out.1.q (HK.out _ HR2.out.1.c) HR2.out.1.e hleft HR2.out.1.t)
            have hrp : 0 < rem S := by
              have hp := HR2.out.1.e.iv.p q (by rw [hleft]; simp)
              unfold rem
              rw [hleft, remL_cons]
              omega
            have hkm : (k : Int) < (mo : Int) := by have := HR2.out.2; omega
            have hkb : (k : Int) ≤ 300000 := by have := HR2.out.2; have := HSMB.out; omega
            clear hleft
            go_wp2_with (first
              | (go_at_call 11; refine HO.out.mono ?_; rintro e w5 ⟨rfl, rfl⟩)
              | (go_at_call 12; refine HSE.out.mono ?_; rintro e w6 ⟨S', vl', x0, x1, rfl, q1, q2, q3, q4, q5⟩; have Q6 := hid (And.intro q1 (And.intro q2 (And.intro q3 (And.intro q4 q5)))); clear q1 q2 q3 q4 q5)
              | fail)
            go_roundw
            case rel =>
              have hb := HR2.out.1.q.rb
              have hr := HR2.out.1.r
              have hbw : b < w5.heap.size := block_lt HR2.out.1.q.bl
              obtain ⟨q1, q2, q3, q4, q5⟩ := Q6.out
              have T7 : Touch [] w6 (w6.alloc (.cells #[.int .i64 x0, .int .i64 x1, .int .i64 0, .int .i64 0] 43)) := (Touch.refl _ _).alloc _
              refine ⟨k + 1, S', vl', by go_num, ⟨q1.keep0 T7, q2, by rw [q4]; exact HR2.out.1.n, (HR2.out.1.t.keep q5 (fun t ht e => ?_)).keep0 T7, HR2.out.1.tb, (HR2.out.1.c.trans q5 (fun i hi => Or.inr (by simp at hi; omega))).trans' T7, hr⟩, by have := HR2.out.2; omega⟩
              have := HR2.out.1.tb t ht
              simp at e
              omega
            case measure => simp [intOf]; omega
          · have HO := hid (over_yes HR2.out.1.q hleft)
            have HRS : Hid (Calls Tryd.prog 13 #[.pointer (some ⟨b, 0, none⟩)] wr fun e w' => ∃ a c, e = .returned (.slice a ps.length c) ∧ w'.ownsRow wr.heap.size 53 5 (.slice a ps.length c) ps.length (S.res.flatMap rzc) ∧ Touch [] wr w') := hid (by
              have := results_ok HR2.out.1.q HR2.out.1.e.iv hleft
              rw [HR2.out.1.n] at this
              exact this)
            have HTOLD := hid HR2.out.1.e.told
            have HFST := hid HR2.out.1.e.fst
            have HN5 := hid HR2.out.1.n
            clear hleft
            go_upto_region 23 with (go_at_call 11; refine HO.out.mono ?_; rintro e w5 ⟨rfl, rfl⟩)
            go_wp2_with (go_at_call 13; refine HRS.out.mono ?_; rintro e w8 ⟨a3, c3, rfl, o8, t8⟩; have O8 := hid o8; have T8 := hid t8; clear o8 t8)
            have HRT : Hid (Touch [] w w8) := hid (HR2.out.1.c.trans' T8.out)
            have HRC : Hid (∀ wr j, Touch [] w8 wr → j < ps.length → ∃ gr z, a3 = some ⟨gr, 0, none⟩ ∧ z ∈ S.res ∧ (∀ q, ps[j]? = some q → z.1 = q.1.run) ∧ wr.cell? ⟨gr, j * 5, none⟩ = some (.int .i64 z.1) ∧ wr.cell? ⟨gr, j * 5 + 1, none⟩ = some (.int .i64 z.2.1) ∧ wr.cell? ⟨gr, j * 5 + 2, none⟩ = some (.int .i64 z.2.2.1) ∧ wr.cell? ⟨gr, j * 5 + 3, none⟩ = some (.int .i64 z.2.2.2.1) ∧ wr.cell? ⟨gr, j * 5 + 4, none⟩ = some (.int .i64 z.2.2.2.2)) := hid (fun wr j T hj => by
              have ho := own_touch O8.out T (fun _ _ e => by cases e)
              obtain ⟨gr, cg, e, _⟩ := own_some ho (by omega)
              cases e
              have hjr : j < S.res.length := by rw [HN5.out]; exact hj
              have hz : S.res[j]? = some S.res[j] := List.getElem?_eq_getElem hjr
              refine ⟨gr, S.res[j], rfl, List.getElem_mem hjr, fun q hq => ?_, own_cell ho (p := j * 5 + 0) (flat_at rzc_len S.res j 0 _ hz (by decide)), own_cell ho (flat_at rzc_len S.res j 1 _ hz (by decide)), own_cell ho (flat_at rzc_len S.res j 2 _ hz (by decide)), own_cell ho (flat_at rzc_len S.res j 3 _ hz (by decide)), own_cell ho (flat_at rzc_len S.res j 4 _ hz (by decide))⟩
              have h1 : (S.res.map (·.1))[j]? = (ps.map (·.1.run))[j]? := by rw [HFST.out]
              simpa [hz, hq] using h1)
            clear O8 HRS HO HR2 T8 HFST HN5
            rcases HTOLD.out with hpa | ⟨o, ho2, hpb⟩
            · have HPA := hid hpa
              clear hpa HTOLD
              go_loopw [18, 100] (fun p i wr => ∃ j : Nat, p = .bool false ∧ i = .int .i64 j ∧ j ≤ ps.length ∧ Hid (Touch [] w8 wr)) (fun _ i _ => ps.length - (intOf i).toNat)
              case atStart => exact ⟨0, rfl, rfl, Nat.zero_le _, Touch.refl _ _⟩
              case round =>
                obtain ⟨j, rfl, rfl, hj, HT8⟩ := hrel
                by_cases hlt : j < ps.length
                · have zj : (j : Int) < (ps.length : Int) := by omega
                  obtain ⟨g, off, q, ad, cd, rfl, hq, e2, hA, _⟩ := HIT.out wr j (HRT.out.trans' HT8.out) hlt
                  obtain ⟨gr, z, rfl, hz, hz1, z0, z1, z2, z3, z4⟩ := HRC.out wr j HT8.out hlt
                  have y0 := hA.c0
                  have hrun : z.1 = q.1.run := hz1 q hq
                  rw [hrun] at z0
                  have hkd : (z.2.2.1 == 2) = false := by simpa using HPA.out z hz
                  clear hA e2 hq hz hz1 hrun HIT
                  generalize z.2.2.1 = kd at *
                  generalize q.1.run = run at *
                  go_wp2
                  go_quiet (fail)
                  go_wp2
                  go_roundw
                  case rel => exact ⟨j + 1, rfl, by go_num, by omega, (HT8.out.trans' ((Touch.refl _ _).drewN _))⟩
                  case measure => simp [intOf]; omega
                · have zj : ¬ (j : Int) < (ps.length : Int) := by omega
                  obtain ⟨w9, rfl⟩ : ∃ w9, w9 = wr := ⟨_, rfl⟩
                  go_wp2
                  go_loopw [128] (fun i wr => ∃ k : Nat, i = .int .i64 k ∧ k ≤ ps.length ∧ Hid (Touch [] w8 wr)) (fun i _ => ps.length - (intOf i).toNat)
                  case atStart => exact ⟨0, rfl, Nat.zero_le _, HT8.out⟩
                  case round =>
                    obtain ⟨k, rfl, hk, HT9⟩ := hrel
                    by_cases hkl : k < ps.length
                    · have zk : (k : Int) < (ps.length : Int) := by omega
                      have zp : (0 : Int) < (ps.length : Int) := by omega
                      obtain ⟨gr, z, rfl, hz, hz1, z0, z1, z2, z3, z4⟩ := HRC.out wr k HT9.out hkl
                      obtain ⟨gr', y, hgr, hy, _, y0, y1, y2, y3, y4⟩ := HRC.out wr 0 HT9.out (by omega)
                      cases hgr
                      clear hz1 HRC HIT
                      go_wp2
                      go_quiet (fail)
                      go_wp2
                      go_roundw
                      case rel => exact ⟨k + 1, by go_num, by omega, (HT9.out.trans' ((Touch.refl _ _).drewN _))⟩
                      case measure => simp [intOf]; omega
                    · have zk : ¬ (k : Int) < (ps.length : Int) := by omega
                      go_wp2
                      go_ret
                      exact ⟨rfl, HRT.out.trans' HT9.out⟩
            · have HPB := hid (And.intro ho2 hpb)
              clear ho2 hpb HTOLD
              go_loopw [18, 100] (fun p i wr => ∃ j : Nat, p = .bool (decide (0 < j)) ∧ i = .int .i64 j ∧ j ≤ ps.length ∧ Hid (Touch [] w8 wr)) (fun _ i _ => ps.length - (intOf i).toNat)
              case atStart => exact ⟨0, by simp, rfl, Nat.zero_le _, Touch.refl _ _⟩
              case round =>
                obtain ⟨j, rfl, rfl, hj, HT8⟩ := hrel
                by_cases hlt : j < ps.length
                · have zj : (j : Int) < (ps.length : Int) := by omega
                  obtain ⟨g, off, q, ad, cd, rfl, hq, e2, hA, _⟩ := HIT.out wr j (HRT.out.trans' HT8.out) hlt
                  obtain ⟨gr, z, rfl, hz, hz1, z0, z1, z2, z3, z4⟩ := HRC.out wr j HT8.out hlt
                  have y0 := hA.c0
                  have hrun : z.1 = q.1.run := hz1 q hq
                  rw [hrun] at z0
                  have hkd : (z.2.2.1 == 2) = true := by rw [HPB.out.2 z hz]; simpa using HPB.out.1
                  clear hA e2 hq hz hz1 hrun HIT
                  generalize z.2.2.1 = kd at *
                  generalize q.1.run = run at *
                  have HJ : Hid (decide (0 < j + 1) = true) := hid (by simp)
                  rcases Nat.eq_zero_or_pos j with e0 | e0
                  · subst e0
                    have e1 : decide (0 < 0) = false := by simp
                    simp only [Nat.lt_irrefl, decide_false]
                    simp only [Nat.zero_mul, Nat.zero_add, Nat.add_zero] at y0 z0 z1 z2 z3 z4
                    go_wp2
                    go_quiet (fail)
                    go_wp2
                    go_roundw
                    case rel => exact ⟨0 + 1, by rw [HJ.out], by go_num, by omega, (HT8.out.trans' ((Touch.refl _ _).drewN _))⟩
                    case measure => simp [intOf]; omega
                  · have e1 : decide (0 < j) = true := by simpa using e0
                    rw [e1]
                    go_wp2
                    go_quiet (fail)
                    go_wp2
                    go_roundw
                    case rel => exact ⟨j + 1, by rw [HJ.out], by go_num, by omega, (HT8.out.trans' ((Touch.refl _ _).drewN _))⟩
                    case measure => simp [intOf]; omega
                · have zj : ¬ (j : Int) < (ps.length : Int) := by omega
                  have e1 : decide (0 < j) = true := by have := HOK.out.one; simp; omega
                  rw [e1]
                  clear e1
                  obtain ⟨w9, rfl⟩ : ∃ w9, w9 = wr := ⟨_, rfl⟩
                  go_wp2
                  go_loopw [128] (fun i wr => ∃ k : Nat, i = .int .i64 k ∧ k ≤ ps.length ∧ Hid (Touch [] w8 wr)) (fun i _ => ps.length - (intOf i).toNat)
                  case atStart => exact ⟨0, rfl, Nat.zero_le _, HT8.out⟩
                  case round =>
                    obtain ⟨k, rfl, hk, HT9⟩ := hrel
                    by_cases hkl : k < ps.length
                    · have zk : (k : Int) < (ps.length : Int) := by omega
                      have zp : (0 : Int) < (ps.length : Int) := by omega
                      obtain ⟨gr, z, rfl, hz, hz1, z0, z1, z2, z3, z4⟩ := HRC.out wr k HT9.out hkl
                      obtain ⟨gr', y, hgr, hy, _, y0, y1, y2, y3, y4⟩ := HRC.out wr 0 HT9.out (by omega)
                      cases hgr
                      have ez := HPB.out.2 z hz
                      have ey := HPB.out.2 y hy
                      rw [ez] at z1 z2 z3 z4
                      rw [ey] at y1 y2 y3 y4
                      simp only [Nat.zero_mul, Nat.zero_add] at y1 y2 y3 y4
                      clear hz1 ez ey HRC HIT
                      generalize o.1 = o0 at *
                      generalize o.2.1 = o1 at *
                      generalize o.2.2.1 = o2 at *
                      generalize o.2.2.2 = o3 at *
                      go_wp2
                      go_quiet (fail)
                      go_wp2
                      go_roundw
                      case rel => exact ⟨k + 1, by go_num, by omega, (HT9.out.trans' ((Touch.refl _ _).drewN _))⟩
                      case measure => simp [intOf]; omega
                    · have zk : ¬ (k : Int) < (ps.length : Int) := by omega
                      go_wp2
                      go_ret
                      exact ⟨rfl, HRT.out.trans' HT9.out⟩
end Go.Proofs.YtcbckehdlbbbbaaDoor
/- A load whose gates are open and whose clock leaps ends with what each recipe comes to alone: the walk of the law LoadAlone; the conditions are those that it states. -/
namespace Go.Proofs.YtcbckehdlbbbbaaDoor
open Go.RowKit Go.Maps Go.ChangeMaps
set_option linter.unusedVariables false
set_option linter.unusedSimpArgs false
theorem fup_open (n : Int) (h0 : 0 ≤ n) : fup (fun i : Nat => decide ((i : Int) < n)) n.toNat true = fun i : Nat => decide ((i : Int) < n + 1) := by
  funext i
  unfold fup
  by_cases e : i = n.toNat
  · rw [if_pos e]
    symm
    simp
    omega
  · rw [if_neg e]
    show decide ((i : Int) < n) = decide ((i : Int) < n + 1)
    by_cases h : (i : Int) < n
    · rw [decide_eq_true h, decide_eq_true (by omega)]
    · rw [decide_eq_false h, decide_eq_false (by omega)]
/-- while the gates are opened -/
structure Ao (w wr : World) (ps ps' : List Ip) (b r g c t : Nat) (vr vl : Value) (F : List Nat) (n : Int) : Prop where
  q : Lq wr b r (newS 3 ps ps') vr vl
  tk : wr.heap[t]? = some (.cells #[.slice none 0 0] 92 (0, 0))
  gn : Gn wr g (fun i : Nat => decide ((i : Int) < n))
  ck : Cl.Ck wr c F ⟨0, 0, []⟩
  gb : b < g
  tb : b < t
  cf : ∀ k ∈ F, b < k
  gf : ¬ g ∈ F
  tf : ¬ t ∈ F
  tg : t ≠ g
  cw : Touch [] w wr
  rw_ : w.heap.size ≤ r
theorem Ao.next {w wr w' : World} {ps ps' : List Ip} {b r g c t : Nat} {vr vl : Value} {F : List Nat} {n : Int} (h : Ao w wr ps ps' b r g c t vr vl F n) (h0 : 0 ≤ n) (hg : Gn w' g (fup (fun i : Nat => decide ((i : Int) < n)) n.toNat true)) (T : Touch [g] wr w') : Ao w w' ps ps' b r g c t vr vl F (n + 1) := by
  have hgb := h.gb
  have hrb := h.q.rb
  have hr := h.rw_
  refine ⟨h.q.keep T (fun k hk => by simp at hk; omega), T.keep h.tk (by simp; exact h.tg), by rw [← fup_open n h0]; exact hg, h.ck.keep T (fun k hk e => by simp at e; rw [e] at hk; exact h.gf hk), h.gb, h.tb, h.cf, h.gf, h.tf, h.tg, h.cw.trans T (fun k hk => Or.inr (by simp at hk; omega)), h.rw_⟩
theorem Ao.done {w wr : World} {ps ps' : List Ip} {b r g c t : Nat} {vr vl : Value} {F : List Nat} {n : Int} (h : Ao w wr ps ps' b r g c t vr vl F n) (hn : 256 ≤ n) (hok : NewOk 3 ps) (hw : ∀ q ∈ ps, q.1.wf) (he : ps'.map (·.1) = ps.map (·.1)) : Ab w wr ps b r g c t vr (newS 3 ps ps') vl F ⟨0, 0, []⟩ 0 :=
  ⟨h.q, Or.inl ⟨[], 0, Ag.start hok hw he⟩, h.tk, ⟨_, fun i hi => decide_eq_true (by omega), h.gn⟩, h.ck, rfl, Int.le_refl _, h.gb, h.tb, h.cf, h.gf, h.tf, h.cw, h.rw_⟩
theorem remL_le {l : List Ip} (h : ∀ q ∈ l, q.1.L.length ≤ 256) : remL l ≤ l.length * 257 := by
  induction l with
  | nil => simp [remL]
  | cons a l ih =>
    rw [remL_cons, List.length_cons]
    have := ih (fun q hq => h q (by simp [hq]))
    have := h a (by simp)
    omega
theorem Ab.ae {w wr : World} {ps : List Ip} {b r g c t : Nat} {vr : Value} {S : Ld} {vl : Value} {F : List Nat} {cs : Cl.Cs} {N : Nat} (h : Ab w wr ps b r g c t vr S vl F cs N) (e : S.left = []) : Iv S ∧ ∃ H pk, Ae (ps.map (·.1)) S H cs.now pk := by
  rcases h.a with ⟨H, s, ha⟩ | ⟨H, ha⟩
  · exact ⟨ha.iv, H, none, ha.done e⟩
  · obtain ⟨o, ho⟩ := ha.done
    exact ⟨ha.iv, H, some o, ho⟩
theorem take_sat {H : Hs} {i : Nat} {h : Oc × Int} (hh : H[i]? = some h) : satsum (H.take (i + 1)) = sat (satsum (H.take i)) h.2 := by
  obtain ⟨hi, e⟩ := List.getElem?_eq_some_iff.1 hh
  rw [List.take_succ_eq_append_getElem hi, satsum_snoc, e]
set_option maxHeartbeats 32000000 in
set_option maxRecDepth 100000 in
theorem alone_ (w : World) (v : Value) (ps : List Ip) (hk : Rc.Kd w) (h : Its w v ps) (hw : ∀ q ∈ ps, q.1.wf) : Calls Tryd.prog 5 #[v] w fun e w' => e = .returned (.bool true) ∧ Touch [] w w' := by
  obtain ⟨a0, c0, rfl, hc0⟩ := h.form
  have HAW : Hid (∀ w1, Touch [] w w1 → Calls Tryd.prog 7 #[] w1 fun e w' => e = .returned (.bool true) ∧ Touch [] w1 w') := hid (fun w1 T => awake_ w1 (Kd.touch hk T))
  have HK : Hid (∀ w', Touch [] w w' → Rc.Kd w') := hid (fun w' T => Kd.touch hk T)
  have HITS := hid h
  have HIT : Hid (∀ wr j, Touch [] w wr → (hj : j < ps.length) → ∃ g off q ad cd, a0 = some ⟨g, off, none⟩ ∧ ps[j]? = some q ∧ q.2 = .slice ad q.1.L.length cd ∧ ItAt wr g (off + j * 5) q) := hid (fun wr j T hj => by
    obtain ⟨g, off, rfl, hA⟩ := Its.item (h.keep0 T) hj
    obtain ⟨ad, cd, e2, _⟩ := Rv.form (h.sv _ (List.getElem_mem hj))
    exact ⟨g, off, ps[j], ad, cd, rfl, List.getElem?_eq_getElem hj, e2, hA⟩)
  have HWF := hid hw
  have HN := new_ w 3 _ ps hk h hw
  clear h hw hk
  by_cases hok : NewOk 3 ps
  rotate_left
  · have HX : Hid (Calls Tryd.prog 6 #[.int .i64 3, .slice a0 ps.length c0] w fun e w' => ∃ k er : Int, (er != 0) = true ∧ e = .returned (.tuple #[.pointer none, .int .i64 k, .int .i64 er]) ∧ Touch [] w w') := hid (HN.mono (by
      rintro e w' (⟨k, er, x1, x2, x3, _⟩ | ⟨_, _, _, _, _, _, _, _, x, _⟩)
      · exact ⟨k, er, by simpa using x1, x2, x3⟩
      · exact absurd x hok))
    clear HN hok HIT HK HWF HITS
    go_enter Tryd.func5, Tryd.ntmps5
    go_upto_region 2 with (go_at_call 6; refine HX.out.mono ?_; rintro e w1 ⟨k, er, her, rfl, t1⟩; have T1 := hid t1; clear t1)
    go_upto_region 3 with (go_at_call 7; refine (HAW.out _ T1.out).mono ?_; rintro e w2 ⟨rfl, t2⟩; have T2 := hid (T1.out.trans' t2); clear t2)
    go_wp2_with (go_at_call 7; refine (HAW.out _ T2.out).mono ?_; rintro e w3 ⟨rfl, t3⟩; have T3 := hid (T2.out.trans' t3); clear t3)
    go_ret
    exact ⟨rfl, T3.out⟩
  · have HX : Hid (Calls Tryd.prog 6 #[.int .i64 3, .slice a0 ps.length c0] w fun e w' => ∃ b r vr vl ps', e = .returned (.tuple #[.pointer (some ⟨b, 0, none⟩), .int .i64 0, .int .i64 0]) ∧ Lq w' b r (newS 3 ps ps') vr vl ∧ ps'.map (·.1) = ps.map (·.1) ∧ w.heap.size ≤ r ∧ Touch [] w w') := hid (HN.mono (by
      rintro e w' (⟨k, er, x1, x2, x3, x4⟩ | ⟨b, r, vr, vl, ps', rfl, x1, x2, x3, x4, x5, _⟩)
      · exact absurd hok x4
      · exact ⟨b, r, vr, vl, ps', rfl, x1, x2, x4, x5⟩))
    have HOK := hid hok
    have HOKS : Hid (∀ q ∈ ps, q.1.ok) := hid (hok.ok HWF.out)
    have hle : (ps.length : Int) ≤ 1024 := by have := hok.most; omega
    have HLe := hid hok.most
    clear HN hok
    go_enter Tryd.func5, Tryd.ntmps5
    go_upto_region 2 with (go_at_call 6; refine HX.out.mono ?_; rintro e w1 ⟨b, r, vr, vl, ps', rfl, q1, q2, q3, t1⟩; have Q1 := hid (And.intro q1 (And.intro q2 q3)); have T1 := hid t1; clear q1 q2 q3 t1)
    go_upto_region 4 with (go_at_call 7; refine (HAW.out _ T1.out).mono ?_; rintro e w2 ⟨rfl, t2⟩; have T2 := hid t2; have T20 := hid (T1.out.trans' t2); clear t2)
    clear HX HAW
    go_upto_region 5 with (first
      | (go_at_call 8; refine (gnew' _).mono ?_; rintro e v1 ⟨g, rfl, gn1, gl1, t1⟩; have U1 := hid t1; have GN := hid (And.intro gn1 gl1); clear t1 gn1 gl1)
      | (go_at_call 9; refine (cnew' _).mono ?_; rintro e v2 ⟨c, F, rfl, ck2, cf2, t2⟩; have U2 := hid t2; have CK := hid (And.intro ck2 cf2); clear t2 ck2 cf2)
      | (go_at_call 10; refine (tnew_ _).mono ?_; rintro e v3 ⟨rfl, tk3, t3⟩; have U3 := hid t3; have TK := hid tk3; clear t3 tk3)
      | fail)
    obtain ⟨t, ht⟩ : ∃ t, t = v2.heap.size := ⟨_, rfl⟩
    have HAO : Hid (Ao w v3 ps ps' b r g c t vr vl F 0) := hid (by
      have h1 := block_lt Q1.out.1.bl
      have h2 := T2.out.size
      have h3 := GN.out.2
      have h4 := block_lt GN.out.1
      have h5 := U2.out.size
      have h6 := U1.out.size
      have hF := CK.out.2
      have hFl := CK.out.1.lt
      refine ⟨((Q1.out.1.keep0 T2.out).keep0 U1.out).keep0 (U2.out.trans' U3.out), by rw [ht]; exact TK.out, ?_, CK.out.1.keep0 U3.out, by omega, by omega, fun k hk => by have := hF k hk; omega, fun e => by have := hF _ e; omega, fun e => by have := hFl _ e; omega, by omega, ((T20.out.trans' U1.out).trans' U2.out).trans' U3.out, Q1.out.2.2⟩
      have := GN.out.1.keep (U2.out.trans' U3.out) (by simp)
      have e : (fun i : Nat => decide ((i : Int) < 0)) = fun _ => false := by
        funext i
        simp
      rw [e]
      exact this)
    unfold PT
    rw [← ht]
    clear ht U1 U2 U3 GN CK TK T2 T20
    go_wp2
    go_loopw [46] (fun s46 wr => ∃ n : Int, s46 = .int .i64 n ∧ 0 ≤ n ∧ n ≤ 256 ∧ Hid (Ao w wr ps ps' b r g c t vr vl F n)) (fun s46 _ => 256 - (intOf s46).toNat)
    case atStart => exact ⟨0, rfl, Int.le_refl _, by decide, HAO.out⟩
    case round =>
      obtain ⟨n, rfl, hn0, hn1, HR⟩ := hrel
      by_cases hlt : n < 256
      · have HGO := hid (gopen_ HR.out.gn n hn0 hlt)
        have hwn : IntKind.i64.wrap (n + 1) = n + 1 := by rw [IntKind.wrap_i64]; omega
        go_wp2_with (go_at_call 21; refine HGO.out.mono ?_; rintro e w4 ⟨rfl, g4, t4⟩; have HG4 := hid (And.intro g4 t4); clear g4 t4)
        go_roundw
        case rel => exact ⟨n + 1, rfl, by omega, by omega, HR.out.next hn0 HG4.out.1 HG4.out.2⟩
        case measure => simp [intOf]; omega
      · have HAB : Hid (Ab w wr ps b r g c t vr (newS 3 ps ps') vl F ⟨0, 0, []⟩ 0) := hid (HR.out.done (by omega) HOK.out HWF.out Q1.out.2.1)
        have HREM : Hid (rem (newS 3 ps ps') ≤ 270000) := hid (by
          unfold rem
          show remL ps' - 0 ≤ 270000
          rw [remL_map Q1.out.2.1]
          have := remL_le (fun q hq => (HOKS.out q hq).good.1)
          have := HLe.out
          omega)
        clear HR HAO Q1 T1
        go_wp2
        go_loopw [13] (fun s13 wr => ∃ (n : Int) (S : Ld) (vl : Value) (F : List Nat) (cs : Cl.Cs), s13 = .int .i64 n ∧ 0 ≤ n ∧ n ≤ 270000 ∧ Hid (Ab w wr ps b r g c t vr S vl F cs n.toNat ∧ n.toNat + rem S ≤ 270000)) (fun s13 _ => 300000 - (intOf s13).toNat)
        case atStart => exact ⟨0, _, _, _, _, rfl, Int.le_refl _, by decide, HAB.out, by have := HREM.out; show 0 + _ ≤ _; omega⟩
        case round =>
          obtain ⟨n, S, vl2, F2, cs, rfl, hn0, hn1, HR⟩ := hrel
          clear HAB HREM
          rcases hleft : S.left with _ | ⟨q, l⟩
          rotate_left
          · have HO := hid (over_no HR.out.1.q hleft)
            have hwn : IntKind.i64.wrap (n + 1) = n + 1 := by rw [IntKind.wrap_i64]; omega
            have hn3 : n ≤ 300000 := by omega
            have HNN : Hid ((n + 1).toNat = n.toNat + 1) := hid (by omega)
            by_cases hsl : ∃ k m on, q.1.f S.p S.n = .go k m 2 on
            · obtain ⟨k, m, on, hf⟩ := hsl
              have HSZ := hid (step_sleeps HR.out.1 (HK.out _ HR.out.1.cw) hleft hf (by omega))
              have HB := hid HR.out.2
              clear hf hleft HR
              go_upto_region 17 with (first
                | (go_at_call 11; refine HO.out.mono ?_; rintro e w5 ⟨rfl, rfl⟩)
                | (go_at_call 12; refine HSZ.out.mono ?_; rintro e w6 ⟨S2, F3, x1, x2, x3, rfl, z6⟩; have Z6 := hid (z6.keep0 ((Touch.refl _ _).alloc (.cells #[.int .i64 3, .int .i64 x1, .int .i64 x2, .int .i64 x3] 43))); clear z6)
                | fail)
              go_wp2_with (first
                | (go_at_call 22; refine (leap_al Z6.out).mono ?_; rintro e w7 ⟨a7, n7, m7, F7, cs7, rfl, y7⟩; have Y7 := hid y7; clear y7)
                | (go_at_call 15; refine (wake_al Y7.out).mono ?_; rintro e w8 ⟨rfl, b8, r8⟩; have B8 := hid (And.intro b8 r8); clear b8 r8)
                | fail)
              go_roundw
              case rel =>
                have h1 := HB.out
                have h2 := B8.out.2
                refine ⟨n + 1, goS S2 S2.p S2.n 0 0 0, vl2, F7, cs7, rfl, by omega, by omega, ?_, by rw [HNN.out]; omega⟩
                rw [HNN.out]
                exact B8.out.1
              case measure => simp [intOf]; omega
            · have HSN := hid (step_awake HR.out.1 (HK.out _ HR.out.1.cw) hleft (fun k m on e => hsl ⟨k, m, on, e⟩))
              have HB := hid HR.out.2
              clear hsl hleft HR
              go_wp2_with (first
                | (go_at_call 11; refine HO.out.mono ?_; rintro e w5 ⟨rfl, rfl⟩)
                | (go_at_call 12; refine HSN.out.mono ?_; rintro e w6 ⟨S', vl', x0, x1, rfl, hx0, q1, q2⟩; have Q6 := hid (And.intro (q1.keep0 ((Touch.refl _ _).alloc (.cells #[.int .i64 x0, .int .i64 x1, .int .i64 0, .int .i64 0] 43))) q2); clear q1 q2)
                | fail)
              go_roundw
              case rel =>
                have h1 := HB.out
                have h2 := Q6.out.2
                refine ⟨n + 1, S', vl', F2, cs, rfl, by omega, by omega, ?_, by rw [HNN.out]; omega⟩
                rw [HNN.out]
                exact Q6.out.1
              case measure => simp [intOf]; omega
          · have HO := hid (over_yes HR.out.1.q hleft)
            obtain ⟨hiv, H, pk, hae⟩ := HR.out.1.ae hleft
            have HAE := hid hae
            have HRS : Hid (Calls Tryd.prog 13 #[.pointer (some ⟨b, 0, none⟩)] wr fun e w' => ∃ a c, e = .returned (.slice a ps.length c) ∧ w'.ownsRow wr.heap.size 53 5 (.slice a ps.length c) ps.length (S.res.flatMap rzc) ∧ Touch [] wr w') := hid (by
              have := results_ok HR.out.1.q hiv hleft
              rw [show S.res.length = ps.length by rw [hae.len]; simp] at this
              exact this)
            have HCW := hid HR.out.1.cw
            have HCK := hid HR.out.1.ck
            clear hleft hiv hae HR
            go_upto_region 23 with (go_at_call 11; refine HO.out.mono ?_; rintro e w5 ⟨rfl, rfl⟩)
            go_upto_region 25 with (go_at_call 13; refine HRS.out.mono ?_; rintro e w8 ⟨a3, c3, rfl, o8, t8⟩; have O8 := hid o8; have T8 := hid t8; clear o8 t8)
            have HRT : Hid (Touch [] w w8) := hid (HCW.out.trans' T8.out)
            have HRC : Hid (∀ wr j, Touch [] w8 wr → j < ps.length → ∃ gr z, a3 = some ⟨gr, 0, none⟩ ∧ S.res[j]? = some z ∧ (∀ q, ps[j]? = some q → z.1 = q.1.run) ∧ wr.cell? ⟨gr, j * 5, none⟩ = some (.int .i64 z.1) ∧ wr.cell? ⟨gr, j * 5 + 1, none⟩ = some (.int .i64 z.2.1) ∧ wr.cell? ⟨gr, j * 5 + 2, none⟩ = some (.int .i64 z.2.2.1) ∧ wr.cell? ⟨gr, j * 5 + 3, none⟩ = some (.int .i64 z.2.2.2.1) ∧ wr.cell? ⟨gr, j * 5 + 4, none⟩ = some (.int .i64 z.2.2.2.2)) := hid (fun wr j T hj => by
              have ho := own_touch O8.out T (fun _ _ e => by cases e)
              obtain ⟨gr, cg, e, _⟩ := own_some ho (by omega)
              cases e
              have hjr : j < S.res.length := by rw [HAE.out.len]; simpa using hj
              have hz : S.res[j]? = some S.res[j] := List.getElem?_eq_getElem hjr
              refine ⟨gr, S.res[j], rfl, hz, fun q hq => ?_, own_cell ho (p := j * 5 + 0) (flat_at rzc_len S.res j 0 _ hz (by decide)), own_cell ho (flat_at rzc_len S.res j 1 _ hz (by decide)), own_cell ho (flat_at rzc_len S.res j 2 _ hz (by decide)), own_cell ho (flat_at rzc_len S.res j 3 _ hz (by decide)), own_cell ho (flat_at rzc_len S.res j 4 _ hz (by decide))⟩
              have h1 : (S.res.map (·.1))[j]? = ((ps.map (·.1)).map (·.run))[j]? := by rw [HAE.out.run]
              simpa [hz, hq] using h1)
            have HNW : Hid (∀ wr, Touch [] w8 wr → Calls Tryd.prog 24 #[.pointer (some ⟨c, 0, none⟩)] wr fun e w' => e = .returned (.int .i64 (satsum H)) ∧ w' = wr) := hid (fun wr T => by
              have := Cl.now14 wr c F2 cs ((HCK.out.keep0 T8.out).keep0 T)
              rw [HAE.out.now] at this
              exact this)
            have HAL : Hid (∀ (wr : World) (j : Nat) (q : Ip) (ad : Option Addr) (cd : Nat) (x : Oc × Int), Touch [] w wr → ps[j]? = some q → q.2 = .slice ad q.1.L.length cd → H[j]? = some x → Calls Tryd.prog 23 #[.slice ad q.1.L.length cd, .agg #[.int .u16 q.1.sp, .string q.1.nm, .int .i64 q.1.run, .bool false]] wr fun e w' => e = .returned (.tuple #[.agg #[.int .i64 x.1.1, .int .i64 x.1.2.1, .int .i64 x.1.2.2.1, .int .i64 x.1.2.2.2], .int .i64 x.2, .int .i64 0]) ∧ Touch [] wr w') := hid (fun wr j q ad cd x T hq e2 hx => by
              have hm : q ∈ ps := List.mem_of_getElem? hq
              refine (alone_ok (w := wr) (q := q) (ad := ad) (cd := cd) (HK.out _ T) ((HITS.out.sv q hm).keep0 T) e2 (HOKS.out q hm)).mono ?_
              rintro e w' ⟨y, hy, rfl, t⟩
              have hc : Comes q.1 x := HAE.out.al j q.1 x (by simp [hq]) hx
              rw [Comes.eq hy hc]
              exact ⟨rfl, t⟩)
            have HPOS : Hid (∀ x ∈ H, 0 ≤ x.2) := hid (fun x hx => by
              obtain ⟨i, hi, rfl⟩ := List.getElem_of_mem hx
              have hix : i < ps.length := by have := HAE.out.hl; simp at this; omega
              exact (HAE.out.al i ps[i].1 _ (by simp [hix]) (List.getElem?_eq_getElem hi)).2.1)
            clear O8 HRS HO HCW HCK T8
            cases pk with
            | none =>
              go_loopw [12, 96] (fun s12 s96 wr => ∃ i : Nat, s12 = .int .i64 (satsum (H.take i)) ∧ s96 = .int .i64 i ∧ i ≤ ps.length ∧ Hid (Touch [] w8 wr)) (fun _ s96 _ => ps.length - (intOf s96).toNat)
              case atStart => exact ⟨0, rfl, rfl, Nat.zero_le _, Touch.refl _ _⟩
              case round =>
                obtain ⟨i, rfl, rfl, hi, HR⟩ := hrel
                by_cases hlt : i < ps.length
                · obtain ⟨x, hx⟩ : ∃ x, H[i]? = some x := ⟨H[i]'(by have := (HAE.out.none_ rfl).1; simp at this; omega), List.getElem?_eq_getElem _⟩
                  have HK2 : Hid (x.1.2.1 ≠ 2 ∧ ∃ z, S.res[i]? = some z ∧ z.2 = x.1) := hid ⟨(HAE.out.none_ rfl).2.1 x (List.mem_of_getElem? hx), (HAE.out.none_ rfl).2.2 i x hx⟩
                  obtain ⟨gr, z, rfl, hz, hzr, _⟩ := HRC.out wr i HR.out hlt
                  have zj : (i : Int) < (ps.length : Int) := by omega
                  have zg : ¬ (ps.length : Int) ≤ (i : Int) := by omega
                  obtain ⟨g0, off, q, ad, cd, rfl, hq, e2, hA⟩ := HIT.out wr i (HRT.out.trans' HR.out) hlt
                  have y0 := hA.c0
                  have y1 := hA.c1
                  have y2 := hA.c2
                  have y3 := hA.c3
                  have y4 := hA.c4
                  rw [e2] at y4
                  have HC : Hid (∀ V, Touch [] wr V → Calls Tryd.prog 23 #[.slice ad q.1.L.length cd, .agg #[.int .u16 q.1.sp, .string q.1.nm, .int .i64 q.1.run, .bool false]] V fun e w' => e = .returned (.tuple #[.agg #[.int .i64 x.1.1, .int .i64 x.1.2.1, .int .i64 x.1.2.2.1, .int .i64 x.1.2.2.2], .int .i64 x.2, .int .i64 0]) ∧ Touch [] V w') := hid (fun V TV => HAL.out V i q ad cd x ((HRT.out.trans' HR.out).trans' TV) hq e2 hx)
                  have HSS : Hid (satsum (H.take (i + 1)) = sat (satsum (H.take i)) x.2) := hid (take_sat hx)
                  have hx0 : 0 ≤ x.2 := HPOS.out x (List.mem_of_getElem? hx)
                  have hs01 := satsum_in (H := H.take i) (fun y hy => HPOS.out y (List.mem_of_mem_take hy))
                  obtain ⟨sl, hsl⟩ : ∃ sl, sl = satsum (H.take i) := ⟨_, rfl⟩
                  rw [← hsl] at HSS hs01
                  rw [← hsl]
                  have HSL0 := hid hsl
                  obtain ⟨hs0, hs1⟩ := hs01
                  have hx1 : x.2 ≤ 4611686018427387904 := by
                    have hc := HAE.out.al i q.1 x (by simp [hq]) hx
                    exact hc.2.2
                  have HQX := hid (And.intro hq hx)
                  clear hsl hA e2 hx hq
                  go_upto_region 28 with (go_at_call 23; refine (HC.out _ ((Touch.refl _ _).alloc _)).mono ?_; rintro e w2 ⟨rfl, t2⟩; have T2 := hid t2; clear t2)
                  have HV8 : Hid (Touch [] w8 w2) := hid ((HR.out.trans' ((Touch.refl _ _).alloc _)).trans' T2.out)
                  have HBI : Hid (∀ w', Touch [] w2 w' → w'.cell? ⟨wr.heap.size, 0, none⟩ = some (.int .i64 q.1.run)) := hid (fun w' T => cell_at ((T2.out.trans' T).keep (heap_alloc_new wr (.cells #[.int .i64 q.1.run, .int .u16 q.1.sp, .string q.1.nm, .int .i64 q.1.tok, .slice ad q.1.L.length cd] 33)) (by simp)) rfl)
                  obtain ⟨V, hV⟩ : ∃ V, V = w2.alloc (.cells #[.int .i64 x.1.1, .int .i64 x.1.2.1, .int .i64 x.1.2.2.1, .int .i64 x.1.2.2.2] 51) := ⟨_, rfl⟩
                  have HB21 : Hid (V.heap[w2.heap.size]? = some (.cells #[.int .i64 x.1.1, .int .i64 x.1.2.1, .int .i64 x.1.2.2.1, .int .i64 x.1.2.2.2] 51 (0, 0))) := hid (by rw [hV]; exact heap_alloc_new w2 _)
                  have HTV : Hid (Touch [] w2 V) := hid (by rw [hV]; exact (Touch.refl _ _).alloc _)
                  rw [← hV]
                  clear hV y0 y1 y2 y3 y4 HC
                  have hws : IntKind.i64.wrap (4611686018427387904 - sl) = 4611686018427387904 - sl := by rw [IntKind.wrap_i64]; omega
                  have k1 := cell_at (j := 1) (v := .int .i64 x.1.2.1) HB21.out rfl
                  have hz2 : z.2 = x.1 := by
                    obtain ⟨z', h1, h2⟩ := HK2.out.2
                    rw [hz] at h1
                    cases h1
                    exact h2
                  have HM : Hid (∀ w', Touch [] V w' → w'.cell? ⟨gr, i * 5, none⟩ = some (.int .i64 q.1.run) ∧ w'.cell? ⟨gr, i * 5 + 1, none⟩ = some (.int .i64 x.1.1) ∧ w'.cell? ⟨gr, i * 5 + 2, none⟩ = some (.int .i64 x.1.2.1) ∧ w'.cell? ⟨gr, i * 5 + 3, none⟩ = some (.int .i64 x.1.2.2.1) ∧ w'.cell? ⟨gr, i * 5 + 4, none⟩ = some (.int .i64 x.1.2.2.2)) := hid (fun w' T => by
                    obtain ⟨gr', z', e', hz', _, m0, m1, m2, m3, m4⟩ := HRC.out w' i ((HV8.out.trans' HTV.out).trans' T) hlt
                    cases e'
                    rw [hz] at hz'
                    cases hz'
                    rw [hz2] at m1 m2 m3 m4
                    rw [hzr q HQX.out.1] at m0
                    exact ⟨m0, m1, m2, m3, m4⟩)
                  have e3 : (x.1.2.1 == 2) = false := by simpa using HK2.out.1
                  clear hz2 hz hzr

                  by_cases hc : 4611686018427387904 - sl < x.2
                  · have hst : sat sl x.2 = 4611686018427387904 := if_pos hc
                    rw [hst] at HSS
                    clear hst
                    go_upto_region 41 with fail
                    clear k1
                    have m0 : ∀ w', Touch [] V w' → w'.cell? ⟨gr, i * 5, none⟩ = some (.int .i64 q.1.run) := fun w' T => (HM.out w' T).1
                    have m1 : ∀ w', Touch [] V w' → w'.cell? ⟨gr, i * 5 + 1, none⟩ = some (.int .i64 x.1.1) := fun w' T => (HM.out w' T).2.1
                    have m2 : ∀ w', Touch [] V w' → w'.cell? ⟨gr, i * 5 + 2, none⟩ = some (.int .i64 x.1.2.1) := fun w' T => (HM.out w' T).2.2.1
                    have m3 : ∀ w', Touch [] V w' → w'.cell? ⟨gr, i * 5 + 3, none⟩ = some (.int .i64 x.1.2.2.1) := fun w' T => (HM.out w' T).2.2.2.1
                    have m4 : ∀ w', Touch [] V w' → w'.cell? ⟨gr, i * 5 + 4, none⟩ = some (.int .i64 x.1.2.2.2) := fun w' T => (HM.out w' T).2.2.2.2
                    have p0 : ∀ w', Touch [] V w' → w'.cell? ⟨w2.heap.size, 0, none⟩ = some (.int .i64 x.1.1) := fun w' T => cell_at (T.keep HB21.out (by simp)) rfl
                    have p1 : ∀ w', Touch [] V w' → w'.cell? ⟨w2.heap.size, 1, none⟩ = some (.int .i64 x.1.2.1) := fun w' T => cell_at (T.keep HB21.out (by simp)) rfl
                    have p2 : ∀ w', Touch [] V w' → w'.cell? ⟨w2.heap.size, 2, none⟩ = some (.int .i64 x.1.2.2.1) := fun w' T => cell_at (T.keep HB21.out (by simp)) rfl
                    have p3 : ∀ w', Touch [] V w' → w'.cell? ⟨w2.heap.size, 3, none⟩ = some (.int .i64 x.1.2.2.2) := fun w' T => cell_at (T.keep HB21.out (by simp)) rfl
                    have y0 : ∀ w', Touch [] V w' → w'.cell? ⟨wr.heap.size, 0, none⟩ = some (.int .i64 q.1.run) := fun w' T => HBI.out w' (HTV.out.trans' T)
                    have s0 : Touch [] V V.drew := (Touch.refl _ _).drew
                    clear HM HRC HIT HAL HNW HAE HPOS HITS
                    refine wp_region_H (S := fun w' => Touch [] V w') (by kernel_rfl) ?_
                    refine wpH_take (i := 0) (v := (.slice (some ⟨gr, 0, none⟩) ps.length c3)) (some 147) rfl rfl (by kernel_rfl) (by kernel_rfl) (by kernel_rfl) (fun _ _ _ h => h) (Or.inl ⟨by rfl, fun w' hS => (by go_simp)⟩) s0 ?_
                    try simp only [Go.Act.put, List.setIfInBounds_toArray, List.set_cons_zero, List.set_cons_succ]
                    refine wpH_take (i := 1) (v := (.int .i64 i)) (some 148) rfl rfl (by kernel_rfl) (by kernel_rfl) (by kernel_rfl) (fun _ _ _ h => h) (Or.inl ⟨by rfl, fun w' hS => (by go_simp)⟩) s0 ?_
                    try simp only [Go.Act.put, List.setIfInBounds_toArray, List.set_cons_zero, List.set_cons_succ]
                    refine wpH_take (i := 2) (v := (.pointer (some ⟨gr, i * 5, none⟩))) (some 149) rfl rfl (by kernel_rfl) (by kernel_rfl) (by kernel_rfl) (fun _ _ _ h => h) (Or.inl ⟨by rfl, fun w' hS => (by go_simp)⟩) s0 ?_
                    try simp only [Go.Act.put, List.setIfInBounds_toArray, List.set_cons_zero, List.set_cons_succ]
                    refine wpH_take (i := 3) (v := (.agg #[.int .i64 q.1.run, .int .i64 x.1.1, .int .i64 x.1.2.1, .int .i64 x.1.2.2.1, .int .i64 x.1.2.2.2])) (some 150) rfl rfl (by kernel_rfl) (by kernel_rfl) (by kernel_rfl) (fun _ _ _ h => h) (Or.inl ⟨by rfl, fun w' hS => (by have z0 := m0 _ hS; have z1 := m1 _ hS; have z2 := m2 _ hS; have z3 := m3 _ hS; have z4 := m4 _ hS; go_simp)⟩) s0 ?_
                    try simp only [Go.Act.put, List.setIfInBounds_toArray, List.set_cons_zero, List.set_cons_succ]
                    refine wpH_take (i := 4) (v := (.pointer (some ⟨wr.heap.size, 0, none⟩))) (some 151) rfl rfl (by kernel_rfl) (by kernel_rfl) (by kernel_rfl) (fun _ _ _ h => h) (Or.inl ⟨by rfl, fun w' hS => (by go_simp)⟩) s0 ?_
                    try simp only [Go.Act.put, List.setIfInBounds_toArray, List.set_cons_zero, List.set_cons_succ]
                    refine wpH_take (i := 5) (v := (.int .i64 q.1.run)) (some 152) rfl rfl (by kernel_rfl) (by kernel_rfl) (by kernel_rfl) (fun _ _ _ h => h) (Or.inl ⟨by rfl, fun w' hS => (by have z0 := y0 _ hS; go_simp)⟩) s0 ?_
                    try simp only [Go.Act.put, List.setIfInBounds_toArray, List.set_cons_zero, List.set_cons_succ]
                    refine wpH_take (i := 6) (v := (.agg #[.int .i64 x.1.1, .int .i64 x.1.2.1, .int .i64 x.1.2.2.1, .int .i64 x.1.2.2.2])) (some 153) rfl rfl (by kernel_rfl) (by kernel_rfl) (by kernel_rfl) (fun _ _ _ h => h) (Or.inl ⟨by rfl, fun w' hS => (by have z0 := p0 _ hS; have z1 := p1 _ hS; have z2 := p2 _ hS; have z3 := p3 _ hS; go_simp)⟩) s0 ?_
                    try simp only [Go.Act.put, List.setIfInBounds_toArray, List.set_cons_zero, List.set_cons_succ]
                    refine wpH_take (i := 7) (v := (.agg #[.int .i64 q.1.run, .int .i64 x.1.1, .int .i64 x.1.2.1, .int .i64 x.1.2.2.1, .int .i64 x.1.2.2.2])) (some 154) rfl rfl (by kernel_rfl) (by kernel_rfl) (by kernel_rfl) (fun _ _ _ h => h) (Or.inl ⟨by rfl, fun w' hS => (by go_simp)⟩) s0 ?_
                    try simp only [Go.Act.put, List.setIfInBounds_toArray, List.set_cons_zero, List.set_cons_succ]
                    refine wpH_take (i := 8) (v := (.bool false)) (some 155) rfl rfl (by kernel_rfl) (by kernel_rfl) (by kernel_rfl) (fun _ _ _ h => h) (Or.inl ⟨by rfl, fun w' hS => (by go_simp)⟩) s0 ?_
                    try simp only [Go.Act.put, List.setIfInBounds_toArray, List.set_cons_zero, List.set_cons_succ]
                    refine wpH_take (i := 9) (v := (.bool false)) (some 156) rfl rfl (by kernel_rfl) (by kernel_rfl) (by kernel_rfl) (fun _ _ _ h => h) (Or.inl ⟨by rfl, fun w' hS => (by go_simp)⟩) s0 ?_
                    try simp only [Go.Act.put, List.setIfInBounds_toArray, List.set_cons_zero, List.set_cons_succ]
                    refine wpH_take (i := 10) (v := undef) (some 157) rfl rfl (by kernel_rfl) (by kernel_rfl) (by kernel_rfl) (fun _ _ _ h => h) (Or.inr ⟨by rfl, rfl⟩) s0 ?_
                    try simp only [Go.Act.put, List.setIfInBounds_toArray, List.set_cons_zero, List.set_cons_succ]
                    refine wpH_take (i := 11) (v := undef) (some 158) rfl rfl (by kernel_rfl) (by kernel_rfl) (by kernel_rfl) (fun _ _ _ h => h) (Or.inr ⟨by rfl, rfl⟩) s0 ?_
                    try simp only [Go.Act.put, List.setIfInBounds_toArray, List.set_cons_zero, List.set_cons_succ]
                    refine wpH_take (i := 12) (v := undef) (some 159) rfl rfl (by kernel_rfl) (by kernel_rfl) (by kernel_rfl) (fun _ _ _ h => h) (Or.inr ⟨by rfl, rfl⟩) s0 ?_
                    try simp only [Go.Act.put, List.setIfInBounds_toArray, List.set_cons_zero, List.set_cons_succ]
                    refine wpH_take (i := 13) (v := undef) (some 160) rfl rfl (by kernel_rfl) (by kernel_rfl) (by kernel_rfl) (fun _ _ _ h => h) (Or.inr ⟨by rfl, rfl⟩) s0 ?_
                    try simp only [Go.Act.put, List.setIfInBounds_toArray, List.set_cons_zero, List.set_cons_succ]
                    refine wpH_take (i := 14) (v := undef) (some 161) rfl rfl (by kernel_rfl) (by kernel_rfl) (by kernel_rfl) (fun _ _ _ h => h) (Or.inr ⟨by rfl, rfl⟩) s0 ?_
                    try simp only [Go.Act.put, List.setIfInBounds_toArray, List.set_cons_zero, List.set_cons_succ]
                    refine wpH_take (i := 15) (v := (.bool false)) (some 162) rfl rfl (by kernel_rfl) (by kernel_rfl) (by kernel_rfl) (fun _ _ _ h => h) (Or.inl ⟨by rfl, fun w' hS => (by go_simp)⟩) s0 ?_
                    try simp only [Go.Act.put, List.setIfInBounds_toArray, List.set_cons_zero, List.set_cons_succ]
                    refine wpAnyH_done (by kernel_rfl) ?_ _
                    have hYY := s0
                    go_wp2
                    go_roundw
                    case rel => exact ⟨i + 1, by rw [HSS.out], by go_num, by omega, (HV8.out.trans' HTV.out).trans' hYY⟩
                    case measure => simp [intOf]; omega
                  · have hst : sat sl x.2 = sl + x.2 := if_neg hc
                    have hwa : IntKind.i64.wrap (sl + x.2) = sl + x.2 := by rw [IntKind.wrap_i64]; omega
                    rw [hst] at HSS
                    clear hst
                    go_upto_region 41 with fail
                    clear k1
                    have m0 : ∀ w', Touch [] V w' → w'.cell? ⟨gr, i * 5, none⟩ = some (.int .i64 q.1.run) := fun w' T => (HM.out w' T).1
                    have m1 : ∀ w', Touch [] V w' → w'.cell? ⟨gr, i * 5 + 1, none⟩ = some (.int .i64 x.1.1) := fun w' T => (HM.out w' T).2.1
                    have m2 : ∀ w', Touch [] V w' → w'.cell? ⟨gr, i * 5 + 2, none⟩ = some (.int .i64 x.1.2.1) := fun w' T => (HM.out w' T).2.2.1
                    have m3 : ∀ w', Touch [] V w' → w'.cell? ⟨gr, i * 5 + 3, none⟩ = some (.int .i64 x.1.2.2.1) := fun w' T => (HM.out w' T).2.2.2.1
                    have m4 : ∀ w', Touch [] V w' → w'.cell? ⟨gr, i * 5 + 4, none⟩ = some (.int .i64 x.1.2.2.2) := fun w' T => (HM.out w' T).2.2.2.2
                    have p0 : ∀ w', Touch [] V w' → w'.cell? ⟨w2.heap.size, 0, none⟩ = some (.int .i64 x.1.1) := fun w' T => cell_at (T.keep HB21.out (by simp)) rfl
                    have p1 : ∀ w', Touch [] V w' → w'.cell? ⟨w2.heap.size, 1, none⟩ = some (.int .i64 x.1.2.1) := fun w' T => cell_at (T.keep HB21.out (by simp)) rfl
                    have p2 : ∀ w', Touch [] V w' → w'.cell? ⟨w2.heap.size, 2, none⟩ = some (.int .i64 x.1.2.2.1) := fun w' T => cell_at (T.keep HB21.out (by simp)) rfl
                    have p3 : ∀ w', Touch [] V w' → w'.cell? ⟨w2.heap.size, 3, none⟩ = some (.int .i64 x.1.2.2.2) := fun w' T => cell_at (T.keep HB21.out (by simp)) rfl
                    have y0 : ∀ w', Touch [] V w' → w'.cell? ⟨wr.heap.size, 0, none⟩ = some (.int .i64 q.1.run) := fun w' T => HBI.out w' (HTV.out.trans' T)
                    have s0 : Touch [] V V.drew := (Touch.refl _ _).drew
                    clear HM HRC HIT HAL HNW HAE HPOS HITS
                    refine wp_region_H (S := fun w' => Touch [] V w') (by kernel_rfl) ?_
                    refine wpH_take (i := 0) (v := (.slice (some ⟨gr, 0, none⟩) ps.length c3)) (some 147) rfl rfl (by kernel_rfl) (by kernel_rfl) (by kernel_rfl) (fun _ _ _ h => h) (Or.inl ⟨by rfl, fun w' hS => (by go_simp)⟩) s0 ?_
                    try simp only [Go.Act.put, List.setIfInBounds_toArray, List.set_cons_zero, List.set_cons_succ]
                    refine wpH_take (i := 1) (v := (.int .i64 i)) (some 148) rfl rfl (by kernel_rfl) (by kernel_rfl) (by kernel_rfl) (fun _ _ _ h => h) (Or.inl ⟨by rfl, fun w' hS => (by go_simp)⟩) s0 ?_
                    try simp only [Go.Act.put, List.setIfInBounds_toArray, List.set_cons_zero, List.set_cons_succ]
                    refine wpH_take (i := 2) (v := (.pointer (some ⟨gr, i * 5, none⟩))) (some 149) rfl rfl (by kernel_rfl) (by kernel_rfl) (by kernel_rfl) (fun _ _ _ h => h) (Or.inl ⟨by rfl, fun w' hS => (by go_simp)⟩) s0 ?_
                    try simp only [Go.Act.put, List.setIfInBounds_toArray, List.set_cons_zero, List.set_cons_succ]
                    refine wpH_take (i := 3) (v := (.agg #[.int .i64 q.1.run, .int .i64 x.1.1, .int .i64 x.1.2.1, .int .i64 x.1.2.2.1, .int .i64 x.1.2.2.2])) (some 150) rfl rfl (by kernel_rfl) (by kernel_rfl) (by kernel_rfl) (fun _ _ _ h => h) (Or.inl ⟨by rfl, fun w' hS => (by have z0 := m0 _ hS; have z1 := m1 _ hS; have z2 := m2 _ hS; have z3 := m3 _ hS; have z4 := m4 _ hS; go_simp)⟩) s0 ?_
                    try simp only [Go.Act.put, List.setIfInBounds_toArray, List.set_cons_zero, List.set_cons_succ]
                    refine wpH_take (i := 4) (v := (.pointer (some ⟨wr.heap.size, 0, none⟩))) (some 151) rfl rfl (by kernel_rfl) (by kernel_rfl) (by kernel_rfl) (fun _ _ _ h => h) (Or.inl ⟨by rfl, fun w' hS => (by go_simp)⟩) s0 ?_
                    try simp only [Go.Act.put, List.setIfInBounds_toArray, List.set_cons_zero, List.set_cons_succ]
                    refine wpH_take (i := 5) (v := (.int .i64 q.1.run)) (some 152) rfl rfl (by kernel_rfl) (by kernel_rfl) (by kernel_rfl) (fun _ _ _ h => h) (Or.inl ⟨by rfl, fun w' hS => (by have z0 := y0 _ hS; go_simp)⟩) s0 ?_
                    try simp only [Go.Act.put, List.setIfInBounds_toArray, List.set_cons_zero, List.set_cons_succ]
                    refine wpH_take (i := 6) (v := (.agg #[.int .i64 x.1.1, .int .i64 x.1.2.1, .int .i64 x.1.2.2.1, .int .i64 x.1.2.2.2])) (some 153) rfl rfl (by kernel_rfl) (by kernel_rfl) (by kernel_rfl) (fun _ _ _ h => h) (Or.inl ⟨by rfl, fun w' hS => (by have z0 := p0 _ hS; have z1 := p1 _ hS; have z2 := p2 _ hS; have z3 := p3 _ hS; go_simp)⟩) s0 ?_
                    try simp only [Go.Act.put, List.setIfInBounds_toArray, List.set_cons_zero, List.set_cons_succ]
                    refine wpH_take (i := 7) (v := (.agg #[.int .i64 q.1.run, .int .i64 x.1.1, .int .i64 x.1.2.1, .int .i64 x.1.2.2.1, .int .i64 x.1.2.2.2])) (some 154) rfl rfl (by kernel_rfl) (by kernel_rfl) (by kernel_rfl) (fun _ _ _ h => h) (Or.inl ⟨by rfl, fun w' hS => (by go_simp)⟩) s0 ?_
                    try simp only [Go.Act.put, List.setIfInBounds_toArray, List.set_cons_zero, List.set_cons_succ]
                    refine wpH_take (i := 8) (v := (.bool false)) (some 155) rfl rfl (by kernel_rfl) (by kernel_rfl) (by kernel_rfl) (fun _ _ _ h => h) (Or.inl ⟨by rfl, fun w' hS => (by go_simp)⟩) s0 ?_
                    try simp only [Go.Act.put, List.setIfInBounds_toArray, List.set_cons_zero, List.set_cons_succ]
                    refine wpH_take (i := 9) (v := (.bool false)) (some 156) rfl rfl (by kernel_rfl) (by kernel_rfl) (by kernel_rfl) (fun _ _ _ h => h) (Or.inl ⟨by rfl, fun w' hS => (by go_simp)⟩) s0 ?_
                    try simp only [Go.Act.put, List.setIfInBounds_toArray, List.set_cons_zero, List.set_cons_succ]
                    refine wpH_take (i := 10) (v := undef) (some 157) rfl rfl (by kernel_rfl) (by kernel_rfl) (by kernel_rfl) (fun _ _ _ h => h) (Or.inr ⟨by rfl, rfl⟩) s0 ?_
                    try simp only [Go.Act.put, List.setIfInBounds_toArray, List.set_cons_zero, List.set_cons_succ]
                    refine wpH_take (i := 11) (v := undef) (some 158) rfl rfl (by kernel_rfl) (by kernel_rfl) (by kernel_rfl) (fun _ _ _ h => h) (Or.inr ⟨by rfl, rfl⟩) s0 ?_
                    try simp only [Go.Act.put, List.setIfInBounds_toArray, List.set_cons_zero, List.set_cons_succ]
                    refine wpH_take (i := 12) (v := undef) (some 159) rfl rfl (by kernel_rfl) (by kernel_rfl) (by kernel_rfl) (fun _ _ _ h => h) (Or.inr ⟨by rfl, rfl⟩) s0 ?_
                    try simp only [Go.Act.put, List.setIfInBounds_toArray, List.set_cons_zero, List.set_cons_succ]
                    refine wpH_take (i := 13) (v := undef) (some 160) rfl rfl (by kernel_rfl) (by kernel_rfl) (by kernel_rfl) (fun _ _ _ h => h) (Or.inr ⟨by rfl, rfl⟩) s0 ?_
                    try simp only [Go.Act.put, List.setIfInBounds_toArray, List.set_cons_zero, List.set_cons_succ]
                    refine wpH_take (i := 14) (v := undef) (some 161) rfl rfl (by kernel_rfl) (by kernel_rfl) (by kernel_rfl) (fun _ _ _ h => h) (Or.inr ⟨by rfl, rfl⟩) s0 ?_
                    try simp only [Go.Act.put, List.setIfInBounds_toArray, List.set_cons_zero, List.set_cons_succ]
                    refine wpH_take (i := 15) (v := (.bool false)) (some 162) rfl rfl (by kernel_rfl) (by kernel_rfl) (by kernel_rfl) (fun _ _ _ h => h) (Or.inl ⟨by rfl, fun w' hS => (by go_simp)⟩) s0 ?_
                    try simp only [Go.Act.put, List.setIfInBounds_toArray, List.set_cons_zero, List.set_cons_succ]
                    refine wpAnyH_done (by kernel_rfl) ?_ _
                    have hYY := s0
                    go_wp2
                    go_roundw
                    case rel => exact ⟨i + 1, by rw [HSS.out], by go_num, by omega, (HV8.out.trans' HTV.out).trans' hYY⟩
                    case measure => simp [intOf]; omega
                · have zj : ¬ (i : Int) < (ps.length : Int) := by omega
                  have hts : satsum (H.take i) = satsum H := by rw [List.take_of_length_le (by have := (HAE.out.none_ rfl).1; simp at this; omega)]
                  rw [hts]
                  have HN9 := hid (HNW.out _ HR.out)
                  go_wp2_with (go_at_call 24; refine HN9.out.mono ?_; rintro e w9 ⟨rfl, rfl⟩)
                  go_ret
                  exact ⟨by simp, HRT.out.trans' HR.out⟩
            | some o =>
              obtain ⟨ho2, ⟨H0, s0, eH, hH0⟩, hzo⟩ := HAE.out.some_ o rfl
              have HEH : Hid (H = H0 ++ [(o, s0)]) := hid eH
              have hHl : H0.length < ps.length := by have := HAE.out.hl; rw [eH] at this; simp at this; omega
              have HO2 := hid ho2
              have HH0 := hid hH0
              have HZO := hid hzo
              clear ho2 eH hH0 hzo
              go_loopw [12, 96] (fun s12 s96 wr => ∃ i : Nat, s12 = .int .i64 (satsum (H.take i)) ∧ s96 = .int .i64 i ∧ i ≤ H0.length ∧ Hid (Touch [] w8 wr)) (fun _ s96 _ => ps.length - (intOf s96).toNat)
              case atStart => exact ⟨0, rfl, rfl, Nat.zero_le _, Touch.refl _ _⟩
              case round =>
                obtain ⟨i, rfl, rfl, hi, HR⟩ := hrel
                have hlt : i < ps.length := by omega
                by_cases hp : i < H0.length
                · obtain ⟨x, hx, hx2⟩ : ∃ x, H[i]? = some x ∧ x.1.2.1 ≠ 2 := ⟨H0[i], by rw [HEH.out, List.getElem?_append_left hp]; exact List.getElem?_eq_getElem hp, HH0.out _ (List.getElem_mem hp)⟩
                  obtain ⟨gr, z, rfl, hz, hzr, _⟩ := HRC.out wr i HR.out hlt
                  have zj : (i : Int) < (ps.length : Int) := by omega
                  have zg : ¬ (ps.length : Int) ≤ (i : Int) := by omega
                  obtain ⟨g0, off, q, ad, cd, rfl, hq, e2, hA⟩ := HIT.out wr i (HRT.out.trans' HR.out) hlt
                  have y0 := hA.c0
                  have y1 := hA.c1
                  have y2 := hA.c2
                  have y3 := hA.c3
                  have y4 := hA.c4
                  rw [e2] at y4
                  have HC : Hid (∀ V, Touch [] wr V → Calls Tryd.prog 23 #[.slice ad q.1.L.length cd, .agg #[.int .u16 q.1.sp, .string q.1.nm, .int .i64 q.1.run, .bool false]] V fun e w' => e = .returned (.tuple #[.agg #[.int .i64 x.1.1, .int .i64 x.1.2.1, .int .i64 x.1.2.2.1, .int .i64 x.1.2.2.2], .int .i64 x.2, .int .i64 0]) ∧ Touch [] V w') := hid (fun V TV => HAL.out V i q ad cd x ((HRT.out.trans' HR.out).trans' TV) hq e2 hx)
                  have HSS : Hid (satsum (H.take (i + 1)) = sat (satsum (H.take i)) x.2) := hid (take_sat hx)
                  have hx0 : 0 ≤ x.2 := HPOS.out x (List.mem_of_getElem? hx)
                  have hs01 := satsum_in (H := H.take i) (fun y hy => HPOS.out y (List.mem_of_mem_take hy))
                  obtain ⟨sl, hsl⟩ : ∃ sl, sl = satsum (H.take i) := ⟨_, rfl⟩
                  rw [← hsl] at HSS hs01
                  rw [← hsl]
                  have HSL0 := hid hsl
                  obtain ⟨hs0, hs1⟩ := hs01
                  have hx1 : x.2 ≤ 4611686018427387904 := by
                    have hc := HAE.out.al i q.1 x (by simp [hq]) hx
                    exact hc.2.2
                  have HQX := hid (And.intro hq hx)
                  clear hsl hA e2 hx hq
                  go_upto_region 28 with (go_at_call 23; refine (HC.out _ ((Touch.refl _ _).alloc _)).mono ?_; rintro e w2 ⟨rfl, t2⟩; have T2 := hid t2; clear t2)
                  have HV8 : Hid (Touch [] w8 w2) := hid ((HR.out.trans' ((Touch.refl _ _).alloc _)).trans' T2.out)
                  have HBI : Hid (∀ w', Touch [] w2 w' → w'.cell? ⟨wr.heap.size, 0, none⟩ = some (.int .i64 q.1.run)) := hid (fun w' T => cell_at ((T2.out.trans' T).keep (heap_alloc_new wr (.cells #[.int .i64 q.1.run, .int .u16 q.1.sp, .string q.1.nm, .int .i64 q.1.tok, .slice ad q.1.L.length cd] 33)) (by simp)) rfl)
                  obtain ⟨V, hV⟩ : ∃ V, V = w2.alloc (.cells #[.int .i64 x.1.1, .int .i64 x.1.2.1, .int .i64 x.1.2.2.1, .int .i64 x.1.2.2.2] 51) := ⟨_, rfl⟩
                  have HB21 : Hid (V.heap[w2.heap.size]? = some (.cells #[.int .i64 x.1.1, .int .i64 x.1.2.1, .int .i64 x.1.2.2.1, .int .i64 x.1.2.2.2] 51 (0, 0))) := hid (by rw [hV]; exact heap_alloc_new w2 _)
                  have HTV : Hid (Touch [] w2 V) := hid (by rw [hV]; exact (Touch.refl _ _).alloc _)
                  rw [← hV]
                  clear hV y0 y1 y2 y3 y4 HC
                  have hws : IntKind.i64.wrap (4611686018427387904 - sl) = 4611686018427387904 - sl := by rw [IntKind.wrap_i64]; omega
                  have k1 := cell_at (j := 1) (v := .int .i64 x.1.2.1) HB21.out rfl
                  have hz2 : z.2 = o := HZO.out z (List.mem_of_getElem? hz)
                  have HM : Hid (∀ w', Touch [] V w' → w'.cell? ⟨gr, i * 5, none⟩ = some (.int .i64 q.1.run) ∧ w'.cell? ⟨gr, i * 5 + 1, none⟩ = some (.int .i64 o.1) ∧ w'.cell? ⟨gr, i * 5 + 2, none⟩ = some (.int .i64 o.2.1) ∧ w'.cell? ⟨gr, i * 5 + 3, none⟩ = some (.int .i64 o.2.2.1) ∧ w'.cell? ⟨gr, i * 5 + 4, none⟩ = some (.int .i64 o.2.2.2)) := hid (fun w' T => by
                    obtain ⟨gr', z', e', hz', _, m0, m1, m2, m3, m4⟩ := HRC.out w' i ((HV8.out.trans' HTV.out).trans' T) hlt
                    cases e'
                    rw [hz] at hz'
                    cases hz'
                    rw [hz2] at m1 m2 m3 m4
                    rw [hzr q HQX.out.1] at m0
                    exact ⟨m0, m1, m2, m3, m4⟩)
                  have e3 : (x.1.2.1 == 2) = false := by simpa using hx2
                  have e4 : (o.2.1 == x.1.2.1) = false := by
                    have := HO2.out
                    simp
                    omega
                  have HP : Hid (∀ w', Touch [] V w' → Calls Tryd.prog 25 #[.slice (some (if c0 = i then ⟨g0, off, none⟩ else ⟨g0, off + i * 5, none⟩)) (ps.length - i) (c0 - i)] w' fun e w2 => e = .returned (.bool true) ∧ Touch [] V w2) := hid (fun w' T => by
                    have TT : Touch [] w w' := ((HRT.out.trans' HV8.out).trans' HTV.out).trans' T
                    have hit := Its.drop (HITS.out.keep0 TT) i (by omega)
                    refine (panics25_ w' _ (ps.drop i) (HK.out _ TT) hit (by simp; omega) (fun q hq => HOKS.out q (List.mem_of_mem_drop hq)) ?_).mono ?_
                    · refine ⟨ps[H0.length], List.mem_of_getElem? (i := H0.length - i) ?_, (o, s0), HAE.out.al H0.length _ _ (by simp [hHl]) (by rw [HEH.out]; simp), HO2.out⟩
                      rw [List.getElem?_drop, show i + (H0.length - i) = H0.length by omega]
                      exact List.getElem?_eq_getElem hHl
                    · rintro e w3 ⟨rfl, t⟩
                      exact ⟨rfl, T.trans' t⟩)
                  have HSL := hid (fun W => sl5 W g0 off ps.length c0 i (by omega))
                  clear hz2 hz hzr hx2

                  by_cases hc : 4611686018427387904 - sl < x.2
                  · have hst : sat sl x.2 = 4611686018427387904 := if_pos hc
                    rw [hst] at HSS
                    clear hst
                    go_upto_region 41 with fail
                    clear k1
                    have m0 : ∀ w', Touch [] V w' → w'.cell? ⟨gr, i * 5, none⟩ = some (.int .i64 q.1.run) := fun w' T => (HM.out w' T).1
                    have m1 : ∀ w', Touch [] V w' → w'.cell? ⟨gr, i * 5 + 1, none⟩ = some (.int .i64 o.1) := fun w' T => (HM.out w' T).2.1
                    have m2 : ∀ w', Touch [] V w' → w'.cell? ⟨gr, i * 5 + 2, none⟩ = some (.int .i64 o.2.1) := fun w' T => (HM.out w' T).2.2.1
                    have m3 : ∀ w', Touch [] V w' → w'.cell? ⟨gr, i * 5 + 3, none⟩ = some (.int .i64 o.2.2.1) := fun w' T => (HM.out w' T).2.2.2.1
                    have m4 : ∀ w', Touch [] V w' → w'.cell? ⟨gr, i * 5 + 4, none⟩ = some (.int .i64 o.2.2.2) := fun w' T => (HM.out w' T).2.2.2.2
                    have p0 : ∀ w', Touch [] V w' → w'.cell? ⟨w2.heap.size, 0, none⟩ = some (.int .i64 x.1.1) := fun w' T => cell_at (T.keep HB21.out (by simp)) rfl
                    have p1 : ∀ w', Touch [] V w' → w'.cell? ⟨w2.heap.size, 1, none⟩ = some (.int .i64 x.1.2.1) := fun w' T => cell_at (T.keep HB21.out (by simp)) rfl
                    have p2 : ∀ w', Touch [] V w' → w'.cell? ⟨w2.heap.size, 2, none⟩ = some (.int .i64 x.1.2.2.1) := fun w' T => cell_at (T.keep HB21.out (by simp)) rfl
                    have p3 : ∀ w', Touch [] V w' → w'.cell? ⟨w2.heap.size, 3, none⟩ = some (.int .i64 x.1.2.2.2) := fun w' T => cell_at (T.keep HB21.out (by simp)) rfl
                    have y0 : ∀ w', Touch [] V w' → w'.cell? ⟨wr.heap.size, 0, none⟩ = some (.int .i64 q.1.run) := fun w' T => HBI.out w' (HTV.out.trans' T)
                    have s0 : Touch [] V V.drew := (Touch.refl _ _).drew
                    clear HM HRC HIT HAL HNW HAE HPOS HITS
                    refine wp_region_H (S := fun w' => Touch [] V w') (by kernel_rfl) ?_
                    refine wpH_take (i := 0) (v := (.slice (some ⟨gr, 0, none⟩) ps.length c3)) (some 147) rfl rfl (by kernel_rfl) (by kernel_rfl) (by kernel_rfl) (fun _ _ _ h => h) (Or.inl ⟨by rfl, fun w' hS => (by go_simp)⟩) s0 ?_
                    try simp only [Go.Act.put, List.setIfInBounds_toArray, List.set_cons_zero, List.set_cons_succ]
                    refine wpH_take (i := 1) (v := (.int .i64 i)) (some 148) rfl rfl (by kernel_rfl) (by kernel_rfl) (by kernel_rfl) (fun _ _ _ h => h) (Or.inl ⟨by rfl, fun w' hS => (by go_simp)⟩) s0 ?_
                    try simp only [Go.Act.put, List.setIfInBounds_toArray, List.set_cons_zero, List.set_cons_succ]
                    refine wpH_take (i := 2) (v := (.pointer (some ⟨gr, i * 5, none⟩))) (some 149) rfl rfl (by kernel_rfl) (by kernel_rfl) (by kernel_rfl) (fun _ _ _ h => h) (Or.inl ⟨by rfl, fun w' hS => (by go_simp)⟩) s0 ?_
                    try simp only [Go.Act.put, List.setIfInBounds_toArray, List.set_cons_zero, List.set_cons_succ]
                    refine wpH_take (i := 3) (v := (.agg #[.int .i64 q.1.run, .int .i64 o.1, .int .i64 o.2.1, .int .i64 o.2.2.1, .int .i64 o.2.2.2])) (some 150) rfl rfl (by kernel_rfl) (by kernel_rfl) (by kernel_rfl) (fun _ _ _ h => h) (Or.inl ⟨by rfl, fun w' hS => (by have z0 := m0 _ hS; have z1 := m1 _ hS; have z2 := m2 _ hS; have z3 := m3 _ hS; have z4 := m4 _ hS; go_simp)⟩) s0 ?_
                    try simp only [Go.Act.put, List.setIfInBounds_toArray, List.set_cons_zero, List.set_cons_succ]
                    refine wpH_take (i := 4) (v := (.pointer (some ⟨wr.heap.size, 0, none⟩))) (some 151) rfl rfl (by kernel_rfl) (by kernel_rfl) (by kernel_rfl) (fun _ _ _ h => h) (Or.inl ⟨by rfl, fun w' hS => (by go_simp)⟩) s0 ?_
                    try simp only [Go.Act.put, List.setIfInBounds_toArray, List.set_cons_zero, List.set_cons_succ]
                    refine wpH_take (i := 5) (v := (.int .i64 q.1.run)) (some 152) rfl rfl (by kernel_rfl) (by kernel_rfl) (by kernel_rfl) (fun _ _ _ h => h) (Or.inl ⟨by rfl, fun w' hS => (by have z0 := y0 _ hS; go_simp)⟩) s0 ?_
                    try simp only [Go.Act.put, List.setIfInBounds_toArray, List.set_cons_zero, List.set_cons_succ]
                    refine wpH_take (i := 6) (v := (.agg #[.int .i64 x.1.1, .int .i64 x.1.2.1, .int .i64 x.1.2.2.1, .int .i64 x.1.2.2.2])) (some 153) rfl rfl (by kernel_rfl) (by kernel_rfl) (by kernel_rfl) (fun _ _ _ h => h) (Or.inl ⟨by rfl, fun w' hS => (by have z0 := p0 _ hS; have z1 := p1 _ hS; have z2 := p2 _ hS; have z3 := p3 _ hS; go_simp)⟩) s0 ?_
                    try simp only [Go.Act.put, List.setIfInBounds_toArray, List.set_cons_zero, List.set_cons_succ]
                    refine wpH_take (i := 7) (v := (.agg #[.int .i64 q.1.run, .int .i64 x.1.1, .int .i64 x.1.2.1, .int .i64 x.1.2.2.1, .int .i64 x.1.2.2.2])) (some 154) rfl rfl (by kernel_rfl) (by kernel_rfl) (by kernel_rfl) (fun _ _ _ h => h) (Or.inl ⟨by rfl, fun w' hS => (by go_simp)⟩) s0 ?_
                    try simp only [Go.Act.put, List.setIfInBounds_toArray, List.set_cons_zero, List.set_cons_succ]
                    refine wpH_take (i := 8) (v := (.bool true)) (some 155) rfl rfl (by kernel_rfl) (by kernel_rfl) (by kernel_rfl) (fun _ _ _ h => h) (Or.inl ⟨by rfl, fun w' hS => (by go_simp)⟩) s0 ?_
                    try simp only [Go.Act.put, List.setIfInBounds_toArray, List.set_cons_zero, List.set_cons_succ]
                    refine wpH_take (i := 9) (v := (.bool true)) (some 156) rfl rfl (by kernel_rfl) (by kernel_rfl) (by kernel_rfl) (fun _ _ _ h => h) (Or.inl ⟨by rfl, fun w' hS => (by go_simp)⟩) s0 ?_
                    try simp only [Go.Act.put, List.setIfInBounds_toArray, List.set_cons_zero, List.set_cons_succ]
                    refine wpH_take (i := 10) (v := (.slice (some ⟨g0, off, none⟩) ps.length c0)) (some 157) rfl rfl (by kernel_rfl) (by kernel_rfl) (by kernel_rfl) (fun _ _ _ h => h) (Or.inl ⟨by rfl, fun w' hS => (by go_simp)⟩) s0 ?_
                    try simp only [Go.Act.put, List.setIfInBounds_toArray, List.set_cons_zero, List.set_cons_succ]
                    refine wpH_take (i := 11) (v := (.int .i64 i)) (some 158) rfl rfl (by kernel_rfl) (by kernel_rfl) (by kernel_rfl) (fun _ _ _ h => h) (Or.inl ⟨by rfl, fun w' hS => (by go_simp)⟩) s0 ?_
                    try simp only [Go.Act.put, List.setIfInBounds_toArray, List.set_cons_zero, List.set_cons_succ]
                    refine wpH_take (i := 12) (v := (.slice (some (if c0 = i then ⟨g0, off, none⟩ else ⟨g0, off + i * 5, none⟩)) (ps.length - i) (c0 - i))) (some 159) rfl rfl (by kernel_rfl) (by kernel_rfl) (by kernel_rfl) (fun _ _ _ h => h) (Or.inl ⟨by rfl, fun w' hS => (by have z := HSL.out w'; go_simp)⟩) s0 ?_
                    try simp only [Go.Act.put, List.setIfInBounds_toArray, List.set_cons_zero, List.set_cons_succ]
                    refine wpH_call (i := 13) (o := { dst := some 160, op := Op.call { callee := Callee.value (Operand.func 25), args := #[Operand.tmp 159], argTypes := #[22] }, type := 4, pos := _, after := #[{ on := 12, ground := Ground.data }, { on := 9, ground := Ground.chain }, { on := 9, ground := Ground.guard }], guard := some (9, true) }) (by kernel_rfl) rfl (fun K' hK => ?_)
                    rw [if_pos (by rfl)]
                    go_simp
                    refine (HP.out _ s0).mono ?_
                    rintro e' Y1 ⟨rfl, gY1⟩
                    have hY1 : Touch [] V Y1 := gY1
                    refine hK.out _ _ hY1 ?_
                    clear hK
                    try simp only [Go.Act.put, List.setIfInBounds_toArray, List.set_cons_zero, List.set_cons_succ]
                    refine wpH_take (i := 14) (v := (.bool false)) (some 161) rfl rfl (by kernel_rfl) (by kernel_rfl) (by kernel_rfl) (fun _ _ _ h => h) (Or.inl ⟨by rfl, fun w' hS => (by go_simp)⟩) hY1 ?_
                    try simp only [Go.Act.put, List.setIfInBounds_toArray, List.set_cons_zero, List.set_cons_succ]
                    refine wpH_take (i := 15) (v := (.bool false)) (some 162) rfl rfl (by kernel_rfl) (by kernel_rfl) (by kernel_rfl) (fun _ _ _ h => h) (Or.inl ⟨by rfl, fun w' hS => (by go_simp)⟩) hY1 ?_
                    try simp only [Go.Act.put, List.setIfInBounds_toArray, List.set_cons_zero, List.set_cons_succ]
                    refine wpAnyH_done (by kernel_rfl) ?_ _
                    have hYY := hY1
                    go_wp2
                    go_roundw
                    case rel => exact ⟨i + 1, by rw [HSS.out], by go_num, by omega, (HV8.out.trans' HTV.out).trans' hYY⟩
                    case measure => simp [intOf]; omega
                  · have hst : sat sl x.2 = sl + x.2 := if_neg hc
                    have hwa : IntKind.i64.wrap (sl + x.2) = sl + x.2 := by rw [IntKind.wrap_i64]; omega
                    rw [hst] at HSS
                    clear hst
                    go_upto_region 41 with fail
                    clear k1
                    have m0 : ∀ w', Touch [] V w' → w'.cell? ⟨gr, i * 5, none⟩ = some (.int .i64 q.1.run) := fun w' T => (HM.out w' T).1
                    have m1 : ∀ w', Touch [] V w' → w'.cell? ⟨gr, i * 5 + 1, none⟩ = some (.int .i64 o.1) := fun w' T => (HM.out w' T).2.1
                    have m2 : ∀ w', Touch [] V w' → w'.cell? ⟨gr, i * 5 + 2, none⟩ = some (.int .i64 o.2.1) := fun w' T => (HM.out w' T).2.2.1
                    have m3 : ∀ w', Touch [] V w' → w'.cell? ⟨gr, i * 5 + 3, none⟩ = some (.int .i64 o.2.2.1) := fun w' T => (HM.out w' T).2.2.2.1
                    have m4 : ∀ w', Touch [] V w' → w'.cell? ⟨gr, i * 5 + 4, none⟩ = some (.int .i64 o.2.2.2) := fun w' T => (HM.out w' T).2.2.2.2
                    have p0 : ∀ w', Touch [] V w' → w'.cell? ⟨w2.heap.size, 0, none⟩ = some (.int .i64 x.1.1) := fun w' T => cell_at (T.keep HB21.out (by simp)) rfl
                    have p1 : ∀ w', Touch [] V w' → w'.cell? ⟨w2.heap.size, 1, none⟩ = some (.int .i64 x.1.2.1) := fun w' T => cell_at (T.keep HB21.out (by simp)) rfl
                    have p2 : ∀ w', Touch [] V w' → w'.cell? ⟨w2.heap.size, 2, none⟩ = some (.int .i64 x.1.2.2.1) := fun w' T => cell_at (T.keep HB21.out (by simp)) rfl
                    have p3 : ∀ w', Touch [] V w' → w'.cell? ⟨w2.heap.size, 3, none⟩ = some (.int .i64 x.1.2.2.2) := fun w' T => cell_at (T.keep HB21.out (by simp)) rfl
                    have y0 : ∀ w', Touch [] V w' → w'.cell? ⟨wr.heap.size, 0, none⟩ = some (.int .i64 q.1.run) := fun w' T => HBI.out w' (HTV.out.trans' T)
                    have s0 : Touch [] V V.drew := (Touch.refl _ _).drew
                    clear HM HRC HIT HAL HNW HAE HPOS HITS
                    refine wp_region_H (S := fun w' => Touch [] V w') (by kernel_rfl) ?_
                    refine wpH_take (i := 0) (v := (.slice (some ⟨gr, 0, none⟩) ps.length c3)) (some 147) rfl rfl (by kernel_rfl) (by kernel_rfl) (by kernel_rfl) (fun _ _ _ h => h) (Or.inl ⟨by rfl, fun w' hS => (by go_simp)⟩) s0 ?_
                    try simp only [Go.Act.put, List.setIfInBounds_toArray, List.set_cons_zero, List.set_cons_succ]
                    refine wpH_take (i := 1) (v := (.int .i64 i)) (some 148) rfl rfl (by kernel_rfl) (by kernel_rfl) (by kernel_rfl) (fun _ _ _ h => h) (Or.inl ⟨by rfl, fun w' hS => (by go_simp)⟩) s0 ?_
                    try simp only [Go.Act.put, List.setIfInBounds_toArray, List.set_cons_zero, List.set_cons_succ]
                    refine wpH_take (i := 2) (v := (.pointer (some ⟨gr, i * 5, none⟩))) (some 149) rfl rfl (by kernel_rfl) (by kernel_rfl) (by kernel_rfl) (fun _ _ _ h => h) (Or.inl ⟨by rfl, fun w' hS => (by go_simp)⟩) s0 ?_
                    try simp only [Go.Act.put, List.setIfInBounds_toArray, List.set_cons_zero, List.set_cons_succ]
                    refine wpH_take (i := 3) (v := (.agg #[.int .i64 q.1.run, .int .i64 o.1, .int .i64 o.2.1, .int .i64 o.2.2.1, .int .i64 o.2.2.2])) (some 150) rfl rfl (by kernel_rfl) (by kernel_rfl) (by kernel_rfl) (fun _ _ _ h => h) (Or.inl ⟨by rfl, fun w' hS => (by have z0 := m0 _ hS; have z1 := m1 _ hS; have z2 := m2 _ hS; have z3 := m3 _ hS; have z4 := m4 _ hS; go_simp)⟩) s0 ?_
                    try simp only [Go.Act.put, List.setIfInBounds_toArray, List.set_cons_zero, List.set_cons_succ]
                    refine wpH_take (i := 4) (v := (.pointer (some ⟨wr.heap.size, 0, none⟩))) (some 151) rfl rfl (by kernel_rfl) (by kernel_rfl) (by kernel_rfl) (fun _ _ _ h => h) (Or.inl ⟨by rfl, fun w' hS => (by go_simp)⟩) s0 ?_
                    try simp only [Go.Act.put, List.setIfInBounds_toArray, List.set_cons_zero, List.set_cons_succ]
                    refine wpH_take (i := 5) (v := (.int .i64 q.1.run)) (some 152) rfl rfl (by kernel_rfl) (by kernel_rfl) (by kernel_rfl) (fun _ _ _ h => h) (Or.inl ⟨by rfl, fun w' hS => (by have z0 := y0 _ hS; go_simp)⟩) s0 ?_
                    try simp only [Go.Act.put, List.setIfInBounds_toArray, List.set_cons_zero, List.set_cons_succ]
                    refine wpH_take (i := 6) (v := (.agg #[.int .i64 x.1.1, .int .i64 x.1.2.1, .int .i64 x.1.2.2.1, .int .i64 x.1.2.2.2])) (some 153) rfl rfl (by kernel_rfl) (by kernel_rfl) (by kernel_rfl) (fun _ _ _ h => h) (Or.inl ⟨by rfl, fun w' hS => (by have z0 := p0 _ hS; have z1 := p1 _ hS; have z2 := p2 _ hS; have z3 := p3 _ hS; go_simp)⟩) s0 ?_
                    try simp only [Go.Act.put, List.setIfInBounds_toArray, List.set_cons_zero, List.set_cons_succ]
                    refine wpH_take (i := 7) (v := (.agg #[.int .i64 q.1.run, .int .i64 x.1.1, .int .i64 x.1.2.1, .int .i64 x.1.2.2.1, .int .i64 x.1.2.2.2])) (some 154) rfl rfl (by kernel_rfl) (by kernel_rfl) (by kernel_rfl) (fun _ _ _ h => h) (Or.inl ⟨by rfl, fun w' hS => (by go_simp)⟩) s0 ?_
                    try simp only [Go.Act.put, List.setIfInBounds_toArray, List.set_cons_zero, List.set_cons_succ]
                    refine wpH_take (i := 8) (v := (.bool true)) (some 155) rfl rfl (by kernel_rfl) (by kernel_rfl) (by kernel_rfl) (fun _ _ _ h => h) (Or.inl ⟨by rfl, fun w' hS => (by go_simp)⟩) s0 ?_
                    try simp only [Go.Act.put, List.setIfInBounds_toArray, List.set_cons_zero, List.set_cons_succ]
                    refine wpH_take (i := 9) (v := (.bool true)) (some 156) rfl rfl (by kernel_rfl) (by kernel_rfl) (by kernel_rfl) (fun _ _ _ h => h) (Or.inl ⟨by rfl, fun w' hS => (by go_simp)⟩) s0 ?_
                    try simp only [Go.Act.put, List.setIfInBounds_toArray, List.set_cons_zero, List.set_cons_succ]
                    refine wpH_take (i := 10) (v := (.slice (some ⟨g0, off, none⟩) ps.length c0)) (some 157) rfl rfl (by kernel_rfl) (by kernel_rfl) (by kernel_rfl) (fun _ _ _ h => h) (Or.inl ⟨by rfl, fun w' hS => (by go_simp)⟩) s0 ?_
                    try simp only [Go.Act.put, List.setIfInBounds_toArray, List.set_cons_zero, List.set_cons_succ]
                    refine wpH_take (i := 11) (v := (.int .i64 i)) (some 158) rfl rfl (by kernel_rfl) (by kernel_rfl) (by kernel_rfl) (fun _ _ _ h => h) (Or.inl ⟨by rfl, fun w' hS => (by go_simp)⟩) s0 ?_
                    try simp only [Go.Act.put, List.setIfInBounds_toArray, List.set_cons_zero, List.set_cons_succ]
                    refine wpH_take (i := 12) (v := (.slice (some (if c0 = i then ⟨g0, off, none⟩ else ⟨g0, off + i * 5, none⟩)) (ps.length - i) (c0 - i))) (some 159) rfl rfl (by kernel_rfl) (by kernel_rfl) (by kernel_rfl) (fun _ _ _ h => h) (Or.inl ⟨by rfl, fun w' hS => (by have z := HSL.out w'; go_simp)⟩) s0 ?_
                    try simp only [Go.Act.put, List.setIfInBounds_toArray, List.set_cons_zero, List.set_cons_succ]
                    refine wpH_call (i := 13) (o := { dst := some 160, op := Op.call { callee := Callee.value (Operand.func 25), args := #[Operand.tmp 159], argTypes := #[22] }, type := 4, pos := _, after := #[{ on := 12, ground := Ground.data }, { on := 9, ground := Ground.chain }, { on := 9, ground := Ground.guard }], guard := some (9, true) }) (by kernel_rfl) rfl (fun K' hK => ?_)
                    rw [if_pos (by rfl)]
                    go_simp
                    refine (HP.out _ s0).mono ?_
                    rintro e' Y1 ⟨rfl, gY1⟩
                    have hY1 : Touch [] V Y1 := gY1
                    refine hK.out _ _ hY1 ?_
                    clear hK
                    try simp only [Go.Act.put, List.setIfInBounds_toArray, List.set_cons_zero, List.set_cons_succ]
                    refine wpH_take (i := 14) (v := (.bool false)) (some 161) rfl rfl (by kernel_rfl) (by kernel_rfl) (by kernel_rfl) (fun _ _ _ h => h) (Or.inl ⟨by rfl, fun w' hS => (by go_simp)⟩) hY1 ?_
                    try simp only [Go.Act.put, List.setIfInBounds_toArray, List.set_cons_zero, List.set_cons_succ]
                    refine wpH_take (i := 15) (v := (.bool false)) (some 162) rfl rfl (by kernel_rfl) (by kernel_rfl) (by kernel_rfl) (fun _ _ _ h => h) (Or.inl ⟨by rfl, fun w' hS => (by go_simp)⟩) hY1 ?_
                    try simp only [Go.Act.put, List.setIfInBounds_toArray, List.set_cons_zero, List.set_cons_succ]
                    refine wpAnyH_done (by kernel_rfl) ?_ _
                    have hYY := hY1
                    go_wp2
                    go_roundw
                    case rel => exact ⟨i + 1, by rw [HSS.out], by go_num, by omega, (HV8.out.trans' HTV.out).trans' hYY⟩
                    case measure => simp [intOf]; omega
                · have ei : i = H0.length := by omega
                  obtain ⟨x, hx, hxo⟩ : ∃ x, H[i]? = some x ∧ x.1 = o := ⟨(o, s0), by rw [HEH.out, ei]; simp, rfl⟩
                  have HXO := hid hxo
                  clear hxo ei
                  have zj : (i : Int) < (ps.length : Int) := by omega
                  have zg : ¬ (ps.length : Int) ≤ (i : Int) := by omega
                  obtain ⟨g0, off, q, ad, cd, rfl, hq, e2, hA⟩ := HIT.out wr i (HRT.out.trans' HR.out) hlt
                  have y0 := hA.c0
                  have y1 := hA.c1
                  have y2 := hA.c2
                  have y3 := hA.c3
                  have y4 := hA.c4
                  rw [e2] at y4
                  have HC : Hid (∀ V, Touch [] wr V → Calls Tryd.prog 23 #[.slice ad q.1.L.length cd, .agg #[.int .u16 q.1.sp, .string q.1.nm, .int .i64 q.1.run, .bool false]] V fun e w' => e = .returned (.tuple #[.agg #[.int .i64 x.1.1, .int .i64 x.1.2.1, .int .i64 x.1.2.2.1, .int .i64 x.1.2.2.2], .int .i64 x.2, .int .i64 0]) ∧ Touch [] V w') := hid (fun V TV => HAL.out V i q ad cd x ((HRT.out.trans' HR.out).trans' TV) hq e2 hx)
                  have HSS : Hid (satsum (H.take (i + 1)) = sat (satsum (H.take i)) x.2) := hid (take_sat hx)
                  have hx0 : 0 ≤ x.2 := HPOS.out x (List.mem_of_getElem? hx)
                  have hs01 := satsum_in (H := H.take i) (fun y hy => HPOS.out y (List.mem_of_mem_take hy))
                  obtain ⟨sl, hsl⟩ : ∃ sl, sl = satsum (H.take i) := ⟨_, rfl⟩
                  rw [← hsl] at HSS hs01
                  rw [← hsl]
                  have HSL0 := hid hsl
                  obtain ⟨hs0, hs1⟩ := hs01
                  have hx1 : x.2 ≤ 4611686018427387904 := by
                    have hc := HAE.out.al i q.1 x (by simp [hq]) hx
                    exact hc.2.2
                  have HQX := hid (And.intro hq hx)
                  clear hsl hA e2 hx hq
                  go_upto_region 28 with (go_at_call 23; refine (HC.out _ ((Touch.refl _ _).alloc _)).mono ?_; rintro e w2 ⟨rfl, t2⟩; have T2 := hid t2; clear t2)
                  have HV8 : Hid (Touch [] w8 w2) := hid ((HR.out.trans' ((Touch.refl _ _).alloc _)).trans' T2.out)
                  have HBI : Hid (∀ w', Touch [] w2 w' → w'.cell? ⟨wr.heap.size, 0, none⟩ = some (.int .i64 q.1.run)) := hid (fun w' T => cell_at ((T2.out.trans' T).keep (heap_alloc_new wr (.cells #[.int .i64 q.1.run, .int .u16 q.1.sp, .string q.1.nm, .int .i64 q.1.tok, .slice ad q.1.L.length cd] 33)) (by simp)) rfl)
                  obtain ⟨V, hV⟩ : ∃ V, V = w2.alloc (.cells #[.int .i64 x.1.1, .int .i64 x.1.2.1, .int .i64 x.1.2.2.1, .int .i64 x.1.2.2.2] 51) := ⟨_, rfl⟩
                  have HB21 : Hid (V.heap[w2.heap.size]? = some (.cells #[.int .i64 x.1.1, .int .i64 x.1.2.1, .int .i64 x.1.2.2.1, .int .i64 x.1.2.2.2] 51 (0, 0))) := hid (by rw [hV]; exact heap_alloc_new w2 _)
                  have HTV : Hid (Touch [] w2 V) := hid (by rw [hV]; exact (Touch.refl _ _).alloc _)
                  rw [← hV]
                  clear hV y0 y1 y2 y3 y4 HC
                  have hws : IntKind.i64.wrap (4611686018427387904 - sl) = 4611686018427387904 - sl := by rw [IntKind.wrap_i64]; omega
                  have k1 := cell_at (j := 1) (v := .int .i64 x.1.2.1) HB21.out rfl
                  have HTS : Hid (satsum H = satsum (H.take (i + 1))) := hid (by rw [List.take_of_length_le (by rw [HEH.out]; simp; omega)])
                  have e3 : (x.1.2.1 == 2) = true := by
                    have := HO2.out
                    rw [HXO.out]
                    simpa using this
                  clear HIT HITS HAL HPOS

                  by_cases hc : 4611686018427387904 - sl < x.2
                  · have hst : sat sl x.2 = 4611686018427387904 := if_pos hc
                    rw [hst] at HSS
                    clear hst
                    rw [HSS.out] at HTS
                    go_upto_region 35 with fail
                    clear k1
                    go_loopw [134] (fun s134 wx => ∃ j : Nat, s134 = .int .i64 j ∧ j ≤ ps.length ∧ Hid (Touch [] V wx)) (fun s134 _ => ps.length - (intOf s134).toNat)
                    case atStart => exact ⟨0, rfl, Nat.zero_le _, Touch.refl _ _⟩
                    case round =>
                      obtain ⟨j, rfl, hj, HJ⟩ := hrel
                      by_cases hjl : j < ps.length
                      · have zj2 : (j : Int) < (ps.length : Int) := by omega
                        obtain ⟨gr, z, rfl, hz, _, m0, m1, m2, m3, m4⟩ := HRC.out _ j ((HV8.out.trans' HTV.out).trans' HJ.out) hjl
                        have hz2 : z.2 = x.1 := by rw [HXO.out]; exact HZO.out z (List.mem_of_getElem? hz)
                        rw [hz2] at m1 m2 m3 m4
                        have hb21 := HJ.out.keep HB21.out (by simp)
                        have p0 := cell_at (j := 0) (v := .int .i64 x.1.1) hb21 rfl
                        have p1 := cell_at (j := 1) (v := .int .i64 x.1.2.1) hb21 rfl
                        have p2 := cell_at (j := 2) (v := .int .i64 x.1.2.2.1) hb21 rfl
                        have p3 := cell_at (j := 3) (v := .int .i64 x.1.2.2.2) hb21 rfl
                        have hgl := block_lt hb21
                        clear hz hz2 hb21
                        go_wp2
                        go_roundw
                        case rel => exact ⟨j + 1, by go_num, by omega, HJ.out.alloc _⟩
                        case measure => simp [intOf]; omega
                      · have zj2 : ¬ (j : Int) < (ps.length : Int) := by omega
                        have HN9 := hid (HNW.out _ ((HV8.out.trans' HTV.out).trans' HJ.out))
                        rw [HTS.out] at HN9
                        have HEND : Hid (Touch [] w _) := hid (HRT.out.trans' ((HV8.out.trans' HTV.out).trans' HJ.out))
                        go_wp2_with (go_at_call 24; refine HN9.out.mono ?_; rintro e w9 ⟨rfl, rfl⟩)
                        go_ret
                        exact ⟨by simp, HEND.out⟩
                  · have hst : sat sl x.2 = sl + x.2 := if_neg hc
                    have hwa : IntKind.i64.wrap (sl + x.2) = sl + x.2 := by rw [IntKind.wrap_i64]; omega
                    rw [hst] at HSS
                    clear hst
                    rw [HSS.out] at HTS
                    go_upto_region 35 with fail
                    clear k1
                    go_loopw [134] (fun s134 wx => ∃ j : Nat, s134 = .int .i64 j ∧ j ≤ ps.length ∧ Hid (Touch [] V wx)) (fun s134 _ => ps.length - (intOf s134).toNat)
                    case atStart => exact ⟨0, rfl, Nat.zero_le _, Touch.refl _ _⟩
                    case round =>
                      obtain ⟨j, rfl, hj, HJ⟩ := hrel
                      by_cases hjl : j < ps.length
                      · have zj2 : (j : Int) < (ps.length : Int) := by omega
                        obtain ⟨gr, z, rfl, hz, _, m0, m1, m2, m3, m4⟩ := HRC.out _ j ((HV8.out.trans' HTV.out).trans' HJ.out) hjl
                        have hz2 : z.2 = x.1 := by rw [HXO.out]; exact HZO.out z (List.mem_of_getElem? hz)
                        rw [hz2] at m1 m2 m3 m4
                        have hb21 := HJ.out.keep HB21.out (by simp)
                        have p0 := cell_at (j := 0) (v := .int .i64 x.1.1) hb21 rfl
                        have p1 := cell_at (j := 1) (v := .int .i64 x.1.2.1) hb21 rfl
                        have p2 := cell_at (j := 2) (v := .int .i64 x.1.2.2.1) hb21 rfl
                        have p3 := cell_at (j := 3) (v := .int .i64 x.1.2.2.2) hb21 rfl
                        have hgl := block_lt hb21
                        clear hz hz2 hb21
                        go_wp2
                        go_roundw
                        case rel => exact ⟨j + 1, by go_num, by omega, HJ.out.alloc _⟩
                        case measure => simp [intOf]; omega
                      · have zj2 : ¬ (j : Int) < (ps.length : Int) := by omega
                        have HN9 := hid (HNW.out _ ((HV8.out.trans' HTV.out).trans' HJ.out))
                        rw [HTS.out] at HN9
                        have HEND : Hid (Touch [] w _) := hid (HRT.out.trans' ((HV8.out.trans' HTV.out).trans' HJ.out))
                        go_wp2_with (go_at_call 24; refine HN9.out.mono ?_; rintro e w9 ⟨rfl, rfl⟩)
                        go_ret
                        exact ⟨by simp, HEND.out⟩
end Go.Proofs.YtcbckehdlbbbbaaDoor
