/- The walk of the law TokenHangs. -/
import Derived.Test.YtbjnajiicljnbaaMon
import Derived.Test.YtbjnajiicljnbaaOpn
import Derived.Deep.CutRange
import Derived.Deep.CutBlock
namespace Go.Proofs.Ytbjnajiicljnbaa
open Go.RowKit Go.Maps Go.ChangeMaps
set_option linter.unusedVariables false
set_option linter.unusedSimpArgs false
/-- The loop's claim: n acts are done. -/
def HsX (w wx : World) (t b n : Nat) : Prop := ∃ S, Hs w wx t b S (n + 1) (n * 3001) []
section
variable {w wr V : World} {t b n : Nat} {S : List Tk}
theorem Hs.cancel (h : Hs w wr t b S n (n * 3001) []) (T : Touch [] wr V) (i : Int) : Calls Try.prog 8 #[.pointer (some ⟨t, 0, none⟩), .int .i64 i] V fun e w' => (∃ v, e = .returned v) ∧ HsX w w' t b n := by
  refine ((h.quiet T).1.cancel i).mono ?_
  rintro e w' ⟨a, c, he, -, hs⟩
  exact ⟨⟨_, he⟩, _, (h.quiet T).step hs (mono_ca i)⟩
theorem Hs.make (h : Hs w wr t b S n (n * 3001) []) (T : Touch [] wr V) (hn : n < 3000) (i : Int) : Calls Try.prog 17 #[.pointer (some ⟨t, 0, none⟩), .int .i64 i] V fun e w' => (∃ v, e = .returned v) ∧ HsX w w' t b n := by
  refine ((h.quiet T).1.make (by omega) i).mono ?_
  rintro e w' ⟨he, hs⟩
  exact ⟨⟨_, he⟩, _, (h.quiet T).step hs (mono_mk i)⟩
theorem Hs.hold (h : Hs w wr t b S n (n * 3001) []) (T : Touch [] wr V) (hn : n < 3000) (i : Int) : Calls Try.prog 12 #[.pointer (some ⟨t, 0, none⟩), .int .i64 i] V fun e w' => (∃ v, e = .returned v) ∧ HsX w w' t b n := by
  refine ((h.quiet T).1.hold (by omega) i).mono ?_
  rintro e w' ⟨he, hs⟩
  exact ⟨⟨_, he⟩, _, (h.quiet T).step hs (mono_ho i)⟩
theorem Hs.let_ (h : Hs w wr t b S n (n * 3001) []) (T : Touch [] wr V) (hn : n < 3000) (i : Int) : Calls Try.prog 13 #[.pointer (some ⟨t, 0, none⟩), .int .i64 i] V fun e w' => (∃ v, e = .returned v) ∧ HsX w w' t b n := by
  refine ((h.quiet T).1.let_ (by omega) i).mono ?_
  rintro e w' ⟨a, c, he, -, hs⟩
  exact ⟨⟨_, he⟩, _, (h.quiet T).step hs (mono_le i)⟩
end
def HsR (w wr : World) (t b n : Nat) : Prop := ∃ S, Hs w wr t b S n (n * 3001) []
set_option maxHeartbeats 4000000 in
set_option maxRecDepth 100000 in
theorem law4 (w : World) (xs : List Act) (v : Value) (hv : SlA w v xs) (hw : ∀ x ∈ xs, WfA x) (hL : xs.length ≤ 8796093021952) : Calls Try.prog 4 #[v] w fun e w' => e = .returned (.bool true) ∧ Touch [] w w' := by
  obtain ⟨av, cv, rfl⟩ : ∃ av cv, v = .slice av xs.length cv := by
    rcases hv with ⟨rfl, a, c, rfl⟩ | ⟨b, off, cap, rfl, _⟩
    · exact ⟨a, c, rfl⟩
    · exact ⟨_, _, rfl⟩
  have HRow : Hid (xs.length = 0 ∨ ∃ b off, av = some ⟨b, off, none⟩ ∧ RowA w b off xs) := by
    rcases hv with ⟨rfl, _⟩ | ⟨b, off, cap, e, r⟩
    · exact Or.inl rfl
    · injection e with e1 e2 e3
      exact Or.inr ⟨b, off, e1, r⟩
  have HWf := hid hw
  clear hv hw
  obtain ⟨A, hA⟩ : ∃ A, A = xs.length := ⟨_, rfl⟩
  have HAx := hid hA
  rw [← hA] at HRow hL ⊢
  clear hA
  have hmm := @run_makeMap Try.prog
  by_cases hbig : 3000 < A
  · generalize hAI : (A : Int) = AI at *
    have zA : 3000 < AI := by omega
    clear hbig hL
    go_enter Try.func4, Try.ntmps4
    go_wp2_with (first
      | (go_at_call 6; refine (new6 _).mono ?_; rintro e w1 ⟨rfl, k1, t1⟩; have H1 := hid t1; clear k1 t1; unfold PT)
      | (go_at_call 7; refine (awake7 _).mono ?_; first | (rintro e w3 ⟨rfl, t3⟩; have H3 := hid (H2.out.trans' t3); clear t3) | (rintro e w2 ⟨rfl, t2⟩; have H2 := hid (H1.out.trans' t2); clear t2)))
    go_ret
    exact ⟨rfl, H3.out⟩
  · have HAle : Hid (A ≤ 3000) := by show _ ≤ _; omega
    generalize hAI : (A : Int) = AI at *
    have zA : AI ≤ 3000 := by omega
    have zA0 : 0 ≤ AI := by omega
    clear hbig hL
    go_enter Try.func4, Try.ntmps4
    go_wp2_with (first
      | (go_at_call 6; refine (new6 _).mono ?_; rintro e w1 ⟨rfl, k1, t1⟩; have H1 := hid (St.start k1 (Nat.le_refl _) t1); clear k1 t1; unfold PT)
      | (go_at_call 7; refine (awake7 _).mono ?_; rintro e w2 ⟨rfl, t2⟩; have H2 := hid (H1.out.quiet t2); clear t2))
    have H0 : Hid (HsR w (w2.alloc (.map #[] 0)) w.heap.size w2.heap.size 0) := ⟨[], H2.out.add ((Touch.refl _ _).alloc _) (Nat.le_refl _) (by simp), H2.out.tc.size, 0, _, mapAt_made w2, Nat.le_refl _, fun k v h => by cases h⟩
    generalize w2.heap.size = b at *
    generalize w.heap.size = t at *
    clear H1 H2 hmm
    go_loopw [23] (fun i wr => ∃ n : Nat, i = .int .i64 (n : Int) ∧ n ≤ A ∧ Hid (HsR w wr t b n)) (fun i _ => A - (intOf i).toNat)
    case atStart => exact ⟨0, rfl, Nat.zero_le _, H0⟩
    case round =>
      clear H0
      obtain ⟨n, rfl, hn, HR⟩ := hrel
      by_cases hlt : n < A
      · have zn : (n : Int) < AI := by omega
        obtain ⟨S, hs⟩ := HR.out
        obtain ⟨ba, off, rfl, hrow⟩ : ∃ ba off, av = some ⟨ba, off, none⟩ ∧ RowA w ba off xs := by
          rcases HRow.out with e | e
          · omega
          · exact e
        have hnx : n < xs.length := by have := HAx.out; omega
        have r0 := (hrow.keep hs.1.tc).c0 n hnx
        have r1 := (hrow.keep hs.1.tc).c1 n hnx
        have HWx := hid (HWf.out xs[n] (List.getElem_mem hnx))
        clear HR hrow
        generalize xs[n] = ac at *
        clear hnx
        obtain ⟨kd, nn⟩ := ac
        have zk1 := HWx.out.1.lo
        have zk2 := HWx.out.1.hi
        simp only at r0 r1 zk1 zk2
        have HH := hid hs
        have HNn := hid (And.intro hn hlt)
        clear hs hn hlt
        go_upto_block 2 with fail
        generalize (wrap64 (kd.tmod 8 + 8)).tmod 8 = K
        obtain ⟨V, hV⟩ : ∃ V, V = wr.alloc (.cells #[.int .i64 kd, .int .i64 nn] 28) := ⟨_, rfl⟩
        have HTV : Hid (Touch [] wr V) := by rw [hV]; exact (Touch.refl _ _).alloc _
        have v1 : V.cell? ⟨wr.heap.size, 1, none⟩ = some (.int .i64 nn) := by
          have hb := heap_alloc_new wr (.cells #[.int .i64 kd, .int .i64 nn] 28)
          rw [← hV] at hb
          simp [World.cell?, hb]
        rw [← hV]
        clear hV r0 r1 zk1 zk2
        generalize wr.heap.size = bx at *
        go_cut [] from 32 to 56 (fun wx => HsX w wx t b n)
        case first =>
          have hn3 : n < 3000 := by have := HAle.out; have := HNn.out; omega
          have HC := hid (HH.out.cancel HTV.out nn)
          have HM := hid (HH.out.make HTV.out hn3 nn)
          have HO := hid (HH.out.hold HTV.out hn3 nn)
          have HL := hid (HH.out.let_ HTV.out hn3 nn)
          clear HH HTV hn3
          by_cases e2 : (K == 2) = true
          · go_wp2_with (first | (go_at_call 8; refine HC.out.mono ?_; rintro e w5 ⟨⟨y, rfl⟩, r⟩; have R := hid r; clear r))
            go_meet
            case rel => exact R.out
          · have e2 : (K == 2) = false := by simpa using e2
            by_cases e3 : (K == 3) = true
            · go_wp2_with (first | (go_at_call 12; refine HO.out.mono ?_; rintro e w5 ⟨⟨y, rfl⟩, r⟩; have R := hid r; clear r))
              go_meet
              case rel => exact R.out
            · have e3 : (K == 3) = false := by simpa using e3
              by_cases e4 : (K == 4) = true
              · go_wp2_with (first | (go_at_call 12; refine HO.out.mono ?_; rintro e w5 ⟨⟨y, rfl⟩, r⟩; have R := hid r; clear r))
                go_meet
                case rel => exact R.out
              · have e4 : (K == 4) = false := by simpa using e4
                by_cases e5 : (K == 5) = true
                · go_wp2_with (first | (go_at_call 13; refine HL.out.mono ?_; rintro e w5 ⟨⟨y, rfl⟩, r⟩; have R := hid r; clear r))
                  go_meet
                  case rel => exact R.out
                · have e5 : (K == 5) = false := by simpa using e5
                  by_cases e6 : (K == 6) = true
                  · go_wp2_with (first | (go_at_call 13; refine HL.out.mono ?_; rintro e w5 ⟨⟨y, rfl⟩, r⟩; have R := hid r; clear r))
                    go_meet
                    case rel => exact R.out
                  · have e6 : (K == 6) = false := by simpa using e6
                    by_cases e7 : (K == 7) = true
                    · go_wp2_with (first | (go_at_call 13; refine HL.out.mono ?_; rintro e w5 ⟨⟨y, rfl⟩, r⟩; have R := hid r; clear r))
                      go_meet
                      case rel => exact R.out
                    · have e7 : (K == 7) = false := by simpa using e7
                      go_wp2_with (first | (go_at_call 17; refine HM.out.mono ?_; rintro e w5 ⟨⟨y, rfl⟩, r⟩; have R := hid r; clear r))
                      go_meet
                      case rel => exact R.out
        case rest =>
          obtain ⟨S', hs⟩ := hcut
          have H1 := hid hs
          clear hs HH HTV v1 HRow HWx
          generalize Value.agg #[Value.int IntKind.i64 kd, Value.int IntKind.i64 nn] = d26
          generalize wrap64 (kd.tmod 8 + 8) = d30
          generalize kd.tmod 8 = d29
          go_wp2
          go_loopw [7] (fun i wr => ∃ k : Nat, i = .int .i64 ((k : Int) + 1) ∧ k ≤ S'.length ∧ Hid (Hs w wr t b S' (n + 1) (n * 3001 + k) [])) (fun i _ => S'.length + 1 - (intOf i).toNat)
          case atStart => exact ⟨0, rfl, Nat.zero_le _, H1⟩
          case round =>
            clear H1
            obtain ⟨k, rfl, hk, HR⟩ := hrel
            have HLn := hid HR.out.1.len
            have hNle := HR.out.1.le
            have HB := hid (And.intro hNle hk)
            by_cases hlt : k < S'.length
            · obtain ⟨ki, hki⟩ : ∃ ki : Int, ki = (k : Int) + 1 := ⟨_, rfl⟩
              have zk : ki ≤ (S'.length : Int) := by omega
              have HP := hid (HR.out.1.parent ki)
              have HY := hid (HR.out.1.why ki)
              have hm : ki = ((k + 1 : Nat) : Int) := by omega
              obtain ⟨p0, p1, p2⟩ := why_par HR.out.1.ok (m := k + 1) (by omega) (by omega)
              rw [← hm] at p0 p1 p2
              obtain ⟨cnt, f, m1, m2, m3⟩ := HR.out.2.2
              obtain ⟨B, mB, mT⟩ := m3.get ki
              rw [← hki]
              have HKi := hid hki
              have HKl := hid hlt
              have HM := hid m1
              have HMB := hid mB
              have HW := hid (W64.mk (k := ki) (by omega) (by have := HNn.out; have := HAle.out; omega))
              have HIk := hid (HR.out.1.is ki)
              have HIp := hid (HR.out.1.is (fI Tk.par S' ki))
              have HIy := hid (HR.out.1.is (fI Tk.why S' ki))
              have hBY : B = true → (fI Tk.why S' ki != 0) = true := fun e => by rw [bne_iff_ne]; exact mT e
              have HUp : Hid (fI Tk.why S' ki ≠ 0 → Up S' (k + 1) (fI Tk.why S' ki) ∧ (fI Tk.why S' (fI Tk.why S' ki) != 0) = true) := fun h => by
                have := up_start HR.out.1.ok (m := k + 1) (by omega) (by omega)
                rw [← hm] at this
                exact this h
              have HSt := hid HR.out
              have HM3 := hid (And.intro m2 m3)
              have HU : Hid (∀ ob, MapAt (setBlock wr b ob) b (if (f ki).isSome then cnt else cnt + 1) (upd f ki (.bool (fI Tk.why S' ki != 0))) → Hs w (setBlock wr b ob) t b S' (n + 1) (n * 3001 + k + 1) []) := fun ob h => Hs.upd HR.out.1 HR.out.2.1 h m2 m3
              have hcm : cnt < maxLen := by unfold maxLen; have := HNn.out; have := HAle.out; have := HB.out; omega
              have HCm := hid hcm
              clear hcm
              have HY0 : Hid (fI Tk.why S' ki = 0 ∨ fI Tk.why S' ki ≠ 0) := by show _ ∨ _; omega
              clear HR hki hlt hm mB mT m1 m2 m3 hNle hk
              generalize fI Tk.par S' ki = pp at *
              generalize fI Tk.why S' ki = yy at *
              generalize (fI Tk.why S' pp != 0) = bp at *
              have zk1 : 1 ≤ ki := by have := HKi.out; omega
              have zpk : ¬ ki ≤ pp := by omega
              have zp0 : ¬ pp < 0 := by omega
              unfold PT at HLn HP HY HIk HIp HIy
              go_upto_region 23 with (first
                | (go_at_call 19; refine HLn.out.mono ?_; rintro e w6 ⟨rfl, rfl⟩)
                | (go_at_call 20; refine HP.out.mono ?_; rintro e w6 ⟨rfl, rfl⟩)
                | (go_at_call 21; refine HY.out.mono ?_; rintro e w6 ⟨rfl, rfl⟩))
              go_cut [109] from 69 to 109 (fun s wx => s = .bool false ∧ wx = w6)
              case first =>
                clear HLn HP HY HIy HSt HM3 HUp
                by_cases hy : (yy != 0) = true
                · clear hBY p2
                  cases B with
                  | false =>
                    by_cases hp : (pp != 0) = true
                    · cases bp with
                      | false =>
                        go_wp2_with (first
                          | (at_lookup; refine wpList_mlook _ rfl _ _ 48 rfl 4 Try.underlying48 (zero4 _) b cnt f rfl HM.out _ rfl HW.out (.bool false) HMB.out ?_)
                          | (go_at_call_of 22 (#[.pointer (some ⟨t, 0, none⟩), .int .i64 ki] : Array Value); refine HIk.out.mono ?_; rintro e w7 ⟨rfl, rfl⟩)
                          | (go_at_call_of 22 (#[.pointer (some ⟨t, 0, none⟩), .int .i64 pp] : Array Value); refine HIp.out.mono ?_; rintro e w7 ⟨rfl, rfl⟩))
                        go_meet
                        case rel => exact ⟨by rw [decide_eq_false (by omega), decide_eq_false (by omega)]; rfl, rfl⟩
                      | true =>
                        go_wp2_with (first
                          | (at_lookup; refine wpList_mlook _ rfl _ _ 48 rfl 4 Try.underlying48 (zero4 _) b cnt f rfl HM.out _ rfl HW.out (.bool false) HMB.out ?_)
                          | (go_at_call_of 22 (#[.pointer (some ⟨t, 0, none⟩), .int .i64 ki] : Array Value); refine HIk.out.mono ?_; rintro e w7 ⟨rfl, rfl⟩)
                          | (go_at_call_of 22 (#[.pointer (some ⟨t, 0, none⟩), .int .i64 pp] : Array Value); refine HIp.out.mono ?_; rintro e w7 ⟨rfl, rfl⟩))
                        go_meet
                        case rel => exact ⟨by rw [decide_eq_false (by omega), decide_eq_false (by omega)]; rfl, rfl⟩
                    · have hp : (pp != 0) = false := by simpa using hp
                      go_wp2_with (first
                        | (at_lookup; refine wpList_mlook _ rfl _ _ 48 rfl 4 Try.underlying48 (zero4 _) b cnt f rfl HM.out _ rfl HW.out (.bool false) HMB.out ?_)
                        | (go_at_call_of 22 (#[.pointer (some ⟨t, 0, none⟩), .int .i64 ki] : Array Value); refine HIk.out.mono ?_; rintro e w7 ⟨rfl, rfl⟩)
                        | (go_at_call_of 22 (#[.pointer (some ⟨t, 0, none⟩), .int .i64 pp] : Array Value); refine HIp.out.mono ?_; rintro e w7 ⟨rfl, rfl⟩))
                      go_meet
                      case rel => exact ⟨by rw [decide_eq_false (by omega), decide_eq_false (by omega)]; rfl, rfl⟩
                  | true =>
                    by_cases hp : (pp != 0) = true
                    · cases bp with
                      | false =>
                        go_wp2_with (first
                          | (at_lookup; refine wpList_mlook _ rfl _ _ 48 rfl 4 Try.underlying48 (zero4 _) b cnt f rfl HM.out _ rfl HW.out (.bool true) HMB.out ?_)
                          | (go_at_call_of 22 (#[.pointer (some ⟨t, 0, none⟩), .int .i64 ki] : Array Value); refine HIk.out.mono ?_; rintro e w7 ⟨rfl, rfl⟩)
                          | (go_at_call_of 22 (#[.pointer (some ⟨t, 0, none⟩), .int .i64 pp] : Array Value); refine HIp.out.mono ?_; rintro e w7 ⟨rfl, rfl⟩))
                        go_meet
                        case rel => exact ⟨by rw [decide_eq_false (by omega), decide_eq_false (by omega)]; rfl, rfl⟩
                      | true =>
                        go_wp2_with (first
                          | (at_lookup; refine wpList_mlook _ rfl _ _ 48 rfl 4 Try.underlying48 (zero4 _) b cnt f rfl HM.out _ rfl HW.out (.bool true) HMB.out ?_)
                          | (go_at_call_of 22 (#[.pointer (some ⟨t, 0, none⟩), .int .i64 ki] : Array Value); refine HIk.out.mono ?_; rintro e w7 ⟨rfl, rfl⟩)
                          | (go_at_call_of 22 (#[.pointer (some ⟨t, 0, none⟩), .int .i64 pp] : Array Value); refine HIp.out.mono ?_; rintro e w7 ⟨rfl, rfl⟩))
                        go_meet
                        case rel => exact ⟨by rw [decide_eq_false (by omega), decide_eq_false (by omega)]; rfl, rfl⟩
                    · have hp : (pp != 0) = false := by simpa using hp
                      go_wp2_with (first
                        | (at_lookup; refine wpList_mlook _ rfl _ _ 48 rfl 4 Try.underlying48 (zero4 _) b cnt f rfl HM.out _ rfl HW.out (.bool true) HMB.out ?_)
                        | (go_at_call_of 22 (#[.pointer (some ⟨t, 0, none⟩), .int .i64 ki] : Array Value); refine HIk.out.mono ?_; rintro e w7 ⟨rfl, rfl⟩)
                        | (go_at_call_of 22 (#[.pointer (some ⟨t, 0, none⟩), .int .i64 pp] : Array Value); refine HIp.out.mono ?_; rintro e w7 ⟨rfl, rfl⟩))
                      go_meet
                      case rel => exact ⟨by rw [decide_eq_false (by omega), decide_eq_false (by omega)]; rfl, rfl⟩
                · have hy : (yy != 0) = false := by simpa using hy
                  cases B with
                  | false =>
                    clear hBY
                    by_cases hp : (pp != 0) = true
                    · cases bp with
                      | false =>
                        clear p2
                        go_wp2_with (first
                          | (at_lookup; refine wpList_mlook _ rfl _ _ 48 rfl 4 Try.underlying48 (zero4 _) b cnt f rfl HM.out _ rfl HW.out (.bool false) HMB.out ?_)
                          | (go_at_call_of 22 (#[.pointer (some ⟨t, 0, none⟩), .int .i64 ki] : Array Value); refine HIk.out.mono ?_; rintro e w7 ⟨rfl, rfl⟩)
                          | (go_at_call_of 22 (#[.pointer (some ⟨t, 0, none⟩), .int .i64 pp] : Array Value); refine HIp.out.mono ?_; rintro e w7 ⟨rfl, rfl⟩))
                        go_meet
                        case rel => exact ⟨by rw [decide_eq_false (by omega), decide_eq_false (by omega)]; rfl, rfl⟩
                      | true => exact absurd (p2 hp rfl) (by rw [hy]; decide)
                    · have hp : (pp != 0) = false := by simpa using hp
                      clear p2
                      go_wp2_with (first
                        | (at_lookup; refine wpList_mlook _ rfl _ _ 48 rfl 4 Try.underlying48 (zero4 _) b cnt f rfl HM.out _ rfl HW.out (.bool false) HMB.out ?_)
                        | (go_at_call_of 22 (#[.pointer (some ⟨t, 0, none⟩), .int .i64 ki] : Array Value); refine HIk.out.mono ?_; rintro e w7 ⟨rfl, rfl⟩)
                        | (go_at_call_of 22 (#[.pointer (some ⟨t, 0, none⟩), .int .i64 pp] : Array Value); refine HIp.out.mono ?_; rintro e w7 ⟨rfl, rfl⟩))
                      go_meet
                      case rel => exact ⟨by rw [decide_eq_false (by omega), decide_eq_false (by omega)]; rfl, rfl⟩
                  | true => exact absurd (hBY rfl) (by rw [hy]; decide)
              case rest =>
                obtain ⟨rfl, hwc⟩ := hcut
                subst hwc
                clear hBY p2 HP HY HIp HMB HLn HM3
                go_upto_block 5 with (first
                  | (go_at_call 22; refine HIk.out.mono ?_; rintro e w7 ⟨rfl, rfl⟩)
                  | (at_mapUpdate; refine wpList_mset _ rfl _ _ _ 48 rfl 4 Try.underlying48 b cnt f rfl HM.out HCm.out _ rfl HW.out _ rfl ?_; intro ob hob; have HN := hid (HU.out ob hob); clear hob))
                generalize setBlock w7 b ob = W8 at *
                have HPa : Hid (∀ j : Int, Calls Try.prog 20 #[.pointer (some ⟨t, 0, none⟩), .int .i64 j] W8 fun e w' => e = .returned (.int .i64 (fI Tk.par S' j)) ∧ w' = W8) := fun j => HN.out.1.parent j
                have HIw : Hid (∀ j : Int, Calls Try.prog 22 #[.pointer (some ⟨t, 0, none⟩), .int .i64 j] W8 fun e w' => e = .returned (.bool (fI Tk.why S' j != 0)) ∧ w' = W8) := fun j => HN.out.1.is j
                have HOk := hid HN.out.1.ok
                clear HIk HIy HM HCm HU HSt HW
                generalize Value.bool (yy != 0) = d114
                go_cut [10] from 116 to 127 (fun s10 wx => wx = W8)
                case first =>
                  go_wp2_with fail
                  by_cases hy : (yy != 0) = true
                  · have hy' : yy ≠ 0 := by simpa using hy
                    have HU0 := hid (HUp.out hy').1
                    clear hy' HUp HY0 HIw
                    go_loop [10] (fun s => ∃ j : Nat, s = .int .i64 (j : Int) ∧ Hid (Up S' j yy)) (fun s => (intOf s).toNat)
                    case atStart => exact ⟨k + 1, by rw [HKi.out]; rfl, HU0⟩
                    case round =>
                      clear HU0
                      obtain ⟨j, rfl, HJ⟩ := hrel
                      by_cases hj : (j : Int) = yy
                      · have hj' : ((j : Int) != yy) = false := by simp [hj]
                        clear hj
                        go_wp2
                        go_meet
                        case rel => rfl
                      · have hj' : ((j : Int) != yy) = true := by simp [hj]
                        obtain ⟨j', e1, e2, HJ2⟩ := up_step HOk.out HJ.out hj
                        have HQ := hid (HPa.out (j : Int))
                        rw [e1] at HQ
                        have HE := hid e2
                        have zj : 1 ≤ (j : Int) := by have := HJ.out.1; omega
                        clear hj e1 e2 HJ
                        go_wp2_with (go_at_call 20; refine HQ.out.mono ?_; rintro e w9 ⟨rfl, rfl⟩)
                        go_round
                        case rel => exact ⟨j', rfl, HJ2⟩
                        case measure => have := HE.out; simp [intOf]; omega
                  · have hy : (yy != 0) = false := by simpa using hy
                    have hk' : (ki != yy) = true := by
                      have : yy = 0 := by simpa using hy
                      rw [this, bne_iff_ne]; omega
                    go_loop [10] (fun s => s = .int .i64 ki) (fun _ => 0)
                    case atStart => rfl
                    case round =>
                      subst hrel
                      go_wp2
                      go_meet
                      case rel => rfl
                case rest =>
                  subst hcut
                  have HB2 := hid HN.out
                  have zw : IntKind.i64.wrap (ki + 1) = ki + 1 := by
                    have := HB.out; have := HNn.out; have := HAle.out; have := HKi.out
                    simp [IntKind.wrap, IntKind.bits, IntKind.signed]; omega
                  by_cases hy : (yy != 0) = true
                  · have hy' : yy ≠ 0 := by simpa using hy
                    have HQ := hid (HIw.out yy)
                    have e := (HUp.out hy').2
                    rw [e] at HQ
                    clear hy' e HUp HY0 HIw HPa
                    go_wp2_with (go_at_call 22; refine HQ.out.mono ?_; rintro e w9 ⟨rfl, rfl⟩)
                    go_roundw
                    case rel => exact ⟨k + 1, by rw [HKi.out]; rfl, HKl.out, HB2⟩
                    case measure => have := HKi.out; have := HKl.out; simp [intOf]; omega
                  · have hy : (yy != 0) = false := by simpa using hy
                    clear HUp HY0 HIw HPa
                    go_wp2
                    go_roundw
                    case rel => exact ⟨k + 1, by rw [HKi.out]; rfl, HKl.out, HB2⟩
                    case measure => have := HKi.out; have := HKl.out; simp [intOf]; omega
            · have zk : ¬ ((k : Int) + 1 ≤ (S'.length : Int)) := by omega
              have HE : Hid (HsR w wr t b (n + 1)) := ⟨S', HR.out.mono (by have := HNn.out; have := HAle.out; omega)⟩
              unfold PT at HLn
              clear HR hk hlt hNle
              go_wp2_with (go_at_call 19; refine HLn.out.mono ?_; rintro e w6 ⟨rfl, rfl⟩)
              go_roundw
              case rel => exact ⟨n + 1, by go_num, by have := HNn.out; omega, HE⟩
              case measure => have := HNn.out; simp [intOf]; omega
      · have zn : ¬ (n : Int) < AI := by omega
        obtain ⟨S, hs⟩ := HR.out
        have HLv := hid hs.1.live
        have HT := hid (And.intro hs.1.tc hs.1)
        have HLL : Hid ((livL S).length ≤ S.length) := Nat.le_trans (List.length_filter_le _ _) (by simp)
        unfold PT at HLv
        clear HR hs HRow
        go_wp2_with (first
          | (go_at_call 23; refine HLv.out.mono ?_; rintro e w6 ⟨a6, c6, rfl, r6, t6⟩; have H6 := hid (HT.out.2.quiet t6); have HLn := hid H6.out.len; unfold PT at HLn; clear r6 t6)
          | (go_at_call 19; refine HLn.out.mono ?_; rintro e w7 ⟨rfl, rfl⟩))
        go_ret
        have := HLL.out
        exact ⟨by simp; omega, H6.out.tc⟩
end Go.Proofs.Ytbjnajiicljnbaa
