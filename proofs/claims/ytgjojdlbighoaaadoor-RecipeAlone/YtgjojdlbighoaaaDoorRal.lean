/- A loader by itself, by the document's own code; the conditions: the recipe may be and lies in memory, the key's space is a number of 16 bits. -/
import Derived.Test.YtgjojdlbighoaaaDoorRon
import Derived.Test.YtgjojdlbighoaaaDoorAln
namespace Go.Proofs.YtgjojdlbighoaaaDoor
open Go.RowKit Go.Sort
set_option linter.unusedVariables false
set_option linter.unusedSimpArgs false

def RalE (f : Nat → Int → Rs) (e : Ending) : Prop := ∃ v k c r s, e = .returned (.tuple #[.agg #[.int .i64 v, .int .i64 k, .int .i64 c, .int .i64 r], .int .i64 s]) ∧ Al f 0 0 0 (v, k, c, r, s) ∧ 0 ≤ s ∧ s ≤ 4611686018427387904
theorem alB_start2 (w : World) (x : Ar) : AlB w (((w.alloc (.cells #[.int .u16 x.sp, .string x.nm, .int .i64 x.r, .bool x.cn] 54)).alloc (.cells #[.int .i64 0, .int .i64 0, .int .i64 0, .int .i64 0] 48)).alloc (.cells #[.int .i64 0, .int .i64 0, .int .i64 0, .int .i64 0] 45)) 0 0 x := by
  refine ⟨(((Gr.refl w).alloc _).alloc _).alloc _, ((bx_new w _ _ _ _ _).al _).al _, ?_, ?_⟩
  · have := bx_new (w.alloc (.cells #[.int .u16 x.sp, .string x.nm, .int .i64 x.r, .bool x.cn] 54)) (.int .i64 0) (.int .i64 0) (.int .i64 0) (.int .i64 0) 48
    simp only [World.size_alloc] at this
    exact this.al _
  · have := bx_new ((w.alloc (.cells #[.int .u16 x.sp, .string x.nm, .int .i64 x.r, .bool x.cn] 54)).alloc (.cells #[.int .i64 0, .int .i64 0, .int .i64 0, .int .i64 0] 48)) (.int .i64 0) (.int .i64 0) (.int .i64 0) (.int .i64 0) 45
    simp only [World.size_alloc] at this
    exact this
set_option maxHeartbeats 2000000 in
theorem alone21 (L : List Sp) (A : Option Addr) (c : Nat) (x : Ar) (w : World) (hs : Sl w A L) (hw : WfS L) (hg : Good L) (hx : x.ok) :
    Calls Tryd.prog 21 #[.slice A L.length c, .agg #[.int .u16 x.sp, .string x.nm, .int .i64 x.r, .bool x.cn]] w fun e w' => RalE (x.f L) e ∧ Gr w w' := by
  have HS : Hid (Sl w A L ∧ Good L ∧ WfS L ∧ x.ok) := ⟨hs, hg, hw, hx⟩
  clear hs hw hg hx
  go_enter Tryd.func21, Tryd.ntmps21
  go_wp2_with fail
  go_loopw [5, 7] (fun v5 v9 wr => v5 = .int .i64 0 ∧ ∃ (s : Int) (q : Nat) (m : Int), v9 = .int .i64 s ∧ 0 ≤ s ∧ s ≤ 4611686018427387904 ∧ Hid (q ≤ L.length ∧ I64 m ∧ (∀ R, Al (x.f L) q m s R → Al (x.f L) 0 0 0 R)) ∧ Hid (AlB w wr q m x)) (fun _ _ wr => L.length + 1 - placeA w wr)
  case atStart => exact ⟨rfl, 0, 0, 0, rfl, by omega, by omega, ⟨Nat.zero_le _, ⟨by omega, by omega⟩, fun R h => h⟩, alB_start2 w x⟩
  case round =>
    obtain ⟨rfl, s, q, m, rfl, hs0, hs1, HQ, HB⟩ := hrel
    have HC : Hid _ := on19 L A c q m x wr (HS.out.1.gr HB.out.g) HS.out.2.1 HS.out.2.2.1 HQ.out.2.1 HQ.out.1 HS.out.2.2.2
    have a0 := HB.out.b2.c0
    have a1 := HB.out.b2.c1
    have a2 := HB.out.b2.c2
    have a3 := HB.out.b2.c3
    have b0 := HB.out.b0.c0
    have b1 := HB.out.b0.c1
    have b2 := HB.out.b0.c2
    have b3 := HB.out.b0.c3
    go_wp2_with fail
    refine Calls.mono HC.out ?_
    rintro e w1 ⟨⟨R, rfl, hon⟩, hg⟩
    clear a0 a1 a2 a3 b0 b1 b2 b3 HC
    rcases R with ⟨q', m', wt, o'⟩ | ⟨v, k, cc, r⟩
    rotate_left
    · replace hon : On (x.f L) q m (.fin v k cc r) := hon
      rw [show rsV (Sum.inr (v, k, cc, r)) = _ from rsV_fin v k cc r]
      have HE : Hid (Al (x.f L) 0 0 0 (v, k, cc, r, s)) := HQ.out.2.2 _ (.fin hon)
      clear hon
      simp only [rsV_go, rsV_fin, ckV, otV]
      have HB2 : Hid (AlB w ((w1.alloc (.cells #[.int .i64 0, .int .i64 0, .int .i64 0, .int .i64 0] 45)).alloc (.cells #[.int .i64 v, .int .i64 k, .int .i64 cc, .int .i64 r] 48)) q m x) := (HB.out.gr hg).gr (((Gr.refl _).alloc _).alloc _)
      have c0 := HB2.out.b1.c0
      have c1 := HB2.out.b1.c1
      have c2 := HB2.out.b1.c2
      have c3 := HB2.out.b1.c3
      have d0 := HB2.out.b1.f0
      have d1 := HB2.out.b1.f1
      have d2 := HB2.out.b1.f2
      have d3 := HB2.out.b1.f3
      go_wp2_with fail
      obtain ⟨_, x0, x1, x2, x3, _, _, _, _⟩ := HB2.out.b1.set (.int .i64 v) (.int .i64 k) (.int .i64 cc) (.int .i64 r)
      exact bodyPost_ret (v := .tuple #[.agg #[.int .i64 v, .int .i64 k, .int .i64 cc, .int .i64 r], .int .i64 s]) (by simp [results, Tryd.results21, go_sem, x0, x1, x2, x3]) rfl ⟨⟨v, k, cc, r, s, rfl, HE.out, hs0, hs1⟩, HB2.out.g.set4 (by omega) (.int .i64 v) (.int .i64 k) (.int .i64 cc) (.int .i64 r)⟩
    · replace hon : On (x.f L) q m (.go q' m' wt o') := hon
      rw [show rsV (Sum.inl (q', m', wt, o')) = _ from rsV_go q' m' wt o']
      obtain ⟨h1, h2, h3, h4, h5, h6⟩ := on_go HS.out.2.1 HS.out.2.2.1 hon HQ.out.2.1 q' m' wt o' rfl
      have HM : Hid (placeA w wr = q ∧ q < q' ∧ q' ≤ L.length) := ⟨HB.out.place, h1, h2⟩
      have HQ2 : Hid (q' ≤ L.length ∧ I64 m' ∧ (∀ R, Al (x.f L) q' m' (if wt = 2 then capS s o' else s) R → Al (x.f L) 0 0 0 R)) := ⟨h2, h3, fun R h => HQ.out.2.2 R (.go hon h)⟩
      clear hon h1 h2 h3 HQ
      simp only [rsV_go, rsV_fin, ckV, otV]
      have HB2 : Hid (AlB w ((w1.alloc (.cells #[.int .i64 q', .int .i64 m', .int .i64 0, .int .i64 0] 45)).alloc (.cells #[.int .i64 0, .int .i64 0, .int .i64 0, .int .i64 0] 48)) q m x) := (HB.out.gr hg).gr (((Gr.refl _).alloc _).alloc _)
      have c0 := HB2.out.b2.c0
      have c1 := HB2.out.b2.c1
      have c2 := HB2.out.b2.c2
      have c3 := HB2.out.b2.c3
      have d0 := HB2.out.b2.f0
      have d1 := HB2.out.b2.f1
      have d2 := HB2.out.b2.f2
      have d3 := HB2.out.b2.f3
      clear hg HB
      rcases h4 with rfl | rfl
      · rw [if_neg (by decide)] at HQ2
        go_wp2_with fail
        go_roundw
        case rel => exact ⟨by first | rfl | trivial, s, q', m', by first | rfl | trivial, by omega, by omega, HQ2.out, HB2.out.next q' m'⟩
        case measure =>
          have h1 := (HB2.out.next q' m').place
          have h2 := HM.out
          rw [h2.1, h1]
          omega
      · rw [if_pos rfl] at HQ2
        obtain ⟨h51, h52⟩ := h5 rfl
        clear h5 h6
        have wd : IntKind.i64.wrap (4611686018427387904 - s) = 4611686018427387904 - s := by rw [IntKind.wrap_i64]; omega
        by_cases hle : o' ≤ 4611686018427387904 - s
        · have e : capS s o' = s + o' := by unfold capS; omega
          rw [e] at HQ2
          have wa : IntKind.i64.wrap (s + o') = s + o' := by rw [IntKind.wrap_i64]; omega
          have hng : ¬ 4611686018427387904 - s < o' := by omega
          clear e
          go_wp2_with fail
          go_roundw
          case rel => exact ⟨by first | rfl | trivial, s + o', q', m', by first | rfl | trivial, by omega, by omega, HQ2.out, HB2.out.next q' m'⟩
          case measure =>
            have h1 := (HB2.out.next q' m').place
            have h2 := HM.out
            rw [h2.1, h1]
            omega
        · have hlt : 4611686018427387904 - s < o' := by omega
          have e : capS s o' = 4611686018427387904 := by unfold capS; omega
          rw [e] at HQ2
          clear e hle
          go_wp2_with fail
          go_roundw
          case rel => exact ⟨by first | rfl | trivial, 4611686018427387904, q', m', by first | rfl | trivial, by omega, by omega, HQ2.out, HB2.out.next q' m'⟩
          case measure =>
            have h1 := (HB2.out.next q' m').place
            have h2 := HM.out
            rw [h2.1, h1]
            omega
end Go.Proofs.YtgjojdlbighoaaaDoor
