/- A loader by itself, by the program; the conditions: the recipe lies in memory, the table holds what the start lays, the key's space is a number of 16 bits. -/
import Derived.Test.YtgjojdlbighoaaaDoorOnn
namespace Go.Proofs.YtgjojdlbighoaaaDoor
open Go.RowKit Go.Sort
set_option linter.unusedVariables false
set_option linter.unusedSimpArgs false

theorem on_go {x : Ar} {L : List Sp} (hL : Good L) (hw : WfS L) {p : Nat} {n : Int} {R : Rs} (h : On (x.f L) p n R) : I64 n → ∀ q m wt o, R = .go q m wt o →
    p < q ∧ q ≤ L.length ∧ I64 m ∧ (wt = 1 ∨ wt = 2) ∧ (wt = 2 → 0 ≤ o ∧ o ≤ 4611686018427387904) ∧ I64 o := by
  refine h (fun p n R => I64 n → ∀ q m wt o, R = .go q m wt o → p < q ∧ q ≤ L.length ∧ I64 m ∧ (wt = 1 ∨ wt = 2) ∧ (wt = 2 → 0 ≤ o ∧ o ≤ 4611686018427387904) ∧ I64 o) ?_ ?_ ?_
  · intro p n v k c r e _ q m wt o h
    exact Rs.no' h
  · intro p n q m wt on e hn hi q' m' wt' o' h
    obtain ⟨rfl, rfl, rfl, rfl⟩ := Rs.go_inj h
    obtain ⟨h1, h2, h3, h4, h5, h6, h7⟩ := f_go hL hw hi e
    exact ⟨h1, h2, h3, by omega, h5, h6⟩
  · intro p n q m on R e ih hi q' m' wt' o' h
    obtain ⟨h1, h2, h3, h4, h5, h6, h7⟩ := f_go hL hw hi e
    obtain ⟨k1, k2, k3, k4, k5, k6⟩ := ih h3 q' m' wt' o' h
    exact ⟨by omega, k2, k3, k4, k5, k6⟩
def AlE (f : Nat → Int → Rs) (e : Ending) : Prop := ∃ v k c r s, e = .returned (.tuple #[.agg #[.int .i64 v, .int .i64 k, .int .i64 c, .int .i64 r], .int .i64 s, .int .i64 0]) ∧ Al f 0 0 0 (v, k, c, r, s) ∧ 0 ≤ s ∧ s ≤ 4611686018427387904
structure AlB (w wr : World) (q : Nat) (m : Int) (x : Ar) : Prop where
  g : Gr w wr
  b0 : Bx wr w.heap.size (.int .u16 x.sp) (.string x.nm) (.int .i64 x.r) (.bool x.cn)
  b1 : Bx wr (w.heap.size + 1) (.int .i64 0) (.int .i64 0) (.int .i64 0) (.int .i64 0)
  b2 : Bx wr (w.heap.size + 1 + 1) (.int .i64 q) (.int .i64 m) (.int .i64 0) (.int .i64 0)
theorem AlB.gr {w wr w' : World} {q : Nat} {m : Int} {x : Ar} (h : AlB w wr q m x) (hg : Gr wr w') : AlB w w' q m x :=
  ⟨h.g.trans hg, h.b0.gr hg, h.b1.gr hg, h.b2.gr hg⟩
theorem alB_start (w : World) (x : Ar) : AlB w (((w.alloc (.cells #[.int .u16 x.sp, .string x.nm, .int .i64 x.r, .bool x.cn] 29)).alloc (.cells #[.int .i64 0, .int .i64 0, .int .i64 0, .int .i64 0] 41)).alloc (.cells #[.int .i64 0, .int .i64 0, .int .i64 0, .int .i64 0] 24)) 0 0 x := by
  refine ⟨(((Gr.refl w).alloc _).alloc _).alloc _, ((bx_new w _ _ _ _ _).al _).al _, ?_, ?_⟩
  · have := bx_new (w.alloc (.cells #[.int .u16 x.sp, .string x.nm, .int .i64 x.r, .bool x.cn] 29)) (.int .i64 0) (.int .i64 0) (.int .i64 0) (.int .i64 0) 41
    simp only [World.size_alloc] at this
    exact this.al _
  · have := bx_new ((w.alloc (.cells #[.int .u16 x.sp, .string x.nm, .int .i64 x.r, .bool x.cn] 29)).alloc (.cells #[.int .i64 0, .int .i64 0, .int .i64 0, .int .i64 0] 41)) (.int .i64 0) (.int .i64 0) (.int .i64 0) (.int .i64 0) 24
    simp only [World.size_alloc] at this
    exact this
theorem AlB.next {w wr : World} {q : Nat} {m : Int} {x : Ar} (h : AlB w wr q m x) (q' : Nat) (m' : Int) :
    AlB w ((((wr.setCell ⟨w.heap.size + 1 + 1, 0, none⟩ (.int .i64 q')).setCell ⟨w.heap.size + 1 + 1, 1, none⟩ (.int .i64 m')).setCell ⟨w.heap.size + 1 + 1, 2, none⟩ (.int .i64 0)).setCell ⟨w.heap.size + 1 + 1, 3, none⟩ (.int .i64 0)) q' m' x :=
  ⟨h.g.set4 (by omega) _ _ _ _, h.b0.far (by omega) _ _ _ _, h.b1.far (by omega) _ _ _ _, h.b2.set _ _ _ _⟩
def placeA (w wr : World) : Nat := (intOf ((wr.cell? ⟨w.heap.size + 1 + 1, 0, none⟩).getD undef)).toNat
theorem AlB.place {w wr : World} {q : Nat} {m : Int} {x : Ar} (h : AlB w wr q m x) : placeA w wr = q := by unfold placeA; rw [h.b2.c0]; simp [intOf]
theorem alone20_no (L : List Sp) (A : Option Addr) (c : Nat) (x : Ar) (w : World) (hk : Kd w) (hs : Sl w A L) (hw : WfS L) (hl : L.length ≤ 1000000000000000) (hb : ¬ Good L) :
    Calls Tryd.prog 20 #[.slice A L.length c, .agg #[.int .u16 x.sp, .string x.nm, .int .i64 x.r, .bool x.cn]] w fun e w' => e = .returned (.tuple #[.agg #[.int .i64 0, .int .i64 0, .int .i64 0, .int .i64 0], .int .i64 0, .int .i64 80]) ∧ Gr w w' := by
  have HC : Hid _ := ready30_no L A c 0 0 0 0 (((w.alloc (.cells #[.int .u16 x.sp, .string x.nm, .int .i64 x.r, .bool x.cn] 29)).alloc (.cells #[.int .i64 0, .int .i64 0, .int .i64 0, .int .i64 0] 41)).alloc (.cells #[.int .i64 0, .int .i64 0, .int .i64 0, .int .i64 0] 24)) (hk.gr (alB_start w x).g) (hs.gr (alB_start w x).g) hw hl hb
  clear hk hs hw hl hb
  go_enter Tryd.func20, Tryd.ntmps20
  go_wp2_with fail
  refine Calls.mono HC.out ?_
  rintro e w1 ⟨rfl, hg⟩
  have HB : Hid (AlB w w1 0 0 x) := (alB_start w x).gr hg
  have c0 := HB.out.b1.c0
  have c1 := HB.out.b1.c1
  have c2 := HB.out.b1.c2
  have c3 := HB.out.b1.c3
  have d0 := HB.out.b1.f0
  have d1 := HB.out.b1.f1
  have d2 := HB.out.b1.f2
  have d3 := HB.out.b1.f3
  go_wp2_with fail
  obtain ⟨_, x0, x1, x2, x3, _, _, _, _⟩ := HB.out.b1.set (.int .i64 0) (.int .i64 0) (.int .i64 0) (.int .i64 0)
  exact bodyPost_ret (v := .tuple #[.agg #[.int .i64 0, .int .i64 0, .int .i64 0, .int .i64 0], .int .i64 0, .int .i64 80]) (by simp [results, Tryd.results20, go_sem, x0, x1, x2, x3]) rfl ⟨rfl, HB.out.g.set4 (by omega) (.int .i64 0) (.int .i64 0) (.int .i64 0) (.int .i64 0)⟩
set_option maxHeartbeats 2000000 in
theorem alone20_ok (L : List Sp) (A : Option Addr) (c : Nat) (x : Ar) (w : World) (hk : Kd w) (hs : Sl w A L) (hw : WfS L) (hg : Good L) (hx : x.ok) :
    Calls Tryd.prog 20 #[.slice A L.length c, .agg #[.int .u16 x.sp, .string x.nm, .int .i64 x.r, .bool x.cn]] w fun e w' => AlE (x.f L) e ∧ Gr w w' := by
  have HC : Hid _ := ready30_ok L A c 0 0 0 (((w.alloc (.cells #[.int .u16 x.sp, .string x.nm, .int .i64 x.r, .bool x.cn] 29)).alloc (.cells #[.int .i64 0, .int .i64 0, .int .i64 0, .int .i64 0] 41)).alloc (.cells #[.int .i64 0, .int .i64 0, .int .i64 0, .int .i64 0] 24)) (hk.gr (alB_start w x).g) (hs.gr (alB_start w x).g) hw hg (Nat.zero_le _)
  have HS : Hid (Sl w A L ∧ Good L ∧ WfS L ∧ x.ok) := ⟨hs, hg, hw, hx⟩
  clear hk hs hw hg hx
  go_enter Tryd.func20, Tryd.ntmps20
  go_wp2_with fail
  refine Calls.mono HC.out ?_
  rintro e w1 ⟨rfl, hg⟩
  have HB : Hid (AlB w w1 0 0 x) := (alB_start w x).gr hg
  clear HC hg
  go_wp2_with fail
  go_loopw [5, 6, 9] (fun v5 v6 v9 wr => v5 = .int .i64 0 ∧ v6 = .int .i64 0 ∧ ∃ (s : Int) (q : Nat) (m : Int), v9 = .int .i64 s ∧ 0 ≤ s ∧ s ≤ 4611686018427387904 ∧ Hid (q ≤ L.length ∧ I64 m ∧ (∀ R, Al (x.f L) q m s R → Al (x.f L) 0 0 0 R)) ∧ Hid (AlB w wr q m x)) (fun _ _ _ wr => L.length + 1 - placeA w wr)
  case atStart => exact ⟨rfl, rfl, 0, 0, 0, rfl, by omega, by omega, ⟨Nat.zero_le _, ⟨by omega, by omega⟩, fun R h => h⟩, HB.out⟩
  case round =>
    obtain ⟨rfl, rfl, s, q, m, rfl, hs0, hs1, HQ, HB⟩ := hrel
    have HC : Hid _ := on32 L A c q m 0 x wr (HS.out.1.gr HB.out.g) HS.out.2.1 HS.out.2.2.1 HQ.out.2.1 HQ.out.1 HS.out.2.2.2
    have a0 := HB.out.b2.c0
    have a1 := HB.out.b2.c1
    have a2 := HB.out.b2.c2
    have a3 := HB.out.b2.c3
    have b0 := HB.out.b0.c0
    have b1 := HB.out.b0.c1
    have b2 := HB.out.b0.c2
    have b3 := HB.out.b0.c3
    go_wp2_with fail
    refine Calls.mono HC.out ?_
    rintro e w1 ⟨⟨R, rfl, hon⟩, hg⟩
    clear a0 a1 a2 a3 b0 b1 b2 b3 HC
    rcases R with ⟨q', m', wt, o'⟩ | ⟨v, k, cc, r⟩
    rotate_left
    · replace hon : On (x.f L) q m (.fin v k cc r) := hon
      rw [show rsV (Sum.inr (v, k, cc, r)) = _ from rsV_fin v k cc r]
      have HE : Hid (Al (x.f L) 0 0 0 (v, k, cc, r, s)) := HQ.out.2.2 _ (.fin hon)
      clear hon
      simp only [rsV_go, rsV_fin, ckV, otV]
      have HB2 : Hid (AlB w ((w1.alloc (.cells #[.int .i64 0, .int .i64 0, .int .i64 0, .int .i64 0] 24)).alloc (.cells #[.int .i64 v, .int .i64 k, .int .i64 cc, .int .i64 r] 41)) q m x) := (HB.out.gr hg).gr (((Gr.refl _).alloc _).alloc _)
      have c0 := HB2.out.b1.c0
      have c1 := HB2.out.b1.c1
      have c2 := HB2.out.b1.c2
      have c3 := HB2.out.b1.c3
      have d0 := HB2.out.b1.f0
      have d1 := HB2.out.b1.f1
      have d2 := HB2.out.b1.f2
      have d3 := HB2.out.b1.f3
      go_wp2_with fail
      obtain ⟨_, x0, x1, x2, x3, _, _, _, _⟩ := HB2.out.b1.set (.int .i64 v) (.int .i64 k) (.int .i64 cc) (.int .i64 r)
      exact bodyPost_ret (v := .tuple #[.agg #[.int .i64 v, .int .i64 k, .int .i64 cc, .int .i64 r], .int .i64 s, .int .i64 0]) (by simp [results, Tryd.results20, go_sem, x0, x1, x2, x3]) rfl ⟨⟨v, k, cc, r, s, rfl, HE.out, hs0, hs1⟩, HB2.out.g.set4 (by omega) (.int .i64 v) (.int .i64 k) (.int .i64 cc) (.int .i64 r)⟩
    · replace hon : On (x.f L) q m (.go q' m' wt o') := hon
      rw [show rsV (Sum.inl (q', m', wt, o')) = _ from rsV_go q' m' wt o']
      obtain ⟨h1, h2, h3, h4, h5, h6⟩ := on_go HS.out.2.1 HS.out.2.2.1 hon HQ.out.2.1 q' m' wt o' rfl
      have HM : Hid (placeA w wr = q ∧ q < q' ∧ q' ≤ L.length) := ⟨HB.out.place, h1, h2⟩
      have HQ2 : Hid (q' ≤ L.length ∧ I64 m' ∧ (∀ R, Al (x.f L) q' m' (if wt = 2 then capS s o' else s) R → Al (x.f L) 0 0 0 R)) := ⟨h2, h3, fun R h => HQ.out.2.2 R (.go hon h)⟩
      clear hon h1 h2 h3 HQ
      simp only [rsV_go, rsV_fin, ckV, otV]
      have HB2 : Hid (AlB w ((w1.alloc (.cells #[.int .i64 q', .int .i64 m', .int .i64 wt, .int .i64 o'] 24)).alloc (.cells #[.int .i64 0, .int .i64 0, .int .i64 0, .int .i64 0] 41)) q m x) := (HB.out.gr hg).gr (((Gr.refl _).alloc _).alloc _)
      have c0 := HB2.out.b2.c0
      have c1 := HB2.out.b2.c1
      have c2 := HB2.out.b2.c2
      have c3 := HB2.out.b2.c3
      have d0 := HB2.out.b2.f0
      have d1 := HB2.out.b2.f1
      have d2 := HB2.out.b2.f2
      have d3 := HB2.out.b2.f3
      clear hg HB
      rcases h4 with rfl | rfl
      · rw [if_neg (by decide)] at HQ2
        go_wp2_with fail
        go_roundw
        case rel => exact ⟨by first | rfl | trivial, by first | rfl | trivial, s, q', m', by first | rfl | trivial, by omega, by omega, HQ2.out, HB2.out.next q' m'⟩
        case measure =>
          have h1 := (HB2.out.next q' m').place
          have h2 := HM.out
          rw [h2.1, h1]
          omega
      · rw [if_pos rfl] at HQ2
        obtain ⟨h51, h52⟩ := h5 rfl
        clear h5 h6
        have wd : IntKind.i64.wrap (4611686018427387904 - s) = 4611686018427387904 - s := by rw [IntKind.wrap_i64]; omega
        by_cases hle : o' ≤ 4611686018427387904 - s
        · have e : capS s o' = s + o' := by unfold capS; omega
          rw [e] at HQ2
          have wa : IntKind.i64.wrap (s + o') = s + o' := by rw [IntKind.wrap_i64]; omega
          clear e
          go_wp2_with fail
          go_roundw
          case rel => exact ⟨by first | rfl | trivial, by first | rfl | trivial, s + o', q', m', by first | rfl | trivial, by omega, by omega, HQ2.out, HB2.out.next q' m'⟩
          case measure =>
            have h1 := (HB2.out.next q' m').place
            have h2 := HM.out
            rw [h2.1, h1]
            omega
        · have hlt : 4611686018427387904 - s < o' := by omega
          have e : capS s o' = s + (4611686018427387904 - s) := by unfold capS; omega
          rw [e] at HQ2
          have wa : IntKind.i64.wrap (s + (4611686018427387904 - s)) = s + (4611686018427387904 - s) := by rw [IntKind.wrap_i64]; omega
          clear e hle
          go_wp2_with fail
          go_roundw
          case rel => exact ⟨by first | rfl | trivial, by first | rfl | trivial, s + (4611686018427387904 - s), q', m', by first | rfl | trivial, by omega, by omega, HQ2.out, HB2.out.next q' m'⟩
          case measure =>
            have h1 := (HB2.out.next q' m').place
            have h2 := HM.out
            rw [h2.1, h1]
            omega
end Go.Proofs.YtgjojdlbighoaaaDoor
