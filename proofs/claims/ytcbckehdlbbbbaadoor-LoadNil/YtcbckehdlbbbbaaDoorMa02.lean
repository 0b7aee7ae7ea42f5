/- A loader by itself, by the program; the conditions: the recipe lies in memory, the table holds what the start lays, the key's space is a number of 16 bits. -/
import Derived.Test.YtcbckehdlbbbbaaDoorMa01
import Derived.Test.YtcbckehdlbbbbaaDoorCards
import Derived.Test.YtcbckehdlbbbbaaDoorTie
import Derived.OpenShut
import Derived.ShutString
import Derived.LaidMore
import Derived.Stop.LaidErr
import Derived.Deep.DeepHandedRow
import Derived.Deep.Slices
import Derived.Lib.LaidTab
import Derived.Lib.SmallJoins
import Derived.SizedLaws
import Derived.Test.YtcbckehdlbbbbaaDoorProg
import Derived.WalkKit
import Derived.ProofKit
import Derived.BigQuiet
import Derived.BigRegion
import Derived.Maps.Own
import Derived.Maps.OwnOps
import Derived.Maps.OwnSet
import Derived.Maps.Views
import Derived.Carry
import Derived.WalkSpells
import Derived.Deep.AppendLies
import Derived.Deep.QuietTactic
import Derived.Deep.RegionHeld3
import Derived.Deep.RegionWith
import Derived.Lib.QuietBelow
import Derived.OwnWalk
import Derived.Laws.AppendOwnNone
import Derived.Deep.CutRange
import Derived.Deep.CutBlock
import Derived.Deep.RegionLaw
import Derived.Laws.ResultCell
import Derived.Maps.AppendAt
namespace Go.Proofs.YtcbckehdlbbbbaaDoor.Rc
open Go.RowKit Go.Sort
set_option linter.unusedVariables false
set_option linter.unusedSimpArgs false

theorem on_go {x : Ar} {L : List Sp} (hL : Good L) (hw : WfS L) {p : Nat} {n : Int} {R : Rs} (h : On (x.f L) p n R) : I64 n → ∀ q m wt o, R = .go q m wt o →
    p < q ∧ q ≤ L.length ∧ I64 m ∧ (wt = 1 ∨ wt = 2) ∧ (wt = 2 → 0 ≤ o ∧ o ≤ 4611686018427387904) ∧ I64 o := by
  refine h (fun p n R => I64 n → ∀ q m wt o, R = .go q m wt o → p < q ∧ q ≤ L.length ∧ I64 m ∧ (wt = 1 ∨ wt = 2) ∧ (wt = 2 → 0 ≤ o ∧ o ≤ 4611686018427387904) ∧ I64 o) ?_ ?_ ?_
  · intro p n v k c r e _ q m wt o h
    exact Rs.no' h
  · intro p n q m wt on e hn hi q' m' wt' o' h
    obtain ⟨rfl, rfl, rfl, rfl⟩ := Rs.go_inj h
    obtain ⟨h1, h2, h3, h4, h5, h6, h7⟩ := f_go hL hw hi e
    exact ⟨h1, h2, h3, by omega, h5, h6⟩
  · intro p n q m on R e ih hi q' m' wt' o' h
    obtain ⟨h1, h2, h3, h4, h5, h6, h7⟩ := f_go hL hw hi e
    obtain ⟨k1, k2, k3, k4, k5, k6⟩ := ih h3 q' m' wt' o' h
    exact ⟨by omega, k2, k3, k4, k5, k6⟩
def AlE (f : Nat → Int → Rs) (e : Ending) : Prop := ∃ v k c r s, e = .returned (.tuple #[.agg #[.int .i64 v, .int .i64 k, .int .i64 c, .int .i64 r], .int .i64 s, .int .i64 0]) ∧ Al f 0 0 0 (v, k, c, r, s) ∧ 0 ≤ s ∧ s ≤ 4611686018427387904
structure AlB (w wr : World) (q : Nat) (m : Int) (x : Ar) : Prop where
  g : Gr w wr
  b0 : Bx wr w.heap.size (.int .u16 x.sp) (.string x.nm) (.int .i64 x.r) (.bool x.cn)
  b1 : Bx wr (w.heap.size + 1) (.int .i64 0) (.int .i64 0) (.int .i64 0) (.int .i64 0)
  b2 : Bx wr (w.heap.size + 1 + 1) (.int .i64 q) (.int .i64 m) (.int .i64 0) (.int .i64 0)
theorem AlB.gr {w wr w' : World} {q : Nat} {m : Int} {x : Ar} (h : AlB w wr q m x) (hg : Gr wr w') : AlB w w' q m x :=
  ⟨h.g.trans hg, h.b0.gr hg, h.b1.gr hg, h.b2.gr hg⟩
theorem alB_start (w : World) (x : Ar) : AlB w (((w.alloc (.cells #[.int .u16 x.sp, .string x.nm, .int .i64 x.r, .bool x.cn] 71)).alloc (.cells #[.int .i64 0, .int .i64 0, .int .i64 0, .int .i64 0] 51)).alloc (.cells #[.int .i64 0, .int .i64 0, .int .i64 0, .int .i64 0] 76)) 0 0 x := by
  refine ⟨(((Gr.refl w).alloc _).alloc _).alloc _, ((bx_new w _ _ _ _ _).al _).al _, ?_, ?_⟩
  · have := bx_new (w.alloc (.cells #[.int .u16 x.sp, .string x.nm, .int .i64 x.r, .bool x.cn] 71)) (.int .i64 0) (.int .i64 0) (.int .i64 0) (.int .i64 0) 51
    simp only [World.size_alloc] at this
    exact this.al _
  · have := bx_new ((w.alloc (.cells #[.int .u16 x.sp, .string x.nm, .int .i64 x.r, .bool x.cn] 71)).alloc (.cells #[.int .i64 0, .int .i64 0, .int .i64 0, .int .i64 0] 51)) (.int .i64 0) (.int .i64 0) (.int .i64 0) (.int .i64 0) 76
    simp only [World.size_alloc] at this
    exact this
theorem AlB.next {w wr : World} {q : Nat} {m : Int} {x : Ar} (h : AlB w wr q m x) (q' : Nat) (m' : Int) :
    AlB w ((((wr.setCell ⟨w.heap.size + 1 + 1, 0, none⟩ (.int .i64 q')).setCell ⟨w.heap.size + 1 + 1, 1, none⟩ (.int .i64 m')).setCell ⟨w.heap.size + 1 + 1, 2, none⟩ (.int .i64 0)).setCell ⟨w.heap.size + 1 + 1, 3, none⟩ (.int .i64 0)) q' m' x :=
  ⟨h.g.set4 (by omega) _ _ _ _, h.b0.far (by omega) _ _ _ _, h.b1.far (by omega) _ _ _ _, h.b2.set _ _ _ _⟩
def placeA (w wr : World) : Nat := (intOf ((wr.cell? ⟨w.heap.size + 1 + 1, 0, none⟩).getD undef)).toNat
theorem AlB.place {w wr : World} {q : Nat} {m : Int} {x : Ar} (h : AlB w wr q m x) : placeA w wr = q := by unfold placeA; rw [h.b2.c0]; simp [intOf]
set_option maxHeartbeats 2000000 in
theorem alone20_ok (L : List Sp) (A : Option Addr) (c : Nat) (x : Ar) (w : World) (hk : Kd w) (hs : Sl w A L) (hw : WfS L) (hg : Good L) (hx : x.ok) :
    Calls Tryd.prog 23 #[.slice A L.length c, .agg #[.int .u16 x.sp, .string x.nm, .int .i64 x.r, .bool x.cn]] w fun e w' => AlE (x.f L) e ∧ Gr w w' := by
  have HC : Hid _ := ready30_ok L A c 0 0 0 (((w.alloc (.cells #[.int .u16 x.sp, .string x.nm, .int .i64 x.r, .bool x.cn] 71)).alloc (.cells #[.int .i64 0, .int .i64 0, .int .i64 0, .int .i64 0] 51)).alloc (.cells #[.int .i64 0, .int .i64 0, .int .i64 0, .int .i64 0] 76)) (hk.gr (alB_start w x).g) (hs.gr (alB_start w x).g) hw hg (Nat.zero_le _)
  have HS : Hid (Sl w A L ∧ Good L ∧ WfS L ∧ x.ok) := ⟨hs, hg, hw, hx⟩
  clear hk hs hw hg hx
  go_enter Tryd.func23, Tryd.ntmps23
  go_wp2_with fail
  refine Calls.mono HC.out ?_
  rintro e w1 ⟨rfl, hg⟩
  have HB : Hid (AlB w w1 0 0 x) := (alB_start w x).gr hg
  clear HC hg
  go_wp2_with fail
  go_loopw [5, 6, 9] (fun v5 v6 v9 wr => v5 = .int .i64 0 ∧ v6 = .int .i64 0 ∧ ∃ (s : Int) (q : Nat) (m : Int), v9 = .int .i64 s ∧ 0 ≤ s ∧ s ≤ 4611686018427387904 ∧ Hid (q ≤ L.length ∧ I64 m ∧ (∀ R, Al (x.f L) q m s R → Al (x.f L) 0 0 0 R)) ∧ Hid (AlB w wr q m x)) (fun _ _ _ wr => L.length + 1 - placeA w wr)
  case atStart => exact ⟨rfl, rfl, 0, 0, 0, rfl, by omega, by omega, ⟨Nat.zero_le _, ⟨by omega, by omega⟩, fun R h => h⟩, HB.out⟩
  case round =>
    obtain ⟨rfl, rfl, s, q, m, rfl, hs0, hs1, HQ, HB⟩ := hrel
    have HC : Hid _ := on32 L A c q m 0 x wr (HS.out.1.gr HB.out.g) HS.out.2.1 HS.out.2.2.1 HQ.out.2.1 HQ.out.1 HS.out.2.2.2
    have a0 := HB.out.b2.c0
    have a1 := HB.out.b2.c1
    have a2 := HB.out.b2.c2
    have a3 := HB.out.b2.c3
    have b0 := HB.out.b0.c0
    have b1 := HB.out.b0.c1
    have b2 := HB.out.b0.c2
    have b3 := HB.out.b0.c3
    go_wp2_with fail
    refine Calls.mono HC.out ?_
    rintro e w1 ⟨⟨R, rfl, hon⟩, hg⟩
    clear a0 a1 a2 a3 b0 b1 b2 b3 HC
    rcases R with ⟨q', m', wt, o'⟩ | ⟨v, k, cc, r⟩
    rotate_left
    · replace hon : On (x.f L) q m (.fin v k cc r) := hon
      rw [show rsV (Sum.inr (v, k, cc, r)) = _ from rsV_fin v k cc r]
      have HE : Hid (Al (x.f L) 0 0 0 (v, k, cc, r, s)) := HQ.out.2.2 _ (.fin hon)
      clear hon
      simp only [rsV_go, rsV_fin, ckV, otV]
      have HB2 : Hid (AlB w ((w1.alloc (.cells #[.int .i64 0, .int .i64 0, .int .i64 0, .int .i64 0] 76)).alloc (.cells #[.int .i64 v, .int .i64 k, .int .i64 cc, .int .i64 r] 51)) q m x) := (HB.out.gr hg).gr (((Gr.refl _).alloc _).alloc _)
      have c0 := HB2.out.b1.c0
      have c1 := HB2.out.b1.c1
      have c2 := HB2.out.b1.c2
      have c3 := HB2.out.b1.c3
      have d0 := HB2.out.b1.f0
      have d1 := HB2.out.b1.f1
      have d2 := HB2.out.b1.f2
      have d3 := HB2.out.b1.f3
      go_wp2_with fail
      obtain ⟨_, x0, x1, x2, x3, _, _, _, _⟩ := HB2.out.b1.set (.int .i64 v) (.int .i64 k) (.int .i64 cc) (.int .i64 r)
      exact bodyPost_ret (v := .tuple #[.agg #[.int .i64 v, .int .i64 k, .int .i64 cc, .int .i64 r], .int .i64 s, .int .i64 0]) (by simp [results, Tryd.results23, go_sem, x0, x1, x2, x3]) rfl ⟨⟨v, k, cc, r, s, rfl, HE.out, hs0, hs1⟩, HB2.out.g.set4 (by omega) (.int .i64 v) (.int .i64 k) (.int .i64 cc) (.int .i64 r)⟩
    · replace hon : On (x.f L) q m (.go q' m' wt o') := hon
      rw [show rsV (Sum.inl (q', m', wt, o')) = _ from rsV_go q' m' wt o']
      obtain ⟨h1, h2, h3, h4, h5, h6⟩ := on_go HS.out.2.1 HS.out.2.2.1 hon HQ.out.2.1 q' m' wt o' rfl
      have HM : Hid (placeA w wr = q ∧ q < q' ∧ q' ≤ L.length) := ⟨HB.out.place, h1, h2⟩
      have HQ2 : Hid (q' ≤ L.length ∧ I64 m' ∧ (∀ R, Al (x.f L) q' m' (if wt = 2 then capS s o' else s) R → Al (x.f L) 0 0 0 R)) := ⟨h2, h3, fun R h => HQ.out.2.2 R (.go hon h)⟩
      clear hon h1 h2 h3 HQ
      simp only [rsV_go, rsV_fin, ckV, otV]
      have HB2 : Hid (AlB w ((w1.alloc (.cells #[.int .i64 q', .int .i64 m', .int .i64 wt, .int .i64 o'] 76)).alloc (.cells #[.int .i64 0, .int .i64 0, .int .i64 0, .int .i64 0] 51)) q m x) := (HB.out.gr hg).gr (((Gr.refl _).alloc _).alloc _)
      have c0 := HB2.out.b2.c0
      have c1 := HB2.out.b2.c1
      have c2 := HB2.out.b2.c2
      have c3 := HB2.out.b2.c3
      have d0 := HB2.out.b2.f0
      have d1 := HB2.out.b2.f1
      have d2 := HB2.out.b2.f2
      have d3 := HB2.out.b2.f3
      clear hg HB
      rcases h4 with rfl | rfl
      · rw [if_neg (by decide)] at HQ2
        go_wp2_with fail
        go_roundw
        case rel => exact ⟨by first | rfl | trivial, by first | rfl | trivial, s, q', m', by first | rfl | trivial, by omega, by omega, HQ2.out, HB2.out.next q' m'⟩
        case measure =>
          have h1 := (HB2.out.next q' m').place
          have h2 := HM.out
          rw [h2.1, h1]
          omega
      · rw [if_pos rfl] at HQ2
        obtain ⟨h51, h52⟩ := h5 rfl
        clear h5 h6
        have wd : IntKind.i64.wrap (4611686018427387904 - s) = 4611686018427387904 - s := by rw [IntKind.wrap_i64]; omega
        by_cases hle : o' ≤ 4611686018427387904 - s
        · have e : capS s o' = s + o' := by unfold capS; omega
          rw [e] at HQ2
          have wa : IntKind.i64.wrap (s + o') = s + o' := by rw [IntKind.wrap_i64]; omega
          clear e
          go_wp2_with fail
          go_roundw
          case rel => exact ⟨by first | rfl | trivial, by first | rfl | trivial, s + o', q', m', by first | rfl | trivial, by omega, by omega, HQ2.out, HB2.out.next q' m'⟩
          case measure =>
            have h1 := (HB2.out.next q' m').place
            have h2 := HM.out
            rw [h2.1, h1]
            omega
        · have hlt : 4611686018427387904 - s < o' := by omega
          have e : capS s o' = s + (4611686018427387904 - s) := by unfold capS; omega
          rw [e] at HQ2
          have wa : IntKind.i64.wrap (s + (4611686018427387904 - s)) = s + (4611686018427387904 - s) := by rw [IntKind.wrap_i64]; omega
          clear e hle
          go_wp2_with fail
          go_roundw
          case rel => exact ⟨by first | rfl | trivial, by first | rfl | trivial, s + (4611686018427387904 - s), q', m', by first | rfl | trivial, by omega, by omega, HQ2.out, HB2.out.next q' m'⟩
          case measure =>
            have h1 := (HB2.out.next q' m').place
            have h2 := HM.out
            rw [h2.1, h1]
            omega
end Go.Proofs.YtcbckehdlbbbbaaDoor.Rc
/- What every law of this program's eighth layer takes in: the table of the kinds of steps, a world that holds it, a list of steps and what surrounds a loader, opened and shut; no conditions. -/
namespace Go.Proofs.YtcbckehdlbbbbaaDoor.Rc
open Go.ChangeShapes Go.WideShapes Go.ChangeAt Go.RowKit
set_option linter.unusedVariables false

theorem own : ownKnob Tryd.prog.godebug = none := by kernel_rfl
theorem laidOut : laidOutB Tryd.prog = true := by kernel_rfl
theorem cells2 : Tryd.prog.cellsOf 2 = 1 := by kernel_rfl
theorem cells3 : Tryd.prog.cellsOf 3 = 1 := by kernel_rfl
theorem cells4 : Tryd.prog.cellsOf 4 = 1 := by kernel_rfl
theorem cells9 : Tryd.prog.cellsOf 9 = 1 := by kernel_rfl
theorem cells27 : Tryd.prog.cellsOf 30 = 2 := by kernel_rfl
theorem cells29 : Tryd.prog.cellsOf 71 = 4 := by kernel_rfl
theorem cells64 : Tryd.prog.cellsOf 35 = 3 := by kernel_rfl
theorem cells105 : Tryd.prog.cellsOf 154 = 2 := by kernel_rfl
theorem cells106 : Tryd.prog.cellsOf 155 = 4 := by kernel_rfl
theorem cells108 : Tryd.prog.cellsOf 157 = 6 := by kernel_rfl
theorem cells109 : Tryd.prog.cellsOf 158 = 78 := by kernel_rfl
theorem gKinds : Tryd.prog.globalNamed "convoy/recipe.kinds" = some 0 := by kernel_rfl
theorem gKindsType : (Tryd.prog.globals[0]?).map (·.type) = some 158 := by kernel_rfl
section
variable {H : Type} {enc : TypeId × Value → H} {w : World} {base : Nat} {sp : Nat → Bool} {held : Bool} {fuel : Nat}
set_option maxRecDepth 100000 in
theorem span_of {cs : List Value} {l g : Int} {p : List MemPlace} (h : DataW.trod enc Tryd.prog w base sp held fuel 154 cs = some (.agg [.lit (.int .i64 l), .lit (.int .i64 g)], p)) : cs = [.int .i64 l, .int .i64 g] := by
  obtain ⟨xs, n, _, hx, hl, hlen, hf⟩ := DataW.trod_struct Tryd.underlying154 h
  rw [cells105] at hl
  match xs, hlen with
  | [y0, y1], _ =>
    have g0 := hf 0 _ rfl
    have g1 := hf 1 _ rfl
    match cs, hl with
    | [v0, v1], _ =>
      simp [cells2] at g0 g1 hx
      obtain ⟨a, a1, a2, _⟩ := DataW.trod_int Tryd.underlying2 g0
      obtain ⟨b, b1, b2, _⟩ := DataW.trod_int Tryd.underlying2 g1
      simp at a1 b1
      subst a1 b1 a2 b2
      simp at hx
      obtain ⟨⟨rfl, rfl⟩, _⟩ := hx
      rfl
set_option maxRecDepth 100000 in
theorem two_of {cs : List Value} {l g l' g' : Int} {p : List MemPlace} (h : DataW.trod enc Tryd.prog w base sp held fuel 155 cs = some (.agg [.agg [.lit (.int .i64 l), .lit (.int .i64 g)], .agg [.lit (.int .i64 l'), .lit (.int .i64 g')]], p)) : cs = [.int .i64 l, .int .i64 g, .int .i64 l', .int .i64 g'] := by
  obtain ⟨xs, n, _, hx, hl, hlen, hf⟩ := DataW.trod_array Tryd.underlying155 h
  rw [cells106] at hl
  match xs, hlen with
  | [y0, y1], _ =>
    have g0 := hf 0 (by decide)
    have g1 := hf 1 (by decide)
    match cs, hl with
    | [v0, v1, v2, v3], _ =>
      simp [cells105] at g0 g1 hx
      obtain ⟨d0, p0⟩ := y0
      obtain ⟨d1, p1⟩ := y1
      simp at hx
      obtain ⟨⟨rfl, rfl⟩, _⟩ := hx
      have e0 := span_of g0
      have e1 := span_of g1
      simp at e0 e1
      obtain ⟨rfl, rfl⟩ := e0
      obtain ⟨rfl, rfl⟩ := e1
      rfl
def kD (z : List UInt8) (k l g l' g' : Int) : DataW H := .agg [.lit (.string z), .lit (.int .i64 k), .agg [.agg [.lit (.int .i64 l), .lit (.int .i64 g)], .agg [.lit (.int .i64 l'), .lit (.int .i64 g')]]]
set_option maxRecDepth 100000 in
theorem kind_of {cs : List Value} {z : List UInt8} {k l g l' g' : Int} {p : List MemPlace} (h : DataW.trod enc Tryd.prog w base sp held fuel 157 cs = some (kD z k l g l' g', p)) : cs = [.string ⟨z.toArray⟩, .int .i64 k, .int .i64 l, .int .i64 g, .int .i64 l', .int .i64 g'] := by
  obtain ⟨xs, n, _, hx, hl, hlen, hf⟩ := DataW.trod_struct Tryd.underlying157 h
  rw [cells108] at hl
  match xs, hlen with
  | [y0, y1, y2], _ =>
    have g0 := hf 0 _ rfl
    have g1 := hf 1 _ rfl
    have g2 := hf 2 _ rfl
    match cs, hl with
    | [v0, v1, v2, v3, v4, v5], _ =>
      simp [cells9, cells3, cells106] at g0 g1 g2
      obtain ⟨d0, p0⟩ := y0
      obtain ⟨d1, p1⟩ := y1
      obtain ⟨d2, p2⟩ := y2
      simp [kD] at hx
      obtain ⟨⟨rfl, rfl, rfl⟩, _⟩ := hx
      obtain ⟨s, s1, s2, _⟩ := DataW.trod_string Tryd.underlying9 g0
      obtain ⟨b, b1, b2, _⟩ := DataW.trod_int Tryd.underlying3 g1
      have e2 := two_of g2
      simp at s1 b1 b2 s2 e2
      obtain ⟨rfl, rfl, rfl, rfl⟩ := e2
      subst s1 b1
      obtain ⟨rfl, _⟩ := b2
      obtain ⟨rfl, _⟩ := s2
      rfl
end
theorem kinds_eq {H : Type} : (Rows.laid_convoy_recipe_kinds : DataW H) = .agg ((List.range 13).map fun k => kD (kWord k).data.toList (kNamed k) (kLa k) (kHa k) (kLb k) (kHb k)) := rfl
theorem kd_of {W : World} {rest : List (String × DataW Unit)} (h : laidMet Tryd.prog (("convoy/recipe.kinds", Rows.laid_convoy_recipe_kinds) :: rest) W) : Kd W := by
  obtain ⟨ps, ⟨g', t', cs, fuel, p, q, hg', ht', hvar, hd, _, _⟩, _⟩ := h
  obtain rfl := Option.some.inj (gKinds.symm.trans hg')
  obtain rfl := Option.some.inj (gKindsType.symm.trans ht')
  rw [kinds_eq] at hd
  obtain ⟨xs, n, _, hx, hl, hlen, hf⟩ := DataW.trod_array Tryd.underlying158 hd
  have each : ∀ k, k < 13 → (cs.toList.drop (k * 6)).take 6 = [.string (kWord k), .int .i64 (kNamed k), .int .i64 (kLa k), .int .i64 (kHa k), .int .i64 (kLb k), .int .i64 (kHb k)] := fun k hk => by
    have h1 := hf k hk
    rw [cells108] at h1
    have h2 : xs[k]? = some (kD (kWord k).data.toList (kNamed k) (kLa k) (kHa k) (kLb k) (kHb k), (xs[k]'(by omega)).2) := by
      rw [List.getElem?_eq_getElem (by omega)]
      have h3 : (xs.map (·.1))[k]? = some (kD (kWord k).data.toList (kNamed k) (kLa k) (kHa k) (kLb k) (kHb k)) := by
        have h4 := congrArg Prod.fst hx
        simp only [DataW.agg.injEq] at h4
        rw [← h4, List.getElem?_map, List.getElem?_range hk]
        rfl
      rw [List.getElem?_map, List.getElem?_eq_getElem (by omega)] at h3
      simp only [Option.map_some, Option.some.injEq] at h3
      rw [← h3]
    rw [h2] at h1
    have := kind_of h1
    rw [this]
  have cell : ∀ k, k < 13 → ∀ j, j < 6 → W.cell? ⟨0, k * 6 + j, none⟩ = ([.string (kWord k), .int .i64 (kNamed k), .int .i64 (kLa k), .int .i64 (kHa k), .int .i64 (kLb k), .int .i64 (kHb k)] : List Value)[j]? := fun k hk j hj => by
    rw [World.var?_cell gKinds hvar (k * 6 + j), ← each k hk, List.getElem?_take, if_pos hj, List.getElem?_drop]
    simp
  exact ⟨fun k hk => cell k hk 0 (by decide), fun k hk => cell k hk 1 (by decide), fun k hk => cell k hk 2 (by decide), fun k hk => cell k hk 3 (by decide), fun k hk => cell k hk 4 (by decide), fun k hk => cell k hk 5 (by decide)⟩
theorem door_met (os : Os) (args : Array Value) : laidMetH Tryd.prog Rows.loadNilRow.laid ((World.doorLaid Tryd.prog 100 os).forCall (fun _ _ => 0) ⟨#[], args, []⟩).memory := by
  rw [MakeChecks.laidMetH_plain _ _ _ (by kernel_rfl)]
  exact laidMet_of_run' 8 (by kernel_rfl) (by kernel_rfl)
theorem kd_row {W : World} (h : laidMetH Tryd.prog Rows.loadNilRow.laid W) : Kd W := by
  rw [MakeChecks.laidMetH_plain _ _ _ (by kernel_rfl)] at h
  exact kd_of (rest := []) h
theorem i64_of {z : Int} (h : (Lit.int .i64 z).wf = true) : I64 z := by
  have h := h
  simp [Lit.wf, IntKind.min, IntKind.max, IntKind.bits, IntKind.signed] at h
  unfold I64
  omega
theorem u16_of {a : Int} (h : (Lit.int .u16 a).wf = true) : 0 ≤ a ∧ a ≤ 65535 := by
  simp [Lit.wf, IntKind.min, IntKind.max, IntKind.bits, IntKind.signed] at h
  omega
set_option maxRecDepth 100000 in
theorem fields64 {H : Type} {enc : TypeId × Value → H} {W : World} {base fuel : Nat} {spare : Nat → Bool} {held : Bool} {cs : List Value} {x : DataW H × List MemPlace} (h : DataW.trod enc Tryd.prog W base spare held fuel 35 cs = some x) (hl : cs.length = 3) : ∃ a : Sp, cs = [.int .i64 a.1, .int .i64 a.2.1, .int .i64 a.2.2] ∧ I64 a.1 ∧ I64 a.2.1 ∧ I64 a.2.2 := by
  obtain ⟨ys, k, hk, hxy, _, hyl, hfe⟩ := DataW.trod_struct Tryd.underlying35 h
  match cs, hl with
  | [v0, v1, v2], _ =>
    have hy : ys.length = 3 := hyl
    match ys, hy with
    | [y0, y1, y2], _ =>
      have g0 := hfe 0 _ rfl
      have g1 := hfe 1 _ rfl
      have g2 := hfe 2 _ rfl
      simp [cells3, cells2] at g0 g1 g2
      obtain ⟨A, a1, _, wa⟩ := DataW.trod_int Tryd.underlying3 g0
      obtain ⟨B, b1, _, wb⟩ := DataW.trod_int Tryd.underlying2 g1
      obtain ⟨C, c1, _, wc⟩ := DataW.trod_int Tryd.underlying2 g2
      simp at a1 b1 c1
      subst a1 b1 c1
      exact ⟨(A, B, C), rfl, i64_of wa, i64_of wb, i64_of wc⟩
theorem add_plain (b off j : Nat) : (⟨b, off, none⟩ : Addr).add j = ⟨b, off + j, none⟩ := by simp [Addr.add]
set_option maxRecDepth 100000 in
theorem open_steps {H : Type} {enc : TypeId × Value → H} {W : World} {b0 : Nat} {v : Value} {d : DataW H} {p : List MemPlace} (hv : Value.okWide Tryd.prog W .any b0 31 v) (h : DataW.Trod enc Tryd.prog W 0 (fun _ => true) true 31 v d p) :
    ∃ (A : Option Addr) (c : Nat) (L : List Sp), v = .slice A L.length c ∧ Sl W A L ∧ WfS L ∧ (L = [] ∨ ∃ elems spare, d = .slice elems spare ∧ elems.length = L.length) := by
  obtain ⟨a, len, cap, rfl⟩ := okWide_slice Tryd.underlying31 hv
  obtain ⟨fuel, hf⟩ := h
  rcases Deep.open_slice Tryd.underlying31 hf with ⟨hcs, _⟩ | ⟨x, l, c, m, n, D, Pl, hcs, _, hl, hm, hmm, hx, hall⟩
  · simp [Value.cells] at hcs
    obtain ⟨rfl, rfl, rfl⟩ := hcs
    exact ⟨_, _, [], rfl, fun i hi => by simp at hi, fun x hx => by simp at hx, Or.inl rfl⟩
  · simp [Value.cells] at hcs
    obtain ⟨rfl, rfl, rfl⟩ := hcs
    simp only [if_true] at hmm
    subst hmm
    simp only [Prod.mk.injEq] at hx
    obtain ⟨rfl, rfl⟩ := hx
    rw [cells64] at hall
    have each : ∀ i, i < m → ∃ q : Sp, W.cell? (x.add (i * 3)) = some (.int .i64 q.1) ∧ W.cell? (x.add (i * 3 + 1)) = some (.int .i64 q.2.1) ∧ W.cell? (x.add (i * 3 + 2)) = some (.int .i64 q.2.2) ∧ I64 q.1 ∧ I64 q.2.1 ∧ I64 q.2.2 := fun i hi => by
      obtain ⟨cs', h1, h2⟩ := hall i hi
      obtain ⟨_, hlen, hcell⟩ := World.cells?_some h1
      obtain ⟨q, rfl, hw⟩ := fields64 h2 hlen
      have e0 := hcell 0 (by simp)
      have e1 := hcell 1 (by simp)
      have e2 := hcell 2 (by simp)
      rw [Deep.add_add] at e0 e1 e2
      exact ⟨q, by simpa using e0, by simpa using e1, by simpa using e2, hw⟩
    haveI : Inhabited Sp := ⟨(0, 0, 0)⟩
    obtain ⟨q, hq⟩ := Deep.choose_lt each
    rcases Nat.eq_zero_or_pos len with e | e
    · subst e
      exact ⟨_, _, [], rfl, fun i hi => by simp at hi, fun x hx => by simp at hx, Or.inl rfl⟩
    · have hsp : x.spot = none := by
        have h0 := (hq 0 (by omega)).1
        rw [show x.add (0 * 3) = x by simp [Addr.add]] at h0
        unfold World.cell? at h0
        split at h0
        · split at h0
          · cases h0
          · rename_i hs
            cases hh : x.spot with
            | none => rfl
            | some z => rw [hh] at hs; exact absurd rfl hs
        · cases h0
      obtain ⟨b, off, r⟩ := x
      obtain rfl : r = none := hsp
      have hlen : ((List.range len).map q).length = len := by simp
      refine ⟨some ⟨b, off, none⟩, m, (List.range len).map q, by rw [hlen], fun i hi => ?_, fun y hy => ?_, Or.inr ⟨_, _, rfl, by simp⟩⟩
      · rw [hlen] at hi
        obtain ⟨h0, h1, h2, _⟩ := hq i (by omega)
        refine ⟨b, off, rfl, ?_, ?_, ?_⟩
        · simpa [add_plain] using h0
        · simpa [add_plain, Nat.add_assoc] using h1
        · simpa [add_plain, Nat.add_assoc] using h2
      · simp only [List.mem_map, List.mem_range] at hy
        obtain ⟨i, hi, rfl⟩ := hy
        exact (hq i (by omega)).2.2.2
end Go.Proofs.YtcbckehdlbbbbaaDoor.Rc
/- What a call may touch, and maps keyed by whole numbers as plain functions; no conditions. -/
namespace Go.Proofs.YtcbckehdlbbbbaaDoor
open Go.RowKit Go.Maps Go.ChangeMaps
set_option linter.unusedVariables false

theorem hid {p : Prop} (h : p) : Hid p := h
structure Touch (F : List Nat) (w w' : World) : Prop where
  os : w'.os = w.os
  tape : w'.tape = w.tape
  output : w'.output = w.output
  size : w.heap.size ≤ w'.heap.size
  block : ∀ k, k < w.heap.size → ¬ k ∈ F → w'.heap[k]? = w.heap[k]?
theorem Touch.refl (F : List Nat) (w : World) : Touch F w w := ⟨rfl, rfl, rfl, Nat.le_refl _, fun _ _ _ => rfl⟩
theorem Touch.mono {F G : List Nat} {w w' : World} (h : Touch F w w') (hs : ∀ k, k ∈ F → k ∈ G) : Touch G w w' := ⟨h.os, h.tape, h.output, h.size, fun k hk hn => h.block k hk (fun e => hn (hs k e))⟩
/-- The later step may touch what the first one may, and what the first one laid. -/
theorem Touch.trans {F G : List Nat} {a b c : World} (h : Touch F a b) (k : Touch G b c) (hs : ∀ i, i ∈ G → i ∈ F ∨ a.heap.size ≤ i) : Touch F a c :=
  ⟨k.os.trans h.os, k.tape.trans h.tape, k.output.trans h.output, Nat.le_trans h.size k.size, fun i hi hn =>
    (k.block i (Nat.lt_of_lt_of_le hi h.size) (fun e => (hs i e).elim hn (fun e' => by omega))).trans (h.block i hi hn)⟩
theorem Touch.trans' {F : List Nat} {a b c : World} (h : Touch F a b) (k : Touch F b c) : Touch F a c := h.trans k (fun _ e => Or.inl e)
theorem Touch.alloc {F : List Nat} {a b : World} (h : Touch F a b) (o : Obj) : Touch F a (b.alloc o) :=
  h.trans' ⟨rfl, rfl, rfl, by simp, fun k hk _ => Below.heap_alloc _ _ _ hk⟩
theorem Touch.setCell {F : List Nat} {a b : World} (h : Touch F a b) {p : Addr} (hp : p.block ∈ F ∨ a.heap.size ≤ p.block) (v : Value) : Touch F a (b.setCell p v) :=
  h.trans (G := [p.block]) ⟨rfl, rfl, rfl, by simp [World.setCell], fun k hk hn => Below.heap_setCell _ _ _ _ (by simpa using hn)⟩ (fun i hi => by simp only [List.mem_singleton] at hi; subst hi; exact hp)
theorem Touch.grown {F : List Nat} {a b c : World} {row : Option Nat} (h : Touch F a b) (hg : b.grownBy c row) (hr : ∀ k, row = some k → k ∈ F ∨ a.heap.size ≤ k) : Touch F a c :=
  ⟨hg.os.trans h.os, hg.tape.trans h.tape, hg.output.trans h.output, Nat.le_trans h.size hg.size, fun i hi hn => (hg.block i (Nat.lt_of_lt_of_le hi h.size) (fun e => (hr i e.symm).elim hn (fun e' => by omega))).trans (h.block i hi hn)⟩
theorem Touch.drewN {F : List Nat} {a b : World} (h : Touch F a b) (n : Nat) : Touch F a (b.drewN n) := ⟨h.os, h.tape, h.output, h.size, h.block⟩
theorem Touch.drew {F : List Nat} {a b : World} (h : Touch F a b) : Touch F a b.drew := ⟨h.os, h.tape, h.output, h.size, h.block⟩
theorem Touch.below {a b : World} {B : Nat} {F : List Nat} (h : Touch F a b) (hF : ∀ k, k ∈ F → B ≤ k) (hB : B ≤ a.heap.size) : Below B a b :=
  ⟨h.os, h.tape, h.output, h.size, fun k hk => h.block k (by omega) (fun e => by have := hF k e; omega)⟩
theorem Touch.of_below {a b : World} (h : Below a.heap.size a b) : Touch [] a b := ⟨h.os, h.tape, h.output, h.size, fun k hk _ => h.block k hk⟩
theorem block_lt {w : World} {b : Nat} {o : Obj} (h : w.heap[b]? = some o) : b < w.heap.size := (Array.getElem?_eq_some_iff.1 h).1
theorem Touch.keep {F : List Nat} {a b : World} (h : Touch F a b) {k : Nat} {o : Obj} (hk : a.heap[k]? = some o) (hn : ¬ k ∈ F) : b.heap[k]? = some o := (h.block k (block_lt hk) hn).trans hk

def W64 (k : Int) : Prop := (Lit.int .i64 k).wf = true
theorem W64.lo {k : Int} (h : W64 k) : -9223372036854775808 ≤ k := by
  simp [W64, Lit.wf, IntKind.min, IntKind.max, IntKind.bits, IntKind.signed] at h; omega
theorem W64.hi {k : Int} (h : W64 k) : k ≤ 9223372036854775807 := by
  simp [W64, Lit.wf, IntKind.min, IntKind.max, IntKind.bits, IntKind.signed] at h; omega
theorem W64.mk {k : Int} (h : -9223372036854775808 ≤ k) (h' : k ≤ 9223372036854775807) : W64 k := by
  simp [W64, Lit.wf, IntKind.min, IntKind.max, IntKind.bits, IntKind.signed]; omega
theorem keyed3 : Keyed Tryd.prog 3 := int_keyed Tryd.underlying3
theorem key3 {k : Int} (h : W64 k) : keyOf Tryd.prog 3 (.int .i64 k) = some (.int .i64 k) := keyOf_int_mk Tryd.underlying3 h
def HR (v : Value) : Option (DataW Value × List MemPlace) := some (.held v, [])
def MapAt (w : World) (b n : Nat) (f : Int → Option Value) : Prop :=
  ∃ D : DataW Value, w.ownsMap Tryd.prog 3 HR b n D ∧ Maps.size D = n ∧ ∀ k, W64 k → Maps.has D (.int .i64 k) = (f k).isSome ∧ ∀ z, D.atKey (.int .i64 k) (.held z) = .held ((f k).getD z)
theorem MapAt.kept {w w' : World} {b n : Nat} {f : Int → Option Value} (h : MapAt w b n f) (hk : w'.heap[b]? = w.heap[b]?) : MapAt w' b n f := by
  obtain ⟨D, ⟨es, cl, hb, r⟩, h2, h3⟩ := h
  exact ⟨D, ⟨es, cl, hk.trans hb, r⟩, h2, h3⟩
theorem MapAt.lt {w : World} {b n : Nat} {f : Int → Option Value} (h : MapAt w b n f) : b < w.heap.size := by
  obtain ⟨D, h1, _⟩ := h
  exact h1.lt
theorem MapAt.congr {w : World} {b n : Nat} {f g : Int → Option Value} (h : MapAt w b n f) (hf : ∀ k, W64 k → f k = g k) : MapAt w b n g := by
  obtain ⟨D, h1, h2, h3⟩ := h
  exact ⟨D, h1, h2, fun k hk => by rw [← hf k hk]; exact h3 k hk⟩
theorem mapAt_made (w : World) : MapAt (w.alloc (.map #[] 0)) w.heap.size 0 (fun _ => none) :=
  ⟨.map [], World.ownsMap_made _ _ _ _, rfl, fun k hk => ⟨by simp [Maps.has_eq], fun z => by simp [DataW.atKey]⟩⟩
theorem lit_ne {a b : Int} (h : a ≠ b) : (Lit.int .i64 a) ≠ (Lit.int .i64 b) := fun e => h (by injection e)
theorem IsKey64 {k : Int} (h : W64 k) : WideAt.IsKeyLit (.int .i64 k) := keyed3.key (key3 h)
theorem zero3 (w : World) : (zeroValue 3).run Tryd.prog w = .ok (.int .i64 0) w := by kernel_rfl
section
variable {w : World} {b n : Nat} {f : Int → Option Value} {t e : TypeId}
theorem MapAt.look (h : MapAt w b n f) (ht : Tryd.prog.underlying t = some (.map 3 e)) {z : Value} (hz : (zeroValue e).run Tryd.prog w = .ok z w) {k : Int} (hk : W64 k) :
    (Instr.lookup t (.map (some b)) (.int .i64 k) false).run Tryd.prog w = .ok ((f k).getD z) w := by
  obtain ⟨D, h1, h2, h3⟩ := h
  obtain ⟨v, ps, hr, hv⟩ := h1.lookup keyed3 ht hz (zd := .held z) (zp := []) rfl (key3 hk)
  rw [(h3 k hk).2 z] at hv
  simp only [HR, Option.some.injEq, Prod.mk.injEq, DataW.held.injEq] at hv
  rw [hr, hv.1]
theorem MapAt.lookOk (h : MapAt w b n f) (ht : Tryd.prog.underlying t = some (.map 3 e)) {z : Value} (hz : (zeroValue e).run Tryd.prog w = .ok z w) {k : Int} (hk : W64 k) :
    (Instr.lookup t (.map (some b)) (.int .i64 k) true).run Tryd.prog w = .ok (.tuple #[(f k).getD z, .bool (f k).isSome]) w := by
  obtain ⟨D, h1, h2, h3⟩ := h
  obtain ⟨v, ps, hr, hv⟩ := h1.look_ok keyed3 ht hz (zd := .held z) (zp := []) rfl (key3 hk)
  rw [(h3 k hk).2 z] at hv
  simp only [HR, Option.some.injEq, Prod.mk.injEq, DataW.held.injEq] at hv
  rw [hr, hv.1, (h3 k hk).1]
theorem MapAt.len (h : MapAt w b n f) (ht : Tryd.prog.underlying t = some (.map 3 e)) (ty : TypeId) : (Builtin.len_ #[t] ty #[.map (some b)]).run Tryd.prog w = .ok (.int .i64 n) w := by
  obtain ⟨D, h1, h2, h3⟩ := h
  rw [h1.len ht ty, h2]
def upd (f : Int → Option Value) (k : Int) (v : Value) : Int → Option Value := fun j => if j = k then some v else f j
def del (f : Int → Option Value) (k : Int) : Int → Option Value := fun j => if j = k then none else f j
theorem MapAt.set (h : MapAt w b n f) (ht : Tryd.prog.underlying t = some (.map 3 e)) (hn : n < maxLen) {k : Int} (hk : W64 k) (v : Value) :
    ∃ o, (Instr.mapUpdate t (.map (some b)) (.int .i64 k) v).run Tryd.prog w = .ok () (setBlock w b o) ∧ MapAt (setBlock w b o) b (if (f k).isSome then n else n + 1) (upd f k v) := by
  obtain ⟨D, h1, h2, h3⟩ := h
  obtain ⟨w', hr, h4, es, cl, es', cl', hb, rfl⟩ := h1.store keyed3 ht hn (key3 hk) (show HR v = some (.held v, []) from rfl)
  have hT := h1.tidy keyed3
  have hs : Maps.size (D.put (.int .i64 k) (.held v)) = if (f k).isSome then n else n + 1 := by
    rw [size_put hT, (h3 k hk).1, h2]
  refine ⟨_, hr, D.put (.int .i64 k) (.held v), ?_, hs, fun j hj => ?_⟩
  · obtain ⟨es1, cl1, hb1, F1, hs1, hD1⟩ := h4
    refine ⟨es1, cl1, hb1, F1, ?_, hD1⟩
    have e1 : Maps.size (DataW.map ((es1.toList.map (WideElems.rg Tryd.prog 3 HR)).foldr DataW.insert [])) = es1.size := by simp [Maps.size, length_sorted]
    rw [← hD1, hs] at e1
    omega
  · by_cases hjk : j = k
    · subst hjk
      refine ⟨by rw [has_put_same hT.isMap (IsKey64 hj)]; simp [upd], fun z => ?_⟩
      rw [atKey_put_same hT.isMap (IsKey64 hj)]
      simp [upd]
    · refine ⟨by rw [has_put_other (lit_ne hjk), (h3 j hj).1]; simp [upd, hjk], fun z => ?_⟩
      rw [atKey_put_other (lit_ne hjk), (h3 j hj).2]
      simp [upd, hjk]
theorem MapAt.del (h : MapAt w b n f) (ht : Tryd.prog.underlying t = some (.map 3 e)) {k : Int} (hk : W64 k) (ty : TypeId) :
    ∃ o, (Builtin.delete_ #[t, 3] ty #[.map (some b), .int .i64 k]).run Tryd.prog w = .ok (.tuple #[]) (setBlock w b o) ∧ MapAt (setBlock w b o) b (if (f k).isSome then n - 1 else n) (YtcbckehdlbbbbaaDoor.del f k) := by
  obtain ⟨D, h1, h2, h3⟩ := h
  obtain ⟨w', hr, h4, es, cl, es', cl', hb, rfl⟩ := h1.drop keyed3 ht (key3 hk) ty
  have hT := h1.tidy keyed3
  have hs : Maps.size (D.del (.int .i64 k)) = if (f k).isSome then n - 1 else n := by
    have := size_del hT (k := .int .i64 k)
    rw [(h3 k hk).1, h2] at this
    split at this <;> simp_all <;> omega
  refine ⟨_, hr, D.del (.int .i64 k), ?_, hs, fun j hj => ?_⟩
  · obtain ⟨es1, cl1, hb1, F1, hs1, hD1⟩ := h4
    refine ⟨es1, cl1, hb1, F1, ?_, hD1⟩
    have e1 : Maps.size (DataW.map ((es1.toList.map (WideElems.rg Tryd.prog 3 HR)).foldr DataW.insert [])) = es1.size := by simp [Maps.size, length_sorted]
    rw [← hD1, hs] at e1
    omega
  · by_cases hjk : j = k
    · subst hjk
      refine ⟨by rw [has_del_same]; simp [YtcbckehdlbbbbaaDoor.del], fun z => ?_⟩
      rw [atKey_del_same]
      simp [YtcbckehdlbbbbaaDoor.del]
    · refine ⟨by rw [has_del_other (lit_ne hjk), (h3 j hj).1]; simp [YtcbckehdlbbbbaaDoor.del, hjk], fun z => ?_⟩
      rw [atKey_del_other (lit_ne hjk), (h3 j hj).2]
      simp [YtcbckehdlbbbbaaDoor.del, hjk]
end
section
variable (w : World) {ops : Array Oper} {rest : List Oper} {o : Oper} {a : Act} {Q : Exit → Act → World → Prop}
theorem wpList_mlen (hg : o.guard = none) (m : Operand) (t : TypeId) (hop : o.op = Op.call { callee := Callee.builtin Builtin.len, args := #[m], argTypes := #[t] })
    (e : TypeId) (ht : Tryd.prog.underlying t = some (.map 3 e)) (b n : Nat) (f : Int → Option Value) (hm : a.eval m = .map (some b)) (hown : MapAt w b n f)
    (hK : wpList Tryd.prog ops Q rest (a.put o.dst (.int .i64 n)) w) : wpList Tryd.prog ops Q (o :: rest) a w := by
  obtain ⟨D, h1, h2, h3⟩ := hown
  refine wpList_len_own w hg m t hop 3 e ht HR b n D hm h1 ?_
  rw [h2]
  exact hK
theorem wpList_mlook (hg : o.guard = none) (m x : Operand) (t : TypeId) (hop : o.op = Op.lookup t m x false)
    (e : TypeId) (ht : Tryd.prog.underlying t = some (.map 3 e)) {z : Value} (hz : (zeroValue e).run Tryd.prog w = .ok z w) (b n : Nat) (f : Int → Option Value) (hm : a.eval m = .map (some b)) (hown : MapAt w b n f)
    (k : Int) (hx : a.eval x = .int .i64 k) (hk : W64 k) (v : Value) (hv : (f k).getD z = v)
    (hK : wpList Tryd.prog ops Q rest (a.put o.dst v) w) : wpList Tryd.prog ops Q (o :: rest) a w := by
  refine wpList_plain hg fun K' hK' => ?_
  have hrun := hown.look ht hz hk
  rw [hv] at hrun
  unfold Oper.wp
  simp [execOp, hop, hm, hx, hrun, Result.andThen]
  exact hK' _ _ hK
theorem wpList_mlookok (hg : o.guard = none) (m x : Operand) (t : TypeId) (hop : o.op = Op.lookup t m x true)
    (e : TypeId) (ht : Tryd.prog.underlying t = some (.map 3 e)) {z : Value} (hz : (zeroValue e).run Tryd.prog w = .ok z w) (b n : Nat) (f : Int → Option Value) (hm : a.eval m = .map (some b)) (hown : MapAt w b n f)
    (k : Int) (hx : a.eval x = .int .i64 k) (hk : W64 k) (v : Value) (hv : (f k).getD z = v) (B : Bool) (hB : (f k).isSome = B)
    (hK : wpList Tryd.prog ops Q rest (a.put o.dst (.tuple #[v, .bool B])) w) : wpList Tryd.prog ops Q (o :: rest) a w := by
  refine wpList_plain hg fun K' hK' => ?_
  have hrun := hown.lookOk ht hz hk
  rw [hv, hB] at hrun
  unfold Oper.wp
  simp [execOp, hop, hm, hx, hrun, Result.andThen]
  exact hK' _ _ hK
theorem wpList_mdel (hg : o.guard = none) (m x : Operand) (t : TypeId) (hop : o.op = Op.call { callee := Callee.builtin Builtin.delete, args := #[m, x], argTypes := #[t, 3] })
    (e : TypeId) (ht : Tryd.prog.underlying t = some (.map 3 e)) (b n : Nat) (f : Int → Option Value) (hm : a.eval m = .map (some b)) (hown : MapAt w b n f)
    (k : Int) (hx : a.eval x = .int .i64 k) (hk : W64 k)
    (hK : ∀ ob, MapAt (setBlock w b ob) b (if (f k).isSome then n - 1 else n) (YtcbckehdlbbbbaaDoor.del f k) → wpList Tryd.prog ops Q rest (a.put o.dst (.tuple #[])) (setBlock w b ob)) : wpList Tryd.prog ops Q (o :: rest) a w := by
  refine wpList_plain hg fun K' hK' => ?_
  obtain ⟨ob, hrun, h2⟩ := hown.del ht hk o.type
  unfold Oper.wp
  simp [execOp, hop, resolve, invoke, builtin, hm, hx, hrun, Result.andThen]
  exact hK' _ _ (hK ob h2)
theorem wpList_mset (hg : o.guard = none) (m x y : Operand) (t : TypeId) (hop : o.op = Op.mapUpdate t m x y)
    (e : TypeId) (ht : Tryd.prog.underlying t = some (.map 3 e)) (b n : Nat) (f : Int → Option Value) (hm : a.eval m = .map (some b)) (hown : MapAt w b n f) (hn : n < maxLen)
    (k : Int) (hx : a.eval x = .int .i64 k) (hk : W64 k) (v : Value) (hy : a.eval y = v)
    (hK : ∀ ob, MapAt (setBlock w b ob) b (if (f k).isSome then n else n + 1) (upd f k v) → wpList Tryd.prog ops Q rest (a.put o.dst undef) (setBlock w b ob)) : wpList Tryd.prog ops Q (o :: rest) a w := by
  refine wpList_plain hg fun K' hK' => ?_
  obtain ⟨ob, hrun, h2⟩ := hown.set ht hn hk v
  unfold Oper.wp
  simp [execOp, hop, hm, hx, hy, hrun, Result.andThen]
  exact hK' _ _ (hK ob h2)
end
theorem setBlock_other (w : World) (b : Nat) (o : Obj) {k : Nat} (h : k ≠ b) : (setBlock w b o).heap[k]? = w.heap[k]? := by
  simp only [setBlock, Array.getElem?_setIfInBounds]
  rw [if_neg (fun e => h e.symm)]
theorem touch_setBlock {F : List Nat} {a w : World} (h : Touch F a w) {b : Nat} (hb : b ∈ F ∨ a.heap.size ≤ b) (o : Obj) : Touch F a (setBlock w b o) :=
  h.trans (G := [b]) ⟨rfl, rfl, rfl, by simp [setBlock], fun k hk hn => setBlock_other _ _ _ (by simpa using hn)⟩ (fun i hi => by simp only [List.mem_singleton] at hi; subst hi; exact hb)
theorem setBlock_drewN (w : World) (b : Nat) (o : Obj) (n : Nat) : setBlock (w.drewN n) b o = (setBlock w b o).drewN n := rfl
theorem cell_setBlock {w : World} {b : Nat} (o : Obj) {a : Addr} (h : a.block ≠ b) : (setBlock w b o).cell? a = w.cell? a := by simp [World.cell?, setBlock_other w b o h]
theorem frozen_setBlock {w : World} {b : Nat} (o : Obj) {a : Addr} (h : a.block ≠ b) : (setBlock w b o).frozen? a = w.frozen? a := by simp [World.frozen?, setBlock_other w b o h]
end Go.Proofs.YtcbckehdlbbbbaaDoor
/- Rows that a call owns: reading and writing a cell; what a step may add to a footprint. -/
namespace Go.Proofs.YtcbckehdlbbbbaaDoor
open Go.RowKit Go.Maps Go.ChangeMaps
set_option linter.unusedVariables false
theorem own_block {w : World} {base e g c n k : Nat} {xs : List Value} (h : w.ownsRow base e k (.slice (some ⟨g, 0, none⟩) n c) n xs) :
    ∃ cur, w.heap[g]? = some (.cells cur e (0, 0)) ∧ n ≤ c ∧ c ≤ maxLen ∧ cur.size = c * k ∧ cur.toList.take (n * k) = xs ∧ base ≤ g ∧ xs.length = n * k := by
  obtain ⟨h1, h2 | ⟨g', cap', cur, hv, hg, hc, hn, hm, hs, ht⟩⟩ := h
  · cases h2.1
  · simp only [Value.slice.injEq, Option.some.injEq, Addr.mk.injEq, and_true, true_and] at hv
    obtain ⟨rfl, rfl⟩ := hv
    exact ⟨cur, hc, hn, hm, hs, ht, hg, h1⟩
theorem own_cell {w : World} {base e g c n k : Nat} {xs : List Value} (h : w.ownsRow base e k (.slice (some ⟨g, 0, none⟩) n c) n xs) {p : Nat} {v : Value} (hp : xs[p]? = some v) :
    w.cell? ⟨g, p, none⟩ = some v := by
  obtain ⟨cur, hc, hn, hm, hs, ht, hg, hl⟩ := own_block h
  have hp' : p < xs.length := (List.getElem?_eq_some_iff.1 hp).1
  have : cur[p]? = some v := by
    rw [← Array.getElem?_toList, ← hp, ← ht, List.getElem?_take, if_pos (by omega)]
  simp [World.cell?, hc, this]
theorem own_frozen {w : World} {base e g c n k : Nat} {xs : List Value} (h : w.ownsRow base e k (.slice (some ⟨g, 0, none⟩) n c) n xs) (p : Nat) : w.frozen? ⟨g, p, none⟩ = false := by
  obtain ⟨cur, hc, _⟩ := own_block h
  exact Joins.unfrozen_of_block hc _
theorem own_set {w : World} {base e g c n k : Nat} {xs : List Value} (h : w.ownsRow base e k (.slice (some ⟨g, 0, none⟩) n c) n xs) (p : Nat) (v : Value) :
    (w.setCell ⟨g, p, none⟩ v).ownsRow base e k (.slice (some ⟨g, 0, none⟩) n c) n (xs.set p v) := by
  obtain ⟨cur, hc, hn, hm, hs, ht, hg, hl⟩ := own_block h
  refine ⟨by rw [List.length_set]; exact hl, Or.inr ⟨g, c, cur.setIfInBounds p v, rfl, hg, Joins.block_setCell hc _, hn, hm, by simp [hs], ?_⟩⟩
  rw [Array.toList_setIfInBounds, List.take_set, ht]
theorem own_keep {w w' : World} {base e n k : Nat} {v : Value} {xs : List Value} (h : w.ownsRow base e k v n xs) (hk : ∀ b, v.ownBlock = some b → w'.heap[b]? = w.heap[b]?) : w'.ownsRow base e k v n xs := by
  obtain ⟨h1, h2 | ⟨g, cap, cur, rfl, hg, hc, r⟩⟩ := h
  · exact ⟨h1, Or.inl h2⟩
  · exact ⟨h1, Or.inr ⟨g, cap, cur, rfl, hg, (hk g rfl).trans hc, r⟩⟩
theorem own_touch {F : List Nat} {w w' : World} {base e n k : Nat} {v : Value} {xs : List Value} (h : w.ownsRow base e k v n xs) (ht : Touch F w w') (hk : ∀ b, v.ownBlock = some b → ¬ b ∈ F) : w'.ownsRow base e k v n xs :=
  own_keep h (fun b hb => ht.block b (h.lt b hb).2 (hk b hb))
theorem own_form {w : World} {base e n k : Nat} {v : Value} {xs : List Value} (h : w.ownsRow base e k v n xs) : ∃ p c, v = .slice p n c := by
  rcases h.2 with ⟨rfl, rfl⟩ | ⟨g, cap, cur, rfl, _⟩
  · exact ⟨_, _, rfl⟩
  · exact ⟨_, _, rfl⟩

def PT (q : Nat) : Value := .pointer (some ⟨q, 0, none⟩)
def Nf (w : World) (F G : List Nat) : Prop := ∀ k, k ∈ G → k ∈ F ∨ w.heap.size ≤ k
theorem Nf.refl (w : World) (F : List Nat) : Nf w F F := fun _ h => Or.inl h
theorem Nf.trans {w w1 : World} {F G H : List Nat} (h : Nf w F G) (k : Nf w1 G H) (hz : w.heap.size ≤ w1.heap.size) : Nf w F H := fun i hi => by
  rcases k i hi with e | e
  · exact h i e
  · exact Or.inr (Nat.le_trans hz e)
theorem info3 : (Tryd.prog.info? 3).map (fun i => (i.zero, i.size, i.bytes)) = some (some (.int .i64 0), 1, 8) := by kernel_rfl
theorem cell_one_new (w : World) (x : Value) (t : TypeId) : ∀ j u, [x][j]? = some u → (w.alloc (.cells #[x] t)).cell? ((⟨w.heap.size, 0, none⟩ : Addr).add j) = some u := by
  intro j u hj
  match j, hj with
  | 0, hj => simp at hj; subst hj; simp [Addr.add]

theorem own_of_cells {w : World} {base e g c n k : Nat} {cur : Array Value} {xs : List Value} (hc : w.heap[g]? = some (.cells cur e (0, 0))) (hg : base ≤ g) (hn : n ≤ c) (hm : c ≤ maxLen) (hs : cur.size = c * k) (hl : xs.length = n * k)
    (h : ∀ p v, xs[p]? = some v → w.cell? ⟨g, p, none⟩ = some v) : w.ownsRow base e k (.slice (some ⟨g, 0, none⟩) n c) n xs := by
  refine ⟨hl, Or.inr ⟨g, c, cur, rfl, hg, hc, hn, hm, hs, ?_⟩⟩
  have hle : n * k ≤ c * k := Nat.mul_le_mul_right k hn
  refine List.ext_getElem (by rw [List.length_take, Array.length_toList]; omega) (fun p h1 h2 => ?_)
  have := h p xs[p] (List.getElem?_eq_getElem h2)
  have e2 : cur[p]? = some xs[p] := by simpa [World.cell?, hc] using this
  have h3 : p < cur.size := by omega
  rw [Array.getElem?_eq_getElem h3] at e2
  rw [List.getElem_take, Array.getElem_toList]
  exact Option.some.inj e2
def ints (xs : List Int) : List Value := xs.map (Value.int .i64)
theorem own_base {w : World} {B B' e k n : Nat} {v : Value} {xs : List Value} (h : w.ownsRow B e k v n xs) (hb : B' ≤ B) : w.ownsRow B' e k v n xs := by
  obtain ⟨h1, h2 | ⟨g', c', cur, e', hg, r⟩⟩ := h
  · exact ⟨h1, Or.inl h2⟩
  · exact ⟨h1, Or.inr ⟨g', c', cur, e', Nat.le_trans hb hg, r⟩⟩
theorem own_some {w : World} {base e n k : Nat} {v : Value} {xs : List Value} (h : w.ownsRow base e k v n xs) (hn : 0 < n) : ∃ b c, v = .slice (some ⟨b, 0, none⟩) n c ∧ base ≤ b ∧ b < w.heap.size := by
  rcases h.2 with ⟨_, e0⟩ | ⟨g, cap, cur, rfl, hg, hc, _⟩
  · omega
  · exact ⟨g, cap, rfl, hg, block_lt hc⟩
theorem bset {w : World} {g i : Nat} {cs : Array Value} {t : TypeId} {fr : Nat × Nat} (h : w.heap[g]? = some (.cells cs t fr)) (v : Value) : (w.setCell ⟨g, i, none⟩ v).heap[g]? = some (.cells (cs.setIfInBounds i v) t fr) := by
  simp [World.setCell, Array.getElem?_modify, h]
theorem nd_snoc {xs : List Int} {x : Int} (h : xs.Nodup) (hx : ¬ x ∈ xs) : (xs ++ [x]).Nodup := by
  rw [List.nodup_append]
  exact ⟨h, by simp, fun a ha b hb => by simp only [List.mem_singleton] at hb; subst hb; exact fun e => hx (e ▸ ha)⟩

theorem cell_at {w : World} {g j : Nat} {c : Array Value} {t : TypeId} {fr : Nat × Nat} {v : Value} (hb : w.heap[g]? = some (.cells c t fr)) (h : c[j]? = some v) : w.cell? ⟨g, j, none⟩ = some v := by simp [World.cell?, hb, h]
theorem froz_at {w : World} {g : Nat} {c : Array Value} {t : TypeId} (hb : w.heap[g]? = some (.cells c t (0, 0))) (j : Nat) : w.frozen? ⟨g, j, none⟩ = false := by simp [World.frozen?, hb]
/-- A slice that tells whole numbers. -/
def Rd (w : World) (v : Value) (xs : List Int) : Prop := ∃ a c, v = .slice a xs.length c ∧ xs.length ≤ c ∧ c ≤ maxLen ∧ (a = none → c = 0) ∧ (xs = [] ∨ ∃ (b : Nat) (cur : Array Value) (e : Nat) (z : Nat × Nat), a = some ⟨b, 0, none⟩ ∧ w.heap[b]? = some (.cells cur 3 z) ∧ ∀ i (h : i < xs.length), cur[i]? = some (.int .i64 xs[i]))
section
variable {w w' : World} {v : Value} {xs : List Int} {B : Nat}
theorem Rd.of_own (h : w.ownsRow B 3 1 v xs.length (ints xs)) : Rd w v xs := by
  rcases h.2 with ⟨e1, e2⟩ | ⟨g, cap, cur, rfl, hg, hc, hn, hm, hs, ht⟩
  · have : xs = [] := List.length_eq_zero_iff.1 e2
    subst this
    subst e1
    exact ⟨none, 0, rfl, Nat.le_refl _, Nat.zero_le _, fun _ => rfl, Or.inl rfl⟩
  · refine ⟨_, cap, rfl, hn, hm, fun e => (by cases e), Or.inr ⟨g, cur, 3, _, rfl, hc, fun i hi => ?_⟩⟩
    have := own_cell h (p := i) (v := .int .i64 xs[i]) (by simp [ints, hi])
    simpa [World.cell?, hc] using this
theorem Rd.keep {F : List Nat} (h : Rd w v xs) (T : Touch F w w') (hF : ∀ b, v.ownBlock = some b → ¬ b ∈ F) : Rd w' v xs := by
  obtain ⟨a, c, rfl, h1, h2, h0, h3⟩ := h
  refine ⟨a, c, rfl, h1, h2, h0, ?_⟩
  rcases h3 with e | ⟨b, cur, e, z, rfl, hb, hc⟩
  · exact Or.inl e
  · exact Or.inr ⟨b, cur, e, z, rfl, T.keep hb (hF b rfl), hc⟩
theorem Rd.keep0 (h : Rd w v xs) (T : Touch [] w w') : Rd w' v xs := h.keep T (fun _ _ e => by cases e)
theorem Rd.nil (w : World) : Rd w (.slice none 0 0) [] := ⟨none, 0, rfl, Nat.le_refl _, Nat.zero_le _, fun _ => rfl, Or.inl rfl⟩
theorem Rd.form (h : Rd w v xs) : ∃ a c, v = .slice a xs.length c ∧ xs.length ≤ c ∧ c ≤ maxLen := by
  obtain ⟨a, c, e, h1, h2, _⟩ := h
  exact ⟨a, c, e, h1, h2⟩
theorem Rd.one (h : Rd w v xs) : v.oneCell' = true := by
  obtain ⟨a, c, rfl, _⟩ := h
  rfl
theorem Rd.cell {a : Option Addr} {n c i : Nat} (h : Rd w (.slice a n c) xs) (hi : i < xs.length) : ∃ b, a = some ⟨b, 0, none⟩ ∧ w.cell? ⟨b, i, none⟩ = some (.int .i64 xs[i]) := by
  obtain ⟨a', c', e, _, _, _, h3⟩ := h
  simp only [Value.slice.injEq] at e
  obtain ⟨rfl, _, _⟩ := e
  rcases h3 with e | ⟨b, cur, e, z, rfl, hb, hc⟩
  · subst e; simp at hi
  · exact ⟨b, rfl, by simp [World.cell?, hb, hc i hi]⟩
theorem Rd.lt {b : Nat} {n c : Nat} (h : Rd w (.slice (some ⟨b, 0, none⟩) n c) xs) (hi : 0 < xs.length) : b < w.heap.size := by
  obtain ⟨a', c', e, _, _, _, h3⟩ := h
  simp only [Value.slice.injEq] at e
  obtain ⟨rfl, _, _⟩ := e
  rcases h3 with e | ⟨b', cur, e, z, he, hb, hc⟩
  · subst e; simp at hi
  · cases he; exact block_lt hb
end
/-- A slice that tells whole numbers, laid behind a row that a call owns. -/
theorem wpList_append_rd {w : World} {ops : Array Oper} {rest : List Oper} {o : Oper} {a : Act} {Q : Exit → Act → World → Prop} (hgd : o.guard = none) (s x : Operand) (ho : o.op = .call { callee := .builtin .append, args := #[s, x], argTypes := #[59, 59] })
    (base b0 n c0 : Nat) (xs : List Value) (hs : a.eval s = .slice (some ⟨b0, 0, none⟩) n c0) (hown : w.ownsRow base 3 1 (.slice (some ⟨b0, 0, none⟩) n c0) n xs) (sx : Value) (ys : List Int) (hx : a.eval x = sx) (hr : Rd w sx ys) (hb : n + ys.length ≤ 8796093022208) (hbase : base ≤ w.heap.size)
    (h : ∀ b cap w', w'.ownsRow base 3 1 (.slice (some ⟨b, 0, none⟩) (n + ys.length) cap) (n + ys.length) (xs ++ ints ys) → w.grownBy w' (some b0) → wpList Tryd.prog ops Q rest (a.put o.dst (.slice (some ⟨b, 0, none⟩) (n + ys.length) cap)) w') : wpList Tryd.prog ops Q (o :: rest) a w := by
  obtain ⟨i3, hi3, hz0, hz1, hz2⟩ := info_parts info3
  obtain ⟨ad, c, rfl, h1, h2, h0, h3⟩ := hr
  cases ad with
  | none =>
    have e0 := h0 rfl
    subst e0
    have e1 : ys = [] := List.length_eq_zero_iff.1 (by omega)
    subst e1
    refine wpList_append_own_none hgd s x 59 ho base 3 i3 1 Tryd.underlying59 hi3 _ n xs hs hown hx ?_
    have := h b0 c0 w (by simpa [ints] using hown) ⟨rfl, rfl, rfl, Nat.le_refl _, fun _ _ _ => rfl⟩
    simpa using this
  | some ad =>
    refine wpList_append_own w hgd s x 59 ho base 3 i3 (.int .i64 0) 1 8 Tryd.underlying59 hi3 hz0 hz1 hz2 rfl (by decide) _ n xs hs hown ad ys.length c (ints ys) hx (by simp [ints]) (fun j u hu => ?_) (fun u hu => ?_) (by unfold maxLen; omega) (by omega) hbase (fun v' w' r gr nn => ?_)
    · rcases h3 with e | ⟨b, cur, e, z, he, hb, hc⟩
      · subst e; simp [ints] at hu
      · cases he
        have hj : j < ys.length := by
          have := (List.getElem?_eq_some_iff.1 hu).1
          simpa [ints] using this
        have e2 : (⟨b, 0, none⟩ : Addr).add j = ⟨b, j, none⟩ := by unfold Addr.add; split <;> simp_all
        rw [e2]
        simp [ints, hj] at hu
        rw [← hu]
        simp [World.cell?, hb, hc j hj]
    · simp only [ints, List.mem_map] at hu
      obtain ⟨y, _, rfl⟩ := hu
      rfl
    · rcases r.2 with ⟨e, _⟩ | ⟨g, cap, cur, rfl, _⟩
      · have := (nn.1 e).1
        cases this
      · exact h g cap w' r gr
theorem own_kind {w : World} {base e n k : Nat} {v : Value} {xs : List Value} (h : w.ownsRow base e k v n xs) {b : Nat} (hb : v.ownBlock = some b) : ∃ cs, w.heap[b]? = some (.cells cs e (0, 0)) := by
  obtain ⟨h1, h2 | ⟨g, cap, cur, rfl, hg, hc, hn, r⟩⟩ := h
  · rw [h2.1] at hb
    cases hb
  · simp only [Value.ownBlock, Option.some.injEq] at hb
    subst hb
    exact ⟨cur, hc⟩
end Go.Proofs.YtcbckehdlbbbbaaDoor
/- Rows of structs that a call owns, as flat lists of cells; slices laid behind them; no conditions. -/
namespace Go.Proofs.YtcbckehdlbbbbaaDoor
open Go.RowKit Go.Maps Go.ChangeMaps
set_option linter.unusedVariables false
set_option linter.unusedSimpArgs false
section
variable {X : Type} {f : X → List Value} {k : Nat}
theorem flat_len (hf : ∀ x, (f x).length = k) (xs : List X) : (xs.flatMap f).length = xs.length * k := by
  induction xs with
  | nil => simp
  | cons a r ih => rw [List.flatMap_cons, List.length_append, ih, hf, List.length_cons, Nat.succ_mul, Nat.add_comm]
theorem flat_at (hf : ∀ x, (f x).length = k) : ∀ (xs : List X) (i j : Nat) (x : X), xs[i]? = some x → j < k → (xs.flatMap f)[i * k + j]? = (f x)[j]?
  | [], i, j, x, h, hj => by simp at h
  | a :: r, 0, j, x, h, hj => by
    simp at h
    subst h
    rw [List.flatMap_cons, List.getElem?_append_left (by rw [hf]; omega)]
    simp
  | a :: r, i + 1, j, x, h, hj => by
    simp at h
    rw [List.flatMap_cons, List.getElem?_append_right (by rw [hf, Nat.succ_mul]; omega), hf]
    rw [show (i + 1) * k + j - k = i * k + j by rw [Nat.succ_mul]; omega]
    exact flat_at hf r i j x h hj
theorem flat_set (hf : ∀ x, (f x).length = k) (xs : List X) {i j : Nat} {x : X} {v : Value} (h : xs[i]? = some x) (hj : j < k) {y : X} (hy : f y = (f x).set j v) : (xs.flatMap f).set (i * k + j) v = (xs.set i y).flatMap f := by
  induction xs generalizing i with
  | nil => simp at h
  | cons a r ih =>
    cases i with
    | zero =>
      simp at h
      subst h
      simp only [Nat.zero_mul, Nat.zero_add, List.flatMap_cons, List.set_cons_zero]
      rw [List.set_append_left _ _ (by rw [hf]; omega), hy]
    | succ i =>
      simp at h
      simp only [List.flatMap_cons, List.set_cons_succ]
      rw [List.set_append_right _ _ (by rw [hf, Nat.succ_mul]; omega), hf, show (i + 1) * k + j - k = i * k + j by rw [Nat.succ_mul]; omega, ih h]
end
/-- A slice that can be read: n elements of k cells of type t. -/
def Rs (t k : Nat) (w : World) (v : Value) (n : Nat) (vs : List Value) : Prop := vs.length = n * k ∧ ∃ a c, v = .slice a n c ∧ n ≤ c ∧ (a = none → c = 0) ∧ (0 < n → ∃ g off, a = some ⟨g, off, none⟩ ∧ ∃ cs z, w.heap[g]? = some (.cells cs t z) ∧ ∀ j u, vs[j]? = some u → cs[off + j]? = some u)
section
variable {t k n : Nat} {w w' : World} {v : Value} {vs : List Value} {B : Nat}
theorem Rs.of_own (h : w.ownsRow B t k v n vs) : Rs t k w v n vs := by
  rcases h with ⟨h1, ⟨e1, e2⟩ | ⟨g, cap, cur, rfl, hg, hc, hn, hm, hs, ht⟩⟩
  · subst e2
    exact ⟨h1, none, 0, e1, Nat.le_refl _, fun _ => rfl, fun h => absurd h (Nat.lt_irrefl 0)⟩
  · refine ⟨h1, _, cap, rfl, hn, fun e => (by cases e), fun _ => ⟨g, 0, rfl, cur, _, hc, fun j u hu => ?_⟩⟩
    have hj := (List.getElem?_eq_some_iff.1 hu).1
    rw [Nat.zero_add, ← Array.getElem?_toList, ← hu, ← ht, List.getElem?_take, if_pos (by omega)]
theorem Rs.keep {F : List Nat} (h : Rs t k w v n vs) (T : Touch F w w') (hF : ∀ g off n c, v = .slice (some ⟨g, off, none⟩) n c → ¬ g ∈ F) : Rs t k w' v n vs := by
  obtain ⟨h1, a, c, rfl, h2, h3, h4⟩ := h
  refine ⟨h1, a, c, rfl, h2, h3, fun hp => ?_⟩
  obtain ⟨g, off, rfl, cs, z, h5, h6⟩ := h4 hp
  exact ⟨g, off, rfl, cs, z, T.keep h5 (hF g off n c rfl), h6⟩
theorem Rs.keep0 (h : Rs t k w v n vs) (T : Touch [] w w') : Rs t k w' v n vs := h.keep T (fun _ _ _ _ _ e => by cases e)
theorem Rs.form (h : Rs t k w v n vs) : ∃ a c, v = .slice a n c ∧ n ≤ c := by
  obtain ⟨h1, a, c, e, h2, _⟩ := h
  exact ⟨a, c, e, h2⟩
theorem Rs.cell {a : Option Addr} {c j : Nat} {u : Value} (h : Rs t k w (.slice a n c) n vs) (hu : vs[j]? = some u) (hn : 0 < n) : ∃ g off, a = some ⟨g, off, none⟩ ∧ w.cell? ⟨g, off + j, none⟩ = some u := by
  obtain ⟨h1, a', c', e, h2, h3, h4⟩ := h
  cases e
  obtain ⟨g, off, rfl, cs, z, h5, h6⟩ := h4 hn
  exact ⟨g, off, rfl, by simp [World.cell?, h5, h6 j u hu]⟩
end
section
variable {w : World} {ops : Array Oper} {rest : List Oper} {o : Oper} {a : Act} {Q : Exit → Act → World → Prop}
/-- A slice that can be read, laid behind a row that a call owns. -/
theorem wpList_append_rs (hgd : o.guard = none) (s x : Operand) (st et : TypeId) (ho : o.op = .call { callee := .builtin .append, args := #[s, x], argTypes := #[st, st] })
    (z : Value) (k bytes : Nat) (hinfo : (Tryd.prog.info? et).map (fun i => (i.zero, i.size, i.bytes)) = some (some z, k, bytes)) (ht : Tryd.prog.underlying st = some (.slice et)) (hzs : z.cells.size = k) (hk : 0 < k)
    (base : Nat) (v : Value) (n : Nat) (xs : List Value) (hs : a.eval s = v) (hown : w.ownsRow base et k v n xs)
    (u : Value) (m : Nat) (vs : List Value) (hx : a.eval x = u) (hu : Rs et k w u m vs) (h1 : ∀ y ∈ vs, y.oneCell' = true) (h63 : n + m ≤ maxLen) (hbytes : (n + m) * bytes ≤ 140737488355328) (hbase : base ≤ w.heap.size)
    (h : ∀ v' w', w'.ownsRow base et k v' (n + m) (xs ++ vs) → w.grownBy w' v.ownBlock → (v'.ownBlock = v.ownBlock ∨ v'.ownBlock = some w.heap.size) → wpList Tryd.prog ops Q rest (a.put o.dst v') w') : wpList Tryd.prog ops Q (o :: rest) a w := by
  obtain ⟨i3, hf, hz0, hz1, hz2⟩ := info_parts hinfo
  obtain ⟨hl, ad, c, rfl, hc, hn0, hr⟩ := hu
  cases ad with
  | none =>
    have e0 := hn0 rfl
    subst e0
    have em : m = 0 := by omega
    subst em
    have ev : vs = [] := List.length_eq_zero_iff.1 (by omega)
    subst ev
    refine wpList_append_own_none hgd s x st ho base et i3 k ht hf v n xs hs hown hx ?_
    exact h v w (by simpa using hown) (World.grownBy.refl _ _) (Or.inl rfl)
  | some ad =>
    refine wpList_append_own_at w hgd s x st ho base et i3 z k bytes ht hf hz0 hz1 hz2 hzs hk v n xs hs hown ad m c vs hx hl (fun j y hy => ?_) h1 h63 hbytes hbase (fun v' w' q1 q2 q3 q4 => h v' w' q1 q2 q4)
    have hm : 0 < m := by
      rcases Nat.eq_zero_or_pos m with e | e
      · subst e
        have : vs = [] := List.length_eq_zero_iff.1 (by omega)
        subst this
        simp at hy
      · exact e
    obtain ⟨g, off, e, cs, zz, h5, h6⟩ := hr hm
    cases e
    rw [show (⟨g, off, none⟩ : Addr).add j = ⟨g, off + j, none⟩ by simp [Addr.add]]
    simp [World.cell?, h5, h6 j y hy]
end
/-- What an append onto an owned row may touch. -/
theorem touch_grown {w0 w w' : World} {v : Value} {B e k n : Nat} {xs : List Value} (t : Touch [] w0 w) (g : w.grownBy w' v.ownBlock) (h : w.ownsRow B e k v n xs) (hB : w0.heap.size ≤ B) : Touch [] w0 w' :=
  t.trans ((Touch.refl v.ownBlock.toList w).grown g (fun q hq => Or.inl (by simp [hq]))) (fun q hq => Or.inr (Nat.le_trans hB (h.lt q (by simpa using hq)).1))
end Go.Proofs.YtcbckehdlbbbbaaDoor
/- A load in plain words: its items, its results, how far it is, what a step makes of it, and what holds of it at every point; no conditions. -/
namespace Go.Proofs.YtcbckehdlbbbbaaDoor
open Go.RowKit Go.Maps Go.ChangeMaps
set_option linter.unusedVariables false

/-- an item: its run, its key, its token, its recipe -/
structure It where
  run : Int
  sp : Int
  nm : ByteArray
  tok : Int
  L : List Rc.Sp
/-- an item, and the slice that its recipe lies in -/
abbrev Ip := It × Value
/-- an outcome: value, kind, code, run -/
abbrev Oc := Int × Int × Int × Int
/-- a run and its outcome -/
abbrev Rz := Int × Oc
def It.ar (x : It) : Rc.Ar := ⟨x.sp, x.nm, x.run, false⟩
def It.f (x : It) : Nat → Int → Rc.Rs := x.ar.f x.L
structure It.wf (x : It) : Prop where
  run : Rc.I64 x.run
  sp : 0 ≤ x.sp ∧ x.sp ≤ 65535
  tok : Rc.I64 x.tok
  L : Rc.WfS x.L
structure It.ok (x : It) : Prop where
  wf : x.wf
  nm : x.nm.size ≤ 64
  run : 1 ≤ x.run
  tok : 0 ≤ x.tok
  good : Rc.Good x.L
theorem It.ok.ar {x : It} (h : x.ok) : x.ar.ok := ⟨h.wf.sp.1, h.wf.sp.2, by show x.nm.size ≤ _; have := h.nm; omega, h.wf.run⟩
theorem It.f_go {x : It} (h : x.ok) {p : Nat} {n : Int} (hn : Rc.I64 n) {q : Nat} {m wt on : Int} (e : x.f p n = .go q m wt on) : p < q ∧ q ≤ x.L.length ∧ Rc.I64 m ∧ (wt = 0 ∨ wt = 1 ∨ wt = 2) ∧ (wt = 2 → 0 ≤ on ∧ on ≤ 4611686018427387904) ∧ Rc.I64 on ∧ (wt = 0 → on = 0) := Rc.f_go h.good h.wf.L hn e
/-- who comes to a gate comes to one that there is; and only a recipe that has such a step waits -/
theorem step_kind {h r : Int} {c : Bool} {L : List Rc.Sp} (hg : Rc.Good L) {p : Nat} {n : Int} {q : Nat} {m wt on : Int} (e : Rc.stepS h r c L p n = .go q m wt on) :
    (wt = 1 → (0 ≤ on ∧ on < 256) ∧ ∃ x ∈ L, x.1 = 6) ∧ (wt = 2 → ∃ x ∈ L, x.1 = 7) := by
  by_cases hp : p < L.length
  · have hgt : L[p]? = some L[p] := List.getElem?_eq_getElem hp
    have hm : Rc.may L[p] := hg.2 _ (List.getElem_mem hp)
    have hin : L[p] ∈ L := List.getElem_mem hp
    generalize L[p] = z at *
    obtain ⟨op, a, y⟩ := z
    rw [Rc.stepS_at hgt] at e
    have hmay : Rc.may3 op a y := hm
    unfold Rc.may3 at hmay
    rcases hmay with ⟨rfl, _⟩ | ⟨rfl, _⟩ | ⟨rfl, _⟩ | ⟨rfl, _⟩ | ⟨rfl, _⟩ | ⟨rfl, k1, k2, _⟩ | ⟨rfl, k1, k2, _⟩ | ⟨rfl, _⟩ | ⟨rfl, _⟩ | ⟨rfl, _⟩ | ⟨rfl, _⟩ | ⟨rfl, _⟩
    · rw [Rc.stepO_1] at e; obtain ⟨_, _, rfl, _⟩ := Rc.Rs.go_inj e; exact ⟨fun h => absurd h (by decide), fun h => absurd h (by decide)⟩
    · rw [Rc.stepO_2] at e; obtain ⟨_, _, rfl, _⟩ := Rc.Rs.go_inj e; exact ⟨fun h => absurd h (by decide), fun h => absurd h (by decide)⟩
    · rw [Rc.stepO_3] at e; obtain ⟨_, _, rfl, _⟩ := Rc.Rs.go_inj e; exact ⟨fun h => absurd h (by decide), fun h => absurd h (by decide)⟩
    · rw [Rc.stepO_4] at e; obtain ⟨_, _, rfl, _⟩ := Rc.Rs.go_inj e; exact ⟨fun h => absurd h (by decide), fun h => absurd h (by decide)⟩
    · rw [Rc.stepO_5] at e; obtain ⟨_, _, rfl, _⟩ := Rc.Rs.go_inj e; exact ⟨fun h => absurd h (by decide), fun h => absurd h (by decide)⟩
    · rw [Rc.stepO_6] at e; obtain ⟨_, _, rfl, rfl⟩ := Rc.Rs.go_inj e; exact ⟨fun _ => ⟨⟨k1, by omega⟩, _, hin, rfl⟩, fun h => absurd h (by decide)⟩
    · rw [Rc.stepO_7] at e; obtain ⟨_, _, rfl, rfl⟩ := Rc.Rs.go_inj e; exact ⟨fun h => absurd h (by decide), fun _ => ⟨_, hin, rfl⟩⟩
    · rw [Rc.stepO_8] at e
      split at e
      · cases e
      · obtain ⟨_, _, rfl, _⟩ := Rc.Rs.go_inj e; exact ⟨fun h => absurd h (by decide), fun h => absurd h (by decide)⟩
    · rw [Rc.stepO_9] at e
      split at e
      · obtain ⟨_, _, rfl, _⟩ := Rc.Rs.go_inj e; exact ⟨fun h => absurd h (by decide), fun h => absurd h (by decide)⟩
      · obtain ⟨_, _, rfl, _⟩ := Rc.Rs.go_inj e; exact ⟨fun h => absurd h (by decide), fun h => absurd h (by decide)⟩
    · rw [Rc.stepO_10] at e; cases e
    · rw [Rc.stepO_11] at e; cases e
    · rw [Rc.stepO_12] at e; cases e
  · rw [Rc.stepS_end (by omega)] at e
    cases e
theorem It.f_kind {x : It} (h : x.ok) {p : Nat} {n : Int} {q : Nat} {m wt on : Int} (e : x.f p n = .go q m wt on) : (wt = 1 → (0 ≤ on ∧ on < 256) ∧ ∃ z ∈ x.L, z.1 = 6) ∧ (wt = 2 → ∃ z ∈ x.L, z.1 = 7) := step_kind h.good e

/-- How a load stands. -/
structure Ld where
  num : Int
  res : List Rz
  left : List Ip
  p : Nat
  n : Int
  wt : Int
  on : Int
  tm : Int
/-- the place of the item that it is at -/
def Ld.at_ (S : Ld) : Nat := S.res.length - S.left.length
/-- an outcome is laid at a place -/
def putO (res : List Rz) (i : Nat) (o : Oc) : List Rz := res.set i ((res.getD i (0, 0, 0, 0, 0)).1, o)
def allO (res : List Rz) (o : Oc) : List Rz := res.map (fun z => (z.1, o))
/-- the recipe of the item that it is at ends -/
def endS (S : Ld) (o : Oc) : Ld :=
  if o.2.1 = 2 then ⟨S.num, allO S.res o, [], 0, 0, 0, 0, S.tm⟩ else ⟨S.num, putO S.res S.at_ o, S.left.tail, 0, 0, 0, 0, S.tm⟩
/-- it goes on -/
def goS (S : Ld) (q : Nat) (m wt on tm : Int) : Ld := ⟨S.num, S.res, S.left, q, m, wt, on, tm⟩
theorem putO_len (res : List Rz) (i : Nat) (o : Oc) : (putO res i o).length = res.length := by simp [putO]
theorem allO_len (res : List Rz) (o : Oc) : (allO res o).length = res.length := by simp [allO]
theorem putO_fst (res : List Rz) (i : Nat) (o : Oc) : (putO res i o).map (·.1) = res.map (·.1) := by
  unfold putO
  rw [List.map_set]
  by_cases h : i < res.length
  · have e : (res.getD i (0, 0, 0, 0, 0)).1 = (res.map (·.1))[i]'(by simpa using h) := by simp [List.getD_eq_getElem?_getD, h]
    simp only [e]
    exact List.set_getElem_self _
  · rw [List.set_eq_of_length_le (by simpa using h)]
theorem allO_fst (res : List Rz) (o : Oc) : (allO res o).map (·.1) = res.map (·.1) := by simp [allO]
theorem endS_fst (S : Ld) (o : Oc) : (endS S o).res.map (·.1) = S.res.map (·.1) := by
  unfold endS
  split
  · exact allO_fst _ _
  · exact putO_fst _ _ _
theorem endS_len (S : Ld) (o : Oc) : (endS S o).res.length = S.res.length := by
  unfold endS
  split
  · exact allO_len _ _
  · exact putO_len _ _ _
/-- What holds of a load at every point. -/
structure Iv (S : Ld) : Prop where
  num : W64 S.num
  len : S.left.length ≤ S.res.length
  big : S.res.length ≤ 1024
  ok : ∀ q ∈ S.left, q.1.ok
  n : Rc.I64 S.n
  p : ∀ q ∈ S.left.head?, S.p ≤ q.1.L.length
  on : Rc.I64 S.on
theorem Iv.at_lt {S : Ld} (h : Iv S) {q : Ip} {l : List Ip} (e : S.left = q :: l) : S.at_ < S.res.length := by
  have := h.len
  unfold Ld.at_
  rw [e] at this ⊢
  simp only [List.length_cons] at *
  omega
theorem Iv.end_ {S : Ld} (h : Iv S) (o : Oc) : Iv (endS S o) := by
  have hz : Rc.I64 0 := by unfold Rc.I64; omega
  refine ⟨?_, ?_, by rw [endS_len]; exact h.big, ?_, ?_, ?_, ?_⟩
  · unfold endS; split <;> exact h.num
  · rw [endS_len]
    have := h.len
    unfold endS
    split
    · simp
    · simp only [List.length_tail]; omega
  · unfold endS
    split
    · intro q hq; simp at hq
    · exact fun q hq => h.ok q (List.mem_of_mem_tail hq)
  · unfold endS; split <;> exact hz
  · unfold endS
    split
    · intro q hq; simp at hq
    · exact fun q hq => Nat.zero_le _
  · unfold endS; split <;> exact hz
theorem Iv.go {S : Ld} (h : Iv S) {q : Ip} {l : List Ip} (e : S.left = q :: l) {k : Nat} {m wt on : Int} (hf : q.1.f S.p S.n = .go k m wt on) (wt' on' tm : Int) (ho : Rc.I64 on') : Iv (goS S k m wt' on' tm) := by
  have hq : q.1.ok := h.ok q (by rw [e]; simp)
  obtain ⟨h1, h2, h3, _⟩ := It.f_go hq h.n hf
  refine ⟨h.num, h.len, h.big, h.ok, h3, fun z hz => ?_, ho⟩
  have hz' : z ∈ S.left.head? := hz
  rw [e] at hz'
  simp at hz'
  subst hz'
  exact h2
/-- how many steps it can still do at most -/
def remL (l : List Ip) : Nat := (l.map (fun q => q.1.L.length + 1)).sum
def rem (S : Ld) : Nat := remL S.left - S.p
theorem remL_cons (q : Ip) (l : List Ip) : remL (q :: l) = q.1.L.length + 1 + remL l := by simp [remL]
theorem rem_end {S : Ld} (h : Iv S) {q : Ip} {l : List Ip} (e : S.left = q :: l) (o : Oc) : rem (endS S o) < rem S := by
  have hp : S.p ≤ q.1.L.length := h.p q (by rw [e]; simp)
  have e1 : rem S = q.1.L.length + 1 + remL l - S.p := by unfold rem; rw [e, remL_cons]
  have e2 : rem (endS S o) ≤ remL l := by
    unfold rem endS
    split
    · simp [remL]
    · rw [e]; simp
  omega
theorem rem_go {S : Ld} (h : Iv S) {q : Ip} {l : List Ip} (e : S.left = q :: l) {k : Nat} {m wt on : Int} (hf : q.1.f S.p S.n = .go k m wt on) (wt' on' tm : Int) : rem (goS S k m wt' on' tm) < rem S := by
  have hq : q.1.ok := h.ok q (by rw [e]; simp)
  obtain ⟨h1, h2, _⟩ := It.f_go hq h.n hf
  have e1 : rem S = q.1.L.length + 1 + remL l - S.p := by unfold rem; rw [e, remL_cons]
  have e2 : rem (goS S k m wt' on' tm) = q.1.L.length + 1 + remL l - k := by unfold rem goS; rw [e, remL_cons]
  omega
end Go.Proofs.YtcbckehdlbbbbaaDoor
/- Slices that can be read, cell by cell, laid behind rows that a call owns; slices.Clone at items, steps and results; the conditions are those that each states. -/
namespace Go.Proofs.YtcbckehdlbbbbaaDoor
open Go.RowKit Go.Maps Go.ChangeMaps
set_option linter.unusedVariables false
set_option linter.unusedSimpArgs false
/-- A slice that can be read: n elements of k cells. -/
def Rv (k : Nat) (w : World) (v : Value) (n : Nat) (vs : List Value) : Prop := vs.length = n * k ∧ ∃ a c, v = .slice a n c ∧ n ≤ c ∧ (a = none → n = 0 ∧ c = 0) ∧ (0 < n → ∃ g off, a = some ⟨g, off, none⟩ ∧ ∀ j u, vs[j]? = some u → w.cell? ⟨g, off + j, none⟩ = some u)
/-- where a slice lies, if anywhere -/
def Off (C : Nat → Prop) (v : Value) : Prop := ∀ g off n c, v = .slice (some ⟨g, off, none⟩) n c → C g
section
variable {k n : Nat} {w w' : World} {v : Value} {vs : List Value} {B e : Nat}
theorem Rv.of_own (h : w.ownsRow B e k v n vs) : Rv k w v n vs := by
  rcases h with ⟨h1, ⟨e1, e2⟩ | ⟨g, cap, cur, rfl, hg, hc, hn, hm, hs, ht⟩⟩
  · subst e2
    exact ⟨h1, none, 0, e1, Nat.le_refl _, fun _ => ⟨rfl, rfl⟩, fun h => absurd h (Nat.lt_irrefl 0)⟩
  · refine ⟨h1, _, cap, rfl, hn, fun e => (by cases e), fun _ => ⟨g, 0, rfl, fun j u hu => ?_⟩⟩
    have hj := (List.getElem?_eq_some_iff.1 hu).1
    have : cur[j]? = some u := by rw [← Array.getElem?_toList, ← hu, ← ht, List.getElem?_take, if_pos (by omega)]
    simp [World.cell?, hc, this]
theorem cell_lt' {w : World} {a : Addr} {v : Value} (h : w.cell? a = some v) : a.block < w.heap.size := Rc.cell_lt h
theorem cell_touch {F : List Nat} {a : Addr} {u : Value} (T : Touch F w w') (h : w.cell? a = some u) (hn : ¬ a.block ∈ F) : w'.cell? a = some u := by
  rw [World.cell?_of_block (T.block _ (cell_lt' h) hn)]; exact h
theorem Rv.keep {F : List Nat} (h : Rv k w v n vs) (T : Touch F w w') (hF : Off (fun g => ¬ g ∈ F) v) : Rv k w' v n vs := by
  obtain ⟨h1, a, c, rfl, h0, h2, h3⟩ := h
  refine ⟨h1, a, c, rfl, h0, h2, fun hp => ?_⟩
  obtain ⟨g, off, rfl, h4⟩ := h3 hp
  exact ⟨g, off, rfl, fun j u hu => cell_touch T (h4 j u hu) (hF g off n c rfl)⟩
theorem Rv.keep0 (h : Rv k w v n vs) (T : Touch [] w w') : Rv k w' v n vs := h.keep T (fun _ _ _ _ _ e => by cases e)
theorem Rv.form (h : Rv k w v n vs) : ∃ a c, v = .slice a n c ∧ n ≤ c := by
  obtain ⟨h1, a, c, e, h0, _⟩ := h
  exact ⟨a, c, e, h0⟩
theorem Rv.cell {a : Option Addr} {c j : Nat} {u : Value} (h : Rv k w (.slice a n c) n vs) (hu : vs[j]? = some u) (hn : 0 < n) : ∃ g off, a = some ⟨g, off, none⟩ ∧ w.cell? ⟨g, off + j, none⟩ = some u := by
  obtain ⟨h1, a', c', e, h0, h2, h3⟩ := h
  cases e
  obtain ⟨g, off, rfl, h4⟩ := h3 hn
  exact ⟨g, off, rfl, h4 j u hu⟩
theorem own_off (h : w.ownsRow B e k v n vs) : Off (fun g => B ≤ g ∧ g < w.heap.size) v := fun g off m c hv => by
  subst hv
  exact h.lt g rfl
end
section
variable {w : World} {ops : Array Oper} {rest : List Oper} {o : Oper} {a : Act} {Q : Exit → Act → World → Prop}
/-- A slice that can be read, laid behind a row that a call owns. -/
theorem wpList_append_rv (hgd : o.guard = none) (s x : Operand) (st et : TypeId) (ho : o.op = .call { callee := .builtin .append, args := #[s, x], argTypes := #[st, st] })
    (z : Value) (k bytes : Nat) (hinfo : (Tryd.prog.info? et).map (fun i => (i.zero, i.size, i.bytes)) = some (some z, k, bytes)) (ht : Tryd.prog.underlying st = some (.slice et)) (hzs : z.cells.size = k) (hk : 0 < k)
    (base : Nat) (v : Value) (n : Nat) (xs : List Value) (hs : a.eval s = v) (hown : w.ownsRow base et k v n xs)
    (u : Value) (m : Nat) (vs : List Value) (hx : a.eval x = u) (hu : Rv k w u m vs) (h1 : ∀ y ∈ vs, y.oneCell' = true) (h63 : n + m ≤ maxLen) (hbytes : (n + m) * bytes ≤ 140737488355328) (hbase : base ≤ w.heap.size)
    (h : ∀ v' w', w'.ownsRow base et k v' (n + m) (xs ++ vs) → w.grownBy w' v.ownBlock → (v'.ownBlock = v.ownBlock ∨ v'.ownBlock = some w.heap.size) → wpList Tryd.prog ops Q rest (a.put o.dst v') w') : wpList Tryd.prog ops Q (o :: rest) a w := by
  obtain ⟨i3, hf, hz0, hz1, hz2⟩ := info_parts hinfo
  obtain ⟨hl, ad, c, rfl, _, hn0, hr⟩ := hu
  cases ad with
  | none =>
    obtain ⟨e0, e1⟩ := hn0 rfl
    subst e0 e1
    have ev : vs = [] := List.length_eq_zero_iff.1 (by omega)
    subst ev
    refine wpList_append_own_none hgd s x st ho base et i3 k ht hf v n xs hs hown hx ?_
    exact h v w (by simpa using hown) (World.grownBy.refl _ _) (Or.inl rfl)
  | some ad =>
    refine wpList_append_own_at w hgd s x st ho base et i3 z k bytes ht hf hz0 hz1 hz2 hzs hk v n xs hs hown ad m c vs hx hl (fun j y hy => ?_) h1 h63 hbytes hbase (fun v' w' q1 q2 q3 q4 => h v' w' q1 q2 q4)
    have hm : 0 < m := by
      rcases Nat.eq_zero_or_pos m with e | e
      · subst e
        have : vs = [] := List.length_eq_zero_iff.1 (by omega)
        subst this
        simp at hy
      · exact e
    obtain ⟨g, off, e, h5⟩ := hr hm
    cases e
    rw [show (⟨g, off, none⟩ : Addr).add j = ⟨g, off + j, none⟩ by simp [Addr.add]]
    exact h5 j y hy
end
/-- a copy: a row of the call's own -/
def CpE (e : Ending) (w w' : World) (t k n : Nat) (vs : List Value) : Prop := ∃ a c, e = .returned (.slice a n c) ∧ w'.ownsRow w.heap.size t k (.slice a n c) n vs ∧ Touch [] w w'
theorem info_items : (Tryd.prog.info? 33).map (fun i => (i.zero, i.size, i.bytes)) = some (some (.agg #[.int .i64 0, .int .u16 0, .string ⟨#[]⟩, .int .i64 0, .slice none 0 0]), 5, 64) := by kernel_rfl
theorem eqs_items (W : World) (a : Option Addr) (n c : Nat) : (binOp .eql 22 (.slice a n c) (.slice none 0 0)).run Tryd.prog W = .ok (.bool a.isNone) W := Lib.run_eql_slice_nil W _ _ a n c 0 0 Tryd.underlying22
set_option maxHeartbeats 1000000 in
theorem clone_items (w : World) (v : Value) (n : Nat) (vs : List Value) (h : Rv 5 w v n vs) (h1 : ∀ y ∈ vs, y.oneCell' = true) (hle : n ≤ 1024) : Calls Tryd.prog 44 #[v] w fun e w' => CpE e w w' 33 5 n vs := by
  have q33 := eqs_items
  have h' := h
  obtain ⟨hl, a, c, rfl, _, hn, hr⟩ := h
  cases a with
  | none =>
    obtain ⟨e0, e1⟩ := hn rfl
    subst e0 e1
    have ev : vs = [] := List.length_eq_zero_iff.1 (by omega)
    subst ev
    clear h' hr hn hl h1
    go_enter Tryd.func44, Tryd.ntmps44
    go_wp2
    go_ret
    exact ⟨none, 0, rfl, World.ownsRow_nil _ _ _ _, Touch.refl _ _⟩
  | some ad =>
    have HR : Hid (∀ ob, Rv 5 (w.alloc ob) (.slice (some ad) n c) n vs) := fun ob => h'.keep0 ((Touch.refl [] _).alloc _)
    have HM : Hid ((w.alloc (.cells #[] 33)).ownsRow w.heap.size 33 5 (.slice (some ⟨w.heap.size, 0, none⟩) 0 0) 0 []) := World.ownsRow_made (e := 33) (size := 5) w #[] 0 (Nat.le_refl _) (by unfold maxLen; omega) rfl
    have HLE := hid (And.intro hle h1)
    have HE : Hid (∀ v5 w', w'.ownsRow w.heap.size 33 5 v5 (0 + n) ([] ++ vs) → (w.alloc (.cells #[] 33)).grownBy w' (some w.heap.size) → CpE (.returned v5) w w' 33 5 n vs) := fun v5 w' r gr => by
      rw [Nat.zero_add, List.nil_append] at r
      obtain ⟨a5, c5, rfl⟩ := own_form r
      exact ⟨a5, c5, rfl, r, ((Touch.refl [] w).alloc _).grown gr (fun k hk => Or.inr (by cases hk; exact Nat.le_refl _))⟩
    clear h' hr hn hl h1 hle
    go_enter Tryd.func44, Tryd.ntmps44
    go_wp2_with (at_builtin; refine wpList_append_rv rfl _ _ _ 33 rfl (.agg #[.int .i64 0, .int .u16 0, .string ⟨#[]⟩, .int .i64 0, .slice none 0 0]) 5 64 info_items Tryd.underlying22 rfl (by decide) w.heap.size (.slice (some ⟨w.heap.size, 0, none⟩) 0 0) 0 [] rfl HM.out _ n vs rfl (HR.out _) HLE.out.2 (by have := HLE.out.1; unfold maxLen; omega) (by have := HLE.out.1; omega) (by simp) ?_; intro v5 w5 o5 g5 e5; have O5 := hid (HE.out _ _ o5 g5); clear o5 g5 e5)
    go_ret
    exact O5.out
theorem info_steps : (Tryd.prog.info? 35).map (fun i => (i.zero, i.size, i.bytes)) = some (some (.agg #[.int .i64 0, .int .i64 0, .int .i64 0]), 3, 24) := by kernel_rfl
theorem eqs_steps (W : World) (a : Option Addr) (n c : Nat) : (binOp .eql 31 (.slice a n c) (.slice none 0 0)).run Tryd.prog W = .ok (.bool a.isNone) W := Lib.run_eql_slice_nil W _ _ a n c 0 0 Tryd.underlying31
set_option maxHeartbeats 1000000 in
theorem clone_steps (w : World) (v : Value) (n : Nat) (vs : List Value) (h : Rv 3 w v n vs) (h1 : ∀ y ∈ vs, y.oneCell' = true) (hle : n ≤ 1024) : Calls Tryd.prog 45 #[v] w fun e w' => CpE e w w' 35 3 n vs := by
  have q33 := eqs_steps
  have h' := h
  obtain ⟨hl, a, c, rfl, _, hn, hr⟩ := h
  cases a with
  | none =>
    obtain ⟨e0, e1⟩ := hn rfl
    subst e0 e1
    have ev : vs = [] := List.length_eq_zero_iff.1 (by omega)
    subst ev
    clear h' hr hn hl h1
    go_enter Tryd.func45, Tryd.ntmps45
    go_wp2
    go_ret
    exact ⟨none, 0, rfl, World.ownsRow_nil _ _ _ _, Touch.refl _ _⟩
  | some ad =>
    have HR : Hid (∀ ob, Rv 3 (w.alloc ob) (.slice (some ad) n c) n vs) := fun ob => h'.keep0 ((Touch.refl [] _).alloc _)
    have HM : Hid ((w.alloc (.cells #[] 35)).ownsRow w.heap.size 35 3 (.slice (some ⟨w.heap.size, 0, none⟩) 0 0) 0 []) := World.ownsRow_made (e := 35) (size := 3) w #[] 0 (Nat.le_refl _) (by unfold maxLen; omega) rfl
    have HLE := hid (And.intro hle h1)
    have HE : Hid (∀ v5 w', w'.ownsRow w.heap.size 35 3 v5 (0 + n) ([] ++ vs) → (w.alloc (.cells #[] 35)).grownBy w' (some w.heap.size) → CpE (.returned v5) w w' 35 3 n vs) := fun v5 w' r gr => by
      rw [Nat.zero_add, List.nil_append] at r
      obtain ⟨a5, c5, rfl⟩ := own_form r
      exact ⟨a5, c5, rfl, r, ((Touch.refl [] w).alloc _).grown gr (fun k hk => Or.inr (by cases hk; exact Nat.le_refl _))⟩
    clear h' hr hn hl h1 hle
    go_enter Tryd.func45, Tryd.ntmps45
    go_wp2_with (at_builtin; refine wpList_append_rv rfl _ _ _ 35 rfl (.agg #[.int .i64 0, .int .i64 0, .int .i64 0]) 3 24 info_steps Tryd.underlying31 rfl (by decide) w.heap.size (.slice (some ⟨w.heap.size, 0, none⟩) 0 0) 0 [] rfl HM.out _ n vs rfl (HR.out _) HLE.out.2 (by have := HLE.out.1; unfold maxLen; omega) (by have := HLE.out.1; omega) (by simp) ?_; intro v5 w5 o5 g5 e5; have O5 := hid (HE.out _ _ o5 g5); clear o5 g5 e5)
    go_ret
    exact O5.out
theorem info_res : (Tryd.prog.info? 53).map (fun i => (i.zero, i.size, i.bytes)) = some (some (.agg #[.int .i64 0, .int .i64 0, .int .i64 0, .int .i64 0, .int .i64 0]), 5, 40) := by kernel_rfl
theorem eqs_res (W : World) (a : Option Addr) (n c : Nat) : (binOp .eql 46 (.slice a n c) (.slice none 0 0)).run Tryd.prog W = .ok (.bool a.isNone) W := Lib.run_eql_slice_nil W _ _ a n c 0 0 Tryd.underlying46
set_option maxHeartbeats 1000000 in
theorem clone_res (w : World) (v : Value) (n : Nat) (vs : List Value) (h : Rv 5 w v n vs) (h1 : ∀ y ∈ vs, y.oneCell' = true) (hle : n ≤ 1024) : Calls Tryd.prog 34 #[v] w fun e w' => CpE e w w' 53 5 n vs := by
  have q33 := eqs_res
  have h' := h
  obtain ⟨hl, a, c, rfl, _, hn, hr⟩ := h
  cases a with
  | none =>
    obtain ⟨e0, e1⟩ := hn rfl
    subst e0 e1
    have ev : vs = [] := List.length_eq_zero_iff.1 (by omega)
    subst ev
    clear h' hr hn hl h1
    go_enter Tryd.func34, Tryd.ntmps34
    go_wp2
    go_ret
    exact ⟨none, 0, rfl, World.ownsRow_nil _ _ _ _, Touch.refl _ _⟩
  | some ad =>
    have HR : Hid (∀ ob, Rv 5 (w.alloc ob) (.slice (some ad) n c) n vs) := fun ob => h'.keep0 ((Touch.refl [] _).alloc _)
    have HM : Hid ((w.alloc (.cells #[] 53)).ownsRow w.heap.size 53 5 (.slice (some ⟨w.heap.size, 0, none⟩) 0 0) 0 []) := World.ownsRow_made (e := 53) (size := 5) w #[] 0 (Nat.le_refl _) (by unfold maxLen; omega) rfl
    have HLE := hid (And.intro hle h1)
    have HE : Hid (∀ v5 w', w'.ownsRow w.heap.size 53 5 v5 (0 + n) ([] ++ vs) → (w.alloc (.cells #[] 53)).grownBy w' (some w.heap.size) → CpE (.returned v5) w w' 53 5 n vs) := fun v5 w' r gr => by
      rw [Nat.zero_add, List.nil_append] at r
      obtain ⟨a5, c5, rfl⟩ := own_form r
      exact ⟨a5, c5, rfl, r, ((Touch.refl [] w).alloc _).grown gr (fun k hk => Or.inr (by cases hk; exact Nat.le_refl _))⟩
    clear h' hr hn hl h1 hle
    go_enter Tryd.func34, Tryd.ntmps34
    go_wp2_with (at_builtin; refine wpList_append_rv rfl _ _ _ 53 rfl (.agg #[.int .i64 0, .int .i64 0, .int .i64 0, .int .i64 0, .int .i64 0]) 5 40 info_res Tryd.underlying46 rfl (by decide) w.heap.size (.slice (some ⟨w.heap.size, 0, none⟩) 0 0) 0 [] rfl HM.out _ n vs rfl (HR.out _) HLE.out.2 (by have := HLE.out.1; unfold maxLen; omega) (by have := HLE.out.1; omega) (by simp) ?_; intro v5 w5 o5 g5 e5; have O5 := hid (HE.out _ _ o5 g5); clear o5 g5 e5)
    go_ret
    exact O5.out
end Go.Proofs.YtcbckehdlbbbbaaDoor
/- Items, results and a load in memory; no conditions. -/
namespace Go.Proofs.YtcbckehdlbbbbaaDoor
open Go.RowKit Go.Maps Go.ChangeMaps
set_option linter.unusedVariables false
set_option linter.unusedSimpArgs false
def iv (q : Ip) : List Value := [.int .i64 q.1.run, .int .u16 q.1.sp, .string q.1.nm, .int .i64 q.1.tok, q.2]
def sc (x : Rc.Sp) : List Value := [.int .i64 x.1, .int .i64 x.2.1, .int .i64 x.2.2]
def rzc (z : Rz) : List Value := [.int .i64 z.1, .int .i64 z.2.1, .int .i64 z.2.2.1, .int .i64 z.2.2.2.1, .int .i64 z.2.2.2.2]
theorem iv_len (q : Ip) : (iv q).length = 5 := rfl
theorem sc_len (x : Rc.Sp) : (sc x).length = 3 := rfl
theorem rzc_len (z : Rz) : (rzc z).length = 5 := rfl
theorem one_sc (L : List Rc.Sp) : ∀ y ∈ L.flatMap sc, y.oneCell' = true := fun y hy => by
  rw [List.mem_flatMap] at hy
  obtain ⟨x, _, hx⟩ := hy
  simp [sc] at hx
  rcases hx with rfl | rfl | rfl <;> rfl
theorem one_rzc (L : List Rz) : ∀ y ∈ L.flatMap rzc, y.oneCell' = true := fun y hy => by
  rw [List.mem_flatMap] at hy
  obtain ⟨x, _, hx⟩ := hy
  simp [rzc] at hx
  rcases hx with rfl | rfl | rfl | rfl | rfl <;> rfl
/-- a recipe in memory -/
def Sv (w : World) (v : Value) (L : List Rc.Sp) : Prop := Rv 3 w v L.length (L.flatMap sc)
section
variable {w w' : World} {v : Value} {L : List Rc.Sp} {F : List Nat}
theorem Sv.keep (h : Sv w v L) (T : Touch F w w') (hF : Off (fun g => ¬ g ∈ F) v) : Sv w' v L := Rv.keep h T hF
theorem Sv.keep0 (h : Sv w v L) (T : Touch [] w w') : Sv w' v L := Rv.keep0 h T
theorem Sv.sl {a : Option Addr} {n c : Nat} (h : Sv w (.slice a n c) L) : n = L.length ∧ Rc.Sl w a L := by
  obtain ⟨a', c', e, _⟩ := Rv.form h
  cases e
  refine ⟨rfl, fun i hi => ?_⟩
  have hg : L[i]? = some L[i] := List.getElem?_eq_getElem hi
  have e0 := flat_at sc_len L i 0 _ hg (by decide)
  have e1 := flat_at sc_len L i 1 _ hg (by decide)
  have e2 := flat_at sc_len L i 2 _ hg (by decide)
  obtain ⟨g, off, rfl, c0⟩ := Rv.cell h e0 (by omega)
  obtain ⟨g1, o1, h1, c1⟩ := Rv.cell h e1 (by omega)
  obtain ⟨g2, o2, h2, c2⟩ := Rv.cell h e2 (by omega)
  cases h1
  cases h2
  exact ⟨g, off, rfl, by simpa using c0, by simpa [Nat.add_assoc] using c1, by simpa [Nat.add_assoc] using c2⟩
theorem Sv.one {w : World} {v : Value} (h : Sv w v L) : v.oneCell' = true := by
  obtain ⟨a, c, rfl, _⟩ := Rv.form h
  rfl
end
/-- items in memory -/
structure Its (w : World) (v : Value) (ps : List Ip) : Prop where
  rv : Rv 5 w v ps.length (ps.flatMap iv)
  sv : ∀ q ∈ ps, Sv w q.2 q.1.L
/-- an item at a place in memory -/
structure ItAt (w : World) (g o : Nat) (q : Ip) : Prop where
  c0 : w.cell? ⟨g, o, none⟩ = some (.int .i64 q.1.run)
  c1 : w.cell? ⟨g, o + 1, none⟩ = some (.int .u16 q.1.sp)
  c2 : w.cell? ⟨g, o + 2, none⟩ = some (.string q.1.nm)
  c3 : w.cell? ⟨g, o + 3, none⟩ = some (.int .i64 q.1.tok)
  c4 : w.cell? ⟨g, o + 4, none⟩ = some q.2
section
variable {w w' : World} {v : Value} {ps : List Ip} {F : List Nat}
theorem Its.keep0 (h : Its w v ps) (T : Touch [] w w') : Its w' v ps := ⟨h.rv.keep0 T, fun q hq => (h.sv q hq).keep0 T⟩
theorem Its.keep (h : Its w v ps) (T : Touch F w w') (h0 : Off (fun g => ¬ g ∈ F) v) (h1 : ∀ q ∈ ps, Off (fun g => ¬ g ∈ F) q.2) : Its w' v ps := ⟨h.rv.keep T h0, fun q hq => (h.sv q hq).keep T (h1 q hq)⟩
theorem Its.form (h : Its w v ps) : ∃ a c, v = .slice a ps.length c ∧ ps.length ≤ c := h.rv.form
theorem Its.item {a : Option Addr} {c i : Nat} (h : Its w (.slice a ps.length c) ps) (hi : i < ps.length) : ∃ g off, a = some ⟨g, off, none⟩ ∧ ItAt w g (off + i * 5) ps[i] := by
  have hg : ps[i]? = some ps[i] := List.getElem?_eq_getElem hi
  have e0 := flat_at iv_len ps i 0 _ hg (by decide)
  have e1 := flat_at iv_len ps i 1 _ hg (by decide)
  have e2 := flat_at iv_len ps i 2 _ hg (by decide)
  have e3 := flat_at iv_len ps i 3 _ hg (by decide)
  have e4 := flat_at iv_len ps i 4 _ hg (by decide)
  obtain ⟨g, off, rfl, c0⟩ := Rv.cell h.rv e0 (by omega)
  obtain ⟨g1, o1, h1, c1⟩ := Rv.cell h.rv e1 (by omega)
  obtain ⟨g2, o2, h2, c2⟩ := Rv.cell h.rv e2 (by omega)
  obtain ⟨g3, o3, h3, c3⟩ := Rv.cell h.rv e3 (by omega)
  obtain ⟨g4, o4, h4, c4⟩ := Rv.cell h.rv e4 (by omega)
  cases h1
  cases h2
  cases h3
  cases h4
  exact ⟨g, off, rfl, by simpa using c0, by simpa [Nat.add_assoc] using c1, by simpa [Nat.add_assoc] using c2, by simpa [Nat.add_assoc] using c3, by simpa [Nat.add_assoc] using c4⟩
theorem ItAt.keep {g o : Nat} {q : Ip} (h : ItAt w g o q) (T : Touch F w w') (hn : ¬ g ∈ F) : ItAt w' g o q := ⟨cell_touch T h.c0 hn, cell_touch T h.c1 hn, cell_touch T h.c2 hn, cell_touch T h.c3 hn, cell_touch T h.c4 hn⟩
/-- the rest of some items, from a place on -/
theorem Its.drop {g off c : Nat} (h : Its w (.slice (some ⟨g, off, none⟩) ps.length c) ps) (i : Nat) (hi : i ≤ ps.length) : Its w (.slice (some (if c = i then ⟨g, off, none⟩ else ⟨g, off + i * 5, none⟩)) (ps.length - i) (c - i)) (ps.drop i) := by
  obtain ⟨a', c', e, hc⟩ := h.form
  cases e
  refine ⟨⟨flat_len iv_len _, some (if c = i then ⟨g, off, none⟩ else ⟨g, off + i * 5, none⟩), c - i, by simp only [List.length_drop], by simp only [List.length_drop]; omega, fun e => absurd e (by simp), fun hp => ?_⟩, fun q hq => h.sv q (List.mem_of_mem_drop hq)⟩
  · have hp' : i < ps.length := by rw [List.length_drop] at hp; omega
    rw [if_neg (by omega)]
    refine ⟨g, off + i * 5, rfl, fun j u hu => ?_⟩
    have e1 : (ps.flatMap iv)[i * 5 + j]? = some u := by
      rw [← hu]
      have e2 : ps.flatMap iv = (ps.take i).flatMap iv ++ (ps.drop i).flatMap iv := by rw [← List.flatMap_append, List.take_append_drop]
      rw [e2, List.getElem?_append_right (by rw [flat_len iv_len, List.length_take]; omega), flat_len iv_len, List.length_take]
      congr 1
      omega
    obtain ⟨g', o', e3, c0⟩ := Rv.cell h.rv e1 (by omega)
    cases e3
    simpa [Nat.add_assoc] using c0
end
/-- what no load's step writes: all that lies ahead of the load, its results' row aside -/
def Cn (b r : Nat) (k : Nat) : Prop := k < b ∧ k ≠ r
/-- items that a load keeps -/
structure Lf (w : World) (b r : Nat) (v : Value) (ps : List Ip) : Prop where
  its : Its w v ps
  off : Off (Cn b r) v
  offs : ∀ q ∈ ps, Off (Cn b r) q.2
theorem Off.mono {C D : Nat → Prop} {v : Value} (h : Off C v) (hD : ∀ k, C k → D k) : Off D v := fun g off n c e => hD g (h g off n c e)
section
variable {w w' : World} {b r : Nat} {v : Value} {ps : List Ip} {F : List Nat}
theorem Lf.keep (h : Lf w b r v ps) (T : Touch F w w') (hF : ∀ k ∈ F, k = r ∨ b ≤ k) : Lf w' b r v ps := by
  have hn : ∀ k, Cn b r k → ¬ k ∈ F := fun k hk e => by
    rcases hF k e with e | e
    · exact hk.2 e
    · have := hk.1; omega
  exact ⟨h.its.keep T (h.off.mono hn) (fun q hq => (h.offs q hq).mono hn), h.off, h.offs⟩
theorem Lf.nil (w : World) (b r : Nat) : Lf w b r (.slice none 0 0) [] := ⟨⟨⟨rfl, none, 0, rfl, Nat.le_refl _, fun _ => ⟨rfl, rfl⟩, fun h => absurd h (Nat.lt_irrefl 0)⟩, fun q hq => absurd hq (by simp)⟩, fun _ _ _ _ e => absurd e (by simp), fun q hq => absurd hq (by simp)⟩
theorem Lf.tail {g off c : Nat} {q : Ip} (h : Lf w b r (.slice (some ⟨g, off, none⟩) (ps.length + 1) c) (q :: ps)) : Lf w b r (.slice (some (if c = 1 then ⟨g, off, none⟩ else ⟨g, off + 5, none⟩)) ps.length (c - 1)) ps := by
  have h1 := Its.drop (ps := q :: ps) h.its 1 (by simp)
  refine ⟨by simpa using h1, fun g' o' n' c' e => ?_, fun z hz => h.offs z (by simp [hz])⟩
  simp only [Value.slice.injEq, Option.some.injEq] at e
  obtain ⟨e1, _⟩ := e
  have hg := h.off g off _ _ rfl
  split at e1 <;> (cases e1; exact hg)
end
/-- a load's cells -/
def lc (S : Ld) (vr vl : Value) : Array Value := #[.int .i64 S.num, vr, vl, .int .i64 S.p, .int .i64 S.n, .int .i64 S.wt, .int .i64 S.on, .int .i64 S.tm]
/-- A load in memory: at block b, its results' row at r. -/
structure Lq (w : World) (b r : Nat) (S : Ld) (vr vl : Value) : Prop where
  bl : w.heap[b]? = some (.cells (lc S vr vl) 78 (0, 0))
  row : w.ownsRow 0 53 5 vr S.res.length (S.res.flatMap rzc)
  vr : ∃ c, vr = .slice (some ⟨r, 0, none⟩) S.res.length c
  lf : Lf w b r vl S.left
  rb : r < b
section
variable {w w' : World} {b r : Nat} {S : Ld} {vr vl : Value} {F : List Nat}
theorem Lq.keep (h : Lq w b r S vr vl) (T : Touch F w w') (hF : ∀ k ∈ F, b < k) : Lq w' b r S vr vl := by
  obtain ⟨c, e⟩ := h.vr
  refine ⟨T.keep h.bl (fun e => by have := hF _ e; omega), own_touch h.row T (fun q hq e' => ?_), h.vr, h.lf.keep T (fun k hk => Or.inr (by have := hF k hk; omega)), h.rb⟩
  rw [e] at hq
  simp only [Value.ownBlock, Option.some.injEq] at hq
  subst hq
  have := hF _ e'
  have := h.rb
  omega
theorem Lq.keep0 (h : Lq w b r S vr vl) (T : Touch [] w w') : Lq w' b r S vr vl := h.keep T (fun _ e => by cases e)
theorem Lq.vform (h : Lq w b r S vr vl) : ∃ a c, vl = .slice a S.left.length c ∧ S.left.length ≤ c := h.lf.its.form
theorem Lq.res {c i : Nat} (h : Lq w b r S (.slice (some ⟨r, 0, none⟩) S.res.length c) vl) {z : Rz} (hz : S.res[i]? = some z) : w.cell? ⟨r, i * 5, none⟩ = some (.int .i64 z.1) ∧ w.cell? ⟨r, i * 5 + 1, none⟩ = some (.int .i64 z.2.1) ∧ w.cell? ⟨r, i * 5 + 2, none⟩ = some (.int .i64 z.2.2.1) ∧ w.cell? ⟨r, i * 5 + 3, none⟩ = some (.int .i64 z.2.2.2.1) ∧ w.cell? ⟨r, i * 5 + 4, none⟩ = some (.int .i64 z.2.2.2.2) :=
  ⟨own_cell h.row (p := i * 5 + 0) (flat_at rzc_len S.res i 0 z hz (by decide)), own_cell h.row (flat_at rzc_len S.res i 1 z hz (by decide)), own_cell h.row (flat_at rzc_len S.res i 2 z hz (by decide)), own_cell h.row (flat_at rzc_len S.res i 3 z hz (by decide)), own_cell h.row (flat_at rzc_len S.res i 4 z hz (by decide))⟩
end
end Go.Proofs.YtcbckehdlbbbbaaDoor
/- The small calls of a load, and of no load: Over, Waits, Wake, Timer, At, Number, Runs, Results, Clone, Step; which item may stand; the conditions are those that each states. -/
namespace Go.Proofs.YtcbckehdlbbbbaaDoor
open Go.RowKit Go.Maps Go.ChangeMaps
set_option linter.unusedVariables false
set_option linter.unusedSimpArgs false
section
variable (w : World)
theorem over_nil : Calls Tryd.prog 11 #[.pointer none] w fun e w' => e = .returned (.bool true) ∧ w' = w := by
  go_enter Tryd.func11, Tryd.ntmps11
  go_wp2
  go_ret
  exact ⟨rfl, rfl⟩
theorem waits_nil : Calls Tryd.prog 14 #[.pointer none] w fun e w' => e = .returned (.tuple #[.int .i64 0, .int .i64 0, .bool false]) ∧ w' = w := by
  go_enter Tryd.func14, Tryd.ntmps14
  go_wp2
  exact bodyPost_ret (v := .tuple #[.int .i64 0, .int .i64 0, .bool false]) (by simp [results, Tryd.results14, go_sem]) rfl ⟨rfl, rfl⟩
theorem wake_nil : Calls Tryd.prog 15 #[.pointer none] w fun e w' => e = .returned (.int .i64 142) ∧ w' = w := by
  have HO := hid (over_nil w)
  go_enter Tryd.func15, Tryd.ntmps15
  go_wp2_with (go_at_call 11; refine HO.out.mono ?_; rintro e w2 ⟨rfl, rfl⟩)
  go_ret
  exact ⟨rfl, rfl⟩
theorem timer_nil : Calls Tryd.prog 16 #[.pointer none] w fun e w' => e = .returned (.int .i64 0) ∧ w' = w := by
  go_enter Tryd.func16, Tryd.ntmps16
  go_wp2
  go_ret
  exact ⟨rfl, rfl⟩
theorem at_nil : Calls Tryd.prog 17 #[.pointer none] w fun e w' => e = .returned (.int .i64 0) ∧ w' = w := by
  go_enter Tryd.func17, Tryd.ntmps17
  go_wp2
  go_ret
  exact ⟨rfl, rfl⟩
theorem number_nil : Calls Tryd.prog 18 #[.pointer none] w fun e w' => e = .returned (.int .i64 0) ∧ w' = w := by
  go_enter Tryd.func18, Tryd.ntmps18
  go_wp2
  go_ret
  exact ⟨rfl, rfl⟩
theorem runs_nil : Calls Tryd.prog 19 #[.pointer none] w fun e w' => e = .returned (.slice none 0 0) ∧ w' = w := by
  go_enter Tryd.func19, Tryd.ntmps19
  go_wp2
  go_ret
  exact ⟨rfl, rfl⟩
theorem results_nil : Calls Tryd.prog 13 #[.pointer none] w fun e w' => e = .returned (.slice none 0 0) ∧ w' = w := by
  go_enter Tryd.func13, Tryd.ntmps13
  go_wp2
  go_ret
  exact ⟨rfl, rfl⟩
theorem clone_nil : Calls Tryd.prog 20 #[.pointer none] w fun e w' => e = .returned (.pointer none) ∧ w' = w := by
  go_enter Tryd.func20, Tryd.ntmps20
  go_wp2
  go_ret
  exact ⟨rfl, rfl⟩
theorem step_nil (g c t : Value) : Calls Tryd.prog 12 #[.pointer none, g, c, t] w fun e w' => e = .returned (.tuple #[.agg #[.int .i64 0, .int .i64 0, .int .i64 0, .int .i64 0], .int .i64 142]) ∧ Touch [] w w' := by
  have HO := hid (fun w => over_nil w)
  go_enter Tryd.func12, Tryd.ntmps12
  go_wp2_with (go_at_call 11; refine (HO.out _).mono ?_; rintro e w2 ⟨rfl, rfl⟩)
  exact bodyPost_ret (v := .tuple #[.agg #[.int .i64 0, .int .i64 0, .int .i64 0, .int .i64 0], .int .i64 142]) (by simp [results, Tryd.results12, go_sem]) rfl ⟨rfl, by repeat (first | exact Touch.refl _ _ | apply Touch.setCell | apply Touch.alloc | exact Or.inr (Nat.le_refl _))⟩
end
section
variable {w : World} {b r : Nat} {S : Ld} {vr vl : Value}
theorem over_yes (h : Lq w b r S vr vl) (e : S.left = []) : Calls Tryd.prog 11 #[.pointer (some ⟨b, 0, none⟩)] w fun e w' => e = .returned (.bool true) ∧ w' = w := by
  obtain ⟨a, c, rfl, hc⟩ := h.vform
  have c2 := cell_at (j := 2) (v := .slice a S.left.length c) h.bl rfl
  rw [e] at c2
  clear h hc e
  go_enter Tryd.func11, Tryd.ntmps11
  go_wp2
  go_ret
  exact ⟨rfl, rfl⟩
theorem over_no (h : Lq w b r S vr vl) {q : Ip} {l : List Ip} (e : S.left = q :: l) : Calls Tryd.prog 11 #[.pointer (some ⟨b, 0, none⟩)] w fun e w' => e = .returned (.bool false) ∧ w' = w := by
  obtain ⟨a, c, rfl, hc⟩ := h.vform
  have c2 := cell_at (j := 2) (v := .slice a S.left.length c) h.bl rfl
  have hz : ((S.left.length : Int) == 0) = false := by rw [e]; simp; omega
  clear h hc e
  generalize S.left.length = n at *
  go_enter Tryd.func11, Tryd.ntmps11
  go_wp2
  go_ret
  exact ⟨rfl, rfl⟩
theorem waits_no (h : Lq w b r S vr vl) (e : S.wt = 0) : Calls Tryd.prog 14 #[.pointer (some ⟨b, 0, none⟩)] w fun e w' => e = .returned (.tuple #[.int .i64 0, .int .i64 0, .bool false]) ∧ w' = w := by
  have c5 := cell_at (j := 5) (v := .int .i64 S.wt) h.bl rfl
  rw [e] at c5
  clear h e
  go_enter Tryd.func14, Tryd.ntmps14
  go_wp2
  exact bodyPost_ret (v := .tuple #[.int .i64 0, .int .i64 0, .bool false]) (by simp [results, Tryd.results14, go_sem]) rfl ⟨rfl, rfl⟩
theorem waits_yes (h : Lq w b r S vr vl) (e : S.wt ≠ 0) : Calls Tryd.prog 14 #[.pointer (some ⟨b, 0, none⟩)] w fun e w' => e = .returned (.tuple #[.int .i64 S.wt, .int .i64 S.on, .bool true]) ∧ Touch [] w w' := by
  have c5 := cell_at (j := 5) (v := .int .i64 S.wt) h.bl rfl
  have c6 := cell_at (j := 6) (v := .int .i64 S.on) h.bl rfl
  have hz : (S.wt == 0) = false := by simpa using e
  clear h e
  generalize S.wt = x at *
  generalize S.on = y at *
  go_enter Tryd.func14, Tryd.ntmps14
  go_wp2
  go_quiet (fail)
  go_wp2
  exact bodyPost_ret (v := .tuple #[.int .i64 x, .int .i64 y, .bool true]) (by simp [results, Tryd.results14, go_sem]) rfl ⟨rfl, (Touch.refl _ _).drewN _⟩
theorem at_ok (h : Lq w b r S vr vl) (hi : Iv S) : Calls Tryd.prog 17 #[.pointer (some ⟨b, 0, none⟩)] w fun e w' => e = .returned (.int .i64 (S.at_ : Nat)) ∧ Touch [] w w' := by
  obtain ⟨a, c, rfl, hc⟩ := h.vform
  obtain ⟨cr, rfl⟩ := h.vr
  have c1 := cell_at (j := 1) (v := .slice (some ⟨r, 0, none⟩) S.res.length cr) h.bl rfl
  have c2 := cell_at (j := 2) (v := .slice a S.left.length c) h.bl rfl
  have h1 := hi.len
  have h2 := hi.big
  have hw : IntKind.i64.wrap ((S.res.length : Int) - (S.left.length : Int)) = ((S.at_ : Nat) : Int) := by
    unfold Ld.at_
    rw [IntKind.wrap_i64]; omega
  clear h hc hi h1 h2
  generalize S.at_ = k at *
  generalize S.left.length = n at *
  generalize S.res.length = m at *
  go_enter Tryd.func17, Tryd.ntmps17
  go_wp2
  go_quiet (fail)
  go_wp2
  go_ret
  exact ⟨rfl, (Touch.refl _ _).drewN _⟩
theorem number_ok (h : Lq w b r S vr vl) : Calls Tryd.prog 18 #[.pointer (some ⟨b, 0, none⟩)] w fun e w' => e = .returned (.int .i64 S.num) ∧ w' = w := by
  have c0 := cell_at (j := 0) (v := .int .i64 S.num) h.bl rfl
  clear h
  generalize S.num = x at *
  go_enter Tryd.func18, Tryd.ntmps18
  go_wp2
  go_ret
  exact ⟨rfl, rfl⟩
/-- the load is let go on -/
theorem Lq.set3 (h : Lq w b r S vr vl) (tm : Int) : Lq (((w.setCell ⟨b, 5, none⟩ (.int .i64 0)).setCell ⟨b, 6, none⟩ (.int .i64 0)).setCell ⟨b, 7, none⟩ (.int .i64 tm)) b r (goS S S.p S.n 0 0 tm) vr vl ∧ Touch [b] w (((w.setCell ⟨b, 5, none⟩ (.int .i64 0)).setCell ⟨b, 6, none⟩ (.int .i64 0)).setCell ⟨b, 7, none⟩ (.int .i64 tm)) := by
  have T : Touch [b] w (((w.setCell ⟨b, 5, none⟩ (.int .i64 0)).setCell ⟨b, 6, none⟩ (.int .i64 0)).setCell ⟨b, 7, none⟩ (.int .i64 tm)) := (((Touch.refl _ _).setCell (Or.inl (by simp)) _).setCell (Or.inl (by simp)) _).setCell (Or.inl (by simp)) _
  refine ⟨⟨?_, own_touch h.row T (fun q hq e' => ?_), h.vr, h.lf.keep T (fun k hk => Or.inr (by simp only [List.mem_singleton] at hk; omega)), h.rb⟩, T⟩
  · have := bset (i := 7) (bset (i := 6) (bset (i := 5) h.bl (.int .i64 0)) (.int .i64 0)) (.int .i64 tm)
    simpa [lc, goS] using this
  · obtain ⟨c, e⟩ := h.vr
    rw [e] at hq
    simp only [Value.ownBlock, Option.some.injEq] at hq
    subst hq
    have := h.rb
    simp at e'
    omega
theorem wake_ok (h : Lq w b r S vr vl) {q : Ip} {l : List Ip} (e : S.left = q :: l) (e1 : S.wt ≠ 0) : Calls Tryd.prog 15 #[.pointer (some ⟨b, 0, none⟩)] w fun e w' => e = .returned (.int .i64 0) ∧ Lq w' b r (goS S S.p S.n 0 0 0) vr vl ∧ Touch [b] w w' := by
  have HO := hid (over_no h e)
  have HW := hid (waits_yes h e1)
  have HL : Hid (∀ w', Touch [] w w' → (w'.cell? ⟨b, 5, none⟩ = some (.int .i64 S.wt) ∧ w'.cell? ⟨b, 6, none⟩ = some (.int .i64 S.on) ∧ w'.cell? ⟨b, 7, none⟩ = some (.int .i64 S.tm) ∧ (∀ i, w'.frozen? ⟨b, i, none⟩ = false) ∧ b < w'.heap.size) ∧ Lq (((w'.setCell ⟨b, 5, none⟩ (.int .i64 0)).setCell ⟨b, 6, none⟩ (.int .i64 0)).setCell ⟨b, 7, none⟩ (.int .i64 0)) b r (goS S S.p S.n 0 0 0) vr vl ∧ Touch [b] w (((w'.setCell ⟨b, 5, none⟩ (.int .i64 0)).setCell ⟨b, 6, none⟩ (.int .i64 0)).setCell ⟨b, 7, none⟩ (.int .i64 0))) := hid (fun w' T => by
    have h2 := h.keep0 T
    obtain ⟨k1, k2⟩ := h2.set3 0
    exact ⟨⟨cell_at h2.bl rfl, cell_at h2.bl rfl, cell_at h2.bl rfl, froz_at h2.bl, block_lt h2.bl⟩, k1, (T.mono (fun _ e => by cases e)).trans' k2⟩)
  clear h e e1
  generalize goS S S.p S.n 0 0 0 = S' at *
  generalize S.wt = x at *
  generalize S.on = y at *
  generalize S.tm = z at *
  go_enter Tryd.func15, Tryd.ntmps15
  go_wp2_with (first
    | (go_at_call 11; refine HO.out.mono ?_; rintro e w2 ⟨rfl, rfl⟩)
    | (go_at_call 14; refine HW.out.mono ?_; rintro e w3 ⟨rfl, t3⟩; obtain ⟨⟨d5, d6, d7, df, dl⟩, R⟩ := HL.out w3 t3; have RR := hid R; clear t3 R)
    | fail)
  go_ret
  exact ⟨rfl, RR.out.1, RR.out.2⟩
end
/-- which key may be -/
theorem kcheck_ (w : World) (sp : Int) (nm : ByteArray) : Calls Tryd.prog 42 #[.agg #[.int .u16 sp, .string nm]] w fun e w' => e = .returned (.int .i64 (if 64 < nm.size then 20 else 0)) ∧ Touch [] w w' := by
  by_cases h : 64 < nm.size
  · have h' : (64 : Int) < (nm.size : Int) := by omega
    rw [if_pos h]
    clear h
    go_enter Tryd.func42, Tryd.ntmps42
    go_wp2
    go_ret
    exact ⟨rfl, (Touch.refl _ _).alloc _⟩
  · have h' : ¬ (64 : Int) < (nm.size : Int) := by omega
    rw [if_neg h]
    clear h
    go_enter Tryd.func42, Tryd.ntmps42
    go_wp2
    go_ret
    exact ⟨rfl, (Touch.refl _ _).alloc _⟩
/-- which item may stand behind a run -/
def mayE (ahead : Int) (x : It) : Int := if x.run ≤ ahead ∨ x.tok < 0 then 140 else if 64 < x.nm.size then 20 else (Rc.chkS x.L).2
theorem mayE_ok {ahead : Int} {x : It} (h : mayE ahead x = 0) (ha : 0 ≤ ahead) (hw : x.wf) : x.ok ∧ ahead < x.run := by
  unfold mayE at h
  split at h
  · cases h
  · rename_i h1
    split at h
    · cases h
    · rename_i h2
      have h3 : ahead < x.run := by
        rcases Int.lt_or_le ahead x.run with e | e
        · exact e
        · exact absurd (Or.inl e) h1
      have h4 : 0 ≤ x.tok := by
        rcases Int.lt_or_le x.tok 0 with e | e
        · exact absurd (Or.inr e) h1
        · exact e
      exact ⟨⟨hw, by omega, by omega, h4, Rc.chk_good.1 h⟩, h3⟩
theorem Kd.touch {w w' : World} (h : Rc.Kd w) (T : Touch [] w w') : Rc.Kd w' := h.gr (T.below (fun k hk => by cases hk) (Nat.le_refl _))
theorem Gr.touch {w w' : World} (h : Rc.Gr w w') : Touch [] w w' := Touch.of_below h
set_option maxHeartbeats 2000000 in
theorem may_ (w : World) (ahead : Int) (q : Ip) (hk : Rc.Kd w) (hs : Sv w q.2 q.1.L) (hw : q.1.wf) : Calls Tryd.prog 26 #[.int .i64 ahead, .agg (iv q).toArray] w fun e w' => e = .returned (.int .i64 (mayE ahead q.1)) ∧ Touch [] w w' := by
  obtain ⟨⟨run, sp, nm, tok, L⟩, v⟩ := q
  obtain ⟨a, c, e, _⟩ := Rv.form hs
  dsimp only at e hs hw
  subst e
  show Calls Tryd.prog 26 #[.int .i64 ahead, .agg #[.int .i64 run, .int .u16 sp, .string nm, .int .i64 tok, .slice a L.length c]] w _
  have HR : Hid (∀ w', Touch [] w w' → Calls Tryd.prog 43 #[.slice a L.length c] w' fun e w2 => e = .returned (.tuple #[.int .i64 (Rc.chkS L).1, .int .i64 (Rc.chkS L).2]) ∧ Touch [] w w2) := hid (fun w' T => by
    refine (Rc.check8 L a c w' (Kd.touch hk T) (hs.keep0 T).sl.2 hw.L).mono ?_
    rintro e w2 ⟨rfl, g⟩
    exact ⟨rfl, T.trans' (Gr.touch g)⟩)
  have HK : Hid (∀ w', Touch [] w w' → Calls Tryd.prog 42 #[.agg #[.int .u16 sp, .string nm]] w' fun e w2 => e = .returned (.int .i64 (if 64 < nm.size then 20 else 0)) ∧ Touch [] w w2) := hid (fun w' T => by
    refine (kcheck_ w' sp nm).mono ?_
    rintro e w2 ⟨rfl, g⟩
    exact ⟨rfl, T.trans' g⟩)
  clear hk hs hw
  have HE : Hid (mayE ahead ⟨run, sp, nm, tok, L⟩ = if run ≤ ahead ∨ tok < 0 then 140 else if 64 < nm.size then 20 else (Rc.chkS L).2) := hid rfl
  generalize mayE ahead ⟨run, sp, nm, tok, L⟩ = E at *
  generalize (Rc.chkS L).1 = k1 at *
  generalize (Rc.chkS L).2 = k2 at *
  by_cases h1 : run ≤ ahead
  · rw [if_pos (Or.inl h1)] at HE
    go_enter Tryd.func26, Tryd.ntmps26
    go_wp2
    go_ret
    exact ⟨by rw [HE.out]; rfl, (Touch.refl _ _).alloc _⟩
  · by_cases h2 : tok < 0
    · rw [if_pos (Or.inr h2)] at HE
      go_enter Tryd.func26, Tryd.ntmps26
      go_wp2
      go_ret
      exact ⟨by rw [HE.out]; rfl, (Touch.refl _ _).alloc _⟩
    · rw [if_neg (fun e => e.elim h1 h2)] at HE
      by_cases h3 : 64 < nm.size
      · rw [if_pos h3] at HE HK
        go_enter Tryd.func26, Tryd.ntmps26
        go_wp2_with (go_at_call 42; refine (HK.out _ ((Touch.refl _ _).alloc _)).mono ?_; rintro e w2 ⟨rfl, t2⟩; have T2 := hid t2; clear t2)
        go_ret
        exact ⟨by rw [HE.out]; rfl, T2.out⟩
      · rw [if_neg h3] at HE HK
        have HB : Hid (∀ w', Touch [] (w.alloc (.cells #[.int .i64 run, .int .u16 sp, .string nm, .int .i64 tok, .slice a L.length c] 33)) w' → w'.cell? ⟨w.heap.size, 4, none⟩ = some (.slice a L.length c)) := hid (fun w' T => cell_at (T.keep (heap_alloc_new w _) (by simp)) rfl)
        have HK2 : Hid (Calls Tryd.prog 42 #[.agg #[.int .u16 sp, .string nm]] (w.alloc (.cells #[.int .i64 run, .int .u16 sp, .string nm, .int .i64 tok, .slice a L.length c] 33)) fun e w2 => e = .returned (.int .i64 0) ∧ Touch [] w w2 ∧ w2.cell? ⟨w.heap.size, 4, none⟩ = some (.slice a L.length c)) := hid (by
          have hk := kcheck_ (w.alloc (.cells #[.int .i64 run, .int .u16 sp, .string nm, .int .i64 tok, .slice a L.length c] 33)) sp nm
          rw [if_neg h3] at hk
          refine hk.mono ?_
          rintro e w2 ⟨rfl, g⟩
          exact ⟨rfl, ((Touch.refl _ _).alloc _).trans' g, HB.out w2 g⟩)
        clear HK HB h3
        go_enter Tryd.func26, Tryd.ntmps26
        go_wp2_with (first
          | (go_at_call 42; refine HK2.out.mono ?_; rintro e w2 ⟨rfl, t2, c2⟩; have T2 := hid t2; clear t2)
          | (go_at_call 43; refine (HR.out _ T2.out).mono ?_; rintro e w3 ⟨rfl, t3⟩; have T3 := hid t3; clear t3)
          | fail)
        go_ret
        exact ⟨by rw [HE.out]; rfl, T3.out⟩
end Go.Proofs.YtcbckehdlbbbbaaDoor
/- A load whose recipe panicked ends each run with the one outcome: the program's panics; the conditions are those that it states. -/
namespace Go.Proofs.YtcbckehdlbbbbaaDoor
open Go.RowKit Go.Maps Go.ChangeMaps
set_option linter.unusedVariables false
set_option linter.unusedSimpArgs false
section
variable {w : World} {b r : Nat} {S : Ld} {vr vl : Value}
/-- results that were changed -/
def Ld.with_ (S : Ld) (res : List Rz) : Ld := ⟨S.num, res, S.left, S.p, S.n, S.wt, S.on, S.tm⟩
/-- the four cells of an outcome, written -/
def wrO (w : World) (g o : Nat) (x : Oc) : World := (((w.setCell ⟨g, o, none⟩ (.int .i64 x.1)).setCell ⟨g, o + 1, none⟩ (.int .i64 x.2.1)).setCell ⟨g, o + 2, none⟩ (.int .i64 x.2.2.1)).setCell ⟨g, o + 3, none⟩ (.int .i64 x.2.2.2)
theorem touch_wrO (w : World) (g o : Nat) (x : Oc) : Touch [g] w (wrO w g o x) := by
  unfold wrO
  exact ((((Touch.refl _ _).setCell (Or.inl (by simp)) _).setCell (Or.inl (by simp)) _).setCell (Or.inl (by simp)) _).setCell (Or.inl (by simp)) _
theorem set4_put {res : List Rz} {i : Nat} (hi : i < res.length) (x : Oc) : ((((res.flatMap rzc).set (i * 5 + 1) (.int .i64 x.1)).set (i * 5 + 1 + 1) (.int .i64 x.2.1)).set (i * 5 + 1 + 2) (.int .i64 x.2.2.1)).set (i * 5 + 1 + 3) (.int .i64 x.2.2.2) = (putO res i x).flatMap rzc := by
  have hg : res[i]? = some res[i] := List.getElem?_eq_getElem hi
  obtain ⟨n, v, k, c⟩ := x
  have e1 := flat_set rzc_len res hg (j := 1) (by decide) (v := .int .i64 n) (y := (res[i].1, n, res[i].2.2.1, res[i].2.2.2.1, res[i].2.2.2.2)) rfl
  rw [e1]
  have g1 : (res.set i (res[i].1, n, res[i].2.2.1, res[i].2.2.2.1, res[i].2.2.2.2))[i]? = some (res[i].1, n, res[i].2.2.1, res[i].2.2.2.1, res[i].2.2.2.2) := by simp [hi]
  have e2 := flat_set rzc_len _ g1 (j := 2) (by decide) (v := .int .i64 v) (y := (res[i].1, n, v, res[i].2.2.2.1, res[i].2.2.2.2)) rfl
  rw [show i * 5 + 1 + 1 = i * 5 + 2 by omega, e2, List.set_set]
  have g2 : (res.set i (res[i].1, n, v, res[i].2.2.2.1, res[i].2.2.2.2))[i]? = some (res[i].1, n, v, res[i].2.2.2.1, res[i].2.2.2.2) := by simp [hi]
  have e3 := flat_set rzc_len _ g2 (j := 3) (by decide) (v := .int .i64 k) (y := (res[i].1, n, v, k, res[i].2.2.2.2)) rfl
  rw [show i * 5 + 1 + 2 = i * 5 + 3 by omega, e3, List.set_set]
  have g3 : (res.set i (res[i].1, n, v, k, res[i].2.2.2.2))[i]? = some (res[i].1, n, v, k, res[i].2.2.2.2) := by simp [hi]
  have e4 := flat_set rzc_len _ g3 (j := 4) (by decide) (v := .int .i64 c) (y := (res[i].1, n, v, k, c)) rfl
  rw [show i * 5 + 1 + 3 = i * 5 + 4 by omega, e4, List.set_set]
  unfold putO
  rw [List.getD_eq_getElem?_getD, hg]
  rfl
theorem Lq.put (h : Lq w b r S vr vl) {i : Nat} (hi : i < S.res.length) (x : Oc) : Lq (wrO w r (i * 5 + 1) x) b r (S.with_ (putO S.res i x)) vr vl := by
  obtain ⟨c, rfl⟩ := h.vr
  have T := touch_wrO w r (i * 5 + 1) x
  refine ⟨T.keep h.bl (by simp; have := h.rb; omega), ?_, ⟨c, by simp [Ld.with_, putO_len]⟩, h.lf.keep T (fun k hk => Or.inl (by simpa using hk)), h.rb⟩
  have := own_set (own_set (own_set (own_set h.row (i * 5 + 1) (.int .i64 x.1)) (i * 5 + 1 + 1) (.int .i64 x.2.1)) (i * 5 + 1 + 2) (.int .i64 x.2.2.1)) (i * 5 + 1 + 3) (.int .i64 x.2.2.2)
  rw [set4_put hi] at this
  show World.ownsRow _ _ _ _ _ (putO S.res i x).length ((putO S.res i x).flatMap rzc)
  rw [putO_len]
  exact this
/-- nothing is left of a load's items -/
theorem Lq.nil (h : Lq w b r S vr vl) : Lq (w.setCell ⟨b, 2, none⟩ (.slice none 0 0)) b r ⟨S.num, S.res, [], S.p, S.n, S.wt, S.on, S.tm⟩ vr (.slice none 0 0) ∧ Touch [b] w (w.setCell ⟨b, 2, none⟩ (.slice none 0 0)) := by
  have T : Touch [b] w (w.setCell ⟨b, 2, none⟩ (.slice none 0 0)) := (Touch.refl _ _).setCell (Or.inl (by simp)) _
  refine ⟨⟨?_, own_touch h.row T (fun q hq e' => ?_), h.vr, Lf.nil _ _ _, h.rb⟩, T⟩
  · have := bset (i := 2) h.bl (.slice none 0 0)
    simpa [lc] using this
  · obtain ⟨c, e⟩ := h.vr
    rw [e] at hq
    simp only [Value.ownBlock, Option.some.injEq] at hq
    subst hq
    have := h.rb
    simp at e'
    omega
end
/-- the first so many have the one outcome -/
def partO (res : List Rz) (j : Nat) (o : Oc) : List Rz := allO (res.take j) o ++ res.drop j
theorem partO_len (res : List Rz) (j : Nat) (o : Oc) : (partO res j o).length = res.length := by
  simp [partO, allO]
  omega
theorem partO_step {res : List Rz} {j : Nat} (h : j < res.length) (o : Oc) : putO (partO res j o) j o = partO res (j + 1) o := by
  have e1 : (partO res j o).getD j (0, 0, 0, 0, 0) = res[j] := by
    unfold partO
    rw [List.getD_eq_getElem?_getD, List.getElem?_append_right (by simp [allO]; omega)]
    simp [allO, Nat.min_eq_left (Nat.le_of_lt h), h]
  unfold putO
  rw [e1]
  unfold partO
  rw [List.set_append_right _ _ (by simp [allO]; omega), List.take_succ_eq_append_getElem h]
  have e2 : j - (allO (res.take j) o).length = 0 := by simp [allO]; omega
  rw [e2, List.drop_eq_getElem_cons h, List.set_cons_zero]
  simp only [allO, List.map_append, List.map_cons, List.map_nil, List.append_assoc, List.cons_append, List.nil_append]
theorem partO_all (res : List Rz) (o : Oc) : partO res res.length o = allO res o := by simp [partO]
section
variable {w : World} {b r : Nat} {S : Ld} {vr vl : Value}
set_option maxHeartbeats 4000000 in
theorem panics_ (h : Lq w b r S vr vl) (hb : S.res.length ≤ 1024) (o : Oc) : Calls Tryd.prog 47 #[.pointer (some ⟨b, 0, none⟩), .agg #[.int .i64 o.1, .int .i64 o.2.1, .int .i64 o.2.2.1, .int .i64 o.2.2.2]] w fun e w' => e = .returned (.tuple #[]) ∧ Lq w' b r ⟨S.num, allO S.res o, [], S.p, S.n, S.wt, S.on, S.tm⟩ vr (.slice none 0 0) ∧ Touch [b, r] w w' := by
  obtain ⟨cr, rfl⟩ := h.vr
  obtain ⟨V, hV⟩ : ∃ V, V = w.alloc (.cells #[.int .i64 o.1, .int .i64 o.2.1, .int .i64 o.2.2.1, .int .i64 o.2.2.2] 51) := ⟨_, rfl⟩
  have tv : Touch [] w V := by rw [hV]; exact (Touch.refl _ _).alloc _
  have hbx : V.heap[w.heap.size]? = some (.cells #[.int .i64 o.1, .int .i64 o.2.1, .int .i64 o.2.2.1, .int .i64 o.2.2.2] 51 (0, 0)) := by rw [hV]; exact heap_alloc_new w _
  have hbw : b < w.heap.size := block_lt h.bl
  have hv := h.keep0 tv
  obtain ⟨k1, k2⟩ := hv.nil
  have d2 := froz_at hv.bl 2
  have d2c : ∃ a c, V.cell? ⟨b, 2, none⟩ = some (.slice a S.left.length c) := by
    obtain ⟨a, c, e, _⟩ := h.vform
    subst e
    exact ⟨a, c, cell_at hv.bl rfl⟩
  obtain ⟨al, cl, d2c⟩ := d2c
  have dl := block_lt hv.bl
  have HI : Hid (∀ wr j, Lq wr b r ⟨S.num, partO S.res j o, [], S.p, S.n, S.wt, S.on, S.tm⟩ (.slice (some ⟨r, 0, none⟩) S.res.length cr) (.slice none 0 0) → Touch [b, r] V wr → j < S.res.length →
      (wr.cell? ⟨b, 1, none⟩ = some (.slice (some ⟨r, 0, none⟩) S.res.length cr) ∧ wr.cell? ⟨w.heap.size, 0, none⟩ = some (.int .i64 o.1) ∧ wr.cell? ⟨w.heap.size, 1, none⟩ = some (.int .i64 o.2.1) ∧ wr.cell? ⟨w.heap.size, 2, none⟩ = some (.int .i64 o.2.2.1) ∧ wr.cell? ⟨w.heap.size, 3, none⟩ = some (.int .i64 o.2.2.2))
      ∧ ((∃ x0 x1 x2 x3 : Int, wr.cell? ⟨r, j * 5 + 1, none⟩ = some (.int .i64 x0) ∧ wr.cell? ⟨r, j * 5 + 2, none⟩ = some (.int .i64 x1) ∧ wr.cell? ⟨r, j * 5 + 3, none⟩ = some (.int .i64 x2) ∧ wr.cell? ⟨r, j * 5 + 4, none⟩ = some (.int .i64 x3)) ∧ ∀ i, wr.frozen? ⟨r, i, none⟩ = false)
      ∧ Lq (wrO wr.drew r (j * 5 + 1) o) b r ⟨S.num, partO S.res (j + 1) o, [], S.p, S.n, S.wt, S.on, S.tm⟩ (.slice (some ⟨r, 0, none⟩) S.res.length cr) (.slice none 0 0) ∧ Touch [b, r] V (wrO wr.drew r (j * 5 + 1) o)) := hid (fun wr j hq T hj => by
    have hrb := h.rb
    have hx := T.keep hbx (by simp; omega)
    have hlen := partO_len S.res j o
    have hq0 := hq
    have hget : (partO S.res j o)[j]? = some ((partO S.res j o)[j]'(by omega)) := List.getElem?_eq_getElem _
    have hq1 : Lq wr b r ⟨S.num, partO S.res j o, [], S.p, S.n, S.wt, S.on, S.tm⟩ (.slice (some ⟨r, 0, none⟩) (partO S.res j o).length cr) (.slice none 0 0) := by rw [hlen]; exact hq
    obtain ⟨z0, z1, z2, z3, z4⟩ := Lq.res hq1 hget
    refine ⟨⟨cell_at hq.bl rfl, cell_at hx rfl, cell_at hx rfl, cell_at hx rfl, cell_at hx rfl⟩, ⟨⟨_, _, _, _, z1, z2, z3, z4⟩, fun i => ?_⟩, ?_, ?_⟩
    · have := own_frozen hq1.row
      exact this i
    · have := (hq.keep0 (Touch.refl [] wr).drew).put (i := j) (by show j < (partO S.res j o).length; omega) o
      rw [show (⟨S.num, partO S.res (j + 1) o, [], S.p, S.n, S.wt, S.on, S.tm⟩ : Ld) = (⟨S.num, partO S.res j o, [], S.p, S.n, S.wt, S.on, S.tm⟩ : Ld).with_ (putO (partO S.res j o) j o) by rw [partO_step hj]; rfl]
      exact this
    · exact (T.trans' (Touch.refl _ _).drew).trans (touch_wrO wr.drew r (j * 5 + 1) o) (fun k hk => Or.inl (by simp at hk; simp [hk])))
  have HD : Hid (∀ wr, Lq wr b r ⟨S.num, partO S.res S.res.length o, [], S.p, S.n, S.wt, S.on, S.tm⟩ (.slice (some ⟨r, 0, none⟩) S.res.length cr) (.slice none 0 0) → Touch [b, r] V wr → Lq wr b r ⟨S.num, allO S.res o, [], S.p, S.n, S.wt, S.on, S.tm⟩ (.slice (some ⟨r, 0, none⟩) S.res.length cr) (.slice none 0 0) ∧ Touch [b, r] w wr) := hid (fun wr q T => by
    rw [partO_all] at q
    exact ⟨q, (tv.mono (fun _ e => by cases e)).trans' T⟩)
  have H0 : Hid (Lq (V.setCell ⟨b, 2, none⟩ (.slice none 0 0)) b r ⟨S.num, partO S.res 0 o, [], S.p, S.n, S.wt, S.on, S.tm⟩ (.slice (some ⟨r, 0, none⟩) S.res.length cr) (.slice none 0 0) ∧ Touch [b, r] V (V.setCell ⟨b, 2, none⟩ (.slice none 0 0))) := hid ⟨k1, k2.mono (fun k hk => by simp at hk; simp [hk])⟩
  have c1 : (V.setCell ⟨b, 2, none⟩ (.slice none 0 0)).cell? ⟨b, 1, none⟩ = some (.slice (some ⟨r, 0, none⟩) S.res.length cr) := cell_at k1.bl rfl
  have hle : (S.res.length : Int) ≤ 1024 := by omega
  clear h hv k1 k2 tv hbx hb hbw
  generalize (⟨S.num, allO S.res o, [], S.p, S.n, S.wt, S.on, S.tm⟩ : Ld) = S' at *
  generalize S.res.length = n at *
  go_enter Tryd.func47, Tryd.ntmps47
  go_upto_region 1 with fail
  rw [← hV]
  clear hV
  go_wp2
  generalize V.setCell ⟨b, 2, none⟩ (.slice none 0 0) = V1 at *
  clear d2 d2c dl
  go_loopw [13] (fun i wr => ∃ j : Nat, i = .int .i64 j ∧ j ≤ n ∧ Hid (Lq wr b r ⟨S.num, partO S.res j o, [], S.p, S.n, S.wt, S.on, S.tm⟩ (.slice (some ⟨r, 0, none⟩) n cr) (.slice none 0 0) ∧ Touch [b, r] V wr)) (fun i _ => n - (intOf i).toNat)
  case atStart => exact ⟨0, rfl, Nat.zero_le _, H0.out⟩
  case round =>
    obtain ⟨j, rfl, hj, HR⟩ := hrel
    by_cases hlt : j < n
    · have zk : (j : Int) < (n : Int) := by omega
      obtain ⟨⟨y1, p0, p1, p2, p3⟩, ⟨⟨x0, x1, x2, x3, z0, z1, z2, z3⟩, zf⟩, R⟩ := HI.out wr j HR.out.1 HR.out.2 hlt
      have RR := hid R
      clear R HI HD c1 H0
      unfold wrO at RR
      go_wp2
      go_region
      go_wp2
      go_roundw
      case rel => exact ⟨j + 1, by go_num, by omega, RR.out⟩
      case measure => simp [intOf]; omega
    · have e : j = n := by omega
      subst e
      have HX := hid (HD.out wr HR.out.1 HR.out.2)
      clear HD HI
      go_wp2
      go_end0
      exact ⟨rfl, HX.out⟩
end
end Go.Proofs.YtcbckehdlbbbbaaDoor
