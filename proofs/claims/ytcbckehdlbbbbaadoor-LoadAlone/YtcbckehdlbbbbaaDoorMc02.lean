/- A loader by itself, by the program; the conditions: the recipe lies in memory, the table holds what the start lays, the key's space is a number of 16 bits. -/
import Derived.Test.YtcbckehdlbbbbaaDoorMc01
import Derived.Test.YtcbckehdlbbbbaaDoorCards
import Derived.Test.YtcbckehdlbbbbaaDoorTie
import Derived.OpenShut
import Derived.ShutString
import Derived.LaidMore
import Derived.Stop.LaidErr
import Derived.Deep.DeepHandedRow
import Derived.Deep.Slices
import Derived.Lib.LaidTab
import Derived.Lib.SmallJoins
import Derived.SizedLaws
namespace Go.Proofs.YtcbckehdlbbbbaaDoor.Rc
open Go.RowKit Go.Sort
set_option linter.unusedVariables false
set_option linter.unusedSimpArgs false

theorem on_go {x : Ar} {L : List Sp} (hL : Good L) (hw : WfS L) {p : Nat} {n : Int} {R : Rs} (h : On (x.f L) p n R) : I64 n → ∀ q m wt o, R = .go q m wt o →
    p < q ∧ q ≤ L.length ∧ I64 m ∧ (wt = 1 ∨ wt = 2) ∧ (wt = 2 → 0 ≤ o ∧ o ≤ 4611686018427387904) ∧ I64 o := by
  refine h (fun p n R => I64 n → ∀ q m wt o, R = .go q m wt o → p < q ∧ q ≤ L.length ∧ I64 m ∧ (wt = 1 ∨ wt = 2) ∧ (wt = 2 → 0 ≤ o ∧ o ≤ 4611686018427387904) ∧ I64 o) ?_ ?_ ?_
  · intro p n v k c r e _ q m wt o h
    exact Rs.no' h
  · intro p n q m wt on e hn hi q' m' wt' o' h
    obtain ⟨rfl, rfl, rfl, rfl⟩ := Rs.go_inj h
    obtain ⟨h1, h2, h3, h4, h5, h6, h7⟩ := f_go hL hw hi e
    exact ⟨h1, h2, h3, by omega, h5, h6⟩
  · intro p n q m on R e ih hi q' m' wt' o' h
    obtain ⟨h1, h2, h3, h4, h5, h6, h7⟩ := f_go hL hw hi e
    obtain ⟨k1, k2, k3, k4, k5, k6⟩ := ih h3 q' m' wt' o' h
    exact ⟨by omega, k2, k3, k4, k5, k6⟩
def AlE (f : Nat → Int → Rs) (e : Ending) : Prop := ∃ v k c r s, e = .returned (.tuple #[.agg #[.int .i64 v, .int .i64 k, .int .i64 c, .int .i64 r], .int .i64 s, .int .i64 0]) ∧ Al f 0 0 0 (v, k, c, r, s) ∧ 0 ≤ s ∧ s ≤ 4611686018427387904
structure AlB (w wr : World) (q : Nat) (m : Int) (x : Ar) : Prop where
  g : Gr w wr
  b0 : Bx wr w.heap.size (.int .u16 x.sp) (.string x.nm) (.int .i64 x.r) (.bool x.cn)
  b1 : Bx wr (w.heap.size + 1) (.int .i64 0) (.int .i64 0) (.int .i64 0) (.int .i64 0)
  b2 : Bx wr (w.heap.size + 1 + 1) (.int .i64 q) (.int .i64 m) (.int .i64 0) (.int .i64 0)
theorem AlB.gr {w wr w' : World} {q : Nat} {m : Int} {x : Ar} (h : AlB w wr q m x) (hg : Gr wr w') : AlB w w' q m x :=
  ⟨h.g.trans hg, h.b0.gr hg, h.b1.gr hg, h.b2.gr hg⟩
theorem alB_start (w : World) (x : Ar) : AlB w (((w.alloc (.cells #[.int .u16 x.sp, .string x.nm, .int .i64 x.r, .bool x.cn] 71)).alloc (.cells #[.int .i64 0, .int .i64 0, .int .i64 0, .int .i64 0] 51)).alloc (.cells #[.int .i64 0, .int .i64 0, .int .i64 0, .int .i64 0] 76)) 0 0 x := by
  refine ⟨(((Gr.refl w).alloc _).alloc _).alloc _, ((bx_new w _ _ _ _ _).al _).al _, ?_, ?_⟩
  · have := bx_new (w.alloc (.cells #[.int .u16 x.sp, .string x.nm, .int .i64 x.r, .bool x.cn] 71)) (.int .i64 0) (.int .i64 0) (.int .i64 0) (.int .i64 0) 51
    simp only [World.size_alloc] at this
    exact this.al _
  · have := bx_new ((w.alloc (.cells #[.int .u16 x.sp, .string x.nm, .int .i64 x.r, .bool x.cn] 71)).alloc (.cells #[.int .i64 0, .int .i64 0, .int .i64 0, .int .i64 0] 51)) (.int .i64 0) (.int .i64 0) (.int .i64 0) (.int .i64 0) 76
    simp only [World.size_alloc] at this
    exact this
theorem AlB.next {w wr : World} {q : Nat} {m : Int} {x : Ar} (h : AlB w wr q m x) (q' : Nat) (m' : Int) :
    AlB w ((((wr.setCell ⟨w.heap.size + 1 + 1, 0, none⟩ (.int .i64 q')).setCell ⟨w.heap.size + 1 + 1, 1, none⟩ (.int .i64 m')).setCell ⟨w.heap.size + 1 + 1, 2, none⟩ (.int .i64 0)).setCell ⟨w.heap.size + 1 + 1, 3, none⟩ (.int .i64 0)) q' m' x :=
  ⟨h.g.set4 (by omega) _ _ _ _, h.b0.far (by omega) _ _ _ _, h.b1.far (by omega) _ _ _ _, h.b2.set _ _ _ _⟩
def placeA (w wr : World) : Nat := (intOf ((wr.cell? ⟨w.heap.size + 1 + 1, 0, none⟩).getD undef)).toNat
theorem AlB.place {w wr : World} {q : Nat} {m : Int} {x : Ar} (h : AlB w wr q m x) : placeA w wr = q := by unfold placeA; rw [h.b2.c0]; simp [intOf]
set_option maxHeartbeats 2000000 in
theorem alone20_ok (L : List Sp) (A : Option Addr) (c : Nat) (x : Ar) (w : World) (hk : Kd w) (hs : Sl w A L) (hw : WfS L) (hg : Good L) (hx : x.ok) :
    Calls Tryd.prog 23 #[.slice A L.length c, .agg #[.int .u16 x.sp, .string x.nm, .int .i64 x.r, .bool x.cn]] w fun e w' => AlE (x.f L) e ∧ Gr w w' := by
  have HC : Hid _ := ready30_ok L A c 0 0 0 (((w.alloc (.cells #[.int .u16 x.sp, .string x.nm, .int .i64 x.r, .bool x.cn] 71)).alloc (.cells #[.int .i64 0, .int .i64 0, .int .i64 0, .int .i64 0] 51)).alloc (.cells #[.int .i64 0, .int .i64 0, .int .i64 0, .int .i64 0] 76)) (hk.gr (alB_start w x).g) (hs.gr (alB_start w x).g) hw hg (Nat.zero_le _)
  have HS : Hid (Sl w A L ∧ Good L ∧ WfS L ∧ x.ok) := ⟨hs, hg, hw, hx⟩
  clear hk hs hw hg hx
  go_enter Tryd.func23, Tryd.ntmps23
  go_wp2_with fail
  refine Calls.mono HC.out ?_
  rintro e w1 ⟨rfl, hg⟩
  have HB : Hid (AlB w w1 0 0 x) := (alB_start w x).gr hg
  clear HC hg
  go_wp2_with fail
  go_loopw [5, 6, 9] (fun v5 v6 v9 wr => v5 = .int .i64 0 ∧ v6 = .int .i64 0 ∧ ∃ (s : Int) (q : Nat) (m : Int), v9 = .int .i64 s ∧ 0 ≤ s ∧ s ≤ 4611686018427387904 ∧ Hid (q ≤ L.length ∧ I64 m ∧ (∀ R, Al (x.f L) q m s R → Al (x.f L) 0 0 0 R)) ∧ Hid (AlB w wr q m x)) (fun _ _ _ wr => L.length + 1 - placeA w wr)
  case atStart => exact ⟨rfl, rfl, 0, 0, 0, rfl, by omega, by omega, ⟨Nat.zero_le _, ⟨by omega, by omega⟩, fun R h => h⟩, HB.out⟩
  case round =>
    obtain ⟨rfl, rfl, s, q, m, rfl, hs0, hs1, HQ, HB⟩ := hrel
    have HC : Hid _ := on32 L A c q m 0 x wr (HS.out.1.gr HB.out.g) HS.out.2.1 HS.out.2.2.1 HQ.out.2.1 HQ.out.1 HS.out.2.2.2
    have a0 := HB.out.b2.c0
    have a1 := HB.out.b2.c1
    have a2 := HB.out.b2.c2
    have a3 := HB.out.b2.c3
    have b0 := HB.out.b0.c0
    have b1 := HB.out.b0.c1
    have b2 := HB.out.b0.c2
    have b3 := HB.out.b0.c3
    go_wp2_with fail
    refine Calls.mono HC.out ?_
    rintro e w1 ⟨⟨R, rfl, hon⟩, hg⟩
    clear a0 a1 a2 a3 b0 b1 b2 b3 HC
    rcases R with ⟨q', m', wt, o'⟩ | ⟨v, k, cc, r⟩
    rotate_left
    · replace hon : On (x.f L) q m (.fin v k cc r) := hon
      rw [show rsV (Sum.inr (v, k, cc, r)) = _ from rsV_fin v k cc r]
      have HE : Hid (Al (x.f L) 0 0 0 (v, k, cc, r, s)) := HQ.out.2.2 _ (.fin hon)
      clear hon
      simp only [rsV_go, rsV_fin, ckV, otV]
      have HB2 : Hid (AlB w ((w1.alloc (.cells #[.int .i64 0, .int .i64 0, .int .i64 0, .int .i64 0] 76)).alloc (.cells #[.int .i64 v, .int .i64 k, .int .i64 cc, .int .i64 r] 51)) q m x) := (HB.out.gr hg).gr (((Gr.refl _).alloc _).alloc _)
      have c0 := HB2.out.b1.c0
      have c1 := HB2.out.b1.c1
      have c2 := HB2.out.b1.c2
      have c3 := HB2.out.b1.c3
      have d0 := HB2.out.b1.f0
      have d1 := HB2.out.b1.f1
      have d2 := HB2.out.b1.f2
      have d3 := HB2.out.b1.f3
      go_wp2_with fail
      obtain ⟨_, x0, x1, x2, x3, _, _, _, _⟩ := HB2.out.b1.set (.int .i64 v) (.int .i64 k) (.int .i64 cc) (.int .i64 r)
      exact bodyPost_ret (v := .tuple #[.agg #[.int .i64 v, .int .i64 k, .int .i64 cc, .int .i64 r], .int .i64 s, .int .i64 0]) (by simp [results, Tryd.results23, go_sem, x0, x1, x2, x3]) rfl ⟨⟨v, k, cc, r, s, rfl, HE.out, hs0, hs1⟩, HB2.out.g.set4 (by omega) (.int .i64 v) (.int .i64 k) (.int .i64 cc) (.int .i64 r)⟩
    · replace hon : On (x.f L) q m (.go q' m' wt o') := hon
      rw [show rsV (Sum.inl (q', m', wt, o')) = _ from rsV_go q' m' wt o']
      obtain ⟨h1, h2, h3, h4, h5, h6⟩ := on_go HS.out.2.1 HS.out.2.2.1 hon HQ.out.2.1 q' m' wt o' rfl
      have HM : Hid (placeA w wr = q ∧ q < q' ∧ q' ≤ L.length) := ⟨HB.out.place, h1, h2⟩
      have HQ2 : Hid (q' ≤ L.length ∧ I64 m' ∧ (∀ R, Al (x.f L) q' m' (if wt = 2 then capS s o' else s) R → Al (x.f L) 0 0 0 R)) := ⟨h2, h3, fun R h => HQ.out.2.2 R (.go hon h)⟩
      clear hon h1 h2 h3 HQ
      simp only [rsV_go, rsV_fin, ckV, otV]
      have HB2 : Hid (AlB w ((w1.alloc (.cells #[.int .i64 q', .int .i64 m', .int .i64 wt, .int .i64 o'] 76)).alloc (.cells #[.int .i64 0, .int .i64 0, .int .i64 0, .int .i64 0] 51)) q m x) := (HB.out.gr hg).gr (((Gr.refl _).alloc _).alloc _)
      have c0 := HB2.out.b2.c0
      have c1 := HB2.out.b2.c1
      have c2 := HB2.out.b2.c2
      have c3 := HB2.out.b2.c3
      have d0 := HB2.out.b2.f0
      have d1 := HB2.out.b2.f1
      have d2 := HB2.out.b2.f2
      have d3 := HB2.out.b2.f3
      clear hg HB
      rcases h4 with rfl | rfl
      · rw [if_neg (by decide)] at HQ2
        go_wp2_with fail
        go_roundw
        case rel => exact ⟨by first | rfl | trivial, by first | rfl | trivial, s, q', m', by first | rfl | trivial, by omega, by omega, HQ2.out, HB2.out.next q' m'⟩
        case measure =>
          have h1 := (HB2.out.next q' m').place
          have h2 := HM.out
          rw [h2.1, h1]
          omega
      · rw [if_pos rfl] at HQ2
        obtain ⟨h51, h52⟩ := h5 rfl
        clear h5 h6
        have wd : IntKind.i64.wrap (4611686018427387904 - s) = 4611686018427387904 - s := by rw [IntKind.wrap_i64]; omega
        by_cases hle : o' ≤ 4611686018427387904 - s
        · have e : capS s o' = s + o' := by unfold capS; omega
          rw [e] at HQ2
          have wa : IntKind.i64.wrap (s + o') = s + o' := by rw [IntKind.wrap_i64]; omega
          clear e
          go_wp2_with fail
          go_roundw
          case rel => exact ⟨by first | rfl | trivial, by first | rfl | trivial, s + o', q', m', by first | rfl | trivial, by omega, by omega, HQ2.out, HB2.out.next q' m'⟩
          case measure =>
            have h1 := (HB2.out.next q' m').place
            have h2 := HM.out
            rw [h2.1, h1]
            omega
        · have hlt : 4611686018427387904 - s < o' := by omega
          have e : capS s o' = s + (4611686018427387904 - s) := by unfold capS; omega
          rw [e] at HQ2
          have wa : IntKind.i64.wrap (s + (4611686018427387904 - s)) = s + (4611686018427387904 - s) := by rw [IntKind.wrap_i64]; omega
          clear e hle
          go_wp2_with fail
          go_roundw
          case rel => exact ⟨by first | rfl | trivial, by first | rfl | trivial, s + (4611686018427387904 - s), q', m', by first | rfl | trivial, by omega, by omega, HQ2.out, HB2.out.next q' m'⟩
          case measure =>
            have h1 := (HB2.out.next q' m').place
            have h2 := HM.out
            rw [h2.1, h1]
            omega
end Go.Proofs.YtcbckehdlbbbbaaDoor.Rc
/- What every law of this program's eighth layer takes in: the table of the kinds of steps, a world that holds it, a list of steps and what surrounds a loader, opened and shut; no conditions. -/
namespace Go.Proofs.YtcbckehdlbbbbaaDoor.Rc
open Go.ChangeShapes Go.WideShapes Go.ChangeAt Go.RowKit
set_option linter.unusedVariables false

theorem own : ownKnob Tryd.prog.godebug = none := by kernel_rfl
theorem laidOut : laidOutB Tryd.prog = true := by kernel_rfl
theorem cells2 : Tryd.prog.cellsOf 2 = 1 := by kernel_rfl
theorem cells3 : Tryd.prog.cellsOf 3 = 1 := by kernel_rfl
theorem cells4 : Tryd.prog.cellsOf 4 = 1 := by kernel_rfl
theorem cells9 : Tryd.prog.cellsOf 9 = 1 := by kernel_rfl
theorem cells27 : Tryd.prog.cellsOf 30 = 2 := by kernel_rfl
theorem cells29 : Tryd.prog.cellsOf 71 = 4 := by kernel_rfl
theorem cells64 : Tryd.prog.cellsOf 35 = 3 := by kernel_rfl
theorem cells105 : Tryd.prog.cellsOf 154 = 2 := by kernel_rfl
theorem cells106 : Tryd.prog.cellsOf 155 = 4 := by kernel_rfl
theorem cells108 : Tryd.prog.cellsOf 157 = 6 := by kernel_rfl
theorem cells109 : Tryd.prog.cellsOf 158 = 78 := by kernel_rfl
theorem gKinds : Tryd.prog.globalNamed "convoy/recipe.kinds" = some 0 := by kernel_rfl
theorem gKindsType : (Tryd.prog.globals[0]?).map (·.type) = some 158 := by kernel_rfl
section
variable {H : Type} {enc : TypeId × Value → H} {w : World} {base : Nat} {sp : Nat → Bool} {held : Bool} {fuel : Nat}
set_option maxRecDepth 100000 in
theorem span_of {cs : List Value} {l g : Int} {p : List MemPlace} (h : DataW.trod enc Tryd.prog w base sp held fuel 154 cs = some (.agg [.lit (.int .i64 l), .lit (.int .i64 g)], p)) : cs = [.int .i64 l, .int .i64 g] := by
  obtain ⟨xs, n, _, hx, hl, hlen, hf⟩ := DataW.trod_struct Tryd.underlying154 h
  rw [cells105] at hl
  match xs, hlen with
  | [y0, y1], _ =>
    have g0 := hf 0 _ rfl
    have g1 := hf 1 _ rfl
    match cs, hl with
    | [v0, v1], _ =>
      simp [cells2] at g0 g1 hx
      obtain ⟨a, a1, a2, _⟩ := DataW.trod_int Tryd.underlying2 g0
      obtain ⟨b, b1, b2, _⟩ := DataW.trod_int Tryd.underlying2 g1
      simp at a1 b1
      subst a1 b1 a2 b2
      simp at hx
      obtain ⟨⟨rfl, rfl⟩, _⟩ := hx
      rfl
set_option maxRecDepth 100000 in
theorem two_of {cs : List Value} {l g l' g' : Int} {p : List MemPlace} (h : DataW.trod enc Tryd.prog w base sp held fuel 155 cs = some (.agg [.agg [.lit (.int .i64 l), .lit (.int .i64 g)], .agg [.lit (.int .i64 l'), .lit (.int .i64 g')]], p)) : cs = [.int .i64 l, .int .i64 g, .int .i64 l', .int .i64 g'] := by
  obtain ⟨xs, n, _, hx, hl, hlen, hf⟩ := DataW.trod_array Tryd.underlying155 h
  rw [cells106] at hl
  match xs, hlen with
  | [y0, y1], _ =>
    have g0 := hf 0 (by decide)
    have g1 := hf 1 (by decide)
    match cs, hl with
    | [v0, v1, v2, v3], _ =>
      simp [cells105] at g0 g1 hx
      obtain ⟨d0, p0⟩ := y0
      obtain ⟨d1, p1⟩ := y1
      simp at hx
      obtain ⟨⟨rfl, rfl⟩, _⟩ := hx
      have e0 := span_of g0
      have e1 := span_of g1
      simp at e0 e1
      obtain ⟨rfl, rfl⟩ := e0
      obtain ⟨rfl, rfl⟩ := e1
      rfl
def kD (z : List UInt8) (k l g l' g' : Int) : DataW H := .agg [.lit (.string z), .lit (.int .i64 k), .agg [.agg [.lit (.int .i64 l), .lit (.int .i64 g)], .agg [.lit (.int .i64 l'), .lit (.int .i64 g')]]]
set_option maxRecDepth 100000 in
theorem kind_of {cs : List Value} {z : List UInt8} {k l g l' g' : Int} {p : List MemPlace} (h : DataW.trod enc Tryd.prog w base sp held fuel 157 cs = some (kD z k l g l' g', p)) : cs = [.string ⟨z.toArray⟩, .int .i64 k, .int .i64 l, .int .i64 g, .int .i64 l', .int .i64 g'] := by
  obtain ⟨xs, n, _, hx, hl, hlen, hf⟩ := DataW.trod_struct Tryd.underlying157 h
  rw [cells108] at hl
  match xs, hlen with
  | [y0, y1, y2], _ =>
    have g0 := hf 0 _ rfl
    have g1 := hf 1 _ rfl
    have g2 := hf 2 _ rfl
    match cs, hl with
    | [v0, v1, v2, v3, v4, v5], _ =>
      simp [cells9, cells3, cells106] at g0 g1 g2
      obtain ⟨d0, p0⟩ := y0
      obtain ⟨d1, p1⟩ := y1
      obtain ⟨d2, p2⟩ := y2
      simp [kD] at hx
      obtain ⟨⟨rfl, rfl, rfl⟩, _⟩ := hx
      obtain ⟨s, s1, s2, _⟩ := DataW.trod_string Tryd.underlying9 g0
      obtain ⟨b, b1, b2, _⟩ := DataW.trod_int Tryd.underlying3 g1
      have e2 := two_of g2
      simp at s1 b1 b2 s2 e2
      obtain ⟨rfl, rfl, rfl, rfl⟩ := e2
      subst s1 b1
      obtain ⟨rfl, _⟩ := b2
      obtain ⟨rfl, _⟩ := s2
      rfl
end
theorem kinds_eq {H : Type} : (Rows.laid_convoy_recipe_kinds : DataW H) = .agg ((List.range 13).map fun k => kD (kWord k).data.toList (kNamed k) (kLa k) (kHa k) (kLb k) (kHb k)) := rfl
theorem kd_of {W : World} {rest : List (String × DataW Unit)} (h : laidMet Tryd.prog (("convoy/recipe.kinds", Rows.laid_convoy_recipe_kinds) :: rest) W) : Kd W := by
  obtain ⟨ps, ⟨g', t', cs, fuel, p, q, hg', ht', hvar, hd, _, _⟩, _⟩ := h
  obtain rfl := Option.some.inj (gKinds.symm.trans hg')
  obtain rfl := Option.some.inj (gKindsType.symm.trans ht')
  rw [kinds_eq] at hd
  obtain ⟨xs, n, _, hx, hl, hlen, hf⟩ := DataW.trod_array Tryd.underlying158 hd
  have each : ∀ k, k < 13 → (cs.toList.drop (k * 6)).take 6 = [.string (kWord k), .int .i64 (kNamed k), .int .i64 (kLa k), .int .i64 (kHa k), .int .i64 (kLb k), .int .i64 (kHb k)] := fun k hk => by
    have h1 := hf k hk
    rw [cells108] at h1
    have h2 : xs[k]? = some (kD (kWord k).data.toList (kNamed k) (kLa k) (kHa k) (kLb k) (kHb k), (xs[k]'(by omega)).2) := by
      rw [List.getElem?_eq_getElem (by omega)]
      have h3 : (xs.map (·.1))[k]? = some (kD (kWord k).data.toList (kNamed k) (kLa k) (kHa k) (kLb k) (kHb k)) := by
        have h4 := congrArg Prod.fst hx
        simp only [DataW.agg.injEq] at h4
        rw [← h4, List.getElem?_map, List.getElem?_range hk]
        rfl
      rw [List.getElem?_map, List.getElem?_eq_getElem (by omega)] at h3
      simp only [Option.map_some, Option.some.injEq] at h3
      rw [← h3]
    rw [h2] at h1
    have := kind_of h1
    rw [this]
  have cell : ∀ k, k < 13 → ∀ j, j < 6 → W.cell? ⟨0, k * 6 + j, none⟩ = ([.string (kWord k), .int .i64 (kNamed k), .int .i64 (kLa k), .int .i64 (kHa k), .int .i64 (kLb k), .int .i64 (kHb k)] : List Value)[j]? := fun k hk j hj => by
    rw [World.var?_cell gKinds hvar (k * 6 + j), ← each k hk, List.getElem?_take, if_pos hj, List.getElem?_drop]
    simp
  exact ⟨fun k hk => cell k hk 0 (by decide), fun k hk => cell k hk 1 (by decide), fun k hk => cell k hk 2 (by decide), fun k hk => cell k hk 3 (by decide), fun k hk => cell k hk 4 (by decide), fun k hk => cell k hk 5 (by decide)⟩
theorem door_met (os : Os) (args : Array Value) : laidMetH Tryd.prog Rows.loadNilRow.laid ((World.doorLaid Tryd.prog 100 os).forCall (fun _ _ => 0) ⟨#[], args, []⟩).memory := by
  rw [MakeChecks.laidMetH_plain _ _ _ (by kernel_rfl)]
  exact laidMet_of_run' 8 (by kernel_rfl) (by kernel_rfl)
theorem kd_row {W : World} (h : laidMetH Tryd.prog Rows.loadNilRow.laid W) : Kd W := by
  rw [MakeChecks.laidMetH_plain _ _ _ (by kernel_rfl)] at h
  exact kd_of (rest := []) h
theorem i64_of {z : Int} (h : (Lit.int .i64 z).wf = true) : I64 z := by
  have h := h
  simp [Lit.wf, IntKind.min, IntKind.max, IntKind.bits, IntKind.signed] at h
  unfold I64
  omega
theorem u16_of {a : Int} (h : (Lit.int .u16 a).wf = true) : 0 ≤ a ∧ a ≤ 65535 := by
  simp [Lit.wf, IntKind.min, IntKind.max, IntKind.bits, IntKind.signed] at h
  omega
set_option maxRecDepth 100000 in
theorem fields64 {H : Type} {enc : TypeId × Value → H} {W : World} {base fuel : Nat} {spare : Nat → Bool} {held : Bool} {cs : List Value} {x : DataW H × List MemPlace} (h : DataW.trod enc Tryd.prog W base spare held fuel 35 cs = some x) (hl : cs.length = 3) : ∃ a : Sp, cs = [.int .i64 a.1, .int .i64 a.2.1, .int .i64 a.2.2] ∧ I64 a.1 ∧ I64 a.2.1 ∧ I64 a.2.2 := by
  obtain ⟨ys, k, hk, hxy, _, hyl, hfe⟩ := DataW.trod_struct Tryd.underlying35 h
  match cs, hl with
  | [v0, v1, v2], _ =>
    have hy : ys.length = 3 := hyl
    match ys, hy with
    | [y0, y1, y2], _ =>
      have g0 := hfe 0 _ rfl
      have g1 := hfe 1 _ rfl
      have g2 := hfe 2 _ rfl
      simp [cells3, cells2] at g0 g1 g2
      obtain ⟨A, a1, _, wa⟩ := DataW.trod_int Tryd.underlying3 g0
      obtain ⟨B, b1, _, wb⟩ := DataW.trod_int Tryd.underlying2 g1
      obtain ⟨C, c1, _, wc⟩ := DataW.trod_int Tryd.underlying2 g2
      simp at a1 b1 c1
      subst a1 b1 c1
      exact ⟨(A, B, C), rfl, i64_of wa, i64_of wb, i64_of wc⟩
theorem add_plain (b off j : Nat) : (⟨b, off, none⟩ : Addr).add j = ⟨b, off + j, none⟩ := by simp [Addr.add]
set_option maxRecDepth 100000 in
theorem open_steps {H : Type} {enc : TypeId × Value → H} {W : World} {b0 : Nat} {v : Value} {d : DataW H} {p : List MemPlace} (hv : Value.okWide Tryd.prog W .any b0 31 v) (h : DataW.Trod enc Tryd.prog W 0 (fun _ => true) true 31 v d p) :
    ∃ (A : Option Addr) (c : Nat) (L : List Sp), v = .slice A L.length c ∧ Sl W A L ∧ WfS L ∧ (L = [] ∨ ∃ elems spare, d = .slice elems spare ∧ elems.length = L.length) := by
  obtain ⟨a, len, cap, rfl⟩ := okWide_slice Tryd.underlying31 hv
  obtain ⟨fuel, hf⟩ := h
  rcases Deep.open_slice Tryd.underlying31 hf with ⟨hcs, _⟩ | ⟨x, l, c, m, n, D, Pl, hcs, _, hl, hm, hmm, hx, hall⟩
  · simp [Value.cells] at hcs
    obtain ⟨rfl, rfl, rfl⟩ := hcs
    exact ⟨_, _, [], rfl, fun i hi => by simp at hi, fun x hx => by simp at hx, Or.inl rfl⟩
  · simp [Value.cells] at hcs
    obtain ⟨rfl, rfl, rfl⟩ := hcs
    simp only [if_true] at hmm
    subst hmm
    simp only [Prod.mk.injEq] at hx
    obtain ⟨rfl, rfl⟩ := hx
    rw [cells64] at hall
    have each : ∀ i, i < m → ∃ q : Sp, W.cell? (x.add (i * 3)) = some (.int .i64 q.1) ∧ W.cell? (x.add (i * 3 + 1)) = some (.int .i64 q.2.1) ∧ W.cell? (x.add (i * 3 + 2)) = some (.int .i64 q.2.2) ∧ I64 q.1 ∧ I64 q.2.1 ∧ I64 q.2.2 := fun i hi => by
      obtain ⟨cs', h1, h2⟩ := hall i hi
      obtain ⟨_, hlen, hcell⟩ := World.cells?_some h1
      obtain ⟨q, rfl, hw⟩ := fields64 h2 hlen
      have e0 := hcell 0 (by simp)
      have e1 := hcell 1 (by simp)
      have e2 := hcell 2 (by simp)
      rw [Deep.add_add] at e0 e1 e2
      exact ⟨q, by simpa using e0, by simpa using e1, by simpa using e2, hw⟩
    haveI : Inhabited Sp := ⟨(0, 0, 0)⟩
    obtain ⟨q, hq⟩ := Deep.choose_lt each
    rcases Nat.eq_zero_or_pos len with e | e
    · subst e
      exact ⟨_, _, [], rfl, fun i hi => by simp at hi, fun x hx => by simp at hx, Or.inl rfl⟩
    · have hsp : x.spot = none := by
        have h0 := (hq 0 (by omega)).1
        rw [show x.add (0 * 3) = x by simp [Addr.add]] at h0
        unfold World.cell? at h0
        split at h0
        · split at h0
          · cases h0
          · rename_i hs
            cases hh : x.spot with
            | none => rfl
            | some z => rw [hh] at hs; exact absurd rfl hs
        · cases h0
      obtain ⟨b, off, r⟩ := x
      obtain rfl : r = none := hsp
      have hlen : ((List.range len).map q).length = len := by simp
      refine ⟨some ⟨b, off, none⟩, m, (List.range len).map q, by rw [hlen], fun i hi => ?_, fun y hy => ?_, Or.inr ⟨_, _, rfl, by simp⟩⟩
      · rw [hlen] at hi
        obtain ⟨h0, h1, h2, _⟩ := hq i (by omega)
        refine ⟨b, off, rfl, ?_, ?_, ?_⟩
        · simpa [add_plain] using h0
        · simpa [add_plain, Nat.add_assoc] using h1
        · simpa [add_plain, Nat.add_assoc] using h2
      · simp only [List.mem_map, List.mem_range] at hy
        obtain ⟨i, hi, rfl⟩ := hy
        exact (hq i (by omega)).2.2.2
end Go.Proofs.YtcbckehdlbbbbaaDoor.Rc
