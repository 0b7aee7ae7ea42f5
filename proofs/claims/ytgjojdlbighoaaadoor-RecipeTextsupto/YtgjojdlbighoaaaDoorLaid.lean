/- What every law of this program's eighth layer takes in: the table of the kinds of steps, a world that holds it, a list of steps and what surrounds a loader, opened and shut; no conditions. -/
import Derived.Test.YtgjojdlbighoaaaDoorCards
import Derived.Test.YtgjojdlbighoaaaDoorTie
import Derived.Test.YtgjojdlbighoaaaDoorAwk
import Derived.OpenShut
import Derived.ShutString
import Derived.LaidMore
import Derived.Stop.LaidErr
import Derived.Deep.DeepHandedRow
import Derived.Deep.Slices
import Derived.Lib.LaidTab
import Derived.Lib.SmallJoins
import Derived.SizedLaws
namespace Go.Proofs.YtgjojdlbighoaaaDoor
open Go.ChangeShapes Go.WideShapes Go.ChangeAt Go.RowKit
set_option linter.unusedVariables false

theorem own : ownKnob Tryd.prog.godebug = none := by kernel_rfl
theorem laidOut : laidOutB Tryd.prog = true := by kernel_rfl
theorem cells2 : Tryd.prog.cellsOf 2 = 1 := by kernel_rfl
theorem cells3 : Tryd.prog.cellsOf 3 = 1 := by kernel_rfl
theorem cells4 : Tryd.prog.cellsOf 4 = 1 := by kernel_rfl
theorem cells9 : Tryd.prog.cellsOf 9 = 1 := by kernel_rfl
theorem cells27 : Tryd.prog.cellsOf 27 = 2 := by kernel_rfl
theorem cells29 : Tryd.prog.cellsOf 29 = 4 := by kernel_rfl
theorem cells64 : Tryd.prog.cellsOf 64 = 3 := by kernel_rfl
theorem cells105 : Tryd.prog.cellsOf 105 = 2 := by kernel_rfl
theorem cells106 : Tryd.prog.cellsOf 106 = 4 := by kernel_rfl
theorem cells108 : Tryd.prog.cellsOf 108 = 6 := by kernel_rfl
theorem cells109 : Tryd.prog.cellsOf 109 = 78 := by kernel_rfl
theorem gKinds : Tryd.prog.globalNamed "convoy/recipe.kinds" = some 0 := by kernel_rfl
theorem gKindsType : (Tryd.prog.globals[0]?).map (·.type) = some 109 := by kernel_rfl
section
variable {H : Type} {enc : TypeId × Value → H} {w : World} {base : Nat} {sp : Nat → Bool} {held : Bool} {fuel : Nat}
set_option maxRecDepth 100000 in
theorem span_of {cs : List Value} {l g : Int} {p : List MemPlace} (h : DataW.trod enc Tryd.prog w base sp held fuel 105 cs = some (.agg [.lit (.int .i64 l), .lit (.int .i64 g)], p)) : cs = [.int .i64 l, .int .i64 g] := by
  obtain ⟨xs, n, _, hx, hl, hlen, hf⟩ := DataW.trod_struct Tryd.underlying105 h
  rw [cells105] at hl
  match xs, hlen with
  | [y0, y1], _ =>
    have g0 := hf 0 _ rfl
    have g1 := hf 1 _ rfl
    match cs, hl with
    | [v0, v1], _ =>
      simp [cells2] at g0 g1 hx
      obtain ⟨a, a1, a2, _⟩ := DataW.trod_int Tryd.underlying2 g0
      obtain ⟨b, b1, b2, _⟩ := DataW.trod_int Tryd.underlying2 g1
      simp at a1 b1
      subst a1 b1 a2 b2
      simp at hx
      obtain ⟨⟨rfl, rfl⟩, _⟩ := hx
      rfl
set_option maxRecDepth 100000 in
theorem two_of {cs : List Value} {l g l' g' : Int} {p : List MemPlace} (h : DataW.trod enc Tryd.prog w base sp held fuel 106 cs = some (.agg [.agg [.lit (.int .i64 l), .lit (.int .i64 g)], .agg [.lit (.int .i64 l'), .lit (.int .i64 g')]], p)) : cs = [.int .i64 l, .int .i64 g, .int .i64 l', .int .i64 g'] := by
  obtain ⟨xs, n, _, hx, hl, hlen, hf⟩ := DataW.trod_array Tryd.underlying106 h
  rw [cells106] at hl
  match xs, hlen with
  | [y0, y1], _ =>
    have g0 := hf 0 (by decide)
    have g1 := hf 1 (by decide)
    match cs, hl with
    | [v0, v1, v2, v3], _ =>
      simp [cells105] at g0 g1 hx
      obtain ⟨d0, p0⟩ := y0
      obtain ⟨d1, p1⟩ := y1
      simp at hx
      obtain ⟨⟨rfl, rfl⟩, _⟩ := hx
      have e0 := span_of g0
      have e1 := span_of g1
      simp at e0 e1
      obtain ⟨rfl, rfl⟩ := e0
      obtain ⟨rfl, rfl⟩ := e1
      rfl
def kD (z : List UInt8) (k l g l' g' : Int) : DataW H := .agg [.lit (.string z), .lit (.int .i64 k), .agg [.agg [.lit (.int .i64 l), .lit (.int .i64 g)], .agg [.lit (.int .i64 l'), .lit (.int .i64 g')]]]
set_option maxRecDepth 100000 in
theorem kind_of {cs : List Value} {z : List UInt8} {k l g l' g' : Int} {p : List MemPlace} (h : DataW.trod enc Tryd.prog w base sp held fuel 108 cs = some (kD z k l g l' g', p)) : cs = [.string ⟨z.toArray⟩, .int .i64 k, .int .i64 l, .int .i64 g, .int .i64 l', .int .i64 g'] := by
  obtain ⟨xs, n, _, hx, hl, hlen, hf⟩ := DataW.trod_struct Tryd.underlying108 h
  rw [cells108] at hl
  match xs, hlen with
  | [y0, y1, y2], _ =>
    have g0 := hf 0 _ rfl
    have g1 := hf 1 _ rfl
    have g2 := hf 2 _ rfl
    match cs, hl with
    | [v0, v1, v2, v3, v4, v5], _ =>
      simp [cells9, cells3, cells106] at g0 g1 g2
      obtain ⟨d0, p0⟩ := y0
      obtain ⟨d1, p1⟩ := y1
      obtain ⟨d2, p2⟩ := y2
      simp [kD] at hx
      obtain ⟨⟨rfl, rfl, rfl⟩, _⟩ := hx
      obtain ⟨s, s1, s2, _⟩ := DataW.trod_string Tryd.underlying9 g0
      obtain ⟨b, b1, b2, _⟩ := DataW.trod_int Tryd.underlying3 g1
      have e2 := two_of g2
      simp at s1 b1 b2 s2 e2
      obtain ⟨rfl, rfl, rfl, rfl⟩ := e2
      subst s1 b1
      obtain ⟨rfl, _⟩ := b2
      obtain ⟨rfl, _⟩ := s2
      rfl
end
theorem kinds_eq {H : Type} : (Rows.laid_convoy_recipe_kinds : DataW H) = .agg ((List.range 13).map fun k => kD (kWord k).data.toList (kNamed k) (kLa k) (kHa k) (kLb k) (kHb k)) := rfl
theorem kd_of {W : World} {rest : List (String × DataW Unit)} (h : laidMet Tryd.prog (("convoy/recipe.kinds", Rows.laid_convoy_recipe_kinds) :: rest) W) : Kd W := by
  obtain ⟨ps, ⟨g', t', cs, fuel, p, q, hg', ht', hvar, hd, _, _⟩, _⟩ := h
  obtain rfl := Option.some.inj (gKinds.symm.trans hg')
  obtain rfl := Option.some.inj (gKindsType.symm.trans ht')
  rw [kinds_eq] at hd
  obtain ⟨xs, n, _, hx, hl, hlen, hf⟩ := DataW.trod_array Tryd.underlying109 hd
  have each : ∀ k, k < 13 → (cs.toList.drop (k * 6)).take 6 = [.string (kWord k), .int .i64 (kNamed k), .int .i64 (kLa k), .int .i64 (kHa k), .int .i64 (kLb k), .int .i64 (kHb k)] := fun k hk => by
    have h1 := hf k hk
    rw [cells108] at h1
    have h2 : xs[k]? = some (kD (kWord k).data.toList (kNamed k) (kLa k) (kHa k) (kLb k) (kHb k), (xs[k]'(by omega)).2) := by
      rw [List.getElem?_eq_getElem (by omega)]
      have h3 : (xs.map (·.1))[k]? = some (kD (kWord k).data.toList (kNamed k) (kLa k) (kHa k) (kLb k) (kHb k)) := by
        have h4 := congrArg Prod.fst hx
        simp only [DataW.agg.injEq] at h4
        rw [← h4, List.getElem?_map, List.getElem?_range hk]
        rfl
      rw [List.getElem?_map, List.getElem?_eq_getElem (by omega)] at h3
      simp only [Option.map_some, Option.some.injEq] at h3
      rw [← h3]
    rw [h2] at h1
    have := kind_of h1
    rw [this]
  have cell : ∀ k, k < 13 → ∀ j, j < 6 → W.cell? ⟨0, k * 6 + j, none⟩ = ([.string (kWord k), .int .i64 (kNamed k), .int .i64 (kLa k), .int .i64 (kHa k), .int .i64 (kLb k), .int .i64 (kHb k)] : List Value)[j]? := fun k hk j hj => by
    rw [World.var?_cell gKinds hvar (k * 6 + j), ← each k hk, List.getElem?_take, if_pos hj, List.getElem?_drop]
    simp
  exact ⟨fun k hk => cell k hk 0 (by decide), fun k hk => cell k hk 1 (by decide), fun k hk => cell k hk 2 (by decide), fun k hk => cell k hk 3 (by decide), fun k hk => cell k hk 4 (by decide), fun k hk => cell k hk 5 (by decide)⟩
theorem door_met (os : Os) (args : Array Value) : laidMetH Tryd.prog Rows.recipeSameRow.laid ((World.doorLaid Tryd.prog 100 os).forCall (fun _ _ => 0) ⟨#[], args, []⟩).memory := by
  rw [MakeChecks.laidMetH_plain _ _ _ (by kernel_rfl)]
  exact laidMet_of_run' 8 (by kernel_rfl) (by kernel_rfl)
theorem kd_row {W : World} (h : laidMetH Tryd.prog Rows.recipeSameRow.laid W) : Kd W := by
  rw [MakeChecks.laidMetH_plain _ _ _ (by kernel_rfl)] at h
  exact kd_of (rest := []) h
theorem i64_of {z : Int} (h : (Lit.int .i64 z).wf = true) : I64 z := by
  have h := h
  simp [Lit.wf, IntKind.min, IntKind.max, IntKind.bits, IntKind.signed] at h
  unfold I64
  omega
theorem u16_of {a : Int} (h : (Lit.int .u16 a).wf = true) : 0 ≤ a ∧ a ≤ 65535 := by
  simp [Lit.wf, IntKind.min, IntKind.max, IntKind.bits, IntKind.signed] at h
  omega
set_option maxRecDepth 100000 in
theorem open_around {H : Type} {enc : TypeId × Value → H} {W : World} {b0 : Nat} {v : Value} {d : DataW H} {p : List MemPlace} (hv : Value.okWide Tryd.prog W .any b0 29 v) (h : DataW.Trod enc Tryd.prog W 0 (fun _ => true) true 29 v d p) :
    ∃ x : Ar, v = .agg #[.int .u16 x.sp, .string x.nm, .int .i64 x.r, .bool x.cn] ∧ d = .agg [.agg [.lit (.int .u16 x.sp), .lit (.string x.nm.data.toList)], .lit (.int .i64 x.r), .lit (.bool x.cn)] ∧ (0 ≤ x.sp ∧ x.sp ≤ 65535) ∧ I64 x.r := by
  obtain ⟨cs, rfl, hs⟩ := okWide_struct Tryd.underlying29 hv
  obtain ⟨fuel, hf⟩ := h
  rw [cells29] at hs
  obtain ⟨ys, k, hk, hxy, _, hyl, hfe⟩ := DataW.trod_struct Tryd.underlying29 hf
  obtain ⟨cl⟩ := cs
  have hs' : cl.length = 4 := by simpa using hs
  match cl, hs' with
  | [v0, v1, v2, v3], _ =>
    have hy : ys.length = 3 := hyl
    match ys, hy with
    | [y0, y1, y2], _ =>
      have g0 := hfe 0 _ rfl
      have g1 := hfe 1 _ rfl
      have g2 := hfe 2 _ rfl
      simp [Value.cells, cells27, cells3, cells4] at g0 g1 g2
      obtain ⟨zs, k2, hk2, hz, _, hzl, hzf⟩ := DataW.trod_struct Tryd.underlying27 g0
      have hzl' : zs.length = 2 := hzl
      match zs, hzl' with
      | [z0, z1], _ =>
        have q0 := hzf 0 _ rfl
        have q1 := hzf 1 _ rfl
        have c25 : Tryd.prog.cellsOf 25 = 1 := by kernel_rfl
        simp [c25, cells9] at q0 q1
        obtain ⟨a, a1, rfl, wa⟩ := DataW.trod_int Tryd.underlying25 q0
        obtain ⟨s, s1, rfl, ws⟩ := DataW.trod_string Tryd.underlying9 q1
        obtain ⟨r, r1, rfl, wr⟩ := DataW.trod_int Tryd.underlying3 g1
        obtain ⟨c, c1, rfl⟩ := DataW.trod_bool Tryd.underlying4 g2
        simp at a1 s1 r1 c1
        subst a1 s1 r1 c1 hz
        refine ⟨⟨a, s, r, c⟩, rfl, ?_, u16_of wa, i64_of wr⟩
        simpa using congrArg Prod.fst hxy
theorem sized_around {H : Type} {ts : List TypeId} {ds : List (DataW H)} (h : (DataW.weightsEach Tryd.prog ts ds).all (· ≤ reachBytes) = true) {j : Nat} {x : Ar} (ht : ts[j]? = some 29) (hd : ds[j]? = some (.agg [.agg [.lit (.int .u16 x.sp), .lit (.string x.nm.data.toList)], .lit (.int .i64 x.r), .lit (.bool x.cn)])) : x.nm.size ≤ 140737488351232 := by
  have h1 := List.all_eq_true.1 h _ (DataW.weights_mem_each ht hd x.nm.data.toList.length (by simp [DataW.weights, DataW.weightsEach, Tryd.underlying29, Tryd.underlying27]))
  have h2 : x.nm.size = x.nm.data.toList.length := rfl
  have h3 : reachBytes = 140737488351232 := rfl
  simp at h1
  omega
set_option maxRecDepth 100000 in
theorem fields64 {H : Type} {enc : TypeId × Value → H} {W : World} {base fuel : Nat} {spare : Nat → Bool} {held : Bool} {cs : List Value} {x : DataW H × List MemPlace} (h : DataW.trod enc Tryd.prog W base spare held fuel 64 cs = some x) (hl : cs.length = 3) : ∃ a : Sp, cs = [.int .i64 a.1, .int .i64 a.2.1, .int .i64 a.2.2] ∧ I64 a.1 ∧ I64 a.2.1 ∧ I64 a.2.2 := by
  obtain ⟨ys, k, hk, hxy, _, hyl, hfe⟩ := DataW.trod_struct Tryd.underlying64 h
  match cs, hl with
  | [v0, v1, v2], _ =>
    have hy : ys.length = 3 := hyl
    match ys, hy with
    | [y0, y1, y2], _ =>
      have g0 := hfe 0 _ rfl
      have g1 := hfe 1 _ rfl
      have g2 := hfe 2 _ rfl
      simp [cells3, cells2] at g0 g1 g2
      obtain ⟨A, a1, _, wa⟩ := DataW.trod_int Tryd.underlying3 g0
      obtain ⟨B, b1, _, wb⟩ := DataW.trod_int Tryd.underlying2 g1
      obtain ⟨C, c1, _, wc⟩ := DataW.trod_int Tryd.underlying2 g2
      simp at a1 b1 c1
      subst a1 b1 c1
      exact ⟨(A, B, C), rfl, i64_of wa, i64_of wb, i64_of wc⟩
theorem add_plain (b off j : Nat) : (⟨b, off, none⟩ : Addr).add j = ⟨b, off + j, none⟩ := by simp [Addr.add]
set_option maxRecDepth 100000 in
theorem open_steps {H : Type} {enc : TypeId × Value → H} {W : World} {b0 : Nat} {v : Value} {d : DataW H} {p : List MemPlace} (hv : Value.okWide Tryd.prog W .any b0 22 v) (h : DataW.Trod enc Tryd.prog W 0 (fun _ => true) true 22 v d p) :
    ∃ (A : Option Addr) (c : Nat) (L : List Sp), v = .slice A L.length c ∧ Sl W A L ∧ WfS L ∧ (L = [] ∨ ∃ elems spare, d = .slice elems spare ∧ elems.length = L.length) := by
  obtain ⟨a, len, cap, rfl⟩ := okWide_slice Tryd.underlying22 hv
  obtain ⟨fuel, hf⟩ := h
  rcases Deep.open_slice Tryd.underlying22 hf with ⟨hcs, _⟩ | ⟨x, l, c, m, n, D, Pl, hcs, _, hl, hm, hmm, hx, hall⟩
  · simp [Value.cells] at hcs
    obtain ⟨rfl, rfl, rfl⟩ := hcs
    exact ⟨_, _, [], rfl, fun i hi => by simp at hi, fun x hx => by simp at hx, Or.inl rfl⟩
  · simp [Value.cells] at hcs
    obtain ⟨rfl, rfl, rfl⟩ := hcs
    simp only [if_true] at hmm
    subst hmm
    simp only [Prod.mk.injEq] at hx
    obtain ⟨rfl, rfl⟩ := hx
    rw [cells64] at hall
    have each : ∀ i, i < m → ∃ q : Sp, W.cell? (x.add (i * 3)) = some (.int .i64 q.1) ∧ W.cell? (x.add (i * 3 + 1)) = some (.int .i64 q.2.1) ∧ W.cell? (x.add (i * 3 + 2)) = some (.int .i64 q.2.2) ∧ I64 q.1 ∧ I64 q.2.1 ∧ I64 q.2.2 := fun i hi => by
      obtain ⟨cs', h1, h2⟩ := hall i hi
      obtain ⟨_, hlen, hcell⟩ := World.cells?_some h1
      obtain ⟨q, rfl, hw⟩ := fields64 h2 hlen
      have e0 := hcell 0 (by simp)
      have e1 := hcell 1 (by simp)
      have e2 := hcell 2 (by simp)
      rw [Deep.add_add] at e0 e1 e2
      exact ⟨q, by simpa using e0, by simpa using e1, by simpa using e2, hw⟩
    haveI : Inhabited Sp := ⟨(0, 0, 0)⟩
    obtain ⟨q, hq⟩ := Deep.choose_lt each
    rcases Nat.eq_zero_or_pos len with e | e
    · subst e
      exact ⟨_, _, [], rfl, fun i hi => by simp at hi, fun x hx => by simp at hx, Or.inl rfl⟩
    · have hsp : x.spot = none := by
        have h0 := (hq 0 (by omega)).1
        rw [show x.add (0 * 3) = x by simp [Addr.add]] at h0
        unfold World.cell? at h0
        split at h0
        · split at h0
          · cases h0
          · rename_i hs
            cases hh : x.spot with
            | none => rfl
            | some z => rw [hh] at hs; exact absurd rfl hs
        · cases h0
      obtain ⟨b, off, r⟩ := x
      obtain rfl : r = none := hsp
      have hlen : ((List.range len).map q).length = len := by simp
      refine ⟨some ⟨b, off, none⟩, m, (List.range len).map q, by rw [hlen], fun i hi => ?_, fun y hy => ?_, Or.inr ⟨_, _, rfl, by simp⟩⟩
      · rw [hlen] at hi
        obtain ⟨h0, h1, h2, _⟩ := hq i (by omega)
        refine ⟨b, off, rfl, ?_, ?_, ?_⟩
        · simpa [add_plain] using h0
        · simpa [add_plain, Nat.add_assoc] using h1
        · simpa [add_plain, Nat.add_assoc] using h2
      · simp only [List.mem_map, List.mem_range] at hy
        obtain ⟨i, hi, rfl⟩ := hy
        exact (hq i (by omega)).2.2.2
theorem len_steps {H : Type} {ts : List TypeId} {ds : List (DataW H)} {L : List Sp} {d : DataW H} (h : (DataW.weightsEach Tryd.prog ts ds).all (· ≤ reachBytes) = true) {j : Nat} (ht : ts[j]? = some 22) (hd : ds[j]? = some d) (hL : L = [] ∨ ∃ elems spare, d = .slice elems spare ∧ elems.length = L.length) : L.length ≤ 5864062014635 := by
  rcases hL with rfl | ⟨es, sp, rfl, he⟩
  · simp
  · have hz : (es.length + sp.length) * Tryd.prog.bytesOf 64 ≤ reachBytes := sized_slice h (j := j) (t := 22) (e := 64) (elems := es) (spare := sp) ht hd Tryd.underlying22
    have hb : Tryd.prog.bytesOf 64 = 24 := by kernel_rfl
    rw [hb] at hz
    have h3 : reachBytes = 140737488351232 := rfl
    omega
end Go.Proofs.YtgjojdlbighoaaaDoor
