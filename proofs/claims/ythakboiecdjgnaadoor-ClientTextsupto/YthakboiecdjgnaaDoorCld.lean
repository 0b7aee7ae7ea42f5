/- What every law of this program's layer 21 takes in: the table of the things to do, a world that holds it, a program's length; no conditions. -/
import Derived.Test.YthakboiecdjgnaaDoorCards
import Derived.Test.YthakboiecdjgnaaDoorTie
import Derived.Test.YthakboiecdjgnaaDoorCkd
import Derived.Test.YthakboiecdjgnaaDoorCop
import Derived.OpenShut
import Derived.ShutString
import Derived.LaidMore
import Derived.Stop.LaidErr
import Derived.Deep.DeepHandedRow
import Derived.Deep.Slices
import Derived.Lib.LaidTab
import Derived.Lib.SmallJoins
import Derived.SizedLaws
namespace Go.Proofs.YthakboiecdjgnaaDoor.Ci
open Go.ChangeShapes Go.WideShapes Go.ChangeAt Go.RowKit
set_option linter.unusedVariables false
theorem own : ownKnob Tryd.prog.godebug = none := by kernel_rfl
theorem cells2 : Tryd.prog.cellsOf 2 = 1 := by kernel_rfl
theorem cells4 : Tryd.prog.cellsOf 4 = 1 := by kernel_rfl
theorem cells9 : Tryd.prog.cellsOf 9 = 1 := by kernel_rfl
theorem cellsSp : Tryd.prog.cellsOf 106 = 2 := by kernel_rfl
theorem cellsKd : Tryd.prog.cellsOf 108 = 6 := by kernel_rfl
theorem gKinds : Tryd.prog.globalNamed "convoy/client.kinds" = some 0 := by kernel_rfl
theorem gKindsType : (Tryd.prog.globals[0]?).map (·.type) = some 109 := by kernel_rfl
section
variable {H : Type} {enc : TypeId × Value → H} {w : World} {base : Nat} {sp : Nat → Bool} {held : Bool} {fuel : Nat}
set_option maxRecDepth 100000 in
theorem span_of {cs : List Value} {l g : Int} {p : List MemPlace} (h : DataW.trod enc Tryd.prog w base sp held fuel 106 cs = some (.agg [.lit (.int .i64 l), .lit (.int .i64 g)], p)) : cs = [.int .i64 l, .int .i64 g] := by
  obtain ⟨xs, n, _, hx, hl, hlen, hf⟩ := DataW.trod_struct Tryd.underlying106 h
  rw [cellsSp] at hl
  match xs, hlen with
  | [y0, y1], _ =>
    have g0 := hf 0 _ rfl
    have g1 := hf 1 _ rfl
    match cs, hl with
    | [v0, v1], _ =>
      simp [cells2] at g0 g1 hx
      obtain ⟨a, a1, a2, _⟩ := DataW.trod_int Tryd.underlying2 g0
      obtain ⟨b, b1, b2, _⟩ := DataW.trod_int Tryd.underlying2 g1
      simp at a1 b1
      subst a1 b1 a2 b2
      simp at hx
      obtain ⟨⟨rfl, rfl⟩, _⟩ := hx
      rfl
def kD (z : List UInt8) (k : Bool) (l g l' g' : Int) : DataW H := .agg [.lit (.string z), .lit (.bool k), .agg [.lit (.int .i64 l), .lit (.int .i64 g)], .agg [.lit (.int .i64 l'), .lit (.int .i64 g')]]
set_option maxRecDepth 100000 in
theorem kind_of {cs : List Value} {z : List UInt8} {k : Bool} {l g l' g' : Int} {p : List MemPlace} (h : DataW.trod enc Tryd.prog w base sp held fuel 108 cs = some (kD z k l g l' g', p)) : cs = [.string ⟨z.toArray⟩, .bool k, .int .i64 l, .int .i64 g, .int .i64 l', .int .i64 g'] := by
  obtain ⟨xs, n, _, hx, hl, hlen, hf⟩ := DataW.trod_struct Tryd.underlying108 h
  rw [cellsKd] at hl
  match xs, hlen with
  | [y0, y1, y2, y3], _ =>
    have g0 := hf 0 _ rfl
    have g1 := hf 1 _ rfl
    have g2 := hf 2 _ rfl
    have g3 := hf 3 _ rfl
    match cs, hl with
    | [v0, v1, v2, v3, v4, v5], _ =>
      simp [cells9, cells4, cellsSp] at g0 g1 g2 g3
      obtain ⟨d0, p0⟩ := y0
      obtain ⟨d1, p1⟩ := y1
      obtain ⟨d2, p2⟩ := y2
      obtain ⟨d3, p3⟩ := y3
      simp [kD] at hx
      obtain ⟨⟨rfl, rfl, rfl, rfl⟩, _⟩ := hx
      obtain ⟨s, s1, s2, _⟩ := DataW.trod_string Tryd.underlying9 g0
      obtain ⟨b, b1, b2⟩ := DataW.trod_bool Tryd.underlying4 g1
      have e2 := span_of g2
      have e3 := span_of g3
      simp at s1 b1 b2 s2 e2 e3
      obtain ⟨rfl, rfl⟩ := e2
      obtain ⟨rfl, rfl⟩ := e3
      subst s1 b1
      obtain ⟨rfl, _⟩ := b2
      obtain ⟨rfl, _⟩ := s2
      rfl
end
theorem kinds_eq {H : Type} : (Rows.laid_convoy_client_kinds : DataW H) = .agg ((List.range 10).map fun k => kD (kWord k).data.toList (kKey k) (kNl k) (kNh k) 0 (kSh k)) := rfl
theorem kd_of {W : World} {rest : List (String × DataW Unit)} (h : laidMet Tryd.prog (("convoy/client.kinds", Rows.laid_convoy_client_kinds) :: rest) W) : Kd W := by
  obtain ⟨ps, ⟨g', t', cs, fuel, p, q, hg', ht', hvar, hd, _, _⟩, _⟩ := h
  obtain rfl := Option.some.inj (gKinds.symm.trans hg')
  obtain rfl := Option.some.inj (gKindsType.symm.trans ht')
  rw [kinds_eq] at hd
  obtain ⟨xs, n, _, hx, hl, hlen, hf⟩ := DataW.trod_array Tryd.underlying109 hd
  have each : ∀ k, k < 10 → (cs.toList.drop (k * 6)).take 6 = [.string (kWord k), .bool (kKey k), .int .i64 (kNl k), .int .i64 (kNh k), .int .i64 0, .int .i64 (kSh k)] := fun k hk => by
    have h1 := hf k hk
    rw [cellsKd] at h1
    have h2 : xs[k]? = some (kD (kWord k).data.toList (kKey k) (kNl k) (kNh k) 0 (kSh k), (xs[k]'(by omega)).2) := by
      rw [List.getElem?_eq_getElem (by omega)]
      have h3 : (xs.map (·.1))[k]? = some (kD (kWord k).data.toList (kKey k) (kNl k) (kNh k) 0 (kSh k)) := by
        have h4 := congrArg Prod.fst hx
        simp only [DataW.agg.injEq] at h4
        rw [← h4, List.getElem?_map, List.getElem?_range hk]
        rfl
      rw [List.getElem?_map, List.getElem?_eq_getElem (by omega)] at h3
      simp only [Option.map_some, Option.some.injEq] at h3
      rw [← h3]
    rw [h2] at h1
    have := kind_of h1
    rw [this]
  have cell : ∀ k, k < 10 → ∀ j, j < 6 → W.cell? ⟨0, k * 6 + j, none⟩ = ([.string (kWord k), .bool (kKey k), .int .i64 (kNl k), .int .i64 (kNh k), .int .i64 0, .int .i64 (kSh k)] : List Value)[j]? := fun k hk j hj => by
    rw [World.var?_cell gKinds hvar (k * 6 + j), ← each k hk, List.getElem?_take, if_pos hj, List.getElem?_drop]
    simp
  exact ⟨fun k hk => cell k hk 0 (by decide), fun k hk => cell k hk 1 (by decide), fun k hk => cell k hk 2 (by decide), fun k hk => cell k hk 3 (by decide), fun k hk => cell k hk 4 (by decide), fun k hk => cell k hk 5 (by decide)⟩
theorem door_met (os : Os) (args : Array Value) : laidMetH Tryd.prog Rows.clientNilRow.laid ((World.doorLaid Tryd.prog 100 os).forCall (fun _ _ => 0) ⟨#[], args, []⟩).memory := by
  rw [MakeChecks.laidMetH_plain _ _ _ (by kernel_rfl)]
  exact laidMet_of_run' 8 (by kernel_rfl) (by kernel_rfl)
theorem kd_row {W : World} (h : laidMetH Tryd.prog Rows.clientNilRow.laid W) : Kd W := by
  rw [MakeChecks.laidMetH_plain _ _ _ (by kernel_rfl)] at h
  have h' : laidMet Tryd.prog [("math/bits.deBruijn32tab", Rows.laid_math_bits_deBruijn32tab), ("math/bits.deBruijn64tab", Rows.laid_math_bits_deBruijn64tab), ("internal/strconv.uint64pow10", Rows.laid_internal_strconv_uint64pow10), ("convoy/client.kinds", Rows.laid_convoy_client_kinds)] W := h
  exact kd_of h'.tail.tail.tail
theorem len_of {H : Type} {ts : List TypeId} {ds : List (DataW H)} {n m bs : Nat} {st et : TypeId} {d : DataW H} (h : (DataW.weightsEach Tryd.prog ts ds).all (· ≤ reachBytes) = true) {j : Nat} (ht : ts[j]? = some st) (hd : ds[j]? = some d) (hu : Tryd.prog.underlying st = some (.slice et)) (hb : Tryd.prog.bytesOf et = bs) (hm : 140737488351232 < (m + 1) * bs) (hL : n = 0 ∨ ∃ elems spare, d = .slice elems spare ∧ elems.length = n) : n ≤ m := by
  rcases hL with rfl | ⟨es, sp, rfl, he⟩
  · simp
  · have hz : (es.length + sp.length) * Tryd.prog.bytesOf et ≤ reachBytes := sized_slice h (j := j) (t := st) (e := et) (elems := es) (spare := sp) ht hd hu
    rw [hb] at hz
    have h3 : reachBytes = 140737488351232 := rfl
    rw [h3] at hz
    rcases Nat.lt_or_ge m n with h4 | h4
    · have h5 : (m + 1) * bs ≤ (es.length + sp.length) * bs := Nat.mul_le_mul_right bs (by omega)
      omega
    · exact h4
end Go.Proofs.YthakboiecdjgnaaDoor.Ci
