/- Lists of keys in memory, and the contract of the document's gathering of unlike keys; the list's bytes are within the form's reach. -/
import Derived.Test.YtibgfkjhohgkhaaMpk
import Derived.Deep.AppendLies
import Derived.OwnWalk
import Derived.DeepKeys4
import Derived.MapViews
import Derived.Maps.Views
import Derived.Maps.OwnOps
import Derived.Maps.OwnSet
import Derived.Carry
namespace Go.Proofs.Ytibgfkjhohgkhaa.Un
open Go.RowKit Go.Sort Go.Maps Go.WideMaps
set_option linter.unusedVariables false
def Gr (w w' : World) : Prop := ∃ q os, w' = grow (w.drewN q) os
theorem Gr.refl (w : World) : Gr w w := ⟨0, #[], by rw [grow_empty]; rfl⟩
theorem Gr.alloc {w w' : World} (h : Gr w w') (o : Obj) : Gr w (w'.alloc o) := by
  obtain ⟨q, os, rfl⟩ := h
  exact ⟨q, os ++ #[o], by rw [alloc_eq_grow, grow_grow]⟩
theorem Gr.grow {w w' : World} (h : Gr w w') (n : Nat) (os' : Array Obj) : Gr w (grow (w'.drewN n) os') := by
  obtain ⟨q, os, rfl⟩ := h
  exact ⟨q + n, os ++ os', by show Sort.grow (Sort.grow ((w.drewN q).drewN n) os) os' = _; rw [grow_grow, World.drewN_drewN]⟩
theorem Gr.drewN {w w' : World} (h : Gr w w') (n : Nat) : Gr w (w'.drewN n) := by
  have := h.grow n #[]
  rwa [grow_empty] at this
theorem Gr.drew {w w' : World} (h : Gr w w') : Gr w w'.drew := h.drewN 1
theorem Gr.trans {a b c : World} (h : Gr a b) (k : Gr b c) : Gr a c := by
  obtain ⟨q, os, rfl⟩ := k
  exact h.grow q os
theorem Gr.below {w w' : World} (h : Gr w w') : Below w.heap.size w w' := by
  obtain ⟨q, os, rfl⟩ := h
  exact ⟨rfl, rfl, rfl, by rw [size_grow]; exact Nat.le_add_right _ _, fun k hk => heap_grow_old _ _ hk⟩

theorem Gr.size {w w' : World} (hg : Gr w w') : w.heap.size ≤ w'.heap.size := hg.below.size
theorem Gr.cell {w w' : World} (hg : Gr w w') {a : Addr} {v : Value} (h : w.cell? a = some v) (hb : a.block < w.heap.size) : w'.cell? a = some v := by
  rw [hg.below.cell hb]; exact h
structure Row (w : World) (b off : Nat) (xs : List K) : Prop where
  lt : b < w.heap.size
  at0 : ∀ i (h : i < xs.length), w.cell? ⟨b, off + i * 2, none⟩ = some (.int .u16 xs[i].1)
  at1 : ∀ i (h : i < xs.length), w.cell? ⟨b, off + i * 2 + 1, none⟩ = some (.string xs[i].2)
theorem Row.below {w w' : World} {b off : Nat} {xs : List K} (h : Row w b off xs) (hb : Below w.heap.size w w') : Row w' b off xs :=
  ⟨Nat.lt_of_lt_of_le h.lt hb.size, fun i hi => by rw [hb.cell (by exact h.lt)]; exact h.at0 i hi, fun i hi => by rw [hb.cell (by exact h.lt)]; exact h.at1 i hi⟩
def Sl (w : World) (v : Value) (xs : List K) : Prop := (xs = [] ∧ ∃ a cap, v = .slice a 0 cap) ∨ ∃ b off cap, v = .slice (some ⟨b, off, none⟩) xs.length cap ∧ Row w b off xs
theorem Sl.below {w w' : World} {v : Value} {xs : List K} (h : Sl w v xs) (hb : Below w.heap.size w w') : Sl w' v xs := by
  rcases h with h | ⟨b, off, cap, hv, hr⟩
  · exact Or.inl h
  · exact Or.inr ⟨b, off, cap, hv, hr.below hb⟩
def cellsK (xs : List K) : List Value := xs.flatMap fun x => [.int .u16 x.1, .string x.2]
theorem cellsK_app (xs ys : List K) : cellsK (xs ++ ys) = cellsK xs ++ cellsK ys := by unfold cellsK; simp
theorem cellsK_one (x : K) : cellsK [x] = [.int .u16 x.1, .string x.2] := rfl
theorem cellsK_len (xs : List K) : (cellsK xs).length = xs.length * 2 := by
  induction xs with
  | nil => rfl
  | cons x xs ih => rw [show x :: xs = [x] ++ xs from rfl, cellsK_app, List.length_append, ih, cellsK_one]; simp; omega
theorem cellsK_at0 : ∀ (xs : List K) (i : Nat) (h : i < xs.length), (cellsK xs)[i * 2]? = some (.int .u16 xs[i].1)
  | x :: xs, 0, _ => rfl
  | x :: xs, i + 1, h => by
    rw [show (i + 1) * 2 = i * 2 + 1 + 1 by omega]
    exact cellsK_at0 xs i (by simpa using h)
theorem cellsK_at1 : ∀ (xs : List K) (i : Nat) (h : i < xs.length), (cellsK xs)[i * 2 + 1]? = some (.string xs[i].2)
  | x :: xs, 0, _ => rfl
  | x :: xs, i + 1, h => by
    rw [show (i + 1) * 2 + 1 = i * 2 + 1 + 1 + 1 by omega]
    exact cellsK_at1 xs i (by simpa using h)
theorem owns_below {w w' : World} {base e size n : Nat} {v : Value} {xs : List Value} (h : w.ownsRow base e size v n xs) (hb : Below w.heap.size w w') : w'.ownsRow base e size v n xs := by
  obtain ⟨h1, h2⟩ := h
  refine ⟨h1, ?_⟩
  rcases h2 with h2 | ⟨g, cap, cur, hv, hg, hc, r⟩
  · exact Or.inl h2
  · refine Or.inr ⟨g, cap, cur, hv, hg, ?_, r⟩
    rw [hb.block g (by
      rcases Nat.lt_or_ge g w.heap.size with h | h
      · exact h
      · rw [Array.getElem?_eq_none h] at hc; cases hc)]
    exact hc
theorem owns_row {w : World} {base e g cap : Nat} {xs : List K} (h : w.ownsRow base e 2 (.slice (some ⟨g, 0, none⟩) xs.length cap) xs.length (cellsK xs)) : Row w g 0 xs := by
  obtain ⟨h1, h2 | ⟨g', cap', cur, hv, hg, hc, hn, hm, hs, ht⟩⟩ := h
  · cases h2.1
  · simp only [Value.slice.injEq, Option.some.injEq, Addr.mk.injEq, and_true, true_and] at hv
    obtain ⟨rfl, rfl⟩ := hv
    have hlt : g < w.heap.size := by
      rcases Nat.lt_or_ge g w.heap.size with h | h
      · exact h
      · rw [Array.getElem?_eq_none h] at hc; cases hc
    have hcell : ∀ j, w.cell? ⟨g, j, none⟩ = cur[j]? := fun j => by simp [World.cell?, hc]
    have hj : ∀ j, j < xs.length * 2 → cur[j]? = (cellsK xs)[j]? := fun j hj => by
      rw [← ht, List.getElem?_take_of_lt hj, Array.getElem?_toList]
    refine ⟨hlt, fun i hi => ?_, fun i hi => ?_⟩
    · rw [hcell, Nat.zero_add, hj _ (by omega), cellsK_at0 xs i hi]
    · rw [hcell, Nat.zero_add, hj _ (by omega), cellsK_at1 xs i hi]
theorem owns_base {w : World} {base e size g k c n : Nat} {xs : List Value} (h : w.ownsRow base e size (.slice (some ⟨g, 0, none⟩) k c) n xs) : base ≤ g := by
  obtain ⟨_, h2 | ⟨g', _, _, hv, hg, _⟩⟩ := h
  · cases h2.1
  · simp only [Value.slice.injEq, Option.some.injEq, Addr.mk.injEq, and_true] at hv
    rw [hv.1]
    exact hg
theorem info31 : (Try.prog.info? 77).map (fun i => (i.zero, i.size, i.bytes)) = some (some (.agg #[.int .u16 0, .string ⟨#[]⟩]), 2, 24) := by kernel_rfl
theorem info24 : (Try.prog.info? 63).map (fun i => (i.zero, i.size, i.bytes)) = some (some (.agg #[.int .u16 0, .string ⟨#[]⟩]), 2, 24) := by kernel_rfl
theorem cell_two_new (w : World) (x y : Value) (t : TypeId) : ∀ j u, [x, y][j]? = some u → (w.alloc (.cells #[x, y] t)).cell? ((⟨w.heap.size, 0, none⟩ : Addr).add j) = some u := by
  intro j u hj
  match j, hj with
  | 0, hj => simp at hj; subst hj; simp [Addr.add]
  | 1, hj => simp at hj; subst hj; simp [Addr.add]

theorem take_snocK (xs : List K) (k : Nat) (h : k < xs.length) : xs.take (k + 1) = xs.take k ++ [xs[k]] := List.take_succ_eq_append_getElem h
theorem keq (x y : Int) (s t : ByteArray) : ((x, s) : K) = (y, t) ↔ x = y ∧ s.toList = t.toList := by
  constructor
  · intro h
    simp only [Prod.mk.injEq] at h
    exact ⟨h.1, by rw [h.2]⟩
  · intro ⟨h1, h2⟩
    rw [ByteArray.toList_eq, ByteArray.toList_eq] at h2
    rw [h1, show s = t from ByteArray.ext (Array.toList_inj.1 h2)]
def isIn (out : List K) (x : K) : Bool := out.any (fun y => decide (y = x))
theorem isIn_yes {out : List K} {x : K} (h : x ∈ out) : isIn out x = true := by
  unfold isIn
  rw [List.any_eq_true]
  exact ⟨x, h, by simp⟩
theorem isIn_no {out : List K} {x : K} (h : ¬ x ∈ out) : ¬ isIn out x = true := fun e => by
  unfold isIn at e
  rw [List.any_eq_true] at e
  obtain ⟨y, h1, h2⟩ := e
  simp only [decide_eq_true_eq] at h2
  exact h (h2 ▸ h1)
def unl : List K → List K → List K
  | out, [] => out
  | out, x :: r => unl (if isIn out x = true then out else out ++ [x]) r
theorem unl_app : ∀ (out l m : List K), unl out (l ++ m) = unl (unl out l) m
  | out, [], m => rfl
  | out, x :: l, m => by simp only [List.cons_append, unl]; exact unl_app _ l m
theorem unl_one_in (out : List K) (x : K) (h : x ∈ out) : unl out [x] = out := by simp [unl, isIn_yes h]
theorem unl_one_new (out : List K) (x : K) (h : ¬ x ∈ out) : unl out [x] = out ++ [x] := by simp [unl, isIn_no h]
theorem unl_len : ∀ (out l : List K), (unl out l).length ≤ out.length + l.length
  | out, [] => by simp [unl]
  | out, x :: l => by
    simp only [unl]
    by_cases h : x ∈ out
    · rw [if_pos (isIn_yes h)]
      have := unl_len out l
      simp only [List.length_cons]
      omega
    · rw [if_neg (isIn_no h)]
      have := unl_len (out ++ [x]) l
      simp only [List.length_cons, List.length_append, List.length_nil] at *
      omega
theorem unl_take (xs : List K) (k : Nat) (h : k < xs.length) : unl [] (xs.take (k + 1)) = unl (unl [] (xs.take k)) [xs[k]] := by rw [take_snocK xs k h, unl_app]

set_option maxHeartbeats 4000000 in
theorem ref28_row (xs : List K) (b off cap : Nat) (w : World) (hl : xs.length * 24 ≤ 140737488351232) (R : Row w b off xs) :
    Calls Try.prog 42 #[.slice (some ⟨b, off, none⟩) xs.length cap] w fun e w' => ∃ v, e = .returned v ∧ Sl w' v (unl [] xs) ∧ Below w.heap.size w w' := by
  obtain ⟨i0, hi, hz0, hz1, hz2⟩ := info_parts info31
  have HR : Hid _ := R
  clear R
  go_enter Try.func42, Try.ntmps42
  go_wp2
  go_loopw [3, 12] (fun t i wr => ∃ (k g c : Nat) (U : List K), i = .int .i64 k ∧ k ≤ xs.length ∧ Hid (U = unl [] (xs.take k)) ∧ U.length ≤ k ∧ t = .slice (some ⟨g, 0, none⟩) U.length c ∧ wr.ownsRow w.heap.size 77 2 (.slice (some ⟨g, 0, none⟩) U.length c) U.length (cellsK U) ∧ Below w.heap.size w wr) (fun _ i _ => xs.length - (intOf i).toNat)
  case atStart => exact ⟨0, w.heap.size, 0, [], rfl, Nat.zero_le _, rfl, Nat.le_refl _, rfl, ⟨rfl, Or.inr ⟨w.heap.size, 0, #[], rfl, Nat.le_refl _, heap_alloc_new w _, Nat.le_refl _, by unfold maxLen; omega, rfl, rfl⟩⟩, (Below.refl _ _).alloc (Nat.le_refl _) _⟩
  case round =>
    obtain ⟨k, g, c, U, rfl, hk, HU, hUl, rfl, hown, hb⟩ := hrel
    obtain ⟨wo, rfl⟩ : ∃ wo, wo = wr := ⟨_, rfl⟩
    by_cases hlt : k < xs.length
    · have hz : (k : Int) < (xs.length : Int) := by omega
      have hz' : (0 : Int) ≤ (k : Int) := by omega
      have f0 : wo.cell? ⟨b, off + k * 2, none⟩ = some (.int .u16 xs[k].1) := by rw [hb.cell (by exact HR.out.lt)]; exact HR.out.at0 k hlt
      have f1 : wo.cell? ⟨b, off + k * 2 + 1, none⟩ = some (.string xs[k].2) := by rw [hb.cell (by exact HR.out.lt)]; exact HR.out.at1 k hlt
      have HX : Hid (unl [] (xs.take (k + 1)) = unl U [(xs[k].1, xs[k].2)]) := by show _ = _; rw [unl_take xs k hlt, HU.out]
      have HO : Hid _ := hown
      have HB : Hid _ := hb
      clear hown hb HU
      generalize xs[k].1 = x at *
      generalize xs[k].2 = y at *
      go_wp2
      obtain ⟨W1, hW1⟩ : ∃ W1, W1 = wo.alloc (.cells #[.int .u16 x, .string y] 77) := ⟨_, rfl⟩
      have B1 : Below wo.heap.size wo W1 := by rw [hW1]; exact (Below.refl _ _).alloc (Nat.le_refl _) _
      have Row1 : Hid (Row W1 g 0 U) := owns_row (owns_below HO.out B1)
      have c0 : W1.cell? ⟨wo.heap.size, 0, none⟩ = some (.int .u16 x) := by rw [hW1]; simp
      have c1 : W1.cell? ⟨wo.heap.size, 1, none⟩ = some (.string y) := by rw [hW1]; simp
      have z1 : wo.heap.size < W1.heap.size := by rw [hW1]; simp
      have C0 : Hid _ := c0
      have C1 : Hid _ := c1
      have BW : Hid (Below wo.heap.size wo W1) := B1
      rw [← hW1]
      clear hW1 B1 c0 c1 f0 f1
      go_loopw [6, 18] (fun q i wr => ∃ (j : Nat) (kn : Bool), i = .int .i64 j ∧ j ≤ U.length ∧ q = .bool kn ∧ Hid (kn = true ↔ (x, y) ∈ U.take j) ∧ Gr W1 wr) (fun _ i _ => U.length - (intOf i).toNat)
      case atStart => exact ⟨0, false, rfl, Nat.zero_le _, rfl, by show _ ↔ _; simp, Gr.refl _⟩
      case round =>
        obtain ⟨j, kn, rfl, hj, rfl, HK, GW⟩ := hrel
        have d0 : wr.cell? ⟨wo.heap.size, 0, none⟩ = some (.int .u16 x) := GW.cell C0.out (by exact z1)
        have d1 : wr.cell? ⟨wo.heap.size, 1, none⟩ = some (.string y) := GW.cell C1.out (by exact z1)
        have HGW : Hid (Gr W1 wr) := GW
        by_cases hjl : j < U.length
        · have jz : (j : Int) < (U.length : Int) := by omega
          have e0 : wr.cell? ⟨g, j * 2, none⟩ = some (.int .u16 U[j].1) := by have := GW.cell (Row1.out.at0 j hjl) (by exact Row1.out.lt); rwa [Nat.zero_add] at this
          have e1 : wr.cell? ⟨g, j * 2 + 1, none⟩ = some (.string U[j].2) := by have := GW.cell (Row1.out.at1 j hjl) (by exact Row1.out.lt); rwa [Nat.zero_add] at this
          have HT : Hid (U.take (j + 1) = U.take j ++ [(U[j].1, U[j].2)]) := take_snocK U j hjl
          have zi : wo.heap.size < wr.heap.size := Nat.lt_of_lt_of_le z1 GW.size
          clear GW
          generalize U[j].1 = x' at *
          generalize U[j].2 = y' at *
          cases kn with
          | true =>
            go_wp2
            go_roundw
            case rel => exact ⟨j + 1, true, by go_num, by omega, rfl, by show _ ↔ _; rw [HT.out, List.mem_append, List.mem_singleton]; exact ⟨fun _ => Or.inl (HK.out.1 rfl), fun _ => rfl⟩, HGW.out.alloc _⟩
            case measure => simp [intOf]; omega
          | false =>
            have HN : Hid (¬ (x, y) ∈ U.take j) := fun h => by have := HK.out.2 h; cases this
            by_cases hx : x' = x
            · subst hx
              by_cases hy : y'.toList = y.toList
              · have HE : Hid (((x', y) : K) = (x', y')) := (keq _ _ _ _).2 ⟨rfl, hy.symm⟩
                go_wp2
                go_roundw
                case rel => exact ⟨j + 1, true, by go_num, by omega, rfl, by show _ ↔ _; rw [HT.out, List.mem_append, List.mem_singleton]; exact ⟨fun _ => Or.inr HE.out, fun _ => rfl⟩, HGW.out.alloc _⟩
                case measure => simp [intOf]; omega
              · have HE : Hid (¬ ((x', y) : K) = (x', y')) := fun h => hy ((keq _ _ _ _).1 h).2.symm
                go_wp2
                go_roundw
                case rel => exact ⟨j + 1, false, by go_num, by omega, rfl, by show _ ↔ _; rw [HT.out, List.mem_append, List.mem_singleton]; exact ⟨fun h => (by cases h), fun h => (by rcases h with h | h; exact absurd h HN.out; exact absurd h HE.out)⟩, HGW.out.alloc _⟩
                case measure => simp [intOf]; omega
            · have HE : Hid (¬ ((x, y) : K) = (x', y')) := fun h => hx ((keq _ _ _ _).1 h).1.symm
              go_wp2
              go_roundw
              case rel => exact ⟨j + 1, false, by go_num, by omega, rfl, by show _ ↔ _; rw [HT.out, List.mem_append, List.mem_singleton]; exact ⟨fun h => (by cases h), fun h => (by rcases h with h | h; exact absurd h HN.out; exact absurd h HE.out)⟩, HGW.out.alloc _⟩
              case measure => simp [intOf]; omega
        · have jz : ¬ (j : Int) < (U.length : Int) := by omega
          have hjt : U.take j = U := List.take_of_length_le (by omega)
          rw [hjt] at HK
          have BB : Below wo.heap.size wo wr := BW.out.trans (GW.below.mono (by omega))
          have hown2 := owns_below HO.out BB
          have hbw : Below w.heap.size w wr := HB.out.trans (BB.mono HB.out.size)
          have hsz := hbw.size
          clear GW BB
          cases kn with
          | true =>
            have HE : Hid (unl [] (xs.take (k + 1)) = U) := by show _ = _; rw [HX.out, unl_one_in U _ (HK.out.1 rfl)]
            go_wp2
            go_roundw
            case rel => exact ⟨k + 1, g, c, U, by go_num, by omega, HE.out.symm, by omega, rfl, hown2, hbw⟩
            case measure => simp [intOf]; omega
          | false =>
            have HN : ¬ (x, y) ∈ U := fun h => by have := HK.out.2 h; cases this
            have HE : Hid (U ++ [(x, y)] = unl [] (xs.take (k + 1))) := by show _ = _; rw [HX.out, unl_one_new U _ HN]
            have HC : Hid (cellsK (U ++ [(x, y)]) = cellsK U ++ [.int .u16 x, .string y]) := by show _ = _; rw [cellsK_app, cellsK_one]
            have HL : Hid ((U ++ [(x, y)]).length = U.length + 1) := by show _ = _; simp
            go_wp2_with (at_builtin; refine wpList_append_lies _ rfl _ _ 75 rfl w.heap.size 77 i0 (.agg #[.int .u16 0, .string ⟨#[]⟩]) 2 24 Try.underlying75 hi hz0 hz1 hz2 rfl (by decide) _ _ _ rfl (hown2.alloc _) ⟨wr.heap.size, 0, none⟩ 1 1 [.int .u16 x, .string y] rfl rfl (cell_two_new _ _ _ _) (by simp [Value.oneCell']) (by decide) (by unfold maxLen; omega) (by omega) (by simp; omega) _ rfl ?_; intro g1 c1 w3 hown3 hgrow hat hlt3)
            go_roundw
            case rel =>
              refine ⟨k + 1, g1, c1, U ++ [(x, y)], by go_num, by omega, HE, by rw [HL.out]; omega, by rw [HL.out], by rw [HL.out, HC.out]; exact hown3, ?_⟩
              exact (hbw.alloc hsz _).grown hgrow (by simp; omega) (fun j hj => by
                have h1 := owns_base hown2
                have h2 : some g = some j := hj
                cases h2
                exact h1)
            case measure => simp [intOf]; omega
    · have hz : ¬ (k : Int) < (xs.length : Int) := by omega
      obtain rfl : k = xs.length := by omega
      have hU := HU.out
      rw [List.take_length] at hU
      subst hU
      go_wp2
      go_ret
      exact ⟨_, rfl, Or.inr ⟨_, _, _, rfl, owns_row hown⟩, hb⟩
theorem ref28_nil (a : Option Addr) (cap : Nat) (w : World) :
    Calls Try.prog 42 #[.slice a 0 cap] w fun e w' => ∃ v, e = .returned v ∧ Sl w' v (unl [] []) ∧ Below w.heap.size w w' := by
  go_enter Try.func42, Try.ntmps42
  go_wp2
  go_loop [3, 12] (fun t i => t = .slice (some ⟨w.heap.size, 0, none⟩) 0 0 ∧ i = .int .i64 0) (fun _ _ => 0)
  case atStart => exact ⟨rfl, rfl⟩
  case round =>
    obtain ⟨rfl, rfl⟩ := hrel
    go_wp2
    go_ret
    exact ⟨_, rfl, Or.inl ⟨rfl, _, _, rfl⟩, (Below.refl _ _).alloc (Nat.le_refl _) _⟩
theorem ref28 (xs : List K) (v : Value) (w : World) (hl : xs.length * 24 ≤ 140737488351232) (R : Sl w v xs) :
    Calls Try.prog 42 #[v] w fun e w' => ∃ v, e = .returned v ∧ Sl w' v (unl [] xs) ∧ Below w.heap.size w w' := by
  rcases R with ⟨rfl, a, cap, rfl⟩ | ⟨b, off, cap, rfl, R⟩
  · exact ref28_nil a cap w
  · exact ref28_row xs b off cap w hl R
end Go.Proofs.Ytibgfkjhohgkhaa.Un
