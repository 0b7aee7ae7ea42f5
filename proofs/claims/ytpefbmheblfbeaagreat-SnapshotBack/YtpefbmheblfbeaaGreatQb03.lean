/- Contracts of fail.Right, of Check and of keeps, of the document's like, and of what turns a value into the document's; no conditions. -/
import Derived.Test.YtpefbmheblfbeaaGreatQb02
import Derived.RangeFuncNested
import Derived.RangeFuncBound
import Derived.RangeFuncCalls
import Derived.RangeFuncLeaves
import Derived.Shelf.Abstract
import Derived.Shelf.RegionOpen
import Derived.OwnWalkIn
import Derived.TacticsInMore
import Derived.LoopNIn
import Derived.LoopIn
import Derived.Deep.CutRange
import Derived.Deep.CutBlock
import Derived.Test.YtpefbmheblfbeaaGreatQb01
namespace Go.Proofs.YtpefbmheblfbeaaGreat.Me
open Go.RowKit Go.Sort Go.Maps Go.ChangeMaps Go.WideMaps
set_option maxRecDepth 100000
set_option linter.unusedVariables false
set_option linter.unusedSimpArgs false
theorem may74 (w : World) (a b c : Int) : Calls Tryz.prog 136 #[.agg #[.int .i64 a, .int .i64 b, .int .i64 c]] w fun e w' => e = .returned (.bool (mayF a b c)) ∧ Touch [] w w' := by
  have H := hid (fun w => none75 w a b c)
  unfold mayF
  by_cases h0 : a = 0
  · subst h0
    have e0 : nonF 0 b c = (decide (b = 0) && decide (c = 0)) := by simp [nonF]
    rw [e0] at H
    simp only [if_true]
    generalize (decide (b = 0) && decide (c = 0)) = r at *
    go_enter Tryz.func136, Tryz.ntmps136
    go_wp2_with (go_at_call 137; refine (H.out _).mono ?_; rintro e w2 ⟨rfl, t2⟩; have T2 := hid t2; clear t2)
    go_ret
    exact ⟨rfl, ((Touch.refl _ _).alloc _).trans' T2.out⟩
  rw [if_neg h0]
  clear H
  have b0 : (a == 0) = false := by simp [h0]
  by_cases h1 : a = 1
  · subst h1
    rw [if_pos rfl]
    go_enter Tryz.func136, Tryz.ntmps136
    go_wp2
    go_ret
    exact ⟨rfl, by repeat (first | exact Touch.refl _ _ | apply Touch.alloc)⟩
  rw [if_neg h1]
  have b1 : (a == 1) = false := by simp [h1]
  by_cases h2 : a = 2
  · subst h2
    rw [if_pos rfl]
    go_enter Tryz.func136, Tryz.ntmps136
    go_wp2
    go_ret
    exact ⟨rfl, by repeat (first | exact Touch.refl _ _ | apply Touch.alloc)⟩
  rw [if_neg h2]
  have b2 : (a == 2) = false := by simp [h2]
  by_cases h3 : a = 3
  · subst h3
    rw [if_pos rfl]
    by_cases hb : b = 0
    · subst hb
      go_enter Tryz.func136, Tryz.ntmps136
      go_wp2
      go_ret
      exact ⟨by by_cases hc : c = 0 <;> simp [hc], by repeat (first | exact Touch.refl _ _ | apply Touch.alloc)⟩
    · have hb' : (b == 0) = false := by simp [hb]
      go_enter Tryz.func136, Tryz.ntmps136
      go_wp2
      go_ret
      exact ⟨by simp [hb], by repeat (first | exact Touch.refl _ _ | apply Touch.alloc)⟩
  rw [if_neg h3]
  have b3 : (a == 3) = false := by simp [h3]
  by_cases h4 : a = 4
  · subst h4
    rw [if_pos rfl]
    by_cases hb : b = 0
    · subst hb
      go_enter Tryz.func136, Tryz.ntmps136
      go_wp2
      go_ret
      exact ⟨by by_cases hc : c = 0 <;> simp [hc], by repeat (first | exact Touch.refl _ _ | apply Touch.alloc)⟩
    · have hb' : (b == 0) = false := by simp [hb]
      go_enter Tryz.func136, Tryz.ntmps136
      go_wp2
      go_ret
      exact ⟨by simp [hb], by repeat (first | exact Touch.refl _ _ | apply Touch.alloc)⟩
  rw [if_neg h4]
  have b4 : (a == 4) = false := by simp [h4]
  by_cases h5 : a = 5
  · subst h5
    rw [if_pos rfl]
    by_cases hb : b = 0
    · subst hb
      go_enter Tryz.func136, Tryz.ntmps136
      go_wp2
      go_ret
      exact ⟨by by_cases hc : c = 0 <;> simp [hc], by repeat (first | exact Touch.refl _ _ | apply Touch.alloc)⟩
    · have hb' : (b == 0) = false := by simp [hb]
      go_enter Tryz.func136, Tryz.ntmps136
      go_wp2
      go_ret
      exact ⟨by simp [hb], by repeat (first | exact Touch.refl _ _ | apply Touch.alloc)⟩
  rw [if_neg h5]
  have b5 : (a == 5) = false := by simp [h5]
  go_enter Tryz.func136, Tryz.ntmps136
  go_wp2
  go_ret
  exact ⟨rfl, by repeat (first | exact Touch.refl _ _ | apply Touch.alloc)⟩
theorem right62 (w : World) (o : O) : Calls Tryz.prog 114 #[ov o] w fun e w' => e = .returned (.bool (right o)) ∧ Touch [] w w' := by
  obtain ⟨v, a, b, c⟩ := o
  have HM := hid (fun w => may74 w a b c)
  have HN := hid (fun w => none75 w a b c)
  unfold ov right
  simp only
  have B : ∀ w2, Touch [] (w.alloc (.cells #[.int .i64 v, .int .i64 a, .int .i64 b, .int .i64 c] 58)) w2 → w2.heap[w.heap.size]? = some (.cells #[.int .i64 v, .int .i64 a, .int .i64 b, .int .i64 c] 58 (0, 0)) := fun w2 t => t.keep (heap_alloc_new w _) (by simp)
  have HC : Hid (∀ w2, Touch [] (w.alloc (.cells #[.int .i64 v, .int .i64 a, .int .i64 b, .int .i64 c] 58)) w2 → w2.cell? ⟨w.heap.size, 0, none⟩ = some (.int .i64 v) ∧ w2.cell? ⟨w.heap.size, 1, none⟩ = some (.int .i64 a) ∧ w2.cell? ⟨w.heap.size, 2, none⟩ = some (.int .i64 b) ∧ w2.cell? ⟨w.heap.size, 3, none⟩ = some (.int .i64 c)) := fun w2 t => by
    have := B w2 t
    simp [World.cell?, this]
  clear B
  generalize mayF a b c = r at *
  generalize nonF a b c = s at *
  cases r
  · go_enter Tryz.func114, Tryz.ntmps114
    go_wp2_with (go_at_call 136; refine (HM.out _).mono ?_; rintro e w2 ⟨rfl, t2⟩; have T2 := hid t2; clear t2)
    go_ret
    exact ⟨rfl, ((Touch.refl _ _).alloc _).trans' T2.out⟩
  · cases s
    · by_cases hv : v = 0
      · subst hv
        go_enter Tryz.func114, Tryz.ntmps114
        go_wp2_with (first
          | (go_at_call 136; refine (HM.out _).mono ?_; rintro e w2 ⟨rfl, t2⟩; have T2 := hid t2; obtain ⟨c0, c1, c2, c3⟩ := HC.out _ t2; clear t2)
          | (go_at_call 137; refine (HN.out _).mono ?_; rintro e w3 ⟨rfl, t3⟩; have T3 := hid (T2.out.trans' t3); clear c0 c1 c2 c3 T2 t3; obtain ⟨c0, c1, c2, c3⟩ := HC.out _ T3.out))
        go_ret
        exact ⟨rfl, ((Touch.refl _ _).alloc _).trans' T3.out⟩
      · have hv' : (v == 0) = false := by simp [hv]
        go_enter Tryz.func114, Tryz.ntmps114
        go_wp2_with (first
          | (go_at_call 136; refine (HM.out _).mono ?_; rintro e w2 ⟨rfl, t2⟩; have T2 := hid t2; obtain ⟨c0, c1, c2, c3⟩ := HC.out _ t2; clear t2)
          | (go_at_call 137; refine (HN.out _).mono ?_; rintro e w3 ⟨rfl, t3⟩; have T3 := hid (T2.out.trans' t3); clear c0 c1 c2 c3 T2 t3; obtain ⟨c0, c1, c2, c3⟩ := HC.out _ T3.out))
        go_ret
        exact ⟨by simp [hv], ((Touch.refl _ _).alloc _).trans' T3.out⟩
    · go_enter Tryz.func114, Tryz.ntmps114
      go_wp2_with (first
        | (go_at_call 136; refine (HM.out _).mono ?_; rintro e w2 ⟨rfl, t2⟩; have T2 := hid t2; obtain ⟨c0, c1, c2, c3⟩ := HC.out _ t2; clear t2)
        | (go_at_call 137; refine (HN.out _).mono ?_; rintro e w3 ⟨rfl, t3⟩; have T3 := hid (T2.out.trans' t3); clear c0 c1 c2 c3 T2 t3; obtain ⟨c0, c1, c2, c3⟩ := HC.out _ T3.out))
      go_ret
      exact ⟨rfl, ((Touch.refl _ _).alloc _).trans' T3.out⟩
end Go.Proofs.YtpefbmheblfbeaaGreat.Me
/- The contract of keys: a new slice tells all keys, from the oldest on; there are fewer than a hundred thousand. -/
namespace Go.Proofs.YtpefbmheblfbeaaGreat.Me
open Go.RowKit Go.Sort Go.Maps Go.ChangeMaps Go.WideMaps
set_option maxRecDepth 100000
set_option linter.unusedVariables false
set_option linter.unusedSimpArgs false
def cellsK (xs : List K) : List Value := xs.flatMap fun x => [.int .u16 x.1, .string x.2]
theorem cellsK_app (xs ys : List K) : cellsK (xs ++ ys) = cellsK xs ++ cellsK ys := by unfold cellsK; simp
theorem cellsK_one (x : K) : cellsK [x] = [.int .u16 x.1, .string x.2] := rfl
theorem cellsK_len (xs : List K) : (cellsK xs).length = xs.length * 2 := by
  induction xs with
  | nil => rfl
  | cons x xs ih => rw [show x :: xs = [x] ++ xs from rfl, cellsK_app, List.length_append, ih, cellsK_one]; simp; omega
theorem cellsK_at0 : ∀ (xs : List K) (i : Nat) (h : i < xs.length), (cellsK xs)[i * 2]? = some (.int .u16 xs[i].1)
  | x :: xs, 0, _ => rfl
  | x :: xs, i + 1, h => by
    rw [show (i + 1) * 2 = i * 2 + 1 + 1 by omega]
    exact cellsK_at0 xs i (by simpa using h)
theorem cellsK_at1 : ∀ (xs : List K) (i : Nat) (h : i < xs.length), (cellsK xs)[i * 2 + 1]? = some (.string xs[i].2)
  | x :: xs, 0, _ => rfl
  | x :: xs, i + 1, h => by
    rw [show (i + 1) * 2 + 1 = i * 2 + 1 + 1 + 1 by omega]
    exact cellsK_at1 xs i (by simpa using h)
theorem info36 : (Tryz.prog.info? 54).map (fun i => (i.zero, i.size, i.bytes)) = some (some (.agg #[.int .u16 0, .string ⟨#[]⟩]), 2, 24) := by kernel_rfl
theorem cell_two_new (w : World) (x y : Value) (t : TypeId) : ∀ j u, [x, y][j]? = some u → (w.alloc (.cells #[x, y] t)).cell? ((⟨w.heap.size, 0, none⟩ : Addr).add j) = some u := by
  intro j u hj
  match j, hj with
  | 0, hj => simp at hj; subst hj; simp [Addr.add]
  | 1, hj => simp at hj; subst hj; simp [Addr.add]
def slen : Value → Nat
  | .slice _ n _ => n
  | _ => 0
set_option maxHeartbeats 2000000 in
set_option maxRecDepth 100000 in
theorem keys33 (w : World) (o : Nat) (m : Option Nat) (most : Int) (L : List E) (hl : L.length < 100000) (h : Od w o m most L) :
    Calls Tryz.prog 128 #[PT o] w fun e w' => ∃ v, e = .returned v ∧ w'.ownsRow w.heap.size 54 2 v L.length (cellsK (L.map Prod.fst)) ∧ Touch [] w w' := by
  obtain ⟨i3, hi, hz0, hz1, hz2⟩ := info_parts info36
  have HL := hid (len20 w o m most L h)
  have HO := hid h
  clear h
  unfold PT
  go_enter Tryz.func128, Tryz.ntmps128
  go_wp2_with fail
  unfold PT at HL
  refine HL.out.mono ?_
  rintro e w1 ⟨rfl, rfl⟩
  go_wp2_with (at_make; refine wpList_make_own _ rfl _ _ 61 rfl w1.heap.size 54 i3 (.agg #[.int .u16 0, .string ⟨#[]⟩]) 2 Tryz.underlying61 hi hz0 hz1 .i64 .i64 _ L.length rfl rfl rfl (by rw [hz2]; omega) (by unfold maxLen; omega) (Nat.le_refl _) ?_; intro w3 o3 g3; have T3 : Hid (Touch [] w1 w3) := Touch.grown (Touch.refl _ _) g3 (fun k hk => by cases hk); have c2 := (HO.out.keep0 T3.out).ln.oc.c2; have O3 := hid o3; clear o3 g3; unfold PP at c2; obtain ⟨p0, hp0⟩ : ∃ p0 : Option Addr, (hd L none).map (fun q => (⟨q, 0, none⟩ : Addr)) = p0 := ⟨_, rfl⟩; rw [hp0] at c2; have HP0 := hid hp0; clear hp0)
  go_loopw [3, 4] (fun s p wr => ∃ (A B : List E) (a p0 : Option Addr) (c : Nat), Hid (L = A ++ B ∧ (hd B none).map (fun q => (⟨q, 0, none⟩ : Addr)) = p0) ∧ s = .slice a A.length c ∧ p = .pointer p0 ∧ Hid (wr.ownsRow w1.heap.size 54 2 (.slice a A.length c) A.length (cellsK (A.map Prod.fst)) ∧ Touch [] w1 wr)) (fun s _ _ => L.length - slen s)
  case atStart => exact ⟨[], L, _, _, _, ⟨rfl, HP0.out⟩, rfl, rfl, O3.out, T3.out⟩
  case round =>
    obtain ⟨A, B, a, p1, c, HAB, rfl, rfl, HR⟩ := hrel
    cases B with
    | nil =>
      obtain rfl : none = p1 := HAB.out.2
      clear HP0 c2 HL
      go_wp2
      go_ret
      have hAB := HAB.out.1
      rw [List.append_nil] at hAB
      refine ⟨_, rfl, ?_, HR.out.2⟩
      rw [hAB]
      exact HR.out.1
    | cons e B =>
      obtain rfl : some ⟨e.2, 0, none⟩ = p1 := HAB.out.2
      have hAB := HAB.out.1
      have hn : Nd wr e.2 e.1 (lst A none) (hd B none) := by
        have := (HO.out.keep0 HR.out.2).ln.sg
        rw [hAB] at this
        exact ((seg_append _ _ _ _).1 this).2.1
      have HN := hid hn
      have HNL : Hid (¬ w1.heap.size ≤ e.2) := by
        have : e.2 < w1.heap.size := HO.out.lt _ (by rw [hAB]; simp [fp])
        show ¬ _
        omega
      have n0 := hn.c0
      have n1 := hn.c1
      have hbr := HR.out.2.size
      have hAl : A.length < 100000 := by rw [hAB] at hl; simp at hl; omega
      have hlt : A.length < L.length := by rw [hAB]; simp
      have HX : Hid (cellsK ((A ++ [e]).map Prod.fst) = cellsK (A.map Prod.fst) ++ [.int .u16 e.1.1, .string e.1.2]) := by
        show _ = _
        rw [List.map_append, cellsK_app]; rfl
      clear O3 T3 hn HL c2 hAB HP0
      obtain ⟨p2, hp2⟩ : ∃ p2 : Option Addr, (hd B none).map (fun q => (⟨q, 0, none⟩ : Addr)) = p2 := ⟨_, rfl⟩
      have HP2 := hid hp2
      clear hp2
      go_wp2_with (at_builtin; refine wpList_append_lies _ rfl _ _ 61 rfl w1.heap.size 54 i3 (.agg #[.int .u16 0, .string ⟨#[]⟩]) 2 24 Tryz.underlying61 hi hz0 hz1 hz2 rfl (by decide) (.slice a A.length c) A.length (cellsK (A.map Prod.fst)) rfl (HR.out.1.alloc _) ⟨wr.heap.size, 0, none⟩ 1 1 [.int .u16 e.1.1, .string e.1.2] rfl rfl (cell_two_new _ _ _ _) (by simp [Value.oneCell']) (by decide) (by unfold maxLen; omega) (by omega) (by simp; omega) _ rfl ?_; intro g1 c1 w5 hown5 hgrow hat hlt5; have T5 : Touch (Value.slice a A.length c).ownBlock.toList wr w5 := ((Touch.refl _ _).alloc _).grown hgrow (fun j hj => Or.inl (by simp [hj])); have TW : Touch [] w1 w5 := HR.out.2.trans T5 (fun j hj => Or.inr (HR.out.1.lt j (by simpa using hj)).1); have n3 := (HN.out.keep (w' := w5) (T5.block _ HN.out.lt (fun hh => absurd (HR.out.1.lt _ (by simpa using hh)).1 HNL.out))).c3; have HW := hid (And.intro hown5 TW); clear TW T5 hgrow hat hown5; unfold PP at n3; rw [HP2.out] at n3)
      go_roundw
      case rel => exact ⟨A ++ [e], B, some ⟨g1, 0, none⟩, _, c1, ⟨by rw [HAB.out.1]; simp, HP2.out⟩, by simp, rfl, by rw [HX.out]; simpa using HW.out.1, HW.out.2⟩
      case measure => simp [slen]; omega
end Go.Proofs.YtpefbmheblfbeaaGreat.Me
/- What All goes over: the contract of its inner function, for every loop body; there are fewer than a hundred thousand keys. -/
namespace Go.Proofs.YtpefbmheblfbeaaGreat.Me
open Go.RowKit Go.Sort Go.Maps Go.ChangeMaps Go.WideMaps Go.Shelf
set_option maxRecDepth 100000
set_option linter.unusedVariables false
set_option linter.unusedSimpArgs false
attribute [local go_sem] Oper.semAt_some
theorem keysO (w : World) (o : Nat) (F : List Nat) (most : Int) (xs : List K) (hl : xs.length < 100000) (h : Oq w o F most xs) :
    Calls Tryz.prog 128 #[PT o] w fun e w' => ∃ v, e = .returned v ∧ w'.ownsRow w.heap.size 54 2 v xs.length (cellsK xs) ∧ Touch [] w w' := by
  obtain ⟨m, L, rfl, rfl, t⟩ := h
  rw [List.length_map] at hl ⊢
  exact keys33 w o m most L hl t
theorem row_form {w : World} {base : Nat} {v : Value} {xs : List K} (h : w.ownsRow base 54 2 v xs.length (cellsK xs)) : (v = .slice none 0 0 ∧ xs = []) ∨ ∃ g c cs, v = .slice (some ⟨g, 0, none⟩) xs.length c ∧ base ≤ g ∧ w.heap[g]? = some (.cells cs 54 (0, 0)) ∧ ∀ i (hi : i < xs.length), cs[i * 2]? = some (.int .u16 xs[i].1) ∧ cs[i * 2 + 1]? = some (.string xs[i].2) := by
  have h' := h
  obtain ⟨h1, h2 | ⟨g, cap, cur, rfl, hg, hc, hn, hm, hs, ht⟩⟩ := h
  · refine Or.inl ⟨h2.1, ?_⟩
    rw [cellsK_len] at h1
    cases xs with
    | nil => rfl
    | cons x xs => have := h2.2; simp at this
  · refine Or.inr ⟨g, cap, cur, rfl, hg, hc, fun i hi => ?_⟩
    have e : ∀ j, j < xs.length * 2 → cur[j]? = (cellsK xs)[j]? := fun j hj => by
      rw [← ht, List.getElem?_take, if_pos hj, Array.getElem?_toList]
    rw [e _ (by omega), e _ (by omega), cellsK_at0 xs i hi, cellsK_at1 xs i hi]
    exact ⟨rfl, rfl⟩
def ItQ (xs : List K) (J : Nat → List K → World → Prop) (Jx : World → Prop) (W' : World) : Prop := (∃ r, J r xs W') ∨ Jx W'
set_option maxRecDepth 100000 in
set_option maxHeartbeats 2000000 in
theorem all32_row (l Bo o : Nat) (F : List Nat) (most : Int) (xs : List K) (W : World) (hB : W.cell? ⟨Bo, 0, none⟩ = some (PT o)) (hO : Oq W o F most xs) (hl : xs.length < 100000) (J : Nat → List K → World → Prop) (Jx : World → Prop)
    (hJ0 : ∀ r W1, Touch [] W W1 → W.heap.size ≤ r → J r [] W1) (hJa : ∀ r pre W1 W2, J r pre W1 → Touch [] W1 W2 → J r pre W2)
    (hY : ∀ r pre x W1, J r pre W1 → r < W1.heap.size → (∃ post, xs = pre ++ x :: post) → YieldAt Fence.wide 0 Tryz.prog l #[kv x] W1 fun e W' => (e = .returned (.bool true) ∧ J r (pre ++ [x]) W' ∧ W'.heap[r]? = W1.heap[r]?) ∨ (e = .returned (.bool false) ∧ Jx W')) :
    CallsIn Fence.wide 0 Tryz.prog 127 #[.func (.yield l) #[] #[], .pointer (some ⟨Bo, 0, none⟩)] W fun e W' => (∃ v, e = .returned v) ∧ ItQ xs J Jx W' := by
  have HK := hid (keysO W o F most xs hl hO)
  have HY := hid hY
  have HJ0 := hid hJ0
  have HJa := hid hJa
  clear hY hJ0 hJa hO
  refine callsIn_of_wp Tryz.func127 rfl trivial ?_ rfl
  simp only [Tryz.ntmps127, List.size_toArray, List.length_cons, List.length_nil, Nat.reduceAdd, Nat.reduceSub, Array.replicate_succ, Array.replicate_zero, List.push_toArray, List.append_toArray, List.nil_append, List.cons_append]
  unfold PT at *
  gi_wp2
  refine ⟨trivial, rfl, ?_⟩
  refine (callsIn_wide.2 HK.out).mono ?_
  rintro e w1 ⟨v, rfl, hv, t1⟩
  have T1 := hid t1
  rcases row_form hv with ⟨rfl, rfl⟩ | ⟨g, c, cs, rfl, hg, hgc, hcs⟩
  · clear HK hv t1
    gi_wp2
    gi_loopw [8] (fun i wr => i = .int .i64 0 ∧ wr = w1) (fun _ _ => 0)
    case atStart => exact ⟨rfl, rfl⟩
    case round =>
      obtain ⟨rfl, rfl⟩ := hrel
      gi_wp2
      go_end0
      exact ⟨⟨_, rfl⟩, Or.inl ⟨W.heap.size, HJ0.out _ _ T1.out (Nat.le_refl _)⟩⟩
  · have HC := hid hcs
    have hglt : g < w1.heap.size := block_lt hgc
    have hgc' := hid hgc
    clear HK hv t1 hcs hgc
    gi_wp2
    gi_loopw [8] (fun i wr => ∃ k : Nat, k ≤ xs.length ∧ i = .int .i64 k ∧ Hid (J g (xs.take k) wr ∧ wr.heap[g]? = some (.cells cs 54 (0, 0)))) (fun i _ => xs.length - (intOf i).toNat)
    case atStart => exact ⟨0, Nat.zero_le _, rfl, HJ0.out _ _ T1.out hg, hgc'.out⟩
    case round =>
      obtain ⟨k, hk, rfl, HR⟩ := hrel
      by_cases hlt : k < xs.length
      · have zk : (k : Int) < (xs.length : Int) := by omega
        have f0 : wr.cell? ⟨g, k * 2, none⟩ = some (.int .u16 xs[k].1) := by simp [World.cell?, HR.out.2, (HC.out k hlt).1]
        have f1 : wr.cell? ⟨g, k * 2 + 1, none⟩ = some (.string xs[k].2) := by simp [World.cell?, HR.out.2, (HC.out k hlt).2]
        have hrg : g < wr.heap.size := block_lt HR.out.2
        obtain ⟨fn, tmps, assign, body, hy, hR⟩ := HY.out g (xs.take k) xs[k] (wr.alloc (.cells #[.int .u16 xs[k].1, .string xs[k].2] 54)) (HJa.out _ _ _ _ HR.out.1 ((Touch.refl _ _).alloc _)) (by simp; omega) ⟨xs.drop (k + 1), by simp⟩
        have HRR := hid hR
        clear hR
        unfold kv at hy
        generalize xs[k].1 = x at *
        generalize xs[k].2 = y at *
        gi_wp2
        refine ⟨rfl, HRR.out.mono ?_⟩
        rintro e W3 (⟨rfl, hJ3, hk3⟩ | ⟨rfl, hJx3⟩)
        · have HS : Hid (J g (xs.take (k + 1)) W3 ∧ W3.heap[g]? = some (.cells cs 54 (0, 0))) := by
            refine ⟨?_, hk3.trans ((Below.heap_alloc _ _ _ hrg).trans HR.out.2)⟩
            rw [List.take_succ_eq_append_getElem hlt]
            exact hJ3
          clear hJ3 hk3 HRR hy f0 f1 HR
          gi_wp2
          go_roundw
          case rel => exact ⟨k + 1, by omega, by go_num, HS⟩
          case measure => simp [intOf]; omega
        · have HS := hid hJx3
          clear hJx3 HRR hy f0 f1 HR
          gi_wp2
          refine bodyPost_ret (results_none rfl _ _ _) rfl ?_
          exact ⟨⟨_, rfl⟩, Or.inr HS.out⟩
      · obtain rfl : k = xs.length := by omega
        have HS := HR
        rw [List.take_length] at HS
        clear HR
        gi_wp2
        go_end0
        exact ⟨⟨_, rfl⟩, Or.inl ⟨g, HS.out.1⟩⟩
theorem all13 (w : World) (o : Nat) : Calls Tryz.prog 89 #[PT o] w fun e w' => e = .returned (.func (.func 127) #[] #[.pointer (some ⟨w.heap.size, 0, none⟩)]) ∧ w' = w.alloc (.cells #[PT o] 142) := by
  unfold PT
  go_enter Tryz.func89, Tryz.ntmps89
  go_wp2
  go_ret
  exact ⟨rfl, rfl⟩
end Go.Proofs.YtpefbmheblfbeaaGreat.Me
/- A range over All: what the body of each round must keep, and what is known behind the loop; there are fewer than a hundred thousand keys. -/
namespace Go.Proofs.YtpefbmheblfbeaaGreat.Me
open Go.RowKit Go.Sort Go.Maps Go.ChangeMaps Go.WideMaps Go.Shelf
set_option maxRecDepth 100000
set_option linter.unusedVariables false
set_option linter.unusedSimpArgs false
theorem touch_putObj {X : List Nat} (W : World) {l : Nat} (o : Obj) (hl : l ∈ X) : Touch X W (W.putObj l o) :=
  ⟨rfl, rfl, rfl, by simp, fun k hk hn => World.putObj_heap_other (fun e => hn (e ▸ hl))⟩
def bodyP (X : List Nat) (I Ix : World → Prop) (W : World) : Exit → Act → World → Prop
  | .normal, _, W' => (∀ k ∈ X, W'.heap[k]? = W.heap[k]?) ∧ I W'
  | .ret, _, W' => (∀ k ∈ X, W'.heap[k]? = W.heap[k]?) ∧ Ix W'
  | _, _, _ => False
def dfr (D : Nat) (a : Act) : Act := { a with defers := { target := .collected D, args := #[] } :: a.defers }
set_option maxHeartbeats 2000000 in
theorem range_all {g : Operand} {ps : Array Tmp} {assign body : Code} {Q : Exit → Act → World → Prop} {a : Act} {w : World} (Bo o : Nat) (F : List Nat) (most : Int) (xs : List K)
    (hg : a.eval g = .func (.func 127) #[] #[.pointer (some ⟨Bo, 0, none⟩)]) (hps : ps.size = 1) (hB : w.cell? ⟨Bo, 0, none⟩ = some (PT o)) (hBo : Bo < w.heap.size) (hO : Oq w o F most xs) (hlen : xs.length < 100000)
    (I : List Nat → List K → World → Prop) (Ix : List Nat → World → Prop)
    (hI0 : ∀ X W, Touch [] w W → (∀ k ∈ X, w.heap.size ≤ k) → I X [] W) (hIt : ∀ X pre W W', I X pre W → Touch X W W' → I X pre W') (hIxt : ∀ X W W', Ix X W → Touch X W W' → Ix X W') (a₁ : K → Nat → Act)
    (hassign : ∀ (l : Nat) (x : K) (W : World) (K : Act → World → Prop), K (a₁ x W.heap.size) (W.alloc (bx x)) →
      assign.wpIn (Fence.wide.inRound l) 0 Tryz.prog (Exit.then K (fun _ _ _ => False)) { tmps := (ps.zip #[kv x]).foldl (fun t (p, v) => t.setIfInBounds p v) a.tmps, defers := [] } W)
    (hbody : ∀ (l : Nat) (X : List Nat) (pre : List K) (x : K) (b : Nat) (W : World), I X pre W → W.heap[b]? = some (bx x) → (∀ k ∈ X, k < b) → (∃ post, xs = pre ++ x :: post) →
      body.wpIn (Fence.wide.inRound l) 0 Tryz.prog (bodyP X (I X (pre ++ [x])) (Ix X) W) (a₁ x b) W)
    (hdone : ∀ (X : List Nat) (D : Nat) (W : World), w.heap.size ≤ D → D ∈ X → I X xs W → W.heap[D]? = some (.deferred (some [])) → Q .normal (dfr D a) W)
    (hstop : ∀ (X : List Nat) (D : Nat) (W : World), w.heap.size ≤ D → D ∈ X → Ix X W → W.heap[D]? = some (.deferred (some [])) → Code.ret.wpIn Fence.wide 0 Tryz.prog Q (dfr D a) W) :
    (Code.rangeFunc g ps assign body).wpIn Fence.wide 0 Tryz.prog Q a w := by
  refine wpIn_rangeFunc ?_
  intro fn hfn
  obtain ⟨rec, hrec⟩ : ∃ rec : LoopState → Option Code → Loop, rec = fun st pe => { state := st, pending := pe, fn, tmps := a.tmps, params := ps, assign, body, defers := w.heap.size } := ⟨_, rfl⟩
  obtain ⟨W1, hW1⟩ : ∃ W1, (w.alloc (.deferred (some []))).alloc (.loop (rec .ready none)) = W1 := ⟨_, rfl⟩
  have T1 : Touch [] w W1 := by rw [← hW1]; exact ((Touch.refl _ _).alloc _).alloc _
  have hz1 : W1.heap.size = w.heap.size + 1 + 1 := by rw [← hW1]; simp
  have hL1 : W1.heap[w.heap.size + 1]? = some (.loop (rec .ready none)) := by
    rw [← hW1]
    have := World.alloc_heap_new (w.alloc (.deferred (some []))) (.loop (rec .ready none))
    rwa [World.size_alloc] at this
  have hD1 : W1.heap[w.heap.size]? = some (.deferred (some [])) := by
    rw [← hW1]
    exact (Below.heap_alloc _ _ _ (by simp)).trans (World.alloc_heap_new w _)
  refine ⟨w.heap.size + 1, [{ target := .collected w.heap.size, args := #[] }], W1, { target := .fn (.func 127) #[.pointer (some ⟨Bo, 0, none⟩)], args := #[.func (.yield (w.heap.size + 1)) #[] #[]] }, W1, 127,
    #[.func (.yield (w.heap.size + 1)) #[] #[], .pointer (some ⟨Bo, 0, none⟩)], W1, ?_, ?_, ?_, ?_, (fun h => (by cases h)), ?_⟩
  · rw [← hW1, hrec]; exact run_enterLoop_outer _ _ _ _ _
  · simp only [resolve, hg]
    simp [go_sem]
  · intro f' hf'; exact trivial
  · have eg := enters_of (P := Tryz.prog) Tryz.func127 (by kernel_rfl) rfl
    simp [invoke, go_sem, eg]
  · have hB1 : W1.cell? ⟨Bo, 0, none⟩ = some (PT o) := (World.cell?_of_block (T1.block Bo hBo (by simp))).trans hB
    refine (all32_row (w.heap.size + 1) Bo o F most xs W1 hB1 (hO.keep0 T1) hlen
      (fun r pre W => I [w.heap.size, w.heap.size + 1, r] pre W ∧ W.heap[w.heap.size + 1]? = some (.loop (rec .ready none)) ∧ W.heap[w.heap.size]? = some (.deferred (some [])) ∧ w.heap.size + 1 + 1 ≤ r)
      (fun W => ∃ r, Ix [w.heap.size, w.heap.size + 1, r] W ∧ W.heap[w.heap.size + 1]? = some (.loop (rec .done (some .ret))) ∧ W.heap[w.heap.size]? = some (.deferred (some [])))
      ?_ ?_ ?_).mono ?_
    · intro r W ht hr
      exact ⟨hI0 _ _ (T1.trans' ht) (fun k hk => by simp only [List.mem_cons, List.not_mem_nil, or_false] at hk; omega), ht.keep hL1 (by simp), ht.keep hD1 (by simp), by omega⟩
    · rintro r pre W W' ⟨h1, h2, h3, h4⟩ ht
      exact ⟨hIt _ _ _ _ h1 (ht.mono (fun _ e => by cases e)), ht.keep h2 (by simp), ht.keep h3 (by simp), h4⟩
    · rintro r pre x W ⟨hi, hl, hd, hr⟩ hrl hpost
      have hy := run_yield (P := Tryz.prog) (args := #[kv x]) hl (by rw [hrec]; exact hps.symm)
      rw [hrec] at hy
      have hllt : w.heap.size + 1 < W.heap.size := block_lt hl
      have hla : (W.alloc (bx x)).heap[w.heap.size + 1]? = some (.loop (rec .ready none)) := (Below.heap_alloc _ _ _ hllt).trans hl
      have hda : (W.alloc (bx x)).heap[w.heap.size]? = some (.deferred (some [])) := (Below.heap_alloc _ _ _ (by omega)).trans hd
      refine ⟨fn, _, assign, body, hy, roundIn_of_wpIn hfn (hassign _ x W _ ⟨_, run_beginRound hla (by rw [hrec]), ?_⟩)⟩
      have T2 : Touch [w.heap.size, w.heap.size + 1, r] W ((W.alloc (bx x)).putObj (w.heap.size + 1) (.loop { rec .ready none with state := .busy })) := ((Touch.refl _ _).alloc _).trans' (touch_putObj _ _ (by simp))
      have hl2 : ((W.alloc (bx x)).putObj (w.heap.size + 1) (.loop { rec .ready none with state := .busy })).heap[w.heap.size + 1]? = some (.loop { rec .ready none with state := .busy }) := World.putObj_heap_same (block_lt hla)
      have hd2 : ((W.alloc (bx x)).putObj (w.heap.size + 1) (.loop { rec .ready none with state := .busy })).heap[w.heap.size]? = some (.deferred (some [])) := (World.putObj_heap_other (by omega)).trans hda
      have hr2 : ((W.alloc (bx x)).putObj (w.heap.size + 1) (.loop { rec .ready none with state := .busy })).heap[r]? = W.heap[r]? := (World.putObj_heap_other (by omega)).trans (Below.heap_alloc _ _ _ hrl)
      have hb2 : ((W.alloc (bx x)).putObj (w.heap.size + 1) (.loop { rec .ready none with state := .busy })).heap[W.heap.size]? = some (bx x) := (World.putObj_heap_other (by omega)).trans (World.alloc_heap_new W _)
      refine wpIn_mono (hbody _ [w.heap.size, w.heap.size + 1, r] pre x W.heap.size _ (hIt _ _ _ _ hi T2) hb2 (fun k hk => by simp only [List.mem_cons, List.not_mem_nil, or_false] at hk; omega) hpost) ?_
      generalize (W.alloc (bx x)).putObj (w.heap.size + 1) (.loop { rec .ready none with state := .busy }) = W2 at *
      have fin : ∀ (jump : Option Code) (W3 : World), (∀ k ∈ [w.heap.size, w.heap.size + 1, r], W3.heap[k]? = W2.heap[k]?) →
          (Instr.endRound (w.heap.size + 1) jump).run Tryz.prog W3 = .ok (.bool jump.isNone) (W3.putObj (w.heap.size + 1) (.loop (rec (if jump.isNone then .ready else .done) jump))) ∧
          (W3.putObj (w.heap.size + 1) (.loop (rec (if jump.isNone then .ready else .done) jump))).heap[w.heap.size + 1]? = some (.loop (rec (if jump.isNone then .ready else .done) jump)) ∧
          (W3.putObj (w.heap.size + 1) (.loop (rec (if jump.isNone then .ready else .done) jump))).heap[w.heap.size]? = some (.deferred (some [])) ∧
          (W3.putObj (w.heap.size + 1) (.loop (rec (if jump.isNone then .ready else .done) jump))).heap[r]? = W.heap[r]? := fun jump W3 hk3 => by
        have hl3 := (hk3 (w.heap.size + 1) (by simp)).trans hl2
        have := run_endRound (P := Tryz.prog) jump hl3
        rw [hrec] at this ⊢
        exact ⟨this, World.putObj_heap_same (block_lt hl3), (World.putObj_heap_other (by omega)).trans ((hk3 w.heap.size (by simp)).trans hd2), (World.putObj_heap_other (by omega)).trans ((hk3 r (by simp)).trans hr2)⟩
      rintro e a3 W3 hp
      cases e with
      | normal =>
        obtain ⟨hk3, hi3⟩ := hp
        obtain ⟨f1, f2, f3, f4⟩ := fin none W3 hk3
        exact ⟨_, _, f1, Or.inl ⟨rfl, ⟨hIt _ _ _ _ hi3 (touch_putObj _ _ (by simp)), f2, f3, hr⟩, f4⟩⟩
      | ret =>
        obtain ⟨hk3, hi3⟩ := hp
        obtain ⟨f1, f2, f3, f4⟩ := fin (some .ret) W3 hk3
        exact ⟨_, _, f1, Or.inr ⟨rfl, r, hIxt _ _ _ hi3 (touch_putObj _ _ (by simp)), f2, f3⟩⟩
      | exit id => exact hp.elim
      | goto t => exact hp.elim
      | panic ch => exact hp.elim
      | outgrown => exact hp.elim
    · rintro e W2 ⟨⟨v, rfl⟩, ⟨r, hi, hl, hd, hr⟩ | ⟨r, hi, hl, hd⟩⟩
      · refine ⟨none, _, by have := run_endLoop (P := Tryz.prog) hl (by rw [hrec]; simp); rw [hrec] at this; exact this, ?_⟩
        exact hdone [w.heap.size, w.heap.size + 1, r] w.heap.size _ (Nat.le_refl _) (by simp) (hIt _ _ _ _ hi (touch_putObj _ _ (by simp))) ((World.putObj_heap_other (by omega)).trans hd)
      · refine ⟨some .ret, _, by have := run_endLoop (P := Tryz.prog) hl (by rw [hrec]; simp); rw [hrec] at this; exact this, ?_⟩
        exact hstop [w.heap.size, w.heap.size + 1, r] w.heap.size _ (Nat.le_refl _) (by simp) (hIxt _ _ _ hi (touch_putObj _ _ (by simp))) ((World.putObj_heap_other (by omega)).trans hd)
def ax (a : Act) (s p : Tmp) (x : K) (b : Nat) : Act := { tmps := (a.tmps.setIfInBounds p (kv x)).setIfInBounds s (.pointer (some ⟨b, 0, none⟩)), defers := [] }
theorem range_at {g : Operand} {ps : Array Tmp} {assign body : Code} {Q : Exit → Act → World → Prop} {a : Act} {w : World} (s p : Tmp) (Bo o : Nat) (F : List Nat) (most : Int) (xs : List K)
    (hg : a.eval g = .func (.func 127) #[] #[.pointer (some ⟨Bo, 0, none⟩)]) (hps : ps.size = 1) (hB : w.cell? ⟨Bo, 0, none⟩ = some (PT o)) (hBo : Bo < w.heap.size) (hO : Oq w o F most xs) (hlen : xs.length < 100000)
    (I : List Nat → List K → World → Prop) (Ix : List Nat → World → Prop)
    (hI0 : ∀ X W, Touch [] w W → (∀ k ∈ X, w.heap.size ≤ k) → I X [] W) (hIt : ∀ X pre W W', I X pre W → Touch X W W' → I X pre W') (hIxt : ∀ X W W', Ix X W → Touch X W W' → Ix X W')
    (hassign : ∀ (l : Nat) (x : K) (W : World) (K : Act → World → Prop), K (ax a s p x W.heap.size) (W.alloc (bx x)) →
      assign.wpIn (Fence.wide.inRound l) 0 Tryz.prog (Exit.then K (fun _ _ _ => False)) { tmps := (ps.zip #[kv x]).foldl (fun t (p, v) => t.setIfInBounds p v) a.tmps, defers := [] } W)
    (hbody : ∀ (l : Nat) (X : List Nat) (pre : List K) (x : K) (b : Nat) (W : World), I X pre W → W.heap[b]? = some (bx x) → (∀ k ∈ X, k < b) → (∃ post, xs = pre ++ x :: post) →
      body.wpIn (Fence.wide.inRound l) 0 Tryz.prog (bodyP X (I X (pre ++ [x])) (Ix X) W) (ax a s p x b) W)
    (hdone : ∀ (X : List Nat) (D : Nat) (W : World), w.heap.size ≤ D → D ∈ X → I X xs W → W.heap[D]? = some (.deferred (some [])) → Q .normal (dfr D a) W)
    (hstop : ∀ (X : List Nat) (D : Nat) (W : World), w.heap.size ≤ D → D ∈ X → Ix X W → W.heap[D]? = some (.deferred (some [])) → Code.ret.wpIn Fence.wide 0 Tryz.prog Q (dfr D a) W) :
    (Code.rangeFunc g ps assign body).wpIn Fence.wide 0 Tryz.prog Q a w :=
  range_all Bo o F most xs hg hps hB hBo hO hlen I Ix hI0 hIt hIxt (ax a s p) hassign hbody hdone hstop
end Go.Proofs.YtpefbmheblfbeaaGreat.Me
/- The contract of Clone: an order of its own that is the same; there are fewer than a hundred thousand keys. -/
namespace Go.Proofs.YtpefbmheblfbeaaGreat.Me
open Go.RowKit Go.Sort Go.Maps Go.ChangeMaps Go.WideMaps Go.Shelf
set_option maxRecDepth 100000
set_option linter.unusedVariables false
set_option linter.unusedSimpArgs false
attribute [local go_sem] Oper.semAt_some
def ClI (w : World) (c p : Nat) (most : Int) (X : List Nat) (pre : List K) (W : World) : Prop :=
  (∃ G, Oq W c G most pre ∧ ∀ k ∈ G, ¬ k ∈ X ∧ w.heap.size ≤ k ∧ k ≠ p) ∧ W.heap[p]? = some (.cells #[PT c] 142 (0, 0)) ∧ ¬ p ∈ X ∧ (∀ k ∈ X, w.heap.size ≤ k) ∧ Touch [] w W
theorem ClI.step {w : World} {c p : Nat} {most : Int} {X : List Nat} {pre : List K} {W W' : World} (h : ClI w c p most X pre W) (ht : Touch X W W') : ClI w c p most X pre W' := by
  obtain ⟨⟨G, h1, h2⟩, h3, h4, h5, h6⟩ := h
  exact ⟨⟨G, h1.keep ht (fun k hk => (h2 k hk).1), h2⟩, ht.keep h3 h4, h4, h5, h6.trans ht (fun i hi => Or.inr (h5 i hi))⟩
theorem ClI.enter {w : World} {c p : Nat} {most : Int} {X : List Nat} {pre : List K} {W : World} (h : ClI w c p most X pre W) (x : K) (hx : Ok x) (hn : ¬ x ∈ pre) (hl : pre.length < 100000) (hX : ∀ k ∈ X, k < W.heap.size) (hp : w.heap.size ≤ p) :
    Calls Tryz.prog 112 #[PT c, kv x] W fun e W' => e = .returned (.tuple #[]) ∧ (∀ k ∈ X, W'.heap[k]? = W.heap[k]?) ∧ ClI w c p most X (pre ++ [x]) W' := by
  obtain ⟨⟨G, h1, h2⟩, h3, h4, h5, h6⟩ := h
  refine (enterO W c G most pre x hx hn hl h1).mono ?_
  rintro e W' ⟨rfl, G', c1, c2, c3⟩
  refine ⟨rfl, fun k hk => c2.block k (hX k hk) (fun hh => (h2 k hh).1 hk), ⟨G', c1, fun k hk => ?_⟩, c2.keep h3 (fun hh => (h2 p hh).2.2 rfl), h4, h5, h6.trans c2 (fun i hi => Or.inr (h2 i hi).2.1)⟩
  rcases c3 k hk with e | e
  · exact h2 k e
  · have := block_lt h3
    have := h6.size
    exact ⟨fun hh => by have := hX k hh; omega, by omega, by omega⟩
def ClQ (w : World) (most : Int) (xs : List K) (w' : World) : Prop := ∃ G, Oq w' w.heap.size G most xs ∧ (∀ k ∈ G, w.heap.size ≤ k) ∧ Touch [] w w'
set_option maxRecDepth 100000 in
set_option maxHeartbeats 2000000 in
theorem cloneO (w : World) (o : Nat) (F : List Nat) (most : Int) (xs : List K) (hl : xs.length < 100000) (h : Oq w o F most xs) : Calls Tryz.prog 72 #[PT o] w fun e w' => e = .returned (PT w.heap.size) ∧ ClQ w most xs w' := by
  refine (callsIn_wide (n := 0)).1 ?_
  have c0 := h.c0
  have H := hid h
  have ho : o < w.heap.size := h.lt _ h.mem
  clear h
  refine callsIn_of_wp_marks Tryz.func72 rfl trivial ?_ rfl
  simp only [Tryz.ntmps72, List.size_toArray, List.length_cons, List.length_nil, Nat.reduceAdd, Nat.reduceSub, Array.replicate_succ, Array.replicate_zero, List.push_toArray, List.append_toArray, List.nil_append, List.cons_append]
  unfold PT
  gi_wp2
  refine ⟨trivial, rfl, ?_⟩
  refine (callsIn_wide.2 (all13 _ o)).mono ?_
  rintro e w1 ⟨rfl, rfl⟩
  gi_wp2
  obtain ⟨W0, hW0⟩ : ∃ W0, ((w.alloc (.cells #[.int .i64 most, .map none, .pointer none, .pointer none] 197)).alloc (.cells #[.pointer (some ⟨w.heap.size, 0, none⟩)] 142)).alloc (.cells #[PT o] 142) = W0 := ⟨_, rfl⟩
  rw [hW0]
  have hz : W0.heap.size = w.heap.size + 3 := by rw [← hW0]; simp
  have T0 : Touch [] w W0 := by rw [← hW0]; exact (((Touch.refl _ _).alloc _).alloc _).alloc _
  have k0 : W0.heap[w.heap.size]? = some (.cells #[.int .i64 most, .map none, .pointer none, .pointer none] 197 (0, 0)) := by
    rw [← hW0]
    exact (Below.heap_alloc _ _ _ (by simp; omega)).trans ((Below.heap_alloc _ _ _ (by simp)).trans (heap_alloc_new w _))
  have k1 : W0.heap[w.heap.size + 1]? = some (.cells #[PT w.heap.size] 142 (0, 0)) := by
    rw [← hW0]
    have := heap_alloc_new (w.alloc (.cells #[.int .i64 most, .map none, .pointer none, .pointer none] 197)) (.cells #[.pointer (some ⟨w.heap.size, 0, none⟩)] 142)
    rw [World.size_alloc] at this
    exact (Below.heap_alloc _ _ _ (by simp)).trans this
  have k2 : W0.heap[w.heap.size + 1 + 1]? = some (.cells #[PT o] 142 (0, 0)) := by
    rw [← hW0]
    have := heap_alloc_new ((w.alloc (.cells #[.int .i64 most, .map none, .pointer none, .pointer none] 197)).alloc (.cells #[.pointer (some ⟨w.heap.size, 0, none⟩)] 142)) (.cells #[PT o] 142)
    rwa [World.size_alloc, World.size_alloc] at this
  have O0 : Oq W0 w.heap.size [w.heap.size] most [] := ⟨none, [], rfl, rfl, ⟨⟨k0, trivial, by simp⟩, by simp, fun e he => (by cases he), Or.inl ⟨rfl, rfl⟩⟩⟩
  clear hW0 c0
  refine range_all (w.heap.size + 1 + 1) o F most xs rfl rfl (by simp [World.cell?, k2]) (by omega) (H.out.keep0 T0) hl (ClI w w.heap.size (w.heap.size + 1) most) (fun _ _ => False) ?_ (fun X pre W W' hi ht => hi.step ht) (fun _ _ _ h _ => h)
    (fun x b => { tmps := #[.pointer (some ⟨o, 0, none⟩), undef, .pointer none, .pointer (some ⟨w.heap.size + 1, 0, none⟩), .pointer (some ⟨b, 0, none⟩), .pointer (some ⟨o, 0, none⟩), .bool false, .pointer (some ⟨o, 0, none⟩), .pointer (some ⟨o, 0, none⟩), .pointer (some ⟨o, 0, none⟩), .int .i64 most, .agg #[.int .i64 most, .map none, .pointer none, .pointer none], .pointer (some ⟨w.heap.size, 0, none⟩), .pointer (some ⟨o, 0, none⟩), .func (.func 127) #[] #[.pointer (some ⟨w.heap.size + 1 + 1, 0, none⟩)], .agg #[.int .u16 x.1, .string x.2], undef, undef, undef, undef], defers := [] }) ?_ ?_ ?_ ?_
  · intro X W ht hX
    have hX' : ∀ k ∈ X, w.heap.size + 3 ≤ k := fun k hk => by have := hX k hk; omega
    refine ⟨⟨[w.heap.size], O0.keep0 ht, fun k hk => ?_⟩, ht.keep k1 (by simp), fun hh => by have := hX' _ hh; omega, fun k hk => by have := hX' k hk; omega, T0.trans' ht⟩
    simp only [List.mem_singleton] at hk
    subst hk
    exact ⟨fun hh => by have := hX' _ hh; omega, Nat.le_refl _, by omega⟩
  · intro l x W K hK
    unfold kv
    gi_wp2
    exact hK
  · rintro l X pre x b W hi hb hX ⟨post, hpost⟩
    have hbx : W.heap[b]? = some (.cells #[.int .u16 x.1, .string x.2] 54 (0, 0)) := hb
    have b0 : W.cell? ⟨b, 0, none⟩ = some (.int .u16 x.1) := by simp [World.cell?, hbx]
    have b1 : W.cell? ⟨b, 1, none⟩ = some (.string x.2) := by simp [World.cell?, hbx]
    have hp := hi.2.1
    have p0 : W.cell? ⟨w.heap.size + 1, 0, none⟩ = some (.pointer (some ⟨w.heap.size, 0, none⟩)) := by unfold PT at hp; simp [World.cell?, hp]
    have hmem : x ∈ xs := by rw [hpost]; simp
    have hnx : ¬ x ∈ pre := fun hh => by
      have := H.out.nd
      rw [hpost, List.nodup_append] at this
      exact this.2.2 x hh x (by simp) rfl
    have hpl : pre.length < 100000 := by rw [hpost] at hl; simp at hl; omega
    have HE := hid (hi.enter x (H.out.ok x hmem) hnx hpl (fun k hk => by have := hX k hk; have := block_lt hb; omega) (by omega))
    unfold PT kv at HE
    clear hb hbx hp hi
    gi_wp2
    refine ⟨trivial, rfl, ?_⟩
    refine (CallsIn.inRound l (callsIn_wide.2 HE.out)).mono ?_
    rintro e W' ⟨rfl, q1, q2⟩
    have Q1 := hid q1
    have Q2 := hid q2
    clear q1 q2
    gi_wp2
    exact ⟨Q1.out, Q2.out⟩
  · rintro X D W hD hDX hi hK
    have hp := hi.2.1
    have p0 : W.cell? ⟨w.heap.size + 1, 0, none⟩ = some (.pointer (some ⟨w.heap.size, 0, none⟩)) := by unfold PT at hp; simp [World.cell?, hp]
    unfold dfr
    have HI := hid hi
    clear hi hp
    gi_wp2
    refine ⟨by simp, .inl ⟨_, _, rfl, run_takeDeferred hK, ?_⟩⟩
    refine ⟨_, results_tmp rfl _ _ _, rfl, ?_⟩
    obtain ⟨⟨G, h1, h2⟩, h3, h4, h5, h6⟩ := HI.out.step (touch_putObj W (l := D) (.deferred none) hDX)
    exact ⟨G, h1, fun k hk => (h2 k hk).2.1, h6⟩
  · intro X D W _ _ h
    exact h.elim
end Go.Proofs.YtpefbmheblfbeaaGreat.Me
/- A memo in memory as a plain list of entries, the one that was used the longest time ago first: what lies where, what keeps it; no conditions. -/
namespace Go.Proofs.YtpefbmheblfbeaaGreat.Me
open Go.RowKit Go.Sort Go.Maps Go.ChangeMaps Go.WideMaps
set_option maxRecDepth 100000
set_option linter.unusedVariables false
set_option linter.unusedSimpArgs false
theorem Oq.away {w : World} {o : Nat} {F : List Nat} {most : Int} {xs : List K} (h : Oq w o F most xs) {k : Nat} {cs : Array Value} {t : TypeId} {fr : Nat × Nat} (hc : w.heap[k]? = some (.cells cs t fr)) (h1 : t ≠ 197) (h2 : t ≠ 220) : ¬ k ∈ F := fun hk => by
  obtain ⟨m, L, rfl, rfl, t⟩ := h
  simp only [fp, List.mem_cons, List.mem_append] at hk
  rcases hk with rfl | hk | hk
  · have := t.ln.oc
    unfold OC at this
    rw [this] at hc
    simp at hc
    exact h1 hc.2.1.symm
  · rcases t.mp with ⟨rfl, _⟩ | ⟨b, f, rfl, hm, hf⟩
    · simp at hk
    · simp at hk
      subst hk
      exact hm.ne_block hc rfl
  · obtain ⟨e, he, rfl⟩ := List.mem_map.1 hk
    obtain ⟨x, y, hx⟩ := t.ln.sg.mem e he
    unfold Nd at hx
    rw [hx] at hc
    simp at hc
    exact h2 hc.2.1.symm
def mcs (c : Cf) (now : Int) (b o : Nat) : Array Value := #[.int .i64 c.t, .int .i64 c.n, .int .i64 c.s, .int .i64 c.e, .int .i64 c.f, .int .i64 c.b, .int .i64 c.d, .int .i64 now, .map (some b), PT o]
def Md (w : World) (m : Nat) (c : Cf) (now : Int) (b o : Nat) : Prop := w.heap[m]? = some (.cells (mcs c now b o) 144 (0, 0))
structure MdC (w : World) (m : Nat) (c : Cf) (now : Int) (b o : Nat) : Prop where
  c0 : w.cell? ⟨m, 0, none⟩ = some (.int .i64 c.t)
  c1 : w.cell? ⟨m, 1, none⟩ = some (.int .i64 c.n)
  c2 : w.cell? ⟨m, 2, none⟩ = some (.int .i64 c.s)
  c3 : w.cell? ⟨m, 3, none⟩ = some (.int .i64 c.e)
  c4 : w.cell? ⟨m, 4, none⟩ = some (.int .i64 c.f)
  c5 : w.cell? ⟨m, 5, none⟩ = some (.int .i64 c.b)
  c6 : w.cell? ⟨m, 6, none⟩ = some (.int .i64 c.d)
  c7 : w.cell? ⟨m, 7, none⟩ = some (.int .i64 now)
  c8 : w.cell? ⟨m, 8, none⟩ = some (.map (some b))
  c9 : w.cell? ⟨m, 9, none⟩ = some (.pointer (some ⟨o, 0, none⟩))
  f7 : w.frozen? ⟨m, 7, none⟩ = false
theorem Md.cs {w : World} {m : Nat} {c : Cf} {now : Int} {b o : Nat} (h : Md w m c now b o) : MdC w m c now b o := by
  unfold Md mcs PT at h
  constructor <;> simp [World.cell?, World.frozen?, h]
theorem Md.set7 {w : World} {m : Nat} {c : Cf} {now : Int} {b o : Nat} (h : Md w m c now b o) (n2 : Int) : Md (w.setCell ⟨m, 7, none⟩ (.int .i64 n2)) m c n2 b o := bset h _
theorem Md.lt {w : World} {m : Nat} {c : Cf} {now : Int} {b o : Nat} (h : Md w m c now b o) : m < w.heap.size := block_lt h
def mpf (xs : List En) : K → Option Value := fun k => (fnd xs k).map ev
structure Mb (w : World) (m b o : Nat) (G : List Nat) (c : Cf) (now : Int) (xs : List En) : Prop where
  md : Md w m c now b o
  mp : MapAt w b xs.length (mpf xs)
  oq : Oq w o G c.e (keysL xs)
  gd : Gd c now xs
  bg : ¬ b ∈ G
def Mq (w : World) (m : Nat) (F : List Nat) (c : Cf) (now : Int) (xs : List En) : Prop := ∃ b o G, F = m :: b :: G ∧ Mb w m b o G c now xs
section
variable {w w' : World} {m b o : Nat} {F G X : List Nat} {c : Cf} {now : Int} {xs : List En}
theorem Mb.mg (h : Mb w m b o G c now xs) : ¬ m ∈ G := h.oq.away h.md (by decide) (by decide)
theorem Mb.mb (h : Mb w m b o G c now xs) : b ≠ m := h.mp.ne_block h.md
theorem Mb.nd (h : Mb w m b o G c now xs) : (keysL xs).Nodup := h.oq.nd
theorem Mb.ok (h : Mb w m b o G c now xs) : ∀ k ∈ keysL xs, Ok k := h.oq.ok
theorem Mb.len (h : Mb w m b o G c now xs) : xs.length ≤ 65536 := by have := h.gd.ln; have := (okC_e h.gd.oc).2; omega
theorem Mb.keep (h : Mb w m b o G c now xs) (t : Touch X w w') (hn : ∀ k, k ∈ m :: b :: G → ¬ k ∈ X) : Mb w' m b o G c now xs :=
  ⟨t.keep h.md (hn m (by simp)), h.mp.kept (t.block b h.mp.lt (hn b (by simp))), h.oq.keep t (fun k hk => hn k (by simp [hk])), h.gd, h.bg⟩
theorem Mb.keep0 (h : Mb w m b o G c now xs) (t : Touch [] w w') : Mb w' m b o G c now xs := h.keep t (fun _ _ e => by cases e)
theorem Mb.lt (h : Mb w m b o G c now xs) : ∀ k, k ∈ m :: b :: G → k < w.heap.size := fun k hk => by
  simp only [List.mem_cons] at hk
  rcases hk with rfl | rfl | hk
  · exact h.md.lt
  · exact h.mp.lt
  · exact h.oq.lt k hk
theorem Mq.keep (h : Mq w m F c now xs) (t : Touch X w w') (hn : ∀ k, k ∈ F → ¬ k ∈ X) : Mq w' m F c now xs := by
  obtain ⟨b, o, G, rfl, h⟩ := h
  exact ⟨b, o, G, rfl, h.keep t hn⟩
theorem Mq.keep0 (h : Mq w m F c now xs) (t : Touch [] w w') : Mq w' m F c now xs := h.keep t (fun _ _ e => by cases e)
theorem Mq.lt (h : Mq w m F c now xs) : ∀ k, k ∈ F → k < w.heap.size := by
  obtain ⟨b, o, G, rfl, h⟩ := h
  exact h.lt
theorem Mq.gd (h : Mq w m F c now xs) : Gd c now xs := by
  obtain ⟨b, o, G, rfl, h⟩ := h
  exact h.gd
theorem Mq.nd (h : Mq w m F c now xs) : (keysL xs).Nodup := by
  obtain ⟨b, o, G, rfl, h⟩ := h
  exact h.nd
theorem Mq.ok (h : Mq w m F c now xs) : ∀ k ∈ keysL xs, Ok k := by
  obtain ⟨b, o, G, rfl, h⟩ := h
  exact h.ok
theorem Mq.len (h : Mq w m F c now xs) : xs.length ≤ 65536 := by
  obtain ⟨b, o, G, rfl, h⟩ := h
  exact h.len
theorem Mq.away (h : Mq w m F c now xs) {k : Nat} {cs : Array Value} {t : TypeId} {fr : Nat × Nat} (hc : w.heap[k]? = some (.cells cs t fr)) (h1 : t ≠ 197) (h2 : t ≠ 220) (h3 : t ≠ 144) : ¬ k ∈ F := fun hk => by
  obtain ⟨b, o, G, rfl, h⟩ := h
  simp only [List.mem_cons] at hk
  rcases hk with rfl | rfl | hk
  · have := h.md
    unfold Md at this
    rw [this] at hc
    simp at hc
    exact h3 hc.2.1.symm
  · exact h.mp.ne_block hc rfl
  · exact h.oq.away hc h1 h2 hk
end
def Mc (w : World) (m : Nat) (F : List Nat) (c : Cf) (now : Int) (ys : List En) (w' : World) : Prop := ∃ F', Mq w' m F' c now ys ∧ Touch F w w' ∧ Nf w F F'
theorem Mc.refl {w : World} {m : Nat} {F : List Nat} {c : Cf} {now : Int} {xs : List En} (h : Mq w m F c now xs) : Mc w m F c now xs w := ⟨F, h, Touch.refl _ _, Nf.refl _ _⟩
theorem Mc.from0 {w0 w w' : World} {m : Nat} {F : List Nat} {c : Cf} {now : Int} {ys : List En} (h : Mc w m F c now ys w') (t : Touch [] w0 w) : Mc w0 m F c now ys w' := by
  obtain ⟨F', h1, h2, h3⟩ := h
  exact ⟨F', h1, (t.mono (fun _ e => by cases e)).trans' h2, fun k hk => (h3 k hk).elim Or.inl (fun e => Or.inr (Nat.le_trans t.size e))⟩
theorem Mc.keep0 {w w1 w2 : World} {m : Nat} {F : List Nat} {c : Cf} {now : Int} {ys : List En} (h : Mc w m F c now ys w1) (t : Touch [] w1 w2) : Mc w m F c now ys w2 := by
  obtain ⟨F', h1, h2, h3⟩ := h
  exact ⟨F', h1.keep0 t, h2.trans' (t.mono (fun _ e => by cases e)), h3⟩
end Go.Proofs.YtpefbmheblfbeaaGreat.Me
/- Contracts of what only reads a memo: its ticks, what it keeps, how an entry is at its time; no conditions but those that each states. -/
namespace Go.Proofs.YtpefbmheblfbeaaGreat.Me
open Go.RowKit Go.Sort Go.Maps Go.ChangeMaps Go.WideMaps
set_option maxRecDepth 100000
set_option linter.unusedVariables false
set_option linter.unusedSimpArgs false
def tickE (now n : Int) : Int := if isT n then (if n < now then 101 else 0) else 10
theorem tick45 (w : World) (m : Nat) (c : Cf) (now n : Int) (b o : Nat) (h : Md w m c now b o) : Calls Tryz.prog 73 #[PT m, .int .i64 n] w fun e w' => e = .returned (.int .i64 (tickE now n)) ∧ w' = w := by
  have c7 := h.cs.c7
  have H := is39 n
  unfold tickE PT
  clear h
  generalize isT n = r at *
  cases r
  · go_enter Tryz.func73, Tryz.ntmps73
    go_wp2_with (go_at_call 84; refine (H _).mono ?_; rintro e w2 ⟨rfl, rfl⟩)
    go_ret
    exact ⟨rfl, rfl⟩
  · by_cases hb : n < now
    · go_enter Tryz.func73, Tryz.ntmps73
      go_wp2_with (go_at_call 84; refine (H _).mono ?_; rintro e w2 ⟨rfl, e2⟩; rw [e2]; clear e2 w2)
      go_ret
      simp [hb]
    · go_enter Tryz.func73, Tryz.ntmps73
      go_wp2_with (go_at_call 84; refine (H _).mono ?_; rintro e w2 ⟨rfl, e2⟩; rw [e2]; clear e2 w2)
      go_ret
      simp [hb]
theorem now26 (w : World) (m : Nat) (c : Cf) (now : Int) (b o : Nat) (h : Md w m c now b o) : Calls Tryz.prog 22 #[PT m] w fun e w' => e = .returned (.int .i64 now) ∧ w' = w := by
  have c7 := h.cs.c7
  clear h
  unfold PT
  go_enter Tryz.func22, Tryz.ntmps22
  go_wp2
  go_ret
  exact ⟨rfl, rfl⟩
theorem config27 (w : World) (m : Nat) (c : Cf) (now : Int) (b o : Nat) (h : Md w m c now b o) : Calls Tryz.prog 35 #[PT m] w fun e w' => e = .returned (cv c) ∧ Touch [] w w' := by
  have hl := h.lt
  have hne : m ≠ w.heap.size := by omega
  obtain ⟨c0, c1, c2, c3, c4, c5, c6, c7, c8, c9, f7⟩ := h.cs
  clear h
  unfold PT cv
  go_enter Tryz.func35, Tryz.ntmps35
  go_wp2
  refine bodyPost_ret (v := .agg #[.int .i64 c.t, .int .i64 c.n, .int .i64 c.s, .int .i64 c.e, .int .i64 c.f, .int .i64 c.b, .int .i64 c.d]) (by simp [results, Tryz.results35, go_sem]) rfl ⟨rfl, ?_⟩
  repeat (first | exact Touch.refl _ _ | apply Touch.alloc | (refine Touch.setCell ?_ (Or.inr (by simp)) _))
theorem len19 (w : World) (m b o : Nat) (G : List Nat) (c : Cf) (now : Int) (xs : List En) (h : Mb w m b o G c now xs) : Calls Tryz.prog 54 #[PT m] w fun e w' => e = .returned (.int .i64 (xs.length : Int)) ∧ w' = w := by
  have c8 := h.md.cs.c8
  have hl := fun ty => h.mp.len (t := 141) Tryz.underlying141 ty
  clear h
  generalize (xs.length : Int) = n at *
  unfold PT
  go_enter Tryz.func54, Tryz.ntmps54
  go_wp2
  go_ret
  exact ⟨rfl, rfl⟩
set_option maxHeartbeats 1000000 in
theorem keeps47 (w : World) (m : Nat) (c : Cf) (now : Int) (b o : Nat) (h : Md w m c now b o) (x : O) : Calls Tryz.prog 75 #[PT m, ov x] w fun e w' => e = .returned (.bool (keepsC c x)) ∧ Touch [] w w' := by
  have hl := h.lt
  obtain ⟨c0, c1, c2, c3, c4, c5, c6, c7, c8, c9, f7⟩ := h.cs
  clear h c4 c5 c6 c7 c8 c9 f7 c2
  obtain ⟨v, a, y, z⟩ := x
  unfold PT ov keepsC
  simp only
  have hne : m ≠ w.heap.size := by omega
  by_cases h0 : c.e = 0
  · rw [if_pos h0]
    rw [h0] at c3
    go_enter Tryz.func75, Tryz.ntmps75
    go_wp2
    go_ret
    exact ⟨rfl, by repeat (first | exact Touch.refl _ _ | apply Touch.alloc)⟩
  rw [if_neg h0]
  have e0 : (c.e == 0) = false := by simp [h0]
  by_cases ha : a = 0
  · subst ha
    rw [if_pos rfl]
    go_enter Tryz.func75, Tryz.ntmps75
    go_wp2
    go_ret
    exact ⟨rfl, by repeat (first | exact Touch.refl _ _ | apply Touch.alloc)⟩
  have ea : (a == 0) = false := by simp [ha]
  rw [if_neg ha]
  by_cases h1 : a = 1
  · subst h1
    rw [if_pos rfl]
    go_enter Tryz.func75, Tryz.ntmps75
    go_wp2
    go_ret
    exact ⟨rfl, by repeat (first | exact Touch.refl _ _ | apply Touch.alloc)⟩
  rw [if_neg h1]
  have b1 : (a == 1) = false := by simp [h1]
  by_cases h2 : a = 2
  · subst h2
    rw [if_pos rfl]
    go_enter Tryz.func75, Tryz.ntmps75
    go_wp2
    go_ret
    exact ⟨rfl, by repeat (first | exact Touch.refl _ _ | apply Touch.alloc)⟩
  rw [if_neg h2]
  have b2 : (a == 2) = false := by simp [h2]
  go_enter Tryz.func75, Tryz.ntmps75
  go_wp2
  go_ret
  exact ⟨rfl, by repeat (first | exact Touch.refl _ _ | apply Touch.alloc)⟩
def pairE (k : K) (x : O) : Int := if 64 < k.2.size then 20 else if right x then 0 else 30
theorem pair46 (w : World) (k : K) (x : O) : Calls Tryz.prog 74 #[kv k, ov x] w fun e w' => e = .returned (.int .i64 (pairE k x)) ∧ Touch [] w w' := by
  obtain ⟨V, hV⟩ : ∃ V, V = (w.alloc (bx k)).alloc (.cells #[.int .i64 x.1, .int .i64 x.2.1, .int .i64 x.2.2.1, .int .i64 x.2.2.2] 58) := ⟨_, rfl⟩
  have TV : Hid (Touch [] w V) := by rw [hV]; exact ((Touch.refl _ _).alloc _).alloc _
  have HB : Hid (∀ w2, Touch [] V w2 → w2.cell? ⟨w.heap.size + 1, 0, none⟩ = some (.int .i64 x.1) ∧ w2.cell? ⟨w.heap.size + 1, 1, none⟩ = some (.int .i64 x.2.1) ∧ w2.cell? ⟨w.heap.size + 1, 2, none⟩ = some (.int .i64 x.2.2.1) ∧ w2.cell? ⟨w.heap.size + 1, 3, none⟩ = some (.int .i64 x.2.2.2)) := fun w2 t => by
    have b : V.heap[w.heap.size + 1]? = some (.cells #[.int .i64 x.1, .int .i64 x.2.1, .int .i64 x.2.2.1, .int .i64 x.2.2.2] 58 (0, 0)) := by
      rw [hV]
      have := heap_alloc_new (w.alloc (bx k)) (.cells #[.int .i64 x.1, .int .i64 x.2.1, .int .i64 x.2.2.1, .int .i64 x.2.2.2] 58)
      rwa [World.size_alloc] at this
    have := t.keep b (by simp)
    simp [World.cell?, this]
  unfold pairE
  by_cases hk : 64 < k.2.size
  · rw [if_pos hk]
    have HC := hid (fun w => check29_no w k hk)
    clear HB
    subst hV
    unfold kv ov bx at *
    go_enter Tryz.func74, Tryz.ntmps74
    go_wp2_with (go_at_call 113; refine (HC.out _).mono ?_; rintro e w2 ⟨rfl, t2⟩; have T2 := hid t2; clear t2)
    go_ret
    exact ⟨rfl, TV.out.trans' T2.out⟩
  · rw [if_neg hk]
    have HC := hid (fun w => check29_ok w k (by omega))
    have HR := hid (fun w => right62 w x)
    generalize right x = r at *
    subst hV
    unfold kv ov bx at *
    cases r
    · go_enter Tryz.func74, Tryz.ntmps74
      go_wp2_with (first
        | (go_at_call 113; refine (HC.out _).mono ?_; rintro e w2 ⟨rfl, t2⟩; have T2 := hid t2; obtain ⟨q0, q1, q2, q3⟩ := HB.out _ t2; clear t2)
        | (go_at_call 114; refine (HR.out _).mono ?_; rintro e w3 ⟨rfl, t3⟩; have T3 := hid t3; clear t3))
      go_ret
      exact ⟨rfl, TV.out.trans' (T2.out.trans' T3.out)⟩
    · go_enter Tryz.func74, Tryz.ntmps74
      go_wp2_with (first
        | (go_at_call 113; refine (HC.out _).mono ?_; rintro e w2 ⟨rfl, t2⟩; have T2 := hid t2; obtain ⟨q0, q1, q2, q3⟩ := HB.out _ t2; clear t2)
        | (go_at_call 114; refine (HR.out _).mono ?_; rintro e w3 ⟨rfl, t3⟩; have T3 := hid t3; clear t3))
      go_ret
      exact ⟨rfl, TV.out.trans' (T2.out.trans' T3.out)⟩
end Go.Proofs.YtpefbmheblfbeaaGreat.Me
/- Contracts of how and see: how an entry is at the memo's time; no conditions but those that each states. -/
namespace Go.Proofs.YtpefbmheblfbeaaGreat.Me
open Go.RowKit Go.Sort Go.Maps Go.ChangeMaps Go.WideMaps
set_option maxRecDepth 100000
set_option linter.unusedVariables false
set_option linter.unusedSimpArgs false
def ebx (v : V) : Obj := .cells #[.int .i64 v.1.1, .int .i64 v.1.2.1, .int .i64 v.1.2.2.1, .int .i64 v.1.2.2.2, .int .i64 v.2] 147
end Go.Proofs.YtpefbmheblfbeaaGreat.Me
/- Contracts of see, Get and Look; no conditions but those that each states. -/
namespace Go.Proofs.YtpefbmheblfbeaaGreat.Me
open Go.RowKit Go.Sort Go.Maps Go.ChangeMaps Go.WideMaps
set_option maxRecDepth 100000
set_option linter.unusedVariables false
set_option linter.unusedSimpArgs false
theorem zero108 (w : World) : (zeroValue 147).run Tryz.prog w = .ok (.agg #[.int .i64 0, .int .i64 0, .int .i64 0, .int .i64 0, .int .i64 0]) w := by kernel_rfl
theorem Mb.look {w : World} {m b o : Nat} {G : List Nat} {c : Cf} {now : Int} {xs : List En} (h : Mb w m b o G c now xs) {k : K} (hk : Ok k) :
    (Instr.lookup 141 (.map (some b)) (kv k) true).run Tryz.prog w = .ok (.tuple #[((fnd xs k).map ev).getD (.agg #[.int .i64 0, .int .i64 0, .int .i64 0, .int .i64 0, .int .i64 0]), .bool (fnd xs k).isSome]) w := by
  have := h.mp.lookOk (t := 141) Tryz.underlying141 (zero108 w) hk
  unfold mpf at this
  simpa using this
theorem tset2 (w : World) (r : Nat) (v0 v1 : Value) : Touch [r] w ((w.setCell ⟨r, 0, none⟩ v0).setCell ⟨r, 1, none⟩ v1) := (((Touch.refl _ _).setCell (Or.inl (by simp)) _).setCell (Or.inl (by simp)) _)
theorem tset7 (w : World) (r : Nat) (v0 v1 v2 v3 v4 v5 v6 : Value) : Touch [r] w (((((((w.setCell ⟨r, 0, none⟩ v0).setCell ⟨r, 1, none⟩ v1).setCell ⟨r, 2, none⟩ v2).setCell ⟨r, 3, none⟩ v3).setCell ⟨r, 4, none⟩ v4).setCell ⟨r, 5, none⟩ v5).setCell ⟨r, 6, none⟩ v6) := ((((((((Touch.refl _ _).setCell (Or.inl (by simp)) _).setCell (Or.inl (by simp)) _).setCell (Or.inl (by simp)) _).setCell (Or.inl (by simp)) _).setCell (Or.inl (by simp)) _).setCell (Or.inl (by simp)) _).setCell (Or.inl (by simp)) _)
end Go.Proofs.YtpefbmheblfbeaaGreat.Me
/- Contracts of Get, Look and Tell; no conditions but those that each states. -/
namespace Go.Proofs.YtpefbmheblfbeaaGreat.Me
open Go.RowKit Go.Sort Go.Maps Go.ChangeMaps Go.WideMaps
set_option maxRecDepth 100000
set_option linter.unusedVariables false
set_option linter.unusedSimpArgs false
def nvz : Value := .agg #[.int .u16 0, .string ⟨#[]⟩, .int .i64 0, .int .i64 0, .int .i64 0, .int .i64 0, .int .i64 0]
def getS (xs : List En) (k : K) : Value × Bool := match fnd xs k with
  | none => (nvz, false)
  | some v => (nv (k, v), true)
set_option maxHeartbeats 2000000 in
theorem get24_no (w : World) (m b o : Nat) (G : List Nat) (c : Cf) (now : Int) (xs : List En) (h : Mb w m b o G c now xs) (k : K) (hk : Ok k) (hf : fnd xs k = none) :
    Calls Tryz.prog 90 #[PT m, kv k] w fun e w' => e = .returned (.tuple #[nvz, .bool false]) ∧ Touch [] w w' := by
  obtain ⟨V, hV⟩ : ∃ V, V = (w.alloc (bx k)).alloc (.cells #[.int .u16 0, .string ⟨#[]⟩, .int .i64 0, .int .i64 0, .int .i64 0, .int .i64 0, .int .i64 0] 60) := ⟨_, rfl⟩
  have TV : Hid (Touch [] w V) := by rw [hV]; exact ((Touch.refl _ _).alloc _).alloc _
  have hB : V.heap[w.heap.size]? = some (bx k) := by rw [hV]; exact (Below.heap_alloc _ _ _ (by simp)).trans (heap_alloc_new w _)
  have hZ : V.heap[w.heap.size + 1]? = some (.cells #[.int .u16 0, .string ⟨#[]⟩, .int .i64 0, .int .i64 0, .int .i64 0, .int .i64 0, .int .i64 0] 60 (0, 0)) := by
    rw [hV]
    have := heap_alloc_new (w.alloc (bx k)) (.cells #[.int .u16 0, .string ⟨#[]⟩, .int .i64 0, .int .i64 0, .int .i64 0, .int .i64 0, .int .i64 0] 60)
    rwa [World.size_alloc] at this
  have sA : ∀ w', Touch [] V w' → w'.cell? ⟨m, 8, none⟩ = some (.map (some b)) := fun w' t => (h.keep0 (TV.out.trans' t)).md.cs.c8
  have sB : ∀ w', Touch [] V w' → w'.cell? ⟨w.heap.size, 0, none⟩ = some (.int .u16 k.1) := fun w' t => by
    have := t.keep hB (by simp)
    unfold bx at this
    simp [World.cell?, this]
  have sC : ∀ w', Touch [] V w' → w'.cell? ⟨w.heap.size, 1, none⟩ = some (.string k.2) := fun w' t => by
    have := t.keep hB (by simp)
    unfold bx at this
    simp [World.cell?, this]
  have sL : ∀ w', Touch [] V w' → (Instr.lookup 141 (.map (some b)) (.agg #[.int .u16 k.1, .string k.2]) true).run Tryz.prog w' = .ok (.tuple #[.agg #[.int .i64 0, .int .i64 0, .int .i64 0, .int .i64 0, .int .i64 0], .bool false]) w' := fun w' t => by
    have := (h.keep0 (TV.out.trans' t)).look hk
    rw [hf] at this
    exact this
  obtain ⟨U, hU⟩ : ∃ U, U = (V.alloc (.cells #[.int .i64 0, .int .i64 0, .int .i64 0, .int .i64 0, .int .i64 0] 147)).drew := ⟨_, rfl⟩
  have TU : Touch [] V U := by rw [hU]; exact ((Touch.refl _ _).alloc _).drew
  have hE : U.heap[V.heap.size]? = some (.cells #[.int .i64 0, .int .i64 0, .int .i64 0, .int .i64 0, .int .i64 0] 147 (0, 0)) := by rw [hU]; exact heap_alloc_new V _
  have hZ' := TU.keep hZ (by simp)
  have hB' := TU.keep hB (by simp)
  unfold bx at hB'
  have z0 : U.cell? ⟨w.heap.size + 1, 0, none⟩ = some (.int .u16 0) := by simp [World.cell?, hZ']
  have z1 : U.cell? ⟨w.heap.size + 1, 1, none⟩ = some (.string ⟨#[]⟩) := by simp [World.cell?, hZ']
  have z2 : U.cell? ⟨w.heap.size + 1, 2, none⟩ = some (.int .i64 0) := by simp [World.cell?, hZ']
  have z3 : U.cell? ⟨w.heap.size + 1, 3, none⟩ = some (.int .i64 0) := by simp [World.cell?, hZ']
  have z4 : U.cell? ⟨w.heap.size + 1, 4, none⟩ = some (.int .i64 0) := by simp [World.cell?, hZ']
  have z5 : U.cell? ⟨w.heap.size + 1, 5, none⟩ = some (.int .i64 0) := by simp [World.cell?, hZ']
  have z6 : U.cell? ⟨w.heap.size + 1, 6, none⟩ = some (.int .i64 0) := by simp [World.cell?, hZ']
  have e0 : U.cell? ⟨V.heap.size, 0, none⟩ = some (.int .i64 0) := by simp [World.cell?, hE]
  have e1 : U.cell? ⟨V.heap.size, 1, none⟩ = some (.int .i64 0) := by simp [World.cell?, hE]
  have e2 : U.cell? ⟨V.heap.size, 2, none⟩ = some (.int .i64 0) := by simp [World.cell?, hE]
  have e3 : U.cell? ⟨V.heap.size, 3, none⟩ = some (.int .i64 0) := by simp [World.cell?, hE]
  have e4 : U.cell? ⟨V.heap.size, 4, none⟩ = some (.int .i64 0) := by simp [World.cell?, hE]
  have b0 : U.cell? ⟨w.heap.size, 0, none⟩ = some (.int .u16 k.1) := by simp [World.cell?, hB']
  have b1 : U.cell? ⟨w.heap.size, 1, none⟩ = some (.string k.2) := by simp [World.cell?, hB']
  have zf : ∀ i, U.frozen? ⟨w.heap.size + 1, i, none⟩ = false := fun i => by simp [World.frozen?, hZ']
  have TW := hid (TV.out.trans' TU)
  clear h hB hZ hZ' TU hE hB'
  unfold PT kv nvz
  go_enter Tryz.func90, Tryz.ntmps90
  go_wp2
  unfold bx at hV
  rw [← hV]
  clear hV hf hk
  have t0 : Touch [] V V.drew := (Touch.refl _ _).drew
  go_region_held3 (fun w' => Touch [] V w') (repeat (first | assumption | exact Touch.refl _ _ | apply Touch.alloc | apply Touch.drew | (refine Touch.setCell ?_ (Or.inr (by simp)) _))) (fail)
  all_goals
    clear sA sB sC sL t0
    rw [← hU]
    clear hU
    go_wp2
    refine bodyPost_ret (v := .tuple #[.agg #[.int .u16 0, .string ⟨#[]⟩, .int .i64 0, .int .i64 0, .int .i64 0, .int .i64 0, .int .i64 0], .bool false]) (by simp [results, Tryz.results90, go_sem, z0, z1, z2, z3, z4, z5, z6]) rfl ⟨rfl, ?_⟩
    refine TW.out.trans (G := [w.heap.size + 1]) ?_ (fun i hi => by simp only [List.mem_singleton] at hi; subst hi; exact Or.inr (Nat.le_succ _))
    exact tset7 _ _ _ _ _ _ _ _ _
set_option maxHeartbeats 2000000 in
theorem get24_yes (w : World) (m b o : Nat) (G : List Nat) (c : Cf) (now : Int) (xs : List En) (h : Mb w m b o G c now xs) (k : K) (hk : Ok k) (v : V) (hf : fnd xs k = some v) :
    Calls Tryz.prog 90 #[PT m, kv k] w fun e w' => e = .returned (.tuple #[nv (k, v), .bool true]) ∧ Touch [] w w' := by
  obtain ⟨V, hV⟩ : ∃ V, V = (w.alloc (bx k)).alloc (.cells #[.int .u16 0, .string ⟨#[]⟩, .int .i64 0, .int .i64 0, .int .i64 0, .int .i64 0, .int .i64 0] 60) := ⟨_, rfl⟩
  have TV : Hid (Touch [] w V) := by rw [hV]; exact ((Touch.refl _ _).alloc _).alloc _
  have hB : V.heap[w.heap.size]? = some (bx k) := by rw [hV]; exact (Below.heap_alloc _ _ _ (by simp)).trans (heap_alloc_new w _)
  have hZ : V.heap[w.heap.size + 1]? = some (.cells #[.int .u16 0, .string ⟨#[]⟩, .int .i64 0, .int .i64 0, .int .i64 0, .int .i64 0, .int .i64 0] 60 (0, 0)) := by
    rw [hV]
    have := heap_alloc_new (w.alloc (bx k)) (.cells #[.int .u16 0, .string ⟨#[]⟩, .int .i64 0, .int .i64 0, .int .i64 0, .int .i64 0, .int .i64 0] 60)
    rwa [World.size_alloc] at this
  have sA : ∀ w', Touch [] V w' → w'.cell? ⟨m, 8, none⟩ = some (.map (some b)) := fun w' t => (h.keep0 (TV.out.trans' t)).md.cs.c8
  have sB : ∀ w', Touch [] V w' → w'.cell? ⟨w.heap.size, 0, none⟩ = some (.int .u16 k.1) := fun w' t => by
    have := t.keep hB (by simp)
    unfold bx at this
    simp [World.cell?, this]
  have sC : ∀ w', Touch [] V w' → w'.cell? ⟨w.heap.size, 1, none⟩ = some (.string k.2) := fun w' t => by
    have := t.keep hB (by simp)
    unfold bx at this
    simp [World.cell?, this]
  have sL : ∀ w', Touch [] V w' → (Instr.lookup 141 (.map (some b)) (.agg #[.int .u16 k.1, .string k.2]) true).run Tryz.prog w' = .ok (.tuple #[.agg #[.int .i64 v.1.1, .int .i64 v.1.2.1, .int .i64 v.1.2.2.1, .int .i64 v.1.2.2.2, .int .i64 v.2], .bool true]) w' := fun w' t => by
    have := (h.keep0 (TV.out.trans' t)).look hk
    rw [hf] at this
    exact this
  obtain ⟨U, hU⟩ : ∃ U, U = (V.alloc (.cells #[.int .i64 v.1.1, .int .i64 v.1.2.1, .int .i64 v.1.2.2.1, .int .i64 v.1.2.2.2, .int .i64 v.2] 147)).drew := ⟨_, rfl⟩
  have TU : Touch [] V U := by rw [hU]; exact ((Touch.refl _ _).alloc _).drew
  have hE : U.heap[V.heap.size]? = some (.cells #[.int .i64 v.1.1, .int .i64 v.1.2.1, .int .i64 v.1.2.2.1, .int .i64 v.1.2.2.2, .int .i64 v.2] 147 (0, 0)) := by rw [hU]; exact heap_alloc_new V _
  have hZ' := TU.keep hZ (by simp)
  have hB' := TU.keep hB (by simp)
  unfold bx at hB'
  have z0 : U.cell? ⟨w.heap.size + 1, 0, none⟩ = some (.int .u16 0) := by simp [World.cell?, hZ']
  have z1 : U.cell? ⟨w.heap.size + 1, 1, none⟩ = some (.string ⟨#[]⟩) := by simp [World.cell?, hZ']
  have z2 : U.cell? ⟨w.heap.size + 1, 2, none⟩ = some (.int .i64 0) := by simp [World.cell?, hZ']
  have z3 : U.cell? ⟨w.heap.size + 1, 3, none⟩ = some (.int .i64 0) := by simp [World.cell?, hZ']
  have z4 : U.cell? ⟨w.heap.size + 1, 4, none⟩ = some (.int .i64 0) := by simp [World.cell?, hZ']
  have z5 : U.cell? ⟨w.heap.size + 1, 5, none⟩ = some (.int .i64 0) := by simp [World.cell?, hZ']
  have z6 : U.cell? ⟨w.heap.size + 1, 6, none⟩ = some (.int .i64 0) := by simp [World.cell?, hZ']
  have e0 : U.cell? ⟨V.heap.size, 0, none⟩ = some (.int .i64 v.1.1) := by simp [World.cell?, hE]
  have e1 : U.cell? ⟨V.heap.size, 1, none⟩ = some (.int .i64 v.1.2.1) := by simp [World.cell?, hE]
  have e2 : U.cell? ⟨V.heap.size, 2, none⟩ = some (.int .i64 v.1.2.2.1) := by simp [World.cell?, hE]
  have e3 : U.cell? ⟨V.heap.size, 3, none⟩ = some (.int .i64 v.1.2.2.2) := by simp [World.cell?, hE]
  have e4 : U.cell? ⟨V.heap.size, 4, none⟩ = some (.int .i64 v.2) := by simp [World.cell?, hE]
  have b0 : U.cell? ⟨w.heap.size, 0, none⟩ = some (.int .u16 k.1) := by simp [World.cell?, hB']
  have b1 : U.cell? ⟨w.heap.size, 1, none⟩ = some (.string k.2) := by simp [World.cell?, hB']
  have zf : ∀ i, U.frozen? ⟨w.heap.size + 1, i, none⟩ = false := fun i => by simp [World.frozen?, hZ']
  have TW := hid (TV.out.trans' TU)
  clear h hB hZ hZ' TU hE hB'
  unfold PT kv nv
  go_enter Tryz.func90, Tryz.ntmps90
  go_wp2
  unfold bx at hV
  rw [← hV]
  clear hV hf hk
  have t0 : Touch [] V V.drew := (Touch.refl _ _).drew
  go_region_held3 (fun w' => Touch [] V w') (repeat (first | assumption | exact Touch.refl _ _ | apply Touch.alloc | apply Touch.drew | (refine Touch.setCell ?_ (Or.inr (by simp)) _))) (fail)
  all_goals
    clear sA sB sC sL t0
    rw [← hU]
    clear hU
    go_wp2
    refine bodyPost_ret (v := .tuple #[.agg #[.int .u16 k.1, .string k.2, .int .i64 v.1.1, .int .i64 v.1.2.1, .int .i64 v.1.2.2.1, .int .i64 v.1.2.2.2, .int .i64 v.2], .bool true]) (by simp [results, Tryz.results90, go_sem, z0, z1, z2, z3, z4, z5, z6]) rfl ⟨rfl, ?_⟩
    refine TW.out.trans (G := [w.heap.size + 1]) ?_ (fun i hi => by simp only [List.mem_singleton] at hi; subst hi; exact Or.inr (Nat.le_succ _))
    exact tset7 _ _ _ _ _ _ _ _ _
theorem getM (w : World) (m : Nat) (F : List Nat) (c : Cf) (now : Int) (xs : List En) (h : Mq w m F c now xs) (k : K) (hk : Ok k) :
    Calls Tryz.prog 90 #[PT m, kv k] w fun e w' => e = .returned (.tuple #[(getS xs k).1, .bool (getS xs k).2]) ∧ Touch [] w w' := by
  obtain ⟨b, o, G, rfl, h⟩ := h
  unfold getS
  cases hf : fnd xs k with
  | none => exact get24_no w m b o G c now xs h k hk hf
  | some v => exact get24_yes w m b o G c now xs h k hk v hf
end Go.Proofs.YtpefbmheblfbeaaGreat.Me
/- The contract of Look; a key's space is a number of 16 bits, a name's length fits. -/
namespace Go.Proofs.YtpefbmheblfbeaaGreat.Me
open Go.RowKit Go.Sort Go.Maps Go.ChangeMaps Go.WideMaps
set_option maxRecDepth 100000
set_option linter.unusedVariables false
set_option linter.unusedSimpArgs false
theorem tickE_ok {now n : Int} (h : tickE now n = 0) : now ≤ n ∧ n ≤ MT := by
  unfold tickE isT at h
  unfold MT
  split at h
  · rename_i h1
    simp only [Bool.and_eq_true, decide_eq_true_eq] at h1
    split at h <;> omega
  · omega
theorem Mb.time {w : World} {m b o : Nat} {G : List Nat} {c : Cf} {now n : Int} {xs : List En} (h : Mb w m b o G c now xs) (h1 : now ≤ n) (h2 : n ≤ MT) : Mb (w.setCell ⟨m, 7, none⟩ (.int .i64 n)) m b o G c n xs := by
  have t : Touch [m] w (w.setCell ⟨m, 7, none⟩ (.int .i64 n)) := (Touch.refl _ _).setCell (Or.inl (by simp)) _
  refine ⟨h.md.set7 n, h.mp.kept (t.block b h.mp.lt (by simpa using h.mb)), h.oq.keep t (fun k hk hh => ?_), h.gd.later h1 h2, h.bg⟩
  simp only [List.mem_singleton] at hh
  subst hh
  exact h.mg hk
theorem Mq.time {w : World} {m : Nat} {F : List Nat} {c : Cf} {now n : Int} {xs : List En} (h : Mq w m F c now xs) (h1 : now ≤ n) (h2 : n ≤ MT) : Mc w m F c n xs (w.setCell ⟨m, 7, none⟩ (.int .i64 n)) := by
  obtain ⟨b, o, G, rfl, h⟩ := h
  exact ⟨_, ⟨b, o, G, rfl, h.time h1 h2⟩, (Touch.refl _ _).setCell (Or.inl (by simp)) _, Nf.refl _ _⟩
theorem Mq.mem {w : World} {m : Nat} {F : List Nat} {c : Cf} {now : Int} {xs : List En} (h : Mq w m F c now xs) : m ∈ F := by
  obtain ⟨b, o, G, rfl, h⟩ := h
  simp
theorem Mq.tick {w : World} {m : Nat} {F : List Nat} {c : Cf} {now : Int} {xs : List En} (h : Mq w m F c now xs) (n : Int) : Calls Tryz.prog 73 #[PT m, .int .i64 n] w fun e w' => e = .returned (.int .i64 (tickE now n)) ∧ w' = w := by
  obtain ⟨b, o, G, rfl, h⟩ := h
  exact tick45 w m c now n b o h.md
theorem Mq.c7 {w : World} {m : Nat} {F : List Nat} {c : Cf} {now : Int} {xs : List En} (h : Mq w m F c now xs) : w.cell? ⟨m, 7, none⟩ = some (.int .i64 now) ∧ w.frozen? ⟨m, 7, none⟩ = false := by
  obtain ⟨b, o, G, rfl, h⟩ := h
  exact ⟨h.md.cs.c7, h.md.cs.f7⟩
end Go.Proofs.YtpefbmheblfbeaaGreat.Me
/- The contract of put; a key's name has at most 64 bytes. -/
namespace Go.Proofs.YtpefbmheblfbeaaGreat.Me
open Go.RowKit Go.Sort Go.Maps Go.ChangeMaps Go.WideMaps
set_option maxRecDepth 100000
set_option linter.unusedVariables false
set_option linter.unusedSimpArgs false
def RT (t : Nat) (w : World) (v : Value) (xs : List K) : Prop := w.ownsRow 0 t 2 v xs.length (cellsK xs)
theorem RT.nil (t : Nat) (w : World) : RT t w (.slice none 0 0) [] := World.ownsRow_nil _ _ _ _
theorem RT.one {t : Nat} {w : World} {g : Nat} {x : K} (h : w.heap[g]? = some (.cells #[.int .u16 x.1, .string x.2] t (0, 0))) : RT t w (.slice (some ⟨g, 0, none⟩) 1 1) [x] :=
  ⟨rfl, Or.inr ⟨g, 1, #[.int .u16 x.1, .string x.2], rfl, Nat.zero_le _, h, Nat.le_refl _, by unfold maxLen; decide, rfl, rfl⟩⟩
def goneL (e : Int) (xs : List En) (k : K) : List K := if useB e (keysL xs) k then [useG e (keysL xs) k] else []
structure Pm (w : World) (m b o : Nat) (G : List Nat) (c : Cf) (now : Int) (xs : List En) (k : K) (v : V) (W : World) : Prop where
  md : Md W m c now b o
  mp : MapAt W b (if (mpf xs k).isSome then xs.length else xs.length + 1) (upd (mpf xs) k (ev v))
  oq : ∃ G', Oq W o G' c.e (useL c.e (keysL xs) k) ∧ ¬ b ∈ G' ∧ Nf w G G'
  t : Touch (m :: b :: G) w W
theorem dr_len_mem {xs : List K} {k : K} (hn : xs.Nodup) (h : k ∈ xs) : (dr xs k).length + 1 = xs.length := by
  obtain ⟨A, B, rfl⟩ := List.append_of_mem h
  rw [List.nodup_append, List.nodup_cons] at hn
  rw [dr_mid (fun x hx e => hn.2.2 x hx k (by simp) e) (fun x hx e => hn.2.1.1 (e ▸ hx))]
  simp only [List.length_append, List.length_cons]
  omega
theorem putY_len {xs : List En} (hn : (keysL xs).Nodup) (k : K) (v : V) : (putY xs k v).length = if (mpf xs k).isSome then xs.length else xs.length + 1 := by
  unfold putY mpf
  simp only [List.length_append, List.length_singleton, Option.isSome_map]
  rw [fnd_isSome]
  by_cases h : k ∈ keysL xs
  · rw [hs_yes h, if_pos rfl]
    have h1 := dr_len_mem hn h
    rw [← drx_keys, keysL_len, keysL_len] at h1
    exact h1
  · rw [hs_no h]
    simp only [Bool.false_eq_true, if_false]
    have h1 := congrArg List.length (dr_no h)
    rw [← drx_keys, keysL_len, keysL_len] at h1
    omega
theorem upd_mpf (xs : List En) (k : K) (v : V) : upd (mpf xs) k (ev v) = mpf (putY xs k v) := by
  funext j
  unfold upd mpf
  rw [fnd_putY]
  split <;> rfl
section
variable {w W : World} {m b o : Nat} {G : List Nat} {c : Cf} {now : Int} {xs : List En} {k : K} {v : V}
theorem Pm.end1 (h : Pm w m b o G c now xs k v W) (hn : (keysL xs).Nodup) (hg : Gd c now xs) (hv : right v.1 = true ∧ 0 ≤ v.2 ∧ v.2 ≤ now) (hb : useB c.e (keysL xs) k = false) : Mc w m (m :: b :: G) c now (putL c.e xs k v) W := by
  obtain ⟨md, mp, ⟨G', o1, o2, o3⟩, t⟩ := h
  have e : putL c.e xs k v = putY xs k v := by unfold putL; rw [hb]; rfl
  refine ⟨m :: b :: G', ⟨b, o, G', rfl, md, ?_, ?_, hg.put k v hv, o2⟩, t, fun i hi => ?_⟩
  · rw [e, putY_len hn, ← upd_mpf]
    exact mp
  · rw [putL_keys]
    exact o1
  · simp only [List.mem_cons] at hi ⊢
    rcases hi with rfl | rfl | hi
    · exact Or.inl (Or.inl rfl)
    · exact Or.inl (Or.inr (Or.inl rfl))
    · exact (o3 i hi).elim (fun e => Or.inl (Or.inr (Or.inr e))) Or.inr
theorem Pm.end2 (h : Pm w m b o G c now xs k v W) (hn : (keysL xs).Nodup) (hok : ∀ k ∈ keysL xs, Ok k) (hk : Ok k) (hg : Gd c now xs) (hv : right v.1 = true ∧ 0 ≤ v.2 ∧ v.2 ≤ now) (hb : useB c.e (keysL xs) k = true) (ty : TypeId) :
    ∃ ob, (Builtin.delete_ #[141, 54] ty #[.map (some b), kv (useG c.e (keysL xs) k)]).run Tryz.prog W.drew = .ok (.tuple #[]) (setBlock W.drew b ob) ∧ Mc w m (m :: b :: G) c now (putL c.e xs k v) (setBlock W.drew b ob) := by
  obtain ⟨md, mp, ⟨G', o1, o2, o3⟩, t⟩ := h
  obtain ⟨g, zs, hy⟩ : ∃ g zs, putY xs k v = g :: zs := by
    cases e : putY xs k v with
    | nil => simp [putY] at e
    | cons g zs => exact ⟨g, zs, rfl⟩
  have eG : useG c.e (keysL xs) k = g.1 := by
    unfold useG
    rw [if_pos hb, ← putY_keys xs k v, hy]
    rfl
  have e : putL c.e xs k v = zs := by unfold putL; rw [hb, hy]; rfl
  have hmem : ∀ x ∈ keysL (putY xs k v), Ok x := fun x hx => by
    obtain ⟨y, hy1, rfl⟩ := List.mem_map.1 hx
    rcases mem_putY hy1 with e | e
    · exact hok _ (List.mem_map_of_mem e)
    · rw [e]; exact hk
  have hnd : (keysL (putY xs k v)).Nodup := by
    rw [putY_keys]
    unfold useY dr
    rw [List.nodup_append]
    refine ⟨hn.filter _, by simp, fun a ha b hb e => ?_⟩
    simp only [List.mem_singleton] at hb
    have := (List.mem_filter.1 ha).2
    simp only [ne_eq, decide_eq_true_eq] at this
    exact this (e.trans hb)
  rw [hy] at hnd hmem
  simp only [keysL, List.map_cons, List.nodup_cons] at hnd
  rw [upd_mpf, ← putY_len hn k v, hy] at mp
  rw [eG]
  obtain ⟨ob, hu, hs⟩ := (show MapAt W.drew b _ _ from mp.kept rfl).del (t := 141) Tryz.underlying141 (hmem g.1 (by simp [keysL])) ty
  refine ⟨ob, hu, m :: b :: G', ⟨b, o, G', rfl, ?_, ?_, ?_, hg.put k v hv, o2⟩, ?_, fun i hi => ?_⟩
  · have hne : m ≠ b := fun e => by
      have := mp.ne_block md
      exact this e.symm
    unfold Md
    rw [setBlock_other _ _ _ hne]
    exact md
  · rw [e]
    have h1 : (mpf (g :: zs) g.1).isSome = true := by simp [mpf, fnd]
    rw [h1, if_pos rfl] at hs
    simp only [List.length_cons, Nat.add_sub_cancel] at hs
    refine hs.congr (fun j _ => ?_)
    unfold YtpefbmheblfbeaaGreat.Me.del mpf
    rw [fnd_tail hnd.1 j]
    split <;> rfl
  · rw [putL_keys]
    have t2 : Touch [b] W (setBlock W.drew b ob) := touch_setBlock ((Touch.refl _ _).drew) (Or.inl (by simp)) _
    exact o1.keep t2 (fun i hi hh => by simp only [List.mem_singleton] at hh; subst hh; exact o2 hi)
  · exact t.trans' (touch_setBlock ((Touch.refl _ _).drew) (Or.inl (by simp)) _)
  · simp only [List.mem_cons] at hi ⊢
    rcases hi with rfl | rfl | hi
    · exact Or.inl (Or.inl rfl)
    · exact Or.inl (Or.inr (Or.inl rfl))
    · exact (o3 i hi).elim (fun e => Or.inl (Or.inr (Or.inr e))) Or.inr
theorem put_mid {V W1 w2 w3 W : World} (h : Mb w m b o G c now xs) (TV : Touch [] w V) {ob : Obj} (hW : W1 = setBlock V.drew b ob) (hm : MapAt W1 b (if (mpf xs k).isSome then xs.length else xs.length + 1) (upd (mpf xs) k (ev v)))
    (t2 : Touch [] W1 w2) (c3 : Ch w2 o G c.e (useL c.e (keysL xs) k) w3) (t4 : Touch [] w3 W ∨ ∃ q, Touch [q] w3 W ∧ W1.heap.size ≤ q ∧ q < w2.heap.size) : Pm w m b o G c now xs k v W := by
  have T1 : Touch [b] w W1 := by rw [hW]; exact touch_setBlock ((TV.drew).mono (fun _ e => by cases e)) (Or.inl (by simp)) _
  have m1 : Md W1 m c now b o := T1.keep h.md (by simpa using h.mb.symm)
  obtain ⟨G', c1, c2, c4⟩ := c3
  have hlt := h.lt
  have hz1 : w.heap.size ≤ W1.heap.size := T1.size
  have m3 : Md w3 m c now b o := c2.keep (t2.keep m1 (by simp)) h.mg
  have p3 : MapAt w3 b _ _ := (hm.kept (t2.block b hm.lt (by simp))).kept (c2.block b (Nat.lt_of_lt_of_le hm.lt t2.size) h.bg)
  have bG : ¬ b ∈ G' := fun hh => (c4 b hh).elim h.bg (fun e => by have := hlt b (by simp); have := t2.size; omega)
  have nf : Nf w G G' := fun i hi => (c4 i hi).elim Or.inl (fun e => Or.inr (by have := t2.size; omega))
  have T3 : Touch (m :: b :: G) w w3 := ((T1.mono (fun i hi => by simp only [List.mem_singleton] at hi; subst hi; simp)).trans' (t2.mono (fun _ e => by cases e))).trans' (c2.mono (fun i hi => by simp [hi]))
  rcases t4 with t4 | ⟨q, t4, q1, q2⟩
  · exact ⟨t4.keep m3 (by simp), p3.kept (t4.block b p3.lt (by simp)), ⟨G', c1.keep0 t4, bG, nf⟩, T3.trans' (t4.mono (fun _ e => by cases e))⟩
  · have hq : ∀ i, i ∈ m :: b :: G → i ≠ q := fun i hi => by have := hlt i hi; omega
    refine ⟨t4.keep m3 (by simpa using hq m (by simp)), p3.kept (t4.block b p3.lt (by simpa using hq b (by simp))), ⟨G', c1.keep t4 (fun i hi hh => ?_), bG, nf⟩, T3.trans t4 (fun i hi => by simp only [List.mem_singleton] at hi; subst hi; exact Or.inr (by omega))⟩
    simp only [List.mem_singleton] at hh
    subst hh
    rcases c4 i hi with e | e
    · exact hq i (by simp [e]) rfl
    · omega
end
end Go.Proofs.YtpefbmheblfbeaaGreat.Me
/- The walk of put; a key's name has at most 64 bytes. -/
namespace Go.Proofs.YtpefbmheblfbeaaGreat.Me
open Go.RowKit Go.Sort Go.Maps Go.ChangeMaps Go.WideMaps
set_option maxRecDepth 100000
set_option linter.unusedVariables false
set_option linter.unusedSimpArgs false
set_option maxHeartbeats 4000000 in
theorem put41_no (w : World) (m b o : Nat) (G : List Nat) (c : Cf) (now : Int) (xs : List En) (h : Mb w m b o G c now xs) (k : K) (hk : Ok k) (h64 : k.2.size ≤ 64) (v : V) (hv : right v.1 = true ∧ 0 ≤ v.2 ∧ v.2 ≤ now) (hb : useB c.e (keysL xs) k = false) :
    Calls Tryz.prog 76 #[PT m, kv k, ev v] w fun e w' => ∃ u, e = .returned u ∧ RT 54 w' u (goneL c.e xs k) ∧ Mc w m (m :: b :: G) c now (putL c.e xs k v) w' := by
  obtain ⟨V, hV⟩ : ∃ V, V = (w.alloc (bx k)).alloc (ebx v) := ⟨_, rfl⟩
  have TV : Touch [] w V := by rw [hV]; exact ((Touch.refl _ _).alloc _).alloc _
  have hB : V.heap[w.heap.size]? = some (bx k) := by rw [hV]; exact (Below.heap_alloc _ _ _ (by simp)).trans (heap_alloc_new w _)
  have hE : V.heap[w.heap.size + 1]? = some (ebx v) := by
    rw [hV]
    have := heap_alloc_new (w.alloc (bx k)) (ebx v)
    rwa [World.size_alloc] at this
  have hV' := h.keep0 TV
  obtain ⟨ob, hu, hmp⟩ := (show MapAt V.drew b _ _ from hV'.mp.kept rfl).set (t := 141) Tryz.underlying141 (maxLen_big (by have := h.len; omega)) hk (ev v)
  obtain ⟨W1, hW⟩ : ∃ W1, W1 = setBlock V.drew b ob := ⟨_, rfl⟩
  rw [← hW] at hu hmp
  have T1 : Touch [b] V W1 := by rw [hW]; exact touch_setBlock ((Touch.refl _ _).drew) (Or.inl (by simp)) _
  have hlt := h.lt
  have hbl := hlt b (by simp)
  have O1 : Oq W1 o G c.e (keysL xs) := hV'.oq.keep T1 (fun i hi hh => by simp only [List.mem_singleton] at hh; subst hh; exact h.bg hi)
  have m1 : Md W1 m c now b o := T1.keep hV'.md (by simpa using h.mb.symm)
  have B1 : W1.heap[w.heap.size]? = some (bx k) := T1.keep hB (by simp; omega)
  have hz1 : w.heap.size + 2 ≤ W1.heap.size := by have := T1.size; have := block_lt hE; omega
  have sA : ∀ w', Touch G W1 w' → w'.cell? ⟨m, 9, none⟩ = some (.pointer (some ⟨o, 0, none⟩)) := fun w' t => (show Md w' m c now b o from t.keep m1 h.mg).cs.c9
  have sB : ∀ w', Touch G W1 w' → w'.cell? ⟨w.heap.size, 0, none⟩ = some (.int .u16 k.1) := fun w' t => by
    have := t.keep B1 (fun hh => by have := hlt w.heap.size (by simp [hh]); omega)
    unfold bx at this
    simp [World.cell?, this]
  have sC : ∀ w', Touch G W1 w' → w'.cell? ⟨w.heap.size, 1, none⟩ = some (.string k.2) := fun w' t => by
    have := t.keep B1 (fun hh => by have := hlt w.heap.size (by simp [hh]); omega)
    unfold bx at this
    simp [World.cell?, this]
  have HU : Hid (∀ w2, Touch [] W1 w2 → Calls Tryz.prog 115 #[PT o, kv k] w2 fun e w' => e = .returned (.tuple #[kv (useG c.e (keysL xs) k), .bool false, .int .i64 0]) ∧ Ch w2 o G c.e (useL c.e (keysL xs) k) w') := fun w2 t => by
    have := useO w2 o G c.e (keysL xs) k hk h64 (by rw [keysL_len]; have := h.len; omega) (O1.keep0 t)
    rw [hb] at this
    exact this
  have HP : Hid (∀ w2 w3 W, Touch [] W1 w2 → Ch w2 o G c.e (useL c.e (keysL xs) k) w3 → (Touch [] w3 W ∨ ∃ q, Touch [q] w3 W ∧ W1.heap.size ≤ q ∧ q < w2.heap.size) → Pm w m b o G c now xs k v W) := fun w2 w3 W t2 c3 t4 => put_mid h TV hW hmp t2 c3 t4
  have HQ : Hid (∀ w2 w3, w2.heap[W1.heap.size]? = some (bx kz) → Ch w2 o G c.e (useL c.e (keysL xs) k) w3 → w3.heap[W1.heap.size]? = some (bx kz)) := fun w2 w3 q c3 => c3.block q (fun hh => by have := hlt W1.heap.size (by simp [hh]); omega)
  have c8 : V.cell? ⟨m, 8, none⟩ = some (.map (some b)) := hV'.md.cs.c8
  unfold bx at hB
  unfold ebx at hE
  have b0 : V.cell? ⟨w.heap.size, 0, none⟩ = some (.int .u16 k.1) := by simp [World.cell?, hB]
  have b1 : V.cell? ⟨w.heap.size, 1, none⟩ = some (.string k.2) := by simp [World.cell?, hB]
  have e0 : V.cell? ⟨w.heap.size + 1, 0, none⟩ = some (.int .i64 v.1.1) := by simp [World.cell?, hE]
  have e1 : V.cell? ⟨w.heap.size + 1, 1, none⟩ = some (.int .i64 v.1.2.1) := by simp [World.cell?, hE]
  have e2 : V.cell? ⟨w.heap.size + 1, 2, none⟩ = some (.int .i64 v.1.2.2.1) := by simp [World.cell?, hE]
  have e3 : V.cell? ⟨w.heap.size + 1, 3, none⟩ = some (.int .i64 v.1.2.2.2) := by simp [World.cell?, hE]
  have e4 : V.cell? ⟨w.heap.size + 1, 4, none⟩ = some (.int .i64 v.2) := by simp [World.cell?, hE]
  have tA : Hid (Touch [] W1 (W1.alloc (bx kz)).drew) := ((Touch.refl _ _).alloc _).drew
  have qA : Hid ((W1.alloc (bx kz)).drew.heap[W1.heap.size]? = some (bx kz)) := heap_alloc_new W1 _
  have tB : Hid (Touch [] W1 W1.drew) := (Touch.refl _ _).drew
  have SA : Hid (∀ w2 w3, Touch [] W1 w2 → Ch w2 o G c.e (useL c.e (keysL xs) k) w3 → Touch G W1 w3) := fun w2 w3 t c3 => by
    obtain ⟨G', c1, c2, c4⟩ := c3
    exact (t.mono (fun _ e => by cases e)).trans' c2
  have HEnd : Hid (∀ W, Pm w m b o G c now xs k v W → Mc w m (m :: b :: G) c now (putL c.e xs k v) W) := fun W p => p.end1 h.nd h.gd hv hb
  have hgo : goneL c.e xs k = [] := by unfold goneL; rw [hb]; rfl
  rw [hgo]
  have hbb : b < W1.heap.size := by omega
  clear h hV' hmp T1 O1 m1 B1 hB hE hW hv hk h64 hb hgo TV
  generalize useG c.e (keysL xs) k = g at *
  generalize useL c.e (keysL xs) k = ys at *
  generalize putL c.e xs k v = zs at *
  unfold PT kv ev at *
  unfold bx at HQ tA qA
  unfold kz at HQ tA qA
  go_enter Tryz.func76, Tryz.ntmps76
  go_wp2
  unfold bx ebx at hV
  rw [← hV]
  clear hV
  go_region
  clear b0 b1 e0 e1 e2 e3 e4 c8 hu
  go_upto_region 2 with fail
  go_region_held3 (fun w' => Touch G W1 w') (repeat (first | assumption | exact Touch.refl _ _ | apply Touch.alloc | apply Touch.drew | (refine Touch.setCell ?_ (Or.inr (by simp)) _)))
    (first
      | (go_at_call 115; refine (HU.out _ tA.out).mono ?_; rintro e w3 ⟨rfl, c3⟩; have s3 := SA.out _ _ tA.out c3; have hq := HQ.out _ _ qA.out c3; have y0 : w3.cell? ⟨W1.heap.size, 0, none⟩ = some (.int .u16 0) := (by simp [World.cell?, hq]); have y1 : w3.cell? ⟨W1.heap.size, 1, none⟩ = some (.string ⟨#[]⟩) := (by simp [World.cell?, hq]); have y2 : w3.frozen? ⟨W1.heap.size, 0, none⟩ = false := (by simp [World.frozen?, hq]); have y3 : w3.frozen? ⟨W1.heap.size, 1, none⟩ = false := (by simp [World.frozen?, hq]); have C3 := hid c3; clear c3)
      | (go_at_call 115; refine (HU.out _ tB.out).mono ?_; rintro e w3 ⟨rfl, c3⟩; have s3 := SA.out _ _ tB.out c3; have C3 := hid c3; clear c3))
  · clear sA sB sC
    obtain ⟨W, hWd⟩ : ∃ W, W = w3.alloc (.cells #[.int .u16 g.1, .string g.2] 54) := ⟨_, rfl⟩
    have P := hid (HP.out _ _ W tB.out C3.out (Or.inl (by rw [hWd]; exact (Touch.refl _ _).alloc _)))
    have hqq : W.heap[w3.heap.size]? = some (.cells #[.int .u16 g.1, .string g.2] 54 (0, 0)) := by rw [hWd]; exact heap_alloc_new w3 _
    have hqb : w3.heap.size ≠ b := by have := s3.size; omega
    rw [← hWd]
    clear hWd s3
    generalize w3.heap.size = q at *
    go_wp2
    go_ret
    exact ⟨_, rfl, RT.nil _ _, HEnd.out _ P.out⟩
  · clear sA sB sC
    obtain ⟨W, hWd⟩ : ∃ W, W = (w3.setCell ⟨W1.heap.size, 0, none⟩ (.int .u16 g.1)).setCell ⟨W1.heap.size, 1, none⟩ (.string g.2) := ⟨_, rfl⟩
    have P := hid (HP.out _ _ W tA.out C3.out (Or.inr ⟨W1.heap.size, by rw [hWd]; exact tset2 _ _ _ _, Nat.le_refl _, block_lt qA.out⟩))
    have hqq : W.heap[W1.heap.size]? = some (.cells #[.int .u16 g.1, .string g.2] 54 (0, 0)) := by rw [hWd]; exact bset (bset hq _) _
    have hqb : W1.heap.size ≠ b := by omega
    rw [← hWd]
    clear hWd s3 y0 y1 y2 y3 hq
    clear tA qA HQ tB SA HU HP C3
    generalize W1.heap.size = q at *
    go_wp2
    go_ret
    exact ⟨_, rfl, RT.nil _ _, HEnd.out _ P.out⟩
set_option maxHeartbeats 4000000 in
theorem put41_go (w : World) (m b o : Nat) (G : List Nat) (c : Cf) (now : Int) (xs : List En) (h : Mb w m b o G c now xs) (k : K) (hk : Ok k) (h64 : k.2.size ≤ 64) (v : V) (hv : right v.1 = true ∧ 0 ≤ v.2 ∧ v.2 ≤ now) (hb : useB c.e (keysL xs) k = true) :
    Calls Tryz.prog 76 #[PT m, kv k, ev v] w fun e w' => ∃ u, e = .returned u ∧ RT 54 w' u (goneL c.e xs k) ∧ Mc w m (m :: b :: G) c now (putL c.e xs k v) w' := by
  obtain ⟨V, hV⟩ : ∃ V, V = (w.alloc (bx k)).alloc (ebx v) := ⟨_, rfl⟩
  have TV : Touch [] w V := by rw [hV]; exact ((Touch.refl _ _).alloc _).alloc _
  have hB : V.heap[w.heap.size]? = some (bx k) := by rw [hV]; exact (Below.heap_alloc _ _ _ (by simp)).trans (heap_alloc_new w _)
  have hE : V.heap[w.heap.size + 1]? = some (ebx v) := by
    rw [hV]
    have := heap_alloc_new (w.alloc (bx k)) (ebx v)
    rwa [World.size_alloc] at this
  have hV' := h.keep0 TV
  obtain ⟨ob, hu, hmp⟩ := (show MapAt V.drew b _ _ from hV'.mp.kept rfl).set (t := 141) Tryz.underlying141 (maxLen_big (by have := h.len; omega)) hk (ev v)
  obtain ⟨W1, hW⟩ : ∃ W1, W1 = setBlock V.drew b ob := ⟨_, rfl⟩
  rw [← hW] at hu hmp
  have T1 : Touch [b] V W1 := by rw [hW]; exact touch_setBlock ((Touch.refl _ _).drew) (Or.inl (by simp)) _
  have hlt := h.lt
  have hbl := hlt b (by simp)
  have O1 : Oq W1 o G c.e (keysL xs) := hV'.oq.keep T1 (fun i hi hh => by simp only [List.mem_singleton] at hh; subst hh; exact h.bg hi)
  have m1 : Md W1 m c now b o := T1.keep hV'.md (by simpa using h.mb.symm)
  have B1 : W1.heap[w.heap.size]? = some (bx k) := T1.keep hB (by simp; omega)
  have hz1 : w.heap.size + 2 ≤ W1.heap.size := by have := T1.size; have := block_lt hE; omega
  have sA : ∀ w', Touch G W1 w' → w'.cell? ⟨m, 9, none⟩ = some (.pointer (some ⟨o, 0, none⟩)) := fun w' t => (show Md w' m c now b o from t.keep m1 h.mg).cs.c9
  have sB : ∀ w', Touch G W1 w' → w'.cell? ⟨w.heap.size, 0, none⟩ = some (.int .u16 k.1) := fun w' t => by
    have := t.keep B1 (fun hh => by have := hlt w.heap.size (by simp [hh]); omega)
    unfold bx at this
    simp [World.cell?, this]
  have sC : ∀ w', Touch G W1 w' → w'.cell? ⟨w.heap.size, 1, none⟩ = some (.string k.2) := fun w' t => by
    have := t.keep B1 (fun hh => by have := hlt w.heap.size (by simp [hh]); omega)
    unfold bx at this
    simp [World.cell?, this]
  have HU : Hid (∀ w2, Touch [] W1 w2 → Calls Tryz.prog 115 #[PT o, kv k] w2 fun e w' => e = .returned (.tuple #[kv (useG c.e (keysL xs) k), .bool true, .int .i64 0]) ∧ Ch w2 o G c.e (useL c.e (keysL xs) k) w') := fun w2 t => by
    have := useO w2 o G c.e (keysL xs) k hk h64 (by rw [keysL_len]; have := h.len; omega) (O1.keep0 t)
    rw [hb] at this
    exact this
  have HP : Hid (∀ w2 w3 W, Touch [] W1 w2 → Ch w2 o G c.e (useL c.e (keysL xs) k) w3 → (Touch [] w3 W ∨ ∃ q, Touch [q] w3 W ∧ W1.heap.size ≤ q ∧ q < w2.heap.size) → Pm w m b o G c now xs k v W) := fun w2 w3 W t2 c3 t4 => put_mid h TV hW hmp t2 c3 t4
  have HQ : Hid (∀ w2 w3, w2.heap[W1.heap.size]? = some (bx kz) → Ch w2 o G c.e (useL c.e (keysL xs) k) w3 → w3.heap[W1.heap.size]? = some (bx kz)) := fun w2 w3 q c3 => c3.block q (fun hh => by have := hlt W1.heap.size (by simp [hh]); omega)
  have c8 : V.cell? ⟨m, 8, none⟩ = some (.map (some b)) := hV'.md.cs.c8
  unfold bx at hB
  unfold ebx at hE
  have b0 : V.cell? ⟨w.heap.size, 0, none⟩ = some (.int .u16 k.1) := by simp [World.cell?, hB]
  have b1 : V.cell? ⟨w.heap.size, 1, none⟩ = some (.string k.2) := by simp [World.cell?, hB]
  have e0 : V.cell? ⟨w.heap.size + 1, 0, none⟩ = some (.int .i64 v.1.1) := by simp [World.cell?, hE]
  have e1 : V.cell? ⟨w.heap.size + 1, 1, none⟩ = some (.int .i64 v.1.2.1) := by simp [World.cell?, hE]
  have e2 : V.cell? ⟨w.heap.size + 1, 2, none⟩ = some (.int .i64 v.1.2.2.1) := by simp [World.cell?, hE]
  have e3 : V.cell? ⟨w.heap.size + 1, 3, none⟩ = some (.int .i64 v.1.2.2.2) := by simp [World.cell?, hE]
  have e4 : V.cell? ⟨w.heap.size + 1, 4, none⟩ = some (.int .i64 v.2) := by simp [World.cell?, hE]
  have tA : Hid (Touch [] W1 (W1.alloc (bx kz)).drew) := ((Touch.refl _ _).alloc _).drew
  have qA : Hid ((W1.alloc (bx kz)).drew.heap[W1.heap.size]? = some (bx kz)) := heap_alloc_new W1 _
  have tB : Hid (Touch [] W1 W1.drew) := (Touch.refl _ _).drew
  have SA : Hid (∀ w2 w3, Touch [] W1 w2 → Ch w2 o G c.e (useL c.e (keysL xs) k) w3 → Touch G W1 w3) := fun w2 w3 t c3 => by
    obtain ⟨G', c1, c2, c4⟩ := c3
    exact (t.mono (fun _ e => by cases e)).trans' c2
  have HEnd : Hid (∀ W, Pm w m b o G c now xs k v W → (W.cell? ⟨m, 8, none⟩ = some (.map (some b)) ∧ W.cell? ⟨m, 8, none⟩ = some (.map (some b))) ∧ ∀ ty, ∃ ob, (Builtin.delete_ #[141, 54] ty #[.map (some b), kv (useG c.e (keysL xs) k)]).run Tryz.prog W.drew = .ok (.tuple #[]) (setBlock W.drew b ob) ∧ b ≠ w.heap.size ∧ Mc w m (m :: b :: G) c now (putL c.e xs k v) (setBlock W.drew b ob)) := fun W p => by
    refine ⟨⟨p.md.cs.c8, p.md.cs.c8⟩, fun ty => ?_⟩
    obtain ⟨ob2, u1, u2⟩ := p.end2 h.nd h.ok hk h.gd hv hb ty
    exact ⟨ob2, u1, by omega, u2⟩
  have hgo : goneL c.e xs k = [useG c.e (keysL xs) k] := by unfold goneL; rw [hb]; rfl
  rw [hgo]
  have hbb : b < W1.heap.size := by omega
  clear h hV' hmp T1 O1 m1 B1 hB hE hW hv hk h64 hb hgo TV
  generalize useG c.e (keysL xs) k = g at *
  generalize useL c.e (keysL xs) k = ys at *
  generalize putL c.e xs k v = zs at *
  unfold PT kv ev at *
  unfold bx at HQ tA qA
  unfold kz at HQ tA qA
  go_enter Tryz.func76, Tryz.ntmps76
  go_wp2
  unfold bx ebx at hV
  rw [← hV]
  clear hV
  go_region
  clear b0 b1 e0 e1 e2 e3 e4 c8 hu
  go_upto_region 2 with fail
  go_region_held3 (fun w' => Touch G W1 w') (repeat (first | assumption | exact Touch.refl _ _ | apply Touch.alloc | apply Touch.drew | (refine Touch.setCell ?_ (Or.inr (by simp)) _)))
    (first
      | (go_at_call 115; refine (HU.out _ tA.out).mono ?_; rintro e w3 ⟨rfl, c3⟩; have s3 := SA.out _ _ tA.out c3; have hq := HQ.out _ _ qA.out c3; have y0 : w3.cell? ⟨W1.heap.size, 0, none⟩ = some (.int .u16 0) := (by simp [World.cell?, hq]); have y1 : w3.cell? ⟨W1.heap.size, 1, none⟩ = some (.string ⟨#[]⟩) := (by simp [World.cell?, hq]); have y2 : w3.frozen? ⟨W1.heap.size, 0, none⟩ = false := (by simp [World.frozen?, hq]); have y3 : w3.frozen? ⟨W1.heap.size, 1, none⟩ = false := (by simp [World.frozen?, hq]); have C3 := hid c3; clear c3)
      | (go_at_call 115; refine (HU.out _ tB.out).mono ?_; rintro e w3 ⟨rfl, c3⟩; have s3 := SA.out _ _ tB.out c3; have C3 := hid c3; clear c3))
  · clear sA sB sC
    obtain ⟨W, hWd⟩ : ∃ W, W = w3.alloc (.cells #[.int .u16 g.1, .string g.2] 54) := ⟨_, rfl⟩
    have P := hid (HP.out _ _ W tB.out C3.out (Or.inl (by rw [hWd]; exact (Touch.refl _ _).alloc _)))
    have hqq : W.heap[w3.heap.size]? = some (.cells #[.int .u16 g.1, .string g.2] 54 (0, 0)) := by rw [hWd]; exact heap_alloc_new w3 _
    have hqb : w3.heap.size ≠ b := by have := s3.size; omega
    rw [← hWd]
    clear hWd s3
    generalize w3.heap.size = q at *
    obtain ⟨⟨c8, _⟩, hdel⟩ := HEnd.out W P.out
    obtain ⟨ob2, hu2, _, hmc⟩ := hdel 0
    have q0 : W.cell? ⟨q, 0, none⟩ = some (.int .u16 g.1) := by simp [World.cell?, hqq]
    have q1 : W.cell? ⟨q, 1, none⟩ = some (.string g.2) := by simp [World.cell?, hqq]
    obtain ⟨W4, hW4⟩ : ∃ W4, W4 = setBlock W.drew b ob2 := ⟨_, rfl⟩
    rw [← hW4] at hu2 hmc
    have k0 : W4.cell? ⟨q, 0, none⟩ = some (.int .u16 g.1) := by rw [hW4, cell_setBlock _ hqb]; exact q0
    have k1 : W4.cell? ⟨q, 1, none⟩ = some (.string g.2) := by rw [hW4, cell_setBlock _ hqb]; exact q1
    have HM := hid hmc
    clear hdel hW4 hmc hqq
    go_upto_region 5 with fail
    go_region
    clear q0 q1 c8
    go_wp2
    go_ret
    exact ⟨_, rfl, RT.one (heap_alloc_new W4 _), HM.out.keep0 ((Touch.refl _ _).alloc _)⟩
  · clear sA sB sC
    obtain ⟨W, hWd⟩ : ∃ W, W = (w3.setCell ⟨W1.heap.size, 0, none⟩ (.int .u16 g.1)).setCell ⟨W1.heap.size, 1, none⟩ (.string g.2) := ⟨_, rfl⟩
    have P := hid (HP.out _ _ W tA.out C3.out (Or.inr ⟨W1.heap.size, by rw [hWd]; exact tset2 _ _ _ _, Nat.le_refl _, block_lt qA.out⟩))
    have hqq : W.heap[W1.heap.size]? = some (.cells #[.int .u16 g.1, .string g.2] 54 (0, 0)) := by rw [hWd]; exact bset (bset hq _) _
    have hqb : W1.heap.size ≠ b := by omega
    rw [← hWd]
    clear hWd s3 y0 y1 y2 y3 hq
    clear tA qA HQ tB SA HU HP C3
    generalize W1.heap.size = q at *
    obtain ⟨⟨c8, _⟩, hdel⟩ := HEnd.out W P.out
    obtain ⟨ob2, hu2, _, hmc⟩ := hdel 0
    have q0 : W.cell? ⟨q, 0, none⟩ = some (.int .u16 g.1) := by simp [World.cell?, hqq]
    have q1 : W.cell? ⟨q, 1, none⟩ = some (.string g.2) := by simp [World.cell?, hqq]
    obtain ⟨W4, hW4⟩ : ∃ W4, W4 = setBlock W.drew b ob2 := ⟨_, rfl⟩
    rw [← hW4] at hu2 hmc
    have k0 : W4.cell? ⟨q, 0, none⟩ = some (.int .u16 g.1) := by rw [hW4, cell_setBlock _ hqb]; exact q0
    have k1 : W4.cell? ⟨q, 1, none⟩ = some (.string g.2) := by rw [hW4, cell_setBlock _ hqb]; exact q1
    have HM := hid hmc
    clear hdel hW4 hmc hqq
    go_upto_region 5 with fail
    go_region
    clear q0 q1 c8
    go_wp2
    go_ret
    exact ⟨_, rfl, RT.one (heap_alloc_new W4 _), HM.out.keep0 ((Touch.refl _ _).alloc _)⟩
theorem putM (w : World) (m : Nat) (F : List Nat) (c : Cf) (now : Int) (xs : List En) (h : Mq w m F c now xs) (k : K) (hk : Ok k) (h64 : k.2.size ≤ 64) (v : V) (hv : right v.1 = true ∧ 0 ≤ v.2 ∧ v.2 ≤ now) :
    Calls Tryz.prog 76 #[PT m, kv k, ev v] w fun e w' => ∃ u, e = .returned u ∧ RT 54 w' u (goneL c.e xs k) ∧ Mc w m F c now (putL c.e xs k v) w' := by
  obtain ⟨b, o, G, rfl, h⟩ := h
  cases hb : useB c.e (keysL xs) k with
  | false => exact put41_no w m b o G c now xs h k hk h64 v hv hb
  | true => exact put41_go w m b o G c now xs h k hk h64 v hv hb
end Go.Proofs.YtpefbmheblfbeaaGreat.Me
/- The contract of Keep; a key's space is a number of 16 bits, a name's length fits. -/
namespace Go.Proofs.YtpefbmheblfbeaaGreat.Me
open Go.RowKit Go.Sort Go.Maps Go.ChangeMaps Go.WideMaps
set_option maxRecDepth 100000
set_option linter.unusedVariables false
set_option linter.unusedSimpArgs false
def obx (x : O) : Obj := .cells #[.int .i64 x.1, .int .i64 x.2.1, .int .i64 x.2.2.1, .int .i64 x.2.2.2] 58
theorem pairE_ok {k : K} {x : O} (h : pairE k x = 0) : k.2.size ≤ 64 ∧ right x = true := by
  unfold pairE at h
  split at h
  · omega
  · split at h
    · exact ⟨by omega, by assumption⟩
    · omega
def keepE (now n : Int) (k : K) (x : O) : Int := if tickE now n = 0 then pairE k x else tickE now n
def kpB (c : Cf) (now n : Int) (k : K) (x : O) : Bool := decide (keepE now n k x = 0) && keepsC c x
def kpG (c : Cf) (now n : Int) (xs : List En) (k : K) (x : O) : List K := if kpB c now n k x then goneL c.e xs k else []
def kpN (now n : Int) (k : K) (x : O) : Int := if keepE now n k x = 0 then n else now
def kpX (c : Cf) (now n : Int) (xs : List En) (k : K) (x : O) : List En := if kpB c now n k x then putL c.e xs k (x, n) else xs
structure KpV (w : World) (k : K) (x : O) (V : World) : Prop where
  t : Touch [] w V
  hB : V.heap[w.heap.size]? = some (bx k)
  hO : V.heap[w.heap.size + 1]? = some (obx x)
theorem KpV.mk' (w : World) (k : K) (x : O) : KpV w k x ((w.alloc (bx k)).alloc (obx x)) :=
  ⟨((Touch.refl _ _).alloc _).alloc _, (Below.heap_alloc _ _ _ (by simp)).trans (heap_alloc_new w _), by
    have := heap_alloc_new (w.alloc (bx k)) (obx x)
    rwa [World.size_alloc] at this⟩
theorem KpV.cells {w V w2 : World} {k : K} {x : O} {F : List Nat} (h : KpV w k x V) (t : Touch F V w2) (hF : ∀ i ∈ F, i < w.heap.size) : (w2.cell? ⟨w.heap.size, 0, none⟩ = some (.int .u16 k.1) ∧ w2.cell? ⟨w.heap.size, 1, none⟩ = some (.string k.2)) ∧ w2.cell? ⟨w.heap.size + 1, 0, none⟩ = some (.int .i64 x.1) ∧ w2.cell? ⟨w.heap.size + 1, 1, none⟩ = some (.int .i64 x.2.1) ∧ w2.cell? ⟨w.heap.size + 1, 2, none⟩ = some (.int .i64 x.2.2.1) ∧ w2.cell? ⟨w.heap.size + 1, 3, none⟩ = some (.int .i64 x.2.2.2) := by
  have h1 := t.keep h.hB (fun hh => by have := hF _ hh; omega)
  have h2 := t.keep h.hO (fun hh => by have := hF _ hh; omega)
  unfold bx at h1
  unfold obx at h2
  simp [World.cell?, h1, h2]
theorem keep18_tick (w : World) (m : Nat) (F : List Nat) (c : Cf) (now n : Int) (xs : List En) (h : Mq w m F c now xs) (k : K) (x : O) (ht : tickE now n ≠ 0) :
    Calls Tryz.prog 21 #[PT m, .int .i64 n, kv k, ov x] w fun e w' => e = .returned (.tuple #[.bool false, .slice none 0 0, .int .i64 (tickE now n)]) ∧ Touch [] w w' := by
  obtain ⟨V, hV⟩ : ∃ V, V = (w.alloc (bx k)).alloc (obx x) := ⟨_, rfl⟩
  have TV : Hid (Touch [] w V) := by rw [hV]; exact (KpV.mk' w k x).t
  have HT := hid ((h.keep0 TV.out).tick n)
  clear h
  have hb : ((tickE now n) == 0) = false := by simp [ht]
  clear ht
  generalize tickE now n = E at *
  unfold PT kv ov at *
  go_enter Tryz.func21, Tryz.ntmps21
  go_upto_region 1 with fail
  unfold bx obx at hV
  rw [← hV]
  clear hV
  go_wp2_with (go_at_call 73; refine HT.out.mono ?_; rintro e w2 ⟨rfl, e2⟩; rw [e2]; clear e2 w2)
  exact bodyPost_ret (v := .tuple #[.bool false, .slice none 0 0, .int .i64 E]) (by simp [results, Tryz.results21, go_sem]) rfl ⟨rfl, TV.out⟩
theorem keep18_pair (w : World) (m : Nat) (F : List Nat) (c : Cf) (now n : Int) (xs : List En) (h : Mq w m F c now xs) (k : K) (x : O) (ht : tickE now n = 0) (hp : pairE k x ≠ 0) :
    Calls Tryz.prog 21 #[PT m, .int .i64 n, kv k, ov x] w fun e w' => e = .returned (.tuple #[.bool false, .slice none 0 0, .int .i64 (pairE k x)]) ∧ Touch [] w w' := by
  obtain ⟨V, hV⟩ : ∃ V, V = (w.alloc (bx k)).alloc (obx x) := ⟨_, rfl⟩
  have KV : KpV w k x V := by rw [hV]; exact KpV.mk' w k x
  have TV := hid KV.t
  have HT := hid ((h.keep0 TV.out).tick n)
  rw [ht] at HT
  have HP := hid (pair46 V k x)
  obtain ⟨⟨b0, b1⟩, o0, o1, o2, o3⟩ := KV.cells (Touch.refl [] V) (fun _ e => by cases e)
  clear h ht KV
  have hb : ((pairE k x) == 0) = false := by simp [hp]
  clear hp
  generalize pairE k x = E at *
  unfold PT kv ov at *
  go_enter Tryz.func21, Tryz.ntmps21
  go_upto_region 1 with fail
  unfold bx obx at hV
  rw [← hV]
  clear hV
  go_wp2_with (first
    | (go_at_call 73; refine HT.out.mono ?_; rintro e w2 ⟨rfl, e2⟩; rw [e2]; clear e2 w2)
    | (go_at_call 74; refine HP.out.mono ?_; rintro e w3 ⟨rfl, t3⟩; have T3 := hid t3; clear t3))
  exact bodyPost_ret (v := .tuple #[.bool false, .slice none 0 0, .int .i64 E]) (by simp [results, Tryz.results21, go_sem]) rfl ⟨rfl, TV.out.trans' T3.out⟩
theorem Mq.keeps {w : World} {m : Nat} {F : List Nat} {c : Cf} {now : Int} {xs : List En} (h : Mq w m F c now xs) (x : O) : Calls Tryz.prog 75 #[PT m, ov x] w fun e w' => e = .returned (.bool (keepsC c x)) ∧ Touch [] w w' := by
  obtain ⟨b, o, G, rfl, h⟩ := h
  exact keeps47 w m c now b o h.md x
set_option maxHeartbeats 1000000 in
theorem keep18_not (w : World) (m : Nat) (F : List Nat) (c : Cf) (now n : Int) (xs : List En) (h : Mq w m F c now xs) (k : K) (x : O) (ht : tickE now n = 0) (hp : pairE k x = 0) (hk : keepsC c x = false) :
    Calls Tryz.prog 21 #[PT m, .int .i64 n, kv k, ov x] w fun e w' => e = .returned (.tuple #[.bool false, .slice none 0 0, .int .i64 0]) ∧ Mc w m F c n xs w' := by
  obtain ⟨V, hV⟩ : ∃ V, V = (w.alloc (bx k)).alloc (obx x) := ⟨_, rfl⟩
  have KV : KpV w k x V := by rw [hV]; exact KpV.mk' w k x
  have TV := hid KV.t
  have HT := hid ((h.keep0 TV.out).tick n)
  rw [ht] at HT
  have HP := hid (pair46 V k x)
  rw [hp] at HP
  obtain ⟨q1, q2⟩ := tickE_ok ht
  have hF := h.lt
  have hm : m < w.heap.size := hF m h.mem
  have hne : w.heap.size ≠ m := by omega
  have hne1 : w.heap.size + 1 ≠ m := by omega
  have HC : Hid (∀ w2, Touch [] V w2 → ((w2.cell? ⟨w.heap.size, 0, none⟩ = some (.int .u16 k.1) ∧ w2.cell? ⟨w.heap.size, 1, none⟩ = some (.string k.2)) ∧ w2.cell? ⟨w.heap.size + 1, 0, none⟩ = some (.int .i64 x.1) ∧ w2.cell? ⟨w.heap.size + 1, 1, none⟩ = some (.int .i64 x.2.1) ∧ w2.cell? ⟨w.heap.size + 1, 2, none⟩ = some (.int .i64 x.2.2.1) ∧ w2.cell? ⟨w.heap.size + 1, 3, none⟩ = some (.int .i64 x.2.2.2)) ∧ w2.cell? ⟨m, 7, none⟩ = some (.int .i64 now) ∧ w2.frozen? ⟨m, 7, none⟩ = false) := fun w2 t => ⟨KV.cells t (fun _ e => by cases e), (h.keep0 (TV.out.trans' t)).c7⟩
  have HK : Hid (∀ w2, Touch [] V w2 → Calls Tryz.prog 75 #[PT m, ov x] (w2.setCell ⟨m, 7, none⟩ (.int .i64 n)) fun e w' => e = .returned (.bool false) ∧ Mc w m F c n xs w') := fun w2 t => by
    have C := (h.keep0 (TV.out.trans' t)).time q1 q2
    obtain ⟨F', C1, C2, C3⟩ := C
    have := C1.keeps x
    rw [hk] at this
    refine this.mono ?_
    rintro e w4 ⟨rfl, t4⟩
    exact ⟨rfl, (Mc.keep0 (⟨F', C1, C2, C3⟩ : Mc w2 m F c n xs _) t4).from0 (TV.out.trans' t)⟩
  obtain ⟨⟨⟨b0, b1⟩, o0, o1, o2, o3⟩, g0, g1⟩ := HC.out V (Touch.refl _ _)
  clear h ht hp hk KV q1 q2 hF
  unfold PT kv ov at *
  go_enter Tryz.func21, Tryz.ntmps21
  go_upto_region 1 with fail
  unfold bx obx at hV
  rw [← hV]
  clear hV
  go_wp2_with (first
    | (go_at_call 73; refine HT.out.mono ?_; rintro e w2 ⟨rfl, e2⟩; rw [e2]; clear e2 w2)
    | (go_at_call 74; refine HP.out.mono ?_; rintro e w3 ⟨rfl, t3⟩; have T3 := hid t3; clear b0 b1 o0 o1 o2 o3 g0 g1; obtain ⟨⟨⟨b0, b1⟩, o0, o1, o2, o3⟩, g0, g1⟩ := HC.out _ t3; clear t3)
    | (go_at_call 75; refine (HK.out _ T3.out).mono ?_; rintro e w4 ⟨rfl, hc⟩; have C4 := hid hc; clear hc))
  exact bodyPost_ret (v := .tuple #[.bool false, .slice none 0 0, .int .i64 0]) (by simp [results, Tryz.results21, go_sem]) rfl ⟨rfl, C4.out⟩
def PtQ (w : World) (m : Nat) (F : List Nat) (c : Cf) (n : Int) (gs : List K) (ys : List En) (u : Value) (w' : World) : Prop := RT 54 w' u gs ∧ Mc w m F c n ys w'
set_option maxHeartbeats 1000000 in
theorem keep18_yes (w : World) (m : Nat) (F : List Nat) (c : Cf) (now n : Int) (xs : List En) (h : Mq w m F c now xs) (k : K) (ok : Ok k) (x : O) (ht : tickE now n = 0) (hp : pairE k x = 0) (hk : keepsC c x = true) :
    Calls Tryz.prog 21 #[PT m, .int .i64 n, kv k, ov x] w fun e w' => ∃ u, e = .returned (.tuple #[.bool true, u, .int .i64 0]) ∧ PtQ w m F c n (goneL c.e xs k) (putL c.e xs k (x, n)) u w' := by
  obtain ⟨V, hV⟩ : ∃ V, V = (w.alloc (bx k)).alloc (obx x) := ⟨_, rfl⟩
  have KV : KpV w k x V := by rw [hV]; exact KpV.mk' w k x
  have TV := hid KV.t
  have HT := hid ((h.keep0 TV.out).tick n)
  rw [ht] at HT
  have HP := hid (pair46 V k x)
  rw [hp] at HP
  obtain ⟨q1, q2⟩ := tickE_ok ht
  obtain ⟨p1, p2⟩ := pairE_ok hp
  have n0 := h.gd.n0
  have hF := h.lt
  have hm : m < w.heap.size := hF m h.mem
  have hne : w.heap.size ≠ m := by omega
  have hne1 : w.heap.size + 1 ≠ m := by omega
  have HC : Hid (∀ w2, Touch [] V w2 → ((w2.cell? ⟨w.heap.size, 0, none⟩ = some (.int .u16 k.1) ∧ w2.cell? ⟨w.heap.size, 1, none⟩ = some (.string k.2)) ∧ w2.cell? ⟨w.heap.size + 1, 0, none⟩ = some (.int .i64 x.1) ∧ w2.cell? ⟨w.heap.size + 1, 1, none⟩ = some (.int .i64 x.2.1) ∧ w2.cell? ⟨w.heap.size + 1, 2, none⟩ = some (.int .i64 x.2.2.1) ∧ w2.cell? ⟨w.heap.size + 1, 3, none⟩ = some (.int .i64 x.2.2.2)) ∧ w2.cell? ⟨m, 7, none⟩ = some (.int .i64 now) ∧ w2.frozen? ⟨m, 7, none⟩ = false) := fun w2 t => ⟨KV.cells t (fun _ e => by cases e), (h.keep0 (TV.out.trans' t)).c7⟩
  have HK : Hid (∀ w2, Touch [] V w2 → Calls Tryz.prog 75 #[PT m, ov x] (w2.setCell ⟨m, 7, none⟩ (.int .i64 n)) fun e w' => e = .returned (.bool true) ∧ Mc w m F c n xs w' ∧ Touch [m] V w') := fun w2 t => by
    have C := (h.keep0 (TV.out.trans' t)).time q1 q2
    obtain ⟨F', C1, C2, C3⟩ := C
    have := C1.keeps x
    rw [hk] at this
    refine this.mono ?_
    rintro e w4 ⟨rfl, t4⟩
    exact ⟨rfl, (Mc.keep0 (⟨F', C1, C2, C3⟩ : Mc w2 m F c n xs _) t4).from0 (TV.out.trans' t), ((t.mono (fun _ e => by cases e)).setCell (Or.inl (by simp)) _).trans' (t4.mono (fun _ e => by cases e))⟩
  have HD : Hid (∀ w2, Touch [m] V w2 → ((w2.cell? ⟨w.heap.size, 0, none⟩ = some (.int .u16 k.1) ∧ w2.cell? ⟨w.heap.size, 1, none⟩ = some (.string k.2)) ∧ w2.cell? ⟨w.heap.size + 1, 0, none⟩ = some (.int .i64 x.1) ∧ w2.cell? ⟨w.heap.size + 1, 1, none⟩ = some (.int .i64 x.2.1) ∧ w2.cell? ⟨w.heap.size + 1, 2, none⟩ = some (.int .i64 x.2.2.1) ∧ w2.cell? ⟨w.heap.size + 1, 3, none⟩ = some (.int .i64 x.2.2.2))) := fun w2 t => KV.cells t (fun i hi => by simp only [List.mem_singleton] at hi; subst hi; exact hm)
  have HU : Hid (∀ w4, Mc w m F c n xs w4 → Calls Tryz.prog 76 #[PT m, kv k, ev (x, n)] w4 fun e w' => ∃ u, e = .returned u ∧ PtQ w m F c n (goneL c.e xs k) (putL c.e xs k (x, n)) u w') := fun w4 C => by
    obtain ⟨F', C1, C2, C3⟩ := C
    refine (putM w4 m F' c n xs C1 k ok p1 (x, n) ⟨p2, by show 0 ≤ n; omega, Int.le_refl _⟩).mono ?_
    rintro e w5 ⟨u, rfl, r, d⟩
    refine ⟨u, rfl, r, ?_⟩
    obtain ⟨F2, d1, d2, d3⟩ := d
    exact ⟨F2, d1, C2.trans d2 C3, C3.trans d3 C2.size⟩
  obtain ⟨⟨⟨b0, b1⟩, o0, o1, o2, o3⟩, g0, g1⟩ := HC.out V (Touch.refl _ _)
  clear h ht hp hk KV q1 q2 hF p1 p2 n0
  generalize goneL c.e xs k = gs at *
  generalize putL c.e xs k (x, n) = ys at *
  unfold PT kv ov ev at *
  simp only at HU
  go_enter Tryz.func21, Tryz.ntmps21
  go_upto_region 1 with fail
  unfold bx obx at hV
  rw [← hV]
  clear hV
  go_wp2_with (first
    | (go_at_call 73; refine HT.out.mono ?_; rintro e w2 ⟨rfl, e2⟩; rw [e2]; clear e2 w2)
    | (go_at_call 74; refine HP.out.mono ?_; rintro e w3 ⟨rfl, t3⟩; have T3 := hid t3; clear b0 b1 o0 o1 o2 o3 g0 g1; obtain ⟨⟨⟨b0, b1⟩, o0, o1, o2, o3⟩, g0, g1⟩ := HC.out _ t3; clear t3)
    | (go_at_call 75; refine (HK.out _ T3.out).mono ?_; rintro e w4 ⟨rfl, hc, t4⟩; have C4 := hid hc; clear hc b0 b1 o0 o1 o2 o3 g0 g1; obtain ⟨⟨b0, b1⟩, o0, o1, o2, o3⟩ := HD.out _ t4; clear t4)
    | (go_at_call 76; refine (HU.out _ C4.out).mono ?_; rintro e w5 ⟨u, rfl, hq⟩; have HQ := hid hq; clear hq))
  exact bodyPost_ret (v := .tuple #[.bool true, u, .int .i64 0]) (by simp [results, Tryz.results21, go_sem]) rfl ⟨u, rfl, HQ.out⟩
theorem keepM (w : World) (m : Nat) (F : List Nat) (c : Cf) (now n : Int) (xs : List En) (h : Mq w m F c now xs) (k : K) (ok : Ok k) (x : O) :
    Calls Tryz.prog 21 #[PT m, .int .i64 n, kv k, ov x] w fun e w' => ∃ u, e = .returned (.tuple #[.bool (kpB c now n k x), u, .int .i64 (keepE now n k x)]) ∧ PtQ w m F c (kpN now n k x) (kpG c now n xs k x) (kpX c now n xs k x) u w' := by
  by_cases ht : tickE now n = 0
  · by_cases hp : pairE k x = 0
    · have e : keepE now n k x = 0 := by unfold keepE; rw [if_pos ht, hp]
      cases hk : keepsC c x
      · have e2 : kpB c now n k x = false := by unfold kpB; rw [hk]; simp
        unfold kpN kpG kpX
        rw [e2, e, if_pos rfl]
        exact (keep18_not w m F c now n xs h k x ht hp hk).mono fun e w' ⟨he, t⟩ => ⟨_, he, RT.nil _ _, t⟩
      · have e2 : kpB c now n k x = true := by unfold kpB; rw [hk, e]; rfl
        unfold kpN kpG kpX
        rw [e2, e, if_pos rfl, if_pos rfl, if_pos rfl]
        exact keep18_yes w m F c now n xs h k ok x ht hp hk
    · have e : keepE now n k x = pairE k x := by unfold keepE; rw [if_pos ht]
      have e2 : kpB c now n k x = false := by unfold kpB; rw [e, decide_eq_false hp]; rfl
      unfold kpN kpG kpX
      rw [e2, e, if_neg hp]
      exact (keep18_pair w m F c now n xs h k x ht hp).mono fun e w' ⟨he, t⟩ => ⟨_, he, RT.nil _ _, (Mc.refl h).keep0 t⟩
  · have e : keepE now n k x = tickE now n := by unfold keepE; rw [if_neg ht]
    have e2 : kpB c now n k x = false := by unfold kpB; rw [e, decide_eq_false ht]; rfl
    unfold kpN kpG kpX
    rw [e2, e, if_neg ht]
    exact (keep18_tick w m F c now n xs h k x ht).mono fun e w' ⟨he, t⟩ => ⟨_, he, RT.nil _ _, (Mc.refl h).keep0 t⟩
end Go.Proofs.YtpefbmheblfbeaaGreat.Me
/- The contract of All: all entries, the one that was used the longest time ago first; no conditions. -/
namespace Go.Proofs.YtpefbmheblfbeaaGreat.Me
open Go.RowKit Go.Sort Go.Maps Go.ChangeMaps Go.WideMaps Go.Shelf
set_option maxRecDepth 100000
set_option linter.unusedVariables false
set_option linter.unusedSimpArgs false
attribute [local go_sem] Oper.semAt_some
def nl (x : En) : List Value := [.int .u16 x.1.1, .string x.1.2, .int .i64 x.2.1.1, .int .i64 x.2.1.2.1, .int .i64 x.2.1.2.2.1, .int .i64 x.2.1.2.2.2, .int .i64 x.2.2]
def cellsN (xs : List En) : List Value := xs.flatMap nl
theorem cellsN_app (xs ys : List En) : cellsN (xs ++ ys) = cellsN xs ++ cellsN ys := by unfold cellsN; simp
theorem cellsN_one (x : En) : cellsN [x] = nl x := by simp [cellsN]
theorem cellsN_at : ∀ (xs : List En) (i j : Nat) (h : i < xs.length), j < 7 → (cellsN xs)[i * 7 + j]? = (nl xs[i])[j]?
  | x :: xs, 0, j, h, hj => by
    unfold cellsN
    rw [List.flatMap_cons, Nat.zero_mul, Nat.zero_add, List.getElem?_append_left (by simp [nl]; omega)]
    rfl
  | x :: xs, i + 1, j, h, hj => by
    have ih := cellsN_at xs i j (by simpa using h) hj
    unfold cellsN at ih ⊢
    rw [List.flatMap_cons, List.getElem?_append_right (by simp [nl]; omega)]
    have e : (i + 1) * 7 + j - (nl x).length = i * 7 + j := by simp [nl]; omega
    rw [e, ih]
    simp
def AlI (w : World) (p1 p3 m : Nat) (xs : List En) (X : List Nat) (pre : List K) (W : World) : Prop :=
  (∃ v, W.heap[p3]? = some (.cells #[v] 24 (0, 0)) ∧ W.ownsRow w.heap.size 60 7 v pre.length (cellsN (xs.take pre.length)) ∧ ∀ b, v.ownBlock = some b → ¬ b ∈ X) ∧ W.heap[p1]? = some (.cells #[PT m] 28 (0, 0)) ∧ (¬ p1 ∈ X ∧ ¬ p3 ∈ X ∧ w.heap.size ≤ p3) ∧ (∀ k ∈ X, w.heap.size ≤ k) ∧ Touch [] w W
theorem AlI.step {w : World} {p1 p3 m : Nat} {xs : List En} {X : List Nat} {pre : List K} {W W' : World} (h : AlI w p1 p3 m xs X pre W) (ht : Touch X W W') : AlI w p1 p3 m xs X pre W' := by
  obtain ⟨⟨v, h1, h2, h3⟩, h4, h5, h6, h7⟩ := h
  exact ⟨⟨v, ht.keep h1 h5.2.1, own_touch h2 ht h3, h3⟩, ht.keep h4 h5.1, h5, h6, h7.trans ht (fun i hi => Or.inr (h6 i hi))⟩
theorem AlI.push {w : World} {p1 p3 m : Nat} {xs : List En} {X : List Nat} {pre : List K} {W W8 w7 : World} {v v' : Value} {x : En} (h : AlI w p1 p3 m xs X pre W) (hX : ∀ k ∈ X, k < W.heap.size) (t8 : Touch [] W W8) (hv : W.heap[p3]? = some (.cells #[v] 24 (0, 0)))
    (ho : w7.ownsRow w.heap.size 60 7 v' (pre.length + 1) (cellsN (xs.take pre.length) ++ nl x)) (hg : W8.grownBy w7 v.ownBlock) (hat : v'.ownBlock = v.ownBlock ∨ v'.ownBlock = some W8.heap.size) (hx : xs[pre.length]? = some x) (k : K) :
    w7.heap[p3]? = some (.cells #[v] 24 (0, 0)) ∧ (∀ q ∈ X, (w7.setCell ⟨p3, 0, none⟩ v').heap[q]? = W.heap[q]?) ∧ AlI w p1 p3 m xs X (pre ++ [k]) (w7.setCell ⟨p3, 0, none⟩ v') := by
  obtain ⟨⟨v0, h1, h2, h3⟩, h4, h5, h6, h7⟩ := h
  have ev : v0 = v := by
    rw [h1] at hv
    simpa using hv
  subst ev
  have nb : ∀ b, v0.ownBlock = some b → b ≠ p3 ∧ b ≠ p1 := fun b hb => by
    obtain ⟨cs, hcs⟩ : ∃ cs, W.heap[b]? = some (.cells cs 60 (0, 0)) := by
      obtain ⟨q1, q2 | ⟨g, cap, cur, rfl, hg, hc, hn, r⟩⟩ := h2
      · rw [q2.1] at hb; cases hb
      · simp only [Value.ownBlock, Option.some.injEq] at hb
        subst hb
        exact ⟨cur, hc⟩
    refine ⟨fun e => ?_, fun e => ?_⟩
    · rw [e, h1] at hcs; simp at hcs
    · rw [e, h4] at hcs; simp at hcs
  have t7 : Touch v0.ownBlock.toList W w7 := (t8.mono (fun _ e => by cases e)).grown hg (fun k hk => Or.inl (by simp [hk]))
  have k3 : w7.heap[p3]? = some (.cells #[v0] 24 (0, 0)) := t7.keep h1 (fun hh => (nb p3 (by simpa using hh)).1 rfl)
  have ts : Touch [p3] w7 (w7.setCell ⟨p3, 0, none⟩ v') := (Touch.refl _ _).setCell (Or.inl (by simp)) _
  have hp3W : p3 < W.heap.size := block_lt h1
  have nv : ∀ b, v'.ownBlock = some b → b ≠ p3 ∧ ¬ b ∈ X := fun b hb => by
    rcases hat with e | e
    · rw [e] at hb
      exact ⟨(nb b hb).1, h3 b hb⟩
    · rw [e] at hb
      simp only [Option.some.injEq] at hb
      have := t8.size
      exact ⟨by omega, fun hh => by have := hX b hh; omega⟩
  refine ⟨k3, fun q hq => ?_, ⟨v', ?_, ?_, fun b hb => (nv b hb).2⟩, ?_, h5, h6, ?_⟩
  · have : q ≠ p3 := fun e => h5.2.1 (e ▸ hq)
    rw [Below.heap_setCell _ _ _ _ this]
    exact t7.block q (hX q hq) (fun hh => h3 q (by simpa using hh) hq)
  · have := bset (i := 0) k3 v'
    simpa using this
  · have e1 : xs.take (pre ++ [k]).length = xs.take pre.length ++ [x] := by
      rw [List.length_append, List.length_singleton, List.take_add_one, hx]
      rfl
    rw [e1, cellsN_app, cellsN_one, List.length_append]
    exact own_touch ho ts (fun b hb hh => (nv b hb).1 (by simpa using hh))
  · exact (Below.heap_setCell _ _ _ _ (fun e => by
      rw [e] at h4
      rw [h1] at h4
      simp at h4)).trans (t7.keep h4 (fun hh => (nb p1 (by simpa using hh)).2 rfl))
  · exact (h7.trans t7 (fun i hi => Or.inr (h2.lt i (by simpa using hi)).1)).trans ts (fun i hi => by simp only [List.mem_singleton] at hi; subst hi; exact Or.inr h5.2.2)
theorem wpListIn_append_lies {F : Fence} {n : Nat} {P : Program} (w : World) {ops : Array Oper} {rest : List Oper} {o : Oper} {a : Act} {Q : Exit → Act → World → Prop} (hgd : o.guard = none) (s x : Operand) (t : TypeId)
    (ho : o.op = Op.call { callee := Callee.builtin Builtin.append, args := #[s, x], argTypes := #[t, t] })
    (base : Nat) (e : TypeId) (i : TypeInfo) (z : Value) (size bytes : Nat) (ht : P.underlying t = some (.slice e)) (hi : P.info? e = some i) (hz : i.zero = some z)
    (hsize : i.size = size) (hby : i.bytes = bytes) (hzs : z.cells.size = size) (hsz : 0 < size)
    (v : Value) (k : Nat) (xs : List Value) (hs : a.eval s = v) (hown : w.ownsRow base e size v k xs)
    (ad : Addr) (m c : Nat) (news : List Value) (hx : a.eval x = .slice (some ad) m c) (hl : news.length = m * size) (hnews : ∀ j u, news[j]? = some u → w.cell? (ad.add j) = some u) (h1 : ∀ u ∈ news, u.oneCell' = true)
    (hm : 0 < m) (h63 : k + m ≤ maxLen) (hbytes : (k + m) * bytes ≤ 140737488355328) (hbase : base ≤ w.heap.size)
    (h : ∀ g cap w', w'.ownsRow base e size (.slice (some ⟨g, 0, none⟩) (k + m) cap) (k + m) (xs ++ news) → w.grownBy w' v.ownBlock → (v.ownBlock = some g ∨ g = w.heap.size) → g < w'.heap.size → wpListIn F n P ops Q rest (a.put o.dst (.slice (some ⟨g, 0, none⟩) (k + m) cap)) w') : wpListIn F n P ops Q (o :: rest) a w := by
  refine wpListIn_plain hgd fun K hK' => ?_
  obtain ⟨g, cap, w', hrun, r1, r2, r3, r4⟩ := run_append_lies (P := P) w t o.type base e i z size bytes ht hi hz hsize hby hzs hsz v k xs hown ad m c news hl hnews h1 hm h63 hbytes hbase _ rfl
  unfold Oper.wpIn
  refine ⟨?_, ?_⟩
  · simp [Oper.about, ho, resolve, Target.leads, Sem.run_pure]
  · rw [Oper.semAt_plain F _ _ (by rw [ho]; intro c hc'; cases hc')]
    simp [execOp, ho, resolve, invoke, builtin, hs, hx, hrun, Result.andThen]
    exact hK' _ _ (h g cap w' r1 r2 r3 r4)
end Go.Proofs.YtpefbmheblfbeaaGreat.Me
