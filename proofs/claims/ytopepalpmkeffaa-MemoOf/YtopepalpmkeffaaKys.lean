/- The contract of keys: a new slice tells all keys, from the oldest on; there are fewer than a hundred thousand. -/
import Derived.Test.YtopepalpmkeffaaAwk
namespace Go.Proofs.Ytopepalpmkeffaa
open Go.RowKit Go.Sort Go.Maps Go.ChangeMaps Go.WideMaps
set_option linter.unusedVariables false
set_option linter.unusedSimpArgs false
def cellsK (xs : List K) : List Value := xs.flatMap fun x => [.int .u16 x.1, .string x.2]
theorem cellsK_app (xs ys : List K) : cellsK (xs ++ ys) = cellsK xs ++ cellsK ys := by unfold cellsK; simp
theorem cellsK_one (x : K) : cellsK [x] = [.int .u16 x.1, .string x.2] := rfl
theorem cellsK_len (xs : List K) : (cellsK xs).length = xs.length * 2 := by
  induction xs with
  | nil => rfl
  | cons x xs ih => rw [show x :: xs = [x] ++ xs from rfl, cellsK_app, List.length_append, ih, cellsK_one]; simp; omega
theorem cellsK_at0 : ∀ (xs : List K) (i : Nat) (h : i < xs.length), (cellsK xs)[i * 2]? = some (.int .u16 xs[i].1)
  | x :: xs, 0, _ => rfl
  | x :: xs, i + 1, h => by
    rw [show (i + 1) * 2 = i * 2 + 1 + 1 by omega]
    exact cellsK_at0 xs i (by simpa using h)
theorem cellsK_at1 : ∀ (xs : List K) (i : Nat) (h : i < xs.length), (cellsK xs)[i * 2 + 1]? = some (.string xs[i].2)
  | x :: xs, 0, _ => rfl
  | x :: xs, i + 1, h => by
    rw [show (i + 1) * 2 + 1 = i * 2 + 1 + 1 + 1 by omega]
    exact cellsK_at1 xs i (by simpa using h)
theorem own_block {w : World} {base e g c n k : Nat} {xs : List Value} (h : w.ownsRow base e k (.slice (some ⟨g, 0, none⟩) n c) n xs) :
    ∃ cur, w.heap[g]? = some (.cells cur e (0, 0)) ∧ n ≤ c ∧ c ≤ maxLen ∧ cur.size = c * k ∧ cur.toList.take (n * k) = xs ∧ base ≤ g ∧ xs.length = n * k := by
  obtain ⟨h1, h2 | ⟨g', cap', cur, hv, hg, hc, hn, hm, hs, ht⟩⟩ := h
  · cases h2.1
  · simp only [Value.slice.injEq, Option.some.injEq, Addr.mk.injEq, and_true, true_and] at hv
    obtain ⟨rfl, rfl⟩ := hv
    exact ⟨cur, hc, hn, hm, hs, ht, hg, h1⟩
theorem own_cell {w : World} {base e g c n k : Nat} {xs : List Value} (h : w.ownsRow base e k (.slice (some ⟨g, 0, none⟩) n c) n xs) {p : Nat} {v : Value} (hp : xs[p]? = some v) :
    w.cell? ⟨g, p, none⟩ = some v := by
  obtain ⟨cur, hc, hn, hm, hs, ht, hg, hl⟩ := own_block h
  have hp' : p < xs.length := (List.getElem?_eq_some_iff.1 hp).1
  have : cur[p]? = some v := by
    rw [← Array.getElem?_toList, ← hp, ← ht, List.getElem?_take, if_pos (by omega)]
  simp [World.cell?, hc, this]
theorem own_keep {w w' : World} {base e n k : Nat} {v : Value} {xs : List Value} (h : w.ownsRow base e k v n xs) (hk : ∀ b, v.ownBlock = some b → w'.heap[b]? = w.heap[b]?) : w'.ownsRow base e k v n xs := by
  obtain ⟨h1, h2 | ⟨g, cap, cur, rfl, hg, hc, r⟩⟩ := h
  · exact ⟨h1, Or.inl h2⟩
  · exact ⟨h1, Or.inr ⟨g, cap, cur, rfl, hg, (hk g rfl).trans hc, r⟩⟩
theorem own_touch {F : List Nat} {w w' : World} {base e n k : Nat} {v : Value} {xs : List Value} (h : w.ownsRow base e k v n xs) (ht : Touch F w w') (hk : ∀ b, v.ownBlock = some b → ¬ b ∈ F) : w'.ownsRow base e k v n xs :=
  own_keep h (fun b hb => ht.block b (h.lt b hb).2 (hk b hb))
theorem info36 : (Try.prog.info? 39).map (fun i => (i.zero, i.size, i.bytes)) = some (some (.agg #[.int .u16 0, .string ⟨#[]⟩]), 2, 24) := by kernel_rfl
theorem info44 : (Try.prog.info? 57).map (fun i => (i.zero, i.size, i.bytes)) = some (some (.agg #[.int .u16 0, .string ⟨#[]⟩]), 2, 24) := by kernel_rfl
theorem cell_two_new (w : World) (x y : Value) (t : TypeId) : ∀ j u, [x, y][j]? = some u → (w.alloc (.cells #[x, y] t)).cell? ((⟨w.heap.size, 0, none⟩ : Addr).add j) = some u := by
  intro j u hj
  match j, hj with
  | 0, hj => simp at hj; subst hj; simp [Addr.add]
  | 1, hj => simp at hj; subst hj; simp [Addr.add]
def slen : Value → Nat
  | .slice _ n _ => n
  | _ => 0
set_option maxHeartbeats 2000000 in
set_option maxRecDepth 100000 in
theorem keys33 (w : World) (o : Nat) (m : Option Nat) (most : Int) (L : List E) (hl : L.length < 100000) (h : Od w o m most L) :
    Calls Try.prog 64 #[PT o] w fun e w' => ∃ v, e = .returned v ∧ w'.ownsRow w.heap.size 39 2 v L.length (cellsK (L.map Prod.fst)) ∧ Touch [] w w' := by
  obtain ⟨i3, hi, hz0, hz1, hz2⟩ := info_parts info36
  have HL := hid (len20 w o m most L h)
  have HO := hid h
  clear h
  unfold PT
  go_enter Try.func64, Try.ntmps64
  go_wp2_with fail
  unfold PT at HL
  refine HL.out.mono ?_
  rintro e w1 ⟨rfl, rfl⟩
  go_wp2_with (at_make; refine wpList_make_own _ rfl _ _ 69 rfl w1.heap.size 39 i3 (.agg #[.int .u16 0, .string ⟨#[]⟩]) 2 Try.underlying69 hi hz0 hz1 .i64 .i64 _ L.length rfl rfl rfl (by rw [hz2]; omega) (by unfold maxLen; omega) (Nat.le_refl _) ?_; intro w3 o3 g3; have T3 : Hid (Touch [] w1 w3) := Touch.grown (Touch.refl _ _) g3 (fun k hk => by cases hk); have c2 := (HO.out.keep0 T3.out).ln.oc.c2; have O3 := hid o3; clear o3 g3; unfold PP at c2; obtain ⟨p0, hp0⟩ : ∃ p0 : Option Addr, (hd L none).map (fun q => (⟨q, 0, none⟩ : Addr)) = p0 := ⟨_, rfl⟩; rw [hp0] at c2; have HP0 := hid hp0; clear hp0)
  go_loopw [3, 4] (fun s p wr => ∃ (A B : List E) (a p0 : Option Addr) (c : Nat), Hid (L = A ++ B ∧ (hd B none).map (fun q => (⟨q, 0, none⟩ : Addr)) = p0) ∧ s = .slice a A.length c ∧ p = .pointer p0 ∧ Hid (wr.ownsRow w1.heap.size 39 2 (.slice a A.length c) A.length (cellsK (A.map Prod.fst)) ∧ Touch [] w1 wr)) (fun s _ _ => L.length - slen s)
  case atStart => exact ⟨[], L, _, _, _, ⟨rfl, HP0.out⟩, rfl, rfl, O3.out, T3.out⟩
  case round =>
    obtain ⟨A, B, a, p1, c, HAB, rfl, rfl, HR⟩ := hrel
    cases B with
    | nil =>
      obtain rfl : none = p1 := HAB.out.2
      clear HP0 c2 HL
      go_wp2
      go_ret
      have hAB := HAB.out.1
      rw [List.append_nil] at hAB
      refine ⟨_, rfl, ?_, HR.out.2⟩
      rw [hAB]
      exact HR.out.1
    | cons e B =>
      obtain rfl : some ⟨e.2, 0, none⟩ = p1 := HAB.out.2
      have hAB := HAB.out.1
      have hn : Nd wr e.2 e.1 (lst A none) (hd B none) := by
        have := (HO.out.keep0 HR.out.2).ln.sg
        rw [hAB] at this
        exact ((seg_append _ _ _ _).1 this).2.1
      have HN := hid hn
      have HNL : Hid (¬ w1.heap.size ≤ e.2) := by
        have : e.2 < w1.heap.size := HO.out.lt _ (by rw [hAB]; simp [fp])
        show ¬ _
        omega
      have n0 := hn.c0
      have n1 := hn.c1
      have hbr := HR.out.2.size
      have hAl : A.length < 100000 := by rw [hAB] at hl; simp at hl; omega
      have hlt : A.length < L.length := by rw [hAB]; simp
      have HX : Hid (cellsK ((A ++ [e]).map Prod.fst) = cellsK (A.map Prod.fst) ++ [.int .u16 e.1.1, .string e.1.2]) := by
        show _ = _
        rw [List.map_append, cellsK_app]; rfl
      clear O3 T3 hn HL c2 hAB HP0
      obtain ⟨p2, hp2⟩ : ∃ p2 : Option Addr, (hd B none).map (fun q => (⟨q, 0, none⟩ : Addr)) = p2 := ⟨_, rfl⟩
      have HP2 := hid hp2
      clear hp2
      go_wp2_with (at_builtin; refine wpList_append_lies _ rfl _ _ 69 rfl w1.heap.size 39 i3 (.agg #[.int .u16 0, .string ⟨#[]⟩]) 2 24 Try.underlying69 hi hz0 hz1 hz2 rfl (by decide) (.slice a A.length c) A.length (cellsK (A.map Prod.fst)) rfl (HR.out.1.alloc _) ⟨wr.heap.size, 0, none⟩ 1 1 [.int .u16 e.1.1, .string e.1.2] rfl rfl (cell_two_new _ _ _ _) (by simp [Value.oneCell']) (by decide) (by unfold maxLen; omega) (by omega) (by simp; omega) _ rfl ?_; intro g1 c1 w5 hown5 hgrow hat hlt5; have T5 : Touch (Value.slice a A.length c).ownBlock.toList wr w5 := ((Touch.refl _ _).alloc _).grown hgrow (fun j hj => Or.inl (by simp [hj])); have TW : Touch [] w1 w5 := HR.out.2.trans T5 (fun j hj => Or.inr (HR.out.1.lt j (by simpa using hj)).1); have n3 := (HN.out.keep (w' := w5) (T5.block _ HN.out.lt (fun hh => absurd (HR.out.1.lt _ (by simpa using hh)).1 HNL.out))).c3; have HW := hid (And.intro hown5 TW); clear TW T5 hgrow hat hown5; unfold PP at n3; rw [HP2.out] at n3)
      go_roundw
      case rel => exact ⟨A ++ [e], B, some ⟨g1, 0, none⟩, _, c1, ⟨by rw [HAB.out.1]; simp, HP2.out⟩, by simp, rfl, by rw [HX.out]; simpa using HW.out.1, HW.out.2⟩
      case measure => simp [slen]; omega
end Go.Proofs.Ytopepalpmkeffaa
