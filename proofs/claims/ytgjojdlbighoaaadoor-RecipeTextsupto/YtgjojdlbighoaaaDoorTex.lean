/- The program's text of a recipe; the conditions: the listed variables hold what the start lays, the list lies in memory. -/
import Derived.Test.YtgjojdlbighoaaaDoorWor
import Derived.Test.YtgjojdlbighoaaaDoorPrs
namespace Go.Proofs.YtgjojdlbighoaaaDoor
open Go.RowKit Go.Sort
set_option linter.unusedVariables false

/-- the words of a recipe, and its text -/
def wsL (L : List Sp) : List ByteArray := L.flatMap (fun x => wsX x.1.toNat x.2.1 x.2.2)
def textB (L : List Sp) : ByteArray := ⟨(Lib.join ((wsL L).map (·.data.toList)) [32]).toArray⟩
theorem wsL_app (a b : List Sp) : wsL (a ++ b) = wsL a ++ wsL b := by unfold wsL; simp
theorem wsL_one (x : Sp) : wsL [x] = wsX x.1.toNat x.2.1 x.2.2 := by unfold wsL; simp
theorem wsX_len (k : Nat) (a b : Int) : (wsX k a b).length ≤ 3 := by
  unfold wsX
  rw [wsJ_len _ _ _ _ (named_le k)]
  have := named_le k
  omega
theorem wsL_len (L : List Sp) : (wsL L).length ≤ 3 * L.length := by
  induction L with
  | nil => exact Nat.le_refl _
  | cons x L ih =>
    rw [show x :: L = [x] ++ L from rfl, wsL_app, List.length_append, wsL_one]
    have := wsX_len x.1.toNat x.2.1 x.2.2
    simp
    omega
theorem kWord_size (k : Nat) : (kWord k).size ≤ 6 := by unfold kWord; split <;> decide
theorem wsX_size (k : Nat) (a b : Int) (ha : I64 a) (hb : I64 b) : ∀ y ∈ wsX k a b, y.size ≤ 21 := by
  intro y hy
  unfold wsX wsJ at hy
  rcases List.mem_cons.1 hy with rfl | hy
  · have := kWord_size k; omega
  · have hy := List.mem_of_mem_take hy
    rcases List.mem_cons.1 hy with rfl | hy
    · exact itoaB_size a ha
    · rw [List.mem_singleton] at hy
      subst hy
      exact itoaB_size b hb
theorem wsL_size (L : List Sp) (hw : WfS L) : ∀ y ∈ wsL L, y.size ≤ 21 := by
  intro y hy
  unfold wsL at hy
  obtain ⟨x, hx, hy⟩ := List.mem_flatMap.1 hy
  exact wsX_size _ _ _ (hw x hx).2.1 (hw x hx).2.2 y hy
theorem lens_le (xs : List ByteArray) (h : ∀ y ∈ xs, y.size ≤ 21) : Lib.lens (xs.map (·.data.toList)) ≤ 21 * xs.length := by
  induction xs with
  | nil => simp [Lib.lens]
  | cons x xs ih =>
    have h1 := ih (fun y hy => h y (by simp [hy]))
    have h2 : x.data.toList.length ≤ 21 := h x (by simp)
    simp [Lib.lens] at h1 ⊢
    simp at h2
    omega
theorem join_le (xs : List ByteArray) (h : ∀ y ∈ xs, y.size ≤ 21) : (Lib.join (xs.map (·.data.toList)) [32]).length ≤ 22 * xs.length := by
  cases xs with
  | nil => simp [Lib.join_nil]
  | cons x xs =>
    have h1 := lens_le (x :: xs) h
    rw [List.map_cons] at h1 ⊢
    rw [Lib.join_length]
    simp only [List.length_cons, List.length_nil, List.length_map] at h1 ⊢
    omega
theorem text_size {L : List Sp} (hg : Good L) (hw : WfS L) : (textB L).size ≤ 16896 := by
  show (Lib.join ((wsL L).map (·.data.toList)) [32]).toArray.size ≤ 16896
  rw [List.size_toArray]
  have h1 := join_le (wsL L) (wsL_size L hw)
  have h2 := wsL_len L
  have h3 := hg.1
  omega
theorem text24_no (L : List Sp) (A : Option Addr) (c : Nat) (w : World) (hS : Sy w) (hs : Sl w A L) (hw : WfS L) (hl : L.length ≤ 1000000000000000) (hb : ¬ Good L) :
    Calls Tryd.prog 24 #[.slice A L.length c] w fun e w' => e = .returned (.tuple #[.string ⟨#[]⟩, .int .i64 (chkS L).1, .int .i64 (chkS L).2]) ∧ Gr w w' := by
  have HC : Hid _ := check8 L A c w hS.kd hs hw hl
  have h1 : ¬ (chkS L).2 = 0 := fun h => hb (chk_good.1 h)
  have hne : ((chkS L).2 == 0) = false := by simpa using h1
  generalize (chkS L).2 = v at *
  generalize (chkS L).1 = v1 at *
  clear hS hs hw hl hb h1
  go_enter Tryd.func24, Tryd.ntmps24
  go_wp2_with fail
  refine Calls.mono HC.out ?_
  rintro e w1 ⟨rfl, hg⟩
  go_wp2_with fail
  go_ret3
  exact ⟨rfl, hg⟩
set_option maxRecDepth 20000 in
set_option maxHeartbeats 4000000 in
theorem text24_ok (L : List Sp) (A : Option Addr) (c : Nat) (w : World) (hS : Sy w) (hs : Sl w A L) (hw : WfS L) (hg : Good L) :
    Calls Tryd.prog 24 #[.slice A L.length c] w fun e w' => e = .returned (.tuple #[.string (textB L), .int .i64 0, .int .i64 0]) ∧ Gr w w' := by
  obtain ⟨i0, hi, hz0, hz1, hz2⟩ := info_parts info9
  have HC : Hid _ := check8 L A c w hS.kd hs hw (by have := hg.1; omega)
  rw [chk_fst hg] at HC
  have HS : Hid (Sy w ∧ Sl w A L ∧ WfS L ∧ Good L) := ⟨hS, hs, hw, hg⟩
  have hl' : (L.length : Int) ≤ 256 := by have := hg.1; omega
  have HT : Hid (textB L = ⟨(Lib.join ((wsL L).map (·.data.toList)) [32]).toArray⟩) := rfl
  generalize textB L = TB at *
  clear hS hs hw hg
  go_enter Tryd.func24, Tryd.ntmps24
  go_wp2_with fail
  refine Calls.mono HC.out ?_
  rintro e w1 ⟨rfl, hg1⟩
  have HG1 : Hid (Gr w w1) := hg1
  clear hg1 HC
  go_wp2_with fail
  go_loopw [7, 21] (fun t i wr => ∃ (j : Nat) (v : Value), t = v ∧ i = .int .i64 j ∧ j ≤ L.length ∧ Hid (wr.ownsRow w.heap.size 9 1 v (wsL (L.take j)).length (strs (wsL (L.take j)))) ∧ Hid (Gr w wr)) (fun _ i _ => L.length - (intOf i).toNat)
  case atStart => exact ⟨0, _, rfl, rfl, Nat.zero_le _, ⟨rfl, Or.inl ⟨rfl, rfl⟩⟩, HG1.out⟩
  case round =>
    obtain ⟨j, v, hv0, rfl, hj, HO, HG⟩ := hrel
    subst hv0
    by_cases hlt : j < L.length
    · have hjz : (j : Int) < (L.length : Int) := by omega
      have hjz0 : (0 : Int) ≤ (j : Int) := by omega
      obtain ⟨b, off, rfl, f0, f1, f2⟩ := (HS.out.2.1.gr HG.out) j hlt
      have hmem := List.getElem_mem hlt
      have hmay : may L[j] := HS.out.2.2.2.2 _ hmem
      have hwf := HS.out.2.2.1 _ hmem
      have HX : Hid (wsL (L.take (j + 1)) = wsL (L.take j) ++ wsX L[j].1.toNat L[j].2.1 L[j].2.2) := by show _ = _; rw [List.take_succ_eq_append_getElem hlt, wsL_app, wsL_one]
      have hop := may_op hmay
      obtain ⟨k, hk⟩ : ∃ k : Nat, L[j].1 = k := ⟨L[j].1.toNat, by omega⟩
      rw [hk] at f0 HX hop
      rw [Int.toNat_natCast] at HX
      have HC : Hid _ := fun w' (hg : Gr w w') => wordsOf39 k L[j].2.1 L[j].2.2 w' (HS.out.1.gr hg) (by omega) (by omega) hwf.2.1 hwf.2.2
      have HLn : Hid ((wsX k L[j].2.1 L[j].2.2).length ≤ 3 ∧ (wsL (L.take j)).length ≤ 768) := ⟨wsX_len _ _ _, by have h1 := wsL_len (L.take j); rw [List.length_take] at h1; have := HS.out.2.2.2.1; omega⟩
      clear hmem hmay hwf hk
      generalize wsX k L[j].2.1 L[j].2.2 = WS at *
      generalize L[j].2.1 = y at *
      generalize L[j].2.2 = z at *
      go_wp2_with fail
      refine Calls.mono (HC.out _ (HG.out.alloc _)) ?_
      rintro e w2 ⟨g, c2, rfl, hown2, hg2⟩
      have hO2 := owns_gr (owns_gr HO.out ((Gr.refl wr).alloc (.cells #[.int .i64 k, .int .i64 y, .int .i64 z] 64))) hg2
      have HG2 : Hid (Gr w w2) := (HG.out.alloc _).trans hg2
      have hsz := HG2.out.size
      have hcell : ∀ q u, (strs WS)[q]? = some u → w2.cell? ((⟨g, 0, none⟩ : Addr).add q) = some u := fun q u hq => by
        have e : (⟨g, 0, none⟩ : Addr).add q = ⟨g, q, none⟩ := by simp [Addr.add]; exact fun h => h.symm
        rw [e]
        obtain ⟨h1, h2 | ⟨g', cap', cur, hv, hg', hc, hn, hm, hs, ht⟩⟩ := hown2
        · cases h2.1
        · simp only [Value.slice.injEq, Option.some.injEq, Addr.mk.injEq, and_true, true_and] at hv
          obtain ⟨rfl, rfl⟩ := hv
          have hq' : q < (strs WS).length := (List.getElem?_eq_some_iff.1 hq).1
          have : cur[q]? = some u := by rw [← Array.getElem?_toList, ← hq, ← ht, List.getElem?_take, if_pos (by omega)]
          simp [World.cell?, hc, this]
      have hone : ∀ u ∈ strs WS, u.oneCell' = true := fun u hu => by
        obtain ⟨x, _, rfl⟩ := List.mem_map.1 hu
        rfl
      have hln := HLn.out
      have hsl : (strs WS).length = WS.length * 1 := by rw [strs_len]; omega
      clear hown2 hg2 HC HG
      generalize wsL (L.take j) = P at *
      go_wp2_with (at_builtin; refine wpList_append_own _ rfl _ _ 91 rfl w.heap.size 9 i0 (.string ⟨#[]⟩) 1 16 Tryd.underlying91 hi hz0 hz1 hz2 rfl (by decide) _ P.length (strs P) rfl hO2 ⟨g, 0, none⟩ WS.length c2 (strs WS) rfl hsl hcell hone (by unfold maxLen; omega) (by omega) (by omega) ?_; intro v3 w3 hown3 hgrow hnil)
      have HG3 : Hid (Gr w w3) := Below.grown HG2.out hgrow (by omega) (fun q hq => (hO2.lt q hq).1)
      rw [← strs_app, ← HX.out] at hown3
      have HO3 : Hid (w3.ownsRow w.heap.size 9 1 v3 (wsL (L.take (j + 1))).length (strs (wsL (L.take (j + 1))))) := by
        show World.ownsRow _ _ _ _ _ _ _
        have h1 : (wsL (L.take (j + 1))).length = P.length + WS.length := by rw [HX.out, List.length_append]
        rw [h1]
        exact hown3
      clear hown3 hgrow hnil hO2 hcell hone hln hsl
      go_roundw
      case rel => exact ⟨j + 1, _, rfl, by go_num, by omega, HO3.out, HG3.out⟩
      case measure => simp [intOf]; omega
    · have hjz : ¬ (j : Int) < (L.length : Int) := by omega
      obtain rfl : j = L.length := by omega
      rw [List.take_length] at HO
      have HJ : Hid ((Lib.join ((wsL L).map (·.data.toList)) [32]).length ≤ 140737488355328 ∧ (wsL L).length ≤ 140737488355328) := by
        have h1 := join_le (wsL L) (wsL_size L HS.out.2.2.1)
        have h2 := wsL_len L
        have h3 := HS.out.2.2.2.1
        exact ⟨by omega, by omega⟩
      rcases hv : HO.out.2 with ⟨rfl, h0⟩ | ⟨g, cc, cur, rfl, hgb, hc, hn, hm, hsz, ht⟩
      · have HN : Hid (wsL L = []) := List.length_eq_zero_iff.1 h0
        clear hv HO h0
        go_wp2_with fail
        refine Calls.mono (Tryd.strings_Join_none _ _ _ _) ?_
        rintro e w2 ⟨rfl, rfl⟩
        go_wp2_with fail
        go_ret3
        exact ⟨by rw [HT.out, HN.out]; rfl, HG.out⟩
      · clear hv
        have hcells : ∀ (q : Nat) x, (wsL L)[q]? = some x → wr.cell? ⟨g, 0 + q, none⟩ = some (.string x) := fun q x hq => by
          rw [Nat.zero_add]
          have hq2 : (strs (wsL L))[q]? = some (.string x) := by simp [strs, hq]
          have hq' : q < (strs (wsL L)).length := (List.getElem?_eq_some_iff.1 hq2).1
          rw [strs_len] at hq'
          have : cur[q]? = some (.string x) := by rw [← Array.getElem?_toList, ← hq2, ← ht, List.getElem?_take, if_pos (by omega)]
          simp [World.cell?, hc, this]
        have C : Hid _ := Tryd.strings_Join g 0 cc (wsL L) ⟨#[32]⟩ wr hcells (block_lt hc) HJ.out.2 hn HJ.out.1
        clear hcells hgb hc hn hm hsz ht HO
        go_wp2_with fail
        refine Calls.mono C.out ?_
        rintro e w2 ⟨rfl, hb2⟩
        go_wp2_with fail
        go_ret3
        exact ⟨by rw [HT.out]; rfl, HG.out.trans hb2⟩
end Go.Proofs.YtgjojdlbighoaaaDoor
