/- The program's words of a step; the conditions: the listed variables hold what the start lays, the step may be. -/
import Derived.Test.YtgjojdlbighoaaaDoorSys
import Derived.Test.YtgjojdlbighoaaaDoorStp
import Derived.Test.YtgjojdlbighoaaaDoorGiv
namespace Go.Proofs.YtgjojdlbighoaaaDoor
open Go.RowKit Go.Sort
set_option linter.unusedVariables false

def strs (l : List ByteArray) : List Value := l.map Value.string
theorem strs_app (l k : List ByteArray) : strs (l ++ k) = strs l ++ strs k := by simp [strs]
theorem strs_len (l : List ByteArray) : (strs l).length = l.length := by simp [strs]
/-- the words of a step, its word and so many numbers -/
def wsJ (k : Nat) (a b : Int) (j : Nat) : List ByteArray := kWord k :: ([itoaB a, itoaB b].take j)
def wsX (k : Nat) (a b : Int) : List ByteArray := wsJ k a b (kNamed k)
theorem wsJ_0 (k : Nat) (a b : Int) : wsJ k a b 0 = [kWord k] := rfl
theorem wsJ_1 (k : Nat) (a b : Int) : wsJ k a b 1 = wsJ k a b 0 ++ [itoaB a] := rfl
theorem wsJ_2 (k : Nat) (a b : Int) : wsJ k a b 2 = wsJ k a b 1 ++ [itoaB b] := rfl
theorem wsJ_len (k : Nat) (a b : Int) (j : Nat) (hj : j ≤ 2) : (wsJ k a b j).length = j + 1 := by
  rcases (by omega : j = 0 ∨ j = 1 ∨ j = 2) with rfl | rfl | rfl <;> rfl
theorem info9 : (Tryd.prog.info? 9).map (fun i => (i.zero, i.size, i.bytes)) = some (some (.string ⟨#[]⟩), 1, 16) := by kernel_rfl
theorem cell_one_str (w : World) (x : Value) (t : TypeId) : ∀ j u, [x][j]? = some u → (w.alloc (.cells #[x] t)).cell? ((⟨w.heap.size, 0, none⟩ : Addr).add j) = some u := by
  intro j u hj
  match j, hj with
  | 0, hj => simp at hj; subst hj; simp [Addr.add]
theorem grown_b2 {w w' : World} {row : Option Nat} {b : Nat} {v0 v1 : Value} (h : B2 w b v0 v1) (hg : w.grownBy w' row) (hn : row ≠ some b) : B2 w' b v0 v1 := by
  have e : w'.heap[b]? = w.heap[b]? := hg.block b h.lt (fun e => hn e.symm)
  refine ⟨Nat.lt_of_lt_of_le h.lt hg.size, ?_, ?_, ?_, ?_⟩
  · rw [World.cell?_of_block (by exact e)]; exact h.c0
  · rw [World.cell?_of_block (by exact e)]; exact h.c1
  · rw [World.frozen?_of_block (by exact e)]; exact h.f0
  · rw [World.frozen?_of_block (by exact e)]; exact h.f1
theorem str_ne {w : World} {base g c n b : Nat} {x : ByteArray} {xs : List Value} {i : Int} {v : Value} (h : w.ownsRow base 9 1 (.slice (some ⟨g, 0, none⟩) n c) n (.string x :: xs)) (hb : B2 w b (.int .i64 i) v) : g ≠ b := by
  rintro rfl
  obtain ⟨h1, h2 | ⟨g', cap', cur, hv, hg, hc, hn, hm, hs, ht⟩⟩ := h
  · cases h2.1
  · simp only [Value.slice.injEq, Option.some.injEq, Addr.mk.injEq, and_true, true_and] at hv
    obtain ⟨rfl, rfl⟩ := hv
    have h3 := hb.c0
    have h4 : cur[0]? = some (.string x) := by
      have h5 := congrArg (·[0]?) ht
      simp only [List.getElem?_cons_zero] at h5
      rw [List.getElem?_take] at h5
      split at h5
      · rw [← Array.getElem?_toList]; exact h5
      · cases h5
    simp [World.cell?, hc, h4] at h3
def WoE (w w' : World) (ws : List ByteArray) (e : Ending) : Prop := ∃ g c, e = .returned (.slice (some ⟨g, 0, none⟩) ws.length c) ∧ w'.ownsRow w.heap.size 9 1 (.slice (some ⟨g, 0, none⟩) ws.length c) ws.length (strs ws) ∧ Gr w w'
set_option maxRecDepth 20000 in
set_option maxHeartbeats 4000000 in
theorem wordsOf39 (k : Nat) (a b : Int) (w : World) (hS : Sy w) (h1 : 1 ≤ k) (h2 : k ≤ 12) (ha : I64 a) (hb : I64 b) :
    Calls Tryd.prog 39 #[.agg #[.int .i64 k, .int .i64 a, .int .i64 b]] w fun e w' => WoE w w' (wsX k a b) e := by
  obtain ⟨i0, hi, hz0, hz1, hz2⟩ := info_parts info9
  have HS : Hid (Sy w ∧ I64 a ∧ I64 b) := ⟨hS, ha, hb⟩
  have G1 : Gr w (w.alloc (.cells #[.int .i64 k, .int .i64 a, .int .i64 b] 64)) := (Gr.refl w).alloc _
  have d0 := G1.cell' (hS.kd.word k (by omega))
  have d1 := G1.cell' (hS.kd.named k (by omega))
  have d2 := G1.cell' (hS.kd.la k (by omega))
  have d3 := G1.cell' (hS.kd.ha k (by omega))
  have d4 := G1.cell' (hS.kd.lb k (by omega))
  have d5 := G1.cell' (hS.kd.hb k (by omega))
  have kz : (k : Int) < 13 := by omega
  have kz0 : (0 : Int) ≤ (k : Int) := by omega
  have HNm : Hid (kNamed k ≤ 2) := named_le k
  have HW : Hid (wsX k a b = wsJ k a b (kNamed k)) := rfl
  have HJ0 : Hid (wsJ k a b 0 = [kWord k]) := rfl
  generalize wsX k a b = WS at *
  generalize kWord k = kw at *
  generalize kNamed k = nm at *
  generalize kLa k = t2 at *
  generalize kHa k = t3 at *
  generalize kLb k = t4 at *
  generalize kHb k = t5 at *
  clear G1 hS ha hb h1 h2
  go_enter Tryd.func39, Tryd.ntmps39
  go_wp2_with fail
  have HO0 : Hid (((((w.alloc (.cells #[.int .i64 k, .int .i64 a, .int .i64 b] 64)).alloc (.cells #[.string kw, .int .i64 nm, .int .i64 t2, .int .i64 t3, .int .i64 t4, .int .i64 t5] 108)).alloc (.cells #[.string kw] 9)).alloc (.cells #[.int .i64 a, .int .i64 b] 120)).ownsRow w.heap.size 9 1 (.slice (some ⟨w.heap.size + 1 + 1, 0, none⟩) 1 1) 1 (strs [kw])) := by
    refine World.ownsRow.alloc ⟨rfl, Or.inr ⟨w.heap.size + 1 + 1, 1, #[.string kw], rfl, by omega, ?_, Nat.le_refl _, by unfold maxLen; omega, rfl, rfl⟩⟩ _
    have := heap_alloc_new ((w.alloc (.cells #[.int .i64 k, .int .i64 a, .int .i64 b] 64)).alloc (.cells #[.string kw, .int .i64 nm, .int .i64 t2, .int .i64 t3, .int .i64 t4, .int .i64 t5] 108)) (.cells #[.string kw] 9)
    simp only [World.size_alloc] at this
    exact this
  have HB0 : Hid (B2 ((((w.alloc (.cells #[.int .i64 k, .int .i64 a, .int .i64 b] 64)).alloc (.cells #[.string kw, .int .i64 nm, .int .i64 t2, .int .i64 t3, .int .i64 t4, .int .i64 t5] 108)).alloc (.cells #[.string kw] 9)).alloc (.cells #[.int .i64 a, .int .i64 b] 120)) (w.heap.size + 1 + 1 + 1) (.int .i64 a) (.int .i64 b)) := by
    have := b2_new (((w.alloc (.cells #[.int .i64 k, .int .i64 a, .int .i64 b] 64)).alloc (.cells #[.string kw, .int .i64 nm, .int .i64 t2, .int .i64 t3, .int .i64 t4, .int .i64 t5] 108)).alloc (.cells #[.string kw] 9)) (.int .i64 a) (.int .i64 b) 120
    simp only [World.size_alloc] at this
    exact this
  have HG0 : Hid (Gr w ((((w.alloc (.cells #[.int .i64 k, .int .i64 a, .int .i64 b] 64)).alloc (.cells #[.string kw, .int .i64 nm, .int .i64 t2, .int .i64 t3, .int .i64 t4, .int .i64 t5] 108)).alloc (.cells #[.string kw] 9)).alloc (.cells #[.int .i64 a, .int .i64 b] 120))) := ((((Gr.refl w).alloc _).alloc _).alloc _).alloc _
  clear d0 d1 d2 d3 d4 d5
  go_loopw [4, 21] (fun v4 i wr => ∃ (j g c : Nat), i = .int .i64 j ∧ j ≤ nm ∧ v4 = .slice (some ⟨g, 0, none⟩) (j + 1) c ∧ Hid (wr.ownsRow w.heap.size 9 1 (.slice (some ⟨g, 0, none⟩) (j + 1) c) (j + 1) (strs (wsJ k a b j))) ∧ Hid (B2 wr (w.heap.size + 1 + 1 + 1) (.int .i64 a) (.int .i64 b)) ∧ Hid (Gr w wr)) (fun _ i _ => nm - (intOf i).toNat)
  case atStart => exact ⟨0, _, _, rfl, Nat.zero_le _, rfl, by show World.ownsRow _ _ _ _ _ _ _; rw [HJ0.out]; exact HO0.out, HB0.out, HG0.out⟩
  case round =>
    obtain ⟨j, g, c, rfl, hj, rfl, HO, HB, HG⟩ := hrel
    by_cases hlt : j < nm
    · have hjz : (j : Int) < (nm : Int) := by omega
      have hjz0 : (0 : Int) ≤ (j : Int) := by omega
      have hj2 : (j : Int) < 2 := by have := HNm.out; omega
      obtain ⟨y, hy⟩ : ∃ y : Int, (if j = 0 then a else b) = y := ⟨_, rfl⟩
      have HY : Hid (I64 y ∧ strs (wsJ k a b (j + 1)) = strs (wsJ k a b j) ++ [.string (itoaB y)] ∧ j < 2) := by
        rcases (by have := HNm.out; omega : j = 0 ∨ j = 1) with rfl | rfl
        · rw [← hy, wsJ_1, strs_app]; exact ⟨HS.out.2.1, rfl, by omega⟩
        · rw [← hy, wsJ_2, strs_app]; exact ⟨HS.out.2.2, rfl, by omega⟩
      have cy : wr.cell? ⟨w.heap.size + 1 + 1 + 1, j, none⟩ = some (.int .i64 y) := by
        rcases (by have := HNm.out; omega : j = 0 ∨ j = 1) with rfl | rfl
        · rw [← hy]; exact HB.out.c0
        · rw [← hy]; exact HB.out.c1
      clear hy
      go_wp2_with fail
      refine Calls.mono (format58 y HY.out.1 wr (HS.out.1.gr HG.out).tab) ?_
      rintro e w1 ⟨rfl, g1⟩
      have hown1 := owns_gr HO.out g1
      have HB1 : Hid _ := HB.out.gr g1
      have HG1 : Hid (Gr w w1) := HG.out.trans g1
      have hsz := HG1.out.size
      have hj3 := HY.out.2.2
      generalize itoaB y = Y at *
      clear g1 cy
      go_wp2_with (at_builtin; refine wpList_append_lies _ rfl _ _ 91 rfl w.heap.size 9 i0 (.string ⟨#[]⟩) 1 16 Tryd.underlying91 hi hz0 hz1 hz2 rfl (by decide) _ _ _ rfl (hown1.alloc _) ⟨w1.heap.size, 0, none⟩ 1 1 [.string Y] rfl rfl (cell_one_str _ _ _) (by simp [Value.oneCell']) (by decide) (by unfold maxLen; omega) (by omega) (by simp; omega) _ rfl ?_; intro g2 c2 w3 hown3 hgrow hat hlt3)
      have hB3 := grown_b2 (HB1.out.gr ((Gr.refl _).alloc _)) hgrow (fun h => by
        have h1 : some g = some (w.heap.size + 1 + 1 + 1) := h
        exact str_ne hown1 HB1.out (Option.some.inj h1))
      have HB3 : Hid _ := hB3
      have HG3 : Hid (Gr w w3) := Below.grown (HG1.out.alloc _) hgrow (by simp; omega) (fun q hq => (hown1.lt q hq).1)
      rw [← HY.out.2.1] at hown3
      have HO3 : Hid _ := hown3
      clear hown3 hgrow hat hlt3 hB3 hown1
      go_wp2_with fail
      go_roundw
      case rel => exact ⟨j + 1, g2, c2, by go_num, by omega, rfl, HO3.out, HB3.out, HG3.out⟩
      case measure => simp [intOf]; omega
    · have hjz : ¬ (j : Int) < (nm : Int) := by omega
      obtain rfl : j = nm := by omega
      go_wp2_with fail
      go_ret
      have hl := wsJ_len k a b j HNm.out
      refine ⟨g, c, ?_, ?_, HG.out⟩
      · rw [HW.out, hl]; rfl
      · rw [HW.out, hl]; exact HO.out
end Go.Proofs.YtgjojdlbighoaaaDoor
