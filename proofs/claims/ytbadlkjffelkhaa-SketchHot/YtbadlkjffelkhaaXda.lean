/- The contract of the document's Add; no conditions but those that it states. -/
import Derived.Test.YtbadlkjffelkhaaXdh
import Derived.Test.YtbadlkjffelkhaaXac
namespace Go.Proofs.Ytbadlkjffelkhaa.Sk
open Go.RowKit Go.Maps Go.ChangeMaps
set_option maxRecDepth 100000
set_option linter.unusedVariables false
set_option linter.unusedSimpArgs false
/-- A sketch of the document's is told. -/
def DrE (v : Value) (w w' : World) (X : S) : Prop := ∃ G cap Q Cp, v = dv (.slice (some ⟨G, 0, none⟩) X.r cap) X ∧ Dq w' 0 G cap Q Cp X ∧ Touch [] w w'
theorem DnE.dr {v : Value} {w w' : World} {X : S} (h : DnE v w w' X) : DrE v w w' X := by
  obtain ⟨G, cap, Q, Cp, e, d, t⟩ := h
  exact ⟨G, cap, Q, Cp, e, d.base (Nat.zero_le _), t⟩
theorem three_new (w : World) (a b c : Array Value) (ta tb tc : TypeId) : Touch [] w (((w.alloc (.cells a ta)).alloc (.cells b tb)).alloc (.cells c tc)) ∧ (((w.alloc (.cells a ta)).alloc (.cells b tb)).alloc (.cells c tc)).heap[w.heap.size]? = some (.cells a ta (0, 0)) ∧ (((w.alloc (.cells a ta)).alloc (.cells b tb)).alloc (.cells c tc)).heap[w.heap.size + 1]? = some (.cells b tb (0, 0)) ∧ (((w.alloc (.cells a ta)).alloc (.cells b tb)).alloc (.cells c tc)).heap[w.heap.size + 2]? = some (.cells c tc (0, 0)) := by
  obtain ⟨t, h1, h2⟩ := two_new w a b ta tb
  have tt : Touch [] ((w.alloc (.cells a ta)).alloc (.cells b tb)) _ := (Touch.refl [] _).alloc (.cells c tc)
  refine ⟨t.trans' tt, tt.keep h1 (by simp), tt.keep h2 (by simp), ?_⟩
  have := heap_alloc_new ((w.alloc (.cells a ta)).alloc (.cells b tb)) (.cells c tc)
  rwa [World.size_alloc, World.size_alloc] at this
def addD (X : S) (hv n k : Nat) : Nat → Nat → Nat := if n < 255 then addC X hv n k else X.c
theorem addD_yes (X : S) (hv n k : Nat) (h : n < 255) (e : at_ X hv k = n) : addD X hv n (k + 1) = upd (addD X hv n k) k (plc X.b hv k) (n + 1) := by
  unfold addD
  rw [if_pos h, if_pos h]
  show (if X.c k (plc X.b hv k) = n then _ else _) = _
  rw [if_pos (show X.c k (plc X.b hv k) = n from e)]
theorem addD_no (X : S) (hv n k : Nat) (h : ¬ (at_ X hv k = n ∧ n < 255)) : addD X hv n (k + 1) = addD X hv n k := by
  unfold addD
  by_cases h5 : n < 255
  · rw [if_pos h5, if_pos h5]
    show (if X.c k (plc X.b hv k) = n then _ else _) = _
    rw [if_neg (show ¬ X.c k (plc X.b hv k) = n from fun e => h ⟨e, h5⟩)]
  · rw [if_neg h5, if_neg h5]
theorem addD_at (X : S) (hv n k : Nat) : addD X hv n k k (plc X.b hv k) = at_ X hv k := by
  unfold addD
  split
  · exact addC_row X hv n k k _ (Nat.le_refl _)
  · rfl
theorem addD_end (X : S) (hv : Nat) : (addS X hv).c = addD X hv (cnt X hv) X.r := by
  unfold addS addD
  have := cnt_le X hv
  by_cases h : cnt X hv = 255
  · rw [if_pos h, if_neg (by omega)]
  · rw [if_neg h, if_pos (by omega)]
/-- The two boxes that the last step reads. -/
def Sw2 (w1 : World) (q : Nat) (X : S) (t G cap : Nat) (k : K) : Prop := w1.heap[q]? = some (.cells #[.int .i64 (X.b : Nat), .slice (some ⟨G, 0, none⟩) X.r cap, .int .u64 (t : Nat)] 29 (0, 0)) ∧ w1.heap[q + 1]? = some (.cells #[.int .u16 k.1, .string k.2] 50 (0, 0))
theorem Sw2.put {w1 : World} {q t G cap : Nat} {X : S} {k : K} (h : Sw2 w1 q X t G cap k) (a b c : Value) : Sw2 (((w1.setCell ⟨q + 2, 0, none⟩ a).setCell ⟨q + 2, 1, none⟩ b).setCell ⟨q + 2, 2, none⟩ c) q X t G cap k := by
  have tt : Touch [q + 2] w1 _ := (((Touch.refl _ w1).setCell (p := ⟨q + 2, 0, none⟩) (Or.inl (by simp)) a).setCell (p := ⟨q + 2, 1, none⟩) (Or.inl (by simp)) b).setCell (p := ⟨q + 2, 2, none⟩) (Or.inl (by simp)) c
  exact ⟨tt.keep h.1 (by simp), tt.keep h.2 (by simp)⟩
section
variable {w w' : World} {B G cap : Nat} {Q Cp : Nat → Nat} {X : S}
theorem radd_no {k : K} (h : Dq w B G cap Q Cp X) (h64 : 64 < k.2.size) : Calls Try.prog 14 #[dv (.slice (some ⟨G, 0, none⟩) X.r cap) X, kv k] w fun e w' => ∃ v, e = .returned (.tuple #[v, .int .i64 0, .int .i64 20]) ∧ DrE v w w' X := by
  have z : (64 : Int) < (k.2.size : Int) := by omega
  obtain ⟨V, hV⟩ : ∃ V, V = ((w.alloc (.cells (bxd X G cap) 29)).alloc (.cells (bxk k) 50)).alloc (.cells #[.int .i64 0, .slice none 0 0, .int .u64 0] 29) := ⟨_, rfl⟩
  obtain ⟨TV, hb1, hb2, hb3⟩ := three_new w (bxd X G cap) (bxk k) #[.int .i64 0, .slice none 0 0, .int .u64 0] 29 50 29
  rw [← hV] at TV hb1 hb2 hb3
  have c0 := cell_at (j := 0) (v := .int .i64 (X.b : Nat)) hb1 rfl
  have c1 := cell_at (j := 1) (v := .slice (some ⟨G, 0, none⟩) X.r cap) hb1 rfl
  have c2 := cell_at (j := 2) (v := .int .u64 (X.t : Nat)) hb1 rfl
  have d1 := cell_at (j := 1) (v := .string k.2) hb2 rfl
  have y0 := cell_at (j := 0) (v := .int .i64 0) hb3 rfl
  have y1 := cell_at (j := 1) (v := .slice none 0 0) hb3 rfl
  have y2 := cell_at (j := 2) (v := .int .u64 0) hb3 rfl
  have f3 := froz_at hb3
  have HE : Hid (DrE (dv (.slice (some ⟨G, 0, none⟩) X.r cap) X) w (((V.setCell ⟨w.heap.size + 2, 0, none⟩ (.int .i64 (X.b : Nat))).setCell ⟨w.heap.size + 2, 1, none⟩ (.slice (some ⟨G, 0, none⟩) X.r cap)).setCell ⟨w.heap.size + 2, 2, none⟩ (.int .u64 (X.t : Nat))) X) := hid (by
    have tt : Touch [] w _ := (((TV.setCell (p := ⟨w.heap.size + 2, 0, none⟩) (Or.inr (by simp)) (.int .i64 (X.b : Nat))).setCell (p := ⟨w.heap.size + 2, 1, none⟩) (Or.inr (by simp)) (.slice (some ⟨G, 0, none⟩) X.r cap)).setCell (p := ⟨w.heap.size + 2, 2, none⟩) (Or.inr (by simp)) (.int .u64 (X.t : Nat)))
    exact ⟨G, cap, Q, Cp, rfl, (h.keep0 tt).base (Nat.zero_le _), tt⟩)
  clear h h64 TV hb1 hb2 hb3
  unfold kv dv bxd bxk at *
  go_enter Try.func14, Try.ntmps14
  go_upto_region 1 with fail
  rw [← hV]
  clear hV
  go_wp2
  exact bodyPost_ret (v := .tuple #[.agg #[.int .i64 (X.b : Nat), .slice (some ⟨G, 0, none⟩) X.r cap, .int .u64 (X.t : Nat)], .int .i64 0, .int .i64 20]) (by simp [results, Try.results14, go_sem, y0, y1, y2]) rfl ⟨_, rfl, HE.out⟩
set_option maxHeartbeats 8000000 in
theorem radd_ok {k : K} (h : Dq w B G cap Q Cp X) (hw : Wf X) (hk : Ok k) (h64 : k.2.size ≤ 64) : Calls Try.prog 14 #[dv (.slice (some ⟨G, 0, none⟩) X.r cap) X, kv k] w fun e w' => ∃ v, e = .returned (.tuple #[v, .int .i64 (addV X (hK k) : Nat), .int .i64 0]) ∧ DnE v w w' (addS X (hK k)) := by
  have z : ¬ (64 : Int) < (k.2.size : Int) := by omega
  obtain ⟨V, hV⟩ : ∃ V, V = ((w.alloc (.cells (bxd X G cap) 29)).alloc (.cells (bxk k) 50)).alloc (.cells #[.int .i64 0, .slice none 0 0, .int .u64 0] 29) := ⟨_, rfl⟩
  obtain ⟨TV, hb1, hb2, hb3⟩ := three_new w (bxd X G cap) (bxk k) #[.int .i64 0, .slice none 0 0, .int .u64 0] 29 50 29
  rw [← hV] at TV hb1 hb2 hb3
  have HSZ : Hid (w.heap.size + 3 ≤ V.heap.size) := hid (by rw [hV]; simp)
  have c0 := cell_at (j := 0) (v := .int .i64 (X.b : Nat)) hb1 rfl
  have c1 := cell_at (j := 1) (v := .slice (some ⟨G, 0, none⟩) X.r cap) hb1 rfl
  have c2 := cell_at (j := 2) (v := .int .u64 (X.t : Nat)) hb1 rfl
  have d1 := cell_at (j := 1) (v := .string k.2) hb2 rfl
  have HK0 : Hid (∀ w1, Touch [w.heap.size] V w1 → w1.cell? ⟨w.heap.size + 1, 0, none⟩ = some (.int .u16 k.1) ∧ w1.cell? ⟨w.heap.size + 1, 1, none⟩ = some (.string k.2)) := hid (fun w1 t1 => by
    have := t1.keep hb2 (by simp)
    exact ⟨cell_at this rfl, cell_at this rfl⟩)
  have HY0 : Hid (∀ w1, Touch [w.heap.size] V w1 → w1.cell? ⟨w.heap.size + 2, 0, none⟩ = some (.int .i64 0) ∧ w1.cell? ⟨w.heap.size + 2, 1, none⟩ = some (.slice none 0 0) ∧ w1.cell? ⟨w.heap.size + 2, 2, none⟩ = some (.int .u64 0) ∧ ∀ j, w1.frozen? ⟨w.heap.size + 2, j, none⟩ = false) := hid (fun w1 t1 => by
    have := t1.keep hb3 (by simp)
    exact ⟨cell_at this rfl, cell_at this rfl, cell_at this rfl, froz_at this⟩)
  obtain ⟨hv, hhv⟩ : ∃ hv, hv = hK k := ⟨_, rfl⟩
  obtain ⟨n, hn⟩ : ∃ n, n = cnt X hv := ⟨_, rfl⟩
  have hn2 : n ≤ 255 := by rw [hn]; exact cnt_le _ _
  have HCP : Hid (Calls Try.prog 32 #[dv (.slice (some ⟨G, 0, none⟩) X.r cap) X] V fun e w1 => ∃ G1 cap1 Q1 Cp1, e = .returned (dv (.slice (some ⟨G1, 0, none⟩) X.r cap1) X) ∧ (∃ a b c, w1.cell? ⟨w.heap.size, 0, none⟩ = some a ∧ w1.cell? ⟨w.heap.size, 1, none⟩ = some b ∧ w1.cell? ⟨w.heap.size, 2, none⟩ = some c) ∧ (∀ j, w1.frozen? ⟨w.heap.size, j, none⟩ = false) ∧ Cw V (((w1.setCell ⟨w.heap.size, 0, none⟩ (.int .i64 (X.b : Nat))).setCell ⟨w.heap.size, 1, none⟩ (.slice (some ⟨G1, 0, none⟩) X.r cap1)).setCell ⟨w.heap.size, 2, none⟩ (.int .u64 (X.t : Nat))) w.heap.size G1 cap1 Q1 Cp1 X) := hid (by
    refine (rcopy_ (h.keep0 TV)).mono ?_
    rintro e w1 ⟨v1, rfl, G1, cap1, Q1, Cp1, rfl, D1, T1⟩
    have m1 := T1.keep hb1 (by simp)
    exact ⟨G1, cap1, Q1, Cp1, rfl, ⟨_, _, _, cell_at (j := 0) m1 rfl, cell_at (j := 1) m1 rfl, cell_at (j := 2) m1 rfl⟩, froz_at m1, Cw.start T1 D1 m1 rfl (by have := HSZ.out; omega)⟩)
  have HCT : Hid (∀ w1 G1 cap1 Q1 Cp1, Cw V w1 w.heap.size G1 cap1 Q1 Cp1 X → (Calls Try.prog 19 #[dv (.slice (some ⟨G1, 0, none⟩) X.r cap1) X, kv k] w1 fun e w' => e = .returned (.int .i64 (n : Nat)) ∧ Cw V w' w.heap.size G1 cap1 Q1 Cp1 X) ∧ w1.cell? ⟨w.heap.size, 0, none⟩ = some (.int .i64 (X.b : Nat)) ∧ w1.cell? ⟨w.heap.size, 1, none⟩ = some (.slice (some ⟨G1, 0, none⟩) X.r cap1) ∧ w1.cell? ⟨w.heap.size, 2, none⟩ = some (.int .u64 (X.t : Nat)) ∧ w1.cell? ⟨w.heap.size + 1, 0, none⟩ = some (.int .u16 k.1) ∧ w1.cell? ⟨w.heap.size + 1, 1, none⟩ = some (.string k.2)) := hid (fun w1 G1 cap1 Q1 Cp1 c => by
    refine ⟨?_, c.c0, c.c1, c.c2, HK0.out _ c.t⟩
    refine (rcount_ok c.d hk h64 (fun i p => Nat.le_trans (hw.c2 i p) (by omega))).mono ?_
    rintro e w' ⟨e1, t1⟩
    rw [← hhv, ← hn] at e1
    exact ⟨e1, c.keep0 t1⟩)
  have HC0 : Hid (∀ w1 G1 cap1 Q1 Cp1, Cw V w1 w.heap.size G1 cap1 Q1 Cp1 X → Cw V w1 w.heap.size G1 cap1 Q1 Cp1 { X with c := addD X hv n 0 }) := hid (fun w1 G1 cap1 Q1 Cp1 c => by
    have e : addD X hv n 0 = X.c := by unfold addD; split <;> rfl
    rw [e]; exact c)
  have HPL : Hid (∀ w1 G1 cap1 Q1 Cp1 i, Cw V w1 w.heap.size G1 cap1 Q1 Cp1 { X with c := addD X hv n i } → (w1.cell? ⟨w.heap.size, 0, none⟩ = some (.int .i64 (X.b : Nat)) ∧ w1.cell? ⟨w.heap.size, 1, none⟩ = some (.slice (some ⟨G1, 0, none⟩) X.r cap1) ∧ w1.cell? ⟨w.heap.size, 2, none⟩ = some (.int .u64 (X.t : Nat)) ∧ w1.frozen? ⟨w.heap.size, 2, none⟩ = false ∧ w1.cell? ⟨w.heap.size + 1, 0, none⟩ = some (.int .u16 k.1) ∧ w1.cell? ⟨w.heap.size + 1, 1, none⟩ = some (.string k.2)) ∧ (i < X.r → (Calls Try.prog 30 #[dv (.slice (some ⟨G1, 0, none⟩) X.r cap1) X, kv k, .int .i64 (i : Nat)] w1 fun e w' => e = .returned (.int .i64 (plc X.b hv i : Nat)) ∧ Cw V w' w.heap.size G1 cap1 Q1 Cp1 { X with c := addD X hv n i }) ∧ w1.cell? ⟨G1, i, none⟩ = some (.slice (some ⟨Q1 i, 0, none⟩) (2 ^ X.b) (Cp1 i)) ∧ w1.cell? ⟨Q1 i, plc X.b hv i, none⟩ = some (.int .i64 (at_ X hv i : Nat)) ∧ w1.frozen? ⟨Q1 i, plc X.b hv i, none⟩ = false ∧ (at_ X hv i = n → n < 255 → Cw V (w1.setCell ⟨Q1 i, plc X.b hv i, none⟩ (.int .i64 ((n + 1 : Nat) : Int))) w.heap.size G1 cap1 Q1 Cp1 { X with c := addD X hv n (i + 1) }) ∧ (¬ (at_ X hv i = n ∧ n < 255) → Cw V w1 w.heap.size G1 cap1 Q1 Cp1 { X with c := addD X hv n (i + 1) }))) := hid (fun w1 G1 cap1 Q1 Cp1 i c => by
    refine ⟨⟨c.c0, c.c1, c.c2, c.fz 2, HK0.out _ c.t⟩, fun hi => ⟨?_, c.d.c0 hi, ?_, c.d.fz hi _, fun e h5 => ?_, fun e => ?_⟩⟩
    · refine (rplace_ (X := X) hk (by omega) h.b2 i (by have := h.r2; omega) w1).mono ?_
      rintro e w' ⟨e1, t1⟩
      rw [← hhv] at e1
      exact ⟨e1, c.keep0 t1⟩
    · have := c.d.c1 (i := i) hi (plc_lt X.b hv i)
      rw [← addD_at X hv n i]
      exact this
    · rw [addD_yes X hv n i h5 e]
      exact c.setC (n + 1) hi (plc_lt X.b hv i)
    · rw [addD_no X hv n i e]
      exact c)
  obtain ⟨t', ht'⟩ : ∃ t', t' = (X.t + 1) % 18446744073709551616 := ⟨_, rfl⟩
  have wt : IntKind.u64.wrap ((X.t : Int) + 1) = (t' : Int) := by rw [IntKind.wrap_u64]; omega
  have HTT : Hid ((addS X hv).t = t') := hid (by rw [ht']; rfl)
  have HVV : Hid (cnt (addS X hv) hv = addV X hv) := hid (cnt_addS hv)
  have HFN : Hid (∀ w1 G1 cap1 Q1 Cp1, Cw V w1 w.heap.size G1 cap1 Q1 Cp1 { X with c := addD X hv n X.r } → Cw V (w1.setCell ⟨w.heap.size, 2, none⟩ (.int .u64 (t' : Nat))) w.heap.size G1 cap1 Q1 Cp1 (addS X hv)) := hid (fun w1 G1 cap1 Q1 Cp1 c => by
    refine (c.setT t').congr rfl rfl (by rw [HTT.out]) (fun i p hi hp => ?_)
    rw [addD_end X hv, ← hn])
  have HLS : Hid (∀ w1 G1 cap1 Q1 Cp1, Cw V w1 w.heap.size G1 cap1 Q1 Cp1 (addS X hv) → w1.cell? ⟨w.heap.size, 0, none⟩ = some (.int .i64 (X.b : Nat)) ∧ w1.cell? ⟨w.heap.size, 1, none⟩ = some (.slice (some ⟨G1, 0, none⟩) X.r cap1) ∧ w1.cell? ⟨w.heap.size, 2, none⟩ = some (.int .u64 (t' : Nat)) ∧ w1.cell? ⟨w.heap.size + 1, 0, none⟩ = some (.int .u16 k.1) ∧ w1.cell? ⟨w.heap.size + 1, 1, none⟩ = some (.string k.2) ∧ (Calls Try.prog 19 #[.agg #[.int .i64 (X.b : Nat), .slice (some ⟨G1, 0, none⟩) X.r cap1, .int .u64 (t' : Nat)], kv k] w1 fun e w' => e = .returned (.int .i64 (addV X hv : Nat)) ∧ Touch [] w1 w') ∧ (w1.cell? ⟨w.heap.size + 2, 0, none⟩ = some (.int .i64 0) ∧ w1.cell? ⟨w.heap.size + 2, 1, none⟩ = some (.slice none 0 0) ∧ w1.cell? ⟨w.heap.size + 2, 2, none⟩ = some (.int .u64 0) ∧ ∀ j, w1.frozen? ⟨w.heap.size + 2, j, none⟩ = false) ∧ DnE (.agg #[.int .i64 (X.b : Nat), .slice (some ⟨G1, 0, none⟩) X.r cap1, .int .u64 (t' : Nat)]) w (((w1.setCell ⟨w.heap.size + 2, 0, none⟩ (.int .i64 (X.b : Nat))).setCell ⟨w.heap.size + 2, 1, none⟩ (.slice (some ⟨G1, 0, none⟩) X.r cap1)).setCell ⟨w.heap.size + 2, 2, none⟩ (.int .u64 (t' : Nat))) (addS X hv)) := hid (fun w1 G1 cap1 Q1 Cp1 c => by
    have c2 := c.c2
    rw [HTT.out] at c2
    refine ⟨c.c0, c.c1, c2, (HK0.out _ c.t).1, (HK0.out _ c.t).2, ?_, HY0.out _ c.t, ?_⟩
    · have := rcount_ok c.d hk h64 (fun i p => Nat.le_trans ((addS_wf hw hv).c2 i p) (by omega))
      rw [← hhv, HVV.out] at this
      unfold dv at this
      rw [HTT.out] at this
      exact this
    · have := c.fin (r := w.heap.size + 2) TV (Nat.le_refl _) (by omega) (by have := HSZ.out; omega)
      unfold dv at this
      rw [HTT.out] at this
      exact this)
  have HSW : Hid (∀ w1 G1 cap1 Q1 Cp1, Cw V w1 w.heap.size G1 cap1 Q1 Cp1 (addS X hv) → Sw2 w1 w.heap.size X t' G1 cap1 k) := hid (fun w1 G1 cap1 Q1 Cp1 c => by
    have cb := c.box
    unfold bxd at cb
    rw [HTT.out] at cb
    exact ⟨cb, c.t.keep hb2 (by simp)⟩)
  rw [← hhv]
  have r2 := h.r2
  have h2 := pow_le16 h.b2
  have HPLT := hid (fun i => plc_lt X.b hv i)
  have HKC : Hid (∀ w1 w2 G1 cap1 Q1 Cp1, Cw V w1 w.heap.size G1 cap1 Q1 Cp1 (addS X hv) → Touch [] w1 w2 → Cw V w2 w.heap.size G1 cap1 Q1 Cp1 (addS X hv)) := hid (fun w1 w2 G1 cap1 Q1 Cp1 c t => c.keep0 t)
  obtain ⟨W, hW⟩ : ∃ W, W = 2 ^ X.b := ⟨_, rfl⟩
  rw [← hW] at HPL h2 HPLT
  clear h hw hk h64 hb1 hb2 hb3 TV hhv hn ht' HTT HVV HK0 HY0 hW
  generalize addV X hv = AV at *
  unfold kv dv bxd bxk at *
  go_enter Try.func14, Try.ntmps14
  go_upto_region 1 with fail
  rw [← hV]
  clear hV
  go_wp2_with (first
    | (go_at_call 32; refine HCP.out.mono ?_; rintro e w1 ⟨G1, cap1, Q1, Cp1, rfl, ⟨x0, x1, x2, g0, g1, g2⟩, f1, C1⟩; obtain ⟨H1, p0, p1, p2, p3, p4⟩ := HCT.out _ _ _ _ _ C1; have H1 := hid H1; clear HCP HCT C1)
    | (go_at_call 19; refine H1.out.mono ?_; rintro e w2 ⟨rfl, C2⟩; have C2 := hid (HC0.out _ _ _ _ _ C2); clear HC0 p0 p1 p2 p3 p4 H1))
  go_loopw [8] (fun s8 wr => ∃ i : Nat, i ≤ X.r ∧ s8 = .int .i64 i ∧ Cw V wr w.heap.size G1 cap1 Q1 Cp1 { X with c := addD X hv n i }) (fun s8 _ => X.r - (intOf s8).toNat)
  case atStart => exact ⟨0, Nat.zero_le _, rfl, C2.out⟩
  case round =>
    obtain ⟨i, hi, rfl, CQ⟩ := hrel
    clear C2
    obtain ⟨⟨p0, p1, p2, p3, p4, p5⟩, pp⟩ := HPL.out _ _ _ _ _ _ CQ
    by_cases hlt : i < X.r
    · have zi : (i : Int) < (X.r : Int) := by omega
      have H1 := hid (pp hlt).1
      have hl := HPLT.out i
      have HQ : Hid (∀ w1, Cw V w1 w.heap.size G1 cap1 Q1 Cp1 { X with c := addD X hv n i } → w1.cell? ⟨w.heap.size, 1, none⟩ = some (.slice (some ⟨G1, 0, none⟩) X.r cap1) ∧ w1.cell? ⟨G1, i, none⟩ = some (.slice (some ⟨Q1 i, 0, none⟩) W (Cp1 i)) ∧ w1.cell? ⟨Q1 i, plc X.b hv i, none⟩ = some (.int .i64 (at_ X hv i : Nat)) ∧ w1.frozen? ⟨Q1 i, plc X.b hv i, none⟩ = false ∧ (at_ X hv i = n → n < 255 → Cw V (w1.setCell ⟨Q1 i, plc X.b hv i, none⟩ (.int .i64 ((n + 1 : Nat) : Int))) w.heap.size G1 cap1 Q1 Cp1 { X with c := addD X hv n (i + 1) }) ∧ (¬ (at_ X hv i = n ∧ n < 255) → Cw V w1 w.heap.size G1 cap1 Q1 Cp1 { X with c := addD X hv n (i + 1) })) := hid (fun w1 c => by
        obtain ⟨⟨_, a1, _⟩, q⟩ := HPL.out _ _ _ _ _ _ c
        obtain ⟨_, q2⟩ := q hlt
        exact ⟨a1, q2⟩)
      clear pp HPL HPLT HFN HLS HKC CQ p3
      generalize plc X.b hv i = p at *
      have hl2 : (p : Int) < (W : Int) := by omega
      generalize at_ X hv i = a at *
      by_cases ha : a = n
      · subst ha
        by_cases h5 : a < 255
        · have z5 : (a : Int) < 255 := by omega
          have wa : IntKind.i64.wrap ((a : Int) + 1) = (a : Int) + 1 := by rw [IntKind.wrap_i64]; omega
          go_wp2_with (go_at_call 30; refine H1.out.mono ?_; rintro e w3 ⟨rfl, C3⟩; obtain ⟨q1, q2, q3, q4, q5, q6⟩ := HQ.out _ C3; have Q5 := hid (q5 rfl h5); clear q5 q6 C3)
          refine ⟨⟨i + 1, by omega, rfl, Q5.out⟩, by simp [intOf]; omega⟩
        · have z5 : ¬ (a : Int) < 255 := by omega
          go_wp2_with (go_at_call 30; refine H1.out.mono ?_; rintro e w3 ⟨rfl, C3⟩; obtain ⟨q1, q2, q3, q4, q5, q6⟩ := HQ.out _ C3; have Q6 := hid (q6 (fun e => h5 e.2)); clear q5 q6 C3)
          refine ⟨⟨i + 1, by omega, rfl, Q6.out⟩, by simp [intOf]; omega⟩
      · have ha' : ((a : Int) == (n : Int)) = false := by simp; omega
        go_wp2_with (go_at_call 30; refine H1.out.mono ?_; rintro e w3 ⟨rfl, C3⟩; obtain ⟨q1, q2, q3, q4, q5, q6⟩ := HQ.out _ C3; have Q6 := hid (q6 (fun e => ha e.1)); clear q5 q6 C3)
        refine ⟨⟨i + 1, by omega, rfl, Q6.out⟩, by simp [intOf]; omega⟩
    · have ei : i = X.r := by omega
      subst ei
      have zi : ¬ (X.r : Int) < (X.r : Int) := by omega
      have CF := hid (HFN.out _ _ _ _ _ CQ)
      clear HPL HPLT HFN CQ pp
      go_upto_region 12 with fail
      obtain ⟨WF, hWF⟩ : ∃ WF, WF = wr.setCell ⟨w.heap.size, 2, none⟩ (.int .u64 (t' : Nat)) := ⟨_, rfl⟩
      rw [← hWF] at CF ⊢
      clear hWF p0 p1 p2 p3 p4 p5
      have HCF : Hid (∀ w1, Touch [] WF w1 → Cw V w1 w.heap.size G1 cap1 Q1 Cp1 (addS X hv)) := hid (fun w1 t => HKC.out _ _ _ _ _ _ CF.out t)
      have A0 : ∀ w1, Sw2 w1 w.heap.size X t' G1 cap1 k → w1.cell? ⟨w.heap.size, 0, none⟩ = some (.int .i64 (X.b : Nat)) := fun w1 t => cell_at t.1 rfl
      have A1 : ∀ w1, Sw2 w1 w.heap.size X t' G1 cap1 k → w1.cell? ⟨w.heap.size, 1, none⟩ = some (.slice (some ⟨G1, 0, none⟩) X.r cap1) := fun w1 t => cell_at t.1 rfl
      have A2 : ∀ w1, Sw2 w1 w.heap.size X t' G1 cap1 k → w1.cell? ⟨w.heap.size, 2, none⟩ = some (.int .u64 (t' : Nat)) := fun w1 t => cell_at t.1 rfl
      have A3 : ∀ w1, Sw2 w1 w.heap.size X t' G1 cap1 k → w1.cell? ⟨w.heap.size + 1, 0, none⟩ = some (.int .u16 k.1) := fun w1 t => cell_at t.2 rfl
      have A4 : ∀ w1, Sw2 w1 w.heap.size X t' G1 cap1 k → w1.cell? ⟨w.heap.size + 1, 1, none⟩ = some (.string k.2) := fun w1 t => cell_at t.2 rfl
      have H5 := hid (HLS.out _ _ _ _ _ (HCF.out WF.drew (Touch.refl _ _).drew)).2.2.2.2.2.1
      have H6 := hid (fun w1 t => (HLS.out _ _ _ _ _ (HCF.out w1 t)).2.2.2.2.2.2)
      have HS2 : Hid (∀ w1, Touch [] WF w1 → Sw2 w1 w.heap.size X t' G1 cap1 k) := hid (fun w1 t => HSW.out _ _ _ _ _ (HCF.out w1 t))
      clear HLS HCF CF HKC HSW
      refine wp_region_H (S := fun w' => Sw2 w' w.heap.size X t' G1 cap1 k) (by kernel_rfl) ?_
      have s0 := HS2.out WF.drew (Touch.refl _ _).drew
      refine wpH_take (i := 0) (v := (.agg #[.int .i64 (X.b : Nat), Value.slice (some ⟨G1, 0, none⟩) X.r cap1, .int .u64 (t' : Nat)])) (some 59) rfl rfl (by kernel_rfl) (by kernel_rfl) (by kernel_rfl) (fun _ _ _ h => h) (Or.inl ⟨by rfl, fun w' hS => (by have z0 := A0 _ hS; have z1 := A1 _ hS; have z2 := A2 _ hS; go_simp)⟩) s0 ?_
      try simp only [Go.Act.put, List.setIfInBounds_toArray, List.set_cons_zero, List.set_cons_succ]
      refine wpH_take (i := 1) (v := (.agg #[.int .i64 (X.b : Nat), Value.slice (some ⟨G1, 0, none⟩) X.r cap1, .int .u64 (t' : Nat)])) (some 60) rfl rfl (by kernel_rfl) (by kernel_rfl) (by kernel_rfl) (fun _ _ _ h => h) (Or.inl ⟨by rfl, fun w' hS => (by have z0 := A0 _ hS; have z1 := A1 _ hS; have z2 := A2 _ hS; go_simp)⟩) s0 ?_
      try simp only [Go.Act.put, List.setIfInBounds_toArray, List.set_cons_zero, List.set_cons_succ]
      refine wpH_take (i := 2) (v := (.agg #[.int .u16 k.1, .string k.2])) (some 61) rfl rfl (by kernel_rfl) (by kernel_rfl) (by kernel_rfl) (fun _ _ _ h => h) (Or.inl ⟨by rfl, fun w' hS => (by have z0 := A3 _ hS; have z1 := A4 _ hS; go_simp)⟩) s0 ?_
      try simp only [Go.Act.put, List.setIfInBounds_toArray, List.set_cons_zero, List.set_cons_succ]
      refine wpH_call (i := 3) (o := { dst := some 62, op := Op.call { callee := Callee.value (Operand.func 19), args := #[Operand.tmp 60, Operand.tmp 61], argTypes := #[29, 50] }, type := 3, pos := _, after := #[{ on := 1, ground := Ground.data }, { on := 2, ground := Ground.data }], guard := none }) (by kernel_rfl) rfl (fun K' hK => ?_)
      rw [if_pos (by rfl)]
      go_simp
      refine H5.out.mono ?_
      rintro e w5 ⟨rfl, t5⟩
      have t6 : Touch [] WF w5 := (Touch.refl _ _).drew.trans' t5
      have s1 := HS2.out _ t6
      obtain ⟨⟨y0, y1, y2, y3⟩, y4⟩ := H6.out _ t6
      have Y4 := hid y4
      clear y4 t5
      refine hK.out _ _ s1 ?_
      clear hK
      try simp only [Go.Act.put, List.setIfInBounds_toArray, List.set_cons_zero, List.set_cons_succ]
      refine wpH_call (i := 4) (o := { dst := none, op := Op.store 29 (Operand.tmp 4) (Operand.tmp 59), type := 0, pos := _, after := #[{ on := 0, ground := Ground.data }, { on := 3, ground := Ground.chain }, { on := 0, ground := Ground.phase }, { on := 1, ground := Ground.textOnly Departure.lateStores }, { on := 2, ground := Ground.textOnly Departure.lateStores }, { on := 3, ground := Ground.textOnly Departure.lateStoresUnsure }], guard := none }) (by kernel_rfl) rfl (fun K' hK => ?_)
      rw [if_pos (by rfl)]
      go_simp
      refine hK.out _ _ (Sw2.put s1 _ _ _) ?_
      clear hK
      try simp only [Go.Act.put, List.setIfInBounds_toArray, List.set_cons_zero, List.set_cons_succ]
      refine wpH_take (i := 5) (v := (.int .i64 (AV : Nat))) (some 5) rfl rfl (by kernel_rfl) (by kernel_rfl) (by kernel_rfl) (fun _ _ _ h => h) (Or.inl ⟨by rfl, fun w' hS => (by go_simp)⟩) (Sw2.put s1 _ _ _) ?_
      try simp only [Go.Act.put, List.setIfInBounds_toArray, List.set_cons_zero, List.set_cons_succ]
      refine wpH_take (i := 6) (v := (.int .i64 0)) (some 6) rfl rfl (by kernel_rfl) (by kernel_rfl) (by kernel_rfl) (fun _ _ _ h => h) (Or.inl ⟨by rfl, fun w' hS => (by go_simp)⟩) (Sw2.put s1 _ _ _) ?_
      try simp only [Go.Act.put, List.setIfInBounds_toArray, List.set_cons_zero, List.set_cons_succ]
      refine wpAnyH_done (by kernel_rfl) ?_ _
      go_wp2
      refine bodyPost_ret (v := .tuple #[.agg #[.int .i64 (X.b : Nat), .slice (some ⟨G1, 0, none⟩) X.r cap1, .int .u64 (t' : Nat)], .int .i64 (AV : Nat), .int .i64 0]) (by simp [results, Try.results14, go_sem, y0, y1, y2]) rfl ⟨_, rfl, Y4.out⟩
end
end Go.Proofs.Ytbadlkjffelkhaa.Sk
