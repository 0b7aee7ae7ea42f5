/- The contract of tell: each of some callers is told an outcome. -/
import Derived.Test.YtpihhlllembdeaaGreatReb
namespace Go.Proofs.YtpihhlllembdeaaGreat
open Go.RowKit Go.Maps Go.ChangeMaps
set_option linter.unusedVariables false
set_option linter.unusedSimpArgs false
theorem info70 : (Tryz.prog.info? 116).map (fun i => (i.zero, i.size, i.bytes)) = some (some (.agg #[.int .i64 0, .int .i64 0, .int .i64 0, .int .i64 0, .int .i64 0]), 5, 40) := by kernel_rfl
theorem mk52 (w : World) (n : Nat) (h : n ≤ 3000000000000) : (Instr.makeSlice 71 (.int .i64 (n : Int)) (.int .i64 (n : Int))).run Tryz.prog w = .ok (.slice (some ⟨w.heap.size, 0, none⟩) n n) (w.alloc (.cells (madeCells #[.int .i64 0, .int .i64 0, .int .i64 0, .int .i64 0, .int .i64 0] (n * 5)) 116)) := by
  obtain ⟨i3, hi3, hz0, hz1, hz2⟩ := info_parts info70
  have := run_make (P := Tryz.prog) w 71 116 i3 _ Tryz.underlying71 hi3 hz0 .i64 .i64 (n : Int) (n : Int) (by omega) (by omega) (by rw [hz2]; omega) (by omega)
  rw [hz1] at this
  simpa [Value.cells] using this
/-- What one is told, in five cells. -/
def Tc (cur : Array Value) (i : Nat) (x : Int) (o : O) : Prop := cur[i * 5]? = some (.int .i64 x) ∧ cur[i * 5 + 1]? = some (.int .i64 o.1) ∧ cur[i * 5 + 2]? = some (.int .i64 o.2.1) ∧ cur[i * 5 + 3]? = some (.int .i64 o.2.2.1) ∧ cur[i * 5 + 4]? = some (.int .i64 o.2.2.2)
structure TdS (w wr : World) (t : Nat) (xs : List Int) (o : O) (j : Nat) : Prop where
  bl : ∃ cur, wr.heap[t]? = some (.cells cur 116 (0, 0)) ∧ cur.size = xs.length * 5 ∧ ∀ i x, i < j → xs[i]? = some x → Tc cur i x o
  tc : Touch [] w wr
def st5 (wr : World) (t p : Nat) (x : Int) (o : O) : World := ((((wr.setCell ⟨t, p, none⟩ (.int .i64 x)).setCell ⟨t, p + 1, none⟩ (.int .i64 o.1)).setCell ⟨t, p + 2, none⟩ (.int .i64 o.2.1)).setCell ⟨t, p + 3, none⟩ (.int .i64 o.2.2.1)).setCell ⟨t, p + 4, none⟩ (.int .i64 o.2.2.2)
theorem TdS.step {w wr : World} {t : Nat} {xs : List Int} {o : O} {j : Nat} {x : Int} (h : TdS w wr t xs o j) (ht : w.heap.size ≤ t) (hx : xs[j]? = some x) : TdS w (st5 wr t (j * 5) x o) t xs o (j + 1) := by
  obtain ⟨⟨cur, hb, hs, hc⟩, tc⟩ := h
  have hj := (List.getElem?_eq_some_iff.1 hx).1
  refine ⟨⟨_, bset (bset (bset (bset (bset hb _) _) _) _) _, by simp [hs], fun i y hi hy => ?_⟩, ?_⟩
  · by_cases e : i = j
    · subst e
      rw [hx] at hy
      cases hy
      unfold Tc
      simp only [Array.getElem?_setIfInBounds, Array.size_setIfInBounds, hs]
      refine ⟨?_, ?_, ?_, ?_, ?_⟩ <;> (repeat (first | rw [if_pos trivial] | rw [if_pos (by omega)] | rw [if_neg (by omega)])) <;> (try rfl)
    · obtain ⟨q0, q1, q2, q3, q4⟩ := hc i y (by omega) hy
      unfold Tc
      simp only [Array.getElem?_setIfInBounds, Array.size_setIfInBounds, hs]
      refine ⟨?_, ?_, ?_, ?_, ?_⟩ <;> (repeat (rw [if_neg (by omega)])) <;> assumption
  · unfold st5
    repeat (first | exact tc | (refine Touch.setCell ?_ (Or.inr ht) _))
def TdE (e : Ending) (w w' : World) (xs : List Int) (o : O) : Prop := ∃ t, e = .returned (.slice (some ⟨t, 0, none⟩) xs.length xs.length) ∧ w.heap.size ≤ t ∧ TdS w w' t xs o xs.length
theorem TdS.cells {w wr : World} {t : Nat} {xs : List Int} {o : O} {n j : Nat} {x : Int} (h : TdS w wr t xs o n) (hj : j < n) (hx : xs[j]? = some x) : wr.cell? ⟨t, j * 5, none⟩ = some (.int .i64 x) ∧ wr.cell? ⟨t, j * 5 + 1, none⟩ = some (.int .i64 o.1) ∧ wr.cell? ⟨t, j * 5 + 2, none⟩ = some (.int .i64 o.2.1) ∧ wr.cell? ⟨t, j * 5 + 3, none⟩ = some (.int .i64 o.2.2.1) ∧ wr.cell? ⟨t, j * 5 + 4, none⟩ = some (.int .i64 o.2.2.2) := by
  obtain ⟨⟨cur, hb, hs, hc⟩, tc⟩ := h
  obtain ⟨q0, q1, q2, q3, q4⟩ := hc j x hj hx
  exact ⟨cell_at hb q0, cell_at hb q1, cell_at hb q2, cell_at hb q3, cell_at hb q4⟩
theorem TdS.five {w wr : World} {t : Nat} {xs : List Int} {o : O} {n j : Nat} (h : TdS w wr t xs o n) (hj : j < xs.length) : ∃ z0 z1 z2 z3 z4, wr.cell? ⟨t, j * 5, none⟩ = some z0 ∧ wr.cell? ⟨t, j * 5 + 1, none⟩ = some z1 ∧ wr.cell? ⟨t, j * 5 + 2, none⟩ = some z2 ∧ wr.cell? ⟨t, j * 5 + 3, none⟩ = some z3 ∧ wr.cell? ⟨t, j * 5 + 4, none⟩ = some z4 ∧ ∀ i, wr.frozen? ⟨t, i, none⟩ = false := by
  obtain ⟨⟨cur, hb, hs, hc⟩, tc⟩ := h
  have q : ∀ k, k < 5 → cur[j * 5 + k]? = some (cur.getD (j * 5 + k) undef) := fun k hk => by
    have : j * 5 + k < cur.size := by omega
    simp [Array.getD, this]
  exact ⟨_, _, _, _, _, cell_at hb (q 0 (by omega)), cell_at hb (q 1 (by omega)), cell_at hb (q 2 (by omega)), cell_at hb (q 3 (by omega)), cell_at hb (q 4 (by omega)), fun i => froz_at hb i⟩
set_option maxHeartbeats 4000000 in
set_option maxRecDepth 100000 in
theorem tell33 (w : World) (g cap : Nat) (xs : List Int) (o : O) (h : w.ownsRow 0 3 1 (.slice (some ⟨g, 0, none⟩) xs.length cap) xs.length (ints xs)) (hle : xs.length ≤ 3000000000000) : Calls Tryz.prog 74 #[.slice (some ⟨g, 0, none⟩) xs.length cap, ov o] w fun e w' => TdE e w w' xs o := by
  obtain ⟨V, hV⟩ : ∃ V, V = w.alloc (.cells #[.int .i64 o.1, .int .i64 o.2.1, .int .i64 o.2.2.1, .int .i64 o.2.2.2] 38) := ⟨_, rfl⟩
  have TV : Hid (Touch [] w V) := by rw [hV]; exact (Touch.refl _ _).alloc _
  have HBX : V.heap[w.heap.size]? = some (.cells #[.int .i64 o.1, .int .i64 o.2.1, .int .i64 o.2.2.1, .int .i64 o.2.2.2] 38 (0, 0)) := by rw [hV]; exact heap_alloc_new w _
  have hsz : V.heap.size = w.heap.size + 1 := by rw [hV]; simp
  have hmk := mk52 V xs.length hle
  have HQ : Hid (∀ w', Touch [] V w' → w'.cell? ⟨w.heap.size, 0, none⟩ = some (.int .i64 o.1) ∧ w'.cell? ⟨w.heap.size, 1, none⟩ = some (.int .i64 o.2.1) ∧ w'.cell? ⟨w.heap.size, 2, none⟩ = some (.int .i64 o.2.2.1) ∧ w'.cell? ⟨w.heap.size, 3, none⟩ = some (.int .i64 o.2.2.2)) := fun w' T => by
    have := T.keep HBX (by simp)
    exact ⟨cell_at this rfl, cell_at this rfl, cell_at this rfl, cell_at this rfl⟩
  have HG : Hid (∀ w', Touch [] V w' → ∀ i x, xs[i]? = some x → w'.cell? ⟨g, i, none⟩ = some (.int .i64 x)) := fun w' T i x hx => own_cell (own_touch h (TV.out.trans' T) (fun _ _ e => by cases e)) (by simp [ints, hx])
  have H0 : Hid (TdS V (V.alloc (.cells (madeCells #[.int .i64 0, .int .i64 0, .int .i64 0, .int .i64 0, .int .i64 0] (xs.length * 5)) 116)) V.heap.size xs o 0) := ⟨⟨_, heap_alloc_new V _, size_madeCells _ _, fun i x hi => absurd hi (Nat.not_lt_zero _)⟩, (Touch.refl _ _).alloc _⟩
  have HX : Hid (∀ i, i < xs.length → ∃ x, xs[i]? = some x) := fun i hi => ⟨_, List.getElem?_eq_getElem hi⟩
  have HE : Hid (∀ w', TdS V w' V.heap.size xs o xs.length → TdE (.returned (.slice (some ⟨V.heap.size, 0, none⟩) xs.length xs.length)) w w' xs o) := fun w' r => ⟨_, rfl, TV.out.size, ⟨r.bl, TV.out.trans' r.tc⟩⟩
  have HLE := hid hle
  clear h hle HBX
  unfold ov
  go_enter Tryz.func74, Tryz.ntmps74
  go_upto_region 1 with fail
  rw [← hV]
  clear hV TV hsz
  go_upto_region 3 with fail
  have HV : Hid (V.heap.size ≤ V.heap.size) := Nat.le_refl _
  have HST : Hid (∀ wr j x, TdS V wr V.heap.size xs o j → xs[j]? = some x → TdS V (st5 wr V.heap.size (j * 5) x o) V.heap.size xs o (j + 1)) := fun wr j x r hx => r.step (Nat.le_refl _) hx
  have HST2 := HST
  obtain ⟨t, ht⟩ : ∃ t, t = V.heap.size := ⟨_, rfl⟩
  rw [← ht] at H0 HE HST hmk ⊢
  clear ht HV HST2 hmk
  go_loopw [13] (fun i wr => ∃ j : Nat, i = .int .i64 (j : Nat) ∧ j ≤ xs.length ∧ Hid (TdS V wr t xs o j)) (fun i _ => xs.length - (intOf i).toNat)
  case atStart => exact ⟨0, rfl, Nat.zero_le _, H0⟩
  case round =>
    clear H0
    obtain ⟨j, rfl, hj, HR⟩ := hrel
    by_cases hlt : j < xs.length
    · have zk : (j : Int) < (xs.length : Int) := by omega
      have zL : (xs.length : Int) < 9223372036854775807 := by have := HLE.out; omega
      obtain ⟨x, hx⟩ := HX.out j hlt
      obtain ⟨z0, z1, z2, z3, z4, a0, a1, a2, a3, a4, ff⟩ := HR.out.five hlt
      obtain ⟨b0, b1, b2, b3⟩ := HQ.out wr HR.out.tc
      have hg := HG.out wr HR.out.tc j x hx
      have HN := hid (HST.out wr j x HR.out hx)
      unfold st5 at HN
      clear hx HR
      go_wp2
      go_roundw
      case rel => exact ⟨j + 1, by go_num, by omega, HN⟩
      case measure => simp [intOf]; omega
    · have e' : j = xs.length := by omega
      subst e'
      have HZ := hid (HE.out _ HR.out)
      clear hj hlt
      go_wp2
      go_ret
      exact HZ.out
end Go.Proofs.YtpihhlllembdeaaGreat
