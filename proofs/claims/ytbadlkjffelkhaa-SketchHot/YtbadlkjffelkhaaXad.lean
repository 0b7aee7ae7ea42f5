/- The contract of Add; no conditions but those that it states. -/
import Derived.Test.YtbadlkjffelkhaaXct
namespace Go.Proofs.Ytbadlkjffelkhaa.Sk
open Go.RowKit Go.Maps Go.ChangeMaps
set_option maxRecDepth 100000
set_option linter.unusedVariables false
set_option linter.unusedSimpArgs false
section
variable {w w' : World} {s g cap : Nat} {X : S}
theorem bset3 (X : S) (g cap t : Nat) : (bx X g cap).setIfInBounds 3 (.int .u64 (t : Nat)) = bx { X with t := t } g cap := rfl
theorem Kq.setT (h : Kq w s g cap X) {t : Nat} (ht : t < 18446744073709551616) : Kq (w.setCell ⟨s, 3, none⟩ (.int .u64 (t : Nat))) s g cap { X with t := t } := by
  refine ⟨?_, own_touch (F := [s]) h.row ((Touch.refl _ _).setCell (Or.inl (by simp)) _) (fun b hb => ?_), ⟨h.wf.r1, h.wf.r2, h.wf.b2, h.wf.c2, ht⟩⟩
  · rw [← bset3]
    exact bset h.box _
  · simp only [sl, Value.ownBlock, Option.some.injEq] at hb
    subst hb
    have := h.ne
    simp [Ne.symm this]
theorem Kq.setC (h : Kq w s g cap X) {i p v : Nat} (hi : i < X.r) (hp : p < 2 ^ X.b) (hv : v ≤ 255) : Kq (w.setCell ⟨g, i * 2 ^ X.b + p, none⟩ (.int .u8 (v : Nat))) s g cap { X with c := upd X.c i p v } := by
  refine ⟨(Touch.setCell (F := [g]) (Touch.refl _ _) (Or.inl (by simp)) _).keep h.box (by simp [h.ne]), ?_, ⟨h.wf.r1, h.wf.r2, h.wf.b2, fun j q => ?_, h.wf.t2⟩⟩
  · have := own_set h.row (i * 2 ^ X.b + p) (.int .u8 (v : Nat))
    rw [flat_set (n := X.n) X.c (idx_lt hi hp), idx_div hp, idx_mod hp] at this
    exact this
  · show upd X.c i p v j q ≤ 255
    unfold upd
    split
    · exact hv
    · exact h.wf.c2 j q
theorem addC_c (X : S) (t hv n k : Nat) : at_ { X with c := addC X hv n k, t := t } hv k = at_ X hv k := addC_row X hv n k k _ (Nat.le_refl _)
theorem add_no (h : Kq w s g cap X) {k : K} (h64 : 64 < k.2.size) : Calls Try.prog 13 #[PT s, kv k] w fun e w' => e = .returned (.tuple #[.int .i64 0, .int .i64 20]) ∧ Touch [] w w' := by
  have HC := hid (fun w1 => check_no (k := k) h64 w1)
  clear h h64
  unfold kv PT at *
  go_enter Try.func13, Try.ntmps13
  go_wp2_with (go_at_call 33; refine (HC.out _).mono ?_; rintro e w1 ⟨rfl, t1⟩)
  go_ret2
  exact ⟨rfl, ((Touch.refl _ _).alloc _).trans' t1⟩
set_option maxHeartbeats 4000000 in
theorem add_ok (h : Kq w s g cap X) {k : K} (hk : Ok k) (h64 : k.2.size ≤ 64) : Calls Try.prog 13 #[PT s, kv k] w fun e w' => e = .returned (.tuple #[.int .i64 (addV X (hK k) : Nat), .int .i64 0]) ∧ Touch [s, g] w w' ∧ Kq w' s g cap (addS X (hK k)) := by
  obtain ⟨V, hV⟩ : ∃ V, V = w.alloc (.cells #[.int .u16 k.1, .string k.2] 43) := ⟨_, rfl⟩
  have TV : Touch [] w V := by rw [hV]; exact (Touch.refl _ _).alloc _
  have HB : Hid (∀ w1, Touch [] V w1 → w1.cell? ⟨w.heap.size, 0, none⟩ = some (.int .u16 k.1) ∧ w1.cell? ⟨w.heap.size, 1, none⟩ = some (.string k.2)) := hid (fun w1 t1 => by
    have hb : V.heap[w.heap.size]? = some (.cells #[.int .u16 k.1, .string k.2] 43) := by rw [hV]; exact heap_alloc_new w _
    have := t1.keep hb (by simp)
    exact ⟨cell_at this rfl, cell_at this rfl⟩)
  obtain ⟨z0, z1⟩ := HB.out V (Touch.refl _ _)
  have HKV := hid (h.keep0 TV)
  have HC := hid (check_ok h64 V)
  have HH := hid (fun w1 => khash_ hk w1)
  have HL := hid (fun w1 (t1 : Touch [] V w1) => least_ (h.keep0 (TV.trans' t1)) (hK k))
  obtain ⟨hv, hhv⟩ : ∃ hv, hv = hK k := ⟨_, rfl⟩
  obtain ⟨n, hn⟩ : ∃ n, n = cnt X hv := ⟨_, rfl⟩
  rw [← hhv] at HH HL ⊢
  rw [← hn] at HL
  have hn2 : n ≤ 255 := by rw [hn]; exact cnt_le _ _
  obtain ⟨t', ht'⟩ : ∃ t', t' = (X.t + 1) % 18446744073709551616 := ⟨_, rfl⟩
  have ht2 : t' < 18446744073709551616 := by omega
  have wt : IntKind.u64.wrap ((X.t : Int) + 1) = (t' : Int) := by rw [IntKind.wrap_u64]; omega
  have HT : Hid (∀ w1, Touch [] V w1 → w1.cell? ⟨s, 3, none⟩ = some (.int .u64 (X.t : Nat)) ∧ w1.frozen? ⟨s, 3, none⟩ = false ∧ Touch [s, g] w (w1.setCell ⟨s, 3, none⟩ (.int .u64 (t' : Nat))) ∧ Kq (w1.setCell ⟨s, 3, none⟩ (.int .u64 (t' : Nat))) s g cap { X with t := t' }) := hid (fun w1 t1 => by
    have k1 := HKV.out.keep0 t1
    exact ⟨k1.c3, k1.fz 3, ((TV.trans' t1).mono (G := [s, g]) (by simp)).setCell (Or.inl (by simp)) _, k1.setT ht2⟩)
  have r2 := h.wf.r2
  by_cases h5 : n = 255
  · have HE : Hid (addV X hv = 255 ∧ addS X hv = { X with t := t' }) := hid (by
      rw [hn] at h5
      unfold addV addS
      rw [if_pos h5, if_pos h5, ← ht']
      exact ⟨rfl, rfl⟩)
    subst h5
    clear h hk h64 hn hn2 ht' ht2 HKV hhv
    unfold kv PT at *
    go_enter Try.func13, Try.ntmps13
    go_upto_region 1 with fail
    rw [← hV]
    clear hV
    go_wp2_with (first
      | (go_at_call 33; refine HC.out.mono ?_; rintro e w1 ⟨rfl, t1⟩; obtain ⟨y0, y1⟩ := HB.out _ t1)
      | (go_at_call 34; refine (HH.out _).mono ?_; rintro e w2 ⟨rfl, t2⟩; have t12 := t1.trans' t2)
      | (go_at_call 35; refine (HL.out _ t12).mono ?_; rintro e w3 ⟨rfl, t3⟩; obtain ⟨x3, f3, T3, K3⟩ := HT.out _ (t12.trans' t3)))
    go_ret2
    exact ⟨by rw [HE.out.1]; rfl, T3, by rw [HE.out.2]; exact K3⟩
  · have h5' : ((n : Int) == 255) = false := by simp; omega
    have HE : Hid (addV X hv = n + 1 ∧ addS X hv = { X with c := addC X hv n X.r, t := t' }) := hid (by
      rw [hn] at h5
      unfold addV addS
      rw [if_neg h5, if_neg h5, ← ht', ← hn]
      exact ⟨rfl, rfl⟩)
    have wn : IntKind.u8.wrap ((n : Int) + 1) = (n : Int) + 1 := by rw [IntKind.wrap_u8]; omega
    have wn2 : IntKind.i64.wrap (n : Int) = (n : Int) := by rw [IntKind.wrap_i64]; omega
    have wn3 : IntKind.i64.wrap ((n : Int) + 1) = (n : Int) + 1 := by rw [IntKind.wrap_i64]; omega
    have HR : Hid (∀ w1 i, i < X.r → Kq w1 s g cap { X with c := addC X hv n i, t := t' } →
        (Calls Try.prog 36 #[PT s, .int .u64 (hv : Nat), .int .i64 (i : Nat)] w1 fun e w' => e = .returned (.pointer (some ⟨g, i * 2 ^ X.b + plc X.b hv i, none⟩)) ∧ Touch [] w1 w') ∧
        ∀ w2, Touch [] w1 w2 → w2.cell? ⟨g, i * 2 ^ X.b + plc X.b hv i, none⟩ = some (.int .u8 (at_ X hv i : Nat)) ∧ w2.frozen? ⟨g, i * 2 ^ X.b + plc X.b hv i, none⟩ = false ∧
          (at_ X hv i = n → Kq (w2.setCell ⟨g, i * 2 ^ X.b + plc X.b hv i, none⟩ (.int .u8 ((n + 1 : Nat) : Int))) s g cap { X with c := addC X hv n (i + 1), t := t' }) ∧
          (at_ X hv i ≠ n → Kq w2 s g cap { X with c := addC X hv n (i + 1), t := t' })) := hid (fun w1 i hi k1 => by
      refine ⟨k1.counter hv hi, fun w2 t2 => ?_⟩
      have k2 := k1.keep0 t2
      have c2 := k2.ctr hi hv
      rw [addC_c] at c2
      refine ⟨c2, k2.fg _, fun e => ?_, fun e => ?_⟩
      · have := k2.setC (v := n + 1) hi (plc_lt X.b hv i) (by omega)
        have e2 : addC X hv n (i + 1) = upd (addC X hv n i) i (plc X.b hv i) (n + 1) := by
          show (if X.c i (plc X.b hv i) = n then _ else _) = _
          rw [if_pos (show X.c i (plc X.b hv i) = n from e)]
        rw [e2]
        exact this
      · have e2 : addC X hv n (i + 1) = addC X hv n i := by
          show (if X.c i (plc X.b hv i) = n then _ else _) = _
          rw [if_neg (show ¬ X.c i (plc X.b hv i) = n from e)]
        rw [e2]
        exact k2)
    have HC0 : Hid (∀ w1 i, Kq w1 s g cap { X with c := addC X hv n i, t := t' } → w1.cell? ⟨s, 0, none⟩ = some (.int .i64 (X.r : Nat))) := hid (fun w1 i k1 => k1.c0)
    have HK0 : Hid (∀ w1, Kq w1 s g cap { X with t := t' } → Kq w1 s g cap { X with c := addC X hv n 0, t := t' }) := hid (fun w1 k1 => k1)
    clear h hk h64 hn ht' ht2 HKV hhv h5
    unfold kv PT at *
    go_enter Try.func13, Try.ntmps13
    go_upto_region 1 with fail
    rw [← hV]
    clear hV
    go_wp2_with (first
      | (go_at_call 33; refine HC.out.mono ?_; rintro e w1 ⟨rfl, t1⟩; obtain ⟨y0, y1⟩ := HB.out _ t1)
      | (go_at_call 34; refine (HH.out _).mono ?_; rintro e w2 ⟨rfl, t2⟩; have t12 := t1.trans' t2)
      | (go_at_call 35; refine (HL.out _ t12).mono ?_; rintro e w3 ⟨rfl, t3⟩; obtain ⟨x3, f3, T3, K3'⟩ := HT.out _ (t12.trans' t3); have K3 := hid (HK0.out _ K3'); clear K3'; have x0 := HC0.out _ 0 K3.out))
    go_loopw [36] (fun i wr => ∃ k : Nat, k ≤ X.r ∧ i = .int .i64 k ∧ Touch [s, g] w wr ∧ Kq wr s g cap { X with c := addC X hv n k, t := t' }) (fun i _ => X.r - (intOf i).toNat)
    case atStart => exact ⟨0, Nat.zero_le _, rfl, T3, K3.out⟩
    case round =>
      obtain ⟨k, hk, rfl, T, KQ⟩ := hrel
      by_cases hlt : k < X.r
      · have zi : (k : Int) < (X.r : Int) := by omega
        obtain ⟨H1, H2⟩ := HR.out wr k hlt KQ
        have H1 := hid H1
        have H2 := hid H2
        generalize k * 2 ^ X.b + plc X.b hv k = p at *
        generalize at_ X hv k = a at *
        clear HR HC0 KQ HE K3 T3 x3 f3 x0 HL HT HH HC HB
        by_cases ha : a = n
        · subst ha
          go_wp2_with (go_at_call 36; refine H1.out.mono ?_; rintro e w4 ⟨rfl, t4⟩; obtain ⟨q1, q2, q3, q4⟩ := H2.out _ t4; have Q3 := hid (q3 rfl); clear q3 q4)
          refine ⟨⟨k + 1, by omega, rfl, (T.trans t4 (by simp)).setCell (Or.inl (by simp)) _, Q3.out⟩, by simp [intOf]; omega⟩
        · have ha' : ((a : Int) == (n : Int)) = false := by simp; omega
          go_wp2_with (go_at_call 36; refine H1.out.mono ?_; rintro e w4 ⟨rfl, t4⟩; obtain ⟨q1, q2, q3, q4⟩ := H2.out _ t4; have Q4 := hid (q4 ha); clear q3 q4)
          refine ⟨⟨k + 1, by omega, rfl, T.trans t4 (by simp), Q4.out⟩, by simp [intOf]; omega⟩
      · have ek : k = X.r := by omega
        have zi : ¬ (k : Int) < (X.r : Int) := by omega
        rw [ek] at KQ
        clear ek
        clear HR HC0
        go_wp2
        go_ret2
        exact ⟨by rw [HE.out.1]; rfl, T, by rw [HE.out.2]; exact KQ⟩
end
end Go.Proofs.Ytbadlkjffelkhaa.Sk
