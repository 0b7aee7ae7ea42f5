/- The contracts of New, Clone and Halve; no conditions but those that each states. -/
import Derived.Test.YtbadlkjffelkhaaXad
namespace Go.Proofs.Ytbadlkjffelkhaa.Sk
open Go.RowKit Go.Maps Go.ChangeMaps
set_option maxRecDepth 100000
set_option linter.unusedVariables false
set_option linter.unusedSimpArgs false
theorem info5 : (Try.prog.info? 5).map (fun i => (i.zero, i.size, i.bytes)) = some (some (.int .u8 0), 1, 1) := by kernel_rfl
theorem wpList_make_full {P : Program} (w : World) {ops : Array Oper} {rest : List Oper} {o : Oper} {a : Act} {Q : Exit → Act → World → Prop}
    (hg : o.guard = none) (l c : Operand) (t : TypeId) (hop : o.op = Op.makeSlice t l c) (e : TypeId) (i : TypeInfo) (z : Value) (h1 : P.underlying t = some (.slice e)) (h2 : P.info? e = some i) (h3 : i.zero = some z) (n : Nat)
    (hl : a.eval l = .int .i64 (n : Int)) (hc : a.eval c = .int .i64 (n : Int)) (b2 : (i.bytes : Int) * n ≤ 281474976710656) (b3 : (n : Int) ≤ 9223372036854775807)
    (hK : wpList P ops Q rest (a.put o.dst (.slice (some ⟨w.heap.size, 0, none⟩) n n)) (w.alloc (.cells (madeCells z.cells (n * i.size)) e))) : wpList P ops Q (o :: rest) a w := by
  refine wpList_plain hg fun K' hK' => ?_
  have hr := run_make (P := P) w t e i z h1 h2 h3 .i64 .i64 (n : Int) (n : Int) (by omega) (Int.le_refl _) b2 b3
  rw [Int.toNat_natCast] at hr
  unfold Oper.wp
  simp [execOp, hop, hl, hc, hr, Result.andThen]
  exact hK' _ _ hK
/-- A new sketch is handed back. -/
def NwE (v : Value) (w w' : World) (X : S) : Prop := ∃ s g cap, v = PT s ∧ w.heap.size ≤ s ∧ w.heap.size ≤ g ∧ Kq w' s g cap X ∧ Touch [] w w'
section
variable {w w' : World} {s g cap j : Nat} {X : S}
theorem new_no (r b : Int) (h : r < 1 ∨ 8 < r ∨ b < 0 ∨ 16 < b) (w : World) : Calls Try.prog 22 #[.int .i64 r, .int .i64 b] w fun e w' => e = .returned (.tuple #[.pointer none, .int .i64 1]) ∧ Touch [] w w' := by
  by_cases h1 : r < 1
  · clear h
    go_enter Try.func22, Try.ntmps22
    go_wp2
    go_ret2
    exact ⟨rfl, Touch.refl _ _⟩
  by_cases h2 : 8 < r
  · clear h
    go_enter Try.func22, Try.ntmps22
    go_wp2
    go_ret2
    exact ⟨rfl, Touch.refl _ _⟩
  by_cases h3 : b < 0
  · clear h
    go_enter Try.func22, Try.ntmps22
    go_wp2
    go_ret2
    exact ⟨rfl, Touch.refl _ _⟩
  have h4 : 16 < b := by omega
  clear h
  go_enter Try.func22, Try.ntmps22
  go_wp2
  go_ret2
  exact ⟨rfl, Touch.refl _ _⟩
theorem new_ok (r b : Nat) (r1 : 1 ≤ r) (r2 : r ≤ 8) (b2 : b ≤ 16) (w : World) : Calls Try.prog 22 #[.int .i64 (r : Nat), .int .i64 (b : Nat)] w fun e w' => ∃ v, e = .returned (.tuple #[v, .int .i64 0]) ∧ NwE v w w' (newS r b) := by
  have h1 : ¬ (r : Int) < 1 := by omega
  have h2 : ¬ (8 : Int) < (r : Int) := by omega
  have h3 : ¬ (16 : Int) < (b : Int) := by omega
  have hp := pow_le16 b2
  have hn : r * 2 ^ b ≤ 524288 := Nat.mul_le_mul r2 hp
  have e1 : IntKind.i64.wrap ((r : Int) * 2 ^ b) = ((r * 2 ^ b : Nat) : Int) := by
    have : (r : Int) * 2 ^ b = ((r * 2 ^ b : Nat) : Int) := by simp
    rw [this, IntKind.wrap_i64]
    generalize r * 2 ^ b = z at *
    omega
  have e3 : IntKind.i64.wrap ((r : Int) * 2 ^ min b 64) = ((r * 2 ^ b : Nat) : Int) := by rwa [show min b 64 = b by omega]
  have HZ : Hid (∀ n, n = r * 2 ^ b → Kq ((w.alloc (.cells (madeCells #[Value.int .u8 0] n) 5)).alloc (.cells #[.int .i64 (r : Nat), .int .i64 (b : Nat), .slice (some ⟨w.heap.size, 0, none⟩) n n, .int .u64 0] 78)) (w.heap.size + 1) w.heap.size n (newS r b)) := hid (fun n hn0 => by
    subst hn0
    refine ⟨?_, own_of_cells (cur := madeCells #[Value.int .u8 0] (r * 2 ^ b)) ?_ (Nat.zero_le _) (Nat.le_refl _) (by unfold maxLen; show r * 2 ^ b ≤ _; omega) (by simp [size_madeCells]) (by rw [flat_len]; simp) (fun p v hv => ?_), newS_wf r1 r2 b2⟩
    · have := heap_alloc_new (w.alloc (.cells (madeCells #[Value.int .u8 0] (r * 2 ^ b)) 5)) (.cells #[.int .i64 (r : Nat), .int .i64 (b : Nat), .slice (some ⟨w.heap.size, 0, none⟩) (r * 2 ^ b) (r * 2 ^ b), .int .u64 0] 78)
      rw [World.size_alloc] at this
      exact this
    · exact ((Touch.refl [] _).alloc _).keep (heap_alloc_new w _) (by simp)
    · have hp0 : p < (flat (newS r b).b (newS r b).n (newS r b).c).length := (List.getElem?_eq_some_iff.1 hv).1
      rw [flat_len] at hp0
      rw [flat_at _ hp0] at hv
      cases hv
      refine cell_at (((Touch.refl [] _).alloc _).keep (heap_alloc_new w _) (by simp)) ?_
      have hp1 : p < r * 2 ^ b := hp0
      show (madeCells #[Value.int .u8 0] (r * 2 ^ b))[p]? = some (.int .u8 ((0 : Nat) : Int))
      simp [madeCells, hp1, Nat.mod_one])
  obtain ⟨i5, hi, hz0, hz1, hz2⟩ := info_parts info5
  obtain ⟨n, hn0⟩ : ∃ n, n = r * 2 ^ b := ⟨_, rfl⟩
  have HZ := hid (HZ.out n hn0)
  rw [← hn0] at e1 e3 hn
  clear hn0 hp b2 r1 r2
  go_enter Try.func22, Try.ntmps22
  go_wp2_with (at_make; refine wpList_make_full _ rfl _ _ 76 rfl 5 i5 (.int .u8 0) Try.underlying76 hi hz0 n rfl rfl (by rw [hz2]; omega) (by omega) ?_)
  go_ret2
  exact ⟨_, rfl, _, _, _, rfl, by simp, by simp, HZ.out, ((Touch.refl _ _).alloc _).alloc _⟩
theorem eqB (W : World) (a : Option Addr) (n c : Nat) : (binOp .eql 76 (.slice a n c) (.slice none 0 0)).run Try.prog W = .ok (.bool a.isNone) W := Lib.run_eql_slice_nil W _ _ a n c 0 0 Try.underlying76
theorem flat_one (b n : Nat) (c : Nat → Nat → Nat) : ∀ y ∈ flat b n c, y.oneCell' = true := by
  intro y hy
  simp only [flat, List.mem_map] at hy
  obtain ⟨j, _, rfl⟩ := hy
  rfl
set_option maxHeartbeats 1000000 in
theorem cloneB_ {n cap : Nat} {b : Nat} {c : Nat → Nat → Nat} (h : w.ownsRow 0 5 1 (.slice (some ⟨g, 0, none⟩) n cap) n (flat b n c)) (hn : 0 < n) (hle : n ≤ 524288) : Calls Try.prog 44 #[.slice (some ⟨g, 0, none⟩) n cap] w fun e w' => ∃ g' cap', e = .returned (.slice (some ⟨g', 0, none⟩) n cap') ∧ w.heap.size ≤ g' ∧ w'.ownsRow w.heap.size 5 1 (.slice (some ⟨g', 0, none⟩) n cap') n (flat b n c) ∧ Touch [] w w' := by
  have q33 := eqB
  have HR : Hid (∀ ob, Rs 5 1 (w.alloc ob) (.slice (some ⟨g, 0, none⟩) n cap) n (flat b n c)) := hid (fun ob => (Rs.of_own h).keep0 ((Touch.refl [] _).alloc _))
  have HM : Hid ((w.alloc (.cells #[] 5)).ownsRow w.heap.size 5 1 (.slice (some ⟨w.heap.size, 0, none⟩) 0 0) 0 []) := World.ownsRow_made (e := 5) (size := 1) w #[] 0 (Nat.le_refl _) (by unfold maxLen; omega) rfl
  have HO := hid (flat_one b n c)
  have HE : Hid (∀ v' w', w'.ownsRow w.heap.size 5 1 v' (0 + n) ([] ++ flat b n c) → (w.alloc (.cells #[] 5)).grownBy w' (some w.heap.size) → ∃ g' cap', v' = .slice (some ⟨g', 0, none⟩) n cap' ∧ w.heap.size ≤ g' ∧ w'.ownsRow w.heap.size 5 1 v' n (flat b n c) ∧ Touch [] w w') := hid (fun v' w' r gr => by
    rw [Nat.zero_add, List.nil_append] at r
    obtain ⟨g', c', e1, e2, e3⟩ := own_some r hn
    exact ⟨g', c', e1, e2, r, ((Touch.refl [] w).alloc _).grown gr (fun k hk => Or.inr (by cases hk; exact Nat.le_refl _))⟩)
  have HN := hid hn
  clear h hn
  generalize flat b n c = L at *
  go_enter Try.func44, Try.ntmps44
  go_wp2_with (at_builtin; refine wpList_append_rs rfl _ _ 76 5 rfl (.int .u8 0) 1 1 info5 Try.underlying76 rfl (by decide) w.heap.size _ 0 [] rfl HM.out _ n L rfl (HR.out _) HO.out (by unfold maxLen; omega) (by omega) (by simp) ?_; intro v5 w5 o5 g5 _; obtain ⟨g', c', e1, e2, e3, e4⟩ := HE.out _ _ o5 g5; subst e1; have O5 := hid (And.intro e2 (And.intro e3 e4)); clear o5 g5 e2 e3 e4)
  go_ret
  exact ⟨g', c', rfl, O5.out.1, O5.out.2.1, O5.out.2.2⟩
set_option maxHeartbeats 1000000 in
theorem clone_ (h : Kq w s g cap X) : Calls Try.prog 27 #[PT s] w fun e w' => ∃ v, e = .returned v ∧ NwE v w w' X := by
  obtain ⟨V, hV⟩ : ∃ V, V = w.alloc (.cells #[.int .i64 (X.r : Nat), .int .i64 (X.b : Nat), .slice (some ⟨g, 0, none⟩) X.n cap, .int .u64 (X.t : Nat)] 78) := ⟨_, rfl⟩
  have TV : Touch [] w V := by rw [hV]; exact (Touch.refl _ _).alloc _
  have hb : V.heap[w.heap.size]? = some (.cells (bx X g cap) 78 (0, 0)) := by rw [hV]; exact heap_alloc_new w _
  have HC := hid (cloneB_ (h.keep0 TV).row h.wf.n_pos h.wf.n_le)
  have hz : V.heap.size = w.heap.size + 1 := by rw [hV]; simp
  have d2 := (h.keep0 TV).c2
  have HE : Hid (∀ w1 g' cap', Touch [] V w1 → V.heap.size ≤ g' → w1.ownsRow V.heap.size 5 1 (.slice (some ⟨g', 0, none⟩) X.n cap') X.n (flat X.b X.n X.c) → w1.frozen? ⟨w.heap.size, 2, none⟩ = false ∧ w1.cell? ⟨w.heap.size, 2, none⟩ = some (.slice (some ⟨g, 0, none⟩) X.n cap) ∧ NwE (PT w.heap.size) w (w1.setCell ⟨w.heap.size, 2, none⟩ (.slice (some ⟨g', 0, none⟩) X.n cap')) X) := hid (fun w1 g' cap' t1 hg o1 => by
    have hb1 := t1.keep hb (by simp)
    have ht := Touch.setCell (F := [w.heap.size]) (Touch.refl _ w1) (p := ⟨w.heap.size, 2, none⟩) (Or.inl (by simp)) (.slice (some ⟨g', 0, none⟩) X.n cap')
    refine ⟨froz_at hb1 2, cell_at hb1 rfl, _, g', cap', rfl, Nat.le_refl _, by omega, ⟨?_, ?_, h.wf⟩, (TV.trans' t1).setCell (Or.inr (Nat.le_refl _)) _⟩
    · have := bset hb1 (i := 2) (.slice (some ⟨g', 0, none⟩) X.n cap')
      exact this
    · refine own_base (own_touch o1 ht (fun b hb' => ?_)) (Nat.zero_le _)
      cases hb'
      simp
      omega)
  have c0 := h.c0
  have c1 := h.c1
  have c2 := h.c2
  have c3 := h.c3
  clear h hb hz
  unfold sl at HC
  unfold PT
  go_enter Try.func27, Try.ntmps27
  go_upto_region 4 with fail
  rw [← hV]
  clear hV
  go_wp2_with (go_at_call 44; refine HC.out.mono ?_; rintro e w1 ⟨g', cap', rfl, q1, q2, q3⟩; obtain ⟨p1, p2, p3⟩ := HE.out _ _ _ q3 q1 q2; have P3 := hid p3; clear p3 q1 q2 q3)
  go_ret
  exact ⟨_, rfl, P3.out⟩
/-- The first j counters halved. -/
def halfC (X : S) (j : Nat) : Nat → Nat → Nat := fun i p => if i * 2 ^ X.b + p < j then X.c i p / 2 else X.c i p
theorem halfC_le {X : S} (h : Wf X) (j i p : Nat) : halfC X j i p ≤ 255 := by
  have := h.c2 i p
  unfold halfC
  split <;> omega
theorem Kq.half (h : Kq w s g cap { X with c := halfC X j }) (hj : j < X.n) : w.cell? ⟨g, j, none⟩ = some (.int .u8 (X.c (j / 2 ^ X.b) (j % 2 ^ X.b) : Nat)) ∧ Kq (w.setCell ⟨g, j, none⟩ (.int .u8 ((X.c (j / 2 ^ X.b) (j % 2 ^ X.b) / 2 : Nat) : Int))) s g cap { X with c := halfC X (j + 1) } := by
  have hd : j / 2 ^ X.b * 2 ^ X.b + j % 2 ^ X.b = j := by rw [Nat.mul_comm]; exact Nat.div_add_mod j (2 ^ X.b)
  have hi : j / 2 ^ X.b < X.r := Nat.div_lt_of_lt_mul (by rw [Nat.mul_comm]; exact hj)
  have hp : j % 2 ^ X.b < 2 ^ X.b := Nat.mod_lt _ (Nat.two_pow_pos _)
  have hc : halfC X j (j / 2 ^ X.b) (j % 2 ^ X.b) = X.c (j / 2 ^ X.b) (j % 2 ^ X.b) := by
    unfold halfC
    rw [hd, if_neg (Nat.lt_irrefl _)]
  have h1 := h.cell (j := j) hj
  refine ⟨?_, ?_⟩
  · rw [← hc]; exact h1
  · have hle : X.c (j / 2 ^ X.b) (j % 2 ^ X.b) / 2 ≤ 255 := by
      rw [← hc]
      have := h.wf.c2 (j / 2 ^ X.b) (j % 2 ^ X.b)
      have : halfC X j (j / 2 ^ X.b) (j % 2 ^ X.b) ≤ 255 := this
      omega
    have h2 := h.setC (i := j / 2 ^ X.b) (p := j % 2 ^ X.b) hi hp hle
    rw [hd] at h2
    refine ⟨h2.box, ?_, ⟨h2.wf.r1, h2.wf.r2, h2.wf.b2, fun i p => ?_, h2.wf.t2⟩⟩
    · have h3 := h2.row
      have e : flat X.b X.n (upd (halfC X j) (j / 2 ^ X.b) (j % 2 ^ X.b) (X.c (j / 2 ^ X.b) (j % 2 ^ X.b) / 2)) = flat X.b X.n (halfC X (j + 1)) := flat_congr fun q hq => by
        have hdq : q / 2 ^ X.b * 2 ^ X.b + q % 2 ^ X.b = q := by rw [Nat.mul_comm]; exact Nat.div_add_mod q (2 ^ X.b)
        by_cases e : q = j
        · subst e
          rw [upd_same]
          unfold halfC
          rw [hdq, if_pos (by omega)]
        · have hne : ¬ (q / 2 ^ X.b = j / 2 ^ X.b ∧ q % 2 ^ X.b = j % 2 ^ X.b) := fun ⟨h1, h2⟩ => e (by rw [← hd, ← hdq, h1, h2])
          unfold upd halfC
          rw [if_neg hne, hdq]
          by_cases hl : q < j
          · rw [if_pos hl, if_pos (by omega)]
          · rw [if_neg hl, if_neg (by omega)]
      show World.ownsRow _ 0 5 1 (sl g X.n cap) X.n (flat X.b X.n (halfC X (j + 1)))
      rw [← e]
      exact h3
    · show halfC X (j + 1) i p ≤ 255
      have h4 : halfC X j i p ≤ 255 := h.wf.c2 i p
      unfold halfC at h4 ⊢
      split at h4 <;> split <;> omega
set_option maxHeartbeats 1000000 in
theorem halve_ (h : Kq w s g cap X) : Calls Try.prog 24 #[PT s] w fun e w' => e = .returned (.tuple #[]) ∧ Touch [s, g] w w' ∧ Kq w' s g cap (halveS X) := by
  have h0 : Kq w s g cap { X with c := halfC X 0 } := by
    have e : halfC X 0 = X.c := by funext i p; simp [halfC]
    rw [e]; exact h
  have HA : Hid (∀ w1 j, Kq w1 s g cap { X with c := halfC X j } → w1.cell? ⟨s, 2, none⟩ = some (.slice (some ⟨g, 0, none⟩) X.n cap) ∧ w1.cell? ⟨s, 3, none⟩ = some (.int .u64 (X.t : Nat)) ∧ w1.frozen? ⟨s, 3, none⟩ = false ∧ (∀ q, w1.frozen? ⟨g, q, none⟩ = false) ∧ (j < X.n → w1.cell? ⟨g, j, none⟩ = some (.int .u8 (X.c (j / 2 ^ X.b) (j % 2 ^ X.b) : Nat)) ∧ Kq (w1.setCell ⟨g, j, none⟩ (.int .u8 ((X.c (j / 2 ^ X.b) (j % 2 ^ X.b) / 2 : Nat) : Int))) s g cap { X with c := halfC X (j + 1) })) := hid (fun w1 j k1 => ⟨k1.c2, k1.c3, k1.fz 3, k1.fg, k1.half⟩)
  have HZ : Hid (∀ w1, Kq w1 s g cap { X with c := halfC X X.n } → Kq (w1.setCell ⟨s, 3, none⟩ (.int .u64 ((X.t / 2 : Nat) : Int))) s g cap (halveS X)) := hid (fun w1 k1 => by
    have k2 := k1.setT (t := X.t / 2) (by have := h.wf.t2; omega)
    refine ⟨k2.box, ?_, halveS_wf h.wf⟩
    have e : flat X.b X.n (halfC X X.n) = flat X.b X.n (halveS X).c := flat_congr fun q hq => by
      have hdq : q / 2 ^ X.b * 2 ^ X.b + q % 2 ^ X.b = q := by rw [Nat.mul_comm]; exact Nat.div_add_mod q (2 ^ X.b)
      unfold halfC
      rw [hdq, if_pos hq]; rfl
    have k3 := k2.row
    show World.ownsRow _ 0 5 1 (sl g X.n cap) X.n (flat X.b X.n (halveS X).c)
    rw [← e]
    exact k3)
  have hn := h.wf.n_le
  have wt : IntKind.u64.wrap ((X.t : Int) / 2) = ((X.t / 2 : Nat) : Int) := by rw [IntKind.wrap_u64]; have := h.wf.t2; omega
  have HW : Hid (∀ i p, (X.c i p : Int) / 2 % 256 = ((X.c i p / 2 : Nat) : Int)) := hid (fun i p => by have := h.wf.c2 i p; omega)
  obtain ⟨a2, a3, a4, a5, a6⟩ := HA.out w 0 h0
  clear a6 h a3 a4 a5
  have H0 := hid h0
  clear h0
  obtain ⟨n, hn0⟩ : ∃ n, n = X.n := ⟨_, rfl⟩
  rw [← hn0] at HA HZ hn a2
  clear hn0
  generalize X.t / 2 = t2 at *
  unfold PT
  go_enter Try.func24, Try.ntmps24
  go_wp2
  go_loopw [10] (fun i wr => ∃ k : Nat, k ≤ n ∧ i = .int .i64 k ∧ Touch [s, g] w wr ∧ Kq wr s g cap { X with c := halfC X k }) (fun i _ => n - (intOf i).toNat)
  case atStart => exact ⟨0, Nat.zero_le _, rfl, Touch.refl _ _, H0.out⟩
  case round =>
    obtain ⟨k, hk, rfl, T, KQ⟩ := hrel
    obtain ⟨b2, b3, b4, b5, b6⟩ := HA.out wr k KQ
    by_cases hlt : k < n
    · have zi : (k : Int) < (n : Int) := by omega
      obtain ⟨b7, b8⟩ := b6 hlt
      have w8 := HW.out (k / 2 ^ X.b) (k % 2 ^ X.b)
      have B8 := hid b8
      clear b6 b8 HA HZ KQ HW b3 b4 H0
      generalize X.c (k / 2 ^ X.b) (k % 2 ^ X.b) / 2 = v2 at *
      generalize X.c (k / 2 ^ X.b) (k % 2 ^ X.b) = v1 at *
      go_wp2
      refine ⟨⟨k + 1, by omega, rfl, T.setCell (Or.inl (by simp)) _, B8.out⟩, by simp [intOf]; omega⟩
    · have ek : k = n := by omega
      subst ek
      have zi : ¬ (k : Int) < (k : Int) := by omega
      have K2 := hid (HZ.out wr KQ)
      clear b6 HA HZ KQ HW H0 b5
      go_wp2
      go_end0
      exact ⟨rfl, T.setCell (Or.inl (by simp)) _, K2.out⟩
end
end Go.Proofs.Ytbadlkjffelkhaa.Sk
