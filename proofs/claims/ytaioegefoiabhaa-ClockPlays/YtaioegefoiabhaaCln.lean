/- The contract of Clone of a clock. -/
import Derived.Test.YtaioegefoiabhaaArd
namespace Go.Proofs.Ytaioegefoiabhaa
open Go.RowKit Go.Maps Go.ChangeMaps
set_option linter.unusedVariables false
/-- How Clone stands ahead of a round: k timers are in the new queue. -/
structure ClS (w wr : World) (d q : Nat) (now last : Int) (v : Value) (S : List Slot) (k : Nat) : Prop where
  row : wr.ownsRow w.heap.size 62 2 v S.length (flat2 S)
  cc : CC wr d q now last
  tq : ∃ G R, Tq wr q G (k : Int) R ∧ tms R = tms (S.take k) ∧ ∀ j, j ∈ G → w.heap.size ≤ j
  dn : w.heap.size ≤ d
  tc : Touch [] w wr
theorem ClS.put {w wr w1 : World} {d q : Nat} {now last : Int} {v : Value} {S : List Slot} {k : Nat} {s : Cs} (h : ClS w wr d q now last v S k) (hk : k < S.length) (ok : Ok s) (hS : s.T = tms S) (hd : Nd S) (hw : WfS S) (t1 : Touch [] wr w1) :
    Calls Try.prog 23 #[.pointer (some ⟨q, 0, none⟩), .int .i64 (gt S k).at_, .int .i64 (gt S k).item] w1 fun e w' => e = .returned (.int .i64 0) ∧ ∃ F, Touch F w1 w' ∧ (∀ b cs e z, w1.heap[b]? = some (.cells cs e z) → e ≠ 83 → e ≠ 86 → ¬ b ∈ F) ∧ ClS w w' d q now last v S (k + 1) := by
  obtain ⟨G, R, hq, hR, hG⟩ := h.tq
  have hq1 := hq.keep0 t1
  have hx : gt S k ∈ S := gt_mem hk
  have hRl : R.length = k := by rw [← tms_len R, hR, tms_len, List.length_take]; omega
  have a0 := ok.at0 (tmOf (gt S k)) (by rw [hS]; exact mem_tms hx)
  have a1 := ok.at1 (tmOf (gt S k)) (by rw [hS]; exact mem_tms hx)
  have n0 := ok.n0
  simp only [tmOf] at a0 a1
  have hT : isT (gt S k).at_ = true := isT_yes ⟨by omega, by omega⟩
  have len := ok.len
  rw [hS, tms_len] at len
  have hg : ∀ j, j < k → gtT (tms R) j = tmOf (gt S j) := fun j hj => by
    rw [hR, gtT_tms (by rw [List.length_take]; omega)]
    congr 1
    simp [gt, hj]
  have hi : idx R (gt S k).item = none := by
    rw [idx_none]
    intro y hy e
    obtain ⟨j, hj, rfl⟩ := List.getElem_of_mem hy
    have h1 := hg j (by omega)
    rw [gtT_tms hj, gt_eq hj] at h1
    have h2 : (gt S j).item = (gt S k).item := by
      have := congrArg Tm.it h1
      simp only [tmOf] at this
      rw [← this]; exact e
    have := nd_at hd (by omega) hk h2
    omega
  have hp : Pos R (gt S k).at_ k := by
    refine pos_tms ⟨by rw [tms_len]; omega, fun j hj hij => by rw [tms_len] at hj; omega, fun h0 => ?_⟩
    rw [hg (k - 1) (by omega)]
    have := ord_le ok.ord (i := k - 1) (j := k) (by omega) (by rw [hS, tms_len]; exact hk)
    rw [hS, gtT_tms (by omega), gtT_tms hk] at this
    exact this
  refine (put24_ok w1 q G k R (gt S k).at_ (gt S k).item k (hw _ hx).2.2 hq1 hT hi (by omega) hp (by omega)).mono ?_
  rintro e w' ⟨he, F', r1, r2, r3⟩
  have hrow := own_touch h.row t1 (fun _ _ e => by cases e)
  have hcc := h.cc.keep t1 (by simp)
  refine ⟨he, G, r2, fun b cs e z hb e1 e2 => hq1.notin hb e1 e2, own_touch hrow r2 (fun b hb => hq1.apart hrow (by decide) (by decide) b hb), hcc.keep r2 (hq1.notin hcc (by decide) (by decide)), ⟨F', ins R k ⟨(gt S k).at_, k, (gt S k).item⟩, by simpa using r1, ?_, fun j hj => ?_⟩, h.dn, (h.tc.trans' t1).trans r2 (fun i hi => Or.inr (hG i hi))⟩
  · rw [tms_ins, hR]
    unfold insT
    have e1 : (tms (S.take k)).length = k := by rw [tms_len, List.length_take]; omega
    rw [List.take_of_length_le (by omega), List.drop_of_length_le (by omega), List.take_succ_eq_append_getElem hk]
    unfold tms
    rw [List.map_append, ← gt_eq hk]
    rfl
  · rcases r3 j hj with e | e
    · exact hG j e
    · exact Nat.le_trans h.tc.size (Nat.le_trans t1.size e)
theorem ClS.done {w wr : World} {d q : Nat} {v : Value} {S : List Slot} {s : Cs} {N : Nat} (h : ClS w wr d q s.now s.last v S N) (hN : N = S.length) (ok : Ok s) (hS : s.T = tms S) : NwQ (.returned (.pointer (some ⟨d, 0, none⟩))) w wr s := by
  obtain ⟨G, R, hq, hR, hG⟩ := h.tq
  rw [hN, List.take_length] at hR
  refine ⟨d, d :: G, rfl, ⟨q, G, N, R, rfl, h.cc, hq, hq.notin h.cc (by decide) (by decide), ?_, by rw [hS, hR], ok⟩, h.tc, fun k hk => ?_⟩
  · have := ok.ll
    rw [hS, tms_len] at this
    omega
  · rcases List.mem_cons.1 hk with rfl | hk
    · exact h.dn
    · exact hG k hk
set_option maxHeartbeats 4000000 in
set_option maxRecDepth 100000 in
theorem clone9 (w : World) (c : Nat) (F : List Nat) (s : Cs) (h : Ck w c F s) : Calls Try.prog 9 #[PC c] w fun e w' => NwQ e w w' s := by
  obtain ⟨q, G, p, S, rfl, k⟩ := h
  have f0 : ∀ w', Touch [] w w' → w'.cell? ⟨c, 0, none⟩ = some (.int .i64 s.now) := fun w' t => (k.cc.keep t (by simp)).c0
  have f1 : ∀ w', Touch [] w w' → w'.cell? ⟨c, 1, none⟩ = some (.int .i64 s.last) := fun w' t => (k.cc.keep t (by simp)).c1
  have f2 : ∀ w', Touch [] w w' → w'.cell? ⟨c, 2, none⟩ = some (.pointer (some ⟨q, 0, none⟩)) := fun w' t => (k.cc.keep t (by simp)).c2
  have HA : Hid (∀ w1, Touch [] w w1 → Calls Try.prog 22 #[.pointer (some ⟨q, 0, none⟩)] w1 fun e w' => ∃ v, e = .returned v ∧ w'.ownsRow w.heap.size 62 2 v S.length (flat2 S) ∧ Touch [] w1 w') := fun w1 t1 => by
    refine (all33 w1 q G p S (k.tq.keep0 t1)).mono ?_
    rintro e w' ⟨v, he, r1, r2⟩
    obtain ⟨h1, h2 | ⟨g', c', cur, e', hg, r⟩⟩ := r1
    · exact ⟨v, he, ⟨h1, Or.inl h2⟩, r2⟩
    · exact ⟨v, he, ⟨h1, Or.inr ⟨g', c', cur, e', Nat.le_trans t1.size hg, r⟩⟩, r2⟩
  have HK := hid (And.intro k.ok (And.intro k.eq (And.intro k.tq.nd k.tq.wf)))
  have HLe := hid k.tq.len
  clear k
  unfold PC
  go_enter Try.func9, Try.ntmps9
  go_wp2
  go_region_held3 (fun w' => Touch [] w w') (first | assumption | exact (Touch.refl _ _).drew | exact Touch.refl _ _ | exact Touch.drew (by assumption) | exact Touch.alloc (by assumption) _)
    (first | (go_at_call 21; refine (newTimes21 _).mono ?_; rintro e w1 ⟨rfl, q1, t1⟩; have T1 : Touch [] w w1 := Touch.trans' (by assumption) t1; have Q1 := hid (And.intro q1 t1); clear q1 t1))
  obtain ⟨V, hV⟩ : ∃ V, V = w1.alloc (.cells #[.int .i64 s.now, .int .i64 s.last, .pointer (some ⟨w.heap.size, 0, none⟩)] 58) := ⟨_, rfl⟩
  have HC : Hid (CC V w1.heap.size w.heap.size s.now s.last) := by rw [hV]; exact heap_alloc_new _ _
  have HQ : Hid (Tq V w.heap.size [w.heap.size] 0 []) := by rw [hV]; exact Q1.out.1.keep0 ((Touch.refl _ _).alloc _)
  have HT : Hid (Touch [] w V) := by rw [hV]; exact T1.alloc _
  have HS := hid T1.size
  have HB := hid (block_lt HC.out)
  have g2 := f2 V HT.out
  generalize w1.heap.size = d at *
  rw [← hV]
  clear hV Q1 T1 f0 f1 f2
  obtain ⟨N, hN⟩ : ∃ N, N = S.length := ⟨_, rfl⟩
  have HN := hid hN
  rw [← hN] at HA HLe
  clear hN
  go_wp2_with (first
    | (go_at_call 22; refine (HA.out _ HT.out).mono ?_; rintro e w2 ⟨v2, rfl, o2, t2⟩; obtain ⟨a2, m2, rfl⟩ := own_form o2; have O2 := hid o2; have T2 := hid t2; clear o2 t2))
  have H0 : Hid (ClS w w2 d w.heap.size s.now s.last (.slice a2 N m2) S 0) := by
    refine ⟨by rw [← HN.out]; exact O2.out, HC.out.keep T2.out (by simp), ⟨[w.heap.size], [], HQ.out.keep0 T2.out, by simp [tms], fun j hj => by simp at hj; omega⟩, HS.out, HT.out.trans' T2.out⟩
  have zl : (N : Int) ≤ 65536 := by have := HLe.out; omega
  clear HA HC HQ HT g2 HS HB O2 T2
  go_loopw [25] (fun i wr => ∃ k : Nat, i = .int .i64 k ∧ k ≤ N ∧ Hid (ClS w wr d w.heap.size s.now s.last (.slice a2 N m2) S k)) (fun i _ => N - (intOf i).toNat)
  case atStart => exact ⟨0, rfl, Nat.zero_le _, H0⟩
  case round =>
    clear H0
    obtain ⟨k, rfl, hk, HR⟩ := hrel
    by_cases hlt : k < N
    · have zk : (k : Int) < (N : Int) := by omega
      have hkS : k < S.length := by have := HN.out; omega
      obtain ⟨g, c', hv⟩ : ∃ g c', Value.slice a2 N m2 = .slice (some ⟨g, 0, none⟩) S.length c' := by
        obtain ⟨g, c', h, _⟩ := HR.out.row.form (by omega)
        exact ⟨g, c', h⟩
      injection hv with hv1 hv2 hv3
      subst hv1 hv3
      obtain ⟨x0, x1⟩ := flat2_at S k hkS
      have hrow : wr.ownsRow w.heap.size 62 2 (.slice (some ⟨g, 0, none⟩) N m2) N (flat2 S) := by have := HR.out.row; rw [← HN.out] at this; exact this
      have a0 := own_cell hrow x0
      have a1 := own_cell hrow x1
      clear hrow
      have HP : Hid (∀ w1, Touch [] (wr.alloc (.cells #[.int .i64 (gt S k).at_, .int .i64 (gt S k).item] 62)) w1 → Calls Try.prog 23 #[.pointer (some ⟨w.heap.size, 0, none⟩), .int .i64 (gt S k).at_, .int .i64 (gt S k).item] w1 fun e w' => e = .returned (.int .i64 0) ∧ (w'.cell? ⟨d, 2, none⟩ = some (.pointer (some ⟨w.heap.size, 0, none⟩)) ∧ w'.cell? ⟨wr.heap.size, 0, none⟩ = some (.int .i64 (gt S k).at_) ∧ w'.cell? ⟨wr.heap.size, 1, none⟩ = some (.int .i64 (gt S k).item)) ∧ ClS w w' d w.heap.size s.now s.last (.slice (some ⟨g, 0, none⟩) N m2) S (k + 1)) := fun w1 t1 => by
        have t0 : Touch [] wr w1 := ((Touch.refl _ _).alloc _).trans' t1
        refine (HR.out.put hkS HK.out.1 HK.out.2.1 HK.out.2.2.1 HK.out.2.2.2 t0).mono ?_
        rintro e w' ⟨he, F, r1, r2, r3⟩
        have b1 : w1.heap[wr.heap.size]? = some (.cells #[.int .i64 (gt S k).at_, .int .i64 (gt S k).item] 62 (0, 0)) := t1.keep (heap_alloc_new _ _) (by simp)
        have b2 := r1.keep b1 (r2 _ _ _ _ b1 (by decide) (by decide))
        exact ⟨he, ⟨r3.cc.c2, by simp [World.cell?, b2], by simp [World.cell?, b2]⟩, r3⟩
      have d2 := HR.out.cc.c2
      have hd := block_lt HR.out.cc
      clear x0 x1 hv2 hkS
      generalize gt S k = x at *
      go_wp2
      go_region_held3 (fun w' => w'.cell? ⟨d, 2, none⟩ = some (.pointer (some ⟨w.heap.size, 0, none⟩)) ∧ w'.cell? ⟨wr.heap.size, 0, none⟩ = some (.int .i64 x.at_) ∧ w'.cell? ⟨wr.heap.size, 1, none⟩ = some (.int .i64 x.item)) (first | assumption | go_keep)
        (first | (go_at_call 23; refine (HP.out _ (Touch.refl _ _).drew).mono ?_; rintro e w5 ⟨rfl, ⟨y2, y0, y1⟩, r⟩; have R := hid r; clear r))
      go_wp2
      go_roundw
      case rel => exact ⟨k + 1, by go_num, by omega, R⟩
      case measure => simp [intOf]; omega
    · have e : k = N := by omega
      subst e
      have HX : Hid (NwQ (.returned (.pointer (some ⟨d, 0, none⟩))) w wr s) := HR.out.done HN.out HK.out.1 HK.out.2.1
      go_wp2
      go_ret
      exact HX.out
end Go.Proofs.Ytaioegefoiabhaa
