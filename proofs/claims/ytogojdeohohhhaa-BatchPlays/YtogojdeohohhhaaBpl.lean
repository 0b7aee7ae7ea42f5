/- Of every count, window and list of acts: a batch is what the document's is: the walk of the law; the list's length is within the form's reach. -/
import Derived.Test.YtogojdeohohhhaaBoc
namespace Go.Proofs.Ytogojdeohohhhaa
open Go.RowKit Go.Maps Go.ChangeMaps
set_option linter.unusedVariables false
set_option linter.unusedSimpArgs false
theorem Rd.box {w w' : World} {v : Value} {xs : List Int} {M : Nat} {cs : Array Value} {t : TypeId} {z : Nat × Nat} (h : Rd w v xs) (T : Touch [M] w w') (hm : w.heap[M]? = some (.cells cs t z)) (ht : t ≠ 3) : Rd w' v xs := by
  obtain ⟨a, c, rfl, h1, h2, h0, h3⟩ := h
  refine ⟨a, c, rfl, h1, h2, h0, ?_⟩
  rcases h3 with e | ⟨b, cur, e, z', rfl, hb, hc⟩
  · exact Or.inl e
  · refine Or.inr ⟨b, cur, e, z', rfl, T.keep hb (fun q => ?_), hc⟩
    simp only [List.mem_singleton] at q
    subst q
    rw [hm] at hb
    simp only [Option.some.injEq, Obj.cells.injEq] at hb
    exact ht hb.2.1
/-- What stands between two acts: the batch, and the document's in its box. -/
structure Ls (w : World) (M b N : Nat) (F : List Nat) (S : Bs) (u : Value) (wx : World) : Prop where
  bq : Bq wx b F S N
  hm : wx.heap[M]? = some (.cells (dc u S) 31 (0, 0))
  rd : Rd wx u S.run
  ap : Ap S.run u F
  fl : ∀ d, d ∈ F → w.heap.size ≤ d ∧ d ≠ M
  ml : w.heap.size ≤ M
  t : Touch [] w wx
def LsX (w : World) (M b N : Nat) (wx : World) : Prop := ∃ F S a n c, Ls w M b N F S (.slice a n c) wx
section
variable {w wx w' : World} {M b N b4 : Nat} {F : List Nat} {S T : Bs} {u u4 : Value}
theorem Ls.keep (h : Ls w M b N F S u wx) (X : Touch [] wx w') : Ls w M b N F S u w' :=
  ⟨h.bq.keep0 X, X.keep h.hm (by simp), h.rd.keep0 X, h.ap, h.fl, h.ml, h.t.trans' X⟩
theorem Ls.box (h : Ls w M b N F S u wx) (q : OnQ wx w' F T N b4 u4) : w'.heap[M]? = some (.cells (dc u S) 31 (0, 0)) := by
  obtain ⟨F', q1, q2, q3, q4, q5⟩ := q
  exact q4.keep h.hm (fun e => (h.fl M e).2 rfl)
theorem Ls.step (h : Ls w M b N F S u wx) (q : OnQ wx w' F T N b4 u4) : ∃ F', Ls w M b4 (N + 1) F' T u4 (st7 w' M u4 T) := by
  have hm := h.box q
  obtain ⟨F', q1, q2, q3, q4, q5⟩ := q
  have tm : Touch [M] w' (st7 w' M u4 T) := st7_touch (Touch.refl _ _) (Or.inl (by simp))
  have hMl := block_lt h.hm
  have hz := h.t.size
  have hml := h.ml
  have hfl : ∀ d, d ∈ F' → w.heap.size ≤ d ∧ d ≠ M := fun d hd => by
    rcases q5 d hd with e | e
    · exact h.fl d e
    · exact ⟨by omega, by omega⟩
  refine ⟨F', q1.keep tm (fun d hd e => ?_), st7_at hm, q2.box tm hm (by decide), q3, hfl, h.ml, ?_⟩
  · simp only [List.mem_singleton] at e
    exact (hfl d hd).2 e
  · have x1 : Touch [] w w' := h.t.trans q4 (fun i hi => Or.inr (by have := (h.fl i hi).1; omega))
    exact x1.trans tm (fun i hi => Or.inr (by simp at hi; omega))
end
set_option maxHeartbeats 8000000 in
set_option maxRecDepth 100000 in
theorem plays_no (w : World) (c k : Int) (a : Option Addr) (n cv : Nat) (hg : mayB c k = false) : Calls Try.prog 3 #[.int .i64 c, .int .i64 k, .slice a n cv] w fun e w' => e = .returned (.bool true) ∧ Touch [] w w' := by
  have HN := hid (new_no w c k hg)
  have HM := hid (may_ w c k)
  have e1 : (decide (1 ≤ c) && decide (c ≤ 1024) && decide (0 ≤ k)) = false := hg
  rw [e1] at HM
  clear hg e1
  go_enter Try.func3, Try.ntmps3
  go_upto_region 6 with (first
    | (go_at_call 5; refine HN.out.mono ?_; rintro e w1 ⟨rfl, e1⟩; rw [e1]; clear e1 w1)
    | (go_at_call 6; refine HM.out.mono ?_; rintro e w1 ⟨rfl, e1⟩; rw [e1]; clear e1 w1)
    | (go_at_call 7; refine (awake_ _).mono ?_; rintro e w2 ⟨rfl, t2⟩; have T2 := hid t2; clear t2))
  obtain ⟨W3, hW3⟩ : ∃ W3, W3 = w2.alloc (.cells #[.int .i64 c, .int .i64 k, .slice none 0 0, .int .i64 0, .int .i64 0, .int .i64 0, .int .i64 0] 31) := ⟨_, rfl⟩
  have T3 : Hid (Touch [] w W3) := hid (by rw [hW3]; exact T2.out.alloc _)
  rw [← hW3]
  clear hW3 T2
  go_wp2_with fail
  go_loopw [11] (fun s11 wr => s11 = .int .i64 0 ∧ wr = W3) (fun _ _ => 0)
  case atStart => exact ⟨rfl, rfl⟩
  case round =>
    obtain ⟨rfl, rfl⟩ := hrel
    by_cases hn : (0 : Int) < (n : Int)
    · go_wp2_with fail
      go_ret
      exact ⟨rfl, T3.out⟩
    · go_wp2_with fail
      go_ret
      exact ⟨rfl, T3.out⟩
set_option maxHeartbeats 8000000 in
set_option maxRecDepth 100000 in
theorem plays_ok (w : World) (cc kk : Int) (xs : List ActB) (v : Value) (hk : W64 kk) (hv : SlActB w v xs) (hw : ∀ x ∈ xs, x.ok) (hL : xs.length ≤ 5864062014634) (hg : mayB cc kk = true) : Calls Try.prog 3 #[.int .i64 cc, .int .i64 kk, v] w fun e w' => e = .returned (.bool true) ∧ Touch [] w w' := by
  obtain ⟨avv, cv, rfl⟩ : ∃ av cv, v = .slice av xs.length cv := by
    rcases hv with ⟨rfl, a, c, rfl⟩ | ⟨b, off, cap, rfl, _⟩
    · exact ⟨a, c, rfl⟩
    · exact ⟨_, _, rfl⟩
  have HRow : Hid (xs.length = 0 ∨ ∃ b off, avv = some ⟨b, off, none⟩ ∧ RowActB w b off xs) := by
    rcases hv with ⟨rfl, _⟩ | ⟨b, off, cap, e, r⟩
    · exact Or.inl rfl
    · simp only [Value.slice.injEq] at e
      exact Or.inr ⟨b, off, e.1, r⟩
  obtain ⟨A, hA⟩ : ∃ A, A = xs.length := ⟨_, rfl⟩
  have HAx := hid hA
  have HWf := hid hw
  rw [← hA] at HRow hL ⊢
  have HLe := hid hL
  have HN := hid (new_yes w cc kk hg)
  have HM := hid (fun w => may_ w cc kk)
  have e1 : (decide (1 ≤ cc) && decide (cc ≤ 1024) && decide (0 ≤ kk)) = true := hg
  rw [e1] at HM
  have HST : Hid (∀ w1 w2 W3, Bm w1 w.heap.size (.slice none 0 0) 0 (S0 cc kk) → Touch [] w w1 → Touch [] w1 w2 → W3 = w2.alloc (.cells (dc (.slice none 0 0) (S0 cc kk)) 31) → LsX w w2.heap.size w.heap.size 0 W3) := hid (fun w1 w2 W3 q1 q2 q3 e => by
    have hl := q1.lt
    have hz := q3.size
    have tt : Touch [] w2 W3 := by rw [e]; exact (Touch.refl _ _).alloc _
    refine ⟨fpB w.heap.size (.slice none 0 0), S0 cc kk, none, 0, 0, ⟨⟨.slice none 0 0, 0, rfl, q1.keep0 (q3.trans' tt), iv0 hg hk⟩, by rw [e]; exact heap_alloc_new w2 _, Rd.nil _, fun hx => absurd rfl hx, fun d hd => ?_, by omega, (q2.trans' q3).trans' tt⟩⟩
    rcases mem_fpB.1 hd with e | e
    · exact ⟨by omega, by omega⟩
    · cases e)
  clear hA hw hL hv hg e1
  unfold PT at HN
  unfold dc S0 at HST
  go_enter Try.func3, Try.ntmps3
  go_upto_region 6 with (first
    | (go_at_call 5; refine HN.out.mono ?_; rintro e w1 ⟨rfl, q1, q2⟩; have Q1 := hid q1; have Q2 := hid q2; clear q1 q2)
    | (go_at_call 6; refine (HM.out _).mono ?_; rintro e w1' ⟨rfl, e1⟩; rw [e1]; clear e1 w1')
    | (go_at_call 7; refine (awake_ _).mono ?_; rintro e w2 ⟨rfl, t2⟩; have T2 := hid t2; clear t2))
  obtain ⟨W3, hW3⟩ : ∃ W3, W3 = w2.alloc (.cells #[.int .i64 cc, .int .i64 kk, .slice none 0 0, .int .i64 0, .int .i64 0, .int .i64 0, .int .i64 0] 31) := ⟨_, rfl⟩
  have HI := hid (HST.out w1 w2 W3 Q1.out Q2.out T2.out hW3)
  rw [← hW3]
  clear hW3 T2 Q1 Q2 HST HN HM
  obtain ⟨M, hM⟩ : ∃ M, M = w2.heap.size := ⟨_, rfl⟩
  rw [← hM] at HI ⊢
  clear hM
  go_wp2_with fail
  go_loopw [7, 11] (fun s7 s11 wr => ∃ (b2 m : Nat), s7 = .pointer (some ⟨b2, 0, none⟩) ∧ s11 = .int .i64 (m : Int) ∧ m ≤ A ∧ Hid (LsX w M b2 m wr)) (fun _ i _ => A - (intOf i).toNat)
  case atStart => exact ⟨w.heap.size, 0, rfl, rfl, Nat.zero_le _, HI⟩
  case round =>
    clear HI
    obtain ⟨b2, m, rfl, rfl, hm, HR⟩ := hrel
    by_cases hlt : m < A
    · have zk : (m : Int) < (A : Int) := by omega
      have zA : (A : Int) ≤ 5864062014634 := by have := HLe.out; omega
      obtain ⟨ba, off, rfl, hrow⟩ : ∃ ba off, avv = some ⟨ba, off, none⟩ ∧ RowActB w ba off xs := by
        rcases HRow.out with e | e
        · omega
        · exact e
      have hnx : m < xs.length := by have := HAx.out; omega
      have HRw : Hid (∀ w', Touch [] w w' → w'.cell? ⟨ba, off + m * 3, none⟩ = some (.int .i64 xs[m].kd) ∧ w'.cell? ⟨ba, off + m * 3 + 1, none⟩ = some (.int .i64 xs[m].rn) ∧ w'.cell? ⟨ba, off + m * 3 + 2, none⟩ = some (.int .i64 xs[m].nw)) := fun w' t => ⟨(hrow.keep t).c0 m hnx, (hrow.keep t).c1 m hnx, (hrow.keep t).c2 m hnx⟩
      have HWx := hid (HWf.out xs[m] (List.getElem_mem hnx))
      clear hrow
      generalize xs[m] = ac at *
      clear hnx
      have HNn := hid (And.intro hm hlt)
      clear hm hlt
      go_upto_block 1 with fail
      go_upto_region 10 with fail
      obtain ⟨F, S, a, n, c, hp⟩ := HR.out
      clear HR
      obtain ⟨p0, p1, p2, p3, p4, p5, p6, pf⟩ := dcs_at hp.hm
      obtain ⟨q0, q1, q2⟩ := HRw.out _ hp.t
      have HO : Hid (∀ w', Touch [] wr w' → Calls Try.prog 8 #[PT b2, dv (.slice a n c) S, .agg ac.cs] w' fun e w4 => ∃ b4 u4 T, e = .returned (.tuple #[PT b4, dv u4 T, .bool true]) ∧ (∃ p n c, u4 = .slice p n c) ∧ w4.heap[M]? = some (.cells (dc (.slice a n c) S) 31 (0, 0)) ∧ ∃ F', Ls w M b4 (m + 1) F' T u4 (st7 w4 M u4 T)) := hid (fun w' X => by
        have h2 := hp.keep X
        refine (one_ w' b2 F S _ ac m h2.bq h2.rd h2.ap (by have := HNn.out; have := HLe.out; omega) HWx.out).mono ?_
        rintro e w4 ⟨b4, u4, rfl, hf, hq⟩
        obtain ⟨F', hs'⟩ := h2.step hq
        exact ⟨b4, u4, _, rfl, hf, h2.box hq, F', hs'⟩)
      unfold PT dv dc ActB.cs at HO
      clear hp
      go_cut [7, 12] from 60 to 70 (fun s7 s12 wx => ∃ b2, s7 = .pointer (some ⟨b2, 0, none⟩) ∧ s12 = .bool true ∧ Hid (LsX w M b2 (m + 1) wx))
      case first =>
        have t3 : Touch [] wr wr.drew := (Touch.refl _ _).drew
        go_region_with (go_at_call 8; refine (HO.out _ t3).mono ?_; rintro e w4 ⟨b4, u4, T, rfl, ⟨a4, n4, c4, rfl⟩, hb4, F4, h4⟩; have x0 := cell_at (j := 0) hb4 rfl; have x1 := cell_at (j := 1) hb4 rfl; have x2 := cell_at (j := 2) hb4 rfl; have x3 := cell_at (j := 3) hb4 rfl; have x4 := cell_at (j := 4) hb4 rfl; have x5 := cell_at (j := 5) hb4 rfl; have x6 := cell_at (j := 6) hb4 rfl; have xf := froz_at hb4; unfold st7 at h4; have H4 := hid h4; clear h4 hb4)
        all_goals
          go_wp2_with fail
          go_meet
          case rel => exact ⟨b4, rfl, rfl, hid ⟨F4, T, a4, n4, c4, H4.out⟩⟩
      case rest =>
        clear p0 p1 p2 p3 p4 p5 p6 pf q0 q1 q2 HO
        obtain ⟨b2, rfl, rfl, HR⟩ := hcut
        obtain ⟨F, S, a, n, c, hp⟩ := HR.out
        have hp' := hid hp
        have hM : ∀ w', Touch [] wc w' → Dcs w' M (.slice a n c) S := fun w' X => dcs_at (X.keep hp'.out.hm (by simp))
        have HMM := hid hM
        have HDu : Hid (Calls Try.prog 9 #[PT b2] wc fun e w' => e = .returned (.tuple #[.int .i64 (dueV S), .bool (decide (S.run ≠ []))]) ∧ w' = wc) := hid (by
          obtain ⟨sl, d, rfl, hb, hv⟩ := hp'.out.bq
          exact due_ hb)
        have HDd : Hid (Calls Try.prog 10 #[dv (.slice a n c) S] wc fun e w' => e = .returned (.tuple #[.int .i64 (dueV S), .bool (decide (S.run ≠ []))]) ∧ Touch [] wc w') := hid (by
          obtain ⟨sl, d, rfl, hb, hv⟩ := hp'.out.bq
          exact rdue_ wc _ S hp'.out.rd hv.s1 hv.s2 hv.w1 hv.w2)
        unfold PT at HDu
        unfold dv dc at HDd
        generalize dueV S = dd at *
        generalize decide (S.run ≠ []) = db at *
        obtain ⟨p0, p1, p2, p3, p4, p5, p6, pf⟩ := hM wc (Touch.refl _ _)
        clear hp hM HR
        go_upto_region 15 with (first
          | (go_at_call 9; refine HDu.out.mono ?_; rintro e w1' ⟨rfl, e1⟩; rw [e1]; clear e1 w1')
          | (go_at_call 10; refine HDd.out.mono ?_; rintro e w7 ⟨rfl, t7⟩; have T7 := hid t7; clear t7))
        clear p0 p1 p2 p3 p4 p5 p6 pf HDu HDd
        obtain ⟨wo, hwo⟩ : ∃ wo, wo = wc := ⟨_, rfl⟩
        rw [← hwo] at hp' HMM T7
        have hpc : Hid (Ls w M b2 (m + 1) F S (.slice a n c) w7) := hid (hp'.out.keep T7.out)
        have HMc : Hid (∀ w', Touch [] w7 w' → Dcs w' M (.slice a n c) S) := hid (fun w' X => HMM.out w' (T7.out.trans' X))
        clear hp' HMM T7 hwo
        have s2 : ∀ w', Touch [] w7 w' → w'.cell? ⟨M, 2, none⟩ = some (.slice a n c) := fun w' X => (HMc.out w' X).c2
        have s6 : ∀ w', Touch [] w7 w' → w'.cell? ⟨M, 6, none⟩ = some (.int .i64 S.snt) := fun w' X => (HMc.out w' X).c6
        have rc1 : ∀ w', Touch [] w7 w' → w'.cell? ⟨ba, off + m * 3 + 1, none⟩ = some (.int .i64 ac.rn) := fun w' t => (HRw.out w' (hpc.out.t.trans' t)).2.1
        have HRu : Hid (∀ w', Touch [] w7 w' → Calls Try.prog 12 #[PT b2] w' fun e w2 => ∃ a6 n6 c6, e = .returned (.slice a6 n6 c6) ∧ (∀ w3, Touch [] w2 w3 → Calls Try.prog 11 #[.slice a6 n6 c6, .slice a n c] w3 fun e w4 => e = .returned (.bool true) ∧ Touch [] w3 w4) ∧ Touch [] w' w2) := hid (fun w' t => by
          have h2 := hpc.out.keep t
          obtain ⟨sl, d, rfl, hb, hv⟩ := h2.bq
          refine (runs_ hb (by have := hv.len; omega)).mono ?_
          rintro e w2 ⟨a6, n6, c6, rfl, r1, r2⟩
          exact ⟨a6, n6, c6, rfl, fun w3 t3 => ints_ w3 _ _ S.run ((Rd.of_own r1).keep0 t3) (h2.rd.keep0 (r2.trans' t3)) (by have := hv.len; omega), r2⟩)
        have HHa : Hid (∀ w', Touch [] w7 w' → Calls Try.prog 13 #[PT b2, .int .i64 ac.rn] w' fun e w2 => e = .returned (.bool (decide (ac.rn ∈ S.run))) ∧ Touch [] w' w2) := hid (fun w' t => by
          obtain ⟨sl, d, rfl, hb, hv⟩ := (hpc.out.keep t).bq
          exact has_ hb hv ac.rn)
        have HLh : Hid (∀ w', Touch [] w7 w' → Calls Try.prog 14 #[.slice a n c, .int .i64 ac.rn] w' fun e w2 => e = .returned (.bool (decide (ac.rn ∈ S.run))) ∧ Touch [] w' w2) := hid (fun w' t => by
          obtain ⟨sl, d, rfl, hb, hv⟩ := (hpc.out.keep t).bq
          exact lhas_ w' _ S.run ac.rn (hpc.out.keep t).rd (by have := hv.len; omega))
        have HSe : Hid (∀ w', Touch [] w7 w' → Calls Try.prog 15 #[PT b2] w' fun e w2 => e = .returned (.int .i64 S.snt) ∧ Touch [] w7 w2) := hid (fun w' t => by
          obtain ⟨sl, d, rfl, hb, hv⟩ := (hpc.out.keep t).bq
          refine (sent_ hb).mono ?_
          rintro e w2 ⟨rfl, rfl⟩
          exact ⟨rfl, t⟩)
        unfold PT at HRu HHa HSe
        refine wp_region_H (S := fun w' => Touch [] w7 w') (by kernel_rfl) ?_
        have hS0 : Touch [] w7 w7.drew := (Touch.refl _ _).drew
        refine wpH_take (i := 0) (v := (.int .i64 dd)) (some 83) rfl rfl (by kernel_rfl) (by kernel_rfl) (by kernel_rfl) (fun _ _ _ h => h) (Or.inl ⟨by rfl, fun w' hS => (by go_simp)⟩) hS0 ?_
        try simp only [Go.Act.put, List.setIfInBounds_toArray, List.set_cons_zero, List.set_cons_succ]
        refine wpH_take (i := 1) (v := (.int .i64 dd)) (some 84) rfl rfl (by kernel_rfl) (by kernel_rfl) (by kernel_rfl) (fun _ _ _ h => h) (Or.inl ⟨by rfl, fun w' hS => (by go_simp)⟩) hS0 ?_
        try simp only [Go.Act.put, List.setIfInBounds_toArray, List.set_cons_zero, List.set_cons_succ]
        refine wpH_take (i := 2) (v := (.bool false)) (some 85) rfl rfl (by kernel_rfl) (by kernel_rfl) (by kernel_rfl) (fun _ _ _ h => h) (Or.inl ⟨by rfl, fun w' hS => (by go_simp)⟩) hS0 ?_
        try simp only [Go.Act.put, List.setIfInBounds_toArray, List.set_cons_zero, List.set_cons_succ]
        refine wpH_take (i := 3) (v := (.bool false)) (some 86) rfl rfl (by kernel_rfl) (by kernel_rfl) (by kernel_rfl) (fun _ _ _ h => h) (Or.inl ⟨by rfl, fun w' hS => (by go_simp)⟩) hS0 ?_
        try simp only [Go.Act.put, List.setIfInBounds_toArray, List.set_cons_zero, List.set_cons_succ]
        refine wpH_take (i := 4) (v := (.bool db)) (some 87) rfl rfl (by kernel_rfl) (by kernel_rfl) (by kernel_rfl) (fun _ _ _ h => h) (Or.inl ⟨by rfl, fun w' hS => (by go_simp)⟩) hS0 ?_
        try simp only [Go.Act.put, List.setIfInBounds_toArray, List.set_cons_zero, List.set_cons_succ]
        refine wpH_take (i := 5) (v := (.bool db)) (some 88) rfl rfl (by kernel_rfl) (by kernel_rfl) (by kernel_rfl) (fun _ _ _ h => h) (Or.inl ⟨by rfl, fun w' hS => (by go_simp)⟩) hS0 ?_
        try simp only [Go.Act.put, List.setIfInBounds_toArray, List.set_cons_zero, List.set_cons_succ]
        refine wpH_take (i := 6) (v := (.bool false)) (some 89) rfl rfl (by kernel_rfl) (by kernel_rfl) (by kernel_rfl) (fun _ _ _ h => h) (Or.inl ⟨by rfl, fun w' hS => (by go_simp)⟩) hS0 ?_
        try simp only [Go.Act.put, List.setIfInBounds_toArray, List.set_cons_zero, List.set_cons_succ]
        refine wpH_take (i := 7) (v := (.bool false)) (some 90) rfl rfl (by kernel_rfl) (by kernel_rfl) (by kernel_rfl) (fun _ _ _ h => h) (Or.inl ⟨by rfl, fun w' hS => (by go_simp)⟩) hS0 ?_
        try simp only [Go.Act.put, List.setIfInBounds_toArray, List.set_cons_zero, List.set_cons_succ]
        refine wpH_take (i := 8) (v := (.bool false)) (some 91) rfl rfl (by kernel_rfl) (by kernel_rfl) (by kernel_rfl) (fun _ _ _ h => h) (Or.inl ⟨by rfl, fun w' hS => (by go_simp)⟩) hS0 ?_
        try simp only [Go.Act.put, List.setIfInBounds_toArray, List.set_cons_zero, List.set_cons_succ]
        refine wpH_take (i := 9) (v := (.pointer (some ⟨b2, 0, none⟩))) (some 92) rfl rfl (by kernel_rfl) (by kernel_rfl) (by kernel_rfl) (fun _ _ _ h => h) (Or.inl ⟨by rfl, fun w' hS => (by go_simp)⟩) hS0 ?_
        try simp only [Go.Act.put, List.setIfInBounds_toArray, List.set_cons_zero, List.set_cons_succ]
        refine wpH_take (i := 11) (v := (.pointer (some ⟨M, 2, none⟩))) (some 94) rfl rfl (by kernel_rfl) (by kernel_rfl) (by kernel_rfl) (fun _ _ _ h => h) (Or.inl ⟨by rfl, fun w' hS => (by go_simp)⟩) hS0 ?_
        try simp only [Go.Act.put, List.setIfInBounds_toArray, List.set_cons_zero, List.set_cons_succ]
        refine wpH_take (i := 12) (v := (.slice a n c)) (some 95) rfl rfl (by kernel_rfl) (by kernel_rfl) (by kernel_rfl) (fun _ _ _ h => h) (Or.inl ⟨by rfl, fun w' hS => (by have z0 := s2 _ hS; go_simp)⟩) hS0 ?_
        try simp only [Go.Act.put, List.setIfInBounds_toArray, List.set_cons_zero, List.set_cons_succ]
        refine wpH_call (i := 10) (o := { dst := some 93, op := Op.call { callee := Callee.value (Operand.func 12), args := #[Operand.tmp 92], argTypes := #[23] }, type := 29, pos := _, after := #[{ on := 9, ground := Ground.data }, { on := 8, ground := Ground.chain }, { on := 8, ground := Ground.guard }], guard := some (8, false) }) (by kernel_rfl) rfl (fun K' hK => ?_)
        rw [if_pos (by rfl)]
        go_simp
        refine (HRu.out _ hS0).mono ?_
        rintro e' Y1 ⟨a6, n6, c6, rfl, q6, gY1⟩
        have Q6 := hid q6
        clear q6
        have hY1 : Touch [] w7 Y1 := hS0.trans' gY1
        refine hK.out _ _ hY1 ?_
        clear hK
        try simp only [Go.Act.put, List.setIfInBounds_toArray, List.set_cons_zero, List.set_cons_succ]
        refine wpH_call (i := 13) (o := { dst := some 96, op := Op.call { callee := Callee.value (Operand.func 11), args := #[Operand.tmp 93, Operand.tmp 95], argTypes := #[29, 29] }, type := 4, pos := _, after := #[{ on := 10, ground := Ground.data }, { on := 12, ground := Ground.data }, { on := 10, ground := Ground.chain }, { on := 8, ground := Ground.guard }], guard := some (8, false) }) (by kernel_rfl) rfl (fun K' hK => ?_)
        rw [if_pos (by rfl)]
        go_simp
        refine (Q6.out _ (Touch.refl _ _)).mono ?_
        rintro e' Y2 ⟨rfl, gY2⟩
        have hY2 : Touch [] w7 Y2 := hY1.trans' gY2
        refine hK.out _ _ hY2 ?_
        clear hK
        try simp only [Go.Act.put, List.setIfInBounds_toArray, List.set_cons_zero, List.set_cons_succ]
        refine wpH_take (i := 14) (v := (.bool false)) (some 97) rfl rfl (by kernel_rfl) (by kernel_rfl) (by kernel_rfl) (fun _ _ _ h => h) (Or.inl ⟨by rfl, fun w' hS => (by go_simp)⟩) hY2 ?_
        try simp only [Go.Act.put, List.setIfInBounds_toArray, List.set_cons_zero, List.set_cons_succ]
        refine wpH_take (i := 15) (v := (.bool false)) (some 98) rfl rfl (by kernel_rfl) (by kernel_rfl) (by kernel_rfl) (fun _ _ _ h => h) (Or.inl ⟨by rfl, fun w' hS => (by go_simp)⟩) hY2 ?_
        try simp only [Go.Act.put, List.setIfInBounds_toArray, List.set_cons_zero, List.set_cons_succ]
        refine wpH_take (i := 16) (v := (.bool false)) (some 99) rfl rfl (by kernel_rfl) (by kernel_rfl) (by kernel_rfl) (fun _ _ _ h => h) (Or.inl ⟨by rfl, fun w' hS => (by go_simp)⟩) hY2 ?_
        try simp only [Go.Act.put, List.setIfInBounds_toArray, List.set_cons_zero, List.set_cons_succ]
        refine wpH_take (i := 17) (v := (.pointer (some ⟨b2, 0, none⟩))) (some 100) rfl rfl (by kernel_rfl) (by kernel_rfl) (by kernel_rfl) (fun _ _ _ h => h) (Or.inl ⟨by rfl, fun w' hS => (by go_simp)⟩) hY2 ?_
        try simp only [Go.Act.put, List.setIfInBounds_toArray, List.set_cons_zero, List.set_cons_succ]
        refine wpH_take (i := 18) (v := (.slice (some ⟨ba, off, none⟩) A cv)) (some 101) rfl rfl (by kernel_rfl) (by kernel_rfl) (by kernel_rfl) (fun _ _ _ h => h) (Or.inl ⟨by rfl, fun w' hS => (by go_simp)⟩) hY2 ?_
        try simp only [Go.Act.put, List.setIfInBounds_toArray, List.set_cons_zero, List.set_cons_succ]
        refine wpH_take (i := 19) (v := (.int .i64 (m : Nat))) (some 102) rfl rfl (by kernel_rfl) (by kernel_rfl) (by kernel_rfl) (fun _ _ _ h => h) (Or.inl ⟨by rfl, fun w' hS => (by go_simp)⟩) hY2 ?_
        try simp only [Go.Act.put, List.setIfInBounds_toArray, List.set_cons_zero, List.set_cons_succ]
        refine wpH_take (i := 20) (v := (.pointer (some ⟨ba, off + m * 3, none⟩))) (some 103) rfl rfl (by kernel_rfl) (by kernel_rfl) (by kernel_rfl) (fun _ _ _ h => h) (Or.inl ⟨by rfl, fun w' hS => (by go_simp)⟩) hY2 ?_
        try simp only [Go.Act.put, List.setIfInBounds_toArray, List.set_cons_zero, List.set_cons_succ]
        refine wpH_take (i := 21) (v := (.pointer (some ⟨ba, off + m * 3 + 1, none⟩))) (some 104) rfl rfl (by kernel_rfl) (by kernel_rfl) (by kernel_rfl) (fun _ _ _ h => h) (Or.inl ⟨by rfl, fun w' hS => (by go_simp)⟩) hY2 ?_
        try simp only [Go.Act.put, List.setIfInBounds_toArray, List.set_cons_zero, List.set_cons_succ]
        refine wpH_take (i := 22) (v := (.int .i64 ac.rn)) (some 105) rfl rfl (by kernel_rfl) (by kernel_rfl) (by kernel_rfl) (fun _ _ _ h => h) (Or.inl ⟨by rfl, fun w' hS => (by have z0 := rc1 _ hS; go_simp)⟩) hY2 ?_
        try simp only [Go.Act.put, List.setIfInBounds_toArray, List.set_cons_zero, List.set_cons_succ]
        refine wpH_take (i := 24) (v := (.pointer (some ⟨M, 2, none⟩))) (some 107) rfl rfl (by kernel_rfl) (by kernel_rfl) (by kernel_rfl) (fun _ _ _ h => h) (Or.inl ⟨by rfl, fun w' hS => (by go_simp)⟩) hY2 ?_
        try simp only [Go.Act.put, List.setIfInBounds_toArray, List.set_cons_zero, List.set_cons_succ]
        refine wpH_take (i := 25) (v := (.slice a n c)) (some 108) rfl rfl (by kernel_rfl) (by kernel_rfl) (by kernel_rfl) (fun _ _ _ h => h) (Or.inl ⟨by rfl, fun w' hS => (by have z0 := s2 _ hS; go_simp)⟩) hY2 ?_
        try simp only [Go.Act.put, List.setIfInBounds_toArray, List.set_cons_zero, List.set_cons_succ]
        refine wpH_take (i := 26) (v := (.slice (some ⟨ba, off, none⟩) A cv)) (some 109) rfl rfl (by kernel_rfl) (by kernel_rfl) (by kernel_rfl) (fun _ _ _ h => h) (Or.inl ⟨by rfl, fun w' hS => (by go_simp)⟩) hY2 ?_
        try simp only [Go.Act.put, List.setIfInBounds_toArray, List.set_cons_zero, List.set_cons_succ]
        refine wpH_take (i := 27) (v := (.int .i64 (m : Nat))) (some 110) rfl rfl (by kernel_rfl) (by kernel_rfl) (by kernel_rfl) (fun _ _ _ h => h) (Or.inl ⟨by rfl, fun w' hS => (by go_simp)⟩) hY2 ?_
        try simp only [Go.Act.put, List.setIfInBounds_toArray, List.set_cons_zero, List.set_cons_succ]
        refine wpH_take (i := 28) (v := (.pointer (some ⟨ba, off + m * 3, none⟩))) (some 111) rfl rfl (by kernel_rfl) (by kernel_rfl) (by kernel_rfl) (fun _ _ _ h => h) (Or.inl ⟨by rfl, fun w' hS => (by go_simp)⟩) hY2 ?_
        try simp only [Go.Act.put, List.setIfInBounds_toArray, List.set_cons_zero, List.set_cons_succ]
        refine wpH_take (i := 29) (v := (.pointer (some ⟨ba, off + m * 3 + 1, none⟩))) (some 112) rfl rfl (by kernel_rfl) (by kernel_rfl) (by kernel_rfl) (fun _ _ _ h => h) (Or.inl ⟨by rfl, fun w' hS => (by go_simp)⟩) hY2 ?_
        try simp only [Go.Act.put, List.setIfInBounds_toArray, List.set_cons_zero, List.set_cons_succ]
        refine wpH_take (i := 30) (v := (.int .i64 ac.rn)) (some 113) rfl rfl (by kernel_rfl) (by kernel_rfl) (by kernel_rfl) (fun _ _ _ h => h) (Or.inl ⟨by rfl, fun w' hS => (by have z0 := rc1 _ hS; go_simp)⟩) hY2 ?_
        try simp only [Go.Act.put, List.setIfInBounds_toArray, List.set_cons_zero, List.set_cons_succ]
        refine wpH_call (i := 23) (o := { dst := some 106, op := Op.call { callee := Callee.value (Operand.func 13), args := #[Operand.tmp 100, Operand.tmp 105], argTypes := #[23, 3] }, type := 4, pos := _, after := #[{ on := 17, ground := Ground.data }, { on := 22, ground := Ground.data }, { on := 16, ground := Ground.chain }, { on := 16, ground := Ground.guard }], guard := some (16, false) }) (by kernel_rfl) rfl (fun K' hK => ?_)
        rw [if_pos (by rfl)]
        go_simp
        refine (HHa.out _ hY2).mono ?_
        rintro e' Y3 ⟨rfl, gY3⟩
        have hY3 : Touch [] w7 Y3 := hY2.trans' gY3
        refine hK.out _ _ hY3 ?_
        clear hK
        try simp only [Go.Act.put, List.setIfInBounds_toArray, List.set_cons_zero, List.set_cons_succ]
        refine wpH_call (i := 31) (o := { dst := some 114, op := Op.call { callee := Callee.value (Operand.func 14), args := #[Operand.tmp 108, Operand.tmp 113], argTypes := #[29, 3] }, type := 4, pos := _, after := #[{ on := 25, ground := Ground.data }, { on := 30, ground := Ground.data }, { on := 23, ground := Ground.chain }, { on := 16, ground := Ground.guard }], guard := some (16, false) }) (by kernel_rfl) rfl (fun K' hK => ?_)
        rw [if_pos (by rfl)]
        go_simp
        refine (HLh.out _ hY3).mono ?_
        rintro e' Y4 ⟨rfl, gY4⟩
        have hY4 : Touch [] w7 Y4 := hY3.trans' gY4
        refine hK.out _ _ hY4 ?_
        clear hK
        try simp only [Go.Act.put, List.setIfInBounds_toArray, List.set_cons_zero, List.set_cons_succ]
        refine wpH_take (i := 32) (v := (.bool false)) (some 115) rfl rfl (by kernel_rfl) (by kernel_rfl) (by kernel_rfl) (fun _ _ _ h => h) (Or.inl ⟨by rfl, fun w' hS => (by go_simp)⟩) hY4 ?_
        try simp only [Go.Act.put, List.setIfInBounds_toArray, List.set_cons_zero, List.set_cons_succ]
        refine wpH_take (i := 33) (v := (.bool false)) (some 116) rfl rfl (by kernel_rfl) (by kernel_rfl) (by kernel_rfl) (fun _ _ _ h => h) (Or.inl ⟨by rfl, fun w' hS => (by go_simp)⟩) hY4 ?_
        try simp only [Go.Act.put, List.setIfInBounds_toArray, List.set_cons_zero, List.set_cons_succ]
        refine wpH_take (i := 34) (v := (.bool false)) (some 117) rfl rfl (by kernel_rfl) (by kernel_rfl) (by kernel_rfl) (fun _ _ _ h => h) (Or.inl ⟨by rfl, fun w' hS => (by go_simp)⟩) hY4 ?_
        try simp only [Go.Act.put, List.setIfInBounds_toArray, List.set_cons_zero, List.set_cons_succ]
        refine wpH_take (i := 35) (v := (.pointer (some ⟨b2, 0, none⟩))) (some 118) rfl rfl (by kernel_rfl) (by kernel_rfl) (by kernel_rfl) (fun _ _ _ h => h) (Or.inl ⟨by rfl, fun w' hS => (by go_simp)⟩) hY4 ?_
        try simp only [Go.Act.put, List.setIfInBounds_toArray, List.set_cons_zero, List.set_cons_succ]
        refine wpH_take (i := 37) (v := (.pointer (some ⟨M, 6, none⟩))) (some 120) rfl rfl (by kernel_rfl) (by kernel_rfl) (by kernel_rfl) (fun _ _ _ h => h) (Or.inl ⟨by rfl, fun w' hS => (by go_simp)⟩) hY4 ?_
        try simp only [Go.Act.put, List.setIfInBounds_toArray, List.set_cons_zero, List.set_cons_succ]
        refine wpH_take (i := 38) (v := (.int .i64 S.snt)) (some 121) rfl rfl (by kernel_rfl) (by kernel_rfl) (by kernel_rfl) (fun _ _ _ h => h) (Or.inl ⟨by rfl, fun w' hS => (by have z0 := s6 _ hS; go_simp)⟩) hY4 ?_
        try simp only [Go.Act.put, List.setIfInBounds_toArray, List.set_cons_zero, List.set_cons_succ]
        refine wpH_call (i := 36) (o := { dst := some 119, op := Op.call { callee := Callee.value (Operand.func 15), args := #[Operand.tmp 118], argTypes := #[23] }, type := 3, pos := _, after := #[{ on := 35, ground := Ground.data }, { on := 34, ground := Ground.chain }, { on := 34, ground := Ground.guard }], guard := some (34, false) }) (by kernel_rfl) rfl (fun K' hK => ?_)
        rw [if_pos (by rfl)]
        go_simp
        refine (HSe.out _ hY4).mono ?_
        rintro e' Y5 ⟨rfl, gY5⟩
        have hY5 : Touch [] w7 Y5 := gY5
        refine hK.out _ _ hY5 ?_
        clear hK
        try simp only [Go.Act.put, List.setIfInBounds_toArray, List.set_cons_zero, List.set_cons_succ]
        refine wpH_take (i := 39) (v := (.bool false)) (some 122) rfl rfl (by kernel_rfl) (by kernel_rfl) (by kernel_rfl) (fun _ _ _ h => h) (Or.inl ⟨by rfl, fun w' hS => (by go_simp)⟩) hY5 ?_
        try simp only [Go.Act.put, List.setIfInBounds_toArray, List.set_cons_zero, List.set_cons_succ]
        refine wpH_take (i := 40) (v := (.bool false)) (some 123) rfl rfl (by kernel_rfl) (by kernel_rfl) (by kernel_rfl) (fun _ _ _ h => h) (Or.inl ⟨by rfl, fun w' hS => (by go_simp)⟩) hY5 ?_
        try simp only [Go.Act.put, List.setIfInBounds_toArray, List.set_cons_zero, List.set_cons_succ]
        refine wpAnyH_done (by kernel_rfl) ?_ _
        have hE := hid hY5
        have HE : Hid (LsX w M b2 (m + 1) Y5) := hid ⟨F, S, a, n, c, hpc.out.keep hE.out⟩
        clear s2 s6 rc1 HRu HHa HLh HSe hS0 hpc HMc hY1 hY2 hY3 hY4 hY5
        go_wp2_with fail
        go_roundw
        case rel => exact ⟨b2, m + 1, rfl, by go_num, by have := HNn.out; omega, HE⟩
        case measure => simp [intOf]; have := HNn.out; omega
    · have zk : (A : Int) ≤ (m : Int) := by omega
      have HT := hid (HR.out.choose_spec.choose_spec.choose_spec.choose_spec.choose_spec.t)
      clear HR
      go_wp2_with fail
      go_ret
      exact ⟨rfl, HT.out⟩
theorem plays_ (w : World) (cc kk : Int) (xs : List ActB) (v : Value) (hc : W64 cc) (hk : W64 kk) (hv : SlActB w v xs) (hw : ∀ x ∈ xs, x.ok) (hL : xs.length ≤ 5864062014634) : Calls Try.prog 3 #[.int .i64 cc, .int .i64 kk, v] w fun e w' => e = .returned (.bool true) ∧ Touch [] w w' := by
  cases hg : mayB cc kk
  · rcases hv with ⟨_, a, c, e⟩ | ⟨b, off, cap, e, _⟩
    · rw [e]; exact plays_no w cc kk a 0 c hg
    · rw [e]; exact plays_no w cc kk _ _ cap hg
  · exact plays_ok w cc kk xs v hk hv hw hL hg
end Go.Proofs.Ytogojdeohohhhaa
