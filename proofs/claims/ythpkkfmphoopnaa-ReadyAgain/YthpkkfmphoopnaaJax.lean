/- Of every schedule that may be, every policy and list of acts: with the places that were picked as the schedule the same is told: the walk of the law ReadyAgain; lengths are within the form's reach. -/
import Derived.Test.YthpkkfmphoopnaaJaw
namespace Go.Proofs.Ythpkkfmphoopnaa.Re
open Go.RowKit Go.Maps Go.ChangeMaps
set_option linter.unusedVariables false
set_option linter.unusedSimpArgs false
theorem ow_len {w : World} {B : Nat} {v : Value} {xs : List Int} {n : Nat} (h : Ow w B v xs) (hn : xs.length = n) : ∃ a c, v = .slice a n c := by
  obtain ⟨a, c, e, _⟩ := h.form
  exact ⟨a, c, by rw [← hn]; exact e⟩
theorem take_run {S : Rz} {xs : List ActR} {k : Nat} (hk : k < xs.length) : runS S (xs.take (k + 1)) = doneS (runS S (xs.take k)) xs[k] ∧ runV S (xs.take (k + 1)) = runV S (xs.take k) ++ [doneV (runS S (xs.take k)) xs[k]] := by
  rw [List.take_succ_eq_append_getElem hk]
  exact ⟨runS_snoc _ _ _, runV_snoc _ _ _⟩
theorem runV_take_len {S : Rz} {xs : List ActR} {k : Nat} (hk : k ≤ xs.length) : (runV S (xs.take k)).length = k := by
  rw [runV_len, List.length_take]
  omega
theorem run_take_pre (S : Rz) (xs : List ActR) (k : Nat) : (runS S (xs.take k)).tl <+: (runS S xs).tl := by
  have h := run_pre (runS S (xs.take k)) (xs.drop k)
  have e : ∀ (l m : List ActR) (S : Rz), runS (runS S l) m = runS S (l ++ m) := by
    intro l
    induction l with
    | nil => intro m S; rfl
    | cons a l ih => intro m S; exact ih m _
  rw [e, List.take_append_drop] at h
  exact h
theorem runV_at {S : Rz} {xs : List ActR} {k : Nat} (hk : k < xs.length) (h2 : k < (runV S xs).length) : (runV S xs)[k] = doneV (runS S (xs.take k)) xs[k] := by
  induction xs generalizing S k with
  | nil => simp at hk
  | cons a l ih =>
    cases k with
    | zero => rfl
    | succ k =>
      simp only [List.length_cons] at hk
      have := ih (S := doneS S a) (k := k) (by omega) (by rw [runV_len]; omega)
      simpa [runV, runS] using this
set_option maxHeartbeats 8000000 in
set_option maxRecDepth 100000 in
theorem again_ok (w : World) (x : SchA) (pol : Int) (xs : List ActR) (v : Value) (hx : Ra w x.u x.xs ∧ x.ok) (hv : SlActR w v xs) (hw : ∀ a ∈ xs, a.ok) (hL : xs.length ≤ 8796093021952) (h0 : newE x.p x.xs.length = 0) : Calls Try.prog 4 #[.agg x.cs, .int .i64 pol, v] w fun e w' => e = .returned (.bool true) ∧ Touch [] w w' := by
  obtain ⟨avv, cv, rfl⟩ : ∃ av cv, v = .slice av xs.length cv := by
    rcases hv with ⟨rfl, a, c, rfl⟩ | ⟨b, off, cap, rfl, _⟩
    · exact ⟨a, c, rfl⟩
    · exact ⟨_, _, rfl⟩
  have HRow : Hid (xs.length = 0 ∨ ∃ b off, avv = some ⟨b, off, none⟩ ∧ RowActR w b off xs) := by
    rcases hv with ⟨rfl, _⟩ | ⟨b, off, cap, e, r⟩
    · exact Or.inl rfl
    · simp only [Value.slice.injEq] at e
      exact Or.inr ⟨b, off, e.1, r⟩
  obtain ⟨A, hA⟩ : ∃ A, A = xs.length := ⟨_, rfl⟩
  have HAx := hid hA
  have HWf := hid hw
  rw [← hA] at HRow hL ⊢
  have HLe := hid hL
  obtain ⟨s, hs⟩ : ∃ s : Nat, x.s = (s : Int) := ⟨x.s.toNat, by have := u64_bounds hx.2.2.1; omega⟩
  have hs2 : s < 18446744073709551616 := by have := u64_bounds hx.2.2.1; omega
  obtain ⟨V, hV⟩ : ∃ V, V = w.alloc (.cells x.cs 25) := ⟨_, rfl⟩
  have tv : Touch [] w V := by rw [hV]; exact (Touch.refl _ _).alloc _
  have hbx : V.heap[w.heap.size]? = some (.cells x.cs 25 (0, 0)) := by rw [hV]; exact heap_alloc_new w _
  have HN := hid (new_ok V x.p s x.xs x.u (hx.1.keep0 tv) hs2 hx.2.2.2 h0)
  obtain ⟨au, cu, eu, _⟩ := hx.1.form
  have i0 := cell_at (j := 0) (v := .int .i64 x.p) hbx rfl
  have i1 := cell_at (j := 1) (v := .int .u64 x.s) hbx rfl
  have i2 := cell_at (j := 2) (v := x.u) hbx rfl
  have HB1 : Hid (∀ w', Touch [] V w' → w'.cell? ⟨w.heap.size, 1, none⟩ = some (.int .u64 (s : Int))) := hid (fun w' T => by rw [← hs]; exact cell_at (j := 1) (T.keep hbx (by simp)) rfl)
  have TV := hid tv
  have HW1 : Hid (IntKind.u64.wrap ((s : Int) + 1) = (((s + 1) % 18446744073709551616 : Nat) : Int)) := hid (by rw [IntKind.wrap_u64]; simp)
  unfold SchA.cs at hV ⊢
  rw [hs] at i1 hV ⊢
  rw [eu] at i2 hV HN ⊢
  obtain ⟨S, hS⟩ : ∃ S, S = S0 x.p s x.xs := ⟨_, rfl⟩
  rw [← hS] at HN
  have HSz : Hid (S.ln = [] ∧ S.tl = []) := hid (by rw [hS]; exact ⟨rfl, rfl⟩)
  clear hx h0 hbx tv hA hw hL hv hs2 hS
  go_enter Try.func4, Try.ntmps4
  go_upto_region 1 with fail
  rw [← hV]
  clear hV
  go_upto_region 2 with (go_at_call 7; refine HN.out.mono ?_; intro e w1 q1; obtain ⟨b, rfl, r1⟩ := rf_new q1; have R1 := hid r1; unfold PT; clear q1 r1)
  clear i0 i1 i2
  go_upto_region 4 with (go_at_call 9; refine (awake_ _).mono ?_; rintro e w2 ⟨rfl, t2⟩; have R2 := hid (R1.out.keep0 t2); clear t2)
  obtain ⟨W3, hW3⟩ : ∃ W3, W3 = w2.alloc (.cells #[] 3) := ⟨_, rfl⟩
  have HI : Hid (Ld V W3 b S 0 (.slice (some ⟨w2.heap.size, 0, none⟩) 0 0) []) := hid (by
    have ht : Touch [] V w2 := R2.out.choose_spec.2.1
    refine Ld.mk (ob := .cells #[] 3) R2.out (by rw [hW3]; exact (Touch.refl _ _).alloc _) (by rw [hW3]; exact ow_new w2 ht.size) (fun q hq => by cases hq; exact Nat.le_refl _))
  go_upto_region 5 with fail
  rw [← hW3]
  clear hW3 R1 R2 HN
  go_wp2_with fail
  go_loopw [9, 40] (fun s9 s40 wr => ∃ (k : Nat) (a : Option Addr) (c : Nat), s9 = .slice a k c ∧ s40 = .int .i64 (k : Int) ∧ k ≤ A ∧ Hid (Ld V wr b (runS S (xs.take k)) k (.slice a k c) (runV S (xs.take k)))) (fun _ i _ => A - (intOf i).toNat)
  case atStart => exact ⟨0, _, 0, rfl, rfl, Nat.zero_le _, HI⟩
  case round =>
    clear HI
    obtain ⟨k, a, c, rfl, rfl, hk, HR⟩ := hrel
    by_cases hlt : k < A
    · have zk : (k : Int) < (A : Int) := by omega
      have zA : (A : Int) < 9223372036854775807 := by have := HLe.out; omega
      obtain ⟨ba, off, rfl, hrow⟩ : ∃ ba off, avv = some ⟨ba, off, none⟩ ∧ RowActR w ba off xs := by
        rcases HRow.out with e | e
        · omega
        · exact e
      have hnx : k < xs.length := by have := HAx.out; omega
      have tW := TV.out.trans' HR.out.t
      have q0 := (hrow.keep tW).c0 k hnx
      have q1 := (hrow.keep tW).c1 k hnx
      have HAo := hid (HWf.out xs[k] (List.getElem_mem hnx))
      have HTk := hid (take_run (S := S) hnx)
      have HLn := hid (runV_take_len (S := S) (Nat.le_of_lt hnx))
      have HDn : Hid (∀ w4, Ld V w4 b (runS S (xs.take k)) k (.slice a k c) (runV S (xs.take k)) → Calls Try.prog 20 #[PT b, .agg xs[k].cs] w4 fun e w5 => e = .returned (.int .i64 (doneV (runS S (xs.take k)) xs[k])) ∧ Ld V w5 b (doneS (runS S (xs.take k)) xs[k]) (k + 1) (.slice a k c) (runV S (xs.take k))) := hid (fun w4 q => q.done (by have := HLe.out; omega) _ HAo.out)
      rw [← HTk.out.1] at HDn
      have HJ := hid HTk.out.2
      clear hrow tW HTk
      generalize runS S (xs.take k) = Sk at *
      generalize runV S (xs.take k) = Vk at *
      generalize xs[k] = ac at *
      clear hnx
      generalize doneV Sk ac = dv at *
      unfold PT ActR.cs at HDn
      go_upto_block 1 with fail
      go_upto_region 8 with fail
      obtain ⟨W4, hW4⟩ : ∃ W4, W4 = wr.alloc (.cells #[.int .i64 ac.kd, .int .i64 ac.n] 38) := ⟨_, rfl⟩
      have R4 : Hid (Ld V W4 b Sk k (.slice a k c) Vk) := hid (HR.out.keep0 (by rw [hW4]; exact (Touch.refl _ _).alloc _))
      have hb4 : W4.heap[wr.heap.size]? = some (.cells #[.int .i64 ac.kd, .int .i64 ac.n] 38 (0, 0)) := by rw [hW4]; exact heap_alloc_new wr _
      have c0 := cell_at (j := 0) hb4 rfl
      have c1 := cell_at (j := 1) hb4 rfl
      have HLV : Hid (Vk.length + 1 ≤ 17592186044416) := hid (by have := HLn.out; have := HLe.out; omega)
      rw [← hW4]
      clear hW4 hb4 q0 q1
      go_wp2_with (first
        | (go_at_call 20; refine (HDn.out _ R4.out).mono ?_; rintro e w5 ⟨rfl, r5⟩; have R5 := hid r5; clear r5 c0 c1)
        | (at_builtin; refine wpList_append_ow rfl _ _ rfl V.heap.size _ Vk rfl ((R5.out.keep0 ((Touch.refl _ _).alloc _)).ow) _ [dv] rfl (ra_new _ _) (by have := HLV.out; simp; omega) (by have := R5.out.t.size; simp; omega) ?_; intro v6 w6 o6 t6 e6; obtain ⟨a6, c6, e7⟩ := ow_len (n := k + 1) o6 (by rw [List.length_append, HLn.out]; rfl); subst e7; have R6 := hid (R5.out.app o6 t6 e6); clear o6 t6 e6))
      rw [← HJ.out] at R6
      go_roundw
      case rel => exact ⟨k + 1, a6, c6, rfl, by go_num, by omega, R6⟩
      case measure => simp [intOf]; omega
    · have zk : ¬ (k : Int) < (A : Int) := by omega
      have ek : k = A := by omega
      have HRe : Hid (Ld V wr b (runS S xs) A (.slice a A c) (runV S xs)) := hid (by
        have h := HR.out
        rw [ek, show xs.take A = xs from List.take_of_length_le (by have := HAx.out; omega)] at h
        exact h)
      obtain ⟨T, hT⟩ : ∃ T, T = (runS S xs).tl := ⟨_, rfl⟩
      have HTl : Hid (∀ w5, Ld V w5 b (runS S xs) A (.slice a A c) (runV S xs) → Calls Try.prog 21 #[PT b] w5 fun e w6 => CpE e w5 w6 T) := hid (fun w5 q => by rw [hT]; exact q.rf.told (by have := HLe.out; omega))
      have HTW : Hid ((∀ y ∈ T, W64 y) ∧ T.length ≤ 8796093021952) := hid (by
        have hiv := HRe.out.rf.iv
        rw [hT]
        exact ⟨fun y hy => W64.mk (by have := (hiv.t2 y hy).1; omega) (by have := (hiv.t2 y hy).2; omega), by have := hiv.t1; have := HLe.out; omega⟩)
      have HTT := hid hT
      have hpq := pq_range pol
      have hw1 := HW1.out
      subst ek
      clear HR hlt hT HW1 zk hk
      unfold PT CpE at HTl
      go_upto_region 11 with (go_at_call 21; refine (HTl.out _ HRe.out).mono ?_; rintro e w4 ⟨a4, c4, rfl, q1, q2⟩; have Q1 := hid q1; have Q2 := hid q2; clear q1 q2)
      have R4 : Hid (Ld V w4 b (runS S xs) k (.slice a k c) (runV S xs)) := hid (HRe.out.keep0 Q2.out)
      have i1 := HB1.out _ R4.out.t
      have HS1 : Hid ((s + 1) % 18446744073709551616 < 18446744073709551616) := hid (Nat.mod_lt _ (by decide))
      generalize (s + 1) % 18446744073709551616 = s1 at *
      by_cases hmany : 65536 < T.length
      · have e0 : newE (pq pol) T.length = 3 := by unfold newE; rw [if_neg (by omega), if_pos hmany]
        have HN2 := hid (new_no w4 (pq pol) s1 T (.slice a4 T.length c4) Q1.out.ra (by rw [e0]; decide))
        rw [e0] at HN2
        have HX := hid (TV.out.trans' R4.out.t)
        obtain ⟨NI, hNI⟩ : ∃ NI : Int, (T.length : Int) = NI := ⟨_, rfl⟩
        have zN : 65536 < NI := by omega
        clear e0 hmany hpq HRe HTl HTW HTT Q1 Q2 HS1
        unfold pq at HN2
        go_wp2_with (go_at_call 7; refine HN2.out.mono ?_; rintro e w5 ⟨rfl, e5⟩; rw [e5]; clear e5 w5)
        go_ret
        exact ⟨rfl, HX.out⟩
      · have e0 : newE (pq pol) T.length = 0 := by unfold newE; rw [if_neg (by omega), if_neg hmany]
        have HN2 := hid (new_ok w4 (pq pol) s1 T (.slice a4 T.length c4) Q1.out.ra HS1.out HTW.out.1 e0)
        have HO0 : Hid (Sim S (S0 (pq pol) s1 T) T) := hid ⟨HSz.out.1.symm, HSz.out.2.symm, rfl⟩
        generalize S0 (pq pol) s1 T = O0 at HN2 HO0
        clear e0 hmany hpq HRe HTl HS1
        unfold pq at HN2
        go_upto_region 14 with (go_at_call 7; refine HN2.out.mono ?_; intro e w5 q5; obtain ⟨o, rfl, r5⟩ := rf_new q5; have R5 := hid r5; unfold PT; clear q5 r5)
        clear HN2 hw1 i1
        go_wp2_with fail
        go_loopw [72] (fun s72 wx => ∃ j : Nat, s72 = .int .i64 (j : Int) ∧ j ≤ k ∧ Hid (∃ O, Rf w4 wx o O j ∧ Sim (runS S (xs.take j)) O T)) (fun i _ => k - (intOf i).toNat)
        case atStart => exact ⟨0, rfl, Nat.zero_le _, hid ⟨O0, R5.out, HO0.out⟩⟩
        case round =>
          clear R5 HO0
          obtain ⟨j, rfl, hj, HR⟩ := hrel
          by_cases hlt : j < k
          · have zj : (j : Int) < (k : Int) := by omega
            have zA : (k : Int) < 9223372036854775807 := by have := HLe.out; omega
            obtain ⟨ba, off, rfl, hrow⟩ : ∃ ba off, avv = some ⟨ba, off, none⟩ ∧ RowActR w ba off xs := by
              rcases HRow.out with e | e
              · omega
              · exact e
            have hnx : j < xs.length := by have := HAx.out; omega
            obtain ⟨O, r1, r2⟩ := HR.out
            have t4x : Touch [] w4 wr := r1.choose_spec.2.1
            have tW := TV.out.trans' (R4.out.t.trans' t4x)
            have q0 := (hrow.keep tW).c0 j hnx
            have q1 := (hrow.keep tW).c1 j hnx
            have HAo := hid (HWf.out xs[j] (List.getElem_mem hnx))
            have HTk := hid (take_run (S := S) hnx)
            obtain ⟨d1, d2⟩ := r2.done xs[j] (by rw [← (take_run (S := S) hnx).1, HTT.out]; exact run_take_pre S xs (j + 1))
            rw [← HTk.out.1] at d2
            have hln : j < (runV S xs).length := by rw [runV_len]; exact hnx
            obtain ⟨gs, os, es, ylt, yold⟩ := R4.out.ow.ra.cell hln
            subst es
            have HSd : Hid (∀ w', Touch [] w4 w' → w'.cell? ⟨gs, os + j, none⟩ = some (.int .i64 (doneV O xs[j]))) := hid (fun w' T4 => by
              obtain ⟨g', o', e', _, y'⟩ := (R4.out.ow.ra.keep0 T4).cell hln
              cases e'
              rw [y', runV_at hnx hln, d1])
            have HR1 := hid r1
            have HD2 := hid d2
            clear ylt yold hrow tW HTk d1 d2 r1 r2 HR
            clear hln
            generalize xs[j] = ac at *
            clear hnx
            go_upto_block 3 with fail
            go_upto_region 17 with fail
            obtain ⟨W6, hW6⟩ : ∃ W6, W6 = wr.alloc (.cells #[.int .i64 ac.kd, .int .i64 ac.n] 38) := ⟨_, rfl⟩
            have hb6 : W6.heap[wr.heap.size]? = some (.cells ac.cs 38 (0, 0)) := by rw [hW6]; exact heap_alloc_new wr _
            have R6 : Rf w4 W6 o O j := HR1.out.keep0 (by rw [hW6]; exact (Touch.refl _ _).alloc _)
            have R7 : Rf w4 W6.drew o O j := R6.keep0 ((Touch.refl _ _).drew)
            have hb7 : W6.drew.heap[wr.heap.size]? = some (.cells ac.cs 38 (0, 0)) := hb6
            have HDn := hid (R7.done hb7 (by have := HLe.out; omega) HAo.out)
            generalize doneV O ac = dv at HSd HDn
            have s0 : Sx w4 wr.heap.size ac W6.drew := ⟨R7.choose_spec.2.1, cell_at hb7 rfl, cell_at hb7 rfl⟩
            have b0 : ∀ w', Sx w4 wr.heap.size ac w' → w'.cell? ⟨wr.heap.size, 0, none⟩ = some (.int .i64 ac.kd) := fun w' q => q.2.1
            have b1 : ∀ w', Sx w4 wr.heap.size ac w' → w'.cell? ⟨wr.heap.size, 1, none⟩ = some (.int .i64 ac.n) := fun w' q => q.2.2
            have b2 : ∀ w', Sx w4 wr.heap.size ac w' → w'.cell? ⟨gs, os + j, none⟩ = some (.int .i64 dv) := fun w' q => HSd.out w' q.1
            rw [← hW6]
            clear hW6 hb6 R6 R7 hb7 q0 q1 HR1 HSd t4x
            unfold PT ActR.cs at HDn
            go_region_held3 (fun w' => Sx w4 wr.heap.size ac w') (first | assumption) (first
              | (go_at_call 20; refine HDn.out.mono ?_; rintro e w7 ⟨rfl, s7, r7⟩; have R8 := hid r7; clear r7))
            all_goals
              clear b0 b1 b2 s0 s7 HDn
              go_wp2_with fail
              go_roundw
              case rel => exact ⟨j + 1, by go_num, by omega, hid ⟨_, R8.out, HD2.out⟩⟩
              case measure => simp [intOf]; omega
          · have zj : ¬ (j : Int) < (k : Int) := by omega
            have ej : j = k := by omega
            obtain ⟨O, r1, r2⟩ := HR.out
            rw [ej, show xs.take k = xs from List.take_of_length_le (by have := HAx.out; omega)] at r2
            have t4x : Touch [] w4 wr := r1.choose_spec.2.1
            have Rr : Rf V wr b (runS S xs) k := R4.out.rf.keep0 t4x
            have HAr := hid Rr.all
            have HAo : Hid (∀ w', Touch [] wr w' → Calls Try.prog 22 #[PT o] w' fun e w2 => CpE e w' w2 (runS S xs).ln) := hid (fun w' X => by rw [← r2.ln]; exact (r1.keep0 X).all)
            have HTo : Hid (∀ w', Touch [] wr w' → Calls Try.prog 21 #[PT o] w' fun e w2 => CpE e w' w2 T) := hid (fun w' X => by rw [HTT.out, ← r2.tl]; exact (r1.keep0 X).told (by have := HLe.out; omega))
            have HTr : Hid (∀ w', Touch [] wr w' → Calls Try.prog 23 #[PT b] w' fun e w2 => e = .returned (.int .i64 (T.length : Int)) ∧ w2 = w') := hid (fun w' X => by rw [HTT.out]; exact (Rr.keep0 X).turns)
            have HL1 : Hid ((runS S xs).ln.length ≤ 17592186044416) := hid (by have := Rr.iv.l1; omega)
            have HT4 : Hid (∀ w', Touch [] wr w' → Ra w' (.slice a4 T.length c4) T) := hid (fun w' X => Q1.out.ra.keep0 (t4x.trans' X))
            have HX : Hid (∀ w', Touch [] wr w' → Touch [] w w') := hid (fun w' X => TV.out.trans' (R4.out.t.trans' (t4x.trans' X)))
            clear r1 r2 Rr t4x HR ej hj hlt
            unfold CpE PT at *
            generalize (runS S xs).ln = L at *
            go_wp2_with (first
              | (go_at_call_of 22 (#[.pointer (some ⟨b, 0, none⟩)] : Array Value); refine HAr.out.mono ?_; rintro e w6 ⟨a6, c6, rfl, p1, p2⟩; have P1 := hid p1; have P2 := hid p2; clear p1 p2)
              | (go_at_call_of 22 (#[.pointer (some ⟨o, 0, none⟩)] : Array Value); refine (HAo.out _ P2.out).mono ?_; rintro e w7 ⟨a7, c7, rfl, p3, p4⟩; have P3 := hid p3; have P4 := hid p4; clear p3 p4)
              | (go_at_call_of 10 (#[.slice a6 L.length c6, .slice a7 L.length c7] : Array Value); refine (same_ _ _ _ L (P1.out.ra.keep0 P4.out) P3.out.ra HL1.out).mono ?_; rintro e w8 ⟨rfl, p5⟩; have P5 := hid (P2.out.trans' (P4.out.trans' p5)); clear p5)
              | (go_at_call 21; refine (HTo.out _ P5.out).mono ?_; rintro e w9 ⟨a9, c9, rfl, p6, p7⟩; have P6 := hid p6; have P7 := hid (P5.out.trans' p7); clear p6 p7)
              | (go_at_call 10; refine (same_ _ _ _ T (HT4.out _ P7.out) P6.out.ra (by have := HTW.out.2; omega)).mono ?_; rintro e w10 ⟨rfl, p8⟩; have P8 := hid (P7.out.trans' p8); clear p8)
              | (go_at_call 23; refine (HTr.out _ P8.out).mono ?_; rintro e w11 ⟨rfl, e11⟩; rw [e11]; clear e11 w11))
            go_ret
            exact ⟨rfl, HX.out _ P8.out⟩
theorem again_ (w : World) (x : SchA) (pol : Int) (xs : List ActR) (v : Value) (hx : Ra w x.u x.xs ∧ x.ok) (hxl : x.xs.length ≤ 17592186043904) (hp : (Lit.int .i64 pol).wf = true) (hv : SlActR w v xs) (hw : ∀ a ∈ xs, a.ok) (hL : xs.length ≤ 8796093021952) : Calls Try.prog 4 #[.agg x.cs, .int .i64 pol, v] w fun e w' => e = .returned (.bool true) ∧ Touch [] w w' := by
  by_cases h0 : newE x.p x.xs.length = 0
  · exact again_ok w x pol xs v hx hv hw hL h0
  · refine again_no w x pol v hx ?_ h0
    rcases hv with ⟨_, a, c, e⟩ | ⟨b, off, cap, e, _⟩
    · exact ⟨a, 0, c, e⟩
    · exact ⟨_, _, cap, e⟩
end Go.Proofs.Ythpkkfmphoopnaa.Re
