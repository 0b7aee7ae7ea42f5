/- Of every schedule and every list of acts: who is ready, is picked and rests as in the document's list: the walk of the law ReadyPlays; lengths are within the form's reach. -/
import Derived.Test.YthpkkfmphoopnaaJpy
namespace Go.Proofs.Ythpkkfmphoopnaa.Re
open Go.RowKit Go.Maps Go.ChangeMaps
set_option linter.unusedVariables false
set_option linter.unusedSimpArgs false
set_option maxHeartbeats 16000000 in
set_option maxRecDepth 100000 in
theorem plays_ok (w : World) (x : SchA) (v : Value) (hx : Ra w x.u x.xs ∧ x.ok) (hxl : x.xs.length ≤ 17592186043904) (xs : List ActR) (hv : SlActR w v xs) (hw : ∀ a ∈ xs, a.ok) (hL : xs.length ≤ 8796093021952) (h0 : newE x.p x.xs.length = 0) : Calls Try.prog 3 #[.agg x.cs, v] w fun e w' => e = .returned (.bool true) ∧ Touch [] w w' := by
  obtain ⟨av, cv, rfl⟩ : ∃ av cv, v = .slice av xs.length cv := by
    rcases hv with ⟨rfl, a, c, rfl⟩ | ⟨b, off, cap, rfl, _⟩
    · exact ⟨a, c, rfl⟩
    · exact ⟨_, _, rfl⟩
  have HRow : Hid (xs.length = 0 ∨ ∃ b off, av = some ⟨b, off, none⟩ ∧ RowActR w b off xs) := by
    rcases hv with ⟨rfl, _⟩ | ⟨b, off, cap, e, r⟩
    · exact Or.inl rfl
    · simp only [Value.slice.injEq] at e
      exact Or.inr ⟨b, off, e.1, r⟩
  obtain ⟨A, hA⟩ : ∃ A, A = xs.length := ⟨_, rfl⟩
  have HAx := hid hA
  have HWf := hid hw
  rw [← hA] at HRow hL ⊢
  have HLe := hid hL
  clear hA hw hL hv
  obtain ⟨s, hs⟩ : ∃ s : Nat, x.s = (s : Int) := ⟨x.s.toNat, by have := u64_bounds hx.2.2.1; omega⟩
  have hs2 : s < 18446744073709551616 := by have := u64_bounds hx.2.2.1; omega
  obtain ⟨V, hV⟩ : ∃ V, V = w.alloc (.cells x.cs 25) := ⟨_, rfl⟩
  have tv : Touch [] w V := by rw [hV]; exact (Touch.refl _ _).alloc _
  have hbx : V.heap[w.heap.size]? = some (.cells x.cs 25 (0, 0)) := by rw [hV]; exact heap_alloc_new w _
  obtain ⟨au, cu, eu, _⟩ := hx.1.form
  have HRx := hid (fun w' (T : Touch [] V w') => hx.1.keep0 (tv.trans' T))
  have HWx := hid hx.2.2.2
  have HB : Hid (∀ w', Touch [] V w' → w'.cell? ⟨w.heap.size, 0, none⟩ = some (.int .i64 x.p) ∧ w'.cell? ⟨w.heap.size, 1, none⟩ = some (.int .u64 (s : Int)) ∧ w'.cell? ⟨w.heap.size, 2, none⟩ = some (.slice au x.xs.length cu)) := hid (fun w' T => by
    have hb := T.keep hbx (by simp)
    refine ⟨cell_at (j := 0) hb rfl, by rw [← hs]; exact cell_at (j := 1) hb rfl, by rw [← eu]; exact cell_at (j := 2) hb rfl⟩)
  obtain ⟨i0, i1, i2⟩ := HB.out V (Touch.refl _ _)
  have TV := hid tv
  have HLx := hid hxl
  have hxx := hx
  unfold SchA.cs at hV ⊢
  rw [hs] at hV ⊢
  rw [eu] at hV HRx ⊢
  obtain ⟨n, hn⟩ : ∃ n, n = x.xs.length := ⟨_, rfl⟩
  have HNn := hid hn
  rw [← hn] at hV HRx HB i2 HLx ⊢
  have zn : (n : Int) < 9223372036854775807 := by have := HLx.out; omega
  have lt0 : w.heap.size < V.heap.size := by rw [hV]; simp
  have HNo := hid (fun w' (v' : Value) (q : Ra w' v' x.xs) => new_ok w' x.p s x.xs v' q hs2 HWx.out h0)
  have HDn := hid (fun w' (v' : Value) (q : Ra w' v' x.xs) => dnew_ w' x.p s x.xs v' q)
  simp only [h0, if_true] at HDn
  have HRu := hid hxx.1
  have HSP : Hid ((S0 x.p s x.xs).pk = x.xs ∧ (S0 x.p s x.xs).ln = [] ∧ (S0 x.p s x.xs).tl = [] ∧ (S0 x.p s x.xs).pol = x.p ∧ (S0 x.p s x.xs).st = s) := hid ⟨rfl, rfl, rfl, rfl, rfl⟩
  generalize S0 x.p s x.xs = S00 at *
  clear hx hxl hxx tv hbx hn h0 hs2
  go_enter Try.func3, Try.ntmps3
  go_upto_region 1 with fail
  rw [← hV]
  clear hV
  go_upto_region 2 with (at_builtin; refine wpList_append_ow rfl _ _ rfl V.heap.size (.slice (some ⟨V.heap.size, 0, none⟩) 0 0) [] rfl (ow_new _ (Nat.le_refl _)) _ x.xs rfl (HRx.out _ ((Touch.refl _ _).alloc _)) (by have := HNn.out; have := HLx.out; simp; omega) (by simp) ?_; intro v2 w2 o2 t2 e2; have T2 := hid (app_touch (ow_new V (Nat.le_refl _)) ((Touch.refl _ _).alloc _) t2); rw [List.nil_append] at o2; have O2 := hid o2; obtain ⟨ai, ci, e3⟩ : ∃ a c, v2 = .slice a n c := (by obtain ⟨a, c, e, _⟩ := o2.form; exact ⟨a, c, by rw [e, HNn.out]⟩); subst e3; clear o2 t2 e2)
  clear i0 i1 i2
  obtain ⟨i0, i1, i2⟩ := HB.out _ T2.out
  have HLt := hid lt0
  clear lt0
  go_upto_region 3 with (go_at_call 7; refine (HNo.out _ _ O2.out.ra).mono ?_; intro e w3 q1; obtain ⟨b, rfl, r1⟩ := rf_new q1; have R3 := hid r1; have T3 := hid (T2.out.trans' r1.choose_spec.2.1); have Q3 := hid r1.choose_spec.2.1; unfold PT; clear q1 r1 i0 i1 i2; obtain ⟨i0, i1, i2⟩ := HB.out _ T3.out)
  go_upto_region 4 with (go_at_call 8; refine (HDn.out _ _ (HRx.out _ T3.out)).mono ?_; rintro e w4 ⟨rfl, t4⟩; have Q4 := hid t4; clear t4)
  obtain ⟨W5, hW5⟩ : ∃ W5, W5 = w4.alloc (.cells #[.int .i64 x.p, .int .u64 (s : Int), .slice au n cu, .slice none 0 0, .slice none 0 0] 32) := ⟨_, rfl⟩
  have HW5 : Hid (W5 = w4.alloc (.cells (dvc S00 (.slice au n cu) (.slice none 0 0) (.slice none 0 0)) 32)) := hid (by rw [hW5]; unfold dvc; rw [HSP.out.2.2.2.1, HSP.out.2.2.2.2])
  have T5 : Hid (Touch [] w2 W5) := hid (by rw [hW5]; exact (Q3.out.trans' Q4.out).alloc _)
  obtain ⟨M, hM⟩ : ∃ M, M = w4.heap.size := ⟨_, rfl⟩
  have HMM := hid hM
  rw [← hW5, ← hM]
  clear hW5 i0 i1 i2 hM
  have HS : Hid (∀ w', Touch [] W5 w' → Calls Try.prog 10 #[.slice ai n ci, .slice au n cu] w' fun e w6 => e = .returned (.bool true) ∧ Touch [] w' w6) := hid (fun w' T => same_ w' _ _ x.xs (O2.out.ra.keep0 (T5.out.trans' T)) (HRx.out _ (T2.out.trans' (T5.out.trans' T))) (by have := HNn.out; have := HLx.out; omega))
  go_upto_region 6 with (first
    | (go_at_call 9; refine (awake_ _).mono ?_; rintro e w6 ⟨rfl, t6⟩; obtain ⟨i0, i1, i2⟩ := HB.out _ (T2.out.trans' (T5.out.trans' t6)); have T6 := hid t6; clear t6)
    | (go_at_call 10; refine (HS.out _ T6.out).mono ?_; rintro e w7 ⟨rfl, t7⟩; have T7 := hid (T6.out.trans' t7); clear t7 i0 i1 i2))
  have HI : Hid (Lo w7 w7 V.heap.size (.slice ai n ci) n) := hid ⟨x.xs, HNn.out.symm, O2.out.keep0 (T5.out.trans' T7.out), Touch.refl _ _⟩
  have HX : Hid (∀ wr, Lo w7 wr V.heap.size (.slice ai n ci) n → Lz w M b 0 wr) := hid (fun wr q => by
    rw [HMM.out]
    refine lz_start ⟨HSP.out.2.1, HSP.out.2.2.1⟩ HLt.out (TV.out.trans' T2.out) R3.out Q4.out HW5.out T7.out ?_ ?_ q
    · rw [HSP.out.1]; have := HRu.out; rw [eu, ← HNn.out] at this; exact this
    · rw [HSP.out.1]; exact O2.out)
  clear HS T5 T6 T7 HNo HDn O2 HB HRx T2 R3 T3 Q3 Q4 HW5 HSP HRu HMM HLt HWx
  go_wp2_with fail
  go_loopw [68] (fun s68 wr => ∃ k : Nat, s68 = .int .i64 (k : Int) ∧ k ≤ n ∧ Hid (Lo w7 wr V.heap.size (.slice ai n ci) n)) (fun i _ => n - (intOf i).toNat)
  case atStart => exact ⟨0, rfl, Nat.zero_le _, HI⟩
  case round =>
    clear HI
    obtain ⟨k, rfl, hk, HR⟩ := hrel
    by_cases hlt : k < n
    · have zk : (k : Int) < (n : Int) := by omega
      obtain ⟨g, off, y, e1, y1, y2, q⟩ := HR.out.go hlt 99
      subst e1
      have Q := hid q
      clear HR q
      go_wp2_with fail
      go_roundw
      case rel => exact ⟨k + 1, by go_num, by omega, Q⟩
      case measure => simp [intOf]; omega
    · have zk : ¬ (k : Int) < (n : Int) := by omega
      have HZ := hid (HX.out _ HR.out)
      clear HR HX
      go_wp2_with fail
      clear zk hlt hk zn
      go_loopw [77] (fun s77 wr => ∃ m : Nat, s77 = .int .i64 (m : Int) ∧ m ≤ A ∧ Hid (Lz w M b m wr)) (fun i _ => A - (intOf i).toNat)
      case atStart => exact ⟨0, rfl, Nat.zero_le _, HZ⟩
      case round =>
        clear HZ
        obtain ⟨m, rfl, hm, HR⟩ := hrel
        by_cases hlt : m < A
        · have zm : (m : Int) < (A : Int) := by omega
          have zA : (A : Int) < 9223372036854775807 := by have := HLe.out; omega
          obtain ⟨ba, off, e1, hrow⟩ : ∃ ba off, av = some ⟨ba, off, none⟩ ∧ RowActR w ba off xs := by
            rcases HRow.out with e | e
            · omega
            · exact e
          subst e1
          have hnx : m < xs.length := by have := HAx.out; omega
          have q0 := (hrow.keep HR.out.t).c0 m hnx
          have q1 := (hrow.keep HR.out.t).c1 m hnx
          have HAo := hid (HWf.out xs[m] (List.getElem_mem hnx))
          clear hrow
          generalize xs[m] = ac at *
          clear hnx
          have HNm : Hid (m < A ∧ m + 1 ≤ 8796093021952) := hid ⟨hlt, by have := HLe.out; omega⟩
          obtain ⟨W8, hW8⟩ : ∃ W8, W8 = wr.alloc (.cells #[.int .i64 ac.kd, .int .i64 ac.n] 38) := ⟨_, rfl⟩
          obtain ⟨F, S, a1, n1, c1, a2, n2, c2, a3, n3, c3, h1, h2⟩ := HR.out
          have t8 : Touch [] wr W8 := by rw [hW8]; exact (Touch.refl _ _).alloc _
          have L8 := hid (h1.keep0 t8)
          have M8 := hid (t8.keep h2 (by simp))
          have G8 : Hid (W8.heap[wr.heap.size]? = some (.cells #[.int .i64 ac.kd, .int .i64 ac.n] 38 (0, 0))) := hid (by rw [hW8]; exact heap_alloc_new wr _)
          have hkq := kq_range ac
          go_upto_block 3 with fail
          go_upto_region 14 with fail
          rw [← hW8]
          clear hW8 t8 h1 h2 HR q0 q1
          have c0 := cell_at (j := 0) G8.out rfl
          have c1' := cell_at (j := 1) G8.out rfl
          go_upto_block 4 with fail
          rw [show (wrap64 (ac.kd.tmod 7 + 7)).tmod 7 = kq ac from rfl]
          generalize kq ac = kk at *
          obtain ⟨gg, hgg⟩ : ∃ gg, gg = wr.heap.size := ⟨_, rfl⟩
          rw [← hgg] at G8 c0 c1' ⊢
          clear hgg
          have hcase : ((kk == 3) = true ∨ ((kk == 3) = false ∧ (kk == 4) = true)) ∨ ((kk == 3) = false ∧ (kk == 4) = false ∧ (kk == 5) = true) ∨ ((kk == 3) = false ∧ (kk == 4) = false ∧ (kk == 5) = false ∧ (kk == 6) = true) ∨ ((kk == 3) = false ∧ (kk == 4) = false ∧ (kk == 5) = false ∧ (kk == 6) = false) := by
            cases e3 : (kk == 3) <;> cases e4 : (kk == 4) <;> cases e5 : (kk == 5) <;> cases e6 : (kk == 6) <;> simp
          clear hkq hm hlt
          rcases hcase with hk34 | ⟨k3, k4, k5⟩ | ⟨k3, k4, k5, k6⟩ | ⟨k3, k4, k5, k6⟩
          · have hk34' : (kk == 3) = true ∨ ((kk == 3) = false ∧ (kk == 4) = true) := hk34
            clear hk34
            have HPi := hid (L8.out.pick (by have := HNm.out; omega))
            have HIP : Hid (Iv (pickS S) (m + 1)) := hid (L8.out.iv.pick)
            unfold PT at HPi
            rcases hk34' with k3 | ⟨k3, k4⟩
            · go_upto_region 23 with (go_at_call 11; refine HPi.out.mono ?_; rintro e w9 ⟨rfl, F9, l9, t9⟩; have L9 := hid l9; have M9 := hid (L8.out.box t9 M8.out (by decide) (by decide)); have G9 := hid (L8.out.box t9 G8.out (by decide) (by decide)); clear l9 t9 c0 c1')
              obtain ⟨d0, d1, d2, d3, d4, dff⟩ := dcs_at M9.out
              unfold dvc at d0 d1 d2 d3 d4
              have HDk := hid (L9.out.dpick (by have := HNm.out; omega) HIP.out)
              have HMk : Hid (∀ w', Touch [] w9 w' → w'.heap[M]? = some (.cells (dvc S (.slice a1 n1 c1) (.slice a2 n2 c2) (.slice a3 n3 c3)) 32 (0, 0)) ∧ w'.heap[gg]? = some (.cells #[.int .i64 ac.kd, .int .i64 ac.n] 38 (0, 0)) ∧ M < w'.heap.size) := hid (fun w' T => ⟨T.keep M9.out (by simp), T.keep G9.out (by simp), Nat.lt_of_lt_of_le L9.out.mx T.size⟩)
              unfold dvv dvc at HDk
              generalize pickV S = pkv at *
              generalize someB S = pkb at *
              generalize pickS S = S' at *
              clear L8 M8 G8 HPi HIP
              go_upto_region 24 with (go_at_call 12; refine HDk.out.mono ?_; rintro e w10 ⟨p1, p2, p3, rfl, ⟨x1, y1, z1, rfl⟩, ⟨x2, y2, z2, rfl⟩, ⟨x3, y3, z3, rfl⟩, t10, l10⟩; have T10 := hid t10; have L10 := hid l10; clear t10 l10 d0 d1 d2 d3 d4 dff)
              obtain ⟨W11, hW11⟩ : ∃ W11, W11 = w10.alloc (.cells #[.int .i64 S'.pol, .int .u64 (S'.st : Int), .slice x1 y1 z1, .slice x2 y2 z2, .slice x3 y3 z3] 32) := ⟨_, rfl⟩
              have t11 : Touch [] w10 W11 := by rw [hW11]; exact (Touch.refl _ _).alloc _
              have LO := hid (L10.out.keep0 t11)
              have B15 : W11.heap[w10.heap.size]? = some (.cells #[.int .i64 S'.pol, .int .u64 (S'.st : Int), .slice x1 y1 z1, .slice x2 y2 z2, .slice x3 y3 z3] 32 (0, 0)) := by rw [hW11]; exact heap_alloc_new w10 _
              have MO := hid (HMk.out _ (T10.out.trans' t11)).1
              have GO := hid (HMk.out _ (T10.out.trans' t11)).2.1
              rw [← hW11]
              clear hW11 t11 HMk L9 M9 G9 HDk L10
              obtain ⟨b0, b1, b2', b3, b4, bff⟩ := dcs_at B15
              obtain ⟨d0, d1, d2, d3, d4, dff⟩ := dcs_at MO.out
              unfold dvc at d0 d1 d2 d3 d4
              clear B15
              go_upto_region 39 with fail
              obtain ⟨W12, hW12⟩ : ∃ W12, W12 = st5 W11 M (.int .i64 S'.pol) (.int .u64 (S'.st : Int)) (.slice x1 y1 z1) (.slice x2 y2 z2) (.slice x3 y3 z3) := ⟨_, rfl⟩
              have TM : Touch [M] W11 W12 := by rw [hW12]; exact st5_touch (Touch.refl _ _) (Or.inl (by simp)) _ _ _ _ _
              have HMf : Hid (W12.heap[M]? = some (.cells (dvc S' (.slice x1 y1 z1) (.slice x2 y2 z2) (.slice x3 y3 z3)) 32 (0, 0))) := hid (by rw [hW12]; exact st5_at MO.out _ _ _ _ _)
              have HGf : Hid (W12.heap[gg]? = some (.cells #[.int .i64 ac.kd, .int .i64 ac.n] 38 (0, 0))) := hid (TM.keep GO.out (fun e => by
                simp only [List.mem_singleton] at e
                have q1 := MO.out
                have q2 := GO.out
                rw [e, q1] at q2
                simp at q2))
              have HLf := hid (LO.out.store MO.out TM)
              unfold st5 at hW12
              rw [← hW12]
              clear hW12 TM
              clear b0 b1 b2' b3 b4 bff d0 d1 d2 d3 d4 dff MO GO LO T10
              obtain ⟨d0, d1, d2, d3, d4, dff⟩ := dcs_at HMf.out
              unfold dvc at d0 d1 d2 d3 d4
              have gn := cell_at (j := 1) (v := .int .i64 ac.n) HGf.out rfl
              have HStd := hid (stands_ HLf.out.rq HLf.out.d (by have := HNm.out; omega) ac.n HAo.out.2)
              unfold dvv dvc PT at HStd
              have HFin : Hid (∀ w', Touch [] W12 w' → Lz w M b (m + 1) w') := hid (fun w' T => ⟨F9, S', _, _, _, _, _, _, _, _, _, HLf.out.keep0 T, T.keep HMf.out (by simp)⟩)
              clear HLf HMf HGf
              go_wp2_with (go_at_call 17; refine HStd.out.mono ?_; rintro e w13 ⟨rfl, t13⟩; have T13 := hid (HFin.out _ t13); clear t13)
              go_roundw
              case rel => exact ⟨m + 1, by go_num, by have := HNm.out; omega, T13⟩
              case measure => simp [intOf]; have := HNm.out; omega
            · go_upto_region 23 with (go_at_call 11; refine HPi.out.mono ?_; rintro e w9 ⟨rfl, F9, l9, t9⟩; have L9 := hid l9; have M9 := hid (L8.out.box t9 M8.out (by decide) (by decide)); have G9 := hid (L8.out.box t9 G8.out (by decide) (by decide)); clear l9 t9 c0 c1')
              obtain ⟨d0, d1, d2, d3, d4, dff⟩ := dcs_at M9.out
              unfold dvc at d0 d1 d2 d3 d4
              have HDk := hid (L9.out.dpick (by have := HNm.out; omega) HIP.out)
              have HMk : Hid (∀ w', Touch [] w9 w' → w'.heap[M]? = some (.cells (dvc S (.slice a1 n1 c1) (.slice a2 n2 c2) (.slice a3 n3 c3)) 32 (0, 0)) ∧ w'.heap[gg]? = some (.cells #[.int .i64 ac.kd, .int .i64 ac.n] 38 (0, 0)) ∧ M < w'.heap.size) := hid (fun w' T => ⟨T.keep M9.out (by simp), T.keep G9.out (by simp), Nat.lt_of_lt_of_le L9.out.mx T.size⟩)
              unfold dvv dvc at HDk
              generalize pickV S = pkv at *
              generalize someB S = pkb at *
              generalize pickS S = S' at *
              clear L8 M8 G8 HPi HIP
              go_upto_region 24 with (go_at_call 12; refine HDk.out.mono ?_; rintro e w10 ⟨p1, p2, p3, rfl, ⟨x1, y1, z1, rfl⟩, ⟨x2, y2, z2, rfl⟩, ⟨x3, y3, z3, rfl⟩, t10, l10⟩; have T10 := hid t10; have L10 := hid l10; clear t10 l10 d0 d1 d2 d3 d4 dff)
              obtain ⟨W11, hW11⟩ : ∃ W11, W11 = w10.alloc (.cells #[.int .i64 S'.pol, .int .u64 (S'.st : Int), .slice x1 y1 z1, .slice x2 y2 z2, .slice x3 y3 z3] 32) := ⟨_, rfl⟩
              have t11 : Touch [] w10 W11 := by rw [hW11]; exact (Touch.refl _ _).alloc _
              have LO := hid (L10.out.keep0 t11)
              have B15 : W11.heap[w10.heap.size]? = some (.cells #[.int .i64 S'.pol, .int .u64 (S'.st : Int), .slice x1 y1 z1, .slice x2 y2 z2, .slice x3 y3 z3] 32 (0, 0)) := by rw [hW11]; exact heap_alloc_new w10 _
              have MO := hid (HMk.out _ (T10.out.trans' t11)).1
              have GO := hid (HMk.out _ (T10.out.trans' t11)).2.1
              rw [← hW11]
              clear hW11 t11 HMk L9 M9 G9 HDk L10
              obtain ⟨b0, b1, b2', b3, b4, bff⟩ := dcs_at B15
              obtain ⟨d0, d1, d2, d3, d4, dff⟩ := dcs_at MO.out
              unfold dvc at d0 d1 d2 d3 d4
              clear B15
              go_upto_region 39 with fail
              obtain ⟨W12, hW12⟩ : ∃ W12, W12 = st5 W11 M (.int .i64 S'.pol) (.int .u64 (S'.st : Int)) (.slice x1 y1 z1) (.slice x2 y2 z2) (.slice x3 y3 z3) := ⟨_, rfl⟩
              have TM : Touch [M] W11 W12 := by rw [hW12]; exact st5_touch (Touch.refl _ _) (Or.inl (by simp)) _ _ _ _ _
              have HMf : Hid (W12.heap[M]? = some (.cells (dvc S' (.slice x1 y1 z1) (.slice x2 y2 z2) (.slice x3 y3 z3)) 32 (0, 0))) := hid (by rw [hW12]; exact st5_at MO.out _ _ _ _ _)
              have HGf : Hid (W12.heap[gg]? = some (.cells #[.int .i64 ac.kd, .int .i64 ac.n] 38 (0, 0))) := hid (TM.keep GO.out (fun e => by
                simp only [List.mem_singleton] at e
                have q1 := MO.out
                have q2 := GO.out
                rw [e, q1] at q2
                simp at q2))
              have HLf := hid (LO.out.store MO.out TM)
              unfold st5 at hW12
              rw [← hW12]
              clear hW12 TM
              clear b0 b1 b2' b3 b4 bff d0 d1 d2 d3 d4 dff MO GO LO T10
              obtain ⟨d0, d1, d2, d3, d4, dff⟩ := dcs_at HMf.out
              unfold dvc at d0 d1 d2 d3 d4
              have gn := cell_at (j := 1) (v := .int .i64 ac.n) HGf.out rfl
              have HStd := hid (stands_ HLf.out.rq HLf.out.d (by have := HNm.out; omega) ac.n HAo.out.2)
              unfold dvv dvc PT at HStd
              have HFin : Hid (∀ w', Touch [] W12 w' → Lz w M b (m + 1) w') := hid (fun w' T => ⟨F9, S', _, _, _, _, _, _, _, _, _, HLf.out.keep0 T, T.keep HMf.out (by simp)⟩)
              clear HLf HMf HGf
              go_wp2_with (go_at_call 17; refine HStd.out.mono ?_; rintro e w13 ⟨rfl, t13⟩; have T13 := hid (HFin.out _ t13); clear t13)
              go_roundw
              case rel => exact ⟨m + 1, by go_num, by have := HNm.out; omega, T13⟩
              case measure => simp [intOf]; have := HNm.out; omega
          · have HFi := hid (find_ W8 S (.slice a1 n1 c1) (.slice a2 n2 c2) (.slice a3 n3 c3) ac.n ⟨_, _, _, rfl⟩ ⟨_, _, _, rfl⟩ L8.out.d.l L8.out.iv.l1)
            unfold dvv dvc at HFi
            obtain ⟨d0, d1, d2, d3, d4, dff⟩ := dcs_at M8.out
            unfold dvc at d0 d1 d2 d3 d4
            by_cases hi : ac.n ∈ S.ln
            · rw [show idxI S.ln ac.n = (S.ln.idxOf ac.n : Int) by unfold idxI; rw [if_pos hi]] at HFi
              have HRe : Hid (∀ w', Touch [] W8 w' → Calls Try.prog 14 #[PT b, .int .i64 ac.n] w' fun e w2 => e = .returned (.bool true) ∧ ∃ F', Lv w M b m F' (outS S (S.ln.idxOf ac.n)) S (.slice a1 n1 c1) (.slice a2 n2 c2) (.slice a3 n3 c3) w2 ∧ w2.heap[M]? = some (.cells (dvc S (.slice a1 n1 c1) (.slice a2 n2 c2) (.slice a3 n3 c3)) 32 (0, 0)) ∧ w2.heap[gg]? = some (.cells #[.int .i64 ac.kd, .int .i64 ac.n] 38 (0, 0)) ∧ Calls Try.prog 15 #[dvv S (.slice a1 n1 c1) (.slice a2 n2 c2) (.slice a3 n3 c3), .int .i64 (S.ln.idxOf ac.n : Int)] w2 fun e w3 => ∃ l', e = .returned (dvv (outS S (S.ln.idxOf ac.n)) (.slice a1 n1 c1) l' (.slice a3 n3 c3)) ∧ SlF l' ∧ Touch [] w2 w3 ∧ Lv w M b m F' (outS S (S.ln.idxOf ac.n)) (outS S (S.ln.idxOf ac.n)) (.slice a1 n1 c1) l' (.slice a3 n3 c3) w3) := hid (fun w' T => by
                have h1 := L8.out.keep0 T
                refine (h1.rest ac.n HAo.out.2).mono ?_
                rintro e w2 ⟨rfl, F', q1, q2⟩
                have e1 : restS S ac.n = outS S (S.ln.idxOf ac.n) := by unfold restS; rw [if_pos hi]
                rw [e1] at q1
                exact ⟨by simp [hi], F', q1, h1.box q2 (T.keep M8.out (by simp)) (by decide) (by decide), h1.box q2 (T.keep G8.out (by simp)) (by decide) (by decide), q1.drest _ (idx_lt hi)⟩)
              have HG9 : Hid (∀ w', Touch [] W8 w' → w'.cell? ⟨gg, 1, none⟩ = some (.int .i64 ac.n)) := hid (fun w' T => cell_at (j := 1) (T.keep G8.out (by simp)) rfl)
              unfold PT at HRe
              unfold dvv dvc at HRe
              have ep : (outS S (S.ln.idxOf ac.n)).pol = S.pol := rfl
              have es : (outS S (S.ln.idxOf ac.n)).st = S.st := rfl
              rw [ep, es] at HRe
              have HEP : Hid ((outS S (S.ln.idxOf ac.n)).pol = S.pol ∧ (outS S (S.ln.idxOf ac.n)).st = S.st) := hid ⟨rfl, rfl⟩
              generalize outS S (S.ln.idxOf ac.n) = S' at *
              generalize S.ln.idxOf ac.n = ix at *
              have zx : (0 : Int) ≤ (ix : Int) := by omega
              clear hi L8 M8 G8 ep es
              go_upto_region 29 with (go_at_call 13; refine HFi.out.mono ?_; rintro e w9 ⟨rfl, t9⟩; have T9 := hid t9; clear t9 c0 c1' d0 d1 d2 d3 d4 dff)
              have gn := HG9.out _ T9.out
              go_upto_region 32 with (go_at_call 14; refine (HRe.out _ T9.out).mono ?_; rintro e w10 ⟨rfl, F10, l10, m10, g10, q10⟩; have M10 := hid m10; have G10 := hid g10; have Q10 := hid q10; clear l10 m10 g10 q10 gn)
              obtain ⟨d0, d1, d2, d3, d4, dff⟩ := dcs_at M10.out
              clear HRe HFi HG9
              go_upto_region 39 with (go_at_call 15; refine Q10.out.mono ?_; rintro e w11 ⟨l11, rfl, ⟨x2, y2, z2, rfl⟩, t11, l11'⟩; have LO0 := hid l11'; have MO := hid (t11.keep M10.out (by simp)); have GO := hid (t11.keep G10.out (by simp)); clear t11 l11' d0 d1 d2 d3 d4 dff; obtain ⟨d0, d1, d2, d3, d4, dff⟩ := dcs_at MO.out)
              have LO := hid (LO0.out.mono (Nat.le_succ m))
              obtain ⟨W12, hW12⟩ : ∃ W12, W12 = st5 w11 M (.int .i64 S.pol) (.int .u64 (S.st : Int)) (.slice a1 n1 c1) (.slice x2 y2 z2) (.slice a3 n3 c3) := ⟨_, rfl⟩
              have TM : Touch [M] w11 W12 := by rw [hW12]; exact st5_touch (Touch.refl _ _) (Or.inl (by simp)) _ _ _ _ _
              have HMf : Hid (W12.heap[M]? = some (.cells (dvc S' (.slice a1 n1 c1) (.slice x2 y2 z2) (.slice a3 n3 c3)) 32 (0, 0))) := hid (by rw [hW12]; unfold dvc; rw [HEP.out.1, HEP.out.2]; exact st5_at MO.out _ _ _ _ _)
              have HGf : Hid (W12.heap[gg]? = some (.cells #[.int .i64 ac.kd, .int .i64 ac.n] 38 (0, 0))) := hid (TM.keep GO.out (fun e => by
                simp only [List.mem_singleton] at e
                have q1 := MO.out
                have q2 := GO.out
                rw [e, q1] at q2
                simp at q2))
              have HLf := hid (LO.out.store MO.out TM)
              unfold st5 at hW12
              rw [← hW12]
              clear hW12 TM
              clear d0 d1 d2 d3 d4 dff MO GO LO LO0 M10 G10 Q10
              obtain ⟨d0, d1, d2, d3, d4, dff⟩ := dcs_at HMf.out
              unfold dvc at d0 d1 d2 d3 d4
              have gn := cell_at (j := 1) (v := .int .i64 ac.n) HGf.out rfl
              have HStd := hid (stands_ HLf.out.rq HLf.out.d (by have := HNm.out; omega) ac.n HAo.out.2)
              unfold dvv dvc PT at HStd
              have HFin : Hid (∀ w', Touch [] W12 w' → Lz w M b (m + 1) w') := hid (fun w' T => ⟨F10, S', _, _, _, _, _, _, _, _, _, HLf.out.keep0 T, T.keep HMf.out (by simp)⟩)
              clear HLf HMf HGf
              go_wp2_with (go_at_call 17; refine HStd.out.mono ?_; rintro e w13 ⟨rfl, t13⟩; have T13 := hid (HFin.out _ t13); clear t13)
              go_roundw
              case rel => exact ⟨m + 1, by go_num, by have := HNm.out; omega, T13⟩
              case measure => simp [intOf]; have := HNm.out; omega
            · rw [show idxI S.ln ac.n = -1 by unfold idxI; rw [if_neg hi]] at HFi
              have HRe : Hid (∀ w', Touch [] W8 w' → Calls Try.prog 14 #[PT b, .int .i64 ac.n] w' fun e w2 => e = .returned (.bool false) ∧ ∃ F', Lv w M b (m + 1) F' S S (.slice a1 n1 c1) (.slice a2 n2 c2) (.slice a3 n3 c3) w2 ∧ w2.heap[M]? = some (.cells (dvc S (.slice a1 n1 c1) (.slice a2 n2 c2) (.slice a3 n3 c3)) 32 (0, 0)) ∧ w2.heap[gg]? = some (.cells #[.int .i64 ac.kd, .int .i64 ac.n] 38 (0, 0))) := hid (fun w' T => by
                have h1 := L8.out.keep0 T
                refine (h1.rest ac.n HAo.out.2).mono ?_
                rintro e w2 ⟨rfl, F', q1, q2⟩
                have e1 : restS S ac.n = S := by unfold restS; rw [if_neg hi]
                rw [e1] at q1
                exact ⟨by simp [hi], F', q1.mono (Nat.le_succ m), h1.box q2 (T.keep M8.out (by simp)) (by decide) (by decide), h1.box q2 (T.keep G8.out (by simp)) (by decide) (by decide)⟩)
              have HG9 : Hid (∀ w', Touch [] W8 w' → w'.cell? ⟨gg, 1, none⟩ = some (.int .i64 ac.n)) := hid (fun w' T => cell_at (j := 1) (T.keep G8.out (by simp)) rfl)
              unfold PT at HRe
              clear hi L8 M8 G8
              go_upto_region 29 with (go_at_call 13; refine HFi.out.mono ?_; rintro e w9 ⟨rfl, t9⟩; have T9 := hid t9; clear t9 c0 c1' d0 d1 d2 d3 d4 dff)
              have gn := HG9.out _ T9.out
              go_upto_region 39 with (go_at_call 14; refine (HRe.out _ T9.out).mono ?_; rintro e w10 ⟨rfl, F10, l10, m10, g10⟩; have HLf := hid l10; have HMf := hid m10; have HGf := hid g10; clear l10 m10 g10 gn)
              clear HRe HFi HG9
              obtain ⟨d0, d1, d2, d3, d4, dff⟩ := dcs_at HMf.out
              unfold dvc at d0 d1 d2 d3 d4
              have gn := cell_at (j := 1) (v := .int .i64 ac.n) HGf.out rfl
              have HStd := hid (stands_ HLf.out.rq HLf.out.d (by have := HNm.out; omega) ac.n HAo.out.2)
              unfold dvv dvc PT at HStd
              have HFin : Hid (∀ w', Touch [] w10 w' → Lz w M b (m + 1) w') := hid (fun w' T => ⟨F10, S, _, _, _, _, _, _, _, _, _, HLf.out.keep0 T, T.keep HMf.out (by simp)⟩)
              clear HLf HMf HGf
              go_wp2_with (go_at_call 17; refine HStd.out.mono ?_; rintro e w13 ⟨rfl, t13⟩; have T13 := hid (HFin.out _ t13); clear t13)
              go_roundw
              case rel => exact ⟨m + 1, by go_num, by have := HNm.out; omega, T13⟩
              case measure => simp [intOf]; have := HNm.out; omega
          · have HCl := hid (clone_way L8.out (by have := HNm.out; omega) ac.n HAo.out.2)
            unfold PT dvv dvc at HCl
            have HMk : Hid (∀ w', Touch [] W8 w' → w'.heap[M]? = some (.cells (dvc S (.slice a1 n1 c1) (.slice a2 n2 c2) (.slice a3 n3 c3)) 32 (0, 0)) ∧ w'.heap[gg]? = some (.cells #[.int .i64 ac.kd, .int .i64 ac.n] 38 (0, 0))) := hid (fun w' T => ⟨T.keep M8.out (by simp), T.keep G8.out (by simp)⟩)
            go_upto_region 35 with (go_at_call 16; refine HCl.out.mono ?_; rintro e w9 ⟨b2, rfl, t9, q9⟩; have Q9 := hid q9; have T9 := hid t9; obtain ⟨x0, x1⟩ := HMk.out _ t9; clear t9 q9 c0 c1')
            obtain ⟨d0, d1, d2, d3, d4, dff⟩ := dcs_at x0
            unfold dvc at d0 d1 d2 d3 d4
            have gn := cell_at (j := 1) (v := .int .i64 ac.n) x1 rfl
            clear x0 x1
            go_upto_region 37 with (go_at_call 17; refine Q9.out.mono ?_; rintro e w10 ⟨rfl, t10, q10⟩; have Q10 := hid q10; have T10 := hid t10; obtain ⟨x0, x1⟩ := HMk.out _ t10; clear t10 q10 d0 d1 d2 d3 d4 dff gn)
            have gn := cell_at (j := 1) (v := .int .i64 ac.n) x1 rfl
            clear x0 x1
            go_upto_region 38 with (go_at_call 18; refine Q10.out.mono ?_; rintro e w11 ⟨kw, rfl, t11, q11⟩; have Q11 := hid q11; have T11 := hid t11; clear t11 q11 gn)
            go_upto_region 39 with (go_at_call 11; refine Q11.out.mono ?_; rintro e w12 ⟨kp, op, rfl, t12⟩; have T12 := hid t12; clear t12)
            have HLf := hid ((L8.out.keep0 T12.out).mono (Nat.le_succ m))
            have HMf := hid (HMk.out _ T12.out).1
            have HGf := hid (HMk.out _ T12.out).2
            clear HMk L8 M8 G8 HCl Q9 Q10 Q11
            obtain ⟨d0, d1, d2, d3, d4, dff⟩ := dcs_at HMf.out
            unfold dvc at d0 d1 d2 d3 d4
            have gn := cell_at (j := 1) (v := .int .i64 ac.n) HGf.out rfl
            have HStd := hid (stands_ HLf.out.rq HLf.out.d (by have := HNm.out; omega) ac.n HAo.out.2)
            unfold dvv dvc PT at HStd
            have HFin : Hid (∀ w', Touch [] w12 w' → Lz w M b (m + 1) w') := hid (fun w' T => ⟨F, S, _, _, _, _, _, _, _, _, _, HLf.out.keep0 T, T.keep HMf.out (by simp)⟩)
            clear HLf HMf HGf
            go_wp2_with (go_at_call 17; refine HStd.out.mono ?_; rintro e w13 ⟨rfl, t13⟩; have T13 := hid (HFin.out _ t13); clear t13)
            go_roundw
            case rel => exact ⟨m + 1, by go_num, by have := HNm.out; omega, T13⟩
            case measure => simp [intOf]; have := HNm.out; omega
          · have HDw := hid (L8.out.dwake ac.n HAo.out.2)
            have HWs : Hid ((wakeS S ac.n).pol = S.pol ∧ (wakeS S ac.n).st = S.st) := hid (by unfold wakeS; split <;> exact ⟨rfl, rfl⟩)
            unfold dvv dvc at HDw
            rw [HWs.out.1, HWs.out.2] at HDw
            obtain ⟨d0, d1, d2, d3, d4, dff⟩ := dcs_at M8.out
            unfold dvc at d0 d1 d2 d3 d4
            have HPw : Hid (∀ w' l', Lv w M b m F S (wakeS S ac.n) (.slice a1 n1 c1) l' (.slice a3 n3 c3) w' → Calls Try.prog 18 #[PT b, .int .i64 ac.n] w' fun e w2 => e = .returned (.int .i64 (wakeE S ac.n)) ∧ ∃ F', Lv w M b m F' (wakeS S ac.n) (wakeS S ac.n) (.slice a1 n1 c1) l' (.slice a3 n3 c3) w2 ∧ Touch F w' w2) := hid (fun w' l' q => q.wake ac.n HAo.out.2)
            unfold PT at HPw
            generalize wakeE S ac.n = wk at *
            generalize wakeS S ac.n = S' at *
            go_upto_region 17 with (go_at_call 19; refine HDw.out.mono ?_; rintro e w9 ⟨l9, rfl, ⟨x2, y2, z2, rfl⟩, t9, lv9⟩; have T9 := hid t9; have L9 := hid lv9; clear t9 lv9 c0 c1' d0 d1 d2 d3 d4 dff)
            obtain ⟨W10, hW10⟩ : ∃ W10, W10 = w9.alloc (.cells #[.int .i64 S.pol, .int .u64 (S.st : Int), .slice a1 n1 c1, .slice x2 y2 z2, .slice a3 n3 c3] 32) := ⟨_, rfl⟩
            have t10 : Touch [] w9 W10 := by rw [hW10]; exact (Touch.refl _ _).alloc _
            have B20 : Hid (W10.heap[w9.heap.size]? = some (.cells #[.int .i64 S.pol, .int .u64 (S.st : Int), .slice a1 n1 c1, .slice x2 y2 z2, .slice a3 n3 c3] 32 (0, 0))) := hid (by rw [hW10]; exact heap_alloc_new w9 _)
            have L10 := hid (L9.out.keep0 t10)
            have M10 := hid ((T9.out.trans' t10).keep M8.out (by simp))
            have G10 := hid ((T9.out.trans' t10).keep G8.out (by simp))
            rw [← hW10]
            clear hW10 t10 L9 L8 M8 G8 HDw
            have gn := cell_at (j := 1) (v := .int .i64 ac.n) G10.out rfl
            have HPw2 := hid (HPw.out _ _ L10.out)
            clear HPw
            go_upto_region 19 with (go_at_call 18; refine HPw2.out.mono ?_; rintro e w11 ⟨rfl, F11, l11, t11⟩; have LO0 := hid l11; have MO := hid (L10.out.box t11 M10.out (by decide) (by decide)); have GO := hid (L10.out.box t11 G10.out (by decide) (by decide)); have B11 := hid (L10.out.box t11 B20.out (by decide) (by decide)); clear l11 t11 gn)
            have LO := hid (LO0.out.mono (Nat.le_succ m))
            obtain ⟨b0, b1, b2', b3, b4, bff⟩ := dcs_at B11.out
            obtain ⟨d0, d1, d2, d3, d4, dff⟩ := dcs_at MO.out
            unfold dvc at d0 d1 d2 d3 d4
            go_upto_region 39 with fail
            obtain ⟨W12, hW12⟩ : ∃ W12, W12 = st5 w11 M (.int .i64 S.pol) (.int .u64 (S.st : Int)) (.slice a1 n1 c1) (.slice x2 y2 z2) (.slice a3 n3 c3) := ⟨_, rfl⟩
            have TM : Touch [M] w11 W12 := by rw [hW12]; exact st5_touch (Touch.refl _ _) (Or.inl (by simp)) _ _ _ _ _
            have HMf : Hid (W12.heap[M]? = some (.cells (dvc S' (.slice a1 n1 c1) (.slice x2 y2 z2) (.slice a3 n3 c3)) 32 (0, 0))) := hid (by rw [hW12]; unfold dvc; rw [HWs.out.1, HWs.out.2]; exact st5_at MO.out _ _ _ _ _)
            have HGf : Hid (W12.heap[gg]? = some (.cells #[.int .i64 ac.kd, .int .i64 ac.n] 38 (0, 0))) := hid (TM.keep GO.out (fun e => by
              simp only [List.mem_singleton] at e
              have q1 := MO.out
              have q2 := GO.out
              rw [e, q1] at q2
              simp at q2))
            have HLf := hid (LO.out.store MO.out TM)
            unfold st5 at hW12
            rw [← hW12]
            clear hW12 TM
            clear b0 b1 b2' b3 b4 bff d0 d1 d2 d3 d4 dff MO GO LO LO0 M10 G10 B20 B11 L10 HPw2
            obtain ⟨d0, d1, d2, d3, d4, dff⟩ := dcs_at HMf.out
            unfold dvc at d0 d1 d2 d3 d4
            have gn := cell_at (j := 1) (v := .int .i64 ac.n) HGf.out rfl
            have HStd := hid (stands_ HLf.out.rq HLf.out.d (by have := HNm.out; omega) ac.n HAo.out.2)
            unfold dvv dvc PT at HStd
            have HFin : Hid (∀ w', Touch [] W12 w' → Lz w M b (m + 1) w') := hid (fun w' T => ⟨F11, S', _, _, _, _, _, _, _, _, _, HLf.out.keep0 T, T.keep HMf.out (by simp)⟩)
            clear HLf HMf HGf
            go_wp2_with (go_at_call 17; refine HStd.out.mono ?_; rintro e w13 ⟨rfl, t13⟩; have T13 := hid (HFin.out _ t13); clear t13)
            go_roundw
            case rel => exact ⟨m + 1, by go_num, by have := HNm.out; omega, T13⟩
            case measure => simp [intOf]; have := HNm.out; omega
        · have zm : ¬ (m : Int) < (A : Int) := by omega
          have HT := hid HR.out.t
          clear HR
          go_wp2_with fail
          go_ret
          exact ⟨rfl, HT.out⟩
theorem plays_ (w : World) (x : SchA) (xs : List ActR) (v : Value) (hx : Ra w x.u x.xs ∧ x.ok) (hxl : x.xs.length ≤ 17592186043904) (hv : SlActR w v xs) (hw : ∀ a ∈ xs, a.ok) (hL : xs.length ≤ 8796093021952) : Calls Try.prog 3 #[.agg x.cs, v] w fun e w' => e = .returned (.bool true) ∧ Touch [] w w' := by
  by_cases h0 : newE x.p x.xs.length = 0
  · exact plays_ok w x v hx hxl xs hv hw hL h0
  · exact plays_no w x v hx hxl xs hv h0
end Go.Proofs.Ythpkkfmphoopnaa.Re
