/- Of every list of acts and every runs: the seats are what the document's are: the walk of the law; both lists are within the form's reach. -/
import Derived.Test.YtlmmljmhfghlnaaVlp
namespace Go.Proofs.Ytlmmljmhfghlnaa
open Go.RowKit Go.Maps Go.ChangeMaps
set_option linter.unusedVariables false
set_option linter.unusedSimpArgs false
theorem ls_start {w w1 w2 w3 W : World} (h1 : Sq w1 w.heap.size [w.heap.size] [] [] 0) (t1 : Touch [] w w1) (h2 : Sq w2 w1.heap.size [w1.heap.size] [] [] 0) (t2 : Touch [] w1 w2) (t3 : Touch [] w2 w3) (hW : W = w3.alloc (.cells #[.slice none 0 0, .slice none 0 0] 29)) : Ls w w3.heap.size w.heap.size w1.heap.size 0 [w.heap.size] [w1.heap.size] [] [] (.slice none 0 0) (.slice none 0 0) W := by
  have tt : Touch [] w3 W := by rw [hW]; exact (Touch.refl _ _).alloc _
  have hl := h1.slt
  refine ⟨h1.keep0 ((t2.trans' t3).trans' tt), h2.keep0 (t3.trans' tt), ⟨Rs.of_own (World.ownsRow_nil W 0 38 3), Rs.of_own (World.ownsRow_nil W 0 3 1)⟩, by rw [hW]; exact heap_alloc_new w3 _, fun d hd => by simp at hd; omega, fun d hd e => by simp at hd e; omega, ?_, ((t1.trans' t2).trans' t3).trans' tt⟩
  exact ((t1.trans' t2).trans' t3).size
set_option maxHeartbeats 16000000 in
set_option maxRecDepth 100000 in
theorem plays_ (w : World) (xs : List ActV) (av : Value) (rs : List Int) (rv : Value) (hv : SlActV w av xs) (hw : ∀ x ∈ xs, x.ok) (hL : xs.length ≤ 4398046510976) (hr : Ra w rv rs) (hrw : ∀ r ∈ rs, W64 r) (hrl : rs.length ≤ 17592186043904) : Calls Try.prog 3 #[av, rv] w fun e w' => e = .returned (.bool true) ∧ Touch [] w w' := by
  obtain ⟨avv, cv, rfl⟩ : ∃ a c, av = .slice a xs.length c := by
    rcases hv with ⟨rfl, a, c, rfl⟩ | ⟨b, off, cap, rfl, _⟩
    · exact ⟨a, c, rfl⟩
    · exact ⟨_, _, rfl⟩
  obtain ⟨ra, rc, rfl⟩ := hr.fm
  have HRow : Hid (xs.length = 0 ∨ ∃ b off, avv = some ⟨b, off, none⟩ ∧ RowActV w b off xs) := by
    rcases hv with ⟨rfl, _⟩ | ⟨b, off, cap, e, r⟩
    · exact Or.inl rfl
    · simp only [Value.slice.injEq] at e
      exact Or.inr ⟨b, off, e.1, r⟩
  obtain ⟨A, hA⟩ : ∃ A, A = xs.length := ⟨_, rfl⟩
  have HAx := hid hA
  have HWf := hid hw
  rw [← hA] at HRow hL ⊢
  have HLe := hid hL
  have HEMP : Hid (∀ M s2 so N F Fo L G u v wx, Ls w M s2 so N F Fo L G u v wx → N ≤ 4500000000000 → Calls Try.prog 19 #[PT s2, .slice ra rs.length rc] wx fun e w2 => ∃ a k c, e = .returned (.slice a k c) ∧ Touch [] wx w2 ∧ ∀ w3, Touch [] w2 w3 → Calls Try.prog 20 #[.agg #[u, v], .slice ra rs.length rc] w3 fun e w4 => ∃ a' k' c', e = .returned (.slice a' k' c') ∧ Touch [] w3 w4 ∧ ∀ w5, Touch [] w4 w5 → Calls Try.prog 10 #[.slice a k c, .slice a' k' c'] w5 fun e w6 => e = .returned (.bool true) ∧ Touch [] w5 w6) := hid (fun M s2 so N F Fo L G u v wx h hN => emp_same h hN (hr.keep0 h.t) hrw hrl)
  have HN1 := hid (new_ w)
  have HST : Hid (∀ w1 w2 w3 W, Sq w1 w.heap.size [w.heap.size] [] [] 0 → Touch [] w w1 → Sq w2 w1.heap.size [w1.heap.size] [] [] 0 → Touch [] w1 w2 → Touch [] w2 w3 → W = w3.alloc (.cells #[.slice none 0 0, .slice none 0 0] 29) → LsX w w3.heap.size w.heap.size w1.heap.size 0 W) := hid (fun w1 w2 w3 W q1 q2 q3 q4 q5 e => ⟨_, _, _, _, _, _, ls_start q1 q2 q3 q4 q5 e⟩)
  clear hA hw hL hv hr hrw hrl
  generalize rs.length = rn at *
  unfold PT at HN1
  go_enter Try.func3, Try.ntmps3
  have P1 := HN1
  go_upto_region 5 with (first
    | (go_at_call 5; refine P1.out.mono ?_; clear P1; rintro e w1 ⟨rfl, q1, t1⟩; have Q1 := hid (And.intro q1 t1); have P2 := hid (new_ w1); unfold PT at P2; clear q1 t1)
    | (go_at_call 5; refine P2.out.mono ?_; rintro e w2 ⟨rfl, q2, t2⟩; have Q2 := hid (And.intro q2 t2); clear q2 t2)
    | (go_at_call 6; refine (awake_ _).mono ?_; rintro e w3 ⟨rfl, t3⟩; have Q3 := hid t3; clear t3))
  obtain ⟨W4, hW4⟩ : ∃ W4, W4 = w3.alloc (.cells #[.slice none 0 0, .slice none 0 0] 29) := ⟨_, rfl⟩
  have HI := hid (HST.out w1 w2 w3 W4 Q1.out.1 Q1.out.2 Q2.out.1 Q2.out.2 Q3.out hW4)
  rw [← hW4]
  clear hW4 Q1 Q2 Q3 HST HN1 P2
  obtain ⟨M, hM⟩ : ∃ M, M = w3.heap.size := ⟨_, rfl⟩
  obtain ⟨so, hso⟩ : ∃ so, so = w1.heap.size := ⟨_, rfl⟩
  rw [← hM, ← hso] at HI ⊢
  clear hM hso
  go_wp2_with fail
  go_loopw [5, 8] (fun s5 s8 wr => ∃ (s2 m : Nat), s5 = .pointer (some ⟨s2, 0, none⟩) ∧ s8 = .int .i64 (m : Int) ∧ m ≤ A ∧ Hid (LsX w M s2 so m wr)) (fun _ i _ => A - (intOf i).toNat)
  case atStart => exact ⟨w.heap.size, 0, rfl, rfl, Nat.zero_le _, HI⟩
  case round =>
    clear HI
    obtain ⟨s2, m, rfl, rfl, hm, HR⟩ := hrel
    by_cases hlt : m < A
    · have zk : (m : Int) < (A : Int) := by omega
      have zA : (A : Int) ≤ 4398046510976 := by have := HLe.out; omega
      obtain ⟨ba, off, rfl, hrow⟩ : ∃ ba off, avv = some ⟨ba, off, none⟩ ∧ RowActV w ba off xs := by
        rcases HRow.out with e | e
        · omega
        · exact e
      have hnx : m < xs.length := by have := HAx.out; omega
      have HRw : Hid (∀ w', Touch [] w w' → w'.cell? ⟨ba, off + m * 4, none⟩ = some (.int .i64 xs[m].kd) ∧ w'.cell? ⟨ba, off + m * 4 + 1, none⟩ = some (.int .i64 xs[m].st.ca) ∧ w'.cell? ⟨ba, off + m * 4 + 2, none⟩ = some (.int .i64 xs[m].st.rn) ∧ w'.cell? ⟨ba, off + m * 4 + 3, none⟩ = some (.int .i64 xs[m].st.tk)) := fun w' t => ⟨(hrow.keep t).c0 m hnx, (hrow.keep t).c1 m hnx, (hrow.keep t).c2 m hnx, (hrow.keep t).c3 m hnx⟩
      have HWx := hid (HWf.out xs[m] (List.getElem_mem hnx))
      clear hrow
      generalize xs[m] = ac at *
      clear hnx
      have HNn := hid (And.intro hm hlt)
      clear hm hlt
      go_upto_block 1 with fail
      go_upto_region 9 with fail
      obtain ⟨F, Fo, L, G, u, v, hp⟩ := HR.out
      clear HR
      obtain ⟨a, c, a', c', rfl, rfl⟩ := hp.dd.fm
      have p0 := cell_at (j := 0) hp.hm rfl
      have p1 := cell_at (j := 1) hp.hm rfl
      have pf := froz_at hp.hm
      obtain ⟨q0, q1, q2, q3⟩ := HRw.out _ hp.t
      have HO : Hid (∀ w', Touch [] wr w' → Calls Try.prog 7 #[PT s2, .agg #[.slice a L.length c, .slice a' G.length c'], .agg ac.cs] w' fun e w4 => ∃ s4 a4 n4 c4 a5 n5 c5, e = .returned (.tuple #[PT s4, .agg #[.slice a4 n4 c4, .slice a5 n5 c5], .bool true]) ∧ w4.heap[M]? = some (.cells #[.slice a L.length c, .slice a' G.length c'] 29 (0, 0)) ∧ LsX w M s4 so (m + 1) (st2 w4 M (.slice a4 n4 c4) (.slice a5 n5 c5))) := hid (fun w' X => by
        have h2 := hp.keep X
        refine (one_ w' s2 F L G _ _ ac m h2.sq h2.dd (by have := HNn.out; have := HLe.out; omega) HWx.out).mono ?_
        rintro e w4 ⟨s4, a4, n4, c4, a5, n5, c5, rfl, hq⟩
        obtain ⟨F', hs'⟩ := h2.step hq
        exact ⟨s4, a4, n4, c4, a5, n5, c5, rfl, h2.box hq, F', Fo, _, _, _, _, hs'⟩)
      unfold PT ActV.cs at HO
      generalize L.length = ln at *
      generalize G.length = gn at *
      clear hp
      go_cut [5, 9] from 34 to 44 (fun s5 s9 wx => ∃ s4, s5 = .pointer (some ⟨s4, 0, none⟩) ∧ s9 = .bool true ∧ Hid (LsX w M s4 so (m + 1) wx))
      case first =>
        have t3 : Touch [] wr wr.drew := (Touch.refl _ _).drew
        go_region_with (go_at_call 7; refine (HO.out _ t3).mono ?_; rintro e w4 ⟨s4, a4, n4, c4, a5, n5, c5, rfl, hb4, h4⟩; have x0 := cell_at (j := 0) hb4 rfl; have x1 := cell_at (j := 1) hb4 rfl; have xf := froz_at hb4; unfold st2 at h4; have H4 := hid h4; clear h4 hb4)
        all_goals
          go_wp2_with fail
          go_meet
          case rel => exact ⟨s4, rfl, rfl, H4⟩
      case rest =>
        clear p0 p1 pf q0 q1 q2 q3 HO
        obtain ⟨s2, rfl, rfl, HR⟩ := hcut
        obtain ⟨F, Fo, L, G, u, v, hp⟩ := HR.out
        clear HR
        obtain ⟨a, c, a', c', rfl, rfl⟩ := hp.dd.fm
        obtain ⟨q0, q1, q2, q3⟩ := HRw.out _ hp.t
        have hp' := hid hp
        have HWh : Hid (∀ w', Touch [] wc w' → Calls Try.prog 8 #[PT s2, .int .i64 ac.st.ca] w' fun e w2 => e = .returned (.tuple #[sv ((whr L ac.st.ca).getD (0, 0, 0)), .bool (whr L ac.st.ca).isSome]) ∧ Touch [] w' w2) := hid (fun w' t => whereQ (hp'.out.keep t).sq HWx.out.2.1)
        have HRh : Hid (∀ w', Touch [] wc w' → Calls Try.prog 9 #[.agg #[.slice a L.length c, .slice a' G.length c'], .int .i64 ac.st.ca] w' fun e w2 => e = .returned (.tuple #[sv ((whr L ac.st.ca).getD (0, 0, 0)), .bool (whr L ac.st.ca).isSome]) ∧ Touch [] w' w2) := hid (fun w' t => rwhere_ w' _ _ L G (hp'.out.keep t).dd ac.st.ca (by have := hp'.out.sq.iv.ll; have := HNn.out; have := HLe.out; omega))
        have HOf0 : Hid (∀ w', Touch [] wc w' → Calls Try.prog 11 #[PT s2, .int .i64 ac.st.rn] w' fun e w2 => ∃ a1 k1 c1, e = .returned (.slice a1 k1 c1) ∧ Touch [] w' w2 ∧ ∀ w3, Touch [] w2 w3 → Calls Try.prog 12 #[.agg #[.slice a L.length c, .slice a' G.length c'], .int .i64 1, .int .i64 ac.st.rn] w3 fun e w4 => ∃ a2 k2 c2, e = .returned (.slice a2 k2 c2) ∧ Touch [] w3 w4 ∧ ∀ w5, Touch [] w4 w5 → Calls Try.prog 10 #[.slice a1 k1 c1, .slice a2 k2 c2] w5 fun e w6 => e = .returned (.bool true) ∧ Touch [] w5 w6) := hid (fun w' t => of_same (hp'.out.keep t) HWx.out.2.2.1 (by have := HNn.out; have := HLe.out; omega))
        have HBy0 : Hid (∀ w', Touch [] wc w' → Calls Try.prog 13 #[PT s2, .int .i64 ac.st.tk] w' fun e w2 => ∃ a1 k1 c1, e = .returned (.slice a1 k1 c1) ∧ Touch [] w' w2 ∧ ∀ w3, Touch [] w2 w3 → Calls Try.prog 12 #[.agg #[.slice a L.length c, .slice a' G.length c'], .int .i64 2, .int .i64 ac.st.tk] w3 fun e w4 => ∃ a2 k2 c2, e = .returned (.slice a2 k2 c2) ∧ Touch [] w3 w4 ∧ ∀ w5, Touch [] w4 w5 → Calls Try.prog 10 #[.slice a1 k1 c1, .slice a2 k2 c2] w5 fun e w6 => e = .returned (.bool true) ∧ Touch [] w5 w6) := hid (fun w' t => by_same (hp'.out.keep t) HWx.out.2.2.2 (by have := HNn.out; have := HLe.out; omega))
        have HCa0 : Hid (∀ w', Touch [] wc w' → Calls Try.prog 14 #[PT s2, .int .i64 ac.st.tk] w' fun e w2 => e = .returned (.bool (decide (ac.st.tk ∈ G))) ∧ Touch [] w' w2) := hid (fun w' t => cancQ (hp'.out.keep t).sq HWx.out.2.2.2)
        have HRc0 : Hid (∀ w', Touch [] wc w' → Calls Try.prog 15 #[.agg #[.slice a L.length c, .slice a' G.length c'], .int .i64 ac.st.tk] w' fun e w2 => e = .returned (.bool (decide (ac.st.tk ∈ G))) ∧ Touch [] w' w2) := hid (fun w' t => rcanc_ w' _ _ L G (hp'.out.keep t).dd ac.st.tk (by have := hp'.out.sq.iv.lg; have := HNn.out; have := HLe.out; omega))
        have HMB : Hid (∀ w', Touch [] wc w' → w'.cell? ⟨M, 0, none⟩ = some (.slice a L.length c) ∧ w'.cell? ⟨M, 1, none⟩ = some (.slice a' G.length c')) := hid (fun w' t => ⟨cell_at ((hp'.out.keep t).hm) rfl, cell_at ((hp'.out.keep t).hm) rfl⟩)
        generalize (whr L ac.st.ca).getD (0, 0, 0) = y at *
        generalize (whr L ac.st.ca).isSome = B at *
        generalize decide (ac.st.tk ∈ G) = cb at *
        generalize hln : L.length = ln at *
        generalize hgn : G.length = gn at *
        have HLG := hid (And.intro hln hgn)
        clear hln hgn hp
        unfold PT at HWh HOf0 HBy0 HCa0
        unfold sv at HWh HRh
        obtain ⟨wo, hwo⟩ : ∃ wo, wo = wc := ⟨_, rfl⟩
        rw [← hwo] at hp' HWh HRh HOf0 HBy0 HCa0 HRc0 HMB
        obtain ⟨X1, hX1⟩ : ∃ X1, X1 = wc.alloc (.cells #[.int .i64 ac.st.ca, .int .i64 ac.st.rn, .int .i64 ac.st.tk] 33) := ⟨_, rfl⟩
        have tx1 : Touch [] wo X1 := by rw [hX1, hwo]; exact (Touch.refl _ _).alloc _
        have hx1 : X1.heap[wc.heap.size]? = some (.cells #[.int .i64 ac.st.ca, .int .i64 ac.st.rn, .int .i64 ac.st.tk] 33 (0, 0)) := by rw [hX1]; exact heap_alloc_new wc _
        obtain ⟨XB, hXB⟩ : ∃ XB, XB = wc.heap.size := ⟨_, rfl⟩
        rw [← hXB] at hx1
        clear hwo
        go_upto_region 13 with fail
        rw [← hX1, ← hXB]
        clear hX1 hXB q0 q1 q2 q3
        have HW1 := hid (HWh.out X1 tx1)
        have e0 := cell_at (j := 0) (v := .int .i64 ac.st.ca) hx1 rfl
        have HX1 := hid (And.intro hx1 tx1)
        clear hx1 tx1
        go_upto_region 14 with (go_at_call 8; refine HW1.out.mono ?_; rintro e w5 ⟨rfl, t5⟩; have T5 := hid (HX1.out.2.trans' t5); have U5 := hid (t5.keep HX1.out.1 (by simp)); clear t5 e0)
        obtain ⟨X2, hX2⟩ : ∃ X2, X2 = w5.alloc (.cells #[.int .i64 y.1, .int .i64 y.2.1, .int .i64 y.2.2] 33) := ⟨_, rfl⟩
        have tx2 : Touch [] w5 X2 := by rw [hX2]; exact (Touch.refl _ _).alloc _
        have hx2 : X2.heap[w5.heap.size]? = some (.cells #[.int .i64 y.1, .int .i64 y.2.1, .int .i64 y.2.2] 33 (0, 0)) := by rw [hX2]; exact heap_alloc_new w5 _
        rw [← hX2]
        obtain ⟨PB, hPB⟩ : ∃ PB, PB = w5.heap.size := ⟨_, rfl⟩
        rw [← hPB] at hx2 ⊢
        clear hX2 hPB
        have T6 : Hid (Touch [] wo X2) := hid (T5.out.trans' tx2)
        have U6 := hid (And.intro (tx2.keep U5.out (by simp)) hx2)
        have HR6 := hid (HRh.out X2 T6.out)
        have e0 := cell_at (j := 0) (v := .int .i64 ac.st.ca) U6.out.1 rfl
        obtain ⟨m0, m1⟩ := HMB.out X2 T6.out
        clear tx2 hx2 T5 U5 HW1 HX1 HWh HRh
        go_upto_region 15 with (go_at_call 9; refine HR6.out.mono ?_; rintro e w6 ⟨rfl, t6⟩; have T7 := hid (T6.out.trans' t6); have U7 := hid (And.intro (t6.keep U6.out.1 (by simp)) (t6.keep U6.out.2 (by simp))); clear t6 e0 m0 m1)
        obtain ⟨w7, hw7⟩ : ∃ w7, w7 = w6.alloc (.cells #[.int .i64 y.1, .int .i64 y.2.1, .int .i64 y.2.2] 38) := ⟨_, rfl⟩
        have tx7 : Touch [] w6 w7 := by rw [hw7]; exact (Touch.refl _ _).alloc _
        have hx7 : w7.heap[w6.heap.size]? = some (.cells #[.int .i64 y.1, .int .i64 y.2.1, .int .i64 y.2.2] 38 (0, 0)) := by rw [hw7]; exact heap_alloc_new w6 _
        rw [← hw7]
        obtain ⟨QB, hQB⟩ : ∃ QB, QB = w6.heap.size := ⟨_, rfl⟩
        rw [← hQB] at hx7 ⊢
        clear hw7 hQB
        have t7 : Touch [] wo w7 := T7.out.trans' tx7
        have u7 := tx7.keep U7.out.1 (by simp)
        have v7 := tx7.keep U7.out.2 (by simp)
        have hpc := hid (hp'.out.keep t7)
        have HOf := hid (fun w' (t : Touch [] w7 w') => HOf0.out w' (t7.trans' t))
        have HBy := hid (fun w' (t : Touch [] w7 w') => HBy0.out w' (t7.trans' t))
        have HCa := hid (fun w' (t : Touch [] w7 w') => HCa0.out w' (t7.trans' t))
        have HRc := hid (fun w' (t : Touch [] w7 w') => HRc0.out w' (t7.trans' t))
        have M0 : ∀ w', Touch [] w7 w' → w'.cell? ⟨M, 0, none⟩ = some (.slice a ln c) := fun w' t => (HMB.out w' (t7.trans' t)).1
        have M1 : ∀ w', Touch [] w7 w' → w'.cell? ⟨M, 1, none⟩ = some (.slice a' gn c') := fun w' t => (HMB.out w' (t7.trans' t)).2
        have X0 : ∀ w', Touch [] w7 w' → w'.cell? ⟨XB, 0, none⟩ = some (.int .i64 ac.st.ca) := fun w' t => cell_at (t.keep u7 (by simp)) rfl
        have X1 : ∀ w', Touch [] w7 w' → w'.cell? ⟨XB, 1, none⟩ = some (.int .i64 ac.st.rn) := fun w' t => cell_at (t.keep u7 (by simp)) rfl
        have X2 : ∀ w', Touch [] w7 w' → w'.cell? ⟨XB, 2, none⟩ = some (.int .i64 ac.st.tk) := fun w' t => cell_at (t.keep u7 (by simp)) rfl
        have P0 : ∀ w', Touch [] w7 w' → w'.cell? ⟨PB, 0, none⟩ = some (.int .i64 y.1) := fun w' t => cell_at (t.keep v7 (by simp)) rfl
        have P1 : ∀ w', Touch [] w7 w' → w'.cell? ⟨PB, 1, none⟩ = some (.int .i64 y.2.1) := fun w' t => cell_at (t.keep v7 (by simp)) rfl
        have P2 : ∀ w', Touch [] w7 w' → w'.cell? ⟨PB, 2, none⟩ = some (.int .i64 y.2.2) := fun w' t => cell_at (t.keep v7 (by simp)) rfl
        have Q0 : ∀ w', Touch [] w7 w' → w'.cell? ⟨QB, 0, none⟩ = some (.int .i64 y.1) := fun w' t => cell_at (t.keep hx7 (by simp)) rfl
        have Q1 : ∀ w', Touch [] w7 w' → w'.cell? ⟨QB, 1, none⟩ = some (.int .i64 y.2.1) := fun w' t => cell_at (t.keep hx7 (by simp)) rfl
        have Q2 : ∀ w', Touch [] w7 w' → w'.cell? ⟨QB, 2, none⟩ = some (.int .i64 y.2.2) := fun w' t => cell_at (t.keep hx7 (by simp)) rfl
        have nq := fun W => neqS W y
        clear tx7 hx7 u7 v7 t7 T6 T7 U6 U7 HR6 hp' HOf0 HBy0 HCa0 HRc0 HMB
        refine wp_region_H (S := fun w' => Touch [] w7 w') (by kernel_rfl) ?_
        have hS0 : Touch [] w7 w7.drew := (Touch.refl _ _).drew
        refine wpH_take (i := 0) (v := (.agg #[.int .i64 y.1, .int .i64 y.2.1, .int .i64 y.2.2])) (some 66) rfl rfl (by kernel_rfl) (by kernel_rfl) (by kernel_rfl) (fun _ _ _ h => h) (Or.inl ⟨by rfl, fun w' hS => (by have z0 := P0 _ hS; have z1 := P1 _ hS; have z2 := P2 _ hS; go_simp)⟩) hS0 ?_
        try simp only [Go.Act.put, List.setIfInBounds_toArray, List.set_cons_zero, List.set_cons_succ]
        refine wpH_take (i := 1) (v := (.agg #[.int .i64 y.1, .int .i64 y.2.1, .int .i64 y.2.2])) (some 67) rfl rfl (by kernel_rfl) (by kernel_rfl) (by kernel_rfl) (fun _ _ _ h => h) (Or.inl ⟨by rfl, fun w' hS => (by have z0 := Q0 _ hS; have z1 := Q1 _ hS; have z2 := Q2 _ hS; go_simp)⟩) hS0 ?_
        try simp only [Go.Act.put, List.setIfInBounds_toArray, List.set_cons_zero, List.set_cons_succ]
        refine wpH_take (i := 2) (v := (.bool false)) (some 68) rfl rfl (by kernel_rfl) (by kernel_rfl) (by kernel_rfl) (fun _ _ _ h => h) (Or.inl ⟨by rfl, fun w' hS => (by go_simp)⟩) hS0 ?_
        try simp only [Go.Act.put, List.setIfInBounds_toArray, List.set_cons_zero, List.set_cons_succ]
        refine wpH_take (i := 3) (v := (.bool false)) (some 69) rfl rfl (by kernel_rfl) (by kernel_rfl) (by kernel_rfl) (fun _ _ _ h => h) (Or.inl ⟨by rfl, fun w' hS => (by go_simp)⟩) hS0 ?_
        try simp only [Go.Act.put, List.setIfInBounds_toArray, List.set_cons_zero, List.set_cons_succ]
        refine wpH_take (i := 4) (v := (.bool B)) (some 70) rfl rfl (by kernel_rfl) (by kernel_rfl) (by kernel_rfl) (fun _ _ _ h => h) (Or.inl ⟨by rfl, fun w' hS => (by go_simp)⟩) hS0 ?_
        try simp only [Go.Act.put, List.setIfInBounds_toArray, List.set_cons_zero, List.set_cons_succ]
        refine wpH_take (i := 5) (v := (.bool B)) (some 71) rfl rfl (by kernel_rfl) (by kernel_rfl) (by kernel_rfl) (fun _ _ _ h => h) (Or.inl ⟨by rfl, fun w' hS => (by go_simp)⟩) hS0 ?_
        try simp only [Go.Act.put, List.setIfInBounds_toArray, List.set_cons_zero, List.set_cons_succ]
        refine wpH_take (i := 6) (v := (.bool false)) (some 72) rfl rfl (by kernel_rfl) (by kernel_rfl) (by kernel_rfl) (fun _ _ _ h => h) (Or.inl ⟨by rfl, fun w' hS => (by go_simp)⟩) hS0 ?_
        try simp only [Go.Act.put, List.setIfInBounds_toArray, List.set_cons_zero, List.set_cons_succ]
        refine wpH_take (i := 7) (v := (.bool false)) (some 73) rfl rfl (by kernel_rfl) (by kernel_rfl) (by kernel_rfl) (fun _ _ _ h => h) (Or.inl ⟨by rfl, fun w' hS => (by go_simp)⟩) hS0 ?_
        try simp only [Go.Act.put, List.setIfInBounds_toArray, List.set_cons_zero, List.set_cons_succ]
        refine wpH_take (i := 8) (v := (.bool false)) (some 74) rfl rfl (by kernel_rfl) (by kernel_rfl) (by kernel_rfl) (fun _ _ _ h => h) (Or.inl ⟨by rfl, fun w' hS => (by go_simp)⟩) hS0 ?_
        try simp only [Go.Act.put, List.setIfInBounds_toArray, List.set_cons_zero, List.set_cons_succ]
        refine wpH_take (i := 9) (v := (.pointer (some ⟨s2, 0, none⟩))) (some 75) rfl rfl (by kernel_rfl) (by kernel_rfl) (by kernel_rfl) (fun _ _ _ h => h) (Or.inl ⟨by rfl, fun w' hS => (by go_simp)⟩) hS0 ?_
        try simp only [Go.Act.put, List.setIfInBounds_toArray, List.set_cons_zero, List.set_cons_succ]
        refine wpH_take (i := 10) (v := (.pointer (some ⟨XB, 1, none⟩))) (some 76) rfl rfl (by kernel_rfl) (by kernel_rfl) (by kernel_rfl) (fun _ _ _ h => h) (Or.inl ⟨by rfl, fun w' hS => (by go_simp)⟩) hS0 ?_
        try simp only [Go.Act.put, List.setIfInBounds_toArray, List.set_cons_zero, List.set_cons_succ]
        refine wpH_take (i := 11) (v := (.int .i64 ac.st.rn)) (some 77) rfl rfl (by kernel_rfl) (by kernel_rfl) (by kernel_rfl) (fun _ _ _ h => h) (Or.inl ⟨by rfl, fun w' hS => (by have z0 := X1 _ hS; go_simp)⟩) hS0 ?_
        try simp only [Go.Act.put, List.setIfInBounds_toArray, List.set_cons_zero, List.set_cons_succ]
        refine wpH_take (i := 13) (v := (.agg #[.slice a ln c, .slice a' gn c'])) (some 79) rfl rfl (by kernel_rfl) (by kernel_rfl) (by kernel_rfl) (fun _ _ _ h => h) (Or.inl ⟨by rfl, fun w' hS => (by have z0 := M0 _ hS; have z1 := M1 _ hS; go_simp)⟩) hS0 ?_
        try simp only [Go.Act.put, List.setIfInBounds_toArray, List.set_cons_zero, List.set_cons_succ]
        refine wpH_take (i := 14) (v := (.pointer (some ⟨XB, 1, none⟩))) (some 80) rfl rfl (by kernel_rfl) (by kernel_rfl) (by kernel_rfl) (fun _ _ _ h => h) (Or.inl ⟨by rfl, fun w' hS => (by go_simp)⟩) hS0 ?_
        try simp only [Go.Act.put, List.setIfInBounds_toArray, List.set_cons_zero, List.set_cons_succ]
        refine wpH_take (i := 15) (v := (.int .i64 ac.st.rn)) (some 81) rfl rfl (by kernel_rfl) (by kernel_rfl) (by kernel_rfl) (fun _ _ _ h => h) (Or.inl ⟨by rfl, fun w' hS => (by have z0 := X1 _ hS; go_simp)⟩) hS0 ?_
        try simp only [Go.Act.put, List.setIfInBounds_toArray, List.set_cons_zero, List.set_cons_succ]
        refine wpH_call (i := 12) (o := { dst := some 78, op := Op.call { callee := Callee.value (Operand.func 11), args := #[Operand.tmp 75, Operand.tmp 77], argTypes := #[24, 3] }, type := 23, pos := _, after := #[{ on := 9, ground := Ground.data }, { on := 11, ground := Ground.data }, { on := 8, ground := Ground.chain }, { on := 8, ground := Ground.guard }], guard := some (8, false) }) (by kernel_rfl) rfl (fun K' hK => ?_)
        rw [if_pos (by rfl)]
        go_simp
        refine (HOf.out _ hS0).mono ?_
        rintro e' Y1 ⟨o1, o2, o3, rfl, tt1, hO1⟩
        have kk1 := hS0.trans' tt1
        have HO1 := hid hO1
        clear hO1
        refine hK.out _ _ kk1 ?_
        clear hK
        try simp only [Go.Act.put, List.setIfInBounds_toArray, List.set_cons_zero, List.set_cons_succ]
        refine wpH_call (i := 16) (o := { dst := some 82, op := Op.call { callee := Callee.value (Operand.func 12), args := #[Operand.tmp 79, Operand.const (Value.int IntKind.i64 1), Operand.tmp 81], argTypes := #[29, 3, 3] }, type := 23, pos := _, after := #[{ on := 13, ground := Ground.data }, { on := 15, ground := Ground.data }, { on := 12, ground := Ground.chain }, { on := 8, ground := Ground.guard }], guard := some (8, false) }) (by kernel_rfl) rfl (fun K' hK => ?_)
        rw [if_pos (by rfl)]
        go_simp
        refine (HO1.out _ (Touch.refl _ _)).mono ?_
        rintro e' Y2 ⟨o4, o5, o6, rfl, tt2, hO2⟩
        have kk2 := kk1.trans' tt2
        have HO2 := hid hO2
        clear hO2
        refine hK.out _ _ kk2 ?_
        clear hK
        try simp only [Go.Act.put, List.setIfInBounds_toArray, List.set_cons_zero, List.set_cons_succ]
        refine wpH_call (i := 17) (o := { dst := some 83, op := Op.call { callee := Callee.value (Operand.func 10), args := #[Operand.tmp 78, Operand.tmp 82], argTypes := #[23, 23] }, type := 4, pos := _, after := #[{ on := 12, ground := Ground.data }, { on := 16, ground := Ground.data }, { on := 16, ground := Ground.chain }, { on := 8, ground := Ground.guard }], guard := some (8, false) }) (by kernel_rfl) rfl (fun K' hK => ?_)
        rw [if_pos (by rfl)]
        go_simp
        refine (HO2.out _ (Touch.refl _ _)).mono ?_
        rintro e' Y3 ⟨rfl, tt3⟩
        have kk3 := kk2.trans' tt3
        refine hK.out _ _ kk3 ?_
        clear hK
        try simp only [Go.Act.put, List.setIfInBounds_toArray, List.set_cons_zero, List.set_cons_succ]
        refine wpH_take (i := 18) (v := (.bool false)) (some 84) rfl rfl (by kernel_rfl) (by kernel_rfl) (by kernel_rfl) (fun _ _ _ h => h) (Or.inl ⟨by rfl, fun w' hS => (by go_simp)⟩) kk3 ?_
        try simp only [Go.Act.put, List.setIfInBounds_toArray, List.set_cons_zero, List.set_cons_succ]
        refine wpH_take (i := 19) (v := (.bool false)) (some 85) rfl rfl (by kernel_rfl) (by kernel_rfl) (by kernel_rfl) (fun _ _ _ h => h) (Or.inl ⟨by rfl, fun w' hS => (by go_simp)⟩) kk3 ?_
        try simp only [Go.Act.put, List.setIfInBounds_toArray, List.set_cons_zero, List.set_cons_succ]
        refine wpH_take (i := 20) (v := (.bool false)) (some 86) rfl rfl (by kernel_rfl) (by kernel_rfl) (by kernel_rfl) (fun _ _ _ h => h) (Or.inl ⟨by rfl, fun w' hS => (by go_simp)⟩) kk3 ?_
        try simp only [Go.Act.put, List.setIfInBounds_toArray, List.set_cons_zero, List.set_cons_succ]
        refine wpH_take (i := 21) (v := (.pointer (some ⟨s2, 0, none⟩))) (some 87) rfl rfl (by kernel_rfl) (by kernel_rfl) (by kernel_rfl) (fun _ _ _ h => h) (Or.inl ⟨by rfl, fun w' hS => (by go_simp)⟩) kk3 ?_
        try simp only [Go.Act.put, List.setIfInBounds_toArray, List.set_cons_zero, List.set_cons_succ]
        refine wpH_take (i := 22) (v := (.pointer (some ⟨XB, 2, none⟩))) (some 88) rfl rfl (by kernel_rfl) (by kernel_rfl) (by kernel_rfl) (fun _ _ _ h => h) (Or.inl ⟨by rfl, fun w' hS => (by go_simp)⟩) kk3 ?_
        try simp only [Go.Act.put, List.setIfInBounds_toArray, List.set_cons_zero, List.set_cons_succ]
        refine wpH_take (i := 23) (v := (.int .i64 ac.st.tk)) (some 89) rfl rfl (by kernel_rfl) (by kernel_rfl) (by kernel_rfl) (fun _ _ _ h => h) (Or.inl ⟨by rfl, fun w' hS => (by have z0 := X2 _ hS; go_simp)⟩) kk3 ?_
        try simp only [Go.Act.put, List.setIfInBounds_toArray, List.set_cons_zero, List.set_cons_succ]
        refine wpH_take (i := 25) (v := (.agg #[.slice a ln c, .slice a' gn c'])) (some 91) rfl rfl (by kernel_rfl) (by kernel_rfl) (by kernel_rfl) (fun _ _ _ h => h) (Or.inl ⟨by rfl, fun w' hS => (by have z0 := M0 _ hS; have z1 := M1 _ hS; go_simp)⟩) kk3 ?_
        try simp only [Go.Act.put, List.setIfInBounds_toArray, List.set_cons_zero, List.set_cons_succ]
        refine wpH_take (i := 26) (v := (.pointer (some ⟨XB, 2, none⟩))) (some 92) rfl rfl (by kernel_rfl) (by kernel_rfl) (by kernel_rfl) (fun _ _ _ h => h) (Or.inl ⟨by rfl, fun w' hS => (by go_simp)⟩) kk3 ?_
        try simp only [Go.Act.put, List.setIfInBounds_toArray, List.set_cons_zero, List.set_cons_succ]
        refine wpH_take (i := 27) (v := (.int .i64 ac.st.tk)) (some 93) rfl rfl (by kernel_rfl) (by kernel_rfl) (by kernel_rfl) (fun _ _ _ h => h) (Or.inl ⟨by rfl, fun w' hS => (by have z0 := X2 _ hS; go_simp)⟩) kk3 ?_
        try simp only [Go.Act.put, List.setIfInBounds_toArray, List.set_cons_zero, List.set_cons_succ]
        refine wpH_call (i := 24) (o := { dst := some 90, op := Op.call { callee := Callee.value (Operand.func 13), args := #[Operand.tmp 87, Operand.tmp 89], argTypes := #[24, 3] }, type := 23, pos := _, after := #[{ on := 21, ground := Ground.data }, { on := 23, ground := Ground.data }, { on := 20, ground := Ground.chain }, { on := 20, ground := Ground.guard }], guard := some (20, false) }) (by kernel_rfl) rfl (fun K' hK => ?_)
        rw [if_pos (by rfl)]
        go_simp
        refine (HBy.out _ kk3).mono ?_
        rintro e' Y4 ⟨b1, b2, b3, rfl, tt4, hB1⟩
        have kk4 := kk3.trans' tt4
        have HB1 := hid hB1
        clear hB1
        refine hK.out _ _ kk4 ?_
        clear hK
        try simp only [Go.Act.put, List.setIfInBounds_toArray, List.set_cons_zero, List.set_cons_succ]
        refine wpH_call (i := 28) (o := { dst := some 94, op := Op.call { callee := Callee.value (Operand.func 12), args := #[Operand.tmp 91, Operand.const (Value.int IntKind.i64 2), Operand.tmp 93], argTypes := #[29, 3, 3] }, type := 23, pos := _, after := #[{ on := 25, ground := Ground.data }, { on := 27, ground := Ground.data }, { on := 24, ground := Ground.chain }, { on := 20, ground := Ground.guard }], guard := some (20, false) }) (by kernel_rfl) rfl (fun K' hK => ?_)
        rw [if_pos (by rfl)]
        go_simp
        refine (HB1.out _ (Touch.refl _ _)).mono ?_
        rintro e' Y5 ⟨b4, b5, b6, rfl, tt5, hB2⟩
        have kk5 := kk4.trans' tt5
        have HB2 := hid hB2
        clear hB2
        refine hK.out _ _ kk5 ?_
        clear hK
        try simp only [Go.Act.put, List.setIfInBounds_toArray, List.set_cons_zero, List.set_cons_succ]
        refine wpH_call (i := 29) (o := { dst := some 95, op := Op.call { callee := Callee.value (Operand.func 10), args := #[Operand.tmp 90, Operand.tmp 94], argTypes := #[23, 23] }, type := 4, pos := _, after := #[{ on := 24, ground := Ground.data }, { on := 28, ground := Ground.data }, { on := 28, ground := Ground.chain }, { on := 20, ground := Ground.guard }], guard := some (20, false) }) (by kernel_rfl) rfl (fun K' hK => ?_)
        rw [if_pos (by rfl)]
        go_simp
        refine (HB2.out _ (Touch.refl _ _)).mono ?_
        rintro e' Y6 ⟨rfl, tt6⟩
        have kk6 := kk5.trans' tt6
        refine hK.out _ _ kk6 ?_
        clear hK
        try simp only [Go.Act.put, List.setIfInBounds_toArray, List.set_cons_zero, List.set_cons_succ]
        refine wpH_take (i := 30) (v := (.bool false)) (some 96) rfl rfl (by kernel_rfl) (by kernel_rfl) (by kernel_rfl) (fun _ _ _ h => h) (Or.inl ⟨by rfl, fun w' hS => (by go_simp)⟩) kk6 ?_
        try simp only [Go.Act.put, List.setIfInBounds_toArray, List.set_cons_zero, List.set_cons_succ]
        refine wpH_take (i := 31) (v := (.bool false)) (some 97) rfl rfl (by kernel_rfl) (by kernel_rfl) (by kernel_rfl) (fun _ _ _ h => h) (Or.inl ⟨by rfl, fun w' hS => (by go_simp)⟩) kk6 ?_
        try simp only [Go.Act.put, List.setIfInBounds_toArray, List.set_cons_zero, List.set_cons_succ]
        refine wpH_take (i := 32) (v := (.bool false)) (some 98) rfl rfl (by kernel_rfl) (by kernel_rfl) (by kernel_rfl) (fun _ _ _ h => h) (Or.inl ⟨by rfl, fun w' hS => (by go_simp)⟩) kk6 ?_
        try simp only [Go.Act.put, List.setIfInBounds_toArray, List.set_cons_zero, List.set_cons_succ]
        refine wpH_take (i := 33) (v := (.pointer (some ⟨s2, 0, none⟩))) (some 99) rfl rfl (by kernel_rfl) (by kernel_rfl) (by kernel_rfl) (fun _ _ _ h => h) (Or.inl ⟨by rfl, fun w' hS => (by go_simp)⟩) kk6 ?_
        try simp only [Go.Act.put, List.setIfInBounds_toArray, List.set_cons_zero, List.set_cons_succ]
        refine wpH_take (i := 34) (v := (.pointer (some ⟨XB, 2, none⟩))) (some 100) rfl rfl (by kernel_rfl) (by kernel_rfl) (by kernel_rfl) (fun _ _ _ h => h) (Or.inl ⟨by rfl, fun w' hS => (by go_simp)⟩) kk6 ?_
        try simp only [Go.Act.put, List.setIfInBounds_toArray, List.set_cons_zero, List.set_cons_succ]
        refine wpH_take (i := 35) (v := (.int .i64 ac.st.tk)) (some 101) rfl rfl (by kernel_rfl) (by kernel_rfl) (by kernel_rfl) (fun _ _ _ h => h) (Or.inl ⟨by rfl, fun w' hS => (by have z0 := X2 _ hS; go_simp)⟩) kk6 ?_
        try simp only [Go.Act.put, List.setIfInBounds_toArray, List.set_cons_zero, List.set_cons_succ]
        refine wpH_take (i := 37) (v := (.agg #[.slice a ln c, .slice a' gn c'])) (some 103) rfl rfl (by kernel_rfl) (by kernel_rfl) (by kernel_rfl) (fun _ _ _ h => h) (Or.inl ⟨by rfl, fun w' hS => (by have z0 := M0 _ hS; have z1 := M1 _ hS; go_simp)⟩) kk6 ?_
        try simp only [Go.Act.put, List.setIfInBounds_toArray, List.set_cons_zero, List.set_cons_succ]
        refine wpH_take (i := 38) (v := (.pointer (some ⟨XB, 2, none⟩))) (some 104) rfl rfl (by kernel_rfl) (by kernel_rfl) (by kernel_rfl) (fun _ _ _ h => h) (Or.inl ⟨by rfl, fun w' hS => (by go_simp)⟩) kk6 ?_
        try simp only [Go.Act.put, List.setIfInBounds_toArray, List.set_cons_zero, List.set_cons_succ]
        refine wpH_take (i := 39) (v := (.int .i64 ac.st.tk)) (some 105) rfl rfl (by kernel_rfl) (by kernel_rfl) (by kernel_rfl) (fun _ _ _ h => h) (Or.inl ⟨by rfl, fun w' hS => (by have z0 := X2 _ hS; go_simp)⟩) kk6 ?_
        try simp only [Go.Act.put, List.setIfInBounds_toArray, List.set_cons_zero, List.set_cons_succ]
        refine wpH_call (i := 36) (o := { dst := some 102, op := Op.call { callee := Callee.value (Operand.func 14), args := #[Operand.tmp 99, Operand.tmp 101], argTypes := #[24, 3] }, type := 4, pos := _, after := #[{ on := 33, ground := Ground.data }, { on := 35, ground := Ground.data }, { on := 32, ground := Ground.chain }, { on := 32, ground := Ground.guard }], guard := some (32, false) }) (by kernel_rfl) rfl (fun K' hK => ?_)
        rw [if_pos (by rfl)]
        go_simp
        refine (HCa.out _ kk6).mono ?_
        rintro e' Y7 ⟨rfl, tt7⟩
        have kk7 := kk6.trans' tt7
        refine hK.out _ _ kk7 ?_
        clear hK
        try simp only [Go.Act.put, List.setIfInBounds_toArray, List.set_cons_zero, List.set_cons_succ]
        refine wpH_call (i := 40) (o := { dst := some 106, op := Op.call { callee := Callee.value (Operand.func 15), args := #[Operand.tmp 103, Operand.tmp 105], argTypes := #[29, 3] }, type := 4, pos := _, after := #[{ on := 37, ground := Ground.data }, { on := 39, ground := Ground.data }, { on := 36, ground := Ground.chain }, { on := 32, ground := Ground.guard }], guard := some (32, false) }) (by kernel_rfl) rfl (fun K' hK => ?_)
        rw [if_pos (by rfl)]
        go_simp
        refine (HRc.out _ kk7).mono ?_
        rintro e' Y8 ⟨rfl, tt8⟩
        have kk8 := kk7.trans' tt8
        refine hK.out _ _ kk8 ?_
        clear hK
        try simp only [Go.Act.put, List.setIfInBounds_toArray, List.set_cons_zero, List.set_cons_succ]
        refine wpH_take (i := 41) (v := (.bool false)) (some 107) rfl rfl (by kernel_rfl) (by kernel_rfl) (by kernel_rfl) (fun _ _ _ h => h) (Or.inl ⟨by rfl, fun w' hS => (by go_simp)⟩) kk8 ?_
        try simp only [Go.Act.put, List.setIfInBounds_toArray, List.set_cons_zero, List.set_cons_succ]
        refine wpH_take (i := 42) (v := (.bool false)) (some 108) rfl rfl (by kernel_rfl) (by kernel_rfl) (by kernel_rfl) (fun _ _ _ h => h) (Or.inl ⟨by rfl, fun w' hS => (by go_simp)⟩) kk8 ?_
        try simp only [Go.Act.put, List.setIfInBounds_toArray, List.set_cons_zero, List.set_cons_succ]
        refine wpAnyH_done (by kernel_rfl) ?_ _
        have HE : Hid (LsX w M s2 so (m + 1) Y8) := hid ⟨F, Fo, L, G, _, _, hpc.out.keep kk8⟩
        clear M0 M1 X0 X1 X2 P0 P1 P2 Q0 Q1 Q2 HOf HBy HCa HRc hS0 hpc
        go_wp2_with fail
        go_roundw
        case rel => exact ⟨s2, m + 1, rfl, by go_num, by have := HNn.out; omega, HE⟩
        case measure => simp [intOf]; have := HNn.out; omega
    · have zk : ¬ (m : Int) < (A : Int) := by omega
      obtain ⟨F, Fo, L, G, u, v, hp⟩ := HR.out
      clear HR
      obtain ⟨a, c, a', c', rfl, rfl⟩ := hp.dd.fm
      have hp' := hid hp
      have hNm : m ≤ 4500000000000 := by have := HLe.out; omega
      have HLn : Hid (∀ w', Touch [] wr w' → Calls Try.prog 16 #[PT s2] w' fun e w2 => e = .returned (.int .i64 (L.length : Nat)) ∧ Touch [] w' w2) := hid (fun w' t => lenQ (hp'.out.keep t).sq)
      have HLo : Hid (∀ w', Touch [] wr w' → Calls Try.prog 16 #[PT so] w' fun e w2 => e = .returned (.int .i64 0) ∧ Touch [] w' w2) := hid (fun w' t => lenQ (hp'.out.keep t).so)
      have HAl : Hid (∀ w', Touch [] wr w' → Calls Try.prog 18 #[PT s2] w' fun e w2 => ∃ a1 k1 c1, e = .returned (.slice a1 k1 c1) ∧ Touch [] w' w2 ∧ ∀ w3, Touch [] w2 w3 → Calls Try.prog 17 #[.slice a1 k1 c1, .slice a L.length c] w3 fun e w4 => e = .returned (.bool true) ∧ Touch [] w3 w4) := hid (fun w' t => all_same (hp'.out.keep t) hNm)
      have HEm := hid (fun w' (t : Touch [] wr w') => HEMP.out M s2 so m F Fo L G _ _ w' (hp'.out.keep t) hNm)
      have M0 : ∀ w', Touch [] wr w' → w'.cell? ⟨M, 0, none⟩ = some (.slice a L.length c) := fun w' t => cell_at ((hp'.out.keep t).hm) rfl
      have M1 : ∀ w', Touch [] wr w' → w'.cell? ⟨M, 1, none⟩ = some (.slice a' G.length c') := fun w' t => cell_at ((hp'.out.keep t).hm) rfl
      have HTT := hid hp.t
      generalize L.length = ln at *
      generalize G.length = gn at *
      unfold PT at HLn HLo HAl HEm
      clear hp hp' hNm hlt hm HEMP
      go_upto_region 17 with fail
      refine wp_region_H (S := fun w' => Touch [] wr w') (by kernel_rfl) ?_
      have hS0 : Touch [] wr wr.drew := (Touch.refl _ _).drew
      refine wpH_take (i := 0) (v := (.pointer (some ⟨s2, 0, none⟩))) (some 109) rfl rfl (by kernel_rfl) (by kernel_rfl) (by kernel_rfl) (fun _ _ _ h => h) (Or.inl ⟨by rfl, fun w' hS => (by go_simp)⟩) hS0 ?_
      try simp only [Go.Act.put, List.setIfInBounds_toArray, List.set_cons_zero, List.set_cons_succ]
      refine wpH_take (i := 2) (v := (.pointer (some ⟨M, 0, none⟩))) (some 111) rfl rfl (by kernel_rfl) (by kernel_rfl) (by kernel_rfl) (fun _ _ _ h => h) (Or.inl ⟨by rfl, fun w' hS => (by go_simp)⟩) hS0 ?_
      try simp only [Go.Act.put, List.setIfInBounds_toArray, List.set_cons_zero, List.set_cons_succ]
      refine wpH_take (i := 3) (v := (.slice a ln c)) (some 112) rfl rfl (by kernel_rfl) (by kernel_rfl) (by kernel_rfl) (fun _ _ _ h => h) (Or.inl ⟨by rfl, fun w' hS => (by have z0 := M0 _ hS; go_simp)⟩) hS0 ?_
      try simp only [Go.Act.put, List.setIfInBounds_toArray, List.set_cons_zero, List.set_cons_succ]
      refine wpH_take (i := 4) (v := (.int .i64 (ln : Int))) (some 113) rfl rfl (by kernel_rfl) (by kernel_rfl) (by kernel_rfl) (fun _ _ _ h => h) (Or.inl ⟨by rfl, fun w' hS => (by go_simp)⟩) hS0 ?_
      try simp only [Go.Act.put, List.setIfInBounds_toArray, List.set_cons_zero, List.set_cons_succ]
      refine wpH_call (i := 1) (o := { dst := some 110, op := Op.call { callee := Callee.value (Operand.func 16), args := #[Operand.tmp 109], argTypes := #[24] }, type := 3, pos := _, after := #[{ on := 0, ground := Ground.data }], guard := none }) (by kernel_rfl) rfl (fun K' hK => ?_)
      rw [if_pos (by rfl)]
      go_simp
      refine (HLn.out _ hS0).mono ?_
      rintro e' Y1 ⟨rfl, tt1⟩
      have kk1 := hS0.trans' tt1
      refine hK.out _ _ kk1 ?_
      clear hK
      try simp only [Go.Act.put, List.setIfInBounds_toArray, List.set_cons_zero, List.set_cons_succ]
      refine wpH_take (i := 5) (v := (.bool true)) (some 114) rfl rfl (by kernel_rfl) (by kernel_rfl) (by kernel_rfl) (fun _ _ _ h => h) (Or.inl ⟨by rfl, fun w' hS => (by go_simp)⟩) kk1 ?_
      try simp only [Go.Act.put, List.setIfInBounds_toArray, List.set_cons_zero, List.set_cons_succ]
      refine wpH_take (i := 6) (v := (.bool true)) (some 115) rfl rfl (by kernel_rfl) (by kernel_rfl) (by kernel_rfl) (fun _ _ _ h => h) (Or.inl ⟨by rfl, fun w' hS => (by go_simp)⟩) kk1 ?_
      try simp only [Go.Act.put, List.setIfInBounds_toArray, List.set_cons_zero, List.set_cons_succ]
      refine wpH_take (i := 7) (v := (.pointer (some ⟨s2, 0, none⟩))) (some 116) rfl rfl (by kernel_rfl) (by kernel_rfl) (by kernel_rfl) (fun _ _ _ h => h) (Or.inl ⟨by rfl, fun w' hS => (by go_simp)⟩) kk1 ?_
      try simp only [Go.Act.put, List.setIfInBounds_toArray, List.set_cons_zero, List.set_cons_succ]
      refine wpH_take (i := 9) (v := (.pointer (some ⟨M, 0, none⟩))) (some 118) rfl rfl (by kernel_rfl) (by kernel_rfl) (by kernel_rfl) (fun _ _ _ h => h) (Or.inl ⟨by rfl, fun w' hS => (by go_simp)⟩) kk1 ?_
      try simp only [Go.Act.put, List.setIfInBounds_toArray, List.set_cons_zero, List.set_cons_succ]
      refine wpH_take (i := 10) (v := (.slice a ln c)) (some 119) rfl rfl (by kernel_rfl) (by kernel_rfl) (by kernel_rfl) (fun _ _ _ h => h) (Or.inl ⟨by rfl, fun w' hS => (by have z0 := M0 _ hS; go_simp)⟩) kk1 ?_
      try simp only [Go.Act.put, List.setIfInBounds_toArray, List.set_cons_zero, List.set_cons_succ]
      refine wpH_call (i := 8) (o := { dst := some 117, op := Op.call { callee := Callee.value (Operand.func 18), args := #[Operand.tmp 116], argTypes := #[24] }, type := 47, pos := _, after := #[{ on := 7, ground := Ground.data }, { on := 6, ground := Ground.chain }, { on := 6, ground := Ground.guard }], guard := some (6, true) }) (by kernel_rfl) rfl (fun K' hK => ?_)
      rw [if_pos (by rfl)]
      go_simp
      refine (HAl.out _ kk1).mono ?_
      rintro e' Y2 ⟨o1, o2, o3, rfl, tt2, hA1⟩
      have kk2 := kk1.trans' tt2
      have HA1 := hid hA1
      clear hA1
      refine hK.out _ _ kk2 ?_
      clear hK
      try simp only [Go.Act.put, List.setIfInBounds_toArray, List.set_cons_zero, List.set_cons_succ]
      refine wpH_call (i := 11) (o := { dst := some 120, op := Op.call { callee := Callee.value (Operand.func 17), args := #[Operand.tmp 117, Operand.tmp 119], argTypes := #[47, 27] }, type := 4, pos := _, after := #[{ on := 8, ground := Ground.data }, { on := 10, ground := Ground.data }, { on := 8, ground := Ground.chain }, { on := 6, ground := Ground.guard }], guard := some (6, true) }) (by kernel_rfl) rfl (fun K' hK => ?_)
      rw [if_pos (by rfl)]
      go_simp
      refine (HA1.out _ (Touch.refl _ _)).mono ?_
      rintro e' Y3 ⟨rfl, tt3⟩
      have kk3 := kk2.trans' tt3
      refine hK.out _ _ kk3 ?_
      clear hK
      try simp only [Go.Act.put, List.setIfInBounds_toArray, List.set_cons_zero, List.set_cons_succ]
      refine wpH_take (i := 12) (v := (.bool true)) (some 121) rfl rfl (by kernel_rfl) (by kernel_rfl) (by kernel_rfl) (fun _ _ _ h => h) (Or.inl ⟨by rfl, fun w' hS => (by go_simp)⟩) kk3 ?_
      try simp only [Go.Act.put, List.setIfInBounds_toArray, List.set_cons_zero, List.set_cons_succ]
      refine wpH_take (i := 13) (v := (.bool true)) (some 122) rfl rfl (by kernel_rfl) (by kernel_rfl) (by kernel_rfl) (fun _ _ _ h => h) (Or.inl ⟨by rfl, fun w' hS => (by go_simp)⟩) kk3 ?_
      try simp only [Go.Act.put, List.setIfInBounds_toArray, List.set_cons_zero, List.set_cons_succ]
      refine wpH_take (i := 14) (v := (.pointer (some ⟨s2, 0, none⟩))) (some 123) rfl rfl (by kernel_rfl) (by kernel_rfl) (by kernel_rfl) (fun _ _ _ h => h) (Or.inl ⟨by rfl, fun w' hS => (by go_simp)⟩) kk3 ?_
      try simp only [Go.Act.put, List.setIfInBounds_toArray, List.set_cons_zero, List.set_cons_succ]
      refine wpH_take (i := 15) (v := (.slice ra rn rc)) (some 124) rfl rfl (by kernel_rfl) (by kernel_rfl) (by kernel_rfl) (fun _ _ _ h => h) (Or.inl ⟨by rfl, fun w' hS => (by go_simp)⟩) kk3 ?_
      try simp only [Go.Act.put, List.setIfInBounds_toArray, List.set_cons_zero, List.set_cons_succ]
      refine wpH_take (i := 17) (v := (.agg #[.slice a ln c, .slice a' gn c'])) (some 126) rfl rfl (by kernel_rfl) (by kernel_rfl) (by kernel_rfl) (fun _ _ _ h => h) (Or.inl ⟨by rfl, fun w' hS => (by have z0 := M0 _ hS; have z1 := M1 _ hS; go_simp)⟩) kk3 ?_
      try simp only [Go.Act.put, List.setIfInBounds_toArray, List.set_cons_zero, List.set_cons_succ]
      refine wpH_take (i := 18) (v := (.slice ra rn rc)) (some 127) rfl rfl (by kernel_rfl) (by kernel_rfl) (by kernel_rfl) (fun _ _ _ h => h) (Or.inl ⟨by rfl, fun w' hS => (by go_simp)⟩) kk3 ?_
      try simp only [Go.Act.put, List.setIfInBounds_toArray, List.set_cons_zero, List.set_cons_succ]
      refine wpH_call (i := 16) (o := { dst := some 125, op := Op.call { callee := Callee.value (Operand.func 19), args := #[Operand.tmp 123, Operand.tmp 124], argTypes := #[24, 23] }, type := 23, pos := _, after := #[{ on := 14, ground := Ground.data }, { on := 15, ground := Ground.data }, { on := 13, ground := Ground.chain }, { on := 13, ground := Ground.guard }], guard := some (13, true) }) (by kernel_rfl) rfl (fun K' hK => ?_)
      rw [if_pos (by rfl)]
      go_simp
      refine (HEm.out _ kk3).mono ?_
      rintro e' Y4 ⟨b1, b2, b3, rfl, tt4, hE1⟩
      have kk4 := kk3.trans' tt4
      have HE1 := hid hE1
      clear hE1
      refine hK.out _ _ kk4 ?_
      clear hK
      try simp only [Go.Act.put, List.setIfInBounds_toArray, List.set_cons_zero, List.set_cons_succ]
      refine wpH_call (i := 19) (o := { dst := some 128, op := Op.call { callee := Callee.value (Operand.func 20), args := #[Operand.tmp 126, Operand.tmp 127], argTypes := #[29, 23] }, type := 23, pos := _, after := #[{ on := 17, ground := Ground.data }, { on := 18, ground := Ground.data }, { on := 16, ground := Ground.chain }, { on := 13, ground := Ground.guard }], guard := some (13, true) }) (by kernel_rfl) rfl (fun K' hK => ?_)
      rw [if_pos (by rfl)]
      go_simp
      refine (HE1.out _ (Touch.refl _ _)).mono ?_
      rintro e' Y5 ⟨b4, b5, b6, rfl, tt5, hE2⟩
      have kk5 := kk4.trans' tt5
      have HE2 := hid hE2
      clear hE2
      refine hK.out _ _ kk5 ?_
      clear hK
      try simp only [Go.Act.put, List.setIfInBounds_toArray, List.set_cons_zero, List.set_cons_succ]
      refine wpH_call (i := 20) (o := { dst := some 129, op := Op.call { callee := Callee.value (Operand.func 10), args := #[Operand.tmp 125, Operand.tmp 128], argTypes := #[23, 23] }, type := 4, pos := _, after := #[{ on := 16, ground := Ground.data }, { on := 19, ground := Ground.data }, { on := 19, ground := Ground.chain }, { on := 13, ground := Ground.guard }], guard := some (13, true) }) (by kernel_rfl) rfl (fun K' hK => ?_)
      rw [if_pos (by rfl)]
      go_simp
      refine (HE2.out _ (Touch.refl _ _)).mono ?_
      rintro e' Y6 ⟨rfl, tt6⟩
      have kk6 := kk5.trans' tt6
      refine hK.out _ _ kk6 ?_
      clear hK
      try simp only [Go.Act.put, List.setIfInBounds_toArray, List.set_cons_zero, List.set_cons_succ]
      refine wpH_take (i := 21) (v := (.bool true)) (some 130) rfl rfl (by kernel_rfl) (by kernel_rfl) (by kernel_rfl) (fun _ _ _ h => h) (Or.inl ⟨by rfl, fun w' hS => (by go_simp)⟩) kk6 ?_
      try simp only [Go.Act.put, List.setIfInBounds_toArray, List.set_cons_zero, List.set_cons_succ]
      refine wpH_take (i := 22) (v := (.bool true)) (some 131) rfl rfl (by kernel_rfl) (by kernel_rfl) (by kernel_rfl) (fun _ _ _ h => h) (Or.inl ⟨by rfl, fun w' hS => (by go_simp)⟩) kk6 ?_
      try simp only [Go.Act.put, List.setIfInBounds_toArray, List.set_cons_zero, List.set_cons_succ]
      refine wpH_take (i := 23) (v := (.pointer (some ⟨so, 0, none⟩))) (some 132) rfl rfl (by kernel_rfl) (by kernel_rfl) (by kernel_rfl) (fun _ _ _ h => h) (Or.inl ⟨by rfl, fun w' hS => (by go_simp)⟩) kk6 ?_
      try simp only [Go.Act.put, List.setIfInBounds_toArray, List.set_cons_zero, List.set_cons_succ]
      refine wpH_call (i := 24) (o := { dst := some 133, op := Op.call { callee := Callee.value (Operand.func 16), args := #[Operand.tmp 132], argTypes := #[24] }, type := 3, pos := _, after := #[{ on := 23, ground := Ground.data }, { on := 22, ground := Ground.chain }, { on := 22, ground := Ground.guard }], guard := some (22, true) }) (by kernel_rfl) rfl (fun K' hK => ?_)
      rw [if_pos (by rfl)]
      go_simp
      refine (HLo.out _ kk6).mono ?_
      rintro e' Y7 ⟨rfl, tt7⟩
      have kk7 := kk6.trans' tt7
      refine hK.out _ _ kk7 ?_
      clear hK
      try simp only [Go.Act.put, List.setIfInBounds_toArray, List.set_cons_zero, List.set_cons_succ]
      refine wpH_take (i := 25) (v := (.bool true)) (some 134) rfl rfl (by kernel_rfl) (by kernel_rfl) (by kernel_rfl) (fun _ _ _ h => h) (Or.inl ⟨by rfl, fun w' hS => (by go_simp)⟩) kk7 ?_
      try simp only [Go.Act.put, List.setIfInBounds_toArray, List.set_cons_zero, List.set_cons_succ]
      refine wpH_take (i := 26) (v := (.bool true)) (some 135) rfl rfl (by kernel_rfl) (by kernel_rfl) (by kernel_rfl) (fun _ _ _ h => h) (Or.inl ⟨by rfl, fun w' hS => (by go_simp)⟩) kk7 ?_
      try simp only [Go.Act.put, List.setIfInBounds_toArray, List.set_cons_zero, List.set_cons_succ]
      refine wpH_take (i := 27) (v := (.bool true)) (some 4) rfl rfl (by kernel_rfl) (by kernel_rfl) (by kernel_rfl) (fun _ _ _ h => h) (Or.inl ⟨by rfl, fun w' hS => (by go_simp)⟩) kk7 ?_
      try simp only [Go.Act.put, List.setIfInBounds_toArray, List.set_cons_zero, List.set_cons_succ]
      refine wpAnyH_done (by kernel_rfl) ?_ _
      go_wp2_with fail
      go_ret
      exact ⟨rfl, HTT.out.trans' kk7⟩
end Go.Proofs.Ytlmmljmhfghlnaa
