/- The law SketchMerges' walk, whole; no conditions. -/
import Derived.Test.YtbadlkjffelkhaaXmf
namespace Go.Proofs.Ytbadlkjffelkhaa.Sk
open Go.RowKit Go.Maps Go.ChangeMaps
set_option maxRecDepth 100000
set_option linter.unusedVariables false
set_option linter.unusedSimpArgs false
/-- The keys of acts. -/
def aks (xs : List ActX) : List K := xs.map fun x => x.k.key
set_option maxHeartbeats 16000000 in
theorem merges_late (w : World) (r1 b1 r2 b2 : Int) (xs os : List ActX) (a1 a2 : Option Addr) (c1 c2 : Nat) (hA : AcS w a1 xs) (hO : AcS w a2 os) (l1 : xs.length ≤ 4398046510976) (l2 : os.length ≤ 4398046510976) (m1 : mayZ r1 b1 = true) (m2 : mayZ r2 b2 = true) : Calls Try.prog 4 #[.agg #[.int .i64 r1, .int .i64 b1, .int .i64 r2, .int .i64 b2], .slice a1 xs.length c1, .slice a2 os.length c2] w fun e w' => e = .returned (.bool true) ∧ Touch [] w w' := by
  obtain ⟨V, hV⟩ : ∃ V, V = w.alloc (.cells #[.int .i64 r1, .int .i64 b1, .int .i64 r2, .int .i64 b2] 35) := ⟨_, rfl⟩
  have TV : Touch [] w V := by rw [hV]; exact (Touch.refl _ _).alloc _
  have HBX : Hid (∀ w1, Touch [] V w1 → w1.cell? ⟨w.heap.size, 2, none⟩ = some (.int .i64 r2) ∧ w1.cell? ⟨w.heap.size, 3, none⟩ = some (.int .i64 b2)) := hid (fun w1 t1 => by
    have hbx : V.heap[w.heap.size]? = some (.cells #[.int .i64 r1, .int .i64 b1, .int .i64 r2, .int .i64 b2] 35 (0, 0)) := by rw [hV]; exact heap_alloc_new w _
    have := t1.keep hbx (by simp)
    exact ⟨cell_at this rfl, cell_at this rfl⟩)
  have hbx : V.heap[w.heap.size]? = some (.cells #[.int .i64 r1, .int .i64 b1, .int .i64 r2, .int .i64 b2] 35 (0, 0)) := by rw [hV]; exact heap_alloc_new w _
  have y0 := cell_at (j := 0) (v := .int .i64 r1) hbx rfl
  have y1 := cell_at (j := 1) (v := .int .i64 b1) hbx rfl
  have HW := hid awake_
  have HT := hid TV
  have HP1 := hid (played_sd (c := c1) r1 b1 m1 (hA.keep TV) (by omega))
  have HP2 := hid (fun w1 (t1 : Touch [] V w1) => played_sd (c := c2) r2 b2 m2 ((hO.keep TV).keep t1) (by omega))
  have HAC := hid (hA.keep TV)
  have HCH : Hid (∀ (w0 : World) (cs : Array Value), (w0.alloc (.cells cs 29)).heap[w0.heap.size]? = some (.cells cs 29 (0, 0))) := hid (fun w0 cs => heap_alloc_new w0 _)
  obtain ⟨n, hn⟩ : ∃ n, n = xs.length := ⟨_, rfl⟩
  have HNN := hid hn
  rw [← hn] at HP1 l1 ⊢
  clear hA hO l2 TV hbx m1 m2 hn
  generalize os.length = no at *
  go_enter Try.func4, Try.ntmps4
  go_upto_region 1 with fail
  rw [← hV]
  clear hV
  go_upto_region 5 with (first
    | (go_at_call_of 8 (#[Value.int .i64 r1, Value.int .i64 b1, Value.slice a1 n c1] : Array Value); refine HP1.out.mono ?_; rintro e w1 ⟨s, X, G, cp, rfl, t1, S1⟩; have T1 := hid (t1.alloc (.cells #[.int .i64 (X.b : Nat), .slice (some ⟨G, 0, none⟩) X.r cp, .int .u64 (X.t : Nat)] 29)); have S1 := hid (S1.keep0 ((Touch.refl [] w1).alloc (.cells #[.int .i64 (X.b : Nat), .slice (some ⟨G, 0, none⟩) X.r cp, .int .u64 (X.t : Nat)] 29))); have B1 := hid (HCH.out w1 #[.int .i64 (X.b : Nat), .slice (some ⟨G, 0, none⟩) X.r cp, .int .u64 (X.t : Nat)]); obtain ⟨y2, y3⟩ := HBX.out _ T1.out; clear t1 HP1)
    | (go_at_call 8; refine (HP2.out _ T1.out).mono ?_; rintro e w2 ⟨s2, Y, G2, cp2, rfl, t2, S2⟩; have T2 := hid (t2.alloc (.cells #[.int .i64 (Y.b : Nat), .slice (some ⟨G2, 0, none⟩) Y.r cp2, .int .u64 (Y.t : Nat)] 29)); have S2 := hid (S2.keep0 ((Touch.refl [] w2).alloc (.cells #[.int .i64 (Y.b : Nat), .slice (some ⟨G2, 0, none⟩) Y.r cp2, .int .u64 (Y.t : Nat)] 29))); have B2 := hid (HCH.out w2 #[.int .i64 (Y.b : Nat), .slice (some ⟨G2, 0, none⟩) Y.r cp2, .int .u64 (Y.t : Nat)]); clear t2 HP2)
    | (go_at_call 9; refine (HW.out _).mono ?_; rintro e w3 ⟨rfl, t3⟩; have T3 := hid t3; clear t3))
  clear HBX y0 y1 y2 y3 HW HCH
  obtain ⟨mb, hmb⟩ : ∃ mb, mb = w1.heap.size := ⟨_, rfl⟩
  obtain ⟨kb, hkb⟩ : ∃ kb, kb = w2.heap.size := ⟨_, rfl⟩
  have HTT : Hid (Touch [] w w3) := hid (((HT.out.trans' T1.out).trans' T2.out).trans' T3.out)
  have HAC2 := hid (HAC.out.keep ((T1.out.trans' T2.out).trans' T3.out))
  have SA := hid (S1.out.keep0 (T2.out.trans' T3.out))
  have SB := hid (S2.out.keep0 T3.out)
  have BA := hid ((T2.out.trans' T3.out).keep B1.out (by simp))
  have BB := hid (T3.out.keep B2.out (by simp))
  rw [← hmb] at BA ⊢
  rw [← hkb] at BB ⊢
  have BA1 : Hid (∀ w', Touch [] w3 w' → w'.cell? ⟨mb, 0, none⟩ = some (.int .i64 (X.b : Nat)) ∧ w'.cell? ⟨mb, 1, none⟩ = some (.slice (some ⟨G, 0, none⟩) X.r cp) ∧ w'.cell? ⟨mb, 2, none⟩ = some (.int .u64 (X.t : Nat))) := hid (fun w' t => by
    have := t.keep BA.out (by simp)
    exact ⟨cell_at this rfl, cell_at this rfl, cell_at this rfl⟩)
  have BB1 : Hid (∀ w', Touch [] w3 w' → w'.cell? ⟨kb, 0, none⟩ = some (.int .i64 (Y.b : Nat)) ∧ w'.cell? ⟨kb, 1, none⟩ = some (.slice (some ⟨G2, 0, none⟩) Y.r cp2) ∧ w'.cell? ⟨kb, 2, none⟩ = some (.int .u64 (Y.t : Nat))) := hid (fun w' t => by
    have := t.keep BB.out (by simp)
    exact ⟨cell_at this rfl, cell_at this rfl, cell_at this rfl⟩)
  have HKL : Hid ((aks xs).length = n) := hid (by rw [HNN.out]; simp [aks])
  have HKX : Hid (∀ w' i, Touch [] w3 w' → i < n → ∃ k b off, (aks xs).take (i + 1) = (aks xs).take i ++ [k] ∧ a1 = some ⟨b, off, none⟩ ∧ w'.cell? ⟨b, off + i * 3 + 1, none⟩ = some (.int .u16 k.1) ∧ w'.cell? ⟨b, off + i * 3 + 2, none⟩ = some (.string k.2)) := hid (fun w' i t hi => by
    have hi' : i < xs.length := by have := HNN.out; omega
    have hi2 : i < (aks xs).length := by rw [HKL.out]; exact hi
    obtain ⟨_, b, off, e, h1, h2, h3⟩ := HAC2.out w' t i hi'
    refine ⟨(aks xs)[i], b, off, List.take_succ_eq_append_getElem hi2, e, ?_, ?_⟩
    · simp only [aks, List.getElem_map]; exact h2
    · simp only [aks, List.getElem_map]; exact h3)
  have HKO : Hid (∀ k ∈ aks xs, Ok k) := hid (fun k hk => by
    simp only [aks, List.mem_map] at hk
    obtain ⟨x, hx, rfl⟩ := hk
    obtain ⟨i, hi, rfl⟩ := List.mem_iff_getElem.1 hx
    exact KyA.okk (HAC2.out w3 (Touch.refl _ _) i hi).1.2)
  have HSA : Hid (∀ w' a ks c m, Touch [] w3 w' → KyS w' a ks → ks.length ≤ 9000000000000 → m = ks.length → Calls Try.prog 10 #[PT s, dv (.slice (some ⟨G, 0, none⟩) X.r cp) X, .slice a m c] w' fun e w2 => e = .returned (.bool true) ∧ Touch [] w' w2) := hid (fun w' a ks c m t hs hl hm => (SA.out.keep0 t).says hs hl hm)
  have HSB : Hid (∀ w' a ks c m, Touch [] w3 w' → KyS w' a ks → ks.length ≤ 9000000000000 → m = ks.length → Calls Try.prog 10 #[PT s2, dv (.slice (some ⟨G2, 0, none⟩) Y.r cp2) Y, .slice a m c] w' fun e w2 => e = .returned (.bool true) ∧ Touch [] w' w2) := hid (fun w' a ks c m t hs hl hm => (SB.out.keep0 t).says hs hl hm)
  have HNL : Hid (∀ w', Touch [] w3 w' → Calls Try.prog 11 #[PT s, .pointer none] w' fun e w2 => e = .returned (.tuple #[.pointer none, .int .i64 1]) ∧ Touch [] w' w2) := hid (fun w' t => by
    obtain ⟨g, cap, Q, Cp, k, d⟩ := SA.out.keep0 t
    exact merge_nil2 k)
  clear HAC HAC2 T1 T2 T3 S1 S2 B1 B2 BA BB hmb hkb HT HNN
  by_cases heq : X.r = Y.r ∧ X.b = Y.b
  · obtain ⟨er, eb⟩ := heq
    have HMG : Hid (Calls Try.prog 11 #[PT s, PT s2] w3 fun e w4 => ∃ s3, e = .returned (.tuple #[.pointer (some ⟨s3, 0, none⟩), .int .i64 0]) ∧ Touch [] w3 w4 ∧ Calls Try.prog 12 #[dv (.slice (some ⟨G, 0, none⟩) X.r cp) X, dv (.slice (some ⟨G2, 0, none⟩) Y.r cp2) Y] w4 fun e w5 => ∃ Z G3 cp3, e = .returned (.tuple #[.agg #[.int .i64 ((Z : S).b : Nat), .slice (some ⟨G3, 0, none⟩) Z.r cp3, .int .u64 (Z.t : Nat)], .int .i64 0]) ∧ Touch [] w3 w5 ∧ ∀ wr, Touch [] (w5.alloc (.cells #[.int .i64 (Z.b : Nat), .slice (some ⟨G3, 0, none⟩) Z.r cp3, .int .u64 (Z.t : Nat)] 29)) wr → Aft w3 wr s3 w5.heap.size G3 cp3 Z) := hid (by
      obtain ⟨g, cap, Q, Cp, ka, da⟩ := SA.out
      obtain ⟨g2, cap2, Q2, Cp2, kb', db⟩ := SB.out
      refine (merge_ok ka kb' er eb).mono ?_
      rintro e w4 ⟨v, rfl, s3, g3, cap3, rfl, l3, l4, k4, t4⟩
      refine ⟨s3, rfl, t4, ?_⟩
      refine (rmerge_ok (da.keep0 t4) (db.keep0 t4) ka.wf kb'.wf er eb).mono ?_
      rintro e w5 ⟨v, rfl, G3, cp3, Q3, Cp3, rfl, d5, t5⟩
      refine ⟨mergeS X Y, G3, cp3, rfl, t4.trans' t5, fun wr tr => ?_⟩
      have ta : Touch [] w5 wr := ((Touch.refl [] w5).alloc _).trans' tr
      refine aft_ ((t4.trans' t5).trans' ta) ((k4.keep0 t5).keep0 ta) ((d5.base (Nat.zero_le _)).keep0 ta) l3 l4 (tr.keep (heap_alloc_new w5 _) (by simp)) ?_
      exact (t4.trans' t5).size)
    clear er eb SA SB
    unfold Aft at HMG
    unfold kv dv PT kA at *
    go_wp2_with (first
      | (go_at_call_of 11 (#[Value.pointer (some ⟨s, 0, none⟩), Value.pointer (some ⟨s2, 0, none⟩)] : Array Value); refine HMG.out.mono ?_; rintro e w4 ⟨s3, rfl, t4, h4⟩; obtain ⟨u0, u1, u2⟩ := BA1.out _ t4; obtain ⟨x0, x1, x2⟩ := BB1.out _ t4; have H4 := hid h4; clear h4 t4 HMG)
      | (go_at_call 12; refine H4.out.mono ?_; rintro e w5 ⟨Z, G3, cp3, rfl, t5, h5⟩; have H5 := hid h5; have T5 := hid (t5.alloc (.cells #[.int .i64 (Z.b : Nat), .slice (some ⟨G3, 0, none⟩) Z.r cp3, .int .u64 (Z.t : Nat)] 29)); clear h5 t5 H4)
      | (go_at_call 11; refine (HNL.out _ T5.out).mono ?_; rintro e w6 ⟨rfl, t6⟩; have T56 := hid t6; have T6 := hid (T5.out.trans' t6); clear t6 HNL))
    obtain ⟨nb, hnb⟩ : ∃ nb, nb = w5.heap.size := ⟨_, rfl⟩
    have HAF := hid (fun wr (t : Touch [] w6 wr) => H5.out wr (T56.out.trans' t))
    rw [← hnb] at HAF ⊢
    clear H5 T56 T5 hnb u0 u1 u2 x0 x1 x2
    go_loopw [19, 20] (fun s19 s20 wr => ∃ (i : Nat) (a : Option Addr) (c : Nat), i ≤ n ∧ s20 = .int .i64 i ∧ s19 = .slice a i c ∧ Touch [] w6 wr ∧ wr.ownsRow w6.heap.size 43 2 (.slice a i c) i (((aks xs).take i).flatMap kc)) (fun _ s20 _ => n - (intOf s20).toNat)
    case atStart => exact ⟨0, _, _, Nat.zero_le _, rfl, rfl, (Touch.refl _ _).alloc _, World.ownsRow_made (e := 43) (size := 2) w6 #[] 0 (Nat.le_refl _) (by unfold maxLen; omega) rfl⟩
    case round =>
      obtain ⟨i, a, c, hi, rfl, rfl, T, O⟩ := hrel
      by_cases hlt : i < n
      · have zi : (i : Int) < (n : Int) := by omega
        obtain ⟨k, bb, off, hk, rfl, g1, g2⟩ := HKX.out wr i (T6.out.trans' T) hlt
        have HK := hid hk
        have HO : Hid (∀ ob, (wr.alloc ob).ownsRow w6.heap.size 43 2 (.slice a i c) i (((aks xs).take i).flatMap kc) ∧ w6.heap.size ≤ (wr.alloc ob).heap.size ∧ Touch [] w6 (wr.alloc ob)) := hid (fun ob => ⟨own_touch O ((Touch.refl [] _).alloc ob) (fun _ _ e => by cases e), (T.alloc ob).size, T.alloc ob⟩)
        clear hk HKX HKO HSA HSB O HAF BA1 BB1
        obtain ⟨L, hL⟩ : ∃ L, L = ((aks xs).take i).flatMap kc := ⟨_, rfl⟩
        rw [← hL] at HO
        have HL := hid hL
        clear hL
        go_wp2_with (at_builtin; refine wpList_append_rs rfl _ _ 24 43 rfl (.agg #[.int .u16 0, .string ⟨#[]⟩]) 2 24 infoK Try.underlying24 rfl (by decide) w6.heap.size (.slice a i c) i L rfl (HO.out _).1 (.slice (some ⟨wr.heap.size, 0, none⟩) 1 1) 1 _ rfl (Rs.new wr #[.int .u16 k.1, .string k.2] 43 2 rfl) (by simp [Value.oneCell']) (by unfold maxLen; omega) (by omega) (HO.out _).2.1 ?_; intro v8 w8 o8 g8 _; obtain ⟨a8, c8, e8, _⟩ := (Rs.of_own o8).form; subst e8; have T8 := hid (touch_grown (HO.out _).2.2 g8 (HO.out _).1 (Nat.le_refl _)); have O8 := hid o8; clear o8 g8)
        refine ⟨⟨i + 1, a8, c8, by omega, rfl, rfl, T8.out, ?_⟩, by simp [intOf]; omega⟩
        rw [HK.out, List.flatMap_append, ← HL.out]
        have := O8.out
        simpa [kc] using this
      · have ei : i = n := by omega
        subst ei
        have zi : ¬ (i : Int) < (i : Int) := by omega
        rw [List.take_of_length_le (by rw [HKL.out]; exact Nat.le_refl _)] at O
        have HA1 := hid (HAF.out wr T)
        have HOO := hid O
        have HTW := hid (T6.out.trans' T)
        clear HAF HKX O T
        go_wp2_with (first
          | (go_at_call 13; refine HA1.out.mono ?_; rintro e w7 ⟨va, vb, rfl, ⟨u0, u1, u2⟩, h7⟩; have H7 := hid h7; clear h7 HA1)
          | (go_at_call 14; refine H7.out.mono ?_; rintro e w8 ⟨Z', G', cp', vc, vd, rfl, ⟨⟨j2a, j2b, j2c, j2, j3, j4⟩, j1⟩, h8⟩; obtain ⟨⟨e0, e1, e2⟩, t9, s9, o9⟩ := h8 _ rfl; have H9 := hid (And.intro t9 (And.intro s9 (o9 _ _ _ _ _ HOO.out))); clear h8 t9 s9 o9 H7)
          | fail)
        obtain ⟨W9, hW9⟩ : ∃ W9, W9 = ((w8.setCell ⟨nb, 0, none⟩ (.int .i64 (Z'.b : Nat))).setCell ⟨nb, 1, none⟩ (.slice (some ⟨G', 0, none⟩) Z'.r cp')).setCell ⟨nb, 2, none⟩ (.int .u64 (Z'.t : Nat)) := ⟨_, rfl⟩
        rw [← hW9] at H9 ⊢
        clear hW9 e0 e1 e2 j1 j2 j3 j4 u0 u1 u2
        have HK9 : Hid (∀ w', Touch [] W9 w' → KyS w' a (aks xs)) := hid (fun w' t => (KyS.of_own H9.out.2.2 HKL.out.symm HKO.out).keep t)
        have HLL : Hid ((aks xs).length ≤ 9000000000000) := hid (by rw [HKL.out]; omega)
        refine (Sd.says (c := c) H9.out.2.1 (HK9.out _ (Touch.refl _ _)) HLL.out HKL.out.symm).mono ?_
        rintro e w10 ⟨rfl, t10⟩
        have T10 := hid (H9.out.1.trans' t10)
        have T11 := hid t10
        obtain ⟨u0, u1, u2⟩ := BA1.out _ T10.out
        clear t10 H9
        go_wp2_with (first
          | (go_at_call_of 10 (#[Value.pointer (some ⟨s, 0, none⟩), Value.agg #[.int .i64 (X.b : Nat), .slice (some ⟨G, 0, none⟩) X.r cp, .int .u64 (X.t : Nat)], Value.slice a i c] : Array Value); refine (HSA.out _ _ _ _ _ T10.out (HK9.out _ T11.out) HLL.out HKL.out.symm).mono ?_; rintro e w11 ⟨rfl, t11⟩; have T12 := hid (T10.out.trans' t11); have T13 := hid (T11.out.trans' t11); obtain ⟨x0, x1, x2⟩ := BB1.out _ T12.out; clear t11)
          | (go_at_call 10; refine (HSB.out _ _ _ _ _ T12.out (HK9.out _ T13.out) HLL.out HKL.out.symm).mono ?_; rintro e w12 ⟨rfl, t12⟩; have T14 := hid (T12.out.trans' t12); clear t12))
        go_ret
        exact ⟨rfl, HTT.out.trans' T14.out⟩
  · have HMG : Hid (Calls Try.prog 11 #[PT s, PT s2] w3 fun e w4 => e = .returned (.tuple #[.pointer none, .int .i64 190]) ∧ Touch [] w3 w4) := hid (by
      obtain ⟨g, cap, Q, Cp, ka, da⟩ := SA.out
      obtain ⟨g2, cap2, Q2, Cp2, kb', db⟩ := SB.out
      exact merge_no ka kb' heq)
    have HRM := hid (fun w => rmerge_no (X := X) (Y := Y) (G := G) (G2 := G2) (cap := cp) (cap2 := cp2) heq w)
    clear heq SA SB
    unfold dv PT at *
    go_wp2_with (first
      | (go_at_call_of 11 (#[Value.pointer (some ⟨s, 0, none⟩), Value.pointer (some ⟨s2, 0, none⟩)] : Array Value); refine HMG.out.mono ?_; rintro e w4 ⟨rfl, t4⟩; obtain ⟨u0, u1, u2⟩ := BA1.out _ t4; obtain ⟨x0, x1, x2⟩ := BB1.out _ t4; have T4 := hid t4; clear t4 HMG)
      | (go_at_call 12; refine (HRM.out _).mono ?_; rintro e w5 ⟨rfl, t5⟩; have T5 := hid ((T4.out.trans' t5).alloc (.cells #[.int .i64 0, .slice none 0 0, .int .u64 0] 29)); clear t5 HRM)
      | (go_at_call 11; refine (HNL.out _ T5.out).mono ?_; rintro e w6 ⟨rfl, t6⟩; have T6 := hid (T5.out.trans' t6); clear t6 HNL))
    clear T5 T4 u0 u1 u2 x0 x1 x2
    go_loopw [19, 20] (fun s19 s20 wr => ∃ (i : Nat) (a : Option Addr) (c : Nat), i ≤ n ∧ s20 = .int .i64 i ∧ s19 = .slice a i c ∧ Touch [] w6 wr ∧ wr.ownsRow w6.heap.size 43 2 (.slice a i c) i (((aks xs).take i).flatMap kc)) (fun _ s20 _ => n - (intOf s20).toNat)
    case atStart => exact ⟨0, _, _, Nat.zero_le _, rfl, rfl, (Touch.refl _ _).alloc _, World.ownsRow_made (e := 43) (size := 2) w6 #[] 0 (Nat.le_refl _) (by unfold maxLen; omega) rfl⟩
    case round =>
      obtain ⟨i, a, c, hi, rfl, rfl, T, O⟩ := hrel
      by_cases hlt : i < n
      · have zi : (i : Int) < (n : Int) := by omega
        obtain ⟨k, bb, off, hk, rfl, g1, g2⟩ := HKX.out wr i (T6.out.trans' T) hlt
        have HK := hid hk
        have HO : Hid (∀ ob, (wr.alloc ob).ownsRow w6.heap.size 43 2 (.slice a i c) i (((aks xs).take i).flatMap kc) ∧ w6.heap.size ≤ (wr.alloc ob).heap.size ∧ Touch [] w6 (wr.alloc ob)) := hid (fun ob => ⟨own_touch O ((Touch.refl [] _).alloc ob) (fun _ _ e => by cases e), (T.alloc ob).size, T.alloc ob⟩)
        clear hk HKX HKO HSA HSB O BA1 BB1
        obtain ⟨L, hL⟩ : ∃ L, L = ((aks xs).take i).flatMap kc := ⟨_, rfl⟩
        rw [← hL] at HO
        have HL := hid hL
        clear hL
        go_wp2_with (at_builtin; refine wpList_append_rs rfl _ _ 24 43 rfl (.agg #[.int .u16 0, .string ⟨#[]⟩]) 2 24 infoK Try.underlying24 rfl (by decide) w6.heap.size (.slice a i c) i L rfl (HO.out _).1 (.slice (some ⟨wr.heap.size, 0, none⟩) 1 1) 1 _ rfl (Rs.new wr #[.int .u16 k.1, .string k.2] 43 2 rfl) (by simp [Value.oneCell']) (by unfold maxLen; omega) (by omega) (HO.out _).2.1 ?_; intro v8 w8 o8 g8 _; obtain ⟨a8, c8, e8, _⟩ := (Rs.of_own o8).form; subst e8; have T8 := hid (touch_grown (HO.out _).2.2 g8 (HO.out _).1 (Nat.le_refl _)); have O8 := hid o8; clear o8 g8)
        refine ⟨⟨i + 1, a8, c8, by omega, rfl, rfl, T8.out, ?_⟩, by simp [intOf]; omega⟩
        rw [HK.out, List.flatMap_append, ← HL.out]
        have := O8.out
        simpa [kc] using this
      · have ei : i = n := by omega
        subst ei
        have zi : ¬ (i : Int) < (i : Int) := by omega
        rw [List.take_of_length_le (by rw [HKL.out]; exact Nat.le_refl _)] at O
        have HLL : Hid ((aks xs).length ≤ 9000000000000) := hid (by rw [HKL.out]; omega)
        have HK9 : Hid (∀ w', Touch [] wr w' → KyS w' a (aks xs)) := hid (fun w' t => (KyS.of_own O HKL.out.symm HKO.out).keep t)
        have T10 := hid (T6.out.trans' T)
        have T11 := hid (Touch.refl [] wr)
        obtain ⟨u0, u1, u2⟩ := BA1.out _ T10.out
        clear HKX O T
        go_wp2_with (first
          | (go_at_call_of 10 (#[Value.pointer (some ⟨s, 0, none⟩), Value.agg #[.int .i64 (X.b : Nat), .slice (some ⟨G, 0, none⟩) X.r cp, .int .u64 (X.t : Nat)], Value.slice a i c] : Array Value); refine (HSA.out _ _ _ _ _ T10.out (HK9.out _ T11.out) HLL.out HKL.out.symm).mono ?_; rintro e w11 ⟨rfl, t11⟩; have T12 := hid (T10.out.trans' t11); have T13 := hid (T11.out.trans' t11); obtain ⟨x0, x1, x2⟩ := BB1.out _ T12.out; clear t11)
          | (go_at_call 10; refine (HSB.out _ _ _ _ _ T12.out (HK9.out _ T13.out) HLL.out HKL.out.symm).mono ?_; rintro e w12 ⟨rfl, t12⟩; have T14 := hid (T12.out.trans' t12); clear t12))
        go_ret
        exact ⟨rfl, HTT.out.trans' T14.out⟩
theorem merges_ (w : World) (r1 b1 r2 b2 : Int) (xs : List ActX) (v1 : Value) (os : List ActX) (v2 : Value) (h1 : W64 r1) (h2 : W64 b1) (h3 : W64 r2) (h4 : W64 b2) (hl : SlActX w v1 xs) (hx : ∀ x ∈ xs, x.ok) (l1 : xs.length ≤ 4398046510976) (ho : SlActX w v2 os) (hy : ∀ x ∈ os, x.ok) (l2 : os.length ≤ 4398046510976) : Calls Try.prog 4 #[.agg #[.int .i64 r1, .int .i64 b1, .int .i64 r2, .int .i64 b2], v1, v2] w fun e w' => e = .returned (.bool true) ∧ Touch [] w w' := by
  obtain ⟨a1, c1, rfl, hA⟩ := AcS.of_sl hl hx
  obtain ⟨a2, c2, rfl, hO⟩ := AcS.of_sl ho hy
  by_cases m1 : mayZ r1 b1 = true
  · by_cases m2 : mayZ r2 b2 = true
    · exact merges_late w r1 b1 r2 b2 xs os a1 a2 c1 c2 hA hO l1 l2 m1 m2
    · exact merges_early w r1 b1 r2 b2 xs os a1 a2 c1 c2 hA hO l1 l2 (Or.inr (by simpa using m2))
  · exact merges_early w r1 b1 r2 b2 xs os a1 a2 c1 c2 hA hO l1 l2 (Or.inl (by simpa using m1))
end Go.Proofs.Ytbadlkjffelkhaa.Sk
