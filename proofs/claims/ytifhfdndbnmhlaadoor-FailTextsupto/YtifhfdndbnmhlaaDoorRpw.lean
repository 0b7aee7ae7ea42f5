/- The contract of the document's Parse: the failure of a text of one that may be, and no other; the condition is that the text is not too long. -/
import Derived.Test.YtifhfdndbnmhlaaDoorNmw
import Derived.Test.YtifhfdndbnmhlaaDoorWsp
import Derived.Test.YtifhfdndbnmhlaaDoorPrs
import Derived.Test.YtifhfdndbnmhlaaDoorRtx
import Derived.Test.YtifhfdndbnmhlaaDoorUnw
namespace Go.Proofs.YtifhfdndbnmhlaaDoor
open Go.RowKit Go.Sort
set_option linter.unusedVariables false
def RetP (s : ByteArray) (e : Ending) : Prop :=
  (∃ k c r : Int, I64 k ∧ I64 c ∧ I64 r ∧ may k c r = true ∧ textB k c r = s ∧ e = .returned (.tuple #[fl k c r, .bool true])) ∨ (NoText s ∧ e = .returned (.tuple #[fl 0 0 0, .bool false]))
theorem may_none {k c r : Int} (hm : may k c r = true) (hn : none3 k c r = false) : 1 ≤ k ∧ k ≤ 5 := by
  unfold may at hm
  unfold none3 at hn
  by_cases h0 : k = 0
  · subst h0
    simp at hm hn
    exact absurd hm.2 (hn hm.1)
  · simp only [h0, if_false] at hm
    repeat' split at hm
    all_goals first | omega | (exact absurd hm (by simp))
theorem noText_words (s : ByteArray) (hs : s ≠ wNone) (I : List ByteArray) (cur : ByteArray) (hW : wsp s.data.toList = (I, cur)) (hI : I.length ≠ 2) : NoText s := fun k c r hk hc hr hm h => by
  cases hn : none3 k c r with
  | true => exact hs (by rw [← h]; unfold textB; rw [hn]; rfl)
  | false =>
    have h1 := wsp_text k c r hn
    rw [h, hW] at h1
    injection h1 with h1 h2
    exact hI (by rw [h1]; rfl)
theorem noText_nums (s : ByteArray) (hs : s ≠ wNone) (x0 x1 cur : ByteArray) (hW : wsp s.data.toList = ([x0, x1], cur)) (n1 n2 : Int) (b1 b2 : Bool) (h1 : NumOf x1 n1 b1) (h2 : NumOf cur n2 b2)
    (hall : b1 = true → b2 = true → ∀ j : Int, 1 ≤ j → j ≤ 5 → ¬ (may j n1 n2 = true ∧ textB j n1 n2 = s)) : NoText s := fun k c r hk hc hr hm h => by
  cases hn : none3 k c r with
  | true => exact hs (by rw [← h]; unfold textB; rw [hn]; rfl)
  | false =>
    have e := wsp_text k c r hn
    rw [h, hW] at e
    injection e with e1 e2
    injection e1 with e0 e1
    injection e1 with e1 _
    have hb1 := h1.2.2 ⟨c, hc, e1.symm⟩
    have hb2 := h2.2.2 ⟨r, hr, e2.symm⟩
    have hn1 : n1 = c := itoa_inj h1.1 hc ((h1.2.1 hb1).trans e1)
    have hn2 : n2 = r := itoa_inj h2.1 hr ((h2.2.1 hb2).trans e2)
    obtain ⟨k1, k5⟩ := may_none hm hn
    exact hall hb1 hb2 k k1 k5 ⟨by rw [hn1, hn2]; exact hm, by rw [hn1, hn2]; exact h⟩
theorem box_at (w : World) : Box (w.alloc (.cells #[.int .i64 0, .int .i64 0, .int .i64 0] 26)) w.heap.size 0 0 0 := ⟨by simp, by simp, by simp, by simp, by simp, by simp⟩
theorem extract_one (s : ByteArray) (p p1 : Nat) (h : p < s.size) (hp : p1 = p + 1) : s.extract p p1 = ⟨#[s[p]]⟩ := by
  subst hp
  apply ByteArray.ext
  apply Array.ext'
  rw [ByteArray.data_extract]
  simp only [Array.toList_extract, List.extract_eq_take_drop]
  rw [show p + 1 - p = 1 by omega, List.drop_eq_getElem_cons (by simpa using h)]
  rfl
set_option maxRecDepth 20000 in
set_option maxHeartbeats 4000000 in
theorem rparse17 (s : ByteArray) (w : World) (hs : s.size ≤ 4194304) : Calls Tryd.prog 17 #[.string s] w fun e w' => RetP s e ∧ Gr w w' := by
  have mixed := mixed
  obtain ⟨i0, hi, hz0', hz1', hz2'⟩ := info_parts info9
  by_cases hsn : s = wNone
  · subst hsn
    go_enter Tryd.func17, Tryd.ntmps17
    go_wp2
    refine bodyPost_ret (v := .tuple #[fl 0 0 0, .bool true]) ?_ rfl ⟨Or.inl ⟨0, 0, 0, by unfold I64; omega, by unfold I64; omega, by unfold I64; omega, rfl, rfl, rfl⟩, ?_⟩
    · simp [results, Tryd.results17, go_sem]
    · first | exact (Gr.refl w).alloc _ | exact ((((Gr.refl w).alloc _).setCell (Nat.le_refl _) _).setCell (Nat.le_refl _) _).setCell (Nat.le_refl _) _
  · have HSN : Hid (s ≠ wNone) := hsn
    clear hsn
    go_enter Tryd.func17, Tryd.ntmps17
    go_wp2
    · rename_i h
      have h := eq_of_beq h
      exact absurd (show s = wNone from ByteArray.ext (Array.toList_inj.1 (by rw [← ByteArray.toList_eq]; exact h))) HSN.out
    have hbq : (s.toList == ([110, 111, 110, 101] : List UInt8)) = false := by assumption
    rw [hbq]
    clear hbq
    have HB0 : Hid (Box (w.alloc (.cells #[.int .i64 0, .int .i64 0, .int .i64 0] 26)) w.heap.size 0 0 0) := box_at w
    go_loopw [4, 5] (fun t i wr => ∃ (p cp n q : Nat) (A : Option Addr) (I : List ByteArray) (cur : ByteArray), t = .slice A n cp ∧ i = .int .i64 p ∧ p ≤ s.size ∧ Hid (I.length = q ∧ n = q + 1) ∧ Hid (wsp (s.data.toList.take p) = (I, cur)) ∧ Hid (wr.ownsRow (w.heap.size + 1) 9 1 (.slice A n cp) n (strs (I ++ [cur]))) ∧ Hid (Below (w.heap.size + 1) (w.alloc (.cells #[.int .i64 0, .int .i64 0, .int .i64 0] 26)) wr)) (fun _ i _ => s.size - (intOf i).toNat)
    case atStart =>
      refine ⟨0, 1, 1, 0, some ⟨w.heap.size + 1, 0, none⟩, [], ⟨#[]⟩, by simp, rfl, Nat.zero_le _, ⟨rfl, rfl⟩, rfl, ?_, ?_⟩
      · show World.ownsRow _ _ _ _ _ _ _
        have h := World.ownsRow_lit (base := w.heap.size + 1) (e := 9) (size := 1) (w.alloc (.cells #[.int .i64 0, .int .i64 0, .int .i64 0] 26)) #[.string ⟨#[]⟩] 1 (by simp) (by unfold maxLen; omega) rfl
        rw [World.size_alloc] at h
        exact h
      · show Below _ _ _
        exact (Below.refl _ _).alloc (by simp) _
    case round =>
      obtain ⟨p, cp, n, q, A, I, cur, rfl, rfl, hp, HQ, HWs, HO, HB⟩ := hrel
      have hwsz : w.heap.size + 1 ≤ wr.heap.size := by have := HB.out.size; simpa using this
      have hql : q ≤ 4194304 := by
        have h1 := (wsp_len (s.data.toList.take p)).1
        rw [HWs.out] at h1
        have h2 := HQ.out.1
        have h3 : (s.data.toList.take p).length ≤ p := List.length_take_le _ _
        simp only at h1
        omega
      have hcl : cur.size ≤ 4194304 := by
        have h1 := (wsp_len (s.data.toList.take p)).2.1
        rw [HWs.out] at h1
        have h3 : (s.data.toList.take p).length ≤ p := List.length_take_le _ _
        simp only at h1
        omega
      obtain ⟨g, rfl⟩ : ∃ g, A = some ⟨g, 0, none⟩ := by
        rcases HO.out.2 with ⟨hv, hn⟩ | ⟨g, cap, cur, hv, _⟩
        · have := HQ.out.2; omega
        · cases hv
          exact ⟨g, rfl⟩
      by_cases hlt : p < s.size
      · have hz : (p : Int) < (s.size : Int) := by omega
        have hz0 : (0 : Int) ≤ (p : Int) := by omega
        obtain ⟨p1, hp1⟩ : ∃ p1 : Nat, p1 = p + 1 := ⟨_, rfl⟩
        have hw1 : IntKind.i64.wrap ((p : Int) + 1) = (p1 : Int) := by rw [IntKind.wrap_i64]; omega
        have HP1 : Hid (p1 = p + 1) := hp1
        have hple : (p : Int) ≤ (p1 : Int) := by omega
        have hp1s : (p1 : Int) ≤ (s.size : Int) := by omega
        clear hp1
        by_cases h32 : (s[p].toNat : Int) = 32
        · have HN : Hid (wsp (s.data.toList.take p1) = (I ++ [cur], ⟨#[]⟩)) := by
            show _ = _
            have hc : s[p] = 32 := UInt8.toNat_inj.1 (by have : (32 : UInt8).toNat = 32 := rfl; omega)
            rw [HP1.out, List.take_succ_eq_append_getElem (by simpa using hlt), show s.data.toList[p]'(by simpa using hlt) = s[p] from rfl, wsp_snoc, HWs.out, hc]
            rfl
          go_wp2_with (at_builtin; refine wpList_append_lies _ rfl _ _ 45 rfl (w.heap.size + 1) 9 i0 (.string ⟨#[]⟩) 1 16 Tryd.underlying45 hi hz0' hz1' hz2' rfl (by decide) _ _ _ rfl (HO.out.alloc _) ⟨wr.heap.size, 0, none⟩ 1 1 [.string ⟨#[]⟩] rfl rfl (cell_one _ _ _) (by simp [Value.oneCell']) (by decide) (by have := HQ.out.2; unfold maxLen; omega) (by have := HQ.out.2; omega) (by simp; omega) _ rfl ?_; intro g1 c1 w3 hown3 hgrow hat hlt3; have B3 : Hid (Below (w.heap.size + 1) (w.alloc (.cells #[.int .i64 0, .int .i64 0, .int .i64 0] 26)) w3) := (HB.out.alloc hwsz _).grown hgrow (by simp; omega) (fun j hj => owns_base HO.out j hj); have O3 : Hid _ := hown3; clear hown3 hgrow hat)
          go_roundw
          case rel =>
            refine ⟨p1, c1, n + 1, q + 1, some ⟨g1, 0, none⟩, I ++ [cur], ⟨#[]⟩, rfl, rfl, by omega, ⟨by rw [List.length_append, HQ.out.1]; rfl, by rw [HQ.out.2]⟩, HN.out, ?_, B3.out⟩
            show World.ownsRow _ _ _ _ _ _ _
            have h := O3.out
            have e : strs (I ++ [cur] ++ [⟨#[]⟩]) = strs (I ++ [cur]) ++ [.string ⟨#[]⟩] := by simp [strs]
            rw [e]
            exact h
          case measure => simp [intOf]; have := HP1.out; omega
        · have HN : Hid (wsp (s.data.toList.take p1) = (I, cur ++ ⟨#[s[p]]⟩)) := by
            show _ = _
            have hc : s[p] ≠ 32 := fun e => h32 (by rw [e]; rfl)
            rw [HP1.out, List.take_succ_eq_append_getElem (by simpa using hlt), show s.data.toList[p]'(by simpa using hlt) = s[p] from rfl, wsp_snoc, HWs.out]
            unfold wst
            rw [if_neg hc]
          have hex : s.extract p p1 = ⟨#[s[p]]⟩ := extract_one s p p1 hlt HP1.out
          have hw2 : IntKind.i64.wrap ((n : Int) - 1) = (q : Int) := by have := HQ.out.2; rw [IntKind.wrap_i64]; omega
          have hw3 : (n : Int) - 1 = (q : Int) := by have := HQ.out.2; omega
          have hqn : (q : Int) < (n : Int) := by have := HQ.out.2; omega
          have hq0 : (0 : Int) ≤ (q : Int) := by omega
          have hqN : q < n := by have := HQ.out.2; omega
          have fc : wr.cell? ⟨g, q, none⟩ = some (.string cur) := by
            have h1 := HO.out.cellAt q (by omega)
            rw [h1]
            have := HQ.out.1
            simp [strs, ← this]
          have fz : wr.frozen? ⟨g, q, none⟩ = false := HO.out.frozenAt q
          have fcd : wr.drew.cell? ⟨g, q, none⟩ = some (.string cur) := fc
          have fzd : wr.drew.frozen? ⟨g, q, none⟩ = false := fz
          have e1 : ∀ w, (Op.stringOp .add cur ⟨#[s[p]]⟩).run Tryd.prog w = .ok (.string (cur ++ ⟨#[s[p]]⟩)) w := fun w => run_string_add_sum w _ _ (by have : (ByteArray.mk #[s[p]]).size = 1 := rfl; omega)
          go_wp2
          go_region
          go_wp2
          go_roundw
          case rel =>
            refine ⟨p1, cp, n, q, some ⟨g, 0, none⟩, I, cur ++ (⟨#[s[p]]⟩ : ByteArray), rfl, rfl, by omega, HQ.out, HN, ?_, ?_⟩
            · show World.ownsRow _ _ _ _ _ _ _
              have h := HO.out.stored q (.string (cur ++ ⟨#[s[p]]⟩))
              have e : strs (I ++ [cur ++ ⟨#[s[p]]⟩]) = (strs (I ++ [cur])).set q (.string (cur ++ ⟨#[s[p]]⟩)) := by
                have := HQ.out.1
                subst this
                simp [strs]
              rw [e]
              exact h.1
            · show Below _ _ _
              have hg := owns_base HO.out g rfl
              exact (HB.out.setCell (p := ⟨g, q, none⟩) hg _).drew
          case measure => simp [intOf]; have := HP1.out; omega
      · have hz : ¬ (p : Int) < (s.size : Int) := by omega
        obtain rfl : p = s.size := by omega
        have HW2 : Hid (wsp s.data.toList = (I, cur)) := by
          show _ = _
          have h := HWs.out
          rw [List.take_of_length_le (by exact Nat.le_refl _)] at h
          exact h
        obtain ⟨r0, r1, r2, z0, z1, z2⟩ : Box wr w.heap.size 0 0 0 := by
          have hB := HB.out
          have hb := HB0.out
          exact ⟨by rw [hB.cell (by simp)]; exact hb.c0, by rw [hB.cell (by simp)]; exact hb.c1, by rw [hB.cell (by simp)]; exact hb.c2, by rw [hB.frozen (by simp)]; exact hb.z0, by rw [hB.frozen (by simp)]; exact hb.z1, by rw [hB.frozen (by simp)]; exact hb.z2⟩
        have HGr : Hid (Gr w wr) := by
          have h1 : Below (w.heap.size + 1) (w.alloc (.cells #[.int .i64 0, .int .i64 0, .int .i64 0] 26)) wr := HB.out
          exact ((Gr.refl w).alloc _).below.trans (h1.mono (Nat.le_succ _))
        by_cases hn3 : n = 3
        · subst hn3
          obtain ⟨x0, x1, hI⟩ : ∃ x0 x1, I = [x0, x1] := by
            have h1 := HQ.out.1
            have h2 := HQ.out.2
            match I, (show I.length = 2 by omega) with
            | [a, b], _ => exact ⟨a, b, rfl⟩
          subst hI
          have f1 : wr.cell? ⟨g, 1, none⟩ = some (.string x1) := by rw [HO.out.cellAt 1 (by omega)]; rfl
          have f2 : wr.cell? ⟨g, 2, none⟩ = some (.string cur) := by rw [HO.out.cellAt 2 (by omega)]; rfl
          have hx1 : x1.size ≤ 4194304 := by
            have h1 := (wsp_len s.data.toList).2.2
            rw [HW2.out] at h1
            have := h1 x1 (by simp)
            have h2 : s.size = s.data.toList.length := rfl
            omega
          have HX1 : Hid (x1.size ≤ 4194304) := hx1
          have HC1 : Hid (cur.size ≤ 4194304) := hcl
          have HB1 : Hid (Box wr w.heap.size 0 0 0) := ⟨r0, r1, r2, z0, z1, z2⟩
          clear hx1 hcl HQ
          go_wp2_with (first
            | (go_at_call_of 33 (Value.string x1); refine (number33 x1 _ HX1.out).mono ?_; rintro e w1 ⟨⟨n1, b1, rfl, hm1⟩, hg1⟩; have HM1 : Hid (NumOf x1 n1 b1) := hm1; have G1 : Hid (Gr wr w1) := hg1; have f2b := hg1.cell' f2; clear hm1 hg1)
            | (go_at_call 33; refine (number33 cur _ HC1.out).mono ?_; rintro e w2 ⟨⟨n2, b2, rfl, hm2⟩, hg2⟩; have HM2 : Hid (NumOf cur n2 b2) := hm2; have G2 : Hid (Gr w w2) := HGr.out.trans (G1.out.trans hg2); have HB2 : Hid (Box w2 w.heap.size 0 0 0) := HB1.out.gr (G1.out.trans hg2); obtain ⟨s0, s1, s2, t0, t1, t2⟩ := HB1.out.gr (G1.out.trans hg2); clear hm2 hg2))
          rcases (show (b1 = true ∧ b2 = true) ∨ (b1 = false) ∨ (b1 = true ∧ b2 = false) by cases b1 <;> cases b2 <;> simp) with ⟨rfl, rfl⟩ | rfl | ⟨rfl, rfl⟩
          · have HI1 : Hid (I64 n1 ∧ I64 n2) := ⟨HM1.out.1, HM2.out.1⟩
            go_loopw [10] (fun i wr => ∃ j : Nat, i = .int .i64 j ∧ 1 ≤ j ∧ j ≤ 6 ∧ Hid (∀ m : Int, 1 ≤ m → m < j → ¬ (may m n1 n2 = true ∧ textB m n1 n2 = s)) ∧ Hid (Gr w2 wr)) (fun i _ => 6 - (intOf i).toNat)
            case atStart => exact ⟨1, rfl, by omega, by omega, fun m h1 h2 => by omega, Gr.refl _⟩
            case round =>
              obtain ⟨j, rfl, hj1, hj6, HALL, GR⟩ := hrel
              obtain ⟨u0, u1, u2, v0, v1, v2⟩ := HB2.out.gr GR.out
              by_cases hj : j ≤ 5
              · have hjz : (j : Int) ≤ 5 := by omega
                obtain ⟨j1, hj1e⟩ : ∃ j1 : Nat, j1 = j + 1 := ⟨_, rfl⟩
                have hwj : IntKind.i64.wrap ((j : Int) + 1) = (j1 : Int) := by rw [IntKind.wrap_i64]; omega
                have HJ1 : Hid (j1 = j + 1) := hj1e
                have HIj : Hid (I64 (j : Int)) := by show I64 _; unfold I64; omega
                clear hj1e
                have HBF : Hid (Box (wr.alloc (.cells #[.int .i64 j, .int .i64 n1, .int .i64 n2] 26)) wr.heap.size j n1 n2) := ⟨by simp, by simp, by simp, by simp, by simp, by simp⟩
                cases hmj : may (j : Int) n1 n2 with
                | false =>
                  have HALL2 : Hid (∀ m : Int, 1 ≤ m → m < j1 → ¬ (may m n1 n2 = true ∧ textB m n1 n2 = s)) := fun m h1 h2 h => by
                    by_cases hm : m < j
                    · exact HALL.out m h1 hm h
                    · obtain rfl : m = j := by have := HJ1.out; omega
                      rw [hmj] at h
                      cases h.1
                  go_wp2_with (go_at_call 7; refine (rmay7 (j : Int) n1 n2 _).mono ?_; rw [hmj]; rintro e w3 ⟨rfl, hg3⟩; have G3 : Hid (Gr w2 w3) := (GR.out.alloc _).trans hg3; clear hg3)
                  go_roundw
                  case rel => exact ⟨j1, rfl, by have := HJ1.out; omega, by have := HJ1.out; omega, HALL2, G3⟩
                  case measure => simp [intOf]; have := HJ1.out; omega
                | true =>
                  have HTX : Hid (∀ w', Calls Tryd.prog 19 #[fl (j : Int) n1 n2] w' fun e w'' => e = .returned (.string (textB (j : Int) n1 n2)) ∧ Gr w' w'') := fun w' => rtext19 (j : Int) n1 n2 HIj.out HI1.out.1 HI1.out.2 w'
                  by_cases htx : textB (j : Int) n1 n2 = s
                  · have HR : Hid (may (j : Int) n1 n2 = true ∧ textB (j : Int) n1 n2 = s) := ⟨hmj, htx⟩
                    rw [htx] at HTX
                    clear htx
                    go_wp2_with (first
                      | (go_at_call 7; refine (rmay7 (j : Int) n1 n2 _).mono ?_; rw [hmj]; rintro e w3 ⟨rfl, hg3⟩; have G3 : Hid (Gr wr w3) := ((Gr.refl wr).alloc _).trans hg3; have B3 : Hid (Box w3 wr.heap.size j n1 n2) := HBF.out.gr hg3; obtain ⟨a0, a1, a2, d0, d1, d2⟩ := HBF.out.gr hg3; clear hg3)
                      | (go_at_call 19; refine (HTX.out _).mono ?_; rintro e w4 ⟨rfl, hg4⟩; have G4 : Hid (Gr wr w4) := G3.out.trans hg4; obtain ⟨c0, c1, c2, e0, e1, e2⟩ := B3.out.gr hg4; obtain ⟨k0, k1, k2, l0, l1, l2⟩ := (HB2.out.gr GR.out).gr (G3.out.trans hg4); clear hg4))
                    refine bodyPost_ret (v := .tuple #[fl (j : Int) n1 n2, .bool true]) ?_ rfl ⟨Or.inl ⟨(j : Int), n1, n2, HIj.out, HI1.out.1, HI1.out.2, HR.out.1, HR.out.2, rfl⟩, ?_⟩
                    · simp [results, Tryd.results17, go_sem, k0, k1, k2]
                    · exact (((G2.out.trans (GR.out.trans G4.out)).setCell (Nat.le_refl _) _).setCell (Nat.le_refl _) _).setCell (Nat.le_refl _) _
                  · have HALL2 : Hid (∀ m : Int, 1 ≤ m → m < j1 → ¬ (may m n1 n2 = true ∧ textB m n1 n2 = s)) := fun m h1 h2 h => by
                      by_cases hm : m < j
                      · exact HALL.out m h1 hm h
                      · obtain rfl : m = j := by have := HJ1.out; omega
                        exact htx h.2
                    have HNE : Hid (textB (j : Int) n1 n2 ≠ s) := htx
                    clear htx
                    generalize textB (j : Int) n1 n2 = tx at *
                    go_wp2_with (first
                      | (go_at_call 7; refine (rmay7 (j : Int) n1 n2 _).mono ?_; rw [hmj]; rintro e w3 ⟨rfl, hg3⟩; have G3 : Hid (Gr wr w3) := ((Gr.refl wr).alloc _).trans hg3; have B3 : Hid (Box w3 wr.heap.size j n1 n2) := HBF.out.gr hg3; obtain ⟨a0, a1, a2, d0, d1, d2⟩ := HBF.out.gr hg3; clear hg3)
                      | (go_at_call 19; refine (HTX.out _).mono ?_; rintro e w4 ⟨rfl, hg4⟩; have G4 : Hid (Gr wr w4) := G3.out.trans hg4; obtain ⟨c0, c1, c2, e0, e1, e2⟩ := B3.out.gr hg4; obtain ⟨k0, k1, k2, l0, l1, l2⟩ := (HB2.out.gr GR.out).gr (G3.out.trans hg4); clear hg4))
                    · exact absurd (show tx = s from (beqB tx s).1 (by assumption)) HNE.out
                    go_roundw
                    case rel => exact ⟨j1, rfl, by have := HJ1.out; omega, by have := HJ1.out; omega, HALL2, GR.out.trans G4.out⟩
                    case measure => simp [intOf]; have := HJ1.out; omega
              · have hjz : ¬ (j : Int) ≤ 5 := by omega
                have HNT : Hid (NoText s) := noText_nums s HSN.out x0 x1 cur HW2.out n1 n2 _ _ HM1.out HM2.out fun _ _ m h1 h2 => HALL.out m h1 (by omega)
                go_wp2
                refine bodyPost_ret (v := .tuple #[fl 0 0 0, .bool false]) ?_ rfl ⟨Or.inr ⟨HNT.out, rfl⟩, ?_⟩
                · simp [results, Tryd.results17, go_sem, u0, u1, u2]
                · exact (((G2.out.trans GR.out).setCell (Nat.le_refl _) _).setCell (Nat.le_refl _) _).setCell (Nat.le_refl _) _
          · have HNT : Hid (NoText s) := noText_nums s HSN.out x0 x1 cur HW2.out n1 n2 _ _ HM1.out HM2.out (by simp)
            refine wp_loop_rounds 1 ?_
            rw [rounds_succ]
            go_wp2
            refine bodyPost_ret (v := .tuple #[fl 0 0 0, .bool false]) ?_ rfl ⟨Or.inr ⟨HNT.out, rfl⟩, ?_⟩
            · simp [results, Tryd.results17, go_sem, s0, s1, s2]
            · exact ((G2.out.setCell (Nat.le_refl _) _).setCell (Nat.le_refl _) _).setCell (Nat.le_refl _) _
          · have HNT : Hid (NoText s) := noText_nums s HSN.out x0 x1 cur HW2.out n1 n2 _ _ HM1.out HM2.out (by simp)
            refine wp_loop_rounds 1 ?_
            rw [rounds_succ]
            go_wp2
            refine bodyPost_ret (v := .tuple #[fl 0 0 0, .bool false]) ?_ rfl ⟨Or.inr ⟨HNT.out, rfl⟩, ?_⟩
            · simp [results, Tryd.results17, go_sem, s0, s1, s2]
            · exact ((G2.out.setCell (Nat.le_refl _) _).setCell (Nat.le_refl _) _).setCell (Nat.le_refl _) _
        · have hn3z : ¬ (n : Int) = 3 := by omega
          have HNT : Hid (NoText s) := noText_words s HSN.out I cur HW2.out (by have h1 := HQ.out.1; have h2 := HQ.out.2; omega)
          go_wp2
          refine bodyPost_ret (v := .tuple #[fl 0 0 0, .bool false]) ?_ rfl ⟨Or.inr ⟨HNT.out, rfl⟩, ?_⟩
          · simp [results, Tryd.results17, go_sem, r0, r1, r2]
          · exact ((HGr.out.setCell (Nat.le_refl _) _).setCell (Nat.le_refl _) _).setCell (Nat.le_refl _) _
end Go.Proofs.YtifhfdndbnmhlaaDoor
