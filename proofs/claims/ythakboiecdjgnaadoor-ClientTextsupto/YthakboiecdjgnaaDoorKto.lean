/- A program told as a text, whatever it is, by the program and by the document. -/
import Derived.Test.YthakboiecdjgnaaDoorKtn
namespace Go.Proofs.YthakboiecdjgnaaDoor.Kt
open Go.RowKit Go.Sort Go.Shelf
open Go.Proofs.YthakboiecdjgnaaDoor.Ci
set_option linter.unusedVariables false
def tz (L : List Dz) : ByteArray × Nat × Int := if (chkZ L).2 = 0 then textZ ln L else (⟨#[]⟩, (chkZ L).1, (chkZ L).2)
theorem usp_of {d : Dz} (h : d.ok) : Usp d := by
  have h := h.sp
  simp [Lit.wf, IntKind.min, IntKind.max, IntKind.bits, IntKind.signed] at h
  exact ⟨by omega, by omega⟩
theorem ptext10 (L : List Dz) (a : Option Addr) (c : Nat) (w : World) (hS : Sy w) (hs : Sl w a L) (hw : Oks L) (hl : L.length ≤ 1000000000000000) :
    Calls Tryd.prog 10 #[.slice a L.length c] w fun e w' => e = .returned (.tuple #[.string (tz L).1, .int .i64 (tz L).2.1, .int .i64 (tz L).2.2]) ∧ Touch [] w w' := by
  by_cases hc : (chkZ L).2 = 0
  · have hg := chk_good.1 hc
    have e : tz L = textZ ln L := if_pos hc
    rw [e]
    exact text_ ln L a c w hS.kd hs hw hg (fun x hx => ln_size (hg.2 x hx) (usp_of (hw x hx))) (fun x hx w' t => line_ x w' (hS.touch t) (hg.2 x hx) (usp_of (hw x hx)))
  · have e : tz L = (⟨#[]⟩, (chkZ L).1, (chkZ L).2) := if_neg hc
    rw [e]
    have HC := hid (check_ L a c w hS.kd hs hw hl)
    have h0 : ((chkZ L).2 != 0) = true := by simpa using hc
    have h1 : ((chkZ L).2 == 0) = false := by simpa using hc
    clear hS hs hw hl e
    generalize (chkZ L).2 = x at *
    generalize (chkZ L).1 = y at *
    go_enter Tryd.func10, Tryd.ntmps10
    go_wp2_with fail
    refine HC.out.mono ?_
    rintro e w1 ⟨rfl, t1⟩
    go_wp2_with fail
    go_ret3
    exact ⟨rfl, t1⟩
theorem nlB_yes {d : Dz} (k : Nat) (hk : k < d.nm.size) (h : d.nm[k].toNat = 10) : nlB d = true := by
  cases hb : nlB d with
  | true => rfl
  | false =>
    have := nl_no hb (d.nm[k]) (by have e : d.nm[k] = d.nm.data.toList[k]'(by simpa using hk) := rfl; rw [e]; exact List.getElem_mem _)
    exact absurd (UInt8.toNat_inj.1 h) this
theorem nlB_no {d : Dz} (h : ∀ k, (hk : k < d.nm.size) → d.nm[k].toNat ≠ 10) : nlB d = false := by
  unfold nlB
  rw [decide_eq_false_iff_not]
  intro h0
  obtain ⟨o, ho⟩ : ∃ o : Nat, Lib.indexByte d.nm.data.toList 10 = o := ⟨(Lib.indexByte d.nm.data.toList 10).toNat, by omega⟩
  have h1 := (Lib.indexByte_some ho).1
  obtain ⟨hlt, he⟩ := List.getElem?_eq_some_iff.1 h1
  have hk : o < d.nm.size := by simpa using hlt
  exact h o hk (by have e : d.nm[o] = d.nm.data.toList[o]'hlt := rfl; rw [e, he]; rfl)
theorem txt_step (L : List Dz) (j : Nat) (h : j < L.length) : (⟨(txtL ln (L.take (j + 1))).toArray⟩ : ByteArray) = ⟨(txtL ln (L.take j)).toArray⟩ ++ (ln L[j] ++ ⟨#[10]⟩) := by
  apply ba_ext
  rw [txt_snoc ln L j h]
  simp [ByteArray.data_append]
theorem next_nl {L : List Dz} {j : Nat} (HN : ∀ k, (hk : k < L.length) → k < j → nlB L[k] = false) (hlt : j < L.length) (h : nlB L[j] = false) : ∀ k, (hk : k < L.length) → k < j + 1 → nlB L[k] = false := fun k hk h' => by
  rcases (by omega : k < j ∨ k = j) with h'' | rfl
  · exact HN k hk h''
  · exact h
set_option maxRecDepth 20000 in
set_option maxHeartbeats 4000000 in
theorem rtext11 (L : List Dz) (a : Option Addr) (c : Nat) (w : World) (hs : Sl w a L) (hw : Oks L) :
    Calls Tryd.prog 11 #[.slice a L.length c] w fun e w' => e = .returned (.tuple #[.string (tz L).1, .int .i64 (tz L).2.1, .int .i64 (tz L).2.2]) ∧ Touch [] w w' := by
  have HC := hid (rcheck_ L a c w hs hw)
  by_cases hc : (chkZ L).2 = 0
  · have hg := chk_good.1 hc
    have HTZ : Hid (tz L = textZ ln L) := if_pos hc
    rw [hc] at HC
    have HS := hid (And.intro hs (And.intro hw hg))
    have hle : (L.length : Int) ≤ 256 := by have := hg.1; omega
    clear hs hw hg hc
    generalize tz L = TZ at *
    go_enter Tryd.func11, Tryd.ntmps11
    go_wp2_with fail
    refine HC.out.mono ?_
    rintro e w1 ⟨rfl, t1⟩
    have T1 := hid t1
    clear t1 HC
    go_wp2_with fail
    go_loopw [7, 8] (fun t7 t8 wr => ∃ j : Nat, t7 = .string ⟨(txtL ln (L.take j)).toArray⟩ ∧ t8 = .int .i64 j ∧ j ≤ L.length ∧ Hid (∀ k, (hk : k < L.length) → k < j → nlB L[k] = false) ∧ Hid (Touch [] w wr)) (fun _ t8 _ => L.length - (intOf t8).toNat)
    case atStart => exact ⟨0, by simp [txtL], rfl, Nat.zero_le _, fun k _ h => absurd h (Nat.not_lt_zero _), T1⟩
    case round =>
      obtain ⟨j, rfl, rfl, hj, HN, HG⟩ := hrel
      by_cases hlt : j < L.length
      · have hz : (j : Int) < (L.length : Int) := by omega
        obtain ⟨b, off, rfl, c0, c1, c2, c3, c4⟩ := (HS.out.1.touch HG.out) j hlt
        have hmx := HS.out.2.2.2 L[j] (List.getElem_mem hlt)
        have hux := usp_of (HS.out.2.1 L[j] (List.getElem_mem hlt))
        have HL := hid (fun w' => rline_ L[j] w' hmx hux)
        have hnz := (HS.out.2.1 L[j] (List.getElem_mem hlt)).nm
        unfold maxLen at hnz
        have hlz := ln_size hmx hux
        have HST := hid (txt_step L j hlt)
        have hpz : (ByteArray.mk (txtL ln (L.take j)).toArray).size ≤ 256 * 1001 := by
          have h1 := txt_len ln 1000 (L.take j) (fun x hx => ln_size (HS.out.2.2.2 x (List.mem_of_mem_take hx)) (usp_of (HS.out.2.1 x (List.mem_of_mem_take hx))))
          have h2 : (L.take j).length ≤ 256 := by rw [List.length_take]; omega
          have h3 : (ByteArray.mk (txtL ln (L.take j)).toArray).size = (txtL ln (L.take j)).length := by simp [ByteArray.size]
          rw [h3]
          exact Nat.le_trans h1 (Nat.mul_le_mul_right 1001 h2)
        have HY := hid (@nlB_yes L[j])
        have HW := hid (@nlB_no L[j])
        have HQ := hid (fun h => HTZ.out.trans (text_at (ln := ln) j hlt (fun k hk h' => HN.out k hk h') h))
        have HN2 := hid (fun (h : nlB L[j] = false) => next_nl (j := j) (fun k hk h' => HN.out k hk h') hlt h)
        generalize nlB L[j] = vb at *
        generalize hS1 : ln L[j] = S1 at *
        generalize (ByteArray.mk (txtL ln (L.take j)).toArray) = P at *
        clear hS1 hmx hux
        generalize L[j].op = x0 at *
        generalize L[j].sp = x1 at *
        generalize L[j].nm = x2 at *
        generalize L[j].n = x3 at *
        generalize L[j].sl = x4 at *
        have h10 : (ByteArray.mk #[10]).size = 1 := rfl
        have ea : ∀ w, (Op.stringOp .add S1 ⟨#[10]⟩).run Tryd.prog w = .ok (.string (S1 ++ ⟨#[10]⟩)) w := fun w => run_string_add_sum w _ _ (by omega)
        have eb : ∀ w, (Op.stringOp .add P (S1 ++ ⟨#[10]⟩)).run Tryd.prog w = .ok (.string (P ++ (S1 ++ ⟨#[10]⟩))) w := fun w => run_string_add_sum w _ _ (by rw [ByteArray.size_append]; omega)
        clear hlz hpz h10
        go_wp2_with fail
        go_loopw [9] (fun t9 wq => ∃ k : Nat, t9 = .int .i64 k ∧ k ≤ x2.size ∧ Hid (∀ i, (hi : i < x2.size) → i < k → x2[i].toNat ≠ 10) ∧ wq = wr) (fun t9 _ => x2.size - (intOf t9).toNat)
        case atStart => exact ⟨0, rfl, Nat.zero_le _, fun i _ h => absurd h (Nat.not_lt_zero _), rfl⟩
        case round =>
          obtain ⟨k, rfl, hk, HB, rfl⟩ := hrel
          by_cases hk2 : k < x2.size
          · have hz2 : (k : Int) < (x2.size : Int) := by omega
            by_cases hc : x2[k].toNat = 10
            · have hc' : (x2[k].toNat : Int) = 10 := by omega
              have HE := hid (HQ.out (HY.out k hk2 hc))
              go_wp2
              go_ret3
              exact ⟨by rw [HE.out]; rfl, HG.out⟩
            · have hc' : ¬ (x2[k].toNat : Int) = 10 := by omega
              have HB2 : Hid (∀ i, (hi : i < x2.size) → i < k + 1 → x2[i].toNat ≠ 10) := fun i hi h => by rcases (by omega : i < k ∨ i = k) with h' | rfl; exact HB.out i hi h'; exact hc
              go_wp2
              go_roundw
              case rel => exact ⟨k + 1, by go_num, by omega, HB2, by trivial⟩
              case measure => simp [intOf]; omega
          · have hz2 : ¬ (k : Int) < (x2.size : Int) := by omega
            have HV := hid (HN2.out (HW.out (fun i hi => HB.out i hi (by omega))))
            go_wp2_with fail
            refine (HL.out _).mono ?_
            rintro e w4 ⟨rfl, t4⟩
            have T4 := hid (HG.out.trans' t4)
            clear t4
            go_wp2_with fail
            go_roundw
            case rel => exact ⟨j + 1, by rw [HST.out], by go_num, by omega, HV, T4⟩
            case measure => simp [intOf]; omega
      · have hz : ¬ (j : Int) < (L.length : Int) := by omega
        have HE := hid (HTZ.out.trans (text_end (ln := ln) (fun k hk => HN.out k hk (by omega))))
        have HE2 : Hid (L.take j = L) := List.take_of_length_le (by omega)
        go_wp2
        go_ret3
        exact ⟨by rw [HE.out, HE2.out]; rfl, HG.out⟩
  · have e : tz L = (⟨#[]⟩, (chkZ L).1, (chkZ L).2) := if_neg hc
    rw [e]
    have h0 : ((chkZ L).2 != 0) = true := by simpa using hc
    have h1 : ((chkZ L).2 == 0) = false := by simpa using hc
    clear hs hw e
    generalize (chkZ L).2 = x at *
    generalize (chkZ L).1 = y at *
    go_enter Tryd.func11, Tryd.ntmps11
    go_wp2_with fail
    refine HC.out.mono ?_
    rintro e w1 ⟨rfl, t1⟩
    go_wp2_with fail
    go_ret3
    exact ⟨rfl, t1⟩
end Go.Proofs.YthakboiecdjgnaaDoor.Kt
