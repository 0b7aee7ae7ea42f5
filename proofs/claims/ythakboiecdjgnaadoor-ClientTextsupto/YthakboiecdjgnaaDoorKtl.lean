/- A thing to do read from its line, by the document; the line is within the form's reach. -/
import Derived.Test.YthakboiecdjgnaaDoorKtg
import Derived.Test.YthakboiecdjgnaaDoorKti
import Derived.Test.YthakboiecdjgnaaDoorKtk
namespace Go.Proofs.YthakboiecdjgnaaDoor.Kt
open Go.RowKit Go.Sort Go.Shelf
open Go.Proofs.YthakboiecdjgnaaDoor.Ci
set_option linter.unusedVariables false
theorem tdrew {w W : World} (t : Touch [] w W) (n : Nat) : Touch [] w (W.drewN n) := t.trans' ((Gr.refl W).drewN n).touch
theorem ffar {w : World} {b o j : Nat} {x v : Value} (h : w.cell? ⟨b, j, none⟩ = some x) : (w.setCell ⟨b + 1, o, none⟩ v).cell? ⟨b, j, none⟩ = some x :=
  (World.cell?_setCell_far w _ _ _ (by show b + 1 ≠ b; omega)).trans h
theorem newc {V : World} {cs : Array Value} {ty : TypeId} {b : Nat} (hb : b = V.heap.size) (i : Nat) {v : Value} (h : cs[i]? = some v) : (V.alloc (.cells cs ty)).cell? ⟨b, i, none⟩ = some v := by
  subst hb
  simp [h]
theorem newf {V : World} {cs : Array Value} {ty : TypeId} {b : Nat} (hb : b = V.heap.size) (i : Nat) : (V.alloc (.cells cs ty)).frozen? ⟨b, i, none⟩ = false := by
  subst hb
  simp
theorem newl {V : World} {o : Obj} {b : Nat} (hb : b = V.heap.size) : b < (V.alloc o).heap.size := by
  subst hb
  simp
theorem lastZ_size (s : ByteArray) : (lastZ s).1.size ≤ s.size ∧ (lastZ s).2.size ≤ s.size := by
  unfold lastZ
  split
  · exact ⟨Nat.zero_le _, Nat.le_refl _⟩
  · dsimp only
    rw [ByteArray.size_extract, ByteArray.size_extract]
    omega
set_option maxRecDepth 20000 in
set_option maxHeartbeats 8000000 in
theorem rline38 (s : ByteArray) (w : World) (hs0 : s.size ≤ 2000000000) : Calls Tryd.prog 38 #[.string s] w fun e w' => e = .returned (doV (rdZ s)) ∧ Touch [] w w' := by
  have mixed : Tryd.prog.follows .mixedOrders = true := by kernel_rfl
  have HR0 : Hid (∀ d, rdZ s = some d → ((1 : Nat) : Int) ≤ d.op) := fun d hd => by
    obtain ⟨k, h1, h2, e, _⟩ := may_parts (rdZ_some hd).2.1
    omega
  go_enter Tryd.func38, Tryd.ntmps38
  go_wp2
  go_loopw [4] (fun i wr => ∃ j : Nat, i = .int .i64 j ∧ 1 ≤ j ∧ j ≤ 10 ∧ Hid (∀ d, rdZ s = some d → (j : Int) ≤ d.op) ∧ Hid (Touch [] w wr) ∧ Hid (Bx wr w.heap.size (.int .i64 0) (.int .u16 0) (.string ⟨#[]⟩) (.int .i64 0) (.int .i64 0))) (fun i _ => 10 - (intOf i).toNat)
  case atStart => exact ⟨1, rfl, by omega, by omega, HR0, (Touch.refl [] w).alloc _, ⟨by simp, by simp, by simp, by simp, by simp, fun o => by simp⟩⟩
  case round =>
    obtain ⟨j, rfl, hj1, hj2, HN, HT, HZ⟩ := hrel
    by_cases hlt : j ≤ 9
    · have hz : (j : Int) ≤ 9 := by omega
      obtain ⟨lo, hi, HF⟩ := formK j hj1 hlt
      have hwr : w.heap.size < wr.heap.size := HZ.out.lt
      obtain ⟨c1, c2, c3, c4, c5, c6, c7, c8⟩ := cls j hj1 hlt
      have HX : Hid _ := @op_none s j
      by_cases n0 : 0 < kNh j
      · have k0 := (c6 n0).1
        have s0 := (c6 n0).2
        rw [k0, decide_eq_true n0, decide_eq_false s0] at HF
        replace HF := hid HF
        have HD : Hid _ := @op_num s j k0 n0
        clear c1 c2 c3 c4 c5 c6 c7 n0 k0 s0
        generalize hwd : kWord j = wd at *
        clear hwd
        go_wp2_with fail
        refine (HF.out _).mono ?_
        rintro e w1 ⟨rfl, t1⟩
        have G1 : Hid (Touch [] w w1) := HT.out.trans' t1
        have Z1 : Hid (Bx w1 w.heap.size (.int .i64 0) (.int .u16 0) (.string ⟨#[]⟩) (.int .i64 0) (.int .i64 0)) := HZ.out.touch t1
        have hw1 : w.heap.size < w1.heap.size := Nat.lt_of_lt_of_le hwr t1.size
        clear t1
        go_wp2_with fail
        by_cases ha : ¬ wd.size < s.size
        · have HN2 := hid (next_of HN.out (HX.out (Or.inl ha)))
          have ha' : (s.size : Int) ≤ (wd.size : Int) := by omega
          go_quiet (fail)
          go_wp2
          go_roundw
          case rel => exact ⟨j + 1, by go_num, by omega, by omega, HN2, hid (tdrew (G1.out.alloc _) _), hid (Z1.out.touch (tdrew ((Touch.refl [] w1).alloc _) _))⟩
          case measure => simp [intOf]; omega
        replace ha := Classical.not_not.1 ha
        have ha' : ¬ (s.size : Int) ≤ (wd.size : Int) := by omega
        have ha2 : (wd.size : Int) < (s.size : Int) := by omega
        have ha3 : (0 : Int) ≤ (wd.size : Int) := by omega
        have hsl0 : ∀ w, (Instr.slice 9 (.string s) none (some (.int .i64 (wd.size : Int))) none).run Tryd.prog w = .ok (.string (s.extract 0 wd.size)) w := fun w => by rw [run_slice_string_h w 9 s Tryd.underlying9 .i64 (wd.size : Int) (by omega) (by omega), show ((wd.size : Int)).toNat = wd.size by omega]
        by_cases hb : s.extract 0 wd.size ≠ wd
        · have HN2 := hid (next_of HN.out (HX.out (Or.inr (Or.inl hb))))
          have hb' : ((s.extract 0 wd.size).toList == wd.toList) = false := Bool.eq_false_iff.2 (fun h => hb ((beqB _ _).1 h))
          generalize s.extract 0 wd.size = E0 at *
          go_quiet (fail)
          go_wp2
          go_roundw
          case rel => exact ⟨j + 1, by go_num, by omega, by omega, HN2, hid (tdrew (G1.out.alloc _) _), hid (Z1.out.touch (tdrew ((Touch.refl [] w1).alloc _) _))⟩
          case measure => simp [intOf]; omega
        replace hb := Classical.not_not.1 hb
        by_cases hc : s[wd.size].toNat ≠ 32
        · have HN2 := hid (next_of HN.out (HX.out (Or.inr (Or.inr ⟨ha, hc⟩))))
          have hb' : ((s.extract 0 wd.size).toList == wd.toList) = true := (beqB _ _).2 hb
          generalize s.extract 0 wd.size = E0 at *
          have hc' : ¬ (s[wd.size].toNat : Int) = 32 := by omega
          go_quiet (fail)
          go_wp2
          go_roundw
          case rel => exact ⟨j + 1, by go_num, by omega, by omega, HN2, hid (tdrew (G1.out.alloc _) _), hid (Z1.out.touch (tdrew ((Touch.refl [] w1).alloc _) _))⟩
          case measure => simp [intOf]; omega
        replace hc := Classical.not_not.1 hc
        have hb' : ((s.extract 0 wd.size).toList == wd.toList) = true := (beqB _ _).2 hb
        clear hb
        generalize s.extract 0 wd.size = E0 at *
        have hc' : (s[wd.size].toNat : Int) = 32 := by omega
        have hsl1 : ∀ w, (Instr.slice 9 (.string s) (some (.int .i64 ((wd.size : Int) + 1))) none none).run Tryd.prog w = .ok (.string (s.extract (wd.size + 1) s.size)) w := fun w => by rw [run_slice_string_l w 9 s Tryd.underlying9 .i64 ((wd.size : Int) + 1) (by omega) (by omega), show ((wd.size : Int) + 1).toNat = wd.size + 1 by omega]
        have hrz : (s.extract (wd.size + 1) s.size).size ≤ 2000000000 := by rw [ByteArray.size_extract]; omega
        have hwn : IntKind.i64.wrap ((wd.size : Int) + 1) = (wd.size : Int) + 1 := by rw [IntKind.wrap_i64]; omega
        generalize s.extract (wd.size + 1) s.size = r at *
        have HNu : Hid (∀ w', _) := fun w' => number61 r w' (by omega)
        have hw2 : w.heap.size < w1.heap.size + 1 := by omega
        go_quiet (fail)
        go_wp2_with fail
        refine (HNu.out _).mono ?_
        rintro e w2 ⟨⟨n, b, rfl, hno⟩, g2⟩
        have t2 := g2.touch
        clear g2
        have hbq : ∀ q, w1.heap.size + 1 = ((w1.alloc (.cells #[.string wd, .bool false, .bool false, .bool true, .int .i64 lo, .int .i64 hi] 121)).drewN q).heap.size := fun q => by show w1.heap.size + 1 = (w1.alloc _).heap.size; simp
        have Z2 : Hid (Bx w2 w.heap.size (.int .i64 0) (.int .u16 0) (.string ⟨#[]⟩) (.int .i64 0) (.int .i64 0)) := ((Z1.out.touch (tdrew ((Touch.refl [] w1).alloc _) _)).touch ((Touch.refl [] _).alloc _)).touch t2
        have D2 : Hid (Bx w2 (w1.heap.size + 1) (.int .i64 j) (.int .u16 0) (.string ⟨#[]⟩) (.int .i64 0) (.int .i64 0)) := ⟨tcell t2 (newc (hbq _) 0 rfl), tcell t2 (newc (hbq _) 1 rfl), tcell t2 (newc (hbq _) 2 rfl), tcell t2 (newc (hbq _) 3 rfl), tcell t2 (newc (hbq _) 4 rfl), fun o => tfz t2 (newf (hbq _) o) (newl (hbq _))⟩
        have f1 : w2.cell? ⟨w1.heap.size, 1, none⟩ = some (.bool false) := tcell t2 (tcell ((tdrew (Touch.refl [] (w1.alloc _)) _).alloc _) (by simp))
        have f2 : w2.cell? ⟨w1.heap.size, 2, none⟩ = some (.bool false) := tcell t2 (tcell ((tdrew (Touch.refl [] (w1.alloc _)) _).alloc _) (by simp))
        have f3 : w2.cell? ⟨w1.heap.size, 3, none⟩ = some (.bool true) := tcell t2 (tcell ((tdrew (Touch.refl [] (w1.alloc _)) _).alloc _) (by simp))
        have hb : w1.heap.size + 1 < w2.heap.size := Nat.lt_of_lt_of_le (by simp) t2.size
        have G2 : Hid (Touch [] w w2) := ((tdrew (G1.out.alloc _) _).alloc _).trans' t2
        obtain ⟨d0, d1, d2, d3, d4, df⟩ := D2.out
        clear t2
        have HNO := hid hno
        clear hno
        have HGs : Hid (Gs s j ⟨j, 0, ⟨#[]⟩, n, 0⟩) := fun d hd e0 => by obtain ⟨m, hm, e1, e2⟩ := HD.out d hd e0; obtain ⟨_, e3⟩ := HNO.out.2.2 m hm e1; rw [e2, e3]
        have HOk : Hid (∀ d, rdZ s = some d → d.op = j → b = true) := fun d hd e0 => by obtain ⟨m, hm, e1, e2⟩ := HD.out d hd e0; exact (HNO.out.2.2 m hm e1).1
        have hus : Usp ⟨j, 0, ⟨#[]⟩, n, 0⟩ := ⟨Int.le_refl 0, by show (0 : Int) ≤ 65535; decide⟩
        have hnmz : (Dz.nm ⟨j, 0, ⟨#[]⟩, n, 0⟩).size ≤ maxLen := Nat.zero_le _
        have HM : Hid (∀ w', _) := fun w' => rmay_ ⟨j, 0, ⟨#[]⟩, n, 0⟩ w' hnmz
        have HLn : Hid (mayZ ⟨j, 0, ⟨#[]⟩, n, 0⟩ = true → ∀ w', _) := fun (hm : mayZ ⟨j, 0, ⟨#[]⟩, n, 0⟩ = true) w' => rline_ ⟨j, 0, ⟨#[]⟩, n, 0⟩ w' hm hus
        have HFm : Hid (mayZ ⟨j, 0, ⟨#[]⟩, n, 0⟩ = false → ∀ d, rdZ s = some d → d.op ≠ j) := fun h => gs_may HGs.out h
        have HFl : Hid (ln ⟨j, 0, ⟨#[]⟩, n, 0⟩ ≠ s → ∀ d, rdZ s = some d → d.op ≠ j) := fun h => gs_ln HGs.out h
        have HYs : Hid (mayZ ⟨j, 0, ⟨#[]⟩, n, 0⟩ = true → ln ⟨j, 0, ⟨#[]⟩, n, 0⟩ = s → rdZ s = some ⟨j, 0, ⟨#[]⟩, n, 0⟩) := fun h1 h2 => gs_yes h1 hus h2
        dsimp only at HM HLn HFm HFl HYs
        generalize mayZ ⟨j, 0, ⟨#[]⟩, n, 0⟩ = mb at *
        generalize ln ⟨j, 0, ⟨#[]⟩, n, 0⟩ = X at *
        clear HGs hus hnmz
        cases b with
        | false =>
          have HN2 := hid (next_of HN.out (fun d hd e0 => by have h := HOk.out d hd e0; simp at h))
          go_wp2_with fail
          go_roundw
          case rel => exact ⟨j + 1, by go_num, by omega, by omega, HN2, hid (tset (G2.out) (Nat.le_of_lt hw2) 3 (.int .i64 n)), hid (zset (Z2.out) hw2)⟩
          case measure => simp [intOf]; omega
        | true =>
          go_wp2_with fail
          refine (HM.out _).mono ?_
          rintro e w3 ⟨rfl, t3⟩
          have Z3 : Hid (Bx w3 w.heap.size (.int .i64 0) (.int .u16 0) (.string ⟨#[]⟩) (.int .i64 0) (.int .i64 0)) := (zset (Z2.out) hw2).touch t3
          have D3 : Hid (Bx w3 (w1.heap.size + 1) (.int .i64 j) (.int .u16 0) (.string ⟨#[]⟩) (.int .i64 n) (.int .i64 0)) := ((D2.out).set3 (.int .i64 n)).touch t3
          clear d0 d1 d2 d3 d4 df
          replace f1 := tcell t3 (ffar (f1))
          replace f2 := tcell t3 (ffar (f2))
          replace f3 := tcell t3 (ffar (f3))
          replace hb : w1.heap.size + 1 < w3.heap.size := Nat.lt_of_lt_of_le (by simp; omega) t3.size
          have G3 : Hid (Touch [] w w3) := (tset (G2.out) (Nat.le_of_lt hw2) 3 (.int .i64 n)).trans' t3
          obtain ⟨d0, d1, d2, d3, d4, df⟩ := D3.out
          clear t3
          cases mb with
          | false =>
            have HN2 := hid (next_of HN.out (HFm.out (by trivial)))
            go_wp2_with fail
            go_roundw
            case rel => exact ⟨j + 1, by go_num, by omega, by omega, HN2, hid (G3.out), hid (Z3.out)⟩
            case measure => simp [intOf]; omega
          | true =>
            go_wp2_with fail
            refine (HLn.out (by trivial) _).mono ?_
            rintro e w4 ⟨rfl, t4⟩
            have Z4 : Hid (Bx w4 w.heap.size (.int .i64 0) (.int .u16 0) (.string ⟨#[]⟩) (.int .i64 0) (.int .i64 0)) := (Z3.out).touch t4
            have D4 : Hid (Bx w4 (w1.heap.size + 1) (.int .i64 j) (.int .u16 0) (.string ⟨#[]⟩) (.int .i64 n) (.int .i64 0)) := (D3.out).touch t4
            clear d0 d1 d2 d3 d4 df
            replace f1 := tcell t4 (f1)
            replace f2 := tcell t4 (f2)
            replace f3 := tcell t4 (f3)
            replace hb := Nat.lt_of_lt_of_le hb t4.size
            have G4 : Hid (Touch [] w w4) := (G3.out).trans' t4
            obtain ⟨d0, d1, d2, d3, d4, df⟩ := D4.out
            clear t4
            by_cases hx : X = s
            · have HRD := hid (HYs.out (by trivial) hx)
              have hbx : (X.toList == s.toList) = true := (beqB _ _).2 hx
              clear hx
              obtain ⟨z0, z1, z2, z3, z4, zf⟩ := Z4.out
              go_wp2_with fail
              exact bodyPost_ret (v := doV (some ⟨j, 0, ⟨#[]⟩, n, 0⟩)) (by simp [results, Tryd.results38, go_sem, doV, z0, z1, z2, z3, z4]) rfl
                ⟨by rw [HRD.out], tset5 (G4.out)⟩
            · have HN2 := hid (next_of HN.out (HFl.out hx))
              have hbx : (X.toList == s.toList) = false := Bool.eq_false_iff.2 (fun h => hx ((beqB _ _).1 h))
              clear hx
              go_wp2_with fail
              go_roundw
              case rel => exact ⟨j + 1, by go_num, by omega, by omega, HN2, hid (G4.out), hid (Z4.out)⟩
              case measure => simp [intOf]; omega
      · by_cases s0 : 0 < kSh j
        · cases k0 : kKey j with
          | false =>
            rw [k0, decide_eq_false n0, decide_eq_true s0] at HF
            replace HF := hid HF
            have HD : Hid _ := @op_slot s j k0 s0
            clear c1 c2 c3 c4 c5 c6 c7 n0 k0 s0
            generalize hwd : kWord j = wd at *
            clear hwd
            go_wp2_with fail
            refine (HF.out _).mono ?_
            rintro e w1 ⟨rfl, t1⟩
            have G1 : Hid (Touch [] w w1) := HT.out.trans' t1
            have Z1 : Hid (Bx w1 w.heap.size (.int .i64 0) (.int .u16 0) (.string ⟨#[]⟩) (.int .i64 0) (.int .i64 0)) := HZ.out.touch t1
            have hw1 : w.heap.size < w1.heap.size := Nat.lt_of_lt_of_le hwr t1.size
            clear t1
            go_wp2_with fail
            by_cases ha : ¬ wd.size < s.size
            · have HN2 := hid (next_of HN.out (HX.out (Or.inl ha)))
              have ha' : (s.size : Int) ≤ (wd.size : Int) := by omega
              go_quiet (fail)
              go_wp2
              go_roundw
              case rel => exact ⟨j + 1, by go_num, by omega, by omega, HN2, hid (tdrew (G1.out.alloc _) _), hid (Z1.out.touch (tdrew ((Touch.refl [] w1).alloc _) _))⟩
              case measure => simp [intOf]; omega
            replace ha := Classical.not_not.1 ha
            have ha' : ¬ (s.size : Int) ≤ (wd.size : Int) := by omega
            have ha2 : (wd.size : Int) < (s.size : Int) := by omega
            have ha3 : (0 : Int) ≤ (wd.size : Int) := by omega
            have hsl0 : ∀ w, (Instr.slice 9 (.string s) none (some (.int .i64 (wd.size : Int))) none).run Tryd.prog w = .ok (.string (s.extract 0 wd.size)) w := fun w => by rw [run_slice_string_h w 9 s Tryd.underlying9 .i64 (wd.size : Int) (by omega) (by omega), show ((wd.size : Int)).toNat = wd.size by omega]
            by_cases hb : s.extract 0 wd.size ≠ wd
            · have HN2 := hid (next_of HN.out (HX.out (Or.inr (Or.inl hb))))
              have hb' : ((s.extract 0 wd.size).toList == wd.toList) = false := Bool.eq_false_iff.2 (fun h => hb ((beqB _ _).1 h))
              generalize s.extract 0 wd.size = E0 at *
              go_quiet (fail)
              go_wp2
              go_roundw
              case rel => exact ⟨j + 1, by go_num, by omega, by omega, HN2, hid (tdrew (G1.out.alloc _) _), hid (Z1.out.touch (tdrew ((Touch.refl [] w1).alloc _) _))⟩
              case measure => simp [intOf]; omega
            replace hb := Classical.not_not.1 hb
            by_cases hc : s[wd.size].toNat ≠ 32
            · have HN2 := hid (next_of HN.out (HX.out (Or.inr (Or.inr ⟨ha, hc⟩))))
              have hb' : ((s.extract 0 wd.size).toList == wd.toList) = true := (beqB _ _).2 hb
              generalize s.extract 0 wd.size = E0 at *
              have hc' : ¬ (s[wd.size].toNat : Int) = 32 := by omega
              go_quiet (fail)
              go_wp2
              go_roundw
              case rel => exact ⟨j + 1, by go_num, by omega, by omega, HN2, hid (tdrew (G1.out.alloc _) _), hid (Z1.out.touch (tdrew ((Touch.refl [] w1).alloc _) _))⟩
              case measure => simp [intOf]; omega
            replace hc := Classical.not_not.1 hc
            have hb' : ((s.extract 0 wd.size).toList == wd.toList) = true := (beqB _ _).2 hb
            clear hb
            generalize s.extract 0 wd.size = E0 at *
            have hc' : (s[wd.size].toNat : Int) = 32 := by omega
            have hsl1 : ∀ w, (Instr.slice 9 (.string s) (some (.int .i64 ((wd.size : Int) + 1))) none none).run Tryd.prog w = .ok (.string (s.extract (wd.size + 1) s.size)) w := fun w => by rw [run_slice_string_l w 9 s Tryd.underlying9 .i64 ((wd.size : Int) + 1) (by omega) (by omega), show ((wd.size : Int) + 1).toNat = wd.size + 1 by omega]
            have hrz : (s.extract (wd.size + 1) s.size).size ≤ 2000000000 := by rw [ByteArray.size_extract]; omega
            have hwn : IntKind.i64.wrap ((wd.size : Int) + 1) = (wd.size : Int) + 1 := by rw [IntKind.wrap_i64]; omega
            generalize s.extract (wd.size + 1) s.size = r at *
            have HLa : Hid (∀ w', _) := fun w' => last62 r w' (by omega)
            have hl2 : (lastZ r).2.size ≤ 2000000000 := Nat.le_trans (lastZ_size r).2 hrz
            have hl1 : (lastZ r).1.size ≤ 2000000000 := Nat.le_trans (lastZ_size r).1 hrz
            have HNu : Hid (∀ w', _) := fun w' => number61 (lastZ r).2 w' (by omega)
            have hw2 : w.heap.size < w1.heap.size + 1 := by omega
            go_quiet (fail)
            go_wp2_with fail
            refine (HLa.out _).mono ?_
            rintro e w2 ⟨rfl, g2⟩
            have t2 := g2.touch
            clear g2
            have hbq : ∀ q, w1.heap.size + 1 = ((w1.alloc (.cells #[.string wd, .bool false, .bool true, .bool false, .int .i64 lo, .int .i64 hi] 121)).drewN q).heap.size := fun q => by show w1.heap.size + 1 = (w1.alloc _).heap.size; simp
            have Z2 : Hid (Bx w2 w.heap.size (.int .i64 0) (.int .u16 0) (.string ⟨#[]⟩) (.int .i64 0) (.int .i64 0)) := ((Z1.out.touch (tdrew ((Touch.refl [] w1).alloc _) _)).touch ((Touch.refl [] _).alloc _)).touch t2
            have D2 : Hid (Bx w2 (w1.heap.size + 1) (.int .i64 j) (.int .u16 0) (.string ⟨#[]⟩) (.int .i64 0) (.int .i64 0)) := ⟨tcell t2 (newc (hbq _) 0 rfl), tcell t2 (newc (hbq _) 1 rfl), tcell t2 (newc (hbq _) 2 rfl), tcell t2 (newc (hbq _) 3 rfl), tcell t2 (newc (hbq _) 4 rfl), fun o => tfz t2 (newf (hbq _) o) (newl (hbq _))⟩
            have f1 : w2.cell? ⟨w1.heap.size, 1, none⟩ = some (.bool false) := tcell t2 (tcell ((tdrew (Touch.refl [] (w1.alloc _)) _).alloc _) (by simp))
            have f2 : w2.cell? ⟨w1.heap.size, 2, none⟩ = some (.bool true) := tcell t2 (tcell ((tdrew (Touch.refl [] (w1.alloc _)) _).alloc _) (by simp))
            have f3 : w2.cell? ⟨w1.heap.size, 3, none⟩ = some (.bool false) := tcell t2 (tcell ((tdrew (Touch.refl [] (w1.alloc _)) _).alloc _) (by simp))
            have hb : w1.heap.size + 1 < w2.heap.size := Nat.lt_of_lt_of_le (by simp) t2.size
            have G2 : Hid (Touch [] w w2) := ((tdrew (G1.out.alloc _) _).alloc _).trans' t2
            obtain ⟨d0, d1, d2, d3, d4, df⟩ := D2.out
            clear t2
            go_wp2_with fail
            refine (HNu.out _).mono ?_
            rintro e w3 ⟨⟨n, b, rfl, hno⟩, g3⟩
            have t3 := g3.touch
            clear g3
            have Z3 : Hid (Bx w3 w.heap.size (.int .i64 0) (.int .u16 0) (.string ⟨#[]⟩) (.int .i64 0) (.int .i64 0)) := (Z2.out).touch t3
            have D3 : Hid (Bx w3 (w1.heap.size + 1) (.int .i64 j) (.int .u16 0) (.string ⟨#[]⟩) (.int .i64 0) (.int .i64 0)) := (D2.out).touch t3
            clear d0 d1 d2 d3 d4 df
            replace f1 := tcell t3 (f1)
            replace f2 := tcell t3 (f2)
            replace f3 := tcell t3 (f3)
            replace hb := Nat.lt_of_lt_of_le hb t3.size
            have G3 : Hid (Touch [] w w3) := (G2.out).trans' t3
            obtain ⟨d0, d1, d2, d3, d4, df⟩ := D3.out
            clear t3
            have HNO := hid hno
            clear hno
            have HGs : Hid (Gs s j ⟨j, 0, ⟨#[]⟩, 0, n⟩) := fun d hd e0 => by obtain ⟨m, hm, e1, e2⟩ := HD.out d hd e0; obtain ⟨_, e3⟩ := HNO.out.2.2 m hm (by rw [← e1, lastZ_itoa]); rw [e2, e3]
            have HOk : Hid (∀ d, rdZ s = some d → d.op = j → b = true) := fun d hd e0 => by obtain ⟨m, hm, e1, e2⟩ := HD.out d hd e0; exact (HNO.out.2.2 m hm (by rw [← e1, lastZ_itoa])).1
            have hus : Usp ⟨j, 0, ⟨#[]⟩, 0, n⟩ := ⟨Int.le_refl 0, by show (0 : Int) ≤ 65535; decide⟩
            have hnmz : (Dz.nm ⟨j, 0, ⟨#[]⟩, 0, n⟩).size ≤ maxLen := Nat.zero_le _
            have HM : Hid (∀ w', _) := fun w' => rmay_ ⟨j, 0, ⟨#[]⟩, 0, n⟩ w' hnmz
            have HLn : Hid (mayZ ⟨j, 0, ⟨#[]⟩, 0, n⟩ = true → ∀ w', _) := fun (hm : mayZ ⟨j, 0, ⟨#[]⟩, 0, n⟩ = true) w' => rline_ ⟨j, 0, ⟨#[]⟩, 0, n⟩ w' hm hus
            have HFm : Hid (mayZ ⟨j, 0, ⟨#[]⟩, 0, n⟩ = false → ∀ d, rdZ s = some d → d.op ≠ j) := fun h => gs_may HGs.out h
            have HFl : Hid (ln ⟨j, 0, ⟨#[]⟩, 0, n⟩ ≠ s → ∀ d, rdZ s = some d → d.op ≠ j) := fun h => gs_ln HGs.out h
            have HYs : Hid (mayZ ⟨j, 0, ⟨#[]⟩, 0, n⟩ = true → ln ⟨j, 0, ⟨#[]⟩, 0, n⟩ = s → rdZ s = some ⟨j, 0, ⟨#[]⟩, 0, n⟩) := fun h1 h2 => gs_yes h1 hus h2
            dsimp only at HM HLn HFm HFl HYs
            generalize mayZ ⟨j, 0, ⟨#[]⟩, 0, n⟩ = mb at *
            generalize ln ⟨j, 0, ⟨#[]⟩, 0, n⟩ = X at *
            clear HGs hus hnmz
            cases b with
            | false =>
              have HN2 := hid (next_of HN.out (fun d hd e0 => by have h := HOk.out d hd e0; simp at h))
              go_wp2_with fail
              go_roundw
              case rel => exact ⟨j + 1, by go_num, by omega, by omega, HN2, hid (tset (G3.out) (Nat.le_of_lt hw2) 4 (.int .i64 n)), hid (zset (Z3.out) hw2)⟩
              case measure => simp [intOf]; omega
            | true =>
              go_wp2_with fail
              refine (HM.out _).mono ?_
              rintro e w4 ⟨rfl, t4⟩
              have Z4 : Hid (Bx w4 w.heap.size (.int .i64 0) (.int .u16 0) (.string ⟨#[]⟩) (.int .i64 0) (.int .i64 0)) := (zset (Z3.out) hw2).touch t4
              have D4 : Hid (Bx w4 (w1.heap.size + 1) (.int .i64 j) (.int .u16 0) (.string ⟨#[]⟩) (.int .i64 0) (.int .i64 n)) := ((D3.out).set4 (.int .i64 n)).touch t4
              clear d0 d1 d2 d3 d4 df
              replace f1 := tcell t4 (ffar (f1))
              replace f2 := tcell t4 (ffar (f2))
              replace f3 := tcell t4 (ffar (f3))
              replace hb : w1.heap.size + 1 < w4.heap.size := Nat.lt_of_lt_of_le (by simp; omega) t4.size
              have G4 : Hid (Touch [] w w4) := (tset (G3.out) (Nat.le_of_lt hw2) 4 (.int .i64 n)).trans' t4
              obtain ⟨d0, d1, d2, d3, d4, df⟩ := D4.out
              clear t4
              cases mb with
              | false =>
                have HN2 := hid (next_of HN.out (HFm.out (by trivial)))
                go_wp2_with fail
                go_roundw
                case rel => exact ⟨j + 1, by go_num, by omega, by omega, HN2, hid (G4.out), hid (Z4.out)⟩
                case measure => simp [intOf]; omega
              | true =>
                go_wp2_with fail
                refine (HLn.out (by trivial) _).mono ?_
                rintro e w5 ⟨rfl, t5⟩
                have Z5 : Hid (Bx w5 w.heap.size (.int .i64 0) (.int .u16 0) (.string ⟨#[]⟩) (.int .i64 0) (.int .i64 0)) := (Z4.out).touch t5
                have D5 : Hid (Bx w5 (w1.heap.size + 1) (.int .i64 j) (.int .u16 0) (.string ⟨#[]⟩) (.int .i64 0) (.int .i64 n)) := (D4.out).touch t5
                clear d0 d1 d2 d3 d4 df
                replace f1 := tcell t5 (f1)
                replace f2 := tcell t5 (f2)
                replace f3 := tcell t5 (f3)
                replace hb := Nat.lt_of_lt_of_le hb t5.size
                have G5 : Hid (Touch [] w w5) := (G4.out).trans' t5
                obtain ⟨d0, d1, d2, d3, d4, df⟩ := D5.out
                clear t5
                by_cases hx : X = s
                · have HRD := hid (HYs.out (by trivial) hx)
                  have hbx : (X.toList == s.toList) = true := (beqB _ _).2 hx
                  clear hx
                  obtain ⟨z0, z1, z2, z3, z4, zf⟩ := Z5.out
                  go_wp2_with fail
                  exact bodyPost_ret (v := doV (some ⟨j, 0, ⟨#[]⟩, 0, n⟩)) (by simp [results, Tryd.results38, go_sem, doV, z0, z1, z2, z3, z4]) rfl
                    ⟨by rw [HRD.out], tset5 (G5.out)⟩
                · have HN2 := hid (next_of HN.out (HFl.out hx))
                  have hbx : (X.toList == s.toList) = false := Bool.eq_false_iff.2 (fun h => hx ((beqB _ _).1 h))
                  clear hx
                  go_wp2_with fail
                  go_roundw
                  case rel => exact ⟨j + 1, by go_num, by omega, by omega, HN2, hid (G5.out), hid (Z5.out)⟩
                  case measure => simp [intOf]; omega
          | true =>
            rw [k0, decide_eq_false n0, decide_eq_true s0] at HF
            replace HF := hid HF
            have HD : Hid _ := @op_both s j k0 s0
            clear c1 c2 c3 c4 c5 c6 c7 n0 k0 s0
            generalize hwd : kWord j = wd at *
            clear hwd
            go_wp2_with fail
            refine (HF.out _).mono ?_
            rintro e w1 ⟨rfl, t1⟩
            have G1 : Hid (Touch [] w w1) := HT.out.trans' t1
            have Z1 : Hid (Bx w1 w.heap.size (.int .i64 0) (.int .u16 0) (.string ⟨#[]⟩) (.int .i64 0) (.int .i64 0)) := HZ.out.touch t1
            have hw1 : w.heap.size < w1.heap.size := Nat.lt_of_lt_of_le hwr t1.size
            clear t1
            go_wp2_with fail
            by_cases ha : ¬ wd.size < s.size
            · have HN2 := hid (next_of HN.out (HX.out (Or.inl ha)))
              have ha' : (s.size : Int) ≤ (wd.size : Int) := by omega
              go_quiet (fail)
              go_wp2
              go_roundw
              case rel => exact ⟨j + 1, by go_num, by omega, by omega, HN2, hid (tdrew (G1.out.alloc _) _), hid (Z1.out.touch (tdrew ((Touch.refl [] w1).alloc _) _))⟩
              case measure => simp [intOf]; omega
            replace ha := Classical.not_not.1 ha
            have ha' : ¬ (s.size : Int) ≤ (wd.size : Int) := by omega
            have ha2 : (wd.size : Int) < (s.size : Int) := by omega
            have ha3 : (0 : Int) ≤ (wd.size : Int) := by omega
            have hsl0 : ∀ w, (Instr.slice 9 (.string s) none (some (.int .i64 (wd.size : Int))) none).run Tryd.prog w = .ok (.string (s.extract 0 wd.size)) w := fun w => by rw [run_slice_string_h w 9 s Tryd.underlying9 .i64 (wd.size : Int) (by omega) (by omega), show ((wd.size : Int)).toNat = wd.size by omega]
            by_cases hb : s.extract 0 wd.size ≠ wd
            · have HN2 := hid (next_of HN.out (HX.out (Or.inr (Or.inl hb))))
              have hb' : ((s.extract 0 wd.size).toList == wd.toList) = false := Bool.eq_false_iff.2 (fun h => hb ((beqB _ _).1 h))
              generalize s.extract 0 wd.size = E0 at *
              go_quiet (fail)
              go_wp2
              go_roundw
              case rel => exact ⟨j + 1, by go_num, by omega, by omega, HN2, hid (tdrew (G1.out.alloc _) _), hid (Z1.out.touch (tdrew ((Touch.refl [] w1).alloc _) _))⟩
              case measure => simp [intOf]; omega
            replace hb := Classical.not_not.1 hb
            by_cases hc : s[wd.size].toNat ≠ 32
            · have HN2 := hid (next_of HN.out (HX.out (Or.inr (Or.inr ⟨ha, hc⟩))))
              have hb' : ((s.extract 0 wd.size).toList == wd.toList) = true := (beqB _ _).2 hb
              generalize s.extract 0 wd.size = E0 at *
              have hc' : ¬ (s[wd.size].toNat : Int) = 32 := by omega
              go_quiet (fail)
              go_wp2
              go_roundw
              case rel => exact ⟨j + 1, by go_num, by omega, by omega, HN2, hid (tdrew (G1.out.alloc _) _), hid (Z1.out.touch (tdrew ((Touch.refl [] w1).alloc _) _))⟩
              case measure => simp [intOf]; omega
            replace hc := Classical.not_not.1 hc
            have hb' : ((s.extract 0 wd.size).toList == wd.toList) = true := (beqB _ _).2 hb
            clear hb
            generalize s.extract 0 wd.size = E0 at *
            have hc' : (s[wd.size].toNat : Int) = 32 := by omega
            have hsl1 : ∀ w, (Instr.slice 9 (.string s) (some (.int .i64 ((wd.size : Int) + 1))) none none).run Tryd.prog w = .ok (.string (s.extract (wd.size + 1) s.size)) w := fun w => by rw [run_slice_string_l w 9 s Tryd.underlying9 .i64 ((wd.size : Int) + 1) (by omega) (by omega), show ((wd.size : Int) + 1).toNat = wd.size + 1 by omega]
            have hrz : (s.extract (wd.size + 1) s.size).size ≤ 2000000000 := by rw [ByteArray.size_extract]; omega
            have hwn : IntKind.i64.wrap ((wd.size : Int) + 1) = (wd.size : Int) + 1 := by rw [IntKind.wrap_i64]; omega
            generalize s.extract (wd.size + 1) s.size = r at *
            have HLa : Hid (∀ w', _) := fun w' => last62 r w' (by omega)
            have hl2 : (lastZ r).2.size ≤ 2000000000 := Nat.le_trans (lastZ_size r).2 hrz
            have hl1 : (lastZ r).1.size ≤ 2000000000 := Nat.le_trans (lastZ_size r).1 hrz
            have HNu : Hid (∀ w', _) := fun w' => number61 (lastZ r).2 w' (by omega)
            have HK : Hid (∀ w', _) := fun w' => kparseR_ (lastZ r).1 w' (by omega)
            have hw2 : w.heap.size < w1.heap.size + 1 := by omega
            go_quiet (fail)
            go_wp2_with fail
            refine (HLa.out _).mono ?_
            rintro e w2 ⟨rfl, g2⟩
            have t2 := g2.touch
            clear g2
            have hbq : ∀ q, w1.heap.size + 1 = ((w1.alloc (.cells #[.string wd, .bool true, .bool true, .bool false, .int .i64 lo, .int .i64 hi] 121)).drewN q).heap.size := fun q => by show w1.heap.size + 1 = (w1.alloc _).heap.size; simp
            have Z2 : Hid (Bx w2 w.heap.size (.int .i64 0) (.int .u16 0) (.string ⟨#[]⟩) (.int .i64 0) (.int .i64 0)) := ((Z1.out.touch (tdrew ((Touch.refl [] w1).alloc _) _)).touch ((Touch.refl [] _).alloc _)).touch t2
            have D2 : Hid (Bx w2 (w1.heap.size + 1) (.int .i64 j) (.int .u16 0) (.string ⟨#[]⟩) (.int .i64 0) (.int .i64 0)) := ⟨tcell t2 (newc (hbq _) 0 rfl), tcell t2 (newc (hbq _) 1 rfl), tcell t2 (newc (hbq _) 2 rfl), tcell t2 (newc (hbq _) 3 rfl), tcell t2 (newc (hbq _) 4 rfl), fun o => tfz t2 (newf (hbq _) o) (newl (hbq _))⟩
            have f1 : w2.cell? ⟨w1.heap.size, 1, none⟩ = some (.bool true) := tcell t2 (tcell ((tdrew (Touch.refl [] (w1.alloc _)) _).alloc _) (by simp))
            have f2 : w2.cell? ⟨w1.heap.size, 2, none⟩ = some (.bool true) := tcell t2 (tcell ((tdrew (Touch.refl [] (w1.alloc _)) _).alloc _) (by simp))
            have f3 : w2.cell? ⟨w1.heap.size, 3, none⟩ = some (.bool false) := tcell t2 (tcell ((tdrew (Touch.refl [] (w1.alloc _)) _).alloc _) (by simp))
            have hb : w1.heap.size + 1 < w2.heap.size := Nat.lt_of_lt_of_le (by simp) t2.size
            have G2 : Hid (Touch [] w w2) := ((tdrew (G1.out.alloc _) _).alloc _).trans' t2
            obtain ⟨d0, d1, d2, d3, d4, df⟩ := D2.out
            clear t2
            go_wp2_with fail
            refine (HNu.out _).mono ?_
            rintro e w3 ⟨⟨n, b, rfl, hno⟩, g3⟩
            have t3 := g3.touch
            clear g3
            have Z3 : Hid (Bx w3 w.heap.size (.int .i64 0) (.int .u16 0) (.string ⟨#[]⟩) (.int .i64 0) (.int .i64 0)) := (Z2.out).touch t3
            have D3 : Hid (Bx w3 (w1.heap.size + 1) (.int .i64 j) (.int .u16 0) (.string ⟨#[]⟩) (.int .i64 0) (.int .i64 0)) := (D2.out).touch t3
            clear d0 d1 d2 d3 d4 df
            replace f1 := tcell t3 (f1)
            replace f2 := tcell t3 (f2)
            replace f3 := tcell t3 (f3)
            replace hb := Nat.lt_of_lt_of_le hb t3.size
            have G3 : Hid (Touch [] w w3) := (G2.out).trans' t3
            obtain ⟨d0, d1, d2, d3, d4, df⟩ := D3.out
            clear t3
            have HNO := hid hno
            clear hno
            go_wp2_with fail
            refine (HK.out _).mono ?_
            rintro e w4 ⟨i1, rfl, hio, t4⟩
            have Z4 : Hid (Bx w4 w.heap.size (.int .i64 0) (.int .u16 0) (.string ⟨#[]⟩) (.int .i64 0) (.int .i64 0)) := (zset (Z3.out) hw2).touch t4
            have D4 : Hid (Bx w4 (w1.heap.size + 1) (.int .i64 j) (.int .u16 0) (.string ⟨#[]⟩) (.int .i64 0) (.int .i64 n)) := ((D3.out).set4 (.int .i64 n)).touch t4
            clear d0 d1 d2 d3 d4 df
            replace f1 := tcell t4 (ffar (f1))
            replace f2 := tcell t4 (ffar (f2))
            replace f3 := tcell t4 (ffar (f3))
            replace hb : w1.heap.size + 1 < w4.heap.size := Nat.lt_of_lt_of_le (by simp; omega) t4.size
            have G4 : Hid (Touch [] w w4) := (tset (G3.out) (Nat.le_of_lt hw2) 4 (.int .i64 n)).trans' t4
            obtain ⟨d0, d1, d2, d3, d4, df⟩ := D4.out
            clear t4
            have HIO := hid hio
            clear hio
            have HGs : Hid (Gs s j ⟨j, (kp (lastZ r).1).1, (kp (lastZ r).1).2.1, 0, n⟩) := fun d hd e0 => by obtain ⟨sp, nm, m, h1, h2, hm, e1, e2⟩ := HD.out d hd e0; obtain ⟨_, e3⟩ := HNO.out.2.2 m hm (by rw [← e1, lastZ_text]); rw [e2, e3, ← e1, lastZ_text, kp_text sp nm h1 h2]
            have HOk : Hid (∀ d, rdZ s = some d → d.op = j → b = true ∧ i1 < 0) := fun d hd e0 => by obtain ⟨sp, nm, m, h1, h2, hm, e1, e2⟩ := HD.out d hd e0; exact ⟨(HNO.out.2.2 m hm (by rw [← e1, lastZ_text])).1, HIO.out.1 (by rw [← e1, lastZ_text, kp_text sp nm h1 h2])⟩
            have hus : Usp ⟨j, (kp (lastZ r).1).1, (kp (lastZ r).1).2.1, 0, n⟩ := by have := kp_sp (lastZ r).1; unfold Usp; dsimp only; omega
            have hnmz : (Dz.nm ⟨j, (kp (lastZ r).1).1, (kp (lastZ r).1).2.1, 0, n⟩).size ≤ maxLen := Nat.le_trans (kp_nm (lastZ r).1) (by decide)
            have HM : Hid (∀ w', _) := fun w' => rmay_ ⟨j, (kp (lastZ r).1).1, (kp (lastZ r).1).2.1, 0, n⟩ w' hnmz
            have HLn : Hid (mayZ ⟨j, (kp (lastZ r).1).1, (kp (lastZ r).1).2.1, 0, n⟩ = true → ∀ w', _) := fun (hm : mayZ ⟨j, (kp (lastZ r).1).1, (kp (lastZ r).1).2.1, 0, n⟩ = true) w' => rline_ ⟨j, (kp (lastZ r).1).1, (kp (lastZ r).1).2.1, 0, n⟩ w' hm hus
            have HFm : Hid (mayZ ⟨j, (kp (lastZ r).1).1, (kp (lastZ r).1).2.1, 0, n⟩ = false → ∀ d, rdZ s = some d → d.op ≠ j) := fun h => gs_may HGs.out h
            have HFl : Hid (ln ⟨j, (kp (lastZ r).1).1, (kp (lastZ r).1).2.1, 0, n⟩ ≠ s → ∀ d, rdZ s = some d → d.op ≠ j) := fun h => gs_ln HGs.out h
            have HYs : Hid (mayZ ⟨j, (kp (lastZ r).1).1, (kp (lastZ r).1).2.1, 0, n⟩ = true → ln ⟨j, (kp (lastZ r).1).1, (kp (lastZ r).1).2.1, 0, n⟩ = s → rdZ s = some ⟨j, (kp (lastZ r).1).1, (kp (lastZ r).1).2.1, 0, n⟩) := fun h1 h2 => gs_yes h1 hus h2
            dsimp only at HM HLn HFm HFl HYs
            generalize mayZ ⟨j, (kp (lastZ r).1).1, (kp (lastZ r).1).2.1, 0, n⟩ = mb at *
            generalize ln ⟨j, (kp (lastZ r).1).1, (kp (lastZ r).1).2.1, 0, n⟩ = X at *
            clear HGs hus hnmz
            generalize (kp (lastZ r).1).1 = P at *
            generalize (kp (lastZ r).1).2.1 = Q at *
            cases b with
            | false =>
              have HN2 := hid (next_of HN.out (fun d hd e0 => by have h := HOk.out d hd e0; simp at h))
              go_wp2_with fail
              go_roundw
              case rel => exact ⟨j + 1, by go_num, by omega, by omega, HN2, hid ((tset (tset (G4.out) (Nat.le_of_lt hw2) 1 (.int .u16 P)) (Nat.le_of_lt hw2) 2 (.string Q)).alloc _), hid ((zset (zset (Z4.out) hw2) hw2).touch ((Touch.refl [] _).alloc _))⟩
              case measure => simp [intOf]; omega
            | true =>
              by_cases hi1 : ¬ i1 < 0
              · have HN2 := hid (next_of HN.out (fun d hd e0 => by have h := HOk.out d hd e0; first | omega | (simp at h; omega)))
                go_wp2_with fail
                go_roundw
                case rel => exact ⟨j + 1, by go_num, by omega, by omega, HN2, hid ((tset (tset (G4.out) (Nat.le_of_lt hw2) 1 (.int .u16 P)) (Nat.le_of_lt hw2) 2 (.string Q)).alloc _), hid ((zset (zset (Z4.out) hw2) hw2).touch ((Touch.refl [] _).alloc _))⟩
                case measure => simp [intOf]; omega
              replace hi1 := Classical.not_not.1 hi1
              go_wp2_with fail
              refine (HM.out _).mono ?_
              rintro e w5 ⟨rfl, t5⟩
              have Z5 : Hid (Bx w5 w.heap.size (.int .i64 0) (.int .u16 0) (.string ⟨#[]⟩) (.int .i64 0) (.int .i64 0)) := ((zset (zset (Z4.out) hw2) hw2).touch ((Touch.refl [] _).alloc _)).touch t5
              have D5 : Hid (Bx w5 (w1.heap.size + 1) (.int .i64 j) (.int .u16 P) (.string Q) (.int .i64 0) (.int .i64 n)) := ((((D4.out).set1 (.int .u16 P)).set2 (.string Q)).touch ((Touch.refl [] _).alloc _)).touch t5
              clear d0 d1 d2 d3 d4 df
              replace f1 := tcell t5 (tcell ((Touch.refl [] _).alloc _) (ffar (ffar (f1))))
              replace f2 := tcell t5 (tcell ((Touch.refl [] _).alloc _) (ffar (ffar (f2))))
              replace f3 := tcell t5 (tcell ((Touch.refl [] _).alloc _) (ffar (ffar (f3))))
              replace hb : w1.heap.size + 1 < w5.heap.size := Nat.lt_of_lt_of_le (by simp; omega) t5.size
              have G5 : Hid (Touch [] w w5) := ((tset (tset (G4.out) (Nat.le_of_lt hw2) 1 (.int .u16 P)) (Nat.le_of_lt hw2) 2 (.string Q)).alloc _).trans' t5
              obtain ⟨d0, d1, d2, d3, d4, df⟩ := D5.out
              clear t5
              cases mb with
              | false =>
                have HN2 := hid (next_of HN.out (HFm.out (by trivial)))
                go_wp2_with fail
                go_roundw
                case rel => exact ⟨j + 1, by go_num, by omega, by omega, HN2, hid (G5.out), hid (Z5.out)⟩
                case measure => simp [intOf]; omega
              | true =>
                go_wp2_with fail
                refine (HLn.out (by trivial) _).mono ?_
                rintro e w6 ⟨rfl, t6⟩
                have Z6 : Hid (Bx w6 w.heap.size (.int .i64 0) (.int .u16 0) (.string ⟨#[]⟩) (.int .i64 0) (.int .i64 0)) := (Z5.out).touch t6
                have D6 : Hid (Bx w6 (w1.heap.size + 1) (.int .i64 j) (.int .u16 P) (.string Q) (.int .i64 0) (.int .i64 n)) := (D5.out).touch t6
                clear d0 d1 d2 d3 d4 df
                replace f1 := tcell t6 (f1)
                replace f2 := tcell t6 (f2)
                replace f3 := tcell t6 (f3)
                replace hb := Nat.lt_of_lt_of_le hb t6.size
                have G6 : Hid (Touch [] w w6) := (G5.out).trans' t6
                obtain ⟨d0, d1, d2, d3, d4, df⟩ := D6.out
                clear t6
                by_cases hx : X = s
                · have HRD := hid (HYs.out (by trivial) hx)
                  have hbx : (X.toList == s.toList) = true := (beqB _ _).2 hx
                  clear hx
                  obtain ⟨z0, z1, z2, z3, z4, zf⟩ := Z6.out
                  go_wp2_with fail
                  exact bodyPost_ret (v := doV (some ⟨j, P, Q, 0, n⟩)) (by simp [results, Tryd.results38, go_sem, doV, z0, z1, z2, z3, z4]) rfl
                    ⟨by rw [HRD.out], tset5 (G6.out)⟩
                · have HN2 := hid (next_of HN.out (HFl.out hx))
                  have hbx : (X.toList == s.toList) = false := Bool.eq_false_iff.2 (fun h => hx ((beqB _ _).1 h))
                  clear hx
                  go_wp2_with fail
                  go_roundw
                  case rel => exact ⟨j + 1, by go_num, by omega, by omega, HN2, hid (G6.out), hid (Z6.out)⟩
                  case measure => simp [intOf]; omega
        · have k0 : kKey j = true := by rcases c7 n0 with h | h; exact h; exact absurd h s0
          rw [k0, decide_eq_false n0, decide_eq_false s0] at HF
          replace HF := hid HF
          have HD : Hid _ := @op_key s j k0 s0
          clear c1 c2 c3 c4 c5 c6 c7 n0 k0 s0
          generalize hwd : kWord j = wd at *
          clear hwd
          go_wp2_with fail
          refine (HF.out _).mono ?_
          rintro e w1 ⟨rfl, t1⟩
          have G1 : Hid (Touch [] w w1) := HT.out.trans' t1
          have Z1 : Hid (Bx w1 w.heap.size (.int .i64 0) (.int .u16 0) (.string ⟨#[]⟩) (.int .i64 0) (.int .i64 0)) := HZ.out.touch t1
          have hw1 : w.heap.size < w1.heap.size := Nat.lt_of_lt_of_le hwr t1.size
          clear t1
          go_wp2_with fail
          by_cases ha : ¬ wd.size < s.size
          · have HN2 := hid (next_of HN.out (HX.out (Or.inl ha)))
            have ha' : (s.size : Int) ≤ (wd.size : Int) := by omega
            go_quiet (fail)
            go_wp2
            go_roundw
            case rel => exact ⟨j + 1, by go_num, by omega, by omega, HN2, hid (tdrew (G1.out.alloc _) _), hid (Z1.out.touch (tdrew ((Touch.refl [] w1).alloc _) _))⟩
            case measure => simp [intOf]; omega
          replace ha := Classical.not_not.1 ha
          have ha' : ¬ (s.size : Int) ≤ (wd.size : Int) := by omega
          have ha2 : (wd.size : Int) < (s.size : Int) := by omega
          have ha3 : (0 : Int) ≤ (wd.size : Int) := by omega
          have hsl0 : ∀ w, (Instr.slice 9 (.string s) none (some (.int .i64 (wd.size : Int))) none).run Tryd.prog w = .ok (.string (s.extract 0 wd.size)) w := fun w => by rw [run_slice_string_h w 9 s Tryd.underlying9 .i64 (wd.size : Int) (by omega) (by omega), show ((wd.size : Int)).toNat = wd.size by omega]
          by_cases hb : s.extract 0 wd.size ≠ wd
          · have HN2 := hid (next_of HN.out (HX.out (Or.inr (Or.inl hb))))
            have hb' : ((s.extract 0 wd.size).toList == wd.toList) = false := Bool.eq_false_iff.2 (fun h => hb ((beqB _ _).1 h))
            generalize s.extract 0 wd.size = E0 at *
            go_quiet (fail)
            go_wp2
            go_roundw
            case rel => exact ⟨j + 1, by go_num, by omega, by omega, HN2, hid (tdrew (G1.out.alloc _) _), hid (Z1.out.touch (tdrew ((Touch.refl [] w1).alloc _) _))⟩
            case measure => simp [intOf]; omega
          replace hb := Classical.not_not.1 hb
          by_cases hc : s[wd.size].toNat ≠ 32
          · have HN2 := hid (next_of HN.out (HX.out (Or.inr (Or.inr ⟨ha, hc⟩))))
            have hb' : ((s.extract 0 wd.size).toList == wd.toList) = true := (beqB _ _).2 hb
            generalize s.extract 0 wd.size = E0 at *
            have hc' : ¬ (s[wd.size].toNat : Int) = 32 := by omega
            go_quiet (fail)
            go_wp2
            go_roundw
            case rel => exact ⟨j + 1, by go_num, by omega, by omega, HN2, hid (tdrew (G1.out.alloc _) _), hid (Z1.out.touch (tdrew ((Touch.refl [] w1).alloc _) _))⟩
            case measure => simp [intOf]; omega
          replace hc := Classical.not_not.1 hc
          have hb' : ((s.extract 0 wd.size).toList == wd.toList) = true := (beqB _ _).2 hb
          clear hb
          generalize s.extract 0 wd.size = E0 at *
          have hc' : (s[wd.size].toNat : Int) = 32 := by omega
          have hsl1 : ∀ w, (Instr.slice 9 (.string s) (some (.int .i64 ((wd.size : Int) + 1))) none none).run Tryd.prog w = .ok (.string (s.extract (wd.size + 1) s.size)) w := fun w => by rw [run_slice_string_l w 9 s Tryd.underlying9 .i64 ((wd.size : Int) + 1) (by omega) (by omega), show ((wd.size : Int) + 1).toNat = wd.size + 1 by omega]
          have hrz : (s.extract (wd.size + 1) s.size).size ≤ 2000000000 := by rw [ByteArray.size_extract]; omega
          have hwn : IntKind.i64.wrap ((wd.size : Int) + 1) = (wd.size : Int) + 1 := by rw [IntKind.wrap_i64]; omega
          generalize s.extract (wd.size + 1) s.size = r at *
          have HK : Hid (∀ w', _) := fun w' => kparseR_ r w' (by omega)
          have hw2 : w.heap.size < w1.heap.size + 1 := by omega
          go_quiet (fail)
          go_wp2_with fail
          refine (HK.out _).mono ?_
          rintro e w2 ⟨i1, rfl, hio, t2⟩
          have hbq : ∀ q, w1.heap.size + 1 = ((w1.alloc (.cells #[.string wd, .bool true, .bool false, .bool false, .int .i64 lo, .int .i64 hi] 121)).drewN q).heap.size := fun q => by show w1.heap.size + 1 = (w1.alloc _).heap.size; simp
          have Z2 : Hid (Bx w2 w.heap.size (.int .i64 0) (.int .u16 0) (.string ⟨#[]⟩) (.int .i64 0) (.int .i64 0)) := ((Z1.out.touch (tdrew ((Touch.refl [] w1).alloc _) _)).touch ((Touch.refl [] _).alloc _)).touch t2
          have D2 : Hid (Bx w2 (w1.heap.size + 1) (.int .i64 j) (.int .u16 0) (.string ⟨#[]⟩) (.int .i64 0) (.int .i64 0)) := ⟨tcell t2 (newc (hbq _) 0 rfl), tcell t2 (newc (hbq _) 1 rfl), tcell t2 (newc (hbq _) 2 rfl), tcell t2 (newc (hbq _) 3 rfl), tcell t2 (newc (hbq _) 4 rfl), fun o => tfz t2 (newf (hbq _) o) (newl (hbq _))⟩
          have f1 : w2.cell? ⟨w1.heap.size, 1, none⟩ = some (.bool true) := tcell t2 (tcell ((tdrew (Touch.refl [] (w1.alloc _)) _).alloc _) (by simp))
          have f2 : w2.cell? ⟨w1.heap.size, 2, none⟩ = some (.bool false) := tcell t2 (tcell ((tdrew (Touch.refl [] (w1.alloc _)) _).alloc _) (by simp))
          have f3 : w2.cell? ⟨w1.heap.size, 3, none⟩ = some (.bool false) := tcell t2 (tcell ((tdrew (Touch.refl [] (w1.alloc _)) _).alloc _) (by simp))
          have hb : w1.heap.size + 1 < w2.heap.size := Nat.lt_of_lt_of_le (by simp) t2.size
          have G2 : Hid (Touch [] w w2) := ((tdrew (G1.out.alloc _) _).alloc _).trans' t2
          obtain ⟨d0, d1, d2, d3, d4, df⟩ := D2.out
          clear t2
          have HIO := hid hio
          clear hio
          have HGs : Hid (Gs s j ⟨j, (kp r).1, (kp r).2.1, 0, 0⟩) := fun d hd e0 => by obtain ⟨sp, nm, h1, h2, e1, e2⟩ := HD.out d hd e0; rw [e2, ← e1, kp_text sp nm h1 h2]
          have HOk : Hid (∀ d, rdZ s = some d → d.op = j → i1 < 0) := fun d hd e0 => by obtain ⟨sp, nm, h1, h2, e1, e2⟩ := HD.out d hd e0; exact HIO.out.1 (by rw [← e1, kp_text sp nm h1 h2])
          have hus : Usp ⟨j, (kp r).1, (kp r).2.1, 0, 0⟩ := by have := kp_sp r; unfold Usp; dsimp only; omega
          have hnmz : (Dz.nm ⟨j, (kp r).1, (kp r).2.1, 0, 0⟩).size ≤ maxLen := Nat.le_trans (kp_nm r) (by decide)
          have HM : Hid (∀ w', _) := fun w' => rmay_ ⟨j, (kp r).1, (kp r).2.1, 0, 0⟩ w' hnmz
          have HLn : Hid (mayZ ⟨j, (kp r).1, (kp r).2.1, 0, 0⟩ = true → ∀ w', _) := fun (hm : mayZ ⟨j, (kp r).1, (kp r).2.1, 0, 0⟩ = true) w' => rline_ ⟨j, (kp r).1, (kp r).2.1, 0, 0⟩ w' hm hus
          have HFm : Hid (mayZ ⟨j, (kp r).1, (kp r).2.1, 0, 0⟩ = false → ∀ d, rdZ s = some d → d.op ≠ j) := fun h => gs_may HGs.out h
          have HFl : Hid (ln ⟨j, (kp r).1, (kp r).2.1, 0, 0⟩ ≠ s → ∀ d, rdZ s = some d → d.op ≠ j) := fun h => gs_ln HGs.out h
          have HYs : Hid (mayZ ⟨j, (kp r).1, (kp r).2.1, 0, 0⟩ = true → ln ⟨j, (kp r).1, (kp r).2.1, 0, 0⟩ = s → rdZ s = some ⟨j, (kp r).1, (kp r).2.1, 0, 0⟩) := fun h1 h2 => gs_yes h1 hus h2
          dsimp only at HM HLn HFm HFl HYs
          generalize mayZ ⟨j, (kp r).1, (kp r).2.1, 0, 0⟩ = mb at *
          generalize ln ⟨j, (kp r).1, (kp r).2.1, 0, 0⟩ = X at *
          clear HGs hus hnmz
          generalize (kp r).1 = P at *
          generalize (kp r).2.1 = Q at *
          by_cases hi1 : ¬ i1 < 0
          · have HN2 := hid (next_of HN.out (fun d hd e0 => by have h := HOk.out d hd e0; first | omega | (simp at h; omega)))
            go_wp2_with fail
            go_roundw
            case rel => exact ⟨j + 1, by go_num, by omega, by omega, HN2, hid ((tset (tset (G2.out) (Nat.le_of_lt hw2) 1 (.int .u16 P)) (Nat.le_of_lt hw2) 2 (.string Q)).alloc _), hid ((zset (zset (Z2.out) hw2) hw2).touch ((Touch.refl [] _).alloc _))⟩
            case measure => simp [intOf]; omega
          replace hi1 := Classical.not_not.1 hi1
          go_wp2_with fail
          refine (HM.out _).mono ?_
          rintro e w3 ⟨rfl, t3⟩
          have Z3 : Hid (Bx w3 w.heap.size (.int .i64 0) (.int .u16 0) (.string ⟨#[]⟩) (.int .i64 0) (.int .i64 0)) := ((zset (zset (Z2.out) hw2) hw2).touch ((Touch.refl [] _).alloc _)).touch t3
          have D3 : Hid (Bx w3 (w1.heap.size + 1) (.int .i64 j) (.int .u16 P) (.string Q) (.int .i64 0) (.int .i64 0)) := ((((D2.out).set1 (.int .u16 P)).set2 (.string Q)).touch ((Touch.refl [] _).alloc _)).touch t3
          clear d0 d1 d2 d3 d4 df
          replace f1 := tcell t3 (tcell ((Touch.refl [] _).alloc _) (ffar (ffar (f1))))
          replace f2 := tcell t3 (tcell ((Touch.refl [] _).alloc _) (ffar (ffar (f2))))
          replace f3 := tcell t3 (tcell ((Touch.refl [] _).alloc _) (ffar (ffar (f3))))
          replace hb : w1.heap.size + 1 < w3.heap.size := Nat.lt_of_lt_of_le (by simp; omega) t3.size
          have G3 : Hid (Touch [] w w3) := ((tset (tset (G2.out) (Nat.le_of_lt hw2) 1 (.int .u16 P)) (Nat.le_of_lt hw2) 2 (.string Q)).alloc _).trans' t3
          obtain ⟨d0, d1, d2, d3, d4, df⟩ := D3.out
          clear t3
          cases mb with
          | false =>
            have HN2 := hid (next_of HN.out (HFm.out (by trivial)))
            go_wp2_with fail
            go_roundw
            case rel => exact ⟨j + 1, by go_num, by omega, by omega, HN2, hid (G3.out), hid (Z3.out)⟩
            case measure => simp [intOf]; omega
          | true =>
            go_wp2_with fail
            refine (HLn.out (by trivial) _).mono ?_
            rintro e w4 ⟨rfl, t4⟩
            have Z4 : Hid (Bx w4 w.heap.size (.int .i64 0) (.int .u16 0) (.string ⟨#[]⟩) (.int .i64 0) (.int .i64 0)) := (Z3.out).touch t4
            have D4 : Hid (Bx w4 (w1.heap.size + 1) (.int .i64 j) (.int .u16 P) (.string Q) (.int .i64 0) (.int .i64 0)) := (D3.out).touch t4
            clear d0 d1 d2 d3 d4 df
            replace f1 := tcell t4 (f1)
            replace f2 := tcell t4 (f2)
            replace f3 := tcell t4 (f3)
            replace hb := Nat.lt_of_lt_of_le hb t4.size
            have G4 : Hid (Touch [] w w4) := (G3.out).trans' t4
            obtain ⟨d0, d1, d2, d3, d4, df⟩ := D4.out
            clear t4
            by_cases hx : X = s
            · have HRD := hid (HYs.out (by trivial) hx)
              have hbx : (X.toList == s.toList) = true := (beqB _ _).2 hx
              clear hx
              obtain ⟨z0, z1, z2, z3, z4, zf⟩ := Z4.out
              go_wp2_with fail
              exact bodyPost_ret (v := doV (some ⟨j, P, Q, 0, 0⟩)) (by simp [results, Tryd.results38, go_sem, doV, z0, z1, z2, z3, z4]) rfl
                ⟨by rw [HRD.out], tset5 (G4.out)⟩
            · have HN2 := hid (next_of HN.out (HFl.out hx))
              have hbx : (X.toList == s.toList) = false := Bool.eq_false_iff.2 (fun h => hx ((beqB _ _).1 h))
              clear hx
              go_wp2_with fail
              go_roundw
              case rel => exact ⟨j + 1, by go_num, by omega, by omega, HN2, hid (G4.out), hid (Z4.out)⟩
              case measure => simp [intOf]; omega
    · have hz : ¬ (j : Int) ≤ 9 := by omega
      have HE : Hid (rdZ s = none) := end_of (by have := HN.out; rw [show j = 10 by omega] at this; exact this)
      obtain ⟨z0, z1, z2, z3, z4, zf⟩ := HZ.out
      go_wp2
      exact bodyPost_ret (v := doV none) (by simp [results, Tryd.results38, go_sem, doV, z0, z1, z2, z3, z4]) rfl
        ⟨by rw [HE.out], tset5 HT.out⟩
end Go.Proofs.YthakboiecdjgnaaDoor.Kt
