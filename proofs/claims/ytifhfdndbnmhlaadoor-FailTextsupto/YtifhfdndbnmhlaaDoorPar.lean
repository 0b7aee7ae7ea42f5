/- The contracts of the program's reading of a failure from a text; the conditions: the listed variables hold what the start lays, the library's one other variable holds a number, and the text is not too long. -/
import Derived.Test.YtifhfdndbnmhlaaDoorThy
import Derived.Deep.RegionWith
import Derived.Lib.AtoiErrMem
import Derived.Test.YtifhfdndbnmhlaaDoorMay
import Derived.Test.YtifhfdndbnmhlaaDoorAwk
namespace Go.Proofs.YtifhfdndbnmhlaaDoor
open Go.RowKit Go.Sort
set_option linter.unusedVariables false

/-- the variables that reading a text leans on -/
structure Sp (w : World) : Prop where
  st : St w
  es : ∃ te pe, w.cell? ⟨3, 0, none⟩ = some (.iface te pe)
  er : ∃ te pe, w.cell? ⟨4, 0, none⟩ = some (.iface te pe)
  ml : ∃ m, w.cell? ⟨2, 0, none⟩ = some (.int .i64 m)
theorem Sp.gr {w w' : World} (h : Sp w) (hg : Gr w w') : Sp w' := by
  obtain ⟨h1, ⟨a, b, h2⟩, ⟨c, d, h3⟩, ⟨m, h4⟩⟩ := h
  exact ⟨h1.gr hg, ⟨a, b, hg.cell' h2⟩, ⟨c, d, hg.cell' h3⟩, ⟨m, hg.cell' h4⟩⟩
theorem cut_size (l : List UInt8) : (Lib.cut l [32]).1.length ≤ l.length ∧ (Lib.cut l [32]).2.1.length ≤ l.length := by
  unfold Lib.cut
  split
  · simp only [List.length_take, List.length_drop]
    omega
  · exact ⟨Nat.le_refl _, Nat.zero_le _⟩
theorem cut41 (s : ByteArray) (w : World) (hS : Sp w) (hs : s.size ≤ 4194304) :
    Calls Tryd.prog 41 #[.string s, .string ⟨#[32]⟩] w fun e w' => e = .returned (.tuple #[.string ⟨(Lib.cut s.data.toList [32]).1.toArray⟩, .string ⟨(Lib.cut s.data.toList [32]).2.1.toArray⟩, .bool (Lib.cut s.data.toList [32]).2.2]) ∧ Gr w w' := by
  obtain ⟨m, hm⟩ := hS.ml
  exact (Tryd.strings_Cut s ⟨#[32]⟩ m w (by omega) hm).mono fun e w' ⟨he, n, hn⟩ => ⟨he, by rw [hn]; exact (Gr.refl w).drewN n⟩
theorem atoi42 (s : ByteArray) (w : World) (hS : Sp w) (hs : s.size ≤ 4194304) :
    Calls Tryd.prog 42 #[.string s] w fun e w' => ∃ ev, e = .returned (.tuple #[.int .i64 (atoiV s.data.toList), ev]) ∧ Gr w w' := by
  obtain ⟨te, pe, h3⟩ := hS.es
  obtain ⟨te', pe', h4⟩ := hS.er
  unfold atoiV
  cases h : Lib.atoiAll s.data.toList with
  | ok v =>
    refine (Tryd.strconv_Atoi_ok s (by omega) v h w).mono fun e w' ⟨he, hw⟩ => ⟨_, he, ?_⟩
    rcases hw with rfl | ⟨t, rfl⟩
    · exact Gr.refl _
    · exact Lib.bytesWorld_below w 5 t
  | range => exact (Tryd.strconv_Atoi_range s (by omega) h _ w h4 (Or.inr ⟨_, _, rfl⟩)).mono fun e w' ⟨N, he, _, _, hb⟩ => ⟨_, he, hb⟩
  | _ => exact (Any.strconv_Atoi_syntax Tryd.laysC172 s (by omega) h _ w h3 (Or.inr ⟨_, _, rfl⟩)).mono fun e w' ⟨N, he, _, _, hb⟩ => ⟨_, he, hb⟩
set_option maxRecDepth 20000 in
set_option maxHeartbeats 1000000 in
theorem kindOf43 (s : ByteArray) (w : World) (hw : Wo w) : Calls Tryd.prog 43 #[.string s] w fun e w' => e = .returned (.int .i64 (kindI s.data.toList)) ∧ Gr w w' := by
  obtain ⟨c0, c1, c2, c3, c4, c5⟩ := hw
  have ix0 : ∀ w, (Instr.index 66 (.agg #[.string wNone, .string wLoad, .string wPanic, .string wCancel, .string wBusy, .string wAbort]) (.int .i64 0)).run Tryd.prog w = .ok (.string wNone) w := fun w => by kernel_rfl
  have ix1 : ∀ w, (Instr.index 66 (.agg #[.string wNone, .string wLoad, .string wPanic, .string wCancel, .string wBusy, .string wAbort]) (.int .i64 1)).run Tryd.prog w = .ok (.string wLoad) w := fun w => by kernel_rfl
  have ix2 : ∀ w, (Instr.index 66 (.agg #[.string wNone, .string wLoad, .string wPanic, .string wCancel, .string wBusy, .string wAbort]) (.int .i64 2)).run Tryd.prog w = .ok (.string wPanic) w := fun w => by kernel_rfl
  have ix3 : ∀ w, (Instr.index 66 (.agg #[.string wNone, .string wLoad, .string wPanic, .string wCancel, .string wBusy, .string wAbort]) (.int .i64 3)).run Tryd.prog w = .ok (.string wCancel) w := fun w => by kernel_rfl
  have ix4 : ∀ w, (Instr.index 66 (.agg #[.string wNone, .string wLoad, .string wPanic, .string wCancel, .string wBusy, .string wAbort]) (.int .i64 4)).run Tryd.prog w = .ok (.string wBusy) w := fun w => by kernel_rfl
  have ix5 : ∀ w, (Instr.index 66 (.agg #[.string wNone, .string wLoad, .string wPanic, .string wCancel, .string wBusy, .string wAbort]) (.int .i64 5)).run Tryd.prog w = .ok (.string wAbort) w := fun w => by kernel_rfl
  go_enter Tryd.func43, Tryd.ntmps43
  go_wp2
  go_loopw [6] (fun i wr => ∃ j : Nat, i = .int .i64 j ∧ j ≤ 6 ∧ Hid ((0 < j → s ≠ wNone) ∧ (1 < j → s ≠ wLoad) ∧ (2 < j → s ≠ wPanic) ∧ (3 < j → s ≠ wCancel) ∧ (4 < j → s ≠ wBusy) ∧ (5 < j → s ≠ wAbort)) ∧ wr = w) (fun i _ => 6 - (intOf i).toNat)
  case atStart => exact ⟨0, rfl, by omega, ⟨by omega, by omega, by omega, by omega, by omega, by omega⟩, rfl⟩
  case round =>
    obtain ⟨j, rfl, hj, H, rfl⟩ := hrel
    rcases (by omega : j = 0 ∨ j = 1 ∨ j = 2 ∨ j = 3 ∨ j = 4 ∨ j = 5 ∨ j = 6) with rfl | rfl | rfl | rfl | rfl | rfl | rfl
    · by_cases hs : s = wNone
      · subst hs
        go_wp2
        go_ret
        exact ⟨rfl, Gr.refl _⟩
      · have HN : Hid (s ≠ wNone) := hs
        clear hs
        go_wp2
        · rename_i h
          exact absurd (eq_of_beq h) (fun h => HN.out (by rw [ByteArray.toList_eq] at h; exact ByteArray.ext (Array.toList_inj.1 h.symm)))
        go_roundw
        case rel => exact ⟨1, rfl, by omega, ⟨fun _ => HN.out, by omega, by omega, by omega, by omega, by omega⟩, by first | rfl | trivial⟩
        case measure => simp [intOf]
    · by_cases hs : s = wLoad
      · subst hs
        go_wp2
        go_ret
        exact ⟨rfl, Gr.refl _⟩
      · have HN : Hid (s ≠ wLoad) := hs
        clear hs
        go_wp2
        · rename_i h
          exact absurd (eq_of_beq h) (fun h => HN.out (by rw [ByteArray.toList_eq] at h; exact ByteArray.ext (Array.toList_inj.1 h.symm)))
        go_roundw
        case rel => exact ⟨2, rfl, by omega, ⟨fun _ => H.out.1 (by omega), fun _ => HN.out, by omega, by omega, by omega, by omega⟩, by first | rfl | trivial⟩
        case measure => simp [intOf]
    · by_cases hs : s = wPanic
      · subst hs
        go_wp2
        go_ret
        exact ⟨rfl, Gr.refl _⟩
      · have HN : Hid (s ≠ wPanic) := hs
        clear hs
        go_wp2
        · rename_i h
          exact absurd (eq_of_beq h) (fun h => HN.out (by rw [ByteArray.toList_eq] at h; exact ByteArray.ext (Array.toList_inj.1 h.symm)))
        go_roundw
        case rel => exact ⟨3, rfl, by omega, ⟨fun _ => H.out.1 (by omega), fun _ => H.out.2.1 (by omega), fun _ => HN.out, by omega, by omega, by omega⟩, by first | rfl | trivial⟩
        case measure => simp [intOf]
    · by_cases hs : s = wCancel
      · subst hs
        go_wp2
        go_ret
        exact ⟨rfl, Gr.refl _⟩
      · have HN : Hid (s ≠ wCancel) := hs
        clear hs
        go_wp2
        · rename_i h
          exact absurd (eq_of_beq h) (fun h => HN.out (by rw [ByteArray.toList_eq] at h; exact ByteArray.ext (Array.toList_inj.1 h.symm)))
        go_roundw
        case rel => exact ⟨4, rfl, by omega, ⟨fun _ => H.out.1 (by omega), fun _ => H.out.2.1 (by omega), fun _ => H.out.2.2.1 (by omega), fun _ => HN.out, by omega, by omega⟩, by first | rfl | trivial⟩
        case measure => simp [intOf]
    · by_cases hs : s = wBusy
      · subst hs
        go_wp2
        go_ret
        exact ⟨rfl, Gr.refl _⟩
      · have HN : Hid (s ≠ wBusy) := hs
        clear hs
        go_wp2
        · rename_i h
          exact absurd (eq_of_beq h) (fun h => HN.out (by rw [ByteArray.toList_eq] at h; exact ByteArray.ext (Array.toList_inj.1 h.symm)))
        go_roundw
        case rel => exact ⟨5, rfl, by omega, ⟨fun _ => H.out.1 (by omega), fun _ => H.out.2.1 (by omega), fun _ => H.out.2.2.1 (by omega), fun _ => H.out.2.2.2.1 (by omega), fun _ => HN.out, by omega⟩, by first | rfl | trivial⟩
        case measure => simp [intOf]
    · by_cases hs : s = wAbort
      · subst hs
        go_wp2
        go_ret
        exact ⟨rfl, Gr.refl _⟩
      · have HN : Hid (s ≠ wAbort) := hs
        clear hs
        go_wp2
        · rename_i h
          exact absurd (eq_of_beq h) (fun h => HN.out (by rw [ByteArray.toList_eq] at h; exact ByteArray.ext (Array.toList_inj.1 h.symm)))
        go_roundw
        case rel => exact ⟨6, rfl, by omega, ⟨fun _ => H.out.1 (by omega), fun _ => H.out.2.1 (by omega), fun _ => H.out.2.2.1 (by omega), fun _ => H.out.2.2.2.1 (by omega), fun _ => H.out.2.2.2.2.1 (by omega), fun _ => HN.out⟩, by first | rfl | trivial⟩
        case measure => simp [intOf]
    · have hk : kindI s.data.toList = -1 := by
        have key : ∀ (t : ByteArray), s ≠ t → ¬ s.data.toList = t.data.toList := fun t h e => h (ByteArray.ext (Array.toList_inj.1 e))
        unfold kindI
        rw [if_neg (key wNone (H.out.1 (by omega))), if_neg (key wLoad (H.out.2.1 (by omega))), if_neg (key wPanic (H.out.2.2.1 (by omega))), if_neg (key wCancel (H.out.2.2.2.1 (by omega))), if_neg (key wBusy (H.out.2.2.2.2.1 (by omega))), if_neg (key wAbort (H.out.2.2.2.2.2 (by omega)))]
      have HK : Hid (kindI s.data.toList = -1) := hk
      clear hk
      go_wp2
      go_ret
      exact ⟨by rw [HK.out]; rfl, Gr.refl _⟩
set_option maxRecDepth 20000 in
set_option maxHeartbeats 1000000 in
theorem read32 (s : ByteArray) (w : World) (hS : Sp w) (hs : s.size ≤ 4194304) : Calls Tryd.prog 32 #[.string s] w fun e w' => e = .returned (fl (readF s.data.toList).1 (readF s.data.toList).2.1 (readF s.data.toList).2.2) ∧ Gr w w' := by
  have HS : Hid (Sp w) := hS
  have hz1 : (Lib.cut s.data.toList [32]).1.toArray.size ≤ 4194304 := by have := cut_size s.data.toList; have h2 : s.size = s.data.toList.length := rfl; simp only [List.size_toArray]; omega
  have hz2 : (Lib.cut s.data.toList [32]).2.1.toArray.size ≤ 4194304 := by have := cut_size s.data.toList; have h2 : s.size = s.data.toList.length := rfl; simp only [List.size_toArray]; omega
  have hz3 : (Lib.cut (Lib.cut s.data.toList [32]).2.1 [32]).1.toArray.size ≤ 4194304 := by have := cut_size (Lib.cut s.data.toList [32]).2.1; simp only [List.size_toArray] at *; omega
  have hz4 : (Lib.cut (Lib.cut s.data.toList [32]).2.1 [32]).2.1.toArray.size ≤ 4194304 := by have := cut_size (Lib.cut s.data.toList [32]).2.1; simp only [List.size_toArray] at *; omega
  have HV : Hid (readF s.data.toList = (kindI (Lib.cut s.data.toList [32]).1, atoiV (Lib.cut (Lib.cut s.data.toList [32]).2.1 [32]).1, atoiV (Lib.cut (Lib.cut s.data.toList [32]).2.1 [32]).2.1)) := rfl
  rw [HV.out]
  have C1 : Hid (∀ w, Sp w → Calls Tryd.prog 41 #[.string s, .string ⟨#[32]⟩] w fun e w' => e = .returned (.tuple #[.string ⟨(Lib.cut s.data.toList [32]).1.toArray⟩, .string ⟨(Lib.cut s.data.toList [32]).2.1.toArray⟩, .bool (Lib.cut s.data.toList [32]).2.2]) ∧ Gr w w') := fun w h => cut41 s w h hs
  have C2 : Hid (∀ w, Sp w → Calls Tryd.prog 41 #[.string ⟨(Lib.cut s.data.toList [32]).2.1.toArray⟩, .string ⟨#[32]⟩] w fun e w' => e = .returned (.tuple #[.string ⟨(Lib.cut (Lib.cut s.data.toList [32]).2.1 [32]).1.toArray⟩, .string ⟨(Lib.cut (Lib.cut s.data.toList [32]).2.1 [32]).2.1.toArray⟩, .bool (Lib.cut (Lib.cut s.data.toList [32]).2.1 [32]).2.2]) ∧ Gr w w') := fun w h => cut41 ⟨(Lib.cut s.data.toList [32]).2.1.toArray⟩ w h hz2
  generalize (Lib.cut s.data.toList [32]).2.2 = t1 at *
  generalize (Lib.cut (Lib.cut s.data.toList [32]).2.1 [32]).2.2 = t2 at *
  generalize (Lib.cut (Lib.cut s.data.toList [32]).2.1 [32]).1 = l1 at *
  generalize (Lib.cut (Lib.cut s.data.toList [32]).2.1 [32]).2.1 = l2 at *
  generalize (Lib.cut s.data.toList [32]).1 = l0 at *
  generalize (Lib.cut s.data.toList [32]).2.1 = lr at *
  have A1 : Hid (∀ w, Sp w → Calls Tryd.prog 42 #[.string ⟨l1.toArray⟩] w fun e w' => ∃ ev, e = .returned (.tuple #[.int .i64 (atoiV l1), ev]) ∧ Gr w w') := fun w h => atoi42 ⟨l1.toArray⟩ w h hz3
  have A2 : Hid (∀ w, Sp w → Calls Tryd.prog 42 #[.string ⟨l2.toArray⟩] w fun e w' => ∃ ev, e = .returned (.tuple #[.int .i64 (atoiV l2), ev]) ∧ Gr w w') := fun w h => atoi42 ⟨l2.toArray⟩ w h hz4
  have K0 : Hid (∀ w, Wo w → Calls Tryd.prog 43 #[.string ⟨l0.toArray⟩] w fun e w' => e = .returned (.int .i64 (kindI l0)) ∧ Gr w w') := fun w h => kindOf43 ⟨l0.toArray⟩ w h
  clear hS hz1 hz2 hz3 hz4 HV hs
  generalize (⟨l0.toArray⟩ : ByteArray) = s0 at *
  generalize (⟨l1.toArray⟩ : ByteArray) = s1 at *
  generalize (⟨l2.toArray⟩ : ByteArray) = s2 at *
  generalize (⟨lr.toArray⟩ : ByteArray) = sr at *
  generalize kindI l0 = kk at *
  generalize atoiV l1 = cc at *
  generalize atoiV l2 = rr at *
  have hne : s ≠ sr ∨ True := Or.inr trivial
  go_enter Tryd.func32, Tryd.ntmps32
  go_wp2_with (first
    | (go_at_call_of 41 (Value.string s); refine (C1.out _ (HS.out.gr ((Gr.refl w).alloc _))).mono ?_; rintro e w1 ⟨rfl, hg1⟩; have G1 : Hid (Gr (w.alloc (.cells #[.int .i64 0, .int .i64 0, .int .i64 0] 23)) w1) := hg1; clear hg1)
    | (go_at_call_of 41 (Value.string sr); refine (C2.out _ (HS.out.gr (((Gr.refl w).alloc _).trans G1.out))).mono ?_; rintro e w2 ⟨rfl, hg2⟩; have G2 : Hid (Gr (w.alloc (.cells #[.int .i64 0, .int .i64 0, .int .i64 0] 23)) w2) := G1.out.trans hg2; clear hg2)
    | (go_at_call_of 42 (Value.string s1); refine (A1.out _ (HS.out.gr (((Gr.refl w).alloc _).trans G2.out))).mono ?_; rintro e w3 ⟨ev1, rfl, hg3⟩; have G3 : Hid (Gr (w.alloc (.cells #[.int .i64 0, .int .i64 0, .int .i64 0] 23)) w3) := G2.out.trans hg3; clear hg3)
    | (go_at_call_of 42 (Value.string s2); refine (A2.out _ (HS.out.gr (((Gr.refl w).alloc _).trans G3.out))).mono ?_; rintro e w4 ⟨ev2, rfl, hg4⟩; have G4 : Hid (Gr (w.alloc (.cells #[.int .i64 0, .int .i64 0, .int .i64 0] 23)) w4) := G3.out.trans hg4; clear hg4)
    | (go_at_call 43; refine (K0.out _ (HS.out.gr (((Gr.refl w).alloc _).trans G4.out)).st.wo).mono ?_; rintro e w5 ⟨rfl, hg5⟩; have G5 : Hid (Gr (w.alloc (.cells #[.int .i64 0, .int .i64 0, .int .i64 0] 23)) w5) := G4.out.trans hg5; obtain ⟨r0, r1, r2, z0, z1, z2⟩ := (box_new w 0 0 0 23).gr (G4.out.trans hg5); clear hg5))
  refine bodyPost_ret (v := fl kk cc rr) ?_ rfl ⟨rfl, ?_⟩
  · simp [results, Tryd.results32, go_sem, r0, r1, r2]
  · exact (((((Gr.refl w).alloc _).trans G5.out).setCell (Nat.le_refl _) _).setCell (Nat.le_refl _) _).setCell (Nat.le_refl _) _
end Go.Proofs.YtifhfdndbnmhlaaDoor
