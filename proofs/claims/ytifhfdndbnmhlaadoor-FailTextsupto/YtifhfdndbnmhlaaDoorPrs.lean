/- The contracts of the program's Parse: the failure of a text of one that may be, and no other; the conditions: the listed variables hold what the start lays, the library's one other variable holds a number, and the text is not too long. -/
import Derived.Test.YtifhfdndbnmhlaaDoorPar
namespace Go.Proofs.YtifhfdndbnmhlaaDoor
open Go.RowKit Go.Sort
set_option linter.unusedVariables false

theorem kind_i64 (l : List UInt8) : I64 (kindI l) := by
  unfold kindI I64
  repeat' split
  all_goals omega
theorem atoiV_i64 (l : List UInt8) : I64 (atoiV l) := by
  unfold atoiV
  split
  · rename_i v h
    exact Lib.atoiAll_bounds h
  · unfold Lib.atoiSat I64
    split <;> omega
  · unfold I64; omega
set_option maxRecDepth 20000 in
set_option maxHeartbeats 1000000 in
theorem parse16_of (s : ByteArray) (k c r : Int) (hk : I64 k) (hc : I64 c) (hr : I64 r) (w : World) (hS : Sp w) (hs : s.size ≤ 4194304) (hR : ∀ w', Sp w' → Calls Tryd.prog 32 #[.string s] w' fun e w'' => e = .returned (fl k c r) ∧ Gr w' w'') :
    Calls Tryd.prog 16 #[.string s] w fun e w' => e = .returned (if may k c r = true ∧ textB k c r = s then .tuple #[fl k c r, .int .i64 0] else .tuple #[fl 0 0 0, .int .i64 30]) ∧ Gr w w' := by
  have HS : Hid (Sp w) := hS
  have HK : Hid (I64 k ∧ I64 c ∧ I64 r) := ⟨hk, hc, hr⟩
  have HR : Hid (∀ w', Sp w' → Calls Tryd.prog 32 #[.string s] w' fun e w'' => e = .returned (fl k c r) ∧ Gr w' w'') := hR
  clear hS hk hc hr hR
  cases hm : may k c r with
  | false =>
    rw [if_neg (by simp)]
    go_enter Tryd.func16, Tryd.ntmps16
    go_wp2_with (first
      | (go_at_call 32; refine (HR.out _ (HS.out.gr ((Gr.refl w).alloc _))).mono ?_; rintro e w1 ⟨rfl, hg1⟩; have G1 : Hid (Gr (w.alloc (.cells #[.int .i64 0, .int .i64 0, .int .i64 0] 23)) w1) := hg1; clear hg1)
      | (go_at_call 27; refine (may27 k c r _).mono ?_; rw [hm]; rintro e w2 ⟨rfl, hg2⟩; have G2 : Hid (Gr (w.alloc (.cells #[.int .i64 0, .int .i64 0, .int .i64 0] 23)) w2) := (G1.out.alloc _).trans hg2; obtain ⟨r0, r1, r2, z0, z1, z2⟩ := (box_new w 0 0 0 23).gr ((G1.out.alloc _).trans hg2); clear hg2))
    refine bodyPost_ret (v := .tuple #[fl 0 0 0, .int .i64 30]) ?_ rfl ⟨rfl, ?_⟩
    · simp [results, Tryd.results16, go_sem, r0, r1, r2]
    · exact (((((Gr.refl w).alloc _).trans G2.out).setCell (Nat.le_refl _) _).setCell (Nat.le_refl _) _).setCell (Nat.le_refl _) _
  | true =>
    by_cases hts : textB k c r = s
    · rw [if_pos ⟨rfl, hts⟩]
      subst hts
      have HT : Hid (∀ w', Sp w' → Calls Tryd.prog 18 #[fl k c r] w' fun e w'' => e = .returned (.string (textB k c r)) ∧ Gr w' w'') := fun w' h => text18 k c r HK.out.1 HK.out.2.1 HK.out.2.2 w' h.st.tab h.st.wo
      generalize textB k c r = s at *
      go_enter Tryd.func16, Tryd.ntmps16
      go_wp2_with (first
        | (go_at_call 32; refine (HR.out _ (HS.out.gr ((Gr.refl w).alloc _))).mono ?_; rintro e w1 ⟨rfl, hg1⟩; have G1 : Hid (Gr (w.alloc (.cells #[.int .i64 0, .int .i64 0, .int .i64 0] 23)) w1) := hg1; clear hg1)
        | (go_at_call 27; refine (may27 k c r _).mono ?_; rw [hm]; rintro e w2 ⟨rfl, hg2⟩; have G2 : Hid (Gr (w.alloc (.cells #[.int .i64 0, .int .i64 0, .int .i64 0] 23)) w2) := (G1.out.alloc _).trans hg2; have B2 : Hid (Box w2 w1.heap.size k c r) := (box_new w1 k c r 23).gr hg2; obtain ⟨q0, q1, q2, y0, y1, y2⟩ := (box_new w1 k c r 23).gr hg2; clear hg2)
        | (go_at_call 18; refine (HT.out _ (HS.out.gr (((Gr.refl w).alloc _).trans G2.out))).mono ?_; rintro e w3 ⟨rfl, hg3⟩; have G3 : Hid (Gr (w.alloc (.cells #[.int .i64 0, .int .i64 0, .int .i64 0] 23)) w3) := G2.out.trans hg3; obtain ⟨r0, r1, r2, z0, z1, z2⟩ := (box_new w 0 0 0 23).gr (G2.out.trans hg3); obtain ⟨p0, p1, p2, x0, x1, x2⟩ := B2.out.gr hg3; clear hg3))
      refine bodyPost_ret (v := .tuple #[fl k c r, .int .i64 0]) ?_ rfl ⟨rfl, ?_⟩
      · simp [results, Tryd.results16, go_sem, r0, r1, r2]
      · exact (((((Gr.refl w).alloc _).trans G3.out).setCell (Nat.le_refl _) _).setCell (Nat.le_refl _) _).setCell (Nat.le_refl _) _
    · rw [if_neg (fun h => hts h.2)]
      have HT : Hid (∀ w', Sp w' → Calls Tryd.prog 18 #[fl k c r] w' fun e w'' => e = .returned (.string (textB k c r)) ∧ Gr w' w'') := fun w' h => text18 k c r HK.out.1 HK.out.2.1 HK.out.2.2 w' h.st.tab h.st.wo
      generalize textB k c r = tx at *
      have HNE : Hid (tx ≠ s) := hts
      clear hts
      go_enter Tryd.func16, Tryd.ntmps16
      go_wp2_with (first
        | (go_at_call 32; refine (HR.out _ (HS.out.gr ((Gr.refl w).alloc _))).mono ?_; rintro e w1 ⟨rfl, hg1⟩; have G1 : Hid (Gr (w.alloc (.cells #[.int .i64 0, .int .i64 0, .int .i64 0] 23)) w1) := hg1; clear hg1)
        | (go_at_call 27; refine (may27 k c r _).mono ?_; rw [hm]; rintro e w2 ⟨rfl, hg2⟩; have G2 : Hid (Gr (w.alloc (.cells #[.int .i64 0, .int .i64 0, .int .i64 0] 23)) w2) := (G1.out.alloc _).trans hg2; have B2 : Hid (Box w2 w1.heap.size k c r) := (box_new w1 k c r 23).gr hg2; obtain ⟨q0, q1, q2, y0, y1, y2⟩ := (box_new w1 k c r 23).gr hg2; clear hg2)
        | (go_at_call 18; refine (HT.out _ (HS.out.gr (((Gr.refl w).alloc _).trans G2.out))).mono ?_; rintro e w3 ⟨rfl, hg3⟩; have G3 : Hid (Gr (w.alloc (.cells #[.int .i64 0, .int .i64 0, .int .i64 0] 23)) w3) := G2.out.trans hg3; obtain ⟨r0, r1, r2, z0, z1, z2⟩ := (box_new w 0 0 0 23).gr (G2.out.trans hg3); obtain ⟨p0, p1, p2, x0, x1, x2⟩ := B2.out.gr hg3; clear hg3))
      · refine bodyPost_ret (v := .tuple #[fl 0 0 0, .int .i64 30]) ?_ rfl ⟨rfl, ?_⟩
        · simp [results, Tryd.results16, go_sem, r0, r1, r2]
        · exact (((((Gr.refl w).alloc _).trans G3.out).setCell (Nat.le_refl _) _).setCell (Nat.le_refl _) _).setCell (Nat.le_refl _) _
      · rename_i h
        have h2 : tx.toList = s.toList := by simpa using h
        rw [ByteArray.toList_eq, ByteArray.toList_eq] at h2
        exact absurd (ByteArray.ext (Array.toList_inj.1 h2)) HNE.out
theorem parse16 (s : ByteArray) (w : World) (hS : Sp w) (hs : s.size ≤ 4194304) :
    Calls Tryd.prog 16 #[.string s] w fun e w' => e = .returned (if may (readF s.data.toList).1 (readF s.data.toList).2.1 (readF s.data.toList).2.2 = true ∧ textB (readF s.data.toList).1 (readF s.data.toList).2.1 (readF s.data.toList).2.2 = s then .tuple #[fl (readF s.data.toList).1 (readF s.data.toList).2.1 (readF s.data.toList).2.2, .int .i64 0] else .tuple #[fl 0 0 0, .int .i64 30]) ∧ Gr w w' :=
  parse16_of s _ _ _ (kind_i64 _) (atoiV_i64 _) (atoiV_i64 _) w hS hs fun w' h => read32 s w' h hs
/-- no text of a failure that may be -/
def NoText (s : ByteArray) : Prop := ∀ k c r : Int, I64 k → I64 c → I64 r → may k c r = true → textB k c r ≠ s
theorem parse_yes (k c r : Int) (hc : I64 c) (hr : I64 r) (hm : may k c r = true) (w : World) (hS : Sp w) (hs : (textB k c r).size ≤ 4194304) :
    Calls Tryd.prog 16 #[.string (textB k c r)] w fun e w' => e = .returned (.tuple #[fl k c r, .int .i64 0]) ∧ Gr w w' := by
  have h := parse16 (textB k c r) w hS hs
  rw [read_may k c r hc hr hm, if_pos ⟨hm, rfl⟩] at h
  exact h
theorem parse_no (s : ByteArray) (hN : NoText s) (w : World) (hS : Sp w) (hs : s.size ≤ 4194304) :
    Calls Tryd.prog 16 #[.string s] w fun e w' => e = .returned (.tuple #[fl 0 0 0, .int .i64 30]) ∧ Gr w w' := by
  have h := parse16 s w hS hs
  rw [if_neg (fun e => hN _ _ _ (kind_i64 _) (atoiV_i64 _) (atoiV_i64 _) e.1 e.2)] at h
  exact h
theorem noText_of (k c r : Int) (hc : I64 c) (hr : I64 r) (hm : may k c r = false) : NoText (textB k c r) := fun k' c' r' hk' hc' hr' hm' h => by
  obtain ⟨rfl, rfl, rfl⟩ := text_only k c r k' c' r' hc hr hc' hr' hm' h
  rw [hm] at hm'
  cases hm'
end Go.Proofs.YtifhfdndbnmhlaaDoor
