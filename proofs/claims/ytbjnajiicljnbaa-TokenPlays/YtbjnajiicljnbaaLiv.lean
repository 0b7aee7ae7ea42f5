/- The contracts of Live, Under and Clone. -/
import Derived.Test.YtbjnajiicljnbaaOpr
namespace Go.Proofs.Ytbjnajiicljnbaa
open Go.RowKit Go.Maps Go.ChangeMaps
set_option linter.unusedVariables false
/-- A call that leaves a row of numbers. -/
def RiE (e : Ending) (w w' : World) (l : List Nat) : Prop := ∃ a c, e = .returned (.slice a l.length c) ∧ RI w' w.heap.size (.slice a l.length c) l ∧ Touch [] w w'
def livK (S : List Tk) (k : Nat) : List Nat := (List.range' 1 k).filter (liv S)
theorem livK_yes {S : List Tk} {k : Nat} (h : liv S (k + 1) = true) : livK S (k + 1) = livK S k ++ [k + 1] := by
  unfold livK
  rw [List.range'_1_concat, List.filter_append, Nat.add_comm 1 k]
  simp [h]
theorem livK_no {S : List Tk} {k : Nat} (h : liv S (k + 1) = false) : livK S (k + 1) = livK S k := by
  unfold livK
  rw [List.range'_1_concat, List.filter_append, Nat.add_comm 1 k]
  simp [h]
theorem livK_le (S : List Tk) (k : Nat) : (livK S k).length ≤ k := by
  have := List.length_filter_le (liv S) (List.range' 1 k)
  unfold livK
  simpa using this
section
variable (w : World) (t : Nat) (sl : Value) (S : List Tk) (n : Nat)
set_option maxHeartbeats 4000000 in
set_option maxRecDepth 100000 in
theorem live23 (h : Tn w t sl S) : Calls Try.prog 23 #[PT t] w fun e w' => RiE e w w' (livL S) := by
  obtain ⟨i3, hi, hz0, hz1, hz2⟩ := info_parts info3
  have HF : Hid (∀ w', Touch [] w w' → (Calls Try.prog 19 #[PT t] w' fun e w'' => e = .returned (.int .i64 (S.length : Nat)) ∧ w'' = w') ∧ ∀ k, k < S.length → Calls Try.prog 22 #[PT t, .int .i64 ((k : Int) + 1)] w' fun e w'' => e = .returned (.bool (!liv S (k + 1))) ∧ w'' = w') := fun w' T => by
    have h' := h.keep0 T
    refine ⟨len19 w' t sl S h', fun k hk => (is22 w' t sl S ((k : Int) + 1) h').mono ?_⟩
    rintro e w'' ⟨rfl, rfl⟩
    have e : ((k : Int) + 1) = ((k + 1 : Nat) : Int) := by omega
    rw [e, fI_ok (by omega) (by omega), nat_bne]
    exact ⟨rfl, rfl⟩
  have HLe := hid h.le
  have HE : Hid (∀ a c w', w'.ownsRow w.heap.size 3 1 (.slice a (livK S S.length).length c) (livK S S.length).length (ints (livK S S.length)) → Touch [] w w' → RiE (.returned (.slice a (livK S S.length).length c)) w w' (livL S)) := fun a c w' r T => ⟨a, c, rfl, RI.of_own r, T⟩
  clear h
  obtain ⟨N, hN⟩ : ∃ N, N = S.length := ⟨_, rfl⟩
  have HN := hid hN
  rw [← hN] at HF HLe HE
  clear hN
  unfold PT at *
  go_enter Try.func23, Try.ntmps23
  go_wp2
  go_loopw [3, 4] (fun s3 s4 wr => ∃ a m c k, s3 = .slice a m c ∧ s4 = .int .i64 ((k : Nat) + 1) ∧ k ≤ N ∧ Hid (m = (livK S k).length ∧ wr.ownsRow w.heap.size 3 1 (.slice a m c) m (ints (livK S k)) ∧ Touch [] w wr)) (fun _ s4 _ => N + 1 - (intOf s4).toNat)
  case atStart => exact ⟨none, 0, 0, 0, rfl, rfl, Nat.zero_le _, by simp [livK], World.ownsRow_nil _ _ _ _, Touch.refl _ _⟩
  case round =>
    obtain ⟨a, m, c, k, rfl, rfl, hk, HR⟩ := hrel
    obtain ⟨HC, HI⟩ := HF.out wr HR.out.2.2
    have HC := hid HC
    have zk0 : (0 : Int) ≤ (k : Int) := by omega
    have hbs := HR.out.2.2.size
    by_cases hlt : k < N
    · have zk : (k : Int) + 1 ≤ (N : Int) := by omega
      have HV := hid (HI k hlt)
      have hmk : m ≤ k := by rw [HR.out.1]; exact livK_le S k
      clear HI
      have zw : IntKind.i64.wrap ((k : Int) + 1 + 1) = (k : Int) + 1 + 1 := by have := HLe.out; simp [IntKind.wrap, IntKind.bits, IntKind.signed]; omega
      by_cases hq : liv S (k + 1) = true
      · have HX := hid (livK_yes hq)
        rw [hq] at HV
        have HLt := hid (And.intro hlt hmk)
        clear hq hlt hmk hk
        generalize hki : (k : Int) + 1 = ki at *
        have HK := hid hki
        clear hki
        go_wp2_with (first
          | (go_at_call 19; refine HC.out.mono ?_; rintro e w1 ⟨rfl, rfl⟩)
          | (go_at_call 22; refine HV.out.mono ?_; rintro e w2 ⟨rfl, rfl⟩)
          | (at_builtin; refine wpList_append_lies _ rfl _ _ 29 rfl w.heap.size 3 i3 (.int .i64 0) 1 8 Try.underlying29 hi hz0 hz1 hz2 rfl (by decide) (.slice a m c) m (ints (livK S k)) rfl (HR.out.2.1.alloc _) ⟨_, 0, none⟩ 1 1 [.int .i64 ki] rfl rfl (cell_one_new _ _ _) (by simp [Value.oneCell']) (by decide) (by have := HLe.out; have := HLt.out; unfold maxLen; omega) (by have := HLe.out; have := HLt.out; omega) (by simp; omega) _ rfl ?_; intro g1 c1 w5 hown5 hgrow hat hlt5; have H5 := hid (And.intro hown5 ((((Touch.refl (Value.slice a m c).ownBlock.toList _).alloc _).grown hgrow (fun j hj => Or.inl (by simp [hj]))))); clear hown5 hgrow hat hlt5))
        go_roundw
        case rel =>
          refine ⟨some ⟨g1, 0, none⟩, m + 1, c1, k + 1, rfl, ?_, by have := HLt.out; omega, ?_, ?_, ?_⟩
          · rw [← HK.out]; congr 1
          · rw [HX.out, HR.out.1]; simp
          · rw [HX.out, ints_app]
            have := H5.out.1
            rw [← HK.out] at this
            exact this
          · exact HR.out.2.2.trans H5.out.2 (fun j hj => Or.inr (HR.out.2.1.lt j (by simpa using hj)).1)
        case measure => have := HK.out; have := HLt.out; simp [intOf]; omega
      · have hq : liv S (k + 1) = false := by simpa using hq
        have HX := hid (livK_no hq)
        rw [hq] at HV
        have HLt := hid (And.intro hlt hmk)
        clear hq hlt hmk hk
        generalize hki : (k : Int) + 1 = ki at *
        have HK := hid hki
        clear hki
        go_wp2_with (first
          | (go_at_call 19; refine HC.out.mono ?_; rintro e w1 ⟨rfl, rfl⟩)
          | (go_at_call 22; refine HV.out.mono ?_; rintro e w2 ⟨rfl, rfl⟩))
        go_roundw
        case rel => exact ⟨a, m, c, k + 1, rfl, by rw [← HK.out]; congr 1, by have := HLt.out; omega, by rw [HX.out]; exact HR.out⟩
        case measure => have := HK.out; have := HLt.out; simp [intOf]; omega
    · have zk : ¬ (k : Int) + 1 ≤ (N : Int) := by omega
      have e : k = N := by omega
      subst e
      have HX : Hid (RiE (.returned (.slice a m c)) w wr (livL S)) := by
        have := HE.out a c wr (by have := HR.out.2.1; rw [HR.out.1] at this; exact this) HR.out.2.2
        rw [← HR.out.1] at this
        exact this
      clear HI
      go_wp2_with (first
          | (go_at_call 19; refine HC.out.mono ?_; rintro e w1 ⟨rfl, rfl⟩))
      go_ret
      exact HX.out
theorem under25_no (i : Int) (h : Tn w t sl S) (hv : ¬ Va S i) : Calls Try.prog 25 #[PT t, .int .i64 i] w fun e w' => RiE e w w' [] := by
  have HF := hid (find26_no w t sl S i h hv)
  clear h hv
  unfold PT at *
  go_enter Try.func25, Try.ntmps25
  go_wp2_with (go_at_call 26; refine HF.out.mono ?_; rintro e w ⟨rfl, rfl⟩)
  go_ret
  exact ⟨none, 0, rfl, RI.nil _ _, Touch.refl _ _⟩
end
end Go.Proofs.Ytbjnajiicljnbaa
