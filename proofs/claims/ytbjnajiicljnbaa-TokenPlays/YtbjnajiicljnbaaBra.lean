/- The contract of branch of all, live or not. -/
import Derived.Test.YtbjnajiicljnbaaBrn
namespace Go.Proofs.Ytbjnajiicljnbaa
open Go.RowKit Go.Maps Go.ChangeMaps
set_option linter.unusedVariables false
section
variable (w : World) (t : Nat) (sl : Value) (S : List Tk) (n : Nat)
set_option maxHeartbeats 4000000 in
set_option maxRecDepth 100000 in
theorem branch30_all (h : Tn w t sl S) (ok : Ok S) (h1 : 1 ≤ n) (h2 : n ≤ S.length) : Calls Try.prog 30 #[PT t, .int .i64 (n : Nat), .bool false] w fun e w' => BrE e w w' (brL S (fun _ : Nat => true) n) := by
  obtain ⟨i3, hi, hz0, hz1, hz2⟩ := info_parts info3
  obtain ⟨g, c, rfl⟩ := h.slice (by omega)
  have HF : Hid (∀ w', Touch [] w w' → ∀ m : Nat, 1 ≤ m → m ≤ S.length → (Calls Try.prog 26 #[PT t, .int .i64 (m : Nat)] w' fun e w'' => e = .returned (.pointer (some ⟨g, (m - 1) * 5, none⟩)) ∧ w'' = w') ∧ w'.cell? ⟨g, (m - 1) * 5 + 3, none⟩ = some (.int .i64 ((tk S m).ch : Nat)) ∧ w'.cell? ⟨g, (m - 1) * 5 + 4, none⟩ = some (.int .i64 ((tk S m).el : Nat))) := fun w' T m m1 m2 => by
    have h' := h.keep0 T
    obtain ⟨-, -, -, x3, x4⟩ := h'.cells m1 m2
    exact ⟨find26_ok w' t S g c m h' m1 m2, x3, x4⟩
  have HLe := hid h.le
  have HO := hid (And.intro ok (And.intro h1 (And.intro h2 trivial)))
  have HS : Hid (Bo w (w.alloc (.cells #[.int .i64 (n : Nat)] 3)) (.slice (some ⟨w.heap.size, 0, none⟩) 1 1) [n]) := by
    exact ⟨own_one w n, (Touch.refl _ _).alloc _⟩
  clear h ok h1 h2
  unfold PT at *
  go_enter Try.func30, Try.ntmps30
  go_wp2
  go_loopw [7, 8] (fun s7 s8 wr => ∃ a c7 i F, s7 = .slice a F.length c7 ∧ s8 = .int .i64 (i : Nat) ∧ Hid (Bo w wr (.slice a F.length c7) F ∧ Bf S (fun _ : Nat => true) n F i)) (fun _ i _ => S.length - (intOf i).toNat)
  case atStart => exact ⟨_, _, 0, [n], rfl, rfl, HS.out, Bf.start HO.out.2.2.1⟩
  case round =>
    clear HS
    obtain ⟨a, c7, i, F, rfl, rfl, HR⟩ := hrel
    have hFS := HR.out.2.length HO.out.2.1
    have hFl := HR.out.2.le
    obtain ⟨L, hL⟩ : ∃ L, L = F.length := ⟨_, rfl⟩
    have HL := hid hL
    rw [← hL] at HR hFS hFl ⊢
    clear hL
    by_cases hlt : i < L
    · have zi : (i : Int) < (L : Int) := by omega
      obtain ⟨k, hk⟩ : ∃ k, F[i]? = some k := ⟨_, List.getElem?_eq_getElem (by have := HL.out; omega)⟩
      have hva := HR.out.2.va k (List.mem_of_getElem? hk)
      obtain ⟨gf, cf, hv, xk⟩ := HR.out.1.at_ hk
      injection hv with hv1 hv2 hv3
      subst hv1 hv3
      clear hv2
      obtain ⟨HK, x3, -⟩ := HF.out wr HR.out.1.tc k (by have := HO.out.2.1; omega) hva.2
      have HK := hid HK
      have HI : Hid (Bi S (fun _ : Nat => true) n F i k (kids S k) ∧ Lk S (tk S k).ch (kids S k)) := ⟨HR.out.2.inner (by have := HL.out; omega) hk, HO.out.1.lk k (by have := HO.out.2.1; omega) hva.2⟩
      clear hva hk
      generalize (k : Int) = ki at *
      generalize (k - 1) * 5 = kp at *
      go_wp2_with (go_at_call 26; refine HK.out.mono ?_; rintro e w1 ⟨rfl, rfl⟩)
      have H0 : Hid (Bo w w1 (.slice (some ⟨gf, 0, none⟩) F.length c7) F ∧ Bi S (fun _ : Nat => true) n F i k (kids S k) ∧ Lk S (tk S k).ch (kids S k)) := ⟨by have := HR.out.1; rw [HL.out] at this; exact this, HI.out⟩
      have zb : (i : Int) < 65536 := by have := HLe.out; omega
      have hcast : Value.slice (some ⟨gf, 0, none⟩) L c7 = .slice (some ⟨gf, 0, none⟩) F.length c7 := by rw [HL.out]
      clear HR HI HK xk x3 zi hlt hFS hFl
      rw [hcast]
      clear hcast HL
      go_loopw [7, 9] (fun s7 s9 wr => ∃ a c7 m F rest, s7 = .slice a F.length c7 ∧ s9 = .int .i64 (m : Nat) ∧ Hid (Bo w wr (.slice a F.length c7) F ∧ Bi S (fun _ : Nat => true) n F i k rest ∧ Lk S m rest)) (fun _ s9 _ => (intOf s9).toNat)
      case atStart => exact ⟨_, _, _, F, _, rfl, rfl, H0⟩
      case round =>
        clear H0
        obtain ⟨a, c8, m, F', rest, rfl, rfl, HR⟩ := hrel
        cases rest with
        | nil =>
          obtain rfl : m = 0 := HR.out.2.2
          have hmm : i < S.length := by have := HR.out.2.1.length HO.out.2.1; have := HR.out.2.1.lt; omega
          go_wp2
          go_roundw
          case rel => exact ⟨_, _, i + 1, F', rfl, by go_num, HR.out.1, HR.out.2.1.done⟩
          case measure => simp [intOf]; omega
        | cons m' rest =>
          obtain ⟨e, hlk⟩ := HR.out.2.2
          subst e
          clear zb
          have hmk := mem_kids.1 HR.out.2.1.kid
          have HE := hid (HR.out.2.1.el_lt hlk)
          have hm0 : (m : Int) ≠ 0 := by omega
          have hFS := HR.out.2.1.length HO.out.2.1
          have hbs := HR.out.1.tc.size
          obtain ⟨HK, -, x4⟩ := HF.out wr HR.out.1.tc m hmk.1 hmk.2.1
          have HK := hid HK
          have HLk := hid hlk
          have hzm := hmk.2.1
          clear hlk
          · have HA : Hid (∀ w5 g1 c1, w5.ownsRow w.heap.size 3 1 (.slice (some ⟨g1, 0, none⟩) (F'.length + 1) c1) (F'.length + 1) (ints F' ++ [.int .i64 (m : Nat)]) → Touch (Value.slice a F'.length c8).ownBlock.toList wr w5 → Bo w w5 (.slice (some ⟨g1, 0, none⟩) (F'.length + 1) c1) (F' ++ [m]) ∧ w5.cell? ⟨g, (m - 1) * 5 + 4, none⟩ = some (.int .i64 ((tk S m).el : Nat)) ∧ Calls Try.prog 26 #[.pointer (some ⟨t, 0, none⟩), .int .i64 (m : Nat)] w5 fun e w'' => e = .returned (.pointer (some ⟨g, (m - 1) * 5, none⟩)) ∧ w'' = w5) := fun w5 g1 c1 hr T => by
              have B := HR.out.1.app hr T
              obtain ⟨y1, -, y2⟩ := HF.out w5 B.tc m hmk.1 hmk.2.1
              exact ⟨B, y2, y1⟩
            have HB : Hid (Bi S (fun _ : Nat => true) n (F' ++ [m]) i k rest) := HR.out.2.1.add HO.out.1.par HO.out.2.1 rfl
            have HR1 := hid HR.out.1.row
            clear HR hmk HK x4 HF
            generalize hmi : (m : Int) = mi at *
            have HM := hid hmi
            have HM2 := hid hzm
            clear hmi hzm
            generalize (m - 1) * 5 = mp at *
            obtain ⟨L, hL⟩ : ∃ L, L = F'.length := ⟨_, rfl⟩
            have HL := hid hL
            rw [← hL] at HR1 hFS HA ⊢
            clear hL
            go_wp2_with (first
              | (at_builtin; refine wpList_append_lies _ rfl _ _ 29 rfl w.heap.size 3 i3 (.int .i64 0) 1 8 Try.underlying29 hi hz0 hz1 hz2 rfl (by decide) (.slice a L c8) L (ints F') rfl (HR1.out.alloc _) ⟨_, 0, none⟩ 1 1 [.int .i64 mi] rfl rfl (cell_one_new _ _ _) (by simp [Value.oneCell']) (by decide) (by have := HLe.out; unfold maxLen; omega) (by have := HLe.out; omega) (by simp; omega) _ rfl ?_; intro g1 c1 w5 hown5 hgrow hat hlt5; obtain ⟨r1, r2, r3⟩ := HA.out w5 g1 c1 hown5 (((Touch.refl _ _).alloc _).grown hgrow (fun j hj => Or.inl (by simp [hj]))); have R1 := hid r1; have R3 := hid r3; clear r1 r3 hown5 hgrow hat hlt5)
              | (go_at_call 26; refine R3.out.mono ?_; rintro e w6 ⟨rfl, rfl⟩))
            go_roundw
            case rel =>
              refine ⟨some ⟨g1, 0, none⟩, c1, _, F' ++ [m], rest, ?_, rfl, ?_, HB.out, HLk.out⟩
              · rw [HL.out]; simp
              · have := R1.out; rw [HL.out] at this; simpa using this
            case measure => have := HE.out; have := HM.out; simp [intOf]; omega
    · have zi : ¬ (i : Int) < (L : Int) := by omega
      obtain ⟨gf, cf, hv⟩ : ∃ gf cf, Value.slice a L c7 = .slice (some ⟨gf, 0, none⟩) F.length cf := by
        have e := HR.out.2.eq
        have hl : 1 ≤ F.length := by rw [e]; simp
        rcases HR.out.1.row.2 with ⟨_, e⟩ | ⟨g, cap, cur, e, _⟩
        · omega
        · exact ⟨g, cap, e⟩
      injection hv with hv1 hv2 hv3
      subst hv1 hv3
      have hs := HR.out.2.sorted HO.out.1.par HO.out.2.1 HO.out.2.2.1 (fun _ _ _ _ _ => Or.inr rfl) (by omega)
      have hgl : (brL S (fun _ : Nat => true) n).length = F.length := by
        have := congrArg List.length hs
        simpa [toI] using this.symm
      have HS : Hid (Calls Try.prog 31 #[.slice (some ⟨gf, 0, none⟩) L c7] wr fun e w' => e = .returned (.tuple #[]) ∧ BrE (.returned (.slice (some ⟨gf, 0, none⟩) L c7)) w w' (brL S (fun _ : Nat => true) n)) := by
        rw [hv2]
        have hrow := HR.out.1.row
        rw [hv2] at hrow
        refine (sort31 wr w.heap.size gf c7 F (brL S (fun _ : Nat => true) n) hrow (by have := HLe.out; omega) hs).mono ?_
        rintro e w' ⟨he, r1, r2⟩
        have hgb := (hrow.lt gf rfl).1
        refine ⟨he, some ⟨gf, 0, none⟩, c7, by rw [hgl], by rw [hgl]; exact r1, HR.out.1.tc.trans r2 (fun i hi => Or.inr (by simp at hi; omega))⟩
      clear HR hs hgl hv2 HF hFS hFl hlt
      go_wp2_with (go_at_call 31; refine HS.out.mono ?_; rintro e w1 ⟨rfl, r⟩; have R := hid r; clear r)
      go_ret
      exact R.out
end
end Go.Proofs.Ytbjnajiicljnbaa
