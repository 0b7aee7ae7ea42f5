/- The contract of branch: a token and those under it, rising. -/
import Derived.Test.YtbjnajiicljnbaaSor
namespace Go.Proofs.Ytbjnajiicljnbaa
open Go.RowKit Go.Maps Go.ChangeMaps
set_option linter.unusedVariables false
theorem info3 : (Try.prog.info? 3).map (fun i => (i.zero, i.size, i.bytes)) = some (some (.int .i64 0), 1, 8) := by kernel_rfl
theorem cell_one_new (w : World) (a : Value) (t : TypeId) : ∀ j u, [a][j]? = some u → (w.alloc (.cells #[a] t)).cell? ((⟨w.heap.size, 0, none⟩ : Addr).add j) = some u := by
  intro j u hj
  match j, hj with
  | 0, hj => simp at hj; subst hj; simp [Addr.add]
theorem nat_bne (k : Nat) : ((k : Int) != 0) = !(k == 0) := by
  by_cases e : k = 0
  · subst e; rfl
  · have h1 : ((k : Int) != 0) = true := by rw [bne_iff_ne]; omega
    have h2 : (k == 0) = false := by simp [e]
    rw [h1, h2]; rfl
theorem own_one (w : World) (n : Nat) : (w.alloc (.cells #[.int .i64 (n : Nat)] 3)).ownsRow w.heap.size 3 1 (.slice (some ⟨w.heap.size, 0, none⟩) 1 1) 1 (ints [n]) := by
  refine own_of_cells (heap_alloc_new _ _) (Nat.le_refl _) (Nat.le_refl _) (by unfold maxLen; omega) rfl rfl (fun p v hp => ?_)
  match p, hp with
  | 0, hp => simp [ints] at hp; subst hp; simp
theorem kids_gt (S : List Tk) (n : Nat) : (kids S n).Pairwise (· > ·) := by
  unfold kids
  rw [List.pairwise_reverse]
  exact (List.pairwise_lt_range' 1).filter _
section
variable {S : List Tk} {q : Nat → Bool} {n i k m : Nat} {F rest : List Nat}
theorem Bi.el_lt (h : Bi S q n F i k (m :: rest)) (hl : Lk S (tk S m).el rest) : (tk S m).el < m := by
  obtain ⟨seen, e1, e2⟩ := h.eq
  have hm := (mem_kids.1 h.kid).1
  have hp := kids_gt S k
  rw [e1, List.pairwise_append] at hp
  have hp := List.pairwise_cons.1 hp.2.1
  cases rest with
  | nil => have : (tk S m).el = 0 := hl; omega
  | cons a r => have : (tk S m).el = a := hl.1; have := hp.1 a (by simp); omega
end
/-- A row of its own. -/
def BrE (e : Ending) (w w' : World) (l : List Nat) : Prop := ∃ a c, e = .returned (.slice a l.length c) ∧ w'.ownsRow w.heap.size 3 1 (.slice a l.length c) l.length (ints l) ∧ Touch [] w w'
/-- How branch stands ahead of a round. -/
structure Bo (w wr : World) (v : Value) (F : List Nat) : Prop where
  row : wr.ownsRow w.heap.size 3 1 v F.length (ints F)
  tc : Touch [] w wr
theorem Bo.at_ {w wr : World} {v : Value} {F : List Nat} {i k : Nat} (h : Bo w wr v F) (hk : F[i]? = some k) : ∃ g c, v = .slice (some ⟨g, 0, none⟩) F.length c ∧ wr.cell? ⟨g, i, none⟩ = some (.int .i64 (k : Nat)) := by
  have hi := (List.getElem?_eq_some_iff.1 hk).1
  rcases h.row.2 with ⟨_, e⟩ | ⟨g, cap, cur, e, _⟩
  · omega
  · subst e
    exact ⟨g, cap, rfl, own_cell h.row (by simp [ints, hk])⟩
theorem Bo.app {w wr w5 : World} {v : Value} {F : List Nat} {m g1 c1 : Nat} (h : Bo w wr v F) (hr : w5.ownsRow w.heap.size 3 1 (.slice (some ⟨g1, 0, none⟩) (F.length + 1) c1) (F.length + 1) (ints F ++ [.int .i64 (m : Nat)])) (T : Touch v.ownBlock.toList wr w5) : Bo w w5 (.slice (some ⟨g1, 0, none⟩) (F.length + 1) c1) (F ++ [m]) := by
  refine ⟨by simpa [ints_app, ints] using hr, h.tc.trans T (fun j hj => Or.inr (h.row.lt j (by simpa using hj)).1)⟩
section
variable (w : World) (t : Nat) (sl : Value) (S : List Tk) (n : Nat)
set_option maxHeartbeats 4000000 in
set_option maxRecDepth 100000 in
theorem branch30_live (h : Tn w t sl S) (ok : Ok S) (h1 : 1 ≤ n) (h2 : n ≤ S.length) (hw : (tk S n).why = 0) : Calls Try.prog 30 #[PT t, .int .i64 (n : Nat), .bool true] w fun e w' => BrE e w w' (brL S (liv S) n) := by
  obtain ⟨i3, hi, hz0, hz1, hz2⟩ := info_parts info3
  obtain ⟨g, c, rfl⟩ := h.slice (by omega)
  have HF : Hid (∀ w', Touch [] w w' → ∀ m : Nat, 1 ≤ m → m ≤ S.length → (Calls Try.prog 26 #[PT t, .int .i64 (m : Nat)] w' fun e w'' => e = .returned (.pointer (some ⟨g, (m - 1) * 5, none⟩)) ∧ w'' = w') ∧ w'.cell? ⟨g, (m - 1) * 5 + 3, none⟩ = some (.int .i64 ((tk S m).ch : Nat)) ∧ w'.cell? ⟨g, (m - 1) * 5 + 4, none⟩ = some (.int .i64 ((tk S m).el : Nat)) ∧ (Calls Try.prog 22 #[PT t, .int .i64 (m : Nat)] w' fun e w'' => e = .returned (.bool (!liv S m)) ∧ w'' = w')) := fun w' T m m1 m2 => by
    have h' := h.keep0 T
    obtain ⟨-, -, -, x3, x4⟩ := h'.cells m1 m2
    refine ⟨find26_ok w' t S g c m h' m1 m2, x3, x4, (is22 w' t _ S m h').mono ?_⟩
    rintro e w'' ⟨rfl, rfl⟩
    rw [fI_ok m1 m2]
    refine ⟨?_, rfl⟩
    unfold liv
    rw [nat_bne]
  have HLe := hid h.le
  have HO := hid (And.intro ok (And.intro h1 (And.intro h2 hw)))
  have HS : Hid (Bo w (w.alloc (.cells #[.int .i64 (n : Nat)] 3)) (.slice (some ⟨w.heap.size, 0, none⟩) 1 1) [n]) := by
    exact ⟨own_one w n, (Touch.refl _ _).alloc _⟩
  clear h ok h1 h2 hw
  unfold PT at *
  go_enter Try.func30, Try.ntmps30
  go_wp2
  go_loopw [7, 8] (fun s7 s8 wr => ∃ a c7 i F, s7 = .slice a F.length c7 ∧ s8 = .int .i64 (i : Nat) ∧ Hid (Bo w wr (.slice a F.length c7) F ∧ Bf S (liv S) n F i)) (fun _ i _ => S.length - (intOf i).toNat)
  case atStart => exact ⟨_, _, 0, [n], rfl, rfl, HS.out, Bf.start HO.out.2.2.1⟩
  case round =>
    clear HS
    obtain ⟨a, c7, i, F, rfl, rfl, HR⟩ := hrel
    have hFS := HR.out.2.length HO.out.2.1
    have hFl := HR.out.2.le
    obtain ⟨L, hL⟩ : ∃ L, L = F.length := ⟨_, rfl⟩
    have HL := hid hL
    rw [← hL] at HR hFS hFl ⊢
    clear hL
    by_cases hlt : i < L
    · have zi : (i : Int) < (L : Int) := by omega
      obtain ⟨k, hk⟩ : ∃ k, F[i]? = some k := ⟨_, List.getElem?_eq_getElem (by have := HL.out; omega)⟩
      have hva := HR.out.2.va k (List.mem_of_getElem? hk)
      obtain ⟨gf, cf, hv, xk⟩ := HR.out.1.at_ hk
      injection hv with hv1 hv2 hv3
      subst hv1 hv3
      clear hv2
      obtain ⟨HK, x3, -, -⟩ := HF.out wr HR.out.1.tc k (by have := HO.out.2.1; omega) hva.2
      have HK := hid HK
      have HI : Hid (Bi S (liv S) n F i k (kids S k) ∧ Lk S (tk S k).ch (kids S k)) := ⟨HR.out.2.inner (by have := HL.out; omega) hk, HO.out.1.lk k (by have := HO.out.2.1; omega) hva.2⟩
      clear hva hk
      generalize (k : Int) = ki at *
      generalize (k - 1) * 5 = kp at *
      go_wp2_with (go_at_call 26; refine HK.out.mono ?_; rintro e w1 ⟨rfl, rfl⟩)
      have H0 : Hid (Bo w w1 (.slice (some ⟨gf, 0, none⟩) F.length c7) F ∧ Bi S (liv S) n F i k (kids S k) ∧ Lk S (tk S k).ch (kids S k)) := ⟨by have := HR.out.1; rw [HL.out] at this; exact this, HI.out⟩
      have zb : (i : Int) < 65536 := by have := HLe.out; omega
      have hcast : Value.slice (some ⟨gf, 0, none⟩) L c7 = .slice (some ⟨gf, 0, none⟩) F.length c7 := by rw [HL.out]
      clear HR HI HK xk x3 zi hlt hFS hFl
      rw [hcast]
      clear hcast HL
      go_loopw [7, 9] (fun s7 s9 wr => ∃ a c7 m F rest, s7 = .slice a F.length c7 ∧ s9 = .int .i64 (m : Nat) ∧ Hid (Bo w wr (.slice a F.length c7) F ∧ Bi S (liv S) n F i k rest ∧ Lk S m rest)) (fun _ s9 _ => (intOf s9).toNat)
      case atStart => exact ⟨_, _, _, F, _, rfl, rfl, H0⟩
      case round =>
        clear H0
        obtain ⟨a, c8, m, F', rest, rfl, rfl, HR⟩ := hrel
        cases rest with
        | nil =>
          obtain rfl : m = 0 := HR.out.2.2
          have hmm : i < S.length := by have := HR.out.2.1.length HO.out.2.1; have := HR.out.2.1.lt; omega
          go_wp2
          go_roundw
          case rel => exact ⟨_, _, i + 1, F', rfl, by go_num, HR.out.1, HR.out.2.1.done⟩
          case measure => simp [intOf]; omega
        | cons m' rest =>
          obtain ⟨e, hlk⟩ := HR.out.2.2
          subst e
          clear zb
          have hmk := mem_kids.1 HR.out.2.1.kid
          have HE := hid (HR.out.2.1.el_lt hlk)
          have hm0 : (m : Int) ≠ 0 := by omega
          have hFS := HR.out.2.1.length HO.out.2.1
          have hbs := HR.out.1.tc.size
          obtain ⟨HK, -, x4, HV⟩ := HF.out wr HR.out.1.tc m hmk.1 hmk.2.1
          have HK := hid HK
          have HV := hid HV
          have HLk := hid hlk
          have hzm := hmk.2.1
          clear hlk
          by_cases hq : liv S m = true
          · have HA : Hid (∀ w5 g1 c1, w5.ownsRow w.heap.size 3 1 (.slice (some ⟨g1, 0, none⟩) (F'.length + 1) c1) (F'.length + 1) (ints F' ++ [.int .i64 (m : Nat)]) → Touch (Value.slice a F'.length c8).ownBlock.toList wr w5 → Bo w w5 (.slice (some ⟨g1, 0, none⟩) (F'.length + 1) c1) (F' ++ [m]) ∧ w5.cell? ⟨g, (m - 1) * 5 + 4, none⟩ = some (.int .i64 ((tk S m).el : Nat)) ∧ Calls Try.prog 26 #[.pointer (some ⟨t, 0, none⟩), .int .i64 (m : Nat)] w5 fun e w'' => e = .returned (.pointer (some ⟨g, (m - 1) * 5, none⟩)) ∧ w'' = w5) := fun w5 g1 c1 hr T => by
              have B := HR.out.1.app hr T
              obtain ⟨y1, -, y2, -⟩ := HF.out w5 B.tc m hmk.1 hmk.2.1
              exact ⟨B, y2, y1⟩
            have HB : Hid (Bi S (liv S) n (F' ++ [m]) i k rest) := HR.out.2.1.add HO.out.1.par HO.out.2.1 hq
            have HR1 := hid HR.out.1.row
            rw [hq] at HV
            clear HR hmk HK x4 hq HF
            generalize hmi : (m : Int) = mi at *
            have HM := hid hmi
            have HM2 := hid hzm
            clear hmi hzm
            generalize (m - 1) * 5 = mp at *
            obtain ⟨L, hL⟩ : ∃ L, L = F'.length := ⟨_, rfl⟩
            have HL := hid hL
            rw [← hL] at HR1 hFS HA ⊢
            clear hL
            go_wp2_with (first
              | (go_at_call 22; refine HV.out.mono ?_; rintro e w1 ⟨rfl, rfl⟩)
              | (at_builtin; refine wpList_append_lies _ rfl _ _ 29 rfl w.heap.size 3 i3 (.int .i64 0) 1 8 Try.underlying29 hi hz0 hz1 hz2 rfl (by decide) (.slice a L c8) L (ints F') rfl (HR1.out.alloc _) ⟨_, 0, none⟩ 1 1 [.int .i64 mi] rfl rfl (cell_one_new _ _ _) (by simp [Value.oneCell']) (by decide) (by have := HLe.out; unfold maxLen; omega) (by have := HLe.out; omega) (by simp; omega) _ rfl ?_; intro g1 c1 w5 hown5 hgrow hat hlt5; obtain ⟨r1, r2, r3⟩ := HA.out w5 g1 c1 hown5 (((Touch.refl _ _).alloc _).grown hgrow (fun j hj => Or.inl (by simp [hj]))); have R1 := hid r1; have R3 := hid r3; clear r1 r3 hown5 hgrow hat hlt5)
              | (go_at_call 26; refine R3.out.mono ?_; rintro e w6 ⟨rfl, rfl⟩))
            go_roundw
            case rel =>
              refine ⟨some ⟨g1, 0, none⟩, c1, _, F' ++ [m], rest, ?_, rfl, ?_, HB.out, HLk.out⟩
              · rw [HL.out]; simp
              · have := R1.out; rw [HL.out] at this; simpa using this
            case measure => have := HE.out; have := HM.out; simp [intOf]; omega
          · have hq : liv S m = false := by simpa using hq
            have HB : Hid (Bi S (liv S) n F' i k rest) := HR.out.2.1.skip hq
            have HR1 := hid HR.out.1
            rw [hq] at HV
            clear HR hmk hq HF
            generalize hmi : (m : Int) = mi at *
            have HM := hid hmi
            clear hmi hzm
            generalize (m - 1) * 5 = mp at *
            go_wp2_with (first
              | (go_at_call 22; refine HV.out.mono ?_; rintro e w1 ⟨rfl, rfl⟩)
              | (go_at_call 26; refine HK.out.mono ?_; rintro e w6 ⟨rfl, rfl⟩))
            go_roundw
            case rel => exact ⟨_, _, _, F', rest, rfl, rfl, HR1.out, HB.out, HLk.out⟩
            case measure => have := HE.out; have := HM.out; simp [intOf]; omega
    · have zi : ¬ (i : Int) < (L : Int) := by omega
      obtain ⟨gf, cf, hv⟩ : ∃ gf cf, Value.slice a L c7 = .slice (some ⟨gf, 0, none⟩) F.length cf := by
        have e := HR.out.2.eq
        have hl : 1 ≤ F.length := by rw [e]; simp
        rcases HR.out.1.row.2 with ⟨_, e⟩ | ⟨g, cap, cur, e, _⟩
        · omega
        · exact ⟨g, cap, e⟩
      injection hv with hv1 hv2 hv3
      subst hv1 hv3
      have hs := HR.out.2.sorted HO.out.1.par HO.out.2.1 HO.out.2.2.1 (liv_closed HO.out.1 HO.out.2.2.2) (by omega)
      have hgl : (brL S (liv S) n).length = F.length := by
        have := congrArg List.length hs
        simpa [toI] using this.symm
      have HS : Hid (Calls Try.prog 31 #[.slice (some ⟨gf, 0, none⟩) L c7] wr fun e w' => e = .returned (.tuple #[]) ∧ BrE (.returned (.slice (some ⟨gf, 0, none⟩) L c7)) w w' (brL S (liv S) n)) := by
        rw [hv2]
        have hrow := HR.out.1.row
        rw [hv2] at hrow
        refine (sort31 wr w.heap.size gf c7 F (brL S (liv S) n) hrow (by have := HLe.out; omega) hs).mono ?_
        rintro e w' ⟨he, r1, r2⟩
        have hgb := (hrow.lt gf rfl).1
        refine ⟨he, some ⟨gf, 0, none⟩, c7, by rw [hgl], by rw [hgl]; exact r1, HR.out.1.tc.trans r2 (fun i hi => Or.inr (by simp at hi; omega))⟩
      clear HR hs hgl hv2 HF hFS hFl hlt
      go_wp2_with (go_at_call 31; refine HS.out.mono ?_; rintro e w1 ⟨rfl, r⟩; have R := hid r; clear r)
      go_ret
      exact R.out
end
end Go.Proofs.Ytbjnajiicljnbaa
