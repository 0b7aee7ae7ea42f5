/- The document's text of a recipe, and the law's comparison of two lists; the conditions: the lists lie in memory, the recipe may be. -/
import Derived.Test.YtgjojdlbighoaaaDoorRwd
import Derived.Test.YtgjojdlbighoaaaDoorPst
namespace Go.Proofs.YtgjojdlbighoaaaDoor
open Go.RowKit Go.Sort
set_option linter.unusedVariables false

theorem textB_list (L : List Sp) : (textB L).data.toList = Lib.join ((wsL L).map (·.data.toList)) [32] := by simp [textB]
theorem iB_list (n : Int) : (itoaB n).data.toList = Lib.itoa n := by simp [itoaB]
theorem join_x0 (k : Nat) (a b : Int) (h : kNamed k = 0) : Lib.join ((wsX k a b).map (·.data.toList)) [32] = (kWord k).data.toList := by unfold wsX wsJ; rw [h]; simp [Lib.join_one]
theorem join_x1 (k : Nat) (a b : Int) (h : kNamed k = 1) : Lib.join ((wsX k a b).map (·.data.toList)) [32] = (kWord k).data.toList ++ 32 :: Lib.itoa a := by
  unfold wsX wsJ; rw [h]; simp [Lib.join_cons, Lib.joinTail, iB_list]
theorem join_x2 (k : Nat) (a b : Int) (h : kNamed k = 2) : Lib.join ((wsX k a b).map (·.data.toList)) [32] = (kWord k).data.toList ++ 32 :: (Lib.itoa a ++ 32 :: Lib.itoa b) := by
  unfold wsX wsJ; rw [h]; simp [Lib.join_cons, Lib.joinTail, iB_list]
theorem text_next {L : List Sp} {j : Nat} (hlt : j < L.length) : (textB (L.take (j + 1))).data.toList = (if j = 0 then [] else (textB (L.take j)).data.toList ++ [32]) ++ Lib.join ((wsX L[j].1.toNat L[j].2.1 L[j].2.2).map (·.data.toList)) [32] := by
  rw [List.take_succ_eq_append_getElem hlt, textB_list, textB_list, wsL_app, wsL_one]
  by_cases h : j = 0
  · subst h
    rw [if_pos rfl]
    simp [wsL]
  · rw [if_neg h, List.map_append, join_app _ _ ?_ (by simp [wsX_ne])]
    · simp
    · have : L.take j ≠ [] := by
        intro e
        have := congrArg List.length e
        rw [List.length_take, List.length_nil] at this
        omega
      simpa using wsL_ne this
theorem text_pos {L : List Sp} (hm : ∀ x ∈ L, may x) (hne : L ≠ []) : 0 < (textB L).size := by
  cases L with
  | nil => exact absurd rfl hne
  | cons x L =>
    have h1 := text_next (L := x :: L) (j := 0) (by simp)
    have hx := may_op (hm x (by simp))
    obtain ⟨k, hk⟩ : ∃ k : Nat, x.1 = k := ⟨x.1.toNat, by omega⟩
    have hkw : 0 < (kWord k).data.toList.length := by
      rcases (by omega : k = 1 ∨ k = 2 ∨ k = 3 ∨ k = 4 ∨ k = 5 ∨ k = 6 ∨ k = 7 ∨ k = 8 ∨ k = 9 ∨ k = 10 ∨ k = 11 ∨ k = 12) with rfl | rfl | rfl | rfl | rfl | rfl | rfl | rfl | rfl | rfl | rfl | rfl <;> decide
    have h2 : (textB (x :: L)).data.toList = Lib.join ((wsL (x :: L)).map (·.data.toList)) [32] := textB_list _
    have h3 : wsL (x :: L) = kWord k :: (([itoaB x.2.1, itoaB x.2.2].take (kNamed k)) ++ wsL L) := by
      rw [show x :: L = [x] ++ L from rfl, wsL_app, wsL_one, hk, Int.toNat_natCast]; rfl
    rw [h3, List.map_cons, Lib.join_cons] at h2
    have h4 := congrArg List.length h2
    rw [List.length_append] at h4
    have hl : (textB (x :: L)).data.toList.length = (textB (x :: L)).size := rfl
    omega
theorem ext_list {a b : ByteArray} (h : a.data.toList = b.data.toList) : a = b := ByteArray.ext (Array.toList_inj.1 h)
theorem take_good {L : List Sp} (h : Good L) (j : Nat) : Good (L.take j) := ⟨by rw [List.length_take]; have := h.1; omega, fun x hx => h.2 x (List.mem_of_mem_take hx)⟩
theorem take_wf {L : List Sp} (h : WfS L) (j : Nat) : WfS (L.take j) := fun x hx => h x (List.mem_of_mem_take hx)
theorem empty_e : (⟨#[]⟩ : ByteArray).toList.isEmpty = true := by rw [ByteArray.toList_eq]; rfl
theorem ne_isE' {s : ByteArray} (h : 0 < s.size) : s.toList.isEmpty = false := by
  rw [ByteArray.toList_eq]
  have hl : s.data.toList.length = s.size := rfl
  cases hc : s.data.toList with
  | nil => rw [hc] at hl; simp at hl; omega
  | cons a l => rfl
theorem ne_beq' {s : ByteArray} (h : 0 < s.size) : (s.toList == (⟨#[]⟩ : ByteArray).toList) = false := by
  rw [beq_words]
  refine decide_eq_false ?_
  rintro rfl
  exact absurd h (by decide)
set_option maxRecDepth 20000 in
set_option maxHeartbeats 4000000 in
theorem text25 (L : List Sp) (A : Option Addr) (c : Nat) (w : World) (hs : Sl w A L) (hw : WfS L) (hg : Good L) :
    Calls Tryd.prog 25 #[.slice A L.length c] w fun e w' => e = .returned (.string (textB L)) ∧ Gr w w' := by
  have HS : Hid (Sl w A L ∧ WfS L ∧ Good L) := ⟨hs, hw, hg⟩
  have hl' : (L.length : Int) ≤ 256 := by have := hg.1; omega
  clear hs hw hg
  go_enter Tryd.func25, Tryd.ntmps25
  go_wp2_with fail
  go_loopw [3, 10] (fun t i wr => ∃ j : Nat, t = .string (textB (L.take j)) ∧ i = .int .i64 j ∧ j ≤ L.length ∧ Hid (Gr w wr)) (fun _ i _ => L.length - (intOf i).toNat)
  case atStart => exact ⟨0, rfl, rfl, Nat.zero_le _, Gr.refl _⟩
  case round =>
    obtain ⟨j, rfl, rfl, hj, HG⟩ := hrel
    by_cases hlt : j < L.length
    rotate_left
    · have hjz : ¬ (j : Int) < (L.length : Int) := by omega
      obtain rfl : j = L.length := by omega
      rw [List.take_length]
      go_wp2_with fail
      go_ret
      exact ⟨rfl, HG.out⟩
    have hjz : (j : Int) < (L.length : Int) := by omega
    have hjz0 : (0 : Int) ≤ (j : Int) := by omega
    obtain ⟨b, off, rfl, f0, f1, f2⟩ := (HS.out.1.gr HG.out) j hlt
    have hmem := List.getElem_mem hlt
    have hmay : may L[j] := HS.out.2.2.2 _ hmem
    have hwf := HS.out.2.1 _ hmem
    have hop := may_op hmay
    have HX : Hid _ := text_next hlt
    have zt : (textB (L.take j)).size ≤ 16896 := text_size (take_good HS.out.2.2 j) (take_wf HS.out.2.1 j)
    have HP : Hid (j ≠ 0 → 0 < (textB (L.take j)).size) := fun h0 => text_pos (take_good HS.out.2.2 j).2 (fun e => by
      have := congrArg List.length e
      rw [List.length_take, List.length_nil] at this
      omega)
    obtain ⟨k, hk⟩ : ∃ k : Nat, L[j].1 = k := ⟨L[j].1.toNat, by omega⟩
    rw [hk] at f0 HX hop
    rw [Int.toNat_natCast] at HX
    have HC : Hid _ := fun w' => word41 k (by omega) (by omega) w'
    have zk := kWord_size k
    have za := itoaB_size L[j].2.1 hwf.2.1
    have zb := itoaB_size L[j].2.2 hwf.2.2
    have HA : Hid _ := fun w' => digits42 L[j].2.1 w' hwf.2.1
    have HB : Hid _ := fun w' => digits42 L[j].2.2 w' hwf.2.2
    have H0 : Hid (kNamed k = 0 → _) := join_x0 k L[j].2.1 L[j].2.2
    have H1 : Hid (kNamed k = 1 → _) := join_x1 k L[j].2.1 L[j].2.2
    have H2 : Hid (kNamed k = 2 → _) := join_x2 k L[j].2.1 L[j].2.2
    have hnm : kNamed k = 0 ∨ kNamed k = 1 ∨ kNamed k = 2 := by have := named_le k; omega
    clear hmem hmay hwf hop hk
    have ia := iB_list L[j].2.1
    have ib := iB_list L[j].2.2
    rw [← ia] at H1 H2
    rw [← ib] at H2
    clear ia ib
    have HT0 : Hid (j = 0 → textB (L.take j) = ⟨#[]⟩) := fun h => by rw [h]; rfl
    generalize Lib.join ((wsX k L[j].2.1 L[j].2.2).map (·.data.toList)) [32] = JX at *
    generalize textB (L.take j) = TB at *
    generalize itoaB L[j].2.1 = ia at *
    generalize itoaB L[j].2.2 = ib at *
    generalize L[j].2.1 = y at *
    generalize L[j].2.2 = z at *
    generalize kWord k = kw at *
    generalize kNamed k = nm at *
    have ea : ∀ w, (Op.stringOp .add ⟨#[32]⟩ ia).run Tryd.prog w = .ok (.string (⟨#[32]⟩ ++ ia)) w := fun w => run_string_add_sum w _ _ (by have h2 : (ByteArray.mk #[32]).size = 1 := rfl; omega)
    have eb : ∀ w, (Op.stringOp .add ⟨#[32]⟩ ib).run Tryd.prog w = .ok (.string (⟨#[32]⟩ ++ ib)) w := fun w => run_string_add_sum w _ _ (by have h2 : (ByteArray.mk #[32]).size = 1 := rfl; omega)
    by_cases h0 : j = 0
    · rw [if_pos h0] at HX
      have hem := empty_e
      have hTB : TB = ⟨#[]⟩ := HT0.out h0
      subst hTB
      clear h0
      have hsq : (ByteArray.mk #[]).size = 0 := rfl
      have e1 : ∀ w, (Op.stringOp .add ⟨#[]⟩ kw).run Tryd.prog w = .ok (.string (⟨#[]⟩ ++ kw)) w := fun w => run_string_add_sum w _ _ (by have h3 : (ByteArray.mk #[]).size = 0 := rfl; have h2 : (ByteArray.mk #[32]).size = 1 := rfl; (try simp only [ByteArray.size_append]); omega)
      have e2 : ∀ w, (Op.stringOp .add (⟨#[]⟩ ++ kw) (⟨#[32]⟩ ++ ia)).run Tryd.prog w = .ok (.string (⟨#[]⟩ ++ kw ++ (⟨#[32]⟩ ++ ia))) w := fun w => run_string_add_sum w _ _ (by have h3 : (ByteArray.mk #[]).size = 0 := rfl; have h2 : (ByteArray.mk #[32]).size = 1 := rfl; simp only [ByteArray.size_append]; omega)
      have e3 : ∀ w, (Op.stringOp .add (⟨#[]⟩ ++ kw ++ (⟨#[32]⟩ ++ ia)) (⟨#[32]⟩ ++ ib)).run Tryd.prog w = .ok (.string (⟨#[]⟩ ++ kw ++ (⟨#[32]⟩ ++ ia) ++ (⟨#[32]⟩ ++ ib))) w := fun w => run_string_add_sum w _ _ (by have h3 : (ByteArray.mk #[]).size = 0 := rfl; have h2 : (ByteArray.mk #[32]).size = 1 := rfl; simp only [ByteArray.size_append]; omega)
      clear hsq zt zk za zb
      rcases hnm with rfl | rfl | rfl
      · have HN : Hid (textB (L.take (j + 1)) = ⟨#[]⟩ ++ kw) := ext_list (by rw [HX.out, H0.out rfl, app_list] <;> simp)
        clear H0 H1 H2 HX HP HS
        go_wp2_with fail
        refine Calls.mono (HC.out _) ?_
        rintro e w2 ⟨rfl, rfl⟩
        go_wp2_with fail
        go_roundw
        case rel => exact ⟨j + 1, by rw [HN.out], by go_num, by omega, HG.out.alloc _⟩
        case measure => simp [intOf]; omega
      · have HN : Hid (textB (L.take (j + 1)) = ⟨#[]⟩ ++ kw ++ (⟨#[32]⟩ ++ ia)) := ext_list (by rw [HX.out, H1.out rfl, app_list, app_list, app_list] <;> simp)
        clear H0 H1 H2 HX HP HS
        go_wp2_with fail
        refine Calls.mono (HC.out _) ?_
        rintro e w2 ⟨rfl, rfl⟩
        go_wp2_with fail
        refine Calls.mono (HA.out _) ?_
        rintro e w3 ⟨rfl, hg⟩
        have HG3 : Hid (Gr w w3) := (HG.out.alloc _).trans hg
        clear hg
        go_wp2_with fail
        go_roundw
        case rel => exact ⟨j + 1, by rw [HN.out], by go_num, by omega, HG3.out⟩
        case measure => simp [intOf]; omega
      · have HN : Hid (textB (L.take (j + 1)) = ⟨#[]⟩ ++ kw ++ (⟨#[32]⟩ ++ ia) ++ (⟨#[32]⟩ ++ ib)) := ext_list (by rw [HX.out, H2.out rfl, app_list, app_list, app_list, app_list, app_list] <;> simp)
        clear H0 H1 H2 HX HP HS
        go_wp2_with fail
        refine Calls.mono (HC.out _) ?_
        rintro e w2 ⟨rfl, rfl⟩
        go_wp2_with fail
        refine Calls.mono (HA.out _) ?_
        rintro e w3 ⟨rfl, hg⟩
        have HG3 : Hid (Gr w w3) := (HG.out.alloc _).trans hg
        have g0 := (b3_new wr (.int .i64 k) (.int .i64 y) (.int .i64 z) 80).gr hg
        have g1 := g0.c1
        have g2 := g0.c2
        have g0 := g0.c0
        clear hg
        go_wp2_with fail
        refine Calls.mono (HB.out _) ?_
        rintro e w4 ⟨rfl, hg⟩
        have HG4 : Hid (Gr w w4) := HG3.out.trans hg
        clear hg
        go_wp2_with fail
        go_roundw
        case rel => exact ⟨j + 1, by rw [HN.out], by go_num, by omega, HG4.out⟩
        case measure => simp [intOf]; omega
    · rw [if_neg h0] at HX
      have hb1 := ne_isE' (HP.out h0)
      have hb2 := ne_beq' (HP.out h0)
      have e0 : ∀ w, (Op.stringOp .add TB ⟨#[32]⟩).run Tryd.prog w = .ok (.string (TB ++ ⟨#[32]⟩)) w := fun w => run_string_add_sum w _ _ (by have h2 : (ByteArray.mk #[32]).size = 1 := rfl; omega)
      have hTS : (TB ++ ⟨#[32]⟩).data.toList = TB.data.toList ++ [32] := app_list _ _
      have hsq : (TB ++ ⟨#[32]⟩ : ByteArray).size = TB.size + 1 := by rw [ByteArray.size_append]; rfl
      rw [← hTS] at HX
      clear hTS
      have e1 : ∀ w, (Op.stringOp .add (TB ++ ⟨#[32]⟩) kw).run Tryd.prog w = .ok (.string ((TB ++ ⟨#[32]⟩) ++ kw)) w := fun w => run_string_add_sum w _ _ (by have h3 : (ByteArray.mk #[]).size = 0 := rfl; have h2 : (ByteArray.mk #[32]).size = 1 := rfl; (try simp only [ByteArray.size_append]); omega)
      have e2 : ∀ w, (Op.stringOp .add ((TB ++ ⟨#[32]⟩) ++ kw) (⟨#[32]⟩ ++ ia)).run Tryd.prog w = .ok (.string ((TB ++ ⟨#[32]⟩) ++ kw ++ (⟨#[32]⟩ ++ ia))) w := fun w => run_string_add_sum w _ _ (by have h3 : (ByteArray.mk #[]).size = 0 := rfl; have h2 : (ByteArray.mk #[32]).size = 1 := rfl; simp only [ByteArray.size_append]; omega)
      have e3 : ∀ w, (Op.stringOp .add ((TB ++ ⟨#[32]⟩) ++ kw ++ (⟨#[32]⟩ ++ ia)) (⟨#[32]⟩ ++ ib)).run Tryd.prog w = .ok (.string ((TB ++ ⟨#[32]⟩) ++ kw ++ (⟨#[32]⟩ ++ ia) ++ (⟨#[32]⟩ ++ ib))) w := fun w => run_string_add_sum w _ _ (by have h3 : (ByteArray.mk #[]).size = 0 := rfl; have h2 : (ByteArray.mk #[32]).size = 1 := rfl; simp only [ByteArray.size_append]; omega)
      clear hsq zt zk za zb
      rcases hnm with rfl | rfl | rfl
      · have HN : Hid (textB (L.take (j + 1)) = (TB ++ ⟨#[32]⟩) ++ kw) := ext_list (by rw [HX.out, H0.out rfl, app_list] <;> simp)
        clear H0 H1 H2 HX HP HS
        go_wp2_with fail
        refine Calls.mono (HC.out _) ?_
        rintro e w2 ⟨rfl, rfl⟩
        go_wp2_with fail
        go_roundw
        case rel => exact ⟨j + 1, by rw [HN.out], by go_num, by omega, HG.out.alloc _⟩
        case measure => simp [intOf]; omega
      · have HN : Hid (textB (L.take (j + 1)) = (TB ++ ⟨#[32]⟩) ++ kw ++ (⟨#[32]⟩ ++ ia)) := ext_list (by rw [HX.out, H1.out rfl, app_list, app_list, app_list] <;> simp)
        clear H0 H1 H2 HX HP HS
        go_wp2_with fail
        refine Calls.mono (HC.out _) ?_
        rintro e w2 ⟨rfl, rfl⟩
        go_wp2_with fail
        refine Calls.mono (HA.out _) ?_
        rintro e w3 ⟨rfl, hg⟩
        have HG3 : Hid (Gr w w3) := (HG.out.alloc _).trans hg
        clear hg
        go_wp2_with fail
        go_roundw
        case rel => exact ⟨j + 1, by rw [HN.out], by go_num, by omega, HG3.out⟩
        case measure => simp [intOf]; omega
      · have HN : Hid (textB (L.take (j + 1)) = (TB ++ ⟨#[32]⟩) ++ kw ++ (⟨#[32]⟩ ++ ia) ++ (⟨#[32]⟩ ++ ib)) := ext_list (by rw [HX.out, H2.out rfl, app_list, app_list, app_list, app_list, app_list] <;> simp)
        clear H0 H1 H2 HX HP HS
        go_wp2_with fail
        refine Calls.mono (HC.out _) ?_
        rintro e w2 ⟨rfl, rfl⟩
        go_wp2_with fail
        refine Calls.mono (HA.out _) ?_
        rintro e w3 ⟨rfl, hg⟩
        have HG3 : Hid (Gr w w3) := (HG.out.alloc _).trans hg
        have g0 := (b3_new wr (.int .i64 k) (.int .i64 y) (.int .i64 z) 80).gr hg
        have g1 := g0.c1
        have g2 := g0.c2
        have g0 := g0.c0
        clear hg
        go_wp2_with fail
        refine Calls.mono (HB.out _) ?_
        rintro e w4 ⟨rfl, hg⟩
        have HG4 : Hid (Gr w w4) := HG3.out.trans hg
        clear hg
        go_wp2_with fail
        go_roundw
        case rel => exact ⟨j + 1, by rw [HN.out], by go_num, by omega, HG4.out⟩
        case measure => simp [intOf]; omega
set_option maxRecDepth 20000 in
set_option maxHeartbeats 2000000 in
theorem same14 (L : List Sp) (A A' : Option Addr) (c c' : Nat) (w : World) (hs : Sl w A L) (hs' : Sl w A' L) (hl : L.length ≤ 1000000000) :
    Calls Tryd.prog 14 #[.slice A L.length c, .slice A' L.length c'] w fun e w' => e = .returned (.bool true) ∧ Gr w w' := by
  have HS : Hid (Sl w A L ∧ Sl w A' L) := ⟨hs, hs'⟩
  have hl' : (L.length : Int) ≤ 1000000000 := by omega
  clear hs hs' hl
  go_enter Tryd.func14, Tryd.ntmps14
  go_wp2_with fail
  go_loopw [13] (fun i wr => ∃ j : Nat, i = .int .i64 j ∧ j ≤ L.length ∧ Hid (Gr w wr)) (fun i _ => L.length - (intOf i).toNat)
  case atStart => exact ⟨0, rfl, Nat.zero_le _, Gr.refl _⟩
  case round =>
    obtain ⟨j, rfl, hj, HG⟩ := hrel
    by_cases hlt : j < L.length
    · have hjz : (j : Int) < (L.length : Int) := by omega
      have hjz0 : (0 : Int) ≤ (j : Int) := by omega
      obtain ⟨b, off, rfl, f0, f1, f2⟩ := (HS.out.1.gr HG.out) j hlt
      obtain ⟨b', off', rfl, k0, k1, k2⟩ := (HS.out.2.gr HG.out) j hlt
      generalize L[j].1 = x at *
      generalize L[j].2.1 = y at *
      generalize L[j].2.2 = z at *
      go_wp2_with fail
      go_quiet (fail)
      go_wp2_with fail
      go_roundw
      case rel => exact ⟨j + 1, by go_num, by omega, HG.out.drewN _⟩
      case measure => simp [intOf]; omega
    · have hjz : ¬ (j : Int) < (L.length : Int) := by omega
      go_wp2_with fail
      go_ret
      exact ⟨rfl, HG.out⟩
end Go.Proofs.YtgjojdlbighoaaaDoor
