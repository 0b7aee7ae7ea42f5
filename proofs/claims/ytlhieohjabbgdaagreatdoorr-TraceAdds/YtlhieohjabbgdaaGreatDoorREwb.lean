/- A trace's events as a slice of their own, gone over by a function that is handed in; the conditions are that each states. -/
import Derived.Test.YtlhieohjabbgdaaGreatDoorREwa
namespace Go.Proofs.YtlhieohjabbgdaaGreatDoorR.Tr
open Go.RowKit Go.Sort Go.Shelf Go.Maps Go.ChangeMaps
set_option linter.unusedVariables false
set_option linter.unusedSimpArgs false
theorem neE (e : Ez) (w : World) : (binOp .neq 30 e.val e.val).run Tryz.prog w = .ok (.bool false) w := by
  unfold Ez.val
  go_simp
theorem eqE (e : Ez) (w : World) : (binOp .eql 30 e.val e.val).run Tryz.prog w = .ok (.bool true) w := by
  unfold Ez.val
  go_simp
theorem all_ {w : World} {B b : Nat} {v : Value} {L : List Ez} (h : Tq w B b v L) : Calls Tryz.prog 17 #[PT b] w fun r w' => ∃ u, r = .returned u ∧ w'.ownsRow w.heap.size 30 13 u L.length (evs L) ∧ Touch [] w w' := by
  have HR : Hid (Rs 30 13 w v L.length (evs L)) := Rs.of_own h.ow
  have HLe := hid h.le
  obtain ⟨a, c, rfl⟩ := own_form h.ow
  have c0 := cell_at h.bx (j := 0) rfl
  have H0 : Hid (w.ownsRow w.heap.size 30 13 (.slice none 0 0) 0 []) := ⟨rfl, Or.inl ⟨rfl, rfl⟩⟩
  have HO := hid (evs_one L)
  obtain ⟨n, hn⟩ : ∃ n, L.length = n := ⟨_, rfl⟩
  rw [hn] at c0 HR HLe ⊢
  generalize evs L = E at *
  unfold PT
  clear h hn
  go_enter Tryz.func17, Tryz.ntmps17
  go_wp2_with (at_builtin; refine wpList_append_rs rfl _ _ 48 30 rfl _ 13 112 infoE Tryz.underlying48 rfl (by decide) w.heap.size (.slice none 0 0) 0 [] rfl H0.out (.slice a n c) n E rfl HR.out HO.out (by have := HLe.out; unfold maxLen; omega) (by have := HLe.out; omega) (Nat.le_refl _) ?_; intro v' w' o' g' p')
  go_ret
  refine ⟨_, rfl, by simpa using o', touch_grown (Touch.refl [] w) g' H0.out (Nat.le_refl _)⟩
/-- what a function that is handed in does at one event, from a state to the next: it goes on, or ends -/
def EachR (J E : World → Prop) (r : Ending) (w : World) : Prop := (r = .returned (.bool true) ∧ J w) ∨ (r = .returned (.bool false) ∧ E w)
set_option maxHeartbeats 1000000 in
theorem each_adds {w : World} {B b : Nat} {v : Value} {L : List Ez} (x0 x1 x2 x3 : Value) (J : Nat → World → Prop) (E : World → Prop) (h0 : J 0 w) (hT : ∀ i w', J i w' → Tq w' B b v L) (hA : ∀ i w' o, J i w' → J i (w'.alloc o))
    (hs : ∀ i e w', L[i]? = some e → J i w' → Calls Tryz.prog 20 #[.int .i64 i, e.val, x0, x1, x2, x3] w' fun r w'' => EachR (J (i + 1)) E r w'') (hE : ∀ w', J L.length w' → E w') :
    Calls Tryz.prog 55 #[PT b, .func (.func 20) #[] #[x0, x1, x2, x3]] w fun r w' => r = .returned (.tuple #[]) ∧ E w' := by
  have hq := hT 0 w h0
  have HT := hid hT
  have HA := hid hA
  have HE := hid hE
  have HS := hid hs
  have H0 := hid h0
  have hle := hq.le
  obtain ⟨a, c, rfl⟩ := own_form hq.ow
  have cb := cell_at hq.bx (j := 0) rfl
  obtain ⟨n, hn⟩ : ∃ n, L.length = n := ⟨_, rfl⟩
  have HN := hid hn
  rw [hn] at cb hle
  obtain ⟨NL, hNL⟩ : ∃ NL : Int, (n : Int) = NL := ⟨_, rfl⟩
  have hNb : NL ≤ 1048576 := by omega
  clear h0 hT hA hs hE hq hn
  unfold PT
  go_enter Tryz.func55, Tryz.ntmps55
  go_wp2_with fail
  go_loopw [13] (fun i wr => ∃ j : Nat, i = .int .i64 j ∧ j ≤ n ∧ Hid (J j wr)) (fun i _ => n - (intOf i).toNat)
  case atStart => exact ⟨0, rfl, Nat.zero_le _, H0.out⟩
  case round =>
    obtain ⟨j, rfl, hj, HJ⟩ := hrel
    clear H0 cb
    by_cases hlt : j < n
    · have hz : (j : Int) < NL := by omega
      obtain ⟨e, he⟩ : ∃ e, L[j]? = some e := ⟨_, List.getElem?_eq_getElem (by rw [HN.out]; exact hlt)⟩
      have hq := HT.out _ _ HJ.out
      obtain ⟨g0, c', e1, _, hg⟩ := own_some hq.ow (by rw [HN.out]; omega)
      have HR := rc_own (e1 ▸ hq.ow) he
      obtain ⟨c0, c1, c2, c3, c4, c5, c6, c7, c8, c9, c10, c11, c12⟩ := HR
      simp only [Value.slice.injEq] at e1
      obtain ⟨rfl, -, rfl⟩ := e1
      have HC := hid (fun o => HS.out j e _ he (HA.out j wr o HJ.out))
      clear he hq
      unfold Ez.val at HC
      go_wp2_with fail
      refine (HC.out _).mono ?_
      rintro r w2 h2
      rcases h2 with ⟨rfl, h2⟩ | ⟨rfl, h2⟩
      · have H2 := hid h2
        clear h2 HC c0 c1 c2 c3 c4 c5 c6 c7 c8 c9 c10 c11 c12
        go_wp2_with fail
        go_roundw
        case rel => exact ⟨j + 1, by go_num, by omega, H2⟩
        case measure => simp [intOf]; omega
      · have H2 := hid h2
        clear h2 HC c0 c1 c2 c3 c4 c5 c6 c7 c8 c9 c10 c11 c12
        go_wp2_with fail
        first | go_end0 | refine bodyPost_ret (results_none rfl _ _ _) rfl ?_
        exact ⟨rfl, H2.out⟩
    · have hz : ¬ (j : Int) < NL := by omega
      have e1 : j = L.length := by rw [HN.out]; omega
      have H2 : Hid (E wr) := HE.out _ (e1 ▸ HJ.out)
      clear e1 HJ
      go_wp2_with fail
      first | go_end0 | refine bodyPost_ret (results_none rfl _ _ _) rfl ?_
      exact ⟨rfl, H2.out⟩
end Go.Proofs.YtlhieohjabbgdaaGreatDoorR.Tr
