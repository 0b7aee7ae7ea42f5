/- TallyStretches, walked; no conditions but those that each states. -/
import Derived.Test.YtibgfkjhohgkhaaTwc
import Derived.Test.YtibgfkjhohgkhaaTwe
import Derived.Test.YtibgfkjhohgkhaaTlr
import Derived.BigQuiet
import Derived.Deep.QuietTactic
namespace Go.Proofs.Ytibgfkjhohgkhaa.Ty
open Go.RowKit Go.Maps Go.ChangeMaps
open Tr
set_option linter.unusedVariables false
set_option linter.unusedSimpArgs false
set_option maxHeartbeats 2000000 in
set_option maxRecDepth 20000 in
theorem stretches_law (w : World) (v : Value) (b : Int) {L0 : List Ez} (h : Ev w v L0) :
    Calls Try.prog 5 #[v, .int .i64 b] w fun r w' => r = .returned (.bool true) ∧ Touch [] w w' := by
  obtain ⟨v1, h1, hc⟩ := few_ h
  have HF := hid hc
  have hl : (L0.take 2000).length ≤ 2000 := by rw [List.length_take]; omega
  clear h hc
  generalize L0.take 2000 = L at *
  have HA := hid awake_
  by_cases hb : 0 ≤ b ∧ b ≤ 62
  · obtain ⟨hb0, hb1⟩ := hb
    obtain ⟨B, rfl⟩ := Int.eq_ofNat_of_zero_le hb0
    have hB : B ≤ 62 := by omega
    have HS := hid (stretches_ h1 hl B hB)
    have HG := hid (fun (x : World) (t : Touch [] w x) => given_ (h1.keep t) hl)
    have HR := hid (fun (x : World) (v' : Value) (s : Ev x v' L) => rstretches_ s hl B hB)
    clear h1
    go_enter Try.func5, Try.ntmps5
    go_upto_region 2 with (go_at_call 7; refine HF.out.mono ?_; rintro r w' ⟨rfl, hw'⟩; subst w')
    go_upto_region 3 with (go_at_call 18; refine HS.out.mono ?_; rintro r w1 ⟨S, v5, rfl, o1, tl1, sl1, t1⟩; have O1 := hid o1; have TL1 := hid tl1; have T1 := hid t1; clear o1 tl1 t1 HS)
    go_upto_region 6 with (first | (go_at_call 10; refine (HG.out _ T1.out).mono ?_; rintro r w2 ⟨v6, rfl, e2, t2⟩; have E2 := hid e2; have T2 := hid (T1.out.trans' t2); have O2 := hid (own_touch O1.out t2 (fun _ _ h => by cases h)); clear e2 t2 HG O1) | (go_at_call 19; refine (HR.out _ _ E2.out).mono ?_; rintro r w3 ⟨D, v7, rfl, o3, tl3, t3⟩; have P3 := hid o3; have TL3 := hid tl3; have T3 := hid (T2.out.trans' t3); have O3 := hid (own_touch O2.out t3 (fun _ _ h => by cases h)); clear o3 tl3 t3 HR E2 O2 T2))
    obtain rfl := TL1.out.unique TL3.out
    clear TL1 TL3 T1
    obtain ⟨p5, k5, e5⟩ := own_form O3.out
    obtain ⟨p7, k7, e7⟩ := own_form P3.out
    subst e5 e7
    have HSL := hid sl1
    clear sl1
    go_wp2_with (go_at_call 11; refine (HA.out _).mono ?_; rintro r w4 ⟨rfl, t4⟩; have O4 := hid (own_touch O3.out t4 (fun _ _ h => by cases h)); have P4 := hid (own_touch P3.out t4 (fun _ _ h => by cases h)); have T4 := hid (T3.out.trans' t4); clear t4 O3 P3 T3 HA)
    go_loopw [52] (fun i wr => ∃ j : Nat, i = .int .i64 j ∧ j ≤ S.length ∧ Hid (Touch [] w4 wr)) (fun i _ => S.length - (intOf i).toNat)
    case atStart => exact ⟨0, rfl, Nat.zero_le _, hid (Touch.refl [] _)⟩
    case round =>
      obtain ⟨j, rfl, hj, HJ⟩ := hrel
      by_cases hlt : j < S.length
      · obtain ⟨q, hq⟩ : ∃ q, S[j]? = some q := ⟨_, List.getElem?_eq_getElem hlt⟩
        obtain ⟨g5, k5', e5, _, _⟩ := own_some O4.out (by omega)
        obtain ⟨g7, k7', e7, _, _⟩ := own_some P4.out (by omega)
        cases e5
        cases e7
        obtain ⟨c0, c1, c2, c3⟩ := q4_cells (own_touch O4.out HJ.out (fun _ _ h => by cases h)) hq
        obtain ⟨d0, d1, d2, d3⟩ := q4_cells (own_touch P4.out HJ.out (fun _ _ h => by cases h)) hq
        have hsl := HSL.out
        clear hq
        go_upto_region 11 with fail
        go_quiet (fail)
        go_wp2_with fail
        go_roundw
        case rel => exact ⟨j + 1, by go_num, by omega, hid (HJ.out.drewN _)⟩
        case measure => first | (simp [intOf]; done) | (simp [intOf]; omega)
      · obtain rfl : j = S.length := by omega
        have TE := hid (T4.out.trans' HJ.out)
        go_wp2_with fail
        go_ret
        exact ⟨rfl, TE.out⟩
  · have hbb : b < 0 ∨ 62 < b := by omega
    have HS := hid (stretches_no w v1 b hbb)
    clear hb
    rcases hbb with hb | hb
    · go_enter Try.func5, Try.ntmps5
      go_wp2_with (first | (go_at_call 7; refine HF.out.mono ?_; rintro r w' ⟨rfl, hw'⟩; subst w') | (go_at_call 18; refine HS.out.mono ?_; rintro r w1 ⟨rfl, t1⟩; have T1 := hid t1; clear t1) | (go_at_call 11; refine (HA.out _).mono ?_; rintro r w2 ⟨rfl, t2⟩; have T2 := hid (T1.out.trans' t2); clear t2))
      go_ret
      exact ⟨rfl, T2.out⟩
    · have hb2 : ¬ b < 0 := by omega
      go_enter Try.func5, Try.ntmps5
      go_wp2_with (first | (go_at_call 7; refine HF.out.mono ?_; rintro r w' ⟨rfl, hw'⟩; subst w') | (go_at_call 18; refine HS.out.mono ?_; rintro r w1 ⟨rfl, t1⟩; have T1 := hid t1; clear t1) | (go_at_call 11; refine (HA.out _).mono ?_; rintro r w2 ⟨rfl, t2⟩; have T2 := hid (T1.out.trans' t2); clear t2))
      go_ret
      exact ⟨rfl, T2.out⟩
theorem stretches_goes (W : World) (xs : List EvA) (v : Value) (b : Int) (h : SlEvA W v xs) (ok : ∀ x ∈ xs, x.ok) (hc : ∀ a n c, v = .slice a n c → n ≤ c) (wb : W64 b) :
    Calls Try.prog 5 #[v, .int .i64 b] W fun r w' => r = .returned (.bool true) ∧ Touch [] W w' := stretches_law W v b (Ev.of_arg h hc)
end Go.Proofs.Ytibgfkjhohgkhaa.Ty
