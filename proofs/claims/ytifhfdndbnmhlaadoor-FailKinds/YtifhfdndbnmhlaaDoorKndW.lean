/- The walk of FailKinds: how many failures have each kind; the conditions are that the listed variables hold what the start lays, and the list's length. -/
import Derived.Test.YtifhfdndbnmhlaaDoorKnd
import Derived.ChangeKeysEq
import Derived.Laws.StructEq
namespace Go.Proofs.YtifhfdndbnmhlaaDoor
open Go.RowKit Go.Sort
set_option linter.unusedVariables false
theorem cells3 : Tryd.prog.cellsOf 3 = 1 := by kernel_rfl
theorem eql57 (xs : List F3) (w : World) : (binOp .eql 57 (six xs) (six xs)).run Tryd.prog w = .ok (.bool true) w := by
  have hs : (Tryd.prog.info? 3).isSome = true := by kernel_rfl
  obtain ⟨i, hi⟩ := Option.isSome_iff_exists.1 hs
  have h := run_equalIn_array (P := Tryd.prog) w 9999 (t := 57) (e := 3) #[.int .i64 (cnt xs 0), .int .i64 (cnt xs 1), .int .i64 (cnt xs 2), .int .i64 (cnt xs 3), .int .i64 (cnt xs 4), .int .i64 (cnt xs 5)] #[.int .i64 (cnt xs 0), .int .i64 (cnt xs 1), .int .i64 (cnt xs 2), .int .i64 (cnt xs 3), .int .i64 (cnt xs 4), .int .i64 (cnt xs 5)] Tryd.underlying57 hi
  rw [cells3] at h
  simp only [binOp]
  have e : ∀ z : Int, (Op.equalIn 9999 3 (.int .i64 z) (.int .i64 z)).run Tryd.prog w = .ok true w := fun z => by
    rw [run_equalIn_int w 9998 3 .i64 .i64 z z Tryd.underlying3]
    simp
  have h2 : (Op.equalIn 10000 57 (six xs) (six xs)).run Tryd.prog w = .ok true w := by
    rw [h]
    rw [show List.range 6 = [0, 1, 2, 3, 4, 5] from rfl]
    simp [Op.eqItems, part, isAgg, run_underlying Tryd.underlying3, e]
  simp [Op.equal, Op.maxDepth, h2]
theorem six_one (w : World) : Six (w.alloc (.cells #[.int .i64 0, .int .i64 0, .int .i64 0, .int .i64 0, .int .i64 0, .int .i64 0] 57)) w.heap.size [] :=
  ⟨by simp [cnt], by simp [cnt], by simp [cnt], by simp [cnt], by simp [cnt], by simp [cnt], fun i => by simp⟩
set_option maxRecDepth 100000 in
set_option maxHeartbeats 2000000 in
theorem kindsW_row (xs : List F3) (b off cap : Nat) (w : World) (hS : St w) (hl : xs.length ≤ 140737488351232) (R : RowF w b off xs) :
    Calls Tryd.prog 6 #[.slice (some ⟨b, off, none⟩) xs.length cap] w fun e w' => e = .returned (.bool true) ∧ Gr w w' := by
  have mixed := mixed
  have heq := eql57 xs
  have HR : Hid (RowF w b off xs) := R
  have HS : Hid (St w) := hS
  have HL : Hid (xs.length ≤ 140737488351232) := hl
  clear R hS
  go_enter Tryd.func6, Tryd.ntmps6
  go_wp2
  go_loopw [4] (fun i wr => ∃ j : Nat, i = .int .i64 j ∧ j ≤ xs.length ∧ Hid (Six wr w.heap.size (xs.take j)) ∧ Hid (Gr w wr)) (fun i _ => xs.length - (intOf i).toNat)
  case atStart => exact ⟨0, rfl, Nat.zero_le _, six_one w, (Gr.refl w).alloc _⟩
  case round =>
    obtain ⟨j, rfl, hj, H1, HG⟩ := hrel
    by_cases hlt : j < xs.length
    · have hz : (j : Int) < (xs.length : Int) := by omega
      have hz0 : (0 : Int) ≤ (j : Int) := by omega
      have f0 := (HR.out.gr HG.out).at0 j hlt
      have HSn : Hid (∀ m, cnt (xs.take (j + 1)) m = cnt (xs.take j) m + if xs[j].1 = m then 1 else 0) := cnt_snoc xs j hlt
      have HLe : Hid (∀ m, cnt (xs.take j) m ≤ 140737488351232) := fun m => Nat.le_trans (cnt_le _ _) (by rw [List.length_take]; omega)
      generalize xs[j].1 = kk at *
      by_cases h0 : kk = 0
      · subst h0
        have HN : Hid (cnt (xs.take (j + 1)) (0 : Nat) = cnt (xs.take j) 0 + 1) := by show _ = _; have := HSn.out 0; simpa using this
        have HM : Hid (∀ q : Int, q ≠ (0 : Nat) → cnt (xs.take (j + 1)) q = cnt (xs.take j) q) := fun q hq => by have := HSn.out q; rw [if_neg (fun e => hq (by rw [← e]; rfl))] at this; exact this
        have hw : IntKind.i64.wrap ((cnt (xs.take j) 0 : Int) + 1) = ((cnt (xs.take j) 0 + 1 : Nat) : Int) := by have := HLe.out 0; rw [IntKind.wrap_i64]; omega
        obtain ⟨c0, c1, c2, c3, c4, c5, z⟩ := H1.out
        go_wp2
        go_roundw
        case rel =>
          refine ⟨j + 1, by go_num, by omega, ?_, ?_⟩
          · exact six_set _ _ _ _ 0 _ H1.out HN.out HM.out
          · exact HG.out.setCell (Nat.le_refl _) _
        case measure => simp [intOf]; omega
      by_cases h1 : kk = 1
      · subst h1
        have HN : Hid (cnt (xs.take (j + 1)) (1 : Nat) = cnt (xs.take j) 1 + 1) := by show _ = _; have := HSn.out 1; simpa using this
        have HM : Hid (∀ q : Int, q ≠ (1 : Nat) → cnt (xs.take (j + 1)) q = cnt (xs.take j) q) := fun q hq => by have := HSn.out q; rw [if_neg (fun e => hq (by rw [← e]; rfl))] at this; exact this
        have hw : IntKind.i64.wrap ((cnt (xs.take j) 1 : Int) + 1) = ((cnt (xs.take j) 1 + 1 : Nat) : Int) := by have := HLe.out 1; rw [IntKind.wrap_i64]; omega
        obtain ⟨c0, c1, c2, c3, c4, c5, z⟩ := H1.out
        go_wp2
        go_roundw
        case rel =>
          refine ⟨j + 1, by go_num, by omega, ?_, ?_⟩
          · exact six_set _ _ _ _ 1 _ H1.out HN.out HM.out
          · exact HG.out.setCell (Nat.le_refl _) _
        case measure => simp [intOf]; omega
      by_cases h2 : kk = 2
      · subst h2
        have HN : Hid (cnt (xs.take (j + 1)) (2 : Nat) = cnt (xs.take j) 2 + 1) := by show _ = _; have := HSn.out 2; simpa using this
        have HM : Hid (∀ q : Int, q ≠ (2 : Nat) → cnt (xs.take (j + 1)) q = cnt (xs.take j) q) := fun q hq => by have := HSn.out q; rw [if_neg (fun e => hq (by rw [← e]; rfl))] at this; exact this
        have hw : IntKind.i64.wrap ((cnt (xs.take j) 2 : Int) + 1) = ((cnt (xs.take j) 2 + 1 : Nat) : Int) := by have := HLe.out 2; rw [IntKind.wrap_i64]; omega
        obtain ⟨c0, c1, c2, c3, c4, c5, z⟩ := H1.out
        go_wp2
        go_roundw
        case rel =>
          refine ⟨j + 1, by go_num, by omega, ?_, ?_⟩
          · exact six_set _ _ _ _ 2 _ H1.out HN.out HM.out
          · exact HG.out.setCell (Nat.le_refl _) _
        case measure => simp [intOf]; omega
      by_cases h3 : kk = 3
      · subst h3
        have HN : Hid (cnt (xs.take (j + 1)) (3 : Nat) = cnt (xs.take j) 3 + 1) := by show _ = _; have := HSn.out 3; simpa using this
        have HM : Hid (∀ q : Int, q ≠ (3 : Nat) → cnt (xs.take (j + 1)) q = cnt (xs.take j) q) := fun q hq => by have := HSn.out q; rw [if_neg (fun e => hq (by rw [← e]; rfl))] at this; exact this
        have hw : IntKind.i64.wrap ((cnt (xs.take j) 3 : Int) + 1) = ((cnt (xs.take j) 3 + 1 : Nat) : Int) := by have := HLe.out 3; rw [IntKind.wrap_i64]; omega
        obtain ⟨c0, c1, c2, c3, c4, c5, z⟩ := H1.out
        go_wp2
        go_roundw
        case rel =>
          refine ⟨j + 1, by go_num, by omega, ?_, ?_⟩
          · exact six_set _ _ _ _ 3 _ H1.out HN.out HM.out
          · exact HG.out.setCell (Nat.le_refl _) _
        case measure => simp [intOf]; omega
      by_cases h4 : kk = 4
      · subst h4
        have HN : Hid (cnt (xs.take (j + 1)) (4 : Nat) = cnt (xs.take j) 4 + 1) := by show _ = _; have := HSn.out 4; simpa using this
        have HM : Hid (∀ q : Int, q ≠ (4 : Nat) → cnt (xs.take (j + 1)) q = cnt (xs.take j) q) := fun q hq => by have := HSn.out q; rw [if_neg (fun e => hq (by rw [← e]; rfl))] at this; exact this
        have hw : IntKind.i64.wrap ((cnt (xs.take j) 4 : Int) + 1) = ((cnt (xs.take j) 4 + 1 : Nat) : Int) := by have := HLe.out 4; rw [IntKind.wrap_i64]; omega
        obtain ⟨c0, c1, c2, c3, c4, c5, z⟩ := H1.out
        go_wp2
        go_roundw
        case rel =>
          refine ⟨j + 1, by go_num, by omega, ?_, ?_⟩
          · exact six_set _ _ _ _ 4 _ H1.out HN.out HM.out
          · exact HG.out.setCell (Nat.le_refl _) _
        case measure => simp [intOf]; omega
      by_cases h5 : kk = 5
      · subst h5
        have HN : Hid (cnt (xs.take (j + 1)) (5 : Nat) = cnt (xs.take j) 5 + 1) := by show _ = _; have := HSn.out 5; simpa using this
        have HM : Hid (∀ q : Int, q ≠ (5 : Nat) → cnt (xs.take (j + 1)) q = cnt (xs.take j) q) := fun q hq => by have := HSn.out q; rw [if_neg (fun e => hq (by rw [← e]; rfl))] at this; exact this
        have hw : IntKind.i64.wrap ((cnt (xs.take j) 5 : Int) + 1) = ((cnt (xs.take j) 5 + 1 : Nat) : Int) := by have := HLe.out 5; rw [IntKind.wrap_i64]; omega
        obtain ⟨c0, c1, c2, c3, c4, c5, z⟩ := H1.out
        go_wp2
        go_roundw
        case rel =>
          refine ⟨j + 1, by go_num, by omega, ?_, ?_⟩
          · exact six_set _ _ _ _ 5 _ H1.out HN.out HM.out
          · exact HG.out.setCell (Nat.le_refl _) _
        case measure => simp [intOf]; omega
      have HM : Hid (∀ q : Nat, q ≤ 5 → cnt (xs.take (j + 1)) q = cnt (xs.take j) q) := fun q hq => by have := HSn.out q; rw [if_neg (fun e => by omega)] at this; exact this
      have HX : Hid (Six wr w.heap.size (xs.take (j + 1))) := by
        have h := H1.out
        exact ⟨by have e := HM.out 0 (by omega); rw [show (0 : Int) = ((0 : Nat) : Int) from rfl, e]; exact h.c0, by have e := HM.out 1 (by omega); rw [show (1 : Int) = ((1 : Nat) : Int) from rfl, e]; exact h.c1, by have e := HM.out 2 (by omega); rw [show (2 : Int) = ((2 : Nat) : Int) from rfl, e]; exact h.c2, by have e := HM.out 3 (by omega); rw [show (3 : Int) = ((3 : Nat) : Int) from rfl, e]; exact h.c3, by have e := HM.out 4 (by omega); rw [show (4 : Int) = ((4 : Nat) : Int) from rfl, e]; exact h.c4, by have e := HM.out 5 (by omega); rw [show (5 : Int) = ((5 : Nat) : Int) from rfl, e]; exact h.c5, h.z⟩
      by_cases hk0 : 0 ≤ kk
      · have hk6 : ¬ kk ≤ 5 := by omega
        go_wp2
        go_roundw
        case rel => exact ⟨j + 1, by go_num, by omega, HX.out, HG.out⟩
        case measure => simp [intOf]; omega
      · go_wp2
        go_roundw
        case rel => exact ⟨j + 1, by go_num, by omega, HX.out, HG.out⟩
        case measure => simp [intOf]; omega
    · have hz : ¬ (j : Int) < (xs.length : Int) := by omega
      obtain rfl : j = xs.length := by omega
      rw [List.take_length] at H1
      have HT : Hid (St wr) := HS.out.gr HG.out
      have HV : Hid (SlF wr (.slice (some ⟨b, off, none⟩) xs.length cap) xs) := Or.inr ⟨b, off, cap, rfl, HR.out.gr HG.out⟩
      obtain ⟨c0, c1, c2, c3, c4, c5, z⟩ := H1.out
      have e0 := cell_regrown c0
      have e1 := cell_regrown c1
      have e2 := cell_regrown c2
      have e3 := cell_regrown c3
      have e4 := cell_regrown c4
      have e5 := cell_regrown c5
      clear c0 c1 c2 c3 c4 c5 z
      go_wp2
      refine wp_region_quiet_below (by assumption) (by kernel_rfl) ?_
      repeat (quiet_step (first
        | (go_at_call 9; exact Calls.regrown_of (awake9 _ (HT.out.gr (gr_re _ _ _))))
        | (go_at_call 26; exact Calls.regrown_of (kinds26 xs _ _ HL.out (HV.out.gr (gr_re _ _ _))))))
      refine wpQuiet_nil ?_
      intro _ hw'
      obtain ⟨⟨dq, osq⟩, hw''⟩ := hw'
      subst hw''
      go_wp2
      go_ret
      exact ⟨rfl, HG.out.re _ _⟩
set_option maxRecDepth 100000 in
set_option maxHeartbeats 2000000 in
theorem kindsW_nil (a : Option Addr) (cap : Nat) (w : World) (hS : St w) :
    Calls Tryd.prog 6 #[.slice a 0 cap] w fun e w' => e = .returned (.bool true) ∧ Gr w w' := by
  have mixed := mixed
  have heq := eql57 []
  have HS : Hid (St w) := hS
  have HL : Hid (([] : List F3).length ≤ 140737488351232) := by show ([] : List F3).length ≤ _; simp
  clear hS
  go_enter Tryd.func6, Tryd.ntmps6
  go_wp2
  go_loopw [4] (fun i wr => i = .int .i64 0 ∧ Hid (Six wr w.heap.size []) ∧ Hid (Gr w wr)) (fun i _ => 0)
  case atStart => exact ⟨rfl, six_one w, (Gr.refl w).alloc _⟩
  case round =>
    obtain ⟨rfl, H1, HG⟩ := hrel
    have HT : Hid (St wr) := HS.out.gr HG.out
    have HV : Hid (SlF wr (.slice a 0 cap) []) := Or.inl ⟨rfl, a, cap, rfl⟩
    obtain ⟨c0, c1, c2, c3, c4, c5, z⟩ := H1.out
    have e0 := cell_regrown c0
    have e1 := cell_regrown c1
    have e2 := cell_regrown c2
    have e3 := cell_regrown c3
    have e4 := cell_regrown c4
    have e5 := cell_regrown c5
    clear c0 c1 c2 c3 c4 c5 z
    go_wp2
    refine wp_region_quiet_below (by assumption) (by kernel_rfl) ?_
    repeat (quiet_step (first
      | (go_at_call 9; exact Calls.regrown_of (awake9 _ (HT.out.gr (gr_re _ _ _))))
      | (go_at_call 26; exact Calls.regrown_of (kinds26 [] _ _ HL.out (HV.out.gr (gr_re _ _ _))))))
    refine wpQuiet_nil ?_
    intro _ hw'
    obtain ⟨⟨dq, osq⟩, hw''⟩ := hw'
    subst hw''
    go_wp2
    go_ret
    exact ⟨rfl, HG.out.re _ _⟩
theorem kindsW (xs : List F3) (v : Value) (w : World) (hS : St w) (hl : xs.length ≤ 140737488351232) (R : SlF w v xs) :
    Calls Tryd.prog 6 #[v] w fun e w' => e = .returned (.bool true) ∧ Gr w w' := by
  rcases R with ⟨rfl, a, cap, rfl⟩ | ⟨b, off, cap, rfl, R⟩
  · exact kindsW_nil a cap w hS
  · exact kindsW_row xs b off cap w hS hl R
end Go.Proofs.YtifhfdndbnmhlaaDoor
