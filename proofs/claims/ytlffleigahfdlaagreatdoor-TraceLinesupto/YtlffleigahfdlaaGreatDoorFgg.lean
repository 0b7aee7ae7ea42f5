/- A text looked up in a trie of three keys; no conditions but those that each states. -/
import Derived.Test.YtlffleigahfdlaaGreatDoorFgf
namespace Go.Proofs.YtlffleigahfdlaaGreatDoor.Tr
open Go.RowKit Go.Sort Go.Shelf Go.Maps Go.ChangeMaps
set_option linter.unusedVariables false
set_option linter.unusedSimpArgs false
def prefB (l m : List UInt8) : Bool := decide (l.take m.length = m)
theorem prefB_short {l m : List UInt8} (h : l.length < m.length) : prefB l m = false := by
  unfold prefB
  refine decide_eq_false (fun e => ?_)
  have := congrArg List.length e
  rw [List.length_take] at this
  omega
set_option maxHeartbeats 1000000 in
theorem hplite_ (w : World) (a p : ByteArray) (ha : a.size ≤ 9223372036854775807) : Calls Tryz.prog 213 #[.string a, .string p] w fun e w' => e = .returned (.bool (prefB a.data.toList p.data.toList)) ∧ w' = w := by
  have ea : a.data.toList.length = a.size := by simp
  have ep : p.data.toList.length = p.size := by simp
  by_cases h : p.size ≤ a.size
  · have hz : (p.size : Int) ≤ (a.size : Int) := by omega
    have z0 : (0 : Int) ≤ (p.size : Int) := by omega
    have sl : ∀ w, (Instr.slice 9 (.string a) none (some (.int .i64 (p.size : Int))) none).run Tryz.prog w = .ok (.string (a.extract 0 p.size)) w := fun w => by go_simp
    have e : (((a.extract 0 p.size).toList == p.toList) : Bool) = prefB a.data.toList p.data.toList := by
      unfold prefB
      rw [Bool.eq_iff_iff, beq_iff_eq, decide_eq_true_eq, ByteArray.toList_eq, ByteArray.toList_eq, Lib.extract_data, List.drop_zero, ep, Nat.sub_zero]
    generalize prefB a.data.toList p.data.toList = R at *
    clear ea ep ha
    go_enter Tryz.func213, Tryz.ntmps213
    go_wp2
    go_ret
    exact ⟨by rw [← e]; rfl, rfl⟩
  · have hz : ¬ (p.size : Int) ≤ (a.size : Int) := by omega
    rw [prefB_short (by omega)]
    clear ea ep ha
    go_enter Tryz.func213, Tryz.ntmps213
    go_wp2
    go_ret
    exact ⟨rfl, rfl⟩
theorem hp_ (w : World) (a p : ByteArray) (ha : a.size ≤ 9223372036854775807) : Calls Tryz.prog 204 #[.string a, .string p] w fun e w' => e = .returned (.bool (prefB a.data.toList p.data.toList)) ∧ Touch [] w w' := by
  have H := hid (hplite_ w a p ha)
  clear ha
  go_enter Tryz.func204, Tryz.ntmps204
  go_wp2_with (go_at_call 213; refine H.out.mono ?_; rintro e w1 ⟨rfl, rfl⟩)
  go_ret
  exact ⟨rfl, Touch.refl _ _⟩

def lkS (l : List UInt8) : ByteArray := match lkL l with | some x => ⟨#[x]⟩ | none => ⟨#[]⟩
def lkN (l : List UInt8) : Int := match lkL l with | some x => 3 | none => 0
def lkB (l : List UInt8) : Bool := match lkL l with | some x => true | none => false
theorem ba_ext {a b : ByteArray} (h : a.data.toList = b.data.toList) : a = b := ByteArray.ext (Array.toList_inj.1 h)
theorem ext1 {Y : ByteArray} {c : UInt8} {t : List UInt8} (h : Y.data.toList = c :: t) : (Y.extract 1 Y.size).data.toList = t := by
  rw [Lib.extract_data, h, List.drop_one, List.tail_cons]
  have e : Y.size = Y.data.toList.length := rfl
  rw [e, h, List.length_cons]
  exact List.take_of_length_le (by omega)
theorem cons_f {Y : ByteArray} {c : UInt8} {t : List UInt8} (h : Y.data.toList = c :: t) : Y.toList.isEmpty = false ∧ (Y.toList == (⟨#[]⟩ : ByteArray).toList) = false ∧ 1 ≤ Y.size ∧ ∀ h0 : 0 < Y.size, (Y[0]'h0) = c := by
  have e : Y.size = Y.data.toList.length := rfl
  refine ⟨by rw [ByteArray.toList_eq, h]; rfl, by rw [ByteArray.toList_eq, ByteArray.toList_eq, h]; rfl, by rw [e, h]; simp, fun h0 => ?_⟩
  have e2 : (Y[0]'h0) = Y.data.toList[0]'(by rw [← e]; exact h0) := rfl
  rw [e2]
  simp only [h]
  rfl
theorem u8n {c : UInt8} {k : Nat} (h : c.toNat = k) (hk : k < 256) : c = UInt8.ofNat k := by
  apply UInt8.toNat_inj.1
  rw [h, UInt8.toNat_ofNat']; omega
theorem mapB_other {c : Nat} (h : ¬ c ∈ sq) : mapB c = 6 := if_neg h
theorem res_no {l : List UInt8} (h : lkL l = none) : Ending.returned (.tuple #[.string ⟨#[]⟩, .int .i64 0, .bool false]) = .returned (.tuple #[.string (lkS l), .int .i64 (lkN l), .bool (lkB l)]) := by
  simp [lkS, lkN, lkB, h]
theorem res_yes {l : List UInt8} {x : UInt8} (h : lkL l = some x) : Ending.returned (.tuple #[.string ⟨#[x]⟩, .int .i64 3, .bool true]) = .returned (.tuple #[.string (lkS l), .int .i64 (lkN l), .bool (lkB l)]) := by
  simp [lkS, lkN, lkB, h]
theorem lkL_nil : lkL [] = none := rfl
theorem lkL_37 : lkL [37] = none := rfl
theorem lkL_2 (a b : UInt8) : lkL [a, b] = none := rfl
theorem lk_no {a b : UInt8} {t : List UInt8} (h : ¬ (b = 48 ∨ b = 50)) : lkL (a :: b :: t) = none := by
  cases t with
  | nil => rfl
  | cons c t =>
    show lk3 a b c = none
    unfold lk3
    rw [if_neg (fun e => h (Or.inl e.2.1)), if_neg (fun e => h (Or.inl e.2.1)), if_neg (fun e => h (Or.inr e.2.1))]
theorem lk_no48 {c : UInt8} {t : List UInt8} (h : ¬ (c = 97 ∨ c = 100)) : lkL (37 :: 48 :: c :: t) = none := by
  show lk3 37 48 c = none
  unfold lk3
  rw [if_neg (fun e => h (Or.inl e.2.2)), if_neg (fun e => h (Or.inr e.2.2)), if_neg (fun e => by cases e.2.1)]
theorem lk_no50 {c : UInt8} {t : List UInt8} (h : ¬ c = 53) : lkL (37 :: 50 :: c :: t) = none := by
  show lk3 37 50 c = none
  unfold lk3
  rw [if_neg (fun e => by cases e.2.1), if_neg (fun e => by cases e.2.1), if_neg (fun e => h e.2.2)]
set_option maxRecDepth 40000 in
set_option maxHeartbeats 16000000 in
theorem look_ {w : World} {r : Nat} (h : Tri w r) (s : ByteArray) (hs : s.size ≤ 1099511627776) (h37 : s.data.toList = [] ∨ ∃ t, s.data.toList = 37 :: t) :
    Calls Tryz.prog 241 #[nP r, .string s, .bool false] w fun e w' => e = .returned (.tuple #[.string (lkS s.data.toList), .int .i64 (lkN s.data.toList), .bool (lkB s.data.toList)]) ∧ Touch [] w w' := by
  obtain ⟨t0, n1, n2, m, k, k2, q2, G, h1, h2, h3, h4, h5, h6, h7, h8, h9⟩ := h
  have H := hid (And.intro G (And.intro h1 (And.intro h2 (And.intro h3 (And.intro h4 (And.intro h5 (And.intro h6 (And.intro h7 (And.intro h8 h9)))))))))
  have HP := hid (fun w' (Y : ByteArray) (hY : Y.size ≤ 9223372036854775807) => hp_ w' Y ⟨#[53]⟩ hY)
  have H37 := hid h37
  have HZ := hid hs
  clear G h1 h2 h3 h4 h5 h6 h7 h8 h9 h37 hs
  unfold nP
  go_enter Tryz.func241, Tryz.ntmps241
  go_wp2_with fail
  go_loopw [1, 6, 7, 8, 9, 10, 11] (fun y vl kl fd bs nd_ nn wr => ∃ (Y : ByteArray) (n : Nat), y = .string Y ∧ nn = .int .i64 n ∧ vl = .string ⟨#[]⟩ ∧ kl = .int .i64 0 ∧ fd = .bool false ∧ bs = .int .i64 0 ∧ Hid (Touch [] w wr) ∧ Hid (
      (nd_ = .pointer (some ⟨r, 0, none⟩) ∧ n = 0 ∧ s = Y) ∨
      (nd_ = .pointer (some ⟨n1, 0, none⟩) ∧ n = 1 ∧ s.data.toList = 37 :: Y.data.toList) ∨
      (nd_ = .pointer (some ⟨m, 0, none⟩) ∧ n = 2 ∧ s.data.toList = 37 :: 48 :: Y.data.toList) ∨
      (nd_ = .pointer (some ⟨n2, 0, none⟩) ∧ n = 3 ∧ s.data.toList = 37 :: 48 :: 97 :: Y.data.toList) ∨
      (nd_ = .pointer (some ⟨k, 0, none⟩) ∧ n = 3 ∧ s.data.toList = 37 :: 48 :: 100 :: Y.data.toList) ∨
      (nd_ = .pointer (some ⟨k2, 0, none⟩) ∧ n = 2 ∧ s.data.toList = 37 :: 50 :: Y.data.toList) ∨
      (nd_ = .pointer (some ⟨q2, 0, none⟩) ∧ n = 3 ∧ s.data.toList = 37 :: 50 :: 53 :: Y.data.toList) ∨
      (nd_ = .pointer none ∧ n ≤ 8 ∧ lkL s.data.toList = none))) (fun _ _ _ _ _ nd_ nn _ => (match nd_ with | .pointer none => 0 | _ => 10 - (intOf nn).toNat))
  case atStart => exact ⟨s, 0, rfl, rfl, rfl, rfl, rfl, rfl, hid (Touch.refl _ _), hid (Or.inl ⟨rfl, rfl, rfl⟩)⟩
  case round =>
    obtain ⟨Y, n, rfl, rfl, rfl, rfl, rfl, rfl, HT, HS⟩ := hrel
    have GG := hid (H.out.1.touch HT.out)
    rcases HS.out with ⟨rfl, rfl, e⟩ | ⟨rfl, rfl, e⟩ | ⟨rfl, rfl, e⟩ | ⟨rfl, rfl, e⟩ | ⟨rfl, rfl, e⟩ | ⟨rfl, rfl, e⟩ | ⟨rfl, rfl, e⟩ | ⟨rfl, hn, e⟩
    · subst e
      have c1 : wr.cell? ⟨r, 1, none⟩ = some (.int .i64 0) := GG.out.root (j := 1) (by omega)
      have c4 : wr.cell? ⟨r, 4, none⟩ = some (.slice (some ⟨t0, 0, none⟩) 6 6) := GG.out.root (j := 4) (by omega)
      have g5 : wr.cell? ⟨r, 5, none⟩ = some (.int .i64 6) := GG.out.size
      have HN : ∀ w', (binOp .neq 258 (.slice (some ⟨t0, 0, none⟩) 6 6) (.slice none 0 0)).run Tryz.prog w' = .ok (.bool true) w' := fun w' => neqnil _ _ _ w'
      have TT := hid (HT.out.keep H.out.2.1 (by simp))
      clear HS
      rcases H37.out with hl | ⟨t, hl⟩
      · have eY : s = ⟨#[]⟩ := ba_ext hl
        have hno : Hid (lkL s.data.toList = none) := hid (by rw [hl]; rfl)
        clear hl
        subst eY
        go_wp2_with fail
        exact bodyPost_ret (v := .tuple #[.string ⟨#[]⟩, .int .i64 0, .bool false]) (by simp [results, Tryz.results241, go_sem]) rfl ⟨res_no (hno.out), HT.out⟩
      · obtain ⟨y1, y2, y3, y4⟩ := cons_f hl
        have hz1 : (1 : Int) ≤ (s.size : Int) := by omega
        have hz0 : (0 : Int) < (s.size : Int) := by omega
        have hY0 : (s[0]'(by omega)).toNat = 37 := by rw [y4 (by omega)]; rfl
        clear y4
        have gx : wr.cell? ⟨r, 43, none⟩ = some (.int .u8 0) := by
          have := GG.out.num (b := 37) (by omega)
          rw [show mapB 37 = 0 by decide +kernel] at this
          exact this
        have tx : wr.cell? ⟨t0, 0, none⟩ = some (.pointer (some ⟨n1, 0, none⟩)) := cell_at TT.out (j := 0) rfl
        have HL := hid hl
        clear hl
        go_wp2_with fail
        go_quiet (fail)
        go_wp2_with fail
        go_roundw
        case rel => exact ⟨_, 1, rfl, rfl, rfl, rfl, rfl, rfl, hid (HT.out.drewN _), hid (Or.inr (Or.inl ⟨rfl, rfl, by rw [HL.out, ext1 HL.out]⟩))⟩
        case measure => simp [intOf]
    · have AT := hid (H.out.2.2.1.keep HT.out (by simp))
      have TT := hid (HT.out.keep H.out.2.2.2.1 (by simp))
      have c1 : wr.cell? ⟨n1, 1, none⟩ = some (.int .i64 0) := cell_at AT.out (j := 1) rfl
      have c4 : wr.cell? ⟨n1, 4, none⟩ = some (.slice (some ⟨k2 + 1, 0, none⟩) 6 6) := cell_at AT.out (j := 4) rfl
      have HN : ∀ w', (binOp .neq 258 (.slice (some ⟨k2 + 1, 0, none⟩) 6 6) (.slice none 0 0)).run Tryz.prog w' = .ok (.bool true) w' := fun w' => neqnil _ _ _ w'
      rcases hl : Y.data.toList with _ | ⟨c, t⟩
      · have eY : Y = ⟨#[]⟩ := ba_ext hl
        have hno : Hid (lkL s.data.toList = none) := hid (by rw [e, hl]; rfl)
        clear hl e HS
        subst eY
        go_wp2_with fail
        exact bodyPost_ret (v := .tuple #[.string ⟨#[]⟩, .int .i64 0, .bool false]) (by simp [results, Tryz.results241, go_sem]) rfl ⟨res_no (hno.out), HT.out⟩
      · clear HS
        obtain ⟨y1, y2, y3, y4⟩ := cons_f hl
        have hz1 : (1 : Int) ≤ (Y.size : Int) := by omega
        have hz0 : (0 : Int) < (Y.size : Int) := by omega
        have y5 := y4 (by omega)
        obtain ⟨cn, hcn⟩ : ∃ cn : Nat, c.toNat = cn := ⟨_, rfl⟩
        have hc256 : cn < 256 := by rw [← hcn]; exact c.toNat_lt
        have hY0 : (Y[0]'(by omega)).toNat = cn := by rw [y5, hcn]
        have g5 : wr.cell? ⟨r, 5, none⟩ = some (.int .i64 6) := GG.out.size
        clear y4 y5
        by_cases hin : cn ∈ sq
        · have hi6 : cn = 37 ∨ cn = 48 ∨ cn = 50 ∨ cn = 53 ∨ cn = 97 ∨ cn = 100 := by
            simp only [sq, List.mem_cons, List.not_mem_nil, or_false] at hin
            omega
          have HCN := hid hcn
          clear hin hc256 hcn
          rcases hi6 with rfl | rfl | rfl | rfl | rfl | rfl
          · have gx : wr.cell? ⟨r, 43, none⟩ = some (.int .u8 0) := by
              have := GG.out.num (b := 37) (by omega)
              rw [show mapB 37 = 0 by decide +kernel] at this
              exact this
            have HE : Hid (c = 37) := hid (u8n (k := 37) HCN.out (by decide))
            have tx : wr.cell? ⟨k2 + 1, 0, none⟩ = some (.pointer none) := cell_at TT.out (j := 0) rfl
            go_wp2_with fail
            go_quiet (fail)
            go_wp2_with fail
            go_roundw
            case rel => exact ⟨_, 2, rfl, rfl, rfl, rfl, rfl, rfl, hid (HT.out.drewN _), hid (Or.inr (Or.inr (Or.inr (Or.inr (Or.inr (Or.inr (Or.inr (⟨rfl, by decide, by rw [e, hl, HE.out]; exact lk_no (by decide)⟩))))))))⟩
            case measure => simp [intOf]
          · have gx : wr.cell? ⟨r, 54, none⟩ = some (.int .u8 1) := by
              have := GG.out.num (b := 48) (by omega)
              rw [show mapB 48 = 1 by decide +kernel] at this
              exact this
            have HE : Hid (c = 48) := hid (u8n (k := 48) HCN.out (by decide))
            have tx : wr.cell? ⟨k2 + 1, 1, none⟩ = some (.pointer (some ⟨m, 0, none⟩)) := cell_at TT.out (j := 1) rfl
            go_wp2_with fail
            go_quiet (fail)
            go_wp2_with fail
            go_roundw
            case rel => exact ⟨_, 2, rfl, rfl, rfl, rfl, rfl, rfl, hid (HT.out.drewN _), hid (Or.inr (Or.inr (Or.inl ⟨rfl, rfl, by rw [e, hl, HE.out, ext1 hl]⟩)))⟩
            case measure => simp [intOf]
          · have gx : wr.cell? ⟨r, 56, none⟩ = some (.int .u8 2) := by
              have := GG.out.num (b := 50) (by omega)
              rw [show mapB 50 = 2 by decide +kernel] at this
              exact this
            have HE : Hid (c = 50) := hid (u8n (k := 50) HCN.out (by decide))
            have tx : wr.cell? ⟨k2 + 1, 2, none⟩ = some (.pointer (some ⟨k2, 0, none⟩)) := cell_at TT.out (j := 2) rfl
            go_wp2_with fail
            go_quiet (fail)
            go_wp2_with fail
            go_roundw
            case rel => exact ⟨_, 2, rfl, rfl, rfl, rfl, rfl, rfl, hid (HT.out.drewN _), hid (Or.inr (Or.inr (Or.inr (Or.inr (Or.inr (Or.inl ⟨rfl, rfl, by rw [e, hl, HE.out, ext1 hl]⟩))))))⟩
            case measure => simp [intOf]
          · have gx : wr.cell? ⟨r, 59, none⟩ = some (.int .u8 3) := by
              have := GG.out.num (b := 53) (by omega)
              rw [show mapB 53 = 3 by decide +kernel] at this
              exact this
            have HE : Hid (c = 53) := hid (u8n (k := 53) HCN.out (by decide))
            have tx : wr.cell? ⟨k2 + 1, 3, none⟩ = some (.pointer none) := cell_at TT.out (j := 3) rfl
            go_wp2_with fail
            go_quiet (fail)
            go_wp2_with fail
            go_roundw
            case rel => exact ⟨_, 2, rfl, rfl, rfl, rfl, rfl, rfl, hid (HT.out.drewN _), hid (Or.inr (Or.inr (Or.inr (Or.inr (Or.inr (Or.inr (Or.inr (⟨rfl, by decide, by rw [e, hl, HE.out]; exact lk_no (by decide)⟩))))))))⟩
            case measure => simp [intOf]
          · have gx : wr.cell? ⟨r, 103, none⟩ = some (.int .u8 4) := by
              have := GG.out.num (b := 97) (by omega)
              rw [show mapB 97 = 4 by decide +kernel] at this
              exact this
            have HE : Hid (c = 97) := hid (u8n (k := 97) HCN.out (by decide))
            have tx : wr.cell? ⟨k2 + 1, 4, none⟩ = some (.pointer none) := cell_at TT.out (j := 4) rfl
            go_wp2_with fail
            go_quiet (fail)
            go_wp2_with fail
            go_roundw
            case rel => exact ⟨_, 2, rfl, rfl, rfl, rfl, rfl, rfl, hid (HT.out.drewN _), hid (Or.inr (Or.inr (Or.inr (Or.inr (Or.inr (Or.inr (Or.inr (⟨rfl, by decide, by rw [e, hl, HE.out]; exact lk_no (by decide)⟩))))))))⟩
            case measure => simp [intOf]
          · have gx : wr.cell? ⟨r, 106, none⟩ = some (.int .u8 5) := by
              have := GG.out.num (b := 100) (by omega)
              rw [show mapB 100 = 5 by decide +kernel] at this
              exact this
            have HE : Hid (c = 100) := hid (u8n (k := 100) HCN.out (by decide))
            have tx : wr.cell? ⟨k2 + 1, 5, none⟩ = some (.pointer none) := cell_at TT.out (j := 5) rfl
            go_wp2_with fail
            go_quiet (fail)
            go_wp2_with fail
            go_roundw
            case rel => exact ⟨_, 2, rfl, rfl, rfl, rfl, rfl, rfl, hid (HT.out.drewN _), hid (Or.inr (Or.inr (Or.inr (Or.inr (Or.inr (Or.inr (Or.inr (⟨rfl, by decide, by rw [e, hl, HE.out]; exact lk_no (by decide)⟩))))))))⟩
            case measure => simp [intOf]
        · have gx : wr.cell? ⟨r, 6 + cn, none⟩ = some (.int .u8 6) := by
            have := GG.out.num (b := cn) hc256
            rw [mapB_other hin] at this
            exact this
          have HIN := hid (And.intro hin hcn)
          clear hin hcn
          have hcI : (cn : Int) < 256 := by omega
          clear hc256
          go_wp2_with fail
          go_quiet (fail)
          go_wp2_with fail
          exact bodyPost_ret (v := .tuple #[.string ⟨#[]⟩, .int .i64 0, .bool false]) (by simp [results, Tryz.results241, go_sem]) rfl ⟨res_no (by rw [e, hl]; exact lk_no (fun h => HIN.out.1 (by rw [← HIN.out.2]; first | (rcases h with h | h <;> rw [h] <;> decide) | (rw [h]; decide)))), HT.out.drewN _⟩
    · have AT := hid (H.out.2.2.2.2.1.keep HT.out (by simp))
      have TT := hid (HT.out.keep H.out.2.2.2.2.2.1 (by simp))
      have c1 : wr.cell? ⟨m, 1, none⟩ = some (.int .i64 0) := cell_at AT.out (j := 1) rfl
      have c4 : wr.cell? ⟨m, 4, none⟩ = some (.slice (some ⟨k + 1, 0, none⟩) 6 6) := cell_at AT.out (j := 4) rfl
      have HN : ∀ w', (binOp .neq 258 (.slice (some ⟨k + 1, 0, none⟩) 6 6) (.slice none 0 0)).run Tryz.prog w' = .ok (.bool true) w' := fun w' => neqnil _ _ _ w'
      rcases hl : Y.data.toList with _ | ⟨c, t⟩
      · have eY : Y = ⟨#[]⟩ := ba_ext hl
        have hno : Hid (lkL s.data.toList = none) := hid (by rw [e, hl]; rfl)
        clear hl e HS
        subst eY
        go_wp2_with fail
        exact bodyPost_ret (v := .tuple #[.string ⟨#[]⟩, .int .i64 0, .bool false]) (by simp [results, Tryz.results241, go_sem]) rfl ⟨res_no (hno.out), HT.out⟩
      · clear HS
        obtain ⟨y1, y2, y3, y4⟩ := cons_f hl
        have hz1 : (1 : Int) ≤ (Y.size : Int) := by omega
        have hz0 : (0 : Int) < (Y.size : Int) := by omega
        have y5 := y4 (by omega)
        obtain ⟨cn, hcn⟩ : ∃ cn : Nat, c.toNat = cn := ⟨_, rfl⟩
        have hc256 : cn < 256 := by rw [← hcn]; exact c.toNat_lt
        have hY0 : (Y[0]'(by omega)).toNat = cn := by rw [y5, hcn]
        have g5 : wr.cell? ⟨r, 5, none⟩ = some (.int .i64 6) := GG.out.size
        clear y4 y5
        by_cases hin : cn ∈ sq
        · have hi6 : cn = 37 ∨ cn = 48 ∨ cn = 50 ∨ cn = 53 ∨ cn = 97 ∨ cn = 100 := by
            simp only [sq, List.mem_cons, List.not_mem_nil, or_false] at hin
            omega
          have HCN := hid hcn
          clear hin hc256 hcn
          rcases hi6 with rfl | rfl | rfl | rfl | rfl | rfl
          · have gx : wr.cell? ⟨r, 43, none⟩ = some (.int .u8 0) := by
              have := GG.out.num (b := 37) (by omega)
              rw [show mapB 37 = 0 by decide +kernel] at this
              exact this
            have HE : Hid (c = 37) := hid (u8n (k := 37) HCN.out (by decide))
            have tx : wr.cell? ⟨k + 1, 0, none⟩ = some (.pointer none) := cell_at TT.out (j := 0) rfl
            go_wp2_with fail
            go_quiet (fail)
            go_wp2_with fail
            go_roundw
            case rel => exact ⟨_, 3, rfl, rfl, rfl, rfl, rfl, rfl, hid (HT.out.drewN _), hid (Or.inr (Or.inr (Or.inr (Or.inr (Or.inr (Or.inr (Or.inr (⟨rfl, by decide, by rw [e, hl, HE.out]; exact lk_no48 (by decide)⟩))))))))⟩
            case measure => simp [intOf]
          · have gx : wr.cell? ⟨r, 54, none⟩ = some (.int .u8 1) := by
              have := GG.out.num (b := 48) (by omega)
              rw [show mapB 48 = 1 by decide +kernel] at this
              exact this
            have HE : Hid (c = 48) := hid (u8n (k := 48) HCN.out (by decide))
            have tx : wr.cell? ⟨k + 1, 1, none⟩ = some (.pointer none) := cell_at TT.out (j := 1) rfl
            go_wp2_with fail
            go_quiet (fail)
            go_wp2_with fail
            go_roundw
            case rel => exact ⟨_, 3, rfl, rfl, rfl, rfl, rfl, rfl, hid (HT.out.drewN _), hid (Or.inr (Or.inr (Or.inr (Or.inr (Or.inr (Or.inr (Or.inr (⟨rfl, by decide, by rw [e, hl, HE.out]; exact lk_no48 (by decide)⟩))))))))⟩
            case measure => simp [intOf]
          · have gx : wr.cell? ⟨r, 56, none⟩ = some (.int .u8 2) := by
              have := GG.out.num (b := 50) (by omega)
              rw [show mapB 50 = 2 by decide +kernel] at this
              exact this
            have HE : Hid (c = 50) := hid (u8n (k := 50) HCN.out (by decide))
            have tx : wr.cell? ⟨k + 1, 2, none⟩ = some (.pointer none) := cell_at TT.out (j := 2) rfl
            go_wp2_with fail
            go_quiet (fail)
            go_wp2_with fail
            go_roundw
            case rel => exact ⟨_, 3, rfl, rfl, rfl, rfl, rfl, rfl, hid (HT.out.drewN _), hid (Or.inr (Or.inr (Or.inr (Or.inr (Or.inr (Or.inr (Or.inr (⟨rfl, by decide, by rw [e, hl, HE.out]; exact lk_no48 (by decide)⟩))))))))⟩
            case measure => simp [intOf]
          · have gx : wr.cell? ⟨r, 59, none⟩ = some (.int .u8 3) := by
              have := GG.out.num (b := 53) (by omega)
              rw [show mapB 53 = 3 by decide +kernel] at this
              exact this
            have HE : Hid (c = 53) := hid (u8n (k := 53) HCN.out (by decide))
            have tx : wr.cell? ⟨k + 1, 3, none⟩ = some (.pointer none) := cell_at TT.out (j := 3) rfl
            go_wp2_with fail
            go_quiet (fail)
            go_wp2_with fail
            go_roundw
            case rel => exact ⟨_, 3, rfl, rfl, rfl, rfl, rfl, rfl, hid (HT.out.drewN _), hid (Or.inr (Or.inr (Or.inr (Or.inr (Or.inr (Or.inr (Or.inr (⟨rfl, by decide, by rw [e, hl, HE.out]; exact lk_no48 (by decide)⟩))))))))⟩
            case measure => simp [intOf]
          · have gx : wr.cell? ⟨r, 103, none⟩ = some (.int .u8 4) := by
              have := GG.out.num (b := 97) (by omega)
              rw [show mapB 97 = 4 by decide +kernel] at this
              exact this
            have HE : Hid (c = 97) := hid (u8n (k := 97) HCN.out (by decide))
            have tx : wr.cell? ⟨k + 1, 4, none⟩ = some (.pointer (some ⟨n2, 0, none⟩)) := cell_at TT.out (j := 4) rfl
            go_wp2_with fail
            go_quiet (fail)
            go_wp2_with fail
            go_roundw
            case rel => exact ⟨_, 3, rfl, rfl, rfl, rfl, rfl, rfl, hid (HT.out.drewN _), hid (Or.inr (Or.inr (Or.inr (Or.inl ⟨rfl, rfl, by rw [e, hl, HE.out, ext1 hl]⟩))))⟩
            case measure => simp [intOf]
          · have gx : wr.cell? ⟨r, 106, none⟩ = some (.int .u8 5) := by
              have := GG.out.num (b := 100) (by omega)
              rw [show mapB 100 = 5 by decide +kernel] at this
              exact this
            have HE : Hid (c = 100) := hid (u8n (k := 100) HCN.out (by decide))
            have tx : wr.cell? ⟨k + 1, 5, none⟩ = some (.pointer (some ⟨k, 0, none⟩)) := cell_at TT.out (j := 5) rfl
            go_wp2_with fail
            go_quiet (fail)
            go_wp2_with fail
            go_roundw
            case rel => exact ⟨_, 3, rfl, rfl, rfl, rfl, rfl, rfl, hid (HT.out.drewN _), hid (Or.inr (Or.inr (Or.inr (Or.inr (Or.inl ⟨rfl, rfl, by rw [e, hl, HE.out, ext1 hl]⟩)))))⟩
            case measure => simp [intOf]
        · have gx : wr.cell? ⟨r, 6 + cn, none⟩ = some (.int .u8 6) := by
            have := GG.out.num (b := cn) hc256
            rw [mapB_other hin] at this
            exact this
          have HIN := hid (And.intro hin hcn)
          clear hin hcn
          have hcI : (cn : Int) < 256 := by omega
          clear hc256
          go_wp2_with fail
          go_quiet (fail)
          go_wp2_with fail
          exact bodyPost_ret (v := .tuple #[.string ⟨#[]⟩, .int .i64 0, .bool false]) (by simp [results, Tryz.results241, go_sem]) rfl ⟨res_no (by rw [e, hl]; exact lk_no48 (fun h => HIN.out.1 (by rw [← HIN.out.2]; first | (rcases h with h | h <;> rw [h] <;> decide) | (rw [h]; decide)))), HT.out.drewN _⟩
    · have AT := hid (H.out.2.2.2.2.2.2.1.keep HT.out (by simp))
      have c1 : wr.cell? ⟨n2, 1, none⟩ = some (.int .i64 6) := cell_at AT.out (j := 1) rfl
      have c0 : wr.cell? ⟨n2, 0, none⟩ = some (.string ⟨#[10]⟩) := cell_at AT.out (j := 0) rfl
      have c4 : wr.cell? ⟨n2, 4, none⟩ = some (.slice none 0 0) := cell_at AT.out (j := 4) rfl
      have c2 : wr.cell? ⟨n2, 2, none⟩ = some (.string ⟨#[]⟩) := cell_at AT.out (j := 2) rfl
      have hyes : Hid (lkL s.data.toList = some 10) := hid (by rw [e]; rfl)
      clear HS
      rcases hl : Y.data.toList with _ | ⟨c, t⟩
      · have eY : Y = ⟨#[]⟩ := ba_ext hl
        clear hl e
        subst eY
        go_wp2_with fail
        exact bodyPost_ret (v := .tuple #[.string ⟨#[10]⟩, .int .i64 3, .bool true]) (by simp [results, Tryz.results241, go_sem]) rfl ⟨res_yes (hyes.out), HT.out⟩
      · obtain ⟨y1, y2, y3, y4⟩ := cons_f hl
        have hz1 : (1 : Int) ≤ (Y.size : Int) := by omega
        have hz0 : (0 : Int) < (Y.size : Int) := by omega
        clear y4 hl e
        go_wp2_with fail
        exact bodyPost_ret (v := .tuple #[.string ⟨#[10]⟩, .int .i64 3, .bool true]) (by simp [results, Tryz.results241, go_sem]) rfl ⟨res_yes (hyes.out), HT.out⟩
    · have AT := hid (H.out.2.2.2.2.2.2.2.1.keep HT.out (by simp))
      have c1 : wr.cell? ⟨k, 1, none⟩ = some (.int .i64 4) := cell_at AT.out (j := 1) rfl
      have c0 : wr.cell? ⟨k, 0, none⟩ = some (.string ⟨#[13]⟩) := cell_at AT.out (j := 0) rfl
      have c4 : wr.cell? ⟨k, 4, none⟩ = some (.slice none 0 0) := cell_at AT.out (j := 4) rfl
      have c2 : wr.cell? ⟨k, 2, none⟩ = some (.string ⟨#[]⟩) := cell_at AT.out (j := 2) rfl
      have hyes : Hid (lkL s.data.toList = some 13) := hid (by rw [e]; rfl)
      clear HS
      rcases hl : Y.data.toList with _ | ⟨c, t⟩
      · have eY : Y = ⟨#[]⟩ := ba_ext hl
        clear hl e
        subst eY
        go_wp2_with fail
        exact bodyPost_ret (v := .tuple #[.string ⟨#[13]⟩, .int .i64 3, .bool true]) (by simp [results, Tryz.results241, go_sem]) rfl ⟨res_yes (hyes.out), HT.out⟩
      · obtain ⟨y1, y2, y3, y4⟩ := cons_f hl
        have hz1 : (1 : Int) ≤ (Y.size : Int) := by omega
        have hz0 : (0 : Int) < (Y.size : Int) := by omega
        clear y4 hl e
        go_wp2_with fail
        exact bodyPost_ret (v := .tuple #[.string ⟨#[13]⟩, .int .i64 3, .bool true]) (by simp [results, Tryz.results241, go_sem]) rfl ⟨res_yes (hyes.out), HT.out⟩
    · have AT := hid (H.out.2.2.2.2.2.2.2.2.1.keep HT.out (by simp))
      have c1 : wr.cell? ⟨k2, 1, none⟩ = some (.int .i64 0) := cell_at AT.out (j := 1) rfl
      have c4 : wr.cell? ⟨k2, 4, none⟩ = some (.slice none 0 0) := cell_at AT.out (j := 4) rfl
      have c2 : wr.cell? ⟨k2, 2, none⟩ = some (.string ⟨#[53]⟩) := cell_at AT.out (j := 2) rfl
      have c3 : wr.cell? ⟨k2, 3, none⟩ = some (.pointer (some ⟨q2, 0, none⟩)) := cell_at AT.out (j := 3) rfl
      rcases hl : Y.data.toList with _ | ⟨c, t⟩
      · have eY : Y = ⟨#[]⟩ := ba_ext hl
        have hno : Hid (lkL s.data.toList = none) := hid (by rw [e, hl]; rfl)
        clear hl e HS
        subst eY
        go_wp2_with fail
        exact bodyPost_ret (v := .tuple #[.string ⟨#[]⟩, .int .i64 0, .bool false]) (by simp [results, Tryz.results241, go_sem]) rfl ⟨res_no (hno.out), HT.out⟩
      · clear HS
        obtain ⟨y1, y2, y3, y4⟩ := cons_f hl
        have hz1 : (1 : Int) ≤ (Y.size : Int) := by omega
        have hz0 : (0 : Int) < (Y.size : Int) := by omega
        have HPY := hid (fun w' => HP.out w' Y (by have := HZ.out; have h1 := congrArg List.length e; simp only [List.length_cons] at h1; have h2 : s.data.toList.length = s.size := rfl; have h3 : Y.data.toList.length = Y.size := rfl; omega))
        clear y4
        by_cases h53 : c = 53
        · have hpb : prefB Y.data.toList (ByteArray.mk #[53]).data.toList = true := by rw [hl, h53]; rfl
          rw [hpb] at HPY
          have HE := hid h53
          clear hpb h53
          go_wp2_with fail
          refine (HPY.out _).mono ?_
          rintro e1 w1 ⟨rfl, t1⟩
          have T1 := hid (HT.out.trans' t1)
          have c2' := tcell t1 c2
          have c3' := tcell t1 c3
          clear t1 c1 c2 c3 c4
          go_wp2_with fail
          go_roundw
          case rel => exact ⟨_, 3, rfl, rfl, rfl, rfl, rfl, rfl, T1, hid (Or.inr (Or.inr (Or.inr (Or.inr (Or.inr (Or.inr (Or.inl ⟨rfl, rfl, by rw [e, hl, HE.out, ext1 hl]⟩)))))))⟩
          case measure => simp [intOf]
        · have hpb : prefB Y.data.toList (ByteArray.mk #[53]).data.toList = false := by
            rw [hl]
            unfold prefB
            exact decide_eq_false (fun he => h53 (by simpa using he))
          rw [hpb] at HPY
          have HE := hid h53
          clear hpb h53
          go_wp2_with fail
          refine (HPY.out _).mono ?_
          rintro e1 w1 ⟨rfl, t1⟩
          have T1 := hid (HT.out.trans' t1)
          clear t1
          go_wp2_with fail
          exact bodyPost_ret (v := .tuple #[.string ⟨#[]⟩, .int .i64 0, .bool false]) (by simp [results, Tryz.results241, go_sem]) rfl ⟨res_no (by rw [e, hl]; exact lk_no50 HE.out), T1.out⟩
    · have AT := hid (H.out.2.2.2.2.2.2.2.2.2.keep HT.out (by simp))
      have c1 : wr.cell? ⟨q2, 1, none⟩ = some (.int .i64 2) := cell_at AT.out (j := 1) rfl
      have c0 : wr.cell? ⟨q2, 0, none⟩ = some (.string ⟨#[37]⟩) := cell_at AT.out (j := 0) rfl
      have c4 : wr.cell? ⟨q2, 4, none⟩ = some (.slice none 0 0) := cell_at AT.out (j := 4) rfl
      have c2 : wr.cell? ⟨q2, 2, none⟩ = some (.string ⟨#[]⟩) := cell_at AT.out (j := 2) rfl
      have hyes : Hid (lkL s.data.toList = some 37) := hid (by rw [e]; rfl)
      clear HS
      rcases hl : Y.data.toList with _ | ⟨c, t⟩
      · have eY : Y = ⟨#[]⟩ := ba_ext hl
        clear hl e
        subst eY
        go_wp2_with fail
        exact bodyPost_ret (v := .tuple #[.string ⟨#[37]⟩, .int .i64 3, .bool true]) (by simp [results, Tryz.results241, go_sem]) rfl ⟨res_yes (hyes.out), HT.out⟩
      · obtain ⟨y1, y2, y3, y4⟩ := cons_f hl
        have hz1 : (1 : Int) ≤ (Y.size : Int) := by omega
        have hz0 : (0 : Int) < (Y.size : Int) := by omega
        clear y4 hl e
        go_wp2_with fail
        exact bodyPost_ret (v := .tuple #[.string ⟨#[37]⟩, .int .i64 3, .bool true]) (by simp [results, Tryz.results241, go_sem]) rfl ⟨res_yes (hyes.out), HT.out⟩
    · have hno := hid e
      clear e HS
      go_wp2_with fail
      exact bodyPost_ret (v := .tuple #[.string ⟨#[]⟩, .int .i64 0, .bool false]) (by simp [results, Tryz.results241, go_sem]) rfl ⟨res_no (hno.out), HT.out⟩
end Go.Proofs.YtlffleigahfdlaaGreatDoor.Tr
