/- The program's reader of words and numbers; the conditions: the listed variables hold what the start lays, the text is not too long, the reader lies in memory. -/
import Derived.Test.YtgjojdlbighoaaaDoorSys
namespace Go.Proofs.YtgjojdlbighoaaaDoor
open Go.RowKit Go.Sort
set_option linter.unusedVariables false

def wB (s : ByteArray) (p : Nat) : ByteArray := ⟨(wd s.data.toList p).toArray⟩
theorem wB_list (s : ByteArray) (p : Nat) : (wB s p).data.toList = wd s.data.toList p := by simp [wB]
theorem wB_size (s : ByteArray) (p : Nat) : (wB s p).size = (wd s.data.toList p).length := by
  show (wd s.data.toList p).toArray.size = _
  simp
theorem cut_wd (s : List UInt8) (p : Nat) (hp : p ≤ s.length) : (Lib.cut (s.drop p) [32]).1 = wd s p ∧ (Lib.cut (s.drop p) [32]).2.2 = decide (p + (wd s p).length < s.length) := by
  have h1 := wd_split s p
  have h2 := wd_noSp s p
  have hl := congrArg List.length h1
  rw [List.length_drop, List.length_append] at hl
  cases hd : (s.drop p).dropWhile (fun c => c != 32) with
  | nil =>
    rw [hd] at h1 hl
    rw [List.append_nil] at h1
    simp at hl
    have e : Lib.cut (s.drop p) [32] = (wd s p, [], false) := by rw [h1]; exact cut_no _ h2
    rw [e]
    exact ⟨rfl, (decide_eq_false (by omega)).symm⟩
  | cons c r =>
    have h3 := List.head?_dropWhile_not (p := fun c : UInt8 => c != 32) (l := s.drop p)
    rw [hd] at h1 h3 hl
    simp at h3 hl
    subst h3
    have e : Lib.cut (s.drop p) [32] = (wd s p, r, true) := by rw [h1]; exact cut_sp _ _ h2
    rw [e]
    exact ⟨rfl, (decide_eq_true (by omega)).symm⟩
theorem word62_over (s : ByteArray) (rb : Nat) (a n : Int) (w : World) (B : Bx w rb (.string s) (.int .i64 a) (.int .i64 n) (.bool true)) (hs : s.size ≤ 4194304) :
    Calls Tryd.prog 62 #[.pointer (some ⟨rb, 0, none⟩)] w fun e w' => e = .returned (.tuple #[.string ⟨#[]⟩, .bool false]) ∧ w' = w.setCell ⟨rb, 1, none⟩ (.int .i64 s.size) := by
  obtain ⟨_, c0, c1, c2, c3, f0, f1, f2, f3⟩ := B
  go_enter Tryd.func62, Tryd.ntmps62
  go_wp2
  go_ret2
  exact ⟨rfl, rfl⟩
set_option maxHeartbeats 2000000 in
theorem word62_go (w0 : World) (s : ByteArray) (rb : Nat) (a : Int) (p : Nat) (w : World) (hS : Sy w0) (hg : Gr w0 w) (B : Bx w rb (.string s) (.int .i64 a) (.int .i64 p) (.bool false)) (hs : s.size ≤ 4194304) (hp : p ≤ s.size) :
    Calls Tryd.prog 62 #[.pointer (some ⟨rb, 0, none⟩)] w fun e w' => e = .returned (.tuple #[.string (wB s p), .bool true]) ∧ Bx w' rb (.string s) (.int .i64 p) (.int .i64 ((p + (wB s p).size + 1 : Nat) : Int)) (.bool (decide (p + (wB s p).size = s.size))) ∧ Gt rb w w' := by
  have mixed := mixed
  have hl := wd_len s.data.toList p hp
  have hl' : p + (wB s p).size ≤ s.size := by rw [wB_size]; exact hl
  obtain ⟨e1, e2⟩ := cut_wd s.data.toList p hp
  have hsl : ∀ w, (Instr.slice 9 (.string s) (some (.int .i64 (p : Int))) none none).run Tryd.prog w = .ok (.string (s.extract p s.size)) w := fun w => by
    rw [run_slice_string_l w 9 s Tryd.underlying9 .i64 (p : Int) (by omega) (by omega), Int.toNat_natCast]
  have hex : (s.extract p s.size).data.toList = s.data.toList.drop p := by
    rw [Lib.extract_data]
    exact List.take_of_length_le (by rw [List.length_drop]; exact Nat.le_refl _)
  have HC : Hid (∀ w', Gr w w' → Calls Tryd.prog 80 #[.string (s.extract p s.size), .string ⟨#[32]⟩] w' fun e w'' => e = .returned (.tuple #[.string (wB s p), .string ⟨(Lib.cut (s.data.toList.drop p) [32]).2.1.toArray⟩, .bool (decide (p + (wB s p).size < s.size))]) ∧ Gr w' w'') := fun w' h => by
    have := cut80 (s.extract p s.size) w' (hS.gr (hg.trans h)) (by rw [ByteArray.size_extract]; omega)
    rw [hex, e1, e2] at this
    rw [wB_size]
    exact this
  have HBx : Hid (Bx w rb (.string s) (.int .i64 a) (.int .i64 p) (.bool false)) := B
  have d0 : ∀ w', Gr w w' → w'.cell? ⟨rb, 0, none⟩ = some (.string s) := fun w' h => (B.gr h).c0
  have d2 : ∀ w', Gr w w' → w'.cell? ⟨rb, 2, none⟩ = some (.int .i64 p) := fun w' h => (B.gr h).c2
  have c3 := B.c3
  have hnot : (!decide (p + (wB s p).size < s.size)) = decide (p + (wB s p).size = s.size) := by
    by_cases h : p + (wB s p).size < s.size
    · rw [decide_eq_true h, decide_eq_false (by omega)]; rfl
    · rw [decide_eq_false h, decide_eq_true (by omega)]; rfl
  have HN : Hid _ := hnot
  have wz1 : IntKind.i64.wrap (((wB s p).size : Int) + 1) = ((wB s p).size : Int) + 1 := by rw [IntKind.wrap_i64]; omega
  have wz2 : IntKind.i64.wrap ((p : Int) + (((wB s p).size : Int) + 1)) = ((p + (wB s p).size + 1 : Nat) : Int) := by rw [IntKind.wrap_i64]; omega
  obtain ⟨n3, hn3⟩ : ∃ n3 : Nat, p + (wB s p).size + 1 = n3 := ⟨_, rfl⟩
  obtain ⟨fb, hfb⟩ : ∃ fb, decide (p + (wB s p).size < s.size) = fb := ⟨_, rfl⟩
  rw [hn3] at wz2 ⊢
  rw [hfb] at HC HN
  rw [← HN.out]
  clear hl hl' e1 e2 hex hn3 hfb hnot HN B
  generalize wB s p = W at *
  go_enter Tryd.func62, Tryd.ntmps62
  go_wp2_with fail
  go_region_held3 (fun w' => Gr w w') (first | assumption | exact (Gr.refl _).drew | exact Gr.refl _ | exact Gr.drew (by assumption))
    (first | (go_at_call 80; refine Calls.mono (HC.out _ (by assumption)) ?_; rintro e w1 ⟨rfl, hg1⟩; have T1 : Gr w w1 := Gr.trans (by assumption) hg1))
  have B1 := HBx.out.gr T1
  have HB1 : Hid (Bx w1 rb (.string s) (.int .i64 a) (.int .i64 p) (.bool false)) := B1
  obtain ⟨_, x0, x1, x2, x3, y0, y1, y2, y3⟩ := B1
  clear d0 d2 c3 hsl
  go_wp2_with fail
  go_ret2
  refine ⟨rfl, ?_, (((Gt.of_gr T1).set _ _).set _ _).set _ _⟩
  have h := HB1.out
  refine ⟨by rw [size_set, size_set, size_set]; exact h.lt, ?_, ?_, ?_, ?_, ?_, ?_, ?_, ?_⟩
  · rw [sc_off (by decide), sc_off (by decide), sc_off (by decide)]; exact h.c0
  · rw [sc_off (by decide), sc_off (by decide)]; exact sc_same h.c1
  · rw [sc_off (by decide)]; exact sc_same (by rw [sc_off (by decide)]; exact h.c2)
  · exact sc_same (by rw [sc_off (by decide), sc_off (by decide)]; exact h.c3)
  · simp only [World.frozen?_setCell]; exact h.f0
  · simp only [World.frozen?_setCell]; exact h.f1
  · simp only [World.frozen?_setCell]; exact h.f2
  · simp only [World.frozen?_setCell]; exact h.f3
theorem beqB (a b : ByteArray) : (a.toList == b.toList) = true ↔ a = b := by
  rw [beq_iff_eq, ByteArray.toList_eq, ByteArray.toList_eq]
  exact ⟨fun h => ByteArray.ext (Array.toList_inj.1 h), fun h => by rw [h]⟩
theorem itoaB_eq (n : Int) (s : ByteArray) : itoaB n = s ↔ Lib.itoa n = s.data.toList := by
  constructor
  · intro h; rw [← h]; simp [itoaB]
  · intro h; unfold itoaB; rw [h]
theorem numOf_ok {s : ByteArray} {v : Int} (hi : I64 v) (h : Lib.atoiAll s.data.toList = .ok v) : NumOf s v ((itoaB v).toList == s.toList) := by
  refine ⟨hi, fun hb => ?_, fun hb => ?_⟩
  · have := (itoaB_eq v s).1 ((beqB _ _).1 hb)
    unfold numV
    rw [h]
    simp [this]
  · have hne : ¬ Lib.itoa v = s.data.toList := fun e => by
      have := (beqB _ _).2 ((itoaB_eq v s).2 e)
      rw [this] at hb
      cases hb
    unfold numV
    rw [h]
    simp [hne]
theorem numOf_no {s : ByteArray} {n : Int} (hi : I64 n) (h : ∀ v, Lib.atoiAll s.data.toList ≠ .ok v) : NumOf s n false := by
  refine ⟨hi, (fun hb => by cases hb), fun _ => ?_⟩
  unfold numV
  cases ha : Lib.atoiAll s.data.toList with
  | ok v => exact absurd ha (h v)
  | _ => rfl
def NmE (W : ByteArray) (e : Ending) : Prop := ∃ n b, e = .returned (.tuple #[.int .i64 n, .bool b]) ∧ NumOf W n b
theorem number64_over (s : ByteArray) (rb : Nat) (a n : Int) (w : World) (B : Bx w rb (.string s) (.int .i64 a) (.int .i64 n) (.bool true)) (hs : s.size ≤ 4194304) :
    Calls Tryd.prog 64 #[.pointer (some ⟨rb, 0, none⟩)] w fun e w' => e = .returned (.tuple #[.int .i64 0, .bool false]) ∧ w' = w.setCell ⟨rb, 1, none⟩ (.int .i64 s.size) := by
  have HC : Hid _ := word62_over s rb a n w B hs
  clear B hs
  go_enter Tryd.func64, Tryd.ntmps64
  go_wp2_with fail
  refine Calls.mono HC.out ?_
  rintro e w1 ⟨rfl, rfl⟩
  go_wp2_with fail
  go_ret2
  exact ⟨rfl, rfl⟩
set_option maxHeartbeats 2000000 in
theorem number64_go (w0 : World) (s : ByteArray) (rb : Nat) (a : Int) (p : Nat) (w : World) (hS : Sy w0) (hg : Gr w0 w) (hrb : w0.heap.size ≤ rb) (B : Bx w rb (.string s) (.int .i64 a) (.int .i64 p) (.bool false)) (hs : s.size ≤ 4194304) (hp : p ≤ s.size) :
    Calls Tryd.prog 64 #[.pointer (some ⟨rb, 0, none⟩)] w fun e w' => NmE (wB s p) e ∧ Bx w' rb (.string s) (.int .i64 p) (.int .i64 ((p + (wB s p).size + 1 : Nat) : Int)) (.bool (decide (p + (wB s p).size = s.size))) ∧ Gt rb w w' := by
  have HC : Hid _ := word62_go w0 s rb a p w hS hg B hs hp
  have HS : Hid (Sy w0 ∧ Gr w0 w ∧ w0.heap.size ≤ rb ∧ s.size ≤ 4194304) := ⟨hS, hg, hrb, hs⟩
  have hsz : (wB s p).size ≤ 4194304 := by
    have := wd_len s.data.toList p hp
    have h2 : s.data.toList.length = s.size := rfl
    rw [wB_size]; omega
  have HZ : Hid _ := hsz
  clear hS hg hrb B hs hp hsz
  generalize p + (wB s p).size + 1 = n3 at *
  generalize decide (p + (wB s p).size = s.size) = fb at *
  generalize wB s p = W at *
  go_enter Tryd.func64, Tryd.ntmps64
  go_wp2_with fail
  refine Calls.mono HC.out ?_
  rintro e w1 ⟨rfl, b1, t1⟩
  have HB1 : Hid (Bx w1 rb (.string s) (.int .i64 p) (.int .i64 n3) (.bool fb)) := b1
  have HT1 : Hid (Gt rb w w1) := t1
  have HG1 : Hid (Gr w0 w1) := t1.gr HS.out.2.1 HS.out.2.2.1
  clear b1 t1 HC
  go_wp2_with fail
  refine Calls.mono (parseInt81 W w1 (HS.out.1.gr HG1.out) HZ.out) ?_
  rintro e w2 ⟨⟨n, ev, rfl, hi, hor⟩, g2⟩
  have HB2 : Hid (Bx w2 rb (.string s) (.int .i64 p) (.int .i64 n3) (.bool fb)) := HB1.out.gr g2
  have HT2 : Hid (Gt rb w w2) := HT1.out.trans (Gt.of_gr g2)
  have HG2 : Hid (Gr w0 w2) := HG1.out.trans g2
  clear g2
  rcases hor with ⟨rfl, ha⟩ | ⟨⟨t, v, rfl⟩, hno⟩
  · have HN : Hid (NumOf W n ((itoaB n).toList == W.toList)) := numOf_ok hi ha
    have HI : Hid (I64 n) := hi
    clear ha hi
    go_wp2_with fail
    refine Calls.mono (format58 n HI.out w2 (HS.out.1.gr HG2.out).tab) ?_
    rintro e w3 ⟨rfl, g3⟩
    go_wp2_with fail
    go_ret2
    exact ⟨⟨n, _, rfl, HN.out⟩, HB2.out.gr g3, HT2.out.trans (Gt.of_gr g3)⟩
  · have HN : Hid (NumOf W n false) := numOf_no hi hno
    clear hno hi
    go_wp2_with fail
    go_ret2
    exact ⟨⟨n, false, rfl, HN.out⟩, HB2.out, HT2.out⟩
set_option maxRecDepth 20000 in
set_option maxHeartbeats 2000000 in
theorem opOf63 (W : ByteArray) (w : World) (hk : Kd w) : Calls Tryd.prog 63 #[.string W] w fun e w' => e = .returned (.tuple #[.int .i64 (opW W.data.toList : Nat), .bool (decide (opW W.data.toList ≠ 0))]) ∧ w' = w := by
  have HK : Hid (Kd w) := hk
  clear hk
  go_enter Tryd.func63, Tryd.ntmps63
  go_wp2
  go_loopw [4] (fun i wr => ∃ k : Nat, i = .int .i64 k ∧ 1 ≤ k ∧ k ≤ 13 ∧ Hid (∀ j, 1 ≤ j → j < k → W.data.toList ≠ (kWord j).data.toList) ∧ wr = w) (fun i _ => 13 - (intOf i).toNat)
  case atStart => exact ⟨1, rfl, by omega, by omega, fun j h1 h2 => by omega, rfl⟩
  case round =>
    obtain ⟨k, rfl, h1, h2, HJ, rfl⟩ := hrel
    by_cases hk : k ≤ 12
    · have hkz : (k : Int) ≤ 12 := by omega
      have hk0 : (0 : Int) ≤ (k : Int) := by omega
      have hk13 : (k : Int) < 13 := by omega
      have c0 := HK.out.word k (by omega)
      have HW : Hid ((((kWord k).toList == W.toList) = true) ↔ kWord k = W) := beqB _ _
      have HO : Hid (∀ (h : kWord k = W), opW W.data.toList = k) := fun h => by rw [← h]; exact opW_word k h1 hk
      have HNx : Hid (kWord k ≠ W → ∀ j, 1 ≤ j → j < k + 1 → W.data.toList ≠ (kWord j).data.toList) := fun hne j j1 j2 => by
        rcases (by omega : j < k ∨ j = k) with h | rfl
        · exact HJ.out j j1 h
        · exact fun h => hne (ByteArray.ext (Array.toList_inj.1 h.symm))
      generalize kWord k = X at *
      by_cases e : X = W
      · subst e
        have hO := HO.out rfl
        have HO2 : Hid (opW X.data.toList = k) := hO
        clear hO HO HJ HW HNx
        go_wp2
        go_ret2
        refine ⟨?_, rfl⟩
        rw [HO2.out, decide_eq_true (show k ≠ 0 by omega)]
        rfl
      · have hb : (X.toList == W.toList) = false := by
          cases h : (X.toList == W.toList) with
          | true => exact absurd (HW.out.1 h) e
          | false => rfl
        have HE : Hid (∀ j, 1 ≤ j → j < k + 1 → W.data.toList ≠ (kWord j).data.toList) := HNx.out e
        clear e HO HW HNx HJ
        go_wp2
        go_roundw
        case rel => exact ⟨k + 1, by go_num, by omega, by omega, HE.out, by first | rfl | trivial⟩
        case measure => simp [intOf]; omega
    · have hkz : ¬ (k : Int) ≤ 12 := by omega
      have HO : Hid (opW W.data.toList = 0) := opW_none _ (fun j j1 j2 => HJ.out j j1 (by omega))
      go_wp2
      go_ret2
      refine ⟨?_, rfl⟩
      rw [HO.out]
      rfl
end Go.Proofs.YtgjojdlbighoaaaDoor
