/- The document's number that a text is; the condition is that the text is not too long. -/
import Derived.Test.YtgjojdlbighoaaaDoorRwd
namespace Go.Proofs.YtgjojdlbighoaaaDoor
open Go.RowKit Go.Sort
set_option linter.unusedVariables false

def RetN (s : ByteArray) (e : Ending) : Prop := ∃ n b, e = .returned (.tuple #[.int .i64 n, .bool b]) ∧ NumOf s n b
/-- the digits and the sign, if the text is a number -/
def Tx (s T : ByteArray) (sg : Int) : Prop := ∀ m : Int, I64 m → itoaB m = s → Lib.decDigits m.natAbs = T.data.toList ∧ ((m < 0 ∧ sg = -1) ∨ (0 ≤ m ∧ sg = 1))
def Acn (s T : ByteArray) (sg : Int) (p : Nat) (n : Int) : Prop := ∀ m : Int, I64 m → itoaB m = s → n = sg * (dv (T.data.toList.take p) : Int)
theorem numOf_fin {s : ByteArray} {n : Int} (hi : I64 n) (h : ∀ m, I64 m → itoaB m = s → n = m) : NumOf s n ((itoaB n).toList == s.toList) := by
  refine ⟨hi, fun hb => ?_, fun hb => ?_⟩
  · have := (beqB _ _).1 hb
    rw [list_of s n this, numV_itoa n hi]
  · cases hv : numV s.data.toList with
    | none => rfl
    | some v =>
      have h1 := numV_some hv
      have h2 : itoaB v = s := by
        apply ByteArray.ext
        apply Array.toList_inj.1
        rw [← h1]
        simp [itoaB]
      have h3 := h v (numV_in hv) h2
      subst h3
      rw [(beqB _ _).2 h2] at hb
      cases hb
theorem numOf_none {s : ByteArray} (h : ∀ m, I64 m → itoaB m ≠ s) : NumOf s 0 false := by
  refine ⟨⟨by decide, by decide⟩, fun hb => (by cases hb), fun _ => ?_⟩
  cases hv : numV s.data.toList with
  | none => rfl
  | some v =>
    have h1 := numV_some hv
    exact absurd (show itoaB v = s by
        apply ByteArray.ext
        apply Array.toList_inj.1
        rw [← h1]
        simp [itoaB]) (h v (numV_in hv))
theorem first_at {s : ByteArray} {m : Int} (hs : itoaB m = s) (h0 : 0 < s.size) : ((s[0].toNat : Int) = 45) ↔ m < 0 := by
  have hl := list_of s m hs
  have hg : (Lib.itoa m)[0]'(itoa_len m) = s[0] := by
    have : s[0] = s.data.toList[0]'(by simpa using h0) := rfl
    rw [this]
    simp only [hl]
  have hf := itoa_first m (itoa_len m)
  rw [hg] at hf
  rw [← hf]
  constructor
  · intro h
    exact UInt8.toNat_inj.1 (by have : (45 : UInt8).toNat = 45 := rfl; omega)
  · intro h
    rw [h]
    rfl
theorem tx_plus {s : ByteArray} (h0 : 0 < s.size) (h : ¬ (s[0].toNat : Int) = 45) : Tx s s 1 := fun m hm hs => by
  have h1 : ¬ m < 0 := fun e => h ((first_at hs h0).2 e)
  have h2 := list_of s m hs
  unfold Lib.itoa at h2
  rw [if_neg h1] at h2
  exact ⟨by rw [h2, show m.toNat = m.natAbs by omega], Or.inr ⟨by omega, rfl⟩⟩
theorem tx_minus {s T : ByteArray} (h0 : 0 < s.size) (h : (s[0].toNat : Int) = 45) (hT : s.extract 1 s.size = T) : Tx s T (-1) := fun m hm hs => by
  have h1 : m < 0 := (first_at hs h0).1 h
  have h2 := list_of s m hs
  unfold Lib.itoa at h2
  rw [if_pos h1] at h2
  have h3 : T.data.toList = s.data.toList.drop 1 := by
    rw [← hT]
    have hl : s.data.toList.length = s.size := rfl
    have h4 : (s.extract 1 s.size).data.toList = (s.data.toList.drop 1).take (s.size - 1) := by simp [List.extract]
    rw [h4, List.take_of_length_le (by rw [List.length_drop]; omega)]
  exact ⟨by rw [h3, h2]; rfl, Or.inl ⟨h1, rfl⟩⟩
theorem tx_long {s T : ByteArray} {sg : Int} (h : Tx s T sg) (hb : T.size = 0 ∨ 19 < T.size) : ∀ m, I64 m → itoaB m ≠ s := fun m hm hs => by
  have h1 := (h m hm hs).1
  have h2 := congrArg List.length h1
  have hl : T.data.toList.length = T.size := rfl
  have h3 := dec_len 18 m.natAbs (by unfold I64 at hm; omega)
  have h4 : 0 < (Lib.decDigits m.natAbs).length := List.length_pos_iff.2 (dec_ne m.natAbs)
  omega
theorem tx_bad {s T : ByteArray} {sg : Int} (h : Tx s T sg) (p : Nat) (hp : p < T.size) (hb : (T[p].toNat : Int) < 48 ∨ 57 < (T[p].toNat : Int)) : ∀ m, I64 m → itoaB m ≠ s := fun m hm hs => by
  have h1 := (h m hm hs).1
  have h2 : T[p] ∈ Lib.decDigits m.natAbs := by
    rw [h1]
    exact List.getElem_mem (l := T.data.toList) hp
  have h3 := dig_dec _ _ h2
  unfold isDig at h3
  omega
theorem acn_dig {s T : ByteArray} {sg : Int} (h : Tx s T sg) {p : Nat} {n n1 x n2 : Int} (hp : p < T.size) (hA : Acn s T sg p n) (h1 : IntKind.i64.wrap (10 * n) = n1) (hx : x = sg * ((T[p].toNat : Int) - 48)) (h2 : IntKind.i64.wrap (n1 + x) = n2) (hd1 : 48 ≤ (T[p].toNat : Int)) (hd2 : (T[p].toNat : Int) ≤ 57) : Acn s T sg (p + 1) n2 := fun m hm hs => by
  have e := hA m hm hs
  obtain ⟨k1, k2⟩ := h m hm hs
  have hb := dv_take T.data.toList (p + 1)
  have hv := dv_dec m.natAbs
  rw [k1] at hv
  rw [take_snocB T p hp, dv_snoc] at hb
  rw [take_snocB T p hp, dv_snoc]
  have hne : T[p] ≠ 45 := fun e45 => by rw [e45] at hd1; exact absurd hd1 (by decide)
  unfold dstep at hb ⊢
  rw [if_neg hne] at hb ⊢
  obtain ⟨m1, m2⟩ := hm
  rw [IntKind.wrap_i64] at h1 h2
  rcases k2 with ⟨k2, rfl⟩ | ⟨k2, rfl⟩
  · subst e
    omega
  · subst e
    omega
theorem acn_end {s T : ByteArray} {sg n : Int} (h : Tx s T sg) (hA : Acn s T sg T.size n) : ∀ m, I64 m → itoaB m = s → n = m := fun m hm hs => by
  have e := hA m hm hs
  obtain ⟨k1, k2⟩ := h m hm hs
  have hl : T.data.toList.length = T.size := rfl
  rw [List.take_of_length_le (by omega), ← k1, dv_dec] at e
  rcases k2 with ⟨k2, rfl⟩ | ⟨k2, rfl⟩ <;> omega
theorem wrap_i64_in (z : Int) : I64 (IntKind.i64.wrap z) := by rw [IntKind.wrap_i64]; unfold I64; omega
theorem empty_size {s : ByteArray} (h : s.size = 0) : s = ⟨#[]⟩ := by
  apply ByteArray.ext
  exact Array.eq_empty_of_size_eq_zero h
theorem ne_empty {s : ByteArray} (h : 0 < s.size) : (s.toList == (⟨#[]⟩ : ByteArray).toList) = false := by
  rw [beq_words]
  refine decide_eq_false ?_
  rintro rfl
  exact absurd h (by decide)
theorem ne_isE {s : ByteArray} (h : 0 < s.size) : s.toList.isEmpty = false := by
  rw [ByteArray.toList_eq]
  have hl : s.data.toList.length = s.size := rfl
  cases hc : s.data.toList with
  | nil => rw [hc] at hl; simp at hl; omega
  | cons a l => rfl
set_option maxRecDepth 20000 in
set_option maxHeartbeats 4000000 in
theorem number46 (s : ByteArray) (w : World) (hs : s.size ≤ 4194304) : Calls Tryd.prog 46 #[.string s] w fun e w' => RetN s e ∧ Gr w w' := by
  have hsz : (s.size : Int) ≤ 4194304 := by omega
  by_cases h0 : 0 < s.size
  rotate_left
  · obtain rfl := empty_size (s := s) (by omega)
    have HE : Hid (NumOf ⟨#[]⟩ 0 false) := numOf_none fun m hm h => by
      have h1 := list_of _ m h
      have h2 := itoa_len m
      rw [← h1] at h2
      exact absurd h2 (by decide)
    clear hs hsz h0
    go_enter Tryd.func46, Tryd.ntmps46
    go_wp2_with fail
    go_ret2
    exact ⟨⟨0, false, rfl, HE.out⟩, Gr.refl _⟩
  have hz0 : (0 : Int) < (s.size : Int) := by omega
  have hne := ne_empty h0
  have hnE := ne_isE h0
  by_cases h45 : (s[0].toNat : Int) = 45
  · obtain ⟨T, hT⟩ : ∃ T, s.extract 1 s.size = T := ⟨_, rfl⟩
    have HT : Hid (Tx s T (-1)) := tx_minus h0 h45 hT
    clear hs
    by_cases ht0 : 0 < T.size
    rotate_left
    · have HE : Hid (NumOf s 0 false) := numOf_none (tx_long HT.out (Or.inl (by omega)))
      obtain rfl := empty_size (s := T) (by omega)
      go_enter Tryd.func46, Tryd.ntmps46
      go_wp2_with fail
      go_ret2
      exact ⟨⟨0, false, rfl, HE.out⟩, Gr.refl _⟩
    have hte := ne_empty ht0
    have htE := ne_isE ht0
    have htz0 : (0 : Int) < (T.size : Int) := by omega
    by_cases hg : 19 < T.size
    · have hgz : (19 : Int) < (T.size : Int) := by omega
      have HE : Hid (NumOf s 0 false) := numOf_none (tx_long HT.out (Or.inr hg))
      clear hg
      go_enter Tryd.func46, Tryd.ntmps46
      go_wp2_with fail
      go_ret2
      exact ⟨⟨0, false, rfl, HE.out⟩, Gr.refl _⟩
    have hgz : ¬ (19 : Int) < (T.size : Int) := by omega
    go_enter Tryd.func46, Tryd.ntmps46
    go_wp2_with fail
    go_loopw [6, 7] (fun t i wr => ∃ (n : Int) (p : Nat), t = .int .i64 n ∧ i = .int .i64 p ∧ p ≤ T.size ∧ Hid (I64 n) ∧ Hid (Acn s T (-1) p n) ∧ wr = w) (fun _ i _ => T.size - (intOf i).toNat)
    case atStart => exact ⟨0, 0, rfl, rfl, Nat.zero_le _, ⟨by decide, by decide⟩, fun m hm h => by simp [dv], rfl⟩
    case round =>
      obtain ⟨n, p, rfl, rfl, hp, HI, HA, rfl⟩ := hrel
      by_cases hlt : p < T.size
      · have hz : (p : Int) < (T.size : Int) := by omega
        have hz0 : (0 : Int) ≤ (p : Int) := by omega
        by_cases h48 : (T[p].toNat : Int) < 48
        · have HB : Hid (NumOf s 0 false) := numOf_none (tx_bad HT.out p hlt (Or.inl h48))
          go_wp2_with fail
          go_ret2
          exact ⟨⟨0, false, rfl, HB.out⟩, Gr.refl _⟩
        by_cases h57 : 57 < (T[p].toNat : Int)
        · have HB : Hid (NumOf s 0 false) := numOf_none (tx_bad HT.out p hlt (Or.inr h57))
          go_wp2_with fail
          go_ret2
          exact ⟨⟨0, false, rfl, HB.out⟩, Gr.refl _⟩
        obtain ⟨n1, hn1⟩ : ∃ n1, IntKind.i64.wrap (10 * n) = n1 := ⟨_, rfl⟩
        obtain ⟨x, hx⟩ : ∃ x : Int, x = (-1) * ((T[p].toNat : Int) - 48) := ⟨_, rfl⟩
        obtain ⟨n2, hn2⟩ : ∃ n2, IntKind.i64.wrap (n1 + x) = n2 := ⟨_, rfl⟩
        have HA2 : Hid (Acn s T (-1) (p + 1) n2) := acn_dig HT.out hlt HA.out hn1 hx hn2 (by omega) (by omega)
        have HI2 : Hid (I64 n2) := by show I64 n2; rw [← hn2]; exact wrap_i64_in _
        have hw : ((T[p].toNat : Int) - 48) % 256 = (T[p].toNat : Int) - 48 := by omega
        have hw2 : IntKind.u8.wrap ((T[p].toNat : Int) - 48) = (T[p].toNat : Int) - 48 := by rw [IntKind.wrap_u8]; omega
        have hw3 : IntKind.i64.wrap ((T[p].toNat : Int) - 48) = (T[p].toNat : Int) - 48 := by rw [IntKind.wrap_i64]; omega
        have hw4 : IntKind.i64.wrap (-((T[p].toNat : Int) - 48)) = x := by rw [IntKind.wrap_i64]; omega
        have hw5 := True.intro
        clear hw5
        clear hx
        go_wp2_with fail
        go_roundw
        case rel => exact ⟨n2, p + 1, by first | rfl | trivial, by go_num, by omega, HI2.out, HA2.out, by first | rfl | trivial⟩
        case measure => simp [intOf]; omega
      · have hz : ¬ (p : Int) < (T.size : Int) := by omega
        obtain rfl : p = T.size := by omega
        have HE : Hid (NumOf s n ((itoaB n).toList == s.toList)) := numOf_fin HI.out (acn_end HT.out HA.out)
        have HC : Hid _ := digits42 n wr HI.out
        generalize itoaB n = it at *
        go_wp2_with fail
        refine Calls.mono HC.out ?_
        rintro e w1 ⟨rfl, hg⟩
        have HG : Hid (Gr wr w1) := hg
        clear hg
        go_wp2_with fail
        go_ret2
        exact ⟨⟨n, _, rfl, HE.out⟩, HG.out⟩
  · have hb45 : ((s[0].toNat : Int) == 45) = false := by simpa using h45
    have HT : Hid (Tx s s 1) := tx_plus h0 h45
    clear hs
    have ht0 := h0
    have hte := ne_empty ht0
    have htE := ne_isE ht0
    have htz0 : (0 : Int) < (s.size : Int) := by omega
    by_cases hg : 19 < s.size
    · have hgz : (19 : Int) < (s.size : Int) := by omega
      have HE : Hid (NumOf s 0 false) := numOf_none (tx_long HT.out (Or.inr hg))
      clear hg
      go_enter Tryd.func46, Tryd.ntmps46
      go_wp2_with fail
      go_ret2
      exact ⟨⟨0, false, rfl, HE.out⟩, Gr.refl _⟩
    have hgz : ¬ (19 : Int) < (s.size : Int) := by omega
    go_enter Tryd.func46, Tryd.ntmps46
    go_wp2_with fail
    go_loopw [6, 7] (fun t i wr => ∃ (n : Int) (p : Nat), t = .int .i64 n ∧ i = .int .i64 p ∧ p ≤ s.size ∧ Hid (I64 n) ∧ Hid (Acn s s 1 p n) ∧ wr = w) (fun _ i _ => s.size - (intOf i).toNat)
    case atStart => exact ⟨0, 0, rfl, rfl, Nat.zero_le _, ⟨by decide, by decide⟩, fun m hm h => by simp [dv], rfl⟩
    case round =>
      obtain ⟨n, p, rfl, rfl, hp, HI, HA, rfl⟩ := hrel
      by_cases hlt : p < s.size
      · have hz : (p : Int) < (s.size : Int) := by omega
        have hz0 : (0 : Int) ≤ (p : Int) := by omega
        by_cases h48 : (s[p].toNat : Int) < 48
        · have HB : Hid (NumOf s 0 false) := numOf_none (tx_bad HT.out p hlt (Or.inl h48))
          go_wp2_with fail
          go_ret2
          exact ⟨⟨0, false, rfl, HB.out⟩, Gr.refl _⟩
        by_cases h57 : 57 < (s[p].toNat : Int)
        · have HB : Hid (NumOf s 0 false) := numOf_none (tx_bad HT.out p hlt (Or.inr h57))
          go_wp2_with fail
          go_ret2
          exact ⟨⟨0, false, rfl, HB.out⟩, Gr.refl _⟩
        obtain ⟨n1, hn1⟩ : ∃ n1, IntKind.i64.wrap (10 * n) = n1 := ⟨_, rfl⟩
        obtain ⟨x, hx⟩ : ∃ x : Int, x = 1 * ((s[p].toNat : Int) - 48) := ⟨_, rfl⟩
        obtain ⟨n2, hn2⟩ : ∃ n2, IntKind.i64.wrap (n1 + x) = n2 := ⟨_, rfl⟩
        have HA2 : Hid (Acn s s 1 (p + 1) n2) := acn_dig HT.out hlt HA.out hn1 hx hn2 (by omega) (by omega)
        have HI2 : Hid (I64 n2) := by show I64 n2; rw [← hn2]; exact wrap_i64_in _
        have hw : ((s[p].toNat : Int) - 48) % 256 = (s[p].toNat : Int) - 48 := by omega
        have hw2 : IntKind.u8.wrap ((s[p].toNat : Int) - 48) = (s[p].toNat : Int) - 48 := by rw [IntKind.wrap_u8]; omega
        have hw3 : IntKind.i64.wrap ((s[p].toNat : Int) - 48) = (s[p].toNat : Int) - 48 := by rw [IntKind.wrap_i64]; omega
        have hw4 : IntKind.i64.wrap (((s[p].toNat : Int) - 48)) = x := by rw [IntKind.wrap_i64]; omega
        rw [Int.one_mul] at hx
        rw [hx] at hn2
        clear hw4
        clear hx
        go_wp2_with fail
        go_roundw
        case rel => exact ⟨n2, p + 1, by first | rfl | trivial, by go_num, by omega, HI2.out, HA2.out, by first | rfl | trivial⟩
        case measure => simp [intOf]; omega
      · have hz : ¬ (p : Int) < (s.size : Int) := by omega
        obtain rfl : p = s.size := by omega
        have HE : Hid (NumOf s n ((itoaB n).toList == s.toList)) := numOf_fin HI.out (acn_end HT.out HA.out)
        have HC : Hid _ := digits42 n wr HI.out
        generalize itoaB n = it at *
        go_wp2_with fail
        refine Calls.mono HC.out ?_
        rintro e w1 ⟨rfl, hg⟩
        have HG : Hid (Gr wr w1) := hg
        clear hg
        go_wp2_with fail
        go_ret2
        exact ⟨⟨n, _, rfl, HE.out⟩, HG.out⟩
end Go.Proofs.YtgjojdlbighoaaaDoor
