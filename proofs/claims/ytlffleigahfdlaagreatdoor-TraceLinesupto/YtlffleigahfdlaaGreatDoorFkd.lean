/- A line in plain words: what a thing to do is told as, and what a line is read as; a thing that may be is read back from its line. -/
import Derived.Test.YtlffleigahfdlaaGreatDoorFkc
import Derived.Lib.ParseIntBTie
import Derived.Lib.AtoiAllCases
import Derived.Lib.IndexMore
import Derived.Lib.LastIndexByte
namespace Go.Proofs.YtlffleigahfdlaaGreatDoor.Kt
open Go.RowKit Go.Sort Go.Shelf
open Go.Proofs.YtlffleigahfdlaaGreatDoor.Tr
set_option linter.unusedVariables false
theorem dec_ne (u : Nat) : Lib.decDigits u ≠ [] := by
  rw [Lib.decDigits]
  split <;> simp
theorem parse_dec : ∀ (u : Nat) (r : List UInt8), u ≤ 9223372036854775808 → Lib.parseUint10 0 (Lib.decDigits u ++ r) = Lib.parseUint10 u r := by
  intro u
  induction u using Nat.strongRecOn with
  | _ u ih =>
    intro r hu
    rw [Lib.decDigits]
    split
    · rename_i h
      rw [List.singleton_append, Lib.parseUint10, ofNat_toNat _ (by omega), if_pos (by omega), if_neg (by omega), if_neg (by omega)]
      congr 1
      omega
    · rename_i h
      rw [List.append_assoc, ih (u / 10) (by omega) _ (by omega), List.singleton_append, Lib.parseUint10, ofNat_toNat _ (by omega), if_pos (by omega), if_neg (by omega), if_neg (by omega)]
      congr 1
      omega
theorem mag_dec (u : Nat) (hu : u ≤ 9223372036854775808) : Lib.parseMag (Lib.decDigits u) = .ok u := by
  unfold Lib.parseMag
  rw [if_neg (dec_ne u)]
  have := parse_dec u [] hu
  rw [List.append_nil] at this
  rw [this]
  rfl
theorem atoi_dec (n : Nat) (h : n ≤ 9223372036854775807) : Lib.atoiAll (Lib.decDigits n) = .ok (n : Int) := by
  cases hd : Lib.decDigits n with
  | nil => exact absurd hd (dec_ne _)
  | cons c r =>
    have hc := dig_dec n c (by rw [hd]; simp)
    unfold isDig at hc
    rw [Lib.atoiAll_plain c r (by omega) (by omega), ← hd, mag_dec _ (by omega)]
    show (if 9223372036854775808 ≤ n then Lib.NumEnd.range else Lib.NumEnd.ok (n : Int)) = _
    rw [if_neg (by omega)]
/-- the number that ParseInt hands out -/
def piV (l : List UInt8) : Int := match Lib.parseIntB 64 l with | .ok v => v | .range => Lib.intSat 64 l | _ => 0
theorem pi_dec (n : Nat) (h : n ≤ 9223372036854775807) : piV (Lib.decDigits n) = n := by
  unfold piV
  rw [Lib.parseIntB_64, atoi_dec n h]
theorem pi_w (l : List UInt8) : -9223372036854775808 ≤ piV l ∧ piV l ≤ 9223372036854775807 := by
  unfold piV
  cases h : Lib.parseIntB 64 l with
  | ok v =>
    have := Lib.parseIntB_bounds h
    dsimp only
    omega
  | range =>
    have : Lib.intSat 64 l = -9223372036854775808 ∨ Lib.intSat 64 l = 9223372036854775807 := by
      unfold Lib.intSat
      split
      · exact Or.inl (by decide)
      · exact Or.inr (by decide)
    dsimp only
    omega
  | _ => exact ⟨by show (-9223372036854775808 : Int) ≤ 0; decide, by show (0 : Int) ≤ _; decide⟩
abbrev noB (x : UInt8) (l : List UInt8) : Prop := ∀ c ∈ l, c ≠ x
theorem index_at (x : UInt8) (a b : List UInt8) (h : noB x a) : Lib.index (a ++ x :: b) [x] = a.length := by
  induction a with
  | nil => simp [Lib.index, List.isPrefixOf]
  | cons c a ih =>
    have hc : c ≠ x := h c (by simp)
    have ih := ih (fun d hd => h d (by simp [hd]))
    rw [List.cons_append, Lib.index, ih]
    have : (([x] : List UInt8).isPrefixOf (c :: (a ++ x :: b))) = false := by simp [List.isPrefixOf, Ne.symm hc]
    rw [this]
    simp
theorem index_no (x : UInt8) (a : List UInt8) (h : noB x a) : Lib.index a [x] = -1 := by
  induction a with
  | nil => rfl
  | cons c a ih =>
    have hc : c ≠ x := h c (by simp)
    have ih := ih (fun d hd => h d (by simp [hd]))
    rw [Lib.index, ih]
    have : (([x] : List UInt8).isPrefixOf (c :: a)) = false := by simp [List.isPrefixOf, Ne.symm hc]
    rw [this]
    rfl
theorem cut_at (x : UInt8) (a b : List UInt8) (h : noB x a) : Lib.cut (a ++ x :: b) [x] = (a, b, true) := by
  unfold Lib.cut
  rw [index_at x a b h, if_pos (by omega)]
  simp
theorem cut_no (x : UInt8) (a : List UInt8) (h : noB x a) : Lib.cut a [x] = (a, [], false) := by
  unfold Lib.cut
  rw [index_no x a h, if_neg (by decide)]
theorem cut_split (T s : ByteArray) (l r : List UInt8) (h : T.data.toList = l ++ (s.data.toList ++ r)) (i j : Nat) (hi : i = l.length) (hj : j = l.length + s.size) : T.extract i j = s := by
  apply ByteArray.ext
  apply Array.toList_inj.1
  rw [Lib.extract_data, h, hi, hj, List.drop_left, Nat.add_sub_cancel_left]
  exact List.take_left
theorem at_split (T : ByteArray) (l r : List UInt8) (x : UInt8) (h : T.data.toList = l ++ x :: r) (i : Nat) (hi : i = l.length) (hlt : i < T.size) : T[i] = x := by
  subst hi
  have e : T[l.length] = T.data.toList[l.length]'(by rw [h]; simp) := rfl
  rw [e]
  simp only [h]
  simp
theorem ba_ext {a b : ByteArray} (h : a.data.toList = b.data.toList) : a = b := ByteArray.ext (Array.toList_inj.1 h)
theorem last_at (s : ByteArray) (a b : List UInt8) (h : s.data.toList = a ++ 32 :: b) (hb : noB 32 b) : Lib.lastIndexByte s 32 = a.length := by
  have hz : s.size = a.length + 1 + b.length := by
    have e : s.size = s.data.toList.length := rfl
    rw [e, h, List.length_append, List.length_cons]; omega
  have g : ∀ j (hj : j < s.size), s.data[j]! = (a ++ 32 :: b)[j]'(by rw [List.length_append, List.length_cons]; omega) := fun j hj => by
    rw [getElem!_pos s.data j hj, ← Array.getElem_toList]
    simp only [h]
  have g0 : s.data[a.length]! = 32 := by rw [g a.length (by omega)]; simp
  rcases Lib.lastIndexByte_spec s 32 with ⟨_, hn⟩ | ⟨i, hi, e, hc, hn⟩
  · exact absurd (by rw [g0]; rfl) (hn a.length (by omega))
  · rw [e]
    rcases Nat.lt_trichotomy i a.length with h1 | h1 | h1
    · exact absurd (by rw [g0]; rfl) (hn a.length h1 (by omega))
    · rw [h1]
    · rw [g i hi, List.getElem_append_right (by omega)] at hc
      have e2 : ∃ q, i - a.length = q + 1 := ⟨i - a.length - 1, by omega⟩
      obtain ⟨q, hq⟩ := e2
      have hm : (32 :: b)[i - a.length]'(by rw [List.length_cons]; omega) ∈ b := by
        simp only [hq, List.getElem_cons_succ]
        exact List.getElem_mem _
      exact absurd (UInt8.toNat_inj.1 (by have : (32 : UInt8).toNat = 32 := rfl; omega)) (hb _ hm)
theorem last_no (s : ByteArray) (h : noB 32 s.data.toList) : Lib.lastIndexByte s 32 = -1 := by
  rcases Lib.lastIndexByte_spec s 32 with ⟨e, _⟩ | ⟨i, hi, e, hc, hn⟩
  · exact e
  · rw [getElem!_pos s.data i hi, ← Array.getElem_toList] at hc
    have hi' : i < s.data.toList.length := by simpa using hi
    have hm := List.getElem_mem hi'
    have h32 : (32 : UInt8).toNat = 32 := rfl
    exact absurd (UInt8.toNat_inj.1 (by omega)) (h _ hm)
theorem noB_dec (x : UInt8) (hx : x.toNat < 48) (n : Nat) : noB x (Lib.decDigits n) := fun c hc e => by
  have := dig_dec n c hc
  unfold isDig at this
  rw [e] at this
  omega
/-- a key's text, and what is read from one -/
def textB (a : Nat) (s : ByteArray) : ByteArray := itoaB a ++ ⟨#[58]⟩ ++ s
theorem textB_list (a : Nat) (s : ByteArray) : (textB a s).data.toList = Lib.decDigits a ++ 58 :: s.data.toList := by
  unfold textB
  rw [itoaB_nat]
  simp [ByteArray.data_append]
theorem textB_size (a : Nat) (s : ByteArray) : (textB a s).size = (itoaB a).size + 1 + s.size := by
  unfold textB
  rw [ByteArray.size_append, ByteArray.size_append]
  rfl
theorem itoaB_list (n : Nat) : (itoaB n).data.toList = Lib.decDigits n := by rw [itoaB_nat]
theorem itoaB_decsize (n : Nat) : (itoaB n).size = (Lib.decDigits n).length := by
  have e : (itoaB n).size = (itoaB n).data.toList.length := rfl
  rw [e, itoaB_list]
theorem scan_dec (n : Nat) : ∀ (r : List UInt8), n ≤ 65535 → scan (Lib.decDigits n ++ r) 0 0 = scan r (Lib.decDigits n).length n ∧ 1 ≤ (Lib.decDigits n).length := by
  induction n using Nat.strongRecOn with
  | _ n ih =>
    intro r h
    by_cases h10 : n < 10
    · rw [Lib.decDigits_one h10]
      have e : (UInt8.ofNat (48 + n)).toNat = 48 + n := by rw [UInt8.toNat_ofNat']; omega
      refine ⟨?_, by simp⟩
      simp only [List.singleton_append, scan, e]
      rw [if_pos (by simp [okAt]; omega)]
      simp
    · obtain ⟨h1, h2⟩ := ih (n / 10) (by omega) (UInt8.ofNat (48 + n % 10) :: r) (by omega)
      rw [Lib.decDigits, dif_neg h10, List.append_assoc, List.singleton_append]
      have e : (UInt8.ofNat (48 + n % 10)).toNat = 48 + n % 10 := by rw [UInt8.toNat_ofNat']; omega
      refine ⟨?_, by simp⟩
      rw [h1, scan, e, if_pos (by simp [okAt]; omega)]
      rw [show n / 10 * 10 + (48 + n % 10 - 48) = n by omega]
      simp
def isTextD (s : ByteArray) (I : Nat) : Decidable (isText s I) := by
  unfold isText
  exact inferInstance
def kp (s : ByteArray) : Nat × ByteArray × Bool := @ite _ (isText s (scan s.data.toList 0 0).2) (isTextD s _) ((scan s.data.toList 0 0).1, s.extract ((scan s.data.toList 0 0).2 + 1) s.size, true) (0, ⟨#[]⟩, false)
theorem kp_sp (s : ByteArray) : (kp s).1 ≤ 65535 := by
  unfold kp
  split
  · exact (scan_le _ 0 0 (by omega)).1
  · exact Nat.zero_le _
theorem kp_nm (s : ByteArray) : (kp s).2.1.size ≤ 64 := by
  unfold kp
  split
  · rename_i h
    have := h.2.2
    show (s.extract _ _).size ≤ 64
    rw [ByteArray.size_extract]
    omega
  · exact Nat.zero_le _
theorem kp_text (a : Nat) (s : ByteArray) (h1 : a ≤ 65535) (h : s.size ≤ 64) : kp (textB a s) = (a, s, true) := by
  have hl := textB_list a s
  obtain ⟨d1, d2⟩ := scan_dec a (58 :: s.data.toList) h1
  have hsc : scan (textB a s).data.toList 0 0 = (a, (Lib.decDigits a).length) := by
    rw [hl, d1, scan, if_neg (by simp [okAt])]
  have hz : (textB a s).size = (Lib.decDigits a).length + 1 + s.size := by rw [textB_size, itoaB_decsize]
  unfold kp
  rw [hsc]
  dsimp only
  have hlt : (Lib.decDigits a).length < (textB a s).size := by omega
  have h58 := at_split _ _ _ _ hl _ rfl hlt
  rw [if_pos ⟨by omega, ⟨hlt, by rw [h58]; rfl⟩, by omega⟩]
  rw [cut_split (textB a s) s (Lib.decDigits a ++ [58]) [] (by rw [hl]; simp) ((Lib.decDigits a).length + 1) (textB a s).size (by simp) (by rw [hz]; simp)]
end Go.Proofs.YtlffleigahfdlaaGreatDoor.Kt
