/- A line in plain words: what a thing to do is told as, and what a line is read as; a thing that may be is read back from its line. -/
import Derived.Test.YthakboiecdjgnaaDoorKtc
import Derived.Lib.ParseIntBTie
import Derived.Lib.AtoiAllCases
import Derived.Lib.IndexMore
import Derived.Lib.LastIndexByte
namespace Go.Proofs.YthakboiecdjgnaaDoor.Kt
open Go.RowKit Go.Sort Go.Shelf
open Go.Proofs.YthakboiecdjgnaaDoor.Ci
set_option linter.unusedVariables false
theorem dec_ne (u : Nat) : Lib.decDigits u ≠ [] := by
  rw [Lib.decDigits]
  split <;> simp
theorem parse_dec : ∀ (u : Nat) (r : List UInt8), u ≤ 9223372036854775808 → Lib.parseUint10 0 (Lib.decDigits u ++ r) = Lib.parseUint10 u r := by
  intro u
  induction u using Nat.strongRecOn with
  | _ u ih =>
    intro r hu
    rw [Lib.decDigits]
    split
    · rename_i h
      rw [List.singleton_append, Lib.parseUint10, ofNat_toNat _ (by omega), if_pos (by omega), if_neg (by omega), if_neg (by omega)]
      congr 1
      omega
    · rename_i h
      rw [List.append_assoc, ih (u / 10) (by omega) _ (by omega), List.singleton_append, Lib.parseUint10, ofNat_toNat _ (by omega), if_pos (by omega), if_neg (by omega), if_neg (by omega)]
      congr 1
      omega
theorem mag_dec (u : Nat) (hu : u ≤ 9223372036854775808) : Lib.parseMag (Lib.decDigits u) = .ok u := by
  unfold Lib.parseMag
  rw [if_neg (dec_ne u)]
  have := parse_dec u [] hu
  rw [List.append_nil] at this
  rw [this]
  rfl
theorem atoi_dec (n : Nat) (h : n ≤ 9223372036854775807) : Lib.atoiAll (Lib.decDigits n) = .ok (n : Int) := by
  cases hd : Lib.decDigits n with
  | nil => exact absurd hd (dec_ne _)
  | cons c r =>
    have hc := dig_dec n c (by rw [hd]; simp)
    unfold isDig at hc
    rw [Lib.atoiAll_plain c r (by omega) (by omega), ← hd, mag_dec _ (by omega)]
    show (if 9223372036854775808 ≤ n then Lib.NumEnd.range else Lib.NumEnd.ok (n : Int)) = _
    rw [if_neg (by omega)]
/-- the number that ParseInt hands out -/
def piV (l : List UInt8) : Int := match Lib.parseIntB 64 l with | .ok v => v | .range => Lib.intSat 64 l | _ => 0
theorem pi_dec (n : Nat) (h : n ≤ 9223372036854775807) : piV (Lib.decDigits n) = n := by
  unfold piV
  rw [Lib.parseIntB_64, atoi_dec n h]
theorem pi_w (l : List UInt8) : -9223372036854775808 ≤ piV l ∧ piV l ≤ 9223372036854775807 := by
  unfold piV
  cases h : Lib.parseIntB 64 l with
  | ok v =>
    have := Lib.parseIntB_bounds h
    dsimp only
    omega
  | range =>
    have : Lib.intSat 64 l = -9223372036854775808 ∨ Lib.intSat 64 l = 9223372036854775807 := by
      unfold Lib.intSat
      split
      · exact Or.inl (by decide)
      · exact Or.inr (by decide)
    dsimp only
    omega
  | _ => exact ⟨by show (-9223372036854775808 : Int) ≤ 0; decide, by show (0 : Int) ≤ _; decide⟩
abbrev noB (x : UInt8) (l : List UInt8) : Prop := ∀ c ∈ l, c ≠ x
theorem index_at (x : UInt8) (a b : List UInt8) (h : noB x a) : Lib.index (a ++ x :: b) [x] = a.length := by
  induction a with
  | nil => simp [Lib.index, List.isPrefixOf]
  | cons c a ih =>
    have hc : c ≠ x := h c (by simp)
    have ih := ih (fun d hd => h d (by simp [hd]))
    rw [List.cons_append, Lib.index, ih]
    have : (([x] : List UInt8).isPrefixOf (c :: (a ++ x :: b))) = false := by simp [List.isPrefixOf, Ne.symm hc]
    rw [this]
    simp
theorem index_no (x : UInt8) (a : List UInt8) (h : noB x a) : Lib.index a [x] = -1 := by
  induction a with
  | nil => rfl
  | cons c a ih =>
    have hc : c ≠ x := h c (by simp)
    have ih := ih (fun d hd => h d (by simp [hd]))
    rw [Lib.index, ih]
    have : (([x] : List UInt8).isPrefixOf (c :: a)) = false := by simp [List.isPrefixOf, Ne.symm hc]
    rw [this]
    rfl
theorem cut_at (x : UInt8) (a b : List UInt8) (h : noB x a) : Lib.cut (a ++ x :: b) [x] = (a, b, true) := by
  unfold Lib.cut
  rw [index_at x a b h, if_pos (by omega)]
  simp
theorem cut_no (x : UInt8) (a : List UInt8) (h : noB x a) : Lib.cut a [x] = (a, [], false) := by
  unfold Lib.cut
  rw [index_no x a h, if_neg (by decide)]
theorem cut_split (T s : ByteArray) (l r : List UInt8) (h : T.data.toList = l ++ (s.data.toList ++ r)) (i j : Nat) (hi : i = l.length) (hj : j = l.length + s.size) : T.extract i j = s := by
  apply ByteArray.ext
  apply Array.toList_inj.1
  rw [Lib.extract_data, h, hi, hj, List.drop_left, Nat.add_sub_cancel_left]
  exact List.take_left
theorem at_split (T : ByteArray) (l r : List UInt8) (x : UInt8) (h : T.data.toList = l ++ x :: r) (i : Nat) (hi : i = l.length) (hlt : i < T.size) : T[i] = x := by
  subst hi
  have e : T[l.length] = T.data.toList[l.length]'(by rw [h]; simp) := rfl
  rw [e]
  simp only [h]
  simp
theorem ba_ext {a b : ByteArray} (h : a.data.toList = b.data.toList) : a = b := ByteArray.ext (Array.toList_inj.1 h)
theorem last_at (s : ByteArray) (a b : List UInt8) (h : s.data.toList = a ++ 32 :: b) (hb : noB 32 b) : Lib.lastIndexByte s 32 = a.length := by
  have hz : s.size = a.length + 1 + b.length := by
    have e : s.size = s.data.toList.length := rfl
    rw [e, h, List.length_append, List.length_cons]; omega
  have g : ∀ j (hj : j < s.size), s.data[j]! = (a ++ 32 :: b)[j]'(by rw [List.length_append, List.length_cons]; omega) := fun j hj => by
    rw [getElem!_pos s.data j hj, ← Array.getElem_toList]
    simp only [h]
  have g0 : s.data[a.length]! = 32 := by rw [g a.length (by omega)]; simp
  rcases Lib.lastIndexByte_spec s 32 with ⟨_, hn⟩ | ⟨i, hi, e, hc, hn⟩
  · exact absurd (by rw [g0]; rfl) (hn a.length (by omega))
  · rw [e]
    rcases Nat.lt_trichotomy i a.length with h1 | h1 | h1
    · exact absurd (by rw [g0]; rfl) (hn a.length h1 (by omega))
    · rw [h1]
    · rw [g i hi, List.getElem_append_right (by omega)] at hc
      have e2 : ∃ q, i - a.length = q + 1 := ⟨i - a.length - 1, by omega⟩
      obtain ⟨q, hq⟩ := e2
      have hm : (32 :: b)[i - a.length]'(by rw [List.length_cons]; omega) ∈ b := by
        simp only [hq, List.getElem_cons_succ]
        exact List.getElem_mem _
      exact absurd (UInt8.toNat_inj.1 (by have : (32 : UInt8).toNat = 32 := rfl; omega)) (hb _ hm)
theorem last_no (s : ByteArray) (h : noB 32 s.data.toList) : Lib.lastIndexByte s 32 = -1 := by
  rcases Lib.lastIndexByte_spec s 32 with ⟨e, _⟩ | ⟨i, hi, e, hc, hn⟩
  · exact e
  · rw [getElem!_pos s.data i hi, ← Array.getElem_toList] at hc
    have hi' : i < s.data.toList.length := by simpa using hi
    have hm := List.getElem_mem hi'
    have h32 : (32 : UInt8).toNat = 32 := rfl
    exact absurd (UInt8.toNat_inj.1 (by omega)) (h _ hm)
theorem noB_dec (x : UInt8) (hx : x.toNat < 48) (n : Nat) : noB x (Lib.decDigits n) := fun c hc e => by
  have := dig_dec n c hc
  unfold isDig at this
  rw [e] at this
  omega
/-- a key's text, and what is read from one -/
def textB (a : Nat) (s : ByteArray) : ByteArray := itoaB a ++ ⟨#[58]⟩ ++ s
theorem textB_list (a : Nat) (s : ByteArray) : (textB a s).data.toList = Lib.decDigits a ++ 58 :: s.data.toList := by
  unfold textB
  rw [itoaB_nat]
  simp [ByteArray.data_append]
theorem textB_size (a : Nat) (s : ByteArray) : (textB a s).size = (itoaB a).size + 1 + s.size := by
  unfold textB
  rw [ByteArray.size_append, ByteArray.size_append]
  rfl
theorem itoaB_list (n : Nat) : (itoaB n).data.toList = Lib.decDigits n := by rw [itoaB_nat]
theorem itoaB_decsize (n : Nat) : (itoaB n).size = (Lib.decDigits n).length := by
  have e : (itoaB n).size = (itoaB n).data.toList.length := rfl
  rw [e, itoaB_list]
theorem scan_dec (n : Nat) : ∀ (r : List UInt8), n ≤ 65535 → scan (Lib.decDigits n ++ r) 0 0 = scan r (Lib.decDigits n).length n ∧ 1 ≤ (Lib.decDigits n).length := by
  induction n using Nat.strongRecOn with
  | _ n ih =>
    intro r h
    by_cases h10 : n < 10
    · rw [Lib.decDigits_one h10]
      have e : (UInt8.ofNat (48 + n)).toNat = 48 + n := by rw [UInt8.toNat_ofNat']; omega
      refine ⟨?_, by simp⟩
      simp only [List.singleton_append, scan, e]
      rw [if_pos (by simp [okAt]; omega)]
      simp
    · obtain ⟨h1, h2⟩ := ih (n / 10) (by omega) (UInt8.ofNat (48 + n % 10) :: r) (by omega)
      rw [Lib.decDigits, dif_neg h10, List.append_assoc, List.singleton_append]
      have e : (UInt8.ofNat (48 + n % 10)).toNat = 48 + n % 10 := by rw [UInt8.toNat_ofNat']; omega
      refine ⟨?_, by simp⟩
      rw [h1, scan, e, if_pos (by simp [okAt]; omega)]
      rw [show n / 10 * 10 + (48 + n % 10 - 48) = n by omega]
      simp
def isTextD (s : ByteArray) (I : Nat) : Decidable (isText s I) := by
  unfold isText
  exact inferInstance
def kp (s : ByteArray) : Nat × ByteArray × Bool := @ite _ (isText s (scan s.data.toList 0 0).2) (isTextD s _) ((scan s.data.toList 0 0).1, s.extract ((scan s.data.toList 0 0).2 + 1) s.size, true) (0, ⟨#[]⟩, false)
theorem kp_sp (s : ByteArray) : (kp s).1 ≤ 65535 := by
  unfold kp
  split
  · exact (scan_le _ 0 0 (by omega)).1
  · exact Nat.zero_le _
theorem kp_nm (s : ByteArray) : (kp s).2.1.size ≤ 64 := by
  unfold kp
  split
  · rename_i h
    have := h.2.2
    show (s.extract _ _).size ≤ 64
    rw [ByteArray.size_extract]
    omega
  · exact Nat.zero_le _
theorem kp_text (a : Nat) (s : ByteArray) (h1 : a ≤ 65535) (h : s.size ≤ 64) : kp (textB a s) = (a, s, true) := by
  have hl := textB_list a s
  obtain ⟨d1, d2⟩ := scan_dec a (58 :: s.data.toList) h1
  have hsc : scan (textB a s).data.toList 0 0 = (a, (Lib.decDigits a).length) := by
    rw [hl, d1, scan, if_neg (by simp [okAt])]
  have hz : (textB a s).size = (Lib.decDigits a).length + 1 + s.size := by rw [textB_size, itoaB_decsize]
  unfold kp
  rw [hsc]
  dsimp only
  have hlt : (Lib.decDigits a).length < (textB a s).size := by omega
  have h58 := at_split _ _ _ _ hl _ rfl hlt
  rw [if_pos ⟨by omega, ⟨hlt, by rw [h58]; rfl⟩, by omega⟩]
  rw [cut_split (textB a s) s (Lib.decDigits a ++ [58]) [] (by rw [hl]; simp) ((Lib.decDigits a).length + 1) (textB a s).size (by simp) (by rw [hz]; simp)]
/-- the line of a thing to do -/
def addP (s : ByteArray) (b : Bool) (t : ByteArray) : ByteArray := if b then s ++ (⟨#[32]⟩ ++ t) else s
def ln (d : Dz) : ByteArray := addP (addP (addP (kWord d.op.toNat) (kKey d.op.toNat) (textB d.sp.toNat d.nm)) (decide (0 < kNh d.op.toNat)) (itoaB d.n)) (decide (0 < kSh d.op.toNat)) (itoaB d.sl)
/-- which op a word stands for -/
def opZ (w : ByteArray) : Nat := if w = kWord 1 then 1 else if w = kWord 2 then 2 else if w = kWord 3 then 3 else if w = kWord 4 then 4 else if w = kWord 5 then 5 else if w = kWord 6 then 6 else if w = kWord 7 then 7 else if w = kWord 8 then 8 else if w = kWord 9 then 9 else 0
theorem opZ_hit (k : Nat) (h1 : 1 ≤ k) (h2 : k ≤ 9) : opZ (kWord k) = k := by
  match k, h1, h2 with
  | 1, _, _ => decide
  | 2, _, _ => decide
  | 3, _, _ => decide
  | 4, _, _ => decide
  | 5, _, _ => decide
  | 6, _, _ => decide
  | 7, _, _ => decide
  | 8, _, _ => decide
  | 9, _, _ => decide
theorem opZ_no {w : ByteArray} (h : ∀ k, 1 ≤ k → k ≤ 9 → kWord k ≠ w) : opZ w = 0 := by
  unfold opZ
  have g : ∀ k, 1 ≤ k → k ≤ 9 → ¬ w = kWord k := fun k a b e => h k a b e.symm
  rw [if_neg (g 1 (by omega) (by omega)), if_neg (g 2 (by omega) (by omega)), if_neg (g 3 (by omega) (by omega)), if_neg (g 4 (by omega) (by omega)), if_neg (g 5 (by omega) (by omega)), if_neg (g 6 (by omega) (by omega)), if_neg (g 7 (by omega) (by omega)), if_neg (g 8 (by omega) (by omega)), if_neg (g 9 (by omega) (by omega))]
theorem opZ_le (w : ByteArray) : opZ w ≤ 9 := by
  unfold opZ
  repeat' split
  all_goals omega
theorem noB_word (k : Nat) (h1 : 1 ≤ k) (h2 : k ≤ 9) : noB 32 (kWord k).data.toList := by
  match k, h1, h2 with
  | 1, _, _ => decide
  | 2, _, _ => decide
  | 3, _, _ => decide
  | 4, _, _ => decide
  | 5, _, _ => decide
  | 6, _, _ => decide
  | 7, _, _ => decide
  | 8, _, _ => decide
  | 9, _, _ => decide
def gKey (op : Nat) (r : ByteArray) (n : Int) : Dz :=
  ⟨op, if kKey op then ((kp r).1 : Int) else 0, if kKey op then (kp r).2.1 else ⟨#[]⟩, if decide (0 < kNh op) then n else 0, if decide (0 < kSh op) then n else 0⟩
def gRest (op : Nat) (r : ByteArray) : Dz :=
  gKey op (if decide (0 < kSh op) then r.extract 0 (max (Lib.lastIndexByte r 32) 0).toNat else r) (piV (r.extract (Lib.lastIndexByte r 32 + 1).toNat r.size).data.toList)
def gLine (s : ByteArray) : Dz := gRest (opZ ⟨(Lib.cut s.data.toList [32]).1.toArray⟩) ⟨(Lib.cut s.data.toList [32]).2.1.toArray⟩
theorem gLine_of (k : Nat) (h1 : 1 ≤ k) (h2 : k ≤ 9) (r : ByteArray) : gLine (kWord k ++ (⟨#[32]⟩ ++ r)) = gRest k r := by
  unfold gLine
  have e : (kWord k ++ (⟨#[32]⟩ ++ r)).data.toList = (kWord k).data.toList ++ 32 :: r.data.toList := by simp [ByteArray.data_append]
  rw [e, cut_at 32 _ _ (noB_word k h1 h2)]
  dsimp only
  rw [show (⟨(kWord k).data.toList.toArray⟩ : ByteArray) = kWord k from ba_ext (by simp), show (⟨r.data.toList.toArray⟩ : ByteArray) = r from ba_ext (by simp), opZ_hit k h1 h2]
theorem gRest_key (k : Nat) (sp : Nat) (nm : ByteArray) (hk : kKey k = true) (hn : ¬ 0 < kNh k) (hs : ¬ 0 < kSh k) (h1 : sp ≤ 65535) (h : nm.size ≤ 64) : gRest k (textB sp nm) = ⟨k, sp, nm, 0, 0⟩ := by
  unfold gRest gKey
  rw [hk, decide_eq_false hn, decide_eq_false hs]
  simp only [if_true, Bool.false_eq_true, if_false]
  rw [kp_text sp nm h1 h]
theorem gRest_num (k : Nat) (n : Nat) (hk : kKey k = false) (hn : 0 < kNh k) (hs : ¬ 0 < kSh k) (h : n ≤ 9223372036854775807) : gRest k (itoaB n) = ⟨k, 0, ⟨#[]⟩, n, 0⟩ := by
  have hl : Lib.lastIndexByte (itoaB n) 32 = -1 := last_no _ (by rw [itoaB_list]; exact noB_dec 32 (by decide) n)
  unfold gRest gKey
  rw [hk, decide_eq_true hn, decide_eq_false hs, hl]
  simp only [if_true, Bool.false_eq_true, if_false]
  rw [cut_split (itoaB n) (itoaB n) [] [] (by simp) _ _ (by rfl) (by simp), itoaB_list, pi_dec n h]
theorem gRest_slot (k : Nat) (n : Nat) (hk : kKey k = false) (hn : ¬ 0 < kNh k) (hs : 0 < kSh k) (h : n ≤ 9223372036854775807) : gRest k (itoaB n) = ⟨k, 0, ⟨#[]⟩, 0, n⟩ := by
  have hl : Lib.lastIndexByte (itoaB n) 32 = -1 := last_no _ (by rw [itoaB_list]; exact noB_dec 32 (by decide) n)
  unfold gRest gKey
  rw [hk, decide_eq_false hn, decide_eq_true hs, hl]
  simp only [if_true, Bool.false_eq_true, if_false]
  rw [cut_split (itoaB n) (itoaB n) [] [] (by simp) _ _ (by rfl) (by simp), itoaB_list, pi_dec n h]
theorem gRest_both (k : Nat) (sp : Nat) (nm : ByteArray) (n : Nat) (hk : kKey k = true) (hn : ¬ 0 < kNh k) (hs : 0 < kSh k) (h1 : sp ≤ 65535) (h : nm.size ≤ 64) (h2 : n ≤ 9223372036854775807) : gRest k (textB sp nm ++ (⟨#[32]⟩ ++ itoaB n)) = ⟨k, sp, nm, 0, n⟩ := by
  have e : (textB sp nm ++ (⟨#[32]⟩ ++ itoaB n)).data.toList = (textB sp nm).data.toList ++ 32 :: Lib.decDigits n := by rw [← itoaB_list]; simp [ByteArray.data_append]
  have hl := last_at _ _ _ e (noB_dec 32 (by decide) n)
  have hsz : (textB sp nm).data.toList.length = (textB sp nm).size := rfl
  rw [hsz] at hl
  have hall : (textB sp nm ++ (⟨#[32]⟩ ++ itoaB n)).size = (textB sp nm).size + 1 + (itoaB n).size := by
    rw [ByteArray.size_append, ByteArray.size_append]
    have : (ByteArray.mk #[32]).size = 1 := rfl
    omega
  unfold gRest gKey
  rw [hk, decide_eq_false hn, decide_eq_true hs, hl]
  simp only [if_true, Bool.false_eq_true, if_false]
  have E1 : (textB sp nm ++ (⟨#[32]⟩ ++ itoaB n)).extract (((textB sp nm).size : Int) + 1).toNat (textB sp nm ++ (⟨#[32]⟩ ++ itoaB n)).size = itoaB n :=
    cut_split _ (itoaB n) ((textB sp nm).data.toList ++ [32]) [] (by rw [e, itoaB_list]; simp) _ _ (by rw [List.length_append, hsz]; simp) (by rw [hall, List.length_append, hsz]; rfl)
  have E2 : (textB sp nm ++ (⟨#[32]⟩ ++ itoaB n)).extract 0 (max ((textB sp nm).size : Int) 0).toNat = textB sp nm :=
    cut_split _ (textB sp nm) [] (32 :: Lib.decDigits n) (by rw [e]; rfl) _ _ rfl (by simp)
  rw [E1, E2, itoaB_list, pi_dec n h2, kp_text sp nm h1 h]
end Go.Proofs.YthakboiecdjgnaaDoor.Kt
