/- Plain mathematics of keys in order: no program. -/
import Derived.Test.YtpihhlllembdeaaGreatTby
import Derived.Shelf.Small.Strs
import Derived.Test.YtpihhlllembdeaaGreatDof
import Derived.Deep.QuietTactic
import Derived.Test.YtpihhlllembdeaaGreatProg
import Derived.Shelf.SlLaysF0
import Derived.Test.YtpihhlllembdeaaGreatRsl
import Derived.Shelf.SlSortCmp.WholeK
namespace Go.Proofs.YtpihhlllembdeaaGreat
open Go.RowKit
set_option linter.unusedVariables false
def cmpK (a : Int) (s : ByteArray) (b : Int) (t : ByteArray) : Int := if a < b then -1 else if b < a then 1 else Lib.compareBytes s.data.toList t.data.toList
theorem cb_range : ∀ (a b : List UInt8), Lib.compareBytes a b = -1 ∨ Lib.compareBytes a b = 0 ∨ Lib.compareBytes a b = 1
  | [], [] => by simp [Lib.compareBytes]
  | [], _ :: _ => by simp [Lib.compareBytes]
  | _ :: _, [] => by simp [Lib.compareBytes]
  | x :: a, y :: b => by
    have := cb_range a b
    unfold Lib.compareBytes
    split
    · simp
    · split
      · simp
      · exact this
theorem cb_neg : ∀ (a b : List UInt8), Lib.compareBytes b a = - Lib.compareBytes a b
  | [], [] => by simp [Lib.compareBytes]
  | [], _ :: _ => by simp [Lib.compareBytes]
  | _ :: _, [] => by simp [Lib.compareBytes]
  | x :: a, y :: b => by
    have ih := cb_neg a b
    simp only [Lib.compareBytes]
    by_cases h1 : x < y
    · have h2 : ¬ y < x := by rw [UInt8.lt_iff_toNat_lt] at *; omega
      simp [h1, h2]
    · by_cases h2 : y < x
      · simp [h1, h2]
      · simp [h1, h2, ih]
theorem cb_zero : ∀ (a b : List UInt8), Lib.compareBytes a b = 0 → a = b
  | [], [], _ => rfl
  | [], _ :: _, h => by simp [Lib.compareBytes] at h
  | _ :: _, [], h => by simp [Lib.compareBytes] at h
  | x :: a, y :: b, h => by
    simp only [Lib.compareBytes] at h
    by_cases h1 : x < y
    · simp [h1] at h
    · by_cases h2 : y < x
      · simp [h1, h2] at h
      · simp [h1, h2] at h
        have e : x = y := UInt8.toNat_inj.1 (by rw [UInt8.lt_iff_toNat_lt] at *; omega)
        rw [e, cb_zero a b h]
theorem cb_self (a : List UInt8) : Lib.compareBytes a a = 0 := by
  have := cb_neg a a
  omega
theorem cb_trans : ∀ (a b c : List UInt8), Lib.compareBytes a b ≤ 0 → Lib.compareBytes b c ≤ 0 → Lib.compareBytes a c ≤ 0
  | [], _, [], _, _ => by simp [Lib.compareBytes]
  | [], _, _ :: _, _, _ => by simp [Lib.compareBytes]
  | _ :: _, [], _, h, _ => by simp [Lib.compareBytes] at h
  | _ :: _, _ :: _, [], _, h => by simp [Lib.compareBytes] at h
  | x :: a, y :: b, z :: c, h1, h2 => by
    simp only [Lib.compareBytes, UInt8.lt_iff_toNat_lt] at *
    by_cases p1 : x.toNat < y.toNat
    · by_cases p2 : y.toNat < z.toNat
      · rw [if_pos (by omega)]; omega
      · by_cases p3 : z.toNat < y.toNat
        · simp [p2, p3] at h2
        · rw [if_pos (by omega)]; omega
    · by_cases p1' : y.toNat < x.toNat
      · simp [p1, p1'] at h1
      · simp [p1, p1'] at h1
        by_cases p2 : y.toNat < z.toNat
        · rw [if_pos (by omega)]; omega
        · by_cases p3 : z.toNat < y.toNat
          · simp [p2, p3] at h2
          · simp [p2, p3] at h2
            rw [if_neg (by omega), if_neg (by omega)]
            exact cb_trans a b c h1 h2
theorem cmpK_range (a b : Int) (s t : ByteArray) : cmpK a s b t = -1 ∨ cmpK a s b t = 0 ∨ cmpK a s b t = 1 := by
  unfold cmpK
  split
  · simp
  · split
    · simp
    · exact cb_range _ _
theorem cmpK_neg (a b : Int) (s t : ByteArray) : cmpK b t a s = - cmpK a s b t := by
  unfold cmpK
  by_cases h1 : a < b
  · have h2 : ¬ b < a := by omega
    simp [h1, h2]
  · by_cases h2 : b < a
    · simp [h1, h2]
    · simp [h1, h2, cb_neg s.data.toList t.data.toList]
theorem cmpK_zero (a b : Int) (s t : ByteArray) (h : cmpK a s b t = 0) : a = b ∧ s = t := by
  unfold cmpK at h
  by_cases h1 : a < b
  · simp [h1] at h
  · by_cases h2 : b < a
    · simp [h1, h2] at h
    · simp [h1, h2] at h
      exact ⟨by omega, by apply ByteArray.ext; exact Array.toList_inj.1 (cb_zero _ _ h)⟩
theorem cmpK_self (a : Int) (s : ByteArray) : cmpK a s a s = 0 := by simp [cmpK, cb_self]
theorem cmpK_trans (a b c : Int) (s t u : ByteArray) (h1 : cmpK a s b t ≤ 0) (h2 : cmpK b t c u ≤ 0) : cmpK a s c u ≤ 0 := by
  unfold cmpK at *
  by_cases p1 : a < b
  · by_cases p2 : b < c
    · rw [if_pos (by omega)]; omega
    · by_cases p3 : c < b
      · simp [p2, p3] at h2
      · rw [if_pos (by omega)]; omega
  · by_cases p1' : b < a
    · simp [p1, p1'] at h1
    · simp [p1, p1'] at h1
      by_cases p2 : b < c
      · rw [if_pos (by omega)]; omega
      · by_cases p3 : c < b
        · simp [p2, p3] at h2
        · simp [p2, p3] at h2
          rw [if_neg (by omega), if_neg (by omega)]
          exact cb_trans _ _ _ h1 h2
theorem cb_app (l a b : List UInt8) : Lib.compareBytes (l ++ a) (l ++ b) = Lib.compareBytes a b := by
  induction l with
  | nil => rfl
  | cons x l ih => simp [Lib.compareBytes, ih]
theorem cb_drop (a b : List UInt8) (k : Nat) (h : a.take k = b.take k) : Lib.compareBytes a b = Lib.compareBytes (a.drop k) (b.drop k) := by
  have e1 := List.take_append_drop k a
  have e2 := List.take_append_drop k b
  have e3 := cb_app (b.take k) (a.drop k) (b.drop k)
  rw [e2, ← h, e1] at e3
  exact e3
theorem take_snoc (s : ByteArray) (k : Nat) (h : k < s.size) : s.data.toList.take (k + 1) = s.data.toList.take k ++ [s[k]] := by
  rw [List.take_succ_eq_append_getElem (by simpa using h)]; rfl
theorem drop_cons (s : ByteArray) (k : Nat) (h : k < s.size) : s.data.toList.drop k = s[k] :: s.data.toList.drop (k + 1) := by
  rw [List.drop_eq_getElem_cons (by simpa using h)]; rfl
theorem cb_lt (s t : ByteArray) (k : Nat) (hs : k < s.size) (ht : k < t.size) (h : s.data.toList.take k = t.data.toList.take k) (hl : (s[k].toNat : Int) < (t[k].toNat : Int)) : Lib.compareBytes s.data.toList t.data.toList = -1 := by
  rw [cb_drop _ _ k h, drop_cons s k hs, drop_cons t k ht, Lib.compareBytes, if_pos (by rw [UInt8.lt_iff_toNat_lt]; omega)]
theorem cb_gt (s t : ByteArray) (k : Nat) (hs : k < s.size) (ht : k < t.size) (h : s.data.toList.take k = t.data.toList.take k) (hl : (t[k].toNat : Int) < (s[k].toNat : Int)) : Lib.compareBytes s.data.toList t.data.toList = 1 := by
  rw [cb_drop _ _ k h, drop_cons s k hs, drop_cons t k ht, Lib.compareBytes, if_neg (by rw [UInt8.lt_iff_toNat_lt]; omega), if_pos (by rw [UInt8.lt_iff_toNat_lt]; omega)]
theorem cb_eq (s t : ByteArray) (k : Nat) (hs : k < s.size) (ht : k < t.size) (h : s.data.toList.take k = t.data.toList.take k) (h1 : ¬ (s[k].toNat : Int) < (t[k].toNat : Int)) (h2 : ¬ (t[k].toNat : Int) < (s[k].toNat : Int)) : s.data.toList.take (k + 1) = t.data.toList.take (k + 1) := by
  rw [take_snoc s k hs, take_snoc t k ht, h]
  have : s[k] = t[k] := UInt8.toNat_inj.1 (by omega)
  rw [this]
theorem cb_end (s t : ByteArray) (k : Nat) (hs : k ≤ s.size) (ht : k ≤ t.size) (h : s.data.toList.take k = t.data.toList.take k) (hk : ¬ (k < s.size ∧ k < t.size)) :
    Lib.compareBytes s.data.toList t.data.toList = if s.size < t.size then -1 else if t.size < s.size then 1 else 0 := by
  rw [cb_drop _ _ k h]
  by_cases h1 : k < s.size
  · have e : t.data.toList.drop k = [] := List.drop_of_length_le (by show t.size ≤ k; omega)
    rw [e, drop_cons s k h1, Lib.compareBytes, if_neg (by omega), if_pos (by omega)]
  · have e : s.data.toList.drop k = [] := List.drop_of_length_le (by show s.size ≤ k; omega)
    by_cases h2 : k < t.size
    · rw [e, drop_cons t k h2, Lib.compareBytes, if_pos (by omega)]
    · have e' : t.data.toList.drop k = [] := List.drop_of_length_le (by show t.size ≤ k; omega)
      rw [e, e', Lib.compareBytes, if_neg (by omega), if_neg (by omega)]

def leK (a b : K) : Prop := cmpK a.1 a.2 b.1 b.2 ≤ 0
theorem leK_trans {a b c : K} (h : leK a b) (k : leK b c) : leK a c := cmpK_trans _ _ _ _ _ _ h k
theorem leK_of_not {a b : K} (h : ¬ cmpK a.1 a.2 b.1 b.2 < 0) : leK b a := by
  unfold leK
  rw [cmpK_neg]
  omega
theorem leK_of_lt {a b : K} (h : cmpK a.1 a.2 b.1 b.2 < 0) : leK a b := by
  unfold leK
  omega
theorem leK_antisymm {a b : K} (h : leK a b) (k : leK b a) : a = b := by
  unfold leK at *
  rw [cmpK_neg] at k
  obtain ⟨h1, h2⟩ := cmpK_zero a.1 b.1 a.2 b.2 (by omega)
  exact Prod.ext h1 h2
theorem leK_refl (a : K) : leK a a := by unfold leK; rw [cmpK_self]; omega
theorem leK_total (a b : K) : leK a b ∨ leK b a := by
  unfold leK
  rw [cmpK_neg a.1 b.1]
  omega
theorem sorted_unique : ∀ (l m : List K), l.Perm m → l.Pairwise leK → m.Pairwise leK → l = m := fun l m hp hl hm => List.Perm.eq_of_pairwise (fun a b _ _ h k => leK_antisymm h k) hl hm hp
theorem ins_perm (S : List K) (i : Nat) (x : K) : (S.take i ++ x :: S.drop i).Perm (S ++ [x]) := by
  refine (List.perm_middle).trans ?_
  rw [List.take_append_drop]
  exact (List.perm_append_singleton x S).symm
theorem ins_sorted (S : List K) (i : Nat) (x : K) (hi : i ≤ S.length) (hS : S.Pairwise leK) (h1 : ∀ j (h : j < S.length), i ≤ j → cmpK x.1 x.2 S[j].1 S[j].2 < 0) (h2 : ∀ (h : 0 < i), ¬ cmpK x.1 x.2 (S[i - 1]'(by omega)).1 (S[i - 1]'(by omega)).2 < 0) : (S.take i ++ x :: S.drop i).Pairwise leK := by
  have hp : ∀ a b (ha : a < S.length) (hb : b < S.length), a < b → leK S[a] S[b] := fun a b ha hb hab => (List.pairwise_iff_getElem.1 hS) a b ha hb hab
  have hx : ∀ a ∈ S.take i, leK a x := fun a ha => by
    obtain ⟨n, hn, rfl⟩ := List.getElem_of_mem ha
    rw [List.length_take] at hn
    rw [List.getElem_take]
    have h3 := leK_of_not (h2 (by omega))
    by_cases hni : n = i - 1
    · subst hni
      exact h3
    · exact leK_trans (hp n (i - 1) (by omega) (by omega) (by omega)) h3
  have hy : ∀ b ∈ S.drop i, leK x b := fun b hb => by
    obtain ⟨n, hn, rfl⟩ := List.getElem_of_mem hb
    rw [List.length_drop] at hn
    rw [List.getElem_drop]
    exact leK_of_lt (h1 _ (by omega) (by omega))
  rw [List.pairwise_append]
  refine ⟨hS.sublist (List.take_sublist _ _), ?_, ?_⟩
  · rw [List.pairwise_cons]
    exact ⟨hy, hS.sublist (List.drop_sublist _ _)⟩
  · intro a ha b hb
    rcases List.mem_cons.1 hb with rfl | hb
    · exact hx a ha
    · exact leK_trans (hx a ha) (hy b hb)
theorem gap_step (S : List K) (i : Nat) (z : K) (hi : i < S.length) : (S.take (i + 1) ++ z :: S.drop (i + 1)).set (i + 1) S[i] = S.take i ++ S[i] :: S.drop i := by
  have h1 : (S.take (i + 1)).length = i + 1 := by rw [List.length_take]; omega
  rw [List.set_append_right _ _ (by omega), h1, Nat.sub_self, List.set_cons_zero, List.take_succ_eq_append_getElem hi, List.append_assoc]
  congr 1
  rw [List.drop_eq_getElem_cons hi]
  rfl
theorem gap_end (S : List K) (i : Nat) (z x : K) (hi : i ≤ S.length) : (S.take i ++ z :: S.drop i).set i x = S.take i ++ x :: S.drop i := by
  have h1 : (S.take i).length = i := by rw [List.length_take]; omega
  rw [List.set_append_right _ _ (by omega), h1, Nat.sub_self, List.set_cons_zero]
theorem gap_len (S : List K) (i : Nat) (z : K) (hi : i ≤ S.length) : (S.take i ++ z :: S.drop i).length = S.length + 1 := by
  rw [List.length_append, List.length_cons, List.length_take, List.length_drop]
  omega
theorem gap_at (S : List K) (i : Nat) (z : K) (hi : i < S.length) (h : i < (S.take (i + 1) ++ z :: S.drop (i + 1)).length) : (S.take (i + 1) ++ z :: S.drop (i + 1))[i] = S[i] := by
  have h1 : (S.take (i + 1)).length = i + 1 := by rw [List.length_take]; omega
  rw [List.getElem_append_left (by omega), List.getElem_take]
theorem perm_step (xs S : List K) (k i : Nat) (h : k < xs.length) (hp : S.Perm (xs.take k)) : (S.take i ++ xs[k] :: S.drop i).Perm (xs.take (k + 1)) := by
  rw [List.take_succ_eq_append_getElem h]
  exact (ins_perm S i xs[k]).trans (hp.append_right _)

end Go.Proofs.YtpihhlllembdeaaGreat
/- The comparisons of keys, the program's and the document's; no conditions but that the names' lengths fit. -/
namespace Go.Proofs
open Go.Shelf
def Tryz.lays106_ren : Go.Shelf.Ren := ⟨fun | 106 => 79 | 213 => 101 | 265 => 110 | n => n, fun | 9 => 9 | 3 => 3 | n => n, fun | n => n⟩
theorem Tryz.lays106 : Go.Proofs.Lays.n106 Tryz.prog Tryz.lays106_ren := {
  mixed := by kernel_rfl
  f106 := Tryz.func79.trans (congrArg some (by kernel_rfl))
  f213 := Tryz.func101.trans (congrArg some (by kernel_rfl))
  f265 := Tryz.func110.trans (congrArg some (by kernel_rfl))
  t3 := Tryz.underlying3
  a3 := Tryz.isAgg3
  z3 := Tryz.sizeOf3
  v3 := Tryz.zeroValue3
  t9 := Tryz.underlying9
  a9 := Tryz.isAgg9
  z9 := Tryz.sizeOf9
  v9 := Tryz.zeroValue9 }
open Go.RowKit in
theorem Tryz.strings_Compare (a b : ByteArray) (w : World) :
    Calls Tryz.prog 79 #[.string a, .string b] w fun e w' => e = .returned (.int .i64 (Lib.compareBytes a.data.toList b.data.toList)) ∧ w' = w := Any.strings_Compare Tryz.lays106 a b w
end Go.Proofs
namespace Go.Proofs.YtpihhlllembdeaaGreat
open Go.RowKit Go.Sort Go.Maps Go.ChangeMaps
set_option linter.unusedVariables false
def Gr (w w' : World) : Prop := ∃ q os, w' = grow (w.drewN q) os
theorem Gr.refl (w : World) : Gr w w := ⟨0, #[], by rw [grow_empty]; rfl⟩
theorem Gr.alloc {w w' : World} (h : Gr w w') (o : Obj) : Gr w (w'.alloc o) := by
  obtain ⟨q, os, rfl⟩ := h
  exact ⟨q, os ++ #[o], by rw [alloc_eq_grow, grow_grow]⟩
theorem Gr.grow {w w' : World} (h : Gr w w') (n : Nat) (os' : Array Obj) : Gr w (grow (w'.drewN n) os') := by
  obtain ⟨q, os, rfl⟩ := h
  exact ⟨q + n, os ++ os', by show Sort.grow (Sort.grow ((w.drewN q).drewN n) os) os' = _; rw [grow_grow, World.drewN_drewN]⟩
theorem Gr.drewN {w w' : World} (h : Gr w w') (n : Nat) : Gr w (w'.drewN n) := by
  have := h.grow n #[]
  rwa [grow_empty] at this
theorem Gr.drew {w w' : World} (h : Gr w w') : Gr w w'.drew := h.drewN 1
theorem Gr.trans {a b c : World} (h : Gr a b) (k : Gr b c) : Gr a c := by
  obtain ⟨q, os, rfl⟩ := k
  exact h.grow q os
theorem Gr.touch {w w' : World} (h : Gr w w') : Touch [] w w' := by
  obtain ⟨q, os, rfl⟩ := h
  exact ⟨rfl, rfl, rfl, by rw [size_grow]; exact Nat.le_add_right _ _, fun k hk _ => heap_grow_old _ _ hk⟩
def cmpI (a b : Int) : Int := if a < b then -1 else if b < a then 1 else 0
theorem cmpI_ (a b : Int) (w : World) : Calls Tryz.prog 78 #[.int .u16 a, .int .u16 b] w fun e w' => e = .returned (.int .i64 (cmpI a b)) ∧ w' = w := by
  rcases Int.lt_trichotomy a b with h | h | h
  · go_enter Tryz.func78, Tryz.ntmps78
    go_wp2
    go_ret
    exact ⟨by simp [cmpI, h], rfl⟩
  · subst h
    go_enter Tryz.func78, Tryz.ntmps78
    go_wp2
    go_ret
    exact ⟨by simp [cmpI], rfl⟩
  · have h' : ¬ a < b := by omega
    go_enter Tryz.func78, Tryz.ntmps78
    go_wp2
    go_ret
    exact ⟨by simp [cmpI, h, h'], rfl⟩
/-- The program's. -/
theorem kcmp_ (a b : Int) (s t : ByteArray) (w : World) :
    Calls Tryz.prog 61 #[.agg #[.int .u16 a, .string s], .agg #[.int .u16 b, .string t]] w fun e w' => e = .returned (.int .i64 (cmpK a s b t)) ∧ Gr w w' := by
  rcases Int.lt_trichotomy a b with h | h | h
  · have hc : cmpI a b = -1 := by simp [cmpI, h]
    go_enter Tryz.func61, Tryz.ntmps61
    go_wp2_with (go_at_call 78; refine (cmpI_ _ _ _).mono ?_; rintro e w' ⟨rfl, rfl⟩)
    go_ret
    exact ⟨by simp [cmpK, h], ((Gr.refl _).alloc _).alloc _⟩
  · subst h
    have hc : cmpI a a = 0 := by simp [cmpI]
    go_enter Tryz.func61, Tryz.ntmps61
    go_wp2_with (first | (go_at_call 78; refine (cmpI_ _ _ _).mono ?_; rintro e w' ⟨rfl, rfl⟩) | (go_at_call 79; refine (Tryz.strings_Compare _ _ _).mono ?_; rintro e w' ⟨rfl, rfl⟩))
    go_ret
    exact ⟨by simp [cmpK], ((Gr.refl _).alloc _).alloc _⟩
  · have h' : ¬ a < b := by omega
    have hc : cmpI a b = 1 := by simp [cmpI, h, h']
    go_enter Tryz.func61, Tryz.ntmps61
    go_wp2_with (go_at_call 78; refine (cmpI_ _ _ _).mono ?_; rintro e w' ⟨rfl, rfl⟩)
    go_ret
    exact ⟨by simp [cmpK, h, h'], ((Gr.refl _).alloc _).alloc _⟩
def cmpR (x y : Rn) : Int := cmpK x.sp x.nm y.sp y.nm
/-- Two runs by their keys. -/
theorem rcmp_ (x y : Rn) (w : World) : Calls Tryz.prog 60 #[rv x, rv y] w fun e w' => e = .returned (.int .i64 (cmpR x y)) ∧ Gr w w' := by
  unfold rv cmpR
  have HC := hid (fun w => kcmp_ x.sp y.sp x.nm y.nm w)
  generalize cmpK x.sp x.nm y.sp y.nm = cv at *
  go_enter Tryz.func60, Tryz.ntmps60
  go_wp2_with (go_at_call 61; refine (HC.out _).mono ?_; rintro e w2 ⟨rfl, g2⟩)
  go_ret
  exact ⟨rfl, (((Gr.refl _).alloc _).alloc _).trans g2⟩
set_option maxHeartbeats 1000000 in
/-- The document's. -/
theorem dcmp_ (a b : Int) (s t : ByteArray) (w : World) (hs : s.size ≤ maxLen) (ht : t.size ≤ maxLen) :
    Calls Tryz.prog 62 #[.agg #[.int .u16 a, .string s], .agg #[.int .u16 b, .string t]] w fun e w' => e = .returned (.int .i64 (cmpK a s b t)) ∧ Gr w w' := by
  unfold maxLen at hs ht
  have mixed : Tryz.prog.follows .mixedOrders = true := by kernel_rfl
  rcases Int.lt_trichotomy a b with h | h | h
  · have h0 : a ≠ b := by omega
    go_enter Tryz.func62, Tryz.ntmps62
    go_wp2
    go_ret
    exact ⟨by simp [cmpK, h], ((Gr.refl _).alloc _).alloc _⟩
  · subst h
    have hc : cmpK a s a t = Lib.compareBytes s.data.toList t.data.toList := by simp [cmpK]
    rw [hc]
    clear hc
    go_enter Tryz.func62, Tryz.ntmps62
    go_wp2
    go_loopw [5] (fun i wr => ∃ k n : Nat, i = .int .i64 k ∧ k ≤ s.size ∧ k ≤ t.size ∧ Hid (s.data.toList.take k = t.data.toList.take k) ∧ wr = ((w.alloc (.cells #[.int .u16 a, .string s] 68)).alloc (.cells #[.int .u16 a, .string t] 68)).drewN n) (fun i _ => s.size - (intOf i).toNat)
    case atStart => exact ⟨0, 0, rfl, Nat.zero_le _, Nat.zero_le _, rfl, rfl⟩
    case round =>
      obtain ⟨k, n, rfl, hks, hkt, H, rfl⟩ := hrel
      by_cases h1 : k < s.size
      · have h1z : (k : Int) < (s.size : Int) := by omega
        by_cases h2 : k < t.size
        · have h2z : (k : Int) < (t.size : Int) := by omega
          by_cases hl : (s[k].toNat : Int) < (t[k].toNat : Int)
          · go_wp2
            go_quiet (fail)
            go_wp2
            go_ret
            exact ⟨by rw [cb_lt s t k h1 h2 H.out hl]; rfl, by repeat (first | exact Gr.refl _ | apply Gr.alloc | apply Gr.drewN | apply Gr.drew)⟩
          · by_cases hg : (t[k].toNat : Int) < (s[k].toNat : Int)
            · go_wp2
              go_quiet (fail)
              go_wp2
              go_quiet (fail)
              go_wp2
              go_ret
              exact ⟨by rw [cb_gt s t k h1 h2 H.out hg]; rfl, by repeat (first | exact Gr.refl _ | apply Gr.alloc | apply Gr.drewN | apply Gr.drew)⟩
            · have HE : Hid _ := cb_eq s t k h1 h2 H.out hl hg
              go_wp2
              go_quiet (fail)
              go_wp2
              go_quiet (fail)
              go_wp2
              go_roundw
              case rel => exact ⟨k + 1, _, by go_num, by omega, by omega, HE, rfl⟩
              case measure => simp [intOf]; omega
        · have h2z : ¬ (k : Int) < (t.size : Int) := by omega
          have HE : Hid _ := cb_end s t k hks hkt H.out (by omega)
          have h3 : (t.size : Int) < (s.size : Int) := by omega
          have h4 : ¬ (s.size : Int) < (t.size : Int) := by omega
          go_wp2
          go_ret
          exact ⟨by rw [HE.out, if_neg (by omega), if_pos (by omega)]; rfl, by repeat (first | exact Gr.refl _ | apply Gr.alloc | apply Gr.drewN | apply Gr.drew)⟩
      · have h1z : ¬ (k : Int) < (s.size : Int) := by omega
        have HE : Hid _ := cb_end s t k hks hkt H.out (by omega)
        by_cases h2 : k < t.size
        · have h3 : (s.size : Int) < (t.size : Int) := by omega
          go_wp2
          go_ret
          exact ⟨by rw [HE.out, if_pos (by omega)]; rfl, by repeat (first | exact Gr.refl _ | apply Gr.alloc | apply Gr.drewN | apply Gr.drew)⟩
        · have h3 : ¬ (s.size : Int) < (t.size : Int) := by omega
          have h4 : ¬ (t.size : Int) < (s.size : Int) := by omega
          go_wp2
          go_ret
          exact ⟨by rw [HE.out, if_neg (by omega), if_neg (by omega)]; rfl, by repeat (first | exact Gr.refl _ | apply Gr.alloc | apply Gr.drewN | apply Gr.drew)⟩
  · have h0 : a ≠ b := by omega
    have h' : ¬ a < b := by omega
    go_enter Tryz.func62, Tryz.ntmps62
    go_wp2
    go_ret
    exact ⟨by simp [cmpK, h, h'], ((Gr.refl _).alloc _).alloc _⟩
end Go.Proofs.YtpihhlllembdeaaGreat
/- The contract of the library's SortFunc, laid at this program: facts of the program alone; no conditions. -/
namespace Go.Proofs
open Go.Shelf
def Tryz.sortS_ren : Go.Shelf.Ren := ⟨fun | 6 => 59 | 15 => 77 | 14 => 76 | 28 => 98 | 29 => 99 | 20 => 90 | 21 => 91 | 22 => 92 | 23 => 93 | 24 => 94 | 25 => 95 | 26 => 96 | 27 => 97 | 46 => 105 | 47 => 106 | 48 => 107 | 49 => 108 | 50 => 109 | 57 => 120 | n => n, fun | 22 => 90 | 24 => 80 | 25 => 125 | 3 => 3 | 39 => 147 | 0 => 0 | 53 => 163 | 55 => 165 | 4 => 4 | 46 => 157 | 45 => 156 | 50 => 51 | 5 => 5 | 9 => 9 | 66 => 170 | 70 => 174 | 76 => 182 | 77 => 183 | n => n, fun | n => n⟩
theorem Tryz.sortS : Go.Proofs.SlLaysF0.n6 Tryz.prog Tryz.sortS_ren := {
  mixed := by kernel_rfl
  f6 := ⟨Tryz.f59.name, by decide, Tryz.func59.trans (congrArg some (by kernel_rfl))⟩
  f14 := ⟨Tryz.f76.name, by decide, Tryz.func76.trans (congrArg some (by kernel_rfl))⟩
  f15 := Tryz.func77.trans (congrArg some (by kernel_rfl))
  f20 := ⟨Tryz.f90.name, by decide, Tryz.func90.trans (congrArg some (by kernel_rfl))⟩
  f21 := ⟨Tryz.f91.name, by decide, Tryz.func91.trans (congrArg some (by kernel_rfl))⟩
  f22 := ⟨Tryz.f92.name, by decide, Tryz.func92.trans (congrArg some (by kernel_rfl))⟩
  f23 := ⟨Tryz.f93.name, by decide, Tryz.func93.trans (congrArg some (by kernel_rfl))⟩
  f24 := ⟨Tryz.f94.name, by decide, Tryz.func94.trans (congrArg some (by kernel_rfl))⟩
  f25 := ⟨Tryz.f95.name, by decide, Tryz.func95.trans (congrArg some (by kernel_rfl))⟩
  f26 := ⟨Tryz.f96.name, by decide, Tryz.func96.trans (congrArg some (by kernel_rfl))⟩
  f27 := ⟨Tryz.f97.name, by decide, Tryz.func97.trans (congrArg some (by kernel_rfl))⟩
  f28 := Tryz.func98.trans (congrArg some (by kernel_rfl))
  f29 := Tryz.func99.trans (congrArg some (by kernel_rfl))
  f46 := ⟨Tryz.f105.name, by decide, Tryz.func105.trans (congrArg some (by kernel_rfl))⟩
  f47 := Tryz.func106.trans (congrArg some (by kernel_rfl))
  f48 := Tryz.func107.trans (congrArg some (by kernel_rfl))
  f49 := ⟨Tryz.f108.name, by decide, Tryz.func108.trans (congrArg some (by kernel_rfl))⟩
  f50 := ⟨Tryz.f109.name, by decide, Tryz.func109.trans (congrArg some (by kernel_rfl))⟩
  f57 := ⟨Tryz.f120.name, by decide, Tryz.func120.trans (congrArg some (by kernel_rfl))⟩
  t0 := Tryz.underlying0
  a0 := Tryz.isAgg0
  z0 := Tryz.sizeOf0
  v0 := Tryz.zeroValue0
  t3 := Tryz.underlying3
  a3 := Tryz.isAgg3
  z3 := Tryz.sizeOf3
  v3 := Tryz.zeroValue3
  t4 := Tryz.underlying4
  a4 := Tryz.isAgg4
  z4 := Tryz.sizeOf4
  v4 := Tryz.zeroValue4
  t5 := Tryz.underlying5
  a5 := Tryz.isAgg5
  z5 := Tryz.sizeOf5
  v5 := Tryz.zeroValue5
  t9 := Tryz.underlying9
  a9 := Tryz.isAgg9
  z9 := Tryz.sizeOf9
  v9 := Tryz.zeroValue9
  t22 := Tryz.underlying90
  a22 := Tryz.isAgg90
  z22 := Tryz.sizeOf90
  v22 := Tryz.zeroValue90
  t25 := Tryz.underlying125
  a25 := Tryz.isAgg125
  z25 := Tryz.sizeOf125
  v25 := Tryz.zeroValue125
  t39 := Tryz.underlying147
  a39 := Tryz.isAgg147
  z39 := Tryz.sizeOf147
  v39 := Tryz.zeroValue147
  t45 := Tryz.underlying156
  a45 := Tryz.isAgg156
  z45 := Tryz.sizeOf156
  v45 := Tryz.zeroValue156
  t46 := Tryz.underlying157
  a46 := Tryz.isAgg157
  z46 := Tryz.sizeOf157
  v46 := Tryz.zeroValue157
  t50 := Tryz.underlying51
  a50 := Tryz.isAgg51
  z50 := Tryz.sizeOf51
  v50 := Tryz.zeroValue51
  t53 := Tryz.underlying163
  a53 := Tryz.isAgg163
  z53 := Tryz.sizeOf163
  v53 := Tryz.zeroValue163
  t55 := Tryz.underlying165
  a55 := Tryz.isAgg165
  z55 := Tryz.sizeOf165
  v55 := Tryz.zeroValue165
  t66 := Tryz.underlying170
  a66 := Tryz.isAgg170
  z66 := Tryz.sizeOf170
  v66 := Tryz.zeroValue170
  t70 := Tryz.underlying174
  a70 := Tryz.isAgg174
  z70 := Tryz.sizeOf174
  v70 := Tryz.zeroValue174
  t76 := Tryz.underlying182
  a76 := Tryz.isAgg182
  z76 := Tryz.sizeOf182
  v76 := Tryz.zeroValue182
  t77 := Tryz.underlying183
  a77 := Tryz.isAgg183
  z77 := Tryz.sizeOf183
  v77 := Tryz.zeroValue183 }
end Go.Proofs
/- The contract of the library's SortFunc at a row of runs. -/
namespace Go.Proofs.YtpihhlllembdeaaGreat
open Go.RowKit Go.Maps Go.ChangeMaps Go.Sort Go.Shelf
set_option linter.unusedVariables false
def row5 (R : Rn) : List Value := [.int .i64 R.run, .int .u16 R.sp, .string R.nm, .int .i64 R.gen, .bool R.rf]
theorem row5_len (R : Rn) : (row5 R).length = 5 := rfl
def leR (x y : Rn) : Prop := leK (kOf x) (kOf y)
theorem ltOf_cmpR (x y : Rn) : ltOf cmpR x y = decide (cmpR x y < 0) := rfl
theorem swoR [Inhabited Rn] : SWO (ltOf cmpR) where
  irrefl x := by rw [ltOf_cmpR]; simp [cmpR, cmpK_self]
  trans x y z h1 h2 := by
    rw [ltOf_cmpR] at h1 h2 ⊢
    have a1 := of_decide_eq_true h1
    have a2 := of_decide_eq_true h2
    unfold cmpR at a1 a2 ⊢
    refine decide_eq_true ?_
    rcases cmpK_range x.sp z.sp x.nm z.nm with e | e | e
    · omega
    · exfalso
      obtain ⟨e1, e2⟩ := cmpK_zero _ _ _ _ e
      have q := cmpK_neg x.sp y.sp x.nm y.nm
      rw [e1, e2] at q a1
      have q2 := cmpK_neg z.sp y.sp z.nm y.nm
      omega
    · exfalso
      have := cmpK_trans x.sp y.sp z.sp x.nm y.nm z.nm (by omega) (by omega)
      omega
  ntrans x y z h1 h2 := by
    rw [ltOf_cmpR] at h1 h2 ⊢
    have a1 := of_decide_eq_false h1
    have a2 := of_decide_eq_false h2
    unfold cmpR at a1 a2 ⊢
    refine decide_eq_false ?_
    have q1 := cmpK_neg x.sp y.sp x.nm y.nm
    have q2 := cmpK_neg y.sp z.sp y.nm z.nm
    have q3 := cmpK_neg x.sp z.sp x.nm z.nm
    have := cmpK_trans z.sp y.sp x.sp z.nm y.nm x.nm (by omega) (by omega)
    omega
theorem flatK_row5 [Inhabited Rn] (s : List Rn) : flatK row5 5 s.toArray = (s.flatMap row5).toArray := by
  refine ext_get! (by simp [flat_len row5_len]) (fun t ht => ?_)
  simp at ht
  rw [get_flatK _ _ _ _ (by simpa using ht)]
  have h1 : t / 5 < s.length := by omega
  have h2 := flat_at row5_len s (t / 5) (t % 5) s[t / 5] (List.getElem?_eq_getElem h1) (by omega)
  rw [show t / 5 * 5 + t % 5 = t by omega] at h2
  have hl : t < (s.flatMap row5).length := by rw [flat_len row5_len]; exact ht
  have e1 : s.toArray[t / 5]! = s[t / 5] := by simp [h1]
  have r : (s.flatMap row5).toArray[t]! = (s.flatMap row5)[t] := by rw [getElem!_pos _ t (by simpa using hl)]; simp
  rw [e1, r]
  rw [List.getElem?_eq_getElem hl, List.getElem?_eq_getElem (by rw [row5_len]; omega)] at h2
  rw [Option.some.inj h2]
  exact getElem!_pos _ _ (by rw [row5_len]; omega)
theorem heap_mapBlock (w : World) (g : Nat) (f : Array Value → Array Value) {cur : Array Value} {e : TypeId} (hc : w.heap[g]? = some (.cells cur e (0, 0))) : (mapBlock w g f).heap[g]? = some (.cells (f cur) e (0, 0)) := by
  simp [mapBlock, Array.getElem?_modify, hc, onCells]
theorem heap_mapBlock_other (w : World) (g k : Nat) (f : Array Value → Array Value) (h : k ≠ g) : (mapBlock w g f).heap[k]? = w.heap[k]? := by
  simp only [mapBlock, Array.getElem?_modify]
  rw [if_neg (fun e => h e.symm)]
theorem own_blk {w : World} {base e g c n k : Nat} {xs : List Value} (h : w.ownsRow base e k (.slice (some ⟨g, 0, none⟩) n c) n xs) :
    ∃ cur, w.heap[g]? = some (.cells cur e (0, 0)) ∧ n ≤ c ∧ c ≤ maxLen ∧ cur.size = c * k ∧ base ≤ g ∧ xs.length = n * k := by
  obtain ⟨h1, h2 | ⟨g', cap', cur, hv, hg, hc, hn, hm, hs, ht⟩⟩ := h
  · cases h2.1
  · simp only [Value.slice.injEq, Option.some.injEq, Addr.mk.injEq, and_true, true_and] at hv
    obtain ⟨rfl, rfl⟩ := hv
    exact ⟨cur, hc, hn, hm, hs, hg, h1⟩
theorem holds_row5 [Inhabited Rn] {w : World} {base g c : Nat} {s : List Rn} (h : w.ownsRow base 80 5 (.slice (some ⟨g, 0, none⟩) s.length c) s.length (s.flatMap row5)) : HoldsK row5 5 w g 0 s.toArray := by
  obtain ⟨cur, hc, _⟩ := own_blk h
  intro j hj
  rw [flatK_row5] at hj ⊢
  simp only [List.size_toArray] at hj
  refine ⟨?_, froz_at hc _⟩
  rw [Nat.zero_add, getElem!_pos _ j (by simpa using hj)]
  exact own_cell h (by simp [List.getElem?_eq_getElem hj])
theorem sort_own [Inhabited Rn] {w : World} {base g c n' : Nat} {s S : List Rn} (os : Array Obj) (h : w.ownsRow base 80 5 (.slice (some ⟨g, 0, none⟩) s.length c) s.length (s.flatMap row5)) (hS : S.length = s.length) :
    (sortWorldK row5 5 w g 0 n' S.toArray os).ownsRow base 80 5 (.slice (some ⟨g, 0, none⟩) S.length c) S.length (S.flatMap row5) ∧ Touch [g] w (sortWorldK row5 5 w g 0 n' S.toArray os) := by
  obtain ⟨cur, hc, hn, hm, hs, hg, hl⟩ := own_blk h
  have hH := holds_row5 h
  have hH2 := holdsK_putRowK row5 5 (Go.Sort.ahead w n') g 0 s.toArray S.toArray (holdsK_ahead row5 5 w n' g 0 s.toArray hH) (by simp [hS])
  have hgs : g < (putRowK row5 5 (Go.Sort.ahead w n') g 0 S.toArray).heap.size := by
    unfold putRowK putRow mapBlock Go.Sort.ahead
    simp
    exact block_lt hc
  have hH3 := holdsK_grow row5 5 _ os g 0 S.toArray hgs hH2
  have hb : (sortWorldK row5 5 w g 0 n' S.toArray os).heap[g]? = some (.cells (putCells id 0 (flatK row5 5 S.toArray) cur) 80 (0, 0)) := by
    unfold sortWorldK
    rw [heap_grow_old _ _ hgs]
    exact heap_mapBlock (Go.Sort.ahead w n') g _ hc
  refine ⟨own_of_cells hb hg (by rw [hS]; exact hn) hm ?_ (flat_len row5_len S) (fun p v hp => ?_), ?_⟩
  · rw [← hs]
    simp [putCells]
  · have hp' : p < (S.flatMap row5).length := (List.getElem?_eq_some_iff.1 hp).1
    have := (hH3 p (by rw [flatK_row5]; simpa using hp')).1
    rw [Nat.zero_add, flatK_row5] at this
    unfold sortWorldK
    rw [this]
    rw [List.getElem?_eq_getElem hp'] at hp
    rw [getElem!_pos _ p (by simpa using hp')]
    simp [Option.some.inj hp]
  · refine ⟨rfl, rfl, rfl, ?_, fun k hk hn => ?_⟩
    · unfold sortWorldK putRowK putRow mapBlock Go.Sort.ahead; simp
    · unfold sortWorldK
      rw [heap_grow_old _ _ (by unfold putRowK putRow mapBlock Go.Sort.ahead; simp; exact hk)]
      exact heap_mapBlock_other (Go.Sort.ahead w n') g k _ (by simpa using hn)
theorem cmpLaysR [Inhabited Rn] (blk off size : Nat) (w : World) : CmpLays Tryz.prog 60 #[] row5 5 cmpR blk off size w := fun _ _ _ _ x y => rcmp_ x y _
theorem sortR [Inhabited Rn] (w : World) (base g c : Nat) (s : List Rn) (h : w.ownsRow base 80 5 (.slice (some ⟨g, 0, none⟩) s.length c) s.length (s.flatMap row5)) (hl : s.length ≤ 3000000000000) :
    Calls Tryz.prog 59 #[.slice (some ⟨g, 0, none⟩) s.length c, .func (.func 60) #[] #[]] w fun e w' => ∃ S : List Rn, e = .returned (.tuple #[]) ∧ S.Perm s ∧ S.Pairwise leR ∧ w'.ownsRow base 80 5 (.slice (some ⟨g, 0, none⟩) S.length c) S.length (S.flatMap row5) ∧ Touch [g] w w' := by
  have eg : ∀ args w, (callFunc 60 args).run Tryz.prog w = .ok (.enter 60 args) w := enters_of Tryz.func60 (by kernel_rfl) rfl
  have hH := holds_row5 h
  obtain ⟨cur, hc, _⟩ := own_blk h
  have hcon := AnyQ.slices_SortFunc Tryz.sortS 5 Tryz.isAgg80 Tryz.sizeOf80 row5 (fun _ => rfl) (fun x v hv => by simp [row5] at hv; rcases hv with rfl | rfl | rfl | rfl | rfl <;> rfl) cmpR swoR 60 #[] g 0 c s.toArray w eg (cmpLaysR g 0 s.toArray.size w) hH (block_lt hc) (by simp; omega)
  change Calls Tryz.prog 59 _ _ _ at hcon
  simp only [List.size_toArray] at hcon
  refine hcon.mono ?_
  rintro e w' ⟨he, d', n, os, hP, hSo, rfl⟩
  have e1 : d'.size = s.length := by simpa using hP.1
  have e2 : d'.toList.Perm s := by
    have := hP.2.2
    rw [Array.extract_eq_self_of_le (by omega)] at this
    simpa using this
  have e3 : d'.toList.Pairwise leR := by
    rw [List.pairwise_iff_getElem]
    intro i j hi hj hij
    have := hSo i j (Nat.zero_le _) hij (by simpa [e1] using hj)
    rw [ltOf_cmpR] at this
    have h1 : i < d'.size := by simpa using hi
    have h2 : j < d'.size := by simpa using hj
    rw [getElem!_pos d' i h1, getElem!_pos d' j h2] at this
    have hq : leR d'[i] d'[j] := leK_of_not (a := kOf d'[j]) (b := kOf d'[i]) (of_decide_eq_false this)
    simpa using hq
  obtain ⟨r1, r2⟩ := sort_own (S := d'.toList) (n' := n) os h (by simpa using e1)
  exact ⟨d'.toList, he, e2, e3, r1, r2⟩
end Go.Proofs.YtpihhlllembdeaaGreat
