/- The order of keys, the program's comparison, and rows of keys that a call owns; no conditions. -/
import Derived.Test.YtcdikdiopklcgaaGreatDoorEky
import Derived.Lib.SmallJoins
import Derived.Shelf.Small.Strs
namespace Go.Proofs
open Go.Shelf
def Tryz.lays106_ren : Go.Shelf.Ren := ⟨fun | 106 => 80 | 213 => 100 | 265 => 114 | n => n, fun | 9 => 9 | 3 => 3 | n => n, fun | n => n⟩
theorem Tryz.lays106 : Go.Proofs.Lays.n106 Tryz.prog Tryz.lays106_ren := {
  mixed := by kernel_rfl
  f106 := Tryz.func80.trans (congrArg some (by kernel_rfl))
  f213 := Tryz.func100.trans (congrArg some (by kernel_rfl))
  f265 := Tryz.func114.trans (congrArg some (by kernel_rfl))
  t3 := Tryz.underlying3
  a3 := Tryz.isAgg3
  z3 := Tryz.sizeOf3
  v3 := Tryz.zeroValue3
  t9 := Tryz.underlying9
  a9 := Tryz.isAgg9
  z9 := Tryz.sizeOf9
  v9 := Tryz.zeroValue9 }
open Go.RowKit in
theorem Tryz.strings_Compare (a b : ByteArray) (w : World) :
    Calls Tryz.prog 80 #[.string a, .string b] w fun e w' => e = .returned (.int .i64 (Lib.compareBytes a.data.toList b.data.toList)) ∧ w' = w := Any.strings_Compare Tryz.lays106 a b w
end Go.Proofs
namespace Go.Proofs.YtcdikdiopklcgaaGreatDoor.So
open Go.RowKit Go.Sort Go.Shelf Me
set_option linter.unusedVariables false
def cmpK (a : Int) (s : ByteArray) (b : Int) (t : ByteArray) : Int := if a < b then -1 else if b < a then 1 else Lib.compareBytes s.data.toList t.data.toList
theorem cb_range : ∀ (a b : List UInt8), Lib.compareBytes a b = -1 ∨ Lib.compareBytes a b = 0 ∨ Lib.compareBytes a b = 1
  | [], [] => by simp [Lib.compareBytes]
  | [], _ :: _ => by simp [Lib.compareBytes]
  | _ :: _, [] => by simp [Lib.compareBytes]
  | x :: a, y :: b => by
    have := cb_range a b
    unfold Lib.compareBytes
    split
    · simp
    · split
      · simp
      · exact this
theorem cb_neg : ∀ (a b : List UInt8), Lib.compareBytes b a = - Lib.compareBytes a b
  | [], [] => by simp [Lib.compareBytes]
  | [], _ :: _ => by simp [Lib.compareBytes]
  | _ :: _, [] => by simp [Lib.compareBytes]
  | x :: a, y :: b => by
    have ih := cb_neg a b
    simp only [Lib.compareBytes]
    by_cases h1 : x < y
    · have h2 : ¬ y < x := by rw [UInt8.lt_iff_toNat_lt] at *; omega
      simp [h1, h2]
    · by_cases h2 : y < x
      · simp [h1, h2]
      · simp [h1, h2, ih]
theorem cb_zero : ∀ (a b : List UInt8), Lib.compareBytes a b = 0 → a = b
  | [], [], _ => rfl
  | [], _ :: _, h => by simp [Lib.compareBytes] at h
  | _ :: _, [], h => by simp [Lib.compareBytes] at h
  | x :: a, y :: b, h => by
    simp only [Lib.compareBytes] at h
    by_cases h1 : x < y
    · simp [h1] at h
    · by_cases h2 : y < x
      · simp [h1, h2] at h
      · simp [h1, h2] at h
        have e : x = y := UInt8.toNat_inj.1 (by rw [UInt8.lt_iff_toNat_lt] at *; omega)
        rw [e, cb_zero a b h]
theorem cb_self (a : List UInt8) : Lib.compareBytes a a = 0 := by
  have := cb_neg a a
  omega
theorem cb_trans : ∀ (a b c : List UInt8), Lib.compareBytes a b ≤ 0 → Lib.compareBytes b c ≤ 0 → Lib.compareBytes a c ≤ 0
  | [], _, [], _, _ => by simp [Lib.compareBytes]
  | [], _, _ :: _, _, _ => by simp [Lib.compareBytes]
  | _ :: _, [], _, h, _ => by simp [Lib.compareBytes] at h
  | _ :: _, _ :: _, [], _, h => by simp [Lib.compareBytes] at h
  | x :: a, y :: b, z :: c, h1, h2 => by
    simp only [Lib.compareBytes, UInt8.lt_iff_toNat_lt] at *
    by_cases p1 : x.toNat < y.toNat
    · by_cases p2 : y.toNat < z.toNat
      · rw [if_pos (by omega)]; omega
      · by_cases p3 : z.toNat < y.toNat
        · simp [p2, p3] at h2
        · rw [if_pos (by omega)]; omega
    · by_cases p1' : y.toNat < x.toNat
      · simp [p1, p1'] at h1
      · simp [p1, p1'] at h1
        by_cases p2 : y.toNat < z.toNat
        · rw [if_pos (by omega)]; omega
        · by_cases p3 : z.toNat < y.toNat
          · simp [p2, p3] at h2
          · simp [p2, p3] at h2
            rw [if_neg (by omega), if_neg (by omega)]
            exact cb_trans a b c h1 h2
theorem cmpK_range (a b : Int) (s t : ByteArray) : cmpK a s b t = -1 ∨ cmpK a s b t = 0 ∨ cmpK a s b t = 1 := by
  unfold cmpK
  split
  · simp
  · split
    · simp
    · exact cb_range _ _
theorem cmpK_neg (a b : Int) (s t : ByteArray) : cmpK b t a s = - cmpK a s b t := by
  unfold cmpK
  by_cases h1 : a < b
  · have h2 : ¬ b < a := by omega
    simp [h1, h2]
  · by_cases h2 : b < a
    · simp [h1, h2]
    · simp [h1, h2, cb_neg s.data.toList t.data.toList]
theorem cmpK_zero (a b : Int) (s t : ByteArray) (h : cmpK a s b t = 0) : a = b ∧ s = t := by
  unfold cmpK at h
  by_cases h1 : a < b
  · simp [h1] at h
  · by_cases h2 : b < a
    · simp [h1, h2] at h
    · simp [h1, h2] at h
      exact ⟨by omega, by apply ByteArray.ext; exact Array.toList_inj.1 (cb_zero _ _ h)⟩
theorem cmpK_self (a : Int) (s : ByteArray) : cmpK a s a s = 0 := by simp [cmpK, cb_self]
theorem cmpK_trans (a b c : Int) (s t u : ByteArray) (h1 : cmpK a s b t ≤ 0) (h2 : cmpK b t c u ≤ 0) : cmpK a s c u ≤ 0 := by
  unfold cmpK at *
  by_cases p1 : a < b
  · by_cases p2 : b < c
    · rw [if_pos (by omega)]; omega
    · by_cases p3 : c < b
      · simp [p2, p3] at h2
      · rw [if_pos (by omega)]; omega
  · by_cases p1' : b < a
    · simp [p1, p1'] at h1
    · simp [p1, p1'] at h1
      by_cases p2 : b < c
      · rw [if_pos (by omega)]; omega
      · by_cases p3 : c < b
        · simp [p2, p3] at h2
        · simp [p2, p3] at h2
          rw [if_neg (by omega), if_neg (by omega)]
          exact cb_trans _ _ _ h1 h2
theorem cb_app (l a b : List UInt8) : Lib.compareBytes (l ++ a) (l ++ b) = Lib.compareBytes a b := by
  induction l with
  | nil => rfl
  | cons x l ih => simp [Lib.compareBytes, ih]
theorem cb_drop (a b : List UInt8) (k : Nat) (h : a.take k = b.take k) : Lib.compareBytes a b = Lib.compareBytes (a.drop k) (b.drop k) := by
  have e1 := List.take_append_drop k a
  have e2 := List.take_append_drop k b
  have e3 := cb_app (b.take k) (a.drop k) (b.drop k)
  rw [e2, ← h, e1] at e3
  exact e3
theorem take_snoc (s : ByteArray) (k : Nat) (h : k < s.size) : s.data.toList.take (k + 1) = s.data.toList.take k ++ [s[k]] := by
  rw [List.take_succ_eq_append_getElem (by simpa using h)]; rfl
theorem drop_cons (s : ByteArray) (k : Nat) (h : k < s.size) : s.data.toList.drop k = s[k] :: s.data.toList.drop (k + 1) := by
  rw [List.drop_eq_getElem_cons (by simpa using h)]; rfl
theorem cb_lt (s t : ByteArray) (k : Nat) (hs : k < s.size) (ht : k < t.size) (h : s.data.toList.take k = t.data.toList.take k) (hl : (s[k].toNat : Int) < (t[k].toNat : Int)) : Lib.compareBytes s.data.toList t.data.toList = -1 := by
  rw [cb_drop _ _ k h, drop_cons s k hs, drop_cons t k ht, Lib.compareBytes, if_pos (by rw [UInt8.lt_iff_toNat_lt]; omega)]
theorem cb_gt (s t : ByteArray) (k : Nat) (hs : k < s.size) (ht : k < t.size) (h : s.data.toList.take k = t.data.toList.take k) (hl : (t[k].toNat : Int) < (s[k].toNat : Int)) : Lib.compareBytes s.data.toList t.data.toList = 1 := by
  rw [cb_drop _ _ k h, drop_cons s k hs, drop_cons t k ht, Lib.compareBytes, if_neg (by rw [UInt8.lt_iff_toNat_lt]; omega), if_pos (by rw [UInt8.lt_iff_toNat_lt]; omega)]
theorem cb_eq (s t : ByteArray) (k : Nat) (hs : k < s.size) (ht : k < t.size) (h : s.data.toList.take k = t.data.toList.take k) (h1 : ¬ (s[k].toNat : Int) < (t[k].toNat : Int)) (h2 : ¬ (t[k].toNat : Int) < (s[k].toNat : Int)) : s.data.toList.take (k + 1) = t.data.toList.take (k + 1) := by
  rw [take_snoc s k hs, take_snoc t k ht, h]
  have : s[k] = t[k] := UInt8.toNat_inj.1 (by omega)
  rw [this]
theorem cb_end (s t : ByteArray) (k : Nat) (hs : k ≤ s.size) (ht : k ≤ t.size) (h : s.data.toList.take k = t.data.toList.take k) (hk : ¬ (k < s.size ∧ k < t.size)) :
    Lib.compareBytes s.data.toList t.data.toList = if s.size < t.size then -1 else if t.size < s.size then 1 else 0 := by
  rw [cb_drop _ _ k h]
  by_cases h1 : k < s.size
  · have e : t.data.toList.drop k = [] := List.drop_of_length_le (by show t.size ≤ k; omega)
    rw [e, drop_cons s k h1, Lib.compareBytes, if_neg (by omega), if_pos (by omega)]
  · have e : s.data.toList.drop k = [] := List.drop_of_length_le (by show s.size ≤ k; omega)
    by_cases h2 : k < t.size
    · rw [e, drop_cons t k h2, Lib.compareBytes, if_pos (by omega)]
    · have e' : t.data.toList.drop k = [] := List.drop_of_length_le (by show t.size ≤ k; omega)
      rw [e, e', Lib.compareBytes, if_neg (by omega), if_neg (by omega)]

def leK (a b : K) : Prop := cmpK a.1 a.2 b.1 b.2 ≤ 0
theorem leK_trans {a b c : K} (h : leK a b) (k : leK b c) : leK a c := cmpK_trans _ _ _ _ _ _ h k
theorem leK_of_not {a b : K} (h : ¬ cmpK a.1 a.2 b.1 b.2 < 0) : leK b a := by
  unfold leK
  rw [cmpK_neg]
  omega
theorem leK_of_lt {a b : K} (h : cmpK a.1 a.2 b.1 b.2 < 0) : leK a b := by
  unfold leK
  omega
theorem leK_antisymm {a b : K} (h : leK a b) (k : leK b a) : a = b := by
  unfold leK at *
  rw [cmpK_neg] at k
  obtain ⟨h1, h2⟩ := cmpK_zero a.1 b.1 a.2 b.2 (by omega)
  exact Prod.ext h1 h2
theorem leK_refl (a : K) : leK a a := by unfold leK; rw [cmpK_self]; omega
theorem leK_total (a b : K) : leK a b ∨ leK b a := by
  unfold leK
  rw [cmpK_neg a.1 b.1]
  omega
theorem sorted_unique : ∀ (l m : List K), l.Perm m → l.Pairwise leK → m.Pairwise leK → l = m := fun l m hp hl hm => List.Perm.eq_of_pairwise (fun a b _ _ h k => leK_antisymm h k) hl hm hp
theorem ins_perm (S : List K) (i : Nat) (x : K) : (S.take i ++ x :: S.drop i).Perm (S ++ [x]) := by
  refine (List.perm_middle).trans ?_
  rw [List.take_append_drop]
  exact (List.perm_append_singleton x S).symm
theorem ins_sorted (S : List K) (i : Nat) (x : K) (hi : i ≤ S.length) (hS : S.Pairwise leK) (h1 : ∀ j (h : j < S.length), i ≤ j → cmpK x.1 x.2 S[j].1 S[j].2 < 0) (h2 : ∀ (h : 0 < i), ¬ cmpK x.1 x.2 (S[i - 1]'(by omega)).1 (S[i - 1]'(by omega)).2 < 0) : (S.take i ++ x :: S.drop i).Pairwise leK := by
  have hp : ∀ a b (ha : a < S.length) (hb : b < S.length), a < b → leK S[a] S[b] := fun a b ha hb hab => (List.pairwise_iff_getElem.1 hS) a b ha hb hab
  have hx : ∀ a ∈ S.take i, leK a x := fun a ha => by
    obtain ⟨n, hn, rfl⟩ := List.getElem_of_mem ha
    rw [List.length_take] at hn
    rw [List.getElem_take]
    have h3 := leK_of_not (h2 (by omega))
    by_cases hni : n = i - 1
    · subst hni
      exact h3
    · exact leK_trans (hp n (i - 1) (by omega) (by omega) (by omega)) h3
  have hy : ∀ b ∈ S.drop i, leK x b := fun b hb => by
    obtain ⟨n, hn, rfl⟩ := List.getElem_of_mem hb
    rw [List.length_drop] at hn
    rw [List.getElem_drop]
    exact leK_of_lt (h1 _ (by omega) (by omega))
  rw [List.pairwise_append]
  refine ⟨hS.sublist (List.take_sublist _ _), ?_, ?_⟩
  · rw [List.pairwise_cons]
    exact ⟨hy, hS.sublist (List.drop_sublist _ _)⟩
  · intro a ha b hb
    rcases List.mem_cons.1 hb with rfl | hb
    · exact hx a ha
    · exact leK_trans (hx a ha) (hy b hb)
theorem gap_step (S : List K) (i : Nat) (z : K) (hi : i < S.length) : (S.take (i + 1) ++ z :: S.drop (i + 1)).set (i + 1) S[i] = S.take i ++ S[i] :: S.drop i := by
  have h1 : (S.take (i + 1)).length = i + 1 := by rw [List.length_take]; omega
  rw [List.set_append_right _ _ (by omega), h1, Nat.sub_self, List.set_cons_zero, List.take_succ_eq_append_getElem hi, List.append_assoc]
  congr 1
  rw [List.drop_eq_getElem_cons hi]
  rfl
theorem gap_end (S : List K) (i : Nat) (z x : K) (hi : i ≤ S.length) : (S.take i ++ z :: S.drop i).set i x = S.take i ++ x :: S.drop i := by
  have h1 : (S.take i).length = i := by rw [List.length_take]; omega
  rw [List.set_append_right _ _ (by omega), h1, Nat.sub_self, List.set_cons_zero]
theorem gap_len (S : List K) (i : Nat) (z : K) (hi : i ≤ S.length) : (S.take i ++ z :: S.drop i).length = S.length + 1 := by
  rw [List.length_append, List.length_cons, List.length_take, List.length_drop]
  omega
theorem gap_at (S : List K) (i : Nat) (z : K) (hi : i < S.length) (h : i < (S.take (i + 1) ++ z :: S.drop (i + 1)).length) : (S.take (i + 1) ++ z :: S.drop (i + 1))[i] = S[i] := by
  have h1 : (S.take (i + 1)).length = i + 1 := by rw [List.length_take]; omega
  rw [List.getElem_append_left (by omega), List.getElem_take]
theorem perm_step (xs S : List K) (k i : Nat) (h : k < xs.length) (hp : S.Perm (xs.take k)) : (S.take i ++ xs[k] :: S.drop i).Perm (xs.take (k + 1)) := by
  rw [List.take_succ_eq_append_getElem h]
  exact (ins_perm S i xs[k]).trans (hp.append_right _)

def Gr (w w' : World) : Prop := ∃ q os, w' = grow (w.drewN q) os
theorem Gr.refl (w : World) : Gr w w := ⟨0, #[], by rw [grow_empty]; rfl⟩
theorem Gr.alloc {w w' : World} (h : Gr w w') (o : Obj) : Gr w (w'.alloc o) := by
  obtain ⟨q, os, rfl⟩ := h
  exact ⟨q, os ++ #[o], by rw [alloc_eq_grow, grow_grow]⟩
theorem Gr.grow {w w' : World} (h : Gr w w') (n : Nat) (os' : Array Obj) : Gr w (grow (w'.drewN n) os') := by
  obtain ⟨q, os, rfl⟩ := h
  exact ⟨q + n, os ++ os', by show Sort.grow (Sort.grow ((w.drewN q).drewN n) os) os' = _; rw [grow_grow, World.drewN_drewN]⟩
theorem Gr.drewN {w w' : World} (h : Gr w w') (n : Nat) : Gr w (w'.drewN n) := by
  have := h.grow n #[]
  rwa [grow_empty] at this
theorem Gr.drew {w w' : World} (h : Gr w w') : Gr w w'.drew := h.drewN 1
theorem Gr.trans {a b c : World} (h : Gr a b) (k : Gr b c) : Gr a c := by
  obtain ⟨q, os, rfl⟩ := k
  exact h.grow q os
theorem Gr.touch {w w' : World} (h : Gr w w') : Touch [] w w' := by
  obtain ⟨q, os, rfl⟩ := h
  exact ⟨rfl, rfl, rfl, by rw [size_grow]; exact Nat.le_add_right _ _, fun k hk _ => heap_grow_old _ _ hk⟩
def cmpI (a b : Int) : Int := if a < b then -1 else if b < a then 1 else 0
theorem cmpI_ (a b : Int) (w : World) : Calls Tryz.prog 79 #[.int .u16 a, .int .u16 b] w fun e w' => e = .returned (.int .i64 (cmpI a b)) ∧ w' = w := by
  rcases Int.lt_trichotomy a b with h | h | h
  · go_enter Tryz.func79, Tryz.ntmps79
    go_wp2
    go_ret
    exact ⟨by simp [cmpI, h], rfl⟩
  · subst h
    go_enter Tryz.func79, Tryz.ntmps79
    go_wp2
    go_ret
    exact ⟨by simp [cmpI], rfl⟩
  · have h' : ¬ a < b := by omega
    go_enter Tryz.func79, Tryz.ntmps79
    go_wp2
    go_ret
    exact ⟨by simp [cmpI, h, h'], rfl⟩
/-- The program's. -/
theorem kcmp_ (a b : Int) (s t : ByteArray) (w : World) :
    Calls Tryz.prog 49 #[.agg #[.int .u16 a, .string s], .agg #[.int .u16 b, .string t]] w fun e w' => e = .returned (.int .i64 (cmpK a s b t)) ∧ Gr w w' := by
  rcases Int.lt_trichotomy a b with h | h | h
  · have hc : cmpI a b = -1 := by simp [cmpI, h]
    go_enter Tryz.func49, Tryz.ntmps49
    go_wp2_with (go_at_call 79; refine (cmpI_ _ _ _).mono ?_; rintro e w' ⟨rfl, rfl⟩)
    go_ret
    exact ⟨by simp [cmpK, h], ((Gr.refl _).alloc _).alloc _⟩
  · subst h
    have hc : cmpI a a = 0 := by simp [cmpI]
    go_enter Tryz.func49, Tryz.ntmps49
    go_wp2_with (first | (go_at_call 79; refine (cmpI_ _ _ _).mono ?_; rintro e w' ⟨rfl, rfl⟩) | (go_at_call 80; refine (Tryz.strings_Compare _ _ _).mono ?_; rintro e w' ⟨rfl, rfl⟩))
    go_ret
    exact ⟨by simp [cmpK], ((Gr.refl _).alloc _).alloc _⟩
  · have h' : ¬ a < b := by omega
    have hc : cmpI a b = 1 := by simp [cmpI, h, h']
    go_enter Tryz.func49, Tryz.ntmps49
    go_wp2_with (go_at_call 79; refine (cmpI_ _ _ _).mono ?_; rintro e w' ⟨rfl, rfl⟩)
    go_ret
    exact ⟨by simp [cmpK, h, h'], ((Gr.refl _).alloc _).alloc _⟩
theorem Gr.below {w w' : World} (h : Gr w w') : Below w.heap.size w w' := by
  obtain ⟨q, os, rfl⟩ := h
  exact ⟨rfl, rfl, rfl, by rw [size_grow]; exact Nat.le_add_right _ _, fun k hk => heap_grow_old _ _ hk⟩
theorem Gr.cell {w w' : World} (hg : Gr w w') {a : Addr} {v : Value} (h : w.cell? a = some v) (hb : a.block < w.heap.size) : w'.cell? a = some v := by
  rw [hg.below.cell hb]; exact h
theorem Gr.size {w w' : World} (hg : Gr w w') : w.heap.size ≤ w'.heap.size := hg.below.size
theorem gr_grow (w : World) (n : Nat) (os : Array Obj) : Gr w (grow (w.drewN n) os) := ⟨n, os, rfl⟩
theorem cellsK_set : ∀ (L : List K) (i : Nat) (x : K), i < L.length → Me.cellsK (L.set i x) = ((Me.cellsK L).set (i * 2) (.int .u16 x.1)).set (i * 2 + 1) (.string x.2)
  | a :: L, 0, x, _ => rfl
  | a :: L, i + 1, x, h => by
    have ih := cellsK_set L i x (by simpa using h)
    rw [List.set_cons_succ, show a :: L.set i x = [a] ++ L.set i x from rfl, show a :: L = [a] ++ L from rfl, cellsK_app, cellsK_app, ih, cellsK_one]
    rw [show (i + 1) * 2 = i * 2 + 1 + 1 by omega, show i * 2 + 1 + 1 + 1 = (i * 2 + 1) + 1 + 1 by omega]
    rfl
theorem owns_block {w : World} {base e g c n : Nat} {xs : List Value} (h : w.ownsRow base e 2 (.slice (some ⟨g, 0, none⟩) n c) n xs) :
    ∃ cur, w.heap[g]? = some (.cells cur e (0, 0)) ∧ n ≤ c ∧ c ≤ maxLen ∧ cur.size = c * 2 ∧ cur.toList.take (n * 2) = xs ∧ base ≤ g ∧ xs.length = n * 2 := by
  obtain ⟨h1, h2 | ⟨g', cap', cur, hv, hg, hc, hn, hm, hs, ht⟩⟩ := h
  · cases h2.1
  · simp only [Value.slice.injEq, Option.some.injEq, Addr.mk.injEq, and_true, true_and] at hv
    obtain ⟨rfl, rfl⟩ := hv
    exact ⟨cur, hc, hn, hm, hs, ht, hg, h1⟩
theorem owns_at {w : World} {base e g c : Nat} {L : List K} (h : w.ownsRow base e 2 (.slice (some ⟨g, 0, none⟩) L.length c) L.length (Me.cellsK L)) (i : Nat) (hi : i < L.length) :
    w.cell? ⟨g, i * 2, none⟩ = some (.int .u16 L[i].1) ∧ w.cell? ⟨g, i * 2 + 1, none⟩ = some (.string L[i].2) ∧ w.frozen? ⟨g, i * 2, none⟩ = false ∧ w.frozen? ⟨g, i * 2 + 1, none⟩ = false := by
  obtain ⟨cur, hc, hn, hm, hs, ht, hg, hl⟩ := owns_block h
  have hcell : ∀ j, w.cell? ⟨g, j, none⟩ = cur[j]? := fun j => by simp [World.cell?, hc]
  have hj : ∀ j, j < L.length * 2 → cur[j]? = (Me.cellsK L)[j]? := fun j hj => by
    rw [← ht, List.getElem?_take_of_lt hj, Array.getElem?_toList]
  refine ⟨?_, ?_, Joins.unfrozen_of_block hc _, Joins.unfrozen_of_block hc _⟩
  · rw [hcell, hj _ (by omega), cellsK_at0 L i hi]
  · rw [hcell, hj _ (by omega), cellsK_at1 L i hi]
theorem owns_below {w w' : World} {base e size n : Nat} {v : Value} {xs : List Value} (h : w.ownsRow base e size v n xs) (hb : Below w.heap.size w w') : w'.ownsRow base e size v n xs := by
  obtain ⟨h1, h2⟩ := h
  refine ⟨h1, ?_⟩
  rcases h2 with h2 | ⟨g, cap, cur, hv, hg, hc, r⟩
  · exact Or.inl h2
  · refine Or.inr ⟨g, cap, cur, hv, hg, ?_, r⟩
    rw [hb.block g (by
      rcases Nat.lt_or_ge g w.heap.size with h | h
      · exact h
      · rw [Array.getElem?_eq_none h] at hc; cases hc)]
    exact hc
theorem owns_set {w : World} {base e g c : Nat} {L : List K} (h : w.ownsRow base e 2 (.slice (some ⟨g, 0, none⟩) L.length c) L.length (Me.cellsK L)) (i : Nat) (hi : i < L.length) (x : Int) (y : ByteArray) :
    ((w.setCell ⟨g, i * 2, none⟩ (.int .u16 x)).setCell ⟨g, i * 2 + 1, none⟩ (.string y)).ownsRow base e 2 (.slice (some ⟨g, 0, none⟩) (L.set i (x, y)).length c) (L.set i (x, y)).length (Me.cellsK (L.set i (x, y))) := by
  obtain ⟨cur, hc, hn, hm, hs, ht, hg, hl⟩ := owns_block h
  rw [List.length_set]
  refine ⟨by rw [cellsK_len, List.length_set], Or.inr ⟨g, c, (cur.setIfInBounds (i * 2) (.int .u16 x)).setIfInBounds (i * 2 + 1) (.string y), rfl, hg, ?_, hn, hm, by simp [hs], ?_⟩⟩
  · exact Joins.block_setCell (Joins.block_setCell hc _) _
  · rw [Array.toList_setIfInBounds, Array.toList_setIfInBounds, List.take_set, List.take_set, ht, cellsK_set L i (x, y) hi]

theorem set_far (w : World) (p a : Addr) (v : Value) (h : p.block ≠ a.block) : (w.setCell p v).cell? a = w.cell? a := World.cell?_of_block (Below.heap_setCell w p v a.block (Ne.symm h))

end Go.Proofs.YtcdikdiopklcgaaGreatDoor.So
