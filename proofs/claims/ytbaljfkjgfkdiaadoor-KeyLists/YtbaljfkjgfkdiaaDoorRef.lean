/- The contract of the document's comparison of keys; no conditions but that the names' lengths fit. -/
import Derived.Test.YtbaljfkjgfkdiaaDoorBase
import Derived.Deep.QuietTactic
namespace Go.Proofs.YtbaljfkjgfkdiaaDoor
open Go.RowKit Go.Sort
set_option linter.unusedVariables false

theorem cb_app (l a b : List UInt8) : Lib.compareBytes (l ++ a) (l ++ b) = Lib.compareBytes a b := by
  induction l with
  | nil => rfl
  | cons x l ih => simp [Lib.compareBytes, ih]
theorem cb_drop (a b : List UInt8) (k : Nat) (h : a.take k = b.take k) : Lib.compareBytes a b = Lib.compareBytes (a.drop k) (b.drop k) := by
  have e1 := List.take_append_drop k a
  have e2 := List.take_append_drop k b
  have e3 := cb_app (b.take k) (a.drop k) (b.drop k)
  rw [e2, ← h, e1] at e3
  exact e3
theorem take_snoc (s : ByteArray) (k : Nat) (h : k < s.size) : s.data.toList.take (k + 1) = s.data.toList.take k ++ [s[k]] := by
  rw [List.take_succ_eq_append_getElem (by simpa using h)]; rfl
theorem drop_cons (s : ByteArray) (k : Nat) (h : k < s.size) : s.data.toList.drop k = s[k] :: s.data.toList.drop (k + 1) := by
  rw [List.drop_eq_getElem_cons (by simpa using h)]; rfl
theorem cb_lt (s t : ByteArray) (k : Nat) (hs : k < s.size) (ht : k < t.size) (h : s.data.toList.take k = t.data.toList.take k) (hl : (s[k].toNat : Int) < (t[k].toNat : Int)) : Lib.compareBytes s.data.toList t.data.toList = -1 := by
  rw [cb_drop _ _ k h, drop_cons s k hs, drop_cons t k ht, Lib.compareBytes, if_pos (by rw [UInt8.lt_iff_toNat_lt]; omega)]
theorem cb_gt (s t : ByteArray) (k : Nat) (hs : k < s.size) (ht : k < t.size) (h : s.data.toList.take k = t.data.toList.take k) (hl : (t[k].toNat : Int) < (s[k].toNat : Int)) : Lib.compareBytes s.data.toList t.data.toList = 1 := by
  rw [cb_drop _ _ k h, drop_cons s k hs, drop_cons t k ht, Lib.compareBytes, if_neg (by rw [UInt8.lt_iff_toNat_lt]; omega), if_pos (by rw [UInt8.lt_iff_toNat_lt]; omega)]
theorem cb_eq (s t : ByteArray) (k : Nat) (hs : k < s.size) (ht : k < t.size) (h : s.data.toList.take k = t.data.toList.take k) (h1 : ¬ (s[k].toNat : Int) < (t[k].toNat : Int)) (h2 : ¬ (t[k].toNat : Int) < (s[k].toNat : Int)) : s.data.toList.take (k + 1) = t.data.toList.take (k + 1) := by
  rw [take_snoc s k hs, take_snoc t k ht, h]
  have : s[k] = t[k] := UInt8.toNat_inj.1 (by omega)
  rw [this]
theorem cb_end (s t : ByteArray) (k : Nat) (hs : k ≤ s.size) (ht : k ≤ t.size) (h : s.data.toList.take k = t.data.toList.take k) (hk : ¬ (k < s.size ∧ k < t.size)) :
    Lib.compareBytes s.data.toList t.data.toList = if s.size < t.size then -1 else if t.size < s.size then 1 else 0 := by
  rw [cb_drop _ _ k h]
  by_cases h1 : k < s.size
  · have e : t.data.toList.drop k = [] := List.drop_of_length_le (by show t.size ≤ k; omega)
    rw [e, drop_cons s k h1, Lib.compareBytes, if_neg (by omega), if_pos (by omega)]
  · have e : s.data.toList.drop k = [] := List.drop_of_length_le (by show s.size ≤ k; omega)
    by_cases h2 : k < t.size
    · rw [e, drop_cons t k h2, Lib.compareBytes, if_pos (by omega)]
    · have e' : t.data.toList.drop k = [] := List.drop_of_length_le (by show t.size ≤ k; omega)
      rw [e, e', Lib.compareBytes, if_neg (by omega), if_neg (by omega)]

set_option maxHeartbeats 1000000 in
theorem ref32 (a b : Int) (s t : ByteArray) (w : World) (hs : s.size ≤ maxLen) (ht : t.size ≤ maxLen) :
    Calls Tryd.prog 32 #[.agg #[.int .u16 a, .string s], .agg #[.int .u16 b, .string t]] w fun e w' => e = .returned (.int .i64 (cmpK a s b t)) ∧ Gr w w' := by
  unfold maxLen at hs ht
  have mixed : Tryd.prog.follows .mixedOrders = true := by kernel_rfl
  rcases Int.lt_trichotomy a b with h | h | h
  · have h0 : a ≠ b := by omega
    go_enter Tryd.func32, Tryd.ntmps32
    go_wp2
    go_ret
    exact ⟨by simp [cmpK, h], ((Gr.refl _).alloc _).alloc _⟩
  · subst h
    have hc : cmpK a s a t = Lib.compareBytes s.data.toList t.data.toList := by simp [cmpK]
    rw [hc]
    clear hc
    go_enter Tryd.func32, Tryd.ntmps32
    go_wp2
    go_loopw [5] (fun i wr => ∃ k n : Nat, i = .int .i64 k ∧ k ≤ s.size ∧ k ≤ t.size ∧ Hid (s.data.toList.take k = t.data.toList.take k) ∧ wr = ((w.alloc (.cells #[.int .u16 a, .string s] 31)).alloc (.cells #[.int .u16 a, .string t] 31)).drewN n) (fun i _ => s.size - (intOf i).toNat)
    case atStart => exact ⟨0, 0, rfl, Nat.zero_le _, Nat.zero_le _, rfl, rfl⟩
    case round =>
      obtain ⟨k, n, rfl, hks, hkt, H, rfl⟩ := hrel
      by_cases h1 : k < s.size
      · have h1z : (k : Int) < (s.size : Int) := by omega
        by_cases h2 : k < t.size
        · have h2z : (k : Int) < (t.size : Int) := by omega
          by_cases hl : (s[k].toNat : Int) < (t[k].toNat : Int)
          · go_wp2
            go_quiet (fail)
            go_wp2
            go_ret
            exact ⟨by rw [cb_lt s t k h1 h2 H.out hl]; rfl, by repeat (first | exact Gr.refl _ | apply Gr.alloc | apply Gr.drewN | apply Gr.drew)⟩
          · by_cases hg : (t[k].toNat : Int) < (s[k].toNat : Int)
            · go_wp2
              go_quiet (fail)
              go_wp2
              go_quiet (fail)
              go_wp2
              go_ret
              exact ⟨by rw [cb_gt s t k h1 h2 H.out hg]; rfl, by repeat (first | exact Gr.refl _ | apply Gr.alloc | apply Gr.drewN | apply Gr.drew)⟩
            · have HE : Hid _ := cb_eq s t k h1 h2 H.out hl hg
              go_wp2
              go_quiet (fail)
              go_wp2
              go_quiet (fail)
              go_wp2
              go_roundw
              case rel => exact ⟨k + 1, _, by go_num, by omega, by omega, HE, rfl⟩
              case measure => simp [intOf]; omega
        · have h2z : ¬ (k : Int) < (t.size : Int) := by omega
          have HE : Hid _ := cb_end s t k hks hkt H.out (by omega)
          have h3 : (t.size : Int) < (s.size : Int) := by omega
          have h4 : ¬ (s.size : Int) < (t.size : Int) := by omega
          go_wp2
          go_ret
          exact ⟨by rw [HE.out, if_neg (by omega), if_pos (by omega)]; rfl, by repeat (first | exact Gr.refl _ | apply Gr.alloc | apply Gr.drewN | apply Gr.drew)⟩
      · have h1z : ¬ (k : Int) < (s.size : Int) := by omega
        have HE : Hid _ := cb_end s t k hks hkt H.out (by omega)
        by_cases h2 : k < t.size
        · have h3 : (s.size : Int) < (t.size : Int) := by omega
          go_wp2
          go_ret
          exact ⟨by rw [HE.out, if_pos (by omega)]; rfl, by repeat (first | exact Gr.refl _ | apply Gr.alloc | apply Gr.drewN | apply Gr.drew)⟩
        · have h3 : ¬ (s.size : Int) < (t.size : Int) := by omega
          have h4 : ¬ (t.size : Int) < (s.size : Int) := by omega
          go_wp2
          go_ret
          exact ⟨by rw [HE.out, if_neg (by omega), if_neg (by omega)]; rfl, by repeat (first | exact Gr.refl _ | apply Gr.alloc | apply Gr.drewN | apply Gr.drew)⟩
  · have h0 : a ≠ b := by omega
    have h' : ¬ a < b := by omega
    go_enter Tryd.func32, Tryd.ntmps32
    go_wp2
    go_ret
    exact ⟨by simp [cmpK, h, h'], ((Gr.refl _).alloc _).alloc _⟩
end Go.Proofs.YtbaljfkjgfkdiaaDoor
