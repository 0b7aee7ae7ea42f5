/- A number told as a text and read from one, by the document; the number is not below 0. -/
import Derived.Test.YthakboiecdjgnaaDoorKtb
namespace Go.Proofs.YthakboiecdjgnaaDoor.Kt
open Go.RowKit Go.Sort Go.Shelf
set_option linter.unusedVariables false
theorem ba_app (l l' : List UInt8) : (⟨(l ++ l').toArray⟩ : ByteArray) = ⟨l.toArray⟩ ++ ⟨l'.toArray⟩ := by
  apply ByteArray.ext
  rw [ByteArray.data_append]
  simp
theorem itoaB_nat (n : Nat) : itoaB n = ⟨(Lib.decDigits n).toArray⟩ := by
  unfold itoaB Lib.itoa
  rw [if_neg (by omega), show (n : Int).toNat = n by omega]
theorem itoaB_small (n : Nat) (h : n < 10) : itoaB n = ⟨#[byt (48 + (n : Int))]⟩ := by
  rw [itoaB_nat, dec_last n h]
theorem itoaB_big (n : Nat) (h : 10 ≤ n) : itoaB n = itoaB ((n / 10 : Nat) : Int) ++ ⟨#[byt (48 + ((n % 10 : Nat) : Int))]⟩ := by
  rw [itoaB_nat, itoaB_nat, dec_step n (by omega), ba_app, show (((n % 10 : Nat)) : Int) = (n : Int) % 10 by omega]
theorem nDig_le : ∀ n, ∀ u, u < 10 ^ (n + 1) → Lib.nDigits u ≤ n + 1 := by
  intro n
  induction n with
  | zero => intro u hu; rw [Lib.nDigits_small (by omega)]; omega
  | succ n ih =>
    intro u hu
    by_cases h : u < 10
    · rw [Lib.nDigits_small h]; omega
    · rw [Lib.nDigits_big h]
      have := ih (u / 10) (by rw [Nat.pow_succ] at hu; omega)
      omega
theorem itoaB_len (n : Nat) (h1 : n ≤ 9223372036854775807) : (itoaB n).size ≤ 20 := by
  rw [itoaB_nat]
  show (Lib.decDigits n).toArray.size ≤ 20
  rw [List.size_toArray, Lib.decDigits_length]
  exact nDig_le 19 n (by omega)
theorem num55_small (n : Nat) (w : World) (h : n < 10) : Calls Tryd.prog 55 #[.int .i64 n] w fun e w' => e = .returned (.string (itoaB n)) ∧ Gr w w' := by
  have mixed : Tryd.prog.follows .mixedOrders = true := by kernel_rfl
  rw [itoaB_small n h]
  have z0 : (0 : Int) ≤ (n : Int) := by omega
  have z1 : (n : Int) < 10 := by omega
  have hcv := conv1 (w.alloc (.cells #[.int .u8 (48 + (n : Int))] 5)) w.heap.size 1 (48 + (n : Int)) (by omega) (by simp)
  have hw : IntKind.i64.wrap (48 + (n : Int)) = 48 + n := by rw [IntKind.wrap_i64]; omega
  have hw2 : (48 + (n : Int)) % 256 = 48 + n := by omega
  go_enter Tryd.func55, Tryd.ntmps55
  go_wp2
  go_ret
  exact ⟨rfl, (Gr.refl w).alloc _⟩
set_option maxRecDepth 20000 in
set_option maxHeartbeats 1000000 in
theorem num55 (m : Nat) : ∀ (n : Nat) (w : World), n ≤ m → n ≤ 9223372036854775807 → Calls Tryd.prog 55 #[.int .i64 n] w fun e w' => e = .returned (.string (itoaB n)) ∧ Gr w w' := by
  have mixed : Tryd.prog.follows .mixedOrders = true := by kernel_rfl
  induction m with
  | zero => intro n w hm hn; exact num55_small n w (by omega)
  | succ m ih =>
    intro n w hm hn
    by_cases hs : n < 10
    · exact num55_small n w hs
    have IH : Hid (∀ (n : Nat) (w : World), n ≤ m → n ≤ 9223372036854775807 → Calls Tryd.prog 55 #[.int .i64 n] w fun e w' => e = .returned (.string (itoaB n)) ∧ Gr w w') := ih
    clear ih
    rw [itoaB_big n (by omega)]
    have hq : (n : Int).tdiv 10 = ((n / 10 : Nat) : Int) := by rw [Int.tdiv_eq_ediv_of_nonneg (by omega)]; omega
    have ht : (n : Int).tmod 10 = ((n % 10 : Nat) : Int) := by rw [Int.tmod_eq_emod_of_nonneg (by omega)]; omega
    have z0 : (0 : Int) ≤ (n : Int) := by omega
    have z1 : ¬ (n : Int) < 10 := by omega
    have z2 : (10 : Int) ≤ (n : Int) := by omega
    have q1 : n / 10 ≤ m := by omega
    have q2 : n / 10 ≤ 922337203685477580 := by omega
    have t2 : n % 10 ≤ 9 := by omega
    clear hm hn hs
    generalize n / 10 = q at *
    generalize n % 10 = t at *
    have HQ : Hid (q ≤ m ∧ q ≤ 9223372036854775807) := ⟨q1, by omega⟩
    have zq := itoaB_len q HQ.out.2
    have w1 : IntKind.i64.wrap (q : Int) = q := by rw [IntKind.wrap_i64]; omega
    have w2 : IntKind.i64.wrap (t : Int) = t := by rw [IntKind.wrap_i64]; omega
    have w3 : IntKind.i64.wrap (48 + (t : Int)) = 48 + t := by rw [IntKind.wrap_i64]; omega
    have w4 : (48 + (t : Int)) % 256 = 48 + t := by omega
    have w6 : IntKind.u8.wrap (48 + (t : Int)) = 48 + t := by rw [IntKind.wrap_u8]; omega
    clear q1 q2
    have e1 : ∀ w, (Op.stringOp .add (itoaB q) ⟨#[byt (48 + (t : Int))]⟩).run Tryd.prog w = .ok (.string (itoaB q ++ ⟨#[byt (48 + (t : Int))]⟩)) w := fun w => run_string_add_sum w _ _ (by have : (ByteArray.mk #[byt (48 + (t : Int))]).size = 1 := rfl; omega)
    have hcv : ∀ W b, W.cell? ⟨b, 0, none⟩ = some (.int .u8 (48 + (t : Int))) → (convert 87 9 (.slice (some ⟨b, 0, none⟩) 1 1)).run Tryd.prog W = .ok (.string ⟨#[byt (48 + (t : Int))]⟩) W := fun W b h => conv1 W b 1 (48 + (t : Int)) (by omega) h
    go_enter Tryd.func55, Tryd.ntmps55
    go_wp2_with fail
    go_region_with (first
      | (go_at_call 55; refine (IH.out q w.drew HQ.out.1 HQ.out.2).mono ?_; rintro e w5 ⟨rfl, hg⟩)
      | (go_at_call 55; refine (IH.out q (w.alloc (.cells #[.int .u8 (48 + (t : Int))] 5)).drew HQ.out.1 HQ.out.2).mono ?_; rintro e w5 ⟨rfl, hg⟩; have k5 := hg.cell (a := ⟨w.heap.size, 0, none⟩) (v := .int .u8 (48 + (t : Int))) (by simp) (by simp)))
    all_goals
      go_wp2
      go_ret
      exact ⟨rfl, by first | exact ((Gr.refl w).drew.trans hg).alloc _ | exact ((Gr.refl w).alloc _).drew.trans hg⟩

def dstep (a : Nat) (c : UInt8) : Nat := a * 10 + (c.toNat - 48)
def dv (l : List UInt8) : Nat := l.foldl dstep 0
theorem dv_snoc (l : List UInt8) (c : UInt8) : dv (l ++ [c]) = dstep (dv l) c := by simp [dv, List.foldl_append]
theorem ofNat_toNat (n : Nat) (h : n < 256) : (UInt8.ofNat n).toNat = n := by rw [UInt8.toNat_ofNat']; omega
theorem dv_dec : ∀ u : Nat, dv (Lib.decDigits u) = u := by
  intro u
  induction u using Nat.strongRecOn with
  | _ u ih =>
    rw [Lib.decDigits]
    split
    · rename_i h
      have := dv_snoc [] (UInt8.ofNat (48 + u))
      rw [List.nil_append] at this
      rw [this]
      unfold dstep
      rw [ofNat_toNat _ (by omega)]
      show 0 * 10 + _ = _
      omega
    · rename_i h
      rw [dv_snoc, ih (u / 10) (by omega)]
      unfold dstep
      rw [ofNat_toNat _ (by omega)]
      omega
theorem fold_ge (l : List UInt8) : ∀ a : Nat, a ≤ l.foldl dstep a := by
  induction l with
  | nil => intro a; exact Nat.le_refl _
  | cons c l ih =>
    intro a
    have h1 : a ≤ dstep a c := by unfold dstep; omega
    exact Nat.le_trans h1 (ih (dstep a c))
theorem dv_take (l : List UInt8) (p : Nat) : dv (l.take p) ≤ dv l := by
  have h : dv l = (l.drop p).foldl dstep (dv (l.take p)) := by
    unfold dv
    rw [← List.foldl_append, List.take_append_drop]
  rw [h]
  exact fold_ge _ _
def isDig (c : UInt8) : Prop := 48 ≤ c.toNat ∧ c.toNat ≤ 57
theorem dig_dec : ∀ u : Nat, ∀ c ∈ Lib.decDigits u, isDig c := by
  intro u
  induction u using Nat.strongRecOn with
  | _ u ih =>
    intro c hc
    rw [Lib.decDigits] at hc
    split at hc
    · rename_i h
      rw [List.mem_singleton] at hc
      subst hc
      unfold isDig
      rw [ofNat_toNat _ (by omega)]
      omega
    · rename_i h
      rcases List.mem_append.1 hc with h1 | h1
      · exact ih (u / 10) (by omega) c h1
      · rw [List.mem_singleton] at h1
        subst h1
        unfold isDig
        rw [ofNat_toNat _ (by omega)]
        omega
theorem list_of (s : ByteArray) (m : Nat) (hs : itoaB m = s) : s.data.toList = Lib.decDigits m := by rw [← hs, itoaB_nat]
theorem take_snocB (s : ByteArray) (p : Nat) (h : p < s.size) : s.data.toList.take (p + 1) = s.data.toList.take p ++ [s[p]] := by
  rw [List.take_succ_eq_append_getElem (by simpa using h)]; rfl
def MT : Nat := 4611686018427387904
def Acc (s : ByteArray) (p : Nat) (n : Nat) : Prop := ∀ m : Nat, m ≤ MT → itoaB m = s → n = dv (s.data.toList.take p)
theorem acc_le {s : ByteArray} {p n : Nat} (hA : Acc s p n) (m : Nat) (hm : m ≤ MT) (hs : itoaB m = s) : n ≤ m := by
  rw [hA m hm hs]
  have h := dv_take s.data.toList p
  rw [list_of s m hs, dv_dec] at h
  rw [list_of s m hs]
  exact h
theorem acc_bad {s : ByteArray} {p : Nat} (h : p < s.size) (hb : s[p].toNat < 48 ∨ 57 < s[p].toNat) : ∀ m : Nat, m ≤ MT → itoaB m ≠ s := fun m hm hs => by
  have hl := list_of s m hs
  have hg : s[p] ∈ s.data.toList := by
    have : s[p] = s.data.toList[p]'(by simpa using h) := rfl
    rw [this]
    exact List.getElem_mem _
  rw [hl] at hg
  have := dig_dec m _ hg
  unfold isDig at this
  omega
theorem acc_big {s : ByteArray} {p n : Nat} (hA : Acc s p n) (h : MT < n) : ∀ m : Nat, m ≤ MT → itoaB m ≠ s := fun m hm hs => by
  have := acc_le hA m hm hs
  omega
theorem acc_step {s : ByteArray} {p n : Nat} (h : p < s.size) (hA : Acc s p n) (h1 : 48 ≤ s[p].toNat) : ∀ m : Nat, m ≤ MT → itoaB m = s → n * 10 + (s[p].toNat - 48) = dv (s.data.toList.take (p + 1)) := fun m hm hs => by
  rw [take_snocB s p h, dv_snoc, ← hA m hm hs]
  rfl
theorem acc_step_le {s : ByteArray} {p n : Nat} (h : p < s.size) (hA : Acc s p n) (h1 : 48 ≤ s[p].toNat) : ∀ m : Nat, m ≤ MT → itoaB m = s → n * 10 + (s[p].toNat - 48) ≤ m := fun m hm hs => by
  rw [acc_step h hA h1 m hm hs]
  have h := dv_take s.data.toList (p + 1)
  rw [list_of s m hs, dv_dec] at h
  rw [list_of s m hs]
  exact h
theorem acc_end {s : ByteArray} {n : Nat} (hA : Acc s s.size n) : ∀ m : Nat, m ≤ MT → itoaB m = s → n = m := fun m hm hs => by
  have h := hA m hm hs
  rw [List.take_of_length_le (by exact Nat.le_refl _), list_of s m hs, dv_dec] at h
  exact h
theorem beqB (a b : ByteArray) : (a.toList == b.toList) = true ↔ a = b := by
  rw [beq_iff_eq, ByteArray.toList_eq, ByteArray.toList_eq]
  exact ⟨fun h => ByteArray.ext (Array.toList_inj.1 h), fun h => by rw [h]⟩
def NumOf (s : ByteArray) (n : Nat) (b : Bool) : Prop := n ≤ 9223372036854775807 ∧ (b = true → itoaB n = s) ∧ (∀ m : Nat, m ≤ MT → itoaB m = s → b = true ∧ n = m)
def RetN (s : ByteArray) (e : Ending) : Prop := ∃ (n : Nat) (b : Bool), e = .returned (.tuple #[.int .i64 n, .bool b]) ∧ NumOf s n b
theorem retN_no {s : ByteArray} (h : ∀ m : Nat, m ≤ MT → itoaB m ≠ s) : NumOf s 0 false := ⟨by omega, (fun h => by cases h), fun m hm hs => absurd hs (h m hm)⟩
theorem retN_end {s : ByteArray} {n : Nat} (hn : n ≤ 9223372036854775807) (hA : Acc s s.size n) : NumOf s n ((itoaB n).toList == s.toList) :=
  ⟨hn, fun h => (beqB _ _).1 h, fun m hm hs => by
    have := acc_end hA m hm hs
    subst this
    exact ⟨(beqB _ _).2 hs, rfl⟩⟩
set_option maxRecDepth 20000 in
set_option maxHeartbeats 2000000 in
theorem number61 (s : ByteArray) (w : World) (hs : s.size ≤ 281474976710656) : Calls Tryd.prog 61 #[.string s] w fun e w' => RetN s e ∧ Gr w w' := by
  go_enter Tryd.func61, Tryd.ntmps61
  go_wp2
  go_loopw [4, 5] (fun t i wr => ∃ (n : Nat) (p : Nat), t = .int .i64 n ∧ i = .int .i64 p ∧ p ≤ s.size ∧ n ≤ 9223372036854775807 ∧ Hid (Acc s p n) ∧ wr = w) (fun _ i _ => s.size - (intOf i).toNat)
  case atStart => exact ⟨0, 0, rfl, rfl, Nat.zero_le _, by omega, fun m hm h => rfl, rfl⟩
  case round =>
    obtain ⟨n, p, rfl, rfl, hp, hn, HA, rfl⟩ := hrel
    by_cases hlt : p < s.size
    · have hz : (p : Int) < (s.size : Int) := by omega
      have hc0 := s[p].toNat_lt
      by_cases h48 : s[p].toNat < 48
      · have HB : Hid (∀ m : Nat, m ≤ MT → itoaB m ≠ s) := acc_bad hlt (Or.inl h48)
        obtain ⟨c, hc⟩ : ∃ c : Nat, s[p].toNat = c := ⟨_, rfl⟩
        rw [hc] at h48
        have h48' : (c : Int) < 48 := by omega
        clear h48 hc0
        go_wp2
        go_ret2
        exact ⟨⟨0, false, rfl, retN_no HB.out⟩, Gr.refl _⟩
      by_cases h57 : 57 < s[p].toNat
      · have HB : Hid (∀ m : Nat, m ≤ MT → itoaB m ≠ s) := acc_bad hlt (Or.inr h57)
        obtain ⟨c, hc⟩ : ∃ c : Nat, s[p].toNat = c := ⟨_, rfl⟩
        rw [hc] at h48 h57
        have h48' : ¬ (c : Int) < 48 := by omega
        have h57' : (57 : Int) < (c : Int) := by omega
        clear h48 h57 hc0
        go_wp2
        go_ret2
        exact ⟨⟨0, false, rfl, retN_no HB.out⟩, Gr.refl _⟩
      by_cases hbig : MT < n
      · have HB : Hid (∀ m : Nat, m ≤ MT → itoaB m ≠ s) := acc_big HA.out hbig
        obtain ⟨c, hc⟩ : ∃ c : Nat, s[p].toNat = c := ⟨_, rfl⟩
        rw [hc] at h48 h57
        have h48' : ¬ (c : Int) < 48 := by omega
        have h57' : ¬ (57 : Int) < (c : Int) := by omega
        have hb' : (4611686018427387904 : Int) < (n : Int) := by unfold MT at hbig; omega
        clear h48 h57 hc0 hbig
        go_wp2
        go_ret2
        exact ⟨⟨0, false, rfl, retN_no HB.out⟩, Gr.refl _⟩
      have H1 : Hid _ := acc_step hlt HA.out (by omega)
      have H2 : Hid _ := acc_step_le hlt HA.out (by omega)
      obtain ⟨c, hc⟩ : ∃ c : Nat, s[p].toNat = c := ⟨_, rfl⟩
      rw [hc] at h48 h57 H1 H2
      have h48' : ¬ (c : Int) < 48 := by omega
      have h57' : ¬ (57 : Int) < (c : Int) := by omega
      have hb' : ¬ (4611686018427387904 : Int) < (n : Int) := by unfold MT at hbig; omega
      have hw1 : ((c : Int) - 48) % 256 = ((c - 48 : Nat) : Int) := by omega
      have hw2 : IntKind.u8.wrap ((c : Int) - 48) = ((c - 48 : Nat) : Int) := by rw [IntKind.wrap_u8]; omega
      have hw3 : IntKind.i64.wrap ((c - 48 : Nat) : Int) = ((c - 48 : Nat) : Int) := by rw [IntKind.wrap_i64]; omega
      obtain ⟨n1, hn1⟩ : ∃ n1, IntKind.i64.wrap ((n : Int) * 10) = n1 := ⟨_, rfl⟩
      obtain ⟨n2, hn2⟩ : ∃ n2, IntKind.i64.wrap (n1 + ((c - 48 : Nat) : Int)) = n2 := ⟨_, rfl⟩
      have hv1 := hn1
      have hv2 := hn2
      rw [IntKind.wrap_i64] at hv1 hv2
      unfold MT at hbig
      by_cases hneg : n2 < 0
      · have HB : Hid (∀ m : Nat, m ≤ MT → itoaB m ≠ s) := fun m hm hs => by
          have := H2.out m hm hs
          unfold MT at hm
          omega
        clear hbig hv1 hv2 hc0 h48 h57
        generalize c - 48 = d at *
        go_wp2
        go_ret2
        exact ⟨⟨0, false, rfl, retN_no HB.out⟩, Gr.refl _⟩
      · obtain ⟨k, rfl⟩ : ∃ k : Nat, n2 = k := ⟨n2.toNat, by omega⟩
        have HA2 : Hid (Acc s (p + 1) k) := fun m hm hs => by
          have h1 := H1.out m hm hs
          have h2 := H2.out m hm hs
          unfold MT at hm
          omega
        have hk : k ≤ 9223372036854775807 := by omega
        clear hbig hv1 hv2 hc0 h48 h57
        generalize c - 48 = d at *
        go_wp2
        go_roundw
        case rel => exact ⟨k, p + 1, rfl, by go_num, by omega, hk, HA2.out, by first | rfl | trivial⟩
        case measure => simp [intOf]; omega
    · have hz : ¬ (p : Int) < (s.size : Int) := by omega
      obtain rfl : p = s.size := by omega
      have HE : Hid (NumOf s n ((itoaB n).toList == s.toList)) := retN_end hn HA.out
      have HC : Hid _ := fun w => num55 n n w (Nat.le_refl _) hn
      have hw : IntKind.i64.wrap (n : Int) = n := by rw [IntKind.wrap_i64]; omega
      go_wp2_with fail
      refine (HC.out _).mono ?_
      rintro e w1 ⟨rfl, hg⟩
      go_wp2_with fail
      go_ret2
      exact ⟨⟨n, _, rfl, HE.out⟩, hg⟩
end Go.Proofs.YthakboiecdjgnaaDoor.Kt
