/- The contract of the document's numbers in decimal digits: the library's own numeral; the condition is that the number is of 64 bits. -/
import Derived.Test.YtifhfdndbnmhlaaDoorTxt
import Derived.Deep.RegionWith
namespace Go.Proofs.YtifhfdndbnmhlaaDoor
open Go.RowKit Go.Sort
set_option linter.unusedVariables false

def byt (z : Int) : UInt8 := UInt8.ofNat z.toNat
theorem byt_toNat (z : Int) (h0 : 0 ≤ z) (h1 : z ≤ 255) : ((byt z).toNat : Int) = z := by
  unfold byt
  simp
  omega
theorem conv1 (W : World) (b cap : Nat) (x : Int) (hx : 0 ≤ x ∧ x ≤ 255) (c0 : W.cell? ⟨b, 0, none⟩ = some (.int .u8 x)) :
    (convert 75 9 (.slice (some ⟨b, 0, none⟩) 1 cap)).run Tryd.prog W = .ok (.string ⟨#[byt x]⟩) W := by
  refine run_convert_bytes_back W 75 9 5 ⟨b, 0, none⟩ cap [byt x] Tryd.underlying75 Tryd.underlying5 Tryd.underlying9 fun j hj => ?_
  match j, hj with
  | 0, _ => simp only [List.getElem_cons_zero]; rw [byt_toNat x hx.1 hx.2]; exact c0
theorem dec_step (n : Nat) (h : ¬ n < 10) : Lib.decDigits n = Lib.decDigits (n / 10) ++ [byt (48 + ((n % 10 : Nat) : Int))] := by
  rw [Lib.decDigits, dif_neg h]
  unfold byt
  rw [show (48 + ((n % 10 : Nat) : Int)).toNat = 48 + n % 10 by omega]
theorem dec_last (n : Nat) (h : n < 10) : Lib.decDigits n = [byt (48 + (n : Int))] := by
  rw [Lib.decDigits_one h]
  unfold byt
  rw [show (48 + (n : Int)).toNat = 48 + n by omega]
theorem ba_app (l l' : List UInt8) : (⟨(l ++ l').toArray⟩ : ByteArray) = ⟨l.toArray⟩ ++ ⟨l'.toArray⟩ := by
  apply ByteArray.ext
  rw [ByteArray.data_append]
  simp
theorem itoa_small (n : Int) (h0 : 0 ≤ n) (h1 : n < 10) : itoaB n = ⟨#[byt (48 + n)]⟩ := by
  unfold itoaB Lib.itoa
  rw [if_neg (by omega), dec_last n.toNat (by omega), Int.toNat_of_nonneg h0]
theorem itoa_neg (n : Int) (h0 : n < 0) (h1 : -10 < n) : itoaB n = ⟨#[45]⟩ ++ ⟨#[byt (48 - n)]⟩ := by
  unfold itoaB Lib.itoa
  rw [if_pos h0, dec_last n.natAbs (by omega), show (48 + (n.natAbs : Int)) = 48 - n by omega]
  rfl
theorem itoa_big (n : Int) (h : 10 ≤ n) : itoaB n = itoaB (n.tdiv 10) ++ ⟨#[byt (48 + n.tmod 10)]⟩ := by
  have e1 : n.tdiv 10 = n / 10 := Int.tdiv_eq_ediv_of_nonneg (by omega)
  have e2 : n.tmod 10 = n % 10 := Int.tmod_eq_emod_of_nonneg (by omega)
  rw [e1, e2]
  unfold itoaB Lib.itoa
  rw [if_neg (by omega), if_neg (by omega), dec_step n.toNat (by omega), ba_app, show n.toNat / 10 = (n / 10).toNat by omega, show (((n.toNat % 10 : Nat)) : Int) = n % 10 by omega]
theorem itoa_low (n : Int) (h : n ≤ -10) : itoaB n = itoaB (n.tdiv 10) ++ ⟨#[byt (48 - n.tmod 10)]⟩ := by
  have e1 : n.tdiv 10 = -((-n) / 10) := by rw [← Int.neg_neg n, Int.neg_tdiv, Int.neg_neg, Int.tdiv_eq_ediv_of_nonneg (by omega)]
  have e2 : n.tmod 10 = -((-n) % 10) := by rw [← Int.neg_neg n, Int.neg_tmod, Int.neg_neg, Int.tmod_eq_emod_of_nonneg (by omega)]
  rw [e1, e2]
  unfold itoaB Lib.itoa
  rw [if_pos (by omega), if_pos (by omega), dec_step n.natAbs (by omega), ← List.cons_append, ba_app, show n.natAbs / 10 = (-((-n) / 10)).natAbs by omega, show (48 + ((n.natAbs % 10 : Nat) : Int)) = 48 - -((-n) % 10) by omega]
set_option maxRecDepth 20000 in
set_option maxHeartbeats 1000000 in
theorem number36 (m : Nat) : ∀ (n : Int) (w : World), n.natAbs ≤ m → I64 n → Calls Tryd.prog 36 #[.int .i64 n] w fun e w' => e = .returned (.string (itoaB n)) ∧ Gr w w' := by
  have mixed := mixed
  induction m with
  | zero =>
    intro n w hm hn
    obtain rfl : n = 0 := by omega
    rw [itoa_small 0 (by omega) (by omega)]
    have hcv := conv1 (w.alloc (.cells #[.int .u8 48] 5)) w.heap.size 1 48 (by omega) (by simp)
    go_enter Tryd.func36, Tryd.ntmps36
    go_wp2
    go_ret
    exact ⟨rfl, (Gr.refl w).alloc _⟩
  | succ m ih =>
    intro n w hm hn
    have IH : Hid (∀ (n : Int) (w : World), n.natAbs ≤ m → I64 n → Calls Tryd.prog 36 #[.int .i64 n] w fun e w' => e = .returned (.string (itoaB n)) ∧ Gr w w') := ih
    clear ih
    have HI : Hid (I64 n) := hn
    have h1 := hn.1
    have h2 := hn.2
    by_cases hp : 0 ≤ n
    · by_cases hs : n < 10
      · rw [itoa_small n hp hs]
        have hcv := conv1 (w.alloc (.cells #[.int .u8 (48 + n)] 5)) w.heap.size 1 (48 + n) (by omega) (by simp)
        have hw : IntKind.i64.wrap (48 + n) = 48 + n := by rw [IntKind.wrap_i64]; omega
        have hw2 : (48 + n) % 256 = 48 + n := by omega
        go_enter Tryd.func36, Tryd.ntmps36
        go_wp2
        go_ret
        exact ⟨rfl, (Gr.refl w).alloc _⟩
      · have hb : 10 ≤ n := by omega
        rw [itoa_big n hb]
        have b1 : n.tdiv 10 = n / 10 := Int.tdiv_eq_ediv_of_nonneg (by omega)
        have b2 : n.tmod 10 = n % 10 := Int.tmod_eq_emod_of_nonneg (by omega)
        obtain ⟨q, hq⟩ : ∃ q, n.tdiv 10 = q := ⟨_, rfl⟩
        obtain ⟨t, ht⟩ : ∃ t, n.tmod 10 = t := ⟨_, rfl⟩
        rw [hq] at b1
        rw [ht] at b2
        rw [hq, ht]
        have q1 : 0 ≤ q := by omega
        have q2 : q ≤ 922337203685477580 := by omega
        have t1 : 0 ≤ t := by omega
        have t2 : t ≤ 9 := by omega
        have HQ : Hid (q.natAbs ≤ m) := by show q.natAbs ≤ m; omega
        have HQ2 : Hid (I64 q) := by show I64 q; unfold I64; omega
        clear b1 b2
        have zq := itoaB_size q HQ2.out
        have w1 : IntKind.i64.wrap q = q := by rw [IntKind.wrap_i64]; omega
        have w2 : IntKind.i64.wrap t = t := by rw [IntKind.wrap_i64]; omega
        have w3 : IntKind.i64.wrap (48 + t) = 48 + t := by rw [IntKind.wrap_i64]; omega
        have w4 : (48 + t) % 256 = 48 + t := by omega
        have w6 : IntKind.u8.wrap (48 + t) = 48 + t := by rw [IntKind.wrap_u8]; omega
        have e1 : ∀ w, (Op.stringOp .add (itoaB q) ⟨#[byt (48 + t)]⟩).run Tryd.prog w = .ok (.string (itoaB q ++ ⟨#[byt (48 + t)]⟩)) w := fun w => run_string_add_sum w _ _ (by have : (ByteArray.mk #[byt (48 + t)]).size = 1 := rfl; omega)
        have hcv : ∀ W b, W.cell? ⟨b, 0, none⟩ = some (.int .u8 (48 + t)) → (convert 75 9 (.slice (some ⟨b, 0, none⟩) 1 1)).run Tryd.prog W = .ok (.string ⟨#[byt (48 + t)]⟩) W := fun W b h => conv1 W b 1 (48 + t) (by omega) h
        go_enter Tryd.func36, Tryd.ntmps36
        go_wp2_with fail
        go_region_with (first
          | (go_at_call 36; refine (IH.out q w.drew HQ.out HQ2.out).mono ?_; rintro e w5 ⟨rfl, hg⟩)
          | (go_at_call 36; refine (IH.out q (w.alloc (.cells #[.int .u8 (48 + t)] 5)).drew HQ.out HQ2.out).mono ?_; rintro e w5 ⟨rfl, hg⟩; have k5 := hg.cell' (a := ⟨w.heap.size, 0, none⟩) (v := .int .u8 (48 + t)) (by simp)))
        all_goals
          go_wp2
          go_ret
          exact ⟨rfl, by first | exact ((Gr.refl w).drew.trans hg).alloc _ | exact ((Gr.refl w).alloc _).drew.trans hg⟩
    · by_cases hs : -10 < n
      · rw [itoa_neg n (by omega) hs]
        have hcv := conv1 (w.alloc (.cells #[.int .u8 (48 - n)] 5)) w.heap.size 1 (48 - n) (by omega) (by simp)
        have hw : IntKind.i64.wrap (48 - n) = 48 - n := by rw [IntKind.wrap_i64]; omega
        have hw2 : (48 - n) % 256 = 48 - n := by omega
        have e1 : ∀ w, (Op.stringOp .add ⟨#[45]⟩ ⟨#[byt (48 - n)]⟩).run Tryd.prog w = .ok (.string (⟨#[45]⟩ ++ ⟨#[byt (48 - n)]⟩)) w := fun w => run_string_add_sum w _ _ (by have : (ByteArray.mk #[byt (48 - n)]).size = 1 := rfl; have : (ByteArray.mk #[45]).size = 1 := rfl; omega)
        go_enter Tryd.func36, Tryd.ntmps36
        go_wp2
        go_ret
        exact ⟨rfl, (Gr.refl w).alloc _⟩
      · have hb : n ≤ -10 := by omega
        rw [itoa_low n hb]
        have b1 : n.tdiv 10 = -((-n) / 10) := by rw [← Int.neg_neg n, Int.neg_tdiv, Int.neg_neg, Int.tdiv_eq_ediv_of_nonneg (by omega)]
        have b2 : n.tmod 10 = -((-n) % 10) := by rw [← Int.neg_neg n, Int.neg_tmod, Int.neg_neg, Int.tmod_eq_emod_of_nonneg (by omega)]
        obtain ⟨q, hq⟩ : ∃ q, n.tdiv 10 = q := ⟨_, rfl⟩
        obtain ⟨t, ht⟩ : ∃ t, n.tmod 10 = t := ⟨_, rfl⟩
        rw [hq] at b1
        rw [ht] at b2
        rw [hq, ht]
        have q1 : -922337203685477580 ≤ q := by omega
        have q2 : q ≤ 0 := by omega
        have t1 : -9 ≤ t := by omega
        have t2 : t ≤ 0 := by omega
        have HQ : Hid (q.natAbs ≤ m) := by show q.natAbs ≤ m; omega
        have HQ2 : Hid (I64 q) := by show I64 q; unfold I64; omega
        clear b1 b2
        have zq := itoaB_size q HQ2.out
        have w1 : IntKind.i64.wrap q = q := by rw [IntKind.wrap_i64]; omega
        have w2 : IntKind.i64.wrap t = t := by rw [IntKind.wrap_i64]; omega
        have w3 : IntKind.i64.wrap (48 - t) = 48 - t := by rw [IntKind.wrap_i64]; omega
        have w4 : (48 - t) % 256 = 48 - t := by omega
        have w6 : IntKind.u8.wrap (48 - t) = 48 - t := by rw [IntKind.wrap_u8]; omega
        have e1 : ∀ w, (Op.stringOp .add (itoaB q) ⟨#[byt (48 - t)]⟩).run Tryd.prog w = .ok (.string (itoaB q ++ ⟨#[byt (48 - t)]⟩)) w := fun w => run_string_add_sum w _ _ (by have : (ByteArray.mk #[byt (48 - t)]).size = 1 := rfl; omega)
        have hcv : ∀ W b, W.cell? ⟨b, 0, none⟩ = some (.int .u8 (48 - t)) → (convert 75 9 (.slice (some ⟨b, 0, none⟩) 1 1)).run Tryd.prog W = .ok (.string ⟨#[byt (48 - t)]⟩) W := fun W b h => conv1 W b 1 (48 - t) (by omega) h
        go_enter Tryd.func36, Tryd.ntmps36
        go_wp2_with fail
        go_region_with (first
          | (go_at_call 36; refine (IH.out q w.drew HQ.out HQ2.out).mono ?_; rintro e w5 ⟨rfl, hg⟩)
          | (go_at_call 36; refine (IH.out q (w.alloc (.cells #[.int .u8 (48 - t)] 5)).drew HQ.out HQ2.out).mono ?_; rintro e w5 ⟨rfl, hg⟩; have k5 := hg.cell' (a := ⟨w.heap.size, 0, none⟩) (v := .int .u8 (48 - t)) (by simp)))
        all_goals
          go_wp2
          go_ret
          exact ⟨rfl, by first | exact ((Gr.refl w).drew.trans hg).alloc _ | exact ((Gr.refl w).alloc _).drew.trans hg⟩
theorem num36 (n : Int) (w : World) (h : I64 n) : Calls Tryd.prog 36 #[.int .i64 n] w fun e w' => e = .returned (.string (itoaB n)) ∧ Gr w w' := number36 n.natAbs n w (Nat.le_refl _) h
end Go.Proofs.YtifhfdndbnmhlaaDoor
