/- The contract of the document's product digit by digit; its conditions: numbers below 2^64 and 2^48. -/
import Derived.Test.YtkodabhkhifggaaWsm
namespace Go.Proofs.Ytkodabhkhifggaa
open Go.RowKit Go.Maps Go.ChangeMaps Go.ChangeShapes Go.WideShapes Go.ChangeAt
set_option linter.unusedVariables false
set_option linter.unusedSimpArgs false
def dgs (D : List Nat) : Array Value := (D.map (fun d : Nat => Value.int .u64 (d : Int))).toArray
structure Dg (w : World) (b : Nat) (D : List Nat) : Prop where
  hb : w.heap[b]? = some (.cells (dgs D) 80 (0, 0))
  len : D.length = 8
  ok : dok D
theorem Dg.cell {w : World} {b : Nat} {D : List Nat} (h : Dg w b D) {j : Nat} (hj : j < 8) : w.cell? ⟨b, j, none⟩ = some (.int .u64 (D.getD j 0 : Nat)) := by
  have := h.len
  refine cell_at h.hb ?_
  simp [dgs, List.getD, show j < D.length by omega]
theorem Dg.set {w : World} {b : Nat} {D : List Nat} (h : Dg w b D) (j : Nat) {x : Nat} (hx : x < 65536) : Dg (w.setCell ⟨b, j, none⟩ (.int .u64 x)) b (D.set j x) := by
  refine ⟨?_, by simp [h.len], dok_set h.ok _ _ hx⟩
  have := bset (i := j) h.hb (.int .u64 x)
  rw [this]
  congr 2
  simp [dgs, List.map_set]
def Pt (w wr : World) (b : Nat) (v : Nat) : Prop := ∃ D, Dg wr b D ∧ dval D = v ∧ Touch [] w wr
def Pc (w wr : World) (b : Nat) (c m T : Nat) : Prop := ∃ D, Dg wr b D ∧ dval D + c * 65536 ^ m = T ∧ Touch [] w wr
theorem dig_cast (x i : Nat) : ((x : Int) / 2 ^ (16 * i)).tmod 65536 = ((x / 65536 ^ i % 65536 : Nat) : Int) := by
  have e : (65536 : Nat) ^ i = 2 ^ (16 * i) := by rw [Nat.pow_mul]
  rw [e]
  have e2 : (x : Int) / 2 ^ (16 * i) = ((x / 2 ^ (16 * i) : Nat) : Int) := by simp
  rw [e2]
  generalize x / 2 ^ (16 * i) = y
  rw [Int.tmod_eq_emod_of_nonneg (by omega)]
  omega
theorem mul_cast (x i t k : Nat) : IntKind.u64.wrap (((x : Int) / 2 ^ (16 * i)).tmod 65536 * ((t : Int) / 2 ^ (16 * k)).tmod 65536) = ((x / 65536 ^ i % 65536 * (t / 65536 ^ k % 65536) : Nat) : Int) ∧ x / 65536 ^ i % 65536 * (t / 65536 ^ k % 65536) < 4294967296 := by
  rw [dig_cast, dig_cast, ← Int.natCast_mul]
  have h1 : x / 65536 ^ i % 65536 < 65536 := Nat.mod_lt _ (by decide)
  have h2 : t / 65536 ^ k % 65536 < 65536 := Nat.mod_lt _ (by decide)
  have h3 : x / 65536 ^ i % 65536 * (t / 65536 ^ k % 65536) ≤ 65535 * 65535 := Nat.mul_le_mul (by omega) (by omega)
  generalize x / 65536 ^ i % 65536 * (t / 65536 ^ k % 65536) = z at *
  refine ⟨?_, by omega⟩
  rw [IntKind.wrap_u64]
  omega
theorem Pt.pc {w wr : World} {b x t i k : Nat} (h : Pt w wr b (acc x t i k)) : Pc w wr b (x / 65536 ^ i % 65536 * (t / 65536 ^ k % 65536)) (i + k) (acc x t i (k + 1)) := by
  obtain ⟨D, h1, h2, h3⟩ := h
  exact ⟨D, h1, by rw [h2, acc_k], h3⟩
theorem Pc.look {w wr : World} {b c m T : Nat} (h : Pc w wr b c m T) (hm : m < 8) : ∃ d : Nat, wr.cell? ⟨b, m, none⟩ = some (.int .u64 (d : Int)) ∧ wr.frozen? ⟨b, m, none⟩ = false ∧ d < 65536 ∧ (w.heap.size ≤ b → Pc w (wr.setCell ⟨b, m, none⟩ (.int .u64 (((c + d) % 65536 : Nat) : Int))) b ((c + d) / 65536) (m + 1) T) := by
  obtain ⟨D, h1, h2, h3⟩ := h
  refine ⟨D.getD m 0, h1.cell hm, froz_at h1.hb m, dok_at h1.ok m, fun hb => ⟨D.set m ((c + D.getD m 0) % 65536), h1.set m (Nat.mod_lt _ (by decide)), carry_step D c m T (by rw [h1.len]; exact hm) h2, h3.setCell (Or.inr hb) _⟩⟩
theorem Pc.fin {w wr : World} {b c m T : Nat} (h : Pc w wr b c m T) (hz : c = 0 ∨ 8 ≤ m) (hlt : T < 65536 ^ 8) : Pt w wr b T := by
  obtain ⟨D, h1, h2, h3⟩ := h
  exact ⟨D, h1, carry_end D c m T h2 hz hlt, h3⟩
theorem Pt.look {w wr : World} {b v : Nat} (h : Pt w wr b v) (f : Nat) (hf : f < 128) : ∃ d : Nat, wr.cell? ⟨b, f / 16, none⟩ = some (.int .u64 (d : Int)) ∧ d < 65536 ∧ d.testBit (f % 16) = v.testBit f := by
  obtain ⟨D, h1, h2, h3⟩ := h
  exact ⟨D.getD (f / 16) 0, h1.cell (by omega), dok_at h1.ok _, by rw [← h2, dval_bit D h1.ok]⟩
theorem bit_test (x k : Nat) : (((x : Int) / 2 ^ k).tmod 2 == 1) = x.testBit k := by
  have e2 : (x : Int) / 2 ^ k = ((x / 2 ^ k : Nat) : Int) := by simp
  rw [e2, Nat.testBit_eq_decide_div_mod_eq]
  generalize x / 2 ^ k = y
  rw [Int.tmod_eq_emod_of_nonneg (by omega)]
  by_cases h : y % 2 = 1
  · have h' : (y : Int) % 2 = 1 := by omega
    rw [h, h']; rfl
  · have h' : ¬ (y : Int) % 2 = 1 := by omega
    simp [h, h']
theorem or_step (v b n : Nat) (hn : n < 64) : bits .or .u64 ((bitsOf v b n : Nat) : Int) (IntKind.u64.wrap (2 ^ n)) = ((bitsOf v b n ||| 2 ^ n : Nat) : Int) := by
  have h1 : 2 ^ n < 2 ^ 64 := Nat.pow_lt_pow_right (by decide) hn
  have h2 := bitsOf_lt v b n
  have h3 : (2 : Nat) ^ 64 = 18446744073709551616 := by decide
  have e : IntKind.u64.wrap (2 ^ n) = ((2 ^ n : Nat) : Int) := by
    rw [IntKind.wrap_u64, show (2 : Int) ^ n = ((2 ^ n : Nat) : Int) by simp]
    omega
  rw [e]
  exact bits_or_u64_nat _ _ (by omega) (by omega)
set_option maxRecDepth 20000 in
theorem part_ (x t b : Nat) (hx : x < 18446744073709551616) (ht : t < 281474976710656) (hb : b ≤ 64) (w : World) :
    Calls Try.prog 27 #[.int .u64 x, .int .u64 t, .int .i64 (b : Int)] w fun e w' => e = .returned (.int .u64 (bitsOf (x * t) b 64 : Nat)) ∧ Touch [] w w' := by
  go_enter Try.func27, Try.ntmps27
  go_wp2
  obtain ⟨B, hB⟩ : ∃ B, B = w.heap.size := ⟨_, rfl⟩
  obtain ⟨W1, hW1⟩ : ∃ W1, W1 = w.alloc (.cells #[.int .u64 0, .int .u64 0, .int .u64 0, .int .u64 0, .int .u64 0, .int .u64 0, .int .u64 0, .int .u64 0] 80) := ⟨_, rfl⟩
  have P0 : Hid (Pt w W1 B (acc x t 0 0)) := hid ⟨[0, 0, 0, 0, 0, 0, 0, 0], ⟨by rw [hW1, hB]; exact heap_alloc_new w _, rfl, by intro d hd; simp at hd; omega⟩, by rw [acc_zero]; rfl, by rw [hW1]; exact (Touch.refl _ _).alloc _⟩
  have HB : Hid (w.heap.size ≤ B) := hid (by omega)
  rw [← hW1, ← hB]
  clear hW1 hB
  go_loopw [8] (fun s8 wr => ∃ i : Nat, s8 = .int .i64 (i : Int) ∧ i ≤ 4 ∧ Hid (Pt w wr B (acc x t i 0))) (fun s8 _ => 4 - (intOf s8).toNat)
  case atStart => exact ⟨0, rfl, by omega, P0⟩
  case round =>
    obtain ⟨i, rfl, hi, HP⟩ := hrel
    clear P0
    by_cases hlt : i < 4
    · go_wp2
      obtain ⟨wo, rfl⟩ : ∃ wo, wo = wr := ⟨_, rfl⟩
      go_loopw [9] (fun s9 wr => ∃ k : Nat, s9 = .int .i64 (k : Int) ∧ k ≤ 3 ∧ Hid (Pt w wr B (acc x t i k))) (fun s9 _ => 3 - (intOf s9).toNat)
      case atStart => exact ⟨0, rfl, by omega, HP⟩
      case round =>
        obtain ⟨k, rfl, hk, HK⟩ := hrel
        clear HP
        by_cases hlk : k < 3
        · obtain ⟨HC1, hc2⟩ := mul_cast x i t k
          have HC := hid HC1
          clear HC1
          have HT : Hid (acc x t i (k + 1) < 65536 ^ 8) := hid (acc_lt x t i (k + 1) (by rw [show (65536 : Nat) ^ 4 = 18446744073709551616 from by decide]; omega) (by rw [show (65536 : Nat) ^ 3 = 281474976710656 from by decide]; omega))
          have HQ := hid HK.out.pc
          obtain ⟨T, HTe⟩ : ∃ T, Hid (acc x t i (k + 1) = T) := ⟨_, rfl⟩
          rw [HTe.out] at HT HQ
          generalize x / 65536 ^ i % 65536 * (t / 65536 ^ k % 65536) = c0 at *
          go_wp2
          obtain ⟨wp, rfl⟩ : ∃ wp, wp = wr := ⟨_, rfl⟩
          go_loopw [12, 13] (fun s12 s13 wr => ∃ c m : Nat, s12 = .int .u64 (c : Int) ∧ s13 = .int .i64 (m : Int) ∧ c < 4294967296 ∧ m ≤ 8 ∧ Hid (Pc w wr B c m T)) (fun _ s13 _ => 8 - (intOf s13).toNat)
          case atStart => exact ⟨c0, i + k, congrArg _ HC.out, congrArg _ (Int.natCast_add i k).symm, hc2, by omega, HQ⟩
          case round =>
            obtain ⟨c, m, rfl, rfl, hc, hm, HR⟩ := hrel
            clear HC hc2 HQ HK
            by_cases hgo : 0 < c ∧ m < 8
            · obtain ⟨hc0, hm8⟩ := hgo
              obtain ⟨d, hcell, hfz, hd, HN0⟩ := HR.out.look hm8
              have HN := hid (HN0 HB.out)
              clear HN0 HR
              go_wp2
              refine ⟨⟨(c + d) / 65536, m + 1, congrArg _ (by omega), congrArg _ (by omega), by omega, by omega, ?_⟩, ?_⟩
              · rw [show ((c : Int) + d) % 65536 = (((c + d) % 65536 : Nat) : Int) by omega]
                exact HN
              · simp [intOf]; omega
            · have HF := hid (HR.out.fin (by omega) HT.out)
              rw [← HTe.out] at HF
              clear HR
              by_cases hc0 : 0 < c
              · have hm8 : ¬ m < 8 := by omega
                clear hgo
                go_wp2
                exact ⟨⟨k + 1, congrArg _ (by omega), by omega, HF⟩, by simp [intOf]; omega⟩
              · obtain rfl : c = 0 := by omega
                clear hgo
                go_wp2
                exact ⟨⟨k + 1, congrArg _ (by omega), by omega, HF⟩, by simp [intOf]; omega⟩
        · obtain rfl : k = 3 := by omega
          have HF : Hid (Pt w wr B (acc x t (i + 1) 0)) := by rw [← acc_i x t i (by rw [show (65536 : Nat) ^ 3 = 281474976710656 from by decide]; omega)]; exact HK
          clear HK
          go_wp2
          exact ⟨⟨i + 1, congrArg _ (by omega), by omega, HF⟩, by simp [intOf]; omega⟩
    · have HF : Hid (Pt w wr B (x * t)) := by rw [← acc_end x t (by rw [show (65536 : Nat) ^ 4 = 18446744073709551616 from by decide]; omega), ← show i = 4 by omega]; exact HP
      clear HP
      obtain ⟨v, Hv⟩ : ∃ v, Hid (x * t = v) := ⟨_, rfl⟩
      rw [Hv.out] at HF
      go_wp2
      obtain ⟨wo, rfl⟩ : ∃ wo, wo = wr := ⟨_, rfl⟩
      go_loopw [14, 15] (fun s14 s15 wr => ∃ n : Nat, s14 = .int .u64 (bitsOf v b n : Nat) ∧ s15 = .int .i64 (n : Int) ∧ n ≤ 64 ∧ Hid (Pt w wr B v)) (fun _ s15 _ => 64 - (intOf s15).toNat)
      case atStart => exact ⟨0, by rw [bitsOf_zero]; rfl, rfl, by omega, HF⟩
      case round =>
        obtain ⟨n, rfl, rfl, hn, HV⟩ := hrel
        by_cases hn64 : n < 64
        · obtain ⟨f, Hf⟩ : ∃ f : Nat, Hid (f = n + b) := ⟨_, rfl⟩
          have hf1 : f < 128 := by have := Hf.out; omega
          have hf2 : (n : Int) + b = (f : Int) := by have := Hf.out; omega
          obtain ⟨d, hcell, hd, Hbit⟩ := HV.out.look f hf1
          obtain ⟨q, hq⟩ : ∃ q : Nat, f / 16 = q := ⟨_, rfl⟩
          obtain ⟨r, hr⟩ : ∃ r : Nat, f % 16 = r := ⟨_, rfl⟩
          have hq2 : (f : Int) / 16 = (q : Int) := by omega
          have hr2 : (f : Int) % 16 = (r : Int) := by omega
          have hq3 : q < 8 := by omega
          have hr3 : r < 16 := by omega
          rw [hq] at hcell
          rw [hr] at Hbit
          clear hq hr
          have hbt := bit_test d r
          have hlo : Hid (bitsOf v b n < 2 ^ n) := hid (bitsOf_lt v b n)
          cases hc : d.testBit r with
          | true =>
            rw [hc] at hbt
            have nx := hid (bitsOf_yes v b n (by rw [← Hf.out, ← Hbit, hc]))
            clear hc Hbit
            go_wp2
            go_roundw
            case rel => exact ⟨n + 1, congrArg _ (by rw [← nx.out]; exact or_step v b n hn64), by go_num, by omega, HV⟩
            case measure => simp [intOf]; omega
          | false =>
            rw [hc] at hbt
            have nx := hid (bitsOf_no v b n (by rw [← Hf.out, ← Hbit, hc]))
            clear hc Hbit
            go_wp2
            go_roundw
            case rel => exact ⟨n + 1, by rw [← nx.out], by go_num, by omega, HV⟩
            case measure => simp [intOf]; omega
        · obtain rfl : n = 64 := by omega
          obtain ⟨_, _, _, HT⟩ := HV.out
          have HT := hid HT
          go_wp2
          go_ret
          exact ⟨by rw [Hv.out]; rfl, HT.out⟩
end Go.Proofs.Ytkodabhkhifggaa
