/- The contracts of the document's digits and texts of keys, by the library's own numeral; a key's space is a number of 16 bits. -/
import Derived.Test.YtbaljfkjgfkdiaaDoorByt
namespace Go.Proofs.YtbaljfkjgfkdiaaDoor
open Go.RowKit Go.Sort
set_option linter.unusedVariables false

theorem conv1 (W : World) (b cap : Nat) (x : Int) (hx : 0 ≤ x ∧ x ≤ 255) (c0 : W.cell? ⟨b, 0, none⟩ = some (.int .u8 x)) :
    (convert 71 9 (.slice (some ⟨b, 0, none⟩) 1 cap)).run Tryd.prog W = .ok (.string ⟨#[byt x]⟩) W := by
  refine run_convert_bytes_back W 71 9 5 ⟨b, 0, none⟩ cap [byt x] Tryd.underlying71 Tryd.underlying5 Tryd.underlying9 fun j hj => ?_
  match j, hj with
  | 0, _ => simp only [List.getElem_cons_zero]; rw [byt_toNat x hx.1 hx.2]; exact c0
theorem dec_step (n : Nat) (h : ¬ n < 10) : Lib.decDigits n = Lib.decDigits (n / 10) ++ [byt (48 + (n : Int) % 10)] := by
  rw [Lib.decDigits, dif_neg h]
  unfold byt
  rw [show (48 + (n : Int) % 10).toNat = 48 + n % 10 by omega]
theorem dec_last (n : Nat) (h : n < 10) : Lib.decDigits n = [byt (48 + (n : Int))] := by
  rw [Lib.decDigits_one h]
  unfold byt
  rw [show (48 + (n : Int)).toNat = 48 + n by omega]

set_option maxHeartbeats 1000000 in
theorem digits34 (n : Nat) (h : n ≤ 65535) (w : World) :
    Calls Tryd.prog 34 #[.int .i64 n] w fun e w' => e = .returned (.string (itoaB n)) ∧ Gr w w' := by
  have HI : Hid (itoaB n = ⟨(Lib.decDigits n).toArray⟩) := by show itoaB n = _; unfold itoaB Lib.itoa; rw [if_neg (by omega)]; rfl
  have HZ : Hid ((Lib.decDigits n).length ≤ 20) := by
    have := itoaB_size n (by omega) (by omega)
    rw [HI.out] at this
    exact this
  generalize itoaB n = I at *
  go_enter Tryd.func34, Tryd.ntmps34
  go_wp2
  go_loopw [0, 3] (fun v t wr => ∃ (m : Nat) (y : ByteArray), v = .int .i64 m ∧ t = .string y ∧ m ≤ n ∧ Hid (Lib.decDigits n = Lib.decDigits m ++ y.data.toList) ∧ Gr w wr) (fun v _ _ => (intOf v).toNat)
  case atStart => exact ⟨n, ⟨#[]⟩, rfl, rfl, Nat.le_refl _, by show _ = _; simp, Gr.refl _⟩
  case round =>
    obtain ⟨m, y, rfl, rfl, hm, HD, G⟩ := hrel
    have hy : y.size ≤ 20 := by
      have h1 := congrArg List.length HD.out
      rw [List.length_append] at h1
      have h2 : y.size = y.data.toList.length := rfl
      have := HZ.out
      omega
    by_cases h10 : m < 10
    · have HE : Hid (Lib.decDigits n = byt (48 + (m : Int)) :: y.data.toList) := by show _ = _; rw [HD.out, dec_last m h10]; rfl
      have hcv := conv1 (wr.alloc (.cells #[.int .u8 (48 + (m : Int))] 5)) wr.heap.size 1 (48 + (m : Int)) (by omega) (by simp)
      have had : ∀ w, (Op.stringOp .add ⟨#[byt (48 + (m : Int))]⟩ y).run Tryd.prog w = .ok (.string (⟨#[byt (48 + (m : Int))]⟩ ++ y)) w := fun w => run_string_add_sum w _ _ (by have : (ByteArray.mk #[byt (48 + (m : Int))]).size = 1 := rfl; omega)
      have hw : (48 + (m : Int)) % 256 = 48 + (m : Int) := by omega
      have hz : ¬ (10 : Int) ≤ (m : Int) := by omega
      clear hy
      go_wp2
      go_ret
      exact ⟨by rw [HI.out, HE.out]; congr 2, G.alloc _⟩
    · have HE : Hid (Lib.decDigits n = Lib.decDigits (m / 10) ++ (⟨#[byt (48 + (m : Int) % 10)]⟩ ++ y : ByteArray).data.toList) := by show _ = _; rw [HD.out, dec_step m h10, List.append_assoc, ByteArray.data_append]; simp
      have hcv := conv1 (wr.alloc (.cells #[.int .u8 (48 + (m : Int) % 10)] 5)) wr.heap.size 1 (48 + (m : Int) % 10) (by omega) (by simp)
      have had : ∀ w, (Op.stringOp .add ⟨#[byt (48 + (m : Int) % 10)]⟩ y).run Tryd.prog w = .ok (.string (⟨#[byt (48 + (m : Int) % 10)]⟩ ++ y)) w := fun w => run_string_add_sum w _ _ (by have : (ByteArray.mk #[byt (48 + (m : Int) % 10)]).size = 1 := rfl; omega)
      have hw : (48 + (m : Int) % 10) % 256 = 48 + (m : Int) % 10 := by omega
      have hz : (10 : Int) ≤ (m : Int) := by omega
      clear hy
      go_wp2
      go_roundw
      case rel => exact ⟨m / 10, _, by go_num, rfl, by omega, HE, G.alloc _⟩
      case measure => simp [intOf]; omega

set_option maxHeartbeats 1000000 in
theorem ref11_ok (a : Nat) (s : ByteArray) (w : World) (h : s.size ≤ 64) (h1 : a ≤ 65535) :
    Calls Tryd.prog 11 #[.agg #[.int .u16 a, .string s]] w fun e w' => e = .returned (.tuple #[.string (itoaB a ++ ⟨#[58]⟩ ++ s), .bool true]) ∧ Gr w w' := by
  have mixed : Tryd.prog.follows .mixedOrders = true := by kernel_rfl
  have hd := itoaB_size a (by omega) (by omega)
  have hwr : IntKind.i64.wrap (a : Int) = a := by rw [IntKind.wrap_i64]; omega
  have A1 : Hid _ := fun w => digits34 a h1 w
  generalize itoaB a = d at *
  have e1 : ∀ w, (Op.stringOp .add d ⟨#[58]⟩).run Tryd.prog w = .ok (.string (d ++ ⟨#[58]⟩)) w := fun w => run_string_add_sum w _ _ (by have : (ByteArray.mk #[58]).size = 1 := rfl; omega)
  have e2 : ∀ w, (Op.stringOp .add (d ++ ⟨#[58]⟩) s).run Tryd.prog w = .ok (.string (d ++ ⟨#[58]⟩ ++ s)) w := fun w => run_string_add_sum w _ _ (by rw [ByteArray.size_append]; have : (ByteArray.mk #[58]).size = 1 := rfl; omega)
  go_enter Tryd.func11, Tryd.ntmps11
  go_wp2_with fail
  obtain ⟨V, hV⟩ : ∃ V, V = w.alloc (.cells #[.int .u16 a, .string s] 31) := ⟨_, rfl⟩
  have GV : Hid (Gr w V) := by rw [hV]; exact (Gr.refl _).alloc _
  have v0 : ∀ n os, (grow (V.drewN n) os).cell? ⟨w.heap.size, 0, none⟩ = some (.int .u16 a) := fun n os => (gr_grow V n os).cell (by rw [hV]; simp) (by rw [hV]; simp)
  have v1 : ∀ n os, (grow (V.drewN n) os).cell? ⟨w.heap.size, 1, none⟩ = some (.string s) := fun n os => (gr_grow V n os).cell (by rw [hV]; simp) (by rw [hV]; simp)
  rw [← hV]
  clear hV
  go_quiet_grown (first | (go_at_call 34; refine Calls.grown_of (A1.out _)))
  go_wp2
  go_ret2
  exact ⟨rfl, GV.out.grow _ _⟩
theorem ref11_no (a : Int) (s : ByteArray) (w : World) (h : 64 < s.size) :
    Calls Tryd.prog 11 #[.agg #[.int .u16 a, .string s]] w fun e w' => e = .returned (.tuple #[.string ⟨#[]⟩, .bool false]) ∧ Gr w w' := by
  have h' : (64 : Int) < (s.size : Int) := by omega
  go_enter Tryd.func11, Tryd.ntmps11
  go_wp2
  go_ret2
  exact ⟨rfl, (Gr.refl _).alloc _⟩
end Go.Proofs.YtbaljfkjgfkdiaaDoor
