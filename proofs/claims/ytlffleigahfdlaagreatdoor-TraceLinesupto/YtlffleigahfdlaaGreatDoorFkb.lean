/- A key told as a text, by the program and by the document (layer 2's texts, laid anew); a key's space is a number of 16 bits. -/
import Derived.Test.YtlffleigahfdlaaGreatDoorFka
import Derived.Shelf.Strconv.Itoa4
namespace Go.Proofs.YtlffleigahfdlaaGreatDoor.Kt
open Go.RowKit Go.Sort Go.Shelf
set_option linter.unusedVariables false
set_option maxHeartbeats 1000000 in
theorem text10_of (a : Int) (s d : ByteArray) (w : World) (h : s.size ≤ 64) (h0 : 0 ≤ a) (h1 : a ≤ 65535) (hd : d.size ≤ 20)
    (hI : ∀ w', Gr w w' → Calls Tryz.prog 79 #[.int .i64 a] w' fun e w'' => e = .returned (.string d) ∧ Gr w' w'') :
    Calls Tryz.prog 80 #[.agg #[.int .u16 a, .string s]] w fun e w' => e = .returned (.tuple #[.string (d ++ ⟨#[58]⟩ ++ s), .int .i64 0]) ∧ Gr w w' := by
  have mixed : Tryz.prog.follows .mixedOrders = true := by kernel_rfl
  have hwr : IntKind.i64.wrap a = a := by rw [IntKind.wrap_i64]; omega
  have e1 : ∀ w, (Op.stringOp .add d ⟨#[58]⟩).run Tryz.prog w = .ok (.string (d ++ ⟨#[58]⟩)) w := fun w => run_string_add_sum w _ _ (by have : (ByteArray.mk #[58]).size = 1 := rfl; omega)
  have e2 : ∀ w, (Op.stringOp .add (d ++ ⟨#[58]⟩) s).run Tryz.prog w = .ok (.string (d ++ ⟨#[58]⟩ ++ s)) w := fun w => run_string_add_sum w _ _ (by rw [ByteArray.size_append]; have : (ByteArray.mk #[58]).size = 1 := rfl; omega)
  have HI : Hid _ := hI
  clear hI
  go_enter Tryz.func80, Tryz.ntmps80
  go_wp2_with (go_at_call 84; refine (check13_ok _ _ _ h).mono ?_; rintro e w1 ⟨rfl, hg⟩)
  have f0 : ∀ n os, (grow (w1.drewN n) os).cell? ⟨w.heap.size, 0, none⟩ = some (.int .u16 a) := fun n os => (hg.grow n os).cell (by simp) (by simp)
  have f1 : ∀ n os, (grow (w1.drewN n) os).cell? ⟨w.heap.size, 1, none⟩ = some (.string s) := fun n os => (hg.grow n os).cell (by simp) (by simp)
  have G : Hid (Gr w w1) := ((Gr.refl _).alloc _).trans hg
  clear hg
  go_quiet_grown (first | (go_at_call 79; refine Calls.grown_of (HI.out _ (G.out.grow _ _))))
  go_wp2
  go_ret2
  exact ⟨rfl, G.out.grow _ _⟩

theorem text10_no (a : Int) (s : ByteArray) (w : World) (h : 64 < s.size) :
    Calls Tryz.prog 80 #[.agg #[.int .u16 a, .string s]] w fun e w' => e = .returned (.tuple #[.string ⟨#[]⟩, .int .i64 20]) ∧ Gr w w' := by
  go_enter Tryz.func80, Tryz.ntmps80
  go_wp2_with (go_at_call 84; refine (check13_no _ _ _ h).mono ?_; rintro e w1 ⟨rfl, hg⟩)
  go_ret2
  exact ⟨rfl, ((Gr.refl _).alloc _).trans hg⟩

def itoaB (a : Int) : ByteArray := ⟨(Lib.itoa a).toArray⟩
theorem itoaB_size (a : Int) (h0 : 0 ≤ a) (h1 : a ≤ 65535) : (itoaB a).size ≤ 20 := by
  show (Lib.itoa a).toArray.size ≤ 20
  unfold Lib.itoa
  rw [if_neg (by omega), List.size_toArray, Lib.decDigits_length]
  have : ∀ n, ∀ u, u < 10 ^ (n + 1) → Lib.nDigits u ≤ n + 1 := by
    intro n
    induction n with
    | zero => intro u hu; rw [Lib.nDigits_small (by omega)]; omega
    | succ n ih =>
      intro u hu
      by_cases h : u < 10
      · rw [Lib.nDigits_small h]; omega
      · rw [Lib.nDigits_big h]
        have := ih (u / 10) (by rw [Nat.pow_succ] at hu; omega)
        omega
  have := this 4 a.toNat (by omega)
  omega
def byt (x : Int) : UInt8 := UInt8.ofNat x.toNat
theorem byt_toNat (x : Int) (h0 : 0 ≤ x) (h1 : x ≤ 255) : ((byt x).toNat : Int) = x := by
  unfold byt
  rw [UInt8.toNat_ofNat']
  omega

theorem conv1 (W : World) (b cap : Nat) (x : Int) (hx : 0 ≤ x ∧ x ≤ 255) (c0 : W.cell? ⟨b, 0, none⟩ = some (.int .u8 x)) :
    (convert 96 9 (.slice (some ⟨b, 0, none⟩) 1 cap)).run Tryz.prog W = .ok (.string ⟨#[byt x]⟩) W := by
  refine run_convert_bytes_back W 96 9 5 ⟨b, 0, none⟩ cap [byt x] Tryz.underlying96 Tryz.underlying5 Tryz.underlying9 fun j hj => ?_
  match j, hj with
  | 0, _ => simp only [List.getElem_cons_zero]; rw [byt_toNat x hx.1 hx.2]; exact c0
theorem dec_step (n : Nat) (h : ¬ n < 10) : Lib.decDigits n = Lib.decDigits (n / 10) ++ [byt (48 + (n : Int) % 10)] := by
  rw [Lib.decDigits, dif_neg h]
  unfold byt
  rw [show (48 + (n : Int) % 10).toNat = 48 + n % 10 by omega]
theorem dec_last (n : Nat) (h : n < 10) : Lib.decDigits n = [byt (48 + (n : Int))] := by
  rw [Lib.decDigits_one h]
  unfold byt
  rw [show (48 + (n : Int)).toNat = 48 + n by omega]

set_option maxHeartbeats 1000000 in
theorem digits34 (n : Nat) (h : n ≤ 65535) (w : World) :
    Calls Tryz.prog 85 #[.int .i64 n] w fun e w' => e = .returned (.string (itoaB n)) ∧ Gr w w' := by
  have HI : Hid (itoaB n = ⟨(Lib.decDigits n).toArray⟩) := by show itoaB n = _; unfold itoaB Lib.itoa; rw [if_neg (by omega)]; rfl
  have HZ : Hid ((Lib.decDigits n).length ≤ 20) := by
    have := itoaB_size n (by omega) (by omega)
    rw [HI.out] at this
    exact this
  generalize itoaB n = I at *
  go_enter Tryz.func85, Tryz.ntmps85
  go_wp2
  go_loopw [0, 3] (fun v t wr => ∃ (m : Nat) (y : ByteArray), v = .int .i64 m ∧ t = .string y ∧ m ≤ n ∧ Hid (Lib.decDigits n = Lib.decDigits m ++ y.data.toList) ∧ Gr w wr) (fun v _ _ => (intOf v).toNat)
  case atStart => exact ⟨n, ⟨#[]⟩, rfl, rfl, Nat.le_refl _, by show _ = _; simp, Gr.refl _⟩
  case round =>
    obtain ⟨m, y, rfl, rfl, hm, HD, G⟩ := hrel
    have hy : y.size ≤ 20 := by
      have h1 := congrArg List.length HD.out
      rw [List.length_append] at h1
      have h2 : y.size = y.data.toList.length := rfl
      have := HZ.out
      omega
    by_cases h10 : m < 10
    · have HE : Hid (Lib.decDigits n = byt (48 + (m : Int)) :: y.data.toList) := by show _ = _; rw [HD.out, dec_last m h10]; rfl
      have hcv := conv1 (wr.alloc (.cells #[.int .u8 (48 + (m : Int))] 5)) wr.heap.size 1 (48 + (m : Int)) (by omega) (by simp)
      have had : ∀ w, (Op.stringOp .add ⟨#[byt (48 + (m : Int))]⟩ y).run Tryz.prog w = .ok (.string (⟨#[byt (48 + (m : Int))]⟩ ++ y)) w := fun w => run_string_add_sum w _ _ (by have : (ByteArray.mk #[byt (48 + (m : Int))]).size = 1 := rfl; omega)
      have hw : (48 + (m : Int)) % 256 = 48 + (m : Int) := by omega
      have hz : ¬ (10 : Int) ≤ (m : Int) := by omega
      clear hy
      go_wp2
      go_ret
      exact ⟨by rw [HI.out, HE.out]; congr 2, G.alloc _⟩
    · have HE : Hid (Lib.decDigits n = Lib.decDigits (m / 10) ++ (⟨#[byt (48 + (m : Int) % 10)]⟩ ++ y : ByteArray).data.toList) := by show _ = _; rw [HD.out, dec_step m h10, List.append_assoc, ByteArray.data_append]; simp
      have hcv := conv1 (wr.alloc (.cells #[.int .u8 (48 + (m : Int) % 10)] 5)) wr.heap.size 1 (48 + (m : Int) % 10) (by omega) (by simp)
      have had : ∀ w, (Op.stringOp .add ⟨#[byt (48 + (m : Int) % 10)]⟩ y).run Tryz.prog w = .ok (.string (⟨#[byt (48 + (m : Int) % 10)]⟩ ++ y)) w := fun w => run_string_add_sum w _ _ (by have : (ByteArray.mk #[byt (48 + (m : Int) % 10)]).size = 1 := rfl; omega)
      have hw : (48 + (m : Int) % 10) % 256 = 48 + (m : Int) % 10 := by omega
      have hz : (10 : Int) ≤ (m : Int) := by omega
      clear hy
      go_wp2
      go_roundw
      case rel => exact ⟨m / 10, _, by go_num, rfl, by omega, HE, G.alloc _⟩
      case measure => simp [intOf]; omega

set_option maxHeartbeats 1000000 in
theorem ref11_ok (a : Nat) (s : ByteArray) (w : World) (h : s.size ≤ 64) (h1 : a ≤ 65535) :
    Calls Tryz.prog 51 #[.agg #[.int .u16 a, .string s]] w fun e w' => e = .returned (.tuple #[.string (itoaB a ++ ⟨#[58]⟩ ++ s), .bool true]) ∧ Gr w w' := by
  have mixed : Tryz.prog.follows .mixedOrders = true := by kernel_rfl
  have hd := itoaB_size a (by omega) (by omega)
  have hwr : IntKind.i64.wrap (a : Int) = a := by rw [IntKind.wrap_i64]; omega
  have A1 : Hid _ := fun w => digits34 a h1 w
  generalize itoaB a = d at *
  have e1 : ∀ w, (Op.stringOp .add d ⟨#[58]⟩).run Tryz.prog w = .ok (.string (d ++ ⟨#[58]⟩)) w := fun w => run_string_add_sum w _ _ (by have : (ByteArray.mk #[58]).size = 1 := rfl; omega)
  have e2 : ∀ w, (Op.stringOp .add (d ++ ⟨#[58]⟩) s).run Tryz.prog w = .ok (.string (d ++ ⟨#[58]⟩ ++ s)) w := fun w => run_string_add_sum w _ _ (by rw [ByteArray.size_append]; have : (ByteArray.mk #[58]).size = 1 := rfl; omega)
  go_enter Tryz.func51, Tryz.ntmps51
  go_wp2_with fail
  obtain ⟨V, hV⟩ : ∃ V, V = w.alloc (.cells #[.int .u16 a, .string s] 36) := ⟨_, rfl⟩
  have GV : Hid (Gr w V) := by rw [hV]; exact (Gr.refl _).alloc _
  have v0 : ∀ n os, (grow (V.drewN n) os).cell? ⟨w.heap.size, 0, none⟩ = some (.int .u16 a) := fun n os => (gr_grow V n os).cell (by rw [hV]; simp) (by rw [hV]; simp)
  have v1 : ∀ n os, (grow (V.drewN n) os).cell? ⟨w.heap.size, 1, none⟩ = some (.string s) := fun n os => (gr_grow V n os).cell (by rw [hV]; simp) (by rw [hV]; simp)
  rw [← hV]
  clear hV
  go_quiet_grown (first | (go_at_call 85; refine Calls.grown_of (A1.out _)))
  go_wp2
  go_ret2
  exact ⟨rfl, GV.out.grow _ _⟩
theorem ref11_no (a : Int) (s : ByteArray) (w : World) (h : 64 < s.size) :
    Calls Tryz.prog 51 #[.agg #[.int .u16 a, .string s]] w fun e w' => e = .returned (.tuple #[.string ⟨#[]⟩, .bool false]) ∧ Gr w w' := by
  have h' : (64 : Int) < (s.size : Int) := by omega
  go_enter Tryz.func51, Tryz.ntmps51
  go_wp2
  go_ret2
  exact ⟨rfl, (Gr.refl _).alloc _⟩
end Go.Proofs.YtlffleigahfdlaaGreatDoor.Kt
