/- A key is read back from its text and its bytes: the plain facts, and the contracts at those texts; a key's space is a number of 16 bits, its name has 64 bytes or less. -/
import Derived.Test.YtbaljfkjgfkdiaaDoorPrs
import Derived.Test.YtbaljfkjgfkdiaaDoorPar
namespace Go.Proofs.YtbaljfkjgfkdiaaDoor
open Go.RowKit Go.Sort
set_option linter.unusedVariables false

theorem scan_dec (n : Nat) : ∀ (r : List UInt8), n ≤ 65535 → scan (Lib.decDigits n ++ r) 0 0 = scan r (Lib.decDigits n).length n ∧ 1 ≤ (Lib.decDigits n).length := by
  induction n using Nat.strongRecOn with
  | _ n ih =>
    intro r h
    by_cases h10 : n < 10
    · rw [Lib.decDigits_one h10]
      have e : (UInt8.ofNat (48 + n)).toNat = 48 + n := by rw [UInt8.toNat_ofNat']; omega
      refine ⟨?_, by simp⟩
      simp only [List.singleton_append, scan, e]
      rw [if_pos (by simp [okAt]; omega)]
      simp
    · obtain ⟨h1, h2⟩ := ih (n / 10) (by omega) (UInt8.ofNat (48 + n % 10) :: r) (by omega)
      rw [Lib.decDigits, dif_neg h10, List.append_assoc, List.singleton_append]
      have e : (UInt8.ofNat (48 + n % 10)).toNat = 48 + n % 10 := by rw [UInt8.toNat_ofNat']; omega
      refine ⟨?_, by simp⟩
      rw [h1, scan, e, if_pos (by simp [okAt]; omega)]
      rw [show n / 10 * 10 + (48 + n % 10 - 48) = n by omega]
      simp
theorem at_split (T : ByteArray) (l r : List UInt8) (x : UInt8) (h : T.data.toList = l ++ x :: r) (i : Nat) (hi : i = l.length) (hlt : i < T.size) : T[i] = x := by
  subst hi
  have e : T[l.length] = T.data.toList[l.length]'(by rw [h]; simp) := rfl
  rw [e]
  simp only [h]
  simp
theorem cut_split (T s : ByteArray) (l r : List UInt8) (h : T.data.toList = l ++ (s.data.toList ++ r)) (i j : Nat) (hi : i = l.length) (hj : j = l.length + s.size) : T.extract i j = s := by
  apply ByteArray.ext
  apply Array.toList_inj.1
  rw [Lib.extract_data, h, hi, hj, List.drop_left, Nat.add_sub_cancel_left]
  exact List.take_left

def textB (a : Nat) (s : ByteArray) : ByteArray := itoaB a ++ ⟨#[58]⟩ ++ s
theorem textB_list (a : Nat) (s : ByteArray) : (textB a s).data.toList = Lib.decDigits a ++ 58 :: s.data.toList := by
  have e : itoaB a = ⟨(Lib.decDigits a).toArray⟩ := by unfold itoaB Lib.itoa; rw [if_neg (by omega)]; rfl
  unfold textB
  rw [e]
  simp [ByteArray.data_append]
theorem parse_text (a : Nat) (s : ByteArray) (w : World) (h1 : a ≤ 65535) (h : s.size ≤ 64) :
    Calls Tryd.prog 14 #[.string (textB a s)] w fun e w' => e = .returned (.tuple #[.agg #[.int .u16 a, .string s], .int .i64 0, .int .i64 0]) ∧ Below w.heap.size w w' := by
  have hl := textB_list a s
  obtain ⟨d1, d2⟩ := scan_dec a (58 :: s.data.toList) h1
  have hd : (Lib.decDigits a).length ≤ 20 := by
    have := itoaB_size a (by omega) (by omega)
    have e : itoaB a = ⟨(Lib.decDigits a).toArray⟩ := by unfold itoaB Lib.itoa; rw [if_neg (by omega)]; rfl
    rw [e] at this
    exact this
  have hz : (textB a s).size = (Lib.decDigits a).length + 1 + s.size := by
    have e1 : (textB a s).size = (textB a s).data.toList.length := rfl
    have e2 : s.size = s.data.toList.length := rfl
    rw [e1, hl, List.length_append, List.length_cons, e2]
    omega
  have hsc : scan (textB a s).data.toList 0 0 = (a, (Lib.decDigits a).length) := by
    rw [hl, d1, scan, if_neg (by simp [okAt])]
  generalize textB a s = T at *
  have hlt : (Lib.decDigits a).length < T.size := by omega
  have hx := cut_split T s (Lib.decDigits a ++ [58]) [] (by rw [hl]; simp) ((Lib.decDigits a).length + 1) T.size (by simp) (by rw [hz]; simp)
  have h58 := at_split T _ _ _ hl _ rfl hlt
  have P := parse14_ok T w (by omega) a _ hsc (by omega) hlt (by rw [h58]; rfl) (by omega)
  rw [hx] at P
  exact P
def zBytes (a : Int) (s : ByteArray) : ByteArray := ⟨#[122]⟩ ++ (hd3 a s ++ s)
theorem take_bytes (a : Nat) (s : ByteArray) (w : World) (h1 : a ≤ 65535) (h : s.size ≤ 64) :
    Calls Tryd.prog 18 #[.string (zBytes a s), .int .i64 1] w fun e w' => e = .returned (.tuple #[.agg #[.int .u16 a, .string s], .int .i64 ((s.size : Int) + 4), .bool true]) ∧ Below w.heap.size w w' := by
  have hl : (zBytes a s).data.toList = 122 :: byt ((a : Int) % 256) :: byt ((a : Int) / 256) :: byt ((s.size : Int) % 256) :: s.data.toList := by
    unfold zBytes hd3
    simp [ByteArray.data_append]
  have hz : (zBytes a s).size = 4 + s.size := by
    have e1 : (zBytes a s).size = (zBytes a s).data.toList.length := rfl
    have e2 : s.size = s.data.toList.length := rfl
    rw [e1, hl, e2]
    simp only [List.length_cons]
    omega
  generalize zBytes a s = T at *
  have t1 := at_split T [122] _ _ hl 1 rfl (by omega)
  have t2 := at_split T [122, byt ((a : Int) % 256)] _ _ hl 2 rfl (by omega)
  have t3 := at_split T [122, byt ((a : Int) % 256), byt ((a : Int) / 256)] _ _ hl 3 rfl (by omega)
  have hx := cut_split T s [122, byt ((a : Int) % 256), byt ((a : Int) / 256), byt ((s.size : Int) % 256)] [] (by rw [hl]; simp) (1 + 3) (1 + 3 + s.size) rfl rfl
  have b1 := byt_toNat ((a : Int) % 256) (by omega) (by omega)
  have b2 := byt_toNat ((a : Int) / 256) (by omega) (by omega)
  have b3 := byt_toNat ((s.size : Int) % 256) (by omega) (by omega)
  have P := take18_ok T 1 s.size w (by omega) (by omega) (by rw [show T[1 + 2]'(by omega) = T[3]'(by omega) from rfl, t3]; omega) (a % 256) (a / 256) (by rw [t1]; omega) (by rw [show T[1 + 1]'(by omega) = T[2]'(by omega) from rfl, t2]; omega) h (by omega)
  rw [hx, show (((a % 256 : Nat) : Int) + 256 * ((a / 256 : Nat) : Int)) = (a : Int) by omega, show (((1 : Nat) : Int) + 3 + ((s.size : Nat) : Int)) = (s.size : Int) + 4 by omega] at P
  exact P
theorem partN_half (h n : Nat) : partN h (2 * n) / 2 = partN h n := by
  unfold partN
  rw [Nat.mul_left_comm]
  generalize h / 4294967296 * n = B
  omega
end Go.Proofs.YtbaljfkjgfkdiaaDoor
