/- The library's Len64 answers how many bits a number of 64 bits has; the world stays as it was. -/
import Derived.Test.YtglbkhomjfmlmaaPow
import Derived.Test.YtglbkhomjfmlmaaAge
import Derived.Lib.BitFns
namespace Go.Proofs.Ytglbkhomjfmlmaa
open Go.ChangeShapes Go.WideShapes Go.ChangeAt Go.RowKit

theorem tab_get (y : Int) (h0 : 0 ≤ y) (h1 : y ≤ 255) (h : y.toNat < Lib.len8tab.size) : ((Lib.len8tab[y.toNat]'h).toNat : Int) = (Lib.bitLen y.toNat : Int) := by
  rw [← Lib.len8_of y h0 h1]
  unfold Lib.len8
  rw [getElem?_pos Lib.len8tab y.toNat h]
  rfl
theorem len_way (k : Nat) (x y : Int) (hk : k ≤ 56) (y0 : 0 ≤ y) (y1 : y ≤ 255) (b : Lib.bitLen x.toNat = k + Lib.bitLen y.toNat) (h : y.toNat < Lib.len8tab.size) :
    wrap64 ((k : Int) + wrap64 ((Lib.len8tab[y.toNat]'h).toNat : Int)) = (Lib.bitLen x.toNat : Int) := by
  rw [tab_get y y0 y1 h]
  have l := Lib.bitLen_le8' y y0 y1
  rw [b]
  generalize Lib.bitLen y.toNat = m at *
  unfold wrap64
  omega
theorem len_way0 (y : Int) (y0 : 0 ≤ y) (y1 : y ≤ 255) (h : y.toNat < Lib.len8tab.size) :
    wrap64 (wrap64 ((Lib.len8tab[y.toNat]'h).toNat : Int)) = (Lib.bitLen y.toNat : Int) := by
  rw [tab_get y y0 y1 h]
  have l := Lib.bitLen_le8' y y0 y1
  generalize Lib.bitLen y.toNat = m at *
  unfold wrap64
  omega
theorem sh56 (x : Int) (h0 : 0 ≤ x) (h1 : x ≤ 18446744073709551615) (h : 256 ≤ x / 4294967296 / 65536) : Lib.bitLen x.toNat = 56 + Lib.bitLen (x / 4294967296 / 65536 / 256).toNat := by
  rw [show (x / 4294967296 / 65536 / 256).toNat = x.toNat / 72057594037927936 by omega]; exact Lib.bitLen_shift56 x.toNat (by omega) (by omega)
theorem sh48 (x : Int) (h0 : 0 ≤ x) (h1 : x ≤ 18446744073709551615) (h : 65536 ≤ x / 4294967296) : Lib.bitLen x.toNat = 48 + Lib.bitLen (x / 4294967296 / 65536).toNat := by
  rw [show (x / 4294967296 / 65536).toNat = x.toNat / 281474976710656 by omega]; exact Lib.bitLen_shift48 x.toNat (by omega) (by omega)
theorem sh40 (x : Int) (h0 : 0 ≤ x) (h1 : x ≤ 18446744073709551615) (h : 256 ≤ x / 4294967296) : Lib.bitLen x.toNat = 40 + Lib.bitLen (x / 4294967296 / 256).toNat := by
  rw [show (x / 4294967296 / 256).toNat = x.toNat / 1099511627776 by omega]; exact Lib.bitLen_shift40 x.toNat (by omega) (by omega)
theorem sh32 (x : Int) (h0 : 0 ≤ x) (h1 : x ≤ 18446744073709551615) (h : 4294967296 ≤ x) : Lib.bitLen x.toNat = 32 + Lib.bitLen (x / 4294967296).toNat := by
  rw [show (x / 4294967296).toNat = x.toNat / 4294967296 by omega]; exact Lib.bitLen_shift32 x.toNat (by omega) (by omega)
theorem sh24 (x : Int) (h0 : 0 ≤ x) (h1 : x ≤ 18446744073709551615) (h : 256 ≤ x / 65536) : Lib.bitLen x.toNat = 24 + Lib.bitLen (x / 65536 / 256).toNat := by
  rw [show (x / 65536 / 256).toNat = x.toNat / 16777216 by omega]; exact Lib.bitLen_shift24 x.toNat (by omega) (by omega)
theorem sh16 (x : Int) (h0 : 0 ≤ x) (h1 : x ≤ 18446744073709551615) (h : 65536 ≤ x) : Lib.bitLen x.toNat = 16 + Lib.bitLen (x / 65536).toNat := by
  rw [show (x / 65536).toNat = x.toNat / 65536 by omega]; exact Lib.bitLen_shift16 x.toNat (by omega) (by omega)
theorem sh8 (x : Int) (h0 : 0 ≤ x) (h1 : x ≤ 18446744073709551615) (h : 256 ≤ x) : Lib.bitLen x.toNat = 8 + Lib.bitLen (x / 256).toNat := by
  rw [show (x / 256).toNat = x.toNat / 256 by omega]; exact Lib.bitLen_shift8 x.toNat (by omega) (by omega)

set_option maxRecDepth 100000 in
theorem len39 (x : Int) (w : World) (h0 : 0 ≤ x) (h1 : x ≤ 18446744073709551615) :
    Calls Try.prog 39 #[.int .u64 x] w fun e w' => e = .returned (.int .i64 (Lib.bitLen x.toNat)) ∧ w' = w := by
  have hs : (Lib.len8tab.size : Int) = 256 := by rw [Lib.len8tab_size]; rfl
  go_enter Try.func39, Try.ntmps39
  go_wp2
  all_goals (go_ret; refine ⟨congrArg Ending.returned (congrArg (Value.int IntKind.i64) ?_), rfl⟩)
  · exact len_way 56 x _ (by omega) (by omega) (by omega) (sh56 x h0 h1 ‹_›) _
  · exact len_way 48 x _ (by omega) (by omega) (by omega) (sh48 x h0 h1 ‹_›) _
  · exact len_way 40 x _ (by omega) (by omega) (by omega) (sh40 x h0 h1 ‹_›) _
  · exact len_way 32 x _ (by omega) (by omega) (by omega) (sh32 x h0 h1 ‹_›) _
  · exact len_way 24 x _ (by omega) (by omega) (by omega) (sh24 x h0 h1 ‹_›) _
  · exact len_way 16 x _ (by omega) (by omega) (by omega) (sh16 x h0 h1 ‹_›) _
  · exact len_way 8 x _ (by omega) (by omega) (by omega) (sh8 x h0 h1 ‹_›) _
  · exact len_way0 x (by omega) (by omega) _
end Go.Proofs.Ytglbkhomjfmlmaa
