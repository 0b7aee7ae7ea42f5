/- The contracts of Number, the program's and the document's: a number's bytes; the number is of 64 bits. -/
import Derived.Test.YtpefbmheblfbeaaUsg
import Derived.Laws.IdiomStrings
import Derived.Lib.UnsafeStr
namespace Go.Proofs.Ytpefbmheblfbeaa.Sn
open Go.RowKit Go.Sort
set_option linter.unusedVariables false
set_option maxRecDepth 20000

theorem numL_len (n : Nat) : ∀ x, x < 128 ^ (n + 1) → (numL x).length ≤ n + 1 := by
  induction n with
  | zero => intro x hx; rw [numL_end (by omega)]; simp
  | succ n ih =>
    intro x hx
    by_cases h : 128 ≤ x
    · rw [numL_go h, List.length_cons]
      have := ih (x / 128) (by rw [Nat.div_lt_iff_lt_mul (by omega)]; rw [Nat.pow_succ] at hx; exact hx)
      omega
    · rw [numL_end h]; simp
theorem numL_10 {x : Nat} (h : x < 18446744073709551616) : (numL x).length ≤ 10 := numL_len 9 x (by omega)
theorem infoB : (Try.prog.info? 5).map (fun i => (i.zero, i.size, i.bytes)) = some (some (.int .u8 0), 1, 1) := by kernel_rfl
theorem own_addr {w : World} {base e k n c : Nat} {a : Option Addr} {xs : List Value} (h : w.ownsRow base e k (.slice a n c) n xs) (hn : 0 < n) : ∃ g, a = some ⟨g, 0, none⟩ := by
  rcases h with ⟨h1, ⟨e1, e2⟩ | ⟨g, cap, cur, e, _⟩⟩
  · omega
  · cases e; exact ⟨g, rfl⟩
theorem conv_own {w : World} {base n c : Nat} {a : Option Addr} {l : List UInt8} (h : w.ownsRow base 5 1 (.slice a n c) n (Lib.byteCells l)) (hn : 0 < n) : (convert 31 9 (.slice a n c)).run Try.prog w = .ok (.string ⟨l.toArray⟩) w := by
  obtain ⟨g, rfl⟩ := own_addr h hn
  have hl : l.length = n := by have := h.1; rw [Lib.byteCells_length] at this; omega
  subst hl
  refine run_convert_bytes_back w 31 9 5 ⟨g, 0, none⟩ c l Try.underlying31 Try.underlying5 Try.underlying9 fun j hj => ?_
  rw [show (⟨g, 0, none⟩ : Addr).add j = ⟨g, j, none⟩ by simp [Addr.add]; exact fun h => h.symm]
  exact own_cell h (by unfold Lib.byteCells; rw [List.getElem?_map, List.getElem?_eq_getElem hj]; rfl)
theorem or128 (y : Nat) : bits .or .u8 ((y : Int) % 256) 128 = ((UInt8.ofNat (y % 128 + 128)).toNat : Int) := by
  have h0 : (y : Int) % 256 = ((y % 256 : Nat) : Int) := by omega
  have h1 : (BitVec.ofInt 8 ((y % 256 : Nat) : Int)).toNat = y % 256 := by
    rw [BitVec.ofInt_natCast, BitVec.toNat_ofNat]; exact Nat.mod_eq_of_lt (by omega)
  have h2 : (BitVec.ofInt 8 128).toNat = 128 := by decide
  have key : ∀ z : Fin 256, z.val ||| 128 = z.val % 128 + 128 := by decide +kernel
  have h3 : (y % 256) ||| 128 = y % 128 + 128 := by
    have := key ⟨y % 256, by omega⟩
    simp only at this
    rw [this]; omega
  rw [h0]
  show IntKind.u8.wrap ((BitVec.ofInt 8 ((y % 256 : Nat) : Int) ||| BitVec.ofInt 8 128).toNat : Int) = _
  rw [BitVec.toNat_or, h1, h2, h3, IntKind.wrap_u8, UInt8.toNat_ofNat']
  omega
theorem bytes_snoc (l : List UInt8) (b : UInt8) : Lib.byteCells (l ++ [b]) = Lib.byteCells l ++ [.int .u8 (b.toNat : Int)] := by rw [Lib.byteCells_append]; rfl
theorem ofNat_toNat {y : Nat} (h : y < 256) : ((UInt8.ofNat y).toNat : Int) = (y : Int) := by rw [UInt8.toNat_ofNat']; omega
structure NuI (w : World) (x : Nat) (y : Nat) (l : List UInt8) (v : Value) (wr : World) : Prop where
  lt : y < 18446744073709551616
  eq : l ++ numL y = numL x
  t : Touch [] w wr
  o : wr.ownsRow w.heap.size 5 1 v l.length (Lib.byteCells l)
theorem NuI.len {w : World} {x y : Nat} {l : List UInt8} {v : Value} {wr : World} (h : NuI w x y l v wr) (hx : x < 18446744073709551616) : l.length < 10 := by
  have h1 := numL_10 hx
  rw [← h.eq, List.length_append] at h1
  have : 0 < (numL y).length := by
    by_cases h : 128 ≤ y
    · rw [numL_go h]; simp
    · rw [numL_end h]; simp
  omega
set_option maxHeartbeats 1000000 in
theorem number_ (w : World) (x : Nat) (hx : x < 18446744073709551616) : Calls Try.prog 7 #[.int .u64 x] w fun e w' => e = .returned (.string ⟨(numL x).toArray⟩) ∧ Touch [] w w' := by
  have HX := hid hx
  have H0 : Hid (NuI w x x [] (.slice none 0 0) w) := hid ⟨hx, rfl, Touch.refl _ _, ⟨rfl, Or.inl ⟨rfl, rfl⟩⟩⟩
  clear hx
  go_enter Try.func7, Try.ntmps7
  go_wp2
  go_loopw [0, 3] (fun s0 s3 wr => ∃ (y : Nat) (l : List UInt8) (b : Option Addr) (cp : Nat), s0 = .int .u64 y ∧ s3 = .slice b l.length cp ∧ Hid (NuI w x y l (.slice b l.length cp) wr)) (fun s0 _ _ => (intOf s0).toNat)
  case atStart => exact ⟨x, [], none, 0, rfl, rfl, H0⟩
  case round =>
    obtain ⟨y, l, b, cp, rfl, rfl, HI⟩ := hrel
    have hl := HI.out.len HX.out
    have HA : Hid (∀ w2, Touch [] wr w2 → w2.ownsRow w.heap.size 5 1 (.slice b l.length cp) l.length (Lib.byteCells l) ∧ w.heap.size ≤ w2.heap.size ∧ Touch [] w w2) := hid (fun w2 t2 => ⟨own_touch HI.out.o t2 (fun _ _ e => by cases e), (HI.out.t.trans' t2).size, HI.out.t.trans' t2⟩)
    have HY := hid HI.out.lt
    by_cases h : 128 ≤ y
    · have hz : (128 : Int) ≤ (y : Int) := by omega
      obtain ⟨ob, hob⟩ : ∃ ob, bits .or .u8 ((y : Int) % 256) 128 = ob := ⟨_, rfl⟩
      have EO := hid (hob.symm.trans (or128 y))
      have H := hid h
      clear h
      go_wp2_with (at_builtin; refine wpList_append_rs rfl _ _ 31 5 rfl _ 1 1 infoB Try.underlying31 rfl (by decide) w.heap.size (.slice b l.length cp) l.length (Lib.byteCells l) rfl (HA.out _ ((Touch.refl _ _).alloc _)).1 (.slice (some ⟨wr.heap.size, 0, none⟩) 1 1) 1 _ rfl (Rs.new wr #[.int .u8 ob] 5 1 rfl) (by simp [Value.oneCell']) (by unfold maxLen; omega) (by omega) (HA.out _ ((Touch.refl _ _).alloc _)).2.1 ?_; intro v6 w6 o6 g6 _; obtain ⟨a6, c6, e6, _⟩ := (Rs.of_own o6).form; subst e6; have O6 := hid o6; have T6 := hid (touch_grown (HA.out _ ((Touch.refl _ _).alloc _)).2.2 g6 (HA.out _ ((Touch.refl _ _).alloc _)).1 (Nat.le_refl _)); clear o6 g6)
      have e7 : (y : Int) / 128 = ((y / 128 : Nat) : Int) := by omega
      refine ⟨⟨y / 128, l ++ [UInt8.ofNat (y % 128 + 128)], a6, c6, by rw [e7], by rw [List.length_append]; rfl, hid ⟨by have := HY.out; omega, ?_, T6.out, ?_⟩⟩, by simp [intOf]; have := H.out; omega⟩
      · rw [← HI.out.eq, numL_go H.out, List.append_assoc]; rfl
      · rw [List.length_append, bytes_snoc, ← EO.out]; exact O6.out
    · have hz : ¬ (128 : Int) ≤ (y : Int) := by omega
      have ey : (y : Int) % 256 = (y : Int) := by omega
      have HC : Hid (∀ w2 a c, w2.ownsRow w.heap.size 5 1 (.slice a (l.length + 1) c) (l.length + 1) (Lib.byteCells l ++ [.int .u8 (y : Int)]) → (convert 31 9 (.slice a (l.length + 1) c)).run Try.prog w2 = .ok (.string ⟨(numL x).toArray⟩) w2) := hid (fun w2 a c o => by
        rw [← HI.out.eq, numL_end h]
        refine conv_own (base := w.heap.size) ?_ (by omega)
        rw [bytes_snoc, ofNat_toNat (by omega)]
        exact o)
      go_wp2_with (at_builtin; refine wpList_append_rs rfl _ _ 31 5 rfl _ 1 1 infoB Try.underlying31 rfl (by decide) w.heap.size (.slice b l.length cp) l.length (Lib.byteCells l) rfl (HA.out _ ((Touch.refl _ _).alloc _)).1 (.slice (some ⟨wr.heap.size, 0, none⟩) 1 1) 1 _ rfl (Rs.new wr #[.int .u8 y] 5 1 rfl) (by simp [Value.oneCell']) (by unfold maxLen; omega) (by omega) (HA.out _ ((Touch.refl _ _).alloc _)).2.1 ?_; intro v6 w6 o6 g6 _; obtain ⟨a6, c6, e6, _⟩ := (Rs.of_own o6).form; subst e6; have T6 := hid (touch_grown (HA.out _ ((Touch.refl _ _).alloc _)).2.2 g6 (HA.out _ ((Touch.refl _ _).alloc _)).1 (Nat.le_refl _)); have hcv := HC.out _ _ _ o6; clear o6 g6)
      go_ret
      exact ⟨rfl, T6.out⟩
theorem rest128 (y : Nat) : (y : Int) % 128 + 128 = ((UInt8.ofNat (y % 128 + 128)).toNat : Int) := by rw [UInt8.toNat_ofNat']; omega
set_option maxHeartbeats 1000000 in
theorem rnumber_ (w : World) (x : Nat) (hx : x < 18446744073709551616) : Calls Try.prog 8 #[.int .u64 x] w fun e w' => e = .returned (.string ⟨(numL x).toArray⟩) ∧ Touch [] w w' := by
  have HX := hid hx
  have H0 : Hid (NuI w x x [] (.slice (some ⟨w.heap.size, 0, none⟩) 0 0) (w.alloc (.cells #[] 5))) := hid ⟨hx, rfl, (Touch.refl _ _).alloc _, World.ownsRow_made (e := 5) (size := 1) w #[] 0 (Nat.le_refl _) (by unfold maxLen; omega) rfl⟩
  clear hx
  go_enter Try.func8, Try.ntmps8
  go_wp2
  go_loopw [0, 3] (fun s0 s3 wr => ∃ (y : Nat) (l : List UInt8) (b : Option Addr) (cp : Nat), s0 = .int .u64 y ∧ s3 = .slice b l.length cp ∧ Hid (NuI w x y l (.slice b l.length cp) wr)) (fun s0 _ _ => (intOf s0).toNat)
  case atStart => exact ⟨x, [], _, 0, rfl, rfl, H0⟩
  case round =>
    obtain ⟨y, l, b, cp, rfl, rfl, HI⟩ := hrel
    have hl := HI.out.len HX.out
    have HA : Hid (∀ w2, Touch [] wr w2 → w2.ownsRow w.heap.size 5 1 (.slice b l.length cp) l.length (Lib.byteCells l) ∧ w.heap.size ≤ w2.heap.size ∧ Touch [] w w2) := hid (fun w2 t2 => ⟨own_touch HI.out.o t2 (fun _ _ e => by cases e), (HI.out.t.trans' t2).size, HI.out.t.trans' t2⟩)
    have HY := hid HI.out.lt
    by_cases h : 128 ≤ y
    · have hz : (128 : Int) ≤ (y : Int) := by omega
      have EO := hid (rest128 y)
      have wy : IntKind.u64.wrap ((y : Int) / 128) = (y : Int) / 128 := by rw [IntKind.wrap_u64]; have := HY.out; omega
      have H := hid h
      clear h
      go_wp2_with (at_builtin; refine wpList_append_rs rfl _ _ 31 5 rfl _ 1 1 infoB Try.underlying31 rfl (by decide) w.heap.size (.slice b l.length cp) l.length (Lib.byteCells l) rfl (HA.out _ ((Touch.refl _ _).alloc _)).1 (.slice (some ⟨wr.heap.size, 0, none⟩) 1 1) 1 _ rfl (Rs.new wr #[.int .u8 ((y : Int) % 128 + 128)] 5 1 rfl) (by simp [Value.oneCell']) (by unfold maxLen; omega) (by omega) (HA.out _ ((Touch.refl _ _).alloc _)).2.1 ?_; intro v6 w6 o6 g6 _; obtain ⟨a6, c6, e6, _⟩ := (Rs.of_own o6).form; subst e6; have O6 := hid o6; have T6 := hid (touch_grown (HA.out _ ((Touch.refl _ _).alloc _)).2.2 g6 (HA.out _ ((Touch.refl _ _).alloc _)).1 (Nat.le_refl _)); clear o6 g6)
      have e7 : (y : Int) / 128 = ((y / 128 : Nat) : Int) := by omega
      refine ⟨⟨y / 128, l ++ [UInt8.ofNat (y % 128 + 128)], a6, c6, by rw [e7], by rw [List.length_append]; rfl, hid ⟨by have := HY.out; omega, ?_, T6.out, ?_⟩⟩, by simp [intOf]; have := H.out; omega⟩
      · rw [← HI.out.eq, numL_go H.out, List.append_assoc]; rfl
      · rw [List.length_append, bytes_snoc, ← EO.out]; exact O6.out
    · have hz : ¬ (128 : Int) ≤ (y : Int) := by omega
      have ey : (y : Int) % 256 = (y : Int) := by omega
      have HC : Hid (∀ w2 a c, w2.ownsRow w.heap.size 5 1 (.slice a (l.length + 1) c) (l.length + 1) (Lib.byteCells l ++ [.int .u8 (y : Int)]) → (convert 31 9 (.slice a (l.length + 1) c)).run Try.prog w2 = .ok (.string ⟨(numL x).toArray⟩) w2) := hid (fun w2 a c o => by
        rw [← HI.out.eq, numL_end h]
        refine conv_own (base := w.heap.size) ?_ (by omega)
        rw [bytes_snoc, ofNat_toNat (by omega)]
        exact o)
      go_wp2_with (at_builtin; refine wpList_append_rs rfl _ _ 31 5 rfl _ 1 1 infoB Try.underlying31 rfl (by decide) w.heap.size (.slice b l.length cp) l.length (Lib.byteCells l) rfl (HA.out _ ((Touch.refl _ _).alloc _)).1 (.slice (some ⟨wr.heap.size, 0, none⟩) 1 1) 1 _ rfl (Rs.new wr #[.int .u8 y] 5 1 rfl) (by simp [Value.oneCell']) (by unfold maxLen; omega) (by omega) (HA.out _ ((Touch.refl _ _).alloc _)).2.1 ?_; intro v6 w6 o6 g6 _; obtain ⟨a6, c6, e6, _⟩ := (Rs.of_own o6).form; subst e6; have T6 := hid (touch_grown (HA.out _ ((Touch.refl _ _).alloc _)).2.2 g6 (HA.out _ ((Touch.refl _ _).alloc _)).1 (Nat.le_refl _)); have hcv := HC.out _ _ _ o6; clear o6 g6)
      go_ret
      exact ⟨rfl, T6.out⟩
end Go.Proofs.Ytpefbmheblfbeaa.Sn
