/- A key read from a text, by the program and by the document (layer 2's texts, laid anew); the text's length is within the form's reach. -/
import Derived.Test.YtlffleigahfdlaaGreatDoorEvs
import Derived.Shelf.Strconv.Clone
import Derived.Shelf.SlSortCmp.QuietGrown
import Derived.WalkKit
import Derived.ProofKit
import Derived.BigQuiet
import Derived.Deep.QuietTactic
import Derived.Laws.IdiomStrings
import Derived.Shelf.Strconv.Itoa4
import Derived.Lib.ParseIntBTie
import Derived.Lib.AtoiAllCases
import Derived.Lib.IndexMore
import Derived.Lib.LastIndexByte
namespace Go.Proofs.YtlffleigahfdlaaGreatDoor.Kt
open Go.RowKit Go.Sort Go.Shelf
set_option linter.unusedVariables false
def Gr (w w' : World) : Prop := ∃ q os, w' = grow (w.drewN q) os
theorem Gr.refl (w : World) : Gr w w := ⟨0, #[], by rw [grow_empty]; rfl⟩
theorem Gr.alloc {w w' : World} (h : Gr w w') (o : Obj) : Gr w (w'.alloc o) := by
  obtain ⟨q, os, rfl⟩ := h
  exact ⟨q, os ++ #[o], by rw [alloc_eq_grow, grow_grow]⟩
theorem Gr.grow {w w' : World} (h : Gr w w') (n : Nat) (os' : Array Obj) : Gr w (grow (w'.drewN n) os') := by
  obtain ⟨q, os, rfl⟩ := h
  exact ⟨q + n, os ++ os', by show Sort.grow (Sort.grow ((w.drewN q).drewN n) os) os' = _; rw [grow_grow, World.drewN_drewN]⟩
theorem Gr.drewN {w w' : World} (h : Gr w w') (n : Nat) : Gr w (w'.drewN n) := by
  have := h.grow n #[]
  rwa [grow_empty] at this
theorem Gr.drew {w w' : World} (h : Gr w w') : Gr w w'.drew := h.drewN 1
theorem Gr.trans {a b c : World} (h : Gr a b) (k : Gr b c) : Gr a c := by
  obtain ⟨q, os, rfl⟩ := k
  exact h.grow q os
theorem Gr.touch {w w' : World} (h : Gr w w') : Touch [] w w' := by
  obtain ⟨q, os, rfl⟩ := h
  exact ⟨rfl, rfl, rfl, by rw [size_grow]; exact Nat.le_add_right _ _, fun k hk _ => heap_grow_old _ _ hk⟩
theorem Gr.below {w w' : World} (h : Gr w w') : Below w.heap.size w w' := by
  obtain ⟨q, os, rfl⟩ := h
  exact ⟨rfl, rfl, rfl, by rw [size_grow]; exact Nat.le_add_right _ _, fun k hk => heap_grow_old _ _ hk⟩
theorem Gr.cell {w w' : World} (hg : Gr w w') {a : Addr} {v : Value} (h : w.cell? a = some v) (hb : a.block < w.heap.size) : w'.cell? a = some v := by
  rw [hg.below.cell hb]; exact h
theorem Gr.size {w w' : World} (hg : Gr w w') : w.heap.size ≤ w'.heap.size := hg.below.size
theorem gr_grow (w : World) (n : Nat) (os : Array Obj) : Gr w (grow (w.drewN n) os) := ⟨n, os, rfl⟩
theorem check13_ok (a : Int) (s : ByteArray) (w : World) (h : s.size ≤ 64) :
    Calls Tryz.prog 84 #[.agg #[.int .u16 a, .string s]] w fun e w' => e = .returned (.int .i64 0) ∧ Gr w w' := by
  go_enter Tryz.func84, Tryz.ntmps84
  go_wp2
  go_ret
  exact ⟨rfl, (Gr.refl _).alloc _⟩
theorem check13_no (a : Int) (s : ByteArray) (w : World) (h : 64 < s.size) :
    Calls Tryz.prog 84 #[.agg #[.int .u16 a, .string s]] w fun e w' => e = .returned (.int .i64 20) ∧ Gr w w' := by
  have h' : (64 : Int) < (s.size : Int) := by omega
  go_enter Tryz.func84, Tryz.ntmps84
  go_wp2
  go_ret
  exact ⟨rfl, (Gr.refl _).alloc _⟩

def cren : Go.Shelf.Ren := ⟨fun | 316 => 141 | n => n, fun | 37 => 96 | 127 => 137 | n => n, fun | n => n⟩
theorem claysM : Go.Proofs.LaysM.n316 Tryz.prog cren := {
  mixed := by kernel_rfl
  f316 := Tryz.func141.trans (congrArg some (by kernel_rfl))
  t0 := Tryz.underlying0
  a0 := Tryz.isAgg0
  z0 := Tryz.sizeOf0
  v0 := Tryz.zeroValue0
  t3 := Tryz.underlying3
  a3 := Tryz.isAgg3
  z3 := Tryz.sizeOf3
  v3 := Tryz.zeroValue3
  t4 := Tryz.underlying4
  a4 := Tryz.isAgg4
  z4 := Tryz.sizeOf4
  v4 := Tryz.zeroValue4
  t5 := Tryz.underlying5
  a5 := Tryz.isAgg5
  z5 := Tryz.sizeOf5
  v5 := Tryz.zeroValue5
  t9 := Tryz.underlying9
  a9 := Tryz.isAgg9
  z9 := Tryz.sizeOf9
  v9 := Tryz.zeroValue9
  t37 := Tryz.underlying96
  a37 := Tryz.isAgg96
  z37 := Tryz.sizeOf96
  v37 := Tryz.zeroValue96
  t127 := Tryz.underlying137
  a127 := Tryz.isAgg137
  z127 := Tryz.sizeOf137
  v127 := Tryz.zeroValue137
  i0 := by kernel_rfl
  i3 := by kernel_rfl
  i4 := by kernel_rfl
  i5 := by kernel_rfl
  i9 := by kernel_rfl
  i37 := by kernel_rfl
  i127 := by kernel_rfl }
theorem clone36 (s : ByteArray) (w : World) (hs : s.size ≤ 281474976710656) :
    Calls Tryz.prog 111 #[.string s] w fun e w' => e = .returned (.string s) ∧ Below w.heap.size w w' := by
  have H : Hid _ := hs
  clear hs
  go_enter Tryz.func111, Tryz.ntmps111
  go_wp2_with (go_at_call 141; refine (Any.stringslite_Clone claysM s _ H.out).mono ?_; rintro e w1 ⟨rfl, hg⟩)
  go_ret
  exact ⟨rfl, hg⟩

def zeroKey : Value := .agg #[.int .u16 0, .string ⟨#[]⟩]

def okAt (i n c : Nat) : Bool := decide (48 ≤ c) && decide (c ≤ 57) && !(decide (0 < i) && decide (n = 0)) && decide (n * 10 + (c - 48) ≤ 65535)
def scan : List UInt8 → Nat → Nat → Nat × Nat
  | [], i, n => (n, i)
  | c :: l, i, n => if okAt i n c.toNat then scan l (i + 1) (n * 10 + (c.toNat - 48)) else (n, i)
theorem scan_le : ∀ (l : List UInt8) (i n : Nat), n ≤ 65535 → (scan l i n).1 ≤ 65535 ∧ i ≤ (scan l i n).2 ∧ (scan l i n).2 ≤ i + l.length
  | [], i, n, h => by simp [scan, h]
  | c :: l, i, n, h => by
    unfold scan
    by_cases hk : okAt i n c.toNat = true
    · rw [if_pos hk]
      have h2 : n * 10 + (c.toNat - 48) ≤ 65535 := by
        simp [okAt] at hk
        omega
      have := scan_le l (i + 1) _ h2
      simp only [List.length_cons]
      omega
    · rw [if_neg hk]
      simp [h]
theorem drop_end (s : ByteArray) (k : Nat) (h : ¬ k < s.size) : s.data.toList.drop k = [] := List.drop_of_length_le (by show s.size ≤ k; omega)
theorem scan_go (s : ByteArray) (k n : Nat) (h : k < s.size) (ho : okAt k n s[k].toNat = true) : scan (s.data.toList.drop k) k n = scan (s.data.toList.drop (k + 1)) (k + 1) (n * 10 + (s[k].toNat - 48)) := by
  rw [show s.data.toList.drop k = s[k] :: s.data.toList.drop (k + 1) by rw [List.drop_eq_getElem_cons (by simpa using h)]; rfl]
  conv => lhs; unfold scan
  rw [if_pos ho]
theorem scan_stop (s : ByteArray) (k n : Nat) (h : k < s.size) (ho : okAt k n s[k].toNat = false) : scan (s.data.toList.drop k) k n = (n, k) := by
  rw [show s.data.toList.drop k = s[k] :: s.data.toList.drop (k + 1) by rw [List.drop_eq_getElem_cons (by simpa using h)]; rfl]
  unfold scan
  rw [if_neg (by rw [ho]; simp)]
theorem scan_end (s : ByteArray) (k n : Nat) (h : ¬ k < s.size) : scan (s.data.toList.drop k) k n = (n, k) := by
  rw [drop_end s k h]; rfl

theorem ret2 {k l : IntKind} {a b c d : Int} (h : a = b) (h' : c = d) : Ending.returned (.tuple #[.int k a, .int l c]) = .returned (.tuple #[.int k b, .int l d]) := by rw [h, h']

set_option maxHeartbeats 1000000 in
theorem digits35 (s : ByteArray) (w : World) (hs : s.size ≤ 281474976710656) (N I : Nat) (hN : scan s.data.toList 0 0 = (N, I)) :
    Calls Tryz.prog 110 #[.string s] w fun e w' => e = .returned (.tuple #[.int .u16 N, .int .i64 I]) ∧ w' = w := by
  have HN : Hid _ := hN
  clear hN
  go_enter Tryz.func110, Tryz.ntmps110
  go_wp2
  go_loop [4, 9] (fun v i => ∃ k n : Nat, k ≤ s.size ∧ n ≤ 65535 ∧ i = .int .i64 k ∧ v = .int .i64 n ∧ Hid (scan (s.data.toList.drop k) k n = (N, I))) (fun _ i => s.size - (intOf i).toNat)
  case atStart => exact ⟨0, 0, Nat.zero_le _, by omega, rfl, rfl, HN⟩
  case round =>
    obtain ⟨k, n, hk, hn, rfl, rfl, HS⟩ := hrel
    have wn : IntKind.u16.wrap (n : Int) = (n : Int) := by rw [IntKind.wrap_u16]; omega
    by_cases hlt : k < s.size
    · have hz : (k : Int) < (s.size : Int) := by omega
      obtain ⟨c, hc⟩ : ∃ c : Nat, s[k].toNat = c := ⟨_, rfl⟩
      have hc1 : c < 256 := by rw [← hc]; exact s[k].toNat_lt
      by_cases ho : okAt k n c = true
      · have HG : Hid (scan (s.data.toList.drop (k + 1)) (k + 1) (n * 10 + (c - 48)) = (N, I)) := by
          have := scan_go s k n hlt (by rw [hc]; exact ho)
          rw [hc, HS.out] at this
          exact this.symm
        simp [okAt] at ho
        obtain ⟨⟨⟨o1, o2⟩, o3⟩, o4⟩ := ho
        have p1 : ¬ (c : Int) < 48 := by omega
        have p2 : ¬ (57 : Int) < (c : Int) := by omega
        have p4 : ¬ (65535 : Int) < (n : Int) * 10 + ((c : Int) - 48) := by omega
        have p5 : ((c : Int) - 48) % 256 = (c : Int) - 48 := by omega
        have p6 : (n : Int) * 10 + ((c : Int) - 48) = ((n * 10 + (c - 48) : Nat) : Int) := by omega
        have P6 : Hid _ := p6
        clear p6
        by_cases hk0 : 0 < k
        · have q1 : (0 : Int) < (k : Int) := by omega
          have q2 : ¬ (n : Int) = 0 := by omega
          go_wp2
          go_round
          case rel => exact ⟨k + 1, n * 10 + (c - 48), by omega, o4, by go_num, by rw [← P6.out], HG⟩
          case measure => simp [intOf]; omega
        · have q1 : ¬ (0 : Int) < (k : Int) := by omega
          go_wp2
          go_round
          case rel => exact ⟨k + 1, n * 10 + (c - 48), by omega, o4, by go_num, by rw [← P6.out], HG⟩
          case measure => simp [intOf]; omega
      · have HT : Hid (n = N ∧ k = I) := by
          have := scan_stop s k n hlt (by rw [hc]; simpa using ho)
          rw [HS.out] at this
          simp only [Prod.mk.injEq] at this
          exact ⟨this.1.symm, this.2.symm⟩
        by_cases p1 : c < 48
        · have p1' : (c : Int) < 48 := by omega
          go_wp2
          go_ret2
          exact ⟨ret2 (by have := HT.out.1; omega) (by have := HT.out.2; omega), rfl⟩
        by_cases p2 : 57 < c
        · have p1' : ¬ (c : Int) < 48 := by omega
          have p2' : (57 : Int) < (c : Int) := by omega
          go_wp2
          go_ret2
          exact ⟨ret2 (by have := HT.out.1; omega) (by have := HT.out.2; omega), rfl⟩
        have p1' : ¬ (c : Int) < 48 := by omega
        have p2' : ¬ (57 : Int) < (c : Int) := by omega
        by_cases p3 : 0 < k ∧ n = 0
        · obtain ⟨p3, rfl⟩ := p3
          have q1 : (0 : Int) < (k : Int) := by omega
          go_wp2
          go_ret2
          exact ⟨ret2 (by have := HT.out.1; omega) (by have := HT.out.2; omega), rfl⟩
        have p4 : (65535 : Int) < (n : Int) * 10 + ((c : Int) - 48) := by
          simp [okAt] at ho
          omega
        have p5 : ((c : Int) - 48) % 256 = (c : Int) - 48 := by omega
        by_cases hk0 : 0 < k
        · have q1 : (0 : Int) < (k : Int) := by omega
          have q2 : ¬ (n : Int) = 0 := by omega
          go_wp2
          go_ret2
          exact ⟨ret2 (by have := HT.out.1; omega) (by have := HT.out.2; omega), rfl⟩
        · have q1 : ¬ (0 : Int) < (k : Int) := by omega
          go_wp2
          go_ret2
          exact ⟨ret2 (by have := HT.out.1; omega) (by have := HT.out.2; omega), rfl⟩
    · have HT : Hid (n = N ∧ k = I) := by
        have := scan_end s k n hlt
        rw [HS.out] at this
        simp only [Prod.mk.injEq] at this
        exact ⟨this.1.symm, this.2.symm⟩
      have hz : ¬ (k : Int) < (s.size : Int) := by omega
      have HK : Hid (s.size = k) := by show s.size = k; omega
      go_wp2
      go_ret2
      exact ⟨ret2 (by rw [HT.out.1]) (by rw [HK.out, HT.out.2]), rfl⟩

theorem parse14_bad (s : ByteArray) (w : World) (hs : s.size ≤ 281474976710656) (N I : Nat) (hN : scan s.data.toList 0 0 = (N, I)) (hI : I ≤ s.size) (h : I = 0 ∨ I = s.size ∨ ∃ h : I < s.size, s[I].toNat ≠ 58) :
    Calls Tryz.prog 88 #[.string s] w fun e w' => e = .returned (.tuple #[zeroKey, .int .i64 I, .int .i64 20]) ∧ Below w.heap.size w w' := by
  have D : Hid _ := fun w => digits35 s w hs N I hN
  clear hN
  by_cases h0 : I = 0
  · subst h0
    go_enter Tryz.func88, Tryz.ntmps88
    go_wp2_with fail
    refine (D.out _).mono ?_
    rintro e w1 ⟨rfl, rfl⟩
    go_wp2
    exact bodyPost_ret (v := .tuple #[zeroKey, .int .i64 0, .int .i64 20]) (by simp [results, Tryz.results88, go_sem, zeroKey]) rfl ⟨rfl, (Below.refl _ _).alloc (Nat.le_refl _) _⟩
  · have h0' : ¬ (I : Int) = 0 := by omega
    by_cases h1 : I = s.size
    · subst h1
      have b0 : ((s.size : Int) == 0) = false := by simpa using h0'
      clear h hI
      go_enter Tryz.func88, Tryz.ntmps88
      go_wp2_with fail
      refine (D.out _).mono ?_
      rintro e w1 ⟨rfl, rfl⟩
      go_wp2
      exact bodyPost_ret (v := .tuple #[zeroKey, .int .i64 s.size, .int .i64 20]) (by simp [results, Tryz.results88, go_sem, zeroKey]) rfl ⟨rfl, (Below.refl _ _).alloc (Nat.le_refl _) _⟩
    · have h1' : ¬ (I : Int) = (s.size : Int) := by omega
      have hz : (I : Int) < (s.size : Int) := by omega
      obtain ⟨hlt, hne⟩ : ∃ h : I < s.size, s[I].toNat ≠ 58 := by
        rcases h with h | h | h
        · exact absurd h h0
        · exact absurd h h1
        · exact h
      obtain ⟨c, hc⟩ : ∃ c : Nat, s[I].toNat = c := ⟨_, rfl⟩
      have hne' : ¬ (c : Int) = 58 := by omega
      have b0 : ((I : Int) == 0) = false := by simpa using h0'
      have b1 : ((I : Int) == (s.size : Int)) = false := by simpa using h1'
      have b2 : ((c : Int) == 58) = false := by simpa using hne'
      clear h0' h1' hne'
      clear h
      go_enter Tryz.func88, Tryz.ntmps88
      go_wp2_with fail
      refine (D.out _).mono ?_
      rintro e w1 ⟨rfl, rfl⟩
      go_wp2
      exact bodyPost_ret (v := .tuple #[zeroKey, .int .i64 I, .int .i64 20]) (by simp [results, Tryz.results88, go_sem, zeroKey]) rfl ⟨rfl, (Below.refl _ _).alloc (Nat.le_refl _) _⟩
theorem parse14_long (s : ByteArray) (w : World) (hs : s.size ≤ 281474976710656) (N I : Nat) (hN : scan s.data.toList 0 0 = (N, I)) (h0 : I ≠ 0) (hlt : I < s.size) (h58 : s[I].toNat = 58) (hl : 64 < s.size - (I + 1)) :
    Calls Tryz.prog 88 #[.string s] w fun e w' => e = .returned (.tuple #[zeroKey, .int .i64 ((I : Int) + 1 + 64), .int .i64 20]) ∧ Below w.heap.size w w' := by
  have D : Hid _ := fun w => digits35 s w hs N I hN
  clear hN
  have h0' : ¬ (I : Int) = 0 := by omega
  have h1' : ¬ (I : Int) = (s.size : Int) := by omega
  have hz : (I : Int) < (s.size : Int) := by omega
  have hl' : (64 : Int) < (s.size : Int) - ((I : Int) + 1) := by omega
  have b0 : ((I : Int) == 0) = false := by simpa using h0'
  have b1 : ((I : Int) == (s.size : Int)) = false := by simpa using h1'
  clear h0' h1'
  go_enter Tryz.func88, Tryz.ntmps88
  go_wp2_with fail
  refine (D.out _).mono ?_
  rintro e w1 ⟨rfl, rfl⟩
  go_wp2
  exact bodyPost_ret (v := .tuple #[zeroKey, .int .i64 ((I : Int) + 1 + 64), .int .i64 20]) (by simp [results, Tryz.results88, go_sem, zeroKey]) rfl ⟨rfl, (Below.refl _ _).alloc (Nat.le_refl _) _⟩
set_option maxHeartbeats 1000000 in
theorem parse14_ok (s : ByteArray) (w : World) (hs : s.size ≤ 281474976710656) (N I : Nat) (hN : scan s.data.toList 0 0 = (N, I)) (h0 : I ≠ 0) (hlt : I < s.size) (h58 : s[I].toNat = 58) (hl : s.size - (I + 1) ≤ 64) :
    Calls Tryz.prog 88 #[.string s] w fun e w' => e = .returned (.tuple #[.agg #[.int .u16 N, .string (s.extract (I + 1) s.size)], .int .i64 0, .int .i64 0]) ∧ Below w.heap.size w w' := by
  have D : Hid _ := fun w => digits35 s w hs N I hN
  have C : Hid _ := fun w => clone36 (s.extract (I + 1) s.size) w (by rw [ByteArray.size_extract]; omega)
  clear hN
  have h0' : ¬ (I : Int) = 0 := by omega
  have h1' : ¬ (I : Int) = (s.size : Int) := by omega
  have hz : (I : Int) < (s.size : Int) := by omega
  have hl' : ¬ (64 : Int) < (s.size : Int) - ((I : Int) + 1) := by omega
  have b0 : ((I : Int) == 0) = false := by simpa using h0'
  have b1 : ((I : Int) == (s.size : Int)) = false := by simpa using h1'
  clear h0' h1'
  have hsl : ∀ w, (Instr.slice 9 (.string s) (some (.int .i64 ((I : Int) + 1))) none none).run Tryz.prog w = .ok (.string (s.extract (I + 1) s.size)) w := fun w => by
    rw [run_slice_string_l w 9 s Tryz.underlying9 .i64 ((I : Int) + 1) (by omega) (by omega), show ((I : Int) + 1).toNat = I + 1 by omega]
  go_enter Tryz.func88, Tryz.ntmps88
  go_wp2_with fail
  refine (D.out _).mono ?_
  rintro e w1 ⟨rfl, hw1⟩
  subst hw1
  go_wp2_with fail
  refine (C.out _).mono ?_
  rintro e w2 ⟨rfl, hb⟩
  have c0 : w2.cell? ⟨w.heap.size, 0, none⟩ = some (.int .u16 0) := by rw [hb.cell (by simp)]; simp
  have c1 : w2.cell? ⟨w.heap.size, 1, none⟩ = some (.string ⟨#[]⟩) := by rw [hb.cell (by simp)]; simp
  have f0 : w2.frozen? ⟨w.heap.size, 0, none⟩ = false := by rw [hb.frozen (by simp)]; simp
  have f1 : w2.frozen? ⟨w.heap.size, 1, none⟩ = false := by rw [hb.frozen (by simp)]; simp
  have B : Hid (Below w.heap.size w w2) := ((Below.refl _ _).alloc (Nat.le_refl _) _).trans (hb.mono (by simp))
  clear hb
  go_wp2
  exact bodyPost_ret (v := .tuple #[.agg #[.int .u16 N, .string (s.extract (I + 1) s.size)], .int .i64 0, .int .i64 0]) (by simp [results, Tryz.results88, go_sem, c0, c1]) rfl
    ⟨rfl, (B.out.setCell (Nat.le_refl _) _).setCell (Nat.le_refl _) _⟩

def isBad (s : ByteArray) (I : Nat) : Prop := I = 0 ∨ I = s.size ∨ ∃ h : I < s.size, s[I].toNat ≠ 58
def isLong (s : ByteArray) (I : Nat) : Prop := I ≠ 0 ∧ (∃ h : I < s.size, s[I].toNat = 58) ∧ 64 < s.size - (I + 1)
def isText (s : ByteArray) (I : Nat) : Prop := I ≠ 0 ∧ (∃ h : I < s.size, s[I].toNat = 58) ∧ s.size - (I + 1) ≤ 64
end Go.Proofs.YtlffleigahfdlaaGreatDoor.Kt
/- A key told as a text, by the program and by the document (layer 2's texts, laid anew); a key's space is a number of 16 bits. -/
namespace Go.Proofs.YtlffleigahfdlaaGreatDoor.Kt
open Go.RowKit Go.Sort Go.Shelf
set_option linter.unusedVariables false
set_option maxHeartbeats 1000000 in
theorem text10_of (a : Int) (s d : ByteArray) (w : World) (h : s.size ≤ 64) (h0 : 0 ≤ a) (h1 : a ≤ 65535) (hd : d.size ≤ 20)
    (hI : ∀ w', Gr w w' → Calls Tryz.prog 79 #[.int .i64 a] w' fun e w'' => e = .returned (.string d) ∧ Gr w' w'') :
    Calls Tryz.prog 80 #[.agg #[.int .u16 a, .string s]] w fun e w' => e = .returned (.tuple #[.string (d ++ ⟨#[58]⟩ ++ s), .int .i64 0]) ∧ Gr w w' := by
  have mixed : Tryz.prog.follows .mixedOrders = true := by kernel_rfl
  have hwr : IntKind.i64.wrap a = a := by rw [IntKind.wrap_i64]; omega
  have e1 : ∀ w, (Op.stringOp .add d ⟨#[58]⟩).run Tryz.prog w = .ok (.string (d ++ ⟨#[58]⟩)) w := fun w => run_string_add_sum w _ _ (by have : (ByteArray.mk #[58]).size = 1 := rfl; omega)
  have e2 : ∀ w, (Op.stringOp .add (d ++ ⟨#[58]⟩) s).run Tryz.prog w = .ok (.string (d ++ ⟨#[58]⟩ ++ s)) w := fun w => run_string_add_sum w _ _ (by rw [ByteArray.size_append]; have : (ByteArray.mk #[58]).size = 1 := rfl; omega)
  have HI : Hid _ := hI
  clear hI
  go_enter Tryz.func80, Tryz.ntmps80
  go_wp2_with (go_at_call 84; refine (check13_ok _ _ _ h).mono ?_; rintro e w1 ⟨rfl, hg⟩)
  have f0 : ∀ n os, (grow (w1.drewN n) os).cell? ⟨w.heap.size, 0, none⟩ = some (.int .u16 a) := fun n os => (hg.grow n os).cell (by simp) (by simp)
  have f1 : ∀ n os, (grow (w1.drewN n) os).cell? ⟨w.heap.size, 1, none⟩ = some (.string s) := fun n os => (hg.grow n os).cell (by simp) (by simp)
  have G : Hid (Gr w w1) := ((Gr.refl _).alloc _).trans hg
  clear hg
  go_quiet_grown (first | (go_at_call 79; refine Calls.grown_of (HI.out _ (G.out.grow _ _))))
  go_wp2
  go_ret2
  exact ⟨rfl, G.out.grow _ _⟩

theorem text10_no (a : Int) (s : ByteArray) (w : World) (h : 64 < s.size) :
    Calls Tryz.prog 80 #[.agg #[.int .u16 a, .string s]] w fun e w' => e = .returned (.tuple #[.string ⟨#[]⟩, .int .i64 20]) ∧ Gr w w' := by
  go_enter Tryz.func80, Tryz.ntmps80
  go_wp2_with (go_at_call 84; refine (check13_no _ _ _ h).mono ?_; rintro e w1 ⟨rfl, hg⟩)
  go_ret2
  exact ⟨rfl, ((Gr.refl _).alloc _).trans hg⟩

def itoaB (a : Int) : ByteArray := ⟨(Lib.itoa a).toArray⟩
theorem itoaB_size (a : Int) (h0 : 0 ≤ a) (h1 : a ≤ 65535) : (itoaB a).size ≤ 20 := by
  show (Lib.itoa a).toArray.size ≤ 20
  unfold Lib.itoa
  rw [if_neg (by omega), List.size_toArray, Lib.decDigits_length]
  have : ∀ n, ∀ u, u < 10 ^ (n + 1) → Lib.nDigits u ≤ n + 1 := by
    intro n
    induction n with
    | zero => intro u hu; rw [Lib.nDigits_small (by omega)]; omega
    | succ n ih =>
      intro u hu
      by_cases h : u < 10
      · rw [Lib.nDigits_small h]; omega
      · rw [Lib.nDigits_big h]
        have := ih (u / 10) (by rw [Nat.pow_succ] at hu; omega)
        omega
  have := this 4 a.toNat (by omega)
  omega
def byt (x : Int) : UInt8 := UInt8.ofNat x.toNat
theorem byt_toNat (x : Int) (h0 : 0 ≤ x) (h1 : x ≤ 255) : ((byt x).toNat : Int) = x := by
  unfold byt
  rw [UInt8.toNat_ofNat']
  omega

theorem conv1 (W : World) (b cap : Nat) (x : Int) (hx : 0 ≤ x ∧ x ≤ 255) (c0 : W.cell? ⟨b, 0, none⟩ = some (.int .u8 x)) :
    (convert 96 9 (.slice (some ⟨b, 0, none⟩) 1 cap)).run Tryz.prog W = .ok (.string ⟨#[byt x]⟩) W := by
  refine run_convert_bytes_back W 96 9 5 ⟨b, 0, none⟩ cap [byt x] Tryz.underlying96 Tryz.underlying5 Tryz.underlying9 fun j hj => ?_
  match j, hj with
  | 0, _ => simp only [List.getElem_cons_zero]; rw [byt_toNat x hx.1 hx.2]; exact c0
theorem dec_step (n : Nat) (h : ¬ n < 10) : Lib.decDigits n = Lib.decDigits (n / 10) ++ [byt (48 + (n : Int) % 10)] := by
  rw [Lib.decDigits, dif_neg h]
  unfold byt
  rw [show (48 + (n : Int) % 10).toNat = 48 + n % 10 by omega]
theorem dec_last (n : Nat) (h : n < 10) : Lib.decDigits n = [byt (48 + (n : Int))] := by
  rw [Lib.decDigits_one h]
  unfold byt
  rw [show (48 + (n : Int)).toNat = 48 + n by omega]

set_option maxHeartbeats 1000000 in
theorem digits34 (n : Nat) (h : n ≤ 65535) (w : World) :
    Calls Tryz.prog 85 #[.int .i64 n] w fun e w' => e = .returned (.string (itoaB n)) ∧ Gr w w' := by
  have HI : Hid (itoaB n = ⟨(Lib.decDigits n).toArray⟩) := by show itoaB n = _; unfold itoaB Lib.itoa; rw [if_neg (by omega)]; rfl
  have HZ : Hid ((Lib.decDigits n).length ≤ 20) := by
    have := itoaB_size n (by omega) (by omega)
    rw [HI.out] at this
    exact this
  generalize itoaB n = I at *
  go_enter Tryz.func85, Tryz.ntmps85
  go_wp2
  go_loopw [0, 3] (fun v t wr => ∃ (m : Nat) (y : ByteArray), v = .int .i64 m ∧ t = .string y ∧ m ≤ n ∧ Hid (Lib.decDigits n = Lib.decDigits m ++ y.data.toList) ∧ Gr w wr) (fun v _ _ => (intOf v).toNat)
  case atStart => exact ⟨n, ⟨#[]⟩, rfl, rfl, Nat.le_refl _, by show _ = _; simp, Gr.refl _⟩
  case round =>
    obtain ⟨m, y, rfl, rfl, hm, HD, G⟩ := hrel
    have hy : y.size ≤ 20 := by
      have h1 := congrArg List.length HD.out
      rw [List.length_append] at h1
      have h2 : y.size = y.data.toList.length := rfl
      have := HZ.out
      omega
    by_cases h10 : m < 10
    · have HE : Hid (Lib.decDigits n = byt (48 + (m : Int)) :: y.data.toList) := by show _ = _; rw [HD.out, dec_last m h10]; rfl
      have hcv := conv1 (wr.alloc (.cells #[.int .u8 (48 + (m : Int))] 5)) wr.heap.size 1 (48 + (m : Int)) (by omega) (by simp)
      have had : ∀ w, (Op.stringOp .add ⟨#[byt (48 + (m : Int))]⟩ y).run Tryz.prog w = .ok (.string (⟨#[byt (48 + (m : Int))]⟩ ++ y)) w := fun w => run_string_add_sum w _ _ (by have : (ByteArray.mk #[byt (48 + (m : Int))]).size = 1 := rfl; omega)
      have hw : (48 + (m : Int)) % 256 = 48 + (m : Int) := by omega
      have hz : ¬ (10 : Int) ≤ (m : Int) := by omega
      clear hy
      go_wp2
      go_ret
      exact ⟨by rw [HI.out, HE.out]; congr 2, G.alloc _⟩
    · have HE : Hid (Lib.decDigits n = Lib.decDigits (m / 10) ++ (⟨#[byt (48 + (m : Int) % 10)]⟩ ++ y : ByteArray).data.toList) := by show _ = _; rw [HD.out, dec_step m h10, List.append_assoc, ByteArray.data_append]; simp
      have hcv := conv1 (wr.alloc (.cells #[.int .u8 (48 + (m : Int) % 10)] 5)) wr.heap.size 1 (48 + (m : Int) % 10) (by omega) (by simp)
      have had : ∀ w, (Op.stringOp .add ⟨#[byt (48 + (m : Int) % 10)]⟩ y).run Tryz.prog w = .ok (.string (⟨#[byt (48 + (m : Int) % 10)]⟩ ++ y)) w := fun w => run_string_add_sum w _ _ (by have : (ByteArray.mk #[byt (48 + (m : Int) % 10)]).size = 1 := rfl; omega)
      have hw : (48 + (m : Int) % 10) % 256 = 48 + (m : Int) % 10 := by omega
      have hz : (10 : Int) ≤ (m : Int) := by omega
      clear hy
      go_wp2
      go_roundw
      case rel => exact ⟨m / 10, _, by go_num, rfl, by omega, HE, G.alloc _⟩
      case measure => simp [intOf]; omega

set_option maxHeartbeats 1000000 in
theorem ref11_ok (a : Nat) (s : ByteArray) (w : World) (h : s.size ≤ 64) (h1 : a ≤ 65535) :
    Calls Tryz.prog 51 #[.agg #[.int .u16 a, .string s]] w fun e w' => e = .returned (.tuple #[.string (itoaB a ++ ⟨#[58]⟩ ++ s), .bool true]) ∧ Gr w w' := by
  have mixed : Tryz.prog.follows .mixedOrders = true := by kernel_rfl
  have hd := itoaB_size a (by omega) (by omega)
  have hwr : IntKind.i64.wrap (a : Int) = a := by rw [IntKind.wrap_i64]; omega
  have A1 : Hid _ := fun w => digits34 a h1 w
  generalize itoaB a = d at *
  have e1 : ∀ w, (Op.stringOp .add d ⟨#[58]⟩).run Tryz.prog w = .ok (.string (d ++ ⟨#[58]⟩)) w := fun w => run_string_add_sum w _ _ (by have : (ByteArray.mk #[58]).size = 1 := rfl; omega)
  have e2 : ∀ w, (Op.stringOp .add (d ++ ⟨#[58]⟩) s).run Tryz.prog w = .ok (.string (d ++ ⟨#[58]⟩ ++ s)) w := fun w => run_string_add_sum w _ _ (by rw [ByteArray.size_append]; have : (ByteArray.mk #[58]).size = 1 := rfl; omega)
  go_enter Tryz.func51, Tryz.ntmps51
  go_wp2_with fail
  obtain ⟨V, hV⟩ : ∃ V, V = w.alloc (.cells #[.int .u16 a, .string s] 36) := ⟨_, rfl⟩
  have GV : Hid (Gr w V) := by rw [hV]; exact (Gr.refl _).alloc _
  have v0 : ∀ n os, (grow (V.drewN n) os).cell? ⟨w.heap.size, 0, none⟩ = some (.int .u16 a) := fun n os => (gr_grow V n os).cell (by rw [hV]; simp) (by rw [hV]; simp)
  have v1 : ∀ n os, (grow (V.drewN n) os).cell? ⟨w.heap.size, 1, none⟩ = some (.string s) := fun n os => (gr_grow V n os).cell (by rw [hV]; simp) (by rw [hV]; simp)
  rw [← hV]
  clear hV
  go_quiet_grown (first | (go_at_call 85; refine Calls.grown_of (A1.out _)))
  go_wp2
  go_ret2
  exact ⟨rfl, GV.out.grow _ _⟩
theorem ref11_no (a : Int) (s : ByteArray) (w : World) (h : 64 < s.size) :
    Calls Tryz.prog 51 #[.agg #[.int .u16 a, .string s]] w fun e w' => e = .returned (.tuple #[.string ⟨#[]⟩, .bool false]) ∧ Gr w w' := by
  have h' : (64 : Int) < (s.size : Int) := by omega
  go_enter Tryz.func51, Tryz.ntmps51
  go_wp2
  go_ret2
  exact ⟨rfl, (Gr.refl _).alloc _⟩
end Go.Proofs.YtlffleigahfdlaaGreatDoor.Kt
/- A number told as a text and read from one, by the document; the number is not below 0. -/
namespace Go.Proofs.YtlffleigahfdlaaGreatDoor.Kt
open Go.RowKit Go.Sort Go.Shelf
set_option linter.unusedVariables false
theorem ba_app (l l' : List UInt8) : (⟨(l ++ l').toArray⟩ : ByteArray) = ⟨l.toArray⟩ ++ ⟨l'.toArray⟩ := by
  apply ByteArray.ext
  rw [ByteArray.data_append]
  simp
theorem itoaB_nat (n : Nat) : itoaB n = ⟨(Lib.decDigits n).toArray⟩ := by
  unfold itoaB Lib.itoa
  rw [if_neg (by omega), show (n : Int).toNat = n by omega]
theorem itoaB_small (n : Nat) (h : n < 10) : itoaB n = ⟨#[byt (48 + (n : Int))]⟩ := by
  rw [itoaB_nat, dec_last n h]
theorem itoaB_big (n : Nat) (h : 10 ≤ n) : itoaB n = itoaB ((n / 10 : Nat) : Int) ++ ⟨#[byt (48 + ((n % 10 : Nat) : Int))]⟩ := by
  rw [itoaB_nat, itoaB_nat, dec_step n (by omega), ba_app, show (((n % 10 : Nat)) : Int) = (n : Int) % 10 by omega]
theorem nDig_le : ∀ n, ∀ u, u < 10 ^ (n + 1) → Lib.nDigits u ≤ n + 1 := by
  intro n
  induction n with
  | zero => intro u hu; rw [Lib.nDigits_small (by omega)]; omega
  | succ n ih =>
    intro u hu
    by_cases h : u < 10
    · rw [Lib.nDigits_small h]; omega
    · rw [Lib.nDigits_big h]
      have := ih (u / 10) (by rw [Nat.pow_succ] at hu; omega)
      omega
theorem itoaB_len (n : Nat) (h1 : n ≤ 9223372036854775807) : (itoaB n).size ≤ 20 := by
  rw [itoaB_nat]
  show (Lib.decDigits n).toArray.size ≤ 20
  rw [List.size_toArray, Lib.decDigits_length]
  exact nDig_le 19 n (by omega)
def dstep (a : Nat) (c : UInt8) : Nat := a * 10 + (c.toNat - 48)
def dv (l : List UInt8) : Nat := l.foldl dstep 0
theorem dv_snoc (l : List UInt8) (c : UInt8) : dv (l ++ [c]) = dstep (dv l) c := by simp [dv, List.foldl_append]
theorem ofNat_toNat (n : Nat) (h : n < 256) : (UInt8.ofNat n).toNat = n := by rw [UInt8.toNat_ofNat']; omega
theorem dv_dec : ∀ u : Nat, dv (Lib.decDigits u) = u := by
  intro u
  induction u using Nat.strongRecOn with
  | _ u ih =>
    rw [Lib.decDigits]
    split
    · rename_i h
      have := dv_snoc [] (UInt8.ofNat (48 + u))
      rw [List.nil_append] at this
      rw [this]
      unfold dstep
      rw [ofNat_toNat _ (by omega)]
      show 0 * 10 + _ = _
      omega
    · rename_i h
      rw [dv_snoc, ih (u / 10) (by omega)]
      unfold dstep
      rw [ofNat_toNat _ (by omega)]
      omega
theorem fold_ge (l : List UInt8) : ∀ a : Nat, a ≤ l.foldl dstep a := by
  induction l with
  | nil => intro a; exact Nat.le_refl _
  | cons c l ih =>
    intro a
    have h1 : a ≤ dstep a c := by unfold dstep; omega
    exact Nat.le_trans h1 (ih (dstep a c))
theorem dv_take (l : List UInt8) (p : Nat) : dv (l.take p) ≤ dv l := by
  have h : dv l = (l.drop p).foldl dstep (dv (l.take p)) := by
    unfold dv
    rw [← List.foldl_append, List.take_append_drop]
  rw [h]
  exact fold_ge _ _
def isDig (c : UInt8) : Prop := 48 ≤ c.toNat ∧ c.toNat ≤ 57
theorem dig_dec : ∀ u : Nat, ∀ c ∈ Lib.decDigits u, isDig c := by
  intro u
  induction u using Nat.strongRecOn with
  | _ u ih =>
    intro c hc
    rw [Lib.decDigits] at hc
    split at hc
    · rename_i h
      rw [List.mem_singleton] at hc
      subst hc
      unfold isDig
      rw [ofNat_toNat _ (by omega)]
      omega
    · rename_i h
      rcases List.mem_append.1 hc with h1 | h1
      · exact ih (u / 10) (by omega) c h1
      · rw [List.mem_singleton] at h1
        subst h1
        unfold isDig
        rw [ofNat_toNat _ (by omega)]
        omega
theorem list_of (s : ByteArray) (m : Nat) (hs : itoaB m = s) : s.data.toList = Lib.decDigits m := by rw [← hs, itoaB_nat]
theorem take_snocB (s : ByteArray) (p : Nat) (h : p < s.size) : s.data.toList.take (p + 1) = s.data.toList.take p ++ [s[p]] := by
  rw [List.take_succ_eq_append_getElem (by simpa using h)]; rfl
def MT : Nat := 4611686018427387904
def Acc (s : ByteArray) (p : Nat) (n : Nat) : Prop := ∀ m : Nat, m ≤ MT → itoaB m = s → n = dv (s.data.toList.take p)
theorem acc_le {s : ByteArray} {p n : Nat} (hA : Acc s p n) (m : Nat) (hm : m ≤ MT) (hs : itoaB m = s) : n ≤ m := by
  rw [hA m hm hs]
  have h := dv_take s.data.toList p
  rw [list_of s m hs, dv_dec] at h
  rw [list_of s m hs]
  exact h
theorem acc_bad {s : ByteArray} {p : Nat} (h : p < s.size) (hb : s[p].toNat < 48 ∨ 57 < s[p].toNat) : ∀ m : Nat, m ≤ MT → itoaB m ≠ s := fun m hm hs => by
  have hl := list_of s m hs
  have hg : s[p] ∈ s.data.toList := by
    have : s[p] = s.data.toList[p]'(by simpa using h) := rfl
    rw [this]
    exact List.getElem_mem _
  rw [hl] at hg
  have := dig_dec m _ hg
  unfold isDig at this
  omega
theorem acc_big {s : ByteArray} {p n : Nat} (hA : Acc s p n) (h : MT < n) : ∀ m : Nat, m ≤ MT → itoaB m ≠ s := fun m hm hs => by
  have := acc_le hA m hm hs
  omega
theorem acc_step {s : ByteArray} {p n : Nat} (h : p < s.size) (hA : Acc s p n) (h1 : 48 ≤ s[p].toNat) : ∀ m : Nat, m ≤ MT → itoaB m = s → n * 10 + (s[p].toNat - 48) = dv (s.data.toList.take (p + 1)) := fun m hm hs => by
  rw [take_snocB s p h, dv_snoc, ← hA m hm hs]
  rfl
theorem acc_step_le {s : ByteArray} {p n : Nat} (h : p < s.size) (hA : Acc s p n) (h1 : 48 ≤ s[p].toNat) : ∀ m : Nat, m ≤ MT → itoaB m = s → n * 10 + (s[p].toNat - 48) ≤ m := fun m hm hs => by
  rw [acc_step h hA h1 m hm hs]
  have h := dv_take s.data.toList (p + 1)
  rw [list_of s m hs, dv_dec] at h
  rw [list_of s m hs]
  exact h
theorem acc_end {s : ByteArray} {n : Nat} (hA : Acc s s.size n) : ∀ m : Nat, m ≤ MT → itoaB m = s → n = m := fun m hm hs => by
  have h := hA m hm hs
  rw [List.take_of_length_le (by exact Nat.le_refl _), list_of s m hs, dv_dec] at h
  exact h
theorem beqB (a b : ByteArray) : (a.toList == b.toList) = true ↔ a = b := by
  rw [beq_iff_eq, ByteArray.toList_eq, ByteArray.toList_eq]
  exact ⟨fun h => ByteArray.ext (Array.toList_inj.1 h), fun h => by rw [h]⟩
end Go.Proofs.YtlffleigahfdlaaGreatDoor.Kt
/- A line in plain words: what a thing to do is told as, and what a line is read as; a thing that may be is read back from its line. -/
namespace Go.Proofs.YtlffleigahfdlaaGreatDoor.Kt
open Go.RowKit Go.Sort Go.Shelf
open Go.Proofs.YtlffleigahfdlaaGreatDoor.Tr
set_option linter.unusedVariables false
theorem dec_ne (u : Nat) : Lib.decDigits u ≠ [] := by
  rw [Lib.decDigits]
  split <;> simp
theorem parse_dec : ∀ (u : Nat) (r : List UInt8), u ≤ 9223372036854775808 → Lib.parseUint10 0 (Lib.decDigits u ++ r) = Lib.parseUint10 u r := by
  intro u
  induction u using Nat.strongRecOn with
  | _ u ih =>
    intro r hu
    rw [Lib.decDigits]
    split
    · rename_i h
      rw [List.singleton_append, Lib.parseUint10, ofNat_toNat _ (by omega), if_pos (by omega), if_neg (by omega), if_neg (by omega)]
      congr 1
      omega
    · rename_i h
      rw [List.append_assoc, ih (u / 10) (by omega) _ (by omega), List.singleton_append, Lib.parseUint10, ofNat_toNat _ (by omega), if_pos (by omega), if_neg (by omega), if_neg (by omega)]
      congr 1
      omega
theorem mag_dec (u : Nat) (hu : u ≤ 9223372036854775808) : Lib.parseMag (Lib.decDigits u) = .ok u := by
  unfold Lib.parseMag
  rw [if_neg (dec_ne u)]
  have := parse_dec u [] hu
  rw [List.append_nil] at this
  rw [this]
  rfl
theorem atoi_dec (n : Nat) (h : n ≤ 9223372036854775807) : Lib.atoiAll (Lib.decDigits n) = .ok (n : Int) := by
  cases hd : Lib.decDigits n with
  | nil => exact absurd hd (dec_ne _)
  | cons c r =>
    have hc := dig_dec n c (by rw [hd]; simp)
    unfold isDig at hc
    rw [Lib.atoiAll_plain c r (by omega) (by omega), ← hd, mag_dec _ (by omega)]
    show (if 9223372036854775808 ≤ n then Lib.NumEnd.range else Lib.NumEnd.ok (n : Int)) = _
    rw [if_neg (by omega)]
/-- the number that ParseInt hands out -/
def piV (l : List UInt8) : Int := match Lib.parseIntB 64 l with | .ok v => v | .range => Lib.intSat 64 l | _ => 0
theorem pi_dec (n : Nat) (h : n ≤ 9223372036854775807) : piV (Lib.decDigits n) = n := by
  unfold piV
  rw [Lib.parseIntB_64, atoi_dec n h]
theorem pi_w (l : List UInt8) : -9223372036854775808 ≤ piV l ∧ piV l ≤ 9223372036854775807 := by
  unfold piV
  cases h : Lib.parseIntB 64 l with
  | ok v =>
    have := Lib.parseIntB_bounds h
    dsimp only
    omega
  | range =>
    have : Lib.intSat 64 l = -9223372036854775808 ∨ Lib.intSat 64 l = 9223372036854775807 := by
      unfold Lib.intSat
      split
      · exact Or.inl (by decide)
      · exact Or.inr (by decide)
    dsimp only
    omega
  | _ => exact ⟨by show (-9223372036854775808 : Int) ≤ 0; decide, by show (0 : Int) ≤ _; decide⟩
abbrev noB (x : UInt8) (l : List UInt8) : Prop := ∀ c ∈ l, c ≠ x
theorem index_at (x : UInt8) (a b : List UInt8) (h : noB x a) : Lib.index (a ++ x :: b) [x] = a.length := by
  induction a with
  | nil => simp [Lib.index, List.isPrefixOf]
  | cons c a ih =>
    have hc : c ≠ x := h c (by simp)
    have ih := ih (fun d hd => h d (by simp [hd]))
    rw [List.cons_append, Lib.index, ih]
    have : (([x] : List UInt8).isPrefixOf (c :: (a ++ x :: b))) = false := by simp [List.isPrefixOf, Ne.symm hc]
    rw [this]
    simp
theorem index_no (x : UInt8) (a : List UInt8) (h : noB x a) : Lib.index a [x] = -1 := by
  induction a with
  | nil => rfl
  | cons c a ih =>
    have hc : c ≠ x := h c (by simp)
    have ih := ih (fun d hd => h d (by simp [hd]))
    rw [Lib.index, ih]
    have : (([x] : List UInt8).isPrefixOf (c :: a)) = false := by simp [List.isPrefixOf, Ne.symm hc]
    rw [this]
    rfl
theorem cut_at (x : UInt8) (a b : List UInt8) (h : noB x a) : Lib.cut (a ++ x :: b) [x] = (a, b, true) := by
  unfold Lib.cut
  rw [index_at x a b h, if_pos (by omega)]
  simp
theorem cut_no (x : UInt8) (a : List UInt8) (h : noB x a) : Lib.cut a [x] = (a, [], false) := by
  unfold Lib.cut
  rw [index_no x a h, if_neg (by decide)]
theorem cut_split (T s : ByteArray) (l r : List UInt8) (h : T.data.toList = l ++ (s.data.toList ++ r)) (i j : Nat) (hi : i = l.length) (hj : j = l.length + s.size) : T.extract i j = s := by
  apply ByteArray.ext
  apply Array.toList_inj.1
  rw [Lib.extract_data, h, hi, hj, List.drop_left, Nat.add_sub_cancel_left]
  exact List.take_left
theorem at_split (T : ByteArray) (l r : List UInt8) (x : UInt8) (h : T.data.toList = l ++ x :: r) (i : Nat) (hi : i = l.length) (hlt : i < T.size) : T[i] = x := by
  subst hi
  have e : T[l.length] = T.data.toList[l.length]'(by rw [h]; simp) := rfl
  rw [e]
  simp only [h]
  simp
theorem ba_ext {a b : ByteArray} (h : a.data.toList = b.data.toList) : a = b := ByteArray.ext (Array.toList_inj.1 h)
theorem last_at (s : ByteArray) (a b : List UInt8) (h : s.data.toList = a ++ 32 :: b) (hb : noB 32 b) : Lib.lastIndexByte s 32 = a.length := by
  have hz : s.size = a.length + 1 + b.length := by
    have e : s.size = s.data.toList.length := rfl
    rw [e, h, List.length_append, List.length_cons]; omega
  have g : ∀ j (hj : j < s.size), s.data[j]! = (a ++ 32 :: b)[j]'(by rw [List.length_append, List.length_cons]; omega) := fun j hj => by
    rw [getElem!_pos s.data j hj, ← Array.getElem_toList]
    simp only [h]
  have g0 : s.data[a.length]! = 32 := by rw [g a.length (by omega)]; simp
  rcases Lib.lastIndexByte_spec s 32 with ⟨_, hn⟩ | ⟨i, hi, e, hc, hn⟩
  · exact absurd (by rw [g0]; rfl) (hn a.length (by omega))
  · rw [e]
    rcases Nat.lt_trichotomy i a.length with h1 | h1 | h1
    · exact absurd (by rw [g0]; rfl) (hn a.length h1 (by omega))
    · rw [h1]
    · rw [g i hi, List.getElem_append_right (by omega)] at hc
      have e2 : ∃ q, i - a.length = q + 1 := ⟨i - a.length - 1, by omega⟩
      obtain ⟨q, hq⟩ := e2
      have hm : (32 :: b)[i - a.length]'(by rw [List.length_cons]; omega) ∈ b := by
        simp only [hq, List.getElem_cons_succ]
        exact List.getElem_mem _
      exact absurd (UInt8.toNat_inj.1 (by have : (32 : UInt8).toNat = 32 := rfl; omega)) (hb _ hm)
theorem last_no (s : ByteArray) (h : noB 32 s.data.toList) : Lib.lastIndexByte s 32 = -1 := by
  rcases Lib.lastIndexByte_spec s 32 with ⟨e, _⟩ | ⟨i, hi, e, hc, hn⟩
  · exact e
  · rw [getElem!_pos s.data i hi, ← Array.getElem_toList] at hc
    have hi' : i < s.data.toList.length := by simpa using hi
    have hm := List.getElem_mem hi'
    have h32 : (32 : UInt8).toNat = 32 := rfl
    exact absurd (UInt8.toNat_inj.1 (by omega)) (h _ hm)
theorem noB_dec (x : UInt8) (hx : x.toNat < 48) (n : Nat) : noB x (Lib.decDigits n) := fun c hc e => by
  have := dig_dec n c hc
  unfold isDig at this
  rw [e] at this
  omega
/-- a key's text, and what is read from one -/
def textB (a : Nat) (s : ByteArray) : ByteArray := itoaB a ++ ⟨#[58]⟩ ++ s
theorem textB_list (a : Nat) (s : ByteArray) : (textB a s).data.toList = Lib.decDigits a ++ 58 :: s.data.toList := by
  unfold textB
  rw [itoaB_nat]
  simp [ByteArray.data_append]
theorem textB_size (a : Nat) (s : ByteArray) : (textB a s).size = (itoaB a).size + 1 + s.size := by
  unfold textB
  rw [ByteArray.size_append, ByteArray.size_append]
  rfl
theorem itoaB_list (n : Nat) : (itoaB n).data.toList = Lib.decDigits n := by rw [itoaB_nat]
theorem itoaB_decsize (n : Nat) : (itoaB n).size = (Lib.decDigits n).length := by
  have e : (itoaB n).size = (itoaB n).data.toList.length := rfl
  rw [e, itoaB_list]
theorem scan_dec (n : Nat) : ∀ (r : List UInt8), n ≤ 65535 → scan (Lib.decDigits n ++ r) 0 0 = scan r (Lib.decDigits n).length n ∧ 1 ≤ (Lib.decDigits n).length := by
  induction n using Nat.strongRecOn with
  | _ n ih =>
    intro r h
    by_cases h10 : n < 10
    · rw [Lib.decDigits_one h10]
      have e : (UInt8.ofNat (48 + n)).toNat = 48 + n := by rw [UInt8.toNat_ofNat']; omega
      refine ⟨?_, by simp⟩
      simp only [List.singleton_append, scan, e]
      rw [if_pos (by simp [okAt]; omega)]
      simp
    · obtain ⟨h1, h2⟩ := ih (n / 10) (by omega) (UInt8.ofNat (48 + n % 10) :: r) (by omega)
      rw [Lib.decDigits, dif_neg h10, List.append_assoc, List.singleton_append]
      have e : (UInt8.ofNat (48 + n % 10)).toNat = 48 + n % 10 := by rw [UInt8.toNat_ofNat']; omega
      refine ⟨?_, by simp⟩
      rw [h1, scan, e, if_pos (by simp [okAt]; omega)]
      rw [show n / 10 * 10 + (48 + n % 10 - 48) = n by omega]
      simp
def isTextD (s : ByteArray) (I : Nat) : Decidable (isText s I) := by
  unfold isText
  exact inferInstance
def kp (s : ByteArray) : Nat × ByteArray × Bool := @ite _ (isText s (scan s.data.toList 0 0).2) (isTextD s _) ((scan s.data.toList 0 0).1, s.extract ((scan s.data.toList 0 0).2 + 1) s.size, true) (0, ⟨#[]⟩, false)
theorem kp_sp (s : ByteArray) : (kp s).1 ≤ 65535 := by
  unfold kp
  split
  · exact (scan_le _ 0 0 (by omega)).1
  · exact Nat.zero_le _
theorem kp_nm (s : ByteArray) : (kp s).2.1.size ≤ 64 := by
  unfold kp
  split
  · rename_i h
    have := h.2.2
    show (s.extract _ _).size ≤ 64
    rw [ByteArray.size_extract]
    omega
  · exact Nat.zero_le _
theorem kp_text (a : Nat) (s : ByteArray) (h1 : a ≤ 65535) (h : s.size ≤ 64) : kp (textB a s) = (a, s, true) := by
  have hl := textB_list a s
  obtain ⟨d1, d2⟩ := scan_dec a (58 :: s.data.toList) h1
  have hsc : scan (textB a s).data.toList 0 0 = (a, (Lib.decDigits a).length) := by
    rw [hl, d1, scan, if_neg (by simp [okAt])]
  have hz : (textB a s).size = (Lib.decDigits a).length + 1 + s.size := by rw [textB_size, itoaB_decsize]
  unfold kp
  rw [hsc]
  dsimp only
  have hlt : (Lib.decDigits a).length < (textB a s).size := by omega
  have h58 := at_split _ _ _ _ hl _ rfl hlt
  rw [if_pos ⟨by omega, ⟨hlt, by rw [h58]; rfl⟩, by omega⟩]
  rw [cut_split (textB a s) s (Lib.decDigits a ++ [58]) [] (by rw [hl]; simp) ((Lib.decDigits a).length + 1) (textB a s).size (by simp) (by rw [hz]; simp)]
end Go.Proofs.YtlffleigahfdlaaGreatDoor.Kt
