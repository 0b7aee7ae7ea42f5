/- A key read from a text, by the program and by the document (layer 2's texts, laid anew); the text's length is within the form's reach. -/
import Derived.Test.YtlffleigahfdlaaGreatDoorEvs
import Derived.Shelf.Strconv.Clone
import Derived.Shelf.SlSortCmp.QuietGrown
import Derived.WalkKit
import Derived.ProofKit
import Derived.BigQuiet
import Derived.Deep.QuietTactic
import Derived.Laws.IdiomStrings
namespace Go.Proofs.YtlffleigahfdlaaGreatDoor.Kt
open Go.RowKit Go.Sort Go.Shelf
set_option linter.unusedVariables false
def Gr (w w' : World) : Prop := ∃ q os, w' = grow (w.drewN q) os
theorem Gr.refl (w : World) : Gr w w := ⟨0, #[], by rw [grow_empty]; rfl⟩
theorem Gr.alloc {w w' : World} (h : Gr w w') (o : Obj) : Gr w (w'.alloc o) := by
  obtain ⟨q, os, rfl⟩ := h
  exact ⟨q, os ++ #[o], by rw [alloc_eq_grow, grow_grow]⟩
theorem Gr.grow {w w' : World} (h : Gr w w') (n : Nat) (os' : Array Obj) : Gr w (grow (w'.drewN n) os') := by
  obtain ⟨q, os, rfl⟩ := h
  exact ⟨q + n, os ++ os', by show Sort.grow (Sort.grow ((w.drewN q).drewN n) os) os' = _; rw [grow_grow, World.drewN_drewN]⟩
theorem Gr.drewN {w w' : World} (h : Gr w w') (n : Nat) : Gr w (w'.drewN n) := by
  have := h.grow n #[]
  rwa [grow_empty] at this
theorem Gr.drew {w w' : World} (h : Gr w w') : Gr w w'.drew := h.drewN 1
theorem Gr.trans {a b c : World} (h : Gr a b) (k : Gr b c) : Gr a c := by
  obtain ⟨q, os, rfl⟩ := k
  exact h.grow q os
theorem Gr.touch {w w' : World} (h : Gr w w') : Touch [] w w' := by
  obtain ⟨q, os, rfl⟩ := h
  exact ⟨rfl, rfl, rfl, by rw [size_grow]; exact Nat.le_add_right _ _, fun k hk _ => heap_grow_old _ _ hk⟩
theorem Gr.below {w w' : World} (h : Gr w w') : Below w.heap.size w w' := by
  obtain ⟨q, os, rfl⟩ := h
  exact ⟨rfl, rfl, rfl, by rw [size_grow]; exact Nat.le_add_right _ _, fun k hk => heap_grow_old _ _ hk⟩
theorem Gr.cell {w w' : World} (hg : Gr w w') {a : Addr} {v : Value} (h : w.cell? a = some v) (hb : a.block < w.heap.size) : w'.cell? a = some v := by
  rw [hg.below.cell hb]; exact h
theorem Gr.size {w w' : World} (hg : Gr w w') : w.heap.size ≤ w'.heap.size := hg.below.size
theorem gr_grow (w : World) (n : Nat) (os : Array Obj) : Gr w (grow (w.drewN n) os) := ⟨n, os, rfl⟩
theorem check13_ok (a : Int) (s : ByteArray) (w : World) (h : s.size ≤ 64) :
    Calls Tryz.prog 84 #[.agg #[.int .u16 a, .string s]] w fun e w' => e = .returned (.int .i64 0) ∧ Gr w w' := by
  go_enter Tryz.func84, Tryz.ntmps84
  go_wp2
  go_ret
  exact ⟨rfl, (Gr.refl _).alloc _⟩
theorem check13_no (a : Int) (s : ByteArray) (w : World) (h : 64 < s.size) :
    Calls Tryz.prog 84 #[.agg #[.int .u16 a, .string s]] w fun e w' => e = .returned (.int .i64 20) ∧ Gr w w' := by
  have h' : (64 : Int) < (s.size : Int) := by omega
  go_enter Tryz.func84, Tryz.ntmps84
  go_wp2
  go_ret
  exact ⟨rfl, (Gr.refl _).alloc _⟩

def cren : Go.Shelf.Ren := ⟨fun | 316 => 141 | n => n, fun | 37 => 96 | 127 => 137 | n => n, fun | n => n⟩
theorem claysM : Go.Proofs.LaysM.n316 Tryz.prog cren := {
  mixed := by kernel_rfl
  f316 := Tryz.func141.trans (congrArg some (by kernel_rfl))
  t0 := Tryz.underlying0
  a0 := Tryz.isAgg0
  z0 := Tryz.sizeOf0
  v0 := Tryz.zeroValue0
  t3 := Tryz.underlying3
  a3 := Tryz.isAgg3
  z3 := Tryz.sizeOf3
  v3 := Tryz.zeroValue3
  t4 := Tryz.underlying4
  a4 := Tryz.isAgg4
  z4 := Tryz.sizeOf4
  v4 := Tryz.zeroValue4
  t5 := Tryz.underlying5
  a5 := Tryz.isAgg5
  z5 := Tryz.sizeOf5
  v5 := Tryz.zeroValue5
  t9 := Tryz.underlying9
  a9 := Tryz.isAgg9
  z9 := Tryz.sizeOf9
  v9 := Tryz.zeroValue9
  t37 := Tryz.underlying96
  a37 := Tryz.isAgg96
  z37 := Tryz.sizeOf96
  v37 := Tryz.zeroValue96
  t127 := Tryz.underlying137
  a127 := Tryz.isAgg137
  z127 := Tryz.sizeOf137
  v127 := Tryz.zeroValue137
  i0 := by kernel_rfl
  i3 := by kernel_rfl
  i4 := by kernel_rfl
  i5 := by kernel_rfl
  i9 := by kernel_rfl
  i37 := by kernel_rfl
  i127 := by kernel_rfl }
theorem clone36 (s : ByteArray) (w : World) (hs : s.size ≤ 281474976710656) :
    Calls Tryz.prog 111 #[.string s] w fun e w' => e = .returned (.string s) ∧ Below w.heap.size w w' := by
  have H : Hid _ := hs
  clear hs
  go_enter Tryz.func111, Tryz.ntmps111
  go_wp2_with (go_at_call 141; refine (Any.stringslite_Clone claysM s _ H.out).mono ?_; rintro e w1 ⟨rfl, hg⟩)
  go_ret
  exact ⟨rfl, hg⟩

def zeroKey : Value := .agg #[.int .u16 0, .string ⟨#[]⟩]

def okAt (i n c : Nat) : Bool := decide (48 ≤ c) && decide (c ≤ 57) && !(decide (0 < i) && decide (n = 0)) && decide (n * 10 + (c - 48) ≤ 65535)
def scan : List UInt8 → Nat → Nat → Nat × Nat
  | [], i, n => (n, i)
  | c :: l, i, n => if okAt i n c.toNat then scan l (i + 1) (n * 10 + (c.toNat - 48)) else (n, i)
theorem scan_le : ∀ (l : List UInt8) (i n : Nat), n ≤ 65535 → (scan l i n).1 ≤ 65535 ∧ i ≤ (scan l i n).2 ∧ (scan l i n).2 ≤ i + l.length
  | [], i, n, h => by simp [scan, h]
  | c :: l, i, n, h => by
    unfold scan
    by_cases hk : okAt i n c.toNat = true
    · rw [if_pos hk]
      have h2 : n * 10 + (c.toNat - 48) ≤ 65535 := by
        simp [okAt] at hk
        omega
      have := scan_le l (i + 1) _ h2
      simp only [List.length_cons]
      omega
    · rw [if_neg hk]
      simp [h]
theorem drop_end (s : ByteArray) (k : Nat) (h : ¬ k < s.size) : s.data.toList.drop k = [] := List.drop_of_length_le (by show s.size ≤ k; omega)
theorem scan_go (s : ByteArray) (k n : Nat) (h : k < s.size) (ho : okAt k n s[k].toNat = true) : scan (s.data.toList.drop k) k n = scan (s.data.toList.drop (k + 1)) (k + 1) (n * 10 + (s[k].toNat - 48)) := by
  rw [show s.data.toList.drop k = s[k] :: s.data.toList.drop (k + 1) by rw [List.drop_eq_getElem_cons (by simpa using h)]; rfl]
  conv => lhs; unfold scan
  rw [if_pos ho]
theorem scan_stop (s : ByteArray) (k n : Nat) (h : k < s.size) (ho : okAt k n s[k].toNat = false) : scan (s.data.toList.drop k) k n = (n, k) := by
  rw [show s.data.toList.drop k = s[k] :: s.data.toList.drop (k + 1) by rw [List.drop_eq_getElem_cons (by simpa using h)]; rfl]
  unfold scan
  rw [if_neg (by rw [ho]; simp)]
theorem scan_end (s : ByteArray) (k n : Nat) (h : ¬ k < s.size) : scan (s.data.toList.drop k) k n = (n, k) := by
  rw [drop_end s k h]; rfl

theorem ret2 {k l : IntKind} {a b c d : Int} (h : a = b) (h' : c = d) : Ending.returned (.tuple #[.int k a, .int l c]) = .returned (.tuple #[.int k b, .int l d]) := by rw [h, h']

set_option maxHeartbeats 1000000 in
theorem digits35 (s : ByteArray) (w : World) (hs : s.size ≤ 281474976710656) (N I : Nat) (hN : scan s.data.toList 0 0 = (N, I)) :
    Calls Tryz.prog 110 #[.string s] w fun e w' => e = .returned (.tuple #[.int .u16 N, .int .i64 I]) ∧ w' = w := by
  have HN : Hid _ := hN
  clear hN
  go_enter Tryz.func110, Tryz.ntmps110
  go_wp2
  go_loop [4, 9] (fun v i => ∃ k n : Nat, k ≤ s.size ∧ n ≤ 65535 ∧ i = .int .i64 k ∧ v = .int .i64 n ∧ Hid (scan (s.data.toList.drop k) k n = (N, I))) (fun _ i => s.size - (intOf i).toNat)
  case atStart => exact ⟨0, 0, Nat.zero_le _, by omega, rfl, rfl, HN⟩
  case round =>
    obtain ⟨k, n, hk, hn, rfl, rfl, HS⟩ := hrel
    have wn : IntKind.u16.wrap (n : Int) = (n : Int) := by rw [IntKind.wrap_u16]; omega
    by_cases hlt : k < s.size
    · have hz : (k : Int) < (s.size : Int) := by omega
      obtain ⟨c, hc⟩ : ∃ c : Nat, s[k].toNat = c := ⟨_, rfl⟩
      have hc1 : c < 256 := by rw [← hc]; exact s[k].toNat_lt
      by_cases ho : okAt k n c = true
      · have HG : Hid (scan (s.data.toList.drop (k + 1)) (k + 1) (n * 10 + (c - 48)) = (N, I)) := by
          have := scan_go s k n hlt (by rw [hc]; exact ho)
          rw [hc, HS.out] at this
          exact this.symm
        simp [okAt] at ho
        obtain ⟨⟨⟨o1, o2⟩, o3⟩, o4⟩ := ho
        have p1 : ¬ (c : Int) < 48 := by omega
        have p2 : ¬ (57 : Int) < (c : Int) := by omega
        have p4 : ¬ (65535 : Int) < (n : Int) * 10 + ((c : Int) - 48) := by omega
        have p5 : ((c : Int) - 48) % 256 = (c : Int) - 48 := by omega
        have p6 : (n : Int) * 10 + ((c : Int) - 48) = ((n * 10 + (c - 48) : Nat) : Int) := by omega
        have P6 : Hid _ := p6
        clear p6
        by_cases hk0 : 0 < k
        · have q1 : (0 : Int) < (k : Int) := by omega
          have q2 : ¬ (n : Int) = 0 := by omega
          go_wp2
          go_round
          case rel => exact ⟨k + 1, n * 10 + (c - 48), by omega, o4, by go_num, by rw [← P6.out], HG⟩
          case measure => simp [intOf]; omega
        · have q1 : ¬ (0 : Int) < (k : Int) := by omega
          go_wp2
          go_round
          case rel => exact ⟨k + 1, n * 10 + (c - 48), by omega, o4, by go_num, by rw [← P6.out], HG⟩
          case measure => simp [intOf]; omega
      · have HT : Hid (n = N ∧ k = I) := by
          have := scan_stop s k n hlt (by rw [hc]; simpa using ho)
          rw [HS.out] at this
          simp only [Prod.mk.injEq] at this
          exact ⟨this.1.symm, this.2.symm⟩
        by_cases p1 : c < 48
        · have p1' : (c : Int) < 48 := by omega
          go_wp2
          go_ret2
          exact ⟨ret2 (by have := HT.out.1; omega) (by have := HT.out.2; omega), rfl⟩
        by_cases p2 : 57 < c
        · have p1' : ¬ (c : Int) < 48 := by omega
          have p2' : (57 : Int) < (c : Int) := by omega
          go_wp2
          go_ret2
          exact ⟨ret2 (by have := HT.out.1; omega) (by have := HT.out.2; omega), rfl⟩
        have p1' : ¬ (c : Int) < 48 := by omega
        have p2' : ¬ (57 : Int) < (c : Int) := by omega
        by_cases p3 : 0 < k ∧ n = 0
        · obtain ⟨p3, rfl⟩ := p3
          have q1 : (0 : Int) < (k : Int) := by omega
          go_wp2
          go_ret2
          exact ⟨ret2 (by have := HT.out.1; omega) (by have := HT.out.2; omega), rfl⟩
        have p4 : (65535 : Int) < (n : Int) * 10 + ((c : Int) - 48) := by
          simp [okAt] at ho
          omega
        have p5 : ((c : Int) - 48) % 256 = (c : Int) - 48 := by omega
        by_cases hk0 : 0 < k
        · have q1 : (0 : Int) < (k : Int) := by omega
          have q2 : ¬ (n : Int) = 0 := by omega
          go_wp2
          go_ret2
          exact ⟨ret2 (by have := HT.out.1; omega) (by have := HT.out.2; omega), rfl⟩
        · have q1 : ¬ (0 : Int) < (k : Int) := by omega
          go_wp2
          go_ret2
          exact ⟨ret2 (by have := HT.out.1; omega) (by have := HT.out.2; omega), rfl⟩
    · have HT : Hid (n = N ∧ k = I) := by
        have := scan_end s k n hlt
        rw [HS.out] at this
        simp only [Prod.mk.injEq] at this
        exact ⟨this.1.symm, this.2.symm⟩
      have hz : ¬ (k : Int) < (s.size : Int) := by omega
      have HK : Hid (s.size = k) := by show s.size = k; omega
      go_wp2
      go_ret2
      exact ⟨ret2 (by rw [HT.out.1]) (by rw [HK.out, HT.out.2]), rfl⟩

theorem parse14_bad (s : ByteArray) (w : World) (hs : s.size ≤ 281474976710656) (N I : Nat) (hN : scan s.data.toList 0 0 = (N, I)) (hI : I ≤ s.size) (h : I = 0 ∨ I = s.size ∨ ∃ h : I < s.size, s[I].toNat ≠ 58) :
    Calls Tryz.prog 88 #[.string s] w fun e w' => e = .returned (.tuple #[zeroKey, .int .i64 I, .int .i64 20]) ∧ Below w.heap.size w w' := by
  have D : Hid _ := fun w => digits35 s w hs N I hN
  clear hN
  by_cases h0 : I = 0
  · subst h0
    go_enter Tryz.func88, Tryz.ntmps88
    go_wp2_with fail
    refine (D.out _).mono ?_
    rintro e w1 ⟨rfl, rfl⟩
    go_wp2
    exact bodyPost_ret (v := .tuple #[zeroKey, .int .i64 0, .int .i64 20]) (by simp [results, Tryz.results88, go_sem, zeroKey]) rfl ⟨rfl, (Below.refl _ _).alloc (Nat.le_refl _) _⟩
  · have h0' : ¬ (I : Int) = 0 := by omega
    by_cases h1 : I = s.size
    · subst h1
      have b0 : ((s.size : Int) == 0) = false := by simpa using h0'
      clear h hI
      go_enter Tryz.func88, Tryz.ntmps88
      go_wp2_with fail
      refine (D.out _).mono ?_
      rintro e w1 ⟨rfl, rfl⟩
      go_wp2
      exact bodyPost_ret (v := .tuple #[zeroKey, .int .i64 s.size, .int .i64 20]) (by simp [results, Tryz.results88, go_sem, zeroKey]) rfl ⟨rfl, (Below.refl _ _).alloc (Nat.le_refl _) _⟩
    · have h1' : ¬ (I : Int) = (s.size : Int) := by omega
      have hz : (I : Int) < (s.size : Int) := by omega
      obtain ⟨hlt, hne⟩ : ∃ h : I < s.size, s[I].toNat ≠ 58 := by
        rcases h with h | h | h
        · exact absurd h h0
        · exact absurd h h1
        · exact h
      obtain ⟨c, hc⟩ : ∃ c : Nat, s[I].toNat = c := ⟨_, rfl⟩
      have hne' : ¬ (c : Int) = 58 := by omega
      have b0 : ((I : Int) == 0) = false := by simpa using h0'
      have b1 : ((I : Int) == (s.size : Int)) = false := by simpa using h1'
      have b2 : ((c : Int) == 58) = false := by simpa using hne'
      clear h0' h1' hne'
      clear h
      go_enter Tryz.func88, Tryz.ntmps88
      go_wp2_with fail
      refine (D.out _).mono ?_
      rintro e w1 ⟨rfl, rfl⟩
      go_wp2
      exact bodyPost_ret (v := .tuple #[zeroKey, .int .i64 I, .int .i64 20]) (by simp [results, Tryz.results88, go_sem, zeroKey]) rfl ⟨rfl, (Below.refl _ _).alloc (Nat.le_refl _) _⟩
theorem parse14_long (s : ByteArray) (w : World) (hs : s.size ≤ 281474976710656) (N I : Nat) (hN : scan s.data.toList 0 0 = (N, I)) (h0 : I ≠ 0) (hlt : I < s.size) (h58 : s[I].toNat = 58) (hl : 64 < s.size - (I + 1)) :
    Calls Tryz.prog 88 #[.string s] w fun e w' => e = .returned (.tuple #[zeroKey, .int .i64 ((I : Int) + 1 + 64), .int .i64 20]) ∧ Below w.heap.size w w' := by
  have D : Hid _ := fun w => digits35 s w hs N I hN
  clear hN
  have h0' : ¬ (I : Int) = 0 := by omega
  have h1' : ¬ (I : Int) = (s.size : Int) := by omega
  have hz : (I : Int) < (s.size : Int) := by omega
  have hl' : (64 : Int) < (s.size : Int) - ((I : Int) + 1) := by omega
  have b0 : ((I : Int) == 0) = false := by simpa using h0'
  have b1 : ((I : Int) == (s.size : Int)) = false := by simpa using h1'
  clear h0' h1'
  go_enter Tryz.func88, Tryz.ntmps88
  go_wp2_with fail
  refine (D.out _).mono ?_
  rintro e w1 ⟨rfl, rfl⟩
  go_wp2
  exact bodyPost_ret (v := .tuple #[zeroKey, .int .i64 ((I : Int) + 1 + 64), .int .i64 20]) (by simp [results, Tryz.results88, go_sem, zeroKey]) rfl ⟨rfl, (Below.refl _ _).alloc (Nat.le_refl _) _⟩
set_option maxHeartbeats 1000000 in
theorem parse14_ok (s : ByteArray) (w : World) (hs : s.size ≤ 281474976710656) (N I : Nat) (hN : scan s.data.toList 0 0 = (N, I)) (h0 : I ≠ 0) (hlt : I < s.size) (h58 : s[I].toNat = 58) (hl : s.size - (I + 1) ≤ 64) :
    Calls Tryz.prog 88 #[.string s] w fun e w' => e = .returned (.tuple #[.agg #[.int .u16 N, .string (s.extract (I + 1) s.size)], .int .i64 0, .int .i64 0]) ∧ Below w.heap.size w w' := by
  have D : Hid _ := fun w => digits35 s w hs N I hN
  have C : Hid _ := fun w => clone36 (s.extract (I + 1) s.size) w (by rw [ByteArray.size_extract]; omega)
  clear hN
  have h0' : ¬ (I : Int) = 0 := by omega
  have h1' : ¬ (I : Int) = (s.size : Int) := by omega
  have hz : (I : Int) < (s.size : Int) := by omega
  have hl' : ¬ (64 : Int) < (s.size : Int) - ((I : Int) + 1) := by omega
  have b0 : ((I : Int) == 0) = false := by simpa using h0'
  have b1 : ((I : Int) == (s.size : Int)) = false := by simpa using h1'
  clear h0' h1'
  have hsl : ∀ w, (Instr.slice 9 (.string s) (some (.int .i64 ((I : Int) + 1))) none none).run Tryz.prog w = .ok (.string (s.extract (I + 1) s.size)) w := fun w => by
    rw [run_slice_string_l w 9 s Tryz.underlying9 .i64 ((I : Int) + 1) (by omega) (by omega), show ((I : Int) + 1).toNat = I + 1 by omega]
  go_enter Tryz.func88, Tryz.ntmps88
  go_wp2_with fail
  refine (D.out _).mono ?_
  rintro e w1 ⟨rfl, hw1⟩
  subst hw1
  go_wp2_with fail
  refine (C.out _).mono ?_
  rintro e w2 ⟨rfl, hb⟩
  have c0 : w2.cell? ⟨w.heap.size, 0, none⟩ = some (.int .u16 0) := by rw [hb.cell (by simp)]; simp
  have c1 : w2.cell? ⟨w.heap.size, 1, none⟩ = some (.string ⟨#[]⟩) := by rw [hb.cell (by simp)]; simp
  have f0 : w2.frozen? ⟨w.heap.size, 0, none⟩ = false := by rw [hb.frozen (by simp)]; simp
  have f1 : w2.frozen? ⟨w.heap.size, 1, none⟩ = false := by rw [hb.frozen (by simp)]; simp
  have B : Hid (Below w.heap.size w w2) := ((Below.refl _ _).alloc (Nat.le_refl _) _).trans (hb.mono (by simp))
  clear hb
  go_wp2
  exact bodyPost_ret (v := .tuple #[.agg #[.int .u16 N, .string (s.extract (I + 1) s.size)], .int .i64 0, .int .i64 0]) (by simp [results, Tryz.results88, go_sem, c0, c1]) rfl
    ⟨rfl, (B.out.setCell (Nat.le_refl _) _).setCell (Nat.le_refl _) _⟩

def isBad (s : ByteArray) (I : Nat) : Prop := I = 0 ∨ I = s.size ∨ ∃ h : I < s.size, s[I].toNat ≠ 58
def isLong (s : ByteArray) (I : Nat) : Prop := I ≠ 0 ∧ (∃ h : I < s.size, s[I].toNat = 58) ∧ 64 < s.size - (I + 1)
def isText (s : ByteArray) (I : Nat) : Prop := I ≠ 0 ∧ (∃ h : I < s.size, s[I].toNat = 58) ∧ s.size - (I + 1) ≤ 64
end Go.Proofs.YtlffleigahfdlaaGreatDoor.Kt
