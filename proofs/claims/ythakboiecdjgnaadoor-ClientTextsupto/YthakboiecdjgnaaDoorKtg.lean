/- A thing to do told as a line, by the document; no conditions but that it may be. -/
import Derived.Test.YthakboiecdjgnaaDoorKte
import Derived.Test.YthakboiecdjgnaaDoorCfo
namespace Go.Proofs.YthakboiecdjgnaaDoor.Kt
open Go.RowKit Go.Sort Go.Shelf
open Go.Proofs.YthakboiecdjgnaaDoor.Ci
set_option linter.unusedVariables false
theorem word_size' (k : Nat) : (kWord k).size ≤ 6 := by
  unfold kWord
  split <;> decide
theorem formK (k : Nat) (h1 : 1 ≤ k) (h2 : k ≤ 9) : ∃ lo hi, ∀ w, Calls Tryd.prog 47 #[.int .i64 k] w fun e w' => e = .returned (.agg #[.string (kWord k), .bool (kKey k), .bool (decide (0 < kSh k)), .bool (decide (0 < kNh k)), .int .i64 lo, .int .i64 hi]) ∧ Touch [] w w' := by
  match k, h1, h2 with
  | 1, _, _ => exact ⟨_, _, form_1⟩
  | 2, _, _ => exact ⟨_, _, form_2⟩
  | 3, _, _ => exact ⟨_, _, form_3⟩
  | 4, _, _ => exact ⟨_, _, form_4⟩
  | 5, _, _ => exact ⟨_, _, form_5⟩
  | 6, _, _ => exact ⟨_, _, form_6⟩
  | 7, _, _ => exact ⟨_, _, form_7⟩
  | 8, _, _ => exact ⟨_, _, form_8⟩
  | 9, _, _ => exact ⟨_, _, form_9⟩
set_option maxHeartbeats 1000000 in
theorem lnd_key (k : Nat) (sp : Nat) (nm : ByteArray) (b1 : sp ≤ 65535) (b2 : nm.size ≤ 64) (wd : ByteArray) (lo hi : Int) (w : World) (hwd : kWord k = wd)
    (HF : Hid (∀ w, Calls Tryd.prog 47 #[.int .i64 k] w fun e w' => e = .returned (.agg #[.string wd, .bool true, .bool false, .bool false, .int .i64 lo, .int .i64 hi]) ∧ Touch [] w w')) :
    Calls Tryd.prog 35 #[.agg #[.int .i64 k, .int .u16 sp, .string nm, .int .i64 0, .int .i64 0]] w fun e w' => e = .returned (.string (kWord k ++ (⟨#[32]⟩ ++ textB sp nm))) ∧ Touch [] w w' := by
  have HK : Hid (∀ w', _) := fun w' => ref11_ok sp nm w' b2 b1
  rw [show itoaB sp ++ ⟨#[58]⟩ ++ nm = textB sp nm from rfl] at HK
  have zt : (textB sp nm).size ≤ 100 := by rw [textB_size]; have := itoaB_len sp (by omega); omega
  have zw := word_size' k
  have h32 : (ByteArray.mk #[32]).size = 1 := rfl
  generalize textB sp nm = T at *
  rw [hwd] at zw ⊢
  have a1 : ∀ w, (Op.stringOp .add ⟨#[32]⟩ T).run Tryd.prog w = .ok (.string (⟨#[32]⟩ ++ T)) w := fun w => run_string_add_sum w _ _ (by omega)
  have a2 : ∀ w, (Op.stringOp .add wd (⟨#[32]⟩ ++ T)).run Tryd.prog w = .ok (.string (wd ++ (⟨#[32]⟩ ++ T))) w := fun w => run_string_add_sum w _ _ (by rw [ByteArray.size_append]; omega)
  clear hwd zw h32 zt b1 b2
  go_enter Tryd.func35, Tryd.ntmps35
  go_wp2_with fail
  refine (HF.out _).mono ?_
  rintro e w1 ⟨rfl, t1⟩
  have q1 : w1.cell? ⟨w.heap.size, 1, none⟩ = some (.int .u16 sp) := tcell t1 (by simp)
  have q2 : w1.cell? ⟨w.heap.size, 2, none⟩ = some (.string nm) := tcell t1 (by simp)
  have q3 : w1.cell? ⟨w.heap.size, 3, none⟩ = some (.int .i64 0) := tcell t1 (by simp)
  have q4 : w1.cell? ⟨w.heap.size, 4, none⟩ = some (.int .i64 0) := tcell t1 (by simp)
  have hw1 : w.heap.size < w1.heap.size := Nat.lt_of_lt_of_le (by simp) t1.size
  have G1 : Hid (Touch [] w w1) := ((Touch.refl [] w).alloc _).trans' t1
  clear t1
  go_wp2_with fail
  refine (HK.out _).mono ?_
  rintro e w2 ⟨rfl, g2⟩
  have t2 := g2.touch
  clear g2
  replace q1 := tcell t2 (tcell ((Touch.refl [] w1).alloc _) q1)
  replace q2 := tcell t2 (tcell ((Touch.refl [] w1).alloc _) q2)
  replace q3 := tcell t2 (tcell ((Touch.refl [] w1).alloc _) q3)
  replace q4 := tcell t2 (tcell ((Touch.refl [] w1).alloc _) q4)
  have r1 : w2.cell? ⟨w1.heap.size, 1, none⟩ = some (.bool true) := tcell t2 (by simp)
  have r2 : w2.cell? ⟨w1.heap.size, 2, none⟩ = some (.bool false) := tcell t2 (by simp)
  have r3 : w2.cell? ⟨w1.heap.size, 3, none⟩ = some (.bool false) := tcell t2 (by simp)
  have G2 : Hid (Touch [] w w2) := (G1.out.alloc _).trans' t2
  clear t2
  go_wp2_with fail
  go_ret
  exact ⟨by first | rfl | (rw [ByteArray.append_assoc, ByteArray.append_assoc]; rfl), G2.out⟩
set_option maxHeartbeats 1000000 in
theorem lnd_both (k : Nat) (sp : Nat) (nm : ByteArray) (b1 : sp ≤ 65535) (b2 : nm.size ≤ 64) (sl : Nat) (b3 : sl ≤ 15) (wd : ByteArray) (lo hi : Int) (w : World) (hwd : kWord k = wd)
    (HF : Hid (∀ w, Calls Tryd.prog 47 #[.int .i64 k] w fun e w' => e = .returned (.agg #[.string wd, .bool true, .bool true, .bool false, .int .i64 lo, .int .i64 hi]) ∧ Touch [] w w')) :
    Calls Tryd.prog 35 #[.agg #[.int .i64 k, .int .u16 sp, .string nm, .int .i64 0, .int .i64 sl]] w fun e w' => e = .returned (.string (kWord k ++ (⟨#[32]⟩ ++ (textB sp nm ++ (⟨#[32]⟩ ++ itoaB sl))))) ∧ Touch [] w w' := by
  have HK : Hid (∀ w', _) := fun w' => ref11_ok sp nm w' b2 b1
  rw [show itoaB sp ++ ⟨#[58]⟩ ++ nm = textB sp nm from rfl] at HK
  have HI : Hid (∀ w', _) := fun w' => num55 sl sl w' (Nat.le_refl _) (by omega)
  have hw : IntKind.i64.wrap (sl : Int) = sl := by rw [IntKind.wrap_i64]; omega
  have zt : (textB sp nm).size ≤ 100 := by rw [textB_size]; have := itoaB_len sp (by omega); omega
  have zi : (itoaB sl).size ≤ 20 := itoaB_len sl (by omega)
  have zw := word_size' k
  have h32 : (ByteArray.mk #[32]).size = 1 := rfl
  generalize textB sp nm = T at *
  generalize itoaB sl = I at *
  rw [hwd] at zw ⊢
  have a1 : ∀ w, (Op.stringOp .add ⟨#[32]⟩ T).run Tryd.prog w = .ok (.string (⟨#[32]⟩ ++ T)) w := fun w => run_string_add_sum w _ _ (by omega)
  have a2 : ∀ w, (Op.stringOp .add wd (⟨#[32]⟩ ++ T)).run Tryd.prog w = .ok (.string (wd ++ (⟨#[32]⟩ ++ T))) w := fun w => run_string_add_sum w _ _ (by rw [ByteArray.size_append]; omega)
  have a3 : ∀ w, (Op.stringOp .add ⟨#[32]⟩ I).run Tryd.prog w = .ok (.string (⟨#[32]⟩ ++ I)) w := fun w => run_string_add_sum w _ _ (by omega)
  have a4 : ∀ w, (Op.stringOp .add (wd ++ (⟨#[32]⟩ ++ T)) (⟨#[32]⟩ ++ I)).run Tryd.prog w = .ok (.string ((wd ++ (⟨#[32]⟩ ++ T)) ++ (⟨#[32]⟩ ++ I))) w := fun w => run_string_add_sum w _ _ (by rw [ByteArray.size_append, ByteArray.size_append, ByteArray.size_append]; omega)
  clear hwd zw h32 zt zi b1 b2 b3
  go_enter Tryd.func35, Tryd.ntmps35
  go_wp2_with fail
  refine (HF.out _).mono ?_
  rintro e w1 ⟨rfl, t1⟩
  have q1 : w1.cell? ⟨w.heap.size, 1, none⟩ = some (.int .u16 sp) := tcell t1 (by simp)
  have q2 : w1.cell? ⟨w.heap.size, 2, none⟩ = some (.string nm) := tcell t1 (by simp)
  have q3 : w1.cell? ⟨w.heap.size, 3, none⟩ = some (.int .i64 0) := tcell t1 (by simp)
  have q4 : w1.cell? ⟨w.heap.size, 4, none⟩ = some (.int .i64 sl) := tcell t1 (by simp)
  have hw1 : w.heap.size < w1.heap.size := Nat.lt_of_lt_of_le (by simp) t1.size
  have G1 : Hid (Touch [] w w1) := ((Touch.refl [] w).alloc _).trans' t1
  clear t1
  go_wp2_with fail
  refine (HK.out _).mono ?_
  rintro e w2 ⟨rfl, g2⟩
  have t2 := g2.touch
  clear g2
  replace q1 := tcell t2 (tcell ((Touch.refl [] w1).alloc _) q1)
  replace q2 := tcell t2 (tcell ((Touch.refl [] w1).alloc _) q2)
  replace q3 := tcell t2 (tcell ((Touch.refl [] w1).alloc _) q3)
  replace q4 := tcell t2 (tcell ((Touch.refl [] w1).alloc _) q4)
  have r1 : w2.cell? ⟨w1.heap.size, 1, none⟩ = some (.bool true) := tcell t2 (by simp)
  have r2 : w2.cell? ⟨w1.heap.size, 2, none⟩ = some (.bool true) := tcell t2 (by simp)
  have r3 : w2.cell? ⟨w1.heap.size, 3, none⟩ = some (.bool false) := tcell t2 (by simp)
  have G2 : Hid (Touch [] w w2) := (G1.out.alloc _).trans' t2
  clear t2
  go_wp2_with fail
  refine (HI.out _).mono ?_
  rintro e w3 ⟨rfl, g3⟩
  have t3 := g3.touch
  clear g3
  replace q1 := tcell t3 q1
  replace q2 := tcell t3 q2
  replace q3 := tcell t3 q3
  replace q4 := tcell t3 q4
  replace r1 := tcell t3 r1
  replace r2 := tcell t3 r2
  replace r3 := tcell t3 r3
  have G3 : Hid (Touch [] w w3) := G2.out.trans' t3
  clear t3
  go_wp2_with fail
  go_ret
  exact ⟨by first | rfl | (rw [ByteArray.append_assoc, ByteArray.append_assoc]; rfl), G3.out⟩
set_option maxHeartbeats 1000000 in
theorem lnd_slot (k : Nat) (sl : Nat) (b3 : sl ≤ 15) (wd : ByteArray) (lo hi : Int) (w : World) (hwd : kWord k = wd)
    (HF : Hid (∀ w, Calls Tryd.prog 47 #[.int .i64 k] w fun e w' => e = .returned (.agg #[.string wd, .bool false, .bool true, .bool false, .int .i64 lo, .int .i64 hi]) ∧ Touch [] w w')) :
    Calls Tryd.prog 35 #[.agg #[.int .i64 k, .int .u16 0, .string ⟨#[]⟩, .int .i64 0, .int .i64 sl]] w fun e w' => e = .returned (.string (kWord k ++ (⟨#[32]⟩ ++ itoaB sl))) ∧ Touch [] w w' := by
  have HI : Hid (∀ w', _) := fun w' => num55 sl sl w' (Nat.le_refl _) (by omega)
  have hw : IntKind.i64.wrap (sl : Int) = sl := by rw [IntKind.wrap_i64]; omega
  have zi : (itoaB sl).size ≤ 20 := itoaB_len sl (by omega)
  have zw := word_size' k
  have h32 : (ByteArray.mk #[32]).size = 1 := rfl
  generalize itoaB sl = I at *
  rw [hwd] at zw ⊢
  have a3 : ∀ w, (Op.stringOp .add ⟨#[32]⟩ I).run Tryd.prog w = .ok (.string (⟨#[32]⟩ ++ I)) w := fun w => run_string_add_sum w _ _ (by omega)
  have a4 : ∀ w, (Op.stringOp .add wd (⟨#[32]⟩ ++ I)).run Tryd.prog w = .ok (.string (wd ++ (⟨#[32]⟩ ++ I))) w := fun w => run_string_add_sum w _ _ (by rw [ByteArray.size_append]; omega)
  clear hwd zw h32 zi b3
  go_enter Tryd.func35, Tryd.ntmps35
  go_wp2_with fail
  refine (HF.out _).mono ?_
  rintro e w1 ⟨rfl, t1⟩
  have q1 : w1.cell? ⟨w.heap.size, 1, none⟩ = some (.int .u16 0) := tcell t1 (by simp)
  have q2 : w1.cell? ⟨w.heap.size, 2, none⟩ = some (.string ⟨#[]⟩) := tcell t1 (by simp)
  have q3 : w1.cell? ⟨w.heap.size, 3, none⟩ = some (.int .i64 0) := tcell t1 (by simp)
  have q4 : w1.cell? ⟨w.heap.size, 4, none⟩ = some (.int .i64 sl) := tcell t1 (by simp)
  have hw1 : w.heap.size < w1.heap.size := Nat.lt_of_lt_of_le (by simp) t1.size
  have G1 : Hid (Touch [] w w1) := ((Touch.refl [] w).alloc _).trans' t1
  clear t1
  go_wp2_with fail
  refine (HI.out _).mono ?_
  rintro e w2 ⟨rfl, g2⟩
  have t2 := g2.touch
  clear g2
  replace q1 := tcell t2 (tcell ((Touch.refl [] w1).alloc _) q1)
  replace q2 := tcell t2 (tcell ((Touch.refl [] w1).alloc _) q2)
  replace q3 := tcell t2 (tcell ((Touch.refl [] w1).alloc _) q3)
  replace q4 := tcell t2 (tcell ((Touch.refl [] w1).alloc _) q4)
  have r1 : w2.cell? ⟨w1.heap.size, 1, none⟩ = some (.bool false) := tcell t2 (by simp)
  have r2 : w2.cell? ⟨w1.heap.size, 2, none⟩ = some (.bool true) := tcell t2 (by simp)
  have r3 : w2.cell? ⟨w1.heap.size, 3, none⟩ = some (.bool false) := tcell t2 (by simp)
  have G2 : Hid (Touch [] w w2) := (G1.out.alloc _).trans' t2
  clear t2
  go_wp2_with fail
  go_ret
  exact ⟨by first | rfl | (rw [ByteArray.append_assoc, ByteArray.append_assoc]; rfl), G2.out⟩
set_option maxHeartbeats 1000000 in
theorem lnd_num (k : Nat) (n : Nat) (b3 : n ≤ 4611686018427387904) (wd : ByteArray) (lo hi : Int) (w : World) (hwd : kWord k = wd)
    (HF : Hid (∀ w, Calls Tryd.prog 47 #[.int .i64 k] w fun e w' => e = .returned (.agg #[.string wd, .bool false, .bool false, .bool true, .int .i64 lo, .int .i64 hi]) ∧ Touch [] w w')) :
    Calls Tryd.prog 35 #[.agg #[.int .i64 k, .int .u16 0, .string ⟨#[]⟩, .int .i64 n, .int .i64 0]] w fun e w' => e = .returned (.string (kWord k ++ (⟨#[32]⟩ ++ itoaB n))) ∧ Touch [] w w' := by
  have HI : Hid (∀ w', _) := fun w' => num55 n n w' (Nat.le_refl _) (by omega)
  have hw : IntKind.i64.wrap (n : Int) = n := by rw [IntKind.wrap_i64]; omega
  have zi : (itoaB n).size ≤ 20 := itoaB_len n (by omega)
  have zw := word_size' k
  have h32 : (ByteArray.mk #[32]).size = 1 := rfl
  generalize itoaB n = I at *
  rw [hwd] at zw ⊢
  have a3 : ∀ w, (Op.stringOp .add ⟨#[32]⟩ I).run Tryd.prog w = .ok (.string (⟨#[32]⟩ ++ I)) w := fun w => run_string_add_sum w _ _ (by omega)
  have a4 : ∀ w, (Op.stringOp .add wd (⟨#[32]⟩ ++ I)).run Tryd.prog w = .ok (.string (wd ++ (⟨#[32]⟩ ++ I))) w := fun w => run_string_add_sum w _ _ (by rw [ByteArray.size_append]; omega)
  clear hwd zw h32 zi b3
  go_enter Tryd.func35, Tryd.ntmps35
  go_wp2_with fail
  refine (HF.out _).mono ?_
  rintro e w1 ⟨rfl, t1⟩
  have q1 : w1.cell? ⟨w.heap.size, 1, none⟩ = some (.int .u16 0) := tcell t1 (by simp)
  have q2 : w1.cell? ⟨w.heap.size, 2, none⟩ = some (.string ⟨#[]⟩) := tcell t1 (by simp)
  have q3 : w1.cell? ⟨w.heap.size, 3, none⟩ = some (.int .i64 n) := tcell t1 (by simp)
  have q4 : w1.cell? ⟨w.heap.size, 4, none⟩ = some (.int .i64 0) := tcell t1 (by simp)
  have hw1 : w.heap.size < w1.heap.size := Nat.lt_of_lt_of_le (by simp) t1.size
  have G1 : Hid (Touch [] w w1) := ((Touch.refl [] w).alloc _).trans' t1
  clear t1
  go_wp2_with fail
  refine (HI.out _).mono ?_
  rintro e w2 ⟨rfl, g2⟩
  have t2 := g2.touch
  clear g2
  replace q1 := tcell t2 (tcell ((Touch.refl [] w1).alloc _) q1)
  replace q2 := tcell t2 (tcell ((Touch.refl [] w1).alloc _) q2)
  replace q3 := tcell t2 (tcell ((Touch.refl [] w1).alloc _) q3)
  replace q4 := tcell t2 (tcell ((Touch.refl [] w1).alloc _) q4)
  have r1 : w2.cell? ⟨w1.heap.size, 1, none⟩ = some (.bool false) := tcell t2 (by simp)
  have r2 : w2.cell? ⟨w1.heap.size, 2, none⟩ = some (.bool false) := tcell t2 (by simp)
  have r3 : w2.cell? ⟨w1.heap.size, 3, none⟩ = some (.bool true) := tcell t2 (by simp)
  have G2 : Hid (Touch [] w w2) := (G1.out.alloc _).trans' t2
  clear t2
  go_wp2_with fail
  go_ret
  exact ⟨by first | rfl | (rw [ByteArray.append_assoc, ByteArray.append_assoc]; rfl), G2.out⟩
theorem rline_ (d : Dz) (w : World) (hm : mayZ d = true) (hu : Usp d) :
    Calls Tryd.prog 35 #[.agg #[.int .i64 d.op, .int .u16 d.sp, .string d.nm, .int .i64 d.n, .int .i64 d.sl]] w fun e w' => e = .returned (.string (ln d)) ∧ Touch [] w w' := by
  rcases lnF hm hu with ⟨k, h1, h2, a, sp, hs, hn, e, l⟩ | ⟨k, h1, h2, a, sp, hs, hn, sl, hsl, e, l⟩ | ⟨k, h1, h2, a, sl, hsl, e, l⟩ | ⟨k, h1, h2, a, n, hn, e, l⟩
  ·
    obtain ⟨lo, hi, HF⟩ := formK k h1 h2
    rw [a.1, decide_eq_false a.2.1, decide_eq_false a.2.2] at HF
    rw [l, e]
    exact lnd_key k sp d.nm hs hn _ lo hi w rfl HF
  ·
    obtain ⟨lo, hi, HF⟩ := formK k h1 h2
    rw [a.1, decide_eq_false a.2.1, decide_eq_true a.2.2] at HF
    rw [l, e]
    exact lnd_both k sp d.nm hs hn sl hsl _ lo hi w rfl HF
  ·
    obtain ⟨lo, hi, HF⟩ := formK k h1 h2
    rw [a.1, decide_eq_false a.2.1, decide_eq_true a.2.2] at HF
    rw [l, e]
    exact lnd_slot k sl hsl _ lo hi w rfl HF
  ·
    obtain ⟨lo, hi, HF⟩ := formK k h1 h2
    rw [a.1, decide_eq_true a.2.1, decide_eq_false a.2.2] at HF
    rw [l, e]
    exact lnd_num k n hn _ lo hi w rfl HF
end Go.Proofs.YthakboiecdjgnaaDoor.Kt
