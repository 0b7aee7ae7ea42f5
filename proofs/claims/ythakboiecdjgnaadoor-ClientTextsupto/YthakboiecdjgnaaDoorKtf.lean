/- A thing to do told as a line, by the program; the conditions: the table holds what the start lays, and the library's variables theirs. -/
import Derived.Test.YthakboiecdjgnaaDoorKte
import Derived.Test.YthakboiecdjgnaaDoorShx
namespace Go.Proofs.YthakboiecdjgnaaDoor.Kt
open Go.RowKit Go.Sort Go.Shelf
open Go.Proofs.YthakboiecdjgnaaDoor.Ci
set_option linter.unusedVariables false
def Tab (w : World) : Prop := Lib.TabIs Tryd.prog w "internal/strconv.uint64pow10" .u64 Lib.pow10Tab
theorem var_lt {w : World} {name : String} {cs : Array Value} {g : Nat} (hg : Tryd.prog.globalNamed name = some g) (hv : w.var? Tryd.prog name = some cs) : g < w.heap.size := by
  unfold World.var? at hv
  rw [hg] at hv
  simp only [Option.bind_some] at hv
  by_cases h : g < w.heap.size
  · exact h
  · rw [Array.getElem?_eq_none (by omega)] at hv
    cases hv
theorem var_touch {w w' : World} {name : String} {cs : Array Value} {g : Nat} (hg : Tryd.prog.globalNamed name = some g) (h : Touch [] w w') (hv : w.var? Tryd.prog name = some cs) : w'.var? Tryd.prog name = some cs := by
  have hl := var_lt hg hv
  unfold World.var? at *
  rw [hg] at hv ⊢
  simp only [Option.bind_some] at hv ⊢
  rw [h.block g hl (by simp)]
  exact hv
theorem gTab : Tryd.prog.globalNamed "internal/strconv.uint64pow10" = some 2 := by kernel_rfl
theorem gSyn : Tryd.prog.globalNamed "strconv.ErrSyntax" = some 3 := by kernel_rfl
theorem gRan : Tryd.prog.globalNamed "strconv.ErrRange" = some 4 := by kernel_rfl
theorem Tab.touch {w w' : World} (h : Tab w) (t : Touch [] w w') : Tab w' := var_touch gTab t h
/-- the variables that texts lean on -/
structure Sy (w : World) : Prop where
  kd : Kd w
  tab : Tab w
  es : ∃ te pe, w.var? Tryd.prog "strconv.ErrSyntax" = some #[.iface te pe]
  er : ∃ te pe, w.var? Tryd.prog "strconv.ErrRange" = some #[.iface te pe]
  ml : ∃ m, w.cell? ⟨1, 0, none⟩ = some (.int .i64 m)
theorem Sy.touch {w w' : World} (h : Sy w) (t : Touch [] w w') : Sy w' := by
  obtain ⟨h0, h1, ⟨a, b, h2⟩, ⟨c, d, h3⟩, ⟨m, h4⟩⟩ := h
  exact ⟨h0.touch t, h1.touch t, ⟨a, b, var_touch gSyn t h2⟩, ⟨c, d, var_touch gRan t h3⟩, ⟨m, tcell t h4⟩⟩
theorem fmt52 (n : Nat) (h : n ≤ 9223372036854775807) (w : World) (ht : Tab w) : Calls Tryd.prog 52 #[.int .i64 n, .int .i64 10] w fun e w' => e = .returned (.string (itoaB n)) ∧ Touch [] w w' :=
  Calls.mono (Tryd.strconv_FormatInt_10 n (by omega) (by omega) w ht) fun e w' ⟨he, k, os, hw⟩ => ⟨he, by rw [hw]; exact (gr_grow w k os).touch⟩
theorem itoa53 (n : Nat) (h : n ≤ 9223372036854775807) (w : World) (ht : Tab w) : Calls Tryd.prog 53 #[.int .i64 n] w fun e w' => e = .returned (.string (itoaB n)) ∧ Gr w w' :=
  Calls.mono (Tryd.strconv_Itoa n (by omega) (by omega) w ht) fun e w' ⟨he, k, os, hw⟩ => ⟨he, by rw [hw]; exact gr_grow w k os⟩
theorem text50 (sp : Nat) (nm : ByteArray) (hs : sp ≤ 65535) (hn : nm.size ≤ 64) (w : World) (ht : Tab w) : Calls Tryd.prog 50 #[.agg #[.int .u16 sp, .string nm]] w fun e w' => e = .returned (.tuple #[.string (textB sp nm), .int .i64 0]) ∧ Touch [] w w' :=
  (text10_of sp nm (itoaB sp) w hn (by omega) (by omega) (itoaB_len sp (by omega)) (fun w' hg => itoa53 sp (by omega) w' (ht.touch hg.touch))).mono fun e w' ⟨he, hg⟩ => ⟨he, hg.touch⟩
theorem word_size (k : Nat) : (kWord k).size ≤ 6 := by
  unfold kWord
  split <;> decide
set_option maxHeartbeats 1000000 in
theorem lnp_key (k : Nat) (sp : Nat) (nm : ByteArray) (b1 : sp ≤ 65535) (b2 : nm.size ≤ 64) (w : World) (hS : Sy w) (h1 : 1 ≤ k) (h2 : k ≤ 9) (hk : kKey k = true) (hn : kNl k = 0 ∧ kNh k = 0) (hs : kSh k = 0) :
    Calls Tryd.prog 33 #[.agg #[.int .i64 k, .int .u16 sp, .string nm, .int .i64 0, .int .i64 0]] w fun e w' => e = .returned (.string (kWord k ++ (⟨#[32]⟩ ++ textB sp nm))) ∧ Touch [] w w' := by
  have T1 : Touch [] w (w.alloc (.cells #[.int .i64 k, .int .u16 sp, .string nm, .int .i64 0, .int .i64 0] 47)) := (Touch.refl [] w).alloc _
  have c0 := tcell T1 (hS.kd.word k (by omega))
  have c1 := tcell T1 (hS.kd.key k (by omega))
  have c2 := tcell T1 (hS.kd.nl k (by omega))
  have c3 := tcell T1 (hS.kd.nh k (by omega))
  have c4 := tcell T1 (hS.kd.sl k (by omega))
  have c5 := tcell T1 (hS.kd.sh k (by omega))
  rw [hk] at c1
  rw [hn.1] at c2
  rw [hn.2] at c3
  rw [hs] at c5
  have k3 : (k : Int) < 10 := by omega
  have k4 : (0 : Int) ≤ (k : Int) := by omega
  have HA : Hid (∀ w', Calls Tryd.prog 51 #[.agg #[.int .i64 (0), .int .i64 (0)]] w' fun e w'' => e = .returned (.bool false) ∧ Touch [] w' w'') := fun w' => (named_ _ _ w').mono fun e w'' ⟨he, t⟩ => ⟨by rw [he, decide_eq_false (by omega)], t⟩
  have HB : Hid (∀ w', Calls Tryd.prog 51 #[.agg #[.int .i64 0, .int .i64 (0)]] w' fun e w'' => e = .returned (.bool false) ∧ Touch [] w' w'') := fun w' => (named_ _ _ w').mono fun e w'' ⟨he, t⟩ => ⟨by rw [he, decide_eq_false (by omega)], t⟩
  have HK : Hid (∀ w', Touch [] w w' → _) := fun w' (t : Touch [] w w') => text50 sp nm b1 b2 w' (hS.tab.touch t)
  have zt : (textB sp nm).size ≤ 100 := by rw [textB_size]; have := itoaB_len sp (by omega); omega
  have zw := word_size k
  have h32 : (ByteArray.mk #[32]).size = 1 := rfl
  generalize textB sp nm = T at *
  generalize kWord k = wd at *
  have a1 : ∀ w, (Op.stringOp .add ⟨#[32]⟩ T).run Tryd.prog w = .ok (.string (⟨#[32]⟩ ++ T)) w := fun w => run_string_add_sum w _ _ (by omega)
  have a2 : ∀ w, (Op.stringOp .add wd (⟨#[32]⟩ ++ T)).run Tryd.prog w = .ok (.string (wd ++ (⟨#[32]⟩ ++ T))) w := fun w => run_string_add_sum w _ _ (by rw [ByteArray.size_append]; omega)
  clear hS T1 zw h32 zt b1 b2
  go_enter Tryd.func33, Tryd.ntmps33
  go_wp2_with fail
  refine (HK.out _ (((Touch.refl [] w).alloc _).alloc _)).mono ?_
  rintro e w1 ⟨rfl, t1⟩
  have q3 : w1.cell? ⟨w.heap.size, 3, none⟩ = some (.int .i64 0) := tcell t1 (by simp)
  have q4 : w1.cell? ⟨w.heap.size, 4, none⟩ = some (.int .i64 0) := tcell t1 (by simp)
  have r2 : w1.cell? ⟨w.heap.size + 1, 2, none⟩ = some (.int .i64 0) := tcell t1 (by simp)
  have r3 : w1.cell? ⟨w.heap.size + 1, 3, none⟩ = some (.int .i64 0) := tcell t1 (by simp)
  have r4 : w1.cell? ⟨w.heap.size + 1, 4, none⟩ = some (.int .i64 0) := tcell t1 (by simp)
  have r5 : w1.cell? ⟨w.heap.size + 1, 5, none⟩ = some (.int .i64 0) := tcell t1 (by simp)
  have G1 : Hid (Touch [] w w1) := (((Touch.refl [] w).alloc _).alloc _).trans' t1
  clear c0 c1 c2 c3 c4 c5
  clear t1
  go_wp2_with fail
  refine (HA.out _).mono ?_
  rintro e w2 ⟨rfl, t2⟩
  replace q3 := tcell t2 q3
  replace q4 := tcell t2 q4
  replace r2 := tcell t2 r2
  replace r3 := tcell t2 r3
  replace r4 := tcell t2 r4
  replace r5 := tcell t2 r5
  have G2 : Hid (Touch [] w w2) := G1.out.trans' t2
  clear t2
  go_wp2_with fail
  refine (HB.out _).mono ?_
  rintro e w3 ⟨rfl, t3⟩
  replace q3 := tcell t3 q3
  replace q4 := tcell t3 q4
  replace r2 := tcell t3 r2
  replace r3 := tcell t3 r3
  replace r4 := tcell t3 r4
  replace r5 := tcell t3 r5
  have G3 : Hid (Touch [] w w3) := G2.out.trans' t3
  clear t3
  go_wp2_with fail
  go_ret
  exact ⟨by first | rfl | (rw [ByteArray.append_assoc, ByteArray.append_assoc]; rfl), G3.out⟩
set_option maxHeartbeats 1000000 in
theorem lnp_both (k : Nat) (sp : Nat) (nm : ByteArray) (b1 : sp ≤ 65535) (b2 : nm.size ≤ 64) (sl : Nat) (b3 : sl ≤ 15) (w : World) (hS : Sy w) (h1 : 1 ≤ k) (h2 : k ≤ 9) (hk : kKey k = true) (hn : kNl k = 0 ∧ kNh k = 0) (hs : 0 < kSh k) :
    Calls Tryd.prog 33 #[.agg #[.int .i64 k, .int .u16 sp, .string nm, .int .i64 0, .int .i64 sl]] w fun e w' => e = .returned (.string (kWord k ++ (⟨#[32]⟩ ++ (textB sp nm ++ (⟨#[32]⟩ ++ itoaB sl))))) ∧ Touch [] w w' := by
  have T1 : Touch [] w (w.alloc (.cells #[.int .i64 k, .int .u16 sp, .string nm, .int .i64 0, .int .i64 sl] 47)) := (Touch.refl [] w).alloc _
  have c0 := tcell T1 (hS.kd.word k (by omega))
  have c1 := tcell T1 (hS.kd.key k (by omega))
  have c2 := tcell T1 (hS.kd.nl k (by omega))
  have c3 := tcell T1 (hS.kd.nh k (by omega))
  have c4 := tcell T1 (hS.kd.sl k (by omega))
  have c5 := tcell T1 (hS.kd.sh k (by omega))
  rw [hk] at c1
  rw [hn.1] at c2
  rw [hn.2] at c3
  have k3 : (k : Int) < 10 := by omega
  have k4 : (0 : Int) ≤ (k : Int) := by omega
  have HA : Hid (∀ w', Calls Tryd.prog 51 #[.agg #[.int .i64 (0), .int .i64 (0)]] w' fun e w'' => e = .returned (.bool false) ∧ Touch [] w' w'') := fun w' => (named_ _ _ w').mono fun e w'' ⟨he, t⟩ => ⟨by rw [he, decide_eq_false (by omega)], t⟩
  have HB : Hid (∀ w', Calls Tryd.prog 51 #[.agg #[.int .i64 0, .int .i64 (kSh k)]] w' fun e w'' => e = .returned (.bool true) ∧ Touch [] w' w'') := fun w' => (named_ _ _ w').mono fun e w'' ⟨he, t⟩ => ⟨by rw [he, decide_eq_true hs], t⟩
  generalize kSh k = sh at *
  have HK : Hid (∀ w', Touch [] w w' → _) := fun w' (t : Touch [] w w') => text50 sp nm b1 b2 w' (hS.tab.touch t)
  have HI : Hid (∀ w', Touch [] w w' → _) := fun w' (t : Touch [] w w') => itoa53 sl (by omega) w' (hS.tab.touch t)
  have zt : (textB sp nm).size ≤ 100 := by rw [textB_size]; have := itoaB_len sp (by omega); omega
  have zi : (itoaB sl).size ≤ 20 := itoaB_len sl (by omega)
  have zw := word_size k
  have h32 : (ByteArray.mk #[32]).size = 1 := rfl
  generalize textB sp nm = T at *
  generalize itoaB sl = I at *
  generalize kWord k = wd at *
  have a1 : ∀ w, (Op.stringOp .add ⟨#[32]⟩ T).run Tryd.prog w = .ok (.string (⟨#[32]⟩ ++ T)) w := fun w => run_string_add_sum w _ _ (by omega)
  have a2 : ∀ w, (Op.stringOp .add wd (⟨#[32]⟩ ++ T)).run Tryd.prog w = .ok (.string (wd ++ (⟨#[32]⟩ ++ T))) w := fun w => run_string_add_sum w _ _ (by rw [ByteArray.size_append]; omega)
  have a3 : ∀ w, (Op.stringOp .add ⟨#[32]⟩ I).run Tryd.prog w = .ok (.string (⟨#[32]⟩ ++ I)) w := fun w => run_string_add_sum w _ _ (by omega)
  have a4 : ∀ w, (Op.stringOp .add (wd ++ (⟨#[32]⟩ ++ T)) (⟨#[32]⟩ ++ I)).run Tryd.prog w = .ok (.string ((wd ++ (⟨#[32]⟩ ++ T)) ++ (⟨#[32]⟩ ++ I))) w := fun w => run_string_add_sum w _ _ (by rw [ByteArray.size_append, ByteArray.size_append, ByteArray.size_append]; omega)
  clear hS T1 zw h32 zt zi b1 b2 b3
  go_enter Tryd.func33, Tryd.ntmps33
  go_wp2_with fail
  refine (HK.out _ (((Touch.refl [] w).alloc _).alloc _)).mono ?_
  rintro e w1 ⟨rfl, t1⟩
  have q3 : w1.cell? ⟨w.heap.size, 3, none⟩ = some (.int .i64 0) := tcell t1 (by simp)
  have q4 : w1.cell? ⟨w.heap.size, 4, none⟩ = some (.int .i64 sl) := tcell t1 (by simp)
  have r2 : w1.cell? ⟨w.heap.size + 1, 2, none⟩ = some (.int .i64 0) := tcell t1 (by simp)
  have r3 : w1.cell? ⟨w.heap.size + 1, 3, none⟩ = some (.int .i64 0) := tcell t1 (by simp)
  have r4 : w1.cell? ⟨w.heap.size + 1, 4, none⟩ = some (.int .i64 0) := tcell t1 (by simp)
  have r5 : w1.cell? ⟨w.heap.size + 1, 5, none⟩ = some (.int .i64 sh) := tcell t1 (by simp)
  have G1 : Hid (Touch [] w w1) := (((Touch.refl [] w).alloc _).alloc _).trans' t1
  clear c0 c1 c2 c3 c4 c5
  clear t1
  go_wp2_with fail
  refine (HA.out _).mono ?_
  rintro e w2 ⟨rfl, t2⟩
  replace q3 := tcell t2 q3
  replace q4 := tcell t2 q4
  replace r2 := tcell t2 r2
  replace r3 := tcell t2 r3
  replace r4 := tcell t2 r4
  replace r5 := tcell t2 r5
  have G2 : Hid (Touch [] w w2) := G1.out.trans' t2
  clear t2
  go_wp2_with fail
  refine (HB.out _).mono ?_
  rintro e w3 ⟨rfl, t3⟩
  replace q3 := tcell t3 q3
  replace q4 := tcell t3 q4
  replace r2 := tcell t3 r2
  replace r3 := tcell t3 r3
  replace r4 := tcell t3 r4
  replace r5 := tcell t3 r5
  have G3 : Hid (Touch [] w w3) := G2.out.trans' t3
  clear t3
  go_wp2_with fail
  refine (HI.out _ G3.out).mono ?_
  rintro e w4 ⟨rfl, t4⟩
  replace t4 := t4.touch
  replace q3 := tcell t4 q3
  replace q4 := tcell t4 q4
  replace r2 := tcell t4 r2
  replace r3 := tcell t4 r3
  replace r4 := tcell t4 r4
  replace r5 := tcell t4 r5
  have G4 : Hid (Touch [] w w4) := G3.out.trans' t4
  clear t4
  go_wp2_with fail
  go_ret
  exact ⟨by first | rfl | (rw [ByteArray.append_assoc, ByteArray.append_assoc]; rfl), G4.out⟩
set_option maxHeartbeats 1000000 in
theorem lnp_slot (k : Nat) (sl : Nat) (b3 : sl ≤ 15) (w : World) (hS : Sy w) (h1 : 1 ≤ k) (h2 : k ≤ 9) (hk : kKey k = false) (hn : kNl k = 0 ∧ kNh k = 0) (hs : 0 < kSh k) :
    Calls Tryd.prog 33 #[.agg #[.int .i64 k, .int .u16 0, .string ⟨#[]⟩, .int .i64 0, .int .i64 sl]] w fun e w' => e = .returned (.string (kWord k ++ (⟨#[32]⟩ ++ itoaB sl))) ∧ Touch [] w w' := by
  have T1 : Touch [] w (w.alloc (.cells #[.int .i64 k, .int .u16 0, .string ⟨#[]⟩, .int .i64 0, .int .i64 sl] 47)) := (Touch.refl [] w).alloc _
  have c0 := tcell T1 (hS.kd.word k (by omega))
  have c1 := tcell T1 (hS.kd.key k (by omega))
  have c2 := tcell T1 (hS.kd.nl k (by omega))
  have c3 := tcell T1 (hS.kd.nh k (by omega))
  have c4 := tcell T1 (hS.kd.sl k (by omega))
  have c5 := tcell T1 (hS.kd.sh k (by omega))
  rw [hk] at c1
  rw [hn.1] at c2
  rw [hn.2] at c3
  have k3 : (k : Int) < 10 := by omega
  have k4 : (0 : Int) ≤ (k : Int) := by omega
  have HA : Hid (∀ w', Calls Tryd.prog 51 #[.agg #[.int .i64 (0), .int .i64 (0)]] w' fun e w'' => e = .returned (.bool false) ∧ Touch [] w' w'') := fun w' => (named_ _ _ w').mono fun e w'' ⟨he, t⟩ => ⟨by rw [he, decide_eq_false (by omega)], t⟩
  have HB : Hid (∀ w', Calls Tryd.prog 51 #[.agg #[.int .i64 0, .int .i64 (kSh k)]] w' fun e w'' => e = .returned (.bool true) ∧ Touch [] w' w'') := fun w' => (named_ _ _ w').mono fun e w'' ⟨he, t⟩ => ⟨by rw [he, decide_eq_true hs], t⟩
  generalize kSh k = sh at *
  have HI : Hid (∀ w', Touch [] w w' → _) := fun w' (t : Touch [] w w') => itoa53 sl (by omega) w' (hS.tab.touch t)
  have zi : (itoaB sl).size ≤ 20 := itoaB_len sl (by omega)
  have zw := word_size k
  have h32 : (ByteArray.mk #[32]).size = 1 := rfl
  generalize itoaB sl = I at *
  generalize kWord k = wd at *
  have a3 : ∀ w, (Op.stringOp .add ⟨#[32]⟩ I).run Tryd.prog w = .ok (.string (⟨#[32]⟩ ++ I)) w := fun w => run_string_add_sum w _ _ (by omega)
  have a4 : ∀ w, (Op.stringOp .add wd (⟨#[32]⟩ ++ I)).run Tryd.prog w = .ok (.string (wd ++ (⟨#[32]⟩ ++ I))) w := fun w => run_string_add_sum w _ _ (by rw [ByteArray.size_append]; omega)
  clear hS T1 zw h32 zi b3
  go_enter Tryd.func33, Tryd.ntmps33
  go_wp2_with fail
  refine (HA.out _).mono ?_
  rintro e w1 ⟨rfl, t1⟩
  have q3 : w1.cell? ⟨w.heap.size, 3, none⟩ = some (.int .i64 0) := tcell t1 (by simp)
  have q4 : w1.cell? ⟨w.heap.size, 4, none⟩ = some (.int .i64 sl) := tcell t1 (by simp)
  have r2 : w1.cell? ⟨w.heap.size + 1, 2, none⟩ = some (.int .i64 0) := tcell t1 (by simp)
  have r3 : w1.cell? ⟨w.heap.size + 1, 3, none⟩ = some (.int .i64 0) := tcell t1 (by simp)
  have r4 : w1.cell? ⟨w.heap.size + 1, 4, none⟩ = some (.int .i64 0) := tcell t1 (by simp)
  have r5 : w1.cell? ⟨w.heap.size + 1, 5, none⟩ = some (.int .i64 sh) := tcell t1 (by simp)
  have G1 : Hid (Touch [] w w1) := (((Touch.refl [] w).alloc _).alloc _).trans' t1
  clear c0 c1 c2 c3 c4 c5
  clear t1
  go_wp2_with fail
  refine (HB.out _).mono ?_
  rintro e w2 ⟨rfl, t2⟩
  replace q3 := tcell t2 q3
  replace q4 := tcell t2 q4
  replace r2 := tcell t2 r2
  replace r3 := tcell t2 r3
  replace r4 := tcell t2 r4
  replace r5 := tcell t2 r5
  have G2 : Hid (Touch [] w w2) := G1.out.trans' t2
  clear t2
  go_wp2_with fail
  refine (HI.out _ G2.out).mono ?_
  rintro e w3 ⟨rfl, t3⟩
  replace t3 := t3.touch
  replace q3 := tcell t3 q3
  replace q4 := tcell t3 q4
  replace r2 := tcell t3 r2
  replace r3 := tcell t3 r3
  replace r4 := tcell t3 r4
  replace r5 := tcell t3 r5
  have G3 : Hid (Touch [] w w3) := G2.out.trans' t3
  clear t3
  go_wp2_with fail
  go_ret
  exact ⟨by first | rfl | (rw [ByteArray.append_assoc, ByteArray.append_assoc]; rfl), G3.out⟩
set_option maxHeartbeats 1000000 in
theorem lnp_num (k : Nat) (n : Nat) (b3 : n ≤ 4611686018427387904) (w : World) (hS : Sy w) (h1 : 1 ≤ k) (h2 : k ≤ 9) (hk : kKey k = false) (hn : 0 < kNh k) (hs : kSh k = 0) :
    Calls Tryd.prog 33 #[.agg #[.int .i64 k, .int .u16 0, .string ⟨#[]⟩, .int .i64 n, .int .i64 0]] w fun e w' => e = .returned (.string (kWord k ++ (⟨#[32]⟩ ++ itoaB n))) ∧ Touch [] w w' := by
  have T1 : Touch [] w (w.alloc (.cells #[.int .i64 k, .int .u16 0, .string ⟨#[]⟩, .int .i64 n, .int .i64 0] 47)) := (Touch.refl [] w).alloc _
  have c0 := tcell T1 (hS.kd.word k (by omega))
  have c1 := tcell T1 (hS.kd.key k (by omega))
  have c2 := tcell T1 (hS.kd.nl k (by omega))
  have c3 := tcell T1 (hS.kd.nh k (by omega))
  have c4 := tcell T1 (hS.kd.sl k (by omega))
  have c5 := tcell T1 (hS.kd.sh k (by omega))
  rw [hk] at c1
  rw [hs] at c5
  have k3 : (k : Int) < 10 := by omega
  have k4 : (0 : Int) ≤ (k : Int) := by omega
  have HA : Hid (∀ w', Calls Tryd.prog 51 #[.agg #[.int .i64 (kNl k), .int .i64 (kNh k)]] w' fun e w'' => e = .returned (.bool true) ∧ Touch [] w' w'') := fun w' => (named_ _ _ w').mono fun e w'' ⟨he, t⟩ => ⟨by rw [he, decide_eq_true hn], t⟩
  have HB : Hid (∀ w', Calls Tryd.prog 51 #[.agg #[.int .i64 0, .int .i64 (0)]] w' fun e w'' => e = .returned (.bool false) ∧ Touch [] w' w'') := fun w' => (named_ _ _ w').mono fun e w'' ⟨he, t⟩ => ⟨by rw [he, decide_eq_false (by omega)], t⟩
  generalize kNl k = nl at *
  generalize kNh k = nh at *
  have HI : Hid (∀ w', Touch [] w w' → _) := fun w' (t : Touch [] w w') => fmt52 n (by omega) w' (hS.tab.touch t)
  have zi : (itoaB n).size ≤ 20 := itoaB_len n (by omega)
  have zw := word_size k
  have h32 : (ByteArray.mk #[32]).size = 1 := rfl
  generalize itoaB n = I at *
  generalize kWord k = wd at *
  have a3 : ∀ w, (Op.stringOp .add ⟨#[32]⟩ I).run Tryd.prog w = .ok (.string (⟨#[32]⟩ ++ I)) w := fun w => run_string_add_sum w _ _ (by omega)
  have a4 : ∀ w, (Op.stringOp .add wd (⟨#[32]⟩ ++ I)).run Tryd.prog w = .ok (.string (wd ++ (⟨#[32]⟩ ++ I))) w := fun w => run_string_add_sum w _ _ (by rw [ByteArray.size_append]; omega)
  clear hS T1 zw h32 zi b3
  go_enter Tryd.func33, Tryd.ntmps33
  go_wp2_with fail
  refine (HA.out _).mono ?_
  rintro e w1 ⟨rfl, t1⟩
  have q3 : w1.cell? ⟨w.heap.size, 3, none⟩ = some (.int .i64 n) := tcell t1 (by simp)
  have q4 : w1.cell? ⟨w.heap.size, 4, none⟩ = some (.int .i64 0) := tcell t1 (by simp)
  have r2 : w1.cell? ⟨w.heap.size + 1, 2, none⟩ = some (.int .i64 nl) := tcell t1 (by simp)
  have r3 : w1.cell? ⟨w.heap.size + 1, 3, none⟩ = some (.int .i64 nh) := tcell t1 (by simp)
  have r4 : w1.cell? ⟨w.heap.size + 1, 4, none⟩ = some (.int .i64 0) := tcell t1 (by simp)
  have r5 : w1.cell? ⟨w.heap.size + 1, 5, none⟩ = some (.int .i64 0) := tcell t1 (by simp)
  have G1 : Hid (Touch [] w w1) := (((Touch.refl [] w).alloc _).alloc _).trans' t1
  clear c0 c1 c2 c3 c4 c5
  clear t1
  go_wp2_with fail
  refine (HI.out _ G1.out).mono ?_
  rintro e w2 ⟨rfl, t2⟩
  replace q3 := tcell t2 q3
  replace q4 := tcell t2 q4
  replace r2 := tcell t2 r2
  replace r3 := tcell t2 r3
  replace r4 := tcell t2 r4
  replace r5 := tcell t2 r5
  have G2 : Hid (Touch [] w w2) := G1.out.trans' t2
  clear t2
  go_wp2_with fail
  refine (HB.out _).mono ?_
  rintro e w3 ⟨rfl, t3⟩
  replace q3 := tcell t3 q3
  replace q4 := tcell t3 q4
  replace r2 := tcell t3 r2
  replace r3 := tcell t3 r3
  replace r4 := tcell t3 r4
  replace r5 := tcell t3 r5
  have G3 : Hid (Touch [] w w3) := G2.out.trans' t3
  clear t3
  go_wp2_with fail
  go_ret
  exact ⟨by first | rfl | (rw [ByteArray.append_assoc, ByteArray.append_assoc]; rfl), G3.out⟩
theorem line_ (d : Dz) (w : World) (hS : Sy w) (hm : mayZ d = true) (hu : Usp d) :
    Calls Tryd.prog 33 #[.agg #[.int .i64 d.op, .int .u16 d.sp, .string d.nm, .int .i64 d.n, .int .i64 d.sl]] w fun e w' => e = .returned (.string (ln d)) ∧ Touch [] w w' := by
  rcases lnF hm hu with ⟨k, h1, h2, a, sp, hs, hn, e, l⟩ | ⟨k, h1, h2, a, sp, hs, hn, sl, hsl, e, l⟩ | ⟨k, h1, h2, a, sl, hsl, e, l⟩ | ⟨k, h1, h2, a, n, hn, e, l⟩
  · rw [l]; have h := (cls k h1 h2); rw [e]; exact lnp_key k sp d.nm hs hn w hS h1 h2 a.1 (by omega) (by omega)
  · rw [l]; have h := (cls k h1 h2); rw [e]; exact lnp_both k sp d.nm hs hn sl hsl w hS h1 h2 a.1 (by omega) a.2.2
  · rw [l]; have h := (cls k h1 h2); rw [e]; exact lnp_slot k sl hsl w hS h1 h2 a.1 (by omega) a.2.2
  · rw [l]; have h := (cls k h1 h2); rw [e]; exact lnp_num k n hn w hS h1 h2 a.1 a.2.1 (by omega)
end Go.Proofs.YthakboiecdjgnaaDoor.Kt
