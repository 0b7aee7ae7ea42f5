/- A thing to do read from its line, by the program; the conditions: the table and the library's variables hold what the start lays, the line is within the form's reach. -/
import Derived.Test.YthakboiecdjgnaaDoorKth
namespace Go.Proofs.YthakboiecdjgnaaDoor.Kt
open Go.RowKit Go.Sort Go.Shelf
open Go.Proofs.YthakboiecdjgnaaDoor.Ci
set_option linter.unusedVariables false
theorem w64_of {x : Int} (h : -9223372036854775808 ≤ x ∧ x ≤ 9223372036854775807) : W64 x := W64.mk h.1 h.2
theorem u16_of {x : Int} (h : 0 ≤ x ∧ x ≤ 65535) : (Lit.int .u16 x).wf = true := by
  obtain ⟨h1, h2⟩ := h
  simp [Lit.wf, IntKind.min, IntKind.max, IntKind.bits, IntKind.signed]; omega
theorem gKey_ok (op : Nat) (r : ByteArray) (n : Int) (h9 : op ≤ 9) (hn : -9223372036854775808 ≤ n ∧ n ≤ 9223372036854775807) : (gKey op r n).ok := by
  refine ⟨w64_of (by unfold gKey; dsimp only; omega), u16_of (gKey_usp op r n), Nat.le_trans (gKey_nm op r n) (by decide), w64_of ?_, w64_of ?_⟩
  · unfold gKey; dsimp only; split <;> omega
  · unfold gKey; dsimp only; split <;> omega
theorem gLine_ok (s : ByteArray) : (gLine s).ok := gKey_ok _ _ _ (opZ_le _) (pi_w _)
def zD : List Value := [.int .i64 0, .int .u16 0, .string ⟨#[]⟩, .int .i64 0, .int .i64 0]
def doV : Option Dz → Value
  | none => .tuple #[.agg #[.int .i64 0, .int .u16 0, .string ⟨#[]⟩, .int .i64 0, .int .i64 0], .bool false]
  | some d => .tuple #[.agg #[.int .i64 d.op, .int .u16 d.sp, .string d.nm, .int .i64 d.n, .int .i64 d.sl], .bool true]
theorem last_bounds (s : ByteArray) : -1 ≤ Lib.lastIndexByte s 32 ∧ Lib.lastIndexByte s 32 < s.size := by
  rcases Lib.lastIndexByte_spec s 32 with ⟨e, _⟩ | ⟨i, hi, e, _, _⟩
  · rw [e]; omega
  · rw [e]; omega
theorem cut_rest (l : List UInt8) (x : UInt8) : (Lib.cut l [x]).2.1.length ≤ l.length := by
  unfold Lib.cut
  split
  · simp only [List.length_drop]; omega
  · exact Nat.zero_le _
theorem tset {w W : World} (t : Touch [] w W) {b : Nat} (hb : w.heap.size ≤ b) (o : Nat) (v : Value) : Touch [] w (W.setCell ⟨b, o, none⟩ v) :=
  Touch.of_below ((t.below (fun k hk => by cases hk) (Nat.le_refl _)).setCell hb _)
theorem tset5 {w W : World} (t : Touch [] w W) {v0 v1 v2 v3 v4 : Value} : Touch [] w (((((W.setCell ⟨w.heap.size, 0, none⟩ v0).setCell ⟨w.heap.size, 1, none⟩ v1).setCell ⟨w.heap.size, 2, none⟩ v2).setCell ⟨w.heap.size, 3, none⟩ v3).setCell ⟨w.heap.size, 4, none⟩ v4) :=
  tset (tset (tset (tset (tset t (Nat.le_refl _) _ _) (Nat.le_refl _) _ _) (Nat.le_refl _) _ _) (Nat.le_refl _) _ _) (Nat.le_refl _) _ _
theorem zset {w : World} {b b' : Nat} {o : Nat} {v x0 x1 x2 x3 x4 : Value} (h : Bx w b x0 x1 x2 x3 x4) (hb : b < b') : Bx (w.setCell ⟨b', o, none⟩ v) b x0 x1 x2 x3 x4 := by
  have hn : ∀ (a : Addr), a.block = b → (w.setCell ⟨b', o, none⟩ v).cell? a = w.cell? a := fun a ha => World.cell?_setCell_far w _ _ _ (by rw [ha]; show b' ≠ b; omega)
  exact ⟨(hn _ rfl).trans h.c0, (hn _ rfl).trans h.c1, (hn _ rfl).trans h.c2, (hn _ rfl).trans h.c3, (hn _ rfl).trans h.c4, fun i => (World.frozen?_setCell _ _ _ _).trans (h.fz i)⟩
theorem sne (b i j : Nat) (h : i ≠ j) : (⟨b, i, none⟩ : Addr) ≠ ⟨b, j, none⟩ := fun e => h (by injection e)
theorem Bx.set1 {w : World} {b : Nat} {x0 x1 x2 x3 x4 : Value} (h : Bx w b x0 x1 x2 x3 x4) (v : Value) : Bx (w.setCell ⟨b, 1, none⟩ v) b x0 v x2 x3 x4 :=
  ⟨(World.cell?_setCell_other w _ _ _ (sne b 1 0 (by decide))).trans h.c0, World.cell?_setCell_same w _ _ h.c1, (World.cell?_setCell_other w _ _ _ (sne b 1 2 (by decide))).trans h.c2, (World.cell?_setCell_other w _ _ _ (sne b 1 3 (by decide))).trans h.c3, (World.cell?_setCell_other w _ _ _ (sne b 1 4 (by decide))).trans h.c4, fun i => (World.frozen?_setCell _ _ _ _).trans (h.fz i)⟩
theorem Bx.set2 {w : World} {b : Nat} {x0 x1 x2 x3 x4 : Value} (h : Bx w b x0 x1 x2 x3 x4) (v : Value) : Bx (w.setCell ⟨b, 2, none⟩ v) b x0 x1 v x3 x4 :=
  ⟨(World.cell?_setCell_other w _ _ _ (sne b 2 0 (by decide))).trans h.c0, (World.cell?_setCell_other w _ _ _ (sne b 2 1 (by decide))).trans h.c1, World.cell?_setCell_same w _ _ h.c2, (World.cell?_setCell_other w _ _ _ (sne b 2 3 (by decide))).trans h.c3, (World.cell?_setCell_other w _ _ _ (sne b 2 4 (by decide))).trans h.c4, fun i => (World.frozen?_setCell _ _ _ _).trans (h.fz i)⟩
theorem Bx.set3 {w : World} {b : Nat} {x0 x1 x2 x3 x4 : Value} (h : Bx w b x0 x1 x2 x3 x4) (v : Value) : Bx (w.setCell ⟨b, 3, none⟩ v) b x0 x1 x2 v x4 :=
  ⟨(World.cell?_setCell_other w _ _ _ (sne b 3 0 (by decide))).trans h.c0, (World.cell?_setCell_other w _ _ _ (sne b 3 1 (by decide))).trans h.c1, (World.cell?_setCell_other w _ _ _ (sne b 3 2 (by decide))).trans h.c2, World.cell?_setCell_same w _ _ h.c3, (World.cell?_setCell_other w _ _ _ (sne b 3 4 (by decide))).trans h.c4, fun i => (World.frozen?_setCell _ _ _ _).trans (h.fz i)⟩
theorem Bx.set4 {w : World} {b : Nat} {x0 x1 x2 x3 x4 : Value} (h : Bx w b x0 x1 x2 x3 x4) (v : Value) : Bx (w.setCell ⟨b, 4, none⟩ v) b x0 x1 x2 x3 v :=
  ⟨(World.cell?_setCell_other w _ _ _ (sne b 4 0 (by decide))).trans h.c0, (World.cell?_setCell_other w _ _ _ (sne b 4 1 (by decide))).trans h.c1, (World.cell?_setCell_other w _ _ _ (sne b 4 2 (by decide))).trans h.c2, (World.cell?_setCell_other w _ _ _ (sne b 4 3 (by decide))).trans h.c3, World.cell?_setCell_same w _ _ h.c4, fun i => (World.frozen?_setCell _ _ _ _).trans (h.fz i)⟩
theorem rfar {w : World} {b o j : Nat} {x v : Value} (h : w.cell? ⟨b + 1, j, none⟩ = some x) : (w.setCell ⟨b, o, none⟩ v).cell? ⟨b + 1, j, none⟩ = some x :=
  (World.cell?_setCell_far w _ _ _ (by show b ≠ b + 1; omega)).trans h
set_option maxHeartbeats 2000000 in
theorem do_none (s : ByteArray) (w : World) (hS : Sy w) (hs0 : s.size ≤ 2000000000) (k : Nat) (hop : opZ ⟨(Lib.cut s.data.toList [32]).1.toArray⟩ = k) (h9 : k ≤ 9) (hk : kKey k = false) (hn : kNl k = 0 ∧ kNh k = 0) (hs : kSh k = 0) :
    Calls Tryd.prog 37 #[.string s] w fun e w' => e = .returned (doV (rdZ s)) ∧ Touch [] w w' := by
  have HY : Hid (Sy w) := hS
  have hgl : gLine s = gRest k ⟨(Lib.cut s.data.toList [32]).2.1.toArray⟩ := by unfold gLine; rw [hop]
  have hrs : (ByteArray.mk (Lib.cut s.data.toList [32]).2.1.toArray).size ≤ s.size := by
    have h := cut_rest s.data.toList 32
    have e1 : s.size = s.data.toList.length := rfl
    have e2 : (ByteArray.mk (Lib.cut s.data.toList [32]).2.1.toArray).size = (Lib.cut s.data.toList [32]).2.1.length := by simp [ByteArray.size]
    omega
  have HC : Hid (∀ w', Touch [] w w' → _) := fun w' (t : Touch [] w w') => cut_ s 32 w' (hS.touch t) (by omega)
  have HO : Hid (∀ w', Touch [] w w' → _) := fun w' (t : Touch [] w w') => opOf_ ⟨(Lib.cut s.data.toList [32]).1.toArray⟩ w' (hS.touch t).kd
  rw [hop] at HO
  clear hop
  generalize (Lib.cut s.data.toList [32]).2.2 = vb at *
  generalize (ByteArray.mk (Lib.cut s.data.toList [32]).1.toArray) = wd at *
  generalize (ByteArray.mk (Lib.cut s.data.toList [32]).2.1.toArray) = R at *
  have HL : Hid (∀ w', _) := fun w' => last_ R w' (by omega)
  obtain ⟨lc1, lc2⟩ := last_bounds R
  have HP : Hid (∀ w', Touch [] w w' → _) := fun w' (t : Touch [] w w') => pint_ (R.extract (Lib.lastIndexByte R 32 + 1).toNat R.size) w' (hS.touch t) (by rw [ByteArray.size_extract]; omega)
  have hok := gLine_ok s
  have hus := gLine_usp s
  rw [hgl] at hok hus
  have HG : Hid (gLine s = gRest k R) := hgl
  have hpw := pi_w (R.extract (Lib.lastIndexByte R 32 + 1).toNat R.size).data.toList
  have hgr : gRest k R = ⟨k, 0, ⟨#[]⟩, 0, 0⟩ := by
    unfold gRest gKey
    rw [hk, hn.2, hs]
    rfl
  rw [hgr] at hok hus HG
  clear hgr hgl
  have hsl1 : ∀ w, (Instr.slice 9 (.string R) (some (.int .i64 (Lib.lastIndexByte R 32 + 1))) none none).run Tryd.prog w = .ok (.string (R.extract (Lib.lastIndexByte R 32 + 1).toNat R.size)) w := fun w => run_slice_string_l w 9 R Tryd.underlying9 .i64 _ (by omega) (by omega)
  generalize piV (R.extract (Lib.lastIndexByte R 32 + 1).toNat R.size).data.toList = n at *
  generalize R.extract (Lib.lastIndexByte R 32 + 1).toNat R.size = X1 at *
  generalize Lib.lastIndexByte R 32 = c at *
  have HM : Hid (∀ w', Touch [] w w' → _) := fun w' (t : Touch [] w w') => may_ ⟨k, 0, ⟨#[]⟩, 0, 0⟩ w' (hS.touch t).kd hok
  have HN : Hid (mayZ ⟨k, 0, ⟨#[]⟩, 0, 0⟩ = true → ∀ w', Touch [] w w' → _) := fun (hm : mayZ ⟨k, 0, ⟨#[]⟩, 0, 0⟩ = true) w' (t : Touch [] w w') => line_ ⟨k, 0, ⟨#[]⟩, 0, 0⟩ w' (hS.touch t) hm hus
  have HF : Hid (mayZ ⟨k, 0, ⟨#[]⟩, 0, 0⟩ = false → rdZ s = none) := fun h => rdZ_may (by rw [HG.out]; exact h)
  have HE : Hid (ln ⟨k, 0, ⟨#[]⟩, 0, 0⟩ ≠ s → rdZ s = none) := fun h => rdZ_ln_no (by rw [HG.out]; exact h)
  have HT : Hid (mayZ ⟨k, 0, ⟨#[]⟩, 0, 0⟩ = true → ln ⟨k, 0, ⟨#[]⟩, 0, 0⟩ = s → rdZ s = some ⟨k, 0, ⟨#[]⟩, 0, 0⟩) := fun h1 h2 => by
    have := rdZ_yes (s := s) (by rw [HG.out]; exact h1) (by rw [HG.out]; exact h2)
    rw [HG.out] at this
    exact this
  dsimp only at HM HN HF HE HT
  generalize mayZ ⟨k, 0, ⟨#[]⟩, 0, 0⟩ = mb at *
  generalize ln ⟨k, 0, ⟨#[]⟩, 0, 0⟩ = X at *
  generalize rdZ s = RD at *
  clear hok hus HG
  have hcw1 : IntKind.i64.wrap (c + 1) = c + 1 := by rw [IntKind.wrap_i64]; omega
  have HA : Hid (∀ w', Calls Tryd.prog 51 #[.agg #[.int .i64 (0), .int .i64 (0)]] w' fun e w'' => e = .returned (.bool false) ∧ Touch [] w' w'') := fun w' => (named_ _ _ w').mono fun e w'' ⟨he, t⟩ => ⟨by rw [he, decide_eq_false (by omega)], t⟩
  have HB : Hid (∀ w', Calls Tryd.prog 51 #[.agg #[.int .i64 0, .int .i64 (0)]] w' fun e w'' => e = .returned (.bool false) ∧ Touch [] w' w'') := fun w' => (named_ _ _ w').mono fun e w'' ⟨he, t⟩ => ⟨by rw [he, decide_eq_false (by omega)], t⟩
  have HW : Hid (∀ w', Touch [] w w' → w'.cell? ⟨0, k * 6, none⟩ = some (.string (kWord k)) ∧ w'.cell? ⟨0, k * 6 + 1, none⟩ = some (.bool false) ∧ w'.cell? ⟨0, k * 6 + 2, none⟩ = some (.int .i64 (0)) ∧ w'.cell? ⟨0, k * 6 + 3, none⟩ = some (.int .i64 (0)) ∧ w'.cell? ⟨0, k * 6 + 4, none⟩ = some (.int .i64 0) ∧ w'.cell? ⟨0, k * 6 + 5, none⟩ = some (.int .i64 (0))) := fun w' t => by
    have hd := (hS.touch t).kd
    have c1 := hd.key k (by omega)
    have c2 := hd.nl k (by omega)
    have c3 := hd.nh k (by omega)
    have c5 := hd.sh k (by omega)
    rw [hk] at c1
    rw [hn.1] at c2
    rw [hn.2] at c3
    rw [hs] at c5
    exact ⟨hd.word k (by omega), c1, c2, c3, hd.sl k (by omega), c5⟩
  have k3 : (k : Int) < 10 := by omega
  have k4 : (0 : Int) ≤ (k : Int) := by omega
  generalize kWord k = wk at *
  clear hS hs0 h9 hk hn hs hrs lc1 lc2 hpw
  go_enter Tryd.func37, Tryd.ntmps37
  go_wp2_with fail
  refine (HC.out _ ((Touch.refl [] w).alloc _)).mono ?_
  rintro e w1 ⟨rfl, t1⟩
  have Z1 : Hid (Bx w1 w.heap.size (.int .i64 0) (.int .u16 0) (.string ⟨#[]⟩) (.int .i64 0) (.int .i64 0)) := ⟨tcell t1 (by simp), tcell t1 (by simp), tcell t1 (by simp), tcell t1 (by simp), tcell t1 (by simp), fun o => tfz t1 (by simp) (by simp)⟩
  have hw1 : w.heap.size < w1.heap.size := Nat.lt_of_lt_of_le (by simp) t1.size
  have G1 : Hid (Touch [] w w1) := ((Touch.refl [] w).alloc _).trans' t1
  clear t1
  go_wp2_with fail
  refine (HO.out _ G1.out).mono ?_
  rintro e w2 ⟨rfl, e2⟩
  rw [e2]
  clear e2 w2
  obtain ⟨c0, c1, c2, c3, c4, c5⟩ := HW.out _ (G1.out.alloc (.cells #[.int .i64 k, .int .u16 0, .string ⟨#[]⟩, .int .i64 0, .int .i64 0] 47))
  go_wp2_with fail
  refine (HL.out _).mono ?_
  rintro e w2 ⟨rfl, e2⟩
  rw [e2]
  clear e2 w2
  go_wp2_with fail
  refine (HP.out _ ((G1.out.alloc _).alloc _)).mono ?_
  rintro e w3 ⟨ev, rfl, t3⟩
  have Z3 : Hid (Bx w3 w.heap.size (.int .i64 0) (.int .u16 0) (.string ⟨#[]⟩) (.int .i64 0) (.int .i64 0)) := (Z1.out.touch (((Touch.refl [] w1).alloc _).alloc _)).touch t3
  have d0 : w3.cell? ⟨w1.heap.size, 0, none⟩ = some (.int .i64 k) := tcell t3 (by simp)
  have d1 : w3.cell? ⟨w1.heap.size, 1, none⟩ = some (.int .u16 0) := tcell t3 (by simp)
  have d2 : w3.cell? ⟨w1.heap.size, 2, none⟩ = some (.string ⟨#[]⟩) := tcell t3 (by simp)
  have d3 : w3.cell? ⟨w1.heap.size, 3, none⟩ = some (.int .i64 0) := tcell t3 (by simp)
  have d4 : w3.cell? ⟨w1.heap.size, 4, none⟩ = some (.int .i64 0) := tcell t3 (by simp)
  have df : ∀ o, w3.frozen? ⟨w1.heap.size, o, none⟩ = false := fun o => tfz t3 (by simp) (by simp; omega)
  have D3 : Hid (Bx w3 w1.heap.size (.int .i64 k) (.int .u16 0) (.string ⟨#[]⟩) (.int .i64 0) (.int .i64 0)) := ⟨d0, d1, d2, d3, d4, df⟩
  have r1 : w3.cell? ⟨w1.heap.size + 1, 1, none⟩ = some (.bool false) := tcell t3 (by simp)
  have r2 : w3.cell? ⟨w1.heap.size + 1, 2, none⟩ = some (.int .i64 0) := tcell t3 (by simp)
  have r3 : w3.cell? ⟨w1.heap.size + 1, 3, none⟩ = some (.int .i64 0) := tcell t3 (by simp)
  have r4 : w3.cell? ⟨w1.heap.size + 1, 4, none⟩ = some (.int .i64 0) := tcell t3 (by simp)
  have r5 : w3.cell? ⟨w1.heap.size + 1, 5, none⟩ = some (.int .i64 0) := tcell t3 (by simp)
  have hb : w1.heap.size + 1 < w3.heap.size := Nat.lt_of_lt_of_le (by simp) t3.size
  have G3 : Hid (Touch [] w w3) := ((G1.out.alloc _).alloc _).trans' t3
  clear t3 c0 c1 c2 c3 c4 c5
  go_wp2_with fail
  refine (HA.out _).mono ?_
  rintro e w4 ⟨rfl, t4⟩
  have Z4 : Hid (Bx w4 w.heap.size (.int .i64 0) (.int .u16 0) (.string ⟨#[]⟩) (.int .i64 0) (.int .i64 0)) := (Z3.out.touch t4)
  have D4 : Hid (Bx w4 w1.heap.size (.int .i64 k) (.int .u16 0) (.string ⟨#[]⟩) (.int .i64 0) (.int .i64 0)) := D3.out.touch t4
  clear d0 d1 d2 d3 d4 df
  obtain ⟨d0, d1, d2, d3, d4, df⟩ := D4.out
  replace r1 := tcell t4 r1
  replace r2 := tcell t4 r2
  replace r3 := tcell t4 r3
  replace r4 := tcell t4 r4
  replace r5 := tcell t4 r5
  replace hb := Nat.lt_of_lt_of_le hb t4.size
  have G4 : Hid (Touch [] w w4) := G3.out.trans' t4
  clear t4
  go_wp2_with fail
  refine (HB.out _).mono ?_
  rintro e w5 ⟨rfl, t5⟩
  have Z5 : Hid (Bx w5 w.heap.size (.int .i64 0) (.int .u16 0) (.string ⟨#[]⟩) (.int .i64 0) (.int .i64 0)) := (Z4.out.touch t5)
  have D5 : Hid (Bx w5 w1.heap.size (.int .i64 k) (.int .u16 0) (.string ⟨#[]⟩) (.int .i64 0) (.int .i64 0)) := D4.out.touch t5
  clear d0 d1 d2 d3 d4 df
  obtain ⟨d0, d1, d2, d3, d4, df⟩ := D5.out
  replace r1 := tcell t5 r1
  replace r2 := tcell t5 r2
  replace r3 := tcell t5 r3
  replace r4 := tcell t5 r4
  replace r5 := tcell t5 r5
  replace hb := Nat.lt_of_lt_of_le hb t5.size
  have G5 : Hid (Touch [] w w5) := G4.out.trans' t5
  clear t5
  go_wp2_with fail
  refine (HM.out _ G5.out).mono ?_
  rintro e w6 ⟨rfl, t6⟩
  have Z6 : Hid (Bx w6 w.heap.size (.int .i64 0) (.int .u16 0) (.string ⟨#[]⟩) (.int .i64 0) (.int .i64 0)) := (Z5.out.touch t6)
  have D6 : Hid (Bx w6 w1.heap.size (.int .i64 k) (.int .u16 0) (.string ⟨#[]⟩) (.int .i64 0) (.int .i64 0)) := D5.out.touch t6
  clear d0 d1 d2 d3 d4 df
  obtain ⟨d0, d1, d2, d3, d4, df⟩ := D6.out
  replace r1 := tcell t6 r1
  replace r2 := tcell t6 r2
  replace r3 := tcell t6 r3
  replace r4 := tcell t6 r4
  replace r5 := tcell t6 r5
  replace hb := Nat.lt_of_lt_of_le hb t6.size
  have G6 : Hid (Touch [] w w6) := G5.out.trans' t6
  clear t6
  cases mb with
  | false =>
    have HRD := hid (HF.out (by trivial))
    obtain ⟨z0, z1, z2, z3, z4, zf⟩ := Z6.out
    go_wp2_with fail
    exact bodyPost_ret (v := doV none) (by simp [results, Tryd.results37, go_sem, doV, z0, z1, z2, z3, z4]) rfl
      ⟨by rw [HRD.out], tset5 G6.out⟩
  | true =>
    go_wp2_with fail
    refine (HN.out (by trivial) _ G6.out).mono ?_
    rintro e w7 ⟨rfl, t7⟩
    have Z7 : Hid (Bx w7 w.heap.size (.int .i64 0) (.int .u16 0) (.string ⟨#[]⟩) (.int .i64 0) (.int .i64 0)) := (Z6.out.touch t7)
    have D7 : Hid (Bx w7 w1.heap.size (.int .i64 k) (.int .u16 0) (.string ⟨#[]⟩) (.int .i64 0) (.int .i64 0)) := D6.out.touch t7
    clear d0 d1 d2 d3 d4 df
    obtain ⟨d0, d1, d2, d3, d4, df⟩ := D7.out
    replace r1 := tcell t7 r1
    replace r2 := tcell t7 r2
    replace r3 := tcell t7 r3
    replace r4 := tcell t7 r4
    replace r5 := tcell t7 r5
    replace hb := Nat.lt_of_lt_of_le hb t7.size
    have G7 : Hid (Touch [] w w7) := G6.out.trans' t7
    clear t7
    obtain ⟨z0, z1, z2, z3, z4, zf⟩ := Z7.out
    by_cases hx : X = s
    · have HRD := hid (HT.out (by trivial) hx)
      have hbx : (X.toList == s.toList) = true := (beqB _ _).2 hx
      clear hx
      go_wp2_with fail
      exact bodyPost_ret (v := doV (some ⟨k, 0, ⟨#[]⟩, 0, 0⟩)) (by simp [results, Tryd.results37, go_sem, doV, z0, z1, z2, z3, z4]) rfl
        ⟨by rw [HRD.out], tset5 G7.out⟩
    · have HRD := hid (HE.out hx)
      have hbx : (X.toList == s.toList) = false := Bool.eq_false_iff.2 (fun h => hx ((beqB _ _).1 h))
      clear hx
      go_wp2_with fail
      exact bodyPost_ret (v := doV none) (by simp [results, Tryd.results37, go_sem, doV, z0, z1, z2, z3, z4]) rfl
        ⟨by rw [HRD.out], tset5 G7.out⟩
set_option maxHeartbeats 2000000 in
theorem do_key (s : ByteArray) (w : World) (hS : Sy w) (hs0 : s.size ≤ 2000000000) (k : Nat) (hop : opZ ⟨(Lib.cut s.data.toList [32]).1.toArray⟩ = k) (h9 : k ≤ 9) (hk : kKey k = true) (hn : kNl k = 0 ∧ kNh k = 0) (hs : kSh k = 0) :
    Calls Tryd.prog 37 #[.string s] w fun e w' => e = .returned (doV (rdZ s)) ∧ Touch [] w w' := by
  have HY : Hid (Sy w) := hS
  have hgl : gLine s = gRest k ⟨(Lib.cut s.data.toList [32]).2.1.toArray⟩ := by unfold gLine; rw [hop]
  have hrs : (ByteArray.mk (Lib.cut s.data.toList [32]).2.1.toArray).size ≤ s.size := by
    have h := cut_rest s.data.toList 32
    have e1 : s.size = s.data.toList.length := rfl
    have e2 : (ByteArray.mk (Lib.cut s.data.toList [32]).2.1.toArray).size = (Lib.cut s.data.toList [32]).2.1.length := by simp [ByteArray.size]
    omega
  have HC : Hid (∀ w', Touch [] w w' → _) := fun w' (t : Touch [] w w') => cut_ s 32 w' (hS.touch t) (by omega)
  have HO : Hid (∀ w', Touch [] w w' → _) := fun w' (t : Touch [] w w') => opOf_ ⟨(Lib.cut s.data.toList [32]).1.toArray⟩ w' (hS.touch t).kd
  rw [hop] at HO
  clear hop
  generalize (Lib.cut s.data.toList [32]).2.2 = vb at *
  generalize (ByteArray.mk (Lib.cut s.data.toList [32]).1.toArray) = wd at *
  generalize (ByteArray.mk (Lib.cut s.data.toList [32]).2.1.toArray) = R at *
  have HL : Hid (∀ w', _) := fun w' => last_ R w' (by omega)
  obtain ⟨lc1, lc2⟩ := last_bounds R
  have HP : Hid (∀ w', Touch [] w w' → _) := fun w' (t : Touch [] w w') => pint_ (R.extract (Lib.lastIndexByte R 32 + 1).toNat R.size) w' (hS.touch t) (by rw [ByteArray.size_extract]; omega)
  have hok := gLine_ok s
  have hus := gLine_usp s
  rw [hgl] at hok hus
  have HG : Hid (gLine s = gRest k R) := hgl
  have hpw := pi_w (R.extract (Lib.lastIndexByte R 32 + 1).toNat R.size).data.toList
  have hgr : gRest k R = ⟨k, (kp (R)).1, (kp (R)).2.1, 0, 0⟩ := by
    unfold gRest gKey
    rw [hk, hn.2, hs]
    rfl
  rw [hgr] at hok hus HG
  clear hgr hgl
  have HK : Hid (∀ w', _) := fun w' => kparse_ (R) w' (by omega)
  generalize (kp (R)).1 = P at *
  generalize (kp (R)).2.1 = Q at *
  have hsl1 : ∀ w, (Instr.slice 9 (.string R) (some (.int .i64 (Lib.lastIndexByte R 32 + 1))) none none).run Tryd.prog w = .ok (.string (R.extract (Lib.lastIndexByte R 32 + 1).toNat R.size)) w := fun w => run_slice_string_l w 9 R Tryd.underlying9 .i64 _ (by omega) (by omega)
  generalize piV (R.extract (Lib.lastIndexByte R 32 + 1).toNat R.size).data.toList = n at *
  generalize R.extract (Lib.lastIndexByte R 32 + 1).toNat R.size = X1 at *
  generalize Lib.lastIndexByte R 32 = c at *
  have HM : Hid (∀ w', Touch [] w w' → _) := fun w' (t : Touch [] w w') => may_ ⟨k, P, Q, 0, 0⟩ w' (hS.touch t).kd hok
  have HN : Hid (mayZ ⟨k, P, Q, 0, 0⟩ = true → ∀ w', Touch [] w w' → _) := fun (hm : mayZ ⟨k, P, Q, 0, 0⟩ = true) w' (t : Touch [] w w') => line_ ⟨k, P, Q, 0, 0⟩ w' (hS.touch t) hm hus
  have HF : Hid (mayZ ⟨k, P, Q, 0, 0⟩ = false → rdZ s = none) := fun h => rdZ_may (by rw [HG.out]; exact h)
  have HE : Hid (ln ⟨k, P, Q, 0, 0⟩ ≠ s → rdZ s = none) := fun h => rdZ_ln_no (by rw [HG.out]; exact h)
  have HT : Hid (mayZ ⟨k, P, Q, 0, 0⟩ = true → ln ⟨k, P, Q, 0, 0⟩ = s → rdZ s = some ⟨k, P, Q, 0, 0⟩) := fun h1 h2 => by
    have := rdZ_yes (s := s) (by rw [HG.out]; exact h1) (by rw [HG.out]; exact h2)
    rw [HG.out] at this
    exact this
  dsimp only at HM HN HF HE HT
  generalize mayZ ⟨k, P, Q, 0, 0⟩ = mb at *
  generalize ln ⟨k, P, Q, 0, 0⟩ = X at *
  generalize rdZ s = RD at *
  clear hok hus HG
  have hcw1 : IntKind.i64.wrap (c + 1) = c + 1 := by rw [IntKind.wrap_i64]; omega
  have HA : Hid (∀ w', Calls Tryd.prog 51 #[.agg #[.int .i64 (0), .int .i64 (0)]] w' fun e w'' => e = .returned (.bool false) ∧ Touch [] w' w'') := fun w' => (named_ _ _ w').mono fun e w'' ⟨he, t⟩ => ⟨by rw [he, decide_eq_false (by omega)], t⟩
  have HB : Hid (∀ w', Calls Tryd.prog 51 #[.agg #[.int .i64 0, .int .i64 (0)]] w' fun e w'' => e = .returned (.bool false) ∧ Touch [] w' w'') := fun w' => (named_ _ _ w').mono fun e w'' ⟨he, t⟩ => ⟨by rw [he, decide_eq_false (by omega)], t⟩
  have HW : Hid (∀ w', Touch [] w w' → w'.cell? ⟨0, k * 6, none⟩ = some (.string (kWord k)) ∧ w'.cell? ⟨0, k * 6 + 1, none⟩ = some (.bool true) ∧ w'.cell? ⟨0, k * 6 + 2, none⟩ = some (.int .i64 (0)) ∧ w'.cell? ⟨0, k * 6 + 3, none⟩ = some (.int .i64 (0)) ∧ w'.cell? ⟨0, k * 6 + 4, none⟩ = some (.int .i64 0) ∧ w'.cell? ⟨0, k * 6 + 5, none⟩ = some (.int .i64 (0))) := fun w' t => by
    have hd := (hS.touch t).kd
    have c1 := hd.key k (by omega)
    have c2 := hd.nl k (by omega)
    have c3 := hd.nh k (by omega)
    have c5 := hd.sh k (by omega)
    rw [hk] at c1
    rw [hn.1] at c2
    rw [hn.2] at c3
    rw [hs] at c5
    exact ⟨hd.word k (by omega), c1, c2, c3, hd.sl k (by omega), c5⟩
  have k3 : (k : Int) < 10 := by omega
  have k4 : (0 : Int) ≤ (k : Int) := by omega
  generalize kWord k = wk at *
  clear hS hs0 h9 hk hn hs hrs lc1 lc2 hpw
  go_enter Tryd.func37, Tryd.ntmps37
  go_wp2_with fail
  refine (HC.out _ ((Touch.refl [] w).alloc _)).mono ?_
  rintro e w1 ⟨rfl, t1⟩
  have Z1 : Hid (Bx w1 w.heap.size (.int .i64 0) (.int .u16 0) (.string ⟨#[]⟩) (.int .i64 0) (.int .i64 0)) := ⟨tcell t1 (by simp), tcell t1 (by simp), tcell t1 (by simp), tcell t1 (by simp), tcell t1 (by simp), fun o => tfz t1 (by simp) (by simp)⟩
  have hw1 : w.heap.size < w1.heap.size := Nat.lt_of_lt_of_le (by simp) t1.size
  have G1 : Hid (Touch [] w w1) := ((Touch.refl [] w).alloc _).trans' t1
  clear t1
  go_wp2_with fail
  refine (HO.out _ G1.out).mono ?_
  rintro e w2 ⟨rfl, e2⟩
  rw [e2]
  clear e2 w2
  obtain ⟨c0, c1, c2, c3, c4, c5⟩ := HW.out _ (G1.out.alloc (.cells #[.int .i64 k, .int .u16 0, .string ⟨#[]⟩, .int .i64 0, .int .i64 0] 47))
  go_wp2_with fail
  refine (HL.out _).mono ?_
  rintro e w2 ⟨rfl, e2⟩
  rw [e2]
  clear e2 w2
  go_wp2_with fail
  refine (HP.out _ ((G1.out.alloc _).alloc _)).mono ?_
  rintro e w3 ⟨ev, rfl, t3⟩
  have Z3 : Hid (Bx w3 w.heap.size (.int .i64 0) (.int .u16 0) (.string ⟨#[]⟩) (.int .i64 0) (.int .i64 0)) := (Z1.out.touch (((Touch.refl [] w1).alloc _).alloc _)).touch t3
  have d0 : w3.cell? ⟨w1.heap.size, 0, none⟩ = some (.int .i64 k) := tcell t3 (by simp)
  have d1 : w3.cell? ⟨w1.heap.size, 1, none⟩ = some (.int .u16 0) := tcell t3 (by simp)
  have d2 : w3.cell? ⟨w1.heap.size, 2, none⟩ = some (.string ⟨#[]⟩) := tcell t3 (by simp)
  have d3 : w3.cell? ⟨w1.heap.size, 3, none⟩ = some (.int .i64 0) := tcell t3 (by simp)
  have d4 : w3.cell? ⟨w1.heap.size, 4, none⟩ = some (.int .i64 0) := tcell t3 (by simp)
  have df : ∀ o, w3.frozen? ⟨w1.heap.size, o, none⟩ = false := fun o => tfz t3 (by simp) (by simp; omega)
  have D3 : Hid (Bx w3 w1.heap.size (.int .i64 k) (.int .u16 0) (.string ⟨#[]⟩) (.int .i64 0) (.int .i64 0)) := ⟨d0, d1, d2, d3, d4, df⟩
  have r1 : w3.cell? ⟨w1.heap.size + 1, 1, none⟩ = some (.bool true) := tcell t3 (by simp)
  have r2 : w3.cell? ⟨w1.heap.size + 1, 2, none⟩ = some (.int .i64 0) := tcell t3 (by simp)
  have r3 : w3.cell? ⟨w1.heap.size + 1, 3, none⟩ = some (.int .i64 0) := tcell t3 (by simp)
  have r4 : w3.cell? ⟨w1.heap.size + 1, 4, none⟩ = some (.int .i64 0) := tcell t3 (by simp)
  have r5 : w3.cell? ⟨w1.heap.size + 1, 5, none⟩ = some (.int .i64 0) := tcell t3 (by simp)
  have hb : w1.heap.size + 1 < w3.heap.size := Nat.lt_of_lt_of_le (by simp) t3.size
  have G3 : Hid (Touch [] w w3) := ((G1.out.alloc _).alloc _).trans' t3
  clear t3 c0 c1 c2 c3 c4 c5
  go_wp2_with fail
  refine (HA.out _).mono ?_
  rintro e w4 ⟨rfl, t4⟩
  have Z4 : Hid (Bx w4 w.heap.size (.int .i64 0) (.int .u16 0) (.string ⟨#[]⟩) (.int .i64 0) (.int .i64 0)) := (Z3.out.touch t4)
  have D4 : Hid (Bx w4 w1.heap.size (.int .i64 k) (.int .u16 0) (.string ⟨#[]⟩) (.int .i64 0) (.int .i64 0)) := D3.out.touch t4
  clear d0 d1 d2 d3 d4 df
  obtain ⟨d0, d1, d2, d3, d4, df⟩ := D4.out
  replace r1 := tcell t4 r1
  replace r2 := tcell t4 r2
  replace r3 := tcell t4 r3
  replace r4 := tcell t4 r4
  replace r5 := tcell t4 r5
  replace hb := Nat.lt_of_lt_of_le hb t4.size
  have G4 : Hid (Touch [] w w4) := G3.out.trans' t4
  clear t4
  go_wp2_with fail
  refine (HB.out _).mono ?_
  rintro e w5 ⟨rfl, t5⟩
  have Z5 : Hid (Bx w5 w.heap.size (.int .i64 0) (.int .u16 0) (.string ⟨#[]⟩) (.int .i64 0) (.int .i64 0)) := (Z4.out.touch t5)
  have D5 : Hid (Bx w5 w1.heap.size (.int .i64 k) (.int .u16 0) (.string ⟨#[]⟩) (.int .i64 0) (.int .i64 0)) := D4.out.touch t5
  clear d0 d1 d2 d3 d4 df
  obtain ⟨d0, d1, d2, d3, d4, df⟩ := D5.out
  replace r1 := tcell t5 r1
  replace r2 := tcell t5 r2
  replace r3 := tcell t5 r3
  replace r4 := tcell t5 r4
  replace r5 := tcell t5 r5
  replace hb := Nat.lt_of_lt_of_le hb t5.size
  have G5 : Hid (Touch [] w w5) := G4.out.trans' t5
  clear t5
  go_wp2_with fail
  refine (HK.out _).mono ?_
  rintro e w6 ⟨i1, i2, rfl, t6⟩
  have Z6 : Hid (Bx w6 w.heap.size (.int .i64 0) (.int .u16 0) (.string ⟨#[]⟩) (.int .i64 0) (.int .i64 0)) := (Z5.out.touch t6)
  have D6 : Hid (Bx w6 w1.heap.size (.int .i64 k) (.int .u16 0) (.string ⟨#[]⟩) (.int .i64 0) (.int .i64 0)) := D5.out.touch t6
  clear d0 d1 d2 d3 d4 df
  obtain ⟨d0, d1, d2, d3, d4, df⟩ := D6.out
  replace r1 := tcell t6 r1
  replace r2 := tcell t6 r2
  replace r3 := tcell t6 r3
  replace r4 := tcell t6 r4
  replace r5 := tcell t6 r5
  replace hb := Nat.lt_of_lt_of_le hb t6.size
  have G6 : Hid (Touch [] w w6) := G5.out.trans' t6
  clear t6
  go_wp2_with fail
  refine (HM.out _ (tset (tset G6.out (Nat.le_of_lt hw1) 1 (.int .u16 P)) (Nat.le_of_lt hw1) 2 (.string Q))).mono ?_
  rintro e w7 ⟨rfl, t7⟩
  have Z7 : Hid (Bx w7 w.heap.size (.int .i64 0) (.int .u16 0) (.string ⟨#[]⟩) (.int .i64 0) (.int .i64 0)) := ((zset (zset Z6.out hw1) hw1).touch t7)
  have D7 : Hid (Bx w7 w1.heap.size (.int .i64 k) (.int .u16 P) (.string Q) (.int .i64 0) (.int .i64 0)) := ((D6.out.set1 (.int .u16 P)).set2 (.string Q)).touch t7
  clear d0 d1 d2 d3 d4 df
  obtain ⟨d0, d1, d2, d3, d4, df⟩ := D7.out
  replace r1 := tcell t7 (rfar (rfar r1))
  replace r2 := tcell t7 (rfar (rfar r2))
  replace r3 := tcell t7 (rfar (rfar r3))
  replace r4 := tcell t7 (rfar (rfar r4))
  replace r5 := tcell t7 (rfar (rfar r5))
  replace hb : w1.heap.size + 1 < w7.heap.size := Nat.lt_of_lt_of_le (by simp; omega) t7.size
  have G7 : Hid (Touch [] w w7) := (tset (tset G6.out (Nat.le_of_lt hw1) 1 (.int .u16 P)) (Nat.le_of_lt hw1) 2 (.string Q)).trans' t7
  clear t7
  cases mb with
  | false =>
    have HRD := hid (HF.out (by trivial))
    obtain ⟨z0, z1, z2, z3, z4, zf⟩ := Z7.out
    go_wp2_with fail
    exact bodyPost_ret (v := doV none) (by simp [results, Tryd.results37, go_sem, doV, z0, z1, z2, z3, z4]) rfl
      ⟨by rw [HRD.out], tset5 G7.out⟩
  | true =>
    go_wp2_with fail
    refine (HN.out (by trivial) _ G7.out).mono ?_
    rintro e w8 ⟨rfl, t8⟩
    have Z8 : Hid (Bx w8 w.heap.size (.int .i64 0) (.int .u16 0) (.string ⟨#[]⟩) (.int .i64 0) (.int .i64 0)) := (Z7.out.touch t8)
    have D8 : Hid (Bx w8 w1.heap.size (.int .i64 k) (.int .u16 P) (.string Q) (.int .i64 0) (.int .i64 0)) := D7.out.touch t8
    clear d0 d1 d2 d3 d4 df
    obtain ⟨d0, d1, d2, d3, d4, df⟩ := D8.out
    replace r1 := tcell t8 r1
    replace r2 := tcell t8 r2
    replace r3 := tcell t8 r3
    replace r4 := tcell t8 r4
    replace r5 := tcell t8 r5
    replace hb := Nat.lt_of_lt_of_le hb t8.size
    have G8 : Hid (Touch [] w w8) := G7.out.trans' t8
    clear t8
    obtain ⟨z0, z1, z2, z3, z4, zf⟩ := Z8.out
    by_cases hx : X = s
    · have HRD := hid (HT.out (by trivial) hx)
      have hbx : (X.toList == s.toList) = true := (beqB _ _).2 hx
      clear hx
      go_wp2_with fail
      exact bodyPost_ret (v := doV (some ⟨k, P, Q, 0, 0⟩)) (by simp [results, Tryd.results37, go_sem, doV, z0, z1, z2, z3, z4]) rfl
        ⟨by rw [HRD.out], tset5 G8.out⟩
    · have HRD := hid (HE.out hx)
      have hbx : (X.toList == s.toList) = false := Bool.eq_false_iff.2 (fun h => hx ((beqB _ _).1 h))
      clear hx
      go_wp2_with fail
      exact bodyPost_ret (v := doV none) (by simp [results, Tryd.results37, go_sem, doV, z0, z1, z2, z3, z4]) rfl
        ⟨by rw [HRD.out], tset5 G8.out⟩
set_option maxHeartbeats 2000000 in
theorem do_both (s : ByteArray) (w : World) (hS : Sy w) (hs0 : s.size ≤ 2000000000) (k : Nat) (hop : opZ ⟨(Lib.cut s.data.toList [32]).1.toArray⟩ = k) (h9 : k ≤ 9) (hk : kKey k = true) (hn : kNl k = 0 ∧ kNh k = 0) (hs : 0 < kSh k) :
    Calls Tryd.prog 37 #[.string s] w fun e w' => e = .returned (doV (rdZ s)) ∧ Touch [] w w' := by
  have HY : Hid (Sy w) := hS
  have hgl : gLine s = gRest k ⟨(Lib.cut s.data.toList [32]).2.1.toArray⟩ := by unfold gLine; rw [hop]
  have hrs : (ByteArray.mk (Lib.cut s.data.toList [32]).2.1.toArray).size ≤ s.size := by
    have h := cut_rest s.data.toList 32
    have e1 : s.size = s.data.toList.length := rfl
    have e2 : (ByteArray.mk (Lib.cut s.data.toList [32]).2.1.toArray).size = (Lib.cut s.data.toList [32]).2.1.length := by simp [ByteArray.size]
    omega
  have HC : Hid (∀ w', Touch [] w w' → _) := fun w' (t : Touch [] w w') => cut_ s 32 w' (hS.touch t) (by omega)
  have HO : Hid (∀ w', Touch [] w w' → _) := fun w' (t : Touch [] w w') => opOf_ ⟨(Lib.cut s.data.toList [32]).1.toArray⟩ w' (hS.touch t).kd
  rw [hop] at HO
  clear hop
  generalize (Lib.cut s.data.toList [32]).2.2 = vb at *
  generalize (ByteArray.mk (Lib.cut s.data.toList [32]).1.toArray) = wd at *
  generalize (ByteArray.mk (Lib.cut s.data.toList [32]).2.1.toArray) = R at *
  have HL : Hid (∀ w', _) := fun w' => last_ R w' (by omega)
  obtain ⟨lc1, lc2⟩ := last_bounds R
  have HP : Hid (∀ w', Touch [] w w' → _) := fun w' (t : Touch [] w w') => pint_ (R.extract (Lib.lastIndexByte R 32 + 1).toNat R.size) w' (hS.touch t) (by rw [ByteArray.size_extract]; omega)
  have hok := gLine_ok s
  have hus := gLine_usp s
  rw [hgl] at hok hus
  have HG : Hid (gLine s = gRest k R) := hgl
  have hpw := pi_w (R.extract (Lib.lastIndexByte R 32 + 1).toNat R.size).data.toList
  have hgr : gRest k R = ⟨k, (kp (R.extract 0 (max (Lib.lastIndexByte R 32) 0).toNat)).1, (kp (R.extract 0 (max (Lib.lastIndexByte R 32) 0).toNat)).2.1, 0, piV (R.extract (Lib.lastIndexByte R 32 + 1).toNat R.size).data.toList⟩ := by
    unfold gRest gKey
    rw [hk, hn.2]
    rw [decide_eq_true hs]
    rfl
  rw [hgr] at hok hus HG
  clear hgr hgl
  have HK : Hid (∀ w', _) := fun w' => kparse_ (R.extract 0 (max (Lib.lastIndexByte R 32) 0).toNat) w' (by rw [ByteArray.size_extract]; omega)
  generalize (kp (R.extract 0 (max (Lib.lastIndexByte R 32) 0).toNat)).1 = P at *
  generalize (kp (R.extract 0 (max (Lib.lastIndexByte R 32) 0).toNat)).2.1 = Q at *
  have hsl1 : ∀ w, (Instr.slice 9 (.string R) (some (.int .i64 (Lib.lastIndexByte R 32 + 1))) none none).run Tryd.prog w = .ok (.string (R.extract (Lib.lastIndexByte R 32 + 1).toNat R.size)) w := fun w => run_slice_string_l w 9 R Tryd.underlying9 .i64 _ (by omega) (by omega)
  generalize piV (R.extract (Lib.lastIndexByte R 32 + 1).toNat R.size).data.toList = n at *
  generalize R.extract (Lib.lastIndexByte R 32 + 1).toNat R.size = X1 at *
  have hsl2 : ∀ w (y : Int), y = max (Lib.lastIndexByte R 32) 0 → (Instr.slice 9 (.string R) none (some (.int .i64 y)) none).run Tryd.prog w = .ok (.string (R.extract 0 (max (Lib.lastIndexByte R 32) 0).toNat)) w := fun w y hy => by
    rw [hy]
    exact run_slice_string_h w 9 R Tryd.underlying9 .i64 _ (by omega) (by omega)
  generalize R.extract 0 (max (Lib.lastIndexByte R 32) 0).toNat = X2 at *
  generalize Lib.lastIndexByte R 32 = c at *
  have HM : Hid (∀ w', Touch [] w w' → _) := fun w' (t : Touch [] w w') => may_ ⟨k, P, Q, 0, n⟩ w' (hS.touch t).kd hok
  have HN : Hid (mayZ ⟨k, P, Q, 0, n⟩ = true → ∀ w', Touch [] w w' → _) := fun (hm : mayZ ⟨k, P, Q, 0, n⟩ = true) w' (t : Touch [] w w') => line_ ⟨k, P, Q, 0, n⟩ w' (hS.touch t) hm hus
  have HF : Hid (mayZ ⟨k, P, Q, 0, n⟩ = false → rdZ s = none) := fun h => rdZ_may (by rw [HG.out]; exact h)
  have HE : Hid (ln ⟨k, P, Q, 0, n⟩ ≠ s → rdZ s = none) := fun h => rdZ_ln_no (by rw [HG.out]; exact h)
  have HT : Hid (mayZ ⟨k, P, Q, 0, n⟩ = true → ln ⟨k, P, Q, 0, n⟩ = s → rdZ s = some ⟨k, P, Q, 0, n⟩) := fun h1 h2 => by
    have := rdZ_yes (s := s) (by rw [HG.out]; exact h1) (by rw [HG.out]; exact h2)
    rw [HG.out] at this
    exact this
  dsimp only at HM HN HF HE HT
  generalize mayZ ⟨k, P, Q, 0, n⟩ = mb at *
  generalize ln ⟨k, P, Q, 0, n⟩ = X at *
  generalize rdZ s = RD at *
  clear hok hus HG
  have hcw1 : IntKind.i64.wrap (c + 1) = c + 1 := by rw [IntKind.wrap_i64]; omega
  have HA : Hid (∀ w', Calls Tryd.prog 51 #[.agg #[.int .i64 (0), .int .i64 (0)]] w' fun e w'' => e = .returned (.bool false) ∧ Touch [] w' w'') := fun w' => (named_ _ _ w').mono fun e w'' ⟨he, t⟩ => ⟨by rw [he, decide_eq_false (by omega)], t⟩
  have HB : Hid (∀ w', Calls Tryd.prog 51 #[.agg #[.int .i64 0, .int .i64 (kSh k)]] w' fun e w'' => e = .returned (.bool true) ∧ Touch [] w' w'') := fun w' => (named_ _ _ w').mono fun e w'' ⟨he, t⟩ => ⟨by rw [he, decide_eq_true hs], t⟩
  have HW : Hid (∀ w', Touch [] w w' → w'.cell? ⟨0, k * 6, none⟩ = some (.string (kWord k)) ∧ w'.cell? ⟨0, k * 6 + 1, none⟩ = some (.bool true) ∧ w'.cell? ⟨0, k * 6 + 2, none⟩ = some (.int .i64 (0)) ∧ w'.cell? ⟨0, k * 6 + 3, none⟩ = some (.int .i64 (0)) ∧ w'.cell? ⟨0, k * 6 + 4, none⟩ = some (.int .i64 0) ∧ w'.cell? ⟨0, k * 6 + 5, none⟩ = some (.int .i64 (kSh k))) := fun w' t => by
    have hd := (hS.touch t).kd
    have c1 := hd.key k (by omega)
    have c2 := hd.nl k (by omega)
    have c3 := hd.nh k (by omega)
    have c5 := hd.sh k (by omega)
    rw [hk] at c1
    rw [hn.1] at c2
    rw [hn.2] at c3
    exact ⟨hd.word k (by omega), c1, c2, c3, hd.sl k (by omega), c5⟩
  have k3 : (k : Int) < 10 := by omega
  have k4 : (0 : Int) ≤ (k : Int) := by omega
  generalize kSh k = sh at *
  generalize kWord k = wk at *
  have hm : 0 ≤ max c 0 ∧ max c 0 ≤ (R.size : Int) := by omega
  have hm1 := hm.1
  have hm2 := hm.2
  have hsl3 : ∀ w, (Instr.slice 9 (.string R) none (some (.int .i64 (max c 0))) none).run Tryd.prog w = .ok (.string X2) w := fun w => hsl2 w _ rfl
  clear hsl2
  clear hS hs0 h9 hk hn hs hrs lc1 lc2 hpw
  go_enter Tryd.func37, Tryd.ntmps37
  go_wp2_with fail
  refine (HC.out _ ((Touch.refl [] w).alloc _)).mono ?_
  rintro e w1 ⟨rfl, t1⟩
  have Z1 : Hid (Bx w1 w.heap.size (.int .i64 0) (.int .u16 0) (.string ⟨#[]⟩) (.int .i64 0) (.int .i64 0)) := ⟨tcell t1 (by simp), tcell t1 (by simp), tcell t1 (by simp), tcell t1 (by simp), tcell t1 (by simp), fun o => tfz t1 (by simp) (by simp)⟩
  have hw1 : w.heap.size < w1.heap.size := Nat.lt_of_lt_of_le (by simp) t1.size
  have G1 : Hid (Touch [] w w1) := ((Touch.refl [] w).alloc _).trans' t1
  clear t1
  go_wp2_with fail
  refine (HO.out _ G1.out).mono ?_
  rintro e w2 ⟨rfl, e2⟩
  rw [e2]
  clear e2 w2
  obtain ⟨c0, c1, c2, c3, c4, c5⟩ := HW.out _ (G1.out.alloc (.cells #[.int .i64 k, .int .u16 0, .string ⟨#[]⟩, .int .i64 0, .int .i64 0] 47))
  go_wp2_with fail
  refine (HL.out _).mono ?_
  rintro e w2 ⟨rfl, e2⟩
  rw [e2]
  clear e2 w2
  go_wp2_with fail
  refine (HP.out _ ((G1.out.alloc _).alloc _)).mono ?_
  rintro e w3 ⟨ev, rfl, t3⟩
  have Z3 : Hid (Bx w3 w.heap.size (.int .i64 0) (.int .u16 0) (.string ⟨#[]⟩) (.int .i64 0) (.int .i64 0)) := (Z1.out.touch (((Touch.refl [] w1).alloc _).alloc _)).touch t3
  have d0 : w3.cell? ⟨w1.heap.size, 0, none⟩ = some (.int .i64 k) := tcell t3 (by simp)
  have d1 : w3.cell? ⟨w1.heap.size, 1, none⟩ = some (.int .u16 0) := tcell t3 (by simp)
  have d2 : w3.cell? ⟨w1.heap.size, 2, none⟩ = some (.string ⟨#[]⟩) := tcell t3 (by simp)
  have d3 : w3.cell? ⟨w1.heap.size, 3, none⟩ = some (.int .i64 0) := tcell t3 (by simp)
  have d4 : w3.cell? ⟨w1.heap.size, 4, none⟩ = some (.int .i64 0) := tcell t3 (by simp)
  have df : ∀ o, w3.frozen? ⟨w1.heap.size, o, none⟩ = false := fun o => tfz t3 (by simp) (by simp; omega)
  have D3 : Hid (Bx w3 w1.heap.size (.int .i64 k) (.int .u16 0) (.string ⟨#[]⟩) (.int .i64 0) (.int .i64 0)) := ⟨d0, d1, d2, d3, d4, df⟩
  have r1 : w3.cell? ⟨w1.heap.size + 1, 1, none⟩ = some (.bool true) := tcell t3 (by simp)
  have r2 : w3.cell? ⟨w1.heap.size + 1, 2, none⟩ = some (.int .i64 0) := tcell t3 (by simp)
  have r3 : w3.cell? ⟨w1.heap.size + 1, 3, none⟩ = some (.int .i64 0) := tcell t3 (by simp)
  have r4 : w3.cell? ⟨w1.heap.size + 1, 4, none⟩ = some (.int .i64 0) := tcell t3 (by simp)
  have r5 : w3.cell? ⟨w1.heap.size + 1, 5, none⟩ = some (.int .i64 sh) := tcell t3 (by simp)
  have hb : w1.heap.size + 1 < w3.heap.size := Nat.lt_of_lt_of_le (by simp) t3.size
  have G3 : Hid (Touch [] w w3) := ((G1.out.alloc _).alloc _).trans' t3
  clear t3 c0 c1 c2 c3 c4 c5
  go_wp2_with fail
  refine (HA.out _).mono ?_
  rintro e w4 ⟨rfl, t4⟩
  have Z4 : Hid (Bx w4 w.heap.size (.int .i64 0) (.int .u16 0) (.string ⟨#[]⟩) (.int .i64 0) (.int .i64 0)) := (Z3.out.touch t4)
  have D4 : Hid (Bx w4 w1.heap.size (.int .i64 k) (.int .u16 0) (.string ⟨#[]⟩) (.int .i64 0) (.int .i64 0)) := D3.out.touch t4
  clear d0 d1 d2 d3 d4 df
  obtain ⟨d0, d1, d2, d3, d4, df⟩ := D4.out
  replace r1 := tcell t4 r1
  replace r2 := tcell t4 r2
  replace r3 := tcell t4 r3
  replace r4 := tcell t4 r4
  replace r5 := tcell t4 r5
  replace hb := Nat.lt_of_lt_of_le hb t4.size
  have G4 : Hid (Touch [] w w4) := G3.out.trans' t4
  clear t4
  go_wp2_with fail
  refine (HB.out _).mono ?_
  rintro e w5 ⟨rfl, t5⟩
  have Z5 : Hid (Bx w5 w.heap.size (.int .i64 0) (.int .u16 0) (.string ⟨#[]⟩) (.int .i64 0) (.int .i64 0)) := (Z4.out.touch t5)
  have D5 : Hid (Bx w5 w1.heap.size (.int .i64 k) (.int .u16 0) (.string ⟨#[]⟩) (.int .i64 0) (.int .i64 0)) := D4.out.touch t5
  clear d0 d1 d2 d3 d4 df
  obtain ⟨d0, d1, d2, d3, d4, df⟩ := D5.out
  replace r1 := tcell t5 r1
  replace r2 := tcell t5 r2
  replace r3 := tcell t5 r3
  replace r4 := tcell t5 r4
  replace r5 := tcell t5 r5
  replace hb := Nat.lt_of_lt_of_le hb t5.size
  have G5 : Hid (Touch [] w w5) := G4.out.trans' t5
  clear t5
  go_wp2_with fail
  refine (HK.out _).mono ?_
  rintro e w6 ⟨i1, i2, rfl, t6⟩
  have Z6 : Hid (Bx w6 w.heap.size (.int .i64 0) (.int .u16 0) (.string ⟨#[]⟩) (.int .i64 0) (.int .i64 0)) := ((zset Z5.out hw1).touch t6)
  have D6 : Hid (Bx w6 w1.heap.size (.int .i64 k) (.int .u16 0) (.string ⟨#[]⟩) (.int .i64 0) (.int .i64 n)) := (D5.out.set4 (.int .i64 n)).touch t6
  clear d0 d1 d2 d3 d4 df
  obtain ⟨d0, d1, d2, d3, d4, df⟩ := D6.out
  replace r1 := tcell t6 (rfar r1)
  replace r2 := tcell t6 (rfar r2)
  replace r3 := tcell t6 (rfar r3)
  replace r4 := tcell t6 (rfar r4)
  replace r5 := tcell t6 (rfar r5)
  replace hb : w1.heap.size + 1 < w6.heap.size := Nat.lt_of_lt_of_le (by simp; omega) t6.size
  have G6 : Hid (Touch [] w w6) := (tset G5.out (Nat.le_of_lt hw1) 4 (.int .i64 n)).trans' t6
  clear t6
  go_wp2_with fail
  refine (HM.out _ (tset (tset G6.out (Nat.le_of_lt hw1) 1 (.int .u16 P)) (Nat.le_of_lt hw1) 2 (.string Q))).mono ?_
  rintro e w7 ⟨rfl, t7⟩
  have Z7 : Hid (Bx w7 w.heap.size (.int .i64 0) (.int .u16 0) (.string ⟨#[]⟩) (.int .i64 0) (.int .i64 0)) := ((zset (zset Z6.out hw1) hw1).touch t7)
  have D7 : Hid (Bx w7 w1.heap.size (.int .i64 k) (.int .u16 P) (.string Q) (.int .i64 0) (.int .i64 n)) := ((D6.out.set1 (.int .u16 P)).set2 (.string Q)).touch t7
  clear d0 d1 d2 d3 d4 df
  obtain ⟨d0, d1, d2, d3, d4, df⟩ := D7.out
  replace r1 := tcell t7 (rfar (rfar r1))
  replace r2 := tcell t7 (rfar (rfar r2))
  replace r3 := tcell t7 (rfar (rfar r3))
  replace r4 := tcell t7 (rfar (rfar r4))
  replace r5 := tcell t7 (rfar (rfar r5))
  replace hb : w1.heap.size + 1 < w7.heap.size := Nat.lt_of_lt_of_le (by simp; omega) t7.size
  have G7 : Hid (Touch [] w w7) := (tset (tset G6.out (Nat.le_of_lt hw1) 1 (.int .u16 P)) (Nat.le_of_lt hw1) 2 (.string Q)).trans' t7
  clear t7
  cases mb with
  | false =>
    have HRD := hid (HF.out (by trivial))
    obtain ⟨z0, z1, z2, z3, z4, zf⟩ := Z7.out
    go_wp2_with fail
    exact bodyPost_ret (v := doV none) (by simp [results, Tryd.results37, go_sem, doV, z0, z1, z2, z3, z4]) rfl
      ⟨by rw [HRD.out], tset5 G7.out⟩
  | true =>
    go_wp2_with fail
    refine (HN.out (by trivial) _ G7.out).mono ?_
    rintro e w8 ⟨rfl, t8⟩
    have Z8 : Hid (Bx w8 w.heap.size (.int .i64 0) (.int .u16 0) (.string ⟨#[]⟩) (.int .i64 0) (.int .i64 0)) := (Z7.out.touch t8)
    have D8 : Hid (Bx w8 w1.heap.size (.int .i64 k) (.int .u16 P) (.string Q) (.int .i64 0) (.int .i64 n)) := D7.out.touch t8
    clear d0 d1 d2 d3 d4 df
    obtain ⟨d0, d1, d2, d3, d4, df⟩ := D8.out
    replace r1 := tcell t8 r1
    replace r2 := tcell t8 r2
    replace r3 := tcell t8 r3
    replace r4 := tcell t8 r4
    replace r5 := tcell t8 r5
    replace hb := Nat.lt_of_lt_of_le hb t8.size
    have G8 : Hid (Touch [] w w8) := G7.out.trans' t8
    clear t8
    obtain ⟨z0, z1, z2, z3, z4, zf⟩ := Z8.out
    by_cases hx : X = s
    · have HRD := hid (HT.out (by trivial) hx)
      have hbx : (X.toList == s.toList) = true := (beqB _ _).2 hx
      clear hx
      go_wp2_with fail
      exact bodyPost_ret (v := doV (some ⟨k, P, Q, 0, n⟩)) (by simp [results, Tryd.results37, go_sem, doV, z0, z1, z2, z3, z4]) rfl
        ⟨by rw [HRD.out], tset5 G8.out⟩
    · have HRD := hid (HE.out hx)
      have hbx : (X.toList == s.toList) = false := Bool.eq_false_iff.2 (fun h => hx ((beqB _ _).1 h))
      clear hx
      go_wp2_with fail
      exact bodyPost_ret (v := doV none) (by simp [results, Tryd.results37, go_sem, doV, z0, z1, z2, z3, z4]) rfl
        ⟨by rw [HRD.out], tset5 G8.out⟩
set_option maxHeartbeats 2000000 in
theorem do_slot (s : ByteArray) (w : World) (hS : Sy w) (hs0 : s.size ≤ 2000000000) (k : Nat) (hop : opZ ⟨(Lib.cut s.data.toList [32]).1.toArray⟩ = k) (h9 : k ≤ 9) (hk : kKey k = false) (hn : kNl k = 0 ∧ kNh k = 0) (hs : 0 < kSh k) :
    Calls Tryd.prog 37 #[.string s] w fun e w' => e = .returned (doV (rdZ s)) ∧ Touch [] w w' := by
  have HY : Hid (Sy w) := hS
  have hgl : gLine s = gRest k ⟨(Lib.cut s.data.toList [32]).2.1.toArray⟩ := by unfold gLine; rw [hop]
  have hrs : (ByteArray.mk (Lib.cut s.data.toList [32]).2.1.toArray).size ≤ s.size := by
    have h := cut_rest s.data.toList 32
    have e1 : s.size = s.data.toList.length := rfl
    have e2 : (ByteArray.mk (Lib.cut s.data.toList [32]).2.1.toArray).size = (Lib.cut s.data.toList [32]).2.1.length := by simp [ByteArray.size]
    omega
  have HC : Hid (∀ w', Touch [] w w' → _) := fun w' (t : Touch [] w w') => cut_ s 32 w' (hS.touch t) (by omega)
  have HO : Hid (∀ w', Touch [] w w' → _) := fun w' (t : Touch [] w w') => opOf_ ⟨(Lib.cut s.data.toList [32]).1.toArray⟩ w' (hS.touch t).kd
  rw [hop] at HO
  clear hop
  generalize (Lib.cut s.data.toList [32]).2.2 = vb at *
  generalize (ByteArray.mk (Lib.cut s.data.toList [32]).1.toArray) = wd at *
  generalize (ByteArray.mk (Lib.cut s.data.toList [32]).2.1.toArray) = R at *
  have HL : Hid (∀ w', _) := fun w' => last_ R w' (by omega)
  obtain ⟨lc1, lc2⟩ := last_bounds R
  have HP : Hid (∀ w', Touch [] w w' → _) := fun w' (t : Touch [] w w') => pint_ (R.extract (Lib.lastIndexByte R 32 + 1).toNat R.size) w' (hS.touch t) (by rw [ByteArray.size_extract]; omega)
  have hok := gLine_ok s
  have hus := gLine_usp s
  rw [hgl] at hok hus
  have HG : Hid (gLine s = gRest k R) := hgl
  have hpw := pi_w (R.extract (Lib.lastIndexByte R 32 + 1).toNat R.size).data.toList
  have hgr : gRest k R = ⟨k, 0, ⟨#[]⟩, 0, piV (R.extract (Lib.lastIndexByte R 32 + 1).toNat R.size).data.toList⟩ := by
    unfold gRest gKey
    rw [hk, hn.2]
    rw [decide_eq_true hs]
    rfl
  rw [hgr] at hok hus HG
  clear hgr hgl
  have hsl1 : ∀ w, (Instr.slice 9 (.string R) (some (.int .i64 (Lib.lastIndexByte R 32 + 1))) none none).run Tryd.prog w = .ok (.string (R.extract (Lib.lastIndexByte R 32 + 1).toNat R.size)) w := fun w => run_slice_string_l w 9 R Tryd.underlying9 .i64 _ (by omega) (by omega)
  generalize piV (R.extract (Lib.lastIndexByte R 32 + 1).toNat R.size).data.toList = n at *
  generalize R.extract (Lib.lastIndexByte R 32 + 1).toNat R.size = X1 at *
  have hsl2 : ∀ w (y : Int), y = max (Lib.lastIndexByte R 32) 0 → (Instr.slice 9 (.string R) none (some (.int .i64 y)) none).run Tryd.prog w = .ok (.string (R.extract 0 (max (Lib.lastIndexByte R 32) 0).toNat)) w := fun w y hy => by
    rw [hy]
    exact run_slice_string_h w 9 R Tryd.underlying9 .i64 _ (by omega) (by omega)
  generalize R.extract 0 (max (Lib.lastIndexByte R 32) 0).toNat = X2 at *
  generalize Lib.lastIndexByte R 32 = c at *
  have HM : Hid (∀ w', Touch [] w w' → _) := fun w' (t : Touch [] w w') => may_ ⟨k, 0, ⟨#[]⟩, 0, n⟩ w' (hS.touch t).kd hok
  have HN : Hid (mayZ ⟨k, 0, ⟨#[]⟩, 0, n⟩ = true → ∀ w', Touch [] w w' → _) := fun (hm : mayZ ⟨k, 0, ⟨#[]⟩, 0, n⟩ = true) w' (t : Touch [] w w') => line_ ⟨k, 0, ⟨#[]⟩, 0, n⟩ w' (hS.touch t) hm hus
  have HF : Hid (mayZ ⟨k, 0, ⟨#[]⟩, 0, n⟩ = false → rdZ s = none) := fun h => rdZ_may (by rw [HG.out]; exact h)
  have HE : Hid (ln ⟨k, 0, ⟨#[]⟩, 0, n⟩ ≠ s → rdZ s = none) := fun h => rdZ_ln_no (by rw [HG.out]; exact h)
  have HT : Hid (mayZ ⟨k, 0, ⟨#[]⟩, 0, n⟩ = true → ln ⟨k, 0, ⟨#[]⟩, 0, n⟩ = s → rdZ s = some ⟨k, 0, ⟨#[]⟩, 0, n⟩) := fun h1 h2 => by
    have := rdZ_yes (s := s) (by rw [HG.out]; exact h1) (by rw [HG.out]; exact h2)
    rw [HG.out] at this
    exact this
  dsimp only at HM HN HF HE HT
  generalize mayZ ⟨k, 0, ⟨#[]⟩, 0, n⟩ = mb at *
  generalize ln ⟨k, 0, ⟨#[]⟩, 0, n⟩ = X at *
  generalize rdZ s = RD at *
  clear hok hus HG
  have hcw1 : IntKind.i64.wrap (c + 1) = c + 1 := by rw [IntKind.wrap_i64]; omega
  have HA : Hid (∀ w', Calls Tryd.prog 51 #[.agg #[.int .i64 (0), .int .i64 (0)]] w' fun e w'' => e = .returned (.bool false) ∧ Touch [] w' w'') := fun w' => (named_ _ _ w').mono fun e w'' ⟨he, t⟩ => ⟨by rw [he, decide_eq_false (by omega)], t⟩
  have HB : Hid (∀ w', Calls Tryd.prog 51 #[.agg #[.int .i64 0, .int .i64 (kSh k)]] w' fun e w'' => e = .returned (.bool true) ∧ Touch [] w' w'') := fun w' => (named_ _ _ w').mono fun e w'' ⟨he, t⟩ => ⟨by rw [he, decide_eq_true hs], t⟩
  have HW : Hid (∀ w', Touch [] w w' → w'.cell? ⟨0, k * 6, none⟩ = some (.string (kWord k)) ∧ w'.cell? ⟨0, k * 6 + 1, none⟩ = some (.bool false) ∧ w'.cell? ⟨0, k * 6 + 2, none⟩ = some (.int .i64 (0)) ∧ w'.cell? ⟨0, k * 6 + 3, none⟩ = some (.int .i64 (0)) ∧ w'.cell? ⟨0, k * 6 + 4, none⟩ = some (.int .i64 0) ∧ w'.cell? ⟨0, k * 6 + 5, none⟩ = some (.int .i64 (kSh k))) := fun w' t => by
    have hd := (hS.touch t).kd
    have c1 := hd.key k (by omega)
    have c2 := hd.nl k (by omega)
    have c3 := hd.nh k (by omega)
    have c5 := hd.sh k (by omega)
    rw [hk] at c1
    rw [hn.1] at c2
    rw [hn.2] at c3
    exact ⟨hd.word k (by omega), c1, c2, c3, hd.sl k (by omega), c5⟩
  have k3 : (k : Int) < 10 := by omega
  have k4 : (0 : Int) ≤ (k : Int) := by omega
  generalize kSh k = sh at *
  generalize kWord k = wk at *
  have hm : 0 ≤ max c 0 ∧ max c 0 ≤ (R.size : Int) := by omega
  have hm1 := hm.1
  have hm2 := hm.2
  have hsl3 : ∀ w, (Instr.slice 9 (.string R) none (some (.int .i64 (max c 0))) none).run Tryd.prog w = .ok (.string X2) w := fun w => hsl2 w _ rfl
  clear hsl2
  clear hS hs0 h9 hk hn hs hrs lc1 lc2 hpw
  go_enter Tryd.func37, Tryd.ntmps37
  go_wp2_with fail
  refine (HC.out _ ((Touch.refl [] w).alloc _)).mono ?_
  rintro e w1 ⟨rfl, t1⟩
  have Z1 : Hid (Bx w1 w.heap.size (.int .i64 0) (.int .u16 0) (.string ⟨#[]⟩) (.int .i64 0) (.int .i64 0)) := ⟨tcell t1 (by simp), tcell t1 (by simp), tcell t1 (by simp), tcell t1 (by simp), tcell t1 (by simp), fun o => tfz t1 (by simp) (by simp)⟩
  have hw1 : w.heap.size < w1.heap.size := Nat.lt_of_lt_of_le (by simp) t1.size
  have G1 : Hid (Touch [] w w1) := ((Touch.refl [] w).alloc _).trans' t1
  clear t1
  go_wp2_with fail
  refine (HO.out _ G1.out).mono ?_
  rintro e w2 ⟨rfl, e2⟩
  rw [e2]
  clear e2 w2
  obtain ⟨c0, c1, c2, c3, c4, c5⟩ := HW.out _ (G1.out.alloc (.cells #[.int .i64 k, .int .u16 0, .string ⟨#[]⟩, .int .i64 0, .int .i64 0] 47))
  go_wp2_with fail
  refine (HL.out _).mono ?_
  rintro e w2 ⟨rfl, e2⟩
  rw [e2]
  clear e2 w2
  go_wp2_with fail
  refine (HP.out _ ((G1.out.alloc _).alloc _)).mono ?_
  rintro e w3 ⟨ev, rfl, t3⟩
  have Z3 : Hid (Bx w3 w.heap.size (.int .i64 0) (.int .u16 0) (.string ⟨#[]⟩) (.int .i64 0) (.int .i64 0)) := (Z1.out.touch (((Touch.refl [] w1).alloc _).alloc _)).touch t3
  have d0 : w3.cell? ⟨w1.heap.size, 0, none⟩ = some (.int .i64 k) := tcell t3 (by simp)
  have d1 : w3.cell? ⟨w1.heap.size, 1, none⟩ = some (.int .u16 0) := tcell t3 (by simp)
  have d2 : w3.cell? ⟨w1.heap.size, 2, none⟩ = some (.string ⟨#[]⟩) := tcell t3 (by simp)
  have d3 : w3.cell? ⟨w1.heap.size, 3, none⟩ = some (.int .i64 0) := tcell t3 (by simp)
  have d4 : w3.cell? ⟨w1.heap.size, 4, none⟩ = some (.int .i64 0) := tcell t3 (by simp)
  have df : ∀ o, w3.frozen? ⟨w1.heap.size, o, none⟩ = false := fun o => tfz t3 (by simp) (by simp; omega)
  have D3 : Hid (Bx w3 w1.heap.size (.int .i64 k) (.int .u16 0) (.string ⟨#[]⟩) (.int .i64 0) (.int .i64 0)) := ⟨d0, d1, d2, d3, d4, df⟩
  have r1 : w3.cell? ⟨w1.heap.size + 1, 1, none⟩ = some (.bool false) := tcell t3 (by simp)
  have r2 : w3.cell? ⟨w1.heap.size + 1, 2, none⟩ = some (.int .i64 0) := tcell t3 (by simp)
  have r3 : w3.cell? ⟨w1.heap.size + 1, 3, none⟩ = some (.int .i64 0) := tcell t3 (by simp)
  have r4 : w3.cell? ⟨w1.heap.size + 1, 4, none⟩ = some (.int .i64 0) := tcell t3 (by simp)
  have r5 : w3.cell? ⟨w1.heap.size + 1, 5, none⟩ = some (.int .i64 sh) := tcell t3 (by simp)
  have hb : w1.heap.size + 1 < w3.heap.size := Nat.lt_of_lt_of_le (by simp) t3.size
  have G3 : Hid (Touch [] w w3) := ((G1.out.alloc _).alloc _).trans' t3
  clear t3 c0 c1 c2 c3 c4 c5
  go_wp2_with fail
  refine (HA.out _).mono ?_
  rintro e w4 ⟨rfl, t4⟩
  have Z4 : Hid (Bx w4 w.heap.size (.int .i64 0) (.int .u16 0) (.string ⟨#[]⟩) (.int .i64 0) (.int .i64 0)) := (Z3.out.touch t4)
  have D4 : Hid (Bx w4 w1.heap.size (.int .i64 k) (.int .u16 0) (.string ⟨#[]⟩) (.int .i64 0) (.int .i64 0)) := D3.out.touch t4
  clear d0 d1 d2 d3 d4 df
  obtain ⟨d0, d1, d2, d3, d4, df⟩ := D4.out
  replace r1 := tcell t4 r1
  replace r2 := tcell t4 r2
  replace r3 := tcell t4 r3
  replace r4 := tcell t4 r4
  replace r5 := tcell t4 r5
  replace hb := Nat.lt_of_lt_of_le hb t4.size
  have G4 : Hid (Touch [] w w4) := G3.out.trans' t4
  clear t4
  go_wp2_with fail
  refine (HB.out _).mono ?_
  rintro e w5 ⟨rfl, t5⟩
  have Z5 : Hid (Bx w5 w.heap.size (.int .i64 0) (.int .u16 0) (.string ⟨#[]⟩) (.int .i64 0) (.int .i64 0)) := (Z4.out.touch t5)
  have D5 : Hid (Bx w5 w1.heap.size (.int .i64 k) (.int .u16 0) (.string ⟨#[]⟩) (.int .i64 0) (.int .i64 0)) := D4.out.touch t5
  clear d0 d1 d2 d3 d4 df
  obtain ⟨d0, d1, d2, d3, d4, df⟩ := D5.out
  replace r1 := tcell t5 r1
  replace r2 := tcell t5 r2
  replace r3 := tcell t5 r3
  replace r4 := tcell t5 r4
  replace r5 := tcell t5 r5
  replace hb := Nat.lt_of_lt_of_le hb t5.size
  have G5 : Hid (Touch [] w w5) := G4.out.trans' t5
  clear t5
  go_wp2_with fail
  refine (HM.out _ (tset G5.out (Nat.le_of_lt hw1) 4 (.int .i64 n))).mono ?_
  rintro e w6 ⟨rfl, t6⟩
  have Z6 : Hid (Bx w6 w.heap.size (.int .i64 0) (.int .u16 0) (.string ⟨#[]⟩) (.int .i64 0) (.int .i64 0)) := ((zset Z5.out hw1).touch t6)
  have D6 : Hid (Bx w6 w1.heap.size (.int .i64 k) (.int .u16 0) (.string ⟨#[]⟩) (.int .i64 0) (.int .i64 n)) := (D5.out.set4 (.int .i64 n)).touch t6
  clear d0 d1 d2 d3 d4 df
  obtain ⟨d0, d1, d2, d3, d4, df⟩ := D6.out
  replace r1 := tcell t6 (rfar r1)
  replace r2 := tcell t6 (rfar r2)
  replace r3 := tcell t6 (rfar r3)
  replace r4 := tcell t6 (rfar r4)
  replace r5 := tcell t6 (rfar r5)
  replace hb : w1.heap.size + 1 < w6.heap.size := Nat.lt_of_lt_of_le (by simp; omega) t6.size
  have G6 : Hid (Touch [] w w6) := (tset G5.out (Nat.le_of_lt hw1) 4 (.int .i64 n)).trans' t6
  clear t6
  cases mb with
  | false =>
    have HRD := hid (HF.out (by trivial))
    obtain ⟨z0, z1, z2, z3, z4, zf⟩ := Z6.out
    go_wp2_with fail
    exact bodyPost_ret (v := doV none) (by simp [results, Tryd.results37, go_sem, doV, z0, z1, z2, z3, z4]) rfl
      ⟨by rw [HRD.out], tset5 G6.out⟩
  | true =>
    go_wp2_with fail
    refine (HN.out (by trivial) _ G6.out).mono ?_
    rintro e w7 ⟨rfl, t7⟩
    have Z7 : Hid (Bx w7 w.heap.size (.int .i64 0) (.int .u16 0) (.string ⟨#[]⟩) (.int .i64 0) (.int .i64 0)) := (Z6.out.touch t7)
    have D7 : Hid (Bx w7 w1.heap.size (.int .i64 k) (.int .u16 0) (.string ⟨#[]⟩) (.int .i64 0) (.int .i64 n)) := D6.out.touch t7
    clear d0 d1 d2 d3 d4 df
    obtain ⟨d0, d1, d2, d3, d4, df⟩ := D7.out
    replace r1 := tcell t7 r1
    replace r2 := tcell t7 r2
    replace r3 := tcell t7 r3
    replace r4 := tcell t7 r4
    replace r5 := tcell t7 r5
    replace hb := Nat.lt_of_lt_of_le hb t7.size
    have G7 : Hid (Touch [] w w7) := G6.out.trans' t7
    clear t7
    obtain ⟨z0, z1, z2, z3, z4, zf⟩ := Z7.out
    by_cases hx : X = s
    · have HRD := hid (HT.out (by trivial) hx)
      have hbx : (X.toList == s.toList) = true := (beqB _ _).2 hx
      clear hx
      go_wp2_with fail
      exact bodyPost_ret (v := doV (some ⟨k, 0, ⟨#[]⟩, 0, n⟩)) (by simp [results, Tryd.results37, go_sem, doV, z0, z1, z2, z3, z4]) rfl
        ⟨by rw [HRD.out], tset5 G7.out⟩
    · have HRD := hid (HE.out hx)
      have hbx : (X.toList == s.toList) = false := Bool.eq_false_iff.2 (fun h => hx ((beqB _ _).1 h))
      clear hx
      go_wp2_with fail
      exact bodyPost_ret (v := doV none) (by simp [results, Tryd.results37, go_sem, doV, z0, z1, z2, z3, z4]) rfl
        ⟨by rw [HRD.out], tset5 G7.out⟩
set_option maxHeartbeats 2000000 in
theorem do_num (s : ByteArray) (w : World) (hS : Sy w) (hs0 : s.size ≤ 2000000000) (k : Nat) (hop : opZ ⟨(Lib.cut s.data.toList [32]).1.toArray⟩ = k) (h9 : k ≤ 9) (hk : kKey k = false) (hn : 0 < kNh k) (hs : kSh k = 0) :
    Calls Tryd.prog 37 #[.string s] w fun e w' => e = .returned (doV (rdZ s)) ∧ Touch [] w w' := by
  have HY : Hid (Sy w) := hS
  have hgl : gLine s = gRest k ⟨(Lib.cut s.data.toList [32]).2.1.toArray⟩ := by unfold gLine; rw [hop]
  have hrs : (ByteArray.mk (Lib.cut s.data.toList [32]).2.1.toArray).size ≤ s.size := by
    have h := cut_rest s.data.toList 32
    have e1 : s.size = s.data.toList.length := rfl
    have e2 : (ByteArray.mk (Lib.cut s.data.toList [32]).2.1.toArray).size = (Lib.cut s.data.toList [32]).2.1.length := by simp [ByteArray.size]
    omega
  have HC : Hid (∀ w', Touch [] w w' → _) := fun w' (t : Touch [] w w') => cut_ s 32 w' (hS.touch t) (by omega)
  have HO : Hid (∀ w', Touch [] w w' → _) := fun w' (t : Touch [] w w') => opOf_ ⟨(Lib.cut s.data.toList [32]).1.toArray⟩ w' (hS.touch t).kd
  rw [hop] at HO
  clear hop
  generalize (Lib.cut s.data.toList [32]).2.2 = vb at *
  generalize (ByteArray.mk (Lib.cut s.data.toList [32]).1.toArray) = wd at *
  generalize (ByteArray.mk (Lib.cut s.data.toList [32]).2.1.toArray) = R at *
  have HL : Hid (∀ w', _) := fun w' => last_ R w' (by omega)
  obtain ⟨lc1, lc2⟩ := last_bounds R
  have HP : Hid (∀ w', Touch [] w w' → _) := fun w' (t : Touch [] w w') => pint_ (R.extract (Lib.lastIndexByte R 32 + 1).toNat R.size) w' (hS.touch t) (by rw [ByteArray.size_extract]; omega)
  have hok := gLine_ok s
  have hus := gLine_usp s
  rw [hgl] at hok hus
  have HG : Hid (gLine s = gRest k R) := hgl
  have hpw := pi_w (R.extract (Lib.lastIndexByte R 32 + 1).toNat R.size).data.toList
  have hgr : gRest k R = ⟨k, 0, ⟨#[]⟩, piV (R.extract (Lib.lastIndexByte R 32 + 1).toNat R.size).data.toList, 0⟩ := by
    unfold gRest gKey
    rw [hk, hs]
    rw [decide_eq_true hn]
    rfl
  rw [hgr] at hok hus HG
  clear hgr hgl
  have hsl1 : ∀ w, (Instr.slice 9 (.string R) (some (.int .i64 (Lib.lastIndexByte R 32 + 1))) none none).run Tryd.prog w = .ok (.string (R.extract (Lib.lastIndexByte R 32 + 1).toNat R.size)) w := fun w => run_slice_string_l w 9 R Tryd.underlying9 .i64 _ (by omega) (by omega)
  generalize piV (R.extract (Lib.lastIndexByte R 32 + 1).toNat R.size).data.toList = n at *
  generalize R.extract (Lib.lastIndexByte R 32 + 1).toNat R.size = X1 at *
  generalize Lib.lastIndexByte R 32 = c at *
  have HM : Hid (∀ w', Touch [] w w' → _) := fun w' (t : Touch [] w w') => may_ ⟨k, 0, ⟨#[]⟩, n, 0⟩ w' (hS.touch t).kd hok
  have HN : Hid (mayZ ⟨k, 0, ⟨#[]⟩, n, 0⟩ = true → ∀ w', Touch [] w w' → _) := fun (hm : mayZ ⟨k, 0, ⟨#[]⟩, n, 0⟩ = true) w' (t : Touch [] w w') => line_ ⟨k, 0, ⟨#[]⟩, n, 0⟩ w' (hS.touch t) hm hus
  have HF : Hid (mayZ ⟨k, 0, ⟨#[]⟩, n, 0⟩ = false → rdZ s = none) := fun h => rdZ_may (by rw [HG.out]; exact h)
  have HE : Hid (ln ⟨k, 0, ⟨#[]⟩, n, 0⟩ ≠ s → rdZ s = none) := fun h => rdZ_ln_no (by rw [HG.out]; exact h)
  have HT : Hid (mayZ ⟨k, 0, ⟨#[]⟩, n, 0⟩ = true → ln ⟨k, 0, ⟨#[]⟩, n, 0⟩ = s → rdZ s = some ⟨k, 0, ⟨#[]⟩, n, 0⟩) := fun h1 h2 => by
    have := rdZ_yes (s := s) (by rw [HG.out]; exact h1) (by rw [HG.out]; exact h2)
    rw [HG.out] at this
    exact this
  dsimp only at HM HN HF HE HT
  generalize mayZ ⟨k, 0, ⟨#[]⟩, n, 0⟩ = mb at *
  generalize ln ⟨k, 0, ⟨#[]⟩, n, 0⟩ = X at *
  generalize rdZ s = RD at *
  clear hok hus HG
  have hcw1 : IntKind.i64.wrap (c + 1) = c + 1 := by rw [IntKind.wrap_i64]; omega
  have HA : Hid (∀ w', Calls Tryd.prog 51 #[.agg #[.int .i64 (kNl k), .int .i64 (kNh k)]] w' fun e w'' => e = .returned (.bool true) ∧ Touch [] w' w'') := fun w' => (named_ _ _ w').mono fun e w'' ⟨he, t⟩ => ⟨by rw [he, decide_eq_true hn], t⟩
  have HB : Hid (∀ w', Calls Tryd.prog 51 #[.agg #[.int .i64 0, .int .i64 (0)]] w' fun e w'' => e = .returned (.bool false) ∧ Touch [] w' w'') := fun w' => (named_ _ _ w').mono fun e w'' ⟨he, t⟩ => ⟨by rw [he, decide_eq_false (by omega)], t⟩
  have HW : Hid (∀ w', Touch [] w w' → w'.cell? ⟨0, k * 6, none⟩ = some (.string (kWord k)) ∧ w'.cell? ⟨0, k * 6 + 1, none⟩ = some (.bool false) ∧ w'.cell? ⟨0, k * 6 + 2, none⟩ = some (.int .i64 (kNl k)) ∧ w'.cell? ⟨0, k * 6 + 3, none⟩ = some (.int .i64 (kNh k)) ∧ w'.cell? ⟨0, k * 6 + 4, none⟩ = some (.int .i64 0) ∧ w'.cell? ⟨0, k * 6 + 5, none⟩ = some (.int .i64 (0))) := fun w' t => by
    have hd := (hS.touch t).kd
    have c1 := hd.key k (by omega)
    have c2 := hd.nl k (by omega)
    have c3 := hd.nh k (by omega)
    have c5 := hd.sh k (by omega)
    rw [hk] at c1
    rw [hs] at c5
    exact ⟨hd.word k (by omega), c1, c2, c3, hd.sl k (by omega), c5⟩
  have k3 : (k : Int) < 10 := by omega
  have k4 : (0 : Int) ≤ (k : Int) := by omega
  generalize kNl k = nl at *
  generalize kNh k = nh at *
  generalize kWord k = wk at *
  clear hS hs0 h9 hk hn hs hrs lc1 lc2 hpw
  go_enter Tryd.func37, Tryd.ntmps37
  go_wp2_with fail
  refine (HC.out _ ((Touch.refl [] w).alloc _)).mono ?_
  rintro e w1 ⟨rfl, t1⟩
  have Z1 : Hid (Bx w1 w.heap.size (.int .i64 0) (.int .u16 0) (.string ⟨#[]⟩) (.int .i64 0) (.int .i64 0)) := ⟨tcell t1 (by simp), tcell t1 (by simp), tcell t1 (by simp), tcell t1 (by simp), tcell t1 (by simp), fun o => tfz t1 (by simp) (by simp)⟩
  have hw1 : w.heap.size < w1.heap.size := Nat.lt_of_lt_of_le (by simp) t1.size
  have G1 : Hid (Touch [] w w1) := ((Touch.refl [] w).alloc _).trans' t1
  clear t1
  go_wp2_with fail
  refine (HO.out _ G1.out).mono ?_
  rintro e w2 ⟨rfl, e2⟩
  rw [e2]
  clear e2 w2
  obtain ⟨c0, c1, c2, c3, c4, c5⟩ := HW.out _ (G1.out.alloc (.cells #[.int .i64 k, .int .u16 0, .string ⟨#[]⟩, .int .i64 0, .int .i64 0] 47))
  go_wp2_with fail
  refine (HL.out _).mono ?_
  rintro e w2 ⟨rfl, e2⟩
  rw [e2]
  clear e2 w2
  go_wp2_with fail
  refine (HP.out _ ((G1.out.alloc _).alloc _)).mono ?_
  rintro e w3 ⟨ev, rfl, t3⟩
  have Z3 : Hid (Bx w3 w.heap.size (.int .i64 0) (.int .u16 0) (.string ⟨#[]⟩) (.int .i64 0) (.int .i64 0)) := (Z1.out.touch (((Touch.refl [] w1).alloc _).alloc _)).touch t3
  have d0 : w3.cell? ⟨w1.heap.size, 0, none⟩ = some (.int .i64 k) := tcell t3 (by simp)
  have d1 : w3.cell? ⟨w1.heap.size, 1, none⟩ = some (.int .u16 0) := tcell t3 (by simp)
  have d2 : w3.cell? ⟨w1.heap.size, 2, none⟩ = some (.string ⟨#[]⟩) := tcell t3 (by simp)
  have d3 : w3.cell? ⟨w1.heap.size, 3, none⟩ = some (.int .i64 0) := tcell t3 (by simp)
  have d4 : w3.cell? ⟨w1.heap.size, 4, none⟩ = some (.int .i64 0) := tcell t3 (by simp)
  have df : ∀ o, w3.frozen? ⟨w1.heap.size, o, none⟩ = false := fun o => tfz t3 (by simp) (by simp; omega)
  have D3 : Hid (Bx w3 w1.heap.size (.int .i64 k) (.int .u16 0) (.string ⟨#[]⟩) (.int .i64 0) (.int .i64 0)) := ⟨d0, d1, d2, d3, d4, df⟩
  have r1 : w3.cell? ⟨w1.heap.size + 1, 1, none⟩ = some (.bool false) := tcell t3 (by simp)
  have r2 : w3.cell? ⟨w1.heap.size + 1, 2, none⟩ = some (.int .i64 nl) := tcell t3 (by simp)
  have r3 : w3.cell? ⟨w1.heap.size + 1, 3, none⟩ = some (.int .i64 nh) := tcell t3 (by simp)
  have r4 : w3.cell? ⟨w1.heap.size + 1, 4, none⟩ = some (.int .i64 0) := tcell t3 (by simp)
  have r5 : w3.cell? ⟨w1.heap.size + 1, 5, none⟩ = some (.int .i64 0) := tcell t3 (by simp)
  have hb : w1.heap.size + 1 < w3.heap.size := Nat.lt_of_lt_of_le (by simp) t3.size
  have G3 : Hid (Touch [] w w3) := ((G1.out.alloc _).alloc _).trans' t3
  clear t3 c0 c1 c2 c3 c4 c5
  go_wp2_with fail
  refine (HA.out _).mono ?_
  rintro e w4 ⟨rfl, t4⟩
  have Z4 : Hid (Bx w4 w.heap.size (.int .i64 0) (.int .u16 0) (.string ⟨#[]⟩) (.int .i64 0) (.int .i64 0)) := (Z3.out.touch t4)
  have D4 : Hid (Bx w4 w1.heap.size (.int .i64 k) (.int .u16 0) (.string ⟨#[]⟩) (.int .i64 0) (.int .i64 0)) := D3.out.touch t4
  clear d0 d1 d2 d3 d4 df
  obtain ⟨d0, d1, d2, d3, d4, df⟩ := D4.out
  replace r1 := tcell t4 r1
  replace r2 := tcell t4 r2
  replace r3 := tcell t4 r3
  replace r4 := tcell t4 r4
  replace r5 := tcell t4 r5
  replace hb := Nat.lt_of_lt_of_le hb t4.size
  have G4 : Hid (Touch [] w w4) := G3.out.trans' t4
  clear t4
  go_wp2_with fail
  refine (HB.out _).mono ?_
  rintro e w5 ⟨rfl, t5⟩
  have Z5 : Hid (Bx w5 w.heap.size (.int .i64 0) (.int .u16 0) (.string ⟨#[]⟩) (.int .i64 0) (.int .i64 0)) := ((zset Z4.out hw1).touch t5)
  have D5 : Hid (Bx w5 w1.heap.size (.int .i64 k) (.int .u16 0) (.string ⟨#[]⟩) (.int .i64 n) (.int .i64 0)) := (D4.out.set3 (.int .i64 n)).touch t5
  clear d0 d1 d2 d3 d4 df
  obtain ⟨d0, d1, d2, d3, d4, df⟩ := D5.out
  replace r1 := tcell t5 (rfar r1)
  replace r2 := tcell t5 (rfar r2)
  replace r3 := tcell t5 (rfar r3)
  replace r4 := tcell t5 (rfar r4)
  replace r5 := tcell t5 (rfar r5)
  replace hb : w1.heap.size + 1 < w5.heap.size := Nat.lt_of_lt_of_le (by simp; omega) t5.size
  have G5 : Hid (Touch [] w w5) := (tset G4.out (Nat.le_of_lt hw1) 3 (.int .i64 n)).trans' t5
  clear t5
  go_wp2_with fail
  refine (HM.out _ G5.out).mono ?_
  rintro e w6 ⟨rfl, t6⟩
  have Z6 : Hid (Bx w6 w.heap.size (.int .i64 0) (.int .u16 0) (.string ⟨#[]⟩) (.int .i64 0) (.int .i64 0)) := (Z5.out.touch t6)
  have D6 : Hid (Bx w6 w1.heap.size (.int .i64 k) (.int .u16 0) (.string ⟨#[]⟩) (.int .i64 n) (.int .i64 0)) := D5.out.touch t6
  clear d0 d1 d2 d3 d4 df
  obtain ⟨d0, d1, d2, d3, d4, df⟩ := D6.out
  replace r1 := tcell t6 r1
  replace r2 := tcell t6 r2
  replace r3 := tcell t6 r3
  replace r4 := tcell t6 r4
  replace r5 := tcell t6 r5
  replace hb := Nat.lt_of_lt_of_le hb t6.size
  have G6 : Hid (Touch [] w w6) := G5.out.trans' t6
  clear t6
  cases mb with
  | false =>
    have HRD := hid (HF.out (by trivial))
    obtain ⟨z0, z1, z2, z3, z4, zf⟩ := Z6.out
    go_wp2_with fail
    exact bodyPost_ret (v := doV none) (by simp [results, Tryd.results37, go_sem, doV, z0, z1, z2, z3, z4]) rfl
      ⟨by rw [HRD.out], tset5 G6.out⟩
  | true =>
    go_wp2_with fail
    refine (HN.out (by trivial) _ G6.out).mono ?_
    rintro e w7 ⟨rfl, t7⟩
    have Z7 : Hid (Bx w7 w.heap.size (.int .i64 0) (.int .u16 0) (.string ⟨#[]⟩) (.int .i64 0) (.int .i64 0)) := (Z6.out.touch t7)
    have D7 : Hid (Bx w7 w1.heap.size (.int .i64 k) (.int .u16 0) (.string ⟨#[]⟩) (.int .i64 n) (.int .i64 0)) := D6.out.touch t7
    clear d0 d1 d2 d3 d4 df
    obtain ⟨d0, d1, d2, d3, d4, df⟩ := D7.out
    replace r1 := tcell t7 r1
    replace r2 := tcell t7 r2
    replace r3 := tcell t7 r3
    replace r4 := tcell t7 r4
    replace r5 := tcell t7 r5
    replace hb := Nat.lt_of_lt_of_le hb t7.size
    have G7 : Hid (Touch [] w w7) := G6.out.trans' t7
    clear t7
    obtain ⟨z0, z1, z2, z3, z4, zf⟩ := Z7.out
    by_cases hx : X = s
    · have HRD := hid (HT.out (by trivial) hx)
      have hbx : (X.toList == s.toList) = true := (beqB _ _).2 hx
      clear hx
      go_wp2_with fail
      exact bodyPost_ret (v := doV (some ⟨k, 0, ⟨#[]⟩, n, 0⟩)) (by simp [results, Tryd.results37, go_sem, doV, z0, z1, z2, z3, z4]) rfl
        ⟨by rw [HRD.out], tset5 G7.out⟩
    · have HRD := hid (HE.out hx)
      have hbx : (X.toList == s.toList) = false := Bool.eq_false_iff.2 (fun h => hx ((beqB _ _).1 h))
      clear hx
      go_wp2_with fail
      exact bodyPost_ret (v := doV none) (by simp [results, Tryd.results37, go_sem, doV, z0, z1, z2, z3, z4]) rfl
        ⟨by rw [HRD.out], tset5 G7.out⟩
theorem doOf_ (s : ByteArray) (w : World) (hS : Sy w) (hs : s.size ≤ 2000000000) :
    Calls Tryd.prog 37 #[.string s] w fun e w' => e = .returned (doV (rdZ s)) ∧ Touch [] w w' := by
  obtain ⟨k, hk⟩ : ∃ k, opZ ⟨(Lib.cut s.data.toList [32]).1.toArray⟩ = k := ⟨_, rfl⟩
  have h9 : k ≤ 9 := by rw [← hk]; exact opZ_le _
  by_cases h0 : k = 0
  · subst h0
    exact do_none s w hS hs 0 hk h9 rfl ⟨rfl, rfl⟩ rfl
  · obtain ⟨c1, c2, c3, c4, c5, c6, c7, c8⟩ := cls k (by omega) h9
    by_cases hn : 0 < kNh k
    · exact do_num s w hS hs k hk h9 (c6 hn).1 hn (by have := (c6 hn).2; omega)
    · have hn' : kNl k = 0 ∧ kNh k = 0 := by omega
      by_cases hsl : 0 < kSh k
      · cases hkk : kKey k with
        | true => exact do_both s w hS hs k hk h9 hkk hn' hsl
        | false => exact do_slot s w hS hs k hk h9 hkk hn' hsl
      · exact do_key s w hS hs k hk h9 (by rcases c7 hn with h | h; exact h; exact absurd h hsl) hn' (by omega)
end Go.Proofs.YthakboiecdjgnaaDoor.Kt
