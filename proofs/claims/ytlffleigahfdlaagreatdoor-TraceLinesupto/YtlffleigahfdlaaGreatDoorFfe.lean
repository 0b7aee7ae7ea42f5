/- The line of an event that may be, by the document; the conditions are the form's. -/
import Derived.Test.YtlffleigahfdlaaGreatDoorMa3
import Derived.Test.YtlffleigahfdlaaGreatDoorEvg
import Derived.Test.YtlffleigahfdlaaGreatDoorRsl
import Derived.Test.YtlffleigahfdlaaGreatDoorHlh
import Derived.Test.YtlffleigahfdlaaGreatDoorEpf
import Derived.Lib.AppendStr
import Derived.Deep.CutRange
import Derived.Deep.CutBlock
namespace Go.Proofs.YtlffleigahfdlaaGreatDoor.Tr
open Go.RowKit Go.Sort Go.Shelf Go.Maps Go.ChangeMaps
open Go.Proofs.YtlffleigahfdlaaGreatDoor.Kt (Gr gr_grow textB itoaB)
set_option linter.unusedVariables false
set_option linter.unusedSimpArgs false
theorem sz_l {l : List UInt8} {n : Nat} (h : l.length ≤ n) : (⟨l.toArray⟩ : ByteArray).size ≤ n := by
  show l.toArray.size ≤ n
  rw [List.size_toArray]; exact h
theorem rdig_ (n : Int) (h : B64 n) (w : World) : Calls Tryz.prog 48 #[.int .i64 n] w fun e w' => e = .returned (.string ⟨(Lib.itoa n).toArray⟩) ∧ Touch [] w w' :=
  (rdigits_ n h w).mono fun e w' ⟨he, hg⟩ => ⟨he, hg.touch⟩
theorem rword_ (k : Nat) (h1 : 1 ≤ k) (h2 : k ≤ 11) (w : World) : Calls Tryz.prog 49 #[.int .i64 k] w fun e w' => e = .returned (.string (wdS k)) ∧ w' = w := by
  rcases (by omega : k = 1 ∨ k = 2 ∨ k = 3 ∨ k = 4 ∨ k = 5 ∨ k = 6 ∨ k = 7 ∨ k = 8 ∨ k = 9 ∨ k = 10 ∨ k = 11) with rfl | rfl | rfl | rfl | rfl | rfl | rfl | rfl | rfl | rfl | rfl
  all_goals
    go_enter Tryz.func49, Tryz.ntmps49
    go_wp2
    go_ret
    exact ⟨rfl, rfl⟩
theorem rpart_ (c : UInt8) (n : Int) (h : B64 n) (w : World) : Calls Tryz.prog 50 #[.string ⟨#[c]⟩, .int .i64 n] w fun e w' => e = .returned (.string ⟨(numP c n).toArray⟩) ∧ Touch [] w w' := by
  by_cases h0 : n = 0
  · have hb : (n == 0) = true := by simp [h0]
    have HP : Hid (numP c n = []) := hid (if_pos h0)
    clear h0
    go_enter Tryz.func50, Tryz.ntmps50
    go_wp2_with fail
    go_ret
    exact ⟨by rw [HP.out]; rfl, Touch.refl _ _⟩
  · have hb : (n == 0) = false := by simp [h0]
    have HP : Hid (numP c n = 32 :: c :: Lib.itoa n) := hid (if_neg h0)
    have H1 : Hid _ := hid (rdig_ n h w)
    have hz := it_size h
    have HS : Hid (((⟨#[32]⟩ ++ ⟨#[c]⟩) ++ ⟨(Lib.itoa n).toArray⟩ : ByteArray).data.toList = numP c n) := hid (by rw [HP.out]; simp [ByteArray.data_append])
    generalize (⟨(Lib.itoa n).toArray⟩ : ByteArray) = D at *
    have z1 : (ByteArray.mk #[32]).size = 1 := rfl
    have z2 : (ByteArray.mk #[c]).size = 1 := rfl
    have a1 : ∀ w', (Op.stringOp .add ⟨#[32]⟩ ⟨#[c]⟩).run Tryz.prog w' = .ok (.string (⟨#[32]⟩ ++ ⟨#[c]⟩)) w' := fun w' => run_string_add_sum w' _ _ (by omega)
    have a2 : ∀ w', (Op.stringOp .add (⟨#[32]⟩ ++ ⟨#[c]⟩) D).run Tryz.prog w' = .ok (.string ((⟨#[32]⟩ ++ ⟨#[c]⟩) ++ D)) w' := fun w' => run_string_add_sum w' _ _ (by simp only [ByteArray.size_append]; omega)
    clear h0 hz z1 z2 h
    go_enter Tryz.func50, Tryz.ntmps50
    go_wp2_with fail
    refine Calls.mono H1.out ?_
    rintro r w1 ⟨rfl, t1⟩
    have T1 := hid t1
    clear t1
    go_wp2_with fail
    go_ret
    exact ⟨ret_s HS.out.symm, T1.out⟩
def bcl (l : List UInt8) : List Value := l.map fun b => Value.int .u8 (b.toNat : Int)
/-- a row of bytes that is built, and what it leaves alone -/
def Ob (U : World) (B : Nat) (l : List UInt8) (v : Value) (wr : World) : Prop := wr.ownsRow B 5 1 v l.length (bcl l) ∧ Touch [] U wr ∧ B ≤ wr.heap.size ∧ U.heap.size ≤ B
theorem Ob.add {U w1 w2 : World} {B : Nat} {l m : List UInt8} {v v' : Value} (h : Ob U B l v w1) (o : w2.ownsRow B 5 1 v' (l.length + m.length) (bcl l ++ bcl m)) (g : w1.grownBy w2 v.ownBlock) : Ob U B (l ++ m) v' w2 :=
  ⟨by rw [List.length_append, show bcl (l ++ m) = bcl l ++ bcl m by simp [bcl]]; exact o, h.2.1.grown g (fun k hk => Or.inr (Nat.le_trans h.2.2.2 (h.1.lt k hk).1)), Nat.le_trans h.2.2.1 g.size, h.2.2.2⟩
theorem Ob.touch {U w1 w2 : World} {B : Nat} {l : List UInt8} {v : Value} (h : Ob U B l v w1) (t : Touch [] w1 w2) : Ob U B l v w2 :=
  ⟨own_touch h.1 t (fun _ _ => by simp), h.2.1.trans' t, Nat.le_trans h.2.2.1 t.size, h.2.2.2⟩
theorem mk_10 {b : UInt8} (h : b.toNat = 10) : mk1 b = [37, 48, 97] := by
  rw [show b = 10 from UInt8.toNat_inj.1 h]; rfl
theorem mk_13 {b : UInt8} (h : b.toNat = 13) : mk1 b = [37, 48, 100] := by
  rw [show b = 13 from UInt8.toNat_inj.1 h]; rfl
theorem mk_37 {b : UInt8} (h : b.toNat = 37) : mk1 b = [37, 50, 53] := by
  rw [show b = 37 from UInt8.toNat_inj.1 h]; rfl
theorem mk_other {b : UInt8} (h1 : ¬ b.toNat = 10) (h2 : ¬ b.toNat = 13) (h3 : ¬ b.toNat = 37) : mk1 b = [b] := by
  unfold mk1
  rw [if_neg (fun e => h1 (by rw [e]; rfl)), if_neg (fun e => h2 (by rw [e]; rfl)), if_neg (fun e => h3 (by rw [e]; rfl))]
theorem nef37 (w : World) (a b c : Int) : (binOp .neq 37 (.agg #[.int .i64 a, .int .i64 b, .int .i64 c]) (.agg #[.int .i64 0, .int .i64 0, .int .i64 0])).run Tryz.prog w = .ok (.bool (!nonF a b c)) w := by
  unfold nonF
  by_cases h1 : a = 0
  · by_cases h2 : b = 0
    · by_cases h3 : c = 0
      · go_simp
      · go_simp
    · go_simp
  · go_simp
set_option maxRecDepth 20000 in
set_option maxHeartbeats 8000000 in
theorem rline_ (e : Ez) (w : World) (h6 : Ok64 e) (hkd : 1 ≤ e.kd ∧ e.kd ≤ 11) (hsp : 0 ≤ e.sp ∧ e.sp ≤ 65535) (hnm : e.nm.size ≤ 64) :
    Calls Tryz.prog 13 #[e.val] w fun r w' => r = .returned (.string ⟨(lnL e).toArray⟩) ∧ Touch [] w w' := by
  obtain ⟨w0, hw0⟩ : ∃ w0, w0 = w.alloc (.cells #[.int .i64 e.at_, .int .i64 e.kd, .int .i64 e.cl, .int .i64 e.ca, .int .i64 e.ru, .int .i64 e.ge, .int .i64 e.ho, .int .u16 e.sp, .string e.nm, .int .i64 e.va, .int .i64 e.fk, .int .i64 e.fc, .int .i64 e.fr] 41) := ⟨_, rfl⟩
  have HSP := hid hsp
  have HNM := hid hnm
  have HB : Ib w0 w.heap.size e := by rw [hw0]; exact Ib.new _ _ _
  have T0 : Touch [] w w0 := by rw [hw0]; exact (Touch.refl [] w).alloc _
  unfold Ez.val
  go_enter Tryz.func13, Tryz.ntmps13
  go_wp2_with fail
  rw [← hw0]
  clear hw0
  refine wp_region_H (S := fun w' => Touch [] w0.drew w') (by kernel_rfl) ?_
  obtain ⟨U, hU⟩ : ∃ U, U = w0.drew := ⟨_, rfl⟩
  rw [← hU]
  have u0 : Touch [] U U := Touch.refl [] U
  have HIB : Hid (∀ w', Touch [] U w' → Ib w' w.heap.size e) := hid (fun w' t => (HB.touch (Touch.refl [] w0).drew).touch (hU ▸ t))
  have TU : Hid (Touch [] w U) := hid (by rw [hU]; exact T0.drew)
  clear hU HB T0
  have H6 := hid h6
  have HD0 : Hid _ := hid (fun w' => rdig_ e.at_ h6.at_ w')
  have yA := it_size h6.at_
  have yW := wdS_size e.kd.toNat
  have HWD : Hid (∀ w', Calls Tryz.prog 49 #[.int .i64 e.kd] w' fun r w'' => r = .returned (.string (wdS e.kd.toNat)) ∧ Touch [] w' w'') := hid (fun w' => by
    have := rword_ e.kd.toNat (by omega) (by omega) w'
    rw [show ((e.kd.toNat : Nat) : Int) = e.kd by omega] at this
    exact this.mono fun r w'' ⟨h1, h2⟩ => ⟨h1, by rw [h2]; exact Touch.refl _ _⟩)
  have HP0 : Hid (∀ w', Calls Tryz.prog 50 #[.string ⟨#[99]⟩, .int .i64 e.cl] w' fun r w'' => r = .returned (.string ⟨(numP 99 e.cl).toArray⟩) ∧ Touch [] w' w'') := hid (fun w' => rpart_ 99 e.cl (h6.fN 0) w')
  have y0 : (⟨(numP 99 e.cl).toArray⟩ : ByteArray).size ≤ 23 := sz_l (numP_len (h6.fN 0))
  have HP1 : Hid (∀ w', Calls Tryz.prog 50 #[.string ⟨#[110]⟩, .int .i64 e.ca] w' fun r w'' => r = .returned (.string ⟨(numP 110 e.ca).toArray⟩) ∧ Touch [] w' w'') := hid (fun w' => rpart_ 110 e.ca (h6.fN 1) w')
  have y1 : (⟨(numP 110 e.ca).toArray⟩ : ByteArray).size ≤ 23 := sz_l (numP_len (h6.fN 1))
  have HP2 : Hid (∀ w', Calls Tryz.prog 50 #[.string ⟨#[114]⟩, .int .i64 e.ru] w' fun r w'' => r = .returned (.string ⟨(numP 114 e.ru).toArray⟩) ∧ Touch [] w' w'') := hid (fun w' => rpart_ 114 e.ru (h6.fN 2) w')
  have y2 : (⟨(numP 114 e.ru).toArray⟩ : ByteArray).size ≤ 23 := sz_l (numP_len (h6.fN 2))
  have HP3 : Hid (∀ w', Calls Tryz.prog 50 #[.string ⟨#[103]⟩, .int .i64 e.ge] w' fun r w'' => r = .returned (.string ⟨(numP 103 e.ge).toArray⟩) ∧ Touch [] w' w'') := hid (fun w' => rpart_ 103 e.ge (h6.fN 3) w')
  have y3 : (⟨(numP 103 e.ge).toArray⟩ : ByteArray).size ≤ 23 := sz_l (numP_len (h6.fN 3))
  have HP4 : Hid (∀ w', Calls Tryz.prog 50 #[.string ⟨#[104]⟩, .int .i64 e.ho] w' fun r w'' => r = .returned (.string ⟨(numP 104 e.ho).toArray⟩) ∧ Touch [] w' w'') := hid (fun w' => rpart_ 104 e.ho (h6.fN 4) w')
  have y4 : (⟨(numP 104 e.ho).toArray⟩ : ByteArray).size ≤ 23 := sz_l (numP_len (h6.fN 4))
  have HS1 : Hid (((((((((⟨(Lib.itoa e.at_).toArray⟩ : ByteArray) ++ ⟨#[32]⟩) ++ wdS e.kd.toNat) ++ ⟨(numP 99 e.cl).toArray⟩) ++ ⟨(numP 110 e.ca).toArray⟩) ++ ⟨(numP 114 e.ru).toArray⟩) ++ ⟨(numP 103 e.ge).toArray⟩) ++ ⟨(numP 104 e.ho).toArray⟩).data.toList = numsP e (headP e.at_ e.kd.toNat) 5) := hid (by
    simp [ByteArray.data_append, numsP, headP, fN, lC])
  clear h6 hkd hsp hnm
  generalize (⟨(numP 99 e.cl).toArray⟩ : ByteArray) = P0 at *
  generalize (⟨(numP 110 e.ca).toArray⟩ : ByteArray) = P1 at *
  generalize (⟨(numP 114 e.ru).toArray⟩ : ByteArray) = P2 at *
  generalize (⟨(numP 103 e.ge).toArray⟩ : ByteArray) = P3 at *
  generalize (⟨(numP 104 e.ho).toArray⟩ : ByteArray) = P4 at *
  generalize wdS e.kd.toNat = WD at *
  generalize (⟨(Lib.itoa e.at_).toArray⟩ : ByteArray) = SA at *
  have zs : (ByteArray.mk #[32]).size = 1 := rfl
  have a0 : ∀ w', (Op.stringOp .add SA ⟨#[32]⟩).run Tryz.prog w' = .ok (.string (SA ++ ⟨#[32]⟩)) w' := fun w' => run_string_add_sum w' _ _ (by (try simp only [ByteArray.size_append]); omega)
  have a1 : ∀ w', (Op.stringOp .add (SA ++ ⟨#[32]⟩) WD).run Tryz.prog w' = .ok (.string ((SA ++ ⟨#[32]⟩) ++ WD)) w' := fun w' => run_string_add_sum w' _ _ (by (try simp only [ByteArray.size_append]); omega)
  have a2 : ∀ w', (Op.stringOp .add ((SA ++ ⟨#[32]⟩) ++ WD) P0).run Tryz.prog w' = .ok (.string (((SA ++ ⟨#[32]⟩) ++ WD) ++ P0)) w' := fun w' => run_string_add_sum w' _ _ (by (try simp only [ByteArray.size_append]); omega)
  have a3 : ∀ w', (Op.stringOp .add (((SA ++ ⟨#[32]⟩) ++ WD) ++ P0) P1).run Tryz.prog w' = .ok (.string ((((SA ++ ⟨#[32]⟩) ++ WD) ++ P0) ++ P1)) w' := fun w' => run_string_add_sum w' _ _ (by (try simp only [ByteArray.size_append]); omega)
  have a4 : ∀ w', (Op.stringOp .add ((((SA ++ ⟨#[32]⟩) ++ WD) ++ P0) ++ P1) P2).run Tryz.prog w' = .ok (.string (((((SA ++ ⟨#[32]⟩) ++ WD) ++ P0) ++ P1) ++ P2)) w' := fun w' => run_string_add_sum w' _ _ (by (try simp only [ByteArray.size_append]); omega)
  have a5 : ∀ w', (Op.stringOp .add (((((SA ++ ⟨#[32]⟩) ++ WD) ++ P0) ++ P1) ++ P2) P3).run Tryz.prog w' = .ok (.string ((((((SA ++ ⟨#[32]⟩) ++ WD) ++ P0) ++ P1) ++ P2) ++ P3)) w' := fun w' => run_string_add_sum w' _ _ (by (try simp only [ByteArray.size_append]); omega)
  have a6 : ∀ w', (Op.stringOp .add ((((((SA ++ ⟨#[32]⟩) ++ WD) ++ P0) ++ P1) ++ P2) ++ P3) P4).run Tryz.prog w' = .ok (.string (((((((SA ++ ⟨#[32]⟩) ++ WD) ++ P0) ++ P1) ++ P2) ++ P3) ++ P4)) w' := fun w' => run_string_add_sum w' _ _ (by (try simp only [ByteArray.size_append]); omega)
  have HZ1 : Hid ((((((((SA ++ ⟨#[32]⟩) ++ WD) ++ P0) ++ P1) ++ P2) ++ P3) ++ P4).size ≤ 200) := hid (by (try simp only [ByteArray.size_append]); omega)
  clear yA yW y0 y1 y2 y3 y4 zs
  have C0 : ∀ w' : World, Touch [] U w' → w'.cell? ⟨w.heap.size, 0, none⟩ = some (.int .i64 e.at_) := fun w' t => (HIB.out w' t).c0
  have C1 : ∀ w' : World, Touch [] U w' → w'.cell? ⟨w.heap.size, 1, none⟩ = some (.int .i64 e.kd) := fun w' t => (HIB.out w' t).c1
  have C2 : ∀ w' : World, Touch [] U w' → w'.cell? ⟨w.heap.size, 2, none⟩ = some (.int .i64 e.cl) := fun w' t => (HIB.out w' t).c2
  have C3 : ∀ w' : World, Touch [] U w' → w'.cell? ⟨w.heap.size, 3, none⟩ = some (.int .i64 e.ca) := fun w' t => (HIB.out w' t).c3
  have C4 : ∀ w' : World, Touch [] U w' → w'.cell? ⟨w.heap.size, 4, none⟩ = some (.int .i64 e.ru) := fun w' t => (HIB.out w' t).c4
  have C5 : ∀ w' : World, Touch [] U w' → w'.cell? ⟨w.heap.size, 5, none⟩ = some (.int .i64 e.ge) := fun w' t => (HIB.out w' t).c5
  have C6 : ∀ w' : World, Touch [] U w' → w'.cell? ⟨w.heap.size, 6, none⟩ = some (.int .i64 e.ho) := fun w' t => (HIB.out w' t).c6
  refine wpH_take (i := 0) (v := (.pointer (some ⟨w.heap.size, 0, none⟩))) (some 9) rfl rfl (by kernel_rfl) (by kernel_rfl) (by kernel_rfl) (fun _ _ _ h => h) (Or.inl ⟨by rfl, fun w' hS => (by go_simp)⟩) u0 ?_
  try simp only [Go.Act.put, List.setIfInBounds_toArray, List.set_cons_zero, List.set_cons_succ]
  refine wpH_take (i := 1) (v := (.int .i64 e.at_)) (some 10) rfl rfl (by kernel_rfl) (by kernel_rfl) (by kernel_rfl) (fun _ _ _ h => h) (Or.inl ⟨by rfl, fun w' hS => (by have z0 := C0 _ hS; go_simp)⟩) u0 ?_
  try simp only [Go.Act.put, List.setIfInBounds_toArray, List.set_cons_zero, List.set_cons_succ]
  refine wpH_take (i := 4) (v := (.pointer (some ⟨w.heap.size, 1, none⟩))) (some 13) rfl rfl (by kernel_rfl) (by kernel_rfl) (by kernel_rfl) (fun _ _ _ h => h) (Or.inl ⟨by rfl, fun w' hS => (by go_simp)⟩) u0 ?_
  try simp only [Go.Act.put, List.setIfInBounds_toArray, List.set_cons_zero, List.set_cons_succ]
  refine wpH_take (i := 5) (v := (.int .i64 e.kd)) (some 14) rfl rfl (by kernel_rfl) (by kernel_rfl) (by kernel_rfl) (fun _ _ _ h => h) (Or.inl ⟨by rfl, fun w' hS => (by have z0 := C1 _ hS; go_simp)⟩) u0 ?_
  try simp only [Go.Act.put, List.setIfInBounds_toArray, List.set_cons_zero, List.set_cons_succ]
  refine wpH_take (i := 8) (v := (.pointer (some ⟨w.heap.size, 2, none⟩))) (some 17) rfl rfl (by kernel_rfl) (by kernel_rfl) (by kernel_rfl) (fun _ _ _ h => h) (Or.inl ⟨by rfl, fun w' hS => (by go_simp)⟩) u0 ?_
  try simp only [Go.Act.put, List.setIfInBounds_toArray, List.set_cons_zero, List.set_cons_succ]
  refine wpH_take (i := 9) (v := (.int .i64 e.cl)) (some 18) rfl rfl (by kernel_rfl) (by kernel_rfl) (by kernel_rfl) (fun _ _ _ h => h) (Or.inl ⟨by rfl, fun w' hS => (by have z0 := C2 _ hS; go_simp)⟩) u0 ?_
  try simp only [Go.Act.put, List.setIfInBounds_toArray, List.set_cons_zero, List.set_cons_succ]
  refine wpH_take (i := 12) (v := (.pointer (some ⟨w.heap.size, 3, none⟩))) (some 21) rfl rfl (by kernel_rfl) (by kernel_rfl) (by kernel_rfl) (fun _ _ _ h => h) (Or.inl ⟨by rfl, fun w' hS => (by go_simp)⟩) u0 ?_
  try simp only [Go.Act.put, List.setIfInBounds_toArray, List.set_cons_zero, List.set_cons_succ]
  refine wpH_take (i := 13) (v := (.int .i64 e.ca)) (some 22) rfl rfl (by kernel_rfl) (by kernel_rfl) (by kernel_rfl) (fun _ _ _ h => h) (Or.inl ⟨by rfl, fun w' hS => (by have z0 := C3 _ hS; go_simp)⟩) u0 ?_
  try simp only [Go.Act.put, List.setIfInBounds_toArray, List.set_cons_zero, List.set_cons_succ]
  refine wpH_take (i := 16) (v := (.pointer (some ⟨w.heap.size, 4, none⟩))) (some 25) rfl rfl (by kernel_rfl) (by kernel_rfl) (by kernel_rfl) (fun _ _ _ h => h) (Or.inl ⟨by rfl, fun w' hS => (by go_simp)⟩) u0 ?_
  try simp only [Go.Act.put, List.setIfInBounds_toArray, List.set_cons_zero, List.set_cons_succ]
  refine wpH_take (i := 17) (v := (.int .i64 e.ru)) (some 26) rfl rfl (by kernel_rfl) (by kernel_rfl) (by kernel_rfl) (fun _ _ _ h => h) (Or.inl ⟨by rfl, fun w' hS => (by have z0 := C4 _ hS; go_simp)⟩) u0 ?_
  try simp only [Go.Act.put, List.setIfInBounds_toArray, List.set_cons_zero, List.set_cons_succ]
  refine wpH_take (i := 20) (v := (.pointer (some ⟨w.heap.size, 5, none⟩))) (some 29) rfl rfl (by kernel_rfl) (by kernel_rfl) (by kernel_rfl) (fun _ _ _ h => h) (Or.inl ⟨by rfl, fun w' hS => (by go_simp)⟩) u0 ?_
  try simp only [Go.Act.put, List.setIfInBounds_toArray, List.set_cons_zero, List.set_cons_succ]
  refine wpH_take (i := 21) (v := (.int .i64 e.ge)) (some 30) rfl rfl (by kernel_rfl) (by kernel_rfl) (by kernel_rfl) (fun _ _ _ h => h) (Or.inl ⟨by rfl, fun w' hS => (by have z0 := C5 _ hS; go_simp)⟩) u0 ?_
  try simp only [Go.Act.put, List.setIfInBounds_toArray, List.set_cons_zero, List.set_cons_succ]
  refine wpH_take (i := 24) (v := (.pointer (some ⟨w.heap.size, 6, none⟩))) (some 33) rfl rfl (by kernel_rfl) (by kernel_rfl) (by kernel_rfl) (fun _ _ _ h => h) (Or.inl ⟨by rfl, fun w' hS => (by go_simp)⟩) u0 ?_
  try simp only [Go.Act.put, List.setIfInBounds_toArray, List.set_cons_zero, List.set_cons_succ]
  refine wpH_take (i := 25) (v := (.int .i64 e.ho)) (some 34) rfl rfl (by kernel_rfl) (by kernel_rfl) (by kernel_rfl) (fun _ _ _ h => h) (Or.inl ⟨by rfl, fun w' hS => (by have z0 := C6 _ hS; go_simp)⟩) u0 ?_
  try simp only [Go.Act.put, List.setIfInBounds_toArray, List.set_cons_zero, List.set_cons_succ]
  refine wpH_call (i := 2) (o := { dst := some 11, op := Op.call { callee := Callee.value (Operand.func 48), args := #[Operand.tmp 10], argTypes := #[2] }, type := 9, pos := _, after := #[{ on := 1, ground := Ground.data }], guard := none }) (by kernel_rfl) rfl (fun K' hK => ?_)
  rw [if_pos (by rfl)]
  go_simp
  refine (HD0.out _).mono ?_
  rintro r v2 ⟨rfl, t2⟩
  have s2 : Touch [] U v2 := u0.trans' t2
  refine hK.out _ _ s2 ?_
  clear hK
  try simp only [Go.Act.put, List.setIfInBounds_toArray, List.set_cons_zero, List.set_cons_succ]
  refine wpH_take (i := 3) (v := (.string (SA ++ ⟨#[32]⟩))) (some 12) rfl rfl (by kernel_rfl) (by kernel_rfl) (by kernel_rfl) (fun _ _ _ h => h) (Or.inl ⟨by rfl, fun w' hS => (by go_simp)⟩) s2 ?_
  try simp only [Go.Act.put, List.setIfInBounds_toArray, List.set_cons_zero, List.set_cons_succ]
  refine wpH_call (i := 6) (o := { dst := some 15, op := Op.call { callee := Callee.value (Operand.func 49), args := #[Operand.tmp 14], argTypes := #[3] }, type := 9, pos := _, after := #[{ on := 5, ground := Ground.data }, { on := 2, ground := Ground.chain }], guard := none }) (by kernel_rfl) rfl (fun K' hK => ?_)
  rw [if_pos (by rfl)]
  go_simp
  refine (HWD.out _).mono ?_
  rintro r v6 ⟨rfl, t6⟩
  have s6 : Touch [] U v6 := s2.trans' t6
  refine hK.out _ _ s6 ?_
  clear hK
  try simp only [Go.Act.put, List.setIfInBounds_toArray, List.set_cons_zero, List.set_cons_succ]
  refine wpH_take (i := 7) (v := (.string ((SA ++ ⟨#[32]⟩) ++ WD))) (some 16) rfl rfl (by kernel_rfl) (by kernel_rfl) (by kernel_rfl) (fun _ _ _ h => h) (Or.inl ⟨by rfl, fun w' hS => (by go_simp)⟩) s6 ?_
  try simp only [Go.Act.put, List.setIfInBounds_toArray, List.set_cons_zero, List.set_cons_succ]
  refine wpH_call (i := 10) (o := { dst := some 19, op := Op.call { callee := Callee.value (Operand.func 50), args := #[Operand.const (Value.string { data := #[99] }), Operand.tmp 18], argTypes := #[9, 3] }, type := 9, pos := _, after := #[{ on := 9, ground := Ground.data }, { on := 6, ground := Ground.chain }], guard := none }) (by kernel_rfl) rfl (fun K' hK => ?_)
  rw [if_pos (by rfl)]
  go_simp
  refine (HP0.out _).mono ?_
  rintro r v10 ⟨rfl, t10⟩
  have s10 : Touch [] U v10 := s6.trans' t10
  refine hK.out _ _ s10 ?_
  clear hK
  try simp only [Go.Act.put, List.setIfInBounds_toArray, List.set_cons_zero, List.set_cons_succ]
  refine wpH_take (i := 11) (v := (.string (((SA ++ ⟨#[32]⟩) ++ WD) ++ P0))) (some 20) rfl rfl (by kernel_rfl) (by kernel_rfl) (by kernel_rfl) (fun _ _ _ h => h) (Or.inl ⟨by rfl, fun w' hS => (by go_simp)⟩) s10 ?_
  try simp only [Go.Act.put, List.setIfInBounds_toArray, List.set_cons_zero, List.set_cons_succ]
  refine wpH_call (i := 14) (o := { dst := some 23, op := Op.call { callee := Callee.value (Operand.func 50), args := #[Operand.const (Value.string { data := #[110] }), Operand.tmp 22], argTypes := #[9, 3] }, type := 9, pos := _, after := #[{ on := 13, ground := Ground.data }, { on := 10, ground := Ground.chain }], guard := none }) (by kernel_rfl) rfl (fun K' hK => ?_)
  rw [if_pos (by rfl)]
  go_simp
  refine (HP1.out _).mono ?_
  rintro r v14 ⟨rfl, t14⟩
  have s14 : Touch [] U v14 := s10.trans' t14
  refine hK.out _ _ s14 ?_
  clear hK
  try simp only [Go.Act.put, List.setIfInBounds_toArray, List.set_cons_zero, List.set_cons_succ]
  refine wpH_take (i := 15) (v := (.string ((((SA ++ ⟨#[32]⟩) ++ WD) ++ P0) ++ P1))) (some 24) rfl rfl (by kernel_rfl) (by kernel_rfl) (by kernel_rfl) (fun _ _ _ h => h) (Or.inl ⟨by rfl, fun w' hS => (by go_simp)⟩) s14 ?_
  try simp only [Go.Act.put, List.setIfInBounds_toArray, List.set_cons_zero, List.set_cons_succ]
  refine wpH_call (i := 18) (o := { dst := some 27, op := Op.call { callee := Callee.value (Operand.func 50), args := #[Operand.const (Value.string { data := #[114] }), Operand.tmp 26], argTypes := #[9, 3] }, type := 9, pos := _, after := #[{ on := 17, ground := Ground.data }, { on := 14, ground := Ground.chain }], guard := none }) (by kernel_rfl) rfl (fun K' hK => ?_)
  rw [if_pos (by rfl)]
  go_simp
  refine (HP2.out _).mono ?_
  rintro r v18 ⟨rfl, t18⟩
  have s18 : Touch [] U v18 := s14.trans' t18
  refine hK.out _ _ s18 ?_
  clear hK
  try simp only [Go.Act.put, List.setIfInBounds_toArray, List.set_cons_zero, List.set_cons_succ]
  refine wpH_take (i := 19) (v := (.string (((((SA ++ ⟨#[32]⟩) ++ WD) ++ P0) ++ P1) ++ P2))) (some 28) rfl rfl (by kernel_rfl) (by kernel_rfl) (by kernel_rfl) (fun _ _ _ h => h) (Or.inl ⟨by rfl, fun w' hS => (by go_simp)⟩) s18 ?_
  try simp only [Go.Act.put, List.setIfInBounds_toArray, List.set_cons_zero, List.set_cons_succ]
  refine wpH_call (i := 22) (o := { dst := some 31, op := Op.call { callee := Callee.value (Operand.func 50), args := #[Operand.const (Value.string { data := #[103] }), Operand.tmp 30], argTypes := #[9, 3] }, type := 9, pos := _, after := #[{ on := 21, ground := Ground.data }, { on := 18, ground := Ground.chain }], guard := none }) (by kernel_rfl) rfl (fun K' hK => ?_)
  rw [if_pos (by rfl)]
  go_simp
  refine (HP3.out _).mono ?_
  rintro r v22 ⟨rfl, t22⟩
  have s22 : Touch [] U v22 := s18.trans' t22
  refine hK.out _ _ s22 ?_
  clear hK
  try simp only [Go.Act.put, List.setIfInBounds_toArray, List.set_cons_zero, List.set_cons_succ]
  refine wpH_take (i := 23) (v := (.string ((((((SA ++ ⟨#[32]⟩) ++ WD) ++ P0) ++ P1) ++ P2) ++ P3))) (some 32) rfl rfl (by kernel_rfl) (by kernel_rfl) (by kernel_rfl) (fun _ _ _ h => h) (Or.inl ⟨by rfl, fun w' hS => (by go_simp)⟩) s22 ?_
  try simp only [Go.Act.put, List.setIfInBounds_toArray, List.set_cons_zero, List.set_cons_succ]
  refine wpH_call (i := 26) (o := { dst := some 35, op := Op.call { callee := Callee.value (Operand.func 50), args := #[Operand.const (Value.string { data := #[104] }), Operand.tmp 34], argTypes := #[9, 3] }, type := 9, pos := _, after := #[{ on := 25, ground := Ground.data }, { on := 22, ground := Ground.chain }], guard := none }) (by kernel_rfl) rfl (fun K' hK => ?_)
  rw [if_pos (by rfl)]
  go_simp
  refine (HP4.out _).mono ?_
  rintro r v26 ⟨rfl, t26⟩
  have s26 : Touch [] U v26 := s22.trans' t26
  refine hK.out _ _ s26 ?_
  clear hK
  try simp only [Go.Act.put, List.setIfInBounds_toArray, List.set_cons_zero, List.set_cons_succ]
  refine wpH_take (i := 27) (v := (.string (((((((SA ++ ⟨#[32]⟩) ++ WD) ++ P0) ++ P1) ++ P2) ++ P3) ++ P4))) (some 36) rfl rfl (by kernel_rfl) (by kernel_rfl) (by kernel_rfl) (fun _ _ _ h => h) (Or.inl ⟨by rfl, fun w' hS => (by go_simp)⟩) s26 ?_
  try simp only [Go.Act.put, List.setIfInBounds_toArray, List.set_cons_zero, List.set_cons_succ]
  refine wpH_take (i := 28) (v := (.string (((((((SA ++ ⟨#[32]⟩) ++ WD) ++ P0) ++ P1) ++ P2) ++ P3) ++ P4))) (some 3) rfl rfl (by kernel_rfl) (by kernel_rfl) (by kernel_rfl) (fun _ _ _ h => h) (Or.inl ⟨by rfl, fun w' hS => (by go_simp)⟩) s26 ?_
  try simp only [Go.Act.put, List.setIfInBounds_toArray, List.set_cons_zero, List.set_cons_succ]
  refine wpAnyH_done (by kernel_rfl) ?_ _
  have Z1 := hid s26
  clear C0 C1 C2 C3 C4 C5 C6 a0 a1 a2 a3 a4 a5 a6
  generalize (((((((SA ++ ⟨#[32]⟩) ++ WD) ++ P0) ++ P1) ++ P2) ++ P3) ++ P4) = S1 at *
  clear s2 s6 s10 s14 s18 s22 s26 u0
  have k9 := (HIB.out _ Z1.out).c9
  have hl1 := cell_lt k9
  go_upto_if 40 with fail
  go_cut [3] from 40 to 47 (fun t wx => ∃ S2, t = .string S2 ∧ Hid (S2.data.toList = (numsP e (headP e.at_ e.kd.toNat) 5 ++ numP 118 e.va) ∧ S2.size ≤ 300 ∧ Touch [] U wx))
  case first =>
    by_cases hv : e.va = 0
    · have hb : (e.va != 0) = false := by simp [hv]
      have HP : Hid (numP 118 e.va = []) := hid (if_pos hv)
      clear hv
      go_wp2_with fail
      go_meet
      case rel => exact ⟨_, rfl, hid ⟨by rw [HS1.out, HP.out, List.append_nil], by have := HZ1.out; omega, Z1.out⟩⟩
    · have hb : (e.va != 0) = true := by simp [hv]
      have HP : Hid (numP 118 e.va = 32 :: 118 :: Lib.itoa e.va) := hid (if_neg hv)
      have HD : Hid _ := hid (fun w' => rdig_ e.va H6.out.va w')
      have hz := it_size H6.out.va
      have HS : Hid ((S1 ++ (⟨#[32, 118]⟩ ++ ⟨(Lib.itoa e.va).toArray⟩) : ByteArray).data.toList = (numsP e (headP e.at_ e.kd.toNat) 5 ++ numP 118 e.va)) := hid (by rw [← HS1.out, HP.out]; simp [ByteArray.data_append])
      generalize (⟨(Lib.itoa e.va).toArray⟩ : ByteArray) = D at *
      have z1 : (ByteArray.mk #[32, 118]).size = 2 := rfl
      have z2 := HZ1.out
      have HZ2 : Hid ((S1 ++ (⟨#[32, 118]⟩ ++ D) : ByteArray).size ≤ 300) := hid (by simp only [ByteArray.size_append]; omega)
      have a1 : ∀ w', (Op.stringOp .add ⟨#[32, 118]⟩ D).run Tryz.prog w' = .ok (.string (⟨#[32, 118]⟩ ++ D)) w' := fun w' => run_string_add_sum w' _ _ (by omega)
      have a2 : ∀ w', (Op.stringOp .add S1 (⟨#[32, 118]⟩ ++ D)).run Tryz.prog w' = .ok (.string (S1 ++ (⟨#[32, 118]⟩ ++ D))) w' := fun w' => run_string_add_sum w' _ _ (by simp only [ByteArray.size_append]; omega)
      clear hv hz z1 z2
      go_wp2_with fail
      refine (HD.out _).mono ?_
      rintro r w2 ⟨rfl, t2⟩
      have T2 := hid (Z1.out.trans' t2)
      clear t2
      go_wp2_with fail
      go_meet
      case rel => exact ⟨_, rfl, hid ⟨HS.out, HZ2.out, T2.out⟩⟩
  case rest =>
  obtain ⟨S2, rfl, HC⟩ := hcut
  clear k9 hl1 Z1 HS1 HZ1
  have k10 := (HIB.out _ HC.out.2.2).c10
  have k11 := (HIB.out _ HC.out.2.2).c11
  have k12 := (HIB.out _ HC.out.2.2).c12
  have hlt := cell_lt k10
  obtain ⟨nz, hnz⟩ : ∃ nz, (!nonF e.fk e.fc e.fr) = nz := ⟨_, rfl⟩
  have HNF := fun w' => nef37 w' e.fk e.fc e.fr
  rw [hnz] at HNF
  have HNZ := hid hnz
  clear hnz
  go_upto_if 53 with fail
  go_cut [3] from 53 to 69 (fun t wx => ∃ S3, t = .string S3 ∧ Hid (S3.data.toList = (numsP e (headP e.at_ e.kd.toNat) 5 ++ numP 118 e.va) ++ failP e.fk e.fc e.fr ∧ S3.size ≤ 400 ∧ Touch [] U wx))
  case first =>
    cases nz
    · have E1 : Hid (failP e.fk e.fc e.fr = []) := hid (if_pos (by have := HNZ.out; simpa using this))
      go_wp2_with fail
      go_meet
      case rel => exact ⟨_, rfl, hid ⟨by rw [HC.out.1, E1.out, List.append_nil], by have := HC.out.2.1; omega, HC.out.2.2.trans' ((Touch.refl [] wc).alloc _)⟩⟩
    · have E1 : Hid (failP e.fk e.fc e.fr = 32 :: 102 :: (Lib.itoa e.fk ++ 58 :: (Lib.itoa e.fc ++ 58 :: Lib.itoa e.fr))) := hid (if_neg (by have := HNZ.out; simpa using this))
      go_wp2_with fail
      obtain ⟨W3, hW3⟩ : ∃ W3, W3 = wc.alloc (.cells #[.int .i64 e.fk, .int .i64 e.fc, .int .i64 e.fr] 37) := ⟨_, rfl⟩
      rw [← hW3]
      have HB3 : W3.heap[wc.heap.size]? = some (.cells #[.int .i64 e.fk, .int .i64 e.fc, .int .i64 e.fr] 37 (0, 0)) := by rw [hW3]; exact heap_alloc_new wc _
      have T3 : Touch [] U W3 := by rw [hW3]; exact HC.out.2.2.trans' ((Touch.refl [] wc).alloc _)
      refine wp_region_H (S := fun w' => Touch [] W3.drew w') (by kernel_rfl) ?_
      obtain ⟨U3, hU3⟩ : ∃ U3, U3 = W3.drew := ⟨_, rfl⟩
      rw [← hU3]
      have u3 : Touch [] U3 U3 := Touch.refl [] U3
      have HT3 : Hid (Touch [] U U3) := hid (by rw [hU3]; exact T3.drew)
      have HB4 : U3.heap[wc.heap.size]? = some (.cells #[.int .i64 e.fk, .int .i64 e.fc, .int .i64 e.fr] 37 (0, 0)) := by rw [hU3]; exact HB3
      have K0 : ∀ w' : World, Touch [] U3 w' → w'.cell? ⟨wc.heap.size, 0, none⟩ = some (.int .i64 e.fk) := fun w' t => tcell t (cell_at HB4 (j := 0) rfl)
      have K1 : ∀ w' : World, Touch [] U3 w' → w'.cell? ⟨wc.heap.size, 1, none⟩ = some (.int .i64 e.fc) := fun w' t => tcell t (cell_at HB4 (j := 1) rfl)
      have K2 : ∀ w' : World, Touch [] U3 w' → w'.cell? ⟨wc.heap.size, 2, none⟩ = some (.int .i64 e.fr) := fun w' t => tcell t (cell_at HB4 (j := 2) rfl)
      clear hW3 hU3 HB3 HB4 T3 HNF k10 k11 k12
      have HDA : Hid _ := hid (fun w' => rdig_ e.fk H6.out.fk w')
      have HDB : Hid _ := hid (fun w' => rdig_ e.fc H6.out.fc w')
      have HDC : Hid _ := hid (fun w' => rdig_ e.fr H6.out.fr w')
      have yA := it_size H6.out.fk
      have yB := it_size H6.out.fc
      have yC := it_size H6.out.fr
      have HS : Hid ((S2 ++ (((((⟨#[32, 102]⟩ ++ ⟨(Lib.itoa e.fk).toArray⟩) ++ ⟨#[58]⟩) ++ ⟨(Lib.itoa e.fc).toArray⟩) ++ ⟨#[58]⟩) ++ ⟨(Lib.itoa e.fr).toArray⟩) : ByteArray).data.toList = (numsP e (headP e.at_ e.kd.toNat) 5 ++ numP 118 e.va) ++ failP e.fk e.fc e.fr) := hid (by rw [← HC.out.1, E1.out]; simp [ByteArray.data_append])
      generalize (⟨(Lib.itoa e.fk).toArray⟩ : ByteArray) = IA at *
      generalize (⟨(Lib.itoa e.fc).toArray⟩ : ByteArray) = IB at *
      generalize (⟨(Lib.itoa e.fr).toArray⟩ : ByteArray) = IC at *
      have z1 : (ByteArray.mk #[32, 102]).size = 2 := rfl
      have z0 : (ByteArray.mk #[58]).size = 1 := rfl
      have z2 := HC.out.2.1
      have HZ3 : Hid ((S2 ++ (((((⟨#[32, 102]⟩ ++ IA) ++ ⟨#[58]⟩) ++ IB) ++ ⟨#[58]⟩) ++ IC)).size ≤ 400) := hid (by (try simp only [ByteArray.size_append]); omega)
      have b0 : ∀ w', (Op.stringOp .add ⟨#[32, 102]⟩ IA).run Tryz.prog w' = .ok (.string (⟨#[32, 102]⟩ ++ IA)) w' := fun w' => run_string_add_sum w' _ _ (by (try simp only [ByteArray.size_append]); omega)
      have b1 : ∀ w', (Op.stringOp .add (⟨#[32, 102]⟩ ++ IA) ⟨#[58]⟩).run Tryz.prog w' = .ok (.string ((⟨#[32, 102]⟩ ++ IA) ++ ⟨#[58]⟩)) w' := fun w' => run_string_add_sum w' _ _ (by (try simp only [ByteArray.size_append]); omega)
      have b2 : ∀ w', (Op.stringOp .add ((⟨#[32, 102]⟩ ++ IA) ++ ⟨#[58]⟩) IB).run Tryz.prog w' = .ok (.string (((⟨#[32, 102]⟩ ++ IA) ++ ⟨#[58]⟩) ++ IB)) w' := fun w' => run_string_add_sum w' _ _ (by (try simp only [ByteArray.size_append]); omega)
      have b3 : ∀ w', (Op.stringOp .add (((⟨#[32, 102]⟩ ++ IA) ++ ⟨#[58]⟩) ++ IB) ⟨#[58]⟩).run Tryz.prog w' = .ok (.string ((((⟨#[32, 102]⟩ ++ IA) ++ ⟨#[58]⟩) ++ IB) ++ ⟨#[58]⟩)) w' := fun w' => run_string_add_sum w' _ _ (by (try simp only [ByteArray.size_append]); omega)
      have b4 : ∀ w', (Op.stringOp .add ((((⟨#[32, 102]⟩ ++ IA) ++ ⟨#[58]⟩) ++ IB) ++ ⟨#[58]⟩) IC).run Tryz.prog w' = .ok (.string (((((⟨#[32, 102]⟩ ++ IA) ++ ⟨#[58]⟩) ++ IB) ++ ⟨#[58]⟩) ++ IC)) w' := fun w' => run_string_add_sum w' _ _ (by (try simp only [ByteArray.size_append]); omega)
      have b5 : ∀ w', (Op.stringOp .add S2 (((((⟨#[32, 102]⟩ ++ IA) ++ ⟨#[58]⟩) ++ IB) ++ ⟨#[58]⟩) ++ IC)).run Tryz.prog w' = .ok (.string (S2 ++ (((((⟨#[32, 102]⟩ ++ IA) ++ ⟨#[58]⟩) ++ IB) ++ ⟨#[58]⟩) ++ IC))) w' := fun w' => run_string_add_sum w' _ _ (by (try simp only [ByteArray.size_append]); omega)
      clear yA yB yC z0 z1 z2
      refine wpH_take (i := 0) (v := (.string S2)) (some 54) rfl rfl (by kernel_rfl) (by kernel_rfl) (by kernel_rfl) (fun _ _ _ h => h) (Or.inl ⟨by rfl, fun w' hS => (by go_simp)⟩) u3 ?_
      try simp only [Go.Act.put, List.setIfInBounds_toArray, List.set_cons_zero, List.set_cons_succ]
      refine wpH_take (i := 1) (v := (.pointer (some ⟨wc.heap.size, 0, none⟩))) (some 55) rfl rfl (by kernel_rfl) (by kernel_rfl) (by kernel_rfl) (fun _ _ _ h => h) (Or.inl ⟨by rfl, fun w' hS => (by go_simp)⟩) u3 ?_
      try simp only [Go.Act.put, List.setIfInBounds_toArray, List.set_cons_zero, List.set_cons_succ]
      refine wpH_take (i := 2) (v := (.int .i64 e.fk)) (some 56) rfl rfl (by kernel_rfl) (by kernel_rfl) (by kernel_rfl) (fun _ _ _ h => h) (Or.inl ⟨by rfl, fun w' hS => (by have z0 := K0 _ hS; go_simp)⟩) u3 ?_
      try simp only [Go.Act.put, List.setIfInBounds_toArray, List.set_cons_zero, List.set_cons_succ]
      refine wpH_take (i := 6) (v := (.pointer (some ⟨wc.heap.size, 1, none⟩))) (some 60) rfl rfl (by kernel_rfl) (by kernel_rfl) (by kernel_rfl) (fun _ _ _ h => h) (Or.inl ⟨by rfl, fun w' hS => (by go_simp)⟩) u3 ?_
      try simp only [Go.Act.put, List.setIfInBounds_toArray, List.set_cons_zero, List.set_cons_succ]
      refine wpH_take (i := 7) (v := (.int .i64 e.fc)) (some 61) rfl rfl (by kernel_rfl) (by kernel_rfl) (by kernel_rfl) (fun _ _ _ h => h) (Or.inl ⟨by rfl, fun w' hS => (by have z0 := K1 _ hS; go_simp)⟩) u3 ?_
      try simp only [Go.Act.put, List.setIfInBounds_toArray, List.set_cons_zero, List.set_cons_succ]
      refine wpH_take (i := 11) (v := (.pointer (some ⟨wc.heap.size, 2, none⟩))) (some 65) rfl rfl (by kernel_rfl) (by kernel_rfl) (by kernel_rfl) (fun _ _ _ h => h) (Or.inl ⟨by rfl, fun w' hS => (by go_simp)⟩) u3 ?_
      try simp only [Go.Act.put, List.setIfInBounds_toArray, List.set_cons_zero, List.set_cons_succ]
      refine wpH_take (i := 12) (v := (.int .i64 e.fr)) (some 66) rfl rfl (by kernel_rfl) (by kernel_rfl) (by kernel_rfl) (fun _ _ _ h => h) (Or.inl ⟨by rfl, fun w' hS => (by have z0 := K2 _ hS; go_simp)⟩) u3 ?_
      try simp only [Go.Act.put, List.setIfInBounds_toArray, List.set_cons_zero, List.set_cons_succ]
      refine wpH_call (i := 3) (o := { dst := some 57, op := Op.call { callee := Callee.value (Operand.func 48), args := #[Operand.tmp 56], argTypes := #[2] }, type := 9, pos := _, after := #[{ on := 2, ground := Ground.data }], guard := none }) (by kernel_rfl) rfl (fun K' hK => ?_)
      rw [if_pos (by rfl)]
      go_simp
      refine (HDA.out _).mono ?_
      rintro r xA ⟨rfl, yA⟩
      have zA : Touch [] U3 xA := u3.trans' yA
      refine hK.out _ _ zA ?_
      clear hK
      try simp only [Go.Act.put, List.setIfInBounds_toArray, List.set_cons_zero, List.set_cons_succ]
      refine wpH_take (i := 4) (v := (.string (⟨#[32, 102]⟩ ++ IA))) (some 58) rfl rfl (by kernel_rfl) (by kernel_rfl) (by kernel_rfl) (fun _ _ _ h => h) (Or.inl ⟨by rfl, fun w' hS => (by go_simp)⟩) zA ?_
      try simp only [Go.Act.put, List.setIfInBounds_toArray, List.set_cons_zero, List.set_cons_succ]
      refine wpH_take (i := 5) (v := (.string ((⟨#[32, 102]⟩ ++ IA) ++ ⟨#[58]⟩))) (some 59) rfl rfl (by kernel_rfl) (by kernel_rfl) (by kernel_rfl) (fun _ _ _ h => h) (Or.inl ⟨by rfl, fun w' hS => (by go_simp)⟩) zA ?_
      try simp only [Go.Act.put, List.setIfInBounds_toArray, List.set_cons_zero, List.set_cons_succ]
      refine wpH_call (i := 8) (o := { dst := some 62, op := Op.call { callee := Callee.value (Operand.func 48), args := #[Operand.tmp 61], argTypes := #[2] }, type := 9, pos := _, after := #[{ on := 7, ground := Ground.data }, { on := 3, ground := Ground.chain }], guard := none }) (by kernel_rfl) rfl (fun K' hK => ?_)
      rw [if_pos (by rfl)]
      go_simp
      refine (HDB.out _).mono ?_
      rintro r xB ⟨rfl, yB⟩
      have zB : Touch [] U3 xB := zA.trans' yB
      refine hK.out _ _ zB ?_
      clear hK
      try simp only [Go.Act.put, List.setIfInBounds_toArray, List.set_cons_zero, List.set_cons_succ]
      refine wpH_take (i := 9) (v := (.string (((⟨#[32, 102]⟩ ++ IA) ++ ⟨#[58]⟩) ++ IB))) (some 63) rfl rfl (by kernel_rfl) (by kernel_rfl) (by kernel_rfl) (fun _ _ _ h => h) (Or.inl ⟨by rfl, fun w' hS => (by go_simp)⟩) zB ?_
      try simp only [Go.Act.put, List.setIfInBounds_toArray, List.set_cons_zero, List.set_cons_succ]
      refine wpH_take (i := 10) (v := (.string ((((⟨#[32, 102]⟩ ++ IA) ++ ⟨#[58]⟩) ++ IB) ++ ⟨#[58]⟩))) (some 64) rfl rfl (by kernel_rfl) (by kernel_rfl) (by kernel_rfl) (fun _ _ _ h => h) (Or.inl ⟨by rfl, fun w' hS => (by go_simp)⟩) zB ?_
      try simp only [Go.Act.put, List.setIfInBounds_toArray, List.set_cons_zero, List.set_cons_succ]
      refine wpH_call (i := 13) (o := { dst := some 67, op := Op.call { callee := Callee.value (Operand.func 48), args := #[Operand.tmp 66], argTypes := #[2] }, type := 9, pos := _, after := #[{ on := 12, ground := Ground.data }, { on := 8, ground := Ground.chain }], guard := none }) (by kernel_rfl) rfl (fun K' hK => ?_)
      rw [if_pos (by rfl)]
      go_simp
      refine (HDC.out _).mono ?_
      rintro r xC ⟨rfl, yC⟩
      have zC : Touch [] U3 xC := zB.trans' yC
      refine hK.out _ _ zC ?_
      clear hK
      try simp only [Go.Act.put, List.setIfInBounds_toArray, List.set_cons_zero, List.set_cons_succ]
      refine wpH_take (i := 14) (v := (.string (((((⟨#[32, 102]⟩ ++ IA) ++ ⟨#[58]⟩) ++ IB) ++ ⟨#[58]⟩) ++ IC))) (some 68) rfl rfl (by kernel_rfl) (by kernel_rfl) (by kernel_rfl) (fun _ _ _ h => h) (Or.inl ⟨by rfl, fun w' hS => (by go_simp)⟩) zC ?_
      try simp only [Go.Act.put, List.setIfInBounds_toArray, List.set_cons_zero, List.set_cons_succ]
      refine wpH_take (i := 15) (v := (.string (S2 ++ (((((⟨#[32, 102]⟩ ++ IA) ++ ⟨#[58]⟩) ++ IB) ++ ⟨#[58]⟩) ++ IC)))) (some 69) rfl rfl (by kernel_rfl) (by kernel_rfl) (by kernel_rfl) (fun _ _ _ h => h) (Or.inl ⟨by rfl, fun w' hS => (by go_simp)⟩) zC ?_
      try simp only [Go.Act.put, List.setIfInBounds_toArray, List.set_cons_zero, List.set_cons_succ]
      refine wpH_take (i := 16) (v := (.string (S2 ++ (((((⟨#[32, 102]⟩ ++ IA) ++ ⟨#[58]⟩) ++ IB) ++ ⟨#[58]⟩) ++ IC)))) (some 3) rfl rfl (by kernel_rfl) (by kernel_rfl) (by kernel_rfl) (fun _ _ _ h => h) (Or.inl ⟨by rfl, fun w' hS => (by go_simp)⟩) zC ?_
      try simp only [Go.Act.put, List.setIfInBounds_toArray, List.set_cons_zero, List.set_cons_succ]
      refine wpAnyH_done (by kernel_rfl) ?_ _
      have Z3 := hid zC
      clear K0 K1 K2 b0 b1 b2 b3 b4 b5
      go_wp2_with fail
      go_meet
      case rel => exact ⟨_, rfl, hid ⟨HS.out, HZ3.out, HT3.out.trans' Z3.out⟩⟩
  case rest =>
  obtain ⟨S3, rfl, HD⟩ := hcut
  clear k10 k11 k12 hlt HNF HC
  rename_i w4
  have k7 := (HIB.out _ HD.out.2.2).c7
  have k8 := (HIB.out _ HD.out.2.2).c8
  have HNK := fun w' => eqrk w' e.sp e.nm
  rcases (by cases zeroK e.sp e.nm <;> simp : zeroK e.sp e.nm = true ∨ zeroK e.sp e.nm = false) with hzk | hzk
  · rw [hzk] at HNK
    have E2 : Hid (keyP e.sp e.nm = []) := hid (if_pos hzk)
    clear hzk
    go_wp2_with fail
    go_ret
    exact ⟨ret_s (by rw [lnL, E2.out, List.append_nil]; exact HD.out.1.symm), TU.out.trans' HD.out.2.2⟩
  · rw [hzk] at HNK
    have E2 : Hid (keyP e.sp e.nm = 32 :: 107 :: maskL (textB e.sp.toNat e.nm).data.toList) := hid (if_neg (by rw [hzk]; decide))
    clear hzk
    have TZ : Hid ((textB e.sp.toNat e.nm).size ≤ 100) := hid (by rw [Kt.textB_size]; have := Kt.itoaB_len e.sp.toNat (by have := HSP.out; omega); have := HNM.out; omega)
    have HKT : Hid (∀ w', Calls Tryz.prog 51 #[.agg #[.int .u16 e.sp, .string e.nm]] w' fun e' w'' => e' = .returned (.tuple #[.string (textB e.sp.toNat e.nm), .bool true]) ∧ Touch [] w' w'') := hid (fun w' => by
      have e1 : Value.int .u16 e.sp = .int .u16 ((e.sp.toNat : Nat) : Int) := by rw [show ((e.sp.toNat : Nat) : Int) = e.sp by have := HSP.out; omega]
      rw [e1]
      exact (Kt.ref11_ok e.sp.toNat e.nm w' HNM.out (by have := HSP.out; omega)).mono fun r w'' ⟨h1, h2⟩ => ⟨h1, h2.touch⟩)
    have TZ0 : Hid (0 < (textB e.sp.toNat e.nm).size) := hid (by rw [Kt.textB_size]; omega)
    generalize textB e.sp.toNat e.nm = TX at *
    go_wp2_with fail
    refine (HKT.out _).mono ?_
    rintro r w5 ⟨rfl, t5⟩
    have T5 := hid (HD.out.2.2.trans' t5)
    clear t5 k7 k8
    go_wp2_with fail
    have HNL : Hid (∀ j, j ≤ TX.size → (maskL (TX.data.toList.take j)).length ≤ 300) := hid (fun j _ => by
      rw [maskL_len]
      have := cnt_le (TX.data.toList.take j)
      have h : TX.data.toList.length = TX.size := rfl
      have h2 : (TX.data.toList.take j).length ≤ TX.data.toList.length := by rw [List.length_take]; omega
      have := TZ.out
      omega)
    have HO0 : Hid (Ob U w5.heap.size (maskL (TX.data.toList.take 0)) (.slice (some ⟨w5.heap.size, 0, none⟩) 0 0) (w5.alloc (.cells #[] 5))) :=
      hid ⟨World.ownsRow_made (e := 5) (size := 1) w5 #[] 0 (Nat.le_refl _) (by unfold maxLen; omega) rfl, T5.out.alloc _, by simp, T5.out.size⟩
    have HB3 : Hid (∀ n, n ≤ 400 → n + 3 ≤ maxLen ∧ n + 3 ≤ 140737488355328) := hid (fun n h => ⟨by unfold maxLen; omega, by omega⟩)
    have HB1 : Hid (∀ n, n ≤ 300 → n + 1 ≤ maxLen ∧ (n + 1) * 1 ≤ 140737488355328) := hid (fun n h => ⟨by unfold maxLen; omega, by omega⟩)
    have HN0 : Hid (0 < (maskL TX.data.toList).length) := hid (by rw [maskL_len]; have := TZ0.out; have h : TX.data.toList.length = TX.size := rfl; omega)
    obtain ⟨i5, f5, y5, x5, b5⟩ := info_parts info5
    have HI5 := hid (And.intro f5 (And.intro y5 (And.intro x5 b5)))
    clear f5 y5 x5 b5
    go_loopw [7, 8] (fun v i wr => ∃ j : Nat, i = .int .i64 j ∧ j ≤ TX.size ∧ Hid (Ob U w5.heap.size (maskL (TX.data.toList.take j)) v wr)) (fun _ i _ => TX.size - (intOf i).toNat)
    case atStart => exact ⟨0, rfl, Nat.zero_le _, HO0.out⟩
    case round =>
      obtain ⟨j, rfl, hj, HO⟩ := hrel
      by_cases hlt : j < TX.size
      · have hz : (j : Int) < (TX.size : Int) := by omega
        have htz := TZ.out
        obtain ⟨c, hc⟩ : ∃ c : Nat, (TX[j]'hlt).toNat = c := ⟨_, rfl⟩
        have hc1 : c < 256 := by rw [← hc]; exact (TX[j]'hlt).toNat_lt
        by_cases hb10 : c = 10
        · have hb10' := hb10
          have HM : Hid (maskL (TX.data.toList.take (j + 1)) = maskL (TX.data.toList.take j) ++ ([37, 48, 97] : List UInt8)) := hid (by rw [mask_step TX hlt, mk_10 (by rw [hc]; exact hb10)])
          have o10 : ((c : Int) == 10) = true := by simp; omega
          clear hb10 hc1
          go_wp2_with (at_builtin; refine Lib.wpList_append_own_string _ rfl _ _ 96 9 rfl w5.heap.size 5 _ Tryz.underlying96 Tryz.underlying9 HI5.out.1 HI5.out.2.1 HI5.out.2.2.1 HI5.out.2.2.2 u7 _ _ rfl HO.out.1 ⟨#[37, 48, 97]⟩ rfl (HB3.out _ (by have := HNL.out j hj; omega)).1 (HB3.out _ (by have := HNL.out j hj; omega)).2 HO.out.2.2.1 ?_; intro v6 w6 o6 g6 e6; clear e6; have O6 : Hid (Ob U w5.heap.size (maskL (TX.data.toList.take (j + 1))) v6 w6) := hid (by rw [HM.out]; exact HO.out.add (m := [37, 48, 97]) o6 g6); clear o6 g6)
          go_roundw
          case rel => exact ⟨j + 1, by go_num, hlt, O6.out⟩
          case measure => simp [intOf]; omega
        · by_cases hb13 : c = 13
          · have hb13' := hb13
            have HM : Hid (maskL (TX.data.toList.take (j + 1)) = maskL (TX.data.toList.take j) ++ ([37, 48, 100] : List UInt8)) := hid (by rw [mask_step TX hlt, mk_13 (by rw [hc]; exact hb13)])
            have o13 : ((c : Int) == 13) = true := by simp; omega
            have o10 : ((c : Int) == 10) = false := by simp; omega
            clear hb10 hb13 hc1
            go_wp2_with (at_builtin; refine Lib.wpList_append_own_string _ rfl _ _ 96 9 rfl w5.heap.size 5 _ Tryz.underlying96 Tryz.underlying9 HI5.out.1 HI5.out.2.1 HI5.out.2.2.1 HI5.out.2.2.2 u7 _ _ rfl HO.out.1 ⟨#[37, 48, 100]⟩ rfl (HB3.out _ (by have := HNL.out j hj; omega)).1 (HB3.out _ (by have := HNL.out j hj; omega)).2 HO.out.2.2.1 ?_; intro v6 w6 o6 g6 e6; clear e6; have O6 : Hid (Ob U w5.heap.size (maskL (TX.data.toList.take (j + 1))) v6 w6) := hid (by rw [HM.out]; exact HO.out.add (m := [37, 48, 100]) o6 g6); clear o6 g6)
            go_roundw
            case rel => exact ⟨j + 1, by go_num, hlt, O6.out⟩
            case measure => simp [intOf]; omega
          · by_cases hb37 : c = 37
            · have hb37' := hb37
              have HM : Hid (maskL (TX.data.toList.take (j + 1)) = maskL (TX.data.toList.take j) ++ ([37, 50, 53] : List UInt8)) := hid (by rw [mask_step TX hlt, mk_37 (by rw [hc]; exact hb37)])
              have o37 : ((c : Int) == 37) = true := by simp; omega
              have o10 : ((c : Int) == 10) = false := by simp; omega
              have o13 : ((c : Int) == 13) = false := by simp; omega
              clear hb10 hb13 hb37 hc1
              go_wp2_with (at_builtin; refine Lib.wpList_append_own_string _ rfl _ _ 96 9 rfl w5.heap.size 5 _ Tryz.underlying96 Tryz.underlying9 HI5.out.1 HI5.out.2.1 HI5.out.2.2.1 HI5.out.2.2.2 u7 _ _ rfl HO.out.1 ⟨#[37, 50, 53]⟩ rfl (HB3.out _ (by have := HNL.out j hj; omega)).1 (HB3.out _ (by have := HNL.out j hj; omega)).2 HO.out.2.2.1 ?_; intro v6 w6 o6 g6 e6; clear e6; have O6 : Hid (Ob U w5.heap.size (maskL (TX.data.toList.take (j + 1))) v6 w6) := hid (by rw [HM.out]; exact HO.out.add (m := [37, 50, 53]) o6 g6); clear o6 g6)
              go_roundw
              case rel => exact ⟨j + 1, by go_num, hlt, O6.out⟩
              case measure => simp [intOf]; omega
            · have HM : Hid (maskL (TX.data.toList.take (j + 1)) = maskL (TX.data.toList.take j) ++ [TX[j]'hlt]) := hid (by rw [mask_step TX hlt, mk_other (by rw [hc]; exact hb10) (by rw [hc]; exact hb13) (by rw [hc]; exact hb37)])
              have HCC : Hid (bcl [TX[j]'hlt] = [.int .u8 (c : Int)]) := hid (by simp [bcl, hc])
              have o10 : ((c : Int) == 10) = false := by simp; omega
              have o13 : ((c : Int) == 13) = false := by simp; omega
              have o37 : ((c : Int) == 37) = false := by simp; omega
              have O5 : Hid (Ob U w5.heap.size (maskL (TX.data.toList.take j)) u7 (wr.alloc (.cells #[.int .u8 (c : Int)] 5))) := hid (HO.out.touch ((Touch.refl [] wr).alloc _))
              clear hb10 hb13 hb37 hc1
              go_wp2_with (at_builtin; refine wpList_append_rs rfl _ _ 96 5 rfl (.int .u8 0) 1 1 info5 Tryz.underlying96 rfl (by decide) w5.heap.size u7 _ _ rfl O5.out.1 (.slice (some ⟨wr.heap.size, 0, none⟩) 1 1) 1 [.int .u8 (c : Int)] rfl (Rs.new wr #[.int .u8 (c : Int)] 5 1 rfl) (fun y hy => by simp only [List.mem_singleton] at hy; subst hy; rfl) (HB1.out _ (HNL.out j hj)).1 (HB1.out _ (HNL.out j hj)).2 O5.out.2.2.1 ?_; intro v6 w6 o6 g6 e6; clear e6; have O6 : Hid (Ob U w5.heap.size (maskL (TX.data.toList.take (j + 1))) v6 w6) := hid (by rw [HM.out]; exact O5.out.add (m := [TX[j]'hlt]) (by rw [HCC.out]; exact o6) g6); clear o6 g6)
              go_roundw
              case rel => exact ⟨j + 1, by go_num, hlt, O6.out⟩
              case measure => simp [intOf]; omega
      · have hz : ¬ (j : Int) < (TX.size : Int) := by omega
        have hj0 : TX.data.toList.take j = TX.data.toList := List.take_of_length_le (by have h : TX.data.toList.length = TX.size := rfl; omega)
        have HE : Hid (Ob U w5.heap.size (maskL TX.data.toList) u7 wr) := hid (by have := HO.out; rw [hj0] at this; exact this)
        obtain ⟨g, cp, hv, hg1, hg2⟩ := own_some HE.out.1 (HN0.out)
        rw [hv] at HE
        have hcv := run_convert_bytes_back (P := Tryz.prog) wr 96 9 5 ⟨g, 0, none⟩ cp (maskL TX.data.toList) Tryz.underlying96 Tryz.underlying5 Tryz.underlying9 (fun j hj => by
          rw [show (⟨g, 0, none⟩ : Addr).add j = ⟨g, j, none⟩ by unfold Addr.add; split <;> simp_all]
          exact own_cell HE.out.1 (by unfold bcl; rw [List.getElem?_map, List.getElem?_eq_getElem hj]; rfl))
        have HFS : Hid (((S3 ++ ⟨#[32, 107]⟩) ++ ⟨(maskL TX.data.toList).toArray⟩ : ByteArray).data.toList = lnL e) := hid (by
          rw [lnL, E2.out, ← HD.out.1]; simp [ByteArray.data_append])
        have hML : (⟨(maskL TX.data.toList).toArray⟩ : ByteArray).size ≤ 300 := sz_l (by have := HNL.out j hj; rw [hj0] at this; exact this)
        have TF := hid (TU.out.trans' HE.out.2.1)
        generalize (maskL TX.data.toList).length = ML at *
        generalize (⟨(maskL TX.data.toList).toArray⟩ : ByteArray) = KX at *
        have z1 : (ByteArray.mk #[32, 107]).size = 2 := rfl
        have z3 := HD.out.2.1
        have a1 : ∀ w', (Op.stringOp .add S3 ⟨#[32, 107]⟩).run Tryz.prog w' = .ok (.string (S3 ++ ⟨#[32, 107]⟩)) w' := fun w' => run_string_add_sum w' _ _ (by omega)
        have a2 : ∀ w', (Op.stringOp .add (S3 ++ ⟨#[32, 107]⟩) KX).run Tryz.prog w' = .ok (.string ((S3 ++ ⟨#[32, 107]⟩) ++ KX)) w' := fun w' => run_string_add_sum w' _ _ (by simp only [ByteArray.size_append]; omega)
        clear z1 z3 hML hj0 hlt hg1 hg2 HE
        subst hv
        go_wp2_with fail
        go_ret
        exact ⟨ret_s HFS.out.symm, TF.out⟩
end Go.Proofs.YtlffleigahfdlaaGreatDoor.Tr
