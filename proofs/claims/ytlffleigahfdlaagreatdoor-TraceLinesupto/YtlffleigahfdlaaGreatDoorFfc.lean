/- The line of an event that may be, by the program; the conditions: the tables hold what the start lays, the numbers are the form's. -/
import Derived.Test.YtlffleigahfdlaaGreatDoorMa3
import Derived.Test.YtlffleigahfdlaaGreatDoorEpj
import Derived.Test.YtlffleigahfdlaaGreatDoorHlh
namespace Go.Proofs.YtlffleigahfdlaaGreatDoor.Tr
open Go.RowKit Go.Sort Go.Shelf Go.Maps Go.ChangeMaps
open Go.Proofs.YtlffleigahfdlaaGreatDoor.Kt (Gr gr_grow textB itoaB)
set_option linter.unusedVariables false
set_option linter.unusedSimpArgs false
theorem Lv.head {w U w1 w2 : World} {e : Ez} {s : ByteArray} (h : Lv w e [] U) (hs : s.data.toList = (headP e.at_ e.kd.toNat)) (t : Touch [] U w1) (q : Bd (w.heap.size + 1) (w.heap.size + 1) ([] ++ s.data.toList) w2) (g : Wr (w.heap.size + 1) (w.heap.size + 1) w1 w2) : Lv w e (headP e.at_ e.kd.toNat) w2 :=
  (h.touch t).wr (by rw [← hs]; exact q) g
theorem Lv.fail {w U w1 w2 : World} {e : Ez} {l m : List UInt8} {s : ByteArray} (h : Lv w e l U) (hs : 32 :: 102 :: s.data.toList = m) (t : Touch [] U w1) (q : Bd (w.heap.size + 1) (w.heap.size + 1) (l ++ 32 :: 102 :: s.data.toList) w2) (g : Wr (w.heap.size + 1) (w.heap.size + 1) w1 w2) : Lv w e (l ++ m) w2 :=
  (h.touch t).wr (by rw [← hs]; exact q) g
set_option maxRecDepth 20000 in
set_option maxHeartbeats 8000000 in
theorem lineOf_ (e : Ez) (w : World) (hk : Tk w) (ht : Tab w) (h6 : Ok64 e) (hkd : 1 ≤ e.kd ∧ e.kd ≤ 11) (hsp : 0 ≤ e.sp ∧ e.sp ≤ 65535) (hnm : e.nm.size ≤ 64) :
    Calls Tryz.prog 38 #[e.val] w fun r w' => r = .returned (.string ⟨(lnL e).toArray⟩) ∧ Touch [] w w' := by
  obtain ⟨w0, hw0⟩ : ∃ w0, w0 = w.alloc (.cells #[.int .i64 e.at_, .int .i64 e.kd, .int .i64 e.cl, .int .i64 e.ca, .int .i64 e.ru, .int .i64 e.ge, .int .i64 e.ho, .int .u16 e.sp, .string e.nm, .int .i64 e.va, .int .i64 e.fk, .int .i64 e.fc, .int .i64 e.fr] 30) := ⟨_, rfl⟩
  have s0 : w0.heap.size = w.heap.size + 1 := by rw [hw0]; simp
  have HT := hid ht
  have H6 := hid h6
  have HSP := hid hsp
  have HNM := hid hnm
  have HL : Hid (∀ j, j ≤ 5 → (numsP e (headP e.at_ e.kd.toNat) j).length ≤ 1000000) := hid (fun j hj => by
    have := numsP_len h6 (l := (headP e.at_ e.kd.toNat)) j
    have := headP_len h6.at_ (k := e.kd.toNat)
    omega)
  have HLE : Hid (∀ n, n ≤ 1000 → 1000000 + n ≤ 140737488350000) := hid (fun n _ => by omega)
  unfold Ez.val
  go_enter Tryz.func38, Tryz.ntmps38
  go_wp2_with fail
  rw [← hw0]
  obtain ⟨V, hV⟩ : ∃ V, V = w0.alloc (.cells #[.pointer none, .slice none 0 0] 103) := ⟨_, rfl⟩
  rw [← hV]
  have LV : Lv w e [] V := by
    have T0 : Touch [] w w0 := by rw [hw0]; exact (Touch.refl [] w).alloc _
    have h0 := heap_alloc_new w (.cells #[.int .i64 e.at_, .int .i64 e.kd, .int .i64 e.cl, .int .i64 e.ca, .int .i64 e.ru, .int .i64 e.ge, .int .i64 e.ho, .int .u16 e.sp, .string e.nm, .int .i64 e.va, .int .i64 e.fk, .int .i64 e.fc, .int .i64 e.fr] 30)
    rw [← hw0] at h0
    rw [hV]
    exact ⟨by rw [← s0]; exact Bd.new w0, T0.alloc _, ((Touch.refl [] w0).alloc _).keep h0 (by simp)⟩
  refine wp_region_H (S := fun w' => w'.cell? ⟨w.heap.size, 0, none⟩ = some (.int .i64 e.at_) ∧ w'.cell? ⟨w.heap.size, 1, none⟩ = some (.int .i64 e.kd) ∧ w'.cell? ⟨0, e.kd.toNat * 2, none⟩ = some (.string (wdS e.kd.toNat))) (by kernel_rfl) ?_
  obtain ⟨U, hU⟩ : ∃ U, U = V.drew := ⟨_, rfl⟩
  rw [← hU]
  have LU : Hid (Lv w e [] U) := hid (by rw [hU]; exact LV.touch (Touch.refl [] V).drew)
  clear hU hV LV hw0
  have hs : w0.heap.size = w.heap.size + 1 := s0
  clear s0
  have s0 : Touch [] U U := Touch.refl [] U
  have HC : Hid (∀ {L} w', Lv w e L w' → w'.cell? ⟨w.heap.size, 0, none⟩ = some (.int .i64 e.at_) ∧ w'.cell? ⟨w.heap.size, 1, none⟩ = some (.int .i64 e.kd) ∧ w'.cell? ⟨0, e.kd.toNat * 2, none⟩ = some (.string (wdS e.kd.toNat))) := hid (fun w' h => ⟨h.ib.c0, h.ib.c1, tcell h.tt (hk.word e.kd.toNat (by omega))⟩)
  have HF : Hid (∀ w', Touch [] U w' → _) := hid (fun w' t => fmt_ e.at_ h6.at_ w' (ht.touch (LU.out.tt.trans' t)))
  have zA := it_size h6.at_
  have zW := wdS_size e.kd.toNat
  have HH : Hid ((((⟨(Lib.itoa e.at_).toArray⟩ : ByteArray) ++ ⟨#[32]⟩) ++ wdS e.kd.toNat).data.toList = (headP e.at_ e.kd.toNat)) := hid (by
    unfold headP
    simp [ByteArray.data_append])
  have q1 : (0 : Int) ≤ e.kd := by omega
  have q2 : e.kd < 12 := by omega
  clear ht h6 hkd hsp hnm hk
  generalize wdS e.kd.toNat = WD at *
  generalize (⟨(Lib.itoa e.at_).toArray⟩ : ByteArray) = SA at *
  have zs : (ByteArray.mk #[32]).size = 1 := rfl
  have a1 : ∀ w', (Op.stringOp .add SA ⟨#[32]⟩).run Tryz.prog w' = .ok (.string (SA ++ ⟨#[32]⟩)) w' := fun w' => run_string_add_sum w' _ _ (by omega)
  have a2 : ∀ w', (Op.stringOp .add (SA ++ ⟨#[32]⟩) WD).run Tryz.prog w' = .ok (.string ((SA ++ ⟨#[32]⟩) ++ WD)) w' := fun w' => run_string_add_sum w' _ _ (by rw [ByteArray.size_append]; omega)
  have HW : Hid (∀ w', Touch [] U w' → _) := hid (fun w' t => write_ (LU.out.bd.touch t) ((SA ++ ⟨#[32]⟩) ++ WD) (by rw [ByteArray.size_append, ByteArray.size_append]; simp only [List.length_nil]; omega))
  unfold PT at HW
  clear zA zW zs
  have C0 : ∀ w' : World, (w'.cell? ⟨w.heap.size, 0, none⟩ = some (.int .i64 e.at_) ∧ w'.cell? ⟨w.heap.size, 1, none⟩ = some (.int .i64 e.kd) ∧ w'.cell? ⟨0, e.kd.toNat * 2, none⟩ = some (.string WD)) → w'.cell? ⟨w.heap.size, 0, none⟩ = some (.int .i64 e.at_) := fun w' t => t.1
  have C1 : ∀ w' : World, (w'.cell? ⟨w.heap.size, 0, none⟩ = some (.int .i64 e.at_) ∧ w'.cell? ⟨w.heap.size, 1, none⟩ = some (.int .i64 e.kd) ∧ w'.cell? ⟨0, e.kd.toNat * 2, none⟩ = some (.string WD)) → w'.cell? ⟨w.heap.size, 1, none⟩ = some (.int .i64 e.kd) := fun w' t => t.2.1
  have C2 : ∀ w' : World, (w'.cell? ⟨w.heap.size, 0, none⟩ = some (.int .i64 e.at_) ∧ w'.cell? ⟨w.heap.size, 1, none⟩ = some (.int .i64 e.kd) ∧ w'.cell? ⟨0, e.kd.toNat * 2, none⟩ = some (.string WD)) → w'.cell? ⟨0, e.kd.toNat * 2, none⟩ = some (.string WD) := fun w' t => t.2.2
  refine wpH_take (i := 0) (v := (.pointer (some ⟨w.heap.size, 0, none⟩))) (some 9) rfl rfl (by kernel_rfl) (by kernel_rfl) (by kernel_rfl) (fun _ _ _ h => h) (Or.inl ⟨by rfl, fun w' hS => (by go_simp)⟩) (HC.out _ LU.out) ?_
  try simp only [Go.Act.put, List.setIfInBounds_toArray, List.set_cons_zero, List.set_cons_succ]
  refine wpH_take (i := 1) (v := (.int .i64 e.at_)) (some 10) rfl rfl (by kernel_rfl) (by kernel_rfl) (by kernel_rfl) (fun _ _ _ h => h) (Or.inl ⟨by rfl, fun w' hS => (by have z0 := C0 _ hS; go_simp)⟩) (HC.out _ LU.out) ?_
  try simp only [Go.Act.put, List.setIfInBounds_toArray, List.set_cons_zero, List.set_cons_succ]
  refine wpH_take (i := 4) (v := (.pointer (some ⟨w.heap.size, 1, none⟩))) (some 13) rfl rfl (by kernel_rfl) (by kernel_rfl) (by kernel_rfl) (fun _ _ _ h => h) (Or.inl ⟨by rfl, fun w' hS => (by go_simp)⟩) (HC.out _ LU.out) ?_
  try simp only [Go.Act.put, List.setIfInBounds_toArray, List.set_cons_zero, List.set_cons_succ]
  refine wpH_take (i := 5) (v := (.int .i64 e.kd)) (some 14) rfl rfl (by kernel_rfl) (by kernel_rfl) (by kernel_rfl) (fun _ _ _ h => h) (Or.inl ⟨by rfl, fun w' hS => (by have z0 := C1 _ hS; go_simp)⟩) (HC.out _ LU.out) ?_
  try simp only [Go.Act.put, List.setIfInBounds_toArray, List.set_cons_zero, List.set_cons_succ]
  refine wpH_take (i := 6) (v := (.pointer (some ⟨0, e.kd.toNat * 2, none⟩))) (some 15) rfl rfl (by kernel_rfl) (by kernel_rfl) (by kernel_rfl) (fun _ _ _ h => h) (Or.inl ⟨by rfl, fun w' hS => (by go_simp)⟩) (HC.out _ LU.out) ?_
  try simp only [Go.Act.put, List.setIfInBounds_toArray, List.set_cons_zero, List.set_cons_succ]
  refine wpH_take (i := 7) (v := (.pointer (some ⟨0, e.kd.toNat * 2, none⟩))) (some 16) rfl rfl (by kernel_rfl) (by kernel_rfl) (by kernel_rfl) (fun _ _ _ h => h) (Or.inl ⟨by rfl, fun w' hS => (by go_simp)⟩) (HC.out _ LU.out) ?_
  try simp only [Go.Act.put, List.setIfInBounds_toArray, List.set_cons_zero, List.set_cons_succ]
  refine wpH_take (i := 8) (v := (.string WD)) (some 17) rfl rfl (by kernel_rfl) (by kernel_rfl) (by kernel_rfl) (fun _ _ _ h => h) (Or.inl ⟨by rfl, fun w' hS => (by have z0 := C2 _ hS; go_simp)⟩) (HC.out _ LU.out) ?_
  try simp only [Go.Act.put, List.setIfInBounds_toArray, List.set_cons_zero, List.set_cons_succ]
  refine wpH_call (i := 2) (o := { dst := some 11, op := Op.call { callee := Callee.value (Operand.func 75), args := #[Operand.tmp 10, Operand.const (Value.int IntKind.i64 10)], argTypes := #[2, 3] }, type := 9, pos := _, after := #[{ on := 1, ground := Ground.data }], guard := none }) (by kernel_rfl) rfl (fun K' hK => ?_)
  rw [if_pos (by rfl)]
  go_simp
  refine (HF.out _ s0).mono ?_
  rintro r v1 ⟨rfl, t1⟩
  have s1 : Touch [] U v1 := s0.trans' t1
  refine hK.out _ _ (HC.out _ (LU.out.touch s1)) ?_
  clear hK
  try simp only [Go.Act.put, List.setIfInBounds_toArray, List.set_cons_zero, List.set_cons_succ]
  refine wpH_take (i := 3) (v := (.string (SA ++ ⟨#[32]⟩))) (some 12) rfl rfl (by kernel_rfl) (by kernel_rfl) (by kernel_rfl) (fun _ _ _ h => h) (Or.inl ⟨by rfl, fun w' hS => (by go_simp)⟩) (HC.out _ (LU.out.touch s1)) ?_
  try simp only [Go.Act.put, List.setIfInBounds_toArray, List.set_cons_zero, List.set_cons_succ]
  refine wpH_take (i := 9) (v := (.string ((SA ++ ⟨#[32]⟩) ++ WD))) (some 18) rfl rfl (by kernel_rfl) (by kernel_rfl) (by kernel_rfl) (fun _ _ _ h => h) (Or.inl ⟨by rfl, fun w' hS => (by go_simp)⟩) (HC.out _ (LU.out.touch s1)) ?_
  try simp only [Go.Act.put, List.setIfInBounds_toArray, List.set_cons_zero, List.set_cons_succ]
  refine wpH_call (i := 10) (o := { dst := some 19, op := Op.call { callee := Callee.value (Operand.func 57), args := #[Operand.tmp 3, Operand.tmp 18], argTypes := #[103, 9] }, type := 106, pos := _, after := #[{ on := 9, ground := Ground.data }, { on := 2, ground := Ground.chain }], guard := none }) (by kernel_rfl) rfl (fun K' hK => ?_)
  rw [if_pos (by rfl)]
  go_simp
  refine (HW.out _ s1).mono ?_
  rintro r w1 ⟨rfl, q2, g2⟩
  have R1 : Hid (Lv w e (headP e.at_ e.kd.toNat) w1) := hid (LU.out.head HH.out s1 q2 g2)
  clear q2 g2
  refine hK.out _ _ (HC.out _ R1.out) ?_
  clear hK
  try simp only [Go.Act.put, List.setIfInBounds_toArray, List.set_cons_zero, List.set_cons_succ]
  refine wpAnyH_done (by kernel_rfl) ?_ _
  have HN : Hid _ := hid (fun w' => numOf_ w.heap.size w')
  unfold PA at HN
  go_wp2_with fail
  refine (HN.out _).mono ?_
  rintro r w2 ⟨rfl, t2⟩
  have R2 := hid (R1.out.touch t2)
  clear t2 a1 a2 C0 C1 C2 q1 q2 s0 s1 R1 HN
  go_wp2_with fail
  go_loopw [21] (fun i wr => ∃ j : Nat, i = .int .i64 j ∧ j ≤ 5 ∧ Hid (Lv w e (numsP e (headP e.at_ e.kd.toNat) j) wr)) (fun i _ => 5 - (intOf i).toNat)
  case atStart => exact ⟨0, rfl, Nat.zero_le _, R2⟩
  case round =>
    obtain ⟨j, rfl, hj, HG⟩ := hrel
    rcases (by omega : j = 0 ∨ j = 1 ∨ j = 2 ∨ j = 3 ∨ j = 4 ∨ j = 5) with rfl | rfl | rfl | rfl | rfl | rfl
    · have hix : ∀ w' : World, (Instr.index 123 (.agg #[.pointer (some ⟨w.heap.size, 2, none⟩), .pointer (some ⟨w.heap.size, 3, none⟩), .pointer (some ⟨w.heap.size, 4, none⟩), .pointer (some ⟨w.heap.size, 5, none⟩), .pointer (some ⟨w.heap.size, 6, none⟩)]) (.int .i64 0)).run Tryz.prog w' = .ok (.pointer (some ⟨w.heap.size, 2, none⟩)) w' := ixA w.heap.size 0 (by omega)
      go_wp2_with fail
      obtain ⟨U2, hU2⟩ : ∃ U2, U2 = wr.drew := ⟨_, rfl⟩
      refine wp_region_still_tail 5 mixed (by kernel_rfl) ?_
      rw [show ({ heap := wr.heap, tape := wr.tape, drawn := wr.drawn + 1, os := wr.os, output := wr.output } : World) = U2 from hU2.symm]
      have G2 : Hid (Lv w e (numsP e (headP e.at_ e.kd.toNat) 0) U2) := by show Lv _ _ _ _; rw [hU2]; exact HG.out.touch (Touch.refl [] wr).drew
      clear hU2
      have c0 := G2.out.ib.c2
      simp only [List.take_succ_cons, List.take_zero, List.drop_succ_cons, List.drop_zero]
      still_step
      still_step
      still_step
      still_step
      still_step
      refine wpStill_nil ?_
      have HZ : Hid (Calls Tryz.prog 77 #[PT (w.heap.size + 1), .int .u8 99, .int .i64 e.cl] U2 fun e' w' => e' = .returned (.tuple #[]) ∧ Bd (w.heap.size + 1) (w.heap.size + 1) (numsP e (headP e.at_ e.kd.toNat) 0 ++ numP 99 e.cl) w' ∧ Wr (w.heap.size + 1) (w.heap.size + 1) U2 w') := wnum_ G2.out.bd 99 e.cl (H6.out.fN 0) (HL.out 0 (by omega)) (HT.out.touch G2.out.tt)
      unfold PT at HZ
      go_wp2_with fail
      refine Calls.mono HZ.out ?_
      rintro r w9 ⟨rfl, r9, g9⟩
      have R9 : Hid (Lv w e (numsP e (headP e.at_ e.kd.toNat) 1) w9) := hid (G2.out.wr r9 g9)
      clear r9 g9
      go_wp2_with fail
      go_roundw
      case rel => exact ⟨1, rfl, by omega, R9.out⟩
      case measure => simp [intOf]
    · have hix : ∀ w' : World, (Instr.index 123 (.agg #[.pointer (some ⟨w.heap.size, 2, none⟩), .pointer (some ⟨w.heap.size, 3, none⟩), .pointer (some ⟨w.heap.size, 4, none⟩), .pointer (some ⟨w.heap.size, 5, none⟩), .pointer (some ⟨w.heap.size, 6, none⟩)]) (.int .i64 1)).run Tryz.prog w' = .ok (.pointer (some ⟨w.heap.size, 3, none⟩)) w' := ixA w.heap.size 1 (by omega)
      go_wp2_with fail
      obtain ⟨U2, hU2⟩ : ∃ U2, U2 = wr.drew := ⟨_, rfl⟩
      refine wp_region_still_tail 5 mixed (by kernel_rfl) ?_
      rw [show ({ heap := wr.heap, tape := wr.tape, drawn := wr.drawn + 1, os := wr.os, output := wr.output } : World) = U2 from hU2.symm]
      have G2 : Hid (Lv w e (numsP e (headP e.at_ e.kd.toNat) 1) U2) := by show Lv _ _ _ _; rw [hU2]; exact HG.out.touch (Touch.refl [] wr).drew
      clear hU2
      have c0 := G2.out.ib.c3
      simp only [List.take_succ_cons, List.take_zero, List.drop_succ_cons, List.drop_zero]
      still_step
      still_step
      still_step
      still_step
      still_step
      refine wpStill_nil ?_
      have HZ : Hid (Calls Tryz.prog 77 #[PT (w.heap.size + 1), .int .u8 110, .int .i64 e.ca] U2 fun e' w' => e' = .returned (.tuple #[]) ∧ Bd (w.heap.size + 1) (w.heap.size + 1) (numsP e (headP e.at_ e.kd.toNat) 1 ++ numP 110 e.ca) w' ∧ Wr (w.heap.size + 1) (w.heap.size + 1) U2 w') := wnum_ G2.out.bd 110 e.ca (H6.out.fN 1) (HL.out 1 (by omega)) (HT.out.touch G2.out.tt)
      unfold PT at HZ
      go_wp2_with fail
      refine Calls.mono HZ.out ?_
      rintro r w9 ⟨rfl, r9, g9⟩
      have R9 : Hid (Lv w e (numsP e (headP e.at_ e.kd.toNat) 2) w9) := hid (G2.out.wr r9 g9)
      clear r9 g9
      go_wp2_with fail
      go_roundw
      case rel => exact ⟨2, rfl, by omega, R9.out⟩
      case measure => simp [intOf]
    · have hix : ∀ w' : World, (Instr.index 123 (.agg #[.pointer (some ⟨w.heap.size, 2, none⟩), .pointer (some ⟨w.heap.size, 3, none⟩), .pointer (some ⟨w.heap.size, 4, none⟩), .pointer (some ⟨w.heap.size, 5, none⟩), .pointer (some ⟨w.heap.size, 6, none⟩)]) (.int .i64 2)).run Tryz.prog w' = .ok (.pointer (some ⟨w.heap.size, 4, none⟩)) w' := ixA w.heap.size 2 (by omega)
      go_wp2_with fail
      obtain ⟨U2, hU2⟩ : ∃ U2, U2 = wr.drew := ⟨_, rfl⟩
      refine wp_region_still_tail 5 mixed (by kernel_rfl) ?_
      rw [show ({ heap := wr.heap, tape := wr.tape, drawn := wr.drawn + 1, os := wr.os, output := wr.output } : World) = U2 from hU2.symm]
      have G2 : Hid (Lv w e (numsP e (headP e.at_ e.kd.toNat) 2) U2) := by show Lv _ _ _ _; rw [hU2]; exact HG.out.touch (Touch.refl [] wr).drew
      clear hU2
      have c0 := G2.out.ib.c4
      simp only [List.take_succ_cons, List.take_zero, List.drop_succ_cons, List.drop_zero]
      still_step
      still_step
      still_step
      still_step
      still_step
      refine wpStill_nil ?_
      have HZ : Hid (Calls Tryz.prog 77 #[PT (w.heap.size + 1), .int .u8 114, .int .i64 e.ru] U2 fun e' w' => e' = .returned (.tuple #[]) ∧ Bd (w.heap.size + 1) (w.heap.size + 1) (numsP e (headP e.at_ e.kd.toNat) 2 ++ numP 114 e.ru) w' ∧ Wr (w.heap.size + 1) (w.heap.size + 1) U2 w') := wnum_ G2.out.bd 114 e.ru (H6.out.fN 2) (HL.out 2 (by omega)) (HT.out.touch G2.out.tt)
      unfold PT at HZ
      go_wp2_with fail
      refine Calls.mono HZ.out ?_
      rintro r w9 ⟨rfl, r9, g9⟩
      have R9 : Hid (Lv w e (numsP e (headP e.at_ e.kd.toNat) 3) w9) := hid (G2.out.wr r9 g9)
      clear r9 g9
      go_wp2_with fail
      go_roundw
      case rel => exact ⟨3, rfl, by omega, R9.out⟩
      case measure => simp [intOf]
    · have hix : ∀ w' : World, (Instr.index 123 (.agg #[.pointer (some ⟨w.heap.size, 2, none⟩), .pointer (some ⟨w.heap.size, 3, none⟩), .pointer (some ⟨w.heap.size, 4, none⟩), .pointer (some ⟨w.heap.size, 5, none⟩), .pointer (some ⟨w.heap.size, 6, none⟩)]) (.int .i64 3)).run Tryz.prog w' = .ok (.pointer (some ⟨w.heap.size, 5, none⟩)) w' := ixA w.heap.size 3 (by omega)
      go_wp2_with fail
      obtain ⟨U2, hU2⟩ : ∃ U2, U2 = wr.drew := ⟨_, rfl⟩
      refine wp_region_still_tail 5 mixed (by kernel_rfl) ?_
      rw [show ({ heap := wr.heap, tape := wr.tape, drawn := wr.drawn + 1, os := wr.os, output := wr.output } : World) = U2 from hU2.symm]
      have G2 : Hid (Lv w e (numsP e (headP e.at_ e.kd.toNat) 3) U2) := by show Lv _ _ _ _; rw [hU2]; exact HG.out.touch (Touch.refl [] wr).drew
      clear hU2
      have c0 := G2.out.ib.c5
      simp only [List.take_succ_cons, List.take_zero, List.drop_succ_cons, List.drop_zero]
      still_step
      still_step
      still_step
      still_step
      still_step
      refine wpStill_nil ?_
      have HZ : Hid (Calls Tryz.prog 77 #[PT (w.heap.size + 1), .int .u8 103, .int .i64 e.ge] U2 fun e' w' => e' = .returned (.tuple #[]) ∧ Bd (w.heap.size + 1) (w.heap.size + 1) (numsP e (headP e.at_ e.kd.toNat) 3 ++ numP 103 e.ge) w' ∧ Wr (w.heap.size + 1) (w.heap.size + 1) U2 w') := wnum_ G2.out.bd 103 e.ge (H6.out.fN 3) (HL.out 3 (by omega)) (HT.out.touch G2.out.tt)
      unfold PT at HZ
      go_wp2_with fail
      refine Calls.mono HZ.out ?_
      rintro r w9 ⟨rfl, r9, g9⟩
      have R9 : Hid (Lv w e (numsP e (headP e.at_ e.kd.toNat) 4) w9) := hid (G2.out.wr r9 g9)
      clear r9 g9
      go_wp2_with fail
      go_roundw
      case rel => exact ⟨4, rfl, by omega, R9.out⟩
      case measure => simp [intOf]
    · have hix : ∀ w' : World, (Instr.index 123 (.agg #[.pointer (some ⟨w.heap.size, 2, none⟩), .pointer (some ⟨w.heap.size, 3, none⟩), .pointer (some ⟨w.heap.size, 4, none⟩), .pointer (some ⟨w.heap.size, 5, none⟩), .pointer (some ⟨w.heap.size, 6, none⟩)]) (.int .i64 4)).run Tryz.prog w' = .ok (.pointer (some ⟨w.heap.size, 6, none⟩)) w' := ixA w.heap.size 4 (by omega)
      go_wp2_with fail
      obtain ⟨U2, hU2⟩ : ∃ U2, U2 = wr.drew := ⟨_, rfl⟩
      refine wp_region_still_tail 5 mixed (by kernel_rfl) ?_
      rw [show ({ heap := wr.heap, tape := wr.tape, drawn := wr.drawn + 1, os := wr.os, output := wr.output } : World) = U2 from hU2.symm]
      have G2 : Hid (Lv w e (numsP e (headP e.at_ e.kd.toNat) 4) U2) := by show Lv _ _ _ _; rw [hU2]; exact HG.out.touch (Touch.refl [] wr).drew
      clear hU2
      have c0 := G2.out.ib.c6
      simp only [List.take_succ_cons, List.take_zero, List.drop_succ_cons, List.drop_zero]
      still_step
      still_step
      still_step
      still_step
      still_step
      refine wpStill_nil ?_
      have HZ : Hid (Calls Tryz.prog 77 #[PT (w.heap.size + 1), .int .u8 104, .int .i64 e.ho] U2 fun e' w' => e' = .returned (.tuple #[]) ∧ Bd (w.heap.size + 1) (w.heap.size + 1) (numsP e (headP e.at_ e.kd.toNat) 4 ++ numP 104 e.ho) w' ∧ Wr (w.heap.size + 1) (w.heap.size + 1) U2 w') := wnum_ G2.out.bd 104 e.ho (H6.out.fN 4) (HL.out 4 (by omega)) (HT.out.touch G2.out.tt)
      unfold PT at HZ
      go_wp2_with fail
      refine Calls.mono HZ.out ?_
      rintro r w9 ⟨rfl, r9, g9⟩
      have R9 : Hid (Lv w e (numsP e (headP e.at_ e.kd.toNat) 5) w9) := hid (G2.out.wr r9 g9)
      clear r9 g9
      go_wp2_with fail
      go_roundw
      case rel => exact ⟨5, rfl, by omega, R9.out⟩
      case measure => simp [intOf]
    · have g9 := HG.out.ib.c9
      have hlt := HG.out.lt
      have HZ : Hid (Calls Tryz.prog 77 #[PT (w.heap.size + 1), .int .u8 118, .int .i64 e.va] wr fun e' w' => e' = .returned (.tuple #[]) ∧ Bd (w.heap.size + 1) (w.heap.size + 1) (numsP e (headP e.at_ e.kd.toNat) 5 ++ numP 118 e.va) w' ∧ Wr (w.heap.size + 1) (w.heap.size + 1) wr w') := wnum_ HG.out.bd 118 e.va H6.out.va (HL.out 5 (by omega)) (HT.out.touch HG.out.tt)
      unfold PT at HZ
      go_wp2_with fail
      refine Calls.mono HZ.out ?_
      rintro r w3 ⟨rfl, r3, g3⟩
      have R3 : Hid (Lv w e (numsP e (headP e.at_ e.kd.toNat) 5 ++ numP 118 e.va) w3) := hid (HG.out.wr r3 g3)
      clear r3 g3 g9 hlt
      have HLE : Hid ((numsP e (headP e.at_ e.kd.toNat) 5 ++ numP 118 e.va).length ≤ 1100000 ∧ ((numsP e (headP e.at_ e.kd.toNat) 5 ++ numP 118 e.va) ++ failP e.fk e.fc e.fr).length ≤ 1200000) := hid (by
        have h1 := HL.out 5 (by omega)
        have h2 := numP_len (c := 118) H6.out.va
        have h3 := failP_len H6.out.fk H6.out.fc H6.out.fr
        simp only [List.length_append]
        omega)
      have HNF := fun w' => nef w' e.fk e.fc e.fr
      have c10 := R3.out.ib.c10
      have c11 := R3.out.ib.c11
      have c12 := R3.out.ib.c12
      rcases (by cases nonF e.fk e.fc e.fr <;> simp : nonF e.fk e.fc e.fr = true ∨ nonF e.fk e.fc e.fr = false) with hzf | hzf
      · rw [hzf] at HNF
        have E1 : Hid (failP e.fk e.fc e.fr = []) := hid (if_pos hzf)
        clear hzf
        have L3 : Hid (Lv w e (numsP e (headP e.at_ e.kd.toNat) 5 ++ numP 118 e.va) (w3.alloc (.cells #[.int .i64 e.fk, .int .i64 e.fc, .int .i64 e.fr] 26))) := hid (R3.out.touch ((Touch.refl [] w3).alloc _))
        have k7 := R3.out.ib.c7
        have k8 := R3.out.ib.c8
        have hlt := Nat.lt_of_succ_lt R3.out.lt
        have HNK := fun w' => nek w' e.sp e.nm
        rcases (by cases zeroK e.sp e.nm <;> simp : zeroK e.sp e.nm = true ∨ zeroK e.sp e.nm = false) with hzk | hzk
        · rw [hzk] at HNK
          have E2 : Hid (keyP e.sp e.nm = []) := hid (if_pos hzk)
          have HZS : Hid _ := hid (string_ L3.out.bd (by simp [numsP, headP_ne]))
          clear hzk
          unfold PT at HZS
          go_wp2_with fail
          refine Calls.mono HZS.out ?_
          rintro r w8 ⟨rfl, g8⟩
          have G8 := hid (tt_wr L3.out.tt g8 (by omega))
          clear g8
          go_wp2_with fail
          go_ret
          exact ⟨by rw [lnL, E1.out, E2.out]; simp, G8.out⟩
        · rw [hzk] at HNK
          have E2 : Hid (keyP e.sp e.nm = 32 :: 107 :: maskL (textB e.sp.toNat e.nm).data.toList) := hid (if_neg (by rw [hzk]; decide))
          clear hzk
          have HKT : Hid (Calls Tryz.prog 80 #[.agg #[.int .u16 e.sp, .string e.nm]] (w3.alloc (.cells #[.int .i64 e.fk, .int .i64 e.fc, .int .i64 e.fr] 26)) fun e' w' => e' = .returned (.tuple #[.string (textB e.sp.toNat e.nm), .int .i64 0]) ∧ Touch [] (w3.alloc (.cells #[.int .i64 e.fk, .int .i64 e.fc, .int .i64 e.fr] 26)) w') := hid (by
            have := ktext_ e.sp.toNat e.nm (by have := HSP.out; omega) HNM.out (w3.alloc (.cells #[.int .i64 e.fk, .int .i64 e.fc, .int .i64 e.fr] 26)) (HT.out.touch L3.out.tt)
            rw [show ((e.sp.toNat : Nat) : Int) = e.sp by have := HSP.out; omega] at this
            exact this)
          have TZ : Hid ((textB e.sp.toNat e.nm).size ≤ 100) := hid (by rw [Kt.textB_size]; have := Kt.itoaB_len e.sp.toNat (by have := HSP.out; omega); have := HNM.out; omega)
          have HMK : Hid _ := hid (fun w' => masked_any (textB e.sp.toNat e.nm) (by have := TZ.out; omega) w')
          generalize textB e.sp.toNat e.nm = TX at *
          have hsz : (⟨(maskL TX.data.toList).toArray⟩ : ByteArray).size ≤ 300 := by
            show (maskL TX.data.toList).toArray.size ≤ 300
            rw [List.size_toArray, maskL_len]
            have := cnt_le TX.data.toList
            have h : TX.data.toList.length = TX.size := rfl
            have := TZ.out
            omega
          have HSZ := hid hsz
          clear hsz
          go_wp2_with fail
          refine Calls.mono HKT.out ?_
          rintro r w5 ⟨rfl, t5⟩
          have L5 := hid (L3.out.touch t5)
          clear t5
          go_wp2_with fail
          refine (HMK.out _).mono ?_
          rintro r w6 ⟨rfl, t6⟩
          have L6 := hid (L5.out.touch t6)
          clear t6
          have HPW : Hid _ := hid (wpart_ L6.out.bd 107 ⟨(maskL TX.data.toList).toArray⟩ (by have := HSZ.out; have := HLE.out; omega) (by have := HSZ.out; omega))
          unfold PT at HPW
          go_wp2_with fail
          refine Calls.mono HPW.out ?_
          rintro r w7 ⟨rfl, q7, g7⟩
          have L7 := hid (L6.out.wr q7 g7)
          clear q7 g7
          have HZS : Hid _ := hid (string_ L7.out.bd (by simp))
          unfold PT at HZS
          go_wp2_with fail
          refine Calls.mono HZS.out ?_
          rintro r w8 ⟨rfl, g8⟩
          have G8 := hid (tt_wr L7.out.tt g8 (by omega))
          clear g8
          go_wp2_with fail
          go_ret
          exact ⟨by rw [lnL, E1.out, E2.out]; simp, G8.out⟩
      · rw [hzf] at HNF
        have E1 : Hid (failP e.fk e.fc e.fr = 32 :: 102 :: (Lib.itoa e.fk ++ 58 :: (Lib.itoa e.fc ++ 58 :: Lib.itoa e.fr))) := hid (if_neg (by rw [hzf]; decide))
        have hlt3 := R3.out.lt
        clear hzf
        go_wp2_with fail
        refine wp_region_H (S := fun w' => w'.heap[w3.heap.size]? = some (.cells #[.int .i64 e.fk, .int .i64 e.fc, .int .i64 e.fr] 26 (0, 0))) (by kernel_rfl) ?_
        obtain ⟨U3, hU3⟩ : ∃ U3, U3 = (w3.alloc (.cells #[.int .i64 e.fk, .int .i64 e.fc, .int .i64 e.fr] 26)).drew := ⟨_, rfl⟩
        rw [← hU3]
        have L3 : Hid (Lv w e (numsP e (headP e.at_ e.kd.toNat) 5 ++ numP 118 e.va) U3) := hid (by rw [hU3]; exact R3.out.touch (((Touch.refl [] w3).alloc _).drew))
        have HB3' : U3.heap[w3.heap.size]? = some (.cells #[.int .i64 e.fk, .int .i64 e.fc, .int .i64 e.fr] 26 (0, 0)) := by rw [hU3]; exact heap_alloc_new w3 _
        obtain ⟨nb, hnb⟩ : ∃ nb, nb = w3.heap.size := ⟨_, rfl⟩
        rw [← hnb] at HB3' hlt3 ⊢
        have HB3 := hid HB3'
        have HB4 := hid hlt3
        clear hnb hU3 HB3' hlt3 HNF c10 c11 c12
        have HIA : Hid (∀ w', Touch [] U3 w' → _) := hid (fun w' t => itoa_ e.fk H6.out.fk w' (HT.out.touch (L3.out.tt.trans' t)))
        have HIB : Hid (∀ w', Touch [] U3 w' → _) := hid (fun w' t => itoa_ e.fc H6.out.fc w' (HT.out.touch (L3.out.tt.trans' t)))
        have HIC : Hid (∀ w', Touch [] U3 w' → _) := hid (fun w' t => itoa_ e.fr H6.out.fr w' (HT.out.touch (L3.out.tt.trans' t)))
        have zA := it_size H6.out.fk
        have zB := it_size H6.out.fc
        have zC := it_size H6.out.fr
        have HSl : Hid (32 :: 102 :: (((((⟨(Lib.itoa e.fk).toArray⟩ : ByteArray) ++ ⟨#[58]⟩) ++ ⟨(Lib.itoa e.fc).toArray⟩) ++ ⟨#[58]⟩) ++ ⟨(Lib.itoa e.fr).toArray⟩).data.toList = failP e.fk e.fc e.fr) := hid (by rw [E1.out]; simp [ByteArray.data_append])
        generalize (⟨(Lib.itoa e.fk).toArray⟩ : ByteArray) = IA at *
        generalize (⟨(Lib.itoa e.fc).toArray⟩ : ByteArray) = IB at *
        generalize (⟨(Lib.itoa e.fr).toArray⟩ : ByteArray) = IC at *
        have zs : (ByteArray.mk #[58]).size = 1 := rfl
        have a1 : ∀ w', (Op.stringOp .add IA ⟨#[58]⟩).run Tryz.prog w' = .ok (.string (IA ++ ⟨#[58]⟩)) w' := fun w' => run_string_add_sum w' _ _ (by omega)
        have a2 : ∀ w', (Op.stringOp .add (IA ++ ⟨#[58]⟩) IB).run Tryz.prog w' = .ok (.string ((IA ++ ⟨#[58]⟩) ++ IB)) w' := fun w' => run_string_add_sum w' _ _ (by simp only [ByteArray.size_append]; omega)
        have a3 : ∀ w', (Op.stringOp .add ((IA ++ ⟨#[58]⟩) ++ IB) ⟨#[58]⟩).run Tryz.prog w' = .ok (.string (((IA ++ ⟨#[58]⟩) ++ IB) ++ ⟨#[58]⟩)) w' := fun w' => run_string_add_sum w' _ _ (by simp only [ByteArray.size_append]; omega)
        have a4 : ∀ w', (Op.stringOp .add (((IA ++ ⟨#[58]⟩) ++ IB) ++ ⟨#[58]⟩) IC).run Tryz.prog w' = .ok (.string ((((IA ++ ⟨#[58]⟩) ++ IB) ++ ⟨#[58]⟩) ++ IC)) w' := fun w' => run_string_add_sum w' _ _ (by simp only [ByteArray.size_append]; omega)
        have HX : Hid (∀ w', Touch [] U3 w' → _) := hid (fun w' t => wpart_ (L3.out.bd.touch t) 102 ((((IA ++ ⟨#[58]⟩) ++ IB) ++ ⟨#[58]⟩) ++ IC) (by have := HLE.out; simp only [ByteArray.size_append]; omega) (by simp only [ByteArray.size_append]; omega))
        unfold PT at HX
        clear zA zB zC zs
        have K0 : ∀ w' : World, w'.heap[nb]? = some (.cells #[.int .i64 e.fk, .int .i64 e.fc, .int .i64 e.fr] 26 (0, 0)) → w'.cell? ⟨nb, 0, none⟩ = some (.int .i64 e.fk) := fun w' h => cell_at h rfl
        have K1 : ∀ w' : World, w'.heap[nb]? = some (.cells #[.int .i64 e.fk, .int .i64 e.fc, .int .i64 e.fr] 26 (0, 0)) → w'.cell? ⟨nb, 1, none⟩ = some (.int .i64 e.fc) := fun w' h => cell_at h rfl
        have K2 : ∀ w' : World, w'.heap[nb]? = some (.cells #[.int .i64 e.fk, .int .i64 e.fc, .int .i64 e.fr] 26 (0, 0)) → w'.cell? ⟨nb, 2, none⟩ = some (.int .i64 e.fr) := fun w' h => cell_at h rfl
        have u0 : Touch [] U3 U3 := Touch.refl [] U3
        refine wpH_take (i := 0) (v := (.pointer (some ⟨nb, 0, none⟩))) (some 42) rfl rfl (by kernel_rfl) (by kernel_rfl) (by kernel_rfl) (fun _ _ _ h => h) (Or.inl ⟨by rfl, fun w' hS => (by go_simp)⟩) HB3.out ?_
        try simp only [Go.Act.put, List.setIfInBounds_toArray, List.set_cons_zero, List.set_cons_succ]
        refine wpH_take (i := 1) (v := (.int .i64 e.fk)) (some 43) rfl rfl (by kernel_rfl) (by kernel_rfl) (by kernel_rfl) (fun _ _ _ h => h) (Or.inl ⟨by rfl, fun w' hS => (by have z0 := K0 _ hS; go_simp)⟩) HB3.out ?_
        try simp only [Go.Act.put, List.setIfInBounds_toArray, List.set_cons_zero, List.set_cons_succ]
        refine wpH_take (i := 4) (v := (.pointer (some ⟨nb, 1, none⟩))) (some 46) rfl rfl (by kernel_rfl) (by kernel_rfl) (by kernel_rfl) (fun _ _ _ h => h) (Or.inl ⟨by rfl, fun w' hS => (by go_simp)⟩) HB3.out ?_
        try simp only [Go.Act.put, List.setIfInBounds_toArray, List.set_cons_zero, List.set_cons_succ]
        refine wpH_take (i := 5) (v := (.int .i64 e.fc)) (some 47) rfl rfl (by kernel_rfl) (by kernel_rfl) (by kernel_rfl) (fun _ _ _ h => h) (Or.inl ⟨by rfl, fun w' hS => (by have z0 := K1 _ hS; go_simp)⟩) HB3.out ?_
        try simp only [Go.Act.put, List.setIfInBounds_toArray, List.set_cons_zero, List.set_cons_succ]
        refine wpH_take (i := 9) (v := (.pointer (some ⟨nb, 2, none⟩))) (some 51) rfl rfl (by kernel_rfl) (by kernel_rfl) (by kernel_rfl) (fun _ _ _ h => h) (Or.inl ⟨by rfl, fun w' hS => (by go_simp)⟩) HB3.out ?_
        try simp only [Go.Act.put, List.setIfInBounds_toArray, List.set_cons_zero, List.set_cons_succ]
        refine wpH_take (i := 10) (v := (.int .i64 e.fr)) (some 52) rfl rfl (by kernel_rfl) (by kernel_rfl) (by kernel_rfl) (fun _ _ _ h => h) (Or.inl ⟨by rfl, fun w' hS => (by have z0 := K2 _ hS; go_simp)⟩) HB3.out ?_
        try simp only [Go.Act.put, List.setIfInBounds_toArray, List.set_cons_zero, List.set_cons_succ]
        refine wpH_call (i := 2) (o := { dst := some 44, op := Op.call { callee := Callee.value (Operand.func 79), args := #[Operand.tmp 43], argTypes := #[3] }, type := 9, pos := _, after := #[{ on := 1, ground := Ground.data }], guard := none }) (by kernel_rfl) rfl (fun K' hK => ?_)
        rw [if_pos (by rfl)]
        go_simp
        refine (HIA.out _ u0).mono ?_
        rintro r xA ⟨rfl, yA⟩
        have zA : Touch [] U3 xA := u0.trans' yA
        refine hK.out _ _ (zA.keep HB3.out (by simp)) ?_
        clear hK
        try simp only [Go.Act.put, List.setIfInBounds_toArray, List.set_cons_zero, List.set_cons_succ]
        refine wpH_take (i := 3) (v := (.string (IA ++ ⟨#[58]⟩))) (some 45) rfl rfl (by kernel_rfl) (by kernel_rfl) (by kernel_rfl) (fun _ _ _ h => h) (Or.inl ⟨by rfl, fun w' hS => (by go_simp)⟩) (zA.keep HB3.out (by simp)) ?_
        try simp only [Go.Act.put, List.setIfInBounds_toArray, List.set_cons_zero, List.set_cons_succ]
        refine wpH_call (i := 6) (o := { dst := some 48, op := Op.call { callee := Callee.value (Operand.func 79), args := #[Operand.tmp 47], argTypes := #[3] }, type := 9, pos := _, after := #[{ on := 5, ground := Ground.data }, { on := 2, ground := Ground.chain }], guard := none }) (by kernel_rfl) rfl (fun K' hK => ?_)
        rw [if_pos (by rfl)]
        go_simp
        refine (HIB.out _ zA).mono ?_
        rintro r xB ⟨rfl, yB⟩
        have zB : Touch [] U3 xB := zA.trans' yB
        refine hK.out _ _ (zB.keep HB3.out (by simp)) ?_
        clear hK
        try simp only [Go.Act.put, List.setIfInBounds_toArray, List.set_cons_zero, List.set_cons_succ]
        refine wpH_take (i := 7) (v := (.string ((IA ++ ⟨#[58]⟩) ++ IB))) (some 49) rfl rfl (by kernel_rfl) (by kernel_rfl) (by kernel_rfl) (fun _ _ _ h => h) (Or.inl ⟨by rfl, fun w' hS => (by go_simp)⟩) (zB.keep HB3.out (by simp)) ?_
        try simp only [Go.Act.put, List.setIfInBounds_toArray, List.set_cons_zero, List.set_cons_succ]
        refine wpH_take (i := 8) (v := (.string (((IA ++ ⟨#[58]⟩) ++ IB) ++ ⟨#[58]⟩))) (some 50) rfl rfl (by kernel_rfl) (by kernel_rfl) (by kernel_rfl) (fun _ _ _ h => h) (Or.inl ⟨by rfl, fun w' hS => (by go_simp)⟩) (zB.keep HB3.out (by simp)) ?_
        try simp only [Go.Act.put, List.setIfInBounds_toArray, List.set_cons_zero, List.set_cons_succ]
        refine wpH_call (i := 11) (o := { dst := some 53, op := Op.call { callee := Callee.value (Operand.func 79), args := #[Operand.tmp 52], argTypes := #[3] }, type := 9, pos := _, after := #[{ on := 10, ground := Ground.data }, { on := 6, ground := Ground.chain }], guard := none }) (by kernel_rfl) rfl (fun K' hK => ?_)
        rw [if_pos (by rfl)]
        go_simp
        refine (HIC.out _ zB).mono ?_
        rintro r xC ⟨rfl, yC⟩
        have zC : Touch [] U3 xC := zB.trans' yC
        refine hK.out _ _ (zC.keep HB3.out (by simp)) ?_
        clear hK
        try simp only [Go.Act.put, List.setIfInBounds_toArray, List.set_cons_zero, List.set_cons_succ]
        refine wpH_take (i := 12) (v := (.string ((((IA ++ ⟨#[58]⟩) ++ IB) ++ ⟨#[58]⟩) ++ IC))) (some 54) rfl rfl (by kernel_rfl) (by kernel_rfl) (by kernel_rfl) (fun _ _ _ h => h) (Or.inl ⟨by rfl, fun w' hS => (by go_simp)⟩) (zC.keep HB3.out (by simp)) ?_
        try simp only [Go.Act.put, List.setIfInBounds_toArray, List.set_cons_zero, List.set_cons_succ]
        refine wpH_call (i := 13) (o := { dst := some 55, op := Op.call { callee := Callee.value (Operand.func 78), args := #[Operand.tmp 3, Operand.const (Value.int IntKind.u8 102), Operand.tmp 54], argTypes := #[101, 5, 9] }, type := 0, pos := _, after := #[{ on := 12, ground := Ground.data }, { on := 11, ground := Ground.chain }], guard := none }) (by kernel_rfl) rfl (fun K' hK => ?_)
        rw [if_pos (by rfl)]
        go_simp
        refine (HX.out _ zC).mono ?_
        rintro r w4 ⟨rfl, q4, g4⟩
        have R4 := hid (L3.out.fail HSl.out zC q4 g4)
        have b4 := g4.keep _ _ (zC.keep HB3.out (by simp)) (by have := HB4.out; omega) (fun c fz e => by simp at e)
        clear q4 g4
        refine hK.out _ _ b4 ?_
        clear hK
        try simp only [Go.Act.put, List.setIfInBounds_toArray, List.set_cons_zero, List.set_cons_succ]
        refine wpAnyH_done (by kernel_rfl) ?_ _
        clear a1 a2 a3 a4 K0 K1 K2
        have k7 := R4.out.ib.c7
        have k8 := R4.out.ib.c8
        have hlt := Nat.lt_of_succ_lt R4.out.lt
        have HNK := fun w' => nek w' e.sp e.nm
        rcases (by cases zeroK e.sp e.nm <;> simp : zeroK e.sp e.nm = true ∨ zeroK e.sp e.nm = false) with hzk | hzk
        · rw [hzk] at HNK
          have E2 : Hid (keyP e.sp e.nm = []) := hid (if_pos hzk)
          have HZS : Hid _ := hid (string_ R4.out.bd (by simp [numsP, headP_ne]))
          clear hzk
          unfold PT at HZS
          go_wp2_with fail
          refine Calls.mono HZS.out ?_
          rintro r w8 ⟨rfl, g8⟩
          have G8 := hid (tt_wr R4.out.tt g8 (by omega))
          clear g8
          go_wp2_with fail
          go_ret
          exact ⟨by rw [lnL, E2.out]; simp, G8.out⟩
        · rw [hzk] at HNK
          have E2 : Hid (keyP e.sp e.nm = 32 :: 107 :: maskL (textB e.sp.toNat e.nm).data.toList) := hid (if_neg (by rw [hzk]; decide))
          clear hzk
          have HKT : Hid (Calls Tryz.prog 80 #[.agg #[.int .u16 e.sp, .string e.nm]] w4 fun e' w' => e' = .returned (.tuple #[.string (textB e.sp.toNat e.nm), .int .i64 0]) ∧ Touch [] w4 w') := hid (by
            have := ktext_ e.sp.toNat e.nm (by have := HSP.out; omega) HNM.out w4 (HT.out.touch R4.out.tt)
            rw [show ((e.sp.toNat : Nat) : Int) = e.sp by have := HSP.out; omega] at this
            exact this)
          have TZ : Hid ((textB e.sp.toNat e.nm).size ≤ 100) := hid (by rw [Kt.textB_size]; have := Kt.itoaB_len e.sp.toNat (by have := HSP.out; omega); have := HNM.out; omega)
          have HMK : Hid _ := hid (fun w' => masked_any (textB e.sp.toNat e.nm) (by have := TZ.out; omega) w')
          generalize textB e.sp.toNat e.nm = TX at *
          have hsz : (⟨(maskL TX.data.toList).toArray⟩ : ByteArray).size ≤ 300 := by
            show (maskL TX.data.toList).toArray.size ≤ 300
            rw [List.size_toArray, maskL_len]
            have := cnt_le TX.data.toList
            have h : TX.data.toList.length = TX.size := rfl
            have := TZ.out
            omega
          have HSZ := hid hsz
          clear hsz
          go_wp2_with fail
          refine Calls.mono HKT.out ?_
          rintro r w5 ⟨rfl, t5⟩
          have L5 := hid (R4.out.touch t5)
          clear t5
          go_wp2_with fail
          refine (HMK.out _).mono ?_
          rintro r w6 ⟨rfl, t6⟩
          have L6 := hid (L5.out.touch t6)
          clear t6
          have HPW : Hid _ := hid (wpart_ L6.out.bd 107 ⟨(maskL TX.data.toList).toArray⟩ (by have := HSZ.out; have := HLE.out; omega) (by have := HSZ.out; omega))
          unfold PT at HPW
          go_wp2_with fail
          refine Calls.mono HPW.out ?_
          rintro r w7 ⟨rfl, q7, g7⟩
          have L7 := hid (L6.out.wr q7 g7)
          clear q7 g7
          have HZS : Hid _ := hid (string_ L7.out.bd (by simp))
          unfold PT at HZS
          go_wp2_with fail
          refine Calls.mono HZS.out ?_
          rintro r w8 ⟨rfl, g8⟩
          have G8 := hid (tt_wr L7.out.tt g8 (by omega))
          clear g8
          go_wp2_with fail
          go_ret
          exact ⟨by rw [lnL, E2.out]; simp, G8.out⟩
end Go.Proofs.YtlffleigahfdlaaGreatDoor.Tr
