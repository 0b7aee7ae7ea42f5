/- An event's line, at one event: what each law asks first; the condition is that the table holds what the start lays. -/
import Derived.Test.YtlffleigahfdlaaGreatDoorEvj
namespace Go.Proofs.YtlffleigahfdlaaGreatDoor.Tr
open Go.RowKit Go.Sort Go.Shelf Go.Maps Go.ChangeMaps
set_option linter.unusedVariables false
set_option linter.unusedSimpArgs false
def e1 : Ez := ⟨0, 3, 0, 0, 1, 0, 0, 0, ⟨#[]⟩, 0, 0, 0, 0⟩
/-- what writing leaves of a box -/
theorem Wr.cell {B b k i : Nat} {w w' : World} (h : Wr B b w w') {c : Array Value} {t : TypeId} {fz : Nat × Nat} {v : Value} (ho : w.heap[k]? = some (.cells c t fz)) (hb : k ≠ b) (ht : t ≠ 5) (hv : w.cell? ⟨k, i, none⟩ = some v) : w'.cell? ⟨k, i, none⟩ = some v := by
  have := h.keep k _ ho hb (fun c' fz' e => by cases e; exact ht rfl)
  rw [World.cell?_of_block (this.trans ho.symm)]; exact hv
set_option maxRecDepth 20000 in
set_option maxHeartbeats 4000000 in
theorem line1_ (w : World) (hk : Tk w) : Calls Tryz.prog 38 #[e1.val] w fun r w' => r = .returned (.string ⟨#[48, 32, 115, 101, 110, 100, 32, 114, 49]⟩) ∧ Touch [] w w' := by
  obtain ⟨w0, hw0⟩ : ∃ w0, w0 = w.alloc (.cells #[.int .i64 0, .int .i64 3, .int .i64 0, .int .i64 0, .int .i64 1, .int .i64 0, .int .i64 0, .int .u16 0, .string ⟨#[]⟩, .int .i64 0, .int .i64 0, .int .i64 0, .int .i64 0] 30) := ⟨_, rfl⟩
  have s0 : w0.heap.size = w.heap.size + 1 := by rw [hw0]; simp
  have HF : Hid (∀ w', Calls Tryz.prog 75 #[.int .i64 0, .int .i64 10] w' fun e w'' => e = .returned (.string ⟨#[48]⟩) ∧ w'' = w') := fun w' => (Tryz.strconv_FormatInt_10_small 0 (by omega) w').mono fun e w'' ⟨he, t⟩ => ⟨by rw [he, dig0], t⟩
  unfold Ez.val e1
  go_enter Tryz.func38, Tryz.ntmps38
  go_wp2_with fail
  rw [← hw0]
  obtain ⟨V, hV⟩ : ∃ V, V = w0.alloc (.cells #[.pointer none, .slice none 0 0] 103) := ⟨_, rfl⟩
  rw [← hV]
  have T0 : Touch [] w w0 := by rw [hw0]; exact (Touch.refl [] w).alloc _
  have TV : Touch [] w V := by rw [hV]; exact T0.alloc _
  have B0 : Bd (w.heap.size + 1) (w.heap.size + 1) [] V := by rw [hV, ← s0]; exact Bd.new w0
  have O0 : V.heap[w.heap.size]? = some (.cells #[.int .i64 0, .int .i64 3, .int .i64 0, .int .i64 0, .int .i64 1, .int .i64 0, .int .i64 0, .int .u16 0, .string ⟨#[]⟩, .int .i64 0, .int .i64 0, .int .i64 0, .int .i64 0] 30 (0, 0)) := by
    have h0 := heap_alloc_new w (.cells #[.int .i64 0, .int .i64 3, .int .i64 0, .int .i64 0, .int .i64 1, .int .i64 0, .int .i64 0, .int .u16 0, .string ⟨#[]⟩, .int .i64 0, .int .i64 0, .int .i64 0, .int .i64 0] 30)
    rw [← hw0] at h0
    rw [hV]
    exact ((Touch.refl [] w0).alloc _).keep h0 (by simp)
  obtain ⟨U, hU⟩ : ∃ U, U = V.drew := ⟨_, rfl⟩
  have BU : Hid (Bd (w.heap.size + 1) (w.heap.size + 1) [] U) := by show Bd _ _ _ _; rw [hU]; exact B0.touch (Touch.refl [] V).drew
  have OU : U.heap[w.heap.size]? = some (.cells #[.int .i64 0, .int .i64 3, .int .i64 0, .int .i64 0, .int .i64 1, .int .i64 0, .int .i64 0, .int .u16 0, .string ⟨#[]⟩, .int .i64 0, .int .i64 0, .int .i64 0, .int .i64 0] 30 (0, 0)) := hU ▸ O0
  have HO : Hid (U.heap[w.heap.size]? = some (.cells #[.int .i64 0, .int .i64 3, .int .i64 0, .int .i64 0, .int .i64 1, .int .i64 0, .int .i64 0, .int .u16 0, .string ⟨#[]⟩, .int .i64 0, .int .i64 0, .int .i64 0, .int .i64 0] 30 (0, 0))) := OU
  have TU : Hid (Touch [] w U) := by show Touch [] w U; rw [hU]; exact TV.drew
  have c0 := cell_at OU (j := 0) (v := .int .i64 0) rfl
  have c1 := cell_at OU (j := 1) (v := .int .i64 3) rfl
  have c2 : U.cell? ⟨0, 6, none⟩ = some (.string ⟨#[115, 101, 110, 100]⟩) := (hk.touch TU.out).word 3 (by omega)
  have HT : Hid (Tk w) := hk
  have hs : w0.heap.size = w.heap.size + 1 := s0
  clear hw0 s0 hk TV T0 B0 O0 OU
  refine wp_region_still_tail 10 mixed (by kernel_rfl) ?_
  rw [show ({ heap := V.heap, tape := V.tape, drawn := V.drawn + 1, os := V.os, output := V.output } : World) = U from hU.symm]
  clear hU hV
  simp only [List.take_succ_cons, List.take_zero, List.drop_succ_cons, List.drop_zero]
  still_step
  still_step
  still_call (HF.out _)
  still_step
  still_step
  still_step
  still_step
  still_step
  still_step
  still_step
  refine wpStill_nil ?_
  have HW : Hid _ := write_ BU.out ⟨#[48, 32, 115, 101, 110, 100]⟩ (by show 0 + 6 ≤ _; omega)
  have HN : Hid _ := fun w' => numOf_ w.heap.size w'
  unfold PT at HW
  unfold PA at HN
  go_wp2_with fail
  refine Calls.mono HW.out ?_
  rintro e w1 ⟨rfl, r1, g1⟩
  have R1 : Hid (Bd (w.heap.size + 1) (w.heap.size + 1) [48, 32, 115, 101, 110, 100] w1) := r1
  have G1 : Hid (Wr (w.heap.size + 1) (w.heap.size + 1) U w1) := g1
  clear r1 g1 HW c0 c1 c2
  have hUs : w.heap.size + 1 < U.heap.size := BU.out.2.2
  have O1 : Hid (w1.heap[w.heap.size]? = some (.cells #[.int .i64 0, .int .i64 3, .int .i64 0, .int .i64 0, .int .i64 1, .int .i64 0, .int .i64 0, .int .u16 0, .string ⟨#[]⟩, .int .i64 0, .int .i64 0, .int .i64 0, .int .i64 0] 30 (0, 0))) := G1.out.keep _ _ HO.out (by omega) (fun c fz e => by simp at e)
  have HUS : Hid (w.heap.size + 1 < U.heap.size) := hUs
  clear hUs
  go_wp2_with fail
  refine (HN.out _).mono ?_
  rintro e w2 ⟨rfl, t2⟩
  have R2 : Hid (Bd (w.heap.size + 1) (w.heap.size + 1) [48, 32, 115, 101, 110, 100] w2 ∧ Wr (w.heap.size + 1) (w.heap.size + 1) U w2 ∧ w2.heap[w.heap.size]? = some (.cells #[.int .i64 0, .int .i64 3, .int .i64 0, .int .i64 0, .int .i64 1, .int .i64 0, .int .i64 0, .int .u16 0, .string ⟨#[]⟩, .int .i64 0, .int .i64 0, .int .i64 0, .int .i64 0] 30 (0, 0))) :=
    ⟨R1.out.touch t2, G1.out.touch t2 (Nat.le_of_lt HUS.out), t2.keep O1.out (by simp)⟩
  clear t2 R1 G1 O1
  go_wp2_with fail
  go_loopw [21] (fun i wr => ∃ j : Nat, i = .int .i64 j ∧ j ≤ 5 ∧ Hid (Bd (w.heap.size + 1) (w.heap.size + 1) (if j ≤ 2 then [48, 32, 115, 101, 110, 100] else [48, 32, 115, 101, 110, 100, 32, 114, 49]) wr ∧ Wr (w.heap.size + 1) (w.heap.size + 1) U wr ∧ wr.heap[w.heap.size]? = some (.cells #[.int .i64 0, .int .i64 3, .int .i64 0, .int .i64 0, .int .i64 1, .int .i64 0, .int .i64 0, .int .u16 0, .string ⟨#[]⟩, .int .i64 0, .int .i64 0, .int .i64 0, .int .i64 0] 30 (0, 0)))) (fun i _ => 5 - (intOf i).toNat)
  case atStart => exact ⟨0, rfl, Nat.zero_le _, R2.out⟩
  case round =>
    obtain ⟨j, rfl, hj, HG⟩ := hrel
    have HD : Hid (Bd (w.heap.size + 1) (w.heap.size + 1) (if j ≤ 2 then [48, 32, 115, 101, 110, 100] else [48, 32, 115, 101, 110, 100, 32, 114, 49]) wr.drew) := HG.out.1.touch (Touch.refl [] wr).drew
    have HY : Hid (wr.drew.heap[w.heap.size]? = some (.cells #[.int .i64 0, .int .i64 3, .int .i64 0, .int .i64 0, .int .i64 1, .int .i64 0, .int .i64 0, .int .u16 0, .string ⟨#[]⟩, .int .i64 0, .int .i64 0, .int .i64 0, .int .i64 0] 30 (0, 0))) := HG.out.2.2
    rcases (by omega : j = 0 ∨ j = 1 ∨ j = 2 ∨ j = 3 ∨ j = 4 ∨ j = 5) with rfl | rfl | rfl | rfl | rfl | rfl
    · have hix : ∀ w' : World, (Instr.index 123 (.agg #[.pointer (some ⟨w.heap.size, 2, none⟩), .pointer (some ⟨w.heap.size, 3, none⟩), .pointer (some ⟨w.heap.size, 4, none⟩), .pointer (some ⟨w.heap.size, 5, none⟩), .pointer (some ⟨w.heap.size, 6, none⟩)]) (.int .i64 0)).run Tryz.prog w' = .ok (.pointer (some ⟨w.heap.size, 2, none⟩)) w' := ixA w.heap.size 0 (by omega)
      go_wp2_with fail
      obtain ⟨U2, hU2⟩ : ∃ U2, U2 = wr.drew := ⟨_, rfl⟩
      rw [← hU2] at HD HY
      refine wp_region_still_tail 5 mixed (by kernel_rfl) ?_
      rw [show ({ heap := wr.heap, tape := wr.tape, drawn := wr.drawn + 1, os := wr.os, output := wr.output } : World) = U2 from hU2.symm]
      have hsz : wr.heap.size = U2.heap.size := by rw [hU2]; rfl
      have GD : Hid (Wr (w.heap.size + 1) (w.heap.size + 1) U U2) := by show Wr _ _ _ _; rw [hU2]; exact HG.out.2.1.touch (Touch.refl [] wr).drew (Nat.le_of_lt HUS.out)
      clear hU2
      have c0 := cell_at HY.out (j := 2) (v := .int .i64 0) rfl
      simp only [List.take_succ_cons, List.take_zero, List.drop_succ_cons, List.drop_zero]
      still_step
      still_step
      still_step
      still_step
      still_step
      refine wpStill_nil ?_
      have HZ : Hid _ := fun w' => wnum0_ (w.heap.size + 1) 99 w'
      unfold PT at HZ
      go_wp2_with fail
      refine (HZ.out _).mono ?_
      rintro e w9 ⟨rfl, e9⟩
      rw [e9]
      clear e9 w9
      go_wp2_with fail
      go_roundw
      case rel => exact ⟨1, rfl, by omega, HD.out, GD.out, HY.out⟩
      case measure => simp [intOf]
    · have hix : ∀ w' : World, (Instr.index 123 (.agg #[.pointer (some ⟨w.heap.size, 2, none⟩), .pointer (some ⟨w.heap.size, 3, none⟩), .pointer (some ⟨w.heap.size, 4, none⟩), .pointer (some ⟨w.heap.size, 5, none⟩), .pointer (some ⟨w.heap.size, 6, none⟩)]) (.int .i64 1)).run Tryz.prog w' = .ok (.pointer (some ⟨w.heap.size, 3, none⟩)) w' := ixA w.heap.size 1 (by omega)
      go_wp2_with fail
      obtain ⟨U2, hU2⟩ : ∃ U2, U2 = wr.drew := ⟨_, rfl⟩
      rw [← hU2] at HD HY
      refine wp_region_still_tail 5 mixed (by kernel_rfl) ?_
      rw [show ({ heap := wr.heap, tape := wr.tape, drawn := wr.drawn + 1, os := wr.os, output := wr.output } : World) = U2 from hU2.symm]
      have hsz : wr.heap.size = U2.heap.size := by rw [hU2]; rfl
      have GD : Hid (Wr (w.heap.size + 1) (w.heap.size + 1) U U2) := by show Wr _ _ _ _; rw [hU2]; exact HG.out.2.1.touch (Touch.refl [] wr).drew (Nat.le_of_lt HUS.out)
      clear hU2
      have c0 := cell_at HY.out (j := 3) (v := .int .i64 0) rfl
      simp only [List.take_succ_cons, List.take_zero, List.drop_succ_cons, List.drop_zero]
      still_step
      still_step
      still_step
      still_step
      still_step
      refine wpStill_nil ?_
      have HZ : Hid _ := fun w' => wnum0_ (w.heap.size + 1) 110 w'
      unfold PT at HZ
      go_wp2_with fail
      refine (HZ.out _).mono ?_
      rintro e w9 ⟨rfl, e9⟩
      rw [e9]
      clear e9 w9
      go_wp2_with fail
      go_roundw
      case rel => exact ⟨2, rfl, by omega, HD.out, GD.out, HY.out⟩
      case measure => simp [intOf]
    · have hix : ∀ w' : World, (Instr.index 123 (.agg #[.pointer (some ⟨w.heap.size, 2, none⟩), .pointer (some ⟨w.heap.size, 3, none⟩), .pointer (some ⟨w.heap.size, 4, none⟩), .pointer (some ⟨w.heap.size, 5, none⟩), .pointer (some ⟨w.heap.size, 6, none⟩)]) (.int .i64 2)).run Tryz.prog w' = .ok (.pointer (some ⟨w.heap.size, 4, none⟩)) w' := ixA w.heap.size 2 (by omega)
      go_wp2_with fail
      obtain ⟨U2, hU2⟩ : ∃ U2, U2 = wr.drew := ⟨_, rfl⟩
      rw [← hU2] at HD HY
      refine wp_region_still_tail 5 mixed (by kernel_rfl) ?_
      rw [show ({ heap := wr.heap, tape := wr.tape, drawn := wr.drawn + 1, os := wr.os, output := wr.output } : World) = U2 from hU2.symm]
      have hsz : wr.heap.size = U2.heap.size := by rw [hU2]; rfl
      have GD : Hid (Wr (w.heap.size + 1) (w.heap.size + 1) U U2) := by show Wr _ _ _ _; rw [hU2]; exact HG.out.2.1.touch (Touch.refl [] wr).drew (Nat.le_of_lt HUS.out)
      clear hU2
      have c0 := cell_at HY.out (j := 4) (v := .int .i64 1) rfl
      simp only [List.take_succ_cons, List.take_zero, List.drop_succ_cons, List.drop_zero]
      still_step
      still_step
      still_step
      still_step
      still_step
      refine wpStill_nil ?_
      have HZ : Hid (Calls Tryz.prog 77 #[PT (w.heap.size + 1), .int .u8 114, .int .i64 1] U2 fun e w' => e = .returned (.tuple #[]) ∧ Bd (w.heap.size + 1) (w.heap.size + 1) ([48, 32, 115, 101, 110, 100] ++ [32, 114, 49]) w' ∧ Wr (w.heap.size + 1) (w.heap.size + 1) U2 w') := wnum1_ HD.out 114 (by decide)
      unfold PT at HZ
      go_wp2_with fail
      refine Calls.mono HZ.out ?_
      rintro e w9 ⟨rfl, r9, g9⟩
      have hlt : w.heap.size < w.heap.size + 1 := by omega
      have R9 : Hid (Bd (w.heap.size + 1) (w.heap.size + 1) [48, 32, 115, 101, 110, 100, 32, 114, 49] w9 ∧ Wr (w.heap.size + 1) (w.heap.size + 1) U w9 ∧ w9.heap[w.heap.size]? = some (.cells #[.int .i64 0, .int .i64 3, .int .i64 0, .int .i64 0, .int .i64 1, .int .i64 0, .int .i64 0, .int .u16 0, .string ⟨#[]⟩, .int .i64 0, .int .i64 0, .int .i64 0, .int .i64 0] 30 (0, 0))) := ⟨r9, GD.out.trans g9, g9.keep _ _ HY.out (by omega) (fun c fz e => by simp at e)⟩
      clear r9 g9 hlt
      go_wp2_with fail
      go_roundw
      case rel => exact ⟨3, rfl, by omega, R9.out⟩
      case measure => simp [intOf]
    · have hix : ∀ w' : World, (Instr.index 123 (.agg #[.pointer (some ⟨w.heap.size, 2, none⟩), .pointer (some ⟨w.heap.size, 3, none⟩), .pointer (some ⟨w.heap.size, 4, none⟩), .pointer (some ⟨w.heap.size, 5, none⟩), .pointer (some ⟨w.heap.size, 6, none⟩)]) (.int .i64 3)).run Tryz.prog w' = .ok (.pointer (some ⟨w.heap.size, 5, none⟩)) w' := ixA w.heap.size 3 (by omega)
      go_wp2_with fail
      obtain ⟨U2, hU2⟩ : ∃ U2, U2 = wr.drew := ⟨_, rfl⟩
      rw [← hU2] at HD HY
      refine wp_region_still_tail 5 mixed (by kernel_rfl) ?_
      rw [show ({ heap := wr.heap, tape := wr.tape, drawn := wr.drawn + 1, os := wr.os, output := wr.output } : World) = U2 from hU2.symm]
      have hsz : wr.heap.size = U2.heap.size := by rw [hU2]; rfl
      have GD : Hid (Wr (w.heap.size + 1) (w.heap.size + 1) U U2) := by show Wr _ _ _ _; rw [hU2]; exact HG.out.2.1.touch (Touch.refl [] wr).drew (Nat.le_of_lt HUS.out)
      clear hU2
      have c0 := cell_at HY.out (j := 5) (v := .int .i64 0) rfl
      simp only [List.take_succ_cons, List.take_zero, List.drop_succ_cons, List.drop_zero]
      still_step
      still_step
      still_step
      still_step
      still_step
      refine wpStill_nil ?_
      have HZ : Hid _ := fun w' => wnum0_ (w.heap.size + 1) 103 w'
      unfold PT at HZ
      go_wp2_with fail
      refine (HZ.out _).mono ?_
      rintro e w9 ⟨rfl, e9⟩
      rw [e9]
      clear e9 w9
      go_wp2_with fail
      go_roundw
      case rel => exact ⟨4, rfl, by omega, HD.out, GD.out, HY.out⟩
      case measure => simp [intOf]
    · have hix : ∀ w' : World, (Instr.index 123 (.agg #[.pointer (some ⟨w.heap.size, 2, none⟩), .pointer (some ⟨w.heap.size, 3, none⟩), .pointer (some ⟨w.heap.size, 4, none⟩), .pointer (some ⟨w.heap.size, 5, none⟩), .pointer (some ⟨w.heap.size, 6, none⟩)]) (.int .i64 4)).run Tryz.prog w' = .ok (.pointer (some ⟨w.heap.size, 6, none⟩)) w' := ixA w.heap.size 4 (by omega)
      go_wp2_with fail
      obtain ⟨U2, hU2⟩ : ∃ U2, U2 = wr.drew := ⟨_, rfl⟩
      rw [← hU2] at HD HY
      refine wp_region_still_tail 5 mixed (by kernel_rfl) ?_
      rw [show ({ heap := wr.heap, tape := wr.tape, drawn := wr.drawn + 1, os := wr.os, output := wr.output } : World) = U2 from hU2.symm]
      have hsz : wr.heap.size = U2.heap.size := by rw [hU2]; rfl
      have GD : Hid (Wr (w.heap.size + 1) (w.heap.size + 1) U U2) := by show Wr _ _ _ _; rw [hU2]; exact HG.out.2.1.touch (Touch.refl [] wr).drew (Nat.le_of_lt HUS.out)
      clear hU2
      have c0 := cell_at HY.out (j := 6) (v := .int .i64 0) rfl
      simp only [List.take_succ_cons, List.take_zero, List.drop_succ_cons, List.drop_zero]
      still_step
      still_step
      still_step
      still_step
      still_step
      refine wpStill_nil ?_
      have HZ : Hid _ := fun w' => wnum0_ (w.heap.size + 1) 104 w'
      unfold PT at HZ
      go_wp2_with fail
      refine (HZ.out _).mono ?_
      rintro e w9 ⟨rfl, e9⟩
      rw [e9]
      clear e9 w9
      go_wp2_with fail
      go_roundw
      case rel => exact ⟨5, rfl, by omega, HD.out, GD.out, HY.out⟩
      case measure => simp [intOf]
    · have HE : Hid (Bd (w.heap.size + 1) (w.heap.size + 1) [48, 32, 115, 101, 110, 100, 32, 114, 49] wr ∧ Wr (w.heap.size + 1) (w.heap.size + 1) U wr ∧ wr.heap[w.heap.size]? = some (.cells #[.int .i64 0, .int .i64 3, .int .i64 0, .int .i64 0, .int .i64 1, .int .i64 0, .int .i64 0, .int .u16 0, .string ⟨#[]⟩, .int .i64 0, .int .i64 0, .int .i64 0, .int .i64 0] 30 (0, 0))) := HG.out
      clear HG HD HY
      have c7 := cell_at HE.out.2.2 (j := 7) (v := .int .u16 0) rfl
      have c8 := cell_at HE.out.2.2 (j := 8) (v := .string ⟨#[]⟩) rfl
      have c9 := cell_at HE.out.2.2 (j := 9) (v := .int .i64 0) rfl
      have c10 := cell_at HE.out.2.2 (j := 10) (v := .int .i64 0) rfl
      have c11 := cell_at HE.out.2.2 (j := 11) (v := .int .i64 0) rfl
      have c12 := cell_at HE.out.2.2 (j := 12) (v := .int .i64 0) rfl
      have hlt : w.heap.size < wr.heap.size := cell_lt c7
      have HZ : Hid _ := fun w' => wnum0_ (w.heap.size + 1) 118 w'
      have HS : Hid (∀ w', Bd (w.heap.size + 1) (w.heap.size + 1) [48, 32, 115, 101, 110, 100, 32, 114, 49] w' → _) := fun w' h' => string_ (w := w') h' (by simp)
      unfold PT at HZ HS
      go_wp2_with fail
      refine (HZ.out _).mono ?_
      rintro e w9 ⟨rfl, e9⟩
      rw [e9]
      clear e9 w9
      go_wp2_with fail
      refine (HS.out _ (HE.out.1.touch ((Touch.refl [] wr).alloc _))).mono ?_
      rintro e w8 ⟨rfl, g8⟩
      have G8 : Hid (Wr (w.heap.size + 1) (w.heap.size + 1) U w8) := (HE.out.2.1.touch ((Touch.refl [] wr).alloc _) (Nat.le_of_lt HUS.out)).trans g8
      clear g8
      go_wp2_with fail
      go_ret
      exact ⟨rfl, G8.out.below.os.trans TU.out.os, G8.out.below.tape.trans TU.out.tape, G8.out.below.output.trans TU.out.output, Nat.le_trans TU.out.size G8.out.below.size, fun k hk _ => (G8.out.below.block k (by omega)).trans (TU.out.block k hk (by simp))⟩
theorem line_e1 (w : World) (hk : Tk w) : Calls Tryz.prog 9 #[e1.val] w fun r w' => r = .returned (.tuple #[.string ⟨#[48, 32, 115, 101, 110, 100, 32, 114, 49]⟩, .int .i64 0]) ∧ Touch [] w w' := by
  have H1 : Hid (∀ w', Touch [] w w' → Calls Tryz.prog 12 #[e1.val] w' fun r w'' => r = .returned (.int .i64 0) ∧ Touch [] w' w'') := fun w' t => by
    have := check_ e1 w' (hk.touch t) (by decide)
    rw [show chkN e1 = 0 by kernel_rfl] at this
    exact this
  have H2 : Hid (∀ w', Touch [] w w' → _) := fun w' t => line1_ w' (hk.touch t)
  have B0 : Hid (∀ w', Touch [] (w.alloc (.cells #[.int .i64 0, .int .i64 3, .int .i64 0, .int .i64 0, .int .i64 1, .int .i64 0, .int .i64 0, .int .u16 0, .string ⟨#[]⟩, .int .i64 0, .int .i64 0, .int .i64 0, .int .i64 0] 30)) w' → Ib w' w.heap.size e1) := fun w' t => (Ib.new w e1 30).touch t
  unfold Ez.val e1 at *
  clear hk
  go_enter Tryz.func9, Tryz.ntmps9
  go_wp2_with fail
  refine (H1.out _ ((Touch.refl [] w).alloc _)).mono ?_
  rintro r w1 ⟨rfl, t1⟩
  obtain ⟨c0, c1, c2, c3, c4, c5, c6, c7, c8, c9, c10, c11, c12⟩ := B0.out _ t1
  dsimp only at c0 c1 c2 c3 c4 c5 c6 c7 c8 c9 c10 c11 c12
  have T1 : Hid (Touch [] w w1) := ((Touch.refl [] w).alloc _).trans' t1
  clear t1
  go_wp2_with fail
  refine (H2.out _ T1.out).mono ?_
  rintro r w2 ⟨rfl, t2⟩
  go_wp2_with fail
  go_ret2
  exact ⟨rfl, T1.out.trans' t2⟩
theorem awake_ (w : World) (hk : Tk w) : Calls Tryz.prog 8 #[] w fun r w' => r = .returned (.bool true) ∧ Touch [] w w' := by
  have H1 : Hid _ := line_e1 w hk
  unfold Ez.val e1 at *
  clear hk
  go_enter Tryz.func8, Tryz.ntmps8
  go_wp2_with fail
  refine Calls.mono H1.out ?_
  rintro r w1 ⟨rfl, t1⟩
  go_wp2_with fail
  go_ret
  exact ⟨rfl, t1⟩
end Go.Proofs.YtlffleigahfdlaaGreatDoor.Tr
