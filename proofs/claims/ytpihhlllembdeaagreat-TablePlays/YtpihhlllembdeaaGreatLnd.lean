/- The contract of a line's remove. -/
import Derived.Test.YtpihhlllembdeaaGreatLnc
import Derived.Test.YtpihhlllembdeaaGreatHlh
namespace Go.Proofs.YtpihhlllembdeaaGreat
open Go.RowKit Go.Maps Go.ChangeMaps
set_option linter.unusedVariables false
set_option linter.unusedSimpArgs false
/-- Behind remove: the others wait as they did. -/
def RmE (w w' : World) (b : Nat) (R : Rn) (k c e : Bool) (o : O) (F : List Nat) (cs : List Int) (x : Int) : Prop := ∃ cs', wl cs' = (wl cs).filter (fun y => decide (y ≠ x)) ∧ cs'.length ≤ cs.length ∧ LnE w w' b R k c e o F cs'
theorem hole_len {cs : List Int} {x : Int} (h : x ∈ wl cs) : (wl (holeL cs x)).length = (wl cs).length - 1 := by
  obtain ⟨a, b, e, hn, _⟩ := cut (mem_wl.1 h).1
  have h0 := (mem_wl.1 h).2
  subst e
  rw [holeL_cut hn, wl_app, wl_app, wl_cons_zero, wl_cons h0]
  simp
section
variable (w : World) (b : Nat) (R : Rn) (sl : Value) (m : Option Nat) (cs : List Int) (k c e : Bool) (o : O)
set_option maxHeartbeats 4000000 in
set_option maxRecDepth 100000 in
theorem remove30 (h : Rl w b R k c e o sl m cs) (x : Int) (hx : x ∈ wl cs) (hle : cs.length ≤ 3000000000000) : Calls Tryz.prog 67 #[PL b, .int .i64 x] w fun e' w' => e' = .returned (.tuple #[]) ∧ RmE w w' b R k c e o (fpR b sl m) cs x := by
  obtain ⟨d, rfl⟩ : ∃ d, m = some d := by
    rcases h.ln.mp with ⟨_, q⟩ | ⟨d, q, _⟩
    · subst q; simp [wl] at hx
    · exact ⟨d, q⟩
  have hmem := (mem_wl.1 hx).1
  have hpos : 0 < cs.length := List.length_pos_of_mem hmem
  obtain ⟨g, cap, rfl, _, hglt⟩ := own_some h.ln.row hpos
  have hp : cs.idxOf x < cs.length := List.idxOf_lt_length_iff.2 hmem
  have hxp : cs[cs.idxOf x]? = some x := by
    obtain ⟨a, b', e1, e2, e3⟩ := cut hmem
    rw [e3, e1]; simp
  have hW := h.ln.ok.wf x hmem
  have hM0 : MapAt w d (wl cs).length (plv cs) := by
    rcases h.ln.mp with ⟨q, _⟩ | ⟨d', q, hm⟩
    · cases q
    · cases q; exact hm
  have H5 : ∀ w', Touch [] w w' → w'.cell? ⟨b, 5, none⟩ = some (.slice (some ⟨g, 0, none⟩) cs.length cap) := fun w' T => (h.keep0 T).rc.cs.c5
  have H6 : ∀ w', Touch [] w w' → w'.cell? ⟨b, 6, none⟩ = some (.map (some d)) := fun w' T => (h.keep0 T).rc.cs.c6
  have HLK : ∀ w', Touch [] w w' → (Instr.lookup 131 (.map (some d)) (.int .i64 x) false).run Tryz.prog w' = .ok (.int .i64 ((cs.idxOf x : Nat) : Int)) w' := fun w' T => by
    have := (hM0.kept (T.block d hM0.lt (by simp))).look (t := 131) Tryz.underlying131 (zero3 w') hW
    rw [plv_some hx] at this
    exact this
  have hcell : w.cell? ⟨g, cs.idxOf x, none⟩ = some (.int .i64 x) := own_cell h.ln.row (by simp [ints, hxp])
  have hfz : w.frozen? ⟨g, cs.idxOf x, none⟩ = false := own_frozen h.ln.row _
  have HH := hid h
  have HLE := hid hle
  have zk : ((cs.idxOf x : Nat) : Int) < ((cs.length : Nat) : Int) := by omega
  have HP := hid (show cs.idxOf x = cs.idxOf x from rfl)
  obtain ⟨p, hpp⟩ : ∃ p, p = cs.idxOf x := ⟨_, rfl⟩
  have HPP := hid hpp
  rw [← hpp] at HLK hcell hfz zk
  clear h hle hM0 hxp hp hpos hmem hpp HP
  have s0 : Touch [] w w.drew := (Touch.refl _ _).drew
  unfold PL
  go_enter Tryz.func67, Tryz.ntmps67
  go_upto_region 0 with fail
  refine wp_region_L (S := fun w' => Touch [] w w') (st := 11) (by kernel_rfl) ?_
  refine wpL_take (i := 0) (v := (.pointer (some ⟨b, 5, none⟩))) (some 4) rfl rfl (by kernel_rfl) (by kernel_rfl) (by kernel_rfl) (by kernel_rfl) (by kernel_rfl) (by decide) (fun _ _ _ h => h) (Or.inl ⟨by rfl, fun w' hS => (by go_simp)⟩) s0 ?_
  try simp only [Go.Act.put, List.setIfInBounds_toArray, List.set_cons_zero, List.set_cons_succ]
  refine wpL_take (i := 1) (v := (.pointer (some ⟨b, 5, none⟩))) (some 5) rfl rfl (by kernel_rfl) (by kernel_rfl) (by kernel_rfl) (by kernel_rfl) (by kernel_rfl) (by decide) (fun _ _ _ h => h) (Or.inl ⟨by rfl, fun w' hS => (by go_simp)⟩) s0 ?_
  try simp only [Go.Act.put, List.setIfInBounds_toArray, List.set_cons_zero, List.set_cons_succ]
  refine wpL_take (i := 2) (v := (.pointer (some ⟨b, 5, none⟩))) (some 6) rfl rfl (by kernel_rfl) (by kernel_rfl) (by kernel_rfl) (by kernel_rfl) (by kernel_rfl) (by decide) (fun _ _ _ h => h) (Or.inl ⟨by rfl, fun w' hS => (by go_simp)⟩) s0 ?_
  try simp only [Go.Act.put, List.setIfInBounds_toArray, List.set_cons_zero, List.set_cons_succ]
  refine wpL_take (i := 3) (v := (.slice (some ⟨g, 0, none⟩) cs.length cap)) (some 7) rfl rfl (by kernel_rfl) (by kernel_rfl) (by kernel_rfl) (by kernel_rfl) (by kernel_rfl) (by decide) (fun _ _ _ h => h) (Or.inl ⟨by rfl, fun w' hS => (by have z0 := H5 _ hS; go_simp)⟩) s0 ?_
  try simp only [Go.Act.put, List.setIfInBounds_toArray, List.set_cons_zero, List.set_cons_succ]
  refine wpL_take (i := 4) (v := (.pointer (some ⟨b, 5, none⟩))) (some 8) rfl rfl (by kernel_rfl) (by kernel_rfl) (by kernel_rfl) (by kernel_rfl) (by kernel_rfl) (by decide) (fun _ _ _ h => h) (Or.inl ⟨by rfl, fun w' hS => (by go_simp)⟩) s0 ?_
  try simp only [Go.Act.put, List.setIfInBounds_toArray, List.set_cons_zero, List.set_cons_succ]
  refine wpL_take (i := 5) (v := (.pointer (some ⟨b, 5, none⟩))) (some 9) rfl rfl (by kernel_rfl) (by kernel_rfl) (by kernel_rfl) (by kernel_rfl) (by kernel_rfl) (by decide) (fun _ _ _ h => h) (Or.inl ⟨by rfl, fun w' hS => (by go_simp)⟩) s0 ?_
  try simp only [Go.Act.put, List.setIfInBounds_toArray, List.set_cons_zero, List.set_cons_succ]
  refine wpL_take (i := 6) (v := (.pointer (some ⟨b, 6, none⟩))) (some 10) rfl rfl (by kernel_rfl) (by kernel_rfl) (by kernel_rfl) (by kernel_rfl) (by kernel_rfl) (by decide) (fun _ _ _ h => h) (Or.inl ⟨by rfl, fun w' hS => (by go_simp)⟩) s0 ?_
  try simp only [Go.Act.put, List.setIfInBounds_toArray, List.set_cons_zero, List.set_cons_succ]
  refine wpL_take (i := 7) (v := (.map (some d))) (some 11) rfl rfl (by kernel_rfl) (by kernel_rfl) (by kernel_rfl) (by kernel_rfl) (by kernel_rfl) (by decide) (fun _ _ _ h => h) (Or.inl ⟨by rfl, fun w' hS => (by have z0 := H6 _ hS; go_simp)⟩) s0 ?_
  try simp only [Go.Act.put, List.setIfInBounds_toArray, List.set_cons_zero, List.set_cons_succ]
  refine wpL_take (i := 8) (v := (.int .i64 x)) (some 12) rfl rfl (by kernel_rfl) (by kernel_rfl) (by kernel_rfl) (by kernel_rfl) (by kernel_rfl) (by decide) (fun _ _ _ h => h) (Or.inl ⟨by rfl, fun w' hS => (by go_simp)⟩) s0 ?_
  try simp only [Go.Act.put, List.setIfInBounds_toArray, List.set_cons_zero, List.set_cons_succ]
  refine wpL_take (i := 9) (v := (.int .i64 (p : Nat))) (some 13) rfl rfl (by kernel_rfl) (by kernel_rfl) (by kernel_rfl) (by kernel_rfl) (by kernel_rfl) (by decide) (fun _ _ _ h => h) (Or.inl ⟨by rfl, fun w' hS => (by have z := HLK _ hS; go_simp)⟩) s0 ?_
  try simp only [Go.Act.put, List.setIfInBounds_toArray, List.set_cons_zero, List.set_cons_succ]
  refine wpL_take (i := 10) (v := (.pointer (some ⟨g, p, none⟩))) (some 14) rfl rfl (by kernel_rfl) (by kernel_rfl) (by kernel_rfl) (by kernel_rfl) (by kernel_rfl) (by decide) (fun _ _ _ h => h) (Or.inl ⟨by rfl, fun w' hS => (by go_simp)⟩) s0 ?_
  try simp only [Go.Act.put, List.setIfInBounds_toArray, List.set_cons_zero, List.set_cons_succ]
  refine wpL_ready (rs := [11]) (by kernel_rfl) (by simp) (AllL.cons (o := { dst := none, op := Op.store 3 (Operand.tmp 14) (Operand.const (Value.int IntKind.i64 0)), type := 0, pos := _, after := #[{ on := 10, ground := Ground.data }, { on := 0, ground := Ground.phase }, { on := 1, ground := Ground.phase }, { on := 2, ground := Ground.phase }, { on := 3, ground := Ground.phase }, { on := 4, ground := Ground.phase }, { on := 5, ground := Ground.phase }, { on := 6, ground := Ground.phase }, { on := 7, ground := Ground.phase }, { on := 8, ground := Ground.phase }, { on := 9, ground := Ground.phase }], guard := none }) rfl (fun K' hK => ?_) AllL.nil)
  rw [if_pos (by rfl)]
  go_simp
  refine hK.out _ _ (fun h => absurd h (by decide)) ?_
  clear hK
  try simp only [Go.Act.put, List.setIfInBounds_toArray, List.set_cons_zero, List.set_cons_succ]
  refine wpL_done (by kernel_rfl) ?_ _
  obtain ⟨W2, hW2⟩ : ∃ W2, W2 = (w.setCell ⟨g, p, none⟩ (.int .i64 0)).drew := ⟨_, rfl⟩
  have HD : Hid (Touch [g] w W2 ∧ MapAt W2 d (wl cs).length (plv cs) ∧ W2.ownsRow 0 3 1 (.slice (some ⟨g, 0, none⟩) cs.length cap) cs.length (ints (holeL cs x)) ∧ Rc W2 b R (.slice (some ⟨g, 0, none⟩) cs.length cap) (.map (some d)) k c e o) := by
    have h := HH.out
    have T : Touch [g] w W2 := by rw [hW2]; exact ((Touch.refl _ _).setCell (Or.inl (by simp)) _).drew
    have hm := h.ln.mp.keep T (fun q hq e' => by simp only [List.mem_singleton] at e'; exact row_map h.ln.row h.ln.mp rfl hq e'.symm)
    refine ⟨T, ?_, ?_, h.rc.keep T (fun e' => ?_)⟩
    · rcases hm with ⟨q, _⟩ | ⟨d', q, hm⟩
      · cases q
      · cases q; exact hm
    · have := own_set h.ln.row p (.int .i64 0)
      rw [hW2]
      rw [show ints (holeL cs x) = (ints cs).set p (.int .i64 0) by unfold ints holeL; rw [HPP.out, List.map_set]]
      exact this
    · simp only [List.mem_singleton] at e'
      exact row_ne h.rc h.ln.row rfl e'.symm
  rw [← hW2]
  clear hW2 s0 H5 H6 HLK hcell hfz zk
  have c6 := HD.out.2.2.2.cs.c6
  have HM2 := hid HD.out.2.1
  go_upto_region 2 with (at_delete; refine wpList_mdel _ rfl _ _ 131 rfl 3 Tryz.underlying131 d (wl cs).length (plv cs) rfl HM2.out x rfl hW ?_; intro ob hM3; have M3 := hid hM3; clear hM3)
  obtain ⟨W3, hW3⟩ : ∃ W3, W3 = setBlock W2 d ob := ⟨_, rfl⟩
  have HR : Hid (Rl W3 b R k c e o (.slice (some ⟨g, 0, none⟩) cs.length cap) (some d) (holeL cs x) ∧ Touch (fpR b (.slice (some ⟨g, 0, none⟩) cs.length cap) (some d)) w W3) := by
    have T : Touch [d] W2 W3 := by rw [hW3]; exact touch_setBlock (Touch.refl _ _) (Or.inl (by simp)) ob
    obtain ⟨t1, m1, r1, q1⟩ := HD.out
    have hm : Mp W2 (some d) cs := Or.inr ⟨d, rfl, m1⟩
    have h3 := M3.out
    rw [plv_some hx] at h3
    have e1 : (wl (holeL cs x)).length = (wl cs).length - 1 := hole_len hx
    refine ⟨⟨q1.keep T (fun e' => ?_), ⟨?_, Or.inr ⟨d, rfl, ?_⟩, HH.out.ln.ok.hole hx⟩⟩, (t1.mono (fun q hq => ?_)).trans' (T.mono (fun q hq => ?_))⟩
    · simp only [List.mem_singleton] at e'
      exact map_ne q1 hm rfl e'.symm
    · rw [holeL_len]
      refine own_touch r1 T (fun q hq e' => ?_)
      simp only [List.mem_singleton] at e'
      exact row_map r1 hm hq rfl e'
    · rw [e1, hW3]
      exact (show MapAt (setBlock W2 d ob) d ((wl cs).length - 1) _ from h3).congr (fun q _ => plv_hole HH.out.ln.ok hx q)
    · simp only [List.mem_singleton] at hq; exact mem_fpR.2 (Or.inr (Or.inl (by rw [hq]; rfl)))
    · simp only [List.mem_singleton] at hq; exact mem_fpR.2 (Or.inr (Or.inr (by rw [hq])))
  rw [← hW3]
  clear hW3 HD HM2 M3 c6 ob
  have HW := hid (wl_hole HH.out.ln.ok hx)
  have K5 : ∀ w', Touch [] W3 w' → w'.cell? ⟨b, 5, none⟩ = some (.slice (some ⟨g, 0, none⟩) cs.length cap) := fun w' T => (HR.out.1.keep0 T).rc.cs.c5
  obtain ⟨n, hn⟩ : ∃ n, n = (wl (holeL cs x)).length := ⟨_, rfl⟩
  have HC : Hid (∀ w', Touch [] W3 w' → Calls Tryz.prog 83 #[PL b] w' fun e w'' => e = .returned (.int .i64 (n : Nat)) ∧ w'' = w') := fun w' T => by rw [hn]; exact count35 (HR.out.1.keep0 T)
  have hn2 : n ≤ 3000000000000 := by rw [hn]; have := wl_len (holeL cs x); rw [holeL_len] at this; have := HLE.out; omega
  obtain ⟨gt, hgt⟩ : ∃ gt, gt = decide (2 * (n : Int) < (cs.length : Int)) := ⟨_, rfl⟩
  have HGT := hid hgt
  have HCU : Hid (∀ w', Touch [] W3 w' → Calls Tryz.prog 84 #[PL b] w' fun e' w'' => e' = .returned (.tuple #[]) ∧ LnE w' w'' b R k c e o (fpR b (.slice (some ⟨g, 0, none⟩) cs.length cap) (some d)) (wl (holeL cs x))) := fun w' T => closeUp39 w' b R _ d _ k c e o (HR.out.1.keep0 T) (by rw [holeL_len]; exact HLE.out)
  have HE1 : Hid (∀ w' w'', Touch [] W3 w' → LnE w' w'' b R k c e o (fpR b (.slice (some ⟨g, 0, none⟩) cs.length cap) (some d)) (wl (holeL cs x)) → RmE w w'' b R k c e o (fpR b (.slice (some ⟨g, 0, none⟩) cs.length cap) (some d)) cs x) := fun w' w'' T ⟨sl', m', r1, r2, r3⟩ => by
    refine ⟨wl (holeL cs x), by rw [wl_wl]; exact HW.out, Nat.le_trans (wl_len _) (by rw [holeL_len]; exact Nat.le_refl _), sl', m', r1, (HR.out.2.trans' (T.mono (fun _ q => by cases q))).trans' r2, fun q hq => ?_⟩
    rcases r3 q hq with e' | e'
    · exact Or.inl e'
    · exact Or.inr (Nat.le_trans (Nat.le_trans HR.out.2.size T.size) e')
  have HE2 : Hid (∀ w', Touch [] W3 w' → RmE w w' b R k c e o (fpR b (.slice (some ⟨g, 0, none⟩) cs.length cap) (some d)) cs x) := fun w' T =>
    ⟨holeL cs x, HW.out, by rw [holeL_len]; exact Nat.le_refl _, _, some d, HR.out.1.keep0 T, HR.out.2.trans' (T.mono (fun _ q => by cases q)), Nf.refl _ _⟩
  clear hn hgt HR HW HH hx hW
  unfold PL at *
  have k0 : Touch [] W3 W3.drew := (Touch.refl _ _).drew
  refine wp_region_H (S := fun w' => Touch [] W3 w') (by kernel_rfl) ?_
  refine wpH_take (i := 0) (v := (.pointer (some ⟨b, 5, none⟩))) (some 20) rfl rfl (by kernel_rfl) (by kernel_rfl) (by kernel_rfl) (fun _ _ _ h => h) (Or.inl ⟨by rfl, fun w' hS => (by go_simp)⟩) k0 ?_
  try simp only [Go.Act.put, List.setIfInBounds_toArray, List.set_cons_zero, List.set_cons_succ]
  refine wpH_take (i := 1) (v := (.pointer (some ⟨b, 5, none⟩))) (some 21) rfl rfl (by kernel_rfl) (by kernel_rfl) (by kernel_rfl) (fun _ _ _ h => h) (Or.inl ⟨by rfl, fun w' hS => (by go_simp)⟩) k0 ?_
  try simp only [Go.Act.put, List.setIfInBounds_toArray, List.set_cons_zero, List.set_cons_succ]
  refine wpH_take (i := 2) (v := (.pointer (some ⟨b, 5, none⟩))) (some 22) rfl rfl (by kernel_rfl) (by kernel_rfl) (by kernel_rfl) (fun _ _ _ h => h) (Or.inl ⟨by rfl, fun w' hS => (by go_simp)⟩) k0 ?_
  try simp only [Go.Act.put, List.setIfInBounds_toArray, List.set_cons_zero, List.set_cons_succ]
  refine wpH_take (i := 3) (v := (.slice (some ⟨g, 0, none⟩) cs.length cap)) (some 23) rfl rfl (by kernel_rfl) (by kernel_rfl) (by kernel_rfl) (fun _ _ _ h => h) (Or.inl ⟨by rfl, fun w' hS => (by have z0 := K5 _ hS; go_simp)⟩) k0 ?_
  try simp only [Go.Act.put, List.setIfInBounds_toArray, List.set_cons_zero, List.set_cons_succ]
  refine wpH_take (i := 4) (v := (.int .i64 (cs.length : Nat))) (some 24) rfl rfl (by kernel_rfl) (by kernel_rfl) (by kernel_rfl) (fun _ _ _ h => h) (Or.inl ⟨by rfl, fun w' hS => (by go_simp)⟩) k0 ?_
  try simp only [Go.Act.put, List.setIfInBounds_toArray, List.set_cons_zero, List.set_cons_succ]
  refine wpH_take (i := 5) (v := (.pointer (some ⟨b, 5, none⟩))) (some 25) rfl rfl (by kernel_rfl) (by kernel_rfl) (by kernel_rfl) (fun _ _ _ h => h) (Or.inl ⟨by rfl, fun w' hS => (by go_simp)⟩) k0 ?_
  try simp only [Go.Act.put, List.setIfInBounds_toArray, List.set_cons_zero, List.set_cons_succ]
  refine wpH_call (i := 6) (o := { dst := some 26, op := Op.call { callee := Callee.value (Operand.func 83), args := #[Operand.tmp 25], argTypes := #[151] }, type := 3, pos := _, after := #[{ on := 5, ground := Ground.data }], guard := none }) (by kernel_rfl) rfl (fun K' hK => ?_)
  rw [if_pos (by rfl)]
  go_simp
  refine (HC.out _ k0).mono ?_
  rintro e w4 ⟨rfl, rfl⟩
  refine hK.out _ _ k0 ?_
  clear hK
  try simp only [Go.Act.put, List.setIfInBounds_toArray, List.set_cons_zero, List.set_cons_succ]
  refine wpH_take (i := 7) (v := (.int .i64 (2 * (n : Int)))) (some 27) rfl rfl (by kernel_rfl) (by kernel_rfl) (by kernel_rfl) (fun _ _ _ h => h) (Or.inl ⟨by rfl, fun w' hS => (by go_simp; rw [IntKind.wrap_i64]; omega)⟩) k0 ?_
  try simp only [Go.Act.put, List.setIfInBounds_toArray, List.set_cons_zero, List.set_cons_succ]
  refine wpH_take (i := 8) (v := (.bool gt)) (some 28) rfl rfl (by kernel_rfl) (by kernel_rfl) (by kernel_rfl) (fun _ _ _ h => h) (Or.inl ⟨by rfl, fun w' hS => (by go_simp; exact HGT.out.symm)⟩) k0 ?_
  try simp only [Go.Act.put, List.setIfInBounds_toArray, List.set_cons_zero, List.set_cons_succ]
  refine wpAnyH_done (by kernel_rfl) ?_ _
  cases gt
  · go_wp2
    go_end0
    exact ⟨rfl, HE2.out _ k0⟩
  · go_wp2_with (go_at_call 84; refine (HCU.out _ k0).mono ?_; rintro e w5 ⟨rfl, r5⟩; have R5 := hid (HE1.out _ _ k0 r5); clear r5)
    go_end0
    exact ⟨rfl, R5.out⟩
end
end Go.Proofs.YtpihhlllembdeaaGreat
