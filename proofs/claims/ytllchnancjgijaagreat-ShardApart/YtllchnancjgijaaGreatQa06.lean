/- The contracts of mayBegin, Begin, New, and that a run is begun. -/
import Derived.Test.YtllchnancjgijaaGreatQa05
import Derived.Test.YtllchnancjgijaaGreatQa04
import Derived.Test.YtllchnancjgijaaGreatProg
import Derived.Shelf.SlicesG.SearchI
import Derived.Test.YtllchnancjgijaaGreatQa01
set_option linter.unusedVariables false
set_option linter.unusedSimpArgs false
set_option maxRecDepth 100000
namespace Go.Proofs.YtllchnancjgijaaGreat.Ta
open Go.RowKit Go.Maps Go.ChangeMaps
section
variable (w : World) (t : Nat) (F : List Nat) (T : Tb) (N : Nat)
set_option maxHeartbeats 4000000 in
set_option maxRecDepth 100000 in
theorem mayT (h : Tq w t F T N) (k : K) (hk : Ok k) (x : Int) (rf : Bool) : Calls Tryz.prog 135 #[PT t, kv k, .int .i64 x, .bool rf] w fun e w' => e = .returned (.int .i64 (tBegE T k x rf)) ∧ Touch [] w w' := by
 obtain ⟨W, hW⟩ : ∃ W, W = w.alloc (bxK k) := ⟨_, rfl⟩
 have t0 : Touch [] w W := by rw [hW]; exact (Touch.refl _ _).alloc _
 have h1 := h.keep0 t0
 have HC := hid (fCheck W k hk)
 have hb : W.heap[w.heap.size]? = some (.cells #[.int .u16 k.1, .string k.2] 35 (0, 0)) := by rw [hW]; exact heap_alloc_new w _
 have HB : Hid (∀ w2, Touch [] W w2 → w2.cell? ⟨w.heap.size, 0, none⟩ = some (.int .u16 k.1) ∧ w2.cell? ⟨w.heap.size, 1, none⟩ = some (.string k.2)) := fun w2 T' => by
  have q := T'.keep hb (by simp)
  exact ⟨cell_at q rfl, cell_at q rfl⟩
 obtain ⟨p, c, g, nc, ng, Ps, hFe, hT, hL⟩ := h1
 have HC0 : Hid (∀ w2, Touch [] W w2 → w2.cell? ⟨t, 0, none⟩ = some (.int .i64 T.fl)) := fun w2 T' => (hT.keep0 T').cs.c0
 have HC2 : Hid (∀ w2, Touch [] W w2 → w2.cell? ⟨t, 2, none⟩ = some (.map (some p))) := fun w2 T' => (hT.keep0 T').cs.c2
 have HC3 : Hid (∀ w2, Touch [] W w2 → w2.cell? ⟨t, 3, none⟩ = some (.map (some c))) := fun w2 T' => (hT.keep0 T').cs.c3
 have HLK : Hid (∀ w2, Touch [] W w2 → (Instr.lookup 202 (.map (some c)) (.agg #[.int .u16 k.1, .string k.2]) true).run Tryz.prog w2 = .ok (.tuple #[.int .i64 (((curOf T k).map Rn.run).getD 0), .bool (curOf T k).isSome]) w2) := fun w2 T' => (hT.keep0 T').lookCok hk
 have HLN : Hid (∀ w2, Touch [] W w2 → (Builtin.len_ #[201] 3 #[.map (some p)]).run Tryz.prog w2 = .ok (.int .i64 (T.rs.length : Nat)) w2) := fun w2 T' => (hT.keep0 T').lenP 3
 obtain ⟨b0, b1⟩ := HB.out W (Touch.refl _ _)
 have H0 := hid t0
 unfold tBegE tForE at *
 clear h hT hL hFe hb t0
 unfold bxK at hW
 unfold kv PT at *
 cases hm : mayK k with
 | false =>
  rw [hm] at HC
  simp only [Bool.false_eq_true, if_false, Bool.not_false, if_true] at HC ⊢
  clear hm
  go_enter Tryz.func135, Tryz.ntmps135
  go_upto_region 1 with fail
  rw [← hW]
  clear hW
  go_wp2_with (go_at_call 85; refine HC.out.mono ?_; rintro e w2 ⟨rfl, t2⟩; have T2 := hid t2; clear t2)
  go_ret
  exact ⟨rfl, H0.out.trans' T2.out⟩
 | true =>
  rw [hm] at HC
  simp only [if_true, Bool.not_true, Bool.false_eq_true, if_false] at HC ⊢
  clear hm
  generalize ((curOf T k).map Rn.run).getD 0 = v at *
  generalize ((T.rs.length : Nat) : Int) = L at *
  generalize T.fl = fl at *
  generalize (curOf T k).isSome = has at *
  cases rf with
  | true =>
   unfold badC
   simp only [if_true]
   by_cases hx : x = 0
   ·subst hx
    simp only [ne_eq, not_true, decide_false, Bool.false_eq_true, if_false]
    cases has with
    | true =>
     simp only [if_true]
     go_enter Tryz.func135, Tryz.ntmps135
     go_upto_region 1 with fail
     rw [← hW]
     clear hW
     go_wp2_with (go_at_call 85; refine HC.out.mono ?_; rintro e w2 ⟨rfl, t2⟩; clear b0 b1; obtain ⟨b0, b1⟩ := HB.out w2 t2; have c3 := HC3.out w2 t2; have hl := fun n => HLK.out _ (t2.drewN n); have T2 := hid t2; clear t2)
     go_quiet (fail)
     go_wp2
     go_ret
     exact ⟨rfl, (H0.out.trans' T2.out).drewN _⟩
    | false =>
     simp only [Bool.false_eq_true, if_false]
     by_cases hq : fl ≤ L
     ·rw [if_pos hq]
      go_enter Tryz.func135, Tryz.ntmps135
      go_upto_region 1 with fail
      rw [← hW]
      clear hW
      go_wp2_with (go_at_call 85; refine HC.out.mono ?_; rintro e w2 ⟨rfl, t2⟩; clear b0 b1; obtain ⟨b0, b1⟩ := HB.out w2 t2; have c3 := HC3.out w2 t2; have hl := fun n => HLK.out _ (t2.drewN n); have T2 := hid t2; clear t2)
      go_quiet (fail)
      go_wp2
      have C0 := HC0.out
      have C2 := HC2.out
      have LN := HLN.out
      have k9 : Touch [] W (w2.drewN nq) := T2.out.drewN _
      clear hl
      generalize w2.drewN nq = w3 at *
      have k0 : Touch [] W w3.drew := k9.drew
      refine wp_region_H (S := fun w' => Touch [] W w') (by kernel_rfl) ?_
      refine wpH_take (i := 0) (v := (.pointer (some ⟨t, 0, none⟩))) (some 41) rfl rfl (by kernel_rfl) (by kernel_rfl) (by kernel_rfl) (fun _ _ _ h => h) (Or.inl ⟨by rfl, fun w' hS => (by go_simp)⟩) k0 ?_
      try simp only [Go.Act.put, Zx, Zy, Zz]
      refine wpH_take (i := 1) (v := (.pointer (some ⟨t, 0, none⟩))) (some 42) rfl rfl (by kernel_rfl) (by kernel_rfl) (by kernel_rfl) (fun _ _ _ h => h) (Or.inl ⟨by rfl, fun w' hS => (by go_simp)⟩) k0 ?_
      try simp only [Go.Act.put, Zx, Zy, Zz]
      refine wpH_take (i := 2) (v := (.pointer (some ⟨t, 2, none⟩))) (some 43) rfl rfl (by kernel_rfl) (by kernel_rfl) (by kernel_rfl) (fun _ _ _ h => h) (Or.inl ⟨by rfl, fun w' hS => (by go_simp)⟩) k0 ?_
      try simp only [Go.Act.put, Zx, Zy, Zz]
      refine wpH_take (i := 3) (v := (.map (some p))) (some 44) rfl rfl (by kernel_rfl) (by kernel_rfl) (by kernel_rfl) (fun _ _ _ h => h) (Or.inl ⟨by rfl, fun w' hS => (by have z0 := C2 _ hS; go_simp)⟩) k0 ?_
      try simp only [Go.Act.put, Zx, Zy, Zz]
      refine wpH_take (i := 5) (v := (.pointer (some ⟨t, 0, none⟩))) (some 46) rfl rfl (by kernel_rfl) (by kernel_rfl) (by kernel_rfl) (fun _ _ _ h => h) (Or.inl ⟨by rfl, fun w' hS => (by go_simp)⟩) k0 ?_
      try simp only [Go.Act.put, Zx, Zy, Zz]
      refine wpH_take (i := 6) (v := (.pointer (some ⟨t, 0, none⟩))) (some 47) rfl rfl (by kernel_rfl) (by kernel_rfl) (by kernel_rfl) (fun _ _ _ h => h) (Or.inl ⟨by rfl, fun w' hS => (by go_simp)⟩) k0 ?_
      try simp only [Go.Act.put, Zx, Zy, Zz]
      refine wpH_take (i := 7) (v := (.pointer (some ⟨t, 0, none⟩))) (some 48) rfl rfl (by kernel_rfl) (by kernel_rfl) (by kernel_rfl) (fun _ _ _ h => h) (Or.inl ⟨by rfl, fun w' hS => (by go_simp)⟩) k0 ?_
      try simp only [Go.Act.put, Zx, Zy, Zz]
      refine wpH_take (i := 8) (v := (.int .i64 fl)) (some 49) rfl rfl (by kernel_rfl) (by kernel_rfl) (by kernel_rfl) (fun _ _ _ h => h) (Or.inl ⟨by rfl, fun w' hS => (by have z0 := C0 _ hS; go_simp)⟩) k0 ?_
      try simp only [Go.Act.put, Zx, Zy, Zz]
      refine wpH_call (i := 4) (o := { dst := some 45, op := Op.call { callee := Callee.builtin Builtin.len, args := #[Operand.tmp 44], argTypes := #[201] }, type := 3, pos := _, after := #[{ on := 3, ground := Ground.data }], guard := none }) (by kernel_rfl) rfl (fun K' hK => ?_)
      rw [if_pos (by rfl)]
      have z0 := LN _ k0
      go_simp
      refine hK.out _ _ k0 ?_
      clear hK
      try simp only [Go.Act.put, Zx, Zy, Zz]
      refine wpH_take (i := 9) (v := (.bool true)) (some 50) rfl rfl (by kernel_rfl) (by kernel_rfl) (by kernel_rfl) (fun _ _ _ h => h) (Or.inl ⟨by rfl, fun w' hS => (by go_simp)⟩) k0 ?_
      try simp only [Go.Act.put, Zx, Zy, Zz]
      refine wpH_take (i := 10) (v := (.bool true)) (some 40) rfl rfl (by kernel_rfl) (by kernel_rfl) (by kernel_rfl) (fun _ _ _ h => h) (Or.inl ⟨by rfl, fun w' hS => (by go_simp)⟩) k0 ?_
      try simp only [Go.Act.put, Zx, Zy, Zz]
      refine wpAnyH_done (by kernel_rfl) ?_ _
      go_wp2
      go_ret
      exact ⟨rfl, H0.out.trans' k0⟩
     ·rw [if_neg hq]
      go_enter Tryz.func135, Tryz.ntmps135
      go_upto_region 1 with fail
      rw [← hW]
      clear hW
      go_wp2_with (go_at_call 85; refine HC.out.mono ?_; rintro e w2 ⟨rfl, t2⟩; clear b0 b1; obtain ⟨b0, b1⟩ := HB.out w2 t2; have c3 := HC3.out w2 t2; have hl := fun n => HLK.out _ (t2.drewN n); have T2 := hid t2; clear t2)
      go_quiet (fail)
      go_wp2
      have C0 := HC0.out
      have C2 := HC2.out
      have LN := HLN.out
      have k9 : Touch [] W (w2.drewN nq) := T2.out.drewN _
      clear hl
      generalize w2.drewN nq = w3 at *
      have k0 : Touch [] W w3.drew := k9.drew
      refine wp_region_H (S := fun w' => Touch [] W w') (by kernel_rfl) ?_
      refine wpH_take (i := 0) (v := (.pointer (some ⟨t, 0, none⟩))) (some 41) rfl rfl (by kernel_rfl) (by kernel_rfl) (by kernel_rfl) (fun _ _ _ h => h) (Or.inl ⟨by rfl, fun w' hS => (by go_simp)⟩) k0 ?_
      try simp only [Go.Act.put, Zx, Zy, Zz]
      refine wpH_take (i := 1) (v := (.pointer (some ⟨t, 0, none⟩))) (some 42) rfl rfl (by kernel_rfl) (by kernel_rfl) (by kernel_rfl) (fun _ _ _ h => h) (Or.inl ⟨by rfl, fun w' hS => (by go_simp)⟩) k0 ?_
      try simp only [Go.Act.put, Zx, Zy, Zz]
      refine wpH_take (i := 2) (v := (.pointer (some ⟨t, 2, none⟩))) (some 43) rfl rfl (by kernel_rfl) (by kernel_rfl) (by kernel_rfl) (fun _ _ _ h => h) (Or.inl ⟨by rfl, fun w' hS => (by go_simp)⟩) k0 ?_
      try simp only [Go.Act.put, Zx, Zy, Zz]
      refine wpH_take (i := 3) (v := (.map (some p))) (some 44) rfl rfl (by kernel_rfl) (by kernel_rfl) (by kernel_rfl) (fun _ _ _ h => h) (Or.inl ⟨by rfl, fun w' hS => (by have z0 := C2 _ hS; go_simp)⟩) k0 ?_
      try simp only [Go.Act.put, Zx, Zy, Zz]
      refine wpH_take (i := 5) (v := (.pointer (some ⟨t, 0, none⟩))) (some 46) rfl rfl (by kernel_rfl) (by kernel_rfl) (by kernel_rfl) (fun _ _ _ h => h) (Or.inl ⟨by rfl, fun w' hS => (by go_simp)⟩) k0 ?_
      try simp only [Go.Act.put, Zx, Zy, Zz]
      refine wpH_take (i := 6) (v := (.pointer (some ⟨t, 0, none⟩))) (some 47) rfl rfl (by kernel_rfl) (by kernel_rfl) (by kernel_rfl) (fun _ _ _ h => h) (Or.inl ⟨by rfl, fun w' hS => (by go_simp)⟩) k0 ?_
      try simp only [Go.Act.put, Zx, Zy, Zz]
      refine wpH_take (i := 7) (v := (.pointer (some ⟨t, 0, none⟩))) (some 48) rfl rfl (by kernel_rfl) (by kernel_rfl) (by kernel_rfl) (fun _ _ _ h => h) (Or.inl ⟨by rfl, fun w' hS => (by go_simp)⟩) k0 ?_
      try simp only [Go.Act.put, Zx, Zy, Zz]
      refine wpH_take (i := 8) (v := (.int .i64 fl)) (some 49) rfl rfl (by kernel_rfl) (by kernel_rfl) (by kernel_rfl) (fun _ _ _ h => h) (Or.inl ⟨by rfl, fun w' hS => (by have z0 := C0 _ hS; go_simp)⟩) k0 ?_
      try simp only [Go.Act.put, Zx, Zy, Zz]
      refine wpH_call (i := 4) (o := { dst := some 45, op := Op.call { callee := Callee.builtin Builtin.len, args := #[Operand.tmp 44], argTypes := #[201] }, type := 3, pos := _, after := #[{ on := 3, ground := Ground.data }], guard := none }) (by kernel_rfl) rfl (fun K' hK => ?_)
      rw [if_pos (by rfl)]
      have z0 := LN _ k0
      go_simp
      refine hK.out _ _ k0 ?_
      clear hK
      try simp only [Go.Act.put, Zx, Zy, Zz]
      refine wpH_take (i := 9) (v := (.bool false)) (some 50) rfl rfl (by kernel_rfl) (by kernel_rfl) (by kernel_rfl) (fun _ _ _ h => h) (Or.inl ⟨by rfl, fun w' hS => (by go_simp)⟩) k0 ?_
      try simp only [Go.Act.put, Zx, Zy, Zz]
      refine wpH_take (i := 10) (v := (.bool false)) (some 40) rfl rfl (by kernel_rfl) (by kernel_rfl) (by kernel_rfl) (fun _ _ _ h => h) (Or.inl ⟨by rfl, fun w' hS => (by go_simp)⟩) k0 ?_
      try simp only [Go.Act.put, Zx, Zy, Zz]
      refine wpAnyH_done (by kernel_rfl) ?_ _
      go_wp2
      go_ret
      exact ⟨rfl, H0.out.trans' k0⟩
   ·have hx' : (x != 0) = true := by simp [hx]
    rw [show decide (x ≠ 0) = true by simp [hx], if_pos rfl]
    clear hx
    go_enter Tryz.func135, Tryz.ntmps135
    go_upto_region 1 with fail
    rw [← hW]
    clear hW
    go_wp2_with (go_at_call 85; refine HC.out.mono ?_; rintro e w2 ⟨rfl, t2⟩; clear b0 b1; obtain ⟨b0, b1⟩ := HB.out w2 t2; have c3 := HC3.out w2 t2; have hl := fun n => HLK.out _ (t2.drewN n); have T2 := hid t2; clear t2)
    go_quiet (fail)
    go_wp2
    go_ret
    exact ⟨rfl, (H0.out.trans' T2.out).drewN _⟩
  | false =>
   unfold badC
   simp only [Bool.false_eq_true, if_false]
   by_cases hx : x < 1
   ·rw [show decide (x < 1) = true by simp [hx], if_pos rfl]
    go_enter Tryz.func135, Tryz.ntmps135
    go_upto_region 1 with fail
    rw [← hW]
    clear hW
    go_wp2_with (go_at_call 85; refine HC.out.mono ?_; rintro e w2 ⟨rfl, t2⟩; clear b0 b1; obtain ⟨b0, b1⟩ := HB.out w2 t2; have c3 := HC3.out w2 t2; have hl := fun n => HLK.out _ (t2.drewN n); have T2 := hid t2; clear t2)
    go_quiet (fail)
    go_wp2
    go_ret
    exact ⟨rfl, (H0.out.trans' T2.out).drewN _⟩
   ·rw [show decide (x < 1) = false by simp [hx], if_neg (by simp)]
    cases has with
    | true =>
     simp only [if_true]
     go_enter Tryz.func135, Tryz.ntmps135
     go_upto_region 1 with fail
     rw [← hW]
     clear hW
     go_wp2_with (go_at_call 85; refine HC.out.mono ?_; rintro e w2 ⟨rfl, t2⟩; clear b0 b1; obtain ⟨b0, b1⟩ := HB.out w2 t2; have c3 := HC3.out w2 t2; have hl := fun n => HLK.out _ (t2.drewN n); have T2 := hid t2; clear t2)
     go_quiet (fail)
     go_wp2
     go_ret
     exact ⟨rfl, (H0.out.trans' T2.out).drewN _⟩
    | false =>
     simp only [Bool.false_eq_true, if_false]
     by_cases hq : fl ≤ L
     ·rw [if_pos hq]
      go_enter Tryz.func135, Tryz.ntmps135
      go_upto_region 1 with fail
      rw [← hW]
      clear hW
      go_wp2_with (go_at_call 85; refine HC.out.mono ?_; rintro e w2 ⟨rfl, t2⟩; clear b0 b1; obtain ⟨b0, b1⟩ := HB.out w2 t2; have c3 := HC3.out w2 t2; have hl := fun n => HLK.out _ (t2.drewN n); have T2 := hid t2; clear t2)
      go_quiet (fail)
      go_wp2
      have C0 := HC0.out
      have C2 := HC2.out
      have LN := HLN.out
      have k9 : Touch [] W (w2.drewN nq) := T2.out.drewN _
      clear hl
      generalize w2.drewN nq = w3 at *
      have k0 : Touch [] W w3.drew := k9.drew
      refine wp_region_H (S := fun w' => Touch [] W w') (by kernel_rfl) ?_
      refine wpH_take (i := 0) (v := (.pointer (some ⟨t, 0, none⟩))) (some 41) rfl rfl (by kernel_rfl) (by kernel_rfl) (by kernel_rfl) (fun _ _ _ h => h) (Or.inl ⟨by rfl, fun w' hS => (by go_simp)⟩) k0 ?_
      try simp only [Go.Act.put, Zx, Zy, Zz]
      refine wpH_take (i := 1) (v := (.pointer (some ⟨t, 0, none⟩))) (some 42) rfl rfl (by kernel_rfl) (by kernel_rfl) (by kernel_rfl) (fun _ _ _ h => h) (Or.inl ⟨by rfl, fun w' hS => (by go_simp)⟩) k0 ?_
      try simp only [Go.Act.put, Zx, Zy, Zz]
      refine wpH_take (i := 2) (v := (.pointer (some ⟨t, 2, none⟩))) (some 43) rfl rfl (by kernel_rfl) (by kernel_rfl) (by kernel_rfl) (fun _ _ _ h => h) (Or.inl ⟨by rfl, fun w' hS => (by go_simp)⟩) k0 ?_
      try simp only [Go.Act.put, Zx, Zy, Zz]
      refine wpH_take (i := 3) (v := (.map (some p))) (some 44) rfl rfl (by kernel_rfl) (by kernel_rfl) (by kernel_rfl) (fun _ _ _ h => h) (Or.inl ⟨by rfl, fun w' hS => (by have z0 := C2 _ hS; go_simp)⟩) k0 ?_
      try simp only [Go.Act.put, Zx, Zy, Zz]
      refine wpH_take (i := 5) (v := (.pointer (some ⟨t, 0, none⟩))) (some 46) rfl rfl (by kernel_rfl) (by kernel_rfl) (by kernel_rfl) (fun _ _ _ h => h) (Or.inl ⟨by rfl, fun w' hS => (by go_simp)⟩) k0 ?_
      try simp only [Go.Act.put, Zx, Zy, Zz]
      refine wpH_take (i := 6) (v := (.pointer (some ⟨t, 0, none⟩))) (some 47) rfl rfl (by kernel_rfl) (by kernel_rfl) (by kernel_rfl) (fun _ _ _ h => h) (Or.inl ⟨by rfl, fun w' hS => (by go_simp)⟩) k0 ?_
      try simp only [Go.Act.put, Zx, Zy, Zz]
      refine wpH_take (i := 7) (v := (.pointer (some ⟨t, 0, none⟩))) (some 48) rfl rfl (by kernel_rfl) (by kernel_rfl) (by kernel_rfl) (fun _ _ _ h => h) (Or.inl ⟨by rfl, fun w' hS => (by go_simp)⟩) k0 ?_
      try simp only [Go.Act.put, Zx, Zy, Zz]
      refine wpH_take (i := 8) (v := (.int .i64 fl)) (some 49) rfl rfl (by kernel_rfl) (by kernel_rfl) (by kernel_rfl) (fun _ _ _ h => h) (Or.inl ⟨by rfl, fun w' hS => (by have z0 := C0 _ hS; go_simp)⟩) k0 ?_
      try simp only [Go.Act.put, Zx, Zy, Zz]
      refine wpH_call (i := 4) (o := { dst := some 45, op := Op.call { callee := Callee.builtin Builtin.len, args := #[Operand.tmp 44], argTypes := #[201] }, type := 3, pos := _, after := #[{ on := 3, ground := Ground.data }], guard := none }) (by kernel_rfl) rfl (fun K' hK => ?_)
      rw [if_pos (by rfl)]
      have z0 := LN _ k0
      go_simp
      refine hK.out _ _ k0 ?_
      clear hK
      try simp only [Go.Act.put, Zx, Zy, Zz]
      refine wpH_take (i := 9) (v := (.bool true)) (some 50) rfl rfl (by kernel_rfl) (by kernel_rfl) (by kernel_rfl) (fun _ _ _ h => h) (Or.inl ⟨by rfl, fun w' hS => (by go_simp)⟩) k0 ?_
      try simp only [Go.Act.put, Zx, Zy, Zz]
      refine wpH_take (i := 10) (v := (.bool true)) (some 40) rfl rfl (by kernel_rfl) (by kernel_rfl) (by kernel_rfl) (fun _ _ _ h => h) (Or.inl ⟨by rfl, fun w' hS => (by go_simp)⟩) k0 ?_
      try simp only [Go.Act.put, Zx, Zy, Zz]
      refine wpAnyH_done (by kernel_rfl) ?_ _
      go_wp2
      go_ret
      exact ⟨rfl, H0.out.trans' k0⟩
     ·rw [if_neg hq]
      go_enter Tryz.func135, Tryz.ntmps135
      go_upto_region 1 with fail
      rw [← hW]
      clear hW
      go_wp2_with (go_at_call 85; refine HC.out.mono ?_; rintro e w2 ⟨rfl, t2⟩; clear b0 b1; obtain ⟨b0, b1⟩ := HB.out w2 t2; have c3 := HC3.out w2 t2; have hl := fun n => HLK.out _ (t2.drewN n); have T2 := hid t2; clear t2)
      go_quiet (fail)
      go_wp2
      have C0 := HC0.out
      have C2 := HC2.out
      have LN := HLN.out
      have k9 : Touch [] W (w2.drewN nq) := T2.out.drewN _
      clear hl
      generalize w2.drewN nq = w3 at *
      have k0 : Touch [] W w3.drew := k9.drew
      refine wp_region_H (S := fun w' => Touch [] W w') (by kernel_rfl) ?_
      refine wpH_take (i := 0) (v := (.pointer (some ⟨t, 0, none⟩))) (some 41) rfl rfl (by kernel_rfl) (by kernel_rfl) (by kernel_rfl) (fun _ _ _ h => h) (Or.inl ⟨by rfl, fun w' hS => (by go_simp)⟩) k0 ?_
      try simp only [Go.Act.put, Zx, Zy, Zz]
      refine wpH_take (i := 1) (v := (.pointer (some ⟨t, 0, none⟩))) (some 42) rfl rfl (by kernel_rfl) (by kernel_rfl) (by kernel_rfl) (fun _ _ _ h => h) (Or.inl ⟨by rfl, fun w' hS => (by go_simp)⟩) k0 ?_
      try simp only [Go.Act.put, Zx, Zy, Zz]
      refine wpH_take (i := 2) (v := (.pointer (some ⟨t, 2, none⟩))) (some 43) rfl rfl (by kernel_rfl) (by kernel_rfl) (by kernel_rfl) (fun _ _ _ h => h) (Or.inl ⟨by rfl, fun w' hS => (by go_simp)⟩) k0 ?_
      try simp only [Go.Act.put, Zx, Zy, Zz]
      refine wpH_take (i := 3) (v := (.map (some p))) (some 44) rfl rfl (by kernel_rfl) (by kernel_rfl) (by kernel_rfl) (fun _ _ _ h => h) (Or.inl ⟨by rfl, fun w' hS => (by have z0 := C2 _ hS; go_simp)⟩) k0 ?_
      try simp only [Go.Act.put, Zx, Zy, Zz]
      refine wpH_take (i := 5) (v := (.pointer (some ⟨t, 0, none⟩))) (some 46) rfl rfl (by kernel_rfl) (by kernel_rfl) (by kernel_rfl) (fun _ _ _ h => h) (Or.inl ⟨by rfl, fun w' hS => (by go_simp)⟩) k0 ?_
      try simp only [Go.Act.put, Zx, Zy, Zz]
      refine wpH_take (i := 6) (v := (.pointer (some ⟨t, 0, none⟩))) (some 47) rfl rfl (by kernel_rfl) (by kernel_rfl) (by kernel_rfl) (fun _ _ _ h => h) (Or.inl ⟨by rfl, fun w' hS => (by go_simp)⟩) k0 ?_
      try simp only [Go.Act.put, Zx, Zy, Zz]
      refine wpH_take (i := 7) (v := (.pointer (some ⟨t, 0, none⟩))) (some 48) rfl rfl (by kernel_rfl) (by kernel_rfl) (by kernel_rfl) (fun _ _ _ h => h) (Or.inl ⟨by rfl, fun w' hS => (by go_simp)⟩) k0 ?_
      try simp only [Go.Act.put, Zx, Zy, Zz]
      refine wpH_take (i := 8) (v := (.int .i64 fl)) (some 49) rfl rfl (by kernel_rfl) (by kernel_rfl) (by kernel_rfl) (fun _ _ _ h => h) (Or.inl ⟨by rfl, fun w' hS => (by have z0 := C0 _ hS; go_simp)⟩) k0 ?_
      try simp only [Go.Act.put, Zx, Zy, Zz]
      refine wpH_call (i := 4) (o := { dst := some 45, op := Op.call { callee := Callee.builtin Builtin.len, args := #[Operand.tmp 44], argTypes := #[201] }, type := 3, pos := _, after := #[{ on := 3, ground := Ground.data }], guard := none }) (by kernel_rfl) rfl (fun K' hK => ?_)
      rw [if_pos (by rfl)]
      have z0 := LN _ k0
      go_simp
      refine hK.out _ _ k0 ?_
      clear hK
      try simp only [Go.Act.put, Zx, Zy, Zz]
      refine wpH_take (i := 9) (v := (.bool false)) (some 50) rfl rfl (by kernel_rfl) (by kernel_rfl) (by kernel_rfl) (fun _ _ _ h => h) (Or.inl ⟨by rfl, fun w' hS => (by go_simp)⟩) k0 ?_
      try simp only [Go.Act.put, Zx, Zy, Zz]
      refine wpH_take (i := 10) (v := (.bool false)) (some 40) rfl rfl (by kernel_rfl) (by kernel_rfl) (by kernel_rfl) (fun _ _ _ h => h) (Or.inl ⟨by rfl, fun w' hS => (by go_simp)⟩) k0 ?_
      try simp only [Go.Act.put, Zx, Zy, Zz]
      refine wpAnyH_done (by kernel_rfl) ?_ _
      go_wp2
      go_ret
      exact ⟨rfl, H0.out.trans' k0⟩
end
section
variable {w w' : World} {t p c : Nat} {g : Option Nat} {nc ng : Nat} {Ps : List Rb} {T : Tb} {N : Nat} {k : K} {x : Int} {rf : Bool}
theorem ptr_new {q : Rb} (h : ∀ a ∈ Ps, a.R.run ≠ q.R.run) (n : Int) : kupd (ptr Ps) q.R.run (PT q.b) n = ptr (Ps ++ [q]) n := by
 unfold kupd
 split
 ·rename_i e
  rw [e]
  exact (ptr_mid (B := []) h).symm
 ·rename_i e
  unfold ptr
  rw [List.find?_append, List.find?_cons_of_neg (by simp; exact fun e' => e e'.symm)]
  simp
theorem Tm.begun {W9 : World} {nc' b : Nat} {F' : List Nat} (h : Tm w t p c g nc ng Ps T N) (hk : Ok k) (hx : W64 x) (T9 : Touch [t, p, c] w W9) (bl : W9.heap[t]? = some (.cells #[.int .i64 T.fl, .int .i64 (T.bg + 1), .map (some p), .map (some c), .map g] 204 (0, 0)))
  (m1 : MapK KI W9 p (Ps.length + 1) (kupd (ptr Ps) (T.bg + 1) (PT b))) (m2 : MapK KC W9 c nc' (kupd (curV T) k (.int .i64 (T.bg + 1)))) (hnc : nc' ≤ N + 1) (rq : Rq w b F' (tBegR T k rf) (S0 (tBegR T k rf) x) 1) (hf : ∀ d, d ∈ F' → ¬ d ∈ fpT t p c g Ps) (E : tBegE T k x rf = 0) :
  Tm W9 t p c g nc' ng (Ps ++ [⟨tBegR T k rf, S0 (tBegR T k rf) x, b, F'⟩]) (tBeg T k x rf) (N + 1) := by
 obtain ⟨e1, e2, e3, e4⟩ := tBegE_zero E
 have eT : tBeg T k x rf = { T with bg := T.bg + 1, rs := T.rs ++ [(tBegR T k rf, S0 (tBegR T k rf) x)] } := by unfold tBeg; rw [if_pos E]
 have hnew : ∀ a ∈ Ps, a.R.run ≠ T.bg + 1 := fun a ha => by
  have := (h.iv.rng (a.R, a.S) (by rw [h.rs]; exact List.mem_map.2 ⟨a, ha, rfl⟩)).2
  simp only at this
  omega
 have hiv := h.iv.begin_ (rf := rf) hk hx
 have hms : ∀ q, q ∈ Ps ++ [(⟨tBegR T k rf, S0 (tBegR T k rf) x, b, F'⟩ : Rb)] → q ∈ Ps ∨ q = ⟨tBegR T k rf, S0 (tBegR T k rf) x, b, F'⟩ := fun q hq => by simpa using hq
 have h3 : ∀ d, d ∈ [t, p, c] → d ∈ fpT t p c g Ps := fun d hd => by
  simp only [List.mem_cons, List.not_mem_nil, or_false] at hd
  rcases hd with e | e | e
  ·exact mem_fpT.2 (Or.inl e)
  ·exact mem_fpT.2 (Or.inr (Or.inl e))
  ·exact mem_fpT.2 (Or.inr (Or.inr (Or.inl e)))
 refine ⟨?_, ?_, ?_, ?_, ?_, h.pc, h.gp, h.gc, hnc, Nat.le_succ_of_le h.lg, fun q hq => ?_, fun q hq d hd => ?_, ?_, hiv⟩
 ·rw [eT, h.rs]; simp [rsOf]
 ·rw [eT]; exact bl
 ·rw [List.length_append]
  exact m1.congr (fun n _ => ptr_new (q := ⟨tBegR T k rf, S0 (tBegR T k rf) x, b, F'⟩) hnew n)
 ·refine m2.congr (fun j _ => ?_)
  unfold kupd curV
  rw [curOf_app (T := T) (tBeg T k x rf) (tBegR T k rf) (S0 (tBegR T k rf) x) (by rw [eT]) (by rw [eT]) e3 rfl j]
  show (if j = k then _ else _) = Option.map _ (if j = k then _ else _)
  split <;> rfl
 ·have := h.gm.keep T9 (fun d hd e => ?_)
  ·rw [eT]; exact this
  ·simp only [List.mem_cons, List.not_mem_nil, or_false] at e
   rcases e with e | e | e
   ·exact h.tne.2.2 (by rw [hd, e])
   ·exact h.gp (by rw [hd, e])
   ·exact h.gc (by rw [hd, e])
 ·rcases hms q hq with e | e
  ·refine ((h.recs q e).keep T9 (fun d hd e' => ?_)).mono (Nat.le_succ N)
   have := h.far q e d hd
   simp only [List.mem_cons, List.not_mem_nil, or_false] at e'
   rcases e' with e' | e' | e'
   ·exact this.1 e'
   ·exact this.2.1 e'
   ·exact this.2.2.1 e'
  ·subst e
   exact (rq.keep T9 (fun d hd e' => hf d hd (h3 d e'))).mono (by omega)
 ·rcases hms q hq with e | e
  ·exact h.far q e d hd
  ·subst e
   have := hf d hd
   exact ⟨fun e => this (mem_fpT.2 (Or.inl e)), fun e => this (mem_fpT.2 (Or.inr (Or.inl e))), fun e => this (mem_fpT.2 (Or.inr (Or.inr (Or.inl e)))), fun e => this (mem_fpT.2 (Or.inr (Or.inr (Or.inr (Or.inl e)))))⟩
 ·refine List.pairwise_append.2 ⟨h.apart, by simp, fun a ha q hq d hd e => ?_⟩
  simp only [List.mem_singleton] at hq
  subst hq
  exact hf d e (mem_fpT.2 (Or.inr (Or.inr (Or.inr (Or.inr ⟨a, ha, hd⟩)))))
def BgS (t p c B : Nat) (k : K) (w' : World) : Prop := w'.cell? ⟨t, 2, none⟩ = some (.map (some p)) ∧ w'.cell? ⟨t, 3, none⟩ = some (.map (some c)) ∧ w'.cell? ⟨B, 0, none⟩ = some (.int .u16 k.1) ∧ w'.cell? ⟨B, 1, none⟩ = some (.string k.2)
structure BgW (w : World) (t p c B : Nat) (g : Option Nat) (Ps : List Rb) (T : Tb) (k : K) (N : Nat) (b : Nat) (W5 W6 W7 W8 W9 : World) (s1 s2 : Nat) (z1 z2 : Value) : Prop where
 e5 : W5 = (w.setCell ⟨t, 1, none⟩ (.int .i64 (T.bg + 1))).drew
 r6 : (Instr.mapEntry 201 (.map (some p)) (.int .i64 (T.bg + 1))).run Tryz.prog W5 = .ok (.tuple #[z1, .int .i64 (s1 : Nat)]) W6
 r7 : (Instr.entryStore 201 (.map (some p)) (.int .i64 (s1 : Nat)) (.pointer (some ⟨b, 0, none⟩))).run Tryz.prog W6 = .ok () W7
 r8 : (Instr.mapEntry 202 (.map (some c)) (.agg #[.int .u16 k.1, .string k.2])).run Tryz.prog W7 = .ok (.tuple #[z2, .int .i64 (s2 : Nat)]) W8
 r9 : (Instr.entryStore 202 (.map (some c)) (.int .i64 (s2 : Nat)) (.int .i64 (T.bg + 1))).run Tryz.prog W8 = .ok () W9
 q5 : BgS t p c B k W5
 q6 : BgS t p c B k W6
 q7 : BgS t p c B k W7
 q8 : BgS t p c B k W8
 tt : Touch [t, p, c] w W9
 bl : W9.heap[t]? = some (.cells #[.int .i64 T.fl, .int .i64 (T.bg + 1), .map (some p), .map (some c), .map g] 204 (0, 0))
 m1 : MapK KI W9 p (Ps.length + 1) (kupd (ptr Ps) (T.bg + 1) (PT b))
 m2 : ∃ nc', nc' ≤ N + 1 ∧ MapK KC W9 c nc' (kupd (curV T) k (.int .i64 (T.bg + 1)))
theorem setBlock_same {w : World} {b : Nat} {o : Obj} (h : b < w.heap.size) : (setBlock w b o).heap[b]? = some o := by
 simp only [setBlock, Array.getElem?_setIfInBounds, if_true, h]
theorem begin_writes (h : Tm w t p c g nc ng Ps T N) (hN : N ≤ 3000000000000) (hk : Ok k) (hc : curOf T k = none) (b B : Nat) (hB : w.heap[B]? = some (.cells #[.int .u16 k.1, .string k.2] 35 (0, 0))) (hBt : B ≠ t) : ∃ W5 W6 W7 W8 W9 s1 s2 z1 z2, BgW w t p c B g Ps T k N b W5 W6 W7 W8 W9 s1 s2 z1 z2 := by
 obtain ⟨n1, n2, n3⟩ := h.tne
 obtain ⟨ep, lp, kp⟩ := h.pm.kind
 obtain ⟨ec, lc, kc⟩ := h.cm.kind
 have nBp : B ≠ p := fun e => by rw [e, kp] at hB; cases hB
 have nBc : B ≠ c := fun e => by rw [e, kc] at hB; cases hB
 have hbg := h.iv.bg
 have hlen := h.iv.len
 have hfl := h.iv.fl
 have hlc := h.lc
 have hpl : Ps.length = T.rs.length := by rw [h.rs]; simp [rsOf]
 have hnew : ptr Ps (T.bg + 1) = none := ptr_none (fun a ha => by
  have := (h.iv.rng (a.R, a.S) (by rw [h.rs]; exact List.mem_map.2 ⟨a, ha, rfl⟩)).2
  simp only at this
  omega)
 have hcv : curV T k = none := by unfold curV; rw [hc]; rfl
 have t5 : Touch [t] w ((w.setCell ⟨t, 1, none⟩ (.int .i64 (T.bg + 1))).drew) := ((Touch.refl _ _).setCell (Or.inl (by simp)) _).drew
 obtain ⟨W5, hW5⟩ : ∃ W5, W5 = (w.setCell ⟨t, 1, none⟩ (.int .i64 (T.bg + 1))).drew := ⟨_, rfl⟩
 have b5 : W5.heap[t]? = some (.cells #[.int .i64 T.fl, .int .i64 (T.bg + 1), .map (some p), .map (some c), .map g] 204 (0, 0)) := by
  rw [hW5]
  have := bset (i := 1) h.bl (.int .i64 (T.bg + 1))
  exact this
 rw [← hW5] at t5
 have p5 := h.pm.keep t5 (by simp; exact Ne.symm n1)
 obtain ⟨s1, o6, r6, m6, f6⟩ := p5.entry (t := 201) Tryz.underlying201 (by unfold maxLen; omega) zeroP (k := T.bg + 1) (W64.mk (by omega) (by omega))
 have t6 : Touch [p] W5 (setBlock W5 p o6) := touch_setBlock (Touch.refl _ _) (Or.inl (by simp)) o6
 obtain ⟨o7, r7, m7⟩ := f6 (setBlock W5 p o6) (PT b) (setBlock_same p5.lt)
 obtain ⟨W6, hW6⟩ : ∃ W6, W6 = setBlock W5 p o6 := ⟨_, rfl⟩
 rw [← hW6] at r6 m6 r7 m7 t6
 have t7 : Touch [p] W6 (setBlock W6 p o7) := touch_setBlock (Touch.refl _ _) (Or.inl (by simp)) o7
 obtain ⟨W7, hW7⟩ : ∃ W7, W7 = setBlock W6 p o7 := ⟨_, rfl⟩
 rw [← hW7] at r7 m7 t7
 have t57 : Touch [p] W5 W7 := t6.trans t7 (fun i hi => Or.inl hi)
 have c7 := (h.cm.keep t5 (by simp; exact Ne.symm n2)).keep t57 (by simp; exact Ne.symm h.pc)
 obtain ⟨s2, o8, r8, m8, f8⟩ := c7.entry (t := 202) Tryz.underlying202 (by unfold maxLen; omega) zero3 hk
 obtain ⟨o9, r9, m9⟩ := f8 (setBlock W7 c o8) (.int .i64 (T.bg + 1)) (setBlock_same c7.lt)
 have t8 : Touch [c] W7 (setBlock W7 c o8) := touch_setBlock (Touch.refl _ _) (Or.inl (by simp)) o8
 obtain ⟨W8, hW8⟩ : ∃ W8, W8 = setBlock W7 c o8 := ⟨_, rfl⟩
 rw [← hW8] at r8 m8 r9 m9 t8
 have t9 : Touch [c] W8 (setBlock W8 c o9) := touch_setBlock (Touch.refl _ _) (Or.inl (by simp)) o9
 obtain ⟨W9, hW9⟩ : ∃ W9, W9 = setBlock W8 c o9 := ⟨_, rfl⟩
 rw [← hW9] at r9 m9 t9
 rw [hnew] at m7
 rw [hcv] at m9
 simp only [Option.isSome_none, Bool.false_eq_true, if_false] at m7 m9
 have t79 : Touch [c] W7 W9 := t8.trans t9 (fun i hi => Or.inl hi)
 have key : ∀ (G : List Nat) (w' : World), Touch G W5 w' → ¬ t ∈ G → ¬ B ∈ G → BgS t p c B k w' := fun G w' T' g1 g2 => by
  have q1 := T'.keep b5 g1
  have q2 := T'.keep (t5.keep hB (by simp; exact hBt)) g2
  exact ⟨cell_at q1 rfl, cell_at q1 rfl, cell_at q2 rfl, cell_at q2 rfl⟩
 have t58 : Touch [p, c] W5 W8 := (t57.mono (by simp)).trans (t8.mono (by simp)) (fun i hi => Or.inl hi)
 have t59 : Touch [p, c] W5 W9 := (t57.mono (by simp)).trans (t79.mono (by simp)) (fun i hi => Or.inl hi)
 refine ⟨W5, W6, W7, W8, W9, s1, s2, _, _, ⟨hW5, r6, r7, r8, r9, key [] W5 (Touch.refl _ _) (by simp) (by simp), key _ _ t6 (by simp; exact n1) (by simp; exact nBp), key _ _ t57 (by simp; exact n1) (by simp; exact nBp), key _ _ t58 (by simp; exact ⟨n1, n2⟩) (by simp; exact ⟨nBp, nBc⟩), ?_, t59.keep b5 (by simp; exact ⟨n1, n2⟩), m7.keep t79 (by simp; exact h.pc), _, by omega, m9⟩⟩
 exact (t5.mono (by simp)).trans (t59.mono (by simp)) (fun i hi => Or.inl hi)
end
section
variable (w : World) (t : Nat) (F : List Nat) (T : Tb) (N : Nat)
set_option maxHeartbeats 4000000 in
set_option maxRecDepth 100000 in
theorem beginT (h : Tq w t F T N) (hN : N ≤ 3000000000000) (k : K) (hk : Ok k) (x : Int) (hx : W64 x) (rf : Bool) : Calls Tryz.prog 94 #[PT t, kv k, .int .i64 x, .bool rf] w fun e w' => e = .returned (.tuple #[.int .i64 (tBegN T k x rf), .int .i64 (tBegE T k x rf)]) ∧ TqE w w' t F (tBeg T k x rf) (N + 1) := by
 obtain ⟨W, hW⟩ : ∃ W, W = w.alloc (bxK k) := ⟨_, rfl⟩
 have t0 : Touch [] w W := by rw [hW]; exact (Touch.refl _ _).alloc _
 have hF := h.lt
 have h1 := h.keep0 t0
 have HM := hid (mayT W t F T N h1 k hk x rf)
 have hb : W.heap[w.heap.size]? = some (.cells #[.int .u16 k.1, .string k.2] 35 (0, 0)) := by rw [hW]; exact heap_alloc_new w _
 obtain ⟨b0, b1⟩ : W.cell? ⟨w.heap.size, 0, none⟩ = some (.int .u16 k.1) ∧ W.cell? ⟨w.heap.size, 1, none⟩ = some (.string k.2) := ⟨cell_at hb rfl, cell_at hb rfl⟩
 have H0 := hid t0
 by_cases hz : tBegE T k x rf = 0
 ·rw [hz] at HM
  have en : tBegN T k x rf = T.bg + 1 := by unfold tBegN; rw [if_pos hz]
  rw [en, hz]
  obtain ⟨-, hbad, hcur, -⟩ := tBegE_zero hz
  have hmay := begin_may (k := k) h.iv hbad
  have hbg := h.iv.bg
  obtain ⟨p, c, g, nc, ng, Ps, rfl, h, hL⟩ := h
  have hwr : IntKind.i64.wrap (T.bg + 1) = T.bg + 1 := by rw [IntKind.wrap_i64]; omega
  have hbt : w.heap.size ≠ t := fun e => by have := h.lt t (mem_fpT.2 (Or.inl rfl)); omega
  have HQ : Hid (∀ w2, Touch [] W w2 → w2.cell? ⟨t, 1, none⟩ = some (.int .i64 T.bg)) := fun w2 T' => ((h.keep0 t0).keep0 T').cs.c1
  have C4 : ∀ w2, Touch [] W w2 → w2.cell? ⟨t, 4, none⟩ = some (.map g) := fun w2 T' => ((h.keep0 t0).keep0 T').cs.c4
  have L0 : ∀ w2, Touch [] W w2 → (Instr.lookup 202 (.map g) (.agg #[.int .u16 k.1, .string k.2]) false).run Tryz.prog w2 = .ok (.int .i64 (T.gn k)) w2 := fun w2 T' => ((h.keep0 t0).keep0 T').lookG hk
  have K0 : ∀ w2, Touch [] W w2 → w2.cell? ⟨w.heap.size, 0, none⟩ = some (.int .u16 k.1) := fun w2 T' => cell_at (T'.keep hb (by simp)) rfl
  have K1 : ∀ w2, Touch [] W w2 → w2.cell? ⟨w.heap.size, 1, none⟩ = some (.string k.2) := fun w2 T' => cell_at (T'.keep hb (by simp)) rfl
  have HN : Hid (∀ w2, Touch [] W w2 → Calls Tryz.prog 136 #[rv (tBegR T k rf), .int .i64 x] w2 fun e w' => NwE e w2 w' (tBegR T k rf) x) := fun w2 T' => new5_ok w2 (tBegR T k rf) x hx hmay
  have HW : Hid (∀ w2 w4 b F', Touch [] W w2 → Touch [] w2 w4 → Rq w4 b F' (tBegR T k rf) (S0 (tBegR T k rf) x) 1 → (∀ d, d ∈ F' → w2.heap.size ≤ d) → ∃ W5 W6 W7 W8 W9 s1 s2 z1 z2, BgW w4 t p c w.heap.size g Ps T k N b W5 W6 W7 W8 W9 s1 s2 z1 z2 ∧ BgS t p c w.heap.size k w4.drew ∧ (w4.cell? ⟨t, 1, none⟩ = some (.int .i64 T.bg) ∧ w4.frozen? ⟨t, 1, none⟩ = false) ∧ TqE w W9 t (fpT t p c g Ps) (tBeg T k x rf) (N + 1)) := fun w2 w4 b F' T2 T4 rq hf => by
   have h4 := ((h.keep0 t0).keep0 T2).keep0 T4
   have hb4 := T4.keep (T2.keep hb (by simp)) (by simp)
   obtain ⟨W5, W6, W7, W8, W9, s1, s2, z1, z2, q⟩ := begin_writes h4 hN hk hcur b w.heap.size hb4 hbt
   obtain ⟨nc', e1, e2⟩ := q.m2
   have tw := (t0.trans' T2).trans' T4
   have zz := (t0.trans' T2).size
   have hfar : ∀ d, d ∈ F' → ¬ d ∈ fpT t p c g Ps := fun d hd e => by
    have := hF d e
    have := hf d hd
    omega
   have hm := h4.begun hk hx q.tt q.bl q.m1 e2 e1 rq hfar hz
   refine ⟨W5, W6, W7, W8, W9, s1, s2, z1, z2, q, ⟨h4.cs.c2, h4.cs.c3, cell_at hb4 rfl, cell_at hb4 rfl⟩, ⟨h4.cs.c1, h4.fz 1⟩, _, ⟨p, c, g, nc', ng, _, rfl, hm, hL.begin_ k x rf⟩, (tw.mono (fun _ e => by cases e)).trans q.tt (fun i hi => Or.inl ?_), fun d hd => ?_⟩
   ·simp only [List.mem_cons, List.not_mem_nil, or_false] at hi
    rcases hi with e | e | e
    ·exact mem_fpT.2 (Or.inl e)
    ·exact mem_fpT.2 (Or.inr (Or.inl e))
    ·exact mem_fpT.2 (Or.inr (Or.inr (Or.inl e)))
   ·rcases mem_fpT.1 hd with e | e | e | e | ⟨r, hr, e⟩
    ·exact Or.inl (mem_fpT.2 (Or.inl e))
    ·exact Or.inl (mem_fpT.2 (Or.inr (Or.inl e)))
    ·exact Or.inl (mem_fpT.2 (Or.inr (Or.inr (Or.inl e))))
    ·exact Or.inl (mem_fpT.2 (Or.inr (Or.inr (Or.inr (Or.inl e)))))
    ·rcases List.mem_append.1 hr with e' | e'
     ·exact Or.inl (mem_fpT.2 (Or.inr (Or.inr (Or.inr (Or.inr ⟨r, e', e⟩)))))
     ·simp only [List.mem_singleton] at e'
      subst e'
      have := hf d e
      exact Or.inr (by omega)
  clear h h1 hF hb hz en hbad hcur hmay hbg hL t0 hx hk hN
  unfold NwE at HN
  unfold rv tBegR at HN
  unfold bxK at hW
  unfold kv PT at *
  go_enter Tryz.func94, Tryz.ntmps94
  go_upto_region 1 with fail
  rw [← hW]
  clear hW
  go_wp2_with (go_at_call 135; refine HM.out.mono ?_; rintro e w2 ⟨rfl, t2⟩; have T2 := hid t2; have c1 := HQ.out w2 t2; clear t2 b0 b1)
  have k0 : Touch [] W w2.drew := T2.out.drew
  refine wp_region_H (S := fun w' => Touch [] W w') (by kernel_rfl) ?_
  refine wpH_take (i := 0) (v := (.int .i64 (T.bg + 1))) (some 30) rfl rfl (by kernel_rfl) (by kernel_rfl) (by kernel_rfl) (fun _ _ _ h => h) (Or.inl ⟨by rfl, fun w' hS => (by go_simp)⟩) k0 ?_
  try simp only [Go.Act.put, Zx, Zy, Zz]
  refine wpH_take (i := 1) (v := (.agg #[.int .u16 k.1, .string k.2])) (some 31) rfl rfl (by kernel_rfl) (by kernel_rfl) (by kernel_rfl) (fun _ _ _ h => h) (Or.inl ⟨by rfl, fun w' hS => (by have z0 := K0 _ hS; have z1 := K1 _ hS; go_simp)⟩) k0 ?_
  try simp only [Go.Act.put, Zx, Zy, Zz]
  refine wpH_take (i := 2) (v := (.pointer (some ⟨t, 0, none⟩))) (some 32) rfl rfl (by kernel_rfl) (by kernel_rfl) (by kernel_rfl) (fun _ _ _ h => h) (Or.inl ⟨by rfl, fun w' hS => (by go_simp)⟩) k0 ?_
  try simp only [Go.Act.put, Zx, Zy, Zz]
  refine wpH_take (i := 3) (v := (.pointer (some ⟨t, 0, none⟩))) (some 33) rfl rfl (by kernel_rfl) (by kernel_rfl) (by kernel_rfl) (fun _ _ _ h => h) (Or.inl ⟨by rfl, fun w' hS => (by go_simp)⟩) k0 ?_
  try simp only [Go.Act.put, Zx, Zy, Zz]
  refine wpH_take (i := 4) (v := (.pointer (some ⟨t, 4, none⟩))) (some 34) rfl rfl (by kernel_rfl) (by kernel_rfl) (by kernel_rfl) (fun _ _ _ h => h) (Or.inl ⟨by rfl, fun w' hS => (by go_simp)⟩) k0 ?_
  try simp only [Go.Act.put, Zx, Zy, Zz]
  refine wpH_take (i := 5) (v := (.map g)) (some 35) rfl rfl (by kernel_rfl) (by kernel_rfl) (by kernel_rfl) (fun _ _ _ h => h) (Or.inl ⟨by rfl, fun w' hS => (by have z0 := C4 _ hS; go_simp)⟩) k0 ?_
  try simp only [Go.Act.put, Zx, Zy, Zz]
  refine wpH_take (i := 6) (v := (.agg #[.int .u16 k.1, .string k.2])) (some 36) rfl rfl (by kernel_rfl) (by kernel_rfl) (by kernel_rfl) (fun _ _ _ h => h) (Or.inl ⟨by rfl, fun w' hS => (by have z0 := K0 _ hS; have z1 := K1 _ hS; go_simp)⟩) k0 ?_
  try simp only [Go.Act.put, Zx, Zy, Zz]
  refine wpH_take (i := 7) (v := (.int .i64 (T.gn k))) (some 37) rfl rfl (by kernel_rfl) (by kernel_rfl) (by kernel_rfl) (fun _ _ _ h => h) (Or.inl ⟨by rfl, fun w' hS => (by have z0 := L0 _ hS; go_simp)⟩) k0 ?_
  try simp only [Go.Act.put, Zx, Zy, Zz]
  refine wpH_take (i := 8) (v := (.bool rf)) (some 38) rfl rfl (by kernel_rfl) (by kernel_rfl) (by kernel_rfl) (fun _ _ _ h => h) (Or.inl ⟨by rfl, fun w' hS => (by go_simp)⟩) k0 ?_
  try simp only [Go.Act.put, Zx, Zy, Zz]
  refine wpH_take (i := 9) (v := (.agg #[.int .i64 (T.bg + 1), .int .u16 k.1, .string k.2, .int .i64 (T.gn k), .bool rf])) (some 39) rfl rfl (by kernel_rfl) (by kernel_rfl) (by kernel_rfl) (fun _ _ _ h => h) (Or.inl ⟨by rfl, fun w' hS => (by go_simp)⟩) k0 ?_
  try simp only [Go.Act.put, Zx, Zy, Zz]
  refine wpH_take (i := 10) (v := (.int .i64 x)) (some 40) rfl rfl (by kernel_rfl) (by kernel_rfl) (by kernel_rfl) (fun _ _ _ h => h) (Or.inl ⟨by rfl, fun w' hS => (by go_simp)⟩) k0 ?_
  try simp only [Go.Act.put, Zx, Zy, Zz]
  refine wpH_call (i := 11) (o := { dst := some 41, op := Op.call { callee := Callee.value (Operand.func 136), args := #[Operand.tmp 39, Operand.tmp 40], argTypes := #[49, 3] }, type := 243, pos := _, after := #[{ on := 9, ground := Ground.data }, { on := 10, ground := Ground.data }], guard := none }) (by kernel_rfl) rfl (fun K' hK => ?_)
  rw [if_pos (by rfl)]
  go_simp
  refine (HN.out _ k0).mono ?_
  rintro e' w4 ⟨b, F', rfl, r4, t4, f4⟩
  have k4 : Touch [] W w4 := k0.trans' t4
  refine hK.out _ _ k4 ?_
  clear hK
  try simp only [Go.Act.put, Zx, Zy, Zz]
  obtain ⟨W5, W6, W7, W8, W9, s1, s2, z1, z2, bw, s0, ⟨cc1, cf1⟩, hfin⟩ := HW.out _ w4 b F' k0 t4 r4 f4
  have HF := hid hfin
  obtain ⟨e5, r6, r7, r8, r9, q5, q6, q7, q8, -, -, -, -⟩ := bw
  clear r4 t4 f4 hfin
  refine wpH_take (i := 12) (v := (.tuple #[(.pointer (some ⟨b, 0, none⟩)), (.int .i64 0)])) (some 29) rfl rfl (by kernel_rfl) (by kernel_rfl) (by kernel_rfl) (fun _ _ _ h => h) (Or.inl ⟨by rfl, fun w' hS => (by go_simp)⟩) k4 ?_
  try simp only [Go.Act.put, Zx, Zy, Zz]
  refine wpH_take (i := 13) (v := (.pointer (some ⟨b, 0, none⟩))) (some 42) rfl rfl (by kernel_rfl) (by kernel_rfl) (by kernel_rfl) (fun _ _ _ h => h) (Or.inl ⟨by rfl, fun w' hS => (by go_simp)⟩) k4 ?_
  try simp only [Go.Act.put, Zx, Zy, Zz]
  refine wpH_take (i := 14) (v := (.int .i64 0)) (some 43) rfl rfl (by kernel_rfl) (by kernel_rfl) (by kernel_rfl) (fun _ _ _ h => h) (Or.inl ⟨by rfl, fun w' hS => (by go_simp)⟩) k4 ?_
  try simp only [Go.Act.put, Zx, Zy, Zz]
  refine wpH_take (i := 15) (v := (.pointer (some ⟨b, 0, none⟩))) (some 12) rfl rfl (by kernel_rfl) (by kernel_rfl) (by kernel_rfl) (fun _ _ _ h => h) (Or.inl ⟨by rfl, fun w' hS => (by go_simp)⟩) k4 ?_
  try simp only [Go.Act.put, Zx, Zy, Zz]
  refine wpH_take (i := 16) (v := (.int .i64 0)) (some 13) rfl rfl (by kernel_rfl) (by kernel_rfl) (by kernel_rfl) (fun _ _ _ h => h) (Or.inl ⟨by rfl, fun w' hS => (by go_simp)⟩) k4 ?_
  try simp only [Go.Act.put, Zx, Zy, Zz]
  refine wpAnyH_done (by kernel_rfl) ?_ _
  clear HN HW C4 L0 K0 K1
  go_upto_region 8 with fail
  have N2 : ∀ w', BgS t p c w.heap.size k w' → w'.cell? ⟨t, 2, none⟩ = some (.map (some p)) := fun w' q => q.1
  have N3 : ∀ w', BgS t p c w.heap.size k w' → w'.cell? ⟨t, 3, none⟩ = some (.map (some c)) := fun w' q => q.2.1
  have N0 : ∀ w', BgS t p c w.heap.size k w' → w'.cell? ⟨w.heap.size, 0, none⟩ = some (.int .u16 k.1) := fun w' q => q.2.2.1
  have N1 : ∀ w', BgS t p c w.heap.size k w' → w'.cell? ⟨w.heap.size, 1, none⟩ = some (.string k.2) := fun w' q => q.2.2.2
  refine wp_region_L (S := BgS t p c w.heap.size k) (st := 22) (by kernel_rfl) ?_
  refine wpL_take (i := 0) (v := (.pointer (some ⟨t, 0, none⟩))) (some 44) rfl rfl (by kernel_rfl) (by kernel_rfl) (by kernel_rfl) (by kernel_rfl) (by kernel_rfl) (by decide) (fun _ _ _ h => h) (Or.inl ⟨by rfl, fun w' hS => (by go_simp)⟩) s0 ?_
  try simp only [Go.Act.put, Zx, Zy, Zz]
  refine wpL_take (i := 1) (v := (.pointer (some ⟨t, 0, none⟩))) (some 45) rfl rfl (by kernel_rfl) (by kernel_rfl) (by kernel_rfl) (by kernel_rfl) (by kernel_rfl) (by decide) (fun _ _ _ h => h) (Or.inl ⟨by rfl, fun w' hS => (by go_simp)⟩) s0 ?_
  try simp only [Go.Act.put, Zx, Zy, Zz]
  refine wpL_take (i := 2) (v := (.pointer (some ⟨t, 0, none⟩))) (some 46) rfl rfl (by kernel_rfl) (by kernel_rfl) (by kernel_rfl) (by kernel_rfl) (by kernel_rfl) (by decide) (fun _ _ _ h => h) (Or.inl ⟨by rfl, fun w' hS => (by go_simp)⟩) s0 ?_
  try simp only [Go.Act.put, Zx, Zy, Zz]
  refine wpL_take (i := 3) (v := (.pointer (some ⟨t, 2, none⟩))) (some 47) rfl rfl (by kernel_rfl) (by kernel_rfl) (by kernel_rfl) (by kernel_rfl) (by kernel_rfl) (by decide) (fun _ _ _ h => h) (Or.inl ⟨by rfl, fun w' hS => (by go_simp)⟩) s0 ?_
  try simp only [Go.Act.put, Zx, Zy, Zz]
  refine wpL_take (i := 4) (v := (.map (some p))) (some 48) rfl rfl (by kernel_rfl) (by kernel_rfl) (by kernel_rfl) (by kernel_rfl) (by kernel_rfl) (by decide) (fun _ _ _ h => h) (Or.inl ⟨by rfl, fun w' hS => (by have z0 := N2 _ hS; go_simp)⟩) s0 ?_
  try simp only [Go.Act.put, Zx, Zy, Zz]
  refine wpL_take (i := 5) (v := (.int .i64 (T.bg + 1))) (some 49) rfl rfl (by kernel_rfl) (by kernel_rfl) (by kernel_rfl) (by kernel_rfl) (by kernel_rfl) (by decide) (fun _ _ _ h => h) (Or.inl ⟨by rfl, fun w' hS => (by go_simp)⟩) s0 ?_
  try simp only [Go.Act.put, Zx, Zy, Zz]
  refine wpL_take (i := 6) (v := (.pointer (some ⟨t, 0, none⟩))) (some 50) rfl rfl (by kernel_rfl) (by kernel_rfl) (by kernel_rfl) (by kernel_rfl) (by kernel_rfl) (by decide) (fun _ _ _ h => h) (Or.inl ⟨by rfl, fun w' hS => (by go_simp)⟩) s0 ?_
  try simp only [Go.Act.put, Zx, Zy, Zz]
  refine wpL_take (i := 7) (v := (.pointer (some ⟨t, 0, none⟩))) (some 51) rfl rfl (by kernel_rfl) (by kernel_rfl) (by kernel_rfl) (by kernel_rfl) (by kernel_rfl) (by decide) (fun _ _ _ h => h) (Or.inl ⟨by rfl, fun w' hS => (by go_simp)⟩) s0 ?_
  try simp only [Go.Act.put, Zx, Zy, Zz]
  refine wpL_take (i := 8) (v := (.pointer (some ⟨t, 3, none⟩))) (some 52) rfl rfl (by kernel_rfl) (by kernel_rfl) (by kernel_rfl) (by kernel_rfl) (by kernel_rfl) (by decide) (fun _ _ _ h => h) (Or.inl ⟨by rfl, fun w' hS => (by go_simp)⟩) s0 ?_
  try simp only [Go.Act.put, Zx, Zy, Zz]
  refine wpL_take (i := 9) (v := (.map (some c))) (some 53) rfl rfl (by kernel_rfl) (by kernel_rfl) (by kernel_rfl) (by kernel_rfl) (by kernel_rfl) (by decide) (fun _ _ _ h => h) (Or.inl ⟨by rfl, fun w' hS => (by have z0 := N3 _ hS; go_simp)⟩) s0 ?_
  try simp only [Go.Act.put, Zx, Zy, Zz]
  refine wpL_take (i := 10) (v := (.agg #[.int .u16 k.1, .string k.2])) (some 54) rfl rfl (by kernel_rfl) (by kernel_rfl) (by kernel_rfl) (by kernel_rfl) (by kernel_rfl) (by decide) (fun _ _ _ h => h) (Or.inl ⟨by rfl, fun w' hS => (by have z0 := N0 _ hS; have z1 := N1 _ hS; go_simp)⟩) s0 ?_
  try simp only [Go.Act.put, Zx, Zy, Zz]
  refine wpL_take (i := 11) (v := (.int .i64 (T.bg + 1))) (some 55) rfl rfl (by kernel_rfl) (by kernel_rfl) (by kernel_rfl) (by kernel_rfl) (by kernel_rfl) (by decide) (fun _ _ _ h => h) (Or.inl ⟨by rfl, fun w' hS => (by go_simp)⟩) s0 ?_
  try simp only [Go.Act.put, Zx, Zy, Zz]
  refine wpL_take (i := 12) (v := (.pointer (some ⟨b, 0, none⟩))) (some 56) rfl rfl (by kernel_rfl) (by kernel_rfl) (by kernel_rfl) (by kernel_rfl) (by kernel_rfl) (by decide) (fun _ _ _ h => h) (Or.inl ⟨by rfl, fun w' hS => (by go_simp)⟩) s0 ?_
  try simp only [Go.Act.put, Zx, Zy, Zz]
  refine wpL_take (i := 13) (v := (.int .i64 (T.bg + 1))) (some 57) rfl rfl (by kernel_rfl) (by kernel_rfl) (by kernel_rfl) (by kernel_rfl) (by kernel_rfl) (by decide) (fun _ _ _ h => h) (Or.inl ⟨by rfl, fun w' hS => (by go_simp)⟩) s0 ?_
  try simp only [Go.Act.put, Zx, Zy, Zz]
  refine wpL_take (i := 14) (v := (.pointer (some ⟨t, 0, none⟩))) (some 58) rfl rfl (by kernel_rfl) (by kernel_rfl) (by kernel_rfl) (by kernel_rfl) (by kernel_rfl) (by decide) (fun _ _ _ h => h) (Or.inl ⟨by rfl, fun w' hS => (by go_simp)⟩) s0 ?_
  try simp only [Go.Act.put, Zx, Zy, Zz]
  refine wpL_take (i := 15) (v := (.pointer (some ⟨t, 1, none⟩))) (some 59) rfl rfl (by kernel_rfl) (by kernel_rfl) (by kernel_rfl) (by kernel_rfl) (by kernel_rfl) (by decide) (fun _ _ _ h => h) (Or.inl ⟨by rfl, fun w' hS => (by go_simp)⟩) s0 ?_
  try simp only [Go.Act.put, Zx, Zy, Zz]
  refine wpL_ready (rs := [16]) (by kernel_rfl) (by simp) (AllL.cons (o := { dst := none, op := Op.store 3 (Operand.tmp 59) (Operand.tmp 55), type := 0, pos := _, after := #[{ on := 15, ground := Ground.data }, { on := 11, ground := Ground.data }, { on := 0, ground := Ground.phase }, { on := 1, ground := Ground.textOnly Departure.lateStores }, { on := 2, ground := Ground.textOnly Departure.lateStoresUnsure }, { on := 3, ground := Ground.textOnly Departure.lateStoresUnsure }, { on := 4, ground := Ground.phase }, { on := 5, ground := Ground.textOnly Departure.lateStores }, { on := 6, ground := Ground.textOnly Departure.lateStores }, { on := 7, ground := Ground.textOnly Departure.lateStoresUnsure }, { on := 8, ground := Ground.textOnly Departure.lateStoresUnsure }, { on := 9, ground := Ground.phase }, { on := 10, ground := Ground.textOnly Departure.lateStoresUnsure }, { on := 11, ground := Ground.phase }, { on := 12, ground := Ground.textOnly Departure.lateStores }, { on := 13, ground := Ground.textOnly Departure.lateStores }], guard := none }) rfl (fun K' hK => ?_) AllL.nil)
  rw [if_pos (by rfl)]
  go_simp
  rw [← e5]
  clear e5
  refine hK.out _ _ (fun _ => q5) ?_
  clear hK
  try simp only [Go.Act.put, Zx, Zy, Zz]
  refine wpL_ready (rs := [17]) (by kernel_rfl) (by simp) (AllL.cons (o := { dst := some 60, op := Op.mapEntry 201 (Operand.tmp 48) (Operand.tmp 49), type := 0, pos := _, after := #[{ on := 4, ground := Ground.data }, { on := 5, ground := Ground.data }, { on := 16, ground := Ground.chain }, { on := 0, ground := Ground.phase }, { on := 1, ground := Ground.textOnly Departure.tupleMapEntryFirst }, { on := 2, ground := Ground.textOnly Departure.lateStoresUnsure }, { on := 3, ground := Ground.textOnly Departure.lateStoresUnsure }, { on := 4, ground := Ground.phase }, { on := 5, ground := Ground.textOnly Departure.tupleMapEntryFirst }, { on := 6, ground := Ground.textOnly Departure.lateStores }, { on := 7, ground := Ground.textOnly Departure.lateStoresUnsure }, { on := 8, ground := Ground.textOnly Departure.lateStoresUnsure }, { on := 9, ground := Ground.phase }, { on := 10, ground := Ground.textOnly Departure.lateStoresUnsure }, { on := 11, ground := Ground.phase }, { on := 12, ground := Ground.textOnly Departure.tupleMapEntryFirst }, { on := 13, ground := Ground.textOnly Departure.lateStores }, { on := 14, ground := Ground.phase }, { on := 15, ground := Ground.phase }, { on := 16, ground := Ground.phase }], guard := none }) rfl (fun K' hK => ?_) AllL.nil)
  rw [if_pos (by rfl)]
  go_simp
  refine hK.out _ _ (fun _ => q6) ?_
  clear hK
  try simp only [Go.Act.put, Zx, Zy, Zz]
  refine wpL_take (i := 18) (v := (.int .i64 (s1 : Nat))) (some 61) rfl rfl (by kernel_rfl) (by kernel_rfl) (by kernel_rfl) (by kernel_rfl) (by kernel_rfl) (by decide) (fun _ _ _ h => h) (Or.inl ⟨by rfl, fun w' hS => (by go_simp)⟩) q6 ?_
  try simp only [Go.Act.put, Zx, Zy, Zz]
  refine wpL_ready (rs := [19]) (by kernel_rfl) (by simp) (AllL.cons (o := { dst := none, op := Op.entryStore 201 (Operand.tmp 48) (Operand.tmp 61) (Operand.tmp 56), type := 0, pos := _, after := #[{ on := 4, ground := Ground.data }, { on := 18, ground := Ground.data }, { on := 12, ground := Ground.data }, { on := 17, ground := Ground.chain }, { on := 0, ground := Ground.phase }, { on := 1, ground := Ground.phase }, { on := 2, ground := Ground.phase }, { on := 3, ground := Ground.phase }, { on := 4, ground := Ground.phase }, { on := 5, ground := Ground.phase }, { on := 6, ground := Ground.textOnly Departure.lateStores }, { on := 7, ground := Ground.textOnly Departure.lateStoresUnsure }, { on := 8, ground := Ground.textOnly Departure.lateStoresUnsure }, { on := 9, ground := Ground.phase }, { on := 10, ground := Ground.textOnly Departure.lateStoresUnsure }, { on := 11, ground := Ground.phase }, { on := 12, ground := Ground.phase }, { on := 13, ground := Ground.textOnly Departure.lateStores }, { on := 14, ground := Ground.phase }, { on := 15, ground := Ground.phase }, { on := 16, ground := Ground.phase }, { on := 17, ground := Ground.phase }], guard := none }) rfl (fun K' hK => ?_) AllL.nil)
  rw [if_pos (by rfl)]
  go_simp
  refine hK.out _ _ (fun _ => q7) ?_
  clear hK
  try simp only [Go.Act.put, Zx, Zy, Zz]
  refine wpL_ready (rs := [20]) (by kernel_rfl) (by simp) (AllL.cons (o := { dst := some 62, op := Op.mapEntry 202 (Operand.tmp 53) (Operand.tmp 54), type := 0, pos := _, after := #[{ on := 9, ground := Ground.data }, { on := 10, ground := Ground.data }, { on := 19, ground := Ground.chain }, { on := 0, ground := Ground.phase }, { on := 1, ground := Ground.phase }, { on := 2, ground := Ground.phase }, { on := 3, ground := Ground.phase }, { on := 4, ground := Ground.phase }, { on := 5, ground := Ground.phase }, { on := 6, ground := Ground.textOnly Departure.tupleMapEntryFirst }, { on := 7, ground := Ground.textOnly Departure.lateStoresUnsure }, { on := 8, ground := Ground.textOnly Departure.lateStoresUnsure }, { on := 9, ground := Ground.phase }, { on := 10, ground := Ground.textOnly Departure.lateStoresUnsure }, { on := 11, ground := Ground.phase }, { on := 12, ground := Ground.phase }, { on := 13, ground := Ground.textOnly Departure.tupleMapEntryFirst }, { on := 14, ground := Ground.phase }, { on := 15, ground := Ground.phase }, { on := 16, ground := Ground.phase }, { on := 17, ground := Ground.phase }, { on := 18, ground := Ground.phase }, { on := 19, ground := Ground.phase }], guard := none }) rfl (fun K' hK => ?_) AllL.nil)
  rw [if_pos (by rfl)]
  go_simp
  refine hK.out _ _ (fun _ => q8) ?_
  clear hK
  try simp only [Go.Act.put, Zx, Zy, Zz]
  refine wpL_take (i := 21) (v := (.int .i64 (s2 : Nat))) (some 63) rfl rfl (by kernel_rfl) (by kernel_rfl) (by kernel_rfl) (by kernel_rfl) (by kernel_rfl) (by decide) (fun _ _ _ h => h) (Or.inl ⟨by rfl, fun w' hS => (by go_simp)⟩) q8 ?_
  try simp only [Go.Act.put, Zx, Zy, Zz]
  refine wpL_ready (rs := [22]) (by kernel_rfl) (by simp) (AllL.cons (o := { dst := none, op := Op.entryStore 202 (Operand.tmp 53) (Operand.tmp 63) (Operand.tmp 57), type := 0, pos := _, after := #[{ on := 9, ground := Ground.data }, { on := 21, ground := Ground.data }, { on := 13, ground := Ground.data }, { on := 20, ground := Ground.chain }, { on := 0, ground := Ground.phase }, { on := 1, ground := Ground.phase }, { on := 2, ground := Ground.phase }, { on := 3, ground := Ground.phase }, { on := 4, ground := Ground.phase }, { on := 5, ground := Ground.phase }, { on := 6, ground := Ground.phase }, { on := 7, ground := Ground.phase }, { on := 8, ground := Ground.phase }, { on := 9, ground := Ground.phase }, { on := 10, ground := Ground.phase }, { on := 11, ground := Ground.phase }, { on := 12, ground := Ground.phase }, { on := 13, ground := Ground.phase }, { on := 14, ground := Ground.phase }, { on := 15, ground := Ground.phase }, { on := 16, ground := Ground.phase }, { on := 17, ground := Ground.phase }, { on := 18, ground := Ground.phase }, { on := 19, ground := Ground.phase }, { on := 20, ground := Ground.phase }], guard := none }) rfl (fun K' hK => ?_) AllL.nil)
  rw [if_pos (by rfl)]
  go_simp
  refine hK.out _ _ (fun h => absurd h (by decide)) ?_
  clear hK
  try simp only [Go.Act.put, Zx, Zy, Zz]
  refine wpL_done (by kernel_rfl) ?_ _
  go_wp2
  exact bodyPost_ret (v := .tuple #[.int .i64 (T.bg + 1), .int .i64 0]) (by simp [results, Tryz.results94, go_sem]) rfl ⟨rfl, HF.out⟩
 ·have en : tBegN T k x rf = 0 := by unfold tBegN; rw [if_neg hz]
  have es : tBeg T k x rf = T := by unfold tBeg; rw [if_neg hz]
  have hz' : (tBegE T k x rf != 0) = true := by simp [hz]
  rw [en, es]
  have HS : Hid (∀ w2, Touch [] W w2 → TqE w w2 t F T (N + 1)) := fun w2 T' => TqE.touch h (t0.trans' T') (Nat.le_succ N)
  clear h h1 hF hb hz en es t0
  generalize tBegE T k x rf = E at *
  unfold bxK at hW
  unfold kv PT at *
  go_enter Tryz.func94, Tryz.ntmps94
  go_upto_region 1 with fail
  rw [← hW]
  clear hW
  go_wp2_with (go_at_call 135; refine HM.out.mono ?_; rintro e w2 ⟨rfl, t2⟩; have T2 := hid t2; clear t2)
  exact bodyPost_ret (v := .tuple #[.int .i64 0, .int .i64 E]) (by simp [results, Tryz.results94, go_sem]) rfl ⟨rfl, HS.out _ T2.out⟩
end
end Go.Proofs.YtllchnancjgijaaGreat.Ta
/- The contracts of a batch's Runs, Has, Clone and New; no conditions but those that each states. -/
namespace Go.Proofs.YtllchnancjgijaaGreat.Ba
open Go.RowKit Go.Maps Go.ChangeMaps
section
variable {w : World} {b : Nat} {sl : Value} {d : Int} {S : Bs}
def mayB (c k : Int) : Bool := decide (1 ≤ c) && decide (c ≤ 1024) && decide (0 ≤ k)
def S0 (c k : Int) : Bs := ⟨c, k, 0, 0, [], 0, 0⟩
theorem new_yes (w : World) (c k : Int) (h : mayB c k = true) : Calls Tryz.prog 81 #[.int .i64 c, .int .i64 k] w fun e w' => e = .returned (.tuple #[PT w.heap.size, .int .i64 0]) ∧ Bm w' w.heap.size (.slice none 0 0) 0 (S0 c k) ∧ Touch [] w w' := by
 have HX : Hid (Bm (w.alloc (.cells (pc (S0 c k) (.slice none 0 0) 0) 217)) w.heap.size (.slice none 0 0) 0 (S0 c k)) := ⟨heap_alloc_new w _, World.ownsRow_nil _ _ _ _, fun h => absurd rfl h⟩
 unfold mayB at h
 simp only [Bool.and_eq_true, decide_eq_true_eq] at h
 obtain ⟨⟨h1, h2⟩, h3⟩ := h
 unfold pc S0 at HX
 unfold S0 PT
 go_enter Tryz.func81, Tryz.ntmps81
 go_wp2
 exact bodyPost_ret (v := .tuple #[.pointer (some ⟨w.heap.size, 0, none⟩), .int .i64 0]) (by simp [results, Tryz.results81, go_sem]) rfl ⟨rfl, HX.out, (Touch.refl _ _).alloc _⟩
end
end Go.Proofs.YtllchnancjgijaaGreat.Ba
/- The contracts of a batch's Add and Send; no conditions but those that each states. -/
namespace Go.Proofs.YtllchnancjgijaaGreat.Ba
open Go.RowKit Go.Maps Go.ChangeMaps
theorem rs_new (w : World) (x : Int) : Rs 3 1 (w.alloc (.cells #[.int .i64 x] 3)) (.slice (some ⟨w.heap.size, 0, none⟩) 1 1) 1 [.int .i64 x] := by
 refine ⟨rfl, _, 1, rfl, Nat.le_refl _, fun e => (by cases e), fun _ => ⟨w.heap.size, 0, rfl, _, _, heap_alloc_new w _, fun j u hu => ?_⟩⟩
 match j, hu with
 | 0, hu => simpa using hu
section
variable {w W1 : World} {b N : Nat} {sl : Value} {d d1 n x : Int} {S : Bs}
theorem add_mid {ob : Obj} (h : Bm w b sl d S) (hb1 : W1.heap[b]? = some (.cells (pc S sl d1) 217 (0, 0))) (T1 : Touch [b] w W1) (hd1 : d1 = dueS (addM S n x)) (v5 : Value) (w5 : World)
  (o5 : w5.ownsRow 0 3 1 v5 (S.run.length + 1) (ints S.run ++ [.int .i64 x])) (g5 : (W1.alloc ob).grownBy w5 sl.ownBlock) (e5 : v5.ownBlock = sl.ownBlock ∨ v5.ownBlock = some (W1.alloc ob).heap.size) :
  w5.heap[b]? = some (.cells (pc S sl d1) 217 (0, 0)) ∧ Bm (((w5.setCell ⟨b, 2, none⟩ (.int .i64 n)).setCell ⟨b, 3, none⟩ (.int .i64 x)).setCell ⟨b, 4, none⟩ v5) b v5 d1 (addM S n x) ∧ Touch (fpB b sl) w (((w5.setCell ⟨b, 2, none⟩ (.int .i64 n)).setCell ⟨b, 3, none⟩ (.int .i64 x)).setCell ⟨b, 4, none⟩ v5) ∧ Nf w (fpB b sl) (fpB b v5) := by
 have hz : (W1.alloc ob).heap.size = W1.heap.size + 1 := by simp
 have hz1 := T1.size
 have hz2 : b < W1.heap.size := block_lt hb1
 have TA : Touch sl.ownBlock.toList (W1.alloc ob) w5 := (Touch.refl _ _).grown g5 (fun k hk => Or.inl (by simp [hk]))
 have hb5 : w5.heap[b]? = some (.cells (pc S sl d1) 217 (0, 0)) := TA.keep (((Touch.refl [] _).alloc _).keep hb1 (by simp)) (fun e => by simp at e; exact h.ne e rfl)
 have TB : Touch [b] w5 (((w5.setCell ⟨b, 2, none⟩ (.int .i64 n)).setCell ⟨b, 3, none⟩ (.int .i64 x)).setCell ⟨b, 4, none⟩ v5) := (((Touch.refl _ _).setCell (Or.inl (by simp)) _).setCell (Or.inl (by simp)) _).setCell (Or.inl (by simp)) _
 have hne : ∀ q, v5.ownBlock = some q → q ≠ b := fun q hq e => by
  rcases e5 with e5 | e5
  ·rw [e5] at hq; exact h.ne hq e
  ·rw [e5, hz] at hq; cases hq; omega
 refine ⟨hb5, ⟨?_, ?_, fun _ => hd1⟩, ?_, fun q hq => ?_⟩
 ·have := bset (i := 4) (bset (i := 3) (bset (i := 2) hb5 (.int .i64 n)) (.int .i64 x)) v5
  simpa [pc, addM] using this
 ·have := own_touch o5 TB (fun q hq e => by simp only [List.mem_singleton] at e; exact hne q hq e)
  have e1 : ints (addM S n x).run = ints S.run ++ [.int .i64 x] := by simp [ints, addM]
  have e2 : (addM S n x).run.length = S.run.length + 1 := by simp [addM]
  rw [e1, e2]
  exact this
 ·have x1 : Touch (fpB b sl) w (W1.alloc ob) := (T1.alloc ob).mono (fun q hq => by simp only [List.mem_singleton] at hq; exact mem_fpB.2 (Or.inl hq))
  have x2 : Touch (fpB b sl) w w5 := x1.trans TA (fun q hq => Or.inl (mem_fpB.2 (Or.inr (by simpa using hq))))
  exact x2.trans TB (fun q hq => Or.inl (by simp only [List.mem_singleton] at hq; exact mem_fpB.2 (Or.inl hq)))
 ·rcases mem_fpB.1 hq with e | e
  ·exact Or.inl (mem_fpB.2 (Or.inl e))
  ·rcases e5 with e5 | e5
   ·rw [e5] at e; exact Or.inl (mem_fpB.2 (Or.inr e))
   ·rw [e5, hz] at e; cases e; exact Or.inr (by omega)
theorem add_force {V w' : World} {F : List Nat} {v5 : Value} (hv : Iv S N) (hx : W64 x) (hN : N ≤ 6000000000000) (h0 : ¬ addE S n x ≠ 0) (hful : addF S = true) (hm : Bm V b v5 d1 (addM S n x)) (ht : Touch F w V) (hnf : Nf w F (fpB b v5)) (T : Touch [] V w') :
  Calls Tryz.prog 121 #[PT b] w' fun e w2 => ∃ v, e = .returned v ∧ (∃ a n c, v = .slice a n c) ∧ BqE w w2 b F (addS S n x) (N + 1) (addL S n x) v := by
 have e1 : addS S n x = forceS (addM S n x) := by unfold addS; rw [if_neg h0, if_pos hful]
 have e2 : addL S n x = S.run ++ [x] := by unfold addL; rw [if_neg h0, if_pos hful]
 rw [e1, e2]
 have hs1 := hv.n1
 have hs2 := hv.n2
 refine (force_ (hm.keep0 T) hs1 (by show S.snt < _; omega)).mono ?_
 rintro e w2 ⟨v, sl', rfl, hf, q1, q2, q3, q4⟩
 have hiv : Iv (forceS (addM S n x)) (N + 1) := by
  have := hv.add (n := n) hx
  rwa [e1] at this
 refine ⟨v, rfl, hf, ⟨fpB b sl', ⟨sl', d1, rfl, q1, hiv⟩, (ht.trans T (fun _ e => by cases e)).trans q3 (fun q hq => hnf q (by simp only [List.mem_singleton] at hq; exact mem_fpB.2 (Or.inl hq))), fun q hq => hnf q ?_⟩, q4, hf⟩
 rcases q2 with rfl | rfl
 ·exact hq
 ·rcases mem_fpB.1 hq with e | e
  ·exact mem_fpB.2 (Or.inl e)
  ·cases e
theorem add_wait {V w' : World} {F : List Nat} {v5 : Value} (hv : Iv S N) (hx : W64 x) (h0 : ¬ addE S n x ≠ 0) (hfl : addF S = false) (hm : Bm V b v5 d1 (addM S n x)) (ht : Touch F w V) (hnf : Nf w F (fpB b v5)) (T : Touch [] V w') :
  BqE w w' b F (addS S n x) (N + 1) (addL S n x) (.slice none 0 0) := by
 have e1 : addS S n x = addM S n x := by unfold addS; rw [if_neg h0, if_neg (by simp [hfl])]
 have e2 : addL S n x = [] := by unfold addL; rw [if_neg h0, if_neg (by simp [hfl])]
 rw [e1, e2]
 unfold addF at hfl
 simp only [Bool.or_eq_false_iff, decide_eq_false_iff_not] at hfl
 have := hv.c2
 exact ⟨⟨fpB b v5, ⟨v5, d1, rfl, hm.keep0 T, (hv.mid hx h0 (by omega)).mono (Nat.le_succ N)⟩, ht.trans T (fun _ e => by cases e), hnf⟩, Rd.nil _, _, _, _, rfl⟩
theorem bq_same (h : Bm w b sl d S) (hv : Iv S N) : BqE w w b (fpB b sl) S (N + 1) [] (.slice none 0 0) :=
 ⟨⟨fpB b sl, ⟨sl, d, rfl, h, hv.mono (Nat.le_succ N)⟩, Touch.refl _ _, Nf.refl _ _⟩, Rd.nil _, _, _, _, rfl⟩
set_option maxHeartbeats 4000000 in
theorem add_ (h : Bm w b sl d S) (hv : Iv S N) (hN : N ≤ 6000000000000) (hx : W64 x) : Calls Tryz.prog 137 #[PT b, .int .i64 n, .int .i64 x] w fun e w' => ∃ v, e = .returned (.tuple #[v, .int .i64 (addE S n x)]) ∧ BqE w w' b (fpB b sl) (addS S n x) (N + 1) (addL S n x) v := by
 have HT := hid (fun x => tell_ h x)
 have HS := hid (bq_same h hv)
 by_cases hw : wrongE S n ≠ 0
 ·have e0 : addE S n x = wrongE S n := by unfold addE; rw [if_pos hw]
  have e1 : addE S n x ≠ 0 := by rw [e0]; exact hw
  unfold addS addL
  rw [if_pos e1, if_pos e1, e0]
  have hk : (wrongE S n != 0) = true := by simpa using hw
  clear e0 e1 hw h hv
  have HT2 := hid (HT.out n)
  generalize wrongE S n = k at *
  unfold PT at *
  go_enter Tryz.func137, Tryz.ntmps137
  go_wp2_with (go_at_call 120; refine (HT2.out).mono ?_; rintro e w2 ⟨rfl, e2⟩; rw [e2]; clear e2 w2)
  exact bodyPost_ret (v := .tuple #[.slice none 0 0, .int .i64 k]) (by simp [results, Tryz.results137, go_sem]) rfl ⟨_, rfl, HS.out⟩
 ·have hw0 : wrongE S n = 0 := Decidable.not_not.1 hw
  have HT2 := hid (HT.out n)
  rw [hw0] at HT2
  by_cases h1 : x < 1
  ·have e0 : addE S n x = 1 := by unfold addE; rw [if_neg hw, if_pos h1]
   unfold addS addL
   rw [e0, if_pos (by decide), if_pos (by decide)]
   clear e0 hw hw0 h hv HT
   unfold PT at *
   go_enter Tryz.func137, Tryz.ntmps137
   go_wp2_with (go_at_call 120; refine (HT2.out).mono ?_; rintro e w2 ⟨rfl, e2⟩; rw [e2]; clear e2 w2)
   exact bodyPost_ret (v := .tuple #[.slice none 0 0, .int .i64 1]) (by simp [results, Tryz.results137, go_sem]) rfl ⟨_, rfl, HS.out⟩
  ·have c3 := cell_at (j := 3) (v := .int .i64 S.lst) h.hb rfl
   by_cases h2 : x ≤ S.lst
   ·have e0 : addE S n x = 130 := by unfold addE; rw [if_neg hw, if_neg h1, if_pos h2]
    unfold addS addL
    rw [e0, if_pos (by decide), if_pos (by decide)]
    clear e0 hw hw0 h hv HT
    unfold PT at *
    go_enter Tryz.func137, Tryz.ntmps137
    go_wp2_with (go_at_call 120; refine (HT2.out).mono ?_; rintro e w2 ⟨rfl, e2⟩; rw [e2]; clear e2 w2)
    exact bodyPost_ret (v := .tuple #[.slice none 0 0, .int .i64 130]) (by simp [results, Tryz.results137, go_sem]) rfl ⟨_, rfl, HS.out⟩
   ·have e0 : addE S n x = 0 := by unfold addE; rw [if_neg hw, if_neg h1, if_neg h2]
    have h0 : ¬ addE S n x ≠ 0 := by rw [e0]; simp
    obtain ⟨g1, g2, g3⟩ := wrong0 hw
    rw [e0]
    clear e0 hw hw0 HT HS
    obtain ⟨a, c, rfl⟩ := own_form h.row
    have c4 := cell_at (j := 4) (v := .slice a S.run.length c) h.hb rfl
    by_cases he : S.run = []
    ·have HA := hid (fun w => after_ n S.win w g1 g2 hv.w1 hv.w2)
     have c1 := cell_at (j := 1) (v := .int .i64 S.win) h.hb rfl
     have c5 := cell_at (j := 5) (v := .int .i64 d) h.hb rfl
     have ff := froz_at h.hb
     have hlt := h.lt
     obtain ⟨d1, hd⟩ : ∃ d1, d1 = aft n S.win := ⟨_, rfl⟩
     have HD1 : Hid (d1 = dueS (addM S n x)) := hid (by rw [due_mid, if_pos he]; exact hd)
     have HB := hid (bset (i := 5) h.hb (.int .i64 d1))
     rw [← hd] at HA
     clear hd g1 g2 g3
     have hz : ((S.run.length : Int) == 0) = true := by simp [he]
     unfold PT at HT2 ⊢
     go_enter Tryz.func137, Tryz.ntmps137
     go_upto_region 10 with (first | (go_at_call 120; refine (HT2.out).mono ?_; rintro e w2 ⟨rfl, e2⟩; rw [e2]; clear e2 w2) | (go_at_call 179; refine (HA.out _).mono ?_; rintro e w2 ⟨⟨k2, rfl⟩, e2⟩; rw [e2]; clear e2 w2))
     obtain ⟨W1, hW1⟩ : ∃ W1, W1 = w.setCell ⟨b, 5, none⟩ (.int .i64 d1) := ⟨_, rfl⟩
     rw [← hW1]
     have T1 : Touch [b] w W1 := by rw [hW1]; exact (Touch.refl _ _).setCell (Or.inl (by simp)) _
     have hb1 : W1.heap[b]? = some (.cells (pc S (.slice a S.run.length c) d1) 217 (0, 0)) := by rw [hW1]; simpa [pc] using HB.out
     have hd1 := HD1.out
     clear hW1 HB HA HT2 c1 c3 c4 c5 ff hz he hlt HD1
     have c4 := cell_at (j := 4) (v := .slice a S.run.length c) hb1 rfl
     have HRS : Hid (Rs 3 1 (W1.alloc (.cells #[.int .i64 x] 3)) (.slice (some ⟨W1.heap.size, 0, none⟩) 1 1) 1 [.int .i64 x]) := hid (rs_new W1 x)
     have HROW : Hid ((W1.alloc (.cells #[.int .i64 x] 3)).ownsRow 0 3 1 (.slice a S.run.length c) S.run.length (ints S.run)) := hid (own_touch (own_touch h.row T1 (fun q hq e => by simp only [List.mem_singleton] at e; exact h.ne hq e)) ((Touch.refl [] _).alloc _) (fun _ _ e => by cases e))
     have HMID : Hid (∀ v5 w5, w5.ownsRow 0 3 1 v5 (S.run.length + 1) (ints S.run ++ [.int .i64 x]) → (W1.alloc (.cells #[.int .i64 x] 3)).grownBy w5 (Value.slice a S.run.length c).ownBlock → (v5.ownBlock = (Value.slice a S.run.length c).ownBlock ∨ v5.ownBlock = some (W1.alloc (.cells #[.int .i64 x] 3)).heap.size) → w5.heap[b]? = some (.cells (pc S (.slice a S.run.length c) d1) 217 (0, 0)) ∧ Bm (((w5.setCell ⟨b, 2, none⟩ (.int .i64 n)).setCell ⟨b, 3, none⟩ (.int .i64 x)).setCell ⟨b, 4, none⟩ v5) b v5 d1 (addM S n x) ∧ Touch (fpB b (.slice a S.run.length c)) w (((w5.setCell ⟨b, 2, none⟩ (.int .i64 n)).setCell ⟨b, 3, none⟩ (.int .i64 x)).setCell ⟨b, 4, none⟩ v5) ∧ Nf w (fpB b (.slice a S.run.length c)) (fpB b v5)) := hid (fun v5 w5 o g e => add_mid h hb1 T1 hd1 v5 w5 o g e)
     have HLEN := hid hv.len
     clear h hb1 T1 hd1
     go_upto_region 11 with (at_builtin; refine wpList_append_rs rfl _ _ _ 3 rfl (.int .i64 0) 1 8 info3 Tryz.underlying43 rfl (by decide) 0 (.slice a S.run.length c) S.run.length (ints S.run) rfl HROW.out _ 1 [.int .i64 x] rfl HRS.out (fun y hy => by simp only [List.mem_singleton] at hy; subst hy; rfl) (by have := HLEN.out; unfold maxLen; omega) (by have := HLEN.out; omega) (by simp) ?_; intro v5 w5 o5 g5 e5; obtain ⟨z1, z2⟩ := HMID.out v5 w5 o5 g5 e5; obtain ⟨a5, c5, rfl⟩ := own_form o5; have y2 := cell_at (j := 2) (v := .int .i64 S.tim) z1 rfl; have y3 := cell_at (j := 3) (v := .int .i64 S.lst) z1 rfl; have y4 := cell_at (j := 4) (v := .slice a S.run.length c) z1 rfl; have yf := froz_at z1; have yl := block_lt z1; have HZ := hid z2; clear z1 z2 o5 g5 e5)
     obtain ⟨V, hV⟩ : ∃ V, V = ((w5.setCell ⟨b, 2, none⟩ (.int .i64 n)).setCell ⟨b, 3, none⟩ (.int .i64 x)).setCell ⟨b, 4, none⟩ (.slice a5 (S.run.length + 1) c5) := ⟨_, rfl⟩
     rw [← hV] at HZ ⊢
     clear hV y2 y3 y4 yf yl HRS HROW HMID
     have v0 := cell_at (j := 0) (v := .int .i64 S.cnt) HZ.out.1.hb rfl
     have v1 := cell_at (j := 1) (v := .int .i64 S.win) HZ.out.1.hb rfl
     have v4 := cell_at (j := 4) (v := .slice a5 (S.run.length + 1) c5) HZ.out.1.hb rfl
     have HF : Hid (∀ w', Touch [] V w' → addF S = true → Calls Tryz.prog 121 #[PT b] w' fun e w2 => ∃ v, e = .returned v ∧ (∃ a n c, v = .slice a n c) ∧ BqE w w2 b (fpB b (.slice a S.run.length c)) (addS S n x) (N + 1) (addL S n x) v) := hid (fun w' T hf => add_force hv hx hN h0 hf HZ.out.1 HZ.out.2.1 HZ.out.2.2 T)
     have HN : Hid (∀ w', Touch [] V w' → addF S = false → BqE w w' b (fpB b (.slice a S.run.length c)) (addS S n x) (N + 1) (addL S n x) (.slice none 0 0)) := hid (fun w' T hf => add_wait hv hx h0 hf HZ.out.1 HZ.out.2.1 HZ.out.2.2 T)
     clear hv hx HZ HLEN
     unfold PT at HF
     rcases (by cases addF S <;> simp : addF S = false ∨ addF S = true) with hf | hf
     ·have HN' := hid (fun w' T => HN.out w' T hf)
      unfold addF at hf
      simp only [Bool.or_eq_false_iff, decide_eq_false_iff_not] at hf
      obtain ⟨f1, f2⟩ := hf
      generalize S.run.length + 1 = m at *
      have f3 : (S.win == 0) = false := by simp [f2]
      have f4 : (m : Int) < S.cnt := by omega
      clear f1 f2 HF HN h0
      go_quiet (fail)
      go_wp2
      exact bodyPost_ret (v := .tuple #[.slice none 0 0, .int .i64 0]) (by simp [results, Tryz.results137, go_sem]) rfl ⟨_, rfl, HN'.out _ ((Touch.refl _ _).drewN _)⟩
     ·have HF' := hid (fun w' T => HF.out w' T hf)
      unfold addF at hf
      simp only [Bool.or_eq_true, decide_eq_true_eq] at hf
      generalize S.run.length + 1 = m at *
      have f5 : S.cnt ≤ (m : Int) ∨ (S.win == 0) = true := by rcases hf with e | e; exact Or.inl e; exact Or.inr (by simp [e])
      clear hf h0 HN HF
      by_cases f1 : S.cnt ≤ (m : Int)
      ·clear f5
       go_quiet (fail)
       go_wp2_with (go_at_call 121; refine (HF'.out _ ((Touch.refl _ _).drewN _)).mono ?_; rintro e w8 ⟨v8, rfl, ⟨a8, n8, c8, rfl⟩, q8⟩; have Q8 := hid q8; clear q8)
       exact bodyPost_ret (v := .tuple #[.slice a8 n8 c8, .int .i64 0]) (by simp [results, Tryz.results137, go_sem]) rfl ⟨_, rfl, Q8.out⟩
      ·have f2 : (S.win == 0) = true := by rcases f5 with e | e; exact absurd e f1; exact e
       clear f5
       go_quiet (fail)
       go_wp2_with (go_at_call 121; refine (HF'.out _ ((Touch.refl _ _).drewN _)).mono ?_; rintro e w8 ⟨v8, rfl, ⟨a8, n8, c8, rfl⟩, q8⟩; have Q8 := hid q8; clear q8)
       exact bodyPost_ret (v := .tuple #[.slice a8 n8 c8, .int .i64 0]) (by simp [results, Tryz.results137, go_sem]) rfl ⟨_, rfl, Q8.out⟩
    ·have hl : 0 < S.run.length := List.length_pos_iff.2 he
     have hz : ((S.run.length : Int) == 0) = false := by simp; omega
     have hd1 : d = dueS (addM S n x) := by rw [due_mid, if_neg he]; exact h.du he
     obtain ⟨d1, hd⟩ : ∃ d1, d1 = d := ⟨_, rfl⟩
     clear g1 g2 g3 hl
     unfold PT at HT2 ⊢
     go_enter Tryz.func137, Tryz.ntmps137
     go_upto_region 10 with (go_at_call 120; refine (HT2.out).mono ?_; rintro e w2 ⟨rfl, e2⟩; rw [e2]; clear e2 w2)
     obtain ⟨W1, hW1⟩ : ∃ W1, W1 = w := ⟨_, rfl⟩
     rw [← hW1] at c4 ⊢
     have T1 : Touch [b] w W1 := by rw [hW1]; exact Touch.refl _ _
     have hb1 : W1.heap[b]? = some (.cells (pc S (.slice a S.run.length c) d1) 217 (0, 0)) := by rw [hW1, hd]; exact h.hb
     rw [← hd] at hd1
     clear hW1 hd HT2 c3 hz he
     have HRS : Hid (Rs 3 1 (W1.alloc (.cells #[.int .i64 x] 3)) (.slice (some ⟨W1.heap.size, 0, none⟩) 1 1) 1 [.int .i64 x]) := hid (rs_new W1 x)
     have HROW : Hid ((W1.alloc (.cells #[.int .i64 x] 3)).ownsRow 0 3 1 (.slice a S.run.length c) S.run.length (ints S.run)) := hid (own_touch (own_touch h.row T1 (fun q hq e => by simp only [List.mem_singleton] at e; exact h.ne hq e)) ((Touch.refl [] _).alloc _) (fun _ _ e => by cases e))
     have HMID : Hid (∀ v5 w5, w5.ownsRow 0 3 1 v5 (S.run.length + 1) (ints S.run ++ [.int .i64 x]) → (W1.alloc (.cells #[.int .i64 x] 3)).grownBy w5 (Value.slice a S.run.length c).ownBlock → (v5.ownBlock = (Value.slice a S.run.length c).ownBlock ∨ v5.ownBlock = some (W1.alloc (.cells #[.int .i64 x] 3)).heap.size) → w5.heap[b]? = some (.cells (pc S (.slice a S.run.length c) d1) 217 (0, 0)) ∧ Bm (((w5.setCell ⟨b, 2, none⟩ (.int .i64 n)).setCell ⟨b, 3, none⟩ (.int .i64 x)).setCell ⟨b, 4, none⟩ v5) b v5 d1 (addM S n x) ∧ Touch (fpB b (.slice a S.run.length c)) w (((w5.setCell ⟨b, 2, none⟩ (.int .i64 n)).setCell ⟨b, 3, none⟩ (.int .i64 x)).setCell ⟨b, 4, none⟩ v5) ∧ Nf w (fpB b (.slice a S.run.length c)) (fpB b v5)) := hid (fun v5 w5 o g e => add_mid h hb1 T1 hd1 v5 w5 o g e)
     have HLEN := hid hv.len
     clear h hb1 T1 hd1
     go_upto_region 11 with (at_builtin; refine wpList_append_rs rfl _ _ _ 3 rfl (.int .i64 0) 1 8 info3 Tryz.underlying43 rfl (by decide) 0 (.slice a S.run.length c) S.run.length (ints S.run) rfl HROW.out _ 1 [.int .i64 x] rfl HRS.out (fun y hy => by simp only [List.mem_singleton] at hy; subst hy; rfl) (by have := HLEN.out; unfold maxLen; omega) (by have := HLEN.out; omega) (by simp) ?_; intro v5 w5 o5 g5 e5; obtain ⟨z1, z2⟩ := HMID.out v5 w5 o5 g5 e5; obtain ⟨a5, c5, rfl⟩ := own_form o5; have y2 := cell_at (j := 2) (v := .int .i64 S.tim) z1 rfl; have y3 := cell_at (j := 3) (v := .int .i64 S.lst) z1 rfl; have y4 := cell_at (j := 4) (v := .slice a S.run.length c) z1 rfl; have yf := froz_at z1; have yl := block_lt z1; have HZ := hid z2; clear z1 z2 o5 g5 e5)
     obtain ⟨V, hV⟩ : ∃ V, V = ((w5.setCell ⟨b, 2, none⟩ (.int .i64 n)).setCell ⟨b, 3, none⟩ (.int .i64 x)).setCell ⟨b, 4, none⟩ (.slice a5 (S.run.length + 1) c5) := ⟨_, rfl⟩
     rw [← hV] at HZ ⊢
     clear hV y2 y3 y4 yf yl HRS HROW HMID
     have v0 := cell_at (j := 0) (v := .int .i64 S.cnt) HZ.out.1.hb rfl
     have v1 := cell_at (j := 1) (v := .int .i64 S.win) HZ.out.1.hb rfl
     have v4 := cell_at (j := 4) (v := .slice a5 (S.run.length + 1) c5) HZ.out.1.hb rfl
     have HF : Hid (∀ w', Touch [] V w' → addF S = true → Calls Tryz.prog 121 #[PT b] w' fun e w2 => ∃ v, e = .returned v ∧ (∃ a n c, v = .slice a n c) ∧ BqE w w2 b (fpB b (.slice a S.run.length c)) (addS S n x) (N + 1) (addL S n x) v) := hid (fun w' T hf => add_force hv hx hN h0 hf HZ.out.1 HZ.out.2.1 HZ.out.2.2 T)
     have HN : Hid (∀ w', Touch [] V w' → addF S = false → BqE w w' b (fpB b (.slice a S.run.length c)) (addS S n x) (N + 1) (addL S n x) (.slice none 0 0)) := hid (fun w' T hf => add_wait hv hx h0 hf HZ.out.1 HZ.out.2.1 HZ.out.2.2 T)
     clear hv hx HZ HLEN
     unfold PT at HF
     rcases (by cases addF S <;> simp : addF S = false ∨ addF S = true) with hf | hf
     ·have HN' := hid (fun w' T => HN.out w' T hf)
      unfold addF at hf
      simp only [Bool.or_eq_false_iff, decide_eq_false_iff_not] at hf
      obtain ⟨f1, f2⟩ := hf
      generalize S.run.length + 1 = m at *
      have f3 : (S.win == 0) = false := by simp [f2]
      have f4 : (m : Int) < S.cnt := by omega
      clear f1 f2 HF HN h0
      go_quiet (fail)
      go_wp2
      exact bodyPost_ret (v := .tuple #[.slice none 0 0, .int .i64 0]) (by simp [results, Tryz.results137, go_sem]) rfl ⟨_, rfl, HN'.out _ ((Touch.refl _ _).drewN _)⟩
     ·have HF' := hid (fun w' T => HF.out w' T hf)
      unfold addF at hf
      simp only [Bool.or_eq_true, decide_eq_true_eq] at hf
      generalize S.run.length + 1 = m at *
      have f5 : S.cnt ≤ (m : Int) ∨ (S.win == 0) = true := by rcases hf with e | e; exact Or.inl e; exact Or.inr (by simp [e])
      clear hf h0 HN HF
      by_cases f1 : S.cnt ≤ (m : Int)
      ·clear f5
       go_quiet (fail)
       go_wp2_with (go_at_call 121; refine (HF'.out _ ((Touch.refl _ _).drewN _)).mono ?_; rintro e w8 ⟨v8, rfl, ⟨a8, n8, c8, rfl⟩, q8⟩; have Q8 := hid q8; clear q8)
       exact bodyPost_ret (v := .tuple #[.slice a8 n8 c8, .int .i64 0]) (by simp [results, Tryz.results137, go_sem]) rfl ⟨_, rfl, Q8.out⟩
      ·have f2 : (S.win == 0) = true := by rcases f5 with e | e; exact absurd e f1; exact e
       clear f5
       go_quiet (fail)
       go_wp2_with (go_at_call 121; refine (HF'.out _ ((Touch.refl _ _).drewN _)).mono ?_; rintro e w8 ⟨v8, rfl, ⟨a8, n8, c8, rfl⟩, q8⟩; have Q8 := hid q8; clear q8)
       exact bodyPost_ret (v := .tuple #[.slice a8 n8 c8, .int .i64 0]) (by simp [results, Tryz.results137, go_sem]) rfl ⟨_, rfl, Q8.out⟩
end
end Go.Proofs.YtllchnancjgijaaGreat.Ba
