/- The contract of goOn: a key's generation goes on. -/
import Derived.Test.YtkfophlhpjbmgaaGreatQo05
import Derived.Test.YtkfophlhpjbmgaaGreatQo04
import Derived.Test.YtkfophlhpjbmgaaGreatProg
import Derived.Shelf.SlicesG.SearchI
set_option linter.unusedVariables false
set_option linter.unusedSimpArgs false
set_option maxRecDepth 100000
namespace Go.Proofs.YtkfophlhpjbmgaaGreat.Ta
open Go.RowKit Go.Maps Go.ChangeMaps
section
variable {w W W1 W2 : World} {t p c d : Nat} {g : Option Nat} {nc ng nc' ng' : Nat} {Ps : List Rb} {T : Tb} {N : Nat} {k : K}
theorem Tm.tne (h : Tm w t p c g nc ng Ps T N) : t ≠ p ∧ t ≠ c ∧ g ≠ some t := by
 obtain ⟨e1, l1, k1⟩ := h.pm.kind
 obtain ⟨e2, l2, k2⟩ := h.cm.kind
 refine ⟨fun e => ?_, fun e => ?_, fun e => ?_⟩
 ·rw [← e, h.bl] at k1; cases k1
 ·rw [← e, h.bl] at k2; cases k2
 ·obtain ⟨e3, l3, k3⟩ := h.gm.kind e
  rw [h.bl] at k3; cases k3
theorem eqMK_some (w : World) (d : Nat) : (binOp .eql 177 (.map (some d)) (.map none)).run Tryz.prog w = .ok (.bool false) w := run_eql_map_nil w _ _ _ (some d) Tryz.underlying177
theorem eqMK_none (w : World) : (binOp .eql 177 (.map none) (.map none)).run Tryz.prog w = .ok (.bool true) w := run_eql_map_nil w _ _ _ none Tryz.underlying177
theorem genV_goOn (T : Tb) (k j : K) (h : 0 ≤ T.gn k) : kupd (genV T) k (.int .i64 (T.gn k + 1)) j = genV (goOn T k) j := by
 unfold kupd genV goOn
 by_cases e : j = k
 ·subst e
  simp
  omega
 ·simp [e]
theorem curV_goOn (h : Ti T N) (k j : K) : kdel (curV T) k j = curV (goOn T k) j := by
 unfold kdel curV
 rw [curOf_goOn h]
 split <;> rfl
theorem goOn_end (h : Tm W t p c (some d) nc ng Ps T N) (hk : Ok k) (T1 : Touch [d] W W1) (m1 : MapK KC W1 d ng' (kupd (genV T) k (.int .i64 (T.gn k + 1)))) (T2 : Touch [c] W1 W2) (m2 : MapK KC W2 c nc' (kdel (curV T) k)) (hng : ng' ≤ N + 1) (hnc : nc' ≤ N + 1) :
  Tm W2 t p c (some d) nc' ng' Ps (goOn T k) (N + 1) ∧ Touch [d, c] W W2 := by
 have hT : Touch [d, c] W W2 := (T1.mono (by simp)).trans (T2.mono (by simp)) (fun i hi => Or.inl hi)
 have hd : d ≠ p ∧ d ≠ c := ⟨fun e => h.gp (by rw [e]), fun e => h.gc (by rw [e])⟩
 obtain ⟨es, cl, kd⟩ := h.gm.kind rfl
 obtain ⟨es2, cl2, kc⟩ := h.cm.kind
 have ht1 : t ≠ d := fun e => by rw [← e, h.bl] at kd; cases kd
 have ht2 : t ≠ c := fun e => by rw [← e, h.bl] at kc; cases kc
 refine ⟨⟨h.rs, hT.keep h.bl (by simp [ht1, ht2]), h.pm.keep hT (by simp [Ne.symm hd.1, h.pc]), m2.congr (fun j _ => curV_goOn h.iv k j), Or.inr ⟨d, rfl, ?_⟩, h.pc, h.gp, h.gc, hnc, hng, fun q hq => ?_, h.far, h.apart, h.iv.goOn k⟩, hT⟩
 ·exact (m1.keep T2 (by simp [hd.2])).congr (fun j _ => genV_goOn T k j (h.iv.gn k).1)
 ·refine ((h.recs q hq).keep hT (fun x hx e => ?_)).mono (Nat.le_succ N)
  have := h.far q hq x hx
  simp only [List.mem_cons, List.not_mem_nil, or_false] at e
  rcases e with e | e
  ·exact this.2.2.2 (by rw [e])
  ·exact this.2.2.1 e
theorem Tm.made (h : Tm w t p c none nc ng Ps T N) : Tm ((w.alloc (.map #[] 0)).setCell ⟨t, 4, none⟩ (.map (some w.heap.size))) t p c (some w.heap.size) nc 0 Ps T N ∧ Touch [t] w ((w.alloc (.map #[] 0)).setCell ⟨t, 4, none⟩ (.map (some w.heap.size))) := by
 have h0 : ∀ k, T.gn k = 0 := by
  rcases h.gm with ⟨_, h0⟩ | ⟨d, e, _⟩
  ·exact h0
  ·cases e
 have ta : Touch [] w (w.alloc (.map #[] 0)) := (Touch.refl _ _).alloc _
 have ha := h.keep0 ta
 have hts : Touch [t] (w.alloc (.map #[] 0)) ((w.alloc (.map #[] 0)).setCell ⟨t, 4, none⟩ (.map (some w.heap.size))) := (Touch.refl _ _).setCell (Or.inl (by simp)) _
 have lt1 := h.lt t (mem_fpT.2 (Or.inl rfl))
 obtain ⟨e1, l1, k1⟩ := h.pm.kind
 obtain ⟨e2, l2, k2⟩ := h.cm.kind
 have n1 : p ≠ t := fun e => by rw [e, h.bl] at k1; cases k1
 have n2 : c ≠ t := fun e => by rw [e, h.bl] at k2; cases k2
 have l3 := block_lt k1
 have l4 := block_lt k2
 refine ⟨⟨h.rs, ?_, ha.pm.keep hts (by simp [n1]), ha.cm.keep hts (by simp [n2]), Or.inr ⟨_, rfl, ?_⟩, h.pc, fun e => ?_, fun e => ?_, h.lc, Nat.zero_le _, fun q hq => ?_, fun q hq x hx => ?_, h.apart, h.iv⟩, (ta.mono (by simp)).trans hts (fun i hi => Or.inl hi)⟩
 ·have := bset (i := 4) ha.bl (.map (some w.heap.size))
  exact this
 ·refine ((mapK_made KC w).keep hts (by simp; omega)).congr (fun k _ => ?_)
  simp [genV, h0 k]
 ·simp only [Option.some.injEq] at e; omega
 ·simp only [Option.some.injEq] at e; omega
 ·exact (ha.recs q hq).keep hts (fun x hx e => by simp only [List.mem_singleton] at e; exact (h.far q hq x hx).1 e)
 ·have := h.far q hq x hx
  have l := (h.recs q hq).lt x hx
  exact ⟨this.1, this.2.1, this.2.2.1, fun e => by simp only [Option.some.injEq] at e; omega⟩
def GsS (W : World) (d : Nat) (k : K) (v : Int) (w' : World) : Prop := Touch [d] W w' ∧ (Instr.lookup 177 (.map (some d)) (.agg #[.int .u16 k.1, .string k.2]) false).run Tryz.prog w' = .ok (.int .i64 v) w'
theorem gen_entry (h : Tm W t p c (some d) nc ng Ps T N) (hk : Ok k) (hN : N ≤ 3000000000000) : ∃ (sn : Nat) (o : Obj), (Instr.mapEntry 177 (.map (some d)) (.agg #[.int .u16 k.1, .string k.2])).run Tryz.prog W.drew = .ok (.tuple #[.int .i64 (T.gn k), .int .i64 (sn : Nat)]) (setBlock W.drew d o) ∧ GsS W d k (T.gn k) (setBlock W.drew d o) ∧
  ∃ o2, (Instr.entryStore 177 (.map (some d)) (.int .i64 (sn : Nat)) (.int .i64 (T.gn k + 1))).run Tryz.prog (setBlock W.drew d o) = .ok () (setBlock (setBlock W.drew d o) d o2) ∧ ∃ ng', ng' ≤ N + 1 ∧ MapK KC (setBlock (setBlock W.drew d o) d o2) d ng' (kupd (genV T) k (.int .i64 (T.gn k + 1))) ∧ Touch [d] W (setBlock (setBlock W.drew d o) d o2) := by
 have hm : MapK KC W.drew d ng (genV T) := by
  rcases h.gm with ⟨e, _⟩ | ⟨d', e, hm⟩
  ·cases e
  ·cases e; exact hm.kept rfl
 have e0 : (genV T k).getD (.int .i64 0) = .int .i64 (T.gn k) := by
  unfold genV
  split
  ·rename_i q; rw [q]; rfl
  ·rfl
 have hl := h.lg
 obtain ⟨sn, o, q1, q2, q3⟩ := hm.entry (t := 177) Tryz.underlying177 (by unfold maxLen; omega) zero3 hk
 rw [e0] at q1 q2
 have tt : Touch [d] W (setBlock W.drew d o) := touch_setBlock (Touch.refl _ _).drew (Or.inl (by simp)) o
 have hb : (setBlock W.drew d o).heap[d]? = some o := by
  have := hm.lt
  simp only [setBlock, Array.getElem?_setIfInBounds, if_true, this]
 obtain ⟨o2, r1, r2⟩ := q3 _ (.int .i64 (T.gn k + 1)) hb
 refine ⟨sn, o, q1, ⟨tt, ?_⟩, o2, r1, _, ?_, r2, touch_setBlock tt (Or.inl (by simp)) o2⟩
 ·have := q2.look (t := 177) Tryz.underlying177 (zero3 _) hk
  simp only [kupd, if_true, Option.getD_some] at this
  exact this
 ·split <;> omega
theorem cur_del (h : Tm W t p c (some d) nc ng Ps T N) (hk : Ok k) (T1 : Touch [d] W W1) : ∃ o, (∀ ty, (Builtin.delete_ #[177, 38] ty #[.map (some c), .agg #[.int .u16 k.1, .string k.2]]).run Tryz.prog W1.drew = .ok (.tuple #[]) (setBlock W1.drew c o)) ∧ Touch [c] W1 (setBlock W1.drew c o) ∧ ∃ nc', nc' ≤ N + 1 ∧ MapK KC (setBlock W1.drew c o) c nc' (kdel (curV T) k) := by
 have hc : c ≠ d := fun e => h.gc (by rw [e])
 have hm : MapK KC W1.drew c nc (curV T) := (h.cm.keep T1 (by simp [hc])).kept rfl
 obtain ⟨o, q1, q2⟩ := hm.del (t := 177) Tryz.underlying177 hk 0
 have hl := h.lc
 refine ⟨o, fun ty => q1, touch_setBlock (Touch.refl _ _).drew (Or.inl (by simp)) o, _, ?_, q2⟩
 split <;> omega
set_option maxHeartbeats 4000000 in
set_option maxRecDepth 100000 in
theorem tGoOn_some (h : Tm w t p c (some d) nc ng Ps T N) (hN : N ≤ 3000000000000) (hL : Lv T) (hk : Ok k) : Calls Tryz.prog 105 #[PT t, kv k] w fun e w' => e = .returned (.tuple #[]) ∧ TqE w w' t (fpT t p c (some d) Ps) (goOn T k) (N + 1) := by
 obtain ⟨W, hW⟩ : ∃ W, W = w.alloc (bxK k) := ⟨_, rfl⟩
 have t0 : Touch [] w W := by rw [hW]; exact (Touch.refl _ _).alloc _
 have h1 := h.keep0 t0
 have c4 := h1.cs.c4
 have HE : Hid (∀ W1 W2 nc' ng', Touch [d] W W1 → MapK KC W1 d ng' (kupd (genV T) k (.int .i64 (T.gn k + 1))) → Touch [c] W1 W2 → MapK KC W2 c nc' (kdel (curV T) k) → ng' ≤ N + 1 → nc' ≤ N + 1 → TqE w W2 t (fpT t p c (some d) Ps) (goOn T k) (N + 1)) := fun W1 W2 nc' ng' a1 a2 a3 a4 a5 a6 => by
  obtain ⟨q1, q2⟩ := goOn_end h1 hk a1 a2 a3 a4 a5 a6
  refine TqE.from0 t0 ⟨_, ⟨p, c, some d, nc', ng', Ps, rfl, q1, hL⟩, q2.mono (fun i hi => ?_), Nf.refl _ _⟩
  simp only [List.mem_cons, List.not_mem_nil, or_false] at hi
  rcases hi with e | e
  ·exact mem_fpT.2 (Or.inr (Or.inr (Or.inr (Or.inl (by rw [e])))))
  ·exact mem_fpT.2 (Or.inr (Or.inr (Or.inl e)))
 have hWb : W.heap[w.heap.size]? = some (.cells #[.int .u16 k.1, .string k.2] 38 (0, 0)) := by rw [hW]; exact heap_alloc_new w _
 have ld := h.lt d (mem_fpT.2 (Or.inr (Or.inr (Or.inr (Or.inl rfl)))))
 obtain ⟨nt1, nt2, nt3⟩ := h1.tne
 obtain ⟨sn, o1, E1, E2, o2, E3, ng', E4, E5, E6⟩ := gen_entry h1 hk hN
 obtain ⟨o3, D1, D2, nc', D3, D4⟩ := cur_del h1 hk E6
 have HF := hid (HE.out _ _ nc' ng' E6 E5 D2 D4 E4 D3)
 have M4 : ∀ w', GsS W d k (T.gn k) w' → w'.cell? ⟨t, 4, none⟩ = some (.map (some d)) := fun w' q => cell_at (q.1.keep h1.bl (by simp only [List.mem_singleton]; exact fun e => nt3 (by rw [e]))) rfl
 have K0 : ∀ w', GsS W d k (T.gn k) w' → w'.cell? ⟨w.heap.size, 0, none⟩ = some (.int .u16 k.1) := fun w' q => cell_at (q.1.keep hWb (by simp only [List.mem_singleton]; omega)) rfl
 have K1 : ∀ w', GsS W d k (T.gn k) w' → w'.cell? ⟨w.heap.size, 1, none⟩ = some (.string k.2) := fun w' q => cell_at (q.1.keep hWb (by simp only [List.mem_singleton]; omega)) rfl
 have L0 : ∀ w', GsS W d k (T.gn k) w' → (Instr.lookup 177 (.map (some d)) (.agg #[.int .u16 k.1, .string k.2]) false).run Tryz.prog w' = .ok (.int .i64 (T.gn k)) w' := fun w' q => q.2
 have k0 : GsS W d k (T.gn k) W.drew := ⟨(Touch.refl _ _).drew, (h1.keep0 (Touch.refl _ _).drew).lookG hk⟩
 have hwr : IntKind.i64.wrap (T.gn k + 1) = T.gn k + 1 := by have := h.iv.gn k; rw [IntKind.wrap_i64]; omega
 obtain ⟨W3, hW3⟩ : ∃ W3, W3 = setBlock (setBlock W.drew d o1) d o2 := ⟨_, rfl⟩
 rw [← hW3] at HF D1 D2 D4
 have tW : Touch [d] W W3 := by rw [hW3]; exact E6
 have M3 : ∀ w', Touch [] W3 w' → w'.cell? ⟨t, 3, none⟩ = some (.map (some c)) := fun w' q => cell_at ((tW.trans q (fun _ e => by cases e)).keep h1.bl (by simp only [List.mem_singleton]; exact fun e => nt3 (by rw [e]))) rfl
 have B0 : ∀ w', Touch [] W3 w' → w'.cell? ⟨w.heap.size, 0, none⟩ = some (.int .u16 k.1) := fun w' q => cell_at ((tW.trans q (fun _ e => by cases e)).keep hWb (by simp only [List.mem_singleton]; omega)) rfl
 have B1 : ∀ w', Touch [] W3 w' → w'.cell? ⟨w.heap.size, 1, none⟩ = some (.string k.2) := fun w' q => cell_at ((tW.trans q (fun _ e => by cases e)).keep hWb (by simp only [List.mem_singleton]; omega)) rfl
 have D1' := D1 0
 clear h h1 HE E4 E5 E6 D1 D2 D3 D4 t0 hN hk tW hWb ld nt1 nt2 nt3
 unfold PT kv
 unfold bxK at hW
 have qm := eqMK_some W d
 go_enter Tryz.func105, Tryz.ntmps105
 go_upto_region 1 with fail
 rw [← hW]
 clear hW
 go_upto_region 3 with fail
 refine wp_region_L (S := GsS W d k (T.gn k)) (st := 9) (by kernel_rfl) ?_
 refine wpL_take (i := 0) (v := (.pointer (some ⟨t, 0, none⟩))) (some 13) rfl rfl (by kernel_rfl) (by kernel_rfl) (by kernel_rfl) (by kernel_rfl) (by kernel_rfl) (by decide) (fun _ _ _ h => h) (Or.inl ⟨by rfl, fun w' hS => (by go_simp)⟩) k0 ?_
 try simp only [Go.Act.put, Zx, Zy, Zz]
 refine wpL_take (i := 1) (v := (.pointer (some ⟨t, 0, none⟩))) (some 14) rfl rfl (by kernel_rfl) (by kernel_rfl) (by kernel_rfl) (by kernel_rfl) (by kernel_rfl) (by decide) (fun _ _ _ h => h) (Or.inl ⟨by rfl, fun w' hS => (by go_simp)⟩) k0 ?_
 try simp only [Go.Act.put, Zx, Zy, Zz]
 refine wpL_take (i := 2) (v := (.pointer (some ⟨t, 4, none⟩))) (some 15) rfl rfl (by kernel_rfl) (by kernel_rfl) (by kernel_rfl) (by kernel_rfl) (by kernel_rfl) (by decide) (fun _ _ _ h => h) (Or.inl ⟨by rfl, fun w' hS => (by go_simp)⟩) k0 ?_
 try simp only [Go.Act.put, Zx, Zy, Zz]
 refine wpL_take (i := 3) (v := (.map (some d))) (some 16) rfl rfl (by kernel_rfl) (by kernel_rfl) (by kernel_rfl) (by kernel_rfl) (by kernel_rfl) (by decide) (fun _ _ _ h => h) (Or.inl ⟨by rfl, fun w' hS => (by have z0 := M4 _ hS; go_simp)⟩) k0 ?_
 try simp only [Go.Act.put, Zx, Zy, Zz]
 refine wpL_take (i := 4) (v := (.agg #[.int .u16 k.1, .string k.2])) (some 17) rfl rfl (by kernel_rfl) (by kernel_rfl) (by kernel_rfl) (by kernel_rfl) (by kernel_rfl) (by decide) (fun _ _ _ h => h) (Or.inl ⟨by rfl, fun w' hS => (by have z0 := K0 _ hS; have z1 := K1 _ hS; go_simp)⟩) k0 ?_
 try simp only [Go.Act.put, Zx, Zy, Zz]
 refine wpL_take (i := 5) (v := (.int .i64 (T.gn k))) (some 18) rfl rfl (by kernel_rfl) (by kernel_rfl) (by kernel_rfl) (by kernel_rfl) (by kernel_rfl) (by decide) (fun _ _ _ h => h) (Or.inl ⟨by rfl, fun w' hS => (by have z0 := L0 _ hS; go_simp)⟩) k0 ?_
 try simp only [Go.Act.put, Zx, Zy, Zz]
 refine wpL_take (i := 6) (v := (.int .i64 (T.gn k + 1))) (some 19) rfl rfl (by kernel_rfl) (by kernel_rfl) (by kernel_rfl) (by kernel_rfl) (by kernel_rfl) (by decide) (fun _ _ _ h => h) (Or.inl ⟨by rfl, fun w' hS => (by go_simp)⟩) k0 ?_
 try simp only [Go.Act.put, Zx, Zy, Zz]
 refine wpL_ready (rs := [7]) (by kernel_rfl) (by simp) (AllL.cons (o := { dst := some 20, op := Op.mapEntry 177 (Operand.tmp 16) (Operand.tmp 17), type := 0, pos := _, after := #[{ on := 3, ground := Ground.data }, { on := 4, ground := Ground.data }, { on := 0, ground := Ground.phase }, { on := 1, ground := Ground.phase }, { on := 2, ground := Ground.phase }, { on := 3, ground := Ground.phase }, { on := 4, ground := Ground.phase }, { on := 5, ground := Ground.textOnly Departure.mapOpAssignEntry }, { on := 6, ground := Ground.textOnly Departure.mapOpAssignEntry }], guard := none }) rfl (fun K' hK => ?_) AllL.nil)
 rw [if_pos (by rfl)]
 go_simp
 refine hK.out _ _ (fun _ => E2) ?_
 clear hK
 try simp only [Go.Act.put, Zx, Zy, Zz]
 refine wpL_take (i := 8) (v := (.int .i64 (sn : Nat))) (some 21) rfl rfl (by kernel_rfl) (by kernel_rfl) (by kernel_rfl) (by kernel_rfl) (by kernel_rfl) (by decide) (fun _ _ _ h => h) (Or.inl ⟨by rfl, fun w' hS => (by go_simp)⟩) E2 ?_
 try simp only [Go.Act.put, Zx, Zy, Zz]
 refine wpL_ready (rs := [9]) (by kernel_rfl) (by simp) (AllL.cons (o := { dst := none, op := Op.entryStore 177 (Operand.tmp 16) (Operand.tmp 21) (Operand.tmp 19), type := 0, pos := _, after := #[{ on := 3, ground := Ground.data }, { on := 8, ground := Ground.data }, { on := 6, ground := Ground.data }, { on := 7, ground := Ground.chain }, { on := 0, ground := Ground.phase }, { on := 1, ground := Ground.phase }, { on := 2, ground := Ground.phase }, { on := 3, ground := Ground.phase }, { on := 4, ground := Ground.phase }, { on := 5, ground := Ground.phase }, { on := 6, ground := Ground.phase }, { on := 7, ground := Ground.phase }, { on := 8, ground := Ground.phase }], guard := none }) rfl (fun K' hK => ?_) AllL.nil)
 rw [if_pos (by rfl)]
 go_simp
 refine hK.out _ _ (fun h => absurd h (by decide)) ?_
 clear hK
 try simp only [Go.Act.put, Zx, Zy, Zz]
 refine wpL_done (by kernel_rfl) ?_ _
 rw [← hW3]
 clear hW3 E1 E2 E3 M4 K0 K1 L0 k0 hwr
 go_upto_region 4 with fail
 have k3 : Touch [] W3 W3.drew := (Touch.refl _ _).drew
 refine wp_region_L (S := fun w' => Touch [] W3 w') (st := 5) (by kernel_rfl) ?_
 refine wpL_takeY (i := 0) (v := (.pointer (some ⟨t, 0, none⟩))) (some 22) rfl rfl (by kernel_rfl) (by kernel_rfl) (by kernel_rfl) (by decide) (fun _ _ _ h => h) (Or.inl ⟨by rfl, fun w' hS => (by go_simp)⟩) (fun _ => k3) ?_
 try simp only [Go.Act.put, Zx, Zy, Zz]
 refine wpL_takeY (i := 1) (v := (.pointer (some ⟨t, 0, none⟩))) (some 23) rfl rfl (by kernel_rfl) (by kernel_rfl) (by kernel_rfl) (by decide) (fun _ _ _ h => h) (Or.inl ⟨by rfl, fun w' hS => (by go_simp)⟩) (fun _ => k3) ?_
 try simp only [Go.Act.put, Zx, Zy, Zz]
 refine wpL_takeY (i := 2) (v := (.pointer (some ⟨t, 3, none⟩))) (some 24) rfl rfl (by kernel_rfl) (by kernel_rfl) (by kernel_rfl) (by decide) (fun _ _ _ h => h) (Or.inl ⟨by rfl, fun w' hS => (by go_simp)⟩) (fun _ => k3) ?_
 try simp only [Go.Act.put, Zx, Zy, Zz]
 refine wpL_take (i := 3) (v := (.map (some c))) (some 25) rfl rfl (by kernel_rfl) (by kernel_rfl) (by kernel_rfl) (by kernel_rfl) (by kernel_rfl) (by decide) (fun _ _ _ h => h) (Or.inl ⟨by rfl, fun w' hS => (by have z0 := M3 _ hS; go_simp)⟩) k3 ?_
 try simp only [Go.Act.put, Zx, Zy, Zz]
 refine wpL_take (i := 4) (v := (.agg #[.int .u16 k.1, .string k.2])) (some 26) rfl rfl (by kernel_rfl) (by kernel_rfl) (by kernel_rfl) (by kernel_rfl) (by kernel_rfl) (by decide) (fun _ _ _ h => h) (Or.inl ⟨by rfl, fun w' hS => (by have z0 := B0 _ hS; have z1 := B1 _ hS; go_simp)⟩) k3 ?_
 try simp only [Go.Act.put, Zx, Zy, Zz]
 refine wpL_ready (rs := [5]) (by kernel_rfl) (by simp) (AllL.cons (o := { dst := none, op := Op.call { callee := Callee.builtin Builtin.delete, args := #[Operand.tmp 25, Operand.tmp 26], argTypes := #[177, 38] }, type := 0, pos := _, after := #[{ on := 3, ground := Ground.data }, { on := 4, ground := Ground.data }], guard := none }) rfl (fun K' hK => ?_) AllL.nil)
 rw [if_pos (by rfl)]
 go_simp
 refine hK.out _ _ (fun h => absurd h (by decide)) ?_
 clear hK
 try simp only [Go.Act.put, Zx, Zy, Zz]
 refine wpL_done (by kernel_rfl) ?_ _
 go_wp2
 go_end0
 exact ⟨rfl, HF.out⟩
set_option maxHeartbeats 4000000 in
set_option maxRecDepth 100000 in
theorem tGoOn_none (h : Tm w t p c none nc ng Ps T N) (hN : N ≤ 3000000000000) (hL : Lv T) (hk : Ok k) : Calls Tryz.prog 105 #[PT t, kv k] w fun e w' => e = .returned (.tuple #[]) ∧ TqE w w' t (fpT t p c none Ps) (goOn T k) (N + 1) := by
 obtain ⟨V, hV⟩ : ∃ V, V = w.alloc (bxK k) := ⟨_, rfl⟩
 have tV : Touch [] w V := by rw [hV]; exact (Touch.refl _ _).alloc _
 have h0 := h.keep0 tV
 have c4v := h0.cs.c4
 have fv := h0.fz
 obtain ⟨h1, t1⟩ := h0.made
 obtain ⟨d, hd⟩ : ∃ d, d = V.heap.size := ⟨_, rfl⟩
 obtain ⟨W, hW⟩ : ∃ W, W = (V.alloc (.map #[] 0)).setCell ⟨t, 4, none⟩ (.map (some d)) := ⟨_, rfl⟩
 rw [← hd] at h1 t1
 rw [← hW] at h1 t1
 have hVb : V.heap[w.heap.size]? = some (.cells #[.int .u16 k.1, .string k.2] 38 (0, 0)) := by rw [hV]; exact heap_alloc_new w _
 have lt := h.lt t (mem_fpT.2 (Or.inl rfl))
 have ltV := h0.lt t (mem_fpT.2 (Or.inl rfl))
 have hlV : w.heap.size < V.heap.size := block_lt hVb
 have hcm : (V.alloc (.map #[] 0)).setCell ⟨t, 4, none⟩ (.map (some d)) = (V.setCell ⟨t, 4, none⟩ (.map (some d))).alloc (.map #[] 0) := by go_simp
 rw [hcm] at hW
 clear hcm
 have c4 := h1.cs.c4
 have HE : Hid (∀ W1 W2 nc' ng', Touch [d] W W1 → MapK KC W1 d ng' (kupd (genV T) k (.int .i64 (T.gn k + 1))) → Touch [c] W1 W2 → MapK KC W2 c nc' (kdel (curV T) k) → ng' ≤ N + 1 → nc' ≤ N + 1 → TqE w W2 t (fpT t p c none Ps) (goOn T k) (N + 1)) := fun W1 W2 nc' ng' a1 a2 a3 a4 a5 a6 => by
  obtain ⟨q1, q2⟩ := goOn_end h1 hk a1 a2 a3 a4 a5 a6
  have hz := tV.size
  refine TqE.from0 tV ⟨_, ⟨p, c, some d, nc', ng', Ps, rfl, q1, hL⟩, (t1.mono (fun i hi => ?_)).trans q2 (fun i hi => ?_), fun i hi => ?_⟩
  ·simp only [List.mem_singleton] at hi; exact mem_fpT.2 (Or.inl hi)
  ·simp only [List.mem_cons, List.not_mem_nil, or_false] at hi
   rcases hi with e | e
   ·exact Or.inr (by omega)
   ·exact Or.inl (mem_fpT.2 (Or.inr (Or.inr (Or.inl e))))
  ·rcases mem_fpT.1 hi with e | e | e | e | e
   ·exact Or.inl (mem_fpT.2 (Or.inl e))
   ·exact Or.inl (mem_fpT.2 (Or.inr (Or.inl e)))
   ·exact Or.inl (mem_fpT.2 (Or.inr (Or.inr (Or.inl e))))
   ·simp only [Option.some.injEq] at e; exact Or.inr (by omega)
   ·exact Or.inl (mem_fpT.2 (Or.inr (Or.inr (Or.inr (Or.inr e)))))
 have hWb : W.heap[w.heap.size]? = some (.cells #[.int .u16 k.1, .string k.2] 38 (0, 0)) := t1.keep hVb (by simp only [List.mem_singleton]; omega)
 obtain ⟨nt1, nt2, nt3⟩ := h1.tne
 obtain ⟨sn, o1, E1, E2, o2, E3, ng', E4, E5, E6⟩ := gen_entry h1 hk hN
 obtain ⟨o3, D1, D2, nc', D3, D4⟩ := cur_del h1 hk E6
 have HF := hid (HE.out _ _ nc' ng' E6 E5 D2 D4 E4 D3)
 have M4 : ∀ w', GsS W d k (T.gn k) w' → w'.cell? ⟨t, 4, none⟩ = some (.map (some d)) := fun w' q => cell_at (q.1.keep h1.bl (by simp only [List.mem_singleton]; exact fun e => nt3 (by rw [e]))) rfl
 have K0 : ∀ w', GsS W d k (T.gn k) w' → w'.cell? ⟨w.heap.size, 0, none⟩ = some (.int .u16 k.1) := fun w' q => cell_at (q.1.keep hWb (by simp only [List.mem_singleton]; omega)) rfl
 have K1 : ∀ w', GsS W d k (T.gn k) w' → w'.cell? ⟨w.heap.size, 1, none⟩ = some (.string k.2) := fun w' q => cell_at (q.1.keep hWb (by simp only [List.mem_singleton]; omega)) rfl
 have L0 : ∀ w', GsS W d k (T.gn k) w' → (Instr.lookup 177 (.map (some d)) (.agg #[.int .u16 k.1, .string k.2]) false).run Tryz.prog w' = .ok (.int .i64 (T.gn k)) w' := fun w' q => q.2
 have k0 : GsS W d k (T.gn k) W.drew := ⟨(Touch.refl _ _).drew, (h1.keep0 (Touch.refl _ _).drew).lookG hk⟩
 have hwr : IntKind.i64.wrap (T.gn k + 1) = T.gn k + 1 := by have := h.iv.gn k; rw [IntKind.wrap_i64]; omega
 obtain ⟨W3, hW3⟩ : ∃ W3, W3 = setBlock (setBlock W.drew d o1) d o2 := ⟨_, rfl⟩
 rw [← hW3] at HF D1 D2 D4
 have tW : Touch [d] W W3 := by rw [hW3]; exact E6
 have M3 : ∀ w', Touch [] W3 w' → w'.cell? ⟨t, 3, none⟩ = some (.map (some c)) := fun w' q => cell_at ((tW.trans q (fun _ e => by cases e)).keep h1.bl (by simp only [List.mem_singleton]; exact fun e => nt3 (by rw [e]))) rfl
 have B0 : ∀ w', Touch [] W3 w' → w'.cell? ⟨w.heap.size, 0, none⟩ = some (.int .u16 k.1) := fun w' q => cell_at ((tW.trans q (fun _ e => by cases e)).keep hWb (by simp only [List.mem_singleton]; omega)) rfl
 have B1 : ∀ w', Touch [] W3 w' → w'.cell? ⟨w.heap.size, 1, none⟩ = some (.string k.2) := fun w' q => cell_at ((tW.trans q (fun _ e => by cases e)).keep hWb (by simp only [List.mem_singleton]; omega)) rfl
 have D1' := D1 0
 clear h h0 h1 HE E4 E5 E6 D1 D2 D3 D4 tV t1 hN hk tW hWb hVb lt hlV nt1 nt2 nt3
 unfold PT kv
 unfold bxK at hV
 have qm := eqMK_none V
 have hmm := @run_makeMap Tryz.prog
 go_enter Tryz.func105, Tryz.ntmps105
 go_upto_region 1 with fail
 rw [← hV]
 clear hV
 go_upto_region 2 with fail
 go_wp2_with fail
 rw [← hd, ← hW]
 clear hd hW c4v fv hmm ltV
 go_upto_region 3 with fail
 refine wp_region_L (S := GsS W d k (T.gn k)) (st := 9) (by kernel_rfl) ?_
 refine wpL_take (i := 0) (v := (.pointer (some ⟨t, 0, none⟩))) (some 13) rfl rfl (by kernel_rfl) (by kernel_rfl) (by kernel_rfl) (by kernel_rfl) (by kernel_rfl) (by decide) (fun _ _ _ h => h) (Or.inl ⟨by rfl, fun w' hS => (by go_simp)⟩) k0 ?_
 try simp only [Go.Act.put, Zx, Zy, Zz]
 refine wpL_take (i := 1) (v := (.pointer (some ⟨t, 0, none⟩))) (some 14) rfl rfl (by kernel_rfl) (by kernel_rfl) (by kernel_rfl) (by kernel_rfl) (by kernel_rfl) (by decide) (fun _ _ _ h => h) (Or.inl ⟨by rfl, fun w' hS => (by go_simp)⟩) k0 ?_
 try simp only [Go.Act.put, Zx, Zy, Zz]
 refine wpL_take (i := 2) (v := (.pointer (some ⟨t, 4, none⟩))) (some 15) rfl rfl (by kernel_rfl) (by kernel_rfl) (by kernel_rfl) (by kernel_rfl) (by kernel_rfl) (by decide) (fun _ _ _ h => h) (Or.inl ⟨by rfl, fun w' hS => (by go_simp)⟩) k0 ?_
 try simp only [Go.Act.put, Zx, Zy, Zz]
 refine wpL_take (i := 3) (v := (.map (some d))) (some 16) rfl rfl (by kernel_rfl) (by kernel_rfl) (by kernel_rfl) (by kernel_rfl) (by kernel_rfl) (by decide) (fun _ _ _ h => h) (Or.inl ⟨by rfl, fun w' hS => (by have z0 := M4 _ hS; go_simp)⟩) k0 ?_
 try simp only [Go.Act.put, Zx, Zy, Zz]
 refine wpL_take (i := 4) (v := (.agg #[.int .u16 k.1, .string k.2])) (some 17) rfl rfl (by kernel_rfl) (by kernel_rfl) (by kernel_rfl) (by kernel_rfl) (by kernel_rfl) (by decide) (fun _ _ _ h => h) (Or.inl ⟨by rfl, fun w' hS => (by have z0 := K0 _ hS; have z1 := K1 _ hS; go_simp)⟩) k0 ?_
 try simp only [Go.Act.put, Zx, Zy, Zz]
 refine wpL_take (i := 5) (v := (.int .i64 (T.gn k))) (some 18) rfl rfl (by kernel_rfl) (by kernel_rfl) (by kernel_rfl) (by kernel_rfl) (by kernel_rfl) (by decide) (fun _ _ _ h => h) (Or.inl ⟨by rfl, fun w' hS => (by have z0 := L0 _ hS; go_simp)⟩) k0 ?_
 try simp only [Go.Act.put, Zx, Zy, Zz]
 refine wpL_take (i := 6) (v := (.int .i64 (T.gn k + 1))) (some 19) rfl rfl (by kernel_rfl) (by kernel_rfl) (by kernel_rfl) (by kernel_rfl) (by kernel_rfl) (by decide) (fun _ _ _ h => h) (Or.inl ⟨by rfl, fun w' hS => (by go_simp)⟩) k0 ?_
 try simp only [Go.Act.put, Zx, Zy, Zz]
 refine wpL_ready (rs := [7]) (by kernel_rfl) (by simp) (AllL.cons (o := { dst := some 20, op := Op.mapEntry 177 (Operand.tmp 16) (Operand.tmp 17), type := 0, pos := _, after := #[{ on := 3, ground := Ground.data }, { on := 4, ground := Ground.data }, { on := 0, ground := Ground.phase }, { on := 1, ground := Ground.phase }, { on := 2, ground := Ground.phase }, { on := 3, ground := Ground.phase }, { on := 4, ground := Ground.phase }, { on := 5, ground := Ground.textOnly Departure.mapOpAssignEntry }, { on := 6, ground := Ground.textOnly Departure.mapOpAssignEntry }], guard := none }) rfl (fun K' hK => ?_) AllL.nil)
 rw [if_pos (by rfl)]
 go_simp
 refine hK.out _ _ (fun _ => E2) ?_
 clear hK
 try simp only [Go.Act.put, Zx, Zy, Zz]
 refine wpL_take (i := 8) (v := (.int .i64 (sn : Nat))) (some 21) rfl rfl (by kernel_rfl) (by kernel_rfl) (by kernel_rfl) (by kernel_rfl) (by kernel_rfl) (by decide) (fun _ _ _ h => h) (Or.inl ⟨by rfl, fun w' hS => (by go_simp)⟩) E2 ?_
 try simp only [Go.Act.put, Zx, Zy, Zz]
 refine wpL_ready (rs := [9]) (by kernel_rfl) (by simp) (AllL.cons (o := { dst := none, op := Op.entryStore 177 (Operand.tmp 16) (Operand.tmp 21) (Operand.tmp 19), type := 0, pos := _, after := #[{ on := 3, ground := Ground.data }, { on := 8, ground := Ground.data }, { on := 6, ground := Ground.data }, { on := 7, ground := Ground.chain }, { on := 0, ground := Ground.phase }, { on := 1, ground := Ground.phase }, { on := 2, ground := Ground.phase }, { on := 3, ground := Ground.phase }, { on := 4, ground := Ground.phase }, { on := 5, ground := Ground.phase }, { on := 6, ground := Ground.phase }, { on := 7, ground := Ground.phase }, { on := 8, ground := Ground.phase }], guard := none }) rfl (fun K' hK => ?_) AllL.nil)
 rw [if_pos (by rfl)]
 go_simp
 refine hK.out _ _ (fun h => absurd h (by decide)) ?_
 clear hK
 try simp only [Go.Act.put, Zx, Zy, Zz]
 refine wpL_done (by kernel_rfl) ?_ _
 rw [← hW3]
 clear hW3 E1 E2 E3 M4 K0 K1 L0 k0 hwr
 go_upto_region 4 with fail
 have k3 : Touch [] W3 W3.drew := (Touch.refl _ _).drew
 refine wp_region_L (S := fun w' => Touch [] W3 w') (st := 5) (by kernel_rfl) ?_
 refine wpL_takeY (i := 0) (v := (.pointer (some ⟨t, 0, none⟩))) (some 22) rfl rfl (by kernel_rfl) (by kernel_rfl) (by kernel_rfl) (by decide) (fun _ _ _ h => h) (Or.inl ⟨by rfl, fun w' hS => (by go_simp)⟩) (fun _ => k3) ?_
 try simp only [Go.Act.put, Zx, Zy, Zz]
 refine wpL_takeY (i := 1) (v := (.pointer (some ⟨t, 0, none⟩))) (some 23) rfl rfl (by kernel_rfl) (by kernel_rfl) (by kernel_rfl) (by decide) (fun _ _ _ h => h) (Or.inl ⟨by rfl, fun w' hS => (by go_simp)⟩) (fun _ => k3) ?_
 try simp only [Go.Act.put, Zx, Zy, Zz]
 refine wpL_takeY (i := 2) (v := (.pointer (some ⟨t, 3, none⟩))) (some 24) rfl rfl (by kernel_rfl) (by kernel_rfl) (by kernel_rfl) (by decide) (fun _ _ _ h => h) (Or.inl ⟨by rfl, fun w' hS => (by go_simp)⟩) (fun _ => k3) ?_
 try simp only [Go.Act.put, Zx, Zy, Zz]
 refine wpL_take (i := 3) (v := (.map (some c))) (some 25) rfl rfl (by kernel_rfl) (by kernel_rfl) (by kernel_rfl) (by kernel_rfl) (by kernel_rfl) (by decide) (fun _ _ _ h => h) (Or.inl ⟨by rfl, fun w' hS => (by have z0 := M3 _ hS; go_simp)⟩) k3 ?_
 try simp only [Go.Act.put, Zx, Zy, Zz]
 refine wpL_take (i := 4) (v := (.agg #[.int .u16 k.1, .string k.2])) (some 26) rfl rfl (by kernel_rfl) (by kernel_rfl) (by kernel_rfl) (by kernel_rfl) (by kernel_rfl) (by decide) (fun _ _ _ h => h) (Or.inl ⟨by rfl, fun w' hS => (by have z0 := B0 _ hS; have z1 := B1 _ hS; go_simp)⟩) k3 ?_
 try simp only [Go.Act.put, Zx, Zy, Zz]
 refine wpL_ready (rs := [5]) (by kernel_rfl) (by simp) (AllL.cons (o := { dst := none, op := Op.call { callee := Callee.builtin Builtin.delete, args := #[Operand.tmp 25, Operand.tmp 26], argTypes := #[177, 38] }, type := 0, pos := _, after := #[{ on := 3, ground := Ground.data }, { on := 4, ground := Ground.data }], guard := none }) rfl (fun K' hK => ?_) AllL.nil)
 rw [if_pos (by rfl)]
 go_simp
 refine hK.out _ _ (fun h => absurd h (by decide)) ?_
 clear hK
 try simp only [Go.Act.put, Zx, Zy, Zz]
 refine wpL_done (by kernel_rfl) ?_ _
 go_wp2
 go_end0
 exact ⟨rfl, HF.out⟩
theorem goOnT {t : Nat} {F : List Nat} (h : Tq w t F T N) (hN : N ≤ 3000000000000) (hk : Ok k) : Calls Tryz.prog 105 #[PT t, kv k] w fun e w' => e = .returned (.tuple #[]) ∧ TqE w w' t F (goOn T k) (N + 1) := by
 obtain ⟨p, c, g, nc, ng, Ps, rfl, h, hL⟩ := h
 cases g with
 | none => exact tGoOn_none h hN hL hk
 | some d => exact tGoOn_some h hN hL hk
end
end Go.Proofs.YtkfophlhpjbmgaaGreat.Ta
/- The contracts of gone, Leave and Release. -/
namespace Go.Proofs.YtkfophlhpjbmgaaGreat.Ta
open Go.RowKit Go.Maps Go.ChangeMaps
def bxR (R : Rn) : Obj := .cells #[.int .i64 R.run, .int .u16 R.sp, .string R.nm, .int .i64 R.gen, .bool R.rf] 53
def bxG : Obj := .cells #[.bool false, .bool false] 141
section
variable (w : World) (t : Nat) (F : List Nat) (T : Tb) (N : Nat)
theorem curBy_mem {R : Rn} {S : St} (h : Ti T N) (hR : (R, S) ∈ T.rs) : curBy T R.run = isCur T R := by
 unfold curBy
 have := runOf_of_mem h hR
 simp only at this
 rw [this]
set_option maxHeartbeats 2000000 in
theorem goneTc (h : Tq w t F T N) (hN : N ≤ 3000000000000) (R : Rn) (S : St) (hR : (R, S) ∈ T.rs) (cc : Bool) : Calls Tryz.prog 106 #[PT t, rv R, .bool cc] w fun e w' => e = .returned (.agg #[.bool cc, .bool (goneB T R cc)]) ∧ TqE w w' t F (goneT T R cc) (N + 1) := by
 obtain ⟨W, hW⟩ : ∃ W, W = (w.alloc (bxR R)).alloc bxG := ⟨_, rfl⟩
 have t0 : Touch [] w W := by rw [hW]; exact ((Touch.refl _ _).alloc _).alloc _
 have hF := h.lt
 have h1 := h.keep0 t0
 have hk : Ok (kOf R) := h.iv.ok _ hR
 have hr := h.iv.rng _ hR
 have hbg := h.iv.bg.2
 simp only at hr
 have HI := hid (isCurT W t F T N h1 hN R.run (W64.mk (by omega) (by omega)))
 rw [curBy_mem T N h.iv hR] at HI
 have HO : Hid (∀ w2, Touch [] W w2 → Calls Tryz.prog 105 #[PT t, kv (kOf R)] w2 fun e w' => e = .returned (.tuple #[]) ∧ TqE W w' t F (goOn T (kOf R)) (N + 1)) := fun w2 T' => (goOnT (h1.keep0 T') hN hk).mono (fun e w' hh => ⟨hh.1, TqE.from0 T' hh.2⟩)
 have hsz : W.heap.size = w.heap.size + 1 + 1 := by rw [hW]; simp
 have hb1 : W.heap[w.heap.size + 1]? = some (.cells #[.bool false, .bool false] 141 (0, 0)) := by rw [hW]; have := heap_alloc_new (w.alloc (bxR R)) bxG; rwa [World.size_alloc] at this
 have hb0 : W.heap[w.heap.size]? = some (.cells #[.int .i64 R.run, .int .u16 R.sp, .string R.nm, .int .i64 R.gen, .bool R.rf] 53 (0, 0)) := by rw [hW]; exact (Below.heap_alloc _ _ _ (by simp)).trans (heap_alloc_new w (bxR R))
 have H0 : Hid (∀ w2, Touch [] W w2 → w2.cell? ⟨w.heap.size, 0, none⟩ = some (.int .i64 R.run) ∧ w2.cell? ⟨w.heap.size, 1, none⟩ = some (.int .u16 R.sp) ∧ w2.cell? ⟨w.heap.size, 2, none⟩ = some (.string R.nm)) := fun w2 T' => by
  have q := T'.keep hb0 (by simp)
  exact ⟨cell_at q rfl, cell_at q rfl, cell_at q rfl⟩
 have H1 : Hid (∀ w2, Touch F W w2 → w2.cell? ⟨w.heap.size + 1, 0, none⟩ = some (.bool false) ∧ w2.cell? ⟨w.heap.size + 1, 1, none⟩ = some (.bool false) ∧ ∀ i, w2.frozen? ⟨w.heap.size + 1, i, none⟩ = false) := fun w2 T' => by
  have q := T'.keep hb1 (fun e => by have := hF _ e; omega)
  exact ⟨cell_at q rfl, cell_at q rfl, froz_at q⟩
 have HT : Hid (∀ w1 w2 T1, TqE W w1 t F T1 (N + 1) → Touch [w.heap.size + 1] w1 w2 → TqE w w2 t F T1 (N + 1)) := fun w1 w2 T1 q T2 => TqE.box t0 q hF (by omega) (by omega) T2
 have HS : Hid (∀ w1, Touch [] W w1 → TqE W w1 t F T (N + 1)) := fun w1 T' => TqE.touch h1 T' (Nat.le_succ N)
 have HTF : Hid (∀ w1, TqE W w1 t F (goOn T (kOf R)) (N + 1) → Touch F W w1) := fun w1 q => by obtain ⟨_, _, q, _⟩ := q; exact q
 have TR : Touch [] W W := Touch.refl _ _
 obtain ⟨x0, x1, x2⟩ := H0.out W TR
 obtain ⟨y0, y1, yf⟩ := H1.out W (Touch.refl _ _)
 have tset : ∀ (w1 : World) (b1 b2 : Bool), Touch [w.heap.size + 1] w1 ((w1.setCell ⟨w.heap.size + 1, 0, none⟩ (.bool b1)).setCell ⟨w.heap.size + 1, 1, none⟩ (.bool b2)) := fun w1 b1 b2 => ((Touch.refl _ _).setCell (Or.inl (by simp)) _).setCell (Or.inl (by simp)) _
 have TS := hid tset
 clear h h1 hF hk hr hbg hb0 hb1 tset
 unfold goneT goneB
 unfold kv kOf at HO
 unfold bxR bxG at hW
 unfold PT rv at *
 cases cc with
 | false =>
  simp only [Bool.false_and]
  rw [if_neg (by simp)]
  go_enter Tryz.func106, Tryz.ntmps106
  go_upto_region 1 with fail
  rw [← hW]
  clear hW
  go_wp2
  exact bodyPost_ret (v := .agg #[.bool false, .bool false]) (by simp [results, Tryz.results106, go_sem, y0, y1]) rfl ⟨rfl, HT.out _ _ _ (HS.out _ TR) (TS.out _ _ _)⟩
 | true =>
  simp only [Bool.true_and]
  cases hc : isCur T R with
  | false =>
   rw [hc] at HI
   rw [if_neg (by simp)]
   clear hc
   go_enter Tryz.func106, Tryz.ntmps106
   go_upto_region 1 with fail
   rw [← hW]
   clear hW
   go_wp2_with (go_at_call 94; refine HI.out.mono ?_; rintro e w2 ⟨rfl, t2⟩; clear x0 x1 x2 y0 y1 yf; obtain ⟨y0, y1, yf⟩ := H1.out w2 (t2.mono (fun _ e => by cases e)); have T2 := hid t2; clear t2)
   exact bodyPost_ret (v := .agg #[.bool true, .bool false]) (by simp [results, Tryz.results106, go_sem, y0, y1]) rfl ⟨rfl, HT.out _ _ _ (HS.out _ T2.out) (TS.out _ _ _)⟩
  | true =>
   rw [hc] at HI
   rw [if_pos (by simp)]
   clear hc
   go_enter Tryz.func106, Tryz.ntmps106
   go_upto_region 1 with fail
   rw [← hW]
   clear hW
   go_wp2_with (first
    | (go_at_call 94; refine HI.out.mono ?_; rintro e w2 ⟨rfl, t2⟩; clear x0 x1 x2 y0 y1 yf; obtain ⟨x0, x1, x2⟩ := H0.out w2 t2; have T2 := hid t2; clear t2)
    | (go_at_call 105; refine (HO.out _ T2.out).mono ?_; rintro e w3 ⟨rfl, r3⟩; clear x0 x1 x2; obtain ⟨y0, y1, yf⟩ := H1.out w3 (HTF.out _ r3); have R3 := hid r3; clear r3))
   exact bodyPost_ret (v := .agg #[.bool true, .bool true]) (by simp [results, Tryz.results106, go_sem, y0, y1]) rfl ⟨rfl, HT.out _ _ _ R3.out (TS.out _ _ _)⟩
theorem mem_setS {n : Int} {R : Rn} {S S' : St} (h : (R, S) ∈ T.rs) (hn : R.run = n) : (R, S') ∈ (setS T n S').rs := by
 simp only [setS, List.mem_map]
 exact ⟨(R, S), h, by simp [putS, hn]⟩
structure Stp (W w2 : World) (t : Nat) (F F1 : List Nat) (T1 : Tb) (q : Rb) (S' : St) (N : Nat) : Prop where
 tq : Tq w2 t F1 T1 N
 tf : Touch F W w2
 nf : Nf W F F1
 rq : ∃ F', Rq w2 q.b F' q.R S' N
theorem Tm.stp {W w2 : World} {t p c : Nat} {g : Option Nat} {nc ng : Nat} {A B : List Rb} {q : Rb} {T : Tb} {N M : Nat} {S' : St} (h : Tm W t p c g nc ng (A ++ q :: B) T N) (hN : N ≤ M) (hL : Lv T) (E : RqE W w2 q.b q.F q.R S' M) (hE : S'.ended = false) : ∃ F1, Stp W w2 t (fpT t p c g (A ++ q :: B)) F1 (setS T q.R.run S') q S' M := by
 obtain ⟨f, r1, r2, r3⟩ := h.step E hN
 obtain ⟨F', e1, _⟩ := E
 exact ⟨_, ⟨_, _, _, _, _, _, rfl, r1, hL.setS hE⟩, r2.mono fp_rec, fp_step r3, F', e1⟩
set_option maxHeartbeats 2000000 in
theorem tLeave_no (h : Tq w t F T N) (n x : Int) (hn : W64 n) (hr : runOf T n = none) : Calls Tryz.prog 104 #[PT t, .int .i64 n, .int .i64 x] w fun e w' => e = .returned (.tuple #[.agg #[.bool false, .bool false], .int .i64 122]) ∧ Touch [] w w' := by
 obtain ⟨p, c, g, nc, ng, Ps, rfl, h, hL⟩ := h
 have HR := hid (fun o => tRecord (h.keep0 ((Touch.refl _ _).alloc o)) n hn)
 rw [h.notIn hr] at HR
 simp only [Option.getD_none] at HR
 clear h
 unfold PT at *
 go_enter Tryz.func104, Tryz.ntmps104
 go_wp2_with (go_at_call 91; refine (HR.out _).mono ?_; rintro e w2 ⟨rfl, rfl⟩)
 refine bodyPost_ret (v := .tuple #[.agg #[.bool false, .bool false], .int .i64 122]) (by simp [results, Tryz.results104, go_sem]) rfl ⟨rfl, ?_⟩
 repeat (first | exact Touch.refl _ _ | apply Touch.alloc | (refine Touch.setCell ?_ (Or.inr (by simp)) _))
set_option maxHeartbeats 2000000 in
theorem tRel_no (h : Tq w t F T N) (n : Int) (hn : W64 n) (hr : runOf T n = none) : Calls Tryz.prog 57 #[PT t, .int .i64 n] w fun e w' => e = .returned (.tuple #[.agg #[.bool false, .bool false], .int .i64 122]) ∧ Touch [] w w' := by
 obtain ⟨p, c, g, nc, ng, Ps, rfl, h, hL⟩ := h
 have HR := hid (fun o => tRecord (h.keep0 ((Touch.refl _ _).alloc o)) n hn)
 rw [h.notIn hr] at HR
 simp only [Option.getD_none] at HR
 clear h
 unfold PT at *
 go_enter Tryz.func57, Tryz.ntmps57
 go_wp2_with (go_at_call 91; refine (HR.out _).mono ?_; rintro e w2 ⟨rfl, rfl⟩)
 refine bodyPost_ret (v := .tuple #[.agg #[.bool false, .bool false], .int .i64 122]) (by simp [results, Tryz.results57, go_sem]) rfl ⟨rfl, ?_⟩
 repeat (first | exact Touch.refl _ _ | apply Touch.alloc | (refine Touch.setCell ?_ (Or.inr (by simp)) _))
set_option maxHeartbeats 4000000 in
theorem tLeave_at {p c : Nat} {g : Option Nat} {nc ng : Nat} {A B : List Rb} {q : Rb} (h : Tm w t p c g nc ng (A ++ q :: B) T N) (hN : N ≤ 3000000000000) (hL : Lv T) (x : Int) (hx : W64 x) :
  Calls Tryz.prog 104 #[PT t, .int .i64 q.R.run, .int .i64 x] w fun e w' => e = .returned (.tuple #[.agg #[.bool (leaveB q.S x), .bool (goneB T q.R (leaveB q.S x))], .int .i64 (leaveE q.S x)]) ∧ TqE w w' t (fpT t p c g (A ++ q :: B)) (goneT (setS T q.R.run (leaveS q.S x)) q.R (leaveB q.S x)) (N + 1) := by
 obtain ⟨F, hFe⟩ : ∃ F, F = fpT t p c g (A ++ q :: B) := ⟨_, rfl⟩
 obtain ⟨W, hW⟩ : ∃ W, W = w.alloc bxG := ⟨_, rfl⟩
 have t0 : Touch [] w W := by rw [hW]; exact (Touch.refl _ _).alloc _
 have hF : ∀ d, d ∈ F → d < w.heap.size := by rw [hFe]; exact h.lt
 have h1 := h.keep0 t0
 have HR := hid (tRecord_at h1 hN)
 have HLv := hid (leave10 W q.b N q.F q.R q.S (h1.recs q (by simp)) hN x hx)
 have hE := leave_live (hL _ h.memR) x
 have HP : Hid (∀ w2, RqE W w2 q.b q.F q.R (leaveS q.S x) N → ∃ F1, Stp W w2 t F F1 (setS T q.R.run (leaveS q.S x)) q (leaveS q.S x) N) := fun w2 e => by rw [hFe]; exact h1.stp (Nat.le_refl N) hL e hE
 have hm := mem_setS T (S' := leaveS q.S x) h.memR rfl
 have HG : Hid (∀ w2 F1 w3, Stp W w2 t F F1 (setS T q.R.run (leaveS q.S x)) q (leaveS q.S x) N → Touch [] w2 w3 → Calls Tryz.prog 106 #[PT t, rv q.R, .bool (leaveB q.S x)] w3 fun e w' => e = .returned (.agg #[.bool (leaveB q.S x), .bool (goneB T q.R (leaveB q.S x))]) ∧ TqE W w' t F (goneT (setS T q.R.run (leaveS q.S x)) q.R (leaveB q.S x)) (N + 1)) := fun w2 F1 w3 s T' => (goneTc w3 t F1 _ N (s.tq.keep0 T') hN q.R _ hm _).mono (fun e w' hh => ⟨hh.1, TqE.trans (T1 := T) s.tf s.nf (TqE.from0 T' hh.2)⟩)
 have HRn : Hid (∀ w2 F1, Stp W w2 t F F1 (setS T q.R.run (leaveS q.S x)) q (leaveS q.S x) N → Calls Tryz.prog 92 #[PT q.b] w2 fun e w' => e = .returned (rv q.R) ∧ Touch [] w2 w') := fun w2 F1 s => by
  obtain ⟨F', rq⟩ := s.rq
  exact run8 w2 q.b N F' q.R _ rq
 have HZ : Hid (leaveE q.S x ≠ 0 → ∀ w2 F1 w3, Stp W w2 t F F1 (setS T q.R.run (leaveS q.S x)) q (leaveS q.S x) N → Touch [w.heap.size] w2 w3 → leaveB q.S x = false ∧ TqE w w3 t F (goneT (setS T q.R.run (leaveS q.S x)) q.R (leaveB q.S x)) (N + 1)) := fun hz w2 F1 w3 s T3 => by
  have hb : leaveB q.S x = false := by unfold leaveB; rw [if_neg hz]
  refine ⟨hb, ?_⟩
  rw [hb]
  have e2 : goneT (setS T q.R.run (leaveS q.S x)) q.R false = setS T q.R.run (leaveS q.S x) := by simp [goneT, goneB]
  rw [e2]
  exact TqE.box t0 ⟨F1, s.tq.mono (Nat.le_succ N), s.tf, s.nf⟩ hF (Nat.le_refl _) (by rw [hW]; simp) T3
 have HT : Hid (∀ w1 w2 T1, TqE W w1 t F T1 (N + 1) → Touch [w.heap.size] w1 w2 → TqE w w2 t F T1 (N + 1)) := fun w1 w2 T1 q' T2 => TqE.box t0 q' hF (Nat.le_refl _) (by rw [hW]; simp) T2
 have hb1 : W.heap[w.heap.size]? = some (.cells #[.bool false, .bool false] 141 (0, 0)) := by rw [hW]; exact heap_alloc_new w bxG
 have H1 : Hid (∀ w2, Touch F W w2 → w2.cell? ⟨w.heap.size, 0, none⟩ = some (.bool false) ∧ w2.cell? ⟨w.heap.size, 1, none⟩ = some (.bool false) ∧ ∀ i, w2.frozen? ⟨w.heap.size, i, none⟩ = false) := fun w2 T' => by
  have q' := T'.keep hb1 (fun e => by have := hF _ e; omega)
  exact ⟨cell_at q' rfl, cell_at q' rfl, froz_at q'⟩
 have HTF : Hid (∀ w1 T1, TqE W w1 t F T1 (N + 1) → Touch F W w1) := fun w1 T1 q' => by obtain ⟨_, _, q', _⟩ := q'; exact q'
 have tset : ∀ (w1 : World) (b1 b2 : Bool), Touch [w.heap.size] w1 ((w1.setCell ⟨w.heap.size, 0, none⟩ (.bool b1)).setCell ⟨w.heap.size, 1, none⟩ (.bool b2)) := fun w1 b1 b2 => ((Touch.refl _ _).setCell (Or.inl (by simp)) _).setCell (Or.inl (by simp)) _
 have TS := hid tset
 rw [← hFe]
 clear h h1 hF hm hb1 tset hE t0 hFe hL
 unfold bxG at hW
 by_cases hz : leaveE q.S x = 0
 ·rw [hz] at HLv ⊢
  clear HZ hz
  generalize goneT (setS T q.R.run (leaveS q.S x)) q.R (leaveB q.S x) = T2 at *
  generalize setS T q.R.run (leaveS q.S x) = T1 at *
  generalize goneB T q.R (leaveB q.S x) = B2 at *
  generalize leaveS q.S x = S' at *
  generalize leaveB q.S x = B1 at *
  unfold PT rv at *
  go_enter Tryz.func104, Tryz.ntmps104
  go_upto_region 1 with fail
  rw [← hW]
  clear hW
  go_wp2_with (first
   | (go_at_call 91; refine HR.out.mono ?_; rintro e w2 ⟨rfl, rfl⟩)
   | (go_at_call 144; refine HLv.out.mono ?_; rintro e w2 ⟨rfl, r2⟩; obtain ⟨F1, s2⟩ := HP.out _ r2; have S2 := hid s2; clear r2 s2)
   | (go_at_call 92; refine (HRn.out _ _ S2.out).mono ?_; rintro e w3 ⟨rfl, t3⟩; have T3 := hid t3; clear t3)
   | (go_at_call 106; refine (HG.out _ _ _ S2.out T3.out).mono ?_; rintro e w4 ⟨rfl, r4⟩; obtain ⟨y0, y1, yf⟩ := H1.out w4 (HTF.out _ _ r4); have R4 := hid r4; clear r4))
  exact bodyPost_ret (v := .tuple #[.agg #[.bool B1, .bool B2], .int .i64 0]) (by simp [results, Tryz.results104, go_sem, y0, y1]) rfl ⟨rfl, HT.out _ _ _ R4.out (TS.out _ _ _)⟩
 ·have hz' : (leaveE q.S x != 0) = true := by simp [hz]
  have hb : leaveB q.S x = false := by unfold leaveB; rw [if_neg hz]
  have HZ' := hid (HZ.out hz)
  clear HZ hz HG HRn HT HTF
  rw [hb] at HLv HZ' ⊢
  simp only [goneB, Bool.false_and]
  clear hb
  generalize goneT (setS T q.R.run (leaveS q.S x)) q.R false = T2 at *
  generalize setS T q.R.run (leaveS q.S x) = T1 at *
  generalize leaveS q.S x = S' at *
  generalize leaveE q.S x = E at *
  unfold PT at *
  go_enter Tryz.func104, Tryz.ntmps104
  go_upto_region 1 with fail
  rw [← hW]
  clear hW
  go_wp2_with (first
   | (go_at_call 91; refine HR.out.mono ?_; rintro e w2 ⟨rfl, rfl⟩)
   | (go_at_call 144; refine HLv.out.mono ?_; rintro e w2 ⟨rfl, r2⟩; obtain ⟨F1, s2⟩ := HP.out _ r2; have S2 := hid s2; obtain ⟨y0, y1, yf⟩ := H1.out w2 s2.tf; clear r2 s2))
  exact bodyPost_ret (v := .tuple #[.agg #[.bool false, .bool false], .int .i64 E]) (by simp [results, Tryz.results104, go_sem, y0, y1]) rfl ⟨rfl, (HZ'.out _ _ _ S2.out (TS.out _ _ _)).2⟩
set_option maxHeartbeats 4000000 in
theorem tRel_at {p c : Nat} {g : Option Nat} {nc ng : Nat} {A B : List Rb} {q : Rb} (h : Tm w t p c g nc ng (A ++ q :: B) T N) (hN : N ≤ 3000000000000) (hL : Lv T) :
  Calls Tryz.prog 57 #[PT t, .int .i64 q.R.run] w fun e w' => e = .returned (.tuple #[.agg #[.bool (relB q.S), .bool (goneB T q.R (relB q.S))], .int .i64 0]) ∧ TqE w w' t (fpT t p c g (A ++ q :: B)) (goneT (setS T q.R.run (relS q.S)) q.R (relB q.S)) (N + 1) := by
 obtain ⟨F, hFe⟩ : ∃ F, F = fpT t p c g (A ++ q :: B) := ⟨_, rfl⟩
 obtain ⟨W, hW⟩ : ∃ W, W = w.alloc bxG := ⟨_, rfl⟩
 have t0 : Touch [] w W := by rw [hW]; exact (Touch.refl _ _).alloc _
 have hF : ∀ d, d ∈ F → d < w.heap.size := by rw [hFe]; exact h.lt
 have h1 := h.keep0 t0
 have HR := hid (tRecord_at h1 hN)
 have HLv : Hid (∀ w2, Touch [] W w2 → Calls Tryz.prog 107 #[PT q.b] w2 fun e w' => e = .returned (.bool (relB q.S)) ∧ RqE w2 w' q.b q.F q.R (relS q.S) N) := fun w2 T' => release14 w2 q.b N q.F q.R q.S ((h1.recs q (by simp)).keep0 T') hN
 have hE := rel_live (hL _ h.memR)
 have HP : Hid (∀ w2 w3, Touch [] W w2 → RqE w2 w3 q.b q.F q.R (relS q.S) N → ∃ F1, Stp w2 w3 t F F1 (setS T q.R.run (relS q.S)) q (relS q.S) N) := fun w2 w3 T' e => by rw [hFe]; exact (h1.keep0 T').stp (Nat.le_refl N) hL e hE
 have hm := mem_setS T (S' := relS q.S) h.memR rfl
 have HG : Hid (∀ w2 w3 F1, Touch [] W w2 → Stp w2 w3 t F F1 (setS T q.R.run (relS q.S)) q (relS q.S) N → Calls Tryz.prog 106 #[PT t, rv q.R, .bool (relB q.S)] w3 fun e w' => e = .returned (.agg #[.bool (relB q.S), .bool (goneB T q.R (relB q.S))]) ∧ TqE W w' t F (goneT (setS T q.R.run (relS q.S)) q.R (relB q.S)) (N + 1)) := fun w2 w3 F1 T' s => (goneTc w3 t F1 _ N s.tq hN q.R _ hm _).mono (fun e w' hh => ⟨hh.1, TqE.from0 T' (TqE.trans (T1 := T) s.tf s.nf hh.2)⟩)
 have HRn := hid (run8 W q.b N q.F q.R q.S (h1.recs q (by simp)))
 have HT : Hid (∀ w1 w2 T1, TqE W w1 t F T1 (N + 1) → Touch [w.heap.size] w1 w2 → TqE w w2 t F T1 (N + 1)) := fun w1 w2 T1 q' T2 => TqE.box t0 q' hF (Nat.le_refl _) (by rw [hW]; simp) T2
 have hb1 : W.heap[w.heap.size]? = some (.cells #[.bool false, .bool false] 141 (0, 0)) := by rw [hW]; exact heap_alloc_new w bxG
 have H1 : Hid (∀ w2, Touch F W w2 → w2.cell? ⟨w.heap.size, 0, none⟩ = some (.bool false) ∧ w2.cell? ⟨w.heap.size, 1, none⟩ = some (.bool false) ∧ ∀ i, w2.frozen? ⟨w.heap.size, i, none⟩ = false) := fun w2 T' => by
  have q' := T'.keep hb1 (fun e => by have := hF _ e; omega)
  exact ⟨cell_at q' rfl, cell_at q' rfl, froz_at q'⟩
 have HTF : Hid (∀ w1 T1, TqE W w1 t F T1 (N + 1) → Touch F W w1) := fun w1 T1 q' => by obtain ⟨_, _, q', _⟩ := q'; exact q'
 have tset : ∀ (w1 : World) (b1 b2 : Bool), Touch [w.heap.size] w1 ((w1.setCell ⟨w.heap.size, 0, none⟩ (.bool b1)).setCell ⟨w.heap.size, 1, none⟩ (.bool b2)) := fun w1 b1 b2 => ((Touch.refl _ _).setCell (Or.inl (by simp)) _).setCell (Or.inl (by simp)) _
 have TS := hid tset
 rw [← hFe]
 clear h h1 hF hm hb1 tset hE t0 hFe hL
 unfold bxG at hW
 generalize goneT (setS T q.R.run (relS q.S)) q.R (relB q.S) = T2 at *
 generalize setS T q.R.run (relS q.S) = T1 at *
 generalize goneB T q.R (relB q.S) = B2 at *
 generalize relS q.S = S' at *
 generalize relB q.S = B1 at *
 unfold PT rv at *
 go_enter Tryz.func57, Tryz.ntmps57
 go_upto_region 1 with fail
 rw [← hW]
 clear hW
 go_wp2_with (first
  | (go_at_call 91; refine HR.out.mono ?_; rintro e w2 ⟨rfl, rfl⟩)
  | (go_at_call 92; refine HRn.out.mono ?_; rintro e w3 ⟨rfl, t3⟩; have T3 := hid t3; clear t3)
  | (go_at_call 107; refine (HLv.out _ T3.out).mono ?_; rintro e w4 ⟨rfl, r2⟩; obtain ⟨F1, s2⟩ := HP.out _ _ T3.out r2; have S2 := hid s2; clear r2 s2)
  | (go_at_call 106; refine (HG.out _ _ _ T3.out S2.out).mono ?_; rintro e w5 ⟨rfl, r4⟩; obtain ⟨y0, y1, yf⟩ := H1.out w5 (HTF.out _ _ r4); have R4 := hid r4; clear r4))
 exact bodyPost_ret (v := .tuple #[.agg #[.bool B1, .bool B2], .int .i64 0]) (by simp [results, Tryz.results57, go_sem, y0, y1]) rfl ⟨rfl, HT.out _ _ _ R4.out (TS.out _ _ _)⟩
theorem leaveT (h : Tq w t F T N) (hN : N ≤ 3000000000000) (n x : Int) (hn : W64 n) (hx : W64 x) : Calls Tryz.prog 104 #[PT t, .int .i64 n, .int .i64 x] w fun e w' => e = .returned (.tuple #[.agg #[.bool (tLeaveC T n x), .bool (tLeaveA T n x)], .int .i64 (tLeaveE T n x)]) ∧ TqE w w' t F (tLeave T n x) (N + 1) := by
 unfold tLeaveC tLeaveA tLeaveE tLeave
 cases hr : runOf T n with
 | none => exact (tLeave_no w t F T N h n x hn hr).mono (fun e w' hh => ⟨hh.1, TqE.touch h hh.2 (Nat.le_succ N)⟩)
 | some r =>
  obtain ⟨p, c, g, nc, ng, Ps, rfl, h, hL⟩ := h
  obtain ⟨A, q, B, rfl, rfl, rfl, _⟩ := h.found hr
  exact tLeave_at w t T N h hN hL x hx
theorem relT (h : Tq w t F T N) (hN : N ≤ 3000000000000) (n : Int) (hn : W64 n) : Calls Tryz.prog 57 #[PT t, .int .i64 n] w fun e w' => e = .returned (.tuple #[.agg #[.bool (tRelC T n), .bool (tRelA T n)], .int .i64 (tRelE T n)]) ∧ TqE w w' t F (tRel T n) (N + 1) := by
 unfold tRelC tRelA tRelE tRel
 cases hr : runOf T n with
 | none => exact (tRel_no w t F T N h n hn hr).mono (fun e w' hh => ⟨hh.1, TqE.touch h hh.2 (Nat.le_succ N)⟩)
 | some r =>
  obtain ⟨p, c, g, nc, ng, Ps, rfl, h, hL⟩ := h
  obtain ⟨A, q, B, rfl, rfl, rfl, _⟩ := h.found hr
  exact tRel_at w t T N h hN hL
end
end Go.Proofs.YtkfophlhpjbmgaaGreat.Ta
/- The contracts of mayBegin, Begin, New, and that a run is begun. -/
namespace Go.Proofs.YtkfophlhpjbmgaaGreat.Ta
open Go.RowKit Go.Maps Go.ChangeMaps
section
variable (w : World) (t : Nat) (F : List Nat) (T : Tb) (N : Nat)
set_option maxHeartbeats 4000000 in
set_option maxRecDepth 100000 in
theorem mayT (h : Tq w t F T N) (k : K) (hk : Ok k) (x : Int) (rf : Bool) : Calls Tryz.prog 131 #[PT t, kv k, .int .i64 x, .bool rf] w fun e w' => e = .returned (.int .i64 (tBegE T k x rf)) ∧ Touch [] w w' := by
 obtain ⟨W, hW⟩ : ∃ W, W = w.alloc (bxK k) := ⟨_, rfl⟩
 have t0 : Touch [] w W := by rw [hW]; exact (Touch.refl _ _).alloc _
 have h1 := h.keep0 t0
 have HC := hid (fCheck W k hk)
 have hb : W.heap[w.heap.size]? = some (.cells #[.int .u16 k.1, .string k.2] 38 (0, 0)) := by rw [hW]; exact heap_alloc_new w _
 have HB : Hid (∀ w2, Touch [] W w2 → w2.cell? ⟨w.heap.size, 0, none⟩ = some (.int .u16 k.1) ∧ w2.cell? ⟨w.heap.size, 1, none⟩ = some (.string k.2)) := fun w2 T' => by
  have q := T'.keep hb (by simp)
  exact ⟨cell_at q rfl, cell_at q rfl⟩
 obtain ⟨p, c, g, nc, ng, Ps, hFe, hT, hL⟩ := h1
 have HC0 : Hid (∀ w2, Touch [] W w2 → w2.cell? ⟨t, 0, none⟩ = some (.int .i64 T.fl)) := fun w2 T' => (hT.keep0 T').cs.c0
 have HC2 : Hid (∀ w2, Touch [] W w2 → w2.cell? ⟨t, 2, none⟩ = some (.map (some p))) := fun w2 T' => (hT.keep0 T').cs.c2
 have HC3 : Hid (∀ w2, Touch [] W w2 → w2.cell? ⟨t, 3, none⟩ = some (.map (some c))) := fun w2 T' => (hT.keep0 T').cs.c3
 have HLK : Hid (∀ w2, Touch [] W w2 → (Instr.lookup 177 (.map (some c)) (.agg #[.int .u16 k.1, .string k.2]) true).run Tryz.prog w2 = .ok (.tuple #[.int .i64 (((curOf T k).map Rn.run).getD 0), .bool (curOf T k).isSome]) w2) := fun w2 T' => (hT.keep0 T').lookCok hk
 have HLN : Hid (∀ w2, Touch [] W w2 → (Builtin.len_ #[176] 3 #[.map (some p)]).run Tryz.prog w2 = .ok (.int .i64 (T.rs.length : Nat)) w2) := fun w2 T' => (hT.keep0 T').lenP 3
 obtain ⟨b0, b1⟩ := HB.out W (Touch.refl _ _)
 have H0 := hid t0
 unfold tBegE tForE at *
 clear h hT hL hFe hb t0
 unfold bxK at hW
 unfold kv PT at *
 cases hm : mayK k with
 | false =>
  rw [hm] at HC
  simp only [Bool.false_eq_true, if_false, Bool.not_false, if_true] at HC ⊢
  clear hm
  go_enter Tryz.func131, Tryz.ntmps131
  go_upto_region 1 with fail
  rw [← hW]
  clear hW
  go_wp2_with (go_at_call 80; refine HC.out.mono ?_; rintro e w2 ⟨rfl, t2⟩; have T2 := hid t2; clear t2)
  go_ret
  exact ⟨rfl, H0.out.trans' T2.out⟩
 | true =>
  rw [hm] at HC
  simp only [if_true, Bool.not_true, Bool.false_eq_true, if_false] at HC ⊢
  clear hm
  generalize ((curOf T k).map Rn.run).getD 0 = v at *
  generalize ((T.rs.length : Nat) : Int) = L at *
  generalize T.fl = fl at *
  generalize (curOf T k).isSome = has at *
  cases rf with
  | true =>
   unfold badC
   simp only [if_true]
   by_cases hx : x = 0
   ·subst hx
    simp only [ne_eq, not_true, decide_false, Bool.false_eq_true, if_false]
    cases has with
    | true =>
     simp only [if_true]
     go_enter Tryz.func131, Tryz.ntmps131
     go_upto_region 1 with fail
     rw [← hW]
     clear hW
     go_wp2_with (go_at_call 80; refine HC.out.mono ?_; rintro e w2 ⟨rfl, t2⟩; clear b0 b1; obtain ⟨b0, b1⟩ := HB.out w2 t2; have c3 := HC3.out w2 t2; have hl := fun n => HLK.out _ (t2.drewN n); have T2 := hid t2; clear t2)
     go_quiet (fail)
     go_wp2
     go_ret
     exact ⟨rfl, (H0.out.trans' T2.out).drewN _⟩
    | false =>
     simp only [Bool.false_eq_true, if_false]
     by_cases hq : fl ≤ L
     ·rw [if_pos hq]
      go_enter Tryz.func131, Tryz.ntmps131
      go_upto_region 1 with fail
      rw [← hW]
      clear hW
      go_wp2_with (go_at_call 80; refine HC.out.mono ?_; rintro e w2 ⟨rfl, t2⟩; clear b0 b1; obtain ⟨b0, b1⟩ := HB.out w2 t2; have c3 := HC3.out w2 t2; have hl := fun n => HLK.out _ (t2.drewN n); have T2 := hid t2; clear t2)
      go_quiet (fail)
      go_wp2
      have C0 := HC0.out
      have C2 := HC2.out
      have LN := HLN.out
      have k9 : Touch [] W (w2.drewN nq) := T2.out.drewN _
      clear hl
      generalize w2.drewN nq = w3 at *
      have k0 : Touch [] W w3.drew := k9.drew
      refine wp_region_H (S := fun w' => Touch [] W w') (by kernel_rfl) ?_
      refine wpH_take (i := 0) (v := (.pointer (some ⟨t, 0, none⟩))) (some 41) rfl rfl (by kernel_rfl) (by kernel_rfl) (by kernel_rfl) (fun _ _ _ h => h) (Or.inl ⟨by rfl, fun w' hS => (by go_simp)⟩) k0 ?_
      try simp only [Go.Act.put, Zx, Zy, Zz]
      refine wpH_take (i := 1) (v := (.pointer (some ⟨t, 0, none⟩))) (some 42) rfl rfl (by kernel_rfl) (by kernel_rfl) (by kernel_rfl) (fun _ _ _ h => h) (Or.inl ⟨by rfl, fun w' hS => (by go_simp)⟩) k0 ?_
      try simp only [Go.Act.put, Zx, Zy, Zz]
      refine wpH_take (i := 2) (v := (.pointer (some ⟨t, 2, none⟩))) (some 43) rfl rfl (by kernel_rfl) (by kernel_rfl) (by kernel_rfl) (fun _ _ _ h => h) (Or.inl ⟨by rfl, fun w' hS => (by go_simp)⟩) k0 ?_
      try simp only [Go.Act.put, Zx, Zy, Zz]
      refine wpH_take (i := 3) (v := (.map (some p))) (some 44) rfl rfl (by kernel_rfl) (by kernel_rfl) (by kernel_rfl) (fun _ _ _ h => h) (Or.inl ⟨by rfl, fun w' hS => (by have z0 := C2 _ hS; go_simp)⟩) k0 ?_
      try simp only [Go.Act.put, Zx, Zy, Zz]
      refine wpH_take (i := 5) (v := (.pointer (some ⟨t, 0, none⟩))) (some 46) rfl rfl (by kernel_rfl) (by kernel_rfl) (by kernel_rfl) (fun _ _ _ h => h) (Or.inl ⟨by rfl, fun w' hS => (by go_simp)⟩) k0 ?_
      try simp only [Go.Act.put, Zx, Zy, Zz]
      refine wpH_take (i := 6) (v := (.pointer (some ⟨t, 0, none⟩))) (some 47) rfl rfl (by kernel_rfl) (by kernel_rfl) (by kernel_rfl) (fun _ _ _ h => h) (Or.inl ⟨by rfl, fun w' hS => (by go_simp)⟩) k0 ?_
      try simp only [Go.Act.put, Zx, Zy, Zz]
      refine wpH_take (i := 7) (v := (.pointer (some ⟨t, 0, none⟩))) (some 48) rfl rfl (by kernel_rfl) (by kernel_rfl) (by kernel_rfl) (fun _ _ _ h => h) (Or.inl ⟨by rfl, fun w' hS => (by go_simp)⟩) k0 ?_
      try simp only [Go.Act.put, Zx, Zy, Zz]
      refine wpH_take (i := 8) (v := (.int .i64 fl)) (some 49) rfl rfl (by kernel_rfl) (by kernel_rfl) (by kernel_rfl) (fun _ _ _ h => h) (Or.inl ⟨by rfl, fun w' hS => (by have z0 := C0 _ hS; go_simp)⟩) k0 ?_
      try simp only [Go.Act.put, Zx, Zy, Zz]
      refine wpH_call (i := 4) (o := { dst := some 45, op := Op.call { callee := Callee.builtin Builtin.len, args := #[Operand.tmp 44], argTypes := #[176] }, type := 3, pos := _, after := #[{ on := 3, ground := Ground.data }], guard := none }) (by kernel_rfl) rfl (fun K' hK => ?_)
      rw [if_pos (by rfl)]
      have z0 := LN _ k0
      go_simp
      refine hK.out _ _ k0 ?_
      clear hK
      try simp only [Go.Act.put, Zx, Zy, Zz]
      refine wpH_take (i := 9) (v := (.bool true)) (some 50) rfl rfl (by kernel_rfl) (by kernel_rfl) (by kernel_rfl) (fun _ _ _ h => h) (Or.inl ⟨by rfl, fun w' hS => (by go_simp)⟩) k0 ?_
      try simp only [Go.Act.put, Zx, Zy, Zz]
      refine wpH_take (i := 10) (v := (.bool true)) (some 40) rfl rfl (by kernel_rfl) (by kernel_rfl) (by kernel_rfl) (fun _ _ _ h => h) (Or.inl ⟨by rfl, fun w' hS => (by go_simp)⟩) k0 ?_
      try simp only [Go.Act.put, Zx, Zy, Zz]
      refine wpAnyH_done (by kernel_rfl) ?_ _
      go_wp2
      go_ret
      exact ⟨rfl, H0.out.trans' k0⟩
     ·rw [if_neg hq]
      go_enter Tryz.func131, Tryz.ntmps131
      go_upto_region 1 with fail
      rw [← hW]
      clear hW
      go_wp2_with (go_at_call 80; refine HC.out.mono ?_; rintro e w2 ⟨rfl, t2⟩; clear b0 b1; obtain ⟨b0, b1⟩ := HB.out w2 t2; have c3 := HC3.out w2 t2; have hl := fun n => HLK.out _ (t2.drewN n); have T2 := hid t2; clear t2)
      go_quiet (fail)
      go_wp2
      have C0 := HC0.out
      have C2 := HC2.out
      have LN := HLN.out
      have k9 : Touch [] W (w2.drewN nq) := T2.out.drewN _
      clear hl
      generalize w2.drewN nq = w3 at *
      have k0 : Touch [] W w3.drew := k9.drew
      refine wp_region_H (S := fun w' => Touch [] W w') (by kernel_rfl) ?_
      refine wpH_take (i := 0) (v := (.pointer (some ⟨t, 0, none⟩))) (some 41) rfl rfl (by kernel_rfl) (by kernel_rfl) (by kernel_rfl) (fun _ _ _ h => h) (Or.inl ⟨by rfl, fun w' hS => (by go_simp)⟩) k0 ?_
      try simp only [Go.Act.put, Zx, Zy, Zz]
      refine wpH_take (i := 1) (v := (.pointer (some ⟨t, 0, none⟩))) (some 42) rfl rfl (by kernel_rfl) (by kernel_rfl) (by kernel_rfl) (fun _ _ _ h => h) (Or.inl ⟨by rfl, fun w' hS => (by go_simp)⟩) k0 ?_
      try simp only [Go.Act.put, Zx, Zy, Zz]
      refine wpH_take (i := 2) (v := (.pointer (some ⟨t, 2, none⟩))) (some 43) rfl rfl (by kernel_rfl) (by kernel_rfl) (by kernel_rfl) (fun _ _ _ h => h) (Or.inl ⟨by rfl, fun w' hS => (by go_simp)⟩) k0 ?_
      try simp only [Go.Act.put, Zx, Zy, Zz]
      refine wpH_take (i := 3) (v := (.map (some p))) (some 44) rfl rfl (by kernel_rfl) (by kernel_rfl) (by kernel_rfl) (fun _ _ _ h => h) (Or.inl ⟨by rfl, fun w' hS => (by have z0 := C2 _ hS; go_simp)⟩) k0 ?_
      try simp only [Go.Act.put, Zx, Zy, Zz]
      refine wpH_take (i := 5) (v := (.pointer (some ⟨t, 0, none⟩))) (some 46) rfl rfl (by kernel_rfl) (by kernel_rfl) (by kernel_rfl) (fun _ _ _ h => h) (Or.inl ⟨by rfl, fun w' hS => (by go_simp)⟩) k0 ?_
      try simp only [Go.Act.put, Zx, Zy, Zz]
      refine wpH_take (i := 6) (v := (.pointer (some ⟨t, 0, none⟩))) (some 47) rfl rfl (by kernel_rfl) (by kernel_rfl) (by kernel_rfl) (fun _ _ _ h => h) (Or.inl ⟨by rfl, fun w' hS => (by go_simp)⟩) k0 ?_
      try simp only [Go.Act.put, Zx, Zy, Zz]
      refine wpH_take (i := 7) (v := (.pointer (some ⟨t, 0, none⟩))) (some 48) rfl rfl (by kernel_rfl) (by kernel_rfl) (by kernel_rfl) (fun _ _ _ h => h) (Or.inl ⟨by rfl, fun w' hS => (by go_simp)⟩) k0 ?_
      try simp only [Go.Act.put, Zx, Zy, Zz]
      refine wpH_take (i := 8) (v := (.int .i64 fl)) (some 49) rfl rfl (by kernel_rfl) (by kernel_rfl) (by kernel_rfl) (fun _ _ _ h => h) (Or.inl ⟨by rfl, fun w' hS => (by have z0 := C0 _ hS; go_simp)⟩) k0 ?_
      try simp only [Go.Act.put, Zx, Zy, Zz]
      refine wpH_call (i := 4) (o := { dst := some 45, op := Op.call { callee := Callee.builtin Builtin.len, args := #[Operand.tmp 44], argTypes := #[176] }, type := 3, pos := _, after := #[{ on := 3, ground := Ground.data }], guard := none }) (by kernel_rfl) rfl (fun K' hK => ?_)
      rw [if_pos (by rfl)]
      have z0 := LN _ k0
      go_simp
      refine hK.out _ _ k0 ?_
      clear hK
      try simp only [Go.Act.put, Zx, Zy, Zz]
      refine wpH_take (i := 9) (v := (.bool false)) (some 50) rfl rfl (by kernel_rfl) (by kernel_rfl) (by kernel_rfl) (fun _ _ _ h => h) (Or.inl ⟨by rfl, fun w' hS => (by go_simp)⟩) k0 ?_
      try simp only [Go.Act.put, Zx, Zy, Zz]
      refine wpH_take (i := 10) (v := (.bool false)) (some 40) rfl rfl (by kernel_rfl) (by kernel_rfl) (by kernel_rfl) (fun _ _ _ h => h) (Or.inl ⟨by rfl, fun w' hS => (by go_simp)⟩) k0 ?_
      try simp only [Go.Act.put, Zx, Zy, Zz]
      refine wpAnyH_done (by kernel_rfl) ?_ _
      go_wp2
      go_ret
      exact ⟨rfl, H0.out.trans' k0⟩
   ·have hx' : (x != 0) = true := by simp [hx]
    rw [show decide (x ≠ 0) = true by simp [hx], if_pos rfl]
    clear hx
    go_enter Tryz.func131, Tryz.ntmps131
    go_upto_region 1 with fail
    rw [← hW]
    clear hW
    go_wp2_with (go_at_call 80; refine HC.out.mono ?_; rintro e w2 ⟨rfl, t2⟩; clear b0 b1; obtain ⟨b0, b1⟩ := HB.out w2 t2; have c3 := HC3.out w2 t2; have hl := fun n => HLK.out _ (t2.drewN n); have T2 := hid t2; clear t2)
    go_quiet (fail)
    go_wp2
    go_ret
    exact ⟨rfl, (H0.out.trans' T2.out).drewN _⟩
  | false =>
   unfold badC
   simp only [Bool.false_eq_true, if_false]
   by_cases hx : x < 1
   ·rw [show decide (x < 1) = true by simp [hx], if_pos rfl]
    go_enter Tryz.func131, Tryz.ntmps131
    go_upto_region 1 with fail
    rw [← hW]
    clear hW
    go_wp2_with (go_at_call 80; refine HC.out.mono ?_; rintro e w2 ⟨rfl, t2⟩; clear b0 b1; obtain ⟨b0, b1⟩ := HB.out w2 t2; have c3 := HC3.out w2 t2; have hl := fun n => HLK.out _ (t2.drewN n); have T2 := hid t2; clear t2)
    go_quiet (fail)
    go_wp2
    go_ret
    exact ⟨rfl, (H0.out.trans' T2.out).drewN _⟩
   ·rw [show decide (x < 1) = false by simp [hx], if_neg (by simp)]
    cases has with
    | true =>
     simp only [if_true]
     go_enter Tryz.func131, Tryz.ntmps131
     go_upto_region 1 with fail
     rw [← hW]
     clear hW
     go_wp2_with (go_at_call 80; refine HC.out.mono ?_; rintro e w2 ⟨rfl, t2⟩; clear b0 b1; obtain ⟨b0, b1⟩ := HB.out w2 t2; have c3 := HC3.out w2 t2; have hl := fun n => HLK.out _ (t2.drewN n); have T2 := hid t2; clear t2)
     go_quiet (fail)
     go_wp2
     go_ret
     exact ⟨rfl, (H0.out.trans' T2.out).drewN _⟩
    | false =>
     simp only [Bool.false_eq_true, if_false]
     by_cases hq : fl ≤ L
     ·rw [if_pos hq]
      go_enter Tryz.func131, Tryz.ntmps131
      go_upto_region 1 with fail
      rw [← hW]
      clear hW
      go_wp2_with (go_at_call 80; refine HC.out.mono ?_; rintro e w2 ⟨rfl, t2⟩; clear b0 b1; obtain ⟨b0, b1⟩ := HB.out w2 t2; have c3 := HC3.out w2 t2; have hl := fun n => HLK.out _ (t2.drewN n); have T2 := hid t2; clear t2)
      go_quiet (fail)
      go_wp2
      have C0 := HC0.out
      have C2 := HC2.out
      have LN := HLN.out
      have k9 : Touch [] W (w2.drewN nq) := T2.out.drewN _
      clear hl
      generalize w2.drewN nq = w3 at *
      have k0 : Touch [] W w3.drew := k9.drew
      refine wp_region_H (S := fun w' => Touch [] W w') (by kernel_rfl) ?_
      refine wpH_take (i := 0) (v := (.pointer (some ⟨t, 0, none⟩))) (some 41) rfl rfl (by kernel_rfl) (by kernel_rfl) (by kernel_rfl) (fun _ _ _ h => h) (Or.inl ⟨by rfl, fun w' hS => (by go_simp)⟩) k0 ?_
      try simp only [Go.Act.put, Zx, Zy, Zz]
      refine wpH_take (i := 1) (v := (.pointer (some ⟨t, 0, none⟩))) (some 42) rfl rfl (by kernel_rfl) (by kernel_rfl) (by kernel_rfl) (fun _ _ _ h => h) (Or.inl ⟨by rfl, fun w' hS => (by go_simp)⟩) k0 ?_
      try simp only [Go.Act.put, Zx, Zy, Zz]
      refine wpH_take (i := 2) (v := (.pointer (some ⟨t, 2, none⟩))) (some 43) rfl rfl (by kernel_rfl) (by kernel_rfl) (by kernel_rfl) (fun _ _ _ h => h) (Or.inl ⟨by rfl, fun w' hS => (by go_simp)⟩) k0 ?_
      try simp only [Go.Act.put, Zx, Zy, Zz]
      refine wpH_take (i := 3) (v := (.map (some p))) (some 44) rfl rfl (by kernel_rfl) (by kernel_rfl) (by kernel_rfl) (fun _ _ _ h => h) (Or.inl ⟨by rfl, fun w' hS => (by have z0 := C2 _ hS; go_simp)⟩) k0 ?_
      try simp only [Go.Act.put, Zx, Zy, Zz]
      refine wpH_take (i := 5) (v := (.pointer (some ⟨t, 0, none⟩))) (some 46) rfl rfl (by kernel_rfl) (by kernel_rfl) (by kernel_rfl) (fun _ _ _ h => h) (Or.inl ⟨by rfl, fun w' hS => (by go_simp)⟩) k0 ?_
      try simp only [Go.Act.put, Zx, Zy, Zz]
      refine wpH_take (i := 6) (v := (.pointer (some ⟨t, 0, none⟩))) (some 47) rfl rfl (by kernel_rfl) (by kernel_rfl) (by kernel_rfl) (fun _ _ _ h => h) (Or.inl ⟨by rfl, fun w' hS => (by go_simp)⟩) k0 ?_
      try simp only [Go.Act.put, Zx, Zy, Zz]
      refine wpH_take (i := 7) (v := (.pointer (some ⟨t, 0, none⟩))) (some 48) rfl rfl (by kernel_rfl) (by kernel_rfl) (by kernel_rfl) (fun _ _ _ h => h) (Or.inl ⟨by rfl, fun w' hS => (by go_simp)⟩) k0 ?_
      try simp only [Go.Act.put, Zx, Zy, Zz]
      refine wpH_take (i := 8) (v := (.int .i64 fl)) (some 49) rfl rfl (by kernel_rfl) (by kernel_rfl) (by kernel_rfl) (fun _ _ _ h => h) (Or.inl ⟨by rfl, fun w' hS => (by have z0 := C0 _ hS; go_simp)⟩) k0 ?_
      try simp only [Go.Act.put, Zx, Zy, Zz]
      refine wpH_call (i := 4) (o := { dst := some 45, op := Op.call { callee := Callee.builtin Builtin.len, args := #[Operand.tmp 44], argTypes := #[176] }, type := 3, pos := _, after := #[{ on := 3, ground := Ground.data }], guard := none }) (by kernel_rfl) rfl (fun K' hK => ?_)
      rw [if_pos (by rfl)]
      have z0 := LN _ k0
      go_simp
      refine hK.out _ _ k0 ?_
      clear hK
      try simp only [Go.Act.put, Zx, Zy, Zz]
      refine wpH_take (i := 9) (v := (.bool true)) (some 50) rfl rfl (by kernel_rfl) (by kernel_rfl) (by kernel_rfl) (fun _ _ _ h => h) (Or.inl ⟨by rfl, fun w' hS => (by go_simp)⟩) k0 ?_
      try simp only [Go.Act.put, Zx, Zy, Zz]
      refine wpH_take (i := 10) (v := (.bool true)) (some 40) rfl rfl (by kernel_rfl) (by kernel_rfl) (by kernel_rfl) (fun _ _ _ h => h) (Or.inl ⟨by rfl, fun w' hS => (by go_simp)⟩) k0 ?_
      try simp only [Go.Act.put, Zx, Zy, Zz]
      refine wpAnyH_done (by kernel_rfl) ?_ _
      go_wp2
      go_ret
      exact ⟨rfl, H0.out.trans' k0⟩
     ·rw [if_neg hq]
      go_enter Tryz.func131, Tryz.ntmps131
      go_upto_region 1 with fail
      rw [← hW]
      clear hW
      go_wp2_with (go_at_call 80; refine HC.out.mono ?_; rintro e w2 ⟨rfl, t2⟩; clear b0 b1; obtain ⟨b0, b1⟩ := HB.out w2 t2; have c3 := HC3.out w2 t2; have hl := fun n => HLK.out _ (t2.drewN n); have T2 := hid t2; clear t2)
      go_quiet (fail)
      go_wp2
      have C0 := HC0.out
      have C2 := HC2.out
      have LN := HLN.out
      have k9 : Touch [] W (w2.drewN nq) := T2.out.drewN _
      clear hl
      generalize w2.drewN nq = w3 at *
      have k0 : Touch [] W w3.drew := k9.drew
      refine wp_region_H (S := fun w' => Touch [] W w') (by kernel_rfl) ?_
      refine wpH_take (i := 0) (v := (.pointer (some ⟨t, 0, none⟩))) (some 41) rfl rfl (by kernel_rfl) (by kernel_rfl) (by kernel_rfl) (fun _ _ _ h => h) (Or.inl ⟨by rfl, fun w' hS => (by go_simp)⟩) k0 ?_
      try simp only [Go.Act.put, Zx, Zy, Zz]
      refine wpH_take (i := 1) (v := (.pointer (some ⟨t, 0, none⟩))) (some 42) rfl rfl (by kernel_rfl) (by kernel_rfl) (by kernel_rfl) (fun _ _ _ h => h) (Or.inl ⟨by rfl, fun w' hS => (by go_simp)⟩) k0 ?_
      try simp only [Go.Act.put, Zx, Zy, Zz]
      refine wpH_take (i := 2) (v := (.pointer (some ⟨t, 2, none⟩))) (some 43) rfl rfl (by kernel_rfl) (by kernel_rfl) (by kernel_rfl) (fun _ _ _ h => h) (Or.inl ⟨by rfl, fun w' hS => (by go_simp)⟩) k0 ?_
      try simp only [Go.Act.put, Zx, Zy, Zz]
      refine wpH_take (i := 3) (v := (.map (some p))) (some 44) rfl rfl (by kernel_rfl) (by kernel_rfl) (by kernel_rfl) (fun _ _ _ h => h) (Or.inl ⟨by rfl, fun w' hS => (by have z0 := C2 _ hS; go_simp)⟩) k0 ?_
      try simp only [Go.Act.put, Zx, Zy, Zz]
      refine wpH_take (i := 5) (v := (.pointer (some ⟨t, 0, none⟩))) (some 46) rfl rfl (by kernel_rfl) (by kernel_rfl) (by kernel_rfl) (fun _ _ _ h => h) (Or.inl ⟨by rfl, fun w' hS => (by go_simp)⟩) k0 ?_
      try simp only [Go.Act.put, Zx, Zy, Zz]
      refine wpH_take (i := 6) (v := (.pointer (some ⟨t, 0, none⟩))) (some 47) rfl rfl (by kernel_rfl) (by kernel_rfl) (by kernel_rfl) (fun _ _ _ h => h) (Or.inl ⟨by rfl, fun w' hS => (by go_simp)⟩) k0 ?_
      try simp only [Go.Act.put, Zx, Zy, Zz]
      refine wpH_take (i := 7) (v := (.pointer (some ⟨t, 0, none⟩))) (some 48) rfl rfl (by kernel_rfl) (by kernel_rfl) (by kernel_rfl) (fun _ _ _ h => h) (Or.inl ⟨by rfl, fun w' hS => (by go_simp)⟩) k0 ?_
      try simp only [Go.Act.put, Zx, Zy, Zz]
      refine wpH_take (i := 8) (v := (.int .i64 fl)) (some 49) rfl rfl (by kernel_rfl) (by kernel_rfl) (by kernel_rfl) (fun _ _ _ h => h) (Or.inl ⟨by rfl, fun w' hS => (by have z0 := C0 _ hS; go_simp)⟩) k0 ?_
      try simp only [Go.Act.put, Zx, Zy, Zz]
      refine wpH_call (i := 4) (o := { dst := some 45, op := Op.call { callee := Callee.builtin Builtin.len, args := #[Operand.tmp 44], argTypes := #[176] }, type := 3, pos := _, after := #[{ on := 3, ground := Ground.data }], guard := none }) (by kernel_rfl) rfl (fun K' hK => ?_)
      rw [if_pos (by rfl)]
      have z0 := LN _ k0
      go_simp
      refine hK.out _ _ k0 ?_
      clear hK
      try simp only [Go.Act.put, Zx, Zy, Zz]
      refine wpH_take (i := 9) (v := (.bool false)) (some 50) rfl rfl (by kernel_rfl) (by kernel_rfl) (by kernel_rfl) (fun _ _ _ h => h) (Or.inl ⟨by rfl, fun w' hS => (by go_simp)⟩) k0 ?_
      try simp only [Go.Act.put, Zx, Zy, Zz]
      refine wpH_take (i := 10) (v := (.bool false)) (some 40) rfl rfl (by kernel_rfl) (by kernel_rfl) (by kernel_rfl) (fun _ _ _ h => h) (Or.inl ⟨by rfl, fun w' hS => (by go_simp)⟩) k0 ?_
      try simp only [Go.Act.put, Zx, Zy, Zz]
      refine wpAnyH_done (by kernel_rfl) ?_ _
      go_wp2
      go_ret
      exact ⟨rfl, H0.out.trans' k0⟩
end
section
variable {w w' : World} {t p c : Nat} {g : Option Nat} {nc ng : Nat} {Ps : List Rb} {T : Tb} {N : Nat} {k : K} {x : Int} {rf : Bool}
theorem ptr_new {q : Rb} (h : ∀ a ∈ Ps, a.R.run ≠ q.R.run) (n : Int) : kupd (ptr Ps) q.R.run (PT q.b) n = ptr (Ps ++ [q]) n := by
 unfold kupd
 split
 ·rename_i e
  rw [e]
  exact (ptr_mid (B := []) h).symm
 ·rename_i e
  unfold ptr
  rw [List.find?_append, List.find?_cons_of_neg (by simp; exact fun e' => e e'.symm)]
  simp
theorem Tm.begun {W9 : World} {nc' b : Nat} {F' : List Nat} (h : Tm w t p c g nc ng Ps T N) (hk : Ok k) (hx : W64 x) (T9 : Touch [t, p, c] w W9) (bl : W9.heap[t]? = some (.cells #[.int .i64 T.fl, .int .i64 (T.bg + 1), .map (some p), .map (some c), .map g] 179 (0, 0)))
  (m1 : MapK KI W9 p (Ps.length + 1) (kupd (ptr Ps) (T.bg + 1) (PT b))) (m2 : MapK KC W9 c nc' (kupd (curV T) k (.int .i64 (T.bg + 1)))) (hnc : nc' ≤ N + 1) (rq : Rq w b F' (tBegR T k rf) (S0 (tBegR T k rf) x) 1) (hf : ∀ d, d ∈ F' → ¬ d ∈ fpT t p c g Ps) (E : tBegE T k x rf = 0) :
  Tm W9 t p c g nc' ng (Ps ++ [⟨tBegR T k rf, S0 (tBegR T k rf) x, b, F'⟩]) (tBeg T k x rf) (N + 1) := by
 obtain ⟨e1, e2, e3, e4⟩ := tBegE_zero E
 have eT : tBeg T k x rf = { T with bg := T.bg + 1, rs := T.rs ++ [(tBegR T k rf, S0 (tBegR T k rf) x)] } := by unfold tBeg; rw [if_pos E]
 have hnew : ∀ a ∈ Ps, a.R.run ≠ T.bg + 1 := fun a ha => by
  have := (h.iv.rng (a.R, a.S) (by rw [h.rs]; exact List.mem_map.2 ⟨a, ha, rfl⟩)).2
  simp only at this
  omega
 have hiv := h.iv.begin_ (rf := rf) hk hx
 have hms : ∀ q, q ∈ Ps ++ [(⟨tBegR T k rf, S0 (tBegR T k rf) x, b, F'⟩ : Rb)] → q ∈ Ps ∨ q = ⟨tBegR T k rf, S0 (tBegR T k rf) x, b, F'⟩ := fun q hq => by simpa using hq
 have h3 : ∀ d, d ∈ [t, p, c] → d ∈ fpT t p c g Ps := fun d hd => by
  simp only [List.mem_cons, List.not_mem_nil, or_false] at hd
  rcases hd with e | e | e
  ·exact mem_fpT.2 (Or.inl e)
  ·exact mem_fpT.2 (Or.inr (Or.inl e))
  ·exact mem_fpT.2 (Or.inr (Or.inr (Or.inl e)))
 refine ⟨?_, ?_, ?_, ?_, ?_, h.pc, h.gp, h.gc, hnc, Nat.le_succ_of_le h.lg, fun q hq => ?_, fun q hq d hd => ?_, ?_, hiv⟩
 ·rw [eT, h.rs]; simp [rsOf]
 ·rw [eT]; exact bl
 ·rw [List.length_append]
  exact m1.congr (fun n _ => ptr_new (q := ⟨tBegR T k rf, S0 (tBegR T k rf) x, b, F'⟩) hnew n)
 ·refine m2.congr (fun j _ => ?_)
  unfold kupd curV
  rw [curOf_app (T := T) (tBeg T k x rf) (tBegR T k rf) (S0 (tBegR T k rf) x) (by rw [eT]) (by rw [eT]) e3 rfl j]
  show (if j = k then _ else _) = Option.map _ (if j = k then _ else _)
  split <;> rfl
 ·have := h.gm.keep T9 (fun d hd e => ?_)
  ·rw [eT]; exact this
  ·simp only [List.mem_cons, List.not_mem_nil, or_false] at e
   rcases e with e | e | e
   ·exact h.tne.2.2 (by rw [hd, e])
   ·exact h.gp (by rw [hd, e])
   ·exact h.gc (by rw [hd, e])
 ·rcases hms q hq with e | e
  ·refine ((h.recs q e).keep T9 (fun d hd e' => ?_)).mono (Nat.le_succ N)
   have := h.far q e d hd
   simp only [List.mem_cons, List.not_mem_nil, or_false] at e'
   rcases e' with e' | e' | e'
   ·exact this.1 e'
   ·exact this.2.1 e'
   ·exact this.2.2.1 e'
  ·subst e
   exact (rq.keep T9 (fun d hd e' => hf d hd (h3 d e'))).mono (by omega)
 ·rcases hms q hq with e | e
  ·exact h.far q e d hd
  ·subst e
   have := hf d hd
   exact ⟨fun e => this (mem_fpT.2 (Or.inl e)), fun e => this (mem_fpT.2 (Or.inr (Or.inl e))), fun e => this (mem_fpT.2 (Or.inr (Or.inr (Or.inl e)))), fun e => this (mem_fpT.2 (Or.inr (Or.inr (Or.inr (Or.inl e)))))⟩
 ·refine List.pairwise_append.2 ⟨h.apart, by simp, fun a ha q hq d hd e => ?_⟩
  simp only [List.mem_singleton] at hq
  subst hq
  exact hf d e (mem_fpT.2 (Or.inr (Or.inr (Or.inr (Or.inr ⟨a, ha, hd⟩)))))
def BgS (t p c B : Nat) (k : K) (w' : World) : Prop := w'.cell? ⟨t, 2, none⟩ = some (.map (some p)) ∧ w'.cell? ⟨t, 3, none⟩ = some (.map (some c)) ∧ w'.cell? ⟨B, 0, none⟩ = some (.int .u16 k.1) ∧ w'.cell? ⟨B, 1, none⟩ = some (.string k.2)
structure BgW (w : World) (t p c B : Nat) (g : Option Nat) (Ps : List Rb) (T : Tb) (k : K) (N : Nat) (b : Nat) (W5 W6 W7 W8 W9 : World) (s1 s2 : Nat) (z1 z2 : Value) : Prop where
 e5 : W5 = (w.setCell ⟨t, 1, none⟩ (.int .i64 (T.bg + 1))).drew
 r6 : (Instr.mapEntry 176 (.map (some p)) (.int .i64 (T.bg + 1))).run Tryz.prog W5 = .ok (.tuple #[z1, .int .i64 (s1 : Nat)]) W6
 r7 : (Instr.entryStore 176 (.map (some p)) (.int .i64 (s1 : Nat)) (.pointer (some ⟨b, 0, none⟩))).run Tryz.prog W6 = .ok () W7
 r8 : (Instr.mapEntry 177 (.map (some c)) (.agg #[.int .u16 k.1, .string k.2])).run Tryz.prog W7 = .ok (.tuple #[z2, .int .i64 (s2 : Nat)]) W8
 r9 : (Instr.entryStore 177 (.map (some c)) (.int .i64 (s2 : Nat)) (.int .i64 (T.bg + 1))).run Tryz.prog W8 = .ok () W9
 q5 : BgS t p c B k W5
 q6 : BgS t p c B k W6
 q7 : BgS t p c B k W7
 q8 : BgS t p c B k W8
 tt : Touch [t, p, c] w W9
 bl : W9.heap[t]? = some (.cells #[.int .i64 T.fl, .int .i64 (T.bg + 1), .map (some p), .map (some c), .map g] 179 (0, 0))
 m1 : MapK KI W9 p (Ps.length + 1) (kupd (ptr Ps) (T.bg + 1) (PT b))
 m2 : ∃ nc', nc' ≤ N + 1 ∧ MapK KC W9 c nc' (kupd (curV T) k (.int .i64 (T.bg + 1)))
theorem setBlock_same {w : World} {b : Nat} {o : Obj} (h : b < w.heap.size) : (setBlock w b o).heap[b]? = some o := by
 simp only [setBlock, Array.getElem?_setIfInBounds, if_true, h]
theorem begin_writes (h : Tm w t p c g nc ng Ps T N) (hN : N ≤ 3000000000000) (hk : Ok k) (hc : curOf T k = none) (b B : Nat) (hB : w.heap[B]? = some (.cells #[.int .u16 k.1, .string k.2] 38 (0, 0))) (hBt : B ≠ t) : ∃ W5 W6 W7 W8 W9 s1 s2 z1 z2, BgW w t p c B g Ps T k N b W5 W6 W7 W8 W9 s1 s2 z1 z2 := by
 obtain ⟨n1, n2, n3⟩ := h.tne
 obtain ⟨ep, lp, kp⟩ := h.pm.kind
 obtain ⟨ec, lc, kc⟩ := h.cm.kind
 have nBp : B ≠ p := fun e => by rw [e, kp] at hB; cases hB
 have nBc : B ≠ c := fun e => by rw [e, kc] at hB; cases hB
 have hbg := h.iv.bg
 have hlen := h.iv.len
 have hfl := h.iv.fl
 have hlc := h.lc
 have hpl : Ps.length = T.rs.length := by rw [h.rs]; simp [rsOf]
 have hnew : ptr Ps (T.bg + 1) = none := ptr_none (fun a ha => by
  have := (h.iv.rng (a.R, a.S) (by rw [h.rs]; exact List.mem_map.2 ⟨a, ha, rfl⟩)).2
  simp only at this
  omega)
 have hcv : curV T k = none := by unfold curV; rw [hc]; rfl
 have t5 : Touch [t] w ((w.setCell ⟨t, 1, none⟩ (.int .i64 (T.bg + 1))).drew) := ((Touch.refl _ _).setCell (Or.inl (by simp)) _).drew
 obtain ⟨W5, hW5⟩ : ∃ W5, W5 = (w.setCell ⟨t, 1, none⟩ (.int .i64 (T.bg + 1))).drew := ⟨_, rfl⟩
 have b5 : W5.heap[t]? = some (.cells #[.int .i64 T.fl, .int .i64 (T.bg + 1), .map (some p), .map (some c), .map g] 179 (0, 0)) := by
  rw [hW5]
  have := bset (i := 1) h.bl (.int .i64 (T.bg + 1))
  exact this
 rw [← hW5] at t5
 have p5 := h.pm.keep t5 (by simp; exact Ne.symm n1)
 obtain ⟨s1, o6, r6, m6, f6⟩ := p5.entry (t := 176) Tryz.underlying176 (by unfold maxLen; omega) zeroP (k := T.bg + 1) (W64.mk (by omega) (by omega))
 have t6 : Touch [p] W5 (setBlock W5 p o6) := touch_setBlock (Touch.refl _ _) (Or.inl (by simp)) o6
 obtain ⟨o7, r7, m7⟩ := f6 (setBlock W5 p o6) (PT b) (setBlock_same p5.lt)
 obtain ⟨W6, hW6⟩ : ∃ W6, W6 = setBlock W5 p o6 := ⟨_, rfl⟩
 rw [← hW6] at r6 m6 r7 m7 t6
 have t7 : Touch [p] W6 (setBlock W6 p o7) := touch_setBlock (Touch.refl _ _) (Or.inl (by simp)) o7
 obtain ⟨W7, hW7⟩ : ∃ W7, W7 = setBlock W6 p o7 := ⟨_, rfl⟩
 rw [← hW7] at r7 m7 t7
 have t57 : Touch [p] W5 W7 := t6.trans t7 (fun i hi => Or.inl hi)
 have c7 := (h.cm.keep t5 (by simp; exact Ne.symm n2)).keep t57 (by simp; exact Ne.symm h.pc)
 obtain ⟨s2, o8, r8, m8, f8⟩ := c7.entry (t := 177) Tryz.underlying177 (by unfold maxLen; omega) zero3 hk
 obtain ⟨o9, r9, m9⟩ := f8 (setBlock W7 c o8) (.int .i64 (T.bg + 1)) (setBlock_same c7.lt)
 have t8 : Touch [c] W7 (setBlock W7 c o8) := touch_setBlock (Touch.refl _ _) (Or.inl (by simp)) o8
 obtain ⟨W8, hW8⟩ : ∃ W8, W8 = setBlock W7 c o8 := ⟨_, rfl⟩
 rw [← hW8] at r8 m8 r9 m9 t8
 have t9 : Touch [c] W8 (setBlock W8 c o9) := touch_setBlock (Touch.refl _ _) (Or.inl (by simp)) o9
 obtain ⟨W9, hW9⟩ : ∃ W9, W9 = setBlock W8 c o9 := ⟨_, rfl⟩
 rw [← hW9] at r9 m9 t9
 rw [hnew] at m7
 rw [hcv] at m9
 simp only [Option.isSome_none, Bool.false_eq_true, if_false] at m7 m9
 have t79 : Touch [c] W7 W9 := t8.trans t9 (fun i hi => Or.inl hi)
 have key : ∀ (G : List Nat) (w' : World), Touch G W5 w' → ¬ t ∈ G → ¬ B ∈ G → BgS t p c B k w' := fun G w' T' g1 g2 => by
  have q1 := T'.keep b5 g1
  have q2 := T'.keep (t5.keep hB (by simp; exact hBt)) g2
  exact ⟨cell_at q1 rfl, cell_at q1 rfl, cell_at q2 rfl, cell_at q2 rfl⟩
 have t58 : Touch [p, c] W5 W8 := (t57.mono (by simp)).trans (t8.mono (by simp)) (fun i hi => Or.inl hi)
 have t59 : Touch [p, c] W5 W9 := (t57.mono (by simp)).trans (t79.mono (by simp)) (fun i hi => Or.inl hi)
 refine ⟨W5, W6, W7, W8, W9, s1, s2, _, _, ⟨hW5, r6, r7, r8, r9, key [] W5 (Touch.refl _ _) (by simp) (by simp), key _ _ t6 (by simp; exact n1) (by simp; exact nBp), key _ _ t57 (by simp; exact n1) (by simp; exact nBp), key _ _ t58 (by simp; exact ⟨n1, n2⟩) (by simp; exact ⟨nBp, nBc⟩), ?_, t59.keep b5 (by simp; exact ⟨n1, n2⟩), m7.keep t79 (by simp; exact h.pc), _, by omega, m9⟩⟩
 exact (t5.mono (by simp)).trans (t59.mono (by simp)) (fun i hi => Or.inl hi)
end
section
variable (w : World) (t : Nat) (F : List Nat) (T : Tb) (N : Nat)
set_option maxHeartbeats 4000000 in
set_option maxRecDepth 100000 in
theorem beginT (h : Tq w t F T N) (hN : N ≤ 3000000000000) (k : K) (hk : Ok k) (x : Int) (hx : W64 x) (rf : Bool) : Calls Tryz.prog 88 #[PT t, kv k, .int .i64 x, .bool rf] w fun e w' => e = .returned (.tuple #[.int .i64 (tBegN T k x rf), .int .i64 (tBegE T k x rf)]) ∧ TqE w w' t F (tBeg T k x rf) (N + 1) := by
 obtain ⟨W, hW⟩ : ∃ W, W = w.alloc (bxK k) := ⟨_, rfl⟩
 have t0 : Touch [] w W := by rw [hW]; exact (Touch.refl _ _).alloc _
 have hF := h.lt
 have h1 := h.keep0 t0
 have HM := hid (mayT W t F T N h1 k hk x rf)
 have hb : W.heap[w.heap.size]? = some (.cells #[.int .u16 k.1, .string k.2] 38 (0, 0)) := by rw [hW]; exact heap_alloc_new w _
 obtain ⟨b0, b1⟩ : W.cell? ⟨w.heap.size, 0, none⟩ = some (.int .u16 k.1) ∧ W.cell? ⟨w.heap.size, 1, none⟩ = some (.string k.2) := ⟨cell_at hb rfl, cell_at hb rfl⟩
 have H0 := hid t0
 by_cases hz : tBegE T k x rf = 0
 ·rw [hz] at HM
  have en : tBegN T k x rf = T.bg + 1 := by unfold tBegN; rw [if_pos hz]
  rw [en, hz]
  obtain ⟨-, hbad, hcur, -⟩ := tBegE_zero hz
  have hmay := begin_may (k := k) h.iv hbad
  have hbg := h.iv.bg
  obtain ⟨p, c, g, nc, ng, Ps, rfl, h, hL⟩ := h
  have hwr : IntKind.i64.wrap (T.bg + 1) = T.bg + 1 := by rw [IntKind.wrap_i64]; omega
  have hbt : w.heap.size ≠ t := fun e => by have := h.lt t (mem_fpT.2 (Or.inl rfl)); omega
  have HQ : Hid (∀ w2, Touch [] W w2 → w2.cell? ⟨t, 1, none⟩ = some (.int .i64 T.bg)) := fun w2 T' => ((h.keep0 t0).keep0 T').cs.c1
  have C4 : ∀ w2, Touch [] W w2 → w2.cell? ⟨t, 4, none⟩ = some (.map g) := fun w2 T' => ((h.keep0 t0).keep0 T').cs.c4
  have L0 : ∀ w2, Touch [] W w2 → (Instr.lookup 177 (.map g) (.agg #[.int .u16 k.1, .string k.2]) false).run Tryz.prog w2 = .ok (.int .i64 (T.gn k)) w2 := fun w2 T' => ((h.keep0 t0).keep0 T').lookG hk
  have K0 : ∀ w2, Touch [] W w2 → w2.cell? ⟨w.heap.size, 0, none⟩ = some (.int .u16 k.1) := fun w2 T' => cell_at (T'.keep hb (by simp)) rfl
  have K1 : ∀ w2, Touch [] W w2 → w2.cell? ⟨w.heap.size, 1, none⟩ = some (.string k.2) := fun w2 T' => cell_at (T'.keep hb (by simp)) rfl
  have HN : Hid (∀ w2, Touch [] W w2 → Calls Tryz.prog 132 #[rv (tBegR T k rf), .int .i64 x] w2 fun e w' => NwE e w2 w' (tBegR T k rf) x) := fun w2 T' => new5_ok w2 (tBegR T k rf) x hx hmay
  have HW : Hid (∀ w2 w4 b F', Touch [] W w2 → Touch [] w2 w4 → Rq w4 b F' (tBegR T k rf) (S0 (tBegR T k rf) x) 1 → (∀ d, d ∈ F' → w2.heap.size ≤ d) → ∃ W5 W6 W7 W8 W9 s1 s2 z1 z2, BgW w4 t p c w.heap.size g Ps T k N b W5 W6 W7 W8 W9 s1 s2 z1 z2 ∧ BgS t p c w.heap.size k w4.drew ∧ (w4.cell? ⟨t, 1, none⟩ = some (.int .i64 T.bg) ∧ w4.frozen? ⟨t, 1, none⟩ = false) ∧ TqE w W9 t (fpT t p c g Ps) (tBeg T k x rf) (N + 1)) := fun w2 w4 b F' T2 T4 rq hf => by
   have h4 := ((h.keep0 t0).keep0 T2).keep0 T4
   have hb4 := T4.keep (T2.keep hb (by simp)) (by simp)
   obtain ⟨W5, W6, W7, W8, W9, s1, s2, z1, z2, q⟩ := begin_writes h4 hN hk hcur b w.heap.size hb4 hbt
   obtain ⟨nc', e1, e2⟩ := q.m2
   have tw := (t0.trans' T2).trans' T4
   have zz := (t0.trans' T2).size
   have hfar : ∀ d, d ∈ F' → ¬ d ∈ fpT t p c g Ps := fun d hd e => by
    have := hF d e
    have := hf d hd
    omega
   have hm := h4.begun hk hx q.tt q.bl q.m1 e2 e1 rq hfar hz
   refine ⟨W5, W6, W7, W8, W9, s1, s2, z1, z2, q, ⟨h4.cs.c2, h4.cs.c3, cell_at hb4 rfl, cell_at hb4 rfl⟩, ⟨h4.cs.c1, h4.fz 1⟩, _, ⟨p, c, g, nc', ng, _, rfl, hm, hL.begin_ k x rf⟩, (tw.mono (fun _ e => by cases e)).trans q.tt (fun i hi => Or.inl ?_), fun d hd => ?_⟩
   ·simp only [List.mem_cons, List.not_mem_nil, or_false] at hi
    rcases hi with e | e | e
    ·exact mem_fpT.2 (Or.inl e)
    ·exact mem_fpT.2 (Or.inr (Or.inl e))
    ·exact mem_fpT.2 (Or.inr (Or.inr (Or.inl e)))
   ·rcases mem_fpT.1 hd with e | e | e | e | ⟨r, hr, e⟩
    ·exact Or.inl (mem_fpT.2 (Or.inl e))
    ·exact Or.inl (mem_fpT.2 (Or.inr (Or.inl e)))
    ·exact Or.inl (mem_fpT.2 (Or.inr (Or.inr (Or.inl e))))
    ·exact Or.inl (mem_fpT.2 (Or.inr (Or.inr (Or.inr (Or.inl e)))))
    ·rcases List.mem_append.1 hr with e' | e'
     ·exact Or.inl (mem_fpT.2 (Or.inr (Or.inr (Or.inr (Or.inr ⟨r, e', e⟩)))))
     ·simp only [List.mem_singleton] at e'
      subst e'
      have := hf d e
      exact Or.inr (by omega)
  clear h h1 hF hb hz en hbad hcur hmay hbg hL t0 hx hk hN
  unfold NwE at HN
  unfold rv tBegR at HN
  unfold bxK at hW
  unfold kv PT at *
  go_enter Tryz.func88, Tryz.ntmps88
  go_upto_region 1 with fail
  rw [← hW]
  clear hW
  go_wp2_with (go_at_call 131; refine HM.out.mono ?_; rintro e w2 ⟨rfl, t2⟩; have T2 := hid t2; have c1 := HQ.out w2 t2; clear t2 b0 b1)
  have k0 : Touch [] W w2.drew := T2.out.drew
  refine wp_region_H (S := fun w' => Touch [] W w') (by kernel_rfl) ?_
  refine wpH_take (i := 0) (v := (.int .i64 (T.bg + 1))) (some 30) rfl rfl (by kernel_rfl) (by kernel_rfl) (by kernel_rfl) (fun _ _ _ h => h) (Or.inl ⟨by rfl, fun w' hS => (by go_simp)⟩) k0 ?_
  try simp only [Go.Act.put, Zx, Zy, Zz]
  refine wpH_take (i := 1) (v := (.agg #[.int .u16 k.1, .string k.2])) (some 31) rfl rfl (by kernel_rfl) (by kernel_rfl) (by kernel_rfl) (fun _ _ _ h => h) (Or.inl ⟨by rfl, fun w' hS => (by have z0 := K0 _ hS; have z1 := K1 _ hS; go_simp)⟩) k0 ?_
  try simp only [Go.Act.put, Zx, Zy, Zz]
  refine wpH_take (i := 2) (v := (.pointer (some ⟨t, 0, none⟩))) (some 32) rfl rfl (by kernel_rfl) (by kernel_rfl) (by kernel_rfl) (fun _ _ _ h => h) (Or.inl ⟨by rfl, fun w' hS => (by go_simp)⟩) k0 ?_
  try simp only [Go.Act.put, Zx, Zy, Zz]
  refine wpH_take (i := 3) (v := (.pointer (some ⟨t, 0, none⟩))) (some 33) rfl rfl (by kernel_rfl) (by kernel_rfl) (by kernel_rfl) (fun _ _ _ h => h) (Or.inl ⟨by rfl, fun w' hS => (by go_simp)⟩) k0 ?_
  try simp only [Go.Act.put, Zx, Zy, Zz]
  refine wpH_take (i := 4) (v := (.pointer (some ⟨t, 4, none⟩))) (some 34) rfl rfl (by kernel_rfl) (by kernel_rfl) (by kernel_rfl) (fun _ _ _ h => h) (Or.inl ⟨by rfl, fun w' hS => (by go_simp)⟩) k0 ?_
  try simp only [Go.Act.put, Zx, Zy, Zz]
  refine wpH_take (i := 5) (v := (.map g)) (some 35) rfl rfl (by kernel_rfl) (by kernel_rfl) (by kernel_rfl) (fun _ _ _ h => h) (Or.inl ⟨by rfl, fun w' hS => (by have z0 := C4 _ hS; go_simp)⟩) k0 ?_
  try simp only [Go.Act.put, Zx, Zy, Zz]
  refine wpH_take (i := 6) (v := (.agg #[.int .u16 k.1, .string k.2])) (some 36) rfl rfl (by kernel_rfl) (by kernel_rfl) (by kernel_rfl) (fun _ _ _ h => h) (Or.inl ⟨by rfl, fun w' hS => (by have z0 := K0 _ hS; have z1 := K1 _ hS; go_simp)⟩) k0 ?_
  try simp only [Go.Act.put, Zx, Zy, Zz]
  refine wpH_take (i := 7) (v := (.int .i64 (T.gn k))) (some 37) rfl rfl (by kernel_rfl) (by kernel_rfl) (by kernel_rfl) (fun _ _ _ h => h) (Or.inl ⟨by rfl, fun w' hS => (by have z0 := L0 _ hS; go_simp)⟩) k0 ?_
  try simp only [Go.Act.put, Zx, Zy, Zz]
  refine wpH_take (i := 8) (v := (.bool rf)) (some 38) rfl rfl (by kernel_rfl) (by kernel_rfl) (by kernel_rfl) (fun _ _ _ h => h) (Or.inl ⟨by rfl, fun w' hS => (by go_simp)⟩) k0 ?_
  try simp only [Go.Act.put, Zx, Zy, Zz]
  refine wpH_take (i := 9) (v := (.agg #[.int .i64 (T.bg + 1), .int .u16 k.1, .string k.2, .int .i64 (T.gn k), .bool rf])) (some 39) rfl rfl (by kernel_rfl) (by kernel_rfl) (by kernel_rfl) (fun _ _ _ h => h) (Or.inl ⟨by rfl, fun w' hS => (by go_simp)⟩) k0 ?_
  try simp only [Go.Act.put, Zx, Zy, Zz]
  refine wpH_take (i := 10) (v := (.int .i64 x)) (some 40) rfl rfl (by kernel_rfl) (by kernel_rfl) (by kernel_rfl) (fun _ _ _ h => h) (Or.inl ⟨by rfl, fun w' hS => (by go_simp)⟩) k0 ?_
  try simp only [Go.Act.put, Zx, Zy, Zz]
  refine wpH_call (i := 11) (o := { dst := some 41, op := Op.call { callee := Callee.value (Operand.func 132), args := #[Operand.tmp 39, Operand.tmp 40], argTypes := #[53, 3] }, type := 232, pos := _, after := #[{ on := 9, ground := Ground.data }, { on := 10, ground := Ground.data }], guard := none }) (by kernel_rfl) rfl (fun K' hK => ?_)
  rw [if_pos (by rfl)]
  go_simp
  refine (HN.out _ k0).mono ?_
  rintro e' w4 ⟨b, F', rfl, r4, t4, f4⟩
  have k4 : Touch [] W w4 := k0.trans' t4
  refine hK.out _ _ k4 ?_
  clear hK
  try simp only [Go.Act.put, Zx, Zy, Zz]
  obtain ⟨W5, W6, W7, W8, W9, s1, s2, z1, z2, bw, s0, ⟨cc1, cf1⟩, hfin⟩ := HW.out _ w4 b F' k0 t4 r4 f4
  have HF := hid hfin
  obtain ⟨e5, r6, r7, r8, r9, q5, q6, q7, q8, -, -, -, -⟩ := bw
  clear r4 t4 f4 hfin
  refine wpH_take (i := 12) (v := (.tuple #[(.pointer (some ⟨b, 0, none⟩)), (.int .i64 0)])) (some 29) rfl rfl (by kernel_rfl) (by kernel_rfl) (by kernel_rfl) (fun _ _ _ h => h) (Or.inl ⟨by rfl, fun w' hS => (by go_simp)⟩) k4 ?_
  try simp only [Go.Act.put, Zx, Zy, Zz]
  refine wpH_take (i := 13) (v := (.pointer (some ⟨b, 0, none⟩))) (some 42) rfl rfl (by kernel_rfl) (by kernel_rfl) (by kernel_rfl) (fun _ _ _ h => h) (Or.inl ⟨by rfl, fun w' hS => (by go_simp)⟩) k4 ?_
  try simp only [Go.Act.put, Zx, Zy, Zz]
  refine wpH_take (i := 14) (v := (.int .i64 0)) (some 43) rfl rfl (by kernel_rfl) (by kernel_rfl) (by kernel_rfl) (fun _ _ _ h => h) (Or.inl ⟨by rfl, fun w' hS => (by go_simp)⟩) k4 ?_
  try simp only [Go.Act.put, Zx, Zy, Zz]
  refine wpH_take (i := 15) (v := (.pointer (some ⟨b, 0, none⟩))) (some 12) rfl rfl (by kernel_rfl) (by kernel_rfl) (by kernel_rfl) (fun _ _ _ h => h) (Or.inl ⟨by rfl, fun w' hS => (by go_simp)⟩) k4 ?_
  try simp only [Go.Act.put, Zx, Zy, Zz]
  refine wpH_take (i := 16) (v := (.int .i64 0)) (some 13) rfl rfl (by kernel_rfl) (by kernel_rfl) (by kernel_rfl) (fun _ _ _ h => h) (Or.inl ⟨by rfl, fun w' hS => (by go_simp)⟩) k4 ?_
  try simp only [Go.Act.put, Zx, Zy, Zz]
  refine wpAnyH_done (by kernel_rfl) ?_ _
  clear HN HW C4 L0 K0 K1
  go_upto_region 8 with fail
  have N2 : ∀ w', BgS t p c w.heap.size k w' → w'.cell? ⟨t, 2, none⟩ = some (.map (some p)) := fun w' q => q.1
  have N3 : ∀ w', BgS t p c w.heap.size k w' → w'.cell? ⟨t, 3, none⟩ = some (.map (some c)) := fun w' q => q.2.1
  have N0 : ∀ w', BgS t p c w.heap.size k w' → w'.cell? ⟨w.heap.size, 0, none⟩ = some (.int .u16 k.1) := fun w' q => q.2.2.1
  have N1 : ∀ w', BgS t p c w.heap.size k w' → w'.cell? ⟨w.heap.size, 1, none⟩ = some (.string k.2) := fun w' q => q.2.2.2
  refine wp_region_L (S := BgS t p c w.heap.size k) (st := 22) (by kernel_rfl) ?_
  refine wpL_take (i := 0) (v := (.pointer (some ⟨t, 0, none⟩))) (some 44) rfl rfl (by kernel_rfl) (by kernel_rfl) (by kernel_rfl) (by kernel_rfl) (by kernel_rfl) (by decide) (fun _ _ _ h => h) (Or.inl ⟨by rfl, fun w' hS => (by go_simp)⟩) s0 ?_
  try simp only [Go.Act.put, Zx, Zy, Zz]
  refine wpL_take (i := 1) (v := (.pointer (some ⟨t, 0, none⟩))) (some 45) rfl rfl (by kernel_rfl) (by kernel_rfl) (by kernel_rfl) (by kernel_rfl) (by kernel_rfl) (by decide) (fun _ _ _ h => h) (Or.inl ⟨by rfl, fun w' hS => (by go_simp)⟩) s0 ?_
  try simp only [Go.Act.put, Zx, Zy, Zz]
  refine wpL_take (i := 2) (v := (.pointer (some ⟨t, 0, none⟩))) (some 46) rfl rfl (by kernel_rfl) (by kernel_rfl) (by kernel_rfl) (by kernel_rfl) (by kernel_rfl) (by decide) (fun _ _ _ h => h) (Or.inl ⟨by rfl, fun w' hS => (by go_simp)⟩) s0 ?_
  try simp only [Go.Act.put, Zx, Zy, Zz]
  refine wpL_take (i := 3) (v := (.pointer (some ⟨t, 2, none⟩))) (some 47) rfl rfl (by kernel_rfl) (by kernel_rfl) (by kernel_rfl) (by kernel_rfl) (by kernel_rfl) (by decide) (fun _ _ _ h => h) (Or.inl ⟨by rfl, fun w' hS => (by go_simp)⟩) s0 ?_
  try simp only [Go.Act.put, Zx, Zy, Zz]
  refine wpL_take (i := 4) (v := (.map (some p))) (some 48) rfl rfl (by kernel_rfl) (by kernel_rfl) (by kernel_rfl) (by kernel_rfl) (by kernel_rfl) (by decide) (fun _ _ _ h => h) (Or.inl ⟨by rfl, fun w' hS => (by have z0 := N2 _ hS; go_simp)⟩) s0 ?_
  try simp only [Go.Act.put, Zx, Zy, Zz]
  refine wpL_take (i := 5) (v := (.int .i64 (T.bg + 1))) (some 49) rfl rfl (by kernel_rfl) (by kernel_rfl) (by kernel_rfl) (by kernel_rfl) (by kernel_rfl) (by decide) (fun _ _ _ h => h) (Or.inl ⟨by rfl, fun w' hS => (by go_simp)⟩) s0 ?_
  try simp only [Go.Act.put, Zx, Zy, Zz]
  refine wpL_take (i := 6) (v := (.pointer (some ⟨t, 0, none⟩))) (some 50) rfl rfl (by kernel_rfl) (by kernel_rfl) (by kernel_rfl) (by kernel_rfl) (by kernel_rfl) (by decide) (fun _ _ _ h => h) (Or.inl ⟨by rfl, fun w' hS => (by go_simp)⟩) s0 ?_
  try simp only [Go.Act.put, Zx, Zy, Zz]
  refine wpL_take (i := 7) (v := (.pointer (some ⟨t, 0, none⟩))) (some 51) rfl rfl (by kernel_rfl) (by kernel_rfl) (by kernel_rfl) (by kernel_rfl) (by kernel_rfl) (by decide) (fun _ _ _ h => h) (Or.inl ⟨by rfl, fun w' hS => (by go_simp)⟩) s0 ?_
  try simp only [Go.Act.put, Zx, Zy, Zz]
  refine wpL_take (i := 8) (v := (.pointer (some ⟨t, 3, none⟩))) (some 52) rfl rfl (by kernel_rfl) (by kernel_rfl) (by kernel_rfl) (by kernel_rfl) (by kernel_rfl) (by decide) (fun _ _ _ h => h) (Or.inl ⟨by rfl, fun w' hS => (by go_simp)⟩) s0 ?_
  try simp only [Go.Act.put, Zx, Zy, Zz]
  refine wpL_take (i := 9) (v := (.map (some c))) (some 53) rfl rfl (by kernel_rfl) (by kernel_rfl) (by kernel_rfl) (by kernel_rfl) (by kernel_rfl) (by decide) (fun _ _ _ h => h) (Or.inl ⟨by rfl, fun w' hS => (by have z0 := N3 _ hS; go_simp)⟩) s0 ?_
  try simp only [Go.Act.put, Zx, Zy, Zz]
  refine wpL_take (i := 10) (v := (.agg #[.int .u16 k.1, .string k.2])) (some 54) rfl rfl (by kernel_rfl) (by kernel_rfl) (by kernel_rfl) (by kernel_rfl) (by kernel_rfl) (by decide) (fun _ _ _ h => h) (Or.inl ⟨by rfl, fun w' hS => (by have z0 := N0 _ hS; have z1 := N1 _ hS; go_simp)⟩) s0 ?_
  try simp only [Go.Act.put, Zx, Zy, Zz]
  refine wpL_take (i := 11) (v := (.int .i64 (T.bg + 1))) (some 55) rfl rfl (by kernel_rfl) (by kernel_rfl) (by kernel_rfl) (by kernel_rfl) (by kernel_rfl) (by decide) (fun _ _ _ h => h) (Or.inl ⟨by rfl, fun w' hS => (by go_simp)⟩) s0 ?_
  try simp only [Go.Act.put, Zx, Zy, Zz]
  refine wpL_take (i := 12) (v := (.pointer (some ⟨b, 0, none⟩))) (some 56) rfl rfl (by kernel_rfl) (by kernel_rfl) (by kernel_rfl) (by kernel_rfl) (by kernel_rfl) (by decide) (fun _ _ _ h => h) (Or.inl ⟨by rfl, fun w' hS => (by go_simp)⟩) s0 ?_
  try simp only [Go.Act.put, Zx, Zy, Zz]
  refine wpL_take (i := 13) (v := (.int .i64 (T.bg + 1))) (some 57) rfl rfl (by kernel_rfl) (by kernel_rfl) (by kernel_rfl) (by kernel_rfl) (by kernel_rfl) (by decide) (fun _ _ _ h => h) (Or.inl ⟨by rfl, fun w' hS => (by go_simp)⟩) s0 ?_
  try simp only [Go.Act.put, Zx, Zy, Zz]
  refine wpL_take (i := 14) (v := (.pointer (some ⟨t, 0, none⟩))) (some 58) rfl rfl (by kernel_rfl) (by kernel_rfl) (by kernel_rfl) (by kernel_rfl) (by kernel_rfl) (by decide) (fun _ _ _ h => h) (Or.inl ⟨by rfl, fun w' hS => (by go_simp)⟩) s0 ?_
  try simp only [Go.Act.put, Zx, Zy, Zz]
  refine wpL_take (i := 15) (v := (.pointer (some ⟨t, 1, none⟩))) (some 59) rfl rfl (by kernel_rfl) (by kernel_rfl) (by kernel_rfl) (by kernel_rfl) (by kernel_rfl) (by decide) (fun _ _ _ h => h) (Or.inl ⟨by rfl, fun w' hS => (by go_simp)⟩) s0 ?_
  try simp only [Go.Act.put, Zx, Zy, Zz]
  refine wpL_ready (rs := [16]) (by kernel_rfl) (by simp) (AllL.cons (o := { dst := none, op := Op.store 3 (Operand.tmp 59) (Operand.tmp 55), type := 0, pos := _, after := #[{ on := 15, ground := Ground.data }, { on := 11, ground := Ground.data }, { on := 0, ground := Ground.phase }, { on := 1, ground := Ground.textOnly Departure.lateStores }, { on := 2, ground := Ground.textOnly Departure.lateStoresUnsure }, { on := 3, ground := Ground.textOnly Departure.lateStoresUnsure }, { on := 4, ground := Ground.phase }, { on := 5, ground := Ground.textOnly Departure.lateStores }, { on := 6, ground := Ground.textOnly Departure.lateStores }, { on := 7, ground := Ground.textOnly Departure.lateStoresUnsure }, { on := 8, ground := Ground.textOnly Departure.lateStoresUnsure }, { on := 9, ground := Ground.phase }, { on := 10, ground := Ground.textOnly Departure.lateStoresUnsure }, { on := 11, ground := Ground.phase }, { on := 12, ground := Ground.textOnly Departure.lateStores }, { on := 13, ground := Ground.textOnly Departure.lateStores }], guard := none }) rfl (fun K' hK => ?_) AllL.nil)
  rw [if_pos (by rfl)]
  go_simp
  rw [← e5]
  clear e5
  refine hK.out _ _ (fun _ => q5) ?_
  clear hK
  try simp only [Go.Act.put, Zx, Zy, Zz]
  refine wpL_ready (rs := [17]) (by kernel_rfl) (by simp) (AllL.cons (o := { dst := some 60, op := Op.mapEntry 176 (Operand.tmp 48) (Operand.tmp 49), type := 0, pos := _, after := #[{ on := 4, ground := Ground.data }, { on := 5, ground := Ground.data }, { on := 16, ground := Ground.chain }, { on := 0, ground := Ground.phase }, { on := 1, ground := Ground.textOnly Departure.tupleMapEntryFirst }, { on := 2, ground := Ground.textOnly Departure.lateStoresUnsure }, { on := 3, ground := Ground.textOnly Departure.lateStoresUnsure }, { on := 4, ground := Ground.phase }, { on := 5, ground := Ground.textOnly Departure.tupleMapEntryFirst }, { on := 6, ground := Ground.textOnly Departure.lateStores }, { on := 7, ground := Ground.textOnly Departure.lateStoresUnsure }, { on := 8, ground := Ground.textOnly Departure.lateStoresUnsure }, { on := 9, ground := Ground.phase }, { on := 10, ground := Ground.textOnly Departure.lateStoresUnsure }, { on := 11, ground := Ground.phase }, { on := 12, ground := Ground.textOnly Departure.tupleMapEntryFirst }, { on := 13, ground := Ground.textOnly Departure.lateStores }, { on := 14, ground := Ground.phase }, { on := 15, ground := Ground.phase }, { on := 16, ground := Ground.phase }], guard := none }) rfl (fun K' hK => ?_) AllL.nil)
  rw [if_pos (by rfl)]
  go_simp
  refine hK.out _ _ (fun _ => q6) ?_
  clear hK
  try simp only [Go.Act.put, Zx, Zy, Zz]
  refine wpL_take (i := 18) (v := (.int .i64 (s1 : Nat))) (some 61) rfl rfl (by kernel_rfl) (by kernel_rfl) (by kernel_rfl) (by kernel_rfl) (by kernel_rfl) (by decide) (fun _ _ _ h => h) (Or.inl ⟨by rfl, fun w' hS => (by go_simp)⟩) q6 ?_
  try simp only [Go.Act.put, Zx, Zy, Zz]
  refine wpL_ready (rs := [19]) (by kernel_rfl) (by simp) (AllL.cons (o := { dst := none, op := Op.entryStore 176 (Operand.tmp 48) (Operand.tmp 61) (Operand.tmp 56), type := 0, pos := _, after := #[{ on := 4, ground := Ground.data }, { on := 18, ground := Ground.data }, { on := 12, ground := Ground.data }, { on := 17, ground := Ground.chain }, { on := 0, ground := Ground.phase }, { on := 1, ground := Ground.phase }, { on := 2, ground := Ground.phase }, { on := 3, ground := Ground.phase }, { on := 4, ground := Ground.phase }, { on := 5, ground := Ground.phase }, { on := 6, ground := Ground.textOnly Departure.lateStores }, { on := 7, ground := Ground.textOnly Departure.lateStoresUnsure }, { on := 8, ground := Ground.textOnly Departure.lateStoresUnsure }, { on := 9, ground := Ground.phase }, { on := 10, ground := Ground.textOnly Departure.lateStoresUnsure }, { on := 11, ground := Ground.phase }, { on := 12, ground := Ground.phase }, { on := 13, ground := Ground.textOnly Departure.lateStores }, { on := 14, ground := Ground.phase }, { on := 15, ground := Ground.phase }, { on := 16, ground := Ground.phase }, { on := 17, ground := Ground.phase }], guard := none }) rfl (fun K' hK => ?_) AllL.nil)
  rw [if_pos (by rfl)]
  go_simp
  refine hK.out _ _ (fun _ => q7) ?_
  clear hK
  try simp only [Go.Act.put, Zx, Zy, Zz]
  refine wpL_ready (rs := [20]) (by kernel_rfl) (by simp) (AllL.cons (o := { dst := some 62, op := Op.mapEntry 177 (Operand.tmp 53) (Operand.tmp 54), type := 0, pos := _, after := #[{ on := 9, ground := Ground.data }, { on := 10, ground := Ground.data }, { on := 19, ground := Ground.chain }, { on := 0, ground := Ground.phase }, { on := 1, ground := Ground.phase }, { on := 2, ground := Ground.phase }, { on := 3, ground := Ground.phase }, { on := 4, ground := Ground.phase }, { on := 5, ground := Ground.phase }, { on := 6, ground := Ground.textOnly Departure.tupleMapEntryFirst }, { on := 7, ground := Ground.textOnly Departure.lateStoresUnsure }, { on := 8, ground := Ground.textOnly Departure.lateStoresUnsure }, { on := 9, ground := Ground.phase }, { on := 10, ground := Ground.textOnly Departure.lateStoresUnsure }, { on := 11, ground := Ground.phase }, { on := 12, ground := Ground.phase }, { on := 13, ground := Ground.textOnly Departure.tupleMapEntryFirst }, { on := 14, ground := Ground.phase }, { on := 15, ground := Ground.phase }, { on := 16, ground := Ground.phase }, { on := 17, ground := Ground.phase }, { on := 18, ground := Ground.phase }, { on := 19, ground := Ground.phase }], guard := none }) rfl (fun K' hK => ?_) AllL.nil)
  rw [if_pos (by rfl)]
  go_simp
  refine hK.out _ _ (fun _ => q8) ?_
  clear hK
  try simp only [Go.Act.put, Zx, Zy, Zz]
  refine wpL_take (i := 21) (v := (.int .i64 (s2 : Nat))) (some 63) rfl rfl (by kernel_rfl) (by kernel_rfl) (by kernel_rfl) (by kernel_rfl) (by kernel_rfl) (by decide) (fun _ _ _ h => h) (Or.inl ⟨by rfl, fun w' hS => (by go_simp)⟩) q8 ?_
  try simp only [Go.Act.put, Zx, Zy, Zz]
  refine wpL_ready (rs := [22]) (by kernel_rfl) (by simp) (AllL.cons (o := { dst := none, op := Op.entryStore 177 (Operand.tmp 53) (Operand.tmp 63) (Operand.tmp 57), type := 0, pos := _, after := #[{ on := 9, ground := Ground.data }, { on := 21, ground := Ground.data }, { on := 13, ground := Ground.data }, { on := 20, ground := Ground.chain }, { on := 0, ground := Ground.phase }, { on := 1, ground := Ground.phase }, { on := 2, ground := Ground.phase }, { on := 3, ground := Ground.phase }, { on := 4, ground := Ground.phase }, { on := 5, ground := Ground.phase }, { on := 6, ground := Ground.phase }, { on := 7, ground := Ground.phase }, { on := 8, ground := Ground.phase }, { on := 9, ground := Ground.phase }, { on := 10, ground := Ground.phase }, { on := 11, ground := Ground.phase }, { on := 12, ground := Ground.phase }, { on := 13, ground := Ground.phase }, { on := 14, ground := Ground.phase }, { on := 15, ground := Ground.phase }, { on := 16, ground := Ground.phase }, { on := 17, ground := Ground.phase }, { on := 18, ground := Ground.phase }, { on := 19, ground := Ground.phase }, { on := 20, ground := Ground.phase }], guard := none }) rfl (fun K' hK => ?_) AllL.nil)
  rw [if_pos (by rfl)]
  go_simp
  refine hK.out _ _ (fun h => absurd h (by decide)) ?_
  clear hK
  try simp only [Go.Act.put, Zx, Zy, Zz]
  refine wpL_done (by kernel_rfl) ?_ _
  go_wp2
  exact bodyPost_ret (v := .tuple #[.int .i64 (T.bg + 1), .int .i64 0]) (by simp [results, Tryz.results88, go_sem]) rfl ⟨rfl, HF.out⟩
 ·have en : tBegN T k x rf = 0 := by unfold tBegN; rw [if_neg hz]
  have es : tBeg T k x rf = T := by unfold tBeg; rw [if_neg hz]
  have hz' : (tBegE T k x rf != 0) = true := by simp [hz]
  rw [en, es]
  have HS : Hid (∀ w2, Touch [] W w2 → TqE w w2 t F T (N + 1)) := fun w2 T' => TqE.touch h (t0.trans' T') (Nat.le_succ N)
  clear h h1 hF hb hz en es t0
  generalize tBegE T k x rf = E at *
  unfold bxK at hW
  unfold kv PT at *
  go_enter Tryz.func88, Tryz.ntmps88
  go_upto_region 1 with fail
  rw [← hW]
  clear hW
  go_wp2_with (go_at_call 131; refine HM.out.mono ?_; rintro e w2 ⟨rfl, t2⟩; have T2 := hid t2; clear t2)
  exact bodyPost_ret (v := .tuple #[.int .i64 0, .int .i64 E]) (by simp [results, Tryz.results88, go_sem]) rfl ⟨rfl, HS.out _ T2.out⟩
end
end Go.Proofs.YtkfophlhpjbmgaaGreat.Ta
/- The contracts of a batch's Runs, Has, Clone and New; no conditions but those that each states. -/
namespace Go.Proofs.YtkfophlhpjbmgaaGreat.Ba
open Go.RowKit Go.Maps Go.ChangeMaps
section
variable {w : World} {b : Nat} {sl : Value} {d : Int} {S : Bs}
def mayB (c k : Int) : Bool := decide (1 ≤ c) && decide (c ≤ 1024) && decide (0 ≤ k)
def S0 (c k : Int) : Bs := ⟨c, k, 0, 0, [], 0, 0⟩
theorem new_yes (w : World) (c k : Int) (h : mayB c k = true) : Calls Tryz.prog 77 #[.int .i64 c, .int .i64 k] w fun e w' => e = .returned (.tuple #[PT w.heap.size, .int .i64 0]) ∧ Bm w' w.heap.size (.slice none 0 0) 0 (S0 c k) ∧ Touch [] w w' := by
 have HX : Hid (Bm (w.alloc (.cells (pc (S0 c k) (.slice none 0 0) 0) 202)) w.heap.size (.slice none 0 0) 0 (S0 c k)) := ⟨heap_alloc_new w _, World.ownsRow_nil _ _ _ _, fun h => absurd rfl h⟩
 unfold mayB at h
 simp only [Bool.and_eq_true, decide_eq_true_eq] at h
 obtain ⟨⟨h1, h2⟩, h3⟩ := h
 unfold pc S0 at HX
 unfold S0 PT
 go_enter Tryz.func77, Tryz.ntmps77
 go_wp2
 exact bodyPost_ret (v := .tuple #[.pointer (some ⟨w.heap.size, 0, none⟩), .int .i64 0]) (by simp [results, Tryz.results77, go_sem]) rfl ⟨rfl, HX.out, (Touch.refl _ _).alloc _⟩
end
end Go.Proofs.YtkfophlhpjbmgaaGreat.Ba
