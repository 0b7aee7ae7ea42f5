/- The contract of goOn: a key's generation goes on. -/
import Derived.Test.YtpihhlllembdeaaGreatTbr
namespace Go.Proofs.YtpihhlllembdeaaGreat
open Go.RowKit Go.Maps Go.ChangeMaps
set_option linter.unusedVariables false
set_option linter.unusedSimpArgs false
section
variable {w W W1 W2 : World} {t p c d : Nat} {g : Option Nat} {nc ng nc' ng' : Nat} {Ps : List Rb} {T : Tb} {N : Nat} {k : K}
theorem Tm.tne (h : Tm w t p c g nc ng Ps T N) : t ≠ p ∧ t ≠ c ∧ g ≠ some t := by
  obtain ⟨e1, l1, k1⟩ := h.pm.kind
  obtain ⟨e2, l2, k2⟩ := h.cm.kind
  refine ⟨fun e => ?_, fun e => ?_, fun e => ?_⟩
  · rw [← e, h.bl] at k1; cases k1
  · rw [← e, h.bl] at k2; cases k2
  · obtain ⟨e3, l3, k3⟩ := h.gm.kind e
    rw [h.bl] at k3; cases k3
theorem eqMK_some (w : World) (d : Nat) : (binOp .eql 46 (.map (some d)) (.map none)).run Tryz.prog w = .ok (.bool false) w := run_eql_map_nil w _ _ _ (some d) Tryz.underlying46
theorem eqMK_none (w : World) : (binOp .eql 46 (.map none) (.map none)).run Tryz.prog w = .ok (.bool true) w := run_eql_map_nil w _ _ _ none Tryz.underlying46
theorem genV_goOn (T : Tb) (k j : K) (h : 0 ≤ T.gn k) : kupd (genV T) k (.int .i64 (T.gn k + 1)) j = genV (goOn T k) j := by
  unfold kupd genV goOn
  by_cases e : j = k
  · subst e
    simp
    omega
  · simp [e]
theorem curV_goOn (h : Ti T N) (k j : K) : kdel (curV T) k j = curV (goOn T k) j := by
  unfold kdel curV
  rw [curOf_goOn h]
  split <;> rfl
theorem goOn_end (h : Tm W t p c (some d) nc ng Ps T N) (hk : Ok k) (T1 : Touch [d] W W1) (m1 : MapK KC W1 d ng' (kupd (genV T) k (.int .i64 (T.gn k + 1)))) (T2 : Touch [c] W1 W2) (m2 : MapK KC W2 c nc' (kdel (curV T) k)) (hng : ng' ≤ N + 1) (hnc : nc' ≤ N + 1) :
    Tm W2 t p c (some d) nc' ng' Ps (goOn T k) (N + 1) ∧ Touch [d, c] W W2 := by
  have hT : Touch [d, c] W W2 := (T1.mono (by simp)).trans (T2.mono (by simp)) (fun i hi => Or.inl hi)
  have hd : d ≠ p ∧ d ≠ c := ⟨fun e => h.gp (by rw [e]), fun e => h.gc (by rw [e])⟩
  obtain ⟨es, cl, kd⟩ := h.gm.kind rfl
  obtain ⟨es2, cl2, kc⟩ := h.cm.kind
  have ht1 : t ≠ d := fun e => by rw [← e, h.bl] at kd; cases kd
  have ht2 : t ≠ c := fun e => by rw [← e, h.bl] at kc; cases kc
  refine ⟨⟨h.rs, hT.keep h.bl (by simp [ht1, ht2]), h.pm.keep hT (by simp [Ne.symm hd.1, h.pc]), m2.congr (fun j _ => curV_goOn h.iv k j), Or.inr ⟨d, rfl, ?_⟩, h.pc, h.gp, h.gc, hnc, hng, fun q hq => ?_, h.far, h.apart, h.iv.goOn k⟩, hT⟩
  · exact (m1.keep T2 (by simp [hd.2])).congr (fun j _ => genV_goOn T k j (h.iv.gn k).1)
  · refine ((h.recs q hq).keep hT (fun x hx e => ?_)).mono (Nat.le_succ N)
    have := h.far q hq x hx
    simp only [List.mem_cons, List.not_mem_nil, or_false] at e
    rcases e with e | e
    · exact this.2.2.2 (by rw [e])
    · exact this.2.2.1 e
/-- The map of generations is made. -/
theorem Tm.made (h : Tm w t p c none nc ng Ps T N) : Tm ((w.alloc (.map #[] 0)).setCell ⟨t, 4, none⟩ (.map (some w.heap.size))) t p c (some w.heap.size) nc 0 Ps T N ∧ Touch [t] w ((w.alloc (.map #[] 0)).setCell ⟨t, 4, none⟩ (.map (some w.heap.size))) := by
  have h0 : ∀ k, T.gn k = 0 := by
    rcases h.gm with ⟨_, h0⟩ | ⟨d, e, _⟩
    · exact h0
    · cases e
  have ta : Touch [] w (w.alloc (.map #[] 0)) := (Touch.refl _ _).alloc _
  have ha := h.keep0 ta
  have hts : Touch [t] (w.alloc (.map #[] 0)) ((w.alloc (.map #[] 0)).setCell ⟨t, 4, none⟩ (.map (some w.heap.size))) := (Touch.refl _ _).setCell (Or.inl (by simp)) _
  have lt1 := h.lt t (mem_fpT.2 (Or.inl rfl))
  obtain ⟨e1, l1, k1⟩ := h.pm.kind
  obtain ⟨e2, l2, k2⟩ := h.cm.kind
  have n1 : p ≠ t := fun e => by rw [e, h.bl] at k1; cases k1
  have n2 : c ≠ t := fun e => by rw [e, h.bl] at k2; cases k2
  have l3 := block_lt k1
  have l4 := block_lt k2
  refine ⟨⟨h.rs, ?_, ha.pm.keep hts (by simp [n1]), ha.cm.keep hts (by simp [n2]), Or.inr ⟨_, rfl, ?_⟩, h.pc, fun e => ?_, fun e => ?_, h.lc, Nat.zero_le _, fun q hq => ?_, fun q hq x hx => ?_, h.apart, h.iv⟩, (ta.mono (by simp)).trans hts (fun i hi => Or.inl hi)⟩
  · have := bset (i := 4) ha.bl (.map (some w.heap.size))
    exact this
  · refine ((mapK_made KC w).keep hts (by simp; omega)).congr (fun k _ => ?_)
    simp [genV, h0 k]
  · simp only [Option.some.injEq] at e; omega
  · simp only [Option.some.injEq] at e; omega
  · exact (ha.recs q hq).keep hts (fun x hx e => by simp only [List.mem_singleton] at e; exact (h.far q hq x hx).1 e)
  · have := h.far q hq x hx
    have l := (h.recs q hq).lt x hx
    exact ⟨this.1, this.2.1, this.2.2.1, fun e => by simp only [Option.some.injEq] at e; omega⟩
theorem bx_keep {F : List Nat} (w W : World) (k : K) (T' : Touch F (w.alloc (bxK k)) W) (hF : ¬ w.heap.size ∈ F) : W.cell? ⟨w.heap.size, 0, none⟩ = some (.int .u16 k.1) ∧ W.cell? ⟨w.heap.size, 1, none⟩ = some (.string k.2) := by
  have := T'.keep (heap_alloc_new w (bxK k)) hF
  exact ⟨cell_at this rfl, cell_at this rfl⟩
/-- What the first step of the compound assignment leaves. -/
def GsS (W : World) (d : Nat) (k : K) (v : Int) (w' : World) : Prop := Touch [d] W w' ∧ (Instr.lookup 46 (.map (some d)) (.agg #[.int .u16 k.1, .string k.2]) false).run Tryz.prog w' = .ok (.int .i64 v) w'
theorem gen_entry (h : Tm W t p c (some d) nc ng Ps T N) (hk : Ok k) (hN : N ≤ 3000000000000) : ∃ (sn : Nat) (o : Obj), (Instr.mapEntry 46 (.map (some d)) (.agg #[.int .u16 k.1, .string k.2])).run Tryz.prog W.drew = .ok (.tuple #[.int .i64 (T.gn k), .int .i64 (sn : Nat)]) (setBlock W.drew d o) ∧ GsS W d k (T.gn k) (setBlock W.drew d o) ∧
    ∃ o2, (Instr.entryStore 46 (.map (some d)) (.int .i64 (sn : Nat)) (.int .i64 (T.gn k + 1))).run Tryz.prog (setBlock W.drew d o) = .ok () (setBlock (setBlock W.drew d o) d o2) ∧ ∃ ng', ng' ≤ N + 1 ∧ MapK KC (setBlock (setBlock W.drew d o) d o2) d ng' (kupd (genV T) k (.int .i64 (T.gn k + 1))) ∧ Touch [d] W (setBlock (setBlock W.drew d o) d o2) := by
  have hm : MapK KC W.drew d ng (genV T) := by
    rcases h.gm with ⟨e, _⟩ | ⟨d', e, hm⟩
    · cases e
    · cases e; exact hm.kept rfl
  have e0 : (genV T k).getD (.int .i64 0) = .int .i64 (T.gn k) := by
    unfold genV
    split
    · rename_i q; rw [q]; rfl
    · rfl
  have hl := h.lg
  obtain ⟨sn, o, q1, q2, q3⟩ := hm.entry (t := 46) Tryz.underlying46 (by unfold maxLen; omega) zero3 hk
  rw [e0] at q1 q2
  have tt : Touch [d] W (setBlock W.drew d o) := touch_setBlock (Touch.refl _ _).drew (Or.inl (by simp)) o
  have hb : (setBlock W.drew d o).heap[d]? = some o := by
    have := hm.lt
    simp only [setBlock, Array.getElem?_setIfInBounds, if_true, this]
  obtain ⟨o2, r1, r2⟩ := q3 _ (.int .i64 (T.gn k + 1)) hb
  refine ⟨sn, o, q1, ⟨tt, ?_⟩, o2, r1, _, ?_, r2, touch_setBlock tt (Or.inl (by simp)) o2⟩
  · have := q2.look (t := 46) Tryz.underlying46 (zero3 _) hk
    simp only [kupd, if_true, Option.getD_some] at this
    exact this
  · split <;> omega
theorem cur_del (h : Tm W t p c (some d) nc ng Ps T N) (hk : Ok k) (T1 : Touch [d] W W1) : ∃ o, (∀ ty, (Builtin.delete_ #[46, 34] ty #[.map (some c), .agg #[.int .u16 k.1, .string k.2]]).run Tryz.prog W1.drew = .ok (.tuple #[]) (setBlock W1.drew c o)) ∧ Touch [c] W1 (setBlock W1.drew c o) ∧ ∃ nc', nc' ≤ N + 1 ∧ MapK KC (setBlock W1.drew c o) c nc' (kdel (curV T) k) := by
  have hc : c ≠ d := fun e => h.gc (by rw [e])
  have hm : MapK KC W1.drew c nc (curV T) := (h.cm.keep T1 (by simp [hc])).kept rfl
  obtain ⟨o, q1, q2⟩ := hm.del (t := 46) Tryz.underlying46 hk 0
  have hl := h.lc
  refine ⟨o, fun ty => q1, touch_setBlock (Touch.refl _ _).drew (Or.inl (by simp)) o, _, ?_, q2⟩
  split <;> omega
set_option maxHeartbeats 4000000 in
set_option maxRecDepth 100000 in
theorem tGoOn_some (h : Tm w t p c (some d) nc ng Ps T N) (hN : N ≤ 3000000000000) (hL : Lv T) (hk : Ok k) : Calls Tryz.prog 50 #[PT t, kv k] w fun e w' => e = .returned (.tuple #[]) ∧ TqE w w' t (fpT t p c (some d) Ps) (goOn T k) (N + 1) := by
  obtain ⟨W, hW⟩ : ∃ W, W = w.alloc (bxK k) := ⟨_, rfl⟩
  have t0 : Touch [] w W := by rw [hW]; exact (Touch.refl _ _).alloc _
  have h1 := h.keep0 t0
  have c4 := h1.cs.c4
  have HE : Hid (∀ W1 W2 nc' ng', Touch [d] W W1 → MapK KC W1 d ng' (kupd (genV T) k (.int .i64 (T.gn k + 1))) → Touch [c] W1 W2 → MapK KC W2 c nc' (kdel (curV T) k) → ng' ≤ N + 1 → nc' ≤ N + 1 → TqE w W2 t (fpT t p c (some d) Ps) (goOn T k) (N + 1)) := fun W1 W2 nc' ng' a1 a2 a3 a4 a5 a6 => by
    obtain ⟨q1, q2⟩ := goOn_end h1 hk a1 a2 a3 a4 a5 a6
    refine TqE.from0 t0 ⟨_, ⟨p, c, some d, nc', ng', Ps, rfl, q1, hL⟩, q2.mono (fun i hi => ?_), Nf.refl _ _⟩
    simp only [List.mem_cons, List.not_mem_nil, or_false] at hi
    rcases hi with e | e
    · exact mem_fpT.2 (Or.inr (Or.inr (Or.inr (Or.inl (by rw [e])))))
    · exact mem_fpT.2 (Or.inr (Or.inr (Or.inl e)))
  have hWb : W.heap[w.heap.size]? = some (.cells #[.int .u16 k.1, .string k.2] 34 (0, 0)) := by rw [hW]; exact heap_alloc_new w _
  have ld := h.lt d (mem_fpT.2 (Or.inr (Or.inr (Or.inr (Or.inl rfl)))))
  obtain ⟨nt1, nt2, nt3⟩ := h1.tne
  obtain ⟨sn, o1, E1, E2, o2, E3, ng', E4, E5, E6⟩ := gen_entry h1 hk hN
  obtain ⟨o3, D1, D2, nc', D3, D4⟩ := cur_del h1 hk E6
  have HF := hid (HE.out _ _ nc' ng' E6 E5 D2 D4 E4 D3)
  have M4 : ∀ w', GsS W d k (T.gn k) w' → w'.cell? ⟨t, 4, none⟩ = some (.map (some d)) := fun w' q => cell_at (q.1.keep h1.bl (by simp only [List.mem_singleton]; exact fun e => nt3 (by rw [e]))) rfl
  have K0 : ∀ w', GsS W d k (T.gn k) w' → w'.cell? ⟨w.heap.size, 0, none⟩ = some (.int .u16 k.1) := fun w' q => cell_at (q.1.keep hWb (by simp only [List.mem_singleton]; omega)) rfl
  have K1 : ∀ w', GsS W d k (T.gn k) w' → w'.cell? ⟨w.heap.size, 1, none⟩ = some (.string k.2) := fun w' q => cell_at (q.1.keep hWb (by simp only [List.mem_singleton]; omega)) rfl
  have L0 : ∀ w', GsS W d k (T.gn k) w' → (Instr.lookup 46 (.map (some d)) (.agg #[.int .u16 k.1, .string k.2]) false).run Tryz.prog w' = .ok (.int .i64 (T.gn k)) w' := fun w' q => q.2
  have k0 : GsS W d k (T.gn k) W.drew := ⟨(Touch.refl _ _).drew, (h1.keep0 (Touch.refl _ _).drew).lookG hk⟩
  have hwr : IntKind.i64.wrap (T.gn k + 1) = T.gn k + 1 := by have := h.iv.gn k; rw [IntKind.wrap_i64]; omega
  obtain ⟨W3, hW3⟩ : ∃ W3, W3 = setBlock (setBlock W.drew d o1) d o2 := ⟨_, rfl⟩
  rw [← hW3] at HF D1 D2 D4
  have tW : Touch [d] W W3 := by rw [hW3]; exact E6
  have M3 : ∀ w', Touch [] W3 w' → w'.cell? ⟨t, 3, none⟩ = some (.map (some c)) := fun w' q => cell_at ((tW.trans q (fun _ e => by cases e)).keep h1.bl (by simp only [List.mem_singleton]; exact fun e => nt3 (by rw [e]))) rfl
  have B0 : ∀ w', Touch [] W3 w' → w'.cell? ⟨w.heap.size, 0, none⟩ = some (.int .u16 k.1) := fun w' q => cell_at ((tW.trans q (fun _ e => by cases e)).keep hWb (by simp only [List.mem_singleton]; omega)) rfl
  have B1 : ∀ w', Touch [] W3 w' → w'.cell? ⟨w.heap.size, 1, none⟩ = some (.string k.2) := fun w' q => cell_at ((tW.trans q (fun _ e => by cases e)).keep hWb (by simp only [List.mem_singleton]; omega)) rfl
  have D1' := D1 0
  clear h h1 HE E4 E5 E6 D1 D2 D3 D4 t0 hN hk tW hWb ld nt1 nt2 nt3
  unfold PT kv
  unfold bxK at hW
  have qm := eqMK_some W d
  go_enter Tryz.func50, Tryz.ntmps50
  go_upto_region 1 with fail
  rw [← hW]
  clear hW
  go_upto_region 3 with fail
  refine wp_region_L (S := GsS W d k (T.gn k)) (st := 9) (by kernel_rfl) ?_
  refine wpL_take (i := 0) (v := (.pointer (some ⟨t, 0, none⟩))) (some 13) rfl rfl (by kernel_rfl) (by kernel_rfl) (by kernel_rfl) (by kernel_rfl) (by kernel_rfl) (by decide) (fun _ _ _ h => h) (Or.inl ⟨by rfl, fun w' hS => (by go_simp)⟩) k0 ?_
  try simp only [Go.Act.put, List.setIfInBounds_toArray, List.set_cons_zero, List.set_cons_succ]
  refine wpL_take (i := 1) (v := (.pointer (some ⟨t, 0, none⟩))) (some 14) rfl rfl (by kernel_rfl) (by kernel_rfl) (by kernel_rfl) (by kernel_rfl) (by kernel_rfl) (by decide) (fun _ _ _ h => h) (Or.inl ⟨by rfl, fun w' hS => (by go_simp)⟩) k0 ?_
  try simp only [Go.Act.put, List.setIfInBounds_toArray, List.set_cons_zero, List.set_cons_succ]
  refine wpL_take (i := 2) (v := (.pointer (some ⟨t, 4, none⟩))) (some 15) rfl rfl (by kernel_rfl) (by kernel_rfl) (by kernel_rfl) (by kernel_rfl) (by kernel_rfl) (by decide) (fun _ _ _ h => h) (Or.inl ⟨by rfl, fun w' hS => (by go_simp)⟩) k0 ?_
  try simp only [Go.Act.put, List.setIfInBounds_toArray, List.set_cons_zero, List.set_cons_succ]
  refine wpL_take (i := 3) (v := (.map (some d))) (some 16) rfl rfl (by kernel_rfl) (by kernel_rfl) (by kernel_rfl) (by kernel_rfl) (by kernel_rfl) (by decide) (fun _ _ _ h => h) (Or.inl ⟨by rfl, fun w' hS => (by have z0 := M4 _ hS; go_simp)⟩) k0 ?_
  try simp only [Go.Act.put, List.setIfInBounds_toArray, List.set_cons_zero, List.set_cons_succ]
  refine wpL_take (i := 4) (v := (.agg #[.int .u16 k.1, .string k.2])) (some 17) rfl rfl (by kernel_rfl) (by kernel_rfl) (by kernel_rfl) (by kernel_rfl) (by kernel_rfl) (by decide) (fun _ _ _ h => h) (Or.inl ⟨by rfl, fun w' hS => (by have z0 := K0 _ hS; have z1 := K1 _ hS; go_simp)⟩) k0 ?_
  try simp only [Go.Act.put, List.setIfInBounds_toArray, List.set_cons_zero, List.set_cons_succ]
  refine wpL_take (i := 5) (v := (.int .i64 (T.gn k))) (some 18) rfl rfl (by kernel_rfl) (by kernel_rfl) (by kernel_rfl) (by kernel_rfl) (by kernel_rfl) (by decide) (fun _ _ _ h => h) (Or.inl ⟨by rfl, fun w' hS => (by have z0 := L0 _ hS; go_simp)⟩) k0 ?_
  try simp only [Go.Act.put, List.setIfInBounds_toArray, List.set_cons_zero, List.set_cons_succ]
  refine wpL_take (i := 6) (v := (.int .i64 (T.gn k + 1))) (some 19) rfl rfl (by kernel_rfl) (by kernel_rfl) (by kernel_rfl) (by kernel_rfl) (by kernel_rfl) (by decide) (fun _ _ _ h => h) (Or.inl ⟨by rfl, fun w' hS => (by go_simp)⟩) k0 ?_
  try simp only [Go.Act.put, List.setIfInBounds_toArray, List.set_cons_zero, List.set_cons_succ]
  refine wpL_ready (rs := [7]) (by kernel_rfl) (by simp) (AllL.cons (o := { dst := some 20, op := Op.mapEntry 46 (Operand.tmp 16) (Operand.tmp 17), type := 0, pos := _, after := #[{ on := 3, ground := Ground.data }, { on := 4, ground := Ground.data }, { on := 0, ground := Ground.phase }, { on := 1, ground := Ground.phase }, { on := 2, ground := Ground.phase }, { on := 3, ground := Ground.phase }, { on := 4, ground := Ground.phase }, { on := 5, ground := Ground.textOnly Departure.mapOpAssignEntry }, { on := 6, ground := Ground.textOnly Departure.mapOpAssignEntry }], guard := none }) rfl (fun K' hK => ?_) AllL.nil)
  rw [if_pos (by rfl)]
  go_simp
  refine hK.out _ _ (fun _ => E2) ?_
  clear hK
  try simp only [Go.Act.put, List.setIfInBounds_toArray, List.set_cons_zero, List.set_cons_succ]
  refine wpL_take (i := 8) (v := (.int .i64 (sn : Nat))) (some 21) rfl rfl (by kernel_rfl) (by kernel_rfl) (by kernel_rfl) (by kernel_rfl) (by kernel_rfl) (by decide) (fun _ _ _ h => h) (Or.inl ⟨by rfl, fun w' hS => (by go_simp)⟩) E2 ?_
  try simp only [Go.Act.put, List.setIfInBounds_toArray, List.set_cons_zero, List.set_cons_succ]
  refine wpL_ready (rs := [9]) (by kernel_rfl) (by simp) (AllL.cons (o := { dst := none, op := Op.entryStore 46 (Operand.tmp 16) (Operand.tmp 21) (Operand.tmp 19), type := 0, pos := _, after := #[{ on := 3, ground := Ground.data }, { on := 8, ground := Ground.data }, { on := 6, ground := Ground.data }, { on := 7, ground := Ground.chain }, { on := 0, ground := Ground.phase }, { on := 1, ground := Ground.phase }, { on := 2, ground := Ground.phase }, { on := 3, ground := Ground.phase }, { on := 4, ground := Ground.phase }, { on := 5, ground := Ground.phase }, { on := 6, ground := Ground.phase }, { on := 7, ground := Ground.phase }, { on := 8, ground := Ground.phase }], guard := none }) rfl (fun K' hK => ?_) AllL.nil)
  rw [if_pos (by rfl)]
  go_simp
  refine hK.out _ _ (fun h => absurd h (by decide)) ?_
  clear hK
  try simp only [Go.Act.put, List.setIfInBounds_toArray, List.set_cons_zero, List.set_cons_succ]
  refine wpL_done (by kernel_rfl) ?_ _
  rw [← hW3]
  clear hW3 E1 E2 E3 M4 K0 K1 L0 k0 hwr
  go_upto_region 4 with fail
  have k3 : Touch [] W3 W3.drew := (Touch.refl _ _).drew
  refine wp_region_L (S := fun w' => Touch [] W3 w') (st := 5) (by kernel_rfl) ?_
  refine wpL_takeY (i := 0) (v := (.pointer (some ⟨t, 0, none⟩))) (some 22) rfl rfl (by kernel_rfl) (by kernel_rfl) (by kernel_rfl) (by decide) (fun _ _ _ h => h) (Or.inl ⟨by rfl, fun w' hS => (by go_simp)⟩) (fun _ => k3) ?_
  try simp only [Go.Act.put, List.setIfInBounds_toArray, List.set_cons_zero, List.set_cons_succ]
  refine wpL_takeY (i := 1) (v := (.pointer (some ⟨t, 0, none⟩))) (some 23) rfl rfl (by kernel_rfl) (by kernel_rfl) (by kernel_rfl) (by decide) (fun _ _ _ h => h) (Or.inl ⟨by rfl, fun w' hS => (by go_simp)⟩) (fun _ => k3) ?_
  try simp only [Go.Act.put, List.setIfInBounds_toArray, List.set_cons_zero, List.set_cons_succ]
  refine wpL_takeY (i := 2) (v := (.pointer (some ⟨t, 3, none⟩))) (some 24) rfl rfl (by kernel_rfl) (by kernel_rfl) (by kernel_rfl) (by decide) (fun _ _ _ h => h) (Or.inl ⟨by rfl, fun w' hS => (by go_simp)⟩) (fun _ => k3) ?_
  try simp only [Go.Act.put, List.setIfInBounds_toArray, List.set_cons_zero, List.set_cons_succ]
  refine wpL_take (i := 3) (v := (.map (some c))) (some 25) rfl rfl (by kernel_rfl) (by kernel_rfl) (by kernel_rfl) (by kernel_rfl) (by kernel_rfl) (by decide) (fun _ _ _ h => h) (Or.inl ⟨by rfl, fun w' hS => (by have z0 := M3 _ hS; go_simp)⟩) k3 ?_
  try simp only [Go.Act.put, List.setIfInBounds_toArray, List.set_cons_zero, List.set_cons_succ]
  refine wpL_take (i := 4) (v := (.agg #[.int .u16 k.1, .string k.2])) (some 26) rfl rfl (by kernel_rfl) (by kernel_rfl) (by kernel_rfl) (by kernel_rfl) (by kernel_rfl) (by decide) (fun _ _ _ h => h) (Or.inl ⟨by rfl, fun w' hS => (by have z0 := B0 _ hS; have z1 := B1 _ hS; go_simp)⟩) k3 ?_
  try simp only [Go.Act.put, List.setIfInBounds_toArray, List.set_cons_zero, List.set_cons_succ]
  refine wpL_ready (rs := [5]) (by kernel_rfl) (by simp) (AllL.cons (o := { dst := none, op := Op.call { callee := Callee.builtin Builtin.delete, args := #[Operand.tmp 25, Operand.tmp 26], argTypes := #[46, 34] }, type := 0, pos := _, after := #[{ on := 3, ground := Ground.data }, { on := 4, ground := Ground.data }], guard := none }) rfl (fun K' hK => ?_) AllL.nil)
  rw [if_pos (by rfl)]
  go_simp
  refine hK.out _ _ (fun h => absurd h (by decide)) ?_
  clear hK
  try simp only [Go.Act.put, List.setIfInBounds_toArray, List.set_cons_zero, List.set_cons_succ]
  refine wpL_done (by kernel_rfl) ?_ _
  go_wp2
  go_end0
  exact ⟨rfl, HF.out⟩
set_option maxHeartbeats 4000000 in
set_option maxRecDepth 100000 in
theorem tGoOn_none (h : Tm w t p c none nc ng Ps T N) (hN : N ≤ 3000000000000) (hL : Lv T) (hk : Ok k) : Calls Tryz.prog 50 #[PT t, kv k] w fun e w' => e = .returned (.tuple #[]) ∧ TqE w w' t (fpT t p c none Ps) (goOn T k) (N + 1) := by
  obtain ⟨V, hV⟩ : ∃ V, V = w.alloc (bxK k) := ⟨_, rfl⟩
  have tV : Touch [] w V := by rw [hV]; exact (Touch.refl _ _).alloc _
  have h0 := h.keep0 tV
  have c4v := h0.cs.c4
  have fv := h0.fz
  obtain ⟨h1, t1⟩ := h0.made
  obtain ⟨d, hd⟩ : ∃ d, d = V.heap.size := ⟨_, rfl⟩
  obtain ⟨W, hW⟩ : ∃ W, W = (V.alloc (.map #[] 0)).setCell ⟨t, 4, none⟩ (.map (some d)) := ⟨_, rfl⟩
  rw [← hd] at h1 t1
  rw [← hW] at h1 t1
  have hVb : V.heap[w.heap.size]? = some (.cells #[.int .u16 k.1, .string k.2] 34 (0, 0)) := by rw [hV]; exact heap_alloc_new w _
  have lt := h.lt t (mem_fpT.2 (Or.inl rfl))
  have ltV := h0.lt t (mem_fpT.2 (Or.inl rfl))
  have hlV : w.heap.size < V.heap.size := block_lt hVb
  have hcm : (V.alloc (.map #[] 0)).setCell ⟨t, 4, none⟩ (.map (some d)) = (V.setCell ⟨t, 4, none⟩ (.map (some d))).alloc (.map #[] 0) := by go_simp
  rw [hcm] at hW
  clear hcm
  have c4 := h1.cs.c4
  have HE : Hid (∀ W1 W2 nc' ng', Touch [d] W W1 → MapK KC W1 d ng' (kupd (genV T) k (.int .i64 (T.gn k + 1))) → Touch [c] W1 W2 → MapK KC W2 c nc' (kdel (curV T) k) → ng' ≤ N + 1 → nc' ≤ N + 1 → TqE w W2 t (fpT t p c none Ps) (goOn T k) (N + 1)) := fun W1 W2 nc' ng' a1 a2 a3 a4 a5 a6 => by
    obtain ⟨q1, q2⟩ := goOn_end h1 hk a1 a2 a3 a4 a5 a6
    have hz := tV.size
    refine TqE.from0 tV ⟨_, ⟨p, c, some d, nc', ng', Ps, rfl, q1, hL⟩, (t1.mono (fun i hi => ?_)).trans q2 (fun i hi => ?_), fun i hi => ?_⟩
    · simp only [List.mem_singleton] at hi; exact mem_fpT.2 (Or.inl hi)
    · simp only [List.mem_cons, List.not_mem_nil, or_false] at hi
      rcases hi with e | e
      · exact Or.inr (by omega)
      · exact Or.inl (mem_fpT.2 (Or.inr (Or.inr (Or.inl e))))
    · rcases mem_fpT.1 hi with e | e | e | e | e
      · exact Or.inl (mem_fpT.2 (Or.inl e))
      · exact Or.inl (mem_fpT.2 (Or.inr (Or.inl e)))
      · exact Or.inl (mem_fpT.2 (Or.inr (Or.inr (Or.inl e))))
      · simp only [Option.some.injEq] at e; exact Or.inr (by omega)
      · exact Or.inl (mem_fpT.2 (Or.inr (Or.inr (Or.inr (Or.inr e)))))
  have hWb : W.heap[w.heap.size]? = some (.cells #[.int .u16 k.1, .string k.2] 34 (0, 0)) := t1.keep hVb (by simp only [List.mem_singleton]; omega)
  obtain ⟨nt1, nt2, nt3⟩ := h1.tne
  obtain ⟨sn, o1, E1, E2, o2, E3, ng', E4, E5, E6⟩ := gen_entry h1 hk hN
  obtain ⟨o3, D1, D2, nc', D3, D4⟩ := cur_del h1 hk E6
  have HF := hid (HE.out _ _ nc' ng' E6 E5 D2 D4 E4 D3)
  have M4 : ∀ w', GsS W d k (T.gn k) w' → w'.cell? ⟨t, 4, none⟩ = some (.map (some d)) := fun w' q => cell_at (q.1.keep h1.bl (by simp only [List.mem_singleton]; exact fun e => nt3 (by rw [e]))) rfl
  have K0 : ∀ w', GsS W d k (T.gn k) w' → w'.cell? ⟨w.heap.size, 0, none⟩ = some (.int .u16 k.1) := fun w' q => cell_at (q.1.keep hWb (by simp only [List.mem_singleton]; omega)) rfl
  have K1 : ∀ w', GsS W d k (T.gn k) w' → w'.cell? ⟨w.heap.size, 1, none⟩ = some (.string k.2) := fun w' q => cell_at (q.1.keep hWb (by simp only [List.mem_singleton]; omega)) rfl
  have L0 : ∀ w', GsS W d k (T.gn k) w' → (Instr.lookup 46 (.map (some d)) (.agg #[.int .u16 k.1, .string k.2]) false).run Tryz.prog w' = .ok (.int .i64 (T.gn k)) w' := fun w' q => q.2
  have k0 : GsS W d k (T.gn k) W.drew := ⟨(Touch.refl _ _).drew, (h1.keep0 (Touch.refl _ _).drew).lookG hk⟩
  have hwr : IntKind.i64.wrap (T.gn k + 1) = T.gn k + 1 := by have := h.iv.gn k; rw [IntKind.wrap_i64]; omega
  obtain ⟨W3, hW3⟩ : ∃ W3, W3 = setBlock (setBlock W.drew d o1) d o2 := ⟨_, rfl⟩
  rw [← hW3] at HF D1 D2 D4
  have tW : Touch [d] W W3 := by rw [hW3]; exact E6
  have M3 : ∀ w', Touch [] W3 w' → w'.cell? ⟨t, 3, none⟩ = some (.map (some c)) := fun w' q => cell_at ((tW.trans q (fun _ e => by cases e)).keep h1.bl (by simp only [List.mem_singleton]; exact fun e => nt3 (by rw [e]))) rfl
  have B0 : ∀ w', Touch [] W3 w' → w'.cell? ⟨w.heap.size, 0, none⟩ = some (.int .u16 k.1) := fun w' q => cell_at ((tW.trans q (fun _ e => by cases e)).keep hWb (by simp only [List.mem_singleton]; omega)) rfl
  have B1 : ∀ w', Touch [] W3 w' → w'.cell? ⟨w.heap.size, 1, none⟩ = some (.string k.2) := fun w' q => cell_at ((tW.trans q (fun _ e => by cases e)).keep hWb (by simp only [List.mem_singleton]; omega)) rfl
  have D1' := D1 0
  clear h h0 h1 HE E4 E5 E6 D1 D2 D3 D4 tV t1 hN hk tW hWb hVb lt hlV nt1 nt2 nt3
  unfold PT kv
  unfold bxK at hV
  have qm := eqMK_none V
  have hmm := @run_makeMap Tryz.prog
  go_enter Tryz.func50, Tryz.ntmps50
  go_upto_region 1 with fail
  rw [← hV]
  clear hV
  go_upto_region 2 with fail
  go_wp2_with fail
  rw [← hd, ← hW]
  clear hd hW c4v fv hmm ltV
  go_upto_region 3 with fail
  refine wp_region_L (S := GsS W d k (T.gn k)) (st := 9) (by kernel_rfl) ?_
  refine wpL_take (i := 0) (v := (.pointer (some ⟨t, 0, none⟩))) (some 13) rfl rfl (by kernel_rfl) (by kernel_rfl) (by kernel_rfl) (by kernel_rfl) (by kernel_rfl) (by decide) (fun _ _ _ h => h) (Or.inl ⟨by rfl, fun w' hS => (by go_simp)⟩) k0 ?_
  try simp only [Go.Act.put, List.setIfInBounds_toArray, List.set_cons_zero, List.set_cons_succ]
  refine wpL_take (i := 1) (v := (.pointer (some ⟨t, 0, none⟩))) (some 14) rfl rfl (by kernel_rfl) (by kernel_rfl) (by kernel_rfl) (by kernel_rfl) (by kernel_rfl) (by decide) (fun _ _ _ h => h) (Or.inl ⟨by rfl, fun w' hS => (by go_simp)⟩) k0 ?_
  try simp only [Go.Act.put, List.setIfInBounds_toArray, List.set_cons_zero, List.set_cons_succ]
  refine wpL_take (i := 2) (v := (.pointer (some ⟨t, 4, none⟩))) (some 15) rfl rfl (by kernel_rfl) (by kernel_rfl) (by kernel_rfl) (by kernel_rfl) (by kernel_rfl) (by decide) (fun _ _ _ h => h) (Or.inl ⟨by rfl, fun w' hS => (by go_simp)⟩) k0 ?_
  try simp only [Go.Act.put, List.setIfInBounds_toArray, List.set_cons_zero, List.set_cons_succ]
  refine wpL_take (i := 3) (v := (.map (some d))) (some 16) rfl rfl (by kernel_rfl) (by kernel_rfl) (by kernel_rfl) (by kernel_rfl) (by kernel_rfl) (by decide) (fun _ _ _ h => h) (Or.inl ⟨by rfl, fun w' hS => (by have z0 := M4 _ hS; go_simp)⟩) k0 ?_
  try simp only [Go.Act.put, List.setIfInBounds_toArray, List.set_cons_zero, List.set_cons_succ]
  refine wpL_take (i := 4) (v := (.agg #[.int .u16 k.1, .string k.2])) (some 17) rfl rfl (by kernel_rfl) (by kernel_rfl) (by kernel_rfl) (by kernel_rfl) (by kernel_rfl) (by decide) (fun _ _ _ h => h) (Or.inl ⟨by rfl, fun w' hS => (by have z0 := K0 _ hS; have z1 := K1 _ hS; go_simp)⟩) k0 ?_
  try simp only [Go.Act.put, List.setIfInBounds_toArray, List.set_cons_zero, List.set_cons_succ]
  refine wpL_take (i := 5) (v := (.int .i64 (T.gn k))) (some 18) rfl rfl (by kernel_rfl) (by kernel_rfl) (by kernel_rfl) (by kernel_rfl) (by kernel_rfl) (by decide) (fun _ _ _ h => h) (Or.inl ⟨by rfl, fun w' hS => (by have z0 := L0 _ hS; go_simp)⟩) k0 ?_
  try simp only [Go.Act.put, List.setIfInBounds_toArray, List.set_cons_zero, List.set_cons_succ]
  refine wpL_take (i := 6) (v := (.int .i64 (T.gn k + 1))) (some 19) rfl rfl (by kernel_rfl) (by kernel_rfl) (by kernel_rfl) (by kernel_rfl) (by kernel_rfl) (by decide) (fun _ _ _ h => h) (Or.inl ⟨by rfl, fun w' hS => (by go_simp)⟩) k0 ?_
  try simp only [Go.Act.put, List.setIfInBounds_toArray, List.set_cons_zero, List.set_cons_succ]
  refine wpL_ready (rs := [7]) (by kernel_rfl) (by simp) (AllL.cons (o := { dst := some 20, op := Op.mapEntry 46 (Operand.tmp 16) (Operand.tmp 17), type := 0, pos := _, after := #[{ on := 3, ground := Ground.data }, { on := 4, ground := Ground.data }, { on := 0, ground := Ground.phase }, { on := 1, ground := Ground.phase }, { on := 2, ground := Ground.phase }, { on := 3, ground := Ground.phase }, { on := 4, ground := Ground.phase }, { on := 5, ground := Ground.textOnly Departure.mapOpAssignEntry }, { on := 6, ground := Ground.textOnly Departure.mapOpAssignEntry }], guard := none }) rfl (fun K' hK => ?_) AllL.nil)
  rw [if_pos (by rfl)]
  go_simp
  refine hK.out _ _ (fun _ => E2) ?_
  clear hK
  try simp only [Go.Act.put, List.setIfInBounds_toArray, List.set_cons_zero, List.set_cons_succ]
  refine wpL_take (i := 8) (v := (.int .i64 (sn : Nat))) (some 21) rfl rfl (by kernel_rfl) (by kernel_rfl) (by kernel_rfl) (by kernel_rfl) (by kernel_rfl) (by decide) (fun _ _ _ h => h) (Or.inl ⟨by rfl, fun w' hS => (by go_simp)⟩) E2 ?_
  try simp only [Go.Act.put, List.setIfInBounds_toArray, List.set_cons_zero, List.set_cons_succ]
  refine wpL_ready (rs := [9]) (by kernel_rfl) (by simp) (AllL.cons (o := { dst := none, op := Op.entryStore 46 (Operand.tmp 16) (Operand.tmp 21) (Operand.tmp 19), type := 0, pos := _, after := #[{ on := 3, ground := Ground.data }, { on := 8, ground := Ground.data }, { on := 6, ground := Ground.data }, { on := 7, ground := Ground.chain }, { on := 0, ground := Ground.phase }, { on := 1, ground := Ground.phase }, { on := 2, ground := Ground.phase }, { on := 3, ground := Ground.phase }, { on := 4, ground := Ground.phase }, { on := 5, ground := Ground.phase }, { on := 6, ground := Ground.phase }, { on := 7, ground := Ground.phase }, { on := 8, ground := Ground.phase }], guard := none }) rfl (fun K' hK => ?_) AllL.nil)
  rw [if_pos (by rfl)]
  go_simp
  refine hK.out _ _ (fun h => absurd h (by decide)) ?_
  clear hK
  try simp only [Go.Act.put, List.setIfInBounds_toArray, List.set_cons_zero, List.set_cons_succ]
  refine wpL_done (by kernel_rfl) ?_ _
  rw [← hW3]
  clear hW3 E1 E2 E3 M4 K0 K1 L0 k0 hwr
  go_upto_region 4 with fail
  have k3 : Touch [] W3 W3.drew := (Touch.refl _ _).drew
  refine wp_region_L (S := fun w' => Touch [] W3 w') (st := 5) (by kernel_rfl) ?_
  refine wpL_takeY (i := 0) (v := (.pointer (some ⟨t, 0, none⟩))) (some 22) rfl rfl (by kernel_rfl) (by kernel_rfl) (by kernel_rfl) (by decide) (fun _ _ _ h => h) (Or.inl ⟨by rfl, fun w' hS => (by go_simp)⟩) (fun _ => k3) ?_
  try simp only [Go.Act.put, List.setIfInBounds_toArray, List.set_cons_zero, List.set_cons_succ]
  refine wpL_takeY (i := 1) (v := (.pointer (some ⟨t, 0, none⟩))) (some 23) rfl rfl (by kernel_rfl) (by kernel_rfl) (by kernel_rfl) (by decide) (fun _ _ _ h => h) (Or.inl ⟨by rfl, fun w' hS => (by go_simp)⟩) (fun _ => k3) ?_
  try simp only [Go.Act.put, List.setIfInBounds_toArray, List.set_cons_zero, List.set_cons_succ]
  refine wpL_takeY (i := 2) (v := (.pointer (some ⟨t, 3, none⟩))) (some 24) rfl rfl (by kernel_rfl) (by kernel_rfl) (by kernel_rfl) (by decide) (fun _ _ _ h => h) (Or.inl ⟨by rfl, fun w' hS => (by go_simp)⟩) (fun _ => k3) ?_
  try simp only [Go.Act.put, List.setIfInBounds_toArray, List.set_cons_zero, List.set_cons_succ]
  refine wpL_take (i := 3) (v := (.map (some c))) (some 25) rfl rfl (by kernel_rfl) (by kernel_rfl) (by kernel_rfl) (by kernel_rfl) (by kernel_rfl) (by decide) (fun _ _ _ h => h) (Or.inl ⟨by rfl, fun w' hS => (by have z0 := M3 _ hS; go_simp)⟩) k3 ?_
  try simp only [Go.Act.put, List.setIfInBounds_toArray, List.set_cons_zero, List.set_cons_succ]
  refine wpL_take (i := 4) (v := (.agg #[.int .u16 k.1, .string k.2])) (some 26) rfl rfl (by kernel_rfl) (by kernel_rfl) (by kernel_rfl) (by kernel_rfl) (by kernel_rfl) (by decide) (fun _ _ _ h => h) (Or.inl ⟨by rfl, fun w' hS => (by have z0 := B0 _ hS; have z1 := B1 _ hS; go_simp)⟩) k3 ?_
  try simp only [Go.Act.put, List.setIfInBounds_toArray, List.set_cons_zero, List.set_cons_succ]
  refine wpL_ready (rs := [5]) (by kernel_rfl) (by simp) (AllL.cons (o := { dst := none, op := Op.call { callee := Callee.builtin Builtin.delete, args := #[Operand.tmp 25, Operand.tmp 26], argTypes := #[46, 34] }, type := 0, pos := _, after := #[{ on := 3, ground := Ground.data }, { on := 4, ground := Ground.data }], guard := none }) rfl (fun K' hK => ?_) AllL.nil)
  rw [if_pos (by rfl)]
  go_simp
  refine hK.out _ _ (fun h => absurd h (by decide)) ?_
  clear hK
  try simp only [Go.Act.put, List.setIfInBounds_toArray, List.set_cons_zero, List.set_cons_succ]
  refine wpL_done (by kernel_rfl) ?_ _
  go_wp2
  go_end0
  exact ⟨rfl, HF.out⟩
theorem goOnT {t : Nat} {F : List Nat} (h : Tq w t F T N) (hN : N ≤ 3000000000000) (hk : Ok k) : Calls Tryz.prog 50 #[PT t, kv k] w fun e w' => e = .returned (.tuple #[]) ∧ TqE w w' t F (goOn T k) (N + 1) := by
  obtain ⟨p, c, g, nc, ng, Ps, rfl, h, hL⟩ := h
  cases g with
  | none => exact tGoOn_none h hN hL hk
  | some d => exact tGoOn_some h hN hL hk
end
end Go.Proofs.YtpihhlllembdeaaGreat
