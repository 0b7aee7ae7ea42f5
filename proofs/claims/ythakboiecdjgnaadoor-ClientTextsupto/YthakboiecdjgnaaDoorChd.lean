/- Had of a client: its log with one entry more; no conditions but those that each states. -/
import Derived.Test.YthakboiecdjgnaaDoorClg
import Derived.Test.YthakboiecdjgnaaDoorHlg
namespace Go.Proofs.YthakboiecdjgnaaDoor.Ci
open Go.RowKit Go.Maps Go.ChangeMaps
set_option linter.unusedVariables false
set_option linter.unusedSimpArgs false
/-- A slice that can be read, laid behind a row that a call owns: at the operation. -/
theorem wp_append_rs {w : World} {o : Oper} {a : Act} {K : Act → World → Prop} {Q : Exit → Act → World → Prop} (s x : Operand) (st et : TypeId) (ho : o.op = .call { callee := .builtin .append, args := #[s, x], argTypes := #[st, st] })
    (z : Value) (k bytes : Nat) (hinfo : (Tryd.prog.info? et).map (fun i => (i.zero, i.size, i.bytes)) = some (some z, k, bytes)) (ht : Tryd.prog.underlying st = some (.slice et)) (hzs : z.cells.size = k) (hk : 0 < k)
    (base : Nat) (v : Value) (n : Nat) (xs : List Value) (hs : a.eval s = v) (hown : w.ownsRow base et k v n xs)
    (u : Value) (m : Nat) (vs : List Value) (hx : a.eval x = u) (hu : Rs et k w u m vs) (h1 : ∀ y ∈ vs, y.oneCell' = true) (h63 : n + m ≤ maxLen) (hbytes : (n + m) * bytes ≤ 140737488355328) (hbase : base ≤ w.heap.size)
    (h : ∀ v' w', w'.ownsRow base et k v' (n + m) (xs ++ vs) → w.grownBy w' v.ownBlock → (v'.ownBlock = v.ownBlock ∨ v'.ownBlock = some w.heap.size) → K (a.put o.dst v') w') : o.wp Tryd.prog a w K Q := by
  obtain ⟨i3, hf, hz0, hz1, hz2⟩ := info_parts hinfo
  obtain ⟨hl, ad, c, rfl, hc, hn0, hr⟩ := hu
  cases ad with
  | none =>
    have e0 := hn0 rfl
    subst e0
    have em : m = 0 := by omega
    subst em
    have ev : vs = [] := List.length_eq_zero_iff.1 (by omega)
    subst ev
    have hrun := run_append_owned_none (P := Tryd.prog) (w := w) base st o.type et i3 k ht hf v n xs hown
    unfold Oper.wp
    simp [execOp, ho, resolve, invoke, builtin, hs, hx, hrun, Result.andThen]
    exact h v w (by simpa using hown) (World.grownBy.refl _ _) (Or.inl rfl)
  | some ad =>
    have hnews : ∀ j y, vs[j]? = some y → w.cell? (ad.add j) = some y := fun j y hy => by
      have hm : 0 < m := by
        rcases Nat.eq_zero_or_pos m with e | e
        · subst e
          have : vs = [] := List.length_eq_zero_iff.1 (by omega)
          subst this
          simp at hy
        · exact e
      obtain ⟨g, off, e, cs, zz, h5, h6⟩ := hr hm
      cases e
      rw [show (⟨g, off, none⟩ : Addr).add j = ⟨g, off + j, none⟩ by simp [Addr.add]]
      simp [World.cell?, h5, h6 j y hy]
    obtain ⟨v', w', hrun, q1, q2, q3, q4⟩ := run_append_own_at (P := Tryd.prog) w base st o.type et i3 z k bytes ht hf hz0 hz1 hz2 hzs hk v n xs hown ad m c vs hl hnews h1 h63 hbytes hbase
    unfold Oper.wp
    simp [execOp, ho, resolve, invoke, builtin, hs, hx, hrun, Result.andThen]
    exact h v' w' q1 q2 q4
section
variable {w w6 : World} {b : Nat} {pv lv v6 : Value} {S : Cs}
theorem Cq.plv (h : Cq w b pv lv S) {k : Nat} (hp : pv.ownBlock = some k) : lv.ownBlock ≠ some k := fun hl => by
  obtain ⟨cs, h1⟩ := own_kind h.pr hp
  obtain ⟨cs', h2⟩ := own_kind h.lg hl
  rw [h1] at h2
  simp at h2
theorem Cq.putLog (h : Cq w b pv lv S) (t : Touch lv.ownBlock.toList w w6) {G : List Gz} (o : w6.ownsRow 0 60 7 v6 G.length (cellsG G)) : Cq (w6.setCell ⟨b, 3, none⟩ v6) b pv v6 { S with log := G } := by
  obtain ⟨cs, h1, h2, h3, h4, h5, h6, h7⟩ := h.blk
  have hb : w6.heap[b]? = some (.cells cs 115 (0, 0)) := t.keep h1 (fun hm => h.lvb (Option.mem_toList.1 hm) rfl)
  refine ⟨⟨_, bset hb _, by simpa using h2, ?_, ?_, ?_, ?_, ?_⟩, own_keep (own_touch h.pr t (fun k hk hm => h.plv hk (Option.mem_toList.1 hm))) (fun k hk => heap_set_ne (h.pvb hk)), own_keep o (fun k hk => heap_set_ne (fun e => ?_)), h.le, h.len⟩
  · rw [Array.getElem?_setIfInBounds_ne (by decide)]; exact h3
  · rw [Array.getElem?_setIfInBounds_ne (by decide)]; exact h4
  · rw [Array.getElem?_setIfInBounds_ne (by decide)]; exact h5
  · rw [Array.getElem?_setIfInBounds_self_of_lt (by omega)]
  · intro i j hi hj
    rw [Array.getElem?_setIfInBounds_ne (by omega)]; exact h7 i j hi hj
  · obtain ⟨cs', h8⟩ := own_kind o hk
    rw [show k = b from e, hb] at h8
    simp at h8
def HdE (e : Ending) (w w' : World) (b : Nat) (pv lv : Value) (S : Cs) (g : Gz) : Prop := e = .returned (.int .i64 0) ∧ ∃ v, Cq w' b pv v { S with log := S.log ++ [g] } ∧ Touch (b :: lv.ownBlock.toList) w w' ∧ ∀ k, v.ownBlock = some k → lv.ownBlock = some k ∨ w.heap.size ≤ k
theorem had_not (h : Cq w b pv lv S) (g : Gz) (hm : mayG S.L.length g = false) : Calls Tryd.prog 25 #[.pointer (some ⟨b, 0, none⟩), .agg #[.int .i64 g.pl, .int .i64 g.ho, .int .i64 g.va, .int .i64 g.kd, .int .i64 g.cd, .int .i64 g.rn, .int .i64 g.tm]] w fun e w' => e = .returned (.int .i64 1) ∧ Touch [] w w' := by
  have HM : Hid (∀ w', Touch [] w w' → Calls Tryd.prog 44 #[.pointer (some ⟨b, 0, none⟩), .agg #[.int .i64 g.pl, .int .i64 g.ho, .int .i64 g.va, .int .i64 g.kd, .int .i64 g.cd, .int .i64 g.rn, .int .i64 g.tm]] w' fun e w'' => e = .returned (.bool false) ∧ Touch [] w' w'') := hid (fun w' t => (mayHave_ (h.touch t) g).mono fun e w'' q => by rw [hm] at q; exact q)
  clear h hm
  obtain ⟨g0', g1, g2, g3, g4, g5, g6⟩ := g
  dsimp only at *
  go_enter Tryd.func25, Tryd.ntmps25
  go_wp2_with fail
  refine (HM.out _ ((Touch.refl [] w).alloc _)).mono ?_
  rintro e w1 ⟨rfl, t1⟩
  have T1 := hid (((Touch.refl [] w).alloc (.cells #[.int .i64 g0', .int .i64 g1, .int .i64 g2, .int .i64 g3, .int .i64 g4, .int .i64 g5, .int .i64 g6] 60)).trans' t1)
  clear t1
  go_wp2_with fail
  go_ret
  exact ⟨rfl, T1.out⟩
set_option maxHeartbeats 4000000 in
set_option maxRecDepth 20000 in
theorem had_ok (h : Cq w b pv lv S) (g : Gz) (hl : S.log.length ≤ 2000000000000) (hm : mayG S.L.length g = true) : Calls Tryd.prog 25 #[.pointer (some ⟨b, 0, none⟩), .agg #[.int .i64 g.pl, .int .i64 g.ho, .int .i64 g.va, .int .i64 g.kd, .int .i64 g.cd, .int .i64 g.rn, .int .i64 g.tm]] w fun e w' => HdE e w w' b pv lv S g := by
  have HM : Hid (∀ w', Touch [] w w' → Calls Tryd.prog 44 #[.pointer (some ⟨b, 0, none⟩), .agg #[.int .i64 g.pl, .int .i64 g.ho, .int .i64 g.va, .int .i64 g.kd, .int .i64 g.cd, .int .i64 g.rn, .int .i64 g.tm]] w' fun e w'' => e = .returned (.bool true) ∧ Touch [] w' w'') := hid (fun w' t => (mayHave_ (h.touch t) g).mono fun e w'' q => by rw [hm] at q; exact q)
  obtain ⟨a, c, rfl⟩ := own_form h.lg
  have HL := hid hl
  have H := hid h
  have HBl := hid (fun k hk => (h.lg.lt k hk).2)
  have hb := h.lt
  clear h hm hl
  obtain ⟨g0', g1, g2, g3, g4, g5, g6⟩ := g
  dsimp only at HM ⊢
  go_enter Tryd.func25, Tryd.ntmps25
  go_wp2_with fail
  refine (HM.out _ ((Touch.refl [] w).alloc _)).mono ?_
  rintro e w1 ⟨rfl, t1⟩
  have TV := hid (((Touch.refl [] w).alloc (.cells #[.int .i64 g0', .int .i64 g1, .int .i64 g2, .int .i64 g3, .int .i64 g4, .int .i64 g5, .int .i64 g6] 60)).trans' t1)
  have BV := hid (show w1.heap[w.heap.size]? = some (.cells #[.int .i64 g0', .int .i64 g1, .int .i64 g2, .int .i64 g3, .int .i64 g4, .int .i64 g5, .int .i64 g6] 60 (0, 0)) from t1.keep (heap_alloc_new w _) (by simp))
  clear t1
  go_upto_region 3 with fail
  obtain ⟨B, hB⟩ : ∃ B, B = w.heap.size := ⟨_, rfl⟩
  have HB := hid hB
  rw [← hB] at BV ⊢
  clear hB
  have T0 := hid (TV.out.drew)
  have B0 : w1.drew.heap[B]? = some (.cells #[.int .i64 g0', .int .i64 g1, .int .i64 g2, .int .i64 g3, .int .i64 g4, .int .i64 g5, .int .i64 g6] 60 (0, 0)) := BV.out
  refine wp_region_L (S := fun w' => w'.cell? ⟨b, 3, none⟩ = some (.slice a S.log.length c) ∧ w'.heap[B]? = some (.cells #[.int .i64 g0', .int .i64 g1, .int .i64 g2, .int .i64 g3, .int .i64 g4, .int .i64 g5, .int .i64 g6] 60 (0, 0))) (st := 10) (by kernel_rfl) ?_
  generalize w1.drew = W0 at *
  have Q0 := hid (H.out.touch T0.out)
  have HS : Hid (∀ w' : World, Touch (Value.slice a S.log.length c).ownBlock.toList W0 w' → w'.cell? ⟨b, 3, none⟩ = some (.slice a S.log.length c) ∧ w'.heap[B]? = some (.cells #[.int .i64 g0', .int .i64 g1, .int .i64 g2, .int .i64 g3, .int .i64 g4, .int .i64 g5, .int .i64 g6] 60 (0, 0))) := hid (fun w' t => by
    obtain ⟨cs, h1, _, _, _, _, h6, _⟩ := Q0.out.blk
    exact ⟨cell_at (t.keep h1 (fun hm => Q0.out.lvb (Option.mem_toList.1 hm) rfl)) h6, t.keep B0 (fun hm => by have := HBl.out B (Option.mem_toList.1 hm); have := HB.out; omega)⟩)
  have S0 := HS.out W0 (Touch.refl _ _)
  have f := Q0.out.fz
  have C3 : ∀ w' : World, (w'.cell? ⟨b, 3, none⟩ = some (.slice a S.log.length c) ∧ w'.heap[B]? = some (.cells #[.int .i64 g0', .int .i64 g1, .int .i64 g2, .int .i64 g3, .int .i64 g4, .int .i64 g5, .int .i64 g6] 60 (0, 0))) → w'.cell? ⟨b, 3, none⟩ = some (.slice a S.log.length c) := fun w' h => h.1
  have F0 : ∀ w' : World, (w'.cell? ⟨b, 3, none⟩ = some (.slice a S.log.length c) ∧ w'.heap[B]? = some (.cells #[.int .i64 g0', .int .i64 g1, .int .i64 g2, .int .i64 g3, .int .i64 g4, .int .i64 g5, .int .i64 g6] 60 (0, 0))) → w'.cell? ⟨B, 0, none⟩ = some (.int .i64 g0') := fun w' h => cell_at h.2 rfl
  have F1 : ∀ w' : World, (w'.cell? ⟨b, 3, none⟩ = some (.slice a S.log.length c) ∧ w'.heap[B]? = some (.cells #[.int .i64 g0', .int .i64 g1, .int .i64 g2, .int .i64 g3, .int .i64 g4, .int .i64 g5, .int .i64 g6] 60 (0, 0))) → w'.cell? ⟨B, 1, none⟩ = some (.int .i64 g1) := fun w' h => cell_at h.2 rfl
  have F2 : ∀ w' : World, (w'.cell? ⟨b, 3, none⟩ = some (.slice a S.log.length c) ∧ w'.heap[B]? = some (.cells #[.int .i64 g0', .int .i64 g1, .int .i64 g2, .int .i64 g3, .int .i64 g4, .int .i64 g5, .int .i64 g6] 60 (0, 0))) → w'.cell? ⟨B, 2, none⟩ = some (.int .i64 g2) := fun w' h => cell_at h.2 rfl
  have F3 : ∀ w' : World, (w'.cell? ⟨b, 3, none⟩ = some (.slice a S.log.length c) ∧ w'.heap[B]? = some (.cells #[.int .i64 g0', .int .i64 g1, .int .i64 g2, .int .i64 g3, .int .i64 g4, .int .i64 g5, .int .i64 g6] 60 (0, 0))) → w'.cell? ⟨B, 3, none⟩ = some (.int .i64 g3) := fun w' h => cell_at h.2 rfl
  have F4 : ∀ w' : World, (w'.cell? ⟨b, 3, none⟩ = some (.slice a S.log.length c) ∧ w'.heap[B]? = some (.cells #[.int .i64 g0', .int .i64 g1, .int .i64 g2, .int .i64 g3, .int .i64 g4, .int .i64 g5, .int .i64 g6] 60 (0, 0))) → w'.cell? ⟨B, 4, none⟩ = some (.int .i64 g4) := fun w' h => cell_at h.2 rfl
  have F5 : ∀ w' : World, (w'.cell? ⟨b, 3, none⟩ = some (.slice a S.log.length c) ∧ w'.heap[B]? = some (.cells #[.int .i64 g0', .int .i64 g1, .int .i64 g2, .int .i64 g3, .int .i64 g4, .int .i64 g5, .int .i64 g6] 60 (0, 0))) → w'.cell? ⟨B, 5, none⟩ = some (.int .i64 g5) := fun w' h => cell_at h.2 rfl
  have F6 : ∀ w' : World, (w'.cell? ⟨b, 3, none⟩ = some (.slice a S.log.length c) ∧ w'.heap[B]? = some (.cells #[.int .i64 g0', .int .i64 g1, .int .i64 g2, .int .i64 g3, .int .i64 g4, .int .i64 g5, .int .i64 g6] 60 (0, 0))) → w'.cell? ⟨B, 6, none⟩ = some (.int .i64 g6) := fun w' h => cell_at h.2 rfl
  clear B0 TV BV HM
  refine wpL_take (i := 0) (v := (.pointer (some ⟨b, 0, none⟩))) (some 13) rfl rfl (by kernel_rfl) (by kernel_rfl) (by kernel_rfl) (by kernel_rfl) (by kernel_rfl) (by decide) (fun _ _ _ h => h) (Or.inl ⟨by rfl, fun w' hS => (by go_simp)⟩) S0 ?_
  try simp only [Go.Act.put, List.setIfInBounds_toArray, List.set_cons_zero, List.set_cons_succ]
  refine wpL_take (i := 1) (v := (.pointer (some ⟨b, 0, none⟩))) (some 14) rfl rfl (by kernel_rfl) (by kernel_rfl) (by kernel_rfl) (by kernel_rfl) (by kernel_rfl) (by decide) (fun _ _ _ h => h) (Or.inl ⟨by rfl, fun w' hS => (by go_simp)⟩) S0 ?_
  try simp only [Go.Act.put, List.setIfInBounds_toArray, List.set_cons_zero, List.set_cons_succ]
  refine wpL_take (i := 2) (v := (.pointer (some ⟨b, 0, none⟩))) (some 15) rfl rfl (by kernel_rfl) (by kernel_rfl) (by kernel_rfl) (by kernel_rfl) (by kernel_rfl) (by decide) (fun _ _ _ h => h) (Or.inl ⟨by rfl, fun w' hS => (by go_simp)⟩) S0 ?_
  try simp only [Go.Act.put, List.setIfInBounds_toArray, List.set_cons_zero, List.set_cons_succ]
  refine wpL_take (i := 3) (v := (.pointer (some ⟨b, 3, none⟩))) (some 16) rfl rfl (by kernel_rfl) (by kernel_rfl) (by kernel_rfl) (by kernel_rfl) (by kernel_rfl) (by decide) (fun _ _ _ h => h) (Or.inl ⟨by rfl, fun w' hS => (by go_simp)⟩) S0 ?_
  try simp only [Go.Act.put, List.setIfInBounds_toArray, List.set_cons_zero, List.set_cons_succ]
  refine wpL_take (i := 4) (v := (.slice a S.log.length c)) (some 17) rfl rfl (by kernel_rfl) (by kernel_rfl) (by kernel_rfl) (by kernel_rfl) (by kernel_rfl) (by decide) (fun _ _ _ h => h) (Or.inl ⟨by rfl, fun w' hS => (by have z0 := C3 _ hS; go_simp)⟩) S0 ?_
  try simp only [Go.Act.put, List.setIfInBounds_toArray, List.set_cons_zero, List.set_cons_succ]
  refine wpL_take (i := 5) (v := (.agg #[.int .i64 g0', .int .i64 g1, .int .i64 g2, .int .i64 g3, .int .i64 g4, .int .i64 g5, .int .i64 g6])) (some 18) rfl rfl (by kernel_rfl) (by kernel_rfl) (by kernel_rfl) (by kernel_rfl) (by kernel_rfl) (by decide) (fun _ _ _ h => h) (Or.inl ⟨by rfl, fun w' hS => (by have z0 := F0 _ hS; have z1 := F1 _ hS; have z2 := F2 _ hS; have z3 := F3 _ hS; have z4 := F4 _ hS; have z5 := F5 _ hS; have z6 := F6 _ hS; go_simp)⟩) S0 ?_
  try simp only [Go.Act.put, List.setIfInBounds_toArray, List.set_cons_zero, List.set_cons_succ]
  refine wpL_ready (rs := [6]) (by kernel_rfl) (by simp) (AllL.cons (o := { dst := some 19, op := Op.buildSlice 53 1 #[(0, Operand.tmp 18)], type := 53, pos := _, after := #[{ on := 5, ground := Ground.data }], guard := none }) rfl (fun K' hK => ?_) AllL.nil)
  rw [if_pos (by rfl)]
  go_simp
  have t1 : Touch (Value.slice a S.log.length c).ownBlock.toList W0 (W0.alloc (.cells #[.int .i64 g0', .int .i64 g1, .int .i64 g2, .int .i64 g3, .int .i64 g4, .int .i64 g5, .int .i64 g6] 60)) := (Touch.refl _ W0).alloc _
  have S1 := HS.out _ t1
  refine hK.out _ _ (fun _ => S1) ?_
  clear hK
  try simp only [Go.Act.put, List.setIfInBounds_toArray, List.set_cons_zero, List.set_cons_succ]
  refine wpL_ready (rs := [7]) (by kernel_rfl) (by simp) (AllL.cons (o := { dst := some 20, op := Op.call { callee := Callee.builtin Builtin.append, args := #[Operand.tmp 17, Operand.tmp 19], argTypes := #[53, 53] }, type := 53, pos := _, after := #[{ on := 4, ground := Ground.data }, { on := 6, ground := Ground.data }], guard := none }) rfl (fun K' hK => ?_) AllL.nil)
  rw [if_pos (by rfl)]
  have O1 := own_touch Q0.out.lg ((Touch.refl [] W0).alloc (.cells #[.int .i64 g0', .int .i64 g1, .int .i64 g2, .int .i64 g3, .int .i64 g4, .int .i64 g5, .int .i64 g6] 60)) (by simp)
  refine wp_append_rs _ _ 53 60 rfl _ 7 56 infoG Tryd.underlying53 rfl (by decide) 0 (Value.slice a S.log.length c) S.log.length (cellsG S.log) rfl O1 (.slice (some ⟨W0.heap.size, 0, none⟩) 1 1) 1 _ rfl (Rs.new W0 #[.int .i64 g0', .int .i64 g1, .int .i64 g2, .int .i64 g3, .int .i64 g4, .int .i64 g5, .int .i64 g6] 60 7 rfl) (by simp [Value.oneCell']) (by have := HL.out; unfold maxLen; omega) (by have := HL.out; omega) (Nat.zero_le _) ?_
  intro v6 w6 o6 gr6 p6
  obtain ⟨a6, c6, e6⟩ := own_form o6
  subst e6
  have t6 : Touch (Value.slice a S.log.length c).ownBlock.toList W0 w6 := t1.grown gr6 (fun q hq => Or.inl (by simp [hq]))
  have S6 := HS.out _ t6
  have o7 : w6.ownsRow 0 60 7 (.slice a6 (S.log.length + 1) c6) (S.log ++ [(⟨g0', g1, g2, g3, g4, g5, g6⟩ : Gz)]).length (cellsG (S.log ++ [⟨g0', g1, g2, g3, g4, g5, g6⟩])) := by
    rw [show cellsG (S.log ++ [(⟨g0', g1, g2, g3, g4, g5, g6⟩ : Gz)]) = cellsG S.log ++ #[.int .i64 g0', .int .i64 g1, .int .i64 g2, .int .i64 g3, .int .i64 g4, .int .i64 g5, .int .i64 g6].toList by simp [cellsG, Gz.cells], show (S.log ++ [(⟨g0', g1, g2, g3, g4, g5, g6⟩ : Gz)]).length = S.log.length + 1 by simp]
    exact o6
  have Q6 := hid (Q0.out.putLog t6 o7)
  have T6 := hid (((T0.out.mono (G := b :: (Value.slice a S.log.length c).ownBlock.toList) (fun _ e => by cases e)).trans' (t6.mono (fun _ e => List.mem_cons_of_mem _ e))).setCell (p := ⟨b, 3, none⟩) (Or.inl (by simp)) (.slice a6 (S.log.length + 1) c6))
  have P6 : Hid (∀ k, (Value.slice a6 (S.log.length + 1) c6).ownBlock = some k → (Value.slice a S.log.length c).ownBlock = some k ∨ w.heap.size ≤ k) := hid (fun k hk => by
    rcases p6 with p6 | p6
    · exact Or.inl (p6 ▸ hk)
    · rw [p6] at hk
      simp only [Option.some.injEq, World.size_alloc] at hk
      have := T0.out.size
      omega)
  have f6 : ∀ j, w6.frozen? ⟨b, j, none⟩ = false := fun j => by
    obtain ⟨cs, h1, _⟩ := Q0.out.blk
    exact froz_at (t6.keep h1 (fun hm => Q0.out.lvb (Option.mem_toList.1 hm) rfl)) j
  have y6 := S6.1
  clear o6 gr6 p6 o7 O1 t6 f
  refine hK.out _ _ (fun _ => S6) ?_
  clear hK
  try simp only [Go.Act.put, List.setIfInBounds_toArray, List.set_cons_zero, List.set_cons_succ]
  refine wpL_takeY (i := 8) (v := (.pointer (some ⟨b, 0, none⟩))) (some 21) rfl rfl (by kernel_rfl) (by kernel_rfl) (by kernel_rfl) (by decide) (fun _ _ _ h => h) (Or.inl ⟨by rfl, fun w' hS => (by go_simp)⟩) (fun _ => S6) ?_
  try simp only [Go.Act.put, List.setIfInBounds_toArray, List.set_cons_zero, List.set_cons_succ]
  refine wpL_take (i := 9) (v := (.pointer (some ⟨b, 3, none⟩))) (some 22) rfl rfl (by kernel_rfl) (by kernel_rfl) (by kernel_rfl) (by kernel_rfl) (by kernel_rfl) (by decide) (fun _ _ _ h => h) (Or.inl ⟨by rfl, fun w' hS => (by go_simp)⟩) S6 ?_
  try simp only [Go.Act.put, List.setIfInBounds_toArray, List.set_cons_zero, List.set_cons_succ]
  refine wpL_ready (rs := [10]) (by kernel_rfl) (by simp) (AllL.cons (o := { dst := none, op := Op.store 53 (Operand.tmp 22) (Operand.tmp 20), type := 0, pos := _, after := #[{ on := 9, ground := Ground.data }, { on := 7, ground := Ground.data }, { on := 7, ground := Ground.chain }, { on := 0, ground := Ground.phase }, { on := 1, ground := Ground.phase }, { on := 2, ground := Ground.phase }, { on := 3, ground := Ground.phase }, { on := 4, ground := Ground.phase }, { on := 5, ground := Ground.phase }, { on := 6, ground := Ground.phase }, { on := 7, ground := Ground.phase }], guard := none }) rfl (fun K' hK => ?_) AllL.nil)
  rw [if_pos (by rfl)]
  clear F0 F1 F2 F3 F4 F5 F6 C3
  go_simp
  refine hK.out _ _ (fun h => absurd h (by decide)) ?_
  clear hK
  try simp only [Go.Act.put, List.setIfInBounds_toArray, List.set_cons_zero, List.set_cons_succ]
  refine wpL_done (by kernel_rfl) ?_ _
  go_wp2_with fail
  go_ret
  exact ⟨rfl, _, Q6.out, T6.out, P6.out⟩
end
end Go.Proofs.YthakboiecdjgnaaDoor.Ci
