/- Contracts of see, Get and Look; no conditions but those that each states. -/
import Derived.Test.YtopepalpmkeffaaLo1
import Derived.Test.YtopepalpmkeffaaHlh
import Derived.Deep.CutRange
import Derived.Deep.CutBlock
namespace Go.Proofs.Ytopepalpmkeffaa
open Go.RowKit Go.Sort Go.Maps Go.ChangeMaps Go.WideMaps
set_option linter.unusedVariables false
set_option linter.unusedSimpArgs false
set_option maxHeartbeats 4000000 in
theorem see50_yes (w : World) (m b o : Nat) (G : List Nat) (c : Cf) (now : Int) (xs : List En) (h : Mb w m b o G c now xs) (k : K) (hk : Ok k) (v : V) (hf : fnd xs k = some v) :
    Calls Try.prog 50 #[PT m, kv k] w fun e w' => e = .returned (lv (howC c v.1 (now - v.2), now - v.2, v.1)) ∧ Touch [] w w' := by
  obtain ⟨V, hV⟩ : ∃ V, V = (w.alloc (bx k)).alloc (.cells #[.int .i64 0, .int .i64 0, .int .i64 0, .int .i64 0, .int .i64 0, .int .i64 0] 75) := ⟨_, rfl⟩
  have TV : Hid (Touch [] w V) := by rw [hV]; exact ((Touch.refl _ _).alloc _).alloc _
  have hB : V.heap[w.heap.size]? = some (bx k) := by rw [hV]; exact (Below.heap_alloc _ _ _ (by simp)).trans (heap_alloc_new w _)
  have hZ : V.heap[w.heap.size + 1]? = some (.cells #[.int .i64 0, .int .i64 0, .int .i64 0, .int .i64 0, .int .i64 0, .int .i64 0] 75 (0, 0)) := by
    rw [hV]
    have := heap_alloc_new (w.alloc (bx k)) (.cells #[.int .i64 0, .int .i64 0, .int .i64 0, .int .i64 0, .int .i64 0, .int .i64 0] 75)
    rwa [World.size_alloc] at this
  have sA : ∀ w', Touch [] V w' → w'.cell? ⟨m, 8, none⟩ = some (.map (some b)) := fun w' t => (h.keep0 (TV.out.trans' t)).md.cs.c8
  have sB : ∀ w', Touch [] V w' → w'.cell? ⟨w.heap.size, 0, none⟩ = some (.int .u16 k.1) := fun w' t => by
    have := t.keep hB (by simp)
    unfold bx at this
    simp [World.cell?, this]
  have sC : ∀ w', Touch [] V w' → w'.cell? ⟨w.heap.size, 1, none⟩ = some (.string k.2) := fun w' t => by
    have := t.keep hB (by simp)
    unfold bx at this
    simp [World.cell?, this]
  have sL : ∀ w', Touch [] V w' → (Instr.lookup 91 (.map (some b)) (.agg #[.int .u16 k.1, .string k.2]) true).run Try.prog w' = .ok (.tuple #[.agg #[.int .i64 v.1.1, .int .i64 v.1.2.1, .int .i64 v.1.2.2.1, .int .i64 v.1.2.2.2, .int .i64 v.2], .bool true]) w' := fun w' t => by
    have := (h.keep0 (TV.out.trans' t)).look hk
    rw [hf] at this
    exact this
  obtain ⟨U, hU⟩ : ∃ U, U = (V.alloc (ebx v)).drew := ⟨_, rfl⟩
  have TU : Touch [] V U := by rw [hU]; exact ((Touch.refl _ _).alloc _).drew
  have hE : U.heap[V.heap.size]? = some (ebx v) := by rw [hU]; exact heap_alloc_new V _
  have hZ' := TU.keep hZ (by simp)
  have hlt : w.heap.size + 1 < V.heap.size := block_lt hZ
  have HS : Hid (Sr U (w.heap.size + 1) 75 6 U) := Sr.mk' hZ' rfl
  have hmr : m < w.heap.size := h.md.lt
  have rA : ∀ w', Sr U (w.heap.size + 1) 75 6 w' → w'.cell? ⟨m, 7, none⟩ = some (.int .i64 now) := fun w' s => by
    have hm := TU.keep (TV.out.keep h.md (by simp)) (by simp)
    exact (show Md w' m c now b o from s.keep hm (by omega)).cs.c7
  have rE : ∀ w', Sr U (w.heap.size + 1) 75 6 w' → w'.heap[V.heap.size]? = some (ebx v) := fun w' s => s.keep hE (by omega)
  have r0 : ∀ w', Sr U (w.heap.size + 1) 75 6 w' → w'.cell? ⟨V.heap.size, 0, none⟩ = some (.int .i64 v.1.1) := fun w' s => by have := rE w' s; unfold ebx at this; simp [World.cell?, this]
  have r1 : ∀ w', Sr U (w.heap.size + 1) 75 6 w' → w'.cell? ⟨V.heap.size, 1, none⟩ = some (.int .i64 v.1.2.1) := fun w' s => by have := rE w' s; unfold ebx at this; simp [World.cell?, this]
  have r2 : ∀ w', Sr U (w.heap.size + 1) 75 6 w' → w'.cell? ⟨V.heap.size, 2, none⟩ = some (.int .i64 v.1.2.2.1) := fun w' s => by have := rE w' s; unfold ebx at this; simp [World.cell?, this]
  have r3 : ∀ w', Sr U (w.heap.size + 1) 75 6 w' → w'.cell? ⟨V.heap.size, 3, none⟩ = some (.int .i64 v.1.2.2.2) := fun w' s => by have := rE w' s; unfold ebx at this; simp [World.cell?, this]
  have r4 : ∀ w', Sr U (w.heap.size + 1) 75 6 w' → w'.cell? ⟨V.heap.size, 4, none⟩ = some (.int .i64 v.2) := fun w' s => by have := rE w' s; unfold ebx at this; simp [World.cell?, this]
  have y0 : ∀ w', Sr U (w.heap.size + 1) 75 6 w' → w'.cell? ⟨w.heap.size + 1, 0, none⟩ = some (gc w' (w.heap.size + 1) 0) := fun w' s => s.cell 0 (by omega)
  have y1 : ∀ w', Sr U (w.heap.size + 1) 75 6 w' → w'.cell? ⟨w.heap.size + 1, 1, none⟩ = some (gc w' (w.heap.size + 1) 1) := fun w' s => s.cell 1 (by omega)
  have y2 : ∀ w', Sr U (w.heap.size + 1) 75 6 w' → w'.cell? ⟨w.heap.size + 1, 2, none⟩ = some (gc w' (w.heap.size + 1) 2) := fun w' s => s.cell 2 (by omega)
  have y3 : ∀ w', Sr U (w.heap.size + 1) 75 6 w' → w'.cell? ⟨w.heap.size + 1, 3, none⟩ = some (gc w' (w.heap.size + 1) 3) := fun w' s => s.cell 3 (by omega)
  have y4 : ∀ w', Sr U (w.heap.size + 1) 75 6 w' → w'.cell? ⟨w.heap.size + 1, 4, none⟩ = some (gc w' (w.heap.size + 1) 4) := fun w' s => s.cell 4 (by omega)
  have y5 : ∀ w', Sr U (w.heap.size + 1) 75 6 w' → w'.cell? ⟨w.heap.size + 1, 5, none⟩ = some (gc w' (w.heap.size + 1) 5) := fun w' s => s.cell 5 (by omega)
  have yf : ∀ w', Sr U (w.heap.size + 1) 75 6 w' → ∀ i, w'.frozen? ⟨w.heap.size + 1, i, none⟩ = false := fun w' s i => s.frozen i
  have HH : Hid (∀ w', Sr U (w.heap.size + 1) 75 6 w' → Calls Try.prog 65 #[PT m, ev v] w' fun e w'' => e = .returned (.int .i64 (howC c v.1 (now - v.2))) ∧ Touch [] w' w'') := fun w' s => (h.keep ((TV.out.trans' TU).mono (fun _ e => by cases e) |>.trans (G := [w.heap.size + 1]) s.tc (fun i hi => Or.inl hi)) (fun k' hk' => by
    have := h.lt k' hk'
    simp only [List.mem_singleton]
    omega)).how hf
  have TW : Hid (Touch [] w U) := TV.out.trans' TU
  have hw : IntKind.i64.wrap (now - v.2) = now - v.2 := by
    obtain ⟨q1, q2, q3⟩ := h.ats hf
    have := h.gd.n1
    unfold MT at this
    simp [IntKind.wrap, IntKind.bits, IntKind.signed, IntKind.min, IntKind.max]
    omega
  clear h hB hZ TU hE hZ' rE hf hk hmr
  unfold PT ev at HH
  unfold PT kv lv sv
  simp only
  generalize howC c v.1 (now - v.2) = hh at *
  go_enter Try.func50, Try.ntmps50
  go_wp2
  unfold bx at hV
  rw [← hV]
  clear hV
  have t0 : Touch [] V V.drew := (Touch.refl _ _).drew
  go_region_held3 (fun w' => Touch [] V w') (repeat (first | assumption | exact Touch.refl _ _ | apply Touch.alloc | apply Touch.drew | (refine Touch.setCell ?_ (Or.inr (by simp)) _))) (fail)
  all_goals
    clear sA sB sC sL t0
    unfold ebx at hU
    rw [← hU]
    clear hU
    have s0 := HS.out.drew
    go_upto_region 4 with fail
    refine wp_region_H (S := fun w' => Sr U (w.heap.size + 1) 75 6 w') (by kernel_rfl) ?_
    refine wpH_take (i := 0) (v := (.pointer (some ⟨m, 0, none⟩))) (some 19) rfl rfl (by kernel_rfl) (by kernel_rfl) (by kernel_rfl) (fun _ _ _ h => h) (Or.inl ⟨by rfl, fun w' hS => (by go_simp)⟩) s0 ?_
    try simp only [Go.Act.put, List.setIfInBounds_toArray, List.set_cons_zero, List.set_cons_succ]
    refine wpH_take (i := 1) (v := (.agg #[.int .i64 v.1.1, .int .i64 v.1.2.1, .int .i64 v.1.2.2.1, .int .i64 v.1.2.2.2, .int .i64 v.2])) (some 20) rfl rfl (by kernel_rfl) (by kernel_rfl) (by kernel_rfl) (fun _ _ _ h => h) (Or.inl ⟨by rfl, fun w' hS => (by have z0 := r0 _ hS; have z1 := r1 _ hS; have z2 := r2 _ hS; have z3 := r3 _ hS; have z4 := r4 _ hS; go_simp)⟩) s0 ?_
    try simp only [Go.Act.put, List.setIfInBounds_toArray, List.set_cons_zero, List.set_cons_succ]
    refine wpH_take (i := 3) (v := (.pointer (some ⟨m, 0, none⟩))) (some 22) rfl rfl (by kernel_rfl) (by kernel_rfl) (by kernel_rfl) (fun _ _ _ h => h) (Or.inl ⟨by rfl, fun w' hS => (by go_simp)⟩) s0 ?_
    try simp only [Go.Act.put, List.setIfInBounds_toArray, List.set_cons_zero, List.set_cons_succ]
    refine wpH_take (i := 4) (v := (.pointer (some ⟨m, 0, none⟩))) (some 23) rfl rfl (by kernel_rfl) (by kernel_rfl) (by kernel_rfl) (fun _ _ _ h => h) (Or.inl ⟨by rfl, fun w' hS => (by go_simp)⟩) s0 ?_
    try simp only [Go.Act.put, List.setIfInBounds_toArray, List.set_cons_zero, List.set_cons_succ]
    refine wpH_take (i := 5) (v := (.pointer (some ⟨m, 7, none⟩))) (some 24) rfl rfl (by kernel_rfl) (by kernel_rfl) (by kernel_rfl) (fun _ _ _ h => h) (Or.inl ⟨by rfl, fun w' hS => (by go_simp)⟩) s0 ?_
    try simp only [Go.Act.put, List.setIfInBounds_toArray, List.set_cons_zero, List.set_cons_succ]
    refine wpH_take (i := 6) (v := (.int .i64 now)) (some 25) rfl rfl (by kernel_rfl) (by kernel_rfl) (by kernel_rfl) (fun _ _ _ h => h) (Or.inl ⟨by rfl, fun w' hS => (by have z0 := rA _ hS; go_simp)⟩) s0 ?_
    try simp only [Go.Act.put, List.setIfInBounds_toArray, List.set_cons_zero, List.set_cons_succ]
    refine wpH_take (i := 7) (v := (.pointer (some ⟨V.heap.size, 4, none⟩))) (some 26) rfl rfl (by kernel_rfl) (by kernel_rfl) (by kernel_rfl) (fun _ _ _ h => h) (Or.inl ⟨by rfl, fun w' hS => (by go_simp)⟩) s0 ?_
    try simp only [Go.Act.put, List.setIfInBounds_toArray, List.set_cons_zero, List.set_cons_succ]
    refine wpH_take (i := 8) (v := (.int .i64 v.2)) (some 27) rfl rfl (by kernel_rfl) (by kernel_rfl) (by kernel_rfl) (fun _ _ _ h => h) (Or.inl ⟨by rfl, fun w' hS => (by have z0 := r4 _ hS; go_simp)⟩) s0 ?_
    try simp only [Go.Act.put, List.setIfInBounds_toArray, List.set_cons_zero, List.set_cons_succ]
    refine wpH_take (i := 9) (v := (.int .i64 (now - v.2))) (some 28) rfl rfl (by kernel_rfl) (by kernel_rfl) (by kernel_rfl) (fun _ _ _ h => h) (Or.inl ⟨by rfl, fun w' hS => (by go_simp)⟩) s0 ?_
    try simp only [Go.Act.put, List.setIfInBounds_toArray, List.set_cons_zero, List.set_cons_succ]
    refine wpH_take (i := 10) (v := (.pointer (some ⟨V.heap.size, 0, none⟩))) (some 29) rfl rfl (by kernel_rfl) (by kernel_rfl) (by kernel_rfl) (fun _ _ _ h => h) (Or.inl ⟨by rfl, fun w' hS => (by go_simp)⟩) s0 ?_
    try simp only [Go.Act.put, List.setIfInBounds_toArray, List.set_cons_zero, List.set_cons_succ]
    refine wpH_take (i := 11) (v := (.agg #[.int .i64 v.1.1, .int .i64 v.1.2.1, .int .i64 v.1.2.2.1, .int .i64 v.1.2.2.2])) (some 30) rfl rfl (by kernel_rfl) (by kernel_rfl) (by kernel_rfl) (fun _ _ _ h => h) (Or.inl ⟨by rfl, fun w' hS => (by have z0 := r0 _ hS; have z1 := r1 _ hS; have z2 := r2 _ hS; have z3 := r3 _ hS; go_simp)⟩) s0 ?_
    try simp only [Go.Act.put, List.setIfInBounds_toArray, List.set_cons_zero, List.set_cons_succ]
    refine wpH_call (i := 2) (o := { dst := some 21, op := Op.call { callee := Callee.value (Operand.func 65), args := #[Operand.tmp 19, Operand.tmp 20], argTypes := #[26, 108] }, type := 3, pos := _, after := #[{ on := 0, ground := Ground.data }, { on := 1, ground := Ground.data }], guard := none }) (by kernel_rfl) rfl (fun K' hK => ?_)
    rw [if_pos (by rfl)]
    go_simp
    refine (HH.out _ s0).mono ?_
    rintro e w1 ⟨rfl, t1⟩
    have s1 := s0.go t1
    clear t1
    obtain ⟨q0, q1, q2, q3, q4, q5⟩ : w1.cell? ⟨w.heap.size + 1, 0, none⟩ = some (gc w1 (w.heap.size + 1) 0) ∧ w1.cell? ⟨w.heap.size + 1, 1, none⟩ = some (gc w1 (w.heap.size + 1) 1) ∧ w1.cell? ⟨w.heap.size + 1, 2, none⟩ = some (gc w1 (w.heap.size + 1) 2) ∧ w1.cell? ⟨w.heap.size + 1, 3, none⟩ = some (gc w1 (w.heap.size + 1) 3) ∧ w1.cell? ⟨w.heap.size + 1, 4, none⟩ = some (gc w1 (w.heap.size + 1) 4) ∧ w1.cell? ⟨w.heap.size + 1, 5, none⟩ = some (gc w1 (w.heap.size + 1) 5) := ⟨y0 _ s1, y1 _ s1, y2 _ s1, y3 _ s1, y4 _ s1, y5 _ s1⟩
    have qf := yf _ s1
    refine hK.out _ _ s1 ?_
    clear hK
    try simp only [Go.Act.put, List.setIfInBounds_toArray, List.set_cons_zero, List.set_cons_succ]
    refine wpH_take (i := 12) (v := (.agg #[.int .i64 hh, .int .i64 (now - v.2), .int .i64 v.1.1, .int .i64 v.1.2.1, .int .i64 v.1.2.2.1, .int .i64 v.1.2.2.2])) (some 31) rfl rfl (by kernel_rfl) (by kernel_rfl) (by kernel_rfl) (fun _ _ _ h => h) (Or.inl ⟨by rfl, fun w' hS => (by go_simp)⟩) s1 ?_
    try simp only [Go.Act.put, List.setIfInBounds_toArray, List.set_cons_zero, List.set_cons_succ]
    refine wpH_call (i := 13) (o := { dst := none, op := Op.store 75 (Operand.tmp 4) (Operand.tmp 31), type := 0, pos := _, after := #[{ on := 12, ground := Ground.data }, { on := 2, ground := Ground.chain }, { on := 0, ground := Ground.phase }, { on := 1, ground := Ground.phase }, { on := 2, ground := Ground.phase }, { on := 3, ground := Ground.phase }, { on := 4, ground := Ground.phase }, { on := 5, ground := Ground.phase }, { on := 6, ground := Ground.phase }, { on := 7, ground := Ground.phase }, { on := 8, ground := Ground.phase }, { on := 9, ground := Ground.phase }, { on := 10, ground := Ground.phase }, { on := 11, ground := Ground.phase }, { on := 12, ground := Ground.phase }], guard := none }) (by kernel_rfl) rfl (fun K' hK => ?_)
    rw [if_pos (by rfl)]
    go_simp
    refine hK.out _ _ (Sr.s6 s1 _ _ _ _ _ _) ?_
    clear hK
    try simp only [Go.Act.put, List.setIfInBounds_toArray, List.set_cons_zero, List.set_cons_succ]
    refine wpAnyH_done (by kernel_rfl) ?_ _
    have S1 := hid s1
    clear rA r0 r1 r2 r3 r4 y0 y1 y2 y3 y4 y5 yf s0 s1 qf
    go_wp2
    refine bodyPost_ret (v := .agg #[.int .i64 hh, .int .i64 (now - v.2), .int .i64 v.1.1, .int .i64 v.1.2.1, .int .i64 v.1.2.2.1, .int .i64 v.1.2.2.2]) (by simp [results, Try.results50, go_sem, q0, q1, q2, q3, q4, q5]) rfl ⟨rfl, ?_⟩
    refine (S1.out.new TW.out (Nat.le_succ _)).trans (G := [w.heap.size + 1]) ?_ (fun i hi => by simp only [List.mem_singleton] at hi; subst hi; exact Or.inr (Nat.le_succ _))
    exact tset6 _ _ _ _ _ _ _ _
end Go.Proofs.Ytopepalpmkeffaa
