/- The law's one: Fill of a slot that is pending for the caller; no conditions but those that it states. -/
import Derived.Test.YthakboiecdjgnaaDoorCoh
namespace Go.Proofs.YthakboiecdjgnaaDoor.Ci
open Go.RowKit Go.Maps Go.ChangeMaps
set_option linter.unusedVariables false
set_option linter.unusedSimpArgs false
def put7 (cs : Array Value) (o : Nat) (v0 v1 v2 v3 v4 v5 v6 : Value) : Array Value := (((((((cs.setIfInBounds (o) v0).setIfInBounds (o + 1) v1).setIfInBounds (o + 2) v2).setIfInBounds (o + 3) v3).setIfInBounds (o + 4) v4).setIfInBounds (o + 5) v5).setIfInBounds (o + 6) v6)
theorem arr7_in (cs : Array Value) (o : Nat) (v0 v1 v2 v3 v4 v5 v6 : Value) (h : o + 6 < cs.size) (j : Nat) (hj : j < 7) : (put7 cs o v0 v1 v2 v3 v4 v5 v6)[o + j]? = [v0, v1, v2, v3, v4, v5, v6][j]? := by
  unfold put7
  match j, hj with
  | 0, _ => simp [Array.getElem?_setIfInBounds]; omega
  | 1, _ => simp [Array.getElem?_setIfInBounds]; omega
  | 2, _ => simp [Array.getElem?_setIfInBounds]; omega
  | 3, _ => simp [Array.getElem?_setIfInBounds]; omega
  | 4, _ => simp [Array.getElem?_setIfInBounds]; omega
  | 5, _ => simp [Array.getElem?_setIfInBounds]; omega
  | 6, _ => simp [Array.getElem?_setIfInBounds]; omega
theorem arr7_out (cs : Array Value) (o : Nat) (v0 v1 v2 v3 v4 v5 v6 : Value) (k : Nat) (hk : k < o ∨ o + 6 < k) : (put7 cs o v0 v1 v2 v3 v4 v5 v6)[k]? = cs[k]? := by
  unfold put7
  rw [Array.getElem?_setIfInBounds_ne (by omega), Array.getElem?_setIfInBounds_ne (by omega), Array.getElem?_setIfInBounds_ne (by omega), Array.getElem?_setIfInBounds_ne (by omega), Array.getElem?_setIfInBounds_ne (by omega), Array.getElem?_setIfInBounds_ne (by omega), Array.getElem?_setIfInBounds_ne (by omega)]
theorem put7_size (cs : Array Value) (o : Nat) (v0 v1 v2 v3 v4 v5 v6 : Value) : (put7 cs o v0 v1 v2 v3 v4 v5 v6).size = cs.size := by simp [put7]
theorem Touch7 {F : List Nat} {w0 w : World} (t : Touch F w0 w) {b : Nat} (hb : b ∈ F) (o : Nat) (v0 v1 v2 v3 v4 v5 v6 : Value) : Touch F w0 (((((((w.setCell ⟨b, o, none⟩ v0).setCell ⟨b, o + 1, none⟩ v1).setCell ⟨b, o + 2, none⟩ v2).setCell ⟨b, o + 3, none⟩ v3).setCell ⟨b, o + 4, none⟩ v4).setCell ⟨b, o + 5, none⟩ v5).setCell ⟨b, o + 6, none⟩ v6) :=
  (((((((t.setCell (Or.inl hb) _).setCell (Or.inl hb) _).setCell (Or.inl hb) _).setCell (Or.inl hb) _).setCell (Or.inl hb) _).setCell (Or.inl hb) _).setCell (Or.inl hb) _)
theorem heap7 {w : World} {b o : Nat} {cs : Array Value} {ty : TypeId} (h : w.heap[b]? = some (.cells cs ty (0, 0))) (v0 v1 v2 v3 v4 v5 v6 : Value) : (((((((w.setCell ⟨b, o, none⟩ v0).setCell ⟨b, o + 1, none⟩ v1).setCell ⟨b, o + 2, none⟩ v2).setCell ⟨b, o + 3, none⟩ v3).setCell ⟨b, o + 4, none⟩ v4).setCell ⟨b, o + 5, none⟩ v5).setCell ⟨b, o + 6, none⟩ v6).heap[b]? = some (.cells (put7 cs o v0 v1 v2 v3 v4 v5 v6) ty (0, 0)) :=
  (bset (bset (bset (bset (bset (bset (bset h _) _) _) _) _) _) _)
section
variable {B b : Nat} {w w' : World} {pv lv pv2 lv2 : Value} {cs : Array Value} {S : Cs} {T : Ls}
theorem Sc.fu7 (h : Sc cs pv lv T) {i : Nat} (hi : i < 16) : cs[36 + i * 7]? = some (.int .i64 (T.fu i).pl) ∧ cs[36 + i * 7 + 1]? = some (.int .i64 (T.fu i).ho) ∧ cs[36 + i * 7 + 2]? = some (.int .i64 (T.fu i).va) ∧ cs[36 + i * 7 + 3]? = some (.int .i64 (T.fu i).kd) ∧ cs[36 + i * 7 + 4]? = some (.int .i64 (T.fu i).cd) ∧ cs[36 + i * 7 + 5]? = some (.int .i64 (T.fu i).rn) ∧ cs[36 + i * 7 + 6]? = some (.int .i64 (T.fu i).tm) :=
  ⟨h.fu i 0 hi (by omega), h.fu i 1 hi (by omega), h.fu i 2 hi (by omega), h.fu i 3 hi (by omega), h.fu i 4 hi (by omega), h.fu i 5 hi (by omega), h.fu i 6 hi (by omega)⟩
theorem Sc.setFu (h : Sc cs pv lv T) {k : Nat} (hk : k < 16) (g : Gz) : Sc (put7 cs (36 + k * 7) (.int .i64 g.pl) (.int .i64 g.ho) (.int .i64 g.va) (.int .i64 g.kd) (.int .i64 g.cd) (.int .i64 g.rn) (.int .i64 g.tm)) pv lv { T with fu := fun i => if i = k then g else T.fu i } := by
  refine ⟨(put7_size _ _ _ _ _ _ _ _ _).trans h.n, ?_, ?_, ?_, ?_, ?_, ?_, ?_⟩
  · rw [arr7_out _ _ _ _ _ _ _ _ _ _ (by omega)]; exact h.c0
  · rw [arr7_out _ _ _ _ _ _ _ _ _ _ (by omega)]; exact h.c1
  · rw [arr7_out _ _ _ _ _ _ _ _ _ _ (by omega)]; exact h.c2
  · rw [arr7_out _ _ _ _ _ _ _ _ _ _ (by omega)]; exact h.c3
  · intro i hi; rw [arr7_out _ _ _ _ _ _ _ _ _ _ (by omega)]; exact h.st i hi
  · intro i hi; rw [arr7_out _ _ _ _ _ _ _ _ _ _ (by omega)]; exact h.ca i hi
  · intro i j hi hj
    by_cases e : i = k
    · subst e
      rw [arr7_in _ _ _ _ _ _ _ _ _ (by have := h.n; omega) j hj]
      simp only [if_pos]
      rfl
    · rw [arr7_out _ _ _ _ _ _ _ _ _ _ (by omega)]
      simp only [if_neg e]
      exact h.fu i j hi hj
theorem Rel.fill (h : Rel S T) (i : Nat) (g : Gz) : Rel (setSl S i ⟨0, true, g⟩) { T with st := fun j => if j = i then 3 else T.st j, fu := fun j => if j = i then g else T.fu j } := by
  refine ⟨h.L, h.at_, h.tok, h.log, fun j hj => ?_⟩
  simp only [setSl]
  by_cases e : j = i
  · simp only [if_pos e]
    exact Or.inr (Or.inr ⟨rfl, rfl, rfl, rfl⟩)
  · simp only [if_neg e]
    exact h.sl j hj
set_option maxHeartbeats 4000000 in
set_option maxRecDepth 20000 in
theorem one_fill_ok (h : Iv B w b pv lv cs pv2 lv2 S T) (i : Nat) (a2 : Int) (g : Gz) (hi : i < 16) (hs : T.st i = 2) (hc : T.ca i = a2) : Calls Tryd.prog 18 #[.pointer (some ⟨b, 0, none⟩), .agg cs, actv 4 (i : Nat) a2 g] w fun e w' => OnE e w w' B b lv S := by
  have HI := hid h
  have hb := h.q.lt
  obtain ⟨ap, cp, e2⟩ := own_form h.p2
  subst e2
  have hone : Hid (lv2.oneCell' = true) := hid (by obtain ⟨a, c, e⟩ := own_form h.g2; rw [e]; rfl)
  have HK := hid (show i < 16 ∧ ¬ a2 < 1 ∧ (S.sl i).ca = a2 from ⟨hi, by
    rcases h.r.sl i hi with ⟨e, _⟩ | ⟨_, e, _⟩ | ⟨e, _⟩ <;> omega, by
    rcases h.r.sl i hi with ⟨e, _⟩ | ⟨_, _, e, _⟩ | ⟨e, _⟩ <;> omega⟩)
  have k1 : (i : Int) < 16 := by omega
  have HST := hid (h.s.st i hi)
  have HCA := hid (h.s.ca i hi)
  rw [hs] at HST
  rw [hc] at HCA
  have HFU := hid ((h.s.setSt hi 3).fu7 hi)
  obtain ⟨C, hC⟩ : ∃ C, C = put7 (cs.setIfInBounds (4 + i) (.int .i64 3)) (36 + i * 7) (.int .i64 g.pl) (.int .i64 g.ho) (.int .i64 g.va) (.int .i64 g.kd) (.int .i64 g.cd) (.int .i64 g.rn) (.int .i64 g.tm) := ⟨_, rfl⟩
  have HSC := hid ((h.s.setSt hi 3).setFu hi g)
  rw [← hC] at HSC
  have HCC := hid hC
  have HN1 := hid HSC.out.n
  have HO1 := hid (HSC.out.one rfl hone.out)
  clear hC
  clear h hs hc
  obtain ⟨g0', g1, g2, g3, g4, g5, g6⟩ := g
  unfold actv
  dsimp only at *
  obtain ⟨V, hV⟩ : ∃ V, V = ((w.alloc (.cells cs 63)).alloc (.cells #[.int .i64 4, .int .i64 (i : Nat), .int .i64 a2, .int .i64 g0', .int .i64 g1, .int .i64 g2, .int .i64 g3, .int .i64 g4, .int .i64 g5, .int .i64 g6] 67)).alloc (.cells Tryd.zeroCells63 63) := ⟨_, rfl⟩
  have TV : Hid (Touch [] w V) := hid (by rw [hV]; exact (((Touch.refl _ _).alloc _).alloc _).alloc _)
  have B4 : Hid (V.heap[w.heap.size]? = some (.cells cs 63 (0, 0))) := hid (by rw [hV]; exact (((Touch.refl [] _).alloc _).alloc _).keep (heap_alloc_new w _) (by simp))
  have B5 : Hid (V.heap[w.heap.size + 1]? = some (.cells #[.int .i64 4, .int .i64 (i : Nat), .int .i64 a2, .int .i64 g0', .int .i64 g1, .int .i64 g2, .int .i64 g3, .int .i64 g4, .int .i64 g5, .int .i64 g6] 67 (0, 0))) := hid (by
    rw [hV]
    have := heap_alloc_new (w.alloc (.cells cs 63)) (.cells #[.int .i64 4, .int .i64 (i : Nat), .int .i64 a2, .int .i64 g0', .int .i64 g1, .int .i64 g2, .int .i64 g3, .int .i64 g4, .int .i64 g5, .int .i64 g6] 67)
    rw [World.size_alloc] at this
    exact ((Touch.refl [] _).alloc _).keep this (by simp))
  have B7 : Hid (V.heap[w.heap.size + 2]? = some (.cells Tryd.zeroCells63 63 (0, 0))) := hid (by
    rw [hV]
    have := heap_alloc_new ((w.alloc (.cells cs 63)).alloc (.cells #[.int .i64 4, .int .i64 (i : Nat), .int .i64 a2, .int .i64 g0', .int .i64 g1, .int .i64 g2, .int .i64 g3, .int .i64 g4, .int .i64 g5, .int .i64 g6] 67)) (.cells Tryd.zeroCells63 63)
    rwa [World.size_alloc, World.size_alloc] at this)
  go_enter Tryd.func18, Tryd.ntmps18
  go_upto_region 1 with fail
  rw [← hV]
  clear hV
  have v0 := cell_at (j := 0) B5.out rfl
  have v1 := cell_at (j := 1) B5.out rfl
  have v2 := cell_at (j := 2) B5.out rfl
  have y1 := cell_at B4.out HST.out
  have y2 := cell_at B4.out HCA.out
  go_upto_region 27 with fail
  go_quiet (fail)
  go_upto_region 29 with fail
  clear v0 v1 v2 y1 y2
  have TU0 : Touch [w.heap.size] V (V.drewN nq).drew := ⟨rfl, rfl, rfl, Nat.le_refl _, fun _ _ _ => rfl⟩
  have R0 : (V.drewN nq).drew.heap[w.heap.size + 1]? = some (.cells #[.int .i64 4, .int .i64 (i : Nat), .int .i64 a2, .int .i64 g0', .int .i64 g1, .int .i64 g2, .int .i64 g3, .int .i64 g4, .int .i64 g5, .int .i64 g6] 67 (0, 0)) := B5.out
  have B40 : Hid ((V.drewN nq).drew.heap[w.heap.size]? = some (.cells cs 63 (0, 0))) := B4
  refine wp_region_H (S := fun w' => w'.heap[w.heap.size + 1]? = some (.cells #[.int .i64 4, .int .i64 (i : Nat), .int .i64 a2, .int .i64 g0', .int .i64 g1, .int .i64 g2, .int .i64 g3, .int .i64 g4, .int .i64 g5, .int .i64 g6] 67 (0, 0))) (by kernel_rfl) ?_
  generalize (V.drewN nq).drew = U0 at *
  have TU := hid TU0
  clear TU0
  have y1 := cell_at B40.out HST.out
  have yf := froz_at B40.out
  have E1 : ∀ w' : World, w'.heap[w.heap.size + 1]? = some (.cells #[.int .i64 4, .int .i64 (i : Nat), .int .i64 a2, .int .i64 g0', .int .i64 g1, .int .i64 g2, .int .i64 g3, .int .i64 g4, .int .i64 g5, .int .i64 g6] 67 (0, 0)) → w'.cell? ⟨w.heap.size + 1, 1, none⟩ = some (.int .i64 (i : Nat)) := fun w' h => cell_at h rfl
  have E3 : ∀ w' : World, w'.heap[w.heap.size + 1]? = some (.cells #[.int .i64 4, .int .i64 (i : Nat), .int .i64 a2, .int .i64 g0', .int .i64 g1, .int .i64 g2, .int .i64 g3, .int .i64 g4, .int .i64 g5, .int .i64 g6] 67 (0, 0)) → w'.cell? ⟨w.heap.size + 1, 3, none⟩ = some (.int .i64 g0') := fun w' h => cell_at h rfl
  have E4 : ∀ w' : World, w'.heap[w.heap.size + 1]? = some (.cells #[.int .i64 4, .int .i64 (i : Nat), .int .i64 a2, .int .i64 g0', .int .i64 g1, .int .i64 g2, .int .i64 g3, .int .i64 g4, .int .i64 g5, .int .i64 g6] 67 (0, 0)) → w'.cell? ⟨w.heap.size + 1, 4, none⟩ = some (.int .i64 g1) := fun w' h => cell_at h rfl
  have E5 : ∀ w' : World, w'.heap[w.heap.size + 1]? = some (.cells #[.int .i64 4, .int .i64 (i : Nat), .int .i64 a2, .int .i64 g0', .int .i64 g1, .int .i64 g2, .int .i64 g3, .int .i64 g4, .int .i64 g5, .int .i64 g6] 67 (0, 0)) → w'.cell? ⟨w.heap.size + 1, 5, none⟩ = some (.int .i64 g2) := fun w' h => cell_at h rfl
  have E6 : ∀ w' : World, w'.heap[w.heap.size + 1]? = some (.cells #[.int .i64 4, .int .i64 (i : Nat), .int .i64 a2, .int .i64 g0', .int .i64 g1, .int .i64 g2, .int .i64 g3, .int .i64 g4, .int .i64 g5, .int .i64 g6] 67 (0, 0)) → w'.cell? ⟨w.heap.size + 1, 6, none⟩ = some (.int .i64 g3) := fun w' h => cell_at h rfl
  have E7 : ∀ w' : World, w'.heap[w.heap.size + 1]? = some (.cells #[.int .i64 4, .int .i64 (i : Nat), .int .i64 a2, .int .i64 g0', .int .i64 g1, .int .i64 g2, .int .i64 g3, .int .i64 g4, .int .i64 g5, .int .i64 g6] 67 (0, 0)) → w'.cell? ⟨w.heap.size + 1, 7, none⟩ = some (.int .i64 g4) := fun w' h => cell_at h rfl
  have E8 : ∀ w' : World, w'.heap[w.heap.size + 1]? = some (.cells #[.int .i64 4, .int .i64 (i : Nat), .int .i64 a2, .int .i64 g0', .int .i64 g1, .int .i64 g2, .int .i64 g3, .int .i64 g4, .int .i64 g5, .int .i64 g6] 67 (0, 0)) → w'.cell? ⟨w.heap.size + 1, 8, none⟩ = some (.int .i64 g5) := fun w' h => cell_at h rfl
  have E9 : ∀ w' : World, w'.heap[w.heap.size + 1]? = some (.cells #[.int .i64 4, .int .i64 (i : Nat), .int .i64 a2, .int .i64 g0', .int .i64 g1, .int .i64 g2, .int .i64 g3, .int .i64 g4, .int .i64 g5, .int .i64 g6] 67 (0, 0)) → w'.cell? ⟨w.heap.size + 1, 9, none⟩ = some (.int .i64 g6) := fun w' h => cell_at h rfl
  refine wpH_take (i := 0) (v := (.pointer (some ⟨w.heap.size + 1, 1, none⟩))) (some 152) rfl rfl (by kernel_rfl) (by kernel_rfl) (by kernel_rfl) (fun _ _ _ h => h) (Or.inl ⟨by rfl, fun w' hS => (by go_simp)⟩) R0 ?_
  try simp only [Go.Act.put, List.setIfInBounds_toArray, List.set_cons_zero, List.set_cons_succ]
  refine wpH_take (i := 1) (v := (.int .i64 (i : Nat))) (some 153) rfl rfl (by kernel_rfl) (by kernel_rfl) (by kernel_rfl) (fun _ _ _ h => h) (Or.inl ⟨by rfl, fun w' hS => (by have z0 := E1 _ hS; go_simp)⟩) R0 ?_
  try simp only [Go.Act.put, List.setIfInBounds_toArray, List.set_cons_zero, List.set_cons_succ]
  refine wpH_take (i := 2) (v := (.pointer (some ⟨w.heap.size + 1, 1, none⟩))) (some 154) rfl rfl (by kernel_rfl) (by kernel_rfl) (by kernel_rfl) (fun _ _ _ h => h) (Or.inl ⟨by rfl, fun w' hS => (by go_simp)⟩) R0 ?_
  try simp only [Go.Act.put, List.setIfInBounds_toArray, List.set_cons_zero, List.set_cons_succ]
  refine wpH_take (i := 3) (v := (.int .i64 (i : Nat))) (some 155) rfl rfl (by kernel_rfl) (by kernel_rfl) (by kernel_rfl) (fun _ _ _ h => h) (Or.inl ⟨by rfl, fun w' hS => (by have z0 := E1 _ hS; go_simp)⟩) R0 ?_
  try simp only [Go.Act.put, List.setIfInBounds_toArray, List.set_cons_zero, List.set_cons_succ]
  refine wpH_take (i := 4) (v := (.pointer (some ⟨w.heap.size + 1, 3, none⟩))) (some 156) rfl rfl (by kernel_rfl) (by kernel_rfl) (by kernel_rfl) (fun _ _ _ h => h) (Or.inl ⟨by rfl, fun w' hS => (by go_simp)⟩) R0 ?_
  try simp only [Go.Act.put, List.setIfInBounds_toArray, List.set_cons_zero, List.set_cons_succ]
  refine wpH_take (i := 5) (v := (.agg #[.int .i64 g0', .int .i64 g1, .int .i64 g2, .int .i64 g3, .int .i64 g4, .int .i64 g5, .int .i64 g6])) (some 157) rfl rfl (by kernel_rfl) (by kernel_rfl) (by kernel_rfl) (fun _ _ _ h => h) (Or.inl ⟨by rfl, fun w' hS => (by have z0 := E3 _ hS; have z1 := E4 _ hS; have z2 := E5 _ hS; have z3 := E6 _ hS; have z4 := E7 _ hS; have z5 := E8 _ hS; have z6 := E9 _ hS; go_simp)⟩) R0 ?_
  try simp only [Go.Act.put, List.setIfInBounds_toArray, List.set_cons_zero, List.set_cons_succ]
  refine wpH_take (i := 6) (v := (.pointer (some ⟨w.heap.size, 4, none⟩))) (some 158) rfl rfl (by kernel_rfl) (by kernel_rfl) (by kernel_rfl) (fun _ _ _ h => h) (Or.inl ⟨by rfl, fun w' hS => (by go_simp)⟩) R0 ?_
  try simp only [Go.Act.put, List.setIfInBounds_toArray, List.set_cons_zero, List.set_cons_succ]
  refine wpH_take (i := 7) (v := (.pointer (some ⟨w.heap.size, 4 + i, none⟩))) (some 159) rfl rfl (by kernel_rfl) (by kernel_rfl) (by kernel_rfl) (fun _ _ _ h => h) (Or.inl ⟨by rfl, fun w' hS => (by go_simp)⟩) R0 ?_
  try simp only [Go.Act.put, List.setIfInBounds_toArray, List.set_cons_zero, List.set_cons_succ]
  refine wpH_take (i := 9) (v := (.pointer (some ⟨w.heap.size, 36, none⟩))) (some 160) rfl rfl (by kernel_rfl) (by kernel_rfl) (by kernel_rfl) (fun _ _ _ h => h) (Or.inl ⟨by rfl, fun w' hS => (by go_simp)⟩) R0 ?_
  try simp only [Go.Act.put, List.setIfInBounds_toArray, List.set_cons_zero, List.set_cons_succ]
  refine wpH_call (i := 8) (o := { dst := none, op := Op.store 3 (Operand.tmp 159) (Operand.const (Value.int IntKind.i64 3)), type := 0, pos := _, after := #[{ on := 7, ground := Ground.data }, { on := 0, ground := Ground.phase }, { on := 1, ground := Ground.phase }, { on := 2, ground := Ground.textOnly Departure.lateStores }, { on := 3, ground := Ground.textOnly Departure.lateStores }, { on := 4, ground := Ground.textOnly Departure.lateStores }, { on := 5, ground := Ground.textOnly Departure.lateStores }], guard := none }) (by kernel_rfl) rfl (fun K' hK => ?_)
  rw [if_pos (by rfl)]
  go_simp
  have S1 := ((Touch.refl [w.heap.size] U0).setCell (p := ⟨w.heap.size, 4 + i, none⟩) (Or.inl (by simp)) (.int .i64 3)).keep R0 (by simp)
  refine hK.out _ _ S1 ?_
  clear hK
  try simp only [Go.Act.put, List.setIfInBounds_toArray, List.set_cons_zero, List.set_cons_succ]
  obtain ⟨U1, hU1⟩ : ∃ U1, U1 = U0.setCell ⟨w.heap.size, 4 + i, none⟩ (.int .i64 3) := ⟨_, rfl⟩
  rw [← hU1] at S1 ⊢
  have b41 := hid (show U1.heap[w.heap.size]? = some (.cells (cs.setIfInBounds (4 + i) (.int .i64 3)) 63 (0, 0)) by rw [hU1]; exact bset B40.out _)
  have t01 : Hid (Touch [w.heap.size] U0 U1) := hid (by rw [hU1]; exact (Touch.refl _ _).setCell (Or.inl (by simp)) _)
  clear hU1 y1 yf
  have y0 := cell_at b41.out HFU.out.1
  have y1 := cell_at b41.out HFU.out.2.1
  have y2 := cell_at b41.out HFU.out.2.2.1
  have y3 := cell_at b41.out HFU.out.2.2.2.1
  have y4 := cell_at b41.out HFU.out.2.2.2.2.1
  have y5 := cell_at b41.out HFU.out.2.2.2.2.2.1
  have y6 := cell_at b41.out HFU.out.2.2.2.2.2.2
  have yf := froz_at b41.out
  refine wpH_take (i := 10) (v := (.pointer (some ⟨w.heap.size, 36 + i * 7, none⟩))) (some 161) rfl rfl (by kernel_rfl) (by kernel_rfl) (by kernel_rfl) (fun _ _ _ h => h) (Or.inl ⟨by rfl, fun w' hS => (by go_simp)⟩) S1 ?_
  try simp only [Go.Act.put, List.setIfInBounds_toArray, List.set_cons_zero, List.set_cons_succ]
  refine wpH_call (i := 11) (o := { dst := none, op := Op.store 60 (Operand.tmp 161) (Operand.tmp 157), type := 0, pos := _, after := #[{ on := 10, ground := Ground.data }, { on := 5, ground := Ground.data }, { on := 8, ground := Ground.chain }, { on := 0, ground := Ground.phase }, { on := 1, ground := Ground.phase }, { on := 2, ground := Ground.phase }, { on := 3, ground := Ground.phase }, { on := 4, ground := Ground.phase }, { on := 5, ground := Ground.phase }, { on := 6, ground := Ground.phase }, { on := 7, ground := Ground.phase }, { on := 8, ground := Ground.phase }], guard := none }) (by kernel_rfl) rfl (fun K' hK => ?_)
  rw [if_pos (by rfl)]
  go_simp
  have S2 := (Touch7 (Touch.refl [w.heap.size] U1) (b := w.heap.size) (by simp) (36 + i * 7) (.int .i64 g0') (.int .i64 g1) (.int .i64 g2) (.int .i64 g3) (.int .i64 g4) (.int .i64 g5) (.int .i64 g6)).keep S1 (by simp)
  refine hK.out _ _ S2 ?_
  clear hK
  try simp only [Go.Act.put, List.setIfInBounds_toArray, List.set_cons_zero, List.set_cons_succ]
  obtain ⟨U2, hU2⟩ : ∃ U2, U2 = (((((((U1.setCell ⟨w.heap.size, 36 + i * 7, none⟩ (.int .i64 g0')).setCell ⟨w.heap.size, 36 + i * 7 + 1, none⟩ (.int .i64 g1)).setCell ⟨w.heap.size, 36 + i * 7 + 2, none⟩ (.int .i64 g2)).setCell ⟨w.heap.size, 36 + i * 7 + 3, none⟩ (.int .i64 g3)).setCell ⟨w.heap.size, 36 + i * 7 + 4, none⟩ (.int .i64 g4)).setCell ⟨w.heap.size, 36 + i * 7 + 5, none⟩ (.int .i64 g5)).setCell ⟨w.heap.size, 36 + i * 7 + 6, none⟩ (.int .i64 g6)) := ⟨_, rfl⟩
  rw [← hU2] at S2 ⊢
  have b42 := hid (show U2.heap[w.heap.size]? = some (.cells C 63 (0, 0)) by rw [hU2, HCC.out]; exact heap7 b41.out _ _ _ _ _ _ _)
  have t02 : Hid (Touch [w.heap.size] U0 U2) := hid (t01.out.trans' (by rw [hU2]; exact Touch7 (Touch.refl _ _) (by simp) _ _ _ _ _ _ _ _))
  clear hU2 y0 y1 y2 y3 y4 y5 y6 yf b41 t01 S1
  refine wpAnyH_done (by kernel_rfl) ?_ _
  go_upto_region 30 with fail
  obtain ⟨W0, hW0⟩ : ∃ W0, W0 = U2.drew := ⟨_, rfl⟩
  have tb : Touch [w.heap.size] V W0 := by rw [hW0]; exact (TU.out.trans' t02.out).drew
  have S0 : (fun (w' : World) => w'.heap[w.heap.size]? = some (.cells C 63 (0, 0)) ∧ w'.heap[w.heap.size + 1]? = some (.cells #[.int .i64 4, .int .i64 (i : Nat), .int .i64 a2, .int .i64 g0', .int .i64 g1, .int .i64 g2, .int .i64 g3, .int .i64 g4, .int .i64 g5, .int .i64 g6] 67 (0, 0))) W0 := And.intro (by rw [hW0]; exact b42.out) (tb.keep B5.out (by simp))
  dsimp only at S0
  have FI := (HI.out.touch TV.out).box B4.out tb
  have HU := hid (fill_ok FI.q i a2 ⟨g0', g1, g2, g3, g4, g5, g6⟩ HK.out.1 HK.out.2.1 HK.out.2.2)
  have HFI : Hid (∀ w5, Cq w5 b pv lv (setSl S i ⟨0, true, ⟨g0', g1, g2, g3, g4, g5, g6⟩⟩) → Touch [b] W0 w5 → Iv B w5 b pv lv C (.slice ap T.L.length cp) lv2 (setSl S i ⟨0, true, ⟨g0', g1, g2, g3, g4, g5, g6⟩⟩) { T with st := fun j => if j = i then 3 else T.st j, fu := fun j => if j = i then ⟨g0', g1, g2, g3, g4, g5, g6⟩ else T.fu j }) := hid (fun w5 q t => FI.step q t HSC.out (FI.r.fill i ⟨g0', g1, g2, g3, g4, g5, g6⟩) rfl rfl)
  clear S2 b42 t02
  have TW : Hid (Touch (b :: lv.ownBlock.toList) w W0) := hid ((TV.out.mono (fun _ e => by cases e)).trans tb (fun k hk => Or.inr (by simp at hk; omega)))
  have B7' := hid (tb.keep B7.out (by simp))
  have F1 : ∀ w' : World, (w'.heap[w.heap.size]? = some (.cells C 63 (0, 0)) ∧ w'.heap[w.heap.size + 1]? = some (.cells #[.int .i64 4, .int .i64 (i : Nat), .int .i64 a2, .int .i64 g0', .int .i64 g1, .int .i64 g2, .int .i64 g3, .int .i64 g4, .int .i64 g5, .int .i64 g6] 67 (0, 0))) → w'.cell? ⟨w.heap.size + 1, 1, none⟩ = some (.int .i64 (i : Nat)) := fun w' h => cell_at h.2 rfl
  have F2 : ∀ w' : World, (w'.heap[w.heap.size]? = some (.cells C 63 (0, 0)) ∧ w'.heap[w.heap.size + 1]? = some (.cells #[.int .i64 4, .int .i64 (i : Nat), .int .i64 a2, .int .i64 g0', .int .i64 g1, .int .i64 g2, .int .i64 g3, .int .i64 g4, .int .i64 g5, .int .i64 g6] 67 (0, 0))) → w'.cell? ⟨w.heap.size + 1, 2, none⟩ = some (.int .i64 a2) := fun w' h => cell_at h.2 rfl
  have F3 : ∀ w' : World, (w'.heap[w.heap.size]? = some (.cells C 63 (0, 0)) ∧ w'.heap[w.heap.size + 1]? = some (.cells #[.int .i64 4, .int .i64 (i : Nat), .int .i64 a2, .int .i64 g0', .int .i64 g1, .int .i64 g2, .int .i64 g3, .int .i64 g4, .int .i64 g5, .int .i64 g6] 67 (0, 0))) → w'.cell? ⟨w.heap.size + 1, 3, none⟩ = some (.int .i64 g0') := fun w' h => cell_at h.2 rfl
  have F4 : ∀ w' : World, (w'.heap[w.heap.size]? = some (.cells C 63 (0, 0)) ∧ w'.heap[w.heap.size + 1]? = some (.cells #[.int .i64 4, .int .i64 (i : Nat), .int .i64 a2, .int .i64 g0', .int .i64 g1, .int .i64 g2, .int .i64 g3, .int .i64 g4, .int .i64 g5, .int .i64 g6] 67 (0, 0))) → w'.cell? ⟨w.heap.size + 1, 4, none⟩ = some (.int .i64 g1) := fun w' h => cell_at h.2 rfl
  have F5 : ∀ w' : World, (w'.heap[w.heap.size]? = some (.cells C 63 (0, 0)) ∧ w'.heap[w.heap.size + 1]? = some (.cells #[.int .i64 4, .int .i64 (i : Nat), .int .i64 a2, .int .i64 g0', .int .i64 g1, .int .i64 g2, .int .i64 g3, .int .i64 g4, .int .i64 g5, .int .i64 g6] 67 (0, 0))) → w'.cell? ⟨w.heap.size + 1, 5, none⟩ = some (.int .i64 g2) := fun w' h => cell_at h.2 rfl
  have F6 : ∀ w' : World, (w'.heap[w.heap.size]? = some (.cells C 63 (0, 0)) ∧ w'.heap[w.heap.size + 1]? = some (.cells #[.int .i64 4, .int .i64 (i : Nat), .int .i64 a2, .int .i64 g0', .int .i64 g1, .int .i64 g2, .int .i64 g3, .int .i64 g4, .int .i64 g5, .int .i64 g6] 67 (0, 0))) → w'.cell? ⟨w.heap.size + 1, 6, none⟩ = some (.int .i64 g3) := fun w' h => cell_at h.2 rfl
  have F7 : ∀ w' : World, (w'.heap[w.heap.size]? = some (.cells C 63 (0, 0)) ∧ w'.heap[w.heap.size + 1]? = some (.cells #[.int .i64 4, .int .i64 (i : Nat), .int .i64 a2, .int .i64 g0', .int .i64 g1, .int .i64 g2, .int .i64 g3, .int .i64 g4, .int .i64 g5, .int .i64 g6] 67 (0, 0))) → w'.cell? ⟨w.heap.size + 1, 7, none⟩ = some (.int .i64 g4) := fun w' h => cell_at h.2 rfl
  have F8 : ∀ w' : World, (w'.heap[w.heap.size]? = some (.cells C 63 (0, 0)) ∧ w'.heap[w.heap.size + 1]? = some (.cells #[.int .i64 4, .int .i64 (i : Nat), .int .i64 a2, .int .i64 g0', .int .i64 g1, .int .i64 g2, .int .i64 g3, .int .i64 g4, .int .i64 g5, .int .i64 g6] 67 (0, 0))) → w'.cell? ⟨w.heap.size + 1, 8, none⟩ = some (.int .i64 g5) := fun w' h => cell_at h.2 rfl
  have F9 : ∀ w' : World, (w'.heap[w.heap.size]? = some (.cells C 63 (0, 0)) ∧ w'.heap[w.heap.size + 1]? = some (.cells #[.int .i64 4, .int .i64 (i : Nat), .int .i64 a2, .int .i64 g0', .int .i64 g1, .int .i64 g2, .int .i64 g3, .int .i64 g4, .int .i64 g5, .int .i64 g6] 67 (0, 0))) → w'.cell? ⟨w.heap.size + 1, 9, none⟩ = some (.int .i64 g6) := fun w' h => cell_at h.2 rfl
  refine wp_region_H (S := fun (w' : World) => w'.heap[w.heap.size]? = some (.cells C 63 (0, 0)) ∧ w'.heap[w.heap.size + 1]? = some (.cells #[.int .i64 4, .int .i64 (i : Nat), .int .i64 a2, .int .i64 g0', .int .i64 g1, .int .i64 g2, .int .i64 g3, .int .i64 g4, .int .i64 g5, .int .i64 g6] 67 (0, 0))) (by kernel_rfl) ?_
  rw [← hW0]
  clear hW0 tb
  refine wpH_take (i := 0) (v := (.pointer (some ⟨b, 0, none⟩))) (some 162) rfl rfl (by kernel_rfl) (by kernel_rfl) (by kernel_rfl) (fun _ _ _ h => h) (Or.inl ⟨by rfl, fun w' hS => (by go_simp)⟩) S0 ?_
  try simp only [Go.Act.put, List.setIfInBounds_toArray, List.set_cons_zero, List.set_cons_succ]
  refine wpH_take (i := 1) (v := (.agg C)) (some 163) rfl rfl (by kernel_rfl) (by kernel_rfl) (by kernel_rfl) (fun _ _ _ h => h) (Or.inl ⟨by rfl, fun w' hS => exec_loadT bigS _ rfl rfl hS.1 HN1.out⟩) S0 ?_
  try simp only [Go.Act.put, List.setIfInBounds_toArray, List.set_cons_zero, List.set_cons_succ]
  refine wpH_take (i := 2) (v := (.pointer (some ⟨b, 0, none⟩))) (some 164) rfl rfl (by kernel_rfl) (by kernel_rfl) (by kernel_rfl) (fun _ _ _ h => h) (Or.inl ⟨by rfl, fun w' hS => (by go_simp)⟩) S0 ?_
  try simp only [Go.Act.put, List.setIfInBounds_toArray, List.set_cons_zero, List.set_cons_succ]
  refine wpH_take (i := 3) (v := (.pointer (some ⟨w.heap.size + 1, 1, none⟩))) (some 165) rfl rfl (by kernel_rfl) (by kernel_rfl) (by kernel_rfl) (fun _ _ _ h => h) (Or.inl ⟨by rfl, fun w' hS => (by go_simp)⟩) S0 ?_
  try simp only [Go.Act.put, List.setIfInBounds_toArray, List.set_cons_zero, List.set_cons_succ]
  refine wpH_take (i := 4) (v := (.int .i64 (i : Nat))) (some 166) rfl rfl (by kernel_rfl) (by kernel_rfl) (by kernel_rfl) (fun _ _ _ h => h) (Or.inl ⟨by rfl, fun w' hS => (by have z0 := F1 _ hS; go_simp)⟩) S0 ?_
  try simp only [Go.Act.put, List.setIfInBounds_toArray, List.set_cons_zero, List.set_cons_succ]
  refine wpH_take (i := 5) (v := (.pointer (some ⟨w.heap.size + 1, 2, none⟩))) (some 167) rfl rfl (by kernel_rfl) (by kernel_rfl) (by kernel_rfl) (fun _ _ _ h => h) (Or.inl ⟨by rfl, fun w' hS => (by go_simp)⟩) S0 ?_
  try simp only [Go.Act.put, List.setIfInBounds_toArray, List.set_cons_zero, List.set_cons_succ]
  refine wpH_take (i := 6) (v := (.int .i64 a2)) (some 168) rfl rfl (by kernel_rfl) (by kernel_rfl) (by kernel_rfl) (fun _ _ _ h => h) (Or.inl ⟨by rfl, fun w' hS => (by have z0 := F2 _ hS; go_simp)⟩) S0 ?_
  try simp only [Go.Act.put, List.setIfInBounds_toArray, List.set_cons_zero, List.set_cons_succ]
  refine wpH_take (i := 7) (v := (.pointer (some ⟨w.heap.size + 1, 3, none⟩))) (some 169) rfl rfl (by kernel_rfl) (by kernel_rfl) (by kernel_rfl) (fun _ _ _ h => h) (Or.inl ⟨by rfl, fun w' hS => (by go_simp)⟩) S0 ?_
  try simp only [Go.Act.put, List.setIfInBounds_toArray, List.set_cons_zero, List.set_cons_succ]
  refine wpH_take (i := 8) (v := (.agg #[.int .i64 g0', .int .i64 g1, .int .i64 g2, .int .i64 g3, .int .i64 g4, .int .i64 g5, .int .i64 g6])) (some 170) rfl rfl (by kernel_rfl) (by kernel_rfl) (by kernel_rfl) (fun _ _ _ h => h) (Or.inl ⟨by rfl, fun w' hS => (by have z0 := F3 _ hS; have z1 := F4 _ hS; have z2 := F5 _ hS; have z3 := F6 _ hS; have z4 := F7 _ hS; have z5 := F8 _ hS; have z6 := F9 _ hS; go_simp)⟩) S0 ?_
  try simp only [Go.Act.put, List.setIfInBounds_toArray, List.set_cons_zero, List.set_cons_succ]
  refine wpH_take (i := 10) (v := (.bool true)) (some 172) rfl rfl (by kernel_rfl) (by kernel_rfl) (by kernel_rfl) (fun _ _ _ h => h) (Or.inl ⟨by rfl, fun w' hS => (by go_simp)⟩) S0 ?_
  try simp only [Go.Act.put, List.setIfInBounds_toArray, List.set_cons_zero, List.set_cons_succ]
  refine wpH_call (i := 9) (o := { dst := some 171, op := Op.call { callee := Callee.value (Operand.func 27), args := #[Operand.tmp 164, Operand.tmp 166, Operand.tmp 168, Operand.tmp 170], argTypes := #[50, 3, 3, 60] }, type := 4, pos := _, after := #[{ on := 2, ground := Ground.data }, { on := 4, ground := Ground.data }, { on := 6, ground := Ground.data }, { on := 8, ground := Ground.data }], guard := none }) (by kernel_rfl) rfl (fun K' hK => ?_)
  rw [if_pos (by rfl)]
  go_simp
  refine HU.out.mono ?_
  rintro e w5 ⟨rfl, t5, q5⟩
  have S5 := And.intro (t5.keep S0.1 (by simp; omega)) (t5.keep S0.2 (by simp; omega))
  have B75 := hid (t5.keep B7'.out (by simp; omega))
  have F5 := hid (HFI.out _ q5 t5)
  have T5 := hid (TW.out.trans t5 (fun k hk => Or.inl (by simp at hk; simp [hk])))
  clear t5 q5
  refine hK.out _ _ S5 ?_
  clear hK
  try simp only [Go.Act.put, List.setIfInBounds_toArray, List.set_cons_zero, List.set_cons_succ]
  refine wpH_take (i := 11) (v := (.bool true)) (some 173) rfl rfl (by kernel_rfl) (by kernel_rfl) (by kernel_rfl) (fun _ _ _ h => h) (Or.inl ⟨by rfl, fun w' hS => (by go_simp)⟩) S5 ?_
  try simp only [Go.Act.put, List.setIfInBounds_toArray, List.set_cons_zero, List.set_cons_succ]
  refine wpH_take (i := 12) (v := (.pointer (some ⟨b, 0, none⟩))) (some 6) rfl rfl (by kernel_rfl) (by kernel_rfl) (by kernel_rfl) (fun _ _ _ h => h) (Or.inl ⟨by rfl, fun w' hS => (by go_simp)⟩) S5 ?_
  try simp only [Go.Act.put, List.setIfInBounds_toArray, List.set_cons_zero, List.set_cons_succ]
  refine wpH_call (i := 13) (o := { dst := none, op := Op.store 63 (Operand.tmp 7) (Operand.tmp 163), type := 0, pos := _, after := #[{ on := 1, ground := Ground.data }, { on := 12, ground := Ground.chain }, { on := 0, ground := Ground.phase }, { on := 1, ground := Ground.phase }, { on := 2, ground := Ground.textOnly Departure.lateStores }, { on := 3, ground := Ground.textOnly Departure.lateStores }, { on := 4, ground := Ground.textOnly Departure.lateStores }, { on := 5, ground := Ground.textOnly Departure.lateStores }, { on := 6, ground := Ground.textOnly Departure.lateStores }, { on := 7, ground := Ground.textOnly Departure.lateStores }, { on := 8, ground := Ground.textOnly Departure.lateStores }, { on := 9, ground := Ground.textOnly Departure.lateStoresUnsure }, { on := 10, ground := Ground.textOnly Departure.lateStores }, { on := 11, ground := Ground.textOnly Departure.lateStores }, { on := 12, ground := Ground.phase }], guard := none }) (by kernel_rfl) rfl (fun K' hK => ?_)
  rw [if_pos (by rfl)]
  refine wp_storeT bigS (Operand.tmp 7) (Operand.tmp 163) rfl (w.heap.size + 2) _ C 63 rfl rfl B75.out zs_size HN1.out HO1.out (fun w7 h7 t7 s7 => ?_)
  have S7 := And.intro (t7.keep S5.1 (by simp)) (t7.keep S5.2 (by simp))
  refine hK.out _ _ S7 ?_
  clear hK
  try simp only [Go.Act.put, List.setIfInBounds_toArray, List.set_cons_zero, List.set_cons_succ]
  refine wpH_take (i := 14) (v := (.bool true)) (some 8) rfl rfl (by kernel_rfl) (by kernel_rfl) (by kernel_rfl) (fun _ _ _ h => h) (Or.inl ⟨by rfl, fun w' hS => (by go_simp)⟩) S7 ?_
  try simp only [Go.Act.put, List.setIfInBounds_toArray, List.set_cons_zero, List.set_cons_succ]
  refine wpAnyH_done (by kernel_rfl) ?_ _
  go_wp2_with fail
  refine bodyPost_ret (results_one rfl _ _ rfl h7 HN1.out) rfl ?_
  exact ⟨b, pv, lv, _, _, lv2, _, _, rfl, F5.out.box B75.out t7, Nat.le_succ _, rfl, T5.out.trans t7 (fun k hk => Or.inr (by simp at hk; omega))⟩
end
end Go.Proofs.YthakboiecdjgnaaDoor.Ci
