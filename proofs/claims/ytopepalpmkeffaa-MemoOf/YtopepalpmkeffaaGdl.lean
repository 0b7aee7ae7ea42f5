/- The contract of the document's Look; there are at most seventy thousand entries, each of which may be. -/
import Derived.Test.YtopepalpmkeffaaDwo
import Derived.Test.YtopepalpmkeffaaKep
import Derived.Test.YtopepalpmkeffaaNew
import Derived.Test.YtopepalpmkeffaaGmv
import Derived.Test.YtopepalpmkeffaaDus
namespace Go.Proofs.Ytopepalpmkeffaa
open Go.RowKit Go.Sort Go.Maps Go.ChangeMaps Go.WideMaps
set_option linter.unusedVariables false
set_option linter.unusedSimpArgs false
def ozx : Obj := .cells #[.int .i64 0, .int .i64 0, .int .i64 0, .int .i64 0] 60
structure LkV (w : World) (c : Cf) (k : K) (V : World) : Prop where
  t : Touch [] w V
  hC : V.heap[w.heap.size]? = some (cbx c 31)
  hK : V.heap[w.heap.size + 1]? = some (kbx 57 k)
  hO : V.heap[w.heap.size + 1 + 1]? = some ozx
theorem LkV.mk' (w : World) (c : Cf) (k : K) : LkV w c k (((w.alloc (cbx c 31)).alloc (kbx 57 k)).alloc ozx) :=
  ⟨(((Touch.refl _ _).alloc _).alloc _).alloc _, (Below.heap_alloc _ _ _ (by simp; omega)).trans ((Below.heap_alloc _ _ _ (by simp)).trans (heap_alloc_new w _)), (Below.heap_alloc _ _ _ (by simp)).trans (by
    have := heap_alloc_new (w.alloc (cbx c 31)) (kbx 57 k)
    rwa [World.size_alloc] at this), by
    have := heap_alloc_new ((w.alloc (cbx c 31)).alloc (kbx 57 k)) ozx
    rwa [World.size_alloc, World.size_alloc] at this⟩
def lt3 (p : Int × Int × O) : Value := .tuple #[.int .i64 p.1, .int .i64 p.2.1, ov p.2.2]
set_option maxHeartbeats 1000000 in
theorem rlook57_no (w : World) (c : Cf) (v : Value) (xs : List En) (now : Int) (k : K) (hl : xs.length ≤ 70000) (h : RN 62 w v xs) (hk : ¬ k ∈ keysL xs) :
    Calls Try.prog 57 #[cv c, v, .int .i64 now, kv k] w fun e w' => e = .returned (lt3 (0, 0, oz)) ∧ Touch [] w w' := by
  obtain ⟨V, hV⟩ : ∃ V, V = ((w.alloc (cbx c 31)).alloc (kbx 57 k)).alloc ozx := ⟨_, rfl⟩
  have KV : LkV w c k V := by rw [hV]; exact LkV.mk' w c k
  have HF := hid (find31 V v xs k hl (h.keep KV.t))
  rw [pos_no hk] at HF
  have hO := KV.hO
  have HZ : Hid (∀ w2, Touch [] V w2 → w2.heap[w.heap.size + 1 + 1]? = some ozx) := fun w2 t => t.keep hO (by simp)
  have hK := KV.hK
  unfold kbx at hK
  have b0 : V.cell? ⟨w.heap.size + 1, 0, none⟩ = some (.int .u16 k.1) := by simp [World.cell?, hK]
  have b1 : V.cell? ⟨w.heap.size + 1, 1, none⟩ = some (.string k.2) := by simp [World.cell?, hK]
  have TV := hid KV.t
  obtain ⟨a, c', rfl, _⟩ := h
  clear KV hO hK hk
  unfold cv kv lt3 ov oz at *
  unfold ozx at HZ
  go_enter Try.func57, Try.ntmps57
  go_upto_region 1 with fail
  unfold cbx kbx ozx at hV
  rw [← hV]
  clear hV
  go_wp2_with (go_at_call 31; refine HF.out.mono ?_; rintro e w2 ⟨rfl, t2⟩; have T2 := hid t2; have hz := HZ.out _ t2; have z0 : w2.cell? ⟨w.heap.size + 1 + 1, 0, none⟩ = some (.int .i64 0) := (by simp [World.cell?, hz]); have z1 : w2.cell? ⟨w.heap.size + 1 + 1, 1, none⟩ = some (.int .i64 0) := (by simp [World.cell?, hz]); have z2 : w2.cell? ⟨w.heap.size + 1 + 1, 2, none⟩ = some (.int .i64 0) := (by simp [World.cell?, hz]); have z3 : w2.cell? ⟨w.heap.size + 1 + 1, 3, none⟩ = some (.int .i64 0) := (by simp [World.cell?, hz]); have f0 : ∀ i, w2.frozen? ⟨w.heap.size + 1 + 1, i, none⟩ = false := (fun i => by simp [World.frozen?, hz]); clear hz t2)
  refine bodyPost_ret (v := .tuple #[.int .i64 0, .int .i64 0, .agg #[.int .i64 0, .int .i64 0, .int .i64 0, .int .i64 0]]) (by simp [results, Try.results57, go_sem, z0, z1, z2, z3]) rfl ⟨rfl, ?_⟩
  refine (TV.out.trans' T2.out).trans (G := [w.heap.size + 1 + 1]) ?_ (fun i hi => by simp only [List.mem_singleton] at hi; subst hi; exact Or.inr (by omega))
  exact tset4 _ _ _ _ _ _
set_option maxHeartbeats 4000000 in
set_option maxRecDepth 100000 in
theorem rlook57_yes (w : World) (c : Cf) (v : Value) (xs : List En) (now : Int) (k : K) (i : Nat) (hi : i < xs.length) (hp : pos xs k = (i : Int)) (hl : xs.length ≤ 70000) (h : RN 62 w v xs)
    (hx : right xs[i].2.1 = true ∧ 0 ≤ xs[i].2.2 ∧ xs[i].2.2 ≤ now) (hn : now ≤ MT) (hc : okC c = true) (wc : c.t ≤ 9223372036854775807 ∧ c.n ≤ 9223372036854775807 ∧ c.s ≤ 9223372036854775807) :
    Calls Try.prog 57 #[cv c, v, .int .i64 now, kv k] w fun e w' => e = .returned (lt3 (howC c xs[i].2.1 (now - xs[i].2.2), now - xs[i].2.2, xs[i].2.1)) ∧ Touch [] w w' := by
  obtain ⟨V, hV⟩ : ∃ V, V = ((w.alloc (cbx c 31)).alloc (kbx 57 k)).alloc ozx := ⟨_, rfl⟩
  have KV : LkV w c k V := by rw [hV]; exact LkV.mk' w c k
  have HF := hid (find31 V v xs k hl (h.keep KV.t))
  rw [hp] at HF
  have hO := KV.hO
  have hK := KV.hK
  have hC := KV.hC
  unfold kbx at hK
  have b0 : V.cell? ⟨w.heap.size + 1, 0, none⟩ = some (.int .u16 k.1) := by simp [World.cell?, hK]
  have b1 : V.cell? ⟨w.heap.size + 1, 1, none⟩ = some (.string k.2) := by simp [World.cell?, hK]
  have TV := hid KV.t
  obtain ⟨a, cp, rfl, hcp, hg⟩ := h
  obtain ⟨g, off, rfl, hat⟩ := hg (by omega)
  have hgl : g < w.heap.size := by obtain ⟨cs, h1, _⟩ := hat; exact block_lt h1
  have hgV := KV.t.block g hgl (by simp)
  have HAt : Hid (∀ w' : World, w'.heap[g]? = w.heap[g]? → w'.cell? ⟨g, off + i * 7 + 2, none⟩ = some (.int .i64 xs[i].2.1.1) ∧ w'.cell? ⟨g, off + i * 7 + 2 + 1, none⟩ = some (.int .i64 xs[i].2.1.2.1) ∧ w'.cell? ⟨g, off + i * 7 + 2 + 2, none⟩ = some (.int .i64 xs[i].2.1.2.2.1) ∧ w'.cell? ⟨g, off + i * 7 + 2 + 3, none⟩ = some (.int .i64 xs[i].2.1.2.2.2) ∧ w'.cell? ⟨g, off + i * 7 + 6, none⟩ = some (.int .i64 xs[i].2.2)) := fun w' e => by
    have h2 := hat.keep e
    exact ⟨h2.cell i 2 hi (by omega) rfl, h2.cell i 3 hi (by omega) rfl, h2.cell i 4 hi (by omega) rfl, h2.cell i 5 hi (by omega) rfl, h2.cell i 6 hi (by omega) rfl⟩
  have HW := hid (fun w => rhow59 w c xs[i].2.1 (now - xs[i].2.2) hx.1 (by omega) (by unfold MT at hn; omega) hc wc)
  have hw : IntKind.i64.wrap (now - xs[i].2.2) = now - xs[i].2.2 := by unfold MT at hn; simp [IntKind.wrap, IntKind.bits, IntKind.signed, IntKind.min, IntKind.max]; omega
  obtain ⟨n, hnn⟩ : ∃ n, n = xs.length := ⟨_, rfl⟩
  rw [← hnn] at hi hl hcp ⊢
  have zi : (i : Int) < (n : Int) := by omega
  have zn : (n : Int) ≤ 70000 := by omega
  rw [← hnn] at HF
  clear hg hat hx hn hc wc hp hnn
  generalize xs[i] = x at *
  obtain ⟨hh, hhd⟩ : ∃ hh, hh = howC c x.2.1 (now - x.2.2) := ⟨_, rfl⟩
  rw [← hhd] at HW ⊢
  clear hhd
  unfold cv kv ov at *
  unfold lt3 ov
  simp only
  go_enter Try.func57, Try.ntmps57
  go_upto_region 1 with fail
  unfold cbx kbx ozx at hV
  rw [← hV]
  clear hV
  go_upto_region 4 with (go_at_call 31; refine HF.out.mono ?_; rintro e w2 ⟨rfl, t2⟩; have T2 := hid t2; clear t2)
  obtain ⟨y0, y1, y2, y3, y6⟩ := HAt.out w2 ((T2.out.block g (by have := TV.out.size; omega) (by simp)).trans hgV)
  go_upto_region 5 with fail
  have HS0 : Sr w2 (w.heap.size + 1 + 1) 60 4 w2 := Sr.mk' (T2.out.keep hO (by simp)) rfl
  have hC2 := T2.out.keep hC (by simp)
  have g2 : ∀ w', Sr w2 (w.heap.size + 1 + 1) 60 4 w' → w'.heap[g]? = w.heap[g]? := fun w' s => (s.tc.block g (by have := TV.out.size; have := T2.out.size; omega) (by simp; omega)).trans ((T2.out.block g (by have := TV.out.size; omega) (by simp)).trans hgV)
  have cA0 : ∀ w', Sr w2 (w.heap.size + 1 + 1) 60 4 w' → w'.cell? ⟨w.heap.size, 0, none⟩ = some (.int .i64 c.t) := fun w' s => (C7.mk' (s.keep hC2 (by omega))).c0
  have cA1 : ∀ w', Sr w2 (w.heap.size + 1 + 1) 60 4 w' → w'.cell? ⟨w.heap.size, 1, none⟩ = some (.int .i64 c.n) := fun w' s => (C7.mk' (s.keep hC2 (by omega))).c1
  have cA2 : ∀ w', Sr w2 (w.heap.size + 1 + 1) 60 4 w' → w'.cell? ⟨w.heap.size, 2, none⟩ = some (.int .i64 c.s) := fun w' s => (C7.mk' (s.keep hC2 (by omega))).c2
  have cA3 : ∀ w', Sr w2 (w.heap.size + 1 + 1) 60 4 w' → w'.cell? ⟨w.heap.size, 3, none⟩ = some (.int .i64 c.e) := fun w' s => (C7.mk' (s.keep hC2 (by omega))).c3
  have cA4 : ∀ w', Sr w2 (w.heap.size + 1 + 1) 60 4 w' → w'.cell? ⟨w.heap.size, 4, none⟩ = some (.int .i64 c.f) := fun w' s => (C7.mk' (s.keep hC2 (by omega))).c4
  have cA5 : ∀ w', Sr w2 (w.heap.size + 1 + 1) 60 4 w' → w'.cell? ⟨w.heap.size, 5, none⟩ = some (.int .i64 c.b) := fun w' s => (C7.mk' (s.keep hC2 (by omega))).c5
  have cA6 : ∀ w', Sr w2 (w.heap.size + 1 + 1) 60 4 w' → w'.cell? ⟨w.heap.size, 6, none⟩ = some (.int .i64 c.d) := fun w' s => (C7.mk' (s.keep hC2 (by omega))).c6
  have cE0 : ∀ w', Sr w2 (w.heap.size + 1 + 1) 60 4 w' → w'.cell? ⟨g, off + i * 7 + 2, none⟩ = some (.int .i64 x.2.1.1) := fun w' s => (HAt.out w' (g2 w' s)).1
  have cE1 : ∀ w', Sr w2 (w.heap.size + 1 + 1) 60 4 w' → w'.cell? ⟨g, off + i * 7 + 2 + 1, none⟩ = some (.int .i64 x.2.1.2.1) := fun w' s => (HAt.out w' (g2 w' s)).2.1
  have cE2 : ∀ w', Sr w2 (w.heap.size + 1 + 1) 60 4 w' → w'.cell? ⟨g, off + i * 7 + 2 + 2, none⟩ = some (.int .i64 x.2.1.2.2.1) := fun w' s => (HAt.out w' (g2 w' s)).2.2.1
  have cE3 : ∀ w', Sr w2 (w.heap.size + 1 + 1) 60 4 w' → w'.cell? ⟨g, off + i * 7 + 2 + 3, none⟩ = some (.int .i64 x.2.1.2.2.2) := fun w' s => (HAt.out w' (g2 w' s)).2.2.2.1
  have s0 := HS0.drew
  clear b0 b1 y0 y1 y2 y3 y6
  refine wp_region_H (S := fun w' => Sr w2 (w.heap.size + 1 + 1) 60 4 w') (by kernel_rfl) ?_
  refine wpH_take (i := 0) (v := (.agg #[.int .i64 c.t, .int .i64 c.n, .int .i64 c.s, .int .i64 c.e, .int .i64 c.f, .int .i64 c.b, .int .i64 c.d])) (some 26) rfl rfl (by kernel_rfl) (by kernel_rfl) (by kernel_rfl) (fun _ _ _ h => h) (Or.inl ⟨by rfl, fun w' hS => (by have z0 := cA0 _ hS; have z1 := cA1 _ hS; have z2 := cA2 _ hS; have z3 := cA3 _ hS; have z4 := cA4 _ hS; have z5 := cA5 _ hS; have z6 := cA6 _ hS; go_simp)⟩) s0 ?_
  try simp only [Go.Act.put, List.setIfInBounds_toArray, List.set_cons_zero, List.set_cons_succ]
  refine wpH_take (i := 1) (v := (.slice (some ⟨g, off, none⟩) n cp)) (some 27) rfl rfl (by kernel_rfl) (by kernel_rfl) (by kernel_rfl) (fun _ _ _ h => h) (Or.inl ⟨by rfl, fun w' hS => (by go_simp)⟩) s0 ?_
  try simp only [Go.Act.put, List.setIfInBounds_toArray, List.set_cons_zero, List.set_cons_succ]
  refine wpH_take (i := 2) (v := (.int .i64 (i : Int))) (some 28) rfl rfl (by kernel_rfl) (by kernel_rfl) (by kernel_rfl) (fun _ _ _ h => h) (Or.inl ⟨by rfl, fun w' hS => (by go_simp)⟩) s0 ?_
  try simp only [Go.Act.put, List.setIfInBounds_toArray, List.set_cons_zero, List.set_cons_succ]
  refine wpH_take (i := 3) (v := (.pointer (some ⟨g, off + i * 7, none⟩))) (some 29) rfl rfl (by kernel_rfl) (by kernel_rfl) (by kernel_rfl) (fun _ _ _ h => h) (Or.inl ⟨by rfl, fun w' hS => (by go_simp)⟩) s0 ?_
  try simp only [Go.Act.put, List.setIfInBounds_toArray, List.set_cons_zero, List.set_cons_succ]
  refine wpH_take (i := 4) (v := (.pointer (some ⟨g, off + i * 7 + 2, none⟩))) (some 30) rfl rfl (by kernel_rfl) (by kernel_rfl) (by kernel_rfl) (fun _ _ _ h => h) (Or.inl ⟨by rfl, fun w' hS => (by go_simp)⟩) s0 ?_
  try simp only [Go.Act.put, List.setIfInBounds_toArray, List.set_cons_zero, List.set_cons_succ]
  refine wpH_take (i := 5) (v := (.agg #[.int .i64 x.2.1.1, .int .i64 x.2.1.2.1, .int .i64 x.2.1.2.2.1, .int .i64 x.2.1.2.2.2])) (some 31) rfl rfl (by kernel_rfl) (by kernel_rfl) (by kernel_rfl) (fun _ _ _ h => h) (Or.inl ⟨by rfl, fun w' hS => (by have z0 := cE0 _ hS; have z1 := cE1 _ hS; have z2 := cE2 _ hS; have z3 := cE3 _ hS; go_simp)⟩) s0 ?_
  try simp only [Go.Act.put, List.setIfInBounds_toArray, List.set_cons_zero, List.set_cons_succ]
  refine wpH_take (i := 6) (v := (.int .i64 (now - x.2.2))) (some 32) rfl rfl (by kernel_rfl) (by kernel_rfl) (by kernel_rfl) (fun _ _ _ h => h) (Or.inl ⟨by rfl, fun w' hS => (by go_simp)⟩) s0 ?_
  try simp only [Go.Act.put, List.setIfInBounds_toArray, List.set_cons_zero, List.set_cons_succ]
  refine wpH_take (i := 8) (v := (.int .i64 (now - x.2.2))) (some 34) rfl rfl (by kernel_rfl) (by kernel_rfl) (by kernel_rfl) (fun _ _ _ h => h) (Or.inl ⟨by rfl, fun w' hS => (by go_simp)⟩) s0 ?_
  try simp only [Go.Act.put, List.setIfInBounds_toArray, List.set_cons_zero, List.set_cons_succ]
  refine wpH_take (i := 9) (v := (.slice (some ⟨g, off, none⟩) n cp)) (some 35) rfl rfl (by kernel_rfl) (by kernel_rfl) (by kernel_rfl) (fun _ _ _ h => h) (Or.inl ⟨by rfl, fun w' hS => (by go_simp)⟩) s0 ?_
  try simp only [Go.Act.put, List.setIfInBounds_toArray, List.set_cons_zero, List.set_cons_succ]
  refine wpH_take (i := 10) (v := (.int .i64 (i : Int))) (some 36) rfl rfl (by kernel_rfl) (by kernel_rfl) (by kernel_rfl) (fun _ _ _ h => h) (Or.inl ⟨by rfl, fun w' hS => (by go_simp)⟩) s0 ?_
  try simp only [Go.Act.put, List.setIfInBounds_toArray, List.set_cons_zero, List.set_cons_succ]
  refine wpH_take (i := 11) (v := (.pointer (some ⟨g, off + i * 7, none⟩))) (some 37) rfl rfl (by kernel_rfl) (by kernel_rfl) (by kernel_rfl) (fun _ _ _ h => h) (Or.inl ⟨by rfl, fun w' hS => (by go_simp)⟩) s0 ?_
  try simp only [Go.Act.put, List.setIfInBounds_toArray, List.set_cons_zero, List.set_cons_succ]
  refine wpH_take (i := 12) (v := (.pointer (some ⟨g, off + i * 7 + 2, none⟩))) (some 38) rfl rfl (by kernel_rfl) (by kernel_rfl) (by kernel_rfl) (fun _ _ _ h => h) (Or.inl ⟨by rfl, fun w' hS => (by go_simp)⟩) s0 ?_
  try simp only [Go.Act.put, List.setIfInBounds_toArray, List.set_cons_zero, List.set_cons_succ]
  refine wpH_take (i := 13) (v := (.agg #[.int .i64 x.2.1.1, .int .i64 x.2.1.2.1, .int .i64 x.2.1.2.2.1, .int .i64 x.2.1.2.2.2])) (some 39) rfl rfl (by kernel_rfl) (by kernel_rfl) (by kernel_rfl) (fun _ _ _ h => h) (Or.inl ⟨by rfl, fun w' hS => (by have z0 := cE0 _ hS; have z1 := cE1 _ hS; have z2 := cE2 _ hS; have z3 := cE3 _ hS; go_simp)⟩) s0 ?_
  try simp only [Go.Act.put, List.setIfInBounds_toArray, List.set_cons_zero, List.set_cons_succ]
  refine wpH_call (i := 7) (o := { dst := some 33, op := Op.call { callee := Callee.value (Operand.func 59), args := #[Operand.tmp 26, Operand.tmp 31, Operand.tmp 32], argTypes := #[31, 60, 2] }, type := 3, pos := _, after := #[{ on := 0, ground := Ground.data }, { on := 5, ground := Ground.data }, { on := 6, ground := Ground.data }], guard := none }) (by kernel_rfl) rfl (fun K' hK => ?_)
  rw [if_pos (by rfl)]
  go_simp
  refine (HW.out _).mono ?_
  rintro e w4 ⟨rfl, t4⟩
  have s1 := s0.go t4
  clear t4
  obtain ⟨q0, q1, q2, q3⟩ : w4.cell? ⟨w.heap.size + 1 + 1, 0, none⟩ = some (gc w4 (w.heap.size + 1 + 1) 0) ∧ w4.cell? ⟨w.heap.size + 1 + 1, 1, none⟩ = some (gc w4 (w.heap.size + 1 + 1) 1) ∧ w4.cell? ⟨w.heap.size + 1 + 1, 2, none⟩ = some (gc w4 (w.heap.size + 1 + 1) 2) ∧ w4.cell? ⟨w.heap.size + 1 + 1, 3, none⟩ = some (gc w4 (w.heap.size + 1 + 1) 3) := ⟨s1.cell 0 (by omega), s1.cell 1 (by omega), s1.cell 2 (by omega), s1.cell 3 (by omega)⟩
  have qf := fun i => s1.frozen i
  refine hK.out _ _ s1 ?_
  clear hK
  try simp only [Go.Act.put, List.setIfInBounds_toArray, List.set_cons_zero, List.set_cons_succ]
  refine wpH_take (i := 14) (v := (.int .i64 hh)) (some 8) rfl rfl (by kernel_rfl) (by kernel_rfl) (by kernel_rfl) (fun _ _ _ h => h) (Or.inl ⟨by rfl, fun w' hS => (by go_simp)⟩) s1 ?_
  try simp only [Go.Act.put, List.setIfInBounds_toArray, List.set_cons_zero, List.set_cons_succ]
  refine wpH_take (i := 15) (v := (.int .i64 (now - x.2.2))) (some 9) rfl rfl (by kernel_rfl) (by kernel_rfl) (by kernel_rfl) (fun _ _ _ h => h) (Or.inl ⟨by rfl, fun w' hS => (by go_simp)⟩) s1 ?_
  try simp only [Go.Act.put, List.setIfInBounds_toArray, List.set_cons_zero, List.set_cons_succ]
  refine wpH_call (i := 16) (o := { dst := none, op := Op.store 60 (Operand.tmp 10) (Operand.tmp 39), type := 0, pos := _, after := #[{ on := 13, ground := Ground.data }, { on := 15, ground := Ground.chain }, { on := 0, ground := Ground.phase }, { on := 1, ground := Ground.phase }, { on := 2, ground := Ground.phase }, { on := 3, ground := Ground.phase }, { on := 4, ground := Ground.phase }, { on := 5, ground := Ground.phase }, { on := 6, ground := Ground.phase }, { on := 7, ground := Ground.phase }, { on := 8, ground := Ground.phase }, { on := 9, ground := Ground.phase }, { on := 10, ground := Ground.phase }, { on := 11, ground := Ground.phase }, { on := 12, ground := Ground.phase }, { on := 13, ground := Ground.phase }, { on := 14, ground := Ground.phase }, { on := 15, ground := Ground.phase }], guard := none }) (by kernel_rfl) rfl (fun K' hK => ?_)
  rw [if_pos (by rfl)]
  go_simp
  refine hK.out _ _ (Sr.s4 s1 _ _ _ _) ?_
  clear hK
  try simp only [Go.Act.put, List.setIfInBounds_toArray, List.set_cons_zero, List.set_cons_succ]
  refine wpAnyH_done (by kernel_rfl) ?_ _
  have S1 := hid s1
  clear cA0 cA1 cA2 cA3 cA4 cA5 cA6 cE0 cE1 cE2 cE3 s0 s1 qf HS0 g2
  go_wp2
  refine bodyPost_ret (v := .tuple #[.int .i64 hh, .int .i64 (now - x.2.2), .agg #[.int .i64 x.2.1.1, .int .i64 x.2.1.2.1, .int .i64 x.2.1.2.2.1, .int .i64 x.2.1.2.2.2]]) (by simp [results, Try.results57, go_sem, q0, q1, q2, q3]) rfl ⟨rfl, ?_⟩
  refine (S1.out.new (TV.out.trans' T2.out) (by omega)).trans (G := [w.heap.size + 1 + 1]) ?_ (fun i hi => by simp only [List.mem_singleton] at hi; subst hi; exact Or.inr (by omega))
  exact tset4 _ _ _ _ _ _
theorem rlook57 (w : World) (c : Cf) (v : Value) (xs : List En) (now : Int) (k : K) (hl : xs.length ≤ 70000) (h : RN 62 w v xs) (hx : ∀ x ∈ xs, right x.2.1 = true ∧ 0 ≤ x.2.2 ∧ x.2.2 ≤ now) (hn : now ≤ MT) (hc : okC c = true) (wc : c.t ≤ 9223372036854775807 ∧ c.n ≤ 9223372036854775807 ∧ c.s ≤ 9223372036854775807) (hd : (keysL xs).Nodup) :
    Calls Try.prog 57 #[cv c, v, .int .i64 now, kv k] w fun e w' => e = .returned (lt3 (lookS c now xs k)) ∧ Touch [] w w' := by
  unfold lookS
  by_cases hk : k ∈ keysL xs
  · obtain ⟨i, hi, h1, h2, h3⟩ := pos_yes hk
    have hf := fnd_of_mem hd (List.getElem_mem hi)
    rw [h1] at hf
    rw [hf]
    exact rlook57_yes w c v xs now k i hi h3 hl h (hx _ (List.getElem_mem hi)) hn hc wc
  · rw [fnd_none hk]
    exact rlook57_no w c v xs now k hl h hk
end Go.Proofs.Ytopepalpmkeffaa
/- The contract of the law's look; no conditions but those that it states. -/
namespace Go.Proofs.Ytopepalpmkeffaa
open Go.RowKit Go.Sort Go.Maps Go.ChangeMaps Go.WideMaps
set_option linter.unusedVariables false
set_option linter.unusedSimpArgs false
def snx (p : Int × Int × O) : Obj := .cells #[.int .i64 p.1, .int .i64 p.2.1, .int .i64 p.2.2.1, .int .i64 p.2.2.2.1, .int .i64 p.2.2.2.2.1, .int .i64 p.2.2.2.2.2] 75
theorem snx_set {w : World} {D : Nat} {p : Int × Int × O} (h : w.heap[D]? = some (snx p)) (q : Int × Int × O) : ((((((w.setCell ⟨D, 0, none⟩ (.int .i64 q.1)).setCell ⟨D, 1, none⟩ (.int .i64 q.2.1)).setCell ⟨D, 2, none⟩ (.int .i64 q.2.2.1)).setCell ⟨D, 3, none⟩ (.int .i64 q.2.2.2.1)).setCell ⟨D, 4, none⟩ (.int .i64 q.2.2.2.2.1)).setCell ⟨D, 5, none⟩ (.int .i64 q.2.2.2.2.2)).heap[D]? = some (snx q) := bset (bset (bset (bset (bset (bset h _) _) _) _) _) _
def o4x (o : O) : Obj := .cells #[.int .i64 o.1, .int .i64 o.2.1, .int .i64 o.2.2.1, .int .i64 o.2.2.2] 60
/-- Behind Look or Tell: the seen in box D. -/
structure LkS (w : World) (m : Nat) (F : List Nat) (c : Cf) (a : ActM) (v : Value) (nw n2 : Int) (xs ys : List En) (D : Nat) (p : Int × Int × O) (wx : World) : Prop where
  pl : PlS w m F c a v nw n2 xs ys wx
  hD : wx.heap[D]? = some (snx p)
  lD : w.heap.size + 1 + 1 < D
theorem LkS.keep0 {w wx wy : World} {m : Nat} {F : List Nat} {c : Cf} {a : ActM} {v : Value} {nw n2 : Int} {xs ys : List En} {D : Nat} {p : Int × Int × O} (h : LkS w m F c a v nw n2 xs ys D p wx) (t : Touch [] wx wy) : LkS w m F c a v nw n2 xs ys D p wy := ⟨h.pl.keep0 t, t.keep h.hD (by simp), h.lD⟩
theorem o4x_set {w : World} {D : Nat} (h : w.heap[D]? = some ozx) (q : O) : ((((w.setCell ⟨D, 0, none⟩ (.int .i64 q.1)).setCell ⟨D, 1, none⟩ (.int .i64 q.2.1)).setCell ⟨D, 2, none⟩ (.int .i64 q.2.2.1)).setCell ⟨D, 3, none⟩ (.int .i64 q.2.2.2)).heap[D]? = some (o4x q) := bset (bset (bset (bset h _) _) _) _
theorem Touch.new4 {w wx : World} (t : Touch [] w wx) {D : Nat} (hD : w.heap.size ≤ D) (v0 v1 v2 v3 : Value) : Touch [] w ((((wx.setCell ⟨D, 0, none⟩ v0).setCell ⟨D, 1, none⟩ v1).setCell ⟨D, 2, none⟩ v2).setCell ⟨D, 3, none⟩ v3) := t.trans (G := [D]) (tset4 _ _ _ _ _ _) (fun i hi => by simp only [List.mem_singleton] at hi; subst hi; exact Or.inr hD)
/-- Behind the document's Look: its outcome in box G. -/
structure LgS (w : World) (m : Nat) (F : List Nat) (c : Cf) (a : ActM) (v : Value) (nw n2 : Int) (xs ys : List En) (D : Nat) (p : Int × Int × O) (G : Nat) (wx : World) : Prop where
  lk : LkS w m F c a v nw n2 xs ys D p wx
  hG : wx.heap[G]? = some (o4x p.2.2)
  lG : w.heap.size + 1 + 1 < G
theorem LgS.keep0 {w wx wy : World} {m : Nat} {F : List Nat} {c : Cf} {a : ActM} {v : Value} {nw n2 : Int} {xs ys : List En} {D : Nat} {p : Int × Int × O} {G : Nat} (h : LgS w m F c a v nw n2 xs ys D p G wx) (t : Touch [] wx wy) : LgS w m F c a v nw n2 xs ys D p G wy := ⟨h.lk.keep0 t, t.keep h.hG (by simp), h.lG⟩
theorem LgS.set8 {w wx : World} {m : Nat} {F : List Nat} {c : Cf} {a : ActM} {v : Value} {nw n2 n : Int} {xs ys : List En} {D : Nat} {p : Int × Int × O} {G : Nat} (h : LgS w m F c a v nw n2 xs ys D p G wx) (hF : ∀ k ∈ F, k < w.heap.size) : LgS w m F c a v n n2 xs ys D p G (wx.setCell ⟨w.heap.size, 8, none⟩ (.int .i64 n)) :=
  ⟨⟨h.lk.pl.set8 hF n, (Below.heap_setCell _ _ _ _ (by have := h.lk.lD; simp; omega)).trans h.lk.hD, h.lk.lD⟩, (Below.heap_setCell _ _ _ _ (by have := h.lG; simp; omega)).trans h.hG, h.lG⟩
theorem LgS.set7 {w wx : World} {m : Nat} {F : List Nat} {c : Cf} {a : ActM} {v u : Value} {nw n2 : Int} {xs ys zs : List En} {D : Nat} {p : Int × Int × O} {G : Nat} (h : LgS w m F c a v nw n2 xs ys D p G wx) (hF : ∀ k ∈ F, k < w.heap.size) (hu : RN 62 wx u zs) : LgS w m F c a u nw n2 zs ys D p G (wx.setCell ⟨w.heap.size, 7, none⟩ u) :=
  ⟨⟨h.lk.pl.set7 hF hu, (Below.heap_setCell _ _ _ _ (by have := h.lk.lD; simp; omega)).trans h.lk.hD, h.lk.lD⟩, (Below.heap_setCell _ _ _ _ (by have := h.lG; simp; omega)).trans h.hG, h.lG⟩
/-- A box of one's own that is none of the three is written. -/
theorem PlS.ownS {w wx wy : World} {m : Nat} {F : List Nat} {c : Cf} {a : ActM} {v : Value} {nw n2 : Int} {xs ys : List En} (h : PlS w m F c a v nw n2 xs ys wx) (hF : ∀ k ∈ F, k < w.heap.size) {r : Nat} {cs : Array Value} {ty : TypeId} (hr : wx.heap[r]? = some (.cells cs ty (0, 0))) (h1 : ty ≠ 129) (h2 : ty ≠ 146) (h3 : ty ≠ 93) (h4 : ty ≠ 62) (hw : w.heap.size ≤ r) (r0 : w.heap.size ≠ r) (r1 : w.heap.size + 1 ≠ r) (r2 : w.heap.size + 1 + 1 ≠ r) (t : Touch [r] wx wy) : PlS w m F c a v nw n2 xs ys wy := by
  obtain ⟨cs', k1, k2⟩ := h.bx.hR
  exact ⟨⟨t.keep h.bx.hA (by simpa using r0), t.keep h.bx.hB (by simpa using r1), cs', t.keep k1 (by simpa using r2), k2⟩, h.own hF hr h1 h2 h3 hw t, h.rns hr h4 t⟩
theorem askE_again {now n : Int} {k : K} : askE (askN now n k) n k = askE now n k := by
  unfold askN
  by_cases h : askE now n k = 0
  · rw [if_pos h, h]
    unfold askE tickE at *
    by_cases h1 : isT n = true
    · rw [if_pos h1] at *
      rw [if_neg (by omega : ¬ n < n)]
      by_cases h2 : n < now
      · rw [if_pos h2, if_neg (by decide)] at h; omega
      · rw [if_neg h2] at h; exact h
    · rw [if_neg h1, if_neg (by decide)] at h; omega
  · rw [if_neg h]
set_option maxHeartbeats 8000000 in
set_option maxRecDepth 100000 in
theorem look30 (w : World) (m : Nat) (F : List Nat) (c : Cf) (now : Int) (xs : List En) (v : Value) (a : ActM) (d : Bool) (h : Mq w m F c now xs) (hr : RN 62 w v xs) (ok : Ok a.k) : Calls Try.prog 30 #[PT m, mvv c v now, avv a, .bool d] w (PlQ w m F c) := by
  obtain ⟨a1, c1, rfl, hcp1, hg1⟩ := hr
  have hr : RN 62 w (.slice a1 xs.length c1) xs := ⟨a1, c1, rfl, hcp1, hg1⟩
  have HF := hid h.lt
  obtain ⟨V, hV⟩ : ∃ V, V = ((w.alloc (mbx c (.slice a1 xs.length c1) now)).alloc (abx a)).alloc mzx := ⟨_, rfl⟩
  have TV : Touch [] w V := by rw [hV]; exact (((Touch.refl _ _).alloc _).alloc _).alloc _
  have PV : Hid (PlS w m F c a (.slice a1 xs.length c1) now now xs xs V) := hid (PlS.start h hr (by rw [hV]; exact Bx.mk' w c a _ now) TV)
  have hsz : V.heap.size = w.heap.size + 1 + 1 + 1 := by rw [hV]; simp
  obtain ⟨n1, hn1⟩ : ∃ n1, n1 = xs.length := ⟨_, rfl⟩
  rw [← hn1] at PV hV ⊢
  have HA1 := hid (fun w => at34 w c a1 n1 c1 now a)
  obtain ⟨n, hn⟩ : ∃ n, n = atN now a := ⟨_, rfl⟩
  rw [← hn] at HA1
  have HN1 := hid hn1
  have HGd := hid (And.intro h.gd (And.intro h.nd h.len))
  clear hn hn1 hg1 hr h TV
  have C := PV.out.bx.cs
  obtain ⟨a0, a1', a2, a3, a4, a5, a6, a7, a8, b0, b1, b2, b3, b4, b5, b6, b7, b8, fA⟩ := C
  unfold mvv avv at HA1
  unfold mvv avv PT
  unfold mbx abx mzx at hV
  go_enter Try.func30, Try.ntmps30
  go_upto_region 1 with fail
  rw [← hV]
  clear hV
  go_upto_region 2 with (go_at_call 34; refine (HA1.out _).mono ?_; rintro e w1 ⟨rfl, t1⟩; have P1 := hid (PV.out.keep0 t1); have T1 := hid t1; clear t1)
  clear a0 a1' a2 a3 a4 a5 a6 a7 a8 b0 b1 b2 b3 b4 b5 b6 b7 b8 fA
  have HLk : Hid (Calls Try.prog 21 #[.pointer (some ⟨m, 0, none⟩), .int .i64 n, .agg #[.int .u16 a.k.1, .string a.k.2]] w1 fun e w' => e = .returned (.tuple #[lv (askR c now n xs a.k), .int .i64 (askE now n a.k)]) ∧ PlS w m F c a (.slice a1 n1 c1) now (askN now n a.k) xs xs w') := hid (P1.out.call (Q := fun e w' => e = .returned (.tuple #[lv (askR c now n xs a.k), .int .i64 (askE now n a.k)])) (N := fun _ => askN now n a.k) (Y := fun _ => xs) (fun F' q => lookM w1 m F' c now n xs q a.k ok))
  obtain ⟨b3, b4⟩ : w1.cell? ⟨w.heap.size + 1, 3, none⟩ = some (.int .u16 a.k.1) ∧ w1.cell? ⟨w.heap.size + 1, 4, none⟩ = some (.string a.k.2) := ⟨P1.out.bx.cs.b3, P1.out.bx.cs.b4⟩
  unfold lv sv at HLk
  have hz1 : w.heap.size + 1 + 1 < w1.heap.size := by have := T1.out.size; omega
  go_upto_if 28 with (go_at_call 21; refine HLk.out.mono ?_; rintro e w2 ⟨rfl, q2⟩; have P2 := hid q2; clear q2)
  clear b3 b4
  obtain ⟨W3, hW3⟩ : ∃ W3, W3 = w2.alloc (snx (askR c now n xs a.k)) := ⟨_, rfl⟩
  have L3 : Hid (LkS w m F c a (.slice a1 n1 c1) now (askN now n a.k) xs xs w2.heap.size (askR c now n xs a.k) W3) := hid ⟨P2.out.keep0 (by rw [hW3]; exact (Touch.refl _ _).alloc _), by rw [hW3]; exact heap_alloc_new _ _, by obtain ⟨F', q1, q2, q3⟩ := P2.out.mc; have := P2.out.bx.hR; obtain ⟨cs, k1, k2⟩ := this; exact block_lt k1⟩
  unfold snx at hW3
  rw [← hW3]
  clear hW3
  obtain ⟨D, hD⟩ : ∃ D, D = w2.heap.size := ⟨_, rfl⟩
  rw [← hD] at L3 ⊢
  clear hD
  have HV : Hid (d = false → (fun nw ys => ys = if d = true then tellX c nw n xs a.k else xs) now xs) := hid (fun e => by rw [e]; rfl)
  go_cut [12] from 29 to 39 (fun s12 wx => ∃ nw ys, s12 = .int .i64 (askE nw n a.k) ∧ Hid (LkS w m F c a (.slice a1 n1 c1) nw (askN nw n a.k) xs ys D (askR c nw n xs a.k) wx ∧ (ys = if d = true then tellX c nw n xs a.k else xs) ∧ Gd c nw xs ∧ (keysL xs).Nodup ∧ xs.length ≤ 65536))
  case first =>
    cases d with
    | false =>
      go_wp2_with fail
      go_meet
      case rel => exact ⟨now, xs, rfl, hid ⟨L3.out, rfl, HGd.out⟩⟩
    | true =>
      have C3 := L3.out.pl.bx.cs
      obtain ⟨nw, hnw⟩ : ∃ nw, nw = askN now n a.k := ⟨_, rfl⟩
      have HNw : Hid (∀ w', LkS w m F c a (.slice a1 n1 c1) now nw xs xs D (askR c now n xs a.k) w' → Calls Try.prog 26 #[.pointer (some ⟨m, 0, none⟩)] w' fun e w'' => e = .returned (.int .i64 nw) ∧ w'' = w') := hid (fun w' l => by obtain ⟨F', ⟨b, o, G, _, q⟩, _⟩ := l.pl.mc; exact now26 w' m c nw b o q.md)
      rw [← hnw] at L3
      have g8 := C3.a8
      have fA := C3.fA 8
      clear C3
      have L4 : Hid (LkS w m F c a (.slice a1 n1 c1) nw nw xs xs D (askR c now n xs a.k) (W3.setCell ⟨w.heap.size, 8, none⟩ (.int .i64 nw))) := hid ⟨L3.out.pl.set8 HF.out nw, (Below.heap_setCell _ _ _ _ (by have := L3.out.lD; simp; omega)).trans L3.out.hD, L3.out.lD⟩
      obtain ⟨W4, hW4⟩ : ∃ W4, W4 = W3.setCell ⟨w.heap.size, 8, none⟩ (.int .i64 nw) := ⟨_, rfl⟩
      rw [← hW4] at L4
      have HTl : Hid (Calls Try.prog 22 #[.pointer (some ⟨m, 0, none⟩), .int .i64 n, .agg #[.int .u16 a.k.1, .string a.k.2]] W4 fun e w' => e = .returned (.tuple #[lv (askR c nw n xs a.k), .int .i64 (askE nw n a.k)]) ∧ PlS w m F c a (.slice a1 n1 c1) nw (askN nw n a.k) xs (tellX c nw n xs a.k) w' ∧ w'.heap[D]? = some (snx (askR c now n xs a.k))) := hid (L4.out.pl.callB L4.out.hD (by decide) (by decide) (by decide) (Q := fun e w' => e = .returned (.tuple #[lv (askR c nw n xs a.k), .int .i64 (askE nw n a.k)])) (N := fun _ => askN nw n a.k) (Y := fun _ => tellX c nw n xs a.k) (fun F' q => tellM W4 m F' c nw n xs q a.k ok))
      obtain ⟨b3, b4⟩ : W4.cell? ⟨w.heap.size + 1, 3, none⟩ = some (.int .u16 a.k.1) ∧ W4.cell? ⟨w.heap.size + 1, 4, none⟩ = some (.string a.k.2) := ⟨L4.out.pl.bx.cs.b3, L4.out.pl.bx.cs.b4⟩
      have lD := L4.out.lD
      have HG4 := hid (And.intro L4.out.pl.gd (And.intro L4.out.pl.nd L4.out.pl.len))
      clear hnw
      unfold lv sv at HTl
      go_upto_region 5 with (go_at_call 26; refine (HNw.out _ L3.out).mono ?_; rintro e w4 ⟨rfl, e4⟩; rw [e4]; clear e4 w4)
      rw [← hW4]
      clear hW4 g8 fA
      go_wp2_with (go_at_call 22; refine HTl.out.mono ?_; rintro e w5 ⟨rfl, q5, k5⟩; have P5 := hid q5; have K5 := hid k5; unfold snx at k5; obtain ⟨z0, z1, z2, z3, z4, z5⟩ : w5.cell? ⟨D, 0, none⟩ = some (.int .i64 (askR c now n xs a.k).1) ∧ w5.cell? ⟨D, 1, none⟩ = some (.int .i64 (askR c now n xs a.k).2.1) ∧ w5.cell? ⟨D, 2, none⟩ = some (.int .i64 (askR c now n xs a.k).2.2.1) ∧ w5.cell? ⟨D, 3, none⟩ = some (.int .i64 (askR c now n xs a.k).2.2.2.1) ∧ w5.cell? ⟨D, 4, none⟩ = some (.int .i64 (askR c now n xs a.k).2.2.2.2.1) ∧ w5.cell? ⟨D, 5, none⟩ = some (.int .i64 (askR c now n xs a.k).2.2.2.2.2) := (by simp [World.cell?, k5]); have zf : ∀ i, w5.frozen? ⟨D, i, none⟩ = false := (fun i => by simp [World.frozen?, k5]); clear q5 k5)
      go_meet
      case rel =>
        refine ⟨nw, tellX c nw n xs a.k, rfl, hid ⟨⟨?_, snx_set K5.out _, lD⟩, rfl, HG4.out⟩⟩
        exact P5.out.ownS HF.out K5.out (by decide) (by decide) (by decide) (by decide) (by omega) (by omega) (by omega) (by omega) (tset6 _ _ _ _ _ _ _ _)
  case rest =>
    obtain ⟨nw, ys, rfl, HL0⟩ := hcut
    have HL : Hid (LkS w m F c a (.slice a1 n1 c1) nw (askN nw n a.k) xs ys D (askR c nw n xs a.k) wc) := hid HL0.out.1
    have HY : Hid (ys = if d = true then tellX c nw n xs a.k else xs) := hid HL0.out.2.1
    have HG : Hid (Gd c nw xs ∧ (keysL xs).Nodup ∧ xs.length ≤ 65536) := hid HL0.out.2.2
    clear HL0 HV L3 HGd P2 PV HA1 HLk P1 T1
    have HWr : Hid (∀ w', Calls Try.prog 35 #[mvv c (.slice a1 n1 c1) nw, .int .i64 n, .agg #[.int .u16 a.k.1, .string a.k.2]] w' fun e w'' => e = .returned (.int .i64 (askE nw n a.k)) ∧ Touch [] w' w'') := hid (fun w' => wrong35 w' c a1 n1 c1 nw n a.k ok.2)
    unfold mvv at HWr
    obtain ⟨er, her⟩ : ∃ er, er = askE nw n a.k := ⟨_, rfl⟩
    have HR : Hid (er = askE nw n a.k) := hid her
    rw [← her] at HWr ⊢
    clear her
    have C := HL.out.pl.bx.cs
    obtain ⟨a0, a1', a2, a3, a4, a5, a6, a7, a8, b0, b1, b2, b3, b4, b5, b6, b7, b8, fA⟩ := C
    go_upto_region 7 with (go_at_call 35; refine (HWr.out _).mono ?_; rintro e w6 ⟨rfl, t6⟩; have L6 := hid (HL.out.keep0 t6); clear t6)
    clear a0 a1' a2 a3 a4 a5 a6 a7 a8 b0 b1 b2 b3 b4 b5 b6 b7 b8 fA HWr HL
    by_cases hne : er ≠ 0
    · have L7 : Hid (LkS w m F c a (.slice a1 n1 c1) nw nw xs xs D (0, 0, oz) w6) := hid (by
        have h1 : askR c nw n xs a.k = (0, 0, oz) := by unfold askR; rw [if_neg (by rw [← HR.out]; exact hne)]
        have h2 : askN nw n a.k = nw := by unfold askN; rw [if_neg (by rw [← HR.out]; exact hne)]
        have h3 : ys = xs := by
          rw [HY.out]; unfold tellX; rw [h1]
          cases d <;> rfl
        have := L6.out
        rw [h1, h2, h3] at this
        exact this)
      go_upto_region 8 with fail
      have S0 := L7.out.pl.bx.sr
      have hD := L7.out.hD
      have lD := L7.out.lD
      unfold snx oz at hD
      have cA0 : ∀ w', Sr w6 (w.heap.size + 1 + 1) 36 9 w' → w'.cell? ⟨w.heap.size, 0, none⟩ = some (.int .i64 c.t) := fun w' s => (L7.out.pl.bx.under s).cs.a0
      have cA1 : ∀ w', Sr w6 (w.heap.size + 1 + 1) 36 9 w' → w'.cell? ⟨w.heap.size, 1, none⟩ = some (.int .i64 c.n) := fun w' s => (L7.out.pl.bx.under s).cs.a1
      have cA2 : ∀ w', Sr w6 (w.heap.size + 1 + 1) 36 9 w' → w'.cell? ⟨w.heap.size, 2, none⟩ = some (.int .i64 c.s) := fun w' s => (L7.out.pl.bx.under s).cs.a2
      have cA3 : ∀ w', Sr w6 (w.heap.size + 1 + 1) 36 9 w' → w'.cell? ⟨w.heap.size, 3, none⟩ = some (.int .i64 c.e) := fun w' s => (L7.out.pl.bx.under s).cs.a3
      have cA4 : ∀ w', Sr w6 (w.heap.size + 1 + 1) 36 9 w' → w'.cell? ⟨w.heap.size, 4, none⟩ = some (.int .i64 c.f) := fun w' s => (L7.out.pl.bx.under s).cs.a4
      have cA5 : ∀ w', Sr w6 (w.heap.size + 1 + 1) 36 9 w' → w'.cell? ⟨w.heap.size, 5, none⟩ = some (.int .i64 c.b) := fun w' s => (L7.out.pl.bx.under s).cs.a5
      have cA6 : ∀ w', Sr w6 (w.heap.size + 1 + 1) 36 9 w' → w'.cell? ⟨w.heap.size, 6, none⟩ = some (.int .i64 c.d) := fun w' s => (L7.out.pl.bx.under s).cs.a6
      have cA7 : ∀ w', Sr w6 (w.heap.size + 1 + 1) 36 9 w' → w'.cell? ⟨w.heap.size, 7, none⟩ = some (.slice a1 n1 c1) := fun w' s => (L7.out.pl.bx.under s).cs.a7
      have cA8 : ∀ w', Sr w6 (w.heap.size + 1 + 1) 36 9 w' → w'.cell? ⟨w.heap.size, 8, none⟩ = some (.int .i64 nw) := fun w' s => (L7.out.pl.bx.under s).cs.a8
      have cD0 : ∀ w', Sr w6 (w.heap.size + 1 + 1) 36 9 w' → w'.cell? ⟨D, 0, none⟩ = some (.int .i64 0) := fun w' s => by have := s.keep hD (by omega); simp [World.cell?, this]
      have cD1 : ∀ w', Sr w6 (w.heap.size + 1 + 1) 36 9 w' → w'.cell? ⟨D, 1, none⟩ = some (.int .i64 0) := fun w' s => by have := s.keep hD (by omega); simp [World.cell?, this]
      have cD2 : ∀ w', Sr w6 (w.heap.size + 1 + 1) 36 9 w' → w'.cell? ⟨D, 2, none⟩ = some (.int .i64 0) := fun w' s => by have := s.keep hD (by omega); simp [World.cell?, this]
      have cD3 : ∀ w', Sr w6 (w.heap.size + 1 + 1) 36 9 w' → w'.cell? ⟨D, 3, none⟩ = some (.int .i64 0) := fun w' s => by have := s.keep hD (by omega); simp [World.cell?, this]
      have cD4 : ∀ w', Sr w6 (w.heap.size + 1 + 1) 36 9 w' → w'.cell? ⟨D, 4, none⟩ = some (.int .i64 0) := fun w' s => by have := s.keep hD (by omega); simp [World.cell?, this]
      have cD5 : ∀ w', Sr w6 (w.heap.size + 1 + 1) 36 9 w' → w'.cell? ⟨D, 5, none⟩ = some (.int .i64 0) := fun w' s => by have := s.keep hD (by omega); simp [World.cell?, this]
      have s0 := S0.drew
      obtain ⟨q0, q1, q2, q3, q4, q5, q6, q7, q8⟩ : w6.cell? ⟨w.heap.size + 1 + 1, 0, none⟩ = some (gc w6 (w.heap.size + 1 + 1) 0) ∧ w6.cell? ⟨w.heap.size + 1 + 1, 1, none⟩ = some (gc w6 (w.heap.size + 1 + 1) 1) ∧ w6.cell? ⟨w.heap.size + 1 + 1, 2, none⟩ = some (gc w6 (w.heap.size + 1 + 1) 2) ∧ w6.cell? ⟨w.heap.size + 1 + 1, 3, none⟩ = some (gc w6 (w.heap.size + 1 + 1) 3) ∧ w6.cell? ⟨w.heap.size + 1 + 1, 4, none⟩ = some (gc w6 (w.heap.size + 1 + 1) 4) ∧ w6.cell? ⟨w.heap.size + 1 + 1, 5, none⟩ = some (gc w6 (w.heap.size + 1 + 1) 5) ∧ w6.cell? ⟨w.heap.size + 1 + 1, 6, none⟩ = some (gc w6 (w.heap.size + 1 + 1) 6) ∧ w6.cell? ⟨w.heap.size + 1 + 1, 7, none⟩ = some (gc w6 (w.heap.size + 1 + 1) 7) ∧ w6.cell? ⟨w.heap.size + 1 + 1, 8, none⟩ = some (gc w6 (w.heap.size + 1 + 1) 8) := ⟨S0.cell 0 (by omega), S0.cell 1 (by omega), S0.cell 2 (by omega), S0.cell 3 (by omega), S0.cell 4 (by omega), S0.cell 5 (by omega), S0.cell 6 (by omega), S0.cell 7 (by omega), S0.cell 8 (by omega)⟩
      have qf := fun i => S0.frozen i
      refine wp_region_H (S := fun w' => Sr w6 (w.heap.size + 1 + 1) 36 9 w') (by kernel_rfl) ?_
      refine wpH_take (i := 0) (v := (.agg #[.int .i64 c.t, .int .i64 c.n, .int .i64 c.s, .int .i64 c.e, .int .i64 c.f, .int .i64 c.b, .int .i64 c.d, .slice a1 n1 c1, .int .i64 nw])) (some 47) rfl rfl (by kernel_rfl) (by kernel_rfl) (by kernel_rfl) (fun _ _ _ h => h) (Or.inl ⟨by rfl, fun w' hS => (by have z0 := cA0 _ hS; have z1 := cA1 _ hS; have z2 := cA2 _ hS; have z3 := cA3 _ hS; have z4 := cA4 _ hS; have z5 := cA5 _ hS; have z6 := cA6 _ hS; have z7 := cA7 _ hS; have z8 := cA8 _ hS; go_simp)⟩) s0 ?_
      try simp only [Go.Act.put, List.setIfInBounds_toArray, List.set_cons_zero, List.set_cons_succ]
      refine wpH_take (i := 1) (v := (.agg #[.int .i64 0, .int .i64 0, .int .i64 0, .int .i64 0, .int .i64 0, .int .i64 0])) (some 48) rfl rfl (by kernel_rfl) (by kernel_rfl) (by kernel_rfl) (fun _ _ _ h => h) (Or.inl ⟨by rfl, fun w' hS => (by have z0 := cD0 _ hS; have z1 := cD1 _ hS; have z2 := cD2 _ hS; have z3 := cD3 _ hS; have z4 := cD4 _ hS; have z5 := cD5 _ hS; go_simp)⟩) s0 ?_
      try simp only [Go.Act.put, List.setIfInBounds_toArray, List.set_cons_zero, List.set_cons_succ]
      refine wpH_take (i := 2) (v := (.agg #[.int .i64 0, .int .i64 0, .int .i64 0, .int .i64 0, .int .i64 0, .int .i64 0])) (some 49) rfl rfl (by kernel_rfl) (by kernel_rfl) (by kernel_rfl) (fun _ _ _ h => h) (Or.inl ⟨by rfl, fun w' hS => (by go_simp)⟩) s0 ?_
      try simp only [Go.Act.put, List.setIfInBounds_toArray, List.set_cons_zero, List.set_cons_succ]
      refine wpH_take (i := 3) (v := (.bool true)) (some 50) rfl rfl (by kernel_rfl) (by kernel_rfl) (by kernel_rfl) (fun _ _ _ h => h) (Or.inl ⟨by rfl, fun w' hS => (by go_simp)⟩) s0 ?_
      try simp only [Go.Act.put, List.setIfInBounds_toArray, List.set_cons_zero, List.set_cons_succ]
      refine wpH_take (i := 4) (v := (.bool true)) (some 51) rfl rfl (by kernel_rfl) (by kernel_rfl) (by kernel_rfl) (fun _ _ _ h => h) (Or.inl ⟨by rfl, fun w' hS => (by go_simp)⟩) s0 ?_
      try simp only [Go.Act.put, List.setIfInBounds_toArray, List.set_cons_zero, List.set_cons_succ]
      refine wpH_take (i := 5) (v := (.int .i64 er)) (some 52) rfl rfl (by kernel_rfl) (by kernel_rfl) (by kernel_rfl) (fun _ _ _ h => h) (Or.inl ⟨by rfl, fun w' hS => (by go_simp)⟩) s0 ?_
      try simp only [Go.Act.put, List.setIfInBounds_toArray, List.set_cons_zero, List.set_cons_succ]
      refine wpH_take (i := 6) (v := (.int .i64 er)) (some 53) rfl rfl (by kernel_rfl) (by kernel_rfl) (by kernel_rfl) (fun _ _ _ h => h) (Or.inl ⟨by rfl, fun w' hS => (by go_simp)⟩) s0 ?_
      try simp only [Go.Act.put, List.setIfInBounds_toArray, List.set_cons_zero, List.set_cons_succ]
      refine wpH_take (i := 7) (v := (.bool true)) (some 54) rfl rfl (by kernel_rfl) (by kernel_rfl) (by kernel_rfl) (fun _ _ _ h => h) (Or.inl ⟨by rfl, fun w' hS => (by go_simp)⟩) s0 ?_
      try simp only [Go.Act.put, List.setIfInBounds_toArray, List.set_cons_zero, List.set_cons_succ]
      refine wpH_take (i := 8) (v := (.bool true)) (some 55) rfl rfl (by kernel_rfl) (by kernel_rfl) (by kernel_rfl) (fun _ _ _ h => h) (Or.inl ⟨by rfl, fun w' hS => (by go_simp)⟩) s0 ?_
      try simp only [Go.Act.put, List.setIfInBounds_toArray, List.set_cons_zero, List.set_cons_succ]
      refine wpH_call (i := 9) (o := { dst := none, op := Op.store 36 (Operand.tmp 8) (Operand.tmp 47), type := 0, pos := _, after := #[{ on := 0, ground := Ground.data }, { on := 4, ground := Ground.chain }, { on := 0, ground := Ground.phase }, { on := 1, ground := Ground.textOnly Departure.lateStores }, { on := 2, ground := Ground.textOnly Departure.lateStores }, { on := 3, ground := Ground.textOnly Departure.lateStores }, { on := 4, ground := Ground.textOnly Departure.lateStores }, { on := 5, ground := Ground.textOnly Departure.lateStores }, { on := 6, ground := Ground.textOnly Departure.lateStores }, { on := 7, ground := Ground.textOnly Departure.lateStores }, { on := 8, ground := Ground.textOnly Departure.lateStores }], guard := none }) (by kernel_rfl) rfl (fun K' hK => ?_)
      rw [if_pos (by rfl)]
      go_simp
      refine hK.out _ _ (Sr.drew (Sr.s9 S0 _ _ _ _ _ _ _ _ _)) ?_
      clear hK
      try simp only [Go.Act.put, List.setIfInBounds_toArray, List.set_cons_zero, List.set_cons_succ]
      refine wpH_take (i := 10) (v := (.bool true)) (some 9) rfl rfl (by kernel_rfl) (by kernel_rfl) (by kernel_rfl) (fun _ _ _ h => h) (Or.inl ⟨by rfl, fun w' hS => (by go_simp)⟩) (Sr.drew (Sr.s9 S0 _ _ _ _ _ _ _ _ _)) ?_
      try simp only [Go.Act.put, List.setIfInBounds_toArray, List.set_cons_zero, List.set_cons_succ]
      refine wpAnyH_done (by kernel_rfl) ?_ _
      have S1 := hid s0
      clear cA0 cA1 cA2 cA3 cA4 cA5 cA6 cA7 cA8 cD0 cD1 cD2 cD3 cD4 cD5 s0 qf S0
      go_wp2
      refine bodyPost_ret (v := .tuple #[.agg #[.int .i64 c.t, .int .i64 c.n, .int .i64 c.s, .int .i64 c.e, .int .i64 c.f, .int .i64 c.b, .int .i64 c.d, .slice a1 n1 c1, .int .i64 nw], .bool true]) (by simp [results, Try.results30, go_sem, q0, q1, q2, q3, q4, q5, q6, q7, q8]) rfl ?_
      exact ⟨a1, n1, c1, nw, xs, rfl, L7.out.pl.fin HF.out ((tset9 _ _ _ _ _ _ _ _ _ _ _).drew)⟩
    · obtain rfl : er = 0 := Classical.not_not.1 hne
      have HE : Hid (askE nw n a.k = 0) := hid HR.out.symm
      have HNn : Hid (nw ≤ n ∧ n ≤ MT) := hid (tickE_ok (by have := HE.out; unfold askE at this; by_cases h : tickE nw n = 0; exact h; rw [if_neg h] at this; exact this))
      have hHG := HG.out.1.later HNn.out.1 HNn.out.2
      obtain ⟨p, hp⟩ : ∃ p, p = lookS c n xs a.k := ⟨_, rfl⟩
      have h1 : askR c nw n xs a.k = p := by unfold askR; rw [if_pos HE.out]; exact hp.symm
      have HY2 : Hid (ys = if (d && isUse p.1) = true then useX xs a.k else xs) := hid (by
        rw [HY.out]; unfold tellX; rw [h1]
        cases d <;> rfl)
      have L7 : Hid (LkS w m F c a (.slice a1 n1 c1) nw n xs ys D p w6) := hid (by
        have h2 : askN nw n a.k = n := by unfold askN; rw [if_pos HE.out]
        have := L6.out
        rw [h1, h2] at this
        exact this)
      have HL57 : Hid (∀ w', Touch [] w6 w' → Calls Try.prog 57 #[.agg #[.int .i64 c.t, .int .i64 c.n, .int .i64 c.s, .int .i64 c.e, .int .i64 c.f, .int .i64 c.b, .int .i64 c.d], .slice a1 n1 c1, .int .i64 n, .agg #[.int .u16 a.k.1, .string a.k.2]] w' fun e w'' => e = .returned (.tuple #[.int .i64 p.1, .int .i64 p.2.1, .agg #[.int .i64 p.2.2.1, .int .i64 p.2.2.2.1, .int .i64 p.2.2.2.2.1, .int .i64 p.2.2.2.2.2]]) ∧ Touch [] w6 w'') := hid (fun w' t => (rlook57 w' c (.slice a1 n1 c1) xs n a.k (by have := HG.out.2.2; omega) (L7.out.pl.rn.keep t) hHG.ok hHG.n1 hHG.oc hHG.wc HG.out.2.1).mono (by
        rintro e w'' ⟨rfl, t2⟩
        rw [← hp]
        exact ⟨rfl, t.trans' t2⟩))
      have HK1 : Hid (Calls Try.prog 32 #[.agg #[.int .u16 a.k.1, .string a.k.2]] (w6.alloc ozx).drew fun e w'' => e = .returned (.agg #[.int .u16 a.k.1, .string a.k.2]) ∧ Touch [] w6 w'' ∧ w''.heap[w6.heap.size]? = some ozx) := hid ((key32 _ a.k).mono (by
        rintro e w'' ⟨rfl, t2⟩
        exact ⟨rfl, ((Touch.refl _ _).alloc _).drew.trans' t2, t2.keep (heap_alloc_new w6 ozx) (by simp)⟩))
      have HK2 : Hid (Calls Try.prog 32 #[.agg #[.int .u16 a.k.1, .string a.k.2]] w6.drew fun e w'' => e = .returned (.agg #[.int .u16 a.k.1, .string a.k.2]) ∧ Touch [] w6 w'') := hid ((key32 _ a.k).mono (by
        rintro e w'' ⟨rfl, t2⟩
        exact ⟨rfl, (Touch.refl _ _).drew.trans' t2⟩))
      have HM1 : Hid (∀ w', Touch [] w6 w' → w'.heap[w6.heap.size]? = some ozx → Calls Try.prog 57 #[.agg #[.int .i64 c.t, .int .i64 c.n, .int .i64 c.s, .int .i64 c.e, .int .i64 c.f, .int .i64 c.b, .int .i64 c.d], .slice a1 n1 c1, .int .i64 n, .agg #[.int .u16 a.k.1, .string a.k.2]] w' fun e w'' => e = .returned (.tuple #[.int .i64 p.1, .int .i64 p.2.1, .agg #[.int .i64 p.2.2.1, .int .i64 p.2.2.2.1, .int .i64 p.2.2.2.2.1, .int .i64 p.2.2.2.2.2]]) ∧ Touch [] w6 w'' ∧ w''.heap[w6.heap.size]? = some ozx) := hid (fun w' t hb => (rlook57 w' c (.slice a1 n1 c1) xs n a.k (by have := HG.out.2.2; omega) (L7.out.pl.rn.keep t) hHG.ok hHG.n1 hHG.oc hHG.wc HG.out.2.1).mono (by
        rintro e w'' ⟨rfl, t2⟩
        rw [← hp]
        exact ⟨rfl, t.trans' t2, t2.keep hb (by simp)⟩))
      have HM2 : Hid (∀ w', Touch [] w6 w' → Calls Try.prog 57 #[.agg #[.int .i64 c.t, .int .i64 c.n, .int .i64 c.s, .int .i64 c.e, .int .i64 c.f, .int .i64 c.b, .int .i64 c.d], .slice a1 n1 c1, .int .i64 n, .agg #[.int .u16 a.k.1, .string a.k.2]] (w'.alloc ozx) fun e w'' => e = .returned (.tuple #[.int .i64 p.1, .int .i64 p.2.1, .agg #[.int .i64 p.2.2.1, .int .i64 p.2.2.2.1, .int .i64 p.2.2.2.2.1, .int .i64 p.2.2.2.2.2]]) ∧ Touch [] w6 w'' ∧ w''.heap[w'.heap.size]? = some ozx) := hid (fun w' t => (rlook57 (w'.alloc ozx) c (.slice a1 n1 c1) xs n a.k (by have := HG.out.2.2; omega) (L7.out.pl.rn.keep (t.alloc _)) hHG.ok hHG.n1 hHG.oc hHG.wc HG.out.2.1).mono (by
        rintro e w'' ⟨rfl, t2⟩
        rw [← hp]
        exact ⟨rfl, (t.alloc _).trans' t2, t2.keep (heap_alloc_new w' ozx) (by simp)⟩))
      clear hHG hp h1 HE
      unfold ozx at HK1 HM1 HM2
      go_upto_region 9 with fail
      have sA0 : ∀ w', Touch [] w6 w' → w'.cell? ⟨w.heap.size, 0, none⟩ = some (.int .i64 c.t) := fun w' s => (L7.out.pl.bx.keep0 s).cs.a0
      have sA1 : ∀ w', Touch [] w6 w' → w'.cell? ⟨w.heap.size, 1, none⟩ = some (.int .i64 c.n) := fun w' s => (L7.out.pl.bx.keep0 s).cs.a1
      have sA2 : ∀ w', Touch [] w6 w' → w'.cell? ⟨w.heap.size, 2, none⟩ = some (.int .i64 c.s) := fun w' s => (L7.out.pl.bx.keep0 s).cs.a2
      have sA3 : ∀ w', Touch [] w6 w' → w'.cell? ⟨w.heap.size, 3, none⟩ = some (.int .i64 c.e) := fun w' s => (L7.out.pl.bx.keep0 s).cs.a3
      have sA4 : ∀ w', Touch [] w6 w' → w'.cell? ⟨w.heap.size, 4, none⟩ = some (.int .i64 c.f) := fun w' s => (L7.out.pl.bx.keep0 s).cs.a4
      have sA5 : ∀ w', Touch [] w6 w' → w'.cell? ⟨w.heap.size, 5, none⟩ = some (.int .i64 c.b) := fun w' s => (L7.out.pl.bx.keep0 s).cs.a5
      have sA6 : ∀ w', Touch [] w6 w' → w'.cell? ⟨w.heap.size, 6, none⟩ = some (.int .i64 c.d) := fun w' s => (L7.out.pl.bx.keep0 s).cs.a6
      have sA7 : ∀ w', Touch [] w6 w' → w'.cell? ⟨w.heap.size, 7, none⟩ = some (.slice a1 n1 c1) := fun w' s => (L7.out.pl.bx.keep0 s).cs.a7
      have sA8 : ∀ w', Touch [] w6 w' → w'.cell? ⟨w.heap.size, 8, none⟩ = some (.int .i64 nw) := fun w' s => (L7.out.pl.bx.keep0 s).cs.a8
      have sB3 : ∀ w', Touch [] w6 w' → w'.cell? ⟨w.heap.size + 1, 3, none⟩ = some (.int .u16 a.k.1) := fun w' s => (L7.out.pl.bx.keep0 s).cs.b3
      have sB4 : ∀ w', Touch [] w6 w' → w'.cell? ⟨w.heap.size + 1, 4, none⟩ = some (.string a.k.2) := fun w' s => (L7.out.pl.bx.keep0 s).cs.b4
      have t0 : Touch [] w6 w6.drew := (Touch.refl _ _).drew
      go_cut [14, 15, 16] from 56 to 68 (fun s14 s15 s16 wx => ∃ G, s14 = .int .i64 p.1 ∧ s15 = .int .i64 p.2.1 ∧ s16 = .pointer (some ⟨G, 0, none⟩) ∧ Hid (w6.heap.size ≤ G ∧ wx.heap[G]? = some (o4x p.2.2) ∧ Touch [] w6 wx))
      case first =>
        go_region_held3 (fun w' => Touch [] w6 w') (repeat (first | assumption | exact Touch.refl _ _ | apply Touch.alloc | apply Touch.drew | (refine Touch.setCell ?_ (Or.inr (by first | exact Nat.le_refl _ | exact t7.size | exact t8.size)) _)))
          (first
            | (go_at_call 32; refine HK1.out.mono ?_; rintro e w7 ⟨rfl, t7, g7⟩; have G7 := hid g7; clear g7)
            | (go_at_call 32; refine HK2.out.mono ?_; rintro e w7 ⟨rfl, t7⟩)
            | (go_at_call 57; refine (HM1.out _ t7 G7.out).mono ?_; rintro e w8 ⟨rfl, t8, g8⟩; have G8 := hid g8; obtain ⟨z0, z1, z2, z3⟩ : w8.cell? ⟨w6.heap.size, 0, none⟩ = some (.int .i64 0) ∧ w8.cell? ⟨w6.heap.size, 1, none⟩ = some (.int .i64 0) ∧ w8.cell? ⟨w6.heap.size, 2, none⟩ = some (.int .i64 0) ∧ w8.cell? ⟨w6.heap.size, 3, none⟩ = some (.int .i64 0) := (by simp [World.cell?, g8]); have zf : ∀ i, w8.frozen? ⟨w6.heap.size, i, none⟩ = false := (fun i => by simp [World.frozen?, g8]); clear g8)
            | (go_at_call 57; refine (HM2.out _ t7).mono ?_; rintro e w8 ⟨rfl, t8, g8⟩; have G8 := hid g8; obtain ⟨z0, z1, z2, z3⟩ : w8.cell? ⟨w7.heap.size, 0, none⟩ = some (.int .i64 0) ∧ w8.cell? ⟨w7.heap.size, 1, none⟩ = some (.int .i64 0) ∧ w8.cell? ⟨w7.heap.size, 2, none⟩ = some (.int .i64 0) ∧ w8.cell? ⟨w7.heap.size, 3, none⟩ = some (.int .i64 0) := (by simp [World.cell?, g8]); have zf : ∀ i, w8.frozen? ⟨w7.heap.size, i, none⟩ = false := (fun i => by simp [World.frozen?, g8]); clear g8)
            | (go_at_call 57; refine (HL57.out _ t7).mono ?_; rintro e w8 ⟨rfl, t8⟩))
        all_goals
          go_wp2_with fail
          go_meet
        case rel => exact ⟨_, rfl, rfl, rfl, hid ⟨t8.size, heap_alloc_new _ _, by assumption⟩⟩
        case rel => exact ⟨_, rfl, rfl, rfl, hid ⟨t7.size, o4x_set G8.out _, by assumption⟩⟩
        case rel => exact ⟨_, rfl, rfl, rfl, hid ⟨Nat.le_refl _, o4x_set G8.out _, by assumption⟩⟩
      case rest =>
        obtain ⟨G, rfl, rfl, rfl, HGG⟩ := hcut
        have L9 : Hid (LgS w m F c a (.slice a1 n1 c1) nw n xs ys D p G wc) := hid ⟨L7.out.keep0 HGG.out.2.2, HGG.out.2.1, by have := HGG.out.1; obtain ⟨cs, k1, _⟩ := L7.out.pl.bx.hR; have := block_lt k1; omega⟩
        clear HGG L7 sA0 sA1 sA2 sA3 sA4 sA5 sA6 sA7 sA8 sB3 sB4 t0 HK1 HK2 HM1 HM2 HL57 L6
        obtain ⟨W10, hW10⟩ : ∃ W10, W10 = wc.setCell ⟨w.heap.size, 8, none⟩ (.int .i64 n) := ⟨_, rfl⟩
        have L10 : Hid (LgS w m F c a (.slice a1 n1 c1) n n xs ys D p G W10) := hid (by rw [hW10]; exact L9.out.set8 HF.out)
        have a8 := L9.out.lk.pl.bx.cs.a8
        have fA := L9.out.lk.pl.bx.cs.fA 8
        go_upto_region 11 with fail
        rw [← hW10]
        clear hW10 a8 fA L9
        obtain ⟨uu, huu⟩ : ∃ uu, uu = (d && isUse p.1) := ⟨_, rfl⟩
        rw [← huu] at HY2
        have HU := hid huu
        clear huu
        go_cut [79] from 71 to 79 (fun s79 wx => s79 = .bool uu ∧ wx = W10)
        case first =>
          cases d with
          | false =>
            go_wp2_with fail
            go_meet
            case rel => exact ⟨by rw [HU.out]; rfl, rfl⟩
          | true =>
            by_cases h1 : p.1 = 1
            · have hb : (p.1 == 1) = true := by simp [h1]
              have H1 := hid h1
              clear h1
              go_wp2_with fail
              go_meet
              case rel => exact ⟨by rw [HU.out]; simp [isUse, H1.out], rfl⟩
            · have hb : (p.1 == 1) = false := by simp [h1]
              have H1 := hid h1
              clear h1
              by_cases h2 : p.1 = 2
              · have hb2 : (p.1 == 2) = true := by simp [h2]
                have H2 := hid h2
                clear h2
                go_wp2_with fail
                go_meet
                case rel => exact ⟨by rw [HU.out]; simp [isUse, H2.out], rfl⟩
              · have hb2 : (p.1 == 2) = false := by simp [h2]
                have H2 := hid h2
                clear h2
                go_wp2_with fail
                go_meet
                case rel => exact ⟨by rw [HU.out]; simp [isUse, H1.out, H2.out], rfl⟩
        case rest =>
          obtain ⟨rfl, rfl⟩ := hcut
          clear HU
          go_upto_if 79 with fail
          have HN2 := hid (And.intro HG.out.2.1 HG.out.2.2)
          clear HG HY HR HNn
          go_cut [] from 80 to 86 (fun wx => ∃ a2 n2 c2, Hid (LgS w m F c a (.slice a2 n2 c2) n n ys ys D p G wx))
          case first =>
            cases uu with
            | false =>
              go_wp2_with fail
              go_meet
              case rel => exact ⟨a1, n1, c1, hid (by have h := L10.out; have e := HY2.out; rw [if_neg (by simp)] at e; rw [e] at h ⊢; exact h)⟩
            | true =>
              go_upto_region 12 with fail
              have sA0 : ∀ w', Touch [] wc w' → w'.cell? ⟨w.heap.size, 0, none⟩ = some (.int .i64 c.t) := fun w' s => (L10.out.lk.pl.bx.keep0 s).cs.a0
              have sA1 : ∀ w', Touch [] wc w' → w'.cell? ⟨w.heap.size, 1, none⟩ = some (.int .i64 c.n) := fun w' s => (L10.out.lk.pl.bx.keep0 s).cs.a1
              have sA2 : ∀ w', Touch [] wc w' → w'.cell? ⟨w.heap.size, 2, none⟩ = some (.int .i64 c.s) := fun w' s => (L10.out.lk.pl.bx.keep0 s).cs.a2
              have sA3 : ∀ w', Touch [] wc w' → w'.cell? ⟨w.heap.size, 3, none⟩ = some (.int .i64 c.e) := fun w' s => (L10.out.lk.pl.bx.keep0 s).cs.a3
              have sA4 : ∀ w', Touch [] wc w' → w'.cell? ⟨w.heap.size, 4, none⟩ = some (.int .i64 c.f) := fun w' s => (L10.out.lk.pl.bx.keep0 s).cs.a4
              have sA5 : ∀ w', Touch [] wc w' → w'.cell? ⟨w.heap.size, 5, none⟩ = some (.int .i64 c.b) := fun w' s => (L10.out.lk.pl.bx.keep0 s).cs.a5
              have sA6 : ∀ w', Touch [] wc w' → w'.cell? ⟨w.heap.size, 6, none⟩ = some (.int .i64 c.d) := fun w' s => (L10.out.lk.pl.bx.keep0 s).cs.a6
              have sA7 : ∀ w', Touch [] wc w' → w'.cell? ⟨w.heap.size, 7, none⟩ = some (.slice a1 n1 c1) := fun w' s => (L10.out.lk.pl.bx.keep0 s).cs.a7
              have sA8 : ∀ w', Touch [] wc w' → w'.cell? ⟨w.heap.size, 8, none⟩ = some (.int .i64 n) := fun w' s => (L10.out.lk.pl.bx.keep0 s).cs.a8
              have sB3 : ∀ w', Touch [] wc w' → w'.cell? ⟨w.heap.size + 1, 3, none⟩ = some (.int .u16 a.k.1) := fun w' s => (L10.out.lk.pl.bx.keep0 s).cs.b3
              have sB4 : ∀ w', Touch [] wc w' → w'.cell? ⟨w.heap.size + 1, 4, none⟩ = some (.string a.k.2) := fun w' s => (L10.out.lk.pl.bx.keep0 s).cs.b4
              have HK := hid (fun w => key32 w a.k)
              unfold kv at HK
              have HS : Hid (∀ w', Touch [] wc w' → Calls Try.prog 58 #[.slice a1 n1 c1, .agg #[.int .u16 a.k.1, .string a.k.2]] w' fun e w'' => ∃ a2 n2 c2, e = .returned (.slice a2 n2 c2) ∧ RN 62 w'' (.slice a2 n2 c2) (useX xs a.k) ∧ Touch [] wc w'') := hid (fun w' t => (ruse58 w' (.slice a1 n1 c1) xs a.k (by have := HN2.out.2; omega) (L10.out.lk.pl.rn.keep t) HN2.out.1).mono (by
                rintro e w'' ⟨v', rfl, hv, t2⟩
                obtain ⟨a2, c2, rfl, k1, k2⟩ := hv
                exact ⟨a2, _, c2, rfl, ⟨a2, c2, rfl, k1, k2⟩, t.trans' t2⟩))
              have s0 : Touch [] wc wc.drew := (Touch.refl _ _).drew
              refine wp_region_L (S := fun w' => Touch [] wc w') (st := 7) (by kernel_rfl) ?_
              refine wpL_take (i := 0) (v := (.pointer (some ⟨w.heap.size, 7, none⟩))) (some 80) rfl rfl (by kernel_rfl) (by kernel_rfl) (by kernel_rfl) (by kernel_rfl) (by kernel_rfl) (by decide) (fun _ _ _ h => h) (Or.inl ⟨by rfl, fun w' hS => (by go_simp)⟩) s0 ?_
              try simp only [Go.Act.put, List.setIfInBounds_toArray, List.set_cons_zero, List.set_cons_succ]
              refine wpL_take (i := 1) (v := (.slice a1 n1 c1)) (some 81) rfl rfl (by kernel_rfl) (by kernel_rfl) (by kernel_rfl) (by kernel_rfl) (by kernel_rfl) (by decide) (fun _ _ _ h => h) (Or.inl ⟨by rfl, fun w' hS => (by have z0 := sA7 _ hS; go_simp)⟩) s0 ?_
              try simp only [Go.Act.put, List.setIfInBounds_toArray, List.set_cons_zero, List.set_cons_succ]
              refine wpL_take (i := 2) (v := (.pointer (some ⟨w.heap.size + 1, 3, none⟩))) (some 82) rfl rfl (by kernel_rfl) (by kernel_rfl) (by kernel_rfl) (by kernel_rfl) (by kernel_rfl) (by decide) (fun _ _ _ h => h) (Or.inl ⟨by rfl, fun w' hS => (by go_simp)⟩) s0 ?_
              try simp only [Go.Act.put, List.setIfInBounds_toArray, List.set_cons_zero, List.set_cons_succ]
              refine wpL_take (i := 3) (v := (.agg #[.int .u16 a.k.1, .string a.k.2])) (some 83) rfl rfl (by kernel_rfl) (by kernel_rfl) (by kernel_rfl) (by kernel_rfl) (by kernel_rfl) (by decide) (fun _ _ _ h => h) (Or.inl ⟨by rfl, fun w' hS => (by have z0 := sB3 _ hS; have z1 := sB4 _ hS; go_simp)⟩) s0 ?_
              try simp only [Go.Act.put, List.setIfInBounds_toArray, List.set_cons_zero, List.set_cons_succ]
              refine wpL_ready (rs := [4]) (by kernel_rfl) (by simp) (AllL.cons (o := { dst := some 84, op := Op.call { callee := Callee.value (Operand.func 32), args := #[Operand.tmp 83], argTypes := #[39] }, type := 57, pos := _, after := #[{ on := 3, ground := Ground.data }], guard := none }) rfl (fun K' hK => ?_) AllL.nil)
              rw [if_pos (by rfl)]
              go_simp
              refine (HK.out _).mono ?_
              rintro e w11 ⟨rfl, t11⟩
              have s1 : Touch [] wc w11 := s0.trans' t11
              clear t11
              refine hK.out _ _ (fun _ => s1) ?_
              clear hK
              try simp only [Go.Act.put, List.setIfInBounds_toArray, List.set_cons_zero, List.set_cons_succ]
              refine wpL_ready (rs := [5]) (by kernel_rfl) (by simp) (AllL.cons (o := { dst := some 85, op := Op.call { callee := Callee.value (Operand.func 58), args := #[Operand.tmp 81, Operand.tmp 84], argTypes := #[34, 57] }, type := 34, pos := _, after := #[{ on := 1, ground := Ground.data }, { on := 4, ground := Ground.data }, { on := 4, ground := Ground.chain }], guard := none }) rfl (fun K' hK => ?_) AllL.nil)
              rw [if_pos (by rfl)]
              go_simp
              refine (HS.out _ s1).mono ?_
              rintro e w12 ⟨a2, n2, c2, rfl, r12, s2⟩
              have R12 := hid r12
              have L12 := hid (L10.out.keep0 s2)
              clear r12
              have k7 := sA7 _ s2
              have kf : w12.frozen? ⟨w.heap.size, 7, none⟩ = false := L12.out.lk.pl.bx.cs.fA 7
              refine hK.out _ _ (fun _ => s2) ?_
              clear hK
              try simp only [Go.Act.put, List.setIfInBounds_toArray, List.set_cons_zero, List.set_cons_succ]
              refine wpL_take (i := 6) (v := (.pointer (some ⟨w.heap.size, 7, none⟩))) (some 86) rfl rfl (by kernel_rfl) (by kernel_rfl) (by kernel_rfl) (by kernel_rfl) (by kernel_rfl) (by decide) (fun _ _ _ h => h) (Or.inl ⟨by rfl, fun w' hS => (by go_simp)⟩) s2 ?_
              try simp only [Go.Act.put, List.setIfInBounds_toArray, List.set_cons_zero, List.set_cons_succ]
              refine wpL_ready (rs := [7]) (by kernel_rfl) (by simp) (AllL.cons (o := { dst := none, op := Op.store 34 (Operand.tmp 86) (Operand.tmp 85), type := 0, pos := _, after := #[{ on := 6, ground := Ground.data }, { on := 5, ground := Ground.data }, { on := 5, ground := Ground.chain }, { on := 0, ground := Ground.phase }, { on := 1, ground := Ground.phase }, { on := 2, ground := Ground.phase }, { on := 3, ground := Ground.phase }, { on := 4, ground := Ground.phase }, { on := 5, ground := Ground.phase }], guard := none }) rfl (fun K' hK => ?_) AllL.nil)
              rw [if_pos (by rfl)]
              go_simp
              refine hK.out _ _ (fun h => absurd h (by decide)) ?_
              clear hK
              try simp only [Go.Act.put, List.setIfInBounds_toArray, List.set_cons_zero, List.set_cons_succ]
              refine wpL_done (by kernel_rfl) ?_ _
              go_wp2_with fail
              go_meet
              case rel => exact ⟨a2, n2, c2, hid (by have h := L12.out.set7 HF.out R12.out; have e := HY2.out; rw [if_pos (by trivial)] at e; rw [← e] at h; exact h)⟩
          case rest =>
            obtain ⟨a2, n2, c2, L12⟩ := hcut
            clear HY2 L10 HN2
            go_upto_region 13 with fail
            have S0 := L12.out.lk.pl.bx.sr
            have hD := L12.out.lk.hD
            have lD := L12.out.lk.lD
            have hG := L12.out.hG
            have lG := L12.out.lG
            unfold snx at hD
            unfold o4x at hG
            have HO := hid (fun w => outcome42 w p.2.2)
            unfold ov at HO
            have cA0 : ∀ w', Sr wc (w.heap.size + 1 + 1) 36 9 w' → w'.cell? ⟨w.heap.size, 0, none⟩ = some (.int .i64 c.t) := fun w' s => (L12.out.lk.pl.bx.under s).cs.a0
            have cA1 : ∀ w', Sr wc (w.heap.size + 1 + 1) 36 9 w' → w'.cell? ⟨w.heap.size, 1, none⟩ = some (.int .i64 c.n) := fun w' s => (L12.out.lk.pl.bx.under s).cs.a1
            have cA2 : ∀ w', Sr wc (w.heap.size + 1 + 1) 36 9 w' → w'.cell? ⟨w.heap.size, 2, none⟩ = some (.int .i64 c.s) := fun w' s => (L12.out.lk.pl.bx.under s).cs.a2
            have cA3 : ∀ w', Sr wc (w.heap.size + 1 + 1) 36 9 w' → w'.cell? ⟨w.heap.size, 3, none⟩ = some (.int .i64 c.e) := fun w' s => (L12.out.lk.pl.bx.under s).cs.a3
            have cA4 : ∀ w', Sr wc (w.heap.size + 1 + 1) 36 9 w' → w'.cell? ⟨w.heap.size, 4, none⟩ = some (.int .i64 c.f) := fun w' s => (L12.out.lk.pl.bx.under s).cs.a4
            have cA5 : ∀ w', Sr wc (w.heap.size + 1 + 1) 36 9 w' → w'.cell? ⟨w.heap.size, 5, none⟩ = some (.int .i64 c.b) := fun w' s => (L12.out.lk.pl.bx.under s).cs.a5
            have cA6 : ∀ w', Sr wc (w.heap.size + 1 + 1) 36 9 w' → w'.cell? ⟨w.heap.size, 6, none⟩ = some (.int .i64 c.d) := fun w' s => (L12.out.lk.pl.bx.under s).cs.a6
            have cA7 : ∀ w', Sr wc (w.heap.size + 1 + 1) 36 9 w' → w'.cell? ⟨w.heap.size, 7, none⟩ = some (.slice a2 n2 c2) := fun w' s => (L12.out.lk.pl.bx.under s).cs.a7
            have cA8 : ∀ w', Sr wc (w.heap.size + 1 + 1) 36 9 w' → w'.cell? ⟨w.heap.size, 8, none⟩ = some (.int .i64 n) := fun w' s => (L12.out.lk.pl.bx.under s).cs.a8
            have cD0 : ∀ w', Sr wc (w.heap.size + 1 + 1) 36 9 w' → w'.cell? ⟨D, 0, none⟩ = some (.int .i64 p.1) := fun w' s => by have := s.keep hD (by omega); simp [World.cell?, this]
            have cD1 : ∀ w', Sr wc (w.heap.size + 1 + 1) 36 9 w' → w'.cell? ⟨D, 1, none⟩ = some (.int .i64 p.2.1) := fun w' s => by have := s.keep hD (by omega); simp [World.cell?, this]
            have cD2 : ∀ w', Sr wc (w.heap.size + 1 + 1) 36 9 w' → w'.cell? ⟨D, 2, none⟩ = some (.int .i64 p.2.2.1) := fun w' s => by have := s.keep hD (by omega); simp [World.cell?, this]
            have cD3 : ∀ w', Sr wc (w.heap.size + 1 + 1) 36 9 w' → w'.cell? ⟨D, 3, none⟩ = some (.int .i64 p.2.2.2.1) := fun w' s => by have := s.keep hD (by omega); simp [World.cell?, this]
            have cD4 : ∀ w', Sr wc (w.heap.size + 1 + 1) 36 9 w' → w'.cell? ⟨D, 4, none⟩ = some (.int .i64 p.2.2.2.2.1) := fun w' s => by have := s.keep hD (by omega); simp [World.cell?, this]
            have cD5 : ∀ w', Sr wc (w.heap.size + 1 + 1) 36 9 w' → w'.cell? ⟨D, 5, none⟩ = some (.int .i64 p.2.2.2.2.2) := fun w' s => by have := s.keep hD (by omega); simp [World.cell?, this]
            have cG0 : ∀ w', Sr wc (w.heap.size + 1 + 1) 36 9 w' → w'.cell? ⟨G, 0, none⟩ = some (.int .i64 p.2.2.1) := fun w' s => by have := s.keep hG (by omega); simp [World.cell?, this]
            have cG1 : ∀ w', Sr wc (w.heap.size + 1 + 1) 36 9 w' → w'.cell? ⟨G, 1, none⟩ = some (.int .i64 p.2.2.2.1) := fun w' s => by have := s.keep hG (by omega); simp [World.cell?, this]
            have cG2 : ∀ w', Sr wc (w.heap.size + 1 + 1) 36 9 w' → w'.cell? ⟨G, 2, none⟩ = some (.int .i64 p.2.2.2.2.1) := fun w' s => by have := s.keep hG (by omega); simp [World.cell?, this]
            have cG3 : ∀ w', Sr wc (w.heap.size + 1 + 1) 36 9 w' → w'.cell? ⟨G, 3, none⟩ = some (.int .i64 p.2.2.2.2.2) := fun w' s => by have := s.keep hG (by omega); simp [World.cell?, this]
            have s0 := S0.drew
            refine wp_region_H (S := fun w' => Sr wc (w.heap.size + 1 + 1) 36 9 w') (by kernel_rfl) ?_
            refine wpH_take (i := 0) (v := (.agg #[.int .i64 c.t, .int .i64 c.n, .int .i64 c.s, .int .i64 c.e, .int .i64 c.f, .int .i64 c.b, .int .i64 c.d, .slice a2 n2 c2, .int .i64 n])) (some 87) rfl rfl (by kernel_rfl) (by kernel_rfl) (by kernel_rfl) (fun _ _ _ h => h) (Or.inl ⟨by rfl, fun w' hS => (by have z0 := cA0 _ hS; have z1 := cA1 _ hS; have z2 := cA2 _ hS; have z3 := cA3 _ hS; have z4 := cA4 _ hS; have z5 := cA5 _ hS; have z6 := cA6 _ hS; have z7 := cA7 _ hS; have z8 := cA8 _ hS; go_simp)⟩) s0 ?_
            try simp only [Go.Act.put, List.setIfInBounds_toArray, List.set_cons_zero, List.set_cons_succ]
            refine wpH_take (i := 1) (v := (.int .i64 0)) (some 88) rfl rfl (by kernel_rfl) (by kernel_rfl) (by kernel_rfl) (fun _ _ _ h => h) (Or.inl ⟨by rfl, fun w' hS => (by go_simp)⟩) s0 ?_
            try simp only [Go.Act.put, List.setIfInBounds_toArray, List.set_cons_zero, List.set_cons_succ]
            refine wpH_take (i := 2) (v := (.bool true)) (some 89) rfl rfl (by kernel_rfl) (by kernel_rfl) (by kernel_rfl) (fun _ _ _ h => h) (Or.inl ⟨by rfl, fun w' hS => (by go_simp)⟩) s0 ?_
            try simp only [Go.Act.put, List.setIfInBounds_toArray, List.set_cons_zero, List.set_cons_succ]
            refine wpH_take (i := 3) (v := (.bool true)) (some 90) rfl rfl (by kernel_rfl) (by kernel_rfl) (by kernel_rfl) (fun _ _ _ h => h) (Or.inl ⟨by rfl, fun w' hS => (by go_simp)⟩) s0 ?_
            try simp only [Go.Act.put, List.setIfInBounds_toArray, List.set_cons_zero, List.set_cons_succ]
            refine wpH_take (i := 4) (v := (.pointer (some ⟨D, 0, none⟩))) (some 91) rfl rfl (by kernel_rfl) (by kernel_rfl) (by kernel_rfl) (fun _ _ _ h => h) (Or.inl ⟨by rfl, fun w' hS => (by go_simp)⟩) s0 ?_
            try simp only [Go.Act.put, List.setIfInBounds_toArray, List.set_cons_zero, List.set_cons_succ]
            refine wpH_take (i := 5) (v := (.int .i64 p.1)) (some 92) rfl rfl (by kernel_rfl) (by kernel_rfl) (by kernel_rfl) (fun _ _ _ h => h) (Or.inl ⟨by rfl, fun w' hS => (by have z0 := cD0 _ hS; go_simp)⟩) s0 ?_
            try simp only [Go.Act.put, List.setIfInBounds_toArray, List.set_cons_zero, List.set_cons_succ]
            refine wpH_take (i := 6) (v := (.int .i64 p.1)) (some 93) rfl rfl (by kernel_rfl) (by kernel_rfl) (by kernel_rfl) (fun _ _ _ h => h) (Or.inl ⟨by rfl, fun w' hS => (by go_simp)⟩) s0 ?_
            try simp only [Go.Act.put, List.setIfInBounds_toArray, List.set_cons_zero, List.set_cons_succ]
            refine wpH_take (i := 7) (v := (.bool true)) (some 94) rfl rfl (by kernel_rfl) (by kernel_rfl) (by kernel_rfl) (fun _ _ _ h => h) (Or.inl ⟨by rfl, fun w' hS => (by go_simp)⟩) s0 ?_
            try simp only [Go.Act.put, List.setIfInBounds_toArray, List.set_cons_zero, List.set_cons_succ]
            refine wpH_take (i := 8) (v := (.bool true)) (some 95) rfl rfl (by kernel_rfl) (by kernel_rfl) (by kernel_rfl) (fun _ _ _ h => h) (Or.inl ⟨by rfl, fun w' hS => (by go_simp)⟩) s0 ?_
            try simp only [Go.Act.put, List.setIfInBounds_toArray, List.set_cons_zero, List.set_cons_succ]
            refine wpH_take (i := 9) (v := (.bool true)) (some 96) rfl rfl (by kernel_rfl) (by kernel_rfl) (by kernel_rfl) (fun _ _ _ h => h) (Or.inl ⟨by rfl, fun w' hS => (by go_simp)⟩) s0 ?_
            try simp only [Go.Act.put, List.setIfInBounds_toArray, List.set_cons_zero, List.set_cons_succ]
            refine wpH_take (i := 10) (v := (.pointer (some ⟨D, 1, none⟩))) (some 97) rfl rfl (by kernel_rfl) (by kernel_rfl) (by kernel_rfl) (fun _ _ _ h => h) (Or.inl ⟨by rfl, fun w' hS => (by go_simp)⟩) s0 ?_
            try simp only [Go.Act.put, List.setIfInBounds_toArray, List.set_cons_zero, List.set_cons_succ]
            refine wpH_take (i := 11) (v := (.int .i64 p.2.1)) (some 98) rfl rfl (by kernel_rfl) (by kernel_rfl) (by kernel_rfl) (fun _ _ _ h => h) (Or.inl ⟨by rfl, fun w' hS => (by have z0 := cD1 _ hS; go_simp)⟩) s0 ?_
            try simp only [Go.Act.put, List.setIfInBounds_toArray, List.set_cons_zero, List.set_cons_succ]
            refine wpH_take (i := 12) (v := (.int .i64 p.2.1)) (some 99) rfl rfl (by kernel_rfl) (by kernel_rfl) (by kernel_rfl) (fun _ _ _ h => h) (Or.inl ⟨by rfl, fun w' hS => (by go_simp)⟩) s0 ?_
            try simp only [Go.Act.put, List.setIfInBounds_toArray, List.set_cons_zero, List.set_cons_succ]
            refine wpH_take (i := 13) (v := (.bool true)) (some 100) rfl rfl (by kernel_rfl) (by kernel_rfl) (by kernel_rfl) (fun _ _ _ h => h) (Or.inl ⟨by rfl, fun w' hS => (by go_simp)⟩) s0 ?_
            try simp only [Go.Act.put, List.setIfInBounds_toArray, List.set_cons_zero, List.set_cons_succ]
            refine wpH_take (i := 14) (v := (.bool true)) (some 101) rfl rfl (by kernel_rfl) (by kernel_rfl) (by kernel_rfl) (fun _ _ _ h => h) (Or.inl ⟨by rfl, fun w' hS => (by go_simp)⟩) s0 ?_
            try simp only [Go.Act.put, List.setIfInBounds_toArray, List.set_cons_zero, List.set_cons_succ]
            refine wpH_take (i := 15) (v := (.bool true)) (some 102) rfl rfl (by kernel_rfl) (by kernel_rfl) (by kernel_rfl) (fun _ _ _ h => h) (Or.inl ⟨by rfl, fun w' hS => (by go_simp)⟩) s0 ?_
            try simp only [Go.Act.put, List.setIfInBounds_toArray, List.set_cons_zero, List.set_cons_succ]
            refine wpH_take (i := 16) (v := (.pointer (some ⟨D, 2, none⟩))) (some 103) rfl rfl (by kernel_rfl) (by kernel_rfl) (by kernel_rfl) (fun _ _ _ h => h) (Or.inl ⟨by rfl, fun w' hS => (by go_simp)⟩) s0 ?_
            try simp only [Go.Act.put, List.setIfInBounds_toArray, List.set_cons_zero, List.set_cons_succ]
            refine wpH_take (i := 17) (v := (.agg #[.int .i64 p.2.2.1, .int .i64 p.2.2.2.1, .int .i64 p.2.2.2.2.1, .int .i64 p.2.2.2.2.2])) (some 104) rfl rfl (by kernel_rfl) (by kernel_rfl) (by kernel_rfl) (fun _ _ _ h => h) (Or.inl ⟨by rfl, fun w' hS => (by have z0 := cD2 _ hS; have z1 := cD3 _ hS; have z2 := cD4 _ hS; have z3 := cD5 _ hS; go_simp)⟩) s0 ?_
            try simp only [Go.Act.put, List.setIfInBounds_toArray, List.set_cons_zero, List.set_cons_succ]
            refine wpH_take (i := 19) (v := (.agg #[.int .i64 p.2.2.1, .int .i64 p.2.2.2.1, .int .i64 p.2.2.2.2.1, .int .i64 p.2.2.2.2.2])) (some 106) rfl rfl (by kernel_rfl) (by kernel_rfl) (by kernel_rfl) (fun _ _ _ h => h) (Or.inl ⟨by rfl, fun w' hS => (by have z0 := cG0 _ hS; have z1 := cG1 _ hS; have z2 := cG2 _ hS; have z3 := cG3 _ hS; go_simp)⟩) s0 ?_
            try simp only [Go.Act.put, List.setIfInBounds_toArray, List.set_cons_zero, List.set_cons_succ]
            refine wpH_call (i := 18) (o := { dst := some 105, op := Op.call { callee := Callee.value (Operand.func 42), args := #[Operand.tmp 104], argTypes := #[43] }, type := 60, pos := _, after := #[{ on := 17, ground := Ground.data }, { on := 15, ground := Ground.chain }, { on := 15, ground := Ground.guard }], guard := some (15, true) }) (by kernel_rfl) rfl (fun K' hK => ?_)
            rw [if_pos (by rfl)]
            go_simp
            refine (HO.out _).mono ?_
            rintro e w14 ⟨rfl, t14⟩
            have s1 := s0.go t14
            have TO : Hid (Touch [] wc w14) := hid ((Touch.refl _ _).drew.trans' t14)
            clear t14
            obtain ⟨q0, q1, q2, q3, q4, q5, q6, q7, q8⟩ : w14.cell? ⟨w.heap.size + 1 + 1, 0, none⟩ = some (gc w14 (w.heap.size + 1 + 1) 0) ∧ w14.cell? ⟨w.heap.size + 1 + 1, 1, none⟩ = some (gc w14 (w.heap.size + 1 + 1) 1) ∧ w14.cell? ⟨w.heap.size + 1 + 1, 2, none⟩ = some (gc w14 (w.heap.size + 1 + 1) 2) ∧ w14.cell? ⟨w.heap.size + 1 + 1, 3, none⟩ = some (gc w14 (w.heap.size + 1 + 1) 3) ∧ w14.cell? ⟨w.heap.size + 1 + 1, 4, none⟩ = some (gc w14 (w.heap.size + 1 + 1) 4) ∧ w14.cell? ⟨w.heap.size + 1 + 1, 5, none⟩ = some (gc w14 (w.heap.size + 1 + 1) 5) ∧ w14.cell? ⟨w.heap.size + 1 + 1, 6, none⟩ = some (gc w14 (w.heap.size + 1 + 1) 6) ∧ w14.cell? ⟨w.heap.size + 1 + 1, 7, none⟩ = some (gc w14 (w.heap.size + 1 + 1) 7) ∧ w14.cell? ⟨w.heap.size + 1 + 1, 8, none⟩ = some (gc w14 (w.heap.size + 1 + 1) 8) := ⟨s1.cell 0 (by omega), s1.cell 1 (by omega), s1.cell 2 (by omega), s1.cell 3 (by omega), s1.cell 4 (by omega), s1.cell 5 (by omega), s1.cell 6 (by omega), s1.cell 7 (by omega), s1.cell 8 (by omega)⟩
            have qf := fun i => s1.frozen i
            refine hK.out _ _ s1 ?_
            clear hK
            try simp only [Go.Act.put, List.setIfInBounds_toArray, List.set_cons_zero, List.set_cons_succ]
            refine wpH_take (i := 20) (v := (.bool true)) (some 107) rfl rfl (by kernel_rfl) (by kernel_rfl) (by kernel_rfl) (fun _ _ _ h => h) (Or.inl ⟨by rfl, fun w' hS => (by go_simp)⟩) s1 ?_
            try simp only [Go.Act.put, List.setIfInBounds_toArray, List.set_cons_zero, List.set_cons_succ]
            refine wpH_take (i := 21) (v := (.bool true)) (some 108) rfl rfl (by kernel_rfl) (by kernel_rfl) (by kernel_rfl) (fun _ _ _ h => h) (Or.inl ⟨by rfl, fun w' hS => (by go_simp)⟩) s1 ?_
            try simp only [Go.Act.put, List.setIfInBounds_toArray, List.set_cons_zero, List.set_cons_succ]
            refine wpH_call (i := 22) (o := { dst := none, op := Op.store 36 (Operand.tmp 8) (Operand.tmp 87), type := 0, pos := _, after := #[{ on := 0, ground := Ground.data }, { on := 18, ground := Ground.chain }, { on := 0, ground := Ground.phase }, { on := 1, ground := Ground.textOnly Departure.lateStores }, { on := 2, ground := Ground.textOnly Departure.lateStores }, { on := 3, ground := Ground.textOnly Departure.lateStores }, { on := 4, ground := Ground.textOnly Departure.lateStores }, { on := 5, ground := Ground.textOnly Departure.lateStores }, { on := 6, ground := Ground.textOnly Departure.lateStores }, { on := 7, ground := Ground.textOnly Departure.lateStores }, { on := 8, ground := Ground.textOnly Departure.lateStores }, { on := 9, ground := Ground.textOnly Departure.lateStores }, { on := 10, ground := Ground.textOnly Departure.lateStores }, { on := 11, ground := Ground.textOnly Departure.lateStores }, { on := 12, ground := Ground.textOnly Departure.lateStores }, { on := 13, ground := Ground.textOnly Departure.lateStores }, { on := 14, ground := Ground.textOnly Departure.lateStores }, { on := 15, ground := Ground.textOnly Departure.lateStores }, { on := 16, ground := Ground.textOnly Departure.lateStores }, { on := 17, ground := Ground.textOnly Departure.lateStores }, { on := 18, ground := Ground.textOnly Departure.lateStoresUnsure }, { on := 19, ground := Ground.textOnly Departure.lateStores }, { on := 20, ground := Ground.textOnly Departure.lateStores }, { on := 21, ground := Ground.textOnly Departure.lateStores }], guard := none }) (by kernel_rfl) rfl (fun K' hK => ?_)
            rw [if_pos (by rfl)]
            go_simp
            refine hK.out _ _ (Sr.s9 s1 _ _ _ _ _ _ _ _ _) ?_
            clear hK
            try simp only [Go.Act.put, List.setIfInBounds_toArray, List.set_cons_zero, List.set_cons_succ]
            refine wpH_take (i := 23) (v := (.bool true)) (some 9) rfl rfl (by kernel_rfl) (by kernel_rfl) (by kernel_rfl) (fun _ _ _ h => h) (Or.inl ⟨by rfl, fun w' hS => (by go_simp)⟩) (Sr.s9 s1 _ _ _ _ _ _ _ _ _) ?_
            try simp only [Go.Act.put, List.setIfInBounds_toArray, List.set_cons_zero, List.set_cons_succ]
            refine wpAnyH_done (by kernel_rfl) ?_ _
            have S1 := hid s1
            clear cA0 cA1 cA2 cA3 cA4 cA5 cA6 cA7 cA8 cD0 cD1 cD2 cD3 cD4 cD5 cG0 cG1 cG2 cG3 s0 s1 qf S0
            go_wp2
            refine bodyPost_ret (v := .tuple #[.agg #[.int .i64 c.t, .int .i64 c.n, .int .i64 c.s, .int .i64 c.e, .int .i64 c.f, .int .i64 c.b, .int .i64 c.d, .slice a2 n2 c2, .int .i64 n], .bool true]) (by simp [results, Try.results30, go_sem, q0, q1, q2, q3, q4, q5, q6, q7, q8]) rfl ?_
            exact ⟨a2, n2, c2, n, ys, rfl, (L12.out.lk.pl.keep0 TO.out).fin HF.out (tset9 _ _ _ _ _ _ _ _ _ _ _)⟩
end Go.Proofs.Ytopepalpmkeffaa
