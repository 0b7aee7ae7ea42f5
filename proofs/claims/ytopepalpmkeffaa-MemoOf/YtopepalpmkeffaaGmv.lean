/- The law's own small functions: at, wrong, given, keys; no conditions but those that each states. -/
import Derived.Test.YtopepalpmkeffaaDsw
import Derived.Test.YtopepalpmkeffaaOpa
import Derived.Test.YtopepalpmkeffaaTel
import Derived.Test.YtopepalpmkeffaaKep
namespace Go.Proofs.Ytopepalpmkeffaa
open Go.RowKit Go.Sort Go.Maps Go.ChangeMaps Go.WideMaps
set_option linter.unusedVariables false
set_option linter.unusedSimpArgs false
def mvv (c : Cf) (v : Value) (now : Int) : Value := .agg #[.int .i64 c.t, .int .i64 c.n, .int .i64 c.s, .int .i64 c.e, .int .i64 c.f, .int .i64 c.b, .int .i64 c.d, v, .int .i64 now]
def mbx (c : Cf) (v : Value) (now : Int) : Obj := .cells #[.int .i64 c.t, .int .i64 c.n, .int .i64 c.s, .int .i64 c.e, .int .i64 c.f, .int .i64 c.b, .int .i64 c.d, v, .int .i64 now] 36
def avv (a : ActM) : Value := .agg #[.int .i64 a.kd, .int .i64 a.st, .int .i64 a.od, .int .u16 a.k.1, .string a.k.2, .int .i64 a.o.1, .int .i64 a.o.2.1, .int .i64 a.o.2.2.1, .int .i64 a.o.2.2.2]
def abx (a : ActM) : Obj := .cells #[.int .i64 a.kd, .int .i64 a.st, .int .i64 a.od, .int .u16 a.k.1, .string a.k.2, .int .i64 a.o.1, .int .i64 a.o.2.1, .int .i64 a.o.2.2.1, .int .i64 a.o.2.2.2] 45
def atN (now : Int) (a : ActM) : Int := if a.od = 0 then wrap64 (now + a.st.tmod 64) else a.od
theorem at34 (w : World) (c : Cf) (a1 : Option Addr) (n1 c1 : Nat) (now : Int) (a : ActM) : Calls Try.prog 34 #[mvv c (.slice a1 n1 c1) now, avv a] w fun e w' => e = .returned (.int .i64 (atN now a)) ∧ Touch [] w w' := by
  unfold atN mvv avv
  by_cases h : a.od = 0
  · rw [if_pos h]
    have hb : (a.od == 0) = true := by simp [h]
    go_enter Try.func34, Try.ntmps34
    go_wp2
    go_ret
    exact ⟨rfl, ((Touch.refl _ _).alloc _).alloc _⟩
  · rw [if_neg h]
    have hb : (a.od == 0) = false := by simp [h]
    go_enter Try.func34, Try.ntmps34
    go_wp2
    go_ret
    exact ⟨rfl, ((Touch.refl _ _).alloc _).alloc _⟩
theorem wrong35 (w : World) (c : Cf) (a1 : Option Addr) (n1 c1 : Nat) (now n : Int) (k : K) (hs : k.2.size ≤ maxLen) : Calls Try.prog 35 #[mvv c (.slice a1 n1 c1) now, .int .i64 n, kv k] w fun e w' => e = .returned (.int .i64 (askE now n k)) ∧ Touch [] w w' := by
  unfold mvv kv
  by_cases h1 : n < 0
  · have e : askE now n k = 10 := by
      have : tickE now n = 10 := by unfold tickE isT; rw [if_neg (by simp; omega)]
      unfold askE
      rw [this]
      rfl
    rw [e]
    go_enter Try.func35, Try.ntmps35
    go_wp2
    go_ret
    exact ⟨rfl, ((Touch.refl _ _).alloc _).alloc _⟩
  · by_cases h2 : 4611686018427387904 < n
    · have e : askE now n k = 10 := by
        have : tickE now n = 10 := by unfold tickE isT; rw [if_neg (by simp; omega)]
        unfold askE
        rw [this]
        rfl
      rw [e]
      go_enter Try.func35, Try.ntmps35
      go_wp2
      go_ret
      exact ⟨rfl, ((Touch.refl _ _).alloc _).alloc _⟩
    · by_cases h3 : n < now
      · have e : askE now n k = 101 := by
          have : tickE now n = 101 := by unfold tickE isT; rw [if_pos (by simp; omega), if_pos h3]
          unfold askE
          rw [this]
          rfl
        rw [e]
        go_enter Try.func35, Try.ntmps35
        go_wp2
        go_ret
        exact ⟨rfl, ((Touch.refl _ _).alloc _).alloc _⟩
      · have e0 : tickE now n = 0 := by unfold tickE isT; rw [if_pos (by simp; omega), if_neg h3]
        by_cases h4 : 64 < k.2.size
        · have e : askE now n k = 20 := by unfold askE; rw [if_pos e0, if_pos h4]
          rw [e]
          have h4' : (64 : Int) < (k.2.size : Int) := by omega
          go_enter Try.func35, Try.ntmps35
          go_wp2
          go_ret
          exact ⟨rfl, ((Touch.refl _ _).alloc _).alloc _⟩
        · have e : askE now n k = 0 := by unfold askE; rw [if_pos e0, if_neg h4]
          rw [e]
          have h4' : ¬ (64 : Int) < (k.2.size : Int) := by omega
          go_enter Try.func35, Try.ntmps35
          go_wp2
          go_ret
          exact ⟨rfl, ((Touch.refl _ _).alloc _).alloc _⟩
set_option maxHeartbeats 2000000 in
set_option maxRecDepth 100000 in
theorem given16 (w : World) (x : En) : Calls Try.prog 16 #[nv x] w fun e w' => e = .returned (nv x) ∧ Touch [] w w' := by
  obtain ⟨V, hV⟩ : ∃ V, V = (w.alloc (.cells #[.int .u16 x.1.1, .string x.1.2, .int .i64 x.2.1.1, .int .i64 x.2.1.2.1, .int .i64 x.2.1.2.2.1, .int .i64 x.2.1.2.2.2, .int .i64 x.2.2] 56)).alloc (.cells #[.int .u16 0, .string ⟨#[]⟩, .int .i64 0, .int .i64 0, .int .i64 0, .int .i64 0, .int .i64 0] 62) := ⟨_, rfl⟩
  have TV : Hid (Touch [] w V) := by rw [hV]; exact ((Touch.refl _ _).alloc _).alloc _
  have hB : V.heap[w.heap.size]? = some (.cells #[.int .u16 x.1.1, .string x.1.2, .int .i64 x.2.1.1, .int .i64 x.2.1.2.1, .int .i64 x.2.1.2.2.1, .int .i64 x.2.1.2.2.2, .int .i64 x.2.2] 56 (0, 0)) := by rw [hV]; exact (Below.heap_alloc _ _ _ (by simp)).trans (heap_alloc_new w _)
  have hZ : V.heap[w.heap.size + 1]? = some (.cells #[.int .u16 0, .string ⟨#[]⟩, .int .i64 0, .int .i64 0, .int .i64 0, .int .i64 0, .int .i64 0] 62 (0, 0)) := by
    rw [hV]
    have := heap_alloc_new (w.alloc (.cells #[.int .u16 x.1.1, .string x.1.2, .int .i64 x.2.1.1, .int .i64 x.2.1.2.1, .int .i64 x.2.1.2.2.1, .int .i64 x.2.1.2.2.2, .int .i64 x.2.2] 56)) (.cells #[.int .u16 0, .string ⟨#[]⟩, .int .i64 0, .int .i64 0, .int .i64 0, .int .i64 0, .int .i64 0] 62)
    rwa [World.size_alloc] at this
  have c0 : ∀ w', Sr V (w.heap.size + 1) 62 7 w' → w'.cell? ⟨w.heap.size, 0, none⟩ = some (.int .u16 x.1.1) := fun w' t => by have := t.keep hB (by omega); simp [World.cell?, this]
  have c1 : ∀ w', Sr V (w.heap.size + 1) 62 7 w' → w'.cell? ⟨w.heap.size, 1, none⟩ = some (.string x.1.2) := fun w' t => by have := t.keep hB (by omega); simp [World.cell?, this]
  have c2 : ∀ w', Sr V (w.heap.size + 1) 62 7 w' → w'.cell? ⟨w.heap.size, 2, none⟩ = some (.int .i64 x.2.1.1) := fun w' t => by have := t.keep hB (by omega); simp [World.cell?, this]
  have c3 : ∀ w', Sr V (w.heap.size + 1) 62 7 w' → w'.cell? ⟨w.heap.size, 3, none⟩ = some (.int .i64 x.2.1.2.1) := fun w' t => by have := t.keep hB (by omega); simp [World.cell?, this]
  have c4 : ∀ w', Sr V (w.heap.size + 1) 62 7 w' → w'.cell? ⟨w.heap.size, 4, none⟩ = some (.int .i64 x.2.1.2.2.1) := fun w' t => by have := t.keep hB (by omega); simp [World.cell?, this]
  have c5 : ∀ w', Sr V (w.heap.size + 1) 62 7 w' → w'.cell? ⟨w.heap.size, 5, none⟩ = some (.int .i64 x.2.1.2.2.2) := fun w' t => by have := t.keep hB (by omega); simp [World.cell?, this]
  have c6 : ∀ w', Sr V (w.heap.size + 1) 62 7 w' → w'.cell? ⟨w.heap.size, 6, none⟩ = some (.int .i64 x.2.2) := fun w' t => by have := t.keep hB (by omega); simp [World.cell?, this]
  have HS0 : Sr V (w.heap.size + 1) 62 7 V := Sr.mk' hZ rfl
  have HK := fun w => key32 w x.1
  have HO := fun w => outcome42 w x.2.1
  clear hB hZ
  unfold nv
  unfold kv at HK
  unfold ov at HO
  go_enter Try.func16, Try.ntmps16
  go_upto_region 1 with fail
  rw [← hV]
  clear hV
  have s0 := HS0.drew
  refine wp_region_H (S := fun w' => Sr V (w.heap.size + 1) 62 7 w') (by kernel_rfl) ?_
  refine wpH_take (i := 0) (v := (.pointer (some ⟨w.heap.size, 0, none⟩))) (some 3) rfl rfl (by kernel_rfl) (by kernel_rfl) (by kernel_rfl) (fun _ _ _ h => h) (Or.inl ⟨by rfl, fun w' hS => (by go_simp)⟩) s0 ?_
  try simp only [Go.Act.put, List.setIfInBounds_toArray, List.set_cons_zero, List.set_cons_succ]
  refine wpH_take (i := 1) (v := (.agg #[.int .u16 x.1.1, .string x.1.2])) (some 4) rfl rfl (by kernel_rfl) (by kernel_rfl) (by kernel_rfl) (fun _ _ _ h => h) (Or.inl ⟨by rfl, fun w' hS => (by have z0 := c0 _ hS; have z1 := c1 _ hS; go_simp)⟩) s0 ?_
  try simp only [Go.Act.put, List.setIfInBounds_toArray, List.set_cons_zero, List.set_cons_succ]
  refine wpH_take (i := 3) (v := (.pointer (some ⟨w.heap.size, 2, none⟩))) (some 6) rfl rfl (by kernel_rfl) (by kernel_rfl) (by kernel_rfl) (fun _ _ _ h => h) (Or.inl ⟨by rfl, fun w' hS => (by go_simp)⟩) s0 ?_
  try simp only [Go.Act.put, List.setIfInBounds_toArray, List.set_cons_zero, List.set_cons_succ]
  refine wpH_take (i := 4) (v := (.agg #[.int .i64 x.2.1.1, .int .i64 x.2.1.2.1, .int .i64 x.2.1.2.2.1, .int .i64 x.2.1.2.2.2])) (some 7) rfl rfl (by kernel_rfl) (by kernel_rfl) (by kernel_rfl) (fun _ _ _ h => h) (Or.inl ⟨by rfl, fun w' hS => (by have z0 := c2 _ hS; have z1 := c3 _ hS; have z2 := c4 _ hS; have z3 := c5 _ hS; go_simp)⟩) s0 ?_
  try simp only [Go.Act.put, List.setIfInBounds_toArray, List.set_cons_zero, List.set_cons_succ]
  refine wpH_take (i := 6) (v := (.pointer (some ⟨w.heap.size, 6, none⟩))) (some 9) rfl rfl (by kernel_rfl) (by kernel_rfl) (by kernel_rfl) (fun _ _ _ h => h) (Or.inl ⟨by rfl, fun w' hS => (by go_simp)⟩) s0 ?_
  try simp only [Go.Act.put, List.setIfInBounds_toArray, List.set_cons_zero, List.set_cons_succ]
  refine wpH_take (i := 7) (v := (.int .i64 x.2.2)) (some 10) rfl rfl (by kernel_rfl) (by kernel_rfl) (by kernel_rfl) (fun _ _ _ h => h) (Or.inl ⟨by rfl, fun w' hS => (by have z0 := c6 _ hS; go_simp)⟩) s0 ?_
  try simp only [Go.Act.put, List.setIfInBounds_toArray, List.set_cons_zero, List.set_cons_succ]
  refine wpH_call (i := 2) (o := { dst := some 5, op := Op.call { callee := Callee.value (Operand.func 32), args := #[Operand.tmp 4], argTypes := #[39] }, type := 57, pos := _, after := #[{ on := 1, ground := Ground.data }], guard := none }) (by kernel_rfl) rfl (fun K' hK => ?_)
  rw [if_pos (by rfl)]
  go_simp
  refine (HK _).mono ?_
  rintro e w3 ⟨rfl, t3⟩
  have s1 := s0.go t3
  clear t3
  refine hK.out _ _ s1 ?_
  clear hK
  try simp only [Go.Act.put, List.setIfInBounds_toArray, List.set_cons_zero, List.set_cons_succ]
  refine wpH_call (i := 5) (o := { dst := some 8, op := Op.call { callee := Callee.value (Operand.func 42), args := #[Operand.tmp 7], argTypes := #[43] }, type := 60, pos := _, after := #[{ on := 4, ground := Ground.data }, { on := 2, ground := Ground.chain }], guard := none }) (by kernel_rfl) rfl (fun K' hK => ?_)
  rw [if_pos (by rfl)]
  go_simp
  refine (HO _).mono ?_
  rintro e w4 ⟨rfl, t4⟩
  have s2 := s1.go t4
  clear t4
  obtain ⟨q0, q1, q2, q3, q4, q5, q6⟩ : w4.cell? ⟨w.heap.size + 1, 0, none⟩ = some (gc w4 (w.heap.size + 1) 0) ∧ w4.cell? ⟨w.heap.size + 1, 1, none⟩ = some (gc w4 (w.heap.size + 1) 1) ∧ w4.cell? ⟨w.heap.size + 1, 2, none⟩ = some (gc w4 (w.heap.size + 1) 2) ∧ w4.cell? ⟨w.heap.size + 1, 3, none⟩ = some (gc w4 (w.heap.size + 1) 3) ∧ w4.cell? ⟨w.heap.size + 1, 4, none⟩ = some (gc w4 (w.heap.size + 1) 4) ∧ w4.cell? ⟨w.heap.size + 1, 5, none⟩ = some (gc w4 (w.heap.size + 1) 5) ∧ w4.cell? ⟨w.heap.size + 1, 6, none⟩ = some (gc w4 (w.heap.size + 1) 6) := ⟨s2.cell 0 (by omega), s2.cell 1 (by omega), s2.cell 2 (by omega), s2.cell 3 (by omega), s2.cell 4 (by omega), s2.cell 5 (by omega), s2.cell 6 (by omega)⟩
  have qf := fun i => s2.frozen i
  refine hK.out _ _ s2 ?_
  clear hK
  try simp only [Go.Act.put, List.setIfInBounds_toArray, List.set_cons_zero, List.set_cons_succ]
  refine wpH_take (i := 8) (v := (.agg #[.int .u16 x.1.1, .string x.1.2, .int .i64 x.2.1.1, .int .i64 x.2.1.2.1, .int .i64 x.2.1.2.2.1, .int .i64 x.2.1.2.2.2, .int .i64 x.2.2])) (some 11) rfl rfl (by kernel_rfl) (by kernel_rfl) (by kernel_rfl) (fun _ _ _ h => h) (Or.inl ⟨by rfl, fun w' hS => (by go_simp)⟩) s2 ?_
  try simp only [Go.Act.put, List.setIfInBounds_toArray, List.set_cons_zero, List.set_cons_succ]
  refine wpH_call (i := 9) (o := { dst := none, op := Op.store 62 (Operand.tmp 2) (Operand.tmp 11), type := 0, pos := _, after := #[{ on := 8, ground := Ground.data }, { on := 5, ground := Ground.chain }, { on := 0, ground := Ground.phase }, { on := 1, ground := Ground.phase }, { on := 2, ground := Ground.phase }, { on := 3, ground := Ground.phase }, { on := 4, ground := Ground.phase }, { on := 5, ground := Ground.phase }, { on := 6, ground := Ground.phase }, { on := 7, ground := Ground.phase }, { on := 8, ground := Ground.phase }], guard := none }) (by kernel_rfl) rfl (fun K' hK => ?_)
  rw [if_pos (by rfl)]
  go_simp
  refine hK.out _ _ (Sr.s7 s2 _ _ _ _ _ _ _) ?_
  clear hK
  try simp only [Go.Act.put, List.setIfInBounds_toArray, List.set_cons_zero, List.set_cons_succ]
  refine wpAnyH_done (by kernel_rfl) ?_ _
  have S1 := hid s2
  clear c0 c1 c2 c3 c4 c5 c6 s0 s1 s2 qf HS0
  go_wp2
  refine bodyPost_ret (v := .agg #[.int .u16 x.1.1, .string x.1.2, .int .i64 x.2.1.1, .int .i64 x.2.1.2.1, .int .i64 x.2.1.2.2.1, .int .i64 x.2.1.2.2.2, .int .i64 x.2.2]) (by simp [results, Try.results16, go_sem, q0, q1, q2, q3, q4, q5, q6]) rfl ⟨rfl, ?_⟩
  refine (S1.out.new TV.out (by omega)).trans (G := [w.heap.size + 1]) ?_ (fun i hi => by simp only [List.mem_singleton] at hi; subst hi; exact Or.inr (by omega))
  exact tset7 _ _ _ _ _ _ _ _ _
theorem RT.at0 {t : Nat} {w : World} {a : Option Addr} {cp : Nat} {xs : List K} (h : RT t w (.slice a xs.length cp) xs) (hp : 0 < xs.length) : ∃ g, a = some ⟨g, 0, none⟩ := by
  obtain ⟨a', c', e1, e2⟩ := h.form
  obtain ⟨g, hg⟩ := e2 0 hp
  simp only [Value.slice.injEq] at e1
  exact ⟨g, by rw [e1.1]; exact hg⟩
set_option maxHeartbeats 2000000 in
set_option maxRecDepth 100000 in
theorem keys37 (w : World) (u v : Value) (gs : List K) (hl : gs.length ≤ 70000) (h1 : RT 39 w u gs) (h2 : RT 57 w v gs) : Calls Try.prog 37 #[u, v] w fun e w' => e = .returned (.bool true) ∧ Touch [] w w' := by
  obtain ⟨a1, c1, rfl, hg1⟩ := h1.form
  obtain ⟨a2, c2, rfl, hg2⟩ := h2.form
  obtain ⟨n, hnn⟩ : ∃ n, n = gs.length := ⟨_, rfl⟩
  have HN := hid hnn
  have HG1 : Hid (0 < n → ∃ g, a1 = some ⟨g, 0, none⟩) := hid (fun hp => h1.at0 (by rw [← hnn]; exact hp))
  have HG2 : Hid (0 < n → ∃ g, a2 = some ⟨g, 0, none⟩) := hid (fun hp => h2.at0 (by rw [← hnn]; exact hp))
  have H1 := hid h1
  have H2 := hid h2
  have HQ := fun w x => neqk57 w x x
  clear hg1 hg2 h1 h2
  rw [← hnn] at hl ⊢
  clear hnn
  have zn : (n : Int) ≤ 70000 := by omega
  have zb : (n == n) = true := by simp
  go_enter Try.func37, Try.ntmps37
  go_upto_block 0 with fail
  go_wp2_with fail
  go_loopw [13] (fun s13 wr => ∃ (i : Nat), s13 = .int .i64 (i : Int) ∧ i ≤ n ∧ Hid (Touch [] w wr)) (fun s _ => n - (intOf s).toNat)
  case atStart => exact ⟨0, rfl, Nat.zero_le _, hid (Touch.refl _ _)⟩
  case round =>
    obtain ⟨i, rfl, hi, HT⟩ := hrel
    by_cases hlt : i < n
    · have zi : (i : Int) < (n : Int) := by omega
      have hig : i < gs.length := by rw [← HN.out]; exact hlt
      obtain ⟨g1, rfl⟩ := HG1.out (by omega)
      obtain ⟨g2, rfl⟩ := HG2.out (by omega)
      have sz : i + 1 ≤ n := hlt
      have HC1 : Hid (∀ w', Touch [] wr w' → w'.cell? ⟨g1, i * 2, none⟩ = some (.int .u16 gs[i].1) ∧ w'.cell? ⟨g1, i * 2 + 1, none⟩ = some (.string gs[i].2)) := hid (fun w' t => RT.cells (by exact H1.out.keep (HT.out.trans' t)) i hig)
      have HC2 : Hid (∀ w', Touch [] wr w' → w'.cell? ⟨g2, i * 2, none⟩ = some (.int .u16 gs[i].1) ∧ w'.cell? ⟨g2, i * 2 + 1, none⟩ = some (.string gs[i].2)) := hid (fun w' t => RT.cells (by exact H2.out.keep (HT.out.trans' t)) i hig)
      obtain ⟨k0, hk0⟩ : ∃ k0, k0 = gs[i] := ⟨_, rfl⟩
      rw [← hk0] at HC1 HC2
      clear hk0
      have p0 : ∀ w', Touch [] wr w' → w'.cell? ⟨g1, i * 2, none⟩ = some (.int .u16 k0.1) := fun w' t => (HC1.out w' t).1
      have p1 : ∀ w', Touch [] wr w' → w'.cell? ⟨g1, i * 2 + 1, none⟩ = some (.string k0.2) := fun w' t => (HC1.out w' t).2
      have p2 : ∀ w', Touch [] wr w' → w'.cell? ⟨g2, i * 2, none⟩ = some (.int .u16 k0.1) := fun w' t => (HC2.out w' t).1
      have p3 : ∀ w', Touch [] wr w' → w'.cell? ⟨g2, i * 2 + 1, none⟩ = some (.string k0.2) := fun w' t => (HC2.out w' t).2
      have HK := fun w => key32 w k0
      have HE : Hid (∀ w', (binOp .neq 57 (kv k0) (kv k0)).run Try.prog w' = .ok (.bool false) w') := hid (fun w' => by rw [neqk57]; simp)
      unfold kv at HK HE
      clear HQ
      go_upto_region 6 with fail
      have s0 : Touch [] wr wr.drew := (Touch.refl _ _).drew
      refine wp_region_H (S := fun w' => Touch [] wr w') (by kernel_rfl) ?_
      refine wpH_take (i := 0) (v := (.slice (some ⟨g1, 0, none⟩) n c1)) (some 16) rfl rfl (by kernel_rfl) (by kernel_rfl) (by kernel_rfl) (fun _ _ _ h => h) (Or.inl ⟨by rfl, fun w' hS => (by go_simp)⟩) s0 ?_
      try simp only [Go.Act.put, List.setIfInBounds_toArray, List.set_cons_zero, List.set_cons_succ]
      refine wpH_take (i := 1) (v := (.int .i64 (i : Int))) (some 17) rfl rfl (by kernel_rfl) (by kernel_rfl) (by kernel_rfl) (fun _ _ _ h => h) (Or.inl ⟨by rfl, fun w' hS => (by go_simp)⟩) s0 ?_
      try simp only [Go.Act.put, List.setIfInBounds_toArray, List.set_cons_zero, List.set_cons_succ]
      refine wpH_take (i := 2) (v := (.pointer (some ⟨g1, i * 2, none⟩))) (some 18) rfl rfl (by kernel_rfl) (by kernel_rfl) (by kernel_rfl) (fun _ _ _ h => h) (Or.inl ⟨by rfl, fun w' hS => (by go_simp)⟩) s0 ?_
      try simp only [Go.Act.put, List.setIfInBounds_toArray, List.set_cons_zero, List.set_cons_succ]
      refine wpH_take (i := 3) (v := (.agg #[.int .u16 k0.1, .string k0.2])) (some 19) rfl rfl (by kernel_rfl) (by kernel_rfl) (by kernel_rfl) (fun _ _ _ h => h) (Or.inl ⟨by rfl, fun w' hS => (by have z0 := p0 _ hS; have z1 := p1 _ hS; go_simp)⟩) s0 ?_
      try simp only [Go.Act.put, List.setIfInBounds_toArray, List.set_cons_zero, List.set_cons_succ]
      refine wpH_take (i := 5) (v := (.slice (some ⟨g2, 0, none⟩) n c2)) (some 21) rfl rfl (by kernel_rfl) (by kernel_rfl) (by kernel_rfl) (fun _ _ _ h => h) (Or.inl ⟨by rfl, fun w' hS => (by go_simp)⟩) s0 ?_
      try simp only [Go.Act.put, List.setIfInBounds_toArray, List.set_cons_zero, List.set_cons_succ]
      refine wpH_take (i := 6) (v := (.int .i64 (i : Int))) (some 22) rfl rfl (by kernel_rfl) (by kernel_rfl) (by kernel_rfl) (fun _ _ _ h => h) (Or.inl ⟨by rfl, fun w' hS => (by go_simp)⟩) s0 ?_
      try simp only [Go.Act.put, List.setIfInBounds_toArray, List.set_cons_zero, List.set_cons_succ]
      refine wpH_take (i := 7) (v := (.pointer (some ⟨g2, i * 2, none⟩))) (some 23) rfl rfl (by kernel_rfl) (by kernel_rfl) (by kernel_rfl) (fun _ _ _ h => h) (Or.inl ⟨by rfl, fun w' hS => (by go_simp)⟩) s0 ?_
      try simp only [Go.Act.put, List.setIfInBounds_toArray, List.set_cons_zero, List.set_cons_succ]
      refine wpH_take (i := 8) (v := (.agg #[.int .u16 k0.1, .string k0.2])) (some 24) rfl rfl (by kernel_rfl) (by kernel_rfl) (by kernel_rfl) (fun _ _ _ h => h) (Or.inl ⟨by rfl, fun w' hS => (by have z0 := p2 _ hS; have z1 := p3 _ hS; go_simp)⟩) s0 ?_
      try simp only [Go.Act.put, List.setIfInBounds_toArray, List.set_cons_zero, List.set_cons_succ]
      refine wpH_call (i := 4) (o := { dst := some 20, op := Op.call { callee := Callee.value (Operand.func 32), args := #[Operand.tmp 19], argTypes := #[39] }, type := 57, pos := _, after := #[{ on := 3, ground := Ground.data }], guard := none }) (by kernel_rfl) rfl (fun K' hK => ?_)
      rw [if_pos (by rfl)]
      go_simp
      refine (HK _).mono ?_
      rintro e w3 ⟨rfl, t3⟩
      have s1 := s0.trans' t3
      clear t3
      refine hK.out _ _ s1 ?_
      clear hK
      try simp only [Go.Act.put, List.setIfInBounds_toArray, List.set_cons_zero, List.set_cons_succ]
      refine wpH_take (i := 9) (v := (.bool false)) (some 25) rfl rfl (by kernel_rfl) (by kernel_rfl) (by kernel_rfl) (fun _ _ _ h => h) (Or.inl ⟨by rfl, fun w' hS => (by have z0 := HE.out w'; go_simp)⟩) s1 ?_
      try simp only [Go.Act.put, List.setIfInBounds_toArray, List.set_cons_zero, List.set_cons_succ]
      refine wpAnyH_done (by kernel_rfl) ?_ _
      have S1 := hid (HT.out.trans' s1)
      clear p0 p1 p2 p3 s0 s1 HC1 HC2
      go_wp2
      refine ⟨⟨i + 1, rfl, sz, S1⟩, ?_⟩
      simp only [intOf]
      omega
    · have zi : ¬ (i : Int) < (n : Int) := by omega
      go_wp2
      go_ret
      exact ⟨rfl, HT.out⟩
end Go.Proofs.Ytopepalpmkeffaa
/- Between the acts of the law: the boxes of a model and an act, the memo, the document's slice; what keeps them; no conditions. -/
namespace Go.Proofs.Ytopepalpmkeffaa
open Go.RowKit Go.Sort Go.Maps Go.ChangeMaps Go.WideMaps
set_option linter.unusedVariables false
set_option linter.unusedSimpArgs false
/-- What an act of the law answers: the model with true, and both stand as the same list at the same time. -/
def PlQ (w : World) (m : Nat) (F : List Nat) (c : Cf) (e : Ending) (w' : World) : Prop := ∃ a1 n1 c1 now2 ys, e = .returned (.tuple #[mvv c (.slice a1 n1 c1) now2, .bool true]) ∧ Mc w m F c now2 ys w' ∧ RN 62 w' (.slice a1 n1 c1) ys
theorem Mq.blk {w w' : World} {m : Nat} {F : List Nat} {c : Cf} {now : Int} {xs : List En} (h : Mq w m F c now xs) (t : Touch F w w') {k : Nat} {cs : Array Value} {ty : TypeId} {fr : Nat × Nat} (hc : w.heap[k]? = some (.cells cs ty fr)) (h1 : ty ≠ 129) (h2 : ty ≠ 146) (h3 : ty ≠ 93) : w'.heap[k]? = some (.cells cs ty fr) := t.keep hc (h.away hc h1 h2 h3)
theorem RN.mq {w w' : World} {m : Nat} {F : List Nat} {c : Cf} {now : Int} {xs ys : List En} {v : Value} (hr : RN 62 w v ys) (h : Mq w m F c now xs) (t : Touch F w w') : RN 62 w' v ys := hr.keepK (fun r cs hc => h.blk t hc (by decide) (by decide) (by decide))
theorem RN.set {w : World} {v : Value} {ys : List En} {k i : Nat} {u : Value} {cs : Array Value} {ty : TypeId} (hr : RN 62 w v ys) (hk : w.heap[k]? = some (.cells cs ty (0, 0))) (ht : ty ≠ 62) : RN 62 (w.setCell ⟨k, i, none⟩ u) v ys := hr.keepK (fun r cs' hc => by
  rw [Below.heap_setCell _ _ _ _ (fun e => by rw [e, hk] at hc; simp at hc; exact ht hc.2)]
  exact hc)
/-- The boxes of an act's walk: the model, the act, the answer. -/
structure Bx (w : World) (c : Cf) (a : ActM) (v : Value) (nw : Int) (wx : World) : Prop where
  hA : wx.heap[w.heap.size]? = some (mbx c v nw)
  hB : wx.heap[w.heap.size + 1]? = some (abx a)
  hR : ∃ cs : Array Value, wx.heap[w.heap.size + 1 + 1]? = some (.cells cs 36 (0, 0)) ∧ cs.size = 9
def mzx : Obj := .cells #[.int .i64 0, .int .i64 0, .int .i64 0, .int .i64 0, .int .i64 0, .int .i64 0, .int .i64 0, .slice none 0 0, .int .i64 0] 36
theorem Bx.mk' (w : World) (c : Cf) (a : ActM) (v : Value) (nw : Int) : Bx w c a v nw (((w.alloc (mbx c v nw)).alloc (abx a)).alloc mzx) :=
  ⟨(Below.heap_alloc _ _ _ (by simp; omega)).trans ((Below.heap_alloc _ _ _ (by simp)).trans (heap_alloc_new w _)), (Below.heap_alloc _ _ _ (by simp)).trans (by
    have := heap_alloc_new (w.alloc (mbx c v nw)) (abx a)
    rwa [World.size_alloc] at this), by
    have := heap_alloc_new ((w.alloc (mbx c v nw)).alloc (abx a)) mzx
    rw [World.size_alloc, World.size_alloc] at this
    exact ⟨_, this, rfl⟩⟩
section
variable {w wx wy : World} {c : Cf} {a : ActM} {v : Value} {nw : Int}
theorem Bx.keep0 (h : Bx w c a v nw wx) (t : Touch [] wx wy) : Bx w c a v nw wy := by
  obtain ⟨cs, h1, h2⟩ := h.hR
  exact ⟨t.keep h.hA (by simp), t.keep h.hB (by simp), cs, t.keep h1 (by simp), h2⟩
theorem Bx.mq {m : Nat} {F : List Nat} {now : Int} {xs : List En} {c' : Cf} (h : Bx w c a v nw wx) (q : Mq wx m F c' now xs) (t : Touch F wx wy) : Bx w c a v nw wy := by
  obtain ⟨cs, h1, h2⟩ := h.hR
  exact ⟨q.blk t h.hA (by decide) (by decide) (by decide), q.blk t h.hB (by decide) (by decide) (by decide), cs, q.blk t h1 (by decide) (by decide) (by decide), h2⟩
theorem Bx.sr (h : Bx w c a v nw wx) : Sr wx (w.heap.size + 1 + 1) 36 9 wx := by
  obtain ⟨cs, h1, h2⟩ := h.hR
  exact Sr.mk' h1 h2
theorem Bx.set8 (h : Bx w c a v nw wx) (n : Int) : Bx w c a v n (wx.setCell ⟨w.heap.size, 8, none⟩ (.int .i64 n)) := by
  obtain ⟨cs, h1, h2⟩ := h.hR
  exact ⟨bset h.hA _, (Below.heap_setCell _ _ _ _ (by simp)).trans h.hB, cs, (Below.heap_setCell _ _ _ _ (by simp; omega)).trans h1, h2⟩
theorem Bx.set7 (h : Bx w c a v nw wx) (u : Value) : Bx w c a u nw (wx.setCell ⟨w.heap.size, 7, none⟩ u) := by
  obtain ⟨cs, h1, h2⟩ := h.hR
  exact ⟨bset h.hA _, (Below.heap_setCell _ _ _ _ (by simp)).trans h.hB, cs, (Below.heap_setCell _ _ _ _ (by simp; omega)).trans h1, h2⟩
structure BxC (w : World) (c : Cf) (a : ActM) (v : Value) (nw : Int) (wx : World) : Prop where
  a0 : wx.cell? ⟨w.heap.size, 0, none⟩ = some (.int .i64 c.t)
  a1 : wx.cell? ⟨w.heap.size, 1, none⟩ = some (.int .i64 c.n)
  a2 : wx.cell? ⟨w.heap.size, 2, none⟩ = some (.int .i64 c.s)
  a3 : wx.cell? ⟨w.heap.size, 3, none⟩ = some (.int .i64 c.e)
  a4 : wx.cell? ⟨w.heap.size, 4, none⟩ = some (.int .i64 c.f)
  a5 : wx.cell? ⟨w.heap.size, 5, none⟩ = some (.int .i64 c.b)
  a6 : wx.cell? ⟨w.heap.size, 6, none⟩ = some (.int .i64 c.d)
  a7 : wx.cell? ⟨w.heap.size, 7, none⟩ = some v
  a8 : wx.cell? ⟨w.heap.size, 8, none⟩ = some (.int .i64 nw)
  b0 : wx.cell? ⟨w.heap.size + 1, 0, none⟩ = some (.int .i64 a.kd)
  b1 : wx.cell? ⟨w.heap.size + 1, 1, none⟩ = some (.int .i64 a.st)
  b2 : wx.cell? ⟨w.heap.size + 1, 2, none⟩ = some (.int .i64 a.od)
  b3 : wx.cell? ⟨w.heap.size + 1, 3, none⟩ = some (.int .u16 a.k.1)
  b4 : wx.cell? ⟨w.heap.size + 1, 4, none⟩ = some (.string a.k.2)
  b5 : wx.cell? ⟨w.heap.size + 1, 5, none⟩ = some (.int .i64 a.o.1)
  b6 : wx.cell? ⟨w.heap.size + 1, 6, none⟩ = some (.int .i64 a.o.2.1)
  b7 : wx.cell? ⟨w.heap.size + 1, 7, none⟩ = some (.int .i64 a.o.2.2.1)
  b8 : wx.cell? ⟨w.heap.size + 1, 8, none⟩ = some (.int .i64 a.o.2.2.2)
  fA : ∀ i, wx.frozen? ⟨w.heap.size, i, none⟩ = false
theorem Bx.cs (h : Bx w c a v nw wx) : BxC w c a v nw wx := by
  have hA := h.hA
  have hB := h.hB
  unfold mbx at hA
  unfold abx at hB
  constructor
  case fA => intro i; simp [World.frozen?, hA]
  all_goals simp [World.cell?, hA, hB]
/-- Under a store into the answer's box nothing else moves. -/
theorem Bx.under (h : Bx w c a v nw wx) (s : Sr wx (w.heap.size + 1 + 1) 36 9 wy) : Bx w c a v nw wy := by
  obtain ⟨cs, h1, h2⟩ := s.z
  exact ⟨s.keep h.hA (by omega), s.keep h.hB (by omega), cs, h1, h2⟩
end
/-- Between two steps of an act: the boxes, the memo, the document's slice. -/
structure PlS (w : World) (m : Nat) (F : List Nat) (c : Cf) (a : ActM) (v : Value) (nw n2 : Int) (xs ys : List En) (wx : World) : Prop where
  bx : Bx w c a v nw wx
  mc : Mc w m F c n2 ys wx
  rn : RN 62 wx v xs
section
variable {w wx wy : World} {m : Nat} {F : List Nat} {c : Cf} {a : ActM} {v : Value} {nw n2 : Int} {xs ys : List En}
theorem PlS.keep0 (h : PlS w m F c a v nw n2 xs ys wx) (t : Touch [] wx wy) : PlS w m F c a v nw n2 xs ys wy := ⟨h.bx.keep0 t, h.mc.keep0 t, h.rn.keep t⟩
theorem PlS.start {V : World} (h : Mq w m F c n2 xs) (hr : RN 62 w v xs) (hb : Bx w c a v n2 V) (t : Touch [] w V) : PlS w m F c a v n2 n2 xs xs V := ⟨hb, (Mc.refl h).keep0 t, hr.keep t⟩
/-- A call on the memo. -/
theorem PlS.call (h : PlS w m F c a v nw n2 xs ys wx) {f : Nat} {args : Array Value} {Q : Ending → World → Prop} {N : Ending → Int} {Y : Ending → List En}
    (hc : ∀ F', Mq wx m F' c n2 ys → Calls Try.prog f args wx fun e w' => Q e w' ∧ Mc wx m F' c (N e) (Y e) w') : Calls Try.prog f args wx fun e w' => Q e w' ∧ PlS w m F c a v nw (N e) xs (Y e) w' := by
  obtain ⟨F1, q, t1, f1⟩ := h.mc
  refine (hc F1 q).mono ?_
  rintro e w' ⟨hq, F2, q2, t2, f2⟩
  exact ⟨hq, h.bx.mq q t2, ⟨F2, q2, t1.trans t2 f1, f1.trans f2 t1.size⟩, h.rn.mq q t2⟩
theorem PlS.gd (h : PlS w m F c a v nw n2 xs ys wx) : Gd c n2 ys := by obtain ⟨F', q, _⟩ := h.mc; exact q.gd
theorem PlS.nd (h : PlS w m F c a v nw n2 xs ys wx) : (keysL ys).Nodup := by obtain ⟨F', q, _⟩ := h.mc; exact q.nd
theorem PlS.len (h : PlS w m F c a v nw n2 xs ys wx) : ys.length ≤ 65536 := by obtain ⟨F', q, _⟩ := h.mc; exact q.len
/-- A box of another kind stays where it is behind a call on the memo. -/
theorem PlS.callB (h : PlS w m F c a v nw n2 xs ys wx) {k : Nat} {cs : Array Value} {ty : TypeId} (hk : wx.heap[k]? = some (.cells cs ty (0, 0))) (h1 : ty ≠ 129) (h2 : ty ≠ 146) (h3 : ty ≠ 93) {f : Nat} {args : Array Value} {Q : Ending → World → Prop} {N : Ending → Int} {Y : Ending → List En}
    (hc : ∀ F', Mq wx m F' c n2 ys → Calls Try.prog f args wx fun e w' => Q e w' ∧ Mc wx m F' c (N e) (Y e) w') : Calls Try.prog f args wx fun e w' => Q e w' ∧ PlS w m F c a v nw (N e) xs (Y e) w' ∧ w'.heap[k]? = some (.cells cs ty (0, 0)) := by
  obtain ⟨F1, q, t1, f1⟩ := h.mc
  refine (hc F1 q).mono ?_
  rintro e w' ⟨hq, F2, q2, t2, f2⟩
  exact ⟨hq, ⟨h.bx.mq q t2, ⟨F2, q2, t1.trans t2 f1, f1.trans f2 t1.size⟩, h.rn.mq q t2⟩, q.blk t2 hk h1 h2 h3⟩
/-- A block of one's own is written. -/
theorem PlS.own (h : PlS w m F c a v nw n2 xs ys wx) (hF : ∀ k ∈ F, k < w.heap.size) {r : Nat} {cs : Array Value} {ty : TypeId} (hr : wx.heap[r]? = some (.cells cs ty (0, 0))) (h1 : ty ≠ 129) (h2 : ty ≠ 146) (h3 : ty ≠ 93) (hw : w.heap.size ≤ r) (t : Touch [r] wx wy) : Mc w m F c n2 ys wy := by
  obtain ⟨F1, q, t1, f1⟩ := h.mc
  have hn : ¬ r ∈ F1 := q.away hr h1 h2 h3
  exact ⟨F1, q.keep t (fun k hk hh => by simp only [List.mem_singleton] at hh; subst hh; exact hn hk), t1.trans t (fun i hi => by simp only [List.mem_singleton] at hi; subst hi; exact Or.inr hw), f1⟩
theorem PlS.rns (h : PlS w m F c a v nw n2 xs ys wx) {r : Nat} {cs : Array Value} {ty : TypeId} (hr : wx.heap[r]? = some (.cells cs ty (0, 0))) (h1 : ty ≠ 62) (t : Touch [r] wx wy) : RN 62 wy v xs := h.rn.keepK (fun k cs' hk => t.keep hk (fun hh => by simp only [List.mem_singleton] at hh; subst hh; rw [hr] at hk; simp at hk; exact h1 hk.2))
/-- The model's time is set. -/
theorem PlS.set8 (h : PlS w m F c a v nw n2 xs ys wx) (hF : ∀ k ∈ F, k < w.heap.size) (n : Int) : PlS w m F c a v n n2 xs ys (wx.setCell ⟨w.heap.size, 8, none⟩ (.int .i64 n)) := by
  have t : Touch [w.heap.size] wx (wx.setCell ⟨w.heap.size, 8, none⟩ (.int .i64 n)) := (Touch.refl _ _).setCell (Or.inl (by simp)) _
  exact ⟨h.bx.set8 n, h.own hF h.bx.hA (by decide) (by decide) (by decide) (Nat.le_refl _) t, h.rns h.bx.hA (by decide) t⟩
/-- The model's slice is set. -/
theorem PlS.set7 (h : PlS w m F c a v nw n2 xs ys wx) (hF : ∀ k ∈ F, k < w.heap.size) {u : Value} {zs : List En} (hu : RN 62 wx u zs) : PlS w m F c a u nw n2 zs ys (wx.setCell ⟨w.heap.size, 7, none⟩ u) := by
  have t : Touch [w.heap.size] wx (wx.setCell ⟨w.heap.size, 7, none⟩ u) := (Touch.refl _ _).setCell (Or.inl (by simp)) _
  exact ⟨h.bx.set7 u, h.own hF h.bx.hA (by decide) (by decide) (by decide) (Nat.le_refl _) t, hu.set h.bx.hA (by decide)⟩
/-- The answer is written: what the act leaves. -/
theorem PlS.fin (h : PlS w m F c a v n2 n2 ys ys wx) (hF : ∀ k ∈ F, k < w.heap.size) (t : Touch [w.heap.size + 1 + 1] wx wy) : Mc w m F c n2 ys wy ∧ RN 62 wy v ys := by
  obtain ⟨cs, h1, h2⟩ := h.bx.hR
  exact ⟨h.own hF h1 (by decide) (by decide) (by decide) (by omega) t, h.rns h1 (by decide) t⟩
end
end Go.Proofs.Ytopepalpmkeffaa
