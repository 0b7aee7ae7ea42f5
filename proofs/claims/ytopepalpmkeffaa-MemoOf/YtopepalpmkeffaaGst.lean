/- What the law's stands wants: the copy of all entries as it is worked down, equality of entries; no conditions. -/
import Derived.Test.YtopepalpmkeffaaGmv
import Derived.Test.YtopepalpmkeffaaGet
namespace Go.Proofs.Ytopepalpmkeffaa
open Go.RowKit Go.Sort Go.Maps Go.ChangeMaps Go.WideMaps
set_option linter.unusedVariables false
set_option linter.unusedSimpArgs false
theorem neq62 (w : World) (x : En) : (binOp .neq 62 (.agg #[.int .u16 x.1.1, .string x.1.2, .int .i64 x.2.1.1, .int .i64 x.2.1.2.1, .int .i64 x.2.1.2.2.1, .int .i64 x.2.1.2.2.2, .int .i64 x.2.2]) (.agg #[.int .u16 x.1.1, .string x.1.2, .int .i64 x.2.1.1, .int .i64 x.2.1.2.1, .int .i64 x.2.1.2.2.1, .int .i64 x.2.1.2.2.2, .int .i64 x.2.2])).run Try.prog w = .ok (.bool false) w := by go_simp
theorem neq56 (w : World) (x : En) : (binOp .neq 56 (.agg #[.int .u16 x.1.1, .string x.1.2, .int .i64 x.2.1.1, .int .i64 x.2.1.2.1, .int .i64 x.2.1.2.2.1, .int .i64 x.2.1.2.2.2, .int .i64 x.2.2]) (.agg #[.int .u16 x.1.1, .string x.1.2, .int .i64 x.2.1.1, .int .i64 x.2.1.2.1, .int .i64 x.2.1.2.2.1, .int .i64 x.2.1.2.2.2, .int .i64 x.2.2])).run Try.prog w = .ok (.bool false) w := by go_simp
theorem eq56o (w : World) : (binOp .eql 56 (.agg #[.int .u16 0, .string ⟨#[]⟩, .int .i64 0, .int .i64 0, .int .i64 0, .int .i64 0, .int .i64 0]) (.agg #[.int .u16 0, .string ⟨#[]⟩, .int .i64 0, .int .i64 0, .int .i64 0, .int .i64 0, .int .i64 0])).run Try.prog w = .ok (.bool true) w := by go_simp
theorem neq31 (w : World) (c : Cf) : (binOp .neq 31 (.agg #[.int .i64 c.t, .int .i64 c.n, .int .i64 c.s, .int .i64 c.e, .int .i64 c.f, .int .i64 c.b, .int .i64 c.d]) (.agg #[.int .i64 c.t, .int .i64 c.n, .int .i64 c.s, .int .i64 c.e, .int .i64 c.f, .int .i64 c.b, .int .i64 c.d])).run Try.prog w = .ok (.bool false) w := by go_simp
/-- The copy of all entries in which those ahead of i may have changed. -/
structure SdI (V : World) (a : Option Addr) (xs : List En) (i : Nat) (wr : World) : Prop where
  t : Touch [] V wr
  r : 0 < xs.length → ∃ g, a = some ⟨g, 0, none⟩ ∧ V.heap.size ≤ g ∧ ∃ cs, wr.heap[g]? = some (.cells cs 56 (0, 0)) ∧ ∀ j (h : j < xs.length), i ≤ j → ∀ l, l < 7 → cs[j * 7 + l]? = (nl xs[j])[l]?
theorem SdI.start {V w2 : World} {u : Value} {xs : List En} (h : AlQ V xs u w2) : ∃ a cp, u = .slice a xs.length cp ∧ xs.length ≤ cp ∧ SdI V a xs 0 w2 := by
  obtain ⟨h0, ht⟩ := h
  obtain ⟨a, cp, e1, e2, e3⟩ := RN.own h0
  refine ⟨a, cp, e1, e2, ht, fun hp => ?_⟩
  obtain ⟨g, off, rfl, cs, q1, q2⟩ := e3 hp
  obtain ⟨h1, h2 | ⟨g', cap, cur, e4, hg, hc, hn, hm, hs, hq⟩⟩ := h0
  · omega
  · rw [e4] at e1
    simp only [Value.slice.injEq, Option.some.injEq, Addr.mk.injEq] at e1
    obtain ⟨⟨rfl, rfl, _⟩, _⟩ := e1
    exact ⟨g', rfl, hg, cs, q1, fun j hj _ l hl => by have := q2 j hj l hl; rwa [Nat.zero_add] at this⟩
theorem SdI.keep {V wr w' : World} {a : Option Addr} {xs : List En} {i : Nat} (h : SdI V a xs i wr) (t : Touch [] wr w') : SdI V a xs i w' := by
  refine ⟨h.t.trans' t, fun hp => ?_⟩
  obtain ⟨g, e, h1, cs, h2, h3⟩ := h.r hp
  exact ⟨g, e, h1, cs, t.keep h2 (by simp), h3⟩
theorem SdI.cells {V wr : World} {g : Nat} {xs : List En} {i : Nat} (h : SdI V (some ⟨g, 0, none⟩) xs i wr) (hi : i < xs.length) (l : Nat) (hl : l < 7) {v : Value} (hv : (nl xs[i])[l]? = some v) : wr.cell? ⟨g, i * 7 + l, none⟩ = some v := by
  obtain ⟨g', e, h1, cs, h2, h3⟩ := h.r (by omega)
  simp only [Option.some.injEq, Addr.mk.injEq] at e
  obtain ⟨rfl, _⟩ := e
  have := h3 i hi (Nat.le_refl _) l hl
  simp [World.cell?, h2, this, hv]
theorem SdI.fz {V wr : World} {g : Nat} {xs : List En} {i : Nat} (h : SdI V (some ⟨g, 0, none⟩) xs i wr) (hi : i < xs.length) (l : Nat) : wr.frozen? ⟨g, l, none⟩ = false := by
  obtain ⟨g', e, h1, cs, h2, h3⟩ := h.r (by omega)
  simp only [Option.some.injEq, Addr.mk.injEq] at e
  obtain ⟨rfl, _⟩ := e
  simp [World.frozen?, h2]
theorem SdI.next {V wr : World} {g : Nat} {xs : List En} {i : Nat} (h : SdI V (some ⟨g, 0, none⟩) xs i wr) (hi : i < xs.length) (v : Value) : SdI V (some ⟨g, 0, none⟩) xs (i + 1) (wr.setCell ⟨g, i * 7 + 6, none⟩ v) := by
  obtain ⟨g', e, h1, cs, h2, h3⟩ := h.r (by omega)
  simp only [Option.some.injEq, Addr.mk.injEq] at e
  obtain ⟨rfl, _⟩ := e
  refine ⟨h.t.trans (G := [g]) ((Touch.refl _ _).setCell (Or.inl (by simp)) _) (fun k hk => by simp only [List.mem_singleton] at hk; subst hk; exact Or.inr h1), fun _ => ⟨g, rfl, h1, _, bset h2 v, fun j hj hij l hl => ?_⟩⟩
  rw [Array.getElem?_setIfInBounds, if_neg (by omega)]
  exact h3 j hj (by omega) l hl
end Go.Proofs.Ytopepalpmkeffaa
/- The contract of the law's stands: a memo that stands as the document has it; no conditions but those that it states. -/
namespace Go.Proofs.Ytopepalpmkeffaa
open Go.RowKit Go.Sort Go.Maps Go.ChangeMaps Go.WideMaps
set_option linter.unusedVariables false
set_option linter.unusedSimpArgs false
structure SdV (w : World) (m : Nat) (c : Cf) (a1 : Option Addr) (n c1 : Nat) (now : Int) (k : K) (V : World) : Prop where
  t : Touch [] w V
  hM : V.heap[w.heap.size]? = some (mbx c (.slice a1 n c1) now)
  hK : V.heap[w.heap.size + 1]? = some (bx k)
theorem SdV.mk' (w : World) (m : Nat) (c : Cf) (a1 : Option Addr) (n c1 : Nat) (now : Int) (k : K) : SdV w m c a1 n c1 now k ((w.alloc (mbx c (.slice a1 n c1) now)).alloc (bx k)) :=
  ⟨((Touch.refl _ _).alloc _).alloc _, (Below.heap_alloc _ _ _ (by simp)).trans (heap_alloc_new w _), by
    have := heap_alloc_new (w.alloc (mbx c (.slice a1 n c1) now)) (bx k)
    rwa [World.size_alloc] at this⟩
theorem pos_has {xs : List En} (hd : (keysL xs).Nodup) (k : K) : decide (0 ≤ pos xs k) = (fnd xs k).isSome := by
  by_cases hk : k ∈ keysL xs
  · obtain ⟨i, hi, h1, h2, h3⟩ := pos_yes hk
    have hf := fnd_of_mem hd (List.getElem_mem hi)
    rw [h1] at hf
    rw [hf, h3]
    simp
  · rw [fnd_none hk, pos_no hk]
    rfl
set_option maxHeartbeats 8000000 in
set_option maxRecDepth 100000 in
theorem stands14 (w : World) (m : Nat) (F : List Nat) (c : Cf) (now : Int) (xs : List En) (v : Value) (k : K) (ok : Ok k) (h : Mq w m F c now xs) (hr : RN 62 w v xs) : Calls Try.prog 14 #[PT m, mvv c v now, kv k] w fun e w' => e = .returned (.bool true) ∧ Touch [] w w' := by
  obtain ⟨a1, c1, rfl, hcp1, hg1⟩ := hr
  have HRN : Hid (∀ w', Touch [] w w' → RN 62 w' (.slice a1 xs.length c1) xs) := hid (fun w' t => RN.keep ⟨a1, c1, rfl, hcp1, hg1⟩ t)
  have HM : Hid (∀ w', Touch [] w w' → Mq w' m F c now xs) := hid (fun w' t => h.keep0 t)
  have hl := h.len
  have nd := h.nd
  clear hg1
  obtain ⟨V, hV⟩ : ∃ V, V = (w.alloc (mbx c (.slice a1 xs.length c1) now)).alloc (bx k) := ⟨_, rfl⟩
  have KV : SdV w m c a1 xs.length c1 now k V := by rw [hV]; exact SdV.mk' w m c a1 xs.length c1 now k
  have TV := hid KV.t
  have hM := KV.hM
  have hK := KV.hK
  unfold mbx at hM
  unfold bx at hK
  have HA := hid (allM V m F c now xs (HM.out V TV.out))
  have HL : Hid (∀ w', Touch [] w w' → Calls Try.prog 19 #[PT m] w' fun e w'' => e = .returned (.int .i64 (xs.length : Int)) ∧ w'' = w') := hid (fun w' t => by obtain ⟨b, o, G, _, q⟩ := HM.out w' t; exact len19 w' m b o G c now xs q)
  have HNo : Hid (∀ w', Touch [] w w' → Calls Try.prog 26 #[PT m] w' fun e w'' => e = .returned (.int .i64 now) ∧ w'' = w') := hid (fun w' t => by obtain ⟨b, o, G, _, q⟩ := HM.out w' t; exact now26 w' m c now b o q.md)
  have HCo : Hid (∀ w', Touch [] w w' → Calls Try.prog 27 #[PT m] w' fun e w'' => e = .returned (cv c) ∧ Touch [] w' w'') := hid (fun w' t => by obtain ⟨b, o, G, _, q⟩ := HM.out w' t; exact config27 w' m c now b o q.md)
  have HCf : Hid (∀ w', Calls Try.prog 11 #[cv c] w' fun e w'' => e = .returned (cv c) ∧ Touch [] w' w'') := hid (fun w' => config11 w' c)
  have HKy : Hid (∀ w', Calls Try.prog 32 #[kv k] w' fun e w'' => e = .returned (kv k) ∧ Touch [] w' w'') := hid (fun w' => key32 w' k)
  have HGi : Hid (∀ w' x, Calls Try.prog 16 #[nv x] w' fun e w'' => e = .returned (nv x) ∧ Touch [] w' w'') := hid (fun w' x => given16 w' x)
  have HGt : Hid (∀ w' x, Touch [] w w' → x ∈ xs → Calls Try.prog 24 #[PT m, kv x.1] w' fun e w'' => e = .returned (.tuple #[nv x, .bool true]) ∧ Touch [] w' w'') := hid (fun w' x t hx => by
    have := getM w' m F c now xs (HM.out w' t) x.1 ((HM.out w' t).ok x.1 (List.mem_map.2 ⟨x, hx, rfl⟩))
    unfold getS at this
    rw [fnd_of_mem nd hx] at this
    exact this)
  have HGk : Hid (∀ w', Touch [] w w' → Calls Try.prog 24 #[PT m, kv k] w' fun e w'' => e = .returned (.tuple #[(getS xs k).1, .bool (getS xs k).2]) ∧ Touch [] w' w'') := hid (fun w' t => getM w' m F c now xs (HM.out w' t) k ok)
  have HFi : Hid (∀ w', Touch [] w w' → Calls Try.prog 31 #[.slice a1 xs.length c1, kv k] w' fun e w'' => e = .returned (.int .i64 (pos xs k)) ∧ Touch [] w' w'') := hid (fun w' t => find31 w' _ xs k (by omega) (HRN.out w' t))
  have hps := pos_has nd k
  clear h nd KV ok
  obtain ⟨n, hnn⟩ : ∃ n, n = xs.length := ⟨_, rfl⟩
  have HN := hid hnn
  rw [← hnn] at hl HRN hM HL HFi hV hcp1 ⊢
  clear hnn
  have zn : (n : Int) ≤ 65536 := by omega
  unfold PT cv kv nv at *
  unfold mvv
  unfold mbx bx at hV
  go_enter Try.func14, Try.ntmps14
  go_upto_region 1 with fail
  rw [← hV]
  clear hV
  go_upto_region 2 with (go_at_call 20; refine HA.out.mono ?_; rintro e w2 ⟨u, rfl, hu⟩; obtain ⟨a, cp, rfl, hcp, hi0⟩ := SdI.start hu; rw [← HN.out] at hcp ⊢; have HI0 := hid hi0; clear hu hi0)
  have T2 := hid (TV.out.trans' HI0.out.t)
  have cM0 : ∀ w', Touch [] w2 w' → w'.cell? ⟨w.heap.size, 0, none⟩ = some (.int .i64 c.t) := fun w' t => by have := (HI0.out.t.trans' t).keep hM (by simp); simp [World.cell?, this]
  have cM1 : ∀ w', Touch [] w2 w' → w'.cell? ⟨w.heap.size, 1, none⟩ = some (.int .i64 c.n) := fun w' t => by have := (HI0.out.t.trans' t).keep hM (by simp); simp [World.cell?, this]
  have cM2 : ∀ w', Touch [] w2 w' → w'.cell? ⟨w.heap.size, 2, none⟩ = some (.int .i64 c.s) := fun w' t => by have := (HI0.out.t.trans' t).keep hM (by simp); simp [World.cell?, this]
  have cM3 : ∀ w', Touch [] w2 w' → w'.cell? ⟨w.heap.size, 3, none⟩ = some (.int .i64 c.e) := fun w' t => by have := (HI0.out.t.trans' t).keep hM (by simp); simp [World.cell?, this]
  have cM4 : ∀ w', Touch [] w2 w' → w'.cell? ⟨w.heap.size, 4, none⟩ = some (.int .i64 c.f) := fun w' t => by have := (HI0.out.t.trans' t).keep hM (by simp); simp [World.cell?, this]
  have cM5 : ∀ w', Touch [] w2 w' → w'.cell? ⟨w.heap.size, 5, none⟩ = some (.int .i64 c.b) := fun w' t => by have := (HI0.out.t.trans' t).keep hM (by simp); simp [World.cell?, this]
  have cM6 : ∀ w', Touch [] w2 w' → w'.cell? ⟨w.heap.size, 6, none⟩ = some (.int .i64 c.d) := fun w' t => by have := (HI0.out.t.trans' t).keep hM (by simp); simp [World.cell?, this]
  have cM7 : ∀ w', Touch [] w2 w' → w'.cell? ⟨w.heap.size, 7, none⟩ = some (.slice a1 n c1) := fun w' t => by have := (HI0.out.t.trans' t).keep hM (by simp); simp [World.cell?, this]
  have cM8 : ∀ w', Touch [] w2 w' → w'.cell? ⟨w.heap.size, 8, none⟩ = some (.int .i64 now) := fun w' t => by have := (HI0.out.t.trans' t).keep hM (by simp); simp [World.cell?, this]
  have s0 : Touch [] w2 w2.drew := (Touch.refl _ _).drew
  refine wp_region_H (S := fun w' => Touch [] w2 w') (by kernel_rfl) ?_
  refine wpH_take (i := 0) (v := (.slice a n cp)) (some 16) rfl rfl (by kernel_rfl) (by kernel_rfl) (by kernel_rfl) (fun _ _ _ h => h) (Or.inl ⟨by rfl, fun w' hS => (by go_simp)⟩) s0 ?_
  try simp only [Go.Act.put, List.setIfInBounds_toArray, List.set_cons_zero, List.set_cons_succ]
  refine wpH_take (i := 1) (v := (.int .i64 (n : Int))) (some 17) rfl rfl (by kernel_rfl) (by kernel_rfl) (by kernel_rfl) (fun _ _ _ h => h) (Or.inl ⟨by rfl, fun w' hS => (by go_simp)⟩) s0 ?_
  try simp only [Go.Act.put, List.setIfInBounds_toArray, List.set_cons_zero, List.set_cons_succ]
  refine wpH_take (i := 2) (v := (.pointer (some ⟨w.heap.size, 7, none⟩))) (some 18) rfl rfl (by kernel_rfl) (by kernel_rfl) (by kernel_rfl) (fun _ _ _ h => h) (Or.inl ⟨by rfl, fun w' hS => (by go_simp)⟩) s0 ?_
  try simp only [Go.Act.put, List.setIfInBounds_toArray, List.set_cons_zero, List.set_cons_succ]
  refine wpH_take (i := 3) (v := (.slice a1 n c1)) (some 19) rfl rfl (by kernel_rfl) (by kernel_rfl) (by kernel_rfl) (fun _ _ _ h => h) (Or.inl ⟨by rfl, fun w' hS => (by have z0 := cM7 _ hS; go_simp)⟩) s0 ?_
  try simp only [Go.Act.put, List.setIfInBounds_toArray, List.set_cons_zero, List.set_cons_succ]
  refine wpH_take (i := 4) (v := (.int .i64 (n : Int))) (some 20) rfl rfl (by kernel_rfl) (by kernel_rfl) (by kernel_rfl) (fun _ _ _ h => h) (Or.inl ⟨by rfl, fun w' hS => (by go_simp)⟩) s0 ?_
  try simp only [Go.Act.put, List.setIfInBounds_toArray, List.set_cons_zero, List.set_cons_succ]
  refine wpH_take (i := 5) (v := (.bool false)) (some 21) rfl rfl (by kernel_rfl) (by kernel_rfl) (by kernel_rfl) (fun _ _ _ h => h) (Or.inl ⟨by rfl, fun w' hS => (by go_simp)⟩) s0 ?_
  try simp only [Go.Act.put, List.setIfInBounds_toArray, List.set_cons_zero, List.set_cons_succ]
  refine wpH_take (i := 6) (v := (.bool false)) (some 22) rfl rfl (by kernel_rfl) (by kernel_rfl) (by kernel_rfl) (fun _ _ _ h => h) (Or.inl ⟨by rfl, fun w' hS => (by go_simp)⟩) s0 ?_
  try simp only [Go.Act.put, List.setIfInBounds_toArray, List.set_cons_zero, List.set_cons_succ]
  refine wpH_take (i := 7) (v := (.pointer (some ⟨m, 0, none⟩))) (some 23) rfl rfl (by kernel_rfl) (by kernel_rfl) (by kernel_rfl) (fun _ _ _ h => h) (Or.inl ⟨by rfl, fun w' hS => (by go_simp)⟩) s0 ?_
  try simp only [Go.Act.put, List.setIfInBounds_toArray, List.set_cons_zero, List.set_cons_succ]
  refine wpH_take (i := 9) (v := (.slice a n cp)) (some 25) rfl rfl (by kernel_rfl) (by kernel_rfl) (by kernel_rfl) (fun _ _ _ h => h) (Or.inl ⟨by rfl, fun w' hS => (by go_simp)⟩) s0 ?_
  try simp only [Go.Act.put, List.setIfInBounds_toArray, List.set_cons_zero, List.set_cons_succ]
  refine wpH_take (i := 10) (v := (.int .i64 (n : Int))) (some 26) rfl rfl (by kernel_rfl) (by kernel_rfl) (by kernel_rfl) (fun _ _ _ h => h) (Or.inl ⟨by rfl, fun w' hS => (by go_simp)⟩) s0 ?_
  try simp only [Go.Act.put, List.setIfInBounds_toArray, List.set_cons_zero, List.set_cons_succ]
  refine wpH_call (i := 8) (o := { dst := some 24, op := Op.call { callee := Callee.value (Operand.func 19), args := #[Operand.tmp 23], argTypes := #[26] }, type := 3, pos := _, after := #[{ on := 7, ground := Ground.data }, { on := 6, ground := Ground.chain }, { on := 6, ground := Ground.guard }], guard := some (6, false) }) (by kernel_rfl) rfl (fun K' hK => ?_)
  rw [if_pos (by rfl)]
  go_simp
  refine (HL.out _ (T2.out.trans' s0)).mono ?_
  rintro e w5 ⟨rfl, e5⟩
  rw [e5]
  clear e5 w5
  refine hK.out _ _ s0 ?_
  clear hK
  try simp only [Go.Act.put, List.setIfInBounds_toArray, List.set_cons_zero, List.set_cons_succ]
  refine wpH_take (i := 11) (v := (.bool false)) (some 27) rfl rfl (by kernel_rfl) (by kernel_rfl) (by kernel_rfl) (fun _ _ _ h => h) (Or.inl ⟨by rfl, fun w' hS => (by go_simp)⟩) s0 ?_
  try simp only [Go.Act.put, List.setIfInBounds_toArray, List.set_cons_zero, List.set_cons_succ]
  refine wpH_take (i := 12) (v := (.bool false)) (some 28) rfl rfl (by kernel_rfl) (by kernel_rfl) (by kernel_rfl) (fun _ _ _ h => h) (Or.inl ⟨by rfl, fun w' hS => (by go_simp)⟩) s0 ?_
  try simp only [Go.Act.put, List.setIfInBounds_toArray, List.set_cons_zero, List.set_cons_succ]
  refine wpH_take (i := 13) (v := (.bool false)) (some 29) rfl rfl (by kernel_rfl) (by kernel_rfl) (by kernel_rfl) (fun _ _ _ h => h) (Or.inl ⟨by rfl, fun w' hS => (by go_simp)⟩) s0 ?_
  try simp only [Go.Act.put, List.setIfInBounds_toArray, List.set_cons_zero, List.set_cons_succ]
  refine wpH_take (i := 14) (v := (.pointer (some ⟨m, 0, none⟩))) (some 30) rfl rfl (by kernel_rfl) (by kernel_rfl) (by kernel_rfl) (fun _ _ _ h => h) (Or.inl ⟨by rfl, fun w' hS => (by go_simp)⟩) s0 ?_
  try simp only [Go.Act.put, List.setIfInBounds_toArray, List.set_cons_zero, List.set_cons_succ]
  refine wpH_take (i := 16) (v := (.pointer (some ⟨w.heap.size, 8, none⟩))) (some 32) rfl rfl (by kernel_rfl) (by kernel_rfl) (by kernel_rfl) (fun _ _ _ h => h) (Or.inl ⟨by rfl, fun w' hS => (by go_simp)⟩) s0 ?_
  try simp only [Go.Act.put, List.setIfInBounds_toArray, List.set_cons_zero, List.set_cons_succ]
  refine wpH_take (i := 17) (v := (.int .i64 now)) (some 33) rfl rfl (by kernel_rfl) (by kernel_rfl) (by kernel_rfl) (fun _ _ _ h => h) (Or.inl ⟨by rfl, fun w' hS => (by have z0 := cM8 _ hS; go_simp)⟩) s0 ?_
  try simp only [Go.Act.put, List.setIfInBounds_toArray, List.set_cons_zero, List.set_cons_succ]
  refine wpH_call (i := 15) (o := { dst := some 31, op := Op.call { callee := Callee.value (Operand.func 26), args := #[Operand.tmp 30], argTypes := #[26] }, type := 2, pos := _, after := #[{ on := 14, ground := Ground.data }, { on := 13, ground := Ground.chain }, { on := 13, ground := Ground.guard }], guard := some (13, false) }) (by kernel_rfl) rfl (fun K' hK => ?_)
  rw [if_pos (by rfl)]
  go_simp
  refine (HNo.out _ (T2.out.trans' s0)).mono ?_
  rintro e w5 ⟨rfl, e5⟩
  rw [e5]
  clear e5 w5
  refine hK.out _ _ s0 ?_
  clear hK
  try simp only [Go.Act.put, List.setIfInBounds_toArray, List.set_cons_zero, List.set_cons_succ]
  refine wpH_take (i := 18) (v := (.bool false)) (some 34) rfl rfl (by kernel_rfl) (by kernel_rfl) (by kernel_rfl) (fun _ _ _ h => h) (Or.inl ⟨by rfl, fun w' hS => (by go_simp)⟩) s0 ?_
  try simp only [Go.Act.put, List.setIfInBounds_toArray, List.set_cons_zero, List.set_cons_succ]
  refine wpH_take (i := 19) (v := (.bool false)) (some 35) rfl rfl (by kernel_rfl) (by kernel_rfl) (by kernel_rfl) (fun _ _ _ h => h) (Or.inl ⟨by rfl, fun w' hS => (by go_simp)⟩) s0 ?_
  try simp only [Go.Act.put, List.setIfInBounds_toArray, List.set_cons_zero, List.set_cons_succ]
  refine wpH_take (i := 20) (v := (.bool false)) (some 36) rfl rfl (by kernel_rfl) (by kernel_rfl) (by kernel_rfl) (fun _ _ _ h => h) (Or.inl ⟨by rfl, fun w' hS => (by go_simp)⟩) s0 ?_
  try simp only [Go.Act.put, List.setIfInBounds_toArray, List.set_cons_zero, List.set_cons_succ]
  refine wpH_take (i := 21) (v := (.pointer (some ⟨m, 0, none⟩))) (some 37) rfl rfl (by kernel_rfl) (by kernel_rfl) (by kernel_rfl) (fun _ _ _ h => h) (Or.inl ⟨by rfl, fun w' hS => (by go_simp)⟩) s0 ?_
  try simp only [Go.Act.put, List.setIfInBounds_toArray, List.set_cons_zero, List.set_cons_succ]
  refine wpH_take (i := 24) (v := (.pointer (some ⟨w.heap.size, 0, none⟩))) (some 40) rfl rfl (by kernel_rfl) (by kernel_rfl) (by kernel_rfl) (fun _ _ _ h => h) (Or.inl ⟨by rfl, fun w' hS => (by go_simp)⟩) s0 ?_
  try simp only [Go.Act.put, List.setIfInBounds_toArray, List.set_cons_zero, List.set_cons_succ]
  refine wpH_take (i := 25) (v := (.agg #[.int .i64 c.t, .int .i64 c.n, .int .i64 c.s, .int .i64 c.e, .int .i64 c.f, .int .i64 c.b, .int .i64 c.d])) (some 41) rfl rfl (by kernel_rfl) (by kernel_rfl) (by kernel_rfl) (fun _ _ _ h => h) (Or.inl ⟨by rfl, fun w' hS => (by have z0 := cM0 _ hS; have z1 := cM1 _ hS; have z2 := cM2 _ hS; have z3 := cM3 _ hS; have z4 := cM4 _ hS; have z5 := cM5 _ hS; have z6 := cM6 _ hS; go_simp)⟩) s0 ?_
  try simp only [Go.Act.put, List.setIfInBounds_toArray, List.set_cons_zero, List.set_cons_succ]
  refine wpH_call (i := 22) (o := { dst := some 38, op := Op.call { callee := Callee.value (Operand.func 27), args := #[Operand.tmp 37], argTypes := #[26] }, type := 23, pos := _, after := #[{ on := 21, ground := Ground.data }, { on := 20, ground := Ground.chain }, { on := 20, ground := Ground.guard }], guard := some (20, false) }) (by kernel_rfl) rfl (fun K' hK => ?_)
  rw [if_pos (by rfl)]
  go_simp
  refine (HCo.out _ (T2.out.trans' s0)).mono ?_
  rintro e w3 ⟨rfl, t5⟩
  have s3 := s0.trans' t5
  clear t5
  refine hK.out _ _ s3 ?_
  clear hK
  try simp only [Go.Act.put, List.setIfInBounds_toArray, List.set_cons_zero, List.set_cons_succ]
  refine wpH_call (i := 23) (o := { dst := some 39, op := Op.call { callee := Callee.value (Operand.func 11), args := #[Operand.tmp 38], argTypes := #[23] }, type := 31, pos := _, after := #[{ on := 22, ground := Ground.data }, { on := 22, ground := Ground.chain }, { on := 20, ground := Ground.guard }], guard := some (20, false) }) (by kernel_rfl) rfl (fun K' hK => ?_)
  rw [if_pos (by rfl)]
  go_simp
  refine (HCf.out _).mono ?_
  rintro e w4 ⟨rfl, t5⟩
  have s4 := s3.trans' t5
  clear t5
  refine hK.out _ _ s4 ?_
  clear hK
  try simp only [Go.Act.put, List.setIfInBounds_toArray, List.set_cons_zero, List.set_cons_succ]
  refine wpH_take (i := 26) (v := (.bool false)) (some 42) rfl rfl (by kernel_rfl) (by kernel_rfl) (by kernel_rfl) (fun _ _ _ h => h) (Or.inl ⟨by rfl, fun w' hS => (by have z0 := neq31 w' c; go_simp)⟩) s4 ?_
  try simp only [Go.Act.put, List.setIfInBounds_toArray, List.set_cons_zero, List.set_cons_succ]
  refine wpH_take (i := 27) (v := (.bool false)) (some 43) rfl rfl (by kernel_rfl) (by kernel_rfl) (by kernel_rfl) (fun _ _ _ h => h) (Or.inl ⟨by rfl, fun w' hS => (by go_simp)⟩) s4 ?_
  try simp only [Go.Act.put, List.setIfInBounds_toArray, List.set_cons_zero, List.set_cons_succ]
  refine wpAnyH_done (by kernel_rfl) ?_ _
  have S4 := hid (HI0.out.keep s4)
  have T4 := hid (T2.out.trans' s4)
  clear s0 s3 s4 cM0 cM1 cM2 cM3 cM4 cM5 cM6 cM7 cM8 HI0 T2 HA
  have b7 : w4.cell? ⟨w.heap.size, 7, none⟩ = some (.slice a1 n c1) := by have := S4.out.t.keep hM (by simp); simp [World.cell?, this]
  go_upto_block 0 with fail
  go_wp2_with fail
  clear b7
  go_loopw [47] (fun s47 wr => ∃ (i : Nat), s47 = .int .i64 (i : Int) ∧ i ≤ n ∧ Hid (SdI V a xs i wr)) (fun s _ => n - (intOf s).toNat)
  case atStart => exact ⟨0, rfl, Nat.zero_le _, S4⟩
  case round =>
    clear S4 T4
    obtain ⟨i, rfl, hi, HI⟩ := hrel
    by_cases hlt : i < n
    · have zi : (i : Int) < (n : Int) := by omega
      have hix : i < xs.length := by rw [← HN.out]; exact hlt
      have sz : i + 1 ≤ n := hlt
      obtain ⟨g, rfl, hgV, _⟩ := HI.out.r (by omega)
      have Tw := hid (TV.out.trans' HI.out.t)
      obtain ⟨a', c1', e1, _, e3⟩ := HRN.out wr Tw.out
      obtain ⟨g2, off, e4, hat⟩ := e3 (by omega)
      have e5 : a1 = some ⟨g2, off, none⟩ := by simp only [Value.slice.injEq] at e1; rw [e1.1]; exact e4
      clear e1 e3 e4
      subst e5
      have hx0 : xs[i] ∈ xs := List.getElem_mem hix
      have HCl : Hid (∀ w', Touch [] wr w' → w'.cell? ⟨g, i * 7, none⟩ = some (.int .u16 xs[i].1.1) ∧ w'.cell? ⟨g, i * 7 + 1, none⟩ = some (.string xs[i].1.2) ∧ w'.cell? ⟨g, i * 7 + 2, none⟩ = some (.int .i64 xs[i].2.1.1) ∧ w'.cell? ⟨g, i * 7 + 3, none⟩ = some (.int .i64 xs[i].2.1.2.1) ∧ w'.cell? ⟨g, i * 7 + 4, none⟩ = some (.int .i64 xs[i].2.1.2.2.1) ∧ w'.cell? ⟨g, i * 7 + 5, none⟩ = some (.int .i64 xs[i].2.1.2.2.2) ∧ w'.cell? ⟨g, i * 7 + 6, none⟩ = some (.int .i64 xs[i].2.2)) := hid (fun w' t => by
        have q := HI.out.keep t
        exact ⟨q.cells hix 0 (by omega) rfl, q.cells hix 1 (by omega) rfl, q.cells hix 2 (by omega) rfl, q.cells hix 3 (by omega) rfl, q.cells hix 4 (by omega) rfl, q.cells hix 5 (by omega) rfl, q.cells hix 6 (by omega) rfl⟩)
      have HNx : Hid (∀ w' u, Touch [] wr w' → SdI V (some ⟨g, 0, none⟩) xs (i + 1) (w'.setCell ⟨g, i * 7 + 6, none⟩ u) ∧ w'.frozen? ⟨g, i * 7 + 6, none⟩ = false) := hid (fun w' u t => ⟨(HI.out.keep t).next hix u, (HI.out.keep t).fz hix _⟩)
      obtain ⟨y0, y1, y2, y3, y4, y5, y6⟩ : wr.cell? ⟨g2, off + i * 7, none⟩ = some (.int .u16 xs[i].1.1) ∧ wr.cell? ⟨g2, off + i * 7 + 1, none⟩ = some (.string xs[i].1.2) ∧ wr.cell? ⟨g2, off + i * 7 + 2, none⟩ = some (.int .i64 xs[i].2.1.1) ∧ wr.cell? ⟨g2, off + i * 7 + 3, none⟩ = some (.int .i64 xs[i].2.1.2.1) ∧ wr.cell? ⟨g2, off + i * 7 + 4, none⟩ = some (.int .i64 xs[i].2.1.2.2.1) ∧ wr.cell? ⟨g2, off + i * 7 + 5, none⟩ = some (.int .i64 xs[i].2.1.2.2.2) ∧ wr.cell? ⟨g2, off + i * 7 + 6, none⟩ = some (.int .i64 xs[i].2.2) := ⟨hat.cell i 0 hix (by omega) rfl, hat.cell i 1 hix (by omega) rfl, hat.cell i 2 hix (by omega) rfl, hat.cell i 3 hix (by omega) rfl, hat.cell i 4 hix (by omega) rfl, hat.cell i 5 hix (by omega) rfl, hat.cell i 6 hix (by omega) rfl⟩
      obtain ⟨x0, x1, x2, x3, x4, x5, x6⟩ := HCl.out (wr.alloc (.cells #[.int .u16 xs[i].1.1, .string xs[i].1.2, .int .i64 xs[i].2.1.1, .int .i64 xs[i].2.1.2.1, .int .i64 xs[i].2.1.2.2.1, .int .i64 xs[i].2.1.2.2.2, .int .i64 xs[i].2.2] 62)) ((Touch.refl _ _).alloc _)
      clear hat hM hK
      have HGx := hid (fun w' t => HGt.out w' xs[i] t hx0)
      clear hx0
      obtain ⟨x, hx⟩ : ∃ x, x = xs[i] := ⟨_, rfl⟩
      rw [← hx] at HCl HGx y0 y1 y2 y3 y4 y5 y6 x0 x1 x2 x3 x4 x5 x6
      clear hx
      obtain ⟨W6, hW6⟩ : ∃ W6, W6 = wr.alloc (.cells #[.int .u16 x.1.1, .string x.1.2, .int .i64 x.2.1.1, .int .i64 x.2.1.2.1, .int .i64 x.2.1.2.2.1, .int .i64 x.2.1.2.2.2, .int .i64 x.2.2] 62) := ⟨_, rfl⟩
      have T6 : Touch [] wr W6 := by rw [hW6]; exact (Touch.refl _ _).alloc _
      have k6 : W6.heap[wr.heap.size]? = some (.cells #[.int .u16 x.1.1, .string x.1.2, .int .i64 x.2.1.1, .int .i64 x.2.1.2.1, .int .i64 x.2.1.2.2.1, .int .i64 x.2.1.2.2.2, .int .i64 x.2.2] 62 (0, 0)) := by rw [hW6]; exact heap_alloc_new _ _
      have T6H := hid T6
      have K6 := hid k6
      clear T6 k6
      go_upto_region 7 with fail
      rw [← hW6] at x0 x1 x2 x3 x4 x5 x6 ⊢
      clear hW6 y0 y1 y2 y3 y4 y5 y6
      go_upto_region 8 with (go_at_call 24; refine (HGx.out _ (Tw.out.trans' T6H.out)).mono ?_; rintro e w7 ⟨rfl, t7⟩; have T7 := hid t7; clear t7)
      clear x0 x1 x2 x3 x4 x5 x6
      obtain ⟨W8, hW8⟩ : ∃ W8, W8 = w7.alloc (.cells #[.int .u16 x.1.1, .string x.1.2, .int .i64 x.2.1.1, .int .i64 x.2.1.2.1, .int .i64 x.2.1.2.2.1, .int .i64 x.2.1.2.2.2, .int .i64 x.2.2] 56) := ⟨_, rfl⟩
      have T8 : Touch [] W6 W8 := by rw [hW8]; exact T7.out.alloc _
      have k8 : W8.heap[w7.heap.size]? = some (.cells #[.int .u16 x.1.1, .string x.1.2, .int .i64 x.2.1.1, .int .i64 x.2.1.2.1, .int .i64 x.2.1.2.2.1, .int .i64 x.2.1.2.2.2, .int .i64 x.2.2] 56 (0, 0)) := by rw [hW8]; exact heap_alloc_new _ _
      rw [← hW8]
      clear hW8
      have k68 := T8.keep K6.out (by simp)
      have T8r := T6H.out.trans' T8
      have d0 : ∀ w', Touch [] W8 w' → w'.cell? ⟨wr.heap.size, 0, none⟩ = some (.int .u16 x.1.1) := fun w' t => by have := t.keep k68 (by simp); simp [World.cell?, this]
      have d1 : ∀ w', Touch [] W8 w' → w'.cell? ⟨wr.heap.size, 1, none⟩ = some (.string x.1.2) := fun w' t => by have := t.keep k68 (by simp); simp [World.cell?, this]
      have d2 : ∀ w', Touch [] W8 w' → w'.cell? ⟨wr.heap.size, 2, none⟩ = some (.int .i64 x.2.1.1) := fun w' t => by have := t.keep k68 (by simp); simp [World.cell?, this]
      have d3 : ∀ w', Touch [] W8 w' → w'.cell? ⟨wr.heap.size, 3, none⟩ = some (.int .i64 x.2.1.2.1) := fun w' t => by have := t.keep k68 (by simp); simp [World.cell?, this]
      have d4 : ∀ w', Touch [] W8 w' → w'.cell? ⟨wr.heap.size, 4, none⟩ = some (.int .i64 x.2.1.2.2.1) := fun w' t => by have := t.keep k68 (by simp); simp [World.cell?, this]
      have d5 : ∀ w', Touch [] W8 w' → w'.cell? ⟨wr.heap.size, 5, none⟩ = some (.int .i64 x.2.1.2.2.2) := fun w' t => by have := t.keep k68 (by simp); simp [World.cell?, this]
      have d6 : ∀ w', Touch [] W8 w' → w'.cell? ⟨wr.heap.size, 6, none⟩ = some (.int .i64 x.2.2) := fun w' t => by have := t.keep k68 (by simp); simp [World.cell?, this]
      have f0 : ∀ w', Touch [] W8 w' → w'.cell? ⟨w7.heap.size, 0, none⟩ = some (.int .u16 x.1.1) := fun w' t => by have := t.keep k8 (by simp); simp [World.cell?, this]
      have f1 : ∀ w', Touch [] W8 w' → w'.cell? ⟨w7.heap.size, 1, none⟩ = some (.string x.1.2) := fun w' t => by have := t.keep k8 (by simp); simp [World.cell?, this]
      have f2 : ∀ w', Touch [] W8 w' → w'.cell? ⟨w7.heap.size, 2, none⟩ = some (.int .i64 x.2.1.1) := fun w' t => by have := t.keep k8 (by simp); simp [World.cell?, this]
      have f3 : ∀ w', Touch [] W8 w' → w'.cell? ⟨w7.heap.size, 3, none⟩ = some (.int .i64 x.2.1.2.1) := fun w' t => by have := t.keep k8 (by simp); simp [World.cell?, this]
      have f4 : ∀ w', Touch [] W8 w' → w'.cell? ⟨w7.heap.size, 4, none⟩ = some (.int .i64 x.2.1.2.2.1) := fun w' t => by have := t.keep k8 (by simp); simp [World.cell?, this]
      have f5 : ∀ w', Touch [] W8 w' → w'.cell? ⟨w7.heap.size, 5, none⟩ = some (.int .i64 x.2.1.2.2.2) := fun w' t => by have := t.keep k8 (by simp); simp [World.cell?, this]
      have f6 : ∀ w', Touch [] W8 w' → w'.cell? ⟨w7.heap.size, 6, none⟩ = some (.int .i64 x.2.2) := fun w' t => by have := t.keep k8 (by simp); simp [World.cell?, this]
      have l0 : ∀ w', Touch [] W8 w' → w'.cell? ⟨g, i * 7, none⟩ = some (.int .u16 x.1.1) := fun w' t => (HCl.out w' (T8r.trans' t)).1
      have l1 : ∀ w', Touch [] W8 w' → w'.cell? ⟨g, i * 7 + 1, none⟩ = some (.string x.1.2) := fun w' t => (HCl.out w' (T8r.trans' t)).2.1
      have l2 : ∀ w', Touch [] W8 w' → w'.cell? ⟨g, i * 7 + 2, none⟩ = some (.int .i64 x.2.1.1) := fun w' t => (HCl.out w' (T8r.trans' t)).2.2.1
      have l3 : ∀ w', Touch [] W8 w' → w'.cell? ⟨g, i * 7 + 3, none⟩ = some (.int .i64 x.2.1.2.1) := fun w' t => (HCl.out w' (T8r.trans' t)).2.2.2.1
      have l4 : ∀ w', Touch [] W8 w' → w'.cell? ⟨g, i * 7 + 4, none⟩ = some (.int .i64 x.2.1.2.2.1) := fun w' t => (HCl.out w' (T8r.trans' t)).2.2.2.2.1
      have l5 : ∀ w', Touch [] W8 w' → w'.cell? ⟨g, i * 7 + 5, none⟩ = some (.int .i64 x.2.1.2.2.2) := fun w' t => (HCl.out w' (T8r.trans' t)).2.2.2.2.2.1
      have l6 : ∀ w', Touch [] W8 w' → w'.cell? ⟨g, i * 7 + 6, none⟩ = some (.int .i64 x.2.2) := fun w' t => (HCl.out w' (T8r.trans' t)).2.2.2.2.2.2
      have s0 : Touch [] W8 W8.drew := (Touch.refl _ _).drew
      refine wp_region_H (S := fun w' => Touch [] W8 w') (by kernel_rfl) ?_
      refine wpH_take (i := 0) (v := (.slice (some ⟨g, 0, none⟩) n cp)) (some 62) rfl rfl (by kernel_rfl) (by kernel_rfl) (by kernel_rfl) (fun _ _ _ h => h) (Or.inl ⟨by rfl, fun w' hS => (by go_simp)⟩) s0 ?_
      try simp only [Go.Act.put, List.setIfInBounds_toArray, List.set_cons_zero, List.set_cons_succ]
      refine wpH_take (i := 1) (v := (.int .i64 (i : Int))) (some 63) rfl rfl (by kernel_rfl) (by kernel_rfl) (by kernel_rfl) (fun _ _ _ h => h) (Or.inl ⟨by rfl, fun w' hS => (by go_simp)⟩) s0 ?_
      try simp only [Go.Act.put, List.setIfInBounds_toArray, List.set_cons_zero, List.set_cons_succ]
      refine wpH_take (i := 2) (v := (.pointer (some ⟨g, i * 7, none⟩))) (some 64) rfl rfl (by kernel_rfl) (by kernel_rfl) (by kernel_rfl) (fun _ _ _ h => h) (Or.inl ⟨by rfl, fun w' hS => (by go_simp)⟩) s0 ?_
      try simp only [Go.Act.put, List.setIfInBounds_toArray, List.set_cons_zero, List.set_cons_succ]
      refine wpH_take (i := 3) (v := (.agg #[.int .u16 x.1.1, .string x.1.2, .int .i64 x.2.1.1, .int .i64 x.2.1.2.1, .int .i64 x.2.1.2.2.1, .int .i64 x.2.1.2.2.2, .int .i64 x.2.2])) (some 65) rfl rfl (by kernel_rfl) (by kernel_rfl) (by kernel_rfl) (fun _ _ _ h => h) (Or.inl ⟨by rfl, fun w' hS => (by have z0 := l0 _ hS; have z1 := l1 _ hS; have z2 := l2 _ hS; have z3 := l3 _ hS; have z4 := l4 _ hS; have z5 := l5 _ hS; have z6 := l6 _ hS; go_simp)⟩) s0 ?_
      try simp only [Go.Act.put, List.setIfInBounds_toArray, List.set_cons_zero, List.set_cons_succ]
      refine wpH_take (i := 5) (v := (.agg #[.int .u16 x.1.1, .string x.1.2, .int .i64 x.2.1.1, .int .i64 x.2.1.2.1, .int .i64 x.2.1.2.2.1, .int .i64 x.2.1.2.2.2, .int .i64 x.2.2])) (some 67) rfl rfl (by kernel_rfl) (by kernel_rfl) (by kernel_rfl) (fun _ _ _ h => h) (Or.inl ⟨by rfl, fun w' hS => (by have z0 := d0 _ hS; have z1 := d1 _ hS; have z2 := d2 _ hS; have z3 := d3 _ hS; have z4 := d4 _ hS; have z5 := d5 _ hS; have z6 := d6 _ hS; go_simp)⟩) s0 ?_
      try simp only [Go.Act.put, List.setIfInBounds_toArray, List.set_cons_zero, List.set_cons_succ]
      refine wpH_call (i := 4) (o := { dst := some 66, op := Op.call { callee := Callee.value (Operand.func 16), args := #[Operand.tmp 65], argTypes := #[56] }, type := 62, pos := _, after := #[{ on := 3, ground := Ground.data }], guard := none }) (by kernel_rfl) rfl (fun K' hK => ?_)
      rw [if_pos (by rfl)]
      go_simp
      refine (HGi.out _ x).mono ?_
      rintro e w9 ⟨rfl, t9⟩
      have s1 := s0.trans' t9
      clear t9
      refine hK.out _ _ s1 ?_
      clear hK
      try simp only [Go.Act.put, List.setIfInBounds_toArray, List.set_cons_zero, List.set_cons_succ]
      refine wpH_take (i := 6) (v := (.bool false)) (some 68) rfl rfl (by kernel_rfl) (by kernel_rfl) (by kernel_rfl) (fun _ _ _ h => h) (Or.inl ⟨by rfl, fun w' hS => (by have z0 := neq62 w' x; go_simp)⟩) s1 ?_
      try simp only [Go.Act.put, List.setIfInBounds_toArray, List.set_cons_zero, List.set_cons_succ]
      refine wpH_take (i := 7) (v := (.bool false)) (some 69) rfl rfl (by kernel_rfl) (by kernel_rfl) (by kernel_rfl) (fun _ _ _ h => h) (Or.inl ⟨by rfl, fun w' hS => (by go_simp)⟩) s1 ?_
      try simp only [Go.Act.put, List.setIfInBounds_toArray, List.set_cons_zero, List.set_cons_succ]
      refine wpH_take (i := 8) (v := (.bool true)) (some 70) rfl rfl (by kernel_rfl) (by kernel_rfl) (by kernel_rfl) (fun _ _ _ h => h) (Or.inl ⟨by rfl, fun w' hS => (by go_simp)⟩) s1 ?_
      try simp only [Go.Act.put, List.setIfInBounds_toArray, List.set_cons_zero, List.set_cons_succ]
      refine wpH_take (i := 9) (v := (.bool false)) (some 71) rfl rfl (by kernel_rfl) (by kernel_rfl) (by kernel_rfl) (fun _ _ _ h => h) (Or.inl ⟨by rfl, fun w' hS => (by go_simp)⟩) s1 ?_
      try simp only [Go.Act.put, List.setIfInBounds_toArray, List.set_cons_zero, List.set_cons_succ]
      refine wpH_take (i := 10) (v := (.bool false)) (some 72) rfl rfl (by kernel_rfl) (by kernel_rfl) (by kernel_rfl) (fun _ _ _ h => h) (Or.inl ⟨by rfl, fun w' hS => (by go_simp)⟩) s1 ?_
      try simp only [Go.Act.put, List.setIfInBounds_toArray, List.set_cons_zero, List.set_cons_succ]
      refine wpH_take (i := 11) (v := (.bool false)) (some 73) rfl rfl (by kernel_rfl) (by kernel_rfl) (by kernel_rfl) (fun _ _ _ h => h) (Or.inl ⟨by rfl, fun w' hS => (by go_simp)⟩) s1 ?_
      try simp only [Go.Act.put, List.setIfInBounds_toArray, List.set_cons_zero, List.set_cons_succ]
      refine wpH_take (i := 12) (v := (.agg #[.int .u16 x.1.1, .string x.1.2, .int .i64 x.2.1.1, .int .i64 x.2.1.2.1, .int .i64 x.2.1.2.2.1, .int .i64 x.2.1.2.2.2, .int .i64 x.2.2])) (some 74) rfl rfl (by kernel_rfl) (by kernel_rfl) (by kernel_rfl) (fun _ _ _ h => h) (Or.inl ⟨by rfl, fun w' hS => (by have z0 := f0 _ hS; have z1 := f1 _ hS; have z2 := f2 _ hS; have z3 := f3 _ hS; have z4 := f4 _ hS; have z5 := f5 _ hS; have z6 := f6 _ hS; go_simp)⟩) s1 ?_
      try simp only [Go.Act.put, List.setIfInBounds_toArray, List.set_cons_zero, List.set_cons_succ]
      refine wpH_take (i := 13) (v := (.slice (some ⟨g, 0, none⟩) n cp)) (some 75) rfl rfl (by kernel_rfl) (by kernel_rfl) (by kernel_rfl) (fun _ _ _ h => h) (Or.inl ⟨by rfl, fun w' hS => (by go_simp)⟩) s1 ?_
      try simp only [Go.Act.put, List.setIfInBounds_toArray, List.set_cons_zero, List.set_cons_succ]
      refine wpH_take (i := 14) (v := (.int .i64 (i : Int))) (some 76) rfl rfl (by kernel_rfl) (by kernel_rfl) (by kernel_rfl) (fun _ _ _ h => h) (Or.inl ⟨by rfl, fun w' hS => (by go_simp)⟩) s1 ?_
      try simp only [Go.Act.put, List.setIfInBounds_toArray, List.set_cons_zero, List.set_cons_succ]
      refine wpH_take (i := 15) (v := (.pointer (some ⟨g, i * 7, none⟩))) (some 77) rfl rfl (by kernel_rfl) (by kernel_rfl) (by kernel_rfl) (fun _ _ _ h => h) (Or.inl ⟨by rfl, fun w' hS => (by go_simp)⟩) s1 ?_
      try simp only [Go.Act.put, List.setIfInBounds_toArray, List.set_cons_zero, List.set_cons_succ]
      refine wpH_take (i := 16) (v := (.agg #[.int .u16 x.1.1, .string x.1.2, .int .i64 x.2.1.1, .int .i64 x.2.1.2.1, .int .i64 x.2.1.2.2.1, .int .i64 x.2.1.2.2.2, .int .i64 x.2.2])) (some 78) rfl rfl (by kernel_rfl) (by kernel_rfl) (by kernel_rfl) (fun _ _ _ h => h) (Or.inl ⟨by rfl, fun w' hS => (by have z0 := l0 _ hS; have z1 := l1 _ hS; have z2 := l2 _ hS; have z3 := l3 _ hS; have z4 := l4 _ hS; have z5 := l5 _ hS; have z6 := l6 _ hS; go_simp)⟩) s1 ?_
      try simp only [Go.Act.put, List.setIfInBounds_toArray, List.set_cons_zero, List.set_cons_succ]
      refine wpH_take (i := 17) (v := (.bool false)) (some 79) rfl rfl (by kernel_rfl) (by kernel_rfl) (by kernel_rfl) (fun _ _ _ h => h) (Or.inl ⟨by rfl, fun w' hS => (by have z0 := neq56 w' x; go_simp)⟩) s1 ?_
      try simp only [Go.Act.put, List.setIfInBounds_toArray, List.set_cons_zero, List.set_cons_succ]
      refine wpH_take (i := 18) (v := (.bool false)) (some 80) rfl rfl (by kernel_rfl) (by kernel_rfl) (by kernel_rfl) (fun _ _ _ h => h) (Or.inl ⟨by rfl, fun w' hS => (by go_simp)⟩) s1 ?_
      try simp only [Go.Act.put, List.setIfInBounds_toArray, List.set_cons_zero, List.set_cons_succ]
      refine wpAnyH_done (by kernel_rfl) ?_ _
      have r6 := l6 _ s1
      have hs9 := T8r.trans' s1
      have HN9 := hid (HNx.out w9 (.int .i64 (wrap64 (x.2.2 - 1))) hs9)
      have r7 := HN9.out.2
      clear d0 f0 l0 d1 f1 l1 d2 f2 l2 d3 f3 l3 d4 f4 l4 d5 f5 l5 d6 f6 l6 s0 s1 k8 k68 T8 T8r hs9
      go_wp2
      refine ⟨⟨i + 1, rfl, sz, hid HN9.out.1⟩, ?_⟩
      simp only [intOf]
      omega
    · have zi : ¬ (i : Int) < (n : Int) := by omega
      have ei : i = n := by omega
      subst ei
      have HS := hid HI.out.t
      have k0 : wr.cell? ⟨w.heap.size + 1, 0, none⟩ = some (.int .u16 k.1) := by have := HS.out.keep hK (by simp); simp [World.cell?, this]
      have k1 : wr.cell? ⟨w.heap.size + 1, 1, none⟩ = some (.string k.2) := by have := HS.out.keep hK (by simp); simp [World.cell?, this]
      clear HI
      have Tw := hid (TV.out.trans' HS.out)
      obtain ⟨ps, hpd⟩ : ∃ ps, ps = pos xs k := ⟨_, rfl⟩
      rw [← hpd] at HFi hps
      clear hpd
      cases hf : fnd xs k with
      | none =>
        have e1 : getS xs k = (nvz, false) := by unfold getS; rw [hf]
        rw [e1] at HGk
        unfold nvz at HGk
        rw [hf] at hps
        have hp0 : ¬ 0 ≤ ps := by simpa using hps
        clear hps hf e1
        go_upto_region 13 with (go_at_call 24; refine (HGk.out _ Tw.out).mono ?_; rintro e w7 ⟨rfl, t7⟩; have T7 := hid t7; clear t7)
        clear k0 k1
        obtain ⟨W8, hW8⟩ : ∃ W8, W8 = w7.alloc (.cells #[.int .u16 0, .string ⟨#[]⟩, .int .i64 0, .int .i64 0, .int .i64 0, .int .i64 0, .int .i64 0] 56) := ⟨_, rfl⟩
        have T8 : Touch [] wr W8 := by rw [hW8]; exact T7.out.alloc _
        have k8 : W8.heap[w7.heap.size]? = some (.cells #[.int .u16 0, .string ⟨#[]⟩, .int .i64 0, .int .i64 0, .int .i64 0, .int .i64 0, .int .i64 0] 56 (0, 0)) := by rw [hW8]; exact heap_alloc_new _ _
        rw [← hW8]
        clear hW8
        have q7 : ∀ w', Touch [] W8 w' → w'.cell? ⟨w.heap.size, 7, none⟩ = some (.slice a1 i c1) := fun w' t => by have := ((HS.out.trans' T8).trans' t).keep hM (by simp); simp [World.cell?, this]
        have r0 : ∀ w', Touch [] W8 w' → w'.cell? ⟨w.heap.size + 1, 0, none⟩ = some (.int .u16 k.1) := fun w' t => by have := ((HS.out.trans' T8).trans' t).keep hK (by simp); simp [World.cell?, this]
        have r1 : ∀ w', Touch [] W8 w' → w'.cell? ⟨w.heap.size + 1, 1, none⟩ = some (.string k.2) := fun w' t => by have := ((HS.out.trans' T8).trans' t).keep hK (by simp); simp [World.cell?, this]
        have f0 : ∀ w', Touch [] W8 w' → w'.cell? ⟨w7.heap.size, 0, none⟩ = some (.int .u16 0) := fun w' t => by have := t.keep k8 (by simp); simp [World.cell?, this]
        have f1 : ∀ w', Touch [] W8 w' → w'.cell? ⟨w7.heap.size, 1, none⟩ = some (.string ⟨#[]⟩) := fun w' t => by have := t.keep k8 (by simp); simp [World.cell?, this]
        have f2 : ∀ w', Touch [] W8 w' → w'.cell? ⟨w7.heap.size, 2, none⟩ = some (.int .i64 0) := fun w' t => by have := t.keep k8 (by simp); simp [World.cell?, this]
        have f3 : ∀ w', Touch [] W8 w' → w'.cell? ⟨w7.heap.size, 3, none⟩ = some (.int .i64 0) := fun w' t => by have := t.keep k8 (by simp); simp [World.cell?, this]
        have f4 : ∀ w', Touch [] W8 w' → w'.cell? ⟨w7.heap.size, 4, none⟩ = some (.int .i64 0) := fun w' t => by have := t.keep k8 (by simp); simp [World.cell?, this]
        have f5 : ∀ w', Touch [] W8 w' → w'.cell? ⟨w7.heap.size, 5, none⟩ = some (.int .i64 0) := fun w' t => by have := t.keep k8 (by simp); simp [World.cell?, this]
        have f6 : ∀ w', Touch [] W8 w' → w'.cell? ⟨w7.heap.size, 6, none⟩ = some (.int .i64 0) := fun w' t => by have := t.keep k8 (by simp); simp [World.cell?, this]
        have T8w := hid (Tw.out.trans' T8)
        have s0 : Touch [] W8 W8.drew := (Touch.refl _ _).drew
        refine wp_region_H (S := fun w' => Touch [] W8 w') (by kernel_rfl) ?_
        refine wpH_take (i := 0) (v := (.bool false)) (some 96) rfl rfl (by kernel_rfl) (by kernel_rfl) (by kernel_rfl) (fun _ _ _ h => h) (Or.inl ⟨by rfl, fun w' hS => (by go_simp)⟩) s0 ?_
        try simp only [Go.Act.put, List.setIfInBounds_toArray, List.set_cons_zero, List.set_cons_succ]
        refine wpH_take (i := 1) (v := (.pointer (some ⟨w.heap.size, 7, none⟩))) (some 97) rfl rfl (by kernel_rfl) (by kernel_rfl) (by kernel_rfl) (fun _ _ _ h => h) (Or.inl ⟨by rfl, fun w' hS => (by go_simp)⟩) s0 ?_
        try simp only [Go.Act.put, List.setIfInBounds_toArray, List.set_cons_zero, List.set_cons_succ]
        refine wpH_take (i := 2) (v := (.slice a1 i c1)) (some 98) rfl rfl (by kernel_rfl) (by kernel_rfl) (by kernel_rfl) (fun _ _ _ h => h) (Or.inl ⟨by rfl, fun w' hS => (by have z0 := q7 _ hS; go_simp)⟩) s0 ?_
        try simp only [Go.Act.put, List.setIfInBounds_toArray, List.set_cons_zero, List.set_cons_succ]
        refine wpH_take (i := 3) (v := (.agg #[.int .u16 k.1, .string k.2])) (some 99) rfl rfl (by kernel_rfl) (by kernel_rfl) (by kernel_rfl) (fun _ _ _ h => h) (Or.inl ⟨by rfl, fun w' hS => (by have z0 := r0 _ hS; have z1 := r1 _ hS; go_simp)⟩) s0 ?_
        try simp only [Go.Act.put, List.setIfInBounds_toArray, List.set_cons_zero, List.set_cons_succ]
        refine wpH_call (i := 4) (o := { dst := some 100, op := Op.call { callee := Callee.value (Operand.func 32), args := #[Operand.tmp 99], argTypes := #[39] }, type := 57, pos := _, after := #[{ on := 3, ground := Ground.data }], guard := none }) (by kernel_rfl) rfl (fun K' hK => ?_)
        rw [if_pos (by rfl)]
        go_simp
        refine (HKy.out _).mono ?_
        rintro e w9 ⟨rfl, t9⟩
        have s1 := s0.trans' t9
        clear t9
        refine hK.out _ _ s1 ?_
        clear hK
        try simp only [Go.Act.put, List.setIfInBounds_toArray, List.set_cons_zero, List.set_cons_succ]
        refine wpH_call (i := 5) (o := { dst := some 101, op := Op.call { callee := Callee.value (Operand.func 31), args := #[Operand.tmp 98, Operand.tmp 100], argTypes := #[34, 57] }, type := 3, pos := _, after := #[{ on := 2, ground := Ground.data }, { on := 4, ground := Ground.data }, { on := 4, ground := Ground.chain }], guard := none }) (by kernel_rfl) rfl (fun K' hK => ?_)
        rw [if_pos (by rfl)]
        go_simp
        refine (HFi.out _ (T8w.out.trans' s1)).mono ?_
        rintro e w10 ⟨rfl, t9⟩
        have s2 := s1.trans' t9
        clear t9
        refine hK.out _ _ s2 ?_
        clear hK
        try simp only [Go.Act.put, List.setIfInBounds_toArray, List.set_cons_zero, List.set_cons_succ]
        refine wpH_take (i := 6) (v := (.bool false)) (some 102) rfl rfl (by kernel_rfl) (by kernel_rfl) (by kernel_rfl) (fun _ _ _ h => h) (Or.inl ⟨by rfl, fun w' hS => (by go_simp)⟩) s2 ?_
        try simp only [Go.Act.put, List.setIfInBounds_toArray, List.set_cons_zero, List.set_cons_succ]
        refine wpH_take (i := 7) (v := (.bool true)) (some 103) rfl rfl (by kernel_rfl) (by kernel_rfl) (by kernel_rfl) (fun _ _ _ h => h) (Or.inl ⟨by rfl, fun w' hS => (by go_simp)⟩) s2 ?_
        try simp only [Go.Act.put, List.setIfInBounds_toArray, List.set_cons_zero, List.set_cons_succ]
        refine wpH_take (i := 8) (v := (.bool true)) (some 104) rfl rfl (by kernel_rfl) (by kernel_rfl) (by kernel_rfl) (fun _ _ _ h => h) (Or.inl ⟨by rfl, fun w' hS => (by go_simp)⟩) s2 ?_
        try simp only [Go.Act.put, List.setIfInBounds_toArray, List.set_cons_zero, List.set_cons_succ]
        refine wpH_take (i := 9) (v := (.bool false)) (some 105) rfl rfl (by kernel_rfl) (by kernel_rfl) (by kernel_rfl) (fun _ _ _ h => h) (Or.inl ⟨by rfl, fun w' hS => (by go_simp)⟩) s2 ?_
        try simp only [Go.Act.put, List.setIfInBounds_toArray, List.set_cons_zero, List.set_cons_succ]
        refine wpH_take (i := 10) (v := (.bool false)) (some 106) rfl rfl (by kernel_rfl) (by kernel_rfl) (by kernel_rfl) (fun _ _ _ h => h) (Or.inl ⟨by rfl, fun w' hS => (by go_simp)⟩) s2 ?_
        try simp only [Go.Act.put, List.setIfInBounds_toArray, List.set_cons_zero, List.set_cons_succ]
        refine wpH_take (i := 11) (v := (.agg #[.int .u16 0, .string ⟨#[]⟩, .int .i64 0, .int .i64 0, .int .i64 0, .int .i64 0, .int .i64 0])) (some 107) rfl rfl (by kernel_rfl) (by kernel_rfl) (by kernel_rfl) (fun _ _ _ h => h) (Or.inl ⟨by rfl, fun w' hS => (by have z0 := f0 _ hS; have z1 := f1 _ hS; have z2 := f2 _ hS; have z3 := f3 _ hS; have z4 := f4 _ hS; have z5 := f5 _ hS; have z6 := f6 _ hS; go_simp)⟩) s2 ?_
        try simp only [Go.Act.put, List.setIfInBounds_toArray, List.set_cons_zero, List.set_cons_succ]
        refine wpH_take (i := 12) (v := (.agg #[.int .u16 0, .string ⟨#[]⟩, .int .i64 0, .int .i64 0, .int .i64 0, .int .i64 0, .int .i64 0])) (some 108) rfl rfl (by kernel_rfl) (by kernel_rfl) (by kernel_rfl) (fun _ _ _ h => h) (Or.inl ⟨by rfl, fun w' hS => (by go_simp)⟩) s2 ?_
        try simp only [Go.Act.put, List.setIfInBounds_toArray, List.set_cons_zero, List.set_cons_succ]
        refine wpH_take (i := 13) (v := (.bool true)) (some 109) rfl rfl (by kernel_rfl) (by kernel_rfl) (by kernel_rfl) (fun _ _ _ h => h) (Or.inl ⟨by rfl, fun w' hS => (by have z0 := eq56o w'; go_simp)⟩) s2 ?_
        try simp only [Go.Act.put, List.setIfInBounds_toArray, List.set_cons_zero, List.set_cons_succ]
        refine wpH_take (i := 14) (v := (.bool true)) (some 110) rfl rfl (by kernel_rfl) (by kernel_rfl) (by kernel_rfl) (fun _ _ _ h => h) (Or.inl ⟨by rfl, fun w' hS => (by go_simp)⟩) s2 ?_
        try simp only [Go.Act.put, List.setIfInBounds_toArray, List.set_cons_zero, List.set_cons_succ]
        refine wpH_take (i := 15) (v := (.bool true)) (some 111) rfl rfl (by kernel_rfl) (by kernel_rfl) (by kernel_rfl) (fun _ _ _ h => h) (Or.inl ⟨by rfl, fun w' hS => (by go_simp)⟩) s2 ?_
        try simp only [Go.Act.put, List.setIfInBounds_toArray, List.set_cons_zero, List.set_cons_succ]
        refine wpH_take (i := 16) (v := (.bool true)) (some 6) rfl rfl (by kernel_rfl) (by kernel_rfl) (by kernel_rfl) (fun _ _ _ h => h) (Or.inl ⟨by rfl, fun w' hS => (by go_simp)⟩) s2 ?_
        try simp only [Go.Act.put, List.setIfInBounds_toArray, List.set_cons_zero, List.set_cons_succ]
        refine wpAnyH_done (by kernel_rfl) ?_ _
        have S2 := hid (T8w.out.trans' s2)
        clear q7 r0 r1 f0 f1 f2 f3 f4 f5 f6 s0 s1 s2
        go_wp2
        go_ret
        exact ⟨rfl, S2.out⟩
      | some y =>
        have e1 : getS xs k = (nv (k, y), true) := by unfold getS; rw [hf]
        rw [e1] at HGk
        unfold nv at HGk
        rw [hf] at hps
        have hp0 : 0 ≤ ps := by simpa using hps
        clear hps hf e1
        go_upto_region 13 with (go_at_call 24; refine (HGk.out _ Tw.out).mono ?_; rintro e w7 ⟨rfl, t7⟩; have T7 := hid t7; clear t7)
        clear k0 k1
        obtain ⟨W8, hW8⟩ : ∃ W8, W8 = w7.alloc (.cells #[.int .u16 k.1, .string k.2, .int .i64 y.1.1, .int .i64 y.1.2.1, .int .i64 y.1.2.2.1, .int .i64 y.1.2.2.2, .int .i64 y.2] 56) := ⟨_, rfl⟩
        have T8 : Touch [] wr W8 := by rw [hW8]; exact T7.out.alloc _
        have k8 : W8.heap[w7.heap.size]? = some (.cells #[.int .u16 k.1, .string k.2, .int .i64 y.1.1, .int .i64 y.1.2.1, .int .i64 y.1.2.2.1, .int .i64 y.1.2.2.2, .int .i64 y.2] 56 (0, 0)) := by rw [hW8]; exact heap_alloc_new _ _
        rw [← hW8]
        clear hW8
        have q7 : ∀ w', Touch [] W8 w' → w'.cell? ⟨w.heap.size, 7, none⟩ = some (.slice a1 i c1) := fun w' t => by have := ((HS.out.trans' T8).trans' t).keep hM (by simp); simp [World.cell?, this]
        have r0 : ∀ w', Touch [] W8 w' → w'.cell? ⟨w.heap.size + 1, 0, none⟩ = some (.int .u16 k.1) := fun w' t => by have := ((HS.out.trans' T8).trans' t).keep hK (by simp); simp [World.cell?, this]
        have r1 : ∀ w', Touch [] W8 w' → w'.cell? ⟨w.heap.size + 1, 1, none⟩ = some (.string k.2) := fun w' t => by have := ((HS.out.trans' T8).trans' t).keep hK (by simp); simp [World.cell?, this]
        have f0 : ∀ w', Touch [] W8 w' → w'.cell? ⟨w7.heap.size, 0, none⟩ = some (.int .u16 k.1) := fun w' t => by have := t.keep k8 (by simp); simp [World.cell?, this]
        have f1 : ∀ w', Touch [] W8 w' → w'.cell? ⟨w7.heap.size, 1, none⟩ = some (.string k.2) := fun w' t => by have := t.keep k8 (by simp); simp [World.cell?, this]
        have f2 : ∀ w', Touch [] W8 w' → w'.cell? ⟨w7.heap.size, 2, none⟩ = some (.int .i64 y.1.1) := fun w' t => by have := t.keep k8 (by simp); simp [World.cell?, this]
        have f3 : ∀ w', Touch [] W8 w' → w'.cell? ⟨w7.heap.size, 3, none⟩ = some (.int .i64 y.1.2.1) := fun w' t => by have := t.keep k8 (by simp); simp [World.cell?, this]
        have f4 : ∀ w', Touch [] W8 w' → w'.cell? ⟨w7.heap.size, 4, none⟩ = some (.int .i64 y.1.2.2.1) := fun w' t => by have := t.keep k8 (by simp); simp [World.cell?, this]
        have f5 : ∀ w', Touch [] W8 w' → w'.cell? ⟨w7.heap.size, 5, none⟩ = some (.int .i64 y.1.2.2.2) := fun w' t => by have := t.keep k8 (by simp); simp [World.cell?, this]
        have f6 : ∀ w', Touch [] W8 w' → w'.cell? ⟨w7.heap.size, 6, none⟩ = some (.int .i64 y.2) := fun w' t => by have := t.keep k8 (by simp); simp [World.cell?, this]
        have T8w := hid (Tw.out.trans' T8)
        have s0 : Touch [] W8 W8.drew := (Touch.refl _ _).drew
        refine wp_region_H (S := fun w' => Touch [] W8 w') (by kernel_rfl) ?_
        refine wpH_take (i := 0) (v := (.bool true)) (some 96) rfl rfl (by kernel_rfl) (by kernel_rfl) (by kernel_rfl) (fun _ _ _ h => h) (Or.inl ⟨by rfl, fun w' hS => (by go_simp)⟩) s0 ?_
        try simp only [Go.Act.put, List.setIfInBounds_toArray, List.set_cons_zero, List.set_cons_succ]
        refine wpH_take (i := 1) (v := (.pointer (some ⟨w.heap.size, 7, none⟩))) (some 97) rfl rfl (by kernel_rfl) (by kernel_rfl) (by kernel_rfl) (fun _ _ _ h => h) (Or.inl ⟨by rfl, fun w' hS => (by go_simp)⟩) s0 ?_
        try simp only [Go.Act.put, List.setIfInBounds_toArray, List.set_cons_zero, List.set_cons_succ]
        refine wpH_take (i := 2) (v := (.slice a1 i c1)) (some 98) rfl rfl (by kernel_rfl) (by kernel_rfl) (by kernel_rfl) (fun _ _ _ h => h) (Or.inl ⟨by rfl, fun w' hS => (by have z0 := q7 _ hS; go_simp)⟩) s0 ?_
        try simp only [Go.Act.put, List.setIfInBounds_toArray, List.set_cons_zero, List.set_cons_succ]
        refine wpH_take (i := 3) (v := (.agg #[.int .u16 k.1, .string k.2])) (some 99) rfl rfl (by kernel_rfl) (by kernel_rfl) (by kernel_rfl) (fun _ _ _ h => h) (Or.inl ⟨by rfl, fun w' hS => (by have z0 := r0 _ hS; have z1 := r1 _ hS; go_simp)⟩) s0 ?_
        try simp only [Go.Act.put, List.setIfInBounds_toArray, List.set_cons_zero, List.set_cons_succ]
        refine wpH_call (i := 4) (o := { dst := some 100, op := Op.call { callee := Callee.value (Operand.func 32), args := #[Operand.tmp 99], argTypes := #[39] }, type := 57, pos := _, after := #[{ on := 3, ground := Ground.data }], guard := none }) (by kernel_rfl) rfl (fun K' hK => ?_)
        rw [if_pos (by rfl)]
        go_simp
        refine (HKy.out _).mono ?_
        rintro e w9 ⟨rfl, t9⟩
        have s1 := s0.trans' t9
        clear t9
        refine hK.out _ _ s1 ?_
        clear hK
        try simp only [Go.Act.put, List.setIfInBounds_toArray, List.set_cons_zero, List.set_cons_succ]
        refine wpH_call (i := 5) (o := { dst := some 101, op := Op.call { callee := Callee.value (Operand.func 31), args := #[Operand.tmp 98, Operand.tmp 100], argTypes := #[34, 57] }, type := 3, pos := _, after := #[{ on := 2, ground := Ground.data }, { on := 4, ground := Ground.data }, { on := 4, ground := Ground.chain }], guard := none }) (by kernel_rfl) rfl (fun K' hK => ?_)
        rw [if_pos (by rfl)]
        go_simp
        refine (HFi.out _ (T8w.out.trans' s1)).mono ?_
        rintro e w10 ⟨rfl, t9⟩
        have s2 := s1.trans' t9
        clear t9
        refine hK.out _ _ s2 ?_
        clear hK
        try simp only [Go.Act.put, List.setIfInBounds_toArray, List.set_cons_zero, List.set_cons_succ]
        refine wpH_take (i := 6) (v := (.bool true)) (some 102) rfl rfl (by kernel_rfl) (by kernel_rfl) (by kernel_rfl) (fun _ _ _ h => h) (Or.inl ⟨by rfl, fun w' hS => (by go_simp)⟩) s2 ?_
        try simp only [Go.Act.put, List.setIfInBounds_toArray, List.set_cons_zero, List.set_cons_succ]
        refine wpH_take (i := 7) (v := (.bool true)) (some 103) rfl rfl (by kernel_rfl) (by kernel_rfl) (by kernel_rfl) (fun _ _ _ h => h) (Or.inl ⟨by rfl, fun w' hS => (by go_simp)⟩) s2 ?_
        try simp only [Go.Act.put, List.setIfInBounds_toArray, List.set_cons_zero, List.set_cons_succ]
        refine wpH_take (i := 8) (v := (.bool true)) (some 104) rfl rfl (by kernel_rfl) (by kernel_rfl) (by kernel_rfl) (fun _ _ _ h => h) (Or.inl ⟨by rfl, fun w' hS => (by go_simp)⟩) s2 ?_
        try simp only [Go.Act.put, List.setIfInBounds_toArray, List.set_cons_zero, List.set_cons_succ]
        refine wpH_take (i := 9) (v := (.bool true)) (some 105) rfl rfl (by kernel_rfl) (by kernel_rfl) (by kernel_rfl) (fun _ _ _ h => h) (Or.inl ⟨by rfl, fun w' hS => (by go_simp)⟩) s2 ?_
        try simp only [Go.Act.put, List.setIfInBounds_toArray, List.set_cons_zero, List.set_cons_succ]
        refine wpH_take (i := 10) (v := (.bool true)) (some 106) rfl rfl (by kernel_rfl) (by kernel_rfl) (by kernel_rfl) (fun _ _ _ h => h) (Or.inl ⟨by rfl, fun w' hS => (by go_simp)⟩) s2 ?_
        try simp only [Go.Act.put, List.setIfInBounds_toArray, List.set_cons_zero, List.set_cons_succ]
        refine wpH_take (i := 11) (v := undef) (some 107) rfl rfl (by kernel_rfl) (by kernel_rfl) (by kernel_rfl) (fun _ _ _ h => h) (Or.inr ⟨by rfl, rfl⟩) s2 ?_
        try simp only [Go.Act.put, List.setIfInBounds_toArray, List.set_cons_zero, List.set_cons_succ]
        refine wpH_take (i := 12) (v := undef) (some 108) rfl rfl (by kernel_rfl) (by kernel_rfl) (by kernel_rfl) (fun _ _ _ h => h) (Or.inr ⟨by rfl, rfl⟩) s2 ?_
        try simp only [Go.Act.put, List.setIfInBounds_toArray, List.set_cons_zero, List.set_cons_succ]
        refine wpH_take (i := 13) (v := undef) (some 109) rfl rfl (by kernel_rfl) (by kernel_rfl) (by kernel_rfl) (fun _ _ _ h => h) (Or.inr ⟨by rfl, rfl⟩) s2 ?_
        try simp only [Go.Act.put, List.setIfInBounds_toArray, List.set_cons_zero, List.set_cons_succ]
        refine wpH_take (i := 14) (v := (.bool true)) (some 110) rfl rfl (by kernel_rfl) (by kernel_rfl) (by kernel_rfl) (fun _ _ _ h => h) (Or.inl ⟨by rfl, fun w' hS => (by go_simp)⟩) s2 ?_
        try simp only [Go.Act.put, List.setIfInBounds_toArray, List.set_cons_zero, List.set_cons_succ]
        refine wpH_take (i := 15) (v := (.bool true)) (some 111) rfl rfl (by kernel_rfl) (by kernel_rfl) (by kernel_rfl) (fun _ _ _ h => h) (Or.inl ⟨by rfl, fun w' hS => (by go_simp)⟩) s2 ?_
        try simp only [Go.Act.put, List.setIfInBounds_toArray, List.set_cons_zero, List.set_cons_succ]
        refine wpH_take (i := 16) (v := (.bool true)) (some 6) rfl rfl (by kernel_rfl) (by kernel_rfl) (by kernel_rfl) (fun _ _ _ h => h) (Or.inl ⟨by rfl, fun w' hS => (by go_simp)⟩) s2 ?_
        try simp only [Go.Act.put, List.setIfInBounds_toArray, List.set_cons_zero, List.set_cons_succ]
        refine wpAnyH_done (by kernel_rfl) ?_ _
        have S2 := hid (T8w.out.trans' s2)
        clear q7 r0 r1 f0 f1 f2 f3 f4 f5 f6 s0 s1 s2
        go_wp2
        go_ret
        exact ⟨rfl, S2.out⟩
end Go.Proofs.Ytopepalpmkeffaa
