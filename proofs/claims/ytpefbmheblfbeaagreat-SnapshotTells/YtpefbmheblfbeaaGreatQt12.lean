/- The contract of the statements' own stands, of a memo and the document's that keep the same; no conditions but those that it states. -/
import Derived.Test.YtpefbmheblfbeaaGreatQt06
import Derived.Test.YtpefbmheblfbeaaGreatQt03
import Derived.Test.YtpefbmheblfbeaaGreatQt01
import Derived.Test.YtpefbmheblfbeaaGreatQt11
namespace Go.Proofs.YtpefbmheblfbeaaGreat.Sn
open Go.RowKit Go.Sort Go.Shelf Me
set_option linter.unusedVariables false
set_option linter.unusedSimpArgs false
theorem tcellS {w w' : World} (t : Touch [] w w') {a : Addr} {v : Value} (h : w.cell? a = some v) : w'.cell? a = some v := by
  have hb : a.block < w.heap.size := Classical.byContradiction fun hn => by
    simp [World.cell?, Array.getElem?_eq_none (Nat.le_of_not_lt hn)] at h
  rw [World.cell?_of_block (t.block _ hb (by simp))]
  exact h
theorem own7_cell {w : World} {B t : Nat} {a : Option Addr} {n c : Nat} {xs : List En} (h : w.ownsRow B t 7 (.slice a n c) xs.length (cellsN xs)) {i : Nat} (hi : i < xs.length) : ∃ g off, a = some ⟨g, off, none⟩ ∧ w.cell? ⟨g, off + i * 7, none⟩ = some (.int .u16 xs[i].1.1) ∧ w.cell? ⟨g, off + i * 7 + 1, none⟩ = some (.string xs[i].1.2) ∧ w.cell? ⟨g, off + i * 7 + 2, none⟩ = some (.int .i64 xs[i].2.1.1) ∧ w.cell? ⟨g, off + i * 7 + 3, none⟩ = some (.int .i64 xs[i].2.1.2.1) ∧ w.cell? ⟨g, off + i * 7 + 4, none⟩ = some (.int .i64 xs[i].2.1.2.2.1) ∧ w.cell? ⟨g, off + i * 7 + 5, none⟩ = some (.int .i64 xs[i].2.1.2.2.2) ∧ w.cell? ⟨g, off + i * 7 + 6, none⟩ = some (.int .i64 xs[i].2.2) := by
  obtain ⟨a', c', e1, _, h3⟩ := RN.own h
  obtain ⟨g, off, e2, hat⟩ := h3 (by omega)
  cases e1
  have q := fun j (hj : j < 7) (y : Value) (hy : (nl xs[i])[j]? = some y) => hat.cell i j hi hj hy
  exact ⟨g, off, e2, by simpa using q 0 (by omega) _ rfl, by simpa [Nat.add_assoc] using q 1 (by omega) _ rfl, by simpa [Nat.add_assoc] using q 2 (by omega) _ rfl, by simpa [Nat.add_assoc] using q 3 (by omega) _ rfl, by simpa [Nat.add_assoc] using q 4 (by omega) _ rfl, by simpa [Nat.add_assoc] using q 5 (by omega) _ rfl, by simpa [Nat.add_assoc] using q 6 (by omega) _ rfl⟩
set_option maxRecDepth 20000 in
set_option maxHeartbeats 8000000 in
theorem stands_ {w : World} {m : Nat} {F : List Nat} {c : Cf} {now : Int} {xs : List En} {v : Value} (h : Mq w m F c now xs) (hv : RN 88 w v xs) : Calls Tryz.prog 14 #[PT m, mv c now v] w fun e w' => e = .returned (.bool true) ∧ Touch [] w w' := by
  have hl : xs.length ≤ 65536 := by obtain ⟨b, o, G, _, hb⟩ := id h; exact hb.len
  have HNO := hid (fun w' (t : Touch [] w w') => show Calls Tryz.prog 22 #[PT m] w' fun e w'' => e = .returned (.int .i64 now) ∧ w'' = w' from by obtain ⟨b, o, G, _, hb⟩ := id h; exact now26 w' m c now b o (hb.keep0 t).md)
  have HCF := hid (fun w' (t : Touch [] w w') => show Calls Tryz.prog 35 #[PT m] w' fun e w'' => e = .returned (cv c) ∧ Touch [] w' w'' from by obtain ⟨b, o, G, _, hb⟩ := id h; exact config27 w' m c now b o (hb.keep0 t).md)
  have HLN := hid (fun w' (t : Touch [] w w') => show Calls Tryz.prog 54 #[PT m] w' fun e w'' => e = .returned (.int .i64 (xs.length : Int)) ∧ w'' = w' from by obtain ⟨b, o, G, _, hb⟩ := id h; exact len19 w' m b o G c now xs (hb.keep0 t))
  have HAL := hid (fun w' (t : Touch [] w w') => allM w' m F c now xs (h.keep0 t))
  have HGV := hid (fun w' y => given_ w' y)
  have HRN := hid (fun w' (t : Touch [] w w') => RN.keep hv t)
  obtain ⟨a, cp, rfl, hcp, hat⟩ := id hv
  have HG : Hid (0 < xs.length → ∃ g off, a = some ⟨g, off, none⟩) := hid (fun hp => by obtain ⟨g, off, e, _⟩ := hat hp; exact ⟨g, off, e⟩)
  clear h hv hat hcp
  obtain ⟨n, hn⟩ : ∃ n, n = xs.length := ⟨_, rfl⟩
  rw [← hn] at HLN ⊢
  have HN := hid hn
  have HNL : Hid (n ≤ 65536) := hid (by omega)
  rw [← hn] at HRN
  clear hn hl
  unfold cv at HCF
  unfold PT at *
  unfold mv nv at *
  obtain ⟨V, hV⟩ : ∃ V, V = w.alloc (.cells #[.int .i64 c.t, .int .i64 c.n, .int .i64 c.s, .int .i64 c.e, .int .i64 c.f, .int .i64 c.b, .int .i64 c.d, .int .i64 now, .slice a n cp] 32) := ⟨_, rfl⟩
  have tV : Touch [] w V := by rw [hV]; exact (Touch.refl _ _).alloc _
  have hb : V.heap[w.heap.size]? = some (.cells #[.int .i64 c.t, .int .i64 c.n, .int .i64 c.s, .int .i64 c.e, .int .i64 c.f, .int .i64 c.b, .int .i64 c.d, .int .i64 now, .slice a n cp] 32 (0, 0)) := by rw [hV]; exact heap_alloc_new w _
  have HTV := hid tV
  have HB := hid (fun w' (t : Touch [] V w') => t.keep hb (by simp))
  clear tV hb
  go_enter Tryz.func14, Tryz.ntmps14
  go_upto_region 1 with fail
  rw [← hV]
  clear hV
  have Q0 : ∀ w' : World, Touch [] V w' → w'.cell? ⟨w.heap.size, 0, none⟩ = some (.int .i64 c.t) := fun w' h => cell_of (n := 0) (HB.out w' h) rfl
  have Q1 : ∀ w' : World, Touch [] V w' → w'.cell? ⟨w.heap.size, 1, none⟩ = some (.int .i64 c.n) := fun w' h => cell_of (n := 1) (HB.out w' h) rfl
  have Q2 : ∀ w' : World, Touch [] V w' → w'.cell? ⟨w.heap.size, 2, none⟩ = some (.int .i64 c.s) := fun w' h => cell_of (n := 2) (HB.out w' h) rfl
  have Q3 : ∀ w' : World, Touch [] V w' → w'.cell? ⟨w.heap.size, 3, none⟩ = some (.int .i64 c.e) := fun w' h => cell_of (n := 3) (HB.out w' h) rfl
  have Q4 : ∀ w' : World, Touch [] V w' → w'.cell? ⟨w.heap.size, 4, none⟩ = some (.int .i64 c.f) := fun w' h => cell_of (n := 4) (HB.out w' h) rfl
  have Q5 : ∀ w' : World, Touch [] V w' → w'.cell? ⟨w.heap.size, 5, none⟩ = some (.int .i64 c.b) := fun w' h => cell_of (n := 5) (HB.out w' h) rfl
  have Q6 : ∀ w' : World, Touch [] V w' → w'.cell? ⟨w.heap.size, 6, none⟩ = some (.int .i64 c.d) := fun w' h => cell_of (n := 6) (HB.out w' h) rfl
  have Q7 : ∀ w' : World, Touch [] V w' → w'.cell? ⟨w.heap.size, 7, none⟩ = some (.int .i64 now) := fun w' h => cell_of (n := 7) (HB.out w' h) rfl
  have Q8 : ∀ w' : World, Touch [] V w' → w'.cell? ⟨w.heap.size, 8, none⟩ = some (.slice a n cp) := fun w' h => cell_of (n := 8) (HB.out w' h) rfl
  have s0 : Touch [] V V.drew := (Touch.refl _ _).drew
  refine wp_region_H (S := fun w' => Touch [] V w') (by kernel_rfl) ?_
  generalize V.drew = V0 at *
  refine wpH_take (i := 0) (v := (.pointer (some ⟨m, 0, none⟩))) (some 7) rfl rfl (by kernel_rfl) (by kernel_rfl) (by kernel_rfl) (fun _ _ _ h => h) (Or.inl ⟨by rfl, fun w' hS => (by go_simp)⟩) s0 ?_
  try simp only [Go.Act.put, List.setIfInBounds_toArray, List.set_cons_zero, List.set_cons_succ]
  refine wpH_take (i := 1) (v := (.bool false)) (some 8) rfl rfl (by kernel_rfl) (by kernel_rfl) (by kernel_rfl) (fun _ _ _ h => h) (Or.inl ⟨by rfl, fun w' hS => (by go_simp)⟩) s0 ?_
  try simp only [Go.Act.put, List.setIfInBounds_toArray, List.set_cons_zero, List.set_cons_succ]
  refine wpH_take (i := 2) (v := (.bool false)) (some 9) rfl rfl (by kernel_rfl) (by kernel_rfl) (by kernel_rfl) (fun _ _ _ h => h) (Or.inl ⟨by rfl, fun w' hS => (by go_simp)⟩) s0 ?_
  try simp only [Go.Act.put, List.setIfInBounds_toArray, List.set_cons_zero, List.set_cons_succ]
  refine wpH_take (i := 3) (v := (.pointer (some ⟨m, 0, none⟩))) (some 10) rfl rfl (by kernel_rfl) (by kernel_rfl) (by kernel_rfl) (fun _ _ _ h => h) (Or.inl ⟨by rfl, fun w' hS => (by go_simp)⟩) s0 ?_
  try simp only [Go.Act.put, List.setIfInBounds_toArray, List.set_cons_zero, List.set_cons_succ]
  refine wpH_take (i := 5) (v := (.pointer (some ⟨w.heap.size, 7, none⟩))) (some 12) rfl rfl (by kernel_rfl) (by kernel_rfl) (by kernel_rfl) (fun _ _ _ h => h) (Or.inl ⟨by rfl, fun w' hS => (by go_simp)⟩) s0 ?_
  try simp only [Go.Act.put, List.setIfInBounds_toArray, List.set_cons_zero, List.set_cons_succ]
  refine wpH_take (i := 6) (v := (.int .i64 now)) (some 13) rfl rfl (by kernel_rfl) (by kernel_rfl) (by kernel_rfl) (fun _ _ _ h => h) (Or.inl ⟨by rfl, fun w' hS => (by have z0 := Q7 _ hS; go_simp)⟩) s0 ?_
  try simp only [Go.Act.put, List.setIfInBounds_toArray, List.set_cons_zero, List.set_cons_succ]
  refine wpH_call (i := 4) (o := { dst := some 11, op := Op.call { callee := Callee.value (Operand.func 22), args := #[Operand.tmp 10], argTypes := #[28] }, type := 2, pos := _, after := #[{ on := 3, ground := Ground.data }, { on := 2, ground := Ground.chain }, { on := 2, ground := Ground.guard }], guard := some (2, false) }) (by kernel_rfl) rfl (fun K' hK => ?_)
  rw [if_pos (by rfl)]
  go_simp
  refine (HNO.out _ (HTV.out.trans' s0)).mono ?_
  rintro e u4 ⟨rfl, e4⟩
  rw [e4]
  clear e4 u4
  refine hK.out _ _ s0 ?_
  clear hK
  try simp only [Go.Act.put, List.setIfInBounds_toArray, List.set_cons_zero, List.set_cons_succ]
  refine wpH_take (i := 7) (v := (.bool false)) (some 14) rfl rfl (by kernel_rfl) (by kernel_rfl) (by kernel_rfl) (fun _ _ _ h => h) (Or.inl ⟨by rfl, fun w' hS => (by go_simp)⟩) s0 ?_
  try simp only [Go.Act.put, List.setIfInBounds_toArray, List.set_cons_zero, List.set_cons_succ]
  refine wpH_take (i := 8) (v := (.bool false)) (some 15) rfl rfl (by kernel_rfl) (by kernel_rfl) (by kernel_rfl) (fun _ _ _ h => h) (Or.inl ⟨by rfl, fun w' hS => (by go_simp)⟩) s0 ?_
  try simp only [Go.Act.put, List.setIfInBounds_toArray, List.set_cons_zero, List.set_cons_succ]
  refine wpH_take (i := 9) (v := (.bool false)) (some 16) rfl rfl (by kernel_rfl) (by kernel_rfl) (by kernel_rfl) (fun _ _ _ h => h) (Or.inl ⟨by rfl, fun w' hS => (by go_simp)⟩) s0 ?_
  try simp only [Go.Act.put, List.setIfInBounds_toArray, List.set_cons_zero, List.set_cons_succ]
  refine wpH_take (i := 10) (v := (.pointer (some ⟨m, 0, none⟩))) (some 17) rfl rfl (by kernel_rfl) (by kernel_rfl) (by kernel_rfl) (fun _ _ _ h => h) (Or.inl ⟨by rfl, fun w' hS => (by go_simp)⟩) s0 ?_
  try simp only [Go.Act.put, List.setIfInBounds_toArray, List.set_cons_zero, List.set_cons_succ]
  refine wpH_take (i := 12) (v := (.pointer (some ⟨w.heap.size, 0, none⟩))) (some 19) rfl rfl (by kernel_rfl) (by kernel_rfl) (by kernel_rfl) (fun _ _ _ h => h) (Or.inl ⟨by rfl, fun w' hS => (by go_simp)⟩) s0 ?_
  try simp only [Go.Act.put, List.setIfInBounds_toArray, List.set_cons_zero, List.set_cons_succ]
  refine wpH_take (i := 13) (v := (.agg #[.int .i64 c.t, .int .i64 c.n, .int .i64 c.s, .int .i64 c.e, .int .i64 c.f, .int .i64 c.b, .int .i64 c.d])) (some 20) rfl rfl (by kernel_rfl) (by kernel_rfl) (by kernel_rfl) (fun _ _ _ h => h) (Or.inl ⟨by rfl, fun w' hS => (by have z0 := Q0 _ hS; have z1 := Q1 _ hS; have z2 := Q2 _ hS; have z3 := Q3 _ hS; have z4 := Q4 _ hS; have z5 := Q5 _ hS; have z6 := Q6 _ hS; go_simp)⟩) s0 ?_
  try simp only [Go.Act.put, List.setIfInBounds_toArray, List.set_cons_zero, List.set_cons_succ]
  refine wpH_call (i := 11) (o := { dst := some 18, op := Op.call { callee := Callee.value (Operand.func 35), args := #[Operand.tmp 17], argTypes := #[28] }, type := 23, pos := _, after := #[{ on := 10, ground := Ground.data }, { on := 9, ground := Ground.chain }, { on := 9, ground := Ground.guard }], guard := some (9, false) }) (by kernel_rfl) rfl (fun K' hK => ?_)
  rw [if_pos (by rfl)]
  go_simp
  refine (HCF.out _ (HTV.out.trans' s0)).mono ?_
  rintro e u11 ⟨rfl, t11⟩
  have s2 := s0.trans' t11
  clear t11
  refine hK.out _ _ s2 ?_
  clear hK
  try simp only [Go.Act.put, List.setIfInBounds_toArray, List.set_cons_zero, List.set_cons_succ]
  refine wpH_take (i := 14) (v := (.bool false)) (some 21) rfl rfl (by kernel_rfl) (by kernel_rfl) (by kernel_rfl) (fun _ _ _ h => h) (Or.inl ⟨by rfl, fun w' hS => (by go_simp)⟩) s2 ?_
  try simp only [Go.Act.put, List.setIfInBounds_toArray, List.set_cons_zero, List.set_cons_succ]
  refine wpH_take (i := 15) (v := (.bool false)) (some 22) rfl rfl (by kernel_rfl) (by kernel_rfl) (by kernel_rfl) (fun _ _ _ h => h) (Or.inl ⟨by rfl, fun w' hS => (by go_simp)⟩) s2 ?_
  try simp only [Go.Act.put, List.setIfInBounds_toArray, List.set_cons_zero, List.set_cons_succ]
  refine wpH_take (i := 16) (v := (.bool false)) (some 23) rfl rfl (by kernel_rfl) (by kernel_rfl) (by kernel_rfl) (fun _ _ _ h => h) (Or.inl ⟨by rfl, fun w' hS => (by go_simp)⟩) s2 ?_
  try simp only [Go.Act.put, List.setIfInBounds_toArray, List.set_cons_zero, List.set_cons_succ]
  refine wpH_take (i := 17) (v := (.pointer (some ⟨m, 0, none⟩))) (some 24) rfl rfl (by kernel_rfl) (by kernel_rfl) (by kernel_rfl) (fun _ _ _ h => h) (Or.inl ⟨by rfl, fun w' hS => (by go_simp)⟩) s2 ?_
  try simp only [Go.Act.put, List.setIfInBounds_toArray, List.set_cons_zero, List.set_cons_succ]
  refine wpH_take (i := 19) (v := (.pointer (some ⟨w.heap.size, 8, none⟩))) (some 26) rfl rfl (by kernel_rfl) (by kernel_rfl) (by kernel_rfl) (fun _ _ _ h => h) (Or.inl ⟨by rfl, fun w' hS => (by go_simp)⟩) s2 ?_
  try simp only [Go.Act.put, List.setIfInBounds_toArray, List.set_cons_zero, List.set_cons_succ]
  refine wpH_take (i := 20) (v := (.slice a n cp)) (some 27) rfl rfl (by kernel_rfl) (by kernel_rfl) (by kernel_rfl) (fun _ _ _ h => h) (Or.inl ⟨by rfl, fun w' hS => (by have z0 := Q8 _ hS; go_simp)⟩) s2 ?_
  try simp only [Go.Act.put, List.setIfInBounds_toArray, List.set_cons_zero, List.set_cons_succ]
  refine wpH_take (i := 21) (v := (.int .i64 (n : Nat))) (some 28) rfl rfl (by kernel_rfl) (by kernel_rfl) (by kernel_rfl) (fun _ _ _ h => h) (Or.inl ⟨by rfl, fun w' hS => (by go_simp)⟩) s2 ?_
  try simp only [Go.Act.put, List.setIfInBounds_toArray, List.set_cons_zero, List.set_cons_succ]
  refine wpH_call (i := 18) (o := { dst := some 25, op := Op.call { callee := Callee.value (Operand.func 54), args := #[Operand.tmp 24], argTypes := #[28] }, type := 3, pos := _, after := #[{ on := 17, ground := Ground.data }, { on := 16, ground := Ground.chain }, { on := 16, ground := Ground.guard }], guard := some (16, false) }) (by kernel_rfl) rfl (fun K' hK => ?_)
  rw [if_pos (by rfl)]
  go_simp
  refine (HLN.out _ (HTV.out.trans' s2)).mono ?_
  rintro e u18 ⟨rfl, e18⟩
  rw [e18]
  clear e18 u18
  refine hK.out _ _ s2 ?_
  clear hK
  try simp only [Go.Act.put, List.setIfInBounds_toArray, List.set_cons_zero, List.set_cons_succ]
  refine wpH_take (i := 22) (v := (.bool false)) (some 29) rfl rfl (by kernel_rfl) (by kernel_rfl) (by kernel_rfl) (fun _ _ _ h => h) (Or.inl ⟨by rfl, fun w' hS => (by go_simp)⟩) s2 ?_
  try simp only [Go.Act.put, List.setIfInBounds_toArray, List.set_cons_zero, List.set_cons_succ]
  refine wpH_take (i := 23) (v := (.bool false)) (some 30) rfl rfl (by kernel_rfl) (by kernel_rfl) (by kernel_rfl) (fun _ _ _ h => h) (Or.inl ⟨by rfl, fun w' hS => (by go_simp)⟩) s2 ?_
  try simp only [Go.Act.put, List.setIfInBounds_toArray, List.set_cons_zero, List.set_cons_succ]
  refine wpAnyH_done (by kernel_rfl) ?_ _
  have T1 := hid s2
  clear s0 Q0 Q1 Q2 Q3 Q4 Q5 Q6 Q7 Q8 HNO HCF HLN
  go_wp2_with (go_at_call 38; refine (HAL.out _ (HTV.out.trans' T1.out)).mono ?_; rintro e w2 ⟨v2, rfl, hq2⟩; obtain ⟨a2, c2, e2⟩ := own_form hq2.1; subst e2; have HQ2 := hid hq2; clear hq2; rw [← HN.out])
  go_loopw [34] (fun si wr => ∃ i : Nat, si = .int .i64 i ∧ i ≤ n ∧ Hid (Touch [] w2 wr)) (fun si _ => n - (intOf si).toNat)
  case atStart => exact ⟨0, rfl, Nat.zero_le _, hid (Touch.refl _ _)⟩
  case round =>
    obtain ⟨i, rfl, hi, HJ⟩ := hrel
    obtain ⟨wo, hwo⟩ : ∃ wo, wo = wr := ⟨_, rfl⟩
    rw [← hwo] at HJ ⊢
    clear hwo wr
    have hnl := HNL.out
    by_cases hlt : i < n
    · have hz : (i : Int) < (n : Int) := by omega
      have hix : i < xs.length := by rw [← HN.out]; exact hlt
      obtain ⟨g, off, rfl⟩ := HG.out (by omega)
      have hat := (HRN.out _ ((HTV.out.trans' T1.out).trans' (HQ2.out.2.trans' HJ.out))).at1 (by omega)
      have hr0 := hat.cell i 0 hix (by omega) rfl
      have hr1 := hat.cell i 1 hix (by omega) rfl
      have hr2 := hat.cell i 2 hix (by omega) rfl
      have hr3 := hat.cell i 3 hix (by omega) rfl
      have hr4 := hat.cell i 4 hix (by omega) rfl
      have hr5 := hat.cell i 5 hix (by omega) rfl
      have hr6 := hat.cell i 6 hix (by omega) rfl
      obtain ⟨g2, o2, rfl, k0, k1, k2, k3, k4, k5, k6⟩ := own7_cell (own_touch HQ2.out.1 HJ.out (fun _ _ e => by cases e)) hix
      rw [Nat.add_zero] at hr0
      simp only [← Nat.add_assoc] at hr1 hr2 hr3 hr4 hr5 hr6
      have HGi := hid (fun w' => HGV.out w' xs[i])
      have tB := HB.out wo ((T1.out.trans' HQ2.out.2).trans' HJ.out)
      clear hat
      generalize xs[i] = x at *
      go_upto_region 6 with fail
      clear k0 k1 k2 k3 k4 k5 k6
      obtain ⟨G6, hG6⟩ : ∃ G6, G6 = wo.heap.size := ⟨_, rfl⟩
      obtain ⟨V6, hV6⟩ : ∃ V6, V6 = (wo.alloc (.cells #[.int .u16 x.1.1, .string x.1.2, .int .i64 x.2.1.1, .int .i64 x.2.1.2.1, .int .i64 x.2.1.2.2.1, .int .i64 x.2.1.2.2.2, .int .i64 x.2.2] 60)).drew := ⟨_, rfl⟩
      have t6 : Touch [] wo V6 := by rw [hV6]; exact ((Touch.refl _ _).alloc _).drew
      have h6 : V6.heap[G6]? = some (.cells #[.int .u16 x.1.1, .string x.1.2, .int .i64 x.2.1.1, .int .i64 x.2.1.2.1, .int .i64 x.2.1.2.2.1, .int .i64 x.2.1.2.2.2, .int .i64 x.2.2] 60 (0, 0)) := by rw [hV6, hG6]; exact heap_alloc_new wo _
      have q8 := t6.keep tB (by simp)
      have G0 : ∀ w' : World, Touch [] V6 w' → w'.cell? ⟨G6, 0, none⟩ = some (.int .u16 x.1.1) := fun w' h => cell_of (n := 0) (h.keep h6 (by simp)) rfl
      have G1 : ∀ w' : World, Touch [] V6 w' → w'.cell? ⟨G6, 1, none⟩ = some (.string x.1.2) := fun w' h => cell_of (n := 1) (h.keep h6 (by simp)) rfl
      have G2 : ∀ w' : World, Touch [] V6 w' → w'.cell? ⟨G6, 2, none⟩ = some (.int .i64 x.2.1.1) := fun w' h => cell_of (n := 2) (h.keep h6 (by simp)) rfl
      have G3 : ∀ w' : World, Touch [] V6 w' → w'.cell? ⟨G6, 3, none⟩ = some (.int .i64 x.2.1.2.1) := fun w' h => cell_of (n := 3) (h.keep h6 (by simp)) rfl
      have G4 : ∀ w' : World, Touch [] V6 w' → w'.cell? ⟨G6, 4, none⟩ = some (.int .i64 x.2.1.2.2.1) := fun w' h => cell_of (n := 4) (h.keep h6 (by simp)) rfl
      have G5 : ∀ w' : World, Touch [] V6 w' → w'.cell? ⟨G6, 5, none⟩ = some (.int .i64 x.2.1.2.2.2) := fun w' h => cell_of (n := 5) (h.keep h6 (by simp)) rfl
      have G6 : ∀ w' : World, Touch [] V6 w' → w'.cell? ⟨G6, 6, none⟩ = some (.int .i64 x.2.2) := fun w' h => cell_of (n := 6) (h.keep h6 (by simp)) rfl
      have Q8 : ∀ w' : World, Touch [] V6 w' → w'.cell? ⟨w.heap.size, 8, none⟩ = some (.slice (some ⟨g, off, none⟩) n cp) := fun w' h => cell_of (n := 8) (h.keep q8 (by simp)) rfl
      have R0 : ∀ w' : World, Touch [] V6 w' → w'.cell? ⟨g, off + i * 7, none⟩ = some (.int .u16 x.1.1) := fun w' h => tcellS (t6.trans' h) hr0
      have R1 : ∀ w' : World, Touch [] V6 w' → w'.cell? ⟨g, off + i * 7 + 1, none⟩ = some (.string x.1.2) := fun w' h => tcellS (t6.trans' h) hr1
      have R2 : ∀ w' : World, Touch [] V6 w' → w'.cell? ⟨g, off + i * 7 + 2, none⟩ = some (.int .i64 x.2.1.1) := fun w' h => tcellS (t6.trans' h) hr2
      have R3 : ∀ w' : World, Touch [] V6 w' → w'.cell? ⟨g, off + i * 7 + 3, none⟩ = some (.int .i64 x.2.1.2.1) := fun w' h => tcellS (t6.trans' h) hr3
      have R4 : ∀ w' : World, Touch [] V6 w' → w'.cell? ⟨g, off + i * 7 + 4, none⟩ = some (.int .i64 x.2.1.2.2.1) := fun w' h => tcellS (t6.trans' h) hr4
      have R5 : ∀ w' : World, Touch [] V6 w' → w'.cell? ⟨g, off + i * 7 + 5, none⟩ = some (.int .i64 x.2.1.2.2.2) := fun w' h => tcellS (t6.trans' h) hr5
      have R6 : ∀ w' : World, Touch [] V6 w' → w'.cell? ⟨g, off + i * 7 + 6, none⟩ = some (.int .i64 x.2.2) := fun w' h => tcellS (t6.trans' h) hr6
      have s6 : Touch [] V6 V6 := Touch.refl _ _
      refine wp_region_H (S := fun w' => Touch [] V6 w') (by kernel_rfl) ?_
      rw [← hG6, ← hV6]
      have HT6 := hid t6
      clear hG6 hV6 h6 q8 tB t6 hr0 hr1 hr2 hr3 hr4 hr5 hr6
      refine wpH_take (i := 0) (v := (.agg #[.int .u16 x.1.1, .string x.1.2, .int .i64 x.2.1.1, .int .i64 x.2.1.2.1, .int .i64 x.2.1.2.2.1, .int .i64 x.2.1.2.2.2, .int .i64 x.2.2])) (some 39) rfl rfl (by kernel_rfl) (by kernel_rfl) (by kernel_rfl) (fun _ _ _ h => h) (Or.inl ⟨by rfl, fun w' hS => (by have z0 := G0 _ hS; have z1 := G1 _ hS; have z2 := G2 _ hS; have z3 := G3 _ hS; have z4 := G4 _ hS; have z5 := G5 _ hS; have z6 := G6 _ hS; go_simp)⟩) s6 ?_
      try simp only [Go.Act.put, List.setIfInBounds_toArray, List.set_cons_zero, List.set_cons_succ]
      refine wpH_take (i := 2) (v := (.pointer (some ⟨w.heap.size, 8, none⟩))) (some 41) rfl rfl (by kernel_rfl) (by kernel_rfl) (by kernel_rfl) (fun _ _ _ h => h) (Or.inl ⟨by rfl, fun w' hS => (by go_simp)⟩) s6 ?_
      try simp only [Go.Act.put, List.setIfInBounds_toArray, List.set_cons_zero, List.set_cons_succ]
      refine wpH_take (i := 3) (v := (.slice (some ⟨g, off, none⟩) n cp)) (some 42) rfl rfl (by kernel_rfl) (by kernel_rfl) (by kernel_rfl) (fun _ _ _ h => h) (Or.inl ⟨by rfl, fun w' hS => (by have z0 := Q8 _ hS; go_simp)⟩) s6 ?_
      try simp only [Go.Act.put, List.setIfInBounds_toArray, List.set_cons_zero, List.set_cons_succ]
      refine wpH_take (i := 4) (v := (.int .i64 (i : Nat))) (some 43) rfl rfl (by kernel_rfl) (by kernel_rfl) (by kernel_rfl) (fun _ _ _ h => h) (Or.inl ⟨by rfl, fun w' hS => (by go_simp)⟩) s6 ?_
      try simp only [Go.Act.put, List.setIfInBounds_toArray, List.set_cons_zero, List.set_cons_succ]
      refine wpH_take (i := 5) (v := (.pointer (some ⟨g, off + i * 7, none⟩))) (some 44) rfl rfl (by kernel_rfl) (by kernel_rfl) (by kernel_rfl) (fun _ _ _ h => h) (Or.inl ⟨by rfl, fun w' hS => (by go_simp)⟩) s6 ?_
      try simp only [Go.Act.put, List.setIfInBounds_toArray, List.set_cons_zero, List.set_cons_succ]
      refine wpH_take (i := 6) (v := (.agg #[.int .u16 x.1.1, .string x.1.2, .int .i64 x.2.1.1, .int .i64 x.2.1.2.1, .int .i64 x.2.1.2.2.1, .int .i64 x.2.1.2.2.2, .int .i64 x.2.2])) (some 45) rfl rfl (by kernel_rfl) (by kernel_rfl) (by kernel_rfl) (fun _ _ _ h => h) (Or.inl ⟨by rfl, fun w' hS => (by have z0 := R0 _ hS; have z1 := R1 _ hS; have z2 := R2 _ hS; have z3 := R3 _ hS; have z4 := R4 _ hS; have z5 := R5 _ hS; have z6 := R6 _ hS; go_simp)⟩) s6 ?_
      try simp only [Go.Act.put, List.setIfInBounds_toArray, List.set_cons_zero, List.set_cons_succ]
      refine wpH_call (i := 1) (o := { dst := some 40, op := Op.call { callee := Callee.value (Operand.func 32), args := #[Operand.tmp 39], argTypes := #[60] }, type := 88, pos := _, after := #[{ on := 0, ground := Ground.data }], guard := none }) (by kernel_rfl) rfl (fun K' hK => ?_)
      rw [if_pos (by rfl)]
      go_simp
      refine (HGi.out _).mono ?_
      rintro e u1 ⟨rfl, t1⟩
      have s7 := s6.trans' t1
      clear t1
      refine hK.out _ _ s7 ?_
      clear hK
      try simp only [Go.Act.put, List.setIfInBounds_toArray, List.set_cons_zero, List.set_cons_succ]
      refine wpH_take (i := 7) (v := (.bool false)) (some 46) rfl rfl (by kernel_rfl) (by kernel_rfl) (by kernel_rfl) (fun _ _ _ h => h) (Or.inl ⟨by rfl, fun w' hS => (by go_simp)⟩) s7 ?_
      try simp only [Go.Act.put, List.setIfInBounds_toArray, List.set_cons_zero, List.set_cons_succ]
      refine wpAnyH_done (by kernel_rfl) ?_ _
      have T7 := hid s7
      go_wp2_with fail
      go_roundw
      case rel => exact ⟨i + 1, by go_num, by omega, hid ((HJ.out.trans' HT6.out).trans' T7.out)⟩
      case measure => simp [intOf]; omega
    · have hz : ¬ (i : Int) < (n : Int) := by omega
      go_wp2_with fail
      go_ret
      exact ⟨rfl, (HTV.out.trans' T1.out).trans' (HQ2.out.2.trans' HJ.out)⟩
end Go.Proofs.YtpefbmheblfbeaaGreat.Sn
/- The statements' own look that the program is awake: it is; no conditions. -/
namespace Go.Proofs.YtpefbmheblfbeaaGreat.Sn
open Go.RowKit Go.Sort
set_option linter.unusedVariables false
theorem n300 : numL 300 = [172, 2] := by
  rw [numL_go (by omega), numL_end (by omega)]; decide
theorem take300 : takeAt ⟨#[172, 2]⟩ 0 = some (300, 2) := by decide
theorem awake_ (w : World) : Calls Tryz.prog 8 #[] w fun e w' => e = .returned (.bool true) ∧ Touch [] w w' := by
  have H1 := hid (take_ w ⟨#[172, 2]⟩ 0 (by decide) (by omega) (by omega))
  rw [take300] at H1
  unfold takeV at H1
  have H2 := hid (number_ w 300 (by omega))
  rw [n300] at H2
  have H3 : Hid (∀ w, Calls Tryz.prog 30 #[.int .i64 (-1)] w fun e w' => e = .returned (.int .u64 1) ∧ w' = w) := hid (fun w => sign_ w (-1) (by omega) (by omega))
  go_enter Tryz.func8, Tryz.ntmps8
  go_wp2_with (first
    | (go_at_call 28; refine H1.out.mono ?_; rintro e w1 ⟨rfl, rfl⟩)
    | (go_at_call 29; refine H2.out.mono ?_; rintro e w2 ⟨rfl, T2⟩)
    | (go_at_call 30; refine (H3.out _).mono ?_; rintro e w3 ⟨rfl, rfl⟩))
  go_ret
  exact ⟨rfl, T2⟩
end Go.Proofs.YtpefbmheblfbeaaGreat.Sn
/- The walk of SnapshotTells; the numbers are of 64 bits, the list and the text no longer than a slice and a text may be. -/
namespace Go.Proofs.YtpefbmheblfbeaaGreat.Sn
open Go.RowKit Go.Sort Go.Shelf Me
set_option linter.unusedVariables false
set_option linter.unusedSimpArgs false
theorem rd5_er (s : ByteArray) : (rd5 s).er = (finR s (rd4 s).1).er := (end_fin s (rd4 s).1).1
theorem rd4_ok {s : ByteArray} (h : (rd5 s).er = 0) : (rd4 s).1.er = 0 := by
  rw [rd5_er] at h
  by_cases h4 : (rd4 s).1.er = 0
  · exact h4
  · rw [finR_bad h4] at h
    exact h
theorem readA (w : World) (s : ByteArray) (hs : s.size ≤ 140737488351232) (h : (rd5 s).er = 0) : Calls Tryz.prog 12 #[.string s] w fun e w' => ∃ m F, e = .returned (.tuple #[PT m, .int .i64 0, .int .i64 0]) ∧ Mq w' m F (rd2 s).2 (rd3 s).2 (rd4 s).2 ∧ Touch [] w w' :=
  (read_ w s hs).mono fun e w' q => by
    have e0 := rd_of (rd4_ok h)
    rcases q with ⟨q, _⟩ | ⟨_, pm, rfl, w9, t9, q⟩
    · exact absurd h q
    · rcases q with ⟨q, _⟩ | ⟨_, _, m, F, rfl, mq, _, t⟩
      · rw [e0] at q
        exact absurd rfl q
      · exact ⟨m, F, by rw [e0], mq, t9.trans' t⟩
theorem readB (w : World) (s : ByteArray) (hs : s.size ≤ 140737488351232) (h : (rd5 s).er ≠ 0) : Calls Tryz.prog 12 #[.string s] w fun e w' => e = .returned (.tuple #[.pointer none, .int .i64 (rd5 s).at_, .int .i64 (rd5 s).er]) ∧ Touch [] w w' :=
  (read_ w s hs).mono fun e w' q => by
    rcases q with ⟨_, q1, q2⟩ | ⟨q, _⟩
    · exact ⟨q1, q2⟩
    · exact absurd q h
theorem dreadA (w : World) (s : ByteArray) (hs : s.size ≤ 140737488351232) (h : (rd5 s).er = 0) : Calls Tryz.prog 13 #[.string s] w fun e w' => ∃ v, e = .returned (.tuple #[mv (rd2 s).2 (rd3 s).2 v, .int .i64 0, .int .i64 0]) ∧ RN 88 w' v (rd4 s).2 ∧ Touch [] w w' :=
  (dread_ w s hs).mono fun e w' q => by
    obtain ⟨t, q⟩ := q
    rw [rd5_er] at h
    rcases q with ⟨q, _⟩ | ⟨_, v, q1, q2⟩
    · exact absurd h q
    · exact ⟨v, q1, q2, t⟩
theorem dreadB (w : World) (s : ByteArray) (hs : s.size ≤ 140737488351232) (h : (rd5 s).er ≠ 0) : Calls Tryz.prog 13 #[.string s] w fun e w' => e = .returned (.tuple #[.agg #[.int .i64 0, .int .i64 0, .int .i64 0, .int .i64 0, .int .i64 0, .int .i64 0, .int .i64 0, .int .i64 0, .slice none 0 0], .int .i64 (rd5 s).at_, .int .i64 (rd5 s).er]) ∧ Touch [] w w' :=
  (dread_ w s hs).mono fun e w' q => by
    obtain ⟨t, q⟩ := q
    have h' := h
    rw [rd5_er] at h'
    rcases q with ⟨_, q⟩ | ⟨q, _⟩
    · exact ⟨by rw [q, rd5_er, show (rd5 s).at_ = (finR s (rd4 s).1).at_ from (end_fin s (rd4 s).1).2 h'], t⟩
    · exact absurd q h'
set_option maxRecDepth 20000 in
set_option maxHeartbeats 16000000 in
theorem tells_ {w : World} {s : ByteArray} {c : Cf} {now : Int} {xs : List En} {v : Value} (hs : s.size ≤ 140737488351232) (wc : Wc c) (wn : W64 now) (hv : RA w v xs) (ho : ∀ x ∈ xs, Ok x.1 ∧ Wo x.2.1 ∧ W64 x.2.2) (hl : xs.length ≤ 2199023255488) :
    Calls Tryz.prog 3 #[.agg (wcs c now v), .string s] w fun e w' => e = .returned (.bool true) ∧ Touch [] w w' := by
  obtain ⟨V, hV⟩ : ∃ V, V = w.alloc (.cells (wcs c now v) 26) := ⟨_, rfl⟩
  have tV : Touch [] w V := by rw [hV]; exact (Touch.refl _ _).alloc _
  have hb : V.heap[w.heap.size]? = some (.cells (wcs c now v) 26 (0, 0)) := by rw [hV]; exact heap_alloc_new w _
  have HT := hid tV
  have HB := hid (fun w' (t : Touch [] V w') => t.keep hb (by simp))
  have M1 := hid (fun w' (t : Touch [] V w') => made_ (w := w') (now := now) wc hl (hv.keep (tV.trans' t)) (fun x hx => (ho x hx).1))
  have HK1 := hid (fun h => made_ok (c := c) (now := now) (xs := xs) h wc wn ho)
  have AW := hid awake_
  have HRA := hid (fun w' (h : (rd5 s).er = 0) => readA w' s hs h)
  have HRB := hid (fun w' (h : (rd5 s).er ≠ 0) => readB w' s hs h)
  have HDA := hid (fun w' (h : (rd5 s).er = 0) => dreadA w' s hs h)
  have HDB := hid (fun w' (h : (rd5 s).er ≠ 0) => dreadB w' s hs h)
  clear wc wn hv ho hl tV hb hs
  go_enter Tryz.func3, Tryz.ntmps3
  unfold wcs at *
  go_upto_region 1 with fail
  rw [← hV]
  clear hV
  go_upto_region 3 with (go_at_call 8; refine (AW.out _).mono ?_; rintro e u4 ⟨rfl, t4⟩)
  have T4 := hid t4
  clear t4 AW
  have hbx := HB.out _ T4.out
  have q0 := cell_of (n := 0) hbx rfl
  have q1 := cell_of (n := 1) hbx rfl
  have q2 := cell_of (n := 2) hbx rfl
  have q3 := cell_of (n := 3) hbx rfl
  have q4 := cell_of (n := 4) hbx rfl
  have q5 := cell_of (n := 5) hbx rfl
  have q6 := cell_of (n := 6) hbx rfl
  have q7 := cell_of (n := 7) hbx rfl
  have q8 := cell_of (n := 8) hbx rfl
  clear hbx
  by_cases h1 : (ofP c now xs).2 = 0
  · obtain ⟨k1, r1⟩ := HK1.out h1
    have HKR := hid (And.intro k1 r1)
    have M2 : Hid (∀ w', Touch [] V w' → Calls Tryz.prog 9 #[.agg (wcs c now v)] w' fun e w'' => ∃ m F a1 c1, e = .returned (.tuple #[PT m, mv c now (.slice a1 xs.length c1), .bool true]) ∧ Mq w'' m F c now xs ∧ RN 88 w'' (.slice a1 xs.length c1) xs ∧ Touch [] w' w'') := hid (fun w' t => (M1.out w' t).mono fun e w'' ⟨pm, u, he, hrn, ht, hm⟩ => by
      obtain ⟨a1, c1, hu, _⟩ := id hrn
      subst hu
      rcases hm with ⟨q, _⟩ | ⟨_, m, F, rfl, mq, _⟩
      · exact absurd h1 q
      · exact ⟨m, F, a1, c1, by rw [he, decide_eq_true h1], mq, hrn, ht⟩)
    clear M1 HK1 h1 k1 r1
    unfold wcs mv at M2
    go_upto_region 4 with (go_at_call 9; refine (M2.out _ T4.out).mono ?_; rintro e u6 ⟨m, F, a1, c1, rfl, mq, rn, t6⟩; have MQ := hid mq; have RN1 := hid rn; have T6 := hid t6; clear mq rn t6)
    clear M2 q0 q1 q2 q3 q4 q5 q6 q7 q8
    obtain ⟨W7, hW7⟩ : ∃ W7, W7 = u6.alloc (.cells #[.int .i64 c.t, .int .i64 c.n, .int .i64 c.s, .int .i64 c.e, .int .i64 c.f, .int .i64 c.b, .int .i64 c.d, .int .i64 now, .slice a1 xs.length c1] 32) := ⟨_, rfl⟩
    have t7 : Touch [] u6 W7 := by rw [hW7]; exact (Touch.refl _ _).alloc _
    have h7 : W7.heap[u6.heap.size]? = some (.cells #[.int .i64 c.t, .int .i64 c.n, .int .i64 c.s, .int .i64 c.e, .int .i64 c.f, .int .i64 c.b, .int .i64 c.d, .int .i64 now, .slice a1 xs.length c1] 32 (0, 0)) := by rw [hW7]; exact heap_alloc_new u6 _
    rw [← hW7]
    clear hW7
    have A1 := hid (tell_ (MQ.out.keep0 t7) HKR.out.1)
    have R1 := hid (fun w' (t : Touch [] W7 w') => rtell_ (RN.keep (RN.keep RN1.out t7) t) HKR.out.1 HKR.out.2)
    have T7 := hid ((HT.out.trans' T4.out).trans' (T6.out.trans' t7))
    have H7 := hid h7
    clear t7 h7 MQ RN1 HKR
    generalize (⟨(tellB c now xs).toArray⟩ : ByteArray) = sa at *
    unfold mv at R1
    go_upto_region 6 with (go_at_call 10; refine A1.out.mono ?_; rintro e u8 ⟨rfl, t8⟩; have T8 := hid t8; have h8 := t8.keep H7.out (by simp); clear t8)
    have q0 := cell_of (n := 0) h8 rfl
    have q1 := cell_of (n := 1) h8 rfl
    have q2 := cell_of (n := 2) h8 rfl
    have q3 := cell_of (n := 3) h8 rfl
    have q4 := cell_of (n := 4) h8 rfl
    have q5 := cell_of (n := 5) h8 rfl
    have q6 := cell_of (n := 6) h8 rfl
    have q7 := cell_of (n := 7) h8 rfl
    have q8 := cell_of (n := 8) h8 rfl
    clear h8 A1
    go_upto_region 8 with (go_at_call 11; refine (R1.out _ T8.out).mono ?_; rintro e u9 ⟨rfl, t9⟩; have T9 := hid t9; clear t9)
    have TX := hid (T7.out.trans' (T8.out.trans' T9.out))
    clear R1 q0 q1 q2 q3 q4 q5 q6 q7 q8 H7
    by_cases h5 : (rd5 s).er = 0
    · have HA1 := hid (fun w' => HRA.out w' h5)
      have HA2 := hid (fun w' => HDA.out w' h5)
      clear HRA HRB HDA HDB h5
      generalize (rd2 s).2 = cc at *
      generalize (rd3 s).2 = nw at *
      generalize (rd4 s).2 = ls at *
      go_upto_region 9 with (go_at_call 12; refine (HA1.out _).mono ?_; rintro e w1 ⟨m2, F2, rfl, mq2, t1⟩)
      have T1 := hid (TX.out.trans' t1)
      have MQ2 := hid mq2
      clear t1 mq2 HA1
      go_upto_region 10 with (go_at_call 13; refine (HA2.out _).mono ?_; rintro e w2 ⟨v2, rfl, rn2, t2⟩; obtain ⟨a2, c2, hy2, _⟩ := id rn2; subst hy2; have T2 := hid t2; have RN2 := hid rn2; clear t2 rn2; unfold mv)
      obtain ⟨W3, hW3⟩ : ∃ W3, W3 = w2.alloc (.cells #[.int .i64 cc.t, .int .i64 cc.n, .int .i64 cc.s, .int .i64 cc.e, .int .i64 cc.f, .int .i64 cc.b, .int .i64 cc.d, .int .i64 nw, .slice a2 ls.length c2] 32) := ⟨_, rfl⟩
      have t3 : Touch [] w2 W3 := by rw [hW3]; exact (Touch.refl _ _).alloc _
      have h3 : W3.heap[w2.heap.size]? = some (.cells #[.int .i64 cc.t, .int .i64 cc.n, .int .i64 cc.s, .int .i64 cc.e, .int .i64 cc.f, .int .i64 cc.b, .int .i64 cc.d, .int .i64 nw, .slice a2 ls.length c2] 32 (0, 0)) := by rw [hW3]; exact heap_alloc_new w2 _
      have y0 := cell_of (n := 0) h3 rfl
      have y1 := cell_of (n := 1) h3 rfl
      have y2 := cell_of (n := 2) h3 rfl
      have y3 := cell_of (n := 3) h3 rfl
      have y4 := cell_of (n := 4) h3 rfl
      have y5 := cell_of (n := 5) h3 rfl
      have y6 := cell_of (n := 6) h3 rfl
      have y7 := cell_of (n := 7) h3 rfl
      have y8 := cell_of (n := 8) h3 rfl
      rw [← hW3]
      clear hW3 h3 HA2
      have HST := hid (stands_ (MQ2.out.keep0 (T2.out.trans' t3)) (RN.keep RN2.out t3))
      have T3 := hid (T1.out.trans' (T2.out.trans' t3))
      clear t3
      unfold mv at HST
      go_wp2_with (go_at_call 14; refine HST.out.mono ?_; rintro e w5 ⟨rfl, t5⟩)
      go_ret
      exact ⟨rfl, T3.out.trans' t5⟩
    · have HB1 := hid (fun w' => HRB.out w' h5)
      have HB2 := hid (fun w' => HDB.out w' h5)
      have hbe : ((rd5 s).er != 0) = true := by simpa using h5
      clear HRA HRB HDA HDB h5
      generalize (rd5 s).er = ee at *
      generalize (rd5 s).at_ = ea at *
      go_upto_region 9 with (go_at_call 12; refine (HB1.out _).mono ?_; rintro e w1 ⟨rfl, t1⟩)
      have T1 := hid (TX.out.trans' t1)
      clear t1 HB1
      go_upto_region 10 with (go_at_call 13; refine (HB2.out _).mono ?_; rintro e w2 ⟨rfl, t2⟩; have T2 := hid t2; clear t2)
      clear HB2
      go_wp2_with fail
      go_ret
      exact ⟨rfl, (T1.out.trans' T2.out).alloc _⟩
  · have M2 : Hid (∀ w', Touch [] V w' → Calls Tryz.prog 9 #[.agg (wcs c now v)] w' fun e w'' => ∃ a1 c1, e = .returned (.tuple #[.pointer none, mv c now (.slice a1 xs.length c1), .bool false]) ∧ Touch [] w' w'') := hid (fun w' t => (M1.out w' t).mono fun e w'' ⟨pm, u, he, hrn, ht, hm⟩ => by
      obtain ⟨a1, c1, hu, _⟩ := id hrn
      subst hu
      rcases hm with ⟨_, q⟩ | ⟨q, _⟩
      · exact ⟨a1, c1, by rw [he, q, decide_eq_false h1], ht⟩
      · exact absurd q h1)
    clear M1 HK1 h1
    unfold wcs mv at M2
    go_upto_region 4 with (go_at_call 9; refine (M2.out _ T4.out).mono ?_; rintro e u6 ⟨a1, c1, rfl, t6⟩; have T6 := hid t6; clear t6)
    clear M2 q0 q1 q2 q3 q4 q5 q6 q7 q8
    have TX := hid (((HT.out.trans' T4.out).trans' T6.out).alloc (.cells #[.int .i64 c.t, .int .i64 c.n, .int .i64 c.s, .int .i64 c.e, .int .i64 c.f, .int .i64 c.b, .int .i64 c.d, .int .i64 now, .slice a1 xs.length c1] 32))
    go_upto_region 8 with fail
    by_cases h5 : (rd5 s).er = 0
    · have HA1 := hid (fun w' => HRA.out w' h5)
      have HA2 := hid (fun w' => HDA.out w' h5)
      clear HRA HRB HDA HDB h5
      generalize (rd2 s).2 = cc at *
      generalize (rd3 s).2 = nw at *
      generalize (rd4 s).2 = ls at *
      go_upto_region 9 with (go_at_call 12; refine (HA1.out _).mono ?_; rintro e w1 ⟨m2, F2, rfl, mq2, t1⟩)
      have T1 := hid (TX.out.trans' t1)
      have MQ2 := hid mq2
      clear t1 mq2 HA1
      go_upto_region 10 with (go_at_call 13; refine (HA2.out _).mono ?_; rintro e w2 ⟨v2, rfl, rn2, t2⟩; obtain ⟨a2, c2, hy2, _⟩ := id rn2; subst hy2; have T2 := hid t2; have RN2 := hid rn2; clear t2 rn2; unfold mv)
      obtain ⟨W3, hW3⟩ : ∃ W3, W3 = w2.alloc (.cells #[.int .i64 cc.t, .int .i64 cc.n, .int .i64 cc.s, .int .i64 cc.e, .int .i64 cc.f, .int .i64 cc.b, .int .i64 cc.d, .int .i64 nw, .slice a2 ls.length c2] 32) := ⟨_, rfl⟩
      have t3 : Touch [] w2 W3 := by rw [hW3]; exact (Touch.refl _ _).alloc _
      have h3 : W3.heap[w2.heap.size]? = some (.cells #[.int .i64 cc.t, .int .i64 cc.n, .int .i64 cc.s, .int .i64 cc.e, .int .i64 cc.f, .int .i64 cc.b, .int .i64 cc.d, .int .i64 nw, .slice a2 ls.length c2] 32 (0, 0)) := by rw [hW3]; exact heap_alloc_new w2 _
      have y0 := cell_of (n := 0) h3 rfl
      have y1 := cell_of (n := 1) h3 rfl
      have y2 := cell_of (n := 2) h3 rfl
      have y3 := cell_of (n := 3) h3 rfl
      have y4 := cell_of (n := 4) h3 rfl
      have y5 := cell_of (n := 5) h3 rfl
      have y6 := cell_of (n := 6) h3 rfl
      have y7 := cell_of (n := 7) h3 rfl
      have y8 := cell_of (n := 8) h3 rfl
      rw [← hW3]
      clear hW3 h3 HA2
      have HST := hid (stands_ (MQ2.out.keep0 (T2.out.trans' t3)) (RN.keep RN2.out t3))
      have T3 := hid (T1.out.trans' (T2.out.trans' t3))
      clear t3
      unfold mv at HST
      go_wp2_with (go_at_call 14; refine HST.out.mono ?_; rintro e w5 ⟨rfl, t5⟩)
      go_ret
      exact ⟨rfl, T3.out.trans' t5⟩
    · have HB1 := hid (fun w' => HRB.out w' h5)
      have HB2 := hid (fun w' => HDB.out w' h5)
      have hbe : ((rd5 s).er != 0) = true := by simpa using h5
      clear HRA HRB HDA HDB h5
      generalize (rd5 s).er = ee at *
      generalize (rd5 s).at_ = ea at *
      go_upto_region 9 with (go_at_call 12; refine (HB1.out _).mono ?_; rintro e w1 ⟨rfl, t1⟩)
      have T1 := hid (TX.out.trans' t1)
      clear t1 HB1
      go_upto_region 10 with (go_at_call 13; refine (HB2.out _).mono ?_; rintro e w2 ⟨rfl, t2⟩; have T2 := hid t2; clear t2)
      clear HB2
      go_wp2_with fail
      go_ret
      exact ⟨rfl, (T1.out.trans' T2.out).alloc _⟩
theorem tellsL_ (W : World) (c : Cf) (n : Int) (v : Value) (xs : List En) (s : ByteArray) (wc : Wc c) (wn : W64 n) (hv : RA W v xs) (ho : ∀ x ∈ xs, Ok x.1 ∧ Wo x.2.1 ∧ W64 x.2.2) (hl : xs.length ≤ 2199023255488) (hs : s.size ≤ 140737488351232) :
    Calls Tryz.prog 3 #[.agg (wcs c n v), .string s] W fun e w' => e = .returned (.bool true) ∧ Touch [] W w' := tells_ hs wc wn hv ho hl
end Go.Proofs.YtpefbmheblfbeaaGreat.Sn
