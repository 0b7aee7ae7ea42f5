/- The contracts of a row's add and remove: a chair is laid behind all others, a chair is taken out; no conditions but those that each states. -/
import Derived.Test.YtllchnancjgijaaGreatQn03
import Derived.Test.YtllchnancjgijaaGreatQn01
namespace Go.Proofs.YtllchnancjgijaaGreat.Lv
open Go.RowKit Go.Maps Go.ChangeMaps
set_option maxRecDepth 100000
set_option linter.unusedVariables false
set_option linter.unusedSimpArgs false
def isCh (w : World) (q : Nat) : Prop := ∃ x a b, w.heap[q]? = some (.cells (chc x a b) 238 (0, 0))
structure AdE (w w' : World) (k rb q : Nat) (f l : Option Nat) : Prop where
  row : w'.heap[rb]? = some (.cells #[pv (if l = none then some q else f), pv (some q)] 267 (0, 0))
  at_ : ∀ x a b, w.heap[q]? = some (.cells (chc x a b) 238 (0, 0)) → w'.heap[q]? = some (.cells (chc x (updN a k l) b) 238 (0, 0))
  be : ∀ p x a b, l = some p → w.heap[p]? = some (.cells (chc x a b) 238 (0, 0)) → w'.heap[p]? = some (.cells (chc x a (updN b k (some q))) 238 (0, 0))
  t : Touch (rb :: q :: l.toList) w w'
theorem _root_.Go.Proofs.YtllchnancjgijaaGreat.Touch.set1 (w : World) (b j : Nat) (v : Value) : Touch [b] w (w.setCell ⟨b, j, none⟩ v) := (Touch.refl _ _).setCell (Or.inl (by simp)) _
theorem _root_.Go.Proofs.YtllchnancjgijaaGreat.Touch.more {F G : List Nat} {a b c : World} (h : Touch F a b) (k : Touch G b c) (hs : ∀ i, i ∈ G → i ∈ F) : Touch F a c := h.trans k (fun i hi => Or.inl (hs i hi))
theorem ad_none {w : World} {k rb q : Nat} {f : Option Nat} (hk : k < 3) (hr : w.heap[rb]? = some (.cells #[pv f, pv none] 267 (0, 0))) (hq : isCh w q) :
    AdE w (((w.setCell ⟨q, 3 + k, none⟩ (.pointer none)).drew.setCell ⟨rb, 0, none⟩ (PT q)).setCell ⟨rb, 1, none⟩ (PT q)) k rb q f none := by
  have hne : q ≠ rb := fun e => by obtain ⟨x, a, b, h⟩ := hq; rw [e, hr] at h; simp at h
  have t1 : Touch [q] w (w.setCell ⟨q, 3 + k, none⟩ (.pointer none)).drew := (Touch.set1 w q _ _).drew
  have r1 := t1.keep hr (by simp; omega)
  have r2 := bset (i := 1) (bset (i := 0) r1 (PT q)) (PT q)
  have t2 : Touch [rb] (w.setCell ⟨q, 3 + k, none⟩ (.pointer none)).drew (((w.setCell ⟨q, 3 + k, none⟩ (.pointer none)).drew.setCell ⟨rb, 0, none⟩ (PT q)).setCell ⟨rb, 1, none⟩ (PT q)) := ((Touch.refl _ _).setCell (Or.inl (by simp)) _).setCell (Or.inl (by simp)) _
  refine ⟨by simpa [pv_some] using r2, fun x a b h => ?_, fun p x a b e => (by cases e), (t1.mono (fun i hi => by simp at hi; simp [hi])).more t2 (fun i hi => by simp at hi; simp [hi])⟩
  have h1 := bset (i := 3 + k) h (pv none)
  rw [chc_sa hk] at h1
  exact t2.keep h1 (by simp; exact hne)
theorem ad_some {w : World} {k rb q p : Nat} {f : Option Nat} (hk : k < 3) (hr : w.heap[rb]? = some (.cells #[pv f, pv (some p)] 267 (0, 0))) (hq : isCh w q) (hp : isCh w p) (hn : p ≠ q) :
    AdE w (((w.setCell ⟨q, 3 + k, none⟩ (PT p)).drew.setCell ⟨p, 6 + k, none⟩ (PT q)).setCell ⟨rb, 1, none⟩ (PT q)) k rb q f (some p) := by
  have hne : q ≠ rb := fun e => by obtain ⟨x, a, b, h⟩ := hq; rw [e, hr] at h; simp at h
  have hne2 : p ≠ rb := fun e => by obtain ⟨x, a, b, h⟩ := hp; rw [e, hr] at h; simp at h
  have t1 : Touch [q] w (w.setCell ⟨q, 3 + k, none⟩ (PT p)).drew := (Touch.set1 w q _ _).drew
  have t2 := Touch.set1 (w.setCell ⟨q, 3 + k, none⟩ (PT p)).drew p (6 + k) (PT q)
  have t3 := Touch.set1 ((w.setCell ⟨q, 3 + k, none⟩ (PT p)).drew.setCell ⟨p, 6 + k, none⟩ (PT q)) rb 1 (PT q)
  have r2 := bset (i := 1) (t2.keep (t1.keep hr (by simp; omega)) (by simp; omega)) (PT q)
  refine ⟨by simpa [pv_some] using r2, fun x a b h => ?_, fun p' x a b e h => ?_, ((t1.mono (fun i hi => by simp at hi; simp [hi])).more t2 (fun i hi => by simp at hi; simp [hi])).more t3 (fun i hi => by simp at hi; simp [hi])⟩
  · have h1 := bset (i := 3 + k) h (pv (some p))
    rw [chc_sa hk] at h1
    exact t3.keep (t2.keep h1 (by simp; omega)) (by simp; exact hne)
  · simp only [Option.some.injEq] at e
    subst e
    have h1 := bset (i := 6 + k) (t1.keep h (by simp; exact hn)) (pv (some q))
    rw [chc_sb hk] at h1
    exact t3.keep h1 (by simp; exact hne2)
section
variable (w : World) (rb q : Nat)
set_option maxHeartbeats 1000000 in
theorem add0n (f : Option Nat) (hr : w.heap[rb]? = some (.cells #[pv f, pv (none)] 267 (0, 0))) (hq : isCh w q) : Calls Tryz.prog 183 #[PT rb, .int .i64 0, PT q] w fun e w' => e = .returned (.tuple #[]) ∧ AdE w w' 0 rb q f (none) := by
  have HX := hid (ad_none (k := 0) (by omega) hr hq)
  have hne : q ≠ rb := fun e => by obtain ⟨x, a, b, h⟩ := hq; rw [e, hr] at h; simp at h
  have hql : q < w.heap.size := by obtain ⟨x, a, b, h⟩ := hq; exact block_lt h
  have hrl := block_lt hr
  have C1 : ∀ w', Touch [] w w' → w'.cell? ⟨rb, 1, none⟩ = some (.pointer none) := fun w' t => cell_at (t.keep hr (by simp)) rfl
  have fq : ∀ j, w.frozen? ⟨q, j, none⟩ = false := by obtain ⟨x, a, b, h⟩ := hq; exact froz_at h
  have fr : ∀ j, w.frozen? ⟨rb, j, none⟩ = false := froz_at hr
  have c1 := C1 w (Touch.refl _ _)
  have c0 := cell_at (j := 0) (v := pv f) hr rfl
  obtain ⟨vq, cq⟩ : ∃ v, w.cell? ⟨q, 3, none⟩ = some v := by obtain ⟨x, a, b, h⟩ := hq; exact ⟨_, cell_at h rfl⟩
  clear hr hq
  have k0 : Touch [] w w.drew := (Touch.refl _ _).drew
  unfold PT at *
  go_enter Tryz.func183, Tryz.ntmps183
  go_upto_region 0 with fail
  refine wp_region_L (S := fun w' => Touch [] w w') (st := 9) (by kernel_rfl) ?_
  refine wpL_take (i := 0) (v := (.pointer (some ⟨q, 0, none⟩))) (some 6) rfl rfl (by kernel_rfl) (by kernel_rfl) (by kernel_rfl) (by kernel_rfl) (by kernel_rfl) (by decide) (fun _ _ _ h => h) (Or.inl ⟨by rfl, fun w' hS => (by go_simp)⟩) k0 ?_
  try simp only [Go.Act.put, List.setIfInBounds_toArray, List.set_cons_zero, List.set_cons_succ]
  refine wpL_take (i := 1) (v := (.int .i64 0)) (some 7) rfl rfl (by kernel_rfl) (by kernel_rfl) (by kernel_rfl) (by kernel_rfl) (by kernel_rfl) (by decide) (fun _ _ _ h => h) (Or.inl ⟨by rfl, fun w' hS => (by go_simp)⟩) k0 ?_
  try simp only [Go.Act.put, List.setIfInBounds_toArray, List.set_cons_zero, List.set_cons_succ]
  refine wpL_take (i := 2) (v := (.pointer (some ⟨rb, 0, none⟩))) (some 8) rfl rfl (by kernel_rfl) (by kernel_rfl) (by kernel_rfl) (by kernel_rfl) (by kernel_rfl) (by decide) (fun _ _ _ h => h) (Or.inl ⟨by rfl, fun w' hS => (by go_simp)⟩) k0 ?_
  try simp only [Go.Act.put, List.setIfInBounds_toArray, List.set_cons_zero, List.set_cons_succ]
  refine wpL_take (i := 3) (v := (.pointer (some ⟨rb, 0, none⟩))) (some 9) rfl rfl (by kernel_rfl) (by kernel_rfl) (by kernel_rfl) (by kernel_rfl) (by kernel_rfl) (by decide) (fun _ _ _ h => h) (Or.inl ⟨by rfl, fun w' hS => (by go_simp)⟩) k0 ?_
  try simp only [Go.Act.put, List.setIfInBounds_toArray, List.set_cons_zero, List.set_cons_succ]
  refine wpL_take (i := 4) (v := (.pointer (some ⟨rb, 1, none⟩))) (some 10) rfl rfl (by kernel_rfl) (by kernel_rfl) (by kernel_rfl) (by kernel_rfl) (by kernel_rfl) (by decide) (fun _ _ _ h => h) (Or.inl ⟨by rfl, fun w' hS => (by go_simp)⟩) k0 ?_
  try simp only [Go.Act.put, List.setIfInBounds_toArray, List.set_cons_zero, List.set_cons_succ]
  refine wpL_take (i := 5) (v := (.pointer none)) (some 11) rfl rfl (by kernel_rfl) (by kernel_rfl) (by kernel_rfl) (by kernel_rfl) (by kernel_rfl) (by decide) (fun _ _ _ h => h) (Or.inl ⟨by rfl, fun w' hS => (by have z0 := C1 _ hS; go_simp)⟩) k0 ?_
  try simp only [Go.Act.put, List.setIfInBounds_toArray, List.set_cons_zero, List.set_cons_succ]
  refine wpL_takeY (i := 6) (v := (.pointer (some ⟨q, 0, none⟩))) (some 12) rfl rfl (by kernel_rfl) (by kernel_rfl) (by kernel_rfl) (by decide) (fun _ _ _ h => h) (Or.inl ⟨by rfl, fun w' hS => (by go_simp)⟩) (fun _ => k0) ?_
  try simp only [Go.Act.put, List.setIfInBounds_toArray, List.set_cons_zero, List.set_cons_succ]
  refine wpL_takeY (i := 7) (v := (.pointer (some ⟨q, 3, none⟩))) (some 13) rfl rfl (by kernel_rfl) (by kernel_rfl) (by kernel_rfl) (by decide) (fun _ _ _ h => h) (Or.inl ⟨by rfl, fun w' hS => (by go_simp)⟩) (fun _ => k0) ?_
  try simp only [Go.Act.put, List.setIfInBounds_toArray, List.set_cons_zero, List.set_cons_succ]
  refine wpL_take (i := 8) (v := (.pointer (some ⟨q, 3, none⟩))) (some 14) rfl rfl (by kernel_rfl) (by kernel_rfl) (by kernel_rfl) (by kernel_rfl) (by kernel_rfl) (by decide) (fun _ _ _ h => h) (Or.inl ⟨by rfl, fun w' hS => (by go_simp)⟩) k0 ?_
  try simp only [Go.Act.put, List.setIfInBounds_toArray, List.set_cons_zero, List.set_cons_succ]
  refine wpL_ready (rs := [9]) (by kernel_rfl) (by simp) (AllL.cons (o := { dst := none, op := Op.store 235 (Operand.tmp 14) (Operand.tmp 11), type := 0, pos := _, after := #[{ on := 8, ground := Ground.data }, { on := 5, ground := Ground.data }, { on := 0, ground := Ground.phase }, { on := 1, ground := Ground.phase }, { on := 2, ground := Ground.phase }, { on := 3, ground := Ground.phase }, { on := 4, ground := Ground.phase }, { on := 5, ground := Ground.phase }], guard := none }) rfl (fun K' hK => ?_) AllL.nil)
  rw [if_pos (by rfl)]
  go_simp
  refine hK.out _ _ (fun h => absurd h (by decide)) ?_
  clear hK
  try simp only [Go.Act.put, List.setIfInBounds_toArray, List.set_cons_zero, List.set_cons_succ]
  refine wpL_done (by kernel_rfl) ?_ _
  go_wp2
  go_end0
  exact ⟨rfl, HX.out⟩
set_option maxHeartbeats 1000000 in
theorem add0s (f : Option Nat) (p : Nat) (hr : w.heap[rb]? = some (.cells #[pv f, pv (some p)] 267 (0, 0))) (hq : isCh w q) (hp : isCh w p) (hn : p ≠ q) : Calls Tryz.prog 183 #[PT rb, .int .i64 0, PT q] w fun e w' => e = .returned (.tuple #[]) ∧ AdE w w' 0 rb q f (some p) := by
  have HX := hid (ad_some (k := 0) (by omega) hr hq hp hn)
  have hne : q ≠ rb := fun e => by obtain ⟨x, a, b, h⟩ := hq; rw [e, hr] at h; simp at h
  have hql : q < w.heap.size := by obtain ⟨x, a, b, h⟩ := hq; exact block_lt h
  have hrl := block_lt hr
  have C1 : ∀ w', Touch [] w w' → w'.cell? ⟨rb, 1, none⟩ = some (.pointer (some ⟨p, 0, none⟩)) := fun w' t => cell_at (t.keep hr (by simp)) rfl
  have fq : ∀ j, w.frozen? ⟨q, j, none⟩ = false := by obtain ⟨x, a, b, h⟩ := hq; exact froz_at h
  have fr : ∀ j, w.frozen? ⟨rb, j, none⟩ = false := froz_at hr
  have c1 := C1 w (Touch.refl _ _)
  have c0 := cell_at (j := 0) (v := pv f) hr rfl
  obtain ⟨vq, cq⟩ : ∃ v, w.cell? ⟨q, 3, none⟩ = some v := by obtain ⟨x, a, b, h⟩ := hq; exact ⟨_, cell_at h rfl⟩
  obtain ⟨vp, cp⟩ : ∃ v, w.cell? ⟨p, 6, none⟩ = some v := by obtain ⟨x, a, b, h⟩ := hp; exact ⟨_, cell_at h rfl⟩
  have fp : ∀ j, w.frozen? ⟨p, j, none⟩ = false := by obtain ⟨x, a, b, h⟩ := hp; exact froz_at h
  have hne2 : p ≠ rb := fun e => by obtain ⟨x, a, b, h⟩ := hp; rw [e, hr] at h; simp at h
  clear hp
  clear hr hq
  have k0 : Touch [] w w.drew := (Touch.refl _ _).drew
  unfold PT at *
  go_enter Tryz.func183, Tryz.ntmps183
  go_upto_region 0 with fail
  refine wp_region_L (S := fun w' => Touch [] w w') (st := 9) (by kernel_rfl) ?_
  refine wpL_take (i := 0) (v := (.pointer (some ⟨q, 0, none⟩))) (some 6) rfl rfl (by kernel_rfl) (by kernel_rfl) (by kernel_rfl) (by kernel_rfl) (by kernel_rfl) (by decide) (fun _ _ _ h => h) (Or.inl ⟨by rfl, fun w' hS => (by go_simp)⟩) k0 ?_
  try simp only [Go.Act.put, List.setIfInBounds_toArray, List.set_cons_zero, List.set_cons_succ]
  refine wpL_take (i := 1) (v := (.int .i64 0)) (some 7) rfl rfl (by kernel_rfl) (by kernel_rfl) (by kernel_rfl) (by kernel_rfl) (by kernel_rfl) (by decide) (fun _ _ _ h => h) (Or.inl ⟨by rfl, fun w' hS => (by go_simp)⟩) k0 ?_
  try simp only [Go.Act.put, List.setIfInBounds_toArray, List.set_cons_zero, List.set_cons_succ]
  refine wpL_take (i := 2) (v := (.pointer (some ⟨rb, 0, none⟩))) (some 8) rfl rfl (by kernel_rfl) (by kernel_rfl) (by kernel_rfl) (by kernel_rfl) (by kernel_rfl) (by decide) (fun _ _ _ h => h) (Or.inl ⟨by rfl, fun w' hS => (by go_simp)⟩) k0 ?_
  try simp only [Go.Act.put, List.setIfInBounds_toArray, List.set_cons_zero, List.set_cons_succ]
  refine wpL_take (i := 3) (v := (.pointer (some ⟨rb, 0, none⟩))) (some 9) rfl rfl (by kernel_rfl) (by kernel_rfl) (by kernel_rfl) (by kernel_rfl) (by kernel_rfl) (by decide) (fun _ _ _ h => h) (Or.inl ⟨by rfl, fun w' hS => (by go_simp)⟩) k0 ?_
  try simp only [Go.Act.put, List.setIfInBounds_toArray, List.set_cons_zero, List.set_cons_succ]
  refine wpL_take (i := 4) (v := (.pointer (some ⟨rb, 1, none⟩))) (some 10) rfl rfl (by kernel_rfl) (by kernel_rfl) (by kernel_rfl) (by kernel_rfl) (by kernel_rfl) (by decide) (fun _ _ _ h => h) (Or.inl ⟨by rfl, fun w' hS => (by go_simp)⟩) k0 ?_
  try simp only [Go.Act.put, List.setIfInBounds_toArray, List.set_cons_zero, List.set_cons_succ]
  refine wpL_take (i := 5) (v := (.pointer (some ⟨p, 0, none⟩))) (some 11) rfl rfl (by kernel_rfl) (by kernel_rfl) (by kernel_rfl) (by kernel_rfl) (by kernel_rfl) (by decide) (fun _ _ _ h => h) (Or.inl ⟨by rfl, fun w' hS => (by have z0 := C1 _ hS; go_simp)⟩) k0 ?_
  try simp only [Go.Act.put, List.setIfInBounds_toArray, List.set_cons_zero, List.set_cons_succ]
  refine wpL_takeY (i := 6) (v := (.pointer (some ⟨q, 0, none⟩))) (some 12) rfl rfl (by kernel_rfl) (by kernel_rfl) (by kernel_rfl) (by decide) (fun _ _ _ h => h) (Or.inl ⟨by rfl, fun w' hS => (by go_simp)⟩) (fun _ => k0) ?_
  try simp only [Go.Act.put, List.setIfInBounds_toArray, List.set_cons_zero, List.set_cons_succ]
  refine wpL_takeY (i := 7) (v := (.pointer (some ⟨q, 3, none⟩))) (some 13) rfl rfl (by kernel_rfl) (by kernel_rfl) (by kernel_rfl) (by decide) (fun _ _ _ h => h) (Or.inl ⟨by rfl, fun w' hS => (by go_simp)⟩) (fun _ => k0) ?_
  try simp only [Go.Act.put, List.setIfInBounds_toArray, List.set_cons_zero, List.set_cons_succ]
  refine wpL_take (i := 8) (v := (.pointer (some ⟨q, 3, none⟩))) (some 14) rfl rfl (by kernel_rfl) (by kernel_rfl) (by kernel_rfl) (by kernel_rfl) (by kernel_rfl) (by decide) (fun _ _ _ h => h) (Or.inl ⟨by rfl, fun w' hS => (by go_simp)⟩) k0 ?_
  try simp only [Go.Act.put, List.setIfInBounds_toArray, List.set_cons_zero, List.set_cons_succ]
  refine wpL_ready (rs := [9]) (by kernel_rfl) (by simp) (AllL.cons (o := { dst := none, op := Op.store 235 (Operand.tmp 14) (Operand.tmp 11), type := 0, pos := _, after := #[{ on := 8, ground := Ground.data }, { on := 5, ground := Ground.data }, { on := 0, ground := Ground.phase }, { on := 1, ground := Ground.phase }, { on := 2, ground := Ground.phase }, { on := 3, ground := Ground.phase }, { on := 4, ground := Ground.phase }, { on := 5, ground := Ground.phase }], guard := none }) rfl (fun K' hK => ?_) AllL.nil)
  rw [if_pos (by rfl)]
  go_simp
  refine hK.out _ _ (fun h => absurd h (by decide)) ?_
  clear hK
  try simp only [Go.Act.put, List.setIfInBounds_toArray, List.set_cons_zero, List.set_cons_succ]
  refine wpL_done (by kernel_rfl) ?_ _
  go_wp2
  go_end0
  exact ⟨rfl, HX.out⟩
set_option maxHeartbeats 1000000 in
theorem add1n (f : Option Nat) (hr : w.heap[rb]? = some (.cells #[pv f, pv (none)] 267 (0, 0))) (hq : isCh w q) : Calls Tryz.prog 183 #[PT rb, .int .i64 1, PT q] w fun e w' => e = .returned (.tuple #[]) ∧ AdE w w' 1 rb q f (none) := by
  have HX := hid (ad_none (k := 1) (by omega) hr hq)
  have hne : q ≠ rb := fun e => by obtain ⟨x, a, b, h⟩ := hq; rw [e, hr] at h; simp at h
  have hql : q < w.heap.size := by obtain ⟨x, a, b, h⟩ := hq; exact block_lt h
  have hrl := block_lt hr
  have C1 : ∀ w', Touch [] w w' → w'.cell? ⟨rb, 1, none⟩ = some (.pointer none) := fun w' t => cell_at (t.keep hr (by simp)) rfl
  have fq : ∀ j, w.frozen? ⟨q, j, none⟩ = false := by obtain ⟨x, a, b, h⟩ := hq; exact froz_at h
  have fr : ∀ j, w.frozen? ⟨rb, j, none⟩ = false := froz_at hr
  have c1 := C1 w (Touch.refl _ _)
  have c0 := cell_at (j := 0) (v := pv f) hr rfl
  obtain ⟨vq, cq⟩ : ∃ v, w.cell? ⟨q, 4, none⟩ = some v := by obtain ⟨x, a, b, h⟩ := hq; exact ⟨_, cell_at h rfl⟩
  clear hr hq
  have k0 : Touch [] w w.drew := (Touch.refl _ _).drew
  unfold PT at *
  go_enter Tryz.func183, Tryz.ntmps183
  go_upto_region 0 with fail
  refine wp_region_L (S := fun w' => Touch [] w w') (st := 9) (by kernel_rfl) ?_
  refine wpL_take (i := 0) (v := (.pointer (some ⟨q, 0, none⟩))) (some 6) rfl rfl (by kernel_rfl) (by kernel_rfl) (by kernel_rfl) (by kernel_rfl) (by kernel_rfl) (by decide) (fun _ _ _ h => h) (Or.inl ⟨by rfl, fun w' hS => (by go_simp)⟩) k0 ?_
  try simp only [Go.Act.put, List.setIfInBounds_toArray, List.set_cons_zero, List.set_cons_succ]
  refine wpL_take (i := 1) (v := (.int .i64 1)) (some 7) rfl rfl (by kernel_rfl) (by kernel_rfl) (by kernel_rfl) (by kernel_rfl) (by kernel_rfl) (by decide) (fun _ _ _ h => h) (Or.inl ⟨by rfl, fun w' hS => (by go_simp)⟩) k0 ?_
  try simp only [Go.Act.put, List.setIfInBounds_toArray, List.set_cons_zero, List.set_cons_succ]
  refine wpL_take (i := 2) (v := (.pointer (some ⟨rb, 0, none⟩))) (some 8) rfl rfl (by kernel_rfl) (by kernel_rfl) (by kernel_rfl) (by kernel_rfl) (by kernel_rfl) (by decide) (fun _ _ _ h => h) (Or.inl ⟨by rfl, fun w' hS => (by go_simp)⟩) k0 ?_
  try simp only [Go.Act.put, List.setIfInBounds_toArray, List.set_cons_zero, List.set_cons_succ]
  refine wpL_take (i := 3) (v := (.pointer (some ⟨rb, 0, none⟩))) (some 9) rfl rfl (by kernel_rfl) (by kernel_rfl) (by kernel_rfl) (by kernel_rfl) (by kernel_rfl) (by decide) (fun _ _ _ h => h) (Or.inl ⟨by rfl, fun w' hS => (by go_simp)⟩) k0 ?_
  try simp only [Go.Act.put, List.setIfInBounds_toArray, List.set_cons_zero, List.set_cons_succ]
  refine wpL_take (i := 4) (v := (.pointer (some ⟨rb, 1, none⟩))) (some 10) rfl rfl (by kernel_rfl) (by kernel_rfl) (by kernel_rfl) (by kernel_rfl) (by kernel_rfl) (by decide) (fun _ _ _ h => h) (Or.inl ⟨by rfl, fun w' hS => (by go_simp)⟩) k0 ?_
  try simp only [Go.Act.put, List.setIfInBounds_toArray, List.set_cons_zero, List.set_cons_succ]
  refine wpL_take (i := 5) (v := (.pointer none)) (some 11) rfl rfl (by kernel_rfl) (by kernel_rfl) (by kernel_rfl) (by kernel_rfl) (by kernel_rfl) (by decide) (fun _ _ _ h => h) (Or.inl ⟨by rfl, fun w' hS => (by have z0 := C1 _ hS; go_simp)⟩) k0 ?_
  try simp only [Go.Act.put, List.setIfInBounds_toArray, List.set_cons_zero, List.set_cons_succ]
  refine wpL_takeY (i := 6) (v := (.pointer (some ⟨q, 0, none⟩))) (some 12) rfl rfl (by kernel_rfl) (by kernel_rfl) (by kernel_rfl) (by decide) (fun _ _ _ h => h) (Or.inl ⟨by rfl, fun w' hS => (by go_simp)⟩) (fun _ => k0) ?_
  try simp only [Go.Act.put, List.setIfInBounds_toArray, List.set_cons_zero, List.set_cons_succ]
  refine wpL_takeY (i := 7) (v := (.pointer (some ⟨q, 3, none⟩))) (some 13) rfl rfl (by kernel_rfl) (by kernel_rfl) (by kernel_rfl) (by decide) (fun _ _ _ h => h) (Or.inl ⟨by rfl, fun w' hS => (by go_simp)⟩) (fun _ => k0) ?_
  try simp only [Go.Act.put, List.setIfInBounds_toArray, List.set_cons_zero, List.set_cons_succ]
  refine wpL_take (i := 8) (v := (.pointer (some ⟨q, 4, none⟩))) (some 14) rfl rfl (by kernel_rfl) (by kernel_rfl) (by kernel_rfl) (by kernel_rfl) (by kernel_rfl) (by decide) (fun _ _ _ h => h) (Or.inl ⟨by rfl, fun w' hS => (by go_simp)⟩) k0 ?_
  try simp only [Go.Act.put, List.setIfInBounds_toArray, List.set_cons_zero, List.set_cons_succ]
  refine wpL_ready (rs := [9]) (by kernel_rfl) (by simp) (AllL.cons (o := { dst := none, op := Op.store 235 (Operand.tmp 14) (Operand.tmp 11), type := 0, pos := _, after := #[{ on := 8, ground := Ground.data }, { on := 5, ground := Ground.data }, { on := 0, ground := Ground.phase }, { on := 1, ground := Ground.phase }, { on := 2, ground := Ground.phase }, { on := 3, ground := Ground.phase }, { on := 4, ground := Ground.phase }, { on := 5, ground := Ground.phase }], guard := none }) rfl (fun K' hK => ?_) AllL.nil)
  rw [if_pos (by rfl)]
  go_simp
  refine hK.out _ _ (fun h => absurd h (by decide)) ?_
  clear hK
  try simp only [Go.Act.put, List.setIfInBounds_toArray, List.set_cons_zero, List.set_cons_succ]
  refine wpL_done (by kernel_rfl) ?_ _
  go_wp2
  go_end0
  exact ⟨rfl, HX.out⟩
set_option maxHeartbeats 1000000 in
theorem add1s (f : Option Nat) (p : Nat) (hr : w.heap[rb]? = some (.cells #[pv f, pv (some p)] 267 (0, 0))) (hq : isCh w q) (hp : isCh w p) (hn : p ≠ q) : Calls Tryz.prog 183 #[PT rb, .int .i64 1, PT q] w fun e w' => e = .returned (.tuple #[]) ∧ AdE w w' 1 rb q f (some p) := by
  have HX := hid (ad_some (k := 1) (by omega) hr hq hp hn)
  have hne : q ≠ rb := fun e => by obtain ⟨x, a, b, h⟩ := hq; rw [e, hr] at h; simp at h
  have hql : q < w.heap.size := by obtain ⟨x, a, b, h⟩ := hq; exact block_lt h
  have hrl := block_lt hr
  have C1 : ∀ w', Touch [] w w' → w'.cell? ⟨rb, 1, none⟩ = some (.pointer (some ⟨p, 0, none⟩)) := fun w' t => cell_at (t.keep hr (by simp)) rfl
  have fq : ∀ j, w.frozen? ⟨q, j, none⟩ = false := by obtain ⟨x, a, b, h⟩ := hq; exact froz_at h
  have fr : ∀ j, w.frozen? ⟨rb, j, none⟩ = false := froz_at hr
  have c1 := C1 w (Touch.refl _ _)
  have c0 := cell_at (j := 0) (v := pv f) hr rfl
  obtain ⟨vq, cq⟩ : ∃ v, w.cell? ⟨q, 4, none⟩ = some v := by obtain ⟨x, a, b, h⟩ := hq; exact ⟨_, cell_at h rfl⟩
  obtain ⟨vp, cp⟩ : ∃ v, w.cell? ⟨p, 7, none⟩ = some v := by obtain ⟨x, a, b, h⟩ := hp; exact ⟨_, cell_at h rfl⟩
  have fp : ∀ j, w.frozen? ⟨p, j, none⟩ = false := by obtain ⟨x, a, b, h⟩ := hp; exact froz_at h
  have hne2 : p ≠ rb := fun e => by obtain ⟨x, a, b, h⟩ := hp; rw [e, hr] at h; simp at h
  clear hp
  clear hr hq
  have k0 : Touch [] w w.drew := (Touch.refl _ _).drew
  unfold PT at *
  go_enter Tryz.func183, Tryz.ntmps183
  go_upto_region 0 with fail
  refine wp_region_L (S := fun w' => Touch [] w w') (st := 9) (by kernel_rfl) ?_
  refine wpL_take (i := 0) (v := (.pointer (some ⟨q, 0, none⟩))) (some 6) rfl rfl (by kernel_rfl) (by kernel_rfl) (by kernel_rfl) (by kernel_rfl) (by kernel_rfl) (by decide) (fun _ _ _ h => h) (Or.inl ⟨by rfl, fun w' hS => (by go_simp)⟩) k0 ?_
  try simp only [Go.Act.put, List.setIfInBounds_toArray, List.set_cons_zero, List.set_cons_succ]
  refine wpL_take (i := 1) (v := (.int .i64 1)) (some 7) rfl rfl (by kernel_rfl) (by kernel_rfl) (by kernel_rfl) (by kernel_rfl) (by kernel_rfl) (by decide) (fun _ _ _ h => h) (Or.inl ⟨by rfl, fun w' hS => (by go_simp)⟩) k0 ?_
  try simp only [Go.Act.put, List.setIfInBounds_toArray, List.set_cons_zero, List.set_cons_succ]
  refine wpL_take (i := 2) (v := (.pointer (some ⟨rb, 0, none⟩))) (some 8) rfl rfl (by kernel_rfl) (by kernel_rfl) (by kernel_rfl) (by kernel_rfl) (by kernel_rfl) (by decide) (fun _ _ _ h => h) (Or.inl ⟨by rfl, fun w' hS => (by go_simp)⟩) k0 ?_
  try simp only [Go.Act.put, List.setIfInBounds_toArray, List.set_cons_zero, List.set_cons_succ]
  refine wpL_take (i := 3) (v := (.pointer (some ⟨rb, 0, none⟩))) (some 9) rfl rfl (by kernel_rfl) (by kernel_rfl) (by kernel_rfl) (by kernel_rfl) (by kernel_rfl) (by decide) (fun _ _ _ h => h) (Or.inl ⟨by rfl, fun w' hS => (by go_simp)⟩) k0 ?_
  try simp only [Go.Act.put, List.setIfInBounds_toArray, List.set_cons_zero, List.set_cons_succ]
  refine wpL_take (i := 4) (v := (.pointer (some ⟨rb, 1, none⟩))) (some 10) rfl rfl (by kernel_rfl) (by kernel_rfl) (by kernel_rfl) (by kernel_rfl) (by kernel_rfl) (by decide) (fun _ _ _ h => h) (Or.inl ⟨by rfl, fun w' hS => (by go_simp)⟩) k0 ?_
  try simp only [Go.Act.put, List.setIfInBounds_toArray, List.set_cons_zero, List.set_cons_succ]
  refine wpL_take (i := 5) (v := (.pointer (some ⟨p, 0, none⟩))) (some 11) rfl rfl (by kernel_rfl) (by kernel_rfl) (by kernel_rfl) (by kernel_rfl) (by kernel_rfl) (by decide) (fun _ _ _ h => h) (Or.inl ⟨by rfl, fun w' hS => (by have z0 := C1 _ hS; go_simp)⟩) k0 ?_
  try simp only [Go.Act.put, List.setIfInBounds_toArray, List.set_cons_zero, List.set_cons_succ]
  refine wpL_takeY (i := 6) (v := (.pointer (some ⟨q, 0, none⟩))) (some 12) rfl rfl (by kernel_rfl) (by kernel_rfl) (by kernel_rfl) (by decide) (fun _ _ _ h => h) (Or.inl ⟨by rfl, fun w' hS => (by go_simp)⟩) (fun _ => k0) ?_
  try simp only [Go.Act.put, List.setIfInBounds_toArray, List.set_cons_zero, List.set_cons_succ]
  refine wpL_takeY (i := 7) (v := (.pointer (some ⟨q, 3, none⟩))) (some 13) rfl rfl (by kernel_rfl) (by kernel_rfl) (by kernel_rfl) (by decide) (fun _ _ _ h => h) (Or.inl ⟨by rfl, fun w' hS => (by go_simp)⟩) (fun _ => k0) ?_
  try simp only [Go.Act.put, List.setIfInBounds_toArray, List.set_cons_zero, List.set_cons_succ]
  refine wpL_take (i := 8) (v := (.pointer (some ⟨q, 4, none⟩))) (some 14) rfl rfl (by kernel_rfl) (by kernel_rfl) (by kernel_rfl) (by kernel_rfl) (by kernel_rfl) (by decide) (fun _ _ _ h => h) (Or.inl ⟨by rfl, fun w' hS => (by go_simp)⟩) k0 ?_
  try simp only [Go.Act.put, List.setIfInBounds_toArray, List.set_cons_zero, List.set_cons_succ]
  refine wpL_ready (rs := [9]) (by kernel_rfl) (by simp) (AllL.cons (o := { dst := none, op := Op.store 235 (Operand.tmp 14) (Operand.tmp 11), type := 0, pos := _, after := #[{ on := 8, ground := Ground.data }, { on := 5, ground := Ground.data }, { on := 0, ground := Ground.phase }, { on := 1, ground := Ground.phase }, { on := 2, ground := Ground.phase }, { on := 3, ground := Ground.phase }, { on := 4, ground := Ground.phase }, { on := 5, ground := Ground.phase }], guard := none }) rfl (fun K' hK => ?_) AllL.nil)
  rw [if_pos (by rfl)]
  go_simp
  refine hK.out _ _ (fun h => absurd h (by decide)) ?_
  clear hK
  try simp only [Go.Act.put, List.setIfInBounds_toArray, List.set_cons_zero, List.set_cons_succ]
  refine wpL_done (by kernel_rfl) ?_ _
  go_wp2
  go_end0
  exact ⟨rfl, HX.out⟩
set_option maxHeartbeats 1000000 in
theorem add2n (f : Option Nat) (hr : w.heap[rb]? = some (.cells #[pv f, pv (none)] 267 (0, 0))) (hq : isCh w q) : Calls Tryz.prog 183 #[PT rb, .int .i64 2, PT q] w fun e w' => e = .returned (.tuple #[]) ∧ AdE w w' 2 rb q f (none) := by
  have HX := hid (ad_none (k := 2) (by omega) hr hq)
  have hne : q ≠ rb := fun e => by obtain ⟨x, a, b, h⟩ := hq; rw [e, hr] at h; simp at h
  have hql : q < w.heap.size := by obtain ⟨x, a, b, h⟩ := hq; exact block_lt h
  have hrl := block_lt hr
  have C1 : ∀ w', Touch [] w w' → w'.cell? ⟨rb, 1, none⟩ = some (.pointer none) := fun w' t => cell_at (t.keep hr (by simp)) rfl
  have fq : ∀ j, w.frozen? ⟨q, j, none⟩ = false := by obtain ⟨x, a, b, h⟩ := hq; exact froz_at h
  have fr : ∀ j, w.frozen? ⟨rb, j, none⟩ = false := froz_at hr
  have c1 := C1 w (Touch.refl _ _)
  have c0 := cell_at (j := 0) (v := pv f) hr rfl
  obtain ⟨vq, cq⟩ : ∃ v, w.cell? ⟨q, 5, none⟩ = some v := by obtain ⟨x, a, b, h⟩ := hq; exact ⟨_, cell_at h rfl⟩
  clear hr hq
  have k0 : Touch [] w w.drew := (Touch.refl _ _).drew
  unfold PT at *
  go_enter Tryz.func183, Tryz.ntmps183
  go_upto_region 0 with fail
  refine wp_region_L (S := fun w' => Touch [] w w') (st := 9) (by kernel_rfl) ?_
  refine wpL_take (i := 0) (v := (.pointer (some ⟨q, 0, none⟩))) (some 6) rfl rfl (by kernel_rfl) (by kernel_rfl) (by kernel_rfl) (by kernel_rfl) (by kernel_rfl) (by decide) (fun _ _ _ h => h) (Or.inl ⟨by rfl, fun w' hS => (by go_simp)⟩) k0 ?_
  try simp only [Go.Act.put, List.setIfInBounds_toArray, List.set_cons_zero, List.set_cons_succ]
  refine wpL_take (i := 1) (v := (.int .i64 2)) (some 7) rfl rfl (by kernel_rfl) (by kernel_rfl) (by kernel_rfl) (by kernel_rfl) (by kernel_rfl) (by decide) (fun _ _ _ h => h) (Or.inl ⟨by rfl, fun w' hS => (by go_simp)⟩) k0 ?_
  try simp only [Go.Act.put, List.setIfInBounds_toArray, List.set_cons_zero, List.set_cons_succ]
  refine wpL_take (i := 2) (v := (.pointer (some ⟨rb, 0, none⟩))) (some 8) rfl rfl (by kernel_rfl) (by kernel_rfl) (by kernel_rfl) (by kernel_rfl) (by kernel_rfl) (by decide) (fun _ _ _ h => h) (Or.inl ⟨by rfl, fun w' hS => (by go_simp)⟩) k0 ?_
  try simp only [Go.Act.put, List.setIfInBounds_toArray, List.set_cons_zero, List.set_cons_succ]
  refine wpL_take (i := 3) (v := (.pointer (some ⟨rb, 0, none⟩))) (some 9) rfl rfl (by kernel_rfl) (by kernel_rfl) (by kernel_rfl) (by kernel_rfl) (by kernel_rfl) (by decide) (fun _ _ _ h => h) (Or.inl ⟨by rfl, fun w' hS => (by go_simp)⟩) k0 ?_
  try simp only [Go.Act.put, List.setIfInBounds_toArray, List.set_cons_zero, List.set_cons_succ]
  refine wpL_take (i := 4) (v := (.pointer (some ⟨rb, 1, none⟩))) (some 10) rfl rfl (by kernel_rfl) (by kernel_rfl) (by kernel_rfl) (by kernel_rfl) (by kernel_rfl) (by decide) (fun _ _ _ h => h) (Or.inl ⟨by rfl, fun w' hS => (by go_simp)⟩) k0 ?_
  try simp only [Go.Act.put, List.setIfInBounds_toArray, List.set_cons_zero, List.set_cons_succ]
  refine wpL_take (i := 5) (v := (.pointer none)) (some 11) rfl rfl (by kernel_rfl) (by kernel_rfl) (by kernel_rfl) (by kernel_rfl) (by kernel_rfl) (by decide) (fun _ _ _ h => h) (Or.inl ⟨by rfl, fun w' hS => (by have z0 := C1 _ hS; go_simp)⟩) k0 ?_
  try simp only [Go.Act.put, List.setIfInBounds_toArray, List.set_cons_zero, List.set_cons_succ]
  refine wpL_takeY (i := 6) (v := (.pointer (some ⟨q, 0, none⟩))) (some 12) rfl rfl (by kernel_rfl) (by kernel_rfl) (by kernel_rfl) (by decide) (fun _ _ _ h => h) (Or.inl ⟨by rfl, fun w' hS => (by go_simp)⟩) (fun _ => k0) ?_
  try simp only [Go.Act.put, List.setIfInBounds_toArray, List.set_cons_zero, List.set_cons_succ]
  refine wpL_takeY (i := 7) (v := (.pointer (some ⟨q, 3, none⟩))) (some 13) rfl rfl (by kernel_rfl) (by kernel_rfl) (by kernel_rfl) (by decide) (fun _ _ _ h => h) (Or.inl ⟨by rfl, fun w' hS => (by go_simp)⟩) (fun _ => k0) ?_
  try simp only [Go.Act.put, List.setIfInBounds_toArray, List.set_cons_zero, List.set_cons_succ]
  refine wpL_take (i := 8) (v := (.pointer (some ⟨q, 5, none⟩))) (some 14) rfl rfl (by kernel_rfl) (by kernel_rfl) (by kernel_rfl) (by kernel_rfl) (by kernel_rfl) (by decide) (fun _ _ _ h => h) (Or.inl ⟨by rfl, fun w' hS => (by go_simp)⟩) k0 ?_
  try simp only [Go.Act.put, List.setIfInBounds_toArray, List.set_cons_zero, List.set_cons_succ]
  refine wpL_ready (rs := [9]) (by kernel_rfl) (by simp) (AllL.cons (o := { dst := none, op := Op.store 235 (Operand.tmp 14) (Operand.tmp 11), type := 0, pos := _, after := #[{ on := 8, ground := Ground.data }, { on := 5, ground := Ground.data }, { on := 0, ground := Ground.phase }, { on := 1, ground := Ground.phase }, { on := 2, ground := Ground.phase }, { on := 3, ground := Ground.phase }, { on := 4, ground := Ground.phase }, { on := 5, ground := Ground.phase }], guard := none }) rfl (fun K' hK => ?_) AllL.nil)
  rw [if_pos (by rfl)]
  go_simp
  refine hK.out _ _ (fun h => absurd h (by decide)) ?_
  clear hK
  try simp only [Go.Act.put, List.setIfInBounds_toArray, List.set_cons_zero, List.set_cons_succ]
  refine wpL_done (by kernel_rfl) ?_ _
  go_wp2
  go_end0
  exact ⟨rfl, HX.out⟩
set_option maxHeartbeats 1000000 in
theorem add2s (f : Option Nat) (p : Nat) (hr : w.heap[rb]? = some (.cells #[pv f, pv (some p)] 267 (0, 0))) (hq : isCh w q) (hp : isCh w p) (hn : p ≠ q) : Calls Tryz.prog 183 #[PT rb, .int .i64 2, PT q] w fun e w' => e = .returned (.tuple #[]) ∧ AdE w w' 2 rb q f (some p) := by
  have HX := hid (ad_some (k := 2) (by omega) hr hq hp hn)
  have hne : q ≠ rb := fun e => by obtain ⟨x, a, b, h⟩ := hq; rw [e, hr] at h; simp at h
  have hql : q < w.heap.size := by obtain ⟨x, a, b, h⟩ := hq; exact block_lt h
  have hrl := block_lt hr
  have C1 : ∀ w', Touch [] w w' → w'.cell? ⟨rb, 1, none⟩ = some (.pointer (some ⟨p, 0, none⟩)) := fun w' t => cell_at (t.keep hr (by simp)) rfl
  have fq : ∀ j, w.frozen? ⟨q, j, none⟩ = false := by obtain ⟨x, a, b, h⟩ := hq; exact froz_at h
  have fr : ∀ j, w.frozen? ⟨rb, j, none⟩ = false := froz_at hr
  have c1 := C1 w (Touch.refl _ _)
  have c0 := cell_at (j := 0) (v := pv f) hr rfl
  obtain ⟨vq, cq⟩ : ∃ v, w.cell? ⟨q, 5, none⟩ = some v := by obtain ⟨x, a, b, h⟩ := hq; exact ⟨_, cell_at h rfl⟩
  obtain ⟨vp, cp⟩ : ∃ v, w.cell? ⟨p, 8, none⟩ = some v := by obtain ⟨x, a, b, h⟩ := hp; exact ⟨_, cell_at h rfl⟩
  have fp : ∀ j, w.frozen? ⟨p, j, none⟩ = false := by obtain ⟨x, a, b, h⟩ := hp; exact froz_at h
  have hne2 : p ≠ rb := fun e => by obtain ⟨x, a, b, h⟩ := hp; rw [e, hr] at h; simp at h
  clear hp
  clear hr hq
  have k0 : Touch [] w w.drew := (Touch.refl _ _).drew
  unfold PT at *
  go_enter Tryz.func183, Tryz.ntmps183
  go_upto_region 0 with fail
  refine wp_region_L (S := fun w' => Touch [] w w') (st := 9) (by kernel_rfl) ?_
  refine wpL_take (i := 0) (v := (.pointer (some ⟨q, 0, none⟩))) (some 6) rfl rfl (by kernel_rfl) (by kernel_rfl) (by kernel_rfl) (by kernel_rfl) (by kernel_rfl) (by decide) (fun _ _ _ h => h) (Or.inl ⟨by rfl, fun w' hS => (by go_simp)⟩) k0 ?_
  try simp only [Go.Act.put, List.setIfInBounds_toArray, List.set_cons_zero, List.set_cons_succ]
  refine wpL_take (i := 1) (v := (.int .i64 2)) (some 7) rfl rfl (by kernel_rfl) (by kernel_rfl) (by kernel_rfl) (by kernel_rfl) (by kernel_rfl) (by decide) (fun _ _ _ h => h) (Or.inl ⟨by rfl, fun w' hS => (by go_simp)⟩) k0 ?_
  try simp only [Go.Act.put, List.setIfInBounds_toArray, List.set_cons_zero, List.set_cons_succ]
  refine wpL_take (i := 2) (v := (.pointer (some ⟨rb, 0, none⟩))) (some 8) rfl rfl (by kernel_rfl) (by kernel_rfl) (by kernel_rfl) (by kernel_rfl) (by kernel_rfl) (by decide) (fun _ _ _ h => h) (Or.inl ⟨by rfl, fun w' hS => (by go_simp)⟩) k0 ?_
  try simp only [Go.Act.put, List.setIfInBounds_toArray, List.set_cons_zero, List.set_cons_succ]
  refine wpL_take (i := 3) (v := (.pointer (some ⟨rb, 0, none⟩))) (some 9) rfl rfl (by kernel_rfl) (by kernel_rfl) (by kernel_rfl) (by kernel_rfl) (by kernel_rfl) (by decide) (fun _ _ _ h => h) (Or.inl ⟨by rfl, fun w' hS => (by go_simp)⟩) k0 ?_
  try simp only [Go.Act.put, List.setIfInBounds_toArray, List.set_cons_zero, List.set_cons_succ]
  refine wpL_take (i := 4) (v := (.pointer (some ⟨rb, 1, none⟩))) (some 10) rfl rfl (by kernel_rfl) (by kernel_rfl) (by kernel_rfl) (by kernel_rfl) (by kernel_rfl) (by decide) (fun _ _ _ h => h) (Or.inl ⟨by rfl, fun w' hS => (by go_simp)⟩) k0 ?_
  try simp only [Go.Act.put, List.setIfInBounds_toArray, List.set_cons_zero, List.set_cons_succ]
  refine wpL_take (i := 5) (v := (.pointer (some ⟨p, 0, none⟩))) (some 11) rfl rfl (by kernel_rfl) (by kernel_rfl) (by kernel_rfl) (by kernel_rfl) (by kernel_rfl) (by decide) (fun _ _ _ h => h) (Or.inl ⟨by rfl, fun w' hS => (by have z0 := C1 _ hS; go_simp)⟩) k0 ?_
  try simp only [Go.Act.put, List.setIfInBounds_toArray, List.set_cons_zero, List.set_cons_succ]
  refine wpL_takeY (i := 6) (v := (.pointer (some ⟨q, 0, none⟩))) (some 12) rfl rfl (by kernel_rfl) (by kernel_rfl) (by kernel_rfl) (by decide) (fun _ _ _ h => h) (Or.inl ⟨by rfl, fun w' hS => (by go_simp)⟩) (fun _ => k0) ?_
  try simp only [Go.Act.put, List.setIfInBounds_toArray, List.set_cons_zero, List.set_cons_succ]
  refine wpL_takeY (i := 7) (v := (.pointer (some ⟨q, 3, none⟩))) (some 13) rfl rfl (by kernel_rfl) (by kernel_rfl) (by kernel_rfl) (by decide) (fun _ _ _ h => h) (Or.inl ⟨by rfl, fun w' hS => (by go_simp)⟩) (fun _ => k0) ?_
  try simp only [Go.Act.put, List.setIfInBounds_toArray, List.set_cons_zero, List.set_cons_succ]
  refine wpL_take (i := 8) (v := (.pointer (some ⟨q, 5, none⟩))) (some 14) rfl rfl (by kernel_rfl) (by kernel_rfl) (by kernel_rfl) (by kernel_rfl) (by kernel_rfl) (by decide) (fun _ _ _ h => h) (Or.inl ⟨by rfl, fun w' hS => (by go_simp)⟩) k0 ?_
  try simp only [Go.Act.put, List.setIfInBounds_toArray, List.set_cons_zero, List.set_cons_succ]
  refine wpL_ready (rs := [9]) (by kernel_rfl) (by simp) (AllL.cons (o := { dst := none, op := Op.store 235 (Operand.tmp 14) (Operand.tmp 11), type := 0, pos := _, after := #[{ on := 8, ground := Ground.data }, { on := 5, ground := Ground.data }, { on := 0, ground := Ground.phase }, { on := 1, ground := Ground.phase }, { on := 2, ground := Ground.phase }, { on := 3, ground := Ground.phase }, { on := 4, ground := Ground.phase }, { on := 5, ground := Ground.phase }], guard := none }) rfl (fun K' hK => ?_) AllL.nil)
  rw [if_pos (by rfl)]
  go_simp
  refine hK.out _ _ (fun h => absurd h (by decide)) ?_
  clear hK
  try simp only [Go.Act.put, List.setIfInBounds_toArray, List.set_cons_zero, List.set_cons_succ]
  refine wpL_done (by kernel_rfl) ?_ _
  go_wp2
  go_end0
  exact ⟨rfl, HX.out⟩
theorem add_ (k : Nat) (hk : k < 3) (f l : Option Nat) (hr : w.heap[rb]? = some (.cells #[pv f, pv l] 267 (0, 0))) (hq : isCh w q) (hp : ∀ p, l = some p → isCh w p ∧ p ≠ q) : Calls Tryz.prog 183 #[PT rb, .int .i64 (k : Int), PT q] w fun e w' => e = .returned (.tuple #[]) ∧ AdE w w' k rb q f l := by
  cases l with
  | none =>
    match k, hk with
    | 0, _ => exact add0n w rb q f hr hq
    | 1, _ => exact add1n w rb q f hr hq
    | 2, _ => exact add2n w rb q f hr hq
  | some p =>
    obtain ⟨h1, h2⟩ := hp p rfl
    match k, hk with
    | 0, _ => exact add0s w rb q f p hr hq h1 h2
    | 1, _ => exact add1s w rb q f p hr hq h1 h2
    | 2, _ => exact add2s w rb q f p hr hq h1 h2
end
end Go.Proofs.YtllchnancjgijaaGreat.Lv
/- The contracts of Seats' seats and of callers; no conditions but those that each states. -/
namespace Go.Proofs.YtllchnancjgijaaGreat.Lv
open Go.RowKit Go.Maps Go.ChangeMaps
set_option maxRecDepth 100000
set_option linter.unusedVariables false
set_option linter.unusedSimpArgs false
def inK (k : Nat) (n : Int) (L : List Se) : List Se := L.filter (fun x => decide (num k x = n))
theorem zeroRow (w : World) : (zeroValue 267).run Tryz.prog w = .ok (rowV []) w := by kernel_rfl
theorem w64k {k : Nat} (h : k < 3) : W64 (k : Int) := W64.mk (by omega) (by omega)
section
variable {w : World} {s nr : Nat} {mc mr mk : Option Nat} {CH : List Chr} {G : List Int}
theorem rmap_get (CH : List Chr) {k : Nat} (hk : k < 3) (n : Int) : (rmap CH ((k : Int), n)).getD (rowV []) = rowV (rowOf k n CH) ∧ (rmap CH ((k : Int), n)).isSome = decide (rowOf k n CH ≠ []) := by
  unfold rmap
  simp only [Int.toNat_natCast]
  by_cases h : rowOf k n CH = []
  · rw [if_neg (fun e => e.2.2 h), h]; simp
  · rw [if_pos ⟨by omega, by omega, h⟩]; simp [h]
theorem Sm.cell (h : Sm w s mc mr mk nr CH G) : w.cell? ⟨s, 0, none⟩ = some (.map mc) ∧ w.cell? ⟨s, 1, none⟩ = some (.map mr) ∧ w.cell? ⟨s, 2, none⟩ = some (.map mk) ∧ ∀ j, w.frozen? ⟨s, j, none⟩ = false := ⟨cell_at h.hb rfl, cell_at h.hb rfl, cell_at h.hb rfl, froz_at h.hb⟩
theorem row_seats (CH : List Chr) (k : Nat) (n : Int) (i q : Nat) (hq : (rowOf k n CH)[i]? = some q) : ∃ p ∈ CH, p.1 = q ∧ (inK k n (CH.map Prod.snd))[i]? = some p.2 ∧ num k p.2 = n := by
  have e : inK k n (CH.map Prod.snd) = (CH.filter (fun p => decide (num k p.2 = n))).map Prod.snd := by
    unfold inK
    rw [List.filter_map]
    rfl
  unfold rowOf at hq
  rw [List.getElem?_map] at hq
  cases hp : (CH.filter (fun p => decide (num k p.2 = n)))[i]? with
  | none => rw [hp] at hq; cases hq
  | some p =>
    rw [hp] at hq
    simp only [Option.map_some, Option.some.injEq] at hq
    have hm := List.mem_filter.1 (List.mem_of_getElem? hp)
    exact ⟨p, hm.1, hq, by rw [e, List.getElem?_map, hp]; rfl, by simpa using hm.2⟩
end
end Go.Proofs.YtllchnancjgijaaGreat.Lv
/- What place and takeAway leave behind each kind: chairs, rows and maps in the midst of a step; no conditions. -/
namespace Go.Proofs.YtllchnancjgijaaGreat.Lv
open Go.RowKit Go.Maps Go.ChangeMaps
set_option maxRecDepth 100000
set_option linter.unusedVariables false
set_option linter.unusedSimpArgs false
def upd2 (A : Nat → Nat → Option Nat) (k : Nat) (o v : Option Nat) : Nat → Nat → Option Nat := fun k' => if k' = k then updO (A k') o v else A k'
theorem upd2_at (A : Nat → Nat → Option Nat) (k : Nat) (o v : Option Nat) : upd2 A k o v k = updO (A k) o v := by simp [upd2]
theorem upd2_ne (A : Nat → Nat → Option Nat) {k j : Nat} (h : j ≠ k) (o v : Option Nat) : upd2 A k o v j = A j := by simp [upd2, h]
theorem upd2_hit (A : Nat → Nat → Option Nat) (k q : Nat) (v : Option Nat) : (fun j => upd2 A k (some q) v j q) = updN (fun j => A j q) k v := by
  funext j
  unfold upd2 updN updO
  by_cases h : j = k <;> simp [h]
theorem upd2_miss (A : Nat → Nat → Option Nat) (k q : Nat) {o : Option Nat} (h : o ≠ some q) (v : Option Nat) : (fun j => upd2 A k o v j q) = fun j => A j q := by
  funext j
  unfold upd2 updO
  by_cases h' : j = k <;> simp [h', h]
theorem Ch.keep {w w' : World} {CH : List Chr} {A B : Nat → Nat → Option Nat} {F : List Nat} (h : Ch w CH A B) (T : Touch F w w') (hF : ∀ p ∈ CH, ¬ p.1 ∈ F) : Ch w' CH A B := fun p hp => T.keep (h p hp) (hF p hp)
theorem Ch.is {w : World} {CH : List Chr} {A B : Nat → Nat → Option Nat} (h : Ch w CH A B) {q : Nat} (hq : q ∈ CH.map Prod.fst) : isCh w q := by
  obtain ⟨p, hp, rfl⟩ := List.mem_map.1 hq
  exact ⟨_, _, _, h p hp⟩
theorem row_mem {CH : List Chr} {k : Nat} {n : Int} {q : Nat} (h : q ∈ rowOf k n CH) : q ∈ CH.map Prod.fst := by
  obtain ⟨p, hp, rfl⟩ := List.mem_map.1 h
  exact List.mem_map.2 ⟨p, (List.mem_filter.1 hp).1, rfl⟩
theorem row_nd {CH : List Chr} (h : (CH.map Prod.fst).Nodup) (k : Nat) (n : Int) : (rowOf k n CH).Nodup := h.sublist (List.filter_sublist.map _)
theorem Ch.added {w w' : World} {CH : List Chr} {A B : Nat → Nat → Option Nat} {k rb q : Nat} {f l : Option Nat} (h : Ch w CH A B) (hE : AdE w w' k rb q f l) (hrb : ∀ p ∈ CH, p.1 ≠ rb) (hlq : l ≠ some q) : Ch w' CH (upd2 A k (some q) l) (upd2 B k l (some q)) := fun p hp => by
  have hp0 := h p hp
  by_cases e : p.1 = q
  · rw [e] at hp0 ⊢
    rw [upd2_hit, upd2_miss _ _ _ hlq]
    exact hE.at_ _ _ _ hp0
  · rw [upd2_miss _ _ _ (fun e' => e (by simp only [Option.some.injEq] at e'; exact e'.symm))]
    by_cases e2 : l = some p.1
    · rw [e2, upd2_hit]
      exact hE.be p.1 _ _ _ e2 hp0
    · rw [upd2_miss _ _ _ e2]
      refine hE.t.keep hp0 (fun e3 => ?_)
      simp only [List.mem_cons, Option.mem_toList] at e3
      rcases e3 with e3 | e3 | e3
      · exact hrb p hp e3
      · exact e e3
      · exact e2 e3
theorem row_snoc (CH : List Chr) (q : Nat) (x : Se) (k : Nat) (n : Int) : rowOf k n (CH ++ [(q, x)]) = if num k x = n then rowOf k n CH ++ [q] else rowOf k n CH := by
  unfold rowOf
  rw [List.filter_append, List.map_append]
  by_cases h : num k x = n <;> simp [h]
theorem head_snoc (xs : List Nat) (q : Nat) : (xs ++ [q]).head? = if lastO none xs = none then some q else xs.head? := by
  cases xs with
  | nil => rfl
  | cons a r =>
    rw [if_neg (fun e => by have := lastO_none e; cases this)]
    rfl
theorem last_snoc (xs : List Nat) (q : Nat) : lastO none (xs ++ [q]) = some q := by rw [lastO_append]; rfl
def rmid (i : Nat) (CH' CH : List Chr) (n : Nm) : Option Value := if n.1 < (i : Int) then rmap CH' n else rmap CH n
theorem rmid0 (CH' CH : List Chr) {n : Nm} : rmid 0 CH' CH n = rmap CH n := by
  unfold rmid
  by_cases h : n.1 < ((0 : Nat) : Int)
  · rw [if_pos h]
    unfold rmap
    rw [if_neg (fun e => by have := e.1; omega), if_neg (fun e => by have := e.1; omega)]
  · rw [if_neg h]
theorem rmid3 (CH' CH : List Chr) {n : Nm} : rmid 3 CH' CH n = rmap CH' n := by
  unfold rmid
  by_cases h : n.1 < ((3 : Nat) : Int)
  · rw [if_pos h]
  · rw [if_neg h]
    unfold rmap
    rw [if_neg (fun e => by have := e.2.1; omega), if_neg (fun e => by have := e.2.1; omega)]
theorem rmid_step {CH' CH : List Chr} {i : Nat} (hi : i < 3) {m : Int} (ho : ∀ n, n ≠ m → rowOf i n CH' = rowOf i n CH) (n : Nm) (f : Nm → Option Value) (hf : f ((i : Int), m) = rmap CH' ((i : Int), m)) (hg : ∀ n, n ≠ ((i : Int), m) → f n = rmid i CH' CH n) : f n = rmid (i + 1) CH' CH n := by
  by_cases e : n = ((i : Int), m)
  · subst e
    rw [hf]
    unfold rmid
    rw [if_pos (by simp only; omega)]
  · rw [hg n e]
    unfold rmid
    by_cases h1 : n.1 < (i : Int)
    · rw [if_pos h1, if_pos (by omega)]
    · rw [if_neg h1]
      by_cases h2 : n.1 < ((i + 1 : Nat) : Int)
      · rw [if_pos h2]
        have e1 : n.1 = (i : Int) := by omega
        have e2 : n.2 ≠ m := fun e2 => e (Prod.ext e1 e2)
        unfold rmap
        rw [e1, Int.toNat_natCast, ho n.2 e2]
      · rw [if_neg h2]
theorem rmap_row {CH : List Chr} {k : Nat} (hk : k < 3) (n : Int) (h : rowOf k n CH ≠ []) : rmap CH ((k : Int), n) = some (rowV (rowOf k n CH)) := by
  unfold rmap
  simp only [Int.toNat_natCast]
  rw [if_pos ⟨by omega, by omega, h⟩]
theorem num_wf {x : Se} (h : Wf x) (k : Nat) : W64 (num k x) := by
  match k with
  | 0 => exact W64.mk (by show _ ≤ (0 : Int); omega) (by show (0 : Int) ≤ _; omega)
  | 1 => exact h.2.1
  | k + 2 => exact h.2.2
theorem ok_name {x : Se} (h : Wf x) {k : Nat} (hk : k < 3) : OkN ((k : Int), num k x) := ⟨w64k hk, num_wf h k⟩
structure Md (w : World) (s b d : Nat) (mk : Option Nat) (nr : Nat) (CH C0 C1 : List Chr) (G : List Int) (i : Nat) (Z : (Nat → Nat → Option Nat) → (Nat → Nat → Option Nat) → Nat → Prop) : Prop where
  hb : w.heap[s]? = some (.cells (sbc (some b) (some d) mk) 197 (0, 0))
  bd : b ≠ d
  cm : MapK KI w b C1.length (cmap C1)
  rm : ∃ n, n ≤ nr ∧ MapK KN w d n (rmid i C1 C0)
  km : (mk = none ∧ G = []) ∨ ∃ b, mk = some b ∧ MapK KI w b G.length (kmap G)
  kc : ∀ c, mk = some c → c ≠ b ∧ c ≠ d
  lk : ∃ A B, Ch w CH A B ∧ (∀ k, k < 3 → k < i → ∀ n, Lk (A k) (B k) none (rowOf k n C1)) ∧ (∀ k, k < 3 → i ≤ k → Z A B k ∧ ∀ n, Lk (A k) (B k) none (rowOf k n C0))
def fpM (s b d : Nat) (mk : Option Nat) (CH : List Chr) : List Nat := fpS s (some b) (some d) mk CH
section
variable {w w' : World} {s b d nr i : Nat} {mk : Option Nat} {CH C0 C1 : List Chr} {G : List Int} {X : List Nat} {Z : (Nat → Nat → Option Nat) → (Nat → Nat → Option Nat) → Nat → Prop}
theorem Md.keep (h : Md w s b d mk nr CH C0 C1 G i Z) (T : Touch X w w') (hX : ∀ q, q ∈ fpM s b d mk CH → ¬ q ∈ X) : Md w' s b d mk nr CH C0 C1 G i Z := by
  refine ⟨T.keep h.hb (hX s (mem_fpS.2 (Or.inl rfl))), h.bd, h.cm.keep T (hX b (mem_fpS.2 (Or.inr (Or.inl rfl)))), ?_, ?_, h.kc, ?_⟩
  · obtain ⟨n, h1, h2⟩ := h.rm
    exact ⟨n, h1, h2.keep T (hX d (mem_fpS.2 (Or.inr (Or.inr (Or.inl rfl)))))⟩
  · rcases h.km with h1 | ⟨c, h1, h2⟩
    · exact Or.inl h1
    · exact Or.inr ⟨c, h1, h2.keep T (hX c (mem_fpS.2 (Or.inr (Or.inr (Or.inr (Or.inl h1))))))⟩
  · obtain ⟨A, B, h1, h2⟩ := h.lk
    exact ⟨A, B, h1.keep T (fun p hp => hX p.1 (mem_fpS.2 (Or.inr (Or.inr (Or.inr (Or.inr (List.mem_map.2 ⟨p, hp, rfl⟩))))))), h2⟩
theorem Md.keep0 (h : Md w s b d mk nr CH C0 C1 G i Z) (T : Touch [] w w') : Md w' s b d mk nr CH C0 C1 G i Z := h.keep T (fun _ _ e => by cases e)
theorem Md.own (h : Md w s b d mk nr CH C0 C1 G i Z) : ∀ q, q ∈ fpM s b d mk CH → Own1 w q := fun q hq => by
  rcases mem_fpS.1 hq with e | e | e | e | e
  · subst e; exact Or.inl ⟨_, _, h.hb⟩
  · cases e; exact Or.inr (Or.inr h.cm.kind)
  · cases e; obtain ⟨n, _, h2⟩ := h.rm; exact Or.inr (Or.inr h2.kind)
  · rcases h.km with ⟨h1, _⟩ | ⟨c, h1, h2⟩
    · rw [h1] at e; cases e
    · rw [h1] at e; cases e; exact Or.inr (Or.inr h2.kind)
  · obtain ⟨p, hp, rfl⟩ := List.mem_map.1 e
    obtain ⟨A, B, h1, _⟩ := h.lk
    exact Or.inr (Or.inl ⟨_, _, h1 p hp⟩)
theorem Md.lookR (h : Md w s b d mk nr CH C0 C1 G i Z) (hi : i < 3) {m : Int} (hm : W64 m) : (Instr.lookup 195 (.map (some d)) (.agg #[.int .i64 (i : Int), .int .i64 m]) false).run Tryz.prog w = .ok (rowV (rowOf i m C0)) w := by
  obtain ⟨n, h1, h2⟩ := h.rm
  have := h2.look (t := 195) Tryz.underlying195 (zeroRow w) (k := ((i : Int), m)) ⟨w64k hi, hm⟩
  rw [show rmid i C1 C0 ((i : Int), m) = rmap C0 ((i : Int), m) by unfold rmid; rw [if_neg (by simp only; omega)], (rmap_get C0 hi m).1] at this
  exact this
theorem Md.cell (h : Md w s b d mk nr CH C0 C1 G i Z) : w.cell? ⟨s, 1, none⟩ = some (.map (some d)) := cell_at h.hb rfl
end
end Go.Proofs.YtllchnancjgijaaGreat.Lv
/- One kind of place's and of takeAway's rounds, told of memory alone; no conditions but those that each states. -/
namespace Go.Proofs.YtllchnancjgijaaGreat.Lv
open Go.RowKit Go.Maps Go.ChangeMaps
set_option maxRecDepth 100000
set_option linter.unusedVariables false
set_option linter.unusedSimpArgs false
theorem isCh.nemap {w : World} {q r : Nat} (h : isCh w q) (hr : ∃ es cl, w.heap[r]? = some (.map es cl)) : r ≠ q := fun e => by
  obtain ⟨x, a, b, h⟩ := h
  obtain ⟨es, cl, hr⟩ := hr
  rw [e, h] at hr
  cases hr
structure Rb (W : World) (s d nb rb : Nat) (k m : Int) (f l : Option Nat) : Prop where
  s1 : ∀ w', Touch [] W w' → w'.cell? ⟨s, 1, none⟩ = some (.map (some d))
  n0 : ∀ w', Touch [] W w' → w'.cell? ⟨nb, 0, none⟩ = some (.int .i64 k)
  n1 : ∀ w', Touch [] W w' → w'.cell? ⟨nb, 1, none⟩ = some (.int .i64 m)
  r0 : ∀ w', Touch [] W w' → w'.cell? ⟨rb, 0, none⟩ = some (pv f)
  r1 : ∀ w', Touch [] W w' → w'.cell? ⟨rb, 1, none⟩ = some (pv l)
theorem Rb.mk' {W : World} {s d nb rb : Nat} {mc mk : Option Nat} {k m : Int} {f l : Option Nat} (h1 : W.heap[s]? = some (.cells (sbc mc (some d) mk) 197 (0, 0))) (h2 : W.heap[nb]? = some (.cells #[.int .i64 k, .int .i64 m] 200 (0, 0))) (h3 : W.heap[rb]? = some (.cells #[pv f, pv l] 267 (0, 0))) : Rb W s d nb rb k m f l :=
  ⟨fun w' t => cell_at (t.keep h1 (by simp)) rfl, fun w' t => cell_at (t.keep h2 (by simp)) rfl, fun w' t => cell_at (t.keep h2 (by simp)) rfl, fun w' t => cell_at (t.keep h3 (by simp)) rfl, fun w' t => cell_at (t.keep h3 (by simp)) rfl⟩
def Zp (q : Nat) (A B : Nat → Nat → Option Nat) (k : Nat) : Prop := B k q = none
section
variable {wr V2 W2 : World} {s b d nr i q nb rb : Nat} {mk : Option Nat} {CH : List Chr} {G : List Int} {x : Se}
theorem last_is {w : World} {A B : Nat → Nat → Option Nat} {CH C0 : List Chr} (hc : Ch w CH A B) (hs : ∀ p ∈ C0, p ∈ CH) {k : Nat} {n : Int} {p : Nat} (h : lastO none (rowOf k n C0) = some p) : isCh w p ∧ p ∈ C0.map Prod.fst := by
  rcases lastO_mem h with e | e
  · cases e
  · have h1 := row_mem e
    obtain ⟨z, hz, rfl⟩ := List.mem_map.1 h1
    exact ⟨⟨_, _, _, hc z (hs z hz)⟩, h1⟩
theorem place_ready (h : Md wr s b d mk nr (CH ++ [(q, x)]) CH (CH ++ [(q, x)]) G i (Zp q)) (nd : ((CH ++ [(q, x)]).map Prod.fst).Nodup) (m : Int) : isCh wr q ∧ ∀ p, lastO none (rowOf i m CH) = some p → isCh wr p ∧ p ≠ q := by
  obtain ⟨A, B, h1, _⟩ := h.lk
  refine ⟨⟨_, _, _, h1 (q, x) (by simp)⟩, fun p hp => ?_⟩
  obtain ⟨h2, h3⟩ := last_is h1 (fun p hp => by simp [hp]) hp
  refine ⟨h2, fun e => ?_⟩
  rw [List.map_append, List.nodup_append] at nd
  exact nd.2.2 p h3 q (by simp) e
theorem place_step (h : Md wr s b d mk (nr + i) (CH ++ [(q, x)]) CH (CH ++ [(q, x)]) G i (Zp q)) (hi : i < 3) (hx : Wf x) (nd : ((CH ++ [(q, x)]).map Prod.fst).Nodup) (hnr : nr + 3 < maxLen) (t2 : Touch [] wr V2) (hn : V2.heap[nb]? = some (.cells #[.int .i64 (i : Int), .int .i64 (num i x)] 200 (0, 0))) (hrb : wr.heap.size ≤ rb)
    (hr : V2.heap[rb]? = some (.cells (rowC (rowOf i (num i x) CH)) 267 (0, 0))) (hE : AdE V2 W2 i rb q (rowOf i (num i x) CH).head? (lastO none (rowOf i (num i x) CH))) :
    ∃ f o, Rb W2 s d nb rb i (num i x) f (some q) ∧ (Instr.mapUpdate 195 (.map (some d)) (.agg #[.int .i64 (i : Int), .int .i64 (num i x)]) (.agg #[pv f, pv (some q)])).run Tryz.prog W2.drew = .ok () (setBlock W2.drew d o) ∧ Md (setBlock W2.drew d o) s b d mk (nr + (i + 1)) (CH ++ [(q, x)]) CH (CH ++ [(q, x)]) G (i + 1) (Zp q) ∧ Touch (fpM s b d mk (CH ++ [(q, x)])) wr (setBlock W2.drew d o) := by
  have h2 := h.keep0 t2
  have hown := h2.own
  obtain ⟨hq, hl⟩ := place_ready h2 nd (num i x)
  have hF : ∀ z, z ∈ rb :: q :: (lastO none (rowOf i (num i x) CH)).toList → z = rb ∨ z ∈ (CH ++ [(q, x)]).map Prod.fst := fun z hz => by
    simp only [List.mem_cons, Option.mem_toList] at hz
    rcases hz with e | e | e
    · exact Or.inl e
    · exact Or.inr (by simp [e])
    · obtain ⟨A, B, h1, _⟩ := h2.lk
      have := (last_is h1 (C0 := CH) (fun p hp => by simp [hp]) e).2
      exact Or.inr (by rw [List.map_append]; exact List.mem_append.2 (Or.inl this))
  have hch : ∀ z, z ∈ (CH ++ [(q, x)]).map Prod.fst → isCh V2 z := fun z hz => by
    obtain ⟨A, B, h1, _⟩ := h2.lk
    exact h1.is hz
  have hmap : ∀ z, (∃ es cl, V2.heap[z]? = some (.map es cl)) → ¬ z ∈ rb :: q :: (lastO none (rowOf i (num i x) CH)).toList := fun z hz e => by
    rcases hF z e with e | e
    · obtain ⟨es, cl, hz⟩ := hz
      rw [e, hr] at hz
      cases hz
    · exact (hch z e).nemap hz rfl
  have hs : ¬ s ∈ rb :: q :: (lastO none (rowOf i (num i x) CH)).toList := fun e => by
    rcases hF s e with e | e
    · have := h2.hb; rw [e, hr] at this; simp at this
    · obtain ⟨x', a', b', h3⟩ := hch s e
      have := h2.hb; rw [h3] at this; simp at this
  have hnb : ¬ nb ∈ rb :: q :: (lastO none (rowOf i (num i x) CH)).toList := fun e => by
    rcases hF nb e with e | e
    · rw [e, hr] at hn; simp at hn
    · obtain ⟨x', a', b', h3⟩ := hch nb e
      rw [h3] at hn; simp at hn
  obtain ⟨n, hn1, hn2⟩ := h2.rm
  have hm2 : MapK KN W2.drew d n (rmid i (CH ++ [(q, x)]) CH) := (hn2.keep hE.t (hmap d hn2.kind)).kept rfl
  obtain ⟨o, o1, o2⟩ := hm2.set (t := 195) Tryz.underlying195 (by omega) (k := ((i : Int), num i x)) (ok_name hx hi) (rowV (rowOf i (num i x) (CH ++ [(q, x)])))
  have erow : rowOf i (num i x) (CH ++ [(q, x)]) = rowOf i (num i x) CH ++ [q] := by rw [row_snoc, if_pos rfl]
  have eV : rowV (rowOf i (num i x) (CH ++ [(q, x)])) = .agg #[pv (if lastO none (rowOf i (num i x) CH) = none then some q else (rowOf i (num i x) CH).head?), pv (some q)] := by
    rw [erow]
    unfold rowV rowC
    rw [head_snoc, last_snoc]
  have td : Touch [d] W2 (setBlock W2.drew d o) := touch_setBlock (Touch.refl _ _).drew (Or.inl (by simp)) o
  have hsd : s ≠ d := fun e => by
    obtain ⟨es, cl, h3⟩ := hn2.kind
    have := h2.hb; rw [e, h3] at this; cases this
  have hmd : ∀ z, isCh V2 z → z ≠ d := fun z hz e => hz.nemap hn2.kind e.symm
  refine ⟨_, o, Rb.mk' (hE.t.keep h2.hb hs) (hE.t.keep hn hnb) hE.row, by rw [← eV]; exact o1, ⟨td.keep (hE.t.keep h2.hb hs) (by simpa using hsd), h.bd, (h2.cm.keep hE.t (hmap b h2.cm.kind)).keep td (by simpa using h.bd), ?_, ?_, h.kc, ?_⟩, ?_⟩
  · refine ⟨_, ?_, o2.congr (fun z hz => rmid_step hi (m := num i x) (fun n hne => ?_) z _ ?_ (fun z hz => ?_))⟩
    · split <;> omega
    · rw [row_snoc, if_neg (fun e => hne e.symm)]
    · rw [rmap_row hi _ (by rw [erow]; simp)]
      simp [kupd]
    · simp [kupd, hz]
  · rcases h2.km with h1 | ⟨c, h1, h3⟩
    · exact Or.inl h1
    · exact Or.inr ⟨c, h1, (h3.keep hE.t (hmap c h3.kind)).keep td (by simpa using (h.kc c h1).2)⟩
  · obtain ⟨A, B, h1, h3, h4⟩ := h2.lk
    have hlq : lastO none (rowOf i (num i x) CH) ≠ some q := fun e => (hl q e).2 rfl
    have hc := h1.added hE (fun p hp e => by
      obtain ⟨x', a', b', h5⟩ := hch p.1 (List.mem_map.2 ⟨p, hp, rfl⟩)
      rw [e, hr] at h5; simp at h5) hlq
    refine ⟨_, _, hc.keep td (fun p hp e => hmd p.1 (hch p.1 (List.mem_map.2 ⟨p, hp, rfl⟩)) (by simpa using e)), fun k hk hki n => ?_, fun k hk hki => ⟨?_, fun n => ?_⟩⟩
    · by_cases e : k = i
      · subst e
        rw [upd2_at, upd2_at]
        obtain ⟨hz, hlk⟩ := h4 k hk (Nat.le_refl k)
        by_cases e2 : num k x = n
        · subst e2
          rw [erow]
          have hnd := row_nd nd k (num k x)
          rw [erow] at hnd
          exact (hlk (num k x)).snoc hnd hz (by simp)
        · rw [row_snoc, if_neg e2]
          refine (hlk n).congr (fun z hz2 => ⟨?_, ?_⟩)
          · unfold updO
            rw [if_neg]
            intro e3
            simp only [Option.some.injEq] at e3
            subst e3
            have := row_mem hz2
            rw [List.map_append, List.nodup_append] at nd
            exact nd.2.2 q this q (by simp) rfl
          · unfold updO
            rw [if_neg]
            intro e3
            rcases lastO_mem e3 with e4 | e4
            · cases e4
            · obtain ⟨j1, hj1⟩ := List.getElem?_of_mem e4
              obtain ⟨j2, hj2⟩ := List.getElem?_of_mem hz2
              obtain ⟨p1, hp1, e5, _, e6⟩ := row_seats CH k _ j1 z hj1
              obtain ⟨p2, hp2, e7, _, e8⟩ := row_seats CH k _ j2 z hj2
              have : p1 = p2 := by
                have nd' : (CH.map Prod.fst).Nodup := by rw [List.map_append, List.nodup_append] at nd; exact nd.1
                obtain ⟨i1, hi1⟩ := List.getElem?_of_mem hp1
                obtain ⟨i2, hi2⟩ := List.getElem?_of_mem hp2
                have l1 := (List.getElem?_eq_some_iff.1 hi1).1
                have l2 := (List.getElem?_eq_some_iff.1 hi2).1
                have g1 : (CH.map Prod.fst)[i1]? = some z := by rw [List.getElem?_map, hi1]; simp [e5]
                have g2 : (CH.map Prod.fst)[i2]? = some z := by rw [List.getElem?_map, hi2]; simp [e7]
                have : i1 = i2 := (List.getElem?_inj (by simpa using l1) nd').1 (g1.trans g2.symm)
                subst this
                rw [hi1] at hi2
                exact Option.some.inj hi2
              rw [this, e8] at e6
              exact e2 e6.symm
      · rw [upd2_ne _ e, upd2_ne _ e]
        exact h3 k hk (by omega) n
    · have e : k ≠ i := by omega
      show upd2 B i _ _ k q = none
      rw [upd2_ne _ e]
      exact (h4 k hk (by omega)).1
    · have e : k ≠ i := by omega
      rw [upd2_ne _ e, upd2_ne _ e]
      exact (h4 k hk (by omega)).2 n
  · have t3 : Touch (fpM s b d mk (CH ++ [(q, x)])) wr W2 := (t2.mono (fun _ e => by cases e)).trans hE.t (fun z hz => by
      rcases hF z hz with e | e
      · exact Or.inr (by omega)
      · exact Or.inl (mem_fpS.2 (Or.inr (Or.inr (Or.inr (Or.inr e))))))
    exact t3.trans td (fun z hz => Or.inl (mem_fpS.2 (Or.inr (Or.inr (Or.inl (by simp at hz; rw [hz]))))))
end
end Go.Proofs.YtllchnancjgijaaGreat.Lv
/- The contracts of names and place; no conditions but those that each states. -/
namespace Go.Proofs.YtllchnancjgijaaGreat.Lv
open Go.RowKit Go.Maps Go.ChangeMaps
set_option maxRecDepth 100000
set_option linter.unusedVariables false
set_option linter.unusedSimpArgs false
def nm3 (x : Se) : Array Value := #[.int .i64 0, .int .i64 0, .int .i64 1, .int .i64 x.2.1, .int .i64 2, .int .i64 x.2.2]
set_option maxRecDepth 100000 in
theorem names_ (w : World) (x : Se) : Calls Tryz.prog 158 #[sv x] w fun e w' => e = .returned (.agg (nm3 x)) ∧ Touch [] w w' := by
  have HT : Hid (Touch [] w ((w.alloc (.cells #[.int .i64 x.1, .int .i64 x.2.1, .int .i64 x.2.2] 134)).alloc (.cells (nm3 x) 264))) := hid (((Touch.refl _ _).alloc _).alloc _)
  unfold sv nm3 at *
  go_enter Tryz.func158, Tryz.ntmps158
  go_wp2
  refine bodyPost_ret (v := .agg #[.int .i64 0, .int .i64 0, .int .i64 1, .int .i64 x.2.1, .int .i64 2, .int .i64 x.2.2]) (by simp [results, Tryz.results158, go_sem]) rfl ⟨rfl, ?_⟩
  exact HT.out
theorem ixN0 (w : World) (r t : Int) : (Instr.index 264 (.agg #[.int .i64 0, .int .i64 0, .int .i64 1, .int .i64 r, .int .i64 2, .int .i64 t]) (.int .i64 0)).run Tryz.prog w = .ok (.agg #[.int .i64 0, .int .i64 0]) w := by kernel_rfl
theorem ixN1 (w : World) (r t : Int) : (Instr.index 264 (.agg #[.int .i64 0, .int .i64 0, .int .i64 1, .int .i64 r, .int .i64 2, .int .i64 t]) (.int .i64 1)).run Tryz.prog w = .ok (.agg #[.int .i64 1, .int .i64 r]) w := by kernel_rfl
theorem ixN2 (w : World) (r t : Int) : (Instr.index 264 (.agg #[.int .i64 0, .int .i64 0, .int .i64 1, .int .i64 r, .int .i64 2, .int .i64 t]) (.int .i64 2)).run Tryz.prog w = .ok (.agg #[.int .i64 2, .int .i64 t]) w := by kernel_rfl
set_option maxRecDepth 100000 in
theorem ixN (w : World) (r t : Int) (x : Se) (hr : x.2.1 = r) (ht : x.2.2 = t) {i : Nat} (hi : i < 3) : (Instr.index 264 (.agg #[.int .i64 0, .int .i64 0, .int .i64 1, .int .i64 r, .int .i64 2, .int .i64 t]) (.int .i64 (i : Int))).run Tryz.prog w = .ok (.agg #[.int .i64 (i : Int), .int .i64 (num i x)]) w := by
  subst hr ht
  match i, hi with
  | 0, _ => exact ixN0 w _ _
  | 1, _ => exact ixN1 w _ _
  | 2, _ => exact ixN2 w _ _
theorem cmap_snoc {CH : List Chr} {q : Nat} {x : Se} (hn : ∀ p ∈ CH, p.2.1 ≠ x.1) (c : Int) : kupd (cmap CH) x.1 (PT q) c = cmap (CH ++ [(q, x)]) c := by
  unfold kupd cmap
  rw [List.find?_append]
  by_cases e : c = x.1
  · subst e
    rw [if_pos rfl, List.find?_eq_none.2 (fun p hp => by simp [hn p hp])]
    simp
  · rw [if_neg e]
    cases List.find? (fun p => decide (p.2.1 = c)) CH with
    | some p => rfl
    | none =>
      have hne : ¬ x.1 = c := fun e' => e e'.symm
      simp [hne]
def PlE (w w' : World) (s : Nat) (mc mr mk : Option Nat) (nr : Nat) (CH : List Chr) (G : List Int) (x : Se) : Prop := ∃ b d q n, n ≤ nr + 3 ∧ Sm w' s (some b) (some d) mk n (CH ++ [(q, x)]) G ∧ Touch (fpS s mc mr mk CH) w w' ∧ w.heap.size ≤ q ∧ (mc = some b ∨ w.heap.size ≤ b) ∧ (mr = some d ∨ w.heap.size ≤ d)
def PlA (V wx : World) (s : Nat) (mc mr mk : Option Nat) (nr : Nat) (CH : List Chr) (G : List Int) (b d n : Nat) : Prop := n ≤ nr ∧ Sm wx s (some b) (some d) mk n CH G ∧ Touch (fpS s mc mr mk CH) V wx ∧ (mc = some b ∨ V.heap.size ≤ b) ∧ (mr = some d ∨ V.heap.size ≤ d)
section
variable {w V wx : World} {s nr : Nat} {mc mr mk : Option Nat} {CH : List Chr} {G : List Int}
theorem rmap_nil : rmap [] = fun _ => none := by
  funext n
  unfold rmap
  rw [if_neg (fun e => e.2.2 rfl)]
theorem pl_made (h : Sm V s none mr mk nr CH G) : PlA V ((((V.setCell ⟨s, 0, none⟩ (.map (some V.heap.size))).setCell ⟨s, 1, none⟩ (.map (some (V.heap.size + 1)))).alloc (.map #[] 0)).alloc (.map #[] 0)) s none mr mk nr CH G V.heap.size (V.heap.size + 1) 0 := by
  have hs := block_lt h.hb
  obtain ⟨rfl, e⟩ : mr = none ∧ CH = [] := by
    rcases h.cm with ⟨_, h1, h2⟩ | ⟨b, d, h1, _⟩
    · exact ⟨h1, h2⟩
    · cases h1
  obtain ⟨V2, hV2⟩ : ∃ V2, V2 = (V.setCell ⟨s, 0, none⟩ (.map (some V.heap.size))).setCell ⟨s, 1, none⟩ (.map (some (V.heap.size + 1))) := ⟨_, rfl⟩
  have t2 : Touch [s] V V2 := by rw [hV2]; exact ((Touch.refl _ _).setCell (Or.inl (by simp)) _).setCell (Or.inl (by simp)) _
  have hb2 : V2.heap[s]? = some (.cells (sbc (some V.heap.size) (some (V.heap.size + 1)) mk) 197 (0, 0)) := by
    have := bset (i := 1) (bset (i := 0) h.hb (.map (some V.heap.size))) (.map (some (V.heap.size + 1)))
    rw [hV2]
    simpa [sbc] using this
  have hz : V2.heap.size = V.heap.size := by rw [hV2]; simp [World.setCell]
  rw [← hV2]
  clear hV2
  have t1 : Touch [] V2 ((V2.alloc (.map #[] 0)).alloc (.map #[] 0)) := ((Touch.refl _ _).alloc _).alloc _
  have m1 : MapK KI ((V2.alloc (.map #[] 0)).alloc (.map #[] 0)) V.heap.size 0 (fun _ => none) := by
    rw [← hz]
    exact (mapK_made KI V2).keep ((Touch.refl [] _).alloc _) (by simp)
  have m2 : MapK KN ((V2.alloc (.map #[] 0)).alloc (.map #[] 0)) (V.heap.size + 1) 0 (fun _ => none) := by
    have := mapK_made KN (V2.alloc (.map #[] 0))
    rwa [World.size_alloc, hz] at this
  refine ⟨Nat.zero_le _, ⟨t1.keep hb2 (by simp), Or.inr ⟨_, _, rfl, rfl, by omega, ?_, ?_⟩, ?_, fun b hb => ?_, ⟨fun _ _ => none, fun _ _ => none, ?_, ?_⟩, ?_⟩, (t2.mono (fun z hz => mem_fpS.2 (Or.inl (by simpa using hz)))).trans t1 (fun _ e => by cases e), Or.inr (Nat.le_refl _), Or.inr (Nat.le_succ _)⟩
  · rw [e]
    exact m1.congr (fun _ _ => rfl)
  · rw [e, rmap_nil]
    exact m2
  · rcases h.km with h1 | ⟨b, h1, h3⟩
    · exact Or.inl h1
    · refine Or.inr ⟨b, h1, (h3.keep t2 ?_).keep t1 (by simp)⟩
      obtain ⟨es, cl, h4⟩ := h3.kind
      simp only [List.mem_singleton]
      intro e2
      rw [e2, h.hb] at h4
      cases h4
  · have : b < V.heap.size := by
      rcases h.km with ⟨h1, _⟩ | ⟨b', h1, h3⟩
      · rw [h1] at hb; cases hb
      · rw [h1] at hb; cases hb; exact h3.lt
    exact ⟨fun e => by cases e; omega, fun e => by cases e; omega⟩
  · intro p hp
    rw [e] at hp
    cases hp
  · intro k _ n
    rw [e]
    trivial
  · rw [e]; simp
theorem pl_there {b : Nat} (h : Sm V s (some b) mr mk nr CH G) : ∃ d, mr = some d ∧ PlA V V s (some b) mr mk nr CH G b d nr := by
  rcases h.cm with ⟨h1, _⟩ | ⟨b', d, h1, rfl, _⟩
  · cases h1
  · cases h1
    exact ⟨d, rfl, Nat.le_refl _, h, Touch.refl _ _, Or.inl rfl, Or.inl rfl⟩
theorem pl_chair {b d n : Nat} {x : Se} (h : Sm wx s (some b) (some d) mk n CH G) (hx : Wf x) (hn : ∀ p ∈ CH, p.2.1 ≠ x.1) (hl : CH.length + 1 < maxLen) :
    ∃ o, (Instr.mapUpdate 194 (.map (some b)) (.int .i64 x.1) (.pointer (some ⟨wx.heap.size, 0, none⟩))).run Tryz.prog (wx.alloc (.cells (chc x (fun _ => none) (fun _ => none)) 238)).drew = .ok () (setBlock (wx.alloc (.cells (chc x (fun _ => none) (fun _ => none)) 238)).drew b o) ∧
      Md (setBlock (wx.alloc (.cells (chc x (fun _ => none) (fun _ => none)) 238)).drew b o) s b d mk n (CH ++ [(wx.heap.size, x)]) CH (CH ++ [(wx.heap.size, x)]) G 0 (Zp wx.heap.size) ∧ Touch [b] wx (setBlock (wx.alloc (.cells (chc x (fun _ => none) (fun _ => none)) 238)).drew b o) ∧ ((CH ++ [(wx.heap.size, x)]).map Prod.fst).Nodup := by
  obtain ⟨b', d', e1, e2, hbd, mb, md⟩ : ∃ b' d', some b = some b' ∧ some d = some d' ∧ b' ≠ d' ∧ MapK KI wx b' CH.length (cmap CH) ∧ MapK KN wx d' n (rmap CH) := by
    rcases h.cm with ⟨h1, _⟩ | h1
    · cases h1
    · exact h1
  cases e1
  cases e2
  have t1 : Touch [] wx (wx.alloc (.cells (chc x (fun _ => none) (fun _ => none)) 238)).drew := ((Touch.refl _ _).alloc _).drew
  have hnew : (wx.alloc (.cells (chc x (fun _ => none) (fun _ => none)) 238)).drew.heap[wx.heap.size]? = some (.cells (chc x (fun _ => none) (fun _ => none)) 238 (0, 0)) := heap_alloc_new wx _
  have h1 := h.keep0 t1
  have hlt := h.own
  generalize (wx.alloc (.cells (chc x (fun _ => none) (fun _ => none)) 238)).drew = W1 at *
  have mb1 := mb.keep t1 (by simp)
  have hf : cmap CH x.1 = none := by
    unfold cmap
    rw [List.find?_eq_none.2 (fun p hp => by simp [hn p hp])]
    rfl
  obtain ⟨o, o1, o2⟩ := mb1.set (t := 194) Tryz.underlying194 (by omega) (k := x.1) hx.1 (PT wx.heap.size)
  rw [hf] at o2
  have tb : Touch [b] W1 (setBlock W1 b o) := touch_setBlock (Touch.refl _ _) (Or.inl (by simp)) o
  have hsb : s ≠ b := fun e => by
    obtain ⟨es, cl, h3⟩ := mb.kind
    have := h.hb; rw [e, h3] at this; cases this
  have hnb : wx.heap.size ≠ b := fun e => by have := mb.lt; omega
  refine ⟨o, o1, ⟨tb.keep h1.hb (by simpa using hsb), hbd, ?_, ⟨n, by omega, ((md.keep t1 (by simp)).keep tb (by simp; exact fun e => hbd e.symm)).congr (fun z _ => (rmid0 _ _).symm)⟩, ?_, fun c hc => ?_, ?_⟩, (t1.mono (fun _ e => by cases e)).trans tb (fun z hz => Or.inl hz), ?_⟩
  · have e : (CH ++ [(wx.heap.size, x)]).length = CH.length + 1 := by simp
    rw [e]
    simp only [Option.isSome_none, Bool.false_eq_true, if_false] at o2
    exact o2.congr (fun c _ => cmap_snoc hn c)
  · rcases h1.km with h3 | ⟨c, h3, h4⟩
    · exact Or.inl h3
    · exact Or.inr ⟨c, h3, h4.keep tb (by simp; exact fun e => (h.kc c h3).1 (by rw [e]))⟩
  · have := h.kc c hc
    exact ⟨fun e => this.1 (by rw [e]), fun e => this.2 (by rw [e])⟩
  · obtain ⟨A, B, h3, h4⟩ := h1.lk
    refine ⟨fun k j => if j = wx.heap.size then none else A k j, fun k j => if j = wx.heap.size then none else B k j, fun p hp => ?_, fun k _ hk => absurd hk (Nat.not_lt_zero _), fun k hk _ => ⟨by simp [Zp], fun n => ?_⟩⟩
    · rcases List.mem_append.1 hp with e | e
      · have hp0 : p.1 < wx.heap.size := (hlt p.1 (mem_fpS.2 (Or.inr (Or.inr (Or.inr (Or.inr (List.mem_map.2 ⟨p, e, rfl⟩))))))).lt
        have hne : p.1 ≠ wx.heap.size := by omega
        simp only [hne, if_false]
        refine tb.keep (h3 p e) (fun e2 => ?_)
        simp only [List.mem_singleton] at e2
        obtain ⟨es, cl, h5⟩ := mb1.kind
        have := h3 p e
        rw [e2, h5] at this
        cases this
      · simp only [List.mem_singleton] at e
        subst e
        simp only [if_true]
        exact tb.keep hnew (by simpa using hnb)
    · refine (h4 k hk n).congr (fun z hz => ?_)
      have : z < wx.heap.size := (hlt z (mem_fpS.2 (Or.inr (Or.inr (Or.inr (Or.inr (row_mem hz))))))).lt
      have hne : z ≠ wx.heap.size := by omega
      simp [hne]
  · rw [List.map_append, List.nodup_append]
    refine ⟨h.nb, by simp, fun a ha c hc e => ?_⟩
    simp only [List.map_cons, List.map_nil, List.mem_singleton] at hc
    have : a < wx.heap.size := (hlt a (mem_fpS.2 (Or.inr (Or.inr (Or.inr (Or.inr ha)))))).lt
    omega
theorem pl_fin {wr : World} {b d n q : Nat} {x : Se} (h : Md wr s b d mk (n + 3) (CH ++ [(q, x)]) CH (CH ++ [(q, x)]) G 3 (Zp q)) (nd : ((CH ++ [(q, x)]).map Prod.fst).Nodup) : ∃ n', n' ≤ n + 3 ∧ Sm wr s (some b) (some d) mk n' (CH ++ [(q, x)]) G := by
  obtain ⟨n', h1, h2⟩ := h.rm
  obtain ⟨A, B, h3, h4, _⟩ := h.lk
  exact ⟨n', h1, h.hb, Or.inr ⟨b, d, rfl, rfl, h.bd, h.cm, h2.congr (fun z _ => rmid3 _ _)⟩, h.km, fun c hc => ⟨fun e => (h.kc c hc).1 (by cases e; rfl), fun e => (h.kc c hc).2 (by cases e; rfl)⟩, ⟨A, B, h3, fun k hk n => h4 k hk hk n⟩, nd⟩
end
end Go.Proofs.YtllchnancjgijaaGreat.Lv
/- The contract of place; no conditions but those that it states. -/
namespace Go.Proofs.YtllchnancjgijaaGreat.Lv
open Go.RowKit Go.Maps Go.ChangeMaps
set_option maxRecDepth 100000
set_option linter.unusedVariables false
set_option linter.unusedSimpArgs false
theorem eqMc (W : World) (m : Option Nat) : (binOp .eql 194 (.map m) (.map none)).run Tryz.prog W = .ok (.bool m.isNone) W := by cases m <;> kernel_rfl
section
variable {w : World} {s nr : Nat} {mc mr mk : Option Nat} {CH : List Chr} {G : List Int}
set_option maxHeartbeats 8000000 in
set_option maxRecDepth 100000 in
theorem place_ (h : Sm w s mc mr mk nr CH G) (x : Se) (hx : Wf x) (hn : ∀ p ∈ CH, p.2.1 ≠ x.1) (hnr : nr + 3 < maxLen) (hl : CH.length + 1 < maxLen) : Calls Tryz.prog 146 #[PT s, sv x] w fun e w' => e = .returned (.tuple #[]) ∧ PlE w w' s mc mr mk nr CH G x := by
  obtain ⟨V, hV⟩ : ∃ V, V = w.alloc (.cells #[.int .i64 x.1, .int .i64 x.2.1, .int .i64 x.2.2] 134) := ⟨_, rfl⟩
  have tv : Touch [] w V := by rw [hV]; exact (Touch.refl _ _).alloc _
  have hvb : V.heap[w.heap.size]? = some (.cells #[.int .i64 x.1, .int .i64 x.2.1, .int .i64 x.2.2] 134 (0, 0)) := by rw [hV]; exact heap_alloc_new w _
  have h1 := h.keep0 tv
  have hown : ∀ z, z ∈ fpS s mc mr mk CH → Own1 V z := h1.own
  have HBX : Hid (∀ w', Touch (fpS s mc mr mk CH) V w' → w'.heap[w.heap.size]? = some (.cells #[.int .i64 x.1, .int .i64 x.2.1, .int .i64 x.2.2] 134 (0, 0))) := hid (fun w' t => t.keep hvb (fun e => (hown _ e).ne hvb (by decide) (by decide) rfl))
  have HCH : Hid (∀ wx b d n, PlA V wx s mc mr mk nr CH G b d n → ∃ o, (Instr.mapUpdate 194 (.map (some b)) (.int .i64 x.1) (.pointer (some ⟨wx.heap.size, 0, none⟩))).run Tryz.prog (wx.alloc (.cells (chc x (fun _ => none) (fun _ => none)) 238)).drew = .ok () (setBlock (wx.alloc (.cells (chc x (fun _ => none) (fun _ => none)) 238)).drew b o) ∧
      Md (setBlock (wx.alloc (.cells (chc x (fun _ => none) (fun _ => none)) 238)).drew b o) s b d mk n (CH ++ [(wx.heap.size, x)]) CH (CH ++ [(wx.heap.size, x)]) G 0 (Zp wx.heap.size) ∧ Touch [b] wx (setBlock (wx.alloc (.cells (chc x (fun _ => none) (fun _ => none)) 238)).drew b o) ∧ ((CH ++ [(wx.heap.size, x)]).map Prod.fst).Nodup) := hid (fun wx b d n p => pl_chair p.2.1 hx hn hl)
  have HPA : Hid (∀ wx b d n, PlA V wx s mc mr mk nr CH G b d n → wx.cell? ⟨s, 0, none⟩ = some (.map (some b)) ∧ (∀ w', Touch [] wx w' → w'.cell? ⟨s, 0, none⟩ = some (.map (some b)))) := hid (fun wx b d n p => ⟨p.2.1.cell.1, fun w' t => (p.2.1.keep0 t).cell.1⟩)
  have HFIN : Hid (∀ wx b d n W, PlA V wx s mc mr mk nr CH G b d n → Md W s b d mk (n + 3) (CH ++ [(wx.heap.size, x)]) CH (CH ++ [(wx.heap.size, x)]) G 3 (Zp wx.heap.size) → ((CH ++ [(wx.heap.size, x)]).map Prod.fst).Nodup → Touch (fpM s b d mk (CH ++ [(wx.heap.size, x)])) wx W → PlE w W s mc mr mk nr CH G x) := hid (fun wx b d n W p m nd t => by
    obtain ⟨n', e1, e2⟩ := pl_fin m nd
    obtain ⟨p1, p2, p3, p4, p5⟩ := p
    have hz := tv.size
    have hz2 := p3.size
    have tw : Touch (fpS s mc mr mk CH) w wx := (tv.mono (fun _ e => by cases e)).trans' p3
    refine ⟨b, d, wx.heap.size, n', by omega, e2, tw.trans t (fun z hz => ?_), by omega, p4.imp id (fun e => by omega), p5.imp id (fun e => by omega)⟩
    rcases mem_fpS.1 hz with e | e | e | e | e
    · exact Or.inl (mem_fpS.2 (Or.inl e))
    · rcases p4 with e2 | e2
      · exact Or.inl (mem_fpS.2 (Or.inr (Or.inl (by rw [e2]; exact e))))
      · cases e; exact Or.inr (by omega)
    · rcases p5 with e2 | e2
      · exact Or.inl (mem_fpS.2 (Or.inr (Or.inr (Or.inl (by rw [e2]; exact e)))))
      · cases e; exact Or.inr (by omega)
    · exact Or.inl (mem_fpS.2 (Or.inr (Or.inr (Or.inr (Or.inl e)))))
    · rw [List.map_append] at e
      rcases List.mem_append.1 e with e | e
      · exact Or.inl (mem_fpS.2 (Or.inr (Or.inr (Or.inr (Or.inr e)))))
      · simp only [List.map_cons, List.map_nil, List.mem_singleton] at e
        exact Or.inr (by omega))
  have HNX := hid hx
  have HNR := hid hnr
  have HVB := hid hvb
  obtain ⟨c0, c1, _, ff⟩ := h1.cell
  have hsl := block_lt h1.hb
  have b0 := cell_at (j := 0) hvb rfl
  have b1 := cell_at (j := 1) hvb rfl
  have b2 := cell_at (j := 2) hvb rfl
  have HM : Hid ((mc = none ∧ PlA V ((((V.setCell ⟨s, 0, none⟩ (.map (some V.heap.size))).setCell ⟨s, 1, none⟩ (.map (some (V.heap.size + 1)))).alloc (.map #[] 0)).alloc (.map #[] 0)) s mc mr mk nr CH G V.heap.size (V.heap.size + 1) 0) ∨ ∃ b d, mc = some b ∧ PlA V V s mc mr mk nr CH G b d nr) := hid (by
    cases mc with
    | none => exact Or.inl ⟨rfl, pl_made h1⟩
    | some b =>
      obtain ⟨d, _, p⟩ := pl_there h1
      exact Or.inr ⟨b, d, rfl, p⟩)
  have qm := eqMc
  have hmm := @run_makeMap Tryz.prog
  clear h h1 hx hn hnr hl tv hown hvb
  unfold PT sv
  go_enter Tryz.func146, Tryz.ntmps146
  go_upto_region 1 with fail
  rw [← hV]
  clear hV
  go_upto_if 12 with fail
  go_cut [] from 8 to 20 (fun wx => Hid (∃ b d n, PlA V wx s mc mr mk nr CH G b d n))
  case first =>
    rcases HM.out with ⟨e, p⟩ | ⟨b, d, e, p⟩
    · have HP := hid p
      subst e
      clear p HM
      go_wp2
      go_meet
      case rel => exact ⟨_, _, _, HP.out⟩
    · have HP := hid p
      subst e
      clear p HM
      go_wp2
      go_meet
      case rel => exact ⟨_, _, _, HP.out⟩
  case rest =>
    clear HM c0 c1 ff hsl b0 b1 b2 qm hmm
    obtain ⟨b, d, n, hp⟩ := hcut.out
    clear hcut
    obtain ⟨o, U1, M0, T0, ND⟩ := HCH.out wc b d n hp
    obtain ⟨c0, C0⟩ := HPA.out wc b d n hp
    have BX := HBX.out wc hp.2.2.1
    have HSZ : Hid (w.heap.size < wc.heap.size) := hid (block_lt BX)
    have b0 := cell_at (j := 0) BX rfl
    have b1 := cell_at (j := 1) BX rfl
    have b2 := cell_at (j := 2) BX rfl
    have HN3 : Hid (n + 3 < maxLen) := hid (by have := HNR.out; have := hp.1; omega)
    have HFN := hid (fun W => HFIN.out wc b d n W hp)
    clear HCH HPA HBX HFIN HNR HVB
    obtain ⟨q, hq⟩ : ∃ q, q = wc.heap.size := ⟨_, rfl⟩
    obtain ⟨W1, hW1⟩ : ∃ W1, W1 = wc.alloc (.cells (chc x (fun _ => none) (fun _ => none)) 238) := ⟨_, rfl⟩
    have t1 : Touch [] wc W1 := by rw [hW1]; exact (Touch.refl _ _).alloc _
    have S0 : ∀ w', Touch [] W1 w' → w'.cell? ⟨s, 0, none⟩ = some (.map (some b)) := fun w' t => C0 _ (t1.trans' t)
    have X0 : ∀ w', Touch [] W1 w' → w'.cell? ⟨w.heap.size, 0, none⟩ = some (.int .i64 x.1) := fun w' t => cell_at ((t1.trans' t).keep BX (by simp)) rfl
    rw [← hW1, ← hq] at U1 M0
    rw [← hW1] at T0
    rw [← hq] at ND HFN
    obtain ⟨W2, hW2⟩ : ∃ W2, W2 = setBlock W1.drew b o := ⟨_, rfl⟩
    rw [← hW2] at U1 M0 T0
    have BX2 : W2.heap[w.heap.size]? = some (.cells #[.int .i64 x.1, .int .i64 x.2.1, .int .i64 x.2.2] 134 (0, 0)) := T0.keep BX (fun e => by
      simp only [List.mem_singleton] at e
      obtain ⟨es2, cl2, h7⟩ : ∃ es cl, wc.heap[b]? = some (.map es cl) := by
        rcases hp.2.1.cm with ⟨h1, _⟩ | ⟨b', d', h1, _, _, h3, _⟩
        · cases h1
        · cases h1; exact h3.kind
      rw [← e, BX] at h7
      cases h7)
    have HM0 := hid M0
    have HT0 : Hid (Touch (fpM s b d mk (CH ++ [(q, x)])) wc W2) := hid (T0.mono (fun z hz => mem_fpS.2 (Or.inr (Or.inl (by simp at hz; rw [hz])))))
    have HND := hid ND
    have k0 : Touch [] W1 W1.drew := (Touch.refl _ _).drew
    clear C0 BX M0 T0 ND hp t1
    unfold chc pv at hW1
    simp only [Option.map_none] at hW1
    go_upto_region 4 with fail
    rw [← hW1, ← hq]
    clear hW1 b0 b1 b2 hq
    refine wp_region_L (S := fun w' => Touch [] W1 w') (st := 7) (by kernel_rfl) ?_
    refine wpL_take (i := 0) (v := (.pointer (some ⟨s, 0, none⟩))) (some 24) rfl rfl (by kernel_rfl) (by kernel_rfl) (by kernel_rfl) (by kernel_rfl) (by kernel_rfl) (by decide) (fun _ _ _ h => h) (Or.inl ⟨by rfl, fun w' hS => (by go_simp)⟩) k0 ?_
    try simp only [Go.Act.put, List.setIfInBounds_toArray, List.set_cons_zero, List.set_cons_succ]
    refine wpL_take (i := 1) (v := (.pointer (some ⟨s, 0, none⟩))) (some 25) rfl rfl (by kernel_rfl) (by kernel_rfl) (by kernel_rfl) (by kernel_rfl) (by kernel_rfl) (by decide) (fun _ _ _ h => h) (Or.inl ⟨by rfl, fun w' hS => (by go_simp)⟩) k0 ?_
    try simp only [Go.Act.put, List.setIfInBounds_toArray, List.set_cons_zero, List.set_cons_succ]
    refine wpL_take (i := 2) (v := (.pointer (some ⟨s, 0, none⟩))) (some 26) rfl rfl (by kernel_rfl) (by kernel_rfl) (by kernel_rfl) (by kernel_rfl) (by kernel_rfl) (by decide) (fun _ _ _ h => h) (Or.inl ⟨by rfl, fun w' hS => (by go_simp)⟩) k0 ?_
    try simp only [Go.Act.put, List.setIfInBounds_toArray, List.set_cons_zero, List.set_cons_succ]
    refine wpL_take (i := 3) (v := (.map (some b))) (some 27) rfl rfl (by kernel_rfl) (by kernel_rfl) (by kernel_rfl) (by kernel_rfl) (by kernel_rfl) (by decide) (fun _ _ _ h => h) (Or.inl ⟨by rfl, fun w' hS => (by have z0 := S0 _ hS; go_simp)⟩) k0 ?_
    try simp only [Go.Act.put, List.setIfInBounds_toArray, List.set_cons_zero, List.set_cons_succ]
    refine wpL_take (i := 4) (v := (.pointer (some ⟨w.heap.size, 0, none⟩))) (some 28) rfl rfl (by kernel_rfl) (by kernel_rfl) (by kernel_rfl) (by kernel_rfl) (by kernel_rfl) (by decide) (fun _ _ _ h => h) (Or.inl ⟨by rfl, fun w' hS => (by go_simp)⟩) k0 ?_
    try simp only [Go.Act.put, List.setIfInBounds_toArray, List.set_cons_zero, List.set_cons_succ]
    refine wpL_take (i := 5) (v := (.int .i64 x.1)) (some 29) rfl rfl (by kernel_rfl) (by kernel_rfl) (by kernel_rfl) (by kernel_rfl) (by kernel_rfl) (by decide) (fun _ _ _ h => h) (Or.inl ⟨by rfl, fun w' hS => (by have z0 := X0 _ hS; go_simp)⟩) k0 ?_
    try simp only [Go.Act.put, List.setIfInBounds_toArray, List.set_cons_zero, List.set_cons_succ]
    refine wpL_take (i := 6) (v := (.pointer (some ⟨q, 0, none⟩))) (some 30) rfl rfl (by kernel_rfl) (by kernel_rfl) (by kernel_rfl) (by kernel_rfl) (by kernel_rfl) (by decide) (fun _ _ _ h => h) (Or.inl ⟨by rfl, fun w' hS => (by go_simp)⟩) k0 ?_
    try simp only [Go.Act.put, List.setIfInBounds_toArray, List.set_cons_zero, List.set_cons_succ]
    refine wpL_ready (rs := [7]) (by kernel_rfl) (by simp) (AllL.cons (o := { dst := none, op := Op.mapUpdate 194 (Operand.tmp 27) (Operand.tmp 29) (Operand.tmp 30), type := 0, pos := _, after := #[{ on := 3, ground := Ground.data }, { on := 5, ground := Ground.data }, { on := 6, ground := Ground.data }, { on := 0, ground := Ground.phase }, { on := 1, ground := Ground.phase }, { on := 2, ground := Ground.phase }, { on := 3, ground := Ground.phase }, { on := 4, ground := Ground.phase }, { on := 5, ground := Ground.phase }, { on := 6, ground := Ground.phase }], guard := none }) rfl (fun K' hK => ?_) AllL.nil)
    rw [if_pos (by rfl)]
    go_simp
    rw [← hW2]
    clear hW2 U1 k0
    refine hK.out _ _ (fun h => absurd h (by decide)) ?_
    clear hK
    try simp only [Go.Act.put, List.setIfInBounds_toArray, List.set_cons_zero, List.set_cons_succ]
    refine wpL_done (by kernel_rfl) ?_ _
    have HNM := hid (names_ W2 x)
    have HC2 : Hid (∀ w', Touch [] W2 w' → w'.cell? ⟨w.heap.size, 0, none⟩ = some (.int .i64 x.1) ∧ w'.cell? ⟨w.heap.size, 1, none⟩ = some (.int .i64 x.2.1) ∧ w'.cell? ⟨w.heap.size, 2, none⟩ = some (.int .i64 x.2.2)) := hid (fun w' t => ⟨cell_at (t.keep BX2 (by simp)) rfl, cell_at (t.keep BX2 (by simp)) rfl, cell_at (t.keep BX2 (by simp)) rfl⟩)
    obtain ⟨b0, b1, b2⟩ := HC2.out W2 (Touch.refl _ _)
    clear BX2 HC2 S0 X0
    unfold sv nm3 at HNM
    go_wp2_with (go_at_call 158; refine HNM.out.mono ?_; rintro e w3 ⟨rfl, t3⟩; have T3 := hid t3; clear t3)
    have HM3 := hid (HM0.out.keep0 T3.out)
    have HT3 : Hid (Touch (fpM s b d mk (CH ++ [(q, x)])) wc w3) := hid (HT0.out.trans T3.out (fun _ e => by cases e))
    clear b0 b1 b2 HM0 HT0 T3 HNM
    go_loopw [33] (fun s33 wr => ∃ i : Nat, s33 = .int .i64 (i : Int) ∧ Hid (i ≤ 3 ∧ Md wr s b d mk (n + i) (CH ++ [(q, x)]) CH (CH ++ [(q, x)]) G i (Zp q) ∧ Touch (fpM s b d mk (CH ++ [(q, x)])) wc wr)) (fun i _ => 3 - (intOf i).toNat)
    case atStart => exact ⟨0, rfl, Nat.zero_le _, HM3.out, HT3.out⟩
    case round =>
      clear HM3 HT3
      obtain ⟨i, rfl, HR⟩ := hrel
      by_cases hi : i < 3
      · have zi : (i : Int) < 3 := by omega
        have qx := fun w => ixN w x.2.1 x.2.2 x rfl rfl hi
        obtain ⟨m, hm⟩ : ∃ m, m = num i x := ⟨_, rfl⟩
        have HMW : Hid (W64 m) := hid (by rw [hm]; exact num_wf HNX.out i)
        rw [← hm] at qx
        obtain ⟨V1, hV1⟩ : ∃ V1, V1 = wr.alloc (.cells #[.int .i64 (i : Int), .int .i64 m] 200) := ⟨_, rfl⟩
        have tv1 : Touch [] wr V1 := by rw [hV1]; exact (Touch.refl _ _).alloc _
        have hnb : V1.heap[wr.heap.size]? = some (.cells #[.int .i64 (i : Int), .int .i64 m] 200 (0, 0)) := by rw [hV1]; exact heap_alloc_new wr _
        have M1 : ∀ w', Touch [] V1 w' → w'.cell? ⟨s, 1, none⟩ = some (.map (some d)) := fun w' t => (HR.out.2.1.keep0 (tv1.trans' t)).cell
        have B0 : ∀ w', Touch [] V1 w' → w'.cell? ⟨wr.heap.size, 0, none⟩ = some (.int .i64 (i : Int)) := fun w' t => cell_at (t.keep hnb (by simp)) rfl
        have B1 : ∀ w', Touch [] V1 w' → w'.cell? ⟨wr.heap.size, 1, none⟩ = some (.int .i64 m) := fun w' t => cell_at (t.keep hnb (by simp)) rfl
        have L0 : ∀ w', Touch [] V1 w' → (Instr.lookup 195 (.map (some d)) (.agg #[.int .i64 (i : Int), .int .i64 m]) false).run Tryz.prog w' = .ok (.agg #[pv (rowOf i m CH).head?, pv (lastO none (rowOf i m CH))]) w' := fun w' t => (HR.out.2.1.keep0 (tv1.trans' t)).lookR hi HMW.out
        obtain ⟨f, hf⟩ : ∃ f, pv (rowOf i m CH).head? = .pointer f := ⟨_, rfl⟩
        obtain ⟨l, hl⟩ : ∃ l, pv (lastO none (rowOf i m CH)) = .pointer l := ⟨_, rfl⟩
        rw [hf, hl] at L0
        have HAD : Hid (∀ V2, Touch [] V1 V2 → V2.heap[V1.heap.size]? = some (.cells #[.pointer f, .pointer l] 267 (0, 0)) → Calls Tryz.prog 183 #[PT V1.heap.size, .int .i64 (i : Int), PT q] V2 fun e W => e = .returned (.tuple #[]) ∧ ∃ f2 o, Rb W s d wr.heap.size V1.heap.size i m f2 (some q) ∧ (Instr.mapUpdate 195 (.map (some d)) (.agg #[.int .i64 (i : Int), .int .i64 m]) (.agg #[pv f2, pv (some q)])).run Tryz.prog W.drew = .ok () (setBlock W.drew d o) ∧ Md (setBlock W.drew d o) s b d mk (n + (i + 1)) (CH ++ [(q, x)]) CH (CH ++ [(q, x)]) G (i + 1) (Zp q) ∧ Touch (fpM s b d mk (CH ++ [(q, x)])) wc (setBlock W.drew d o)) := hid (fun V2 t hr => by
          have t2 := tv1.trans' t
          have hr' : V2.heap[V1.heap.size]? = some (.cells #[pv (rowOf i m CH).head?, pv (lastO none (rowOf i m CH))] 267 (0, 0)) := by rw [hf, hl]; exact hr
          have hM2 := HR.out.2.1.keep0 t2
          obtain ⟨y1, y2⟩ := place_ready hM2 HND.out m
          refine (add_ V2 V1.heap.size q i hi _ _ hr' y1 y2).mono ?_
          rintro e W ⟨rfl, hE⟩
          subst hm
          obtain ⟨f2, o, z1, z2, z3, z4⟩ := place_step HR.out.2.1 hi HNX.out HND.out HN3.out t2 (t.keep hnb (by simp)) tv1.size hr' hE
          exact ⟨rfl, f2, o, z1, z2, z3, HR.out.2.2.trans z4 (fun z hz => Or.inl hz)⟩)
        have HI := hid (And.intro hi HR.out.1)
        have kv0 : Touch [] V1 V1.drew := (Touch.refl _ _).drew
        clear hf hl hnb tv1 HMW HR hi hm
        unfold PT at HAD
        go_upto_region 8 with fail
        rw [← hV1]
        clear hV1 qx
        refine wp_region_L (S := fun w' => Touch [] V1 w') (st := 7) (by kernel_rfl) ?_
        refine wpL_take (i := 0) (v := (.pointer (some ⟨s, 0, none⟩))) (some 36) rfl rfl (by kernel_rfl) (by kernel_rfl) (by kernel_rfl) (by kernel_rfl) (by kernel_rfl) (by decide) (fun _ _ _ h => h) (Or.inl ⟨by rfl, fun w' hS => (by go_simp)⟩) kv0 ?_
        try simp only [Go.Act.put, List.setIfInBounds_toArray, List.set_cons_zero, List.set_cons_succ]
        refine wpL_take (i := 1) (v := (.pointer (some ⟨s, 0, none⟩))) (some 37) rfl rfl (by kernel_rfl) (by kernel_rfl) (by kernel_rfl) (by kernel_rfl) (by kernel_rfl) (by decide) (fun _ _ _ h => h) (Or.inl ⟨by rfl, fun w' hS => (by go_simp)⟩) kv0 ?_
        try simp only [Go.Act.put, List.setIfInBounds_toArray, List.set_cons_zero, List.set_cons_succ]
        refine wpL_take (i := 2) (v := (.pointer (some ⟨s, 1, none⟩))) (some 38) rfl rfl (by kernel_rfl) (by kernel_rfl) (by kernel_rfl) (by kernel_rfl) (by kernel_rfl) (by decide) (fun _ _ _ h => h) (Or.inl ⟨by rfl, fun w' hS => (by go_simp)⟩) kv0 ?_
        try simp only [Go.Act.put, List.setIfInBounds_toArray, List.set_cons_zero, List.set_cons_succ]
        refine wpL_take (i := 3) (v := (.map (some d))) (some 39) rfl rfl (by kernel_rfl) (by kernel_rfl) (by kernel_rfl) (by kernel_rfl) (by kernel_rfl) (by decide) (fun _ _ _ h => h) (Or.inl ⟨by rfl, fun w' hS => (by have z0 := M1 _ hS; go_simp)⟩) kv0 ?_
        try simp only [Go.Act.put, List.setIfInBounds_toArray, List.set_cons_zero, List.set_cons_succ]
        refine wpL_take (i := 4) (v := (.agg #[.int .i64 (i : Int), .int .i64 m])) (some 40) rfl rfl (by kernel_rfl) (by kernel_rfl) (by kernel_rfl) (by kernel_rfl) (by kernel_rfl) (by decide) (fun _ _ _ h => h) (Or.inl ⟨by rfl, fun w' hS => (by have z0 := B0 _ hS; have z1 := B1 _ hS; go_simp)⟩) kv0 ?_
        try simp only [Go.Act.put, List.setIfInBounds_toArray, List.set_cons_zero, List.set_cons_succ]
        refine wpL_take (i := 5) (v := (.agg #[.pointer f, .pointer l])) (some 41) rfl rfl (by kernel_rfl) (by kernel_rfl) (by kernel_rfl) (by kernel_rfl) (by kernel_rfl) (by decide) (fun _ _ _ h => h) (Or.inl ⟨by rfl, fun w' hS => (by have z0 := L0 _ hS; go_simp)⟩) kv0 ?_
        try simp only [Go.Act.put, List.setIfInBounds_toArray, List.set_cons_zero, List.set_cons_succ]
        refine wpL_ready (rs := [6]) (by kernel_rfl) (by simp) (AllL.cons (o := { dst := some 7, op := Op.alloc 267, type := 0, pos := _, after := #[], guard := none }) rfl (fun K' hK => ?_) AllL.nil)
        rw [if_pos (by rfl)]
        go_simp
        refine hK.out _ _ (fun _ => ((Touch.refl _ _).alloc _).drew) ?_
        clear hK
        try simp only [Go.Act.put, List.setIfInBounds_toArray, List.set_cons_zero, List.set_cons_succ]
        refine wpL_ready (rs := [7]) (by kernel_rfl) (by simp) (AllL.cons (o := { dst := none, op := Op.store 267 (Operand.tmp 7) (Operand.tmp 41), type := 0, pos := _, after := #[{ on := 6, ground := Ground.data }, { on := 5, ground := Ground.data }, { on := 0, ground := Ground.phase }, { on := 1, ground := Ground.phase }, { on := 2, ground := Ground.phase }, { on := 3, ground := Ground.phase }, { on := 4, ground := Ground.phase }, { on := 5, ground := Ground.phase }, { on := 6, ground := Ground.phase }], guard := none }) rfl (fun K' hK => ?_) AllL.nil)
        rw [if_pos (by rfl)]
        go_simp
        refine hK.out _ _ (fun h => absurd h (by decide)) ?_
        clear hK
        try simp only [Go.Act.put, List.setIfInBounds_toArray, List.set_cons_zero, List.set_cons_succ]
        refine wpL_done (by kernel_rfl) ?_ _
        have k5 : Touch [] V1 (V1.alloc (.cells #[.pointer f, .pointer l] 267)).drew := ((Touch.refl _ _).alloc _).drew
        have HK := hid (HAD.out _ k5 (heap_alloc_new V1 _))
        have b0 := B0 _ k5
        clear M1 B0 B1 L0 kv0 k5 HAD
        generalize (V1.alloc (.cells #[.pointer f, .pointer l] 267)).drew = V2 at *
        go_upto_region 10 with (go_at_call 183; refine HK.out.mono ?_; rintro e W ⟨rfl, f2, o3, z1, z2, z3, z4⟩; have HZ := hid (And.intro z1 (And.intro z2 (And.intro z3 z4))); clear z1 z2 z3 z4 b0)
        obtain ⟨z1, z2, z3, z4⟩ := HZ.out
        obtain ⟨s1, n0, n1, r0, r1⟩ := z1
        obtain ⟨f3, hf3⟩ : ∃ f3, pv f2 = .pointer f3 := ⟨_, rfl⟩
        rw [hf3] at r0 z2
        rw [pv_some] at r1 z2
        unfold PT at r1 z2
        have HM4 := hid z3
        have HT4 := hid z4
        obtain ⟨W5, hW5⟩ : ∃ W5, W5 = setBlock W.drew d o3 := ⟨_, rfl⟩
        rw [← hW5] at z2 HM4 HT4
        have k6 : Touch [] W W.drew := (Touch.refl _ _).drew
        clear HK HZ z3 z4 hf3
        refine wp_region_L (S := fun w' => Touch [] W w') (st := 6) (by kernel_rfl) ?_
        refine wpL_take (i := 0) (v := (.pointer (some ⟨s, 0, none⟩))) (some 46) rfl rfl (by kernel_rfl) (by kernel_rfl) (by kernel_rfl) (by kernel_rfl) (by kernel_rfl) (by decide) (fun _ _ _ h => h) (Or.inl ⟨by rfl, fun w' hS => (by go_simp)⟩) k6 ?_
        try simp only [Go.Act.put, List.setIfInBounds_toArray, List.set_cons_zero, List.set_cons_succ]
        refine wpL_take (i := 1) (v := (.pointer (some ⟨s, 0, none⟩))) (some 47) rfl rfl (by kernel_rfl) (by kernel_rfl) (by kernel_rfl) (by kernel_rfl) (by kernel_rfl) (by decide) (fun _ _ _ h => h) (Or.inl ⟨by rfl, fun w' hS => (by go_simp)⟩) k6 ?_
        try simp only [Go.Act.put, List.setIfInBounds_toArray, List.set_cons_zero, List.set_cons_succ]
        refine wpL_take (i := 2) (v := (.pointer (some ⟨s, 1, none⟩))) (some 48) rfl rfl (by kernel_rfl) (by kernel_rfl) (by kernel_rfl) (by kernel_rfl) (by kernel_rfl) (by decide) (fun _ _ _ h => h) (Or.inl ⟨by rfl, fun w' hS => (by go_simp)⟩) k6 ?_
        try simp only [Go.Act.put, List.setIfInBounds_toArray, List.set_cons_zero, List.set_cons_succ]
        refine wpL_take (i := 3) (v := (.map (some d))) (some 49) rfl rfl (by kernel_rfl) (by kernel_rfl) (by kernel_rfl) (by kernel_rfl) (by kernel_rfl) (by decide) (fun _ _ _ h => h) (Or.inl ⟨by rfl, fun w' hS => (by have z0 := s1 _ hS; go_simp)⟩) k6 ?_
        try simp only [Go.Act.put, List.setIfInBounds_toArray, List.set_cons_zero, List.set_cons_succ]
        refine wpL_take (i := 4) (v := (.agg #[.int .i64 (i : Int), .int .i64 m])) (some 50) rfl rfl (by kernel_rfl) (by kernel_rfl) (by kernel_rfl) (by kernel_rfl) (by kernel_rfl) (by decide) (fun _ _ _ h => h) (Or.inl ⟨by rfl, fun w' hS => (by have z0 := n0 _ hS; have z1 := n1 _ hS; go_simp)⟩) k6 ?_
        try simp only [Go.Act.put, List.setIfInBounds_toArray, List.set_cons_zero, List.set_cons_succ]
        refine wpL_take (i := 5) (v := (.agg #[.pointer f3, .pointer (some ⟨q, 0, none⟩)])) (some 51) rfl rfl (by kernel_rfl) (by kernel_rfl) (by kernel_rfl) (by kernel_rfl) (by kernel_rfl) (by decide) (fun _ _ _ h => h) (Or.inl ⟨by rfl, fun w' hS => (by have z0 := r0 _ hS; have z1 := r1 _ hS; go_simp)⟩) k6 ?_
        try simp only [Go.Act.put, List.setIfInBounds_toArray, List.set_cons_zero, List.set_cons_succ]
        refine wpL_ready (rs := [6]) (by kernel_rfl) (by simp) (AllL.cons (o := { dst := none, op := Op.mapUpdate 195 (Operand.tmp 49) (Operand.tmp 50) (Operand.tmp 51), type := 0, pos := _, after := #[{ on := 3, ground := Ground.data }, { on := 4, ground := Ground.data }, { on := 5, ground := Ground.data }, { on := 0, ground := Ground.phase }, { on := 1, ground := Ground.phase }, { on := 2, ground := Ground.phase }, { on := 3, ground := Ground.phase }, { on := 4, ground := Ground.phase }, { on := 5, ground := Ground.phase }], guard := none }) rfl (fun K' hK => ?_) AllL.nil)
        rw [if_pos (by rfl)]
        go_simp
        rw [← hW5]
        clear hW5 z2 k6 s1 n0 n1 r0 r1
        refine hK.out _ _ (fun h => absurd h (by decide)) ?_
        clear hK
        try simp only [Go.Act.put, List.setIfInBounds_toArray, List.set_cons_zero, List.set_cons_succ]
        refine wpL_done (by kernel_rfl) ?_ _
        go_wp2
        go_roundw
        case rel => exact ⟨i + 1, by go_num, by have := HI.out.1; omega, HM4.out, HT4.out⟩
        case measure => simp [intOf]; have := HI.out.1; omega
      · have HZ : Hid (PlE w wr s mc mr mk nr CH G x) := hid (by
          obtain ⟨h1, h2, h3⟩ := HR.out
          obtain rfl : i = 3 := by omega
          exact HFN.out wr h2 HND.out h3)
        have zi : 3 ≤ (i : Int) := by omega
        clear HR
        go_wp2
        go_end0
        exact ⟨rfl, HZ.out⟩
end
end Go.Proofs.YtllchnancjgijaaGreat.Lv
/- The contract of takeAway; no conditions but those that it states. -/
namespace Go.Proofs.YtllchnancjgijaaGreat.Lv
open Go.RowKit Go.Maps Go.ChangeMaps
set_option maxRecDepth 100000
set_option linter.unusedVariables false
set_option linter.unusedSimpArgs false
theorem zeroPC (w : World) : (zeroValue 235).run Tryz.prog w = .ok (.pointer none) w := by kernel_rfl
section
variable {w : World} {s nr : Nat} {mc mr mk : Option Nat} {CH : List Chr} {G : List Int}
end
end Go.Proofs.YtllchnancjgijaaGreat.Lv
/- The contracts of the small methods of seats: New, Where, Cancelled, Len, All, Of, By; no conditions but those that each states. -/
namespace Go.Proofs.YtllchnancjgijaaGreat.Lv
open Go.RowKit Go.Maps Go.ChangeMaps
set_option maxRecDepth 100000
set_option linter.unusedVariables false
set_option linter.unusedSimpArgs false
def zs : Se := (0, 0, 0)
theorem zeroE (w : World) : (zeroValue 120).run Tryz.prog w = .ok (.agg #[]) w := by kernel_rfl
theorem where_ch (CH : List Chr) (c : Int) : (∃ q x, (q, x) ∈ CH ∧ cmap CH c = some (PT q) ∧ whr (CH.map Prod.snd) c = some x ∧ x.1 = c) ∨ (cmap CH c = none ∧ whr (CH.map Prod.snd) c = none) := by
  have e : whr (CH.map Prod.snd) c = (CH.find? (fun p => decide (p.2.1 = c))).map Prod.snd := by
    unfold whr
    rw [List.find?_map]
    rfl
  unfold cmap
  rw [e]
  cases hp : CH.find? (fun p => decide (p.2.1 = c)) with
  | none => exact Or.inr ⟨rfl, rfl⟩
  | some p => exact Or.inl ⟨p.1, p.2, List.mem_of_find?_eq_some hp, rfl, rfl, by simpa using List.find?_some hp⟩
theorem new_ (w : World) : Calls Tryz.prog 82 #[] w fun e w' => e = .returned (PT w.heap.size) ∧ Sq w' w.heap.size [w.heap.size] [] [] 0 ∧ Touch [] w w' := by
  have HX : Hid (Sq (w.alloc (.cells (sbc none none none) 197)) w.heap.size [w.heap.size] [] [] 0) := hid ⟨none, none, none, 0, [], rfl, rfl, ⟨heap_alloc_new w _, Or.inl ⟨rfl, rfl, rfl⟩, Or.inl ⟨rfl, rfl⟩, fun b hb => (by cases hb), ⟨fun _ _ => none, fun _ _ => none, fun p hp => (by cases hp), fun k _ n => trivial⟩, List.nodup_nil⟩, ⟨List.nodup_nil, fun x hx => (by cases hx), List.nodup_nil, fun t ht => (by cases ht), Nat.le_refl _, Nat.le_refl _⟩, Nat.zero_le _⟩
  unfold sbc at HX
  unfold PT
  go_enter Tryz.func82, Tryz.ntmps82
  go_wp2
  go_ret
  exact ⟨rfl, HX.out, (Touch.refl _ _).alloc _⟩
section
variable {w : World} {s nr : Nat} {mc mr mk : Option Nat} {CH : List Chr} {G : List Int}
theorem Sm.lookC (h : Sm w s mc mr mk nr CH G) {c : Int} (hc : W64 c) : (Instr.lookup 194 (.map mc) (.int .i64 c) false).run Tryz.prog w = .ok ((cmap CH c).getD (.pointer none)) w := by
  rcases h.cm with ⟨h1, _, h2⟩ | ⟨b, d, h1, h2, _, h3, _⟩
  · rw [h1, h2]
    exact look_nil KI Tryz.underlying194 (zeroPC w) hc
  · rw [h1]
    exact h3.look (t := 194) Tryz.underlying194 (zeroPC w) hc
theorem Sm.lookK (h : Sm w s mc mr mk nr CH G) {t : Int} (ht : W64 t) : (Instr.lookup 98 (.map mk) (.int .i64 t) true).run Tryz.prog w = .ok (.tuple #[.agg #[], .bool (decide (t ∈ G))]) w := by
  rcases h.km with ⟨h1, h2⟩ | ⟨b, h1, h3⟩
  · rw [h1, h2]
    have := Maps.look_nil true KI.keyed Tryz.underlying98 (zeroE w) (KI.key ht)
    rw [show decide (t ∈ ([] : List Int)) = false by simp]
    exact this
  · rw [h1]
    have := h3.lookOk (t := 98) Tryz.underlying98 (zeroE w) (k := t) ht
    unfold kmap at this
    by_cases e : t ∈ G
    · rw [if_pos e] at this
      rw [decide_eq_true e]
      exact this
    · rw [if_neg e] at this
      rw [decide_eq_false e]
      exact this
theorem canc_ (h : Sm w s mc mr mk nr CH G) {t : Int} (ht : W64 t) : Calls Tryz.prog 86 #[PT s, .int .i64 t] w fun e w' => e = .returned (.bool (decide (t ∈ G))) ∧ Touch [] w w' := by
  have hl := h.lookK ht
  have c2 := h.cell.2.2.1
  clear h
  generalize decide (t ∈ G) = B at *
  unfold PT
  go_enter Tryz.func86, Tryz.ntmps86
  go_wp2
  go_ret
  exact ⟨rfl, (Touch.refl _ _).alloc _⟩
theorem where_ (h : Sm w s mc mr mk nr CH G) {c : Int} (hc : W64 c) : Calls Tryz.prog 87 #[PT s, .int .i64 c] w fun e w' => e = .returned (.tuple #[sv ((whr (CH.map Prod.snd) c).getD zs), .bool (whr (CH.map Prod.snd) c).isSome]) ∧ Touch [] w w' := by
  obtain ⟨V, hV⟩ : ∃ V, V = w.alloc (.cells #[.int .i64 0, .int .i64 0, .int .i64 0] 134) := ⟨_, rfl⟩
  have tv : Touch [] w V := by rw [hV]; exact (Touch.refl _ _).alloc _
  have hvb : V.heap[w.heap.size]? = some (.cells #[.int .i64 0, .int .i64 0, .int .i64 0] 134 (0, 0)) := by rw [hV]; exact heap_alloc_new w _
  have h1 := h.keep0 tv
  have c0 := h1.cell.1
  have hl := h1.lookC hc
  have v0 := cell_at (j := 0) hvb rfl
  have v1 := cell_at (j := 1) hvb rfl
  have v2 := cell_at (j := 2) hvb rfl
  have vf := froz_at hvb
  have HT := hid tv
  rcases where_ch CH c with ⟨q, x, hq, e1, e2, e3⟩ | ⟨e1, e2⟩
  · obtain ⟨A, B, hc', _⟩ := h1.lk
    have hb := hc' (q, x) hq
    have a0 := cell_at (j := 0) (v := .int .i64 x.1) hb rfl
    have a1 := cell_at (j := 1) (v := .int .i64 x.2.1) hb rfl
    have a2 := cell_at (j := 2) (v := .int .i64 x.2.2) hb rfl
    rw [e1] at hl
    rw [e2]
    have HE : Hid (Touch [] w (((V.setCell ⟨w.heap.size, 0, none⟩ (.int .i64 x.1)).setCell ⟨w.heap.size, 1, none⟩ (.int .i64 x.2.1)).setCell ⟨w.heap.size, 2, none⟩ (.int .i64 x.2.2))) := hid (((tv.setCell (Or.inr (Nat.le_refl _)) _).setCell (Or.inr (Nat.le_refl _)) _).setCell (Or.inr (Nat.le_refl _)) _)
    clear h h1 hc hc' hb hq e1 e2 e3 tv hvb
    simp only [Option.getD_some, Option.isSome_some] at hl ⊢
    unfold PT at hl
    unfold PT sv
    go_enter Tryz.func87, Tryz.ntmps87
    go_upto_region 1 with fail
    rw [← hV]
    clear hV
    go_wp2
    exact bodyPost_ret (v := .tuple #[.agg #[.int .i64 x.1, .int .i64 x.2.1, .int .i64 x.2.2], .bool true]) (by simp [results, Tryz.results87, go_sem, v0, v1, v2]) rfl ⟨rfl, HE.out⟩
  · rw [e1] at hl
    rw [e2]
    have HE : Hid (Touch [] w (((V.setCell ⟨w.heap.size, 0, none⟩ (.int .i64 0)).setCell ⟨w.heap.size, 1, none⟩ (.int .i64 0)).setCell ⟨w.heap.size, 2, none⟩ (.int .i64 0))) := hid (((tv.setCell (Or.inr (Nat.le_refl _)) _).setCell (Or.inr (Nat.le_refl _)) _).setCell (Or.inr (Nat.le_refl _)) _)
    clear h h1 hc e1 e2 tv hvb
    simp only [Option.getD_none, Option.isSome_none] at hl ⊢
    unfold PT sv zs
    go_enter Tryz.func87, Tryz.ntmps87
    go_upto_region 1 with fail
    rw [← hV]
    clear hV
    go_wp2
    exact bodyPost_ret (v := .tuple #[.agg #[.int .i64 0, .int .i64 0, .int .i64 0], .bool false]) (by simp [results, Tryz.results87, go_sem, v0, v1, v2]) rfl ⟨rfl, HE.out⟩
end
end Go.Proofs.YtllchnancjgijaaGreat.Lv
/- The contracts of place and takeAway in plain words, and of clear, End, Stand and Sit; no conditions but those that each states. -/
namespace Go.Proofs.YtllchnancjgijaaGreat.Lv
open Go.RowKit Go.Maps Go.ChangeMaps
set_option maxRecDepth 100000
set_option linter.unusedVariables false
set_option linter.unusedSimpArgs false
section
variable {w : World} {s N : Nat} {F : List Nat} {L : List Se} {G : List Int}
theorem placeQ (h : Sq w s F L G N) {x : Se} (hx : Wf x) (hm : may x = true) (hn : ∀ y ∈ L, y.1 ≠ x.1) (hN : N ≤ 10000000000000) : Calls Tryz.prog 146 #[PT s, sv x] w fun e w' => e = .returned (.tuple #[]) ∧ SqE w w' s F (L ++ [x]) G (N + 1) := by
  obtain ⟨mc, mr, mk, nr, CH, rfl, rfl, h1, h2, h3⟩ := h
  have hl := h2.ll
  rw [List.length_map] at hl
  refine (place_ h1 x hx (fun p hp => hn p.2 (List.mem_map.2 ⟨p, hp, rfl⟩)) (by unfold maxLen; omega) (by unfold maxLen; omega)).mono ?_
  rintro e w' ⟨rfl, b, d, q, n, n1, n2, n3, n4, n5, n6⟩
  refine ⟨rfl, _, ⟨some b, some d, mk, n, CH ++ [(q, x)], rfl, by simp, n2, h2.snoc hx hm hn, by omega⟩, n3, fun z hz => ?_⟩
  rcases mem_fpS.1 hz with e | e | e | e | e
  · exact Or.inl (mem_fpS.2 (Or.inl e))
  · rcases n5 with e2 | e2
    · exact Or.inl (mem_fpS.2 (Or.inr (Or.inl (by rw [e2]; exact e))))
    · cases e; exact Or.inr e2
  · rcases n6 with e2 | e2
    · exact Or.inl (mem_fpS.2 (Or.inr (Or.inr (Or.inl (by rw [e2]; exact e)))))
    · cases e; exact Or.inr e2
  · exact Or.inl (mem_fpS.2 (Or.inr (Or.inr (Or.inr (Or.inl e)))))
  · rw [List.map_append] at e
    rcases List.mem_append.1 e with e | e
    · exact Or.inl (mem_fpS.2 (Or.inr (Or.inr (Or.inr (Or.inr e)))))
    · simp only [List.map_cons, List.map_nil, List.mem_singleton] at e
      exact Or.inr (by omega)
theorem whereQ (h : Sq w s F L G N) {c : Int} (hc : W64 c) : Calls Tryz.prog 87 #[PT s, .int .i64 c] w fun e w' => e = .returned (.tuple #[sv ((whr L c).getD zs), .bool (whr L c).isSome]) ∧ Touch [] w w' := by
  obtain ⟨mc, mr, mk, nr, CH, rfl, rfl, h1, h2, h3⟩ := h
  exact where_ h1 hc
theorem cancQ (h : Sq w s F L G N) {t : Int} (ht : W64 t) : Calls Tryz.prog 86 #[PT s, .int .i64 t] w fun e w' => e = .returned (.bool (decide (t ∈ G))) ∧ Touch [] w w' := by
  obtain ⟨mc, mr, mk, nr, CH, rfl, rfl, h1, h2, h3⟩ := h
  exact canc_ h1 ht
end
end Go.Proofs.YtllchnancjgijaaGreat.Lv
/- The contract of Sit; no conditions but those that it states. -/
namespace Go.Proofs.YtllchnancjgijaaGreat.Lv
open Go.RowKit Go.Maps Go.ChangeMaps
set_option maxRecDepth 100000
set_option linter.unusedVariables false
set_option linter.unusedSimpArgs false
section
variable {w : World} {s N : Nat} {F : List Nat} {L : List Se} {G : List Int}
set_option maxHeartbeats 4000000 in
set_option maxRecDepth 100000 in
theorem sit_ (h : Sq w s F L G N) {x : Se} (hx : Wf x) (hN : N ≤ 4400000000000) : Calls Tryz.prog 134 #[PT s, sv x] w fun e w' => e = .returned (.int .i64 (sitE L G x)) ∧ SqE w w' s F (sitL L G x) G (N + 1) := by
  obtain ⟨V, hV⟩ : ∃ V, V = w.alloc (.cells #[.int .i64 x.1, .int .i64 x.2.1, .int .i64 x.2.2] 134) := ⟨_, rfl⟩
  have tv : Touch [] w V := by rw [hV]; exact (Touch.refl _ _).alloc _
  have hvb : V.heap[w.heap.size]? = some (.cells #[.int .i64 x.1, .int .i64 x.2.1, .int .i64 x.2.2] 134 (0, 0)) := by rw [hV]; exact heap_alloc_new w _
  have h1 := h.keep0 tv
  have HB : Hid (∀ w', Touch [] V w' → w'.cell? ⟨w.heap.size, 0, none⟩ = some (.int .i64 x.1) ∧ w'.cell? ⟨w.heap.size, 1, none⟩ = some (.int .i64 x.2.1) ∧ w'.cell? ⟨w.heap.size, 2, none⟩ = some (.int .i64 x.2.2)) := hid (fun w' t => ⟨cell_at (t.keep hvb (by simp)) rfl, cell_at (t.keep hvb (by simp)) rfl, cell_at (t.keep hvb (by simp)) rfl⟩)
  obtain ⟨b0, b1, b2⟩ := HB.out V (Touch.refl _ _)
  have HSame : Hid (∀ w', Touch [] V w' → SqE w w' s F L G (N + 1)) := hid (fun w' t => SqE.same h (Nat.le_succ _) (tv.trans' t))
  have HC := hid (cancQ h1 hx.2.2)
  have HW : Hid (∀ w', Touch [] V w' → Calls Tryz.prog 87 #[PT s, .int .i64 x.1] w' fun e w2 => e = .returned (.tuple #[sv ((whr L x.1).getD zs), .bool (whr L x.1).isSome]) ∧ Touch [] w' w2) := hid (fun w' t => whereQ (h1.keep0 t) hx.1)
  have HPL : Hid (may x = true → (whr L x.1).isSome = false → ∀ w', Touch [] V w' → Calls Tryz.prog 146 #[PT s, sv x] w' fun e w2 => e = .returned (.tuple #[]) ∧ SqE w w2 s F (L ++ [x]) G (N + 1)) := hid (fun hm hw w' t => by
    refine (placeQ (h1.keep0 t) hx hm (whr_none.1 hw) (by omega)).mono ?_
    rintro e w2 ⟨rfl, q⟩
    exact ⟨rfl, SqE.from0 (tv.trans' t) q⟩)
  clear h h1 tv hvb
  unfold sitL
  cases hm : may x with
  | false =>
    have e0 : sitE L G x = 150 := by unfold sitE; rw [if_pos hm]
    rw [e0, if_neg (by decide)]
    unfold may at hm
    clear HC HW HPL
    unfold PT sv
    by_cases g0 : x.1 < 1
    · go_enter Tryz.func134, Tryz.ntmps134
      go_upto_region 1 with fail
      rw [← hV]
      clear hV
      go_wp2
      go_ret
      exact ⟨rfl, HSame.out _ (Touch.refl _ _)⟩
    · by_cases g1 : x.2.1 < 1
      · go_enter Tryz.func134, Tryz.ntmps134
        go_upto_region 1 with fail
        rw [← hV]
        clear hV
        go_wp2
        go_ret
        exact ⟨rfl, HSame.out _ (Touch.refl _ _)⟩
      · have g2 : x.2.2 < 0 := by
          simp only [Bool.and_eq_false_iff, decide_eq_false_iff_not] at hm
          omega
        clear hm
        go_enter Tryz.func134, Tryz.ntmps134
        go_upto_region 1 with fail
        rw [← hV]
        clear hV
        go_wp2
        go_ret
        exact ⟨rfl, HSame.out _ (Touch.refl _ _)⟩
  | true =>
    have HPL2 := hid (HPL.out hm)
    have hm2 := hm
    unfold may at hm2
    simp only [Bool.and_eq_true, decide_eq_true_eq] at hm2
    have g0 : ¬ x.1 < 1 := by omega
    have g1 : ¬ x.2.1 < 1 := by omega
    have g2 : ¬ x.2.2 < 0 := by omega
    clear HPL hm2
    by_cases hg : x.2.2 ∈ G
    · have e0 : sitE L G x = 152 := by unfold sitE; rw [if_neg (by rw [hm]; decide), if_pos hg]
      rw [e0, if_neg (by decide)]
      rw [decide_eq_true hg] at HC
      clear hm HW HPL2 e0
      unfold PT sv at *
      go_enter Tryz.func134, Tryz.ntmps134
      go_upto_region 1 with fail
      rw [← hV]
      clear hV
      go_wp2_with (go_at_call 86; refine HC.out.mono ?_; rintro e w2 ⟨rfl, t2⟩; have T2 := hid t2; clear t2)
      go_ret
      exact ⟨rfl, HSame.out _ T2.out⟩
    · rw [decide_eq_false hg] at HC
      cases hw : (whr L x.1).isSome with
      | true =>
        have e0 : sitE L G x = 151 := by unfold sitE; rw [if_neg (by rw [hm]; decide), if_neg hg, if_pos hw]
        rw [e0, if_neg (by decide)]
        rw [hw] at HW
        generalize (whr L x.1).getD zs = y at *
        clear hm HPL2 e0 hg hw
        unfold PT sv at *
        go_enter Tryz.func134, Tryz.ntmps134
        go_upto_region 1 with fail
        rw [← hV]
        clear hV
        go_wp2_with (first
          | (go_at_call 86; refine HC.out.mono ?_; rintro e w2 ⟨rfl, t2⟩; clear b0 b1 b2; obtain ⟨b0, b1, b2⟩ := HB.out _ t2; have HW2 := hid (HW.out _ t2); have T2 := hid t2; clear t2)
          | (go_at_call 87; refine HW2.out.mono ?_; rintro e w3 ⟨rfl, t3⟩; have T3 := hid (T2.out.trans' t3); clear t3))
        go_ret
        exact ⟨rfl, HSame.out _ (T3.out.alloc _)⟩
      | false =>
        have e0 : sitE L G x = 0 := by unfold sitE; rw [if_neg (by rw [hm]; decide), if_neg hg, if_neg (by rw [hw]; decide)]
        rw [e0, if_pos rfl]
        have HPL3 := hid (HPL2.out hw)
        rw [hw] at HW
        generalize (whr L x.1).getD zs = y at *
        clear hm HPL2 e0 hg hw
        unfold PT sv at *
        go_enter Tryz.func134, Tryz.ntmps134
        go_upto_region 1 with fail
        rw [← hV]
        clear hV
        go_upto_region 8 with (first
          | (go_at_call 86; refine HC.out.mono ?_; rintro e w2 ⟨rfl, t2⟩; clear b0 b1 b2; obtain ⟨b0, b1, b2⟩ := HB.out _ t2; have HW2 := hid (HW.out _ t2); have T2 := hid t2; clear t2)
          | (go_at_call 87; refine HW2.out.mono ?_; rintro e w3 ⟨rfl, t3⟩; have T3 := hid (T2.out.trans' t3); clear t3 b0 b1 b2))
        obtain ⟨V4, hV4⟩ : ∃ V4, V4 = w3.alloc (.cells #[.int .i64 y.1, .int .i64 y.2.1, .int .i64 y.2.2] 134) := ⟨_, rfl⟩
        have t4 : Touch [] V V4 := by rw [hV4]; exact T3.out.alloc _
        rw [← hV4]
        obtain ⟨b0, b1, b2⟩ := HB.out _ t4
        have HP4 := hid (HPL3.out _ t4)
        clear hV4 t4 HPL3 HW HC HW2 T2 T3 HB
        go_wp2_with (go_at_call 146; refine HP4.out.mono ?_; rintro e w5 ⟨rfl, q5⟩; have Q5 := hid q5; clear q5)
        go_ret
        exact ⟨rfl, Q5.out⟩
end
end Go.Proofs.YtllchnancjgijaaGreat.Lv
