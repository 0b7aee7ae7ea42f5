/- The contracts of a row's add and remove: a chair is laid behind all others, a chair is taken out; no conditions but those that each states. -/
import Derived.Test.YtlmmljmhfghlnaaVms
import Derived.Test.YtlmmljmhfghlnaaHlg
namespace Go.Proofs.Ytlmmljmhfghlnaa
open Go.RowKit Go.Maps Go.ChangeMaps
set_option linter.unusedVariables false
set_option linter.unusedSimpArgs false
def isCh (w : World) (q : Nat) : Prop := ∃ x a b, w.heap[q]? = some (.cells (chc x a b) 69 (0, 0))
/-- What add leaves. -/
structure AdE (w w' : World) (k rb q : Nat) (f l : Option Nat) : Prop where
  row : w'.heap[rb]? = some (.cells #[pv (if l = none then some q else f), pv (some q)] 82 (0, 0))
  at_ : ∀ x a b, w.heap[q]? = some (.cells (chc x a b) 69 (0, 0)) → w'.heap[q]? = some (.cells (chc x (updN a k l) b) 69 (0, 0))
  be : ∀ p x a b, l = some p → w.heap[p]? = some (.cells (chc x a b) 69 (0, 0)) → w'.heap[p]? = some (.cells (chc x a (updN b k (some q))) 69 (0, 0))
  t : Touch (rb :: q :: l.toList) w w'
theorem Touch.set1 (w : World) (b j : Nat) (v : Value) : Touch [b] w (w.setCell ⟨b, j, none⟩ v) := (Touch.refl _ _).setCell (Or.inl (by simp)) _
theorem Touch.more {F G : List Nat} {a b c : World} (h : Touch F a b) (k : Touch G b c) (hs : ∀ i, i ∈ G → i ∈ F) : Touch F a c := h.trans k (fun i hi => Or.inl (hs i hi))
theorem ad_none {w : World} {k rb q : Nat} {f : Option Nat} (hk : k < 3) (hr : w.heap[rb]? = some (.cells #[pv f, pv none] 82 (0, 0))) (hq : isCh w q) :
    AdE w (((w.setCell ⟨q, 3 + k, none⟩ (.pointer none)).drew.setCell ⟨rb, 0, none⟩ (PT q)).setCell ⟨rb, 1, none⟩ (PT q)) k rb q f none := by
  have hne : q ≠ rb := fun e => by obtain ⟨x, a, b, h⟩ := hq; rw [e, hr] at h; simp at h
  have t1 : Touch [q] w (w.setCell ⟨q, 3 + k, none⟩ (.pointer none)).drew := (Touch.set1 w q _ _).drew
  have r1 := t1.keep hr (by simp; omega)
  have r2 := bset (i := 1) (bset (i := 0) r1 (PT q)) (PT q)
  have t2 : Touch [rb] (w.setCell ⟨q, 3 + k, none⟩ (.pointer none)).drew (((w.setCell ⟨q, 3 + k, none⟩ (.pointer none)).drew.setCell ⟨rb, 0, none⟩ (PT q)).setCell ⟨rb, 1, none⟩ (PT q)) := ((Touch.refl _ _).setCell (Or.inl (by simp)) _).setCell (Or.inl (by simp)) _
  refine ⟨by simpa [pv_some] using r2, fun x a b h => ?_, fun p x a b e => (by cases e), (t1.mono (fun i hi => by simp at hi; simp [hi])).more t2 (fun i hi => by simp at hi; simp [hi])⟩
  have h1 := bset (i := 3 + k) h (pv none)
  rw [chc_sa hk] at h1
  exact t2.keep h1 (by simp; exact hne)
theorem ad_some {w : World} {k rb q p : Nat} {f : Option Nat} (hk : k < 3) (hr : w.heap[rb]? = some (.cells #[pv f, pv (some p)] 82 (0, 0))) (hq : isCh w q) (hp : isCh w p) (hn : p ≠ q) :
    AdE w (((w.setCell ⟨q, 3 + k, none⟩ (PT p)).drew.setCell ⟨p, 6 + k, none⟩ (PT q)).setCell ⟨rb, 1, none⟩ (PT q)) k rb q f (some p) := by
  have hne : q ≠ rb := fun e => by obtain ⟨x, a, b, h⟩ := hq; rw [e, hr] at h; simp at h
  have hne2 : p ≠ rb := fun e => by obtain ⟨x, a, b, h⟩ := hp; rw [e, hr] at h; simp at h
  have t1 : Touch [q] w (w.setCell ⟨q, 3 + k, none⟩ (PT p)).drew := (Touch.set1 w q _ _).drew
  have t2 := Touch.set1 (w.setCell ⟨q, 3 + k, none⟩ (PT p)).drew p (6 + k) (PT q)
  have t3 := Touch.set1 ((w.setCell ⟨q, 3 + k, none⟩ (PT p)).drew.setCell ⟨p, 6 + k, none⟩ (PT q)) rb 1 (PT q)
  have r2 := bset (i := 1) (t2.keep (t1.keep hr (by simp; omega)) (by simp; omega)) (PT q)
  refine ⟨by simpa [pv_some] using r2, fun x a b h => ?_, fun p' x a b e h => ?_, ((t1.mono (fun i hi => by simp at hi; simp [hi])).more t2 (fun i hi => by simp at hi; simp [hi])).more t3 (fun i hi => by simp at hi; simp [hi])⟩
  · have h1 := bset (i := 3 + k) h (pv (some p))
    rw [chc_sa hk] at h1
    exact t3.keep (t2.keep h1 (by simp; omega)) (by simp; exact hne)
  · simp only [Option.some.injEq] at e
    subst e
    have h1 := bset (i := 6 + k) (t1.keep h (by simp; exact hn)) (pv (some q))
    rw [chc_sb hk] at h1
    exact t3.keep h1 (by simp; exact hne2)
/-- What remove leaves. -/
structure RmE (w w' : World) (k rb q : Nat) (f l a b : Option Nat) : Prop where
  row : w'.heap[rb]? = some (.cells #[pv (if a = none then b else f), pv (if b = none then a else l)] 82 (0, 0))
  ah : ∀ p x a2 b2, a = some p → w.heap[p]? = some (.cells (chc x a2 b2) 69 (0, 0)) → w'.heap[p]? = some (.cells (chc x a2 (updN b2 k b)) 69 (0, 0))
  be : ∀ p x a2 b2, b = some p → w.heap[p]? = some (.cells (chc x a2 b2) 69 (0, 0)) → w'.heap[p]? = some (.cells (chc x (updN a2 k a) b2) 69 (0, 0))
  t : Touch (rb :: (a.toList ++ b.toList)) w w'
/-- The two steps of remove: one neighbour's, or the row's own. -/
def rm1 (w : World) (k rb : Nat) (a b : Option Nat) : World := match a with | none => w.setCell ⟨rb, 0, none⟩ (pv b) | some p => w.setCell ⟨p, 6 + k, none⟩ (pv b)
def rm2 (w : World) (k rb : Nat) (a b : Option Nat) : World := match b with | none => w.setCell ⟨rb, 1, none⟩ (pv a) | some p => w.setCell ⟨p, 3 + k, none⟩ (pv a)
theorem rm_made {w w1 : World} {k rb q : Nat} {f l a b : Option Nat} (hk : k < 3) (t0 : Touch [] w w1) (hr : w.heap[rb]? = some (.cells #[pv f, pv l] 82 (0, 0))) (ha : ∀ p, a = some p → isCh w p) (hb : ∀ p, b = some p → isCh w p) (hab : ∀ p, a = some p → b ≠ some p) :
    RmE w (rm2 (rm1 w1 k rb a b) k rb a b) k rb q f l a b := by
  have hna : ∀ p, isCh w p → p ≠ rb := fun p hp e => by obtain ⟨x, a, b, h⟩ := hp; rw [e, hr] at h; simp at h
  have hr0 := t0.keep hr (by simp)
  have k0 : ∀ {p : Nat} {x : Se} {a b : Nat → Option Nat}, w.heap[p]? = some (.cells (chc x a b) 69 (0, 0)) → w1.heap[p]? = some (.cells (chc x a b) 69 (0, 0)) := fun h => t0.keep h (by simp)
  cases a with
  | none =>
    have t1 := Touch.set1 w1 rb 0 (pv b)
    have r1 := bset (i := 0) hr0 (pv b)
    cases b with
    | none =>
      have t2 := Touch.set1 (w1.setCell ⟨rb, 0, none⟩ (pv none)) rb 1 (pv none)
      refine ⟨by simpa [rm1, rm2] using bset (i := 1) r1 (pv none), fun p x a2 b2 e => (by cases e), fun p x a2 b2 e => (by cases e), ?_⟩
      exact ((t0.mono (fun _ e => by cases e)).more t1 (fun i hi => by simp at hi; simp [hi])).more t2 (fun i hi => by simp at hi; simp [hi])
    | some p =>
      have hp := hna p (hb p rfl)
      have t2 := Touch.set1 (w1.setCell ⟨rb, 0, none⟩ (pv (some p))) p (3 + k) (pv none)
      refine ⟨by simpa [rm1, rm2] using t2.keep r1 (by simp; omega), fun p x a2 b2 e => (by cases e), fun p' x a2 b2 e h => ?_, ?_⟩
      · simp only [Option.some.injEq] at e
        subst e
        have h1 := bset (i := 3 + k) (t1.keep (k0 h) (by simp; exact hp)) (pv none)
        rw [chc_sa hk] at h1
        exact h1
      · exact ((t0.mono (fun _ e => by cases e)).more t1 (fun i hi => by simp at hi; simp [hi])).more t2 (fun i hi => by simp at hi; simp [hi])
  | some p =>
    have hp := hna p (ha p rfl)
    have t1 := Touch.set1 w1 p (6 + k) (pv b)
    have r1 := t1.keep hr0 (by simp; omega)
    cases b with
    | none =>
      have t2 := Touch.set1 (w1.setCell ⟨p, 6 + k, none⟩ (pv none)) rb 1 (pv (some p))
      refine ⟨by simpa [rm1, rm2] using bset (i := 1) r1 (pv (some p)), fun p' x a2 b2 e h => ?_, fun p x a2 b2 e => (by cases e), ?_⟩
      · simp only [Option.some.injEq] at e
        subst e
        have h1 := bset (i := 6 + k) (k0 h) (pv none)
        rw [chc_sb hk] at h1
        exact t2.keep h1 (by simp; exact hp)
      · exact ((t0.mono (fun _ e => by cases e)).more t1 (fun i hi => by simp at hi; simp [hi])).more t2 (fun i hi => by simp at hi; simp [hi])
    | some r =>
      have hr' := hna r (hb r rfl)
      have hpr : p ≠ r := fun e => hab p rfl (by rw [e])
      have t2 := Touch.set1 (w1.setCell ⟨p, 6 + k, none⟩ (pv (some r))) r (3 + k) (pv (some p))
      refine ⟨by simpa [rm1, rm2] using t2.keep r1 (by simp; omega), fun p' x a2 b2 e h => ?_, fun p' x a2 b2 e h => ?_, ?_⟩
      · simp only [Option.some.injEq] at e
        subst e
        have h1 := bset (i := 6 + k) (k0 h) (pv (some r))
        rw [chc_sb hk] at h1
        exact t2.keep h1 (by simp; exact hpr)
      · simp only [Option.some.injEq] at e
        subst e
        have h1 := bset (i := 3 + k) (t1.keep (k0 h) (by simp; omega)) (pv (some p))
        rw [chc_sa hk] at h1
        exact h1
      · exact ((t0.mono (fun _ e => by cases e)).more t1 (fun i hi => by simp at hi; simp [hi])).more t2 (fun i hi => by simp at hi; simp [hi])
section
variable (w : World) (rb q : Nat)
set_option maxHeartbeats 1000000 in
theorem add0n (f : Option Nat) (hr : w.heap[rb]? = some (.cells #[pv f, pv (none)] 82 (0, 0))) (hq : isCh w q) : Calls Try.prog 41 #[PT rb, .int .i64 0, PT q] w fun e w' => e = .returned (.tuple #[]) ∧ AdE w w' 0 rb q f (none) := by
  have HX := hid (ad_none (k := 0) (by omega) hr hq)
  have hne : q ≠ rb := fun e => by obtain ⟨x, a, b, h⟩ := hq; rw [e, hr] at h; simp at h
  have hql : q < w.heap.size := by obtain ⟨x, a, b, h⟩ := hq; exact block_lt h
  have hrl := block_lt hr
  have C1 : ∀ w', Touch [] w w' → w'.cell? ⟨rb, 1, none⟩ = some (.pointer none) := fun w' t => cell_at (t.keep hr (by simp)) rfl
  have fq : ∀ j, w.frozen? ⟨q, j, none⟩ = false := by obtain ⟨x, a, b, h⟩ := hq; exact froz_at h
  have fr : ∀ j, w.frozen? ⟨rb, j, none⟩ = false := froz_at hr
  have c1 := C1 w (Touch.refl _ _)
  have c0 := cell_at (j := 0) (v := pv f) hr rfl
  obtain ⟨vq, cq⟩ : ∃ v, w.cell? ⟨q, 3, none⟩ = some v := by obtain ⟨x, a, b, h⟩ := hq; exact ⟨_, cell_at h rfl⟩
  clear hr hq
  have k0 : Touch [] w w.drew := (Touch.refl _ _).drew
  unfold PT at *
  go_enter Try.func41, Try.ntmps41
  go_upto_region 0 with fail
  refine wp_region_L (S := fun w' => Touch [] w w') (st := 9) (by kernel_rfl) ?_
  refine wpL_take (i := 0) (v := (.pointer (some ⟨q, 0, none⟩))) (some 6) rfl rfl (by kernel_rfl) (by kernel_rfl) (by kernel_rfl) (by kernel_rfl) (by kernel_rfl) (by decide) (fun _ _ _ h => h) (Or.inl ⟨by rfl, fun w' hS => (by go_simp)⟩) k0 ?_
  try simp only [Go.Act.put, List.setIfInBounds_toArray, List.set_cons_zero, List.set_cons_succ]
  refine wpL_take (i := 1) (v := (.int .i64 0)) (some 7) rfl rfl (by kernel_rfl) (by kernel_rfl) (by kernel_rfl) (by kernel_rfl) (by kernel_rfl) (by decide) (fun _ _ _ h => h) (Or.inl ⟨by rfl, fun w' hS => (by go_simp)⟩) k0 ?_
  try simp only [Go.Act.put, List.setIfInBounds_toArray, List.set_cons_zero, List.set_cons_succ]
  refine wpL_take (i := 2) (v := (.pointer (some ⟨rb, 0, none⟩))) (some 8) rfl rfl (by kernel_rfl) (by kernel_rfl) (by kernel_rfl) (by kernel_rfl) (by kernel_rfl) (by decide) (fun _ _ _ h => h) (Or.inl ⟨by rfl, fun w' hS => (by go_simp)⟩) k0 ?_
  try simp only [Go.Act.put, List.setIfInBounds_toArray, List.set_cons_zero, List.set_cons_succ]
  refine wpL_take (i := 3) (v := (.pointer (some ⟨rb, 0, none⟩))) (some 9) rfl rfl (by kernel_rfl) (by kernel_rfl) (by kernel_rfl) (by kernel_rfl) (by kernel_rfl) (by decide) (fun _ _ _ h => h) (Or.inl ⟨by rfl, fun w' hS => (by go_simp)⟩) k0 ?_
  try simp only [Go.Act.put, List.setIfInBounds_toArray, List.set_cons_zero, List.set_cons_succ]
  refine wpL_take (i := 4) (v := (.pointer (some ⟨rb, 1, none⟩))) (some 10) rfl rfl (by kernel_rfl) (by kernel_rfl) (by kernel_rfl) (by kernel_rfl) (by kernel_rfl) (by decide) (fun _ _ _ h => h) (Or.inl ⟨by rfl, fun w' hS => (by go_simp)⟩) k0 ?_
  try simp only [Go.Act.put, List.setIfInBounds_toArray, List.set_cons_zero, List.set_cons_succ]
  refine wpL_take (i := 5) (v := (.pointer none)) (some 11) rfl rfl (by kernel_rfl) (by kernel_rfl) (by kernel_rfl) (by kernel_rfl) (by kernel_rfl) (by decide) (fun _ _ _ h => h) (Or.inl ⟨by rfl, fun w' hS => (by have z0 := C1 _ hS; go_simp)⟩) k0 ?_
  try simp only [Go.Act.put, List.setIfInBounds_toArray, List.set_cons_zero, List.set_cons_succ]
  refine wpL_takeY (i := 6) (v := (.pointer (some ⟨q, 0, none⟩))) (some 12) rfl rfl (by kernel_rfl) (by kernel_rfl) (by kernel_rfl) (by decide) (fun _ _ _ h => h) (Or.inl ⟨by rfl, fun w' hS => (by go_simp)⟩) (fun _ => k0) ?_
  try simp only [Go.Act.put, List.setIfInBounds_toArray, List.set_cons_zero, List.set_cons_succ]
  refine wpL_takeY (i := 7) (v := (.pointer (some ⟨q, 3, none⟩))) (some 13) rfl rfl (by kernel_rfl) (by kernel_rfl) (by kernel_rfl) (by decide) (fun _ _ _ h => h) (Or.inl ⟨by rfl, fun w' hS => (by go_simp)⟩) (fun _ => k0) ?_
  try simp only [Go.Act.put, List.setIfInBounds_toArray, List.set_cons_zero, List.set_cons_succ]
  refine wpL_take (i := 8) (v := (.pointer (some ⟨q, 3, none⟩))) (some 14) rfl rfl (by kernel_rfl) (by kernel_rfl) (by kernel_rfl) (by kernel_rfl) (by kernel_rfl) (by decide) (fun _ _ _ h => h) (Or.inl ⟨by rfl, fun w' hS => (by go_simp)⟩) k0 ?_
  try simp only [Go.Act.put, List.setIfInBounds_toArray, List.set_cons_zero, List.set_cons_succ]
  refine wpL_ready (rs := [9]) (by kernel_rfl) (by simp) (AllL.cons (o := { dst := none, op := Op.store 66 (Operand.tmp 14) (Operand.tmp 11), type := 0, pos := _, after := #[{ on := 8, ground := Ground.data }, { on := 5, ground := Ground.data }, { on := 0, ground := Ground.phase }, { on := 1, ground := Ground.phase }, { on := 2, ground := Ground.phase }, { on := 3, ground := Ground.phase }, { on := 4, ground := Ground.phase }, { on := 5, ground := Ground.phase }], guard := none }) rfl (fun K' hK => ?_) AllL.nil)
  rw [if_pos (by rfl)]
  go_simp
  refine hK.out _ _ (fun h => absurd h (by decide)) ?_
  clear hK
  try simp only [Go.Act.put, List.setIfInBounds_toArray, List.set_cons_zero, List.set_cons_succ]
  refine wpL_done (by kernel_rfl) ?_ _
  go_wp2
  go_end0
  exact ⟨rfl, HX.out⟩
set_option maxHeartbeats 1000000 in
theorem add0s (f : Option Nat) (p : Nat) (hr : w.heap[rb]? = some (.cells #[pv f, pv (some p)] 82 (0, 0))) (hq : isCh w q) (hp : isCh w p) (hn : p ≠ q) : Calls Try.prog 41 #[PT rb, .int .i64 0, PT q] w fun e w' => e = .returned (.tuple #[]) ∧ AdE w w' 0 rb q f (some p) := by
  have HX := hid (ad_some (k := 0) (by omega) hr hq hp hn)
  have hne : q ≠ rb := fun e => by obtain ⟨x, a, b, h⟩ := hq; rw [e, hr] at h; simp at h
  have hql : q < w.heap.size := by obtain ⟨x, a, b, h⟩ := hq; exact block_lt h
  have hrl := block_lt hr
  have C1 : ∀ w', Touch [] w w' → w'.cell? ⟨rb, 1, none⟩ = some (.pointer (some ⟨p, 0, none⟩)) := fun w' t => cell_at (t.keep hr (by simp)) rfl
  have fq : ∀ j, w.frozen? ⟨q, j, none⟩ = false := by obtain ⟨x, a, b, h⟩ := hq; exact froz_at h
  have fr : ∀ j, w.frozen? ⟨rb, j, none⟩ = false := froz_at hr
  have c1 := C1 w (Touch.refl _ _)
  have c0 := cell_at (j := 0) (v := pv f) hr rfl
  obtain ⟨vq, cq⟩ : ∃ v, w.cell? ⟨q, 3, none⟩ = some v := by obtain ⟨x, a, b, h⟩ := hq; exact ⟨_, cell_at h rfl⟩
  obtain ⟨vp, cp⟩ : ∃ v, w.cell? ⟨p, 6, none⟩ = some v := by obtain ⟨x, a, b, h⟩ := hp; exact ⟨_, cell_at h rfl⟩
  have fp : ∀ j, w.frozen? ⟨p, j, none⟩ = false := by obtain ⟨x, a, b, h⟩ := hp; exact froz_at h
  have hne2 : p ≠ rb := fun e => by obtain ⟨x, a, b, h⟩ := hp; rw [e, hr] at h; simp at h
  clear hp
  clear hr hq
  have k0 : Touch [] w w.drew := (Touch.refl _ _).drew
  unfold PT at *
  go_enter Try.func41, Try.ntmps41
  go_upto_region 0 with fail
  refine wp_region_L (S := fun w' => Touch [] w w') (st := 9) (by kernel_rfl) ?_
  refine wpL_take (i := 0) (v := (.pointer (some ⟨q, 0, none⟩))) (some 6) rfl rfl (by kernel_rfl) (by kernel_rfl) (by kernel_rfl) (by kernel_rfl) (by kernel_rfl) (by decide) (fun _ _ _ h => h) (Or.inl ⟨by rfl, fun w' hS => (by go_simp)⟩) k0 ?_
  try simp only [Go.Act.put, List.setIfInBounds_toArray, List.set_cons_zero, List.set_cons_succ]
  refine wpL_take (i := 1) (v := (.int .i64 0)) (some 7) rfl rfl (by kernel_rfl) (by kernel_rfl) (by kernel_rfl) (by kernel_rfl) (by kernel_rfl) (by decide) (fun _ _ _ h => h) (Or.inl ⟨by rfl, fun w' hS => (by go_simp)⟩) k0 ?_
  try simp only [Go.Act.put, List.setIfInBounds_toArray, List.set_cons_zero, List.set_cons_succ]
  refine wpL_take (i := 2) (v := (.pointer (some ⟨rb, 0, none⟩))) (some 8) rfl rfl (by kernel_rfl) (by kernel_rfl) (by kernel_rfl) (by kernel_rfl) (by kernel_rfl) (by decide) (fun _ _ _ h => h) (Or.inl ⟨by rfl, fun w' hS => (by go_simp)⟩) k0 ?_
  try simp only [Go.Act.put, List.setIfInBounds_toArray, List.set_cons_zero, List.set_cons_succ]
  refine wpL_take (i := 3) (v := (.pointer (some ⟨rb, 0, none⟩))) (some 9) rfl rfl (by kernel_rfl) (by kernel_rfl) (by kernel_rfl) (by kernel_rfl) (by kernel_rfl) (by decide) (fun _ _ _ h => h) (Or.inl ⟨by rfl, fun w' hS => (by go_simp)⟩) k0 ?_
  try simp only [Go.Act.put, List.setIfInBounds_toArray, List.set_cons_zero, List.set_cons_succ]
  refine wpL_take (i := 4) (v := (.pointer (some ⟨rb, 1, none⟩))) (some 10) rfl rfl (by kernel_rfl) (by kernel_rfl) (by kernel_rfl) (by kernel_rfl) (by kernel_rfl) (by decide) (fun _ _ _ h => h) (Or.inl ⟨by rfl, fun w' hS => (by go_simp)⟩) k0 ?_
  try simp only [Go.Act.put, List.setIfInBounds_toArray, List.set_cons_zero, List.set_cons_succ]
  refine wpL_take (i := 5) (v := (.pointer (some ⟨p, 0, none⟩))) (some 11) rfl rfl (by kernel_rfl) (by kernel_rfl) (by kernel_rfl) (by kernel_rfl) (by kernel_rfl) (by decide) (fun _ _ _ h => h) (Or.inl ⟨by rfl, fun w' hS => (by have z0 := C1 _ hS; go_simp)⟩) k0 ?_
  try simp only [Go.Act.put, List.setIfInBounds_toArray, List.set_cons_zero, List.set_cons_succ]
  refine wpL_takeY (i := 6) (v := (.pointer (some ⟨q, 0, none⟩))) (some 12) rfl rfl (by kernel_rfl) (by kernel_rfl) (by kernel_rfl) (by decide) (fun _ _ _ h => h) (Or.inl ⟨by rfl, fun w' hS => (by go_simp)⟩) (fun _ => k0) ?_
  try simp only [Go.Act.put, List.setIfInBounds_toArray, List.set_cons_zero, List.set_cons_succ]
  refine wpL_takeY (i := 7) (v := (.pointer (some ⟨q, 3, none⟩))) (some 13) rfl rfl (by kernel_rfl) (by kernel_rfl) (by kernel_rfl) (by decide) (fun _ _ _ h => h) (Or.inl ⟨by rfl, fun w' hS => (by go_simp)⟩) (fun _ => k0) ?_
  try simp only [Go.Act.put, List.setIfInBounds_toArray, List.set_cons_zero, List.set_cons_succ]
  refine wpL_take (i := 8) (v := (.pointer (some ⟨q, 3, none⟩))) (some 14) rfl rfl (by kernel_rfl) (by kernel_rfl) (by kernel_rfl) (by kernel_rfl) (by kernel_rfl) (by decide) (fun _ _ _ h => h) (Or.inl ⟨by rfl, fun w' hS => (by go_simp)⟩) k0 ?_
  try simp only [Go.Act.put, List.setIfInBounds_toArray, List.set_cons_zero, List.set_cons_succ]
  refine wpL_ready (rs := [9]) (by kernel_rfl) (by simp) (AllL.cons (o := { dst := none, op := Op.store 66 (Operand.tmp 14) (Operand.tmp 11), type := 0, pos := _, after := #[{ on := 8, ground := Ground.data }, { on := 5, ground := Ground.data }, { on := 0, ground := Ground.phase }, { on := 1, ground := Ground.phase }, { on := 2, ground := Ground.phase }, { on := 3, ground := Ground.phase }, { on := 4, ground := Ground.phase }, { on := 5, ground := Ground.phase }], guard := none }) rfl (fun K' hK => ?_) AllL.nil)
  rw [if_pos (by rfl)]
  go_simp
  refine hK.out _ _ (fun h => absurd h (by decide)) ?_
  clear hK
  try simp only [Go.Act.put, List.setIfInBounds_toArray, List.set_cons_zero, List.set_cons_succ]
  refine wpL_done (by kernel_rfl) ?_ _
  go_wp2
  go_end0
  exact ⟨rfl, HX.out⟩
set_option maxHeartbeats 1000000 in
theorem add1n (f : Option Nat) (hr : w.heap[rb]? = some (.cells #[pv f, pv (none)] 82 (0, 0))) (hq : isCh w q) : Calls Try.prog 41 #[PT rb, .int .i64 1, PT q] w fun e w' => e = .returned (.tuple #[]) ∧ AdE w w' 1 rb q f (none) := by
  have HX := hid (ad_none (k := 1) (by omega) hr hq)
  have hne : q ≠ rb := fun e => by obtain ⟨x, a, b, h⟩ := hq; rw [e, hr] at h; simp at h
  have hql : q < w.heap.size := by obtain ⟨x, a, b, h⟩ := hq; exact block_lt h
  have hrl := block_lt hr
  have C1 : ∀ w', Touch [] w w' → w'.cell? ⟨rb, 1, none⟩ = some (.pointer none) := fun w' t => cell_at (t.keep hr (by simp)) rfl
  have fq : ∀ j, w.frozen? ⟨q, j, none⟩ = false := by obtain ⟨x, a, b, h⟩ := hq; exact froz_at h
  have fr : ∀ j, w.frozen? ⟨rb, j, none⟩ = false := froz_at hr
  have c1 := C1 w (Touch.refl _ _)
  have c0 := cell_at (j := 0) (v := pv f) hr rfl
  obtain ⟨vq, cq⟩ : ∃ v, w.cell? ⟨q, 4, none⟩ = some v := by obtain ⟨x, a, b, h⟩ := hq; exact ⟨_, cell_at h rfl⟩
  clear hr hq
  have k0 : Touch [] w w.drew := (Touch.refl _ _).drew
  unfold PT at *
  go_enter Try.func41, Try.ntmps41
  go_upto_region 0 with fail
  refine wp_region_L (S := fun w' => Touch [] w w') (st := 9) (by kernel_rfl) ?_
  refine wpL_take (i := 0) (v := (.pointer (some ⟨q, 0, none⟩))) (some 6) rfl rfl (by kernel_rfl) (by kernel_rfl) (by kernel_rfl) (by kernel_rfl) (by kernel_rfl) (by decide) (fun _ _ _ h => h) (Or.inl ⟨by rfl, fun w' hS => (by go_simp)⟩) k0 ?_
  try simp only [Go.Act.put, List.setIfInBounds_toArray, List.set_cons_zero, List.set_cons_succ]
  refine wpL_take (i := 1) (v := (.int .i64 1)) (some 7) rfl rfl (by kernel_rfl) (by kernel_rfl) (by kernel_rfl) (by kernel_rfl) (by kernel_rfl) (by decide) (fun _ _ _ h => h) (Or.inl ⟨by rfl, fun w' hS => (by go_simp)⟩) k0 ?_
  try simp only [Go.Act.put, List.setIfInBounds_toArray, List.set_cons_zero, List.set_cons_succ]
  refine wpL_take (i := 2) (v := (.pointer (some ⟨rb, 0, none⟩))) (some 8) rfl rfl (by kernel_rfl) (by kernel_rfl) (by kernel_rfl) (by kernel_rfl) (by kernel_rfl) (by decide) (fun _ _ _ h => h) (Or.inl ⟨by rfl, fun w' hS => (by go_simp)⟩) k0 ?_
  try simp only [Go.Act.put, List.setIfInBounds_toArray, List.set_cons_zero, List.set_cons_succ]
  refine wpL_take (i := 3) (v := (.pointer (some ⟨rb, 0, none⟩))) (some 9) rfl rfl (by kernel_rfl) (by kernel_rfl) (by kernel_rfl) (by kernel_rfl) (by kernel_rfl) (by decide) (fun _ _ _ h => h) (Or.inl ⟨by rfl, fun w' hS => (by go_simp)⟩) k0 ?_
  try simp only [Go.Act.put, List.setIfInBounds_toArray, List.set_cons_zero, List.set_cons_succ]
  refine wpL_take (i := 4) (v := (.pointer (some ⟨rb, 1, none⟩))) (some 10) rfl rfl (by kernel_rfl) (by kernel_rfl) (by kernel_rfl) (by kernel_rfl) (by kernel_rfl) (by decide) (fun _ _ _ h => h) (Or.inl ⟨by rfl, fun w' hS => (by go_simp)⟩) k0 ?_
  try simp only [Go.Act.put, List.setIfInBounds_toArray, List.set_cons_zero, List.set_cons_succ]
  refine wpL_take (i := 5) (v := (.pointer none)) (some 11) rfl rfl (by kernel_rfl) (by kernel_rfl) (by kernel_rfl) (by kernel_rfl) (by kernel_rfl) (by decide) (fun _ _ _ h => h) (Or.inl ⟨by rfl, fun w' hS => (by have z0 := C1 _ hS; go_simp)⟩) k0 ?_
  try simp only [Go.Act.put, List.setIfInBounds_toArray, List.set_cons_zero, List.set_cons_succ]
  refine wpL_takeY (i := 6) (v := (.pointer (some ⟨q, 0, none⟩))) (some 12) rfl rfl (by kernel_rfl) (by kernel_rfl) (by kernel_rfl) (by decide) (fun _ _ _ h => h) (Or.inl ⟨by rfl, fun w' hS => (by go_simp)⟩) (fun _ => k0) ?_
  try simp only [Go.Act.put, List.setIfInBounds_toArray, List.set_cons_zero, List.set_cons_succ]
  refine wpL_takeY (i := 7) (v := (.pointer (some ⟨q, 3, none⟩))) (some 13) rfl rfl (by kernel_rfl) (by kernel_rfl) (by kernel_rfl) (by decide) (fun _ _ _ h => h) (Or.inl ⟨by rfl, fun w' hS => (by go_simp)⟩) (fun _ => k0) ?_
  try simp only [Go.Act.put, List.setIfInBounds_toArray, List.set_cons_zero, List.set_cons_succ]
  refine wpL_take (i := 8) (v := (.pointer (some ⟨q, 4, none⟩))) (some 14) rfl rfl (by kernel_rfl) (by kernel_rfl) (by kernel_rfl) (by kernel_rfl) (by kernel_rfl) (by decide) (fun _ _ _ h => h) (Or.inl ⟨by rfl, fun w' hS => (by go_simp)⟩) k0 ?_
  try simp only [Go.Act.put, List.setIfInBounds_toArray, List.set_cons_zero, List.set_cons_succ]
  refine wpL_ready (rs := [9]) (by kernel_rfl) (by simp) (AllL.cons (o := { dst := none, op := Op.store 66 (Operand.tmp 14) (Operand.tmp 11), type := 0, pos := _, after := #[{ on := 8, ground := Ground.data }, { on := 5, ground := Ground.data }, { on := 0, ground := Ground.phase }, { on := 1, ground := Ground.phase }, { on := 2, ground := Ground.phase }, { on := 3, ground := Ground.phase }, { on := 4, ground := Ground.phase }, { on := 5, ground := Ground.phase }], guard := none }) rfl (fun K' hK => ?_) AllL.nil)
  rw [if_pos (by rfl)]
  go_simp
  refine hK.out _ _ (fun h => absurd h (by decide)) ?_
  clear hK
  try simp only [Go.Act.put, List.setIfInBounds_toArray, List.set_cons_zero, List.set_cons_succ]
  refine wpL_done (by kernel_rfl) ?_ _
  go_wp2
  go_end0
  exact ⟨rfl, HX.out⟩
set_option maxHeartbeats 1000000 in
theorem add1s (f : Option Nat) (p : Nat) (hr : w.heap[rb]? = some (.cells #[pv f, pv (some p)] 82 (0, 0))) (hq : isCh w q) (hp : isCh w p) (hn : p ≠ q) : Calls Try.prog 41 #[PT rb, .int .i64 1, PT q] w fun e w' => e = .returned (.tuple #[]) ∧ AdE w w' 1 rb q f (some p) := by
  have HX := hid (ad_some (k := 1) (by omega) hr hq hp hn)
  have hne : q ≠ rb := fun e => by obtain ⟨x, a, b, h⟩ := hq; rw [e, hr] at h; simp at h
  have hql : q < w.heap.size := by obtain ⟨x, a, b, h⟩ := hq; exact block_lt h
  have hrl := block_lt hr
  have C1 : ∀ w', Touch [] w w' → w'.cell? ⟨rb, 1, none⟩ = some (.pointer (some ⟨p, 0, none⟩)) := fun w' t => cell_at (t.keep hr (by simp)) rfl
  have fq : ∀ j, w.frozen? ⟨q, j, none⟩ = false := by obtain ⟨x, a, b, h⟩ := hq; exact froz_at h
  have fr : ∀ j, w.frozen? ⟨rb, j, none⟩ = false := froz_at hr
  have c1 := C1 w (Touch.refl _ _)
  have c0 := cell_at (j := 0) (v := pv f) hr rfl
  obtain ⟨vq, cq⟩ : ∃ v, w.cell? ⟨q, 4, none⟩ = some v := by obtain ⟨x, a, b, h⟩ := hq; exact ⟨_, cell_at h rfl⟩
  obtain ⟨vp, cp⟩ : ∃ v, w.cell? ⟨p, 7, none⟩ = some v := by obtain ⟨x, a, b, h⟩ := hp; exact ⟨_, cell_at h rfl⟩
  have fp : ∀ j, w.frozen? ⟨p, j, none⟩ = false := by obtain ⟨x, a, b, h⟩ := hp; exact froz_at h
  have hne2 : p ≠ rb := fun e => by obtain ⟨x, a, b, h⟩ := hp; rw [e, hr] at h; simp at h
  clear hp
  clear hr hq
  have k0 : Touch [] w w.drew := (Touch.refl _ _).drew
  unfold PT at *
  go_enter Try.func41, Try.ntmps41
  go_upto_region 0 with fail
  refine wp_region_L (S := fun w' => Touch [] w w') (st := 9) (by kernel_rfl) ?_
  refine wpL_take (i := 0) (v := (.pointer (some ⟨q, 0, none⟩))) (some 6) rfl rfl (by kernel_rfl) (by kernel_rfl) (by kernel_rfl) (by kernel_rfl) (by kernel_rfl) (by decide) (fun _ _ _ h => h) (Or.inl ⟨by rfl, fun w' hS => (by go_simp)⟩) k0 ?_
  try simp only [Go.Act.put, List.setIfInBounds_toArray, List.set_cons_zero, List.set_cons_succ]
  refine wpL_take (i := 1) (v := (.int .i64 1)) (some 7) rfl rfl (by kernel_rfl) (by kernel_rfl) (by kernel_rfl) (by kernel_rfl) (by kernel_rfl) (by decide) (fun _ _ _ h => h) (Or.inl ⟨by rfl, fun w' hS => (by go_simp)⟩) k0 ?_
  try simp only [Go.Act.put, List.setIfInBounds_toArray, List.set_cons_zero, List.set_cons_succ]
  refine wpL_take (i := 2) (v := (.pointer (some ⟨rb, 0, none⟩))) (some 8) rfl rfl (by kernel_rfl) (by kernel_rfl) (by kernel_rfl) (by kernel_rfl) (by kernel_rfl) (by decide) (fun _ _ _ h => h) (Or.inl ⟨by rfl, fun w' hS => (by go_simp)⟩) k0 ?_
  try simp only [Go.Act.put, List.setIfInBounds_toArray, List.set_cons_zero, List.set_cons_succ]
  refine wpL_take (i := 3) (v := (.pointer (some ⟨rb, 0, none⟩))) (some 9) rfl rfl (by kernel_rfl) (by kernel_rfl) (by kernel_rfl) (by kernel_rfl) (by kernel_rfl) (by decide) (fun _ _ _ h => h) (Or.inl ⟨by rfl, fun w' hS => (by go_simp)⟩) k0 ?_
  try simp only [Go.Act.put, List.setIfInBounds_toArray, List.set_cons_zero, List.set_cons_succ]
  refine wpL_take (i := 4) (v := (.pointer (some ⟨rb, 1, none⟩))) (some 10) rfl rfl (by kernel_rfl) (by kernel_rfl) (by kernel_rfl) (by kernel_rfl) (by kernel_rfl) (by decide) (fun _ _ _ h => h) (Or.inl ⟨by rfl, fun w' hS => (by go_simp)⟩) k0 ?_
  try simp only [Go.Act.put, List.setIfInBounds_toArray, List.set_cons_zero, List.set_cons_succ]
  refine wpL_take (i := 5) (v := (.pointer (some ⟨p, 0, none⟩))) (some 11) rfl rfl (by kernel_rfl) (by kernel_rfl) (by kernel_rfl) (by kernel_rfl) (by kernel_rfl) (by decide) (fun _ _ _ h => h) (Or.inl ⟨by rfl, fun w' hS => (by have z0 := C1 _ hS; go_simp)⟩) k0 ?_
  try simp only [Go.Act.put, List.setIfInBounds_toArray, List.set_cons_zero, List.set_cons_succ]
  refine wpL_takeY (i := 6) (v := (.pointer (some ⟨q, 0, none⟩))) (some 12) rfl rfl (by kernel_rfl) (by kernel_rfl) (by kernel_rfl) (by decide) (fun _ _ _ h => h) (Or.inl ⟨by rfl, fun w' hS => (by go_simp)⟩) (fun _ => k0) ?_
  try simp only [Go.Act.put, List.setIfInBounds_toArray, List.set_cons_zero, List.set_cons_succ]
  refine wpL_takeY (i := 7) (v := (.pointer (some ⟨q, 3, none⟩))) (some 13) rfl rfl (by kernel_rfl) (by kernel_rfl) (by kernel_rfl) (by decide) (fun _ _ _ h => h) (Or.inl ⟨by rfl, fun w' hS => (by go_simp)⟩) (fun _ => k0) ?_
  try simp only [Go.Act.put, List.setIfInBounds_toArray, List.set_cons_zero, List.set_cons_succ]
  refine wpL_take (i := 8) (v := (.pointer (some ⟨q, 4, none⟩))) (some 14) rfl rfl (by kernel_rfl) (by kernel_rfl) (by kernel_rfl) (by kernel_rfl) (by kernel_rfl) (by decide) (fun _ _ _ h => h) (Or.inl ⟨by rfl, fun w' hS => (by go_simp)⟩) k0 ?_
  try simp only [Go.Act.put, List.setIfInBounds_toArray, List.set_cons_zero, List.set_cons_succ]
  refine wpL_ready (rs := [9]) (by kernel_rfl) (by simp) (AllL.cons (o := { dst := none, op := Op.store 66 (Operand.tmp 14) (Operand.tmp 11), type := 0, pos := _, after := #[{ on := 8, ground := Ground.data }, { on := 5, ground := Ground.data }, { on := 0, ground := Ground.phase }, { on := 1, ground := Ground.phase }, { on := 2, ground := Ground.phase }, { on := 3, ground := Ground.phase }, { on := 4, ground := Ground.phase }, { on := 5, ground := Ground.phase }], guard := none }) rfl (fun K' hK => ?_) AllL.nil)
  rw [if_pos (by rfl)]
  go_simp
  refine hK.out _ _ (fun h => absurd h (by decide)) ?_
  clear hK
  try simp only [Go.Act.put, List.setIfInBounds_toArray, List.set_cons_zero, List.set_cons_succ]
  refine wpL_done (by kernel_rfl) ?_ _
  go_wp2
  go_end0
  exact ⟨rfl, HX.out⟩
set_option maxHeartbeats 1000000 in
theorem add2n (f : Option Nat) (hr : w.heap[rb]? = some (.cells #[pv f, pv (none)] 82 (0, 0))) (hq : isCh w q) : Calls Try.prog 41 #[PT rb, .int .i64 2, PT q] w fun e w' => e = .returned (.tuple #[]) ∧ AdE w w' 2 rb q f (none) := by
  have HX := hid (ad_none (k := 2) (by omega) hr hq)
  have hne : q ≠ rb := fun e => by obtain ⟨x, a, b, h⟩ := hq; rw [e, hr] at h; simp at h
  have hql : q < w.heap.size := by obtain ⟨x, a, b, h⟩ := hq; exact block_lt h
  have hrl := block_lt hr
  have C1 : ∀ w', Touch [] w w' → w'.cell? ⟨rb, 1, none⟩ = some (.pointer none) := fun w' t => cell_at (t.keep hr (by simp)) rfl
  have fq : ∀ j, w.frozen? ⟨q, j, none⟩ = false := by obtain ⟨x, a, b, h⟩ := hq; exact froz_at h
  have fr : ∀ j, w.frozen? ⟨rb, j, none⟩ = false := froz_at hr
  have c1 := C1 w (Touch.refl _ _)
  have c0 := cell_at (j := 0) (v := pv f) hr rfl
  obtain ⟨vq, cq⟩ : ∃ v, w.cell? ⟨q, 5, none⟩ = some v := by obtain ⟨x, a, b, h⟩ := hq; exact ⟨_, cell_at h rfl⟩
  clear hr hq
  have k0 : Touch [] w w.drew := (Touch.refl _ _).drew
  unfold PT at *
  go_enter Try.func41, Try.ntmps41
  go_upto_region 0 with fail
  refine wp_region_L (S := fun w' => Touch [] w w') (st := 9) (by kernel_rfl) ?_
  refine wpL_take (i := 0) (v := (.pointer (some ⟨q, 0, none⟩))) (some 6) rfl rfl (by kernel_rfl) (by kernel_rfl) (by kernel_rfl) (by kernel_rfl) (by kernel_rfl) (by decide) (fun _ _ _ h => h) (Or.inl ⟨by rfl, fun w' hS => (by go_simp)⟩) k0 ?_
  try simp only [Go.Act.put, List.setIfInBounds_toArray, List.set_cons_zero, List.set_cons_succ]
  refine wpL_take (i := 1) (v := (.int .i64 2)) (some 7) rfl rfl (by kernel_rfl) (by kernel_rfl) (by kernel_rfl) (by kernel_rfl) (by kernel_rfl) (by decide) (fun _ _ _ h => h) (Or.inl ⟨by rfl, fun w' hS => (by go_simp)⟩) k0 ?_
  try simp only [Go.Act.put, List.setIfInBounds_toArray, List.set_cons_zero, List.set_cons_succ]
  refine wpL_take (i := 2) (v := (.pointer (some ⟨rb, 0, none⟩))) (some 8) rfl rfl (by kernel_rfl) (by kernel_rfl) (by kernel_rfl) (by kernel_rfl) (by kernel_rfl) (by decide) (fun _ _ _ h => h) (Or.inl ⟨by rfl, fun w' hS => (by go_simp)⟩) k0 ?_
  try simp only [Go.Act.put, List.setIfInBounds_toArray, List.set_cons_zero, List.set_cons_succ]
  refine wpL_take (i := 3) (v := (.pointer (some ⟨rb, 0, none⟩))) (some 9) rfl rfl (by kernel_rfl) (by kernel_rfl) (by kernel_rfl) (by kernel_rfl) (by kernel_rfl) (by decide) (fun _ _ _ h => h) (Or.inl ⟨by rfl, fun w' hS => (by go_simp)⟩) k0 ?_
  try simp only [Go.Act.put, List.setIfInBounds_toArray, List.set_cons_zero, List.set_cons_succ]
  refine wpL_take (i := 4) (v := (.pointer (some ⟨rb, 1, none⟩))) (some 10) rfl rfl (by kernel_rfl) (by kernel_rfl) (by kernel_rfl) (by kernel_rfl) (by kernel_rfl) (by decide) (fun _ _ _ h => h) (Or.inl ⟨by rfl, fun w' hS => (by go_simp)⟩) k0 ?_
  try simp only [Go.Act.put, List.setIfInBounds_toArray, List.set_cons_zero, List.set_cons_succ]
  refine wpL_take (i := 5) (v := (.pointer none)) (some 11) rfl rfl (by kernel_rfl) (by kernel_rfl) (by kernel_rfl) (by kernel_rfl) (by kernel_rfl) (by decide) (fun _ _ _ h => h) (Or.inl ⟨by rfl, fun w' hS => (by have z0 := C1 _ hS; go_simp)⟩) k0 ?_
  try simp only [Go.Act.put, List.setIfInBounds_toArray, List.set_cons_zero, List.set_cons_succ]
  refine wpL_takeY (i := 6) (v := (.pointer (some ⟨q, 0, none⟩))) (some 12) rfl rfl (by kernel_rfl) (by kernel_rfl) (by kernel_rfl) (by decide) (fun _ _ _ h => h) (Or.inl ⟨by rfl, fun w' hS => (by go_simp)⟩) (fun _ => k0) ?_
  try simp only [Go.Act.put, List.setIfInBounds_toArray, List.set_cons_zero, List.set_cons_succ]
  refine wpL_takeY (i := 7) (v := (.pointer (some ⟨q, 3, none⟩))) (some 13) rfl rfl (by kernel_rfl) (by kernel_rfl) (by kernel_rfl) (by decide) (fun _ _ _ h => h) (Or.inl ⟨by rfl, fun w' hS => (by go_simp)⟩) (fun _ => k0) ?_
  try simp only [Go.Act.put, List.setIfInBounds_toArray, List.set_cons_zero, List.set_cons_succ]
  refine wpL_take (i := 8) (v := (.pointer (some ⟨q, 5, none⟩))) (some 14) rfl rfl (by kernel_rfl) (by kernel_rfl) (by kernel_rfl) (by kernel_rfl) (by kernel_rfl) (by decide) (fun _ _ _ h => h) (Or.inl ⟨by rfl, fun w' hS => (by go_simp)⟩) k0 ?_
  try simp only [Go.Act.put, List.setIfInBounds_toArray, List.set_cons_zero, List.set_cons_succ]
  refine wpL_ready (rs := [9]) (by kernel_rfl) (by simp) (AllL.cons (o := { dst := none, op := Op.store 66 (Operand.tmp 14) (Operand.tmp 11), type := 0, pos := _, after := #[{ on := 8, ground := Ground.data }, { on := 5, ground := Ground.data }, { on := 0, ground := Ground.phase }, { on := 1, ground := Ground.phase }, { on := 2, ground := Ground.phase }, { on := 3, ground := Ground.phase }, { on := 4, ground := Ground.phase }, { on := 5, ground := Ground.phase }], guard := none }) rfl (fun K' hK => ?_) AllL.nil)
  rw [if_pos (by rfl)]
  go_simp
  refine hK.out _ _ (fun h => absurd h (by decide)) ?_
  clear hK
  try simp only [Go.Act.put, List.setIfInBounds_toArray, List.set_cons_zero, List.set_cons_succ]
  refine wpL_done (by kernel_rfl) ?_ _
  go_wp2
  go_end0
  exact ⟨rfl, HX.out⟩
set_option maxHeartbeats 1000000 in
theorem add2s (f : Option Nat) (p : Nat) (hr : w.heap[rb]? = some (.cells #[pv f, pv (some p)] 82 (0, 0))) (hq : isCh w q) (hp : isCh w p) (hn : p ≠ q) : Calls Try.prog 41 #[PT rb, .int .i64 2, PT q] w fun e w' => e = .returned (.tuple #[]) ∧ AdE w w' 2 rb q f (some p) := by
  have HX := hid (ad_some (k := 2) (by omega) hr hq hp hn)
  have hne : q ≠ rb := fun e => by obtain ⟨x, a, b, h⟩ := hq; rw [e, hr] at h; simp at h
  have hql : q < w.heap.size := by obtain ⟨x, a, b, h⟩ := hq; exact block_lt h
  have hrl := block_lt hr
  have C1 : ∀ w', Touch [] w w' → w'.cell? ⟨rb, 1, none⟩ = some (.pointer (some ⟨p, 0, none⟩)) := fun w' t => cell_at (t.keep hr (by simp)) rfl
  have fq : ∀ j, w.frozen? ⟨q, j, none⟩ = false := by obtain ⟨x, a, b, h⟩ := hq; exact froz_at h
  have fr : ∀ j, w.frozen? ⟨rb, j, none⟩ = false := froz_at hr
  have c1 := C1 w (Touch.refl _ _)
  have c0 := cell_at (j := 0) (v := pv f) hr rfl
  obtain ⟨vq, cq⟩ : ∃ v, w.cell? ⟨q, 5, none⟩ = some v := by obtain ⟨x, a, b, h⟩ := hq; exact ⟨_, cell_at h rfl⟩
  obtain ⟨vp, cp⟩ : ∃ v, w.cell? ⟨p, 8, none⟩ = some v := by obtain ⟨x, a, b, h⟩ := hp; exact ⟨_, cell_at h rfl⟩
  have fp : ∀ j, w.frozen? ⟨p, j, none⟩ = false := by obtain ⟨x, a, b, h⟩ := hp; exact froz_at h
  have hne2 : p ≠ rb := fun e => by obtain ⟨x, a, b, h⟩ := hp; rw [e, hr] at h; simp at h
  clear hp
  clear hr hq
  have k0 : Touch [] w w.drew := (Touch.refl _ _).drew
  unfold PT at *
  go_enter Try.func41, Try.ntmps41
  go_upto_region 0 with fail
  refine wp_region_L (S := fun w' => Touch [] w w') (st := 9) (by kernel_rfl) ?_
  refine wpL_take (i := 0) (v := (.pointer (some ⟨q, 0, none⟩))) (some 6) rfl rfl (by kernel_rfl) (by kernel_rfl) (by kernel_rfl) (by kernel_rfl) (by kernel_rfl) (by decide) (fun _ _ _ h => h) (Or.inl ⟨by rfl, fun w' hS => (by go_simp)⟩) k0 ?_
  try simp only [Go.Act.put, List.setIfInBounds_toArray, List.set_cons_zero, List.set_cons_succ]
  refine wpL_take (i := 1) (v := (.int .i64 2)) (some 7) rfl rfl (by kernel_rfl) (by kernel_rfl) (by kernel_rfl) (by kernel_rfl) (by kernel_rfl) (by decide) (fun _ _ _ h => h) (Or.inl ⟨by rfl, fun w' hS => (by go_simp)⟩) k0 ?_
  try simp only [Go.Act.put, List.setIfInBounds_toArray, List.set_cons_zero, List.set_cons_succ]
  refine wpL_take (i := 2) (v := (.pointer (some ⟨rb, 0, none⟩))) (some 8) rfl rfl (by kernel_rfl) (by kernel_rfl) (by kernel_rfl) (by kernel_rfl) (by kernel_rfl) (by decide) (fun _ _ _ h => h) (Or.inl ⟨by rfl, fun w' hS => (by go_simp)⟩) k0 ?_
  try simp only [Go.Act.put, List.setIfInBounds_toArray, List.set_cons_zero, List.set_cons_succ]
  refine wpL_take (i := 3) (v := (.pointer (some ⟨rb, 0, none⟩))) (some 9) rfl rfl (by kernel_rfl) (by kernel_rfl) (by kernel_rfl) (by kernel_rfl) (by kernel_rfl) (by decide) (fun _ _ _ h => h) (Or.inl ⟨by rfl, fun w' hS => (by go_simp)⟩) k0 ?_
  try simp only [Go.Act.put, List.setIfInBounds_toArray, List.set_cons_zero, List.set_cons_succ]
  refine wpL_take (i := 4) (v := (.pointer (some ⟨rb, 1, none⟩))) (some 10) rfl rfl (by kernel_rfl) (by kernel_rfl) (by kernel_rfl) (by kernel_rfl) (by kernel_rfl) (by decide) (fun _ _ _ h => h) (Or.inl ⟨by rfl, fun w' hS => (by go_simp)⟩) k0 ?_
  try simp only [Go.Act.put, List.setIfInBounds_toArray, List.set_cons_zero, List.set_cons_succ]
  refine wpL_take (i := 5) (v := (.pointer (some ⟨p, 0, none⟩))) (some 11) rfl rfl (by kernel_rfl) (by kernel_rfl) (by kernel_rfl) (by kernel_rfl) (by kernel_rfl) (by decide) (fun _ _ _ h => h) (Or.inl ⟨by rfl, fun w' hS => (by have z0 := C1 _ hS; go_simp)⟩) k0 ?_
  try simp only [Go.Act.put, List.setIfInBounds_toArray, List.set_cons_zero, List.set_cons_succ]
  refine wpL_takeY (i := 6) (v := (.pointer (some ⟨q, 0, none⟩))) (some 12) rfl rfl (by kernel_rfl) (by kernel_rfl) (by kernel_rfl) (by decide) (fun _ _ _ h => h) (Or.inl ⟨by rfl, fun w' hS => (by go_simp)⟩) (fun _ => k0) ?_
  try simp only [Go.Act.put, List.setIfInBounds_toArray, List.set_cons_zero, List.set_cons_succ]
  refine wpL_takeY (i := 7) (v := (.pointer (some ⟨q, 3, none⟩))) (some 13) rfl rfl (by kernel_rfl) (by kernel_rfl) (by kernel_rfl) (by decide) (fun _ _ _ h => h) (Or.inl ⟨by rfl, fun w' hS => (by go_simp)⟩) (fun _ => k0) ?_
  try simp only [Go.Act.put, List.setIfInBounds_toArray, List.set_cons_zero, List.set_cons_succ]
  refine wpL_take (i := 8) (v := (.pointer (some ⟨q, 5, none⟩))) (some 14) rfl rfl (by kernel_rfl) (by kernel_rfl) (by kernel_rfl) (by kernel_rfl) (by kernel_rfl) (by decide) (fun _ _ _ h => h) (Or.inl ⟨by rfl, fun w' hS => (by go_simp)⟩) k0 ?_
  try simp only [Go.Act.put, List.setIfInBounds_toArray, List.set_cons_zero, List.set_cons_succ]
  refine wpL_ready (rs := [9]) (by kernel_rfl) (by simp) (AllL.cons (o := { dst := none, op := Op.store 66 (Operand.tmp 14) (Operand.tmp 11), type := 0, pos := _, after := #[{ on := 8, ground := Ground.data }, { on := 5, ground := Ground.data }, { on := 0, ground := Ground.phase }, { on := 1, ground := Ground.phase }, { on := 2, ground := Ground.phase }, { on := 3, ground := Ground.phase }, { on := 4, ground := Ground.phase }, { on := 5, ground := Ground.phase }], guard := none }) rfl (fun K' hK => ?_) AllL.nil)
  rw [if_pos (by rfl)]
  go_simp
  refine hK.out _ _ (fun h => absurd h (by decide)) ?_
  clear hK
  try simp only [Go.Act.put, List.setIfInBounds_toArray, List.set_cons_zero, List.set_cons_succ]
  refine wpL_done (by kernel_rfl) ?_ _
  go_wp2
  go_end0
  exact ⟨rfl, HX.out⟩
theorem add_ (k : Nat) (hk : k < 3) (f l : Option Nat) (hr : w.heap[rb]? = some (.cells #[pv f, pv l] 82 (0, 0))) (hq : isCh w q) (hp : ∀ p, l = some p → isCh w p ∧ p ≠ q) : Calls Try.prog 41 #[PT rb, .int .i64 (k : Int), PT q] w fun e w' => e = .returned (.tuple #[]) ∧ AdE w w' k rb q f l := by
  cases l with
  | none =>
    match k, hk with
    | 0, _ => exact add0n w rb q f hr hq
    | 1, _ => exact add1n w rb q f hr hq
    | 2, _ => exact add2n w rb q f hr hq
  | some p =>
    obtain ⟨h1, h2⟩ := hp p rfl
    match k, hk with
    | 0, _ => exact add0s w rb q f p hr hq h1 h2
    | 1, _ => exact add1s w rb q f p hr hq h1 h2
    | 2, _ => exact add2s w rb q f p hr hq h1 h2
set_option maxHeartbeats 1000000 in
theorem rem0nn (f l : Option Nat) (x : Se) (A B : Nat → Option Nat) (hr : w.heap[rb]? = some (.cells #[pv f, pv l] 82 (0, 0))) (hq : w.heap[q]? = some (.cells (chc x A B) 69 (0, 0))) (eA : A 0 = none) (eB : B 0 = none) : Calls Try.prog 40 #[PT rb, .int .i64 0, PT q] w fun e w' => e = .returned (.tuple #[]) ∧ RmE w w' 0 rb q f l (none) (none) := by
  have HX : Hid (∀ n, RmE w (rm2 (rm1 (w.drewN n) 0 rb (none) (none)) 0 rb (none) (none)) 0 rb q f l (none) (none)) := hid (fun n => rm_made (by omega) ((Touch.refl _ _).drewN n) hr (fun z e => (by cases e)) (fun z e => (by cases e)) (fun z e e2 => (by cases e)))
  have c3 := cell_at (j := 3) (v := .pointer none) hq (by have := chc_a (x := x) (a := A) (b := B) (k := 0) (by omega); rw [eA] at this; exact this)
  have c6 := cell_at (j := 6) (v := .pointer none) hq (by have := chc_b (x := x) (a := A) (b := B) (k := 0) (by omega); rw [eB] at this; exact this)
  have fr : ∀ j, w.frozen? ⟨rb, j, none⟩ = false := froz_at hr
  have r0 := cell_at (j := 0) (v := pv f) hr rfl
  have r1 := cell_at (j := 1) (v := pv l) hr rfl
  clear hr hq eA eB
  unfold rm2 rm1 pv at HX
  simp only [Option.map_none, Option.map_some] at HX
  unfold PT at *
  go_enter Try.func40, Try.ntmps40
  go_upto_region 0 with fail
  go_quiet (fail)
  go_wp2
  go_end0
  exact ⟨rfl, HX.out _⟩
set_option maxHeartbeats 1000000 in
theorem rem0ns (f l : Option Nat) (r : Nat) (x : Se) (A B : Nat → Option Nat) (hr : w.heap[rb]? = some (.cells #[pv f, pv l] 82 (0, 0))) (hq : w.heap[q]? = some (.cells (chc x A B) 69 (0, 0))) (eA : A 0 = none) (eB : B 0 = some r) (hrr : isCh w r) : Calls Try.prog 40 #[PT rb, .int .i64 0, PT q] w fun e w' => e = .returned (.tuple #[]) ∧ RmE w w' 0 rb q f l (none) (some r) := by
  have HX : Hid (∀ n, RmE w (rm2 (rm1 (w.drewN n) 0 rb (none) (some r)) 0 rb (none) (some r)) 0 rb q f l (none) (some r)) := hid (fun n => rm_made (by omega) ((Touch.refl _ _).drewN n) hr (fun z e => (by cases e)) (fun z e => by cases e; exact hrr) (fun z e e2 => (by cases e)))
  have c3 := cell_at (j := 3) (v := .pointer none) hq (by have := chc_a (x := x) (a := A) (b := B) (k := 0) (by omega); rw [eA] at this; exact this)
  have c6 := cell_at (j := 6) (v := .pointer (some ⟨r, 0, none⟩)) hq (by have := chc_b (x := x) (a := A) (b := B) (k := 0) (by omega); rw [eB] at this; exact this)
  have fr : ∀ j, w.frozen? ⟨rb, j, none⟩ = false := froz_at hr
  have r0 := cell_at (j := 0) (v := pv f) hr rfl
  have r1 := cell_at (j := 1) (v := pv l) hr rfl
  have fr2 : ∀ j, w.frozen? ⟨r, j, none⟩ = false := by obtain ⟨x, a, b, h⟩ := hrr; exact froz_at h
  obtain ⟨vr, cr⟩ : ∃ v, w.cell? ⟨r, 3, none⟩ = some v := by obtain ⟨x, a, b, h⟩ := hrr; exact ⟨_, cell_at h rfl⟩
  clear hrr hr hq eA eB
  unfold rm2 rm1 pv at HX
  simp only [Option.map_none, Option.map_some] at HX
  unfold PT at *
  go_enter Try.func40, Try.ntmps40
  go_upto_region 0 with fail
  go_quiet (fail)
  go_wp2
  go_end0
  exact ⟨rfl, HX.out _⟩
set_option maxHeartbeats 1000000 in
theorem rem0sn (f l : Option Nat) (p : Nat) (x : Se) (A B : Nat → Option Nat) (hr : w.heap[rb]? = some (.cells #[pv f, pv l] 82 (0, 0))) (hq : w.heap[q]? = some (.cells (chc x A B) 69 (0, 0))) (eA : A 0 = some p) (eB : B 0 = none) (hp : isCh w p) : Calls Try.prog 40 #[PT rb, .int .i64 0, PT q] w fun e w' => e = .returned (.tuple #[]) ∧ RmE w w' 0 rb q f l (some p) (none) := by
  have HX : Hid (∀ n, RmE w (rm2 (rm1 (w.drewN n) 0 rb (some p) (none)) 0 rb (some p) (none)) 0 rb q f l (some p) (none)) := hid (fun n => rm_made (by omega) ((Touch.refl _ _).drewN n) hr (fun z e => by cases e; exact hp) (fun z e => (by cases e)) (fun z e e2 => (by cases e2)))
  have c3 := cell_at (j := 3) (v := .pointer (some ⟨p, 0, none⟩)) hq (by have := chc_a (x := x) (a := A) (b := B) (k := 0) (by omega); rw [eA] at this; exact this)
  have c6 := cell_at (j := 6) (v := .pointer none) hq (by have := chc_b (x := x) (a := A) (b := B) (k := 0) (by omega); rw [eB] at this; exact this)
  have fr : ∀ j, w.frozen? ⟨rb, j, none⟩ = false := froz_at hr
  have r0 := cell_at (j := 0) (v := pv f) hr rfl
  have r1 := cell_at (j := 1) (v := pv l) hr rfl
  have fp2 : ∀ j, w.frozen? ⟨p, j, none⟩ = false := by obtain ⟨x, a, b, h⟩ := hp; exact froz_at h
  obtain ⟨vp, cp⟩ : ∃ v, w.cell? ⟨p, 6, none⟩ = some v := by obtain ⟨x, a, b, h⟩ := hp; exact ⟨_, cell_at h rfl⟩
  clear hp hr hq eA eB
  unfold rm2 rm1 pv at HX
  simp only [Option.map_none, Option.map_some] at HX
  unfold PT at *
  go_enter Try.func40, Try.ntmps40
  go_upto_region 0 with fail
  go_quiet (fail)
  go_wp2
  go_end0
  exact ⟨rfl, HX.out _⟩
set_option maxHeartbeats 1000000 in
theorem rem0ss (f l : Option Nat) (p : Nat) (r : Nat) (x : Se) (A B : Nat → Option Nat) (hr : w.heap[rb]? = some (.cells #[pv f, pv l] 82 (0, 0))) (hq : w.heap[q]? = some (.cells (chc x A B) 69 (0, 0))) (eA : A 0 = some p) (eB : B 0 = some r) (hp : isCh w p) (hrr : isCh w r) (hpr : p ≠ r) : Calls Try.prog 40 #[PT rb, .int .i64 0, PT q] w fun e w' => e = .returned (.tuple #[]) ∧ RmE w w' 0 rb q f l (some p) (some r) := by
  have HX : Hid (∀ n, RmE w (rm2 (rm1 (w.drewN n) 0 rb (some p) (some r)) 0 rb (some p) (some r)) 0 rb q f l (some p) (some r)) := hid (fun n => rm_made (by omega) ((Touch.refl _ _).drewN n) hr (fun z e => by cases e; exact hp) (fun z e => by cases e; exact hrr) (fun z e e2 => by cases e; cases e2; exact hpr rfl))
  have c3 := cell_at (j := 3) (v := .pointer (some ⟨p, 0, none⟩)) hq (by have := chc_a (x := x) (a := A) (b := B) (k := 0) (by omega); rw [eA] at this; exact this)
  have c6 := cell_at (j := 6) (v := .pointer (some ⟨r, 0, none⟩)) hq (by have := chc_b (x := x) (a := A) (b := B) (k := 0) (by omega); rw [eB] at this; exact this)
  have fr : ∀ j, w.frozen? ⟨rb, j, none⟩ = false := froz_at hr
  have r0 := cell_at (j := 0) (v := pv f) hr rfl
  have r1 := cell_at (j := 1) (v := pv l) hr rfl
  have fp2 : ∀ j, w.frozen? ⟨p, j, none⟩ = false := by obtain ⟨x, a, b, h⟩ := hp; exact froz_at h
  obtain ⟨vp, cp⟩ : ∃ v, w.cell? ⟨p, 6, none⟩ = some v := by obtain ⟨x, a, b, h⟩ := hp; exact ⟨_, cell_at h rfl⟩
  have fr2 : ∀ j, w.frozen? ⟨r, j, none⟩ = false := by obtain ⟨x, a, b, h⟩ := hrr; exact froz_at h
  obtain ⟨vr, cr⟩ : ∃ v, w.cell? ⟨r, 3, none⟩ = some v := by obtain ⟨x, a, b, h⟩ := hrr; exact ⟨_, cell_at h rfl⟩
  clear hp hrr hr hq eA eB
  unfold rm2 rm1 pv at HX
  simp only [Option.map_none, Option.map_some] at HX
  unfold PT at *
  go_enter Try.func40, Try.ntmps40
  go_upto_region 0 with fail
  go_quiet (fail)
  go_wp2
  go_end0
  exact ⟨rfl, HX.out _⟩
set_option maxHeartbeats 1000000 in
theorem rem1nn (f l : Option Nat) (x : Se) (A B : Nat → Option Nat) (hr : w.heap[rb]? = some (.cells #[pv f, pv l] 82 (0, 0))) (hq : w.heap[q]? = some (.cells (chc x A B) 69 (0, 0))) (eA : A 1 = none) (eB : B 1 = none) : Calls Try.prog 40 #[PT rb, .int .i64 1, PT q] w fun e w' => e = .returned (.tuple #[]) ∧ RmE w w' 1 rb q f l (none) (none) := by
  have HX : Hid (∀ n, RmE w (rm2 (rm1 (w.drewN n) 1 rb (none) (none)) 1 rb (none) (none)) 1 rb q f l (none) (none)) := hid (fun n => rm_made (by omega) ((Touch.refl _ _).drewN n) hr (fun z e => (by cases e)) (fun z e => (by cases e)) (fun z e e2 => (by cases e)))
  have c3 := cell_at (j := 4) (v := .pointer none) hq (by have := chc_a (x := x) (a := A) (b := B) (k := 1) (by omega); rw [eA] at this; exact this)
  have c6 := cell_at (j := 7) (v := .pointer none) hq (by have := chc_b (x := x) (a := A) (b := B) (k := 1) (by omega); rw [eB] at this; exact this)
  have fr : ∀ j, w.frozen? ⟨rb, j, none⟩ = false := froz_at hr
  have r0 := cell_at (j := 0) (v := pv f) hr rfl
  have r1 := cell_at (j := 1) (v := pv l) hr rfl
  clear hr hq eA eB
  unfold rm2 rm1 pv at HX
  simp only [Option.map_none, Option.map_some] at HX
  unfold PT at *
  go_enter Try.func40, Try.ntmps40
  go_upto_region 0 with fail
  go_quiet (fail)
  go_wp2
  go_end0
  exact ⟨rfl, HX.out _⟩
set_option maxHeartbeats 1000000 in
theorem rem1ns (f l : Option Nat) (r : Nat) (x : Se) (A B : Nat → Option Nat) (hr : w.heap[rb]? = some (.cells #[pv f, pv l] 82 (0, 0))) (hq : w.heap[q]? = some (.cells (chc x A B) 69 (0, 0))) (eA : A 1 = none) (eB : B 1 = some r) (hrr : isCh w r) : Calls Try.prog 40 #[PT rb, .int .i64 1, PT q] w fun e w' => e = .returned (.tuple #[]) ∧ RmE w w' 1 rb q f l (none) (some r) := by
  have HX : Hid (∀ n, RmE w (rm2 (rm1 (w.drewN n) 1 rb (none) (some r)) 1 rb (none) (some r)) 1 rb q f l (none) (some r)) := hid (fun n => rm_made (by omega) ((Touch.refl _ _).drewN n) hr (fun z e => (by cases e)) (fun z e => by cases e; exact hrr) (fun z e e2 => (by cases e)))
  have c3 := cell_at (j := 4) (v := .pointer none) hq (by have := chc_a (x := x) (a := A) (b := B) (k := 1) (by omega); rw [eA] at this; exact this)
  have c6 := cell_at (j := 7) (v := .pointer (some ⟨r, 0, none⟩)) hq (by have := chc_b (x := x) (a := A) (b := B) (k := 1) (by omega); rw [eB] at this; exact this)
  have fr : ∀ j, w.frozen? ⟨rb, j, none⟩ = false := froz_at hr
  have r0 := cell_at (j := 0) (v := pv f) hr rfl
  have r1 := cell_at (j := 1) (v := pv l) hr rfl
  have fr2 : ∀ j, w.frozen? ⟨r, j, none⟩ = false := by obtain ⟨x, a, b, h⟩ := hrr; exact froz_at h
  obtain ⟨vr, cr⟩ : ∃ v, w.cell? ⟨r, 4, none⟩ = some v := by obtain ⟨x, a, b, h⟩ := hrr; exact ⟨_, cell_at h rfl⟩
  clear hrr hr hq eA eB
  unfold rm2 rm1 pv at HX
  simp only [Option.map_none, Option.map_some] at HX
  unfold PT at *
  go_enter Try.func40, Try.ntmps40
  go_upto_region 0 with fail
  go_quiet (fail)
  go_wp2
  go_end0
  exact ⟨rfl, HX.out _⟩
set_option maxHeartbeats 1000000 in
theorem rem1sn (f l : Option Nat) (p : Nat) (x : Se) (A B : Nat → Option Nat) (hr : w.heap[rb]? = some (.cells #[pv f, pv l] 82 (0, 0))) (hq : w.heap[q]? = some (.cells (chc x A B) 69 (0, 0))) (eA : A 1 = some p) (eB : B 1 = none) (hp : isCh w p) : Calls Try.prog 40 #[PT rb, .int .i64 1, PT q] w fun e w' => e = .returned (.tuple #[]) ∧ RmE w w' 1 rb q f l (some p) (none) := by
  have HX : Hid (∀ n, RmE w (rm2 (rm1 (w.drewN n) 1 rb (some p) (none)) 1 rb (some p) (none)) 1 rb q f l (some p) (none)) := hid (fun n => rm_made (by omega) ((Touch.refl _ _).drewN n) hr (fun z e => by cases e; exact hp) (fun z e => (by cases e)) (fun z e e2 => (by cases e2)))
  have c3 := cell_at (j := 4) (v := .pointer (some ⟨p, 0, none⟩)) hq (by have := chc_a (x := x) (a := A) (b := B) (k := 1) (by omega); rw [eA] at this; exact this)
  have c6 := cell_at (j := 7) (v := .pointer none) hq (by have := chc_b (x := x) (a := A) (b := B) (k := 1) (by omega); rw [eB] at this; exact this)
  have fr : ∀ j, w.frozen? ⟨rb, j, none⟩ = false := froz_at hr
  have r0 := cell_at (j := 0) (v := pv f) hr rfl
  have r1 := cell_at (j := 1) (v := pv l) hr rfl
  have fp2 : ∀ j, w.frozen? ⟨p, j, none⟩ = false := by obtain ⟨x, a, b, h⟩ := hp; exact froz_at h
  obtain ⟨vp, cp⟩ : ∃ v, w.cell? ⟨p, 7, none⟩ = some v := by obtain ⟨x, a, b, h⟩ := hp; exact ⟨_, cell_at h rfl⟩
  clear hp hr hq eA eB
  unfold rm2 rm1 pv at HX
  simp only [Option.map_none, Option.map_some] at HX
  unfold PT at *
  go_enter Try.func40, Try.ntmps40
  go_upto_region 0 with fail
  go_quiet (fail)
  go_wp2
  go_end0
  exact ⟨rfl, HX.out _⟩
set_option maxHeartbeats 1000000 in
theorem rem1ss (f l : Option Nat) (p : Nat) (r : Nat) (x : Se) (A B : Nat → Option Nat) (hr : w.heap[rb]? = some (.cells #[pv f, pv l] 82 (0, 0))) (hq : w.heap[q]? = some (.cells (chc x A B) 69 (0, 0))) (eA : A 1 = some p) (eB : B 1 = some r) (hp : isCh w p) (hrr : isCh w r) (hpr : p ≠ r) : Calls Try.prog 40 #[PT rb, .int .i64 1, PT q] w fun e w' => e = .returned (.tuple #[]) ∧ RmE w w' 1 rb q f l (some p) (some r) := by
  have HX : Hid (∀ n, RmE w (rm2 (rm1 (w.drewN n) 1 rb (some p) (some r)) 1 rb (some p) (some r)) 1 rb q f l (some p) (some r)) := hid (fun n => rm_made (by omega) ((Touch.refl _ _).drewN n) hr (fun z e => by cases e; exact hp) (fun z e => by cases e; exact hrr) (fun z e e2 => by cases e; cases e2; exact hpr rfl))
  have c3 := cell_at (j := 4) (v := .pointer (some ⟨p, 0, none⟩)) hq (by have := chc_a (x := x) (a := A) (b := B) (k := 1) (by omega); rw [eA] at this; exact this)
  have c6 := cell_at (j := 7) (v := .pointer (some ⟨r, 0, none⟩)) hq (by have := chc_b (x := x) (a := A) (b := B) (k := 1) (by omega); rw [eB] at this; exact this)
  have fr : ∀ j, w.frozen? ⟨rb, j, none⟩ = false := froz_at hr
  have r0 := cell_at (j := 0) (v := pv f) hr rfl
  have r1 := cell_at (j := 1) (v := pv l) hr rfl
  have fp2 : ∀ j, w.frozen? ⟨p, j, none⟩ = false := by obtain ⟨x, a, b, h⟩ := hp; exact froz_at h
  obtain ⟨vp, cp⟩ : ∃ v, w.cell? ⟨p, 7, none⟩ = some v := by obtain ⟨x, a, b, h⟩ := hp; exact ⟨_, cell_at h rfl⟩
  have fr2 : ∀ j, w.frozen? ⟨r, j, none⟩ = false := by obtain ⟨x, a, b, h⟩ := hrr; exact froz_at h
  obtain ⟨vr, cr⟩ : ∃ v, w.cell? ⟨r, 4, none⟩ = some v := by obtain ⟨x, a, b, h⟩ := hrr; exact ⟨_, cell_at h rfl⟩
  clear hp hrr hr hq eA eB
  unfold rm2 rm1 pv at HX
  simp only [Option.map_none, Option.map_some] at HX
  unfold PT at *
  go_enter Try.func40, Try.ntmps40
  go_upto_region 0 with fail
  go_quiet (fail)
  go_wp2
  go_end0
  exact ⟨rfl, HX.out _⟩
set_option maxHeartbeats 1000000 in
theorem rem2nn (f l : Option Nat) (x : Se) (A B : Nat → Option Nat) (hr : w.heap[rb]? = some (.cells #[pv f, pv l] 82 (0, 0))) (hq : w.heap[q]? = some (.cells (chc x A B) 69 (0, 0))) (eA : A 2 = none) (eB : B 2 = none) : Calls Try.prog 40 #[PT rb, .int .i64 2, PT q] w fun e w' => e = .returned (.tuple #[]) ∧ RmE w w' 2 rb q f l (none) (none) := by
  have HX : Hid (∀ n, RmE w (rm2 (rm1 (w.drewN n) 2 rb (none) (none)) 2 rb (none) (none)) 2 rb q f l (none) (none)) := hid (fun n => rm_made (by omega) ((Touch.refl _ _).drewN n) hr (fun z e => (by cases e)) (fun z e => (by cases e)) (fun z e e2 => (by cases e)))
  have c3 := cell_at (j := 5) (v := .pointer none) hq (by have := chc_a (x := x) (a := A) (b := B) (k := 2) (by omega); rw [eA] at this; exact this)
  have c6 := cell_at (j := 8) (v := .pointer none) hq (by have := chc_b (x := x) (a := A) (b := B) (k := 2) (by omega); rw [eB] at this; exact this)
  have fr : ∀ j, w.frozen? ⟨rb, j, none⟩ = false := froz_at hr
  have r0 := cell_at (j := 0) (v := pv f) hr rfl
  have r1 := cell_at (j := 1) (v := pv l) hr rfl
  clear hr hq eA eB
  unfold rm2 rm1 pv at HX
  simp only [Option.map_none, Option.map_some] at HX
  unfold PT at *
  go_enter Try.func40, Try.ntmps40
  go_upto_region 0 with fail
  go_quiet (fail)
  go_wp2
  go_end0
  exact ⟨rfl, HX.out _⟩
set_option maxHeartbeats 1000000 in
theorem rem2ns (f l : Option Nat) (r : Nat) (x : Se) (A B : Nat → Option Nat) (hr : w.heap[rb]? = some (.cells #[pv f, pv l] 82 (0, 0))) (hq : w.heap[q]? = some (.cells (chc x A B) 69 (0, 0))) (eA : A 2 = none) (eB : B 2 = some r) (hrr : isCh w r) : Calls Try.prog 40 #[PT rb, .int .i64 2, PT q] w fun e w' => e = .returned (.tuple #[]) ∧ RmE w w' 2 rb q f l (none) (some r) := by
  have HX : Hid (∀ n, RmE w (rm2 (rm1 (w.drewN n) 2 rb (none) (some r)) 2 rb (none) (some r)) 2 rb q f l (none) (some r)) := hid (fun n => rm_made (by omega) ((Touch.refl _ _).drewN n) hr (fun z e => (by cases e)) (fun z e => by cases e; exact hrr) (fun z e e2 => (by cases e)))
  have c3 := cell_at (j := 5) (v := .pointer none) hq (by have := chc_a (x := x) (a := A) (b := B) (k := 2) (by omega); rw [eA] at this; exact this)
  have c6 := cell_at (j := 8) (v := .pointer (some ⟨r, 0, none⟩)) hq (by have := chc_b (x := x) (a := A) (b := B) (k := 2) (by omega); rw [eB] at this; exact this)
  have fr : ∀ j, w.frozen? ⟨rb, j, none⟩ = false := froz_at hr
  have r0 := cell_at (j := 0) (v := pv f) hr rfl
  have r1 := cell_at (j := 1) (v := pv l) hr rfl
  have fr2 : ∀ j, w.frozen? ⟨r, j, none⟩ = false := by obtain ⟨x, a, b, h⟩ := hrr; exact froz_at h
  obtain ⟨vr, cr⟩ : ∃ v, w.cell? ⟨r, 5, none⟩ = some v := by obtain ⟨x, a, b, h⟩ := hrr; exact ⟨_, cell_at h rfl⟩
  clear hrr hr hq eA eB
  unfold rm2 rm1 pv at HX
  simp only [Option.map_none, Option.map_some] at HX
  unfold PT at *
  go_enter Try.func40, Try.ntmps40
  go_upto_region 0 with fail
  go_quiet (fail)
  go_wp2
  go_end0
  exact ⟨rfl, HX.out _⟩
set_option maxHeartbeats 1000000 in
theorem rem2sn (f l : Option Nat) (p : Nat) (x : Se) (A B : Nat → Option Nat) (hr : w.heap[rb]? = some (.cells #[pv f, pv l] 82 (0, 0))) (hq : w.heap[q]? = some (.cells (chc x A B) 69 (0, 0))) (eA : A 2 = some p) (eB : B 2 = none) (hp : isCh w p) : Calls Try.prog 40 #[PT rb, .int .i64 2, PT q] w fun e w' => e = .returned (.tuple #[]) ∧ RmE w w' 2 rb q f l (some p) (none) := by
  have HX : Hid (∀ n, RmE w (rm2 (rm1 (w.drewN n) 2 rb (some p) (none)) 2 rb (some p) (none)) 2 rb q f l (some p) (none)) := hid (fun n => rm_made (by omega) ((Touch.refl _ _).drewN n) hr (fun z e => by cases e; exact hp) (fun z e => (by cases e)) (fun z e e2 => (by cases e2)))
  have c3 := cell_at (j := 5) (v := .pointer (some ⟨p, 0, none⟩)) hq (by have := chc_a (x := x) (a := A) (b := B) (k := 2) (by omega); rw [eA] at this; exact this)
  have c6 := cell_at (j := 8) (v := .pointer none) hq (by have := chc_b (x := x) (a := A) (b := B) (k := 2) (by omega); rw [eB] at this; exact this)
  have fr : ∀ j, w.frozen? ⟨rb, j, none⟩ = false := froz_at hr
  have r0 := cell_at (j := 0) (v := pv f) hr rfl
  have r1 := cell_at (j := 1) (v := pv l) hr rfl
  have fp2 : ∀ j, w.frozen? ⟨p, j, none⟩ = false := by obtain ⟨x, a, b, h⟩ := hp; exact froz_at h
  obtain ⟨vp, cp⟩ : ∃ v, w.cell? ⟨p, 8, none⟩ = some v := by obtain ⟨x, a, b, h⟩ := hp; exact ⟨_, cell_at h rfl⟩
  clear hp hr hq eA eB
  unfold rm2 rm1 pv at HX
  simp only [Option.map_none, Option.map_some] at HX
  unfold PT at *
  go_enter Try.func40, Try.ntmps40
  go_upto_region 0 with fail
  go_quiet (fail)
  go_wp2
  go_end0
  exact ⟨rfl, HX.out _⟩
set_option maxHeartbeats 1000000 in
theorem rem2ss (f l : Option Nat) (p : Nat) (r : Nat) (x : Se) (A B : Nat → Option Nat) (hr : w.heap[rb]? = some (.cells #[pv f, pv l] 82 (0, 0))) (hq : w.heap[q]? = some (.cells (chc x A B) 69 (0, 0))) (eA : A 2 = some p) (eB : B 2 = some r) (hp : isCh w p) (hrr : isCh w r) (hpr : p ≠ r) : Calls Try.prog 40 #[PT rb, .int .i64 2, PT q] w fun e w' => e = .returned (.tuple #[]) ∧ RmE w w' 2 rb q f l (some p) (some r) := by
  have HX : Hid (∀ n, RmE w (rm2 (rm1 (w.drewN n) 2 rb (some p) (some r)) 2 rb (some p) (some r)) 2 rb q f l (some p) (some r)) := hid (fun n => rm_made (by omega) ((Touch.refl _ _).drewN n) hr (fun z e => by cases e; exact hp) (fun z e => by cases e; exact hrr) (fun z e e2 => by cases e; cases e2; exact hpr rfl))
  have c3 := cell_at (j := 5) (v := .pointer (some ⟨p, 0, none⟩)) hq (by have := chc_a (x := x) (a := A) (b := B) (k := 2) (by omega); rw [eA] at this; exact this)
  have c6 := cell_at (j := 8) (v := .pointer (some ⟨r, 0, none⟩)) hq (by have := chc_b (x := x) (a := A) (b := B) (k := 2) (by omega); rw [eB] at this; exact this)
  have fr : ∀ j, w.frozen? ⟨rb, j, none⟩ = false := froz_at hr
  have r0 := cell_at (j := 0) (v := pv f) hr rfl
  have r1 := cell_at (j := 1) (v := pv l) hr rfl
  have fp2 : ∀ j, w.frozen? ⟨p, j, none⟩ = false := by obtain ⟨x, a, b, h⟩ := hp; exact froz_at h
  obtain ⟨vp, cp⟩ : ∃ v, w.cell? ⟨p, 8, none⟩ = some v := by obtain ⟨x, a, b, h⟩ := hp; exact ⟨_, cell_at h rfl⟩
  have fr2 : ∀ j, w.frozen? ⟨r, j, none⟩ = false := by obtain ⟨x, a, b, h⟩ := hrr; exact froz_at h
  obtain ⟨vr, cr⟩ : ∃ v, w.cell? ⟨r, 5, none⟩ = some v := by obtain ⟨x, a, b, h⟩ := hrr; exact ⟨_, cell_at h rfl⟩
  clear hp hrr hr hq eA eB
  unfold rm2 rm1 pv at HX
  simp only [Option.map_none, Option.map_some] at HX
  unfold PT at *
  go_enter Try.func40, Try.ntmps40
  go_upto_region 0 with fail
  go_quiet (fail)
  go_wp2
  go_end0
  exact ⟨rfl, HX.out _⟩
theorem rem_ (k : Nat) (hk : k < 3) (f l : Option Nat) (x : Se) (A B : Nat → Option Nat) (hr : w.heap[rb]? = some (.cells #[pv f, pv l] 82 (0, 0))) (hq : w.heap[q]? = some (.cells (chc x A B) 69 (0, 0))) (hp : ∀ p, A k = some p → isCh w p) (hrr : ∀ p, B k = some p → isCh w p) (hpr : ∀ p, A k = some p → B k ≠ some p) : Calls Try.prog 40 #[PT rb, .int .i64 (k : Int), PT q] w fun e w' => e = .returned (.tuple #[]) ∧ RmE w w' k rb q f l (A k) (B k) := by
  cases eA : A k with
  | none =>
    cases eB : B k with
    | none =>
      match k, hk with
      | 0, _ => exact rem0nn w rb q f l x A B hr hq eA eB
      | 1, _ => exact rem1nn w rb q f l x A B hr hq eA eB
      | 2, _ => exact rem2nn w rb q f l x A B hr hq eA eB
    | some r =>
      match k, hk with
      | 0, _ => exact rem0ns w rb q f l r x A B hr hq eA eB (hrr r eB)
      | 1, _ => exact rem1ns w rb q f l r x A B hr hq eA eB (hrr r eB)
      | 2, _ => exact rem2ns w rb q f l r x A B hr hq eA eB (hrr r eB)
  | some p =>
    cases eB : B k with
    | none =>
      match k, hk with
      | 0, _ => exact rem0sn w rb q f l p x A B hr hq eA eB (hp p eA)
      | 1, _ => exact rem1sn w rb q f l p x A B hr hq eA eB (hp p eA)
      | 2, _ => exact rem2sn w rb q f l p x A B hr hq eA eB (hp p eA)
    | some r =>
      have hne : p ≠ r := fun e => hpr p eA (by rw [eB, e])
      match k, hk with
      | 0, _ => exact rem0ss w rb q f l p r x A B hr hq eA eB (hp p eA) (hrr r eB) hne
      | 1, _ => exact rem1ss w rb q f l p r x A B hr hq eA eB (hp p eA) (hrr r eB) hne
      | 2, _ => exact rem2ss w rb q f l p r x A B hr hq eA eB (hp p eA) (hrr r eB) hne
end
end Go.Proofs.Ytlmmljmhfghlnaa
