/- The contracts of a row's add and remove: a chair is laid behind all others, a chair is taken out; no conditions but those that each states. -/
import Derived.Test.YtllchnancjgijaaGreatQa04
import Derived.Test.YtllchnancjgijaaGreatQa01
set_option linter.unusedVariables false
set_option linter.unusedSimpArgs false
set_option maxRecDepth 100000
namespace Go.Proofs.YtllchnancjgijaaGreat.Lv
open Go.RowKit Go.Maps Go.ChangeMaps
def isCh (w : World) (q : Nat) : Prop := ∃ x a b, w.heap[q]? = some (.cells (chc x a b) 238 (0, 0))
structure AdE (w w' : World) (k rb q : Nat) (f l : Option Nat) : Prop where
 row : w'.heap[rb]? = some (.cells #[pv (if l = none then some q else f), pv (some q)] 267 (0, 0))
 at_ : ∀ x a b, w.heap[q]? = some (.cells (chc x a b) 238 (0, 0)) → w'.heap[q]? = some (.cells (chc x (updN a k l) b) 238 (0, 0))
 be : ∀ p x a b, l = some p → w.heap[p]? = some (.cells (chc x a b) 238 (0, 0)) → w'.heap[p]? = some (.cells (chc x a (updN b k (some q))) 238 (0, 0))
 t : Touch (rb :: q :: l.toList) w w'
theorem _root_.Go.Proofs.YtllchnancjgijaaGreat.Touch.set1 (w : World) (b j : Nat) (v : Value) : Touch [b] w (w.setCell ⟨b, j, none⟩ v) := (Touch.refl _ _).setCell (Or.inl (by simp)) _
theorem _root_.Go.Proofs.YtllchnancjgijaaGreat.Touch.more {F G : List Nat} {a b c : World} (h : Touch F a b) (k : Touch G b c) (hs : ∀ i, i ∈ G → i ∈ F) : Touch F a c := h.trans k (fun i hi => Or.inl (hs i hi))
theorem ad_none {w : World} {k rb q : Nat} {f : Option Nat} (hk : k < 3) (hr : w.heap[rb]? = some (.cells #[pv f, pv none] 267 (0, 0))) (hq : isCh w q) :
  AdE w (((w.setCell ⟨q, 3 + k, none⟩ (.pointer none)).drew.setCell ⟨rb, 0, none⟩ (PT q)).setCell ⟨rb, 1, none⟩ (PT q)) k rb q f none := by
 have hne : q ≠ rb := fun e => by obtain ⟨x, a, b, h⟩ := hq; rw [e, hr] at h; simp at h
 have t1 : Touch [q] w (w.setCell ⟨q, 3 + k, none⟩ (.pointer none)).drew := (Touch.set1 w q _ _).drew
 have r1 := t1.keep hr (by simp; omega)
 have r2 := bset (i := 1) (bset (i := 0) r1 (PT q)) (PT q)
 have t2 : Touch [rb] (w.setCell ⟨q, 3 + k, none⟩ (.pointer none)).drew (((w.setCell ⟨q, 3 + k, none⟩ (.pointer none)).drew.setCell ⟨rb, 0, none⟩ (PT q)).setCell ⟨rb, 1, none⟩ (PT q)) := ((Touch.refl _ _).setCell (Or.inl (by simp)) _).setCell (Or.inl (by simp)) _
 refine ⟨by simpa [pv_some] using r2, fun x a b h => ?_, fun p x a b e => (by cases e), (t1.mono (fun i hi => by simp at hi; simp [hi])).more t2 (fun i hi => by simp at hi; simp [hi])⟩
 have h1 := bset (i := 3 + k) h (pv none)
 rw [chc_sa hk] at h1
 exact t2.keep h1 (by simp; exact hne)
theorem ad_some {w : World} {k rb q p : Nat} {f : Option Nat} (hk : k < 3) (hr : w.heap[rb]? = some (.cells #[pv f, pv (some p)] 267 (0, 0))) (hq : isCh w q) (hp : isCh w p) (hn : p ≠ q) :
  AdE w (((w.setCell ⟨q, 3 + k, none⟩ (PT p)).drew.setCell ⟨p, 6 + k, none⟩ (PT q)).setCell ⟨rb, 1, none⟩ (PT q)) k rb q f (some p) := by
 have hne : q ≠ rb := fun e => by obtain ⟨x, a, b, h⟩ := hq; rw [e, hr] at h; simp at h
 have hne2 : p ≠ rb := fun e => by obtain ⟨x, a, b, h⟩ := hp; rw [e, hr] at h; simp at h
 have t1 : Touch [q] w (w.setCell ⟨q, 3 + k, none⟩ (PT p)).drew := (Touch.set1 w q _ _).drew
 have t2 := Touch.set1 (w.setCell ⟨q, 3 + k, none⟩ (PT p)).drew p (6 + k) (PT q)
 have t3 := Touch.set1 ((w.setCell ⟨q, 3 + k, none⟩ (PT p)).drew.setCell ⟨p, 6 + k, none⟩ (PT q)) rb 1 (PT q)
 have r2 := bset (i := 1) (t2.keep (t1.keep hr (by simp; omega)) (by simp; omega)) (PT q)
 refine ⟨by simpa [pv_some] using r2, fun x a b h => ?_, fun p' x a b e h => ?_, ((t1.mono (fun i hi => by simp at hi; simp [hi])).more t2 (fun i hi => by simp at hi; simp [hi])).more t3 (fun i hi => by simp at hi; simp [hi])⟩
 ·have h1 := bset (i := 3 + k) h (pv (some p))
  rw [chc_sa hk] at h1
  exact t3.keep (t2.keep h1 (by simp; omega)) (by simp; exact hne)
 ·simp only [Option.some.injEq] at e
  subst e
  have h1 := bset (i := 6 + k) (t1.keep h (by simp; exact hn)) (pv (some q))
  rw [chc_sb hk] at h1
  exact t3.keep h1 (by simp; exact hne2)
structure RmE (w w' : World) (k rb q : Nat) (f l a b : Option Nat) : Prop where
 row : w'.heap[rb]? = some (.cells #[pv (if a = none then b else f), pv (if b = none then a else l)] 267 (0, 0))
 ah : ∀ p x a2 b2, a = some p → w.heap[p]? = some (.cells (chc x a2 b2) 238 (0, 0)) → w'.heap[p]? = some (.cells (chc x a2 (updN b2 k b)) 238 (0, 0))
 be : ∀ p x a2 b2, b = some p → w.heap[p]? = some (.cells (chc x a2 b2) 238 (0, 0)) → w'.heap[p]? = some (.cells (chc x (updN a2 k a) b2) 238 (0, 0))
 t : Touch (rb :: (a.toList ++ b.toList)) w w'
def rm1 (w : World) (k rb : Nat) (a b : Option Nat) : World := match a with | none => w.setCell ⟨rb, 0, none⟩ (pv b) | some p => w.setCell ⟨p, 6 + k, none⟩ (pv b)
def rm2 (w : World) (k rb : Nat) (a b : Option Nat) : World := match b with | none => w.setCell ⟨rb, 1, none⟩ (pv a) | some p => w.setCell ⟨p, 3 + k, none⟩ (pv a)
theorem rm_made {w w1 : World} {k rb q : Nat} {f l a b : Option Nat} (hk : k < 3) (t0 : Touch [] w w1) (hr : w.heap[rb]? = some (.cells #[pv f, pv l] 267 (0, 0))) (ha : ∀ p, a = some p → isCh w p) (hb : ∀ p, b = some p → isCh w p) (hab : ∀ p, a = some p → b ≠ some p) :
  RmE w (rm2 (rm1 w1 k rb a b) k rb a b) k rb q f l a b := by
 have hna : ∀ p, isCh w p → p ≠ rb := fun p hp e => by obtain ⟨x, a, b, h⟩ := hp; rw [e, hr] at h; simp at h
 have hr0 := t0.keep hr (by simp)
 have k0 : ∀ {p : Nat} {x : Se} {a b : Nat → Option Nat}, w.heap[p]? = some (.cells (chc x a b) 238 (0, 0)) → w1.heap[p]? = some (.cells (chc x a b) 238 (0, 0)) := fun h => t0.keep h (by simp)
 cases a with
 | none =>
  have t1 := Touch.set1 w1 rb 0 (pv b)
  have r1 := bset (i := 0) hr0 (pv b)
  cases b with
  | none =>
   have t2 := Touch.set1 (w1.setCell ⟨rb, 0, none⟩ (pv none)) rb 1 (pv none)
   refine ⟨by simpa [rm1, rm2] using bset (i := 1) r1 (pv none), fun p x a2 b2 e => (by cases e), fun p x a2 b2 e => (by cases e), ?_⟩
   exact ((t0.mono (fun _ e => by cases e)).more t1 (fun i hi => by simp at hi; simp [hi])).more t2 (fun i hi => by simp at hi; simp [hi])
  | some p =>
   have hp := hna p (hb p rfl)
   have t2 := Touch.set1 (w1.setCell ⟨rb, 0, none⟩ (pv (some p))) p (3 + k) (pv none)
   refine ⟨by simpa [rm1, rm2] using t2.keep r1 (by simp; omega), fun p x a2 b2 e => (by cases e), fun p' x a2 b2 e h => ?_, ?_⟩
   ·simp only [Option.some.injEq] at e
    subst e
    have h1 := bset (i := 3 + k) (t1.keep (k0 h) (by simp; exact hp)) (pv none)
    rw [chc_sa hk] at h1
    exact h1
   ·exact ((t0.mono (fun _ e => by cases e)).more t1 (fun i hi => by simp at hi; simp [hi])).more t2 (fun i hi => by simp at hi; simp [hi])
 | some p =>
  have hp := hna p (ha p rfl)
  have t1 := Touch.set1 w1 p (6 + k) (pv b)
  have r1 := t1.keep hr0 (by simp; omega)
  cases b with
  | none =>
   have t2 := Touch.set1 (w1.setCell ⟨p, 6 + k, none⟩ (pv none)) rb 1 (pv (some p))
   refine ⟨by simpa [rm1, rm2] using bset (i := 1) r1 (pv (some p)), fun p' x a2 b2 e h => ?_, fun p x a2 b2 e => (by cases e), ?_⟩
   ·simp only [Option.some.injEq] at e
    subst e
    have h1 := bset (i := 6 + k) (k0 h) (pv none)
    rw [chc_sb hk] at h1
    exact t2.keep h1 (by simp; exact hp)
   ·exact ((t0.mono (fun _ e => by cases e)).more t1 (fun i hi => by simp at hi; simp [hi])).more t2 (fun i hi => by simp at hi; simp [hi])
  | some r =>
   have hr' := hna r (hb r rfl)
   have hpr : p ≠ r := fun e => hab p rfl (by rw [e])
   have t2 := Touch.set1 (w1.setCell ⟨p, 6 + k, none⟩ (pv (some r))) r (3 + k) (pv (some p))
   refine ⟨by simpa [rm1, rm2] using t2.keep r1 (by simp; omega), fun p' x a2 b2 e h => ?_, fun p' x a2 b2 e h => ?_, ?_⟩
   ·simp only [Option.some.injEq] at e
    subst e
    have h1 := bset (i := 6 + k) (k0 h) (pv (some r))
    rw [chc_sb hk] at h1
    exact t2.keep h1 (by simp; exact hpr)
   ·simp only [Option.some.injEq] at e
    subst e
    have h1 := bset (i := 3 + k) (t1.keep (k0 h) (by simp; omega)) (pv (some p))
    rw [chc_sa hk] at h1
    exact h1
   ·exact ((t0.mono (fun _ e => by cases e)).more t1 (fun i hi => by simp at hi; simp [hi])).more t2 (fun i hi => by simp at hi; simp [hi])
section
variable (w : World) (rb q : Nat)
set_option maxHeartbeats 1000000 in
theorem add0n (f : Option Nat) (hr : w.heap[rb]? = some (.cells #[pv f, pv (none)] 267 (0, 0))) (hq : isCh w q) : Calls Tryz.prog 183 #[PT rb, .int .i64 0, PT q] w fun e w' => e = .returned (.tuple #[]) ∧ AdE w w' 0 rb q f (none) := by
 have HX := hid (ad_none (k := 0) (by omega) hr hq)
 have hne : q ≠ rb := fun e => by obtain ⟨x, a, b, h⟩ := hq; rw [e, hr] at h; simp at h
 have hql : q < w.heap.size := by obtain ⟨x, a, b, h⟩ := hq; exact block_lt h
 have hrl := block_lt hr
 have C1 : ∀ w', Touch [] w w' → w'.cell? ⟨rb, 1, none⟩ = some (.pointer none) := fun w' t => cell_at (t.keep hr (by simp)) rfl
 have fq : ∀ j, w.frozen? ⟨q, j, none⟩ = false := by obtain ⟨x, a, b, h⟩ := hq; exact froz_at h
 have fr : ∀ j, w.frozen? ⟨rb, j, none⟩ = false := froz_at hr
 have c1 := C1 w (Touch.refl _ _)
 have c0 := cell_at (j := 0) (v := pv f) hr rfl
 obtain ⟨vq, cq⟩ : ∃ v, w.cell? ⟨q, 3, none⟩ = some v := by obtain ⟨x, a, b, h⟩ := hq; exact ⟨_, cell_at h rfl⟩
 clear hr hq
 have k0 : Touch [] w w.drew := (Touch.refl _ _).drew
 unfold PT at *
 go_enter Tryz.func183, Tryz.ntmps183
 go_upto_region 0 with fail
 refine wp_region_L (S := fun w' => Touch [] w w') (st := 9) (by kernel_rfl) ?_
 refine wpL_take (i := 0) (v := (.pointer (some ⟨q, 0, none⟩))) (some 6) rfl rfl (by kernel_rfl) (by kernel_rfl) (by kernel_rfl) (by kernel_rfl) (by kernel_rfl) (by decide) (fun _ _ _ h => h) (Or.inl ⟨by rfl, fun w' hS => (by go_simp)⟩) k0 ?_
 try simp only [Go.Act.put, Zx, Zy, Zz]
 refine wpL_take (i := 1) (v := (.int .i64 0)) (some 7) rfl rfl (by kernel_rfl) (by kernel_rfl) (by kernel_rfl) (by kernel_rfl) (by kernel_rfl) (by decide) (fun _ _ _ h => h) (Or.inl ⟨by rfl, fun w' hS => (by go_simp)⟩) k0 ?_
 try simp only [Go.Act.put, Zx, Zy, Zz]
 refine wpL_take (i := 2) (v := (.pointer (some ⟨rb, 0, none⟩))) (some 8) rfl rfl (by kernel_rfl) (by kernel_rfl) (by kernel_rfl) (by kernel_rfl) (by kernel_rfl) (by decide) (fun _ _ _ h => h) (Or.inl ⟨by rfl, fun w' hS => (by go_simp)⟩) k0 ?_
 try simp only [Go.Act.put, Zx, Zy, Zz]
 refine wpL_take (i := 3) (v := (.pointer (some ⟨rb, 0, none⟩))) (some 9) rfl rfl (by kernel_rfl) (by kernel_rfl) (by kernel_rfl) (by kernel_rfl) (by kernel_rfl) (by decide) (fun _ _ _ h => h) (Or.inl ⟨by rfl, fun w' hS => (by go_simp)⟩) k0 ?_
 try simp only [Go.Act.put, Zx, Zy, Zz]
 refine wpL_take (i := 4) (v := (.pointer (some ⟨rb, 1, none⟩))) (some 10) rfl rfl (by kernel_rfl) (by kernel_rfl) (by kernel_rfl) (by kernel_rfl) (by kernel_rfl) (by decide) (fun _ _ _ h => h) (Or.inl ⟨by rfl, fun w' hS => (by go_simp)⟩) k0 ?_
 try simp only [Go.Act.put, Zx, Zy, Zz]
 refine wpL_take (i := 5) (v := (.pointer none)) (some 11) rfl rfl (by kernel_rfl) (by kernel_rfl) (by kernel_rfl) (by kernel_rfl) (by kernel_rfl) (by decide) (fun _ _ _ h => h) (Or.inl ⟨by rfl, fun w' hS => (by have z0 := C1 _ hS; go_simp)⟩) k0 ?_
 try simp only [Go.Act.put, Zx, Zy, Zz]
 refine wpL_takeY (i := 6) (v := (.pointer (some ⟨q, 0, none⟩))) (some 12) rfl rfl (by kernel_rfl) (by kernel_rfl) (by kernel_rfl) (by decide) (fun _ _ _ h => h) (Or.inl ⟨by rfl, fun w' hS => (by go_simp)⟩) (fun _ => k0) ?_
 try simp only [Go.Act.put, Zx, Zy, Zz]
 refine wpL_takeY (i := 7) (v := (.pointer (some ⟨q, 3, none⟩))) (some 13) rfl rfl (by kernel_rfl) (by kernel_rfl) (by kernel_rfl) (by decide) (fun _ _ _ h => h) (Or.inl ⟨by rfl, fun w' hS => (by go_simp)⟩) (fun _ => k0) ?_
 try simp only [Go.Act.put, Zx, Zy, Zz]
 refine wpL_take (i := 8) (v := (.pointer (some ⟨q, 3, none⟩))) (some 14) rfl rfl (by kernel_rfl) (by kernel_rfl) (by kernel_rfl) (by kernel_rfl) (by kernel_rfl) (by decide) (fun _ _ _ h => h) (Or.inl ⟨by rfl, fun w' hS => (by go_simp)⟩) k0 ?_
 try simp only [Go.Act.put, Zx, Zy, Zz]
 refine wpL_ready (rs := [9]) (by kernel_rfl) (by simp) (AllL.cons (o := { dst := none, op := Op.store 235 (Operand.tmp 14) (Operand.tmp 11), type := 0, pos := _, after := #[{ on := 8, ground := Ground.data }, { on := 5, ground := Ground.data }, { on := 0, ground := Ground.phase }, { on := 1, ground := Ground.phase }, { on := 2, ground := Ground.phase }, { on := 3, ground := Ground.phase }, { on := 4, ground := Ground.phase }, { on := 5, ground := Ground.phase }], guard := none }) rfl (fun K' hK => ?_) AllL.nil)
 rw [if_pos (by rfl)]
 go_simp
 refine hK.out _ _ (fun h => absurd h (by decide)) ?_
 clear hK
 try simp only [Go.Act.put, Zx, Zy, Zz]
 refine wpL_done (by kernel_rfl) ?_ _
 go_wp2
 go_end0
 exact ⟨rfl, HX.out⟩
set_option maxHeartbeats 1000000 in
theorem add0s (f : Option Nat) (p : Nat) (hr : w.heap[rb]? = some (.cells #[pv f, pv (some p)] 267 (0, 0))) (hq : isCh w q) (hp : isCh w p) (hn : p ≠ q) : Calls Tryz.prog 183 #[PT rb, .int .i64 0, PT q] w fun e w' => e = .returned (.tuple #[]) ∧ AdE w w' 0 rb q f (some p) := by
 have HX := hid (ad_some (k := 0) (by omega) hr hq hp hn)
 have hne : q ≠ rb := fun e => by obtain ⟨x, a, b, h⟩ := hq; rw [e, hr] at h; simp at h
 have hql : q < w.heap.size := by obtain ⟨x, a, b, h⟩ := hq; exact block_lt h
 have hrl := block_lt hr
 have C1 : ∀ w', Touch [] w w' → w'.cell? ⟨rb, 1, none⟩ = some (.pointer (some ⟨p, 0, none⟩)) := fun w' t => cell_at (t.keep hr (by simp)) rfl
 have fq : ∀ j, w.frozen? ⟨q, j, none⟩ = false := by obtain ⟨x, a, b, h⟩ := hq; exact froz_at h
 have fr : ∀ j, w.frozen? ⟨rb, j, none⟩ = false := froz_at hr
 have c1 := C1 w (Touch.refl _ _)
 have c0 := cell_at (j := 0) (v := pv f) hr rfl
 obtain ⟨vq, cq⟩ : ∃ v, w.cell? ⟨q, 3, none⟩ = some v := by obtain ⟨x, a, b, h⟩ := hq; exact ⟨_, cell_at h rfl⟩
 obtain ⟨vp, cp⟩ : ∃ v, w.cell? ⟨p, 6, none⟩ = some v := by obtain ⟨x, a, b, h⟩ := hp; exact ⟨_, cell_at h rfl⟩
 have fp : ∀ j, w.frozen? ⟨p, j, none⟩ = false := by obtain ⟨x, a, b, h⟩ := hp; exact froz_at h
 have hne2 : p ≠ rb := fun e => by obtain ⟨x, a, b, h⟩ := hp; rw [e, hr] at h; simp at h
 clear hp
 clear hr hq
 have k0 : Touch [] w w.drew := (Touch.refl _ _).drew
 unfold PT at *
 go_enter Tryz.func183, Tryz.ntmps183
 go_upto_region 0 with fail
 refine wp_region_L (S := fun w' => Touch [] w w') (st := 9) (by kernel_rfl) ?_
 refine wpL_take (i := 0) (v := (.pointer (some ⟨q, 0, none⟩))) (some 6) rfl rfl (by kernel_rfl) (by kernel_rfl) (by kernel_rfl) (by kernel_rfl) (by kernel_rfl) (by decide) (fun _ _ _ h => h) (Or.inl ⟨by rfl, fun w' hS => (by go_simp)⟩) k0 ?_
 try simp only [Go.Act.put, Zx, Zy, Zz]
 refine wpL_take (i := 1) (v := (.int .i64 0)) (some 7) rfl rfl (by kernel_rfl) (by kernel_rfl) (by kernel_rfl) (by kernel_rfl) (by kernel_rfl) (by decide) (fun _ _ _ h => h) (Or.inl ⟨by rfl, fun w' hS => (by go_simp)⟩) k0 ?_
 try simp only [Go.Act.put, Zx, Zy, Zz]
 refine wpL_take (i := 2) (v := (.pointer (some ⟨rb, 0, none⟩))) (some 8) rfl rfl (by kernel_rfl) (by kernel_rfl) (by kernel_rfl) (by kernel_rfl) (by kernel_rfl) (by decide) (fun _ _ _ h => h) (Or.inl ⟨by rfl, fun w' hS => (by go_simp)⟩) k0 ?_
 try simp only [Go.Act.put, Zx, Zy, Zz]
 refine wpL_take (i := 3) (v := (.pointer (some ⟨rb, 0, none⟩))) (some 9) rfl rfl (by kernel_rfl) (by kernel_rfl) (by kernel_rfl) (by kernel_rfl) (by kernel_rfl) (by decide) (fun _ _ _ h => h) (Or.inl ⟨by rfl, fun w' hS => (by go_simp)⟩) k0 ?_
 try simp only [Go.Act.put, Zx, Zy, Zz]
 refine wpL_take (i := 4) (v := (.pointer (some ⟨rb, 1, none⟩))) (some 10) rfl rfl (by kernel_rfl) (by kernel_rfl) (by kernel_rfl) (by kernel_rfl) (by kernel_rfl) (by decide) (fun _ _ _ h => h) (Or.inl ⟨by rfl, fun w' hS => (by go_simp)⟩) k0 ?_
 try simp only [Go.Act.put, Zx, Zy, Zz]
 refine wpL_take (i := 5) (v := (.pointer (some ⟨p, 0, none⟩))) (some 11) rfl rfl (by kernel_rfl) (by kernel_rfl) (by kernel_rfl) (by kernel_rfl) (by kernel_rfl) (by decide) (fun _ _ _ h => h) (Or.inl ⟨by rfl, fun w' hS => (by have z0 := C1 _ hS; go_simp)⟩) k0 ?_
 try simp only [Go.Act.put, Zx, Zy, Zz]
 refine wpL_takeY (i := 6) (v := (.pointer (some ⟨q, 0, none⟩))) (some 12) rfl rfl (by kernel_rfl) (by kernel_rfl) (by kernel_rfl) (by decide) (fun _ _ _ h => h) (Or.inl ⟨by rfl, fun w' hS => (by go_simp)⟩) (fun _ => k0) ?_
 try simp only [Go.Act.put, Zx, Zy, Zz]
 refine wpL_takeY (i := 7) (v := (.pointer (some ⟨q, 3, none⟩))) (some 13) rfl rfl (by kernel_rfl) (by kernel_rfl) (by kernel_rfl) (by decide) (fun _ _ _ h => h) (Or.inl ⟨by rfl, fun w' hS => (by go_simp)⟩) (fun _ => k0) ?_
 try simp only [Go.Act.put, Zx, Zy, Zz]
 refine wpL_take (i := 8) (v := (.pointer (some ⟨q, 3, none⟩))) (some 14) rfl rfl (by kernel_rfl) (by kernel_rfl) (by kernel_rfl) (by kernel_rfl) (by kernel_rfl) (by decide) (fun _ _ _ h => h) (Or.inl ⟨by rfl, fun w' hS => (by go_simp)⟩) k0 ?_
 try simp only [Go.Act.put, Zx, Zy, Zz]
 refine wpL_ready (rs := [9]) (by kernel_rfl) (by simp) (AllL.cons (o := { dst := none, op := Op.store 235 (Operand.tmp 14) (Operand.tmp 11), type := 0, pos := _, after := #[{ on := 8, ground := Ground.data }, { on := 5, ground := Ground.data }, { on := 0, ground := Ground.phase }, { on := 1, ground := Ground.phase }, { on := 2, ground := Ground.phase }, { on := 3, ground := Ground.phase }, { on := 4, ground := Ground.phase }, { on := 5, ground := Ground.phase }], guard := none }) rfl (fun K' hK => ?_) AllL.nil)
 rw [if_pos (by rfl)]
 go_simp
 refine hK.out _ _ (fun h => absurd h (by decide)) ?_
 clear hK
 try simp only [Go.Act.put, Zx, Zy, Zz]
 refine wpL_done (by kernel_rfl) ?_ _
 go_wp2
 go_end0
 exact ⟨rfl, HX.out⟩
set_option maxHeartbeats 1000000 in
theorem add1n (f : Option Nat) (hr : w.heap[rb]? = some (.cells #[pv f, pv (none)] 267 (0, 0))) (hq : isCh w q) : Calls Tryz.prog 183 #[PT rb, .int .i64 1, PT q] w fun e w' => e = .returned (.tuple #[]) ∧ AdE w w' 1 rb q f (none) := by
 have HX := hid (ad_none (k := 1) (by omega) hr hq)
 have hne : q ≠ rb := fun e => by obtain ⟨x, a, b, h⟩ := hq; rw [e, hr] at h; simp at h
 have hql : q < w.heap.size := by obtain ⟨x, a, b, h⟩ := hq; exact block_lt h
 have hrl := block_lt hr
 have C1 : ∀ w', Touch [] w w' → w'.cell? ⟨rb, 1, none⟩ = some (.pointer none) := fun w' t => cell_at (t.keep hr (by simp)) rfl
 have fq : ∀ j, w.frozen? ⟨q, j, none⟩ = false := by obtain ⟨x, a, b, h⟩ := hq; exact froz_at h
 have fr : ∀ j, w.frozen? ⟨rb, j, none⟩ = false := froz_at hr
 have c1 := C1 w (Touch.refl _ _)
 have c0 := cell_at (j := 0) (v := pv f) hr rfl
 obtain ⟨vq, cq⟩ : ∃ v, w.cell? ⟨q, 4, none⟩ = some v := by obtain ⟨x, a, b, h⟩ := hq; exact ⟨_, cell_at h rfl⟩
 clear hr hq
 have k0 : Touch [] w w.drew := (Touch.refl _ _).drew
 unfold PT at *
 go_enter Tryz.func183, Tryz.ntmps183
 go_upto_region 0 with fail
 refine wp_region_L (S := fun w' => Touch [] w w') (st := 9) (by kernel_rfl) ?_
 refine wpL_take (i := 0) (v := (.pointer (some ⟨q, 0, none⟩))) (some 6) rfl rfl (by kernel_rfl) (by kernel_rfl) (by kernel_rfl) (by kernel_rfl) (by kernel_rfl) (by decide) (fun _ _ _ h => h) (Or.inl ⟨by rfl, fun w' hS => (by go_simp)⟩) k0 ?_
 try simp only [Go.Act.put, Zx, Zy, Zz]
 refine wpL_take (i := 1) (v := (.int .i64 1)) (some 7) rfl rfl (by kernel_rfl) (by kernel_rfl) (by kernel_rfl) (by kernel_rfl) (by kernel_rfl) (by decide) (fun _ _ _ h => h) (Or.inl ⟨by rfl, fun w' hS => (by go_simp)⟩) k0 ?_
 try simp only [Go.Act.put, Zx, Zy, Zz]
 refine wpL_take (i := 2) (v := (.pointer (some ⟨rb, 0, none⟩))) (some 8) rfl rfl (by kernel_rfl) (by kernel_rfl) (by kernel_rfl) (by kernel_rfl) (by kernel_rfl) (by decide) (fun _ _ _ h => h) (Or.inl ⟨by rfl, fun w' hS => (by go_simp)⟩) k0 ?_
 try simp only [Go.Act.put, Zx, Zy, Zz]
 refine wpL_take (i := 3) (v := (.pointer (some ⟨rb, 0, none⟩))) (some 9) rfl rfl (by kernel_rfl) (by kernel_rfl) (by kernel_rfl) (by kernel_rfl) (by kernel_rfl) (by decide) (fun _ _ _ h => h) (Or.inl ⟨by rfl, fun w' hS => (by go_simp)⟩) k0 ?_
 try simp only [Go.Act.put, Zx, Zy, Zz]
 refine wpL_take (i := 4) (v := (.pointer (some ⟨rb, 1, none⟩))) (some 10) rfl rfl (by kernel_rfl) (by kernel_rfl) (by kernel_rfl) (by kernel_rfl) (by kernel_rfl) (by decide) (fun _ _ _ h => h) (Or.inl ⟨by rfl, fun w' hS => (by go_simp)⟩) k0 ?_
 try simp only [Go.Act.put, Zx, Zy, Zz]
 refine wpL_take (i := 5) (v := (.pointer none)) (some 11) rfl rfl (by kernel_rfl) (by kernel_rfl) (by kernel_rfl) (by kernel_rfl) (by kernel_rfl) (by decide) (fun _ _ _ h => h) (Or.inl ⟨by rfl, fun w' hS => (by have z0 := C1 _ hS; go_simp)⟩) k0 ?_
 try simp only [Go.Act.put, Zx, Zy, Zz]
 refine wpL_takeY (i := 6) (v := (.pointer (some ⟨q, 0, none⟩))) (some 12) rfl rfl (by kernel_rfl) (by kernel_rfl) (by kernel_rfl) (by decide) (fun _ _ _ h => h) (Or.inl ⟨by rfl, fun w' hS => (by go_simp)⟩) (fun _ => k0) ?_
 try simp only [Go.Act.put, Zx, Zy, Zz]
 refine wpL_takeY (i := 7) (v := (.pointer (some ⟨q, 3, none⟩))) (some 13) rfl rfl (by kernel_rfl) (by kernel_rfl) (by kernel_rfl) (by decide) (fun _ _ _ h => h) (Or.inl ⟨by rfl, fun w' hS => (by go_simp)⟩) (fun _ => k0) ?_
 try simp only [Go.Act.put, Zx, Zy, Zz]
 refine wpL_take (i := 8) (v := (.pointer (some ⟨q, 4, none⟩))) (some 14) rfl rfl (by kernel_rfl) (by kernel_rfl) (by kernel_rfl) (by kernel_rfl) (by kernel_rfl) (by decide) (fun _ _ _ h => h) (Or.inl ⟨by rfl, fun w' hS => (by go_simp)⟩) k0 ?_
 try simp only [Go.Act.put, Zx, Zy, Zz]
 refine wpL_ready (rs := [9]) (by kernel_rfl) (by simp) (AllL.cons (o := { dst := none, op := Op.store 235 (Operand.tmp 14) (Operand.tmp 11), type := 0, pos := _, after := #[{ on := 8, ground := Ground.data }, { on := 5, ground := Ground.data }, { on := 0, ground := Ground.phase }, { on := 1, ground := Ground.phase }, { on := 2, ground := Ground.phase }, { on := 3, ground := Ground.phase }, { on := 4, ground := Ground.phase }, { on := 5, ground := Ground.phase }], guard := none }) rfl (fun K' hK => ?_) AllL.nil)
 rw [if_pos (by rfl)]
 go_simp
 refine hK.out _ _ (fun h => absurd h (by decide)) ?_
 clear hK
 try simp only [Go.Act.put, Zx, Zy, Zz]
 refine wpL_done (by kernel_rfl) ?_ _
 go_wp2
 go_end0
 exact ⟨rfl, HX.out⟩
set_option maxHeartbeats 1000000 in
theorem add1s (f : Option Nat) (p : Nat) (hr : w.heap[rb]? = some (.cells #[pv f, pv (some p)] 267 (0, 0))) (hq : isCh w q) (hp : isCh w p) (hn : p ≠ q) : Calls Tryz.prog 183 #[PT rb, .int .i64 1, PT q] w fun e w' => e = .returned (.tuple #[]) ∧ AdE w w' 1 rb q f (some p) := by
 have HX := hid (ad_some (k := 1) (by omega) hr hq hp hn)
 have hne : q ≠ rb := fun e => by obtain ⟨x, a, b, h⟩ := hq; rw [e, hr] at h; simp at h
 have hql : q < w.heap.size := by obtain ⟨x, a, b, h⟩ := hq; exact block_lt h
 have hrl := block_lt hr
 have C1 : ∀ w', Touch [] w w' → w'.cell? ⟨rb, 1, none⟩ = some (.pointer (some ⟨p, 0, none⟩)) := fun w' t => cell_at (t.keep hr (by simp)) rfl
 have fq : ∀ j, w.frozen? ⟨q, j, none⟩ = false := by obtain ⟨x, a, b, h⟩ := hq; exact froz_at h
 have fr : ∀ j, w.frozen? ⟨rb, j, none⟩ = false := froz_at hr
 have c1 := C1 w (Touch.refl _ _)
 have c0 := cell_at (j := 0) (v := pv f) hr rfl
 obtain ⟨vq, cq⟩ : ∃ v, w.cell? ⟨q, 4, none⟩ = some v := by obtain ⟨x, a, b, h⟩ := hq; exact ⟨_, cell_at h rfl⟩
 obtain ⟨vp, cp⟩ : ∃ v, w.cell? ⟨p, 7, none⟩ = some v := by obtain ⟨x, a, b, h⟩ := hp; exact ⟨_, cell_at h rfl⟩
 have fp : ∀ j, w.frozen? ⟨p, j, none⟩ = false := by obtain ⟨x, a, b, h⟩ := hp; exact froz_at h
 have hne2 : p ≠ rb := fun e => by obtain ⟨x, a, b, h⟩ := hp; rw [e, hr] at h; simp at h
 clear hp
 clear hr hq
 have k0 : Touch [] w w.drew := (Touch.refl _ _).drew
 unfold PT at *
 go_enter Tryz.func183, Tryz.ntmps183
 go_upto_region 0 with fail
 refine wp_region_L (S := fun w' => Touch [] w w') (st := 9) (by kernel_rfl) ?_
 refine wpL_take (i := 0) (v := (.pointer (some ⟨q, 0, none⟩))) (some 6) rfl rfl (by kernel_rfl) (by kernel_rfl) (by kernel_rfl) (by kernel_rfl) (by kernel_rfl) (by decide) (fun _ _ _ h => h) (Or.inl ⟨by rfl, fun w' hS => (by go_simp)⟩) k0 ?_
 try simp only [Go.Act.put, Zx, Zy, Zz]
 refine wpL_take (i := 1) (v := (.int .i64 1)) (some 7) rfl rfl (by kernel_rfl) (by kernel_rfl) (by kernel_rfl) (by kernel_rfl) (by kernel_rfl) (by decide) (fun _ _ _ h => h) (Or.inl ⟨by rfl, fun w' hS => (by go_simp)⟩) k0 ?_
 try simp only [Go.Act.put, Zx, Zy, Zz]
 refine wpL_take (i := 2) (v := (.pointer (some ⟨rb, 0, none⟩))) (some 8) rfl rfl (by kernel_rfl) (by kernel_rfl) (by kernel_rfl) (by kernel_rfl) (by kernel_rfl) (by decide) (fun _ _ _ h => h) (Or.inl ⟨by rfl, fun w' hS => (by go_simp)⟩) k0 ?_
 try simp only [Go.Act.put, Zx, Zy, Zz]
 refine wpL_take (i := 3) (v := (.pointer (some ⟨rb, 0, none⟩))) (some 9) rfl rfl (by kernel_rfl) (by kernel_rfl) (by kernel_rfl) (by kernel_rfl) (by kernel_rfl) (by decide) (fun _ _ _ h => h) (Or.inl ⟨by rfl, fun w' hS => (by go_simp)⟩) k0 ?_
 try simp only [Go.Act.put, Zx, Zy, Zz]
 refine wpL_take (i := 4) (v := (.pointer (some ⟨rb, 1, none⟩))) (some 10) rfl rfl (by kernel_rfl) (by kernel_rfl) (by kernel_rfl) (by kernel_rfl) (by kernel_rfl) (by decide) (fun _ _ _ h => h) (Or.inl ⟨by rfl, fun w' hS => (by go_simp)⟩) k0 ?_
 try simp only [Go.Act.put, Zx, Zy, Zz]
 refine wpL_take (i := 5) (v := (.pointer (some ⟨p, 0, none⟩))) (some 11) rfl rfl (by kernel_rfl) (by kernel_rfl) (by kernel_rfl) (by kernel_rfl) (by kernel_rfl) (by decide) (fun _ _ _ h => h) (Or.inl ⟨by rfl, fun w' hS => (by have z0 := C1 _ hS; go_simp)⟩) k0 ?_
 try simp only [Go.Act.put, Zx, Zy, Zz]
 refine wpL_takeY (i := 6) (v := (.pointer (some ⟨q, 0, none⟩))) (some 12) rfl rfl (by kernel_rfl) (by kernel_rfl) (by kernel_rfl) (by decide) (fun _ _ _ h => h) (Or.inl ⟨by rfl, fun w' hS => (by go_simp)⟩) (fun _ => k0) ?_
 try simp only [Go.Act.put, Zx, Zy, Zz]
 refine wpL_takeY (i := 7) (v := (.pointer (some ⟨q, 3, none⟩))) (some 13) rfl rfl (by kernel_rfl) (by kernel_rfl) (by kernel_rfl) (by decide) (fun _ _ _ h => h) (Or.inl ⟨by rfl, fun w' hS => (by go_simp)⟩) (fun _ => k0) ?_
 try simp only [Go.Act.put, Zx, Zy, Zz]
 refine wpL_take (i := 8) (v := (.pointer (some ⟨q, 4, none⟩))) (some 14) rfl rfl (by kernel_rfl) (by kernel_rfl) (by kernel_rfl) (by kernel_rfl) (by kernel_rfl) (by decide) (fun _ _ _ h => h) (Or.inl ⟨by rfl, fun w' hS => (by go_simp)⟩) k0 ?_
 try simp only [Go.Act.put, Zx, Zy, Zz]
 refine wpL_ready (rs := [9]) (by kernel_rfl) (by simp) (AllL.cons (o := { dst := none, op := Op.store 235 (Operand.tmp 14) (Operand.tmp 11), type := 0, pos := _, after := #[{ on := 8, ground := Ground.data }, { on := 5, ground := Ground.data }, { on := 0, ground := Ground.phase }, { on := 1, ground := Ground.phase }, { on := 2, ground := Ground.phase }, { on := 3, ground := Ground.phase }, { on := 4, ground := Ground.phase }, { on := 5, ground := Ground.phase }], guard := none }) rfl (fun K' hK => ?_) AllL.nil)
 rw [if_pos (by rfl)]
 go_simp
 refine hK.out _ _ (fun h => absurd h (by decide)) ?_
 clear hK
 try simp only [Go.Act.put, Zx, Zy, Zz]
 refine wpL_done (by kernel_rfl) ?_ _
 go_wp2
 go_end0
 exact ⟨rfl, HX.out⟩
set_option maxHeartbeats 1000000 in
theorem add2n (f : Option Nat) (hr : w.heap[rb]? = some (.cells #[pv f, pv (none)] 267 (0, 0))) (hq : isCh w q) : Calls Tryz.prog 183 #[PT rb, .int .i64 2, PT q] w fun e w' => e = .returned (.tuple #[]) ∧ AdE w w' 2 rb q f (none) := by
 have HX := hid (ad_none (k := 2) (by omega) hr hq)
 have hne : q ≠ rb := fun e => by obtain ⟨x, a, b, h⟩ := hq; rw [e, hr] at h; simp at h
 have hql : q < w.heap.size := by obtain ⟨x, a, b, h⟩ := hq; exact block_lt h
 have hrl := block_lt hr
 have C1 : ∀ w', Touch [] w w' → w'.cell? ⟨rb, 1, none⟩ = some (.pointer none) := fun w' t => cell_at (t.keep hr (by simp)) rfl
 have fq : ∀ j, w.frozen? ⟨q, j, none⟩ = false := by obtain ⟨x, a, b, h⟩ := hq; exact froz_at h
 have fr : ∀ j, w.frozen? ⟨rb, j, none⟩ = false := froz_at hr
 have c1 := C1 w (Touch.refl _ _)
 have c0 := cell_at (j := 0) (v := pv f) hr rfl
 obtain ⟨vq, cq⟩ : ∃ v, w.cell? ⟨q, 5, none⟩ = some v := by obtain ⟨x, a, b, h⟩ := hq; exact ⟨_, cell_at h rfl⟩
 clear hr hq
 have k0 : Touch [] w w.drew := (Touch.refl _ _).drew
 unfold PT at *
 go_enter Tryz.func183, Tryz.ntmps183
 go_upto_region 0 with fail
 refine wp_region_L (S := fun w' => Touch [] w w') (st := 9) (by kernel_rfl) ?_
 refine wpL_take (i := 0) (v := (.pointer (some ⟨q, 0, none⟩))) (some 6) rfl rfl (by kernel_rfl) (by kernel_rfl) (by kernel_rfl) (by kernel_rfl) (by kernel_rfl) (by decide) (fun _ _ _ h => h) (Or.inl ⟨by rfl, fun w' hS => (by go_simp)⟩) k0 ?_
 try simp only [Go.Act.put, Zx, Zy, Zz]
 refine wpL_take (i := 1) (v := (.int .i64 2)) (some 7) rfl rfl (by kernel_rfl) (by kernel_rfl) (by kernel_rfl) (by kernel_rfl) (by kernel_rfl) (by decide) (fun _ _ _ h => h) (Or.inl ⟨by rfl, fun w' hS => (by go_simp)⟩) k0 ?_
 try simp only [Go.Act.put, Zx, Zy, Zz]
 refine wpL_take (i := 2) (v := (.pointer (some ⟨rb, 0, none⟩))) (some 8) rfl rfl (by kernel_rfl) (by kernel_rfl) (by kernel_rfl) (by kernel_rfl) (by kernel_rfl) (by decide) (fun _ _ _ h => h) (Or.inl ⟨by rfl, fun w' hS => (by go_simp)⟩) k0 ?_
 try simp only [Go.Act.put, Zx, Zy, Zz]
 refine wpL_take (i := 3) (v := (.pointer (some ⟨rb, 0, none⟩))) (some 9) rfl rfl (by kernel_rfl) (by kernel_rfl) (by kernel_rfl) (by kernel_rfl) (by kernel_rfl) (by decide) (fun _ _ _ h => h) (Or.inl ⟨by rfl, fun w' hS => (by go_simp)⟩) k0 ?_
 try simp only [Go.Act.put, Zx, Zy, Zz]
 refine wpL_take (i := 4) (v := (.pointer (some ⟨rb, 1, none⟩))) (some 10) rfl rfl (by kernel_rfl) (by kernel_rfl) (by kernel_rfl) (by kernel_rfl) (by kernel_rfl) (by decide) (fun _ _ _ h => h) (Or.inl ⟨by rfl, fun w' hS => (by go_simp)⟩) k0 ?_
 try simp only [Go.Act.put, Zx, Zy, Zz]
 refine wpL_take (i := 5) (v := (.pointer none)) (some 11) rfl rfl (by kernel_rfl) (by kernel_rfl) (by kernel_rfl) (by kernel_rfl) (by kernel_rfl) (by decide) (fun _ _ _ h => h) (Or.inl ⟨by rfl, fun w' hS => (by have z0 := C1 _ hS; go_simp)⟩) k0 ?_
 try simp only [Go.Act.put, Zx, Zy, Zz]
 refine wpL_takeY (i := 6) (v := (.pointer (some ⟨q, 0, none⟩))) (some 12) rfl rfl (by kernel_rfl) (by kernel_rfl) (by kernel_rfl) (by decide) (fun _ _ _ h => h) (Or.inl ⟨by rfl, fun w' hS => (by go_simp)⟩) (fun _ => k0) ?_
 try simp only [Go.Act.put, Zx, Zy, Zz]
 refine wpL_takeY (i := 7) (v := (.pointer (some ⟨q, 3, none⟩))) (some 13) rfl rfl (by kernel_rfl) (by kernel_rfl) (by kernel_rfl) (by decide) (fun _ _ _ h => h) (Or.inl ⟨by rfl, fun w' hS => (by go_simp)⟩) (fun _ => k0) ?_
 try simp only [Go.Act.put, Zx, Zy, Zz]
 refine wpL_take (i := 8) (v := (.pointer (some ⟨q, 5, none⟩))) (some 14) rfl rfl (by kernel_rfl) (by kernel_rfl) (by kernel_rfl) (by kernel_rfl) (by kernel_rfl) (by decide) (fun _ _ _ h => h) (Or.inl ⟨by rfl, fun w' hS => (by go_simp)⟩) k0 ?_
 try simp only [Go.Act.put, Zx, Zy, Zz]
 refine wpL_ready (rs := [9]) (by kernel_rfl) (by simp) (AllL.cons (o := { dst := none, op := Op.store 235 (Operand.tmp 14) (Operand.tmp 11), type := 0, pos := _, after := #[{ on := 8, ground := Ground.data }, { on := 5, ground := Ground.data }, { on := 0, ground := Ground.phase }, { on := 1, ground := Ground.phase }, { on := 2, ground := Ground.phase }, { on := 3, ground := Ground.phase }, { on := 4, ground := Ground.phase }, { on := 5, ground := Ground.phase }], guard := none }) rfl (fun K' hK => ?_) AllL.nil)
 rw [if_pos (by rfl)]
 go_simp
 refine hK.out _ _ (fun h => absurd h (by decide)) ?_
 clear hK
 try simp only [Go.Act.put, Zx, Zy, Zz]
 refine wpL_done (by kernel_rfl) ?_ _
 go_wp2
 go_end0
 exact ⟨rfl, HX.out⟩
set_option maxHeartbeats 1000000 in
theorem add2s (f : Option Nat) (p : Nat) (hr : w.heap[rb]? = some (.cells #[pv f, pv (some p)] 267 (0, 0))) (hq : isCh w q) (hp : isCh w p) (hn : p ≠ q) : Calls Tryz.prog 183 #[PT rb, .int .i64 2, PT q] w fun e w' => e = .returned (.tuple #[]) ∧ AdE w w' 2 rb q f (some p) := by
 have HX := hid (ad_some (k := 2) (by omega) hr hq hp hn)
 have hne : q ≠ rb := fun e => by obtain ⟨x, a, b, h⟩ := hq; rw [e, hr] at h; simp at h
 have hql : q < w.heap.size := by obtain ⟨x, a, b, h⟩ := hq; exact block_lt h
 have hrl := block_lt hr
 have C1 : ∀ w', Touch [] w w' → w'.cell? ⟨rb, 1, none⟩ = some (.pointer (some ⟨p, 0, none⟩)) := fun w' t => cell_at (t.keep hr (by simp)) rfl
 have fq : ∀ j, w.frozen? ⟨q, j, none⟩ = false := by obtain ⟨x, a, b, h⟩ := hq; exact froz_at h
 have fr : ∀ j, w.frozen? ⟨rb, j, none⟩ = false := froz_at hr
 have c1 := C1 w (Touch.refl _ _)
 have c0 := cell_at (j := 0) (v := pv f) hr rfl
 obtain ⟨vq, cq⟩ : ∃ v, w.cell? ⟨q, 5, none⟩ = some v := by obtain ⟨x, a, b, h⟩ := hq; exact ⟨_, cell_at h rfl⟩
 obtain ⟨vp, cp⟩ : ∃ v, w.cell? ⟨p, 8, none⟩ = some v := by obtain ⟨x, a, b, h⟩ := hp; exact ⟨_, cell_at h rfl⟩
 have fp : ∀ j, w.frozen? ⟨p, j, none⟩ = false := by obtain ⟨x, a, b, h⟩ := hp; exact froz_at h
 have hne2 : p ≠ rb := fun e => by obtain ⟨x, a, b, h⟩ := hp; rw [e, hr] at h; simp at h
 clear hp
 clear hr hq
 have k0 : Touch [] w w.drew := (Touch.refl _ _).drew
 unfold PT at *
 go_enter Tryz.func183, Tryz.ntmps183
 go_upto_region 0 with fail
 refine wp_region_L (S := fun w' => Touch [] w w') (st := 9) (by kernel_rfl) ?_
 refine wpL_take (i := 0) (v := (.pointer (some ⟨q, 0, none⟩))) (some 6) rfl rfl (by kernel_rfl) (by kernel_rfl) (by kernel_rfl) (by kernel_rfl) (by kernel_rfl) (by decide) (fun _ _ _ h => h) (Or.inl ⟨by rfl, fun w' hS => (by go_simp)⟩) k0 ?_
 try simp only [Go.Act.put, Zx, Zy, Zz]
 refine wpL_take (i := 1) (v := (.int .i64 2)) (some 7) rfl rfl (by kernel_rfl) (by kernel_rfl) (by kernel_rfl) (by kernel_rfl) (by kernel_rfl) (by decide) (fun _ _ _ h => h) (Or.inl ⟨by rfl, fun w' hS => (by go_simp)⟩) k0 ?_
 try simp only [Go.Act.put, Zx, Zy, Zz]
 refine wpL_take (i := 2) (v := (.pointer (some ⟨rb, 0, none⟩))) (some 8) rfl rfl (by kernel_rfl) (by kernel_rfl) (by kernel_rfl) (by kernel_rfl) (by kernel_rfl) (by decide) (fun _ _ _ h => h) (Or.inl ⟨by rfl, fun w' hS => (by go_simp)⟩) k0 ?_
 try simp only [Go.Act.put, Zx, Zy, Zz]
 refine wpL_take (i := 3) (v := (.pointer (some ⟨rb, 0, none⟩))) (some 9) rfl rfl (by kernel_rfl) (by kernel_rfl) (by kernel_rfl) (by kernel_rfl) (by kernel_rfl) (by decide) (fun _ _ _ h => h) (Or.inl ⟨by rfl, fun w' hS => (by go_simp)⟩) k0 ?_
 try simp only [Go.Act.put, Zx, Zy, Zz]
 refine wpL_take (i := 4) (v := (.pointer (some ⟨rb, 1, none⟩))) (some 10) rfl rfl (by kernel_rfl) (by kernel_rfl) (by kernel_rfl) (by kernel_rfl) (by kernel_rfl) (by decide) (fun _ _ _ h => h) (Or.inl ⟨by rfl, fun w' hS => (by go_simp)⟩) k0 ?_
 try simp only [Go.Act.put, Zx, Zy, Zz]
 refine wpL_take (i := 5) (v := (.pointer (some ⟨p, 0, none⟩))) (some 11) rfl rfl (by kernel_rfl) (by kernel_rfl) (by kernel_rfl) (by kernel_rfl) (by kernel_rfl) (by decide) (fun _ _ _ h => h) (Or.inl ⟨by rfl, fun w' hS => (by have z0 := C1 _ hS; go_simp)⟩) k0 ?_
 try simp only [Go.Act.put, Zx, Zy, Zz]
 refine wpL_takeY (i := 6) (v := (.pointer (some ⟨q, 0, none⟩))) (some 12) rfl rfl (by kernel_rfl) (by kernel_rfl) (by kernel_rfl) (by decide) (fun _ _ _ h => h) (Or.inl ⟨by rfl, fun w' hS => (by go_simp)⟩) (fun _ => k0) ?_
 try simp only [Go.Act.put, Zx, Zy, Zz]
 refine wpL_takeY (i := 7) (v := (.pointer (some ⟨q, 3, none⟩))) (some 13) rfl rfl (by kernel_rfl) (by kernel_rfl) (by kernel_rfl) (by decide) (fun _ _ _ h => h) (Or.inl ⟨by rfl, fun w' hS => (by go_simp)⟩) (fun _ => k0) ?_
 try simp only [Go.Act.put, Zx, Zy, Zz]
 refine wpL_take (i := 8) (v := (.pointer (some ⟨q, 5, none⟩))) (some 14) rfl rfl (by kernel_rfl) (by kernel_rfl) (by kernel_rfl) (by kernel_rfl) (by kernel_rfl) (by decide) (fun _ _ _ h => h) (Or.inl ⟨by rfl, fun w' hS => (by go_simp)⟩) k0 ?_
 try simp only [Go.Act.put, Zx, Zy, Zz]
 refine wpL_ready (rs := [9]) (by kernel_rfl) (by simp) (AllL.cons (o := { dst := none, op := Op.store 235 (Operand.tmp 14) (Operand.tmp 11), type := 0, pos := _, after := #[{ on := 8, ground := Ground.data }, { on := 5, ground := Ground.data }, { on := 0, ground := Ground.phase }, { on := 1, ground := Ground.phase }, { on := 2, ground := Ground.phase }, { on := 3, ground := Ground.phase }, { on := 4, ground := Ground.phase }, { on := 5, ground := Ground.phase }], guard := none }) rfl (fun K' hK => ?_) AllL.nil)
 rw [if_pos (by rfl)]
 go_simp
 refine hK.out _ _ (fun h => absurd h (by decide)) ?_
 clear hK
 try simp only [Go.Act.put, Zx, Zy, Zz]
 refine wpL_done (by kernel_rfl) ?_ _
 go_wp2
 go_end0
 exact ⟨rfl, HX.out⟩
theorem add_ (k : Nat) (hk : k < 3) (f l : Option Nat) (hr : w.heap[rb]? = some (.cells #[pv f, pv l] 267 (0, 0))) (hq : isCh w q) (hp : ∀ p, l = some p → isCh w p ∧ p ≠ q) : Calls Tryz.prog 183 #[PT rb, .int .i64 (k : Int), PT q] w fun e w' => e = .returned (.tuple #[]) ∧ AdE w w' k rb q f l := by
 cases l with
 | none =>
  match k, hk with
  | 0, _ => exact add0n w rb q f hr hq
  | 1, _ => exact add1n w rb q f hr hq
  | 2, _ => exact add2n w rb q f hr hq
 | some p =>
  obtain ⟨h1, h2⟩ := hp p rfl
  match k, hk with
  | 0, _ => exact add0s w rb q f p hr hq h1 h2
  | 1, _ => exact add1s w rb q f p hr hq h1 h2
  | 2, _ => exact add2s w rb q f p hr hq h1 h2
set_option maxHeartbeats 1000000 in
theorem rem0nn (f l : Option Nat) (x : Se) (A B : Nat → Option Nat) (hr : w.heap[rb]? = some (.cells #[pv f, pv l] 267 (0, 0))) (hq : w.heap[q]? = some (.cells (chc x A B) 238 (0, 0))) (eA : A 0 = none) (eB : B 0 = none) : Calls Tryz.prog 159 #[PT rb, .int .i64 0, PT q] w fun e w' => e = .returned (.tuple #[]) ∧ RmE w w' 0 rb q f l (none) (none) := by
 have HX : Hid (∀ n, RmE w (rm2 (rm1 (w.drewN n) 0 rb (none) (none)) 0 rb (none) (none)) 0 rb q f l (none) (none)) := hid (fun n => rm_made (by omega) ((Touch.refl _ _).drewN n) hr (fun z e => (by cases e)) (fun z e => (by cases e)) (fun z e e2 => (by cases e)))
 have c3 := cell_at (j := 3) (v := .pointer none) hq (by have := chc_a (x := x) (a := A) (b := B) (k := 0) (by omega); rw [eA] at this; exact this)
 have c6 := cell_at (j := 6) (v := .pointer none) hq (by have := chc_b (x := x) (a := A) (b := B) (k := 0) (by omega); rw [eB] at this; exact this)
 have fr : ∀ j, w.frozen? ⟨rb, j, none⟩ = false := froz_at hr
 have r0 := cell_at (j := 0) (v := pv f) hr rfl
 have r1 := cell_at (j := 1) (v := pv l) hr rfl
 clear hr hq eA eB
 unfold rm2 rm1 pv at HX
 simp only [Option.map_none, Option.map_some] at HX
 unfold PT at *
 go_enter Tryz.func159, Tryz.ntmps159
 go_upto_region 0 with fail
 go_quiet (fail)
 go_wp2
 go_end0
 exact ⟨rfl, HX.out _⟩
set_option maxHeartbeats 1000000 in
theorem rem0ns (f l : Option Nat) (r : Nat) (x : Se) (A B : Nat → Option Nat) (hr : w.heap[rb]? = some (.cells #[pv f, pv l] 267 (0, 0))) (hq : w.heap[q]? = some (.cells (chc x A B) 238 (0, 0))) (eA : A 0 = none) (eB : B 0 = some r) (hrr : isCh w r) : Calls Tryz.prog 159 #[PT rb, .int .i64 0, PT q] w fun e w' => e = .returned (.tuple #[]) ∧ RmE w w' 0 rb q f l (none) (some r) := by
 have HX : Hid (∀ n, RmE w (rm2 (rm1 (w.drewN n) 0 rb (none) (some r)) 0 rb (none) (some r)) 0 rb q f l (none) (some r)) := hid (fun n => rm_made (by omega) ((Touch.refl _ _).drewN n) hr (fun z e => (by cases e)) (fun z e => by cases e; exact hrr) (fun z e e2 => (by cases e)))
 have c3 := cell_at (j := 3) (v := .pointer none) hq (by have := chc_a (x := x) (a := A) (b := B) (k := 0) (by omega); rw [eA] at this; exact this)
 have c6 := cell_at (j := 6) (v := .pointer (some ⟨r, 0, none⟩)) hq (by have := chc_b (x := x) (a := A) (b := B) (k := 0) (by omega); rw [eB] at this; exact this)
 have fr : ∀ j, w.frozen? ⟨rb, j, none⟩ = false := froz_at hr
 have r0 := cell_at (j := 0) (v := pv f) hr rfl
 have r1 := cell_at (j := 1) (v := pv l) hr rfl
 have fr2 : ∀ j, w.frozen? ⟨r, j, none⟩ = false := by obtain ⟨x, a, b, h⟩ := hrr; exact froz_at h
 obtain ⟨vr, cr⟩ : ∃ v, w.cell? ⟨r, 3, none⟩ = some v := by obtain ⟨x, a, b, h⟩ := hrr; exact ⟨_, cell_at h rfl⟩
 clear hrr hr hq eA eB
 unfold rm2 rm1 pv at HX
 simp only [Option.map_none, Option.map_some] at HX
 unfold PT at *
 go_enter Tryz.func159, Tryz.ntmps159
 go_upto_region 0 with fail
 go_quiet (fail)
 go_wp2
 go_end0
 exact ⟨rfl, HX.out _⟩
set_option maxHeartbeats 1000000 in
theorem rem0sn (f l : Option Nat) (p : Nat) (x : Se) (A B : Nat → Option Nat) (hr : w.heap[rb]? = some (.cells #[pv f, pv l] 267 (0, 0))) (hq : w.heap[q]? = some (.cells (chc x A B) 238 (0, 0))) (eA : A 0 = some p) (eB : B 0 = none) (hp : isCh w p) : Calls Tryz.prog 159 #[PT rb, .int .i64 0, PT q] w fun e w' => e = .returned (.tuple #[]) ∧ RmE w w' 0 rb q f l (some p) (none) := by
 have HX : Hid (∀ n, RmE w (rm2 (rm1 (w.drewN n) 0 rb (some p) (none)) 0 rb (some p) (none)) 0 rb q f l (some p) (none)) := hid (fun n => rm_made (by omega) ((Touch.refl _ _).drewN n) hr (fun z e => by cases e; exact hp) (fun z e => (by cases e)) (fun z e e2 => (by cases e2)))
 have c3 := cell_at (j := 3) (v := .pointer (some ⟨p, 0, none⟩)) hq (by have := chc_a (x := x) (a := A) (b := B) (k := 0) (by omega); rw [eA] at this; exact this)
 have c6 := cell_at (j := 6) (v := .pointer none) hq (by have := chc_b (x := x) (a := A) (b := B) (k := 0) (by omega); rw [eB] at this; exact this)
 have fr : ∀ j, w.frozen? ⟨rb, j, none⟩ = false := froz_at hr
 have r0 := cell_at (j := 0) (v := pv f) hr rfl
 have r1 := cell_at (j := 1) (v := pv l) hr rfl
 have fp2 : ∀ j, w.frozen? ⟨p, j, none⟩ = false := by obtain ⟨x, a, b, h⟩ := hp; exact froz_at h
 obtain ⟨vp, cp⟩ : ∃ v, w.cell? ⟨p, 6, none⟩ = some v := by obtain ⟨x, a, b, h⟩ := hp; exact ⟨_, cell_at h rfl⟩
 clear hp hr hq eA eB
 unfold rm2 rm1 pv at HX
 simp only [Option.map_none, Option.map_some] at HX
 unfold PT at *
 go_enter Tryz.func159, Tryz.ntmps159
 go_upto_region 0 with fail
 go_quiet (fail)
 go_wp2
 go_end0
 exact ⟨rfl, HX.out _⟩
set_option maxHeartbeats 1000000 in
theorem rem0ss (f l : Option Nat) (p : Nat) (r : Nat) (x : Se) (A B : Nat → Option Nat) (hr : w.heap[rb]? = some (.cells #[pv f, pv l] 267 (0, 0))) (hq : w.heap[q]? = some (.cells (chc x A B) 238 (0, 0))) (eA : A 0 = some p) (eB : B 0 = some r) (hp : isCh w p) (hrr : isCh w r) (hpr : p ≠ r) : Calls Tryz.prog 159 #[PT rb, .int .i64 0, PT q] w fun e w' => e = .returned (.tuple #[]) ∧ RmE w w' 0 rb q f l (some p) (some r) := by
 have HX : Hid (∀ n, RmE w (rm2 (rm1 (w.drewN n) 0 rb (some p) (some r)) 0 rb (some p) (some r)) 0 rb q f l (some p) (some r)) := hid (fun n => rm_made (by omega) ((Touch.refl _ _).drewN n) hr (fun z e => by cases e; exact hp) (fun z e => by cases e; exact hrr) (fun z e e2 => by cases e; cases e2; exact hpr rfl))
 have c3 := cell_at (j := 3) (v := .pointer (some ⟨p, 0, none⟩)) hq (by have := chc_a (x := x) (a := A) (b := B) (k := 0) (by omega); rw [eA] at this; exact this)
 have c6 := cell_at (j := 6) (v := .pointer (some ⟨r, 0, none⟩)) hq (by have := chc_b (x := x) (a := A) (b := B) (k := 0) (by omega); rw [eB] at this; exact this)
 have fr : ∀ j, w.frozen? ⟨rb, j, none⟩ = false := froz_at hr
 have r0 := cell_at (j := 0) (v := pv f) hr rfl
 have r1 := cell_at (j := 1) (v := pv l) hr rfl
 have fp2 : ∀ j, w.frozen? ⟨p, j, none⟩ = false := by obtain ⟨x, a, b, h⟩ := hp; exact froz_at h
 obtain ⟨vp, cp⟩ : ∃ v, w.cell? ⟨p, 6, none⟩ = some v := by obtain ⟨x, a, b, h⟩ := hp; exact ⟨_, cell_at h rfl⟩
 have fr2 : ∀ j, w.frozen? ⟨r, j, none⟩ = false := by obtain ⟨x, a, b, h⟩ := hrr; exact froz_at h
 obtain ⟨vr, cr⟩ : ∃ v, w.cell? ⟨r, 3, none⟩ = some v := by obtain ⟨x, a, b, h⟩ := hrr; exact ⟨_, cell_at h rfl⟩
 clear hp hrr hr hq eA eB
 unfold rm2 rm1 pv at HX
 simp only [Option.map_none, Option.map_some] at HX
 unfold PT at *
 go_enter Tryz.func159, Tryz.ntmps159
 go_upto_region 0 with fail
 go_quiet (fail)
 go_wp2
 go_end0
 exact ⟨rfl, HX.out _⟩
set_option maxHeartbeats 1000000 in
theorem rem1nn (f l : Option Nat) (x : Se) (A B : Nat → Option Nat) (hr : w.heap[rb]? = some (.cells #[pv f, pv l] 267 (0, 0))) (hq : w.heap[q]? = some (.cells (chc x A B) 238 (0, 0))) (eA : A 1 = none) (eB : B 1 = none) : Calls Tryz.prog 159 #[PT rb, .int .i64 1, PT q] w fun e w' => e = .returned (.tuple #[]) ∧ RmE w w' 1 rb q f l (none) (none) := by
 have HX : Hid (∀ n, RmE w (rm2 (rm1 (w.drewN n) 1 rb (none) (none)) 1 rb (none) (none)) 1 rb q f l (none) (none)) := hid (fun n => rm_made (by omega) ((Touch.refl _ _).drewN n) hr (fun z e => (by cases e)) (fun z e => (by cases e)) (fun z e e2 => (by cases e)))
 have c3 := cell_at (j := 4) (v := .pointer none) hq (by have := chc_a (x := x) (a := A) (b := B) (k := 1) (by omega); rw [eA] at this; exact this)
 have c6 := cell_at (j := 7) (v := .pointer none) hq (by have := chc_b (x := x) (a := A) (b := B) (k := 1) (by omega); rw [eB] at this; exact this)
 have fr : ∀ j, w.frozen? ⟨rb, j, none⟩ = false := froz_at hr
 have r0 := cell_at (j := 0) (v := pv f) hr rfl
 have r1 := cell_at (j := 1) (v := pv l) hr rfl
 clear hr hq eA eB
 unfold rm2 rm1 pv at HX
 simp only [Option.map_none, Option.map_some] at HX
 unfold PT at *
 go_enter Tryz.func159, Tryz.ntmps159
 go_upto_region 0 with fail
 go_quiet (fail)
 go_wp2
 go_end0
 exact ⟨rfl, HX.out _⟩
set_option maxHeartbeats 1000000 in
theorem rem1ns (f l : Option Nat) (r : Nat) (x : Se) (A B : Nat → Option Nat) (hr : w.heap[rb]? = some (.cells #[pv f, pv l] 267 (0, 0))) (hq : w.heap[q]? = some (.cells (chc x A B) 238 (0, 0))) (eA : A 1 = none) (eB : B 1 = some r) (hrr : isCh w r) : Calls Tryz.prog 159 #[PT rb, .int .i64 1, PT q] w fun e w' => e = .returned (.tuple #[]) ∧ RmE w w' 1 rb q f l (none) (some r) := by
 have HX : Hid (∀ n, RmE w (rm2 (rm1 (w.drewN n) 1 rb (none) (some r)) 1 rb (none) (some r)) 1 rb q f l (none) (some r)) := hid (fun n => rm_made (by omega) ((Touch.refl _ _).drewN n) hr (fun z e => (by cases e)) (fun z e => by cases e; exact hrr) (fun z e e2 => (by cases e)))
 have c3 := cell_at (j := 4) (v := .pointer none) hq (by have := chc_a (x := x) (a := A) (b := B) (k := 1) (by omega); rw [eA] at this; exact this)
 have c6 := cell_at (j := 7) (v := .pointer (some ⟨r, 0, none⟩)) hq (by have := chc_b (x := x) (a := A) (b := B) (k := 1) (by omega); rw [eB] at this; exact this)
 have fr : ∀ j, w.frozen? ⟨rb, j, none⟩ = false := froz_at hr
 have r0 := cell_at (j := 0) (v := pv f) hr rfl
 have r1 := cell_at (j := 1) (v := pv l) hr rfl
 have fr2 : ∀ j, w.frozen? ⟨r, j, none⟩ = false := by obtain ⟨x, a, b, h⟩ := hrr; exact froz_at h
 obtain ⟨vr, cr⟩ : ∃ v, w.cell? ⟨r, 4, none⟩ = some v := by obtain ⟨x, a, b, h⟩ := hrr; exact ⟨_, cell_at h rfl⟩
 clear hrr hr hq eA eB
 unfold rm2 rm1 pv at HX
 simp only [Option.map_none, Option.map_some] at HX
 unfold PT at *
 go_enter Tryz.func159, Tryz.ntmps159
 go_upto_region 0 with fail
 go_quiet (fail)
 go_wp2
 go_end0
 exact ⟨rfl, HX.out _⟩
set_option maxHeartbeats 1000000 in
theorem rem1sn (f l : Option Nat) (p : Nat) (x : Se) (A B : Nat → Option Nat) (hr : w.heap[rb]? = some (.cells #[pv f, pv l] 267 (0, 0))) (hq : w.heap[q]? = some (.cells (chc x A B) 238 (0, 0))) (eA : A 1 = some p) (eB : B 1 = none) (hp : isCh w p) : Calls Tryz.prog 159 #[PT rb, .int .i64 1, PT q] w fun e w' => e = .returned (.tuple #[]) ∧ RmE w w' 1 rb q f l (some p) (none) := by
 have HX : Hid (∀ n, RmE w (rm2 (rm1 (w.drewN n) 1 rb (some p) (none)) 1 rb (some p) (none)) 1 rb q f l (some p) (none)) := hid (fun n => rm_made (by omega) ((Touch.refl _ _).drewN n) hr (fun z e => by cases e; exact hp) (fun z e => (by cases e)) (fun z e e2 => (by cases e2)))
 have c3 := cell_at (j := 4) (v := .pointer (some ⟨p, 0, none⟩)) hq (by have := chc_a (x := x) (a := A) (b := B) (k := 1) (by omega); rw [eA] at this; exact this)
 have c6 := cell_at (j := 7) (v := .pointer none) hq (by have := chc_b (x := x) (a := A) (b := B) (k := 1) (by omega); rw [eB] at this; exact this)
 have fr : ∀ j, w.frozen? ⟨rb, j, none⟩ = false := froz_at hr
 have r0 := cell_at (j := 0) (v := pv f) hr rfl
 have r1 := cell_at (j := 1) (v := pv l) hr rfl
 have fp2 : ∀ j, w.frozen? ⟨p, j, none⟩ = false := by obtain ⟨x, a, b, h⟩ := hp; exact froz_at h
 obtain ⟨vp, cp⟩ : ∃ v, w.cell? ⟨p, 7, none⟩ = some v := by obtain ⟨x, a, b, h⟩ := hp; exact ⟨_, cell_at h rfl⟩
 clear hp hr hq eA eB
 unfold rm2 rm1 pv at HX
 simp only [Option.map_none, Option.map_some] at HX
 unfold PT at *
 go_enter Tryz.func159, Tryz.ntmps159
 go_upto_region 0 with fail
 go_quiet (fail)
 go_wp2
 go_end0
 exact ⟨rfl, HX.out _⟩
set_option maxHeartbeats 1000000 in
theorem rem1ss (f l : Option Nat) (p : Nat) (r : Nat) (x : Se) (A B : Nat → Option Nat) (hr : w.heap[rb]? = some (.cells #[pv f, pv l] 267 (0, 0))) (hq : w.heap[q]? = some (.cells (chc x A B) 238 (0, 0))) (eA : A 1 = some p) (eB : B 1 = some r) (hp : isCh w p) (hrr : isCh w r) (hpr : p ≠ r) : Calls Tryz.prog 159 #[PT rb, .int .i64 1, PT q] w fun e w' => e = .returned (.tuple #[]) ∧ RmE w w' 1 rb q f l (some p) (some r) := by
 have HX : Hid (∀ n, RmE w (rm2 (rm1 (w.drewN n) 1 rb (some p) (some r)) 1 rb (some p) (some r)) 1 rb q f l (some p) (some r)) := hid (fun n => rm_made (by omega) ((Touch.refl _ _).drewN n) hr (fun z e => by cases e; exact hp) (fun z e => by cases e; exact hrr) (fun z e e2 => by cases e; cases e2; exact hpr rfl))
 have c3 := cell_at (j := 4) (v := .pointer (some ⟨p, 0, none⟩)) hq (by have := chc_a (x := x) (a := A) (b := B) (k := 1) (by omega); rw [eA] at this; exact this)
 have c6 := cell_at (j := 7) (v := .pointer (some ⟨r, 0, none⟩)) hq (by have := chc_b (x := x) (a := A) (b := B) (k := 1) (by omega); rw [eB] at this; exact this)
 have fr : ∀ j, w.frozen? ⟨rb, j, none⟩ = false := froz_at hr
 have r0 := cell_at (j := 0) (v := pv f) hr rfl
 have r1 := cell_at (j := 1) (v := pv l) hr rfl
 have fp2 : ∀ j, w.frozen? ⟨p, j, none⟩ = false := by obtain ⟨x, a, b, h⟩ := hp; exact froz_at h
 obtain ⟨vp, cp⟩ : ∃ v, w.cell? ⟨p, 7, none⟩ = some v := by obtain ⟨x, a, b, h⟩ := hp; exact ⟨_, cell_at h rfl⟩
 have fr2 : ∀ j, w.frozen? ⟨r, j, none⟩ = false := by obtain ⟨x, a, b, h⟩ := hrr; exact froz_at h
 obtain ⟨vr, cr⟩ : ∃ v, w.cell? ⟨r, 4, none⟩ = some v := by obtain ⟨x, a, b, h⟩ := hrr; exact ⟨_, cell_at h rfl⟩
 clear hp hrr hr hq eA eB
 unfold rm2 rm1 pv at HX
 simp only [Option.map_none, Option.map_some] at HX
 unfold PT at *
 go_enter Tryz.func159, Tryz.ntmps159
 go_upto_region 0 with fail
 go_quiet (fail)
 go_wp2
 go_end0
 exact ⟨rfl, HX.out _⟩
set_option maxHeartbeats 1000000 in
theorem rem2nn (f l : Option Nat) (x : Se) (A B : Nat → Option Nat) (hr : w.heap[rb]? = some (.cells #[pv f, pv l] 267 (0, 0))) (hq : w.heap[q]? = some (.cells (chc x A B) 238 (0, 0))) (eA : A 2 = none) (eB : B 2 = none) : Calls Tryz.prog 159 #[PT rb, .int .i64 2, PT q] w fun e w' => e = .returned (.tuple #[]) ∧ RmE w w' 2 rb q f l (none) (none) := by
 have HX : Hid (∀ n, RmE w (rm2 (rm1 (w.drewN n) 2 rb (none) (none)) 2 rb (none) (none)) 2 rb q f l (none) (none)) := hid (fun n => rm_made (by omega) ((Touch.refl _ _).drewN n) hr (fun z e => (by cases e)) (fun z e => (by cases e)) (fun z e e2 => (by cases e)))
 have c3 := cell_at (j := 5) (v := .pointer none) hq (by have := chc_a (x := x) (a := A) (b := B) (k := 2) (by omega); rw [eA] at this; exact this)
 have c6 := cell_at (j := 8) (v := .pointer none) hq (by have := chc_b (x := x) (a := A) (b := B) (k := 2) (by omega); rw [eB] at this; exact this)
 have fr : ∀ j, w.frozen? ⟨rb, j, none⟩ = false := froz_at hr
 have r0 := cell_at (j := 0) (v := pv f) hr rfl
 have r1 := cell_at (j := 1) (v := pv l) hr rfl
 clear hr hq eA eB
 unfold rm2 rm1 pv at HX
 simp only [Option.map_none, Option.map_some] at HX
 unfold PT at *
 go_enter Tryz.func159, Tryz.ntmps159
 go_upto_region 0 with fail
 go_quiet (fail)
 go_wp2
 go_end0
 exact ⟨rfl, HX.out _⟩
set_option maxHeartbeats 1000000 in
theorem rem2ns (f l : Option Nat) (r : Nat) (x : Se) (A B : Nat → Option Nat) (hr : w.heap[rb]? = some (.cells #[pv f, pv l] 267 (0, 0))) (hq : w.heap[q]? = some (.cells (chc x A B) 238 (0, 0))) (eA : A 2 = none) (eB : B 2 = some r) (hrr : isCh w r) : Calls Tryz.prog 159 #[PT rb, .int .i64 2, PT q] w fun e w' => e = .returned (.tuple #[]) ∧ RmE w w' 2 rb q f l (none) (some r) := by
 have HX : Hid (∀ n, RmE w (rm2 (rm1 (w.drewN n) 2 rb (none) (some r)) 2 rb (none) (some r)) 2 rb q f l (none) (some r)) := hid (fun n => rm_made (by omega) ((Touch.refl _ _).drewN n) hr (fun z e => (by cases e)) (fun z e => by cases e; exact hrr) (fun z e e2 => (by cases e)))
 have c3 := cell_at (j := 5) (v := .pointer none) hq (by have := chc_a (x := x) (a := A) (b := B) (k := 2) (by omega); rw [eA] at this; exact this)
 have c6 := cell_at (j := 8) (v := .pointer (some ⟨r, 0, none⟩)) hq (by have := chc_b (x := x) (a := A) (b := B) (k := 2) (by omega); rw [eB] at this; exact this)
 have fr : ∀ j, w.frozen? ⟨rb, j, none⟩ = false := froz_at hr
 have r0 := cell_at (j := 0) (v := pv f) hr rfl
 have r1 := cell_at (j := 1) (v := pv l) hr rfl
 have fr2 : ∀ j, w.frozen? ⟨r, j, none⟩ = false := by obtain ⟨x, a, b, h⟩ := hrr; exact froz_at h
 obtain ⟨vr, cr⟩ : ∃ v, w.cell? ⟨r, 5, none⟩ = some v := by obtain ⟨x, a, b, h⟩ := hrr; exact ⟨_, cell_at h rfl⟩
 clear hrr hr hq eA eB
 unfold rm2 rm1 pv at HX
 simp only [Option.map_none, Option.map_some] at HX
 unfold PT at *
 go_enter Tryz.func159, Tryz.ntmps159
 go_upto_region 0 with fail
 go_quiet (fail)
 go_wp2
 go_end0
 exact ⟨rfl, HX.out _⟩
set_option maxHeartbeats 1000000 in
theorem rem2sn (f l : Option Nat) (p : Nat) (x : Se) (A B : Nat → Option Nat) (hr : w.heap[rb]? = some (.cells #[pv f, pv l] 267 (0, 0))) (hq : w.heap[q]? = some (.cells (chc x A B) 238 (0, 0))) (eA : A 2 = some p) (eB : B 2 = none) (hp : isCh w p) : Calls Tryz.prog 159 #[PT rb, .int .i64 2, PT q] w fun e w' => e = .returned (.tuple #[]) ∧ RmE w w' 2 rb q f l (some p) (none) := by
 have HX : Hid (∀ n, RmE w (rm2 (rm1 (w.drewN n) 2 rb (some p) (none)) 2 rb (some p) (none)) 2 rb q f l (some p) (none)) := hid (fun n => rm_made (by omega) ((Touch.refl _ _).drewN n) hr (fun z e => by cases e; exact hp) (fun z e => (by cases e)) (fun z e e2 => (by cases e2)))
 have c3 := cell_at (j := 5) (v := .pointer (some ⟨p, 0, none⟩)) hq (by have := chc_a (x := x) (a := A) (b := B) (k := 2) (by omega); rw [eA] at this; exact this)
 have c6 := cell_at (j := 8) (v := .pointer none) hq (by have := chc_b (x := x) (a := A) (b := B) (k := 2) (by omega); rw [eB] at this; exact this)
 have fr : ∀ j, w.frozen? ⟨rb, j, none⟩ = false := froz_at hr
 have r0 := cell_at (j := 0) (v := pv f) hr rfl
 have r1 := cell_at (j := 1) (v := pv l) hr rfl
 have fp2 : ∀ j, w.frozen? ⟨p, j, none⟩ = false := by obtain ⟨x, a, b, h⟩ := hp; exact froz_at h
 obtain ⟨vp, cp⟩ : ∃ v, w.cell? ⟨p, 8, none⟩ = some v := by obtain ⟨x, a, b, h⟩ := hp; exact ⟨_, cell_at h rfl⟩
 clear hp hr hq eA eB
 unfold rm2 rm1 pv at HX
 simp only [Option.map_none, Option.map_some] at HX
 unfold PT at *
 go_enter Tryz.func159, Tryz.ntmps159
 go_upto_region 0 with fail
 go_quiet (fail)
 go_wp2
 go_end0
 exact ⟨rfl, HX.out _⟩
set_option maxHeartbeats 1000000 in
theorem rem2ss (f l : Option Nat) (p : Nat) (r : Nat) (x : Se) (A B : Nat → Option Nat) (hr : w.heap[rb]? = some (.cells #[pv f, pv l] 267 (0, 0))) (hq : w.heap[q]? = some (.cells (chc x A B) 238 (0, 0))) (eA : A 2 = some p) (eB : B 2 = some r) (hp : isCh w p) (hrr : isCh w r) (hpr : p ≠ r) : Calls Tryz.prog 159 #[PT rb, .int .i64 2, PT q] w fun e w' => e = .returned (.tuple #[]) ∧ RmE w w' 2 rb q f l (some p) (some r) := by
 have HX : Hid (∀ n, RmE w (rm2 (rm1 (w.drewN n) 2 rb (some p) (some r)) 2 rb (some p) (some r)) 2 rb q f l (some p) (some r)) := hid (fun n => rm_made (by omega) ((Touch.refl _ _).drewN n) hr (fun z e => by cases e; exact hp) (fun z e => by cases e; exact hrr) (fun z e e2 => by cases e; cases e2; exact hpr rfl))
 have c3 := cell_at (j := 5) (v := .pointer (some ⟨p, 0, none⟩)) hq (by have := chc_a (x := x) (a := A) (b := B) (k := 2) (by omega); rw [eA] at this; exact this)
 have c6 := cell_at (j := 8) (v := .pointer (some ⟨r, 0, none⟩)) hq (by have := chc_b (x := x) (a := A) (b := B) (k := 2) (by omega); rw [eB] at this; exact this)
 have fr : ∀ j, w.frozen? ⟨rb, j, none⟩ = false := froz_at hr
 have r0 := cell_at (j := 0) (v := pv f) hr rfl
 have r1 := cell_at (j := 1) (v := pv l) hr rfl
 have fp2 : ∀ j, w.frozen? ⟨p, j, none⟩ = false := by obtain ⟨x, a, b, h⟩ := hp; exact froz_at h
 obtain ⟨vp, cp⟩ : ∃ v, w.cell? ⟨p, 8, none⟩ = some v := by obtain ⟨x, a, b, h⟩ := hp; exact ⟨_, cell_at h rfl⟩
 have fr2 : ∀ j, w.frozen? ⟨r, j, none⟩ = false := by obtain ⟨x, a, b, h⟩ := hrr; exact froz_at h
 obtain ⟨vr, cr⟩ : ∃ v, w.cell? ⟨r, 5, none⟩ = some v := by obtain ⟨x, a, b, h⟩ := hrr; exact ⟨_, cell_at h rfl⟩
 clear hp hrr hr hq eA eB
 unfold rm2 rm1 pv at HX
 simp only [Option.map_none, Option.map_some] at HX
 unfold PT at *
 go_enter Tryz.func159, Tryz.ntmps159
 go_upto_region 0 with fail
 go_quiet (fail)
 go_wp2
 go_end0
 exact ⟨rfl, HX.out _⟩
theorem rem_ (k : Nat) (hk : k < 3) (f l : Option Nat) (x : Se) (A B : Nat → Option Nat) (hr : w.heap[rb]? = some (.cells #[pv f, pv l] 267 (0, 0))) (hq : w.heap[q]? = some (.cells (chc x A B) 238 (0, 0))) (hp : ∀ p, A k = some p → isCh w p) (hrr : ∀ p, B k = some p → isCh w p) (hpr : ∀ p, A k = some p → B k ≠ some p) : Calls Tryz.prog 159 #[PT rb, .int .i64 (k : Int), PT q] w fun e w' => e = .returned (.tuple #[]) ∧ RmE w w' k rb q f l (A k) (B k) := by
 cases eA : A k with
 | none =>
  cases eB : B k with
  | none =>
   match k, hk with
   | 0, _ => exact rem0nn w rb q f l x A B hr hq eA eB
   | 1, _ => exact rem1nn w rb q f l x A B hr hq eA eB
   | 2, _ => exact rem2nn w rb q f l x A B hr hq eA eB
  | some r =>
   match k, hk with
   | 0, _ => exact rem0ns w rb q f l r x A B hr hq eA eB (hrr r eB)
   | 1, _ => exact rem1ns w rb q f l r x A B hr hq eA eB (hrr r eB)
   | 2, _ => exact rem2ns w rb q f l r x A B hr hq eA eB (hrr r eB)
 | some p =>
  cases eB : B k with
  | none =>
   match k, hk with
   | 0, _ => exact rem0sn w rb q f l p x A B hr hq eA eB (hp p eA)
   | 1, _ => exact rem1sn w rb q f l p x A B hr hq eA eB (hp p eA)
   | 2, _ => exact rem2sn w rb q f l p x A B hr hq eA eB (hp p eA)
  | some r =>
   have hne : p ≠ r := fun e => hpr p eA (by rw [eB, e])
   match k, hk with
   | 0, _ => exact rem0ss w rb q f l p r x A B hr hq eA eB (hp p eA) (hrr r eB) hne
   | 1, _ => exact rem1ss w rb q f l p r x A B hr hq eA eB (hp p eA) (hrr r eB) hne
   | 2, _ => exact rem2ss w rb q f l p r x A B hr hq eA eB (hp p eA) (hrr r eB) hne
end
end Go.Proofs.YtllchnancjgijaaGreat.Lv
/- The contracts of a row's seats, of Seats' seats and of callers; no conditions but those that each states. -/
namespace Go.Proofs.YtllchnancjgijaaGreat.Lv
open Go.RowKit Go.Maps Go.ChangeMaps
def lenOf : Value → Nat
 | .slice _ n _ => n
 | _ => 0
theorem infoSeat : (Tryz.prog.info? 134).map (fun i => (i.zero, i.size, i.bytes)) = some (some (.agg #[.int .i64 0, .int .i64 0, .int .i64 0]), 3, 24) := by kernel_rfl
def SlE (e : Ending) (w w' : World) (ys : List Se) : Prop := ∃ a c, e = .returned (.slice a ys.length c) ∧ w'.ownsRow w.heap.size 134 3 (.slice a ys.length c) ys.length (ys.flatMap sc) ∧ Touch [] w w'
theorem take_snoc {X : Type} {l : List X} {i : Nat} {x : X} (h : l[i]? = some x) : l.take (i + 1) = l.take i ++ [x] := by
 rw [List.take_add_one, h]
 rfl
set_option maxHeartbeats 2000000 in
theorem rseats0 (w : World) (rb : Nat) (xs : List Nat) (ys : List Se) (hr : w.heap[rb]? = some (.cells (rowC xs) 267 (0, 0))) (hl : ys.length = xs.length) (hx : ∀ i q, xs[i]? = some q → ∃ y a b, ys[i]? = some y ∧ w.heap[q]? = some (.cells (chc y a b) 238 (0, 0)) ∧ b 0 = xs[i + 1]?) (hb : xs.length ≤ 5000000000000) :
  Calls Tryz.prog 191 #[PT rb, .int .i64 0] w fun e w' => SlE e w w' ys := by
 obtain ⟨n, hn⟩ : ∃ n, n = xs.length := ⟨_, rfl⟩
 obtain ⟨o0, ho0⟩ : ∃ o0, o0 = (xs[0]?).map (fun q => (⟨q, 0, none⟩ : Addr)) := ⟨_, rfl⟩
 have c0 := cell_at (j := 0) (v := .pointer o0) hr (by rw [ho0, ← List.head?_eq_getElem?]; rfl)
 have HO0 := hid ho0
 have HN := hid hn
 have HX := hid hx
 have HB := hid hb
 have HL := hid hl
 clear hr hx hb hl hn ho0
 unfold PT
 go_enter Tryz.func191, Tryz.ntmps191
 go_wp2
 go_loopw [5, 6] (fun s5 s6 wr => ∃ (i : Nat) (a : Option Addr) (c : Nat) (o : Option Addr), s5 = .slice a i c ∧ s6 = .pointer o ∧ Hid (i ≤ n ∧ o = (xs[i]?).map (fun q => (⟨q, 0, none⟩ : Addr)) ∧ Touch [] w wr ∧ wr.ownsRow w.heap.size 134 3 (.slice a i c) i ((ys.take i).flatMap sc))) (fun s5 _ _ => n - lenOf s5)
 case atStart => exact ⟨0, none, 0, o0, rfl, rfl, Nat.zero_le _, HO0.out, Touch.refl _ _, World.ownsRow_nil _ _ _ _⟩
 case round =>
  obtain ⟨i, a, c, o, rfl, rfl, HR⟩ := hrel
  clear c0 HO0
  cases hq : xs[i]? with
  | some q =>
   obtain ⟨y, A, B, hy, hc, hbk⟩ := HX.out i q hq
   have hlt : i < n := by rw [HN.out]; exact (List.getElem?_eq_some_iff.1 hq).1
   obtain rfl : o = some ⟨q, 0, none⟩ := by rw [HR.out.2.1, hq]; rfl
   obtain ⟨o2, ho2⟩ : ∃ o2, o2 = (xs[i + 1]?).map (fun q => (⟨q, 0, none⟩ : Addr)) := ⟨_, rfl⟩
   have HC : Hid (∀ w', Touch [] w w' → w'.heap[q]? = some (.cells (chc y A B) 238 (0, 0))) := hid (fun w' t => t.keep hc (by simp))
   have HC6 : Hid (∀ w', Touch [] w w' → w'.cell? ⟨q, 6, none⟩ = some (.pointer o2)) := hid (fun w' t => cell_at (HC.out w' t) (by have := chc_b (x := y) (a := A) (b := B) (k := 0) (by omega); rw [hbk] at this; rw [ho2]; exact this))
   have e0 := cell_at (j := 0) (v := .int .i64 y.1) (HC.out _ HR.out.2.2.1) rfl
   have e1 := cell_at (j := 1) (v := .int .i64 y.2.1) (HC.out _ HR.out.2.2.1) rfl
   have e2 := cell_at (j := 2) (v := .int .i64 y.2.2) (HC.out _ HR.out.2.2.1) rfl
   have HI := hid (And.intro hlt (And.intro hy ho2))
   have HTA : Hid (∀ ob, Touch [] w (wr.alloc ob) ∧ (wr.alloc ob).ownsRow w.heap.size 134 3 (.slice a i c) i ((ys.take i).flatMap sc)) := hid (fun ob => ⟨HR.out.2.2.1.alloc _, own_touch HR.out.2.2.2 ((Touch.refl [] _).alloc _) (fun _ _ e => by cases e)⟩)
   have HRS : Hid (Rs 134 3 (wr.alloc (.cells #[.int .i64 y.1, .int .i64 y.2.1, .int .i64 y.2.2] 134)) (.slice (some ⟨wr.heap.size, 0, none⟩) 1 1) 1 (sc y)) := hid (Rs.new wr #[.int .i64 y.1, .int .i64 y.2.1, .int .i64 y.2.2] 134 3 rfl)
   clear hq hy hc hbk hlt ho2
   go_wp2_with (at_builtin; refine wpList_append_rs rfl _ _ 138 134 rfl _ 3 24 infoSeat Tryz.underlying138 rfl (by decide) w.heap.size _ i _ rfl (HTA.out _).2 (.slice (some ⟨wr.heap.size, 0, none⟩) 1 1) 1 (sc y) rfl HRS.out (by simp [sc, Value.oneCell']) (by have := HI.out.1; have := HN.out; have := HB.out; unfold maxLen; omega) (by have := HI.out.1; have := HN.out; have := HB.out; omega) (HTA.out _).1.size ?_; intro v5 w5 o5 g5 _; have t5 := touch_grown (HTA.out _).1 g5 (HTA.out _).2 (Nat.le_refl _); have c6 := HC6.out _ t5; have T5 := hid t5; obtain ⟨a5, c5, e5⟩ := own_form o5; subst e5; have O5 := hid o5; clear o5 g5 t5 e0 e1 e2)
   go_roundw
   case rel => exact ⟨i + 1, a5, c5, o2, rfl, rfl, HI.out.1, HI.out.2.2, T5.out, by rw [take_snoc HI.out.2.1, List.flatMap_append]; simpa using O5.out⟩
   case measure => simp [lenOf]; have := HI.out.1; omega
  | none =>
   obtain rfl : o = none := by rw [HR.out.2.1, hq]; rfl
   have hge : xs.length ≤ i := List.getElem?_eq_none_iff.1 hq
   have HE : Hid (SlE (.returned (.slice a i c)) w wr ys) := hid (by
    have h1 := HR.out.1
    have h2 := HN.out
    have h3 := HL.out
    obtain ⟨e⟩ : i = ys.length := by omega
    have := HR.out.2.2.2
    rw [List.take_length] at this
    exact ⟨a, c, rfl, this, HR.out.2.2.1⟩)
   clear HR hq hge
   go_wp2
   go_ret
   exact HE.out
set_option maxHeartbeats 2000000 in
theorem rseats1 (w : World) (rb : Nat) (xs : List Nat) (ys : List Se) (hr : w.heap[rb]? = some (.cells (rowC xs) 267 (0, 0))) (hl : ys.length = xs.length) (hx : ∀ i q, xs[i]? = some q → ∃ y a b, ys[i]? = some y ∧ w.heap[q]? = some (.cells (chc y a b) 238 (0, 0)) ∧ b 1 = xs[i + 1]?) (hb : xs.length ≤ 5000000000000) :
  Calls Tryz.prog 191 #[PT rb, .int .i64 1] w fun e w' => SlE e w w' ys := by
 obtain ⟨n, hn⟩ : ∃ n, n = xs.length := ⟨_, rfl⟩
 obtain ⟨o0, ho0⟩ : ∃ o0, o0 = (xs[0]?).map (fun q => (⟨q, 0, none⟩ : Addr)) := ⟨_, rfl⟩
 have c0 := cell_at (j := 0) (v := .pointer o0) hr (by rw [ho0, ← List.head?_eq_getElem?]; rfl)
 have HO0 := hid ho0
 have HN := hid hn
 have HX := hid hx
 have HB := hid hb
 have HL := hid hl
 clear hr hx hb hl hn ho0
 unfold PT
 go_enter Tryz.func191, Tryz.ntmps191
 go_wp2
 go_loopw [5, 6] (fun s5 s6 wr => ∃ (i : Nat) (a : Option Addr) (c : Nat) (o : Option Addr), s5 = .slice a i c ∧ s6 = .pointer o ∧ Hid (i ≤ n ∧ o = (xs[i]?).map (fun q => (⟨q, 0, none⟩ : Addr)) ∧ Touch [] w wr ∧ wr.ownsRow w.heap.size 134 3 (.slice a i c) i ((ys.take i).flatMap sc))) (fun s5 _ _ => n - lenOf s5)
 case atStart => exact ⟨0, none, 0, o0, rfl, rfl, Nat.zero_le _, HO0.out, Touch.refl _ _, World.ownsRow_nil _ _ _ _⟩
 case round =>
  obtain ⟨i, a, c, o, rfl, rfl, HR⟩ := hrel
  clear c0 HO0
  cases hq : xs[i]? with
  | some q =>
   obtain ⟨y, A, B, hy, hc, hbk⟩ := HX.out i q hq
   have hlt : i < n := by rw [HN.out]; exact (List.getElem?_eq_some_iff.1 hq).1
   obtain rfl : o = some ⟨q, 0, none⟩ := by rw [HR.out.2.1, hq]; rfl
   obtain ⟨o2, ho2⟩ : ∃ o2, o2 = (xs[i + 1]?).map (fun q => (⟨q, 0, none⟩ : Addr)) := ⟨_, rfl⟩
   have HC : Hid (∀ w', Touch [] w w' → w'.heap[q]? = some (.cells (chc y A B) 238 (0, 0))) := hid (fun w' t => t.keep hc (by simp))
   have HC6 : Hid (∀ w', Touch [] w w' → w'.cell? ⟨q, 7, none⟩ = some (.pointer o2)) := hid (fun w' t => cell_at (HC.out w' t) (by have := chc_b (x := y) (a := A) (b := B) (k := 1) (by omega); rw [hbk] at this; rw [ho2]; exact this))
   have e0 := cell_at (j := 0) (v := .int .i64 y.1) (HC.out _ HR.out.2.2.1) rfl
   have e1 := cell_at (j := 1) (v := .int .i64 y.2.1) (HC.out _ HR.out.2.2.1) rfl
   have e2 := cell_at (j := 2) (v := .int .i64 y.2.2) (HC.out _ HR.out.2.2.1) rfl
   have HI := hid (And.intro hlt (And.intro hy ho2))
   have HTA : Hid (∀ ob, Touch [] w (wr.alloc ob) ∧ (wr.alloc ob).ownsRow w.heap.size 134 3 (.slice a i c) i ((ys.take i).flatMap sc)) := hid (fun ob => ⟨HR.out.2.2.1.alloc _, own_touch HR.out.2.2.2 ((Touch.refl [] _).alloc _) (fun _ _ e => by cases e)⟩)
   have HRS : Hid (Rs 134 3 (wr.alloc (.cells #[.int .i64 y.1, .int .i64 y.2.1, .int .i64 y.2.2] 134)) (.slice (some ⟨wr.heap.size, 0, none⟩) 1 1) 1 (sc y)) := hid (Rs.new wr #[.int .i64 y.1, .int .i64 y.2.1, .int .i64 y.2.2] 134 3 rfl)
   clear hq hy hc hbk hlt ho2
   go_wp2_with (at_builtin; refine wpList_append_rs rfl _ _ 138 134 rfl _ 3 24 infoSeat Tryz.underlying138 rfl (by decide) w.heap.size _ i _ rfl (HTA.out _).2 (.slice (some ⟨wr.heap.size, 0, none⟩) 1 1) 1 (sc y) rfl HRS.out (by simp [sc, Value.oneCell']) (by have := HI.out.1; have := HN.out; have := HB.out; unfold maxLen; omega) (by have := HI.out.1; have := HN.out; have := HB.out; omega) (HTA.out _).1.size ?_; intro v5 w5 o5 g5 _; have t5 := touch_grown (HTA.out _).1 g5 (HTA.out _).2 (Nat.le_refl _); have c6 := HC6.out _ t5; have T5 := hid t5; obtain ⟨a5, c5, e5⟩ := own_form o5; subst e5; have O5 := hid o5; clear o5 g5 t5 e0 e1 e2)
   go_roundw
   case rel => exact ⟨i + 1, a5, c5, o2, rfl, rfl, HI.out.1, HI.out.2.2, T5.out, by rw [take_snoc HI.out.2.1, List.flatMap_append]; simpa using O5.out⟩
   case measure => simp [lenOf]; have := HI.out.1; omega
  | none =>
   obtain rfl : o = none := by rw [HR.out.2.1, hq]; rfl
   have hge : xs.length ≤ i := List.getElem?_eq_none_iff.1 hq
   have HE : Hid (SlE (.returned (.slice a i c)) w wr ys) := hid (by
    have h1 := HR.out.1
    have h2 := HN.out
    have h3 := HL.out
    obtain ⟨e⟩ : i = ys.length := by omega
    have := HR.out.2.2.2
    rw [List.take_length] at this
    exact ⟨a, c, rfl, this, HR.out.2.2.1⟩)
   clear HR hq hge
   go_wp2
   go_ret
   exact HE.out
set_option maxHeartbeats 2000000 in
theorem rseats2 (w : World) (rb : Nat) (xs : List Nat) (ys : List Se) (hr : w.heap[rb]? = some (.cells (rowC xs) 267 (0, 0))) (hl : ys.length = xs.length) (hx : ∀ i q, xs[i]? = some q → ∃ y a b, ys[i]? = some y ∧ w.heap[q]? = some (.cells (chc y a b) 238 (0, 0)) ∧ b 2 = xs[i + 1]?) (hb : xs.length ≤ 5000000000000) :
  Calls Tryz.prog 191 #[PT rb, .int .i64 2] w fun e w' => SlE e w w' ys := by
 obtain ⟨n, hn⟩ : ∃ n, n = xs.length := ⟨_, rfl⟩
 obtain ⟨o0, ho0⟩ : ∃ o0, o0 = (xs[0]?).map (fun q => (⟨q, 0, none⟩ : Addr)) := ⟨_, rfl⟩
 have c0 := cell_at (j := 0) (v := .pointer o0) hr (by rw [ho0, ← List.head?_eq_getElem?]; rfl)
 have HO0 := hid ho0
 have HN := hid hn
 have HX := hid hx
 have HB := hid hb
 have HL := hid hl
 clear hr hx hb hl hn ho0
 unfold PT
 go_enter Tryz.func191, Tryz.ntmps191
 go_wp2
 go_loopw [5, 6] (fun s5 s6 wr => ∃ (i : Nat) (a : Option Addr) (c : Nat) (o : Option Addr), s5 = .slice a i c ∧ s6 = .pointer o ∧ Hid (i ≤ n ∧ o = (xs[i]?).map (fun q => (⟨q, 0, none⟩ : Addr)) ∧ Touch [] w wr ∧ wr.ownsRow w.heap.size 134 3 (.slice a i c) i ((ys.take i).flatMap sc))) (fun s5 _ _ => n - lenOf s5)
 case atStart => exact ⟨0, none, 0, o0, rfl, rfl, Nat.zero_le _, HO0.out, Touch.refl _ _, World.ownsRow_nil _ _ _ _⟩
 case round =>
  obtain ⟨i, a, c, o, rfl, rfl, HR⟩ := hrel
  clear c0 HO0
  cases hq : xs[i]? with
  | some q =>
   obtain ⟨y, A, B, hy, hc, hbk⟩ := HX.out i q hq
   have hlt : i < n := by rw [HN.out]; exact (List.getElem?_eq_some_iff.1 hq).1
   obtain rfl : o = some ⟨q, 0, none⟩ := by rw [HR.out.2.1, hq]; rfl
   obtain ⟨o2, ho2⟩ : ∃ o2, o2 = (xs[i + 1]?).map (fun q => (⟨q, 0, none⟩ : Addr)) := ⟨_, rfl⟩
   have HC : Hid (∀ w', Touch [] w w' → w'.heap[q]? = some (.cells (chc y A B) 238 (0, 0))) := hid (fun w' t => t.keep hc (by simp))
   have HC6 : Hid (∀ w', Touch [] w w' → w'.cell? ⟨q, 8, none⟩ = some (.pointer o2)) := hid (fun w' t => cell_at (HC.out w' t) (by have := chc_b (x := y) (a := A) (b := B) (k := 2) (by omega); rw [hbk] at this; rw [ho2]; exact this))
   have e0 := cell_at (j := 0) (v := .int .i64 y.1) (HC.out _ HR.out.2.2.1) rfl
   have e1 := cell_at (j := 1) (v := .int .i64 y.2.1) (HC.out _ HR.out.2.2.1) rfl
   have e2 := cell_at (j := 2) (v := .int .i64 y.2.2) (HC.out _ HR.out.2.2.1) rfl
   have HI := hid (And.intro hlt (And.intro hy ho2))
   have HTA : Hid (∀ ob, Touch [] w (wr.alloc ob) ∧ (wr.alloc ob).ownsRow w.heap.size 134 3 (.slice a i c) i ((ys.take i).flatMap sc)) := hid (fun ob => ⟨HR.out.2.2.1.alloc _, own_touch HR.out.2.2.2 ((Touch.refl [] _).alloc _) (fun _ _ e => by cases e)⟩)
   have HRS : Hid (Rs 134 3 (wr.alloc (.cells #[.int .i64 y.1, .int .i64 y.2.1, .int .i64 y.2.2] 134)) (.slice (some ⟨wr.heap.size, 0, none⟩) 1 1) 1 (sc y)) := hid (Rs.new wr #[.int .i64 y.1, .int .i64 y.2.1, .int .i64 y.2.2] 134 3 rfl)
   clear hq hy hc hbk hlt ho2
   go_wp2_with (at_builtin; refine wpList_append_rs rfl _ _ 138 134 rfl _ 3 24 infoSeat Tryz.underlying138 rfl (by decide) w.heap.size _ i _ rfl (HTA.out _).2 (.slice (some ⟨wr.heap.size, 0, none⟩) 1 1) 1 (sc y) rfl HRS.out (by simp [sc, Value.oneCell']) (by have := HI.out.1; have := HN.out; have := HB.out; unfold maxLen; omega) (by have := HI.out.1; have := HN.out; have := HB.out; omega) (HTA.out _).1.size ?_; intro v5 w5 o5 g5 _; have t5 := touch_grown (HTA.out _).1 g5 (HTA.out _).2 (Nat.le_refl _); have c6 := HC6.out _ t5; have T5 := hid t5; obtain ⟨a5, c5, e5⟩ := own_form o5; subst e5; have O5 := hid o5; clear o5 g5 t5 e0 e1 e2)
   go_roundw
   case rel => exact ⟨i + 1, a5, c5, o2, rfl, rfl, HI.out.1, HI.out.2.2, T5.out, by rw [take_snoc HI.out.2.1, List.flatMap_append]; simpa using O5.out⟩
   case measure => simp [lenOf]; have := HI.out.1; omega
  | none =>
   obtain rfl : o = none := by rw [HR.out.2.1, hq]; rfl
   have hge : xs.length ≤ i := List.getElem?_eq_none_iff.1 hq
   have HE : Hid (SlE (.returned (.slice a i c)) w wr ys) := hid (by
    have h1 := HR.out.1
    have h2 := HN.out
    have h3 := HL.out
    obtain ⟨e⟩ : i = ys.length := by omega
    have := HR.out.2.2.2
    rw [List.take_length] at this
    exact ⟨a, c, rfl, this, HR.out.2.2.1⟩)
   clear HR hq hge
   go_wp2
   go_ret
   exact HE.out
theorem rseats_ (w : World) (rb k : Nat) (hk : k < 3) (xs : List Nat) (ys : List Se) (hr : w.heap[rb]? = some (.cells (rowC xs) 267 (0, 0))) (hl : ys.length = xs.length) (hx : ∀ i q, xs[i]? = some q → ∃ y a b, ys[i]? = some y ∧ w.heap[q]? = some (.cells (chc y a b) 238 (0, 0)) ∧ b k = xs[i + 1]?) (hb : xs.length ≤ 5000000000000) :
  Calls Tryz.prog 191 #[PT rb, .int .i64 (k : Int)] w fun e w' => SlE e w w' ys := by
 match k, hk with
 | 0, _ => exact rseats0 w rb xs ys hr hl hx hb
 | 1, _ => exact rseats1 w rb xs ys hr hl hx hb
 | 2, _ => exact rseats2 w rb xs ys hr hl hx hb
end Go.Proofs.YtllchnancjgijaaGreat.Lv
/- The contracts of Seats' seats and of callers; no conditions but those that each states. -/
namespace Go.Proofs.YtllchnancjgijaaGreat.Lv
open Go.RowKit Go.Maps Go.ChangeMaps
def inK (k : Nat) (n : Int) (L : List Se) : List Se := L.filter (fun x => decide (num k x = n))
theorem zeroRow (w : World) : (zeroValue 267).run Tryz.prog w = .ok (rowV []) w := by kernel_rfl
theorem w64k {k : Nat} (h : k < 3) : W64 (k : Int) := W64.mk (by omega) (by omega)
section
variable {w : World} {s nr : Nat} {mc mr mk : Option Nat} {CH : List Chr} {G : List Int}
theorem rmap_get (CH : List Chr) {k : Nat} (hk : k < 3) (n : Int) : (rmap CH ((k : Int), n)).getD (rowV []) = rowV (rowOf k n CH) ∧ (rmap CH ((k : Int), n)).isSome = decide (rowOf k n CH ≠ []) := by
 unfold rmap
 simp only [Int.toNat_natCast]
 by_cases h : rowOf k n CH = []
 ·rw [if_neg (fun e => e.2.2 h), h]; simp
 ·rw [if_pos ⟨by omega, by omega, h⟩]; simp [h]
theorem Sm.lookR (h : Sm w s mc mr mk nr CH G) {k : Nat} (hk : k < 3) {n : Int} (hn : W64 n) : (Instr.lookup 195 (.map mr) (.agg #[.int .i64 (k : Int), .int .i64 n]) false).run Tryz.prog w = .ok (rowV (rowOf k n CH)) w := by
 have ok : KN.ok ((k : Int), n) := ⟨w64k hk, hn⟩
 rcases h.cm with ⟨_, h1, h2⟩ | ⟨b, d, h1, h2, _, _, h3⟩
 ·rw [h1, h2]
  exact look_nil KN Tryz.underlying195 (zeroRow w) ok
 ·rw [h2]
  have := h3.look (t := 195) Tryz.underlying195 (zeroRow w) ok
  rw [(rmap_get CH hk n).1] at this
  exact this
theorem Sm.cell (h : Sm w s mc mr mk nr CH G) : w.cell? ⟨s, 0, none⟩ = some (.map mc) ∧ w.cell? ⟨s, 1, none⟩ = some (.map mr) ∧ w.cell? ⟨s, 2, none⟩ = some (.map mk) ∧ ∀ j, w.frozen? ⟨s, j, none⟩ = false := ⟨cell_at h.hb rfl, cell_at h.hb rfl, cell_at h.hb rfl, froz_at h.hb⟩
theorem row_seats (CH : List Chr) (k : Nat) (n : Int) (i q : Nat) (hq : (rowOf k n CH)[i]? = some q) : ∃ p ∈ CH, p.1 = q ∧ (inK k n (CH.map Prod.snd))[i]? = some p.2 ∧ num k p.2 = n := by
 have e : inK k n (CH.map Prod.snd) = (CH.filter (fun p => decide (num k p.2 = n))).map Prod.snd := by
  unfold inK
  rw [List.filter_map]
  rfl
 unfold rowOf at hq
 rw [List.getElem?_map] at hq
 cases hp : (CH.filter (fun p => decide (num k p.2 = n)))[i]? with
 | none => rw [hp] at hq; cases hq
 | some p =>
  rw [hp] at hq
  simp only [Option.map_some, Option.some.injEq] at hq
  have hm := List.mem_filter.1 (List.mem_of_getElem? hp)
  exact ⟨p, hm.1, hq, by rw [e, List.getElem?_map, hp]; rfl, by simpa using hm.2⟩
theorem row_len (CH : List Chr) (k : Nat) (n : Int) : (inK k n (CH.map Prod.snd)).length = (rowOf k n CH).length := by
 have e : inK k n (CH.map Prod.snd) = (CH.filter (fun p => decide (num k p.2 = n))).map Prod.snd := by
  unfold inK
  rw [List.filter_map]
  rfl
 rw [e]
 unfold rowOf
 simp
theorem row_le (CH : List Chr) (k : Nat) (n : Int) : (rowOf k n CH).length ≤ CH.length := by
 unfold rowOf
 rw [List.length_map]
 exact List.length_filter_le _ _
def bxN (k : Nat) (n : Int) : Obj := .cells #[.int .i64 (k : Int), .int .i64 n] 200
set_option maxHeartbeats 2000000 in
theorem seats_ (h : Sm w s mc mr mk nr CH G) {k : Nat} (hk : k < 3) {n : Int} (hn : W64 n) (hb : CH.length ≤ 5000000000000) : Calls Tryz.prog 161 #[PT s, .agg #[.int .i64 (k : Int), .int .i64 n]] w fun e w' => SlE e w w' (inK k n (CH.map Prod.snd)) := by
 obtain ⟨V, hV⟩ : ∃ V, V = w.alloc (bxN k n) := ⟨_, rfl⟩
 have tv : Touch [] w V := by rw [hV]; exact (Touch.refl _ _).alloc _
 have hvb : V.heap[w.heap.size]? = some (.cells #[.int .i64 (k : Int), .int .i64 n] 200 (0, 0)) := by rw [hV]; exact heap_alloc_new w _
 have M1 : ∀ w', Touch [] V w' → w'.cell? ⟨s, 1, none⟩ = some (.map mr) := fun w' t => (h.keep0 (tv.trans' t)).cell.2.1
 have B0 : ∀ w', Touch [] V w' → w'.cell? ⟨w.heap.size, 0, none⟩ = some (.int .i64 (k : Int)) := fun w' t => cell_at (t.keep hvb (by simp)) rfl
 have B1 : ∀ w', Touch [] V w' → w'.cell? ⟨w.heap.size, 1, none⟩ = some (.int .i64 n) := fun w' t => cell_at (t.keep hvb (by simp)) rfl
 have L0 : ∀ w', Touch [] V w' → (Instr.lookup 195 (.map mr) (.agg #[.int .i64 (k : Int), .int .i64 n]) false).run Tryz.prog w' = .ok (.agg #[pv (rowOf k n CH).head?, pv (lastO none (rowOf k n CH))]) w' := fun w' t => (h.keep0 (tv.trans' t)).lookR hk hn
 obtain ⟨f, hf⟩ : ∃ f, pv (rowOf k n CH).head? = .pointer f := ⟨_, rfl⟩
 obtain ⟨l, hl'⟩ : ∃ l, pv (lastO none (rowOf k n CH)) = .pointer l := ⟨_, rfl⟩
 rw [hf, hl'] at L0
 have HC : Hid (∀ W, Touch [] V W → W.heap[V.heap.size]? = some (.cells #[.pointer f, .pointer l] 267 (0, 0)) → Calls Tryz.prog 191 #[PT V.heap.size, .int .i64 (k : Int)] W fun e w' => SlE e w w' (inK k n (CH.map Prod.snd))) := hid (fun W t hr => by
  have h2 := h.keep0 (tv.trans' t)
  obtain ⟨A, B, hc, hl⟩ := h2.lk
  refine (rseats_ W V.heap.size k hk (rowOf k n CH) (inK k n (CH.map Prod.snd)) (by rw [hr, rowC, hf, hl']) (row_len CH k n) (fun i q hq => ?_) (Nat.le_trans (row_le CH k n) hb)).mono ?_
  ·obtain ⟨p, hp, rfl, h3, h4⟩ := row_seats CH k n i q hq
   exact ⟨p.2, _, _, h3, hc p hp, (hl k hk n).next hq⟩
  ·rintro e w' ⟨a, c, rfl, r, t2⟩
   exact ⟨a, c, rfl, own_base r (tv.trans' t).size, (tv.trans' t).trans' t2⟩)
 have k0 : Touch [] V V.drew := (Touch.refl _ _).drew
 have HS : Hid (w.heap.size < V.heap.size) := hid (block_lt hvb)
 clear h tv hvb hn
 clear hf hl'
 unfold bxN at hV
 unfold PT at *
 go_enter Tryz.func161, Tryz.ntmps161
 go_upto_region 1 with fail
 rw [← hV]
 clear hV
 go_upto_region 3 with fail
 refine wp_region_L (S := fun w' => Touch [] V w') (st := 7) (by kernel_rfl) ?_
 refine wpL_take (i := 0) (v := (.pointer (some ⟨s, 0, none⟩))) (some 8) rfl rfl (by kernel_rfl) (by kernel_rfl) (by kernel_rfl) (by kernel_rfl) (by kernel_rfl) (by decide) (fun _ _ _ h => h) (Or.inl ⟨by rfl, fun w' hS => (by go_simp)⟩) k0 ?_
 try simp only [Go.Act.put, Zx, Zy, Zz]
 refine wpL_take (i := 1) (v := (.pointer (some ⟨s, 0, none⟩))) (some 9) rfl rfl (by kernel_rfl) (by kernel_rfl) (by kernel_rfl) (by kernel_rfl) (by kernel_rfl) (by decide) (fun _ _ _ h => h) (Or.inl ⟨by rfl, fun w' hS => (by go_simp)⟩) k0 ?_
 try simp only [Go.Act.put, Zx, Zy, Zz]
 refine wpL_take (i := 2) (v := (.pointer (some ⟨s, 1, none⟩))) (some 10) rfl rfl (by kernel_rfl) (by kernel_rfl) (by kernel_rfl) (by kernel_rfl) (by kernel_rfl) (by decide) (fun _ _ _ h => h) (Or.inl ⟨by rfl, fun w' hS => (by go_simp)⟩) k0 ?_
 try simp only [Go.Act.put, Zx, Zy, Zz]
 refine wpL_take (i := 3) (v := (.map mr)) (some 11) rfl rfl (by kernel_rfl) (by kernel_rfl) (by kernel_rfl) (by kernel_rfl) (by kernel_rfl) (by decide) (fun _ _ _ h => h) (Or.inl ⟨by rfl, fun w' hS => (by have z0 := M1 _ hS; go_simp)⟩) k0 ?_
 try simp only [Go.Act.put, Zx, Zy, Zz]
 refine wpL_take (i := 4) (v := (.agg #[.int .i64 (k : Int), .int .i64 n])) (some 12) rfl rfl (by kernel_rfl) (by kernel_rfl) (by kernel_rfl) (by kernel_rfl) (by kernel_rfl) (by decide) (fun _ _ _ h => h) (Or.inl ⟨by rfl, fun w' hS => (by have z0 := B0 _ hS; have z1 := B1 _ hS; go_simp)⟩) k0 ?_
 try simp only [Go.Act.put, Zx, Zy, Zz]
 refine wpL_take (i := 5) (v := (.agg #[.pointer f, .pointer l])) (some 13) rfl rfl (by kernel_rfl) (by kernel_rfl) (by kernel_rfl) (by kernel_rfl) (by kernel_rfl) (by decide) (fun _ _ _ h => h) (Or.inl ⟨by rfl, fun w' hS => (by have z0 := L0 _ hS; go_simp)⟩) k0 ?_
 try simp only [Go.Act.put, Zx, Zy, Zz]
 refine wpL_ready (rs := [6]) (by kernel_rfl) (by simp) (AllL.cons (o := { dst := some 5, op := Op.alloc 267, type := 0, pos := _, after := #[], guard := none }) rfl (fun K' hK => ?_) AllL.nil)
 rw [if_pos (by rfl)]
 go_simp
 refine hK.out _ _ (fun _ => ((Touch.refl _ _).alloc _).drew) ?_
 clear hK
 try simp only [Go.Act.put, Zx, Zy, Zz]
 refine wpL_ready (rs := [7]) (by kernel_rfl) (by simp) (AllL.cons (o := { dst := none, op := Op.store 267 (Operand.tmp 5) (Operand.tmp 13), type := 0, pos := _, after := #[{ on := 6, ground := Ground.data }, { on := 5, ground := Ground.data }, { on := 0, ground := Ground.phase }, { on := 1, ground := Ground.phase }, { on := 2, ground := Ground.phase }, { on := 3, ground := Ground.phase }, { on := 4, ground := Ground.phase }, { on := 5, ground := Ground.phase }, { on := 6, ground := Ground.phase }], guard := none }) rfl (fun K' hK => ?_) AllL.nil)
 rw [if_pos (by rfl)]
 go_simp
 refine hK.out _ _ (fun h => absurd h (by decide)) ?_
 clear hK
 try simp only [Go.Act.put, Zx, Zy, Zz]
 refine wpL_done (by kernel_rfl) ?_ _
 have k5 : Touch [] V (V.alloc (.cells #[.pointer f, .pointer l] 267)).drew := ((Touch.refl _ _).alloc _).drew
 have HK := hid (HC.out _ k5 (heap_alloc_new V _))
 have b0 := B0 _ k5
 clear M1 B0 B1 L0 k0 k5 HC
 generalize (V.alloc (.cells #[.pointer f, .pointer l] 267)).drew = W at *
 go_wp2_with (go_at_call 191; refine HK.out.mono ?_; rintro e w2 ⟨a2, c2, rfl, r2, t2⟩; have RR := hid (And.intro r2 t2); clear r2 t2)
 go_ret
 exact ⟨a2, c2, rfl, RR.out.1, RR.out.2⟩
end
theorem seat_cells {w : World} {B t g n c i : Nat} {ys : List Se} {y : Se} (h : w.ownsRow B t 3 (.slice (some ⟨g, 0, none⟩) n c) n (ys.flatMap sc)) (hy : ys[i]? = some y) : w.cell? ⟨g, i * 3, none⟩ = some (.int .i64 y.1) ∧ w.cell? ⟨g, i * 3 + 1, none⟩ = some (.int .i64 y.2.1) ∧ w.cell? ⟨g, i * 3 + 2, none⟩ = some (.int .i64 y.2.2) := by
 have q := fun j hj => flat_at (f := sc) (k := 3) sc_len ys i j y hy hj
 exact ⟨own_cell h (p := i * 3) (q 0 (by omega)), own_cell h (p := i * 3 + 1) (q 1 (by omega)), own_cell h (p := i * 3 + 2) (q 2 (by omega))⟩
end Go.Proofs.YtllchnancjgijaaGreat.Lv
/- What place and takeAway leave behind each kind: chairs, rows and maps in the midst of a step; no conditions. -/
namespace Go.Proofs.YtllchnancjgijaaGreat.Lv
open Go.RowKit Go.Maps Go.ChangeMaps
def upd2 (A : Nat → Nat → Option Nat) (k : Nat) (o v : Option Nat) : Nat → Nat → Option Nat := fun k' => if k' = k then updO (A k') o v else A k'
theorem upd2_at (A : Nat → Nat → Option Nat) (k : Nat) (o v : Option Nat) : upd2 A k o v k = updO (A k) o v := by simp [upd2]
theorem upd2_ne (A : Nat → Nat → Option Nat) {k j : Nat} (h : j ≠ k) (o v : Option Nat) : upd2 A k o v j = A j := by simp [upd2, h]
theorem upd2_hit (A : Nat → Nat → Option Nat) (k q : Nat) (v : Option Nat) : (fun j => upd2 A k (some q) v j q) = updN (fun j => A j q) k v := by
 funext j
 unfold upd2 updN updO
 by_cases h : j = k <;> simp [h]
theorem upd2_miss (A : Nat → Nat → Option Nat) (k q : Nat) {o : Option Nat} (h : o ≠ some q) (v : Option Nat) : (fun j => upd2 A k o v j q) = fun j => A j q := by
 funext j
 unfold upd2 updO
 by_cases h' : j = k <;> simp [h', h]
theorem Ch.keep {w w' : World} {CH : List Chr} {A B : Nat → Nat → Option Nat} {F : List Nat} (h : Ch w CH A B) (T : Touch F w w') (hF : ∀ p ∈ CH, ¬ p.1 ∈ F) : Ch w' CH A B := fun p hp => T.keep (h p hp) (hF p hp)
theorem Ch.is {w : World} {CH : List Chr} {A B : Nat → Nat → Option Nat} (h : Ch w CH A B) {q : Nat} (hq : q ∈ CH.map Prod.fst) : isCh w q := by
 obtain ⟨p, hp, rfl⟩ := List.mem_map.1 hq
 exact ⟨_, _, _, h p hp⟩
theorem row_mem {CH : List Chr} {k : Nat} {n : Int} {q : Nat} (h : q ∈ rowOf k n CH) : q ∈ CH.map Prod.fst := by
 obtain ⟨p, hp, rfl⟩ := List.mem_map.1 h
 exact List.mem_map.2 ⟨p, (List.mem_filter.1 hp).1, rfl⟩
theorem row_nd {CH : List Chr} (h : (CH.map Prod.fst).Nodup) (k : Nat) (n : Int) : (rowOf k n CH).Nodup := h.sublist (List.filter_sublist.map _)
theorem Ch.added {w w' : World} {CH : List Chr} {A B : Nat → Nat → Option Nat} {k rb q : Nat} {f l : Option Nat} (h : Ch w CH A B) (hE : AdE w w' k rb q f l) (hrb : ∀ p ∈ CH, p.1 ≠ rb) (hlq : l ≠ some q) : Ch w' CH (upd2 A k (some q) l) (upd2 B k l (some q)) := fun p hp => by
 have hp0 := h p hp
 by_cases e : p.1 = q
 ·rw [e] at hp0 ⊢
  rw [upd2_hit, upd2_miss _ _ _ hlq]
  exact hE.at_ _ _ _ hp0
 ·rw [upd2_miss _ _ _ (fun e' => e (by simp only [Option.some.injEq] at e'; exact e'.symm))]
  by_cases e2 : l = some p.1
  ·rw [e2, upd2_hit]
   exact hE.be p.1 _ _ _ e2 hp0
  ·rw [upd2_miss _ _ _ e2]
   refine hE.t.keep hp0 (fun e3 => ?_)
   simp only [List.mem_cons, Option.mem_toList] at e3
   rcases e3 with e3 | e3 | e3
   ·exact hrb p hp e3
   ·exact e e3
   ·exact e2 e3
theorem Ch.removed {w w' : World} {CH : List Chr} {A B : Nat → Nat → Option Nat} {k rb q : Nat} {f l a b : Option Nat} (h : Ch w CH A B) (hE : RmE w w' k rb q f l a b) (hrb : ∀ p ∈ CH, p.1 ≠ rb) (hab : ∀ p, a = some p → b ≠ some p) : Ch w' CH (upd2 A k b a) (upd2 B k a b) := fun p hp => by
 have hp0 := h p hp
 by_cases e : a = some p.1
 ·have e2 : b ≠ some p.1 := hab _ e
  rw [upd2_miss _ _ _ e2, e, upd2_hit]
  exact hE.ah p.1 _ _ _ e hp0
 ·rw [upd2_miss _ _ _ e]
  by_cases e2 : b = some p.1
  ·rw [e2, upd2_hit]
   exact hE.be p.1 _ _ _ e2 hp0
  ·rw [upd2_miss _ _ _ e2]
   refine hE.t.keep hp0 (fun e3 => ?_)
   simp only [List.mem_cons, List.mem_append, Option.mem_toList] at e3
   rcases e3 with e3 | e3 | e3
   ·exact hrb p hp e3
   ·exact e e3
   ·exact e2 e3
theorem row_snoc (CH : List Chr) (q : Nat) (x : Se) (k : Nat) (n : Int) : rowOf k n (CH ++ [(q, x)]) = if num k x = n then rowOf k n CH ++ [q] else rowOf k n CH := by
 unfold rowOf
 rw [List.filter_append, List.map_append]
 by_cases h : num k x = n <;> simp [h]
theorem head_snoc (xs : List Nat) (q : Nat) : (xs ++ [q]).head? = if lastO none xs = none then some q else xs.head? := by
 cases xs with
 | nil => rfl
 | cons a r =>
  rw [if_neg (fun e => by have := lastO_none e; cases this)]
  rfl
theorem last_snoc (xs : List Nat) (q : Nat) : lastO none (xs ++ [q]) = some q := by rw [lastO_append]; rfl
def rmid (i : Nat) (CH' CH : List Chr) (n : Nm) : Option Value := if n.1 < (i : Int) then rmap CH' n else rmap CH n
theorem rmid0 (CH' CH : List Chr) {n : Nm} : rmid 0 CH' CH n = rmap CH n := by
 unfold rmid
 by_cases h : n.1 < ((0 : Nat) : Int)
 ·rw [if_pos h]
  unfold rmap
  rw [if_neg (fun e => by have := e.1; omega), if_neg (fun e => by have := e.1; omega)]
 ·rw [if_neg h]
theorem rmid3 (CH' CH : List Chr) {n : Nm} : rmid 3 CH' CH n = rmap CH' n := by
 unfold rmid
 by_cases h : n.1 < ((3 : Nat) : Int)
 ·rw [if_pos h]
 ·rw [if_neg h]
  unfold rmap
  rw [if_neg (fun e => by have := e.2.1; omega), if_neg (fun e => by have := e.2.1; omega)]
theorem rmid_step {CH' CH : List Chr} {i : Nat} (hi : i < 3) {m : Int} (ho : ∀ n, n ≠ m → rowOf i n CH' = rowOf i n CH) (n : Nm) (f : Nm → Option Value) (hf : f ((i : Int), m) = rmap CH' ((i : Int), m)) (hg : ∀ n, n ≠ ((i : Int), m) → f n = rmid i CH' CH n) : f n = rmid (i + 1) CH' CH n := by
 by_cases e : n = ((i : Int), m)
 ·subst e
  rw [hf]
  unfold rmid
  rw [if_pos (by simp only; omega)]
 ·rw [hg n e]
  unfold rmid
  by_cases h1 : n.1 < (i : Int)
  ·rw [if_pos h1, if_pos (by omega)]
  ·rw [if_neg h1]
   by_cases h2 : n.1 < ((i + 1 : Nat) : Int)
   ·rw [if_pos h2]
    have e1 : n.1 = (i : Int) := by omega
    have e2 : n.2 ≠ m := fun e2 => e (Prod.ext e1 e2)
    unfold rmap
    rw [e1, Int.toNat_natCast, ho n.2 e2]
   ·rw [if_neg h2]
theorem rmap_row {CH : List Chr} {k : Nat} (hk : k < 3) (n : Int) (h : rowOf k n CH ≠ []) : rmap CH ((k : Int), n) = some (rowV (rowOf k n CH)) := by
 unfold rmap
 simp only [Int.toNat_natCast]
 rw [if_pos ⟨by omega, by omega, h⟩]
theorem rmap_no {CH : List Chr} {k : Nat} (n : Int) (h : rowOf k n CH = []) : rmap CH ((k : Int), n) = none := by
 unfold rmap
 simp only [Int.toNat_natCast]
 rw [if_neg (fun e => e.2.2 h)]
theorem num_wf {x : Se} (h : Wf x) (k : Nat) : W64 (num k x) := by
 match k with
 | 0 => exact W64.mk (by show _ ≤ (0 : Int); omega) (by show (0 : Int) ≤ _; omega)
 | 1 => exact h.2.1
 | k + 2 => exact h.2.2
theorem ok_name {x : Se} (h : Wf x) {k : Nat} (hk : k < 3) : OkN ((k : Int), num k x) := ⟨w64k hk, num_wf h k⟩
structure Md (w : World) (s b d : Nat) (mk : Option Nat) (nr : Nat) (CH C0 C1 : List Chr) (G : List Int) (i : Nat) (Z : (Nat → Nat → Option Nat) → (Nat → Nat → Option Nat) → Nat → Prop) : Prop where
 hb : w.heap[s]? = some (.cells (sbc (some b) (some d) mk) 197 (0, 0))
 bd : b ≠ d
 cm : MapK KI w b C1.length (cmap C1)
 rm : ∃ n, n ≤ nr ∧ MapK KN w d n (rmid i C1 C0)
 km : (mk = none ∧ G = []) ∨ ∃ b, mk = some b ∧ MapK KI w b G.length (kmap G)
 kc : ∀ c, mk = some c → c ≠ b ∧ c ≠ d
 lk : ∃ A B, Ch w CH A B ∧ (∀ k, k < 3 → k < i → ∀ n, Lk (A k) (B k) none (rowOf k n C1)) ∧ (∀ k, k < 3 → i ≤ k → Z A B k ∧ ∀ n, Lk (A k) (B k) none (rowOf k n C0))
def fpM (s b d : Nat) (mk : Option Nat) (CH : List Chr) : List Nat := fpS s (some b) (some d) mk CH
section
variable {w w' : World} {s b d nr i : Nat} {mk : Option Nat} {CH C0 C1 : List Chr} {G : List Int} {X : List Nat} {Z : (Nat → Nat → Option Nat) → (Nat → Nat → Option Nat) → Nat → Prop}
theorem Md.keep (h : Md w s b d mk nr CH C0 C1 G i Z) (T : Touch X w w') (hX : ∀ q, q ∈ fpM s b d mk CH → ¬ q ∈ X) : Md w' s b d mk nr CH C0 C1 G i Z := by
 refine ⟨T.keep h.hb (hX s (mem_fpS.2 (Or.inl rfl))), h.bd, h.cm.keep T (hX b (mem_fpS.2 (Or.inr (Or.inl rfl)))), ?_, ?_, h.kc, ?_⟩
 ·obtain ⟨n, h1, h2⟩ := h.rm
  exact ⟨n, h1, h2.keep T (hX d (mem_fpS.2 (Or.inr (Or.inr (Or.inl rfl)))))⟩
 ·rcases h.km with h1 | ⟨c, h1, h2⟩
  ·exact Or.inl h1
  ·exact Or.inr ⟨c, h1, h2.keep T (hX c (mem_fpS.2 (Or.inr (Or.inr (Or.inr (Or.inl h1))))))⟩
 ·obtain ⟨A, B, h1, h2⟩ := h.lk
  exact ⟨A, B, h1.keep T (fun p hp => hX p.1 (mem_fpS.2 (Or.inr (Or.inr (Or.inr (Or.inr (List.mem_map.2 ⟨p, hp, rfl⟩))))))), h2⟩
theorem Md.keep0 (h : Md w s b d mk nr CH C0 C1 G i Z) (T : Touch [] w w') : Md w' s b d mk nr CH C0 C1 G i Z := h.keep T (fun _ _ e => by cases e)
theorem Md.own (h : Md w s b d mk nr CH C0 C1 G i Z) : ∀ q, q ∈ fpM s b d mk CH → Own1 w q := fun q hq => by
 rcases mem_fpS.1 hq with e | e | e | e | e
 ·subst e; exact Or.inl ⟨_, _, h.hb⟩
 ·cases e; exact Or.inr (Or.inr h.cm.kind)
 ·cases e; obtain ⟨n, _, h2⟩ := h.rm; exact Or.inr (Or.inr h2.kind)
 ·rcases h.km with ⟨h1, _⟩ | ⟨c, h1, h2⟩
  ·rw [h1] at e; cases e
  ·rw [h1] at e; cases e; exact Or.inr (Or.inr h2.kind)
 ·obtain ⟨p, hp, rfl⟩ := List.mem_map.1 e
  obtain ⟨A, B, h1, _⟩ := h.lk
  exact Or.inr (Or.inl ⟨_, _, h1 p hp⟩)
theorem Md.lookR (h : Md w s b d mk nr CH C0 C1 G i Z) (hi : i < 3) {m : Int} (hm : W64 m) : (Instr.lookup 195 (.map (some d)) (.agg #[.int .i64 (i : Int), .int .i64 m]) false).run Tryz.prog w = .ok (rowV (rowOf i m C0)) w := by
 obtain ⟨n, h1, h2⟩ := h.rm
 have := h2.look (t := 195) Tryz.underlying195 (zeroRow w) (k := ((i : Int), m)) ⟨w64k hi, hm⟩
 rw [show rmid i C1 C0 ((i : Int), m) = rmap C0 ((i : Int), m) by unfold rmid; rw [if_neg (by simp only; omega)], (rmap_get C0 hi m).1] at this
 exact this
theorem Md.cell (h : Md w s b d mk nr CH C0 C1 G i Z) : w.cell? ⟨s, 1, none⟩ = some (.map (some d)) := cell_at h.hb rfl
end
end Go.Proofs.YtllchnancjgijaaGreat.Lv
/- One kind of place's and of takeAway's rounds, told of memory alone; no conditions but those that each states. -/
namespace Go.Proofs.YtllchnancjgijaaGreat.Lv
open Go.RowKit Go.Maps Go.ChangeMaps
theorem isCh.nemap {w : World} {q r : Nat} (h : isCh w q) (hr : ∃ es cl, w.heap[r]? = some (.map es cl)) : r ≠ q := fun e => by
 obtain ⟨x, a, b, h⟩ := h
 obtain ⟨es, cl, hr⟩ := hr
 rw [e, h] at hr
 cases hr
structure Rb (W : World) (s d nb rb : Nat) (k m : Int) (f l : Option Nat) : Prop where
 s1 : ∀ w', Touch [] W w' → w'.cell? ⟨s, 1, none⟩ = some (.map (some d))
 n0 : ∀ w', Touch [] W w' → w'.cell? ⟨nb, 0, none⟩ = some (.int .i64 k)
 n1 : ∀ w', Touch [] W w' → w'.cell? ⟨nb, 1, none⟩ = some (.int .i64 m)
 r0 : ∀ w', Touch [] W w' → w'.cell? ⟨rb, 0, none⟩ = some (pv f)
 r1 : ∀ w', Touch [] W w' → w'.cell? ⟨rb, 1, none⟩ = some (pv l)
theorem Rb.mk' {W : World} {s d nb rb : Nat} {mc mk : Option Nat} {k m : Int} {f l : Option Nat} (h1 : W.heap[s]? = some (.cells (sbc mc (some d) mk) 197 (0, 0))) (h2 : W.heap[nb]? = some (.cells #[.int .i64 k, .int .i64 m] 200 (0, 0))) (h3 : W.heap[rb]? = some (.cells #[pv f, pv l] 267 (0, 0))) : Rb W s d nb rb k m f l :=
 ⟨fun w' t => cell_at (t.keep h1 (by simp)) rfl, fun w' t => cell_at (t.keep h2 (by simp)) rfl, fun w' t => cell_at (t.keep h2 (by simp)) rfl, fun w' t => cell_at (t.keep h3 (by simp)) rfl, fun w' t => cell_at (t.keep h3 (by simp)) rfl⟩
def Zp (q : Nat) (A B : Nat → Nat → Option Nat) (k : Nat) : Prop := B k q = none
def Zt (A B : Nat → Nat → Option Nat) (k : Nat) : Prop := True
section
variable {wr V2 W2 : World} {s b d nr i q nb rb : Nat} {mk : Option Nat} {CH : List Chr} {G : List Int} {x : Se}
theorem last_is {w : World} {A B : Nat → Nat → Option Nat} {CH C0 : List Chr} (hc : Ch w CH A B) (hs : ∀ p ∈ C0, p ∈ CH) {k : Nat} {n : Int} {p : Nat} (h : lastO none (rowOf k n C0) = some p) : isCh w p ∧ p ∈ C0.map Prod.fst := by
 rcases lastO_mem h with e | e
 ·cases e
 ·have h1 := row_mem e
  obtain ⟨z, hz, rfl⟩ := List.mem_map.1 h1
  exact ⟨⟨_, _, _, hc z (hs z hz)⟩, h1⟩
theorem place_ready (h : Md wr s b d mk nr (CH ++ [(q, x)]) CH (CH ++ [(q, x)]) G i (Zp q)) (nd : ((CH ++ [(q, x)]).map Prod.fst).Nodup) (m : Int) : isCh wr q ∧ ∀ p, lastO none (rowOf i m CH) = some p → isCh wr p ∧ p ≠ q := by
 obtain ⟨A, B, h1, _⟩ := h.lk
 refine ⟨⟨_, _, _, h1 (q, x) (by simp)⟩, fun p hp => ?_⟩
 obtain ⟨h2, h3⟩ := last_is h1 (fun p hp => by simp [hp]) hp
 refine ⟨h2, fun e => ?_⟩
 rw [List.map_append, List.nodup_append] at nd
 exact nd.2.2 p h3 q (by simp) e
theorem place_step (h : Md wr s b d mk (nr + i) (CH ++ [(q, x)]) CH (CH ++ [(q, x)]) G i (Zp q)) (hi : i < 3) (hx : Wf x) (nd : ((CH ++ [(q, x)]).map Prod.fst).Nodup) (hnr : nr + 3 < maxLen) (t2 : Touch [] wr V2) (hn : V2.heap[nb]? = some (.cells #[.int .i64 (i : Int), .int .i64 (num i x)] 200 (0, 0))) (hrb : wr.heap.size ≤ rb)
  (hr : V2.heap[rb]? = some (.cells (rowC (rowOf i (num i x) CH)) 267 (0, 0))) (hE : AdE V2 W2 i rb q (rowOf i (num i x) CH).head? (lastO none (rowOf i (num i x) CH))) :
  ∃ f o, Rb W2 s d nb rb i (num i x) f (some q) ∧ (Instr.mapUpdate 195 (.map (some d)) (.agg #[.int .i64 (i : Int), .int .i64 (num i x)]) (.agg #[pv f, pv (some q)])).run Tryz.prog W2.drew = .ok () (setBlock W2.drew d o) ∧ Md (setBlock W2.drew d o) s b d mk (nr + (i + 1)) (CH ++ [(q, x)]) CH (CH ++ [(q, x)]) G (i + 1) (Zp q) ∧ Touch (fpM s b d mk (CH ++ [(q, x)])) wr (setBlock W2.drew d o) := by
 have h2 := h.keep0 t2
 have hown := h2.own
 obtain ⟨hq, hl⟩ := place_ready h2 nd (num i x)
 have hF : ∀ z, z ∈ rb :: q :: (lastO none (rowOf i (num i x) CH)).toList → z = rb ∨ z ∈ (CH ++ [(q, x)]).map Prod.fst := fun z hz => by
  simp only [List.mem_cons, Option.mem_toList] at hz
  rcases hz with e | e | e
  ·exact Or.inl e
  ·exact Or.inr (by simp [e])
  ·obtain ⟨A, B, h1, _⟩ := h2.lk
   have := (last_is h1 (C0 := CH) (fun p hp => by simp [hp]) e).2
   exact Or.inr (by rw [List.map_append]; exact List.mem_append.2 (Or.inl this))
 have hch : ∀ z, z ∈ (CH ++ [(q, x)]).map Prod.fst → isCh V2 z := fun z hz => by
  obtain ⟨A, B, h1, _⟩ := h2.lk
  exact h1.is hz
 have hmap : ∀ z, (∃ es cl, V2.heap[z]? = some (.map es cl)) → ¬ z ∈ rb :: q :: (lastO none (rowOf i (num i x) CH)).toList := fun z hz e => by
  rcases hF z e with e | e
  ·obtain ⟨es, cl, hz⟩ := hz
   rw [e, hr] at hz
   cases hz
  ·exact (hch z e).nemap hz rfl
 have hs : ¬ s ∈ rb :: q :: (lastO none (rowOf i (num i x) CH)).toList := fun e => by
  rcases hF s e with e | e
  ·have := h2.hb; rw [e, hr] at this; simp at this
  ·obtain ⟨x', a', b', h3⟩ := hch s e
   have := h2.hb; rw [h3] at this; simp at this
 have hnb : ¬ nb ∈ rb :: q :: (lastO none (rowOf i (num i x) CH)).toList := fun e => by
  rcases hF nb e with e | e
  ·rw [e, hr] at hn; simp at hn
  ·obtain ⟨x', a', b', h3⟩ := hch nb e
   rw [h3] at hn; simp at hn
 obtain ⟨n, hn1, hn2⟩ := h2.rm
 have hm2 : MapK KN W2.drew d n (rmid i (CH ++ [(q, x)]) CH) := (hn2.keep hE.t (hmap d hn2.kind)).kept rfl
 obtain ⟨o, o1, o2⟩ := hm2.set (t := 195) Tryz.underlying195 (by omega) (k := ((i : Int), num i x)) (ok_name hx hi) (rowV (rowOf i (num i x) (CH ++ [(q, x)])))
 have erow : rowOf i (num i x) (CH ++ [(q, x)]) = rowOf i (num i x) CH ++ [q] := by rw [row_snoc, if_pos rfl]
 have eV : rowV (rowOf i (num i x) (CH ++ [(q, x)])) = .agg #[pv (if lastO none (rowOf i (num i x) CH) = none then some q else (rowOf i (num i x) CH).head?), pv (some q)] := by
  rw [erow]
  unfold rowV rowC
  rw [head_snoc, last_snoc]
 have td : Touch [d] W2 (setBlock W2.drew d o) := touch_setBlock (Touch.refl _ _).drew (Or.inl (by simp)) o
 have hsd : s ≠ d := fun e => by
  obtain ⟨es, cl, h3⟩ := hn2.kind
  have := h2.hb; rw [e, h3] at this; cases this
 have hmd : ∀ z, isCh V2 z → z ≠ d := fun z hz e => hz.nemap hn2.kind e.symm
 refine ⟨_, o, Rb.mk' (hE.t.keep h2.hb hs) (hE.t.keep hn hnb) hE.row, by rw [← eV]; exact o1, ⟨td.keep (hE.t.keep h2.hb hs) (by simpa using hsd), h.bd, (h2.cm.keep hE.t (hmap b h2.cm.kind)).keep td (by simpa using h.bd), ?_, ?_, h.kc, ?_⟩, ?_⟩
 ·refine ⟨_, ?_, o2.congr (fun z hz => rmid_step hi (m := num i x) (fun n hne => ?_) z _ ?_ (fun z hz => ?_))⟩
  ·split <;> omega
  ·rw [row_snoc, if_neg (fun e => hne e.symm)]
  ·rw [rmap_row hi _ (by rw [erow]; simp)]
   simp [kupd]
  ·simp [kupd, hz]
 ·rcases h2.km with h1 | ⟨c, h1, h3⟩
  ·exact Or.inl h1
  ·exact Or.inr ⟨c, h1, (h3.keep hE.t (hmap c h3.kind)).keep td (by simpa using (h.kc c h1).2)⟩
 ·obtain ⟨A, B, h1, h3, h4⟩ := h2.lk
  have hlq : lastO none (rowOf i (num i x) CH) ≠ some q := fun e => (hl q e).2 rfl
  have hc := h1.added hE (fun p hp e => by
   obtain ⟨x', a', b', h5⟩ := hch p.1 (List.mem_map.2 ⟨p, hp, rfl⟩)
   rw [e, hr] at h5; simp at h5) hlq
  refine ⟨_, _, hc.keep td (fun p hp e => hmd p.1 (hch p.1 (List.mem_map.2 ⟨p, hp, rfl⟩)) (by simpa using e)), fun k hk hki n => ?_, fun k hk hki => ⟨?_, fun n => ?_⟩⟩
  ·by_cases e : k = i
   ·subst e
    rw [upd2_at, upd2_at]
    obtain ⟨hz, hlk⟩ := h4 k hk (Nat.le_refl k)
    by_cases e2 : num k x = n
    ·subst e2
     rw [erow]
     have hnd := row_nd nd k (num k x)
     rw [erow] at hnd
     exact (hlk (num k x)).snoc hnd hz (by simp)
    ·rw [row_snoc, if_neg e2]
     refine (hlk n).congr (fun z hz2 => ⟨?_, ?_⟩)
     ·unfold updO
      rw [if_neg]
      intro e3
      simp only [Option.some.injEq] at e3
      subst e3
      have := row_mem hz2
      rw [List.map_append, List.nodup_append] at nd
      exact nd.2.2 q this q (by simp) rfl
     ·unfold updO
      rw [if_neg]
      intro e3
      rcases lastO_mem e3 with e4 | e4
      ·cases e4
      ·obtain ⟨j1, hj1⟩ := List.getElem?_of_mem e4
       obtain ⟨j2, hj2⟩ := List.getElem?_of_mem hz2
       obtain ⟨p1, hp1, e5, _, e6⟩ := row_seats CH k _ j1 z hj1
       obtain ⟨p2, hp2, e7, _, e8⟩ := row_seats CH k _ j2 z hj2
       have : p1 = p2 := by
        have nd' : (CH.map Prod.fst).Nodup := by rw [List.map_append, List.nodup_append] at nd; exact nd.1
        obtain ⟨i1, hi1⟩ := List.getElem?_of_mem hp1
        obtain ⟨i2, hi2⟩ := List.getElem?_of_mem hp2
        have l1 := (List.getElem?_eq_some_iff.1 hi1).1
        have l2 := (List.getElem?_eq_some_iff.1 hi2).1
        have g1 : (CH.map Prod.fst)[i1]? = some z := by rw [List.getElem?_map, hi1]; simp [e5]
        have g2 : (CH.map Prod.fst)[i2]? = some z := by rw [List.getElem?_map, hi2]; simp [e7]
        have : i1 = i2 := (List.getElem?_inj (by simpa using l1) nd').1 (g1.trans g2.symm)
        subst this
        rw [hi1] at hi2
        exact Option.some.inj hi2
       rw [this, e8] at e6
       exact e2 e6.symm
   ·rw [upd2_ne _ e, upd2_ne _ e]
    exact h3 k hk (by omega) n
  ·have e : k ≠ i := by omega
   show upd2 B i _ _ k q = none
   rw [upd2_ne _ e]
   exact (h4 k hk (by omega)).1
  ·have e : k ≠ i := by omega
   rw [upd2_ne _ e, upd2_ne _ e]
   exact (h4 k hk (by omega)).2 n
 ·have t3 : Touch (fpM s b d mk (CH ++ [(q, x)])) wr W2 := (t2.mono (fun _ e => by cases e)).trans hE.t (fun z hz => by
   rcases hF z hz with e | e
   ·exact Or.inr (by omega)
   ·exact Or.inl (mem_fpS.2 (Or.inr (Or.inr (Or.inr (Or.inr e))))))
  exact t3.trans td (fun z hz => Or.inl (mem_fpS.2 (Or.inr (Or.inr (Or.inl (by simp at hz; rw [hz]))))))
end
end Go.Proofs.YtllchnancjgijaaGreat.Lv
