/- The contracts of Drop and leave; no conditions but those that each states. -/
import Derived.Test.YtllchnancjgijaaGreatQa01
import Derived.Laws.Externs
import Derived.WalkLawsBesides
import Derived.RangeFuncNested
import Derived.RangeFuncBound
import Derived.RangeFuncCalls
import Derived.RangeFuncLeaves
import Derived.Shelf.Abstract
import Derived.Shelf.RegionOpen
import Derived.OwnWalkIn
import Derived.TacticsInMore
import Derived.LoopNIn
import Derived.LoopIn
import Derived.Deep.CutRange
import Derived.Deep.CutBlock
set_option linter.unusedVariables false
set_option linter.unusedSimpArgs false
set_option maxRecDepth 100000
namespace Go.Proofs.YtllchnancjgijaaGreat.Me
open Go.RowKit Go.Sort Go.Maps Go.ChangeMaps Go.WideMaps
theorem Mf.pop {f : K → Option Value} {A B : List E} {e : E} (h : Mf f (A ++ e :: B)) (hn : ((A ++ e :: B).map Prod.fst).Nodup) : Mf (del f e.1) (A ++ B) := by
 obtain ⟨q1, q2, _, _⟩ := nd_mid hn
 refine ⟨fun e' he => ?_, fun j hj => ?_⟩
 ·unfold del
  rw [List.mem_append] at he
  rw [if_neg (he.elim (q1 e') (q2 e'))]
  exact h.1 e' (by simp only [List.mem_append, List.mem_cons]; exact he.elim Or.inl (fun h => Or.inr (Or.inr h)))
 ·unfold del
  by_cases ej : j = e.1
  ·rw [if_pos ej]
  ·rw [if_neg ej]
   refine h.2 j (fun h' => hj ?_)
   simp only [List.map_append, List.map_cons, List.mem_append, List.mem_cons] at h' ⊢
   rcases h' with h' | h' | h'
   ·exact Or.inl h'
   ·exact absurd h' ej
   ·exact Or.inr h'
def DpQ (w : World) (o : Nat) (m : Option Nat) (most : Int) (A B : List E) (e : E) (w' : World) : Prop :=
 Od w' o m most (A ++ B) ∧ Touch (fp o m (A ++ e :: B)) w w'
theorem drop_end {w w3 : World} {o b : Nat} {most : Int} {A B : List E} {e : E} {f : K → Option Value} (h : Od w o (some b) most (A ++ e :: B)) (hm : MapAt w b (A ++ e :: B).length f) (hf : Mf f (A ++ e :: B)) (t : RmS w o (some b) most A B e w3) :
  MapAt w3 b (A ++ e :: B).length f ∧ ∀ ob, MapAt (setBlock w3.drew b ob) b (if (f e.1).isSome then (A ++ e :: B).length - 1 else (A ++ e :: B).length) (YtllchnancjgijaaGreat.Me.del f e.1) → DpQ w o (some b) most A B e (setBlock w3.drew b ob) := by
 obtain ⟨h3, t3, a, z, hn⟩ := t
 have hm3 := hm.kept (t3.block b hm.lt (mapAt_away h hm))
 refine ⟨hm3, fun ob hs => ?_⟩
 have hbl : ∀ q ∈ fpL o (A ++ B), q ≠ b := fun q hq => by
  obtain ⟨cs, t, fr, hc⟩ := h3.cells q hq
  exact Ne.symm (hm3.ne_block hc)
 refine ⟨⟨Ln.setMap (w := w3.drew) (h3.heap rfl) hbl ob, (nd_mid h.nd).2.2.1, fun e' he => h.ok e' ?_, Or.inr ⟨b, _, rfl, ?_, hf.pop h.nd⟩⟩, ?_⟩
 ·simp only [List.mem_append, List.mem_cons] at he ⊢
  exact he.elim Or.inl (fun h => Or.inr (Or.inr h))
 ·rw [hf.1 e (by simp)] at hs
  have : (A ++ B).length = (A ++ e :: B).length - 1 := by simp only [List.length_append, List.length_cons]; omega
  rw [this]
  exact hs
 ·exact touch_setBlock ((t3.mono (fun i hi => fpL_fp hi)).drew) (Or.inl (by simp [fp])) ob
set_option maxHeartbeats 4000000 in
theorem drop18_yes (w : World) (o : Nat) (m : Option Nat) (most : Int) (A B : List E) (e : E) (h : Od w o m most (A ++ e :: B)) : Calls Tryz.prog 113 #[PT o, kv e.1] w fun x w' => x = .returned (.bool true) ∧ DpQ w o m most A B e w' := by
 obtain ⟨b, f, rfl, hm, hf⟩ : ∃ b f, m = some b ∧ MapAt w b (A ++ e :: B).length f ∧ Mf f (A ++ e :: B) := by
  rcases h.mp with ⟨_, e0⟩ | e0
  ·simp at e0
  ·exact e0
 have T0 : Touch [] w (w.alloc (bx e.1)) := (Touch.refl _ _).alloc _
 have HH := hid (has19_yes (w.alloc (bx e.1)) o (some b) most _ e (by simp) (h.keep0 T0))
 have HR : Hid (∀ w2, Touch [] w w2 → Calls Tryz.prog 164 #[LP o, PT e.2] w2 fun x w' => x = .returned (.tuple #[]) ∧ RmS w2 o (some b) most A B e w') := fun w2 t => rm w2 w2 o (some b) most A B e (h.keep0 t) (Touch.refl _ _)
 have HC : Hid (∀ w2, Touch [] w w2 → w2.cell? ⟨o, 1, none⟩ = some (.map (some b)) ∧ (Instr.lookup 226 (.map (some b)) (kv e.1) false).run Tryz.prog w2 = .ok (PT e.2) w2) := fun w2 t => ⟨(h.keep0 t).ln.oc.c1, (h.keep0 t).look_yes (by simp)⟩
 have HB := hid (box_cells w e.1)
 have HD : Hid (∀ w2 w3, Touch [] (w.alloc (bx e.1)) w2 → RmS w2.drew o (some b) most A B e w3 → w3.cell? ⟨o, 1, none⟩ = some (.map (some b)) ∧ w3.cell? ⟨w.heap.size, 0, none⟩ = some (.int .u16 e.1.1) ∧ w3.cell? ⟨w.heap.size, 1, none⟩ = some (.string e.1.2) ∧
   ∀ ty, ∃ ob, (Builtin.delete_ #[226, 35] ty #[.map (some b), kv e.1]).run Tryz.prog w3.drew = .ok (.tuple #[]) (setBlock w3.drew b ob) ∧ DpQ w o (some b) most A B e (setBlock w3.drew b ob)) := fun w2 w3 t2 r3 => by
  have T2 : Touch [] w w2.drew := (T0.trans' t2).drew
  have h2 := h.keep0 T2
  have hm2 := hm.kept (T2.block b hm.lt (by simp))
  have r3' := r3
  obtain ⟨h3, t3, a, z, hn⟩ := r3'
  have hbx : w3.heap[w.heap.size]? = some (bx e.1) := by
   have h1 := t2.keep (k := w.heap.size) (heap_alloc_new w (bx e.1)) (by simp)
   refine (t3.block _ ?_ (fun hh => ?_)).trans h1
   ·exact block_lt (w := w2) h1
   ·have := h.lt _ (fpL_fp hh)
    omega
  unfold bx at hbx
  refine ⟨h3.oc.c1, by simp [World.cell?, hbx], by simp [World.cell?, hbx], fun ty => ?_⟩
  obtain ⟨hm3, hD⟩ := drop_end h2 hm2 hf r3
  obtain ⟨ob, hu, hs⟩ := (show MapAt w3.drew b (A ++ e :: B).length f from hm3.kept rfl).del (t := 226) Tryz.underlying226 (h.ok e (by simp)) ty
  have := hD ob hs
  exact ⟨ob, hu, this.1, (T2.mono (fun _ e => by cases e)).trans' this.2⟩
 have hmx : Tryz.prog.follows .mixedOrders = true := by kernel_rfl
 clear h hm hf
 unfold PT kv LP bx at *
 go_enter Tryz.func113, Tryz.ntmps113
 go_wp2_with (go_at_call 163; refine HH.out.mono ?_; rintro x w2 ⟨rfl, t2⟩)
 have T2 := (T0.trans' t2).drew
 have c1 := (HC.out w2.drew T2).1
 have hl := (HC.out _ T2).2
 obtain ⟨b0, b1⟩ := HB.out w2.drew t2.drew
 go_region_with (go_at_call 164; refine (HR.out _ T2).mono ?_; rintro x w3 ⟨rfl, r3⟩; have R3 := hid r3; clear r3)
 all_goals
  obtain ⟨d1, d2, d3, d4⟩ := HD.out w2 w3 t2 R3.out
  obtain ⟨ob, hu, hd⟩ := d4 0
  have HQ := hid hd
  clear hd d4 c1 hl b0 b1
  generalize setBlock w3.drew b ob = W4 at *
  go_wp2
  go_region
  go_wp2
  go_ret
  exact ⟨rfl, HQ.out⟩
set_option maxHeartbeats 2000000 in
theorem leave31 (w : World) (o : Nat) (m : Option Nat) (most : Int) (x : E) (L : List E) (hl : L.length < 100000) (h : Od w o m most (x :: L)) : Calls Tryz.prog 197 #[PT o] w fun y w' => y = .returned (kv x.1) ∧ DpQ w o m most [] L x w' := by
 have HO : Hid (∀ w2, Touch [] w w2 → Calls Tryz.prog 205 #[PT o] w2 fun e w' => e = .returned (.tuple #[kv x.1, .bool true]) ∧ Touch [] w2 w') := fun w2 t => oldest16_cons w2 o m most x L hl (h.keep0 t)
 have HD : Hid (∀ w2, Touch [] w w2 → Calls Tryz.prog 113 #[PT o, kv x.1] w2 fun e w' => e = .returned (.bool true) ∧ DpQ w2 o m most [] L x w') := fun w2 t => drop18_yes w2 o m most [] L x (h.keep0 t)
 have HF : Hid (∀ k, k ∈ fp o m (x :: L) → k < w.heap.size) := h.lt
 clear h
 unfold PT kv at *
 go_enter Tryz.func197, Tryz.ntmps197
 go_wp2_with (go_at_call 205; refine (HO.out _ ((Touch.refl _ _).alloc _)).mono ?_; rintro y w2 ⟨rfl, t2⟩)
 have tw2 : Touch [] w w2 := ((Touch.refl _ _).alloc _).trans' t2
 refine (HD.out _ (tw2.alloc _)).mono ?_
 rintro y w3 ⟨rfl, r3⟩
 have hz2 := tw2.size
 have k1 : w3.heap[w2.heap.size]? = some (.cells #[.int .u16 x.1.1, .string x.1.2] 35 (0, 0)) := r3.2.keep (heap_alloc_new w2 _) (fun hh => by have := HF.out _ hh; omega)
 have k2 : w3.heap[w.heap.size]? = some (.cells #[.int .u16 0, .string ⟨#[]⟩] 35 (0, 0)) := by
  have h1 := t2.keep (k := w.heap.size) (heap_alloc_new w (.cells #[.int .u16 0, .string ⟨#[]⟩] 35)) (by simp)
  refine r3.2.keep ((Below.heap_alloc _ _ _ (block_lt h1)).trans h1) (fun hh => by have := HF.out _ hh; omega)
 have a0 : w3.cell? ⟨w2.heap.size, 0, none⟩ = some (.int .u16 x.1.1) := by simp [World.cell?, k1]
 have a1 : w3.cell? ⟨w2.heap.size, 1, none⟩ = some (.string x.1.2) := by simp [World.cell?, k1]
 have a2 : w3.cell? ⟨w.heap.size, 0, none⟩ = some (.int .u16 0) := by simp [World.cell?, k2]
 have a3 : w3.cell? ⟨w.heap.size, 1, none⟩ = some (.string ⟨#[]⟩) := by simp [World.cell?, k2]
 have a4 : ∀ i, w3.frozen? ⟨w.heap.size, i, none⟩ = false := fun i => by simp [World.frozen?, k2]
 have f0 := a4 0
 have f1 := a4 1
 have R : Hid (DpQ w o m most [] L x ((w3.setCell ⟨w.heap.size, 0, none⟩ (.int .u16 x.1.1)).setCell ⟨w.heap.size, 1, none⟩ (.string x.1.2))) := by
  have t5 : Touch [w.heap.size] w3 ((w3.setCell ⟨w.heap.size, 0, none⟩ (.int .u16 x.1.1)).setCell ⟨w.heap.size, 1, none⟩ (.string x.1.2)) := ((Touch.refl _ _).setCell (by simp) _).setCell (by simp) _
  refine ⟨r3.1.keep t5 (fun k hk hh => ?_), ((((tw2.alloc _).mono (fun _ e => by cases e)).trans' r3.2).trans t5 (fun i hi => by simp only [List.mem_singleton] at hi; subst hi; exact Or.inr (Nat.le_refl _)))⟩
  simp only [List.mem_singleton] at hh
  subst hh
  have : w.heap.size ∈ fp o m (x :: L) := by
   simp only [fp, List.nil_append, List.mem_cons, List.mem_append, List.map_cons] at hk ⊢
   rcases hk with hk | hk | hk
   ·exact Or.inl hk
   ·exact Or.inr (Or.inl hk)
   ·exact Or.inr (Or.inr (Or.inr hk))
  have := HF.out _ this
  omega
 clear r3 k1 k2 a4 t2 tw2
 go_wp2
 refine bodyPost_ret (v := .agg #[.int .u16 x.1.1, .string x.1.2]) (by simp [results, Tryz.results197, go_sem, a2, a3]) rfl ⟨rfl, ?_⟩
 exact R.out
end Go.Proofs.YtllchnancjgijaaGreat.Me
/- An order as a plain list of keys: what Touch, Drop, Has, Len, Most, Oldest, enter and leave make of it; no conditions but those that each states. -/
namespace Go.Proofs.YtllchnancjgijaaGreat.Me
open Go.RowKit Go.Sort Go.Maps Go.ChangeMaps Go.WideMaps
def Oq (w : World) (o : Nat) (F : List Nat) (most : Int) (xs : List K) : Prop := ∃ m L, F = fp o m L ∧ xs = L.map Prod.fst ∧ Od w o m most L
def dr (xs : List K) (k : K) : List K := xs.filter (fun x => decide (x ≠ k))
def hs (xs : List K) (k : K) : Bool := xs.any (fun x => decide (x = k))
theorem hs_yes {xs : List K} {k : K} (h : k ∈ xs) : hs xs k = true := by
 unfold hs
 rw [List.any_eq_true]
 exact ⟨k, h, decide_eq_true rfl⟩
theorem hs_no {xs : List K} {k : K} (h : ¬ k ∈ xs) : hs xs k = false := by
 unfold hs
 rw [List.any_eq_false]
 intro x hx
 simp only [decide_eq_true_eq]
 exact fun e => h (e ▸ hx)
theorem dr_no {xs : List K} {k : K} (h : ¬ k ∈ xs) : dr xs k = xs := by
 unfold dr
 rw [List.filter_eq_self]
 intro a ha
 exact decide_eq_true (fun e => h (e ▸ ha))
theorem dr_mid {A B : List K} {k : K} (ha : ∀ x ∈ A, x ≠ k) (hb : ∀ x ∈ B, x ≠ k) : dr (A ++ k :: B) k = A ++ B := by
 unfold dr
 rw [List.filter_append, List.filter_cons]
 simp only [ne_eq, not_true_eq_false, decide_false, Bool.false_eq_true, if_false]
 have h1 : List.filter (fun x => decide (¬ x = k)) A = A := List.filter_eq_self.2 (fun x hx => decide_eq_true (ha x hx))
 have h2 : List.filter (fun x => decide (¬ x = k)) B = B := List.filter_eq_self.2 (fun x hx => decide_eq_true (hb x hx))
 rw [h1, h2]
theorem dr_pairs {A B : List E} {e : E} (h : ((A ++ e :: B).map Prod.fst).Nodup) : dr ((A ++ e :: B).map Prod.fst) e.1 = (A ++ B).map Prod.fst := by
 obtain ⟨q1, q2, _, _⟩ := nd_mid h
 rw [List.map_append, List.map_cons, dr_mid, List.map_append]
 ·intro x hx
  obtain ⟨e', he, rfl⟩ := List.mem_map.1 hx
  exact q1 e' he
 ·intro x hx
  obtain ⟨e', he, rfl⟩ := List.mem_map.1 hx
  exact q2 e' he
section
variable {w w' : World} {o : Nat} {F G : List Nat} {most : Int} {xs : List K}
theorem Oq.keep (h : Oq w o F most xs) (ht : Touch G w w') (hn : ∀ k, k ∈ F → ¬ k ∈ G) : Oq w' o F most xs := by
 obtain ⟨m, L, rfl, rfl, t⟩ := h
 exact ⟨m, L, rfl, rfl, t.keep ht hn⟩
theorem Oq.keep0 (h : Oq w o F most xs) (ht : Touch [] w w') : Oq w' o F most xs := h.keep ht (fun _ _ e => by cases e)
theorem Oq.lt (h : Oq w o F most xs) : ∀ k, k ∈ F → k < w.heap.size := by
 obtain ⟨m, L, rfl, rfl, t⟩ := h
 exact t.lt
theorem Oq.nd (h : Oq w o F most xs) : xs.Nodup := by
 obtain ⟨m, L, rfl, rfl, t⟩ := h
 exact t.nd
theorem Oq.ok (h : Oq w o F most xs) : ∀ k ∈ xs, Ok k := by
 obtain ⟨m, L, rfl, rfl, t⟩ := h
 intro k hk
 obtain ⟨e, he, rfl⟩ := List.mem_map.1 hk
 exact t.ok e he
theorem Oq.c0 (h : Oq w o F most xs) : w.cell? ⟨o, 0, none⟩ = some (.int .i64 most) := by
 obtain ⟨m, L, rfl, rfl, t⟩ := h
 exact t.ln.oc.c0
end
def Ch (w : World) (o : Nat) (F : List Nat) (most : Int) (ys : List K) (w' : World) : Prop := ∃ F', Oq w' o F' most ys ∧ Touch F w w' ∧ Nf w F F'
theorem Ch.keep0 {w w1 w2 : World} {o : Nat} {F : List Nat} {most : Int} {ys : List K} (h : Ch w o F most ys w1) (t : Touch [] w1 w2) : Ch w o F most ys w2 := by
 obtain ⟨F', h1, h2, h3⟩ := h
 exact ⟨F', h1.keep0 t, h2.trans' (t.mono (fun _ e => by cases e)), h3⟩
theorem Ch.block {w w1 : World} {o : Nat} {F : List Nat} {most : Int} {ys : List K} (h : Ch w o F most ys w1) {k : Nat} {ob : Obj} (hk : w.heap[k]? = some ob) (hn : ¬ k ∈ F) : w1.heap[k]? = some ob := by
 obtain ⟨F', h1, h2, h3⟩ := h
 exact h2.keep hk hn
theorem Ch.own {w w1 w2 : World} {o : Nat} {F : List Nat} {most : Int} {ys : List K} (h : Ch w o F most ys w1) {r : Nat} (t : Touch [r] w1 w2) (w0 : World) (h0 : Touch [] w0 w) (hr : w0.heap.size ≤ r) (hr' : r < w.heap.size) (hF : ∀ k, k ∈ F → k < w0.heap.size) : Ch w0 o F most ys w2 := by
 obtain ⟨F', h1, h2, h3⟩ := h
 refine ⟨F', h1.keep t (fun k hk hh => ?_), ((h0.mono (fun _ e => by cases e)).trans' h2).trans t (fun i hi => by simp only [List.mem_singleton] at hi; subst hi; exact Or.inr hr), fun k hk => (h3 k hk).elim Or.inl (fun e => Or.inr (Nat.le_trans h0.size e))⟩
 simp only [List.mem_singleton] at hh
 subst hh
 rcases h3 k hk with e | e
 ·have := hF k e; omega
 ·omega
theorem lenO (w : World) (o : Nat) (F : List Nat) (most : Int) (xs : List K) (h : Oq w o F most xs) : Calls Tryz.prog 196 #[PT o] w fun x w' => x = .returned (.int .i64 xs.length) ∧ w' = w := by
 obtain ⟨m, L, rfl, rfl, t⟩ := h
 rw [List.length_map]
 exact len20 w o m most L t
def kz : K := (0, ⟨#[]⟩)
theorem touchO_no (w : World) (o : Nat) (F : List Nat) (most : Int) (xs : List K) (k : K) (hk : Ok k) (hn : ¬ k ∈ xs) (h : Oq w o F most xs) : Calls Tryz.prog 132 #[PT o, kv k] w fun x w' => x = .returned (.bool false) ∧ Touch [] w w' := by
 obtain ⟨m, L, rfl, rfl, t⟩ := h
 exact touch17_no w o m most L k hk hn t
theorem touchO_yes (w : World) (o : Nat) (F : List Nat) (most : Int) (xs : List K) (k : K) (hn : k ∈ xs) (h : Oq w o F most xs) : Calls Tryz.prog 132 #[PT o, kv k] w fun x w' => x = .returned (.bool true) ∧ Ch w o F most (dr xs k ++ [k]) w' := by
 obtain ⟨m, L, rfl, rfl, t⟩ := h
 obtain ⟨A, e, B, rfl, rfl⟩ := find_key hn
 refine (touch17_yes w o m most A B e t).mono ?_
 rintro x w' ⟨rfl, h1, h2⟩
 refine ⟨rfl, _, ⟨m, _, rfl, ?_, h1⟩, h2, fun i hi => Or.inl ?_⟩
 ·rw [dr_pairs t.nd]; simp
 ·simp only [fp, List.map_append, List.map_cons, List.map_nil, List.mem_cons, List.mem_append, List.not_mem_nil, or_false] at hi ⊢
  rcases hi with hi | hi | (hi | hi) | hi
  ·exact Or.inl hi
  ·exact Or.inr (Or.inl hi)
  ·exact Or.inr (Or.inr (Or.inl hi))
  ·exact Or.inr (Or.inr (Or.inr (Or.inr hi)))
  ·exact Or.inr (Or.inr (Or.inr (Or.inl hi)))
theorem fp_sub {o : Nat} {m : Option Nat} {A B : List E} {e : E} {i : Nat} (hi : i ∈ fp o m (A ++ B)) : i ∈ fp o m (A ++ e :: B) := by
 simp only [fp, List.map_append, List.map_cons, List.mem_cons, List.mem_append] at hi ⊢
 rcases hi with hi | hi | hi | hi
 ·exact Or.inl hi
 ·exact Or.inr (Or.inl hi)
 ·exact Or.inr (Or.inr (Or.inl hi))
 ·exact Or.inr (Or.inr (Or.inr (Or.inr hi)))
theorem enterO (w : World) (o : Nat) (F : List Nat) (most : Int) (xs : List K) (k : K) (hk : Ok k) (hn : ¬ k ∈ xs) (hl : xs.length < 100000) (h : Oq w o F most xs) : Calls Tryz.prog 181 #[PT o, kv k] w fun x w' => x = .returned (.tuple #[]) ∧ Ch w o F most (xs ++ [k]) w' := by
 obtain ⟨m, L, rfl, rfl, t⟩ := h
 refine (enter30 w o m most L k hk hn (by simpa using hl) t).mono ?_
 rintro x w' ⟨rfl, m', p, h1, h2, h3⟩
 exact ⟨rfl, _, ⟨m', _, rfl, by simp, h1⟩, h2, h3⟩
theorem leaveO (w : World) (o : Nat) (F : List Nat) (most : Int) (k : K) (xs : List K) (hl : xs.length < 100000) (h : Oq w o F most (k :: xs)) : Calls Tryz.prog 197 #[PT o] w fun x w' => x = .returned (kv k) ∧ Ch w o F most xs w' := by
 obtain ⟨m, L, rfl, hx, t⟩ := h
 cases L with
 | nil => cases hx
 | cons e L =>
  simp only [List.map_cons, List.cons.injEq] at hx
  obtain ⟨rfl, rfl⟩ := hx
  refine (leave31 w o m most e L (by simpa using hl) t).mono ?_
  rintro x w' ⟨rfl, h1, h2⟩
  exact ⟨rfl, _, ⟨m, _, rfl, rfl, h1⟩, h2, fun i hi => Or.inl (fp_sub (A := []) hi)⟩
end Go.Proofs.YtllchnancjgijaaGreat.Me
/- The contract of Use; the key may be, and there are at most seventy thousand. -/
namespace Go.Proofs.YtllchnancjgijaaGreat.Me
open Go.RowKit Go.Sort Go.Maps Go.ChangeMaps Go.WideMaps
theorem ch_comp {w w1 w2 : World} {o : Nat} {F F1 : List Nat} {most : Int} {zs : List K} (a2 : Touch F w w1) (a3 : Nf w F F1) (h : Ch w1 o F1 most zs w2) : Ch w o F most zs w2 := by
 obtain ⟨F2, b1, b2, b3⟩ := h
 exact ⟨F2, b1, a2.trans b2 a3, a3.trans b3 a2.size⟩
set_option maxHeartbeats 4000000 in
theorem use11_yf (w : World) (o : Nat) (F : List Nat) (most : Int) (xs ys : List K) (k : K) (hk : Ok k) (h64 : k.2.size ≤ 64) (hl : xs.length ≤ 70000) (hy : ys = dr xs k ++ [k]) (hn : k ∈ xs) (hf : (ys.length : Int) ≤ most) (h : Oq w o F most xs) :
  Calls Tryz.prog 168 #[PT o, kv k] w fun e w' => e = .returned (.tuple #[kv kz, .bool false, .int .i64 0]) ∧ Ch w o F most ys w' := by
 have hF := hid h.lt
 obtain ⟨V, hV⟩ : ∃ V, V = (w.alloc (bx k)).alloc (bx kz) := ⟨_, rfl⟩
 have TV : Touch [] w V := by rw [hV]; exact ((Touch.refl _ _).alloc _).alloc _
 have B0 : V.heap[w.heap.size]? = some (bx k) := by rw [hV]; exact (Below.heap_alloc _ _ _ (by simp)).trans (heap_alloc_new w _)
 have B1 : V.heap[w.heap.size + 1]? = some (bx kz) := by
  rw [hV]
  have := heap_alloc_new (w.alloc (bx k)) (bx kz)
  rwa [World.size_alloc] at this
 have hz : w.heap.size + 1 < V.heap.size := by rw [hV]; simp
 have HC := hid (check29_ok V k h64)
 have hlen : ys.length < 100000 := by
  have := List.length_filter_le (fun x => decide (x ≠ k)) xs
  rw [hy]
  unfold dr
  simp only [List.length_append, List.length_singleton]
  omega
 have HT : Hid (∀ w2, Touch [] V w2 → Calls Tryz.prog 132 #[PT o, kv k] w2 fun x w' => x = .returned (.bool true) ∧ Ch w2 o F most ys w') := fun w2 t => by
  rw [hy]
  exact touchO_yes w2 o F most xs k hn (h.keep0 (TV.trans' t))
 have HL : Hid (∀ w2 w3, Ch w2 o F most ys w3 → Calls Tryz.prog 196 #[PT o] w3 fun x w' => x = .returned (.int .i64 ys.length) ∧ w' = w3) := fun w2 w3 c => by
  obtain ⟨F', c1, _⟩ := c
  exact lenO w3 o F' most _ c1
 have HM : Hid (∀ w2 w3, Ch w2 o F most ys w3 → w3.cell? ⟨o, 0, none⟩ = some (.int .i64 most)) := fun w2 w3 c => by
  obtain ⟨F', c1, _⟩ := c
  exact c1.c0
 have HB : Hid (∀ w2 w3 ys, Touch [] V w2 → Ch w2 o F most ys w3 → w3.heap[w.heap.size]? = some (bx k) ∧ w3.heap[w.heap.size + 1]? = some (bx kz)) := fun w2 w3 ys t c => by
  refine ⟨c.block (t.keep B0 (by simp)) (fun hh => ?_), c.block (t.keep B1 (by simp)) (fun hh => ?_)⟩
  ·have := hF.out _ hh; omega
  ·have := hF.out _ hh; omega
 have HK : Hid (∀ w2, Touch [] V w2 → w2.cell? ⟨w.heap.size, 0, none⟩ = some (.int .u16 k.1) ∧ w2.cell? ⟨w.heap.size, 1, none⟩ = some (.string k.2)) := fun w2 t => by
  have h1 := t.keep B0 (by simp)
  unfold bx at h1
  simp [World.cell?, h1]
 have HZ : Hid (∀ w2 w3, Touch [] V w2 → Ch w2 o F most ys w3 → (w3.cell? ⟨w.heap.size + 1, 0, none⟩ = some (.int .u16 0) ∧ w3.cell? ⟨w.heap.size + 1, 1, none⟩ = some (.string ⟨#[]⟩) ∧ w3.frozen? ⟨w.heap.size + 1, 0, none⟩ = false ∧ w3.frozen? ⟨w.heap.size + 1, 1, none⟩ = false) ∧ Ch w o F most ys ((w3.setCell ⟨w.heap.size + 1, 0, none⟩ (.int .u16 kz.1)).setCell ⟨w.heap.size + 1, 1, none⟩ (.string kz.2))) := fun w2 w3 t c => by
  have h1 := (HB.out w2 w3 _ t c).2
  unfold bx at h1
  refine ⟨⟨by simp [World.cell?, h1, kz], by simp [World.cell?, h1, kz], by simp [World.frozen?, h1], by simp [World.frozen?, h1]⟩, ?_⟩
  refine c.own (r := w.heap.size + 1) (((Touch.refl _ _).setCell (by simp) _).setCell (by simp) _) w (TV.trans' t) (by omega) (by have := t.size; omega) hF.out
 have TR : Hid (Touch [] V V) := Touch.refl _ _
 have hlI : (ys.length : Int) < 100000 := by omega
 clear h hk h64 hl hlen TV B0 B1 hz hF hy hn
 generalize (ys.length : Int) = n at *
 subst hV
 unfold PT kv at *
 unfold bx at *
 unfold kz at *
 go_enter Tryz.func168, Tryz.ntmps168
 go_wp2_with (first
  | (go_at_call 85; refine HC.out.mono ?_; rintro x w2 ⟨rfl, t2⟩; obtain ⟨b0, b1⟩ := HK.out w2 t2; have T2 := hid t2; clear t2)
  | (go_at_call 132; refine (HT.out _ T2.out).mono ?_; rintro x w3 ⟨rfl, c3⟩; have C3 := hid c3; have m0 := HM.out _ _ c3; clear c3 b0 b1))
 go_quiet ((go_at_call 196; exact Calls.quiet_of_same (HL.out _ _ (C3.out.keep0 ((Touch.refl _ _).drewN _)))))
 have C4 := hid (C3.out.keep0 ((Touch.refl [] w3).drewN nq))
 obtain ⟨⟨z0, z1, z2, z3⟩, r⟩ := HZ.out _ _ T2.out C4.out
 have R := hid r
 clear r
 go_wp2
 exact bodyPost_ret (v := .tuple #[.agg #[.int .u16 0, .string ⟨#[]⟩], .bool false, .int .i64 0]) (by simp [results, Tryz.results168, go_sem, z0, z1]) rfl ⟨rfl, R.out⟩
set_option maxHeartbeats 4000000 in
theorem use11_yo (w : World) (o : Nat) (F : List Nat) (most : Int) (xs ys : List K) (k : K) (hk : Ok k) (h64 : k.2.size ≤ 64) (hl : xs.length ≤ 70000) (hy : ys = dr xs k ++ [k]) (hn : k ∈ xs) (hf : most < (ys.length : Int)) (g : K) (zs : List K) (hg : ys = g :: zs) (h : Oq w o F most xs) :
  Calls Tryz.prog 168 #[PT o, kv k] w fun e w' => e = .returned (.tuple #[kv g, .bool true, .int .i64 0]) ∧ Ch w o F most zs w' := by
 have hF := hid h.lt
 obtain ⟨V, hV⟩ : ∃ V, V = (w.alloc (bx k)).alloc (bx kz) := ⟨_, rfl⟩
 have TV : Touch [] w V := by rw [hV]; exact ((Touch.refl _ _).alloc _).alloc _
 have B0 : V.heap[w.heap.size]? = some (bx k) := by rw [hV]; exact (Below.heap_alloc _ _ _ (by simp)).trans (heap_alloc_new w _)
 have B1 : V.heap[w.heap.size + 1]? = some (bx kz) := by
  rw [hV]
  have := heap_alloc_new (w.alloc (bx k)) (bx kz)
  rwa [World.size_alloc] at this
 have hz : w.heap.size + 1 < V.heap.size := by rw [hV]; simp
 have HC := hid (check29_ok V k h64)
 have hlen : ys.length < 100000 := by
  have := List.length_filter_le (fun x => decide (x ≠ k)) xs
  rw [hy]
  unfold dr
  simp only [List.length_append, List.length_singleton]
  omega
 have HT : Hid (∀ w2, Touch [] V w2 → Calls Tryz.prog 132 #[PT o, kv k] w2 fun x w' => x = .returned (.bool true) ∧ Ch w2 o F most ys w') := fun w2 t => by
  rw [hy]
  exact touchO_yes w2 o F most xs k hn (h.keep0 (TV.trans' t))
 have HL : Hid (∀ w2 w3, Ch w2 o F most ys w3 → Calls Tryz.prog 196 #[PT o] w3 fun x w' => x = .returned (.int .i64 ys.length) ∧ w' = w3) := fun w2 w3 c => by
  obtain ⟨F', c1, _⟩ := c
  exact lenO w3 o F' most _ c1
 have HM : Hid (∀ w2 w3, Ch w2 o F most ys w3 → w3.cell? ⟨o, 0, none⟩ = some (.int .i64 most)) := fun w2 w3 c => by
  obtain ⟨F', c1, _⟩ := c
  exact c1.c0
 have HV : Hid (∀ w2 w3, Ch w2 o F most ys w3 → Calls Tryz.prog 197 #[PT o] w3 fun x w' => x = .returned (kv g) ∧ Ch w2 o F most zs w') := fun w2 w3 c => by
  obtain ⟨F', c1, a2, a3⟩ := c
  rw [hg] at c1 hlen
  refine (leaveO w3 o F' most g zs (by simp at hlen; omega) c1).mono ?_
  rintro x w' ⟨rfl, c2⟩
  exact ⟨rfl, ch_comp a2 a3 c2⟩
 have HB : Hid (∀ w2 w3 ys, Touch [] V w2 → Ch w2 o F most ys w3 → w3.heap[w.heap.size]? = some (bx k) ∧ w3.heap[w.heap.size + 1]? = some (bx kz)) := fun w2 w3 ys t c => by
  refine ⟨c.block (t.keep B0 (by simp)) (fun hh => ?_), c.block (t.keep B1 (by simp)) (fun hh => ?_)⟩
  ·have := hF.out _ hh; omega
  ·have := hF.out _ hh; omega
 have HK : Hid (∀ w2, Touch [] V w2 → w2.cell? ⟨w.heap.size, 0, none⟩ = some (.int .u16 k.1) ∧ w2.cell? ⟨w.heap.size, 1, none⟩ = some (.string k.2)) := fun w2 t => by
  have h1 := t.keep B0 (by simp)
  unfold bx at h1
  simp [World.cell?, h1]
 have HZ : Hid (∀ w2 w3, Touch [] V w2 → Ch w2 o F most zs w3 → (w3.cell? ⟨w.heap.size + 1, 0, none⟩ = some (.int .u16 0) ∧ w3.cell? ⟨w.heap.size + 1, 1, none⟩ = some (.string ⟨#[]⟩) ∧ w3.frozen? ⟨w.heap.size + 1, 0, none⟩ = false ∧ w3.frozen? ⟨w.heap.size + 1, 1, none⟩ = false) ∧ Ch w o F most zs ((w3.setCell ⟨w.heap.size + 1, 0, none⟩ (.int .u16 g.1)).setCell ⟨w.heap.size + 1, 1, none⟩ (.string g.2))) := fun w2 w3 t c => by
  have h1 := (HB.out w2 w3 _ t c).2
  unfold bx at h1
  refine ⟨⟨by simp [World.cell?, h1, kz], by simp [World.cell?, h1, kz], by simp [World.frozen?, h1], by simp [World.frozen?, h1]⟩, ?_⟩
  refine c.own (r := w.heap.size + 1) (((Touch.refl _ _).setCell (by simp) _).setCell (by simp) _) w (TV.trans' t) (by omega) (by have := t.size; omega) hF.out
 have TR : Hid (Touch [] V V) := Touch.refl _ _
 have hlI : (ys.length : Int) < 100000 := by omega
 clear h hk h64 hl hlen TV B0 B1 hz hF hy hn
 generalize (ys.length : Int) = n at *
 subst hV
 unfold PT kv at *
 unfold bx at *
 unfold kz at *
 go_enter Tryz.func168, Tryz.ntmps168
 go_wp2_with (first
  | (go_at_call 85; refine HC.out.mono ?_; rintro x w2 ⟨rfl, t2⟩; obtain ⟨b0, b1⟩ := HK.out w2 t2; have T2 := hid t2; clear t2)
  | (go_at_call 132; refine (HT.out _ T2.out).mono ?_; rintro x w3 ⟨rfl, c3⟩; have C3 := hid c3; have m0 := HM.out _ _ c3; clear c3 b0 b1))
 go_quiet ((go_at_call 196; exact Calls.quiet_of_same (HL.out _ _ (C3.out.keep0 ((Touch.refl _ _).drewN _)))))
 have C4 := hid (C3.out.keep0 ((Touch.refl [] w3).drewN nq))
 go_wp2_with (go_at_call 197; refine (HV.out _ _ C4.out).mono ?_; rintro x w5 ⟨rfl, c5⟩; obtain ⟨⟨z0, z1, z2, z3⟩, r⟩ := HZ.out _ _ T2.out c5; have R := hid r; clear r c5)
 exact bodyPost_ret (v := .tuple #[.agg #[.int .u16 g.1, .string g.2], .bool true, .int .i64 0]) (by simp [results, Tryz.results168, go_sem, z0, z1]) rfl ⟨rfl, R.out⟩
set_option maxHeartbeats 4000000 in
theorem use11_nf (w : World) (o : Nat) (F : List Nat) (most : Int) (xs ys : List K) (k : K) (hk : Ok k) (h64 : k.2.size ≤ 64) (hl : xs.length ≤ 70000) (hy : ys = dr xs k ++ [k]) (hn : ¬ k ∈ xs) (hf : (ys.length : Int) ≤ most) (h : Oq w o F most xs) :
  Calls Tryz.prog 168 #[PT o, kv k] w fun e w' => e = .returned (.tuple #[kv kz, .bool false, .int .i64 0]) ∧ Ch w o F most ys w' := by
 have hF := hid h.lt
 obtain ⟨V, hV⟩ : ∃ V, V = (w.alloc (bx k)).alloc (bx kz) := ⟨_, rfl⟩
 have TV : Touch [] w V := by rw [hV]; exact ((Touch.refl _ _).alloc _).alloc _
 have B0 : V.heap[w.heap.size]? = some (bx k) := by rw [hV]; exact (Below.heap_alloc _ _ _ (by simp)).trans (heap_alloc_new w _)
 have B1 : V.heap[w.heap.size + 1]? = some (bx kz) := by
  rw [hV]
  have := heap_alloc_new (w.alloc (bx k)) (bx kz)
  rwa [World.size_alloc] at this
 have hz : w.heap.size + 1 < V.heap.size := by rw [hV]; simp
 have HC := hid (check29_ok V k h64)
 have hlen : ys.length < 100000 := by
  have := List.length_filter_le (fun x => decide (x ≠ k)) xs
  rw [hy]
  unfold dr
  simp only [List.length_append, List.length_singleton]
  omega
 have HT : Hid (∀ w2, Touch [] V w2 → Calls Tryz.prog 132 #[PT o, kv k] w2 fun x w' => x = .returned (.bool false) ∧ Touch [] w2 w') := fun w2 t => touchO_no w2 o F most xs k hk hn (h.keep0 (TV.trans' t))
 have HE : Hid (∀ w2, Touch [] V w2 → Calls Tryz.prog 181 #[PT o, kv k] w2 fun x w' => x = .returned (.tuple #[]) ∧ Ch w2 o F most ys w') := fun w2 t => by
  rw [hy, dr_no hn]
  exact enterO w2 o F most xs k hk hn (by omega) (h.keep0 (TV.trans' t))
 have HL : Hid (∀ w2 w3, Ch w2 o F most ys w3 → Calls Tryz.prog 196 #[PT o] w3 fun x w' => x = .returned (.int .i64 ys.length) ∧ w' = w3) := fun w2 w3 c => by
  obtain ⟨F', c1, _⟩ := c
  exact lenO w3 o F' most _ c1
 have HM : Hid (∀ w2 w3, Ch w2 o F most ys w3 → w3.cell? ⟨o, 0, none⟩ = some (.int .i64 most)) := fun w2 w3 c => by
  obtain ⟨F', c1, _⟩ := c
  exact c1.c0
 have HB : Hid (∀ w2 w3 ys, Touch [] V w2 → Ch w2 o F most ys w3 → w3.heap[w.heap.size]? = some (bx k) ∧ w3.heap[w.heap.size + 1]? = some (bx kz)) := fun w2 w3 ys t c => by
  refine ⟨c.block (t.keep B0 (by simp)) (fun hh => ?_), c.block (t.keep B1 (by simp)) (fun hh => ?_)⟩
  ·have := hF.out _ hh; omega
  ·have := hF.out _ hh; omega
 have HK : Hid (∀ w2, Touch [] V w2 → w2.cell? ⟨w.heap.size, 0, none⟩ = some (.int .u16 k.1) ∧ w2.cell? ⟨w.heap.size, 1, none⟩ = some (.string k.2)) := fun w2 t => by
  have h1 := t.keep B0 (by simp)
  unfold bx at h1
  simp [World.cell?, h1]
 have HZ : Hid (∀ w2 w3, Touch [] V w2 → Ch w2 o F most ys w3 → (w3.cell? ⟨w.heap.size + 1, 0, none⟩ = some (.int .u16 0) ∧ w3.cell? ⟨w.heap.size + 1, 1, none⟩ = some (.string ⟨#[]⟩) ∧ w3.frozen? ⟨w.heap.size + 1, 0, none⟩ = false ∧ w3.frozen? ⟨w.heap.size + 1, 1, none⟩ = false) ∧ Ch w o F most ys ((w3.setCell ⟨w.heap.size + 1, 0, none⟩ (.int .u16 kz.1)).setCell ⟨w.heap.size + 1, 1, none⟩ (.string kz.2))) := fun w2 w3 t c => by
  have h1 := (HB.out w2 w3 _ t c).2
  unfold bx at h1
  refine ⟨⟨by simp [World.cell?, h1, kz], by simp [World.cell?, h1, kz], by simp [World.frozen?, h1], by simp [World.frozen?, h1]⟩, ?_⟩
  refine c.own (r := w.heap.size + 1) (((Touch.refl _ _).setCell (by simp) _).setCell (by simp) _) w (TV.trans' t) (by omega) (by have := t.size; omega) hF.out
 have TR : Hid (Touch [] V V) := Touch.refl _ _
 have hlI : (ys.length : Int) < 100000 := by omega
 clear h hk h64 hl hlen TV B0 B1 hz hF hy hn
 generalize (ys.length : Int) = n at *
 subst hV
 unfold PT kv at *
 unfold bx at *
 unfold kz at *
 go_enter Tryz.func168, Tryz.ntmps168
 go_wp2_with (first
  | (go_at_call 85; refine HC.out.mono ?_; rintro x w2 ⟨rfl, t2⟩; obtain ⟨b0, b1⟩ := HK.out w2 t2; have T2 := hid t2; clear t2)
  | (go_at_call 132; refine (HT.out _ T2.out).mono ?_; rintro x w4 ⟨rfl, t4⟩; have T4 := hid (T2.out.trans' t4); clear t4 b0 b1; obtain ⟨b0, b1⟩ := HK.out w4 T4.out)
  | (go_at_call 181; refine (HE.out _ T4.out).mono ?_; rintro x w3 ⟨rfl, c3⟩; have C3 := hid c3; have m0 := HM.out _ _ c3; clear c3 b0 b1))
 go_quiet ((go_at_call 196; exact Calls.quiet_of_same (HL.out _ _ (C3.out.keep0 ((Touch.refl _ _).drewN _)))))
 have C4 := hid (C3.out.keep0 ((Touch.refl [] w3).drewN nq))
 obtain ⟨⟨z0, z1, z2, z3⟩, r⟩ := HZ.out _ _ T4.out C4.out
 have R := hid r
 clear r
 go_wp2
 exact bodyPost_ret (v := .tuple #[.agg #[.int .u16 0, .string ⟨#[]⟩], .bool false, .int .i64 0]) (by simp [results, Tryz.results168, go_sem, z0, z1]) rfl ⟨rfl, R.out⟩
set_option maxHeartbeats 4000000 in
theorem use11_no (w : World) (o : Nat) (F : List Nat) (most : Int) (xs ys : List K) (k : K) (hk : Ok k) (h64 : k.2.size ≤ 64) (hl : xs.length ≤ 70000) (hy : ys = dr xs k ++ [k]) (hn : ¬ k ∈ xs) (hf : most < (ys.length : Int)) (g : K) (zs : List K) (hg : ys = g :: zs) (h : Oq w o F most xs) :
  Calls Tryz.prog 168 #[PT o, kv k] w fun e w' => e = .returned (.tuple #[kv g, .bool true, .int .i64 0]) ∧ Ch w o F most zs w' := by
 have hF := hid h.lt
 obtain ⟨V, hV⟩ : ∃ V, V = (w.alloc (bx k)).alloc (bx kz) := ⟨_, rfl⟩
 have TV : Touch [] w V := by rw [hV]; exact ((Touch.refl _ _).alloc _).alloc _
 have B0 : V.heap[w.heap.size]? = some (bx k) := by rw [hV]; exact (Below.heap_alloc _ _ _ (by simp)).trans (heap_alloc_new w _)
 have B1 : V.heap[w.heap.size + 1]? = some (bx kz) := by
  rw [hV]
  have := heap_alloc_new (w.alloc (bx k)) (bx kz)
  rwa [World.size_alloc] at this
 have hz : w.heap.size + 1 < V.heap.size := by rw [hV]; simp
 have HC := hid (check29_ok V k h64)
 have hlen : ys.length < 100000 := by
  have := List.length_filter_le (fun x => decide (x ≠ k)) xs
  rw [hy]
  unfold dr
  simp only [List.length_append, List.length_singleton]
  omega
 have HT : Hid (∀ w2, Touch [] V w2 → Calls Tryz.prog 132 #[PT o, kv k] w2 fun x w' => x = .returned (.bool false) ∧ Touch [] w2 w') := fun w2 t => touchO_no w2 o F most xs k hk hn (h.keep0 (TV.trans' t))
 have HE : Hid (∀ w2, Touch [] V w2 → Calls Tryz.prog 181 #[PT o, kv k] w2 fun x w' => x = .returned (.tuple #[]) ∧ Ch w2 o F most ys w') := fun w2 t => by
  rw [hy, dr_no hn]
  exact enterO w2 o F most xs k hk hn (by omega) (h.keep0 (TV.trans' t))
 have HL : Hid (∀ w2 w3, Ch w2 o F most ys w3 → Calls Tryz.prog 196 #[PT o] w3 fun x w' => x = .returned (.int .i64 ys.length) ∧ w' = w3) := fun w2 w3 c => by
  obtain ⟨F', c1, _⟩ := c
  exact lenO w3 o F' most _ c1
 have HM : Hid (∀ w2 w3, Ch w2 o F most ys w3 → w3.cell? ⟨o, 0, none⟩ = some (.int .i64 most)) := fun w2 w3 c => by
  obtain ⟨F', c1, _⟩ := c
  exact c1.c0
 have HV : Hid (∀ w2 w3, Ch w2 o F most ys w3 → Calls Tryz.prog 197 #[PT o] w3 fun x w' => x = .returned (kv g) ∧ Ch w2 o F most zs w') := fun w2 w3 c => by
  obtain ⟨F', c1, a2, a3⟩ := c
  rw [hg] at c1 hlen
  refine (leaveO w3 o F' most g zs (by simp at hlen; omega) c1).mono ?_
  rintro x w' ⟨rfl, c2⟩
  exact ⟨rfl, ch_comp a2 a3 c2⟩
 have HB : Hid (∀ w2 w3 ys, Touch [] V w2 → Ch w2 o F most ys w3 → w3.heap[w.heap.size]? = some (bx k) ∧ w3.heap[w.heap.size + 1]? = some (bx kz)) := fun w2 w3 ys t c => by
  refine ⟨c.block (t.keep B0 (by simp)) (fun hh => ?_), c.block (t.keep B1 (by simp)) (fun hh => ?_)⟩
  ·have := hF.out _ hh; omega
  ·have := hF.out _ hh; omega
 have HK : Hid (∀ w2, Touch [] V w2 → w2.cell? ⟨w.heap.size, 0, none⟩ = some (.int .u16 k.1) ∧ w2.cell? ⟨w.heap.size, 1, none⟩ = some (.string k.2)) := fun w2 t => by
  have h1 := t.keep B0 (by simp)
  unfold bx at h1
  simp [World.cell?, h1]
 have HZ : Hid (∀ w2 w3, Touch [] V w2 → Ch w2 o F most zs w3 → (w3.cell? ⟨w.heap.size + 1, 0, none⟩ = some (.int .u16 0) ∧ w3.cell? ⟨w.heap.size + 1, 1, none⟩ = some (.string ⟨#[]⟩) ∧ w3.frozen? ⟨w.heap.size + 1, 0, none⟩ = false ∧ w3.frozen? ⟨w.heap.size + 1, 1, none⟩ = false) ∧ Ch w o F most zs ((w3.setCell ⟨w.heap.size + 1, 0, none⟩ (.int .u16 g.1)).setCell ⟨w.heap.size + 1, 1, none⟩ (.string g.2))) := fun w2 w3 t c => by
  have h1 := (HB.out w2 w3 _ t c).2
  unfold bx at h1
  refine ⟨⟨by simp [World.cell?, h1, kz], by simp [World.cell?, h1, kz], by simp [World.frozen?, h1], by simp [World.frozen?, h1]⟩, ?_⟩
  refine c.own (r := w.heap.size + 1) (((Touch.refl _ _).setCell (by simp) _).setCell (by simp) _) w (TV.trans' t) (by omega) (by have := t.size; omega) hF.out
 have TR : Hid (Touch [] V V) := Touch.refl _ _
 have hlI : (ys.length : Int) < 100000 := by omega
 clear h hk h64 hl hlen TV B0 B1 hz hF hy hn
 generalize (ys.length : Int) = n at *
 subst hV
 unfold PT kv at *
 unfold bx at *
 unfold kz at *
 go_enter Tryz.func168, Tryz.ntmps168
 go_wp2_with (first
  | (go_at_call 85; refine HC.out.mono ?_; rintro x w2 ⟨rfl, t2⟩; obtain ⟨b0, b1⟩ := HK.out w2 t2; have T2 := hid t2; clear t2)
  | (go_at_call 132; refine (HT.out _ T2.out).mono ?_; rintro x w4 ⟨rfl, t4⟩; have T4 := hid (T2.out.trans' t4); clear t4 b0 b1; obtain ⟨b0, b1⟩ := HK.out w4 T4.out)
  | (go_at_call 181; refine (HE.out _ T4.out).mono ?_; rintro x w3 ⟨rfl, c3⟩; have C3 := hid c3; have m0 := HM.out _ _ c3; clear c3 b0 b1))
 go_quiet ((go_at_call 196; exact Calls.quiet_of_same (HL.out _ _ (C3.out.keep0 ((Touch.refl _ _).drewN _)))))
 have C4 := hid (C3.out.keep0 ((Touch.refl [] w3).drewN nq))
 go_wp2_with (go_at_call 197; refine (HV.out _ _ C4.out).mono ?_; rintro x w5 ⟨rfl, c5⟩; obtain ⟨⟨z0, z1, z2, z3⟩, r⟩ := HZ.out _ _ T4.out c5; have R := hid r; clear r c5)
 exact bodyPost_ret (v := .tuple #[.agg #[.int .u16 g.1, .string g.2], .bool true, .int .i64 0]) (by simp [results, Tryz.results168, go_sem, z0, z1]) rfl ⟨rfl, R.out⟩
end Go.Proofs.YtllchnancjgijaaGreat.Me
/- Use as one plain function of a list; awake; what a nil order answers. No conditions but those that each states. -/
namespace Go.Proofs.YtllchnancjgijaaGreat.Me
open Go.RowKit Go.Sort Go.Maps Go.ChangeMaps Go.WideMaps
def useY (xs : List K) (k : K) : List K := dr xs k ++ [k]
def useB (most : Int) (xs : List K) (k : K) : Bool := decide (most < ((useY xs k).length : Int))
def useL (most : Int) (xs : List K) (k : K) : List K := if useB most xs k then (useY xs k).tail else useY xs k
def useG (most : Int) (xs : List K) (k : K) : K := if useB most xs k then (useY xs k).headD kz else kz
theorem useO (w : World) (o : Nat) (F : List Nat) (most : Int) (xs : List K) (k : K) (hk : Ok k) (h64 : k.2.size ≤ 64) (hl : xs.length ≤ 70000) (h : Oq w o F most xs) :
  Calls Tryz.prog 168 #[PT o, kv k] w fun e w' => e = .returned (.tuple #[kv (useG most xs k), .bool (useB most xs k), .int .i64 0]) ∧ Ch w o F most (useL most xs k) w' := by
 by_cases hf : most < ((useY xs k).length : Int)
 ·have e1 : useB most xs k = true := decide_eq_true hf
  obtain ⟨g, zs, hg⟩ : ∃ g zs, useY xs k = g :: zs := by
   cases hy : useY xs k with
   | nil => simp [useY] at hy
   | cons g zs => exact ⟨g, zs, rfl⟩
  have e2 : useG most xs k = g := by unfold useG; rw [e1, hg]; rfl
  have e3 : useL most xs k = zs := by unfold useL; rw [e1, hg]; rfl
  rw [e1, e2, e3]
  by_cases hm : k ∈ xs
  ·exact use11_yo w o F most xs _ k hk h64 hl rfl hm hf g zs hg h
  ·exact use11_no w o F most xs _ k hk h64 hl rfl hm hf g zs hg h
 ·have e1 : useB most xs k = false := decide_eq_false hf
  have e2 : useG most xs k = kz := by unfold useG; rw [e1]; rfl
  have e3 : useL most xs k = useY xs k := by unfold useL; rw [e1]; rfl
  rw [e1, e2, e3]
  by_cases hm : k ∈ xs
  ·exact use11_yf w o F most xs _ k hk h64 hl rfl hm (Int.not_lt.1 hf) h
  ·exact use11_nf w o F most xs _ k hk h64 hl rfl hm (Int.not_lt.1 hf) h
end Go.Proofs.YtllchnancjgijaaGreat.Me
/- What a memo keeps as plain lists and functions: which outcomes may be and are kept, how an entry is at an age, entries by their keys; no conditions. -/
namespace Go.Proofs.YtllchnancjgijaaGreat.Me
open Go.RowKit Go.Sort Go.Maps Go.ChangeMaps Go.WideMaps
abbrev O := Int × Int × Int × Int
abbrev V := O × Int
abbrev En := K × V
def MT : Int := 4611686018427387904
structure Cf where
 t : Int
 n : Int
 s : Int
 e : Int
 f : Int
 b : Int
 d : Int
def ov (o : O) : Value := .agg #[.int .i64 o.1, .int .i64 o.2.1, .int .i64 o.2.2.1, .int .i64 o.2.2.2]
def ev (x : V) : Value := .agg #[.int .i64 x.1.1, .int .i64 x.1.2.1, .int .i64 x.1.2.2.1, .int .i64 x.1.2.2.2, .int .i64 x.2]
def cv (c : Cf) : Value := .agg #[.int .i64 c.t, .int .i64 c.n, .int .i64 c.s, .int .i64 c.e, .int .i64 c.f, .int .i64 c.b, .int .i64 c.d]
def sv (h a : Int) (o : O) : Value := .agg #[.int .i64 h, .int .i64 a, .int .i64 o.1, .int .i64 o.2.1, .int .i64 o.2.2.1, .int .i64 o.2.2.2]
def oz : O := (0, 0, 0, 0)
def mayF (kd cd rn : Int) : Bool :=
 if kd = 0 then decide (cd = 0) && decide (rn = 0) else if kd = 1 then decide (1 ≤ rn) else if kd = 2 then decide (1 ≤ rn)
 else if kd = 3 then decide (cd = 0) && decide (rn = 0) else if kd = 4 then decide (cd = 0) && decide (rn = 0)
 else if kd = 5 then decide (cd = 0) && decide (1 ≤ rn) else false
def nonF (kd cd rn : Int) : Bool := decide (kd = 0) && (decide (cd = 0) && decide (rn = 0))
def right (o : O) : Bool := mayF o.2.1 o.2.2.1 o.2.2.2 && (nonF o.2.1 o.2.2.1 o.2.2.2 || decide (o.1 = 0))
def okC (c : Cf) : Bool := decide (0 ≤ c.t ∧ 0 ≤ c.n ∧ 0 ≤ c.s ∧ 0 ≤ c.d ∧ 0 ≤ c.e ∧ c.e ≤ 65536 ∧ 1 ≤ c.f ∧ c.f ≤ 4096 ∧ 1 ≤ c.b ∧ c.b ≤ 1024)
def keepsC (c : Cf) (o : O) : Bool := if c.e = 0 then false else if o.2.1 = 0 then decide (0 < c.t) else if o.2.1 = 1 then decide (0 < c.n) else if o.2.1 = 2 then decide (0 < c.n) else false
def howC (c : Cf) (o : O) (age : Int) : Int :=
 if o.2.1 = 0 then (if age < c.t then 1 else if age < c.t + c.s then 2 else 3) else (if age < c.n then 1 else 3)
def fnd : List En → K → Option V
 | [], _ => none
 | x :: l, k => if x.1 = k then some x.2 else fnd l k
def drx (xs : List En) (k : K) : List En := xs.filter (fun x => decide (x.1 ≠ k))
def keysL (xs : List En) : List K := xs.map Prod.fst
theorem drx_keys (xs : List En) (k : K) : keysL (drx xs k) = dr (keysL xs) k := by
 unfold keysL drx dr
 rw [List.filter_map]
 rfl
theorem fnd_none {xs : List En} {k : K} (h : ¬ k ∈ keysL xs) : fnd xs k = none := by
 induction xs with
 | nil => rfl
 | cons x l ih =>
  simp only [keysL, List.map_cons, List.mem_cons, not_or] at h
  simp only [fnd]
  rw [if_neg (fun e => h.1 e.symm)]
  exact ih h.2
theorem fnd_some {xs : List En} {k : K} (h : k ∈ keysL xs) : ∃ v, fnd xs k = some v ∧ (k, v) ∈ xs := by
 induction xs with
 | nil => simp [keysL] at h
 | cons x l ih =>
  simp only [fnd]
  by_cases e : x.1 = k
  ·rw [if_pos e]
   exact ⟨x.2, rfl, by subst e; simp⟩
  ·rw [if_neg e]
   simp only [keysL, List.map_cons, List.mem_cons] at h
   rcases h with h | h
   ·exact absurd h.symm e
   ·obtain ⟨v, h1, h2⟩ := ih h
    exact ⟨v, h1, List.mem_cons_of_mem _ h2⟩
theorem fnd_mem {xs : List En} {k : K} {v : V} (h : fnd xs k = some v) : (k, v) ∈ xs := by
 by_cases hk : k ∈ keysL xs
 ·obtain ⟨v', h1, h2⟩ := fnd_some hk
  rw [h] at h1
  cases h1
  exact h2
 ·rw [fnd_none hk] at h; cases h
theorem fnd_isSome (xs : List En) (k : K) : (fnd xs k).isSome = hs (keysL xs) k := by
 by_cases h : k ∈ keysL xs
 ·obtain ⟨v, h1, _⟩ := fnd_some h
  rw [h1, hs_yes h]; rfl
 ·rw [fnd_none h, hs_no h]; rfl
theorem fnd_drx_same (xs : List En) (k : K) : fnd (drx xs k) k = none := by
 apply fnd_none
 unfold keysL drx
 intro h
 obtain ⟨x, hx, rfl⟩ := List.mem_map.1 h
 have := (List.mem_filter.1 hx).2
 simp at this
theorem fnd_drx_other (xs : List En) {k j : K} (h : j ≠ k) : fnd (drx xs k) j = fnd xs j := by
 unfold drx
 induction xs with
 | nil => rfl
 | cons x l ih =>
  rw [List.filter_cons]
  by_cases e : x.1 = k
  ·rw [if_neg (by simp [e])]
   rw [ih]
   simp only [fnd]
   rw [if_neg (fun e' => h (e'.symm.trans e))]
  ·rw [if_pos (by simp [e])]
   simp only [fnd]
   rw [ih]
theorem fnd_snoc (xs : List En) (k : K) (v : V) (j : K) : fnd (xs ++ [(k, v)]) j = (fnd xs j).or (if k = j then some v else none) := by
 induction xs with
 | nil => simp [fnd]
 | cons x l ih =>
  simp only [List.cons_append, fnd]
  by_cases e : x.1 = j
  ·simp [e]
  ·simp [e, ih]
theorem fnd_tail {x : En} {l : List En} (hn : ¬ x.1 ∈ keysL l) (j : K) : fnd l j = if j = x.1 then none else fnd (x :: l) j := by
 by_cases e : j = x.1
 ·rw [if_pos e, e]; exact fnd_none hn
 ·rw [if_neg e]
  simp only [fnd]
  rw [if_neg (fun e' => e e'.symm)]
def putY (xs : List En) (k : K) (v : V) : List En := drx xs k ++ [(k, v)]
def putL (e : Int) (xs : List En) (k : K) (v : V) : List En := if useB e (keysL xs) k then (putY xs k v).tail else putY xs k v
theorem putY_keys (xs : List En) (k : K) (v : V) : keysL (putY xs k v) = useY (keysL xs) k := by
 unfold putY useY
 rw [← drx_keys]
 simp [keysL]
theorem putL_keys (e : Int) (xs : List En) (k : K) (v : V) : keysL (putL e xs k v) = useL e (keysL xs) k := by
 unfold putL useL
 split
 ·rw [← putY_keys xs k v]; simp [keysL]
 ·exact putY_keys xs k v
theorem fnd_putY (xs : List En) (k : K) (v : V) (j : K) : fnd (putY xs k v) j = if j = k then some v else fnd xs j := by
 unfold putY
 rw [fnd_snoc]
 by_cases e : j = k
 ·subst e; rw [fnd_drx_same]; simp
 ·rw [fnd_drx_other xs e, if_neg e, if_neg (fun h => e h.symm)]; simp
theorem keysL_len (xs : List En) : (keysL xs).length = xs.length := by simp [keysL]
structure Gd (c : Cf) (now : Int) (xs : List En) : Prop where
 oc : okC c = true
 wc : c.t ≤ 9223372036854775807 ∧ c.n ≤ 9223372036854775807 ∧ c.s ≤ 9223372036854775807
 n0 : 0 ≤ now
 n1 : now ≤ MT
 ok : ∀ x ∈ xs, right x.2.1 = true ∧ 0 ≤ x.2.2 ∧ x.2.2 ≤ now
 ln : (xs.length : Int) ≤ c.e
theorem okC_e {c : Cf} (h : okC c = true) : 0 ≤ c.e ∧ c.e ≤ 65536 := by
 unfold okC at h
 simp only [decide_eq_true_eq] at h
 omega
theorem okC_t {c : Cf} (h : okC c = true) : 0 ≤ c.t ∧ 0 ≤ c.n ∧ 0 ≤ c.s := by
 unfold okC at h
 simp only [decide_eq_true_eq] at h
 omega
theorem Gd.later {c : Cf} {now n2 : Int} {xs : List En} (h : Gd c now xs) (h1 : now ≤ n2) (h2 : n2 ≤ MT) : Gd c n2 xs :=
 ⟨h.oc, h.wc, by have := h.n0; omega, h2, fun x hx => by obtain ⟨a, b, d⟩ := h.ok x hx; exact ⟨a, b, by omega⟩, h.ln⟩
theorem Gd.sub {c : Cf} {now : Int} {xs ys : List En} (h : Gd c now xs) (hs : ∀ x ∈ ys, x ∈ xs) (hl : ys.length ≤ xs.length) : Gd c now ys :=
 ⟨h.oc, h.wc, h.n0, h.n1, fun x hx => h.ok x (hs x hx), by have := h.ln; omega⟩
theorem drx_le (xs : List En) (k : K) : (drx xs k).length ≤ xs.length := List.length_filter_le _ _
theorem putL_len {c : Cf} {xs : List En} (h : (xs.length : Int) ≤ c.e) (h0 : 0 ≤ c.e) (k : K) (v : V) : ((putL c.e xs k v).length : Int) ≤ c.e := by
 have h1 : (putY xs k v).length ≤ xs.length + 1 := by
  unfold putY
  have := drx_le xs k
  simp only [List.length_append, List.length_singleton]
  omega
 have h2 : ((useY (keysL xs) k).length) = (putY xs k v).length := by rw [← putY_keys xs k v, keysL_len]
 unfold putL
 by_cases hb : useB c.e (keysL xs) k = true
 ·rw [if_pos hb, List.length_tail]
  omega
 ·rw [if_neg hb]
  unfold useB at hb
  simp only [decide_eq_true_eq] at hb
  omega
theorem mem_putY {xs : List En} {k : K} {v : V} {x : En} (h : x ∈ putY xs k v) : x ∈ xs ∨ x = (k, v) := by
 unfold putY at h
 rcases List.mem_append.1 h with h | h
 ·exact Or.inl (List.mem_filter.1 h).1
 ·exact Or.inr (by simpa using h)
theorem mem_putL {e : Int} {xs : List En} {k : K} {v : V} {x : En} (h : x ∈ putL e xs k v) : x ∈ xs ∨ x = (k, v) := by
 unfold putL at h
 split at h
 ·exact mem_putY (List.mem_of_mem_tail h)
 ·exact mem_putY h
theorem Gd.put {c : Cf} {now : Int} {xs : List En} (h : Gd c now xs) (k : K) (v : V) (hv : right v.1 = true ∧ 0 ≤ v.2 ∧ v.2 ≤ now) : Gd c now (putL c.e xs k v) :=
 ⟨h.oc, h.wc, h.n0, h.n1, fun x hx => by
  rcases mem_putL hx with e | e
  ·exact h.ok x e
  ·subst e; exact hv, putL_len h.ln (okC_e h.oc).1 k v⟩
end Go.Proofs.YtllchnancjgijaaGreat.Me
/- Contracts of the small functions below a memo: ticks, sums of one or two times, outcomes that may be, configurations; no conditions but those that each states. -/
namespace Go.Proofs.YtllchnancjgijaaGreat.Me
open Go.RowKit Go.Sort Go.Maps Go.ChangeMaps Go.WideMaps
def isT (t : Int) : Bool := decide (0 ≤ t) && decide (t ≤ 4611686018427387904)
theorem isT_yes {t : Int} (h : 0 ≤ t) (h2 : t ≤ MT) : isT t = true := by unfold isT MT at *; simp; omega
theorem is39 (t : Int) (w : World) : Calls Tryz.prog 96 #[.int .i64 t] w fun e w' => e = .returned (.bool (isT t)) ∧ w' = w := by
 by_cases h0 : 0 ≤ t
 ·by_cases h1 : t ≤ 4611686018427387904
  ·go_enter Tryz.func96, Tryz.ntmps96
   go_wp2
   go_ret
   exact ⟨by simp [isT, h0, h1], rfl⟩
  ·go_enter Tryz.func96, Tryz.ntmps96
   go_wp2
   go_ret
   exact ⟨by simp [isT, h1], rfl⟩
 ·have hn : isT t = false := by simp [isT]; omega
  rw [hn]
  go_enter Tryz.func96, Tryz.ntmps96
  go_wp2
  go_ret
  exact ⟨rfl, rfl⟩
theorem age81 (now at' : Int) (w : World) (h0 : 0 ≤ at') (h1 : at' ≤ now) (h2 : now ≤ MT) : Calls Tryz.prog 207 #[.int .i64 now, .int .i64 at'] w fun e w' => e = .returned (.tuple #[.int .i64 (now - at'), .int .i64 0]) ∧ w' = w := by
 have H1 := is39 now
 have H2 := is39 at'
 rw [isT_yes (by omega) h2] at H1
 rw [isT_yes h0 (by omega)] at H2
 unfold MT at h2
 have hw : IntKind.i64.wrap (now - at') = now - at' := by simp [IntKind.wrap, IntKind.bits, IntKind.signed, IntKind.min, IntKind.max]; omega
 go_enter Tryz.func207, Tryz.ntmps207
 go_wp2_with (first
  | (go_at_call_of 96 (#[.int .i64 now] : Array Value); refine (H1 _).mono ?_; rintro e w2 ⟨rfl, rfl⟩)
  | (go_at_call_of 96 (#[.int .i64 at'] : Array Value); refine (H2 _).mono ?_; rintro e w2 ⟨rfl, rfl⟩))
 exact bodyPost_ret (v := .tuple #[.int .i64 (now - at'), .int .i64 0]) (by simp [results, Tryz.results207, go_sem]) rfl ⟨rfl, rfl⟩
theorem add64 (x y : Int) (hx : 0 ≤ x) (hy : 0 ≤ y) (w : World) : (callFunc 209 #[.int .u64 x, .int .u64 y, .int .u64 0]).run Tryz.prog w =
  .ok (.value (.tuple #[.int .u64 ((x + y) % 18446744073709551616), .int .u64 ((x + y) / 18446744073709551616)])) w := by
 rw [run_callFunc_extern Tryz.func209 (by kernel_rfl) (by kernel_rfl) (by kernel_rfl) (e := add64Entry) (by kernel_rfl), run_add64 x y 0 hx hy (by omega) (by omega)]
 simp only [Result.andThen, Int.add_zero]
theorem sum82 (b len : Nat) (f S : Nat → Int) (w : World) (hlen : len ≤ 2) (hf : ∀ j, j < len → w.cell? ⟨b, j, none⟩ = some (.int .i64 (f j)) ∧ 0 ≤ f j ∧ f j ≤ 9223372036854775807)
  (h0 : S 0 = 0) (hS : ∀ j, j < len → S (j + 1) = S j + f j) (hb : ∀ j, j ≤ len → 0 ≤ S j ∧ S j < 18446744073709551616) :
  Calls Tryz.prog 208 #[.slice (some ⟨b, 0, none⟩) len len] w fun e w' => e = .returned (.tuple #[.int .u64 0, .int .u64 (S len), .int .i64 0]) ∧ w' = w := by
 have HF := hid hf
 have HS := hid hS
 have HB := hid hb
 have HZ := hid h0
 clear hf hS hb h0
 go_enter Tryz.func208, Tryz.ntmps208
 go_wp2
 go_loop [5, 6, 12] (fun h l i => ∃ (k : Nat), k ≤ len ∧ i = .int .i64 k ∧ h = .int .u64 0 ∧ l = .int .u64 (S k)) (fun _ _ i => len - (intOf i).toNat)
 case atStart => exact ⟨0, Nat.zero_le _, rfl, rfl, by rw [HZ.out]⟩
 case round =>
  obtain ⟨k, hk, rfl, rfl, rfl⟩ := hrel
  by_cases hlt : k < len
  ·obtain ⟨hc, z0, z1⟩ := HF.out k hlt
   have HT := hid (HS.out k hlt)
   obtain ⟨s0, s1⟩ := HB.out k hk
   have HN := hid (HB.out (k + 1) hlt)
   generalize f k = z at *
   obtain ⟨L, hL⟩ : ∃ L, L = S k := ⟨_, rfl⟩
   have HL := hid hL
   rw [← hL] at s0 s1 ⊢
   clear hL
   have e1 : (L + z) % 18446744073709551616 = L + z := by have := HN.out; rw [HT.out, ← HL.out] at this; omega
   have e2 : (L + z) / 18446744073709551616 = 0 := by have := HN.out; rw [HT.out, ← HL.out] at this; omega
   have ad := add64 L z s0 z0
   rw [e1, e2] at ad
   clear e1 e2
   go_wp2_with (simp only [ad])
   go_round
   case rel => exact ⟨k + 1, by omega, by go_num, rfl, by rw [HT.out, ← HL.out]⟩
   case measure => simp [intOf]; omega
  ·obtain rfl : k = len := by omega
   go_wp2
   exact bodyPost_ret (v := .tuple #[.int .u64 0, .int .u64 (S k), .int .i64 0]) (by simp [results, Tryz.results208, go_sem]) rfl ⟨rfl, rfl⟩
theorem within80 (now at' : Int) (b len : Nat) (f S : Nat → Int) (w : World) (ha0 : 0 ≤ at') (ha1 : at' ≤ now) (ha2 : now ≤ MT) (hlen : len ≤ 2) (hf : ∀ j, j < len → w.cell? ⟨b, j, none⟩ = some (.int .i64 (f j)) ∧ 0 ≤ f j ∧ f j ≤ 9223372036854775807)
  (h0 : S 0 = 0) (hS : ∀ j, j < len → S (j + 1) = S j + f j) (hb : ∀ j, j ≤ len → 0 ≤ S j ∧ S j < 18446744073709551616) :
  Calls Tryz.prog 206 #[.int .i64 now, .int .i64 at', .slice (some ⟨b, 0, none⟩) len len] w fun e w' => e = .returned (.tuple #[.bool (decide (now - at' < S len)), .int .i64 0]) ∧ w' = w := by
 have HA := hid (age81 now at' w ha0 ha1 ha2)
 have HS := hid (sum82 b len f S w hlen hf h0 hS hb)
 have hs := hb len (Nat.le_refl _)
 unfold MT at ha2
 have hw : IntKind.u64.wrap (now - at') = now - at' := by simp [IntKind.wrap, IntKind.bits, IntKind.signed, IntKind.min, IntKind.max]; omega
 clear hf h0 hS hb
 generalize S len = s at *
 generalize now - at' = ag at *
 obtain ⟨s0, s1⟩ := hs
 go_enter Tryz.func206, Tryz.ntmps206
 go_wp2_with (first
  | (go_at_call 207; refine HA.out.mono ?_; rintro e w2 ⟨rfl, e2⟩; rw [e2]; clear e2 w2)
  | (go_at_call 208; refine HS.out.mono ?_; rintro e w2 ⟨rfl, e2⟩; rw [e2]; clear e2 w2))
 exact bodyPost_ret (v := .tuple #[.bool (decide (ag < s)), .int .i64 0]) (by simp [results, Tryz.results206, go_sem]) rfl ⟨rfl, rfl⟩
theorem eqf (w : World) (a b c : Int) : (binOp .eql 37 (.agg #[.int .i64 a, .int .i64 b, .int .i64 c]) (.agg #[.int .i64 0, .int .i64 0, .int .i64 0])).run Tryz.prog w = .ok (.bool (nonF a b c)) w := by
 unfold nonF
 by_cases h1 : a = 0
 ·by_cases h2 : b = 0
  ·by_cases h3 : c = 0
   ·go_simp
   ·go_simp
  ·go_simp
 ·go_simp
theorem same79 (w : World) (a b c : Int) : Calls Tryz.prog 204 #[.agg #[.int .i64 a, .int .i64 b, .int .i64 c], .agg #[.int .i64 0, .int .i64 0, .int .i64 0]] w fun e w' => e = .returned (.bool (nonF a b c)) ∧ Touch [] w w' := by
 have h := fun w => eqf w a b c
 generalize nonF a b c = r at *
 go_enter Tryz.func204, Tryz.ntmps204
 go_wp2
 go_ret
 exact ⟨rfl, by repeat (first | exact Touch.refl _ _ | apply Touch.alloc)⟩
theorem none75 (w : World) (a b c : Int) : Calls Tryz.prog 194 #[.agg #[.int .i64 a, .int .i64 b, .int .i64 c]] w fun e w' => e = .returned (.bool (nonF a b c)) ∧ Touch [] w w' := by
 have H := hid (fun w => same79 w a b c)
 generalize nonF a b c = r at *
 go_enter Tryz.func194, Tryz.ntmps194
 go_wp2_with (go_at_call 204; refine (H.out _).mono ?_; rintro e w2 ⟨rfl, t2⟩; have T2 := hid t2; clear t2)
 go_ret
 exact ⟨rfl, ((Touch.refl _ _).alloc _).trans' T2.out⟩
theorem fail76 (w : World) (o : O) : Calls Tryz.prog 199 #[ov o] w fun e w' => e = .returned (.bool (!decide (o.2.1 = 0))) ∧ Touch [] w w' := by
 unfold ov
 by_cases h : o.2.1 = 0
 ·go_enter Tryz.func199, Tryz.ntmps199
  go_wp2
  go_ret
  exact ⟨by simp [h], by repeat (first | exact Touch.refl _ _ | apply Touch.alloc)⟩
 ·go_enter Tryz.func199, Tryz.ntmps199
  go_wp2
  go_ret
  exact ⟨by simp [h], by repeat (first | exact Touch.refl _ _ | apply Touch.alloc)⟩
end Go.Proofs.YtllchnancjgijaaGreat.Me
/- Contracts of fail.Right, of Check and of keeps, of the document's like, and of what turns a value into the document's; no conditions. -/
namespace Go.Proofs.YtllchnancjgijaaGreat.Me
open Go.RowKit Go.Sort Go.Maps Go.ChangeMaps Go.WideMaps
theorem may74 (w : World) (a b c : Int) : Calls Tryz.prog 193 #[.agg #[.int .i64 a, .int .i64 b, .int .i64 c]] w fun e w' => e = .returned (.bool (mayF a b c)) ∧ Touch [] w w' := by
 have H := hid (fun w => none75 w a b c)
 unfold mayF
 by_cases h0 : a = 0
 ·subst h0
  have e0 : nonF 0 b c = (decide (b = 0) && decide (c = 0)) := by simp [nonF]
  rw [e0] at H
  simp only [if_true]
  generalize (decide (b = 0) && decide (c = 0)) = r at *
  go_enter Tryz.func193, Tryz.ntmps193
  go_wp2_with (go_at_call 194; refine (H.out _).mono ?_; rintro e w2 ⟨rfl, t2⟩; have T2 := hid t2; clear t2)
  go_ret
  exact ⟨rfl, ((Touch.refl _ _).alloc _).trans' T2.out⟩
 rw [if_neg h0]
 clear H
 have b0 : (a == 0) = false := by simp [h0]
 by_cases h1 : a = 1
 ·subst h1
  rw [if_pos rfl]
  go_enter Tryz.func193, Tryz.ntmps193
  go_wp2
  go_ret
  exact ⟨rfl, by repeat (first | exact Touch.refl _ _ | apply Touch.alloc)⟩
 rw [if_neg h1]
 have b1 : (a == 1) = false := by simp [h1]
 by_cases h2 : a = 2
 ·subst h2
  rw [if_pos rfl]
  go_enter Tryz.func193, Tryz.ntmps193
  go_wp2
  go_ret
  exact ⟨rfl, by repeat (first | exact Touch.refl _ _ | apply Touch.alloc)⟩
 rw [if_neg h2]
 have b2 : (a == 2) = false := by simp [h2]
 by_cases h3 : a = 3
 ·subst h3
  rw [if_pos rfl]
  by_cases hb : b = 0
  ·subst hb
   go_enter Tryz.func193, Tryz.ntmps193
   go_wp2
   go_ret
   exact ⟨by by_cases hc : c = 0 <;> simp [hc], by repeat (first | exact Touch.refl _ _ | apply Touch.alloc)⟩
  ·have hb' : (b == 0) = false := by simp [hb]
   go_enter Tryz.func193, Tryz.ntmps193
   go_wp2
   go_ret
   exact ⟨by simp [hb], by repeat (first | exact Touch.refl _ _ | apply Touch.alloc)⟩
 rw [if_neg h3]
 have b3 : (a == 3) = false := by simp [h3]
 by_cases h4 : a = 4
 ·subst h4
  rw [if_pos rfl]
  by_cases hb : b = 0
  ·subst hb
   go_enter Tryz.func193, Tryz.ntmps193
   go_wp2
   go_ret
   exact ⟨by by_cases hc : c = 0 <;> simp [hc], by repeat (first | exact Touch.refl _ _ | apply Touch.alloc)⟩
  ·have hb' : (b == 0) = false := by simp [hb]
   go_enter Tryz.func193, Tryz.ntmps193
   go_wp2
   go_ret
   exact ⟨by simp [hb], by repeat (first | exact Touch.refl _ _ | apply Touch.alloc)⟩
 rw [if_neg h4]
 have b4 : (a == 4) = false := by simp [h4]
 by_cases h5 : a = 5
 ·subst h5
  rw [if_pos rfl]
  by_cases hb : b = 0
  ·subst hb
   go_enter Tryz.func193, Tryz.ntmps193
   go_wp2
   go_ret
   exact ⟨by by_cases hc : c = 0 <;> simp [hc], by repeat (first | exact Touch.refl _ _ | apply Touch.alloc)⟩
  ·have hb' : (b == 0) = false := by simp [hb]
   go_enter Tryz.func193, Tryz.ntmps193
   go_wp2
   go_ret
   exact ⟨by simp [hb], by repeat (first | exact Touch.refl _ _ | apply Touch.alloc)⟩
 rw [if_neg h5]
 have b5 : (a == 5) = false := by simp [h5]
 go_enter Tryz.func193, Tryz.ntmps193
 go_wp2
 go_ret
 exact ⟨rfl, by repeat (first | exact Touch.refl _ _ | apply Touch.alloc)⟩
theorem right62 (w : World) (o : O) : Calls Tryz.prog 165 #[ov o] w fun e w' => e = .returned (.bool (right o)) ∧ Touch [] w w' := by
 obtain ⟨v, a, b, c⟩ := o
 have HM := hid (fun w => may74 w a b c)
 have HN := hid (fun w => none75 w a b c)
 unfold ov right
 simp only
 have B : ∀ w2, Touch [] (w.alloc (.cells #[.int .i64 v, .int .i64 a, .int .i64 b, .int .i64 c] 39)) w2 → w2.heap[w.heap.size]? = some (.cells #[.int .i64 v, .int .i64 a, .int .i64 b, .int .i64 c] 39 (0, 0)) := fun w2 t => t.keep (heap_alloc_new w _) (by simp)
 have HC : Hid (∀ w2, Touch [] (w.alloc (.cells #[.int .i64 v, .int .i64 a, .int .i64 b, .int .i64 c] 39)) w2 → w2.cell? ⟨w.heap.size, 0, none⟩ = some (.int .i64 v) ∧ w2.cell? ⟨w.heap.size, 1, none⟩ = some (.int .i64 a) ∧ w2.cell? ⟨w.heap.size, 2, none⟩ = some (.int .i64 b) ∧ w2.cell? ⟨w.heap.size, 3, none⟩ = some (.int .i64 c)) := fun w2 t => by
  have := B w2 t
  simp [World.cell?, this]
 clear B
 generalize mayF a b c = r at *
 generalize nonF a b c = s at *
 cases r
 ·go_enter Tryz.func165, Tryz.ntmps165
  go_wp2_with (go_at_call 193; refine (HM.out _).mono ?_; rintro e w2 ⟨rfl, t2⟩; have T2 := hid t2; clear t2)
  go_ret
  exact ⟨rfl, ((Touch.refl _ _).alloc _).trans' T2.out⟩
 ·cases s
  ·by_cases hv : v = 0
   ·subst hv
    go_enter Tryz.func165, Tryz.ntmps165
    go_wp2_with (first
     | (go_at_call 193; refine (HM.out _).mono ?_; rintro e w2 ⟨rfl, t2⟩; have T2 := hid t2; obtain ⟨c0, c1, c2, c3⟩ := HC.out _ t2; clear t2)
     | (go_at_call 194; refine (HN.out _).mono ?_; rintro e w3 ⟨rfl, t3⟩; have T3 := hid (T2.out.trans' t3); clear c0 c1 c2 c3 T2 t3; obtain ⟨c0, c1, c2, c3⟩ := HC.out _ T3.out))
    go_ret
    exact ⟨rfl, ((Touch.refl _ _).alloc _).trans' T3.out⟩
   ·have hv' : (v == 0) = false := by simp [hv]
    go_enter Tryz.func165, Tryz.ntmps165
    go_wp2_with (first
     | (go_at_call 193; refine (HM.out _).mono ?_; rintro e w2 ⟨rfl, t2⟩; have T2 := hid t2; obtain ⟨c0, c1, c2, c3⟩ := HC.out _ t2; clear t2)
     | (go_at_call 194; refine (HN.out _).mono ?_; rintro e w3 ⟨rfl, t3⟩; have T3 := hid (T2.out.trans' t3); clear c0 c1 c2 c3 T2 t3; obtain ⟨c0, c1, c2, c3⟩ := HC.out _ T3.out))
    go_ret
    exact ⟨by simp [hv], ((Touch.refl _ _).alloc _).trans' T3.out⟩
  ·go_enter Tryz.func165, Tryz.ntmps165
   go_wp2_with (first
    | (go_at_call 193; refine (HM.out _).mono ?_; rintro e w2 ⟨rfl, t2⟩; have T2 := hid t2; obtain ⟨c0, c1, c2, c3⟩ := HC.out _ t2; clear t2)
    | (go_at_call 194; refine (HN.out _).mono ?_; rintro e w3 ⟨rfl, t3⟩; have T3 := hid (T2.out.trans' t3); clear c0 c1 c2 c3 T2 t3; obtain ⟨c0, c1, c2, c3⟩ := HC.out _ T3.out))
   go_ret
   exact ⟨rfl, ((Touch.refl _ _).alloc _).trans' T3.out⟩
end Go.Proofs.YtllchnancjgijaaGreat.Me
/- The contract of keys: a new slice tells all keys, from the oldest on; there are fewer than a hundred thousand. -/
namespace Go.Proofs.YtllchnancjgijaaGreat.Me
open Go.RowKit Go.Sort Go.Maps Go.ChangeMaps Go.WideMaps
def cellsK (xs : List K) : List Value := xs.flatMap fun x => [.int .u16 x.1, .string x.2]
theorem cellsK_at0 : ∀ (xs : List K) (i : Nat) (h : i < xs.length), (cellsK xs)[i * 2]? = some (.int .u16 xs[i].1)
 | x :: xs, 0, _ => rfl
 | x :: xs, i + 1, h => by
  rw [show (i + 1) * 2 = i * 2 + 1 + 1 by omega]
  exact cellsK_at0 xs i (by simpa using h)
theorem cellsK_at1 : ∀ (xs : List K) (i : Nat) (h : i < xs.length), (cellsK xs)[i * 2 + 1]? = some (.string xs[i].2)
 | x :: xs, 0, _ => rfl
 | x :: xs, i + 1, h => by
  rw [show (i + 1) * 2 + 1 = i * 2 + 1 + 1 + 1 by omega]
  exact cellsK_at1 xs i (by simpa using h)
end Go.Proofs.YtllchnancjgijaaGreat.Me
/- A memo in memory as a plain list of entries, the one that was used the longest time ago first: what lies where, what keeps it; no conditions. -/
namespace Go.Proofs.YtllchnancjgijaaGreat.Me
open Go.RowKit Go.Sort Go.Maps Go.ChangeMaps Go.WideMaps
theorem Oq.away {w : World} {o : Nat} {F : List Nat} {most : Int} {xs : List K} (h : Oq w o F most xs) {k : Nat} {cs : Array Value} {t : TypeId} {fr : Nat × Nat} (hc : w.heap[k]? = some (.cells cs t fr)) (h1 : t ≠ 231) (h2 : t ≠ 299) : ¬ k ∈ F := fun hk => by
 obtain ⟨m, L, rfl, rfl, t⟩ := h
 simp only [fp, List.mem_cons, List.mem_append] at hk
 rcases hk with rfl | hk | hk
 ·have := t.ln.oc
  unfold OC at this
  rw [this] at hc
  simp at hc
  exact h1 hc.2.1.symm
 ·rcases t.mp with ⟨rfl, _⟩ | ⟨b, f, rfl, hm, hf⟩
  ·simp at hk
  ·simp at hk
   subst hk
   exact hm.ne_block hc rfl
 ·obtain ⟨e, he, rfl⟩ := List.mem_map.1 hk
  obtain ⟨x, y, hx⟩ := t.ln.sg.mem e he
  unfold Nd at hx
  rw [hx] at hc
  simp at hc
  exact h2 hc.2.1.symm
def mcs (c : Cf) (now : Int) (b o : Nat) : Array Value := #[.int .i64 c.t, .int .i64 c.n, .int .i64 c.s, .int .i64 c.e, .int .i64 c.f, .int .i64 c.b, .int .i64 c.d, .int .i64 now, .map (some b), PT o]
def Md (w : World) (m : Nat) (c : Cf) (now : Int) (b o : Nat) : Prop := w.heap[m]? = some (.cells (mcs c now b o) 162 (0, 0))
structure MdC (w : World) (m : Nat) (c : Cf) (now : Int) (b o : Nat) : Prop where
 c0 : w.cell? ⟨m, 0, none⟩ = some (.int .i64 c.t)
 c1 : w.cell? ⟨m, 1, none⟩ = some (.int .i64 c.n)
 c2 : w.cell? ⟨m, 2, none⟩ = some (.int .i64 c.s)
 c3 : w.cell? ⟨m, 3, none⟩ = some (.int .i64 c.e)
 c4 : w.cell? ⟨m, 4, none⟩ = some (.int .i64 c.f)
 c5 : w.cell? ⟨m, 5, none⟩ = some (.int .i64 c.b)
 c6 : w.cell? ⟨m, 6, none⟩ = some (.int .i64 c.d)
 c7 : w.cell? ⟨m, 7, none⟩ = some (.int .i64 now)
 c8 : w.cell? ⟨m, 8, none⟩ = some (.map (some b))
 c9 : w.cell? ⟨m, 9, none⟩ = some (.pointer (some ⟨o, 0, none⟩))
 f7 : w.frozen? ⟨m, 7, none⟩ = false
theorem Md.cs {w : World} {m : Nat} {c : Cf} {now : Int} {b o : Nat} (h : Md w m c now b o) : MdC w m c now b o := by
 unfold Md mcs PT at h
 constructor <;> simp [World.cell?, World.frozen?, h]
theorem Md.set7 {w : World} {m : Nat} {c : Cf} {now : Int} {b o : Nat} (h : Md w m c now b o) (n2 : Int) : Md (w.setCell ⟨m, 7, none⟩ (.int .i64 n2)) m c n2 b o := bset h _
theorem Md.lt {w : World} {m : Nat} {c : Cf} {now : Int} {b o : Nat} (h : Md w m c now b o) : m < w.heap.size := block_lt h
def mpf (xs : List En) : K → Option Value := fun k => (fnd xs k).map ev
structure Mb (w : World) (m b o : Nat) (G : List Nat) (c : Cf) (now : Int) (xs : List En) : Prop where
 md : Md w m c now b o
 mp : MapAt w b xs.length (mpf xs)
 oq : Oq w o G c.e (keysL xs)
 gd : Gd c now xs
 bg : ¬ b ∈ G
def Mq (w : World) (m : Nat) (F : List Nat) (c : Cf) (now : Int) (xs : List En) : Prop := ∃ b o G, F = m :: b :: G ∧ Mb w m b o G c now xs
section
variable {w w' : World} {m b o : Nat} {F G X : List Nat} {c : Cf} {now : Int} {xs : List En}
theorem Mb.mg (h : Mb w m b o G c now xs) : ¬ m ∈ G := h.oq.away h.md (by decide) (by decide)
theorem Mb.mb (h : Mb w m b o G c now xs) : b ≠ m := h.mp.ne_block h.md
theorem Mb.nd (h : Mb w m b o G c now xs) : (keysL xs).Nodup := h.oq.nd
theorem Mb.ok (h : Mb w m b o G c now xs) : ∀ k ∈ keysL xs, Ok k := h.oq.ok
theorem Mb.len (h : Mb w m b o G c now xs) : xs.length ≤ 65536 := by have := h.gd.ln; have := (okC_e h.gd.oc).2; omega
theorem Mb.keep (h : Mb w m b o G c now xs) (t : Touch X w w') (hn : ∀ k, k ∈ m :: b :: G → ¬ k ∈ X) : Mb w' m b o G c now xs :=
 ⟨t.keep h.md (hn m (by simp)), h.mp.kept (t.block b h.mp.lt (hn b (by simp))), h.oq.keep t (fun k hk => hn k (by simp [hk])), h.gd, h.bg⟩
theorem Mb.keep0 (h : Mb w m b o G c now xs) (t : Touch [] w w') : Mb w' m b o G c now xs := h.keep t (fun _ _ e => by cases e)
theorem Mb.lt (h : Mb w m b o G c now xs) : ∀ k, k ∈ m :: b :: G → k < w.heap.size := fun k hk => by
 simp only [List.mem_cons] at hk
 rcases hk with rfl | rfl | hk
 ·exact h.md.lt
 ·exact h.mp.lt
 ·exact h.oq.lt k hk
theorem Mq.keep (h : Mq w m F c now xs) (t : Touch X w w') (hn : ∀ k, k ∈ F → ¬ k ∈ X) : Mq w' m F c now xs := by
 obtain ⟨b, o, G, rfl, h⟩ := h
 exact ⟨b, o, G, rfl, h.keep t hn⟩
theorem Mq.keep0 (h : Mq w m F c now xs) (t : Touch [] w w') : Mq w' m F c now xs := h.keep t (fun _ _ e => by cases e)
theorem Mq.lt (h : Mq w m F c now xs) : ∀ k, k ∈ F → k < w.heap.size := by
 obtain ⟨b, o, G, rfl, h⟩ := h
 exact h.lt
theorem Mq.gd (h : Mq w m F c now xs) : Gd c now xs := by
 obtain ⟨b, o, G, rfl, h⟩ := h
 exact h.gd
theorem Mq.nd (h : Mq w m F c now xs) : (keysL xs).Nodup := by
 obtain ⟨b, o, G, rfl, h⟩ := h
 exact h.nd
theorem Mq.ok (h : Mq w m F c now xs) : ∀ k ∈ keysL xs, Ok k := by
 obtain ⟨b, o, G, rfl, h⟩ := h
 exact h.ok
theorem Mq.away (h : Mq w m F c now xs) {k : Nat} {cs : Array Value} {t : TypeId} {fr : Nat × Nat} (hc : w.heap[k]? = some (.cells cs t fr)) (h1 : t ≠ 231) (h2 : t ≠ 299) (h3 : t ≠ 162) : ¬ k ∈ F := fun hk => by
 obtain ⟨b, o, G, rfl, h⟩ := h
 simp only [List.mem_cons] at hk
 rcases hk with rfl | rfl | hk
 ·have := h.md
  unfold Md at this
  rw [this] at hc
  simp at hc
  exact h3 hc.2.1.symm
 ·exact h.mp.ne_block hc rfl
 ·exact h.oq.away hc h1 h2 hk
end
def Mc (w : World) (m : Nat) (F : List Nat) (c : Cf) (now : Int) (ys : List En) (w' : World) : Prop := ∃ F', Mq w' m F' c now ys ∧ Touch F w w' ∧ Nf w F F'
theorem Mc.refl {w : World} {m : Nat} {F : List Nat} {c : Cf} {now : Int} {xs : List En} (h : Mq w m F c now xs) : Mc w m F c now xs w := ⟨F, h, Touch.refl _ _, Nf.refl _ _⟩
theorem Mc.from0 {w0 w w' : World} {m : Nat} {F : List Nat} {c : Cf} {now : Int} {ys : List En} (h : Mc w m F c now ys w') (t : Touch [] w0 w) : Mc w0 m F c now ys w' := by
 obtain ⟨F', h1, h2, h3⟩ := h
 exact ⟨F', h1, (t.mono (fun _ e => by cases e)).trans' h2, fun k hk => (h3 k hk).elim Or.inl (fun e => Or.inr (Nat.le_trans t.size e))⟩
theorem Mc.keep0 {w w1 w2 : World} {m : Nat} {F : List Nat} {c : Cf} {now : Int} {ys : List En} (h : Mc w m F c now ys w1) (t : Touch [] w1 w2) : Mc w m F c now ys w2 := by
 obtain ⟨F', h1, h2, h3⟩ := h
 exact ⟨F', h1.keep0 t, h2.trans' (t.mono (fun _ e => by cases e)), h3⟩
theorem Mc.block {w w1 : World} {m : Nat} {F : List Nat} {c : Cf} {now : Int} {ys : List En} (h : Mc w m F c now ys w1) {k : Nat} {ob : Obj} (hk : w.heap[k]? = some ob) (hn : ¬ k ∈ F) : w1.heap[k]? = some ob := by
 obtain ⟨F', h1, h2, h3⟩ := h
 exact h2.keep hk hn
theorem Mc.own {w0 w w1 w2 : World} {m : Nat} {F : List Nat} {c : Cf} {now : Int} {ys : List En} (h : Mc w m F c now ys w1) {r : Nat} (t : Touch [r] w1 w2) (h0 : Touch [] w0 w) (hr : w0.heap.size ≤ r) (hr' : r < w.heap.size) (hF : ∀ k ∈ F, k < w0.heap.size) : Mc w0 m F c now ys w2 := by
 obtain ⟨F', h1, h2, h3⟩ := h
 refine ⟨F', h1.keep t (fun k hk hh => ?_), ((h0.mono (fun _ e => by cases e)).trans' h2).trans t (fun i hi => by simp only [List.mem_singleton] at hi; subst hi; exact Or.inr hr), fun k hk => (h3 k hk).elim Or.inl (fun e => Or.inr (Nat.le_trans h0.size e))⟩
 simp only [List.mem_singleton] at hh
 subst hh
 rcases h3 k hk with e | e
 ·have := hF k e; omega
 ·omega
end Go.Proofs.YtllchnancjgijaaGreat.Me
/- Contracts of what only reads a memo: its ticks, what it keeps, how an entry is at its time; no conditions but those that each states. -/
namespace Go.Proofs.YtllchnancjgijaaGreat.Me
open Go.RowKit Go.Sort Go.Maps Go.ChangeMaps Go.WideMaps
def tickE (now n : Int) : Int := if isT n then (if n < now then 101 else 0) else 10
theorem tick45 (w : World) (m : Nat) (c : Cf) (now n : Int) (b o : Nat) (h : Md w m c now b o) : Calls Tryz.prog 116 #[PT m, .int .i64 n] w fun e w' => e = .returned (.int .i64 (tickE now n)) ∧ w' = w := by
 have c7 := h.cs.c7
 have H := is39 n
 unfold tickE PT
 clear h
 generalize isT n = r at *
 cases r
 ·go_enter Tryz.func116, Tryz.ntmps116
  go_wp2_with (go_at_call 96; refine (H _).mono ?_; rintro e w2 ⟨rfl, rfl⟩)
  go_ret
  exact ⟨rfl, rfl⟩
 ·by_cases hb : n < now
  ·go_enter Tryz.func116, Tryz.ntmps116
   go_wp2_with (go_at_call 96; refine (H _).mono ?_; rintro e w2 ⟨rfl, e2⟩; rw [e2]; clear e2 w2)
   go_ret
   simp [hb]
  ·go_enter Tryz.func116, Tryz.ntmps116
   go_wp2_with (go_at_call 96; refine (H _).mono ?_; rintro e w2 ⟨rfl, e2⟩; rw [e2]; clear e2 w2)
   go_ret
   simp [hb]
theorem now26 (w : World) (m : Nat) (c : Cf) (now : Int) (b o : Nat) (h : Md w m c now b o) : Calls Tryz.prog 83 #[PT m] w fun e w' => e = .returned (.int .i64 now) ∧ w' = w := by
 have c7 := h.cs.c7
 clear h
 unfold PT
 go_enter Tryz.func83, Tryz.ntmps83
 go_wp2
 go_ret
 exact ⟨rfl, rfl⟩
theorem config27 (w : World) (m : Nat) (c : Cf) (now : Int) (b o : Nat) (h : Md w m c now b o) : Calls Tryz.prog 79 #[PT m] w fun e w' => e = .returned (cv c) ∧ Touch [] w w' := by
 have hl := h.lt
 have hne : m ≠ w.heap.size := by omega
 obtain ⟨c0, c1, c2, c3, c4, c5, c6, c7, c8, c9, f7⟩ := h.cs
 clear h
 unfold PT cv
 go_enter Tryz.func79, Tryz.ntmps79
 go_wp2
 refine bodyPost_ret (v := .agg #[.int .i64 c.t, .int .i64 c.n, .int .i64 c.s, .int .i64 c.e, .int .i64 c.f, .int .i64 c.b, .int .i64 c.d]) (by simp [results, Tryz.results79, go_sem]) rfl ⟨rfl, ?_⟩
 repeat (first | exact Touch.refl _ _ | apply Touch.alloc | (refine Touch.setCell ?_ (Or.inr (by simp)) _))
set_option maxHeartbeats 1000000 in
theorem keeps47 (w : World) (m : Nat) (c : Cf) (now : Int) (b o : Nat) (h : Md w m c now b o) (x : O) : Calls Tryz.prog 118 #[PT m, ov x] w fun e w' => e = .returned (.bool (keepsC c x)) ∧ Touch [] w w' := by
 have hl := h.lt
 obtain ⟨c0, c1, c2, c3, c4, c5, c6, c7, c8, c9, f7⟩ := h.cs
 clear h c4 c5 c6 c7 c8 c9 f7 c2
 obtain ⟨v, a, y, z⟩ := x
 unfold PT ov keepsC
 simp only
 have hne : m ≠ w.heap.size := by omega
 by_cases h0 : c.e = 0
 ·rw [if_pos h0]
  rw [h0] at c3
  go_enter Tryz.func118, Tryz.ntmps118
  go_wp2
  go_ret
  exact ⟨rfl, by repeat (first | exact Touch.refl _ _ | apply Touch.alloc)⟩
 rw [if_neg h0]
 have e0 : (c.e == 0) = false := by simp [h0]
 by_cases ha : a = 0
 ·subst ha
  rw [if_pos rfl]
  go_enter Tryz.func118, Tryz.ntmps118
  go_wp2
  go_ret
  exact ⟨rfl, by repeat (first | exact Touch.refl _ _ | apply Touch.alloc)⟩
 have ea : (a == 0) = false := by simp [ha]
 rw [if_neg ha]
 by_cases h1 : a = 1
 ·subst h1
  rw [if_pos rfl]
  go_enter Tryz.func118, Tryz.ntmps118
  go_wp2
  go_ret
  exact ⟨rfl, by repeat (first | exact Touch.refl _ _ | apply Touch.alloc)⟩
 rw [if_neg h1]
 have b1 : (a == 1) = false := by simp [h1]
 by_cases h2 : a = 2
 ·subst h2
  rw [if_pos rfl]
  go_enter Tryz.func118, Tryz.ntmps118
  go_wp2
  go_ret
  exact ⟨rfl, by repeat (first | exact Touch.refl _ _ | apply Touch.alloc)⟩
 rw [if_neg h2]
 have b2 : (a == 2) = false := by simp [h2]
 go_enter Tryz.func118, Tryz.ntmps118
 go_wp2
 go_ret
 exact ⟨rfl, by repeat (first | exact Touch.refl _ _ | apply Touch.alloc)⟩
def pairE (k : K) (x : O) : Int := if 64 < k.2.size then 20 else if right x then 0 else 30
theorem pair46 (w : World) (k : K) (x : O) : Calls Tryz.prog 117 #[kv k, ov x] w fun e w' => e = .returned (.int .i64 (pairE k x)) ∧ Touch [] w w' := by
 obtain ⟨V, hV⟩ : ∃ V, V = (w.alloc (bx k)).alloc (.cells #[.int .i64 x.1, .int .i64 x.2.1, .int .i64 x.2.2.1, .int .i64 x.2.2.2] 39) := ⟨_, rfl⟩
 have TV : Hid (Touch [] w V) := by rw [hV]; exact ((Touch.refl _ _).alloc _).alloc _
 have HB : Hid (∀ w2, Touch [] V w2 → w2.cell? ⟨w.heap.size + 1, 0, none⟩ = some (.int .i64 x.1) ∧ w2.cell? ⟨w.heap.size + 1, 1, none⟩ = some (.int .i64 x.2.1) ∧ w2.cell? ⟨w.heap.size + 1, 2, none⟩ = some (.int .i64 x.2.2.1) ∧ w2.cell? ⟨w.heap.size + 1, 3, none⟩ = some (.int .i64 x.2.2.2)) := fun w2 t => by
  have b : V.heap[w.heap.size + 1]? = some (.cells #[.int .i64 x.1, .int .i64 x.2.1, .int .i64 x.2.2.1, .int .i64 x.2.2.2] 39 (0, 0)) := by
   rw [hV]
   have := heap_alloc_new (w.alloc (bx k)) (.cells #[.int .i64 x.1, .int .i64 x.2.1, .int .i64 x.2.2.1, .int .i64 x.2.2.2] 39)
   rwa [World.size_alloc] at this
  have := t.keep b (by simp)
  simp [World.cell?, this]
 unfold pairE
 by_cases hk : 64 < k.2.size
 ·rw [if_pos hk]
  have HC := hid (fun w => check29_no w k hk)
  clear HB
  subst hV
  unfold kv ov bx at *
  go_enter Tryz.func117, Tryz.ntmps117
  go_wp2_with (go_at_call 85; refine (HC.out _).mono ?_; rintro e w2 ⟨rfl, t2⟩; have T2 := hid t2; clear t2)
  go_ret
  exact ⟨rfl, TV.out.trans' T2.out⟩
 ·rw [if_neg hk]
  have HC := hid (fun w => check29_ok w k (by omega))
  have HR := hid (fun w => right62 w x)
  generalize right x = r at *
  subst hV
  unfold kv ov bx at *
  cases r
  ·go_enter Tryz.func117, Tryz.ntmps117
   go_wp2_with (first
    | (go_at_call 85; refine (HC.out _).mono ?_; rintro e w2 ⟨rfl, t2⟩; have T2 := hid t2; obtain ⟨q0, q1, q2, q3⟩ := HB.out _ t2; clear t2)
    | (go_at_call 165; refine (HR.out _).mono ?_; rintro e w3 ⟨rfl, t3⟩; have T3 := hid t3; clear t3))
   go_ret
   exact ⟨rfl, TV.out.trans' (T2.out.trans' T3.out)⟩
  ·go_enter Tryz.func117, Tryz.ntmps117
   go_wp2_with (first
    | (go_at_call 85; refine (HC.out _).mono ?_; rintro e w2 ⟨rfl, t2⟩; have T2 := hid t2; obtain ⟨q0, q1, q2, q3⟩ := HB.out _ t2; clear t2)
    | (go_at_call 165; refine (HR.out _).mono ?_; rintro e w3 ⟨rfl, t3⟩; have T3 := hid t3; clear t3))
   go_ret
   exact ⟨rfl, TV.out.trans' (T2.out.trans' T3.out)⟩
theorem within77 (w : World) (m : Nat) (c : Cf) (now : Int) (b o : Nat) (h : Md w m c now b o) (v : V) (bl len : Nat) (f S : Nat → Int) (ha0 : 0 ≤ v.2) (ha1 : v.2 ≤ now) (ha2 : now ≤ MT) (hlen : len ≤ 2)
  (hf : ∀ j, j < len → w.cell? ⟨bl, j, none⟩ = some (.int .i64 (f j)) ∧ 0 ≤ f j ∧ f j ≤ 9223372036854775807)
  (h0 : S 0 = 0) (hS : ∀ j, j < len → S (j + 1) = S j + f j) (hb : ∀ j, j ≤ len → 0 ≤ S j ∧ S j < 18446744073709551616) :
  Calls Tryz.prog 200 #[PT m, ev v, .slice (some ⟨bl, 0, none⟩) len len] w fun e w' => e = .returned (.bool (decide (now - v.2 < S len))) ∧ Touch [] w w' := by
 obtain ⟨V, hV⟩ : ∃ V, V = w.alloc (.cells #[.int .i64 v.1.1, .int .i64 v.1.2.1, .int .i64 v.1.2.2.1, .int .i64 v.1.2.2.2, .int .i64 v.2] 215) := ⟨_, rfl⟩
 have TV : Hid (Touch [] w V) := by rw [hV]; exact (Touch.refl _ _).alloc _
 have c7 : V.cell? ⟨m, 7, none⟩ = some (.int .i64 now) := (show Md V m c now b o from TV.out.keep h (by simp)).cs.c7
 have HW : Hid (∀ n, Calls Tryz.prog 206 #[.int .i64 now, .int .i64 v.2, .slice (some ⟨bl, 0, none⟩) len len] (V.drewN n) fun e w' => e = .returned (.tuple #[.bool (decide (now - v.2 < S len)), .int .i64 0]) ∧ w' = V.drewN n) := fun n =>
  within80 now v.2 bl len f S (V.drewN n) ha0 ha1 ha2 hlen (fun j hj => by
   obtain ⟨q1, q2⟩ := hf j hj
   refine ⟨?_, q2⟩
   have hbl : bl < w.heap.size := by
    unfold World.cell? at q1
    rcases Nat.lt_or_ge bl w.heap.size with e | e
    ·exact e
    ·simp [Array.getElem?_eq_none e] at q1
   rw [← q1]
   exact World.cell?_of_block (TV.out.block bl hbl (by simp))) h0 hS hb
 have hv : V.cell? ⟨w.heap.size, 4, none⟩ = some (.int .i64 v.2) := by rw [hV]; simp
 clear hf h0 hS hb h ha0 ha1 ha2 hlen
 generalize decide (now - v.2 < S len) = r at *
 unfold PT ev
 go_enter Tryz.func200, Tryz.ntmps200
 go_wp2
 rw [← hV]
 clear hV
 go_quiet ((go_at_call 206; exact Calls.quiet_of_same (HW.out _)))
 go_wp2
 go_ret
 exact ⟨rfl, TV.out.drewN _⟩
end Go.Proofs.YtllchnancjgijaaGreat.Me
/- Contracts of how and see: how an entry is at the memo's time; no conditions but those that each states. -/
namespace Go.Proofs.YtllchnancjgijaaGreat.Me
open Go.RowKit Go.Sort Go.Maps Go.ChangeMaps Go.WideMaps
def ebx (v : V) : Obj := .cells #[.int .i64 v.1.1, .int .i64 v.1.2.1, .int .i64 v.1.2.2.1, .int .i64 v.1.2.2.2, .int .i64 v.2] 215
theorem one_sum (a : Int) (h : 0 ≤ a) (h2 : a ≤ 9223372036854775807) : ∃ f S : Nat → Int, f 0 = a ∧ S 1 = a ∧ S 0 = 0 ∧ (∀ j, j < 1 → S (j + 1) = S j + f j) ∧ (∀ j, j ≤ 1 → 0 ≤ S j ∧ S j < 18446744073709551616) :=
 ⟨fun _ => a, fun j => if j = 0 then 0 else a, rfl, rfl, rfl, fun j hj => by
  rcases (show j = 0 by omega) with rfl
  simp, fun j hj => by simp only; split <;> omega⟩
theorem two_sum (a b : Int) (h : 0 ≤ a) (h2 : a ≤ 9223372036854775807) (h3 : 0 ≤ b) (h4 : b ≤ 9223372036854775807) : ∃ f S : Nat → Int, f 0 = a ∧ f 1 = b ∧ S 2 = a + b ∧ S 0 = 0 ∧ (∀ j, j < 2 → S (j + 1) = S j + f j) ∧ (∀ j, j ≤ 2 → 0 ≤ S j ∧ S j < 18446744073709551616) :=
 ⟨fun j => if j = 0 then a else b, fun j => if j = 0 then 0 else if j = 1 then a else a + b, rfl, rfl, rfl, rfl, fun j hj => by
  rcases (show j = 0 ∨ j = 1 by omega) with rfl | rfl <;> simp, fun j hj => by simp only; split <;> (try split) <;> omega⟩
theorem within1 (w : World) (m : Nat) (c : Cf) (now : Int) (b o : Nat) (h : Md w m c now b o) (v : V) (bl : Nat) (a : Int) (ha0 : 0 ≤ v.2) (ha1 : v.2 ≤ now) (ha2 : now ≤ MT) (h0 : 0 ≤ a) (h1 : a ≤ 9223372036854775807)
  (hc : w.cell? ⟨bl, 0, none⟩ = some (.int .i64 a)) : Calls Tryz.prog 200 #[PT m, ev v, .slice (some ⟨bl, 0, none⟩) 1 1] w fun e w' => e = .returned (.bool (decide (now - v.2 < a))) ∧ Touch [] w w' := by
 obtain ⟨f, S, q0, q1, q2, q3, q4⟩ := one_sum a h0 h1
 rw [← q1]
 exact within77 w m c now b o h v bl 1 f S ha0 ha1 ha2 (by omega) (fun j hj => by
  rcases (show j = 0 by omega) with rfl
  rw [q0]
  exact ⟨hc, h0, h1⟩) q2 q3 q4
theorem within2 (w : World) (m : Nat) (c : Cf) (now : Int) (b o : Nat) (h : Md w m c now b o) (v : V) (bl : Nat) (a a2 : Int) (ha0 : 0 ≤ v.2) (ha1 : v.2 ≤ now) (ha2 : now ≤ MT) (h0 : 0 ≤ a) (h1 : a ≤ 9223372036854775807) (h2 : 0 ≤ a2) (h3 : a2 ≤ 9223372036854775807)
  (hc : w.cell? ⟨bl, 0, none⟩ = some (.int .i64 a)) (hc2 : w.cell? ⟨bl, 1, none⟩ = some (.int .i64 a2)) : Calls Tryz.prog 200 #[PT m, ev v, .slice (some ⟨bl, 0, none⟩) 2 2] w fun e w' => e = .returned (.bool (decide (now - v.2 < a + a2))) ∧ Touch [] w w' := by
 obtain ⟨f, S, q0, q1, q2, q3, q4, q5⟩ := two_sum a a2 h0 h1 h2 h3
 rw [← q2]
 exact within77 w m c now b o h v bl 2 f S ha0 ha1 ha2 (by omega) (fun j hj => by
  rcases (show j = 0 ∨ j = 1 by omega) with rfl | rfl
  ·rw [q0]; exact ⟨hc, h0, h1⟩
  ·rw [q1]; exact ⟨hc2, h2, h3⟩) q3 q4 q5
set_option maxHeartbeats 2000000 in
theorem how65 (w : World) (m : Nat) (c : Cf) (now : Int) (b o : Nat) (h : Md w m c now b o) (v : V) (ha0 : 0 ≤ v.2) (ha1 : v.2 ≤ now) (ha2 : now ≤ MT) (hc : okC c = true) (wc : c.t ≤ 9223372036854775807 ∧ c.n ≤ 9223372036854775807 ∧ c.s ≤ 9223372036854775807) :
  Calls Tryz.prog 175 #[PT m, ev v] w fun e w' => e = .returned (.int .i64 (howC c v.1 (now - v.2))) ∧ Touch [] w w' := by
 obtain ⟨ct, cn, cs⟩ := okC_t hc
 obtain ⟨V, hV⟩ : ∃ V, V = w.alloc (ebx v) := ⟨_, rfl⟩
 have TV : Hid (Touch [] w V) := by rw [hV]; exact (Touch.refl _ _).alloc _
 have hB : V.heap[w.heap.size]? = some (ebx v) := by rw [hV]; exact heap_alloc_new w _
 have HM : Hid (∀ w', Touch [] V w' → Md w' m c now b o) := fun w' t => (TV.out.trans' t).keep h (by simp)
 have HK : Hid (∀ w', Touch [] V w' → w'.cell? ⟨w.heap.size, 0, none⟩ = some (.int .i64 v.1.1) ∧ w'.cell? ⟨w.heap.size, 1, none⟩ = some (.int .i64 v.1.2.1) ∧ w'.cell? ⟨w.heap.size, 2, none⟩ = some (.int .i64 v.1.2.2.1) ∧ w'.cell? ⟨w.heap.size, 3, none⟩ = some (.int .i64 v.1.2.2.2) ∧ w'.cell? ⟨w.heap.size, 4, none⟩ = some (.int .i64 v.2)) := fun w' t => by
  have := t.keep hB (by simp)
  unfold ebx at this
  simp [World.cell?, this]
 have HF := hid (fun w => fail76 w v.1)
 have k0 := HK.out V (Touch.refl _ _)
 obtain ⟨d0, d1, d2, d3, d4, d5, d6, d7, d8, d9, df⟩ := (HM.out V (Touch.refl _ _)).cs
 obtain ⟨k0, k1, k2, k3, k4⟩ := k0
 clear h hB
 have H1 : Hid (∀ w' bl a, Touch [] V w' → 0 ≤ a → a ≤ 9223372036854775807 → w'.cell? ⟨bl, 0, none⟩ = some (.int .i64 a) → Calls Tryz.prog 200 #[PT m, ev v, .slice (some ⟨bl, 0, none⟩) 1 1] w' fun e w'' => e = .returned (.bool (decide (now - v.2 < a))) ∧ Touch [] w' w'') := fun w' bl a t q0 q1 q2 => within1 w' m c now b o (HM.out w' t) v bl a ha0 ha1 ha2 q0 q1 q2
 have H2 : Hid (∀ w' bl a a2, Touch [] V w' → 0 ≤ a → a ≤ 9223372036854775807 → 0 ≤ a2 → a2 ≤ 9223372036854775807 → w'.cell? ⟨bl, 0, none⟩ = some (.int .i64 a) → w'.cell? ⟨bl, 1, none⟩ = some (.int .i64 a2) → Calls Tryz.prog 200 #[PT m, ev v, .slice (some ⟨bl, 0, none⟩) 2 2] w' fun e w'' => e = .returned (.bool (decide (now - v.2 < a + a2))) ∧ Touch [] w' w'') := fun w' bl a a2 t q0 q1 q2 q3 q4 q5 => within2 w' m c now b o (HM.out w' t) v bl a a2 ha0 ha1 ha2 q0 q1 q2 q3 q4 q5
 have HMs := HM
 clear HM
 unfold howC
 obtain ⟨wt, wn, wz⟩ := wc
 unfold PT ev at *
 unfold ov at HF
 clear ha0 ha1 ha2 hc
 generalize now - v.2 = ag at *
 by_cases hk : v.1.2.1 = 0
 ·rw [if_pos hk]
  rw [decide_eq_true hk] at HF
  clear hk
  by_cases hA : ag < c.t
  ·rw [if_pos hA]
   go_enter Tryz.func175, Tryz.ntmps175
   go_wp2
   unfold ebx at hV
   rw [← hV]
   clear hV
   go_quiet (fail)
   go_wp2_with (first
    | (go_at_call 199; refine (HF.out _).mono ?_; rintro e w2 ⟨rfl, t2⟩; have T2 := hid (((Touch.refl [] V).drewN nq).trans' t2); clear t2 k0 k1 k2 k3 k4 d0 d1 d2 d3 d4 d5 d6 d7 d8 d9 df; obtain ⟨k0, k1, k2, k3, k4⟩ := HK.out _ T2.out; obtain ⟨d0, d1, d2, d3, d4, d5, d6, d7, d8, d9, df⟩ := (HMs.out _ T2.out).cs)
    | (go_at_call 200; refine (H1.out _ _ c.t (T2.out.alloc _) (by omega) (by omega) (by simp)).mono ?_; rintro e w3 ⟨rfl, t3⟩; have T3 := hid ((T2.out.alloc _).trans' t3); clear t3 k0 k1 k2 k3 k4; obtain ⟨k0, k1, k2, k3, k4⟩ := HK.out _ T3.out))
   go_ret
   exact ⟨rfl, TV.out.trans' T3.out⟩
  ·rw [if_neg hA]
   by_cases hB : ag < c.t + c.s
   ·rw [if_pos hB]
    go_enter Tryz.func175, Tryz.ntmps175
    go_wp2
    unfold ebx at hV
    rw [← hV]
    clear hV
    go_quiet (fail)
    go_wp2_with (first
     | (go_at_call 199; refine (HF.out _).mono ?_; rintro e w2 ⟨rfl, t2⟩; have T2 := hid (((Touch.refl [] V).drewN nq).trans' t2); clear t2 k0 k1 k2 k3 k4 d0 d1 d2 d3 d4 d5 d6 d7 d8 d9 df; obtain ⟨k0, k1, k2, k3, k4⟩ := HK.out _ T2.out; obtain ⟨d0, d1, d2, d3, d4, d5, d6, d7, d8, d9, df⟩ := (HMs.out _ T2.out).cs)
     | (go_at_call 200; have q3 := T3; refine (H2.out _ _ c.t c.s (T3.out.alloc _) (by omega) (by omega) (by omega) (by omega) (by simp) (by simp)).mono ?_; rintro e w4 ⟨rfl, t4⟩; have T4 := hid ((T3.out.alloc _).trans' t4); clear t4 q3)
     | (go_at_call 200; refine (H1.out _ _ c.t (T2.out.alloc _) (by omega) (by omega) (by simp)).mono ?_; rintro e w3 ⟨rfl, t3⟩; have T3 := hid ((T2.out.alloc _).trans' t3); clear t3 k0 k1 k2 k3 k4; obtain ⟨k0, k1, k2, k3, k4⟩ := HK.out _ T3.out))
    go_ret
    exact ⟨rfl, TV.out.trans' T4.out⟩
   ·rw [if_neg hB]
    go_enter Tryz.func175, Tryz.ntmps175
    go_wp2
    unfold ebx at hV
    rw [← hV]
    clear hV
    go_quiet (fail)
    go_wp2_with (first
     | (go_at_call 199; refine (HF.out _).mono ?_; rintro e w2 ⟨rfl, t2⟩; have T2 := hid (((Touch.refl [] V).drewN nq).trans' t2); clear t2 k0 k1 k2 k3 k4 d0 d1 d2 d3 d4 d5 d6 d7 d8 d9 df; obtain ⟨k0, k1, k2, k3, k4⟩ := HK.out _ T2.out; obtain ⟨d0, d1, d2, d3, d4, d5, d6, d7, d8, d9, df⟩ := (HMs.out _ T2.out).cs)
     | (go_at_call 200; have q3 := T3; refine (H2.out _ _ c.t c.s (T3.out.alloc _) (by omega) (by omega) (by omega) (by omega) (by simp) (by simp)).mono ?_; rintro e w4 ⟨rfl, t4⟩; have T4 := hid ((T3.out.alloc _).trans' t4); clear t4 q3)
     | (go_at_call 200; refine (H1.out _ _ c.t (T2.out.alloc _) (by omega) (by omega) (by simp)).mono ?_; rintro e w3 ⟨rfl, t3⟩; have T3 := hid ((T2.out.alloc _).trans' t3); clear t3 k0 k1 k2 k3 k4; obtain ⟨k0, k1, k2, k3, k4⟩ := HK.out _ T3.out))
    go_ret
    exact ⟨rfl, TV.out.trans' T4.out⟩
 ·rw [if_neg hk]
  rw [decide_eq_false hk] at HF
  clear hk
  by_cases hA : ag < c.n
  ·rw [if_pos hA]
   go_enter Tryz.func175, Tryz.ntmps175
   go_wp2
   unfold ebx at hV
   rw [← hV]
   clear hV
   go_quiet (fail)
   go_wp2_with (first
    | (go_at_call 199; refine (HF.out _).mono ?_; rintro e w2 ⟨rfl, t2⟩; have T2 := hid (((Touch.refl [] V).drewN nq).trans' t2); clear t2 k0 k1 k2 k3 k4 d0 d1 d2 d3 d4 d5 d6 d7 d8 d9 df; obtain ⟨k0, k1, k2, k3, k4⟩ := HK.out _ T2.out; obtain ⟨d0, d1, d2, d3, d4, d5, d6, d7, d8, d9, df⟩ := (HMs.out _ T2.out).cs)
    | (go_at_call 200; refine (H1.out _ _ c.n (T2.out.alloc _) (by omega) (by omega) (by simp)).mono ?_; rintro e w3 ⟨rfl, t3⟩; have T3 := hid ((T2.out.alloc _).trans' t3); clear t3 k0 k1 k2 k3 k4; obtain ⟨k0, k1, k2, k3, k4⟩ := HK.out _ T3.out))
   go_ret
   exact ⟨rfl, TV.out.trans' T3.out⟩
  ·rw [if_neg hA]
   have hB : ¬ ag < c.n + 0 := by omega
   go_enter Tryz.func175, Tryz.ntmps175
   go_wp2
   unfold ebx at hV
   rw [← hV]
   clear hV
   go_quiet (fail)
   go_wp2_with (first
    | (go_at_call 199; refine (HF.out _).mono ?_; rintro e w2 ⟨rfl, t2⟩; have T2 := hid (((Touch.refl [] V).drewN nq).trans' t2); clear t2 k0 k1 k2 k3 k4 d0 d1 d2 d3 d4 d5 d6 d7 d8 d9 df; obtain ⟨k0, k1, k2, k3, k4⟩ := HK.out _ T2.out; obtain ⟨d0, d1, d2, d3, d4, d5, d6, d7, d8, d9, df⟩ := (HMs.out _ T2.out).cs)
    | (go_at_call 200; have q3 := T3; refine (H2.out _ _ c.n 0 (T3.out.alloc _) (by omega) (by omega) (by omega) (by omega) (by simp) (by simp)).mono ?_; rintro e w4 ⟨rfl, t4⟩; have T4 := hid ((T3.out.alloc _).trans' t4); clear t4 q3)
    | (go_at_call 200; refine (H1.out _ _ c.n (T2.out.alloc _) (by omega) (by omega) (by simp)).mono ?_; rintro e w3 ⟨rfl, t3⟩; have T3 := hid ((T2.out.alloc _).trans' t3); clear t3 k0 k1 k2 k3 k4; obtain ⟨k0, k1, k2, k3, k4⟩ := HK.out _ T3.out))
   go_ret
   exact ⟨rfl, TV.out.trans' T4.out⟩
end Go.Proofs.YtllchnancjgijaaGreat.Me
/- Contracts of see, Get and Look; no conditions but those that each states. -/
namespace Go.Proofs.YtllchnancjgijaaGreat.Me
open Go.RowKit Go.Sort Go.Maps Go.ChangeMaps Go.WideMaps
def lookS (c : Cf) (now : Int) (xs : List En) (k : K) : Int × Int × O := match fnd xs k with
 | none => (0, 0, oz)
 | some v => (howC c v.1 (now - v.2), now - v.2, v.1)
def lv (p : Int × Int × O) : Value := sv p.1 p.2.1 p.2.2
theorem zero108 (w : World) : (zeroValue 215).run Tryz.prog w = .ok (.agg #[.int .i64 0, .int .i64 0, .int .i64 0, .int .i64 0, .int .i64 0]) w := by kernel_rfl
theorem Mb.look {w : World} {m b o : Nat} {G : List Nat} {c : Cf} {now : Int} {xs : List En} (h : Mb w m b o G c now xs) {k : K} (hk : Ok k) :
  (Instr.lookup 160 (.map (some b)) (kv k) true).run Tryz.prog w = .ok (.tuple #[((fnd xs k).map ev).getD (.agg #[.int .i64 0, .int .i64 0, .int .i64 0, .int .i64 0, .int .i64 0]), .bool (fnd xs k).isSome]) w := by
 have := h.mp.lookOk (t := 160) Tryz.underlying160 (zero108 w) hk
 unfold mpf at this
 simpa using this
theorem Mb.ats {w : World} {m b o : Nat} {G : List Nat} {c : Cf} {now : Int} {xs : List En} (h : Mb w m b o G c now xs) {k : K} {v : V} (hv : fnd xs k = some v) : right v.1 = true ∧ 0 ≤ v.2 ∧ v.2 ≤ now := h.gd.ok _ (fnd_mem hv)
theorem Mb.how {w : World} {m b o : Nat} {G : List Nat} {c : Cf} {now : Int} {xs : List En} (h : Mb w m b o G c now xs) {k : K} {v : V} (hv : fnd xs k = some v) :
  Calls Tryz.prog 175 #[PT m, ev v] w fun e w' => e = .returned (.int .i64 (howC c v.1 (now - v.2))) ∧ Touch [] w w' := by
 obtain ⟨q1, q2, q3⟩ := h.ats hv
 exact how65 w m c now b o h.md v q2 q3 h.gd.n1 h.gd.oc h.gd.wc
structure Sr (V : World) (r t n : Nat) (w' : World) : Prop where
 tc : Touch [r] V w'
 z : ∃ cs : Array Value, w'.heap[r]? = some (.cells cs t (0, 0)) ∧ cs.size = n
def gc (w : World) (r i : Nat) : Value := (w.cell? ⟨r, i, none⟩).getD undef
section
variable {V w' w'' : World} {r t n : Nat}
theorem Sr.mk' {cs : Array Value} (h : V.heap[r]? = some (.cells cs t (0, 0))) (hn : cs.size = n) : Sr V r t n V := ⟨Touch.refl _ _, cs, h, hn⟩
theorem Sr.go (h : Sr V r t n w') (k : Touch [] w' w'') : Sr V r t n w'' := by
 obtain ⟨cs, h1, h2⟩ := h.z
 exact ⟨h.tc.trans' (k.mono (fun _ e => by cases e)), cs, k.keep h1 (by simp), h2⟩
theorem Sr.drew (h : Sr V r t n w') : Sr V r t n w'.drew := h.go (Touch.refl _ _).drew
theorem Sr.set (h : Sr V r t n w') (i : Nat) (v : Value) : Sr V r t n (w'.setCell ⟨r, i, none⟩ v) := by
 obtain ⟨cs, h1, h2⟩ := h.z
 exact ⟨h.tc.setCell (Or.inl (by simp)) _, _, bset h1 _, by simp [h2]⟩
theorem Sr.cell (h : Sr V r t n w') (i : Nat) (hi : i < n) : w'.cell? ⟨r, i, none⟩ = some (gc w' r i) := by
 obtain ⟨cs, h1, h2⟩ := h.z
 have h3 : w'.cell? ⟨r, i, none⟩ = some (cs[i]'(by omega)) := by simp [World.cell?, h1, h2, hi]
 unfold gc
 rw [h3]
 rfl
theorem Sr.frozen (h : Sr V r t n w') (i : Nat) : w'.frozen? ⟨r, i, none⟩ = false := by
 obtain ⟨cs, h1, h2⟩ := h.z
 simp [World.frozen?, h1]
theorem Sr.keep (h : Sr V r t n w') {k : Nat} {ob : Obj} (hk : V.heap[k]? = some ob) (hr : k ≠ r) : w'.heap[k]? = some ob := h.tc.keep hk (by simpa using hr)
theorem Sr.new {w : World} (h : Sr V r t n w') (k : Touch [] w V) (hr : w.heap.size ≤ r) : Touch [] w w' := k.trans h.tc (fun i hi => by simp only [List.mem_singleton] at hi; subst hi; exact Or.inr hr)
end
theorem Sr.s6 {V w' : World} {r t n : Nat} (h : Sr V r t n w') (v0 v1 v2 v3 v4 v5 : Value) : Sr V r t n ((((((w'.setCell ⟨r, 0, none⟩ v0).setCell ⟨r, 1, none⟩ v1).setCell ⟨r, 2, none⟩ v2).setCell ⟨r, 3, none⟩ v3).setCell ⟨r, 4, none⟩ v4).setCell ⟨r, 5, none⟩ v5) := ((((((h.set 0 _).set 1 _).set 2 _).set 3 _).set 4 _).set 5 _)
theorem tset2 (w : World) (r : Nat) (v0 v1 : Value) : Touch [r] w ((w.setCell ⟨r, 0, none⟩ v0).setCell ⟨r, 1, none⟩ v1) := (((Touch.refl _ _).setCell (Or.inl (by simp)) _).setCell (Or.inl (by simp)) _)
theorem tset6 (w : World) (r : Nat) (v0 v1 v2 v3 v4 v5 : Value) : Touch [r] w ((((((w.setCell ⟨r, 0, none⟩ v0).setCell ⟨r, 1, none⟩ v1).setCell ⟨r, 2, none⟩ v2).setCell ⟨r, 3, none⟩ v3).setCell ⟨r, 4, none⟩ v4).setCell ⟨r, 5, none⟩ v5) := (((((((Touch.refl _ _).setCell (Or.inl (by simp)) _).setCell (Or.inl (by simp)) _).setCell (Or.inl (by simp)) _).setCell (Or.inl (by simp)) _).setCell (Or.inl (by simp)) _).setCell (Or.inl (by simp)) _)
set_option maxHeartbeats 1000000 in
theorem see50_no (w : World) (m b o : Nat) (G : List Nat) (c : Cf) (now : Int) (xs : List En) (h : Mb w m b o G c now xs) (k : K) (hk : Ok k) (hf : fnd xs k = none) :
  Calls Tryz.prog 130 #[PT m, kv k] w fun e w' => e = .returned (lv (0, 0, oz)) ∧ Touch [] w w' := by
 obtain ⟨V, hV⟩ : ∃ V, V = (w.alloc (bx k)).alloc (.cells #[.int .i64 0, .int .i64 0, .int .i64 0, .int .i64 0, .int .i64 0, .int .i64 0] 173) := ⟨_, rfl⟩
 have TV : Hid (Touch [] w V) := by rw [hV]; exact ((Touch.refl _ _).alloc _).alloc _
 have hB : V.heap[w.heap.size]? = some (bx k) := by rw [hV]; exact (Below.heap_alloc _ _ _ (by simp)).trans (heap_alloc_new w _)
 have hZ : V.heap[w.heap.size + 1]? = some (.cells #[.int .i64 0, .int .i64 0, .int .i64 0, .int .i64 0, .int .i64 0, .int .i64 0] 173 (0, 0)) := by
  rw [hV]
  have := heap_alloc_new (w.alloc (bx k)) (.cells #[.int .i64 0, .int .i64 0, .int .i64 0, .int .i64 0, .int .i64 0, .int .i64 0] 173)
  rwa [World.size_alloc] at this
 have sA : ∀ w', Touch [] V w' → w'.cell? ⟨m, 8, none⟩ = some (.map (some b)) := fun w' t => (h.keep0 (TV.out.trans' t)).md.cs.c8
 have sB : ∀ w', Touch [] V w' → w'.cell? ⟨w.heap.size, 0, none⟩ = some (.int .u16 k.1) := fun w' t => by
  have := t.keep hB (by simp)
  unfold bx at this
  simp [World.cell?, this]
 have sC : ∀ w', Touch [] V w' → w'.cell? ⟨w.heap.size, 1, none⟩ = some (.string k.2) := fun w' t => by
  have := t.keep hB (by simp)
  unfold bx at this
  simp [World.cell?, this]
 have sL : ∀ w', Touch [] V w' → (Instr.lookup 160 (.map (some b)) (.agg #[.int .u16 k.1, .string k.2]) true).run Tryz.prog w' = .ok (.tuple #[.agg #[.int .i64 0, .int .i64 0, .int .i64 0, .int .i64 0, .int .i64 0], .bool false]) w' := fun w' t => by
  have := (h.keep0 (TV.out.trans' t)).look hk
  rw [hf] at this
  exact this
 obtain ⟨U, hU⟩ : ∃ U, U = (V.alloc (.cells #[.int .i64 0, .int .i64 0, .int .i64 0, .int .i64 0, .int .i64 0] 215)).drew := ⟨_, rfl⟩
 have TU : Touch [] V U := by rw [hU]; exact ((Touch.refl _ _).alloc _).drew
 have hZ' := TU.keep hZ (by simp)
 have z0 : U.cell? ⟨w.heap.size + 1, 0, none⟩ = some (.int .i64 0) := by simp [World.cell?, hZ']
 have z1 : U.cell? ⟨w.heap.size + 1, 1, none⟩ = some (.int .i64 0) := by simp [World.cell?, hZ']
 have z2 : U.cell? ⟨w.heap.size + 1, 2, none⟩ = some (.int .i64 0) := by simp [World.cell?, hZ']
 have z3 : U.cell? ⟨w.heap.size + 1, 3, none⟩ = some (.int .i64 0) := by simp [World.cell?, hZ']
 have z4 : U.cell? ⟨w.heap.size + 1, 4, none⟩ = some (.int .i64 0) := by simp [World.cell?, hZ']
 have z5 : U.cell? ⟨w.heap.size + 1, 5, none⟩ = some (.int .i64 0) := by simp [World.cell?, hZ']
 have zf : ∀ i, U.frozen? ⟨w.heap.size + 1, i, none⟩ = false := fun i => by simp [World.frozen?, hZ']
 have TW := hid (TV.out.trans' TU)
 clear h hB hZ hZ' TU
 unfold PT kv lv sv oz
 go_enter Tryz.func130, Tryz.ntmps130
 go_wp2
 unfold bx at hV
 rw [← hV]
 clear hV hf hk
 have t0 : Touch [] V V.drew := (Touch.refl _ _).drew
 go_region_held3 (fun w' => Touch [] V w') (repeat (first | assumption | exact Touch.refl _ _ | apply Touch.alloc | apply Touch.drew | (refine Touch.setCell ?_ (Or.inr (by simp)) _))) (fail)
 all_goals
  clear sA sB sC sL t0
  rw [← hU]
  clear hU
  go_wp2
  refine bodyPost_ret (v := .agg #[.int .i64 0, .int .i64 0, .int .i64 0, .int .i64 0, .int .i64 0, .int .i64 0]) (by simp [results, Tryz.results130, go_sem, z0, z1, z2, z3, z4, z5]) rfl ⟨rfl, ?_⟩
  refine TW.out.trans (G := [w.heap.size + 1]) ?_ (fun i hi => by simp only [List.mem_singleton] at hi; subst hi; exact Or.inr (Nat.le_succ _))
  exact tset6 _ _ _ _ _ _ _ _
end Go.Proofs.YtllchnancjgijaaGreat.Me
/- Contracts of see, Get and Look; no conditions but those that each states. -/
namespace Go.Proofs.YtllchnancjgijaaGreat.Me
open Go.RowKit Go.Sort Go.Maps Go.ChangeMaps Go.WideMaps
set_option maxHeartbeats 4000000 in
theorem see50_yes (w : World) (m b o : Nat) (G : List Nat) (c : Cf) (now : Int) (xs : List En) (h : Mb w m b o G c now xs) (k : K) (hk : Ok k) (v : V) (hf : fnd xs k = some v) :
  Calls Tryz.prog 130 #[PT m, kv k] w fun e w' => e = .returned (lv (howC c v.1 (now - v.2), now - v.2, v.1)) ∧ Touch [] w w' := by
 obtain ⟨V, hV⟩ : ∃ V, V = (w.alloc (bx k)).alloc (.cells #[.int .i64 0, .int .i64 0, .int .i64 0, .int .i64 0, .int .i64 0, .int .i64 0] 173) := ⟨_, rfl⟩
 have TV : Hid (Touch [] w V) := by rw [hV]; exact ((Touch.refl _ _).alloc _).alloc _
 have hB : V.heap[w.heap.size]? = some (bx k) := by rw [hV]; exact (Below.heap_alloc _ _ _ (by simp)).trans (heap_alloc_new w _)
 have hZ : V.heap[w.heap.size + 1]? = some (.cells #[.int .i64 0, .int .i64 0, .int .i64 0, .int .i64 0, .int .i64 0, .int .i64 0] 173 (0, 0)) := by
  rw [hV]
  have := heap_alloc_new (w.alloc (bx k)) (.cells #[.int .i64 0, .int .i64 0, .int .i64 0, .int .i64 0, .int .i64 0, .int .i64 0] 173)
  rwa [World.size_alloc] at this
 have sA : ∀ w', Touch [] V w' → w'.cell? ⟨m, 8, none⟩ = some (.map (some b)) := fun w' t => (h.keep0 (TV.out.trans' t)).md.cs.c8
 have sB : ∀ w', Touch [] V w' → w'.cell? ⟨w.heap.size, 0, none⟩ = some (.int .u16 k.1) := fun w' t => by
  have := t.keep hB (by simp)
  unfold bx at this
  simp [World.cell?, this]
 have sC : ∀ w', Touch [] V w' → w'.cell? ⟨w.heap.size, 1, none⟩ = some (.string k.2) := fun w' t => by
  have := t.keep hB (by simp)
  unfold bx at this
  simp [World.cell?, this]
 have sL : ∀ w', Touch [] V w' → (Instr.lookup 160 (.map (some b)) (.agg #[.int .u16 k.1, .string k.2]) true).run Tryz.prog w' = .ok (.tuple #[.agg #[.int .i64 v.1.1, .int .i64 v.1.2.1, .int .i64 v.1.2.2.1, .int .i64 v.1.2.2.2, .int .i64 v.2], .bool true]) w' := fun w' t => by
  have := (h.keep0 (TV.out.trans' t)).look hk
  rw [hf] at this
  exact this
 obtain ⟨U, hU⟩ : ∃ U, U = (V.alloc (ebx v)).drew := ⟨_, rfl⟩
 have TU : Touch [] V U := by rw [hU]; exact ((Touch.refl _ _).alloc _).drew
 have hE : U.heap[V.heap.size]? = some (ebx v) := by rw [hU]; exact heap_alloc_new V _
 have hZ' := TU.keep hZ (by simp)
 have hlt : w.heap.size + 1 < V.heap.size := block_lt hZ
 have HS : Hid (Sr U (w.heap.size + 1) 173 6 U) := Sr.mk' hZ' rfl
 have hmr : m < w.heap.size := h.md.lt
 have rA : ∀ w', Sr U (w.heap.size + 1) 173 6 w' → w'.cell? ⟨m, 7, none⟩ = some (.int .i64 now) := fun w' s => by
  have hm := TU.keep (TV.out.keep h.md (by simp)) (by simp)
  exact (show Md w' m c now b o from s.keep hm (by omega)).cs.c7
 have rE : ∀ w', Sr U (w.heap.size + 1) 173 6 w' → w'.heap[V.heap.size]? = some (ebx v) := fun w' s => s.keep hE (by omega)
 have r0 : ∀ w', Sr U (w.heap.size + 1) 173 6 w' → w'.cell? ⟨V.heap.size, 0, none⟩ = some (.int .i64 v.1.1) := fun w' s => by have := rE w' s; unfold ebx at this; simp [World.cell?, this]
 have r1 : ∀ w', Sr U (w.heap.size + 1) 173 6 w' → w'.cell? ⟨V.heap.size, 1, none⟩ = some (.int .i64 v.1.2.1) := fun w' s => by have := rE w' s; unfold ebx at this; simp [World.cell?, this]
 have r2 : ∀ w', Sr U (w.heap.size + 1) 173 6 w' → w'.cell? ⟨V.heap.size, 2, none⟩ = some (.int .i64 v.1.2.2.1) := fun w' s => by have := rE w' s; unfold ebx at this; simp [World.cell?, this]
 have r3 : ∀ w', Sr U (w.heap.size + 1) 173 6 w' → w'.cell? ⟨V.heap.size, 3, none⟩ = some (.int .i64 v.1.2.2.2) := fun w' s => by have := rE w' s; unfold ebx at this; simp [World.cell?, this]
 have r4 : ∀ w', Sr U (w.heap.size + 1) 173 6 w' → w'.cell? ⟨V.heap.size, 4, none⟩ = some (.int .i64 v.2) := fun w' s => by have := rE w' s; unfold ebx at this; simp [World.cell?, this]
 have y0 : ∀ w', Sr U (w.heap.size + 1) 173 6 w' → w'.cell? ⟨w.heap.size + 1, 0, none⟩ = some (gc w' (w.heap.size + 1) 0) := fun w' s => s.cell 0 (by omega)
 have y1 : ∀ w', Sr U (w.heap.size + 1) 173 6 w' → w'.cell? ⟨w.heap.size + 1, 1, none⟩ = some (gc w' (w.heap.size + 1) 1) := fun w' s => s.cell 1 (by omega)
 have y2 : ∀ w', Sr U (w.heap.size + 1) 173 6 w' → w'.cell? ⟨w.heap.size + 1, 2, none⟩ = some (gc w' (w.heap.size + 1) 2) := fun w' s => s.cell 2 (by omega)
 have y3 : ∀ w', Sr U (w.heap.size + 1) 173 6 w' → w'.cell? ⟨w.heap.size + 1, 3, none⟩ = some (gc w' (w.heap.size + 1) 3) := fun w' s => s.cell 3 (by omega)
 have y4 : ∀ w', Sr U (w.heap.size + 1) 173 6 w' → w'.cell? ⟨w.heap.size + 1, 4, none⟩ = some (gc w' (w.heap.size + 1) 4) := fun w' s => s.cell 4 (by omega)
 have y5 : ∀ w', Sr U (w.heap.size + 1) 173 6 w' → w'.cell? ⟨w.heap.size + 1, 5, none⟩ = some (gc w' (w.heap.size + 1) 5) := fun w' s => s.cell 5 (by omega)
 have yf : ∀ w', Sr U (w.heap.size + 1) 173 6 w' → ∀ i, w'.frozen? ⟨w.heap.size + 1, i, none⟩ = false := fun w' s i => s.frozen i
 have HH : Hid (∀ w', Sr U (w.heap.size + 1) 173 6 w' → Calls Tryz.prog 175 #[PT m, ev v] w' fun e w'' => e = .returned (.int .i64 (howC c v.1 (now - v.2))) ∧ Touch [] w' w'') := fun w' s => (h.keep ((TV.out.trans' TU).mono (fun _ e => by cases e) |>.trans (G := [w.heap.size + 1]) s.tc (fun i hi => Or.inl hi)) (fun k' hk' => by
  have := h.lt k' hk'
  simp only [List.mem_singleton]
  omega)).how hf
 have TW : Hid (Touch [] w U) := TV.out.trans' TU
 have hw : IntKind.i64.wrap (now - v.2) = now - v.2 := by
  obtain ⟨q1, q2, q3⟩ := h.ats hf
  have := h.gd.n1
  unfold MT at this
  simp [IntKind.wrap, IntKind.bits, IntKind.signed, IntKind.min, IntKind.max]
  omega
 clear h hB hZ TU hE hZ' rE hf hk hmr
 unfold PT ev at HH
 unfold PT kv lv sv
 simp only
 generalize howC c v.1 (now - v.2) = hh at *
 go_enter Tryz.func130, Tryz.ntmps130
 go_wp2
 unfold bx at hV
 rw [← hV]
 clear hV
 have t0 : Touch [] V V.drew := (Touch.refl _ _).drew
 go_region_held3 (fun w' => Touch [] V w') (repeat (first | assumption | exact Touch.refl _ _ | apply Touch.alloc | apply Touch.drew | (refine Touch.setCell ?_ (Or.inr (by simp)) _))) (fail)
 all_goals
  clear sA sB sC sL t0
  unfold ebx at hU
  rw [← hU]
  clear hU
  have s0 := HS.out.drew
  go_upto_region 4 with fail
  refine wp_region_H (S := fun w' => Sr U (w.heap.size + 1) 173 6 w') (by kernel_rfl) ?_
  refine wpH_take (i := 0) (v := (.pointer (some ⟨m, 0, none⟩))) (some 19) rfl rfl (by kernel_rfl) (by kernel_rfl) (by kernel_rfl) (fun _ _ _ h => h) (Or.inl ⟨by rfl, fun w' hS => (by go_simp)⟩) s0 ?_
  try simp only [Go.Act.put, Zx, Zy, Zz]
  refine wpH_take (i := 1) (v := (.agg #[.int .i64 v.1.1, .int .i64 v.1.2.1, .int .i64 v.1.2.2.1, .int .i64 v.1.2.2.2, .int .i64 v.2])) (some 20) rfl rfl (by kernel_rfl) (by kernel_rfl) (by kernel_rfl) (fun _ _ _ h => h) (Or.inl ⟨by rfl, fun w' hS => (by have z0 := r0 _ hS; have z1 := r1 _ hS; have z2 := r2 _ hS; have z3 := r3 _ hS; have z4 := r4 _ hS; go_simp)⟩) s0 ?_
  try simp only [Go.Act.put, Zx, Zy, Zz]
  refine wpH_take (i := 3) (v := (.pointer (some ⟨m, 0, none⟩))) (some 22) rfl rfl (by kernel_rfl) (by kernel_rfl) (by kernel_rfl) (fun _ _ _ h => h) (Or.inl ⟨by rfl, fun w' hS => (by go_simp)⟩) s0 ?_
  try simp only [Go.Act.put, Zx, Zy, Zz]
  refine wpH_take (i := 4) (v := (.pointer (some ⟨m, 0, none⟩))) (some 23) rfl rfl (by kernel_rfl) (by kernel_rfl) (by kernel_rfl) (fun _ _ _ h => h) (Or.inl ⟨by rfl, fun w' hS => (by go_simp)⟩) s0 ?_
  try simp only [Go.Act.put, Zx, Zy, Zz]
  refine wpH_take (i := 5) (v := (.pointer (some ⟨m, 7, none⟩))) (some 24) rfl rfl (by kernel_rfl) (by kernel_rfl) (by kernel_rfl) (fun _ _ _ h => h) (Or.inl ⟨by rfl, fun w' hS => (by go_simp)⟩) s0 ?_
  try simp only [Go.Act.put, Zx, Zy, Zz]
  refine wpH_take (i := 6) (v := (.int .i64 now)) (some 25) rfl rfl (by kernel_rfl) (by kernel_rfl) (by kernel_rfl) (fun _ _ _ h => h) (Or.inl ⟨by rfl, fun w' hS => (by have z0 := rA _ hS; go_simp)⟩) s0 ?_
  try simp only [Go.Act.put, Zx, Zy, Zz]
  refine wpH_take (i := 7) (v := (.pointer (some ⟨V.heap.size, 4, none⟩))) (some 26) rfl rfl (by kernel_rfl) (by kernel_rfl) (by kernel_rfl) (fun _ _ _ h => h) (Or.inl ⟨by rfl, fun w' hS => (by go_simp)⟩) s0 ?_
  try simp only [Go.Act.put, Zx, Zy, Zz]
  refine wpH_take (i := 8) (v := (.int .i64 v.2)) (some 27) rfl rfl (by kernel_rfl) (by kernel_rfl) (by kernel_rfl) (fun _ _ _ h => h) (Or.inl ⟨by rfl, fun w' hS => (by have z0 := r4 _ hS; go_simp)⟩) s0 ?_
  try simp only [Go.Act.put, Zx, Zy, Zz]
  refine wpH_take (i := 9) (v := (.int .i64 (now - v.2))) (some 28) rfl rfl (by kernel_rfl) (by kernel_rfl) (by kernel_rfl) (fun _ _ _ h => h) (Or.inl ⟨by rfl, fun w' hS => (by go_simp)⟩) s0 ?_
  try simp only [Go.Act.put, Zx, Zy, Zz]
  refine wpH_take (i := 10) (v := (.pointer (some ⟨V.heap.size, 0, none⟩))) (some 29) rfl rfl (by kernel_rfl) (by kernel_rfl) (by kernel_rfl) (fun _ _ _ h => h) (Or.inl ⟨by rfl, fun w' hS => (by go_simp)⟩) s0 ?_
  try simp only [Go.Act.put, Zx, Zy, Zz]
  refine wpH_take (i := 11) (v := (.agg #[.int .i64 v.1.1, .int .i64 v.1.2.1, .int .i64 v.1.2.2.1, .int .i64 v.1.2.2.2])) (some 30) rfl rfl (by kernel_rfl) (by kernel_rfl) (by kernel_rfl) (fun _ _ _ h => h) (Or.inl ⟨by rfl, fun w' hS => (by have z0 := r0 _ hS; have z1 := r1 _ hS; have z2 := r2 _ hS; have z3 := r3 _ hS; go_simp)⟩) s0 ?_
  try simp only [Go.Act.put, Zx, Zy, Zz]
  refine wpH_call (i := 2) (o := { dst := some 21, op := Op.call { callee := Callee.value (Operand.func 175), args := #[Operand.tmp 19, Operand.tmp 20], argTypes := #[91, 215] }, type := 3, pos := _, after := #[{ on := 0, ground := Ground.data }, { on := 1, ground := Ground.data }], guard := none }) (by kernel_rfl) rfl (fun K' hK => ?_)
  rw [if_pos (by rfl)]
  go_simp
  refine (HH.out _ s0).mono ?_
  rintro e w1 ⟨rfl, t1⟩
  have s1 := s0.go t1
  clear t1
  obtain ⟨q0, q1, q2, q3, q4, q5⟩ : w1.cell? ⟨w.heap.size + 1, 0, none⟩ = some (gc w1 (w.heap.size + 1) 0) ∧ w1.cell? ⟨w.heap.size + 1, 1, none⟩ = some (gc w1 (w.heap.size + 1) 1) ∧ w1.cell? ⟨w.heap.size + 1, 2, none⟩ = some (gc w1 (w.heap.size + 1) 2) ∧ w1.cell? ⟨w.heap.size + 1, 3, none⟩ = some (gc w1 (w.heap.size + 1) 3) ∧ w1.cell? ⟨w.heap.size + 1, 4, none⟩ = some (gc w1 (w.heap.size + 1) 4) ∧ w1.cell? ⟨w.heap.size + 1, 5, none⟩ = some (gc w1 (w.heap.size + 1) 5) := ⟨y0 _ s1, y1 _ s1, y2 _ s1, y3 _ s1, y4 _ s1, y5 _ s1⟩
  have qf := yf _ s1
  refine hK.out _ _ s1 ?_
  clear hK
  try simp only [Go.Act.put, Zx, Zy, Zz]
  refine wpH_take (i := 12) (v := (.agg #[.int .i64 hh, .int .i64 (now - v.2), .int .i64 v.1.1, .int .i64 v.1.2.1, .int .i64 v.1.2.2.1, .int .i64 v.1.2.2.2])) (some 31) rfl rfl (by kernel_rfl) (by kernel_rfl) (by kernel_rfl) (fun _ _ _ h => h) (Or.inl ⟨by rfl, fun w' hS => (by go_simp)⟩) s1 ?_
  try simp only [Go.Act.put, Zx, Zy, Zz]
  refine wpH_call (i := 13) (o := { dst := none, op := Op.store 173 (Operand.tmp 4) (Operand.tmp 31), type := 0, pos := _, after := #[{ on := 12, ground := Ground.data }, { on := 2, ground := Ground.chain }, { on := 0, ground := Ground.phase }, { on := 1, ground := Ground.phase }, { on := 2, ground := Ground.phase }, { on := 3, ground := Ground.phase }, { on := 4, ground := Ground.phase }, { on := 5, ground := Ground.phase }, { on := 6, ground := Ground.phase }, { on := 7, ground := Ground.phase }, { on := 8, ground := Ground.phase }, { on := 9, ground := Ground.phase }, { on := 10, ground := Ground.phase }, { on := 11, ground := Ground.phase }, { on := 12, ground := Ground.phase }], guard := none }) (by kernel_rfl) rfl (fun K' hK => ?_)
  rw [if_pos (by rfl)]
  go_simp
  refine hK.out _ _ (Sr.s6 s1 _ _ _ _ _ _) ?_
  clear hK
  try simp only [Go.Act.put, Zx, Zy, Zz]
  refine wpAnyH_done (by kernel_rfl) ?_ _
  have S1 := hid s1
  clear rA r0 r1 r2 r3 r4 y0 y1 y2 y3 y4 y5 yf s0 s1 qf
  go_wp2
  refine bodyPost_ret (v := .agg #[.int .i64 hh, .int .i64 (now - v.2), .int .i64 v.1.1, .int .i64 v.1.2.1, .int .i64 v.1.2.2.1, .int .i64 v.1.2.2.2]) (by simp [results, Tryz.results130, go_sem, q0, q1, q2, q3, q4, q5]) rfl ⟨rfl, ?_⟩
  refine (S1.out.new TW.out (Nat.le_succ _)).trans (G := [w.heap.size + 1]) ?_ (fun i hi => by simp only [List.mem_singleton] at hi; subst hi; exact Or.inr (Nat.le_succ _))
  exact tset6 _ _ _ _ _ _ _ _
end Go.Proofs.YtllchnancjgijaaGreat.Me
/- Contracts of Get, Look and Tell; no conditions but those that each states. -/
namespace Go.Proofs.YtllchnancjgijaaGreat.Me
open Go.RowKit Go.Sort Go.Maps Go.ChangeMaps Go.WideMaps
theorem seeM (w : World) (m : Nat) (F : List Nat) (c : Cf) (now : Int) (xs : List En) (h : Mq w m F c now xs) (k : K) (hk : Ok k) :
  Calls Tryz.prog 130 #[PT m, kv k] w fun e w' => e = .returned (lv (lookS c now xs k)) ∧ Touch [] w w' := by
 obtain ⟨b, o, G, rfl, h⟩ := h
 unfold lookS
 cases hf : fnd xs k with
 | none => exact see50_no w m b o G c now xs h k hk hf
 | some v => exact see50_yes w m b o G c now xs h k hk v hf
end Go.Proofs.YtllchnancjgijaaGreat.Me
