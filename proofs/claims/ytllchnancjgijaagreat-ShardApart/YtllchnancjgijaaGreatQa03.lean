/- The contract of Look; a key's space is a number of 16 bits, a name's length fits. -/
import Derived.Test.YtllchnancjgijaaGreatQa02
import Derived.Test.YtllchnancjgijaaGreatQa01
import Derived.Laws.MakeOwn
import Derived.Laws.OwnMore
import Derived.Shelf.SlMaps.Clone
set_option linter.unusedVariables false
set_option linter.unusedSimpArgs false
set_option maxRecDepth 100000
namespace Go.Proofs.YtllchnancjgijaaGreat.Me
open Go.RowKit Go.Sort Go.Maps Go.ChangeMaps Go.WideMaps
theorem tickE_ok {now n : Int} (h : tickE now n = 0) : now ≤ n ∧ n ≤ MT := by
 unfold tickE isT at h
 unfold MT
 split at h
 ·rename_i h1
  simp only [Bool.and_eq_true, decide_eq_true_eq] at h1
  split at h <;> omega
 ·omega
theorem Mb.time {w : World} {m b o : Nat} {G : List Nat} {c : Cf} {now n : Int} {xs : List En} (h : Mb w m b o G c now xs) (h1 : now ≤ n) (h2 : n ≤ MT) : Mb (w.setCell ⟨m, 7, none⟩ (.int .i64 n)) m b o G c n xs := by
 have t : Touch [m] w (w.setCell ⟨m, 7, none⟩ (.int .i64 n)) := (Touch.refl _ _).setCell (Or.inl (by simp)) _
 refine ⟨h.md.set7 n, h.mp.kept (t.block b h.mp.lt (by simpa using h.mb)), h.oq.keep t (fun k hk hh => ?_), h.gd.later h1 h2, h.bg⟩
 simp only [List.mem_singleton] at hh
 subst hh
 exact h.mg hk
theorem Mq.time {w : World} {m : Nat} {F : List Nat} {c : Cf} {now n : Int} {xs : List En} (h : Mq w m F c now xs) (h1 : now ≤ n) (h2 : n ≤ MT) : Mc w m F c n xs (w.setCell ⟨m, 7, none⟩ (.int .i64 n)) := by
 obtain ⟨b, o, G, rfl, h⟩ := h
 exact ⟨_, ⟨b, o, G, rfl, h.time h1 h2⟩, (Touch.refl _ _).setCell (Or.inl (by simp)) _, Nf.refl _ _⟩
theorem Mq.mem {w : World} {m : Nat} {F : List Nat} {c : Cf} {now : Int} {xs : List En} (h : Mq w m F c now xs) : m ∈ F := by
 obtain ⟨b, o, G, rfl, h⟩ := h
 simp
theorem Mq.tick {w : World} {m : Nat} {F : List Nat} {c : Cf} {now : Int} {xs : List En} (h : Mq w m F c now xs) (n : Int) : Calls Tryz.prog 116 #[PT m, .int .i64 n] w fun e w' => e = .returned (.int .i64 (tickE now n)) ∧ w' = w := by
 obtain ⟨b, o, G, rfl, h⟩ := h
 exact tick45 w m c now n b o h.md
theorem Mq.c7 {w : World} {m : Nat} {F : List Nat} {c : Cf} {now : Int} {xs : List En} (h : Mq w m F c now xs) : w.cell? ⟨m, 7, none⟩ = some (.int .i64 now) ∧ w.frozen? ⟨m, 7, none⟩ = false := by
 obtain ⟨b, o, G, rfl, h⟩ := h
 exact ⟨h.md.cs.c7, h.md.cs.f7⟩
def askE (now n : Int) (k : K) : Int := if tickE now n = 0 then (if 64 < k.2.size then 20 else 0) else tickE now n
def zbx : Obj := .cells #[.int .i64 0, .int .i64 0, .int .i64 0, .int .i64 0, .int .i64 0, .int .i64 0] 173
structure Z6 (w : World) (r : Nat) : Prop where
 z0 : w.cell? ⟨r, 0, none⟩ = some (.int .i64 0)
 z1 : w.cell? ⟨r, 1, none⟩ = some (.int .i64 0)
 z2 : w.cell? ⟨r, 2, none⟩ = some (.int .i64 0)
 z3 : w.cell? ⟨r, 3, none⟩ = some (.int .i64 0)
 z4 : w.cell? ⟨r, 4, none⟩ = some (.int .i64 0)
 z5 : w.cell? ⟨r, 5, none⟩ = some (.int .i64 0)
 f0 : w.frozen? ⟨r, 0, none⟩ = false
 f1 : w.frozen? ⟨r, 1, none⟩ = false
 f2 : w.frozen? ⟨r, 2, none⟩ = false
 f3 : w.frozen? ⟨r, 3, none⟩ = false
 f4 : w.frozen? ⟨r, 4, none⟩ = false
 f5 : w.frozen? ⟨r, 5, none⟩ = false
theorem Z6.mk' {w : World} {r : Nat} (h : w.heap[r]? = some zbx) : Z6 w r := by
 unfold zbx at h
 constructor <;> simp [World.cell?, World.frozen?, h]
section
variable {w : World} {m : Nat} {F : List Nat} {c : Cf} {now : Int} {xs : List En}
theorem look21_tick (w : World) (m : Nat) (F : List Nat) (c : Cf) (now n : Int) (xs : List En) (h : Mq w m F c now xs) (k : K) (ht : tickE now n ≠ 0) :
  Calls Tryz.prog 88 #[PT m, .int .i64 n, kv k] w fun e w' => e = .returned (.tuple #[lv (0, 0, oz), .int .i64 (tickE now n)]) ∧ Touch [] w w' := by
 obtain ⟨V, hV⟩ : ∃ V, V = (w.alloc (bx k)).alloc zbx := ⟨_, rfl⟩
 have TV : Hid (Touch [] w V) := by rw [hV]; exact ((Touch.refl _ _).alloc _).alloc _
 have hZ : V.heap[w.heap.size + 1]? = some zbx := by
  rw [hV]
  have := heap_alloc_new (w.alloc (bx k)) zbx
  rwa [World.size_alloc] at this
 obtain ⟨z0, z1, z2, z3, z4, z5, f0, f1, f2, f3, f4, f5⟩ := Z6.mk' hZ
 have HT := hid ((h.keep0 TV.out).tick n)
 clear h hZ
 have hb : ((tickE now n) == 0) = false := by simp [ht]
 clear ht
 generalize tickE now n = E at *
 unfold PT kv lv sv oz at *
 go_enter Tryz.func88, Tryz.ntmps88
 go_upto_region 1 with fail
 unfold bx zbx at hV
 rw [← hV]
 clear hV
 go_wp2_with (go_at_call 116; refine HT.out.mono ?_; rintro e w2 ⟨rfl, e2⟩; rw [e2]; clear e2 w2)
 refine bodyPost_ret (v := .tuple #[.agg #[.int .i64 0, .int .i64 0, .int .i64 0, .int .i64 0, .int .i64 0, .int .i64 0], .int .i64 E]) (by simp [results, Tryz.results88, go_sem, z0, z1, z2, z3, z4, z5]) rfl ⟨rfl, ?_⟩
 refine TV.out.trans (G := [w.heap.size + 1]) ?_ (fun i hi => by simp only [List.mem_singleton] at hi; subst hi; exact Or.inr (Nat.le_succ _))
 exact tset6 _ _ _ _ _ _ _ _
theorem look21_key (w : World) (m : Nat) (F : List Nat) (c : Cf) (now n : Int) (xs : List En) (h : Mq w m F c now xs) (k : K) (ht : tickE now n = 0) (hk : 64 < k.2.size) :
  Calls Tryz.prog 88 #[PT m, .int .i64 n, kv k] w fun e w' => e = .returned (.tuple #[lv (0, 0, oz), .int .i64 20]) ∧ Touch [] w w' := by
 obtain ⟨V, hV⟩ : ∃ V, V = (w.alloc (bx k)).alloc zbx := ⟨_, rfl⟩
 have TV : Hid (Touch [] w V) := by rw [hV]; exact ((Touch.refl _ _).alloc _).alloc _
 have hB : V.heap[w.heap.size]? = some (bx k) := by rw [hV]; exact (Below.heap_alloc _ _ _ (by simp)).trans (heap_alloc_new w _)
 have hZ : V.heap[w.heap.size + 1]? = some zbx := by
  rw [hV]
  have := heap_alloc_new (w.alloc (bx k)) zbx
  rwa [World.size_alloc] at this
 have HZ : Hid (∀ w2, Touch [] V w2 → Z6 w2 (w.heap.size + 1)) := fun w2 t => Z6.mk' (t.keep hZ (by simp))
 unfold bx at hB
 have b0 : V.cell? ⟨w.heap.size, 0, none⟩ = some (.int .u16 k.1) := by simp [World.cell?, hB]
 have b1 : V.cell? ⟨w.heap.size, 1, none⟩ = some (.string k.2) := by simp [World.cell?, hB]
 have HT := hid ((h.keep0 TV.out).tick n)
 rw [ht] at HT
 have HC := hid (check29_no V k hk)
 clear h hZ hB ht hk
 unfold PT kv lv sv oz at *
 go_enter Tryz.func88, Tryz.ntmps88
 go_upto_region 1 with fail
 unfold bx zbx at hV
 rw [← hV]
 clear hV
 go_wp2_with (first
  | (go_at_call 116; refine HT.out.mono ?_; rintro e w2 ⟨rfl, e2⟩; rw [e2]; clear e2 w2)
  | (go_at_call 85; refine HC.out.mono ?_; rintro e w3 ⟨rfl, t3⟩; have T3 := hid t3; obtain ⟨z0, z1, z2, z3, z4, z5, f0, f1, f2, f3, f4, f5⟩ := HZ.out _ t3; clear t3))
 refine bodyPost_ret (v := .tuple #[.agg #[.int .i64 0, .int .i64 0, .int .i64 0, .int .i64 0, .int .i64 0, .int .i64 0], .int .i64 20]) (by simp [results, Tryz.results88, go_sem, z0, z1, z2, z3, z4, z5]) rfl ⟨rfl, ?_⟩
 refine (TV.out.trans' T3.out).trans (G := [w.heap.size + 1]) ?_ (fun i hi => by simp only [List.mem_singleton] at hi; subst hi; exact Or.inr (Nat.le_succ _))
 exact tset6 _ _ _ _ _ _ _ _
set_option maxHeartbeats 1000000 in
theorem look21_ok (w : World) (m : Nat) (F : List Nat) (c : Cf) (now n : Int) (xs : List En) (h : Mq w m F c now xs) (k : K) (ok : Ok k) (ht : tickE now n = 0) (hk : k.2.size ≤ 64) :
  Calls Tryz.prog 88 #[PT m, .int .i64 n, kv k] w fun e w' => e = .returned (.tuple #[lv (lookS c n xs k), .int .i64 0]) ∧ Mc w m F c n xs w' := by
 obtain ⟨V, hV⟩ : ∃ V, V = (w.alloc (bx k)).alloc zbx := ⟨_, rfl⟩
 have TV : Hid (Touch [] w V) := by rw [hV]; exact ((Touch.refl _ _).alloc _).alloc _
 have hB : V.heap[w.heap.size]? = some (bx k) := by rw [hV]; exact (Below.heap_alloc _ _ _ (by simp)).trans (heap_alloc_new w _)
 have hZ : V.heap[w.heap.size + 1]? = some zbx := by
  rw [hV]
  have := heap_alloc_new (w.alloc (bx k)) zbx
  rwa [World.size_alloc] at this
 have hF := h.lt
 obtain ⟨q1, q2⟩ := tickE_ok ht
 have HK : Hid (∀ w2, Touch [] V w2 → (w2.cell? ⟨w.heap.size, 0, none⟩ = some (.int .u16 k.1) ∧ w2.cell? ⟨w.heap.size, 1, none⟩ = some (.string k.2)) ∧ w2.cell? ⟨m, 7, none⟩ = some (.int .i64 now) ∧ w2.frozen? ⟨m, 7, none⟩ = false) := fun w2 t => by
  have := t.keep hB (by simp)
  unfold bx at this
  exact ⟨by simp [World.cell?, this], (h.keep0 (TV.out.trans' t)).c7⟩
 have hm : m < w.heap.size := hF m h.mem
 have hne : w.heap.size ≠ m := by omega
 have HS : Hid (∀ w2, Touch [] V w2 → Calls Tryz.prog 130 #[PT m, kv k] (w2.setCell ⟨m, 7, none⟩ (.int .i64 n)) fun e w' => e = .returned (lv (lookS c n xs k)) ∧ Z6 w' (w.heap.size + 1) ∧ ∀ w5, Touch [w.heap.size + 1] w' w5 → Mc w m F c n xs w5) := fun w2 t => by
  have C := (h.keep0 (TV.out.trans' t)).time q1 q2
  obtain ⟨F', C1, C2, C3⟩ := C
  refine (seeM _ m F' c n xs C1 k ok).mono ?_
  rintro e w4 ⟨rfl, t4⟩
  have tm : Touch [m] w2 (w2.setCell ⟨m, 7, none⟩ (.int .i64 n)) := (Touch.refl _ _).setCell (Or.inl (by simp)) _
  refine ⟨rfl, Z6.mk' (t4.keep (tm.keep (t.keep hZ (by simp)) (by simp; omega)) (by simp)), fun w5 t5 => ?_⟩
  exact (Mc.keep0 (⟨F', C1, C2, C3⟩ : Mc w2 m F c n xs _) t4).own t5 (TV.out.trans' t) (Nat.le_succ _) (by have := block_lt (t.keep hZ (by simp)); omega) hF
 have HT := hid ((h.keep0 TV.out).tick n)
 rw [ht] at HT
 have HC := hid (check29_ok V k hk)
 obtain ⟨⟨b0, b1⟩, g0, g1⟩ := HK.out V (Touch.refl _ _)
 clear h hZ hB ht hk hF q1 q2
 obtain ⟨s, hs⟩ : ∃ s, s = lookS c n xs k := ⟨_, rfl⟩
 rw [← hs] at HS ⊢
 clear hs
 obtain ⟨sh, sa, so⟩ := s
 unfold PT kv lv sv at *
 simp only at HS ⊢
 go_enter Tryz.func88, Tryz.ntmps88
 go_upto_region 1 with fail
 unfold bx zbx at hV
 rw [← hV]
 clear hV
 go_wp2_with (first
  | (go_at_call 116; refine HT.out.mono ?_; rintro e w2 ⟨rfl, e2⟩; rw [e2]; clear e2 w2)
  | (go_at_call 85; refine HC.out.mono ?_; rintro e w3 ⟨rfl, t3⟩; have T3 := hid t3; clear b0 b1 g0 g1; obtain ⟨⟨b0, b1⟩, g0, g1⟩ := HK.out _ t3; clear t3)
  | (go_at_call 130; refine (HS.out _ T3.out).mono ?_; rintro e w4 ⟨rfl, hz, hc⟩; obtain ⟨z0, z1, z2, z3, z4, z5, f0, f1, f2, f3, f4, f5⟩ := hz; have HC4 := hid hc; clear hc))
 refine bodyPost_ret (v := .tuple #[.agg #[.int .i64 sh, .int .i64 sa, .int .i64 so.1, .int .i64 so.2.1, .int .i64 so.2.2.1, .int .i64 so.2.2.2], .int .i64 0]) (by simp [results, Tryz.results88, go_sem, z0, z1, z2, z3, z4, z5]) rfl ⟨rfl, ?_⟩
 exact HC4.out _ (tset6 _ _ _ _ _ _ _ _)
end
def askR (c : Cf) (now n : Int) (xs : List En) (k : K) : Int × Int × O := if askE now n k = 0 then lookS c n xs k else (0, 0, oz)
def askN (now n : Int) (k : K) : Int := if askE now n k = 0 then n else now
theorem lookM (w : World) (m : Nat) (F : List Nat) (c : Cf) (now n : Int) (xs : List En) (h : Mq w m F c now xs) (k : K) (ok : Ok k) :
  Calls Tryz.prog 88 #[PT m, .int .i64 n, kv k] w fun e w' => e = .returned (.tuple #[lv (askR c now n xs k), .int .i64 (askE now n k)]) ∧ Mc w m F c (askN now n k) xs w' := by
 by_cases ht : tickE now n = 0
 ·by_cases hk : 64 < k.2.size
  ·have e : askE now n k = 20 := by unfold askE; rw [if_pos ht, if_pos hk]
   unfold askR askN
   rw [e, if_neg (by decide), if_neg (by decide)]
   exact (look21_key w m F c now n xs h k ht hk).mono fun e w' ⟨he, t⟩ => ⟨he, (Mc.refl h).keep0 t⟩
  ·have e : askE now n k = 0 := by unfold askE; rw [if_pos ht, if_neg hk]
   unfold askR askN
   rw [e, if_pos rfl, if_pos rfl]
   exact look21_ok w m F c now n xs h k ok ht (by omega)
 ·have e : askE now n k = tickE now n := by unfold askE; rw [if_neg ht]
  unfold askR askN
  rw [e, if_neg ht, if_neg ht]
  exact (look21_tick w m F c now n xs h k ht).mono fun e w' ⟨he, t⟩ => ⟨he, (Mc.refl h).keep0 t⟩
end Go.Proofs.YtllchnancjgijaaGreat.Me
/- Outcomes that may be, as a plain function; the contracts of the program's and of the document's look at them; no conditions. -/
namespace Go.Proofs.YtllchnancjgijaaGreat.Ta
open Go.RowKit Go.Maps Go.ChangeMaps
abbrev O := Int × Int × Int × Int
def ov (o : O) : Value := .agg #[.int .i64 o.1, .int .i64 o.2.1, .int .i64 o.2.2.1, .int .i64 o.2.2.2]
def oz : O := (0, 0, 0, 0)
def mayF (kd cd rn : Int) : Bool :=
 if kd = 0 then decide (cd = 0) && decide (rn = 0) else if kd = 1 then decide (1 ≤ rn) else if kd = 2 then decide (1 ≤ rn)
 else if kd = 3 then decide (cd = 0) && decide (rn = 0) else if kd = 4 then decide (cd = 0) && decide (rn = 0)
 else if kd = 5 then decide (cd = 0) && decide (1 ≤ rn) else false
def nonF (kd cd rn : Int) : Bool := decide (kd = 0) && (decide (cd = 0) && decide (rn = 0))
def right (o : O) : Bool := mayF o.2.1 o.2.2.1 o.2.2.2 && (nonF o.2.1 o.2.2.1 o.2.2.2 || decide (o.1 = 0))
theorem eqf (w : World) (a b c : Int) : (binOp .eql 37 (.agg #[.int .i64 a, .int .i64 b, .int .i64 c]) (.agg #[.int .i64 0, .int .i64 0, .int .i64 0])).run Tryz.prog w = .ok (.bool (nonF a b c)) w := by
 unfold nonF
 by_cases h1 : a = 0
 ·by_cases h2 : b = 0
  ·by_cases h3 : c = 0
   ·go_simp
   ·go_simp
  ·go_simp
 ·go_simp
theorem same45 (w : World) (a b c : Int) : Calls Tryz.prog 204 #[.agg #[.int .i64 a, .int .i64 b, .int .i64 c], .agg #[.int .i64 0, .int .i64 0, .int .i64 0]] w fun e w' => e = .returned (.bool (nonF a b c)) ∧ Touch [] w w' := by
 have h := fun w => eqf w a b c
 generalize nonF a b c = r at *
 go_enter Tryz.func204, Tryz.ntmps204
 go_wp2
 go_ret
 exact ⟨rfl, by repeat (first | exact Touch.refl _ _ | apply Touch.alloc)⟩
theorem none41 (w : World) (a b c : Int) : Calls Tryz.prog 194 #[.agg #[.int .i64 a, .int .i64 b, .int .i64 c]] w fun e w' => e = .returned (.bool (nonF a b c)) ∧ Touch [] w w' := by
 have H := hid (fun w => same45 w a b c)
 generalize nonF a b c = r at *
 go_enter Tryz.func194, Tryz.ntmps194
 go_wp2_with (go_at_call 204; refine (H.out _).mono ?_; rintro e w2 ⟨rfl, t2⟩; have T2 := hid t2; clear t2)
 go_ret
 exact ⟨rfl, ((Touch.refl _ _).alloc _).trans' T2.out⟩
theorem may40 (w : World) (a b c : Int) : Calls Tryz.prog 193 #[.agg #[.int .i64 a, .int .i64 b, .int .i64 c]] w fun e w' => e = .returned (.bool (mayF a b c)) ∧ Touch [] w w' := by
 have H := hid (fun w => none41 w a b c)
 unfold mayF
 by_cases h0 : a = 0
 ·subst h0
  have e0 : nonF 0 b c = (decide (b = 0) && decide (c = 0)) := by simp [nonF]
  rw [e0] at H
  simp only [if_true]
  generalize (decide (b = 0) && decide (c = 0)) = r at *
  go_enter Tryz.func193, Tryz.ntmps193
  go_wp2_with (go_at_call 194; refine (H.out _).mono ?_; rintro e w2 ⟨rfl, t2⟩; have T2 := hid t2; clear t2)
  go_ret
  exact ⟨rfl, ((Touch.refl _ _).alloc _).trans' T2.out⟩
 rw [if_neg h0]
 clear H
 have b0 : (a == 0) = false := by simp [h0]
 by_cases h1 : a = 1
 ·subst h1
  rw [if_pos rfl]
  go_enter Tryz.func193, Tryz.ntmps193
  go_wp2
  go_ret
  exact ⟨rfl, by repeat (first | exact Touch.refl _ _ | apply Touch.alloc)⟩
 rw [if_neg h1]
 have b1 : (a == 1) = false := by simp [h1]
 by_cases h2 : a = 2
 ·subst h2
  rw [if_pos rfl]
  go_enter Tryz.func193, Tryz.ntmps193
  go_wp2
  go_ret
  exact ⟨rfl, by repeat (first | exact Touch.refl _ _ | apply Touch.alloc)⟩
 rw [if_neg h2]
 have b2 : (a == 2) = false := by simp [h2]
 by_cases h3 : a = 3
 ·subst h3
  rw [if_pos rfl]
  by_cases hb : b = 0
  ·subst hb
   go_enter Tryz.func193, Tryz.ntmps193
   go_wp2
   go_ret
   exact ⟨by by_cases hc : c = 0 <;> simp [hc], by repeat (first | exact Touch.refl _ _ | apply Touch.alloc)⟩
  ·have hb' : (b == 0) = false := by simp [hb]
   go_enter Tryz.func193, Tryz.ntmps193
   go_wp2
   go_ret
   exact ⟨by simp [hb], by repeat (first | exact Touch.refl _ _ | apply Touch.alloc)⟩
 rw [if_neg h3]
 have b3 : (a == 3) = false := by simp [h3]
 by_cases h4 : a = 4
 ·subst h4
  rw [if_pos rfl]
  by_cases hb : b = 0
  ·subst hb
   go_enter Tryz.func193, Tryz.ntmps193
   go_wp2
   go_ret
   exact ⟨by by_cases hc : c = 0 <;> simp [hc], by repeat (first | exact Touch.refl _ _ | apply Touch.alloc)⟩
  ·have hb' : (b == 0) = false := by simp [hb]
   go_enter Tryz.func193, Tryz.ntmps193
   go_wp2
   go_ret
   exact ⟨by simp [hb], by repeat (first | exact Touch.refl _ _ | apply Touch.alloc)⟩
 rw [if_neg h4]
 have b4 : (a == 4) = false := by simp [h4]
 by_cases h5 : a = 5
 ·subst h5
  rw [if_pos rfl]
  by_cases hb : b = 0
  ·subst hb
   go_enter Tryz.func193, Tryz.ntmps193
   go_wp2
   go_ret
   exact ⟨by by_cases hc : c = 0 <;> simp [hc], by repeat (first | exact Touch.refl _ _ | apply Touch.alloc)⟩
  ·have hb' : (b == 0) = false := by simp [hb]
   go_enter Tryz.func193, Tryz.ntmps193
   go_wp2
   go_ret
   exact ⟨by simp [hb], by repeat (first | exact Touch.refl _ _ | apply Touch.alloc)⟩
 rw [if_neg h5]
 have b5 : (a == 5) = false := by simp [h5]
 go_enter Tryz.func193, Tryz.ntmps193
 go_wp2
 go_ret
 exact ⟨rfl, by repeat (first | exact Touch.refl _ _ | apply Touch.alloc)⟩
theorem right32 (w : World) (o : O) : Calls Tryz.prog 165 #[ov o] w fun e w' => e = .returned (.bool (right o)) ∧ Touch [] w w' := by
 obtain ⟨v, a, b, c⟩ := o
 have HM := hid (fun w => may40 w a b c)
 have HN := hid (fun w => none41 w a b c)
 unfold ov right
 simp only
 have B : ∀ w2, Touch [] (w.alloc (.cells #[.int .i64 v, .int .i64 a, .int .i64 b, .int .i64 c] 39)) w2 → w2.heap[w.heap.size]? = some (.cells #[.int .i64 v, .int .i64 a, .int .i64 b, .int .i64 c] 39 (0, 0)) := fun w2 t => t.keep (heap_alloc_new w _) (by simp)
 have HC : Hid (∀ w2, Touch [] (w.alloc (.cells #[.int .i64 v, .int .i64 a, .int .i64 b, .int .i64 c] 39)) w2 → w2.cell? ⟨w.heap.size, 0, none⟩ = some (.int .i64 v) ∧ w2.cell? ⟨w.heap.size, 1, none⟩ = some (.int .i64 a) ∧ w2.cell? ⟨w.heap.size, 2, none⟩ = some (.int .i64 b) ∧ w2.cell? ⟨w.heap.size, 3, none⟩ = some (.int .i64 c)) := fun w2 t => by
  have := B w2 t
  simp [World.cell?, this]
 clear B
 generalize mayF a b c = r at *
 generalize nonF a b c = s at *
 cases r
 ·go_enter Tryz.func165, Tryz.ntmps165
  go_wp2_with (go_at_call 193; refine (HM.out _).mono ?_; rintro e w2 ⟨rfl, t2⟩; have T2 := hid t2; clear t2)
  go_ret
  exact ⟨rfl, ((Touch.refl _ _).alloc _).trans' T2.out⟩
 ·cases s
  ·by_cases hv : v = 0
   ·subst hv
    go_enter Tryz.func165, Tryz.ntmps165
    go_wp2_with (first
     | (go_at_call 193; refine (HM.out _).mono ?_; rintro e w2 ⟨rfl, t2⟩; have T2 := hid t2; obtain ⟨c0, c1, c2, c3⟩ := HC.out _ t2; clear t2)
     | (go_at_call 194; refine (HN.out _).mono ?_; rintro e w3 ⟨rfl, t3⟩; have T3 := hid (T2.out.trans' t3); clear c0 c1 c2 c3 T2 t3; obtain ⟨c0, c1, c2, c3⟩ := HC.out _ T3.out))
    go_ret
    exact ⟨rfl, ((Touch.refl _ _).alloc _).trans' T3.out⟩
   ·have hv' : (v == 0) = false := by simp [hv]
    go_enter Tryz.func165, Tryz.ntmps165
    go_wp2_with (first
     | (go_at_call 193; refine (HM.out _).mono ?_; rintro e w2 ⟨rfl, t2⟩; have T2 := hid t2; obtain ⟨c0, c1, c2, c3⟩ := HC.out _ t2; clear t2)
     | (go_at_call 194; refine (HN.out _).mono ?_; rintro e w3 ⟨rfl, t3⟩; have T3 := hid (T2.out.trans' t3); clear c0 c1 c2 c3 T2 t3; obtain ⟨c0, c1, c2, c3⟩ := HC.out _ T3.out))
    go_ret
    exact ⟨by simp [hv], ((Touch.refl _ _).alloc _).trans' T3.out⟩
  ·go_enter Tryz.func165, Tryz.ntmps165
   go_wp2_with (first
    | (go_at_call 193; refine (HM.out _).mono ?_; rintro e w2 ⟨rfl, t2⟩; have T2 := hid t2; obtain ⟨c0, c1, c2, c3⟩ := HC.out _ t2; clear t2)
    | (go_at_call 194; refine (HN.out _).mono ?_; rintro e w3 ⟨rfl, t3⟩; have T3 := hid (T2.out.trans' t3); clear c0 c1 c2 c3 T2 t3; obtain ⟨c0, c1, c2, c3⟩ := HC.out _ T3.out))
   go_ret
   exact ⟨rfl, ((Touch.refl _ _).alloc _).trans' T3.out⟩
end Go.Proofs.YtllchnancjgijaaGreat.Ta
/- Who waits, as plain lists with holes where one went; what a record is and how it changes; no program. -/
namespace Go.Proofs.YtllchnancjgijaaGreat.Ta
def wl (cs : List Int) : List Int := cs.filter (fun x => decide (x ≠ 0))
def plv (cs : List Int) (x : Int) : Option Value := if x ≠ 0 ∧ x ∈ cs then some (.int .i64 ((cs.idxOf x : Nat) : Int)) else none
structure Okc (cs : List Int) : Prop where
 nd : (wl cs).Nodup
 wf : ∀ x ∈ cs, W64 x
theorem wl_len (cs : List Int) : (wl cs).length ≤ cs.length := List.length_filter_le _ _
theorem mem_wl {cs : List Int} {x : Int} : x ∈ wl cs ↔ x ∈ cs ∧ x ≠ 0 := by simp [wl]
theorem wl_app (a b : List Int) : wl (a ++ b) = wl a ++ wl b := by simp [wl]
theorem wl_one {x : Int} (h : x ≠ 0) : wl [x] = [x] := by simp [wl, h]
theorem plv_isSome (cs : List Int) (x : Int) : (plv cs x).isSome = decide (x ∈ wl cs) := by
 unfold plv
 by_cases h : x ≠ 0 ∧ x ∈ cs
 ·rw [if_pos h]; simp [mem_wl, h.1, h.2]
 ·rw [if_neg h]
  have : ¬ x ∈ wl cs := fun e => h ⟨(mem_wl.1 e).2, (mem_wl.1 e).1⟩
  simp [this]
theorem plv_none {cs : List Int} {x : Int} (h : ¬ x ∈ wl cs) : plv cs x = none := by
 have := plv_isSome cs x
 rw [show decide (x ∈ wl cs) = false by simp [h]] at this
 exact Option.not_isSome_iff_eq_none.1 (by simp [this])
theorem plv_some {cs : List Int} {x : Int} (h : x ∈ wl cs) : plv cs x = some (.int .i64 ((cs.idxOf x : Nat) : Int)) := by
 unfold plv
 rw [if_pos ⟨(mem_wl.1 h).2, (mem_wl.1 h).1⟩]
theorem plv_nil (x : Int) : plv [] x = none := by simp [plv]
theorem Okc.nil : Okc [] := ⟨by simp [wl], fun x h => by simp at h⟩
theorem Okc.put {cs : List Int} (h : Okc cs) {x : Int} (hx : W64 x) (h0 : x ≠ 0) (hn : ¬ x ∈ wl cs) : Okc (cs ++ [x]) := by
 refine ⟨?_, fun y hy => ?_⟩
 ·rw [wl_app, wl_one h0]; exact nd_snoc h.nd hn
 ·rcases List.mem_append.1 hy with e | e
  ·exact h.wf y e
  ·simp only [List.mem_singleton] at e; subst e; exact hx
theorem idx_app {a b : List Int} {x : Int} (h : x ∈ a) : (a ++ b).idxOf x = a.idxOf x := by
 rw [List.idxOf_append, if_pos h]
theorem idx_app' {a b : List Int} {x : Int} (h : ¬ x ∈ a) : (a ++ b).idxOf x = b.idxOf x + a.length := by
 rw [List.idxOf_append, if_neg h]
theorem plv_put {cs : List Int} {x : Int} (h0 : x ≠ 0) (hn : ¬ x ∈ wl cs) (k : Int) : upd (plv cs) x (.int .i64 (cs.length : Nat)) k = plv (cs ++ [x]) k := by
 have hn' : ¬ x ∈ cs := fun e => hn (mem_wl.2 ⟨e, h0⟩)
 unfold upd
 split
 ·rename_i e
  subst e
  rw [plv_some (mem_wl.2 ⟨by simp, h0⟩), idx_app' hn']
  simp
 ·rename_i e
  by_cases hk : k ∈ wl cs
  ·rw [plv_some hk, plv_some (by rw [wl_app]; exact List.mem_append_left _ hk), idx_app (mem_wl.1 hk).1]
  ·rw [plv_none hk, plv_none]
   rw [wl_app, wl_one h0]
   simp [hk, e]
structure Rn where
 run : Int
 sp : Int
 nm : ByteArray
 gen : Int
 rf : Bool
structure St where
 who : List Int
 kept : Bool
 canc : Bool
 ended : Bool
 out : O
structure Iv (S : St) : Prop where
 en : S.ended = true → S.who = []
 no : S.ended = false → S.out = oz
 ca : S.ended = false → S.canc = true → S.who = [] ∧ S.kept = false
 pos : ∀ x ∈ S.who, W64 x ∧ 1 ≤ x
 nd : S.who.Nodup
def inter (S : St) : Int := (S.who.length : Int) + (if S.kept && !S.ended then 1 else 0)
def joinE (S : St) (x : Int) : Int := if x < 1 then 1 else if S.ended then 110 else if S.canc then 113 else if x ∈ S.who then 111 else 0
def joinS (S : St) (x : Int) : St := if joinE S x = 0 then { S with who := S.who ++ [x] } else S
def leftB (S : St) : Bool := decide (inter S = 0)
def leftS (S : St) : St := { S with canc := leftB S }
def relB (S : St) : Bool := if S.kept && !S.ended then leftB { S with kept := false } else false
def relS (S : St) : St := if S.kept && !S.ended then leftS { S with kept := false } else S
def endE (S : St) (o : O) : Int := if S.ended then 110 else if right o then 0 else 30
def endS (S : St) (o : O) : St := if endE S o = 0 then { S with who := [], ended := true, out := o } else S
def endL (S : St) (o : O) : List Int := if endE S o = 0 then S.who else []
theorem inter_zero {S : St} : inter S = 0 ↔ S.who = [] ∧ (S.kept && !S.ended) = false := by
 unfold inter
 cases h : (S.kept && !S.ended)
 ·simp
 ·simp; omega
theorem Iv.join {S : St} (h : Iv S) {x : Int} (hx : W64 x) : Iv (joinS S x) := by
 unfold joinS
 split
 ·rename_i e
  unfold joinE at e
  repeat' (split at e <;> first | omega | skip)
  rename_i h1 h2 h3 h4
  refine ⟨fun e => absurd e h2, h.no, fun _ e => absurd e h3, fun y hy => ?_, nd_snoc h.nd h4⟩
  rcases List.mem_append.1 hy with e | e
  ·exact h.pos y e
  ·simp only [List.mem_singleton] at e; subst e; exact ⟨hx, by omega⟩
 ·exact h
theorem Iv.left {S : St} (h : Iv S) (hc : S.ended = false) : Iv (leftS S) := by
 refine ⟨h.en, h.no, fun _ e => ?_, h.pos, h.nd⟩
 have e1 : inter S = 0 := of_decide_eq_true e
 have := inter_zero.1 e1
 rw [hc] at this
 exact ⟨this.1, by have q := this.2; simp at q; exact q⟩
theorem Iv.end_ {S : St} (h : Iv S) (o : O) : Iv (endS S o) := by
 unfold endS
 split
 ·exact ⟨fun _ => rfl, fun e => (by cases e), fun e => (by cases e), fun x hx => (by simp at hx), List.nodup_nil⟩
 ·exact h
end Go.Proofs.YtllchnancjgijaaGreat.Ta
/- A record in memory: its block, the line of callers and the map of their places; what a step may touch. -/
namespace Go.Proofs.YtllchnancjgijaaGreat.Ta
open Go.RowKit Go.Maps Go.ChangeMaps
def rc (R : Rn) (sl mp : Value) (k c e : Bool) (o : O) : Array Value := #[.int .i64 R.run, .int .u16 R.sp, .string R.nm, .int .i64 R.gen, .bool R.rf, sl, mp, .bool k, .bool c, .bool e, .int .i64 o.1, .int .i64 o.2.1, .int .i64 o.2.2.1, .int .i64 o.2.2.2]
def rv (R : Rn) : Value := .agg #[.int .i64 R.run, .int .u16 R.sp, .string R.nm, .int .i64 R.gen, .bool R.rf]
def PL (b : Nat) : Value := .pointer (some ⟨b, 5, none⟩)
structure Rc (w : World) (b : Nat) (R : Rn) (sl mp : Value) (k c e : Bool) (o : O) : Prop where
 bl : w.heap[b]? = some (.cells (rc R sl mp k c e o) 274 (0, 0))
structure Rcs (w : World) (b : Nat) (R : Rn) (sl mp : Value) (k c e : Bool) (o : O) : Prop where
 c0 : w.cell? ⟨b, 0, none⟩ = some (.int .i64 R.run)
 c1 : w.cell? ⟨b, 1, none⟩ = some (.int .u16 R.sp)
 c2 : w.cell? ⟨b, 2, none⟩ = some (.string R.nm)
 c3 : w.cell? ⟨b, 3, none⟩ = some (.int .i64 R.gen)
 c4 : w.cell? ⟨b, 4, none⟩ = some (.bool R.rf)
 c5 : w.cell? ⟨b, 5, none⟩ = some sl
 c6 : w.cell? ⟨b, 6, none⟩ = some mp
 c7 : w.cell? ⟨b, 7, none⟩ = some (.bool k)
 c8 : w.cell? ⟨b, 8, none⟩ = some (.bool c)
 c9 : w.cell? ⟨b, 9, none⟩ = some (.bool e)
 c10 : w.cell? ⟨b, 10, none⟩ = some (.int .i64 o.1)
 c11 : w.cell? ⟨b, 11, none⟩ = some (.int .i64 o.2.1)
 c12 : w.cell? ⟨b, 12, none⟩ = some (.int .i64 o.2.2.1)
 c13 : w.cell? ⟨b, 13, none⟩ = some (.int .i64 o.2.2.2)
section
variable {w w' : World} {b : Nat} {R : Rn} {sl mp : Value} {k c e : Bool} {o : O}
theorem Rc.lt (h : Rc w b R sl mp k c e o) : b < w.heap.size := block_lt h.bl
theorem Rc.cs (h : Rc w b R sl mp k c e o) : Rcs w b R sl mp k c e o :=
 ⟨cell_at h.bl rfl, cell_at h.bl rfl, cell_at h.bl rfl, cell_at h.bl rfl, cell_at h.bl rfl, cell_at h.bl rfl, cell_at h.bl rfl, cell_at h.bl rfl, cell_at h.bl rfl, cell_at h.bl rfl, cell_at h.bl rfl, cell_at h.bl rfl, cell_at h.bl rfl, cell_at h.bl rfl⟩
theorem Rc.fz (h : Rc w b R sl mp k c e o) (j : Nat) : w.frozen? ⟨b, j, none⟩ = false := froz_at h.bl j
theorem Rc.keep {F : List Nat} (h : Rc w b R sl mp k c e o) (T : Touch F w w') (hb : ¬ b ∈ F) : Rc w' b R sl mp k c e o := ⟨T.keep h.bl hb⟩
theorem Rc.set5 (h : Rc w b R sl mp k c e o) (v : Value) : Rc (w.setCell ⟨b, 5, none⟩ v) b R v mp k c e o := ⟨bset h.bl v⟩
theorem Rc.set6 (h : Rc w b R sl mp k c e o) (v : Value) : Rc (w.setCell ⟨b, 6, none⟩ v) b R sl v k c e o := ⟨bset h.bl v⟩
theorem Rc.set7 (h : Rc w b R sl mp k c e o) (v : Bool) : Rc (w.setCell ⟨b, 7, none⟩ (.bool v)) b R sl mp v c e o := ⟨bset h.bl _⟩
theorem Rc.set8 (h : Rc w b R sl mp k c e o) (v : Bool) : Rc (w.setCell ⟨b, 8, none⟩ (.bool v)) b R sl mp k v e o := ⟨bset h.bl _⟩
theorem Rc.set9 (h : Rc w b R sl mp k c e o) (v : Bool) : Rc (w.setCell ⟨b, 9, none⟩ (.bool v)) b R sl mp k c v o := ⟨bset h.bl _⟩
end
def Mp (w : World) (m : Option Nat) (cs : List Int) : Prop := (m = none ∧ cs = []) ∨ ∃ d, m = some d ∧ MapAt w d (wl cs).length (plv cs)
structure Ln (w : World) (sl : Value) (m : Option Nat) (cs : List Int) : Prop where
 row : w.ownsRow 0 3 1 sl cs.length (ints cs)
 mp : Mp w m cs
 ok : Okc cs
def fpR (b : Nat) (sl : Value) (m : Option Nat) : List Nat := b :: (sl.ownBlock.toList ++ m.toList)
theorem mem_fpR {b : Nat} {sl : Value} {m : Option Nat} {k : Nat} : k ∈ fpR b sl m ↔ k = b ∨ sl.ownBlock = some k ∨ m = some k := by
 simp [fpR]
section
variable {w w' : World} {b : Nat} {R : Rn} {sl : Value} {m : Option Nat} {cs : List Int} {k c e : Bool} {o : O} {F : List Nat}
theorem mapAt_kind {d n : Nat} {f : Int → Option Value} (h : MapAt w d n f) : ∃ es cl, w.heap[d]? = some (.map es cl) := by
 obtain ⟨D, ⟨es, cl, hb, _⟩, _⟩ := h
 exact ⟨es, cl, hb⟩
theorem Mp.kind (h : Mp w m cs) {d : Nat} (hd : m = some d) : ∃ es cl, w.heap[d]? = some (.map es cl) := by
 rcases h with ⟨h, _⟩ | ⟨d', hd', hm⟩
 ·rw [h] at hd; cases hd
 ·rw [hd'] at hd; cases hd; exact mapAt_kind hm
theorem Mp.lt (h : Mp w m cs) {d : Nat} (hd : m = some d) : d < w.heap.size := by
 obtain ⟨es, cl, h1⟩ := h.kind hd
 exact block_lt h1
theorem Mp.keep (h : Mp w m cs) (T : Touch F w w') (hF : ∀ d, m = some d → ¬ d ∈ F) : Mp w' m cs := by
 rcases h with h | ⟨d, hd, hm⟩
 ·exact Or.inl h
 ·exact Or.inr ⟨d, hd, hm.kept (T.block d hm.lt (hF d hd))⟩
theorem Ln.keep (h : Ln w sl m cs) (T : Touch F w w') (h1 : ∀ d, sl.ownBlock = some d → ¬ d ∈ F) (h2 : ∀ d, m = some d → ¬ d ∈ F) : Ln w' sl m cs :=
 ⟨own_touch h.row T h1, h.mp.keep T h2, h.ok⟩
theorem Ln.nil (w : World) : Ln w (.slice none 0 0) none [] := ⟨World.ownsRow_nil _ _ _ _, Or.inl ⟨rfl, rfl⟩, Okc.nil⟩
theorem row_ne (h : Rc w b R sl (.map m) k c e o) {v : Value} {n : Nat} {xs : List Value} {B : Nat} (hr : w.ownsRow B 3 1 v n xs) {d : Nat} (hd : v.ownBlock = some d) : d ≠ b := fun e' => by
 obtain ⟨cur, hc⟩ := own_kind hr hd
 subst e'
 rw [h.bl] at hc
 simp at hc
theorem map_ne (h : Rc w b R sl (.map m) k c e o) (hm : Mp w m cs) {d : Nat} (hd : m = some d) : d ≠ b := fun e' => by
 obtain ⟨es, cl, hc⟩ := hm.kind hd
 subst e'
 rw [h.bl] at hc
 simp at hc
theorem row_map {v : Value} {n : Nat} {xs : List Value} {B : Nat} (hr : w.ownsRow B 3 1 v n xs) (hm : Mp w m cs) {d d' : Nat} (hd : v.ownBlock = some d) (hd' : m = some d') : d ≠ d' := fun e' => by
 obtain ⟨cur, hc⟩ := own_kind hr hd
 obtain ⟨es, cl, hc'⟩ := hm.kind hd'
 subst e'
 rw [hc] at hc'
 simp at hc'
structure Rl (w : World) (b : Nat) (R : Rn) (k c e : Bool) (o : O) (sl : Value) (m : Option Nat) (cs : List Int) : Prop where
 rc : Rc w b R sl (.map m) k c e o
 ln : Ln w sl m cs
theorem Rl.lt (h : Rl w b R k c e o sl m cs) : ∀ d, d ∈ fpR b sl m → d < w.heap.size := fun d hd => by
 rcases mem_fpR.1 hd with e | e | e
 ·subst e; exact h.rc.lt
 ·exact (h.ln.row.lt d e).2
 ·exact h.ln.mp.lt e
theorem Rl.keep (h : Rl w b R k c e o sl m cs) (T : Touch F w w') (hF : ∀ d, d ∈ fpR b sl m → ¬ d ∈ F) : Rl w' b R k c e o sl m cs :=
 ⟨h.rc.keep T (hF b (mem_fpR.2 (Or.inl rfl))), h.ln.keep T (fun d hd => hF d (mem_fpR.2 (Or.inr (Or.inl hd)))) (fun d hd => hF d (mem_fpR.2 (Or.inr (Or.inr hd))))⟩
theorem Rl.keep0 (h : Rl w b R k c e o sl m cs) (T : Touch [] w w') : Rl w' b R k c e o sl m cs := h.keep T (fun _ _ e => by cases e)
def LnE (w w' : World) (b : Nat) (R : Rn) (k c e : Bool) (o : O) (F : List Nat) (cs : List Int) : Prop := ∃ sl m, Rl w' b R k c e o sl m cs ∧ Touch F w w' ∧ Nf w F (fpR b sl m)
end
end Go.Proofs.YtllchnancjgijaaGreat.Ta
/- Contracts of a line's has, count and all. -/
namespace Go.Proofs.YtllchnancjgijaaGreat.Ta
open Go.RowKit Go.Maps Go.ChangeMaps
section
variable {w : World} {b : Nat} {R : Rn} {sl : Value} {m : Option Nat} {cs : List Int} {k c e : Bool} {o : O}
theorem has29 (h : Rl w b R k c e o sl m cs) (x : Int) (hx : W64 x) : Calls Tryz.prog 177 #[PL b, .int .i64 x] w fun e w' => e = .returned (.bool (decide (x ∈ wl cs))) ∧ w' = w := by
 have c6 := h.rc.cs.c6
 rcases h.ln.mp with ⟨rfl, hW⟩ | ⟨d, rfl, hm⟩
 ·subst hW
  rw [show decide (x ∈ wl []) = false by simp [wl]]
  have hl := Maps.look_nil (P := Tryz.prog) (w := w) true keyed3 Tryz.underlying97 (zero3 w) (key3 hx)
  simp only [if_true] at hl
  clear h
  unfold PL
  go_enter Tryz.func177, Tryz.ntmps177
  go_wp2
  go_ret
  exact ⟨rfl, rfl⟩
 ·have hl := hm.lookOk (t := 97) Tryz.underlying97 (zero3 w) hx
  rw [plv_isSome] at hl
  clear h hm
  generalize (plv cs x).getD (.int .i64 0) = z at *
  generalize decide (x ∈ wl cs) = B at *
  unfold PL
  go_enter Tryz.func177, Tryz.ntmps177
  go_wp2
  go_ret
  exact ⟨rfl, rfl⟩
theorem count35 (h : Rl w b R k c e o sl m cs) : Calls Tryz.prog 195 #[PL b] w fun e w' => e = .returned (.int .i64 ((wl cs).length : Nat)) ∧ w' = w := by
 have c6 := h.rc.cs.c6
 rcases h.ln.mp with ⟨rfl, hW⟩ | ⟨d, rfl, hm⟩
 ·subst hW
  have hl := fun ty => Maps.len_nil (P := Tryz.prog) (w := w) Tryz.underlying97 ty
  clear h
  unfold PL
  go_enter Tryz.func195, Tryz.ntmps195
  go_wp2
  go_ret
  exact ⟨rfl, rfl⟩
 ·have hl := fun ty => hm.len (t := 97) Tryz.underlying97 ty
  clear h hm
  generalize (wl cs).length = n at *
  unfold PL
  go_enter Tryz.func195, Tryz.ntmps195
  go_wp2
  go_ret
  exact ⟨rfl, rfl⟩
end
theorem mk33 (w : World) (n : Nat) (h : n ≤ 3000000000000) : (Instr.makeSlice 43 (.int .i64 0) (.int .i64 (n : Int))).run Tryz.prog w = .ok (.slice (some ⟨w.heap.size, 0, none⟩) 0 n) (w.alloc (.cells (madeCells #[.int .i64 0] n) 3)) := by
 obtain ⟨i3, hi3, hz0, hz1, hz2⟩ := info_parts info3
 have := run_make (P := Tryz.prog) w 43 3 i3 (.int .i64 0) Tryz.underlying43 hi3 hz0 .i64 .i64 0 (n : Int) (Int.le_refl _) (by omega) (by rw [hz2]; omega) (by omega)
 rw [hz1] at this
 simpa [Value.cells] using this
theorem mk33_own (w : World) (n : Nat) (h : n ≤ 3000000000000) : (w.alloc (.cells (madeCells #[.int .i64 0] n) 3)).ownsRow w.heap.size 3 1 (.slice (some ⟨w.heap.size, 0, none⟩) 0 n) 0 [] :=
 World.ownsRow_made w _ _ (Nat.le_refl _) (by unfold maxLen; omega) (by rw [size_madeCells, Nat.mul_one])
theorem ints_snoc (xs : List Int) (y : Int) : ints xs ++ [.int .i64 y] = ints (xs ++ [y]) := by simp [ints]
theorem wpList_append_int {w : World} {ops : Array Oper} {rest : List Oper} {o : Oper} {a : Act} {Q : Exit → Act → World → Prop} (hgd : o.guard = none) (s x : Operand) (ho : o.op = .call { callee := .builtin .append, args := #[s, x], argTypes := #[43, 43] })
  (base : Nat) (v : Value) (xs : List Int) (hs : a.eval s = v) (hown : w.ownsRow base 3 1 v xs.length (ints xs)) (g' : Nat) (y : Int) (hx : a.eval x = .slice (some ⟨g', 0, none⟩) 1 1) (hc : w.cell? ⟨g', 0, none⟩ = some (.int .i64 y)) (hb : xs.length ≤ 3000000000000) (hbase : base ≤ w.heap.size)
  (h : ∀ g cap w', w'.ownsRow base 3 1 (.slice (some ⟨g, 0, none⟩) (xs.length + 1) cap) (xs.length + 1) (ints (xs ++ [y])) → w.grownBy w' v.ownBlock → (v.ownBlock = some g ∨ g = w.heap.size) → wpList Tryz.prog ops Q rest (a.put o.dst (.slice (some ⟨g, 0, none⟩) (xs.length + 1) cap)) w') : wpList Tryz.prog ops Q (o :: rest) a w := by
 obtain ⟨i3, hi3, hz0, hz1, hz2⟩ := info_parts info3
 refine wpList_append_own_at w hgd s x 43 ho base 3 i3 (.int .i64 0) 1 8 Tryz.underlying43 hi3 hz0 hz1 hz2 rfl (by decide) v xs.length (ints xs) hs hown ⟨g', 0, none⟩ 1 1 [.int .i64 y] hx rfl (fun j u hj => ?_) (fun u hu => by simp only [List.mem_singleton] at hu; subst hu; rfl) (by unfold maxLen; omega) (by omega) hbase (fun v' w' r gr nn at' => ?_)
 ·match j, hj with
  | 0, hj => simp at hj; subst hj; simpa [Addr.add] using hc
 ·rw [ints_snoc] at r
  obtain ⟨g, cap, rfl, _⟩ := own_some r (by omega)
  exact h g cap w' r gr (at'.elim (fun q => Or.inl q.symm) (fun q => Or.inr (by simpa [Value.ownBlock] using q)))
def AlE (e : Ending) (w w' : World) (xs : List Int) : Prop := ∃ g cap, e = .returned (.slice (some ⟨g, 0, none⟩) xs.length cap) ∧ w'.ownsRow w.heap.size 3 1 (.slice (some ⟨g, 0, none⟩) xs.length cap) xs.length (ints xs) ∧ Touch [] w w'
theorem wl_take {cs : List Int} {i : Nat} {x : Int} (hx : cs[i]? = some x) : wl (cs.take (i + 1)) = if x = 0 then wl (cs.take i) else wl (cs.take i) ++ [x] := by
 obtain ⟨h, rfl⟩ := List.getElem?_eq_some_iff.1 hx
 rw [List.take_succ_eq_append_getElem h, wl_app]
 split
 ·rename_i e; rw [e]; simp [wl]
 ·rename_i e; rw [wl_one e]
theorem wl_take_le (cs : List Int) (i : Nat) : (wl (cs.take i)).length ≤ cs.length := Nat.le_trans (wl_len _) (by simp; omega)
section
variable (w : World) (b : Nat) (R : Rn) (sl : Value) (m : Option Nat) (cs : List Int) (k c e : Bool) (o : O)
set_option maxHeartbeats 4000000 in
set_option maxRecDepth 100000 in
theorem all34 (h : Rl w b R k c e o sl m cs) (hle : cs.length ≤ 3000000000000) : Calls Tryz.prog 167 #[PL b] w fun e w' => AlE e w w' (wl cs) := by
 obtain ⟨i3, hi3, hz0, hz1, hz2⟩ := info_parts info3
 have HC := hid (count35 h)
 have hwl := wl_len cs
 have hmk := mk33 w (wl cs).length (by omega)
 have HM : Hid ((w.alloc (.cells (madeCells #[.int .i64 0] (wl cs).length) 3)).ownsRow w.heap.size 3 1 (.slice (some ⟨w.heap.size, 0, none⟩) 0 (wl cs).length) 0 [] ∧ Touch [] w (w.alloc (.cells (madeCells #[.int .i64 0] (wl cs).length) 3))) := ⟨mk33_own w _ (by omega), (Touch.refl _ _).alloc _⟩
 have c5 := h.rc.cs.c5
 have hlt0 := h.rc.lt
 have hne : b ≠ w.heap.size := by omega
 have HI : Hid (∀ wr, Touch [] w wr → ∀ g cap, sl = .slice (some ⟨g, 0, none⟩) cs.length cap → ∀ i x, cs[i]? = some x → wr.cell? ⟨g, i, none⟩ = some (.int .i64 x)) := fun wr T g cap hs i x hi => by
  have := (h.keep0 T).ln.row
  rw [hs] at this
  exact own_cell this (by simp [ints, hi])
 have HX : Hid (∀ i, i < cs.length → ∃ x, cs[i]? = some x) := fun i hi => ⟨_, List.getElem?_eq_getElem hi⟩
 have HF : Hid (∃ a cap, sl = .slice a cs.length cap ∧ (0 < cs.length → ∃ g, a = some ⟨g, 0, none⟩)) := by
  rcases h.ln.row.2 with ⟨e1, e2⟩ | ⟨g, cap, cur, e1, _⟩
  ·exact ⟨none, 0, by rw [e1, e2], fun q => by omega⟩
  ·exact ⟨_, cap, e1, fun _ => ⟨g, rfl⟩⟩
 have HE : Hid (∀ g cap wr, wr.ownsRow w.heap.size 3 1 (.slice (some ⟨g, 0, none⟩) (wl cs).length cap) (wl cs).length (ints (wl cs)) → Touch [] w wr → AlE (.returned (.slice (some ⟨g, 0, none⟩) (wl cs).length cap)) w wr (wl cs)) := fun g cap wr r T => ⟨g, cap, rfl, r, T⟩
 have HT : Hid (∀ i x, cs[i]? = some x → wl (cs.take (i + 1)) = if x = 0 then wl (cs.take i) else wl (cs.take i) ++ [x]) := fun i x hx => wl_take hx
 have HL : Hid (∀ i, (wl (cs.take i)).length ≤ 3000000000000) := fun i => Nat.le_trans (wl_take_le cs i) hle
 have HZ : Hid (wl (cs.take cs.length) = wl cs) := hid (by rw [List.take_length])
 obtain ⟨N, hN⟩ : ∃ N, N = (wl cs).length := ⟨_, rfl⟩
 obtain ⟨L, hL⟩ : ∃ L, L = cs.length := ⟨_, rfl⟩
 have HLL := hid hL
 have HNN := hid hN
 clear h
 rw [← hN] at hmk HM HC hwl
 rw [← hL] at hle hwl HF HI HX HZ
 clear hN hL
 obtain ⟨a, cap, rfl, hA⟩ := HF.out
 have HA := hid hA
 clear hA HF
 unfold PL at *
 go_enter Tryz.func167, Tryz.ntmps167
 go_wp2_with (go_at_call 195; refine HC.out.mono ?_; rintro e w ⟨rfl, rfl⟩)
 go_loopw [3, 14] (fun s i wr => ∃ (j g cap' : Nat), i = .int .i64 (j : Nat) ∧ j ≤ L ∧ s = .slice (some ⟨g, 0, none⟩) (wl (cs.take j)).length cap' ∧ Hid (wr.ownsRow w.heap.size 3 1 (.slice (some ⟨g, 0, none⟩) (wl (cs.take j)).length cap') (wl (cs.take j)).length (ints (wl (cs.take j))) ∧ Touch [] w wr)) (fun _ i _ => L - (intOf i).toNat)
 case atStart => exact ⟨0, w.heap.size, N, rfl, Nat.zero_le _, rfl, HM⟩
 case round =>
  obtain ⟨j, g, cap', rfl, hj, rfl, HR⟩ := hrel
  by_cases hlt : j < L
  ·have zk : (j : Int) < (L : Int) := by omega
   have zL : (L : Int) < 9223372036854775807 := by omega
   obtain ⟨x, hx⟩ := HX.out j hlt
   obtain ⟨ga, rfl⟩ := HA.out (by omega)
   have hc := HI.out wr HR.out.2 ga cap rfl j x hx
   have ht := HT.out j x hx
   have hlj := HL.out j
   by_cases h0 : x = 0
   ·subst h0
    rw [if_pos rfl] at ht
    have HT2 := hid ht
    clear ht
    go_wp2
    go_roundw
    case rel => exact ⟨j + 1, g, cap', by go_num, by omega, by rw [HT2.out], by rw [HT2.out]; exact HR⟩
    case measure => simp [intOf]; omega
   ·rw [if_neg h0] at ht
    have hxn : (x != 0) = true := by simp [h0]
    have HT2 := hid ht
    have hs := block_lt (own_block HR.out.1).choose_spec.1
    clear ht
    have HO : Hid (∀ ob, (wr.alloc ob).ownsRow w.heap.size 3 1 (.slice (some ⟨g, 0, none⟩) (wl (cs.take j)).length cap') (wl (cs.take j)).length (ints (wl (cs.take j)))) := fun ob => own_touch HR.out.1 ((Touch.refl [] _).alloc _) (fun _ _ e => by cases e)
    have HS := hid HR.out.2.size
    have HLJ := hid hlj
    have HR2 : Hid (∀ g' cap'' w5, w5.ownsRow w.heap.size 3 1 (.slice (some ⟨g', 0, none⟩) ((wl (cs.take j)).length + 1) cap'') ((wl (cs.take j)).length + 1) (ints (wl (cs.take j) ++ [x])) → (wr.alloc (.cells #[.int .i64 x] 3)).grownBy w5 (some g) → ∃ n, n = (wl (cs.take j)).length + 1 ∧ n = (wl (cs.take (j + 1))).length ∧ Hid (w5.ownsRow w.heap.size 3 1 (.slice (some ⟨g', 0, none⟩) (wl (cs.take (j + 1))).length cap'') (wl (cs.take (j + 1))).length (ints (wl (cs.take (j + 1)))) ∧ Touch [] w w5)) := fun g' cap'' w5 r gr => by
     refine ⟨_, rfl, by rw [HT2.out]; simp, ?_⟩
     have e1 : (wl (cs.take (j + 1))).length = (wl (cs.take j)).length + 1 := by rw [HT2.out]; simp
     rw [e1, HT2.out]
     exact ⟨r, (HR.out.2.alloc _).grown gr (fun q hq => Or.inr (by cases hq; exact (own_block HR.out.1).choose_spec.2.2.2.2.2.1))⟩
    clear hlj hs
    generalize wl (cs.take j) = ys at *
    clear hx HT2 h0
    go_wp2_with (at_builtin; refine wpList_append_int rfl _ _ rfl w.heap.size (.slice (some ⟨g, 0, none⟩) ys.length cap') ys rfl (HO.out _) wr.heap.size x rfl (by simp) HLJ.out (by have := HS.out; simp; omega) ?_; intro g5 c5' w5 o5 r5 _; obtain ⟨n5, e5, e6, O5⟩ := HR2.out _ _ _ o5 r5; have E5 := hid e5; have E6 := hid e6; clear o5 r5 e5 e6)
    rw [← E5.out]
    go_wp2
    go_roundw
    case rel => exact ⟨j + 1, g5, c5', by go_num, by omega, by rw [E6.out], O5⟩
    case measure => simp [intOf]; omega
  ·have e : j = L := by omega
   subst e
   have HX := hid HR.out
   rw [HZ.out] at HX
   have HX2 := hid (HE.out _ _ _ HX.out.1 HX.out.2)
   rw [HZ.out]
   clear HX HR
   generalize (wl cs).length = n at *
   go_wp2
   go_ret
   exact HX2.out
end
end Go.Proofs.YtllchnancjgijaaGreat.Ta
/- The contract of a line's add. -/
namespace Go.Proofs.YtllchnancjgijaaGreat.Ta
open Go.RowKit Go.Maps Go.ChangeMaps
theorem eq63 (w : World) (r : Option Nat) : (binOp .eql 97 (.map r) (.map none)).run Tryz.prog w = .ok (.bool r.isNone) w := run_eql_map_nil w _ _ _ r Tryz.underlying97
section
variable (w : World) (b : Nat) (R : Rn) (sl : Value) (m : Option Nat) (cs : List Int) (k c e : Bool) (o : O)
set_option maxHeartbeats 4000000 in
set_option maxRecDepth 100000 in
theorem add21_some (d : Nat) (h : Rl w b R k c e o sl (some d) cs) (x : Int) (hx : W64 x) (h0 : x ≠ 0) (hn : ¬ x ∈ wl cs) (hle : cs.length ≤ 3000000000000) : Calls Tryz.prog 178 #[PL b, .int .i64 x] w fun e' w' => e' = .returned (.tuple #[]) ∧ LnE w w' b R k c e o (fpR b sl (some d)) (cs ++ [x]) := by
 obtain ⟨a, cap, rfl⟩ := own_form h.ln.row
 have q63 := eq63
 have c6 := h.rc.cs.c6
 have H5 : ∀ w', Touch [] w w' → w'.cell? ⟨b, 5, none⟩ = some (.slice a cs.length cap) := fun w' T => (h.keep0 T).rc.cs.c5
 have H6 : ∀ w', Touch [] w w' → w'.cell? ⟨b, 6, none⟩ = some (.map (some d)) := fun w' T => (h.keep0 T).rc.cs.c6
 have HMP : Hid (MapAt w.drew d (wl cs).length (plv cs)) := by
  rcases h.ln.mp with ⟨q, _⟩ | ⟨d', q, hm⟩
  ·cases q
  ·cases q; exact hm.kept rfl
 have HNM : Hid ((wl cs).length < maxLen) := by have := wl_len cs; unfold maxLen; exact hid (by omega)
 unfold PL
 have HLE := hid hle
 have HH := hid h
 clear hle h
 go_enter Tryz.func178, Tryz.ntmps178
 go_upto_region 2 with fail
 have s0 : Touch [] w w.drew := (Touch.refl _ _).drew
 refine wp_region_L (S := fun w' => Touch [] w w') (st := 10) (by kernel_rfl) ?_
 refine wpL_take (i := 0) (v := (.pointer (some ⟨b, 5, none⟩))) (some 13) rfl rfl (by kernel_rfl) (by kernel_rfl) (by kernel_rfl) (by kernel_rfl) (by kernel_rfl) (by decide) (fun _ _ _ h => h) (Or.inl ⟨by rfl, fun w' hS => (by go_simp)⟩) s0 ?_
 try simp only [Go.Act.put, Zx, Zy, Zz]
 refine wpL_take (i := 1) (v := (.pointer (some ⟨b, 5, none⟩))) (some 14) rfl rfl (by kernel_rfl) (by kernel_rfl) (by kernel_rfl) (by kernel_rfl) (by kernel_rfl) (by decide) (fun _ _ _ h => h) (Or.inl ⟨by rfl, fun w' hS => (by go_simp)⟩) s0 ?_
 try simp only [Go.Act.put, Zx, Zy, Zz]
 refine wpL_take (i := 2) (v := (.pointer (some ⟨b, 6, none⟩))) (some 15) rfl rfl (by kernel_rfl) (by kernel_rfl) (by kernel_rfl) (by kernel_rfl) (by kernel_rfl) (by decide) (fun _ _ _ h => h) (Or.inl ⟨by rfl, fun w' hS => (by go_simp)⟩) s0 ?_
 try simp only [Go.Act.put, Zx, Zy, Zz]
 refine wpL_take (i := 3) (v := (.map (some d))) (some 16) rfl rfl (by kernel_rfl) (by kernel_rfl) (by kernel_rfl) (by kernel_rfl) (by kernel_rfl) (by decide) (fun _ _ _ h => h) (Or.inl ⟨by rfl, fun w' hS => (by have z0 := H6 _ hS; go_simp)⟩) s0 ?_
 try simp only [Go.Act.put, Zx, Zy, Zz]
 refine wpL_take (i := 4) (v := (.int .i64 x)) (some 17) rfl rfl (by kernel_rfl) (by kernel_rfl) (by kernel_rfl) (by kernel_rfl) (by kernel_rfl) (by decide) (fun _ _ _ h => h) (Or.inl ⟨by rfl, fun w' hS => (by go_simp)⟩) s0 ?_
 try simp only [Go.Act.put, Zx, Zy, Zz]
 refine wpL_take (i := 5) (v := (.pointer (some ⟨b, 5, none⟩))) (some 18) rfl rfl (by kernel_rfl) (by kernel_rfl) (by kernel_rfl) (by kernel_rfl) (by kernel_rfl) (by decide) (fun _ _ _ h => h) (Or.inl ⟨by rfl, fun w' hS => (by go_simp)⟩) s0 ?_
 try simp only [Go.Act.put, Zx, Zy, Zz]
 refine wpL_take (i := 6) (v := (.pointer (some ⟨b, 5, none⟩))) (some 19) rfl rfl (by kernel_rfl) (by kernel_rfl) (by kernel_rfl) (by kernel_rfl) (by kernel_rfl) (by decide) (fun _ _ _ h => h) (Or.inl ⟨by rfl, fun w' hS => (by go_simp)⟩) s0 ?_
 try simp only [Go.Act.put, Zx, Zy, Zz]
 refine wpL_take (i := 7) (v := (.pointer (some ⟨b, 5, none⟩))) (some 20) rfl rfl (by kernel_rfl) (by kernel_rfl) (by kernel_rfl) (by kernel_rfl) (by kernel_rfl) (by decide) (fun _ _ _ h => h) (Or.inl ⟨by rfl, fun w' hS => (by go_simp)⟩) s0 ?_
 try simp only [Go.Act.put, Zx, Zy, Zz]
 refine wpL_take (i := 8) (v := (.slice a cs.length cap)) (some 21) rfl rfl (by kernel_rfl) (by kernel_rfl) (by kernel_rfl) (by kernel_rfl) (by kernel_rfl) (by decide) (fun _ _ _ h => h) (Or.inl ⟨by rfl, fun w' hS => (by have z0 := H5 _ hS; go_simp)⟩) s0 ?_
 try simp only [Go.Act.put, Zx, Zy, Zz]
 refine wpL_take (i := 9) (v := (.int .i64 (cs.length : Nat))) (some 22) rfl rfl (by kernel_rfl) (by kernel_rfl) (by kernel_rfl) (by kernel_rfl) (by kernel_rfl) (by decide) (fun _ _ _ h => h) (Or.inl ⟨by rfl, fun w' hS => (by go_simp)⟩) s0 ?_
 try simp only [Go.Act.put, Zx, Zy, Zz]
 refine wpL_ready (rs := [10]) (by kernel_rfl) (by simp) (AllL.cons (o := { dst := none, op := Op.mapUpdate 97 (Operand.tmp 16) (Operand.tmp 17) (Operand.tmp 22), type := 0, pos := _, after := #[{ on := 3, ground := Ground.data }, { on := 4, ground := Ground.data }, { on := 9, ground := Ground.data }, { on := 0, ground := Ground.phase }, { on := 1, ground := Ground.phase }, { on := 2, ground := Ground.phase }, { on := 3, ground := Ground.phase }, { on := 4, ground := Ground.phase }, { on := 5, ground := Ground.phase }, { on := 6, ground := Ground.phase }, { on := 7, ground := Ground.phase }, { on := 8, ground := Ground.phase }, { on := 9, ground := Ground.phase }], guard := none }) rfl (fun K' hK => ?_) AllL.nil)
 rw [if_pos (by rfl)]
 go_simp
 obtain ⟨ob, hrun, hM⟩ := HMP.out.set (t := 97) Tryz.underlying97 HNM.out hx (.int .i64 (cs.length : Nat))
 simp only [hrun]
 refine hK.out _ _ (fun h => absurd h (by decide)) ?_
 clear hK
 try simp only [Go.Act.put, Zx, Zy, Zz]
 refine wpL_done (by kernel_rfl) ?_ _
 obtain ⟨W2, hW2⟩ : ∃ W2, W2 = setBlock w.drew d ob := ⟨_, rfl⟩
 have T2 : Touch [d] w W2 := by rw [hW2]; exact touch_setBlock (Touch.refl _ _).drew (by simp) ob
 have HD : Hid (MapAt W2 d ((wl cs).length + 1) (plv (cs ++ [x])) ∧ W2.ownsRow 0 3 1 (.slice a cs.length cap) cs.length (ints cs) ∧ Rc W2 b R (.slice a cs.length cap) (.map (some d)) k c e o) := by
  have h := HH.out
  have hr := h.ln.row
  have hrc := h.rc
  refine ⟨?_, own_touch hr T2 (fun q hq e' => ?_), hrc.keep T2 (fun e' => ?_)⟩
  ·rw [← hW2] at hM
   rw [plv_none hn] at hM
   refine (show MapAt W2 d ((wl cs).length + 1) _ from hM).congr (fun q _ => ?_)
   exact plv_put h0 hn q
  ·simp only [List.mem_singleton] at e'
   exact row_map h.ln.row h.ln.mp hq rfl e'
  ·simp only [List.mem_singleton] at e'
   exact map_ne h.rc h.ln.mp rfl e'.symm
 clear hrun hM
 rw [← hW2]
 clear hW2 ob s0 H5 H6 c6 HMP HNM q63
 have T2' := hid T2
 clear T2
 have c5 := HD.out.2.2.cs.c5
 have hbl := HD.out.2.2.lt
 have hne : b ≠ W2.heap.size := by omega
 have HO : Hid (∀ ob, (W2.alloc ob).ownsRow 0 3 1 (.slice a cs.length cap) cs.length (ints cs)) := fun ob => by
  exact own_touch HD.out.2.1 ((Touch.refl [] _).alloc _) (fun _ _ e => by cases e)
 have HX : Hid (∀ g5 c5 w5, w5.ownsRow 0 3 1 (.slice (some ⟨g5, 0, none⟩) (cs.length + 1) c5) (cs.length + 1) (ints (cs ++ [x])) → (W2.alloc (.cells #[.int .i64 x] 3)).grownBy w5 (Value.slice a cs.length cap).ownBlock → ((Value.slice a cs.length cap).ownBlock = some g5 ∨ g5 = (W2.alloc (.cells #[.int .i64 x] 3)).heap.size) →
   (w5.cell? ⟨b, 5, none⟩ = some (.slice a cs.length cap) ∧ w5.frozen? ⟨b, 5, none⟩ = false ∧ b < w5.heap.size) ∧ LnE w (w5.setCell ⟨b, 5, none⟩ (.slice (some ⟨g5, 0, none⟩) (cs.length + 1) c5)) b R k c e o (fpR b (.slice a cs.length cap) (some d)) (cs ++ [x])) := fun g5 c5 w5 o5 r5 p5 => by
  obtain ⟨hm, hr, hrc⟩ := HD.out
  have tA : Touch ((Value.slice a cs.length cap).ownBlock.toList) W2 w5 := ((Touch.refl _ _).alloc _).grown r5 (fun q hq => Or.inl (by rw [hq]; simp))
  have hrc5 : Rc w5 b R (.slice a cs.length cap) (.map (some d)) k c e o := hrc.keep tA (fun e' => by
   simp only [Option.mem_toList] at e'
   exact row_ne hrc hr e' rfl)
  refine ⟨⟨hrc5.cs.c5, hrc5.fz 5, hrc5.lt⟩, ?_⟩
  have tB : Touch [b] w5 (w5.setCell ⟨b, 5, none⟩ (.slice (some ⟨g5, 0, none⟩) (cs.length + 1) c5)) := (Touch.refl _ _).setCell (Or.inl (by simp)) _
  have hm2 : Mp W2 (some d) (cs ++ [x]) := Or.inr ⟨d, rfl, by rw [wl_app, wl_one h0]; simpa using hm⟩
  have hm5 : Mp w5 (some d) (cs ++ [x]) := hm2.keep tA (fun q hq e' => by
   simp only [Option.mem_toList] at e'
   exact row_map hr hm2 e' hq rfl)
  refine ⟨_, some d, ⟨hrc5.set5 _, ⟨?_, hm5.keep tB (fun q hq e' => ?_), HH.out.ln.ok.put hx h0 hn⟩⟩, ?_, fun q hq => ?_⟩
  ·rw [show (cs ++ [x]).length = cs.length + 1 by simp]
   refine own_touch o5 tB (fun q hq e' => ?_)
   simp only [List.mem_singleton] at e'
   exact row_ne hrc5 o5 hq e'
  ·simp only [List.mem_singleton] at e'
   exact map_ne hrc5 hm5 hq e'
  ·refine (((T2'.out.mono (fun q hq => ?_)).trans tA (fun q hq => ?_)).trans tB (fun q hq => ?_))
   ·simp only [List.mem_singleton] at hq; exact mem_fpR.2 (Or.inr (Or.inr (by rw [hq])))
   ·simp only [Option.mem_toList] at hq; exact Or.inl (mem_fpR.2 (Or.inr (Or.inl hq)))
   ·simp only [List.mem_singleton] at hq; exact Or.inl (mem_fpR.2 (Or.inl hq))
  ·rcases mem_fpR.1 hq with e' | e' | e'
   ·exact Or.inl (mem_fpR.2 (Or.inl e'))
   ·simp only [Value.ownBlock, Option.some.injEq] at e'
    subst e'
    rcases p5 with p | p
    ·exact Or.inl (mem_fpR.2 (Or.inr (Or.inl p)))
    ·refine Or.inr ?_
     have := T2'.out.size
     rw [p]; simp; omega
   ·exact Or.inl (mem_fpR.2 (Or.inr (Or.inr e')))
 clear HD HH hx h0 hn T2'
 go_wp2_with (at_builtin; refine wpList_append_int rfl _ _ rfl 0 (.slice a cs.length cap) cs rfl (HO.out _) W2.heap.size x rfl (by simp) HLE.out (Nat.zero_le _) ?_; intro g5 c5' w5 o5 r5 p5; obtain ⟨⟨y1, y2, y3⟩, y4⟩ := HX.out _ _ _ o5 r5 p5; have Y4 := hid y4; clear o5 r5 p5 y4)
 go_end0
 exact ⟨rfl, Y4.out⟩
set_option maxHeartbeats 4000000 in
set_option maxRecDepth 100000 in
theorem add21_none (h : Rl w b R k c e o sl none cs) (x : Int) (hx : W64 x) (h0 : x ≠ 0) (hn : ¬ x ∈ wl cs) (hle : cs.length ≤ 3000000000000) : Calls Tryz.prog 178 #[PL b, .int .i64 x] w fun e' w' => e' = .returned (.tuple #[]) ∧ LnE w w' b R k c e o (fpR b sl none) (cs ++ [x]) := by
 obtain ⟨a, cap, rfl⟩ := own_form h.ln.row
 have hcs : cs = [] := by
  rcases h.ln.mp with ⟨_, q⟩ | ⟨d', q, hm⟩
  ·exact q
  ·cases q
 have q63 := eq63
 have hmm := @run_makeMap Tryz.prog
 have c6 := h.rc.cs.c6
 have f6 := h.rc.fz 6
 have hbl := h.rc.lt
 have hne : b ≠ w.heap.size := by omega
 obtain ⟨W1, hW1⟩ : ∃ W1, W1 = (w.setCell ⟨b, 6, none⟩ (.map (some w.heap.size))).alloc (.map #[] 0) := ⟨_, rfl⟩
 have T1 : Hid (Touch [b] w W1) := by rw [hW1]; exact ((Touch.refl _ _).setCell (Or.inl (by simp)) _).alloc _
 have HH : Hid (Rl W1 b R k c e o (.slice a cs.length cap) (some w.heap.size) cs) := by
  refine ⟨?_, own_touch h.ln.row T1.out (fun q hq e' => ?_), Or.inr ⟨_, rfl, ?_⟩, h.ln.ok⟩
  ·rw [hW1]
   exact (h.rc.set6 _).keep ((Touch.refl [] _).alloc _) (by simp)
  ·simp only [List.mem_singleton] at e'
   exact row_ne h.rc h.ln.row hq e'
  ·rw [hW1, hcs]
   have := mapAt_made (w.setCell ⟨b, 6, none⟩ (.map (some w.heap.size)))
   have e1 : (w.setCell ⟨b, 6, none⟩ (.map (some w.heap.size))).heap.size = w.heap.size := by simp [World.setCell]
   rw [e1] at this
   exact this.congr (fun q _ => (plv_nil q).symm)
 have HSZ := hid h.rc.lt
 clear h hcs
 obtain ⟨d, hd⟩ : ∃ d, d = w.heap.size := ⟨_, rfl⟩
 have HDD := hid hd
 rw [← hd] at HH
 have HLE := hid hle
 clear hle
 unfold PL
 go_enter Tryz.func178, Tryz.ntmps178
 go_upto_region 2 with fail
 rw [← hW1, ← hd]
 clear hd hW1 c6 f6 hbl hne hmm
 have HFIN : Hid (∀ w', LnE W1 w' b R k c e o (fpR b (.slice a cs.length cap) (some d)) (cs ++ [x]) → LnE w w' b R k c e o (fpR b (.slice a cs.length cap) none) (cs ++ [x])) := fun w' ⟨sl', m', r1, r2, r3⟩ => by
  have hz := T1.out.size
  have aux : ∀ q, q ∈ fpR b (.slice a cs.length cap) (some d) → q ∈ fpR b (.slice a cs.length cap) none ∨ w.heap.size ≤ q := fun q hq => by
   rcases mem_fpR.1 hq with e' | e' | e'
   ·exact Or.inl (mem_fpR.2 (Or.inl e'))
   ·exact Or.inl (mem_fpR.2 (Or.inr (Or.inl e')))
   ·refine Or.inr ?_
    cases e'
    rw [HDD.out]
    exact Nat.le_refl _
  refine ⟨sl', m', r1, (T1.out.mono (fun q hq => ?_)).trans r2 aux, fun q hq => ?_⟩
  ·simp only [List.mem_singleton] at hq; exact mem_fpR.2 (Or.inl hq)
  ·rcases r3 q hq with e' | e'
   ·exact aux q e'
   ·exact Or.inr (Nat.le_trans hz e')
 clear T1 HSZ HDD
 have H5 : ∀ w', Touch [] W1 w' → w'.cell? ⟨b, 5, none⟩ = some (.slice a cs.length cap) := fun w' T => (HH.out.keep0 T).rc.cs.c5
 have H6 : ∀ w', Touch [] W1 w' → w'.cell? ⟨b, 6, none⟩ = some (.map (some d)) := fun w' T => (HH.out.keep0 T).rc.cs.c6
 have HMP : Hid (MapAt W1.drew d (wl cs).length (plv cs)) := by
  rcases HH.out.ln.mp with ⟨q, _⟩ | ⟨d', q, hm⟩
  ·cases q
  ·cases q; exact hm.kept rfl
 have HNM : Hid ((wl cs).length < maxLen) := by have := wl_len cs; have := HLE.out; unfold maxLen; exact hid (by omega)
 have s0 : Touch [] W1 W1.drew := (Touch.refl _ _).drew
 refine wp_region_L (S := fun w' => Touch [] W1 w') (st := 10) (by kernel_rfl) ?_
 refine wpL_take (i := 0) (v := (.pointer (some ⟨b, 5, none⟩))) (some 13) rfl rfl (by kernel_rfl) (by kernel_rfl) (by kernel_rfl) (by kernel_rfl) (by kernel_rfl) (by decide) (fun _ _ _ h => h) (Or.inl ⟨by rfl, fun w' hS => (by go_simp)⟩) s0 ?_
 try simp only [Go.Act.put, Zx, Zy, Zz]
 refine wpL_take (i := 1) (v := (.pointer (some ⟨b, 5, none⟩))) (some 14) rfl rfl (by kernel_rfl) (by kernel_rfl) (by kernel_rfl) (by kernel_rfl) (by kernel_rfl) (by decide) (fun _ _ _ h => h) (Or.inl ⟨by rfl, fun w' hS => (by go_simp)⟩) s0 ?_
 try simp only [Go.Act.put, Zx, Zy, Zz]
 refine wpL_take (i := 2) (v := (.pointer (some ⟨b, 6, none⟩))) (some 15) rfl rfl (by kernel_rfl) (by kernel_rfl) (by kernel_rfl) (by kernel_rfl) (by kernel_rfl) (by decide) (fun _ _ _ h => h) (Or.inl ⟨by rfl, fun w' hS => (by go_simp)⟩) s0 ?_
 try simp only [Go.Act.put, Zx, Zy, Zz]
 refine wpL_take (i := 3) (v := (.map (some d))) (some 16) rfl rfl (by kernel_rfl) (by kernel_rfl) (by kernel_rfl) (by kernel_rfl) (by kernel_rfl) (by decide) (fun _ _ _ h => h) (Or.inl ⟨by rfl, fun w' hS => (by have z0 := H6 _ hS; go_simp)⟩) s0 ?_
 try simp only [Go.Act.put, Zx, Zy, Zz]
 refine wpL_take (i := 4) (v := (.int .i64 x)) (some 17) rfl rfl (by kernel_rfl) (by kernel_rfl) (by kernel_rfl) (by kernel_rfl) (by kernel_rfl) (by decide) (fun _ _ _ h => h) (Or.inl ⟨by rfl, fun w' hS => (by go_simp)⟩) s0 ?_
 try simp only [Go.Act.put, Zx, Zy, Zz]
 refine wpL_take (i := 5) (v := (.pointer (some ⟨b, 5, none⟩))) (some 18) rfl rfl (by kernel_rfl) (by kernel_rfl) (by kernel_rfl) (by kernel_rfl) (by kernel_rfl) (by decide) (fun _ _ _ h => h) (Or.inl ⟨by rfl, fun w' hS => (by go_simp)⟩) s0 ?_
 try simp only [Go.Act.put, Zx, Zy, Zz]
 refine wpL_take (i := 6) (v := (.pointer (some ⟨b, 5, none⟩))) (some 19) rfl rfl (by kernel_rfl) (by kernel_rfl) (by kernel_rfl) (by kernel_rfl) (by kernel_rfl) (by decide) (fun _ _ _ h => h) (Or.inl ⟨by rfl, fun w' hS => (by go_simp)⟩) s0 ?_
 try simp only [Go.Act.put, Zx, Zy, Zz]
 refine wpL_take (i := 7) (v := (.pointer (some ⟨b, 5, none⟩))) (some 20) rfl rfl (by kernel_rfl) (by kernel_rfl) (by kernel_rfl) (by kernel_rfl) (by kernel_rfl) (by decide) (fun _ _ _ h => h) (Or.inl ⟨by rfl, fun w' hS => (by go_simp)⟩) s0 ?_
 try simp only [Go.Act.put, Zx, Zy, Zz]
 refine wpL_take (i := 8) (v := (.slice a cs.length cap)) (some 21) rfl rfl (by kernel_rfl) (by kernel_rfl) (by kernel_rfl) (by kernel_rfl) (by kernel_rfl) (by decide) (fun _ _ _ h => h) (Or.inl ⟨by rfl, fun w' hS => (by have z0 := H5 _ hS; go_simp)⟩) s0 ?_
 try simp only [Go.Act.put, Zx, Zy, Zz]
 refine wpL_take (i := 9) (v := (.int .i64 (cs.length : Nat))) (some 22) rfl rfl (by kernel_rfl) (by kernel_rfl) (by kernel_rfl) (by kernel_rfl) (by kernel_rfl) (by decide) (fun _ _ _ h => h) (Or.inl ⟨by rfl, fun w' hS => (by go_simp)⟩) s0 ?_
 try simp only [Go.Act.put, Zx, Zy, Zz]
 refine wpL_ready (rs := [10]) (by kernel_rfl) (by simp) (AllL.cons (o := { dst := none, op := Op.mapUpdate 97 (Operand.tmp 16) (Operand.tmp 17) (Operand.tmp 22), type := 0, pos := _, after := #[{ on := 3, ground := Ground.data }, { on := 4, ground := Ground.data }, { on := 9, ground := Ground.data }, { on := 0, ground := Ground.phase }, { on := 1, ground := Ground.phase }, { on := 2, ground := Ground.phase }, { on := 3, ground := Ground.phase }, { on := 4, ground := Ground.phase }, { on := 5, ground := Ground.phase }, { on := 6, ground := Ground.phase }, { on := 7, ground := Ground.phase }, { on := 8, ground := Ground.phase }, { on := 9, ground := Ground.phase }], guard := none }) rfl (fun K' hK => ?_) AllL.nil)
 rw [if_pos (by rfl)]
 go_simp
 obtain ⟨ob, hrun, hM⟩ := HMP.out.set (t := 97) Tryz.underlying97 HNM.out hx (.int .i64 (cs.length : Nat))
 simp only [hrun]
 refine hK.out _ _ (fun h => absurd h (by decide)) ?_
 clear hK
 try simp only [Go.Act.put, Zx, Zy, Zz]
 refine wpL_done (by kernel_rfl) ?_ _
 obtain ⟨W2, hW2⟩ : ∃ W2, W2 = setBlock W1.drew d ob := ⟨_, rfl⟩
 have T2 : Touch [d] W1 W2 := by rw [hW2]; exact touch_setBlock (Touch.refl _ _).drew (by simp) ob
 have HD : Hid (MapAt W2 d ((wl cs).length + 1) (plv (cs ++ [x])) ∧ W2.ownsRow 0 3 1 (.slice a cs.length cap) cs.length (ints cs) ∧ Rc W2 b R (.slice a cs.length cap) (.map (some d)) k c e o) := by
  have h := HH.out
  have hr := h.ln.row
  have hrc := h.rc
  refine ⟨?_, own_touch hr T2 (fun q hq e' => ?_), hrc.keep T2 (fun e' => ?_)⟩
  ·rw [← hW2] at hM
   rw [plv_none hn] at hM
   refine (show MapAt W2 d ((wl cs).length + 1) _ from hM).congr (fun q _ => ?_)
   exact plv_put h0 hn q
  ·simp only [List.mem_singleton] at e'
   exact row_map h.ln.row h.ln.mp hq rfl e'
  ·simp only [List.mem_singleton] at e'
   exact map_ne h.rc h.ln.mp rfl e'.symm
 clear hrun hM
 rw [← hW2]
 clear hW2 ob s0 H5 H6 HMP HNM q63
 have T2' := hid T2
 clear T2
 have c5 := HD.out.2.2.cs.c5
 have hbl := HD.out.2.2.lt
 have hne : b ≠ W2.heap.size := by omega
 have HO : Hid (∀ ob, (W2.alloc ob).ownsRow 0 3 1 (.slice a cs.length cap) cs.length (ints cs)) := fun ob => by
  exact own_touch HD.out.2.1 ((Touch.refl [] _).alloc _) (fun _ _ e => by cases e)
 have HX : Hid (∀ g5 c5 w5, w5.ownsRow 0 3 1 (.slice (some ⟨g5, 0, none⟩) (cs.length + 1) c5) (cs.length + 1) (ints (cs ++ [x])) → (W2.alloc (.cells #[.int .i64 x] 3)).grownBy w5 (Value.slice a cs.length cap).ownBlock → ((Value.slice a cs.length cap).ownBlock = some g5 ∨ g5 = (W2.alloc (.cells #[.int .i64 x] 3)).heap.size) →
   (w5.cell? ⟨b, 5, none⟩ = some (.slice a cs.length cap) ∧ w5.frozen? ⟨b, 5, none⟩ = false ∧ b < w5.heap.size) ∧ LnE W1 (w5.setCell ⟨b, 5, none⟩ (.slice (some ⟨g5, 0, none⟩) (cs.length + 1) c5)) b R k c e o (fpR b (.slice a cs.length cap) (some d)) (cs ++ [x])) := fun g5 c5 w5 o5 r5 p5 => by
  obtain ⟨hm, hr, hrc⟩ := HD.out
  have tA : Touch ((Value.slice a cs.length cap).ownBlock.toList) W2 w5 := ((Touch.refl _ _).alloc _).grown r5 (fun q hq => Or.inl (by rw [hq]; simp))
  have hrc5 : Rc w5 b R (.slice a cs.length cap) (.map (some d)) k c e o := hrc.keep tA (fun e' => by
   simp only [Option.mem_toList] at e'
   exact row_ne hrc hr e' rfl)
  refine ⟨⟨hrc5.cs.c5, hrc5.fz 5, hrc5.lt⟩, ?_⟩
  have tB : Touch [b] w5 (w5.setCell ⟨b, 5, none⟩ (.slice (some ⟨g5, 0, none⟩) (cs.length + 1) c5)) := (Touch.refl _ _).setCell (Or.inl (by simp)) _
  have hm2 : Mp W2 (some d) (cs ++ [x]) := Or.inr ⟨d, rfl, by rw [wl_app, wl_one h0]; simpa using hm⟩
  have hm5 : Mp w5 (some d) (cs ++ [x]) := hm2.keep tA (fun q hq e' => by
   simp only [Option.mem_toList] at e'
   exact row_map hr hm2 e' hq rfl)
  refine ⟨_, some d, ⟨hrc5.set5 _, ⟨?_, hm5.keep tB (fun q hq e' => ?_), HH.out.ln.ok.put hx h0 hn⟩⟩, ?_, fun q hq => ?_⟩
  ·rw [show (cs ++ [x]).length = cs.length + 1 by simp]
   refine own_touch o5 tB (fun q hq e' => ?_)
   simp only [List.mem_singleton] at e'
   exact row_ne hrc5 o5 hq e'
  ·simp only [List.mem_singleton] at e'
   exact map_ne hrc5 hm5 hq e'
  ·refine (((T2'.out.mono (fun q hq => ?_)).trans tA (fun q hq => ?_)).trans tB (fun q hq => ?_))
   ·simp only [List.mem_singleton] at hq; exact mem_fpR.2 (Or.inr (Or.inr (by rw [hq])))
   ·simp only [Option.mem_toList] at hq; exact Or.inl (mem_fpR.2 (Or.inr (Or.inl hq)))
   ·simp only [List.mem_singleton] at hq; exact Or.inl (mem_fpR.2 (Or.inl hq))
  ·rcases mem_fpR.1 hq with e' | e' | e'
   ·exact Or.inl (mem_fpR.2 (Or.inl e'))
   ·simp only [Value.ownBlock, Option.some.injEq] at e'
    subst e'
    rcases p5 with p | p
    ·exact Or.inl (mem_fpR.2 (Or.inr (Or.inl p)))
    ·refine Or.inr ?_
     have := T2'.out.size
     rw [p]; simp; omega
   ·exact Or.inl (mem_fpR.2 (Or.inr (Or.inr e')))
 clear HD HH hx h0 hn T2'
 go_wp2_with (at_builtin; refine wpList_append_int rfl _ _ rfl 0 (.slice a cs.length cap) cs rfl (HO.out _) W2.heap.size x rfl (by simp) HLE.out (Nat.zero_le _) ?_; intro g5 c5' w5 o5 r5 p5; obtain ⟨⟨y1, y2, y3⟩, y4⟩ := HX.out _ _ _ o5 r5 p5; have Y4 := hid y4; clear o5 r5 p5 y4)
 go_end0
 exact ⟨rfl, HFIN.out _ Y4.out⟩
theorem add21 (h : Rl w b R k c e o sl m cs) (x : Int) (hx : W64 x) (h0 : x ≠ 0) (hn : ¬ x ∈ wl cs) (hle : cs.length ≤ 3000000000000) : Calls Tryz.prog 178 #[PL b, .int .i64 x] w fun e' w' => e' = .returned (.tuple #[]) ∧ LnE w w' b R k c e o (fpR b sl m) (cs ++ [x]) := by
 cases m with
 | none => exact add21_none w b R sl cs k c e o h x hx h0 hn hle
 | some d => exact add21_some w b R sl cs k c e o d h x hx h0 hn hle
end
end Go.Proofs.YtllchnancjgijaaGreat.Ta
/- A record as a plain state; the contracts of what only reads one. -/
namespace Go.Proofs.YtllchnancjgijaaGreat.Ta
open Go.RowKit Go.Maps Go.ChangeMaps
def Rq (w : World) (b : Nat) (F : List Nat) (R : Rn) (S : St) (N : Nat) : Prop := ∃ sl m cs, F = fpR b sl m ∧ Rl w b R (S.kept && !S.ended) S.canc S.ended S.out sl m cs ∧ wl cs = S.who ∧ cs.length ≤ N ∧ Iv S
def RqE (w w' : World) (b : Nat) (F : List Nat) (R : Rn) (S : St) (N : Nat) : Prop := ∃ F', Rq w' b F' R S N ∧ Touch F w w' ∧ Nf w F F'
section
variable {w w' : World} {b N M : Nat} {F G : List Nat} {R : Rn} {S : St}
theorem Rq.lt (h : Rq w b F R S N) : ∀ d, d ∈ F → d < w.heap.size := by
 obtain ⟨sl, m, cs, rfl, h, _⟩ := h
 exact h.lt
theorem Rq.keep (h : Rq w b F R S N) (T : Touch G w w') (hG : ∀ d, d ∈ F → ¬ d ∈ G) : Rq w' b F R S N := by
 obtain ⟨sl, m, cs, rfl, h, r⟩ := h
 exact ⟨sl, m, cs, rfl, h.keep T hG, r⟩
theorem Rq.keep0 (h : Rq w b F R S N) (T : Touch [] w w') : Rq w' b F R S N := h.keep T (fun _ _ e => by cases e)
theorem Rq.mono (h : Rq w b F R S N) (hN : N ≤ M) : Rq w b F R S M := by
 obtain ⟨sl, m, cs, rfl, h, h1, h2, h3⟩ := h
 exact ⟨sl, m, cs, rfl, h, h1, Nat.le_trans h2 hN, h3⟩
theorem Rq.iv (h : Rq w b F R S N) : Iv S := by
 obtain ⟨sl, m, cs, rfl, h, h1, h2, h3⟩ := h
 exact h3
theorem Rq.wlen (h : Rq w b F R S N) : S.who.length ≤ N := by
 obtain ⟨sl, m, cs, rfl, h, h1, h2, h3⟩ := h
 rw [← h1]
 exact Nat.le_trans (wl_len _) h2
theorem Rq.mem (h : Rq w b F R S N) : b ∈ F := by
 obtain ⟨sl, m, cs, rfl, _⟩ := h
 exact mem_fpR.2 (Or.inl rfl)
theorem RqE.same (h : Rq w b F R S N) (hN : N ≤ M) : RqE w w b F R S M := ⟨F, h.mono hN, Touch.refl _ _, Nf.refl _ _⟩
theorem Rq.cs (h : Rq w b F R S N) : ∃ sl mp, Rcs w b R sl mp (S.kept && !S.ended) S.canc S.ended S.out ∧ ∀ i, w.frozen? ⟨b, i, none⟩ = false := by
 obtain ⟨sl, m, cs, rfl, h, _⟩ := h
 exact ⟨sl, .map m, h.rc.cs, h.rc.fz⟩
theorem Rq.blt (h : Rq w b F R S N) : b < w.heap.size := h.lt b h.mem
end
section
variable (w : World) (b N : Nat) (F : List Nat) (R : Rn) (S : St)
theorem run8 (h : Rq w b F R S N) : Calls Tryz.prog 111 #[PT b] w fun e w' => e = .returned (rv R) ∧ Touch [] w w' := by
 have hl := h.blt
 have hne : b ≠ w.heap.size := by omega
 obtain ⟨sl, mp, ⟨c0, c1, c2, c3, c4, c5, c6, c7, c8, c9, c10, c11, c12, c13⟩, -⟩ := h.cs
 clear h c5 c6 c7 c8 c9 c10 c11 c12 c13
 unfold PT rv
 go_enter Tryz.func111, Tryz.ntmps111
 go_wp2
 refine bodyPost_ret (v := .agg #[.int .i64 R.run, .int .u16 R.sp, .string R.nm, .int .i64 R.gen, .bool R.rf]) (by simp [results, Tryz.results111, go_sem]) rfl ⟨rfl, ?_⟩
 repeat (first | exact Touch.refl _ _ | apply Touch.alloc | (refine Touch.setCell ?_ (Or.inr (by simp)) _))
theorem interest19 (h : Rq w b F R S N) (hN : N ≤ 3000000000000) : Calls Tryz.prog 192 #[PT b] w fun e w' => e = .returned (.int .i64 (inter S)) ∧ w' = w := by
 have hw := h.wlen
 obtain ⟨sl, m, cs, rfl, h, h1, h2, h3⟩ := h
 have HC := hid (count35 h)
 rw [h1] at HC
 have c7 := h.rc.cs.c7
 have HN := hid (show 0 ≤ ((S.who.length : Nat) : Int) ∧ ((S.who.length : Nat) : Int) ≤ 3000000000000 by omega)
 unfold inter
 clear h h1 h2 h3 hw hN
 generalize (S.who.length : Int) = n at *
 generalize (S.kept && !S.ended) = B at *
 unfold PT
 unfold PL at HC
 have hwr : IntKind.i64.wrap (n + 1) = n + 1 := by have := HN.out; rw [IntKind.wrap_i64]; omega
 cases B
 ·clear hwr
  go_enter Tryz.func192, Tryz.ntmps192
  go_wp2_with (go_at_call 195; refine HC.out.mono ?_; rintro e w2 ⟨rfl, rfl⟩)
  go_ret
  exact ⟨by simp, rfl⟩
 ·go_enter Tryz.func192, Tryz.ntmps192
  go_wp2_with (go_at_call 195; refine HC.out.mono ?_; rintro e w2 ⟨rfl, rfl⟩)
  go_ret
  exact ⟨by simp, rfl⟩
end
end Go.Proofs.YtllchnancjgijaaGreat.Ta
/- The contracts of Join, Leave and Release. -/
namespace Go.Proofs.YtllchnancjgijaaGreat.Ta
open Go.RowKit Go.Maps Go.ChangeMaps
theorem RqE.trans {w w1 w2 : World} {b N M : Nat} {F F1 : List Nat} {R : Rn} {S1 S2 : St} (h1 : Rq w1 b F1 R S1 M) (t1 : Touch F w w1) (n1 : Nf w F F1) (h2 : RqE w1 w2 b F1 R S2 N) : RqE w w2 b F R S2 N := by
 obtain ⟨F2, r1, r2, r3⟩ := h2
 exact ⟨F2, r1, t1.trans r2 n1, n1.trans r3 t1.size⟩
section
variable (w : World) (b N : Nat) (F : List Nat) (R : Rn) (S : St)
set_option maxHeartbeats 1000000 in
theorem left31 (h : Rq w b F R S N) (hN : N ≤ 3000000000000) (hE : S.ended = false) : Calls Tryz.prog 162 #[PT b] w fun e w' => e = .returned (.bool (leftB S)) ∧ RqE w w' b F R (leftS S) N := by
 have HI := hid (interest19 w b N F R S h hN)
 obtain ⟨sl, mp, ⟨c0, c1, c2, c3, c4, c5, c6, c7, c8, c9, c10, c11, c12, c13⟩, f8⟩ := h.cs
 have hl := h.blt
 have HX : Hid (RqE w (w.setCell ⟨b, 8, none⟩ (.bool (leftB S))) b F R (leftS S) N) := by
  obtain ⟨sl, m, cs, rfl, h, h1, h2, h3⟩ := h
  have T : Touch [b] w (w.setCell ⟨b, 8, none⟩ (.bool (leftB S))) := (Touch.refl _ _).setCell (Or.inl (by simp)) _
  refine ⟨_, ⟨sl, m, cs, rfl, ⟨h.rc.set8 _, h.ln.keep T (fun d hd e' => ?_) (fun d hd e' => ?_)⟩, h1, h2, h3.left hE⟩, T.mono (fun q hq => ?_), Nf.refl _ _⟩
  ·simp only [List.mem_singleton] at e'; exact row_ne h.rc h.ln.row hd e'
  ·simp only [List.mem_singleton] at e'; exact map_ne h.rc h.ln.mp hd e'
  ·simp only [List.mem_singleton] at hq; exact mem_fpR.2 (Or.inl hq)
 have HB : Hid (leftB S = decide (inter S = 0)) := rfl
 clear h c0 c1 c2 c3 c4 c5 c6 c7 c9 c10 c11 c12 c13
 obtain ⟨B, hB⟩ : ∃ B, B = leftB S := ⟨_, rfl⟩
 have hq : (inter S == 0) = B := by rw [hB, HB.out]; exact Bool.beq_eq_decide_eq _ _
 rw [← hB] at HX ⊢
 clear HB hB
 generalize inter S = n at *
 unfold PT at *
 go_enter Tryz.func162, Tryz.ntmps162
 go_wp2_with (go_at_call 192; refine HI.out.mono ?_; rintro e w ⟨rfl, rfl⟩)
 go_ret
 exact ⟨by simp [hq], by simpa [hq] using HX.out⟩
set_option maxHeartbeats 2000000 in
theorem join13 (h : Rq w b F R S N) (hN : N ≤ 3000000000000) (x : Int) (hx : W64 x) : Calls Tryz.prog 133 #[PT b, .int .i64 x] w fun e w' => e = .returned (.int .i64 (joinE S x)) ∧ RqE w w' b F R (joinS S x) (N + 1) := by
 have HS := hid (RqE.same h (Nat.le_succ N))
 obtain ⟨sl', mp', ⟨c0, c1, c2, c3, c4, c5, c6, c7, c8, c9, c10, c11, c12, c13⟩, f8⟩ := h.cs
 clear c0 c1 c2 c3 c4 c5 c6 c7 c10 c11 c12 c13 f8
 by_cases h1 : x < 1
 ·have e1 : joinE S x = 1 := by simp [joinE, h1]
  have e2 : joinS S x = S := by unfold joinS; rw [e1]; simp
  rw [e1, e2]
  clear h e1 e2 c8 c9
  unfold PT
  go_enter Tryz.func133, Tryz.ntmps133
  go_wp2
  go_ret
  exact ⟨rfl, HS.out⟩
 ·cases hE : S.ended with
  | true =>
   have e1 : joinE S x = 110 := by simp [joinE, h1, hE]
   have e2 : joinS S x = S := by unfold joinS; rw [e1]; simp
   rw [e1, e2]
   rw [hE] at c9
   clear h e1 e2 c8 hE
   unfold PT
   go_enter Tryz.func133, Tryz.ntmps133
   go_wp2
   go_ret
   exact ⟨rfl, HS.out⟩
  | false =>
   cases hC : S.canc with
   | true =>
    have e1 : joinE S x = 113 := by simp [joinE, h1, hE, hC]
    have e2 : joinS S x = S := by unfold joinS; rw [e1]; simp
    rw [e1, e2]
    rw [hE] at c9
    rw [hC] at c8
    clear h e1 e2 hE hC
    unfold PT
    go_enter Tryz.func133, Tryz.ntmps133
    go_wp2
    go_ret
    exact ⟨rfl, HS.out⟩
   | false =>
    rw [hE] at c9
    rw [hC] at c8
    obtain ⟨sl, m, cs, rfl, hr, hw, hl, hv⟩ := h
    have HH := hid (has29 hr x hx)
    rw [hw] at HH
    by_cases hm : x ∈ S.who
    ·have e1 : joinE S x = 111 := by simp [joinE, h1, hE, hC, hm]
     have e2 : joinS S x = S := by unfold joinS; rw [e1]; simp
     rw [e1, e2]
     rw [show decide (x ∈ S.who) = true by simp [hm]] at HH
     clear hr e1 e2 hE hC hm hw hl hv
     unfold PT
     unfold PL at HH
     go_enter Tryz.func133, Tryz.ntmps133
     go_wp2_with (go_at_call 177; refine HH.out.mono ?_; rintro e w ⟨rfl, rfl⟩)
     go_ret
     exact ⟨rfl, HS.out⟩
    ·have e1 : joinE S x = 0 := by simp [joinE, h1, hE, hC, hm]
     have e2 : joinS S x = { S with who := S.who ++ [x] } := by unfold joinS; rw [e1]; simp
     have hv2 := hv.join hx
     rw [e2] at hv2
     rw [e1, e2]
     rw [show decide (x ∈ S.who) = false by simp [hm]] at HH
     have HA := hid (add21 w b R sl m cs _ _ _ _ hr x hx (by omega) (by rw [hw]; exact hm) (by omega))
     have HX : Hid (∀ w', LnE w w' b R (S.kept && !S.ended) S.canc S.ended S.out (fpR b sl m) (cs ++ [x]) → RqE w w' b (fpR b sl m) R { S with who := S.who ++ [x] } (N + 1)) := fun w' ⟨sl', m', q1, q2, q3⟩ =>
      ⟨_, ⟨sl', m', cs ++ [x], rfl, q1, by rw [wl_app, wl_one (by omega), hw], by simp; exact hl, hv2⟩, q2, q3⟩
     clear hr e1 e2 hE hC hm hw hl hv hv2 HS
     unfold PT
     unfold PL at HH HA
     go_enter Tryz.func133, Tryz.ntmps133
     go_wp2_with (first | (go_at_call 177; refine HH.out.mono ?_; rintro e w ⟨rfl, rfl⟩) | (go_at_call 178; refine HA.out.mono ?_; rintro e w2 ⟨rfl, r⟩; have RR := hid (HX.out _ r); clear r))
     go_ret
     exact ⟨rfl, RR.out⟩
set_option maxHeartbeats 2000000 in
theorem release14 (h : Rq w b F R S N) (hN : N ≤ 3000000000000) : Calls Tryz.prog 112 #[PT b] w fun e w' => e = .returned (.bool (relB S)) ∧ RqE w w' b F R (relS S) N := by
 have HS := hid (RqE.same h (Nat.le_refl N))
 obtain ⟨sl', mp', ⟨c0, c1, c2, c3, c4, c5, c6, c7, c8, c9, c10, c11, c12, c13⟩, f7⟩ := h.cs
 clear c0 c1 c2 c3 c4 c5 c6 c8 c9 c10 c11 c12 c13
 cases hK : (S.kept && !S.ended) with
 | false =>
  have e2 : relS S = S := by unfold relS; rw [hK]; simp
  have e3 : relB S = false := by unfold relB; rw [hK]; simp
  rw [e2, e3]
  rw [hK] at c7
  clear h e2 e3 hK f7
  unfold PT
  go_enter Tryz.func112, Tryz.ntmps112
  go_wp2
  go_ret
  exact ⟨rfl, HS.out⟩
 | true =>
  have hE : S.ended = false := by cases q : S.ended <;> simp_all
  have e2 : relS S = leftS { S with kept := false } := by unfold relS; rw [hK]; simp
  have e3 : relB S = leftB { S with kept := false } := by unfold relB; rw [hK]; simp
  rw [e2, e3]
  rw [hK] at c7
  have hl := h.blt
  have HX : Hid (RqE w (w.setCell ⟨b, 7, none⟩ (.bool false)) b F R { S with kept := false } N) := by
   obtain ⟨sl, m, cs, rfl, h, h1, h2, h3⟩ := h
   have T : Touch [b] w (w.setCell ⟨b, 7, none⟩ (.bool false)) := (Touch.refl _ _).setCell (Or.inl (by simp)) _
   refine ⟨_, ⟨sl, m, cs, rfl, ⟨h.rc.set7 _, h.ln.keep T (fun d hd e' => ?_) (fun d hd e' => ?_)⟩, h1, h2, ⟨h3.en, h3.no, fun e1 e2 => ⟨(h3.ca e1 e2).1, rfl⟩, h3.pos, h3.nd⟩⟩, T.mono (fun q hq => ?_), Nf.refl _ _⟩
   ·simp only [List.mem_singleton] at e'; exact row_ne h.rc h.ln.row hd e'
   ·simp only [List.mem_singleton] at e'; exact map_ne h.rc h.ln.mp hd e'
   ·simp only [List.mem_singleton] at hq; exact mem_fpR.2 (Or.inl hq)
  obtain ⟨F1, q1, q2, q3⟩ := HX.out
  have HL := hid (left31 _ b N F1 R _ q1 hN hE)
  have HY : Hid (∀ w', RqE (w.setCell ⟨b, 7, none⟩ (.bool false)) w' b F1 R (leftS { S with kept := false }) N → RqE w w' b F R (leftS { S with kept := false }) N) := fun w' r => RqE.trans q1 q2 q3 r
  clear h e2 e3 hK hE HX q1 q2 q3 HS
  generalize leftB { S with kept := false } = B at *
  generalize leftS { S with kept := false } = S2 at *
  unfold PT at *
  go_enter Tryz.func112, Tryz.ntmps112
  go_wp2_with (go_at_call 162; refine HL.out.mono ?_; rintro e w3 ⟨rfl, r⟩; have RR := hid (HY.out _ r); clear r)
  go_ret
  exact ⟨rfl, RR.out⟩
end
end Go.Proofs.YtllchnancjgijaaGreat.Ta
/- The contracts of New and of Clone. -/
namespace Go.Proofs.YtllchnancjgijaaGreat.Ta
open Go.RowKit Go.Maps Go.ChangeMaps
def mayN (R : Rn) (x : Int) : Bool := decide (1 ≤ R.run) && decide (0 ≤ R.gen) && (if R.rf then decide (x = 0) else decide (1 ≤ x))
def S0 (R : Rn) (x : Int) : St := ⟨if R.rf then [] else [x], R.rf, false, false, oz⟩
theorem iv_S0 {R : Rn} {x : Int} (hx : W64 x) (h : mayN R x = true) : Iv (S0 R x) := by
 refine ⟨fun e => (by cases e), fun _ => rfl, fun _ e => (by cases e), fun y hy => ?_, ?_⟩
 ·unfold S0 at hy
  unfold mayN at h
  cases hr : R.rf
  ·rw [hr] at hy h
   simp at hy h
   subst hy
   exact ⟨hx, h.2⟩
  ·rw [hr] at hy; simp at hy
 ·unfold S0
  cases hr : R.rf <;> simp
def NwE (e : Ending) (w w' : World) (R : Rn) (x : Int) : Prop := ∃ b F, e = .returned (.tuple #[PT b, .int .i64 0]) ∧ Rq w' b F R (S0 R x) 1 ∧ Touch [] w w' ∧ ∀ d, d ∈ F → w.heap.size ≤ d
section
variable (w : World) (R : Rn) (x : Int)
theorem rl_new (w : World) (o : Obj) (R : Rn) : Rl ((w.alloc o).alloc (.cells (rc R (.slice none 0 0) (.map none) R.rf false false oz) 274)) (w.heap.size + 1) R R.rf false false oz (.slice none 0 0) none [] := by
 refine ⟨⟨?_⟩, Ln.nil _⟩
 have := heap_alloc_new (w.alloc o) (.cells (rc R (.slice none 0 0) (.map none) R.rf false false oz) 274)
 rwa [World.size_alloc] at this
set_option maxHeartbeats 2000000 in
theorem new5_ok (hx : W64 x) (h : mayN R x = true) : Calls Tryz.prog 136 #[rv R, .int .i64 x] w fun e w' => NwE e w w' R x := by
 have hiv := iv_S0 hx h
 have HL := hid (rl_new w (.cells #[.int .i64 R.run, .int .u16 R.sp, .string R.nm, .int .i64 R.gen, .bool R.rf] 49) R)
 have ht : Touch [] w ((w.alloc (.cells #[.int .i64 R.run, .int .u16 R.sp, .string R.nm, .int .i64 R.gen, .bool R.rf] 49)).alloc (.cells (rc R (.slice none 0 0) (.map none) R.rf false false oz) 274)) := ((Touch.refl _ _).alloc _).alloc _
 have HT := hid ht
 clear ht
 unfold mayN at h
 cases hr : R.rf with
 | true =>
  rw [hr] at h HL HT
  simp only [if_true, Bool.and_eq_true, decide_eq_true_eq] at h
  obtain ⟨⟨h1, h2⟩, rfl⟩ := h
  have HX : Hid (NwE (.returned (.tuple #[PT (w.heap.size + 1), .int .i64 0])) w ((w.alloc (.cells #[.int .i64 R.run, .int .u16 R.sp, .string R.nm, .int .i64 R.gen, .bool true] 49)).alloc (.cells (rc R (.slice none 0 0) (.map none) true false false oz) 274)) R 0) := by
   refine ⟨w.heap.size + 1, fpR (w.heap.size + 1) (.slice none 0 0) none, rfl, ⟨.slice none 0 0, none, [], rfl, ?_, ?_, Nat.zero_le _, hiv⟩, HT.out, fun d hd => ?_⟩
   ·unfold S0
    rw [hr]
    exact HL.out
   ·unfold S0; rw [hr]; rfl
   ·rcases mem_fpR.1 hd with q | q | q
    ·omega
    ·cases q
    ·cases q
  clear HL HT hiv hx
  unfold PT rc oz at HX
  unfold rv
  rw [hr] at HX ⊢
  have g1 : (R.run < 1) = False := by simp; omega
  have g2 : (R.gen < 0) = False := by simp; omega
  go_enter Tryz.func136, Tryz.ntmps136
  go_wp2
  exact bodyPost_ret (v := .tuple #[.pointer (some ⟨w.heap.size + 1, 0, none⟩), .int .i64 0]) (by simp [results, Tryz.results136, go_sem]) rfl HX.out
 | false =>
  rw [hr] at h HL HT
  simp only [Bool.false_eq_true, if_false, Bool.and_eq_true, decide_eq_true_eq] at h
  obtain ⟨⟨h1, h2⟩, h3⟩ := h
  have HA := hid (add21 _ _ R _ none [] _ _ _ _ HL.out x hx (by omega) (by simp [wl]) (by simp))
  have HX : Hid (∀ w', LnE ((w.alloc (.cells #[.int .i64 R.run, .int .u16 R.sp, .string R.nm, .int .i64 R.gen, .bool false] 49)).alloc (.cells (rc R (.slice none 0 0) (.map none) false false false oz) 274)) w' (w.heap.size + 1) R false false false oz (fpR (w.heap.size + 1) (.slice none 0 0) none) ([] ++ [x]) → NwE (.returned (.tuple #[PT (w.heap.size + 1), .int .i64 0])) w w' R x) := fun w' ⟨sl, m, q1, q2, q3⟩ => by
   have hz := HT.out.size
   refine ⟨w.heap.size + 1, fpR (w.heap.size + 1) sl m, rfl, ⟨sl, m, [] ++ [x], rfl, ?_, ?_, by simp, hiv⟩, HT.out.trans q2 (fun d hd => Or.inr ?_), fun d hd => ?_⟩
   ·unfold S0; rw [hr]; exact q1
   ·unfold S0; rw [hr]; exact wl_one (by omega)
   ·rcases mem_fpR.1 hd with q | q | q
    ·omega
    ·cases q
    ·cases q
   ·rcases q3 d hd with q | q
    ·rcases mem_fpR.1 q with q | q | q
     ·omega
     ·cases q
     ·cases q
    ·omega
  clear HL HT hiv
  unfold PL rc oz at HA
  unfold PT rc oz at HX
  unfold rv
  rw [hr] at HX HA ⊢
  have g1 : (R.run < 1) = False := by simp; omega
  have g2 : (R.gen < 0) = False := by simp; omega
  have g3 : (x < 0) = False := by simp; omega
  have g4 : (x == 0) = false := by simp; omega
  go_enter Tryz.func136, Tryz.ntmps136
  go_wp2_with (go_at_call 178; refine HA.out.mono ?_; rintro e w2 ⟨rfl, r⟩; have RR := hid (HX.out _ r); clear r)
  exact bodyPost_ret (v := .tuple #[.pointer (some ⟨w.heap.size + 1, 0, none⟩), .int .i64 0]) (by simp [results, Tryz.results136, go_sem]) rfl RR.out
end
end Go.Proofs.YtllchnancjgijaaGreat.Ta
/- A table of runs as a plain state, and its steps; no program. -/
namespace Go.Proofs.YtllchnancjgijaaGreat.Ta
structure Tb where
 fl : Int
 bg : Int
 rs : List (Rn × St)
 gn : K → Int
def kOf (R : Rn) : K := (R.sp, R.nm)
def runOf (T : Tb) (n : Int) : Option (Rn × St) := T.rs.find? (fun p => decide (p.1.run = n))
def isCur (T : Tb) (R : Rn) : Bool := decide (R.gen = T.gn (kOf R))
def curL (T : Tb) (k : K) (l : List (Rn × St)) : Option (Rn × St) := l.find? (fun p => decide (kOf p.1 = k) && isCur T p.1)
def curOf (T : Tb) (k : K) : Option Rn := (curL T k T.rs).map (·.1)
def putS (n : Int) (S : St) (p : Rn × St) : Rn × St := if p.1.run = n then (p.1, S) else p
def setS (T : Tb) (n : Int) (S : St) : Tb := { T with rs := T.rs.map (putS n S) }
def goOn (T : Tb) (k : K) : Tb := { T with gn := fun j => if j = k then T.gn j + 1 else T.gn j }
def outR (T : Tb) (n : Int) : Tb := { T with rs := T.rs.filter (fun p => decide (p.1.run ≠ n)) }
def goneB (T : Tb) (R : Rn) (c : Bool) : Bool := c && isCur T R
def goneT (T : Tb) (R : Rn) (c : Bool) : Tb := if goneB T R c then goOn T (kOf R) else T
def tJoinE (T : Tb) (n x : Int) : Int := match runOf T n with | none => 122 | some p => joinE p.2 x
def tJoin (T : Tb) (n x : Int) : Tb := match runOf T n with | none => T | some p => setS T n (joinS p.2 x)
def tRelE (T : Tb) (n : Int) : Int := match runOf T n with | none => 122 | some _ => 0
def tRelC (T : Tb) (n : Int) : Bool := match runOf T n with | none => false | some p => relB p.2
def tRelA (T : Tb) (n : Int) : Bool := match runOf T n with | none => false | some p => goneB T p.1 (relB p.2)
def tRel (T : Tb) (n : Int) : Tb := match runOf T n with | none => T | some p => goneT (setS T n (relS p.2)) p.1 (relB p.2)
def mayK (k : K) : Bool := decide (k.2.size ≤ 64)
def tForE (k : K) : Int := if mayK k then 0 else 20
def tEndE (T : Tb) (n : Int) (o : O) : Int := match runOf T n with | none => 122 | some p => endE p.2 o
def tEndL (T : Tb) (n : Int) (o : O) : List Int := match runOf T n with | none => [] | some p => endL p.2 o
def tEndC (T : Tb) (n : Int) (o : O) : Bool := match runOf T n with | none => false | some p => decide (endE p.2 o = 0) && isCur T p.1
def tEnd (T : Tb) (n : Int) (o : O) : Tb := match runOf T n with | none => T | some p => if endE p.2 o = 0 then outR T n else T
def badC (x : Int) (rf : Bool) : Bool := if rf then decide (x ≠ 0) else decide (x < 1)
def tBegE (T : Tb) (k : K) (x : Int) (rf : Bool) : Int := if !mayK k then 20 else if badC x rf then 1 else if (curOf T k).isSome then 121 else if T.fl ≤ T.rs.length then 120 else 0
def tBegR (T : Tb) (k : K) (rf : Bool) : Rn := ⟨T.bg + 1, k.1, k.2, T.gn k, rf⟩
def tBegN (T : Tb) (k : K) (x : Int) (rf : Bool) : Int := if tBegE T k x rf = 0 then T.bg + 1 else 0
def tBeg (T : Tb) (k : K) (x : Int) (rf : Bool) : Tb := if tBegE T k x rf = 0 then { T with bg := T.bg + 1, rs := T.rs ++ [(tBegR T k rf, S0 (tBegR T k rf) x)] } else T
structure Ti (T : Tb) (M : Nat) : Prop where
 ord : T.rs.Pairwise (fun p q => p.1.run < q.1.run)
 rng : ∀ p ∈ T.rs, 1 ≤ p.1.run ∧ p.1.run ≤ T.bg
 gen : ∀ p ∈ T.rs, 0 ≤ p.1.gen ∧ p.1.gen ≤ T.gn (kOf p.1)
 one : T.rs.Pairwise (fun p q => kOf p.1 = kOf q.1 → p.1.gen ≠ q.1.gen)
 live : ∀ p ∈ T.rs, Iv p.2
 ok : ∀ p ∈ T.rs, Ok (kOf p.1)
 len : (T.rs.length : Int) ≤ T.fl
 fl : 1 ≤ T.fl ∧ T.fl ≤ 4096
 bg : 0 ≤ T.bg ∧ T.bg ≤ M
 gn : ∀ k, 0 ≤ T.gn k ∧ T.gn k ≤ M
section
variable {T : Tb} {M N : Nat} {n : Int} {p : Rn × St}
theorem Ti.mono (h : Ti T M) (hm : M ≤ N) : Ti T N := ⟨h.ord, h.rng, h.gen, h.one, h.live, h.ok, h.len, h.fl, ⟨h.bg.1, by have := h.bg.2; omega⟩, fun k => ⟨(h.gn k).1, by have := (h.gn k).2; omega⟩⟩
theorem runOf_mem (h : runOf T n = some p) : p ∈ T.rs ∧ p.1.run = n := ⟨List.mem_of_find?_eq_some h, by have := List.find?_some h; simpa using this⟩
theorem runOf_of_mem (h : Ti T M) (hp : p ∈ T.rs) : runOf T p.1.run = some p := by
 unfold runOf
 have ho := h.ord
 generalize T.rs = l at hp ho
 induction l with
 | nil => cases hp
 | cons a r ih =>
  obtain ⟨h1, h2⟩ := List.pairwise_cons.1 ho
  rcases List.mem_cons.1 hp with e | e
  ·subst e; simp
  ·have := h1 p e
   rw [List.find?_cons_of_neg (by simp; omega)]
   exact ih e h2
theorem runOf_none (h : runOf T n = none) : ∀ p ∈ T.rs, p.1.run ≠ n := fun p hp e => by
 have := List.find?_eq_none.1 h p hp
 simp [e] at this
theorem putS_fst (S : St) (p : Rn × St) : (putS n S p).1 = p.1 := by unfold putS; split <;> rfl
theorem rs_setS (S : St) : (setS T n S).rs.map (·.1) = T.rs.map (·.1) := by
 simp only [setS, List.map_map]
 exact List.map_congr_left (fun p _ => putS_fst S p)
theorem curOf_eq (T : Tb) (k : K) : curOf T k = (T.rs.map (·.1)).find? (fun R => decide (kOf R = k) && isCur T R) := by
 unfold curOf curL
 rw [List.find?_map]
 rfl
theorem curOf_setS (S : St) (k : K) : curOf (setS T n S) k = curOf T k := by
 rw [curOf_eq, curOf_eq, rs_setS]
 rfl
theorem curOf_some {k : K} {R : Rn} (h : curOf T k = some R) : (∃ S, (R, S) ∈ T.rs) ∧ kOf R = k ∧ R.gen = T.gn k := by
 unfold curOf at h
 obtain ⟨p, hp, rfl⟩ := Option.map_eq_some_iff.1 h
 have h1 := List.mem_of_find?_eq_some hp
 have h2 := List.find?_some hp
 simp only [Bool.and_eq_true, decide_eq_true_eq, isCur] at h2
 exact ⟨⟨p.2, h1⟩, h2.1, h2.1 ▸ h2.2⟩
theorem curOf_none {k : K} (h : curOf T k = none) : ∀ p ∈ T.rs, kOf p.1 = k → p.1.gen ≠ T.gn k := fun p hp hk e => by
 unfold curOf at h
 have := List.find?_eq_none.1 (Option.map_eq_none_iff.1 h) p hp
 simp [hk, isCur, e] at this
theorem curOf_of_mem (h : Ti T M) (hp : p ∈ T.rs) : curOf T (kOf p.1) = some p.1 ↔ isCur T p.1 = true := by
 constructor
 ·intro e
  have := (curOf_some e).2.2
  simp [isCur, this]
 ·intro e
  cases hc : curOf T (kOf p.1) with
  | none => exact absurd (of_decide_eq_true e) (curOf_none hc p hp rfl)
  | some R =>
   obtain ⟨⟨S, hm⟩, h1, h2⟩ := curOf_some hc
   have e' : p.1.gen = T.gn (kOf p.1) := of_decide_eq_true e
   by_cases he : (R, S) = p
   ·rw [← he]
   ·exfalso
    have ho := h.one
    generalize T.rs = l at hp hm ho
    induction l with
    | nil => cases hp
    | cons a r ih =>
     obtain ⟨q1, q2⟩ := List.pairwise_cons.1 ho
     rcases List.mem_cons.1 hp with e1 | e1 <;> rcases List.mem_cons.1 hm with e2 | e2
     ·exact he (e2.trans e1.symm)
     ·exact q1 _ e2 (by rw [← e1]; exact h1.symm) (by rw [← e1]; simp only; omega)
     ·exact q1 _ e1 (by rw [← e2]; exact h1) (by rw [← e2]; simp only; omega)
     ·exact ih e1 e2 q2
theorem curN_of_mem (h : Ti T M) (hp : p ∈ T.rs) : decide (((curOf T (kOf p.1)).map Rn.run).getD 0 = p.1.run) = isCur T p.1 := by
 cases hc : isCur T p.1
 ·have hn : ¬ curOf T (kOf p.1) = some p.1 := fun e => by rw [(curOf_of_mem h hp).1 e] at hc; cases hc
  cases hq : curOf T (kOf p.1) with
  | none => simp; have := (h.rng p hp).1; omega
  | some R =>
   simp only [Option.map_some, Option.getD_some, decide_eq_false_iff_not]
   intro e
   obtain ⟨⟨S, hm⟩, h1, h2⟩ := curOf_some hq
   have r1 := runOf_of_mem h hm
   have r2 := runOf_of_mem h hp
   simp only at r1
   rw [e, r2] at r1
   cases r1
   exact hn hq
 ·rw [(curOf_of_mem h hp).2 hc]
  simp
theorem curOf_goOn (h : Ti T M) (k j : K) : curOf (goOn T k) j = if j = k then none else curOf T j := by
 rw [curOf_eq, curOf_eq]
 split
 ·rename_i e
  subst e
  refine List.find?_eq_none.2 (fun R hR => ?_)
  obtain ⟨p, hp, rfl⟩ := List.mem_map.1 hR
  simp only [Bool.and_eq_true, decide_eq_true_eq, isCur, goOn, not_and]
  intro e
  have := (h.gen p hp).2
  rw [e] at this ⊢
  simp
  omega
 ·rename_i e
  have : ∀ R : Rn, (decide (kOf R = j) && isCur (goOn T k) R) = (decide (kOf R = j) && isCur T R) := fun R => by
   by_cases hk : kOf R = j
   ·simp [hk, isCur, goOn, e]
   ·simp [hk]
  simp only [this]
  rfl
theorem curOf_outR (h : Ti T M) (hp : p ∈ T.rs) (j : K) : curOf (outR T p.1.run) j = if isCur T p.1 = true ∧ j = kOf p.1 then none else curOf T j := by
 have hg : (outR T p.1.run).gn = T.gn := rfl
 split
 ·rename_i e
  obtain ⟨e1, rfl⟩ := e
  have hc := (curOf_of_mem h hp).2 e1
  cases hq : curOf (outR T p.1.run) (kOf p.1) with
  | none => rfl
  | some R =>
   exfalso
   obtain ⟨⟨S, hm⟩, h1, h2⟩ := curOf_some hq
   have hm' := List.mem_filter.1 hm
   have h3 : isCur T R = true := by simp [isCur, h1, h2, hg]
   have h4 := (curOf_of_mem h hm'.1).2 h3
   simp only at h4
   rw [h1, hc] at h4
   have e4 := Option.some.inj h4
   have := hm'.2
   simp [← e4] at this
 ·rename_i e
  cases hc : curOf T j with
  | none =>
   cases hq : curOf (outR T p.1.run) j with
   | none => rfl
   | some R =>
    exfalso
    obtain ⟨⟨S, hm⟩, h1, h2⟩ := curOf_some hq
    exact curOf_none hc _ (List.mem_filter.1 hm).1 h1 h2
  | some R =>
   obtain ⟨⟨S, hm⟩, h1, h2⟩ := curOf_some hc
   have hne : R.run ≠ p.1.run := fun e' => by
    have r1 := runOf_of_mem h hm
    have r2 := runOf_of_mem h hp
    simp only at r1
    rw [e', r2] at r1
    cases r1
    exact e ⟨by simp [isCur, h1, h2], h1.symm⟩
   cases hq : curOf (outR T p.1.run) j with
   | none => exact absurd h2 (curOf_none hq (R, S) (List.mem_filter.2 ⟨hm, by simp [hne]⟩) h1)
   | some R' =>
    obtain ⟨⟨S', hm'⟩, h1', h2'⟩ := curOf_some hq
    have hmm := (List.mem_filter.1 hm').1
    have g1 := (curOf_of_mem h hmm).2 (by simp [isCur, h1', h2', hg])
    simp only at g1
    rw [h1', hc] at g1
    exact g1.symm
theorem curOf_app (T' : Tb) (R : Rn) (S : St) (hr : T'.rs = T.rs ++ [(R, S)]) (hg : T'.gn = T.gn) (hc : curOf T (kOf R) = none) (he : R.gen = T.gn (kOf R)) (j : K) : curOf T' j = if j = kOf R then some R else curOf T j := by
 rw [curOf_eq, curOf_eq, hr, List.map_append, List.find?_append]
 have hs : ∀ Q : Rn, isCur T' Q = isCur T Q := fun Q => by unfold isCur; rw [hg]
 simp only [hs]
 rw [← curOf_eq]
 split
 ·rename_i e
  subst e
  rw [hc]
  simp [isCur, he]
 ·rename_i e
  cases hq : curOf T j with
  | some Q => simp
  | none =>
   simp only [List.map_cons, List.map_nil, Option.none_or]
   rw [List.find?_cons_of_neg (by simp; intro e'; exact absurd e'.symm e)]
   rfl
theorem Ti.setS (h : Ti T M) {S : St} (hS : Iv S) : Ti (setS T n S) M := by
 have hmem : ∀ q ∈ (YtllchnancjgijaaGreat.Ta.setS T n S).rs, ∃ p ∈ T.rs, q.1 = p.1 ∧ (q.2 = p.2 ∨ q.2 = S) := fun q hq => by
  obtain ⟨p, hp, rfl⟩ := List.mem_map.1 hq
  refine ⟨p, hp, putS_fst S p, ?_⟩
  unfold putS
  split
  ·exact Or.inr rfl
  ·exact Or.inl rfl
 refine ⟨?_, fun q hq => ?_, fun q hq => ?_, ?_, fun q hq => ?_, fun q hq => ?_, ?_, h.fl, h.bg, h.gn⟩
 ·refine List.pairwise_map.2 (h.ord.imp (fun {a b} hab => ?_))
  rw [putS_fst, putS_fst]; exact hab
 ·obtain ⟨p, hp, e, _⟩ := hmem q hq; rw [e]; exact h.rng p hp
 ·obtain ⟨p, hp, e, _⟩ := hmem q hq; rw [e]; exact h.gen p hp
 ·refine List.pairwise_map.2 (h.one.imp (fun {a b} hab => ?_))
  rw [putS_fst, putS_fst]; exact hab
 ·obtain ⟨p, hp, _, e | e⟩ := hmem q hq
  ·rw [e]; exact h.live p hp
  ·rw [e]; exact hS
 ·obtain ⟨p, hp, e, _⟩ := hmem q hq; rw [e]; exact h.ok p hp
 ·simp only [YtllchnancjgijaaGreat.Ta.setS, List.length_map]; exact h.len
theorem Ti.goOn (h : Ti T M) (k : K) : Ti (goOn T k) (M + 1) := by
 refine ⟨h.ord, h.rng, fun p hp => ⟨(h.gen p hp).1, ?_⟩, h.one, h.live, h.ok, h.len, h.fl, ⟨h.bg.1, by have := h.bg.2; show T.bg ≤ _; omega⟩, fun j => ?_⟩
 ·have := (h.gen p hp).2
  simp only [YtllchnancjgijaaGreat.Ta.goOn]
  split <;> omega
 ·have := h.gn j
  simp only [YtllchnancjgijaaGreat.Ta.goOn]
  split <;> omega
theorem Ti.outR (h : Ti T M) (n : Int) : Ti (outR T n) M := by
 refine ⟨h.ord.filter _, fun p hp => h.rng p (List.mem_filter.1 hp).1, fun p hp => h.gen p (List.mem_filter.1 hp).1, h.one.filter _, fun p hp => h.live p (List.mem_filter.1 hp).1, fun p hp => h.ok p (List.mem_filter.1 hp).1, ?_, h.fl, h.bg, h.gn⟩
 have := h.len
 have h2 := List.length_filter_le (fun p : Rn × St => decide (p.1.run ≠ n)) T.rs
 show (((T.rs.filter _).length : Nat) : Int) ≤ T.fl
 omega
theorem join_live {S : St} (hE : S.ended = false) (x : Int) : (joinS S x).ended = false := by unfold joinS; split <;> exact hE
theorem rel_live {S : St} (hE : S.ended = false) : (relS S).ended = false := by unfold relS; split <;> exact hE
theorem Ti.end_ (h : Ti T M) (n : Int) (o : O) : Ti (tEnd T n o) M := by
 unfold tEnd
 split
 ·exact h
 ·split
  ·exact h.outR _
  ·exact h
theorem tBegE_zero {k : K} {x : Int} {rf : Bool} (h : tBegE T k x rf = 0) : k.2.size ≤ 64 ∧ badC x rf = false ∧ curOf T k = none ∧ ¬ T.fl ≤ T.rs.length := by
 unfold tBegE mayK at h
 split at h
 ·omega
 ·split at h
  ·omega
  ·split at h
   ·omega
   ·split at h
    ·omega
    ·rename_i h1 h2 h3 h4
     exact ⟨by simpa using h1, by simpa using h2, by simpa using h3, h4⟩
theorem begin_may {k : K} {x : Int} {rf : Bool} (h : Ti T M) (hb : badC x rf = false) : mayN (tBegR T k rf) x = true := by
 have h1 := h.bg.1
 have h2 := (h.gn k).1
 unfold mayN tBegR
 unfold badC at hb
 cases rf
 ·simp at hb; simp; omega
 ·simp at hb; simp; omega
theorem Ti.begin_ (h : Ti T M) {k : K} {x : Int} {rf : Bool} (hk : Ok k) (hx : W64 x) : Ti (tBeg T k x rf) (M + 1) := by
 unfold tBeg
 split
 ·rename_i e
  obtain ⟨h1, h2, h3, h4⟩ := tBegE_zero e
  have hb := h.bg
  refine ⟨?_, fun p hp => ?_, fun p hp => ?_, ?_, fun p hp => ?_, fun p hp => ?_, ?_, h.fl, ⟨by simp only; omega, by simp only; omega⟩, fun j => ⟨(h.gn j).1, by have := (h.gn j).2; simp only; omega⟩⟩
  ·refine List.pairwise_append.2 ⟨h.ord, by simp, fun a ha b hb' => ?_⟩
   simp only [List.mem_singleton] at hb'
   subst hb'
   have := (h.rng a ha).2
   simp only [tBegR]
   omega
  ·rcases List.mem_append.1 hp with q | q
   ·have := h.rng p q; simp only; omega
   ·simp only [List.mem_singleton] at q; subst q; simp only [tBegR]; omega
  ·rcases List.mem_append.1 hp with q | q
   ·exact h.gen p q
   ·simp only [List.mem_singleton] at q; subst q; simp only [tBegR, kOf]; exact ⟨(h.gn _).1, Int.le_refl _⟩
  ·refine List.pairwise_append.2 ⟨h.one, by simp, fun a ha b hb' => ?_⟩
   simp only [List.mem_singleton] at hb'
   subst hb'
   simp only [tBegR, kOf]
   intro e2
   exact curOf_none h3 a ha e2
  ·rcases List.mem_append.1 hp with q | q
   ·exact h.live p q
   ·simp only [List.mem_singleton] at q; subst q; exact iv_S0 hx (begin_may h h2)
  ·rcases List.mem_append.1 hp with q | q
   ·exact h.ok p q
   ·simp only [List.mem_singleton] at q; subst q; exact hk
  ·simp only [List.length_append, List.length_singleton]; omega
 ·exact h.mono (Nat.le_succ _)
def Lv (T : Tb) : Prop := ∀ p ∈ T.rs, p.2.ended = false
theorem Lv.setS (h : Lv T) {S : St} (hE : S.ended = false) : Lv (setS T n S) := fun q hq => by
 obtain ⟨p, hp, rfl⟩ := List.mem_map.1 hq
 unfold putS
 split
 ·exact hE
 ·exact h p hp
theorem Lv.outR (h : Lv T) : Lv (outR T n) := fun q hq => h q (List.mem_filter.1 hq).1
theorem Lv.begin_ (h : Lv T) (k : K) (x : Int) (rf : Bool) : Lv (tBeg T k x rf) := by
 unfold tBeg
 split
 ·intro p hp
  rcases List.mem_append.1 hp with q | q
  ·exact h p q
  ·simp only [List.mem_singleton] at q; subst q; rfl
 ·exact h
theorem tv_new {f : Int} (h1 : 1 ≤ f) (h2 : f ≤ 4096) : Ti ⟨f, 0, [], fun _ => 0⟩ 0 :=
 ⟨List.Pairwise.nil, fun p hp => (by cases hp), fun p hp => (by cases hp), List.Pairwise.nil, fun p hp => (by cases hp), fun p hp => (by cases hp), by simp; omega, ⟨h1, h2⟩, ⟨by simp, by simp⟩, fun k => ⟨by simp, by simp⟩⟩
end
end Go.Proofs.YtllchnancjgijaaGreat.Ta
/- A table in memory: its block, its three maps, its records with their blocks; how it stays and how one record's step leaves it. -/
namespace Go.Proofs.YtllchnancjgijaaGreat.Ta
open Go.RowKit Go.Maps Go.ChangeMaps
structure Rb where
 R : Rn
 S : St
 b : Nat
 F : List Nat
def rsOf (Ps : List Rb) : List (Rn × St) := Ps.map (fun q => (q.R, q.S))
def ptr (Ps : List Rb) (n : Int) : Option Value := (Ps.find? (fun q => decide (q.R.run = n))).map (fun q => PT q.b)
def curV (T : Tb) (k : K) : Option Value := (curOf T k).map (fun R => .int .i64 R.run)
def genV (T : Tb) (k : K) : Option Value := if T.gn k = 0 then none else some (.int .i64 (T.gn k))
def tc (T : Tb) (p c : Nat) (g : Option Nat) : Array Value := #[.int .i64 T.fl, .int .i64 T.bg, .map (some p), .map (some c), .map g]
def Gm (w : World) (g : Option Nat) (ng : Nat) (T : Tb) : Prop := (g = none ∧ ∀ k, T.gn k = 0) ∨ ∃ d, g = some d ∧ MapK KC w d ng (genV T)
structure Tm (w : World) (t p c : Nat) (g : Option Nat) (nc ng : Nat) (Ps : List Rb) (T : Tb) (N : Nat) : Prop where
 rs : T.rs = rsOf Ps
 bl : w.heap[t]? = some (.cells (tc T p c g) 204 (0, 0))
 pm : MapK KI w p Ps.length (ptr Ps)
 cm : MapK KC w c nc (curV T)
 gm : Gm w g ng T
 pc : p ≠ c
 gp : g ≠ some p
 gc : g ≠ some c
 lc : nc ≤ N
 lg : ng ≤ N
 recs : ∀ q ∈ Ps, Rq w q.b q.F q.R q.S N
 far : ∀ q ∈ Ps, ∀ d ∈ q.F, d ≠ t ∧ d ≠ p ∧ d ≠ c ∧ g ≠ some d
 apart : Ps.Pairwise (fun q r => ∀ d, d ∈ q.F → ¬ d ∈ r.F)
 iv : Ti T N
def fpT (t p c : Nat) (g : Option Nat) (Ps : List Rb) : List Nat := t :: p :: c :: (g.toList ++ Ps.flatMap (fun q => q.F))
theorem mem_fpT {t p c : Nat} {g : Option Nat} {Ps : List Rb} {k : Nat} : k ∈ fpT t p c g Ps ↔ k = t ∨ k = p ∨ k = c ∨ g = some k ∨ ∃ q ∈ Ps, k ∈ q.F := by
 simp [fpT]
def Tq (w : World) (t : Nat) (F : List Nat) (T : Tb) (N : Nat) : Prop := ∃ p c g nc ng Ps, F = fpT t p c g Ps ∧ Tm w t p c g nc ng Ps T N ∧ Lv T
def TqE (w w' : World) (t : Nat) (F : List Nat) (T : Tb) (N : Nat) : Prop := ∃ F', Tq w' t F' T N ∧ Touch F w w' ∧ Nf w F F'
section
variable {w w' : World} {t p c : Nat} {g : Option Nat} {nc ng : Nat} {Ps : List Rb} {T : Tb} {N M : Nat} {F G : List Nat}
theorem Gm.kind (h : Gm w g ng T) {d : Nat} (hd : g = some d) : ∃ es cl, w.heap[d]? = some (.map es cl) := by
 rcases h with ⟨h, _⟩ | ⟨d', hd', hm⟩
 ·rw [h] at hd; cases hd
 ·rw [hd'] at hd; cases hd; exact hm.kind
theorem Gm.keep (h : Gm w g ng T) (T' : Touch F w w') (hF : ∀ d, g = some d → ¬ d ∈ F) : Gm w' g ng T := by
 rcases h with h | ⟨d, hd, hm⟩
 ·exact Or.inl h
 ·exact Or.inr ⟨d, hd, hm.keep T' (hF d hd)⟩
theorem Tm.lt (h : Tm w t p c g nc ng Ps T N) : ∀ d, d ∈ fpT t p c g Ps → d < w.heap.size := fun d hd => by
 rcases mem_fpT.1 hd with e | e | e | e | ⟨q, hq, e⟩
 ·subst e; exact block_lt h.bl
 ·subst e; exact h.pm.lt
 ·subst e; exact h.cm.lt
 ·obtain ⟨es, cl, hb⟩ := h.gm.kind e; exact block_lt hb
 ·exact (h.recs q hq).lt d e
theorem Tm.keep (h : Tm w t p c g nc ng Ps T N) (T' : Touch G w w') (hG : ∀ d, d ∈ fpT t p c g Ps → ¬ d ∈ G) : Tm w' t p c g nc ng Ps T N :=
 ⟨h.rs, T'.keep h.bl (hG t (mem_fpT.2 (Or.inl rfl))), h.pm.keep T' (hG p (mem_fpT.2 (Or.inr (Or.inl rfl)))), h.cm.keep T' (hG c (mem_fpT.2 (Or.inr (Or.inr (Or.inl rfl))))),
  h.gm.keep T' (fun d hd => hG d (mem_fpT.2 (Or.inr (Or.inr (Or.inr (Or.inl hd)))))), h.pc, h.gp, h.gc, h.lc, h.lg,
  fun q hq => (h.recs q hq).keep T' (fun d hd => hG d (mem_fpT.2 (Or.inr (Or.inr (Or.inr (Or.inr ⟨q, hq, hd⟩)))))), h.far, h.apart, h.iv⟩
theorem Tm.keep0 (h : Tm w t p c g nc ng Ps T N) (T' : Touch [] w w') : Tm w' t p c g nc ng Ps T N := h.keep T' (fun _ _ e => by cases e)
theorem Tm.mono (h : Tm w t p c g nc ng Ps T N) (hN : N ≤ M) : Tm w t p c g nc ng Ps T M :=
 ⟨h.rs, h.bl, h.pm, h.cm, h.gm, h.pc, h.gp, h.gc, Nat.le_trans h.lc hN, Nat.le_trans h.lg hN, fun q hq => (h.recs q hq).mono hN, h.far, h.apart, h.iv.mono hN⟩
theorem Tq.lt (h : Tq w t F T N) : ∀ d, d ∈ F → d < w.heap.size := by
 obtain ⟨p, c, g, nc, ng, Ps, rfl, h, hL⟩ := h
 exact h.lt
theorem Tq.keep (h : Tq w t F T N) (T' : Touch G w w') (hG : ∀ d, d ∈ F → ¬ d ∈ G) : Tq w' t F T N := by
 obtain ⟨p, c, g, nc, ng, Ps, rfl, h, hL⟩ := h
 exact ⟨p, c, g, nc, ng, Ps, rfl, h.keep T' hG, hL⟩
theorem Tq.keep0 (h : Tq w t F T N) (T' : Touch [] w w') : Tq w' t F T N := h.keep T' (fun _ _ e => by cases e)
theorem Tq.mono (h : Tq w t F T N) (hN : N ≤ M) : Tq w t F T M := by
 obtain ⟨p, c, g, nc, ng, Ps, rfl, h, hL⟩ := h
 exact ⟨p, c, g, nc, ng, Ps, rfl, h.mono hN, hL⟩
theorem Tq.iv (h : Tq w t F T N) : Ti T N := by
 obtain ⟨p, c, g, nc, ng, Ps, rfl, h, hL⟩ := h
 exact h.iv
theorem Tq.live (h : Tq w t F T N) : Lv T := by
 obtain ⟨p, c, g, nc, ng, Ps, rfl, h, hL⟩ := h
 exact hL
theorem TqE.same (h : Tq w t F T N) (hN : N ≤ M) : TqE w w t F T M := ⟨F, h.mono hN, Touch.refl _ _, Nf.refl _ _⟩
theorem TqE.touch (h : Tq w t F T N) (T' : Touch [] w w') (hN : N ≤ M) : TqE w w' t F T M := ⟨F, (h.keep0 T').mono hN, T'.mono (fun _ e => by cases e), Nf.refl _ _⟩
theorem TqE.trans {w1 w2 : World} {F1 : List Nat} {T1 T2 : Tb} (t1 : Touch F w w1) (n1 : Nf w F F1) (h2 : TqE w1 w2 t F1 T2 N) : TqE w w2 t F T2 N := by
 obtain ⟨F2, r1, r2, r3⟩ := h2
 exact ⟨F2, r1, t1.trans r2 n1, n1.trans r3 t1.size⟩
theorem TqE.from0 {w1 w2 : World} {T2 : Tb} (t1 : Touch [] w w1) (h2 : TqE w1 w2 t F T2 N) : TqE w w2 t F T2 N := TqE.trans (T1 := T2) (t1.mono (fun _ e => by cases e)) (Nf.refl _ _) h2
theorem TqE.box {W w1 w2 : World} (t0 : Touch [] w W) (h : TqE W w1 t F T N) (hF : ∀ d, d ∈ F → d < w.heap.size) {b : Nat} (hb : w.heap.size ≤ b) (hb2 : b < W.heap.size) (T2 : Touch [b] w1 w2) : TqE w w2 t F T N := by
 obtain ⟨F1, q1, q2, q3⟩ := h
 have hn : ∀ d, d ∈ F1 → ¬ d ∈ [b] := fun d hd e => by
  simp only [List.mem_singleton] at e
  rcases q3 d hd with e' | e'
  ·have := hF d e'; omega
  ·omega
 have hz := t0.size
 refine ⟨F1, q1.keep T2 hn, ((t0.mono (fun _ e => by cases e)).trans q2 (fun i hi => Or.inl hi)).trans T2 (fun i hi => ?_), fun d hd => ?_⟩
 ·simp only [List.mem_singleton] at hi; exact Or.inr (by omega)
 ·rcases q3 d hd with e' | e'
  ·exact Or.inl e'
  ·exact Or.inr (by omega)
theorem ptr_none {Ps : List Rb} {n : Int} (h : ∀ q ∈ Ps, q.R.run ≠ n) : ptr Ps n = none := by
 unfold ptr
 rw [List.find?_eq_none.2 (fun q hq => by simp [h q hq])]
 rfl
theorem ptr_mid {A B : List Rb} {q : Rb} (hA : ∀ a ∈ A, a.R.run ≠ q.R.run) : ptr (A ++ q :: B) q.R.run = some (PT q.b) := by
 unfold ptr
 rw [List.find?_append, List.find?_eq_none.2 (fun a ha => by simp [hA a ha])]
 simp
theorem ptr_congr {A B : List Rb} {q q' : Rb} (e1 : q'.R = q.R) (e2 : q'.b = q.b) (n : Int) : ptr (A ++ q' :: B) n = ptr (A ++ q :: B) n := by
 unfold ptr
 rw [List.find?_append, List.find?_append, List.find?_cons, List.find?_cons, e1]
 cases List.find? (fun q => decide (q.R.run = n)) A with
 | some a => rfl
 | none => cases decide (q.R.run = n) <;> simp [e2]
theorem Tm.notIn (h : Tm w t p c g nc ng Ps T N) {n : Int} (hr : runOf T n = none) : ptr Ps n = none :=
 ptr_none (fun q hq => runOf_none hr (q.R, q.S) (by rw [h.rs]; exact List.mem_map.2 ⟨q, hq, rfl⟩))
theorem Tm.found (h : Tm w t p c g nc ng Ps T N) {n : Int} {r : Rn × St} (hr : runOf T n = some r) : ∃ A q B, Ps = A ++ q :: B ∧ r = (q.R, q.S) ∧ q.R.run = n ∧ ∀ a ∈ A, a.R.run ≠ q.R.run := by
 unfold runOf at hr
 rw [h.rs] at hr
 clear h
 induction Ps with
 | nil => simp [rsOf] at hr
 | cons x r' ih =>
  simp only [rsOf, List.map_cons, List.find?_cons] at hr
  cases hx : decide (x.R.run = n) with
  | true =>
   rw [hx] at hr
   simp only [Option.some.injEq] at hr
   exact ⟨[], x, r', rfl, hr.symm, of_decide_eq_true hx, fun a ha => by cases ha⟩
  | false =>
   rw [hx] at hr
   obtain ⟨A, q, B, e1, e2, e3, e4⟩ := ih hr
   refine ⟨x :: A, q, B, by rw [e1]; rfl, e2, e3, fun a ha => ?_⟩
   rcases List.mem_cons.1 ha with e | e
   ·subst e; rw [e3]; exact of_decide_eq_false hx
   ·exact e4 a e
theorem Tm.after {A B : List Rb} {q : Rb} (h : Tm w t p c g nc ng (A ++ q :: B) T N) : (∀ a ∈ A, a.R.run ≠ q.R.run) ∧ ∀ b ∈ B, b.R.run ≠ q.R.run := by
 have ho := h.iv.ord
 rw [h.rs, rsOf, List.pairwise_map] at ho
 obtain ⟨h1, h2, h3⟩ := List.pairwise_append.1 ho
 refine ⟨fun a ha => ?_, fun b hb => ?_⟩
 ·have := h3 a ha q (by simp); simp only at this; omega
 ·have := (List.pairwise_cons.1 h2).1 b hb; simp only at this; omega
theorem rs_set {A B : List Rb} {q : Rb} {S : St} {f : List Nat} (hA : ∀ a ∈ A, a.R.run ≠ q.R.run) (hB : ∀ b ∈ B, b.R.run ≠ q.R.run) : (rsOf (A ++ q :: B)).map (putS q.R.run S) = rsOf (A ++ ⟨q.R, S, q.b, f⟩ :: B) := by
 have h1 : ∀ L : List Rb, (∀ a ∈ L, a.R.run ≠ q.R.run) → (rsOf L).map (putS q.R.run S) = rsOf L := fun L hL => by
  unfold rsOf
  rw [List.map_map]
  exact List.map_congr_left (fun a ha => by simp [putS, hL a ha])
 have e1 : rsOf (A ++ q :: B) = rsOf A ++ (q.R, q.S) :: rsOf B := by simp [rsOf]
 have e2 : rsOf (A ++ ⟨q.R, S, q.b, f⟩ :: B) = rsOf A ++ (q.R, S) :: rsOf B := by simp [rsOf]
 rw [e1, e2, List.map_append, List.map_cons, h1 A hA, h1 B hB]
 simp [putS]
theorem Tm.step {A B : List Rb} {q : Rb} {S : St} (h : Tm w t p c g nc ng (A ++ q :: B) T N) (E : RqE w w' q.b q.F q.R S M) (hN : N ≤ M) :
  ∃ f, Tm w' t p c g nc ng (A ++ ⟨q.R, S, q.b, f⟩ :: B) (setS T q.R.run S) M ∧ Touch q.F w w' ∧ Nf w q.F f := by
 obtain ⟨f, r1, r2, r3⟩ := E
 obtain ⟨hA, hB⟩ := h.after
 have hq : q ∈ A ++ q :: B := by simp
 have hf := h.far q hq
 obtain ⟨ap1, ap2, ap3⟩ := List.pairwise_append.1 h.apart
 obtain ⟨ap4, ap5⟩ := List.pairwise_cons.1 ap2
 have hoth : ∀ x, x ∈ A ∨ x ∈ B → ∀ d, d ∈ x.F → ¬ d ∈ q.F := fun x hx d hd he => by
  rcases hx with e | e
  ·exact ap3 x e q (by simp) d hd he
  ·exact ap4 x e d he hd
 have hin : ∀ x, x ∈ A ∨ x ∈ B → x ∈ A ++ q :: B := fun x hx => by rcases hx with e | e <;> simp [e]
 have hnew : ∀ x, x ∈ A ∨ x ∈ B → ∀ d, d ∈ x.F → ¬ d ∈ f := fun x hx d hd he => by
  rcases r3 d he with e | e
  ·exact hoth x hx d hd e
  ·have := (h.recs x (hin x hx)).lt d hd; omega
 have hms : ∀ x, x ∈ A ++ (⟨q.R, S, q.b, f⟩ : Rb) :: B → x = ⟨q.R, S, q.b, f⟩ ∨ x ∈ A ∨ x ∈ B := fun x hx => by
  rcases List.mem_append.1 hx with e | e
  ·exact Or.inr (Or.inl e)
  ·rcases List.mem_cons.1 e with e | e
   ·exact Or.inl e
   ·exact Or.inr (Or.inr e)
 refine ⟨f, ⟨?_, ?_, ?_, ?_, ?_, h.pc, h.gp, h.gc, Nat.le_trans h.lc hN, Nat.le_trans h.lg hN, fun x hx => ?_, fun x hx d hd => ?_, ?_, (h.iv.setS r1.iv).mono hN⟩, r2, r3⟩
 ·simp only [setS, h.rs]; exact rs_set hA hB
 ·exact r2.keep h.bl (fun e => (hf t e).1 rfl)
 ·have := h.pm.keep r2 (fun e => (hf p e).2.1 rfl)
  have e : (A ++ (⟨q.R, S, q.b, f⟩ : Rb) :: B).length = (A ++ q :: B).length := by simp
  rw [e]
  exact this.congr (fun n _ => (ptr_congr (q := q) (q' := ⟨q.R, S, q.b, f⟩) rfl rfl n).symm)
 ·refine (h.cm.keep r2 (fun e => (hf c e).2.2.1 rfl)).congr (fun k _ => ?_)
  unfold curV
  rw [curOf_setS]
 ·exact h.gm.keep r2 (fun d hd e => (hf d e).2.2.2 hd)
 ·rcases hms x hx with e | e
  ·subst e; exact r1
  ·exact ((h.recs x (hin x e)).keep r2 (hoth x e)).mono hN
 ·rcases hms x hx with e | e
  ·subst e
   rcases r3 d hd with e' | e'
   ·exact hf d e'
   ·have l1 := h.lt t (mem_fpT.2 (Or.inl rfl))
    have l2 := h.pm.lt
    have l3 := h.cm.lt
    refine ⟨by omega, by omega, by omega, fun e2 => ?_⟩
    have := h.lt d (mem_fpT.2 (Or.inr (Or.inr (Or.inr (Or.inl e2)))))
    omega
  ·exact h.far x (hin x e) d hd
 ·refine List.pairwise_append.2 ⟨ap1, List.pairwise_cons.2 ⟨fun b hb d hd he => hnew b (Or.inr hb) d he hd, ap5⟩, fun a ha b hb d hd he => ?_⟩
  rcases List.mem_cons.1 hb with e | e
  ·subst e; exact hnew a (Or.inl ha) d hd he
  ·exact ap3 a ha b (by simp [e]) d hd he
theorem fp_step {A B : List Rb} {q : Rb} {S : St} {f : List Nat} (hn : Nf w q.F f) : Nf w (fpT t p c g (A ++ q :: B)) (fpT t p c g (A ++ ⟨q.R, S, q.b, f⟩ :: B)) := fun d hd => by
 rcases mem_fpT.1 hd with e | e | e | e | ⟨x, hx, e⟩
 ·exact Or.inl (mem_fpT.2 (Or.inl e))
 ·exact Or.inl (mem_fpT.2 (Or.inr (Or.inl e)))
 ·exact Or.inl (mem_fpT.2 (Or.inr (Or.inr (Or.inl e))))
 ·exact Or.inl (mem_fpT.2 (Or.inr (Or.inr (Or.inr (Or.inl e)))))
 ·rcases List.mem_append.1 hx with e1 | e1
  ·exact Or.inl (mem_fpT.2 (Or.inr (Or.inr (Or.inr (Or.inr ⟨x, by simp [e1], e⟩)))))
  ·rcases List.mem_cons.1 e1 with e2 | e2
   ·subst e2
    rcases hn d e with e3 | e3
    ·exact Or.inl (mem_fpT.2 (Or.inr (Or.inr (Or.inr (Or.inr ⟨q, by simp, e3⟩)))))
    ·exact Or.inr e3
   ·exact Or.inl (mem_fpT.2 (Or.inr (Or.inr (Or.inr (Or.inr ⟨x, by simp [e2], e⟩)))))
theorem fp_rec {A B : List Rb} {q : Rb} : ∀ d, d ∈ q.F → d ∈ fpT t p c g (A ++ q :: B) := fun d hd => mem_fpT.2 (Or.inr (Or.inr (Or.inr (Or.inr ⟨q, by simp, hd⟩))))
theorem Tm.stepE {A B : List Rb} {q : Rb} {S : St} (h : Tm w t p c g nc ng (A ++ q :: B) T N) (E : RqE w w' q.b q.F q.R S M) (hN : N ≤ M) (hL : Lv T) (hE : S.ended = false) : TqE w w' t (fpT t p c g (A ++ q :: B)) (setS T q.R.run S) M := by
 obtain ⟨f, h1, h2, h3⟩ := h.step E hN
 exact ⟨_, ⟨_, _, _, _, _, _, rfl, h1, hL.setS hE⟩, h2.mono fp_rec, fp_step h3⟩
structure Tcs (w : World) (t p c : Nat) (g : Option Nat) (T : Tb) : Prop where
 c0 : w.cell? ⟨t, 0, none⟩ = some (.int .i64 T.fl)
 c1 : w.cell? ⟨t, 1, none⟩ = some (.int .i64 T.bg)
 c2 : w.cell? ⟨t, 2, none⟩ = some (.map (some p))
 c3 : w.cell? ⟨t, 3, none⟩ = some (.map (some c))
 c4 : w.cell? ⟨t, 4, none⟩ = some (.map g)
theorem Tm.cs (h : Tm w t p c g nc ng Ps T N) : Tcs w t p c g T := ⟨cell_at h.bl rfl, cell_at h.bl rfl, cell_at h.bl rfl, cell_at h.bl rfl, cell_at h.bl rfl⟩
theorem Tm.fz (h : Tm w t p c g nc ng Ps T N) (j : Nat) : w.frozen? ⟨t, j, none⟩ = false := froz_at h.bl j
theorem zeroP (w : World) : (zeroValue 206).run Tryz.prog w = .ok (.pointer none) w := by kernel_rfl
theorem Tm.lookP (h : Tm w t p c g nc ng Ps T N) {n : Int} (hn : W64 n) : (Instr.lookup 201 (.map (some p)) (.int .i64 n) false).run Tryz.prog w = .ok ((ptr Ps n).getD (.pointer none)) w :=
 h.pm.look (t := 201) Tryz.underlying201 (zeroP w) hn
theorem Tm.lookC (h : Tm w t p c g nc ng Ps T N) {k : K} (hk : Ok k) : (Instr.lookup 202 (.map (some c)) (kv k) false).run Tryz.prog w = .ok (.int .i64 (((curOf T k).map Rn.run).getD 0)) w := by
 have := h.cm.look (t := 202) Tryz.underlying202 (zero3 w) hk
 rw [show (KC : KK Tryz.prog 35 K).kv k = kv k from rfl] at this
 rw [this]
 unfold curV
 cases curOf T k <;> rfl
theorem Tm.lookCok (h : Tm w t p c g nc ng Ps T N) {k : K} (hk : Ok k) : (Instr.lookup 202 (.map (some c)) (kv k) true).run Tryz.prog w = .ok (.tuple #[.int .i64 (((curOf T k).map Rn.run).getD 0), .bool (curOf T k).isSome]) w := by
 have := h.cm.lookOk (t := 202) Tryz.underlying202 (zero3 w) hk
 rw [show (KC : KK Tryz.prog 35 K).kv k = kv k from rfl] at this
 rw [this]
 unfold curV
 cases curOf T k <;> rfl
theorem Tm.lookG (h : Tm w t p c g nc ng Ps T N) {k : K} (hk : Ok k) : (Instr.lookup 202 (.map g) (kv k) false).run Tryz.prog w = .ok (.int .i64 (T.gn k)) w := by
 rcases h.gm with ⟨e, h0⟩ | ⟨d, e, hm⟩
 ·rw [e, h0 k]
  exact look_nil KC (t := 202) Tryz.underlying202 (zero3 w) hk
 ·have := hm.look (t := 202) Tryz.underlying202 (zero3 w) hk
  rw [show (KC : KK Tryz.prog 35 K).kv k = kv k from rfl] at this
  rw [e, this]
  unfold genV
  split
  ·rename_i e0; rw [e0]; rfl
  ·rfl
theorem Tm.lenP (h : Tm w t p c g nc ng Ps T N) (ty : TypeId) : (Builtin.len_ #[201] ty #[.map (some p)]).run Tryz.prog w = .ok (.int .i64 (T.rs.length : Nat)) w := by
 rw [h.pm.len (t := 201) Tryz.underlying201 ty, h.rs]
 simp [rsOf]
end
end Go.Proofs.YtllchnancjgijaaGreat.Ta
