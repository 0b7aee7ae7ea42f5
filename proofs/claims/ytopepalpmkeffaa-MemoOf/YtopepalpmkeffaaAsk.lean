/- The contract of Look; a key's space is a number of 16 bits, a name's length fits. -/
import Derived.Test.YtopepalpmkeffaaGet
namespace Go.Proofs.Ytopepalpmkeffaa
open Go.RowKit Go.Sort Go.Maps Go.ChangeMaps Go.WideMaps
set_option linter.unusedVariables false
set_option linter.unusedSimpArgs false
theorem tickE_ok {now n : Int} (h : tickE now n = 0) : now ≤ n ∧ n ≤ MT := by
  unfold tickE isT at h
  unfold MT
  split at h
  · rename_i h1
    simp only [Bool.and_eq_true, decide_eq_true_eq] at h1
    split at h <;> omega
  · omega
theorem Mb.time {w : World} {m b o : Nat} {G : List Nat} {c : Cf} {now n : Int} {xs : List En} (h : Mb w m b o G c now xs) (h1 : now ≤ n) (h2 : n ≤ MT) : Mb (w.setCell ⟨m, 7, none⟩ (.int .i64 n)) m b o G c n xs := by
  have t : Touch [m] w (w.setCell ⟨m, 7, none⟩ (.int .i64 n)) := (Touch.refl _ _).setCell (Or.inl (by simp)) _
  refine ⟨h.md.set7 n, h.mp.kept (t.block b h.mp.lt (by simpa using h.mb)), h.oq.keep t (fun k hk hh => ?_), h.gd.later h1 h2, h.bg⟩
  simp only [List.mem_singleton] at hh
  subst hh
  exact h.mg hk
theorem Mq.time {w : World} {m : Nat} {F : List Nat} {c : Cf} {now n : Int} {xs : List En} (h : Mq w m F c now xs) (h1 : now ≤ n) (h2 : n ≤ MT) : Mc w m F c n xs (w.setCell ⟨m, 7, none⟩ (.int .i64 n)) := by
  obtain ⟨b, o, G, rfl, h⟩ := h
  exact ⟨_, ⟨b, o, G, rfl, h.time h1 h2⟩, (Touch.refl _ _).setCell (Or.inl (by simp)) _, Nf.refl _ _⟩
theorem Mq.mem {w : World} {m : Nat} {F : List Nat} {c : Cf} {now : Int} {xs : List En} (h : Mq w m F c now xs) : m ∈ F := by
  obtain ⟨b, o, G, rfl, h⟩ := h
  simp
theorem Mq.tick {w : World} {m : Nat} {F : List Nat} {c : Cf} {now : Int} {xs : List En} (h : Mq w m F c now xs) (n : Int) : Calls Try.prog 45 #[PT m, .int .i64 n] w fun e w' => e = .returned (.int .i64 (tickE now n)) ∧ w' = w := by
  obtain ⟨b, o, G, rfl, h⟩ := h
  exact tick45 w m c now n b o h.md
theorem Mq.c7 {w : World} {m : Nat} {F : List Nat} {c : Cf} {now : Int} {xs : List En} (h : Mq w m F c now xs) : w.cell? ⟨m, 7, none⟩ = some (.int .i64 now) ∧ w.frozen? ⟨m, 7, none⟩ = false := by
  obtain ⟨b, o, G, rfl, h⟩ := h
  exact ⟨h.md.cs.c7, h.md.cs.f7⟩
def askE (now n : Int) (k : K) : Int := if tickE now n = 0 then (if 64 < k.2.size then 20 else 0) else tickE now n
def zbx : Obj := .cells #[.int .i64 0, .int .i64 0, .int .i64 0, .int .i64 0, .int .i64 0, .int .i64 0] 75
structure Z6 (w : World) (r : Nat) : Prop where
  z0 : w.cell? ⟨r, 0, none⟩ = some (.int .i64 0)
  z1 : w.cell? ⟨r, 1, none⟩ = some (.int .i64 0)
  z2 : w.cell? ⟨r, 2, none⟩ = some (.int .i64 0)
  z3 : w.cell? ⟨r, 3, none⟩ = some (.int .i64 0)
  z4 : w.cell? ⟨r, 4, none⟩ = some (.int .i64 0)
  z5 : w.cell? ⟨r, 5, none⟩ = some (.int .i64 0)
  f0 : w.frozen? ⟨r, 0, none⟩ = false
  f1 : w.frozen? ⟨r, 1, none⟩ = false
  f2 : w.frozen? ⟨r, 2, none⟩ = false
  f3 : w.frozen? ⟨r, 3, none⟩ = false
  f4 : w.frozen? ⟨r, 4, none⟩ = false
  f5 : w.frozen? ⟨r, 5, none⟩ = false
theorem Z6.mk' {w : World} {r : Nat} (h : w.heap[r]? = some zbx) : Z6 w r := by
  unfold zbx at h
  constructor <;> simp [World.cell?, World.frozen?, h]
section
variable {w : World} {m : Nat} {F : List Nat} {c : Cf} {now : Int} {xs : List En}
theorem look21_tick (w : World) (m : Nat) (F : List Nat) (c : Cf) (now n : Int) (xs : List En) (h : Mq w m F c now xs) (k : K) (ht : tickE now n ≠ 0) :
    Calls Try.prog 21 #[PT m, .int .i64 n, kv k] w fun e w' => e = .returned (.tuple #[lv (0, 0, oz), .int .i64 (tickE now n)]) ∧ Touch [] w w' := by
  obtain ⟨V, hV⟩ : ∃ V, V = (w.alloc (bx k)).alloc zbx := ⟨_, rfl⟩
  have TV : Hid (Touch [] w V) := by rw [hV]; exact ((Touch.refl _ _).alloc _).alloc _
  have hZ : V.heap[w.heap.size + 1]? = some zbx := by
    rw [hV]
    have := heap_alloc_new (w.alloc (bx k)) zbx
    rwa [World.size_alloc] at this
  obtain ⟨z0, z1, z2, z3, z4, z5, f0, f1, f2, f3, f4, f5⟩ := Z6.mk' hZ
  have HT := hid ((h.keep0 TV.out).tick n)
  clear h hZ
  have hb : ((tickE now n) == 0) = false := by simp [ht]
  clear ht
  generalize tickE now n = E at *
  unfold PT kv lv sv oz at *
  go_enter Try.func21, Try.ntmps21
  go_upto_region 1 with fail
  unfold bx zbx at hV
  rw [← hV]
  clear hV
  go_wp2_with (go_at_call 45; refine HT.out.mono ?_; rintro e w2 ⟨rfl, e2⟩; rw [e2]; clear e2 w2)
  refine bodyPost_ret (v := .tuple #[.agg #[.int .i64 0, .int .i64 0, .int .i64 0, .int .i64 0, .int .i64 0, .int .i64 0], .int .i64 E]) (by simp [results, Try.results21, go_sem, z0, z1, z2, z3, z4, z5]) rfl ⟨rfl, ?_⟩
  refine TV.out.trans (G := [w.heap.size + 1]) ?_ (fun i hi => by simp only [List.mem_singleton] at hi; subst hi; exact Or.inr (Nat.le_succ _))
  exact tset6 _ _ _ _ _ _ _ _
theorem look21_key (w : World) (m : Nat) (F : List Nat) (c : Cf) (now n : Int) (xs : List En) (h : Mq w m F c now xs) (k : K) (ht : tickE now n = 0) (hk : 64 < k.2.size) :
    Calls Try.prog 21 #[PT m, .int .i64 n, kv k] w fun e w' => e = .returned (.tuple #[lv (0, 0, oz), .int .i64 20]) ∧ Touch [] w w' := by
  obtain ⟨V, hV⟩ : ∃ V, V = (w.alloc (bx k)).alloc zbx := ⟨_, rfl⟩
  have TV : Hid (Touch [] w V) := by rw [hV]; exact ((Touch.refl _ _).alloc _).alloc _
  have hB : V.heap[w.heap.size]? = some (bx k) := by rw [hV]; exact (Below.heap_alloc _ _ _ (by simp)).trans (heap_alloc_new w _)
  have hZ : V.heap[w.heap.size + 1]? = some zbx := by
    rw [hV]
    have := heap_alloc_new (w.alloc (bx k)) zbx
    rwa [World.size_alloc] at this
  have HZ : Hid (∀ w2, Touch [] V w2 → Z6 w2 (w.heap.size + 1)) := fun w2 t => Z6.mk' (t.keep hZ (by simp))
  unfold bx at hB
  have b0 : V.cell? ⟨w.heap.size, 0, none⟩ = some (.int .u16 k.1) := by simp [World.cell?, hB]
  have b1 : V.cell? ⟨w.heap.size, 1, none⟩ = some (.string k.2) := by simp [World.cell?, hB]
  have HT := hid ((h.keep0 TV.out).tick n)
  rw [ht] at HT
  have HC := hid (check29_no V k hk)
  clear h hZ hB ht hk
  unfold PT kv lv sv oz at *
  go_enter Try.func21, Try.ntmps21
  go_upto_region 1 with fail
  unfold bx zbx at hV
  rw [← hV]
  clear hV
  go_wp2_with (first
    | (go_at_call 45; refine HT.out.mono ?_; rintro e w2 ⟨rfl, e2⟩; rw [e2]; clear e2 w2)
    | (go_at_call 49; refine HC.out.mono ?_; rintro e w3 ⟨rfl, t3⟩; have T3 := hid t3; obtain ⟨z0, z1, z2, z3, z4, z5, f0, f1, f2, f3, f4, f5⟩ := HZ.out _ t3; clear t3))
  refine bodyPost_ret (v := .tuple #[.agg #[.int .i64 0, .int .i64 0, .int .i64 0, .int .i64 0, .int .i64 0, .int .i64 0], .int .i64 20]) (by simp [results, Try.results21, go_sem, z0, z1, z2, z3, z4, z5]) rfl ⟨rfl, ?_⟩
  refine (TV.out.trans' T3.out).trans (G := [w.heap.size + 1]) ?_ (fun i hi => by simp only [List.mem_singleton] at hi; subst hi; exact Or.inr (Nat.le_succ _))
  exact tset6 _ _ _ _ _ _ _ _
set_option maxHeartbeats 1000000 in
theorem look21_ok (w : World) (m : Nat) (F : List Nat) (c : Cf) (now n : Int) (xs : List En) (h : Mq w m F c now xs) (k : K) (ok : Ok k) (ht : tickE now n = 0) (hk : k.2.size ≤ 64) :
    Calls Try.prog 21 #[PT m, .int .i64 n, kv k] w fun e w' => e = .returned (.tuple #[lv (lookS c n xs k), .int .i64 0]) ∧ Mc w m F c n xs w' := by
  obtain ⟨V, hV⟩ : ∃ V, V = (w.alloc (bx k)).alloc zbx := ⟨_, rfl⟩
  have TV : Hid (Touch [] w V) := by rw [hV]; exact ((Touch.refl _ _).alloc _).alloc _
  have hB : V.heap[w.heap.size]? = some (bx k) := by rw [hV]; exact (Below.heap_alloc _ _ _ (by simp)).trans (heap_alloc_new w _)
  have hZ : V.heap[w.heap.size + 1]? = some zbx := by
    rw [hV]
    have := heap_alloc_new (w.alloc (bx k)) zbx
    rwa [World.size_alloc] at this
  have hF := h.lt
  obtain ⟨q1, q2⟩ := tickE_ok ht
  have HK : Hid (∀ w2, Touch [] V w2 → (w2.cell? ⟨w.heap.size, 0, none⟩ = some (.int .u16 k.1) ∧ w2.cell? ⟨w.heap.size, 1, none⟩ = some (.string k.2)) ∧ w2.cell? ⟨m, 7, none⟩ = some (.int .i64 now) ∧ w2.frozen? ⟨m, 7, none⟩ = false) := fun w2 t => by
    have := t.keep hB (by simp)
    unfold bx at this
    exact ⟨by simp [World.cell?, this], (h.keep0 (TV.out.trans' t)).c7⟩
  have hm : m < w.heap.size := hF m h.mem
  have hne : w.heap.size ≠ m := by omega
  have HS : Hid (∀ w2, Touch [] V w2 → Calls Try.prog 50 #[PT m, kv k] (w2.setCell ⟨m, 7, none⟩ (.int .i64 n)) fun e w' => e = .returned (lv (lookS c n xs k)) ∧ Z6 w' (w.heap.size + 1) ∧ ∀ w5, Touch [w.heap.size + 1] w' w5 → Mc w m F c n xs w5) := fun w2 t => by
    have C := (h.keep0 (TV.out.trans' t)).time q1 q2
    obtain ⟨F', C1, C2, C3⟩ := C
    refine (seeM _ m F' c n xs C1 k ok).mono ?_
    rintro e w4 ⟨rfl, t4⟩
    have tm : Touch [m] w2 (w2.setCell ⟨m, 7, none⟩ (.int .i64 n)) := (Touch.refl _ _).setCell (Or.inl (by simp)) _
    refine ⟨rfl, Z6.mk' (t4.keep (tm.keep (t.keep hZ (by simp)) (by simp; omega)) (by simp)), fun w5 t5 => ?_⟩
    exact (Mc.keep0 (⟨F', C1, C2, C3⟩ : Mc w2 m F c n xs _) t4).own t5 (TV.out.trans' t) (Nat.le_succ _) (by have := block_lt (t.keep hZ (by simp)); omega) hF
  have HT := hid ((h.keep0 TV.out).tick n)
  rw [ht] at HT
  have HC := hid (check29_ok V k hk)
  obtain ⟨⟨b0, b1⟩, g0, g1⟩ := HK.out V (Touch.refl _ _)
  clear h hZ hB ht hk hF q1 q2
  obtain ⟨s, hs⟩ : ∃ s, s = lookS c n xs k := ⟨_, rfl⟩
  rw [← hs] at HS ⊢
  clear hs
  obtain ⟨sh, sa, so⟩ := s
  unfold PT kv lv sv at *
  simp only at HS ⊢
  go_enter Try.func21, Try.ntmps21
  go_upto_region 1 with fail
  unfold bx zbx at hV
  rw [← hV]
  clear hV
  go_wp2_with (first
    | (go_at_call 45; refine HT.out.mono ?_; rintro e w2 ⟨rfl, e2⟩; rw [e2]; clear e2 w2)
    | (go_at_call 49; refine HC.out.mono ?_; rintro e w3 ⟨rfl, t3⟩; have T3 := hid t3; clear b0 b1 g0 g1; obtain ⟨⟨b0, b1⟩, g0, g1⟩ := HK.out _ t3; clear t3)
    | (go_at_call 50; refine (HS.out _ T3.out).mono ?_; rintro e w4 ⟨rfl, hz, hc⟩; obtain ⟨z0, z1, z2, z3, z4, z5, f0, f1, f2, f3, f4, f5⟩ := hz; have HC4 := hid hc; clear hc))
  refine bodyPost_ret (v := .tuple #[.agg #[.int .i64 sh, .int .i64 sa, .int .i64 so.1, .int .i64 so.2.1, .int .i64 so.2.2.1, .int .i64 so.2.2.2], .int .i64 0]) (by simp [results, Try.results21, go_sem, z0, z1, z2, z3, z4, z5]) rfl ⟨rfl, ?_⟩
  exact HC4.out _ (tset6 _ _ _ _ _ _ _ _)
end
/-- What Look answers, and the memo's time behind it. -/
def askR (c : Cf) (now n : Int) (xs : List En) (k : K) : Int × Int × O := if askE now n k = 0 then lookS c n xs k else (0, 0, oz)
def askN (now n : Int) (k : K) : Int := if askE now n k = 0 then n else now
theorem lookM (w : World) (m : Nat) (F : List Nat) (c : Cf) (now n : Int) (xs : List En) (h : Mq w m F c now xs) (k : K) (ok : Ok k) :
    Calls Try.prog 21 #[PT m, .int .i64 n, kv k] w fun e w' => e = .returned (.tuple #[lv (askR c now n xs k), .int .i64 (askE now n k)]) ∧ Mc w m F c (askN now n k) xs w' := by
  by_cases ht : tickE now n = 0
  · by_cases hk : 64 < k.2.size
    · have e : askE now n k = 20 := by unfold askE; rw [if_pos ht, if_pos hk]
      unfold askR askN
      rw [e, if_neg (by decide), if_neg (by decide)]
      exact (look21_key w m F c now n xs h k ht hk).mono fun e w' ⟨he, t⟩ => ⟨he, (Mc.refl h).keep0 t⟩
    · have e : askE now n k = 0 := by unfold askE; rw [if_pos ht, if_neg hk]
      unfold askR askN
      rw [e, if_pos rfl, if_pos rfl]
      exact look21_ok w m F c now n xs h k ok ht (by omega)
  · have e : askE now n k = tickE now n := by unfold askE; rw [if_neg ht]
    unfold askR askN
    rw [e, if_neg ht, if_neg ht]
    exact (look21_tick w m F c now n xs h k ht).mono fun e w' ⟨he, t⟩ => ⟨he, (Mc.refl h).keep0 t⟩
end Go.Proofs.Ytopepalpmkeffaa
