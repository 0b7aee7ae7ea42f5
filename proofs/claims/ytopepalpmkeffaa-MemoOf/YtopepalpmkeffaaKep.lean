/- The contract of Keep; a key's space is a number of 16 bits, a name's length fits. -/
import Derived.Test.YtopepalpmkeffaaPuw
namespace Go.Proofs.Ytopepalpmkeffaa
open Go.RowKit Go.Sort Go.Maps Go.ChangeMaps Go.WideMaps
set_option linter.unusedVariables false
set_option linter.unusedSimpArgs false
def obx (x : O) : Obj := .cells #[.int .i64 x.1, .int .i64 x.2.1, .int .i64 x.2.2.1, .int .i64 x.2.2.2] 43
theorem pairE_ok {k : K} {x : O} (h : pairE k x = 0) : k.2.size ≤ 64 ∧ right x = true := by
  unfold pairE at h
  split at h
  · omega
  · split at h
    · exact ⟨by omega, by assumption⟩
    · omega
def keepE (now n : Int) (k : K) (x : O) : Int := if tickE now n = 0 then pairE k x else tickE now n
def kpB (c : Cf) (now n : Int) (k : K) (x : O) : Bool := decide (keepE now n k x = 0) && keepsC c x
def kpG (c : Cf) (now n : Int) (xs : List En) (k : K) (x : O) : List K := if kpB c now n k x then goneL c.e xs k else []
def kpN (now n : Int) (k : K) (x : O) : Int := if keepE now n k x = 0 then n else now
def kpX (c : Cf) (now n : Int) (xs : List En) (k : K) (x : O) : List En := if kpB c now n k x then putL c.e xs k (x, n) else xs
structure KpV (w : World) (k : K) (x : O) (V : World) : Prop where
  t : Touch [] w V
  hB : V.heap[w.heap.size]? = some (bx k)
  hO : V.heap[w.heap.size + 1]? = some (obx x)
theorem KpV.mk' (w : World) (k : K) (x : O) : KpV w k x ((w.alloc (bx k)).alloc (obx x)) :=
  ⟨((Touch.refl _ _).alloc _).alloc _, (Below.heap_alloc _ _ _ (by simp)).trans (heap_alloc_new w _), by
    have := heap_alloc_new (w.alloc (bx k)) (obx x)
    rwa [World.size_alloc] at this⟩
theorem KpV.cells {w V w2 : World} {k : K} {x : O} {F : List Nat} (h : KpV w k x V) (t : Touch F V w2) (hF : ∀ i ∈ F, i < w.heap.size) : (w2.cell? ⟨w.heap.size, 0, none⟩ = some (.int .u16 k.1) ∧ w2.cell? ⟨w.heap.size, 1, none⟩ = some (.string k.2)) ∧ w2.cell? ⟨w.heap.size + 1, 0, none⟩ = some (.int .i64 x.1) ∧ w2.cell? ⟨w.heap.size + 1, 1, none⟩ = some (.int .i64 x.2.1) ∧ w2.cell? ⟨w.heap.size + 1, 2, none⟩ = some (.int .i64 x.2.2.1) ∧ w2.cell? ⟨w.heap.size + 1, 3, none⟩ = some (.int .i64 x.2.2.2) := by
  have h1 := t.keep h.hB (fun hh => by have := hF _ hh; omega)
  have h2 := t.keep h.hO (fun hh => by have := hF _ hh; omega)
  unfold bx at h1
  unfold obx at h2
  simp [World.cell?, h1, h2]
theorem keep18_tick (w : World) (m : Nat) (F : List Nat) (c : Cf) (now n : Int) (xs : List En) (h : Mq w m F c now xs) (k : K) (x : O) (ht : tickE now n ≠ 0) :
    Calls Try.prog 18 #[PT m, .int .i64 n, kv k, ov x] w fun e w' => e = .returned (.tuple #[.bool false, .slice none 0 0, .int .i64 (tickE now n)]) ∧ Touch [] w w' := by
  obtain ⟨V, hV⟩ : ∃ V, V = (w.alloc (bx k)).alloc (obx x) := ⟨_, rfl⟩
  have TV : Hid (Touch [] w V) := by rw [hV]; exact (KpV.mk' w k x).t
  have HT := hid ((h.keep0 TV.out).tick n)
  clear h
  have hb : ((tickE now n) == 0) = false := by simp [ht]
  clear ht
  generalize tickE now n = E at *
  unfold PT kv ov at *
  go_enter Try.func18, Try.ntmps18
  go_upto_region 1 with fail
  unfold bx obx at hV
  rw [← hV]
  clear hV
  go_wp2_with (go_at_call 45; refine HT.out.mono ?_; rintro e w2 ⟨rfl, e2⟩; rw [e2]; clear e2 w2)
  exact bodyPost_ret (v := .tuple #[.bool false, .slice none 0 0, .int .i64 E]) (by simp [results, Try.results18, go_sem]) rfl ⟨rfl, TV.out⟩
theorem keep18_pair (w : World) (m : Nat) (F : List Nat) (c : Cf) (now n : Int) (xs : List En) (h : Mq w m F c now xs) (k : K) (x : O) (ht : tickE now n = 0) (hp : pairE k x ≠ 0) :
    Calls Try.prog 18 #[PT m, .int .i64 n, kv k, ov x] w fun e w' => e = .returned (.tuple #[.bool false, .slice none 0 0, .int .i64 (pairE k x)]) ∧ Touch [] w w' := by
  obtain ⟨V, hV⟩ : ∃ V, V = (w.alloc (bx k)).alloc (obx x) := ⟨_, rfl⟩
  have KV : KpV w k x V := by rw [hV]; exact KpV.mk' w k x
  have TV := hid KV.t
  have HT := hid ((h.keep0 TV.out).tick n)
  rw [ht] at HT
  have HP := hid (pair46 V k x)
  obtain ⟨⟨b0, b1⟩, o0, o1, o2, o3⟩ := KV.cells (Touch.refl [] V) (fun _ e => by cases e)
  clear h ht KV
  have hb : ((pairE k x) == 0) = false := by simp [hp]
  clear hp
  generalize pairE k x = E at *
  unfold PT kv ov at *
  go_enter Try.func18, Try.ntmps18
  go_upto_region 1 with fail
  unfold bx obx at hV
  rw [← hV]
  clear hV
  go_wp2_with (first
    | (go_at_call 45; refine HT.out.mono ?_; rintro e w2 ⟨rfl, e2⟩; rw [e2]; clear e2 w2)
    | (go_at_call 46; refine HP.out.mono ?_; rintro e w3 ⟨rfl, t3⟩; have T3 := hid t3; clear t3))
  exact bodyPost_ret (v := .tuple #[.bool false, .slice none 0 0, .int .i64 E]) (by simp [results, Try.results18, go_sem]) rfl ⟨rfl, TV.out.trans' T3.out⟩
theorem Mq.keeps {w : World} {m : Nat} {F : List Nat} {c : Cf} {now : Int} {xs : List En} (h : Mq w m F c now xs) (x : O) : Calls Try.prog 47 #[PT m, ov x] w fun e w' => e = .returned (.bool (keepsC c x)) ∧ Touch [] w w' := by
  obtain ⟨b, o, G, rfl, h⟩ := h
  exact keeps47 w m c now b o h.md x
set_option maxHeartbeats 1000000 in
theorem keep18_not (w : World) (m : Nat) (F : List Nat) (c : Cf) (now n : Int) (xs : List En) (h : Mq w m F c now xs) (k : K) (x : O) (ht : tickE now n = 0) (hp : pairE k x = 0) (hk : keepsC c x = false) :
    Calls Try.prog 18 #[PT m, .int .i64 n, kv k, ov x] w fun e w' => e = .returned (.tuple #[.bool false, .slice none 0 0, .int .i64 0]) ∧ Mc w m F c n xs w' := by
  obtain ⟨V, hV⟩ : ∃ V, V = (w.alloc (bx k)).alloc (obx x) := ⟨_, rfl⟩
  have KV : KpV w k x V := by rw [hV]; exact KpV.mk' w k x
  have TV := hid KV.t
  have HT := hid ((h.keep0 TV.out).tick n)
  rw [ht] at HT
  have HP := hid (pair46 V k x)
  rw [hp] at HP
  obtain ⟨q1, q2⟩ := tickE_ok ht
  have hF := h.lt
  have hm : m < w.heap.size := hF m h.mem
  have hne : w.heap.size ≠ m := by omega
  have hne1 : w.heap.size + 1 ≠ m := by omega
  have HC : Hid (∀ w2, Touch [] V w2 → ((w2.cell? ⟨w.heap.size, 0, none⟩ = some (.int .u16 k.1) ∧ w2.cell? ⟨w.heap.size, 1, none⟩ = some (.string k.2)) ∧ w2.cell? ⟨w.heap.size + 1, 0, none⟩ = some (.int .i64 x.1) ∧ w2.cell? ⟨w.heap.size + 1, 1, none⟩ = some (.int .i64 x.2.1) ∧ w2.cell? ⟨w.heap.size + 1, 2, none⟩ = some (.int .i64 x.2.2.1) ∧ w2.cell? ⟨w.heap.size + 1, 3, none⟩ = some (.int .i64 x.2.2.2)) ∧ w2.cell? ⟨m, 7, none⟩ = some (.int .i64 now) ∧ w2.frozen? ⟨m, 7, none⟩ = false) := fun w2 t => ⟨KV.cells t (fun _ e => by cases e), (h.keep0 (TV.out.trans' t)).c7⟩
  have HK : Hid (∀ w2, Touch [] V w2 → Calls Try.prog 47 #[PT m, ov x] (w2.setCell ⟨m, 7, none⟩ (.int .i64 n)) fun e w' => e = .returned (.bool false) ∧ Mc w m F c n xs w') := fun w2 t => by
    have C := (h.keep0 (TV.out.trans' t)).time q1 q2
    obtain ⟨F', C1, C2, C3⟩ := C
    have := C1.keeps x
    rw [hk] at this
    refine this.mono ?_
    rintro e w4 ⟨rfl, t4⟩
    exact ⟨rfl, (Mc.keep0 (⟨F', C1, C2, C3⟩ : Mc w2 m F c n xs _) t4).from0 (TV.out.trans' t)⟩
  obtain ⟨⟨⟨b0, b1⟩, o0, o1, o2, o3⟩, g0, g1⟩ := HC.out V (Touch.refl _ _)
  clear h ht hp hk KV q1 q2 hF
  unfold PT kv ov at *
  go_enter Try.func18, Try.ntmps18
  go_upto_region 1 with fail
  unfold bx obx at hV
  rw [← hV]
  clear hV
  go_wp2_with (first
    | (go_at_call 45; refine HT.out.mono ?_; rintro e w2 ⟨rfl, e2⟩; rw [e2]; clear e2 w2)
    | (go_at_call 46; refine HP.out.mono ?_; rintro e w3 ⟨rfl, t3⟩; have T3 := hid t3; clear b0 b1 o0 o1 o2 o3 g0 g1; obtain ⟨⟨⟨b0, b1⟩, o0, o1, o2, o3⟩, g0, g1⟩ := HC.out _ t3; clear t3)
    | (go_at_call 47; refine (HK.out _ T3.out).mono ?_; rintro e w4 ⟨rfl, hc⟩; have C4 := hid hc; clear hc))
  exact bodyPost_ret (v := .tuple #[.bool false, .slice none 0 0, .int .i64 0]) (by simp [results, Try.results18, go_sem]) rfl ⟨rfl, C4.out⟩
def PtQ (w : World) (m : Nat) (F : List Nat) (c : Cf) (n : Int) (gs : List K) (ys : List En) (u : Value) (w' : World) : Prop := RT 39 w' u gs ∧ Mc w m F c n ys w'
set_option maxHeartbeats 1000000 in
theorem keep18_yes (w : World) (m : Nat) (F : List Nat) (c : Cf) (now n : Int) (xs : List En) (h : Mq w m F c now xs) (k : K) (ok : Ok k) (x : O) (ht : tickE now n = 0) (hp : pairE k x = 0) (hk : keepsC c x = true) :
    Calls Try.prog 18 #[PT m, .int .i64 n, kv k, ov x] w fun e w' => ∃ u, e = .returned (.tuple #[.bool true, u, .int .i64 0]) ∧ PtQ w m F c n (goneL c.e xs k) (putL c.e xs k (x, n)) u w' := by
  obtain ⟨V, hV⟩ : ∃ V, V = (w.alloc (bx k)).alloc (obx x) := ⟨_, rfl⟩
  have KV : KpV w k x V := by rw [hV]; exact KpV.mk' w k x
  have TV := hid KV.t
  have HT := hid ((h.keep0 TV.out).tick n)
  rw [ht] at HT
  have HP := hid (pair46 V k x)
  rw [hp] at HP
  obtain ⟨q1, q2⟩ := tickE_ok ht
  obtain ⟨p1, p2⟩ := pairE_ok hp
  have n0 := h.gd.n0
  have hF := h.lt
  have hm : m < w.heap.size := hF m h.mem
  have hne : w.heap.size ≠ m := by omega
  have hne1 : w.heap.size + 1 ≠ m := by omega
  have HC : Hid (∀ w2, Touch [] V w2 → ((w2.cell? ⟨w.heap.size, 0, none⟩ = some (.int .u16 k.1) ∧ w2.cell? ⟨w.heap.size, 1, none⟩ = some (.string k.2)) ∧ w2.cell? ⟨w.heap.size + 1, 0, none⟩ = some (.int .i64 x.1) ∧ w2.cell? ⟨w.heap.size + 1, 1, none⟩ = some (.int .i64 x.2.1) ∧ w2.cell? ⟨w.heap.size + 1, 2, none⟩ = some (.int .i64 x.2.2.1) ∧ w2.cell? ⟨w.heap.size + 1, 3, none⟩ = some (.int .i64 x.2.2.2)) ∧ w2.cell? ⟨m, 7, none⟩ = some (.int .i64 now) ∧ w2.frozen? ⟨m, 7, none⟩ = false) := fun w2 t => ⟨KV.cells t (fun _ e => by cases e), (h.keep0 (TV.out.trans' t)).c7⟩
  have HK : Hid (∀ w2, Touch [] V w2 → Calls Try.prog 47 #[PT m, ov x] (w2.setCell ⟨m, 7, none⟩ (.int .i64 n)) fun e w' => e = .returned (.bool true) ∧ Mc w m F c n xs w' ∧ Touch [m] V w') := fun w2 t => by
    have C := (h.keep0 (TV.out.trans' t)).time q1 q2
    obtain ⟨F', C1, C2, C3⟩ := C
    have := C1.keeps x
    rw [hk] at this
    refine this.mono ?_
    rintro e w4 ⟨rfl, t4⟩
    exact ⟨rfl, (Mc.keep0 (⟨F', C1, C2, C3⟩ : Mc w2 m F c n xs _) t4).from0 (TV.out.trans' t), ((t.mono (fun _ e => by cases e)).setCell (Or.inl (by simp)) _).trans' (t4.mono (fun _ e => by cases e))⟩
  have HD : Hid (∀ w2, Touch [m] V w2 → ((w2.cell? ⟨w.heap.size, 0, none⟩ = some (.int .u16 k.1) ∧ w2.cell? ⟨w.heap.size, 1, none⟩ = some (.string k.2)) ∧ w2.cell? ⟨w.heap.size + 1, 0, none⟩ = some (.int .i64 x.1) ∧ w2.cell? ⟨w.heap.size + 1, 1, none⟩ = some (.int .i64 x.2.1) ∧ w2.cell? ⟨w.heap.size + 1, 2, none⟩ = some (.int .i64 x.2.2.1) ∧ w2.cell? ⟨w.heap.size + 1, 3, none⟩ = some (.int .i64 x.2.2.2))) := fun w2 t => KV.cells t (fun i hi => by simp only [List.mem_singleton] at hi; subst hi; exact hm)
  have HU : Hid (∀ w4, Mc w m F c n xs w4 → Calls Try.prog 41 #[PT m, kv k, ev (x, n)] w4 fun e w' => ∃ u, e = .returned u ∧ PtQ w m F c n (goneL c.e xs k) (putL c.e xs k (x, n)) u w') := fun w4 C => by
    obtain ⟨F', C1, C2, C3⟩ := C
    refine (putM w4 m F' c n xs C1 k ok p1 (x, n) ⟨p2, by show 0 ≤ n; omega, Int.le_refl _⟩).mono ?_
    rintro e w5 ⟨u, rfl, r, d⟩
    refine ⟨u, rfl, r, ?_⟩
    obtain ⟨F2, d1, d2, d3⟩ := d
    exact ⟨F2, d1, C2.trans d2 C3, C3.trans d3 C2.size⟩
  obtain ⟨⟨⟨b0, b1⟩, o0, o1, o2, o3⟩, g0, g1⟩ := HC.out V (Touch.refl _ _)
  clear h ht hp hk KV q1 q2 hF p1 p2 n0
  generalize goneL c.e xs k = gs at *
  generalize putL c.e xs k (x, n) = ys at *
  unfold PT kv ov ev at *
  simp only at HU
  go_enter Try.func18, Try.ntmps18
  go_upto_region 1 with fail
  unfold bx obx at hV
  rw [← hV]
  clear hV
  go_wp2_with (first
    | (go_at_call 45; refine HT.out.mono ?_; rintro e w2 ⟨rfl, e2⟩; rw [e2]; clear e2 w2)
    | (go_at_call 46; refine HP.out.mono ?_; rintro e w3 ⟨rfl, t3⟩; have T3 := hid t3; clear b0 b1 o0 o1 o2 o3 g0 g1; obtain ⟨⟨⟨b0, b1⟩, o0, o1, o2, o3⟩, g0, g1⟩ := HC.out _ t3; clear t3)
    | (go_at_call 47; refine (HK.out _ T3.out).mono ?_; rintro e w4 ⟨rfl, hc, t4⟩; have C4 := hid hc; clear hc b0 b1 o0 o1 o2 o3 g0 g1; obtain ⟨⟨b0, b1⟩, o0, o1, o2, o3⟩ := HD.out _ t4; clear t4)
    | (go_at_call 41; refine (HU.out _ C4.out).mono ?_; rintro e w5 ⟨u, rfl, hq⟩; have HQ := hid hq; clear hq))
  exact bodyPost_ret (v := .tuple #[.bool true, u, .int .i64 0]) (by simp [results, Try.results18, go_sem]) rfl ⟨u, rfl, HQ.out⟩
theorem keepM (w : World) (m : Nat) (F : List Nat) (c : Cf) (now n : Int) (xs : List En) (h : Mq w m F c now xs) (k : K) (ok : Ok k) (x : O) :
    Calls Try.prog 18 #[PT m, .int .i64 n, kv k, ov x] w fun e w' => ∃ u, e = .returned (.tuple #[.bool (kpB c now n k x), u, .int .i64 (keepE now n k x)]) ∧ PtQ w m F c (kpN now n k x) (kpG c now n xs k x) (kpX c now n xs k x) u w' := by
  by_cases ht : tickE now n = 0
  · by_cases hp : pairE k x = 0
    · have e : keepE now n k x = 0 := by unfold keepE; rw [if_pos ht, hp]
      cases hk : keepsC c x
      · have e2 : kpB c now n k x = false := by unfold kpB; rw [hk]; simp
        unfold kpN kpG kpX
        rw [e2, e, if_pos rfl]
        exact (keep18_not w m F c now n xs h k x ht hp hk).mono fun e w' ⟨he, t⟩ => ⟨_, he, RT.nil _ _, t⟩
      · have e2 : kpB c now n k x = true := by unfold kpB; rw [hk, e]; rfl
        unfold kpN kpG kpX
        rw [e2, e, if_pos rfl, if_pos rfl, if_pos rfl]
        exact keep18_yes w m F c now n xs h k ok x ht hp hk
    · have e : keepE now n k x = pairE k x := by unfold keepE; rw [if_pos ht]
      have e2 : kpB c now n k x = false := by unfold kpB; rw [e, decide_eq_false hp]; rfl
      unfold kpN kpG kpX
      rw [e2, e, if_neg hp]
      exact (keep18_pair w m F c now n xs h k x ht hp).mono fun e w' ⟨he, t⟩ => ⟨_, he, RT.nil _ _, (Mc.refl h).keep0 t⟩
  · have e : keepE now n k x = tickE now n := by unfold keepE; rw [if_neg ht]
    have e2 : kpB c now n k x = false := by unfold kpB; rw [e, decide_eq_false ht]; rfl
    unfold kpN kpG kpX
    rw [e2, e, if_neg ht]
    exact (keep18_tick w m F c now n xs h k x ht).mono fun e w' ⟨he, t⟩ => ⟨_, he, RT.nil _ _, (Mc.refl h).keep0 t⟩
end Go.Proofs.Ytopepalpmkeffaa
