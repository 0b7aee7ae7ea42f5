/- The contract of Look; a key's space is a number of 16 bits, a name's length fits. -/
import Derived.Test.YtpefbmheblfbeaaGreatQc03
import Derived.Deep.CutRange
import Derived.Deep.CutBlock
import Derived.Test.YtpefbmheblfbeaaGreatQc01
namespace Go.Proofs.YtpefbmheblfbeaaGreat.Me
open Go.RowKit Go.Sort Go.Maps Go.ChangeMaps Go.WideMaps
set_option maxRecDepth 100000
set_option linter.unusedVariables false
set_option linter.unusedSimpArgs false
theorem tickE_ok {now n : Int} (h : tickE now n = 0) : now ≤ n ∧ n ≤ MT := by
  unfold tickE isT at h
  unfold MT
  split at h
  · rename_i h1
    simp only [Bool.and_eq_true, decide_eq_true_eq] at h1
    split at h <;> omega
  · omega
theorem Mb.time {w : World} {m b o : Nat} {G : List Nat} {c : Cf} {now n : Int} {xs : List En} (h : Mb w m b o G c now xs) (h1 : now ≤ n) (h2 : n ≤ MT) : Mb (w.setCell ⟨m, 7, none⟩ (.int .i64 n)) m b o G c n xs := by
  have t : Touch [m] w (w.setCell ⟨m, 7, none⟩ (.int .i64 n)) := (Touch.refl _ _).setCell (Or.inl (by simp)) _
  refine ⟨h.md.set7 n, h.mp.kept (t.block b h.mp.lt (by simpa using h.mb)), h.oq.keep t (fun k hk hh => ?_), h.gd.later h1 h2, h.bg⟩
  simp only [List.mem_singleton] at hh
  subst hh
  exact h.mg hk
theorem Mq.time {w : World} {m : Nat} {F : List Nat} {c : Cf} {now n : Int} {xs : List En} (h : Mq w m F c now xs) (h1 : now ≤ n) (h2 : n ≤ MT) : Mc w m F c n xs (w.setCell ⟨m, 7, none⟩ (.int .i64 n)) := by
  obtain ⟨b, o, G, rfl, h⟩ := h
  exact ⟨_, ⟨b, o, G, rfl, h.time h1 h2⟩, (Touch.refl _ _).setCell (Or.inl (by simp)) _, Nf.refl _ _⟩
theorem Mq.mem {w : World} {m : Nat} {F : List Nat} {c : Cf} {now : Int} {xs : List En} (h : Mq w m F c now xs) : m ∈ F := by
  obtain ⟨b, o, G, rfl, h⟩ := h
  simp
theorem Mq.tick {w : World} {m : Nat} {F : List Nat} {c : Cf} {now : Int} {xs : List En} (h : Mq w m F c now xs) (n : Int) : Calls Tryz.prog 73 #[PT m, .int .i64 n] w fun e w' => e = .returned (.int .i64 (tickE now n)) ∧ w' = w := by
  obtain ⟨b, o, G, rfl, h⟩ := h
  exact tick45 w m c now n b o h.md
theorem Mq.c7 {w : World} {m : Nat} {F : List Nat} {c : Cf} {now : Int} {xs : List En} (h : Mq w m F c now xs) : w.cell? ⟨m, 7, none⟩ = some (.int .i64 now) ∧ w.frozen? ⟨m, 7, none⟩ = false := by
  obtain ⟨b, o, G, rfl, h⟩ := h
  exact ⟨h.md.cs.c7, h.md.cs.f7⟩
def askE (now n : Int) (k : K) : Int := if tickE now n = 0 then (if 64 < k.2.size then 20 else 0) else tickE now n
def zbx : Obj := .cells #[.int .i64 0, .int .i64 0, .int .i64 0, .int .i64 0, .int .i64 0, .int .i64 0] 155
structure Z6 (w : World) (r : Nat) : Prop where
  z0 : w.cell? ⟨r, 0, none⟩ = some (.int .i64 0)
  z1 : w.cell? ⟨r, 1, none⟩ = some (.int .i64 0)
  z2 : w.cell? ⟨r, 2, none⟩ = some (.int .i64 0)
  z3 : w.cell? ⟨r, 3, none⟩ = some (.int .i64 0)
  z4 : w.cell? ⟨r, 4, none⟩ = some (.int .i64 0)
  z5 : w.cell? ⟨r, 5, none⟩ = some (.int .i64 0)
  f0 : w.frozen? ⟨r, 0, none⟩ = false
  f1 : w.frozen? ⟨r, 1, none⟩ = false
  f2 : w.frozen? ⟨r, 2, none⟩ = false
  f3 : w.frozen? ⟨r, 3, none⟩ = false
  f4 : w.frozen? ⟨r, 4, none⟩ = false
  f5 : w.frozen? ⟨r, 5, none⟩ = false
theorem Z6.mk' {w : World} {r : Nat} (h : w.heap[r]? = some zbx) : Z6 w r := by
  unfold zbx at h
  constructor <;> simp [World.cell?, World.frozen?, h]
section
variable {w : World} {m : Nat} {F : List Nat} {c : Cf} {now : Int} {xs : List En}
theorem look21_tick (w : World) (m : Nat) (F : List Nat) (c : Cf) (now n : Int) (xs : List En) (h : Mq w m F c now xs) (k : K) (ht : tickE now n ≠ 0) :
    Calls Tryz.prog 119 #[PT m, .int .i64 n, kv k] w fun e w' => e = .returned (.tuple #[lv (0, 0, oz), .int .i64 (tickE now n)]) ∧ Touch [] w w' := by
  obtain ⟨V, hV⟩ : ∃ V, V = (w.alloc (bx k)).alloc zbx := ⟨_, rfl⟩
  have TV : Hid (Touch [] w V) := by rw [hV]; exact ((Touch.refl _ _).alloc _).alloc _
  have hZ : V.heap[w.heap.size + 1]? = some zbx := by
    rw [hV]
    have := heap_alloc_new (w.alloc (bx k)) zbx
    rwa [World.size_alloc] at this
  obtain ⟨z0, z1, z2, z3, z4, z5, f0, f1, f2, f3, f4, f5⟩ := Z6.mk' hZ
  have HT := hid ((h.keep0 TV.out).tick n)
  clear h hZ
  have hb : ((tickE now n) == 0) = false := by simp [ht]
  clear ht
  generalize tickE now n = E at *
  unfold PT kv lv sv oz at *
  go_enter Tryz.func119, Tryz.ntmps119
  go_upto_region 1 with fail
  unfold bx zbx at hV
  rw [← hV]
  clear hV
  go_wp2_with (go_at_call 73; refine HT.out.mono ?_; rintro e w2 ⟨rfl, e2⟩; rw [e2]; clear e2 w2)
  refine bodyPost_ret (v := .tuple #[.agg #[.int .i64 0, .int .i64 0, .int .i64 0, .int .i64 0, .int .i64 0, .int .i64 0], .int .i64 E]) (by simp [results, Tryz.results119, go_sem, z0, z1, z2, z3, z4, z5]) rfl ⟨rfl, ?_⟩
  refine TV.out.trans (G := [w.heap.size + 1]) ?_ (fun i hi => by simp only [List.mem_singleton] at hi; subst hi; exact Or.inr (Nat.le_succ _))
  exact tset6 _ _ _ _ _ _ _ _
theorem look21_key (w : World) (m : Nat) (F : List Nat) (c : Cf) (now n : Int) (xs : List En) (h : Mq w m F c now xs) (k : K) (ht : tickE now n = 0) (hk : 64 < k.2.size) :
    Calls Tryz.prog 119 #[PT m, .int .i64 n, kv k] w fun e w' => e = .returned (.tuple #[lv (0, 0, oz), .int .i64 20]) ∧ Touch [] w w' := by
  obtain ⟨V, hV⟩ : ∃ V, V = (w.alloc (bx k)).alloc zbx := ⟨_, rfl⟩
  have TV : Hid (Touch [] w V) := by rw [hV]; exact ((Touch.refl _ _).alloc _).alloc _
  have hB : V.heap[w.heap.size]? = some (bx k) := by rw [hV]; exact (Below.heap_alloc _ _ _ (by simp)).trans (heap_alloc_new w _)
  have hZ : V.heap[w.heap.size + 1]? = some zbx := by
    rw [hV]
    have := heap_alloc_new (w.alloc (bx k)) zbx
    rwa [World.size_alloc] at this
  have HZ : Hid (∀ w2, Touch [] V w2 → Z6 w2 (w.heap.size + 1)) := fun w2 t => Z6.mk' (t.keep hZ (by simp))
  unfold bx at hB
  have b0 : V.cell? ⟨w.heap.size, 0, none⟩ = some (.int .u16 k.1) := by simp [World.cell?, hB]
  have b1 : V.cell? ⟨w.heap.size, 1, none⟩ = some (.string k.2) := by simp [World.cell?, hB]
  have HT := hid ((h.keep0 TV.out).tick n)
  rw [ht] at HT
  have HC := hid (check29_no V k hk)
  clear h hZ hB ht hk
  unfold PT kv lv sv oz at *
  go_enter Tryz.func119, Tryz.ntmps119
  go_upto_region 1 with fail
  unfold bx zbx at hV
  rw [← hV]
  clear hV
  go_wp2_with (first
    | (go_at_call 73; refine HT.out.mono ?_; rintro e w2 ⟨rfl, e2⟩; rw [e2]; clear e2 w2)
    | (go_at_call 113; refine HC.out.mono ?_; rintro e w3 ⟨rfl, t3⟩; have T3 := hid t3; obtain ⟨z0, z1, z2, z3, z4, z5, f0, f1, f2, f3, f4, f5⟩ := HZ.out _ t3; clear t3))
  refine bodyPost_ret (v := .tuple #[.agg #[.int .i64 0, .int .i64 0, .int .i64 0, .int .i64 0, .int .i64 0, .int .i64 0], .int .i64 20]) (by simp [results, Tryz.results119, go_sem, z0, z1, z2, z3, z4, z5]) rfl ⟨rfl, ?_⟩
  refine (TV.out.trans' T3.out).trans (G := [w.heap.size + 1]) ?_ (fun i hi => by simp only [List.mem_singleton] at hi; subst hi; exact Or.inr (Nat.le_succ _))
  exact tset6 _ _ _ _ _ _ _ _
set_option maxHeartbeats 1000000 in
theorem look21_ok (w : World) (m : Nat) (F : List Nat) (c : Cf) (now n : Int) (xs : List En) (h : Mq w m F c now xs) (k : K) (ok : Ok k) (ht : tickE now n = 0) (hk : k.2.size ≤ 64) :
    Calls Tryz.prog 119 #[PT m, .int .i64 n, kv k] w fun e w' => e = .returned (.tuple #[lv (lookS c n xs k), .int .i64 0]) ∧ Mc w m F c n xs w' := by
  obtain ⟨V, hV⟩ : ∃ V, V = (w.alloc (bx k)).alloc zbx := ⟨_, rfl⟩
  have TV : Hid (Touch [] w V) := by rw [hV]; exact ((Touch.refl _ _).alloc _).alloc _
  have hB : V.heap[w.heap.size]? = some (bx k) := by rw [hV]; exact (Below.heap_alloc _ _ _ (by simp)).trans (heap_alloc_new w _)
  have hZ : V.heap[w.heap.size + 1]? = some zbx := by
    rw [hV]
    have := heap_alloc_new (w.alloc (bx k)) zbx
    rwa [World.size_alloc] at this
  have hF := h.lt
  obtain ⟨q1, q2⟩ := tickE_ok ht
  have HK : Hid (∀ w2, Touch [] V w2 → (w2.cell? ⟨w.heap.size, 0, none⟩ = some (.int .u16 k.1) ∧ w2.cell? ⟨w.heap.size, 1, none⟩ = some (.string k.2)) ∧ w2.cell? ⟨m, 7, none⟩ = some (.int .i64 now) ∧ w2.frozen? ⟨m, 7, none⟩ = false) := fun w2 t => by
    have := t.keep hB (by simp)
    unfold bx at this
    exact ⟨by simp [World.cell?, this], (h.keep0 (TV.out.trans' t)).c7⟩
  have hm : m < w.heap.size := hF m h.mem
  have hne : w.heap.size ≠ m := by omega
  have HS : Hid (∀ w2, Touch [] V w2 → Calls Tryz.prog 141 #[PT m, kv k] (w2.setCell ⟨m, 7, none⟩ (.int .i64 n)) fun e w' => e = .returned (lv (lookS c n xs k)) ∧ Z6 w' (w.heap.size + 1) ∧ ∀ w5, Touch [w.heap.size + 1] w' w5 → Mc w m F c n xs w5) := fun w2 t => by
    have C := (h.keep0 (TV.out.trans' t)).time q1 q2
    obtain ⟨F', C1, C2, C3⟩ := C
    refine (seeM _ m F' c n xs C1 k ok).mono ?_
    rintro e w4 ⟨rfl, t4⟩
    have tm : Touch [m] w2 (w2.setCell ⟨m, 7, none⟩ (.int .i64 n)) := (Touch.refl _ _).setCell (Or.inl (by simp)) _
    refine ⟨rfl, Z6.mk' (t4.keep (tm.keep (t.keep hZ (by simp)) (by simp; omega)) (by simp)), fun w5 t5 => ?_⟩
    exact (Mc.keep0 (⟨F', C1, C2, C3⟩ : Mc w2 m F c n xs _) t4).own t5 (TV.out.trans' t) (Nat.le_succ _) (by have := block_lt (t.keep hZ (by simp)); omega) hF
  have HT := hid ((h.keep0 TV.out).tick n)
  rw [ht] at HT
  have HC := hid (check29_ok V k hk)
  obtain ⟨⟨b0, b1⟩, g0, g1⟩ := HK.out V (Touch.refl _ _)
  clear h hZ hB ht hk hF q1 q2
  obtain ⟨s, hs⟩ : ∃ s, s = lookS c n xs k := ⟨_, rfl⟩
  rw [← hs] at HS ⊢
  clear hs
  obtain ⟨sh, sa, so⟩ := s
  unfold PT kv lv sv at *
  simp only at HS ⊢
  go_enter Tryz.func119, Tryz.ntmps119
  go_upto_region 1 with fail
  unfold bx zbx at hV
  rw [← hV]
  clear hV
  go_wp2_with (first
    | (go_at_call 73; refine HT.out.mono ?_; rintro e w2 ⟨rfl, e2⟩; rw [e2]; clear e2 w2)
    | (go_at_call 113; refine HC.out.mono ?_; rintro e w3 ⟨rfl, t3⟩; have T3 := hid t3; clear b0 b1 g0 g1; obtain ⟨⟨b0, b1⟩, g0, g1⟩ := HK.out _ t3; clear t3)
    | (go_at_call 141; refine (HS.out _ T3.out).mono ?_; rintro e w4 ⟨rfl, hz, hc⟩; obtain ⟨z0, z1, z2, z3, z4, z5, f0, f1, f2, f3, f4, f5⟩ := hz; have HC4 := hid hc; clear hc))
  refine bodyPost_ret (v := .tuple #[.agg #[.int .i64 sh, .int .i64 sa, .int .i64 so.1, .int .i64 so.2.1, .int .i64 so.2.2.1, .int .i64 so.2.2.2], .int .i64 0]) (by simp [results, Tryz.results119, go_sem, z0, z1, z2, z3, z4, z5]) rfl ⟨rfl, ?_⟩
  exact HC4.out _ (tset6 _ _ _ _ _ _ _ _)
end
def askR (c : Cf) (now n : Int) (xs : List En) (k : K) : Int × Int × O := if askE now n k = 0 then lookS c n xs k else (0, 0, oz)
def askN (now n : Int) (k : K) : Int := if askE now n k = 0 then n else now
theorem lookM (w : World) (m : Nat) (F : List Nat) (c : Cf) (now n : Int) (xs : List En) (h : Mq w m F c now xs) (k : K) (ok : Ok k) :
    Calls Tryz.prog 119 #[PT m, .int .i64 n, kv k] w fun e w' => e = .returned (.tuple #[lv (askR c now n xs k), .int .i64 (askE now n k)]) ∧ Mc w m F c (askN now n k) xs w' := by
  by_cases ht : tickE now n = 0
  · by_cases hk : 64 < k.2.size
    · have e : askE now n k = 20 := by unfold askE; rw [if_pos ht, if_pos hk]
      unfold askR askN
      rw [e, if_neg (by decide), if_neg (by decide)]
      exact (look21_key w m F c now n xs h k ht hk).mono fun e w' ⟨he, t⟩ => ⟨he, (Mc.refl h).keep0 t⟩
    · have e : askE now n k = 0 := by unfold askE; rw [if_pos ht, if_neg hk]
      unfold askR askN
      rw [e, if_pos rfl, if_pos rfl]
      exact look21_ok w m F c now n xs h k ok ht (by omega)
  · have e : askE now n k = tickE now n := by unfold askE; rw [if_neg ht]
    unfold askR askN
    rw [e, if_neg ht, if_neg ht]
    exact (look21_tick w m F c now n xs h k ht).mono fun e w' ⟨he, t⟩ => ⟨he, (Mc.refl h).keep0 t⟩
end Go.Proofs.YtpefbmheblfbeaaGreat.Me
/- The contract of put; a key's name has at most 64 bytes. -/
namespace Go.Proofs.YtpefbmheblfbeaaGreat.Me
open Go.RowKit Go.Sort Go.Maps Go.ChangeMaps Go.WideMaps
set_option maxRecDepth 100000
set_option linter.unusedVariables false
set_option linter.unusedSimpArgs false
def RT (t : Nat) (w : World) (v : Value) (xs : List K) : Prop := w.ownsRow 0 t 2 v xs.length (cellsK xs)
theorem RT.nil (t : Nat) (w : World) : RT t w (.slice none 0 0) [] := World.ownsRow_nil _ _ _ _
theorem RT.one {t : Nat} {w : World} {g : Nat} {x : K} (h : w.heap[g]? = some (.cells #[.int .u16 x.1, .string x.2] t (0, 0))) : RT t w (.slice (some ⟨g, 0, none⟩) 1 1) [x] :=
  ⟨rfl, Or.inr ⟨g, 1, #[.int .u16 x.1, .string x.2], rfl, Nat.zero_le _, h, Nat.le_refl _, by unfold maxLen; decide, rfl, rfl⟩⟩
def goneL (e : Int) (xs : List En) (k : K) : List K := if useB e (keysL xs) k then [useG e (keysL xs) k] else []
structure Pm (w : World) (m b o : Nat) (G : List Nat) (c : Cf) (now : Int) (xs : List En) (k : K) (v : V) (W : World) : Prop where
  md : Md W m c now b o
  mp : MapAt W b (if (mpf xs k).isSome then xs.length else xs.length + 1) (upd (mpf xs) k (ev v))
  oq : ∃ G', Oq W o G' c.e (useL c.e (keysL xs) k) ∧ ¬ b ∈ G' ∧ Nf w G G'
  t : Touch (m :: b :: G) w W
theorem dr_len_mem {xs : List K} {k : K} (hn : xs.Nodup) (h : k ∈ xs) : (dr xs k).length + 1 = xs.length := by
  obtain ⟨A, B, rfl⟩ := List.append_of_mem h
  rw [List.nodup_append, List.nodup_cons] at hn
  rw [dr_mid (fun x hx e => hn.2.2 x hx k (by simp) e) (fun x hx e => hn.2.1.1 (e ▸ hx))]
  simp only [List.length_append, List.length_cons]
  omega
theorem putY_len {xs : List En} (hn : (keysL xs).Nodup) (k : K) (v : V) : (putY xs k v).length = if (mpf xs k).isSome then xs.length else xs.length + 1 := by
  unfold putY mpf
  simp only [List.length_append, List.length_singleton, Option.isSome_map]
  rw [fnd_isSome]
  by_cases h : k ∈ keysL xs
  · rw [hs_yes h, if_pos rfl]
    have h1 := dr_len_mem hn h
    rw [← drx_keys, keysL_len, keysL_len] at h1
    exact h1
  · rw [hs_no h]
    simp only [Bool.false_eq_true, if_false]
    have h1 := congrArg List.length (dr_no h)
    rw [← drx_keys, keysL_len, keysL_len] at h1
    omega
theorem upd_mpf (xs : List En) (k : K) (v : V) : upd (mpf xs) k (ev v) = mpf (putY xs k v) := by
  funext j
  unfold upd mpf
  rw [fnd_putY]
  split <;> rfl
section
variable {w W : World} {m b o : Nat} {G : List Nat} {c : Cf} {now : Int} {xs : List En} {k : K} {v : V}
theorem Pm.end1 (h : Pm w m b o G c now xs k v W) (hn : (keysL xs).Nodup) (hg : Gd c now xs) (hv : right v.1 = true ∧ 0 ≤ v.2 ∧ v.2 ≤ now) (hb : useB c.e (keysL xs) k = false) : Mc w m (m :: b :: G) c now (putL c.e xs k v) W := by
  obtain ⟨md, mp, ⟨G', o1, o2, o3⟩, t⟩ := h
  have e : putL c.e xs k v = putY xs k v := by unfold putL; rw [hb]; rfl
  refine ⟨m :: b :: G', ⟨b, o, G', rfl, md, ?_, ?_, hg.put k v hv, o2⟩, t, fun i hi => ?_⟩
  · rw [e, putY_len hn, ← upd_mpf]
    exact mp
  · rw [putL_keys]
    exact o1
  · simp only [List.mem_cons] at hi ⊢
    rcases hi with rfl | rfl | hi
    · exact Or.inl (Or.inl rfl)
    · exact Or.inl (Or.inr (Or.inl rfl))
    · exact (o3 i hi).elim (fun e => Or.inl (Or.inr (Or.inr e))) Or.inr
theorem Pm.end2 (h : Pm w m b o G c now xs k v W) (hn : (keysL xs).Nodup) (hok : ∀ k ∈ keysL xs, Ok k) (hk : Ok k) (hg : Gd c now xs) (hv : right v.1 = true ∧ 0 ≤ v.2 ∧ v.2 ≤ now) (hb : useB c.e (keysL xs) k = true) (ty : TypeId) :
    ∃ ob, (Builtin.delete_ #[141, 54] ty #[.map (some b), kv (useG c.e (keysL xs) k)]).run Tryz.prog W.drew = .ok (.tuple #[]) (setBlock W.drew b ob) ∧ Mc w m (m :: b :: G) c now (putL c.e xs k v) (setBlock W.drew b ob) := by
  obtain ⟨md, mp, ⟨G', o1, o2, o3⟩, t⟩ := h
  obtain ⟨g, zs, hy⟩ : ∃ g zs, putY xs k v = g :: zs := by
    cases e : putY xs k v with
    | nil => simp [putY] at e
    | cons g zs => exact ⟨g, zs, rfl⟩
  have eG : useG c.e (keysL xs) k = g.1 := by
    unfold useG
    rw [if_pos hb, ← putY_keys xs k v, hy]
    rfl
  have e : putL c.e xs k v = zs := by unfold putL; rw [hb, hy]; rfl
  have hmem : ∀ x ∈ keysL (putY xs k v), Ok x := fun x hx => by
    obtain ⟨y, hy1, rfl⟩ := List.mem_map.1 hx
    rcases mem_putY hy1 with e | e
    · exact hok _ (List.mem_map_of_mem e)
    · rw [e]; exact hk
  have hnd : (keysL (putY xs k v)).Nodup := by
    rw [putY_keys]
    unfold useY dr
    rw [List.nodup_append]
    refine ⟨hn.filter _, by simp, fun a ha b hb e => ?_⟩
    simp only [List.mem_singleton] at hb
    have := (List.mem_filter.1 ha).2
    simp only [ne_eq, decide_eq_true_eq] at this
    exact this (e.trans hb)
  rw [hy] at hnd hmem
  simp only [keysL, List.map_cons, List.nodup_cons] at hnd
  rw [upd_mpf, ← putY_len hn k v, hy] at mp
  rw [eG]
  obtain ⟨ob, hu, hs⟩ := (show MapAt W.drew b _ _ from mp.kept rfl).del (t := 141) Tryz.underlying141 (hmem g.1 (by simp [keysL])) ty
  refine ⟨ob, hu, m :: b :: G', ⟨b, o, G', rfl, ?_, ?_, ?_, hg.put k v hv, o2⟩, ?_, fun i hi => ?_⟩
  · have hne : m ≠ b := fun e => by
      have := mp.ne_block md
      exact this e.symm
    unfold Md
    rw [setBlock_other _ _ _ hne]
    exact md
  · rw [e]
    have h1 : (mpf (g :: zs) g.1).isSome = true := by simp [mpf, fnd]
    rw [h1, if_pos rfl] at hs
    simp only [List.length_cons, Nat.add_sub_cancel] at hs
    refine hs.congr (fun j _ => ?_)
    unfold YtpefbmheblfbeaaGreat.Me.del mpf
    rw [fnd_tail hnd.1 j]
    split <;> rfl
  · rw [putL_keys]
    have t2 : Touch [b] W (setBlock W.drew b ob) := touch_setBlock ((Touch.refl _ _).drew) (Or.inl (by simp)) _
    exact o1.keep t2 (fun i hi hh => by simp only [List.mem_singleton] at hh; subst hh; exact o2 hi)
  · exact t.trans' (touch_setBlock ((Touch.refl _ _).drew) (Or.inl (by simp)) _)
  · simp only [List.mem_cons] at hi ⊢
    rcases hi with rfl | rfl | hi
    · exact Or.inl (Or.inl rfl)
    · exact Or.inl (Or.inr (Or.inl rfl))
    · exact (o3 i hi).elim (fun e => Or.inl (Or.inr (Or.inr e))) Or.inr
theorem put_mid {V W1 w2 w3 W : World} (h : Mb w m b o G c now xs) (TV : Touch [] w V) {ob : Obj} (hW : W1 = setBlock V.drew b ob) (hm : MapAt W1 b (if (mpf xs k).isSome then xs.length else xs.length + 1) (upd (mpf xs) k (ev v)))
    (t2 : Touch [] W1 w2) (c3 : Ch w2 o G c.e (useL c.e (keysL xs) k) w3) (t4 : Touch [] w3 W ∨ ∃ q, Touch [q] w3 W ∧ W1.heap.size ≤ q ∧ q < w2.heap.size) : Pm w m b o G c now xs k v W := by
  have T1 : Touch [b] w W1 := by rw [hW]; exact touch_setBlock ((TV.drew).mono (fun _ e => by cases e)) (Or.inl (by simp)) _
  have m1 : Md W1 m c now b o := T1.keep h.md (by simpa using h.mb.symm)
  obtain ⟨G', c1, c2, c4⟩ := c3
  have hlt := h.lt
  have hz1 : w.heap.size ≤ W1.heap.size := T1.size
  have m3 : Md w3 m c now b o := c2.keep (t2.keep m1 (by simp)) h.mg
  have p3 : MapAt w3 b _ _ := (hm.kept (t2.block b hm.lt (by simp))).kept (c2.block b (Nat.lt_of_lt_of_le hm.lt t2.size) h.bg)
  have bG : ¬ b ∈ G' := fun hh => (c4 b hh).elim h.bg (fun e => by have := hlt b (by simp); have := t2.size; omega)
  have nf : Nf w G G' := fun i hi => (c4 i hi).elim Or.inl (fun e => Or.inr (by have := t2.size; omega))
  have T3 : Touch (m :: b :: G) w w3 := ((T1.mono (fun i hi => by simp only [List.mem_singleton] at hi; subst hi; simp)).trans' (t2.mono (fun _ e => by cases e))).trans' (c2.mono (fun i hi => by simp [hi]))
  rcases t4 with t4 | ⟨q, t4, q1, q2⟩
  · exact ⟨t4.keep m3 (by simp), p3.kept (t4.block b p3.lt (by simp)), ⟨G', c1.keep0 t4, bG, nf⟩, T3.trans' (t4.mono (fun _ e => by cases e))⟩
  · have hq : ∀ i, i ∈ m :: b :: G → i ≠ q := fun i hi => by have := hlt i hi; omega
    refine ⟨t4.keep m3 (by simpa using hq m (by simp)), p3.kept (t4.block b p3.lt (by simpa using hq b (by simp))), ⟨G', c1.keep t4 (fun i hi hh => ?_), bG, nf⟩, T3.trans t4 (fun i hi => by simp only [List.mem_singleton] at hi; subst hi; exact Or.inr (by omega))⟩
    simp only [List.mem_singleton] at hh
    subst hh
    rcases c4 i hi with e | e
    · exact hq i (by simp [e]) rfl
    · omega
end
end Go.Proofs.YtpefbmheblfbeaaGreat.Me
/- The walk of put; a key's name has at most 64 bytes. -/
namespace Go.Proofs.YtpefbmheblfbeaaGreat.Me
open Go.RowKit Go.Sort Go.Maps Go.ChangeMaps Go.WideMaps
set_option maxRecDepth 100000
set_option linter.unusedVariables false
set_option linter.unusedSimpArgs false
set_option maxHeartbeats 4000000 in
theorem put41_no (w : World) (m b o : Nat) (G : List Nat) (c : Cf) (now : Int) (xs : List En) (h : Mb w m b o G c now xs) (k : K) (hk : Ok k) (h64 : k.2.size ≤ 64) (v : V) (hv : right v.1 = true ∧ 0 ≤ v.2 ∧ v.2 ≤ now) (hb : useB c.e (keysL xs) k = false) :
    Calls Tryz.prog 76 #[PT m, kv k, ev v] w fun e w' => ∃ u, e = .returned u ∧ RT 54 w' u (goneL c.e xs k) ∧ Mc w m (m :: b :: G) c now (putL c.e xs k v) w' := by
  obtain ⟨V, hV⟩ : ∃ V, V = (w.alloc (bx k)).alloc (ebx v) := ⟨_, rfl⟩
  have TV : Touch [] w V := by rw [hV]; exact ((Touch.refl _ _).alloc _).alloc _
  have hB : V.heap[w.heap.size]? = some (bx k) := by rw [hV]; exact (Below.heap_alloc _ _ _ (by simp)).trans (heap_alloc_new w _)
  have hE : V.heap[w.heap.size + 1]? = some (ebx v) := by
    rw [hV]
    have := heap_alloc_new (w.alloc (bx k)) (ebx v)
    rwa [World.size_alloc] at this
  have hV' := h.keep0 TV
  obtain ⟨ob, hu, hmp⟩ := (show MapAt V.drew b _ _ from hV'.mp.kept rfl).set (t := 141) Tryz.underlying141 (maxLen_big (by have := h.len; omega)) hk (ev v)
  obtain ⟨W1, hW⟩ : ∃ W1, W1 = setBlock V.drew b ob := ⟨_, rfl⟩
  rw [← hW] at hu hmp
  have T1 : Touch [b] V W1 := by rw [hW]; exact touch_setBlock ((Touch.refl _ _).drew) (Or.inl (by simp)) _
  have hlt := h.lt
  have hbl := hlt b (by simp)
  have O1 : Oq W1 o G c.e (keysL xs) := hV'.oq.keep T1 (fun i hi hh => by simp only [List.mem_singleton] at hh; subst hh; exact h.bg hi)
  have m1 : Md W1 m c now b o := T1.keep hV'.md (by simpa using h.mb.symm)
  have B1 : W1.heap[w.heap.size]? = some (bx k) := T1.keep hB (by simp; omega)
  have hz1 : w.heap.size + 2 ≤ W1.heap.size := by have := T1.size; have := block_lt hE; omega
  have sA : ∀ w', Touch G W1 w' → w'.cell? ⟨m, 9, none⟩ = some (.pointer (some ⟨o, 0, none⟩)) := fun w' t => (show Md w' m c now b o from t.keep m1 h.mg).cs.c9
  have sB : ∀ w', Touch G W1 w' → w'.cell? ⟨w.heap.size, 0, none⟩ = some (.int .u16 k.1) := fun w' t => by
    have := t.keep B1 (fun hh => by have := hlt w.heap.size (by simp [hh]); omega)
    unfold bx at this
    simp [World.cell?, this]
  have sC : ∀ w', Touch G W1 w' → w'.cell? ⟨w.heap.size, 1, none⟩ = some (.string k.2) := fun w' t => by
    have := t.keep B1 (fun hh => by have := hlt w.heap.size (by simp [hh]); omega)
    unfold bx at this
    simp [World.cell?, this]
  have HU : Hid (∀ w2, Touch [] W1 w2 → Calls Tryz.prog 115 #[PT o, kv k] w2 fun e w' => e = .returned (.tuple #[kv (useG c.e (keysL xs) k), .bool false, .int .i64 0]) ∧ Ch w2 o G c.e (useL c.e (keysL xs) k) w') := fun w2 t => by
    have := useO w2 o G c.e (keysL xs) k hk h64 (by rw [keysL_len]; have := h.len; omega) (O1.keep0 t)
    rw [hb] at this
    exact this
  have HP : Hid (∀ w2 w3 W, Touch [] W1 w2 → Ch w2 o G c.e (useL c.e (keysL xs) k) w3 → (Touch [] w3 W ∨ ∃ q, Touch [q] w3 W ∧ W1.heap.size ≤ q ∧ q < w2.heap.size) → Pm w m b o G c now xs k v W) := fun w2 w3 W t2 c3 t4 => put_mid h TV hW hmp t2 c3 t4
  have HQ : Hid (∀ w2 w3, w2.heap[W1.heap.size]? = some (bx kz) → Ch w2 o G c.e (useL c.e (keysL xs) k) w3 → w3.heap[W1.heap.size]? = some (bx kz)) := fun w2 w3 q c3 => c3.block q (fun hh => by have := hlt W1.heap.size (by simp [hh]); omega)
  have c8 : V.cell? ⟨m, 8, none⟩ = some (.map (some b)) := hV'.md.cs.c8
  unfold bx at hB
  unfold ebx at hE
  have b0 : V.cell? ⟨w.heap.size, 0, none⟩ = some (.int .u16 k.1) := by simp [World.cell?, hB]
  have b1 : V.cell? ⟨w.heap.size, 1, none⟩ = some (.string k.2) := by simp [World.cell?, hB]
  have e0 : V.cell? ⟨w.heap.size + 1, 0, none⟩ = some (.int .i64 v.1.1) := by simp [World.cell?, hE]
  have e1 : V.cell? ⟨w.heap.size + 1, 1, none⟩ = some (.int .i64 v.1.2.1) := by simp [World.cell?, hE]
  have e2 : V.cell? ⟨w.heap.size + 1, 2, none⟩ = some (.int .i64 v.1.2.2.1) := by simp [World.cell?, hE]
  have e3 : V.cell? ⟨w.heap.size + 1, 3, none⟩ = some (.int .i64 v.1.2.2.2) := by simp [World.cell?, hE]
  have e4 : V.cell? ⟨w.heap.size + 1, 4, none⟩ = some (.int .i64 v.2) := by simp [World.cell?, hE]
  have tA : Hid (Touch [] W1 (W1.alloc (bx kz)).drew) := ((Touch.refl _ _).alloc _).drew
  have qA : Hid ((W1.alloc (bx kz)).drew.heap[W1.heap.size]? = some (bx kz)) := heap_alloc_new W1 _
  have tB : Hid (Touch [] W1 W1.drew) := (Touch.refl _ _).drew
  have SA : Hid (∀ w2 w3, Touch [] W1 w2 → Ch w2 o G c.e (useL c.e (keysL xs) k) w3 → Touch G W1 w3) := fun w2 w3 t c3 => by
    obtain ⟨G', c1, c2, c4⟩ := c3
    exact (t.mono (fun _ e => by cases e)).trans' c2
  have HEnd : Hid (∀ W, Pm w m b o G c now xs k v W → Mc w m (m :: b :: G) c now (putL c.e xs k v) W) := fun W p => p.end1 h.nd h.gd hv hb
  have hgo : goneL c.e xs k = [] := by unfold goneL; rw [hb]; rfl
  rw [hgo]
  have hbb : b < W1.heap.size := by omega
  clear h hV' hmp T1 O1 m1 B1 hB hE hW hv hk h64 hb hgo TV
  generalize useG c.e (keysL xs) k = g at *
  generalize useL c.e (keysL xs) k = ys at *
  generalize putL c.e xs k v = zs at *
  unfold PT kv ev at *
  unfold bx at HQ tA qA
  unfold kz at HQ tA qA
  go_enter Tryz.func76, Tryz.ntmps76
  go_wp2
  unfold bx ebx at hV
  rw [← hV]
  clear hV
  go_region
  clear b0 b1 e0 e1 e2 e3 e4 c8 hu
  go_upto_region 2 with fail
  go_region_held3 (fun w' => Touch G W1 w') (repeat (first | assumption | exact Touch.refl _ _ | apply Touch.alloc | apply Touch.drew | (refine Touch.setCell ?_ (Or.inr (by simp)) _)))
    (first
      | (go_at_call 115; refine (HU.out _ tA.out).mono ?_; rintro e w3 ⟨rfl, c3⟩; have s3 := SA.out _ _ tA.out c3; have hq := HQ.out _ _ qA.out c3; have y0 : w3.cell? ⟨W1.heap.size, 0, none⟩ = some (.int .u16 0) := (by simp [World.cell?, hq]); have y1 : w3.cell? ⟨W1.heap.size, 1, none⟩ = some (.string ⟨#[]⟩) := (by simp [World.cell?, hq]); have y2 : w3.frozen? ⟨W1.heap.size, 0, none⟩ = false := (by simp [World.frozen?, hq]); have y3 : w3.frozen? ⟨W1.heap.size, 1, none⟩ = false := (by simp [World.frozen?, hq]); have C3 := hid c3; clear c3)
      | (go_at_call 115; refine (HU.out _ tB.out).mono ?_; rintro e w3 ⟨rfl, c3⟩; have s3 := SA.out _ _ tB.out c3; have C3 := hid c3; clear c3))
  · clear sA sB sC
    obtain ⟨W, hWd⟩ : ∃ W, W = w3.alloc (.cells #[.int .u16 g.1, .string g.2] 54) := ⟨_, rfl⟩
    have P := hid (HP.out _ _ W tB.out C3.out (Or.inl (by rw [hWd]; exact (Touch.refl _ _).alloc _)))
    have hqq : W.heap[w3.heap.size]? = some (.cells #[.int .u16 g.1, .string g.2] 54 (0, 0)) := by rw [hWd]; exact heap_alloc_new w3 _
    have hqb : w3.heap.size ≠ b := by have := s3.size; omega
    rw [← hWd]
    clear hWd s3
    generalize w3.heap.size = q at *
    go_wp2
    go_ret
    exact ⟨_, rfl, RT.nil _ _, HEnd.out _ P.out⟩
  · clear sA sB sC
    obtain ⟨W, hWd⟩ : ∃ W, W = (w3.setCell ⟨W1.heap.size, 0, none⟩ (.int .u16 g.1)).setCell ⟨W1.heap.size, 1, none⟩ (.string g.2) := ⟨_, rfl⟩
    have P := hid (HP.out _ _ W tA.out C3.out (Or.inr ⟨W1.heap.size, by rw [hWd]; exact tset2 _ _ _ _, Nat.le_refl _, block_lt qA.out⟩))
    have hqq : W.heap[W1.heap.size]? = some (.cells #[.int .u16 g.1, .string g.2] 54 (0, 0)) := by rw [hWd]; exact bset (bset hq _) _
    have hqb : W1.heap.size ≠ b := by omega
    rw [← hWd]
    clear hWd s3 y0 y1 y2 y3 hq
    clear tA qA HQ tB SA HU HP C3
    generalize W1.heap.size = q at *
    go_wp2
    go_ret
    exact ⟨_, rfl, RT.nil _ _, HEnd.out _ P.out⟩
set_option maxHeartbeats 4000000 in
theorem put41_go (w : World) (m b o : Nat) (G : List Nat) (c : Cf) (now : Int) (xs : List En) (h : Mb w m b o G c now xs) (k : K) (hk : Ok k) (h64 : k.2.size ≤ 64) (v : V) (hv : right v.1 = true ∧ 0 ≤ v.2 ∧ v.2 ≤ now) (hb : useB c.e (keysL xs) k = true) :
    Calls Tryz.prog 76 #[PT m, kv k, ev v] w fun e w' => ∃ u, e = .returned u ∧ RT 54 w' u (goneL c.e xs k) ∧ Mc w m (m :: b :: G) c now (putL c.e xs k v) w' := by
  obtain ⟨V, hV⟩ : ∃ V, V = (w.alloc (bx k)).alloc (ebx v) := ⟨_, rfl⟩
  have TV : Touch [] w V := by rw [hV]; exact ((Touch.refl _ _).alloc _).alloc _
  have hB : V.heap[w.heap.size]? = some (bx k) := by rw [hV]; exact (Below.heap_alloc _ _ _ (by simp)).trans (heap_alloc_new w _)
  have hE : V.heap[w.heap.size + 1]? = some (ebx v) := by
    rw [hV]
    have := heap_alloc_new (w.alloc (bx k)) (ebx v)
    rwa [World.size_alloc] at this
  have hV' := h.keep0 TV
  obtain ⟨ob, hu, hmp⟩ := (show MapAt V.drew b _ _ from hV'.mp.kept rfl).set (t := 141) Tryz.underlying141 (maxLen_big (by have := h.len; omega)) hk (ev v)
  obtain ⟨W1, hW⟩ : ∃ W1, W1 = setBlock V.drew b ob := ⟨_, rfl⟩
  rw [← hW] at hu hmp
  have T1 : Touch [b] V W1 := by rw [hW]; exact touch_setBlock ((Touch.refl _ _).drew) (Or.inl (by simp)) _
  have hlt := h.lt
  have hbl := hlt b (by simp)
  have O1 : Oq W1 o G c.e (keysL xs) := hV'.oq.keep T1 (fun i hi hh => by simp only [List.mem_singleton] at hh; subst hh; exact h.bg hi)
  have m1 : Md W1 m c now b o := T1.keep hV'.md (by simpa using h.mb.symm)
  have B1 : W1.heap[w.heap.size]? = some (bx k) := T1.keep hB (by simp; omega)
  have hz1 : w.heap.size + 2 ≤ W1.heap.size := by have := T1.size; have := block_lt hE; omega
  have sA : ∀ w', Touch G W1 w' → w'.cell? ⟨m, 9, none⟩ = some (.pointer (some ⟨o, 0, none⟩)) := fun w' t => (show Md w' m c now b o from t.keep m1 h.mg).cs.c9
  have sB : ∀ w', Touch G W1 w' → w'.cell? ⟨w.heap.size, 0, none⟩ = some (.int .u16 k.1) := fun w' t => by
    have := t.keep B1 (fun hh => by have := hlt w.heap.size (by simp [hh]); omega)
    unfold bx at this
    simp [World.cell?, this]
  have sC : ∀ w', Touch G W1 w' → w'.cell? ⟨w.heap.size, 1, none⟩ = some (.string k.2) := fun w' t => by
    have := t.keep B1 (fun hh => by have := hlt w.heap.size (by simp [hh]); omega)
    unfold bx at this
    simp [World.cell?, this]
  have HU : Hid (∀ w2, Touch [] W1 w2 → Calls Tryz.prog 115 #[PT o, kv k] w2 fun e w' => e = .returned (.tuple #[kv (useG c.e (keysL xs) k), .bool true, .int .i64 0]) ∧ Ch w2 o G c.e (useL c.e (keysL xs) k) w') := fun w2 t => by
    have := useO w2 o G c.e (keysL xs) k hk h64 (by rw [keysL_len]; have := h.len; omega) (O1.keep0 t)
    rw [hb] at this
    exact this
  have HP : Hid (∀ w2 w3 W, Touch [] W1 w2 → Ch w2 o G c.e (useL c.e (keysL xs) k) w3 → (Touch [] w3 W ∨ ∃ q, Touch [q] w3 W ∧ W1.heap.size ≤ q ∧ q < w2.heap.size) → Pm w m b o G c now xs k v W) := fun w2 w3 W t2 c3 t4 => put_mid h TV hW hmp t2 c3 t4
  have HQ : Hid (∀ w2 w3, w2.heap[W1.heap.size]? = some (bx kz) → Ch w2 o G c.e (useL c.e (keysL xs) k) w3 → w3.heap[W1.heap.size]? = some (bx kz)) := fun w2 w3 q c3 => c3.block q (fun hh => by have := hlt W1.heap.size (by simp [hh]); omega)
  have c8 : V.cell? ⟨m, 8, none⟩ = some (.map (some b)) := hV'.md.cs.c8
  unfold bx at hB
  unfold ebx at hE
  have b0 : V.cell? ⟨w.heap.size, 0, none⟩ = some (.int .u16 k.1) := by simp [World.cell?, hB]
  have b1 : V.cell? ⟨w.heap.size, 1, none⟩ = some (.string k.2) := by simp [World.cell?, hB]
  have e0 : V.cell? ⟨w.heap.size + 1, 0, none⟩ = some (.int .i64 v.1.1) := by simp [World.cell?, hE]
  have e1 : V.cell? ⟨w.heap.size + 1, 1, none⟩ = some (.int .i64 v.1.2.1) := by simp [World.cell?, hE]
  have e2 : V.cell? ⟨w.heap.size + 1, 2, none⟩ = some (.int .i64 v.1.2.2.1) := by simp [World.cell?, hE]
  have e3 : V.cell? ⟨w.heap.size + 1, 3, none⟩ = some (.int .i64 v.1.2.2.2) := by simp [World.cell?, hE]
  have e4 : V.cell? ⟨w.heap.size + 1, 4, none⟩ = some (.int .i64 v.2) := by simp [World.cell?, hE]
  have tA : Hid (Touch [] W1 (W1.alloc (bx kz)).drew) := ((Touch.refl _ _).alloc _).drew
  have qA : Hid ((W1.alloc (bx kz)).drew.heap[W1.heap.size]? = some (bx kz)) := heap_alloc_new W1 _
  have tB : Hid (Touch [] W1 W1.drew) := (Touch.refl _ _).drew
  have SA : Hid (∀ w2 w3, Touch [] W1 w2 → Ch w2 o G c.e (useL c.e (keysL xs) k) w3 → Touch G W1 w3) := fun w2 w3 t c3 => by
    obtain ⟨G', c1, c2, c4⟩ := c3
    exact (t.mono (fun _ e => by cases e)).trans' c2
  have HEnd : Hid (∀ W, Pm w m b o G c now xs k v W → (W.cell? ⟨m, 8, none⟩ = some (.map (some b)) ∧ W.cell? ⟨m, 8, none⟩ = some (.map (some b))) ∧ ∀ ty, ∃ ob, (Builtin.delete_ #[141, 54] ty #[.map (some b), kv (useG c.e (keysL xs) k)]).run Tryz.prog W.drew = .ok (.tuple #[]) (setBlock W.drew b ob) ∧ b ≠ w.heap.size ∧ Mc w m (m :: b :: G) c now (putL c.e xs k v) (setBlock W.drew b ob)) := fun W p => by
    refine ⟨⟨p.md.cs.c8, p.md.cs.c8⟩, fun ty => ?_⟩
    obtain ⟨ob2, u1, u2⟩ := p.end2 h.nd h.ok hk h.gd hv hb ty
    exact ⟨ob2, u1, by omega, u2⟩
  have hgo : goneL c.e xs k = [useG c.e (keysL xs) k] := by unfold goneL; rw [hb]; rfl
  rw [hgo]
  have hbb : b < W1.heap.size := by omega
  clear h hV' hmp T1 O1 m1 B1 hB hE hW hv hk h64 hb hgo TV
  generalize useG c.e (keysL xs) k = g at *
  generalize useL c.e (keysL xs) k = ys at *
  generalize putL c.e xs k v = zs at *
  unfold PT kv ev at *
  unfold bx at HQ tA qA
  unfold kz at HQ tA qA
  go_enter Tryz.func76, Tryz.ntmps76
  go_wp2
  unfold bx ebx at hV
  rw [← hV]
  clear hV
  go_region
  clear b0 b1 e0 e1 e2 e3 e4 c8 hu
  go_upto_region 2 with fail
  go_region_held3 (fun w' => Touch G W1 w') (repeat (first | assumption | exact Touch.refl _ _ | apply Touch.alloc | apply Touch.drew | (refine Touch.setCell ?_ (Or.inr (by simp)) _)))
    (first
      | (go_at_call 115; refine (HU.out _ tA.out).mono ?_; rintro e w3 ⟨rfl, c3⟩; have s3 := SA.out _ _ tA.out c3; have hq := HQ.out _ _ qA.out c3; have y0 : w3.cell? ⟨W1.heap.size, 0, none⟩ = some (.int .u16 0) := (by simp [World.cell?, hq]); have y1 : w3.cell? ⟨W1.heap.size, 1, none⟩ = some (.string ⟨#[]⟩) := (by simp [World.cell?, hq]); have y2 : w3.frozen? ⟨W1.heap.size, 0, none⟩ = false := (by simp [World.frozen?, hq]); have y3 : w3.frozen? ⟨W1.heap.size, 1, none⟩ = false := (by simp [World.frozen?, hq]); have C3 := hid c3; clear c3)
      | (go_at_call 115; refine (HU.out _ tB.out).mono ?_; rintro e w3 ⟨rfl, c3⟩; have s3 := SA.out _ _ tB.out c3; have C3 := hid c3; clear c3))
  · clear sA sB sC
    obtain ⟨W, hWd⟩ : ∃ W, W = w3.alloc (.cells #[.int .u16 g.1, .string g.2] 54) := ⟨_, rfl⟩
    have P := hid (HP.out _ _ W tB.out C3.out (Or.inl (by rw [hWd]; exact (Touch.refl _ _).alloc _)))
    have hqq : W.heap[w3.heap.size]? = some (.cells #[.int .u16 g.1, .string g.2] 54 (0, 0)) := by rw [hWd]; exact heap_alloc_new w3 _
    have hqb : w3.heap.size ≠ b := by have := s3.size; omega
    rw [← hWd]
    clear hWd s3
    generalize w3.heap.size = q at *
    obtain ⟨⟨c8, _⟩, hdel⟩ := HEnd.out W P.out
    obtain ⟨ob2, hu2, _, hmc⟩ := hdel 0
    have q0 : W.cell? ⟨q, 0, none⟩ = some (.int .u16 g.1) := by simp [World.cell?, hqq]
    have q1 : W.cell? ⟨q, 1, none⟩ = some (.string g.2) := by simp [World.cell?, hqq]
    obtain ⟨W4, hW4⟩ : ∃ W4, W4 = setBlock W.drew b ob2 := ⟨_, rfl⟩
    rw [← hW4] at hu2 hmc
    have k0 : W4.cell? ⟨q, 0, none⟩ = some (.int .u16 g.1) := by rw [hW4, cell_setBlock _ hqb]; exact q0
    have k1 : W4.cell? ⟨q, 1, none⟩ = some (.string g.2) := by rw [hW4, cell_setBlock _ hqb]; exact q1
    have HM := hid hmc
    clear hdel hW4 hmc hqq
    go_upto_region 5 with fail
    go_region
    clear q0 q1 c8
    go_wp2
    go_ret
    exact ⟨_, rfl, RT.one (heap_alloc_new W4 _), HM.out.keep0 ((Touch.refl _ _).alloc _)⟩
  · clear sA sB sC
    obtain ⟨W, hWd⟩ : ∃ W, W = (w3.setCell ⟨W1.heap.size, 0, none⟩ (.int .u16 g.1)).setCell ⟨W1.heap.size, 1, none⟩ (.string g.2) := ⟨_, rfl⟩
    have P := hid (HP.out _ _ W tA.out C3.out (Or.inr ⟨W1.heap.size, by rw [hWd]; exact tset2 _ _ _ _, Nat.le_refl _, block_lt qA.out⟩))
    have hqq : W.heap[W1.heap.size]? = some (.cells #[.int .u16 g.1, .string g.2] 54 (0, 0)) := by rw [hWd]; exact bset (bset hq _) _
    have hqb : W1.heap.size ≠ b := by omega
    rw [← hWd]
    clear hWd s3 y0 y1 y2 y3 hq
    clear tA qA HQ tB SA HU HP C3
    generalize W1.heap.size = q at *
    obtain ⟨⟨c8, _⟩, hdel⟩ := HEnd.out W P.out
    obtain ⟨ob2, hu2, _, hmc⟩ := hdel 0
    have q0 : W.cell? ⟨q, 0, none⟩ = some (.int .u16 g.1) := by simp [World.cell?, hqq]
    have q1 : W.cell? ⟨q, 1, none⟩ = some (.string g.2) := by simp [World.cell?, hqq]
    obtain ⟨W4, hW4⟩ : ∃ W4, W4 = setBlock W.drew b ob2 := ⟨_, rfl⟩
    rw [← hW4] at hu2 hmc
    have k0 : W4.cell? ⟨q, 0, none⟩ = some (.int .u16 g.1) := by rw [hW4, cell_setBlock _ hqb]; exact q0
    have k1 : W4.cell? ⟨q, 1, none⟩ = some (.string g.2) := by rw [hW4, cell_setBlock _ hqb]; exact q1
    have HM := hid hmc
    clear hdel hW4 hmc hqq
    go_upto_region 5 with fail
    go_region
    clear q0 q1 c8
    go_wp2
    go_ret
    exact ⟨_, rfl, RT.one (heap_alloc_new W4 _), HM.out.keep0 ((Touch.refl _ _).alloc _)⟩
theorem putM (w : World) (m : Nat) (F : List Nat) (c : Cf) (now : Int) (xs : List En) (h : Mq w m F c now xs) (k : K) (hk : Ok k) (h64 : k.2.size ≤ 64) (v : V) (hv : right v.1 = true ∧ 0 ≤ v.2 ∧ v.2 ≤ now) :
    Calls Tryz.prog 76 #[PT m, kv k, ev v] w fun e w' => ∃ u, e = .returned u ∧ RT 54 w' u (goneL c.e xs k) ∧ Mc w m F c now (putL c.e xs k v) w' := by
  obtain ⟨b, o, G, rfl, h⟩ := h
  cases hb : useB c.e (keysL xs) k with
  | false => exact put41_no w m b o G c now xs h k hk h64 v hv hb
  | true => exact put41_go w m b o G c now xs h k hk h64 v hv hb
end Go.Proofs.YtpefbmheblfbeaaGreat.Me
/- The contract of Keep; a key's space is a number of 16 bits, a name's length fits. -/
namespace Go.Proofs.YtpefbmheblfbeaaGreat.Me
open Go.RowKit Go.Sort Go.Maps Go.ChangeMaps Go.WideMaps
set_option maxRecDepth 100000
set_option linter.unusedVariables false
set_option linter.unusedSimpArgs false
def obx (x : O) : Obj := .cells #[.int .i64 x.1, .int .i64 x.2.1, .int .i64 x.2.2.1, .int .i64 x.2.2.2] 58
theorem pairE_ok {k : K} {x : O} (h : pairE k x = 0) : k.2.size ≤ 64 ∧ right x = true := by
  unfold pairE at h
  split at h
  · omega
  · split at h
    · exact ⟨by omega, by assumption⟩
    · omega
def keepE (now n : Int) (k : K) (x : O) : Int := if tickE now n = 0 then pairE k x else tickE now n
def kpB (c : Cf) (now n : Int) (k : K) (x : O) : Bool := decide (keepE now n k x = 0) && keepsC c x
def kpG (c : Cf) (now n : Int) (xs : List En) (k : K) (x : O) : List K := if kpB c now n k x then goneL c.e xs k else []
def kpN (now n : Int) (k : K) (x : O) : Int := if keepE now n k x = 0 then n else now
def kpX (c : Cf) (now n : Int) (xs : List En) (k : K) (x : O) : List En := if kpB c now n k x then putL c.e xs k (x, n) else xs
structure KpV (w : World) (k : K) (x : O) (V : World) : Prop where
  t : Touch [] w V
  hB : V.heap[w.heap.size]? = some (bx k)
  hO : V.heap[w.heap.size + 1]? = some (obx x)
theorem KpV.mk' (w : World) (k : K) (x : O) : KpV w k x ((w.alloc (bx k)).alloc (obx x)) :=
  ⟨((Touch.refl _ _).alloc _).alloc _, (Below.heap_alloc _ _ _ (by simp)).trans (heap_alloc_new w _), by
    have := heap_alloc_new (w.alloc (bx k)) (obx x)
    rwa [World.size_alloc] at this⟩
theorem KpV.cells {w V w2 : World} {k : K} {x : O} {F : List Nat} (h : KpV w k x V) (t : Touch F V w2) (hF : ∀ i ∈ F, i < w.heap.size) : (w2.cell? ⟨w.heap.size, 0, none⟩ = some (.int .u16 k.1) ∧ w2.cell? ⟨w.heap.size, 1, none⟩ = some (.string k.2)) ∧ w2.cell? ⟨w.heap.size + 1, 0, none⟩ = some (.int .i64 x.1) ∧ w2.cell? ⟨w.heap.size + 1, 1, none⟩ = some (.int .i64 x.2.1) ∧ w2.cell? ⟨w.heap.size + 1, 2, none⟩ = some (.int .i64 x.2.2.1) ∧ w2.cell? ⟨w.heap.size + 1, 3, none⟩ = some (.int .i64 x.2.2.2) := by
  have h1 := t.keep h.hB (fun hh => by have := hF _ hh; omega)
  have h2 := t.keep h.hO (fun hh => by have := hF _ hh; omega)
  unfold bx at h1
  unfold obx at h2
  simp [World.cell?, h1, h2]
theorem keep18_tick (w : World) (m : Nat) (F : List Nat) (c : Cf) (now n : Int) (xs : List En) (h : Mq w m F c now xs) (k : K) (x : O) (ht : tickE now n ≠ 0) :
    Calls Tryz.prog 21 #[PT m, .int .i64 n, kv k, ov x] w fun e w' => e = .returned (.tuple #[.bool false, .slice none 0 0, .int .i64 (tickE now n)]) ∧ Touch [] w w' := by
  obtain ⟨V, hV⟩ : ∃ V, V = (w.alloc (bx k)).alloc (obx x) := ⟨_, rfl⟩
  have TV : Hid (Touch [] w V) := by rw [hV]; exact (KpV.mk' w k x).t
  have HT := hid ((h.keep0 TV.out).tick n)
  clear h
  have hb : ((tickE now n) == 0) = false := by simp [ht]
  clear ht
  generalize tickE now n = E at *
  unfold PT kv ov at *
  go_enter Tryz.func21, Tryz.ntmps21
  go_upto_region 1 with fail
  unfold bx obx at hV
  rw [← hV]
  clear hV
  go_wp2_with (go_at_call 73; refine HT.out.mono ?_; rintro e w2 ⟨rfl, e2⟩; rw [e2]; clear e2 w2)
  exact bodyPost_ret (v := .tuple #[.bool false, .slice none 0 0, .int .i64 E]) (by simp [results, Tryz.results21, go_sem]) rfl ⟨rfl, TV.out⟩
theorem keep18_pair (w : World) (m : Nat) (F : List Nat) (c : Cf) (now n : Int) (xs : List En) (h : Mq w m F c now xs) (k : K) (x : O) (ht : tickE now n = 0) (hp : pairE k x ≠ 0) :
    Calls Tryz.prog 21 #[PT m, .int .i64 n, kv k, ov x] w fun e w' => e = .returned (.tuple #[.bool false, .slice none 0 0, .int .i64 (pairE k x)]) ∧ Touch [] w w' := by
  obtain ⟨V, hV⟩ : ∃ V, V = (w.alloc (bx k)).alloc (obx x) := ⟨_, rfl⟩
  have KV : KpV w k x V := by rw [hV]; exact KpV.mk' w k x
  have TV := hid KV.t
  have HT := hid ((h.keep0 TV.out).tick n)
  rw [ht] at HT
  have HP := hid (pair46 V k x)
  obtain ⟨⟨b0, b1⟩, o0, o1, o2, o3⟩ := KV.cells (Touch.refl [] V) (fun _ e => by cases e)
  clear h ht KV
  have hb : ((pairE k x) == 0) = false := by simp [hp]
  clear hp
  generalize pairE k x = E at *
  unfold PT kv ov at *
  go_enter Tryz.func21, Tryz.ntmps21
  go_upto_region 1 with fail
  unfold bx obx at hV
  rw [← hV]
  clear hV
  go_wp2_with (first
    | (go_at_call 73; refine HT.out.mono ?_; rintro e w2 ⟨rfl, e2⟩; rw [e2]; clear e2 w2)
    | (go_at_call 74; refine HP.out.mono ?_; rintro e w3 ⟨rfl, t3⟩; have T3 := hid t3; clear t3))
  exact bodyPost_ret (v := .tuple #[.bool false, .slice none 0 0, .int .i64 E]) (by simp [results, Tryz.results21, go_sem]) rfl ⟨rfl, TV.out.trans' T3.out⟩
theorem Mq.keeps {w : World} {m : Nat} {F : List Nat} {c : Cf} {now : Int} {xs : List En} (h : Mq w m F c now xs) (x : O) : Calls Tryz.prog 75 #[PT m, ov x] w fun e w' => e = .returned (.bool (keepsC c x)) ∧ Touch [] w w' := by
  obtain ⟨b, o, G, rfl, h⟩ := h
  exact keeps47 w m c now b o h.md x
set_option maxHeartbeats 1000000 in
theorem keep18_not (w : World) (m : Nat) (F : List Nat) (c : Cf) (now n : Int) (xs : List En) (h : Mq w m F c now xs) (k : K) (x : O) (ht : tickE now n = 0) (hp : pairE k x = 0) (hk : keepsC c x = false) :
    Calls Tryz.prog 21 #[PT m, .int .i64 n, kv k, ov x] w fun e w' => e = .returned (.tuple #[.bool false, .slice none 0 0, .int .i64 0]) ∧ Mc w m F c n xs w' := by
  obtain ⟨V, hV⟩ : ∃ V, V = (w.alloc (bx k)).alloc (obx x) := ⟨_, rfl⟩
  have KV : KpV w k x V := by rw [hV]; exact KpV.mk' w k x
  have TV := hid KV.t
  have HT := hid ((h.keep0 TV.out).tick n)
  rw [ht] at HT
  have HP := hid (pair46 V k x)
  rw [hp] at HP
  obtain ⟨q1, q2⟩ := tickE_ok ht
  have hF := h.lt
  have hm : m < w.heap.size := hF m h.mem
  have hne : w.heap.size ≠ m := by omega
  have hne1 : w.heap.size + 1 ≠ m := by omega
  have HC : Hid (∀ w2, Touch [] V w2 → ((w2.cell? ⟨w.heap.size, 0, none⟩ = some (.int .u16 k.1) ∧ w2.cell? ⟨w.heap.size, 1, none⟩ = some (.string k.2)) ∧ w2.cell? ⟨w.heap.size + 1, 0, none⟩ = some (.int .i64 x.1) ∧ w2.cell? ⟨w.heap.size + 1, 1, none⟩ = some (.int .i64 x.2.1) ∧ w2.cell? ⟨w.heap.size + 1, 2, none⟩ = some (.int .i64 x.2.2.1) ∧ w2.cell? ⟨w.heap.size + 1, 3, none⟩ = some (.int .i64 x.2.2.2)) ∧ w2.cell? ⟨m, 7, none⟩ = some (.int .i64 now) ∧ w2.frozen? ⟨m, 7, none⟩ = false) := fun w2 t => ⟨KV.cells t (fun _ e => by cases e), (h.keep0 (TV.out.trans' t)).c7⟩
  have HK : Hid (∀ w2, Touch [] V w2 → Calls Tryz.prog 75 #[PT m, ov x] (w2.setCell ⟨m, 7, none⟩ (.int .i64 n)) fun e w' => e = .returned (.bool false) ∧ Mc w m F c n xs w') := fun w2 t => by
    have C := (h.keep0 (TV.out.trans' t)).time q1 q2
    obtain ⟨F', C1, C2, C3⟩ := C
    have := C1.keeps x
    rw [hk] at this
    refine this.mono ?_
    rintro e w4 ⟨rfl, t4⟩
    exact ⟨rfl, (Mc.keep0 (⟨F', C1, C2, C3⟩ : Mc w2 m F c n xs _) t4).from0 (TV.out.trans' t)⟩
  obtain ⟨⟨⟨b0, b1⟩, o0, o1, o2, o3⟩, g0, g1⟩ := HC.out V (Touch.refl _ _)
  clear h ht hp hk KV q1 q2 hF
  unfold PT kv ov at *
  go_enter Tryz.func21, Tryz.ntmps21
  go_upto_region 1 with fail
  unfold bx obx at hV
  rw [← hV]
  clear hV
  go_wp2_with (first
    | (go_at_call 73; refine HT.out.mono ?_; rintro e w2 ⟨rfl, e2⟩; rw [e2]; clear e2 w2)
    | (go_at_call 74; refine HP.out.mono ?_; rintro e w3 ⟨rfl, t3⟩; have T3 := hid t3; clear b0 b1 o0 o1 o2 o3 g0 g1; obtain ⟨⟨⟨b0, b1⟩, o0, o1, o2, o3⟩, g0, g1⟩ := HC.out _ t3; clear t3)
    | (go_at_call 75; refine (HK.out _ T3.out).mono ?_; rintro e w4 ⟨rfl, hc⟩; have C4 := hid hc; clear hc))
  exact bodyPost_ret (v := .tuple #[.bool false, .slice none 0 0, .int .i64 0]) (by simp [results, Tryz.results21, go_sem]) rfl ⟨rfl, C4.out⟩
def PtQ (w : World) (m : Nat) (F : List Nat) (c : Cf) (n : Int) (gs : List K) (ys : List En) (u : Value) (w' : World) : Prop := RT 54 w' u gs ∧ Mc w m F c n ys w'
set_option maxHeartbeats 1000000 in
theorem keep18_yes (w : World) (m : Nat) (F : List Nat) (c : Cf) (now n : Int) (xs : List En) (h : Mq w m F c now xs) (k : K) (ok : Ok k) (x : O) (ht : tickE now n = 0) (hp : pairE k x = 0) (hk : keepsC c x = true) :
    Calls Tryz.prog 21 #[PT m, .int .i64 n, kv k, ov x] w fun e w' => ∃ u, e = .returned (.tuple #[.bool true, u, .int .i64 0]) ∧ PtQ w m F c n (goneL c.e xs k) (putL c.e xs k (x, n)) u w' := by
  obtain ⟨V, hV⟩ : ∃ V, V = (w.alloc (bx k)).alloc (obx x) := ⟨_, rfl⟩
  have KV : KpV w k x V := by rw [hV]; exact KpV.mk' w k x
  have TV := hid KV.t
  have HT := hid ((h.keep0 TV.out).tick n)
  rw [ht] at HT
  have HP := hid (pair46 V k x)
  rw [hp] at HP
  obtain ⟨q1, q2⟩ := tickE_ok ht
  obtain ⟨p1, p2⟩ := pairE_ok hp
  have n0 := h.gd.n0
  have hF := h.lt
  have hm : m < w.heap.size := hF m h.mem
  have hne : w.heap.size ≠ m := by omega
  have hne1 : w.heap.size + 1 ≠ m := by omega
  have HC : Hid (∀ w2, Touch [] V w2 → ((w2.cell? ⟨w.heap.size, 0, none⟩ = some (.int .u16 k.1) ∧ w2.cell? ⟨w.heap.size, 1, none⟩ = some (.string k.2)) ∧ w2.cell? ⟨w.heap.size + 1, 0, none⟩ = some (.int .i64 x.1) ∧ w2.cell? ⟨w.heap.size + 1, 1, none⟩ = some (.int .i64 x.2.1) ∧ w2.cell? ⟨w.heap.size + 1, 2, none⟩ = some (.int .i64 x.2.2.1) ∧ w2.cell? ⟨w.heap.size + 1, 3, none⟩ = some (.int .i64 x.2.2.2)) ∧ w2.cell? ⟨m, 7, none⟩ = some (.int .i64 now) ∧ w2.frozen? ⟨m, 7, none⟩ = false) := fun w2 t => ⟨KV.cells t (fun _ e => by cases e), (h.keep0 (TV.out.trans' t)).c7⟩
  have HK : Hid (∀ w2, Touch [] V w2 → Calls Tryz.prog 75 #[PT m, ov x] (w2.setCell ⟨m, 7, none⟩ (.int .i64 n)) fun e w' => e = .returned (.bool true) ∧ Mc w m F c n xs w' ∧ Touch [m] V w') := fun w2 t => by
    have C := (h.keep0 (TV.out.trans' t)).time q1 q2
    obtain ⟨F', C1, C2, C3⟩ := C
    have := C1.keeps x
    rw [hk] at this
    refine this.mono ?_
    rintro e w4 ⟨rfl, t4⟩
    exact ⟨rfl, (Mc.keep0 (⟨F', C1, C2, C3⟩ : Mc w2 m F c n xs _) t4).from0 (TV.out.trans' t), ((t.mono (fun _ e => by cases e)).setCell (Or.inl (by simp)) _).trans' (t4.mono (fun _ e => by cases e))⟩
  have HD : Hid (∀ w2, Touch [m] V w2 → ((w2.cell? ⟨w.heap.size, 0, none⟩ = some (.int .u16 k.1) ∧ w2.cell? ⟨w.heap.size, 1, none⟩ = some (.string k.2)) ∧ w2.cell? ⟨w.heap.size + 1, 0, none⟩ = some (.int .i64 x.1) ∧ w2.cell? ⟨w.heap.size + 1, 1, none⟩ = some (.int .i64 x.2.1) ∧ w2.cell? ⟨w.heap.size + 1, 2, none⟩ = some (.int .i64 x.2.2.1) ∧ w2.cell? ⟨w.heap.size + 1, 3, none⟩ = some (.int .i64 x.2.2.2))) := fun w2 t => KV.cells t (fun i hi => by simp only [List.mem_singleton] at hi; subst hi; exact hm)
  have HU : Hid (∀ w4, Mc w m F c n xs w4 → Calls Tryz.prog 76 #[PT m, kv k, ev (x, n)] w4 fun e w' => ∃ u, e = .returned u ∧ PtQ w m F c n (goneL c.e xs k) (putL c.e xs k (x, n)) u w') := fun w4 C => by
    obtain ⟨F', C1, C2, C3⟩ := C
    refine (putM w4 m F' c n xs C1 k ok p1 (x, n) ⟨p2, by show 0 ≤ n; omega, Int.le_refl _⟩).mono ?_
    rintro e w5 ⟨u, rfl, r, d⟩
    refine ⟨u, rfl, r, ?_⟩
    obtain ⟨F2, d1, d2, d3⟩ := d
    exact ⟨F2, d1, C2.trans d2 C3, C3.trans d3 C2.size⟩
  obtain ⟨⟨⟨b0, b1⟩, o0, o1, o2, o3⟩, g0, g1⟩ := HC.out V (Touch.refl _ _)
  clear h ht hp hk KV q1 q2 hF p1 p2 n0
  generalize goneL c.e xs k = gs at *
  generalize putL c.e xs k (x, n) = ys at *
  unfold PT kv ov ev at *
  simp only at HU
  go_enter Tryz.func21, Tryz.ntmps21
  go_upto_region 1 with fail
  unfold bx obx at hV
  rw [← hV]
  clear hV
  go_wp2_with (first
    | (go_at_call 73; refine HT.out.mono ?_; rintro e w2 ⟨rfl, e2⟩; rw [e2]; clear e2 w2)
    | (go_at_call 74; refine HP.out.mono ?_; rintro e w3 ⟨rfl, t3⟩; have T3 := hid t3; clear b0 b1 o0 o1 o2 o3 g0 g1; obtain ⟨⟨⟨b0, b1⟩, o0, o1, o2, o3⟩, g0, g1⟩ := HC.out _ t3; clear t3)
    | (go_at_call 75; refine (HK.out _ T3.out).mono ?_; rintro e w4 ⟨rfl, hc, t4⟩; have C4 := hid hc; clear hc b0 b1 o0 o1 o2 o3 g0 g1; obtain ⟨⟨b0, b1⟩, o0, o1, o2, o3⟩ := HD.out _ t4; clear t4)
    | (go_at_call 76; refine (HU.out _ C4.out).mono ?_; rintro e w5 ⟨u, rfl, hq⟩; have HQ := hid hq; clear hq))
  exact bodyPost_ret (v := .tuple #[.bool true, u, .int .i64 0]) (by simp [results, Tryz.results21, go_sem]) rfl ⟨u, rfl, HQ.out⟩
theorem keepM (w : World) (m : Nat) (F : List Nat) (c : Cf) (now n : Int) (xs : List En) (h : Mq w m F c now xs) (k : K) (ok : Ok k) (x : O) :
    Calls Tryz.prog 21 #[PT m, .int .i64 n, kv k, ov x] w fun e w' => ∃ u, e = .returned (.tuple #[.bool (kpB c now n k x), u, .int .i64 (keepE now n k x)]) ∧ PtQ w m F c (kpN now n k x) (kpG c now n xs k x) (kpX c now n xs k x) u w' := by
  by_cases ht : tickE now n = 0
  · by_cases hp : pairE k x = 0
    · have e : keepE now n k x = 0 := by unfold keepE; rw [if_pos ht, hp]
      cases hk : keepsC c x
      · have e2 : kpB c now n k x = false := by unfold kpB; rw [hk]; simp
        unfold kpN kpG kpX
        rw [e2, e, if_pos rfl]
        exact (keep18_not w m F c now n xs h k x ht hp hk).mono fun e w' ⟨he, t⟩ => ⟨_, he, RT.nil _ _, t⟩
      · have e2 : kpB c now n k x = true := by unfold kpB; rw [hk, e]; rfl
        unfold kpN kpG kpX
        rw [e2, e, if_pos rfl, if_pos rfl, if_pos rfl]
        exact keep18_yes w m F c now n xs h k ok x ht hp hk
    · have e : keepE now n k x = pairE k x := by unfold keepE; rw [if_pos ht]
      have e2 : kpB c now n k x = false := by unfold kpB; rw [e, decide_eq_false hp]; rfl
      unfold kpN kpG kpX
      rw [e2, e, if_neg hp]
      exact (keep18_pair w m F c now n xs h k x ht hp).mono fun e w' ⟨he, t⟩ => ⟨_, he, RT.nil _ _, (Mc.refl h).keep0 t⟩
  · have e : keepE now n k x = tickE now n := by unfold keepE; rw [if_neg ht]
    have e2 : kpB c now n k x = false := by unfold kpB; rw [e, decide_eq_false ht]; rfl
    unfold kpN kpG kpX
    rw [e2, e, if_neg ht]
    exact (keep18_tick w m F c now n xs h k x ht).mono fun e w' ⟨he, t⟩ => ⟨_, he, RT.nil _ _, (Mc.refl h).keep0 t⟩
end Go.Proofs.YtpefbmheblfbeaaGreat.Me
/- The contract of All: all entries, the one that was used the longest time ago first; no conditions. -/
namespace Go.Proofs.YtpefbmheblfbeaaGreat.Me
open Go.RowKit Go.Sort Go.Maps Go.ChangeMaps Go.WideMaps Go.Shelf
set_option maxRecDepth 100000
set_option linter.unusedVariables false
set_option linter.unusedSimpArgs false
attribute [local go_sem] Oper.semAt_some
def nl (x : En) : List Value := [.int .u16 x.1.1, .string x.1.2, .int .i64 x.2.1.1, .int .i64 x.2.1.2.1, .int .i64 x.2.1.2.2.1, .int .i64 x.2.1.2.2.2, .int .i64 x.2.2]
def cellsN (xs : List En) : List Value := xs.flatMap nl
theorem cellsN_app (xs ys : List En) : cellsN (xs ++ ys) = cellsN xs ++ cellsN ys := by unfold cellsN; simp
theorem cellsN_one (x : En) : cellsN [x] = nl x := by simp [cellsN]
theorem cellsN_at : ∀ (xs : List En) (i j : Nat) (h : i < xs.length), j < 7 → (cellsN xs)[i * 7 + j]? = (nl xs[i])[j]?
  | x :: xs, 0, j, h, hj => by
    unfold cellsN
    rw [List.flatMap_cons, Nat.zero_mul, Nat.zero_add, List.getElem?_append_left (by simp [nl]; omega)]
    rfl
  | x :: xs, i + 1, j, h, hj => by
    have ih := cellsN_at xs i j (by simpa using h) hj
    unfold cellsN at ih ⊢
    rw [List.flatMap_cons, List.getElem?_append_right (by simp [nl]; omega)]
    have e : (i + 1) * 7 + j - (nl x).length = i * 7 + j := by simp [nl]; omega
    rw [e, ih]
    simp
def AlI (w : World) (p1 p3 m : Nat) (xs : List En) (X : List Nat) (pre : List K) (W : World) : Prop :=
  (∃ v, W.heap[p3]? = some (.cells #[v] 24 (0, 0)) ∧ W.ownsRow w.heap.size 60 7 v pre.length (cellsN (xs.take pre.length)) ∧ ∀ b, v.ownBlock = some b → ¬ b ∈ X) ∧ W.heap[p1]? = some (.cells #[PT m] 28 (0, 0)) ∧ (¬ p1 ∈ X ∧ ¬ p3 ∈ X ∧ w.heap.size ≤ p3) ∧ (∀ k ∈ X, w.heap.size ≤ k) ∧ Touch [] w W
theorem AlI.step {w : World} {p1 p3 m : Nat} {xs : List En} {X : List Nat} {pre : List K} {W W' : World} (h : AlI w p1 p3 m xs X pre W) (ht : Touch X W W') : AlI w p1 p3 m xs X pre W' := by
  obtain ⟨⟨v, h1, h2, h3⟩, h4, h5, h6, h7⟩ := h
  exact ⟨⟨v, ht.keep h1 h5.2.1, own_touch h2 ht h3, h3⟩, ht.keep h4 h5.1, h5, h6, h7.trans ht (fun i hi => Or.inr (h6 i hi))⟩
theorem AlI.push {w : World} {p1 p3 m : Nat} {xs : List En} {X : List Nat} {pre : List K} {W W8 w7 : World} {v v' : Value} {x : En} (h : AlI w p1 p3 m xs X pre W) (hX : ∀ k ∈ X, k < W.heap.size) (t8 : Touch [] W W8) (hv : W.heap[p3]? = some (.cells #[v] 24 (0, 0)))
    (ho : w7.ownsRow w.heap.size 60 7 v' (pre.length + 1) (cellsN (xs.take pre.length) ++ nl x)) (hg : W8.grownBy w7 v.ownBlock) (hat : v'.ownBlock = v.ownBlock ∨ v'.ownBlock = some W8.heap.size) (hx : xs[pre.length]? = some x) (k : K) :
    w7.heap[p3]? = some (.cells #[v] 24 (0, 0)) ∧ (∀ q ∈ X, (w7.setCell ⟨p3, 0, none⟩ v').heap[q]? = W.heap[q]?) ∧ AlI w p1 p3 m xs X (pre ++ [k]) (w7.setCell ⟨p3, 0, none⟩ v') := by
  obtain ⟨⟨v0, h1, h2, h3⟩, h4, h5, h6, h7⟩ := h
  have ev : v0 = v := by
    rw [h1] at hv
    simpa using hv
  subst ev
  have nb : ∀ b, v0.ownBlock = some b → b ≠ p3 ∧ b ≠ p1 := fun b hb => by
    obtain ⟨cs, hcs⟩ : ∃ cs, W.heap[b]? = some (.cells cs 60 (0, 0)) := by
      obtain ⟨q1, q2 | ⟨g, cap, cur, rfl, hg, hc, hn, r⟩⟩ := h2
      · rw [q2.1] at hb; cases hb
      · simp only [Value.ownBlock, Option.some.injEq] at hb
        subst hb
        exact ⟨cur, hc⟩
    refine ⟨fun e => ?_, fun e => ?_⟩
    · rw [e, h1] at hcs; simp at hcs
    · rw [e, h4] at hcs; simp at hcs
  have t7 : Touch v0.ownBlock.toList W w7 := (t8.mono (fun _ e => by cases e)).grown hg (fun k hk => Or.inl (by simp [hk]))
  have k3 : w7.heap[p3]? = some (.cells #[v0] 24 (0, 0)) := t7.keep h1 (fun hh => (nb p3 (by simpa using hh)).1 rfl)
  have ts : Touch [p3] w7 (w7.setCell ⟨p3, 0, none⟩ v') := (Touch.refl _ _).setCell (Or.inl (by simp)) _
  have hp3W : p3 < W.heap.size := block_lt h1
  have nv : ∀ b, v'.ownBlock = some b → b ≠ p3 ∧ ¬ b ∈ X := fun b hb => by
    rcases hat with e | e
    · rw [e] at hb
      exact ⟨(nb b hb).1, h3 b hb⟩
    · rw [e] at hb
      simp only [Option.some.injEq] at hb
      have := t8.size
      exact ⟨by omega, fun hh => by have := hX b hh; omega⟩
  refine ⟨k3, fun q hq => ?_, ⟨v', ?_, ?_, fun b hb => (nv b hb).2⟩, ?_, h5, h6, ?_⟩
  · have : q ≠ p3 := fun e => h5.2.1 (e ▸ hq)
    rw [Below.heap_setCell _ _ _ _ this]
    exact t7.block q (hX q hq) (fun hh => h3 q (by simpa using hh) hq)
  · have := bset (i := 0) k3 v'
    simpa using this
  · have e1 : xs.take (pre ++ [k]).length = xs.take pre.length ++ [x] := by
      rw [List.length_append, List.length_singleton, List.take_add_one, hx]
      rfl
    rw [e1, cellsN_app, cellsN_one, List.length_append]
    exact own_touch ho ts (fun b hb hh => (nv b hb).1 (by simpa using hh))
  · exact (Below.heap_setCell _ _ _ _ (fun e => by
      rw [e] at h4
      rw [h1] at h4
      simp at h4)).trans (t7.keep h4 (fun hh => (nb p1 (by simpa using hh)).2 rfl))
  · exact (h7.trans t7 (fun i hi => Or.inr (h2.lt i (by simpa using hi)).1)).trans ts (fun i hi => by simp only [List.mem_singleton] at hi; subst hi; exact Or.inr h5.2.2)
theorem wpListIn_append_lies {F : Fence} {n : Nat} {P : Program} (w : World) {ops : Array Oper} {rest : List Oper} {o : Oper} {a : Act} {Q : Exit → Act → World → Prop} (hgd : o.guard = none) (s x : Operand) (t : TypeId)
    (ho : o.op = Op.call { callee := Callee.builtin Builtin.append, args := #[s, x], argTypes := #[t, t] })
    (base : Nat) (e : TypeId) (i : TypeInfo) (z : Value) (size bytes : Nat) (ht : P.underlying t = some (.slice e)) (hi : P.info? e = some i) (hz : i.zero = some z)
    (hsize : i.size = size) (hby : i.bytes = bytes) (hzs : z.cells.size = size) (hsz : 0 < size)
    (v : Value) (k : Nat) (xs : List Value) (hs : a.eval s = v) (hown : w.ownsRow base e size v k xs)
    (ad : Addr) (m c : Nat) (news : List Value) (hx : a.eval x = .slice (some ad) m c) (hl : news.length = m * size) (hnews : ∀ j u, news[j]? = some u → w.cell? (ad.add j) = some u) (h1 : ∀ u ∈ news, u.oneCell' = true)
    (hm : 0 < m) (h63 : k + m ≤ maxLen) (hbytes : (k + m) * bytes ≤ 140737488355328) (hbase : base ≤ w.heap.size)
    (h : ∀ g cap w', w'.ownsRow base e size (.slice (some ⟨g, 0, none⟩) (k + m) cap) (k + m) (xs ++ news) → w.grownBy w' v.ownBlock → (v.ownBlock = some g ∨ g = w.heap.size) → g < w'.heap.size → wpListIn F n P ops Q rest (a.put o.dst (.slice (some ⟨g, 0, none⟩) (k + m) cap)) w') : wpListIn F n P ops Q (o :: rest) a w := by
  refine wpListIn_plain hgd fun K hK' => ?_
  obtain ⟨g, cap, w', hrun, r1, r2, r3, r4⟩ := run_append_lies (P := P) w t o.type base e i z size bytes ht hi hz hsize hby hzs hsz v k xs hown ad m c news hl hnews h1 hm h63 hbytes hbase _ rfl
  unfold Oper.wpIn
  refine ⟨?_, ?_⟩
  · simp [Oper.about, ho, resolve, Target.leads, Sem.run_pure]
  · rw [Oper.semAt_plain F _ _ (by rw [ho]; intro c hc'; cases hc')]
    simp [execOp, ho, resolve, invoke, builtin, hs, hx, hrun, Result.andThen]
    exact hK' _ _ (h g cap w' r1 r2 r3 r4)
end Go.Proofs.YtpefbmheblfbeaaGreat.Me
/- The walk of All; no conditions. -/
namespace Go.Proofs.YtpefbmheblfbeaaGreat.Me
open Go.RowKit Go.Sort Go.Maps Go.ChangeMaps Go.WideMaps Go.Shelf
set_option maxRecDepth 100000
set_option linter.unusedVariables false
set_option linter.unusedSimpArgs false
attribute [local go_sem] Oper.semAt_some
theorem info56 : (Tryz.prog.info? 60).map (fun i => (i.zero, i.size, i.bytes)) = some (some (.agg #[.int .u16 0, .string ⟨#[]⟩, .int .i64 0, .int .i64 0, .int .i64 0, .int .i64 0, .int .i64 0]), 7, 64) := by kernel_rfl
theorem cell_seven_new (w : World) (a b c d e f g : Value) (t : TypeId) : ∀ j u, [a, b, c, d, e, f, g][j]? = some u → (w.alloc (.cells #[a, b, c, d, e, f, g] t)).cell? ((⟨w.heap.size, 0, none⟩ : Addr).add j) = some u := by
  intro j u hj
  have h7 : j < 7 := by
    rcases Nat.lt_or_ge j 7 with h | h
    · exact h
    · rw [List.getElem?_eq_none (by simpa using h)] at hj; cases hj
  match j, h7, hj with
  | 0, _, hj => simp at hj; subst hj; simp [Addr.add]
  | 1, _, hj => simp at hj; subst hj; simp [Addr.add]
  | 2, _, hj => simp at hj; subst hj; simp [Addr.add]
  | 3, _, hj => simp at hj; subst hj; simp [Addr.add]
  | 4, _, hj => simp at hj; subst hj; simp [Addr.add]
  | 5, _, hj => simp at hj; subst hj; simp [Addr.add]
  | 6, _, hj => simp at hj; subst hj; simp [Addr.add]
def AlQ (w : World) (xs : List En) (v : Value) (w' : World) : Prop := w'.ownsRow w.heap.size 60 7 v xs.length (cellsN xs) ∧ Touch [] w w'
set_option maxRecDepth 100000 in
set_option maxHeartbeats 4000000 in
theorem allM (w : World) (m : Nat) (F : List Nat) (c : Cf) (now : Int) (xs : List En) (h : Mq w m F c now xs) : Calls Tryz.prog 38 #[PT m] w fun e w' => ∃ v, e = .returned v ∧ AlQ w xs v w' := by
  refine (callsIn_wide (n := 0)).1 ?_
  obtain ⟨i3, hi, hz0, hz1, hz2⟩ := info_parts info56
  have hF := h.lt
  have hmF := h.mem
  have HM := hid h
  obtain ⟨b, o, G, rfl, hb⟩ := h
  have hlen := hb.len
  have c9 : Hid (∀ w', Touch [] w w' → w'.cell? ⟨m, 9, none⟩ = some (.pointer (some ⟨o, 0, none⟩))) := hid (fun w' t => (hb.keep0 t).md.cs.c9)
  have HO : Hid (∀ w', Touch [] w w' → Oq w' o G c.e (keysL xs)) := hid (fun w' t => (hb.keep0 t).oq)
  have HLn : Hid (∀ w', Touch [] w w' → Calls Tryz.prog 54 #[PT m] w' fun e w'' => e = .returned (.int .i64 (xs.length : Int)) ∧ w'' = w') := hid (fun w' t => len19 w' m b o G c now xs (hb.keep0 t))
  have TB : Touch [] w (w.alloc (.cells #[PT m] 28)) := (Touch.refl _ _).alloc _
  have hB0 := heap_alloc_new w (.cells #[PT m] 28)
  clear hb
  refine callsIn_of_wp_marks Tryz.func38 rfl trivial (wpIn_wide.2 ?_) rfl
  simp only [Tryz.ntmps38, List.size_toArray, List.length_cons, List.length_nil, Nat.reduceAdd, Nat.reduceSub, Array.replicate_succ, Array.replicate_zero, List.push_toArray, List.append_toArray, List.nil_append, List.cons_append]
  have HA := fun w => all13 w o
  unfold PT at HA HLn
  unfold PT at TB hB0 ⊢
  have HT1 := hid TB
  have zl : (xs.length : Int) ≤ 65536 := by omega
  clear TB
  go_upto_region 4 with (first
    | (go_at_call 54; refine (HLn.out _ HT1.out).mono ?_; rintro e w1 ⟨rfl, e1⟩; rw [e1]; clear e1 w1)
    | (at_make; refine wpList_make_own _ rfl _ _ 24 rfl w.heap.size 60 i3 (.agg #[.int .u16 0, .string ⟨#[]⟩, .int .i64 0, .int .i64 0, .int .i64 0, .int .i64 0, .int .i64 0]) 7 Tryz.underlying24 hi hz0 hz1 .i64 .i64 _ xs.length rfl rfl rfl (by rw [hz2]; omega) (by unfold maxLen; omega) (by simp) ?_; intro w3 o3 g3; have O3 := hid o3; have G3 := hid g3; clear o3 g3))
  have O3 : Hid (w3.ownsRow w.heap.size 60 7 (.slice (some ⟨w.heap.size + 1, 0, none⟩) 0 xs.length) 0 []) := hid (by have := O3.out; rw [World.size_alloc] at this; exact this)
  have T3 : Touch [] w w3 := HT1.out.grown G3.out (fun k hk => by cases hk)
  have c9' := c9.out _ (T3.alloc (.cells #[.slice (some ⟨w.heap.size + 1, 0, none⟩) 0 xs.length] 24))
  have hp1 : w3.heap[w.heap.size]? = some (.cells #[.pointer (some ⟨m, 0, none⟩)] 28 (0, 0)) := (Touch.grown (Touch.refl [] _) G3.out (fun k hk => by cases hk)).keep hB0 (by simp)
  have hp1' : (w3.alloc (.cells #[.slice (some ⟨w.heap.size + 1, 0, none⟩) 0 xs.length] 24)).cell? ⟨w.heap.size, 0, none⟩ = some (.pointer (some ⟨m, 0, none⟩)) := by
    have := ((Touch.refl [] w3).alloc (.cells #[.slice (some ⟨w.heap.size + 1, 0, none⟩) 0 xs.length] 24)).keep hp1 (by simp)
    simp [World.cell?, this]
  go_wp2_with (go_at_call 89; refine (HA _).mono ?_; rintro e w5 ⟨rfl, rfl⟩)
  obtain ⟨W0, hW0⟩ : ∃ W0, (w3.alloc (.cells #[.slice (some ⟨w.heap.size + 1, 0, none⟩) 0 xs.length] 24)).alloc (.cells #[.pointer (some ⟨o, 0, none⟩)] 142) = W0 := ⟨_, rfl⟩
  rw [hW0]
  have T0 : Touch [] w3 W0 := by rw [← hW0]; exact ((Touch.refl _ _).alloc _).alloc _
  have z0 : W0.heap.size = w3.heap.size + 2 := by rw [← hW0]; simp
  have hz3 : w.heap.size < w3.heap.size := block_lt hp1
  have k3 : W0.heap[w3.heap.size]? = some (.cells #[.slice (some ⟨w.heap.size + 1, 0, none⟩) 0 xs.length] 24 (0, 0)) := by rw [← hW0]; exact (Below.heap_alloc _ _ _ (by simp)).trans (heap_alloc_new _ _)
  have k4 : W0.heap[w3.heap.size + 1]? = some (.cells #[.pointer (some ⟨o, 0, none⟩)] 142 (0, 0)) := by
    rw [← hW0]
    have := heap_alloc_new (w3.alloc (.cells #[.slice (some ⟨w.heap.size + 1, 0, none⟩) 0 xs.length] 24)) (.cells #[.pointer (some ⟨o, 0, none⟩)] 142)
    rwa [World.size_alloc] at this
  have k1 := T0.keep hp1 (by simp)
  have TW := hid (T3.trans' T0)
  have O0 : W0.ownsRow w.heap.size 60 7 (.slice (some ⟨w.heap.size + 1, 0, none⟩) 0 xs.length) 0 [] := own_touch O3.out T0 (fun _ _ e => by cases e)
  have hB0' : ∀ b, ((.slice (some ⟨w.heap.size + 1, 0, none⟩) 0 xs.length) : Value).ownBlock = some b → b < w3.heap.size := fun b hb => (O3.out.lt b hb).2
  clear hW0 HA c9' hp1' hB0 HT1 O3 G3
  refine (wpIn_wide (n := 0)).1 ?_
  refine range_at (s := 4) (p := 17) (w3.heap.size + 1) o G c.e (keysL xs) rfl rfl (by simp [World.cell?, k4, PT]) (block_lt k4) (HO.out _ TW.out) (by rw [keysL_len]; omega) (AlI w w.heap.size w3.heap.size m xs) (fun _ _ => False) ?_ (fun X pre W W' hi ht => hi.step ht) (fun _ _ _ h _ => h) ?_ ?_ ?_ ?_
  · intro X W t hX
    have hX' : ∀ k ∈ X, w3.heap.size + 2 ≤ k := fun k hk => by have := hX k hk; omega
    refine ⟨⟨_, t.keep k3 (by simp), ?_, fun b hb hh => ?_⟩, t.keep k1 (by simp), ⟨fun hh => by have := hX' _ hh; omega, fun hh => by have := hX' _ hh; omega, by omega⟩, fun k hk => by have := hX' k hk; omega, TW.out.trans' t⟩
    · exact own_touch O0 t (fun _ _ e => by cases e)
    · have := hB0' b hb
      have := hX' b hh
      omega
  · intro l x W K hK
    unfold ax kv at hK
    unfold kv
    gi_wp2
    exact hK
  · rintro l X pre x b W hi' hb hX ⟨post, hpost⟩
    have hbx : W.heap[b]? = some (.cells #[.int .u16 x.1, .string x.2] 54 (0, 0)) := hb
    have b0 : W.cell? ⟨b, 0, none⟩ = some (.int .u16 x.1) := by simp [World.cell?, hbx]
    have b1 : W.cell? ⟨b, 1, none⟩ = some (.string x.2) := by simp [World.cell?, hbx]
    have hbs := block_lt hb
    have hXW : ∀ k ∈ X, k < W.heap.size := fun k hk => by have := hX k hk; omega
    have hM := HM.out.keep0 hi'.2.2.2.2
    obtain ⟨v, hgv, hfv⟩ : ∃ v, xs[pre.length]? = some (x, v) ∧ fnd xs x = some v := by
      have h1 : (keysL xs)[pre.length]? = some x := by rw [hpost]; simp
      unfold keysL at h1
      rw [List.getElem?_map] at h1
      cases hy : xs[pre.length]? with
      | none => rw [hy] at h1; cases h1
      | some y =>
        rw [hy] at h1
        simp only [Option.map_some, Option.some.injEq] at h1
        obtain ⟨y1, y2⟩ := y
        simp only at h1
        subst h1
        exact ⟨y2, rfl, fnd_of_mem (x := (y1, y2)) hM.nd (List.mem_of_getElem? hy)⟩
    have hok : Ok x := hM.ok x (by rw [hpost]; simp)
    have HG := hid (getM W m _ c now xs hM x hok)
    unfold getS at HG
    rw [hfv] at HG
    simp only at HG
    have hpl : pre.length ≤ 65536 := by
      have := congrArg List.length hpost
      rw [keysL_len, List.length_append] at this
      omega
    obtain ⟨⟨u, u1, u2, u3⟩, u4, u5, u6, u7⟩ := hi'
    have HI := hid (show AlI w w.heap.size w3.heap.size m xs X pre W from ⟨⟨u, u1, u2, u3⟩, u4, u5, u6, u7⟩)
    have p0 : W.cell? ⟨w.heap.size, 0, none⟩ = some (.pointer (some ⟨m, 0, none⟩)) := by unfold PT at u4; simp [World.cell?, u4]
    have HU := hid u2
    have hu1 := hid u1
    have hsz := u7.size
    have HXW := hid hXW
    have HGV := hid hgv
    clear hb hbx hM hfv hpost u2 u3 u4 u5 u6 u7 hX hXW hgv hok
    unfold PT kv nv at HG
    simp only at HG
    unfold ax kv
    simp only [List.setIfInBounds_toArray, List.set_cons_zero, List.set_cons_succ]
    gi_wp2
    refine ⟨trivial, rfl, ?_⟩
    refine (CallsIn.inRound l (callsIn_wide.2 HG.out)).mono ?_
    rintro e W' ⟨rfl, t'⟩
    have T' := hid t'
    obtain ⟨W6, hW6⟩ : ∃ W6, W6 = W'.alloc (.cells #[.int .u16 x.1, .string x.2, .int .i64 v.1.1, .int .i64 v.1.2.1, .int .i64 v.1.2.2.1, .int .i64 v.1.2.2.2, .int .i64 v.2] 60) := ⟨_, rfl⟩
    have T6 : Hid (Touch [] W W6) := hid (by rw [hW6]; exact t'.alloc _)
    have u6 := T6.out.keep hu1.out (by simp)
    have q3 : W6.cell? ⟨w3.heap.size, 0, none⟩ = some u := by simp [World.cell?, u6]
    have O6 := hid (own_touch HU.out T6.out (fun _ _ e => by cases e))
    have hsz6 := T6.out.size
    have e6 : W6.heap.size = W'.heap.size + 1 := by rw [hW6]; simp
    clear t' u6 HG
    have q4 : (W'.alloc (.cells #[.int .u16 x.1, .string x.2, .int .i64 v.1.1, .int .i64 v.1.2.1, .int .i64 v.1.2.2.1, .int .i64 v.1.2.2.2, .int .i64 v.2] 60)).cell? ⟨w3.heap.size, 0, none⟩ = some u := by rw [← hW6]; exact q3
    have O7 : Hid ((W'.alloc (.cells #[.int .u16 x.1, .string x.2, .int .i64 v.1.1, .int .i64 v.1.2.1, .int .i64 v.1.2.2.1, .int .i64 v.1.2.2.2, .int .i64 v.2] 60)).ownsRow w.heap.size 60 7 u pre.length (cellsN (xs.take pre.length))) := hid (by rw [← hW6]; exact O6.out)
    have e7 : (W'.alloc (.cells #[.int .u16 x.1, .string x.2, .int .i64 v.1.1, .int .i64 v.1.2.1, .int .i64 v.1.2.2.1, .int .i64 v.1.2.2.2, .int .i64 v.2] 60)).heap.size = W'.heap.size + 1 := by simp
    gi_wp2_with (gi_at_builtin; refine Hid.out ?_)
    refine hid ?_
    refine wpListIn_append_lies _ rfl _ _ 24 rfl w.heap.size 60 i3 (.agg #[.int .u16 0, .string ⟨#[]⟩, .int .i64 0, .int .i64 0, .int .i64 0, .int .i64 0, .int .i64 0]) 7 64 Tryz.underlying24 hi hz0 hz1 hz2 rfl (by decide) u pre.length (cellsN (xs.take pre.length)) rfl (O7.out.alloc _) ⟨W'.heap.size + 1, 0, none⟩ 1 1 [.int .u16 x.1, .string x.2, .int .i64 v.1.1, .int .i64 v.1.2.1, .int .i64 v.1.2.2.1, .int .i64 v.1.2.2.2, .int .i64 v.2] rfl rfl (by have := cell_seven_new (W'.alloc (.cells #[.int .u16 x.1, .string x.2, .int .i64 v.1.1, .int .i64 v.1.2.1, .int .i64 v.1.2.2.1, .int .i64 v.1.2.2.2, .int .i64 v.2] 60)) (.int .u16 x.1) (.string x.2) (.int .i64 v.1.1) (.int .i64 v.1.2.1) (.int .i64 v.1.2.2.1) (.int .i64 v.1.2.2.2) (.int .i64 v.2) 60; rw [e7] at this; exact this) (by simp [Value.oneCell']) (by decide) (by unfold maxLen; omega) (by omega) (by simp; omega) ?_
    intro g1 c1 w7 hown7 hgrow hat hlt7
    have HO7 := hid hown7
    have HG7 := hid hgrow
    have HAT := hid hat
    clear hown7 hgrow hat
    obtain ⟨k7, m7, n7⟩ := HI.out.push (x := (x, v)) (v' := .slice (some ⟨g1, 0, none⟩) (pre.length + 1) c1) HXW.out (T'.out.alloc _ |>.alloc _) hu1.out HO7.out HG7.out (HAT.out.elim (fun e => Or.inl (by rw [e]; rfl)) (fun e => Or.inr (by rw [← e]; rfl))) HGV.out x
    have s0 : w7.cell? ⟨w3.heap.size, 0, none⟩ = some u := by simp [World.cell?, k7]
    have s1 : w7.frozen? ⟨w3.heap.size, 0, none⟩ = false := by simp [World.frozen?, k7]
    have M7 := hid m7
    have N7 := hid n7
    clear m7 n7 k7 q3 q4 b0 b1 p0
    gi_wp2
    exact ⟨M7.out, N7.out⟩
  · rintro X D W hD hDX hi' hK
    obtain ⟨⟨u, u1, u2, u3⟩, u4, u5, u6, u7⟩ := hi'
    have q0 : W.cell? ⟨w3.heap.size, 0, none⟩ = some u := by simp [World.cell?, u1]
    have HE : Hid (AlI w w.heap.size w3.heap.size m xs X (keysL xs) W) := hid ⟨⟨u, u1, u2, u3⟩, u4, u5, u6, u7⟩
    have HU1 := hid u1
    unfold dfr
    clear u1 u2 u3 u4 u5 u6 u7
    have HKD := hid hK
    clear hK
    go_wp2
    refine ⟨by simp, .inl ⟨_, _, rfl, run_takeDeferred HKD.out, ?_⟩⟩
    refine ⟨u, by simp [results, Tryz.results38, go_sem], u, rfl, ?_⟩
    obtain ⟨⟨u', u1, u2, u3⟩, u4, u5, u6, u7⟩ := HE.out.step (touch_putObj W (l := D) (.deferred none) hDX)
    have : u' = u := by
      have h1 := (touch_putObj W (l := D) (.deferred none) hDX).keep HU1.out HE.out.2.2.1.2.1
      rw [h1] at u1
      simpa using u1.symm
    subst this
    refine ⟨?_, u7⟩
    rw [keysL_len, List.take_length] at u2
    exact u2
  · intro X D W _ _ h
    exact h.elim
end Go.Proofs.YtpefbmheblfbeaaGreat.Me
/- The bytes of a memo, plain; and the contracts of the program's telling of numbers, keys, outcomes, entries and configurations into a builder; the conditions are those that each states. -/
namespace Go.Proofs.YtpefbmheblfbeaaGreat.Sn
open Go.RowKit Go.Sort Go.Shelf Me
set_option linter.unusedVariables false
def keyB (k : K) : List UInt8 := (hd3 k.1 k.2 ++ k.2).data.toList
def nB (n : Int) : List UInt8 := numL n.toNat
def sgB (n : Int) : List UInt8 := nB (sgn n)
def outB (o : O) : List UInt8 := if o.2.1 = 0 then [0] ++ sgB o.1 else [UInt8.ofNat o.2.1.toNat] ++ (sgB o.2.2.1 ++ nB o.2.2.2)
def entB (x : En) : List UInt8 := keyB x.1 ++ (nB x.2.2 ++ outB x.2.1)
def cfgB (c : Cf) : List UInt8 := nB c.t ++ (nB c.n ++ (nB c.s ++ (nB c.e ++ (nB c.f ++ (nB c.b ++ nB c.d)))))
def entsB (xs : List En) : List UInt8 := nB xs.length ++ xs.flatMap entB
def keysB (ks : List K) : List UInt8 := nB ks.length ++ ks.flatMap keyB
def mk1 : List UInt8 := [99, 111, 110, 118, 111, 121, 48, 49]
def bodyB (c : Cf) (now : Int) (xs : List En) : List UInt8 := mk1 ++ (cfgB c ++ (nB now ++ entsB xs))
def sealB (l : List UInt8) : List UInt8 := l ++ by8 (sumL l)
def tellB (c : Cf) (now : Int) (xs : List En) : List UInt8 := sealB (bodyB c now xs)
theorem nB_len {n : Int} (h : n < 18446744073709551616) : (nB n).length ≤ 10 := numL_10 (by omega)
theorem sgn_b {n : Int} (h0 : -9223372036854775808 ≤ n) (h1 : n ≤ 9223372036854775807) : 0 ≤ sgn n ∧ sgn n < 18446744073709551616 := by unfold sgn; split <;> omega
theorem keyB_len (k : K) : (keyB k).length = 3 + k.2.size := by
  unfold keyB
  rw [data_app, List.length_append, Array.length_toList, Array.length_toList]; rfl
structure EnOk (x : En) : Prop where
  s0 : 0 ≤ x.1.1
  s1 : x.1.1 ≤ 65535
  nm : x.1.2.size ≤ 64
  t0 : 0 ≤ x.2.2
  t1 : x.2.2 ≤ 9223372036854775807
  v : -9223372036854775808 ≤ x.2.1.1 ∧ x.2.1.1 ≤ 9223372036854775807
  c : -9223372036854775808 ≤ x.2.1.2.2.1 ∧ x.2.1.2.2.1 ≤ 9223372036854775807
  k : 0 ≤ x.2.1.2.1 ∧ x.2.1.2.1 ≤ 2
  r : 0 ≤ x.2.1.2.2.2 ∧ x.2.1.2.2.2 ≤ 9223372036854775807
theorem outB_len {x : En} (h : EnOk x) : (outB x.2.1).length ≤ 21 := by
  obtain ⟨v0, v1⟩ := sgn_b h.v.1 h.v.2
  obtain ⟨c0, c1⟩ := sgn_b h.c.1 h.c.2
  have a1 := nB_len v1
  have a2 := nB_len c1
  have a3 := nB_len (n := x.2.1.2.2.2) (by have := h.r.2; omega)
  unfold outB sgB
  split
  · rw [List.length_append]; simp; omega
  · rw [List.length_append, List.length_append]; simp; omega
theorem entB_len {x : En} (h : EnOk x) : (entB x).length ≤ 98 := by
  have a1 := outB_len h
  have a2 := nB_len (n := x.2.2) (by have := h.t1; omega)
  unfold entB
  rw [List.length_append, List.length_append, keyB_len]
  have := h.nm
  omega
theorem flat_le {xs : List En} (h : ∀ x ∈ xs, EnOk x) : (xs.flatMap entB).length ≤ 98 * xs.length := by
  induction xs with
  | nil => simp
  | cons a r ih =>
    rw [List.flatMap_cons, List.length_append, List.length_cons]
    have := ih (fun x hx => h x (List.mem_cons_of_mem _ hx))
    have := entB_len (h a List.mem_cons_self)
    omega
section
variable {B b : Nat} {l : List UInt8} {w : World}
theorem tellNumber_ (h : Bd B b l w) (n : Int) (h0 : 0 ≤ n) (h1 : n ≤ 9223372036854775807) (hl : l.length ≤ 70368744177664) : Calls Tryz.prog 36 #[PT b, .int .i64 n] w fun e w' => e = .returned (.tuple #[]) ∧ Bd B b (l ++ nB n) w' ∧ Wr B b w w' := by
  obtain ⟨m, rfl⟩ : ∃ m : Nat, n = (m : Int) := ⟨n.toNat, by omega⟩
  have HN := hid (number_ w m (by omega))
  have HW : Hid (∀ w1, Touch [] w w1 → Calls Tryz.prog 33 #[PT b, .string ⟨(numL m).toArray⟩] w1 fun e w' => e = .returned (.tuple #[.int .i64 (numL m).toArray.size, .nilIface]) ∧ Bd B b (l ++ nB m) w' ∧ Wr B b w w') := hid (fun w1 t1 => by
    refine (write_ (h.touch t1) ⟨(numL m).toArray⟩ (by have := numL_10 (x := m) (by omega); show l.length + (numL m).toArray.size ≤ _; rw [List.size_toArray]; omega)).mono ?_
    rintro e w' ⟨he, h2, h3⟩
    exact ⟨he, h2, ⟨(t1.below (fun _ e => by cases e) h.2.1).trans h3.below, fun k o hk hb ho => h3.keep k o (t1.keep hk (by simp)) hb ho⟩⟩)
  have hw : IntKind.u64.wrap (m : Int) = (m : Int) := by rw [IntKind.wrap_u64]; omega
  generalize (⟨(numL m).toArray⟩ : ByteArray) = bb at *
  unfold PT at *
  clear h h0 h1 hl
  go_enter Tryz.func36, Tryz.ntmps36
  go_wp2_with (first
    | (go_at_call 29; refine HN.out.mono ?_; rintro e w1 ⟨rfl, T1⟩)
    | (go_at_call 33; refine (HW.out _ T1).mono ?_; rintro e w2 ⟨rfl, H2⟩))
  go_end0
  exact ⟨rfl, H2⟩
theorem tellSigned_ (h : Bd B b l w) (n : Int) (h0 : -9223372036854775808 ≤ n) (h1 : n ≤ 9223372036854775807) (hl : l.length ≤ 70368744177664) : Calls Tryz.prog 126 #[PT b, .int .i64 n] w fun e w' => e = .returned (.tuple #[]) ∧ Bd B b (l ++ sgB n) w' ∧ Wr B b w w' := by
  obtain ⟨s0, s1⟩ := sgn_b h0 h1
  have HS := hid (sign_ w n h0 h1)
  unfold sgB
  generalize sgn n = z at *
  obtain ⟨m, rfl⟩ : ∃ m : Nat, z = (m : Int) := ⟨z.toNat, by omega⟩
  have HN := hid (number_ w m (by omega))
  have HW : Hid (∀ w1, Touch [] w w1 → Calls Tryz.prog 33 #[PT b, .string ⟨(numL m).toArray⟩] w1 fun e w' => e = .returned (.tuple #[.int .i64 (numL m).toArray.size, .nilIface]) ∧ Bd B b (l ++ nB m) w' ∧ Wr B b w w') := hid (fun w1 t1 => by
    refine (write_ (h.touch t1) ⟨(numL m).toArray⟩ (by have := numL_10 (x := m) (by omega); show l.length + (numL m).toArray.size ≤ _; rw [List.size_toArray]; omega)).mono ?_
    rintro e w' ⟨he, h2, h3⟩
    exact ⟨he, h2, ⟨(t1.below (fun _ e => by cases e) h.2.1).trans h3.below, fun k o hk hb ho => h3.keep k o (t1.keep hk (by simp)) hb ho⟩⟩)
  generalize (⟨(numL m).toArray⟩ : ByteArray) = bb at *
  unfold PT at *
  clear h h0 h1 hl s0 s1
  go_enter Tryz.func126, Tryz.ntmps126
  go_wp2_with (first
    | (go_at_call 30; refine HS.out.mono ?_; rintro e w1 ⟨rfl, rfl⟩)
    | (go_at_call 29; refine HN.out.mono ?_; rintro e w1 ⟨rfl, T1⟩)
    | (go_at_call 33; refine (HW.out _ T1).mono ?_; rintro e w2 ⟨rfl, H2⟩))
  go_end0
  exact ⟨rfl, H2⟩
theorem tellKey_ (h : Bd B b l w) (k : K) (h0 : 0 ≤ k.1) (h1 : k.1 ≤ 65535) (hn : k.2.size ≤ 64) (hl : l.length ≤ 70368744177664) : Calls Tryz.prog 87 #[PT b, kv k] w fun e w' => e = .returned (.tuple #[]) ∧ Bd B b (l ++ keyB k) w' ∧ Wr B b w w' := by
  have HK := hid (fun w => bytes16_ok k.1 k.2 w h0 h1 hn)
  have HW : Hid (∀ w1, Touch [] w w1 → Calls Tryz.prog 33 #[PT b, .string (hd3 k.1 k.2 ++ k.2)] w1 fun e w' => e = .returned (.tuple #[.int .i64 (hd3 k.1 k.2 ++ k.2).size, .nilIface]) ∧ Bd B b (l ++ keyB k) w' ∧ Wr B b w w') := hid (fun w1 t1 => by
    refine (write_ (h.touch t1) (hd3 k.1 k.2 ++ k.2) (by rw [ByteArray.size_append, hd3_size]; omega)).mono ?_
    rintro e w' ⟨he, h2, h3⟩
    exact ⟨he, h2, ⟨(t1.below (fun _ e => by cases e) h.2.1).trans h3.below, fun k o hk hb ho => h3.keep k o (t1.keep hk (by simp)) hb ho⟩⟩)
  generalize hd3 k.1 k.2 ++ k.2 = bb at *
  unfold PT kv at *
  clear h h0 h1 hl hn
  go_enter Tryz.func87, Tryz.ntmps87
  go_wp2_with (first
    | (go_at_call 124; refine (HK.out _).mono ?_; rintro e w1 ⟨rfl, G1⟩; have T1 := ((Touch.refl [] w).alloc (.cells #[.int .u16 k.1, .string k.2] 54)).trans' (Touch.of_below G1.below))
    | (go_at_call 33; refine (HW.out _ T1).mono ?_; rintro e w2 ⟨rfl, H2⟩))
  go_end0
  exact ⟨rfl, H2⟩
end
end Go.Proofs.YtpefbmheblfbeaaGreat.Sn
