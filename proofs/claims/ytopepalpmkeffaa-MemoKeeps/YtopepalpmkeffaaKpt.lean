/- A memo beside the keys that were kept, and beside those that were seen old; what one act, and one look, leaves; no conditions but those that each states. -/
import Derived.Test.YtopepalpmkeffaaRcw
import Derived.Test.YtopepalpmkeffaaAlw
namespace Go.Proofs.Ytopepalpmkeffaa
open Go.RowKit Go.Sort Go.Maps Go.ChangeMaps Go.WideMaps
set_option linter.unusedVariables false
set_option linter.unusedSimpArgs false
theorem dr_perm {s : List K} {k : K} (hn : s.Nodup) : (dr s k ++ [k]).Perm (addK s k) := by
  by_cases h : k ∈ s
  · rw [addK_in h]
    obtain ⟨A, B, rfl⟩ := List.append_of_mem h
    rw [List.nodup_append, List.nodup_cons] at hn
    rw [dr_mid (fun x hx e => hn.2.2 x hx k (by simp) e) (fun x hx e => hn.2.1.1 (e ▸ hx))]
    rw [List.append_assoc]
    exact List.Perm.append_left A (List.perm_append_comm (l₁ := B) (l₂ := [k]))
  · rw [addK_out h, dr_no h]
/-- The keys that were kept, against those that are there. -/
structure Kv (e : Nat) (S : List K) (xs : List En) : Prop where
  nd : S.Nodup
  pm : S.length ≤ e → (keysL xs).Perm S
  k64 : ∀ k ∈ keysL xs, k.2.size ≤ 64
theorem Kv.put {e : Nat} {S : List K} {xs : List En} {k : K} {v : V} (h : Kv e S xs) (h64 : k.2.size ≤ 64) : Kv e (addK S k) (putL (e : Int) xs k v) := by
  refine ⟨addK_nd h.nd, fun hl => ?_, fun j hj => ?_⟩
  · have h1 : S.length ≤ e := Nat.le_trans (addK_pre S k).length_le hl
    have h2 := h.pm h1
    have h3 : (useY (keysL xs) k).Perm (addK S k) := by
      have : (dr (keysL xs) k ++ [k]).Perm (dr S k ++ [k]) := List.Perm.append_right [k] (List.Perm.filter _ h2)
      exact this.trans (dr_perm h.nd)
    have h4 := h3.length_eq
    have hb : useB (e : Int) (keysL xs) k = false := by
      unfold useB
      simp only [decide_eq_false_iff_not]
      omega
    rw [putL_keys]
    unfold useL
    rw [hb]
    exact h3
  · unfold keysL at hj
    obtain ⟨x, hx, rfl⟩ := List.mem_map.1 hj
    rcases mem_putL hx with e | e
    · exact h.k64 _ (List.mem_map_of_mem e)
    · rw [e]; exact h64
/-- The memo with its blocks, the configuration's box, the two maps' places. -/
structure Ks (w : World) (m : Nat) (c : Cf) (tm : Int) (xs : List En) (q : Nat) (S : List K) (wr : World) : Prop where
  mq : ∃ F, Mq wr m F c tm xs ∧ (∀ k ∈ F, w.heap.size ≤ k) ∧ ¬ q ∈ F
  cb : wr.heap[w.heap.size]? = some (cbx c 23)
  mp : MapAt wr q S.length (sf S)
  q0 : w.heap.size ≤ q
  t : Touch [] w wr
section
variable {w wr wr' : World} {m q e : Nat} {c : Cf} {tm : Int} {xs ys : List En} {S : List K}
theorem Ks.keep (h : Ks w m c tm xs q S wr) (t : Touch [] wr wr') : Ks w m c tm xs q S wr' := by
  obtain ⟨⟨F, f1, f2, f3⟩, cb, mp, q0, t0⟩ := h
  exact ⟨⟨F, f1.keep0 t, f2, f3⟩, t.keep cb (by simp), mp.kept (t.block q mp.lt (by simp)), q0, t0.trans' t⟩
theorem Ks.step {tm' : Int} {F : List Nat} (h : Ks w m c tm xs q S wr) (hm : Mq wr m F c tm xs) (h2 : ∀ k ∈ F, w.heap.size ≤ k) (h3 : ¬ q ∈ F) (hc : Mc wr m F c tm' ys wr') : Ks w m c tm' ys q S wr' ∧ Touch F wr wr' := by
  obtain ⟨F', c1, c2, c3⟩ := hc
  exact ⟨⟨⟨F', c1, fun k hk => (c3 k hk).elim (h2 k) (fun e => Nat.le_trans h.t.size e), fun hh => (c3 q hh).elim h3 (fun e => by have := h.mp.lt; omega)⟩, c2.keep h.cb (hm.away h.cb (by decide) (by decide) (by decide)), h.mp.kept (c2.block q h.mp.lt h3), h.q0, h.t.trans c2 (fun i hi => Or.inr (h2 i hi))⟩, c2⟩
theorem Ks.lenA (h : Ks w m c tm xs q S wr) : Calls Try.prog 19 #[PT m] wr fun x w5 => x = .returned (.int .i64 (xs.length : Int)) ∧ w5 = wr := by
  obtain ⟨F, h1, h2, h3⟩ := h.mq
  obtain ⟨b, o, G, rfl, h1⟩ := h1
  exact len19 wr m b o G c tm xs h1
theorem Ks.len (h : Ks w m c tm xs q S wr) (he : c.e = (e : Int)) : xs.length ≤ e := by
  obtain ⟨F, h1, h2, h3⟩ := h.mq
  have := h1.gd.ln
  omega
/-- What a Keep leaves: whether it was kept. -/
def KsQ (w : World) (m : Nat) (c : Cf) (e : Nat) (q : Nat) (S : List K) (k : K) (B : Bool) (w5 : World) : Prop := ∃ ys, Ks w m c 0 ys q S w5 ∧ Kv e (if B then addK S k else S) ys
theorem Ks.keepA (h : Ks w m c 0 xs q S wr) (hv : Kv e S xs) (he : c.e = (e : Int)) (k : K) (ok : Ok k) (o : O) {r : Nat} {ob : Obj} (hr : wr.heap[r]? = some ob) (hrt : ∃ cs, ob = .cells cs 45 (0, 0)) :
    Calls Try.prog 18 #[PT m, .int .i64 0, kv k, ov o] wr fun x w5 => ∃ B uu E, x = .returned (.tuple #[.bool B, uu, .int .i64 E]) ∧ KsQ w m c e q S k B w5 ∧ w5.heap[r]? = some ob := by
  obtain ⟨F, h1, h2, h3⟩ := h.mq
  obtain ⟨cs, rfl⟩ := hrt
  refine (keepM wr m F c 0 0 xs h1 k ok o).mono ?_
  rintro x w5 ⟨uu, rfl, _, hc⟩
  have hN : kpN 0 0 k o = 0 := by unfold kpN; split <;> rfl
  rw [hN] at hc
  obtain ⟨s1, s2⟩ := h.step h1 h2 h3 hc
  refine ⟨_, _, _, rfl, ⟨_, s1, ?_⟩, s2.keep hr (h1.away hr (by decide) (by decide) (by decide))⟩
  unfold kpX
  cases hB : kpB c 0 0 k o with
  | false =>
    simp only [Bool.false_eq_true, if_false]
    exact hv
  | true =>
    simp only [if_true]
    have h0 : pairE k o = 0 := by
      unfold kpB keepE at hB
      rw [if_pos tick00] at hB
      simp only [Bool.and_eq_true, decide_eq_true_eq] at hB
      exact hB.1
    rw [he]
    exact hv.put (pairE_ok h0).1
/-- A key is put into the map of those that were kept. -/
theorem Ks.add (h : Ks w m c tm xs q S wr) (hm : S.length < maxLen) {k : K} (ok : Ok k) {t : TypeId} {e' : TypeId} (ht : Try.prog.underlying t = some (.map 39 e')) :
    ∃ ob, (Instr.mapUpdate t (.map (some q)) (kv k) (.bool true)).run Try.prog wr = .ok () (setBlock wr q ob) ∧ Ks w m c tm xs q (addK S k) (setBlock wr q ob) := by
  obtain ⟨⟨F, f1, f2, f3⟩, cb, mp, q0, t0⟩ := h
  obtain ⟨ob, hu, hm2⟩ := mp.set (t := t) ht hm ok (.bool true)
  have tb : Touch [q] wr (setBlock wr q ob) := touch_setBlock (Touch.refl _ _) (Or.inl (by simp)) _
  refine ⟨ob, hu, ⟨F, f1.keep tb (fun k hk hh => by simp only [List.mem_singleton] at hh; subst hh; exact f3 hk), f2, f3⟩, tb.keep cb (fun hh => by simp only [List.mem_singleton] at hh; exact mp.ne_block cb hh.symm), ?_, q0, t0.trans tb (fun i hi => by simp only [List.mem_singleton] at hi; subst hi; exact Or.inr q0)⟩
  rw [addK_length, ← upd_sf]
  exact hm2
end
/-- What is old stays old. -/
theorem how_old {c : Cf} {o : O} {a b : Int} (h : howC c o a = 3) (hb : a ≤ b) : howC c o b = 3 := by
  unfold howC at h ⊢
  split at h
  · rename_i h0
    rw [if_pos h0]
    split at h
    · cases h
    · split at h
      · cases h
      · rw [if_neg (by omega), if_neg (by omega)]
  · rename_i h0
    rw [if_neg h0]
    split at h
    · cases h
    · rw [if_neg (by omega)]
/-- The memo at a time T, the keys that were kept in the map at q, those that were seen old in the map at p. -/
structure Kl (w : World) (m : Nat) (c : Cf) (T : Int) (xs : List En) (q : Nat) (S : List K) (p N : Nat) (wr : World) : Prop where
  mq : ∃ tm F, tm ≤ T ∧ Mq wr m F c tm xs ∧ (∀ k ∈ F, w.heap.size ≤ k) ∧ ¬ q ∈ F ∧ ¬ p ∈ F
  cb : wr.heap[w.heap.size]? = some (cbx c 23)
  mp : MapAt wr q S.length (sf S)
  mo : ∃ n f, MapAt wr p n f ∧ n ≤ N ∧ (∀ k, f k = none ∨ ∃ b, f k = some (.bool b)) ∧ ∀ k v, fnd xs k = some v → f k = some (.bool true) → howC c v.1 (T - v.2) = 3
  q0 : w.heap.size ≤ q
  p0 : w.heap.size ≤ p
  pq : p ≠ q
  T0 : 0 ≤ T
  T1 : T ≤ MT
  k64 : ∀ k ∈ keysL xs, k.2.size ≤ 64
  t : Touch [] w wr
theorem zero4 (w : World) : (zeroValue 4).run Try.prog w = .ok (.bool false) w := by kernel_rfl
section
variable {w wr wr' : World} {m q p N : Nat} {c : Cf} {T : Int} {xs : List En} {S : List K}
theorem Kl.keep (h : Kl w m c T xs q S p N wr) (t : Touch [] wr wr') : Kl w m c T xs q S p N wr' := by
  obtain ⟨⟨tm, F, f0, f1, f2, f3, f4⟩, cb, mp, ⟨n, f, o1, o2⟩, q0, p0, pq, T0, T1, k64, t0⟩ := h
  exact ⟨⟨tm, F, f0, f1.keep0 t, f2, f3, f4⟩, t.keep cb (by simp), mp.kept (t.block q mp.lt (by simp)), ⟨n, f, o1.kept (t.block p o1.lt (by simp)), o2⟩, q0, p0, pq, T0, T1, k64, t0.trans' t⟩
theorem Kl.start {e : Nat} (h : Ks w m c 0 xs q S wr) (hv : Kv e S xs) : Kl w m c 0 xs q S wr.heap.size 0 (wr.alloc (.map #[] 0)) := by
  have t : Touch [] wr (wr.alloc (.map #[] 0)) := (Touch.refl _ _).alloc _
  have h' := h.keep t
  obtain ⟨F, f1, f2, f3⟩ := h.mq
  have hq := h.mp.lt
  exact ⟨⟨0, F, Int.le_refl _, f1.keep0 t, f2, f3, fun hh => by have := f1.lt _ hh; omega⟩, h'.cb, h'.mp, ⟨0, _, mapAt_made wr, Nat.le_refl _, fun k => Or.inl rfl, fun k v _ e => by cases e⟩, h.q0, h.t.size, by omega, Int.le_refl _, by unfold MT; decide, hv.k64, h'.t⟩
theorem Kl.later {T' : Int} (h : Kl w m c T xs q S p N wr) (h1 : T ≤ T') (h2 : T' ≤ MT) : Kl w m c T' xs q S p N wr := by
  obtain ⟨⟨tm, F, f0, f1, f2, f3, f4⟩, cb, mp, ⟨n, f, o1, o2, o3, o4⟩, q0, p0, pq, T0, T1, k64, t0⟩ := h
  exact ⟨⟨tm, F, by omega, f1, f2, f3, f4⟩, cb, mp, ⟨n, f, o1, o2, o3, fun k v h3 h4 => how_old (o4 k v h3 h4) (by omega)⟩, q0, p0, pq, by omega, h2, k64, t0⟩
theorem Kl.more {N' : Nat} (h : Kl w m c T xs q S p N wr) (hN : N ≤ N') : Kl w m c T xs q S p N' wr := by
  obtain ⟨f0, cb, mp, ⟨n, f, o1, o2, o3, o4⟩, q0, p0, pq, T0, T1, k64, t0⟩ := h
  exact ⟨f0, cb, mp, ⟨n, f, o1, by omega, o3, o4⟩, q0, p0, pq, T0, T1, k64, t0⟩
theorem Kl.all (h : Kl w m c T xs q S p N wr) : Calls Try.prog 20 #[PT m] wr fun e w' => ∃ v, e = .returned v ∧ AlQ wr xs v w' := by
  obtain ⟨tm, F, f0, f1, f2, f3, f4⟩ := h.mq
  exact allM wr m F c tm xs f1
theorem Kl.bound (h : Kl w m c T xs q S p N wr) : xs.length ≤ 65536 := by
  obtain ⟨tm, F, f0, f1, f2, f3, f4⟩ := h.mq
  exact f1.len
theorem Kl.ats (h : Kl w m c T xs q S p N wr) {x : En} (hx : x ∈ xs) : right x.2.1 = true ∧ 0 ≤ x.2.2 ∧ x.2.2 ≤ T ∧ Ok x.1 := by
  obtain ⟨tm, F, f0, f1, f2, f3, f4⟩ := h.mq
  obtain ⟨a1, a2, a3⟩ := f1.gd.ok x hx
  exact ⟨a1, a2, by omega, f1.ok _ (List.mem_map_of_mem hx)⟩
theorem Kl.cfg (h : Kl w m c T xs q S p N wr) : 0 ≤ c.t ∧ 0 ≤ c.n ∧ 0 ≤ c.s := by
  obtain ⟨tm, F, f0, f1, f2, f3, f4⟩ := h.mq
  exact okC_t f1.gd.oc
theorem Kl.look (h : Kl w m c T xs q S p N wr) {x : En} (hx : x ∈ xs) :
    Calls Try.prog 21 #[PT m, .int .i64 T, kv x.1] wr fun e w5 => e = .returned (.tuple #[sv (howC c x.2.1 (T - x.2.2)) (T - x.2.2) x.2.1, .int .i64 0]) ∧ Kl w m c T xs q S p N w5 ∧ ∀ (r : Nat) (cs : Array Value), wr.heap[r]? = some (.cells cs 56 (0, 0)) → w5.heap[r]? = some (.cells cs 56 (0, 0)) := by
  obtain ⟨⟨tm, F, f0, f1, f2, f3, f4⟩, cb, mp, ⟨n, f, o1, o2, o3, o4⟩, q0, p0, pq, T0, T1, k64, t0⟩ := h
  have hk : x.1 ∈ keysL xs := List.mem_map_of_mem hx
  have ht : tickE tm T = 0 := by
    unfold tickE
    rw [isT_yes T0 T1, if_pos rfl, if_neg (by omega)]
  have hE : askE tm T x.1 = 0 := by
    unfold askE
    rw [if_pos ht, if_neg (by have := k64 _ hk; omega)]
  refine (lookM wr m F c tm T xs f1 x.1 (f1.ok _ hk)).mono ?_
  rintro e w5 ⟨rfl, hc⟩
  have hR : askR c tm T xs x.1 = (howC c x.2.1 (T - x.2.2), T - x.2.2, x.2.1) := by
    unfold askR lookS
    rw [if_pos hE, fnd_of_mem f1.nd hx]
  have hN : askN tm T x.1 = T := by unfold askN; rw [if_pos hE]
  rw [hN] at hc
  rw [hR, hE]
  obtain ⟨F', c1, c2, c3⟩ := hc
  have hqs := mp.lt
  have hps := o1.lt
  refine ⟨rfl, ⟨⟨T, F', Int.le_refl _, c1, fun k hk => (c3 k hk).elim (f2 k) (fun e => Nat.le_trans t0.size e), fun hh => (c3 q hh).elim f3 (fun e => by omega), fun hh => (c3 p hh).elim f4 (fun e => by omega)⟩, c2.keep cb (f1.away cb (by decide) (by decide) (by decide)), mp.kept (c2.block q hqs f3), ⟨n, f, o1.kept (c2.block p hps f4), o2, o3, o4⟩, q0, p0, pq, T0, T1, k64, t0.trans c2 (fun i hi => Or.inr (f2 i hi))⟩, fun r cs hr => c2.keep hr (f1.away hr (by decide) (by decide) (by decide))⟩
theorem Kl.seen (h : Kl w m c T xs q S p N wr) {x : En} (hx : x ∈ xs) : ∃ g : Bool, (Instr.lookup 68 (.map (some p)) (kv x.1) false).run Try.prog wr = .ok (.bool g) wr ∧ (g = true → howC c x.2.1 (T - x.2.2) = 3) := by
  obtain ⟨⟨tm, F, f0, f1, f2, f3, f4⟩, cb, mp, ⟨n, f, o1, o2, o3, o4⟩, q0, p0, pq, T0, T1, k64, t0⟩ := h
  have hl := o1.look (t := 68) Try.underlying68 (zero4 wr) (f1.ok _ (List.mem_map_of_mem hx))
  rcases o3 x.1 with e | ⟨b, e⟩
  · rw [e] at hl
    exact ⟨false, hl, fun h => by cases h⟩
  · rw [e] at hl
    exact ⟨b, hl, fun h => o4 x.1 x.2 (fnd_of_mem f1.nd hx) (by rw [e, h])⟩
theorem Kl.set (h : Kl w m c T xs q S p N wr) (hN : N < maxLen) {x : En} (hx : x ∈ xs) (b : Bool) (hb : b = true → howC c x.2.1 (T - x.2.2) = 3) :
    ∃ ob, (Instr.mapUpdate 68 (.map (some p)) (kv x.1) (.bool b)).run Try.prog wr = .ok () (setBlock wr p ob) ∧ Kl w m c T xs q S p (N + 1) (setBlock wr p ob) ∧ ∀ (r : Nat) (cs : Array Value), wr.heap[r]? = some (.cells cs 56 (0, 0)) → (setBlock wr p ob).heap[r]? = some (.cells cs 56 (0, 0)) := by
  obtain ⟨⟨tm, F, f0, f1, f2, f3, f4⟩, cb, mp, ⟨n, f, o1, o2, o3, o4⟩, q0, p0, pq, T0, T1, k64, t0⟩ := h
  obtain ⟨ob, hu, hm2⟩ := o1.set (t := 68) Try.underlying68 (by omega) (f1.ok _ (List.mem_map_of_mem hx)) (.bool b)
  have tb : Touch [p] wr (setBlock wr p ob) := touch_setBlock (Touch.refl _ _) (Or.inl (by simp)) _
  refine ⟨ob, hu, ⟨⟨tm, F, f0, f1.keep tb (fun k hk hh => by simp only [List.mem_singleton] at hh; subst hh; exact f4 hk), f2, f3, f4⟩, tb.keep cb (fun hh => by simp only [List.mem_singleton] at hh; exact o1.ne_block cb hh.symm), mp.kept (tb.block q mp.lt (by simpa using pq.symm)), ⟨_, _, hm2, by split <;> omega, fun k => ?_, fun k v h1 h2 => ?_⟩, q0, p0, pq, T0, T1, k64, t0.trans tb (fun i hi => by simp only [List.mem_singleton] at hi; subst hi; exact Or.inr p0)⟩, fun r cs hr => tb.keep hr (fun hh => by simp only [List.mem_singleton] at hh; exact o1.ne_block hr hh.symm)⟩
  · unfold upd
    split
    · exact Or.inr ⟨b, rfl⟩
    · exact o3 k
  · unfold upd at h2
    split at h2
    · rename_i e
      subst e
      rw [fnd_of_mem f1.nd hx] at h1
      cases h1
      exact hb (by simpa using h2)
    · exact o4 k v h1 h2
theorem Kl.lenA (h : Kl w m c T xs q S p N wr) : Calls Try.prog 19 #[PT m] wr fun x w5 => x = .returned (.int .i64 (xs.length : Int)) ∧ w5 = wr := by
  obtain ⟨tm, F, f0, f1, f2, f3, f4⟩ := h.mq
  obtain ⟨b, o, G, rfl, h1⟩ := f1
  exact len19 wr m b o G c tm xs h1
end
theorem own_keep56 {wr wr' : World} {base : Nat} {v : Value} {n : Nat} {xs : List Value} (h : wr.ownsRow base 56 7 v n xs) (hk : ∀ (r : Nat) (cs : Array Value), wr.heap[r]? = some (.cells cs 56 (0, 0)) → wr'.heap[r]? = some (.cells cs 56 (0, 0))) : wr'.ownsRow base 56 7 v n xs :=
  own_keep h (fun b hb => by
    obtain ⟨cs, hcs⟩ := own_kind h hb
    rw [hk b cs hcs, hcs])
end Go.Proofs.Ytopepalpmkeffaa
